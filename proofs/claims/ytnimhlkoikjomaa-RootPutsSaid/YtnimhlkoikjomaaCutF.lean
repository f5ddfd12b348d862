/- What wire.fill comes to, by bytes in memory. -/
import Derived.Test.YtnimhlkoikjomaaHid
import Derived.Test.YtnimhlkoikjomaaBAt
namespace Go.Proofs.Ytnimhlkoikjomaa
open Go.RowKit
set_option maxRecDepth 20000

/-- The ints zs lie in block b from off on. -/
def AtI (w : World) (b off : Nat) (zs : List Int) : Prop := ∀ i, i < zs.length → w.cell? ⟨b, off + i, none⟩ = some (.int .i64 (zs.getD i 0))
theorem AtI.below {w w' : World} {B b off : Nat} {zs : List Int} (h : AtI w b off zs) (hb : Below B w w') (hB : b < B) : AtI w' b off zs :=
  fun i hi => (hb.cell (p := ⟨b, off + i, none⟩) hB).trans (h i hi)

def fillL : List Int → Int → Bool
  | [], left => left == 0
  | s :: r, left => if s < 0 ∨ left < s then false else fillL r (left - s)

theorem fillL_drop (zs : List Int) (k : Nat) (left : Int) (hk : k < zs.length) : fillL (zs.drop k) left = if zs[k] < 0 ∨ left < zs[k] then false else fillL (zs.drop (k + 1)) (left - zs[k]) := by
  rw [List.drop_eq_getElem_cons hk]; rfl

theorem ret_bool {a b : Bool} (h : a = b) : Ending.returned (.bool a) = .returned (.bool b) := by rw [h]

set_option maxHeartbeats 400000 in
theorem fill_empty (a : Option Addr) (cap n : Nat) (w : World) :
    Calls Try.prog 29 #[.slice a 0 cap, .int .i64 n] w fun e w' => e = .returned (.bool (fillL [] n)) ∧ w' = w := by
  go_enter Try.func29, Try.ntmps29
  go_wp2
  refine wp_loop_rounds 1 ?_
  rw [rounds_succ]
  go_wp2
  go_ret
  exact ⟨rfl, rfl⟩

set_option maxHeartbeats 1000000 in
theorem fill_some (b off m cap n : Nat) (zs : List Int) (w : World) (hm : zs.length = m) (hmm : m ≤ 9223372036854775807) (hn : n ≤ 9223372036854775807) (hz : AtI w b off zs) :
    Calls Try.prog 29 #[.slice (some ⟨b, off, none⟩) m cap, .int .i64 n] w fun e w' => e = .returned (.bool (fillL zs n)) ∧ w' = w := by
  subst hm
  go_enter Try.func29, Try.ntmps29
  go_wp2
  go_loop [5, 11] (fun l i => ∃ (k : Nat) (left : Int), k ≤ zs.length ∧ i = .int .i64 k ∧ l = .int .i64 left ∧ 0 ≤ left ∧ left ≤ n ∧ Hid (fillL zs n = fillL (zs.drop k) left)) (fun _ i => zs.length - (intOf i).toNat)
  case atStart => exact ⟨0, n, Nat.zero_le _, rfl, rfl, by omega, by omega, rfl⟩
  case round =>
    obtain ⟨k, left, hk, rfl, rfl, hl0, hln, HF⟩ := hrel
    by_cases hlt : k < zs.length
    · have hck := hz k hlt
      have HD := hide' (fillL_drop zs k left hlt)
      rw [show zs.getD k 0 = zs[k] from by simp [hlt]] at hck
      generalize zs[k] = s at *
      by_cases hs : s < 0
      · go_wp2
        go_ret
        exact ⟨ret_bool (by rw [HF.out, HD.out, if_pos (Or.inl hs)]), rfl⟩
      · by_cases hs2 : left < s
        · go_wp2
          go_ret
          exact ⟨ret_bool (by rw [HF.out, HD.out, if_pos (Or.inr hs2)]), rfl⟩
        · go_wp2
          go_round
          case rel => exact ⟨k + 1, left - s, hlt, by go_num, rfl, by omega, by omega, by rw [HF.out, HD.out, if_neg (by omega)]; rfl⟩
          case measure => simp [intOf]; omega
    · go_wp2
      go_ret
      exact ⟨ret_bool (by rw [HF.out, List.drop_eq_nil_of_le (by omega)]; rfl), rfl⟩
end Go.Proofs.Ytnimhlkoikjomaa
