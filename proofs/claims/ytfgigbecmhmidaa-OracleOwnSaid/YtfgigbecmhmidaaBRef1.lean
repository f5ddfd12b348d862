/- What lockboxref1.Put and Bytes come to, for the stages that call them. -/
import Derived.Test.YtfgigbecmhmidaaBWire
import Derived.Test.YtfgigbecmhmidaaBox
namespace Go.Proofs.Ytfgigbecmhmidaa
open Go.RowKit

theorem shr_byte (V j : Nat) : (V : Int) / 2 ^ (8 * j) % 256 = (byteAt V j : Nat) := by
  rw [byteAt, Int.pow_mul]
  simp
theorem rput_step {w1 : World} {base : Nat} {v : Value} (V n k : Nat) (h1 : 1 ≤ k) (h2 : k ≤ n)
    (h : w1.ownsRow base 5 1 v (n - k + 1) (((putL V n).take (n - k)).map (Value.int .u8) ++ [.int .u8 ((V : Int) / 2 ^ (8 * (k - 1)) % 256)])) :
    w1.ownsRow base 5 1 v (n - (k - 1)) (((putL V n).take (n - (k - 1))).map (Value.int .u8)) := by
  have e : n - (k - 1) = n - k + 1 := by omega
  have hl : n - k < (putL V n).length := by rw [putL_length]; omega
  rw [e, List.take_succ_eq_append_getElem hl, List.map_append]
  have e2 : (putL V n)[n - k] = (V : Int) / 2 ^ (8 * (k - 1)) % 256 := by
    rw [shr_byte]
    simp only [putL, List.getElem_map, List.getElem_range]
    rw [show n - 1 - (n - k) = k - 1 from by omega]
  rw [e2]
  exact h
set_option maxHeartbeats 400000 in
theorem rput_own (V : Nat) (n : Nat) (w : World) (h1 : 1 ≤ n) (h2 : n ≤ 8) :
    Calls Try.prog 25 #[.int .u64 V, .int .i64 n] w fun e w' => ∃ v, e = .returned v ∧ w'.ownsRow w.heap.size 5 1 v n ((putL V n).map (Value.int .u8)) ∧ Below w.heap.size w w' := by
  obtain ⟨i0, hi, hz0, hz1, hz2⟩ := info_parts Try.info5
  go_enter Try.func25, Try.ntmps25
  go_wp2
  go_loopw [5, 6] (fun v i wr => ∃ k : Nat, k ≤ n ∧ i = .int .i64 ((k : Int) - 1) ∧ wr.ownsRow w.heap.size 5 1 v (n - k) (((putL V n).take (n - k)).map (Value.int .u8)) ∧ Below w.heap.size w wr)
    (fun _ i _ => (intOf i + 1).toNat)
  case atStart =>
    exact ⟨n, Nat.le_refl _, rfl, by simpa using World.ownsRow_nil _ _ _ _, Below.refl _ _⟩
  case round =>
    obtain ⟨k, hk, rfl, hown, hb⟩ := hrel
    by_cases hlt : 1 ≤ k
    · have hL : n - k ≤ 8 := by omega
      have hS := hb.size
      go_wp2_with (at_builtin; refine wpList_append_own _ rfl _ _ 37 rfl w.heap.size 5 i0 (.int .u8 0) 1 1 Try.underlying37 hi hz0 hz1 hz2 rfl (by decide) _ _ _ rfl (hown.alloc _) ⟨wr.heap.size, 0, none⟩ 1 1 [.int .u8 ((V : Int) / 2 ^ (8 * (k - 1)) % 256)] rfl rfl ?c1 ?c2 ?c3 ?c4 ?c5 ?_)
      case c1 =>
        intro j u hj
        match j, hj with
        | 0, hj => simp at hj; subst hj; simp [Addr.add]
      case c2 => intro u hu; simp at hu; subst hu; rfl
      case c3 => unfold maxLen; omega
      case c4 => omega
      case c5 => simp; omega
      · intro v' w1 hown' hgrow _
        have R := rput_step V n k hlt hk (by rw [List.map_take]; exact hown')
        have hb' : Below w.heap.size w w1 := Below.grown (hb.alloc hS _) hgrow (by simp; omega) (own_block hown)
        clear hown' hgrow hown hb
        go_wp2
        go_roundw
        case rel => exact ⟨k - 1, by omega, by rw [show (k : Int) - 1 - 1 = ((k - 1 : Nat) : Int) - 1 from by omega], R, hb'⟩
        case measure => simp [intOf]; omega
    · go_wp2
      have hk0 : k = 0 := by omega
      subst hk0
      rw [Nat.sub_zero, List.take_of_length_le (by rw [putL_length]; exact Nat.le_refl _)] at hown
      go_ret
      exact ⟨_, rfl, hown, hb⟩
theorem own_low {w : World} {base base' n : Nat} {e : TypeId} {size : Nat} {v : Value} {xs : List Value} (h : w.ownsRow base e size v n xs) (hb : base' ≤ base) : w.ownsRow base' e size v n xs := by
  obtain ⟨h1, h2 | ⟨g, cap, cur, hv, hg, rest⟩⟩ := h
  · exact ⟨h1, Or.inl h2⟩
  · exact ⟨h1, Or.inr ⟨g, cap, cur, hv, Nat.le_trans hb hg, rest⟩⟩
end Go.Proofs.Ytfgigbecmhmidaa
