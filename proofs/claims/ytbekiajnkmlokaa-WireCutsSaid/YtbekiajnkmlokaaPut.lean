/- What wire.Put, wire.number and wire.Get come to, for every argument. -/
import Derived.Test.YtbekiajnkmlokaaRows
import Derived.Test.YtbekiajnkmlokaaNum
import Derived.WalkKit
import Derived.WalkSpells
import Derived.WalkLawsBesides
import Derived.Deep.OwnRows
import Derived.Handy
namespace Go.Proofs.Ytbekiajnkmlokaa
open Go.RowKit

theorem Try.info5 : (Try.prog.info? 5).map (fun i => (i.zero, i.size, i.bytes)) = some (some (.int .u8 0), 1, 1) := by kernel_rfl

/-- The bytes xs lie in block b from off on. -/
def At (w : World) (b off : Nat) (xs : List Int) : Prop := ∀ i, i < xs.length → w.cell? ⟨b, off + i, none⟩ = some (.int .u8 (xs.getD i 0))

/-- The lowest n bytes of V, the highest first. -/
def putL (V n : Nat) : List Int := (List.range n).map fun j => (byteAt V (n - 1 - j) : Int)
theorem putL_length (V n : Nat) : (putL V n).length = n := by simp [putL]
theorem putL_bytes (V n : Nat) : Bytes (putL V n) := by
  intro x hx
  obtain ⟨j, _, rfl⟩ := List.mem_map.1 hx
  have := byteAt_lt V (n - 1 - j)
  omega
theorem At.put {w : World} {b V n : Nat} (h : w.rowIs b 5 n (fun j => .int .u8 (byteAt V (n - 1 - j)))) : At w b 0 (putL V n) := by
  intro i hi
  rw [putL_length] at hi
  rw [Nat.zero_add, h.cell hi]
  simp [putL, hi]

theorem ret_int {k : IntKind} {a b : Int} (h : a = b) : Ending.returned (.int k a) = .returned (.int k b) := by rw [h]

set_option maxHeartbeats 400000 in
theorem put_none (v n : Int) (w : World) (h : n < 1 ∨ 8 < n) :
    Calls Try.prog 9 #[.int .u64 v, .int .i64 n] w fun e w' => e = .returned (.slice none 0 0) ∧ w' = w := by
  by_cases h1 : n < 1
  · go_enter Try.func9, Try.ntmps9
    go_wp2
    go_ret
    exact ⟨rfl, rfl⟩
  · have h2 : 8 < n := by omega
    go_enter Try.func9, Try.ntmps9
    go_wp2
    go_ret
    exact ⟨rfl, rfl⟩

set_option maxHeartbeats 400000 in
theorem put_row (V : Nat) (n : Nat) (w : World) (h1 : 1 ≤ n) (h2 : n ≤ 8) :
    Calls Try.prog 9 #[.int .u64 V, .int .i64 n] w fun e w' => e = .returned (.slice (some ⟨w.heap.size, 0, none⟩) n n) ∧ w'.rowIs w.heap.size 5 n (fun j => .int .u8 (byteAt V (n - 1 - j))) ∧ Below w.heap.size w w' := by
  have hmk := run_make_row' (P := Try.prog) 23 5 (.int .u8 0) 1 Try.underlying23 Try.info5 rfl .i64 .i64 n (by omega) (by omega)
  go_enter Try.func9, Try.ntmps9
  go_wp2
  go_loopw [0, 6] (fun v i wr => ∃ k : Nat, k ≤ n ∧ i = .int .i64 ((k : Int) - 1) ∧ v = .int .u64 ((V / 256 ^ (n - k) : Nat) : Int) ∧ wr.rowIs w.heap.size 5 n (fun j => if j < k then .int .u8 0 else .int .u8 (byteAt V (n - 1 - j))) ∧ Below w.heap.size w wr)
    (fun _ i _ => (intOf i + 1).toNat)
  case atStart =>
    exact ⟨n, Nat.le_refl _, rfl, by simp, (World.rowIs_made _ _ _ _).congr (fun i hi => by simp [hi]), (Below.refl _ _).alloc (Nat.le_refl _) _⟩
  case round =>
    obtain ⟨k, hk, rfl, rfl, hrow, hb⟩ := hrel
    by_cases hlt : 1 ≤ k
    · have hce := hrow.cell (i := k - 1) (by omega)
      have hfr := hrow.frozen (k - 1)
      go_wp2
      go_roundw
      case rel =>
        refine ⟨k - 1, by omega, by rw [show (k : Int) - 1 - 1 = ((k - 1 : Nat) : Int) - 1 from by omega], by rw [shr_step V n k hlt hk], (hrow.set (k - 1) _).congr (fun i hi => ?_), hb.setCell (Nat.le_refl _) _⟩
        by_cases e : i = k - 1
        · subst e; simp [byte_step V n k hlt hk]
        · by_cases e' : i < k - 1
          · have e2 : i < k := by omega
            simp [e, e', e2]
          · have e2 : ¬ i < k := by omega
            simp [e, e', e2]
      case measure => simp [intOf]; omega
    · go_wp2
      go_ret
      exact ⟨rfl, hrow.congr (fun i hi => by have e : ¬ i < k := by omega
                                             simp [e]), hb⟩

theorem put_some (V : Nat) (n : Nat) (w : World) (h1 : 1 ≤ n) (h2 : n ≤ 8) :
    Calls Try.prog 9 #[.int .u64 V, .int .i64 n] w fun e w' => e = .returned (.slice (some ⟨w.heap.size, 0, none⟩) n n) ∧ At w' w.heap.size 0 (putL V n) ∧ Below w.heap.size w w' ∧ w.heap.size < w'.heap.size :=
  (put_row V n w h1 h2).mono fun _ _ ⟨he, hr, hb⟩ => ⟨he, At.put hr, hb, hr.lt⟩

set_option maxHeartbeats 400000 in
theorem number_some (b off cap n : Nat) (xs : List Int) (w : World) (hn : xs.length = n) (hl : n ≤ 8) (hx : Bytes xs) (hc : At w b off xs) :
    Calls Try.prog 20 #[.slice (some ⟨b, off, none⟩) n cap] w fun e w' => e = .returned (.int .u64 (num xs)) ∧ w' = w := by
  subst hn
  go_enter Try.func20, Try.ntmps20
  go_wp2
  go_loop [3, 8] (fun v i => ∃ k : Nat, k ≤ xs.length ∧ i = .int .i64 k ∧ v = .int .u64 (num (xs.take k))) (fun _ i => xs.length - (intOf i).toNat)
  case atStart => exact ⟨0, Nat.zero_le _, rfl, rfl⟩
  case round =>
    obtain ⟨k, hk, rfl, rfl⟩ := hrel
    by_cases hlt : k < xs.length
    · have hck := hc k hlt
      go_wp2
      go_round
      case rel => exact ⟨k + 1, hlt, by go_num, by rw [num_step xs hx hl k hlt]⟩
      case measure => simp [intOf]; omega
    · go_wp2
      go_ret
      exact ⟨ret_int (by rw [List.take_of_length_le (by omega)]), rfl⟩

set_option maxHeartbeats 400000 in
theorem get_some (b off cap n : Nat) (xs : List Int) (w : World) (hn : xs.length = n) (h1 : 1 ≤ n) (hl : n ≤ 8) (hx : Bytes xs) (hc : At w b off xs) :
    Calls Try.prog 11 #[.slice (some ⟨b, off, none⟩) n cap] w fun e w' => e = .returned (.tuple #[.int .u64 (num xs), .bool true]) ∧ w' = w := by
  subst hn
  go_enter Try.func11, Try.ntmps11
  go_wp2_with fail
  refine (number_some b off cap _ xs w rfl hl hx hc).mono ?_
  rintro e w' ⟨rfl, rfl⟩
  go_wp2
  go_ret2
  exact ⟨rfl, rfl⟩

set_option maxHeartbeats 400000 in
theorem get_none (a : Option Addr) (n cap : Nat) (w : World) (h : n < 1 ∨ 8 < n) :
    Calls Try.prog 11 #[.slice a n cap] w fun e w' => e = .returned (.tuple #[.int .u64 0, .bool false]) ∧ w' = w := by
  by_cases h1 : n < 1
  · go_enter Try.func11, Try.ntmps11
    go_wp2
    go_ret2
    exact ⟨rfl, rfl⟩
  · have h2 : 8 < n := by omega
    go_enter Try.func11, Try.ntmps11
    go_wp2
    go_ret2
    exact ⟨rfl, rfl⟩

/-- A reading of bytes stays where nothing old has turned. -/
theorem At.below {w w' : World} {B b off : Nat} {xs : List Int} (h : At w b off xs) (hb : Below B w w') (hB : b < B) : At w' b off xs :=
  fun i hi => (hb.cell (p := ⟨b, off + i, none⟩) hB).trans (h i hi)
theorem At.conv {w : World} {b off n cap : Nat} {xs : List Int} (h : At w b off xs) (hn : xs.length = n) :
    (convert 23 9 (.slice (some ⟨b, off, none⟩) n cap)).run Try.prog w = .ok (.string (strOfNums xs)) w :=
  run_convert_bytes_arg w 23 5 Try.underlying23 Try.underlying5 b off n cap xs hn (fun i hi => h i (by omega)) 9 Try.underlying9

theorem num12 : num [1, 2] = 258 := by decide
theorem put258 : putL 258 3 = [0, 1, 2] := by decide
theorem str012 : strOfNums [0, 1, 2] = ⟨#[0, 1, 2]⟩ := by decide

theorem bytes12 : Bytes [1, 2] := by intro x hx; simp at hx; omega
theorem put_258 (w : World) : Calls Try.prog 9 #[.int .u64 258, .int .i64 3] w fun e w' => e = .returned (.slice (some ⟨w.heap.size, 0, none⟩) 3 3) ∧ At w' w.heap.size 0 [0, 1, 2] ∧ Below w.heap.size w w' ∧ w.heap.size < w'.heap.size :=
  (put_some 258 3 w (by decide) (by decide)).mono fun _ _ h => put258 ▸ h
theorem at12 (w : World) : At (w.alloc (.cells #[.int .u8 1, .int .u8 2] 5)) w.heap.size 0 [1, 2] := by
  intro i hi
  simp at hi
  have : i = 0 ∨ i = 1 := by omega
  rcases this with rfl | rfl <;> simp [World.cell?_alloc_at]

set_option maxHeartbeats 400000 in
theorem known_true (w : World) :
    Calls Try.prog 12 #[] w fun e w' => e = .returned (.bool true) ∧ Below w.heap.size w w' := by
  go_enter Try.func12, Try.ntmps12
  go_wp2_with fail
  refine (get_some _ 0 2 2 [1, 2] _ rfl (by decide) (by decide) bytes12 (at12 w)).mono ?_
  rintro e w' ⟨rfl, rfl⟩
  rw [num12]
  go_wp2_with fail
  refine (put_258 _).mono ?_
  rintro e w' ⟨rfl, ha, hb, -⟩
  have hk := ha.conv (n := 3) (cap := 3) rfl
  rw [str012, World.size_alloc] at hk
  go_wp2
  go_ret
  exact ⟨rfl, ((Below.refl _ _).alloc (Nat.le_refl _) _).trans (hb.mono (by simp))⟩
end Go.Proofs.Ytbekiajnkmlokaa
