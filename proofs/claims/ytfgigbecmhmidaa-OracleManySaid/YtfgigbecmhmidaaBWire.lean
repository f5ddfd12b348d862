/- What the program's wire comes to, for the stages that call it: Put and Bytes. -/
import Derived.Test.YtfgigbecmhmidaaBAt
import Derived.Test.YtfgigbecmhmidaaRegion
import Derived.Test.YtfgigbecmhmidaaSpk
namespace Go.Proofs.Ytfgigbecmhmidaa
open Go.RowKit

/-- A Pair's sixteen bytes. -/
def pairL (p : BitVec 64 × BitVec 64) : List Int := putL p.1.toNat 8 ++ putL p.2.toNat 8
theorem pairL_length (p : BitVec 64 × BitVec 64) : (pairL p).length = 16 := by simp [pairL, putL_length]
theorem pairL_bytes (p : BitVec 64 × BitVec 64) : Bytes (pairL p) := (putL_bytes _ _).append (putL_bytes _ _)
/-- Sixteen bytes as a Pair. -/
def pairOf (xs : List Int) : BitVec 64 × BitVec 64 := (BitVec.ofInt 64 (num (xs.take 8)), BitVec.ofInt 64 (num (xs.drop 8)))
theorem pairOf_1 (xs : List Int) (hx : Bytes xs) : nv (pairOf xs).1 = num (xs.take 8) := by
  have h := num_lt (xs.take 8) (hx.take 8) (by rw [List.length_take]; omega)
  exact nv_of _ h.1 h.2
theorem pairOf_2 (xs : List Int) (hx : Bytes xs) (hl : xs.length ≤ 16) : nv (pairOf xs).2 = num (xs.drop 8) := by
  have h := num_lt (xs.drop 8) (hx.drop 8) (by rw [List.length_drop]; omega)
  exact nv_of _ h.1 h.2
set_option maxHeartbeats 400000 in
theorem put_none (v n : Int) (w : World) (h : n < 1 ∨ 8 < n) :
    Calls Try.prog 30 #[.int .u64 v, .int .i64 n] w fun e w' => e = .returned (.slice none 0 0) ∧ w' = w := by
  by_cases h1 : n < 1
  · go_enter Try.func30, Try.ntmps30
    go_wp2
    go_ret
    exact ⟨rfl, rfl⟩
  · have h2 : 8 < n := by omega
    go_enter Try.func30, Try.ntmps30
    go_wp2
    go_ret
    exact ⟨rfl, rfl⟩
set_option maxHeartbeats 400000 in
theorem put_row (V : Nat) (n : Nat) (w : World) (h1 : 1 ≤ n) (h2 : n ≤ 8) :
    Calls Try.prog 30 #[.int .u64 V, .int .i64 n] w fun e w' => e = .returned (.slice (some ⟨w.heap.size, 0, none⟩) n n) ∧ w'.rowIs w.heap.size 5 n (fun j => .int .u8 (byteAt V (n - 1 - j))) ∧ Below w.heap.size w w' := by
  have hmk := run_make_row' (P := Try.prog) 37 5 (.int .u8 0) 1 Try.underlying37 Try.info5 rfl .i64 .i64 n (by omega) (by omega)
  go_enter Try.func30, Try.ntmps30
  go_wp2
  go_loopw [0, 6] (fun v i wr => ∃ k : Nat, k ≤ n ∧ i = .int .i64 ((k : Int) - 1) ∧ v = .int .u64 ((V / 256 ^ (n - k) : Nat) : Int) ∧ wr.rowIs w.heap.size 5 n (fun j => if j < k then .int .u8 0 else .int .u8 (byteAt V (n - 1 - j))) ∧ Below w.heap.size w wr)
    (fun _ i _ => (intOf i + 1).toNat)
  case atStart =>
    exact ⟨n, Nat.le_refl _, rfl, by simp, (World.rowIs_made _ _ _ _).congr (fun i hi => by simp [hi]), (Below.refl _ _).alloc (Nat.le_refl _) _⟩
  case round =>
    obtain ⟨k, hk, rfl, rfl, hrow, hb⟩ := hrel
    by_cases hlt : 1 ≤ k
    · have hce := hrow.cell (i := k - 1) (by omega)
      have hfr := hrow.frozen (k - 1)
      go_wp2
      go_roundw
      case rel =>
        refine ⟨k - 1, by omega, by rw [show (k : Int) - 1 - 1 = ((k - 1 : Nat) : Int) - 1 from by omega], by rw [shr_step V n k hlt hk], (hrow.set (k - 1) _).congr (fun i hi => ?_), hb.setCell (Nat.le_refl _) _⟩
        by_cases e : i = k - 1
        · subst e; simp [byte_step V n k hlt hk]
        · by_cases e' : i < k - 1
          · have e2 : i < k := by omega
            simp [e, e', e2]
          · have e2 : ¬ i < k := by omega
            simp [e, e', e2]
      case measure => simp [intOf]; omega
    · go_wp2
      go_ret
      exact ⟨rfl, hrow.congr (fun i hi => by have e : ¬ i < k := by omega
                                             simp [e]), hb⟩
theorem put_some (V : Nat) (n : Nat) (w : World) (h1 : 1 ≤ n) (h2 : n ≤ 8) :
    Calls Try.prog 30 #[.int .u64 V, .int .i64 n] w fun e w' => e = .returned (.slice (some ⟨w.heap.size, 0, none⟩) n n) ∧ At w' w.heap.size 0 (putL V n) ∧ Below w.heap.size w w' ∧ w.heap.size < w'.heap.size :=
  (put_row V n w h1 h2).mono fun _ _ ⟨he, hr, hb⟩ => ⟨he, At.put hr, hb, hr.lt⟩
end Go.Proofs.Ytfgigbecmhmidaa
