/- What lockboxref5.Same comes to, of any two. -/
import Derived.Test.YtnimhlkoikjomaaBoxN
import Derived.Test.YtnimhlkoikjomaaEqP
namespace Go.Proofs.Ytnimhlkoikjomaa
open Go.RowKit
set_option maxRecDepth 20000

set_option maxHeartbeats 1000000 in
theorem rsame_any (t t' : BitVec 64 × BitVec 64) (xs ys : List Int) (z y : Option Addr) (m n c d : Nat) (bx : Bytes xs) (by_ : Bytes ys) (w : World) (sz : SAt w z m xs) (sy : SAt w y n ys) : Calls Try.prog 16 #[.agg #[.slice z m c, .int .u64 (nv t.1), .int .u64 (nv t.2)], .agg #[.slice y n d, .int .u64 (nv t'.1), .int .u64 (nv t'.2)]] w fun e w' => e = .returned (.bool (decide (xs = ys ∧ t = t'))) ∧ Below w.heap.size w w' := by
  have heq := eq32
  have hb : Below w.heap.size w ((w.alloc (.cells #[.slice z m c, .int .u64 (nv t.1), .int .u64 (nv t.2)] 39)).alloc (.cells #[.slice y n d, .int .u64 (nv t'.1), .int .u64 (nv t'.2)] 39)) := by go_grown
  have e1 := fun c => (sz.below hb).conv (c := c)
  have e2 := fun c => (sy.below hb).conv (c := c)
  have hse := str_eq xs ys bx by_
  have hpe := pair_eq_of t t'
  by_cases h : xs = ys
  · have hse2 : ((strOfNums xs).toList == (strOfNums ys).toList) = true := by rw [hse]; exact decide_eq_true h
    have hd : decide (xs = ys ∧ t = t') = decide (t = t') := by simp [h]
    rw [hd, ← hpe]
    clear hse h hd hpe
    go_enter Try.func16, Try.ntmps16
    go_wp2
    go_ret
    exact ⟨rfl, hb⟩
  · have hse2 : ((strOfNums xs).toList == (strOfNums ys).toList) = false := by rw [hse]; exact decide_eq_false h
    have hd : decide (xs = ys ∧ t = t') = false := by simp [h]
    rw [hd]
    clear hse h hd hpe
    go_enter Try.func16, Try.ntmps16
    go_wp2
    go_ret
    exact ⟨rfl, hb⟩
end Go.Proofs.Ytnimhlkoikjomaa
