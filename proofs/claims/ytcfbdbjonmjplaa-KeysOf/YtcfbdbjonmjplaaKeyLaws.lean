/- The walk of KeysOf. -/
import Derived.Test.YtcfbdbjonmjplaaKeyKnown
import Derived.Test.YtcfbdbjonmjplaaRefOf
import Derived.Test.YtcfbdbjonmjplaaEqP
namespace Go.Proofs.Ytcfbdbjonmjplaa
open Go.RowKit
set_option maxRecDepth 20000
variable {PI : (Nat → Prop) → World → Value → PSt → Prop} {KI : Option Addr → (Nat → Prop) → World → Value → KSt → Prop}
set_option maxHeartbeats 1000000 in
theorem kof_law (hW : PowIs PI) (hO : KeysIs PI KI) (s : BitVec 64) (a b : Nat) (ha : U32 a) (hb : U32 b) (w : World) : Calls Try.prog 4 #[.int .u64 (nv s), .int .u32 (a : Int), .int .u32 (b : Int)] w fun e w' => e = .returned (.bool true) ∧ Below w.heap.size w w' := by
  have heq := eq32
  have h1 := nv_self (keyOf s a)
  have h2 : (nv (keyOf s a).1 == nv (keyOf s b).1 && nv (keyOf s a).2 == nv (keyOf s b).2) = decide ((a : Int) = (b : Int)) := by
    rw [pair_eq, Bool.eq_iff_iff, decide_eq_true_eq, decide_eq_true_eq]
    exact ⟨fun h => by rw [keyOf_inj ha hb h], fun h => by rw [Int.ofNat.inj h]⟩
  go_enter Try.func4, Try.ntmps4
  go_wp2_with fail
  refine (hO.of_ s a ha _).mono ?_
  rintro e w1 ⟨rfl, hB⟩
  go_wp2_with fail
  refine (rof s a ha _).mono ?_
  rintro e w2 ⟨rfl, hb2⟩
  replace hB := hB.trans (hb2.mono hB.size)
  clear hb2
  go_wp2_with fail
  refine (hO.of_ s a ha _).mono ?_
  rintro e w3 ⟨rfl, hb2⟩
  replace hB := hB.trans (hb2.mono hB.size)
  clear hb2
  go_wp2_with fail
  refine (hO.of_ s b hb _).mono ?_
  rintro e w4 ⟨rfl, hb2⟩
  replace hB := hB.trans (hb2.mono hB.size)
  clear hb2 h1
  by_cases hab : (a : Int) = (b : Int)
  · have h3 : (nv (keyOf s a).1 == nv (keyOf s b).1 && nv (keyOf s a).2 == nv (keyOf s b).2) = true := by rw [h2, decide_eq_true hab]
    clear h2
    generalize nv (keyOf s a).1 = k1 at *
    generalize nv (keyOf s a).2 = k2 at *
    generalize nv (keyOf s b).1 = k3 at *
    generalize nv (keyOf s b).2 = k4 at *
    go_wp2_with fail
    refine (kknown hW hO _).mono ?_
    rintro e w5 ⟨rfl, hb2⟩
    replace hB := hB.trans (hb2.mono hB.size)
    go_wp2
    go_ret
    exact ⟨rfl, hB⟩
  · have h3 : (nv (keyOf s a).1 == nv (keyOf s b).1 && nv (keyOf s a).2 == nv (keyOf s b).2) = false := by rw [h2, decide_eq_false hab]
    have h4 : ((a : Int) == (b : Int)) = false := beq_false_of_ne hab
    clear h2
    generalize nv (keyOf s a).1 = k1 at *
    generalize nv (keyOf s a).2 = k2 at *
    generalize nv (keyOf s b).1 = k3 at *
    generalize nv (keyOf s b).2 = k4 at *
    go_wp2_with fail
    refine (kknown hW hO _).mono ?_
    rintro e w5 ⟨rfl, hb2⟩
    replace hB := hB.trans (hb2.mono hB.size)
    go_wp2
    go_ret
    exact ⟨rfl, hB⟩
end Go.Proofs.Ytcfbdbjonmjplaa
