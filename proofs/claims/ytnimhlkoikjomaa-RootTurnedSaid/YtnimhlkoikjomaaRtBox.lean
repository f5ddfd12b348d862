/- A root in a block of its own; when two are one. -/
import Derived.Test.YtnimhlkoikjomaaRtSaid
import Derived.Test.YtnimhlkoikjomaaObjA
import Derived.Test.YtnimhlkoikjomaaEqP
import Derived.Test.YtnimhlkoikjomaaNvEq
namespace Go.Proofs.Ytnimhlkoikjomaa
open Go.RowKit
set_option maxRecDepth 20000

def rtC (r : Rt) : Array Value := #[.int .u64 (nv r.ct), .int .u32 (nv32 r.ep), .int .i64 r.sl, .int .u64 (nv r.h.1), .int .u64 (nv r.h.2)]
def RBox (w : World) (b : Nat) (r : Rt) : Prop := CBox 27 w b (rtC r)
section
variable {w : World} {b : Nat} {r : Rt}
theorem RBox.c0 (h : RBox w b r) : w.cell? ⟨b, 0, none⟩ = some (.int .u64 (nv r.ct)) := CBox.cell h 0
theorem RBox.c1 (h : RBox w b r) : w.cell? ⟨b, 1, none⟩ = some (.int .u32 (nv32 r.ep)) := CBox.cell h 1
theorem RBox.c2 (h : RBox w b r) : w.cell? ⟨b, 2, none⟩ = some (.int .i64 r.sl) := CBox.cell h 2
theorem RBox.c3 (h : RBox w b r) : w.cell? ⟨b, 3, none⟩ = some (.int .u64 (nv r.h.1)) := CBox.cell h 3
theorem RBox.c4 (h : RBox w b r) : w.cell? ⟨b, 4, none⟩ = some (.int .u64 (nv r.h.2)) := CBox.cell h 4
theorem RBox.grown {w' : World} (h : RBox w b r) (hb : Below w.heap.size w w') : RBox w' b r := CBox.grown h hb
theorem RBox.drew (h : RBox w b r) : RBox w.drew b r := h
theorem RBox.new (w : World) (r : Rt) : RBox (w.alloc (.cells #[.int .u64 (nv r.ct), .int .u32 (nv32 r.ep), .int .i64 r.sl, .int .u64 (nv r.h.1), .int .u64 (nv r.h.2)] 27)) w.heap.size r := CBox.new _ _ _
end
theorem eqR (a b : Rt) (w : World) : (Op.equalIn 10000 27 (rtv a) (rtv b)).run Try.prog w = .ok (decide (a = b)) w := by
  have hp := eq32' 9997 (nv a.h.1) (nv a.h.2) (nv b.h.1) (nv b.h.2) w
  rw [pair_eq_of'] at hp
  have e : decide (a = b) = decide (a.ct = b.ct ∧ a.ep = b.ep ∧ a.sl = b.sl ∧ a.h = b.h) := by
    rw [Bool.eq_iff_iff, decide_eq_true_eq, decide_eq_true_eq]
    exact Rt.ext_iff' a b
  rw [e]
  unfold rtv
  go_simp
  simp only [nv32_iff, nv_iff]
  by_cases h1 : a.ct = b.ct
  case neg => simp [h1]
  by_cases h2 : a.ep = b.ep
  case neg => simp [h1, h2]
  by_cases h3 : a.sl = b.sl
  case neg => simp [h1, h2, h3]
  by_cases h4 : a.h = b.h <;> simp [h1, h2, h3, h4]
end Go.Proofs.Ytnimhlkoikjomaa
