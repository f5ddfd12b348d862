/- A byte that came in by value. -/
import Derived.Test.YtfgigbecmhmidaaByt
import Derived.Test.YtfgigbecmhmidaaViewB
namespace Go.Proofs.Ytfgigbecmhmidaa
open Go.ChangeShapes Go.WideShapes Go.ChangeAt Go.RowKit

theorem word8_of {a : Int} (h : (Lit.int .u8 a).wf = true) : ∃ x : BitVec 8, a = nv8 x := by
  have hx := u8_range h
  refine ⟨BitVec.ofInt 8 a, ?_⟩
  unfold nv8
  rw [BitVec.toNat_ofInt]
  omega
end Go.Proofs.Ytfgigbecmhmidaa
