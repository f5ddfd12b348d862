/- Words are one where their numbers are. -/
import Derived.Test.YtnimhlkoikjomaaNn
namespace Go.Proofs.Ytnimhlkoikjomaa
open Go.RowKit
set_option maxRecDepth 20000

theorem pair_eq_of' (p q : BitVec 64 × BitVec 64) : (nv p.1 == nv q.1 && nv p.2 == nv q.2) = decide (p = q) := by
  rw [nv_eq, nv_eq, Bool.eq_iff_iff]
  simp [Prod.ext_iff]
theorem nv32_iff (x y : BitVec 32) : nv32 x = nv32 y ↔ x = y := ⟨nv32_inj, fun h => by rw [h]⟩
theorem nv_iff (x y : BitVec 64) : nv x = nv y ↔ x = y := ⟨nv_inj, fun h => by rw [h]⟩
end Go.Proofs.Ytnimhlkoikjomaa
