/- Numbers and sealed bytes in blocks of their own; when two are one. -/
import Derived.Test.YtnfddebcnkdajaaFlo
import Derived.Test.YtnfddebcnkdajaaNonB
import Derived.WalkKit
namespace Go.Proofs.Ytnfddebcnkdajaa
open Go.RowKit
set_option maxRecDepth 20000

theorem pair_eq_of (p q : BitVec 64 × BitVec 64) : (nv p.1 == nv q.1 && nv p.2 == nv q.2) = decide (p = q) := by
  rw [nv_eq, nv_eq, Bool.eq_iff_iff]
  simp [Prod.ext_iff]
end Go.Proofs.Ytnfddebcnkdajaa
