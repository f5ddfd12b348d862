/- A fact that the walks leave alone. -/
import Derived.WalkKit
namespace Go.Proofs.Ytfneckhjhjmopaa
open Go.RowKit
set_option maxRecDepth 20000
theorem hide' {p : Prop} (h : p) : Hid p := h
end Go.Proofs.Ytfneckhjhjmopaa
