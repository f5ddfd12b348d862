/- A fact that the walks leave alone. -/
import Derived.WalkKit
namespace Go.Proofs.Ytfgigbecmhmidaa
open Go.RowKit
theorem hide' {p : Prop} (h : p) : Hid p := h
end Go.Proofs.Ytfgigbecmhmidaa
