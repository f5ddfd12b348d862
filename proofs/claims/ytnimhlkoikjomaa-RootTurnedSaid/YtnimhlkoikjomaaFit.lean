/- A slice: so long, so much room. -/
import Derived.WalkKit
namespace Go.Proofs.Ytnimhlkoikjomaa
open Go.RowKit
set_option maxRecDepth 20000

/-- A slice: so long, so much room. -/
def Fit (x : Option Addr) (n c : Nat) : Prop := n ≤ c ∧ c ≤ maxLen ∧ (x = none → n = 0 ∧ c = 0)
theorem fit_none : Fit none 0 0 := ⟨Nat.le_refl _, Nat.zero_le _, fun _ => ⟨rfl, rfl⟩⟩
end Go.Proofs.Ytnimhlkoikjomaa
