/- A slice of structs, cell by cell. -/
import Derived.Test.YtcfbdbjonmjplaaOwnB
namespace Go.Proofs.Ytcfbdbjonmjplaa
open Go.RowKit
set_option maxRecDepth 20000

/-- A slice of m things of so many cells each, of each of which R holds. -/
def RowsAt {α : Type} [Inhabited α] (size : Nat) (R : World → List Value → α → Prop) (w : World) (x : Option Addr) (m : Nat) (L : List α) : Prop :=
  L.length = m ∧ (0 < m → ∃ b o, x = some ⟨b, o, none⟩ ∧ b < w.heap.size ∧ ∀ i, i < m → ∃ cs, cs.length = size ∧ (∀ j u, cs[j]? = some u → w.cell? ⟨b, o + i * size + j, none⟩ = some u) ∧ R w cs (L.getD i default))
end Go.Proofs.Ytcfbdbjonmjplaa
