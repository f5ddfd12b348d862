/- A literal row of ints; one row of those that wire.Cut has cut. -/
import Derived.Test.YtnimhlkoikjomaaCutW
namespace Go.Proofs.Ytnimhlkoikjomaa
open Go.RowKit
set_option maxRecDepth 20000

theorem AtI.lit (w : World) (zs : List Int) : AtI (w.alloc (.cells (zs.map (Value.int .i64)).toArray 3)) w.heap.size 0 zs := by
  intro i hi
  rw [Nat.zero_add]
  simp [hi]
theorem cut_rowG {w : World} {N m k : Nat} {xs : List Int} {ns : List Nat} (h : CutsTo w N m m (cutP xs ns)) (hm : ns.length = m) (hx : ns.sum = xs.length) (hk : k < m) : ∃ g, N < g ∧ w.cell? ⟨N, k, none⟩ = some (.slice (some ⟨g, 0, none⟩) (ns.getD k 0) (ns.getD k 0)) ∧ Row w g (cutP xs ns k) := by
  obtain ⟨f, hf, hr⟩ := h
  obtain ⟨g, h1, h2, h3⟩ := hr k hk
  refine ⟨g, h1, ?_, h3⟩
  rw [hf.cell hk, h2, cutP_length xs ns k (by omega) hx]
end Go.Proofs.Ytnimhlkoikjomaa
