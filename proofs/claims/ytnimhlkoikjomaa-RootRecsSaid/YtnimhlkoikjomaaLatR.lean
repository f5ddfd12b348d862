/- Rows of bytes that are laid for a call. -/
import Derived.Test.YtnimhlkoikjomaaLAt
import Derived.Test.YtnimhlkoikjomaaFit
namespace Go.Proofs.Ytnimhlkoikjomaa
open Go.RowKit
set_option maxRecDepth 20000

/-- Slices of bytes, side by side in a block that is made for them. -/
theorem lat_rows (w : World) (L : List (Option Addr × Nat × Nat × List Int)) (h : ∀ q ∈ L, SAt w q.1 q.2.1 q.2.2.2 ∧ Fit q.1 q.2.1 q.2.2.1 ∧ Bytes q.2.2.2) :
    LAt (w.alloc (.cells (L.map fun q => Value.slice q.1 q.2.1 q.2.2.1).toArray 28)) (some ⟨w.heap.size, 0, none⟩) L.length (L.map (·.2.2.2)) := by
  refine ⟨List.length_map _, fun _ => ⟨w.heap.size, 0, rfl, by rw [World.size_alloc]; omega, fun i hi => ?_⟩⟩
  obtain ⟨hs, hf, hb⟩ := h L[i] (List.getElem_mem hi)
  have hc : (w.alloc (.cells (L.map fun q => Value.slice q.1 q.2.1 q.2.2.1).toArray 28)).cell? ⟨w.heap.size, 0 + i, none⟩ = some (.slice L[i].1 L[i].2.1 L[i].2.2.1) := by
    rw [Nat.zero_add]
    simp [hi]
  have e : (L.map (·.2.2.2)).getD i [] = L[i].2.2.2 := by simp [hi]
  rw [e]
  exact RowIn.of hc (hs.below ((Below.refl _ _).alloc (Nat.le_refl _) _)) hf.1 hf.2.1 hf.2.2 hb
end Go.Proofs.Ytnimhlkoikjomaa
