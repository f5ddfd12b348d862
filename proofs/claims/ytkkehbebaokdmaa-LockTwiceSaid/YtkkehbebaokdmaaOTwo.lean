/- Two issues of one key and one number. -/
import Derived.Test.YtkkehbebaokdmaaRefOOpen
namespace Go.Proofs.Ytkkehbebaokdmaa
open Go.RowKit
set_option maxRecDepth 20000

/-- Two of these have one key and one number. -/
def Mate (L : List Iss) (i k : Nat) : Prop := (L.getD i default).key = (L.getD k default).key ∧ (L.getD i default).non = (L.getD k default).non
def Two (L : List Iss) : Prop := ∃ i k, k < i ∧ i < L.length ∧ Mate L i k
theorem iss_rows {G : Nat → Prop} {w : World} {v : Value} {L : List Iss} (h : IRow G w v L) (hp : 0 < L.length) : ∃ g cap, v = .slice (some ⟨g, 0, none⟩) L.length cap ∧ L.length ≤ cap ∧ g < w.heap.size ∧ ∀ i, i < L.length → ∃ c, IssIn (fun k => G k ∧ v.ownBlock ≠ some k) w (L.getD i default) c i ∧ ∀ j u, (issC (L.getD i default) c i)[j]? = some u → w.cell? ⟨g, i * 10 + j, none⟩ = some u := by
  obtain ⟨g, cap, _, hv, hcap, hgl, _, _⟩ := iss_cells h 0 hp
  refine ⟨g, cap, hv, hcap, hgl, fun i hi => ?_⟩
  obtain ⟨g', cap', c, hv', _, _, h1, h2⟩ := iss_cells h i hi
  rw [hv'] at hv
  simp only [Value.slice.injEq, Option.some.injEq, Addr.mk.injEq] at hv
  rw [hv.1.1] at h2
  exact ⟨c, h1, h2⟩

end Go.Proofs.Ytkkehbebaokdmaa
