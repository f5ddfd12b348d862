/- New blocks alone, none of them frozen. -/
import Derived.WalkKit
import Derived.WalkSpells
import Derived.WalkLawsBesides
import Derived.Handy
namespace Go.Proofs.Ytcpplfclpigmkaa
open Go.RowKit
set_option maxRecDepth 20000

/-- New blocks alone, none of them frozen. -/
structure Clean (w w' : World) : Prop where
  b : Below w.heap.size w w'
  f : ∀ k i, w.heap.size ≤ k → w'.frozen? ⟨k, i, none⟩ = false
theorem Clean.refl (w : World) : Clean w w := ⟨Below.refl _ _, fun k i h => by
  have : w.heap[k]? = none := Array.getElem?_eq_none h
  simp [World.frozen?, this]⟩
theorem Clean.drew {a w : World} (h : Clean a w) : Clean a w.drew := ⟨h.b.drew, h.f⟩
theorem Clean.alloc {a w : World} (h : Clean a w) (c : Array Value) (t : TypeId) : Clean a (w.alloc (.cells c t)) := ⟨h.b.alloc h.b.size _, fun k i hk => by
  by_cases e : k = w.heap.size
  · subst e
    simp
  · rw [World.frozen?_alloc_old _ _ _ (show (⟨k, i, none⟩ : Addr).block ≠ w.heap.size from e)]
    exact h.f k i hk⟩
theorem Clean.setCell {a w : World} (h : Clean a w) {p : Addr} (hp : a.heap.size ≤ p.block) (u : Value) : Clean a (w.setCell p u) := ⟨h.b.setCell hp u, fun k i hk => by
  rw [World.frozen?_setCell]
  exact h.f k i hk⟩
theorem Clean.trans {a b c : World} (h : Clean a b) (k : Clean b c) : Clean a c := ⟨h.b.trans (k.b.mono h.b.size), fun n i hn => by
  rcases Nat.lt_or_ge n b.heap.size with hl | hl
  · rw [World.frozen?_of_block (w := b) (a := ⟨n, i, none⟩) (k.b.block n hl)]
    exact h.f n i hn
  · exact k.f n i hl⟩
end Go.Proofs.Ytcpplfclpigmkaa
