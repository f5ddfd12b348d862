/- Blocks of bytes that stay as they were. -/
import Derived.Test.YtkkehbebaokdmaaOrc
namespace Go.Proofs.Ytkkehbebaokdmaa
open Go.RowKit
set_option maxRecDepth 20000

/-- Every block of bytes is as it was. -/
def U8 (w w' : World) : Prop := ∀ (k : Nat) (cur : Array Value) (fr : Nat × Nat), w.heap[k]? = some (.cells cur 5 fr) → w'.heap[k]? = some (.cells cur 5 fr)
theorem U8.of_off {F : Nat → Prop} {w w' : World} (h : Off F w w') (hF : ∀ k cur fr, w.heap[k]? = some (.cells cur 5 fr) → ¬ F k) : U8 w w' := fun k cur fr hk => off_block hk h (hF k cur fr hk)
theorem U8.of_below {w w' : World} (h : Below w.heap.size w w') : U8 w w' := U8.of_off (F := fun _ => False) (Off.of_below h) (fun _ _ _ _ h => h)
theorem U8.trans {a b c : World} (h : U8 a b) (k : U8 b c) : U8 a c := fun i cur fr hi => k i cur fr (h i cur fr hi)
/-- This slice's block is of bytes, and none of those below B. -/
def Typ8 (B : Nat) (w : World) (z : Option Addr) (n : Nat) : Prop := 0 < n → ∃ g o cur fr, z = some ⟨g, o, none⟩ ∧ B ≤ g ∧ w.heap[g]? = some (.cells cur 5 fr)
theorem Typ8.stay {B : Nat} {w w' : World} {z : Option Addr} {n : Nat} (h : Typ8 B w z n) (hu : U8 w w') : Typ8 B w' z n := fun hn => by
  obtain ⟨g, o, cur, fr, e, hB, hg⟩ := h hn
  exact ⟨g, o, cur, fr, e, hB, hu g cur fr hg⟩
theorem Typ8.sin {B : Nat} {G : Nat → Prop} {w w' : World} {z : Option Addr} {n : Nat} {ys : List Int} (h : Typ8 B w z n) (hs : SIn G w z n ys) (hu : U8 w w') (hz : w.heap.size ≤ w'.heap.size) : SIn G w' z n ys :=
  ⟨hs.1, fun hn => by
    obtain ⟨g, o, cur, fr, e, hB, hg⟩ := h hn
    obtain ⟨b, o', e', hlt, hG, hat⟩ := hs.2 hn
    rw [e] at e'
    obtain ⟨rfl, rfl⟩ : g = b ∧ o = o' := by simpa using e'
    refine ⟨g, o, e, Nat.lt_of_lt_of_le hlt hz, hG, ?_⟩
    exact fun i hi => (World.cell?_of_block (w := w) ((hu g cur fr hg).trans hg.symm)).trans (hat i hi)⟩
theorem Typ8.mono {B B' : Nat} {w : World} {z : Option Addr} {n : Nat} (h : Typ8 B w z n) (hB : B' ≤ B) : Typ8 B' w z n := fun hn => by
  obtain ⟨g, o, cur, fr, e, h1, hg⟩ := h hn
  exact ⟨g, o, cur, fr, e, Nat.le_trans hB h1, hg⟩
theorem sat_no8 {w : World} {b B : Nat} {x : Option Addr} {n : Nat} {xs : List Int} (hc : ∀ cur fr, w.heap[b]? ≠ some (.cells cur 5 fr)) (ht : Typ8 B w x n) (h : SAt w x n xs) : SIn (fun k => k ≠ b) w x n xs :=
  ⟨h.1, fun hn => by
    obtain ⟨g, o, e, hlt, hat⟩ := h.2 hn
    obtain ⟨g', o', cur, fr, e', _, hg⟩ := ht hn
    rw [e] at e'
    obtain ⟨rfl, rfl⟩ : g = g' ∧ o = o' := by simpa using e'
    refine ⟨g, o, e, hlt, fun e2 => ?_, hat⟩
    subst e2
    exact hc _ _ hg⟩
end Go.Proofs.Ytkkehbebaokdmaa
