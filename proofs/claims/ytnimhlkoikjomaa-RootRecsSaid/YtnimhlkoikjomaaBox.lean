/- A Pair in a block of its own. -/
import Derived.Test.YtnimhlkoikjomaaRows
import Derived.WalkKit
import Derived.WalkSpells
import Derived.WalkLawsBesides
import Derived.Deep.OwnRows
import Derived.Handy
namespace Go.Proofs.Ytnimhlkoikjomaa
open Go.RowKit
set_option maxRecDepth 20000

/-- Two numbers in a block of their own. -/
def Box (w : World) (b : Nat) (x y : Int) : Prop := w.heap[b]? = some (.cells #[.int .u64 x, .int .u64 y] 25 (0, 0))
theorem Box.c0 {w : World} {b : Nat} {x y : Int} (h : Box w b x y) : w.cell? ⟨b, 0, none⟩ = some (.int .u64 x) := by unfold Box at h; simp [World.cell?, h]
theorem Box.c1 {w : World} {b : Nat} {x y : Int} (h : Box w b x y) : w.cell? ⟨b, 1, none⟩ = some (.int .u64 y) := by unfold Box at h; simp [World.cell?, h]
theorem Box.frozen {w : World} {b : Nat} {x y : Int} (h : Box w b x y) (i : Nat) : w.frozen? ⟨b, i, none⟩ = false := by unfold Box at h; simp [World.frozen?, h]
theorem Box.lt {w : World} {b : Nat} {x y : Int} (h : Box w b x y) : b < w.heap.size := by
  obtain ⟨hlt, _⟩ := Array.getElem?_eq_some_iff.1 h
  exact hlt
theorem Box.below {w w' : World} {B b : Nat} {x y : Int} (h : Box w b x y) (hb : Below B w w') (hB : b < B) : Box w' b x y := (hb.block b hB).trans h
theorem Box.alloc {w : World} {b : Nat} {x y : Int} (h : Box w b x y) (o : Obj) : Box (w.alloc o) b x y := h.below ((Below.refl w.heap.size w).alloc (Nat.le_refl _) o) h.lt
theorem Box.new (w : World) (x y : Int) : Box (w.alloc (.cells #[.int .u64 x, .int .u64 y] 25)) w.heap.size x y := by
  show (w.heap.push _)[w.heap.size]? = _
  simp
theorem Box.grown {w w' : World} {b : Nat} {x y : Int} (h : Box w b x y) (hb : Below w.heap.size w w') : Box w' b x y := h.below hb h.lt
theorem Box.set2 {w : World} {b o : Nat} {x y : Int} (h : Box w b x y) (hne : b ≠ o) (u v : Value) : Box ((w.setCell ⟨o, 0, none⟩ u).setCell ⟨o, 1, none⟩ v) b x y :=
  ((Below.heap_setCell _ ⟨o, 1, none⟩ v b hne).trans (Below.heap_setCell w ⟨o, 0, none⟩ u b hne)).trans h
theorem Box.put2 {w : World} {b : Nat} {x y : Int} (h : Box w b x y) (x' y' : Int) : Box ((w.setCell ⟨b, 0, none⟩ (.int .u64 x')).setCell ⟨b, 1, none⟩ (.int .u64 y')) b x' y' := by
  unfold Box at h ⊢
  simp [World.setCell, Array.getElem?_modify, h]
theorem Box.drew {w : World} {b : Nat} {x y : Int} (h : Box w b x y) : Box w.drew b x y := h
end Go.Proofs.Ytnimhlkoikjomaa
