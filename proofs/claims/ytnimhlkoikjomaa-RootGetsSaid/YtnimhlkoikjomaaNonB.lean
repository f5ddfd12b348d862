/- Numbers in blocks of their own; when two are one. -/
import Derived.Test.YtnimhlkoikjomaaNn
import Derived.Test.YtnimhlkoikjomaaRows
import Derived.WalkKit
import Derived.WalkSpells
import Derived.WalkLawsBesides
import Derived.Deep.OwnRows
import Derived.Handy
namespace Go.Proofs.Ytnimhlkoikjomaa
open Go.RowKit
set_option maxRecDepth 20000

theorem non_eq (a b : Nn) : (nv32 a.1 = nv32 b.1 ∧ nv32 a.2.1 = nv32 b.2.1 ∧ nv a.2.2 = nv b.2.2) ↔ a = b := by
  constructor
  · rintro ⟨h1, h2, h3⟩
    exact Prod.ext (nv32_inj h1) (Prod.ext (nv32_inj h2) (nv_inj h3))
  · rintro rfl
    exact ⟨rfl, rfl, rfl⟩
/-- A number in a block of its own. -/
def NBox (w : World) (b : Nat) (n : Nn) : Prop := w.heap[b]? = some (.cells #[.int .u32 (nv32 n.1), .int .u32 (nv32 n.2.1), .int .u64 (nv n.2.2)] 37 (0, 0))
theorem NBox.c0 {w : World} {b : Nat} {n : Nn} (h : NBox w b n) : w.cell? ⟨b, 0, none⟩ = some (.int .u32 (nv32 n.1)) := by unfold NBox at h; simp [World.cell?, h]
theorem NBox.c1 {w : World} {b : Nat} {n : Nn} (h : NBox w b n) : w.cell? ⟨b, 1, none⟩ = some (.int .u32 (nv32 n.2.1)) := by unfold NBox at h; simp [World.cell?, h]
theorem NBox.c2 {w : World} {b : Nat} {n : Nn} (h : NBox w b n) : w.cell? ⟨b, 2, none⟩ = some (.int .u64 (nv n.2.2)) := by unfold NBox at h; simp [World.cell?, h]
theorem NBox.lt {w : World} {b : Nat} {n : Nn} (h : NBox w b n) : b < w.heap.size := by
  obtain ⟨hlt, _⟩ := Array.getElem?_eq_some_iff.1 h
  exact hlt
theorem NBox.grown {w w' : World} {b : Nat} {n : Nn} (h : NBox w b n) (hb : Below w.heap.size w w') : NBox w' b n := (hb.block b h.lt).trans h
theorem NBox.alloc {w : World} {b : Nat} {n : Nn} (h : NBox w b n) (o : Obj) : NBox (w.alloc o) b n := h.grown ((Below.refl w.heap.size w).alloc (Nat.le_refl _) o)
theorem NBox.new (w : World) (n : Nn) : NBox (w.alloc (.cells #[.int .u32 (nv32 n.1), .int .u32 (nv32 n.2.1), .int .u64 (nv n.2.2)] 37)) w.heap.size n := by
  show (w.heap.push _)[w.heap.size]? = _
  simp
theorem eqN (a b c a' b' c' : Int) (w : World) : (Op.equalIn 10000 37 (.agg #[.int .u32 a, .int .u32 b, .int .u64 c]) (.agg #[.int .u32 a', .int .u32 b', .int .u64 c'])).run Try.prog w = .ok (a == a' && b == b' && c == c') w := by
  go_simp
  by_cases h1 : a = a' <;> by_cases h2 : b = b' <;> by_cases h3 : c = c' <;> simp [h1, h2, h3]
theorem non_eq_of (a b : Nn) : (nv32 a.1 == nv32 b.1 && nv32 a.2.1 == nv32 b.2.1 && nv a.2.2 == nv b.2.2) = decide (a = b) := by
  rw [Bool.eq_iff_iff, decide_eq_true_eq, ← non_eq a b]
  simp [and_assoc]
theorem NBox.frozen {w : World} {b : Nat} {n : Nn} (h : NBox w b n) (i : Nat) : w.frozen? ⟨b, i, none⟩ = false := by unfold NBox at h; simp [World.frozen?, h]
theorem NBox.drew {w : World} {b : Nat} {n : Nn} (h : NBox w b n) : NBox w.drew b n := h
end Go.Proofs.Ytnimhlkoikjomaa
