/- Numbers and sealed bytes in blocks of their own; when two are one. -/
import Derived.Test.YtnimhlkoikjomaaFlo
import Derived.Test.YtnimhlkoikjomaaNonB
import Derived.WalkKit
namespace Go.Proofs.Ytnimhlkoikjomaa
open Go.RowKit
set_option maxRecDepth 20000

theorem pair_eq_of (p q : BitVec 64 × BitVec 64) : (nv p.1 == nv q.1 && nv p.2 == nv q.2) = decide (p = q) := by
  rw [nv_eq, nv_eq, Bool.eq_iff_iff]
  simp [Prod.ext_iff]
/-- Sealed bytes in a block of their own. -/
def SBox (w : World) (b : Nat) (v : Value) (t1 t2 : Int) : Prop := w.heap[b]? = some (.cells #[v, .int .u64 t1, .int .u64 t2] 39 (0, 0))
theorem SBox.c0 {w : World} {b : Nat} {v : Value} {t1 t2 : Int} (h : SBox w b v t1 t2) : w.cell? ⟨b, 0, none⟩ = some v := by unfold SBox at h; simp [World.cell?, h]
theorem SBox.c1 {w : World} {b : Nat} {v : Value} {t1 t2 : Int} (h : SBox w b v t1 t2) : w.cell? ⟨b, 1, none⟩ = some (.int .u64 t1) := by unfold SBox at h; simp [World.cell?, h]
theorem SBox.c2 {w : World} {b : Nat} {v : Value} {t1 t2 : Int} (h : SBox w b v t1 t2) : w.cell? ⟨b, 2, none⟩ = some (.int .u64 t2) := by unfold SBox at h; simp [World.cell?, h]
theorem SBox.frozen {w : World} {b : Nat} {v : Value} {t1 t2 : Int} (h : SBox w b v t1 t2) (i : Nat) : w.frozen? ⟨b, i, none⟩ = false := by unfold SBox at h; simp [World.frozen?, h]
theorem SBox.lt {w : World} {b : Nat} {v : Value} {t1 t2 : Int} (h : SBox w b v t1 t2) : b < w.heap.size := by
  obtain ⟨hlt, _⟩ := Array.getElem?_eq_some_iff.1 h
  exact hlt
theorem SBox.below {w w' : World} {B b : Nat} {v : Value} {t1 t2 : Int} (h : SBox w b v t1 t2) (hb : Below B w w') (hB : b < B) : SBox w' b v t1 t2 := (hb.block b hB).trans h
theorem SBox.grown {w w' : World} {b : Nat} {v : Value} {t1 t2 : Int} (h : SBox w b v t1 t2) (hb : Below w.heap.size w w') : SBox w' b v t1 t2 := h.below hb h.lt
theorem SBox.alloc {w : World} {b : Nat} {v : Value} {t1 t2 : Int} (h : SBox w b v t1 t2) (o : Obj) : SBox (w.alloc o) b v t1 t2 := h.grown ((Below.refl w.heap.size w).alloc (Nat.le_refl _) o)
theorem SBox.new (w : World) (v : Value) (t1 t2 : Int) : SBox (w.alloc (.cells #[v, .int .u64 t1, .int .u64 t2] 39)) w.heap.size v t1 t2 := by
  show (w.heap.push _)[w.heap.size]? = _
  simp
theorem SBox.drew {w : World} {b : Nat} {v : Value} {t1 t2 : Int} (h : SBox w b v t1 t2) : SBox w.drew b v t1 t2 := h

theorem sat_other {w : World} {g : Nat} {z u : Option Addr} {n l c : Nat} {fs : List Int} {t1 t2 : Int} (h : SAt w z n fs) (hb : SBox w g (.slice u l c) t1 t2) (a b d : Value) : SAt (((w.setCell ⟨g, 0, none⟩ a).setCell ⟨g, 1, none⟩ b).setCell ⟨g, 2, none⟩ d) z n fs := by
  refine ⟨h.1, fun hn => ?_⟩
  obtain ⟨q, o, e, hq, hat⟩ := h.2 hn
  have hne : q ≠ g := by
    rintro rfl
    have h0 := hat 0 (by rw [h.1]; exact hn)
    unfold SBox at hb
    simp only [World.cell?, hb, Nat.add_zero] at h0
    match o, h0 with
    | 0, h0 => simp at h0
    | 1, h0 => simp at h0
    | 2, h0 => simp at h0
    | o + 3, h0 => simp at h0
  exact ⟨q, o, e, by simpa using hq, ((hat.setOther hne a).setOther hne b).setOther hne d⟩
theorem SBox.put3 {w : World} {b : Nat} {v : Value} {t1 t2 : Int} (h : SBox w b v t1 t2) (v' : Value) (t1' t2' : Int) : SBox (((w.setCell ⟨b, 0, none⟩ v').setCell ⟨b, 1, none⟩ (.int .u64 t1')).setCell ⟨b, 2, none⟩ (.int .u64 t2')) b v' t1' t2' := by
  unfold SBox at h ⊢
  simp [World.setCell, Array.getElem?_modify, h]
end Go.Proofs.Ytnimhlkoikjomaa
