/- Numbers and sealed bytes in blocks of their own; when two are one. -/
import Derived.Test.YtkkehbebaokdmaaFlo
import Derived.WalkKit
namespace Go.Proofs.Ytkkehbebaokdmaa
open Go.RowKit
set_option maxRecDepth 20000

theorem non_eq (a b : Nn) : (nv32 a.1 = nv32 b.1 ∧ nv32 a.2.1 = nv32 b.2.1 ∧ nv a.2.2 = nv b.2.2) ↔ a = b := by
  constructor
  · rintro ⟨h1, h2, h3⟩
    exact Prod.ext (nv32_inj h1) (Prod.ext (nv32_inj h2) (nv_inj h3))
  · rintro rfl
    exact ⟨rfl, rfl, rfl⟩
theorem pair_eq_of (p q : BitVec 64 × BitVec 64) : (nv p.1 == nv q.1 && nv p.2 == nv q.2) = decide (p = q) := by
  rw [nv_eq, nv_eq, Bool.eq_iff_iff]
  simp [Prod.ext_iff]
/-- A number in a block of its own. -/
def NBox (w : World) (b : Nat) (n : Nn) : Prop := w.heap[b]? = some (.cells #[.int .u32 (nv32 n.1), .int .u32 (nv32 n.2.1), .int .u64 (nv n.2.2)] 35 (0, 0))
theorem NBox.c0 {w : World} {b : Nat} {n : Nn} (h : NBox w b n) : w.cell? ⟨b, 0, none⟩ = some (.int .u32 (nv32 n.1)) := by unfold NBox at h; simp [World.cell?, h]
theorem NBox.c1 {w : World} {b : Nat} {n : Nn} (h : NBox w b n) : w.cell? ⟨b, 1, none⟩ = some (.int .u32 (nv32 n.2.1)) := by unfold NBox at h; simp [World.cell?, h]
theorem NBox.c2 {w : World} {b : Nat} {n : Nn} (h : NBox w b n) : w.cell? ⟨b, 2, none⟩ = some (.int .u64 (nv n.2.2)) := by unfold NBox at h; simp [World.cell?, h]
theorem NBox.lt {w : World} {b : Nat} {n : Nn} (h : NBox w b n) : b < w.heap.size := by
  obtain ⟨hlt, _⟩ := Array.getElem?_eq_some_iff.1 h
  exact hlt
theorem NBox.grown {w w' : World} {b : Nat} {n : Nn} (h : NBox w b n) (hb : Below w.heap.size w w') : NBox w' b n := (hb.block b h.lt).trans h
theorem NBox.alloc {w : World} {b : Nat} {n : Nn} (h : NBox w b n) (o : Obj) : NBox (w.alloc o) b n := h.grown ((Below.refl w.heap.size w).alloc (Nat.le_refl _) o)
theorem NBox.new (w : World) (n : Nn) : NBox (w.alloc (.cells #[.int .u32 (nv32 n.1), .int .u32 (nv32 n.2.1), .int .u64 (nv n.2.2)] 35)) w.heap.size n := by
  show (w.heap.push _)[w.heap.size]? = _
  simp
theorem eqN (a b c a' b' c' : Int) (w : World) : (Op.equalIn 10000 35 (.agg #[.int .u32 a, .int .u32 b, .int .u64 c]) (.agg #[.int .u32 a', .int .u32 b', .int .u64 c'])).run Try.prog w = .ok (a == a' && b == b' && c == c') w := by
  go_simp
  by_cases h1 : a = a' <;> by_cases h2 : b = b' <;> by_cases h3 : c = c' <;> simp [h1, h2, h3]
theorem non_eq_of (a b : Nn) : (nv32 a.1 == nv32 b.1 && nv32 a.2.1 == nv32 b.2.1 && nv a.2.2 == nv b.2.2) = decide (a = b) := by
  rw [Bool.eq_iff_iff, decide_eq_true_eq, ← non_eq a b]
  simp [and_assoc]
theorem NBox.frozen {w : World} {b : Nat} {n : Nn} (h : NBox w b n) (i : Nat) : w.frozen? ⟨b, i, none⟩ = false := by unfold NBox at h; simp [World.frozen?, h]
theorem NBox.drew {w : World} {b : Nat} {n : Nn} (h : NBox w b n) : NBox w.drew b n := h
/-- Sealed bytes in a block of their own. -/
def SBox (w : World) (b : Nat) (v : Value) (t1 t2 : Int) : Prop := w.heap[b]? = some (.cells #[v, .int .u64 t1, .int .u64 t2] 32 (0, 0))
theorem SBox.c0 {w : World} {b : Nat} {v : Value} {t1 t2 : Int} (h : SBox w b v t1 t2) : w.cell? ⟨b, 0, none⟩ = some v := by unfold SBox at h; simp [World.cell?, h]
theorem SBox.c1 {w : World} {b : Nat} {v : Value} {t1 t2 : Int} (h : SBox w b v t1 t2) : w.cell? ⟨b, 1, none⟩ = some (.int .u64 t1) := by unfold SBox at h; simp [World.cell?, h]
theorem SBox.c2 {w : World} {b : Nat} {v : Value} {t1 t2 : Int} (h : SBox w b v t1 t2) : w.cell? ⟨b, 2, none⟩ = some (.int .u64 t2) := by unfold SBox at h; simp [World.cell?, h]
theorem SBox.frozen {w : World} {b : Nat} {v : Value} {t1 t2 : Int} (h : SBox w b v t1 t2) (i : Nat) : w.frozen? ⟨b, i, none⟩ = false := by unfold SBox at h; simp [World.frozen?, h]
theorem SBox.lt {w : World} {b : Nat} {v : Value} {t1 t2 : Int} (h : SBox w b v t1 t2) : b < w.heap.size := by
  obtain ⟨hlt, _⟩ := Array.getElem?_eq_some_iff.1 h
  exact hlt
theorem SBox.below {w w' : World} {B b : Nat} {v : Value} {t1 t2 : Int} (h : SBox w b v t1 t2) (hb : Below B w w') (hB : b < B) : SBox w' b v t1 t2 := (hb.block b hB).trans h
theorem SBox.grown {w w' : World} {b : Nat} {v : Value} {t1 t2 : Int} (h : SBox w b v t1 t2) (hb : Below w.heap.size w w') : SBox w' b v t1 t2 := h.below hb h.lt
theorem SBox.alloc {w : World} {b : Nat} {v : Value} {t1 t2 : Int} (h : SBox w b v t1 t2) (o : Obj) : SBox (w.alloc o) b v t1 t2 := h.grown ((Below.refl w.heap.size w).alloc (Nat.le_refl _) o)
theorem SBox.new (w : World) (v : Value) (t1 t2 : Int) : SBox (w.alloc (.cells #[v, .int .u64 t1, .int .u64 t2] 32)) w.heap.size v t1 t2 := by
  show (w.heap.push _)[w.heap.size]? = _
  simp
theorem SBox.drew {w : World} {b : Nat} {v : Value} {t1 t2 : Int} (h : SBox w b v t1 t2) : SBox w.drew b v t1 t2 := h

theorem sat_other {w : World} {g : Nat} {z u : Option Addr} {n l c : Nat} {fs : List Int} {t1 t2 : Int} (h : SAt w z n fs) (hb : SBox w g (.slice u l c) t1 t2) (a b d : Value) : SAt (((w.setCell ⟨g, 0, none⟩ a).setCell ⟨g, 1, none⟩ b).setCell ⟨g, 2, none⟩ d) z n fs := by
  refine ⟨h.1, fun hn => ?_⟩
  obtain ⟨q, o, e, hq, hat⟩ := h.2 hn
  have hne : q ≠ g := by
    rintro rfl
    have h0 := hat 0 (by rw [h.1]; exact hn)
    unfold SBox at hb
    simp only [World.cell?, hb, Nat.add_zero] at h0
    match o, h0 with
    | 0, h0 => simp at h0
    | 1, h0 => simp at h0
    | 2, h0 => simp at h0
    | o + 3, h0 => simp at h0
  exact ⟨q, o, e, by simpa using hq, ((hat.setOther hne a).setOther hne b).setOther hne d⟩
theorem SBox.put3 {w : World} {b : Nat} {v : Value} {t1 t2 : Int} (h : SBox w b v t1 t2) (v' : Value) (t1' t2' : Int) : SBox (((w.setCell ⟨b, 0, none⟩ v').setCell ⟨b, 1, none⟩ (.int .u64 t1')).setCell ⟨b, 2, none⟩ (.int .u64 t2')) b v' t1' t2' := by
  unfold SBox at h ⊢
  simp [World.setCell, Array.getElem?_modify, h]
end Go.Proofs.Ytkkehbebaokdmaa
