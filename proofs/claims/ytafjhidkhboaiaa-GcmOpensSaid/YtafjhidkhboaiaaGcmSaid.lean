/- What the statements ask of gcm, and of the document's own: fn is the function. -/
import Derived.Test.YtafjhidkhboaiaaRefTag
namespace Go.Proofs.Ytafjhidkhboaiaa
open Go.RowKit

/-- Sealed bytes in a block of their own. -/
def SBox (w : World) (b : Nat) (v : Value) (t1 t2 : Int) : Prop := w.heap[b]? = some (.cells #[v, .int .u64 t1, .int .u64 t2] 30 (0, 0))
theorem SBox.c0 {w : World} {b : Nat} {v : Value} {t1 t2 : Int} (h : SBox w b v t1 t2) : w.cell? ⟨b, 0, none⟩ = some v := by unfold SBox at h; simp [World.cell?, h]
theorem SBox.c1 {w : World} {b : Nat} {v : Value} {t1 t2 : Int} (h : SBox w b v t1 t2) : w.cell? ⟨b, 1, none⟩ = some (.int .u64 t1) := by unfold SBox at h; simp [World.cell?, h]
theorem SBox.c2 {w : World} {b : Nat} {v : Value} {t1 t2 : Int} (h : SBox w b v t1 t2) : w.cell? ⟨b, 2, none⟩ = some (.int .u64 t2) := by unfold SBox at h; simp [World.cell?, h]
theorem SBox.frozen {w : World} {b : Nat} {v : Value} {t1 t2 : Int} (h : SBox w b v t1 t2) (i : Nat) : w.frozen? ⟨b, i, none⟩ = false := by unfold SBox at h; simp [World.frozen?, h]
theorem SBox.lt {w : World} {b : Nat} {v : Value} {t1 t2 : Int} (h : SBox w b v t1 t2) : b < w.heap.size := by
  obtain ⟨hlt, _⟩ := Array.getElem?_eq_some_iff.1 h
  exact hlt
theorem SBox.below {w w' : World} {B b : Nat} {v : Value} {t1 t2 : Int} (h : SBox w b v t1 t2) (hb : Below B w w') (hB : b < B) : SBox w' b v t1 t2 := (hb.block b hB).trans h
theorem SBox.grown {w w' : World} {b : Nat} {v : Value} {t1 t2 : Int} (h : SBox w b v t1 t2) (hb : Below w.heap.size w w') : SBox w' b v t1 t2 := h.below hb h.lt
theorem SBox.alloc {w : World} {b : Nat} {v : Value} {t1 t2 : Int} (h : SBox w b v t1 t2) (o : Obj) : SBox (w.alloc o) b v t1 t2 := h.grown ((Below.refl w.heap.size w).alloc (Nat.le_refl _) o)
theorem SBox.new (w : World) (v : Value) (t1 t2 : Int) : SBox (w.alloc (.cells #[v, .int .u64 t1, .int .u64 t2] 30)) w.heap.size v t1 t2 := by
  show (w.heap.push _)[w.heap.size]? = _
  simp
theorem SBox.drew {w : World} {b : Nat} {v : Value} {t1 t2 : Int} (h : SBox w b v t1 t2) : SBox w.drew b v t1 t2 := h

theorem sat_other {w : World} {g : Nat} {z u : Option Addr} {n l c : Nat} {fs : List Int} {t1 t2 : Int} (h : SAt w z n fs) (hb : SBox w g (.slice u l c) t1 t2) (a b d : Value) : SAt (((w.setCell ⟨g, 0, none⟩ a).setCell ⟨g, 1, none⟩ b).setCell ⟨g, 2, none⟩ d) z n fs := by
  refine ⟨h.1, fun hn => ?_⟩
  obtain ⟨q, o, e, hq, hat⟩ := h.2 hn
  have hne : q ≠ g := by
    rintro rfl
    have h0 := hat 0 (by rw [h.1]; exact hn)
    unfold SBox at hb
    simp only [World.cell?, hb, Nat.add_zero] at h0
    match o, h0 with
    | 0, h0 => simp at h0
    | 1, h0 => simp at h0
    | 2, h0 => simp at h0
    | o + 3, h0 => simp at h0
  exact ⟨q, o, e, by simpa using hq, ((hat.setOther hne a).setOther hne b).setOther hne d⟩

/-- A tag. -/
def TagIs (fn : Nat) : Prop := ∀ (sub : BitVec 64 × BitVec 64) (xs ys : List Int) (x y : Option Addr) (n m c d : Nat), n ≤ 5000 → m ≤ 5000 → n ≤ c → m ≤ d → Bytes xs → Bytes ys → (x = none → n = 0 ∧ c = 0) → (y = none → m = 0 ∧ d = 0) → ∀ w : World, SAt w x n xs → SAt w y m ys →
  Calls Try.prog fn #[.agg #[.int .u64 (nv sub.1), .int .u64 (nv sub.2)], .slice x n c, .slice y m d] w fun e w' => e = .returned (.agg #[.int .u64 (nv (tagP sub xs ys).1), .int .u64 (nv (tagP sub xs ys).2)]) ∧ Below w.heap.size w w'
/-- Bytes that may be sealed are. -/
def SealIn (fn : Nat) : Prop := ∀ (key : BitVec 64 × BitVec 64) (n : Nn) (xs ys : List Int) (x y : Option Addr) (nx ny c d : Nat), nx ≤ 4000 → ny ≤ 4000 → Bytes xs → Bytes ys → nx ≤ c → ny ≤ d → (x = none → nx = 0 ∧ c = 0) → (y = none → ny = 0 ∧ d = 0) → ∀ w : World, SAt w x nx xs → SAt w y ny ys → 
  Calls Try.prog fn #[.agg #[.int .u64 (nv key.1), .int .u64 (nv key.2)], .agg #[.int .u32 (nv32 n.1), .int .u32 (nv32 n.2.1), .int .u64 (nv n.2.2)], .slice x nx c, .slice y ny d] w fun e w' => ∃ z cz, e = .returned (.tuple #[.agg #[.slice z ny cz, .int .u64 (nv (tagP (subP key n) xs (mixL (subP key n) ys)).1), .int .u64 (nv (tagP (subP key n) xs (mixL (subP key n) ys)).2)], .bool true]) ∧ SAt w' z ny (mixL (subP key n) ys) ∧ ny ≤ cz ∧ cz ≤ maxLen ∧ (z = none → ny = 0 ∧ cz = 0) ∧ Below w.heap.size w w'
/-- Others are not. -/
def SealOut (fn : Nat) : Prop := ∀ (key : BitVec 64 × BitVec 64) (n : Nn) (x y : Option Addr) (nx ny c d : Nat), 4000 < nx ∨ 4000 < ny → ∀ w : World,
  Calls Try.prog fn #[.agg #[.int .u64 (nv key.1), .int .u64 (nv key.2)], .agg #[.int .u32 (nv32 n.1), .int .u32 (nv32 n.2.1), .int .u64 (nv n.2.2)], .slice x nx c, .slice y ny d] w fun e w' => e = .returned (.tuple #[.agg #[.slice none 0 0, .int .u64 0, .int .u64 0], .bool false]) ∧ Below w.heap.size w w'
/-- What has its tag is opened. -/
def OpenYes (fn : Nat) : Prop := ∀ (key : BitVec 64 × BitVec 64) (n : Nn) (xs ys : List Int) (x y : Option Addr) (nx ny c d : Nat) (t : BitVec 64 × BitVec 64), nx ≤ 4000 → ny ≤ 4000 → tagP (subP key n) xs ys = t → Bytes xs → Bytes ys → nx ≤ c → ny ≤ d → (x = none → nx = 0 ∧ c = 0) → (y = none → ny = 0 ∧ d = 0) → ∀ w : World, SAt w x nx xs → SAt w y ny ys → 
  Calls Try.prog fn #[.agg #[.int .u64 (nv key.1), .int .u64 (nv key.2)], .agg #[.int .u32 (nv32 n.1), .int .u32 (nv32 n.2.1), .int .u64 (nv n.2.2)], .slice x nx c, .agg #[.slice y ny d, .int .u64 (nv t.1), .int .u64 (nv t.2)]] w fun e w' => ∃ z cz, e = .returned (.tuple #[.slice z ny cz, .bool true]) ∧ SAt w' z ny (mixL (subP key n) ys) ∧ Below w.heap.size w w'
/-- What hasn't is not. -/
def OpenNo (fn : Nat) : Prop := ∀ (key : BitVec 64 × BitVec 64) (n : Nn) (xs ys : List Int) (x y : Option Addr) (nx ny c d : Nat) (t : BitVec 64 × BitVec 64), nx ≤ 4000 → ny ≤ 4000 → tagP (subP key n) xs ys ≠ t → Bytes xs → Bytes ys → nx ≤ c → ny ≤ d → (x = none → nx = 0 ∧ c = 0) → (y = none → ny = 0 ∧ d = 0) → ∀ w : World, SAt w x nx xs → SAt w y ny ys → 
  Calls Try.prog fn #[.agg #[.int .u64 (nv key.1), .int .u64 (nv key.2)], .agg #[.int .u32 (nv32 n.1), .int .u32 (nv32 n.2.1), .int .u64 (nv n.2.2)], .slice x nx c, .agg #[.slice y ny d, .int .u64 (nv t.1), .int .u64 (nv t.2)]] w fun e w' => (∃ z cz, e = .returned (.tuple #[.slice z 0 cz, .bool false])) ∧ Below w.heap.size w w'
/-- What is longer is not. -/
def OpenLong (fn : Nat) : Prop := ∀ (key : BitVec 64 × BitVec 64) (n : Nn) (x y : Option Addr) (nx ny c d : Nat) (t1 t2 : Int), 4000 < nx ∨ 4000 < ny → ∀ w : World,
  Calls Try.prog fn #[.agg #[.int .u64 (nv key.1), .int .u64 (nv key.2)], .agg #[.int .u32 (nv32 n.1), .int .u32 (nv32 n.2.1), .int .u64 (nv n.2.2)], .slice x nx c, .agg #[.slice y ny d, .int .u64 t1, .int .u64 t2]] w fun e w' => (∃ z cz, e = .returned (.tuple #[.slice z 0 cz, .bool false])) ∧ Below w.heap.size w w'
end Go.Proofs.Ytafjhidkhboaiaa
