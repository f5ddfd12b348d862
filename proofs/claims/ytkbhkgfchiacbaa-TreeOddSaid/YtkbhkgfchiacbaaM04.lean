/- NonB BoxN RefSame RefOOpen OTwo RefOSame LIn Fit OrcSaid BRef1 App1 RefSpk: texts laid together. -/
import Derived.Test.YtkbhkgfchiacbaaM03
import Derived.Test.YtkbhkgfchiacbaaRows
import Derived.WalkKit
import Derived.WalkSpells
import Derived.WalkLawsBesides
import Derived.Deep.OwnRows
import Derived.Handy
import Derived.Test.YtkbhkgfchiacbaaM02
import Derived.Test.YtkbhkgfchiacbaaM01

/- Numbers in blocks of their own; when two are one. -/
namespace Go.Proofs.Ytkbhkgfchiacbaa
open Go.RowKit
set_option maxRecDepth 20000

theorem non_eq (a b : Nn) : (nv32 a.1 = nv32 b.1 ∧ nv32 a.2.1 = nv32 b.2.1 ∧ nv a.2.2 = nv b.2.2) ↔ a = b := by
  constructor
  · rintro ⟨h1, h2, h3⟩
    exact Prod.ext (nv32_inj h1) (Prod.ext (nv32_inj h2) (nv_inj h3))
  · rintro rfl
    exact ⟨rfl, rfl, rfl⟩
/-- A number in a block of its own. -/
def NBox (w : World) (b : Nat) (n : Nn) : Prop := w.heap[b]? = some (.cells #[.int .u32 (nv32 n.1), .int .u32 (nv32 n.2.1), .int .u64 (nv n.2.2)] 74 (0, 0))
theorem NBox.c0 {w : World} {b : Nat} {n : Nn} (h : NBox w b n) : w.cell? ⟨b, 0, none⟩ = some (.int .u32 (nv32 n.1)) := by unfold NBox at h; simp [World.cell?, h]
theorem NBox.c1 {w : World} {b : Nat} {n : Nn} (h : NBox w b n) : w.cell? ⟨b, 1, none⟩ = some (.int .u32 (nv32 n.2.1)) := by unfold NBox at h; simp [World.cell?, h]
theorem NBox.c2 {w : World} {b : Nat} {n : Nn} (h : NBox w b n) : w.cell? ⟨b, 2, none⟩ = some (.int .u64 (nv n.2.2)) := by unfold NBox at h; simp [World.cell?, h]
theorem NBox.lt {w : World} {b : Nat} {n : Nn} (h : NBox w b n) : b < w.heap.size := by
  obtain ⟨hlt, _⟩ := Array.getElem?_eq_some_iff.1 h
  exact hlt
theorem NBox.grown {w w' : World} {b : Nat} {n : Nn} (h : NBox w b n) (hb : Below w.heap.size w w') : NBox w' b n := (hb.block b h.lt).trans h
theorem NBox.alloc {w : World} {b : Nat} {n : Nn} (h : NBox w b n) (o : Obj) : NBox (w.alloc o) b n := h.grown ((Below.refl w.heap.size w).alloc (Nat.le_refl _) o)
theorem NBox.new (w : World) (n : Nn) : NBox (w.alloc (.cells #[.int .u32 (nv32 n.1), .int .u32 (nv32 n.2.1), .int .u64 (nv n.2.2)] 74)) w.heap.size n := by
  show (w.heap.push _)[w.heap.size]? = _
  simp
theorem eqN (a b c a' b' c' : Int) (w : World) : (Op.equalIn 10000 74 (.agg #[.int .u32 a, .int .u32 b, .int .u64 c]) (.agg #[.int .u32 a', .int .u32 b', .int .u64 c'])).run Try.prog w = .ok (a == a' && b == b' && c == c') w := by
  go_simp
  by_cases h1 : a = a' <;> by_cases h2 : b = b' <;> by_cases h3 : c = c' <;> simp [h1, h2, h3]
theorem non_eq_of (a b : Nn) : (nv32 a.1 == nv32 b.1 && nv32 a.2.1 == nv32 b.2.1 && nv a.2.2 == nv b.2.2) = decide (a = b) := by
  rw [Bool.eq_iff_iff, decide_eq_true_eq, ← non_eq a b]
  simp [and_assoc]
theorem NBox.frozen {w : World} {b : Nat} {n : Nn} (h : NBox w b n) (i : Nat) : w.frozen? ⟨b, i, none⟩ = false := by unfold NBox at h; simp [World.frozen?, h]
theorem NBox.drew {w : World} {b : Nat} {n : Nn} (h : NBox w b n) : NBox w.drew b n := h
end Go.Proofs.Ytkbhkgfchiacbaa


/- Numbers and sealed bytes in blocks of their own; when two are one. -/
namespace Go.Proofs.Ytkbhkgfchiacbaa
open Go.RowKit
set_option maxRecDepth 20000

theorem pair_eq_of (p q : BitVec 64 × BitVec 64) : (nv p.1 == nv q.1 && nv p.2 == nv q.2) = decide (p = q) := by
  rw [nv_eq, nv_eq, Bool.eq_iff_iff]
  simp [Prod.ext_iff]
/-- Sealed bytes in a block of their own. -/
def SBox (w : World) (b : Nat) (v : Value) (t1 t2 : Int) : Prop := w.heap[b]? = some (.cells #[v, .int .u64 t1, .int .u64 t2] 76 (0, 0))
theorem SBox.c0 {w : World} {b : Nat} {v : Value} {t1 t2 : Int} (h : SBox w b v t1 t2) : w.cell? ⟨b, 0, none⟩ = some v := by unfold SBox at h; simp [World.cell?, h]
theorem SBox.c1 {w : World} {b : Nat} {v : Value} {t1 t2 : Int} (h : SBox w b v t1 t2) : w.cell? ⟨b, 1, none⟩ = some (.int .u64 t1) := by unfold SBox at h; simp [World.cell?, h]
theorem SBox.c2 {w : World} {b : Nat} {v : Value} {t1 t2 : Int} (h : SBox w b v t1 t2) : w.cell? ⟨b, 2, none⟩ = some (.int .u64 t2) := by unfold SBox at h; simp [World.cell?, h]
theorem SBox.frozen {w : World} {b : Nat} {v : Value} {t1 t2 : Int} (h : SBox w b v t1 t2) (i : Nat) : w.frozen? ⟨b, i, none⟩ = false := by unfold SBox at h; simp [World.frozen?, h]
theorem SBox.lt {w : World} {b : Nat} {v : Value} {t1 t2 : Int} (h : SBox w b v t1 t2) : b < w.heap.size := by
  obtain ⟨hlt, _⟩ := Array.getElem?_eq_some_iff.1 h
  exact hlt
theorem SBox.below {w w' : World} {B b : Nat} {v : Value} {t1 t2 : Int} (h : SBox w b v t1 t2) (hb : Below B w w') (hB : b < B) : SBox w' b v t1 t2 := (hb.block b hB).trans h
theorem SBox.grown {w w' : World} {b : Nat} {v : Value} {t1 t2 : Int} (h : SBox w b v t1 t2) (hb : Below w.heap.size w w') : SBox w' b v t1 t2 := h.below hb h.lt
theorem SBox.alloc {w : World} {b : Nat} {v : Value} {t1 t2 : Int} (h : SBox w b v t1 t2) (o : Obj) : SBox (w.alloc o) b v t1 t2 := h.grown ((Below.refl w.heap.size w).alloc (Nat.le_refl _) o)
theorem SBox.new (w : World) (v : Value) (t1 t2 : Int) : SBox (w.alloc (.cells #[v, .int .u64 t1, .int .u64 t2] 76)) w.heap.size v t1 t2 := by
  show (w.heap.push _)[w.heap.size]? = _
  simp
theorem SBox.drew {w : World} {b : Nat} {v : Value} {t1 t2 : Int} (h : SBox w b v t1 t2) : SBox w.drew b v t1 t2 := h

theorem sat_other {w : World} {g : Nat} {z u : Option Addr} {n l c : Nat} {fs : List Int} {t1 t2 : Int} (h : SAt w z n fs) (hb : SBox w g (.slice u l c) t1 t2) (a b d : Value) : SAt (((w.setCell ⟨g, 0, none⟩ a).setCell ⟨g, 1, none⟩ b).setCell ⟨g, 2, none⟩ d) z n fs := by
  refine ⟨h.1, fun hn => ?_⟩
  obtain ⟨q, o, e, hq, hat⟩ := h.2 hn
  have hne : q ≠ g := by
    rintro rfl
    have h0 := hat 0 (by rw [h.1]; exact hn)
    unfold SBox at hb
    simp only [World.cell?, hb, Nat.add_zero] at h0
    match o, h0 with
    | 0, h0 => simp at h0
    | 1, h0 => simp at h0
    | 2, h0 => simp at h0
    | o + 3, h0 => simp at h0
  exact ⟨q, o, e, by simpa using hq, ((hat.setOther hne a).setOther hne b).setOther hne d⟩
theorem SBox.put3 {w : World} {b : Nat} {v : Value} {t1 t2 : Int} (h : SBox w b v t1 t2) (v' : Value) (t1' t2' : Int) : SBox (((w.setCell ⟨b, 0, none⟩ v').setCell ⟨b, 1, none⟩ (.int .u64 t1')).setCell ⟨b, 2, none⟩ (.int .u64 t2')) b v' t1' t2' := by
  unfold SBox at h ⊢
  simp [World.setCell, Array.getElem?_modify, h]
end Go.Proofs.Ytkbhkgfchiacbaa


/- What lockboxref5.Same comes to, of any two. -/
namespace Go.Proofs.Ytkbhkgfchiacbaa
open Go.RowKit
set_option maxRecDepth 20000

end Go.Proofs.Ytkbhkgfchiacbaa


/- What lockboxref7's Open comes to. -/
namespace Go.Proofs.Ytkbhkgfchiacbaa
open Go.RowKit
set_option maxRecDepth 20000

theorem Try.iss10 : Try.prog.cellsOf 98 = 10 := by kernel_rfl
/-- The cells of the i-th issue of a row. -/
theorem iss_cells {G : Nat → Prop} {w : World} {v : Value} {L : List Iss} (h : IRow G w v L) (i : Nat) (hi : i < L.length) : ∃ g cap c, v = .slice (some ⟨g, 0, none⟩) L.length cap ∧ L.length ≤ cap ∧ g < w.heap.size ∧ IssIn (fun k => G k ∧ v.ownBlock ≠ some k) w (L.getD i default) c i ∧ ∀ j u, (issC (L.getD i default) c i)[j]? = some u → w.cell? ⟨g, i * 10 + j, none⟩ = some u := by
  obtain ⟨C, h1, h2, h3⟩ := h
  have hget : ∀ j, j < 10 → (flatG (fun i => issC (L.getD i default) (C i) i) L.length)[i * 10 + j]? = (issC (L.getD i default) (C i) i)[j]? := fun j hj => flatG_get (s := 10) (fun i => issC_length _ _ i) L.length i j hi hj
  obtain ⟨g, cap, rfl, hnc, hgl, _⟩ := own_cell h1 ((hget 0 (by decide)).trans rfl)
  refine ⟨g, cap, C i, rfl, hnc, hgl, h3 i hi, fun j u hj => ?_⟩
  have hj10 : j < 10 := by
    rcases Nat.lt_or_ge j 10 with h | h
    · exact h
    · rw [List.getElem?_eq_none (by rw [issC_length]; exact h)] at hj
      cases hj
  obtain ⟨g', cap', e, _, _, hc⟩ := own_cell h1 ((hget j hj10).trans hj)
  simp only [Value.slice.injEq, Option.some.injEq, Addr.mk.injEq] at e
  rw [e.1.1]
  exact hc

end Go.Proofs.Ytkbhkgfchiacbaa


/- Two issues of one key and one number. -/
namespace Go.Proofs.Ytkbhkgfchiacbaa
open Go.RowKit
set_option maxRecDepth 20000

/-- Two of these have one key and one number. -/
def Mate (L : List Iss) (i k : Nat) : Prop := (L.getD i default).key = (L.getD k default).key ∧ (L.getD i default).non = (L.getD k default).non
def Two (L : List Iss) : Prop := ∃ i k, k < i ∧ i < L.length ∧ Mate L i k
theorem iss_rows {G : Nat → Prop} {w : World} {v : Value} {L : List Iss} (h : IRow G w v L) (hp : 0 < L.length) : ∃ g cap, v = .slice (some ⟨g, 0, none⟩) L.length cap ∧ L.length ≤ cap ∧ g < w.heap.size ∧ ∀ i, i < L.length → ∃ c, IssIn (fun k => G k ∧ v.ownBlock ≠ some k) w (L.getD i default) c i ∧ ∀ j u, (issC (L.getD i default) c i)[j]? = some u → w.cell? ⟨g, i * 10 + j, none⟩ = some u := by
  obtain ⟨g, cap, _, hv, hcap, hgl, _, _⟩ := iss_cells h 0 hp
  refine ⟨g, cap, hv, hcap, hgl, fun i hi => ?_⟩
  obtain ⟨g', cap', c, hv', _, _, h1, h2⟩ := iss_cells h i hi
  rw [hv'] at hv
  simp only [Value.slice.injEq, Option.some.injEq, Addr.mk.injEq] at hv
  rw [hv.1.1] at h2
  exact ⟨c, h1, h2⟩

end Go.Proofs.Ytkbhkgfchiacbaa


/- What lockboxref7.Same comes to, where both are the same issues. -/
namespace Go.Proofs.Ytkbhkgfchiacbaa
open Go.RowKit
set_option maxRecDepth 20000

/-- A slice of issues, to be read. -/
def IRd (w : World) (x : Option Addr) (n : Nat) (L : List Iss) : Prop := L.length = n ∧ (0 < n → ∃ g o, x = some ⟨g, o, none⟩ ∧ g < w.heap.size ∧ ∀ i, i < n → ∃ c, IssIn (fun _ => True) w (L.getD i default) c i ∧ ∀ j u, (issC (L.getD i default) c i)[j]? = some u → w.cell? ⟨g, o + i * 10 + j, none⟩ = some u)
theorem IRd.below {w w' : World} {x : Option Addr} {n : Nat} {L : List Iss} (h : IRd w x n L) (hb : Below w.heap.size w w') : IRd w' x n L :=
  ⟨h.1, fun hn => by
    obtain ⟨g, o, e, hg, hr⟩ := h.2 hn
    refine ⟨g, o, e, Nat.lt_of_lt_of_le hg hb.size, fun i hi => ?_⟩
    obtain ⟨c, h1, h2⟩ := hr i hi
    exact ⟨c, h1.off (Off.of_below (F := fun _ => False) hb) (fun _ _ _ h => h), fun j u hj => (hb.cell (p := ⟨g, o + i * 10 + j, none⟩) hg).trans (h2 j u hj)⟩⟩
theorem IRow.rd {G : Nat → Prop} {w : World} {v : Value} {L : List Iss} (h : IRow G w v L) : ∃ x cap, v = .slice x L.length cap ∧ L.length ≤ cap ∧ IRd w x L.length L := by
  by_cases hp : 0 < L.length
  · obtain ⟨g, cap, rfl, hcap, hgl, hr⟩ := iss_rows h hp
    refine ⟨_, cap, rfl, hcap, rfl, fun _ => ⟨g, 0, rfl, hgl, fun i hi => ?_⟩⟩
    obtain ⟨c, h1, h2⟩ := hr i hi
    exact ⟨c, h1.mono (fun _ _ _ => trivial), fun j u hj => by rw [Nat.zero_add]; exact h2 j u hj⟩
  · obtain ⟨C, h1, _⟩ := h
    obtain ⟨y, cy, rfl, hc, -, -⟩ := own_is h1
    exact ⟨y, cy, rfl, hc, rfl, fun h => absurd h hp⟩
end Go.Proofs.Ytkbhkgfchiacbaa


/- Slices of rows of bytes, in blocks of G. -/
namespace Go.Proofs.Ytkbhkgfchiacbaa
open Go.RowKit
set_option maxRecDepth 20000

theorem Off.one (w : World) (b i : Nat) (u : Value) : Off (fun k => k = b) w (w.setCell ⟨b, i, Option.none⟩ u) := (Off.refl (fun k => k = b) w).setCell (p := ⟨b, i, Option.none⟩) (Or.inl rfl) u
/-- The slice in this cell has these bytes. -/
def RowInG (G : Nat → Prop) (w : World) (b o : Nat) (ys : List Int) : Prop := ∃ y c, w.cell? ⟨b, o, none⟩ = some (.slice y ys.length c) ∧ SIn G w y ys.length ys ∧ ys.length ≤ c ∧ c ≤ maxLen ∧ (y = none → ys.length = 0 ∧ c = 0) ∧ Bytes ys
theorem RowInG.of {G : Nat → Prop} {w : World} {b o n c : Nat} {y : Option Addr} {ys : List Int} (h : w.cell? ⟨b, o, none⟩ = some (.slice y n c)) (hs : SIn G w y n ys) (hc : n ≤ c) (hm : c ≤ maxLen) (hnil : y = none → n = 0 ∧ c = 0) (hb : Bytes ys) : RowInG G w b o ys := by
  obtain rfl : ys.length = n := hs.1
  exact ⟨y, c, h, hs, hc, hm, hnil, hb⟩
/-- A slice of m rows. -/
def LIn (G : Nat → Prop) (w : World) (x : Option Addr) (m : Nat) (P : List (List Int)) : Prop := P.length = m ∧ (0 < m → ∃ b o, x = some ⟨b, o, none⟩ ∧ b < w.heap.size ∧ G b ∧ ∀ i, i < m → RowInG G w b (o + i) (P.getD i []))
theorem LIn.off {F G : Nat → Prop} {w w' : World} {x : Option Addr} {m : Nat} {P : List (List Int)} (h : LIn G w x m P) (hb : Off F w w') (hd : ∀ b, b < w.heap.size → G b → ¬ F b) : LIn G w' x m P :=
  ⟨h.1, fun hm => by
    obtain ⟨b, o, e, hlt, hg, hr⟩ := h.2 hm
    refine ⟨b, o, e, Nat.lt_of_lt_of_le hlt hb.size, hg, fun i hi => ?_⟩
    obtain ⟨y, c, h1, h2, h3⟩ := hr i hi
    exact ⟨y, c, (hb.cell (p := ⟨b, o + i, none⟩) hlt (hd b hlt hg)).trans h1, h2.off hb hd, h3⟩⟩
theorem LIn.drew {G : Nat → Prop} {w : World} {x : Option Addr} {m : Nat} {P : List (List Int)} (h : LIn G w x m P) : LIn G w.drew x m P := h.off (F := fun _ => False) (Off.refl _ _).drew (fun _ _ _ h => h)
theorem lin_none (G : Nat → Prop) (w : World) (x : Option Addr) : LIn G w x 0 [] := ⟨rfl, fun h => absurd h (by omega)⟩
theorem lin_one {G : Nat → Prop} (w : World) {y : Option Addr} {n c : Nat} {ys : List Int} (hG : G w.heap.size) (hs : SIn G w y n ys) (hc : n ≤ c) (hm : c ≤ maxLen) (hnil : y = none → n = 0 ∧ c = 0) (hb : Bytes ys) :
    LIn G (w.alloc (.cells #[.slice y n c] 40)) (some ⟨w.heap.size, 0, none⟩) 1 [ys] := by
  refine ⟨rfl, fun _ => ⟨w.heap.size, 0, rfl, by rw [World.size_alloc]; omega, hG, fun i hi => ?_⟩⟩
  obtain rfl : i = 0 := by omega
  exact RowInG.of (y := y) (n := n) (c := c) (by simp) (hs.off (F := fun _ => False) ((Off.refl _ _).alloc _) (fun _ _ _ h => h)) hc hm hnil hb
theorem lin_two {G : Nat → Prop} (w : World) {y z : Option Addr} {n c k d : Nat} {ys zs : List Int} (hG : G w.heap.size) (hs : SIn G w y n ys) (hc : n ≤ c) (hm : c ≤ maxLen) (hnil : y = none → n = 0 ∧ c = 0) (hb : Bytes ys)
    (hs2 : SIn G w z k zs) (hc2 : k ≤ d) (hm2 : d ≤ maxLen) (hnil2 : z = none → k = 0 ∧ d = 0) (hb2 : Bytes zs) :
    LIn G (w.alloc (.cells #[.slice y n c, .slice z k d] 40)) (some ⟨w.heap.size, 0, none⟩) 2 [ys, zs] := by
  refine ⟨rfl, fun _ => ⟨w.heap.size, 0, rfl, by rw [World.size_alloc]; omega, hG, fun i hi => ?_⟩⟩
  match i, hi with
  | 0, _ => exact RowInG.of (y := y) (n := n) (c := c) (by simp) (hs.off (F := fun _ => False) ((Off.refl _ _).alloc _) (fun _ _ _ h => h)) hc hm hnil hb
  | 1, _ => exact RowInG.of (y := z) (n := k) (c := d) (by simp) (hs2.off (F := fun _ => False) ((Off.refl _ _).alloc _) (fun _ _ _ h => h)) hc2 hm2 hnil2 hb2
end Go.Proofs.Ytkbhkgfchiacbaa


/- A slice: so long, so much room. -/
namespace Go.Proofs.Ytkbhkgfchiacbaa
open Go.RowKit
set_option maxRecDepth 20000

/-- A slice: so long, so much room. -/
def Fit (x : Option Addr) (n c : Nat) : Prop := n ≤ c ∧ c ≤ maxLen ∧ (x = none → n = 0 ∧ c = 0)
theorem fit_none : Fit none 0 0 := ⟨Nat.le_refl _, Nat.zero_le _, fun _ => ⟨rfl, rfl⟩⟩
end Go.Proofs.Ytkbhkgfchiacbaa


/- What the statements ask of the program's ideal sealer: by an invariant that its own text gives. -/
namespace Go.Proofs.Ytkbhkgfchiacbaa
open Go.RowKit
set_option maxRecDepth 20000

def kv (key : BitVec 64 × BitVec 64) : Value := .agg #[.int .u64 (nv key.1), .int .u64 (nv key.2)]
def nvv (n : Nn) : Value := .agg #[.int .u32 (nv32 n.1), .int .u32 (nv32 n.2.1), .int .u64 (nv n.2.2)]
/-- A slice of issues in memory of G, none of it frozen. -/
def IRdG (G : Nat → Prop) (w : World) (x : Option Addr) (n : Nat) (L : List Iss) : Prop := L.length = n ∧ (0 < n → ∃ g o, x = some ⟨g, o, none⟩ ∧ g < w.heap.size ∧ G g ∧ ∀ i, i < n → ∃ c, IssIn G w (L.getD i default) c i ∧ ∀ j u, (issC (L.getD i default) c i)[j]? = some u → w.cell? ⟨g, o + i * 10 + j, none⟩ = some u)
theorem IRdG.rd {G : Nat → Prop} {w : World} {x : Option Addr} {n : Nat} {L : List Iss} (h : IRdG G w x n L) : IRd w x n L :=
  ⟨h.1, fun hn => by
    obtain ⟨g, o, e, hg, _, hr⟩ := h.2 hn
    refine ⟨g, o, e, hg, fun i hi => ?_⟩
    obtain ⟨c, h1, h2⟩ := hr i hi
    exact ⟨c, h1.mono (fun _ _ _ => trivial), h2⟩⟩
/-- Behind a call on an object: what it has now, and what has turned. -/
structure Kept (Inv : (Nat → Prop) → World → Value → OSt → Prop) (F : Nat → Prop) (w : World) (v : Value) (F' : Nat → Prop) (w' : World) (st' : OSt) : Prop where
  inv : Inv F' w' v st'
  sub : ∀ k, F' k → F k ∨ w.heap.size ≤ k
  off : Off F w w'
structure OrcIs (Inv : (Nat → Prop) → World → Value → OSt → Prop) : Prop where
  stay : ∀ {F : Nat → Prop} {w w' : World} {v : Value} {st : OSt}, Inv F w v st → w.heap.size ≤ w'.heap.size → (∀ k, F k → w'.heap[k]? = w.heap[k]?) → Inv F w' v st
  lt : ∀ {F : Nat → Prop} {w : World} {v : Value} {st : OSt}, Inv F w v st → ∀ k, F k → k < w.heap.size
  ptr : ∀ {F : Nat → Prop} {w : World} {v : Value} {st : OSt}, Inv F w v st → ∃ a, v = .pointer (some a)
  make : ∀ w : World, Calls Try.prog 33 #[] w fun e w' => ∃ v F, e = .returned v ∧ Inv F w' v ([], []) ∧ (∀ k, F k → w.heap.size ≤ k) ∧ Below w.heap.size w w'
  sealIn : ∀ (F : Nat → Prop) (v : Value) (L : List Iss) (S : List (List Int)) (key : BitVec 64 × BitVec 64) (nn : Nn) (xs ys : List Int) (x y : Option Addr) (nx ny c d : Nat), nx ≤ 4000 → ny ≤ 4000 → L.length ≤ 10000 → Bytes xs → Bytes ys → Fit x nx c → Fit y ny d → ∀ w : World, Inv F w v (L, S) → SIn (fun k => ¬ F k) w x nx xs → SIn (fun k => ¬ F k) w y ny ys →
    Calls Try.prog 34 #[v, kv key, nvv nn, .slice x nx c, .slice y ny d] w fun e w' => ∃ z cz F', e = .returned (.tuple #[.agg #[.slice z ny cz, .int .u64 18446744073709551615, .int .u64 ((L.length : Int) + 1)], .bool true]) ∧ Kept Inv F w v F' w' (L ++ [⟨key, nn, xs, ys⟩], S) ∧ SIn (fun k => w.heap.size ≤ k ∧ ¬ F' k) w' z ny (outB (L.length + 1) ny) ∧ Fit z ny cz
  openYes : ∀ (F : Nat → Prop) (v : Value) (st : OSt) (q : Ask) (x y : Option Addr) (n m c d i : Nat), st.1.length ≤ 10000 → Bytes q.head → Bytes q.bytes → Fit x n c → Fit y m d → Hit st.1 q i → ∀ w : World, Inv F w v st → SIn (fun k => ¬ F k) w x n q.head → SIn (fun k => ¬ F k) w y m q.bytes →
    Calls Try.prog 35 #[v, kv q.key, nvv q.non, .slice x n c, .agg #[.slice y m d, .int .u64 (nv q.tag.1), .int .u64 (nv q.tag.2)]] w fun e w' => ∃ z cz F', e = .returned (.tuple #[.slice z (st.1.getD i default).data.length cz, .bool true]) ∧ Kept Inv F w v F' w' st ∧ SIn (fun k => w.heap.size ≤ k ∧ ¬ F' k) w' z (st.1.getD i default).data.length (st.1.getD i default).data
  openNo : ∀ (F : Nat → Prop) (v : Value) (st : OSt) (q : Ask) (x y : Option Addr) (n m c d : Nat), st.1.length ≤ 10000 → Bytes q.head → Bytes q.bytes → Fit x n c → Fit y m d → (∀ i, ¬ Hit st.1 q i) → ∀ w : World, Inv F w v st → SIn (fun k => ¬ F k) w x n q.head → SIn (fun k => ¬ F k) w y m q.bytes →
    Calls Try.prog 35 #[v, kv q.key, nvv q.non, .slice x n c, .agg #[.slice y m d, .int .u64 (nv q.tag.1), .int .u64 (nv q.tag.2)]] w fun e w' => ∃ z cz F', e = .returned (.tuple #[.slice z 0 cz, .bool false]) ∧ Kept Inv F w v F' w' st
  sum : ∀ (F : Nat → Prop) (v : Value) (L : List Iss) (S : List (List Int)) (P : List (List Int)) (x : Option Addr) (m c : Nat), m ≤ 1000 → P.flatten.length ≤ 50000 → S.length ≤ 10000 → Fit x m c → ∀ w : World, Inv F w v (L, S) → LIn (fun k => ¬ F k) w x m P →
    Calls Try.prog 36 #[v, .slice x m c] w fun e w' => ∃ F', e = .returned (.agg #[.int .u64 17216961135462248174, .int .u64 (sumIx S P.flatten : Nat)]) ∧ Kept Inv F w v F' w' (L, sumSt S P.flatten)
  issued : ∀ (F : Nat → Prop) (v : Value) (st : OSt), st.1.length ≤ 10000 → ∀ w : World, Inv F w v st →
    Calls Try.prog 37 #[v] w fun e w' => ∃ z cz F', e = .returned (.slice z st.1.length cz) ∧ Kept Inv F w v F' w' st ∧ IRdG (fun k => w.heap.size ≤ k ∧ ¬ F' k) w' z st.1.length st.1 ∧ st.1.length ≤ cz ∧ ∀ k i, w.heap.size ≤ k → w'.frozen? ⟨k, i, none⟩ = false
  twice : ∀ (F : Nat → Prop) (v : Value) (st : OSt) (t : Bool), st.1.length ≤ 10000 → (t = true ↔ Two st.1) → ∀ w : World, Inv F w v st →
    Calls Try.prog 38 #[v] w fun e w' => ∃ F', e = .returned (.bool t) ∧ Kept Inv F w v F' w' st
  sealNil : ∀ (key : BitVec 64 × BitVec 64) (nn : Nn) (x y : Option Addr) (nx ny c d : Nat) (w : World), Calls Try.prog 34 #[.pointer none, kv key, nvv nn, .slice x nx c, .slice y ny d] w fun e w' => (∃ z cz t1 t2, e = .returned (.tuple #[.agg #[.slice z 0 cz, .int .u64 t1, .int .u64 t2], .bool false])) ∧ Below w.heap.size w w'
  openNil : ∀ (key : BitVec 64 × BitVec 64) (nn : Nn) (x y : Option Addr) (nx ny c d : Nat) (t1 t2 : Int) (w : World), Calls Try.prog 35 #[.pointer none, kv key, nvv nn, .slice x nx c, .agg #[.slice y ny d, .int .u64 t1, .int .u64 t2]] w fun e w' => (∃ z cz, e = .returned (.tuple #[.slice z 0 cz, .bool false])) ∧ Below w.heap.size w w'
  sumNil : ∀ (x : Option Addr) (m c : Nat) (w : World), Calls Try.prog 36 #[.pointer none, .slice x m c] w fun e w' => e = .returned (.agg #[.int .u64 0, .int .u64 0]) ∧ Below w.heap.size w w'
  issuedNil : ∀ w : World, Calls Try.prog 37 #[.pointer none] w fun e w' => (∃ z cz, e = .returned (.slice z 0 cz)) ∧ Below w.heap.size w w'
  twiceNil : ∀ w : World, Calls Try.prog 38 #[.pointer none] w fun e w' => e = .returned (.bool false) ∧ Below w.heap.size w w'
theorem OrcIs.keep {Inv : (Nat → Prop) → World → Value → OSt → Prop} (h : OrcIs Inv) {F G : Nat → Prop} {w w' : World} {v : Value} {st : OSt} (hI : Inv F w v st) (hb : Off G w w') (hd : ∀ k, F k → ¬ G k) : Inv F w' v st :=
  h.stay hI hb.size (fun k hk => hb.block k (h.lt hI k hk) (hd k hk))
theorem OrcIs.below {Inv : (Nat → Prop) → World → Value → OSt → Prop} (h : OrcIs Inv) {F : Nat → Prop} {w w' : World} {v : Value} {st : OSt} (hI : Inv F w v st) (hb : Below w.heap.size w w') : Inv F w' v st :=
  h.keep hI (Off.of_below (F := fun _ => False) hb) (fun _ _ h => h)
end Go.Proofs.Ytkbhkgfchiacbaa


/- What lockboxref1.Put and Bytes come to, for the stages that call them. -/
namespace Go.Proofs.Ytkbhkgfchiacbaa
open Go.RowKit
set_option maxRecDepth 20000

theorem shr_byte (V j : Nat) : (V : Int) / 2 ^ (8 * j) % 256 = (byteAt V j : Nat) := by
  rw [byteAt, Int.pow_mul]
  simp
theorem rput_step {w1 : World} {base : Nat} {v : Value} (V n k : Nat) (h1 : 1 ≤ k) (h2 : k ≤ n)
    (h : w1.ownsRow base 5 1 v (n - k + 1) (((putL V n).take (n - k)).map (Value.int .u8) ++ [.int .u8 ((V : Int) / 2 ^ (8 * (k - 1)) % 256)])) :
    w1.ownsRow base 5 1 v (n - (k - 1)) (((putL V n).take (n - (k - 1))).map (Value.int .u8)) := by
  have e : n - (k - 1) = n - k + 1 := by omega
  have hl : n - k < (putL V n).length := by rw [putL_length]; omega
  rw [e, List.take_succ_eq_append_getElem hl, List.map_append]
  have e2 : (putL V n)[n - k] = (V : Int) / 2 ^ (8 * (k - 1)) % 256 := by
    rw [shr_byte]
    simp only [putL, List.getElem_map, List.getElem_range]
    rw [show n - 1 - (n - k) = k - 1 from by omega]
  rw [e2]
  exact h
set_option maxHeartbeats 400000 in
theorem rput_own (V : Nat) (n : Nat) (w : World) (h1 : 1 ≤ n) (h2 : n ≤ 8) :
    Calls Try.prog 59 #[.int .u64 V, .int .i64 n] w fun e w' => ∃ v, e = .returned v ∧ w'.ownsRow w.heap.size 5 1 v n ((putL V n).map (Value.int .u8)) ∧ Below w.heap.size w w' := by
  obtain ⟨i0, hi, hz0, hz1, hz2⟩ := info_parts Try.info5
  go_enter Try.func59, Try.ntmps59
  go_wp2
  go_loopw [5, 6] (fun v i wr => ∃ k : Nat, k ≤ n ∧ i = .int .i64 ((k : Int) - 1) ∧ wr.ownsRow w.heap.size 5 1 v (n - k) (((putL V n).take (n - k)).map (Value.int .u8)) ∧ Below w.heap.size w wr)
    (fun _ i _ => (intOf i + 1).toNat)
  case atStart =>
    exact ⟨n, Nat.le_refl _, rfl, by simpa using World.ownsRow_nil _ _ _ _, Below.refl _ _⟩
  case round =>
    obtain ⟨k, hk, rfl, hown, hb⟩ := hrel
    by_cases hlt : 1 ≤ k
    · have hL : n - k ≤ 8 := by omega
      have hS := hb.size
      go_wp2_with (at_builtin; refine wpList_append_own _ rfl _ _ 40 rfl w.heap.size 5 i0 (.int .u8 0) 1 1 Try.underlying40 hi hz0 hz1 hz2 rfl (by decide) _ _ _ rfl (hown.alloc _) ⟨wr.heap.size, 0, none⟩ 1 1 [.int .u8 ((V : Int) / 2 ^ (8 * (k - 1)) % 256)] rfl rfl ?c1 ?c2 ?c3 ?c4 ?c5 ?_)
      case c1 =>
        intro j u hj
        match j, hj with
        | 0, hj => simp at hj; subst hj; simp [Addr.add]
      case c2 => intro u hu; simp at hu; subst hu; rfl
      case c3 => unfold maxLen; omega
      case c4 => omega
      case c5 => simp; omega
      · intro v' w1 hown' hgrow _
        have R := rput_step V n k hlt hk (by rw [List.map_take]; exact hown')
        have hb' : Below w.heap.size w w1 := Below.grown (hb.alloc hS _) hgrow (by simp; omega) (own_block hown)
        clear hown' hgrow hown hb
        go_wp2
        go_roundw
        case rel => exact ⟨k - 1, by omega, by rw [show (k : Int) - 1 - 1 = ((k - 1 : Nat) : Int) - 1 from by omega], R, hb'⟩
        case measure => simp [intOf]; omega
    · go_wp2
      have hk0 : k = 0 := by omega
      subst hk0
      rw [Nat.sub_zero, List.take_of_length_le (by rw [putL_length]; exact Nat.le_refl _)] at hown
      go_ret
      exact ⟨_, rfl, hown, hb⟩
theorem own_low {w : World} {base base' n : Nat} {e : TypeId} {size : Nat} {v : Value} {xs : List Value} (h : w.ownsRow base e size v n xs) (hb : base' ≤ base) : w.ownsRow base' e size v n xs := by
  obtain ⟨h1, h2 | ⟨g, cap, cur, hv, hg, rest⟩⟩ := h
  · exact ⟨h1, Or.inl h2⟩
  · exact ⟨h1, Or.inr ⟨g, cap, cur, hv, Nat.le_trans hb hg, rest⟩⟩
set_option maxHeartbeats 1000000 in
theorem rbytes (p : BitVec 64 × BitVec 64) (w : World) : Calls Try.prog 42 #[.agg #[.int .u64 (nv p.1), .int .u64 (nv p.2)]] w fun e w' => ∃ v, e = .returned v ∧ w'.ownsRow w.heap.size 5 1 v 16 ((pairL p).map (Value.int .u8)) ∧ Below w.heap.size w w' := by
  go_enter Try.func42, Try.ntmps42
  go_wp2
  have b0 := Box.new w (nv p.1) (nv p.2)
  have hB : Below w.heap.size w (w.alloc (.cells #[.int .u64 (nv p.1), .int .u64 (nv p.2)] 34)) := by go_grown
  generalize w.alloc (.cells #[.int .u64 (nv p.1), .int .u64 (nv p.2)] 34) = W at *
  have hsz : w.heap.size + 1 ≤ W.drew.heap.size := b0.lt
  refine wp_region_held_drew (S := fun w' => w'.cell? ⟨w.heap.size, 0, none⟩ = some (.int .u64 (nv p.1)) ∧ w'.cell? ⟨w.heap.size, 1, none⟩ = some (.int .u64 (nv p.2))) (by kernel_rfl) ⟨b0.c0, b0.c1⟩ (fun hHeld => ?_)
  refine takeL 0 3 (v := ?_) rfl rfl (by kernel_rfl) (by kernel_rfl) (by kernel_rfl) (fun _ _ _ h => h) (by rfl) hHeld (fun w hSw => ?_) ?_
  rotate_left 1
  · (try dsimp only at hSw); go_simp; try with_reducible rfl
  simp only [List.set_cons_succ, List.set_cons_zero]
  refine takeL 1 4 (v := ?_) rfl rfl (by kernel_rfl) (by kernel_rfl) (by kernel_rfl) (fun _ _ _ h => h) (by rfl) hHeld (fun w hSw => ?_) ?_
  rotate_left 1
  · (try dsimp only at hSw); go_simp; try with_reducible rfl
  simp only [List.set_cons_succ, List.set_cons_zero]
  refine takeL 3 6 (v := ?_) rfl rfl (by kernel_rfl) (by kernel_rfl) (by kernel_rfl) (fun _ _ _ h => h) (by rfl) hHeld (fun w hSw => ?_) ?_
  rotate_left 1
  · (try dsimp only at hSw); go_simp; try with_reducible rfl
  simp only [List.set_cons_succ, List.set_cons_zero]
  refine takeL 4 7 (v := ?_) rfl rfl (by kernel_rfl) (by kernel_rfl) (by kernel_rfl) (fun _ _ _ h => h) (by rfl) hHeld (fun w hSw => ?_) ?_
  rotate_left 1
  · (try dsimp only at hSw); go_simp; try with_reducible rfl
  simp only [List.set_cons_succ, List.set_cons_zero]
  refine onlyL 2 rfl (by kernel_rfl) (by rfl) (fun K hK => ?_)
  go_wp2_with fail
  refine (rput_own p.1.toNat 8 _ (by decide) (by decide)).mono ?_
  rintro e w1 ⟨v5, rfl, own1, hb1⟩
  have hb1 := (Below.refl _ _).drew.trans hb1
  replace b0 := b0.grown hb1
  replace hB := hB.trans (hb1.mono hB.size)
  replace own1 := own_low own1 hsz
  clear hb1
  refine hK.out _ _ ⟨b0.c0, b0.c1⟩ (fun hHeld => ?_)
  clear hK K
  refine onlyL 5 rfl (by kernel_rfl) (by rfl) (fun K hK => ?_)
  go_wp2_with fail
  refine (rput_own p.2.toNat 8 _ (by decide) (by decide)).mono ?_
  rintro e w2 ⟨v8, rfl, own2, hb2⟩
  replace b0 := b0.grown hb2
  replace own1 := own_grown own1 hb2
  replace hB := hB.trans (hb2.mono hB.size)
  clear hb2
  obtain ⟨x8, c8, rfl, sat8⟩ := own_sat (putL_length _ _) own2
  refine hK.out _ _ ⟨b0.c0, b0.c1⟩ (fun hHeld => ?_)
  clear hK K
  refine onlyL 6 rfl (by kernel_rfl) (by rfl) (fun K hK => ?_)
  refine wp_app (.tmp 5) (.tmp 8) rfl (w.heap.size + 1) v5 8 _ rfl own1 x8 8 c8 _ rfl sat8 (fun e => by obtain ⟨_, _, h, _⟩ := sat8.2 (by decide); rw [e] at h; cases h) (by decide) b0.lt (fun v9 w3 own3 hg _ => ?_)
  replace hB := hB.grown hg hB.size (fun k e => Nat.le_of_succ_le (own_block own1 k e))
  replace b0 : Box w3 w.heap.size (nv p.1) (nv p.2) := (hg.block _ b0.lt (fun e => absurd (own1.lt _ e.symm).1 (Nat.not_le.2 (Nat.lt_succ_self w.heap.size)))).trans b0
  clear hg own1 own2 sat8
  refine hK.out _ _ ⟨b0.c0, b0.c1⟩ (fun hHeld => ?_)
  clear hK K
  simp only [Act.put, List.setIfInBounds_toArray]
  refine takeA 7 2 9 rfl rfl rfl (by kernel_rfl) (by kernel_rfl) (by kernel_rfl) (fun _ _ _ h => h) (by rfl) hHeld rfl ?_
  simp only [List.set_cons_succ, List.set_cons_zero]
  refine wpAnyH_done (by kernel_rfl) ?_ _
  go_wp2
  go_ret
  exact ⟨_, rfl, own_low own3 (Nat.le_succ _), hB⟩
theorem ret_two {k : IntKind} {a b : Int} {v : Value} (h : a = b) : Ending.returned (.tuple #[.int k a, v]) = .returned (.tuple #[.int k b, v]) := by rw [h]
set_option maxHeartbeats 400000 in
theorem rget_some (b off cap n : Nat) (xs : List Int) (w : World) (hn : xs.length = n) (h1 : 1 ≤ n) (hl : n ≤ 8) (hx : Bytes xs) (hc : At w b off xs) :
    Calls Try.prog 74 #[.slice (some ⟨b, off, none⟩) n cap] w fun e w' => e = .returned (.tuple #[.int .u64 (num xs), .bool true]) ∧ w' = w := by
  subst hn
  go_enter Try.func74, Try.ntmps74
  go_wp2
  go_loop [4, 5] (fun v i => ∃ k : Nat, k ≤ xs.length ∧ i = .int .i64 k ∧ v = .int .u64 (num (xs.take k))) (fun _ i => xs.length - (intOf i).toNat)
  case atStart => exact ⟨0, Nat.zero_le _, rfl, rfl⟩
  case round =>
    obtain ⟨k, hk, rfl, rfl⟩ := hrel
    by_cases hlt : k < xs.length
    · have hck := hc k hlt
      go_wp2
      go_round
      case rel => exact ⟨k + 1, hlt, by go_num, by rw [num_step xs hx hl k hlt]⟩
      case measure => simp [intOf]; omega
    · go_wp2
      go_ret2
      exact ⟨ret_two (by rw [List.take_of_length_le (by omega)]), rfl⟩
set_option maxHeartbeats 400000 in
theorem rpair_none (a : Option Addr) (n cap : Nat) (w : World) (h : n ≠ 16) :
    Calls Try.prog 68 #[.slice a n cap] w fun e w' => e = .returned (.tuple #[.agg #[.int .u64 0, .int .u64 0], .bool false]) ∧ Below w.heap.size w w' := by
  have h' : ((n : Int) != 16) = true := by rw [bne_iff_ne]; omega
  go_enter Try.func68, Try.ntmps68
  go_wp2
  exact bodyPost_ret (v := .tuple #[.agg #[.int .u64 0, .int .u64 0], .bool false]) (by simp [results, Try.results68, go_sem]) rfl ⟨rfl, by go_grown⟩
set_option maxHeartbeats 1000000 in
theorem rpair_some (b off cap : Nat) (xs : List Int) (w : World) (hn : xs.length = 16) (hcap : 16 ≤ cap) (hcm : cap ≤ maxLen) (hx : Bytes xs) (hb : b < w.heap.size) (hat0 : At w b off xs) :
    Calls Try.prog 68 #[.slice (some ⟨b, off, none⟩) 16 cap] w fun e w' => e = .returned (.tuple #[.agg #[.int .u64 (num (xs.take 8)), .int .u64 (num (xs.drop 8))], .bool true]) ∧ Below w.heap.size w w' := by
  unfold maxLen at hcm
  have hn8 : 8 ≤ xs.length := by omega
  have c8 : (8 : Int) ≤ (cap : Int) := by omega
  have c16 : (16 : Int) ≤ (cap : Int) := by omega
  have cn : ¬ cap = 8 := by omega
  have hat := hat0.alloc hb (.cells #[.int .u64 0, .int .u64 0] 34)
  go_enter Try.func68, Try.ntmps68
  go_wp2_with fail
  refine (rget_some b off cap 8 (xs.take 8) _ (by simp [hn]) (by omega) (by omega) (hx.take 8) (At.cut1 hat 8 hn8)).mono ?_
  rintro e w1 ⟨rfl, rfl⟩
  go_wp2_with fail
  refine (rget_some b (off + 8) (cap - 8) 8 (xs.drop 8) _ (by simp [hn]) (by omega) (by omega) (hx.drop 8) (At.cut2 hat 8)).mono ?_
  rintro e w1 ⟨rfl, rfl⟩
  go_wp2
  exact bodyPost_ret (v := .tuple #[.agg #[.int .u64 (num (xs.take 8)), .int .u64 (num (xs.drop 8))], .bool true]) (by simp [results, Try.results68, go_sem]) rfl ⟨rfl, by go_grown⟩
theorem rpair (b off cap : Nat) (xs : List Int) (w : World) (hn : xs.length = 16) (hcap : 16 ≤ cap) (hcm : cap ≤ maxLen) (hx : Bytes xs) (hb : b < w.heap.size) (hat : At w b off xs) :
    Calls Try.prog 68 #[.slice (some ⟨b, off, none⟩) 16 cap] w fun e w' => e = .returned (.tuple #[.agg #[.int .u64 (nv (pairOf xs).1), .int .u64 (nv (pairOf xs).2)], .bool true]) ∧ Below w.heap.size w w' := by
  rw [pairOf_1 xs hx, pairOf_2 xs hx (by omega)]
  exact rpair_some b off cap xs w hn hcap hcm hx hb hat
end Go.Proofs.Ytkbhkgfchiacbaa


/- One thing in a slice of its own, to be appended. -/
namespace Go.Proofs.Ytkbhkgfchiacbaa
open Go.RowKit
set_option maxRecDepth 20000

theorem app1_at (w : World) (u : Value) (t : TypeId) : ∀ (j : Nat) (v : Value), [u][j]? = some v → (w.alloc (.cells #[u] t)).cell? ((⟨w.heap.size, 0, none⟩ : Addr).add j) = some v := by
  intro j v hj
  match j, hj with
  | 0, hj => simp at hj; subst hj; simp [Addr.add]
theorem app1_one (u : Value) (h : u.oneCell' = true) : ∀ v ∈ [u], v.oneCell' = true := by
  intro v hv
  simp at hv
  subst hv
  exact h
end Go.Proofs.Ytkbhkgfchiacbaa


/- What lockboxref2.Keys and Encrypt come to. -/
namespace Go.Proofs.Ytkbhkgfchiacbaa
open Go.RowKit
set_option maxRecDepth 20000

theorem ret_u64 {a b : Int} (h : a = b) : Ending.returned (.int .u64 a) = .returned (.int .u64 b) := by rw [h]
theorem u64v {a b : Int} (h : a = b) : Value.int .u64 a = .int .u64 b := by rw [h]

set_option maxHeartbeats 400000 in
theorem right8 (x : BitVec 64) (w : World) : Calls Try.prog 79 #[.int .u64 (nv x), .int .u64 8] w fun e w' => e = .returned (.int .u64 (nv (x.rotateRight 8))) ∧ w' = w := by
  obtain ⟨h0, h1⟩ := nv_range x
  go_enter Try.func79, Try.ntmps79
  go_wp2
  go_ret
  exact ⟨ret_u64 (nv_rr8 x), rfl⟩
set_option maxHeartbeats 400000 in
theorem left3 (x : BitVec 64) (w : World) : Calls Try.prog 80 #[.int .u64 (nv x), .int .u64 3] w fun e w' => e = .returned (.int .u64 (nv (x.rotateLeft 3))) ∧ w' = w := by
  obtain ⟨h0, h1⟩ := nv_range x
  go_enter Try.func80, Try.ntmps80
  go_wp2
  go_ret
  exact ⟨ret_u64 (nv_rl3 x), rfl⟩

theorem Try.info32 : (Try.prog.info? 32).map (fun i => (i.zero, i.size, i.bytes)) = some (some (.int .u64 0), 1, 8) := by kernel_rfl

theorem keyAt_succ (p : BitVec 64 × BitVec 64) (j : Nat) : keyAt p (j + 1) = keyStep j (keyAt p j) := rfl

/-- The first k keys. -/
def keysV (p : BitVec 64 × BitVec 64) (k : Nat) : List Value := (List.range k).map fun i => .int .u64 (nv (key p i))
theorem keysV_succ (p : BitVec 64 × BitVec 64) (k : Nat) : keysV p (k + 1) = keysV p k ++ [.int .u64 (nv (keyAt p k).2)] := by
  simp [keysV, List.range_succ, key]
theorem keysV_length (p : BitVec 64 × BitVec 64) (k : Nat) : (keysV p k).length = k := by simp [keysV]

/-- 32 keys of p lie in block g. -/
def KeysAt (w : World) (g : Nat) (p : BitVec 64 × BitVec 64) : Prop := g < w.heap.size ∧ ∀ i, i < 32 → w.cell? ⟨g, i, none⟩ = some (.int .u64 (nv (key p i)))
theorem KeysAt.below {w w' : World} {B g : Nat} {p : BitVec 64 × BitVec 64} (h : KeysAt w g p) (hb : Below B w w') (hB : g < B) : KeysAt w' g p :=
  ⟨Nat.lt_of_lt_of_le h.1 hb.size, fun i hi => (hb.cell (p := ⟨g, i, none⟩) hB).trans (h.2 i hi)⟩
theorem own_keys {w : World} {base : Nat} {v : Value} {p : BitVec 64 × BitVec 64} (h : w.ownsRow base 32 1 v 32 (keysV p 32)) : ∃ g cap, v = .slice (some ⟨g, 0, none⟩) 32 cap ∧ base ≤ g ∧ KeysAt w g p := by
  have h' := h
  obtain ⟨_, ⟨_, h0⟩ | ⟨g, cap, cur, rfl, hg, hh, _⟩⟩ := h
  · omega
  · obtain ⟨hlt, _⟩ := Array.getElem?_eq_some_iff.1 hh
    refine ⟨g, cap, rfl, hg, hlt, fun i hi => ?_⟩
    rw [h'.cellAt i (by omega)]
    simp [keysV, hi]

set_option maxHeartbeats 1000000 in
theorem rkeys (p : BitVec 64 × BitVec 64) (w : World) : Calls Try.prog 78 #[.agg #[.int .u64 (nv p.1), .int .u64 (nv p.2)]] w fun e w' => ∃ g cap, e = .returned (.slice (some ⟨g, 0, none⟩) 32 cap) ∧ w.heap.size ≤ g ∧ KeysAt w' g p ∧ Below w.heap.size w w' := by
  obtain ⟨i0, hi, hz0, hz1, hz2⟩ := info_parts Try.info32
  go_enter Try.func78, Try.ntmps78
  go_wp2
  go_region
  go_wp2
  go_loopw [3, 4, 5, 6] (fun l k out i wr => ∃ j : Nat, j ≤ 32 ∧ i = .int .i64 j ∧ l = .int .u64 (nv (keyAt p j).1) ∧ k = .int .u64 (nv (keyAt p j).2) ∧ wr.ownsRow w.heap.size 32 1 out j (keysV p j) ∧ Below w.heap.size w wr) (fun _ _ _ i _ => 32 - (intOf i).toNat)
  case atStart => exact ⟨0, by decide, rfl, rfl, rfl, World.ownsRow_nil _ _ _ _, by go_grown⟩
  case round =>
    obtain ⟨j, hj, rfl, rfl, rfl, hown, hb⟩ := hrel
    by_cases hlt : j < 32
    · have hS := hb.size
      have HK := hide' (keyAt_succ p j)
      have HV := hide' (keysV_succ p j)
      have HO := hide' (nv_small j (by omega))
      generalize keyAt p j = q at *
      go_wp2_with (at_builtin; refine wpList_append_own _ rfl _ _ 108 rfl w.heap.size 32 i0 (.int .u64 0) 1 8 Try.underlying108 hi hz0 hz1 hz2 rfl (by decide) _ _ _ rfl (hown.alloc _) ⟨wr.heap.size, 0, none⟩ 1 1 [.int .u64 (nv q.2)] rfl rfl (app1_at _ _ _) (app1_one _ rfl) (by unfold maxLen; omega) (by omega) (by rw [World.size_alloc]; omega) ?_)
      · intro v' w1 hown' hgrow _
        have hb' : Below w.heap.size w w1 := Below.grown (hb.alloc hS _) hgrow (by simp; omega) (own_block hown)
        rw [← HV.out] at hown'
        clear hgrow hown hb hS
        go_wp2_with fail
        refine (right8 q.1 _).mono ?_
        rintro e w2 ⟨rfl, rfl⟩
        go_wp2_with fail
        refine (left3 q.2 _).mono ?_
        rintro e w2 ⟨rfl, rfl⟩
        go_wp2
        go_roundw
        case rel => exact ⟨j + 1, hlt, by go_num, u64v (by rw [nv_add, ← HO.out, nv_xor, HK.out, keyStep]), u64v (by rw [nv_add, ← HO.out, nv_xor, nv_xor, HK.out, keyStep]), hown', hb'⟩
        case measure => simp [intOf]; omega
    · go_wp2
      obtain rfl : j = 32 := by omega
      obtain ⟨g, cap, hv, hg, hk⟩ := own_keys hown
      subst hv
      go_ret
      exact ⟨g, cap, rfl, hg, hk, hb⟩
end Go.Proofs.Ytkbhkgfchiacbaa
