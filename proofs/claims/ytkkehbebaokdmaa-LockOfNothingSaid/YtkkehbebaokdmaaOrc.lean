/- What an ideal sealer has: plain; and the document's own, in memory. -/
import Derived.Test.YtkkehbebaokdmaaOff
import Derived.Test.YtkkehbebaokdmaaFlo
namespace Go.Proofs.Ytkkehbebaokdmaa
open Go.RowKit
set_option maxRecDepth 20000

/-- What was sealed. -/
structure Iss where
  key : BitVec 64 × BitVec 64
  non : Nn
  head : List Int
  data : List Int
instance : Inhabited Iss := ⟨⟨(0#64, 0#64), (0#32, 0#32, 0#64), [], []⟩⟩
/-- What comes out, of the i-th, of n bytes. -/
def outB (i n : Nat) : List Int := (List.range n).map fun k => (putL i 8).getD (k % 8) 0
theorem outB_length (i n : Nat) : (outB i n).length = n := by simp [outB]
theorem outB_bytes (i n : Nat) : Bytes (outB i n) := fun x hx => by
  obtain ⟨k, _, rfl⟩ := List.mem_map.1 hx
  have hl : k % 8 < (putL i 8).length := by rw [putL_length]; exact Nat.mod_lt _ (by decide)
  rw [List.getD, List.getElem?_eq_getElem hl, Option.getD_some]
  exact putL_bytes i 8 _ (List.getElem_mem hl)
/-- What was sealed, what was summed. -/
abbrev OSt : Type := List Iss × List (List Int)
/-- Which sum. -/
def sumIx (S : List (List Int)) (p : List Int) : Nat := List.idxOf p S + 1
def sumSt (S : List (List Int)) (p : List Int) : List (List Int) := if p ∈ S then S else S ++ [p]
theorem sumIx_new {S : List (List Int)} {p : List Int} (h : p ∉ S) : sumIx S p = S.length + 1 := by rw [sumIx, List.idxOf_eq_length h]
theorem sumIx_at {S : List (List Int)} {p : List Int} {k : Nat} (hk : k < S.length) (h : S.getD k [] = p) (hf : ∀ j, j < k → S.getD j [] ≠ p) : sumIx S p = k + 1 ∧ sumSt S p = S := by
  have e : S[k] = p := by simpa [List.getD, hk] using h
  have hm : p ∈ S := e ▸ List.getElem_mem hk
  refine ⟨?_, if_pos hm⟩
  have h1 : List.idxOf p S < S.length := List.idxOf_lt_length_iff.2 hm
  have h2 : S[List.idxOf p S] = p := List.getElem_idxOf h1
  have h3 : ¬ List.idxOf p S < k := fun hlt => hf _ hlt (by simp [List.getD, h1, h2])
  have h4 : ¬ k < List.idxOf p S := fun hlt => by
    have := List.not_of_lt_findIdx (p := (· == p)) (xs := S) hlt
    simp [e] at this
  unfold sumIx
  omega
/-- Where an issue's slices stand. -/
structure SlC where
  h : Option Addr
  hc : Nat
  d : Option Addr
  dc : Nat
  o : Option Addr
  oc : Nat
/-- An issue, cell by cell: the i-th, from 0. -/
def issC (x : Iss) (c : SlC) (i : Nat) : List Value := [.int .u64 (nv x.key.1), .int .u64 (nv x.key.2), .int .u32 (nv32 x.non.1), .int .u32 (nv32 x.non.2.1), .int .u64 (nv x.non.2.2), .slice c.h x.head.length c.hc, .slice c.d x.data.length c.dc, .slice c.o x.data.length c.oc, .int .u64 18446744073709551615, .int .u64 ((i : Int) + 1)]
theorem issC_length (x : Iss) (c : SlC) (i : Nat) : (issC x c i).length = 10 := rfl
/-- Its slices have its bytes. -/
structure IssIn (G : Nat → Prop) (w : World) (x : Iss) (c : SlC) (i : Nat) : Prop where
  hs : SIn G w c.h x.head.length x.head
  hl : x.head.length ≤ c.hc ∧ c.hc ≤ maxLen ∧ (c.h = none → x.head.length = 0 ∧ c.hc = 0)
  hb : Bytes x.head
  ds : SIn G w c.d x.data.length x.data
  dl : x.data.length ≤ c.dc ∧ c.dc ≤ maxLen ∧ (c.d = none → x.data.length = 0 ∧ c.dc = 0)
  db : Bytes x.data
  os : SIn G w c.o x.data.length (outB (i + 1) x.data.length)
  ol : x.data.length ≤ c.oc ∧ c.oc ≤ maxLen ∧ (c.o = none → x.data.length = 0 ∧ c.oc = 0)
theorem IssIn.off {F G : Nat → Prop} {w w' : World} {x : Iss} {c : SlC} {i : Nat} (h : IssIn G w x c i) (hb : Off F w w') (hd : ∀ b, b < w.heap.size → G b → ¬ F b) : IssIn G w' x c i :=
  ⟨h.hs.off hb hd, h.hl, h.hb, h.ds.off hb hd, h.dl, h.db, h.os.off hb hd, h.ol⟩
theorem IssIn.mono {G G' : Nat → Prop} {w : World} {x : Iss} {c : SlC} {i : Nat} (h : IssIn G w x c i) (hd : ∀ b, b < w.heap.size → G b → G' b) : IssIn G' w x c i :=
  ⟨h.hs.mono hd, h.hl, h.hb, h.ds.mono hd, h.dl, h.db, h.os.mono hd, h.ol⟩
/-- A row of issues: its block, and others, in which its slices stand. -/
def IRow (G : Nat → Prop) (w : World) (v : Value) (L : List Iss) : Prop := ∃ C : Nat → SlC, w.ownsRow 0 65 10 v L.length (flatG (fun i => issC (L.getD i default) (C i) i) L.length) ∧ (∀ k, v.ownBlock = some k → G k) ∧ ∀ i, i < L.length → IssIn (fun k => G k ∧ v.ownBlock ≠ some k) w (L.getD i default) (C i) i
theorem IRow.off {F G : Nat → Prop} {w w' : World} {v : Value} {L : List Iss} (h : IRow G w v L) (hb : Off F w w') (hd : ∀ b, b < w.heap.size → G b → ¬ F b) : IRow G w' v L := by
  obtain ⟨C, h1, h2, h3⟩ := h
  refine ⟨C, own_off h1 hb (fun k hk => ?_), h2, fun i hi => (h3 i hi).off hb (fun b hlt hg => hd b hlt hg.1)⟩
  obtain ⟨cur, hh⟩ := own_type h1 hk
  obtain ⟨hlt, _⟩ := Array.getElem?_eq_some_iff.1 hh
  exact hd k hlt (h2 k hk)
/-- A row of texts. -/
def SRow (G : Nat → Prop) (w : World) (v : Value) (S : List (List Int)) : Prop := w.ownsRow 0 9 1 v S.length (S.map fun p => .string (strOfNums p)) ∧ (∀ k, v.ownBlock = some k → G k) ∧ ∀ p ∈ S, Bytes p
theorem SRow.off {F G : Nat → Prop} {w w' : World} {v : Value} {S : List (List Int)} (h : SRow G w v S) (hb : Off F w w') (hd : ∀ b, b < w.heap.size → G b → ¬ F b) : SRow G w' v S := by
  obtain ⟨h1, h2, h3⟩ := h
  refine ⟨own_off h1 hb (fun k hk => ?_), h2, h3⟩
  obtain ⟨cur, hh⟩ := own_type h1 hk
  obtain ⟨hlt, _⟩ := Array.getElem?_eq_some_iff.1 hh
  exact hd k hlt (h2 k hk)
/-- Two slices in a block of their own. -/
def TBox (w : World) (b : Nat) (u v : Value) : Prop := w.heap[b]? = some (.cells #[u, v] 58 (0, 0))
theorem TBox.c0 {w : World} {b : Nat} {u v : Value} (h : TBox w b u v) : w.cell? ⟨b, 0, none⟩ = some u := by unfold TBox at h; simp [World.cell?, h]
theorem TBox.c1 {w : World} {b : Nat} {u v : Value} (h : TBox w b u v) : w.cell? ⟨b, 1, none⟩ = some v := by unfold TBox at h; simp [World.cell?, h]
theorem TBox.frozen {w : World} {b : Nat} {u v : Value} (h : TBox w b u v) (i : Nat) : w.frozen? ⟨b, i, none⟩ = false := by unfold TBox at h; simp [World.frozen?, h]
theorem TBox.lt {w : World} {b : Nat} {u v : Value} (h : TBox w b u v) : b < w.heap.size := by
  obtain ⟨hlt, _⟩ := Array.getElem?_eq_some_iff.1 h
  exact hlt
theorem TBox.grown {w w' : World} {b : Nat} {u v : Value} (h : TBox w b u v) (hb : Below w.heap.size w w') : TBox w' b u v := (hb.block b h.lt).trans h
theorem TBox.put0 {w : World} {b : Nat} {u v : Value} (h : TBox w b u v) (u' : Value) : TBox (w.setCell ⟨b, 0, none⟩ u') b u' v := by
  unfold TBox at h ⊢
  simp [World.setCell, Array.getElem?_modify, h]
theorem TBox.put1 {w : World} {b : Nat} {u v : Value} (h : TBox w b u v) (v' : Value) : TBox (w.setCell ⟨b, 1, none⟩ v') b u v' := by
  unfold TBox at h ⊢
  simp [World.setCell, Array.getElem?_modify, h]
/-- The document's own ideal sealer, in block b. -/
structure RAt (FL FS : Nat → Prop) (w : World) (b : Nat) (vL vS : Value) (st : OSt) : Prop where
  box : TBox w b vL vS
  iss : IRow FL w vL st.1
  sum : SRow FS w vS st.2
  nl : ¬ FL b
  ns : ¬ FS b
  ls : ∀ k, FL k → ¬ FS k
def RInv (F : Nat → Prop) (w : World) (b : Nat) (st : OSt) : Prop := ∃ FL FS vL vS, RAt FL FS w b vL vS st ∧ (∀ k, F k ↔ k = b ∨ FL k ∨ FS k) ∧ ∀ k, F k → k < w.heap.size
theorem RAt.off {FL FS G : Nat → Prop} {w w' : World} {b : Nat} {vL vS : Value} {st : OSt} (h : RAt FL FS w b vL vS st) (hb : Off G w w') (hd : ∀ k, k < w.heap.size → k = b ∨ FL k ∨ FS k → ¬ G k) : RAt FL FS w' b vL vS st :=
  ⟨off_block h.box hb (hd b h.box.lt (Or.inl rfl)), h.iss.off hb (fun k hk hf => hd k hk (Or.inr (Or.inl hf))), h.sum.off hb (fun k hk hf => hd k hk (Or.inr (Or.inr hf))), h.nl, h.ns, h.ls⟩
theorem RInv.off {F G : Nat → Prop} {w w' : World} {b : Nat} {st : OSt} (h : RInv F w b st) (hb : Off G w w') (hd : ∀ b, b < w.heap.size → F b → ¬ G b) : RInv F w' b st := by
  obtain ⟨FL, FS, vL, vS, h1, h2, h3⟩ := h
  exact ⟨FL, FS, vL, vS, h1.off hb (fun k hk hf => hd k hk ((h2 k).2 hf)), h2, fun k hk => Nat.lt_of_lt_of_le (h3 k hk) hb.size⟩
theorem RInv.below {F : Nat → Prop} {w w' : World} {b : Nat} {st : OSt} (h : RInv F w b st) (hb : Below w.heap.size w w') : RInv F w' b st := h.off (Off.of_below (F := fun _ => False) hb) (fun _ _ _ h => h)
theorem RInv.lt {F : Nat → Prop} {w : World} {b : Nat} {st : OSt} (h : RInv F w b st) (k : Nat) (hk : F k) : k < w.heap.size := by
  obtain ⟨_, _, _, _, _, _, h3⟩ := h
  exact h3 k hk
/-- The tag of the i-th. -/
def tagI (i : Nat) : BitVec 64 × BitVec 64 := (18446744073709551615#64, BitVec.ofNat 64 i)
theorem tagI_1 (i : Nat) : nv (tagI i).1 = 18446744073709551615 := rfl
theorem tagI_2 (i : Nat) (h : i < 18446744073709551616) : nv (tagI i).2 = i := by
  unfold nv tagI
  rw [BitVec.toNat_ofNat]
  omega
/-- What is asked to be opened. -/
structure Ask where
  key : BitVec 64 × BitVec 64
  non : Nn
  head : List Int
  bytes : List Int
  tag : BitVec 64 × BitVec 64
/-- The i-th, from 0, is just this. -/
def Hit (L : List Iss) (q : Ask) (i : Nat) : Prop := i < L.length ∧ (L.getD i default).key = q.key ∧ (L.getD i default).non = q.non ∧ (L.getD i default).head = q.head ∧ outB (i + 1) (L.getD i default).data.length = q.bytes ∧ tagI (i + 1) = q.tag
theorem Hit.one {L : List Iss} {q : Ask} {i j : Nat} (h : Hit L q i) (k : Hit L q j) (hL : L.length < 18446744073709551615) : i = j := by
  have e := h.2.2.2.2.2.trans k.2.2.2.2.2.symm
  have h1 := tagI_2 (i + 1) (by have := h.1; omega)
  have h2 := tagI_2 (j + 1) (by have := k.1; omega)
  rw [e, h2] at h1
  omega
end Go.Proofs.Ytkkehbebaokdmaa
