/- OracleMany: what stands in memory on the way. -/
import Derived.Test.YtfgigbecmhmidaaOrcRow
namespace Go.Proofs.Ytfgigbecmhmidaa
open Go.RowKit

variable {Inv : (Nat → Prop) → World → Value → OSt → Prop}
theorem Try.sealInfo : (Try.prog.info? 41).map (fun i => (i.zero, i.size, i.bytes)) = some (some (.agg #[.slice none 0 0, .int .u64 0, .int .u64 0]), 3, 40) := by kernel_rfl
theorem nv_ofN (i : Nat) (h : i < 18446744073709551616) : nv (BitVec.ofNat 64 i) = (i : Int) := by
  unfold nv
  rw [BitVec.toNat_ofNat]
  omega
/-- The j-th that is sealed. -/
def issAt (key : BitVec 64 × BitVec 64) (P : List (List Int)) (j : Nat) : Iss := ⟨key, (0#32, 0#32, BitVec.ofNat 64 j), [], P.getD j []⟩
def manyL (key : BitVec 64 × BitVec 64) (P : List (List Int)) (i : Nat) : List Iss := (List.range i).map (issAt key P)
theorem manyL_length (key : BitVec 64 × BitVec 64) (P : List (List Int)) (i : Nat) : (manyL key P i).length = i := by simp [manyL]
theorem manyL_succ (key : BitVec 64 × BitVec 64) (P : List (List Int)) (i : Nat) : manyL key P (i + 1) = manyL key P i ++ [issAt key P i] := by simp [manyL, List.range_succ]
theorem manyL_get (key : BitVec 64 × BitVec 64) (P : List (List Int)) {i j : Nat} (h : j < i) : (manyL key P i).getD j default = issAt key P j := by simp [manyL, h]
theorem of_inj {i j : Nat} (hi : i < 18446744073709551616) (hj : j < 18446744073709551616) (h : BitVec.ofNat 64 i = BitVec.ofNat 64 j) : i = j := by
  have := congrArg BitVec.toNat h
  rw [BitVec.toNat_ofNat, BitVec.toNat_ofNat] at this
  omega
theorem tag_inj {i j : Nat} (hi : i < 18446744073709551616) (hj : j < 18446744073709551616) (h : tagI i = tagI j) : i = j := of_inj hi hj (congrArg Prod.snd h)
/-- What is asked: the k-th, by the i-th's number. -/
def askAt (key : BitVec 64 × BitVec 64) (P : List (List Int)) (i k : Nat) : Ask := ⟨key, (0#32, 0#32, BitVec.ofNat 64 i), [], outB (k + 1) (P.getD k []).length, tagI (k + 1)⟩
theorem many_hit (key : BitVec 64 × BitVec 64) (P : List (List Int)) {m k : Nat} (hk : k < m) : Hit (manyL key P m) (askAt key P k k) k := by
  refine ⟨by rw [manyL_length]; exact hk, ?_⟩
  rw [manyL_get key P hk]
  exact ⟨rfl, rfl, rfl, rfl, rfl⟩
theorem many_miss (key : BitVec 64 × BitVec 64) (P : List (List Int)) {m i k : Nat} (hm : m ≤ 30) (hi : i < m) (hk : k < m) (hne : i ≠ k) (j : Nat) : ¬ Hit (manyL key P m) (askAt key P i k) j := by
  rintro ⟨hj, h⟩
  rw [manyL_length] at hj
  rw [manyL_get key P hj] at h
  obtain ⟨_, h2, _, _, h5⟩ := h
  have e1 : j + 1 = k + 1 := tag_inj (by omega) (by omega) h5
  have e2 : j = i := of_inj (by omega) (by omega) (congrArg (fun p : Nn => p.2.2) h2)
  omega
theorem many_once (key : BitVec 64 × BitVec 64) (P : List (List Int)) {m : Nat} (hm : m ≤ 30) : ¬ Two (manyL key P m) := by
  rintro ⟨i, k, hki, hi, h⟩
  rw [manyL_length] at hi
  unfold Mate at h
  rw [manyL_get key P hi, manyL_get key P (by omega)] at h
  have := of_inj (i := i) (j := k) (by omega) (by omega) (congrArg (fun p : Nn => p.2.2) h.2)
  omega
/-- What came out of the j-th, cell by cell. -/
def sealC (P : List (List Int)) (Z : Nat → Option Addr × Nat) (j : Nat) : List Value := [.slice (Z j).1 (P.getD j []).length (Z j).2, .int .u64 18446744073709551615, .int .u64 ((j : Int) + 1)]
structure MSt (Inv : (Nat → Prop) → World → Value → OSt → Prop) (w : World) (a1 : Addr) (key : BitVec 64 × BitVec 64) (P : List (List Int)) (i : Nat) (F : Nat → Prop) (st : OSt) (v : Value) (Z : Nat → Option Addr × Nat) (wr : World) : Prop where
  inv : Inv F wr (.pointer (some a1)) st
  own : wr.ownsRow (w.heap.size + 1) 41 3 v i (flatG (sealC P Z) i)
  out : ∀ j, j < i → SIn (fun k => w.heap.size < k ∧ ¬ F k ∧ v.ownBlock ≠ some k) wr (Z j).1 (P.getD j []).length (outB (j + 1) (P.getD j []).length) ∧ Fit (Z j).1 (P.getD j []).length (Z j).2
  vF : ∀ k, v.ownBlock = some k → ¬ F k
  hF : ∀ k, F k → w.heap.size < k
  box : Box wr w.heap.size (nv key.1) (nv key.2)
  hB : Below w.heap.size w wr
theorem MSt.move {w : World} {a1 : Addr} {key : BitVec 64 × BitVec 64} {P : List (List Int)} {i : Nat} {F F' : Nat → Prop} {st st' : OSt} {v : Value} {Z : Nat → Option Addr × Nat} {wr wr' : World} (h : MSt Inv w a1 key P i F st v Z wr) (hI : Inv F' wr' (.pointer (some a1)) st') (hsub : ∀ k, F' k → F k ∨ wr.heap.size ≤ k) (hoff : Off F wr wr') : MSt Inv w a1 key P i F' st' v Z wr' := by
  have hlt : ∀ k, v.ownBlock = some k → k < wr.heap.size := fun k hk => by
    obtain ⟨cur, hh⟩ := own_type h.own hk
    obtain ⟨hl, _⟩ := Array.getElem?_eq_some_iff.1 hh
    exact hl
  have hz := h.hB.size
  have hbl := h.box.lt
  refine ⟨hI, own_off h.own hoff h.vF, fun j hj => ⟨?_, (h.out j hj).2⟩, fun k hk hf => (hsub k hf).elim (h.vF k hk) (fun e => by have := hlt k hk; omega), fun k hk => (hsub k hk).elim (h.hF k) (fun e => by omega), off_block h.box hoff (fun e => by have := h.hF _ e; omega), h.hB.trans (hoff.below (fun k hk => by have := h.hF k hk; omega) hz)⟩
  exact (((h.out j hj).1.mono (G' := fun k => (w.heap.size < k ∧ ¬ F k ∧ v.ownBlock ≠ some k) ∧ k < wr.heap.size) (fun k h1 h2 => ⟨h2, h1⟩)).off hoff (fun k _ h2 => h2.1.2.1)).mono (fun k _ h2 => ⟨h2.1.1, fun hf => (hsub k hf).elim h2.1.2.1 (fun e => by omega), h2.1.2.2⟩)
theorem MSt.quiet (hO : OrcIs Inv) {w : World} {a1 : Addr} {key : BitVec 64 × BitVec 64} {P : List (List Int)} {i : Nat} {F : Nat → Prop} {st : OSt} {v : Value} {Z : Nat → Option Addr × Nat} {wr wr' : World} (h : MSt Inv w a1 key P i F st v Z wr) (hb : Below wr.heap.size wr wr') : MSt Inv w a1 key P i F st v Z wr' :=
  h.move (hO.below h.inv hb) (fun _ h => Or.inl h) (Off.of_below hb)
/-- What came out of the j-th stands in the row. -/
theorem MSt.cells {w : World} {a1 : Addr} {key : BitVec 64 × BitVec 64} {P : List (List Int)} {i : Nat} {F : Nat → Prop} {st : OSt} {v : Value} {Z : Nat → Option Addr × Nat} {wr : World} (h : MSt Inv w a1 key P i F st v Z wr) {j : Nat} (hj : j < i) :
    ∃ g cap, v = .slice (some ⟨g, 0, none⟩) i cap ∧ i ≤ cap ∧ g < wr.heap.size ∧ ¬ F g ∧ wr.cell? ⟨g, j * 3 + 0, none⟩ = some (.slice (Z j).1 (P.getD j []).length (Z j).2) ∧ wr.cell? ⟨g, j * 3 + 1, none⟩ = some (.int .u64 18446744073709551615) ∧ wr.cell? ⟨g, j * 3 + 2, none⟩ = some (.int .u64 ((j : Int) + 1)) := by
  have hs : ∀ j, (sealC P Z j).length = 3 := fun _ => rfl
  have c0 := flatG_get hs i j 0 hj (by decide)
  have c1 := flatG_get hs i j 1 hj (by decide)
  have c2 := flatG_get hs i j 2 hj (by decide)
  obtain ⟨g, cap, e, hc, hl, d0⟩ := own_cell h.own c0
  obtain ⟨g1, cap1, e1, _, _, d1⟩ := own_cell h.own c1
  obtain ⟨g2, cap2, e2, _, _, d2⟩ := own_cell h.own c2
  obtain ⟨rfl, rfl⟩ : g1 = g ∧ cap1 = cap := by rw [e] at e1; simp at e1; exact ⟨e1.1.symm, e1.2.symm⟩
  obtain ⟨rfl, rfl⟩ : g2 = g1 ∧ cap2 = cap1 := by rw [e] at e2; simp at e2; exact ⟨e2.1.symm, e2.2.symm⟩
  exact ⟨_, _, e, hc, hl, h.vF _ (by rw [e]; rfl), d0, d1, d2⟩
theorem MSt.app (hO : OrcIs Inv) {w : World} {a1 : Addr} {key : BitVec 64 × BitVec 64} {P : List (List Int)} {i : Nat} {F : Nat → Prop} {st : OSt} {v v' : Value} {Z : Nat → Option Addr × Nat} {wr wr' : World} (h : MSt Inv w a1 key P i F st v Z wr) (z : Option Addr) (cz : Nat)
    (own' : wr'.ownsRow (w.heap.size + 1) 41 3 v' (i + 1) (flatG (sealC P Z) i ++ [.slice z (P.getD i []).length cz, .int .u64 18446744073709551615, .int .u64 ((i : Int) + 1)])) (hgr : wr.grownBy wr' v.ownBlock) (hloc : ∀ k, v'.ownBlock = some k → v.ownBlock = some k ∨ wr.heap.size ≤ k)
    (hz : SIn (fun k => w.heap.size < k ∧ ¬ F k ∧ v.ownBlock ≠ some k) wr z (P.getD i []).length (outB (i + 1) (P.getD i []).length)) (fz : Fit z (P.getD i []).length cz) : MSt Inv w a1 key P (i + 1) F st v' (fun j => if j = i then (z, cz) else Z j) wr' := by
  have hoff : Off (fun k => v.ownBlock = some k) wr wr' := (Off.refl _ _).grown hgr (fun k hk => Or.inl hk)
  have hzs := h.hB.size
  have hbl := h.box.lt
  have hvb : ∀ k, v.ownBlock = some k → w.heap.size + 1 ≤ k := own_block h.own
  have hkeep : ∀ {z : Option Addr} {n : Nat} {ys : List Int}, SIn (fun k => w.heap.size < k ∧ ¬ F k ∧ v.ownBlock ≠ some k) wr z n ys → SIn (fun k => w.heap.size < k ∧ ¬ F k ∧ v'.ownBlock ≠ some k) wr' z n ys := fun hs =>
    ((hs.mono (G' := fun k => (w.heap.size < k ∧ ¬ F k ∧ v.ownBlock ≠ some k) ∧ k < wr.heap.size) (fun k h1 h2 => ⟨h2, h1⟩)).off hoff (fun k _ h2 => h2.1.2.2)).mono (fun k _ h2 => ⟨h2.1.1, h2.1.2.1, fun e => (hloc k e).elim h2.1.2.2 (fun e => by omega)⟩)
  refine ⟨hO.keep h.inv hoff (fun k hk e => h.vF k e hk), ?_, fun j hj => ?_, fun k hk hf => (hloc k hk).elim (fun e => h.vF k e hf) (fun e => by have := hO.lt h.inv k hf; omega), h.hF, off_block h.box hoff (fun e => by have := hvb _ e; omega), h.hB.trans (hoff.below (fun k hk => by have := hvb k hk; omega) hzs)⟩
  · rw [flatG, flatG_congr (g := sealC P Z) i (fun j hj => by simp [sealC, Nat.ne_of_lt hj])]
    simpa [sealC] using own'
  · by_cases e : j = i
    · subst e
      simp only [if_true]
      exact ⟨hkeep hz, fz⟩
    · simp only [e, if_false]
      obtain ⟨h1, h2⟩ := h.out j (by omega)
      exact ⟨hkeep h1, h2⟩
/-- Each is opened by its own number. -/
theorem mopen_yes (hO : OrcIs Inv) {w : World} {a1 : Addr} {key : BitVec 64 × BitVec 64} {P : List (List Int)} {m p : Nat} {F : Nat → Prop} {v : Value} {Z : Nat → Option Addr × Nat} {wr : World} (hm : m ≤ 30) (h : MSt Inv w a1 key P m F (manyL key P m, []) v Z wr) (hp : p < m) {n : Nat} {ys : List Int} (hy : P.getD p [] = ys) (hn : ys.length = n) :
    Calls Try.prog 14 #[.pointer (some a1), .agg #[.int .u64 (nv key.1), .int .u64 (nv key.2)], .agg #[.int .u32 0, .int .u32 0, .int .u64 (p : Int)], .slice none 0 0, .agg #[.slice (Z p).1 n (Z p).2, .int .u64 18446744073709551615, .int .u64 ((p : Int) + 1)]] wr
      fun e w' => ∃ z cz F', e = .returned (.tuple #[.slice z n cz, .bool true]) ∧ MSt Inv w a1 key P m F' (manyL key P m, []) v Z w' ∧ Off F wr w' ∧ SAt w' z n ys := by
  subst hy hn
  obtain ⟨q, hq⟩ : ∃ q, q = askAt key P p p := ⟨_, rfl⟩
  have hit : Hit (manyL key P m) q p := hq ▸ many_hit key P hp
  have e1 : nv q.key.1 = nv key.1 := by rw [hq, askAt]
  have e2 : nv q.key.2 = nv key.2 := by rw [hq, askAt]
  have e3 : nv32 q.non.1 = 0 := by rw [hq, askAt]; rfl
  have e4 : nv32 q.non.2.1 = 0 := by rw [hq, askAt]; rfl
  have e5 : nv q.non.2.2 = (p : Int) := by rw [hq, askAt]; exact nv_ofN p (by omega)
  have e6 : nv q.tag.1 = 18446744073709551615 := by rw [hq, askAt]; exact tagI_1 _
  have e7 : nv q.tag.2 = (p : Int) + 1 := by rw [hq, askAt]; exact tagI_2 (p + 1) (by omega)
  have e8 : q.head = [] := by rw [hq, askAt]
  have e9 : q.bytes = outB (p + 1) (P.getD p []).length := by rw [hq, askAt]
  clear hq
  obtain ⟨hs, fs⟩ := h.out p hp
  have hd : ((manyL key P m).getD p default).data = P.getD p [] := by rw [manyL_get key P hp, issAt]
  refine (oopen_yes hO F _ (manyL key P m, []) q p e1 e2 e3 e4 e5 e6 e7 e8 e9 hd rfl none _ 0 _ 0 _ (by rw [manyL_length]; omega) bytes_none (outB_bytes _ _) fit_none fs hit _ h.inv (SIn.none _ _ _) (hs.mono (fun k _ h => h.2.1))).mono ?_
  rintro e w' ⟨z, cz, F', rfl, hK, so⟩
  exact ⟨z, cz, F', rfl, h.move hK.inv hK.sub hK.off, hK.off, so.sat⟩
theorem mopen_no (hO : OrcIs Inv) {w : World} {a1 : Addr} {key : BitVec 64 × BitVec 64} {P : List (List Int)} {m p k : Nat} {F : Nat → Prop} {v : Value} {Z : Nat → Option Addr × Nat} {wr : World} (hm : m ≤ 30) (h : MSt Inv w a1 key P m F (manyL key P m, []) v Z wr) (hp : p < m) (hk : k < m) (hne : p ≠ k) {n : Nat} (hn : (P.getD k []).length = n) :
    Calls Try.prog 14 #[.pointer (some a1), .agg #[.int .u64 (nv key.1), .int .u64 (nv key.2)], .agg #[.int .u32 0, .int .u32 0, .int .u64 (p : Int)], .slice none 0 0, .agg #[.slice (Z k).1 n (Z k).2, .int .u64 18446744073709551615, .int .u64 ((k : Int) + 1)]] wr
      fun e w' => ∃ z cz F', e = .returned (.tuple #[.slice z 0 cz, .bool false]) ∧ MSt Inv w a1 key P m F' (manyL key P m, []) v Z w' ∧ Off F wr w' := by
  subst hn
  obtain ⟨q, hq⟩ : ∃ q, q = askAt key P p k := ⟨_, rfl⟩
  have hit : ∀ j, ¬ Hit (manyL key P m) q j := hq ▸ many_miss key P hm hp hk hne
  have e1 : nv q.key.1 = nv key.1 := by rw [hq, askAt]
  have e2 : nv q.key.2 = nv key.2 := by rw [hq, askAt]
  have e3 : nv32 q.non.1 = 0 := by rw [hq, askAt]; rfl
  have e4 : nv32 q.non.2.1 = 0 := by rw [hq, askAt]; rfl
  have e5 : nv q.non.2.2 = (p : Int) := by rw [hq, askAt]; exact nv_ofN p (by omega)
  have e6 : nv q.tag.1 = 18446744073709551615 := by rw [hq, askAt]; exact tagI_1 _
  have e7 : nv q.tag.2 = (k : Int) + 1 := by rw [hq, askAt]; exact tagI_2 (k + 1) (by omega)
  have e8 : q.head = [] := by rw [hq, askAt]
  have e9 : q.bytes = outB (k + 1) (P.getD k []).length := by rw [hq, askAt]
  clear hq
  obtain ⟨hs, fs⟩ := h.out k hk
  refine (oopen_no hO F _ (manyL key P m, []) q e1 e2 e3 e4 e5 e6 e7 e8 e9 none _ 0 _ 0 _ (by rw [manyL_length]; omega) bytes_none (outB_bytes _ _) fit_none fs hit _ h.inv (SIn.none _ _ _) (hs.mono (fun k _ h => h.2.1))).mono ?_
  rintro e w' ⟨z, cz, F', rfl, hK⟩
  exact ⟨z, cz, F', rfl, h.move hK.inv hK.sub hK.off, hK.off⟩
end Go.Proofs.Ytfgigbecmhmidaa
