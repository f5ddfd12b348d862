/- TrSt TrRow TrTrn I64 GmSaid TrSaid: texts laid together. -/
import Derived.Test.YtkbhkgfchiacbaaM08
import Derived.Test.YtkbhkgfchiacbaaM06
import Derived.Deep.Matrix
import Derived.Test.YtkbhkgfchiacbaaRows
import Derived.WalkKit
import Derived.WalkSpells
import Derived.WalkLawsBesides
import Derived.Handy
import Derived.Test.YtkbhkgfchiacbaaM01

/- A tree of sums, plain. -/
namespace Go.Proofs.Ytkbhkgfchiacbaa
open Go.RowKit
set_option maxRecDepth 20000

abbrev Pr : Type := BitVec 64 × BitVec 64
abbrev pr0 : Pr := (0#64, 0#64)
/-- A sum, as a Pair. -/
def LSt.sumQ (st : LSt) (zs : List Int) : Pr := if st.ideal = true then (17216961135462248174#64, BitVec.ofNat 64 (sumIx st.sums zs)) else sumP zs
theorem sumIx_le (S : List (List Int)) (p : List Int) : sumIx S p ≤ S.length + 1 := by
  unfold sumIx
  have := List.idxOf_le_length (a := p) (l := S)
  omega
theorem LSt.sumV_Q (st : LSt) (zs : List Int) (h : st.sums.length ≤ 100000) : st.sumV zs = (nv (st.sumQ zs).1, nv (st.sumQ zs).2) := by
  unfold LSt.sumV LSt.sumQ
  split
  · have := sumIx_le st.sums zs
    refine Prod.ext rfl ?_
    show ((sumIx st.sums zs : Nat) : Int) = nv (BitVec.ofNat 64 (sumIx st.sums zs))
    unfold nv
    rw [BitVec.toNat_ofNat, Nat.mod_eq_of_lt (by omega)]
  · rfl
/-- What a leaf's sum is of; what two Sums' sum is of. -/
def lowZ (x : List Int) : List Int := 0 :: x
def highZ (a b : Pr) : List Int := 1 :: (pairL a ++ pairL b)
theorem lowZ_bytes {x : List Int} (h : Bytes x) : Bytes (lowZ x) := fun y hy => by
  rcases List.mem_cons.1 hy with rfl | hy
  · omega
  · exact h y hy
theorem highZ_bytes (a b : Pr) : Bytes (highZ a b) := fun y hy => by
  rcases List.mem_cons.1 hy with rfl | hy
  · omega
  · exact ((pairL_bytes a).append (pairL_bytes b)) y hy
theorem highZ_length (a b : Pr) : (highZ a b).length = 33 := by simp [highZ, pairL_length]
/-- A lock, and nodes. -/
abbrev TS : Type := LSt × List Pr
def lowS (n i : Nat) (x : List Int) (s : TS) : TS := (s.1.sumS (lowZ x), s.2.set (n + i) (s.1.sumQ (lowZ x)))
def highOf (i : Nat) (L : List Pr) : List Int := highZ (L.getD (2 * i) pr0) (L.getD (2 * i + 1) pr0)
def highS (i : Nat) (s : TS) : TS := (s.1.sumS (highOf i s.2), s.2.set i (s.1.sumQ (highOf i s.2)))
/-- The first k leaves; the first k nodes above them, from n - 1 down. -/
def lows (P : List (List Int)) (n : Nat) : Nat → TS → TS
  | 0, s => s
  | k + 1, s => lowS n k (P.getD k []) (lows P n k s)
def highs (n : Nat) : Nat → TS → TS
  | 0, s => s
  | k + 1, s => highS (n - 1 - k) (highs n k s)
def tbuild (st : LSt) (P : List (List Int)) : TS := highs P.length (P.length - 1) (lows P P.length P.length (st, List.replicate (2 * P.length) pr0))
/-- All above a node, from below. -/
def climb (k : Nat) (s : TS) : TS := if h : k = 0 then s else climb (k / 2) (highS k s)
  termination_by k
  decreasing_by omega
theorem climb_0 (s : TS) : climb 0 s = s := by rw [climb, dif_pos rfl]
theorem climb_k {k : Nat} (h : k ≠ 0) (s : TS) : climb k s = climb (k / 2) (highS k s) := by rw [climb, dif_neg h]
def tturn (st : LSt) (L : List Pr) (i : Nat) (x : List Int) : TS := climb ((L.length / 2 + i) / 2) (lowS (L.length / 2) i x (st, L))
section
theorem lowS_len (n i : Nat) (x : List Int) (s : TS) : (lowS n i x s).2.length = s.2.length := by simp [lowS]
theorem highS_len (i : Nat) (s : TS) : (highS i s).2.length = s.2.length := by simp [highS]
theorem lows_len (P : List (List Int)) (n : Nat) : ∀ (k : Nat) (s : TS), (lows P n k s).2.length = s.2.length
  | 0, _ => rfl
  | k + 1, s => by rw [lows, lowS_len, lows_len P n k s]
theorem highs_len (n : Nat) : ∀ (k : Nat) (s : TS), (highs n k s).2.length = s.2.length
  | 0, _ => rfl
  | k + 1, s => by rw [highs, highS_len, highs_len n k s]
theorem tbuild_len (st : LSt) (P : List (List Int)) : (tbuild st P).2.length = 2 * P.length := by rw [tbuild, highs_len, lows_len, List.length_replicate]
theorem climb_len : ∀ (k : Nat) (s : TS), (climb k s).2.length = s.2.length := by
  intro k
  induction k using Nat.strongRecOn with
  | _ k ih =>
    intro s
    by_cases h : k = 0
    · subst h
      rw [climb_0]
    · rw [climb_k h, ih (k / 2) (by omega), highS_len]
theorem tturn_len (st : LSt) (L : List Pr) (i : Nat) (x : List Int) : (tturn st L i x).2.length = L.length := by rw [tturn, climb_len, lowS_len]
theorem sumSt_len (S : List (List Int)) (p : List Int) : (sumSt S p).length ≤ S.length + 1 := by
  unfold sumSt
  split
  · omega
  · simp
theorem sumS_len (st : LSt) (zs : List Int) : (st.sumS zs).sums.length ≤ st.sums.length + 1 := by
  unfold LSt.sumS
  split
  · exact sumSt_len _ _
  · omega
theorem lows_sums (P : List (List Int)) (n : Nat) : ∀ (k : Nat) (s : TS), (lows P n k s).1.sums.length ≤ s.1.sums.length + k
  | 0, _ => Nat.le_refl _
  | k + 1, s => Nat.le_trans (sumS_len _ _) (by have := lows_sums P n k s; omega)
theorem highs_sums (n : Nat) : ∀ (k : Nat) (s : TS), (highs n k s).1.sums.length ≤ s.1.sums.length + k
  | 0, _ => Nat.le_refl _
  | k + 1, s => Nat.le_trans (sumS_len _ _) (by have := highs_sums n k s; omega)
theorem tbuild_sums (st : LSt) (P : List (List Int)) : (tbuild st P).1.sums.length ≤ st.sums.length + 2 * P.length := by
  have h1 := highs_sums P.length (P.length - 1) (lows P P.length P.length (st, List.replicate (2 * P.length) pr0))
  have h2 := lows_sums P P.length P.length (st, List.replicate (2 * P.length) pr0)
  unfold tbuild
  dsimp only at h2
  omega
end
/-- It is known which sum that is: whatever is summed besides. -/
def Known (st : LSt) (zs : List Int) (q : Pr) : Prop := st.sumQ zs = q ∧ (st.ideal = true → zs ∈ st.sums)
theorem sumSt_mem (S : List (List Int)) (p : List Int) : p ∈ sumSt S p := by
  unfold sumSt
  split
  · assumption
  · simp
theorem sumSt_keeps {S : List (List Int)} {z : List Int} (p : List Int) (h : z ∈ S) : z ∈ sumSt S p := by
  unfold sumSt
  split
  · exact h
  · exact List.mem_append_left _ h
theorem sumIx_keeps {S : List (List Int)} {z : List Int} (p : List Int) (h : z ∈ S) : sumIx (sumSt S p) z = sumIx S z := by
  unfold sumSt
  split
  · rfl
  · unfold sumIx
    rw [List.idxOf_append, if_pos h]
theorem sumIx_self (S : List (List Int)) (p : List Int) : sumIx (sumSt S p) p = sumIx S p := by
  unfold sumSt
  split
  · rfl
  · rename_i h
    rw [sumIx_new h]
    unfold sumIx
    rw [List.idxOf_append, if_neg h]
    simp
theorem sumS_ideal (st : LSt) (zs : List Int) : (st.sumS zs).ideal = st.ideal := by
  unfold LSt.sumS
  split <;> rfl
theorem known_self (st : LSt) (zs : List Int) : Known (st.sumS zs) zs (st.sumQ zs) := by
  unfold Known LSt.sumS LSt.sumQ
  by_cases h : st.ideal = true
  · simp only [if_pos h]
    exact ⟨by rw [sumIx_self], fun _ => sumSt_mem _ _⟩
  · simp only [if_neg h]
    exact ⟨trivial, fun e => absurd e h⟩
theorem Known.keep {st : LSt} {zs : List Int} {q : Pr} (h : Known st zs q) (p : List Int) : Known (st.sumS p) zs q := by
  obtain ⟨h1, h2⟩ := h
  subst h1
  unfold Known LSt.sumS LSt.sumQ
  by_cases hi : st.ideal = true
  · simp only [if_pos hi]
    exact ⟨by rw [sumIx_keeps p (h2 hi)], fun _ => sumSt_keeps p (h2 hi)⟩
  · simp only [if_neg hi]
    exact ⟨trivial, fun e => absurd e hi⟩
/-- Two sums are one just if what they are of is: by an ideal lock. -/
theorem Known.inj {st : LSt} {y z : List Int} {q : Pr} (hi : st.ideal = true) (hs : st.sums.length ≤ 100000) (h1 : Known st y q) (h2 : Known st z q) : y = z := by
  have e := h1.1.trans h2.1.symm
  unfold LSt.sumQ at e
  rw [if_pos hi, if_pos hi] at e
  have e2 := congrArg BitVec.toNat (Prod.mk.inj e).2
  have a := sumIx_le st.sums y
  have b := sumIx_le st.sums z
  rw [BitVec.toNat_ofNat, BitVec.toNat_ofNat, Nat.mod_eq_of_lt (by omega), Nat.mod_eq_of_lt (by omega)] at e2
  have hy := h1.2 hi
  have hz := h2.2 hi
  unfold sumIx at e2
  have e3 : List.idxOf y st.sums = List.idxOf z st.sums := by omega
  have g1 : st.sums[List.idxOf y st.sums]'(List.idxOf_lt_length_iff.2 hy) = y := List.getElem_idxOf _
  have g2 : st.sums[List.idxOf z st.sums]'(List.idxOf_lt_length_iff.2 hz) = z := List.getElem_idxOf _
  rw [← g1, ← g2]
  congr 1
/-- Nodes from lo on are the sums of what stands below them. -/
structure TreeOk (st : LSt) (P : List (List Int)) (n lo : Nat) (L : List Pr) : Prop where
  len : L.length = 2 * n
  low : ∀ i, i < n → Known st (lowZ (P.getD i [])) (L.getD (n + i) pr0)
  high : ∀ i, lo ≤ i → i < n → Known st (highOf i L) (L.getD i pr0)
theorem getD_setP (L : List Pr) (i j : Nat) (q : Pr) (hi : i < L.length) : (L.set i q).getD j pr0 = if i = j then q else L.getD j pr0 := by
  rw [List.getD_eq_getElem?_getD, List.getD_eq_getElem?_getD, List.getElem?_set]
  by_cases e : i = j
  · subst e
    simp [hi]
  · simp [e]
theorem lows_ok (P : List (List Int)) (n : Nat) (st : LSt) (L : List Pr) (hL : L.length = 2 * n) : ∀ k, k ≤ n → ∀ i, i < k → Known (lows P n k (st, L)).1 (lowZ (P.getD i [])) ((lows P n k (st, L)).2.getD (n + i) pr0)
  | 0, _, _, h => absurd h (by omega)
  | k + 1, hk, i, hi => by
    have hl : (lows P n k (st, L)).2.length = 2 * n := by rw [lows_len]; exact hL
    show Known (lowS n k (P.getD k []) (lows P n k (st, L))).1 _ ((lowS n k (P.getD k []) (lows P n k (st, L))).2.getD (n + i) pr0)
    unfold lowS
    dsimp only
    rw [getD_setP _ _ _ _ (by omega)]
    by_cases e : i = k
    · subst e
      rw [if_pos rfl]
      exact known_self _ _
    · rw [if_neg (by omega)]
      exact (lows_ok P n st L hL k (by omega) i (by omega)).keep _
theorem highOf_set (L : List Pr) (k i : Nat) (q : Pr) (hk : k < i) (hl : k < L.length) : highOf i (L.set k q) = highOf i L := by
  unfold highOf
  rw [getD_setP _ _ _ _ hl, getD_setP _ _ _ _ hl, if_neg (by omega), if_neg (by omega)]
theorem highs_ok (P : List (List Int)) (n : Nat) (s : TS) (h0 : TreeOk s.1 P n n s.2) : ∀ k, k ≤ n - 1 → TreeOk (highs n k s).1 P n (n - k) (highs n k s).2
  | 0, _ => h0
  | k + 1, hk => by
    have ih := highs_ok P n s h0 k (by omega)
    have hl : n - 1 - k < (highs n k s).2.length := by rw [ih.len]; omega
    refine ⟨by rw [highs_len]; exact h0.len, fun i hi => ?_, fun i h1 h2 => ?_⟩
    · show Known (highS (n - 1 - k) (highs n k s)).1 _ ((highS (n - 1 - k) (highs n k s)).2.getD (n + i) pr0)
      unfold highS
      dsimp only
      rw [getD_setP _ _ _ _ hl, if_neg (by omega)]
      exact (ih.low i hi).keep _
    · show Known (highS (n - 1 - k) (highs n k s)).1 (highOf i (highS (n - 1 - k) (highs n k s)).2) ((highS (n - 1 - k) (highs n k s)).2.getD i pr0)
      unfold highS
      dsimp only
      by_cases e : i = n - 1 - k
      · subst e
        rw [getD_setP _ _ _ _ hl, if_pos rfl]
        have e2 : highOf (n - 1 - k) ((highs n k s).2.set (n - 1 - k) ((highs n k s).1.sumQ (highOf (n - 1 - k) (highs n k s).2))) = highOf (n - 1 - k) (highs n k s).2 := by
          unfold highOf
          rw [getD_setP _ _ _ _ hl, getD_setP _ _ _ _ hl, if_neg (by omega), if_neg (by omega)]
        rw [e2]
        exact known_self _ _
      · rw [getD_setP _ _ _ _ hl, if_neg (by omega), highOf_set _ _ _ _ (by omega) hl]
        exact (ih.high i (by omega) h2).keep _
theorem tbuild_ok (st : LSt) (P : List (List Int)) (h : 1 ≤ P.length) : TreeOk (tbuild st P).1 P P.length 1 (tbuild st P).2 := by
  have h0 : TreeOk (lows P P.length P.length (st, List.replicate (2 * P.length) pr0)).1 P P.length P.length (lows P P.length P.length (st, List.replicate (2 * P.length) pr0)).2 :=
    ⟨by rw [lows_len, List.length_replicate], fun i hi => lows_ok P P.length st _ List.length_replicate P.length (Nat.le_refl _) i hi, fun i h1 h2 => absurd h1 (by omega)⟩
  have := highs_ok P P.length _ h0 (P.length - 1) (Nat.le_refl _)
  rw [show P.length - (P.length - 1) = 1 from by omega] at this
  exact this
/-- What is summed besides does not matter. -/
theorem TreeOk.keep {st : LSt} {P : List (List Int)} {n lo : Nat} {L : List Pr} (h : TreeOk st P n lo L) (p : List Int) : TreeOk (st.sumS p) P n lo L := ⟨h.len, fun i hi => (h.low i hi).keep p, fun i h1 h2 => (h.high i h1 h2).keep p⟩
theorem TreeOk.lows {st : LSt} {P : List (List Int)} {n lo : Nat} {L : List Pr} (h : TreeOk st P n lo L) (Q : List (List Int)) (m : Nat) (M : List Pr) : ∀ k, TreeOk (lows Q m k (st, M)).1 P n lo L
  | 0 => h
  | k + 1 => (h.lows Q m M k).keep _
theorem TreeOk.highs {P : List (List Int)} {n lo m : Nat} {L : List Pr} {s : TS} (h : TreeOk s.1 P n lo L) : ∀ k, TreeOk (highs m k s).1 P n lo L
  | 0 => h
  | k + 1 => (h.highs k).keep _
theorem TreeOk.build {st : LSt} {P : List (List Int)} {n lo : Nat} {L : List Pr} (h : TreeOk st P n lo L) (Q : List (List Int)) : TreeOk (tbuild st Q).1 P n lo L := (h.lows Q _ _ _).highs _
theorem highZ_inj {a b c d : Pr} (h : highZ a b = highZ c d) : a = c ∧ b = d := by
  have h1 : pairL a ++ pairL b = pairL c ++ pairL d := (List.cons.inj h).2
  have h2 := List.append_inj h1 (by rw [pairL_length, pairL_length])
  exact ⟨by rw [← pairOf_L a, h2.1, pairOf_L], by rw [← pairOf_L b, h2.2, pairOf_L]⟩
/-- By an ideal lock: what has one top is one. -/
theorem TreeOk.tops {st : LSt} {P Q : List (List Int)} {n : Nat} {L M : List Pr} (hi : st.ideal = true) (hs : st.sums.length ≤ 100000) (h1 : TreeOk st P n 1 L) (h2 : TreeOk st Q n 1 M) (ht : L.getD 1 pr0 = M.getD 1 pr0) : ∀ k, 1 ≤ k → k < 2 * n → L.getD k pr0 = M.getD k pr0 := by
  intro k
  induction k using Nat.strongRecOn with
  | _ k ih =>
    intro h0 hk
    by_cases e : k = 1
    · subst e
      exact ht
    · have hp := ih (k / 2) (by omega) (by omega) (by omega)
      have a := h1.high (k / 2) (by omega) (by omega)
      have b := h2.high (k / 2) (by omega) (by omega)
      rw [← hp] at b
      have hz := highZ_inj (a.inj hi hs b)
      by_cases hd : k % 2 = 0
      · rw [show k = 2 * (k / 2) from by omega]
        exact hz.1
      · rw [show k = 2 * (k / 2) + 1 from by omega]
        exact hz.2
theorem TreeOk.leaves {st : LSt} {P Q : List (List Int)} {n : Nat} {L M : List Pr} (hn : 1 ≤ n) (hi : st.ideal = true) (hs : st.sums.length ≤ 100000) (h1 : TreeOk st P n 1 L) (h2 : TreeOk st Q n 1 M) (ht : L.getD 1 pr0 = M.getD 1 pr0) (i : Nat) (hi2 : i < n) : P.getD i [] = Q.getD i [] := by
  have e := h1.tops hi hs h2 ht (n + i) (by omega) (by omega)
  have a := h1.low i hi2
  have b := h2.low i hi2
  rw [← e] at b
  exact (List.cons.inj (a.inj hi hs b)).2
/-- Trees of one row of leaves are one. -/
theorem TreeOk.same {st : LSt} {P Q : List (List Int)} {n : Nat} {L M : List Pr} (h1 : TreeOk st P n 1 L) (h2 : TreeOk st Q n 1 M) (hp : ∀ i, i < n → P.getD i [] = Q.getD i []) : ∀ j k, k + j = 2 * n → 1 ≤ k → L.getD k pr0 = M.getD k pr0 := by
  intro j
  induction j using Nat.strongRecOn with
  | _ j ih =>
    intro k hk h0
    by_cases hl : k < n
    · have a := h1.high k h0 hl
      have b := h2.high k h0 hl
      have e : highOf k L = highOf k M := by
        unfold highOf
        rw [ih (2 * n - 2 * k) (by omega) (2 * k) (by omega) (by omega), ih (2 * n - (2 * k + 1)) (by omega) (2 * k + 1) (by omega) (by omega)]
      rw [e] at a
      exact a.1.symm.trans b.1
    · by_cases h2n : k < 2 * n
      · obtain ⟨i, rfl⟩ : ∃ i, k = n + i := ⟨k - n, by omega⟩
        have a := h1.low i (by omega)
        have b := h2.low i (by omega)
        rw [hp i (by omega)] at a
        exact a.1.symm.trans b.1
      · rw [List.getD_eq_getElem?_getD, List.getD_eq_getElem?_getD, List.getElem?_eq_none (by have := h1.len; omega), List.getElem?_eq_none (by have := h2.len; omega)]
end Go.Proofs.Ytkbhkgfchiacbaa


/- A row of nodes in memory. -/
namespace Go.Proofs.Ytkbhkgfchiacbaa
open Go.RowKit
set_option maxRecDepth 20000

def prC (L : List Pr) (j : Nat) : Value := if j % 2 = 0 then .int .u64 (nv (L.getD (j / 2) pr0).1) else .int .u64 (nv (L.getD (j / 2) pr0).2)
/-- Block g begins with these Pairs. -/
def PQ (w : World) (g n : Nat) (L : List Pr) : Prop := L.length = n ∧ ∃ cs : Array Value, w.heap[g]? = some (.cells cs 34 (0, 0)) ∧ ∀ j, j < n * 2 → cs[j]? = some (prC L j)
section
variable {w w' : World} {g n : Nat} {L : List Pr}
theorem PQ.lt (h : PQ w g n L) : g < w.heap.size := by
  obtain ⟨_, cs, h1, _⟩ := h
  exact (Array.getElem?_eq_some_iff.1 h1).1
theorem PQ.not8 (h : PQ w g n L) (cur : Array Value) (fr : Nat × Nat) (h2 : w.heap[g]? = some (.cells cur 5 fr)) : False := by
  obtain ⟨_, cs, h1, _⟩ := h
  rw [h1] at h2
  simp at h2
theorem PQ.frozen (h : PQ w g n L) (i : Nat) : w.frozen? ⟨g, i, none⟩ = false := by
  obtain ⟨_, cs, h1, _⟩ := h
  simp [World.frozen?, h1]
theorem PQ.c0 (h : PQ w g n L) {i : Nat} (hi : i < n) : w.cell? ⟨g, i * 2, none⟩ = some (.int .u64 (nv (L.getD i pr0).1)) := by
  obtain ⟨_, cs, h1, h2⟩ := h
  have := h2 (i * 2) (by omega)
  rw [prC, if_pos (by omega), show i * 2 / 2 = i from by omega] at this
  simp [World.cell?, h1, this]
theorem PQ.c1 (h : PQ w g n L) {i : Nat} (hi : i < n) : w.cell? ⟨g, i * 2 + 1, none⟩ = some (.int .u64 (nv (L.getD i pr0).2)) := by
  obtain ⟨_, cs, h1, h2⟩ := h
  have := h2 (i * 2 + 1) (by omega)
  rw [prC, if_neg (by omega), show (i * 2 + 1) / 2 = i from by omega] at this
  simp [World.cell?, h1, this]
theorem PQ.of_block (h : PQ w g n L) (e : w'.heap[g]? = w.heap[g]?) : PQ w' g n L := by
  obtain ⟨h0, cs, h1, h2⟩ := h
  exact ⟨h0, cs, e.trans h1, h2⟩
theorem PQ.off {F : Nat → Prop} (h : PQ w g n L) (hb : Off F w w') (hn : ¬ F g) : PQ w' g n L := h.of_block (hb.block g h.lt hn)
theorem PQ.below (h : PQ w g n L) (hb : Below w.heap.size w w') : PQ w' g n L := h.of_block (hb.block g h.lt)
theorem PQ.prow (h : PQ w g n L) : PRow w (some ⟨g, 0, none⟩) n (fun i => L.getD i pr0) := fun _ => ⟨g, 0, rfl, h.lt, fun i hi => by
  rw [Nat.zero_add]
  exact ⟨h.c0 hi, h.c1 hi⟩⟩
theorem PQ.put (h : PQ w g n L) (i : Nat) (hi : i < n) (q : Pr) : PQ ((w.setCell ⟨g, i * 2, none⟩ (.int .u64 (nv q.1))).setCell ⟨g, i * 2 + 1, none⟩ (.int .u64 (nv q.2))) g n (L.set i q) := by
  obtain ⟨h0, cs, h1, h2⟩ := h
  refine ⟨by rw [List.length_set]; exact h0, (cs.setIfInBounds (i * 2) (.int .u64 (nv q.1))).setIfInBounds (i * 2 + 1) (.int .u64 (nv q.2)), by simp [World.setCell, Array.getElem?_modify, h1], fun j hj => ?_⟩
  have hsz : i * 2 + 1 < cs.size := by
    have := h2 (i * 2 + 1) (by omega)
    exact (Array.getElem?_eq_some_iff.1 this).1
  rw [Array.getElem?_setIfInBounds, Array.getElem?_setIfInBounds]
  unfold prC
  rw [getD_setP _ _ _ _ (by omega)]
  by_cases e1 : i * 2 + 1 = j
  · subst e1
    rw [if_pos rfl, if_pos (by simpa using hsz), if_neg (by omega), if_pos (by omega)]
  · rw [if_neg e1]
    by_cases e2 : i * 2 = j
    · subst e2
      rw [if_pos rfl, if_pos (by omega), if_pos (by omega), if_pos (by omega)]
    · rw [if_neg e2, h2 j hj]
      unfold prC
      rw [if_neg (show ¬ i = j / 2 from by omega)]
end
theorem PQ.offPut (w : World) (g i : Nat) (u v : Value) : Off (fun k => k = g) w ((w.setCell ⟨g, i * 2, none⟩ u).setCell ⟨g, i * 2 + 1, none⟩ v) :=
  ((Off.refl (fun k => k = g) w).setCell (p := ⟨g, i * 2, none⟩) (Or.inl rfl) _).setCell (p := ⟨g, i * 2 + 1, none⟩) (Or.inl rfl) _
theorem PQ.of_own {w : World} {base n g c : Nat} {L : List Pr} (hl : L.length = n) (h : w.ownsRow base 34 2 (.slice (some ⟨g, 0, none⟩) n c) n (flatP (fun i => L.getD i pr0) n)) : PQ w g n L := by
  refine ⟨hl, ?_⟩
  obtain ⟨_, ⟨e, _⟩ | ⟨g', cap, cur, e, hg, hh, hnc, hcm, hsz, htk⟩⟩ := h
  · cases e
  · simp only [Value.slice.injEq, Option.some.injEq, Addr.mk.injEq] at e
    obtain ⟨⟨rfl, -, -⟩, -, rfl⟩ := e
    refine ⟨cur, hh, fun j hj => ?_⟩
    have e1 : cur[j]? = (flatP (fun i => L.getD i pr0) n)[j]? := by
      rw [← htk, List.getElem?_take, if_pos hj, Array.getElem?_toList]
    rw [e1]
    have hg := flatP_get (fun i => L.getD i pr0) n (j / 2) (by omega)
    unfold prC
    by_cases e2 : j % 2 = 0
    · rw [if_pos e2]
      rw [show j / 2 * 2 = j from by omega] at hg
      exact hg.1
    · rw [if_neg e2]
      rw [show j / 2 * 2 + 1 = j from by omega] at hg
      exact hg.2
/-- make of n Pairs. -/
theorem make_pairs (n : Nat) (hn : n ≤ 1000) : ∃ M : Array Value, (∀ w : World, (Instr.makeSlice 24 (.int .i64 (n : Int)) (.int .i64 (n : Int))).run Try.prog w = .ok (.slice (some ⟨w.heap.size, 0, none⟩) n n) (w.alloc (.cells M 34))) ∧ ∀ w : World, PQ (w.alloc (.cells M 34)) w.heap.size n (List.replicate n pr0) := by
  obtain ⟨i0, hi, hz0, hz1, hz2⟩ := info_parts Try.pairInfo
  refine ⟨madeCells #[.int .u64 0, .int .u64 0] (n * 2), fun w => ?_, fun w => ⟨List.length_replicate, _, heap_alloc_new w _, fun j hj => ?_⟩⟩
  · have hr := run_make (P := Try.prog) w 24 34 i0 _ Try.underlying24 hi hz0 .i64 .i64 n n (by omega) (Int.le_refl _) (by rw [hz2]; omega) (by omega)
    rw [hz1] at hr
    exact hr
  · have e0 : (List.replicate n pr0).getD (j / 2) pr0 = pr0 := by
      rw [List.getD_eq_getElem?_getD, List.getElem?_replicate]
      split <;> rfl
    unfold prC
    rw [e0]
    rcases Nat.mod_two_eq_zero_or_one j with e | e
    · simp [madeCells, hj, e]
      rfl
    · simp [madeCells, hj, e]
      rfl
end Go.Proofs.Ytkbhkgfchiacbaa


/- A tree with a leaf turned, plain: by the real lock. -/
namespace Go.Proofs.Ytkbhkgfchiacbaa
open Go.RowKit
set_option maxRecDepth 20000

theorem sumQ_real {st : LSt} (h : st.ideal = false) (zs : List Int) : st.sumQ zs = sumP zs := by
  unfold LSt.sumQ
  rw [if_neg (by rw [h]; decide)]
theorem climb_ok (P : List (List Int)) (n : Nat) : ∀ (k : Nat) (s : TS), s.1.ideal = false → s.2.length = 2 * n → k < n → (∀ i, i < n → sumP (lowZ (P.getD i [])) = s.2.getD (n + i) pr0) → (∀ j, 1 ≤ j → j < n → (∀ t, k / 2 ^ t ≠ j) → sumP (highOf j s.2) = s.2.getD j pr0) →
    (∀ i, i < n → sumP (lowZ (P.getD i [])) = (climb k s).2.getD (n + i) pr0) ∧ (∀ j, 1 ≤ j → j < n → sumP (highOf j (climb k s).2) = (climb k s).2.getD j pr0) ∧ (climb k s).2.getD 0 pr0 = s.2.getD 0 pr0 := by
  intro k
  induction k using Nat.strongRecOn with
  | _ k ih =>
    intro s hr hl hk h1 h2
    by_cases h0 : k = 0
    · subst h0
      rw [climb_0]
      exact ⟨h1, fun j hj hn => h2 j hj hn (fun t => by rw [Nat.zero_div]; omega), rfl⟩
    · rw [climb_k h0]
      have hs2 : (highS k s).2 = s.2.set k (sumP (highOf k s.2)) := by
        unfold highS
        rw [sumQ_real hr]
      have hg : ∀ j, (highS k s).2.getD j pr0 = if k = j then sumP (highOf k s.2) else s.2.getD j pr0 := fun j => by rw [hs2, getD_setP _ _ _ _ (by omega)]
      have := ih (k / 2) (by omega) (highS k s) (by unfold highS; rw [sumS_ideal]; exact hr) (by rw [highS_len]; exact hl) (by omega) (fun i hi => by rw [hg, if_neg (by omega)]; exact h1 i hi) (fun j hj hn ht => by
        by_cases e : k = j
        · subst e
          have e2 : highOf k (highS k s).2 = highOf k s.2 := by
            unfold highOf
            rw [hg, hg, if_neg (by omega), if_neg (by omega)]
          rw [hg, if_pos rfl, e2]
        · have h3 := ht 0
          rw [Nat.pow_zero, Nat.div_one] at h3
          have e2 : highOf j (highS k s).2 = highOf j s.2 := by
            unfold highOf
            rw [hg, hg, if_neg (by omega), if_neg (by omega)]
          rw [hg, if_neg e, e2]
          refine h2 j hj hn (fun t => ?_)
          cases t with
          | zero => rw [Nat.pow_zero, Nat.div_one]; exact e
          | succ t =>
            have := ht t
            rw [Nat.div_div_eq_div_mul] at this
            rw [Nat.pow_succ, Nat.mul_comm]
            exact this)
      refine ⟨this.1, this.2.1, ?_⟩
      rw [this.2.2, hg, if_neg h0]
theorem lows_at0 (P : List (List Int)) (n : Nat) (hn : 1 ≤ n) : ∀ (k : Nat) (s : TS), s.2.length = 2 * n → k ≤ n → (lows P n k s).2.getD 0 pr0 = s.2.getD 0 pr0
  | 0, _, _, _ => rfl
  | k + 1, s, hs, hk => by
    show ((lows P n k s).2.set (n + k) _).getD 0 pr0 = _
    rw [getD_setP _ _ _ _ (by rw [lows_len]; omega), if_neg (by omega)]
    exact lows_at0 P n hn k s hs (by omega)
theorem highs_at0 (n : Nat) : ∀ (k : Nat) (s : TS), s.2.length = 2 * n → k ≤ n - 1 → (highs n k s).2.getD 0 pr0 = s.2.getD 0 pr0
  | 0, _, _, _ => rfl
  | k + 1, s, hs, hk => by
    show ((highs n k s).2.set (n - 1 - k) _).getD 0 pr0 = _
    rw [getD_setP _ _ _ _ (by rw [highs_len]; omega), if_neg (by omega)]
    exact highs_at0 n k s hs (by omega)
theorem tbuild_0 (st : LSt) (P : List (List Int)) (h : 1 ≤ P.length) : (tbuild st P).2.getD 0 pr0 = pr0 := by
  unfold tbuild
  rw [highs_at0 _ _ _ (by rw [lows_len, List.length_replicate]) (Nat.le_refl _), lows_at0 _ _ h _ _ (by rw [List.length_replicate]) (Nat.le_refl _)]
  dsimp only
  rw [List.getD_eq_getElem?_getD, List.getElem?_replicate]
  split <;> rfl
theorem getD_ext {L M : List Pr} (hl : L.length = M.length) (h : ∀ k, k < L.length → L.getD k pr0 = M.getD k pr0) : L = M := by
  apply List.ext_getElem hl
  intro i h1 h2
  have := h i h1
  rw [List.getD_eq_getElem?_getD, List.getD_eq_getElem?_getD, List.getElem?_eq_getElem h1, List.getElem?_eq_getElem h2] at this
  exact this
/-- Turn of Build is Build of the leaves with that one turned. -/
theorem tturn_build (st st2 st3 : LSt) (P : List (List Int)) (i : Nat) (x : List Int) (hi : i < P.length) (h0 : st.ideal = false) (h2 : st2.ideal = false) (h3 : st3.ideal = false) : (tturn st2 (tbuild st P).2 i x).2 = (tbuild st3 (P.set i x)).2 := by
  have ok := tbuild_ok st P (by omega)
  have ok3 := tbuild_ok st3 (P.set i x) (by rw [List.length_set]; omega)
  rw [List.length_set] at ok3
  have hid : ∀ (s : LSt) (Q : List (List Int)), s.ideal = false → (tbuild s Q).1.ideal = false := fun s Q hs => by
    have hl : ∀ (n k : Nat) (t : TS), t.1.ideal = false → (lows Q n k t).1.ideal = false := fun n k t ht => by
      induction k with
      | zero => exact ht
      | succ k ih => show ((lows Q n k t).1.sumS _).ideal = false; rw [sumS_ideal]; exact ih
    have hh : ∀ (n k : Nat) (t : TS), t.1.ideal = false → (highs n k t).1.ideal = false := fun n k t ht => by
      induction k with
      | zero => exact ht
      | succ k ih => show ((highs n k t).1.sumS _).ideal = false; rw [sumS_ideal]; exact ih
    exact hh _ _ _ (hl _ _ _ hs)
  have kn : ∀ {s : LSt} {Q zs : List Int} {q : Pr}, s.ideal = false → Known s zs q → sumP zs = q := fun {s Q zs q} hs hk => (sumQ_real hs zs) ▸ hk.1
  have len2 := ok.len
  have hn2 : (tbuild st P).2.length / 2 = P.length := by rw [len2]; omega
  have hq : (lowS P.length i x (st2, (tbuild st P).2)).2 = (tbuild st P).2.set (P.length + i) (sumP (lowZ x)) := by
    unfold lowS
    dsimp only
    rw [sumQ_real h2]
  have hg : ∀ j, (lowS P.length i x (st2, (tbuild st P).2)).2.getD j pr0 = if P.length + i = j then sumP (lowZ x) else (tbuild st P).2.getD j pr0 := fun j => by rw [hq, getD_setP _ _ _ _ (by omega)]
  have hc := climb_ok (P.set i x) P.length ((P.length + i) / 2) (lowS P.length i x (st2, (tbuild st P).2)) (by unfold lowS; rw [sumS_ideal]; exact h2) (by rw [lowS_len]; exact len2) (by omega) (fun j hj => by
      rw [hg, List.getD_eq_getElem?_getD, List.getElem?_set]
      by_cases e : i = j
      · subst e
        rw [if_pos rfl, if_pos rfl, if_pos hi]
        rfl
      · rw [if_neg e, if_neg (by omega), ← List.getD_eq_getElem?_getD]
        exact kn (Q := []) (hid st P h0) (ok.low j hj)) (fun j hj hn ht => by
      have h4 := ht 0
      rw [Nat.pow_zero, Nat.div_one] at h4
      have e2 : highOf j (lowS P.length i x (st2, (tbuild st P).2)).2 = highOf j (tbuild st P).2 := by
        unfold highOf
        rw [hg, hg, if_neg (by omega), if_neg (by omega)]
      rw [hg, if_neg (by omega), e2]
      exact kn (Q := []) (hid st P h0) (ok.high j hj hn))
  unfold tturn
  rw [hn2]
  have okT : TreeOk (tbuild st3 (P.set i x)).1 (P.set i x) P.length 1 (climb ((P.length + i) / 2) (lowS P.length i x (st2, (tbuild st P).2))).2 := by
    have hr := hid st3 (P.set i x) h3
    exact ⟨by rw [climb_len, lowS_len]; exact len2, fun j hj => ⟨by rw [sumQ_real hr]; exact hc.1 j hj, fun e => absurd e (by rw [hr]; decide)⟩, fun j h1 hn => ⟨by rw [sumQ_real hr]; exact hc.2.1 j h1 hn, fun e => absurd e (by rw [hr]; decide)⟩⟩
  refine getD_ext (by rw [okT.len, ok3.len]) (fun k hk => ?_)
  by_cases e : k = 0
  · subst e
    rw [hc.2.2, tbuild_0 st3 _ (by rw [List.length_set]; omega), hg, if_neg (by omega), tbuild_0 st P (by omega)]
  · exact okT.same ok3 (fun _ _ => rfl) (2 * P.length - k) k (by have := okT.len; omega) (by omega)
end Go.Proofs.Ytkbhkgfchiacbaa


/- An int's range. -/
namespace Go.Proofs.Ytkbhkgfchiacbaa
open Go.RowKit
set_option maxRecDepth 20000

def I64 (x : Int) : Prop := -9223372036854775808 ≤ x ∧ x ≤ 9223372036854775807
theorem I64.small {x : Int} (h0 : -1000000 ≤ x) (h1 : x ≤ 1000000) : I64 x := ⟨by omega, by omega⟩
theorem I64.of {a : Int} (h : (Lit.int .i64 a).wf = true) : I64 a := by
  have : -9223372036854775808 ≤ a ∧ a ≤ 9223372036854775807 := by simpa [Lit.wf, IntKind.min, IntKind.max, IntKind.signed, IntKind.bits] using h
  exact this
end Go.Proofs.Ytkbhkgfchiacbaa


/- Where it all stands, plain; what is asked of the program's places. -/
namespace Go.Proofs.Ytkbhkgfchiacbaa
open Go.RowKit
set_option maxRecDepth 20000

def gmOk (n : Int) : Prop := n = 4 ∨ n = 8 ∨ n = 16
instance (n : Int) : Decidable (gmOk n) := by unfold gmOk; exact inferInstance
def gmIs (n : Int) : Bool := decide (gmOk n)
def gmData (n i : Int) : Int := if gmOk n ∧ 0 ≤ i ∧ i < n then 32 * i else -1
def gmLeaf (n a i : Int) : Int := if gmOk n ∧ (a = 0 ∨ a = 1) ∧ 0 ≤ i ∧ i < n then 32 * n + 64 * n * a + 32 * i else -1
def gmNode (n a i : Int) : Int := if gmOk n ∧ (a = 0 ∨ a = 1) ∧ 0 ≤ i ∧ i < 2 * n then 64 * n + 64 * n * a + 16 * i else -1
def gmRec (n i : Int) : Int := if gmOk n ∧ (i = 0 ∨ i = 1) then 160 * n + 60 * i else -1
def gmSize (n : Int) : Int := if gmOk n then 160 * n + 120 else 0
abbrev gmv (n : Int) : Value := .agg #[.int .i64 n]
/-- What is asked of the program's places. -/
structure GmAll : Prop where
  is_ : ∀ n, I64 n → ∀ w : World, Calls Try.prog 23 #[.int .i64 n] w fun e w' => e = .returned (.bool (gmIs n)) ∧ Below w.heap.size w w'
end Go.Proofs.Ytkbhkgfchiacbaa


/- What the statements ask of the program's trees; the statements' own of, long. -/
namespace Go.Proofs.Ytkbhkgfchiacbaa
open Go.RowKit
set_option maxRecDepth 20000

/-- n Pairs at x, in blocks of G. -/
def PIn (G : Nat → Prop) (w : World) (x : Option Addr) (n : Nat) (L : List Pr) : Prop := L.length = n ∧ (0 < n → ∃ g o, x = some ⟨g, o, none⟩ ∧ g < w.heap.size ∧ G g ∧ ∀ i, i < n → w.cell? ⟨g, o + i * 2, none⟩ = some (.int .u64 (nv (L.getD i pr0).1)) ∧ w.cell? ⟨g, o + i * 2 + 1, none⟩ = some (.int .u64 (nv (L.getD i pr0).2)))
theorem PIn.prow {G : Nat → Prop} {w : World} {x : Option Addr} {n : Nat} {L : List Pr} (h : PIn G w x n L) : PRow w x n (fun i => L.getD i pr0) := fun hn => by
  obtain ⟨g, o, e, h1, _, h3⟩ := h.2 hn
  exact ⟨g, o, e, h1, h3⟩
theorem PIn.off {F G : Nat → Prop} {w w' : World} {x : Option Addr} {n : Nat} {L : List Pr} (h : PIn G w x n L) (hb : Off F w w') (hd : ∀ k, k < w.heap.size → G k → ¬ F k) : PIn G w' x n L :=
  ⟨h.1, fun hn => by
    obtain ⟨g, o, e, h1, h2, h3⟩ := h.2 hn
    exact ⟨g, o, e, Nat.lt_of_lt_of_le h1 hb.size, h2, fun i hi => ⟨(hb.cell (p := ⟨g, o + i * 2, none⟩) h1 (hd g h1 h2)).trans (h3 i hi).1, (hb.cell (p := ⟨g, o + i * 2 + 1, none⟩) h1 (hd g h1 h2)).trans (h3 i hi).2⟩⟩⟩
theorem PIn.mono {G G' : Nat → Prop} {w : World} {x : Option Addr} {n : Nat} {L : List Pr} (h : PIn G w x n L) (hd : ∀ k, k < w.heap.size → G k → G' k) : PIn G' w x n L :=
  ⟨h.1, fun hn => by
    obtain ⟨g, o, e, h1, h2, h3⟩ := h.2 hn
    exact ⟨g, o, e, h1, hd g h1 h2, h3⟩⟩
theorem PQ.pin {G : Nat → Prop} {w : World} {g n : Nat} {L : List Pr} (h : PQ w g n L) (hG : G g) : PIn G w (some ⟨g, 0, none⟩) n L := ⟨h.1, fun _ => ⟨g, 0, rfl, h.lt, hG, fun i hi => by rw [Nat.zero_add]; exact ⟨h.c0 hi, h.c1 hi⟩⟩⟩
def trOk (n : Nat) : Prop := n % 2 = 0 ∧ gmOk ((n / 2 : Nat) : Int)
instance (n : Nat) : Decidable (trOk n) := by unfold trOk; exact inferInstance
/-- What is asked of the program's trees. -/
structure TreeAll (Inv : (Nat → Prop) → World → Value → LSt → Prop) : Prop where
  build : ∀ (F : Nat → Prop) (v : Value) (st : LSt) (P : List (List Int)) (x : Option Addr) (n c : Nat), gmOk (n : Int) → (∀ y ∈ P, y.length ≤ 4000) → st.sums.length ≤ 9000 → Fit x n c → ∀ w : World, Inv F w v st → LIn (fun k => ¬ F k) w x n P →
    Calls Try.prog 10 #[v, .slice x n c] w fun e w' => ∃ z cz F', e = .returned (.tuple #[.slice z (2 * n) cz, .bool true]) ∧ KeptL Inv F w v F' w' (tbuild st P).1 ∧ PIn (fun k => ¬ F' k ∧ w.heap.size ≤ k) w' z (2 * n) (tbuild st P).2 ∧ Fit z (2 * n) cz
  buildNo : ∀ (F : Nat → Prop) (v : Value) (st : LSt) (x : Option Addr) (n c : Nat), ¬ gmOk (n : Int) → ∀ w : World, Inv F w v st →
    Calls Try.prog 10 #[v, .slice x n c] w fun e w' => ∃ z cz, e = .returned (.tuple #[.slice z 0 cz, .bool false]) ∧ Fit z 0 cz ∧ Below w.heap.size w w'
  turn : ∀ (F : Nat → Prop) (v : Value) (st : LSt) (L : List Pr) (x y : Option Addr) (n c m d i : Nat) (ys : List Int), trOk n → i < n / 2 → st.sums.length ≤ 9000 → m ≤ 4000 → Bytes ys → Fit x n c → Fit y m d → ∀ w : World, Inv F w v st → PIn (fun k => ¬ F k) w x n L → SIn (fun k => ¬ F k) w y m ys →
    Calls Try.prog 17 #[v, .slice x n c, .int .i64 (i : Int), .slice y m d] w fun e w' => ∃ z cz F', e = .returned (.tuple #[.slice z n cz, .bool true]) ∧ KeptL Inv F w v F' w' (tturn st L i ys).1 ∧ PIn (fun k => ¬ F' k ∧ w.heap.size ≤ k) w' z n (tturn st L i ys).2 ∧ Fit z n cz
  turnNo : ∀ (F : Nat → Prop) (v : Value) (st : LSt) (x y : Option Addr) (n c m d : Nat) (i : Int), n ≤ 1000 → ¬ (trOk n ∧ 0 ≤ i ∧ i < ((n / 2 : Nat) : Int)) → ∀ w : World, Inv F w v st →
    Calls Try.prog 17 #[v, .slice x n c, .int .i64 i, .slice y m d] w fun e w' => ∃ z cz, e = .returned (.tuple #[.slice z 0 cz, .bool false]) ∧ Fit z 0 cz ∧ Below w.heap.size w w'
  top : ∀ (L : List Pr) (x : Option Addr) (n c : Nat), trOk n → Fit x n c → ∀ w : World, L.length = n → PRow w x n (fun i => L.getD i pr0) →
    Calls Try.prog 14 #[.slice x n c] w fun e w' => e = .returned (.tuple #[.agg #[.int .u64 (nv (L.getD 1 pr0).1), .int .u64 (nv (L.getD 1 pr0).2)], .bool true]) ∧ Below w.heap.size w w'
  topNo : ∀ (x : Option Addr) (n c : Nat), n ≤ 1000 → ¬ trOk n → ∀ w : World, Calls Try.prog 14 #[.slice x n c] w fun e w' => e = .returned (.tuple #[.agg #[.int .u64 0, .int .u64 0], .bool false]) ∧ Below w.heap.size w w'
variable {Inv : (Nat → Prop) → World → Value → LSt → Prop}
theorem trof (hL : LockIs Inv) (b : Bool) (w : World) : Calls Try.prog 11 #[.bool b] w fun e w' => ∃ v F, e = .returned v ∧ Inv F w' v ⟨b, [], []⟩ ∧ (∀ k, F k → w.heap.size ≤ k) ∧ Below w.heap.size w w' := by
  cases b
  · go_enter Try.func11, Try.ntmps11
    go_wp2_with fail
    refine (hL.real _).mono ?_
    rintro e w1 ⟨v, F, rfl, hI, hF, hb⟩
    go_wp2
    go_ret
    have hall := And.intro hI (And.intro hF hb)
    first | exact ⟨_, F, rfl, hall⟩ | exact ⟨_, rfl, F, hall⟩
  · go_enter Try.func11, Try.ntmps11
    go_wp2_with fail
    refine (hL.ideal _).mono ?_
    rintro e w1 ⟨v, F, rfl, hI, hF, hb⟩
    go_wp2
    go_ret
    have hall := And.intro hI (And.intro hF hb)
    first | exact ⟨_, F, rfl, hall⟩ | exact ⟨_, rfl, F, hall⟩
/-- Few leaves, of few bytes. -/
def TrShort (n : Nat) (P : List (List Int)) : Prop := n ≤ 20 ∧ ∀ y ∈ P, y.length ≤ 100
set_option maxHeartbeats 1000000 in
theorem trlong (G : Nat → Prop) (x : Option Addr) (n c : Nat) (P : List (List Int)) (hm : n ≤ maxLen) (w : World) (sx : LIn G w x n P) : Calls Try.prog 9 #[.slice x n c] w fun e w' => (e = .returned (.bool true) ∨ (e = .returned (.bool false) ∧ TrShort n P)) ∧ Below w.heap.size w w' := by
  have hl := sx.1
  have HM := hide' hm
  clear hm
  go_enter Try.func9, Try.ntmps9
  go_wp2_with fail
  go_loopw [3] (fun i wr => ∃ k : Nat, k ≤ n ∧ k ≤ 20 ∧ i = .int .i64 (k : Int) ∧ Hid (∀ i, i < k → (P.getD i []).length ≤ 100) ∧ Below w.heap.size w wr) (fun i _ => 20 - (intOf i).toNat)
  case atStart => exact ⟨0, Nat.zero_le _, Nat.zero_le _, rfl, hide' (fun i hi => absurd hi (by omega)), Below.refl _ _⟩
  case round =>
    obtain ⟨k, hk, hk20, rfl, HA, hb⟩ := hrel
    by_cases hlt : k < n
    · have hlt' : (k : Int) < n := by omega
      by_cases h20 : k < 20
      · have h20' : (k : Int) < 20 := by omega
        have hw : IntKind.i64.wrap ((k : Int) + 1) = (k : Int) + 1 := by
          rw [IntKind.wrap_i64]
          omega
        obtain ⟨bx, ox, rfl, hbx, -, hr⟩ := (sx.off (Off.of_below (F := fun _ => False) hb) (fun _ _ _ h => h)).2 (by omega)
        obtain ⟨y, cy, cell, -, -⟩ := hr k hlt
        obtain ⟨m, hmm⟩ : ∃ m, (P.getD k []).length = m := ⟨_, rfl⟩
        rw [hmm] at cell
        have HMM := hide' hmm
        clear hmm hr
        by_cases hm1 : m > 100
        · have hm' : (m : Int) > 100 := by omega
          go_wp2
          go_ret
          exact ⟨Or.inl rfl, hb⟩
        · have hm' : ¬ (m : Int) > 100 := by omega
          go_wp2
          go_roundw
          case rel => exact ⟨k + 1, by omega, by omega, by go_num, hide' (fun i hi => by
            by_cases e : i = k
            · subst e
              have := HMM.out
              omega
            · exact HA.out i (by omega)), hb⟩
          case measure => simp [intOf]; omega
      · have h20' : ¬ (k : Int) < 20 := by omega
        have h1 : (n : Int) > 20 := by omega
        go_wp2
        go_ret
        exact ⟨Or.inl rfl, hb⟩
    · have hlt' : ¬ (k : Int) < n := by omega
      obtain rfl : k = n := by omega
      have h1 : ¬ (k : Int) > 20 := by omega
      have hall : ∀ y ∈ P, y.length ≤ 100 := fun y hy => by
        obtain ⟨i, hi, rfl⟩ := List.getElem_of_mem hy
        have := HA.out i (by omega)
        rw [List.getD_eq_getElem?_getD, List.getElem?_eq_getElem hi] at this
        exact this
      have hsh := hide' (show TrShort k P from ⟨hk20, hall⟩)
      clear hall
      go_wp2
      go_ret
      exact ⟨Or.inr ⟨rfl, hsh.out⟩, hb⟩
end Go.Proofs.Ytkbhkgfchiacbaa
