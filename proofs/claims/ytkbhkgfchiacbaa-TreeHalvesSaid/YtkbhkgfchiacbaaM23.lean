/- TrTurns TrApp TrAgain: texts laid together. -/
import Derived.Test.YtkbhkgfchiacbaaM12
import Derived.Test.YtkbhkgfchiacbaaM13

/- Any nodes with any leaf turned. -/
namespace Go.Proofs.Ytkbhkgfchiacbaa
open Go.RowKit
set_option maxRecDepth 20000
variable {Inv : (Nat → Prop) → World → Value → LSt → Prop}

set_option maxHeartbeats 2000000 in
theorem trturns (hL : LockIs Inv) (hO : TreeAll Inv) (b : Bool) (x y : Option Addr) (n c m d : Nat) (i : Int) (L : List Pr) (ys : List Int) (fx : Fit x n c) (fy : Fit y m d) (by_ : Bytes ys) (w : World) (sx : PIn (fun k => k < w.heap.size) w x n L) (sy : SIn (fun k => k < w.heap.size) w y m ys) :
    Calls Try.prog 4 #[.bool b, .slice x n c, .int .i64 i, .slice y m d] w fun e w' => e = .returned (.bool true) ∧ Below w.heap.size w w' := by
  go_enter Try.func4, Try.ntmps4
  have hxl := sx.1
  have hyl := sy.1
  by_cases h40 : (n : Int) > 40
  · go_wp2
    go_ret
    exact ⟨rfl, Below.refl _ _⟩
  by_cases h100 : (m : Int) > 100
  · go_wp2
    go_ret
    exact ⟨rfl, Below.refl _ _⟩
  have hn40 : n ≤ 40 := by omega
  have hm100 : m ≤ 100 := by omega
  go_wp2_with fail
  refine (trof hL b w).mono ?_
  rintro e w2 ⟨v, F, rfl, hI, hF, hb2⟩
  have hs2 := hb2.size
  have T2 := hb2
  have sxm := sx.off (Off.of_below (F := fun _ => False) hb2) (fun _ _ _ h => h)
  have sym := sy.off (Off.of_below (F := fun _ => False) hb2) (fun _ _ _ h => h)
  clear sx sy hb2
  have hBox := Box.new
  obtain ⟨two, Htwo⟩ : ∃ t : Bool, Hid (decide (trOk n) = t) := ⟨_, rfl⟩
  have hIs := rtIs x n c (by omega)
  have hIs' : ∀ w : World, Calls Try.prog 19 #[.slice x n c] w fun e w' => e = .returned (.bool two) ∧ Below w.heap.size w w' := fun w => by
    rw [← Htwo.out]
    exact hIs w
  clear hIs hBox
  have hTop : ∀ w : World, PRow w x n (fun i => L.getD i pr0) → Calls Try.prog 14 #[.slice x n c] w fun e w' => ∃ p q, e = .returned (.tuple #[.agg #[.int .u64 p, .int .u64 q], .bool two]) ∧ Below w.heap.size w w' := fun w hp => by
    by_cases ht : trOk n
    · have e : two = true := by
        rw [← Htwo.out]
        exact decide_eq_true ht
      rw [e]
      exact (hO.top L x n c ht fx w hxl hp).mono (fun e w' h => ⟨_, _, h⟩)
    · have e : two = false := by
        rw [← Htwo.out]
        exact decide_eq_false ht
      rw [e]
      exact (hO.topNo x n c (by omega) ht w).mono (fun e w' h => ⟨_, _, h⟩)
  by_cases hg : trOk n ∧ 0 ≤ i ∧ i < ((n / 2 : Nat) : Int)
  · obtain ⟨ht, hi0, hi1⟩ := hg
    obtain ⟨k, rfl⟩ : ∃ k : Nat, i = (k : Int) := ⟨i.toNat, by omega⟩
    have hc := hO.turn F v ⟨b, [], []⟩ L x y n c m d k ys ht (by omega) (Nat.zero_le _) (by omega) by_ fx fy w2 hI (sxm.mono (fun j _ hk hf => by have := hF j hf; omega)) (sym.mono (fun j _ hk hf => by have := hF j hf; omega))
    obtain ⟨R, HR⟩ : ∃ R, Hid (tturn ⟨b, [], []⟩ L k ys = R) := ⟨_, rfl⟩
    rw [HR.out] at hc
    have HX := hide' (And.intro ht (And.intro (show k < n / 2 by omega) (And.intro hn40 (And.intro hm100 hs2))))
    clear ht hi0 hi1 hn40 hm100 h40 h100 hs2
    go_wp2_with fail
    refine hc.mono ?_
    clear hc
    rintro e w3 ⟨z, cz, F2, rfl, hK2, hz, hfz⟩
    have hs2 := HX.out.2.2.2.2
    have hs3 := hK2.off.size
    have T3 := T2.trans (hK2.off.below hF T2.size)
    have sx3 := sxm.off hK2.off (fun j _ hk hf => by have := hF j hf; omega)
    have sy3 := sym.off hK2.off (fun j _ hk hf => by have := hF j hf; omega)
    replace hz : PIn (fun j => j < w3.heap.size) w3 z n R.2 := hz.mono (fun j hk _ => hk)
    clear hK2 sxm sym hI
    go_wp2_with fail
    refine (rlnew b w3).mono ?_
    rintro e w4 ⟨bl, G, rfl, hJ, hG, hb4⟩
    have hs4 := hb4.size
    have T4 := T3.trans (hb4.mono T3.size)
    have sx4 := sx3.off (Off.of_below (F := fun _ => False) hb4) (fun _ _ _ h => h)
    have sy4 := sy3.off (Off.of_below (F := fun _ => False) hb4) (fun _ _ _ h => h)
    have hz4 := hz.off (Off.of_below (F := fun _ => False) hb4) (fun _ _ _ h => h)
    have hc := rtTurn G bl ⟨b, [], []⟩ L x y n c m d k ys hxl HX.out.1.1 HX.out.1.2 HX.out.2.1 (Nat.zero_le _) (by have := HX.out.2.2.2.1; omega) by_ fx fy w4 hJ sx4.prow (sy4.mono (fun j _ hk hf => by have := hG j hf; omega))
    rw [HR.out] at hc
    clear sx3 sy3 sy4 hz hb4
    go_wp2_with fail
    refine hc.mono ?_
    clear hc
    rintro e w5 ⟨g, cg, G', rfl, hK5, hq, -, -⟩
    have sx5 := sx4.off hK5.off (fun j _ hk hf => by have := hG j hf; omega)
    have T5 := T4.trans (hK5.off.below (fun j hj => Nat.le_trans T3.size (hG j hj)) T4.size)
    have hz5 := hz4.off hK5.off (fun j _ hk hf => by have := hG j hf; omega)
    clear hK5 sx4 hz4 hJ
    go_wp2_with fail
    refine (hTop w5 sx5.prow).mono ?_
    rintro e w6 ⟨p, q, rfl, hb6⟩
    have T6 := T5.trans (hb6.mono T5.size)
    have hz6 := (hz5.off (Off.of_below (F := fun _ => False) hb6) (fun _ _ _ h => h)).prow
    have hq6 := (hq.below hb6).prow
    clear hz5 hq hb6 sx5 hTop
    have hbw : Below w6.heap.size w6 (w6.alloc (.cells #[.int .u64 p, .int .u64 q] 34)) := (Below.refl _ _).alloc (Nat.le_refl _) _
    have T7 := T6.trans (hbw.mono T6.size)
    replace hz6 := hz6.grown hbw
    replace hq6 := hq6.grown hbw
    go_wp2_with fail
    generalize w6.alloc (.cells #[.int .u64 p, .int .u64 q] 34) = w7 at *
    refine (rtSame (fun i => R.2.getD i pr0) z (some ⟨g, 0, none⟩) n cz _ (by have := HX.out.2.2.1; omega) w7 hz6 hq6).mono ?_
    rintro e w8 ⟨rfl, hb8⟩
    have T8 := T7.trans (hb8.mono T7.size)
    go_wp2_with fail
    refine (hIs' w8).mono ?_
    rintro e w9 ⟨rfl, hb9⟩
    have T9 := T8.trans (hb9.mono T8.size)
    go_wp2_with fail
    refine (trknown hL hO w9).mono ?_
    rintro e w10 ⟨rfl, hb10⟩
    go_wp2
    go_ret
    exact ⟨rfl, T9.trans (hb10.mono T9.size)⟩
  · have hc := hO.turnNo F v ⟨b, [], []⟩ x y n c m d i (by omega) hg w2 hI
    have HX := hide' (And.intro hg (And.intro hn40 hs2))
    clear hg hn40 hm100 h40 h100
    go_wp2_with fail
    refine hc.mono ?_
    clear hc
    rintro e w3 ⟨z, cz, rfl, hfz, hb3⟩
    have T3 := T2.trans (hb3.mono T2.size)
    have sx3 := sxm.off (Off.of_below (F := fun _ => False) hb3) (fun _ _ _ h => h)
    clear hb3 sxm sym hI
    go_wp2_with fail
    refine (rlnew b w3).mono ?_
    rintro e w4 ⟨bl, G, rfl, -, -, hb4⟩
    have T4 := T3.trans (hb4.mono T3.size)
    have sx4 := sx3.off (Off.of_below (F := fun _ => False) hb4) (fun _ _ _ h => h)
    clear sx3 hb4
    go_wp2_with fail
    refine (rtTurnNo _ x y n c m d i (by have := HX.out.2.1; omega) HX.out.1 w4).mono ?_
    rintro e w5 ⟨rfl, hb5⟩
    have T5 := T4.trans (hb5.mono T4.size)
    have sx5 := sx4.off (Off.of_below (F := fun _ => False) hb5) (fun _ _ _ h => h)
    go_wp2_with fail
    refine (hTop w5 sx5.prow).mono ?_
    rintro e w6 ⟨p, q, rfl, hb6⟩
    have T6 := T5.trans (hb6.mono T5.size)
    have T7 := T6.alloc T6.size (.cells #[.int .u64 p, .int .u64 q] 34)
    clear hTop sx4 sx5 hb5
    go_wp2_with fail
    refine (rtSame (fun _ => pr0) z _ 0 cz _ (by decide) _ (fun h => absurd h (by omega)) (fun h => absurd h (by omega))).mono ?_
    rintro e w8 ⟨rfl, hb8⟩
    have T8 := T7.trans (hb8.mono T7.size)
    go_wp2_with fail
    refine (hIs' w8).mono ?_
    rintro e w9 ⟨rfl, hb9⟩
    have T9 := T8.trans (hb9.mono T8.size)
    go_wp2_with fail
    refine (trknown hL hO w9).mono ?_
    rintro e w10 ⟨rfl, hb10⟩
    go_wp2
    go_ret
    exact ⟨rfl, T9.trans (hb10.mono T9.size)⟩
end Go.Proofs.Ytkbhkgfchiacbaa


/- Rows of rows of bytes: their slices as values; append of one such row to another. -/
namespace Go.Proofs.Ytkbhkgfchiacbaa
open Go.RowKit
set_option maxRecDepth 20000

abbrev noRow : Value := .slice none 0 0
/-- This value is a slice of these bytes. -/
def RVal (G : Nat → Prop) (w : World) (u : Value) (ys : List Int) : Prop := ∃ y c, u = .slice y ys.length c ∧ SIn G w y ys.length ys ∧ ys.length ≤ c ∧ c ≤ maxLen ∧ (y = none → ys.length = 0 ∧ c = 0) ∧ Bytes ys
section
variable {F G : Nat → Prop} {w w' : World} {u : Value} {ys : List Int}
theorem RVal.row {b o : Nat} (h : RVal G w u ys) (hc : w.cell? ⟨b, o, none⟩ = some u) : RowInG G w b o ys := by
  obtain ⟨y, c, rfl, h⟩ := h
  exact ⟨y, c, hc, h⟩
theorem RVal.off (h : RVal G w u ys) (hb : Off F w w') (hd : ∀ b, b < w.heap.size → G b → ¬ F b) : RVal G w' u ys := by
  obtain ⟨y, c, rfl, hs, h⟩ := h
  exact ⟨y, c, rfl, hs.off hb hd, h⟩
theorem RVal.mono {G' : Nat → Prop} (h : RVal G w u ys) (hd : ∀ b, b < w.heap.size → G b → G' b) : RVal G' w u ys := by
  obtain ⟨y, c, rfl, hs, h⟩ := h
  exact ⟨y, c, rfl, hs.mono hd, h⟩
theorem RVal.one (h : RVal G w u ys) : u.oneCell' = true := by
  obtain ⟨y, c, rfl, -⟩ := h
  rfl
theorem RVal.of {y : Option Addr} {n c : Nat} (hs : SIn G w y n ys) (hf : Fit y n c) (hb : Bytes ys) : RVal G w (.slice y n c) ys := by
  obtain rfl : ys.length = n := hs.1
  exact ⟨y, c, rfl, hs, hf.1, hf.2.1, hf.2.2, hb⟩
end
theorem LIn.vals {G : Nat → Prop} {w : World} {x : Option Addr} {n : Nat} {P : List (List Int)} (h : LIn G w x n P) (hn : 0 < n) : ∃ (b o : Nat) (vs : List Value), x = some ⟨b, o, none⟩ ∧ b < w.heap.size ∧ G b ∧ vs.length = n ∧ (∀ j u, vs[j]? = some u → w.cell? ⟨b, o + j, none⟩ = some u) ∧ ∀ i, i < n → RVal G w (vs.getD i noRow) (P.getD i []) := by
  obtain ⟨b, o, e, hlt, hg, hr⟩ := h.2 hn
  have hget : ∀ i, i < n → ((List.range n).map fun i => (w.cell? ⟨b, o + i, none⟩).getD noRow)[i]? = some ((w.cell? ⟨b, o + i, none⟩).getD noRow) := fun i hi => by
    rw [List.getElem?_map, List.getElem?_range hi]
    rfl
  refine ⟨b, o, (List.range n).map fun i => (w.cell? ⟨b, o + i, none⟩).getD noRow, e, hlt, hg, by simp, fun j u hj => ?_, fun i hi => ?_⟩
  · have hjn : j < n := by
      have := (List.getElem?_eq_some_iff.1 hj).1
      simpa using this
    rw [hget j hjn] at hj
    obtain ⟨y, c, h1, -⟩ := hr j hjn
    rw [h1] at hj ⊢
    exact hj
  · rw [List.getD_eq_getElem?_getD, hget i hi]
    obtain ⟨y, c, h1, h2⟩ := hr i hi
    rw [h1]
    exact ⟨y, c, rfl, h2⟩
/-- These values stand in block g. -/
def RowsOf (w : World) (g : Nat) (vs : List Value) : Prop := g < w.heap.size ∧ (∀ i, w.frozen? ⟨g, i, none⟩ = false) ∧ ∀ j u, vs[j]? = some u → w.cell? ⟨g, j, none⟩ = some u
theorem RowsOf.own {w : World} {base n g c : Nat} {vs : List Value} (h : w.ownsRow base 40 1 (.slice (some ⟨g, 0, none⟩) n c) n vs) : RowsOf w g vs ∧ vs.length = n ∧ n ≤ c ∧ c ≤ maxLen ∧ base ≤ g := by
  obtain ⟨hl, ⟨e, _⟩ | ⟨g', cap, cur, e, hg, hh, hnc, hcm, hsz, htk⟩⟩ := h
  · cases e
  · simp only [Value.slice.injEq, Option.some.injEq, Addr.mk.injEq] at e
    obtain ⟨⟨rfl, -, -⟩, -, rfl⟩ := e
    refine ⟨⟨(Array.getElem?_eq_some_iff.1 hh).1, fun i => by simp [World.frozen?, hh], fun j u hj => ?_⟩, by omega, hnc, hcm, hg⟩
    have hj2 : j < n := by
      have := (List.getElem?_eq_some_iff.1 hj).1
      omega
    rw [← htk, List.getElem?_take, if_pos (by omega), Array.getElem?_toList] at hj
    simp [World.cell?, hh, hj]
theorem RowsOf.off {F : Nat → Prop} {w w' : World} {g : Nat} {vs : List Value} (h : RowsOf w g vs) (hb : Off F w w') (hn : ¬ F g) : RowsOf w' g vs := by
  have e := hb.block g h.1 hn
  refine ⟨Nat.lt_of_lt_of_le h.1 hb.size, fun i => ?_, fun j u hj => ?_⟩
  · have := h.2.1 i
    simpa [World.frozen?, e] using this
  · have := h.2.2 j u hj
    simpa [World.cell?, e] using this
theorem RowsOf.put {w : World} {g : Nat} {vs : List Value} (h : RowsOf w g vs) (i : Nat) (hi : i < vs.length) (u : Value) : RowsOf (w.setCell ⟨g, i, none⟩ u) g (vs.set i u) := by
  obtain ⟨v0, hv0⟩ : ∃ v0, vs[i]? = some v0 := ⟨_, List.getElem?_eq_getElem hi⟩
  refine ⟨by have := h.1; simpa [World.setCell] using this, fun j => by rw [World.frozen?_setCell]; exact h.2.1 j, fun j v hj => ?_⟩
  rw [List.getElem?_set] at hj
  by_cases e : i = j
  · subst e
    rw [if_pos rfl, if_pos hi] at hj
    cases hj
    exact World.cell?_setCell_same _ _ _ (h.2.2 i v0 hv0)
  · rw [if_neg e] at hj
    rw [World.cell?_setCell_other _ _ _ _ (by simp)]
    exact h.2.2 j v hj
theorem RowsOf.lin {G : Nat → Prop} {w : World} {g n : Nat} {vs : List Value} {P : List (List Int)} (h : RowsOf w g vs) (hl : vs.length = n) (hP : P.length = n) (hG : G g) (hr : ∀ i, i < n → RVal G w (vs.getD i noRow) (P.getD i [])) : LIn G w (some ⟨g, 0, none⟩) n P := by
  refine ⟨hP, fun _ => ⟨g, 0, rfl, h.1, hG, fun i hi => ?_⟩⟩
  refine (hr i hi).row ?_
  rw [Nat.zero_add, List.getD_eq_getElem?_getD, List.getElem?_eq_getElem (by omega)]
  exact h.2.2 i _ (List.getElem?_eq_getElem (by omega))
/-- append of a row of rows. -/
theorem wp_rows_app {w : World} {o : Oper} {a : Act} {K : Act → World → Prop} {Q : Exit → Act → World → Prop} (s x : Operand)
    (ho : o.op = .call { callee := .builtin .append, args := #[s, x], argTypes := #[22, 22] }) (base : Nat) (v : Value) (n : Nat) (xs : List Value) (hs : a.eval s = v) (hown : w.ownsRow base 40 1 v n xs)
    (b off m c : Nat) (news : List Value) (hx : a.eval x = .slice (some ⟨b, off, none⟩) m c) (hl : news.length = m) (hnews : ∀ j u, news[j]? = some u → w.cell? ⟨b, off + j, none⟩ = some u) (h1 : ∀ u ∈ news, u.oneCell' = true) (hm : 0 < m) (hb : n + m ≤ 100000) (hbase : base ≤ w.heap.size)
    (h : ∀ g c' w', w'.ownsRow base 40 1 (.slice (some ⟨g, 0, none⟩) (n + m) c') (n + m) (xs ++ news) → w.grownBy w' v.ownBlock → v.ownBlock = some g ∨ w.heap.size ≤ g → K (a.put o.dst (.slice (some ⟨g, 0, none⟩) (n + m) c')) w') : o.wp Try.prog a w K Q := by
  obtain ⟨i0, hi, hz0, hz1, hz2⟩ := info_parts Try.rowInfo
  obtain ⟨v', w', hr, h2, h3, h4⟩ := run_append_at (P := Try.prog) w base 22 o.type 40 i0 _ 1 24 Try.underlying22 hi hz0 hz1 hz2 rfl (by decide) v n xs hown ⟨b, off, none⟩ m c news (by omega) (fun j u hj => by rw [addr_add]; exact hnews j u hj) h1 (by unfold maxLen; omega) (by omega) hbase
  obtain ⟨g, c', rfl⟩ : ∃ g c', v' = .slice (some ⟨g, 0, none⟩) (n + m) c' := by
    obtain ⟨_, ⟨rfl, h0⟩ | ⟨g, cap, cur, rfl, -⟩⟩ := h2
    · omega
    · exact ⟨g, cap, rfl⟩
  unfold Oper.wp execOp
  simp only [ho, resolve, invoke, builtin, Sem.run_bind, Sem.run_pure, Result.andThen_ok, List.map_toArray, List.map_cons, List.map_nil, hs, hx, hr]
  exact h g c' w' h2 h3 (h4 g rfl)
end Go.Proofs.Ytkbhkgfchiacbaa


/- A tree with a leaf turned is the tree of the leaves with that one turned: by the real lock. -/
namespace Go.Proofs.Ytkbhkgfchiacbaa
open Go.RowKit
set_option maxRecDepth 20000
variable {Inv : (Nat → Prop) → World → Value → LSt → Prop}

theorem tbuild_ideal (st : LSt) (P : List (List Int)) : (tbuild st P).1.ideal = st.ideal := by
  have hl : ∀ (n k : Nat) (t : TS), (lows P n k t).1.ideal = t.1.ideal := fun n k t => by
    induction k with
    | zero => rfl
    | succ k ih => show ((lows P n k t).1.sumS _).ideal = _; rw [sumS_ideal]; exact ih
  have hh : ∀ (n k : Nat) (t : TS), (highs n k t).1.ideal = t.1.ideal := fun n k t => by
    induction k with
    | zero => rfl
    | succ k ih => show ((highs n k t).1.sumS _).ideal = _; rw [sumS_ideal]; exact ih
  unfold tbuild
  rw [hh, hl]
theorem climb_ideal : ∀ (k : Nat) (s : TS), (climb k s).1.ideal = s.1.ideal := by
  intro k
  induction k using Nat.strongRecOn with
  | _ k ih =>
    intro s
    by_cases h : k = 0
    · subst h
      rw [climb_0]
    · rw [climb_k h, ih (k / 2) (by omega)]
      show (s.1.sumS _).ideal = _
      rw [sumS_ideal]
theorem tturn_ideal (st : LSt) (L : List Pr) (i : Nat) (x : List Int) : (tturn st L i x).1.ideal = st.ideal := by
  unfold tturn
  rw [climb_ideal]
  show (st.sumS _).ideal = _
  rw [sumS_ideal]
theorem climb_sums : ∀ (k : Nat) (s : TS), (climb k s).1.sums.length ≤ s.1.sums.length + k := by
  intro k
  induction k using Nat.strongRecOn with
  | _ k ih =>
    intro s
    by_cases h : k = 0
    · subst h
      rw [climb_0]
      omega
    · rw [climb_k h]
      have h1 := ih (k / 2) (by omega) (highS k s)
      have h2 : (highS k s).1.sums.length ≤ s.1.sums.length + 1 := sumS_len _ _
      by_cases e : k = 1
      · subst e
        omega
      · omega
theorem tturn_sums (st : LSt) (L : List Pr) (i : Nat) (x : List Int) : (tturn st L i x).1.sums.length ≤ st.sums.length + 1 + (L.length / 2 + i) / 2 := by
  unfold tturn
  refine Nat.le_trans (climb_sums _ _) ?_
  have h2 : (lowS (L.length / 2) i x (st, L)).1.sums.length ≤ st.sums.length + 1 := sumS_len _ _
  omega
theorem sumS_real {st : LSt} (h : st.ideal = false) (zs : List Int) : (st.sumS zs).sums = st.sums := by
  unfold LSt.sumS
  rw [if_neg (by rw [h]; decide)]
theorem again_ok (P : List (List Int)) (n i : Nat) (x : List Int) (hl : P.length = n) (hi : i < n) : (tturn (tbuild ⟨false, [], []⟩ P).1 (tbuild ⟨false, [], []⟩ P).2 i x).2 = (tbuild (tturn (tbuild ⟨false, [], []⟩ P).1 (tbuild ⟨false, [], []⟩ P).2 i x).1 (P.set i x)).2 :=
  tturn_build _ _ _ P i x (by omega) rfl (by rw [tbuild_ideal]) (by rw [tturn_ideal, tbuild_ideal])
set_option maxHeartbeats 2000000 in
theorem tragain (hL : LockIs Inv) (hO : TreeAll Inv) (x y : Option Addr) (n c m d : Nat) (i : Int) (P : List (List Int)) (ys : List Int) (hm : n ≤ maxLen) (fx : Fit x n c) (fy : Fit y m d) (by_ : Bytes ys) (w : World) (sx : LIn (fun k => k < w.heap.size) w x n P) (sy : SIn (fun k => k < w.heap.size) w y m ys) :
    Calls Try.prog 5 #[.slice x n c, .int .i64 i, .slice y m d] w fun e w' => e = .returned (.bool true) ∧ Below w.heap.size w w' := by
  go_enter Try.func5, Try.ntmps5
  have hyl := sy.1
  have hlen := sx.1
  go_wp2_with fail
  refine (trlong _ x n c P hm _ sx).mono ?_
  rintro e w1 ⟨rfl | ⟨rfl, hsh⟩, hb1⟩
  · go_wp2
    go_ret
    exact ⟨rfl, hb1⟩
  have hsz := hb1.size
  have T1 : Below w.heap.size w w1 := hb1
  have sx1 := sx.off (Off.of_below (F := fun _ => False) hb1) (fun _ _ _ h => h)
  have sy1 := sy.off (Off.of_below (F := fun _ => False) hb1) (fun _ _ _ h => h)
  clear sx sy hb1
  by_cases h100 : (m : Int) > 100
  · go_wp2
    go_ret
    exact ⟨rfl, T1⟩
  have hm100 : m ≤ 100 := by omega
  go_wp2_with fail
  refine (rgIs (n : Int) w1).mono ?_
  rintro e w2 ⟨rfl, hb2⟩
  have T2 := T1.trans (hb2.mono T1.size)
  by_cases hg' : ¬ gmOk (n : Int)
  · rw [show gmIs (n : Int) = false from decide_eq_false hg']
    go_wp2
    go_ret
    exact ⟨rfl, T2⟩
  have hg := Decidable.not_not.1 hg'
  rw [show gmIs (n : Int) = true from decide_eq_true hg]
  by_cases hi0 : i < 0
  · go_wp2
    go_ret
    exact ⟨rfl, T2⟩
  by_cases hi1 : i ≥ n
  · go_wp2
    go_ret
    exact ⟨rfl, T2⟩
  obtain ⟨k, rfl⟩ : ∃ k : Nat, i = (k : Int) := ⟨i.toNat, by omega⟩
  have hk : k < n := by omega
  have hsz2 := hb2.size
  have sx2 := sx1.off (Off.of_below (F := fun _ => False) hb2) (fun _ _ _ h => h)
  have sy2 := sy1.off (Off.of_below (F := fun _ => False) hb2) (fun _ _ _ h => h)
  obtain ⟨hn20, hP⟩ := hsh
  have hn4 : 4 ≤ n := by
    unfold gmOk at hg
    omega
  obtain ⟨bx, ox, -, ex, -⟩ := sx2.vals (by omega)
  subst ex
  clear sx1 sy1 hb2 hg'
  -- the lock
  go_wp2_with fail
  refine (hL.real w2).mono ?_
  rintro e w3 ⟨v, F, rfl, hI, hF, hb3⟩
  have hsz3 := hb3.size
  have T3 := T2.trans (hb3.mono T2.size)
  have sx3 := sx2.off (Off.of_below (F := fun _ => False) hb3) (fun _ _ _ h => h)
  have sy3 := sy2.off (Off.of_below (F := fun _ => False) hb3) (fun _ _ _ h => h)
  obtain ⟨A, HA⟩ : ∃ A, Hid (tbuild ⟨false, [], []⟩ P = A) := ⟨_, rfl⟩
  obtain ⟨R, HR⟩ : ∃ R, Hid (tturn A.1 A.2 k ys = R) := ⟨_, rfl⟩
  obtain ⟨Z, HZ⟩ : ∃ Z, Hid (tbuild R.1 (P.set k ys) = Z) := ⟨_, rfl⟩
  have HRZ : Hid (Z.2 = R.2) := hide' (by
    rw [← HZ.out, ← HR.out, ← HA.out]
    exact (again_ok P n k ys hlen hk).symm)
  have hA1 : A.1.sums.length ≤ 40 := by
    rw [← HA.out]
    refine Nat.le_trans (tbuild_sums _ _) ?_
    rw [hlen]
    simp
    omega
  have hA2 : A.2.length = 2 * n := by rw [← HA.out, tbuild_len, hlen]
  have hR1 : R.1.sums.length ≤ 100 := by
    rw [← HR.out]
    refine Nat.le_trans (tturn_sums _ _ _ _) ?_
    omega
  have hbd := hO.build F v ⟨false, [], []⟩ P _ n c hg (fun y hy => by have := hP y hy; omega) (Nat.zero_le _) fx w3 hI (sx3.mono (fun j _ hk hf => by have := hF j hf; omega))
  rw [HA.out] at hbd
  have HS := hide' (And.intro hsz (And.intro hsz2 hsz3))
  go_wp2_with fail
  refine hbd.mono ?_
  clear hbd
  rintro e w4 ⟨z, cz, F4, rfl, hK4, hz4, hfz⟩
  have hF4 : ∀ j, F4 j → w2.heap.size ≤ j := fun j hj => (hK4.sub j hj).elim (hF j) (fun h => Nat.le_trans HS.out.2.2 h)
  have sx4 := sx3.off hK4.off (fun j _ hk hf => by have := hF j hf; omega)
  have sy4 := sy3.off hK4.off (fun j _ hk hf => by have := hF j hf; omega)
  have hsz4 := hK4.off.size
  have T4 := T3.trans (hK4.off.below (fun j hj => Nat.le_trans T2.size (hF j hj)) T3.size)
  have ht : trOk (2 * n) := by
    have := hg
    unfold trOk gmOk at *
    omega
  have hcl := hO.turn F4 v A.1 A.2 z y (2 * n) cz m d k ys ht (by omega) (by omega) (by omega) by_ hfz fy w4 hK4.inv (hz4.mono (fun j _ h => h.1)) (sy4.mono (fun j _ hk hf => by have := hF4 j hf; omega))
  rw [HR.out] at hcl
  obtain ⟨N, HN⟩ : ∃ N, Hid (2 * n = N) := ⟨_, rfl⟩
  rw [HN.out] at hcl hz4 hfz hA2
  rw [HN.out]
  have HS4 := hide' hsz4
  clear hK4 sx3 sy3 hI hsz hsz2 hsz3 hsz4
  go_wp2_with fail
  refine hcl.mono ?_
  clear hcl hz4 hfz
  rintro e w5 ⟨zb, cb, F5, rfl, hK5, hz5, hfb⟩
  have hF5 : ∀ j, F5 j → w2.heap.size ≤ j := fun j hj => (hK5.sub j hj).elim (hF4 j) (fun h => Nat.le_trans HS.out.2.2 (Nat.le_trans HS4.out h))
  have sx5 := sx4.off hK5.off (fun j _ hk hf => by have := hF4 j hf; have := HS.out; omega)
  have sy5 := sy4.off hK5.off (fun j _ hk hf => by have := hF4 j hf; have := HS.out; omega)
  have hsz5 := hK5.off.size
  have T5 := T4.trans (hK5.off.below (fun j hj => Nat.le_trans T2.size (hF4 j hj)) T4.size)
  have hI5 := hK5.inv
  have hlt5 := hL.lt hI5
  obtain ⟨bx', ox', vs, ex, hbx, -, hvl, hvc, hvr⟩ := sx5.vals (by omega)
  obtain ⟨rfl, rfl⟩ : bx = bx' ∧ ox = ox' := by
    simp only [Option.some.injEq, Addr.mk.injEq] at ex
    exact ⟨ex.1, ex.2.1⟩
  have HS5 := hide' hsz5
  have hown := World.ownsRow_lit (base := w5.heap.size) (e := 40) (size := 1) w5 #[] 0 (Nat.le_refl _) (by decide) rfl
  have hO6 : Off (fun _ => False) w5 (w5.alloc (.cells #[] 40)) := (Off.refl _ _).alloc _
  have hc6 : ∀ j u, vs[j]? = some u → (w5.alloc (.cells #[] 40)).cell? ⟨bx, ox + j, none⟩ = some u := fun j u h => (hO6.cell (p := ⟨bx, ox + j, none⟩) hbx (fun h => h)).trans (hvc j u h)
  have h1c : ∀ u ∈ vs, u.oneCell' = true := fun u hu => by
    obtain ⟨j, hj, rfl⟩ := List.getElem_of_mem hu
    have := hvr j (by omega)
    rw [List.getD_eq_getElem?_getD, List.getElem?_eq_getElem hj] at this
    exact this.one
  clear hK5 sx4 sy4 hvc ex hsz5
  go_wp2_with (at_builtin; refine wpList_plain rfl fun _ hK => wp_rows_app (.tmp 53) (.tmp 54) rfl w5.heap.size _ 0 [] rfl hown bx ox n c vs rfl hvl hc6 h1c (by omega) (by omega) hO6.size ?_)
  intro g cg w7 own7 hg7 hgk
  refine hK _ _ ?_
  clear hK hown hc6 h1c
  obtain ⟨hr7, -, hnc, hcm, hgb⟩ := RowsOf.own own7
  have hO7 : Off (fun _ => False) w5 w7 := hO6.grown hg7 (fun j h => Or.inr (by cases h; exact Nat.le_refl _))
  clear own7 hg7 hgk hO6
  have f0 := hr7.2.1 k
  obtain ⟨u0, hu0⟩ : ∃ u0, vs[k]? = some u0 := ⟨_, List.getElem?_eq_getElem (by omega)⟩
  have c0 : w7.cell? ⟨g, k, none⟩ = some u0 := hr7.2.2 k u0 hu0
  have h8 := hr7.put k (by omega) (.slice y m d)
  have hO8 : Off (fun _ => False) w5 (w7.setCell ⟨g, k, none⟩ (.slice y m d)) := hO7.setCell (p := ⟨g, k, none⟩) (Or.inr hgb) _
  have hv8 : ∀ j, j < n → RVal (fun k => k < w.heap.size) (w7.setCell ⟨g, k, none⟩ (.slice y m d)) ((vs.set k (.slice y m d)).getD j noRow) ((P.set k ys).getD j []) := fun j hj => by
    rw [List.getD_eq_getElem?_getD, List.getD_eq_getElem?_getD, List.getElem?_set, List.getElem?_set]
    by_cases e : k = j
    · subst e
      rw [if_pos rfl, if_pos rfl, if_pos (by omega), if_pos (by omega)]
      exact (RVal.of sy5 fy by_).off hO8 (fun _ _ _ h => h)
    · rw [if_neg e, if_neg e, ← List.getD_eq_getElem?_getD, ← List.getD_eq_getElem?_getD]
      exact (hvr j hj).off hO8 (fun _ _ _ h => h)
  have hI8 := hL.keep hI5 hO8 (fun _ _ h => h)
  have hz8 := hz5.off hO8 (fun _ _ _ h => h)
  have T8 := T5.trans (hO8.below (fun _ h => h.elim) T5.size)
  have hlin : LIn (fun j => ¬ F5 j) (w7.setCell ⟨g, k, none⟩ (.slice y m d)) (some ⟨g, 0, none⟩) n (P.set k ys) := h8.lin (by rw [List.length_set]; exact hvl) (by rw [List.length_set]; exact hlen) (fun h => by have := hlt5 g h; omega) (fun j hj => (hv8 j hj).mono (fun b _ h hf => by have := hF5 b hf; have := HS.out; omega))
  have hbd := hO.build F5 v R.1 (P.set k ys) (some ⟨g, 0, none⟩) n cg hg (fun q hq => by
    rcases List.mem_or_eq_of_mem_set hq with h | rfl
    · have := hP q h
      omega
    · omega) (by omega) ⟨hnc, hcm, fun e => by cases e⟩ _ hI8 hlin
  rw [HZ.out] at hbd
  clear h8 hv8 hI8 hlin hO7 hO8 hz5 hI5 hu0 hvr sx5 sy5 sx2 sy2 hr7
  rw [HN.out] at hbd
  have hN : N ≤ 100000 := by
    have := HN.out
    omega
  have hk1 : (k : Int) < n := by omega
  go_wp2_with fail
  refine hbd.mono ?_
  clear hbd c0 f0
  rintro e w9 ⟨zc, cc, F9, rfl, hK9, hz9, -⟩
  have hz8' := hz8.off hK9.off (fun j _ hj hf => hj.1 hf)
  have T9 := T8.trans (hK9.off.below (fun j hj => Nat.le_trans T2.size (hF5 j hj)) T8.size)
  have hb9 := hz8'.prow
  have hc9 := hz9.prow
  rw [HRZ.out] at hc9
  clear hK9 hz9 hz8 hz8'
  go_wp2_with fail
  refine (rtSame (fun i => R.2.getD i pr0) zb zc N cb cc hN w9 hb9 hc9).mono ?_
  rintro e w10 ⟨rfl, hb10⟩
  have T10 := T9.trans (hb10.mono T9.size)
  go_wp2_with fail
  refine (trknown hL hO _).mono ?_
  rintro e w11 ⟨rfl, hb11⟩
  go_wp2
  go_ret
  exact ⟨rfl, T10.trans (hb11.mono T10.size)⟩
end Go.Proofs.Ytkbhkgfchiacbaa
