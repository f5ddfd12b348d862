/- Leaves that are the same have one Sum, halves that are the same have one. -/
import Derived.Test.YtkbhkgfchiacbaaM23
import Derived.Test.YtkbhkgfchiacbaaM13
namespace Go.Proofs.Ytkbhkgfchiacbaa
open Go.RowKit
set_option maxRecDepth 20000
variable {Inv : (Nat → Prop) → World → Value → LSt → Prop}

theorem getD_app {α : Type} (a b : List α) (d : α) (j : Nat) : (a ++ b).getD j d = if j < a.length then a.getD j d else b.getD (j - a.length) d := by
  rw [List.getD_eq_getElem?_getD, List.getElem?_append]
  split <;> rw [List.getD_eq_getElem?_getD]
theorem half_step {st : LSt} {Q : List (List Int)} {n h : Nat} {L : List Pr} (ok : TreeOk st Q n 1 L) (h0 : 1 ≤ h) (hn : 4 * h ≤ n) (hs : ∀ i, i < 2 * h → L.getD (4 * h + i) pr0 = L.getD (6 * h + i) pr0) (i : Nat) (hi : i < h) : L.getD (2 * h + i) pr0 = L.getD (3 * h + i) pr0 := by
  have a := ok.high (2 * h + i) (by omega) (by omega)
  have b := ok.high (3 * h + i) (by omega) (by omega)
  have e : highOf (2 * h + i) L = highOf (3 * h + i) L := by
    unfold highOf
    rw [show 2 * (2 * h + i) = 4 * h + 2 * i by omega, show 2 * (3 * h + i) = 6 * h + 2 * i by omega, hs (2 * i) (by omega), show 4 * h + 2 * i + 1 = 4 * h + (2 * i + 1) by omega, hs (2 * i + 1) (by omega), show 6 * h + (2 * i + 1) = 6 * h + 2 * i + 1 by omega]
  rw [e] at a
  exact a.1.symm.trans b.1
theorem halves_ok (st : LSt) (P : List (List Int)) (m n : Nat) (hl : P.length = m) (hn : 2 * m = n) (hg : gmOk (n : Int)) : Hid (∀ i, i < m → (tbuild st (P ++ P)).2.getD (n + i) pr0 = (tbuild st (P ++ P)).2.getD (n + m + i) pr0) ∧ Hid ((tbuild st (P ++ P)).2.getD 2 pr0 = (tbuild st (P ++ P)).2.getD 3 pr0) := by
  have hpl : (P ++ P).length = n := by rw [List.length_append, hl]; omega
  have hm : m = 2 ∨ m = 4 ∨ m = 8 := by
    unfold gmOk at hg
    omega
  have ok := tbuild_ok st (P ++ P) (by omega)
  rw [hpl] at ok
  have h1 : ∀ i, i < m → (tbuild st (P ++ P)).2.getD (n + i) pr0 = (tbuild st (P ++ P)).2.getD (n + m + i) pr0 := fun i hi => by
    have a := ok.low i (by omega)
    have b := ok.low (m + i) (by omega)
    rw [getD_app, if_pos (by omega)] at a
    rw [getD_app, if_neg (by omega), hl, Nat.add_sub_cancel_left] at b
    rw [Nat.add_assoc]
    exact a.1.symm.trans b.1
  refine ⟨hide' h1, hide' ?_⟩
  generalize (tbuild st (P ++ P)).2 = L at *
  subst hn
  rcases hm with rfl | rfl | rfl
  · exact half_step (h := 1) ok (by omega) (by omega) (fun i hi => h1 i (by omega)) 0 (by omega)
  · have h2 := half_step (h := 2) ok (by omega) (by omega) (fun i hi => h1 i (by omega))
    exact half_step (h := 1) ok (by omega) (by omega) (fun i hi => h2 i (by omega)) 0 (by omega)
  · have h3 := half_step (h := 4) ok (by omega) (by omega) (fun i hi => h1 i (by omega))
    have h2 := half_step (h := 2) ok (by omega) (by omega) (fun i hi => h3 i (by omega))
    exact half_step (h := 1) ok (by omega) (by omega) (fun i hi => h2 i (by omega)) 0 (by omega)
set_option maxHeartbeats 4000000 in
theorem trhalves (hL : LockIs Inv) (hO : TreeAll Inv) (b : Bool) (x : Option Addr) (m c : Nat) (P : List (List Int)) (hmx : m ≤ maxLen) (w : World) (sx : LIn (fun k => k < w.heap.size) w x m P) :
    Calls Try.prog 7 #[.bool b, .slice x m c] w fun e w' => e = .returned (.bool true) ∧ Below w.heap.size w w' := by
  go_enter Try.func7, Try.ntmps7
  obtain ⟨N0, hN0⟩ : ∃ z, IntKind.i64.wrap (2 * (m : Int)) = z := ⟨_, rfl⟩
  go_wp2_with fail
  refine (trlong _ x m c P hmx _ sx).mono ?_
  rintro e w1 ⟨rfl | ⟨rfl, hsp⟩, hb1⟩
  · go_wp2
    go_ret
    exact ⟨rfl, hb1⟩
  have T1 := hb1
  have sx1 := sx.off (Off.of_below (F := fun _ => False) hb1) (fun _ _ _ h => h)
  have hlp := sx.1
  have hz1 := hb1.size
  clear sx hb1
  have hm20 : m ≤ 20 := hsp.1
  obtain ⟨N, HN⟩ : ∃ N, Hid (2 * m = N) := ⟨_, rfl⟩
  obtain rfl : N0 = (N : Int) := by
    rw [← hN0, IntKind.wrap_i64]
    have := HN.out
    omega
  go_wp2_with fail
  refine (rgIs (N : Int) w1).mono ?_
  rintro e w2 ⟨rfl, hb2⟩
  have T2 := T1.trans (hb2.mono T1.size)
  by_cases hg' : ¬ gmOk (N : Int)
  · rw [show gmIs (N : Int) = false from decide_eq_false hg']
    go_wp2
    go_ret
    exact ⟨rfl, T2⟩
  have hg := Decidable.not_not.1 hg'
  rw [show gmIs (N : Int) = true from decide_eq_true hg]
  have sx2 := sx1.off (Off.of_below (F := fun _ => False) hb2) (fun _ _ _ h => h)
  have hz2 := hb2.size
  clear sx1 hb2 hg'
  have hm2 : 2 ≤ m := by
    have := HN.out
    unfold gmOk at hg
    omega
  go_wp2_with fail
  refine (trof hL b w2).mono ?_
  rintro e w3 ⟨v, F, rfl, hI, hF, hb3⟩
  have T3 := T2.trans (hb3.mono T2.size)
  have sx3 := sx2.off (Off.of_below (F := fun _ => False) hb3) (fun _ _ _ h => h)
  have hz3 := hb3.size
  clear sx2 hb3
  obtain ⟨bx, ox, vs, ex, hbx, -, hvl, hvc, hvr⟩ := sx3.vals (by omega)
  subst ex
  have hbx0 : ∀ j u, vs[j]? = some u → w3.cell? ⟨bx, ox + j, none⟩ = some u := hvc
  have hown := World.ownsRow_lit (base := w3.heap.size) (e := 40) (size := 1) w3 #[] 0 (Nat.le_refl _) (by decide) rfl
  have hO4 : Off (fun _ => False) w3 (w3.alloc (.cells #[] 40)) := (Off.refl _ _).alloc _
  have hc4 : ∀ j u, vs[j]? = some u → (w3.alloc (.cells #[] 40)).cell? ⟨bx, ox + j, none⟩ = some u := fun j u h => (hO4.cell (p := ⟨bx, ox + j, none⟩) hbx (fun h => h)).trans (hvc j u h)
  have h1c : ∀ u ∈ vs, u.oneCell' = true := fun u hu => by
    obtain ⟨j, hj, rfl⟩ := List.getElem_of_mem hu
    have := hvr j (by omega)
    rw [List.getD_eq_getElem?_getD, List.getElem?_eq_getElem hj] at this
    exact this.one
  go_wp2_with (at_builtin; refine wpList_plain rfl fun _ hK => wp_rows_app (.tmp 22) (.tmp 23) rfl w3.heap.size _ 0 [] rfl hown bx ox m c vs rfl hvl hc4 h1c (by omega) (by omega) hO4.size ?_)
  intro g4 c4 w4 own4 hg4 hgk4
  refine hK _ _ ?_
  clear hK hown hc4
  have hO5 : Off (fun _ => False) w3 w4 := hO4.grown hg4 (fun j h => Or.inr (by cases h; exact Nat.le_refl _))
  have hgb4 := (RowsOf.own own4).2.2.2.2
  clear hg4 hgk4 hO4
  have hc5 : ∀ j u, vs[j]? = some u → w4.cell? ⟨bx, ox + j, none⟩ = some u := fun j u h => (hO5.cell (p := ⟨bx, ox + j, none⟩) hbx (fun h => h)).trans (hvc j u h)
  go_wp2_with (at_builtin; refine wpList_plain rfl fun _ hK => wp_rows_app (.tmp 24) (.tmp 25) rfl w3.heap.size _ m vs rfl own4 bx ox m c vs rfl hvl hc5 h1c (by omega) (by omega) hO5.size ?_)
  intro g5 c5 w5 own5 hg5 hgk5
  refine hK _ _ ?_
  clear hK own4 hc5 hvc
  have hO6 : Off (fun _ => False) w3 w5 := hO5.grown hg5 (fun j h => Or.inr (by cases h; exact hgb4))
  have T5 := T3.trans (hO6.below (fun _ h => h.elim) T3.size)
  clear hg5 hgk5 hO5 hgb4
  rw [show m + m = N by have := HN.out; omega] at own5 ⊢
  obtain ⟨hr5, hl5, hnc, hcm, hgb5⟩ := RowsOf.own own5
  clear own5
  have hlt := hL.lt hI
  have hI5 := hL.keep hI hO6 (fun _ _ h => h)
  have hlin : LIn (fun j => ¬ F j) w5 (some ⟨g5, 0, none⟩) N (P ++ P) := hr5.lin hl5 (by rw [List.length_append, hlp]; have := HN.out; omega) (fun h => by have := hlt g5 h; omega) (fun j hj => by
    have h0 : RVal (fun k => k < w.heap.size) w5 ((vs ++ vs).getD j noRow) ((P ++ P).getD j []) := by
      rw [getD_app, getD_app, hvl, hlp]
      split
      · exact (hvr j (by assumption)).off hO6 (fun _ _ _ h => h)
      · exact (hvr (j - m) (by have := HN.out; omega)).off hO6 (fun _ _ _ h => h)
    exact h0.mono (fun b _ h hf => by have := hF b hf; omega))
  have hbd := hO.build F v ⟨b, [], []⟩ (P ++ P) (some ⟨g5, 0, none⟩) N c5 hg (fun q hq => by have := hsp.2 q ((List.mem_append.1 hq).elim id id); omega) (Nat.zero_le _) ⟨hnc, hcm, fun e => by cases e⟩ w5 hI5 hlin
  obtain ⟨R, HR⟩ : ∃ R, Hid (tbuild ⟨b, [], []⟩ (P ++ P) = R) := ⟨_, rfl⟩
  rw [HR.out] at hbd
  have HH : Hid (∀ i, i < m → R.2.getD (N + i) pr0 = R.2.getD (N + m + i) pr0) ∧ Hid (R.2.getD 2 pr0 = R.2.getD 3 pr0) := by
    rw [← HR.out]
    exact halves_ok _ P m N hlp HN.out hg
  have hN16 : 4 ≤ N ∧ N ≤ 16 := by
    unfold gmOk at hg
    omega
  have hF' := hF
  clear hlin hI5 hI hr5 hl5 hlt hO6 hvr h1c hg sx3 hbx0 hz1 hz2 hz3 hF hsp hlp
  obtain ⟨N2, HN2⟩ : ∃ N2, Hid (2 * N = N2) := ⟨_, rfl⟩
  rw [HN2.out] at hbd
  have hw2 : IntKind.i64.wrap (2 * (N : Int)) = (N2 : Int) := by
    rw [IntKind.wrap_i64]
    have := HN2.out
    omega
  have hN2 : 8 ≤ N2 ∧ N2 ≤ 32 := by
    have := HN2.out
    omega
  go_wp2_with fail
  refine hbd.mono ?_
  clear hbd
  rintro e w6 ⟨z, cz, F6, rfl, hK6, hz6, -⟩
  have T6 := T5.trans (hK6.off.below (fun j hj => Nat.le_trans T2.size (hF' j hj)) T5.size)
  clear hK6
  obtain ⟨g, o, rfl, hgz, -, hzc⟩ := hz6.2 (by omega)
  clear hz6
  have d2 := (hzc 2 (by omega)).1
  have d3 := (hzc 2 (by omega)).2
  have d6 := (hzc 3 (by omega)).1
  have d7 := (hzc 3 (by omega)).2
  rw [HH.2.out] at d2 d3
  obtain ⟨q1, hq1⟩ : ∃ q, nv (R.2.getD 3 pr0).1 = q := ⟨_, rfl⟩
  obtain ⟨q2, hq2⟩ : ∃ q, nv (R.2.getD 3 pr0).2 = q := ⟨_, rfl⟩
  rw [hq1] at d2 d6
  rw [hq2] at d3 d7
  clear hq1 hq2
  replace d2 : w6.cell? ⟨g, o + 4, none⟩ = _ := d2
  replace d3 : w6.cell? ⟨g, o + 4 + 1, none⟩ = _ := d3
  replace d6 : w6.cell? ⟨g, o + 6, none⟩ = _ := d6
  replace d7 : w6.cell? ⟨g, o + 6 + 1, none⟩ = _ := d7
  have h2N : (2 : Int) < N2 := by omega
  have h3N : (3 : Int) < N2 := by omega
  have HZC := hide' hzc
  clear hzc
  go_wp2_with fail
  refine wp_region_held_drew (S := fun w' => Below w6.heap.size w6 w') (by kernel_rfl) (Below.refl _ _).drew (fun hHeld => ?_)
  refine takeM 0 30 7 rfl rfl rfl (by kernel_rfl) (by kernel_rfl) (by kernel_rfl) (fun _ _ _ h => h) (by rfl) hHeld rfl ?_
  simp only [List.set_cons_succ, List.set_cons_zero]
  refine takeL 1 31 (v := ?_) rfl rfl (by kernel_rfl) (by kernel_rfl) (by kernel_rfl) (fun _ _ _ h => h) (by rfl) hHeld (fun w hSw => ?_) ?_
  rotate_left 1
  · (try dsimp only at hSw)
    clear hSw
    go_simp
    try with_reducible rfl
  simp only [List.set_cons_succ, List.set_cons_zero]
  refine takeM 2 32 31 rfl rfl rfl (by kernel_rfl) (by kernel_rfl) (by kernel_rfl) (fun _ _ _ h => h) (by rfl) hHeld rfl ?_
  simp only [List.set_cons_succ, List.set_cons_zero]
  refine takeM 3 33 6 rfl rfl rfl (by kernel_rfl) (by kernel_rfl) (by kernel_rfl) (fun _ _ _ h => h) (by rfl) hHeld rfl ?_
  simp only [List.set_cons_succ, List.set_cons_zero]
  refine takeL 4 34 (v := ?_) rfl rfl (by kernel_rfl) (by kernel_rfl) (by kernel_rfl) (fun _ _ _ h => h) (by rfl) hHeld (fun w hSw => ?_) ?_
  rotate_left 1
  · (try dsimp only at hSw)
    clear hSw
    go_simp
    try with_reducible rfl
  simp only [List.set_cons_succ, List.set_cons_zero]
  refine takeM 5 35 5 rfl rfl rfl (by kernel_rfl) (by kernel_rfl) (by kernel_rfl) (fun _ _ _ h => h) (by rfl) hHeld rfl ?_
  simp only [List.set_cons_succ, List.set_cons_zero]
  refine takeL 6 36 (v := ?_) rfl rfl (by kernel_rfl) (by kernel_rfl) (by kernel_rfl) (fun _ _ _ h => h) (by rfl) hHeld (fun w hSw => ?_) ?_
  rotate_left 1
  · (try dsimp only at hSw)
    clear hSw
    go_simp
    try with_reducible rfl
  simp only [List.set_cons_succ, List.set_cons_zero]
  refine takeL 7 37 (v := ?_) rfl rfl (by kernel_rfl) (by kernel_rfl) (by kernel_rfl) (fun _ _ _ h => h) (by rfl) hHeld (fun w hSw => ?_) ?_
  rotate_left 1
  · (try dsimp only at hSw)
    clear hSw
    go_simp
    try with_reducible rfl
  simp only [List.set_cons_succ, List.set_cons_zero]
  refine takeL 8 38 (v := ?_) rfl rfl (by kernel_rfl) (by kernel_rfl) (by kernel_rfl) (fun _ _ _ h => h) (by rfl) hHeld (fun w hSw => ?_) ?_
  rotate_left 1
  · (try dsimp only at hSw)
    clear hSw
    go_simp
    try with_reducible rfl
  simp only [List.set_cons_succ, List.set_cons_zero]
  refine takeM 9 39 38 rfl rfl rfl (by kernel_rfl) (by kernel_rfl) (by kernel_rfl) (fun _ _ _ h => h) (by rfl) hHeld rfl ?_
  simp only [List.set_cons_succ, List.set_cons_zero]
  refine takeM 10 40 6 rfl rfl rfl (by kernel_rfl) (by kernel_rfl) (by kernel_rfl) (fun _ _ _ h => h) (by rfl) hHeld rfl ?_
  simp only [List.set_cons_succ, List.set_cons_zero]
  refine takeL 11 41 (v := ?_) rfl rfl (by kernel_rfl) (by kernel_rfl) (by kernel_rfl) (fun _ _ _ h => h) (by rfl) hHeld (fun w hSw => ?_) ?_
  rotate_left 1
  · (try dsimp only at hSw)
    clear hSw
    go_simp
    try with_reducible rfl
  simp only [List.set_cons_succ, List.set_cons_zero]
  refine takeL 12 42 (v := ?_) rfl rfl (by kernel_rfl) (by kernel_rfl) (by kernel_rfl) (fun _ _ _ h => h) (by rfl) hHeld (fun w hSw => ?_) ?_
  rotate_left 1
  · (try dsimp only at hSw)
    have e0_ : w.cell? ⟨g, o + 4, none⟩ = _ := ((Off.of_below (F := fun _ => False) hSw).cell (p := ⟨g, o + 4, none⟩) hgz (fun h => h)).trans d2
    have e1_ : w.cell? ⟨g, o + 4 + 1, none⟩ = _ := ((Off.of_below (F := fun _ => False) hSw).cell (p := ⟨g, o + 4 + 1, none⟩) hgz (fun h => h)).trans d3
    clear hSw
    go_simp
    try with_reducible rfl
  simp only [List.set_cons_succ, List.set_cons_zero]
  refine takeM 13 43 6 rfl rfl rfl (by kernel_rfl) (by kernel_rfl) (by kernel_rfl) (fun _ _ _ h => h) (by rfl) hHeld rfl ?_
  simp only [List.set_cons_succ, List.set_cons_zero]
  refine takeL 14 44 (v := ?_) rfl rfl (by kernel_rfl) (by kernel_rfl) (by kernel_rfl) (fun _ _ _ h => h) (by rfl) hHeld (fun w hSw => ?_) ?_
  rotate_left 1
  · (try dsimp only at hSw)
    clear hSw
    go_simp
    try with_reducible rfl
  simp only [List.set_cons_succ, List.set_cons_zero]
  refine takeL 15 45 (v := ?_) rfl rfl (by kernel_rfl) (by kernel_rfl) (by kernel_rfl) (fun _ _ _ h => h) (by rfl) hHeld (fun w hSw => ?_) ?_
  rotate_left 1
  · (try dsimp only at hSw)
    have e0_ : w.cell? ⟨g, o + 6, none⟩ = _ := ((Off.of_below (F := fun _ => False) hSw).cell (p := ⟨g, o + 6, none⟩) hgz (fun h => h)).trans d6
    have e1_ : w.cell? ⟨g, o + 6 + 1, none⟩ = _ := ((Off.of_below (F := fun _ => False) hSw).cell (p := ⟨g, o + 6 + 1, none⟩) hgz (fun h => h)).trans d7
    clear hSw
    go_simp
    try with_reducible rfl
  simp only [List.set_cons_succ, List.set_cons_zero]
  refine takeL 16 46 (v := ?_) rfl rfl (by kernel_rfl) (by kernel_rfl) (by kernel_rfl) (fun _ _ _ h => h) (by rfl) hHeld (fun w hSw => ?_) ?_
  rotate_left 1
  · (try dsimp only at hSw)
    have e0_ : (Op.equalIn 10000 34 (.agg #[.int .u64 q1, .int .u64 q2]) (.agg #[.int .u64 q1, .int .u64 q2])).run Try.prog w = .ok true w := by rw [eq32]; simp
    clear hSw
    go_simp
    try with_reducible rfl
  simp only [List.set_cons_succ, List.set_cons_zero]
  refine takeL 17 47 (v := ?_) rfl rfl (by kernel_rfl) (by kernel_rfl) (by kernel_rfl) (fun _ _ _ h => h) (by rfl) hHeld (fun w hSw => ?_) ?_
  rotate_left 1
  · (try dsimp only at hSw)
    clear hSw
    go_simp
    try with_reducible rfl
  simp only [List.set_cons_succ, List.set_cons_zero]
  have hBA := hHeld
  clear hHeld
  refine wpAnyH_done (by kernel_rfl) ?_ _
  go_wp2_with fail
  go_loopw [8] (fun i wr => ∃ k : Nat, k ≤ m ∧ i = .int .i64 (k : Int) ∧ Below w6.heap.size w6 wr) (fun i _ => m - (intOf i).toNat)
  case atStart => exact ⟨0, Nat.zero_le _, rfl, hBA⟩
  case round =>
    obtain ⟨k, hk, rfl, hb⟩ := hrel
    by_cases hlt : k < m
    · have hlt' : (k : Int) < m := by omega
      have hw : IntKind.i64.wrap ((k : Int) + 1) = (k : Int) + 1 := by
        rw [IntKind.wrap_i64]
        omega
      obtain ⟨u, hu⟩ : ∃ u, Hid (N + k = u) := ⟨_, rfl⟩
      obtain ⟨t, ht⟩ : ∃ t, Hid (N + m = t) := ⟨_, rfl⟩
      obtain ⟨s, hs⟩ : ∃ s, Hid (t + k = s) := ⟨_, rfl⟩
      have hwu : IntKind.i64.wrap ((N : Int) + k) = (u : Int) := by
        rw [IntKind.wrap_i64]
        have := hu.out
        omega
      have hwt : IntKind.i64.wrap ((N : Int) + m) = (t : Int) := by
        rw [IntKind.wrap_i64]
        have := ht.out
        omega
      have hws : IntKind.i64.wrap ((t : Int) + k) = (s : Int) := by
        rw [IntKind.wrap_i64]
        have := hs.out
        have := ht.out
        omega
      have hu2 : u < N2 ∧ s < N2 := by
        have := hs.out
        have := ht.out
        have := hu.out
        have := HN.out
        have := HN2.out
        omega
      have hu3 : (u : Int) < N2 := by omega
      have hs3 : (s : Int) < N2 := by omega
      have hh := HH.1.out k hlt
      rw [ht.out, hu.out, hs.out] at hh
      have cu := (HZC.out u hu2.1).1
      have cv := (HZC.out u hu2.1).2
      have cs := (HZC.out s hu2.2).1
      have ct := (HZC.out s hu2.2).2
      rw [hh] at cu cv
      obtain ⟨p1, hp1⟩ : ∃ q, nv (R.2.getD s pr0).1 = q := ⟨_, rfl⟩
      obtain ⟨p2, hp2⟩ : ∃ q, nv (R.2.getD s pr0).2 = q := ⟨_, rfl⟩
      rw [hp1] at cu cs
      rw [hp2] at cv ct
      clear hp1 hp2 hh d2 d3 d6 d7
      have hgz' := Nat.lt_of_lt_of_le hgz hb.size
      replace cu := ((Off.of_below (F := fun _ => False) hb).cell (p := ⟨g, o + u * 2, none⟩) hgz (fun h => h)).trans cu
      replace cv := ((Off.of_below (F := fun _ => False) hb).cell (p := ⟨g, o + u * 2 + 1, none⟩) hgz (fun h => h)).trans cv
      replace cs := ((Off.of_below (F := fun _ => False) hb).cell (p := ⟨g, o + s * 2, none⟩) hgz (fun h => h)).trans cs
      replace ct := ((Off.of_below (F := fun _ => False) hb).cell (p := ⟨g, o + s * 2 + 1, none⟩) hgz (fun h => h)).trans ct
      go_wp2_with fail
      refine wp_region_held_drew (S := fun w' => Below wr.heap.size wr w') (by kernel_rfl) (Below.refl _ _).drew (fun hHeld => ?_)
      refine takeM 0 54 6 rfl rfl rfl (by kernel_rfl) (by kernel_rfl) (by kernel_rfl) (fun _ _ _ h => h) (by rfl) hHeld rfl ?_
      simp only [List.set_cons_succ, List.set_cons_zero]
      refine takeM 1 55 5 rfl rfl rfl (by kernel_rfl) (by kernel_rfl) (by kernel_rfl) (fun _ _ _ h => h) (by rfl) hHeld rfl ?_
      simp only [List.set_cons_succ, List.set_cons_zero]
      refine takeM 2 56 8 rfl rfl rfl (by kernel_rfl) (by kernel_rfl) (by kernel_rfl) (fun _ _ _ h => h) (by rfl) hHeld rfl ?_
      simp only [List.set_cons_succ, List.set_cons_zero]
      refine takeL 3 57 (v := ?_) rfl rfl (by kernel_rfl) (by kernel_rfl) (by kernel_rfl) (fun _ _ _ h => h) (by rfl) hHeld (fun w hSw => ?_) ?_
      rotate_left 1
      · (try dsimp only at hSw)
        clear hSw
        go_simp
        try with_reducible rfl
      simp only [List.set_cons_succ, List.set_cons_zero]
      refine takeL 4 58 (v := ?_) rfl rfl (by kernel_rfl) (by kernel_rfl) (by kernel_rfl) (fun _ _ _ h => h) (by rfl) hHeld (fun w hSw => ?_) ?_
      rotate_left 1
      · (try dsimp only at hSw)
        clear hSw
        go_simp
        try with_reducible rfl
      simp only [List.set_cons_succ, List.set_cons_zero]
      refine takeL 5 59 (v := ?_) rfl rfl (by kernel_rfl) (by kernel_rfl) (by kernel_rfl) (fun _ _ _ h => h) (by rfl) hHeld (fun w hSw => ?_) ?_
      rotate_left 1
      · (try dsimp only at hSw)
        have e0_ : w.cell? ⟨g, o + u * 2, none⟩ = _ := ((Off.of_below (F := fun _ => False) hSw).cell (p := ⟨g, o + u * 2, none⟩) hgz' (fun h => h)).trans cu
        have e1_ : w.cell? ⟨g, o + u * 2 + 1, none⟩ = _ := ((Off.of_below (F := fun _ => False) hSw).cell (p := ⟨g, o + u * 2 + 1, none⟩) hgz' (fun h => h)).trans cv
        clear hSw
        go_simp
        try with_reducible rfl
      simp only [List.set_cons_succ, List.set_cons_zero]
      refine takeM 6 60 6 rfl rfl rfl (by kernel_rfl) (by kernel_rfl) (by kernel_rfl) (fun _ _ _ h => h) (by rfl) hHeld rfl ?_
      simp only [List.set_cons_succ, List.set_cons_zero]
      refine takeM 7 61 5 rfl rfl rfl (by kernel_rfl) (by kernel_rfl) (by kernel_rfl) (fun _ _ _ h => h) (by rfl) hHeld rfl ?_
      simp only [List.set_cons_succ, List.set_cons_zero]
      refine takeM 8 62 1 rfl rfl rfl (by kernel_rfl) (by kernel_rfl) (by kernel_rfl) (fun _ _ _ h => h) (by rfl) hHeld rfl ?_
      simp only [List.set_cons_succ, List.set_cons_zero]
      refine takeL 9 63 (v := ?_) rfl rfl (by kernel_rfl) (by kernel_rfl) (by kernel_rfl) (fun _ _ _ h => h) (by rfl) hHeld (fun w hSw => ?_) ?_
      rotate_left 1
      · (try dsimp only at hSw)
        clear hSw
        go_simp
        try with_reducible rfl
      simp only [List.set_cons_succ, List.set_cons_zero]
      refine takeL 10 64 (v := ?_) rfl rfl (by kernel_rfl) (by kernel_rfl) (by kernel_rfl) (fun _ _ _ h => h) (by rfl) hHeld (fun w hSw => ?_) ?_
      rotate_left 1
      · (try dsimp only at hSw)
        clear hSw
        go_simp
        try with_reducible rfl
      simp only [List.set_cons_succ, List.set_cons_zero]
      refine takeM 11 65 8 rfl rfl rfl (by kernel_rfl) (by kernel_rfl) (by kernel_rfl) (fun _ _ _ h => h) (by rfl) hHeld rfl ?_
      simp only [List.set_cons_succ, List.set_cons_zero]
      refine takeL 12 66 (v := ?_) rfl rfl (by kernel_rfl) (by kernel_rfl) (by kernel_rfl) (fun _ _ _ h => h) (by rfl) hHeld (fun w hSw => ?_) ?_
      rotate_left 1
      · (try dsimp only at hSw)
        clear hSw
        go_simp
        try with_reducible rfl
      simp only [List.set_cons_succ, List.set_cons_zero]
      refine takeL 13 67 (v := ?_) rfl rfl (by kernel_rfl) (by kernel_rfl) (by kernel_rfl) (fun _ _ _ h => h) (by rfl) hHeld (fun w hSw => ?_) ?_
      rotate_left 1
      · (try dsimp only at hSw)
        clear hSw
        go_simp
        try with_reducible rfl
      simp only [List.set_cons_succ, List.set_cons_zero]
      refine takeL 14 68 (v := ?_) rfl rfl (by kernel_rfl) (by kernel_rfl) (by kernel_rfl) (fun _ _ _ h => h) (by rfl) hHeld (fun w hSw => ?_) ?_
      rotate_left 1
      · (try dsimp only at hSw)
        have e0_ : w.cell? ⟨g, o + s * 2, none⟩ = _ := ((Off.of_below (F := fun _ => False) hSw).cell (p := ⟨g, o + s * 2, none⟩) hgz' (fun h => h)).trans cs
        have e1_ : w.cell? ⟨g, o + s * 2 + 1, none⟩ = _ := ((Off.of_below (F := fun _ => False) hSw).cell (p := ⟨g, o + s * 2 + 1, none⟩) hgz' (fun h => h)).trans ct
        clear hSw
        go_simp
        try with_reducible rfl
      simp only [List.set_cons_succ, List.set_cons_zero]
      refine takeL 15 69 (v := ?_) rfl rfl (by kernel_rfl) (by kernel_rfl) (by kernel_rfl) (fun _ _ _ h => h) (by rfl) hHeld (fun w hSw => ?_) ?_
      rotate_left 1
      · (try dsimp only at hSw)
        have e0_ : (Op.equalIn 10000 34 (.agg #[.int .u64 p1, .int .u64 p2]) (.agg #[.int .u64 p1, .int .u64 p2])).run Try.prog w = .ok true w := by rw [eq32]; simp
        clear hSw
        go_simp
        try with_reducible rfl
      simp only [List.set_cons_succ, List.set_cons_zero]
      have hBR := hHeld
      clear hHeld
      refine wpAnyH_done (by kernel_rfl) ?_ _
      go_wp2
      go_roundw
      case rel => exact ⟨k + 1, by omega, by go_num, hb.trans (hBR.mono hb.size)⟩
      case measure => simp [intOf]; omega
    · have hlt' : ¬ (k : Int) < m := by omega
      go_wp2_with fail
      refine (trknown hL hO _).mono ?_
      rintro e wz ⟨rfl, hbz⟩
      have T7 := T6.trans (hb.mono T6.size)
      go_wp2
      go_ret
      exact ⟨rfl, T7.trans (hbz.mono T7.size)⟩
end Go.Proofs.Ytkbhkgfchiacbaa
