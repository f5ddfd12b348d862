/- TrKnown RefGm: texts laid together. -/
import Derived.Test.YtkbhkgfchiacbaaM09
import Derived.Test.YtkbhkgfchiacbaaM11
import Derived.Test.YtkbhkgfchiacbaaM03

/- The statements' own example. -/
namespace Go.Proofs.Ytkbhkgfchiacbaa
open Go.RowKit
set_option maxRecDepth 20000
variable {Inv : (Nat → Prop) → World → Value → LSt → Prop}

theorem Try.rowInfo : (Try.prog.info? 40).map (fun i => (i.zero, i.size, i.bytes)) = some (some (.slice none 0 0), 1, 24) := by kernel_rfl
theorem make_rows (n : Nat) (hn : n ≤ 1000) (w : World) : (Instr.makeSlice 22 (.int .i64 (n : Int)) (.int .i64 (n : Int))).run Try.prog w = .ok (.slice (some ⟨w.heap.size, 0, none⟩) n n) (w.alloc (.cells (madeCells #[.slice none 0 0] n) 40)) := by
  obtain ⟨i0, hi, hz0, hz1, hz2⟩ := info_parts Try.rowInfo
  have hr := run_make (P := Try.prog) w 22 40 i0 _ Try.underlying22 hi hz0 .i64 .i64 n n (by omega) (Int.le_refl _) (by rw [hz2]; omega) (by omega)
  rw [hz1, Nat.mul_one] at hr
  exact hr
theorem make_rows4 : ∀ w : World, (Instr.makeSlice 22 (.int .i64 4) (.int .i64 4)).run Try.prog w = .ok (.slice (some ⟨w.heap.size, 0, none⟩) 4 4) (w.alloc (.cells (madeCells #[.slice none 0 0] 4) 40)) := make_rows 4 (by decide)
theorem make_rows5 : ∀ w : World, (Instr.makeSlice 22 (.int .i64 5) (.int .i64 5)).run Try.prog w = .ok (.slice (some ⟨w.heap.size, 0, none⟩) 5 5) (w.alloc (.cells (madeCells #[.slice none 0 0] 5) 40)) := make_rows 5 (by decide)
/-- n rows of nothing, new. -/
theorem lin_made (n : Nat) (F : Nat → Prop) (w : World) (hF : ∀ k, F k → k < w.heap.size) : LIn (fun k => ¬ F k) (w.alloc (.cells (madeCells #[.slice none 0 0] n) 40)) (some ⟨w.heap.size, 0, none⟩) n (List.replicate n []) := by
  refine ⟨List.length_replicate, fun _ => ⟨w.heap.size, 0, rfl, by rw [World.size_alloc]; omega, fun h => by have := hF _ h; omega, fun i hi => ?_⟩⟩
  have e : (List.replicate n ([] : List Int)).getD i [] = [] := by
    rw [List.getD_eq_getElem?_getD, List.getElem?_replicate]
    split <;> rfl
  rw [e, Nat.zero_add]
  exact RowInG.of ((World.rowIs_made w (.slice none 0 0) n 40).cell hi) (SIn.none _ _ _) (Nat.le_refl _) (Nat.zero_le _) (fun _ => ⟨rfl, rfl⟩) (fun x hx => by cases hx)
/-- What was there is not in what is new. -/
theorem LIn.bel {G : Nat → Prop} {w : World} {x : Option Addr} {n : Nat} {P : List (List Int)} (h : LIn G w x n P) : LIn (fun k => k < w.heap.size) w x n P :=
  ⟨h.1, fun hm => by
    obtain ⟨c, o, e, hl, hg, hr⟩ := h.2 hm
    exact ⟨c, o, e, hl, hl, fun i hi => by
      obtain ⟨y, d, h1, h2, h3⟩ := hr i hi
      exact ⟨y, d, h1, h2.mono (fun k hk _ => hk), h3⟩⟩⟩
theorem LIn.off2 {F : Nat → Prop} {w w' : World} {x : Option Addr} {n : Nat} {P : List (List Int)} (h : LIn (fun k => k < w.heap.size) w x n P) (hb : Below w.heap.size w w') (hF : ∀ k, F k → w.heap.size ≤ k) : LIn (fun k => ¬ F k) w' x n P :=
  ⟨h.1, fun hm => by
    obtain ⟨c, o, e, hl, hg, hr⟩ := (h.off (Off.of_below (F := fun _ => False) hb) (fun _ _ _ h => h)).2 hm
    exact ⟨c, o, e, hl, fun hf => by have := hF c hf; omega, fun i hi => by
      obtain ⟨y, d, h1, h2, h3⟩ := hr i hi
      exact ⟨y, d, h1, h2.mono (fun k _ hk hf => by have := hF k hf; omega), h3⟩⟩⟩
theorem known_row : (tbuild ⟨true, [], []⟩ (List.replicate 4 [])).2.getD 0 pr0 = pr0 ∧ (tbuild ⟨true, [], []⟩ (List.replicate 4 [])).2.getD 4 pr0 = (tbuild ⟨true, [], []⟩ (List.replicate 4 [])).2.getD 7 pr0 := ⟨by kernel_rfl, by kernel_rfl⟩
set_option maxHeartbeats 2000000 in
theorem trknown (hL : LockIs Inv) (hO : TreeAll Inv) (w : World) : Calls Try.prog 16 #[] w fun e w' => e = .returned (.bool true) ∧ Below w.heap.size w w' := by
  go_enter Try.func16, Try.ntmps16
  go_wp2_with fail
  obtain ⟨Ba, HBa⟩ : ∃ B, Hid (w.heap.size = B) := ⟨_, rfl⟩
  refine startX (S := fun w' => Below w.heap.size w w') 7 (by kernel_rfl) (Below.refl _ _).drew (fun hHeld => ?_)
  clear hHeld
  have hdra : Below w.heap.size w w.drew := (Below.refl _ _).drew
  generalize w.drew = wqa at hdra ⊢
  refine shareW (P := ?Pka) (Cond := fun w2 (a : Addr) (g : Nat) (Fl : Nat → Prop) => Inv Fl w2 (.pointer (some a)) ⟨true, [], []⟩ ∧ (∀ k, Fl k → Ba ≤ k) ∧ LIn (fun k => ¬ Fl k) w2 (some ⟨g, 0, none⟩) 4 (List.replicate 4 []) ∧ Below Ba w w2) (fun fin => ?onea) ?twoa
  rotate_left
  case onea =>
    refine twoX 0 1 rfl rfl rfl rfl (by kernel_rfl) ?_ ?_
    · go_wp2_with fail
      refine (hL.ideal _).mono ?_
      rintro e w1 ⟨v, Fl, rfl, hI, hFl, hb⟩
      replace hFl : ∀ k, Fl k → w.heap.size ≤ k := fun k hk => Nat.le_trans hdra.size (hFl k hk)
      replace hb : Below w.heap.size w w1 := hdra.trans (hb.mono hdra.size)
      obtain ⟨a, rfl⟩ := hL.ptr hI
      refine ⟨hb, ?_⟩
      have hm : Below w1.heap.size w1 (w1.alloc (.cells (madeCells #[.slice none 0 0] 4) 40)) := (Below.refl _ _).alloc (Nat.le_refl _) _
      have hrow := lin_made 4 Fl w1 (hL.lt hI)
      have hI2 := hL.below hI hm
      have hb2 := hb.trans (hm.mono hb.size)
      have hmk := make_rows4
      refine onlyX 1 rfl (by kernel_rfl) (by rfl) (fun K hK => ?_)
      go_wp2_with fail
      clear hmk
      refine hK.out _ _ (fun _ => hb2) (fun _ => ?_)
      clear hK K
      replace hFl : ∀ k, Fl k → Ba ≤ k := fun k hk => HBa.out ▸ hFl k hk
      replace hb2 : Below Ba w (w1.alloc (.cells (madeCells #[.slice none 0 0] 4) 40)) := HBa.out ▸ hb2
      generalize (w1.alloc (.cells (madeCells #[.slice none 0 0] 4) 40)) = w2 at *
      generalize w1.heap.size = g at hrow ⊢
      exact fin w2 a g Fl ⟨hI2, hFl, hrow, hb2⟩
    · have hmk := make_rows4
      go_wp2_with fail
      clear hmk
      have hm : Below w.heap.size w (wqa.alloc (.cells (madeCells #[.slice none 0 0] 4) 40)) := hdra.alloc hdra.size _
      have hrow := lin_made 4 (fun _ => False) wqa (fun _ h => h.elim)
      refine ⟨hm, ?_⟩
      generalize (wqa.alloc (.cells (madeCells #[.slice none 0 0] 4) 40)) = w1 at *
      generalize wqa.heap.size = g at hrow ⊢
      refine onlyX 0 rfl (by kernel_rfl) (by rfl) (fun K hK => ?_)
      go_wp2_with fail
      refine (hL.ideal _).mono ?_
      rintro e w2 ⟨v, Fl, rfl, hI, hFl, hb⟩
      obtain ⟨a, rfl⟩ := hL.ptr hI
      have hb2 := hm.trans (hb.mono hm.size)
      refine hK.out _ _ (fun _ => hb2) (fun _ => ?_)
      clear hK K
      have hrow2 : LIn (fun k => ¬ Fl k) w2 (some ⟨g, 0, none⟩) 4 (List.replicate 4 []) := (LIn.bel hrow).off2 hb hFl
      replace hFl : ∀ k, Fl k → Ba ≤ k := fun k hk => HBa.out ▸ Nat.le_trans hm.size (hFl k hk)
      replace hb2 : Below Ba w w2 := HBa.out ▸ hb2
      exact fin w2 a g Fl ⟨hI, hFl, hrow2, hb2⟩
  rintro wa va ga Fa ⟨hIa, hFa, hrowa, hba⟩
  obtain rfl := HBa.out
  have hbd := hO.build Fa (.pointer (some va)) ⟨true, [], []⟩ (List.replicate 4 []) _ 4 4 (Or.inl rfl) (fun y hy => by rw [(List.mem_replicate.1 hy).2]; exact Nat.zero_le _) (Nat.zero_le _) ⟨Nat.le_refl _, by decide, fun e => by cases e⟩ wa hIa hrowa
  obtain ⟨R, HR⟩ : ∃ R, Hid (tbuild ⟨true, [], []⟩ (List.replicate 4 []) = R) := ⟨_, rfl⟩
  rw [HR.out] at hbd
  refine onlyX 2 rfl (by kernel_rfl) (by rfl) (fun K hK => ?_)
  go_wp2_with fail
  refine hbd.mono ?_
  clear hbd hrowa
  rintro e wb ⟨z, cz, F2, rfl, hK2, hz, hfz⟩
  have hbB : Below w.heap.size w wb := hba.trans (hK2.off.below hFa hba.size)
  refine hK.out _ _ (fun _ => hbB) (fun hHeld => ?_)
  clear hK K hK2 hIa hba
  replace hHeld := hHeld (by decide)
  refine moveY 3 5 8 rfl rfl rfl (by kernel_rfl) (by kernel_rfl) (by kernel_rfl) (fun _ _ _ h => h) (by rfl) (by kernel_rfl) (by kernel_rfl) (by decide) hHeld rfl ?_
  simp only [List.set_cons_succ, List.set_cons_zero]
  refine takeY 4 9 (v := ?_) rfl rfl (by kernel_rfl) (by kernel_rfl) (by kernel_rfl) (fun _ _ _ h => h) (by rfl) (by kernel_rfl) (by kernel_rfl) (by decide) hHeld (fun w hSw => ?_) ?_
  rotate_left 1
  · (try dsimp only at hSw)
    clear hSw
    go_simp
    try with_reducible rfl
  simp only [List.set_cons_succ, List.set_cons_zero]
  refine takeY 5 10 (v := ?_) rfl rfl (by kernel_rfl) (by kernel_rfl) (by kernel_rfl) (fun _ _ _ h => h) (by rfl) (by kernel_rfl) (by kernel_rfl) (by decide) hHeld (fun w hSw => ?_) ?_
  rotate_left 1
  · (try dsimp only at hSw)
    clear hSw
    go_simp
    try with_reducible rfl
  simp only [List.set_cons_succ, List.set_cons_zero]
  clear hHeld
  refine onlyX 6 rfl (by kernel_rfl) (by rfl) (fun K hK => ?_)
  go_wp2
  refine hK.out _ _ (fun _ => hbB) (fun _ => ?_)
  clear hK K
  refine onlyX 7 rfl (by kernel_rfl) (by rfl) (fun K hK => ?_)
  go_wp2
  refine hK.out _ _ (fun h => absurd rfl h) (fun _ => ?_)
  clear hK K
  refine doneX (by kernel_rfl) ?_ _
  go_wp2_with fail
  obtain ⟨Bc, HBc⟩ : ∃ B, Hid (wb.heap.size = B) := ⟨_, rfl⟩
  refine startX (S := fun w' => Below wb.heap.size wb w') 7 (by kernel_rfl) (Below.refl _ _).drew (fun hHeld => ?_)
  clear hHeld
  have hdrc : Below wb.heap.size wb wb.drew := (Below.refl _ _).drew
  generalize wb.drew = wqc at hdrc ⊢
  refine shareW (P := ?Pkc) (Cond := fun w2 (a : Addr) (g : Nat) (Fl : Nat → Prop) => Inv Fl w2 (.pointer (some a)) ⟨true, [], []⟩ ∧ (∀ k, Fl k → Bc ≤ k) ∧ LIn (fun k => ¬ Fl k) w2 (some ⟨g, 0, none⟩) 5 (List.replicate 5 []) ∧ Below Bc wb w2) (fun fin => ?onec) ?twoc
  rotate_left
  case onec =>
    refine twoX 0 1 rfl rfl rfl rfl (by kernel_rfl) ?_ ?_
    · go_wp2_with fail
      refine (hL.ideal _).mono ?_
      rintro e w1 ⟨v, Fl, rfl, hI, hFl, hb⟩
      replace hFl : ∀ k, Fl k → wb.heap.size ≤ k := fun k hk => Nat.le_trans hdrc.size (hFl k hk)
      replace hb : Below wb.heap.size wb w1 := hdrc.trans (hb.mono hdrc.size)
      obtain ⟨a, rfl⟩ := hL.ptr hI
      refine ⟨hb, ?_⟩
      have hm : Below w1.heap.size w1 (w1.alloc (.cells (madeCells #[.slice none 0 0] 5) 40)) := (Below.refl _ _).alloc (Nat.le_refl _) _
      have hrow := lin_made 5 Fl w1 (hL.lt hI)
      have hI2 := hL.below hI hm
      have hb2 := hb.trans (hm.mono hb.size)
      have hmk := make_rows5
      refine onlyX 1 rfl (by kernel_rfl) (by rfl) (fun K hK => ?_)
      go_wp2_with fail
      clear hmk
      refine hK.out _ _ (fun _ => hb2) (fun _ => ?_)
      clear hK K
      replace hFl : ∀ k, Fl k → Bc ≤ k := fun k hk => HBc.out ▸ hFl k hk
      replace hb2 : Below Bc wb (w1.alloc (.cells (madeCells #[.slice none 0 0] 5) 40)) := HBc.out ▸ hb2
      generalize (w1.alloc (.cells (madeCells #[.slice none 0 0] 5) 40)) = w2 at *
      generalize w1.heap.size = g at hrow ⊢
      exact fin w2 a g Fl ⟨hI2, hFl, hrow, hb2⟩
    · have hmk := make_rows5
      go_wp2_with fail
      clear hmk
      have hm : Below wb.heap.size wb (wqc.alloc (.cells (madeCells #[.slice none 0 0] 5) 40)) := hdrc.alloc hdrc.size _
      have hrow := lin_made 5 (fun _ => False) wqc (fun _ h => h.elim)
      refine ⟨hm, ?_⟩
      generalize (wqc.alloc (.cells (madeCells #[.slice none 0 0] 5) 40)) = w1 at *
      generalize wqc.heap.size = g at hrow ⊢
      refine onlyX 0 rfl (by kernel_rfl) (by rfl) (fun K hK => ?_)
      go_wp2_with fail
      refine (hL.ideal _).mono ?_
      rintro e w2 ⟨v, Fl, rfl, hI, hFl, hb⟩
      obtain ⟨a, rfl⟩ := hL.ptr hI
      have hb2 := hm.trans (hb.mono hm.size)
      refine hK.out _ _ (fun _ => hb2) (fun _ => ?_)
      clear hK K
      have hrow2 : LIn (fun k => ¬ Fl k) w2 (some ⟨g, 0, none⟩) 5 (List.replicate 5 []) := (LIn.bel hrow).off2 hb hFl
      replace hFl : ∀ k, Fl k → Bc ≤ k := fun k hk => HBc.out ▸ Nat.le_trans hm.size (hFl k hk)
      replace hb2 : Below Bc wb w2 := HBc.out ▸ hb2
      exact fin w2 a g Fl ⟨hI, hFl, hrow2, hb2⟩
  rintro wc vc gc Fc ⟨hIc, hFc, hrowc, hbc⟩
  obtain rfl := HBc.out
  have hbn := hO.buildNo Fc (.pointer (some vc)) ⟨true, [], []⟩ (some ⟨gc, 0, none⟩) 5 5 (by decide) wc hIc
  refine onlyX 2 rfl (by kernel_rfl) (by rfl) (fun K hK => ?_)
  go_wp2_with fail
  refine hbn.mono ?_
  clear hbn hrowc
  rintro e wd ⟨z2, cz2, rfl, -, hbd⟩
  have hbD : Below wb.heap.size wb wd := hbc.trans (hbd.mono hbc.size)
  refine hK.out _ _ (fun _ => hbD) (fun hHeld => ?_)
  clear hK K hIc hbc hbd
  replace hHeld := hHeld (by decide)
  refine moveY 3 11 14 rfl rfl rfl (by kernel_rfl) (by kernel_rfl) (by kernel_rfl) (fun _ _ _ h => h) (by rfl) (by kernel_rfl) (by kernel_rfl) (by decide) hHeld rfl ?_
  simp only [List.set_cons_succ, List.set_cons_zero]
  refine takeY 4 15 (v := ?_) rfl rfl (by kernel_rfl) (by kernel_rfl) (by kernel_rfl) (fun _ _ _ h => h) (by rfl) (by kernel_rfl) (by kernel_rfl) (by decide) hHeld (fun w hSw => ?_) ?_
  rotate_left 1
  · (try dsimp only at hSw)
    clear hSw
    go_simp
    try with_reducible rfl
  simp only [List.set_cons_succ, List.set_cons_zero]
  refine takeY 5 16 (v := ?_) rfl rfl (by kernel_rfl) (by kernel_rfl) (by kernel_rfl) (fun _ _ _ h => h) (by rfl) (by kernel_rfl) (by kernel_rfl) (by decide) hHeld (fun w hSw => ?_) ?_
  rotate_left 1
  · (try dsimp only at hSw)
    clear hSw
    go_simp
    try with_reducible rfl
  simp only [List.set_cons_succ, List.set_cons_zero]
  clear hHeld
  refine onlyX 6 rfl (by kernel_rfl) (by rfl) (fun K hK => ?_)
  go_wp2
  refine hK.out _ _ (fun _ => hbD) (fun _ => ?_)
  clear hK K
  refine onlyX 7 rfl (by kernel_rfl) (by rfl) (fun K hK => ?_)
  go_wp2
  refine hK.out _ _ (fun h => absurd rfl h) (fun _ => ?_)
  clear hK K
  refine doneX (by kernel_rfl) ?_ _
  have hzD := hz.off (Off.of_below (F := fun _ => False) hbD) (fun _ _ _ h => h)
  obtain ⟨g, o, rfl, hg, -, hcs⟩ := hzD.2 (by decide)
  obtain ⟨h0, h47⟩ := known_row
  rw [HR.out] at h0 h47
  have c0 := (hcs 0 (by decide)).1
  have c1 := (hcs 0 (by decide)).2
  rw [h0] at c0 c1
  have c8 := (hcs 4 (by decide)).1
  have c9 := (hcs 4 (by decide)).2
  have c14 := (hcs 7 (by decide)).1
  have c15 := (hcs 7 (by decide)).2
  rw [h47] at c8 c9
  clear h0 h47 hcs hz hzD
  replace c0 : wd.cell? ⟨g, o, none⟩ = some (.int .u64 0) := c0
  replace c1 : wd.cell? ⟨g, o + 1, none⟩ = some (.int .u64 0) := c1
  replace c8 : wd.cell? ⟨g, o + 8, none⟩ = _ := c8
  replace c9 : wd.cell? ⟨g, o + 9, none⟩ = _ := c9
  replace c14 : wd.cell? ⟨g, o + 14, none⟩ = _ := c14
  replace c15 : wd.cell? ⟨g, o + 15, none⟩ = _ := c15
  generalize nv (R.2.getD 7 pr0).1 = q1 at *
  generalize nv (R.2.getD 7 pr0).2 = q2 at *
  have hbW := hbB.trans (hbD.mono hbB.size)
  clear hbB hbD hfz HR
  go_wp2_with fail
  refine startX (S := fun w' => Below wd.heap.size wd w') 26 (by kernel_rfl) (Below.refl _ _).drew (fun hHeld => ?_)
  refine moveY 0 17 2 rfl rfl rfl (by kernel_rfl) (by kernel_rfl) (by kernel_rfl) (fun _ _ _ h => h) (by rfl) (by kernel_rfl) (by kernel_rfl) (by decide) hHeld rfl ?_
  simp only [List.set_cons_succ, List.set_cons_zero]
  refine moveY 1 18 17 rfl rfl rfl (by kernel_rfl) (by kernel_rfl) (by kernel_rfl) (fun _ _ _ h => h) (by rfl) (by kernel_rfl) (by kernel_rfl) (by decide) hHeld rfl ?_
  simp only [List.set_cons_succ, List.set_cons_zero]
  refine moveY 2 19 1 rfl rfl rfl (by kernel_rfl) (by kernel_rfl) (by kernel_rfl) (fun _ _ _ h => h) (by rfl) (by kernel_rfl) (by kernel_rfl) (by decide) hHeld rfl ?_
  simp only [List.set_cons_succ, List.set_cons_zero]
  refine takeY 3 20 (v := ?_) rfl rfl (by kernel_rfl) (by kernel_rfl) (by kernel_rfl) (fun _ _ _ h => h) (by rfl) (by kernel_rfl) (by kernel_rfl) (by decide) hHeld (fun w hSw => ?_) ?_
  rotate_left 1
  · (try dsimp only at hSw)
    clear hSw
    go_simp
    try with_reducible rfl
  simp only [List.set_cons_succ, List.set_cons_zero]
  refine takeY 4 21 (v := ?_) rfl rfl (by kernel_rfl) (by kernel_rfl) (by kernel_rfl) (fun _ _ _ h => h) (by rfl) (by kernel_rfl) (by kernel_rfl) (by decide) hHeld (fun w hSw => ?_) ?_
  rotate_left 1
  · (try dsimp only at hSw)
    clear hSw
    go_simp
    try with_reducible rfl
  simp only [List.set_cons_succ, List.set_cons_zero]
  refine takeY 5 22 (v := ?_) rfl rfl (by kernel_rfl) (by kernel_rfl) (by kernel_rfl) (fun _ _ _ h => h) (by rfl) (by kernel_rfl) (by kernel_rfl) (by decide) hHeld (fun w hSw => ?_) ?_
  rotate_left 1
  · (try dsimp only at hSw)
    clear hSw
    go_simp
    try with_reducible rfl
  simp only [List.set_cons_succ, List.set_cons_zero]
  refine moveY 6 23 22 rfl rfl rfl (by kernel_rfl) (by kernel_rfl) (by kernel_rfl) (fun _ _ _ h => h) (by rfl) (by kernel_rfl) (by kernel_rfl) (by decide) hHeld rfl ?_
  simp only [List.set_cons_succ, List.set_cons_zero]
  refine moveY 7 24 1 rfl rfl rfl (by kernel_rfl) (by kernel_rfl) (by kernel_rfl) (fun _ _ _ h => h) (by rfl) (by kernel_rfl) (by kernel_rfl) (by decide) hHeld rfl ?_
  simp only [List.set_cons_succ, List.set_cons_zero]
  refine takeY 8 25 (v := ?_) rfl rfl (by kernel_rfl) (by kernel_rfl) (by kernel_rfl) (fun _ _ _ h => h) (by rfl) (by kernel_rfl) (by kernel_rfl) (by decide) hHeld (fun w hSw => ?_) ?_
  rotate_left 1
  · (try dsimp only at hSw)
    clear hSw
    go_simp
    try with_reducible rfl
  simp only [List.set_cons_succ, List.set_cons_zero]
  refine takeY 9 26 (v := ?_) rfl rfl (by kernel_rfl) (by kernel_rfl) (by kernel_rfl) (fun _ _ _ h => h) (by rfl) (by kernel_rfl) (by kernel_rfl) (by decide) hHeld (fun w hSw => ?_) ?_
  rotate_left 1
  · (try dsimp only at hSw)
    have e0_ : w.cell? ⟨g, o, none⟩ = _ := ((Off.of_below (F := fun _ => False) hSw).cell (p := ⟨g, o, none⟩) hg (fun h => h)).trans c0
    have e1_ : w.cell? ⟨g, o + 1, none⟩ = _ := ((Off.of_below (F := fun _ => False) hSw).cell (p := ⟨g, o + 1, none⟩) hg (fun h => h)).trans c1
    clear hSw
    go_simp
    try with_reducible rfl
  simp only [List.set_cons_succ, List.set_cons_zero]
  refine takeY 10 27 (v := ?_) rfl rfl (by kernel_rfl) (by kernel_rfl) (by kernel_rfl) (fun _ _ _ h => h) (by rfl) (by kernel_rfl) (by kernel_rfl) (by decide) hHeld (fun w hSw => ?_) ?_
  rotate_left 1
  · (try dsimp only at hSw)
    clear hSw
    go_simp
    try with_reducible rfl
  simp only [List.set_cons_succ, List.set_cons_zero]
  refine takeY 11 28 (v := ?_) rfl rfl (by kernel_rfl) (by kernel_rfl) (by kernel_rfl) (fun _ _ _ h => h) (by rfl) (by kernel_rfl) (by kernel_rfl) (by decide) hHeld (fun w hSw => ?_) ?_
  rotate_left 1
  · (try dsimp only at hSw)
    have e0_ : (Op.equalIn 10000 34 (.agg #[.int .u64 0, .int .u64 0]) (.agg #[.int .u64 0, .int .u64 0])).run Try.prog w = .ok true w := by rw [eq32]; simp
    clear hSw
    go_simp
    try with_reducible rfl
  simp only [List.set_cons_succ, List.set_cons_zero]
  refine takeY 12 29 (v := ?_) rfl rfl (by kernel_rfl) (by kernel_rfl) (by kernel_rfl) (fun _ _ _ h => h) (by rfl) (by kernel_rfl) (by kernel_rfl) (by decide) hHeld (fun w hSw => ?_) ?_
  rotate_left 1
  · (try dsimp only at hSw)
    clear hSw
    go_simp
    try with_reducible rfl
  simp only [List.set_cons_succ, List.set_cons_zero]
  refine moveY 13 30 29 rfl rfl rfl (by kernel_rfl) (by kernel_rfl) (by kernel_rfl) (fun _ _ _ h => h) (by rfl) (by kernel_rfl) (by kernel_rfl) (by decide) hHeld rfl ?_
  simp only [List.set_cons_succ, List.set_cons_zero]
  refine moveY 14 31 1 rfl rfl rfl (by kernel_rfl) (by kernel_rfl) (by kernel_rfl) (fun _ _ _ h => h) (by rfl) (by kernel_rfl) (by kernel_rfl) (by decide) hHeld rfl ?_
  simp only [List.set_cons_succ, List.set_cons_zero]
  refine takeY 15 32 (v := ?_) rfl rfl (by kernel_rfl) (by kernel_rfl) (by kernel_rfl) (fun _ _ _ h => h) (by rfl) (by kernel_rfl) (by kernel_rfl) (by decide) hHeld (fun w hSw => ?_) ?_
  rotate_left 1
  · (try dsimp only at hSw)
    clear hSw
    go_simp
    try with_reducible rfl
  simp only [List.set_cons_succ, List.set_cons_zero]
  refine takeY 16 33 (v := ?_) rfl rfl (by kernel_rfl) (by kernel_rfl) (by kernel_rfl) (fun _ _ _ h => h) (by rfl) (by kernel_rfl) (by kernel_rfl) (by decide) hHeld (fun w hSw => ?_) ?_
  rotate_left 1
  · (try dsimp only at hSw)
    have e0_ : w.cell? ⟨g, o + 8, none⟩ = _ := ((Off.of_below (F := fun _ => False) hSw).cell (p := ⟨g, o + 8, none⟩) hg (fun h => h)).trans c8
    have e1_ : w.cell? ⟨g, o + 9, none⟩ = _ := ((Off.of_below (F := fun _ => False) hSw).cell (p := ⟨g, o + 9, none⟩) hg (fun h => h)).trans c9
    clear hSw
    go_simp
    try with_reducible rfl
  simp only [List.set_cons_succ, List.set_cons_zero]
  refine moveY 17 34 1 rfl rfl rfl (by kernel_rfl) (by kernel_rfl) (by kernel_rfl) (fun _ _ _ h => h) (by rfl) (by kernel_rfl) (by kernel_rfl) (by decide) hHeld rfl ?_
  simp only [List.set_cons_succ, List.set_cons_zero]
  refine takeY 18 35 (v := ?_) rfl rfl (by kernel_rfl) (by kernel_rfl) (by kernel_rfl) (fun _ _ _ h => h) (by rfl) (by kernel_rfl) (by kernel_rfl) (by decide) hHeld (fun w hSw => ?_) ?_
  rotate_left 1
  · (try dsimp only at hSw)
    clear hSw
    go_simp
    try with_reducible rfl
  simp only [List.set_cons_succ, List.set_cons_zero]
  refine takeY 19 36 (v := ?_) rfl rfl (by kernel_rfl) (by kernel_rfl) (by kernel_rfl) (fun _ _ _ h => h) (by rfl) (by kernel_rfl) (by kernel_rfl) (by decide) hHeld (fun w hSw => ?_) ?_
  rotate_left 1
  · (try dsimp only at hSw)
    have e0_ : w.cell? ⟨g, o + 14, none⟩ = _ := ((Off.of_below (F := fun _ => False) hSw).cell (p := ⟨g, o + 14, none⟩) hg (fun h => h)).trans c14
    have e1_ : w.cell? ⟨g, o + 15, none⟩ = _ := ((Off.of_below (F := fun _ => False) hSw).cell (p := ⟨g, o + 15, none⟩) hg (fun h => h)).trans c15
    clear hSw
    go_simp
    try with_reducible rfl
  simp only [List.set_cons_succ, List.set_cons_zero]
  refine takeY 20 37 (v := ?_) rfl rfl (by kernel_rfl) (by kernel_rfl) (by kernel_rfl) (fun _ _ _ h => h) (by rfl) (by kernel_rfl) (by kernel_rfl) (by decide) hHeld (fun w hSw => ?_) ?_
  rotate_left 1
  · (try dsimp only at hSw)
    have e0_ : (Op.equalIn 10000 34 (.agg #[.int .u64 q1, .int .u64 q2]) (.agg #[.int .u64 q1, .int .u64 q2])).run Try.prog w = .ok true w := by rw [eq32]; simp
    clear hSw
    go_simp
    try with_reducible rfl
  simp only [List.set_cons_succ, List.set_cons_zero]
  refine takeY 21 38 (v := ?_) rfl rfl (by kernel_rfl) (by kernel_rfl) (by kernel_rfl) (fun _ _ _ h => h) (by rfl) (by kernel_rfl) (by kernel_rfl) (by decide) hHeld (fun w hSw => ?_) ?_
  rotate_left 1
  · (try dsimp only at hSw)
    clear hSw
    go_simp
    try with_reducible rfl
  simp only [List.set_cons_succ, List.set_cons_zero]
  refine moveY 22 39 38 rfl rfl rfl (by kernel_rfl) (by kernel_rfl) (by kernel_rfl) (fun _ _ _ h => h) (by rfl) (by kernel_rfl) (by kernel_rfl) (by decide) hHeld rfl ?_
  simp only [List.set_cons_succ, List.set_cons_zero]
  refine moveY 23 40 4 rfl rfl rfl (by kernel_rfl) (by kernel_rfl) (by kernel_rfl) (fun _ _ _ h => h) (by rfl) (by kernel_rfl) (by kernel_rfl) (by decide) hHeld rfl ?_
  simp only [List.set_cons_succ, List.set_cons_zero]
  refine takeY 24 41 (v := ?_) rfl rfl (by kernel_rfl) (by kernel_rfl) (by kernel_rfl) (fun _ _ _ h => h) (by rfl) (by kernel_rfl) (by kernel_rfl) (by decide) hHeld (fun w hSw => ?_) ?_
  rotate_left 1
  · (try dsimp only at hSw)
    clear hSw
    go_simp
    try with_reducible rfl
  simp only [List.set_cons_succ, List.set_cons_zero]
  refine takeY 25 42 (v := ?_) rfl rfl (by kernel_rfl) (by kernel_rfl) (by kernel_rfl) (fun _ _ _ h => h) (by rfl) (by kernel_rfl) (by kernel_rfl) (by decide) hHeld (fun w hSw => ?_) ?_
  rotate_left 1
  · (try dsimp only at hSw)
    clear hSw
    go_simp
    try with_reducible rfl
  simp only [List.set_cons_succ, List.set_cons_zero]
  have hbE : Below wd.heap.size wd wd.drew := hHeld
  clear hHeld
  refine onlyX 26 rfl (by kernel_rfl) (by rfl) (fun K hK => ?_)
  go_wp2
  refine hK.out _ _ (fun h => absurd rfl h) (fun _ => ?_)
  clear hK K
  refine doneX (by kernel_rfl) ?_ _
  go_wp2
  go_ret
  exact ⟨rfl, hbW.trans (hbE.mono hbW.size)⟩
end Go.Proofs.Ytkbhkgfchiacbaa


/- The document's places. -/
namespace Go.Proofs.Ytkbhkgfchiacbaa
open Go.RowKit
set_option maxRecDepth 20000

theorem rgIs (n : Int) (w : World) : Calls Try.prog 20 #[.int .i64 n] w fun e w' => e = .returned (.bool (gmIs n)) ∧ Below w.heap.size w w' := by
  have hb := Below.refl w.heap.size w
  by_cases h : gmOk n
  · have e : gmIs n = true := decide_eq_true h
    rw [e]
    rcases h with rfl | rfl | rfl
    all_goals
      go_enter Try.func20, Try.ntmps20
      go_wp2
      go_ret
      exact ⟨rfl, hb⟩
  · have e : gmIs n = false := decide_eq_false h
    rw [e]
    have h1 : (n == 4) = false := beq_false_of_ne fun e => h (Or.inl e)
    have h2 : (n == 8) = false := beq_false_of_ne fun e => h (Or.inr (Or.inl e))
    have h3 : (n == 16) = false := beq_false_of_ne fun e => h (Or.inr (Or.inr e))
    clear h
    go_enter Try.func20, Try.ntmps20
    go_wp2
    go_ret
    exact ⟨by first | rfl | simp, hb⟩
theorem gm_wraps (i : Int) (h0 : 0 ≤ i) (h1 : i < 32) : (IntKind.i64.wrap (i * 32) = 32 * i) ∧ (IntKind.i64.wrap (16 * i) = 16 * i) ∧ (IntKind.i64.wrap (i * 60) = 60 * i) ∧ ∀ k : Int, 0 ≤ k → k ≤ 100000 → IntKind.i64.wrap (k + 32 * i) = k + 32 * i ∧ IntKind.i64.wrap (k + 16 * i) = k + 16 * i ∧ IntKind.i64.wrap (k + 60 * i) = k + 60 * i := by
  refine ⟨?_, ?_, ?_, fun k k0 k1 => ⟨?_, ?_, ?_⟩⟩
  all_goals
    rw [IntKind.wrap_i64]
    omega
end Go.Proofs.Ytkbhkgfchiacbaa
