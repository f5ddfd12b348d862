/- Leaves and nodes that are not as many as may be. -/
import Derived.Test.YtkbhkgfchiacbaaM12
import Derived.Test.YtkbhkgfchiacbaaRefTrB
namespace Go.Proofs.Ytkbhkgfchiacbaa
open Go.RowKit
set_option maxRecDepth 20000
variable {Inv : (Nat → Prop) → World → Value → LSt → Prop}

set_option maxHeartbeats 4000000 in
theorem trodd (hL : LockIs Inv) (hO : TreeAll Inv) (n i : Int) (w : World) : Calls Try.prog 8 #[.int .i64 n, .int .i64 i] w fun e w' => e = .returned (.bool true) ∧ Below w.heap.size w w' := by
  go_enter Try.func8, Try.ntmps8
  by_cases h0 : n < 0
  · go_wp2
    go_ret
    exact ⟨rfl, Below.refl _ _⟩
  by_cases h40 : n > 40
  · go_wp2
    go_ret
    exact ⟨rfl, Below.refl _ _⟩
  obtain ⟨k, rfl⟩ : ∃ k : Nat, n = (k : Int) := ⟨n.toNat, by omega⟩
  have hk : k ≤ 40 := by omega
  have HK := hide' hk
  have hfit : ∀ g : Nat, Fit (some ⟨g, 0, none⟩) k k := fun g => ⟨Nat.le_refl _, Nat.le_trans hk (by decide), fun e => by cases e⟩
  obtain ⟨o1, Ho1⟩ : ∃ t : Bool, Hid (decide (gmOk (k : Int)) = t) := ⟨_, rfl⟩
  obtain ⟨t2, Ht2⟩ : ∃ t : Bool, Hid (decide (trOk k) = t) := ⟨_, rfl⟩
  obtain ⟨t3, Ht3⟩ : ∃ t : Bool, Hid (decide (trOk k ∧ 0 ≤ i ∧ i < ((k / 2 : Nat) : Int)) = t) := ⟨_, rfl⟩
  have hBd : ∀ (F : Nat → Prop) (v : Value) (g : Nat) (w : World), Inv F w v ⟨true, [], []⟩ → LIn (fun k => ¬ F k) w (some ⟨g, 0, none⟩) k (List.replicate k []) → Calls Try.prog 10 #[v, .slice (some ⟨g, 0, none⟩) k k] w fun e w' => ∃ z l cz, e = .returned (.tuple #[.slice z l cz, .bool o1]) ∧ (o1 = false → l = 0) ∧ ∀ B, (∀ j, F j → B ≤ j) → B ≤ w.heap.size → Below B w w' := fun F v g w hI hr => by
    by_cases hg : gmOk (k : Int)
    · obtain rfl : o1 = true := by
        rw [← Ho1.out]
        exact decide_eq_true hg
      refine (hO.build F v ⟨true, [], []⟩ (List.replicate k []) _ k k hg (fun y hy => by rw [(List.mem_replicate.1 hy).2]; exact Nat.zero_le _) (Nat.zero_le _) (hfit g) w hI hr).mono ?_
      rintro e w' ⟨z, cz, F', rfl, hK, -, -⟩
      exact ⟨z, 2 * k, cz, rfl, (fun h => by cases h), fun B h1 h2 => hK.off.below h1 h2⟩
    · obtain rfl : o1 = false := by
        rw [← Ho1.out]
        exact decide_eq_false hg
      refine (hO.buildNo F v ⟨true, [], []⟩ _ k k hg w hI).mono ?_
      rintro e w' ⟨z, cz, rfl, -, hb⟩
      exact ⟨z, 0, cz, rfl, fun _ => rfl, fun B h1 h2 => hb.mono h2⟩
  have hTp : ∀ (g : Nat) (w : World), PQ w g k (List.replicate k pr0) → Calls Try.prog 14 #[.slice (some ⟨g, 0, none⟩) k k] w fun e w' => ∃ p q, e = .returned (.tuple #[.agg #[.int .u64 p, .int .u64 q], .bool t2]) ∧ Below w.heap.size w w' := fun g w hp => by
    by_cases ht : trOk k
    · obtain rfl : t2 = true := by
        rw [← Ht2.out]
        exact decide_eq_true ht
      exact (hO.top _ _ k k ht (hfit g) w List.length_replicate hp.prow).mono (fun e w' h => ⟨_, _, h⟩)
    · obtain rfl : t2 = false := by
        rw [← Ht2.out]
        exact decide_eq_false ht
      exact (hO.topNo _ k k (by omega) ht w).mono (fun e w' h => ⟨_, _, h⟩)
  have hTn : ∀ (F : Nat → Prop) (v : Value) (g : Nat) (w : World), Inv F w v ⟨true, [], []⟩ → PIn (fun k => ¬ F k) w (some ⟨g, 0, none⟩) k (List.replicate k pr0) → Calls Try.prog 17 #[v, .slice (some ⟨g, 0, none⟩) k k, .int .i64 i, .slice none 0 0] w fun e w' => ∃ z l cz, e = .returned (.tuple #[.slice z l cz, .bool t3]) ∧ ∀ B, (∀ j, F j → B ≤ j) → B ≤ w.heap.size → Below B w w' := fun F v g w hI hr => by
    by_cases hg : trOk k ∧ 0 ≤ i ∧ i < ((k / 2 : Nat) : Int)
    · obtain rfl : t3 = true := by
        rw [← Ht3.out]
        exact decide_eq_true hg
      obtain ⟨ht, h1, h2⟩ := hg
      obtain ⟨j, rfl⟩ : ∃ j : Nat, i = (j : Int) := ⟨i.toNat, by omega⟩
      refine (hO.turn F v ⟨true, [], []⟩ _ _ none k k 0 0 j [] ht (by omega) (Nat.zero_le _) (Nat.zero_le _) (fun x hx => by cases hx) (hfit g) fit_none w hI hr (SIn.none _ _ _)).mono ?_
      rintro e w' ⟨z, cz, F', rfl, hK, -, -⟩
      exact ⟨z, k, cz, rfl, fun B h1 h2 => hK.off.below h1 h2⟩
    · obtain rfl : t3 = false := by
        rw [← Ht3.out]
        exact decide_eq_false hg
      refine (hO.turnNo F v ⟨true, [], []⟩ _ none k k 0 0 i (by omega) hg w hI).mono ?_
      rintro e w' ⟨z, cz, rfl, -, hb⟩
      exact ⟨z, 0, cz, rfl, fun B h1 h2 => hb.mono h2⟩
  have hmkr := make_rows k (by omega)
  obtain ⟨M, hmkp, hmq⟩ := make_pairs k (by omega)
  have hIk := rgIs (k : Int)
  have hIh := rgIs ((k / 2 : Nat) : Int)
  clear hk
  go_wp2_with fail
  obtain ⟨Ba, HBa⟩ : ∃ B, Hid (w.heap.size = B) := ⟨_, rfl⟩
  refine startX (S := fun w' => Below w.heap.size w w') 8 (by kernel_rfl) (Below.refl _ _).drew (fun hHeld => ?_)
  refine moveY 1 20 0 rfl rfl rfl (by kernel_rfl) (by kernel_rfl) (by kernel_rfl) (fun _ _ _ h => h) (by rfl) (by kernel_rfl) (by kernel_rfl) (by decide) hHeld rfl ?_
  simp only [List.set_cons_succ, List.set_cons_zero]
  clear hHeld
  have hdra : Below w.heap.size w w.drew := (Below.refl _ _).drew
  generalize w.drew = wqa at hdra ⊢
  refine shareW (P := ?Pka) (Cond := fun w2 (a : Addr) (g : Nat) (Fl : Nat → Prop) => Inv Fl w2 (.pointer (some a)) ⟨true, [], []⟩ ∧ (∀ k, Fl k → Ba ≤ k) ∧ LIn (fun k => ¬ Fl k) w2 (some ⟨g, 0, none⟩) k (List.replicate k []) ∧ Below Ba w w2) (fun fin => ?onea) ?twoa
  rotate_left
  case onea =>
    refine twoX 0 2 rfl rfl rfl rfl (by kernel_rfl) ?_ ?_
    · go_wp2_with fail
      refine (hL.ideal _).mono ?_
      rintro e w1 ⟨v, Fl, rfl, hI, hFl, hb⟩
      replace hFl : ∀ k, Fl k → w.heap.size ≤ k := fun k hk => Nat.le_trans hdra.size (hFl k hk)
      replace hb : Below w.heap.size w w1 := hdra.trans (hb.mono hdra.size)
      obtain ⟨a, rfl⟩ := hL.ptr hI
      refine ⟨hb, ?_⟩
      have hm : Below w1.heap.size w1 (w1.alloc (.cells (madeCells #[.slice none 0 0] k) 40)) := (Below.refl _ _).alloc (Nat.le_refl _) _
      have hrow := lin_made k Fl w1 (hL.lt hI)
      have hI2 := hL.below hI hm
      have hb2 := hb.trans (hm.mono hb.size)
      have hmk := hmkr
      refine onlyX 2 rfl (by kernel_rfl) (by rfl) (fun K hK => ?_)
      go_wp2_with fail
      clear hmk
      refine hK.out _ _ (fun _ => hb2) (fun _ => ?_)
      clear hK K
      replace hFl : ∀ k, Fl k → Ba ≤ k := fun k hk => HBa.out ▸ hFl k hk
      replace hb2 : Below Ba w (w1.alloc (.cells (madeCells #[.slice none 0 0] k) 40)) := HBa.out ▸ hb2
      generalize (w1.alloc (.cells (madeCells #[.slice none 0 0] k) 40)) = w2 at *
      generalize w1.heap.size = g at hrow ⊢
      exact fin w2 a g Fl ⟨hI2, hFl, hrow, hb2⟩
    · have hmk := hmkr
      go_wp2_with fail
      clear hmk
      have hm : Below w.heap.size w (wqa.alloc (.cells (madeCells #[.slice none 0 0] k) 40)) := hdra.alloc hdra.size _
      have hrow := lin_made k (fun _ => False) wqa (fun _ h => h.elim)
      refine ⟨hm, ?_⟩
      generalize (wqa.alloc (.cells (madeCells #[.slice none 0 0] k) 40)) = w1 at *
      generalize wqa.heap.size = g at hrow ⊢
      refine onlyX 0 rfl (by kernel_rfl) (by rfl) (fun K hK => ?_)
      go_wp2_with fail
      refine (hL.ideal _).mono ?_
      rintro e w2 ⟨v, Fl, rfl, hI, hFl, hb⟩
      obtain ⟨a, rfl⟩ := hL.ptr hI
      have hb2 := hm.trans (hb.mono hm.size)
      refine hK.out _ _ (fun _ => hb2) (fun _ => ?_)
      clear hK K
      have hrow2 : LIn (fun k => ¬ Fl k) w2 (some ⟨g, 0, none⟩) k (List.replicate k []) := (LIn.bel hrow).off2 hb hFl
      replace hFl : ∀ k, Fl k → Ba ≤ k := fun k hk => HBa.out ▸ Nat.le_trans hm.size (hFl k hk)
      replace hb2 : Below Ba w w2 := HBa.out ▸ hb2
      exact fin w2 a g Fl ⟨hI, hFl, hrow2, hb2⟩
  rintro wa va ga Fa ⟨hIa, hFa, hrowa, hba⟩
  obtain rfl := HBa.out
  have hbd := hBd Fa _ ga wa hIa hrowa
  refine onlyX 3 rfl (by kernel_rfl) (by rfl) (fun K hK => ?_)
  go_wp2_with fail
  refine hbd.mono ?_
  clear hbd hrowa hBd
  rintro e w3 ⟨z, l, cz, rfl, hl, hb3⟩
  have hbB : Below w.heap.size w w3 := hba.trans (hb3 _ hFa hba.size)
  refine hK.out _ _ (fun _ => hbB) (fun hHeld => ?_)
  clear hK K hb3 hba hIa
  replace hHeld := hHeld (by decide)
  refine moveY 4 18 22 rfl rfl rfl (by kernel_rfl) (by kernel_rfl) (by kernel_rfl) (fun _ _ _ h => h) (by rfl) (by kernel_rfl) (by kernel_rfl) (by decide) hHeld rfl ?_
  simp only [List.set_cons_succ, List.set_cons_zero]
  refine takeY 5 23 (v := ?_) rfl rfl (by kernel_rfl) (by kernel_rfl) (by kernel_rfl) (fun _ _ _ h => h) (by rfl) (by kernel_rfl) (by kernel_rfl) (by decide) hHeld (fun w hSw => ?_) ?_
  rotate_left 1
  · (try dsimp only at hSw)
    clear hSw
    go_simp
    try with_reducible rfl
  simp only [List.set_cons_succ, List.set_cons_zero]
  refine takeY 6 24 (v := ?_) rfl rfl (by kernel_rfl) (by kernel_rfl) (by kernel_rfl) (fun _ _ _ h => h) (by rfl) (by kernel_rfl) (by kernel_rfl) (by decide) hHeld (fun w hSw => ?_) ?_
  rotate_left 1
  · (try dsimp only at hSw)
    clear hSw
    go_simp
    try with_reducible rfl
  simp only [List.set_cons_succ, List.set_cons_zero]
  clear hHeld
  refine onlyX 7 rfl (by kernel_rfl) (by rfl) (fun K hK => ?_)
  go_wp2
  refine hK.out _ _ (fun _ => hbB) (fun _ => ?_)
  clear hK K
  refine onlyX 8 rfl (by kernel_rfl) (by rfl) (fun K hK => ?_)
  go_wp2
  refine hK.out _ _ (fun h => absurd rfl h) (fun _ => ?_)
  clear hK K
  refine doneX (by kernel_rfl) ?_ _
  have T3 := hbB
  clear hbB
  go_wp2_with fail
  have hp4 := hmq w3
  have T4 : Below w.heap.size w (w3.alloc (.cells M 34)) := T3.alloc T3.size _
  generalize (w3.alloc (.cells M 34)) = w4 at *
  generalize w3.heap.size = g4 at *
  refine (hTp g4 w4 hp4).mono ?_
  clear hTp hp4
  rintro e w5 ⟨p, q, rfl, hb5⟩
  have T5 := T4.trans (hb5.mono T4.size)
  have T6 := T5.alloc T5.size (.cells #[.int .u64 p, .int .u64 q] 34)
  go_wp2_with fail
  generalize w5.alloc (.cells #[.int .u64 p, .int .u64 q] 34) = w6 at *
  generalize w5.heap.size = g5 at *
  obtain ⟨Bc, HBc⟩ : ∃ B, Hid (w6.heap.size = B) := ⟨_, rfl⟩
  refine startX (S := fun w' => Below w6.heap.size w6 w') 9 (by kernel_rfl) (Below.refl _ _).drew (fun hHeld => ?_)
  refine moveY 1 33 0 rfl rfl rfl (by kernel_rfl) (by kernel_rfl) (by kernel_rfl) (fun _ _ _ h => h) (by rfl) (by kernel_rfl) (by kernel_rfl) (by decide) hHeld rfl ?_
  simp only [List.set_cons_succ, List.set_cons_zero]
  refine moveY 3 35 1 rfl rfl rfl (by kernel_rfl) (by kernel_rfl) (by kernel_rfl) (fun _ _ _ h => h) (by rfl) (by kernel_rfl) (by kernel_rfl) (by decide) hHeld rfl ?_
  simp only [List.set_cons_succ, List.set_cons_zero]
  clear hHeld
  have hdrc : Below w6.heap.size w6 w6.drew := (Below.refl _ _).drew
  generalize w6.drew = wqc at hdrc ⊢
  refine shareW (P := ?Pkc) (Cond := fun w2 (a : Addr) (g : Nat) (Fl : Nat → Prop) => Inv Fl w2 (.pointer (some a)) ⟨true, [], []⟩ ∧ (∀ k, Fl k → Bc ≤ k) ∧ PIn (fun k => ¬ Fl k) w2 (some ⟨g, 0, none⟩) k (List.replicate k pr0) ∧ Below Bc w6 w2) (fun fin => ?onec) ?twoc
  rotate_left
  case onec =>
    refine twoX 0 2 rfl rfl rfl rfl (by kernel_rfl) ?_ ?_
    · go_wp2_with fail
      refine (hL.ideal _).mono ?_
      rintro e w1 ⟨v, Fl, rfl, hI, hFl, hb⟩
      replace hFl : ∀ k, Fl k → w6.heap.size ≤ k := fun k hk => Nat.le_trans hdrc.size (hFl k hk)
      replace hb : Below w6.heap.size w6 w1 := hdrc.trans (hb.mono hdrc.size)
      obtain ⟨a, rfl⟩ := hL.ptr hI
      refine ⟨hb, ?_⟩
      have hm : Below w1.heap.size w1 (w1.alloc (.cells M 34)) := (Below.refl _ _).alloc (Nat.le_refl _) _
      have hrow := (hmq w1).pin (G := fun k => ¬ Fl k) (fun h => by have := hL.lt hI _ h; omega)
      have hI2 := hL.below hI hm
      have hb2 := hb.trans (hm.mono hb.size)
      have hmk := hmkp
      refine onlyX 2 rfl (by kernel_rfl) (by rfl) (fun K hK => ?_)
      go_wp2_with fail
      clear hmk
      refine hK.out _ _ (fun _ => hb2) (fun _ => ?_)
      clear hK K
      replace hFl : ∀ k, Fl k → Bc ≤ k := fun k hk => HBc.out ▸ hFl k hk
      replace hb2 : Below Bc w6 (w1.alloc (.cells M 34)) := HBc.out ▸ hb2
      generalize (w1.alloc (.cells M 34)) = w2 at *
      generalize w1.heap.size = g at hrow ⊢
      exact fin w2 a g Fl ⟨hI2, hFl, hrow, hb2⟩
    · have hmk := hmkp
      go_wp2_with fail
      clear hmk
      have hm : Below w6.heap.size w6 (wqc.alloc (.cells M 34)) := hdrc.alloc hdrc.size _
      have hrow := hmq wqc
      refine ⟨hm, ?_⟩
      generalize (wqc.alloc (.cells M 34)) = w1 at *
      generalize wqc.heap.size = g at hrow ⊢
      refine onlyX 0 rfl (by kernel_rfl) (by rfl) (fun K hK => ?_)
      go_wp2_with fail
      refine (hL.ideal _).mono ?_
      rintro e w2 ⟨v, Fl, rfl, hI, hFl, hb⟩
      obtain ⟨a, rfl⟩ := hL.ptr hI
      have hb2 := hm.trans (hb.mono hm.size)
      refine hK.out _ _ (fun _ => hb2) (fun _ => ?_)
      clear hK K
      have hrow2 : PIn (fun k => ¬ Fl k) w2 (some ⟨g, 0, none⟩) k (List.replicate k pr0) := (hrow.below hb).pin (G := fun k => ¬ Fl k) (fun h => by have := hFl _ h; have := hrow.lt; omega)
      replace hFl : ∀ k, Fl k → Bc ≤ k := fun k hk => HBc.out ▸ Nat.le_trans hm.size (hFl k hk)
      replace hb2 : Below Bc w6 w2 := HBc.out ▸ hb2
      exact fin w2 a g Fl ⟨hI, hFl, hrow2, hb2⟩
  rintro wc vc gc Fc ⟨hIc, hFc, hrowc, hbc⟩
  obtain rfl := HBc.out
  have hbd := hTn Fc _ gc wc hIc hrowc
  refine onlyX 4 rfl (by kernel_rfl) (by rfl) (fun K hK => ?_)
  go_wp2_with fail
  refine hbd.mono ?_
  clear hbd hrowc hTn
  rintro e w7 ⟨z7, l7, cz7, rfl, hb7⟩
  have hbD : Below w6.heap.size w6 w7 := hbc.trans (hb7 _ hFc hbc.size)
  refine hK.out _ _ (fun _ => hbD) (fun hHeld => ?_)
  clear hK K hb7 hbc hIc
  replace hHeld := hHeld (by decide)
  refine moveY 5 31 36 rfl rfl rfl (by kernel_rfl) (by kernel_rfl) (by kernel_rfl) (fun _ _ _ h => h) (by rfl) (by kernel_rfl) (by kernel_rfl) (by decide) hHeld rfl ?_
  simp only [List.set_cons_succ, List.set_cons_zero]
  refine takeY 6 37 (v := ?_) rfl rfl (by kernel_rfl) (by kernel_rfl) (by kernel_rfl) (fun _ _ _ h => h) (by rfl) (by kernel_rfl) (by kernel_rfl) (by decide) hHeld (fun w hSw => ?_) ?_
  rotate_left 1
  · (try dsimp only at hSw)
    clear hSw
    go_simp
    try with_reducible rfl
  simp only [List.set_cons_succ, List.set_cons_zero]
  refine takeY 7 38 (v := ?_) rfl rfl (by kernel_rfl) (by kernel_rfl) (by kernel_rfl) (fun _ _ _ h => h) (by rfl) (by kernel_rfl) (by kernel_rfl) (by decide) hHeld (fun w hSw => ?_) ?_
  rotate_left 1
  · (try dsimp only at hSw)
    clear hSw
    go_simp
    try with_reducible rfl
  simp only [List.set_cons_succ, List.set_cons_zero]
  clear hHeld
  refine onlyX 8 rfl (by kernel_rfl) (by rfl) (fun K hK => ?_)
  go_wp2
  refine hK.out _ _ (fun _ => hbD) (fun _ => ?_)
  clear hK K
  refine onlyX 9 rfl (by kernel_rfl) (by rfl) (fun K hK => ?_)
  go_wp2
  refine hK.out _ _ (fun h => absurd rfl h) (fun _ => ?_)
  clear hK K
  refine doneX (by kernel_rfl) ?_ _
  have T7 := T6.trans (hbD.mono T6.size)
  clear hbD hmkr hmkp hmq
  have h2 : (k : Int).tmod 2 = ((k % 2 : Nat) : Int) := (Int.ofNat_tmod k 2).symm
  have h3 : (k : Int).tdiv 2 = ((k / 2 : Nat) : Int) := (Int.ofNat_tdiv k 2).symm
  have hT2 : t2 = (decide (k % 2 = 0) && gmIs ((k / 2 : Nat) : Int)) := by
    rw [← Ht2.out]
    exact Bool.decide_and _ _
  have hT3 : t3 = (t2 && (decide (i ≥ 0) && decide (i < ((k / 2 : Nat) : Int)))) := by
    rw [← Ht3.out, ← Ht2.out, ← Bool.decide_and, ← Bool.decide_and]
  replace hIk : ∀ w : World, Calls Try.prog 20 #[.int .i64 (k : Int)] w fun e w' => e = .returned (.bool o1) ∧ Below w.heap.size w w' := fun w => by
    rw [← Ho1.out]
    exact hIk w
  obtain ⟨q, HQ⟩ : ∃ q : Nat, Hid (k / 2 = q) := ⟨_, rfl⟩
  rw [HQ.out] at h3 hT2 hT3 hIh
  have hw : IntKind.i64.wrap (q : Int) = q := by
    have := HQ.out
    have := HK.out
    rw [IntKind.wrap_i64]
    omega
  by_cases h0 : k % 2 = 0
  · rw [h0] at h2
    rw [decide_eq_true h0] at hT2
    have e : t2 = gmIs (q : Int) := hT2
    rw [← e] at hIh
    clear h0 e hT2
    cases t2
    · obtain rfl : t3 = false := hT3
      cases o1
      · obtain rfl := hl rfl
        go_wp2_with fail
        refine (hIh _).mono ?_
        rintro e w8 ⟨rfl, hb8⟩
        have T8 := T7.trans (hb8.mono T7.size)
        go_wp2_with fail
        refine (hIk _).mono ?_
        rintro e w9 ⟨rfl, hb9⟩
        have T9 := T8.trans (hb9.mono T8.size)
        go_wp2_with fail
        refine (trknown hL hO _).mono ?_
        rintro e w10 ⟨rfl, hb10⟩
        go_wp2
        go_ret
        exact ⟨rfl, T9.trans (hb10.mono T9.size)⟩
      · clear hl
        go_wp2_with fail
        refine (hIh _).mono ?_
        rintro e w8 ⟨rfl, hb8⟩
        have T8 := T7.trans (hb8.mono T7.size)
        go_wp2_with fail
        refine (hIk _).mono ?_
        rintro e w9 ⟨rfl, hb9⟩
        have T9 := T8.trans (hb9.mono T8.size)
        go_wp2_with fail
        refine (trknown hL hO _).mono ?_
        rintro e w10 ⟨rfl, hb10⟩
        go_wp2
        go_ret
        exact ⟨rfl, T9.trans (hb10.mono T9.size)⟩
    · by_cases hi : i ≥ 0
      · by_cases hq : i < (q : Int)
        · rw [decide_eq_true hi, decide_eq_true hq] at hT3
          obtain rfl : t3 = true := hT3
          cases o1
          · obtain rfl := hl rfl
            go_wp2_with fail
            refine (hIh _).mono ?_
            rintro e w8 ⟨rfl, hb8⟩
            have T8 := T7.trans (hb8.mono T7.size)
            go_wp2_with fail
            refine (hIk _).mono ?_
            rintro e w9 ⟨rfl, hb9⟩
            have T9 := T8.trans (hb9.mono T8.size)
            go_wp2_with fail
            refine (trknown hL hO _).mono ?_
            rintro e w10 ⟨rfl, hb10⟩
            go_wp2
            go_ret
            exact ⟨rfl, T9.trans (hb10.mono T9.size)⟩
          · clear hl
            go_wp2_with fail
            refine (hIh _).mono ?_
            rintro e w8 ⟨rfl, hb8⟩
            have T8 := T7.trans (hb8.mono T7.size)
            go_wp2_with fail
            refine (hIk _).mono ?_
            rintro e w9 ⟨rfl, hb9⟩
            have T9 := T8.trans (hb9.mono T8.size)
            go_wp2_with fail
            refine (trknown hL hO _).mono ?_
            rintro e w10 ⟨rfl, hb10⟩
            go_wp2
            go_ret
            exact ⟨rfl, T9.trans (hb10.mono T9.size)⟩
        · rw [decide_eq_true hi, decide_eq_false hq] at hT3
          obtain rfl : t3 = false := hT3
          have hq0 : decide (i < (q : Int)) = false := decide_eq_false hq
          clear hq
          cases o1
          · obtain rfl := hl rfl
            go_wp2_with fail
            refine (hIh _).mono ?_
            rintro e w8 ⟨rfl, hb8⟩
            have T8 := T7.trans (hb8.mono T7.size)
            go_wp2_with fail
            refine (hIk _).mono ?_
            rintro e w9 ⟨rfl, hb9⟩
            have T9 := T8.trans (hb9.mono T8.size)
            go_wp2_with fail
            refine (trknown hL hO _).mono ?_
            rintro e w10 ⟨rfl, hb10⟩
            go_wp2
            go_ret
            exact ⟨rfl, T9.trans (hb10.mono T9.size)⟩
          · clear hl
            go_wp2_with fail
            refine (hIh _).mono ?_
            rintro e w8 ⟨rfl, hb8⟩
            have T8 := T7.trans (hb8.mono T7.size)
            go_wp2_with fail
            refine (hIk _).mono ?_
            rintro e w9 ⟨rfl, hb9⟩
            have T9 := T8.trans (hb9.mono T8.size)
            go_wp2_with fail
            refine (trknown hL hO _).mono ?_
            rintro e w10 ⟨rfl, hb10⟩
            go_wp2
            go_ret
            exact ⟨rfl, T9.trans (hb10.mono T9.size)⟩
      · rw [decide_eq_false hi] at hT3
        obtain rfl : t3 = false := hT3
        have hi0 : decide (0 ≤ i) = false := decide_eq_false hi
        clear hi
        cases o1
        · obtain rfl := hl rfl
          go_wp2_with fail
          refine (hIh _).mono ?_
          rintro e w8 ⟨rfl, hb8⟩
          have T8 := T7.trans (hb8.mono T7.size)
          go_wp2_with fail
          refine (hIk _).mono ?_
          rintro e w9 ⟨rfl, hb9⟩
          have T9 := T8.trans (hb9.mono T8.size)
          go_wp2_with fail
          refine (trknown hL hO _).mono ?_
          rintro e w10 ⟨rfl, hb10⟩
          go_wp2
          go_ret
          exact ⟨rfl, T9.trans (hb10.mono T9.size)⟩
        · clear hl
          go_wp2_with fail
          refine (hIh _).mono ?_
          rintro e w8 ⟨rfl, hb8⟩
          have T8 := T7.trans (hb8.mono T7.size)
          go_wp2_with fail
          refine (hIk _).mono ?_
          rintro e w9 ⟨rfl, hb9⟩
          have T9 := T8.trans (hb9.mono T8.size)
          go_wp2_with fail
          refine (trknown hL hO _).mono ?_
          rintro e w10 ⟨rfl, hb10⟩
          go_wp2
          go_ret
          exact ⟨rfl, T9.trans (hb10.mono T9.size)⟩
  · rw [decide_eq_false h0] at hT2
    obtain rfl : t2 = false := hT2
    rw [show k % 2 = 1 by omega] at h2
    clear h0 hIh
    obtain rfl : t3 = false := hT3
    cases o1
    · obtain rfl := hl rfl
      go_wp2_with fail
      refine (hIk _).mono ?_
      rintro e w9 ⟨rfl, hb9⟩
      have T9 := T7.trans (hb9.mono T7.size)
      go_wp2_with fail
      refine (trknown hL hO _).mono ?_
      rintro e w10 ⟨rfl, hb10⟩
      go_wp2
      go_ret
      exact ⟨rfl, T9.trans (hb10.mono T9.size)⟩
    · clear hl
      go_wp2_with fail
      refine (hIk _).mono ?_
      rintro e w9 ⟨rfl, hb9⟩
      have T9 := T7.trans (hb9.mono T7.size)
      go_wp2_with fail
      refine (trknown hL hO _).mono ?_
      rintro e w10 ⟨rfl, hb10⟩
      go_wp2
      go_ret
      exact ⟨rfl, T9.trans (hb10.mono T9.size)⟩
end Go.Proofs.Ytkbhkgfchiacbaa
