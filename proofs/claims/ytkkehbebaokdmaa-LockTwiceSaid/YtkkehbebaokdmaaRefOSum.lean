/- What lockboxref7's Sum comes to. -/
import Derived.Test.YtkkehbebaokdmaaM12
import Derived.Test.YtkkehbebaokdmaaM03
import Derived.Test.YtkkehbebaokdmaaM10
namespace Go.Proofs.Ytkkehbebaokdmaa
open Go.RowKit
set_option maxRecDepth 20000

theorem Try.strInfo : (Try.prog.info? 9).map (fun i => (i.zero, i.size, i.bytes)) = some (some (.string (strOfNums [])), 1, 16) := by kernel_rfl
set_option maxRecDepth 10000 in
set_option maxHeartbeats 2000000 in
theorem rosum8 (F : Nat → Prop) (b : Nat) (L : List Iss) (S : List (List Int)) (xs : List Int) (x : Option Addr) (n c : Nat) (hSl : S.length ≤ 50000) (bx : Bytes xs) (w : World) (hI : RInv F w b (L, S)) (sx : SIn (fun k => ¬ F k) w x n xs) : Calls Try.prog 28 #[.pointer (some ⟨b, 0, none⟩), .slice x n c] w fun e w' => e = .returned (.agg #[.int .u64 17216961135462248174, .int .u64 (sumIx S xs : Nat)]) ∧ ∃ F', RInv F' w' b (L, sumSt S xs) ∧ (∀ k, F' k → F k ∨ w.heap.size ≤ k) ∧ Off F w w' ∧ U8 w w' := by
  have bR := Box.new w 0 0
  have hB : Below w.heap.size w (w.alloc (.cells #[.int .u64 0, .int .u64 0] 30)) := by go_grown
  have hI0 := hI.below hB
  have hlt0 := hI.lt
  have sx0 := sx.off (Off.of_below (F := fun _ => False) hB) (fun _ _ _ h => h)
  go_enter Try.func28, Try.ntmps28
  go_wp2_with fail
  generalize w.alloc (.cells #[.int .u64 0, .int .u64 0] 30) = W1 at *
  go_loopw [5] (fun i wr => ∃ k : Nat, k ≤ S.length ∧ i = .int .i64 (k : Int) ∧ (∀ j, j < k → S.getD j [] ≠ xs) ∧ RInv F wr b (L, S) ∧ SIn (fun k => ¬ F k) wr x n xs ∧ Box wr w.heap.size 0 0 ∧ Below w.heap.size w wr) (fun i _ => S.length - (intOf i).toNat)
  case atStart => exact ⟨0, Nat.zero_le _, rfl, (fun j hj => absurd hj (by omega)), hI0, sx0, bR, hB⟩
  case round =>
    clear hI0 sx0 bR hB hI sx
    obtain ⟨k, hk, rfl, hf, hI, sx, bR, hB⟩ := hrel
    have hI' := hI
    obtain ⟨FL, FS, vL, vS, hA, hF0, -⟩ := hI
    have HF := hide' hF0
    clear hF0
    have own := hA.sum.1
    have hSb := hA.sum.2.2
    obtain ⟨y, cy, rfl, hcy, -, -⟩ := own_is own
    have k1 := hA.box.c1
    by_cases hlt : k < S.length
    · obtain ⟨q, HQ⟩ : ∃ q, Hid (S.getD k [] = q) := ⟨_, rfl⟩
      have hq : (S.map fun p => Value.string (strOfNums p))[k]? = some (.string (strOfNums q)) := by
        rw [← HQ.out]
        simp [hlt]
      have hbq : Bytes q := by
        rw [← HQ.out]
        simp only [List.getD, List.getElem?_eq_getElem hlt, Option.getD_some]
        exact hSb _ (List.getElem_mem hlt)
      obtain ⟨g, cap, hv, hcap, hgl, hck⟩ := own_cell own hq
      obtain ⟨rfl, -, rfl⟩ : y = some ⟨g, 0, none⟩ ∧ True ∧ cy = cap := by
        simp only [Value.slice.injEq] at hv
        exact ⟨hv.1, trivial, hv.2.2⟩
      have hse := str_eq q xs hbq bx
      by_cases he : q = xs
      · have hse2 : ((strOfNums q).toList == (strOfNums xs).toList) = true := by rw [hse]; exact decide_eq_true he
        have hix := sumIx_at hlt (HQ.out.trans he) hf
        clear hse hq
        go_wp2_with fail
        refine wp_region_held_drew (S := fun w' => Below wr.heap.size wr w') (by kernel_rfl) (Below.refl _ _).drew (fun hHeld => ?_)
        refine takeM 0 15 0 rfl rfl rfl (by kernel_rfl) (by kernel_rfl) (by kernel_rfl) (fun _ _ _ h => h) (by rfl) hHeld rfl ?_
        simp only [List.set_cons_succ, List.set_cons_zero]
        refine takeL 1 16 (v := ?_) rfl rfl (by kernel_rfl) (by kernel_rfl) (by kernel_rfl) (fun _ _ _ h => h) (by rfl) hHeld (fun w hSw => ?_) ?_
        rotate_left 1
        · (try dsimp only at hSw)
          clear hSw
          go_simp
          try with_reducible rfl
        simp only [List.set_cons_succ, List.set_cons_zero]
        refine takeL 2 17 (v := ?_) rfl rfl (by kernel_rfl) (by kernel_rfl) (by kernel_rfl) (fun _ _ _ h => h) (by rfl) hHeld (fun w hSw => ?_) ?_
        rotate_left 1
        · (try dsimp only at hSw)
          clear hSw
          go_simp
          try with_reducible rfl
        simp only [List.set_cons_succ, List.set_cons_zero]
        refine takeL 3 18 (v := ?_) rfl rfl (by kernel_rfl) (by kernel_rfl) (by kernel_rfl) (fun _ _ _ h => h) (by rfl) hHeld (fun w hSw => ?_) ?_
        rotate_left 1
        · (try dsimp only at hSw)
          have e0_ := (hA.box.grown hSw).c1
          clear hSw
          go_simp
          try with_reducible rfl
        simp only [List.set_cons_succ, List.set_cons_zero]
        refine takeM 4 19 5 rfl rfl rfl (by kernel_rfl) (by kernel_rfl) (by kernel_rfl) (fun _ _ _ h => h) (by rfl) hHeld rfl ?_
        simp only [List.set_cons_succ, List.set_cons_zero]
        refine takeL 5 20 (v := ?_) rfl rfl (by kernel_rfl) (by kernel_rfl) (by kernel_rfl) (fun _ _ _ h => h) (by rfl) hHeld (fun w hSw => ?_) ?_
        rotate_left 1
        · (try dsimp only at hSw)
          clear hSw
          go_simp
          try with_reducible rfl
        simp only [List.set_cons_succ, List.set_cons_zero]
        refine takeL 6 21 (v := ?_) rfl rfl (by kernel_rfl) (by kernel_rfl) (by kernel_rfl) (fun _ _ _ h => h) (by rfl) hHeld (fun w hSw => ?_) ?_
        rotate_left 1
        · (try dsimp only at hSw)
          have e0_ := (hSw.cell (p := ⟨g, k, none⟩) hgl).trans hck
          clear hSw
          go_simp
          try with_reducible rfl
        simp only [List.set_cons_succ, List.set_cons_zero]
        refine takeM 7 22 1 rfl rfl rfl (by kernel_rfl) (by kernel_rfl) (by kernel_rfl) (fun _ _ _ h => h) (by rfl) hHeld rfl ?_
        simp only [List.set_cons_succ, List.set_cons_zero]
        refine takeL 8 23 (v := ?_) rfl rfl (by kernel_rfl) (by kernel_rfl) (by kernel_rfl) (fun _ _ _ h => h) (by rfl) hHeld (fun w hSw => ?_) ?_
        rotate_left 1
        · (try dsimp only at hSw)
          have e0_ := (sx.sat.below hSw).conv (c := c)
          clear hSw
          go_simp
          try with_reducible rfl
        simp only [List.set_cons_succ, List.set_cons_zero]
        refine takeL 9 24 (v := ?_) rfl rfl (by kernel_rfl) (by kernel_rfl) (by kernel_rfl) (fun _ _ _ h => h) (by rfl) hHeld (fun w hSw => ?_) ?_
        rotate_left 1
        · (try dsimp only at hSw)
          clear hSw
          go_simp
          try with_reducible rfl
        simp only [List.set_cons_succ, List.set_cons_zero]
        refine wpAnyH_done (by kernel_rfl) ?_ _
        have g0 := bR.c0
        have g1 := bR.c1
        have g2 := bR.frozen 0
        have g3 := bR.frozen 1
        go_wp2
        have hbR := bR.put2 17216961135462248174 ((k : Int) + 1)
        have r0 := hbR.c0
        have r1 := hbR.c1
        rw [hix.1, hix.2]
        refine bodyPost_ret (v := .agg #[.int .u64 17216961135462248174, .int .u64 ((k + 1 : Nat) : Int)]) (by simp [results, Try.results28, go_sem, r0, r1]) rfl ⟨rfl, F, ?_, (fun k hk => Or.inl hk), ?_, U8.of_off (F := fun _ => False) (((Off.of_below hB.drew).setCell (p := ⟨w.heap.size, 0, none⟩) (Or.inr (Nat.le_refl _)) _).setCell (p := ⟨w.heap.size, 1, none⟩) (Or.inr (Nat.le_refl _)) _) (fun _ _ _ _ h => h)⟩
        · exact (hI'.below (Below.refl _ _).drew).off (G := fun k => w.heap.size ≤ k) (((Off.refl _ _).setCell (p := ⟨w.heap.size, 0, none⟩) (Or.inl (Nat.le_refl _)) _).setCell (p := ⟨w.heap.size, 1, none⟩) (Or.inl (Nat.le_refl _)) _) (fun k _ hk => Nat.not_le.2 (hlt0 k hk))
        · exact ((Off.of_below hB.drew).setCell (p := ⟨w.heap.size, 0, none⟩) (Or.inr (Nat.le_refl _)) _).setCell (p := ⟨w.heap.size, 1, none⟩) (Or.inr (Nat.le_refl _)) _
      · have hse2 : ((strOfNums q).toList == (strOfNums xs).toList) = false := by rw [hse]; exact decide_eq_false he
        clear hse hq
        go_wp2_with fail
        refine wp_region_held_drew (S := fun w' => Below wr.heap.size wr w') (by kernel_rfl) (Below.refl _ _).drew (fun hHeld => ?_)
        refine takeM 0 15 0 rfl rfl rfl (by kernel_rfl) (by kernel_rfl) (by kernel_rfl) (fun _ _ _ h => h) (by rfl) hHeld rfl ?_
        simp only [List.set_cons_succ, List.set_cons_zero]
        refine takeL 1 16 (v := ?_) rfl rfl (by kernel_rfl) (by kernel_rfl) (by kernel_rfl) (fun _ _ _ h => h) (by rfl) hHeld (fun w hSw => ?_) ?_
        rotate_left 1
        · (try dsimp only at hSw)
          clear hSw
          go_simp
          try with_reducible rfl
        simp only [List.set_cons_succ, List.set_cons_zero]
        refine takeL 2 17 (v := ?_) rfl rfl (by kernel_rfl) (by kernel_rfl) (by kernel_rfl) (fun _ _ _ h => h) (by rfl) hHeld (fun w hSw => ?_) ?_
        rotate_left 1
        · (try dsimp only at hSw)
          clear hSw
          go_simp
          try with_reducible rfl
        simp only [List.set_cons_succ, List.set_cons_zero]
        refine takeL 3 18 (v := ?_) rfl rfl (by kernel_rfl) (by kernel_rfl) (by kernel_rfl) (fun _ _ _ h => h) (by rfl) hHeld (fun w hSw => ?_) ?_
        rotate_left 1
        · (try dsimp only at hSw)
          have e0_ := (hA.box.grown hSw).c1
          clear hSw
          go_simp
          try with_reducible rfl
        simp only [List.set_cons_succ, List.set_cons_zero]
        refine takeM 4 19 5 rfl rfl rfl (by kernel_rfl) (by kernel_rfl) (by kernel_rfl) (fun _ _ _ h => h) (by rfl) hHeld rfl ?_
        simp only [List.set_cons_succ, List.set_cons_zero]
        refine takeL 5 20 (v := ?_) rfl rfl (by kernel_rfl) (by kernel_rfl) (by kernel_rfl) (fun _ _ _ h => h) (by rfl) hHeld (fun w hSw => ?_) ?_
        rotate_left 1
        · (try dsimp only at hSw)
          clear hSw
          go_simp
          try with_reducible rfl
        simp only [List.set_cons_succ, List.set_cons_zero]
        refine takeL 6 21 (v := ?_) rfl rfl (by kernel_rfl) (by kernel_rfl) (by kernel_rfl) (fun _ _ _ h => h) (by rfl) hHeld (fun w hSw => ?_) ?_
        rotate_left 1
        · (try dsimp only at hSw)
          have e0_ := (hSw.cell (p := ⟨g, k, none⟩) hgl).trans hck
          clear hSw
          go_simp
          try with_reducible rfl
        simp only [List.set_cons_succ, List.set_cons_zero]
        refine takeM 7 22 1 rfl rfl rfl (by kernel_rfl) (by kernel_rfl) (by kernel_rfl) (fun _ _ _ h => h) (by rfl) hHeld rfl ?_
        simp only [List.set_cons_succ, List.set_cons_zero]
        refine takeL 8 23 (v := ?_) rfl rfl (by kernel_rfl) (by kernel_rfl) (by kernel_rfl) (fun _ _ _ h => h) (by rfl) hHeld (fun w hSw => ?_) ?_
        rotate_left 1
        · (try dsimp only at hSw)
          have e0_ := (sx.sat.below hSw).conv (c := c)
          clear hSw
          go_simp
          try with_reducible rfl
        simp only [List.set_cons_succ, List.set_cons_zero]
        refine takeL 9 24 (v := ?_) rfl rfl (by kernel_rfl) (by kernel_rfl) (by kernel_rfl) (fun _ _ _ h => h) (by rfl) hHeld (fun w hSw => ?_) ?_
        rotate_left 1
        · (try dsimp only at hSw)
          clear hSw
          go_simp
          try with_reducible rfl
        simp only [List.set_cons_succ, List.set_cons_zero]
        refine wpAnyH_done (by kernel_rfl) ?_ _
        go_wp2
        go_roundw
        case rel =>
          refine ⟨k + 1, hlt, by go_num, fun j hj => ?_, hI'.below (Below.refl _ _).drew, sx, bR.drew, hB.drew⟩
          by_cases e : j = k
          · subst e
            rw [HQ.out]
            exact he
          · exact hf j (by omega)
        case measure => simp [intOf]; omega
    · obtain rfl : k = S.length := by omega
      go_wp2_with fail
      refine startX (S := fun w' => Off FS wr w') 11 (by kernel_rfl) (Off.refl _ _).drew (fun hHeld => ?_)
      refine moveX 0 29 0 rfl rfl rfl (by kernel_rfl) (by kernel_rfl) (by kernel_rfl) (fun _ _ _ h => h) (by rfl) (by kernel_rfl) (by decide) hHeld rfl ?_
      simp only [List.set_cons_succ, List.set_cons_zero]
      refine moveX 1 30 0 rfl rfl rfl (by kernel_rfl) (by kernel_rfl) (by kernel_rfl) (fun _ _ _ h => h) (by rfl) (by kernel_rfl) (by decide) hHeld rfl ?_
      simp only [List.set_cons_succ, List.set_cons_zero]
      refine takeX 2 31 (v := ?_) rfl rfl (by kernel_rfl) (by kernel_rfl) (by kernel_rfl) (fun _ _ _ h => h) (by rfl) (by kernel_rfl) (by decide) hHeld (fun w hSw => ?_) ?_
      rotate_left 1
      · (try dsimp only at hSw)
        clear hSw
        go_simp
        try with_reducible rfl
      simp only [List.set_cons_succ, List.set_cons_zero]
      refine takeX 3 32 (v := ?_) rfl rfl (by kernel_rfl) (by kernel_rfl) (by kernel_rfl) (fun _ _ _ h => h) (by rfl) (by kernel_rfl) (by decide) hHeld (fun w hSw => ?_) ?_
      rotate_left 1
      · (try dsimp only at hSw)
        clear hSw
        go_simp
        try with_reducible rfl
      simp only [List.set_cons_succ, List.set_cons_zero]
      refine moveX 5 34 1 rfl rfl rfl (by kernel_rfl) (by kernel_rfl) (by kernel_rfl) (fun _ _ _ h => h) (by rfl) (by kernel_rfl) (by decide) hHeld rfl ?_
      simp only [List.set_cons_succ, List.set_cons_zero]
      refine takeX 4 33 (v := ?_) rfl rfl (by kernel_rfl) (by kernel_rfl) (by kernel_rfl) (fun _ _ _ h => h) (by rfl) (by kernel_rfl) (by decide) hHeld (fun w hSw => ?_) ?_
      rotate_left 1
      · (try dsimp only at hSw)
        have e0_ := (show TBox w b vL (.slice y S.length cy) from off_block hA.box hSw hA.ns).c1
        clear hSw
        go_simp
        try with_reducible rfl
      simp only [List.set_cons_succ, List.set_cons_zero]
      refine takeX 6 35 (v := ?_) rfl rfl (by kernel_rfl) (by kernel_rfl) (by kernel_rfl) (fun _ _ _ h => h) (by rfl) (by kernel_rfl) (by decide) hHeld (fun w hSw => ?_) ?_
      rotate_left 1
      · (try dsimp only at hSw)
        have e0_ := (sx.off hSw (fun k _ h hk => h ((HF.out k).2 (Or.inr (Or.inr hk))))).sat.conv (c := c)
        clear hSw
        go_simp
        try with_reducible rfl
      simp only [List.set_cons_succ, List.set_cons_zero]
      refine onlyX 7 rfl (by kernel_rfl) (by rfl) (fun K hK => ?_)
      go_wp2
      have hof : Off FS wr (wr.alloc (.cells #[.string (strOfNums xs)] 9)).drew := ((Off.refl _ _).alloc _).drew
      refine hK.out _ _ (fun _ => hof) (fun _ => ?_)
      clear hK K hHeld
      obtain ⟨i0, hi, hz0, hz1, hz2⟩ := info_parts Try.strInfo
      have own2 : (wr.alloc (.cells #[.string (strOfNums xs)] 9)).drew.ownsRow 0 9 1 (.slice y S.length cy) S.length (S.map fun p => .string (strOfNums p)) := own_off hA.sum.1 (Off.of_below (F := fun _ => False) ((Below.refl wr.heap.size wr).alloc (Nat.le_refl _) _).drew) (fun _ _ h => h)
      have hA2 := hA.off (Off.of_below (F := fun _ => False) ((Below.refl wr.heap.size wr).alloc (Nat.le_refl _) (.cells #[.string (strOfNums xs)] 9)).drew) (fun _ _ _ h => h)
      have hcl : (wr.alloc (.cells #[.string (strOfNums xs)] 9)).drew.cell? ⟨wr.heap.size, 0, none⟩ = some (.string (strOfNums xs)) := by
        show (wr.alloc (.cells #[.string (strOfNums xs)] 9)).cell? _ = _
        simp
      have hsz2 : wr.heap.size ≤ (wr.alloc (.cells #[.string (strOfNums xs)] 9)).drew.heap.size := hof.size
      have hbw2 : Below wr.heap.size wr (wr.alloc (.cells #[.string (strOfNums xs)] 9)).drew := ((Below.refl wr.heap.size wr).alloc (Nat.le_refl _) _).drew
      have bR2 := bR.grown ((Below.refl wr.heap.size wr).alloc (Nat.le_refl _) (.cells #[.string (strOfNums xs)] 9)).drew
      generalize (wr.alloc (.cells #[.string (strOfNums xs)] 9)).drew = w2 at *
      refine onlyX 8 rfl (by kernel_rfl) (by rfl) (fun K hK => ?_)
      refine wp_append_at (.tmp 33) (.tmp 36) 56 rfl 0 9 i0 (.string (strOfNums [])) 1 16 Try.underlying56 hi hz0 hz1 hz2 rfl (by decide) _ _ _ rfl own2 ⟨wr.heap.size, 0, none⟩ 1 1 [.string (strOfNums xs)] rfl rfl (fun j u hj => ?_) (fun u hu => ?_) (by unfold maxLen; omega) (by omega) (Nat.zero_le _) ?_
      · match j, hj with
        | 0, hj =>
          simp at hj
          subst hj
          rw [add_plain']
          exact hcl
      · simp at hu
        subst hu
        rfl
      intro v3 w3 own3 hg3 hwh
      obtain ⟨y3, c3, rfl, hc3, hm3, nil3⟩ := own_is own3
      have hr3 : ∀ k, (Value.slice y S.length cy).ownBlock = some k → FS k := hA2.sum.2.1
      have hof3R : Off (fun k => (Value.slice y S.length cy).ownBlock = some k) w2 w3 := (Off.refl _ _).grown hg3 (fun k hk => Or.inl hk)
      have hof3 : Off FS w2 w3 := hof3R.mono (fun k hk => Or.inl (hr3 k hk))
      have hofS : Off FS wr w3 := hof.trans hof3 (fun k hk => Or.inl hk)
      have hofF : Off F wr w3 := hofS.mono (fun k hk => Or.inl ((HF.out k).2 (Or.inr (Or.inr hk))))
      refine hK.out _ _ (fun _ => hofS) (fun _ => ?_)
      have hHeld := hofS
      clear hK K
      simp only [Act.put, List.setIfInBounds_toArray]
      refine onlyX 9 rfl (by kernel_rfl) (by rfl) (fun K hK => ?_)
      go_wp2
      refine hK.out _ _ (fun _ => hHeld) (fun _ => ?_)
      clear hK K
      refine onlyX 10 rfl (by kernel_rfl) (by rfl) (fun K hK => ?_)
      go_wp2
      refine hK.out _ _ (fun _ => hHeld) (fun _ => ?_)
      clear hK K
      have hT3 : TBox w3 b vL (.slice y S.length cy) := off_block hA2.box hof3 hA2.ns
      have k0 := hT3.c1
      have k2 := hT3.frozen 1
      refine onlyX 11 rfl (by kernel_rfl) (by rfl) (fun K hK => ?_)
      go_wp2_with fail
      clear k0 k2
      have hT4 := hT3.put1 (.slice y3 (S.length + 1) c3)
      have hof4 : Off (fun k => k = b) w3 (w3.setCell ⟨b, 1, none⟩ (.slice y3 (S.length + 1) c3)) := (Off.refl (fun k => k = b) w3).setCell (p := ⟨b, 1, none⟩) (Or.inl rfl) _
      refine hK.out _ _ (fun h => absurd rfl h) (fun _ => ?_)
      clear hK K hHeld
      refine doneX (by kernel_rfl) ?_ _
      have hbF : F b := (HF.out b).2 (Or.inl rfl)
      have hbl := hlt0 b hbF
      have hRz : w.heap.size < w2.heap.size := Nat.lt_of_lt_of_le bR.lt hsz2
      have hb3 : ∀ k, (Value.slice y3 (S.length + 1) c3).ownBlock = some k → FS k ∨ w2.heap.size ≤ k := fun k hk => (hwh k hk).imp (hr3 k) id
      have hFS : ∀ k, FS k → k < w.heap.size := fun k hk => hlt0 k ((HF.out k).2 (Or.inr (Or.inr hk)))
      have hFL : ∀ k, FL k → k < w.heap.size := fun k hk => hlt0 k ((HF.out k).2 (Or.inr (Or.inl hk)))
      have bR4 : Box (w3.setCell ⟨b, 1, none⟩ (.slice y3 (S.length + 1) c3)) w.heap.size 0 0 := off_block (off_block bR2 hof3 (fun h => absurd (hFS _ h) (Nat.lt_irrefl _))) hof4 (fun h => by omega)
      have hI4 := (hA2.iss.off hof3 (fun k _ h => hA.ls k h)).off hof4 (fun k _ h e => hA.nl (e ▸ h))
      have own4 := own_off own3 hof4 (fun k hk e => by rcases hb3 k hk with h | h; exact hA.ns (e ▸ h); omega)
      have hof5 := hofF.trans hof4 (fun k hk => Or.inl ((HF.out k).2 (Or.inl hk)))
      have hof6 : Off F w (w3.setCell ⟨b, 1, none⟩ (.slice y3 (S.length + 1) c3)) := (Off.of_below hB).trans hof5 (fun k hk => Or.inl hk)
      have hz4 : w3.heap.size ≤ (w3.setCell ⟨b, 1, none⟩ (.slice y3 (S.length + 1) c3)).heap.size := hof4.size
      have hz3 := hof3.size
      have hnl := hA.nl
      have hns := hA.ns
      have hls := hA.ls
      have hSb2 := hA.sum.2.2
      have hU4 : U8 w (w3.setCell ⟨b, 1, none⟩ (.slice y3 (S.length + 1) c3)) := fun k cur fr h => by
        have hk : k < w.heap.size := (Array.getElem?_eq_some_iff.1 h).1
        have h2 : w2.heap[k]? = some (.cells cur 5 fr) := (hbw2.block k (Nat.lt_of_lt_of_le hk hB.size)).trans ((hB.block k hk).trans h)
        have n1 : (Value.slice y S.length cy).ownBlock ≠ some k := fun e => by
          obtain ⟨cu, h'⟩ := own_type own2 e
          rw [h2] at h'
          simp at h'
        have n2 : k ≠ b := fun e => by
          have h' := hA2.box
          unfold TBox at h'
          rw [← e, h2] at h'
          simp at h'
        exact off_block (off_block h2 hof3R n1) hof4 n2
      clear hof hof3 hof3R hbw2 hof4 hof5 hofF hofS hT3 hA2 hA hI' bR bR2 own own2 hcl hg3 k1
      generalize w3.setCell ⟨b, 1, none⟩ (.slice y3 (S.length + 1) c3) = w4 at *
      have k0 := hT4.c1
      have k1 := bR4.c0
      have k2 := bR4.c1
      have k3 := bR4.frozen 0
      have k4 := bR4.frozen 1
      go_wp2
      have hbR := bR4.put2 17216961135462248174 ((S.length : Int) + 1)
      have r0 := hbR.c0
      have r1 := hbR.c1
      have hof7 : Off (fun k => k = w.heap.size) w4 ((w4.setCell ⟨w.heap.size, 0, none⟩ (.int .u64 17216961135462248174)).setCell ⟨w.heap.size, 1, none⟩ (.int .u64 ((S.length : Int) + 1))) := ((Off.refl (fun k => k = w.heap.size) w4).setCell (p := ⟨w.heap.size, 0, none⟩) (Or.inl rfl) _).setCell (p := ⟨w.heap.size, 1, none⟩) (Or.inl rfl) _
      have hnin : xs ∉ S := fun hm => by
        obtain ⟨j, hj, e⟩ := List.getElem_of_mem hm
        exact hf j hj (by simp [List.getD, hj, e])
      rw [sumIx_new hnin, sumSt, if_neg hnin]
      refine bodyPost_ret (v := .agg #[.int .u64 17216961135462248174, .int .u64 ((S.length + 1 : Nat) : Int)]) (by simp [results, Try.results28, go_sem, r0, r1]) rfl ⟨rfl, fun k => F k ∨ (Value.slice y3 (S.length + 1) c3).ownBlock = some k, ⟨FL, fun k => FS k ∨ (Value.slice y3 (S.length + 1) c3).ownBlock = some k, vL, _, ⟨off_block hT4 hof7 (fun e => by omega), hI4.off hof7 (fun k _ h e => by have := hFL k h; omega), ⟨?_, fun k hk => Or.inr hk, ?_⟩, hnl, ?_, ?_⟩, ?_, ?_⟩, ?_, ?_, hU4.trans (U8.of_off hof7 (fun k cur fr h e => ?_))⟩
      · rw [List.length_append, List.map_append]
        exact own_off own4 hof7 (fun k hk e => by rcases hb3 k hk with h | h; have := hFS k h; omega; omega)
      · intro p hp
        rcases List.mem_append.1 hp with h | h
        · exact hSb2 p h
        · rw [List.mem_singleton.1 h]
          exact bx
      · rintro (h | h)
        · exact hns h
        · rcases hb3 _ h with h | h
          · exact hns h
          · omega
      · rintro k hk (h | h)
        · exact hls k hk h
        · rcases hb3 _ h with h | h
          · exact hls k hk h
          · have := hFL k hk
            omega
      · intro k
        show (F k ∨ _) ↔ (k = b ∨ FL k ∨ FS k ∨ _)
        rw [HF.out k]
        constructor
        · rintro ((h | h | h) | h)
          · exact Or.inl h
          · exact Or.inr (Or.inl h)
          · exact Or.inr (Or.inr (Or.inl h))
          · exact Or.inr (Or.inr (Or.inr h))
        · rintro (h | h | h | h)
          · exact Or.inl (Or.inl h)
          · exact Or.inl (Or.inr (Or.inl h))
          · exact Or.inl (Or.inr (Or.inr h))
          · exact Or.inr h
      · rintro k (h | h)
        · exact Nat.lt_of_lt_of_le (hlt0 k h) (Nat.le_trans hof6.size hof7.size)
        · obtain ⟨cur, hh⟩ := own_type own4 h
          obtain ⟨hl, _⟩ := Array.getElem?_eq_some_iff.1 hh
          exact Nat.lt_of_lt_of_le hl hof7.size
      · rintro k (h | h)
        · exact Or.inl h
        · rcases hb3 _ h with h | h
          · exact Or.inl ((HF.out k).2 (Or.inr (Or.inr h)))
          · exact Or.inr (by omega)
      · exact hof6.trans hof7 (fun k hk => Or.inr (by omega))
      · have hl := bR4.lt
        have hx := bR4
        unfold Box at hx
        subst e
        rw [hx] at h
        simp at h
theorem rosum (F : Nat → Prop) (b : Nat) (L : List Iss) (S : List (List Int)) (xs : List Int) (x : Option Addr) (n c : Nat) (hSl : S.length ≤ 50000) (bx : Bytes xs) (w : World) (hI : RInv F w b (L, S)) (sx : SIn (fun k => ¬ F k) w x n xs) : Calls Try.prog 28 #[.pointer (some ⟨b, 0, none⟩), .slice x n c] w fun e w' => e = .returned (.agg #[.int .u64 17216961135462248174, .int .u64 (sumIx S xs : Nat)]) ∧ ∃ F', RInv F' w' b (L, sumSt S xs) ∧ (∀ k, F' k → F k ∨ w.heap.size ≤ k) ∧ Off F w w' :=
  (rosum8 F b L S xs x n c hSl bx w hI sx).mono (fun _ _ ⟨h1, F', h2, h3, h4, _⟩ => ⟨h1, F', h2, h3, h4⟩)
end Go.Proofs.Ytkkehbebaokdmaa
