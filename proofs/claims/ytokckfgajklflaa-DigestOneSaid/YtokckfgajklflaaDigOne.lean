/- Stage 6's walks: DigestOne. -/
import Derived.Test.YtokckfgajklflaaDigEnds
import Derived.Test.YtokckfgajklflaaRegion
namespace Go.Proofs.Ytokckfgajklflaa
open Go.RowKit

theorem Box.put_a {w : World} {b : Nat} {x y : Int} (h : Box w b x y) (x' : Int) : Box (w.setCell ⟨b, 0, none⟩ (.int .u64 x')) b x' y := by
  unfold Box at h ⊢
  simp [World.setCell, Array.getElem?_modify, h]
theorem Box.put_b {w : World} {b : Nat} {x y : Int} (h : Box w b x y) (y' : Int) : Box (w.setCell ⟨b, 1, none⟩ (.int .u64 y')) b x y' := by
  unfold Box at h ⊢
  simp [World.setCell, Array.getElem?_modify, h]
theorem putL_small : ∀ n, n ≤ 7 → putL n 8 = [0, 0, 0, 0, 0, 0, 0, (n : Int)] := by decide
theorem msg_one (xs : List Int) (h : xs.length ≤ 7) : ((splice (List.replicate 16 (0 : Int)) 0 xs).set xs.length 128).set 15 (xs.length : Int) = msgL xs := by
  rw [msgL, putL_small _ h]
  match xs, h with
  | [], _ => simp [splice, digN, List.replicate]
  | [_], _ => simp [splice, digN, List.replicate]
  | [_, _], _ => simp [splice, digN, List.replicate]
  | [_, _, _], _ => simp [splice, digN, List.replicate]
  | [_, _, _, _], _ => simp [splice, digN, List.replicate]
  | [_, _, _, _, _], _ => simp [splice, digN, List.replicate]
  | [_, _, _, _, _, _], _ => simp [splice, digN, List.replicate]
  | [_, _, _, _, _, _, _], _ => simp [splice, digN, List.replicate]
theorem sum_one (xs : List Int) (h : xs.length ≤ 7) : sumP xs = stepP iv (pairOf (msgL xs)) := by
  have e : msgN xs.length = 1 := by
    unfold msgN digN
    omega
  have hl : (msgL xs).length = 16 := by rw [msgL_length, e]
  rw [sumP, e, sumN_succ, sumN, six, Nat.mul_zero, List.drop_zero, List.take_of_length_le (Nat.le_of_eq hl)]

theorem step_of (hP : StepSaid) (s m : BitVec 64 × BitVec 64) {s1 s2 : Int} (h1 : nv s.1 = s1) (h2 : nv s.2 = s2) {t : BitVec 64 × BitVec 64} (ht : stepP s m = t) (w : World) : Calls Try.prog 9 #[.agg #[.int .u64 s1, .int .u64 s2], .agg #[.int .u64 (nv m.1), .int .u64 (nv m.2)]] w fun e w' => e = .returned (.agg #[.int .u64 (nv t.1), .int .u64 (nv t.2)]) ∧ Below w.heap.size w w' := by
  subst h1 h2 ht
  exact hP s m w
set_option maxRecDepth 10000 in
set_option maxHeartbeats 2000000 in
theorem one_in (hP : StepSaid) (hS : SumSaid) (xs : List Int) (x : Option Addr) (n c : Nat) (hn : n ≤ 7) (bx : Bytes xs) (hc : n ≤ c) (hm : c ≤ maxLen) (nil : x = none → n = 0 ∧ c = 0) (w : World) (sx : SAt w x n xs) : Calls Try.prog 6 #[.slice x n c] w fun e w' => e = .returned (.bool true) ∧ Below w.heap.size w w' := by
  have heq := eq32
  have hmk : ∀ w : World, (Instr.makeSlice 22 (.int .i64 16) (.int .i64 16)).run Try.prog w = .ok (.slice (some ⟨w.heap.size, 0, none⟩) 16 16) (w.alloc (.cells (madeCells #[.int .u8 0] 16) 5)) := fun w => run_make_row' (P := Try.prog) 22 5 (.int .u8 0) 1 Try.underlying22 Try.info5 rfl .i64 .i64 16 (by decide) (by decide) w
  have hR := Row.made w 16
  have hB : Below w.heap.size w (w.alloc (.cells (madeCells #[.int .u8 0] 16) 5)) := by go_grown
  have sx0 := sx.below hB
  go_enter Try.func6, Try.ntmps6
  go_wp2_with (with_reducible show wpList _ _ _ (Oper.mk (some 12) _ _ _ _ _ :: _) _ _; refine (wpList_copyS rfl _ _ rfl w.heap.size 0 16 16 n c x rfl rfl (List.replicate 16 0) xs hR sx0 (by rw [List.length_replicate]; omega) w.heap.size w hB (Nat.le_refl _) ?_))
  intro w1 hR1 hb1
  have hxt : xs.take 16 = xs := List.take_of_length_le (by rw [sx.1]; omega)
  replace hR1 : Row w1 w.heap.size (splice (List.replicate 16 0) 0 (xs.take 16)) := hR1
  rw [hxt] at hR1
  have hMs := msg_one xs (by rw [sx.1]; exact hn)
  rw [sx.1] at hMs
  obtain ⟨c1, HC⟩ : ∃ c1, Hid (splice (List.replicate 16 (0 : Int)) 0 xs = c1) := ⟨_, rfl⟩
  have hl1 : c1.length = 16 := by
    rw [← HC.out, length_splice _ _ _ (by rw [List.length_replicate, sx.1]; omega), List.length_replicate]
  rw [HC.out] at hR1 hMs
  have g1 := hR1.at n (by omega)
  have f1 := hR1.frozen n
  rw [Nat.zero_add] at g1
  have hR2 := hR1.set n 128
  have g2 := hR2.at 15 (by rw [List.length_set]; omega)
  have f2 := hR2.frozen 15
  rw [Nat.zero_add] at g2
  have hR3 := hR2.set 15 (n : Int)
  rw [hMs] at hR3
  have hb3 := (hb1.setCell (p := ⟨w.heap.size, n, none⟩) (Nat.le_refl _) (.int .u8 128)).setCell (p := ⟨w.heap.size, 15, none⟩) (Nat.le_refl _) (.int .u8 n)
  clear hmk hR hB sx0 hMs
  obtain ⟨ms, HM⟩ : ∃ ms, Hid (msgL xs = ms) := ⟨_, rfl⟩
  have hmb : Bytes ms := by rw [← HM.out]; exact msgL_bytes bx
  have hml : ms.length = 16 := by
    have : msgN n = 1 := by
      unfold msgN digN
      omega
    rw [← HM.out, msgL_length, sx.1, this]
  have HS : Hid (sumP xs = stepP iv (pairOf ms)) := by rw [← HM.out]; exact hide' (sum_one xs (by rw [sx.1]; exact hn))
  rw [HM.out] at hR3
  have bM := Box.new ((w1.setCell ⟨w.heap.size, n, none⟩ (.int .u8 128)).setCell ⟨w.heap.size, 15, none⟩ (.int .u8 n)) 0 0
  have hGM : w.heap.size < w1.heap.size := hR1.lt
  have hb4 := hb3.alloc (by simp only [World.size_setCell]; omega) (.cells #[.int .u64 0, .int .u64 0] 25)
  have hR4 := hR3.below ((Below.refl _ _).alloc (Nat.le_refl _) (.cells #[.int .u64 0, .int .u64 0] 25)) hR3.lt
  simp only [World.size_setCell] at bM
  clear hR2
  go_wp2_with fail
  clear g1 g2 f1 f2 hR1 hR3 hb1 hb3
  generalize ((w1.setCell ⟨w.heap.size, n, none⟩ (.int .u8 128)).setCell ⟨w.heap.size, 15, none⟩ (.int .u8 n)).alloc (.cells #[.int .u64 0, .int .u64 0] 25) = W2 at *
  generalize w1.heap.size = M at *
  have HN1 := fun k hk => hide' (num_step (ms.take 8) (hmb.take 8) (by simp [hml]) k hk)
  have HN2 := fun k hk => hide' (num_step (ms.drop 8) (hmb.drop 8) (by simp [hml]) k hk)
  have hl8 : (ms.take 8).length = 8 := by simp [hml]
  have hd8 : (ms.drop 8).length = 8 := by simp [hml]
  obtain ⟨G, HG⟩ : ∃ G, Hid (w.heap.size = G) := ⟨_, rfl⟩
  rw [HG.out] at hR4 hGM ⊢
  go_loopw [5] (fun i wr => ∃ k : Nat, k ≤ 8 ∧ i = .int .i64 (k : Int) ∧ Row wr G ms ∧ Box wr M (num ((ms.take 8).take k)) (num ((ms.drop 8).take k)) ∧ Below w.heap.size w wr) (fun i _ => 8 - (intOf i).toNat)
  case atStart => exact ⟨0, by decide, rfl, hR4, by simpa [num] using bM, hb4⟩
  case round =>
    clear hR4 bM hb4
    obtain ⟨k, hk, rfl, hR, bM, hB⟩ := hrel
    by_cases hlt : k < 8
    · have hn1 := HN1 k (by omega)
      have hn2 := HN2 k (by omega)
      have hu : wr.cell? ⟨G, k, none⟩ = some (.int .u8 ((ms.take 8)[k]'(by omega))) := by
        have := hR.at k (by omega)
        rw [Nat.zero_add] at this
        rw [this]
        simp [List.getElem?_eq_getElem (show k < ms.length by omega)]
      have hv : wr.cell? ⟨G, 8 + k, none⟩ = some (.int .u8 ((ms.drop 8)[k]'(by omega))) := by
        have := hR.at (8 + k) (by omega)
        rw [Nat.zero_add] at this
        rw [this]
        simp [List.getElem?_eq_getElem (show 8 + k < ms.length by omega)]
      generalize (ms.take 8)[k]'(by omega) = u at *
      generalize (ms.drop 8)[k]'(by omega) = v at *
      obtain ⟨A1, HA1⟩ : ∃ A1, Hid (num ((ms.take 8).take (k + 1)) = A1) := ⟨_, rfl⟩
      obtain ⟨B1, HB1⟩ : ∃ B1, Hid (num ((ms.drop 8).take (k + 1)) = B1) := ⟨_, rfl⟩
      rw [HA1.out] at hn1
      rw [HB1.out] at hn2
      generalize num ((ms.take 8).take k) = A at *
      generalize num ((ms.drop 8).take k) = B at *
      have hMz := bM.lt
      have i1 : (k : Int) < 16 := by omega
      have i2 : (8 : Int) + (k : Int) < 16 := by omega
      have i3 : IntKind.i64.wrap (8 + (k : Int)) = 8 + (k : Int) := IntWalk.i64_in _ (by omega)
      have i4 : (0 : Int) ≤ 8 + (k : Int) := by omega
      have i5 : (8 + (k : Int)).toNat = 8 + k := by omega
      go_wp2_with fail
      have hce := hu
      refine wp_region_held_drew (S := fun w' => Below M wr w') (by kernel_rfl) (Below.refl _ _).drew (fun hHeld => ?_)
      refine takeL 0 27 (v := ?_) rfl rfl (by kernel_rfl) (by kernel_rfl) (by kernel_rfl) (fun _ _ _ h => h) (by rfl) hHeld (fun w hSw => ?_) ?_
      rotate_left 1
      · (try dsimp only at hSw)
        clear hSw
        go_simp
        try with_reducible rfl
      simp only [List.set_cons_succ, List.set_cons_zero]
      refine takeM 3 30 3 rfl rfl rfl (by kernel_rfl) (by kernel_rfl) (by kernel_rfl) (fun _ _ _ h => h) (by rfl) hHeld rfl ?_
      simp only [List.set_cons_succ, List.set_cons_zero]
      refine takeM 4 31 5 rfl rfl rfl (by kernel_rfl) (by kernel_rfl) (by kernel_rfl) (fun _ _ _ h => h) (by rfl) hHeld rfl ?_
      simp only [List.set_cons_succ, List.set_cons_zero]
      refine takeL 5 32 (v := ?_) rfl rfl (by kernel_rfl) (by kernel_rfl) (by kernel_rfl) (fun _ _ _ h => h) (by rfl) hHeld (fun w hSw => ?_) ?_
      rotate_left 1
      · (try dsimp only at hSw)
        clear hSw
        go_simp
        try with_reducible rfl
      simp only [List.set_cons_succ, List.set_cons_zero]
      refine takeL 6 33 (v := ?_) rfl rfl (by kernel_rfl) (by kernel_rfl) (by kernel_rfl) (fun _ _ _ h => h) (by rfl) hHeld (fun w hSw => ?_) ?_
      rotate_left 1
      · (try dsimp only at hSw)
        have e0_ := (hSw.cell (p := ⟨G, k, none⟩) hGM).trans hce
        clear hSw
        go_simp
        try with_reducible rfl
      simp only [List.set_cons_succ, List.set_cons_zero]
      refine takeL 7 34 (v := ?_) rfl rfl (by kernel_rfl) (by kernel_rfl) (by kernel_rfl) (fun _ _ _ h => h) (by rfl) hHeld (fun w hSw => ?_) ?_
      rotate_left 1
      · (try dsimp only at hSw)
        clear hSw
        go_simp
        try with_reducible rfl
      simp only [List.set_cons_succ, List.set_cons_zero]
      have k0 := bM.drew.c0
      refine onlyL 1 rfl (by kernel_rfl) (by rfl) (fun K hK => ?_)
      go_wp2_with fail
      refine hK.out _ _ (Below.refl _ _).drew (fun hHeld => ?_)
      clear hK K k0
      refine takeL 2 29 (v := ?_) rfl rfl (by kernel_rfl) (by kernel_rfl) (by kernel_rfl) (fun _ _ _ h => h) (by rfl) hHeld (fun w hSw => ?_) ?_
      rotate_left 1
      · (try dsimp only at hSw)
        clear hSw
        go_simp
        try with_reducible rfl
      simp only [List.set_cons_succ, List.set_cons_zero]
      refine takeL 8 35 (v := ?_) rfl rfl (by kernel_rfl) (by kernel_rfl) (by kernel_rfl) (fun _ _ _ h => h) (by rfl) hHeld (fun w hSw => ?_) ?_
      rotate_left 1
      · (try dsimp only at hSw)
        clear hSw
        go_simp
        try with_reducible rfl
      simp only [List.set_cons_succ, List.set_cons_zero]
      refine takeL 9 36 (v := ?_) rfl rfl (by kernel_rfl) (by kernel_rfl) (by kernel_rfl) (fun _ _ _ h => h) (by rfl) hHeld (fun w hSw => ?_) ?_
      rotate_left 1
      · (try dsimp only at hSw)
        clear hSw
        go_simp
        try with_reducible rfl
      simp only [List.set_cons_succ, List.set_cons_zero]
      have k0 := bM.drew.c0
      have k1 := bM.drew.frozen 0
      refine onlyL 10 rfl (by kernel_rfl) (by rfl) (fun K hK => ?_)
      go_wp2
      clear k0 k1
      rw [hn1.out]
      have hbS : Below M wr (wr.setCell ⟨M, 0, none⟩ (.int .u64 A1)).drew := ((Below.refl M wr).setCell (p := ⟨M, 0, none⟩) (Nat.le_refl M) _).drew
      refine hK.out _ _ hbS (fun _ => ?_)
      clear hK K hce hHeld
      replace hv := (hbS.cell (p := ⟨G, 8 + k, none⟩) hGM).trans hv
      replace hR := hR.below hbS hGM
      replace bM := (bM.put_a A1).drew
      replace hB := hB.trans (hbS.mono (by have := HG.out; omega))
      replace hMz := Nat.lt_of_lt_of_le hMz hbS.size
      clear hbS
      generalize (wr.setCell ⟨M, 0, none⟩ (.int .u64 A1)).drew = w2 at *
      refine wpAnyH_done (by kernel_rfl) ?_ _
      go_wp2_with fail
      have hce := hv
      refine wp_region_held_drew (S := fun w' => Below M w2 w') (by kernel_rfl) (Below.refl _ _).drew (fun hHeld => ?_)
      refine takeL 0 37 (v := ?_) rfl rfl (by kernel_rfl) (by kernel_rfl) (by kernel_rfl) (fun _ _ _ h => h) (by rfl) hHeld (fun w hSw => ?_) ?_
      rotate_left 1
      · (try dsimp only at hSw)
        clear hSw
        go_simp
        try with_reducible rfl
      simp only [List.set_cons_succ, List.set_cons_zero]
      refine takeM 3 40 3 rfl rfl rfl (by kernel_rfl) (by kernel_rfl) (by kernel_rfl) (fun _ _ _ h => h) (by rfl) hHeld rfl ?_
      simp only [List.set_cons_succ, List.set_cons_zero]
      refine takeM 4 41 5 rfl rfl rfl (by kernel_rfl) (by kernel_rfl) (by kernel_rfl) (fun _ _ _ h => h) (by rfl) hHeld rfl ?_
      simp only [List.set_cons_succ, List.set_cons_zero]
      refine takeL 5 42 (v := ?_) rfl rfl (by kernel_rfl) (by kernel_rfl) (by kernel_rfl) (fun _ _ _ h => h) (by rfl) hHeld (fun w hSw => ?_) ?_
      rotate_left 1
      · (try dsimp only at hSw)
        clear hSw
        go_simp
        try with_reducible rfl
      simp only [List.set_cons_succ, List.set_cons_zero]
      refine takeL 6 43 (v := ?_) rfl rfl (by kernel_rfl) (by kernel_rfl) (by kernel_rfl) (fun _ _ _ h => h) (by rfl) hHeld (fun w hSw => ?_) ?_
      rotate_left 1
      · (try dsimp only at hSw)
        clear hSw
        go_simp
        try with_reducible rfl
      simp only [List.set_cons_succ, List.set_cons_zero]
      refine takeL 7 44 (v := ?_) rfl rfl (by kernel_rfl) (by kernel_rfl) (by kernel_rfl) (fun _ _ _ h => h) (by rfl) hHeld (fun w hSw => ?_) ?_
      rotate_left 1
      · (try dsimp only at hSw)
        have e0_ := (hSw.cell (p := ⟨G, 8 + k, none⟩) hGM).trans hce
        clear hSw
        go_simp
        try with_reducible rfl
      simp only [List.set_cons_succ, List.set_cons_zero]
      refine takeL 8 45 (v := ?_) rfl rfl (by kernel_rfl) (by kernel_rfl) (by kernel_rfl) (fun _ _ _ h => h) (by rfl) hHeld (fun w hSw => ?_) ?_
      rotate_left 1
      · (try dsimp only at hSw)
        clear hSw
        go_simp
        try with_reducible rfl
      simp only [List.set_cons_succ, List.set_cons_zero]
      have k0 := bM.drew.c1
      refine onlyL 1 rfl (by kernel_rfl) (by rfl) (fun K hK => ?_)
      go_wp2_with fail
      refine hK.out _ _ (Below.refl _ _).drew (fun hHeld => ?_)
      clear hK K k0
      refine takeL 2 39 (v := ?_) rfl rfl (by kernel_rfl) (by kernel_rfl) (by kernel_rfl) (fun _ _ _ h => h) (by rfl) hHeld (fun w hSw => ?_) ?_
      rotate_left 1
      · (try dsimp only at hSw)
        clear hSw
        go_simp
        try with_reducible rfl
      simp only [List.set_cons_succ, List.set_cons_zero]
      refine takeL 9 46 (v := ?_) rfl rfl (by kernel_rfl) (by kernel_rfl) (by kernel_rfl) (fun _ _ _ h => h) (by rfl) hHeld (fun w hSw => ?_) ?_
      rotate_left 1
      · (try dsimp only at hSw)
        clear hSw
        go_simp
        try with_reducible rfl
      simp only [List.set_cons_succ, List.set_cons_zero]
      refine takeL 10 47 (v := ?_) rfl rfl (by kernel_rfl) (by kernel_rfl) (by kernel_rfl) (fun _ _ _ h => h) (by rfl) hHeld (fun w hSw => ?_) ?_
      rotate_left 1
      · (try dsimp only at hSw)
        clear hSw
        go_simp
        try with_reducible rfl
      simp only [List.set_cons_succ, List.set_cons_zero]
      have k0 := bM.drew.c1
      have k1 := bM.drew.frozen 1
      refine onlyL 11 rfl (by kernel_rfl) (by rfl) (fun K hK => ?_)
      go_wp2
      clear k0 k1
      rw [hn2.out]
      have hbS : Below M w2 (w2.setCell ⟨M, 1, none⟩ (.int .u64 B1)).drew := ((Below.refl M w2).setCell (p := ⟨M, 1, none⟩) (Nat.le_refl M) _).drew
      refine hK.out _ _ hbS (fun _ => ?_)
      clear hK K hce hHeld
      replace hR := hR.below hbS hGM
      replace bM := (bM.put_b B1).drew
      replace hB := hB.trans (hbS.mono (by have := HG.out; omega))
      clear hbS
      generalize (w2.setCell ⟨M, 1, none⟩ (.int .u64 B1)).drew = w3 at *
      refine wpAnyH_done (by kernel_rfl) ?_ _
      go_wp2
      go_roundw
      case rel => exact ⟨k + 1, by omega, by go_num, hR, by rw [HA1.out, HB1.out]; exact bM, hB⟩
      case measure => simp [intOf]; omega
    · obtain rfl : k = 8 := by omega
      rw [List.take_of_length_le (Nat.le_of_eq hl8), List.take_of_length_le (Nat.le_of_eq hd8), ← pairOf_1 ms hmb, ← pairOf_2 ms hmb (by omega)] at bM
      replace sx := sx.below hB
      obtain ⟨t, HT, HP2⟩ : ∃ t, Hid (sumP xs = t) ∧ Hid (stepP iv (pairOf ms) = t) := ⟨_, HS, rfl⟩
      generalize pairOf ms = p at *
      clear HN1 HN2 hR hl8 hd8
      go_wp2_with fail
      refine wp_region_held_drew (S := fun w' => Below wr.heap.size wr w') (by kernel_rfl) (Below.refl _ _).drew (fun hHeld => ?_)
      refine takeM 0 48 0 rfl rfl rfl (by kernel_rfl) (by kernel_rfl) (by kernel_rfl) (fun _ _ _ h => h) (by rfl) hHeld rfl ?_
      simp only [List.set_cons_succ, List.set_cons_zero]
      refine takeL 3 51 (v := ?_) rfl rfl (by kernel_rfl) (by kernel_rfl) (by kernel_rfl) (fun _ _ _ h => h) (by rfl) hHeld (fun w hSw => ?_) ?_
      rotate_left 1
      · (try dsimp only at hSw)
        clear hSw
        go_simp
        try with_reducible rfl
      simp only [List.set_cons_succ, List.set_cons_zero]
      refine takeL 4 52 (v := ?_) rfl rfl (by kernel_rfl) (by kernel_rfl) (by kernel_rfl) (fun _ _ _ h => h) (by rfl) hHeld (fun w hSw => ?_) ?_
      rotate_left 1
      · (try dsimp only at hSw)
        have e0_ := (bM.grown hSw).c0
        have e1_ := (bM.grown hSw).c1
        clear hSw
        go_simp
        try with_reducible rfl
      simp only [List.set_cons_succ, List.set_cons_zero]
      refine onlyL 1 rfl (by kernel_rfl) (by rfl) (fun K hK => ?_)
      go_wp2
      have hb : Below wr.heap.size wr ((wr.alloc (.cells #[.slice x n c] 22)).drew) := ((Below.refl _ _).alloc (Nat.le_refl _) _).drew
      have hl := (lat_one wr sx hc hm nil bx).drew
      generalize (wr.alloc (.cells #[.slice x n c] 22)).drew = wq1_ at *
      replace bM := bM.grown hb
      replace sx := sx.below hb
      replace hB := hB.trans (hb.mono hB.size)
      refine hK.out _ _ hb (fun _ => ?_)
      clear hK K hHeld
      refine held_more (S' := fun w' => Below wq1_.heap.size wq1_ w') (fun _ h => hb.trans (h.mono hb.size)) _ _ _ _ ?_
      have hHeld := Below.refl wq1_.heap.size wq1_
      clear hb
      refine onlyL 2 rfl (by kernel_rfl) (by rfl) (fun K hK => ?_)
      go_wp2_with fail
      refine (sum_of hS [xs] _ 1 1 (by decide) (zs := xs) (by simp) (by rw [sx.1]; omega) (by decide) (fun e => by cases e) _ hl HT.out).mono ?_
      rintro e wq2_ ⟨rfl, hb⟩
      replace bM := bM.grown hb
      replace sx := sx.below hb
      replace hl := hl.below hb
      replace hB := hB.trans (hb.mono hB.size)
      refine hK.out _ _ hb (fun _ => ?_)
      clear hK K hHeld
      refine held_more (S' := fun w' => Below wq2_.heap.size wq2_ w') (fun _ h => hb.trans (h.mono hb.size)) _ _ _ _ ?_
      have hHeld := Below.refl wq2_.heap.size wq2_
      clear hb
      clear hl
      refine onlyL 5 rfl (by kernel_rfl) (by rfl) (fun K hK => ?_)
      go_wp2_with fail
      refine (step_of hP iv p iv_1 iv_2 HP2.out _).mono ?_
      rintro e wq3_ ⟨rfl, hb⟩
      replace bM := bM.grown hb
      replace sx := sx.below hb
      replace hB := hB.trans (hb.mono hB.size)
      refine hK.out _ _ hb (fun _ => ?_)
      clear hK K hHeld
      refine held_more (S' := fun w' => Below wq3_.heap.size wq3_ w') (fun _ h => hb.trans (h.mono hb.size)) _ _ _ _ ?_
      have hHeld := Below.refl wq3_.heap.size wq3_
      clear hb
      refine takeL 6 54 (v := ?_) rfl rfl (by kernel_rfl) (by kernel_rfl) (by kernel_rfl) (fun _ _ _ h => h) (by rfl) hHeld (fun w hSw => ?_) ?_
      rotate_left 1
      · (try dsimp only at hSw)
        clear hSw
        go_simp
        try with_reducible rfl
      simp only [List.set_cons_succ, List.set_cons_zero]
      refine takeM 7 55 54 rfl rfl rfl (by kernel_rfl) (by kernel_rfl) (by kernel_rfl) (fun _ _ _ h => h) (by rfl) hHeld rfl ?_
      simp only [List.set_cons_succ, List.set_cons_zero]
      refine onlyL 8 rfl (by kernel_rfl) (by rfl) (fun K hK => ?_)
      go_wp2_with fail
      refine (known_true hS _).mono ?_
      rintro e wq4_ ⟨rfl, hb⟩
      replace bM := bM.grown hb
      replace sx := sx.below hb
      replace hB := hB.trans (hb.mono hB.size)
      refine hK.out _ _ hb (fun _ => ?_)
      clear hK K hHeld
      refine held_more (S' := fun w' => Below wq4_.heap.size wq4_ w') (fun _ h => hb.trans (h.mono hb.size)) _ _ _ _ ?_
      have hHeld := Below.refl wq4_.heap.size wq4_
      clear hb
      refine takeL 9 57 (v := ?_) rfl rfl (by kernel_rfl) (by kernel_rfl) (by kernel_rfl) (fun _ _ _ h => h) (by rfl) hHeld (fun w hSw => ?_) ?_
      rotate_left 1
      · (try dsimp only at hSw)
        clear hSw
        go_simp
        try with_reducible rfl
      simp only [List.set_cons_succ, List.set_cons_zero]
      refine takeA 10 2 57 rfl rfl rfl (by kernel_rfl) (by kernel_rfl) (by kernel_rfl) (fun _ _ _ h => h) (by rfl) hHeld rfl ?_
      simp only [List.set_cons_succ, List.set_cons_zero]
      refine wpAnyH_done (by kernel_rfl) ?_ _
      go_wp2
      go_ret
      exact ⟨rfl, hB⟩

set_option maxHeartbeats 400000 in
theorem one_any (hP : StepSaid) (hS : SumSaid) (xs : List Int) (x : Option Addr) (n c : Nat) (bx : Bytes xs) (hc : n ≤ c) (hm : c ≤ maxLen) (nil : x = none → n = 0 ∧ c = 0) (w : World) (sx : SAt w x n xs) : Calls Try.prog 6 #[.slice x n c] w fun e w' => e = .returned (.bool true) ∧ Below w.heap.size w w' := by
  by_cases h : 7 < n
  · go_enter Try.func6, Try.ntmps6
    go_wp2
    go_ret
    exact ⟨rfl, Below.refl _ _⟩
  · exact one_in hP hS xs x n c (by omega) bx hc hm nil w sx
end Go.Proofs.Ytokckfgajklflaa
