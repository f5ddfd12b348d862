/- OracleBlind's walk. -/
import Derived.Test.YtfgigbecmhmidaaOrcLaws
import Derived.Test.YtfgigbecmhmidaaRegion
namespace Go.Proofs.Ytfgigbecmhmidaa
open Go.RowKit

variable {Inv : (Nat → Prop) → World → Value → OSt → Prop}
set_option maxRecDepth 10000 in
set_option maxHeartbeats 4000000 in
theorem blind_in (hO : OrcIs Inv) (key : BitVec 64 × BitVec 64) (nn : Nn) (xs ys : List Int) (x y : Option Addr) (na nb ca cb : Nat) (hna : na ≤ 200) (hnb : na ≤ nb) (bx : Bytes xs) (by_ : Bytes ys) (fx : Fit x na ca) (fy : Fit y nb cb) (w : World) (sx : SAt w x na xs) (sy : SAt w y nb ys) :
    Calls Try.prog 5 #[.agg #[.int .u64 (nv key.1), .int .u64 (nv key.2)], .agg #[.int .u32 (nv32 nn.1), .int .u32 (nv32 nn.2.1), .int .u64 (nv nn.2.2)], .slice x na ca, .slice y nb cb] w fun e w' => e = .returned (.bool true) ∧ Below w.heap.size w w' := by
  have fy1 := fy.1
  have hsl : (na : Int) ≤ (cb : Int) := by omega
  have hlt1 : ¬ (nb : Int) < (na : Int) := by omega
  go_enter Try.func5, Try.ntmps5
  go_wp2_with fail
  have b4 := (Box.new w (nv key.1) (nv key.2)).alloc (.cells #[.int .u32 (nv32 nn.1), .int .u32 (nv32 nn.2.1), .int .u64 (nv nn.2.2)] 36)
  have b5 := NBox.new (w.alloc (.cells #[.int .u64 (nv key.1), .int .u64 (nv key.2)] 33)) nn
  have hB : Below w.heap.size w ((w.alloc (.cells #[.int .u64 (nv key.1), .int .u64 (nv key.2)] 33)).alloc (.cells #[.int .u32 (nv32 nn.1), .int .u32 (nv32 nn.2.1), .int .u64 (nv nn.2.2)] 36)) := by go_grown
  simp only [World.size_alloc] at b5
  generalize (w.alloc (.cells #[.int .u64 (nv key.1), .int .u64 (nv key.2)] 33)).alloc (.cells #[.int .u32 (nv32 nn.1), .int .u32 (nv32 nn.2.1), .int .u64 (nv nn.2.2)] 36) = W1 at *
  refine (hO.make _).mono ?_
  rintro e w1 ⟨o1, F1, rfl, hI1, hF1, hb⟩
  obtain ⟨a1, rfl⟩ := hO.ptr hI1
  have hW1 : w.heap.size + 1 < W1.heap.size := b5.lt
  replace b4 := b4.grown hb
  replace b5 := b5.grown hb
  replace hB := hB.trans (hb.mono hB.size)
  replace hF1 : ∀ k, F1 k → w.heap.size + 1 < k := fun k hk => Nat.lt_of_lt_of_le hW1 (hF1 k hk)
  have hW2 : w.heap.size + 1 < w1.heap.size := b5.lt
  clear hb hW1
  go_wp2_with fail
  refine (hO.make _).mono ?_
  rintro e w2 ⟨o2, F2, rfl, hI2, hF2, hb⟩
  obtain ⟨a2, rfl⟩ := hO.ptr hI2
  have hdis : ∀ k, F1 k → ¬ F2 k := fun k h1 h2 => absurd (hO.lt hI1 k h1) (Nat.not_lt.2 (hF2 k h2))
  replace hI1 := hO.below hI1 hb
  replace b4 := b4.grown hb
  replace b5 := b5.grown hb
  replace hB := hB.trans (hb.mono hB.size)
  replace hF2 : ∀ k, F2 k → w.heap.size + 1 < k := fun k hk => Nat.lt_of_lt_of_le hW2 (hF2 k hk)
  clear hb hW2
  go_wp2_with fail
  go_loopw [11] (fun v wr => ∃ (i : Nat) (L1 L2 : List Iss) (F1 F2 : Nat → Prop), i ≤ 3 ∧ v = .int .i64 (i : Int) ∧ L1.length = i ∧ L2.length = i ∧ Inv F1 wr (.pointer (some a1)) (L1, []) ∧ Inv F2 wr (.pointer (some a2)) (L2, []) ∧ (∀ k, F1 k → w.heap.size + 1 < k) ∧ (∀ k, F2 k → w.heap.size + 1 < k) ∧ (∀ k, F1 k → ¬ F2 k) ∧ Box wr w.heap.size (nv key.1) (nv key.2) ∧ NBox wr (w.heap.size + 1) nn ∧ Below w.heap.size w wr) (fun v _ => 3 - (intOf v).toNat)
  case atStart => exact ⟨0, [], [], F1, F2, by decide, rfl, rfl, rfl, hI1, hI2, hF1, hF2, hdis, b4, b5, hB⟩
  case round =>
    clear hI1 hI2 hF1 hF2 hdis b4 b5 hB F1 F2
    obtain ⟨i, L1, L2, F1, F2, hi, rfl, hl1, hl2, hI1, hI2, hF1, hF2, hdis, b4, b5, hB⟩ := hrel
    by_cases hlt : i < 3
    · have hwr5 : w.heap.size + 1 < wr.heap.size := b5.lt
      have k0 := b4.c0
      have k1 := b4.c1
      have k2 := b5.c0
      have k3 := b5.c1
      have k4 := b5.c2
      have sa := (sx.inn.off (Off.of_below (F := fun _ => False) hB) (fun _ _ _ h => h)).mono (G' := fun k => ¬ F1 k) (fun k _ h h1 => by have := hF1 k h1; omega)
      go_wp2_with fail
      clear k0 k1 k2 k3 k4
      refine (oseal_at hO F1 _ L1 [] key nn rfl rfl rfl rfl rfl [] xs none x 0 na 0 ca (by decide) (by omega) (by omega) bytes_none bx fit_none fx _ hI1 (SIn.none _ _ _) sa (i := (i : Int) + 1) (by rw [hl1])).mono ?_
      rintro e w2 ⟨z1, cz1, F1p, rfl, hK, s1, -⟩
      rw [hl1] at s1
      have hF1p : ∀ k, F1p k → w.heap.size + 1 < k := fun k hk => (hK.sub k hk).elim (hF1 k) (fun h => Nat.lt_of_lt_of_le b5.lt h)
      have hd2 : ∀ k, F1p k → ¬ F2 k := fun k h1 h2 => (hK.sub k h1).elim (fun h => hdis k h h2) (fun h => absurd (hO.lt hI2 k h2) (Nat.not_lt.2 h))
      have hn2 : ∀ k, wr.heap.size ≤ k → ¬ F2 k := fun k hk h => absurd (hO.lt hI2 k h) (Nat.not_lt.2 hk)
      replace hI2 := hO.keep hI2 hK.off (fun k h2 h1 => hdis k h1 h2)
      replace b4 : Box w2 w.heap.size (nv key.1) (nv key.2) := off_block b4 hK.off (fun h => by have := hF1 _ h; omega)
      replace b5 : NBox w2 (w.heap.size + 1) nn := off_block b5 hK.off (fun h => by have := hF1 _ h; omega)
      replace hB := hB.trans (hK.off.below (fun k h => by have := hF1 k h; omega) hB.size)
      replace hI1 := hK.inv
      have hz2 := hK.off.size
      clear hK sa hF1 hdis
      have bS := SBox.new w2 (.slice z1 na cz1) 18446744073709551615 ((i : Int) + 1)
      have hb : Below w2.heap.size w2 (w2.alloc (.cells #[.slice z1 na cz1, .int .u64 18446744073709551615, .int .u64 ((i : Int) + 1)] 41)) := (Below.refl _ _).alloc (Nat.le_refl _) _
      replace hI1 := hO.below hI1 hb
      replace hI2 := hO.below hI2 hb
      replace b4 := b4.grown hb
      replace b5 := b5.grown hb
      replace s1 := (s1.mono (G' := fun k => wr.heap.size ≤ k ∧ k < w2.heap.size) (fun k hk h => ⟨h.1, hk⟩)).off (Off.of_below (F := fun _ => False) hb) (fun _ _ _ h => h)
      replace hB := hB.trans (hb.mono hB.size)
      clear hb
      go_wp2_with fail
      generalize w2.alloc (.cells #[.slice z1 na cz1, .int .u64 18446744073709551615, .int .u64 ((i : Int) + 1)] 41) = w3 at *
      generalize w2.heap.size = A at *
      have hnF2 : ∀ k, k ≤ w.heap.size + 1 → ¬ F2 k := fun k hk h => by have := hF2 k h; omega
      have hzA : wr.heap.size ≤ A := hz2
      have sb : SIn (fun k => ¬ F2 k) w3 y na (ys.take na) := ((sy.head hnb).inn.off (Off.of_below (F := fun _ => False) hB) (fun _ _ _ h => h)).mono (fun k _ h h1 => by have := hF2 k h1; omega)
      have hA3 := bS.lt
      refine wp_region_held_drew (S := fun w' => Off F2 w3 w') (by kernel_rfl) (Off.refl _ _).drew (fun hHeld => ?_)
      refine takeM 0 47 10 rfl rfl rfl (by kernel_rfl) (by kernel_rfl) (by kernel_rfl) (fun _ _ _ h => h) (by rfl) hHeld rfl ?_
      simp only [List.set_cons_succ, List.set_cons_zero]
      refine takeL 1 48 (v := ?_) rfl rfl (by kernel_rfl) (by kernel_rfl) (by kernel_rfl) (fun _ _ _ h => h) (by rfl) hHeld (fun w hSw => ?_) ?_
      rotate_left 1
      · (try dsimp only at hSw)
        have hx_ := (show Box w _ (nv key.1) (nv key.2) from off_block b4 hSw (hnF2 _ (Nat.le_succ _)))
        have e0_ := hx_.c0
        have e1_ := hx_.c1
        clear hx_
        clear hSw
        go_simp
        try with_reducible rfl
      simp only [List.set_cons_succ, List.set_cons_zero]
      refine takeL 2 49 (v := ?_) rfl rfl (by kernel_rfl) (by kernel_rfl) (by kernel_rfl) (fun _ _ _ h => h) (by rfl) hHeld (fun w hSw => ?_) ?_
      rotate_left 1
      · (try dsimp only at hSw)
        have hx_ := (show NBox w _ nn from off_block b5 hSw (hnF2 _ (Nat.le_refl _)))
        have e0_ := hx_.c0
        have e1_ := hx_.c1
        have e2_ := hx_.c2
        clear hx_
        clear hSw
        go_simp
        try with_reducible rfl
      simp only [List.set_cons_succ, List.set_cons_zero]
      refine takeM 3 50 3 rfl rfl rfl (by kernel_rfl) (by kernel_rfl) (by kernel_rfl) (fun _ _ _ h => h) (by rfl) hHeld rfl ?_
      simp only [List.set_cons_succ, List.set_cons_zero]
      refine takeM 4 51 2 rfl rfl rfl (by kernel_rfl) (by kernel_rfl) (by kernel_rfl) (fun _ _ _ h => h) (by rfl) hHeld rfl ?_
      simp only [List.set_cons_succ, List.set_cons_zero]
      refine takeL 5 52 (v := ?_) rfl rfl (by kernel_rfl) (by kernel_rfl) (by kernel_rfl) (fun _ _ _ h => h) (by rfl) hHeld (fun w hSw => ?_) ?_
      rotate_left 1
      · (try dsimp only at hSw)
        clear hSw
        go_simp
        try with_reducible rfl
      simp only [List.set_cons_succ, List.set_cons_zero]
      refine takeL 6 53 (v := ?_) rfl rfl (by kernel_rfl) (by kernel_rfl) (by kernel_rfl) (fun _ _ _ h => h) (by rfl) hHeld (fun w hSw => ?_) ?_
      rotate_left 1
      · (try dsimp only at hSw)
        have e0_ := sl_head y nb cb na (by omega)
        clear hSw
        go_simp
        try with_reducible rfl
      simp only [List.set_cons_succ, List.set_cons_zero]
      have hbd : Below w3.heap.size w3 w3.drew := (Below.refl _ _).drew
      replace b4 := b4.grown hbd
      replace b5 := b5.grown hbd
      replace bS := bS.grown hbd
      replace s1 := s1.off (Off.of_below (F := fun _ => False) hbd) (fun _ _ _ h => h)
      replace sb := sb.off (Off.of_below (F := fun _ => False) hbd) (fun _ _ _ h => h)
      replace hI1 := hO.below hI1 hbd
      replace hI2 := hO.below hI2 hbd
      replace hB := hB.trans (hbd.mono hB.size)
      have hof0 : Off F2 w3 w3.drew := (Off.refl _ _).drew
      have hA4 : A < w3.drew.heap.size := hA3
      clear hbd hHeld
      generalize w3.drew = w4 at *
      refine twoL 7 11 rfl rfl (by kernel_rfl) (by rfl) (by rfl) (fun K hK => ?_) (fun K hK => ?_)
      · go_wp2_with fail
        refine (oseal_at hO F2 _ L2 [] key nn rfl rfl rfl rfl rfl [] (ys.take na) none y 0 na 0 cb (by decide) (by omega) (by omega) bytes_none (by_.take na) fit_none ⟨by omega, fy.2.1, fun e => by have := fy.2.2 e; omega⟩ _ hI2 (SIn.none _ _ _) sb (i := (i : Int) + 1) (by rw [hl2])).mono ?_
        rintro e w5 ⟨z2, cz2, F2p, rfl, hK2, s2, -⟩
        rw [hl2] at s2
        have hF2p : ∀ k, F2p k → w.heap.size + 1 < k := fun k hk => (hK2.sub k hk).elim (hF2 k) (fun h => Nat.lt_of_lt_of_le b5.lt h)
        have hdp : ∀ k, F1p k → ¬ F2p k := fun k h1 h2 => (hK2.sub k h2).elim (hd2 k h1) (fun h => absurd (hO.lt hI1 k h1) (Nat.not_lt.2 h))
        replace hI1 := hO.keep hI1 hK2.off (fun k h1 h2 => hd2 k h1 h2)
        replace s1 := s1.off hK2.off (fun k _ h => hn2 k h.1)
        replace bS : SBox w5 A (.slice z1 na cz1) 18446744073709551615 ((i : Int) + 1) := off_block bS hK2.off (hn2 _ hzA)
        replace b4 : Box w5 w.heap.size (nv key.1) (nv key.2) := off_block b4 hK2.off (hnF2 _ (Nat.le_succ _))
        replace b5 : NBox w5 (w.heap.size + 1) nn := off_block b5 hK2.off (hnF2 _ (Nat.le_refl _))
        replace hB := hB.trans (hK2.off.below (fun k h => by have := hF2 k h; omega) hB.size)
        replace hI2 := hK2.inv
        have hof : Off F2 w3 w5 := hof0.trans hK2.off (fun _ h => Or.inl h)
        have hz5 := hK2.off.size
        clear hK2
        refine hK.out _ _ hof (fun hHeld => ?_)
        clear hK K
        replace s2 := s2.mono (G' := fun k => k ≠ w5.heap.size) (fun k hk _ => Nat.ne_of_lt hk)
        have hB1 : ¬ F1p w5.heap.size := fun h => Nat.lt_irrefl _ (hO.lt hI1 _ h)
        have hB2 : ¬ F2p w5.heap.size := fun h => Nat.lt_irrefl _ (hO.lt hI2 _ h)
        have hAB : A < w5.heap.size := by omega
        have hwB : w3.heap.size ≤ w5.heap.size := hof.size
        refine takeM 8 46 54 rfl rfl rfl (by kernel_rfl) (by kernel_rfl) (by kernel_rfl) (fun _ _ _ h => h) (by rfl) hHeld rfl ?_
        simp only [List.set_cons_succ, List.set_cons_zero]
        refine takeL 9 55 (v := ?_) rfl rfl (by kernel_rfl) (by kernel_rfl) (by kernel_rfl) (fun _ _ _ h => h) (by rfl) hHeld (fun w hSw => ?_) ?_
        rotate_left 1
        · (try dsimp only at hSw)
          clear hSw
          go_simp
          try with_reducible rfl
        simp only [List.set_cons_succ, List.set_cons_zero]
        refine takeL 10 56 (v := ?_) rfl rfl (by kernel_rfl) (by kernel_rfl) (by kernel_rfl) (fun _ _ _ h => h) (by rfl) hHeld (fun w hSw => ?_) ?_
        rotate_left 1
        · (try dsimp only at hSw)
          clear hSw
          go_simp
          try with_reducible rfl
        simp only [List.set_cons_succ, List.set_cons_zero]
        refine onlyL 11 rfl (by kernel_rfl) (by rfl) (fun K hK => ?_)
        go_wp2
        have bT := SBox.new w5 (.slice none 0 0) 0 0
        have hb : Below w5.heap.size w5 (w5.alloc (.cells #[.slice none 0 0, .int .u64 0, .int .u64 0] 41)) := (Below.refl _ _).alloc (Nat.le_refl _) _
        replace hof := hof.alloc (.cells #[.slice none 0 0, .int .u64 0, .int .u64 0] 41)
        refine hK.out _ _ hof (fun hHeld => ?_)
        clear hK K
        replace b4 := b4.grown hb
        replace b5 := b5.grown hb
        replace bS := bS.grown hb
        replace s1 := s1.off (Off.of_below (F := fun _ => False) hb) (fun _ _ _ h => h)
        replace s2 := s2.off (Off.of_below (F := fun _ => False) hb) (fun _ _ _ h => h)
        replace hI1 := hO.below hI1 hb
        replace hI2 := hO.below hI2 hb
        replace hB := hB.trans (hb.mono hB.size)
        clear hb
        generalize w5.alloc (.cells #[.slice none 0 0, .int .u64 0, .int .u64 0] 41) = w6 at *
        generalize w5.heap.size = B at *
        have q0 := bT.c0
        have q1 := bT.c1
        have q2 := bT.c2
        have q3 := bT.frozen 0
        have q4 := bT.frozen 1
        have q5 := bT.frozen 2
        refine onlyL 12 rfl (by kernel_rfl) (by rfl) (fun K hK => ?_)
        go_wp2_with fail
        clear q0 q1 q2 q3 q4 q5
        have hot : Off (fun k => k = B) w6 (((w6.setCell ⟨B, 0, none⟩ (.slice z2 na cz2)).setCell ⟨B, 1, none⟩ (.int .u64 18446744073709551615)).setCell ⟨B, 2, none⟩ (.int .u64 ((i : Int) + 1))) := ((((Off.refl (fun k => k = B) w6).setCell (p := ⟨B, 0, none⟩) (Or.inl rfl) (.slice z2 na cz2)).setCell (p := ⟨B, 1, none⟩) (Or.inl rfl) (.int .u64 18446744073709551615)).setCell (p := ⟨B, 2, none⟩) (Or.inl rfl) (.int .u64 ((i : Int) + 1)))
        replace bT := bT.put3 (.slice z2 na cz2) 18446744073709551615 ((i : Int) + 1)
        have hof9 : Off F2 w3 (((w6.setCell ⟨B, 0, none⟩ (.slice z2 na cz2)).setCell ⟨B, 1, none⟩ (.int .u64 18446744073709551615)).setCell ⟨B, 2, none⟩ (.int .u64 ((i : Int) + 1))) := hof.trans hot (fun k hk => Or.inr (by omega))
        refine hK.out _ _ hof9 (fun hHeld => ?_)
        clear hK K
        replace hI1 := hO.keep hI1 hot (fun k h e => by subst e; exact hB1 h)
        replace hI2 := hO.keep hI2 hot (fun k h e => by subst e; exact hB2 h)
        replace b4 : Box _ w.heap.size (nv key.1) (nv key.2) := off_block b4 hot (fun e => by omega)
        replace b5 : NBox _ (w.heap.size + 1) nn := off_block b5 hot (fun e => by omega)
        replace bS : SBox _ A (.slice z1 na cz1) 18446744073709551615 ((i : Int) + 1) := off_block bS hot (fun e => by omega)
        replace s1 := s1.off hot (fun k _ h e => by have := h.2; omega)
        replace s2 := s2.off hot (fun k _ h e => h e)
        replace hB := hB.trans (hot.below (fun k h => by omega) hB.size)
        clear hof hof9 hot
        generalize (((w6.setCell ⟨B, 0, none⟩ (.slice z2 na cz2)).setCell ⟨B, 1, none⟩ (.int .u64 18446744073709551615)).setCell ⟨B, 2, none⟩ (.int .u64 ((i : Int) + 1))) = w8 at *
        refine takeA 13 15 56 rfl rfl rfl (by kernel_rfl) (by kernel_rfl) (by kernel_rfl) (fun _ _ _ h => h) (by rfl) hHeld rfl ?_
        simp only [List.set_cons_succ, List.set_cons_zero]
        refine wpAnyH_done (by kernel_rfl) ?_ _
        have q0 := bS.c0
        have q1 := bS.c1
        have q2 := bS.c2
        have q3 := bT.c0
        have q4 := bT.c1
        have q5 := bT.c2
        go_wp2_with fail
        clear q0 q1 q2 q3 q4 q5
        refine (same_true (i + 1) (by omega) _ z1 z2 na cz1 cz2 (outB_bytes _ _) _ s1.sat s2.sat).mono ?_
        rintro e w9 ⟨rfl, hb⟩
        replace hB := hB.trans (hb.mono hB.size)
        go_wp2
        go_roundw
        case rel => exact ⟨i + 1, L1 ++ [_], L2 ++ [_], F1p, F2p, by omega, by go_num, by simp [hl1], by simp [hl2], hO.below hI1 hb, hO.below hI2 hb, hF1p, hF2p, hdp, b4.grown hb, b5.grown hb, hB⟩
        case measure => simp [intOf]; omega
      · go_wp2
        have bT := SBox.new w4 (.slice none 0 0) 0 0
        have hb : Below w4.heap.size w4 (w4.alloc (.cells #[.slice none 0 0, .int .u64 0, .int .u64 0] 41)) := (Below.refl _ _).alloc (Nat.le_refl _) _
        have hof1 : Off F2 w3 (w4.alloc (.cells #[.slice none 0 0, .int .u64 0, .int .u64 0] 41)) := hof0.alloc _
        refine hK.out _ _ hof1 (fun hHeld => ?_)
        clear hK K
        have hB1 : ¬ F1p w4.heap.size := fun h => Nat.lt_irrefl _ (hO.lt hI1 _ h)
        have hB2a : ¬ F2 w4.heap.size := fun h => Nat.lt_irrefl _ (hO.lt hI2 _ h)
        have hAB : A < w4.heap.size := hA4
        have hwB : w3.heap.size ≤ w4.heap.size := hof0.size
        replace b4 := b4.grown hb
        replace b5 := b5.grown hb
        replace bS := bS.grown hb
        replace s1 := s1.off (Off.of_below (F := fun _ => False) hb) (fun _ _ _ h => h)
        replace sb := sb.off (Off.of_below (F := fun _ => False) hb) (fun _ _ _ h => h)
        replace hI1 := hO.below hI1 hb
        replace hI2 := hO.below hI2 hb
        replace hB := hB.trans (hb.mono hB.size)
        have hB6 := bT.lt
        clear hb
        generalize w4.alloc (.cells #[.slice none 0 0, .int .u64 0, .int .u64 0] 41) = w6 at *
        generalize w4.heap.size = B at *
        refine onlyL 7 rfl (by kernel_rfl) (by rfl) (fun K hK => ?_)
        go_wp2_with fail
        refine (oseal_at hO F2 _ L2 [] key nn rfl rfl rfl rfl rfl [] (ys.take na) none y 0 na 0 cb (by decide) (by omega) (by omega) bytes_none (by_.take na) fit_none ⟨by omega, fy.2.1, fun e => by have := fy.2.2 e; omega⟩ _ hI2 (SIn.none _ _ _) sb (i := (i : Int) + 1) (by rw [hl2])).mono ?_
        rintro e w5 ⟨z2, cz2, F2p, rfl, hK2, s2, -⟩
        rw [hl2] at s2
        have hF2p : ∀ k, F2p k → w.heap.size + 1 < k := fun k hk => (hK2.sub k hk).elim (hF2 k) (fun h => Nat.lt_of_lt_of_le b5.lt h)
        have hdp : ∀ k, F1p k → ¬ F2p k := fun k h1 h2 => (hK2.sub k h2).elim (hd2 k h1) (fun h => absurd (hO.lt hI1 k h1) (Nat.not_lt.2 h))
        replace hI1 := hO.keep hI1 hK2.off (fun k h1 h2 => hd2 k h1 h2)
        replace s1 := s1.off hK2.off (fun k _ h => hn2 k h.1)
        replace bS : SBox w5 A (.slice z1 na cz1) 18446744073709551615 ((i : Int) + 1) := off_block bS hK2.off (hn2 _ hzA)
        replace b4 : Box w5 w.heap.size (nv key.1) (nv key.2) := off_block b4 hK2.off (hnF2 _ (Nat.le_succ _))
        replace b5 : NBox w5 (w.heap.size + 1) nn := off_block b5 hK2.off (hnF2 _ (Nat.le_refl _))
        replace hB := hB.trans (hK2.off.below (fun k h => by have := hF2 k h; omega) hB.size)
        replace hI2 := hK2.inv
        have hof : Off F2 w3 w5 := hof1.trans hK2.off (fun _ h => Or.inl h)
        replace bT : SBox w5 B (.slice none 0 0) 0 0 := off_block bT hK2.off hB2a
        have hB2 : ¬ F2p B := fun h => (hK2.sub B h).elim hB2a (fun h => by omega)
        replace s2 := s2.mono (G' := fun k => k ≠ B) (fun k _ h e => by have := h.1; omega)
        clear hK2
        refine hK.out _ _ hof (fun hHeld => ?_)
        clear hK K
        refine takeM 8 46 54 rfl rfl rfl (by kernel_rfl) (by kernel_rfl) (by kernel_rfl) (fun _ _ _ h => h) (by rfl) hHeld rfl ?_
        simp only [List.set_cons_succ, List.set_cons_zero]
        refine takeL 9 55 (v := ?_) rfl rfl (by kernel_rfl) (by kernel_rfl) (by kernel_rfl) (fun _ _ _ h => h) (by rfl) hHeld (fun w hSw => ?_) ?_
        rotate_left 1
        · (try dsimp only at hSw)
          clear hSw
          go_simp
          try with_reducible rfl
        simp only [List.set_cons_succ, List.set_cons_zero]
        refine takeL 10 56 (v := ?_) rfl rfl (by kernel_rfl) (by kernel_rfl) (by kernel_rfl) (fun _ _ _ h => h) (by rfl) hHeld (fun w hSw => ?_) ?_
        rotate_left 1
        · (try dsimp only at hSw)
          clear hSw
          go_simp
          try with_reducible rfl
        simp only [List.set_cons_succ, List.set_cons_zero]
        have q0 := bT.c0
        have q1 := bT.c1
        have q2 := bT.c2
        have q3 := bT.frozen 0
        have q4 := bT.frozen 1
        have q5 := bT.frozen 2
        refine onlyL 12 rfl (by kernel_rfl) (by rfl) (fun K hK => ?_)
        go_wp2_with fail
        clear q0 q1 q2 q3 q4 q5
        have hot : Off (fun k => k = B) w5 (((w5.setCell ⟨B, 0, none⟩ (.slice z2 na cz2)).setCell ⟨B, 1, none⟩ (.int .u64 18446744073709551615)).setCell ⟨B, 2, none⟩ (.int .u64 ((i : Int) + 1))) := ((((Off.refl (fun k => k = B) w5).setCell (p := ⟨B, 0, none⟩) (Or.inl rfl) (.slice z2 na cz2)).setCell (p := ⟨B, 1, none⟩) (Or.inl rfl) (.int .u64 18446744073709551615)).setCell (p := ⟨B, 2, none⟩) (Or.inl rfl) (.int .u64 ((i : Int) + 1)))
        replace bT := bT.put3 (.slice z2 na cz2) 18446744073709551615 ((i : Int) + 1)
        have hof9 : Off F2 w3 (((w5.setCell ⟨B, 0, none⟩ (.slice z2 na cz2)).setCell ⟨B, 1, none⟩ (.int .u64 18446744073709551615)).setCell ⟨B, 2, none⟩ (.int .u64 ((i : Int) + 1))) := hof.trans hot (fun k hk => Or.inr (by omega))
        refine hK.out _ _ hof9 (fun hHeld => ?_)
        clear hK K
        replace hI1 := hO.keep hI1 hot (fun k h e => by subst e; exact hB1 h)
        replace hI2 := hO.keep hI2 hot (fun k h e => by subst e; exact hB2 h)
        replace b4 : Box _ w.heap.size (nv key.1) (nv key.2) := off_block b4 hot (fun e => by omega)
        replace b5 : NBox _ (w.heap.size + 1) nn := off_block b5 hot (fun e => by omega)
        replace bS : SBox _ A (.slice z1 na cz1) 18446744073709551615 ((i : Int) + 1) := off_block bS hot (fun e => by omega)
        replace s1 := s1.off hot (fun k _ h e => by have := h.2; omega)
        replace s2 := s2.off hot (fun k _ h e => h e)
        replace hB := hB.trans (hot.below (fun k h => by omega) hB.size)
        clear hof hof9 hot
        generalize (((w5.setCell ⟨B, 0, none⟩ (.slice z2 na cz2)).setCell ⟨B, 1, none⟩ (.int .u64 18446744073709551615)).setCell ⟨B, 2, none⟩ (.int .u64 ((i : Int) + 1))) = w8 at *
        refine takeA 13 15 56 rfl rfl rfl (by kernel_rfl) (by kernel_rfl) (by kernel_rfl) (fun _ _ _ h => h) (by rfl) hHeld rfl ?_
        simp only [List.set_cons_succ, List.set_cons_zero]
        refine wpAnyH_done (by kernel_rfl) ?_ _
        have q0 := bS.c0
        have q1 := bS.c1
        have q2 := bS.c2
        have q3 := bT.c0
        have q4 := bT.c1
        have q5 := bT.c2
        go_wp2_with fail
        clear q0 q1 q2 q3 q4 q5
        refine (same_true (i + 1) (by omega) _ z1 z2 na cz1 cz2 (outB_bytes _ _) _ s1.sat s2.sat).mono ?_
        rintro e w9 ⟨rfl, hb⟩
        replace hB := hB.trans (hb.mono hB.size)
        go_wp2
        go_roundw
        case rel => exact ⟨i + 1, L1 ++ [_], L2 ++ [_], F1p, F2p, by omega, by go_num, by simp [hl1], by simp [hl2], hO.below hI1 hb, hO.below hI2 hb, hF1p, hF2p, hdp, b4.grown hb, b5.grown hb, hB⟩
        case measure => simp [intOf]; omega
    · obtain rfl : i = 3 := by omega
      go_wp2_with fail
      refine (oknown hO _).mono ?_
      rintro e w9 ⟨rfl, hb⟩
      replace hB := hB.trans (hb.mono hB.size)
      go_wp2
      go_ret
      exact ⟨rfl, hB⟩

set_option maxHeartbeats 400000 in
theorem blind_any (hO : OrcIs Inv) (key : BitVec 64 × BitVec 64) (nn : Nn) (xs ys : List Int) (x y : Option Addr) (na nb ca cb : Nat) (bx : Bytes xs) (by_ : Bytes ys) (fx : Fit x na ca) (fy : Fit y nb cb) (w : World) (sx : SAt w x na xs) (sy : SAt w y nb ys) :
    Calls Try.prog 5 #[.agg #[.int .u64 (nv key.1), .int .u64 (nv key.2)], .agg #[.int .u32 (nv32 nn.1), .int .u32 (nv32 nn.2.1), .int .u64 (nv nn.2.2)], .slice x na ca, .slice y nb cb] w fun e w' => e = .returned (.bool true) ∧ Below w.heap.size w w' := by
  by_cases h1 : 200 < na
  · go_enter Try.func5, Try.ntmps5
    go_wp2
    go_ret
    exact ⟨rfl, by go_grown⟩
  · by_cases h2 : nb < na
    · have h3 : (nb : Int) < (na : Int) := by omega
      go_enter Try.func5, Try.ntmps5
      go_wp2
      go_ret
      exact ⟨rfl, by go_grown⟩
    · exact blind_in hO key nn xs ys x y na nb ca cb (by omega) (by omega) bx by_ fx fy w sx sy
end Go.Proofs.Ytfgigbecmhmidaa
