/- FlowXor's walk, where flow's functions are what the document has. -/
import Derived.Test.YtnalhhjbplgleaaFloLaws
namespace Go.Proofs.Ytnalhhjbplgleaa
open Go.RowKit

set_option maxRecDepth 10000 in
set_option maxHeartbeats 4000000 in
theorem xor_in (hX : XorSaid) (hF : FlowSaid) (xs ys : List Int) (x y : Option Addr) (n m c d : Nat) (hn : n ≤ 300) (hm : m ≤ 300) (hc : n ≤ c) (hd : m ≤ d) (bx : Bytes xs) (by_ : Bytes ys) (w : World) (sx : SAt w x n xs) (sy : SAt w y m ys) : Calls Try.prog 5 #[.slice x n c, .slice y m d] w fun e w' => e = .returned (.bool true) ∧ Below w.heap.size w w' := by
  have hB := Below.refl w.heap.size w
  have hsl := sl_head
  by_cases h : m < n
  · have hk : m ≤ c := by omega
    have HB : Hid (xorL (xorL xs ys) ys = xs.take m) := by
      rw [xorL_back bx by_, sx.1, sy.1, show min n m = m from by omega]
      exact hide' rfl
    go_enter Try.func5, Try.ntmps5
    go_wp2_with fail
    refine (hX xs ys x y n m c d (by omega) (by omega) hc hd bx by_ w sx sy).mono ?_
    rintro e w1 ⟨⟨x1, l1, c1, rfl, s1, hc1, -, -⟩, hb⟩
    replace sx := sx.below hb
    replace sy := sy.below hb
    replace hB := hB.trans (hb.mono hB.size)
    clear hb
    have s0 := sx.head (s := m) (by omega)
    have hl1 : l1 ≤ 50000 := by
      have := s1.1
      rw [xorL_length, sx.1, sy.1] at this
      omega
    go_wp2_with fail
    refine wp_region_held_drew (S := fun w' => Below w1.heap.size w1 w') (by kernel_rfl) (Below.refl _ _).drew (fun hHeld => ?_)
    refine takeM 0 17 5 rfl rfl rfl (by kernel_rfl) (by kernel_rfl) (by kernel_rfl) (fun _ _ _ h => h) (by rfl) hHeld rfl ?_
    simp only [List.set_cons_succ, List.set_cons_zero]
    refine takeL 1 18 (v := ?_) rfl rfl (by kernel_rfl) (by kernel_rfl) (by kernel_rfl) (fun _ _ _ h => h) (by rfl) hHeld (fun w hSw => ?_) ?_
    rotate_left 1
    · (try dsimp only at hSw)
      have e0_ := fun c => (sx.below hSw).conv (c := c)
      have e1_ := fun c => (sy.below hSw).conv (c := c)
      have e2_ := fun c => (s1.below hSw).conv (c := c)
      have e3_ := fun c => (s0.below hSw).conv (c := c)
      clear hSw
      go_simp
      try with_reducible rfl
    simp only [List.set_cons_succ, List.set_cons_zero]
    refine takeM 2 19 0 rfl rfl rfl (by kernel_rfl) (by kernel_rfl) (by kernel_rfl) (fun _ _ _ h => h) (by rfl) hHeld rfl ?_
    simp only [List.set_cons_succ, List.set_cons_zero]
    refine takeM 3 20 1 rfl rfl rfl (by kernel_rfl) (by kernel_rfl) (by kernel_rfl) (fun _ _ _ h => h) (by rfl) hHeld rfl ?_
    simp only [List.set_cons_succ, List.set_cons_zero]
    refine onlyL 4 rfl (by kernel_rfl) (by rfl) (fun K hK => ?_)
    go_wp2_with fail
    refine (rxor xs ys x y n m c d (by omega) (by omega) _ sx.drew sy.drew).mono ?_
    rintro e w1_ ⟨⟨x2, l2, c2, rfl, s2, hc2, -, -⟩, hb⟩
    replace hb := (Below.refl _ _).drew.trans hb
    replace sx := sx.below hb
    replace sy := sy.below hb
    replace s1 := s1.below hb
    replace s0 := s0.below hb
    replace hB := hB.trans (hb.mono hB.size)
    refine hK.out _ _ hb (fun _ => ?_)
    clear hK K hHeld
    refine held_more (S' := fun w' => Below w1_.heap.size w1_ w') (fun _ h => hb.trans (h.mono hb.size)) _ _ _ _ ?_
    have hHeld := Below.refl w1_.heap.size w1_
    clear hb
    refine takeL 5 22 (v := ?_) rfl rfl (by kernel_rfl) (by kernel_rfl) (by kernel_rfl) (fun _ _ _ h => h) (by rfl) hHeld (fun w hSw => ?_) ?_
    rotate_left 1
    · (try dsimp only at hSw)
      have e0_ := fun c => (sx.below hSw).conv (c := c)
      have e1_ := fun c => (sy.below hSw).conv (c := c)
      have e2_ := fun c => (s1.below hSw).conv (c := c)
      have e3_ := fun c => (s0.below hSw).conv (c := c)
      have e4_ := fun c => (s2.below hSw).conv (c := c)
      clear hSw
      go_simp
      try with_reducible rfl
    simp only [List.set_cons_succ, List.set_cons_zero]
    refine takeL 6 23 (v := ?_) rfl rfl (by kernel_rfl) (by kernel_rfl) (by kernel_rfl) (fun _ _ _ h => h) (by rfl) hHeld (fun w hSw => ?_) ?_
    rotate_left 1
    · (try dsimp only at hSw)
      clear hSw
      go_simp
      try with_reducible rfl
    simp only [List.set_cons_succ, List.set_cons_zero]
    refine takeM 7 24 23 rfl rfl rfl (by kernel_rfl) (by kernel_rfl) (by kernel_rfl) (fun _ _ _ h => h) (by rfl) hHeld rfl ?_
    simp only [List.set_cons_succ, List.set_cons_zero]
    refine takeM 8 25 5 rfl rfl rfl (by kernel_rfl) (by kernel_rfl) (by kernel_rfl) (fun _ _ _ h => h) (by rfl) hHeld rfl ?_
    simp only [List.set_cons_succ, List.set_cons_zero]
    refine takeM 9 26 1 rfl rfl rfl (by kernel_rfl) (by kernel_rfl) (by kernel_rfl) (fun _ _ _ h => h) (by rfl) hHeld rfl ?_
    simp only [List.set_cons_succ, List.set_cons_zero]
    refine takeM 12 29 0 rfl rfl rfl (by kernel_rfl) (by kernel_rfl) (by kernel_rfl) (fun _ _ _ h => h) (by rfl) hHeld rfl ?_
    simp only [List.set_cons_succ, List.set_cons_zero]
    refine takeM 13 30 0 rfl rfl rfl (by kernel_rfl) (by kernel_rfl) (by kernel_rfl) (fun _ _ _ h => h) (by rfl) hHeld rfl ?_
    simp only [List.set_cons_succ, List.set_cons_zero]
    refine takeL 14 31 (v := ?_) rfl rfl (by kernel_rfl) (by kernel_rfl) (by kernel_rfl) (fun _ _ _ h => h) (by rfl) hHeld (fun w hSw => ?_) ?_
    rotate_left 1
    · (try dsimp only at hSw)
      clear hSw
      go_simp
      try with_reducible rfl
    simp only [List.set_cons_succ, List.set_cons_zero]
    refine takeM 15 32 1 rfl rfl rfl (by kernel_rfl) (by kernel_rfl) (by kernel_rfl) (fun _ _ _ h => h) (by rfl) hHeld rfl ?_
    simp only [List.set_cons_succ, List.set_cons_zero]
    refine takeL 16 33 (v := ?_) rfl rfl (by kernel_rfl) (by kernel_rfl) (by kernel_rfl) (fun _ _ _ h => h) (by rfl) hHeld (fun w hSw => ?_) ?_
    rotate_left 1
    · (try dsimp only at hSw)
      clear hSw
      go_simp
      try with_reducible rfl
    simp only [List.set_cons_succ, List.set_cons_zero]
    refine takeL 17 34 (v := ?_) rfl rfl (by kernel_rfl) (by kernel_rfl) (by kernel_rfl) (fun _ _ _ h => h) (by rfl) hHeld (fun w hSw => ?_) ?_
    rotate_left 1
    · (try dsimp only at hSw)
      clear hSw
      go_simp
      try with_reducible rfl
    simp only [List.set_cons_succ, List.set_cons_zero]
    refine takeL 18 35 (v := ?_) rfl rfl (by kernel_rfl) (by kernel_rfl) (by kernel_rfl) (fun _ _ _ h => h) (by rfl) hHeld (fun w hSw => ?_) ?_
    rotate_left 1
    · (try dsimp only at hSw)
      clear hSw
      go_simp
      try with_reducible rfl
    simp only [List.set_cons_succ, List.set_cons_zero]
    refine takeL 19 36 (v := ?_) rfl rfl (by kernel_rfl) (by kernel_rfl) (by kernel_rfl) (fun _ _ _ h => h) (by rfl) hHeld (fun w hSw => ?_) ?_
    rotate_left 1
    · (try dsimp only at hSw)
      have e0_ := fun c => (sx.below hSw).conv (c := c)
      have e1_ := fun c => (sy.below hSw).conv (c := c)
      have e2_ := fun c => (s1.below hSw).conv (c := c)
      have e3_ := fun c => (s0.below hSw).conv (c := c)
      have e4_ := fun c => (s2.below hSw).conv (c := c)
      clear hSw
      go_simp
      try with_reducible rfl
    simp only [List.set_cons_succ, List.set_cons_zero]
    refine onlyL 10 rfl (by kernel_rfl) (by rfl) (fun K hK => ?_)
    go_wp2_with fail
    refine (hX (xorL xs ys) ys x1 y l1 m c1 d hl1 (by omega) hc1 hd (xorL_bytes bx by_) by_ _ s1 sy).mono ?_
    rintro e w2_ ⟨⟨x3, l3, c3, rfl, s3, hc3, -, -⟩, hb⟩
    rw [HB.out] at s3
    replace sx := sx.below hb
    replace sy := sy.below hb
    replace s1 := s1.below hb
    replace s0 := s0.below hb
    replace s2 := s2.below hb
    replace hB := hB.trans (hb.mono hB.size)
    refine hK.out _ _ hb (fun _ => ?_)
    clear hK K hHeld
    refine held_more (S' := fun w' => Below w2_.heap.size w2_ w') (fun _ h => hb.trans (h.mono hb.size)) _ _ _ _ ?_
    have hHeld := Below.refl w2_.heap.size w2_
    clear hb
    refine takeL 11 28 (v := ?_) rfl rfl (by kernel_rfl) (by kernel_rfl) (by kernel_rfl) (fun _ _ _ h => h) (by rfl) hHeld (fun w hSw => ?_) ?_
    rotate_left 1
    · (try dsimp only at hSw)
      have e0_ := fun c => (sx.below hSw).conv (c := c)
      have e1_ := fun c => (sy.below hSw).conv (c := c)
      have e2_ := fun c => (s1.below hSw).conv (c := c)
      have e3_ := fun c => (s0.below hSw).conv (c := c)
      have e4_ := fun c => (s2.below hSw).conv (c := c)
      have e5_ := fun c => (s3.below hSw).conv (c := c)
      clear hSw
      go_simp
      try with_reducible rfl
    simp only [List.set_cons_succ, List.set_cons_zero]
    refine takeL 20 37 (v := ?_) rfl rfl (by kernel_rfl) (by kernel_rfl) (by kernel_rfl) (fun _ _ _ h => h) (by rfl) hHeld (fun w hSw => ?_) ?_
    rotate_left 1
    · (try dsimp only at hSw)
      clear hSw
      go_simp
      try with_reducible rfl
    simp only [List.set_cons_succ, List.set_cons_zero]
    refine takeL 21 38 (v := ?_) rfl rfl (by kernel_rfl) (by kernel_rfl) (by kernel_rfl) (fun _ _ _ h => h) (by rfl) hHeld (fun w hSw => ?_) ?_
    rotate_left 1
    · (try dsimp only at hSw)
      clear hSw
      go_simp
      try with_reducible rfl
    simp only [List.set_cons_succ, List.set_cons_zero]
    refine takeM 22 39 38 rfl rfl rfl (by kernel_rfl) (by kernel_rfl) (by kernel_rfl) (fun _ _ _ h => h) (by rfl) hHeld rfl ?_
    simp only [List.set_cons_succ, List.set_cons_zero]
    refine onlyL 23 rfl (by kernel_rfl) (by rfl) (fun K hK => ?_)
    go_wp2_with fail
    refine (known_true hF _).mono ?_
    rintro e w3_ ⟨rfl, hb⟩
    replace sx := sx.below hb
    replace sy := sy.below hb
    replace s1 := s1.below hb
    replace s0 := s0.below hb
    replace s2 := s2.below hb
    replace s3 := s3.below hb
    replace hB := hB.trans (hb.mono hB.size)
    refine hK.out _ _ hb (fun _ => ?_)
    clear hK K hHeld
    refine held_more (S' := fun w' => Below w3_.heap.size w3_ w') (fun _ h => hb.trans (h.mono hb.size)) _ _ _ _ ?_
    have hHeld := Below.refl w3_.heap.size w3_
    clear hb
    refine takeL 24 41 (v := ?_) rfl rfl (by kernel_rfl) (by kernel_rfl) (by kernel_rfl) (fun _ _ _ h => h) (by rfl) hHeld (fun w hSw => ?_) ?_
    rotate_left 1
    · (try dsimp only at hSw)
      clear hSw
      go_simp
      try with_reducible rfl
    simp only [List.set_cons_succ, List.set_cons_zero]
    refine takeA 25 4 41 rfl rfl rfl (by kernel_rfl) (by kernel_rfl) (by kernel_rfl) (fun _ _ _ h => h) (by rfl) hHeld rfl ?_
    simp only [List.set_cons_succ, List.set_cons_zero]
    refine wpAnyH_done (by kernel_rfl) ?_ _
    go_wp2
    go_ret
    exact ⟨rfl, hB⟩
  · have hk : n ≤ c := by omega
    have HB : Hid (xorL (xorL xs ys) ys = xs) := by
      rw [xorL_back bx by_, sx.1, sy.1, show min n m = n from by omega]
      exact hide' (List.take_of_length_le (Nat.le_of_eq sx.1))
    go_enter Try.func5, Try.ntmps5
    go_wp2_with fail
    refine (hX xs ys x y n m c d (by omega) (by omega) hc hd bx by_ w sx sy).mono ?_
    rintro e w1 ⟨⟨x1, l1, c1, rfl, s1, hc1, -, -⟩, hb⟩
    replace sx := sx.below hb
    replace sy := sy.below hb
    replace hB := hB.trans (hb.mono hB.size)
    clear hb
    have hl1 : l1 ≤ 50000 := by
      have := s1.1
      rw [xorL_length, sx.1, sy.1] at this
      omega
    go_wp2_with fail
    refine wp_region_held_drew (S := fun w' => Below w1.heap.size w1 w') (by kernel_rfl) (Below.refl _ _).drew (fun hHeld => ?_)
    refine takeM 0 17 5 rfl rfl rfl (by kernel_rfl) (by kernel_rfl) (by kernel_rfl) (fun _ _ _ h => h) (by rfl) hHeld rfl ?_
    simp only [List.set_cons_succ, List.set_cons_zero]
    refine takeL 1 18 (v := ?_) rfl rfl (by kernel_rfl) (by kernel_rfl) (by kernel_rfl) (fun _ _ _ h => h) (by rfl) hHeld (fun w hSw => ?_) ?_
    rotate_left 1
    · (try dsimp only at hSw)
      have e0_ := fun c => (sx.below hSw).conv (c := c)
      have e1_ := fun c => (sy.below hSw).conv (c := c)
      have e2_ := fun c => (s1.below hSw).conv (c := c)
      clear hSw
      go_simp
      try with_reducible rfl
    simp only [List.set_cons_succ, List.set_cons_zero]
    refine takeM 2 19 0 rfl rfl rfl (by kernel_rfl) (by kernel_rfl) (by kernel_rfl) (fun _ _ _ h => h) (by rfl) hHeld rfl ?_
    simp only [List.set_cons_succ, List.set_cons_zero]
    refine takeM 3 20 1 rfl rfl rfl (by kernel_rfl) (by kernel_rfl) (by kernel_rfl) (fun _ _ _ h => h) (by rfl) hHeld rfl ?_
    simp only [List.set_cons_succ, List.set_cons_zero]
    refine onlyL 4 rfl (by kernel_rfl) (by rfl) (fun K hK => ?_)
    go_wp2_with fail
    refine (rxor xs ys x y n m c d (by omega) (by omega) _ sx.drew sy.drew).mono ?_
    rintro e w1_ ⟨⟨x2, l2, c2, rfl, s2, hc2, -, -⟩, hb⟩
    replace hb := (Below.refl _ _).drew.trans hb
    replace sx := sx.below hb
    replace sy := sy.below hb
    replace s1 := s1.below hb
    replace hB := hB.trans (hb.mono hB.size)
    refine hK.out _ _ hb (fun _ => ?_)
    clear hK K hHeld
    refine held_more (S' := fun w' => Below w1_.heap.size w1_ w') (fun _ h => hb.trans (h.mono hb.size)) _ _ _ _ ?_
    have hHeld := Below.refl w1_.heap.size w1_
    clear hb
    refine takeL 5 22 (v := ?_) rfl rfl (by kernel_rfl) (by kernel_rfl) (by kernel_rfl) (fun _ _ _ h => h) (by rfl) hHeld (fun w hSw => ?_) ?_
    rotate_left 1
    · (try dsimp only at hSw)
      have e0_ := fun c => (sx.below hSw).conv (c := c)
      have e1_ := fun c => (sy.below hSw).conv (c := c)
      have e2_ := fun c => (s1.below hSw).conv (c := c)
      have e3_ := fun c => (s2.below hSw).conv (c := c)
      clear hSw
      go_simp
      try with_reducible rfl
    simp only [List.set_cons_succ, List.set_cons_zero]
    refine takeL 6 23 (v := ?_) rfl rfl (by kernel_rfl) (by kernel_rfl) (by kernel_rfl) (fun _ _ _ h => h) (by rfl) hHeld (fun w hSw => ?_) ?_
    rotate_left 1
    · (try dsimp only at hSw)
      clear hSw
      go_simp
      try with_reducible rfl
    simp only [List.set_cons_succ, List.set_cons_zero]
    refine takeM 7 24 23 rfl rfl rfl (by kernel_rfl) (by kernel_rfl) (by kernel_rfl) (fun _ _ _ h => h) (by rfl) hHeld rfl ?_
    simp only [List.set_cons_succ, List.set_cons_zero]
    refine takeM 8 25 5 rfl rfl rfl (by kernel_rfl) (by kernel_rfl) (by kernel_rfl) (fun _ _ _ h => h) (by rfl) hHeld rfl ?_
    simp only [List.set_cons_succ, List.set_cons_zero]
    refine takeM 9 26 1 rfl rfl rfl (by kernel_rfl) (by kernel_rfl) (by kernel_rfl) (fun _ _ _ h => h) (by rfl) hHeld rfl ?_
    simp only [List.set_cons_succ, List.set_cons_zero]
    refine takeM 12 29 0 rfl rfl rfl (by kernel_rfl) (by kernel_rfl) (by kernel_rfl) (fun _ _ _ h => h) (by rfl) hHeld rfl ?_
    simp only [List.set_cons_succ, List.set_cons_zero]
    refine takeM 13 30 0 rfl rfl rfl (by kernel_rfl) (by kernel_rfl) (by kernel_rfl) (fun _ _ _ h => h) (by rfl) hHeld rfl ?_
    simp only [List.set_cons_succ, List.set_cons_zero]
    refine takeL 14 31 (v := ?_) rfl rfl (by kernel_rfl) (by kernel_rfl) (by kernel_rfl) (fun _ _ _ h => h) (by rfl) hHeld (fun w hSw => ?_) ?_
    rotate_left 1
    · (try dsimp only at hSw)
      clear hSw
      go_simp
      try with_reducible rfl
    simp only [List.set_cons_succ, List.set_cons_zero]
    refine takeM 15 32 1 rfl rfl rfl (by kernel_rfl) (by kernel_rfl) (by kernel_rfl) (fun _ _ _ h => h) (by rfl) hHeld rfl ?_
    simp only [List.set_cons_succ, List.set_cons_zero]
    refine takeL 16 33 (v := ?_) rfl rfl (by kernel_rfl) (by kernel_rfl) (by kernel_rfl) (fun _ _ _ h => h) (by rfl) hHeld (fun w hSw => ?_) ?_
    rotate_left 1
    · (try dsimp only at hSw)
      clear hSw
      go_simp
      try with_reducible rfl
    simp only [List.set_cons_succ, List.set_cons_zero]
    refine takeL 17 34 (v := ?_) rfl rfl (by kernel_rfl) (by kernel_rfl) (by kernel_rfl) (fun _ _ _ h => h) (by rfl) hHeld (fun w hSw => ?_) ?_
    rotate_left 1
    · (try dsimp only at hSw)
      clear hSw
      go_simp
      try with_reducible rfl
    simp only [List.set_cons_succ, List.set_cons_zero]
    refine takeL 18 35 (v := ?_) rfl rfl (by kernel_rfl) (by kernel_rfl) (by kernel_rfl) (fun _ _ _ h => h) (by rfl) hHeld (fun w hSw => ?_) ?_
    rotate_left 1
    · (try dsimp only at hSw)
      clear hSw
      go_simp
      try with_reducible rfl
    simp only [List.set_cons_succ, List.set_cons_zero]
    refine takeL 19 36 (v := ?_) rfl rfl (by kernel_rfl) (by kernel_rfl) (by kernel_rfl) (fun _ _ _ h => h) (by rfl) hHeld (fun w hSw => ?_) ?_
    rotate_left 1
    · (try dsimp only at hSw)
      have e0_ := fun c => (sx.below hSw).conv (c := c)
      have e1_ := fun c => (sy.below hSw).conv (c := c)
      have e2_ := fun c => (s1.below hSw).conv (c := c)
      have e3_ := fun c => (s2.below hSw).conv (c := c)
      clear hSw
      go_simp
      try with_reducible rfl
    simp only [List.set_cons_succ, List.set_cons_zero]
    refine onlyL 10 rfl (by kernel_rfl) (by rfl) (fun K hK => ?_)
    go_wp2_with fail
    refine (hX (xorL xs ys) ys x1 y l1 m c1 d hl1 (by omega) hc1 hd (xorL_bytes bx by_) by_ _ s1 sy).mono ?_
    rintro e w2_ ⟨⟨x3, l3, c3, rfl, s3, hc3, -, -⟩, hb⟩
    rw [HB.out] at s3
    replace sx := sx.below hb
    replace sy := sy.below hb
    replace s1 := s1.below hb
    replace s2 := s2.below hb
    replace hB := hB.trans (hb.mono hB.size)
    refine hK.out _ _ hb (fun _ => ?_)
    clear hK K hHeld
    refine held_more (S' := fun w' => Below w2_.heap.size w2_ w') (fun _ h => hb.trans (h.mono hb.size)) _ _ _ _ ?_
    have hHeld := Below.refl w2_.heap.size w2_
    clear hb
    refine takeL 11 28 (v := ?_) rfl rfl (by kernel_rfl) (by kernel_rfl) (by kernel_rfl) (fun _ _ _ h => h) (by rfl) hHeld (fun w hSw => ?_) ?_
    rotate_left 1
    · (try dsimp only at hSw)
      have e0_ := fun c => (sx.below hSw).conv (c := c)
      have e1_ := fun c => (sy.below hSw).conv (c := c)
      have e2_ := fun c => (s1.below hSw).conv (c := c)
      have e3_ := fun c => (s2.below hSw).conv (c := c)
      have e4_ := fun c => (s3.below hSw).conv (c := c)
      clear hSw
      go_simp
      try with_reducible rfl
    simp only [List.set_cons_succ, List.set_cons_zero]
    refine takeL 20 37 (v := ?_) rfl rfl (by kernel_rfl) (by kernel_rfl) (by kernel_rfl) (fun _ _ _ h => h) (by rfl) hHeld (fun w hSw => ?_) ?_
    rotate_left 1
    · (try dsimp only at hSw)
      clear hSw
      go_simp
      try with_reducible rfl
    simp only [List.set_cons_succ, List.set_cons_zero]
    refine takeL 21 38 (v := ?_) rfl rfl (by kernel_rfl) (by kernel_rfl) (by kernel_rfl) (fun _ _ _ h => h) (by rfl) hHeld (fun w hSw => ?_) ?_
    rotate_left 1
    · (try dsimp only at hSw)
      clear hSw
      go_simp
      try with_reducible rfl
    simp only [List.set_cons_succ, List.set_cons_zero]
    refine takeM 22 39 38 rfl rfl rfl (by kernel_rfl) (by kernel_rfl) (by kernel_rfl) (fun _ _ _ h => h) (by rfl) hHeld rfl ?_
    simp only [List.set_cons_succ, List.set_cons_zero]
    refine onlyL 23 rfl (by kernel_rfl) (by rfl) (fun K hK => ?_)
    go_wp2_with fail
    refine (known_true hF _).mono ?_
    rintro e w3_ ⟨rfl, hb⟩
    replace sx := sx.below hb
    replace sy := sy.below hb
    replace s1 := s1.below hb
    replace s2 := s2.below hb
    replace s3 := s3.below hb
    replace hB := hB.trans (hb.mono hB.size)
    refine hK.out _ _ hb (fun _ => ?_)
    clear hK K hHeld
    refine held_more (S' := fun w' => Below w3_.heap.size w3_ w') (fun _ h => hb.trans (h.mono hb.size)) _ _ _ _ ?_
    have hHeld := Below.refl w3_.heap.size w3_
    clear hb
    refine takeL 24 41 (v := ?_) rfl rfl (by kernel_rfl) (by kernel_rfl) (by kernel_rfl) (fun _ _ _ h => h) (by rfl) hHeld (fun w hSw => ?_) ?_
    rotate_left 1
    · (try dsimp only at hSw)
      clear hSw
      go_simp
      try with_reducible rfl
    simp only [List.set_cons_succ, List.set_cons_zero]
    refine takeA 25 4 41 rfl rfl rfl (by kernel_rfl) (by kernel_rfl) (by kernel_rfl) (fun _ _ _ h => h) (by rfl) hHeld rfl ?_
    simp only [List.set_cons_succ, List.set_cons_zero]
    refine wpAnyH_done (by kernel_rfl) ?_ _
    go_wp2
    go_ret
    exact ⟨rfl, hB⟩

set_option maxHeartbeats 400000 in
theorem xor_out (x y : Option Addr) (n m c d : Nat) (h : 300 < n ∨ 300 < m) (w : World) : Calls Try.prog 5 #[.slice x n c, .slice y m d] w fun e w' => e = .returned (.bool true) ∧ Below w.heap.size w w' := by
  by_cases h1 : 300 < n
  · clear h
    go_enter Try.func5, Try.ntmps5
    go_wp2
    go_ret
    exact ⟨rfl, Below.refl _ _⟩
  · have h2 : 300 < m := by omega
    clear h
    go_enter Try.func5, Try.ntmps5
    go_wp2
    go_ret
    exact ⟨rfl, Below.refl _ _⟩
theorem xor_any (hX : XorSaid) (hF : FlowSaid) (xs ys : List Int) (x y : Option Addr) (n m c d : Nat) (hc : n ≤ c) (hd : m ≤ d) (bx : Bytes xs) (by_ : Bytes ys) (w : World) (sx : SAt w x n xs) (sy : SAt w y m ys) : Calls Try.prog 5 #[.slice x n c, .slice y m d] w fun e w' => e = .returned (.bool true) ∧ Below w.heap.size w w' := by
  by_cases h : 300 < n ∨ 300 < m
  · exact xor_out x y n m c d h w
  · exact xor_in hX hF xs ys x y n m c d (by omega) (by omega) hc hd bx by_ w sx sy
end Go.Proofs.Ytnalhhjbplgleaa
