/- Stage 6's walks: DigestSums. -/
import Derived.Test.YtokckfgajklflaaDigLaws
import Derived.Test.YtokckfgajklflaaRegion
namespace Go.Proofs.Ytokckfgajklflaa
open Go.RowKit

set_option maxRecDepth 10000 in
set_option maxHeartbeats 2000000 in
theorem sums_in (hP : StepSaid) (hS : SumSaid) (xs : List Int) (s m : BitVec 64 × BitVec 64) (x : Option Addr) (n c : Nat) (hn : n ≤ 500) (bx : Bytes xs) (hc : n ≤ c) (hm : c ≤ maxLen) (nil : x = none → n = 0 ∧ c = 0) (w : World) (sx : SAt w x n xs) : Calls Try.prog 3 #[.slice x n c, .agg #[.int .u64 (nv s.1), .int .u64 (nv s.2)], .agg #[.int .u64 (nv m.1), .int .u64 (nv m.2)]] w fun e w' => e = .returned (.bool true) ∧ Below w.heap.size w w' := by
  obtain ⟨t, HT⟩ : ∃ t, Hid (sumP xs = t) := ⟨_, rfl⟩
  have heq := eq32
  go_enter Try.func3, Try.ntmps3
  go_wp2_with fail
  have b4 := (Box.new w (nv s.1) (nv s.2)).alloc (.cells #[.int .u64 (nv m.1), .int .u64 (nv m.2)] 25)
  have b5 := Box.new (w.alloc (.cells #[.int .u64 (nv s.1), .int .u64 (nv s.2)] 25)) (nv m.1) (nv m.2)
  have hB : Below w.heap.size w ((w.alloc (.cells #[.int .u64 (nv s.1), .int .u64 (nv s.2)] 25)).alloc (.cells #[.int .u64 (nv m.1), .int .u64 (nv m.2)] 25)) := by go_grown
  simp only [World.size_alloc] at b5
  generalize (w.alloc (.cells #[.int .u64 (nv s.1), .int .u64 (nv s.2)] 25)).alloc (.cells #[.int .u64 (nv m.1), .int .u64 (nv m.2)] 25) = W1 at *
  replace sx := sx.below hB
  refine wp_region_held_drew (S := fun w' => Below W1.heap.size W1 w') (by kernel_rfl) (Below.refl _ _).drew (fun hHeld => ?_)
  refine takeM 0 10 0 rfl rfl rfl (by kernel_rfl) (by kernel_rfl) (by kernel_rfl) (fun _ _ _ h => h) (by rfl) hHeld rfl ?_
  simp only [List.set_cons_succ, List.set_cons_zero]
  refine takeM 3 13 0 rfl rfl rfl (by kernel_rfl) (by kernel_rfl) (by kernel_rfl) (fun _ _ _ h => h) (by rfl) hHeld rfl ?_
  simp only [List.set_cons_succ, List.set_cons_zero]
  refine onlyL 1 rfl (by kernel_rfl) (by rfl) (fun K hK => ?_)
  go_wp2
  have hb : Below W1.heap.size W1 ((W1.alloc (.cells #[.slice x n c] 22)).drew) := ((Below.refl _ _).alloc (Nat.le_refl _) _).drew
  have hl := (lat_one W1 sx hc hm nil bx).drew
  generalize (W1.alloc (.cells #[.slice x n c] 22)).drew = w1_ at *
  replace b4 := b4.grown hb
  replace b5 := b5.grown hb
  replace sx := sx.below hb
  replace hB := hB.trans (hb.mono hB.size)
  refine hK.out _ _ hb (fun _ => ?_)
  clear hK K hHeld
  refine held_more (S' := fun w' => Below w1_.heap.size w1_ w') (fun _ h => hb.trans (h.mono hb.size)) _ _ _ _ ?_
  have hHeld := Below.refl w1_.heap.size w1_
  clear hb
  refine onlyL 2 rfl (by kernel_rfl) (by rfl) (fun K hK => ?_)
  go_wp2_with fail
  refine (sum_of hS [xs] _ 1 1 (by decide) (zs := xs) (by simp) (by rw [sx.1]; omega) (by decide) (fun e => by cases e) _ hl HT.out).mono ?_
  rintro e w2_ ⟨rfl, hb⟩
  replace b4 := b4.grown hb
  replace b5 := b5.grown hb
  replace sx := sx.below hb
  replace hl := hl.below hb
  replace hB := hB.trans (hb.mono hB.size)
  refine hK.out _ _ hb (fun _ => ?_)
  clear hK K hHeld
  refine held_more (S' := fun w' => Below w2_.heap.size w2_ w') (fun _ h => hb.trans (h.mono hb.size)) _ _ _ _ ?_
  have hHeld := Below.refl w2_.heap.size w2_
  clear hb
  clear hl
  refine onlyL 4 rfl (by kernel_rfl) (by rfl) (fun K hK => ?_)
  go_wp2_with fail
  refine (rsum_of xs x n c (by omega) bx nil _ sx HT.out).mono ?_
  rintro e w3_ ⟨rfl, hb⟩
  replace b4 := b4.grown hb
  replace b5 := b5.grown hb
  replace sx := sx.below hb
  replace hB := hB.trans (hb.mono hB.size)
  refine hK.out _ _ hb (fun _ => ?_)
  clear hK K hHeld
  refine held_more (S' := fun w' => Below w3_.heap.size w3_ w') (fun _ h => hb.trans (h.mono hb.size)) _ _ _ _ ?_
  have hHeld := Below.refl w3_.heap.size w3_
  clear hb
  refine takeL 5 15 (v := ?_) rfl rfl (by kernel_rfl) (by kernel_rfl) (by kernel_rfl) (fun _ _ _ h => h) (by rfl) hHeld (fun w hSw => ?_) ?_
  rotate_left 1
  · (try dsimp only at hSw)
    clear hSw
    go_simp
    try with_reducible rfl
  simp only [List.set_cons_succ, List.set_cons_zero]
  refine takeM 6 16 15 rfl rfl rfl (by kernel_rfl) (by kernel_rfl) (by kernel_rfl) (fun _ _ _ h => h) (by rfl) hHeld rfl ?_
  simp only [List.set_cons_succ, List.set_cons_zero]
  refine takeL 7 17 (v := ?_) rfl rfl (by kernel_rfl) (by kernel_rfl) (by kernel_rfl) (fun _ _ _ h => h) (by rfl) hHeld (fun w hSw => ?_) ?_
  rotate_left 1
  · (try dsimp only at hSw)
    have e0_ := (b4.grown hSw).c0
    have e1_ := (b4.grown hSw).c1
    have e2_ := (b5.grown hSw).c0
    have e3_ := (b5.grown hSw).c1
    clear hSw
    go_simp
    try with_reducible rfl
  simp only [List.set_cons_succ, List.set_cons_zero]
  refine takeL 8 18 (v := ?_) rfl rfl (by kernel_rfl) (by kernel_rfl) (by kernel_rfl) (fun _ _ _ h => h) (by rfl) hHeld (fun w hSw => ?_) ?_
  rotate_left 1
  · (try dsimp only at hSw)
    have e0_ := (b4.grown hSw).c0
    have e1_ := (b4.grown hSw).c1
    have e2_ := (b5.grown hSw).c0
    have e3_ := (b5.grown hSw).c1
    clear hSw
    go_simp
    try with_reducible rfl
  simp only [List.set_cons_succ, List.set_cons_zero]
  refine takeL 10 20 (v := ?_) rfl rfl (by kernel_rfl) (by kernel_rfl) (by kernel_rfl) (fun _ _ _ h => h) (by rfl) hHeld (fun w hSw => ?_) ?_
  rotate_left 1
  · (try dsimp only at hSw)
    have e0_ := (b4.grown hSw).c0
    have e1_ := (b4.grown hSw).c1
    have e2_ := (b5.grown hSw).c0
    have e3_ := (b5.grown hSw).c1
    clear hSw
    go_simp
    try with_reducible rfl
  simp only [List.set_cons_succ, List.set_cons_zero]
  refine takeL 11 21 (v := ?_) rfl rfl (by kernel_rfl) (by kernel_rfl) (by kernel_rfl) (fun _ _ _ h => h) (by rfl) hHeld (fun w hSw => ?_) ?_
  rotate_left 1
  · (try dsimp only at hSw)
    have e0_ := (b4.grown hSw).c0
    have e1_ := (b4.grown hSw).c1
    have e2_ := (b5.grown hSw).c0
    have e3_ := (b5.grown hSw).c1
    clear hSw
    go_simp
    try with_reducible rfl
  simp only [List.set_cons_succ, List.set_cons_zero]
  refine onlyL 9 rfl (by kernel_rfl) (by rfl) (fun K hK => ?_)
  go_wp2_with fail
  refine (hP s m _).mono ?_
  rintro e w4_ ⟨rfl, hb⟩
  replace b4 := b4.grown hb
  replace b5 := b5.grown hb
  replace sx := sx.below hb
  replace hB := hB.trans (hb.mono hB.size)
  refine hK.out _ _ hb (fun _ => ?_)
  clear hK K hHeld
  refine held_more (S' := fun w' => Below w4_.heap.size w4_ w') (fun _ h => hb.trans (h.mono hb.size)) _ _ _ _ ?_
  have hHeld := Below.refl w4_.heap.size w4_
  clear hb
  refine onlyL 12 rfl (by kernel_rfl) (by rfl) (fun K hK => ?_)
  go_wp2_with fail
  refine (rstep s m _).mono ?_
  rintro e w5_ ⟨rfl, hb⟩
  replace b4 := b4.grown hb
  replace b5 := b5.grown hb
  replace sx := sx.below hb
  replace hB := hB.trans (hb.mono hB.size)
  refine hK.out _ _ hb (fun _ => ?_)
  clear hK K hHeld
  refine held_more (S' := fun w' => Below w5_.heap.size w5_ w') (fun _ h => hb.trans (h.mono hb.size)) _ _ _ _ ?_
  have hHeld := Below.refl w5_.heap.size w5_
  clear hb
  refine takeL 13 23 (v := ?_) rfl rfl (by kernel_rfl) (by kernel_rfl) (by kernel_rfl) (fun _ _ _ h => h) (by rfl) hHeld (fun w hSw => ?_) ?_
  rotate_left 1
  · (try dsimp only at hSw)
    clear hSw
    go_simp
    try with_reducible rfl
  simp only [List.set_cons_succ, List.set_cons_zero]
  refine takeL 14 24 (v := ?_) rfl rfl (by kernel_rfl) (by kernel_rfl) (by kernel_rfl) (fun _ _ _ h => h) (by rfl) hHeld (fun w hSw => ?_) ?_
  rotate_left 1
  · (try dsimp only at hSw)
    clear hSw
    go_simp
    try with_reducible rfl
  simp only [List.set_cons_succ, List.set_cons_zero]
  refine takeM 15 25 24 rfl rfl rfl (by kernel_rfl) (by kernel_rfl) (by kernel_rfl) (fun _ _ _ h => h) (by rfl) hHeld rfl ?_
  simp only [List.set_cons_succ, List.set_cons_zero]
  refine onlyL 16 rfl (by kernel_rfl) (by rfl) (fun K hK => ?_)
  go_wp2_with fail
  refine (known_true hS _).mono ?_
  rintro e w6_ ⟨rfl, hb⟩
  replace b4 := b4.grown hb
  replace b5 := b5.grown hb
  replace sx := sx.below hb
  replace hB := hB.trans (hb.mono hB.size)
  refine hK.out _ _ hb (fun _ => ?_)
  clear hK K hHeld
  refine held_more (S' := fun w' => Below w6_.heap.size w6_ w') (fun _ h => hb.trans (h.mono hb.size)) _ _ _ _ ?_
  have hHeld := Below.refl w6_.heap.size w6_
  clear hb
  refine takeL 17 27 (v := ?_) rfl rfl (by kernel_rfl) (by kernel_rfl) (by kernel_rfl) (fun _ _ _ h => h) (by rfl) hHeld (fun w hSw => ?_) ?_
  rotate_left 1
  · (try dsimp only at hSw)
    clear hSw
    go_simp
    try with_reducible rfl
  simp only [List.set_cons_succ, List.set_cons_zero]
  refine takeA 18 6 27 rfl rfl rfl (by kernel_rfl) (by kernel_rfl) (by kernel_rfl) (fun _ _ _ h => h) (by rfl) hHeld rfl ?_
  simp only [List.set_cons_succ, List.set_cons_zero]
  refine wpAnyH_done (by kernel_rfl) ?_ _
  go_wp2
  go_ret
  exact ⟨rfl, hB⟩

set_option maxHeartbeats 400000 in
theorem sums_any (hP : StepSaid) (hS : SumSaid) (xs : List Int) (s m : BitVec 64 × BitVec 64) (x : Option Addr) (n c : Nat) (bx : Bytes xs) (hc : n ≤ c) (hm : c ≤ maxLen) (nil : x = none → n = 0 ∧ c = 0) (w : World) (sx : SAt w x n xs) : Calls Try.prog 3 #[.slice x n c, .agg #[.int .u64 (nv s.1), .int .u64 (nv s.2)], .agg #[.int .u64 (nv m.1), .int .u64 (nv m.2)]] w fun e w' => e = .returned (.bool true) ∧ Below w.heap.size w w' := by
  by_cases h : 500 < n
  · go_enter Try.func3, Try.ntmps3
    go_wp2
    go_ret
    exact ⟨rfl, by go_grown⟩
  · exact sums_in hP hS xs s m x n c (by omega) bx hc hm nil w sx

end Go.Proofs.Ytokckfgajklflaa
