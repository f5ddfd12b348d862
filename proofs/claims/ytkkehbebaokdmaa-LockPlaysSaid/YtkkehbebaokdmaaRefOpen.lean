/- What lockboxref5.Open and Same come to. -/
import Derived.Test.YtkkehbebaokdmaaRefSeal
namespace Go.Proofs.Ytkkehbebaokdmaa
open Go.RowKit
set_option maxRecDepth 20000

set_option maxRecDepth 10000 in
set_option maxHeartbeats 1000000 in
theorem ropen_yes : OpenYes 27 := by
  intro key n xs ys x y nx ny c d t hnx hny ht bx by_ _ _ xnil ynil w sx sy
  obtain ⟨sub, HS⟩ : ∃ sub, Hid (subP key n = sub) := ⟨_, rfl⟩
  rw [HS.out] at ht
  have heq := eq32
  obtain ⟨ms, HM⟩ : ∃ ms, Hid (mixL sub ys = ms) := ⟨_, rfl⟩
  have HX : Hid (xorL ys (flowL sub ny) = ms) := by rw [← HM.out, mixL, sy.1]; exact hide' rfl
  have hml : ms.length = ny := by rw [← HM.out, mixL_length, sy.1]
  rw [HS.out, HM.out]
  go_enter Try.func27, Try.ntmps27
  go_wp2_with fail
  have b0 := Box.new w (nv key.1) (nv key.2)
  have bS := SBox.new ((w.alloc (.cells #[.int .u64 (nv key.1), .int .u64 (nv key.2)] 30)).alloc (.cells #[.int .u32 (nv32 n.1), .int .u32 (nv32 n.2.1), .int .u64 (nv n.2.2)] 35)) (.slice y ny d) (nv t.1) (nv t.2)
  have hB : Below w.heap.size w (((w.alloc (.cells #[.int .u64 (nv key.1), .int .u64 (nv key.2)] 30)).alloc (.cells #[.int .u32 (nv32 n.1), .int .u32 (nv32 n.2.1), .int .u64 (nv n.2.2)] 35)).alloc (.cells #[.slice y ny d, .int .u64 (nv t.1), .int .u64 (nv t.2)] 32)) := by go_grown
  simp only [World.size_alloc] at bS
  generalize ((w.alloc (.cells #[.int .u64 (nv key.1), .int .u64 (nv key.2)] 30)).alloc (.cells #[.int .u32 (nv32 n.1), .int .u32 (nv32 n.2.1), .int .u64 (nv n.2.2)] 35)).alloc (.cells #[.slice y ny d, .int .u64 (nv t.1), .int .u64 (nv t.2)] 32) = W1 at *
  replace sx := sx.below hB
  replace sy := sy.below hB
  clear b0
  refine (rsub_of key n HS.out _).mono ?_
  rintro e w1 ⟨rfl, hb⟩
  replace bS := bS.grown hb
  replace sx := sx.below hb
  replace sy := sy.below hb
  replace hB := hB.trans (hb.mono hB.size)
  clear hb
  go_wp2_with fail
  have hb : Below w1.heap.size w1 (w1.alloc (.cells #[.int .u64 (nv sub.1), .int .u64 (nv sub.2)] 30)) := (Below.refl _ _).alloc (Nat.le_refl _) _
  have b2 := Box.new w1 (nv sub.1) (nv sub.2)
  replace bS := bS.grown hb
  replace sx := sx.below hb
  replace sy := sy.below hb
  replace hB := hB.trans (hb.mono hB.size)
  clear hb
  generalize w1.alloc (.cells #[.int .u64 (nv sub.1), .int .u64 (nv sub.2)] 30) = w2 at *
  generalize w1.heap.size = A at *
  refine wp_region_held_drew (S := fun w' => Below w2.heap.size w2 w') (by kernel_rfl) (Below.refl _ _).drew (fun hHeld => ?_)
  refine takeL 0 23 (v := ?_) rfl rfl (by kernel_rfl) (by kernel_rfl) (by kernel_rfl) (fun _ _ _ h => h) (by rfl) hHeld (fun w hSw => ?_) ?_
  rotate_left 1
  · (try dsimp only at hSw)
    have e0_ := (bS.grown hSw).c0
    have e1_ := (bS.grown hSw).c1
    have e2_ := (bS.grown hSw).c2
    have e3_ := (b2.grown hSw).c0
    have e4_ := (b2.grown hSw).c1
    clear hSw
    go_simp
    try with_reducible rfl
  simp only [List.set_cons_succ, List.set_cons_zero]
  refine takeM 1 24 2 rfl rfl rfl (by kernel_rfl) (by kernel_rfl) (by kernel_rfl) (fun _ _ _ h => h) (by rfl) hHeld rfl ?_
  simp only [List.set_cons_succ, List.set_cons_zero]
  refine takeL 2 25 (v := ?_) rfl rfl (by kernel_rfl) (by kernel_rfl) (by kernel_rfl) (fun _ _ _ h => h) (by rfl) hHeld (fun w hSw => ?_) ?_
  rotate_left 1
  · (try dsimp only at hSw)
    clear hSw
    go_simp
    try with_reducible rfl
  simp only [List.set_cons_succ, List.set_cons_zero]
  refine takeL 3 26 (v := ?_) rfl rfl (by kernel_rfl) (by kernel_rfl) (by kernel_rfl) (fun _ _ _ h => h) (by rfl) hHeld (fun w hSw => ?_) ?_
  rotate_left 1
  · (try dsimp only at hSw)
    have e0_ := (bS.grown hSw).c0
    have e1_ := (bS.grown hSw).c1
    have e2_ := (bS.grown hSw).c2
    have e3_ := (b2.grown hSw).c0
    have e4_ := (b2.grown hSw).c1
    clear hSw
    go_simp
    try with_reducible rfl
  simp only [List.set_cons_succ, List.set_cons_zero]
  refine takeL 5 28 (v := ?_) rfl rfl (by kernel_rfl) (by kernel_rfl) (by kernel_rfl) (fun _ _ _ h => h) (by rfl) hHeld (fun w hSw => ?_) ?_
  rotate_left 1
  · (try dsimp only at hSw)
    clear hSw
    go_simp
    try with_reducible rfl
  simp only [List.set_cons_succ, List.set_cons_zero]
  refine takeL 6 29 (v := ?_) rfl rfl (by kernel_rfl) (by kernel_rfl) (by kernel_rfl) (fun _ _ _ h => h) (by rfl) hHeld (fun w hSw => ?_) ?_
  rotate_left 1
  · (try dsimp only at hSw)
    have e0_ := (bS.grown hSw).c0
    have e1_ := (bS.grown hSw).c1
    have e2_ := (bS.grown hSw).c2
    have e3_ := (b2.grown hSw).c0
    have e4_ := (b2.grown hSw).c1
    clear hSw
    go_simp
    try with_reducible rfl
  simp only [List.set_cons_succ, List.set_cons_zero]
  refine onlyL 4 rfl (by kernel_rfl) (by rfl) (fun K hK => ?_)
  go_wp2_with fail
  refine (rtag sub xs ys x y nx ny c d (by omega) (by omega) bx by_ xnil ynil _ sx.drew sy.drew).mono ?_
  rintro e wp1_ ⟨rfl, hb⟩
  replace hb := (Below.refl _ _).drew.trans hb
  rw [ht]
  replace bS := bS.grown hb
  replace b2 := b2.grown hb
  replace sx := sx.below hb
  replace sy := sy.below hb
  replace hB := hB.trans (hb.mono hB.size)
  refine hK.out _ _ hb (fun _ => ?_)
  clear hK K hHeld
  refine held_more (S' := fun w' => Below wp1_.heap.size wp1_ w') (fun _ h => hb.trans (h.mono hb.size)) _ _ _ _ ?_
  have hHeld := Below.refl wp1_.heap.size wp1_
  clear hb
  refine takeL 7 30 (v := ?_) rfl rfl (by kernel_rfl) (by kernel_rfl) (by kernel_rfl) (fun _ _ _ h => h) (by rfl) hHeld (fun w hSw => ?_) ?_
  rotate_left 1
  · (try dsimp only at hSw)
    clear hSw
    go_simp
    try with_reducible rfl
  simp only [List.set_cons_succ, List.set_cons_zero]
  refine wpAnyH_done (by kernel_rfl) ?_ _
  go_wp2_with fail
  refine wp_region_held_drew (S := fun w' => Below wp1_.heap.size wp1_ w') (by kernel_rfl) (Below.refl _ _).drew (fun hHeld => ?_)
  refine takeL 0 31 (v := ?_) rfl rfl (by kernel_rfl) (by kernel_rfl) (by kernel_rfl) (fun _ _ _ h => h) (by rfl) hHeld (fun w hSw => ?_) ?_
  rotate_left 1
  · (try dsimp only at hSw)
    clear hSw
    go_simp
    try with_reducible rfl
  simp only [List.set_cons_succ, List.set_cons_zero]
  refine takeL 1 32 (v := ?_) rfl rfl (by kernel_rfl) (by kernel_rfl) (by kernel_rfl) (fun _ _ _ h => h) (by rfl) hHeld (fun w hSw => ?_) ?_
  rotate_left 1
  · (try dsimp only at hSw)
    have e0_ := (bS.grown hSw).c0
    have e1_ := (bS.grown hSw).c1
    have e2_ := (bS.grown hSw).c2
    have e3_ := (b2.grown hSw).c0
    have e4_ := (b2.grown hSw).c1
    clear hSw
    go_simp
    try with_reducible rfl
  simp only [List.set_cons_succ, List.set_cons_zero]
  refine takeL 2 33 (v := ?_) rfl rfl (by kernel_rfl) (by kernel_rfl) (by kernel_rfl) (fun _ _ _ h => h) (by rfl) hHeld (fun w hSw => ?_) ?_
  rotate_left 1
  · (try dsimp only at hSw)
    have e0_ := (bS.grown hSw).c0
    have e1_ := (bS.grown hSw).c1
    have e2_ := (bS.grown hSw).c2
    have e3_ := (b2.grown hSw).c0
    have e4_ := (b2.grown hSw).c1
    clear hSw
    go_simp
    try with_reducible rfl
  simp only [List.set_cons_succ, List.set_cons_zero]
  refine takeL 3 34 (v := ?_) rfl rfl (by kernel_rfl) (by kernel_rfl) (by kernel_rfl) (fun _ _ _ h => h) (by rfl) hHeld (fun w hSw => ?_) ?_
  rotate_left 1
  · (try dsimp only at hSw)
    clear hSw
    go_simp
    try with_reducible rfl
  simp only [List.set_cons_succ, List.set_cons_zero]
  refine takeL 4 35 (v := ?_) rfl rfl (by kernel_rfl) (by kernel_rfl) (by kernel_rfl) (fun _ _ _ h => h) (by rfl) hHeld (fun w hSw => ?_) ?_
  rotate_left 1
  · (try dsimp only at hSw)
    have e0_ := (bS.grown hSw).c0
    have e1_ := (bS.grown hSw).c1
    have e2_ := (bS.grown hSw).c2
    have e3_ := (b2.grown hSw).c0
    have e4_ := (b2.grown hSw).c1
    clear hSw
    go_simp
    try with_reducible rfl
  simp only [List.set_cons_succ, List.set_cons_zero]
  refine takeL 5 36 (v := ?_) rfl rfl (by kernel_rfl) (by kernel_rfl) (by kernel_rfl) (fun _ _ _ h => h) (by rfl) hHeld (fun w hSw => ?_) ?_
  rotate_left 1
  · (try dsimp only at hSw)
    clear hSw
    go_simp
    try with_reducible rfl
  simp only [List.set_cons_succ, List.set_cons_zero]
  refine onlyL 6 rfl (by kernel_rfl) (by rfl) (fun K hK => ?_)
  go_wp2_with fail
  refine (rflow_at sub ny hny rfl rfl rfl _).mono ?_
  rintro e wq1_ ⟨⟨xf, cf, rfl, sf, hcf, -, -⟩, hb⟩
  replace hb := (Below.refl _ _).drew.trans hb
  replace bS := bS.grown hb
  replace b2 := b2.grown hb
  replace sy := sy.below hb
  replace hB := hB.trans (hb.mono hB.size)
  refine hK.out _ _ hb (fun _ => ?_)
  clear hK K hHeld
  refine held_more (S' := fun w' => Below wq1_.heap.size wq1_ w') (fun _ h => hb.trans (h.mono hb.size)) _ _ _ _ ?_
  have hHeld := Below.refl wq1_.heap.size wq1_
  clear hb
  refine onlyL 7 rfl (by kernel_rfl) (by rfl) (fun K hK => ?_)
  go_wp2_with fail
  refine (rxor ys (flowL sub ny) y xf ny ny d cf (by omega) (by omega) _ sy sf).mono ?_
  rintro e wq2_ ⟨⟨z, l, cz, rfl, sz, hcz, -, -⟩, hb⟩
  rw [HX.out] at sz
  obtain rfl : ny = l := by rw [← sz.1, hml]
  replace bS := bS.grown hb
  replace b2 := b2.grown hb
  replace sy := sy.below hb
  replace sf := sf.below hb
  replace hB := hB.trans (hb.mono hB.size)
  refine hK.out _ _ hb (fun _ => ?_)
  clear hK K hHeld
  refine held_more (S' := fun w' => Below wq2_.heap.size wq2_ w') (fun _ h => hb.trans (h.mono hb.size)) _ _ _ _ ?_
  have hHeld := Below.refl wq2_.heap.size wq2_
  clear hb
  refine takeA 8 8 38 rfl rfl rfl (by kernel_rfl) (by kernel_rfl) (by kernel_rfl) (fun _ _ _ h => h) (by rfl) hHeld rfl ?_
  simp only [List.set_cons_succ, List.set_cons_zero]
  refine takeL 9 9 (v := ?_) rfl rfl (by kernel_rfl) (by kernel_rfl) (by kernel_rfl) (fun _ _ _ h => h) (by rfl) hHeld (fun w hSw => ?_) ?_
  rotate_left 1
  · (try dsimp only at hSw)
    clear hSw
    go_simp
    try with_reducible rfl
  simp only [List.set_cons_succ, List.set_cons_zero]
  refine wpAnyH_done (by kernel_rfl) ?_ _
  go_wp2
  go_ret2
  exact ⟨z, cz, rfl, sz, hB⟩

set_option maxRecDepth 10000 in
set_option maxHeartbeats 1000000 in
theorem ropen_no : OpenNo 27 := by
  intro key n xs ys x y nx ny c d t hnx hny ht bx by_ _ _ xnil ynil w sx sy
  obtain ⟨sub, HS⟩ : ∃ sub, Hid (subP key n = sub) := ⟨_, rfl⟩
  rw [HS.out] at ht
  have heq := eq32
  have hne : (nv (tagP sub xs ys).1 == nv t.1 && nv (tagP sub xs ys).2 == nv t.2) = false := by
    rw [pair_eq_of]
    exact decide_eq_false ht
  go_enter Try.func27, Try.ntmps27
  go_wp2_with fail
  have b0 := Box.new w (nv key.1) (nv key.2)
  have bS := SBox.new ((w.alloc (.cells #[.int .u64 (nv key.1), .int .u64 (nv key.2)] 30)).alloc (.cells #[.int .u32 (nv32 n.1), .int .u32 (nv32 n.2.1), .int .u64 (nv n.2.2)] 35)) (.slice y ny d) (nv t.1) (nv t.2)
  have hB : Below w.heap.size w (((w.alloc (.cells #[.int .u64 (nv key.1), .int .u64 (nv key.2)] 30)).alloc (.cells #[.int .u32 (nv32 n.1), .int .u32 (nv32 n.2.1), .int .u64 (nv n.2.2)] 35)).alloc (.cells #[.slice y ny d, .int .u64 (nv t.1), .int .u64 (nv t.2)] 32)) := by go_grown
  simp only [World.size_alloc] at bS
  generalize ((w.alloc (.cells #[.int .u64 (nv key.1), .int .u64 (nv key.2)] 30)).alloc (.cells #[.int .u32 (nv32 n.1), .int .u32 (nv32 n.2.1), .int .u64 (nv n.2.2)] 35)).alloc (.cells #[.slice y ny d, .int .u64 (nv t.1), .int .u64 (nv t.2)] 32) = W1 at *
  replace sx := sx.below hB
  replace sy := sy.below hB
  clear b0
  refine (rsub_of key n HS.out _).mono ?_
  rintro e w1 ⟨rfl, hb⟩
  replace bS := bS.grown hb
  replace sx := sx.below hb
  replace sy := sy.below hb
  replace hB := hB.trans (hb.mono hB.size)
  clear hb
  go_wp2_with fail
  have hb : Below w1.heap.size w1 (w1.alloc (.cells #[.int .u64 (nv sub.1), .int .u64 (nv sub.2)] 30)) := (Below.refl _ _).alloc (Nat.le_refl _) _
  have b2 := Box.new w1 (nv sub.1) (nv sub.2)
  replace bS := bS.grown hb
  replace sx := sx.below hb
  replace sy := sy.below hb
  replace hB := hB.trans (hb.mono hB.size)
  clear hb
  generalize w1.alloc (.cells #[.int .u64 (nv sub.1), .int .u64 (nv sub.2)] 30) = w2 at *
  generalize w1.heap.size = A at *
  refine wp_region_held_drew (S := fun w' => Below w2.heap.size w2 w') (by kernel_rfl) (Below.refl _ _).drew (fun hHeld => ?_)
  refine takeL 0 23 (v := ?_) rfl rfl (by kernel_rfl) (by kernel_rfl) (by kernel_rfl) (fun _ _ _ h => h) (by rfl) hHeld (fun w hSw => ?_) ?_
  rotate_left 1
  · (try dsimp only at hSw)
    have e0_ := (bS.grown hSw).c0
    have e1_ := (bS.grown hSw).c1
    have e2_ := (bS.grown hSw).c2
    have e3_ := (b2.grown hSw).c0
    have e4_ := (b2.grown hSw).c1
    clear hSw
    go_simp
    try with_reducible rfl
  simp only [List.set_cons_succ, List.set_cons_zero]
  refine takeM 1 24 2 rfl rfl rfl (by kernel_rfl) (by kernel_rfl) (by kernel_rfl) (fun _ _ _ h => h) (by rfl) hHeld rfl ?_
  simp only [List.set_cons_succ, List.set_cons_zero]
  refine takeL 2 25 (v := ?_) rfl rfl (by kernel_rfl) (by kernel_rfl) (by kernel_rfl) (fun _ _ _ h => h) (by rfl) hHeld (fun w hSw => ?_) ?_
  rotate_left 1
  · (try dsimp only at hSw)
    clear hSw
    go_simp
    try with_reducible rfl
  simp only [List.set_cons_succ, List.set_cons_zero]
  refine takeL 3 26 (v := ?_) rfl rfl (by kernel_rfl) (by kernel_rfl) (by kernel_rfl) (fun _ _ _ h => h) (by rfl) hHeld (fun w hSw => ?_) ?_
  rotate_left 1
  · (try dsimp only at hSw)
    have e0_ := (bS.grown hSw).c0
    have e1_ := (bS.grown hSw).c1
    have e2_ := (bS.grown hSw).c2
    have e3_ := (b2.grown hSw).c0
    have e4_ := (b2.grown hSw).c1
    clear hSw
    go_simp
    try with_reducible rfl
  simp only [List.set_cons_succ, List.set_cons_zero]
  refine takeL 5 28 (v := ?_) rfl rfl (by kernel_rfl) (by kernel_rfl) (by kernel_rfl) (fun _ _ _ h => h) (by rfl) hHeld (fun w hSw => ?_) ?_
  rotate_left 1
  · (try dsimp only at hSw)
    clear hSw
    go_simp
    try with_reducible rfl
  simp only [List.set_cons_succ, List.set_cons_zero]
  refine takeL 6 29 (v := ?_) rfl rfl (by kernel_rfl) (by kernel_rfl) (by kernel_rfl) (fun _ _ _ h => h) (by rfl) hHeld (fun w hSw => ?_) ?_
  rotate_left 1
  · (try dsimp only at hSw)
    have e0_ := (bS.grown hSw).c0
    have e1_ := (bS.grown hSw).c1
    have e2_ := (bS.grown hSw).c2
    have e3_ := (b2.grown hSw).c0
    have e4_ := (b2.grown hSw).c1
    clear hSw
    go_simp
    try with_reducible rfl
  simp only [List.set_cons_succ, List.set_cons_zero]
  refine onlyL 4 rfl (by kernel_rfl) (by rfl) (fun K hK => ?_)
  go_wp2_with fail
  refine (rtag sub xs ys x y nx ny c d (by omega) (by omega) bx by_ xnil ynil _ sx.drew sy.drew).mono ?_
  rintro e wp1_ ⟨rfl, hb⟩
  replace hb := (Below.refl _ _).drew.trans hb
  replace bS := bS.grown hb
  replace b2 := b2.grown hb
  replace sx := sx.below hb
  replace sy := sy.below hb
  replace hB := hB.trans (hb.mono hB.size)
  refine hK.out _ _ hb (fun _ => ?_)
  clear hK K hHeld
  refine held_more (S' := fun w' => Below wp1_.heap.size wp1_ w') (fun _ h => hb.trans (h.mono hb.size)) _ _ _ _ ?_
  have hHeld := Below.refl wp1_.heap.size wp1_
  clear hb
  refine takeL 7 30 (v := ?_) rfl rfl (by kernel_rfl) (by kernel_rfl) (by kernel_rfl) (fun _ _ _ h => h) (by rfl) hHeld (fun w hSw => ?_) ?_
  rotate_left 1
  · (try dsimp only at hSw)
    clear hSw
    go_simp
    try with_reducible rfl
  simp only [List.set_cons_succ, List.set_cons_zero]
  refine wpAnyH_done (by kernel_rfl) ?_ _
  go_wp2
  go_ret2
  exact ⟨⟨_, _, rfl⟩, hB⟩

set_option maxHeartbeats 400000 in
theorem ropen_long : OpenLong 27 := by
  intro key n x y nx ny c d t1 t2 h w
  by_cases h1 : 4000 < nx
  · clear h
    go_enter Try.func27, Try.ntmps27
    go_wp2
    go_ret2
    exact ⟨⟨_, _, rfl⟩, by go_grown⟩
  · have h2 : 4000 < ny := by omega
    clear h
    go_enter Try.func27, Try.ntmps27
    go_wp2
    go_ret2
    exact ⟨⟨_, _, rfl⟩, by go_grown⟩
end Go.Proofs.Ytkkehbebaokdmaa
