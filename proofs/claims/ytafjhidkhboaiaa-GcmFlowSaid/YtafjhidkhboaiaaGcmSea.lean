/- Stage 5's walks. -/
import Derived.Test.YtafjhidkhboaiaaGcmLaws
namespace Go.Proofs.Ytafjhidkhboaiaa
open Go.RowKit

set_option maxRecDepth 10000 in
set_option maxHeartbeats 2000000 in
theorem seals_in (hT : TagIs 12) (hSi : SealIn 9) (hOy : OpenYes 15) (key : BitVec 64 × BitVec 64) (n : Nn) (xs ys : List Int) (x y : Option Addr) (nx ny c d : Nat) (hnx : nx ≤ 300) (hny : ny ≤ 300) (bx : Bytes xs) (by_ : Bytes ys) (hc : nx ≤ c) (hd : ny ≤ d) (xnil : x = none → nx = 0 ∧ c = 0) (ynil : y = none → ny = 0 ∧ d = 0) (w : World) (sx : SAt w x nx xs) (sy : SAt w y ny ys) : Calls Try.prog 3 #[.agg #[.int .u64 (nv key.1), .int .u64 (nv key.2)], .agg #[.int .u32 (nv32 n.1), .int .u32 (nv32 n.2.1), .int .u64 (nv n.2.2)], .slice x nx c, .slice y ny d] w fun e w' => e = .returned (.bool true) ∧ Below w.heap.size w w' := by
  obtain ⟨sub, HS⟩ : ∃ sub, Hid (subP key n = sub) := ⟨_, rfl⟩
  obtain ⟨ms, HM⟩ : ∃ ms, Hid (mixL sub ys = ms) := ⟨_, rfl⟩
  obtain ⟨t, HT⟩ : ∃ t, Hid (tagP sub xs ms = t) := ⟨_, rfl⟩
  have hml : ms.length = ny := by rw [← HM.out, mixL_length, sy.1]
  have hmb : Bytes ms := by rw [← HM.out]; exact mixL_bytes sub by_
  have heq := eq32
  go_enter Try.func3, Try.ntmps3
  go_wp2_with fail
  have b0 := (Box.new w (nv key.1) (nv key.2)).alloc (.cells #[.int .u32 (nv32 n.1), .int .u32 (nv32 n.2.1), .int .u64 (nv n.2.2)] 27)
  have b1 := NBox.new (w.alloc (.cells #[.int .u64 (nv key.1), .int .u64 (nv key.2)] 24)) n
  have hB : Below w.heap.size w ((w.alloc (.cells #[.int .u64 (nv key.1), .int .u64 (nv key.2)] 24)).alloc (.cells #[.int .u32 (nv32 n.1), .int .u32 (nv32 n.2.1), .int .u64 (nv n.2.2)] 27)) := by go_grown
  simp only [World.size_alloc] at b1
  generalize (w.alloc (.cells #[.int .u64 (nv key.1), .int .u64 (nv key.2)] 24)).alloc (.cells #[.int .u32 (nv32 n.1), .int .u32 (nv32 n.2.1), .int .u64 (nv n.2.2)] 27) = W1 at *
  replace sx := sx.below hB
  replace sy := sy.below hB
  refine (seal_at hSi key n rfl rfl rfl rfl rfl xs ys x y nx ny c d (by omega) (by omega) HS.out HM.out HT.out bx by_ hc hd xnil ynil _ sx sy).mono ?_
  rintro e w1 ⟨⟨z, cz, rfl, sz, hcz, -, znil⟩, hb⟩
  replace b0 := b0.grown hb
  replace b1 := b1.grown hb
  replace sx := sx.below hb
  replace sy := sy.below hb
  replace hB := hB.trans (hb.mono hB.size)
  clear hb
  have hb : Below w1.heap.size w1 (w1.alloc (.cells #[.slice z ny cz, .int .u64 (nv t.1), .int .u64 (nv t.2)] 30)) := (Below.refl _ _).alloc (Nat.le_refl _) _
  have bS := SBox.new w1 (.slice z ny cz) (nv t.1) (nv t.2)
  replace b0 := b0.grown hb
  replace b1 := b1.grown hb
  replace sx := sx.below hb
  replace sy := sy.below hb
  replace sz := sz.below hb
  replace hB := hB.trans (hb.mono hB.size)
  clear hb
  have ey0 := b0.c0
  have ey1 := b0.c1
  have ey2 := b1.c0
  have ey3 := b1.c1
  have ey4 := b1.c2
  have ey5 := bS.c0
  have ey6 := bS.c1
  have ey7 := bS.c2
  go_wp2_with fail
  clear ey0 ey1 ey2 ey3 ey4 ey5 ey6 ey7
  generalize w1.alloc (.cells #[.slice z ny cz, .int .u64 (nv t.1), .int .u64 (nv t.2)] 30) = w2 at *
  generalize w1.heap.size = A at *
  refine (seal_at rseal_in key n rfl rfl rfl rfl rfl xs ys x y nx ny c d (by omega) (by omega) HS.out HM.out HT.out bx by_ hc hd xnil ynil _ sx sy).mono ?_
  rintro e w3 ⟨⟨z2, cz2, rfl, sz2, hcz2, -, znil2⟩, hb⟩
  replace b0 := b0.grown hb
  replace b1 := b1.grown hb
  replace sx := sx.below hb
  replace sy := sy.below hb
  replace sz := sz.below hb
  replace bS := bS.grown hb
  replace hB := hB.trans (hb.mono hB.size)
  clear hb
  have hb : Below w3.heap.size w3 (w3.alloc (.cells #[.slice z2 ny cz2, .int .u64 (nv t.1), .int .u64 (nv t.2)] 30)) := (Below.refl _ _).alloc (Nat.le_refl _) _
  have bT := SBox.new w3 (.slice z2 ny cz2) (nv t.1) (nv t.2)
  replace b0 := b0.grown hb
  replace b1 := b1.grown hb
  replace sx := sx.below hb
  replace sy := sy.below hb
  replace sz := sz.below hb
  replace bS := bS.grown hb
  replace sz2 := sz2.below hb
  replace hB := hB.trans (hb.mono hB.size)
  clear hb
  have ey0 := b0.c0
  have ey1 := b0.c1
  have ey2 := b1.c0
  have ey3 := b1.c1
  have ey4 := b1.c2
  have ey5 := bS.c0
  have ey6 := bS.c1
  have ey7 := bS.c2
  have ey8 := bT.c0
  have ey9 := bT.c1
  have ey10 := bT.c2
  go_wp2_with fail
  clear ey0 ey1 ey2 ey3 ey4 ey5 ey6 ey7 ey8 ey9 ey10
  generalize w3.alloc (.cells #[.slice z2 ny cz2, .int .u64 (nv t.1), .int .u64 (nv t.2)] 30) = w4 at *
  generalize w3.heap.size = A2 at *
  refine wp_region_held_drew (S := fun w' => Below w4.heap.size w4 w') (by kernel_rfl) (Below.refl _ _).drew (fun hHeld => ?_)
  refine takeM 0 37 10 rfl rfl rfl (by kernel_rfl) (by kernel_rfl) (by kernel_rfl) (fun _ _ _ h => h) (by rfl) hHeld rfl ?_
  simp only [List.set_cons_succ, List.set_cons_zero]
  refine takeM 1 38 12 rfl rfl rfl (by kernel_rfl) (by kernel_rfl) (by kernel_rfl) (fun _ _ _ h => h) (by rfl) hHeld rfl ?_
  simp only [List.set_cons_succ, List.set_cons_zero]
  refine takeL 2 39 (v := ?_) rfl rfl (by kernel_rfl) (by kernel_rfl) (by kernel_rfl) (fun _ _ _ h => h) (by rfl) hHeld (fun w hSw => ?_) ?_
  rotate_left 1
  · (try dsimp only at hSw)
    clear hSw
    go_simp
    try with_reducible rfl
  simp only [List.set_cons_succ, List.set_cons_zero]
  refine takeM 3 40 39 rfl rfl rfl (by kernel_rfl) (by kernel_rfl) (by kernel_rfl) (fun _ _ _ h => h) (by rfl) hHeld rfl ?_
  simp only [List.set_cons_succ, List.set_cons_zero]
  refine takeL 4 41 (v := ?_) rfl rfl (by kernel_rfl) (by kernel_rfl) (by kernel_rfl) (fun _ _ _ h => h) (by rfl) hHeld (fun w hSw => ?_) ?_
  rotate_left 1
  · (try dsimp only at hSw)
    have e0_ := (b0.grown hSw).c0
    have e1_ := (b0.grown hSw).c1
    have e2_ := (b1.grown hSw).c0
    have e3_ := (b1.grown hSw).c1
    have e4_ := (b1.grown hSw).c2
    have e5_ := (bS.grown hSw).c0
    have e6_ := (bS.grown hSw).c1
    have e7_ := (bS.grown hSw).c2
    have e8_ := (bT.grown hSw).c0
    have e9_ := (bT.grown hSw).c1
    have e10_ := (bT.grown hSw).c2
    clear hSw
    go_simp
    try with_reducible rfl
  simp only [List.set_cons_succ, List.set_cons_zero]
  refine takeL 5 42 (v := ?_) rfl rfl (by kernel_rfl) (by kernel_rfl) (by kernel_rfl) (fun _ _ _ h => h) (by rfl) hHeld (fun w hSw => ?_) ?_
  rotate_left 1
  · (try dsimp only at hSw)
    have e0_ := (b0.grown hSw).c0
    have e1_ := (b0.grown hSw).c1
    have e2_ := (b1.grown hSw).c0
    have e3_ := (b1.grown hSw).c1
    have e4_ := (b1.grown hSw).c2
    have e5_ := (bS.grown hSw).c0
    have e6_ := (bS.grown hSw).c1
    have e7_ := (bS.grown hSw).c2
    have e8_ := (bT.grown hSw).c0
    have e9_ := (bT.grown hSw).c1
    have e10_ := (bT.grown hSw).c2
    clear hSw
    go_simp
    try with_reducible rfl
  simp only [List.set_cons_succ, List.set_cons_zero]
  refine onlyL 6 rfl (by kernel_rfl) (by rfl) (fun K hK => ?_)
  go_wp2_with fail
  refine (rsame t ms z z2 ny cz cz2 _ sz.drew sz2.drew).mono ?_
  rintro e wq1_ ⟨rfl, hb⟩
  replace hb := (Below.refl _ _).drew.trans hb
  replace b0 := b0.grown hb
  replace b1 := b1.grown hb
  replace sx := sx.below hb
  replace sy := sy.below hb
  replace sz := sz.below hb
  replace bS := bS.grown hb
  replace sz2 := sz2.below hb
  replace bT := bT.grown hb
  replace hB := hB.trans (hb.mono hB.size)
  refine hK.out _ _ hb (fun _ => ?_)
  clear hK K hHeld
  refine held_more (S' := fun w' => Below wq1_.heap.size wq1_ w') (fun _ h => hb.trans (h.mono hb.size)) _ _ _ _ ?_
  have hHeld := Below.refl wq1_.heap.size wq1_
  clear hb
  refine takeL 7 44 (v := ?_) rfl rfl (by kernel_rfl) (by kernel_rfl) (by kernel_rfl) (fun _ _ _ h => h) (by rfl) hHeld (fun w hSw => ?_) ?_
  rotate_left 1
  · (try dsimp only at hSw)
    clear hSw
    go_simp
    try with_reducible rfl
  simp only [List.set_cons_succ, List.set_cons_zero]
  refine takeM 8 45 44 rfl rfl rfl (by kernel_rfl) (by kernel_rfl) (by kernel_rfl) (fun _ _ _ h => h) (by rfl) hHeld rfl ?_
  simp only [List.set_cons_succ, List.set_cons_zero]
  refine takeL 9 46 (v := ?_) rfl rfl (by kernel_rfl) (by kernel_rfl) (by kernel_rfl) (fun _ _ _ h => h) (by rfl) hHeld (fun w hSw => ?_) ?_
  rotate_left 1
  · (try dsimp only at hSw)
    have e0_ := (b0.grown hSw).c0
    have e1_ := (b0.grown hSw).c1
    have e2_ := (b1.grown hSw).c0
    have e3_ := (b1.grown hSw).c1
    have e4_ := (b1.grown hSw).c2
    have e5_ := (bS.grown hSw).c0
    have e6_ := (bS.grown hSw).c1
    have e7_ := (bS.grown hSw).c2
    have e8_ := (bT.grown hSw).c0
    have e9_ := (bT.grown hSw).c1
    have e10_ := (bT.grown hSw).c2
    clear hSw
    go_simp
    try with_reducible rfl
  simp only [List.set_cons_succ, List.set_cons_zero]
  refine takeM 10 47 2 rfl rfl rfl (by kernel_rfl) (by kernel_rfl) (by kernel_rfl) (fun _ _ _ h => h) (by rfl) hHeld rfl ?_
  simp only [List.set_cons_succ, List.set_cons_zero]
  refine takeM 11 48 3 rfl rfl rfl (by kernel_rfl) (by kernel_rfl) (by kernel_rfl) (fun _ _ _ h => h) (by rfl) hHeld rfl ?_
  simp only [List.set_cons_succ, List.set_cons_zero]
  refine takeL 13 50 (v := ?_) rfl rfl (by kernel_rfl) (by kernel_rfl) (by kernel_rfl) (fun _ _ _ h => h) (by rfl) hHeld (fun w hSw => ?_) ?_
  rotate_left 1
  · (try dsimp only at hSw)
    have e0_ := (b0.grown hSw).c0
    have e1_ := (b0.grown hSw).c1
    have e2_ := (b1.grown hSw).c0
    have e3_ := (b1.grown hSw).c1
    have e4_ := (b1.grown hSw).c2
    have e5_ := (bS.grown hSw).c0
    have e6_ := (bS.grown hSw).c1
    have e7_ := (bS.grown hSw).c2
    have e8_ := (bT.grown hSw).c0
    have e9_ := (bT.grown hSw).c1
    have e10_ := (bT.grown hSw).c2
    clear hSw
    go_simp
    try with_reducible rfl
  simp only [List.set_cons_succ, List.set_cons_zero]
  refine takeM 14 51 2 rfl rfl rfl (by kernel_rfl) (by kernel_rfl) (by kernel_rfl) (fun _ _ _ h => h) (by rfl) hHeld rfl ?_
  simp only [List.set_cons_succ, List.set_cons_zero]
  refine takeM 15 52 3 rfl rfl rfl (by kernel_rfl) (by kernel_rfl) (by kernel_rfl) (fun _ _ _ h => h) (by rfl) hHeld rfl ?_
  simp only [List.set_cons_succ, List.set_cons_zero]
  refine onlyL 12 rfl (by kernel_rfl) (by rfl) (fun K hK => ?_)
  go_wp2_with fail
  refine (hT key xs ys x y nx ny c d (by omega) (by omega) hc hd bx by_ xnil ynil _ sx sy).mono ?_
  rintro e wq2_ ⟨rfl, hb⟩
  replace b0 := b0.grown hb
  replace b1 := b1.grown hb
  replace sx := sx.below hb
  replace sy := sy.below hb
  replace sz := sz.below hb
  replace bS := bS.grown hb
  replace sz2 := sz2.below hb
  replace bT := bT.grown hb
  replace hB := hB.trans (hb.mono hB.size)
  refine hK.out _ _ hb (fun _ => ?_)
  clear hK K hHeld
  refine held_more (S' := fun w' => Below wq2_.heap.size wq2_ w') (fun _ h => hb.trans (h.mono hb.size)) _ _ _ _ ?_
  have hHeld := Below.refl wq2_.heap.size wq2_
  clear hb
  refine onlyL 16 rfl (by kernel_rfl) (by rfl) (fun K hK => ?_)
  go_wp2_with fail
  refine (rtag key xs ys x y nx ny c d (by omega) (by omega) bx by_ xnil ynil _ sx sy).mono ?_
  rintro e wq3_ ⟨rfl, hb⟩
  replace b0 := b0.grown hb
  replace b1 := b1.grown hb
  replace sx := sx.below hb
  replace sy := sy.below hb
  replace sz := sz.below hb
  replace bS := bS.grown hb
  replace sz2 := sz2.below hb
  replace bT := bT.grown hb
  replace hB := hB.trans (hb.mono hB.size)
  refine hK.out _ _ hb (fun _ => ?_)
  clear hK K hHeld
  refine held_more (S' := fun w' => Below wq3_.heap.size wq3_ w') (fun _ h => hb.trans (h.mono hb.size)) _ _ _ _ ?_
  have hHeld := Below.refl wq3_.heap.size wq3_
  clear hb
  refine takeL 17 54 (v := ?_) rfl rfl (by kernel_rfl) (by kernel_rfl) (by kernel_rfl) (fun _ _ _ h => h) (by rfl) hHeld (fun w hSw => ?_) ?_
  rotate_left 1
  · (try dsimp only at hSw)
    clear hSw
    go_simp
    try with_reducible rfl
  simp only [List.set_cons_succ, List.set_cons_zero]
  refine takeL 18 55 (v := ?_) rfl rfl (by kernel_rfl) (by kernel_rfl) (by kernel_rfl) (fun _ _ _ h => h) (by rfl) hHeld (fun w hSw => ?_) ?_
  rotate_left 1
  · (try dsimp only at hSw)
    clear hSw
    go_simp
    try with_reducible rfl
  simp only [List.set_cons_succ, List.set_cons_zero]
  refine takeM 19 56 55 rfl rfl rfl (by kernel_rfl) (by kernel_rfl) (by kernel_rfl) (fun _ _ _ h => h) (by rfl) hHeld rfl ?_
  simp only [List.set_cons_succ, List.set_cons_zero]
  refine onlyL 20 rfl (by kernel_rfl) (by rfl) (fun K hK => ?_)
  go_wp2_with fail
  refine (known_true hSi hOy _).mono ?_
  rintro e wq4_ ⟨rfl, hb⟩
  replace b0 := b0.grown hb
  replace b1 := b1.grown hb
  replace sx := sx.below hb
  replace sy := sy.below hb
  replace sz := sz.below hb
  replace bS := bS.grown hb
  replace sz2 := sz2.below hb
  replace bT := bT.grown hb
  replace hB := hB.trans (hb.mono hB.size)
  refine hK.out _ _ hb (fun _ => ?_)
  clear hK K hHeld
  refine held_more (S' := fun w' => Below wq4_.heap.size wq4_ w') (fun _ h => hb.trans (h.mono hb.size)) _ _ _ _ ?_
  have hHeld := Below.refl wq4_.heap.size wq4_
  clear hb
  refine takeL 21 58 (v := ?_) rfl rfl (by kernel_rfl) (by kernel_rfl) (by kernel_rfl) (fun _ _ _ h => h) (by rfl) hHeld (fun w hSw => ?_) ?_
  rotate_left 1
  · (try dsimp only at hSw)
    clear hSw
    go_simp
    try with_reducible rfl
  simp only [List.set_cons_succ, List.set_cons_zero]
  refine takeA 22 8 58 rfl rfl rfl (by kernel_rfl) (by kernel_rfl) (by kernel_rfl) (fun _ _ _ h => h) (by rfl) hHeld rfl ?_
  simp only [List.set_cons_succ, List.set_cons_zero]
  refine wpAnyH_done (by kernel_rfl) ?_ _
  go_wp2
  go_ret
  exact ⟨rfl, hB⟩

end Go.Proofs.Ytafjhidkhboaiaa
