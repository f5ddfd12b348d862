/- GcmImpl SpkSaid SpkImpl DigStepI: texts laid together. -/
import Derived.Test.YtkbhkgfchiacbaaM17
import Derived.Test.YtkbhkgfchiacbaaM05
import Derived.Test.YtkbhkgfchiacbaaM07

/- What the program's gcm.Seal and gcm.Open come to, where gcm.Tag and flow are the document's. -/
namespace Go.Proofs.Ytkbhkgfchiacbaa
open Go.RowKit
set_option maxRecDepth 20000

theorem sub_of (hS : SubSaid) (key : BitVec 64 × BitVec 64) (n : Nn) {q : BitVec 64 × BitVec 64} (h : subP key n = q) (w : World) : Calls Try.prog 44 #[.agg #[.int .u64 (nv key.1), .int .u64 (nv key.2)], .agg #[.int .u32 (nv32 n.1), .int .u32 (nv32 n.2.1), .int .u64 (nv n.2.2)]] w fun e w' => e = .returned (.agg #[.int .u64 (nv q.1), .int .u64 (nv q.2)]) ∧ Below w.heap.size w w' := h ▸ hS key n w

theorem fits_yes (x y : Option Addr) (nx ny c d : Nat) (hx : nx ≤ 4000) (hy : ny ≤ 4000) (w : World) : Calls Try.prog 43 #[.slice x nx c, .slice y ny d] w fun e w' => e = .returned (.bool true) ∧ w' = w := by
  go_enter Try.func43, Try.ntmps43
  go_wp2
  go_ret
  exact ⟨congrArg (fun b => Ending.returned (.bool b)) (decide_eq_true (by omega)), rfl⟩
theorem fits_no (x y : Option Addr) (nx ny c d : Nat) (h : 4000 < nx ∨ 4000 < ny) (w : World) : Calls Try.prog 43 #[.slice x nx c, .slice y ny d] w fun e w' => e = .returned (.bool false) ∧ w' = w := by
  by_cases h1 : 4000 < nx
  · clear h
    go_enter Try.func43, Try.ntmps43
    go_wp2
    go_ret
    exact ⟨rfl, rfl⟩
  · have h2 : 4000 < ny := by omega
    have h3 : nx ≤ 4000 := by omega
    clear h h1
    go_enter Try.func43, Try.ntmps43
    go_wp2
    go_ret
    exact ⟨congrArg (fun b => Ending.returned (.bool b)) (decide_eq_false (by omega)), rfl⟩

set_option maxHeartbeats 400000 in
theorem iveil (hF : FlowSaid) (hX : XorSaid) (sub : BitVec 64 × BitVec 64) (ys : List Int) (y : Option Addr) (ny d : Nat) (hny : ny ≤ 4000) (by_ : Bytes ys) (hd : ny ≤ d) (w : World) (sy : SAt w y ny ys) : Calls Try.prog 45 #[.agg #[.int .u64 (nv sub.1), .int .u64 (nv sub.2)], .slice y ny d] w fun e w' => (∃ z cz, e = .returned (.slice z ny cz) ∧ SAt w' z ny (mixL sub ys) ∧ ny ≤ cz ∧ cz ≤ maxLen ∧ (z = none → ny = 0 ∧ cz = 0)) ∧ Below w.heap.size w w' := by
  obtain ⟨ms, HM⟩ : ∃ ms, Hid (mixL sub ys = ms) := ⟨_, rfl⟩
  have HX : Hid (xorL ys (flowL sub ny) = ms) := by rw [← HM.out, mixL, sy.1]; exact hide' rfl
  have hml : ms.length = ny := by rw [← HM.out, mixL_length, sy.1]
  rw [HM.out]
  go_enter Try.func45, Try.ntmps45
  go_wp2_with fail
  have hB : Below w.heap.size w (w.alloc (.cells #[.int .u64 (nv sub.1), .int .u64 (nv sub.2)] 34)) := by go_grown
  generalize w.alloc (.cells #[.int .u64 (nv sub.1), .int .u64 (nv sub.2)] 34) = W1 at *
  replace sy := sy.below hB
  refine (flow_in hF sub ny hny rfl rfl rfl _).mono ?_
  rintro e w3 ⟨⟨xf, cf, rfl, sf, hcf, -, -⟩, hb⟩
  replace sy := sy.below hb
  replace hB := hB.trans (hb.mono hB.size)
  clear hb
  go_wp2_with fail
  refine (hX ys (flowL sub ny) y xf ny ny d cf (by omega) (by omega) hd hcf by_ (flowL_bytes _ _) _ sy sf).mono ?_
  rintro e w4 ⟨⟨z, l, cz, rfl, sz, hcz, hcm, znil⟩, hb⟩
  replace hB := hB.trans (hb.mono hB.size)
  clear hb sy sf
  rw [HX.out] at sz
  obtain rfl : ny = l := by rw [← sz.1, hml]
  go_wp2
  go_ret
  exact ⟨⟨z, cz, rfl, sz, hcz, hcm, znil⟩, hB⟩

set_option maxRecDepth 10000 in
set_option maxHeartbeats 1000000 in
theorem iseal_in (hS : SubSaid) (hF : FlowSaid) (hX : XorSaid) (hT : TagIs 46) : SealIn 30 := by
  intro key n xs ys x y nx ny c d hnx hny bx by_ hc hd xnil _ w sx sy
  obtain ⟨sub, HS⟩ : ∃ sub, Hid (subP key n = sub) := ⟨_, rfl⟩
  obtain ⟨ms, HM⟩ : ∃ ms, Hid (mixL sub ys = ms) := ⟨_, rfl⟩
  obtain ⟨t, HT⟩ : ∃ t, Hid (tagP sub xs ms = t) := ⟨_, rfl⟩
  have hmb : Bytes ms := by rw [← HM.out]; exact mixL_bytes sub by_
  rw [HS.out, HM.out, HT.out]
  go_enter Try.func30, Try.ntmps30
  go_wp2_with fail
  have b0 := ((Box.new w (nv key.1) (nv key.2)).alloc (.cells #[.int .u32 (nv32 n.1), .int .u32 (nv32 n.2.1), .int .u64 (nv n.2.2)] 74)).alloc (.cells #[.slice none 0 0, .int .u64 0, .int .u64 0] 76)
  have bR := SBox.new ((w.alloc (.cells #[.int .u64 (nv key.1), .int .u64 (nv key.2)] 34)).alloc (.cells #[.int .u32 (nv32 n.1), .int .u32 (nv32 n.2.1), .int .u64 (nv n.2.2)] 74)) (.slice none 0 0) 0 0
  have bN := (NBox.new (w.alloc (.cells #[.int .u64 (nv key.1), .int .u64 (nv key.2)] 34)) n).alloc (.cells #[.slice none 0 0, .int .u64 0, .int .u64 0] 76)
  have hB : Below w.heap.size w (((w.alloc (.cells #[.int .u64 (nv key.1), .int .u64 (nv key.2)] 34)).alloc (.cells #[.int .u32 (nv32 n.1), .int .u32 (nv32 n.2.1), .int .u64 (nv n.2.2)] 74)).alloc (.cells #[.slice none 0 0, .int .u64 0, .int .u64 0] 76)) := by go_grown
  simp only [World.size_alloc] at bR bN
  generalize ((w.alloc (.cells #[.int .u64 (nv key.1), .int .u64 (nv key.2)] 34)).alloc (.cells #[.int .u32 (nv32 n.1), .int .u32 (nv32 n.2.1), .int .u64 (nv n.2.2)] 74)).alloc (.cells #[.slice none 0 0, .int .u64 0, .int .u64 0] 76) = W1 at *
  replace sx := sx.below hB
  replace sy := sy.below hB
  refine (fits_yes x y nx ny c d hnx hny _).mono ?_
  rintro e _ ⟨rfl, rfl⟩
  have k0 := b0.c0
  have k1 := b0.c1
  have k2 := bN.c0
  have k3 := bN.c1
  have k4 := bN.c2
  go_wp2_with fail
  clear k0 k1 k2 k3 k4
  refine (sub_of hS key n HS.out _).mono ?_
  rintro e w1 ⟨rfl, hb⟩
  replace bR := bR.grown hb
  replace sx := sx.below hb
  replace sy := sy.below hb
  replace hB := hB.trans (hb.mono hB.size)
  clear hb b0 bN
  go_wp2_with fail
  have hb : Below w1.heap.size w1 (w1.alloc (.cells #[.int .u64 (nv sub.1), .int .u64 (nv sub.2)] 34)) := (Below.refl _ _).alloc (Nat.le_refl _) _
  have b2 := Box.new w1 (nv sub.1) (nv sub.2)
  replace bR := bR.grown hb
  replace sx := sx.below hb
  replace sy := sy.below hb
  replace hB := hB.trans (hb.mono hB.size)
  clear hb
  generalize w1.alloc (.cells #[.int .u64 (nv sub.1), .int .u64 (nv sub.2)] 34) = w2 at *
  generalize w1.heap.size = A at *
  refine (iveil hF hX sub ys y ny d hny by_ hd _ sy).mono ?_
  rintro e w4 ⟨⟨z, cz, rfl, sz, hcz, hcm, znil⟩, hb⟩
  have hz3 : w.heap.size + 1 + 1 + 1 ≤ w2.heap.size := bR.lt
  replace bR := bR.grown hb
  replace b2 := b2.grown hb
  replace sx := sx.below hb
  replace hB := hB.trans (hb.mono hB.size)
  clear hb sy
  rw [HM.out] at sz
  have q0 := b2.c0
  have q1 := b2.c1
  go_wp2_with fail
  clear q0 q1
  refine (hT sub xs ms x z nx ny c cz (by omega) (by omega) hc hcz bx hmb xnil znil _ sx sz).mono ?_
  rintro e w5 ⟨rfl, hb⟩
  replace bR := bR.grown hb
  replace sz := sz.below hb
  replace hB := hB.trans (hb.mono hB.size)
  clear hb sx b2
  rw [HT.out]
  have k0 := bR.c0
  have k1 := bR.c1
  have k2 := bR.c2
  have k3 := bR.frozen 0
  have k4 := bR.frozen 1
  have k5 := bR.frozen 2
  go_wp2
  have hB2 := (((hB.setCell (p := ⟨w.heap.size + 1 + 1, 0, none⟩) (by simp only; omega) (.slice z ny cz)).setCell (p := ⟨w.heap.size + 1 + 1, 1, none⟩) (by simp only; omega) (.int .u64 (nv t.1))).setCell (p := ⟨w.heap.size + 1 + 1, 2, none⟩) (by simp only; omega) (.int .u64 (nv t.2)))
  refine bodyPost_ret (v := .tuple #[.agg #[.slice z ny cz, .int .u64 (nv t.1), .int .u64 (nv t.2)], .bool true]) (by simp [results, Try.results30, go_sem, k0, k1, k2]) rfl ⟨z, cz, rfl, ?_, hcz, hcm, znil, hB2⟩
  exact sat_other sz bR _ _ _

set_option maxHeartbeats 400000 in
theorem iseal_out : SealOut 30 := by
  intro key n x y nx ny c d h w
  go_enter Try.func30, Try.ntmps30
  go_wp2_with fail
  refine (fits_no x y nx ny c d h _).mono ?_
  rintro e _ ⟨rfl, rfl⟩
  go_wp2
  refine bodyPost_ret (v := .tuple #[.agg #[.slice none 0 0, .int .u64 0, .int .u64 0], .bool false]) (by simp [results, Try.results30, go_sem]) rfl ⟨rfl, by go_grown⟩

set_option maxRecDepth 10000 in
set_option maxHeartbeats 1000000 in
theorem iopen_yes (hS : SubSaid) (hF : FlowSaid) (hX : XorSaid) (hT : TagIs 46) : OpenYes 31 := by
  intro key n xs ys x y nx ny c d t hnx hny ht bx by_ hc hd xnil ynil w sx sy
  obtain ⟨sub, HS⟩ : ∃ sub, Hid (subP key n = sub) := ⟨_, rfl⟩
  rw [HS.out] at ht
  have heq := eq32
  rw [HS.out]
  go_enter Try.func31, Try.ntmps31
  go_wp2_with fail
  have b0 := ((Box.new w (nv key.1) (nv key.2)).alloc (.cells #[.int .u32 (nv32 n.1), .int .u32 (nv32 n.2.1), .int .u64 (nv n.2.2)] 74)).alloc (.cells #[.slice y ny d, .int .u64 (nv t.1), .int .u64 (nv t.2)] 76)
  have bN := (NBox.new (w.alloc (.cells #[.int .u64 (nv key.1), .int .u64 (nv key.2)] 34)) n).alloc (.cells #[.slice y ny d, .int .u64 (nv t.1), .int .u64 (nv t.2)] 76)
  have bS := SBox.new ((w.alloc (.cells #[.int .u64 (nv key.1), .int .u64 (nv key.2)] 34)).alloc (.cells #[.int .u32 (nv32 n.1), .int .u32 (nv32 n.2.1), .int .u64 (nv n.2.2)] 74)) (.slice y ny d) (nv t.1) (nv t.2)
  have hB : Below w.heap.size w (((w.alloc (.cells #[.int .u64 (nv key.1), .int .u64 (nv key.2)] 34)).alloc (.cells #[.int .u32 (nv32 n.1), .int .u32 (nv32 n.2.1), .int .u64 (nv n.2.2)] 74)).alloc (.cells #[.slice y ny d, .int .u64 (nv t.1), .int .u64 (nv t.2)] 76)) := by go_grown
  simp only [World.size_alloc] at bS bN
  generalize ((w.alloc (.cells #[.int .u64 (nv key.1), .int .u64 (nv key.2)] 34)).alloc (.cells #[.int .u32 (nv32 n.1), .int .u32 (nv32 n.2.1), .int .u64 (nv n.2.2)] 74)).alloc (.cells #[.slice y ny d, .int .u64 (nv t.1), .int .u64 (nv t.2)] 76) = W1 at *
  replace sx := sx.below hB
  replace sy := sy.below hB
  refine (fits_yes x y nx ny c d hnx hny _).mono ?_
  rintro e _ ⟨rfl, rfl⟩
  have k0 := b0.c0
  have k1 := b0.c1
  have k2 := bN.c0
  have k3 := bN.c1
  have k4 := bN.c2
  go_wp2_with fail
  clear k0 k1 k2 k3 k4 b0 bN
  refine (sub_of hS key n HS.out _).mono ?_
  rintro e w1 ⟨rfl, hb⟩
  replace bS := bS.grown hb
  replace sx := sx.below hb
  replace sy := sy.below hb
  replace hB := hB.trans (hb.mono hB.size)
  clear hb
  go_wp2_with fail
  have hb : Below w1.heap.size w1 (w1.alloc (.cells #[.int .u64 (nv sub.1), .int .u64 (nv sub.2)] 34)) := (Below.refl _ _).alloc (Nat.le_refl _) _
  have b2 := Box.new w1 (nv sub.1) (nv sub.2)
  replace bS := bS.grown hb
  replace sx := sx.below hb
  replace sy := sy.below hb
  replace hB := hB.trans (hb.mono hB.size)
  clear hb
  generalize w1.alloc (.cells #[.int .u64 (nv sub.1), .int .u64 (nv sub.2)] 34) = w2 at *
  generalize w1.heap.size = A at *
  refine wp_region_held_drew (S := fun w' => Below w2.heap.size w2 w') (by kernel_rfl) (Below.refl _ _).drew (fun hHeld => ?_)
  refine takeL 0 19 (v := ?_) rfl rfl (by kernel_rfl) (by kernel_rfl) (by kernel_rfl) (fun _ _ _ h => h) (by rfl) hHeld (fun w hSw => ?_) ?_
  rotate_left 1
  · (try dsimp only at hSw)
    have e0_ := (bS.grown hSw).c0
    have e1_ := (bS.grown hSw).c1
    have e2_ := (bS.grown hSw).c2
    have e3_ := (b2.grown hSw).c0
    have e4_ := (b2.grown hSw).c1
    clear hSw
    go_simp
    try with_reducible rfl
  simp only [List.set_cons_succ, List.set_cons_zero]
  refine takeM 1 20 2 rfl rfl rfl (by kernel_rfl) (by kernel_rfl) (by kernel_rfl) (fun _ _ _ h => h) (by rfl) hHeld rfl ?_
  simp only [List.set_cons_succ, List.set_cons_zero]
  refine takeL 2 21 (v := ?_) rfl rfl (by kernel_rfl) (by kernel_rfl) (by kernel_rfl) (fun _ _ _ h => h) (by rfl) hHeld (fun w hSw => ?_) ?_
  rotate_left 1
  · (try dsimp only at hSw)
    clear hSw
    go_simp
    try with_reducible rfl
  simp only [List.set_cons_succ, List.set_cons_zero]
  refine takeL 3 22 (v := ?_) rfl rfl (by kernel_rfl) (by kernel_rfl) (by kernel_rfl) (fun _ _ _ h => h) (by rfl) hHeld (fun w hSw => ?_) ?_
  rotate_left 1
  · (try dsimp only at hSw)
    have e0_ := (bS.grown hSw).c0
    have e1_ := (bS.grown hSw).c1
    have e2_ := (bS.grown hSw).c2
    have e3_ := (b2.grown hSw).c0
    have e4_ := (b2.grown hSw).c1
    clear hSw
    go_simp
    try with_reducible rfl
  simp only [List.set_cons_succ, List.set_cons_zero]
  refine takeL 5 24 (v := ?_) rfl rfl (by kernel_rfl) (by kernel_rfl) (by kernel_rfl) (fun _ _ _ h => h) (by rfl) hHeld (fun w hSw => ?_) ?_
  rotate_left 1
  · (try dsimp only at hSw)
    clear hSw
    go_simp
    try with_reducible rfl
  simp only [List.set_cons_succ, List.set_cons_zero]
  refine takeL 6 25 (v := ?_) rfl rfl (by kernel_rfl) (by kernel_rfl) (by kernel_rfl) (fun _ _ _ h => h) (by rfl) hHeld (fun w hSw => ?_) ?_
  rotate_left 1
  · (try dsimp only at hSw)
    have e0_ := (bS.grown hSw).c0
    have e1_ := (bS.grown hSw).c1
    have e2_ := (bS.grown hSw).c2
    have e3_ := (b2.grown hSw).c0
    have e4_ := (b2.grown hSw).c1
    clear hSw
    go_simp
    try with_reducible rfl
  simp only [List.set_cons_succ, List.set_cons_zero]
  refine onlyL 4 rfl (by kernel_rfl) (by rfl) (fun K hK => ?_)
  go_wp2_with fail
  refine (hT sub xs ys x y nx ny c d (by omega) (by omega) hc hd bx by_ xnil ynil _ sx.drew sy.drew).mono ?_
  rintro e wp1_ ⟨rfl, hb⟩
  replace hb := (Below.refl _ _).drew.trans hb
  rw [ht]
  replace bS := bS.grown hb
  replace b2 := b2.grown hb
  replace sx := sx.below hb
  replace sy := sy.below hb
  replace hB := hB.trans (hb.mono hB.size)
  refine hK.out _ _ hb (fun _ => ?_)
  clear hK K hHeld
  refine held_more (S' := fun w' => Below wp1_.heap.size wp1_ w') (fun _ h => hb.trans (h.mono hb.size)) _ _ _ _ ?_
  have hHeld := Below.refl wp1_.heap.size wp1_
  clear hb
  refine takeL 7 26 (v := ?_) rfl rfl (by kernel_rfl) (by kernel_rfl) (by kernel_rfl) (fun _ _ _ h => h) (by rfl) hHeld (fun w hSw => ?_) ?_
  rotate_left 1
  · (try dsimp only at hSw)
    clear hSw
    go_simp
    try with_reducible rfl
  simp only [List.set_cons_succ, List.set_cons_zero]
  refine wpAnyH_done (by kernel_rfl) ?_ _
  have k0 := bS.c0
  have q0 := b2.c0
  have q1 := b2.c1
  go_wp2_with fail
  clear k0 q0 q1
  refine (iveil hF hX sub ys y ny d hny by_ hd _ sy).mono ?_
  rintro e w4 ⟨⟨z, cz, rfl, sz, -, -, -⟩, hb⟩
  replace hB := hB.trans (hb.mono hB.size)
  go_wp2
  go_ret2
  exact ⟨z, cz, rfl, sz, hB⟩

set_option maxRecDepth 10000 in
set_option maxHeartbeats 1000000 in
theorem iopen_no (hS : SubSaid) (hT : TagIs 46) : OpenNo 31 := by
  intro key n xs ys x y nx ny c d t hnx hny ht bx by_ hc hd xnil ynil w sx sy
  obtain ⟨sub, HS⟩ : ∃ sub, Hid (subP key n = sub) := ⟨_, rfl⟩
  rw [HS.out] at ht
  have heq := eq32
  have hne : (nv (tagP sub xs ys).1 == nv t.1 && nv (tagP sub xs ys).2 == nv t.2) = false := by
    rw [pair_eq_of]
    exact decide_eq_false ht
  go_enter Try.func31, Try.ntmps31
  go_wp2_with fail
  have b0 := ((Box.new w (nv key.1) (nv key.2)).alloc (.cells #[.int .u32 (nv32 n.1), .int .u32 (nv32 n.2.1), .int .u64 (nv n.2.2)] 74)).alloc (.cells #[.slice y ny d, .int .u64 (nv t.1), .int .u64 (nv t.2)] 76)
  have bN := (NBox.new (w.alloc (.cells #[.int .u64 (nv key.1), .int .u64 (nv key.2)] 34)) n).alloc (.cells #[.slice y ny d, .int .u64 (nv t.1), .int .u64 (nv t.2)] 76)
  have bS := SBox.new ((w.alloc (.cells #[.int .u64 (nv key.1), .int .u64 (nv key.2)] 34)).alloc (.cells #[.int .u32 (nv32 n.1), .int .u32 (nv32 n.2.1), .int .u64 (nv n.2.2)] 74)) (.slice y ny d) (nv t.1) (nv t.2)
  have hB : Below w.heap.size w (((w.alloc (.cells #[.int .u64 (nv key.1), .int .u64 (nv key.2)] 34)).alloc (.cells #[.int .u32 (nv32 n.1), .int .u32 (nv32 n.2.1), .int .u64 (nv n.2.2)] 74)).alloc (.cells #[.slice y ny d, .int .u64 (nv t.1), .int .u64 (nv t.2)] 76)) := by go_grown
  simp only [World.size_alloc] at bS bN
  generalize ((w.alloc (.cells #[.int .u64 (nv key.1), .int .u64 (nv key.2)] 34)).alloc (.cells #[.int .u32 (nv32 n.1), .int .u32 (nv32 n.2.1), .int .u64 (nv n.2.2)] 74)).alloc (.cells #[.slice y ny d, .int .u64 (nv t.1), .int .u64 (nv t.2)] 76) = W1 at *
  replace sx := sx.below hB
  replace sy := sy.below hB
  refine (fits_yes x y nx ny c d hnx hny _).mono ?_
  rintro e _ ⟨rfl, rfl⟩
  have k0 := b0.c0
  have k1 := b0.c1
  have k2 := bN.c0
  have k3 := bN.c1
  have k4 := bN.c2
  go_wp2_with fail
  clear k0 k1 k2 k3 k4 b0 bN
  refine (sub_of hS key n HS.out _).mono ?_
  rintro e w1 ⟨rfl, hb⟩
  replace bS := bS.grown hb
  replace sx := sx.below hb
  replace sy := sy.below hb
  replace hB := hB.trans (hb.mono hB.size)
  clear hb
  go_wp2_with fail
  have hb : Below w1.heap.size w1 (w1.alloc (.cells #[.int .u64 (nv sub.1), .int .u64 (nv sub.2)] 34)) := (Below.refl _ _).alloc (Nat.le_refl _) _
  have b2 := Box.new w1 (nv sub.1) (nv sub.2)
  replace bS := bS.grown hb
  replace sx := sx.below hb
  replace sy := sy.below hb
  replace hB := hB.trans (hb.mono hB.size)
  clear hb
  generalize w1.alloc (.cells #[.int .u64 (nv sub.1), .int .u64 (nv sub.2)] 34) = w2 at *
  generalize w1.heap.size = A at *
  refine wp_region_held_drew (S := fun w' => Below w2.heap.size w2 w') (by kernel_rfl) (Below.refl _ _).drew (fun hHeld => ?_)
  refine takeL 0 19 (v := ?_) rfl rfl (by kernel_rfl) (by kernel_rfl) (by kernel_rfl) (fun _ _ _ h => h) (by rfl) hHeld (fun w hSw => ?_) ?_
  rotate_left 1
  · (try dsimp only at hSw)
    have e0_ := (bS.grown hSw).c0
    have e1_ := (bS.grown hSw).c1
    have e2_ := (bS.grown hSw).c2
    have e3_ := (b2.grown hSw).c0
    have e4_ := (b2.grown hSw).c1
    clear hSw
    go_simp
    try with_reducible rfl
  simp only [List.set_cons_succ, List.set_cons_zero]
  refine takeM 1 20 2 rfl rfl rfl (by kernel_rfl) (by kernel_rfl) (by kernel_rfl) (fun _ _ _ h => h) (by rfl) hHeld rfl ?_
  simp only [List.set_cons_succ, List.set_cons_zero]
  refine takeL 2 21 (v := ?_) rfl rfl (by kernel_rfl) (by kernel_rfl) (by kernel_rfl) (fun _ _ _ h => h) (by rfl) hHeld (fun w hSw => ?_) ?_
  rotate_left 1
  · (try dsimp only at hSw)
    clear hSw
    go_simp
    try with_reducible rfl
  simp only [List.set_cons_succ, List.set_cons_zero]
  refine takeL 3 22 (v := ?_) rfl rfl (by kernel_rfl) (by kernel_rfl) (by kernel_rfl) (fun _ _ _ h => h) (by rfl) hHeld (fun w hSw => ?_) ?_
  rotate_left 1
  · (try dsimp only at hSw)
    have e0_ := (bS.grown hSw).c0
    have e1_ := (bS.grown hSw).c1
    have e2_ := (bS.grown hSw).c2
    have e3_ := (b2.grown hSw).c0
    have e4_ := (b2.grown hSw).c1
    clear hSw
    go_simp
    try with_reducible rfl
  simp only [List.set_cons_succ, List.set_cons_zero]
  refine takeL 5 24 (v := ?_) rfl rfl (by kernel_rfl) (by kernel_rfl) (by kernel_rfl) (fun _ _ _ h => h) (by rfl) hHeld (fun w hSw => ?_) ?_
  rotate_left 1
  · (try dsimp only at hSw)
    clear hSw
    go_simp
    try with_reducible rfl
  simp only [List.set_cons_succ, List.set_cons_zero]
  refine takeL 6 25 (v := ?_) rfl rfl (by kernel_rfl) (by kernel_rfl) (by kernel_rfl) (fun _ _ _ h => h) (by rfl) hHeld (fun w hSw => ?_) ?_
  rotate_left 1
  · (try dsimp only at hSw)
    have e0_ := (bS.grown hSw).c0
    have e1_ := (bS.grown hSw).c1
    have e2_ := (bS.grown hSw).c2
    have e3_ := (b2.grown hSw).c0
    have e4_ := (b2.grown hSw).c1
    clear hSw
    go_simp
    try with_reducible rfl
  simp only [List.set_cons_succ, List.set_cons_zero]
  refine onlyL 4 rfl (by kernel_rfl) (by rfl) (fun K hK => ?_)
  go_wp2_with fail
  refine (hT sub xs ys x y nx ny c d (by omega) (by omega) hc hd bx by_ xnil ynil _ sx.drew sy.drew).mono ?_
  rintro e wp1_ ⟨rfl, hb⟩
  replace hb := (Below.refl _ _).drew.trans hb
  replace bS := bS.grown hb
  replace b2 := b2.grown hb
  replace sx := sx.below hb
  replace sy := sy.below hb
  replace hB := hB.trans (hb.mono hB.size)
  refine hK.out _ _ hb (fun _ => ?_)
  clear hK K hHeld
  refine held_more (S' := fun w' => Below wp1_.heap.size wp1_ w') (fun _ h => hb.trans (h.mono hb.size)) _ _ _ _ ?_
  have hHeld := Below.refl wp1_.heap.size wp1_
  clear hb
  refine takeL 7 26 (v := ?_) rfl rfl (by kernel_rfl) (by kernel_rfl) (by kernel_rfl) (fun _ _ _ h => h) (by rfl) hHeld (fun w hSw => ?_) ?_
  rotate_left 1
  · (try dsimp only at hSw)
    clear hSw
    go_simp
    try with_reducible rfl
  simp only [List.set_cons_succ, List.set_cons_zero]
  refine wpAnyH_done (by kernel_rfl) ?_ _
  go_wp2
  go_ret2
  exact ⟨⟨_, _, rfl⟩, hB⟩

set_option maxHeartbeats 400000 in
theorem iopen_long : OpenLong 31 := by
  intro key n x y nx ny c d t1 t2 h w
  go_enter Try.func31, Try.ntmps31
  go_wp2_with fail
  refine (fits_no x y nx ny c d h _).mono ?_
  rintro e _ ⟨rfl, rfl⟩
  go_wp2
  go_ret2
  exact ⟨⟨_, _, rfl⟩, by go_grown⟩
end Go.Proofs.Ytkbhkgfchiacbaa


/- What is said of the program's speck: it is the document's. -/
namespace Go.Proofs.Ytkbhkgfchiacbaa
open Go.RowKit
set_option maxRecDepth 20000

/-- speck.Encrypt is the document's. -/
def EncSaid : Prop := ∀ (k p : BitVec 64 × BitVec 64) (w : World), Calls Try.prog 60 #[.agg #[.int .u64 (nv k.1), .int .u64 (nv k.2)], .agg #[.int .u64 (nv p.1), .int .u64 (nv p.2)]] w fun e w' => e = .returned (.agg #[.int .u64 (nv (enc k p).1), .int .u64 (nv (enc k p).2)]) ∧ Below w.heap.size w w'
/-- speck.Keys is the document's. -/
def KeysSaid : Prop := ∀ (p : BitVec 64 × BitVec 64) (w : World), Calls Try.prog 70 #[.agg #[.int .u64 (nv p.1), .int .u64 (nv p.2)]] w fun e w' => ∃ g cap, e = .returned (.slice (some ⟨g, 0, none⟩) 32 cap) ∧ w.heap.size ≤ g ∧ KeysAt w' g p ∧ Below w.heap.size w w'

theorem pair_eq (p q : BitVec 64 × BitVec 64) : (nv p.1 == nv q.1 && nv p.2 == nv q.2) = decide (p = q) := by
  rw [nv_eq, nv_eq, Bool.eq_iff_iff]
  simp [Prod.ext_iff]
theorem nv_self (p : BitVec 64 × BitVec 64) : (nv p.1 == nv p.1 && nv p.2 == nv p.2) = true := by simp

theorem enc_at (hE : EncSaid) (k p : BitVec 64 × BitVec 64) (k1 k2 p1 p2 x y : Int) (hk1 : nv k.1 = k1) (hk2 : nv k.2 = k2) (hp1 : nv p.1 = p1) (hp2 : nv p.2 = p2) (hx : nv (enc k p).1 = x) (hy : nv (enc k p).2 = y) (w : World) :
    Calls Try.prog 60 #[.agg #[.int .u64 k1, .int .u64 k2], .agg #[.int .u64 p1, .int .u64 p2]] w fun e w' => e = .returned (.agg #[.int .u64 x, .int .u64 y]) ∧ Below w.heap.size w w' := by
  subst hk1 hk2 hp1 hp2 hx hy
  exact hE k p w
end Go.Proofs.Ytkbhkgfchiacbaa


/- What the program's speck comes to: Keys, Encrypt and Decrypt are the document's, for every key and block. -/
namespace Go.Proofs.Ytkbhkgfchiacbaa
open Go.RowKit
set_option maxRecDepth 20000

set_option maxHeartbeats 400000 in
theorem rot_m8 (x : BitVec 64) (w : World) : Calls Try.prog 76 #[.int .u64 (nv x), .int .i64 (-8)] w fun e w' => e = .returned (.int .u64 (nv (x.rotateRight 8))) ∧ w' = w := by
  obtain ⟨h0, h1⟩ := nv_range x
  have hm : bits .and .u64 (IntKind.u64.wrap (-8)) 63 = 56 := by decide
  go_enter Try.func76, Try.ntmps76
  go_wp2
  go_ret
  exact ⟨ret_u64 (nv_rl56 x), rfl⟩
set_option maxHeartbeats 400000 in
theorem rot_m3 (x : BitVec 64) (w : World) : Calls Try.prog 76 #[.int .u64 (nv x), .int .i64 (-3)] w fun e w' => e = .returned (.int .u64 (nv (x.rotateRight 3))) ∧ w' = w := by
  obtain ⟨h0, h1⟩ := nv_range x
  have hm : bits .and .u64 (IntKind.u64.wrap (-3)) 63 = 61 := by decide
  go_enter Try.func76, Try.ntmps76
  go_wp2
  go_ret
  exact ⟨ret_u64 (nv_rl61 x), rfl⟩
set_option maxHeartbeats 400000 in
theorem rot_3 (x : BitVec 64) (w : World) : Calls Try.prog 76 #[.int .u64 (nv x), .int .i64 3] w fun e w' => e = .returned (.int .u64 (nv (x.rotateLeft 3))) ∧ w' = w := by
  obtain ⟨h0, h1⟩ := nv_range x
  have hm : bits .and .u64 3 63 = 3 := by decide
  go_enter Try.func76, Try.ntmps76
  go_wp2
  go_ret
  exact ⟨ret_u64 (nv_rl3 x), rfl⟩
set_option maxHeartbeats 400000 in
theorem rot_8 (x : BitVec 64) (w : World) : Calls Try.prog 76 #[.int .u64 (nv x), .int .i64 8] w fun e w' => e = .returned (.int .u64 (nv (x.rotateLeft 8))) ∧ w' = w := by
  obtain ⟨h0, h1⟩ := nv_range x
  have hm : bits .and .u64 8 63 = 8 := by decide
  go_enter Try.func76, Try.ntmps76
  go_wp2
  go_ret
  exact ⟨ret_u64 (nv_rl8 x), rfl⟩

/-- A round of the program's own, either way. -/
theorem forth_said (x y k : BitVec 64) (w : World) : Calls Try.prog 71 #[.int .u64 (nv x), .int .u64 (nv y), .int .u64 (nv k)] w fun e w' => e = .returned (.tuple #[.int .u64 (nv (encR k (x, y)).1), .int .u64 (nv (encR k (x, y)).2)]) ∧ w' = w := by
  go_enter Try.func71, Try.ntmps71
  go_wp2_with fail
  refine (rot_m8 x _).mono ?_
  rintro e w2 ⟨rfl, rfl⟩
  go_wp2_with fail
  refine (rot_3 y _).mono ?_
  rintro e w2 ⟨rfl, rfl⟩
  go_wp2
  rw [nv_add, nv_xor, nv_xor]
  go_ret2
  exact ⟨rfl, rfl⟩
theorem forth_at (x y k : BitVec 64) (n : Int) (h : nv k = n) (w : World) : Calls Try.prog 71 #[.int .u64 (nv x), .int .u64 (nv y), .int .u64 n] w fun e w' => e = .returned (.tuple #[.int .u64 (nv (encR k (x, y)).1), .int .u64 (nv (encR k (x, y)).2)]) ∧ w' = w := h ▸ forth_said x y k w
theorem make32 (w : World) : (Instr.makeSlice 108 (.int .i64 32) (.int .i64 32)).run Try.prog w = .ok (.slice (some ⟨w.heap.size, 0, none⟩) 32 32) (w.alloc (.cells (madeCells #[.int .u64 0] 32) 32)) :=
  run_make_row' (P := Try.prog) 108 32 (.int .u64 0) 8 Try.underlying108 Try.info32 rfl .i64 .i64 32 (by decide) (by decide) w

theorem key_def (p : BitVec 64 × BitVec 64) (j : Nat) : key p j = (keyAt p j).2 := rfl

set_option maxHeartbeats 1000000 in
theorem keys_said : KeysSaid := by
  intro p w
  have hmk := make32
  go_enter Try.func70, Try.ntmps70
  go_wp2
  go_region
  have hrow0 := World.rowIs_made (w.alloc (.cells #[.int .u64 (nv p.1), .int .u64 (nv p.2)] 34)) (.int .u64 0) 32 32
  rw [World.size_alloc] at hrow0
  clear hmk
  go_wp2
  go_loopw [4, 5, 14] (fun l k i wr => ∃ j : Nat, j ≤ 32 ∧ i = .int .i64 j ∧ l = .int .u64 (nv (keyAt p j).1) ∧ k = .int .u64 (nv (keyAt p j).2) ∧ wr.rowIs (w.heap.size + 1) 32 32 (fun t => if t < j then .int .u64 (nv (key p t)) else .int .u64 0) ∧ Below w.heap.size w wr) (fun _ _ i _ => 32 - (intOf i).toNat)
  case atStart => exact ⟨0, by decide, rfl, rfl, rfl, hrow0.drew, by go_grown⟩
  case round =>
    obtain ⟨j, hj, rfl, rfl, rfl, hrow, hb⟩ := hrel
    by_cases hlt : j < 32
    · have hce := hrow.cell hlt
      have hfr := hrow.frozen j
      have HK := hide' (keyAt_succ p j)
      have HO := hide' (nv_small j (by omega))
      have HT := hide' (key_def p j)
      generalize keyAt p j = q at *
      go_wp2_with fail
      refine (forth_at q.1 q.2 (BitVec.ofNat 64 j) _ HO.out _).mono ?_
      rintro e w2 ⟨rfl, rfl⟩
      clear hce hfr
      go_wp2
      go_roundw
      case rel =>
        refine ⟨j + 1, hlt, by go_num, u64v (by rw [HK.out]; rfl), u64v (by rw [HK.out]; rfl), (hrow.set j _).congr (fun t ht => ?_), hb.setCell (by simp only; omega) _⟩
        by_cases e : t = j
        · subst e; simp [HT.out]
        · by_cases e' : t < j
          · have e2 : t < j + 1 := by omega
            simp [e, e', e2]
          · have e2 : ¬ t < j + 1 := by omega
            simp [e, e', e2]
      case measure => simp [intOf]; omega
    · go_wp2
      obtain rfl : j = 32 := by omega
      go_ret
      exact ⟨w.heap.size + 1, 32, rfl, by omega, ⟨hrow.lt, fun i hi => (hrow.cell hi).trans (by simp [hi])⟩, hb⟩

theorem decN_step (ks : Nat → BitVec 64) (n : Nat) (p : BitVec 64 × BitVec 64) : decN ks (n + 1) p = decN ks n (decR (ks n) p) := rfl

set_option maxHeartbeats 1000000 in
theorem enc_said : EncSaid := by
  intro k p w
  go_enter Try.func60, Try.ntmps60
  go_wp2
  go_region
  go_wp2_with fail
  refine (keys_said k _).mono ?_
  rintro e w1 ⟨g, cap, rfl, hg, hk, hb1⟩
  simp only [World.size_drew, World.size_alloc] at hb1 hg
  have bxr : Box w1 (w.heap.size + 2) 0 0 := by
    have := Box.new ((w.alloc (.cells #[.int .u64 (nv k.1), .int .u64 (nv k.2)] 34)).alloc (.cells #[.int .u64 (nv p.1), .int .u64 (nv p.2)] 34)) 0 0
    simp only [World.size_alloc] at this
    exact this.drew.below hb1 (by omega)
  have hB1 : Below w.heap.size w w1 := by
    refine Below.trans ?_ (hb1.mono (by omega))
    go_grown
  have hS1 := hb1.size
  clear hb1
  go_wp2
  go_loop [5, 6, 16] (fun x y i => ∃ j : Nat, j ≤ 32 ∧ i = .int .i64 j ∧ x = .int .u64 (nv (encN (key k) p j).1) ∧ y = .int .u64 (nv (encN (key k) p j).2)) (fun _ _ i => 32 - (intOf i).toNat)
  case atStart => exact ⟨0, by decide, rfl, rfl, rfl⟩
  case round =>
    obtain ⟨j, hj, rfl, rfl, rfl⟩ := hrel
    by_cases hlt : j < 32
    · have hkj := hk.2 j hlt
      have HE := hide' (encN_succ (key k) p j)
      generalize encN (key k) p j = q at *
      go_wp2_with fail
      refine (forth_said q.1 q.2 (key k j) _).mono ?_
      rintro e w2 ⟨rfl, rfl⟩
      go_wp2
      go_round
      case rel => exact ⟨j + 1, hlt, by go_num, u64v (by rw [HE.out]), u64v (by rw [HE.out])⟩
      case measure => simp [intOf]; omega
    · have f0 := bxr.c0
      have f1 := bxr.c1
      have f2 := bxr.frozen 0
      have f3 := bxr.frozen 1
      obtain rfl : j = 32 := by omega
      go_wp2
      refine bodyPost_ret (v := .agg #[.int .u64 (nv (enc k p).1), .int .u64 (nv (enc k p).2)]) (by simp [results, Try.results60, go_sem, f0, f1]; exact ⟨rfl, rfl⟩) rfl ⟨rfl, ?_⟩
      exact (hB1.setCell (by simp only; omega) _).setCell (by simp only; omega) _

end Go.Proofs.Ytkbhkgfchiacbaa


/- What the program's digest comes to. -/
namespace Go.Proofs.Ytkbhkgfchiacbaa
open Go.RowKit
set_option maxRecDepth 20000

set_option maxHeartbeats 1000000 in
theorem istep (s m : BitVec 64 × BitVec 64) (w : World) : Calls Try.prog 50 #[.agg #[.int .u64 (nv s.1), .int .u64 (nv s.2)], .agg #[.int .u64 (nv m.1), .int .u64 (nv m.2)]] w fun e w' => e = .returned (.agg #[.int .u64 (nv (stepP s m).1), .int .u64 (nv (stepP s m).2)]) ∧ Below w.heap.size w w' := by
  go_enter Try.func50, Try.ntmps50
  go_wp2_with fail
  have b0 := ((Box.new w (nv s.1) (nv s.2)).alloc (.cells #[.int .u64 (nv m.1), .int .u64 (nv m.2)] 34)).alloc (.cells #[.int .u64 0, .int .u64 0] 34)
  have bR := Box.new ((w.alloc (.cells #[.int .u64 (nv s.1), .int .u64 (nv s.2)] 34)).alloc (.cells #[.int .u64 (nv m.1), .int .u64 (nv m.2)] 34)) 0 0
  have hB : Below w.heap.size w (((w.alloc (.cells #[.int .u64 (nv s.1), .int .u64 (nv s.2)] 34)).alloc (.cells #[.int .u64 (nv m.1), .int .u64 (nv m.2)] 34)).alloc (.cells #[.int .u64 0, .int .u64 0] 34)) := by go_grown
  simp only [World.size_alloc] at bR
  generalize ((w.alloc (.cells #[.int .u64 (nv s.1), .int .u64 (nv s.2)] 34)).alloc (.cells #[.int .u64 (nv m.1), .int .u64 (nv m.2)] 34)).alloc (.cells #[.int .u64 0, .int .u64 0] 34) = W1 at *
  refine (enc_said m s _).mono ?_
  rintro e w1 ⟨rfl, hb⟩
  replace b0 := b0.grown hb
  replace bR := bR.grown hb
  replace hB := hB.trans (hb.mono hB.size)
  clear hb
  have hx1 := nv_xor (enc m s).1 s.1
  have hx2 := nv_xor (enc m s).2 s.2
  have hb : Below w1.heap.size w1 (w1.alloc (.cells #[.int .u64 (nv (enc m s).1), .int .u64 (nv (enc m s).2)] 34)) := (Below.refl _ _).alloc (Nat.le_refl _) _
  replace b0 := b0.grown hb
  replace bR := bR.grown hb
  replace hB := hB.trans (hb.mono hB.size)
  clear hb
  have g0 := b0.c0
  have g1 := b0.c1
  have g2 := bR.c0
  have g3 := bR.c1
  have g4 := bR.frozen 0
  have g5 := bR.frozen 1
  go_wp2
  refine bodyPost_ret (v := .agg #[.int .u64 (nv (stepP s m).1), .int .u64 (nv (stepP s m).2)]) (by simp [results, Try.results50, go_sem, g2, g3, stepP]) rfl ⟨rfl, ?_⟩
  exact (hB.setCell (by simp only; omega) _).setCell (by simp only; omega) _
theorem step_said : StepSaid := istep
end Go.Proofs.Ytkbhkgfchiacbaa
