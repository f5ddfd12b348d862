/- Stage 5's walks. -/
import Derived.Test.YtafjhidkhboaiaaGcmLng
import Derived.Lib.SlBytesConst
import Derived.Test.YtafjhidkhboaiaaFldApp
import Derived.Deep.Cut
import Derived.Deep.CutRange
namespace Go.Proofs.Ytafjhidkhboaiaa
open Go.RowKit

theorem At.oneM (w : World) (z : Int) (fr : Nat × Nat) : At (w.alloc (.cells #[.int .u8 z] 5 fr)) w.heap.size 0 [z] := by
  intro i hi
  simp at hi
  subst hi
  rw [Nat.add_zero, World.cell?_alloc_mark]
  rfl
theorem SBox.put3 {w : World} {b : Nat} {v : Value} {t1 t2 : Int} (h : SBox w b v t1 t2) (v' : Value) (t1' t2' : Int) : SBox (((w.setCell ⟨b, 0, none⟩ v').setCell ⟨b, 1, none⟩ (.int .u64 t1')).setCell ⟨b, 2, none⟩ (.int .u64 t2')) b v' t1' t2' := by
  unfold SBox at h ⊢
  simp [World.setCell, Array.getElem?_modify, h]
theorem xor8_comm {x y : Int} (hx : 0 ≤ x ∧ x < 256) (hy : 0 ≤ y ∧ y < 256) : xor8 x y = xor8 y x := by
  have h : xor8 x y = ((x.toNat ^^^ y.toNat : Nat) : Int) := u8_xor x y hx.1 hx.2 hy.1 hy.2
  have h2 : xor8 y x = ((y.toNat ^^^ x.toNat : Nat) : Int) := u8_xor y x hy.1 hy.2 hx.1 hx.2
  rw [h, h2, Nat.xor_comm]
theorem xorL_comm : ∀ {xs ys : List Int}, Bytes xs → Bytes ys → xorL xs ys = xorL ys xs
  | [], ys, _, _ => by simp [xorL]
  | x :: xs, [], _, _ => by simp [xorL]
  | x :: xs, y :: ys, hx, hy => by
    have ih := xorL_comm (fun u hu => hx u (List.mem_cons_of_mem _ hu)) (fun u hu => hy u (List.mem_cons_of_mem _ hu))
    unfold xorL at ih ⊢
    rw [List.zipWith_cons_cons, List.zipWith_cons_cons, ih, xor8_comm (hx x List.mem_cons_self) (hy y List.mem_cons_self)]
theorem xorL_other {xs ys : List Int} (hx : Bytes xs) (hy : Bytes ys) (hl : xs.length = ys.length) : xorL (xorL xs ys) xs = ys := by
  rw [xorL_comm hx hy, xorL_back hy hx, ← hl, Nat.min_self, List.take_of_length_le (Nat.le_of_eq hl.symm)]
theorem xorL_zeros : ∀ {ys : List Int}, Bytes ys → xorL (List.replicate ys.length 0) ys = ys
  | [], _ => rfl
  | y :: ys, hy => by
    have ih := xorL_zeros (fun u hu => hy u (List.mem_cons_of_mem _ hu))
    have hy0 := hy y List.mem_cons_self
    have h : xor8 0 y = y := by
      have h : xor8 0 y = (((0 : Int).toNat ^^^ y.toNat : Nat) : Int) := u8_xor 0 y (by decide) (by decide) hy0.1 hy0.2
      rw [h]
      simp
      omega
    unfold xorL at ih ⊢
    rw [List.length_cons, List.replicate_succ, List.zipWith_cons_cons, ih, h]
theorem mix_other (sub : BitVec 64 × BitVec 64) {ys : List Int} (hy : Bytes ys) : xorL (mixL sub ys) ys = flowL sub ys.length := by
  rw [mixL, xorL_other hy (flowL_bytes _ _) (flowL_length _ _).symm]
theorem mix_zeros (sub : BitVec 64 × BitVec 64) (n : Nat) : mixL sub (List.replicate n 0) = flowL sub n := by
  have := xorL_zeros (flowL_bytes sub n)
  rw [flowL_length] at this
  rw [mixL, List.length_replicate, this]

set_option maxRecDepth 10000 in
set_option maxHeartbeats 2000000 in
theorem flow_in_ (hSi : SealIn 9) (hOy : OpenYes 15) (key : BitVec 64 × BitVec 64) (n : Nn) (ys : List Int) (y : Option Addr) (ny d : Nat) (hny : ny ≤ 300) (by_ : Bytes ys) (hd : ny ≤ d) (ynil : y = none → ny = 0 ∧ d = 0) (w : World) (sy : SAt w y ny ys) : Calls Try.prog 8 #[.agg #[.int .u64 (nv key.1), .int .u64 (nv key.2)], .agg #[.int .u32 (nv32 n.1), .int .u32 (nv32 n.2.1), .int .u64 (nv n.2.2)], .slice y ny d] w fun e w' => e = .returned (.bool true) ∧ Below w.heap.size w w' := by
  obtain ⟨sub, HS⟩ : ∃ sub, Hid (subP key n = sub) := ⟨_, rfl⟩
  obtain ⟨ms, HM⟩ : ∃ ms, Hid (mixL sub ys = ms) := ⟨_, rfl⟩
  obtain ⟨fs, HF⟩ : ∃ fs, Hid (flowL sub ny = fs) := ⟨_, rfl⟩
  obtain ⟨t, HT⟩ : ∃ t, Hid (tagP sub [104] ms = t) := ⟨_, rfl⟩
  obtain ⟨t2, HT2⟩ : ∃ t2, Hid (tagP sub [] fs = t2) := ⟨_, rfl⟩
  have HZ : Hid (mixL sub (List.replicate ny 0) = fs) := by rw [← HF.out]; exact hide' (mix_zeros sub ny)
  have HO : Hid (xorL ms ys = fs) := by rw [← HF.out, ← HM.out, ← sy.1]; exact hide' (mix_other sub by_)
  have hcv : (convert 28 28 (.slice (some ⟨w.heap.size + 1 + 1, 0, none⟩) 1 1)).run Try.prog (((w.alloc (.cells #[.int .u64 (nv key.1), .int .u64 (nv key.2)] 24)).alloc (.cells #[.int .u32 (nv32 n.1), .int .u32 (nv32 n.2.1), .int .u64 (nv n.2.2)] 27)).alloc (.cells #[.int .u8 104] 5)) = .ok (.slice (some ⟨w.heap.size + 1 + 1, 0, none⟩) 1 1) (((w.alloc (.cells #[.int .u64 (nv key.1), .int .u64 (nv key.2)] 24)).alloc (.cells #[.int .u32 (nv32 n.1), .int .u32 (nv32 n.2.1), .int .u64 (nv n.2.2)] 27)).alloc (.cells #[.int .u8 104] 5 (1, 2))) := by
    have := Lib.run_convert_bytes_const (P := Try.prog) ((w.alloc (.cells #[.int .u64 (nv key.1), .int .u64 (nv key.2)] 24)).alloc (.cells #[.int .u32 (nv32 n.1), .int .u32 (nv32 n.2.1), .int .u64 (nv n.2.2)] 27)) 28 5 #[.int .u8 104] 1 1 Try.underlying28 Try.underlying5
    simp only [World.size_alloc] at this
    exact this
  have hb104 : Bytes [104] := fun x hx => by
    simp at hx
    omega
  have hmk := run_make_row' (P := Try.prog) 28 5 (.int .u8 0) 1 Try.underlying28 Try.info5 rfl .i64 .i64 ny (by omega) (by omega)
  go_enter Try.func8, Try.ntmps8
  go_wp2_with fail
  have b0 := ((Box.new w (nv key.1) (nv key.2)).alloc (.cells #[.int .u32 (nv32 n.1), .int .u32 (nv32 n.2.1), .int .u64 (nv n.2.2)] 27)).alloc (.cells #[.int .u8 104] 5 (1, 2))
  have b1 := (NBox.new (w.alloc (.cells #[.int .u64 (nv key.1), .int .u64 (nv key.2)] 24)) n).alloc (.cells #[.int .u8 104] 5 (1, 2))
  have sh := (At.oneM ((w.alloc (.cells #[.int .u64 (nv key.1), .int .u64 (nv key.2)] 24)).alloc (.cells #[.int .u32 (nv32 n.1), .int .u32 (nv32 n.2.1), .int .u64 (nv n.2.2)] 27)) 104 (1, 2)).sat (n := 1) (by simp only [World.size_alloc]; omega) rfl
  have hB : Below w.heap.size w (((w.alloc (.cells #[.int .u64 (nv key.1), .int .u64 (nv key.2)] 24)).alloc (.cells #[.int .u32 (nv32 n.1), .int .u32 (nv32 n.2.1), .int .u64 (nv n.2.2)] 27)).alloc (.cells #[.int .u8 104] 5 (1, 2))) := by go_grown
  simp only [World.size_alloc] at b1 sh
  generalize ((w.alloc (.cells #[.int .u64 (nv key.1), .int .u64 (nv key.2)] 24)).alloc (.cells #[.int .u32 (nv32 n.1), .int .u32 (nv32 n.2.1), .int .u64 (nv n.2.2)] 27)).alloc (.cells #[.int .u8 104] 5 (1, 2)) = W1 at *
  replace sy := sy.below hB
  clear hcv
  refine (seal_at hSi key n rfl rfl rfl rfl rfl [104] ys (some ⟨w.heap.size + 1 + 1, 0, none⟩) y 1 ny 1 d (by decide) (by omega) HS.out HM.out HT.out hb104 by_ (by decide) hd (fun e => by cases e) ynil _ sh sy).mono ?_
  rintro e w1 ⟨⟨z, cz, rfl, sz, hcz, -, znil⟩, hb⟩
  replace b0 := b0.grown hb
  replace b1 := b1.grown hb
  replace sy := sy.below hb
  replace hB := hB.trans (hb.mono hB.size)
  clear hb sh
  have hb : Below w1.heap.size w1 (w1.alloc (.cells #[.slice z ny cz, .int .u64 (nv t.1), .int .u64 (nv t.2)] 30)) := (Below.refl _ _).alloc (Nat.le_refl _) _
  have bS := SBox.new w1 (.slice z ny cz) (nv t.1) (nv t.2)
  replace b0 := b0.grown hb
  replace b1 := b1.grown hb
  replace sy := sy.below hb
  replace sz := sz.below hb
  replace hB := hB.trans (hb.mono hB.size)
  clear hb
  have ey0 := b0.c0
  have ey1 := b0.c1
  have ey2 := b1.c0
  have ey3 := b1.c1
  have ey4 := b1.c2
  have ey5 := bS.c0
  have ey6 := bS.c1
  have ey7 := bS.c2
  go_wp2_with fail
  clear ey0 ey1 ey2 ey3 ey4 ey5 ey6 ey7
  generalize w1.alloc (.cells #[.slice z ny cz, .int .u64 (nv t.1), .int .u64 (nv t.2)] 30) = W2 at *
  generalize w1.heap.size = A at *
  go_cut [9, 10] from 23 to 31 (fun s9 s10 wx => ∃ g9 z2 cz2, s9 = .pointer (some ⟨g9, 0, none⟩) ∧ s10 = .bool true ∧ SBox wx g9 (.slice z2 ny cz2) (nv t2.1) (nv t2.2) ∧ SAt wx z2 ny fs ∧ Below W2.heap.size W2 wx)
  case first =>
    refine wp_region_held_drew (S := fun w' => Below W2.heap.size W2 w') (by kernel_rfl) (Below.refl _ _).drew (fun hHeld => ?_)
    refine takeL 0 24 (v := ?_) rfl rfl (by kernel_rfl) (by kernel_rfl) (by kernel_rfl) (fun _ _ _ h => h) (by rfl) hHeld (fun w hSw => ?_) ?_
    rotate_left 1
    · (try dsimp only at hSw)
      have e0_ := (b0.grown hSw).c0
      have e1_ := (b0.grown hSw).c1
      have e2_ := (b1.grown hSw).c0
      have e3_ := (b1.grown hSw).c1
      have e4_ := (b1.grown hSw).c2
      clear hSw
      go_simp
      try with_reducible rfl
    simp only [List.set_cons_succ, List.set_cons_zero]
    refine takeL 1 25 (v := ?_) rfl rfl (by kernel_rfl) (by kernel_rfl) (by kernel_rfl) (fun _ _ _ h => h) (by rfl) hHeld (fun w hSw => ?_) ?_
    rotate_left 1
    · (try dsimp only at hSw)
      have e0_ := (b0.grown hSw).c0
      have e1_ := (b0.grown hSw).c1
      have e2_ := (b1.grown hSw).c0
      have e3_ := (b1.grown hSw).c1
      have e4_ := (b1.grown hSw).c2
      clear hSw
      go_simp
      try with_reducible rfl
    simp only [List.set_cons_succ, List.set_cons_zero]
    refine takeM 2 26 2 rfl rfl rfl (by kernel_rfl) (by kernel_rfl) (by kernel_rfl) (fun _ _ _ h => h) (by rfl) hHeld rfl ?_
    simp only [List.set_cons_succ, List.set_cons_zero]
    refine takeL 3 27 (v := ?_) rfl rfl (by kernel_rfl) (by kernel_rfl) (by kernel_rfl) (fun _ _ _ h => h) (by rfl) hHeld (fun w hSw => ?_) ?_
    rotate_left 1
    · (try dsimp only at hSw)
      clear hSw
      go_simp
      try with_reducible rfl
    simp only [List.set_cons_succ, List.set_cons_zero]
    have hW : Below W2.heap.size W2 W2.drew := (Below.refl _ _).drew
    have hz : W2.heap.size ≤ W2.drew.heap.size := Nat.le_refl _
    replace b0 := b0.drew
    replace b1 := (show NBox W2.drew _ _ from b1)
    replace sy := (show SAt W2.drew _ _ _ from sy)
    replace sz := (show SAt W2.drew _ _ _ from sz)
    replace bS := bS.drew
    generalize W2.drew = k0_ at *
    refine twoL 4 9 rfl rfl (by kernel_rfl) (by rfl) (by rfl) (fun K hK => ?_) (fun K hK => ?_)
    · go_wp2_with fail
      have hb : Below k0_.heap.size k0_ (k0_.alloc (.cells (madeCells #[.int .u8 0] ny) 5)) := (Below.refl _ _).alloc (Nat.le_refl _) _
      have rb := (Row.made k0_ ny).sat (List.length_replicate (n := ny))
      replace b0 := b0.grown hb
      replace b1 := b1.grown hb
      replace sy := sy.below hb
      replace sz := sz.below hb
      replace bS := bS.grown hb
      replace hW := hW.trans (hb.mono hz)
      replace hz := Nat.le_trans hz hb.size
      clear hb
      refine hK.out _ _ hW (fun hHeld => ?_)
      clear hK K
      generalize k0_.alloc (.cells (madeCells #[.int .u8 0] ny) 5) = k1_ at *
      generalize k0_.heap.size = g4 at *
      refine twoL 5 9 rfl rfl (by kernel_rfl) (by rfl) (by rfl) (fun K hK => ?_) (fun K hK => ?_)
      · go_wp2_with fail
        refine (seal_at hSi key n rfl rfl rfl rfl rfl [] (List.replicate ny 0) none (some ⟨g4, 0, none⟩) 0 ny 0 ny (by decide) (by omega) HS.out HZ.out HT2.out bytes_nil (zeros_bytes ny) (Nat.le_refl _) (Nat.le_refl _) (fun _ => ⟨rfl, rfl⟩) (fun e => by cases e) _ (SAt.none _ _) rb).mono ?_
        rintro e k2_ ⟨⟨z2, cz2, rfl, sz2, hcz2, -, znil2⟩, hb⟩
        replace b0 := b0.grown hb
        replace b1 := b1.grown hb
        replace sy := sy.below hb
        replace sz := sz.below hb
        replace bS := bS.grown hb
        replace hW := hW.trans (hb.mono hz)
        replace hz := Nat.le_trans hz hb.size
        clear hb
        refine hK.out _ _ hW (fun hHeld => ?_)
        clear hK K
        clear rb
        refine takeM 6 23 29 rfl rfl rfl (by kernel_rfl) (by kernel_rfl) (by kernel_rfl) (fun _ _ _ h => h) (by rfl) hHeld rfl ?_
        simp only [List.set_cons_succ, List.set_cons_zero]
        refine takeL 7 30 (v := ?_) rfl rfl (by kernel_rfl) (by kernel_rfl) (by kernel_rfl) (fun _ _ _ h => h) (by rfl) hHeld (fun w hSw => ?_) ?_
        rotate_left 1
        · (try dsimp only at hSw)
          clear hSw
          go_simp
          try with_reducible rfl
        simp only [List.set_cons_succ, List.set_cons_zero]
        refine takeL 8 31 (v := ?_) rfl rfl (by kernel_rfl) (by kernel_rfl) (by kernel_rfl) (fun _ _ _ h => h) (by rfl) hHeld (fun w hSw => ?_) ?_
        rotate_left 1
        · (try dsimp only at hSw)
          clear hSw
          go_simp
          try with_reducible rfl
        simp only [List.set_cons_succ, List.set_cons_zero]
        refine onlyL 9 rfl (by kernel_rfl) (by rfl) (fun K hK => ?_)
        go_wp2_with fail
        have hb : Below k2_.heap.size k2_ (k2_.alloc (.cells #[.slice none 0 0, .int .u64 0, .int .u64 0] 30)) := (Below.refl _ _).alloc (Nat.le_refl _) _
        have bT := SBox.new k2_ (.slice none 0 0) 0 0
        have z9 := hz
        replace b0 := b0.grown hb
        replace b1 := b1.grown hb
        replace sy := sy.below hb
        replace sz := sz.below hb
        replace bS := bS.grown hb
        replace sz2 := sz2.below hb
        replace hW := hW.trans (hb.mono hz)
        replace hz := Nat.le_trans hz hb.size
        clear hb
        refine hK.out _ _ hW (fun hHeld => ?_)
        clear hK K
        generalize k2_.alloc (.cells #[.slice none 0 0, .int .u64 0, .int .u64 0] 30) = k3_ at *
        generalize k2_.heap.size = g9 at *
        have q0 := bT.c0
        have q1 := bT.c1
        have q2 := bT.c2
        have q3 := bT.frozen 0
        have q4 := bT.frozen 1
        have q5 := bT.frozen 2
        refine onlyL 10 rfl (by kernel_rfl) (by rfl) (fun K hK => ?_)
        go_wp2_with fail
        clear q0 q1 q2 q3 q4 q5
        replace hW := ((hW.setCell (p := ⟨g9, 0, none⟩) z9 (.slice z2 ny cz2)).setCell (p := ⟨g9, 1, none⟩) z9 (.int .u64 (nv t2.1))).setCell (p := ⟨g9, 2, none⟩) z9 (.int .u64 (nv t2.2))
        replace sz2 := sat_other sz2 bT (.slice z2 ny cz2) (.int .u64 (nv t2.1)) (.int .u64 (nv t2.2))
        replace bT := bT.put3 (.slice z2 ny cz2) (nv t2.1) (nv t2.2)
        refine hK.out _ _ hW (fun hHeld => ?_)
        clear hK K
        refine takeA 11 10 31 rfl rfl rfl (by kernel_rfl) (by kernel_rfl) (by kernel_rfl) (fun _ _ _ h => h) (by rfl) hHeld rfl ?_
        simp only [List.set_cons_succ, List.set_cons_zero]
        refine wpAnyH_done (by kernel_rfl) ?_ _
        go_wp2_with fail
        go_meet
        exact ⟨g9, z2, cz2, rfl, rfl, bT, sz2, hW⟩
      · go_wp2_with fail
        have hb : Below k1_.heap.size k1_ (k1_.alloc (.cells #[.slice none 0 0, .int .u64 0, .int .u64 0] 30)) := (Below.refl _ _).alloc (Nat.le_refl _) _
        have bT := SBox.new k1_ (.slice none 0 0) 0 0
        have z9 := hz
        replace b0 := b0.grown hb
        replace b1 := b1.grown hb
        replace sy := sy.below hb
        replace sz := sz.below hb
        replace bS := bS.grown hb
        replace rb := rb.below hb
        replace hW := hW.trans (hb.mono hz)
        replace hz := Nat.le_trans hz hb.size
        clear hb
        refine hK.out _ _ hW (fun hHeld => ?_)
        clear hK K
        generalize k1_.alloc (.cells #[.slice none 0 0, .int .u64 0, .int .u64 0] 30) = k2_ at *
        generalize k1_.heap.size = g9 at *
        refine onlyL 5 rfl (by kernel_rfl) (by rfl) (fun K hK => ?_)
        go_wp2_with fail
        refine (seal_at hSi key n rfl rfl rfl rfl rfl [] (List.replicate ny 0) none (some ⟨g4, 0, none⟩) 0 ny 0 ny (by decide) (by omega) HS.out HZ.out HT2.out bytes_nil (zeros_bytes ny) (Nat.le_refl _) (Nat.le_refl _) (fun _ => ⟨rfl, rfl⟩) (fun e => by cases e) _ (SAt.none _ _) rb).mono ?_
        rintro e k3_ ⟨⟨z2, cz2, rfl, sz2, hcz2, -, znil2⟩, hb⟩
        replace b0 := b0.grown hb
        replace b1 := b1.grown hb
        replace sy := sy.below hb
        replace sz := sz.below hb
        replace bS := bS.grown hb
        replace bT := bT.grown hb
        replace hW := hW.trans (hb.mono hz)
        replace hz := Nat.le_trans hz hb.size
        clear hb
        refine hK.out _ _ hW (fun hHeld => ?_)
        clear hK K
        clear rb
        refine takeM 6 23 29 rfl rfl rfl (by kernel_rfl) (by kernel_rfl) (by kernel_rfl) (fun _ _ _ h => h) (by rfl) hHeld rfl ?_
        simp only [List.set_cons_succ, List.set_cons_zero]
        refine takeL 7 30 (v := ?_) rfl rfl (by kernel_rfl) (by kernel_rfl) (by kernel_rfl) (fun _ _ _ h => h) (by rfl) hHeld (fun w hSw => ?_) ?_
        rotate_left 1
        · (try dsimp only at hSw)
          clear hSw
          go_simp
          try with_reducible rfl
        simp only [List.set_cons_succ, List.set_cons_zero]
        refine takeL 8 31 (v := ?_) rfl rfl (by kernel_rfl) (by kernel_rfl) (by kernel_rfl) (fun _ _ _ h => h) (by rfl) hHeld (fun w hSw => ?_) ?_
        rotate_left 1
        · (try dsimp only at hSw)
          clear hSw
          go_simp
          try with_reducible rfl
        simp only [List.set_cons_succ, List.set_cons_zero]
        have q0 := bT.c0
        have q1 := bT.c1
        have q2 := bT.c2
        have q3 := bT.frozen 0
        have q4 := bT.frozen 1
        have q5 := bT.frozen 2
        refine onlyL 10 rfl (by kernel_rfl) (by rfl) (fun K hK => ?_)
        go_wp2_with fail
        clear q0 q1 q2 q3 q4 q5
        replace hW := ((hW.setCell (p := ⟨g9, 0, none⟩) z9 (.slice z2 ny cz2)).setCell (p := ⟨g9, 1, none⟩) z9 (.int .u64 (nv t2.1))).setCell (p := ⟨g9, 2, none⟩) z9 (.int .u64 (nv t2.2))
        replace sz2 := sat_other sz2 bT (.slice z2 ny cz2) (.int .u64 (nv t2.1)) (.int .u64 (nv t2.2))
        replace bT := bT.put3 (.slice z2 ny cz2) (nv t2.1) (nv t2.2)
        refine hK.out _ _ hW (fun hHeld => ?_)
        clear hK K
        refine takeA 11 10 31 rfl rfl rfl (by kernel_rfl) (by kernel_rfl) (by kernel_rfl) (fun _ _ _ h => h) (by rfl) hHeld rfl ?_
        simp only [List.set_cons_succ, List.set_cons_zero]
        refine wpAnyH_done (by kernel_rfl) ?_ _
        go_wp2_with fail
        go_meet
        exact ⟨g9, z2, cz2, rfl, rfl, bT, sz2, hW⟩
    · go_wp2_with fail
      have hb : Below k0_.heap.size k0_ (k0_.alloc (.cells #[.slice none 0 0, .int .u64 0, .int .u64 0] 30)) := (Below.refl _ _).alloc (Nat.le_refl _) _
      have bT := SBox.new k0_ (.slice none 0 0) 0 0
      have z9 := hz
      replace b0 := b0.grown hb
      replace b1 := b1.grown hb
      replace sy := sy.below hb
      replace sz := sz.below hb
      replace bS := bS.grown hb
      replace hW := hW.trans (hb.mono hz)
      replace hz := Nat.le_trans hz hb.size
      clear hb
      refine hK.out _ _ hW (fun hHeld => ?_)
      clear hK K
      generalize k0_.alloc (.cells #[.slice none 0 0, .int .u64 0, .int .u64 0] 30) = k1_ at *
      generalize k0_.heap.size = g9 at *
      refine onlyL 4 rfl (by kernel_rfl) (by rfl) (fun K hK => ?_)
      go_wp2_with fail
      have hb : Below k1_.heap.size k1_ (k1_.alloc (.cells (madeCells #[.int .u8 0] ny) 5)) := (Below.refl _ _).alloc (Nat.le_refl _) _
      have rb := (Row.made k1_ ny).sat (List.length_replicate (n := ny))
      replace b0 := b0.grown hb
      replace b1 := b1.grown hb
      replace sy := sy.below hb
      replace sz := sz.below hb
      replace bS := bS.grown hb
      replace bT := bT.grown hb
      replace hW := hW.trans (hb.mono hz)
      replace hz := Nat.le_trans hz hb.size
      clear hb
      refine hK.out _ _ hW (fun hHeld => ?_)
      clear hK K
      generalize k1_.alloc (.cells (madeCells #[.int .u8 0] ny) 5) = k2_ at *
      generalize k1_.heap.size = g4 at *
      refine onlyL 5 rfl (by kernel_rfl) (by rfl) (fun K hK => ?_)
      go_wp2_with fail
      refine (seal_at hSi key n rfl rfl rfl rfl rfl [] (List.replicate ny 0) none (some ⟨g4, 0, none⟩) 0 ny 0 ny (by decide) (by omega) HS.out HZ.out HT2.out bytes_nil (zeros_bytes ny) (Nat.le_refl _) (Nat.le_refl _) (fun _ => ⟨rfl, rfl⟩) (fun e => by cases e) _ (SAt.none _ _) rb).mono ?_
      rintro e k3_ ⟨⟨z2, cz2, rfl, sz2, hcz2, -, znil2⟩, hb⟩
      replace b0 := b0.grown hb
      replace b1 := b1.grown hb
      replace sy := sy.below hb
      replace sz := sz.below hb
      replace bS := bS.grown hb
      replace bT := bT.grown hb
      replace hW := hW.trans (hb.mono hz)
      replace hz := Nat.le_trans hz hb.size
      clear hb
      refine hK.out _ _ hW (fun hHeld => ?_)
      clear hK K
      clear rb
      refine takeM 6 23 29 rfl rfl rfl (by kernel_rfl) (by kernel_rfl) (by kernel_rfl) (fun _ _ _ h => h) (by rfl) hHeld rfl ?_
      simp only [List.set_cons_succ, List.set_cons_zero]
      refine takeL 7 30 (v := ?_) rfl rfl (by kernel_rfl) (by kernel_rfl) (by kernel_rfl) (fun _ _ _ h => h) (by rfl) hHeld (fun w hSw => ?_) ?_
      rotate_left 1
      · (try dsimp only at hSw)
        clear hSw
        go_simp
        try with_reducible rfl
      simp only [List.set_cons_succ, List.set_cons_zero]
      refine takeL 8 31 (v := ?_) rfl rfl (by kernel_rfl) (by kernel_rfl) (by kernel_rfl) (fun _ _ _ h => h) (by rfl) hHeld (fun w hSw => ?_) ?_
      rotate_left 1
      · (try dsimp only at hSw)
        clear hSw
        go_simp
        try with_reducible rfl
      simp only [List.set_cons_succ, List.set_cons_zero]
      have q0 := bT.c0
      have q1 := bT.c1
      have q2 := bT.c2
      have q3 := bT.frozen 0
      have q4 := bT.frozen 1
      have q5 := bT.frozen 2
      refine onlyL 10 rfl (by kernel_rfl) (by rfl) (fun K hK => ?_)
      go_wp2_with fail
      clear q0 q1 q2 q3 q4 q5
      replace hW := ((hW.setCell (p := ⟨g9, 0, none⟩) z9 (.slice z2 ny cz2)).setCell (p := ⟨g9, 1, none⟩) z9 (.int .u64 (nv t2.1))).setCell (p := ⟨g9, 2, none⟩) z9 (.int .u64 (nv t2.2))
      replace sz2 := sat_other sz2 bT (.slice z2 ny cz2) (.int .u64 (nv t2.1)) (.int .u64 (nv t2.2))
      replace bT := bT.put3 (.slice z2 ny cz2) (nv t2.1) (nv t2.2)
      refine hK.out _ _ hW (fun hHeld => ?_)
      clear hK K
      refine takeA 11 10 31 rfl rfl rfl (by kernel_rfl) (by kernel_rfl) (by kernel_rfl) (fun _ _ _ h => h) (by rfl) hHeld rfl ?_
      simp only [List.set_cons_succ, List.set_cons_zero]
      refine wpAnyH_done (by kernel_rfl) ?_ _
      go_wp2_with fail
      go_meet
      exact ⟨g9, z2, cz2, rfl, rfl, bT, sz2, hW⟩
  case rest =>
    obtain ⟨g9, z2, cz2, rfl, rfl, bT, sz2, hb⟩ := hcut
    replace b0 := b0.grown hb
    replace b1 := b1.grown hb
    replace sy := sy.below hb
    replace sz := sz.below hb
    replace bS := bS.grown hb
    replace hB := hB.trans (hb.mono hB.size)
    clear hb hmk
    go_wp2_with fail
    refine wp_region_held_drew (S := fun w' => Below wc.heap.size wc w') (by kernel_rfl) (Below.refl _ _).drew (fun hHeld => ?_)
    refine takeM 0 32 8 rfl rfl rfl (by kernel_rfl) (by kernel_rfl) (by kernel_rfl) (fun _ _ _ h => h) (by rfl) hHeld rfl ?_
    simp only [List.set_cons_succ, List.set_cons_zero]
    refine takeM 1 33 32 rfl rfl rfl (by kernel_rfl) (by kernel_rfl) (by kernel_rfl) (fun _ _ _ h => h) (by rfl) hHeld rfl ?_
    simp only [List.set_cons_succ, List.set_cons_zero]
    refine takeM 2 34 10 rfl rfl rfl (by kernel_rfl) (by kernel_rfl) (by kernel_rfl) (fun _ _ _ h => h) (by rfl) hHeld rfl ?_
    simp only [List.set_cons_succ, List.set_cons_zero]
    refine takeL 3 35 (v := ?_) rfl rfl (by kernel_rfl) (by kernel_rfl) (by kernel_rfl) (fun _ _ _ h => h) (by rfl) hHeld (fun w hSw => ?_) ?_
    rotate_left 1
    · (try dsimp only at hSw)
      clear hSw
      go_simp
      try with_reducible rfl
    simp only [List.set_cons_succ, List.set_cons_zero]
    refine takeM 4 36 35 rfl rfl rfl (by kernel_rfl) (by kernel_rfl) (by kernel_rfl) (fun _ _ _ h => h) (by rfl) hHeld rfl ?_
    simp only [List.set_cons_succ, List.set_cons_zero]
    refine takeL 5 37 (v := ?_) rfl rfl (by kernel_rfl) (by kernel_rfl) (by kernel_rfl) (fun _ _ _ h => h) (by rfl) hHeld (fun w hSw => ?_) ?_
    rotate_left 1
    · (try dsimp only at hSw)
      clear hSw
      go_simp
      try with_reducible rfl
    simp only [List.set_cons_succ, List.set_cons_zero]
    refine takeL 6 38 (v := ?_) rfl rfl (by kernel_rfl) (by kernel_rfl) (by kernel_rfl) (fun _ _ _ h => h) (by rfl) hHeld (fun w hSw => ?_) ?_
    rotate_left 1
    · (try dsimp only at hSw)
      have e0_ := (b0.grown hSw).c0
      have e1_ := (b0.grown hSw).c1
      have e2_ := (b1.grown hSw).c0
      have e3_ := (b1.grown hSw).c1
      have e4_ := (b1.grown hSw).c2
      have e5_ := (bS.grown hSw).c0
      have e6_ := (bS.grown hSw).c1
      have e7_ := (bS.grown hSw).c2
      have e8_ := (bT.grown hSw).c0
      have e9_ := (bT.grown hSw).c1
      have e10_ := (bT.grown hSw).c2
      clear hSw
      go_simp
      try with_reducible rfl
    simp only [List.set_cons_succ, List.set_cons_zero]
    refine takeM 7 39 2 rfl rfl rfl (by kernel_rfl) (by kernel_rfl) (by kernel_rfl) (fun _ _ _ h => h) (by rfl) hHeld rfl ?_
    simp only [List.set_cons_succ, List.set_cons_zero]
    refine takeL 10 42 (v := ?_) rfl rfl (by kernel_rfl) (by kernel_rfl) (by kernel_rfl) (fun _ _ _ h => h) (by rfl) hHeld (fun w hSw => ?_) ?_
    rotate_left 1
    · (try dsimp only at hSw)
      clear hSw
      go_simp
      try with_reducible rfl
    simp only [List.set_cons_succ, List.set_cons_zero]
    refine takeL 11 43 (v := ?_) rfl rfl (by kernel_rfl) (by kernel_rfl) (by kernel_rfl) (fun _ _ _ h => h) (by rfl) hHeld (fun w hSw => ?_) ?_
    rotate_left 1
    · (try dsimp only at hSw)
      have e0_ := (b0.grown hSw).c0
      have e1_ := (b0.grown hSw).c1
      have e2_ := (b1.grown hSw).c0
      have e3_ := (b1.grown hSw).c1
      have e4_ := (b1.grown hSw).c2
      have e5_ := (bS.grown hSw).c0
      have e6_ := (bS.grown hSw).c1
      have e7_ := (bS.grown hSw).c2
      have e8_ := (bT.grown hSw).c0
      have e9_ := (bT.grown hSw).c1
      have e10_ := (bT.grown hSw).c2
      clear hSw
      go_simp
      try with_reducible rfl
    simp only [List.set_cons_succ, List.set_cons_zero]
    refine takeL 12 44 (v := ?_) rfl rfl (by kernel_rfl) (by kernel_rfl) (by kernel_rfl) (fun _ _ _ h => h) (by rfl) hHeld (fun w hSw => ?_) ?_
    rotate_left 1
    · (try dsimp only at hSw)
      have e0_ := (b0.grown hSw).c0
      have e1_ := (b0.grown hSw).c1
      have e2_ := (b1.grown hSw).c0
      have e3_ := (b1.grown hSw).c1
      have e4_ := (b1.grown hSw).c2
      have e5_ := fun c => (sy.below hSw).conv (c := c)
      have e6_ := fun c => (sz.below hSw).conv (c := c)
      have e7_ := (bS.grown hSw).c0
      have e8_ := (bS.grown hSw).c1
      have e9_ := (bS.grown hSw).c2
      have e10_ := (bT.grown hSw).c0
      have e11_ := (bT.grown hSw).c1
      have e12_ := (bT.grown hSw).c2
      have e13_ := fun c => (sz2.below hSw).conv (c := c)
      clear hSw
      go_simp
      try with_reducible rfl
    simp only [List.set_cons_succ, List.set_cons_zero]
    refine onlyL 8 rfl (by kernel_rfl) (by rfl) (fun K hK => ?_)
    go_wp2_with fail
    refine (rxor ms ys z y ny ny cz d (by omega) (by omega) _ sz.drew sy.drew).mono ?_
    rintro e wq1_ ⟨⟨x3, l3, c3, rfl, s3, -, -, -⟩, hb⟩
    replace hb := (Below.refl _ _).drew.trans hb
    rw [HO.out] at s3
    replace b0 := b0.grown hb
    replace b1 := b1.grown hb
    replace sy := sy.below hb
    replace sz := sz.below hb
    replace bS := bS.grown hb
    replace bT := bT.grown hb
    replace sz2 := sz2.below hb
    replace hB := hB.trans (hb.mono hB.size)
    refine hK.out _ _ hb (fun _ => ?_)
    clear hK K hHeld
    refine held_more (S' := fun w' => Below wq1_.heap.size wq1_ w') (fun _ h => hb.trans (h.mono hb.size)) _ _ _ _ ?_
    have hHeld := Below.refl wq1_.heap.size wq1_
    clear hb
    refine takeL 9 41 (v := ?_) rfl rfl (by kernel_rfl) (by kernel_rfl) (by kernel_rfl) (fun _ _ _ h => h) (by rfl) hHeld (fun w hSw => ?_) ?_
    rotate_left 1
    · (try dsimp only at hSw)
      have e0_ := (b0.grown hSw).c0
      have e1_ := (b0.grown hSw).c1
      have e2_ := (b1.grown hSw).c0
      have e3_ := (b1.grown hSw).c1
      have e4_ := (b1.grown hSw).c2
      have e5_ := fun c => (sy.below hSw).conv (c := c)
      have e6_ := fun c => (sz.below hSw).conv (c := c)
      have e7_ := (bS.grown hSw).c0
      have e8_ := (bS.grown hSw).c1
      have e9_ := (bS.grown hSw).c2
      have e10_ := (bT.grown hSw).c0
      have e11_ := (bT.grown hSw).c1
      have e12_ := (bT.grown hSw).c2
      have e13_ := fun c => (sz2.below hSw).conv (c := c)
      have e14_ := fun c => (s3.below hSw).conv (c := c)
      clear hSw
      go_simp
      try with_reducible rfl
    simp only [List.set_cons_succ, List.set_cons_zero]
    refine takeL 13 45 (v := ?_) rfl rfl (by kernel_rfl) (by kernel_rfl) (by kernel_rfl) (fun _ _ _ h => h) (by rfl) hHeld (fun w hSw => ?_) ?_
    rotate_left 1
    · (try dsimp only at hSw)
      clear hSw
      go_simp
      try with_reducible rfl
    simp only [List.set_cons_succ, List.set_cons_zero]
    refine takeL 14 46 (v := ?_) rfl rfl (by kernel_rfl) (by kernel_rfl) (by kernel_rfl) (fun _ _ _ h => h) (by rfl) hHeld (fun w hSw => ?_) ?_
    rotate_left 1
    · (try dsimp only at hSw)
      clear hSw
      go_simp
      try with_reducible rfl
    simp only [List.set_cons_succ, List.set_cons_zero]
    refine takeM 15 47 46 rfl rfl rfl (by kernel_rfl) (by kernel_rfl) (by kernel_rfl) (fun _ _ _ h => h) (by rfl) hHeld rfl ?_
    simp only [List.set_cons_succ, List.set_cons_zero]
    refine takeL 16 48 (v := ?_) rfl rfl (by kernel_rfl) (by kernel_rfl) (by kernel_rfl) (fun _ _ _ h => h) (by rfl) hHeld (fun w hSw => ?_) ?_
    rotate_left 1
    · (try dsimp only at hSw)
      clear hSw
      go_simp
      try with_reducible rfl
    simp only [List.set_cons_succ, List.set_cons_zero]
    refine takeL 17 49 (v := ?_) rfl rfl (by kernel_rfl) (by kernel_rfl) (by kernel_rfl) (fun _ _ _ h => h) (by rfl) hHeld (fun w hSw => ?_) ?_
    rotate_left 1
    · (try dsimp only at hSw)
      have e0_ := (b0.grown hSw).c0
      have e1_ := (b0.grown hSw).c1
      have e2_ := (b1.grown hSw).c0
      have e3_ := (b1.grown hSw).c1
      have e4_ := (b1.grown hSw).c2
      have e5_ := (bS.grown hSw).c0
      have e6_ := (bS.grown hSw).c1
      have e7_ := (bS.grown hSw).c2
      have e8_ := (bT.grown hSw).c0
      have e9_ := (bT.grown hSw).c1
      have e10_ := (bT.grown hSw).c2
      clear hSw
      go_simp
      try with_reducible rfl
    simp only [List.set_cons_succ, List.set_cons_zero]
    refine takeL 19 51 (v := ?_) rfl rfl (by kernel_rfl) (by kernel_rfl) (by kernel_rfl) (fun _ _ _ h => h) (by rfl) hHeld (fun w hSw => ?_) ?_
    rotate_left 1
    · (try dsimp only at hSw)
      have e0_ := (b0.grown hSw).c0
      have e1_ := (b0.grown hSw).c1
      have e2_ := (b1.grown hSw).c0
      have e3_ := (b1.grown hSw).c1
      have e4_ := (b1.grown hSw).c2
      have e5_ := (bS.grown hSw).c0
      have e6_ := (bS.grown hSw).c1
      have e7_ := (bS.grown hSw).c2
      have e8_ := (bT.grown hSw).c0
      have e9_ := (bT.grown hSw).c1
      have e10_ := (bT.grown hSw).c2
      clear hSw
      go_simp
      try with_reducible rfl
    simp only [List.set_cons_succ, List.set_cons_zero]
    refine takeL 20 52 (v := ?_) rfl rfl (by kernel_rfl) (by kernel_rfl) (by kernel_rfl) (fun _ _ _ h => h) (by rfl) hHeld (fun w hSw => ?_) ?_
    rotate_left 1
    · (try dsimp only at hSw)
      have e0_ := (b0.grown hSw).c0
      have e1_ := (b0.grown hSw).c1
      have e2_ := (b1.grown hSw).c0
      have e3_ := (b1.grown hSw).c1
      have e4_ := (b1.grown hSw).c2
      have e5_ := (bS.grown hSw).c0
      have e6_ := (bS.grown hSw).c1
      have e7_ := (bS.grown hSw).c2
      have e8_ := (bT.grown hSw).c0
      have e9_ := (bT.grown hSw).c1
      have e10_ := (bT.grown hSw).c2
      clear hSw
      go_simp
      try with_reducible rfl
    simp only [List.set_cons_succ, List.set_cons_zero]
    refine takeM 22 54 2 rfl rfl rfl (by kernel_rfl) (by kernel_rfl) (by kernel_rfl) (fun _ _ _ h => h) (by rfl) hHeld rfl ?_
    simp only [List.set_cons_succ, List.set_cons_zero]
    refine takeL 23 55 (v := ?_) rfl rfl (by kernel_rfl) (by kernel_rfl) (by kernel_rfl) (fun _ _ _ h => h) (by rfl) hHeld (fun w hSw => ?_) ?_
    rotate_left 1
    · (try dsimp only at hSw)
      clear hSw
      go_simp
      try with_reducible rfl
    simp only [List.set_cons_succ, List.set_cons_zero]
    refine takeL 18 50 (v := ?_) rfl rfl (by kernel_rfl) (by kernel_rfl) (by kernel_rfl) (fun _ _ _ h => h) (by rfl) hHeld (fun w hSw => ?_) ?_
    rotate_left 1
    · (try dsimp only at hSw)
      have e0_ := (b0.grown hSw).c0
      have e1_ := (b0.grown hSw).c1
      have e2_ := (b1.grown hSw).c0
      have e3_ := (b1.grown hSw).c1
      have e4_ := (b1.grown hSw).c2
      have e5_ := fun c => (sy.below hSw).conv (c := c)
      have e6_ := fun c => (sz.below hSw).conv (c := c)
      have e7_ := (bS.grown hSw).c0
      have e8_ := (bS.grown hSw).c1
      have e9_ := (bS.grown hSw).c2
      have e10_ := (bT.grown hSw).c0
      have e11_ := (bT.grown hSw).c1
      have e12_ := (bT.grown hSw).c2
      have e13_ := fun c => (sz2.below hSw).conv (c := c)
      have e14_ := fun c => (s3.below hSw).conv (c := c)
      clear hSw
      go_simp
      try with_reducible rfl
    simp only [List.set_cons_succ, List.set_cons_zero]
    refine onlyL 21 rfl (by kernel_rfl) (by rfl) (fun K hK => ?_)
    go_wp2_with fail
    refine (rsub_of key n HS.out _).mono ?_
    rintro e wq2_ ⟨rfl, hb⟩
    replace b0 := b0.grown hb
    replace b1 := b1.grown hb
    replace sy := sy.below hb
    replace sz := sz.below hb
    replace bS := bS.grown hb
    replace bT := bT.grown hb
    replace sz2 := sz2.below hb
    replace s3 := s3.below hb
    replace hB := hB.trans (hb.mono hB.size)
    refine hK.out _ _ hb (fun _ => ?_)
    clear hK K hHeld
    refine held_more (S' := fun w' => Below wq2_.heap.size wq2_ w') (fun _ h => hb.trans (h.mono hb.size)) _ _ _ _ ?_
    have hHeld := Below.refl wq2_.heap.size wq2_
    clear hb
    refine onlyL 24 rfl (by kernel_rfl) (by rfl) (fun K hK => ?_)
    go_wp2_with fail
    refine (rflow_at sub ny (by omega) rfl rfl rfl _).mono ?_
    rintro e wq3_ ⟨⟨x4, c4, rfl, s4, -, -, -⟩, hb⟩
    rw [HF.out] at s4
    replace b0 := b0.grown hb
    replace b1 := b1.grown hb
    replace sy := sy.below hb
    replace sz := sz.below hb
    replace bS := bS.grown hb
    replace bT := bT.grown hb
    replace sz2 := sz2.below hb
    replace s3 := s3.below hb
    replace hB := hB.trans (hb.mono hB.size)
    refine hK.out _ _ hb (fun _ => ?_)
    clear hK K hHeld
    refine held_more (S' := fun w' => Below wq3_.heap.size wq3_ w') (fun _ h => hb.trans (h.mono hb.size)) _ _ _ _ ?_
    have hHeld := Below.refl wq3_.heap.size wq3_
    clear hb
    refine takeL 25 57 (v := ?_) rfl rfl (by kernel_rfl) (by kernel_rfl) (by kernel_rfl) (fun _ _ _ h => h) (by rfl) hHeld (fun w hSw => ?_) ?_
    rotate_left 1
    · (try dsimp only at hSw)
      have e0_ := (b0.grown hSw).c0
      have e1_ := (b0.grown hSw).c1
      have e2_ := (b1.grown hSw).c0
      have e3_ := (b1.grown hSw).c1
      have e4_ := (b1.grown hSw).c2
      have e5_ := fun c => (sy.below hSw).conv (c := c)
      have e6_ := fun c => (sz.below hSw).conv (c := c)
      have e7_ := (bS.grown hSw).c0
      have e8_ := (bS.grown hSw).c1
      have e9_ := (bS.grown hSw).c2
      have e10_ := (bT.grown hSw).c0
      have e11_ := (bT.grown hSw).c1
      have e12_ := (bT.grown hSw).c2
      have e13_ := fun c => (sz2.below hSw).conv (c := c)
      have e14_ := fun c => (s3.below hSw).conv (c := c)
      have e15_ := fun c => (s4.below hSw).conv (c := c)
      clear hSw
      go_simp
      try with_reducible rfl
    simp only [List.set_cons_succ, List.set_cons_zero]
    refine takeL 26 58 (v := ?_) rfl rfl (by kernel_rfl) (by kernel_rfl) (by kernel_rfl) (fun _ _ _ h => h) (by rfl) hHeld (fun w hSw => ?_) ?_
    rotate_left 1
    · (try dsimp only at hSw)
      clear hSw
      go_simp
      try with_reducible rfl
    simp only [List.set_cons_succ, List.set_cons_zero]
    refine takeL 27 59 (v := ?_) rfl rfl (by kernel_rfl) (by kernel_rfl) (by kernel_rfl) (fun _ _ _ h => h) (by rfl) hHeld (fun w hSw => ?_) ?_
    rotate_left 1
    · (try dsimp only at hSw)
      clear hSw
      go_simp
      try with_reducible rfl
    simp only [List.set_cons_succ, List.set_cons_zero]
    refine takeM 28 60 59 rfl rfl rfl (by kernel_rfl) (by kernel_rfl) (by kernel_rfl) (fun _ _ _ h => h) (by rfl) hHeld rfl ?_
    simp only [List.set_cons_succ, List.set_cons_zero]
    refine onlyL 29 rfl (by kernel_rfl) (by rfl) (fun K hK => ?_)
    go_wp2_with fail
    refine (known_true hSi hOy _).mono ?_
    rintro e wq4_ ⟨rfl, hb⟩
    replace b0 := b0.grown hb
    replace b1 := b1.grown hb
    replace sy := sy.below hb
    replace sz := sz.below hb
    replace bS := bS.grown hb
    replace bT := bT.grown hb
    replace sz2 := sz2.below hb
    replace s3 := s3.below hb
    replace s4 := s4.below hb
    replace hB := hB.trans (hb.mono hB.size)
    refine hK.out _ _ hb (fun _ => ?_)
    clear hK K hHeld
    refine held_more (S' := fun w' => Below wq4_.heap.size wq4_ w') (fun _ h => hb.trans (h.mono hb.size)) _ _ _ _ ?_
    have hHeld := Below.refl wq4_.heap.size wq4_
    clear hb
    refine takeL 30 62 (v := ?_) rfl rfl (by kernel_rfl) (by kernel_rfl) (by kernel_rfl) (fun _ _ _ h => h) (by rfl) hHeld (fun w hSw => ?_) ?_
    rotate_left 1
    · (try dsimp only at hSw)
      clear hSw
      go_simp
      try with_reducible rfl
    simp only [List.set_cons_succ, List.set_cons_zero]
    refine takeA 31 6 62 rfl rfl rfl (by kernel_rfl) (by kernel_rfl) (by kernel_rfl) (fun _ _ _ h => h) (by rfl) hHeld rfl ?_
    simp only [List.set_cons_succ, List.set_cons_zero]
    refine wpAnyH_done (by kernel_rfl) ?_ _
    go_wp2
    go_ret
    exact ⟨rfl, hB⟩

end Go.Proofs.Ytafjhidkhboaiaa
