/- What the statements ask of the program's leaves; the statement's own example. -/
import Derived.Test.YtnfddebcnkdajaaRefLfG
namespace Go.Proofs.Ytnfddebcnkdajaa
open Go.RowKit
set_option maxRecDepth 20000

/-- What is asked of the program's leaves. -/
structure LfAll : Prop where
  is_ : LfIsIn 9
  putYes : LfPutYes 7
  putNo : LfPutNo 7
  get : LfGetIn 10
set_option maxHeartbeats 2000000 in
theorem lfknown (hO : LfAll) (w : World) : Calls Try.prog 11 #[] w fun e w' => e = .returned (.bool true) ∧ Below w.heap.size w w' := by
  have hn0 : nv32 0#32 = 0 := rfl
  have hn64 : nv 0#64 = 0 := rfl
  have hput := hO.putYes lf0 3 ⟨by decide, Or.inl rfl⟩
  unfold lfv at hput
  simp only [hn0, hn64] at hput
  obtain ⟨Z, hZ⟩ : ∃ Z, List.replicate 32 (0 : Int) = Z := ⟨_, rfl⟩
  have hL : lfL lf0 = Z := by rw [← hZ]; decide +kernel
  rw [hL] at hput
  have hmk : ∀ w : World, (Instr.makeSlice 30 (.int .i64 32) (.int .i64 32)).run Try.prog w = .ok (.slice (some ⟨w.heap.size, 0, none⟩) 32 32) (w.alloc (.cells (madeCells #[.int .u8 0] 32) 5)) := fun w => run_make_row' (P := Try.prog) 30 5 (.int .u8 0) 1 Try.underlying30 Try.info5 rfl .i64 .i64 32 (by decide) (by decide) w
  go_enter Try.func11, Try.ntmps11
  go_wp2_with fail
  refine (hput _).mono ?_
  clear hput hL
  rintro e w2 ⟨z, c, rfl, sz, fz, hB2⟩
  go_wp2_with fail
  refine startX (S := fun w' => Below w2.heap.size w2 w') 17 (by kernel_rfl) (Below.refl _ _).drew (fun hHeld => ?_)
  refine moveY 0 8 2 rfl rfl rfl (by kernel_rfl) (by kernel_rfl) (by kernel_rfl) (fun _ _ _ h => h) (by rfl) (by kernel_rfl) (by kernel_rfl) (by decide) hHeld rfl ?_
  simp only [List.set_cons_succ, List.set_cons_zero]
  refine moveY 1 9 8 rfl rfl rfl (by kernel_rfl) (by kernel_rfl) (by kernel_rfl) (fun _ _ _ h => h) (by rfl) (by kernel_rfl) (by kernel_rfl) (by decide) hHeld rfl ?_
  simp only [List.set_cons_succ, List.set_cons_zero]
  refine moveY 2 10 1 rfl rfl rfl (by kernel_rfl) (by kernel_rfl) (by kernel_rfl) (fun _ _ _ h => h) (by rfl) (by kernel_rfl) (by kernel_rfl) (by decide) hHeld rfl ?_
  simp only [List.set_cons_succ, List.set_cons_zero]
  refine takeY 3 11 (v := ?_) rfl rfl (by kernel_rfl) (by kernel_rfl) (by kernel_rfl) (fun _ _ _ h => h) (by rfl) (by kernel_rfl) (by kernel_rfl) (by decide) hHeld (fun w hSw => ?_) ?_
  rotate_left 1
  · (try dsimp only at hSw)
    have e0_ := (sz.sat.below hSw).conv (c := c)
    clear hSw
    go_simp
    try with_reducible rfl
  simp only [List.set_cons_succ, List.set_cons_zero]
  have hS0 : Below w2.heap.size w2 (w2.alloc (.cells (madeCells #[.int .u8 0] 32) 5)).drew := ((Below.refl _ _).alloc (Nat.le_refl _) _).drew
  have row : Row (w2.alloc (.cells (madeCells #[.int .u8 0] 32) 5)).drew w2.heap.size (List.replicate 32 0) := Row.made w2 32
  have cv := (row.sat (n := 32) List.length_replicate).conv (c := 32)
  rw [hZ] at cv
  refine onlyX 4 rfl (by kernel_rfl) (by rfl) (fun K hK => ?_)
  go_wp2_with fail
  refine hK.out _ _ (fun _ => hS0) (fun _ => ?_)
  clear hK K hHeld hmk row sz
  generalize (w2.alloc (.cells (madeCells #[.int .u8 0] 32) 5)).drew = w3 at *
  refine onlyX 5 rfl (by kernel_rfl) (by rfl) (fun K hK => ?_)
  go_wp2
  refine hK.out _ _ (fun _ => hS0) (fun _ => ?_)
  clear hK K
  refine onlyX 6 rfl (by kernel_rfl) (by rfl) (fun K hK => ?_)
  go_wp2
  refine hK.out _ _ (fun _ => hS0) (fun _ => ?_)
  clear hK K
  refine onlyX 7 rfl (by kernel_rfl) (by rfl) (fun K hK => ?_)
  go_wp2
  refine hK.out _ _ (fun _ => hS0) (fun _ => ?_)
  clear hK K
  refine onlyX 8 rfl (by kernel_rfl) (by rfl) (fun K hK => ?_)
  go_wp2
  refine hK.out _ _ (fun _ => hS0) (fun _ => ?_)
  clear hK K
  refine onlyX 9 rfl (by kernel_rfl) (by rfl) (fun K hK => ?_)
  go_wp2
  refine hK.out _ _ (fun _ => hS0) (fun _ => ?_)
  clear hK K
  have hi0 := hO.is_ lf0 0
  unfold lfv at hi0
  simp only [hn0, hn64] at hi0
  rw [show lfIs lf0 0 = true from by decide +kernel] at hi0
  refine onlyX 10 rfl (by kernel_rfl) (by rfl) (fun K hK => ?_)
  go_wp2_with fail
  refine (hi0 _).mono ?_
  rintro e w4 ⟨rfl, hb⟩
  have hS1 := hS0.trans (hb.mono hS0.size)
  refine hK.out _ _ (fun _ => hS1) (fun _ => ?_)
  clear hK K hb hi0 cv
  refine onlyX 11 rfl (by kernel_rfl) (by rfl) (fun K hK => ?_)
  go_wp2
  refine hK.out _ _ (fun _ => hS1) (fun _ => ?_)
  clear hK K
  refine onlyX 12 rfl (by kernel_rfl) (by rfl) (fun K hK => ?_)
  go_wp2
  refine hK.out _ _ (fun _ => hS1) (fun _ => ?_)
  clear hK K
  refine onlyX 13 rfl (by kernel_rfl) (by rfl) (fun K hK => ?_)
  go_wp2
  refine hK.out _ _ (fun _ => hS1) (fun _ => ?_)
  clear hK K
  have hi0 := hO.is_ lf0 16
  unfold lfv at hi0
  simp only [hn0, hn64] at hi0
  rw [show lfIs lf0 16 = false from by decide +kernel] at hi0
  refine onlyX 14 rfl (by kernel_rfl) (by rfl) (fun K hK => ?_)
  go_wp2_with fail
  refine (hi0 _).mono ?_
  rintro e w5 ⟨rfl, hb⟩
  have hS2 := hS1.trans (hb.mono hS1.size)
  refine hK.out _ _ (fun _ => hS2) (fun _ => ?_)
  clear hK K hb hi0
  refine onlyX 15 rfl (by kernel_rfl) (by rfl) (fun K hK => ?_)
  go_wp2
  refine hK.out _ _ (fun _ => hS2) (fun _ => ?_)
  clear hK K
  refine onlyX 16 rfl (by kernel_rfl) (by rfl) (fun K hK => ?_)
  go_wp2
  refine hK.out _ _ (fun _ => hS2) (fun _ => ?_)
  clear hK K
  refine onlyX 17 rfl (by kernel_rfl) (by rfl) (fun K hK => ?_)
  go_wp2
  refine hK.out _ _ (fun h => absurd rfl h) (fun _ => ?_)
  clear hK K
  refine doneX (by kernel_rfl) ?_ _
  go_wp2
  go_ret
  exact ⟨rfl, hB2.trans (hS2.mono hB2.size)⟩
set_option maxHeartbeats 4000000 in
theorem lfputs (hO : LfAll) (l : Lf) (slot : Int) (w : World) : Calls Try.prog 3 #[lfv l, .int .i64 slot] w fun e w' => e = .returned (.bool true) ∧ Below w.heap.size w w' := by
  have hkn := lfknown hO
  have heq := eqL l l
  rw [decide_eq_true rfl] at heq
  have hB0 : Below w.heap.size w (w.alloc (.cells (lfC l).toArray 29)) := (Below.refl _ _).alloc (Nat.le_refl _) _
  have bx0 : LfBx (w.alloc (.cells (lfC l).toArray 29)) w.heap.size l := CBox.new _ _ _
  have hn0 : nv32 0#32 = 0 := rfl
  have hn64 : nv 0#64 = 0 := rfl
  by_cases ho : lfOk l slot
  · have p1 := hO.putYes l slot ho
    have p2 := rlput_yes l slot ho
    have p3 := hO.is_ l slot
    rw [show lfIs l slot = true from decide_eq_true ho] at p3
    have p4 := fun x c fx => hO.get x 32 c (lfL l) slot fx (lfL_bytes l)
    rw [lfRes_L l slot ho] at p4
    obtain ⟨xs, hxs⟩ : ∃ xs, lfL l = xs := ⟨_, rfl⟩
    rw [hxs] at p1 p2 p4
    clear ho hxs
    obtain ⟨k, d, lb, ep, sl, ve, t1, t2⟩ := l
    unfold lfv at p1 p2 p3 p4 heq ⊢
    dsimp only at p1 p2 p3 p4 heq ⊢
    unfold lfC at hB0
    dsimp only at hB0
    have bx1 : LfBx (w.alloc (.cells #[.int .i64 k, .bool d, .int .i64 lb, .int .u32 (nv32 ep), .int .u32 (nv32 sl), .int .u64 (nv ve), .int .u64 (nv t1), .int .u64 (nv t2)] 29)) w.heap.size ⟨k, d, lb, ep, sl, ve, t1, t2⟩ := bx0
    clear bx0
    have bx0 := bx1
    clear bx1
    go_enter Try.func3, Try.ntmps3
    go_wp2_with fail
    generalize (w.alloc (.cells #[.int .i64 k, .bool d, .int .i64 lb, .int .u32 (nv32 ep), .int .u32 (nv32 sl), .int .u64 (nv ve), .int .u64 (nv t1), .int .u64 (nv t2)] 29)) = W at *
    refine (p1 _).mono ?_
    rintro e w1 ⟨z1, c1, rfl, s1, f1, hb⟩
    have hB1 := hB0.trans (hb.mono hB0.size)
    replace bx0 := bx0.grown hb
    have s1 := s1.sat
    have c0_ := LfBx.c0 bx0
    have c1_ := LfBx.c1 bx0
    have c2_ := LfBx.c2 bx0
    have c3_ := LfBx.c3 bx0
    have c4_ := LfBx.c4 bx0
    have c5_ := LfBx.c5 bx0
    have c6_ := LfBx.c6 bx0
    have c7_ := LfBx.c7 bx0
    dsimp only at c0_ c1_ c2_ c3_ c4_ c5_ c6_ c7_
    go_wp2_with fail
    refine (p2 _).mono ?_
    clear c0_ c1_ c2_ c3_ c4_ c5_ c6_ c7_
    rintro e w2 ⟨z2, c2, rfl, s2, f2, hb⟩
    have hB2 := hB1.trans (hb.mono hB1.size)
    replace bx0 := bx0.grown hb
    replace s1 := s1.below hb
    have c0_ := LfBx.c0 bx0
    have c1_ := LfBx.c1 bx0
    have c2_ := LfBx.c2 bx0
    have c3_ := LfBx.c3 bx0
    have c4_ := LfBx.c4 bx0
    have c5_ := LfBx.c5 bx0
    have c6_ := LfBx.c6 bx0
    have c7_ := LfBx.c7 bx0
    dsimp only at c0_ c1_ c2_ c3_ c4_ c5_ c6_ c7_
    have v1 := s1.conv (c := c1)
    have v2 := s2.sat.conv (c := c2)
    go_wp2_with fail
    refine (p3 _).mono ?_
    clear c0_ c1_ c2_ c3_ c4_ c5_ c6_ c7_
    rintro e w3 ⟨rfl, hb⟩
    have hB3 := hB2.trans (hb.mono hB2.size)
    replace bx0 := bx0.grown hb
    replace s1 := s1.below hb
    clear v1 v2 s2
    have p5 := p4 z1 c1 f1 w3 s1
    go_wp2_with fail
    refine p5.mono ?_
    clear p5
    rintro e w4 ⟨rfl, hb⟩
    have hB4 := hB3.trans (hb.mono hB3.size)
    replace bx0 := bx0.grown hb
    have hb : Below w4.heap.size w4 (w4.alloc (.cells #[.int .i64 k, .bool d, .int .i64 lb, .int .u32 (nv32 ep), .int .u32 (nv32 sl), .int .u64 (nv ve), .int .u64 (nv t1), .int .u64 (nv t2)] 29)) := (Below.refl _ _).alloc (Nat.le_refl _) _
    have hB5 := hB4.trans (hb.mono hB4.size)
    replace bx0 := bx0.grown hb
    have by0 : LfBx (w4.alloc (.cells #[.int .i64 k, .bool d, .int .i64 lb, .int .u32 (nv32 ep), .int .u32 (nv32 sl), .int .u64 (nv ve), .int .u64 (nv t1), .int .u64 (nv t2)] 29)) w4.heap.size ⟨k, d, lb, ep, sl, ve, t1, t2⟩ := LfBx.new w4 ⟨k, d, lb, ep, sl, ve, t1, t2⟩
    have c0_ := LfBx.c0 bx0
    have c1_ := LfBx.c1 bx0
    have c2_ := LfBx.c2 bx0
    have c3_ := LfBx.c3 bx0
    have c4_ := LfBx.c4 bx0
    have c5_ := LfBx.c5 bx0
    have c6_ := LfBx.c6 bx0
    have c7_ := LfBx.c7 bx0
    dsimp only at c0_ c1_ c2_ c3_ c4_ c5_ c6_ c7_
    have g0_ := LfBx.c0 by0
    have g1_ := LfBx.c1 by0
    have g2_ := LfBx.c2 by0
    have g3_ := LfBx.c3 by0
    have g4_ := LfBx.c4 by0
    have g5_ := LfBx.c5 by0
    have g6_ := LfBx.c6 by0
    have g7_ := LfBx.c7 by0
    dsimp only at g0_ g1_ g2_ g3_ g4_ g5_ g6_ g7_
    go_wp2_with fail
    refine (hkn _).mono ?_
    clear c0_ c1_ c2_ c3_ c4_ c5_ c6_ c7_
    clear g0_ g1_ g2_ g3_ g4_ g5_ g6_ g7_
    rintro e w6 ⟨rfl, hb⟩
    have hB6 := hB5.trans (hb.mono hB5.size)
    go_wp2
    go_ret
    exact ⟨rfl, hB6⟩
  · have p1 := hO.putNo l slot ho
    have p2 := rlput_no l slot ho
    have p3 := hO.is_ l slot
    rw [show lfIs l slot = false from decide_eq_false ho] at p3
    have p4 := fun x c fx => hO.get x 0 c [] slot fx (fun x hx => by cases hx)
    rw [lfRes_no [] slot (by decide)] at p4
    clear ho
    obtain ⟨k, d, lb, ep, sl, ve, t1, t2⟩ := l
    unfold lfv at p1 p2 p3 p4 ⊢
    dsimp only at p1 p2 p3 p4 ⊢
    unfold lfC at hB0
    dsimp only at hB0
    have bx1 : LfBx (w.alloc (.cells #[.int .i64 k, .bool d, .int .i64 lb, .int .u32 (nv32 ep), .int .u32 (nv32 sl), .int .u64 (nv ve), .int .u64 (nv t1), .int .u64 (nv t2)] 29)) w.heap.size ⟨k, d, lb, ep, sl, ve, t1, t2⟩ := bx0
    clear bx0
    have bx0 := bx1
    clear bx1
    go_enter Try.func3, Try.ntmps3
    go_wp2_with fail
    generalize (w.alloc (.cells #[.int .i64 k, .bool d, .int .i64 lb, .int .u32 (nv32 ep), .int .u32 (nv32 sl), .int .u64 (nv ve), .int .u64 (nv t1), .int .u64 (nv t2)] 29)) = W at *
    simp only [hn0, hn64] at p4
    refine (p1 _).mono ?_
    rintro e w1 ⟨z1, c1, rfl, f1, hb⟩
    have hB1 := hB0.trans (hb.mono hB0.size)
    replace bx0 := bx0.grown hb
    have c0_ := LfBx.c0 bx0
    have c1_ := LfBx.c1 bx0
    have c2_ := LfBx.c2 bx0
    have c3_ := LfBx.c3 bx0
    have c4_ := LfBx.c4 bx0
    have c5_ := LfBx.c5 bx0
    have c6_ := LfBx.c6 bx0
    have c7_ := LfBx.c7 bx0
    dsimp only at c0_ c1_ c2_ c3_ c4_ c5_ c6_ c7_
    go_wp2_with fail
    refine (p2 _).mono ?_
    clear c0_ c1_ c2_ c3_ c4_ c5_ c6_ c7_
    rintro e w2 ⟨z2, c2, rfl, f2, hb⟩
    have hB2 := hB1.trans (hb.mono hB1.size)
    replace bx0 := bx0.grown hb
    have c0_ := LfBx.c0 bx0
    have c1_ := LfBx.c1 bx0
    have c2_ := LfBx.c2 bx0
    have c3_ := LfBx.c3 bx0
    have c4_ := LfBx.c4 bx0
    have c5_ := LfBx.c5 bx0
    have c6_ := LfBx.c6 bx0
    have c7_ := LfBx.c7 bx0
    dsimp only at c0_ c1_ c2_ c3_ c4_ c5_ c6_ c7_
    have v1 := conv_empty z1 c1 w2
    have v2 := conv_empty z2 c2 w2
    go_wp2_with fail
    refine (p3 _).mono ?_
    clear c0_ c1_ c2_ c3_ c4_ c5_ c6_ c7_
    rintro e w3 ⟨rfl, hb⟩
    have hB3 := hB2.trans (hb.mono hB2.size)
    clear v1 v2
    have p5 := p4 z1 c1 f1 w3 (SAt.none _ _)
    go_wp2_with fail
    refine p5.mono ?_
    clear p5
    rintro e w4 ⟨rfl, hb⟩
    have hB4 := hB3.trans (hb.mono hB3.size)
    have hb : Below w4.heap.size w4 (w4.alloc (.cells #[.int .i64 0, .bool false, .int .i64 0, .int .u32 0, .int .u32 0, .int .u64 0, .int .u64 0, .int .u64 0] 29)) := (Below.refl _ _).alloc (Nat.le_refl _) _
    have hB5 := hB4.trans (hb.mono hB4.size)
    go_wp2_with fail
    refine (hkn _).mono ?_
    rintro e w6 ⟨rfl, hb⟩
    have hB6 := hB5.trans (hb.mono hB5.size)
    go_wp2
    go_ret
    exact ⟨rfl, hB6⟩
end Go.Proofs.Ytnfddebcnkdajaa
