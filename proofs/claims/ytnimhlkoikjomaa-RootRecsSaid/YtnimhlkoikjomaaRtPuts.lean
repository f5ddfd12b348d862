/- What the statements ask of the program's roots; any root as bytes, and back. -/
import Derived.Test.YtnimhlkoikjomaaRefRc
namespace Go.Proofs.Ytnimhlkoikjomaa
open Go.RowKit
set_option maxRecDepth 20000

/-- What is asked of the program's roots. -/
structure RtAll : Prop where
  putYes : RtPutYes 7
  putNo : RtPutNo 7
  get : RtGetIn 9
set_option maxHeartbeats 2000000 in
theorem rtknown (hO : RtAll) (w : World) : Calls Try.prog 10 #[] w fun e w' => e = .returned (.bool true) ∧ Below w.heap.size w w' := by
  have p1 := hO.putYes ⟨1#64, 0#32, 4, (0#64, 0#64)⟩ (Or.inl rfl)
  have p2 := hO.putNo ⟨0#64, 0#32, 5, (0#64, 0#64)⟩ (by decide)
  unfold rtv at p1 p2
  simp only [show nv32 0#32 = 0 from rfl, show nv 0#64 = 0 from rfl, show nv 1#64 = 1 from rfl] at p1 p2
  obtain ⟨xs, hxs⟩ : ∃ xs, rtL ⟨1#64, 0#32, 4, (0#64, 0#64)⟩ = xs := ⟨_, rfl⟩
  have h7 : xs.getD 7 0 = 1 := by rw [← hxs]; decide +kernel
  rw [hxs] at p1
  clear hxs
  go_enter Try.func10, Try.ntmps10
  go_wp2_with fail
  refine (p1 _).mono ?_
  clear p1
  rintro e w1 ⟨z1, c1, rfl, s1, f1, hb1⟩
  obtain ⟨b, o, rfl, hbl, hgb, hat⟩ := s1.2 (by decide)
  go_wp2_with fail
  refine (p2 _).mono ?_
  clear p2
  rintro e w2 ⟨z2, c2, rfl, f2, hb2⟩
  have e7 : w2.cell? ⟨b, o + 7, none⟩ = some (.int .u8 1) := by
    have := (hat.below hb2 hbl) 7 (by rw [s1.1]; decide)
    rw [h7] at this
    exact this
  have hB := hb1.trans (hb2.mono hb1.size)
  clear hat h7 hgb
  go_wp2
  go_ret
  exact ⟨rfl, hB⟩
set_option maxHeartbeats 4000000 in
theorem rtputs (hO : RtAll) (r : Rt) (w : World) : Calls Try.prog 3 #[rtv r] w fun e w' => e = .returned (.bool true) ∧ Below w.heap.size w w' := by
  have hkn := rtknown hO
  by_cases ho : rtOk r
  · have heq := eqR r r
    rw [decide_eq_true rfl] at heq
    have p1 := hO.putYes r ho
    have p2 := rrput_yes r ho
    have p4 := fun x c fx => hO.get x 32 c (rtL r) fx (rtL_bytes r)
    rw [rtRes_L r ho] at p4
    obtain ⟨xs, hxs⟩ : ∃ xs, rtL r = xs := ⟨_, rfl⟩
    rw [hxs] at p1 p2 p4
    clear ho hxs
    obtain ⟨ct, ep, sl, t1, t2⟩ := r
    unfold rtv at p1 p2 p4 heq ⊢
    dsimp only at p1 p2 p4 heq ⊢
    have hB0 : Below w.heap.size w (w.alloc (.cells #[.int .u64 (nv ct), .int .u32 (nv32 ep), .int .i64 sl, .int .u64 (nv t1), .int .u64 (nv t2)] 27)) := (Below.refl _ _).alloc (Nat.le_refl _) _
    have bx : RBox (w.alloc (.cells #[.int .u64 (nv ct), .int .u32 (nv32 ep), .int .i64 sl, .int .u64 (nv t1), .int .u64 (nv t2)] 27)) w.heap.size ⟨ct, ep, sl, t1, t2⟩ := CBox.new _ _ _
    go_enter Try.func3, Try.ntmps3
    go_wp2_with fail
    generalize (w.alloc (.cells #[.int .u64 (nv ct), .int .u32 (nv32 ep), .int .i64 sl, .int .u64 (nv t1), .int .u64 (nv t2)] 27)) = W at *
    refine (p1 _).mono ?_
    clear p1
    rintro e w1 ⟨z1, c1, rfl, s1, f1, hb⟩
    have hB1 := hB0.trans (hb.mono hB0.size)
    replace bx := bx.grown hb
    replace s1 := s1.sat
    have c0_ := RBox.c0 bx
    have c1_ := RBox.c1 bx
    have c2_ := RBox.c2 bx
    have c3_ := RBox.c3 bx
    have c4_ := RBox.c4 bx
    dsimp only at c0_ c1_ c2_ c3_ c4_
    go_wp2_with fail
    refine (p2 _).mono ?_
    clear p2
    clear c0_ c1_ c2_ c3_ c4_
    rintro e w2 ⟨z2, c2, rfl, s2, f2, hb⟩
    have hB2 := hB1.trans (hb.mono hB1.size)
    replace bx := bx.grown hb
    replace s1 := s1.below hb
    have v1 := s1.conv (c := c1)
    have v2 := s2.sat.conv (c := c2)
    have p5 := p4 z1 c1 f1 w2 s1
    go_wp2_with fail
    refine p5.mono ?_
    clear p4 p5 v1 v2 s2
    rintro e w3 ⟨rfl, hb⟩
    have hB3 := hB2.trans (hb.mono hB2.size)
    replace bx := bx.grown hb
    have hb : Below w3.heap.size w3 (w3.alloc (.cells #[.int .u64 (nv ct), .int .u32 (nv32 ep), .int .i64 sl, .int .u64 (nv t1), .int .u64 (nv t2)] 27)) := (Below.refl _ _).alloc (Nat.le_refl _) _
    have hB4 := hB3.trans (hb.mono hB3.size)
    replace bx := bx.grown hb
    have by0 : RBox (w3.alloc (.cells #[.int .u64 (nv ct), .int .u32 (nv32 ep), .int .i64 sl, .int .u64 (nv t1), .int .u64 (nv t2)] 27)) w3.heap.size ⟨ct, ep, sl, t1, t2⟩ := RBox.new w3 ⟨ct, ep, sl, t1, t2⟩
    have c0_ := RBox.c0 bx
    have c1_ := RBox.c1 bx
    have c2_ := RBox.c2 bx
    have c3_ := RBox.c3 bx
    have c4_ := RBox.c4 bx
    dsimp only at c0_ c1_ c2_ c3_ c4_
    have g0_ := RBox.c0 by0
    have g1_ := RBox.c1 by0
    have g2_ := RBox.c2 by0
    have g3_ := RBox.c3 by0
    have g4_ := RBox.c4 by0
    dsimp only at g0_ g1_ g2_ g3_ g4_
    go_wp2_with fail
    refine (hkn _).mono ?_
    clear c0_ c1_ c2_ c3_ c4_
    clear g0_ g1_ g2_ g3_ g4_
    rintro e w6 ⟨rfl, hb⟩
    have hB6 := hB4.trans (hb.mono hB4.size)
    go_wp2
    go_ret
    exact ⟨rfl, hB6⟩
  · have p1 := hO.putNo r ho
    have p2 := rrput_no r ho
    have p4 := fun x c fx => hO.get x 0 c [] fx (fun x hx => by cases hx)
    rw [rtRes_no [] (by decide)] at p4
    clear ho
    obtain ⟨ct, ep, sl, t1, t2⟩ := r
    unfold rtv at p1 p2 p4 ⊢
    dsimp only at p1 p2 p4 ⊢
    have hB0 : Below w.heap.size w (w.alloc (.cells #[.int .u64 (nv ct), .int .u32 (nv32 ep), .int .i64 sl, .int .u64 (nv t1), .int .u64 (nv t2)] 27)) := (Below.refl _ _).alloc (Nat.le_refl _) _
    have bx : RBox (w.alloc (.cells #[.int .u64 (nv ct), .int .u32 (nv32 ep), .int .i64 sl, .int .u64 (nv t1), .int .u64 (nv t2)] 27)) w.heap.size ⟨ct, ep, sl, t1, t2⟩ := CBox.new _ _ _
    simp only [show nv32 0#32 = 0 from rfl, show nv 0#64 = 0 from rfl] at p4
    go_enter Try.func3, Try.ntmps3
    go_wp2_with fail
    generalize (w.alloc (.cells #[.int .u64 (nv ct), .int .u32 (nv32 ep), .int .i64 sl, .int .u64 (nv t1), .int .u64 (nv t2)] 27)) = W at *
    refine (p1 _).mono ?_
    clear p1
    rintro e w1 ⟨z1, c1, rfl, f1, hb⟩
    have hB1 := hB0.trans (hb.mono hB0.size)
    replace bx := bx.grown hb
    have c0_ := RBox.c0 bx
    have c1_ := RBox.c1 bx
    have c2_ := RBox.c2 bx
    have c3_ := RBox.c3 bx
    have c4_ := RBox.c4 bx
    dsimp only at c0_ c1_ c2_ c3_ c4_
    go_wp2_with fail
    refine (p2 _).mono ?_
    clear p2
    clear c0_ c1_ c2_ c3_ c4_
    rintro e w2 ⟨z2, c2, rfl, f2, hb⟩
    have hB2 := hB1.trans (hb.mono hB1.size)
    have v1 := conv_empty z1 c1 w2
    have v2 := conv_empty z2 c2 w2
    have p5 := p4 z1 c1 f1 w2 (SAt.none _ _)
    go_wp2_with fail
    refine p5.mono ?_
    clear p4 p5 v1 v2
    rintro e w3 ⟨rfl, hb⟩
    have hB3 := hB2.trans (hb.mono hB2.size)
    have hb : Below w3.heap.size w3 (w3.alloc (.cells #[.int .u64 0, .int .u32 0, .int .i64 0, .int .u64 0, .int .u64 0] 27)) := (Below.refl _ _).alloc (Nat.le_refl _) _
    have hB4 := hB3.trans (hb.mono hB3.size)
    go_wp2_with fail
    refine (hkn _).mono ?_
    rintro e w6 ⟨rfl, hb⟩
    have hB6 := hB4.trans (hb.mono hB4.size)
    go_wp2
    go_ret
    exact ⟨rfl, hB6⟩
end Go.Proofs.Ytnimhlkoikjomaa
