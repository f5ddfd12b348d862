/- Records as bytes, and back. -/
import Derived.Test.YtnimhlkoikjomaaRtPuts
import Derived.Test.YtnimhlkoikjomaaSameS
namespace Go.Proofs.Ytnimhlkoikjomaa
open Go.RowKit
set_option maxRecDepth 20000

/-- What is asked of the program's records. -/
structure RcAll : Prop where
  putYes : RcPutYes 12
  putNo : RcPutNo 12
  getYes : RcGetYes 14
  getNo : RcGetNo 14
set_option maxHeartbeats 1000000 in
theorem rtrecs11 (hR : RtAll) (hO : RcAll) (n : Nn) (c d : Nat) (x z : Option Addr) (ys zs : List Int) (t : BitVec 64 × BitVec 64) (hn : nv32 n.2.1 = 65535)  (by_ : Bytes ys) (bz : Bytes zs) (fx : Fit x 32 c) (fz : Fit z 60 d) (w : World) (sx : SAt w x 32 ys) (sz : SAt w z 60 zs) : Calls Try.prog 5 #[nnv n, sev x 32 c t, .slice z 60 d] w fun e w' => e = .returned (.bool true) ∧ Below w.heap.size w w' := by
  have hkn := rtknown hR
  obtain ⟨ep, s, ve⟩ := n
  obtain rfl : (65535#32) = s := nv32_inj (by rw [show nv32 s = 65535 from hn]; rfl)
  have p1 := hO.putYes (ep, 65535#32, ve) x c ys t hn fx by_
  have p2 := rrec_yes (ep, 65535#32, ve) x c ys t hn fx by_
  have p3 := fun x c fx => hO.getYes x c (rcL (ep, 65535#32, ve) ys t) fx (rcL_bytes (ep, 65535#32, ve) t by_)
  obtain ⟨q1, q2, q3⟩ := rc_back (ep, 65535#32, ve) t hn sx.1
  rw [q1, q2, q3] at p3
  obtain ⟨rs, hrs⟩ : ∃ rs, rcL (ep, 65535#32, ve) ys t = rs := ⟨_, rfl⟩
  rw [hrs] at p1 p2 p3
  clear q1 q2 q3 hrs hn
  have p4 := hO.getYes z d zs fz bz
  have p5 := rgrec_yes z d zs fz bz
  obtain ⟨nz, hnz⟩ : ∃ nz, rcN zs = nz := ⟨_, rfl⟩
  obtain ⟨bs, hbs⟩ : ∃ bs, rcB zs = bs := ⟨_, rfl⟩
  obtain ⟨tz, htz⟩ : ∃ tz, rcT zs = tz := ⟨_, rfl⟩
  have hbb : Bytes bs := by rw [← hbs]; exact (bz.drop 12).take 32
  rw [hnz, hbs, htz] at p4 p5
  clear hnz hbs htz
  unfold nnv sev at *
  have h6 : nv32 65535#32 = 65535 := rfl
  dsimp only at p1 p2 p3 ⊢
  simp only [h6] at p1 p2 p3 ⊢
  clear h6
  have he1 := eqN (nv32 ep) 65535 (nv ve) (nv32 ep) 65535 (nv ve)
  simp only [beq_self_eq_true, Bool.and_self] at he1
  have he2 := eqN (nv32 nz.1) (nv32 nz.2.1) (nv nz.2.2) (nv32 nz.1) (nv32 nz.2.1) (nv nz.2.2)
  simp only [beq_self_eq_true, Bool.and_self] at he2
  have hb0 : Below w.heap.size w (w.alloc (.cells #[.int .u32 (nv32 ep), .int .u32 65535, .int .u64 (nv ve)] 37)) := (Below.refl _ _).alloc (Nat.le_refl _) _
  have hb1 : Below (w.alloc (.cells #[.int .u32 (nv32 ep), .int .u32 65535, .int .u64 (nv ve)] 37)).heap.size (w.alloc (.cells #[.int .u32 (nv32 ep), .int .u32 65535, .int .u64 (nv ve)] 37)) ((w.alloc (.cells #[.int .u32 (nv32 ep), .int .u32 65535, .int .u64 (nv ve)] 37)).alloc (.cells #[.slice x 32 c, .int .u64 (nv t.1), .int .u64 (nv t.2)] 39)) := (Below.refl _ _).alloc (Nat.le_refl _) _
  have hB0 : Below w.heap.size w ((w.alloc (.cells #[.int .u32 (nv32 ep), .int .u32 65535, .int .u64 (nv ve)] 37)).alloc (.cells #[.slice x 32 c, .int .u64 (nv t.1), .int .u64 (nv t.2)] 39)) := hb0.trans (hb1.mono hb0.size)
  have bn : CBox 37 ((w.alloc (.cells #[.int .u32 (nv32 ep), .int .u32 65535, .int .u64 (nv ve)] 37)).alloc (.cells #[.slice x 32 c, .int .u64 (nv t.1), .int .u64 (nv t.2)] 39)) w.heap.size #[.int .u32 (nv32 ep), .int .u32 65535, .int .u64 (nv ve)] := CBox.grown (CBox.new 37 w #[.int .u32 (nv32 ep), .int .u32 65535, .int .u64 (nv ve)]) hb1
  have bs_ : CBox 39 ((w.alloc (.cells #[.int .u32 (nv32 ep), .int .u32 65535, .int .u64 (nv ve)] 37)).alloc (.cells #[.slice x 32 c, .int .u64 (nv t.1), .int .u64 (nv t.2)] 39)) (w.heap.size + 1) #[.slice x 32 c, .int .u64 (nv t.1), .int .u64 (nv t.2)] := by
    have := CBox.new 39 (w.alloc (.cells #[.int .u32 (nv32 ep), .int .u32 65535, .int .u64 (nv ve)] 37)) #[.slice x 32 c, .int .u64 (nv t.1), .int .u64 (nv t.2)]
    rw [World.size_alloc] at this
    exact this
  replace sx := sx.below hB0
  replace sz := sz.below hB0
  have e0 : ((w.alloc (.cells #[.int .u32 (nv32 ep), .int .u32 65535, .int .u64 (nv ve)] 37)).alloc (.cells #[.slice x 32 c, .int .u64 (nv t.1), .int .u64 (nv t.2)] 39)).cell? ⟨w.heap.size + 1, 0, none⟩ = some (.slice x 32 c) := CBox.cell bs_ 0
  clear hb0 hb1
  have bn0_ : ((w.alloc (.cells #[.int .u32 (nv32 ep), .int .u32 65535, .int .u64 (nv ve)] 37)).alloc (.cells #[.slice x 32 c, .int .u64 (nv t.1), .int .u64 (nv t.2)] 39)).cell? ⟨w.heap.size, 0, none⟩ = some (.int .u32 (nv32 ep)) := CBox.cell bn 0
  have bn1_ : ((w.alloc (.cells #[.int .u32 (nv32 ep), .int .u32 65535, .int .u64 (nv ve)] 37)).alloc (.cells #[.slice x 32 c, .int .u64 (nv t.1), .int .u64 (nv t.2)] 39)).cell? ⟨w.heap.size, 1, none⟩ = some (.int .u32 65535) := CBox.cell bn 1
  have bn2_ : ((w.alloc (.cells #[.int .u32 (nv32 ep), .int .u32 65535, .int .u64 (nv ve)] 37)).alloc (.cells #[.slice x 32 c, .int .u64 (nv t.1), .int .u64 (nv t.2)] 39)).cell? ⟨w.heap.size, 2, none⟩ = some (.int .u64 (nv ve)) := CBox.cell bn 2
  have bs_1_ : ((w.alloc (.cells #[.int .u32 (nv32 ep), .int .u32 65535, .int .u64 (nv ve)] 37)).alloc (.cells #[.slice x 32 c, .int .u64 (nv t.1), .int .u64 (nv t.2)] 39)).cell? ⟨w.heap.size + 1, 1, none⟩ = some (.int .u64 (nv t.1)) := CBox.cell bs_ 1
  have bs_2_ : ((w.alloc (.cells #[.int .u32 (nv32 ep), .int .u32 65535, .int .u64 (nv ve)] 37)).alloc (.cells #[.slice x 32 c, .int .u64 (nv t.1), .int .u64 (nv t.2)] 39)).cell? ⟨w.heap.size + 1, 2, none⟩ = some (.int .u64 (nv t.2)) := CBox.cell bs_ 2
  go_enter Try.func5, Try.ntmps5
  go_wp2_with fail
  generalize ((w.alloc (.cells #[.int .u32 (nv32 ep), .int .u32 65535, .int .u64 (nv ve)] 37)).alloc (.cells #[.slice x 32 c, .int .u64 (nv t.1), .int .u64 (nv t.2)] 39)) = W at *
  refine (p1 W sx).mono ?_
  rintro e w1 ⟨z1, c1, rfl, s1, f1, hb⟩
  have hB1 := hB0.trans (hb.mono hB0.size)
  replace bn := CBox.grown bn hb
  replace bs_ := CBox.grown bs_ hb
  replace sx := sx.below hb
  replace sz := sz.below hb
  replace s1 := s1.sat
  clear e0 bs_1_ bs_2_
  clear bn0_ bn1_ bn2_
  have bn0_ : w1.cell? ⟨w.heap.size, 0, none⟩ = some (.int .u32 (nv32 ep)) := CBox.cell bn 0
  have bn1_ : w1.cell? ⟨w.heap.size, 1, none⟩ = some (.int .u32 65535) := CBox.cell bn 1
  have bn2_ : w1.cell? ⟨w.heap.size, 2, none⟩ = some (.int .u64 (nv ve)) := CBox.cell bn 2
  have bs_0_ : w1.cell? ⟨(w.heap.size + 1), 0, none⟩ = some (.slice x 32 c) := CBox.cell bs_ 0
  have bs_1_ : w1.cell? ⟨(w.heap.size + 1), 1, none⟩ = some (.int .u64 (nv t.1)) := CBox.cell bs_ 1
  have bs_2_ : w1.cell? ⟨(w.heap.size + 1), 2, none⟩ = some (.int .u64 (nv t.2)) := CBox.cell bs_ 2
  go_wp2_with fail
  refine (p2 w1 sx).mono ?_
  rintro e w2 ⟨z2, c2, rfl, s2, f2, hb⟩
  have hB2 := hB1.trans (hb.mono hB1.size)
  replace bn := CBox.grown bn hb
  replace bs_ := CBox.grown bs_ hb
  replace sx := sx.below hb
  replace sz := sz.below hb
  replace s1 := s1.below hb
  have v1 := s1.conv (c := c1)
  have v2 := s2.sat.conv (c := c2)
  clear bn0_ bn1_ bn2_ bs_0_ bs_1_ bs_2_
  go_wp2_with fail
  refine (p3 z1 c1 f1 w2 s1).mono ?_
  rintro e w3 ⟨z3, c3, rfl, s3, f3, hb⟩
  have hB3 := hB2.trans (hb.mono hB2.size)
  replace bn := CBox.grown bn hb
  replace bs_ := CBox.grown bs_ hb
  replace sx := sx.below hb
  replace sz := sz.below hb
  replace s3 := s3.sat
  clear v1 v2 s1 s2
  have hb : Below w3.heap.size w3 ((w3.alloc (.cells #[.int .u32 (nv32 ep), .int .u32 65535, .int .u64 (nv ve)] 37)).alloc (.cells #[.slice z3 32 c3, .int .u64 (nv t.1), .int .u64 (nv t.2)] 39)) := ((Below.refl w3.heap.size w3).alloc (Nat.le_refl _) _).alloc (by rw [World.size_alloc]; omega) _
  have hB4 := hB3.trans (hb.mono hB3.size)
  replace bn := CBox.grown bn hb
  replace bs_ := CBox.grown bs_ hb
  replace sx := sx.below hb
  replace sz := sz.below hb
  have jn : CBox 37 ((w3.alloc (.cells #[.int .u32 (nv32 ep), .int .u32 65535, .int .u64 (nv ve)] 37)).alloc (.cells #[.slice z3 32 c3, .int .u64 (nv t.1), .int .u64 (nv t.2)] 39)) w3.heap.size #[.int .u32 (nv32 ep), .int .u32 65535, .int .u64 (nv ve)] := CBox.grown (CBox.new 37 w3 #[.int .u32 (nv32 ep), .int .u32 65535, .int .u64 (nv ve)]) ((Below.refl _ _).alloc (Nat.le_refl _) _)
  have js : CBox 39 ((w3.alloc (.cells #[.int .u32 (nv32 ep), .int .u32 65535, .int .u64 (nv ve)] 37)).alloc (.cells #[.slice z3 32 c3, .int .u64 (nv t.1), .int .u64 (nv t.2)] 39)) (w3.heap.size + 1) #[.slice z3 32 c3, .int .u64 (nv t.1), .int .u64 (nv t.2)] := by
    have := CBox.new 39 (w3.alloc (.cells #[.int .u32 (nv32 ep), .int .u32 65535, .int .u64 (nv ve)] 37)) #[.slice z3 32 c3, .int .u64 (nv t.1), .int .u64 (nv t.2)]
    rw [World.size_alloc] at this
    exact this
  replace s3 := s3.below hb
  go_wp2_with fail
  generalize ((w3.alloc (.cells #[.int .u32 (nv32 ep), .int .u32 65535, .int .u64 (nv ve)] 37)).alloc (.cells #[.slice z3 32 c3, .int .u64 (nv t.1), .int .u64 (nv t.2)] 39)) = w4 at *
  refine (p4 w4 sz).mono ?_
  rintro e w5 ⟨z5, c5, rfl, s5, f5, hb⟩
  have hB5 := hB4.trans (hb.mono hB4.size)
  replace bn := CBox.grown bn hb
  replace bs_ := CBox.grown bs_ hb
  replace jn := CBox.grown jn hb
  replace js := CBox.grown js hb
  replace sx := sx.below hb
  replace sz := sz.below hb
  replace s3 := s3.below hb
  replace s5 := s5.sat
  have hb : Below w5.heap.size w5 ((w5.alloc (.cells #[.int .u32 (nv32 nz.1), .int .u32 (nv32 nz.2.1), .int .u64 (nv nz.2.2)] 37)).alloc (.cells #[.slice z5 32 c5, .int .u64 (nv tz.1), .int .u64 (nv tz.2)] 39)) := ((Below.refl w5.heap.size w5).alloc (Nat.le_refl _) _).alloc (by rw [World.size_alloc]; omega) _
  have hB6 := hB5.trans (hb.mono hB5.size)
  replace bn := CBox.grown bn hb
  replace bs_ := CBox.grown bs_ hb
  replace jn := CBox.grown jn hb
  replace js := CBox.grown js hb
  replace sx := sx.below hb
  replace sz := sz.below hb
  have gn : CBox 37 ((w5.alloc (.cells #[.int .u32 (nv32 nz.1), .int .u32 (nv32 nz.2.1), .int .u64 (nv nz.2.2)] 37)).alloc (.cells #[.slice z5 32 c5, .int .u64 (nv tz.1), .int .u64 (nv tz.2)] 39)) w5.heap.size #[.int .u32 (nv32 nz.1), .int .u32 (nv32 nz.2.1), .int .u64 (nv nz.2.2)] := CBox.grown (CBox.new 37 w5 #[.int .u32 (nv32 nz.1), .int .u32 (nv32 nz.2.1), .int .u64 (nv nz.2.2)]) ((Below.refl _ _).alloc (Nat.le_refl _) _)
  have gs : CBox 39 ((w5.alloc (.cells #[.int .u32 (nv32 nz.1), .int .u32 (nv32 nz.2.1), .int .u64 (nv nz.2.2)] 37)).alloc (.cells #[.slice z5 32 c5, .int .u64 (nv tz.1), .int .u64 (nv tz.2)] 39)) (w5.heap.size + 1) #[.slice z5 32 c5, .int .u64 (nv tz.1), .int .u64 (nv tz.2)] := by
    have := CBox.new 39 (w5.alloc (.cells #[.int .u32 (nv32 nz.1), .int .u32 (nv32 nz.2.1), .int .u64 (nv nz.2.2)] 37)) #[.slice z5 32 c5, .int .u64 (nv tz.1), .int .u64 (nv tz.2)]
    rw [World.size_alloc] at this
    exact this
  replace s3 := s3.below hb
  replace s5 := s5.below hb
  go_wp2_with fail
  generalize ((w5.alloc (.cells #[.int .u32 (nv32 nz.1), .int .u32 (nv32 nz.2.1), .int .u64 (nv nz.2.2)] 37)).alloc (.cells #[.slice z5 32 c5, .int .u64 (nv tz.1), .int .u64 (nv tz.2)] 39)) = w6 at *
  refine (p5 w6 sz).mono ?_
  rintro e w7 ⟨z7, c7, rfl, s7, f7, hb⟩
  have hB7 := hB6.trans (hb.mono hB6.size)
  replace bn := CBox.grown bn hb
  replace bs_ := CBox.grown bs_ hb
  replace jn := CBox.grown jn hb
  replace js := CBox.grown js hb
  replace gn := CBox.grown gn hb
  replace gs := CBox.grown gs hb
  replace sx := sx.below hb
  replace sz := sz.below hb
  replace s3 := s3.below hb
  replace s5 := s5.below hb
  replace s7 := s7.sat
  have hb : Below w7.heap.size w7 ((w7.alloc (.cells #[.int .u32 (nv32 nz.1), .int .u32 (nv32 nz.2.1), .int .u64 (nv nz.2.2)] 37)).alloc (.cells #[.slice z7 32 c7, .int .u64 (nv tz.1), .int .u64 (nv tz.2)] 39)) := ((Below.refl w7.heap.size w7).alloc (Nat.le_refl _) _).alloc (by rw [World.size_alloc]; omega) _
  have hB8 := hB7.trans (hb.mono hB7.size)
  replace bn := CBox.grown bn hb
  replace bs_ := CBox.grown bs_ hb
  replace jn := CBox.grown jn hb
  replace js := CBox.grown js hb
  replace gn := CBox.grown gn hb
  replace gs := CBox.grown gs hb
  replace sx := sx.below hb
  replace sz := sz.below hb
  have kn : CBox 37 ((w7.alloc (.cells #[.int .u32 (nv32 nz.1), .int .u32 (nv32 nz.2.1), .int .u64 (nv nz.2.2)] 37)).alloc (.cells #[.slice z7 32 c7, .int .u64 (nv tz.1), .int .u64 (nv tz.2)] 39)) w7.heap.size #[.int .u32 (nv32 nz.1), .int .u32 (nv32 nz.2.1), .int .u64 (nv nz.2.2)] := CBox.grown (CBox.new 37 w7 #[.int .u32 (nv32 nz.1), .int .u32 (nv32 nz.2.1), .int .u64 (nv nz.2.2)]) ((Below.refl _ _).alloc (Nat.le_refl _) _)
  have ks : CBox 39 ((w7.alloc (.cells #[.int .u32 (nv32 nz.1), .int .u32 (nv32 nz.2.1), .int .u64 (nv nz.2.2)] 37)).alloc (.cells #[.slice z7 32 c7, .int .u64 (nv tz.1), .int .u64 (nv tz.2)] 39)) (w7.heap.size + 1) #[.slice z7 32 c7, .int .u64 (nv tz.1), .int .u64 (nv tz.2)] := by
    have := CBox.new 39 (w7.alloc (.cells #[.int .u32 (nv32 nz.1), .int .u32 (nv32 nz.2.1), .int .u64 (nv nz.2.2)] 37)) #[.slice z7 32 c7, .int .u64 (nv tz.1), .int .u64 (nv tz.2)]
    rw [World.size_alloc] at this
    exact this
  replace s3 := s3.below hb
  replace s5 := s5.below hb
  replace s7 := s7.below hb
  clear hb
  have bn0_ : ((w7.alloc (.cells #[.int .u32 (nv32 nz.1), .int .u32 (nv32 nz.2.1), .int .u64 (nv nz.2.2)] 37)).alloc (.cells #[.slice z7 32 c7, .int .u64 (nv tz.1), .int .u64 (nv tz.2)] 39)).cell? ⟨w.heap.size, 0, none⟩ = some (.int .u32 (nv32 ep)) := CBox.cell bn 0
  have bn1_ : ((w7.alloc (.cells #[.int .u32 (nv32 nz.1), .int .u32 (nv32 nz.2.1), .int .u64 (nv nz.2.2)] 37)).alloc (.cells #[.slice z7 32 c7, .int .u64 (nv tz.1), .int .u64 (nv tz.2)] 39)).cell? ⟨w.heap.size, 1, none⟩ = some (.int .u32 65535) := CBox.cell bn 1
  have bn2_ : ((w7.alloc (.cells #[.int .u32 (nv32 nz.1), .int .u32 (nv32 nz.2.1), .int .u64 (nv nz.2.2)] 37)).alloc (.cells #[.slice z7 32 c7, .int .u64 (nv tz.1), .int .u64 (nv tz.2)] 39)).cell? ⟨w.heap.size, 2, none⟩ = some (.int .u64 (nv ve)) := CBox.cell bn 2
  have bs_0_ : ((w7.alloc (.cells #[.int .u32 (nv32 nz.1), .int .u32 (nv32 nz.2.1), .int .u64 (nv nz.2.2)] 37)).alloc (.cells #[.slice z7 32 c7, .int .u64 (nv tz.1), .int .u64 (nv tz.2)] 39)).cell? ⟨(w.heap.size + 1), 0, none⟩ = some (.slice x 32 c) := CBox.cell bs_ 0
  have bs_1_ : ((w7.alloc (.cells #[.int .u32 (nv32 nz.1), .int .u32 (nv32 nz.2.1), .int .u64 (nv nz.2.2)] 37)).alloc (.cells #[.slice z7 32 c7, .int .u64 (nv tz.1), .int .u64 (nv tz.2)] 39)).cell? ⟨(w.heap.size + 1), 1, none⟩ = some (.int .u64 (nv t.1)) := CBox.cell bs_ 1
  have bs_2_ : ((w7.alloc (.cells #[.int .u32 (nv32 nz.1), .int .u32 (nv32 nz.2.1), .int .u64 (nv nz.2.2)] 37)).alloc (.cells #[.slice z7 32 c7, .int .u64 (nv tz.1), .int .u64 (nv tz.2)] 39)).cell? ⟨(w.heap.size + 1), 2, none⟩ = some (.int .u64 (nv t.2)) := CBox.cell bs_ 2
  have jn0_ : ((w7.alloc (.cells #[.int .u32 (nv32 nz.1), .int .u32 (nv32 nz.2.1), .int .u64 (nv nz.2.2)] 37)).alloc (.cells #[.slice z7 32 c7, .int .u64 (nv tz.1), .int .u64 (nv tz.2)] 39)).cell? ⟨w3.heap.size, 0, none⟩ = some (.int .u32 (nv32 ep)) := CBox.cell jn 0
  have jn1_ : ((w7.alloc (.cells #[.int .u32 (nv32 nz.1), .int .u32 (nv32 nz.2.1), .int .u64 (nv nz.2.2)] 37)).alloc (.cells #[.slice z7 32 c7, .int .u64 (nv tz.1), .int .u64 (nv tz.2)] 39)).cell? ⟨w3.heap.size, 1, none⟩ = some (.int .u32 65535) := CBox.cell jn 1
  have jn2_ : ((w7.alloc (.cells #[.int .u32 (nv32 nz.1), .int .u32 (nv32 nz.2.1), .int .u64 (nv nz.2.2)] 37)).alloc (.cells #[.slice z7 32 c7, .int .u64 (nv tz.1), .int .u64 (nv tz.2)] 39)).cell? ⟨w3.heap.size, 2, none⟩ = some (.int .u64 (nv ve)) := CBox.cell jn 2
  have js0_ : ((w7.alloc (.cells #[.int .u32 (nv32 nz.1), .int .u32 (nv32 nz.2.1), .int .u64 (nv nz.2.2)] 37)).alloc (.cells #[.slice z7 32 c7, .int .u64 (nv tz.1), .int .u64 (nv tz.2)] 39)).cell? ⟨(w3.heap.size + 1), 0, none⟩ = some (.slice z3 32 c3) := CBox.cell js 0
  have js1_ : ((w7.alloc (.cells #[.int .u32 (nv32 nz.1), .int .u32 (nv32 nz.2.1), .int .u64 (nv nz.2.2)] 37)).alloc (.cells #[.slice z7 32 c7, .int .u64 (nv tz.1), .int .u64 (nv tz.2)] 39)).cell? ⟨(w3.heap.size + 1), 1, none⟩ = some (.int .u64 (nv t.1)) := CBox.cell js 1
  have js2_ : ((w7.alloc (.cells #[.int .u32 (nv32 nz.1), .int .u32 (nv32 nz.2.1), .int .u64 (nv nz.2.2)] 37)).alloc (.cells #[.slice z7 32 c7, .int .u64 (nv tz.1), .int .u64 (nv tz.2)] 39)).cell? ⟨(w3.heap.size + 1), 2, none⟩ = some (.int .u64 (nv t.2)) := CBox.cell js 2
  have gn0_ : ((w7.alloc (.cells #[.int .u32 (nv32 nz.1), .int .u32 (nv32 nz.2.1), .int .u64 (nv nz.2.2)] 37)).alloc (.cells #[.slice z7 32 c7, .int .u64 (nv tz.1), .int .u64 (nv tz.2)] 39)).cell? ⟨w5.heap.size, 0, none⟩ = some (.int .u32 (nv32 nz.1)) := CBox.cell gn 0
  have gn1_ : ((w7.alloc (.cells #[.int .u32 (nv32 nz.1), .int .u32 (nv32 nz.2.1), .int .u64 (nv nz.2.2)] 37)).alloc (.cells #[.slice z7 32 c7, .int .u64 (nv tz.1), .int .u64 (nv tz.2)] 39)).cell? ⟨w5.heap.size, 1, none⟩ = some (.int .u32 (nv32 nz.2.1)) := CBox.cell gn 1
  have gn2_ : ((w7.alloc (.cells #[.int .u32 (nv32 nz.1), .int .u32 (nv32 nz.2.1), .int .u64 (nv nz.2.2)] 37)).alloc (.cells #[.slice z7 32 c7, .int .u64 (nv tz.1), .int .u64 (nv tz.2)] 39)).cell? ⟨w5.heap.size, 2, none⟩ = some (.int .u64 (nv nz.2.2)) := CBox.cell gn 2
  have gs0_ : ((w7.alloc (.cells #[.int .u32 (nv32 nz.1), .int .u32 (nv32 nz.2.1), .int .u64 (nv nz.2.2)] 37)).alloc (.cells #[.slice z7 32 c7, .int .u64 (nv tz.1), .int .u64 (nv tz.2)] 39)).cell? ⟨(w5.heap.size + 1), 0, none⟩ = some (.slice z5 32 c5) := CBox.cell gs 0
  have gs1_ : ((w7.alloc (.cells #[.int .u32 (nv32 nz.1), .int .u32 (nv32 nz.2.1), .int .u64 (nv nz.2.2)] 37)).alloc (.cells #[.slice z7 32 c7, .int .u64 (nv tz.1), .int .u64 (nv tz.2)] 39)).cell? ⟨(w5.heap.size + 1), 1, none⟩ = some (.int .u64 (nv tz.1)) := CBox.cell gs 1
  have gs2_ : ((w7.alloc (.cells #[.int .u32 (nv32 nz.1), .int .u32 (nv32 nz.2.1), .int .u64 (nv nz.2.2)] 37)).alloc (.cells #[.slice z7 32 c7, .int .u64 (nv tz.1), .int .u64 (nv tz.2)] 39)).cell? ⟨(w5.heap.size + 1), 2, none⟩ = some (.int .u64 (nv tz.2)) := CBox.cell gs 2
  have kn0_ : ((w7.alloc (.cells #[.int .u32 (nv32 nz.1), .int .u32 (nv32 nz.2.1), .int .u64 (nv nz.2.2)] 37)).alloc (.cells #[.slice z7 32 c7, .int .u64 (nv tz.1), .int .u64 (nv tz.2)] 39)).cell? ⟨w7.heap.size, 0, none⟩ = some (.int .u32 (nv32 nz.1)) := CBox.cell kn 0
  have kn1_ : ((w7.alloc (.cells #[.int .u32 (nv32 nz.1), .int .u32 (nv32 nz.2.1), .int .u64 (nv nz.2.2)] 37)).alloc (.cells #[.slice z7 32 c7, .int .u64 (nv tz.1), .int .u64 (nv tz.2)] 39)).cell? ⟨w7.heap.size, 1, none⟩ = some (.int .u32 (nv32 nz.2.1)) := CBox.cell kn 1
  have kn2_ : ((w7.alloc (.cells #[.int .u32 (nv32 nz.1), .int .u32 (nv32 nz.2.1), .int .u64 (nv nz.2.2)] 37)).alloc (.cells #[.slice z7 32 c7, .int .u64 (nv tz.1), .int .u64 (nv tz.2)] 39)).cell? ⟨w7.heap.size, 2, none⟩ = some (.int .u64 (nv nz.2.2)) := CBox.cell kn 2
  have ks0_ : ((w7.alloc (.cells #[.int .u32 (nv32 nz.1), .int .u32 (nv32 nz.2.1), .int .u64 (nv nz.2.2)] 37)).alloc (.cells #[.slice z7 32 c7, .int .u64 (nv tz.1), .int .u64 (nv tz.2)] 39)).cell? ⟨(w7.heap.size + 1), 0, none⟩ = some (.slice z7 32 c7) := CBox.cell ks 0
  have ks1_ : ((w7.alloc (.cells #[.int .u32 (nv32 nz.1), .int .u32 (nv32 nz.2.1), .int .u64 (nv nz.2.2)] 37)).alloc (.cells #[.slice z7 32 c7, .int .u64 (nv tz.1), .int .u64 (nv tz.2)] 39)).cell? ⟨(w7.heap.size + 1), 1, none⟩ = some (.int .u64 (nv tz.1)) := CBox.cell ks 1
  have ks2_ : ((w7.alloc (.cells #[.int .u32 (nv32 nz.1), .int .u32 (nv32 nz.2.1), .int .u64 (nv nz.2.2)] 37)).alloc (.cells #[.slice z7 32 c7, .int .u64 (nv tz.1), .int .u64 (nv tz.2)] 39)).cell? ⟨(w7.heap.size + 1), 2, none⟩ = some (.int .u64 (nv tz.2)) := CBox.cell ks 2
  go_wp2_with fail
  generalize ((w7.alloc (.cells #[.int .u32 (nv32 nz.1), .int .u32 (nv32 nz.2.1), .int .u64 (nv nz.2.2)] 37)).alloc (.cells #[.slice z7 32 c7, .int .u64 (nv tz.1), .int .u64 (nv tz.2)] 39)) = w8 at *
  clear bn0_ bn1_ bn2_ bs_0_ bs_1_ bs_2_ jn0_ jn1_ jn2_ js0_ js1_ js2_ gn0_ gn1_ gn2_ gs0_ gs1_ gs2_ kn0_ kn1_ kn2_ ks0_ ks1_ ks2_
  refine (rsame_self t ys z3 x 32 c3 c by_ w8 s3 sx).mono ?_
  rintro e w9 ⟨rfl, hb⟩
  have hB9 := hB8.trans (hb.mono hB8.size)
  replace bn := CBox.grown bn hb
  replace bs_ := CBox.grown bs_ hb
  replace jn := CBox.grown jn hb
  replace js := CBox.grown js hb
  replace gn := CBox.grown gn hb
  replace gs := CBox.grown gs hb
  replace kn := CBox.grown kn hb
  replace ks := CBox.grown ks hb
  replace sx := sx.below hb
  replace sz := sz.below hb
  replace s5 := s5.below hb
  replace s7 := s7.below hb
  have gn0_ : w9.cell? ⟨w5.heap.size, 0, none⟩ = some (.int .u32 (nv32 nz.1)) := CBox.cell gn 0
  have gn1_ : w9.cell? ⟨w5.heap.size, 1, none⟩ = some (.int .u32 (nv32 nz.2.1)) := CBox.cell gn 1
  have gn2_ : w9.cell? ⟨w5.heap.size, 2, none⟩ = some (.int .u64 (nv nz.2.2)) := CBox.cell gn 2
  have gs0_ : w9.cell? ⟨(w5.heap.size + 1), 0, none⟩ = some (.slice z5 32 c5) := CBox.cell gs 0
  have gs1_ : w9.cell? ⟨(w5.heap.size + 1), 1, none⟩ = some (.int .u64 (nv tz.1)) := CBox.cell gs 1
  have gs2_ : w9.cell? ⟨(w5.heap.size + 1), 2, none⟩ = some (.int .u64 (nv tz.2)) := CBox.cell gs 2
  have kn0_ : w9.cell? ⟨w7.heap.size, 0, none⟩ = some (.int .u32 (nv32 nz.1)) := CBox.cell kn 0
  have kn1_ : w9.cell? ⟨w7.heap.size, 1, none⟩ = some (.int .u32 (nv32 nz.2.1)) := CBox.cell kn 1
  have kn2_ : w9.cell? ⟨w7.heap.size, 2, none⟩ = some (.int .u64 (nv nz.2.2)) := CBox.cell kn 2
  have ks0_ : w9.cell? ⟨(w7.heap.size + 1), 0, none⟩ = some (.slice z7 32 c7) := CBox.cell ks 0
  have ks1_ : w9.cell? ⟨(w7.heap.size + 1), 1, none⟩ = some (.int .u64 (nv tz.1)) := CBox.cell ks 1
  have ks2_ : w9.cell? ⟨(w7.heap.size + 1), 2, none⟩ = some (.int .u64 (nv tz.2)) := CBox.cell ks 2
  go_wp2_with fail
  clear gn0_ gn1_ gn2_ gs0_ gs1_ gs2_ kn0_ kn1_ kn2_ ks0_ ks1_ ks2_
  refine (rsame_self tz bs z5 z7 32 c5 c7 hbb w9 s5 s7).mono ?_
  rintro e w10 ⟨rfl, hb⟩
  have hB10 := hB9.trans (hb.mono hB9.size)
  replace bn := CBox.grown bn hb
  replace bs_ := CBox.grown bs_ hb
  replace jn := CBox.grown jn hb
  replace js := CBox.grown js hb
  replace gn := CBox.grown gn hb
  replace gs := CBox.grown gs hb
  replace kn := CBox.grown kn hb
  replace ks := CBox.grown ks hb
  replace sx := sx.below hb
  replace sz := sz.below hb
  go_wp2_with fail
  refine (hkn _).mono ?_
  rintro e w11 ⟨rfl, hb⟩
  have hB11 := hB10.trans (hb.mono hB10.size)
  replace bn := CBox.grown bn hb
  replace bs_ := CBox.grown bs_ hb
  replace jn := CBox.grown jn hb
  replace js := CBox.grown js hb
  replace gn := CBox.grown gn hb
  replace gs := CBox.grown gs hb
  replace kn := CBox.grown kn hb
  replace ks := CBox.grown ks hb
  replace sx := sx.below hb
  replace sz := sz.below hb
  go_wp2
  go_ret
  exact ⟨rfl, hB11⟩
set_option maxHeartbeats 1000000 in
theorem rtrecs10 (hR : RtAll) (hO : RcAll) (n : Nn) (c d k : Nat) (x z : Option Addr) (ys zs : List Int) (t : BitVec 64 × BitVec 64) (hn : nv32 n.2.1 = 65535) (hk : k ≠ 60) (hk2 : ¬ (k : Int) > 100) (by_ : Bytes ys) (_bz : Bytes zs) (fx : Fit x 32 c) (_fz : Fit z k d) (w : World) (sx : SAt w x 32 ys) (sz : SAt w z k zs) : Calls Try.prog 5 #[nnv n, sev x 32 c t, .slice z k d] w fun e w' => e = .returned (.bool true) ∧ Below w.heap.size w w' := by
  have hkn := rtknown hR
  obtain ⟨ep, s, ve⟩ := n
  obtain rfl : (65535#32) = s := nv32_inj (by rw [show nv32 s = 65535 from hn]; rfl)
  have p1 := hO.putYes (ep, 65535#32, ve) x c ys t hn fx by_
  have p2 := rrec_yes (ep, 65535#32, ve) x c ys t hn fx by_
  have p3 := fun x c fx => hO.getYes x c (rcL (ep, 65535#32, ve) ys t) fx (rcL_bytes (ep, 65535#32, ve) t by_)
  obtain ⟨q1, q2, q3⟩ := rc_back (ep, 65535#32, ve) t hn sx.1
  rw [q1, q2, q3] at p3
  obtain ⟨rs, hrs⟩ : ∃ rs, rcL (ep, 65535#32, ve) ys t = rs := ⟨_, rfl⟩
  rw [hrs] at p1 p2 p3
  clear q1 q2 q3 hrs hn
  have p4 := hO.getNo z k d hk (by omega)
  have p5 := rgrec_no z k d hk (by omega)
  unfold nnv sev at *
  have h6 : nv32 65535#32 = 65535 := rfl
  dsimp only at p1 p2 p3 ⊢
  simp only [h6] at p1 p2 p3 ⊢
  clear h6
  have he1 := eqN (nv32 ep) 65535 (nv ve) (nv32 ep) 65535 (nv ve)
  simp only [beq_self_eq_true, Bool.and_self] at he1
  have hb0 : Below w.heap.size w (w.alloc (.cells #[.int .u32 (nv32 ep), .int .u32 65535, .int .u64 (nv ve)] 37)) := (Below.refl _ _).alloc (Nat.le_refl _) _
  have hb1 : Below (w.alloc (.cells #[.int .u32 (nv32 ep), .int .u32 65535, .int .u64 (nv ve)] 37)).heap.size (w.alloc (.cells #[.int .u32 (nv32 ep), .int .u32 65535, .int .u64 (nv ve)] 37)) ((w.alloc (.cells #[.int .u32 (nv32 ep), .int .u32 65535, .int .u64 (nv ve)] 37)).alloc (.cells #[.slice x 32 c, .int .u64 (nv t.1), .int .u64 (nv t.2)] 39)) := (Below.refl _ _).alloc (Nat.le_refl _) _
  have hB0 : Below w.heap.size w ((w.alloc (.cells #[.int .u32 (nv32 ep), .int .u32 65535, .int .u64 (nv ve)] 37)).alloc (.cells #[.slice x 32 c, .int .u64 (nv t.1), .int .u64 (nv t.2)] 39)) := hb0.trans (hb1.mono hb0.size)
  have bn : CBox 37 ((w.alloc (.cells #[.int .u32 (nv32 ep), .int .u32 65535, .int .u64 (nv ve)] 37)).alloc (.cells #[.slice x 32 c, .int .u64 (nv t.1), .int .u64 (nv t.2)] 39)) w.heap.size #[.int .u32 (nv32 ep), .int .u32 65535, .int .u64 (nv ve)] := CBox.grown (CBox.new 37 w #[.int .u32 (nv32 ep), .int .u32 65535, .int .u64 (nv ve)]) hb1
  have bs_ : CBox 39 ((w.alloc (.cells #[.int .u32 (nv32 ep), .int .u32 65535, .int .u64 (nv ve)] 37)).alloc (.cells #[.slice x 32 c, .int .u64 (nv t.1), .int .u64 (nv t.2)] 39)) (w.heap.size + 1) #[.slice x 32 c, .int .u64 (nv t.1), .int .u64 (nv t.2)] := by
    have := CBox.new 39 (w.alloc (.cells #[.int .u32 (nv32 ep), .int .u32 65535, .int .u64 (nv ve)] 37)) #[.slice x 32 c, .int .u64 (nv t.1), .int .u64 (nv t.2)]
    rw [World.size_alloc] at this
    exact this
  replace sx := sx.below hB0
  replace sz := sz.below hB0
  have e0 : ((w.alloc (.cells #[.int .u32 (nv32 ep), .int .u32 65535, .int .u64 (nv ve)] 37)).alloc (.cells #[.slice x 32 c, .int .u64 (nv t.1), .int .u64 (nv t.2)] 39)).cell? ⟨w.heap.size + 1, 0, none⟩ = some (.slice x 32 c) := CBox.cell bs_ 0
  clear hb0 hb1
  have bn0_ : ((w.alloc (.cells #[.int .u32 (nv32 ep), .int .u32 65535, .int .u64 (nv ve)] 37)).alloc (.cells #[.slice x 32 c, .int .u64 (nv t.1), .int .u64 (nv t.2)] 39)).cell? ⟨w.heap.size, 0, none⟩ = some (.int .u32 (nv32 ep)) := CBox.cell bn 0
  have bn1_ : ((w.alloc (.cells #[.int .u32 (nv32 ep), .int .u32 65535, .int .u64 (nv ve)] 37)).alloc (.cells #[.slice x 32 c, .int .u64 (nv t.1), .int .u64 (nv t.2)] 39)).cell? ⟨w.heap.size, 1, none⟩ = some (.int .u32 65535) := CBox.cell bn 1
  have bn2_ : ((w.alloc (.cells #[.int .u32 (nv32 ep), .int .u32 65535, .int .u64 (nv ve)] 37)).alloc (.cells #[.slice x 32 c, .int .u64 (nv t.1), .int .u64 (nv t.2)] 39)).cell? ⟨w.heap.size, 2, none⟩ = some (.int .u64 (nv ve)) := CBox.cell bn 2
  have bs_1_ : ((w.alloc (.cells #[.int .u32 (nv32 ep), .int .u32 65535, .int .u64 (nv ve)] 37)).alloc (.cells #[.slice x 32 c, .int .u64 (nv t.1), .int .u64 (nv t.2)] 39)).cell? ⟨w.heap.size + 1, 1, none⟩ = some (.int .u64 (nv t.1)) := CBox.cell bs_ 1
  have bs_2_ : ((w.alloc (.cells #[.int .u32 (nv32 ep), .int .u32 65535, .int .u64 (nv ve)] 37)).alloc (.cells #[.slice x 32 c, .int .u64 (nv t.1), .int .u64 (nv t.2)] 39)).cell? ⟨w.heap.size + 1, 2, none⟩ = some (.int .u64 (nv t.2)) := CBox.cell bs_ 2
  go_enter Try.func5, Try.ntmps5
  go_wp2_with fail
  generalize ((w.alloc (.cells #[.int .u32 (nv32 ep), .int .u32 65535, .int .u64 (nv ve)] 37)).alloc (.cells #[.slice x 32 c, .int .u64 (nv t.1), .int .u64 (nv t.2)] 39)) = W at *
  refine (p1 W sx).mono ?_
  rintro e w1 ⟨z1, c1, rfl, s1, f1, hb⟩
  have hB1 := hB0.trans (hb.mono hB0.size)
  replace bn := CBox.grown bn hb
  replace bs_ := CBox.grown bs_ hb
  replace sx := sx.below hb
  replace sz := sz.below hb
  replace s1 := s1.sat
  clear e0 bs_1_ bs_2_
  clear bn0_ bn1_ bn2_
  have bn0_ : w1.cell? ⟨w.heap.size, 0, none⟩ = some (.int .u32 (nv32 ep)) := CBox.cell bn 0
  have bn1_ : w1.cell? ⟨w.heap.size, 1, none⟩ = some (.int .u32 65535) := CBox.cell bn 1
  have bn2_ : w1.cell? ⟨w.heap.size, 2, none⟩ = some (.int .u64 (nv ve)) := CBox.cell bn 2
  have bs_0_ : w1.cell? ⟨(w.heap.size + 1), 0, none⟩ = some (.slice x 32 c) := CBox.cell bs_ 0
  have bs_1_ : w1.cell? ⟨(w.heap.size + 1), 1, none⟩ = some (.int .u64 (nv t.1)) := CBox.cell bs_ 1
  have bs_2_ : w1.cell? ⟨(w.heap.size + 1), 2, none⟩ = some (.int .u64 (nv t.2)) := CBox.cell bs_ 2
  go_wp2_with fail
  refine (p2 w1 sx).mono ?_
  rintro e w2 ⟨z2, c2, rfl, s2, f2, hb⟩
  have hB2 := hB1.trans (hb.mono hB1.size)
  replace bn := CBox.grown bn hb
  replace bs_ := CBox.grown bs_ hb
  replace sx := sx.below hb
  replace sz := sz.below hb
  replace s1 := s1.below hb
  have v1 := s1.conv (c := c1)
  have v2 := s2.sat.conv (c := c2)
  clear bn0_ bn1_ bn2_ bs_0_ bs_1_ bs_2_
  go_wp2_with fail
  refine (p3 z1 c1 f1 w2 s1).mono ?_
  rintro e w3 ⟨z3, c3, rfl, s3, f3, hb⟩
  have hB3 := hB2.trans (hb.mono hB2.size)
  replace bn := CBox.grown bn hb
  replace bs_ := CBox.grown bs_ hb
  replace sx := sx.below hb
  replace sz := sz.below hb
  replace s3 := s3.sat
  clear v1 v2 s1 s2
  have hb : Below w3.heap.size w3 ((w3.alloc (.cells #[.int .u32 (nv32 ep), .int .u32 65535, .int .u64 (nv ve)] 37)).alloc (.cells #[.slice z3 32 c3, .int .u64 (nv t.1), .int .u64 (nv t.2)] 39)) := ((Below.refl w3.heap.size w3).alloc (Nat.le_refl _) _).alloc (by rw [World.size_alloc]; omega) _
  have hB4 := hB3.trans (hb.mono hB3.size)
  replace bn := CBox.grown bn hb
  replace bs_ := CBox.grown bs_ hb
  replace sx := sx.below hb
  replace sz := sz.below hb
  have jn : CBox 37 ((w3.alloc (.cells #[.int .u32 (nv32 ep), .int .u32 65535, .int .u64 (nv ve)] 37)).alloc (.cells #[.slice z3 32 c3, .int .u64 (nv t.1), .int .u64 (nv t.2)] 39)) w3.heap.size #[.int .u32 (nv32 ep), .int .u32 65535, .int .u64 (nv ve)] := CBox.grown (CBox.new 37 w3 #[.int .u32 (nv32 ep), .int .u32 65535, .int .u64 (nv ve)]) ((Below.refl _ _).alloc (Nat.le_refl _) _)
  have js : CBox 39 ((w3.alloc (.cells #[.int .u32 (nv32 ep), .int .u32 65535, .int .u64 (nv ve)] 37)).alloc (.cells #[.slice z3 32 c3, .int .u64 (nv t.1), .int .u64 (nv t.2)] 39)) (w3.heap.size + 1) #[.slice z3 32 c3, .int .u64 (nv t.1), .int .u64 (nv t.2)] := by
    have := CBox.new 39 (w3.alloc (.cells #[.int .u32 (nv32 ep), .int .u32 65535, .int .u64 (nv ve)] 37)) #[.slice z3 32 c3, .int .u64 (nv t.1), .int .u64 (nv t.2)]
    rw [World.size_alloc] at this
    exact this
  replace s3 := s3.below hb
  go_wp2_with fail
  generalize ((w3.alloc (.cells #[.int .u32 (nv32 ep), .int .u32 65535, .int .u64 (nv ve)] 37)).alloc (.cells #[.slice z3 32 c3, .int .u64 (nv t.1), .int .u64 (nv t.2)] 39)) = w4 at *
  refine (p4 w4).mono ?_
  rintro e w5 ⟨z5, c5, rfl, hb⟩
  have hB5 := hB4.trans (hb.mono hB4.size)
  replace bn := CBox.grown bn hb
  replace bs_ := CBox.grown bs_ hb
  replace jn := CBox.grown jn hb
  replace js := CBox.grown js hb
  replace sx := sx.below hb
  replace sz := sz.below hb
  replace s3 := s3.below hb
  have hb : Below w5.heap.size w5 ((w5.alloc (.cells #[.int .u32 0, .int .u32 0, .int .u64 0] 37)).alloc (.cells #[.slice z5 0 c5, .int .u64 0, .int .u64 0] 39)) := ((Below.refl w5.heap.size w5).alloc (Nat.le_refl _) _).alloc (by rw [World.size_alloc]; omega) _
  have hB6 := hB5.trans (hb.mono hB5.size)
  replace bn := CBox.grown bn hb
  replace bs_ := CBox.grown bs_ hb
  replace jn := CBox.grown jn hb
  replace js := CBox.grown js hb
  replace sx := sx.below hb
  replace sz := sz.below hb
  have gn : CBox 37 ((w5.alloc (.cells #[.int .u32 0, .int .u32 0, .int .u64 0] 37)).alloc (.cells #[.slice z5 0 c5, .int .u64 0, .int .u64 0] 39)) w5.heap.size #[.int .u32 0, .int .u32 0, .int .u64 0] := CBox.grown (CBox.new 37 w5 #[.int .u32 0, .int .u32 0, .int .u64 0]) ((Below.refl _ _).alloc (Nat.le_refl _) _)
  have gs : CBox 39 ((w5.alloc (.cells #[.int .u32 0, .int .u32 0, .int .u64 0] 37)).alloc (.cells #[.slice z5 0 c5, .int .u64 0, .int .u64 0] 39)) (w5.heap.size + 1) #[.slice z5 0 c5, .int .u64 0, .int .u64 0] := by
    have := CBox.new 39 (w5.alloc (.cells #[.int .u32 0, .int .u32 0, .int .u64 0] 37)) #[.slice z5 0 c5, .int .u64 0, .int .u64 0]
    rw [World.size_alloc] at this
    exact this
  replace s3 := s3.below hb
  go_wp2_with fail
  generalize ((w5.alloc (.cells #[.int .u32 0, .int .u32 0, .int .u64 0] 37)).alloc (.cells #[.slice z5 0 c5, .int .u64 0, .int .u64 0] 39)) = w6 at *
  refine (p5 w6).mono ?_
  rintro e w7 ⟨z7, c7, rfl, hb⟩
  have hB7 := hB6.trans (hb.mono hB6.size)
  replace bn := CBox.grown bn hb
  replace bs_ := CBox.grown bs_ hb
  replace jn := CBox.grown jn hb
  replace js := CBox.grown js hb
  replace gn := CBox.grown gn hb
  replace gs := CBox.grown gs hb
  replace sx := sx.below hb
  replace sz := sz.below hb
  replace s3 := s3.below hb
  have hb : Below w7.heap.size w7 ((w7.alloc (.cells #[.int .u32 0, .int .u32 0, .int .u64 0] 37)).alloc (.cells #[.slice z7 0 c7, .int .u64 0, .int .u64 0] 39)) := ((Below.refl w7.heap.size w7).alloc (Nat.le_refl _) _).alloc (by rw [World.size_alloc]; omega) _
  have hB8 := hB7.trans (hb.mono hB7.size)
  replace bn := CBox.grown bn hb
  replace bs_ := CBox.grown bs_ hb
  replace jn := CBox.grown jn hb
  replace js := CBox.grown js hb
  replace gn := CBox.grown gn hb
  replace gs := CBox.grown gs hb
  replace sx := sx.below hb
  replace sz := sz.below hb
  have kn : CBox 37 ((w7.alloc (.cells #[.int .u32 0, .int .u32 0, .int .u64 0] 37)).alloc (.cells #[.slice z7 0 c7, .int .u64 0, .int .u64 0] 39)) w7.heap.size #[.int .u32 0, .int .u32 0, .int .u64 0] := CBox.grown (CBox.new 37 w7 #[.int .u32 0, .int .u32 0, .int .u64 0]) ((Below.refl _ _).alloc (Nat.le_refl _) _)
  have ks : CBox 39 ((w7.alloc (.cells #[.int .u32 0, .int .u32 0, .int .u64 0] 37)).alloc (.cells #[.slice z7 0 c7, .int .u64 0, .int .u64 0] 39)) (w7.heap.size + 1) #[.slice z7 0 c7, .int .u64 0, .int .u64 0] := by
    have := CBox.new 39 (w7.alloc (.cells #[.int .u32 0, .int .u32 0, .int .u64 0] 37)) #[.slice z7 0 c7, .int .u64 0, .int .u64 0]
    rw [World.size_alloc] at this
    exact this
  replace s3 := s3.below hb
  clear hb
  have bn0_ : ((w7.alloc (.cells #[.int .u32 0, .int .u32 0, .int .u64 0] 37)).alloc (.cells #[.slice z7 0 c7, .int .u64 0, .int .u64 0] 39)).cell? ⟨w.heap.size, 0, none⟩ = some (.int .u32 (nv32 ep)) := CBox.cell bn 0
  have bn1_ : ((w7.alloc (.cells #[.int .u32 0, .int .u32 0, .int .u64 0] 37)).alloc (.cells #[.slice z7 0 c7, .int .u64 0, .int .u64 0] 39)).cell? ⟨w.heap.size, 1, none⟩ = some (.int .u32 65535) := CBox.cell bn 1
  have bn2_ : ((w7.alloc (.cells #[.int .u32 0, .int .u32 0, .int .u64 0] 37)).alloc (.cells #[.slice z7 0 c7, .int .u64 0, .int .u64 0] 39)).cell? ⟨w.heap.size, 2, none⟩ = some (.int .u64 (nv ve)) := CBox.cell bn 2
  have bs_0_ : ((w7.alloc (.cells #[.int .u32 0, .int .u32 0, .int .u64 0] 37)).alloc (.cells #[.slice z7 0 c7, .int .u64 0, .int .u64 0] 39)).cell? ⟨(w.heap.size + 1), 0, none⟩ = some (.slice x 32 c) := CBox.cell bs_ 0
  have bs_1_ : ((w7.alloc (.cells #[.int .u32 0, .int .u32 0, .int .u64 0] 37)).alloc (.cells #[.slice z7 0 c7, .int .u64 0, .int .u64 0] 39)).cell? ⟨(w.heap.size + 1), 1, none⟩ = some (.int .u64 (nv t.1)) := CBox.cell bs_ 1
  have bs_2_ : ((w7.alloc (.cells #[.int .u32 0, .int .u32 0, .int .u64 0] 37)).alloc (.cells #[.slice z7 0 c7, .int .u64 0, .int .u64 0] 39)).cell? ⟨(w.heap.size + 1), 2, none⟩ = some (.int .u64 (nv t.2)) := CBox.cell bs_ 2
  have jn0_ : ((w7.alloc (.cells #[.int .u32 0, .int .u32 0, .int .u64 0] 37)).alloc (.cells #[.slice z7 0 c7, .int .u64 0, .int .u64 0] 39)).cell? ⟨w3.heap.size, 0, none⟩ = some (.int .u32 (nv32 ep)) := CBox.cell jn 0
  have jn1_ : ((w7.alloc (.cells #[.int .u32 0, .int .u32 0, .int .u64 0] 37)).alloc (.cells #[.slice z7 0 c7, .int .u64 0, .int .u64 0] 39)).cell? ⟨w3.heap.size, 1, none⟩ = some (.int .u32 65535) := CBox.cell jn 1
  have jn2_ : ((w7.alloc (.cells #[.int .u32 0, .int .u32 0, .int .u64 0] 37)).alloc (.cells #[.slice z7 0 c7, .int .u64 0, .int .u64 0] 39)).cell? ⟨w3.heap.size, 2, none⟩ = some (.int .u64 (nv ve)) := CBox.cell jn 2
  have js0_ : ((w7.alloc (.cells #[.int .u32 0, .int .u32 0, .int .u64 0] 37)).alloc (.cells #[.slice z7 0 c7, .int .u64 0, .int .u64 0] 39)).cell? ⟨(w3.heap.size + 1), 0, none⟩ = some (.slice z3 32 c3) := CBox.cell js 0
  have js1_ : ((w7.alloc (.cells #[.int .u32 0, .int .u32 0, .int .u64 0] 37)).alloc (.cells #[.slice z7 0 c7, .int .u64 0, .int .u64 0] 39)).cell? ⟨(w3.heap.size + 1), 1, none⟩ = some (.int .u64 (nv t.1)) := CBox.cell js 1
  have js2_ : ((w7.alloc (.cells #[.int .u32 0, .int .u32 0, .int .u64 0] 37)).alloc (.cells #[.slice z7 0 c7, .int .u64 0, .int .u64 0] 39)).cell? ⟨(w3.heap.size + 1), 2, none⟩ = some (.int .u64 (nv t.2)) := CBox.cell js 2
  have gn0_ : ((w7.alloc (.cells #[.int .u32 0, .int .u32 0, .int .u64 0] 37)).alloc (.cells #[.slice z7 0 c7, .int .u64 0, .int .u64 0] 39)).cell? ⟨w5.heap.size, 0, none⟩ = some (.int .u32 0) := CBox.cell gn 0
  have gn1_ : ((w7.alloc (.cells #[.int .u32 0, .int .u32 0, .int .u64 0] 37)).alloc (.cells #[.slice z7 0 c7, .int .u64 0, .int .u64 0] 39)).cell? ⟨w5.heap.size, 1, none⟩ = some (.int .u32 0) := CBox.cell gn 1
  have gn2_ : ((w7.alloc (.cells #[.int .u32 0, .int .u32 0, .int .u64 0] 37)).alloc (.cells #[.slice z7 0 c7, .int .u64 0, .int .u64 0] 39)).cell? ⟨w5.heap.size, 2, none⟩ = some (.int .u64 0) := CBox.cell gn 2
  have gs0_ : ((w7.alloc (.cells #[.int .u32 0, .int .u32 0, .int .u64 0] 37)).alloc (.cells #[.slice z7 0 c7, .int .u64 0, .int .u64 0] 39)).cell? ⟨(w5.heap.size + 1), 0, none⟩ = some (.slice z5 0 c5) := CBox.cell gs 0
  have gs1_ : ((w7.alloc (.cells #[.int .u32 0, .int .u32 0, .int .u64 0] 37)).alloc (.cells #[.slice z7 0 c7, .int .u64 0, .int .u64 0] 39)).cell? ⟨(w5.heap.size + 1), 1, none⟩ = some (.int .u64 0) := CBox.cell gs 1
  have gs2_ : ((w7.alloc (.cells #[.int .u32 0, .int .u32 0, .int .u64 0] 37)).alloc (.cells #[.slice z7 0 c7, .int .u64 0, .int .u64 0] 39)).cell? ⟨(w5.heap.size + 1), 2, none⟩ = some (.int .u64 0) := CBox.cell gs 2
  have kn0_ : ((w7.alloc (.cells #[.int .u32 0, .int .u32 0, .int .u64 0] 37)).alloc (.cells #[.slice z7 0 c7, .int .u64 0, .int .u64 0] 39)).cell? ⟨w7.heap.size, 0, none⟩ = some (.int .u32 0) := CBox.cell kn 0
  have kn1_ : ((w7.alloc (.cells #[.int .u32 0, .int .u32 0, .int .u64 0] 37)).alloc (.cells #[.slice z7 0 c7, .int .u64 0, .int .u64 0] 39)).cell? ⟨w7.heap.size, 1, none⟩ = some (.int .u32 0) := CBox.cell kn 1
  have kn2_ : ((w7.alloc (.cells #[.int .u32 0, .int .u32 0, .int .u64 0] 37)).alloc (.cells #[.slice z7 0 c7, .int .u64 0, .int .u64 0] 39)).cell? ⟨w7.heap.size, 2, none⟩ = some (.int .u64 0) := CBox.cell kn 2
  have ks0_ : ((w7.alloc (.cells #[.int .u32 0, .int .u32 0, .int .u64 0] 37)).alloc (.cells #[.slice z7 0 c7, .int .u64 0, .int .u64 0] 39)).cell? ⟨(w7.heap.size + 1), 0, none⟩ = some (.slice z7 0 c7) := CBox.cell ks 0
  have ks1_ : ((w7.alloc (.cells #[.int .u32 0, .int .u32 0, .int .u64 0] 37)).alloc (.cells #[.slice z7 0 c7, .int .u64 0, .int .u64 0] 39)).cell? ⟨(w7.heap.size + 1), 1, none⟩ = some (.int .u64 0) := CBox.cell ks 1
  have ks2_ : ((w7.alloc (.cells #[.int .u32 0, .int .u32 0, .int .u64 0] 37)).alloc (.cells #[.slice z7 0 c7, .int .u64 0, .int .u64 0] 39)).cell? ⟨(w7.heap.size + 1), 2, none⟩ = some (.int .u64 0) := CBox.cell ks 2
  go_wp2_with fail
  generalize ((w7.alloc (.cells #[.int .u32 0, .int .u32 0, .int .u64 0] 37)).alloc (.cells #[.slice z7 0 c7, .int .u64 0, .int .u64 0] 39)) = w8 at *
  clear bn0_ bn1_ bn2_ bs_0_ bs_1_ bs_2_ jn0_ jn1_ jn2_ js0_ js1_ js2_ gn0_ gn1_ gn2_ gs0_ gs1_ gs2_ kn0_ kn1_ kn2_ ks0_ ks1_ ks2_
  refine (rsame_self t ys z3 x 32 c3 c by_ w8 s3 sx).mono ?_
  rintro e w9 ⟨rfl, hb⟩
  have hB9 := hB8.trans (hb.mono hB8.size)
  replace bn := CBox.grown bn hb
  replace bs_ := CBox.grown bs_ hb
  replace jn := CBox.grown jn hb
  replace js := CBox.grown js hb
  replace gn := CBox.grown gn hb
  replace gs := CBox.grown gs hb
  replace kn := CBox.grown kn hb
  replace ks := CBox.grown ks hb
  replace sx := sx.below hb
  replace sz := sz.below hb
  have gn0_ : w9.cell? ⟨w5.heap.size, 0, none⟩ = some (.int .u32 0) := CBox.cell gn 0
  have gn1_ : w9.cell? ⟨w5.heap.size, 1, none⟩ = some (.int .u32 0) := CBox.cell gn 1
  have gn2_ : w9.cell? ⟨w5.heap.size, 2, none⟩ = some (.int .u64 0) := CBox.cell gn 2
  have gs0_ : w9.cell? ⟨(w5.heap.size + 1), 0, none⟩ = some (.slice z5 0 c5) := CBox.cell gs 0
  have gs1_ : w9.cell? ⟨(w5.heap.size + 1), 1, none⟩ = some (.int .u64 0) := CBox.cell gs 1
  have gs2_ : w9.cell? ⟨(w5.heap.size + 1), 2, none⟩ = some (.int .u64 0) := CBox.cell gs 2
  have kn0_ : w9.cell? ⟨w7.heap.size, 0, none⟩ = some (.int .u32 0) := CBox.cell kn 0
  have kn1_ : w9.cell? ⟨w7.heap.size, 1, none⟩ = some (.int .u32 0) := CBox.cell kn 1
  have kn2_ : w9.cell? ⟨w7.heap.size, 2, none⟩ = some (.int .u64 0) := CBox.cell kn 2
  have ks0_ : w9.cell? ⟨(w7.heap.size + 1), 0, none⟩ = some (.slice z7 0 c7) := CBox.cell ks 0
  have ks1_ : w9.cell? ⟨(w7.heap.size + 1), 1, none⟩ = some (.int .u64 0) := CBox.cell ks 1
  have ks2_ : w9.cell? ⟨(w7.heap.size + 1), 2, none⟩ = some (.int .u64 0) := CBox.cell ks 2
  go_wp2_with fail
  clear gn0_ gn1_ gn2_ gs0_ gs1_ gs2_ kn0_ kn1_ kn2_ ks0_ ks1_ ks2_
  refine (rsame_self (0#64, 0#64) [] z5 z7 0 c5 c7 (fun x hx => by cases hx) w9 (SAt.none _ _) (SAt.none _ _)).mono ?_
  rintro e w10 ⟨rfl, hb⟩
  have hB10 := hB9.trans (hb.mono hB9.size)
  replace bn := CBox.grown bn hb
  replace bs_ := CBox.grown bs_ hb
  replace jn := CBox.grown jn hb
  replace js := CBox.grown js hb
  replace gn := CBox.grown gn hb
  replace gs := CBox.grown gs hb
  replace kn := CBox.grown kn hb
  replace ks := CBox.grown ks hb
  replace sx := sx.below hb
  replace sz := sz.below hb
  go_wp2_with fail
  refine (hkn _).mono ?_
  rintro e w11 ⟨rfl, hb⟩
  have hB11 := hB10.trans (hb.mono hB10.size)
  replace bn := CBox.grown bn hb
  replace bs_ := CBox.grown bs_ hb
  replace jn := CBox.grown jn hb
  replace js := CBox.grown js hb
  replace gn := CBox.grown gn hb
  replace gs := CBox.grown gs hb
  replace kn := CBox.grown kn hb
  replace ks := CBox.grown ks hb
  replace sx := sx.below hb
  replace sz := sz.below hb
  go_wp2
  go_ret
  exact ⟨rfl, hB11⟩
set_option maxHeartbeats 1000000 in
theorem rtrecs01 (hR : RtAll) (hO : RcAll) (n : Nn) (c d m : Nat) (x z : Option Addr) (ys zs : List Int) (t : BitVec 64 × BitVec 64) (hn : m ≠ 32 ∨ nv32 n.2.1 ≠ 65535) (hm : ¬ (m : Int) > 100)  (_by : Bytes ys) (bz : Bytes zs) (_fx : Fit x m c) (fz : Fit z 60 d) (w : World) (sx : SAt w x m ys) (sz : SAt w z 60 zs) : Calls Try.prog 5 #[nnv n, sev x m c t, .slice z 60 d] w fun e w' => e = .returned (.bool true) ∧ Below w.heap.size w w' := by
  have hkn := rtknown hR
  have p1 := hO.putNo n x m c t hn
  have p2 := rrec_no n x m c t hn
  have p3 := fun x c => hO.getNo x 0 c (by decide) (by decide)
  clear hn
  have p4 := hO.getYes z d zs fz bz
  have p5 := rgrec_yes z d zs fz bz
  obtain ⟨nz, hnz⟩ : ∃ nz, rcN zs = nz := ⟨_, rfl⟩
  obtain ⟨bs, hbs⟩ : ∃ bs, rcB zs = bs := ⟨_, rfl⟩
  obtain ⟨tz, htz⟩ : ∃ tz, rcT zs = tz := ⟨_, rfl⟩
  have hbb : Bytes bs := by rw [← hbs]; exact (bz.drop 12).take 32
  rw [hnz, hbs, htz] at p4 p5
  clear hnz hbs htz
  unfold nnv sev at *
  have he1 := eqN (nv32 n.1) (nv32 n.2.1) (nv n.2.2) (nv32 n.1) (nv32 n.2.1) (nv n.2.2)
  simp only [beq_self_eq_true, Bool.and_self] at he1
  have he2 := eqN (nv32 nz.1) (nv32 nz.2.1) (nv nz.2.2) (nv32 nz.1) (nv32 nz.2.1) (nv nz.2.2)
  simp only [beq_self_eq_true, Bool.and_self] at he2
  have hb0 : Below w.heap.size w (w.alloc (.cells #[.int .u32 (nv32 n.1), .int .u32 (nv32 n.2.1), .int .u64 (nv n.2.2)] 37)) := (Below.refl _ _).alloc (Nat.le_refl _) _
  have hb1 : Below (w.alloc (.cells #[.int .u32 (nv32 n.1), .int .u32 (nv32 n.2.1), .int .u64 (nv n.2.2)] 37)).heap.size (w.alloc (.cells #[.int .u32 (nv32 n.1), .int .u32 (nv32 n.2.1), .int .u64 (nv n.2.2)] 37)) ((w.alloc (.cells #[.int .u32 (nv32 n.1), .int .u32 (nv32 n.2.1), .int .u64 (nv n.2.2)] 37)).alloc (.cells #[.slice x m c, .int .u64 (nv t.1), .int .u64 (nv t.2)] 39)) := (Below.refl _ _).alloc (Nat.le_refl _) _
  have hB0 : Below w.heap.size w ((w.alloc (.cells #[.int .u32 (nv32 n.1), .int .u32 (nv32 n.2.1), .int .u64 (nv n.2.2)] 37)).alloc (.cells #[.slice x m c, .int .u64 (nv t.1), .int .u64 (nv t.2)] 39)) := hb0.trans (hb1.mono hb0.size)
  have bn : CBox 37 ((w.alloc (.cells #[.int .u32 (nv32 n.1), .int .u32 (nv32 n.2.1), .int .u64 (nv n.2.2)] 37)).alloc (.cells #[.slice x m c, .int .u64 (nv t.1), .int .u64 (nv t.2)] 39)) w.heap.size #[.int .u32 (nv32 n.1), .int .u32 (nv32 n.2.1), .int .u64 (nv n.2.2)] := CBox.grown (CBox.new 37 w #[.int .u32 (nv32 n.1), .int .u32 (nv32 n.2.1), .int .u64 (nv n.2.2)]) hb1
  have bs_ : CBox 39 ((w.alloc (.cells #[.int .u32 (nv32 n.1), .int .u32 (nv32 n.2.1), .int .u64 (nv n.2.2)] 37)).alloc (.cells #[.slice x m c, .int .u64 (nv t.1), .int .u64 (nv t.2)] 39)) (w.heap.size + 1) #[.slice x m c, .int .u64 (nv t.1), .int .u64 (nv t.2)] := by
    have := CBox.new 39 (w.alloc (.cells #[.int .u32 (nv32 n.1), .int .u32 (nv32 n.2.1), .int .u64 (nv n.2.2)] 37)) #[.slice x m c, .int .u64 (nv t.1), .int .u64 (nv t.2)]
    rw [World.size_alloc] at this
    exact this
  replace sx := sx.below hB0
  replace sz := sz.below hB0
  have e0 : ((w.alloc (.cells #[.int .u32 (nv32 n.1), .int .u32 (nv32 n.2.1), .int .u64 (nv n.2.2)] 37)).alloc (.cells #[.slice x m c, .int .u64 (nv t.1), .int .u64 (nv t.2)] 39)).cell? ⟨w.heap.size + 1, 0, none⟩ = some (.slice x m c) := CBox.cell bs_ 0
  clear hb0 hb1
  have bn0_ : ((w.alloc (.cells #[.int .u32 (nv32 n.1), .int .u32 (nv32 n.2.1), .int .u64 (nv n.2.2)] 37)).alloc (.cells #[.slice x m c, .int .u64 (nv t.1), .int .u64 (nv t.2)] 39)).cell? ⟨w.heap.size, 0, none⟩ = some (.int .u32 (nv32 n.1)) := CBox.cell bn 0
  have bn1_ : ((w.alloc (.cells #[.int .u32 (nv32 n.1), .int .u32 (nv32 n.2.1), .int .u64 (nv n.2.2)] 37)).alloc (.cells #[.slice x m c, .int .u64 (nv t.1), .int .u64 (nv t.2)] 39)).cell? ⟨w.heap.size, 1, none⟩ = some (.int .u32 (nv32 n.2.1)) := CBox.cell bn 1
  have bn2_ : ((w.alloc (.cells #[.int .u32 (nv32 n.1), .int .u32 (nv32 n.2.1), .int .u64 (nv n.2.2)] 37)).alloc (.cells #[.slice x m c, .int .u64 (nv t.1), .int .u64 (nv t.2)] 39)).cell? ⟨w.heap.size, 2, none⟩ = some (.int .u64 (nv n.2.2)) := CBox.cell bn 2
  have bs_1_ : ((w.alloc (.cells #[.int .u32 (nv32 n.1), .int .u32 (nv32 n.2.1), .int .u64 (nv n.2.2)] 37)).alloc (.cells #[.slice x m c, .int .u64 (nv t.1), .int .u64 (nv t.2)] 39)).cell? ⟨w.heap.size + 1, 1, none⟩ = some (.int .u64 (nv t.1)) := CBox.cell bs_ 1
  have bs_2_ : ((w.alloc (.cells #[.int .u32 (nv32 n.1), .int .u32 (nv32 n.2.1), .int .u64 (nv n.2.2)] 37)).alloc (.cells #[.slice x m c, .int .u64 (nv t.1), .int .u64 (nv t.2)] 39)).cell? ⟨w.heap.size + 1, 2, none⟩ = some (.int .u64 (nv t.2)) := CBox.cell bs_ 2
  go_enter Try.func5, Try.ntmps5
  go_wp2_with fail
  generalize ((w.alloc (.cells #[.int .u32 (nv32 n.1), .int .u32 (nv32 n.2.1), .int .u64 (nv n.2.2)] 37)).alloc (.cells #[.slice x m c, .int .u64 (nv t.1), .int .u64 (nv t.2)] 39)) = W at *
  refine (p1 W).mono ?_
  rintro e w1 ⟨z1, c1, rfl, f1, hb⟩
  have hB1 := hB0.trans (hb.mono hB0.size)
  replace bn := CBox.grown bn hb
  replace bs_ := CBox.grown bs_ hb
  replace sx := sx.below hb
  replace sz := sz.below hb
  clear e0 bs_1_ bs_2_
  clear bn0_ bn1_ bn2_
  have bn0_ : w1.cell? ⟨w.heap.size, 0, none⟩ = some (.int .u32 (nv32 n.1)) := CBox.cell bn 0
  have bn1_ : w1.cell? ⟨w.heap.size, 1, none⟩ = some (.int .u32 (nv32 n.2.1)) := CBox.cell bn 1
  have bn2_ : w1.cell? ⟨w.heap.size, 2, none⟩ = some (.int .u64 (nv n.2.2)) := CBox.cell bn 2
  have bs_0_ : w1.cell? ⟨(w.heap.size + 1), 0, none⟩ = some (.slice x m c) := CBox.cell bs_ 0
  have bs_1_ : w1.cell? ⟨(w.heap.size + 1), 1, none⟩ = some (.int .u64 (nv t.1)) := CBox.cell bs_ 1
  have bs_2_ : w1.cell? ⟨(w.heap.size + 1), 2, none⟩ = some (.int .u64 (nv t.2)) := CBox.cell bs_ 2
  go_wp2_with fail
  refine (p2 w1).mono ?_
  rintro e w2 ⟨z2, c2, rfl, f2, hb⟩
  have hB2 := hB1.trans (hb.mono hB1.size)
  replace bn := CBox.grown bn hb
  replace bs_ := CBox.grown bs_ hb
  replace sx := sx.below hb
  replace sz := sz.below hb
  have v1 := conv_empty z1 c1 w2
  have v2 := conv_empty z2 c2 w2
  clear bn0_ bn1_ bn2_ bs_0_ bs_1_ bs_2_
  go_wp2_with fail
  refine (p3 z1 c1 w2).mono ?_
  rintro e w3 ⟨z3, c3, rfl, hb⟩
  have hB3 := hB2.trans (hb.mono hB2.size)
  replace bn := CBox.grown bn hb
  replace bs_ := CBox.grown bs_ hb
  replace sx := sx.below hb
  replace sz := sz.below hb
  clear v1 v2
  have hb : Below w3.heap.size w3 ((w3.alloc (.cells #[.int .u32 0, .int .u32 0, .int .u64 0] 37)).alloc (.cells #[.slice z3 0 c3, .int .u64 0, .int .u64 0] 39)) := ((Below.refl w3.heap.size w3).alloc (Nat.le_refl _) _).alloc (by rw [World.size_alloc]; omega) _
  have hB4 := hB3.trans (hb.mono hB3.size)
  replace bn := CBox.grown bn hb
  replace bs_ := CBox.grown bs_ hb
  replace sx := sx.below hb
  replace sz := sz.below hb
  have jn : CBox 37 ((w3.alloc (.cells #[.int .u32 0, .int .u32 0, .int .u64 0] 37)).alloc (.cells #[.slice z3 0 c3, .int .u64 0, .int .u64 0] 39)) w3.heap.size #[.int .u32 0, .int .u32 0, .int .u64 0] := CBox.grown (CBox.new 37 w3 #[.int .u32 0, .int .u32 0, .int .u64 0]) ((Below.refl _ _).alloc (Nat.le_refl _) _)
  have js : CBox 39 ((w3.alloc (.cells #[.int .u32 0, .int .u32 0, .int .u64 0] 37)).alloc (.cells #[.slice z3 0 c3, .int .u64 0, .int .u64 0] 39)) (w3.heap.size + 1) #[.slice z3 0 c3, .int .u64 0, .int .u64 0] := by
    have := CBox.new 39 (w3.alloc (.cells #[.int .u32 0, .int .u32 0, .int .u64 0] 37)) #[.slice z3 0 c3, .int .u64 0, .int .u64 0]
    rw [World.size_alloc] at this
    exact this
  go_wp2_with fail
  generalize ((w3.alloc (.cells #[.int .u32 0, .int .u32 0, .int .u64 0] 37)).alloc (.cells #[.slice z3 0 c3, .int .u64 0, .int .u64 0] 39)) = w4 at *
  refine (p4 w4 sz).mono ?_
  rintro e w5 ⟨z5, c5, rfl, s5, f5, hb⟩
  have hB5 := hB4.trans (hb.mono hB4.size)
  replace bn := CBox.grown bn hb
  replace bs_ := CBox.grown bs_ hb
  replace jn := CBox.grown jn hb
  replace js := CBox.grown js hb
  replace sx := sx.below hb
  replace sz := sz.below hb
  replace s5 := s5.sat
  have hb : Below w5.heap.size w5 ((w5.alloc (.cells #[.int .u32 (nv32 nz.1), .int .u32 (nv32 nz.2.1), .int .u64 (nv nz.2.2)] 37)).alloc (.cells #[.slice z5 32 c5, .int .u64 (nv tz.1), .int .u64 (nv tz.2)] 39)) := ((Below.refl w5.heap.size w5).alloc (Nat.le_refl _) _).alloc (by rw [World.size_alloc]; omega) _
  have hB6 := hB5.trans (hb.mono hB5.size)
  replace bn := CBox.grown bn hb
  replace bs_ := CBox.grown bs_ hb
  replace jn := CBox.grown jn hb
  replace js := CBox.grown js hb
  replace sx := sx.below hb
  replace sz := sz.below hb
  have gn : CBox 37 ((w5.alloc (.cells #[.int .u32 (nv32 nz.1), .int .u32 (nv32 nz.2.1), .int .u64 (nv nz.2.2)] 37)).alloc (.cells #[.slice z5 32 c5, .int .u64 (nv tz.1), .int .u64 (nv tz.2)] 39)) w5.heap.size #[.int .u32 (nv32 nz.1), .int .u32 (nv32 nz.2.1), .int .u64 (nv nz.2.2)] := CBox.grown (CBox.new 37 w5 #[.int .u32 (nv32 nz.1), .int .u32 (nv32 nz.2.1), .int .u64 (nv nz.2.2)]) ((Below.refl _ _).alloc (Nat.le_refl _) _)
  have gs : CBox 39 ((w5.alloc (.cells #[.int .u32 (nv32 nz.1), .int .u32 (nv32 nz.2.1), .int .u64 (nv nz.2.2)] 37)).alloc (.cells #[.slice z5 32 c5, .int .u64 (nv tz.1), .int .u64 (nv tz.2)] 39)) (w5.heap.size + 1) #[.slice z5 32 c5, .int .u64 (nv tz.1), .int .u64 (nv tz.2)] := by
    have := CBox.new 39 (w5.alloc (.cells #[.int .u32 (nv32 nz.1), .int .u32 (nv32 nz.2.1), .int .u64 (nv nz.2.2)] 37)) #[.slice z5 32 c5, .int .u64 (nv tz.1), .int .u64 (nv tz.2)]
    rw [World.size_alloc] at this
    exact this
  replace s5 := s5.below hb
  go_wp2_with fail
  generalize ((w5.alloc (.cells #[.int .u32 (nv32 nz.1), .int .u32 (nv32 nz.2.1), .int .u64 (nv nz.2.2)] 37)).alloc (.cells #[.slice z5 32 c5, .int .u64 (nv tz.1), .int .u64 (nv tz.2)] 39)) = w6 at *
  refine (p5 w6 sz).mono ?_
  rintro e w7 ⟨z7, c7, rfl, s7, f7, hb⟩
  have hB7 := hB6.trans (hb.mono hB6.size)
  replace bn := CBox.grown bn hb
  replace bs_ := CBox.grown bs_ hb
  replace jn := CBox.grown jn hb
  replace js := CBox.grown js hb
  replace gn := CBox.grown gn hb
  replace gs := CBox.grown gs hb
  replace sx := sx.below hb
  replace sz := sz.below hb
  replace s5 := s5.below hb
  replace s7 := s7.sat
  have hb : Below w7.heap.size w7 ((w7.alloc (.cells #[.int .u32 (nv32 nz.1), .int .u32 (nv32 nz.2.1), .int .u64 (nv nz.2.2)] 37)).alloc (.cells #[.slice z7 32 c7, .int .u64 (nv tz.1), .int .u64 (nv tz.2)] 39)) := ((Below.refl w7.heap.size w7).alloc (Nat.le_refl _) _).alloc (by rw [World.size_alloc]; omega) _
  have hB8 := hB7.trans (hb.mono hB7.size)
  replace bn := CBox.grown bn hb
  replace bs_ := CBox.grown bs_ hb
  replace jn := CBox.grown jn hb
  replace js := CBox.grown js hb
  replace gn := CBox.grown gn hb
  replace gs := CBox.grown gs hb
  replace sx := sx.below hb
  replace sz := sz.below hb
  have kn : CBox 37 ((w7.alloc (.cells #[.int .u32 (nv32 nz.1), .int .u32 (nv32 nz.2.1), .int .u64 (nv nz.2.2)] 37)).alloc (.cells #[.slice z7 32 c7, .int .u64 (nv tz.1), .int .u64 (nv tz.2)] 39)) w7.heap.size #[.int .u32 (nv32 nz.1), .int .u32 (nv32 nz.2.1), .int .u64 (nv nz.2.2)] := CBox.grown (CBox.new 37 w7 #[.int .u32 (nv32 nz.1), .int .u32 (nv32 nz.2.1), .int .u64 (nv nz.2.2)]) ((Below.refl _ _).alloc (Nat.le_refl _) _)
  have ks : CBox 39 ((w7.alloc (.cells #[.int .u32 (nv32 nz.1), .int .u32 (nv32 nz.2.1), .int .u64 (nv nz.2.2)] 37)).alloc (.cells #[.slice z7 32 c7, .int .u64 (nv tz.1), .int .u64 (nv tz.2)] 39)) (w7.heap.size + 1) #[.slice z7 32 c7, .int .u64 (nv tz.1), .int .u64 (nv tz.2)] := by
    have := CBox.new 39 (w7.alloc (.cells #[.int .u32 (nv32 nz.1), .int .u32 (nv32 nz.2.1), .int .u64 (nv nz.2.2)] 37)) #[.slice z7 32 c7, .int .u64 (nv tz.1), .int .u64 (nv tz.2)]
    rw [World.size_alloc] at this
    exact this
  replace s5 := s5.below hb
  replace s7 := s7.below hb
  clear hb
  have bn0_ : ((w7.alloc (.cells #[.int .u32 (nv32 nz.1), .int .u32 (nv32 nz.2.1), .int .u64 (nv nz.2.2)] 37)).alloc (.cells #[.slice z7 32 c7, .int .u64 (nv tz.1), .int .u64 (nv tz.2)] 39)).cell? ⟨w.heap.size, 0, none⟩ = some (.int .u32 (nv32 n.1)) := CBox.cell bn 0
  have bn1_ : ((w7.alloc (.cells #[.int .u32 (nv32 nz.1), .int .u32 (nv32 nz.2.1), .int .u64 (nv nz.2.2)] 37)).alloc (.cells #[.slice z7 32 c7, .int .u64 (nv tz.1), .int .u64 (nv tz.2)] 39)).cell? ⟨w.heap.size, 1, none⟩ = some (.int .u32 (nv32 n.2.1)) := CBox.cell bn 1
  have bn2_ : ((w7.alloc (.cells #[.int .u32 (nv32 nz.1), .int .u32 (nv32 nz.2.1), .int .u64 (nv nz.2.2)] 37)).alloc (.cells #[.slice z7 32 c7, .int .u64 (nv tz.1), .int .u64 (nv tz.2)] 39)).cell? ⟨w.heap.size, 2, none⟩ = some (.int .u64 (nv n.2.2)) := CBox.cell bn 2
  have bs_0_ : ((w7.alloc (.cells #[.int .u32 (nv32 nz.1), .int .u32 (nv32 nz.2.1), .int .u64 (nv nz.2.2)] 37)).alloc (.cells #[.slice z7 32 c7, .int .u64 (nv tz.1), .int .u64 (nv tz.2)] 39)).cell? ⟨(w.heap.size + 1), 0, none⟩ = some (.slice x m c) := CBox.cell bs_ 0
  have bs_1_ : ((w7.alloc (.cells #[.int .u32 (nv32 nz.1), .int .u32 (nv32 nz.2.1), .int .u64 (nv nz.2.2)] 37)).alloc (.cells #[.slice z7 32 c7, .int .u64 (nv tz.1), .int .u64 (nv tz.2)] 39)).cell? ⟨(w.heap.size + 1), 1, none⟩ = some (.int .u64 (nv t.1)) := CBox.cell bs_ 1
  have bs_2_ : ((w7.alloc (.cells #[.int .u32 (nv32 nz.1), .int .u32 (nv32 nz.2.1), .int .u64 (nv nz.2.2)] 37)).alloc (.cells #[.slice z7 32 c7, .int .u64 (nv tz.1), .int .u64 (nv tz.2)] 39)).cell? ⟨(w.heap.size + 1), 2, none⟩ = some (.int .u64 (nv t.2)) := CBox.cell bs_ 2
  have jn0_ : ((w7.alloc (.cells #[.int .u32 (nv32 nz.1), .int .u32 (nv32 nz.2.1), .int .u64 (nv nz.2.2)] 37)).alloc (.cells #[.slice z7 32 c7, .int .u64 (nv tz.1), .int .u64 (nv tz.2)] 39)).cell? ⟨w3.heap.size, 0, none⟩ = some (.int .u32 0) := CBox.cell jn 0
  have jn1_ : ((w7.alloc (.cells #[.int .u32 (nv32 nz.1), .int .u32 (nv32 nz.2.1), .int .u64 (nv nz.2.2)] 37)).alloc (.cells #[.slice z7 32 c7, .int .u64 (nv tz.1), .int .u64 (nv tz.2)] 39)).cell? ⟨w3.heap.size, 1, none⟩ = some (.int .u32 0) := CBox.cell jn 1
  have jn2_ : ((w7.alloc (.cells #[.int .u32 (nv32 nz.1), .int .u32 (nv32 nz.2.1), .int .u64 (nv nz.2.2)] 37)).alloc (.cells #[.slice z7 32 c7, .int .u64 (nv tz.1), .int .u64 (nv tz.2)] 39)).cell? ⟨w3.heap.size, 2, none⟩ = some (.int .u64 0) := CBox.cell jn 2
  have js0_ : ((w7.alloc (.cells #[.int .u32 (nv32 nz.1), .int .u32 (nv32 nz.2.1), .int .u64 (nv nz.2.2)] 37)).alloc (.cells #[.slice z7 32 c7, .int .u64 (nv tz.1), .int .u64 (nv tz.2)] 39)).cell? ⟨(w3.heap.size + 1), 0, none⟩ = some (.slice z3 0 c3) := CBox.cell js 0
  have js1_ : ((w7.alloc (.cells #[.int .u32 (nv32 nz.1), .int .u32 (nv32 nz.2.1), .int .u64 (nv nz.2.2)] 37)).alloc (.cells #[.slice z7 32 c7, .int .u64 (nv tz.1), .int .u64 (nv tz.2)] 39)).cell? ⟨(w3.heap.size + 1), 1, none⟩ = some (.int .u64 0) := CBox.cell js 1
  have js2_ : ((w7.alloc (.cells #[.int .u32 (nv32 nz.1), .int .u32 (nv32 nz.2.1), .int .u64 (nv nz.2.2)] 37)).alloc (.cells #[.slice z7 32 c7, .int .u64 (nv tz.1), .int .u64 (nv tz.2)] 39)).cell? ⟨(w3.heap.size + 1), 2, none⟩ = some (.int .u64 0) := CBox.cell js 2
  have gn0_ : ((w7.alloc (.cells #[.int .u32 (nv32 nz.1), .int .u32 (nv32 nz.2.1), .int .u64 (nv nz.2.2)] 37)).alloc (.cells #[.slice z7 32 c7, .int .u64 (nv tz.1), .int .u64 (nv tz.2)] 39)).cell? ⟨w5.heap.size, 0, none⟩ = some (.int .u32 (nv32 nz.1)) := CBox.cell gn 0
  have gn1_ : ((w7.alloc (.cells #[.int .u32 (nv32 nz.1), .int .u32 (nv32 nz.2.1), .int .u64 (nv nz.2.2)] 37)).alloc (.cells #[.slice z7 32 c7, .int .u64 (nv tz.1), .int .u64 (nv tz.2)] 39)).cell? ⟨w5.heap.size, 1, none⟩ = some (.int .u32 (nv32 nz.2.1)) := CBox.cell gn 1
  have gn2_ : ((w7.alloc (.cells #[.int .u32 (nv32 nz.1), .int .u32 (nv32 nz.2.1), .int .u64 (nv nz.2.2)] 37)).alloc (.cells #[.slice z7 32 c7, .int .u64 (nv tz.1), .int .u64 (nv tz.2)] 39)).cell? ⟨w5.heap.size, 2, none⟩ = some (.int .u64 (nv nz.2.2)) := CBox.cell gn 2
  have gs0_ : ((w7.alloc (.cells #[.int .u32 (nv32 nz.1), .int .u32 (nv32 nz.2.1), .int .u64 (nv nz.2.2)] 37)).alloc (.cells #[.slice z7 32 c7, .int .u64 (nv tz.1), .int .u64 (nv tz.2)] 39)).cell? ⟨(w5.heap.size + 1), 0, none⟩ = some (.slice z5 32 c5) := CBox.cell gs 0
  have gs1_ : ((w7.alloc (.cells #[.int .u32 (nv32 nz.1), .int .u32 (nv32 nz.2.1), .int .u64 (nv nz.2.2)] 37)).alloc (.cells #[.slice z7 32 c7, .int .u64 (nv tz.1), .int .u64 (nv tz.2)] 39)).cell? ⟨(w5.heap.size + 1), 1, none⟩ = some (.int .u64 (nv tz.1)) := CBox.cell gs 1
  have gs2_ : ((w7.alloc (.cells #[.int .u32 (nv32 nz.1), .int .u32 (nv32 nz.2.1), .int .u64 (nv nz.2.2)] 37)).alloc (.cells #[.slice z7 32 c7, .int .u64 (nv tz.1), .int .u64 (nv tz.2)] 39)).cell? ⟨(w5.heap.size + 1), 2, none⟩ = some (.int .u64 (nv tz.2)) := CBox.cell gs 2
  have kn0_ : ((w7.alloc (.cells #[.int .u32 (nv32 nz.1), .int .u32 (nv32 nz.2.1), .int .u64 (nv nz.2.2)] 37)).alloc (.cells #[.slice z7 32 c7, .int .u64 (nv tz.1), .int .u64 (nv tz.2)] 39)).cell? ⟨w7.heap.size, 0, none⟩ = some (.int .u32 (nv32 nz.1)) := CBox.cell kn 0
  have kn1_ : ((w7.alloc (.cells #[.int .u32 (nv32 nz.1), .int .u32 (nv32 nz.2.1), .int .u64 (nv nz.2.2)] 37)).alloc (.cells #[.slice z7 32 c7, .int .u64 (nv tz.1), .int .u64 (nv tz.2)] 39)).cell? ⟨w7.heap.size, 1, none⟩ = some (.int .u32 (nv32 nz.2.1)) := CBox.cell kn 1
  have kn2_ : ((w7.alloc (.cells #[.int .u32 (nv32 nz.1), .int .u32 (nv32 nz.2.1), .int .u64 (nv nz.2.2)] 37)).alloc (.cells #[.slice z7 32 c7, .int .u64 (nv tz.1), .int .u64 (nv tz.2)] 39)).cell? ⟨w7.heap.size, 2, none⟩ = some (.int .u64 (nv nz.2.2)) := CBox.cell kn 2
  have ks0_ : ((w7.alloc (.cells #[.int .u32 (nv32 nz.1), .int .u32 (nv32 nz.2.1), .int .u64 (nv nz.2.2)] 37)).alloc (.cells #[.slice z7 32 c7, .int .u64 (nv tz.1), .int .u64 (nv tz.2)] 39)).cell? ⟨(w7.heap.size + 1), 0, none⟩ = some (.slice z7 32 c7) := CBox.cell ks 0
  have ks1_ : ((w7.alloc (.cells #[.int .u32 (nv32 nz.1), .int .u32 (nv32 nz.2.1), .int .u64 (nv nz.2.2)] 37)).alloc (.cells #[.slice z7 32 c7, .int .u64 (nv tz.1), .int .u64 (nv tz.2)] 39)).cell? ⟨(w7.heap.size + 1), 1, none⟩ = some (.int .u64 (nv tz.1)) := CBox.cell ks 1
  have ks2_ : ((w7.alloc (.cells #[.int .u32 (nv32 nz.1), .int .u32 (nv32 nz.2.1), .int .u64 (nv nz.2.2)] 37)).alloc (.cells #[.slice z7 32 c7, .int .u64 (nv tz.1), .int .u64 (nv tz.2)] 39)).cell? ⟨(w7.heap.size + 1), 2, none⟩ = some (.int .u64 (nv tz.2)) := CBox.cell ks 2
  go_wp2_with fail
  generalize ((w7.alloc (.cells #[.int .u32 (nv32 nz.1), .int .u32 (nv32 nz.2.1), .int .u64 (nv nz.2.2)] 37)).alloc (.cells #[.slice z7 32 c7, .int .u64 (nv tz.1), .int .u64 (nv tz.2)] 39)) = w8 at *
  clear bn0_ bn1_ bn2_ bs_0_ bs_1_ bs_2_ jn0_ jn1_ jn2_ js0_ js1_ js2_ gn0_ gn1_ gn2_ gs0_ gs1_ gs2_ kn0_ kn1_ kn2_ ks0_ ks1_ ks2_
  refine (rsame_self tz bs z5 z7 32 c5 c7 hbb w8 s5 s7).mono ?_
  rintro e w9 ⟨rfl, hb⟩
  have hB9 := hB8.trans (hb.mono hB8.size)
  replace bn := CBox.grown bn hb
  replace bs_ := CBox.grown bs_ hb
  replace jn := CBox.grown jn hb
  replace js := CBox.grown js hb
  replace gn := CBox.grown gn hb
  replace gs := CBox.grown gs hb
  replace kn := CBox.grown kn hb
  replace ks := CBox.grown ks hb
  replace sx := sx.below hb
  replace sz := sz.below hb
  go_wp2_with fail
  refine (hkn _).mono ?_
  rintro e w10 ⟨rfl, hb⟩
  have hB10 := hB9.trans (hb.mono hB9.size)
  replace bn := CBox.grown bn hb
  replace bs_ := CBox.grown bs_ hb
  replace jn := CBox.grown jn hb
  replace js := CBox.grown js hb
  replace gn := CBox.grown gn hb
  replace gs := CBox.grown gs hb
  replace kn := CBox.grown kn hb
  replace ks := CBox.grown ks hb
  replace sx := sx.below hb
  replace sz := sz.below hb
  go_wp2
  go_ret
  exact ⟨rfl, hB10⟩
set_option maxHeartbeats 1000000 in
theorem rtrecs00 (hR : RtAll) (hO : RcAll) (n : Nn) (c d m k : Nat) (x z : Option Addr) (ys zs : List Int) (t : BitVec 64 × BitVec 64) (hn : m ≠ 32 ∨ nv32 n.2.1 ≠ 65535) (hm : ¬ (m : Int) > 100) (hk : k ≠ 60) (hk2 : ¬ (k : Int) > 100) (_by : Bytes ys) (_bz : Bytes zs) (_fx : Fit x m c) (_fz : Fit z k d) (w : World) (sx : SAt w x m ys) (sz : SAt w z k zs) : Calls Try.prog 5 #[nnv n, sev x m c t, .slice z k d] w fun e w' => e = .returned (.bool true) ∧ Below w.heap.size w w' := by
  have hkn := rtknown hR
  have p1 := hO.putNo n x m c t hn
  have p2 := rrec_no n x m c t hn
  have p3 := fun x c => hO.getNo x 0 c (by decide) (by decide)
  clear hn
  have p4 := hO.getNo z k d hk (by omega)
  have p5 := rgrec_no z k d hk (by omega)
  unfold nnv sev at p1 p2 ⊢
  have he1 := eqN (nv32 n.1) (nv32 n.2.1) (nv n.2.2) (nv32 n.1) (nv32 n.2.1) (nv n.2.2)
  simp only [beq_self_eq_true, Bool.and_self] at he1
  have hb0 : Below w.heap.size w (w.alloc (.cells #[.int .u32 (nv32 n.1), .int .u32 (nv32 n.2.1), .int .u64 (nv n.2.2)] 37)) := (Below.refl _ _).alloc (Nat.le_refl _) _
  have hb1 : Below (w.alloc (.cells #[.int .u32 (nv32 n.1), .int .u32 (nv32 n.2.1), .int .u64 (nv n.2.2)] 37)).heap.size (w.alloc (.cells #[.int .u32 (nv32 n.1), .int .u32 (nv32 n.2.1), .int .u64 (nv n.2.2)] 37)) ((w.alloc (.cells #[.int .u32 (nv32 n.1), .int .u32 (nv32 n.2.1), .int .u64 (nv n.2.2)] 37)).alloc (.cells #[.slice x m c, .int .u64 (nv t.1), .int .u64 (nv t.2)] 39)) := (Below.refl _ _).alloc (Nat.le_refl _) _
  have hB0 : Below w.heap.size w ((w.alloc (.cells #[.int .u32 (nv32 n.1), .int .u32 (nv32 n.2.1), .int .u64 (nv n.2.2)] 37)).alloc (.cells #[.slice x m c, .int .u64 (nv t.1), .int .u64 (nv t.2)] 39)) := hb0.trans (hb1.mono hb0.size)
  have bn : CBox 37 ((w.alloc (.cells #[.int .u32 (nv32 n.1), .int .u32 (nv32 n.2.1), .int .u64 (nv n.2.2)] 37)).alloc (.cells #[.slice x m c, .int .u64 (nv t.1), .int .u64 (nv t.2)] 39)) w.heap.size #[.int .u32 (nv32 n.1), .int .u32 (nv32 n.2.1), .int .u64 (nv n.2.2)] := CBox.grown (CBox.new 37 w #[.int .u32 (nv32 n.1), .int .u32 (nv32 n.2.1), .int .u64 (nv n.2.2)]) hb1
  have bs_ : CBox 39 ((w.alloc (.cells #[.int .u32 (nv32 n.1), .int .u32 (nv32 n.2.1), .int .u64 (nv n.2.2)] 37)).alloc (.cells #[.slice x m c, .int .u64 (nv t.1), .int .u64 (nv t.2)] 39)) (w.heap.size + 1) #[.slice x m c, .int .u64 (nv t.1), .int .u64 (nv t.2)] := by
    have := CBox.new 39 (w.alloc (.cells #[.int .u32 (nv32 n.1), .int .u32 (nv32 n.2.1), .int .u64 (nv n.2.2)] 37)) #[.slice x m c, .int .u64 (nv t.1), .int .u64 (nv t.2)]
    rw [World.size_alloc] at this
    exact this
  replace sx := sx.below hB0
  replace sz := sz.below hB0
  have e0 : ((w.alloc (.cells #[.int .u32 (nv32 n.1), .int .u32 (nv32 n.2.1), .int .u64 (nv n.2.2)] 37)).alloc (.cells #[.slice x m c, .int .u64 (nv t.1), .int .u64 (nv t.2)] 39)).cell? ⟨w.heap.size + 1, 0, none⟩ = some (.slice x m c) := CBox.cell bs_ 0
  clear hb0 hb1
  have bn0_ : ((w.alloc (.cells #[.int .u32 (nv32 n.1), .int .u32 (nv32 n.2.1), .int .u64 (nv n.2.2)] 37)).alloc (.cells #[.slice x m c, .int .u64 (nv t.1), .int .u64 (nv t.2)] 39)).cell? ⟨w.heap.size, 0, none⟩ = some (.int .u32 (nv32 n.1)) := CBox.cell bn 0
  have bn1_ : ((w.alloc (.cells #[.int .u32 (nv32 n.1), .int .u32 (nv32 n.2.1), .int .u64 (nv n.2.2)] 37)).alloc (.cells #[.slice x m c, .int .u64 (nv t.1), .int .u64 (nv t.2)] 39)).cell? ⟨w.heap.size, 1, none⟩ = some (.int .u32 (nv32 n.2.1)) := CBox.cell bn 1
  have bn2_ : ((w.alloc (.cells #[.int .u32 (nv32 n.1), .int .u32 (nv32 n.2.1), .int .u64 (nv n.2.2)] 37)).alloc (.cells #[.slice x m c, .int .u64 (nv t.1), .int .u64 (nv t.2)] 39)).cell? ⟨w.heap.size, 2, none⟩ = some (.int .u64 (nv n.2.2)) := CBox.cell bn 2
  have bs_1_ : ((w.alloc (.cells #[.int .u32 (nv32 n.1), .int .u32 (nv32 n.2.1), .int .u64 (nv n.2.2)] 37)).alloc (.cells #[.slice x m c, .int .u64 (nv t.1), .int .u64 (nv t.2)] 39)).cell? ⟨w.heap.size + 1, 1, none⟩ = some (.int .u64 (nv t.1)) := CBox.cell bs_ 1
  have bs_2_ : ((w.alloc (.cells #[.int .u32 (nv32 n.1), .int .u32 (nv32 n.2.1), .int .u64 (nv n.2.2)] 37)).alloc (.cells #[.slice x m c, .int .u64 (nv t.1), .int .u64 (nv t.2)] 39)).cell? ⟨w.heap.size + 1, 2, none⟩ = some (.int .u64 (nv t.2)) := CBox.cell bs_ 2
  go_enter Try.func5, Try.ntmps5
  go_wp2_with fail
  generalize ((w.alloc (.cells #[.int .u32 (nv32 n.1), .int .u32 (nv32 n.2.1), .int .u64 (nv n.2.2)] 37)).alloc (.cells #[.slice x m c, .int .u64 (nv t.1), .int .u64 (nv t.2)] 39)) = W at *
  refine (p1 W).mono ?_
  rintro e w1 ⟨z1, c1, rfl, f1, hb⟩
  have hB1 := hB0.trans (hb.mono hB0.size)
  replace bn := CBox.grown bn hb
  replace bs_ := CBox.grown bs_ hb
  replace sx := sx.below hb
  replace sz := sz.below hb
  clear e0 bs_1_ bs_2_
  clear bn0_ bn1_ bn2_
  have bn0_ : w1.cell? ⟨w.heap.size, 0, none⟩ = some (.int .u32 (nv32 n.1)) := CBox.cell bn 0
  have bn1_ : w1.cell? ⟨w.heap.size, 1, none⟩ = some (.int .u32 (nv32 n.2.1)) := CBox.cell bn 1
  have bn2_ : w1.cell? ⟨w.heap.size, 2, none⟩ = some (.int .u64 (nv n.2.2)) := CBox.cell bn 2
  have bs_0_ : w1.cell? ⟨(w.heap.size + 1), 0, none⟩ = some (.slice x m c) := CBox.cell bs_ 0
  have bs_1_ : w1.cell? ⟨(w.heap.size + 1), 1, none⟩ = some (.int .u64 (nv t.1)) := CBox.cell bs_ 1
  have bs_2_ : w1.cell? ⟨(w.heap.size + 1), 2, none⟩ = some (.int .u64 (nv t.2)) := CBox.cell bs_ 2
  go_wp2_with fail
  refine (p2 w1).mono ?_
  rintro e w2 ⟨z2, c2, rfl, f2, hb⟩
  have hB2 := hB1.trans (hb.mono hB1.size)
  replace bn := CBox.grown bn hb
  replace bs_ := CBox.grown bs_ hb
  replace sx := sx.below hb
  replace sz := sz.below hb
  have v1 := conv_empty z1 c1 w2
  have v2 := conv_empty z2 c2 w2
  clear bn0_ bn1_ bn2_ bs_0_ bs_1_ bs_2_
  go_wp2_with fail
  refine (p3 z1 c1 w2).mono ?_
  rintro e w3 ⟨z3, c3, rfl, hb⟩
  have hB3 := hB2.trans (hb.mono hB2.size)
  replace bn := CBox.grown bn hb
  replace bs_ := CBox.grown bs_ hb
  replace sx := sx.below hb
  replace sz := sz.below hb
  clear v1 v2
  have hb : Below w3.heap.size w3 ((w3.alloc (.cells #[.int .u32 0, .int .u32 0, .int .u64 0] 37)).alloc (.cells #[.slice z3 0 c3, .int .u64 0, .int .u64 0] 39)) := ((Below.refl w3.heap.size w3).alloc (Nat.le_refl _) _).alloc (by rw [World.size_alloc]; omega) _
  have hB4 := hB3.trans (hb.mono hB3.size)
  replace bn := CBox.grown bn hb
  replace bs_ := CBox.grown bs_ hb
  replace sx := sx.below hb
  replace sz := sz.below hb
  have jn : CBox 37 ((w3.alloc (.cells #[.int .u32 0, .int .u32 0, .int .u64 0] 37)).alloc (.cells #[.slice z3 0 c3, .int .u64 0, .int .u64 0] 39)) w3.heap.size #[.int .u32 0, .int .u32 0, .int .u64 0] := CBox.grown (CBox.new 37 w3 #[.int .u32 0, .int .u32 0, .int .u64 0]) ((Below.refl _ _).alloc (Nat.le_refl _) _)
  have js : CBox 39 ((w3.alloc (.cells #[.int .u32 0, .int .u32 0, .int .u64 0] 37)).alloc (.cells #[.slice z3 0 c3, .int .u64 0, .int .u64 0] 39)) (w3.heap.size + 1) #[.slice z3 0 c3, .int .u64 0, .int .u64 0] := by
    have := CBox.new 39 (w3.alloc (.cells #[.int .u32 0, .int .u32 0, .int .u64 0] 37)) #[.slice z3 0 c3, .int .u64 0, .int .u64 0]
    rw [World.size_alloc] at this
    exact this
  go_wp2_with fail
  generalize ((w3.alloc (.cells #[.int .u32 0, .int .u32 0, .int .u64 0] 37)).alloc (.cells #[.slice z3 0 c3, .int .u64 0, .int .u64 0] 39)) = w4 at *
  refine (p4 w4).mono ?_
  rintro e w5 ⟨z5, c5, rfl, hb⟩
  have hB5 := hB4.trans (hb.mono hB4.size)
  replace bn := CBox.grown bn hb
  replace bs_ := CBox.grown bs_ hb
  replace jn := CBox.grown jn hb
  replace js := CBox.grown js hb
  replace sx := sx.below hb
  replace sz := sz.below hb
  have hb : Below w5.heap.size w5 ((w5.alloc (.cells #[.int .u32 0, .int .u32 0, .int .u64 0] 37)).alloc (.cells #[.slice z5 0 c5, .int .u64 0, .int .u64 0] 39)) := ((Below.refl w5.heap.size w5).alloc (Nat.le_refl _) _).alloc (by rw [World.size_alloc]; omega) _
  have hB6 := hB5.trans (hb.mono hB5.size)
  replace bn := CBox.grown bn hb
  replace bs_ := CBox.grown bs_ hb
  replace jn := CBox.grown jn hb
  replace js := CBox.grown js hb
  replace sx := sx.below hb
  replace sz := sz.below hb
  have gn : CBox 37 ((w5.alloc (.cells #[.int .u32 0, .int .u32 0, .int .u64 0] 37)).alloc (.cells #[.slice z5 0 c5, .int .u64 0, .int .u64 0] 39)) w5.heap.size #[.int .u32 0, .int .u32 0, .int .u64 0] := CBox.grown (CBox.new 37 w5 #[.int .u32 0, .int .u32 0, .int .u64 0]) ((Below.refl _ _).alloc (Nat.le_refl _) _)
  have gs : CBox 39 ((w5.alloc (.cells #[.int .u32 0, .int .u32 0, .int .u64 0] 37)).alloc (.cells #[.slice z5 0 c5, .int .u64 0, .int .u64 0] 39)) (w5.heap.size + 1) #[.slice z5 0 c5, .int .u64 0, .int .u64 0] := by
    have := CBox.new 39 (w5.alloc (.cells #[.int .u32 0, .int .u32 0, .int .u64 0] 37)) #[.slice z5 0 c5, .int .u64 0, .int .u64 0]
    rw [World.size_alloc] at this
    exact this
  go_wp2_with fail
  generalize ((w5.alloc (.cells #[.int .u32 0, .int .u32 0, .int .u64 0] 37)).alloc (.cells #[.slice z5 0 c5, .int .u64 0, .int .u64 0] 39)) = w6 at *
  refine (p5 w6).mono ?_
  rintro e w7 ⟨z7, c7, rfl, hb⟩
  have hB7 := hB6.trans (hb.mono hB6.size)
  replace bn := CBox.grown bn hb
  replace bs_ := CBox.grown bs_ hb
  replace jn := CBox.grown jn hb
  replace js := CBox.grown js hb
  replace gn := CBox.grown gn hb
  replace gs := CBox.grown gs hb
  replace sx := sx.below hb
  replace sz := sz.below hb
  have hb : Below w7.heap.size w7 ((w7.alloc (.cells #[.int .u32 0, .int .u32 0, .int .u64 0] 37)).alloc (.cells #[.slice z7 0 c7, .int .u64 0, .int .u64 0] 39)) := ((Below.refl w7.heap.size w7).alloc (Nat.le_refl _) _).alloc (by rw [World.size_alloc]; omega) _
  have hB8 := hB7.trans (hb.mono hB7.size)
  replace bn := CBox.grown bn hb
  replace bs_ := CBox.grown bs_ hb
  replace jn := CBox.grown jn hb
  replace js := CBox.grown js hb
  replace gn := CBox.grown gn hb
  replace gs := CBox.grown gs hb
  replace sx := sx.below hb
  replace sz := sz.below hb
  have kn : CBox 37 ((w7.alloc (.cells #[.int .u32 0, .int .u32 0, .int .u64 0] 37)).alloc (.cells #[.slice z7 0 c7, .int .u64 0, .int .u64 0] 39)) w7.heap.size #[.int .u32 0, .int .u32 0, .int .u64 0] := CBox.grown (CBox.new 37 w7 #[.int .u32 0, .int .u32 0, .int .u64 0]) ((Below.refl _ _).alloc (Nat.le_refl _) _)
  have ks : CBox 39 ((w7.alloc (.cells #[.int .u32 0, .int .u32 0, .int .u64 0] 37)).alloc (.cells #[.slice z7 0 c7, .int .u64 0, .int .u64 0] 39)) (w7.heap.size + 1) #[.slice z7 0 c7, .int .u64 0, .int .u64 0] := by
    have := CBox.new 39 (w7.alloc (.cells #[.int .u32 0, .int .u32 0, .int .u64 0] 37)) #[.slice z7 0 c7, .int .u64 0, .int .u64 0]
    rw [World.size_alloc] at this
    exact this
  clear hb
  have bn0_ : ((w7.alloc (.cells #[.int .u32 0, .int .u32 0, .int .u64 0] 37)).alloc (.cells #[.slice z7 0 c7, .int .u64 0, .int .u64 0] 39)).cell? ⟨w.heap.size, 0, none⟩ = some (.int .u32 (nv32 n.1)) := CBox.cell bn 0
  have bn1_ : ((w7.alloc (.cells #[.int .u32 0, .int .u32 0, .int .u64 0] 37)).alloc (.cells #[.slice z7 0 c7, .int .u64 0, .int .u64 0] 39)).cell? ⟨w.heap.size, 1, none⟩ = some (.int .u32 (nv32 n.2.1)) := CBox.cell bn 1
  have bn2_ : ((w7.alloc (.cells #[.int .u32 0, .int .u32 0, .int .u64 0] 37)).alloc (.cells #[.slice z7 0 c7, .int .u64 0, .int .u64 0] 39)).cell? ⟨w.heap.size, 2, none⟩ = some (.int .u64 (nv n.2.2)) := CBox.cell bn 2
  have bs_0_ : ((w7.alloc (.cells #[.int .u32 0, .int .u32 0, .int .u64 0] 37)).alloc (.cells #[.slice z7 0 c7, .int .u64 0, .int .u64 0] 39)).cell? ⟨(w.heap.size + 1), 0, none⟩ = some (.slice x m c) := CBox.cell bs_ 0
  have bs_1_ : ((w7.alloc (.cells #[.int .u32 0, .int .u32 0, .int .u64 0] 37)).alloc (.cells #[.slice z7 0 c7, .int .u64 0, .int .u64 0] 39)).cell? ⟨(w.heap.size + 1), 1, none⟩ = some (.int .u64 (nv t.1)) := CBox.cell bs_ 1
  have bs_2_ : ((w7.alloc (.cells #[.int .u32 0, .int .u32 0, .int .u64 0] 37)).alloc (.cells #[.slice z7 0 c7, .int .u64 0, .int .u64 0] 39)).cell? ⟨(w.heap.size + 1), 2, none⟩ = some (.int .u64 (nv t.2)) := CBox.cell bs_ 2
  have jn0_ : ((w7.alloc (.cells #[.int .u32 0, .int .u32 0, .int .u64 0] 37)).alloc (.cells #[.slice z7 0 c7, .int .u64 0, .int .u64 0] 39)).cell? ⟨w3.heap.size, 0, none⟩ = some (.int .u32 0) := CBox.cell jn 0
  have jn1_ : ((w7.alloc (.cells #[.int .u32 0, .int .u32 0, .int .u64 0] 37)).alloc (.cells #[.slice z7 0 c7, .int .u64 0, .int .u64 0] 39)).cell? ⟨w3.heap.size, 1, none⟩ = some (.int .u32 0) := CBox.cell jn 1
  have jn2_ : ((w7.alloc (.cells #[.int .u32 0, .int .u32 0, .int .u64 0] 37)).alloc (.cells #[.slice z7 0 c7, .int .u64 0, .int .u64 0] 39)).cell? ⟨w3.heap.size, 2, none⟩ = some (.int .u64 0) := CBox.cell jn 2
  have js0_ : ((w7.alloc (.cells #[.int .u32 0, .int .u32 0, .int .u64 0] 37)).alloc (.cells #[.slice z7 0 c7, .int .u64 0, .int .u64 0] 39)).cell? ⟨(w3.heap.size + 1), 0, none⟩ = some (.slice z3 0 c3) := CBox.cell js 0
  have js1_ : ((w7.alloc (.cells #[.int .u32 0, .int .u32 0, .int .u64 0] 37)).alloc (.cells #[.slice z7 0 c7, .int .u64 0, .int .u64 0] 39)).cell? ⟨(w3.heap.size + 1), 1, none⟩ = some (.int .u64 0) := CBox.cell js 1
  have js2_ : ((w7.alloc (.cells #[.int .u32 0, .int .u32 0, .int .u64 0] 37)).alloc (.cells #[.slice z7 0 c7, .int .u64 0, .int .u64 0] 39)).cell? ⟨(w3.heap.size + 1), 2, none⟩ = some (.int .u64 0) := CBox.cell js 2
  have gn0_ : ((w7.alloc (.cells #[.int .u32 0, .int .u32 0, .int .u64 0] 37)).alloc (.cells #[.slice z7 0 c7, .int .u64 0, .int .u64 0] 39)).cell? ⟨w5.heap.size, 0, none⟩ = some (.int .u32 0) := CBox.cell gn 0
  have gn1_ : ((w7.alloc (.cells #[.int .u32 0, .int .u32 0, .int .u64 0] 37)).alloc (.cells #[.slice z7 0 c7, .int .u64 0, .int .u64 0] 39)).cell? ⟨w5.heap.size, 1, none⟩ = some (.int .u32 0) := CBox.cell gn 1
  have gn2_ : ((w7.alloc (.cells #[.int .u32 0, .int .u32 0, .int .u64 0] 37)).alloc (.cells #[.slice z7 0 c7, .int .u64 0, .int .u64 0] 39)).cell? ⟨w5.heap.size, 2, none⟩ = some (.int .u64 0) := CBox.cell gn 2
  have gs0_ : ((w7.alloc (.cells #[.int .u32 0, .int .u32 0, .int .u64 0] 37)).alloc (.cells #[.slice z7 0 c7, .int .u64 0, .int .u64 0] 39)).cell? ⟨(w5.heap.size + 1), 0, none⟩ = some (.slice z5 0 c5) := CBox.cell gs 0
  have gs1_ : ((w7.alloc (.cells #[.int .u32 0, .int .u32 0, .int .u64 0] 37)).alloc (.cells #[.slice z7 0 c7, .int .u64 0, .int .u64 0] 39)).cell? ⟨(w5.heap.size + 1), 1, none⟩ = some (.int .u64 0) := CBox.cell gs 1
  have gs2_ : ((w7.alloc (.cells #[.int .u32 0, .int .u32 0, .int .u64 0] 37)).alloc (.cells #[.slice z7 0 c7, .int .u64 0, .int .u64 0] 39)).cell? ⟨(w5.heap.size + 1), 2, none⟩ = some (.int .u64 0) := CBox.cell gs 2
  have kn0_ : ((w7.alloc (.cells #[.int .u32 0, .int .u32 0, .int .u64 0] 37)).alloc (.cells #[.slice z7 0 c7, .int .u64 0, .int .u64 0] 39)).cell? ⟨w7.heap.size, 0, none⟩ = some (.int .u32 0) := CBox.cell kn 0
  have kn1_ : ((w7.alloc (.cells #[.int .u32 0, .int .u32 0, .int .u64 0] 37)).alloc (.cells #[.slice z7 0 c7, .int .u64 0, .int .u64 0] 39)).cell? ⟨w7.heap.size, 1, none⟩ = some (.int .u32 0) := CBox.cell kn 1
  have kn2_ : ((w7.alloc (.cells #[.int .u32 0, .int .u32 0, .int .u64 0] 37)).alloc (.cells #[.slice z7 0 c7, .int .u64 0, .int .u64 0] 39)).cell? ⟨w7.heap.size, 2, none⟩ = some (.int .u64 0) := CBox.cell kn 2
  have ks0_ : ((w7.alloc (.cells #[.int .u32 0, .int .u32 0, .int .u64 0] 37)).alloc (.cells #[.slice z7 0 c7, .int .u64 0, .int .u64 0] 39)).cell? ⟨(w7.heap.size + 1), 0, none⟩ = some (.slice z7 0 c7) := CBox.cell ks 0
  have ks1_ : ((w7.alloc (.cells #[.int .u32 0, .int .u32 0, .int .u64 0] 37)).alloc (.cells #[.slice z7 0 c7, .int .u64 0, .int .u64 0] 39)).cell? ⟨(w7.heap.size + 1), 1, none⟩ = some (.int .u64 0) := CBox.cell ks 1
  have ks2_ : ((w7.alloc (.cells #[.int .u32 0, .int .u32 0, .int .u64 0] 37)).alloc (.cells #[.slice z7 0 c7, .int .u64 0, .int .u64 0] 39)).cell? ⟨(w7.heap.size + 1), 2, none⟩ = some (.int .u64 0) := CBox.cell ks 2
  go_wp2_with fail
  generalize ((w7.alloc (.cells #[.int .u32 0, .int .u32 0, .int .u64 0] 37)).alloc (.cells #[.slice z7 0 c7, .int .u64 0, .int .u64 0] 39)) = w8 at *
  clear bn0_ bn1_ bn2_ bs_0_ bs_1_ bs_2_ jn0_ jn1_ jn2_ js0_ js1_ js2_ gn0_ gn1_ gn2_ gs0_ gs1_ gs2_ kn0_ kn1_ kn2_ ks0_ ks1_ ks2_
  refine (rsame_self (0#64, 0#64) [] z5 z7 0 c5 c7 (fun x hx => by cases hx) w8 (SAt.none _ _) (SAt.none _ _)).mono ?_
  rintro e w9 ⟨rfl, hb⟩
  have hB9 := hB8.trans (hb.mono hB8.size)
  replace bn := CBox.grown bn hb
  replace bs_ := CBox.grown bs_ hb
  replace jn := CBox.grown jn hb
  replace js := CBox.grown js hb
  replace gn := CBox.grown gn hb
  replace gs := CBox.grown gs hb
  replace kn := CBox.grown kn hb
  replace ks := CBox.grown ks hb
  replace sx := sx.below hb
  replace sz := sz.below hb
  go_wp2_with fail
  refine (hkn _).mono ?_
  rintro e w10 ⟨rfl, hb⟩
  have hB10 := hB9.trans (hb.mono hB9.size)
  replace bn := CBox.grown bn hb
  replace bs_ := CBox.grown bs_ hb
  replace jn := CBox.grown jn hb
  replace js := CBox.grown js hb
  replace gn := CBox.grown gn hb
  replace gs := CBox.grown gs hb
  replace kn := CBox.grown kn hb
  replace ks := CBox.grown ks hb
  replace sx := sx.below hb
  replace sz := sz.below hb
  go_wp2
  go_ret
  exact ⟨rfl, hB10⟩
set_option maxHeartbeats 1000000 in
theorem rtrecs (hR : RtAll) (hO : RcAll) (n : Nn) (c d m k : Nat) (x z : Option Addr) (ys zs : List Int) (t : BitVec 64 × BitVec 64) (by_ : Bytes ys) (bz : Bytes zs) (fx : Fit x m c) (fz : Fit z k d) (w : World) (sx : SAt w x m ys) (sz : SAt w z k zs) : Calls Try.prog 5 #[nnv n, sev x m c t, .slice z k d] w fun e w' => e = .returned (.bool true) ∧ Below w.heap.size w w' := by
  by_cases hn_ : m > 100
  · have h1 : (m : Int) > 100 := by omega
    clear hn_
    unfold nnv sev
    have hb0 : Below w.heap.size w (w.alloc (.cells #[.int .u32 (nv32 n.1), .int .u32 (nv32 n.2.1), .int .u64 (nv n.2.2)] 37)) := (Below.refl _ _).alloc (Nat.le_refl _) _
    have hb1 : Below (w.alloc (.cells #[.int .u32 (nv32 n.1), .int .u32 (nv32 n.2.1), .int .u64 (nv n.2.2)] 37)).heap.size (w.alloc (.cells #[.int .u32 (nv32 n.1), .int .u32 (nv32 n.2.1), .int .u64 (nv n.2.2)] 37)) ((w.alloc (.cells #[.int .u32 (nv32 n.1), .int .u32 (nv32 n.2.1), .int .u64 (nv n.2.2)] 37)).alloc (.cells #[.slice x m c, .int .u64 (nv t.1), .int .u64 (nv t.2)] 39)) := (Below.refl _ _).alloc (Nat.le_refl _) _
    have hB0 : Below w.heap.size w ((w.alloc (.cells #[.int .u32 (nv32 n.1), .int .u32 (nv32 n.2.1), .int .u64 (nv n.2.2)] 37)).alloc (.cells #[.slice x m c, .int .u64 (nv t.1), .int .u64 (nv t.2)] 39)) := hb0.trans (hb1.mono hb0.size)
    have bs_ : CBox 39 ((w.alloc (.cells #[.int .u32 (nv32 n.1), .int .u32 (nv32 n.2.1), .int .u64 (nv n.2.2)] 37)).alloc (.cells #[.slice x m c, .int .u64 (nv t.1), .int .u64 (nv t.2)] 39)) (w.heap.size + 1) #[.slice x m c, .int .u64 (nv t.1), .int .u64 (nv t.2)] := by
      have := CBox.new 39 (w.alloc (.cells #[.int .u32 (nv32 n.1), .int .u32 (nv32 n.2.1), .int .u64 (nv n.2.2)] 37)) #[.slice x m c, .int .u64 (nv t.1), .int .u64 (nv t.2)]
      rw [World.size_alloc] at this
      exact this
    have e0 : ((w.alloc (.cells #[.int .u32 (nv32 n.1), .int .u32 (nv32 n.2.1), .int .u64 (nv n.2.2)] 37)).alloc (.cells #[.slice x m c, .int .u64 (nv t.1), .int .u64 (nv t.2)] 39)).cell? ⟨w.heap.size + 1, 0, none⟩ = some (.slice x m c) := CBox.cell bs_ 0
    go_enter Try.func5, Try.ntmps5
    go_wp2
    go_ret
    exact ⟨rfl, hB0⟩
  by_cases hk_ : k > 100
  · have h1 : ¬ (m : Int) > 100 := by omega
    have h2 : (k : Int) > 100 := by omega
    clear hn_
    unfold nnv sev
    have hb0 : Below w.heap.size w (w.alloc (.cells #[.int .u32 (nv32 n.1), .int .u32 (nv32 n.2.1), .int .u64 (nv n.2.2)] 37)) := (Below.refl _ _).alloc (Nat.le_refl _) _
    have hb1 : Below (w.alloc (.cells #[.int .u32 (nv32 n.1), .int .u32 (nv32 n.2.1), .int .u64 (nv n.2.2)] 37)).heap.size (w.alloc (.cells #[.int .u32 (nv32 n.1), .int .u32 (nv32 n.2.1), .int .u64 (nv n.2.2)] 37)) ((w.alloc (.cells #[.int .u32 (nv32 n.1), .int .u32 (nv32 n.2.1), .int .u64 (nv n.2.2)] 37)).alloc (.cells #[.slice x m c, .int .u64 (nv t.1), .int .u64 (nv t.2)] 39)) := (Below.refl _ _).alloc (Nat.le_refl _) _
    have hB0 : Below w.heap.size w ((w.alloc (.cells #[.int .u32 (nv32 n.1), .int .u32 (nv32 n.2.1), .int .u64 (nv n.2.2)] 37)).alloc (.cells #[.slice x m c, .int .u64 (nv t.1), .int .u64 (nv t.2)] 39)) := hb0.trans (hb1.mono hb0.size)
    have bs_ : CBox 39 ((w.alloc (.cells #[.int .u32 (nv32 n.1), .int .u32 (nv32 n.2.1), .int .u64 (nv n.2.2)] 37)).alloc (.cells #[.slice x m c, .int .u64 (nv t.1), .int .u64 (nv t.2)] 39)) (w.heap.size + 1) #[.slice x m c, .int .u64 (nv t.1), .int .u64 (nv t.2)] := by
      have := CBox.new 39 (w.alloc (.cells #[.int .u32 (nv32 n.1), .int .u32 (nv32 n.2.1), .int .u64 (nv n.2.2)] 37)) #[.slice x m c, .int .u64 (nv t.1), .int .u64 (nv t.2)]
      rw [World.size_alloc] at this
      exact this
    have e0 : ((w.alloc (.cells #[.int .u32 (nv32 n.1), .int .u32 (nv32 n.2.1), .int .u64 (nv n.2.2)] 37)).alloc (.cells #[.slice x m c, .int .u64 (nv t.1), .int .u64 (nv t.2)] 39)).cell? ⟨w.heap.size + 1, 0, none⟩ = some (.slice x m c) := CBox.cell bs_ 0
    go_enter Try.func5, Try.ntmps5
    go_wp2
    go_ret
    exact ⟨rfl, hB0⟩
  have h1 : ¬ (m : Int) > 100 := by omega
  have h2 : ¬ (k : Int) > 100 := by omega
  by_cases hk : k = 60
  · subst hk
    by_cases hA : m = 32 ∧ nv32 n.2.1 = 65535
    · obtain ⟨rfl, h⟩ := hA
      exact rtrecs11 hR hO n c d x z ys zs t h by_ bz fx fz w sx sz
    · exact rtrecs01 hR hO n c d m x z ys zs t (by omega) h1 by_ bz fx fz w sx sz
  · by_cases hA : m = 32 ∧ nv32 n.2.1 = 65535
    · obtain ⟨rfl, h⟩ := hA
      exact rtrecs10 hR hO n c d k x z ys zs t h hk h2 by_ bz fx fz w sx sz
    · exact rtrecs00 hR hO n c d m k x z ys zs t (by omega) h1 hk h2 by_ bz fx fz w sx sz
end Go.Proofs.Ytnimhlkoikjomaa
