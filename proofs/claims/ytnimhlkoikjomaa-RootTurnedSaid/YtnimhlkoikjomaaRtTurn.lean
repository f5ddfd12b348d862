/- A root's bytes with one turned. -/
import Derived.Test.YtnimhlkoikjomaaRtPuts
import Derived.Test.YtnimhlkoikjomaaByt
namespace Go.Proofs.Ytnimhlkoikjomaa
open Go.RowKit
set_option maxRecDepth 20000

theorem set_getD (xs : List Int) (i : Nat) (hi : i < xs.length) : xs.set i (xs.getD i 0) = xs := by
  rw [List.getD_eq_getElem?_getD, List.getElem?_eq_getElem hi, Option.getD_some]
  exact List.set_getElem_self hi
set_option maxHeartbeats 4000000 in
theorem rtturned (hO : RtAll) (r0 : Rt) (at_ by_ : Int) (hby : 0 ≤ by_ ∧ by_ < 256) (w : World) : Calls Try.prog 6 #[rtv r0, .int .i64 at_, .int .u8 by_] w fun e w' => e = .returned (.bool true) ∧ Below w.heap.size w w' := by
  have hkn := rtknown hO
  have heq := eqR r0 r0
  rw [decide_eq_true rfl] at heq
  have hB0 : Below w.heap.size w (w.alloc (.cells (rtC r0) 27)) := (Below.refl _ _).alloc (Nat.le_refl _) _
  have bx0 : RBox (w.alloc (.cells (rtC r0) 27)) w.heap.size r0 := CBox.new _ _ _
  by_cases ho : rtOk r0
  · have p2 := rrput r0 ho
    obtain ⟨xs, hxs⟩ : ∃ xs, rtL r0 = xs := ⟨_, rfl⟩
    have hxl : xs.length = 32 := by rw [← hxs]; exact rtL_length r0
    have hxb : Bytes xs := by rw [← hxs]; exact rtL_bytes r0
    rw [hxs] at p2
    obtain ⟨m1, H1⟩ : ∃ m1 : Nat, Hid (bits .and .i64 at_ 65535 = (m1 : Int)) := ⟨_, i64_mask at_ 16 (by decide) 65535 (by decide)⟩
    have h1 := H1.out
    obtain ⟨i, HI, hi⟩ : ∃ i : Nat, Hid (i = m1 % 32) ∧ i < 32 := ⟨_, rfl, Nat.mod_lt _ (by decide)⟩
    have hq : ((m1 : Int).tmod (32 : Int)) = (i : Int) := by rw [HI.out]; exact (Int.ofNat_tmod m1 32).symm
    have hii : (i : Int) < 32 := by omega
    obtain ⟨x0, hx0⟩ : ∃ x0, xs.getD i 0 = x0 := ⟨_, rfl⟩
    have hx0r : 0 ≤ x0 ∧ x0 < 256 := by
      rw [← hx0, List.getD_eq_getElem?_getD, List.getElem?_eq_getElem (show i < xs.length by omega)]
      exact hxb _ (List.getElem_mem _)
    obtain ⟨u, hu⟩ : ∃ u, xor8 x0 by_ = u := ⟨_, rfl⟩
    have hur : 0 ≤ u ∧ u < 256 := by rw [← hu]; exact xor8_range hx0r hby
    have hux : bits .xor .u8 x0 by_ = u := hu
    have hne : by_ ≠ 0 → xs.set i u ≠ xs := fun hz e => by
      have : (xs.set i u).getD i 0 = xs.getD i 0 := by rw [e]
      rw [hx0, List.getD_eq_getElem?_getD, List.getElem?_set_self (by omega)] at this
      have h2 : u = x0 := this
      rw [← hu] at h2
      exact xor8_ne hx0r hby hz h2
    obtain ⟨ys, hys⟩ : ∃ ys, xs.set i u = ys := ⟨_, rfl⟩
    have hyb : Bytes ys := by rw [← hys]; exact bytes_set hxb i hur
    have hyl : ys.length = 32 := by rw [← hys, List.length_set, hxl]
    obtain ⟨⟨r, ok⟩, hr⟩ : ∃ r, rtRes ys = r := ⟨_, rfl⟩
    have hyes : by_ = 0 → ys = xs := fun hz => by
      rw [← hys, ← hu, hz, xor8_zero hx0r, ← hx0]
      exact set_getD xs i (by omega)
    have hrl : ok = true → decide (r = r0) = decide (by_ = 0) := fun ho2 => by
      rw [ho2] at hr
      by_cases hz : by_ = 0
      · rw [hyes hz, ← hxs, rtRes_L r0 ho] at hr
        rw [decide_eq_true hz, decide_eq_true (Prod.mk.inj hr).1.symm]
      · rw [decide_eq_false hz, decide_eq_false_iff_not]
        rintro rfl
        have := (rtRes_ok hyb hr).1
        rw [hxs, ← hys] at this
        exact hne hz this.symm
    have p1 := fun x c fx => hO.get x 32 c ys fx hyb
    have p3 := fun x c fx => rrget x 32 c ys fx hyb
    rw [hr] at p1 p3
    have heqr := eqR r r
    rw [decide_eq_true rfl] at heqr
    have heql := eqR r r0
    have HRL := hide' hrl
    clear hrl hr hyes ho hxs hne heq H1 HI hu
    obtain ⟨q, hq2⟩ : ∃ q, decide (r = r0) = q := ⟨_, rfl⟩
    rw [hq2] at heql HRL
    clear hq2
    obtain ⟨ctr, epr, slr, tar, tbr⟩ := r
    obtain ⟨ct, ep, sl, t1, t2⟩ := r0
    unfold rtv at p1 p2 p3 heqr heql ⊢
    dsimp only at p1 p2 p3 heqr heql ⊢
    unfold rtC at hB0
    dsimp only at hB0
    have bx1 : RBox (w.alloc (.cells #[.int .u64 (nv ct), .int .u32 (nv32 ep), .int .i64 sl, .int .u64 (nv t1), .int .u64 (nv t2)] 27)) w.heap.size ⟨ct, ep, sl, t1, t2⟩ := bx0
    clear bx0
    have bx0 := bx1
    clear bx1
    go_enter Try.func6, Try.ntmps6
    go_wp2_with fail
    generalize (w.alloc (.cells #[.int .u64 (nv ct), .int .u32 (nv32 ep), .int .i64 sl, .int .u64 (nv t1), .int .u64 (nv t2)] 27)) = W at *
    have bxl : w.heap.size < W.heap.size := CBox.lt bx0
    refine (p2 _).mono ?_
    clear p2
    rintro e w1 ⟨v1, rfl, own, hb⟩
    have hB1 := hB0.trans (hb.mono hB0.size)
    replace bx0 := bx0.grown hb
    obtain ⟨g, cz, rfl, hg, hgl, hgc, hcm, hat⟩ := own_bytes hxl own (own_not_nil own (by decide))
    have cg : w1.cell? ⟨g, i, none⟩ = some (.int .u8 x0) := by
      have := hat i (by omega)
      rw [Nat.zero_add, hx0] at this
      exact this
    have fg : w1.frozen? ⟨g, i, none⟩ = false := own.frozenAt i
    have hat2 : At (w1.setCell ⟨g, i, none⟩ (.int .u8 u)) g 0 ys := by
      have := hat.put1 i (by omega) u
      rw [Nat.zero_add, hys] at this
      exact this
    have hgW : W.heap.size ≤ g := hg
    have hWl : w.heap.size < W.heap.size := bxl
    have hB2 : Below w.heap.size w (w1.setCell ⟨g, i, none⟩ (.int .u8 u)) := Below.setCell (p := ⟨g, i, none⟩) hB1 (by show w.heap.size ≤ g; omega) _
    have bx2 : RBox (w1.setCell ⟨g, i, none⟩ (.int .u8 u)) w.heap.size ⟨ct, ep, sl, t1, t2⟩ := (Below.heap_setCell w1 ⟨g, i, none⟩ (.int .u8 u) w.heap.size (by show w.heap.size ≠ g; omega)).trans bx0
    have hgl2 : g < (w1.setCell ⟨g, i, none⟩ (.int .u8 u)).heap.size := by simpa using hgl
    clear own hat bx0
    go_wp2_with fail
    clear cg fg h1 hq
    generalize w1.setCell ⟨g, i, none⟩ (.int .u8 u) = w2 at *
    have sy := hat2.sat hgl2 hyl
    have fz : Fit (some ⟨g, 0, none⟩) 32 cz := ⟨hgc, hcm, fun e => by cases e⟩
    refine (p1 _ cz fz w2 sy).mono ?_
    clear p1
    rintro e w3 ⟨rfl, hb⟩
    have hB3 := hB2.trans (hb.mono hB2.size)
    replace bx2 := bx2.grown hb
    replace sy := sy.below hb
    have hb : Below w3.heap.size w3 (w3.alloc (.cells #[.int .u64 (nv ctr), .int .u32 (nv32 epr), .int .i64 slr, .int .u64 (nv tar), .int .u64 (nv tbr)] 27)) := (Below.refl _ _).alloc (Nat.le_refl _) _
    have hB3b := hB3.trans (hb.mono hB3.size)
    have by0 : RBox (w3.alloc (.cells #[.int .u64 (nv ctr), .int .u32 (nv32 epr), .int .i64 slr, .int .u64 (nv tar), .int .u64 (nv tbr)] 27)) w3.heap.size ⟨ctr, epr, slr, tar, tbr⟩ := RBox.new w3 ⟨ctr, epr, slr, tar, tbr⟩
    replace bx2 := bx2.grown hb
    replace sy := sy.below hb
    go_wp2_with fail
    generalize (w3.alloc (.cells #[.int .u64 (nv ctr), .int .u32 (nv32 epr), .int .i64 slr, .int .u64 (nv tar), .int .u64 (nv tbr)] 27)) = w4 at *
    refine (p3 _ cz fz w4 sy).mono ?_
    clear p3
    rintro e w5 ⟨rfl, hb⟩
    have hB4 := hB3b.trans (hb.mono hB3b.size)
    replace bx2 := bx2.grown hb
    replace by0 := by0.grown hb
    have hb : Below w5.heap.size w5 (w5.alloc (.cells #[.int .u64 (nv ctr), .int .u32 (nv32 epr), .int .i64 slr, .int .u64 (nv tar), .int .u64 (nv tbr)] 27)) := (Below.refl _ _).alloc (Nat.le_refl _) _
    have hB5 := hB4.trans (hb.mono hB4.size)
    have bz0 : RBox (w5.alloc (.cells #[.int .u64 (nv ctr), .int .u32 (nv32 epr), .int .i64 slr, .int .u64 (nv tar), .int .u64 (nv tbr)] 27)) w5.heap.size ⟨ctr, epr, slr, tar, tbr⟩ := RBox.new w5 ⟨ctr, epr, slr, tar, tbr⟩
    replace bx2 := bx2.grown hb
    replace by0 := by0.grown hb
    clear hby hx0r hur hux
    have c0_ := RBox.c0 bx2
    have c1_ := RBox.c1 bx2
    have c2_ := RBox.c2 bx2
    have c3_ := RBox.c3 bx2
    have c4_ := RBox.c4 bx2
    dsimp only at c0_ c1_ c2_ c3_ c4_
    have g0_ := RBox.c0 by0
    have g1_ := RBox.c1 by0
    have g2_ := RBox.c2 by0
    have g3_ := RBox.c3 by0
    have g4_ := RBox.c4 by0
    dsimp only at g0_ g1_ g2_ g3_ g4_
    have j0_ := RBox.c0 bz0
    have j1_ := RBox.c1 bz0
    have j2_ := RBox.c2 bz0
    have j3_ := RBox.c3 bz0
    have j4_ := RBox.c4 bz0
    dsimp only at j0_ j1_ j2_ j3_ j4_
    cases ok
    · go_wp2_with fail
      refine (hkn _).mono ?_
      rintro e w6 ⟨rfl, hb6⟩
      have hB6 := hB5.trans (hb6.mono hB5.size)
      go_wp2
      go_ret
      exact ⟨rfl, hB6⟩
    · by_cases hz : by_ = 0
      · subst hz
        obtain rfl : q = true := HRL.out rfl
        go_wp2_with fail
        refine (hkn _).mono ?_
        rintro e w6 ⟨rfl, hb6⟩
        have hB6 := hB5.trans (hb6.mono hB5.size)
        go_wp2
        go_ret
        exact ⟨rfl, hB6⟩
      · have hz2 : (by_ == 0) = false := beq_false_of_ne hz
        obtain rfl : q = false := (HRL.out rfl).trans (decide_eq_false hz)
        go_wp2_with fail
        refine (hkn _).mono ?_
        rintro e w6 ⟨rfl, hb6⟩
        have hB6 := hB5.trans (hb6.mono hB5.size)
        go_wp2
        go_ret
        exact ⟨rfl, hB6⟩
  · have p2 := rrput_no r0 ho
    clear ho heq
    obtain ⟨ct, ep, sl, t1, t2⟩ := r0
    unfold rtv at p2 ⊢
    dsimp only at p2 ⊢
    unfold rtC at hB0
    dsimp only at hB0
    have bx1 : RBox (w.alloc (.cells #[.int .u64 (nv ct), .int .u32 (nv32 ep), .int .i64 sl, .int .u64 (nv t1), .int .u64 (nv t2)] 27)) w.heap.size ⟨ct, ep, sl, t1, t2⟩ := bx0
    clear bx0
    have bx0 := bx1
    clear bx1
    go_enter Try.func6, Try.ntmps6
    go_wp2_with fail
    generalize (w.alloc (.cells #[.int .u64 (nv ct), .int .u32 (nv32 ep), .int .i64 sl, .int .u64 (nv t1), .int .u64 (nv t2)] 27)) = W at *
    refine (p2 _).mono ?_
    rintro e w1 ⟨z1, c1, rfl, f1, hb⟩
    have hB1 := hB0.trans (hb.mono hB0.size)
    go_wp2
    go_ret
    exact ⟨rfl, hB1⟩
end Go.Proofs.Ytnimhlkoikjomaa
