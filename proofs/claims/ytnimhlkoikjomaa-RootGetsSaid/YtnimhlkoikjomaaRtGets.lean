/- Any bytes as a root. -/
import Derived.Test.YtnimhlkoikjomaaRtPuts
namespace Go.Proofs.Ytnimhlkoikjomaa
open Go.RowKit
set_option maxRecDepth 20000

set_option maxHeartbeats 4000000 in
theorem rtgets (hO : RtAll) (n c : Nat) (x : Option Addr) (xs : List Int) (bx : Bytes xs) (fx : Fit x n c) (w : World) (sx : SAt w x n xs) : Calls Try.prog 4 #[.slice x n c] w fun e w' => e = .returned (.bool true) ∧ Below w.heap.size w w' := by
  by_cases hn : n > 100
  · have hn' : (n : Int) > 100 := by omega
    clear hn sx
    go_enter Try.func4, Try.ntmps4
    go_wp2
    go_ret
    exact ⟨rfl, Below.refl _ _⟩
  have hn' : ¬ (n : Int) > 100 := by omega
  have hkn := rtknown hO
  have p1 := fun x c fx => hO.get x n c xs fx bx
  have p2 := rrget x n c xs fx bx
  obtain ⟨⟨r, ok⟩, hr⟩ : ∃ r, rtRes xs = r := ⟨_, rfl⟩
  rw [hr] at p1 p2
  clear hr
  have heq := eqR r r
  rw [decide_eq_true rfl] at heq
  obtain ⟨ct, ep, sl, t1, t2⟩ := r
  unfold rtv at p1 p2 heq
  dsimp only at p1 p2 heq
  have HF := hide' fx
  clear fx
  have hb : Below w.heap.size w (w.alloc (.cells #[] 5)) := (Below.refl _ _).alloc (Nat.le_refl _) _
  have hown := World.ownsRow_lit (base := w.heap.size) (e := 5) (size := 1) w #[] 0 (Nat.le_refl _) (by decide) rfl
  go_enter Try.func4, Try.ntmps4
  go_wp2_with (at_builtin; refine wpList_app rfl (.tmp 11) (.tmp 12) rfl w.heap.size _ 0 [] rfl hown x n c xs rfl (sx.below hb) HF.out.2.2 (by omega) hb.size ?_)
  intro v1 w1 own hb1 _
  clear hown
  have hB1 : Below w.heap.size w w1 := hb.trans hb1
  obtain ⟨x1, c1, rfl, s1, f11, f12, f13⟩ := own_slice sx.1 own
  go_wp2_with fail
  refine (p1 x1 c1 ⟨f11, f12, f13⟩ _ s1).mono ?_
  clear p1
  rintro e w2 ⟨rfl, hb2⟩
  have hB2 := hB1.trans (hb2.mono hB1.size)
  have hb3 : Below w2.heap.size w2 (w2.alloc (.cells #[.int .u64 (nv ct), .int .u32 (nv32 ep), .int .i64 sl, .int .u64 (nv t1), .int .u64 (nv t2)] 27)) := (Below.refl _ _).alloc (Nat.le_refl _) _
  have hB3 := hB2.trans (hb3.mono hB2.size)
  have bx0 : RBox (w2.alloc (.cells #[.int .u64 (nv ct), .int .u32 (nv32 ep), .int .i64 sl, .int .u64 (nv t1), .int .u64 (nv t2)] 27)) w2.heap.size ⟨ct, ep, sl, t1, t2⟩ := RBox.new w2 ⟨ct, ep, sl, t1, t2⟩
  have p3 := p2 _ (sx.below hB3)
  go_wp2_with fail
  generalize (w2.alloc (.cells #[.int .u64 (nv ct), .int .u32 (nv32 ep), .int .i64 sl, .int .u64 (nv t1), .int .u64 (nv t2)] 27)) = w3 at *
  refine p3.mono ?_
  clear p2 p3 own s1
  rintro e w4 ⟨rfl, hb4⟩
  have hB4 := hB3.trans (hb4.mono hB3.size)
  replace bx0 := bx0.grown hb4
  have hb5 : Below w4.heap.size w4 (w4.alloc (.cells #[.int .u64 (nv ct), .int .u32 (nv32 ep), .int .i64 sl, .int .u64 (nv t1), .int .u64 (nv t2)] 27)) := (Below.refl _ _).alloc (Nat.le_refl _) _
  have hB5 := hB4.trans (hb5.mono hB4.size)
  replace bx0 := bx0.grown hb5
  have by0 : RBox (w4.alloc (.cells #[.int .u64 (nv ct), .int .u32 (nv32 ep), .int .i64 sl, .int .u64 (nv t1), .int .u64 (nv t2)] 27)) w4.heap.size ⟨ct, ep, sl, t1, t2⟩ := RBox.new w4 ⟨ct, ep, sl, t1, t2⟩
  have c0_ := RBox.c0 bx0
  have c1_ := RBox.c1 bx0
  have c2_ := RBox.c2 bx0
  have c3_ := RBox.c3 bx0
  have c4_ := RBox.c4 bx0
  dsimp only at c0_ c1_ c2_ c3_ c4_
  have g0_ := RBox.c0 by0
  have g1_ := RBox.c1 by0
  have g2_ := RBox.c2 by0
  have g3_ := RBox.c3 by0
  have g4_ := RBox.c4 by0
  dsimp only at g0_ g1_ g2_ g3_ g4_
  go_wp2_with fail
  refine (hkn _).mono ?_
  rintro e w6 ⟨rfl, hb6⟩
  have hB6 := hB5.trans (hb6.mono hB5.size)
  go_wp2
  go_ret
  exact ⟨rfl, hB6⟩
end Go.Proofs.Ytnimhlkoikjomaa
