/- What the program's digest comes to. -/
import Derived.Test.YtkkehbebaokdmaaDigSaid
import Derived.Test.YtkkehbebaokdmaaSpkImpl
namespace Go.Proofs.Ytkkehbebaokdmaa
open Go.RowKit
set_option maxRecDepth 20000

set_option maxHeartbeats 1000000 in
theorem istep (s m : BitVec 64 × BitVec 64) (w : World) : Calls Try.prog 58 #[.agg #[.int .u64 (nv s.1), .int .u64 (nv s.2)], .agg #[.int .u64 (nv m.1), .int .u64 (nv m.2)]] w fun e w' => e = .returned (.agg #[.int .u64 (nv (stepP s m).1), .int .u64 (nv (stepP s m).2)]) ∧ Below w.heap.size w w' := by
  go_enter Try.func58, Try.ntmps58
  go_wp2_with fail
  have b0 := ((Box.new w (nv s.1) (nv s.2)).alloc (.cells #[.int .u64 (nv m.1), .int .u64 (nv m.2)] 30)).alloc (.cells #[.int .u64 0, .int .u64 0] 30)
  have bR := Box.new ((w.alloc (.cells #[.int .u64 (nv s.1), .int .u64 (nv s.2)] 30)).alloc (.cells #[.int .u64 (nv m.1), .int .u64 (nv m.2)] 30)) 0 0
  have hB : Below w.heap.size w (((w.alloc (.cells #[.int .u64 (nv s.1), .int .u64 (nv s.2)] 30)).alloc (.cells #[.int .u64 (nv m.1), .int .u64 (nv m.2)] 30)).alloc (.cells #[.int .u64 0, .int .u64 0] 30)) := by go_grown
  simp only [World.size_alloc] at bR
  generalize ((w.alloc (.cells #[.int .u64 (nv s.1), .int .u64 (nv s.2)] 30)).alloc (.cells #[.int .u64 (nv m.1), .int .u64 (nv m.2)] 30)).alloc (.cells #[.int .u64 0, .int .u64 0] 30) = W1 at *
  refine (enc_said m s _).mono ?_
  rintro e w1 ⟨rfl, hb⟩
  replace b0 := b0.grown hb
  replace bR := bR.grown hb
  replace hB := hB.trans (hb.mono hB.size)
  clear hb
  have hx1 := nv_xor (enc m s).1 s.1
  have hx2 := nv_xor (enc m s).2 s.2
  have hb : Below w1.heap.size w1 (w1.alloc (.cells #[.int .u64 (nv (enc m s).1), .int .u64 (nv (enc m s).2)] 30)) := (Below.refl _ _).alloc (Nat.le_refl _) _
  replace b0 := b0.grown hb
  replace bR := bR.grown hb
  replace hB := hB.trans (hb.mono hB.size)
  clear hb
  have g0 := b0.c0
  have g1 := b0.c1
  have g2 := bR.c0
  have g3 := bR.c1
  have g4 := bR.frozen 0
  have g5 := bR.frozen 1
  go_wp2
  refine bodyPost_ret (v := .agg #[.int .u64 (nv (stepP s m).1), .int .u64 (nv (stepP s m).2)]) (by simp [results, Try.results58, go_sem, g2, g3, stepP]) rfl ⟨rfl, ?_⟩
  exact (hB.setCell (by simp only; omega) _).setCell (by simp only; omega) _
theorem step_said : StepSaid := istep
end Go.Proofs.Ytkkehbebaokdmaa
