/- The landed key of an epoch. -/
import Derived.Test.YtcfbdbjonmjplaaKeySaid
import Derived.Test.YtcfbdbjonmjplaaSpkImpl
namespace Go.Proofs.Ytcfbdbjonmjplaa
open Go.RowKit
set_option maxRecDepth 20000
set_option maxHeartbeats 1000000 in
theorem kof (s : BitVec 64) (e : Nat) (he : U32 e) (w : World) : Calls Try.prog 25 #[.int .u64 (nv s), .int .u32 (e : Int)] w fun x w' => x = .returned (.agg #[.int .u64 (nv (keyOf s e).1), .int .u64 (nv (keyOf s e).2)]) ∧ Below w.heap.size w w' := by
  have hw := he.wrap64
  have h1 := he.nv
  have bR := Box.new w 0 0
  have hB : Below w.heap.size w (w.alloc (.cells #[.int .u64 0, .int .u64 0] 46)) := (Below.refl _ _).alloc (Nat.le_refl _) _
  go_enter Try.func25, Try.ntmps25
  go_wp2_with fail
  generalize w.alloc (.cells #[.int .u64 0, .int .u64 0] 46) = W1 at *
  refine (enc_at enc_said (s, s) (0#64, BitVec.ofNat 64 e) _ _ _ _ _ _ rfl rfl nv_zero64 h1 rfl rfl _).mono ?_
  rintro x w2 ⟨rfl, hb⟩
  replace bR := bR.grown hb
  replace hB := hB.trans (hb.mono hB.size)
  have f0 := bR.c0
  have f1 := bR.c1
  have f2 := bR.frozen 0
  have f3 := bR.frozen 1
  clear hb
  go_wp2
  refine bodyPost_ret (v := .agg #[.int .u64 (nv (keyOf s e).1), .int .u64 (nv (keyOf s e).2)]) (by simp [results, Try.results25, go_sem, f0, f1]; exact ⟨rfl, rfl⟩) rfl ⟨rfl, ?_⟩
  exact (hB.setCell (by simp only; omega) _).setCell (by simp only; omega) _
end Go.Proofs.Ytcfbdbjonmjplaa
