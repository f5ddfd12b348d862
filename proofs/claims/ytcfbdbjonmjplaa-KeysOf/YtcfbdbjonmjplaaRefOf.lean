/- The document's key of an epoch. -/
import Derived.Test.YtcfbdbjonmjplaaKeySaid
namespace Go.Proofs.Ytcfbdbjonmjplaa
open Go.RowKit
set_option maxRecDepth 20000
theorem renc_eq (k p : BitVec 64 × BitVec 64) (k1 k2 p1 p2 x y : Int) (hk1 : nv k.1 = k1) (hk2 : nv k.2 = k2) (hp1 : nv p.1 = p1) (hp2 : nv p.2 = p2) (hx : nv (enc k p).1 = x) (hy : nv (enc k p).2 = y) (w : World) :
    Calls Try.prog 30 #[.agg #[.int .u64 k1, .int .u64 k2], .agg #[.int .u64 p1, .int .u64 p2]] w fun e w' => e = .returned (.agg #[.int .u64 x, .int .u64 y]) ∧ Below w.heap.size w w' := by
  subst hk1 hk2 hp1 hp2 hx hy
  exact rencrypt k p w
set_option maxHeartbeats 1000000 in
theorem rof (s : BitVec 64) (e : Nat) (he : U32 e) (w : World) : Calls Try.prog 26 #[.int .u64 (nv s), .int .u32 (e : Int)] w fun x w' => x = .returned (.agg #[.int .u64 (nv (keyOf s e).1), .int .u64 (nv (keyOf s e).2)]) ∧ Below w.heap.size w w' := by
  have hw := he.wrap64
  have h1 := he.nv
  have bR := Box.new w 0 0
  have hB : Below w.heap.size w (w.alloc (.cells #[.int .u64 0, .int .u64 0] 46)) := (Below.refl _ _).alloc (Nat.le_refl _) _
  go_enter Try.func26, Try.ntmps26
  go_wp2_with fail
  generalize w.alloc (.cells #[.int .u64 0, .int .u64 0] 46) = W1 at *
  refine (renc_eq (s, s) (0#64, BitVec.ofNat 64 e) _ _ _ _ _ _ rfl rfl nv_zero64 h1 rfl rfl _).mono ?_
  rintro x w2 ⟨rfl, hb⟩
  replace bR := bR.grown hb
  replace hB := hB.trans (hb.mono hB.size)
  have f0 := bR.c0
  have f1 := bR.c1
  have f2 := bR.frozen 0
  have f3 := bR.frozen 1
  clear hb
  go_wp2
  refine bodyPost_ret (v := .agg #[.int .u64 (nv (keyOf s e).1), .int .u64 (nv (keyOf s e).2)]) (by simp [results, Try.results26, go_sem, f0, f1]; exact ⟨rfl, rfl⟩) rfl ⟨rfl, ?_⟩
  exact (hB.setCell (by simp only; omega) _).setCell (by simp only; omega) _
end Go.Proofs.Ytcfbdbjonmjplaa
