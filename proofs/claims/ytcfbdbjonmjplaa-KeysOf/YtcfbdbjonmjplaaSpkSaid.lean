/- What is said of the program's speck: it is the document's. -/
import Derived.Test.YtcfbdbjonmjplaaRefEnc
namespace Go.Proofs.Ytcfbdbjonmjplaa
open Go.RowKit
set_option maxRecDepth 20000

/-- speck.Encrypt is the document's. -/
def EncSaid : Prop := ∀ (k p : BitVec 64 × BitVec 64) (w : World), Calls Try.prog 29 #[.agg #[.int .u64 (nv k.1), .int .u64 (nv k.2)], .agg #[.int .u64 (nv p.1), .int .u64 (nv p.2)]] w fun e w' => e = .returned (.agg #[.int .u64 (nv (enc k p).1), .int .u64 (nv (enc k p).2)]) ∧ Below w.heap.size w w'
/-- speck.Keys is the document's. -/
def KeysSaid : Prop := ∀ (p : BitVec 64 × BitVec 64) (w : World), Calls Try.prog 32 #[.agg #[.int .u64 (nv p.1), .int .u64 (nv p.2)]] w fun e w' => ∃ g cap, e = .returned (.slice (some ⟨g, 0, none⟩) 32 cap) ∧ w.heap.size ≤ g ∧ KeysAt w' g p ∧ Below w.heap.size w w'

theorem pair_eq (p q : BitVec 64 × BitVec 64) : (nv p.1 == nv q.1 && nv p.2 == nv q.2) = decide (p = q) := by
  rw [nv_eq, nv_eq, Bool.eq_iff_iff]
  simp [Prod.ext_iff]
theorem nv_self (p : BitVec 64 × BitVec 64) : (nv p.1 == nv p.1 && nv p.2 == nv p.2) = true := by simp

theorem enc_at (hE : EncSaid) (k p : BitVec 64 × BitVec 64) (k1 k2 p1 p2 x y : Int) (hk1 : nv k.1 = k1) (hk2 : nv k.2 = k2) (hp1 : nv p.1 = p1) (hp2 : nv p.2 = p2) (hx : nv (enc k p).1 = x) (hy : nv (enc k p).2 = y) (w : World) :
    Calls Try.prog 29 #[.agg #[.int .u64 k1, .int .u64 k2], .agg #[.int .u64 p1, .int .u64 p2]] w fun e w' => e = .returned (.agg #[.int .u64 x, .int .u64 y]) ∧ Below w.heap.size w w' := by
  subst hk1 hk2 hp1 hp2 hx hy
  exact hE k p w
end Go.Proofs.Ytcfbdbjonmjplaa
