/- What the statements ask of field.Mul and field.Add. -/
import Derived.Test.YtkkehbebaokdmaaRefFld
namespace Go.Proofs.Ytkkehbebaokdmaa
open Go.RowKit
set_option maxRecDepth 20000

/-- field.Mul is the document's. -/
def MulSaid : Prop := ∀ (a b : BitVec 64 × BitVec 64) (w : World), Calls Try.prog 81 #[.agg #[.int .u64 (nv a.1), .int .u64 (nv a.2)], .agg #[.int .u64 (nv b.1), .int .u64 (nv b.2)]] w fun e w' => e = .returned (.agg #[.int .u64 (nv (fmul a b).1), .int .u64 (nv (fmul a b).2)]) ∧ Below w.heap.size w w'
/-- field.Add is the document's. -/
def AddSaid : Prop := ∀ (a b : BitVec 64 × BitVec 64) (w : World), Calls Try.prog 71 #[.agg #[.int .u64 (nv a.1), .int .u64 (nv a.2)], .agg #[.int .u64 (nv b.1), .int .u64 (nv b.2)]] w fun e w' => e = .returned (.agg #[.int .u64 (nv (addP a b).1), .int .u64 (nv (addP a b).2)]) ∧ Below w.heap.size w w'

theorem mul_is (hM : MulSaid) (a b : BitVec 64 × BitVec 64) {c : BitVec 64 × BitVec 64} (h : fmul a b = c) (w : World) : Calls Try.prog 81 #[.agg #[.int .u64 (nv a.1), .int .u64 (nv a.2)], .agg #[.int .u64 (nv b.1), .int .u64 (nv b.2)]] w fun e w' => e = .returned (.agg #[.int .u64 (nv c.1), .int .u64 (nv c.2)]) ∧ Below w.heap.size w w' := by
  subst h
  exact hM a b w
theorem add_is (hA : AddSaid) (a b : BitVec 64 × BitVec 64) {c : BitVec 64 × BitVec 64} (h : addP a b = c) (w : World) : Calls Try.prog 71 #[.agg #[.int .u64 (nv a.1), .int .u64 (nv a.2)], .agg #[.int .u64 (nv b.1), .int .u64 (nv b.2)]] w fun e w' => e = .returned (.agg #[.int .u64 (nv c.1), .int .u64 (nv c.2)]) ∧ Below w.heap.size w w' := by
  subst h
  exact hA a b w
theorem mul_at (hM : MulSaid) (a b c : BitVec 64 × BitVec 64) {a1 a2 b1 b2 c1 c2 : Int} (ha1 : nv a.1 = a1) (ha2 : nv a.2 = a2) (hb1 : nv b.1 = b1) (hb2 : nv b.2 = b2) (h : fmul a b = c) (hc1 : nv c.1 = c1) (hc2 : nv c.2 = c2) (w : World) :
    Calls Try.prog 81 #[.agg #[.int .u64 a1, .int .u64 a2], .agg #[.int .u64 b1, .int .u64 b2]] w fun e w' => e = .returned (.agg #[.int .u64 c1, .int .u64 c2]) ∧ Below w.heap.size w w' := by
  subst ha1 ha2 hb1 hb2 h hc1 hc2
  exact hM a b w
end Go.Proofs.Ytkkehbebaokdmaa
