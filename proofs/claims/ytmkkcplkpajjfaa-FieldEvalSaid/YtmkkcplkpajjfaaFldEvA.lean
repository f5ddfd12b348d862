/- FieldEval's walk, at any row. -/
import Derived.Test.YtmkkcplkpajjfaaFldEv
namespace Go.Proofs.Ytmkkcplkpajjfaa
open Go.RowKit

set_option maxHeartbeats 1000000 in
theorem eval_long (h p : BitVec 64 × BitVec 64) (x : Option Addr) (n cap : Nat) (hn : 50 < n) (w : World) : Calls Try.prog 5 #[.agg #[.int .u64 (nv h.1), .int .u64 (nv h.2)], .slice x n cap, .agg #[.int .u64 (nv p.1), .int .u64 (nv p.2)]] w fun e w' => e = .returned (.bool true) ∧ Below w.heap.size w w' := by
  go_enter Try.func5, Try.ntmps5
  go_wp2_with fail
  go_ret
  exact ⟨rfl, by go_grown⟩
theorem eval_any (hM : MulSaid) (hA : AddSaid) (hE : EvalSaid) (h p : BitVec 64 × BitVec 64) (f : Nat → BitVec 64 × BitVec 64) (x : Option Addr) (n cap : Nat) (w : World) (hx : PRow w x n f) : Calls Try.prog 5 #[.agg #[.int .u64 (nv h.1), .int .u64 (nv h.2)], .slice x n cap, .agg #[.int .u64 (nv p.1), .int .u64 (nv p.2)]] w fun e w' => e = .returned (.bool true) ∧ Below w.heap.size w w' := by
  by_cases hn : n ≤ 50
  · exact eval_in hM hA hE h p f x n cap hn w hx
  · exact eval_long h p x n cap (by omega) w
end Go.Proofs.Ytmkkcplkpajjfaa
