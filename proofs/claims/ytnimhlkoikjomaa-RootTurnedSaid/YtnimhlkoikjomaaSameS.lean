/- lockboxref5.Same of what is the same. -/
import Derived.Test.YtnimhlkoikjomaaRefSame
namespace Go.Proofs.Ytnimhlkoikjomaa
open Go.RowKit
set_option maxRecDepth 20000

theorem rsame_self (t : BitVec 64 × BitVec 64) (xs : List Int) (z y : Option Addr) (m c d : Nat) (bx : Bytes xs) (w : World) (sz : SAt w z m xs) (sy : SAt w y m xs) : Calls Try.prog 16 #[.agg #[.slice z m c, .int .u64 (nv t.1), .int .u64 (nv t.2)], .agg #[.slice y m d, .int .u64 (nv t.1), .int .u64 (nv t.2)]] w fun e w' => e = .returned (.bool true) ∧ Below w.heap.size w w' := by
  refine (rsame_any t t xs xs z y m m c d bx bx w sz sy).mono ?_
  rintro e w' ⟨rfl, h⟩
  exact ⟨by simp, h⟩
end Go.Proofs.Ytnimhlkoikjomaa
