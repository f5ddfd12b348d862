/- Where it all stands, plain; what is asked of the program's places. -/
import Derived.Test.YtfneckhjhjmopaaHid
import Derived.Test.YtfneckhjhjmopaaI64
import Derived.WalkKit
import Derived.WalkSpells
import Derived.WalkLawsBesides
import Derived.Handy
namespace Go.Proofs.Ytfneckhjhjmopaa
open Go.RowKit
set_option maxRecDepth 20000

def gmOk (n : Int) : Prop := n = 4 ∨ n = 8 ∨ n = 16
instance (n : Int) : Decidable (gmOk n) := by unfold gmOk; exact inferInstance
def gmIs (n : Int) : Bool := decide (gmOk n)
def gmData (n i : Int) : Int := if gmOk n ∧ 0 ≤ i ∧ i < n then 32 * i else -1
def gmLeaf (n a i : Int) : Int := if gmOk n ∧ (a = 0 ∨ a = 1) ∧ 0 ≤ i ∧ i < n then 32 * n + 64 * n * a + 32 * i else -1
def gmNode (n a i : Int) : Int := if gmOk n ∧ (a = 0 ∨ a = 1) ∧ 0 ≤ i ∧ i < 2 * n then 64 * n + 64 * n * a + 16 * i else -1
def gmRec (n i : Int) : Int := if gmOk n ∧ (i = 0 ∨ i = 1) then 160 * n + 60 * i else -1
def gmSize (n : Int) : Int := if gmOk n then 160 * n + 120 else 0
abbrev gmv (n : Int) : Value := .agg #[.int .i64 n]
/-- What is asked of the program's places. -/
structure GmAll : Prop where
  is_ : ∀ n, I64 n → ∀ w : World, Calls Try.prog 5 #[.int .i64 n] w fun e w' => e = .returned (.bool (gmIs n)) ∧ Below w.heap.size w w'
  data : ∀ n i, I64 n → I64 i → ∀ w : World, Calls Try.prog 7 #[gmv n, .int .i64 i] w fun e w' => e = .returned (.int .i64 (gmData n i)) ∧ Below w.heap.size w w'
  leaf : ∀ n a i, I64 n → I64 a → I64 i → ∀ w : World, Calls Try.prog 9 #[gmv n, .int .i64 a, .int .i64 i] w fun e w' => e = .returned (.int .i64 (gmLeaf n a i)) ∧ Below w.heap.size w w'
  node : ∀ n a i, I64 n → I64 a → I64 i → ∀ w : World, Calls Try.prog 11 #[gmv n, .int .i64 a, .int .i64 i] w fun e w' => e = .returned (.int .i64 (gmNode n a i)) ∧ Below w.heap.size w w'
  rec_ : ∀ n i, I64 n → I64 i → ∀ w : World, Calls Try.prog 13 #[gmv n, .int .i64 i] w fun e w' => e = .returned (.int .i64 (gmRec n i)) ∧ Below w.heap.size w w'
  size : ∀ n, I64 n → ∀ w : World, Calls Try.prog 15 #[gmv n] w fun e w' => e = .returned (.int .i64 (gmSize n)) ∧ Below w.heap.size w w'
end Go.Proofs.Ytfneckhjhjmopaa
