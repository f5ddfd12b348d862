/- bytes.Equal, as the library has it. -/
import Derived.Test.YtnfddebcnkdajaaBAt
namespace Go.Proofs.Ytnfddebcnkdajaa
open Go.RowKit
set_option maxRecDepth 20000

theorem iequal (x y : Option Addr) (n m c d : Nat) (xs ys : List Int) (bx : Bytes xs) (by_ : Bytes ys) (w : World) (sx : SAt w x n xs) (sy : SAt w y m ys) : Calls Try.prog 21 #[.slice x n c, .slice y m d] w fun e w' => e = .returned (.bool (decide (xs = ys))) ∧ w' = w := by
  have e1 := fun c => sx.conv (c := c)
  have e2 := fun c => sy.conv (c := c)
  rw [← str_eq xs ys bx by_]
  go_enter Try.func21, Try.ntmps21
  go_wp2
  go_ret
  exact ⟨rfl, rfl⟩
end Go.Proofs.Ytnfddebcnkdajaa
