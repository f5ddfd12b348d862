/- Numbers that are used once, plain. -/
import Derived.Test.YtnimhlkoikjomaaSpk
namespace Go.Proofs.Ytnimhlkoikjomaa
open Go.RowKit
set_option maxRecDepth 20000

/-- A uint32 as the walks have it. -/
def nv32 (x : BitVec 32) : Int := (x.toNat : Int)
theorem nv32_range (x : BitVec 32) : 0 ≤ nv32 x ∧ nv32 x < 4294967296 := by
  have := x.isLt
  unfold nv32
  omega
theorem nv32_inj {x y : BitVec 32} (h : nv32 x = nv32 y) : x = y := BitVec.eq_of_toNat_eq (by unfold nv32 at h; omega)
theorem nv32_of (a : Int) (h0 : 0 ≤ a) (h1 : a < 4294967296) : nv32 (BitVec.ofInt 32 a) = a := by
  unfold nv32
  rw [BitVec.toNat_ofInt]
  omega
/-- Epoch, Slot, Version. -/
abbrev Nn : Type := BitVec 32 × BitVec 32 × BitVec 64
end Go.Proofs.Ytnimhlkoikjomaa
