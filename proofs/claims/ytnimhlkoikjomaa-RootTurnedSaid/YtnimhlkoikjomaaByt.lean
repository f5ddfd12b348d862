/- A byte, laid over a number. -/
import Derived.Test.YtnimhlkoikjomaaBoxN
import Derived.Test.YtnimhlkoikjomaaFlo
namespace Go.Proofs.Ytnimhlkoikjomaa
open Go.RowKit
set_option maxRecDepth 20000

/-- A byte as the walks have it. -/
def nv8 (x : BitVec 8) : Int := (x.toNat : Int)
theorem nv8_range (x : BitVec 8) : 0 ≤ nv8 x ∧ nv8 x < 256 := by
  have := x.isLt
  unfold nv8
  omega
theorem nv8_inj {x y : BitVec 8} (h : nv8 x = nv8 y) : x = y := BitVec.eq_of_toNat_eq (by unfold nv8 at h; omega)
theorem i64_mask (n : Int) (k : Nat) (hk : k < 63) (M : Int) (hM : (BitVec.ofInt 64 M).toNat = 2 ^ k - 1) : bits .and .i64 n M = (((n % ((2 ^ 64 : Nat) : Int)).toNat % 2 ^ k : Nat) : Int) := by
  have key : (BitVec.ofInt 64 n &&& BitVec.ofInt 64 M).toNat = (n % ((2 ^ 64 : Nat) : Int)).toNat % 2 ^ k := by
    rw [BitVec.toNat_and, BitVec.toNat_ofInt, hM, Nat.and_two_pow_sub_one_eq_mod]
  show IntKind.i64.wrap ((BitVec.ofInt 64 n &&& BitVec.ofInt 64 M).toNat : Nat) = _
  rw [key, IntKind.wrap_i64]
  have h1 : (n % ((2 ^ 64 : Nat) : Int)).toNat % 2 ^ k < 2 ^ k := Nat.mod_lt _ (Nat.two_pow_pos k)
  have h2 : 2 ^ k ≤ 2 ^ 62 := Nat.pow_le_pow_right (by decide) (by omega)
  omega
theorem bytes_set {xs : List Int} (h : Bytes xs) (i : Nat) {v : Int} (hv : 0 ≤ v ∧ v < 256) : Bytes (xs.set i v) := fun x hx => by
  rcases List.mem_or_eq_of_mem_set hx with hx | rfl
  · exact h x hx
  · exact hv
theorem xor_byte (a : BitVec 64) (b : BitVec 8) : bits .xor .u64 (nv a) (nv8 b) = nv (a ^^^ b.setWidth 64) := by
  have e : nv8 b = nv (b.setWidth 64) := by
    have := b.isLt
    unfold nv nv8
    rw [BitVec.toNat_setWidth]
    omega
  rw [← nv_xor, e]
theorem byte_ne {a : BitVec 64} {b : BitVec 8} (hb : b ≠ 0#8) : a ≠ a ^^^ b.setWidth 64 := fun e => hb (by
  have h0 : (b.setWidth 64 : BitVec 64) = 0#64 := by
    have h1 : a ^^^ (a ^^^ b.setWidth 64) = a ^^^ a := by rw [← e]
    rw [← BitVec.xor_assoc, BitVec.xor_self, BitVec.zero_xor] at h1
    exact h1
  apply BitVec.eq_of_toNat_eq
  have h2 : (b.setWidth 64 : BitVec 64).toNat = 0 := by rw [h0]; rfl
  have := b.isLt
  rw [BitVec.toNat_setWidth] at h2
  show b.toNat = 0
  omega)
theorem turn_1 (t : BitVec 64 × BitVec 64) (b : BitVec 8) (hb : b ≠ 0#8) : t ≠ (t.1 ^^^ b.setWidth 64, t.2) := fun e => byte_ne hb (congrArg Prod.fst e)
theorem turn_2 (t : BitVec 64 × BitVec 64) (b : BitVec 8) (hb : b ≠ 0#8) : t ≠ (t.1, t.2 ^^^ b.setWidth 64) := fun e => byte_ne hb (congrArg Prod.snd e)
theorem SBox.setOther {w : World} {b : Nat} {v : Value} {t1 t2 : Int} (h : SBox w b v t1 t2) {a : Addr} (ha : b ≠ a.block) (u : Value) : SBox (w.setCell a u) b v t1 t2 := (Below.heap_setCell w a u b ha).trans h
theorem xor_byte32 (a : BitVec 32) (b : BitVec 8) : bits .xor .u32 (nv32 a) (nv8 b) = nv32 (a ^^^ b.setWidth 32) := by
  have h1 := a.isLt
  have h2 := b.isLt
  have e : nv8 b = nv32 (b.setWidth 32) := by
    unfold nv32 nv8
    rw [BitVec.toNat_setWidth]
    omega
  rw [e]
  unfold nv32
  rw [u32_xor_nat _ _ a.isLt (b.setWidth 32).isLt, BitVec.toNat_xor]
theorem byte_ne32 {a : BitVec 32} {b : BitVec 8} (hb : b ≠ 0#8) : a ≠ a ^^^ b.setWidth 32 := fun e => hb (by
  have h0 : (b.setWidth 32 : BitVec 32) = 0#32 := by
    have h1 : a ^^^ (a ^^^ b.setWidth 32) = a ^^^ a := by rw [← e]
    rw [← BitVec.xor_assoc, BitVec.xor_self, BitVec.zero_xor] at h1
    exact h1
  apply BitVec.eq_of_toNat_eq
  have h2 : (b.setWidth 32 : BitVec 32).toNat = 0 := by rw [h0]; rfl
  have := b.isLt
  rw [BitVec.toNat_setWidth] at h2
  show b.toNat = 0
  omega)
theorem xor8_ne {x y : Int} (hx : 0 ≤ x ∧ x < 256) (hy : 0 ≤ y ∧ y < 256) (h0 : y ≠ 0) : xor8 x y ≠ x := fun e => h0 (by
  have h : xor8 x y = ((x.toNat ^^^ y.toNat : Nat) : Int) := u8_xor x y hx.1 hx.2 hy.1 hy.2
  rw [h] at e
  have e2 : x.toNat ^^^ y.toNat = x.toNat := by omega
  have e3 : x.toNat ^^^ (x.toNat ^^^ y.toNat) = x.toNat ^^^ x.toNat := by rw [e2]
  rw [← Nat.xor_assoc, Nat.xor_self, Nat.zero_xor] at e3
  omega)
theorem xor8_zero {x : Int} (hx : 0 ≤ x ∧ x < 256) : xor8 x 0 = x := by
  have h : xor8 x 0 = ((x.toNat ^^^ (0 : Int).toNat : Nat) : Int) := u8_xor x 0 hx.1 hx.2 (by decide) (by decide)
  rw [h]
  simp
  omega
end Go.Proofs.Ytnimhlkoikjomaa
