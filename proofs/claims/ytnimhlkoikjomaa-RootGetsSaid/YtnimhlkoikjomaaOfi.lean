/- Numbers, Pairs as bytes and back. -/
import Derived.Test.YtnimhlkoikjomaaBWire
namespace Go.Proofs.Ytnimhlkoikjomaa
open Go.RowKit
set_option maxRecDepth 20000

theorem ofInt64_num {xs : List Int} {v : BitVec 64} (h : num xs = (v.toNat : Int)) : BitVec.ofInt 64 (num xs) = v := by
  apply BitVec.eq_of_toNat_eq
  have := v.isLt
  rw [h, BitVec.toNat_ofInt]
  omega
theorem ofInt32_num {xs : List Int} {v : BitVec 32} (h : num xs = (v.toNat : Int)) : BitVec.ofInt 32 (num xs) = v := by
  apply BitVec.eq_of_toNat_eq
  have := v.isLt
  rw [h, BitVec.toNat_ofInt]
  omega
theorem pairOf_L (p : BitVec 64 × BitVec 64) : pairOf (pairL p) = p := by
  unfold pairOf pairL
  rw [List.take_left' (putL_length _ _), List.drop_left' (putL_length _ _)]
  exact Prod.ext (ofInt64_num (num_put8 _ p.1.isLt)) (ofInt64_num (num_put8 _ p.2.isLt))
theorem toNat_ofInt64 {n : Int} (h0 : 0 ≤ n) (h1 : n < 18446744073709551616) : (BitVec.ofInt 64 n).toNat = n.toNat := by
  rw [BitVec.toNat_ofInt]
  omega
theorem toNat_ofInt32 {n : Int} (h0 : 0 ≤ n) (h1 : n < 4294967296) : (BitVec.ofInt 32 n).toNat = n.toNat := by
  rw [BitVec.toNat_ofInt]
  omega
theorem putL_back {ys : List Int} (hb : Bytes ys) {n : Nat} (hn : ys.length = n) : putL (num ys).toNat n = ys := by
  subst hn
  exact putL_num ys hb
theorem putL_back64 {ys : List Int} (hb : Bytes ys) (hn : ys.length = 8) : putL (BitVec.ofInt 64 (num ys)).toNat 8 = ys := by
  have h := num_lt ys hb (by omega)
  rw [toNat_ofInt64 h.1 h.2]
  exact putL_back hb hn
theorem num_lt4 {ys : List Int} (hb : Bytes ys) (hn : ys.length = 4) : 0 ≤ num ys ∧ num ys < 4294967296 := by
  have h := num_range ys hb
  rw [hn] at h
  exact h
theorem putL_back32 {ys : List Int} (hb : Bytes ys) (hn : ys.length = 4) : putL (BitVec.ofInt 32 (num ys)).toNat 4 = ys := by
  have h := num_lt4 hb hn
  rw [toNat_ofInt32 h.1 h.2]
  exact putL_back hb hn
theorem pairL_back {ys : List Int} (hb : Bytes ys) (hn : ys.length = 16) : pairL (pairOf ys) = ys := by
  unfold pairL pairOf
  rw [putL_back64 (hb.take 8) (by rw [List.length_take]; omega), putL_back64 (hb.drop 8) (by rw [List.length_drop]; omega), List.take_append_drop]
end Go.Proofs.Ytnimhlkoikjomaa
