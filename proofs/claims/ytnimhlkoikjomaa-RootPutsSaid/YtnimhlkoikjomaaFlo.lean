/- Plain facts: numbers that are used once, the flow of bytes, and rows byte by byte. -/
import Derived.Test.YtnimhlkoikjomaaBWire
import Derived.Test.YtnimhlkoikjomaaNn
namespace Go.Proofs.Ytnimhlkoikjomaa
open Go.RowKit
set_option maxRecDepth 20000

/-- A number as the Pair that is turned into a key. -/
def nonP (n : Nn) : BitVec 64 × BitVec 64 := ((n.1 ++ n.2.1 : BitVec (32 + 32)), n.2.2)
theorem cat32 (a b : BitVec 32) : (a ++ b : BitVec (32 + 32)).toNat = a.toNat * 4294967296 + b.toNat := by
  have hb := b.isLt
  rw [BitVec.toNat_append, ← Nat.shiftLeft_add_eq_or_of_lt hb, Nat.shiftLeft_eq]
theorem nonP_inj {m n : Nn} (h : nonP m = nonP n) : m = n := by
  obtain ⟨a, b, c⟩ := m
  obtain ⟨a', b', c'⟩ := n
  simp only [nonP, Prod.mk.injEq] at h
  obtain ⟨h1, rfl⟩ := h
  have h1 : (a ++ b : BitVec (32 + 32)).toNat = (a' ++ b' : BitVec (32 + 32)).toNat := by rw [h1]
  rw [cat32, cat32] at h1
  have h2 := b.isLt
  have h3 := b'.isLt
  obtain rfl : a = a' := BitVec.eq_of_toNat_eq (by omega)
  obtain rfl : b = b' := BitVec.eq_of_toNat_eq (by omega)
  rfl
theorem nonP_or (n : Nn) : bits .or .u64 (IntKind.u64.wrap (nv32 n.1 * 4294967296)) (nv32 n.2.1) = nv (nonP n).1 := by
  have h1 := n.1.isLt
  have h2 := n.2.1.isLt
  have e : IntKind.u64.wrap (nv32 n.1 * 4294967296) = ((n.1.toNat * 4294967296 : Nat) : Int) := by
    unfold nv32
    rw [IntKind.wrap_u64]
    omega
  rw [e]
  unfold nv32 nv
  rw [u64_or_nat _ _ (by omega) (by omega)]
  show (_ : Int) = (((n.1 ++ n.2.1 : BitVec (32 + 32)).toNat : Nat) : Int)
  rw [BitVec.toNat_append, Nat.shiftLeft_eq]
/-- A key of a key and a number. -/
def subP (key : BitVec 64 × BitVec 64) (n : Nn) : BitVec 64 × BitVec 64 := enc key (nonP n)
theorem subP_inj {key : BitVec 64 × BitVec 64} {m n : Nn} (h : subP key m = subP key n) : m = n := nonP_inj (enc_inj h)

/-- Block number i: 1, 2, .. -/
def blk1 (sub : BitVec 64 × BitVec 64) (i : Nat) : List Int := pairL (enc sub (BitVec.ofNat 64 i, 0#64))
theorem blk1_length (sub : BitVec 64 × BitVec 64) (i : Nat) : (blk1 sub i).length = 16 := pairL_length _
/-- The first k blocks. -/
def blk (sub : BitVec 64 × BitVec 64) : Nat → List Int
  | 0 => []
  | k + 1 => blk sub k ++ blk1 sub (k + 1)
theorem blk_succ (sub : BitVec 64 × BitVec 64) (k : Nat) : blk sub (k + 1) = blk sub k ++ blk1 sub (k + 1) := rfl
theorem blk_length (sub : BitVec 64 × BitVec 64) : ∀ k, (blk sub k).length = 16 * k
  | 0 => rfl
  | k + 1 => by rw [blk_succ, List.length_append, blk_length sub k, blk1_length]; omega
theorem blk_bytes (sub : BitVec 64 × BitVec 64) : ∀ k, Bytes (blk sub k)
  | 0 => fun x hx => by cases hx
  | k + 1 => (blk_bytes sub k).append (pairL_bytes _)
theorem blk_take (sub : BitVec 64 × BitVec 64) (k : Nat) : ∀ m, k ≤ m → (blk sub m).take (16 * k) = blk sub k
  | 0, h => by obtain rfl : k = 0 := by omega
               rfl
  | m + 1, h => by
    by_cases e : k = m + 1
    · subst e
      exact List.take_of_length_le (by rw [blk_length]; exact Nat.le_refl _)
    · rw [blk_succ, List.take_append_of_le_length (by rw [blk_length]; omega), blk_take sub k m (by omega)]
/-- The first n bytes. -/
def flowL (sub : BitVec 64 × BitVec 64) (n : Nat) : List Int := (blk sub ((n + 15) / 16)).take n
theorem flowL_length (sub : BitVec 64 × BitVec 64) (n : Nat) : (flowL sub n).length = n := by
  rw [flowL, List.length_take, blk_length]
  omega
theorem flowL_bytes (sub : BitVec 64 × BitVec 64) (n : Nat) : Bytes (flowL sub n) := (blk_bytes _ _).take _
theorem flowL_of (sub : BitVec 64 × BitVec 64) (n k : Nat) (h : n ≤ 16 * k) : (blk sub k).take n = flowL sub n := by
  rw [flowL, ← blk_take sub ((n + 15) / 16) k (by omega), List.take_take, Nat.min_eq_left (by omega)]
theorem flowL_begin (sub : BitVec 64 × BitVec 64) (a b : Nat) (h : a ≤ b) : (flowL sub b).take a = flowL sub a := by
  rw [flowL, List.take_take, Nat.min_eq_left h, flowL_of sub a _ (by omega)]
theorem flowL_block (sub : BitVec 64 × BitVec 64) (i : Nat) : (flowL sub (16 * (i + 1))).drop (16 * i) = blk1 sub (i + 1) := by
  rw [← flowL_of sub (16 * (i + 1)) (i + 1) (Nat.le_refl _), List.take_of_length_le (by rw [blk_length]; exact Nat.le_refl _), blk_succ, ← blk_length sub i, List.drop_left]
/-- What Bytes answers at any number. -/
def flowI (sub : BitVec 64 × BitVec 64) (n : Int) : List Int := if 0 ≤ n ∧ n ≤ 4000 then flowL sub n.toNat else []
theorem flowI_in (sub : BitVec 64 × BitVec 64) (n : Nat) (h : n ≤ 4000) : flowI sub n = flowL sub n := by
  rw [flowI, if_pos (by omega)]
  rfl
theorem flowI_out (sub : BitVec 64 × BitVec 64) (n : Int) (h : n < 0 ∨ 4000 < n) : flowI sub n = [] := if_neg (by omega)

/-- Two rows, byte by byte. -/
def xor8 (x y : Int) : Int := bits .xor .u8 x y
theorem xor8_nat (x y : Nat) (hx : x < 256) (hy : y < 256) : xor8 x y = ((x ^^^ y : Nat) : Int) := by
  unfold xor8
  rw [u8_xor_nat _ _ hx hy]
theorem xor8_range {x y : Int} (hx : 0 ≤ x ∧ x < 256) (hy : 0 ≤ y ∧ y < 256) : 0 ≤ xor8 x y ∧ xor8 x y < 256 := by
  have h : xor8 x y = ((x.toNat ^^^ y.toNat : Nat) : Int) := u8_xor x y hx.1 hx.2 hy.1 hy.2
  have h2 : x.toNat ^^^ y.toNat < 2 ^ 8 := Nat.xor_lt_two_pow (by omega) (by omega)
  omega
theorem xor8_back {x y : Int} (hx : 0 ≤ x ∧ x < 256) (hy : 0 ≤ y ∧ y < 256) : xor8 (xor8 x y) y = x := by
  have h : xor8 x y = ((x.toNat ^^^ y.toNat : Nat) : Int) := u8_xor x y hx.1 hx.2 hy.1 hy.2
  have hr := xor8_range hx hy
  have h2 : xor8 (xor8 x y) y = (((xor8 x y).toNat ^^^ y.toNat : Nat) : Int) := u8_xor _ y hr.1 hr.2 hy.1 hy.2
  rw [h2, h, Int.toNat_natCast, Nat.xor_assoc, Nat.xor_self, Nat.xor_zero]
  omega
def xorL (xs ys : List Int) : List Int := List.zipWith xor8 xs ys
theorem xorL_length (xs ys : List Int) : (xorL xs ys).length = min xs.length ys.length := List.length_zipWith
theorem xorL_bytes : ∀ {xs ys : List Int}, Bytes xs → Bytes ys → Bytes (xorL xs ys)
  | [], ys, _, _ => fun z hz => by simp [xorL] at hz
  | x :: xs, [], _, _ => fun z hz => by simp [xorL] at hz
  | x :: xs, y :: ys, hx, hy => fun z hz => by
    rw [xorL, List.zipWith_cons_cons, List.mem_cons] at hz
    rcases hz with rfl | hz
    · exact xor8_range (hx x List.mem_cons_self) (hy y List.mem_cons_self)
    · exact xorL_bytes (fun u hu => hx u (List.mem_cons_of_mem _ hu)) (fun u hu => hy u (List.mem_cons_of_mem _ hu)) z hz
theorem xorL_back : ∀ {xs ys : List Int}, Bytes xs → Bytes ys → xorL (xorL xs ys) ys = xs.take (min xs.length ys.length)
  | [], ys, _, _ => by simp [xorL]
  | x :: xs, [], _, _ => by simp [xorL]
  | x :: xs, y :: ys, hx, hy => by
    have ih := xorL_back (fun u hu => hx u (List.mem_cons_of_mem _ hu)) (fun u hu => hy u (List.mem_cons_of_mem _ hu))
    unfold xorL at ih ⊢
    rw [List.zipWith_cons_cons, List.zipWith_cons_cons, ih, xor8_back (hx x List.mem_cons_self) (hy y List.mem_cons_self), List.length_cons, List.length_cons, Nat.succ_min_succ, List.take_succ_cons]
theorem xorL_get (xs ys : List Int) (k : Nat) (h1 : k < xs.length) (h2 : k < ys.length) : (xorL xs ys)[k]? = some (xor8 (xs.getD k 0) (ys.getD k 0)) := by
  rw [xorL, List.getElem?_zipWith, List.getElem?_eq_getElem h1, List.getElem?_eq_getElem h2]
  simp [h1, h2]
theorem xorL_take (xs ys : List Int) (k : Nat) (h1 : k < xs.length) (h2 : k < ys.length) : (xorL xs ys).take (k + 1) = (xorL xs ys).take k ++ [xor8 (xs.getD k 0) (ys.getD k 0)] := by
  rw [List.take_add_one, xorL_get xs ys k h1 h2]
  rfl
end Go.Proofs.Ytnimhlkoikjomaa
