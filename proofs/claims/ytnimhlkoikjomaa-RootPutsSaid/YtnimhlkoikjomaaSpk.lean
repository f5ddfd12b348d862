/- Plain facts on Speck: its rounds, its keys, and that a round taken back is the block again. -/
import Derived.WalkKit
namespace Go.Proofs.Ytnimhlkoikjomaa
open Go.RowKit
set_option maxRecDepth 20000

/-- A uint64 as the walks have it: a word of its own, so that they leave it standing. -/
def nv (x : BitVec 64) : Int := (x.toNat : Int)
theorem nv_range (x : BitVec 64) : 0 ≤ nv x ∧ nv x < 18446744073709551616 := by
  have := x.isLt
  unfold nv
  omega
theorem nv_inj {x y : BitVec 64} (h : nv x = nv y) : x = y := BitVec.eq_of_toNat_eq (by unfold nv at h; omega)
theorem nv_eq (x y : BitVec 64) : (nv x == nv y) = decide (x = y) := by
  rw [Bool.eq_iff_iff, beq_iff_eq, decide_eq_true_eq]
  exact ⟨nv_inj, fun h => by rw [h]⟩
theorem nv_of (a : Int) (h0 : 0 ≤ a) (h1 : a < 18446744073709551616) : nv (BitVec.ofInt 64 a) = a := by
  unfold nv
  rw [BitVec.toNat_ofInt]
  omega

theorem w_xor (x y : BitVec 64) : bits .xor .u64 (x.toNat : Int) (y.toNat : Int) = ((x ^^^ y).toNat : Int) := by
  rw [u64_xor_nat _ _ x.isLt y.isLt, BitVec.toNat_xor]
theorem w_add (x y : BitVec 64) : IntKind.u64.wrap ((x.toNat : Int) + (y.toNat : Int)) = ((x + y).toNat : Int) := by
  rw [IntKind.wrap_u64, BitVec.toNat_add]; omega
theorem w_sub (x y : BitVec 64) : IntKind.u64.wrap ((x.toNat : Int) - (y.toNat : Int)) = ((x - y).toNat : Int) := by
  have := x.isLt
  have := y.isLt
  rw [IntKind.wrap_u64, BitVec.toNat_sub]; omega
theorem rr_nat (x : BitVec 64) (n : Nat) (h1 : n < 64) : (x.rotateRight n).toNat = x.toNat / 2 ^ n ||| x.toNat * 2 ^ (64 - n) % 2 ^ 64 := by
  rw [BitVec.toNat_rotateRight]
  rw [Nat.mod_eq_of_lt h1, Nat.shiftRight_eq_div_pow, Nat.shiftLeft_eq]
theorem rl_nat (x : BitVec 64) (n : Nat) (h1 : n < 64) : (x.rotateLeft n).toNat = x.toNat * 2 ^ n % 2 ^ 64 ||| x.toNat / 2 ^ (64 - n) := by
  rw [BitVec.toNat_rotateLeft]
  rw [Nat.mod_eq_of_lt h1, Nat.shiftRight_eq_div_pow, Nat.shiftLeft_eq]
theorem rl_rr (x : BitVec 64) (n : Nat) (h0 : 0 < n) (h1 : n < 64) : (x.rotateRight n).rotateLeft n = x := by
  apply BitVec.eq_of_getLsbD_eq
  intro i hi
  rw [BitVec.getLsbD_rotateLeft, Nat.mod_eq_of_lt h1]
  by_cases h : i < n
  · rw [BitVec.getLsbD_rotateRight, Nat.mod_eq_of_lt h1]
    have e1 : decide (64 - n + i < 64 - n) = false := by simp
    have e2 : 64 - n + i < 64 := by omega
    have e3 : 64 - n + i - (64 - n) = i := by omega
    rw [e1]
    simp [h, e2, e3]
  · rw [BitVec.getLsbD_rotateRight, BitVec.getLsbD_rotateRight, Nat.mod_eq_of_lt h1]
    have e1 : i - n < 64 - n := by omega
    have e2 : n + (i - n) = i := by omega
    simp [h, hi, e1, e2]
theorem rr_rl (x : BitVec 64) (n : Nat) (h0 : 0 < n) (h1 : n < 64) : (x.rotateLeft n).rotateRight n = x := by
  apply BitVec.eq_of_getLsbD_eq
  intro i hi
  rw [BitVec.getLsbD_rotateRight, Nat.mod_eq_of_lt h1]
  by_cases h : i < 64 - n
  · rw [BitVec.getLsbD_rotateLeft, Nat.mod_eq_of_lt h1]
    have e1 : decide (n + i < n) = false := by simp
    have e2 : n + i < 64 := by omega
    have e3 : n + i - n = i := by omega
    rw [e1]
    simp [h, e2, e3]
  · rw [BitVec.getLsbD_rotateLeft, BitVec.getLsbD_rotateLeft, Nat.mod_eq_of_lt h1]
    have e1 : i - (64 - n) < n := by omega
    have e2 : 64 - n + (i - (64 - n)) = i := by omega
    simp [h, hi, e1, e2]

theorem w_rr (x : BitVec 64) (n A B : Nat) (h1 : n < 64) (hA : 2 ^ n = A) (hB : 2 ^ (64 - n) = B) : bits .or .u64 ((x.toNat : Int) / (A : Int)) (IntKind.u64.wrap ((x.toNat : Int) * (B : Int))) = ((x.rotateRight n).toNat : Int) := by
  have hx := x.isLt
  have e1 : (x.toNat : Int) / (A : Int) = ((x.toNat / A : Nat) : Int) := by simp
  have e2 : IntKind.u64.wrap ((x.toNat : Int) * (B : Int)) = ((x.toNat * B % 2 ^ 64 : Nat) : Int) := by rw [IntKind.wrap_u64]; simp
  rw [e1, e2, u64_or_nat _ _ (Nat.lt_of_le_of_lt (Nat.div_le_self _ _) hx) (Nat.mod_lt _ (by decide)), rr_nat x n h1, hA, hB]
theorem w_rl (x : BitVec 64) (n A B : Nat) (h1 : n < 64) (hA : 2 ^ n = A) (hB : 2 ^ (64 - n) = B) : bits .or .u64 (IntKind.u64.wrap ((x.toNat : Int) * (A : Int))) ((x.toNat : Int) / (B : Int)) = ((x.rotateLeft n).toNat : Int) := by
  have hx := x.isLt
  have e1 : (x.toNat : Int) / (B : Int) = ((x.toNat / B : Nat) : Int) := by simp
  have e2 : IntKind.u64.wrap ((x.toNat : Int) * (A : Int)) = ((x.toNat * A % 2 ^ 64 : Nat) : Int) := by rw [IntKind.wrap_u64]; simp
  rw [e1, e2, u64_or_nat _ _ (Nat.mod_lt _ (by decide)) (Nat.lt_of_le_of_lt (Nat.div_le_self _ _) hx), rl_nat x n h1, hA, hB]
theorem rl_as_rr (x : BitVec 64) (n : Nat) (h0 : 0 < n) (h1 : n < 64) : x.rotateLeft (64 - n) = x.rotateRight n := by
  apply BitVec.eq_of_toNat_eq
  rw [rl_nat x (64 - n) (by omega), rr_nat x n h1, Nat.or_comm, show 64 - (64 - n) = n from by omega]

theorem nv_xor (x y : BitVec 64) : bits .xor .u64 (nv x) (nv y) = nv (x ^^^ y) := w_xor x y
theorem nv_add (x y : BitVec 64) : IntKind.u64.wrap (nv x + nv y) = nv (x + y) := w_add x y
theorem nv_sub (x y : BitVec 64) : IntKind.u64.wrap (nv x - nv y) = nv (x - y) := w_sub x y
theorem nv_rr8 (x : BitVec 64) : bits .or .u64 (nv x / 256) (IntKind.u64.wrap (nv x * 72057594037927936)) = nv (x.rotateRight 8) := w_rr x 8 256 72057594037927936 (by decide) (by decide) (by decide)
theorem nv_rr3 (x : BitVec 64) : bits .or .u64 (nv x / 8) (IntKind.u64.wrap (nv x * 2305843009213693952)) = nv (x.rotateRight 3) := w_rr x 3 8 2305843009213693952 (by decide) (by decide) (by decide)
theorem nv_rl8 (x : BitVec 64) : bits .or .u64 (IntKind.u64.wrap (nv x * 256)) (nv x / 72057594037927936) = nv (x.rotateLeft 8) := w_rl x 8 256 72057594037927936 (by decide) (by decide) (by decide)
theorem nv_rl3 (x : BitVec 64) : bits .or .u64 (IntKind.u64.wrap (nv x * 8)) (nv x / 2305843009213693952) = nv (x.rotateLeft 3) := w_rl x 3 8 2305843009213693952 (by decide) (by decide) (by decide)
theorem nv_rl56 (x : BitVec 64) : bits .or .u64 (IntKind.u64.wrap (nv x * 72057594037927936)) (nv x / 256) = nv (x.rotateRight 8) := by
  rw [← rl_as_rr x 8 (by decide) (by decide)]
  exact w_rl x 56 72057594037927936 256 (by decide) (by decide) (by decide)
theorem nv_rl61 (x : BitVec 64) : bits .or .u64 (IntKind.u64.wrap (nv x * 2305843009213693952)) (nv x / 8) = nv (x.rotateRight 3) := by
  rw [← rl_as_rr x 3 (by decide) (by decide)]
  exact w_rl x 61 2305843009213693952 8 (by decide) (by decide) (by decide)
theorem nv_small (k : Nat) (h : k < 1000) : nv (BitVec.ofNat 64 k) = (k : Int) := by
  unfold nv
  rw [BitVec.toNat_ofNat]; omega

/-- One step of the keys: (l, k), number i. -/
def keyStep (i : Nat) (p : BitVec 64 × BitVec 64) : BitVec 64 × BitVec 64 :=
  ((p.1.rotateRight 8 + p.2) ^^^ BitVec.ofNat 64 i, p.2.rotateLeft 3 ^^^ ((p.1.rotateRight 8 + p.2) ^^^ BitVec.ofNat 64 i))
/-- (l, k) behind i steps. -/
def keyAt (p : BitVec 64 × BitVec 64) : Nat → BitVec 64 × BitVec 64
  | 0 => p
  | i + 1 => keyStep i (keyAt p i)
/-- Key number i of a key (l, k). -/
def key (p : BitVec 64 × BitVec 64) (i : Nat) : BitVec 64 := (keyAt p i).2
/-- A round, and back. -/
def encR (k : BitVec 64) (p : BitVec 64 × BitVec 64) : BitVec 64 × BitVec 64 :=
  ((p.1.rotateRight 8 + p.2) ^^^ k, p.2.rotateLeft 3 ^^^ ((p.1.rotateRight 8 + p.2) ^^^ k))
def decR (k : BitVec 64) (p : BitVec 64 × BitVec 64) : BitVec 64 × BitVec 64 :=
  (((p.1 ^^^ k) - (p.2 ^^^ p.1).rotateRight 3).rotateLeft 8, (p.2 ^^^ p.1).rotateRight 3)
theorem xor_back (a b : BitVec 64) : a ^^^ b ^^^ b = a := by rw [BitVec.xor_assoc, BitVec.xor_self, BitVec.xor_zero]
theorem dec_enc (k : BitVec 64) (p : BitVec 64 × BitVec 64) : decR k (encR k p) = p := by
  obtain ⟨x, y⟩ := p
  unfold decR encR
  simp only
  simp only [xor_back]
  rw [rr_rl _ 3 (by decide) (by decide), BitVec.add_sub_cancel, rl_rr _ 8 (by decide) (by decide)]
theorem enc_dec (k : BitVec 64) (p : BitVec 64 × BitVec 64) : encR k (decR k p) = p := by
  obtain ⟨x, y⟩ := p
  unfold decR encR
  simp only
  rw [rr_rl _ 8 (by decide) (by decide), BitVec.sub_add_cancel, xor_back, rl_rr _ 3 (by decide) (by decide), xor_back]

/-- The first n rounds, by keys ks. -/
def encN (ks : Nat → BitVec 64) (p : BitVec 64 × BitVec 64) : Nat → BitVec 64 × BitVec 64
  | 0 => p
  | n + 1 => encR (ks n) (encN ks p n)
/-- Rounds n - 1 down to 0, back. -/
def decN (ks : Nat → BitVec 64) : Nat → BitVec 64 × BitVec 64 → BitVec 64 × BitVec 64
  | 0, p => p
  | n + 1, p => decN ks n (decR (ks n) p)
theorem decN_encN (ks : Nat → BitVec 64) (p : BitVec 64 × BitVec 64) : ∀ n, decN ks n (encN ks p n) = p := by
  intro n
  induction n with
  | zero => rfl
  | succ n ih => rw [encN, decN, dec_enc, ih]
theorem encN_decN (ks : Nat → BitVec 64) : ∀ n p, encN ks (decN ks n p) n = p := by
  intro n
  induction n with
  | zero => intro p; rfl
  | succ n ih => intro p; rw [encN, decN, ih, enc_dec]
def enc (k p : BitVec 64 × BitVec 64) : BitVec 64 × BitVec 64 := encN (key k) p 32
def dec (k p : BitVec 64 × BitVec 64) : BitVec 64 × BitVec 64 := decN (key k) 32 p
theorem decEnc (k p : BitVec 64 × BitVec 64) : dec k (enc k p) = p := decN_encN _ _ _
theorem encDec (k p : BitVec 64 × BitVec 64) : enc k (dec k p) = p := encN_decN _ _ _
theorem enc_inj {k p q : BitVec 64 × BitVec 64} (h : enc k p = enc k q) : p = q := by rw [← decEnc k p, h, decEnc]
theorem dec_inj {k p q : BitVec 64 × BitVec 64} (h : dec k p = dec k q) : p = q := by rw [← encDec k p, h, encDec]
theorem enc_known : enc (0x0f0e0d0c0b0a0908#64, 0x0706050403020100#64) (0x6c61766975716520#64, 0x7469206564616d20#64) = (0xa65d985179783265#64, 0x7860fedf5c570d18#64) := by decide +kernel
end Go.Proofs.Ytnimhlkoikjomaa
