/- Plain facts: Pairs as polynomials of 128 digits, as the document reckons with them. -/
import Derived.Test.YtkkehbebaokdmaaSpk
import Derived.Test.YtkkehbebaokdmaaGf
namespace Go.Proofs.Ytkkehbebaokdmaa
open Go.RowKit
set_option maxRecDepth 20000

theorem nv_shl1 (x : BitVec 64) : IntKind.u64.wrap (nv x * 2) = nv (x <<< 1) := by
  unfold nv
  rw [IntKind.wrap_u64, BitVec.toNat_shiftLeft, Nat.shiftLeft_eq]; omega
theorem nv_shr63 (x : BitVec 64) : nv x / (9223372036854775808 : Int) = nv (x >>> 63) := by
  unfold nv
  rw [BitVec.toNat_ushiftRight, Nat.shiftRight_eq_div_pow]; omega
theorem nv_shr (x : BitVec 64) (m : Nat) : nv x / (2 : Int) ^ m = nv (x >>> m) := by
  unfold nv
  rw [BitVec.toNat_ushiftRight, Nat.shiftRight_eq_div_pow]; simp
theorem nv_or (x y : BitVec 64) : bits .or .u64 (nv x) (nv y) = nv (x ||| y) := by
  unfold nv
  rw [u64_or_nat _ _ x.isLt y.isLt, BitVec.toNat_or]
theorem nv_and (x y : BitVec 64) : bits .and .u64 (nv x) (nv y) = nv (x &&& y) := by
  unfold nv
  rw [u64_and_nat _ _ x.isLt y.isLt, BitVec.toNat_and]
theorem nv_135 : nv 135#64 = 135 := by decide
theorem nv_one : nv 1#64 = 1 := by decide
theorem nv_zero : nv 0#64 = 0 := by decide

theorem digit (x : BitVec 64) (m : Nat) : (bits .and .u64 (nv x / (2 : Int) ^ m) 1 == 1) = x.getLsbD m := by
  have e : bits .and .u64 (nv x / (2 : Int) ^ m) 1 = nv ((x >>> m) &&& 1#64) := by rw [nv_shr, ← nv_and, nv_one]
  rw [e, ← nv_one, nv_eq]
  have hb : ((x >>> m) &&& 1#64) = if x.getLsbD m then 1#64 else 0#64 := by
    apply BitVec.eq_of_getLsbD_eq
    intro i hi
    rw [BitVec.getLsbD_and, BitVec.getLsbD_ushiftRight]
    by_cases h0 : i = 0
    · subst h0
      cases x.getLsbD m <;> simp
    · have h1 : (1#64 : BitVec 64).getLsbD i = false := by simp [h0]
      rw [h1, Bool.and_false]
      cases x.getLsbD m
      · simp
      · exact h1.symm
  rw [hb]
  cases x.getLsbD m <;> decide

/-- A Pair as a polynomial: the first number's digits are the higher ones. -/
def cat (p : BitVec 64 × BitVec 64) : BitVec 128 := p.1 ++ p.2
theorem cat_bit (p : BitVec 64 × BitVec 64) (i : Nat) : (cat p).getLsbD i = if i < 64 then p.2.getLsbD i else p.1.getLsbD (i - 64) := by
  unfold cat
  rw [BitVec.getLsbD_append]
theorem cat_inj {p q : BitVec 64 × BitVec 64} (h : cat p = cat q) : p = q := by
  have hb : ∀ i, (cat p).getLsbD i = (cat q).getLsbD i := fun i => by rw [h]
  obtain ⟨p1, p2⟩ := p
  obtain ⟨q1, q2⟩ := q
  have e2 : p2 = q2 := by
    apply BitVec.eq_of_getLsbD_eq
    intro i hi
    have := hb i
    rw [cat_bit, cat_bit, if_pos hi, if_pos hi] at this
    exact this
  have e1 : p1 = q1 := by
    apply BitVec.eq_of_getLsbD_eq
    intro i hi
    have := hb (i + 64)
    rw [cat_bit, cat_bit, if_neg (by omega), if_neg (by omega), Nat.add_sub_cancel] at this
    exact this
  rw [e1, e2]
def addP (p q : BitVec 64 × BitVec 64) : BitVec 64 × BitVec 64 := (p.1 ^^^ q.1, p.2 ^^^ q.2)
theorem cat_add (p q : BitVec 64 × BitVec 64) : cat (addP p q) = cat p ^^^ cat q := by
  apply BitVec.eq_of_getLsbD_eq
  intro i hi
  rw [BitVec.getLsbD_xor, cat_bit, cat_bit, cat_bit]
  split
  · exact BitVec.getLsbD_xor
  · exact BitVec.getLsbD_xor
def twiceP (p : BitVec 64 × BitVec 64) : BitVec 64 × BitVec 64 := ((p.1 <<< 1) ||| (p.2 >>> 63), if p.1 >>> 63 = 1#64 then (p.2 <<< 1) ^^^ 135#64 else p.2 <<< 1)
theorem top_bit (x : BitVec 64) : (x >>> 63 = 1#64) ↔ x.getLsbD 63 = true := by
  constructor
  · intro h
    have := congrArg (fun v : BitVec 64 => v.getLsbD 0) h
    simpa using this
  · intro h
    apply BitVec.eq_of_getLsbD_eq
    intro i hi
    rw [BitVec.getLsbD_ushiftRight]
    by_cases e : i = 0
    · subst e; simpa using h
    · rw [BitVec.getLsbD_of_ge x _ (by omega)]
      simp [e]
theorem cat_msb (p : BitVec 64 × BitVec 64) : (cat p).msb = p.1.getLsbD 63 := by
  rw [BitVec.msb_eq_getLsbD_last, cat_bit, if_neg (by decide)]
theorem bit135 : ∀ i, i < 128 → (135#128 : BitVec 128).getLsbD i = (decide (i < 64) && (135#64 : BitVec 64).getLsbD i) := by decide
theorem cat_twice (p : BitVec 64 × BitVec 64) : cat (twiceP p) = Gf.xt (cat p) := by
  apply BitVec.eq_of_getLsbD_eq
  intro i hi
  unfold Gf.xt
  rw [BitVec.getLsbD_xor, cat_msb, cat_bit]
  have hsh : (cat p <<< 1).getLsbD i = (decide (i ≠ 0) && (cat p).getLsbD (i - 1)) := by
    rw [BitVec.getLsbD_shiftLeft]
    by_cases e : i = 0
    · simp [e]
    · have : ¬ i < 1 := by omega
      simp [hi, e, this]
  rw [hsh, cat_bit]
  have hc : (if p.1.getLsbD 63 = true then 135#128 else 0#128).getLsbD i = (p.1.getLsbD 63 && (decide (i < 64) && (135#64 : BitVec 64).getLsbD i)) := by
    cases p.1.getLsbD 63
    · simp
    · simp only [if_true, Bool.true_and]; exact bit135 i hi
  rw [hc]
  have hsec : (twiceP p).2 = (p.2 <<< 1) ^^^ (if p.1.getLsbD 63 = true then 135#64 else 0#64) := by
    unfold twiceP
    by_cases h : p.1 >>> 63 = 1#64
    · have h' := (top_bit p.1).1 h
      simp only [h, h', if_true]
    · have h' : p.1.getLsbD 63 = false := by
        cases hq : p.1.getLsbD 63
        · rfl
        · exact absurd ((top_bit p.1).2 hq) h
      rw [if_neg h, h', if_neg (by decide), BitVec.xor_zero]
  by_cases h64 : i < 64
  · rw [if_pos h64, hsec, BitVec.getLsbD_xor, BitVec.getLsbD_shiftLeft]
    by_cases e : i = 0
    · subst e
      cases p.1.getLsbD 63 <;> simp
    · have e1 : i - 1 < 64 := by omega
      have e2 : ¬ i < 1 := by omega
      cases p.1.getLsbD 63 <;> simp [h64, e, e1, e2]
  · rw [if_neg h64]
    show ((p.1 <<< 1) ||| (p.2 >>> 63)).getLsbD (i - 64) = _
    rw [BitVec.getLsbD_or, BitVec.getLsbD_shiftLeft, BitVec.getLsbD_ushiftRight]
    by_cases e : i = 64
    · subst e; simp
    · have e1 : ¬ i - 1 < 64 := by omega
      have e2 : ¬ i - 64 < 1 := by omega
      have e3 : i - 64 < 64 := by omega
      have e4 : i - 64 - 1 = i - 1 - 64 := by omega
      have e5 : i ≠ 0 := by omega
      have e6 : p.2.getLsbD (63 + (i - 64)) = false := BitVec.getLsbD_of_ge _ _ (by omega)
      simp [h64, e1, e2, e3, e4, e5, e6]

theorem cat_zero : cat (0#64, 0#64) = 0#128 := by decide
/-- The document's product, n digits done. -/
def mulP (a b : BitVec 64 × BitVec 64) : Nat → BitVec 64 × BitVec 64
  | 0 => (0#64, 0#64)
  | n + 1 => if (cat b).getLsbD (127 - n) then addP (twiceP (mulP a b n)) a else twiceP (mulP a b n)
theorem mulP_succ (a b : BitVec 64 × BitVec 64) (n : Nat) : mulP a b (n + 1) = if (cat b).getLsbD (127 - n) then addP (twiceP (mulP a b n)) a else twiceP (mulP a b n) := rfl
theorem cat_mulP (a b : BitVec 64 × BitVec 64) : ∀ n, cat (mulP a b n) = Gf.hor (cat a) (cat b) n := by
  intro n
  induction n with
  | zero => exact cat_zero
  | succ n ih =>
    rw [mulP_succ, Gf.hor_succ, ← ih, ← cat_twice]
    split
    · exact cat_add _ _
    · rw [BitVec.xor_zero]
def fmul (a b : BitVec 64 × BitVec 64) : BitVec 64 × BitVec 64 := mulP a b 128
theorem cat_fmul (a b : BitVec 64 × BitVec 64) : cat (fmul a b) = Gf.mul (cat a) (cat b) := cat_mulP a b 128
theorem cat_one : cat (0#64, 1#64) = 1#128 := by decide
theorem cat_two : cat (0#64, 2#64) = 2#128 := by decide

theorem fmul_comm (a b : BitVec 64 × BitVec 64) : fmul a b = fmul b a := cat_inj (by rw [cat_fmul, cat_fmul, Gf.mul_comm])
theorem fmul_assoc (a b c : BitVec 64 × BitVec 64) : fmul a (fmul b c) = fmul (fmul a b) c := cat_inj (by rw [cat_fmul, cat_fmul, cat_fmul, cat_fmul, Gf.mul_assoc])
theorem fmul_add (a b c : BitVec 64 × BitVec 64) : fmul a (addP b c) = addP (fmul a b) (fmul a c) := cat_inj (by rw [cat_fmul, cat_add, cat_add, cat_fmul, cat_fmul, Gf.mul_add])
theorem fmul_one (a : BitVec 64 × BitVec 64) : fmul a (0#64, 1#64) = a := cat_inj (by rw [cat_fmul, cat_one, Gf.mul_one])
theorem fmul_zero (a : BitVec 64 × BitVec 64) : fmul a (0#64, 0#64) = (0#64, 0#64) := cat_inj (by rw [cat_fmul, cat_zero, Gf.mul_zero])
theorem fmul_two (a : BitVec 64 × BitVec 64) : fmul a (0#64, 2#64) = twiceP a := cat_inj (by rw [cat_fmul, cat_two, Gf.mul_two, cat_twice])
theorem addP_self (a : BitVec 64 × BitVec 64) : addP a a = (0#64, 0#64) := by simp [addP]
theorem fmul_none (a b : BitVec 64 × BitVec 64) : fmul a b = (0#64, 0#64) ↔ a = (0#64, 0#64) ∨ b = (0#64, 0#64) := by
  constructor
  · intro h
    have := congrArg cat h
    rw [cat_fmul, cat_zero] at this
    rcases Gf.no_zero this with e | e
    · exact Or.inl (cat_inj (by rw [e, cat_zero]))
    · exact Or.inr (cat_inj (by rw [e, cat_zero]))
  · rintro (rfl | rfl)
    · rw [fmul_comm, fmul_zero]
    · rw [fmul_zero]
end Go.Proofs.Ytkkehbebaokdmaa
