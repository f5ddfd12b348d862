/- Plain facts: bytes as text lie in the order of their numbers. -/
import Derived.Test.YtbekiajnkmlokaaPut
namespace Go.Proofs.Ytbekiajnkmlokaa
open Go.RowKit

theorem num_acc (xs : List Int) : ∀ a : Int, xs.foldl (fun v x => v * 256 + x) a = a * 256 ^ xs.length + num xs := by
  induction xs with
  | nil => intro a; simp [num]
  | cons x xs ih =>
    intro a
    unfold num
    rw [List.foldl_cons, List.foldl_cons, ih, ih, List.length_cons, Int.pow_succ]
    have e : (a * 256 + x) * 256 ^ xs.length = a * (256 ^ xs.length * 256) + x * 256 ^ xs.length := by
      rw [Int.add_mul, Int.mul_assoc, Int.mul_comm 256]
    have e' : (0 * 256 + x) * (256 : Int) ^ xs.length = x * 256 ^ xs.length := by simp
    rw [e, e']
    omega
theorem num_cons (x : Int) (xs : List Int) : num (x :: xs) = x * 256 ^ xs.length + num xs := by
  rw [num, List.foldl_cons, num_acc]; simp
theorem num_range (xs : List Int) (h : Bytes xs) : 0 ≤ num xs ∧ num xs < 256 ^ xs.length := by
  have := num_bound xs h xs.length (Nat.le_refl _)
  rwa [List.take_length] at this
theorem Bytes.tail {x : Int} {xs : List Int} (h : Bytes (x :: xs)) : Bytes xs := fun y hy => h y (List.mem_cons_of_mem _ hy)
theorem Bytes.head {x : Int} {xs : List Int} (h : Bytes (x :: xs)) : 0 ≤ x ∧ x < 256 := h x List.mem_cons_self

/-- A byte as Go's text has it. -/
def byt (n : Int) : UInt8 := UInt8.ofNat n.toNat
theorem byt_toNat {n : Int} (h : 0 ≤ n ∧ n < 256) : (byt n).toNat = n.toNat := by
  simp [byt]; omega
theorem byt_lt {a b : Int} (ha : 0 ≤ a ∧ a < 256) (hb : 0 ≤ b ∧ b < 256) : (byt a < byt b) ↔ a < b := by
  rw [UInt8.lt_iff_toNat_lt, byt_toNat ha, byt_toNat hb]; omega
theorem byt_inj {a b : Int} (ha : 0 ≤ a ∧ a < 256) (hb : 0 ≤ b ∧ b < 256) : byt a = byt b ↔ a = b := by
  constructor
  · intro h
    have := congrArg UInt8.toNat h
    rw [byt_toNat ha, byt_toNat hb] at this
    omega
  · rintro rfl; rfl

theorem mul_gap (P x y a b : Int) (h : x < y) (hP : 0 ≤ P) (ha : a < P) (hb : 0 ≤ b) : x * P + a < y * P + b := by
  have : (x + 1) * P ≤ y * P := Int.mul_le_mul_of_nonneg_right (by omega) hP
  rw [Int.add_mul] at this
  omega

theorem lex_num : ∀ (xs ys : List Int), xs.length = ys.length → Bytes xs → Bytes ys →
    Op.bytesLess (xs.map byt) (ys.map byt) = decide (num xs < num ys) := by
  intro xs
  induction xs with
  | nil =>
    intro ys hl _ _
    cases ys with
    | nil => simp [Op.bytesLess]
    | cons y ys => simp at hl
  | cons x xs ih =>
    intro ys hl hx hy
    cases ys with
    | nil => simp at hl
    | cons y ys =>
      have hl' : xs.length = ys.length := by simpa using hl
      rw [List.map_cons, List.map_cons, Op.bytesLess, ih ys hl' hx.tail hy.tail, num_cons, num_cons, hl']
      have b1 := num_range xs hx.tail
      have b2 := num_range ys hy.tail
      rw [hl'] at b1
      rw [Bool.eq_iff_iff]
      simp only [Bool.or_eq_true, Bool.and_eq_true, decide_eq_true_eq, beq_iff_eq, byt_lt hx.head hy.head, byt_inj hx.head hy.head]
      generalize (256 : Int) ^ ys.length = P at *
      constructor
      · rintro (h | ⟨rfl, h⟩)
        · exact mul_gap P x y _ _ h (by omega) b1.2 b2.1
        · omega
      · intro h
        by_cases e : x < y
        · exact Or.inl e
        · by_cases e' : x = y
          · subst e'; exact Or.inr ⟨rfl, by omega⟩
          · exact absurd h (by have := mul_gap P y x (num ys) (num xs) (by omega) (by omega) b2.2 b1.1; omega)

theorem map_byt_inj : ∀ (xs ys : List Int), Bytes xs → Bytes ys → xs.map byt = ys.map byt → xs = ys := by
  intro xs
  induction xs with
  | nil => intro ys _ _ h; cases ys <;> simp_all
  | cons x xs ih =>
    intro ys hx hy h
    cases ys with
    | nil => simp at h
    | cons y ys =>
      rw [List.map_cons, List.map_cons, List.cons.injEq] at h
      rw [(byt_inj hx.head hy.head).1 h.1, ih ys hx.tail hy.tail h.2]

theorem str_toList (xs : List Int) : (strOfNums xs).toList = xs.map byt := by rw [ByteArray.toList_eq]; rfl
theorem str_eq (xs ys : List Int) (hx : Bytes xs) (hy : Bytes ys) : ((strOfNums xs).toList == (strOfNums ys).toList) = decide (xs = ys) := by
  rw [str_toList, str_toList, Bool.eq_iff_iff, beq_iff_eq, decide_eq_true_eq]
  exact ⟨map_byt_inj xs ys hx hy, fun h => by rw [h]⟩
theorem str_self (xs : List Int) : ((strOfNums xs).toList == (strOfNums xs).toList) = true := by simp

/-- One byte more ahead. -/
theorem putL_succ (V n : Nat) : putL V (n + 1) = (byteAt V n : Int) :: putL V n := by
  unfold putL
  rw [List.range_succ_eq_map, List.map_cons, List.map_map]
  congr 1
  apply List.map_congr_left
  intro j _
  show ((byteAt V (n + 1 - 1 - (j + 1)) : Nat) : Int) = (byteAt V (n - 1 - j) : Nat)
  rw [show n + 1 - 1 - (j + 1) = n - 1 - j from by omega]

/-- The number of the lowest n bytes. -/
theorem num_putL (V : Nat) : ∀ n, num (putL V n) = ((V % 256 ^ n : Nat) : Int) := by
  intro n
  induction n with
  | zero => simp [putL, num, Nat.mod_one]
  | succ n ih =>
    rw [putL_succ, num_cons, ih, putL_length, byteAt, Nat.pow_succ, Nat.mod_mul]
    rw [Int.natCast_add, Int.natCast_mul, Int.natCast_pow, Int.mul_comm, Int.add_comm]
    rfl
theorem num_put8 (V : Nat) (h : V < 18446744073709551616) : num (putL V 8) = V := by
  rw [num_putL]; omega

theorem order_less (A B : Nat) (hA : A < 18446744073709551616) (hB : B < 18446744073709551616) :
    Op.bytesLess (strOfNums (putL A 8)).toList (strOfNums (putL B 8)).toList = decide (A < B) := by
  rw [str_toList, str_toList, lex_num _ _ (by simp [putL_length]) (putL_bytes _ _) (putL_bytes _ _), num_put8 A hA, num_put8 B hB]
  simp
theorem order_eq (A B : Nat) (hA : A < 18446744073709551616) (hB : B < 18446744073709551616) :
    ((strOfNums (putL A 8)).toList == (strOfNums (putL B 8)).toList) = ((A : Int) == (B : Int)) := by
  rw [str_eq _ _ (putL_bytes _ _) (putL_bytes _ _), Bool.eq_iff_iff, beq_iff_eq, decide_eq_true_eq]
  constructor
  · intro h
    rw [← num_put8 A hA, ← num_put8 B hB, h]
  · intro h
    rw [Int.ofNat_inj.1 h]

end Go.Proofs.Ytbekiajnkmlokaa
