/- Plain facts on bytes and numbers: the number that bytes say, the highest first, and its bytes. -/
import Derived.WalkKit
import Derived.Deep.OwnRows
namespace Go.Proofs.Ytnimhlkoikjomaa
open Go.RowKit
set_option maxRecDepth 20000

/-- Byte number j of V, counted from the lowest. -/
def byteAt (V j : Nat) : Nat := V / 256 ^ j % 256
theorem byteAt_lt (V j : Nat) : byteAt V j < 256 := Nat.mod_lt _ (by decide)

theorem pow_step {n k : Nat} (h1 : 1 ≤ k) (h2 : k ≤ n) : n - (k - 1) = n - k + 1 := by omega
theorem shr_step (V n k : Nat) (h1 : 1 ≤ k) (h2 : k ≤ n) : (V : Int) / 256 ^ (n - k) / 256 = ((V / 256 ^ (n - (k - 1)) : Nat) : Int) := by
  rw [pow_step h1 h2, Nat.pow_succ, ← Nat.div_div_eq_div_mul]; simp
theorem byte_step (V n k : Nat) (h1 : 1 ≤ k) (h2 : k ≤ n) : (V : Int) / 256 ^ (n - k) % 256 = (byteAt V (n - 1 - (k - 1)) : Nat) := by
  rw [show n - 1 - (k - 1) = n - k from by omega, byteAt]; simp

/-- Cells that are bytes. -/
def Bytes (xs : List Int) : Prop := ∀ x ∈ xs, 0 ≤ x ∧ x < 256
theorem Bytes.take {xs : List Int} (h : Bytes xs) (k : Nat) : Bytes (xs.take k) := fun x hx => h x (List.mem_of_mem_take hx)
theorem Bytes.drop {xs : List Int} (h : Bytes xs) (k : Nat) : Bytes (xs.drop k) := fun x hx => h x (List.mem_of_mem_drop hx)
theorem Bytes.at {xs : List Int} (h : Bytes xs) (k : Nat) (hk : k < xs.length) : 0 ≤ xs[k] ∧ xs[k] < 256 := h _ (List.getElem_mem hk)
theorem Bytes.append {xs ys : List Int} (h : Bytes xs) (h' : Bytes ys) : Bytes (xs ++ ys) := fun x hx => (List.mem_append.1 hx).elim (h x) (h' x)

/-- The number of bytes, the highest first. -/
def num (xs : List Int) : Int := xs.foldl (fun v x => v * 256 + x) 0
theorem num_snoc (xs : List Int) (x : Int) : num (xs ++ [x]) = num xs * 256 + x := by simp [num]
theorem num_take (xs : List Int) (k : Nat) (hk : k < xs.length) : num (xs.take (k + 1)) = num (xs.take k) * 256 + xs[k] := by
  rw [List.take_succ_eq_append_getElem hk, num_snoc]
theorem num_bound (xs : List Int) (h : Bytes xs) : ∀ k, k ≤ xs.length → 0 ≤ num (xs.take k) ∧ num (xs.take k) < 256 ^ k := by
  intro k
  induction k with
  | zero => intro _; simp [num]
  | succ k ih =>
    intro hk
    have := ih (by omega)
    have hb := h.at k (by omega)
    rw [num_take xs k (by omega), Int.pow_succ]
    omega
theorem pow_le8 (k : Nat) (h : k ≤ 8) : (256 : Int) ^ k ≤ 18446744073709551616 := by
  have : k = 0 ∨ k = 1 ∨ k = 2 ∨ k = 3 ∨ k = 4 ∨ k = 5 ∨ k = 6 ∨ k = 7 ∨ k = 8 := by omega
  rcases this with rfl | rfl | rfl | rfl | rfl | rfl | rfl | rfl | rfl <;> decide
theorem num_lt (xs : List Int) (h : Bytes xs) (hl : xs.length ≤ 8) : 0 ≤ num xs ∧ num xs < 18446744073709551616 := by
  have := num_bound xs h xs.length (Nat.le_refl _)
  rw [List.take_length] at this
  have := pow_le8 _ hl
  omega

theorem or_step (a x : Int) (h0 : 0 ≤ a) (h1 : a * 256 + x < 18446744073709551616) (h2 : 0 ≤ x) (h3 : x < 256) :
    bits .or .u64 (IntKind.u64.wrap (a * 256)) (IntKind.u64.wrap x) = a * 256 + x := by
  have e1 : IntKind.u64.wrap (a * 256) = a * 256 := by rw [IntKind.wrap_u64]; omega
  have e2 : IntKind.u64.wrap x = x := by rw [IntKind.wrap_u64]; omega
  rw [e1, e2, u64_or _ _ (by omega) (by omega) h2 (by omega), nat_join 8 _ _ (by omega) (by omega)]
  omega

theorem num_step (xs : List Int) (h : Bytes xs) (hl : xs.length ≤ 8) (k : Nat) (hk : k < xs.length) :
    bits .or .u64 (IntKind.u64.wrap (num (xs.take k) * 256)) (IntKind.u64.wrap xs[k]) = num (xs.take (k + 1)) := by
  have b1 := num_bound xs h k (by omega)
  have b2 := num_bound xs h (k + 1) (by omega)
  have b3 := pow_le8 (k + 1) (by omega)
  have b4 := h.at k hk
  rw [num_take xs k hk] at b2 ⊢
  exact or_step _ _ b1.1 (by omega) b4.1 b4.2

end Go.Proofs.Ytnimhlkoikjomaa
