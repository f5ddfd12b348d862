/- Plain facts: a step, and the sum of bytes. -/
import Derived.Test.YtkkehbebaokdmaaBWire
namespace Go.Proofs.Ytkkehbebaokdmaa
open Go.RowKit
set_option maxRecDepth 20000

/-- A step. -/
def stepP (s m : BitVec 64 × BitVec 64) : BitVec 64 × BitVec 64 := ((enc m s).1 ^^^ s.1, (enc m s).2 ^^^ s.2)
def iv : BitVec 64 × BitVec 64 := (0x6a09e667f3bcc908#64, 0xbb67ae8584caa73b#64)
theorem iv_1 : nv iv.1 = 7640891576956012808 := by decide
theorem iv_2 : nv iv.2 = 13503953896175478587 := by decide
/-- How many noughts. -/
def digN (n : Nat) : Nat := (23 - n % 16) % 16
/-- Bytes, as they are summed. -/
def msgL (xs : List Int) : List Int := xs ++ [128] ++ List.replicate (digN xs.length) 0 ++ putL xs.length 8
def msgN (n : Nat) : Nat := (n + 1 + digN n + 8) / 16
theorem msg_sixteen (n : Nat) : n + 1 + digN n + 8 = 16 * msgN n := by
  unfold msgN digN
  omega
theorem msgL_length (xs : List Int) : (msgL xs).length = 16 * msgN xs.length := by
  rw [← msg_sixteen]
  simp [msgL, putL_length]
  omega
theorem msgL_bytes {xs : List Int} (h : Bytes xs) : Bytes (msgL xs) := by
  refine ((h.append ?_).append ?_).append (putL_bytes _ _)
  · intro x hx
    simp at hx
    omega
  · intro x hx
    obtain ⟨_, rfl⟩ := List.mem_replicate.1 hx
    omega
theorem dig_end (n j : Nat) (hj : j ≤ digN n) : ((n + 1 + j) % 16 = 8) ↔ j = digN n := by
  unfold digN at hj ⊢
  omega
/-- The first k sixteens' sum. -/
def sumN (s : BitVec 64 × BitVec 64) (ys : List Int) : Nat → BitVec 64 × BitVec 64
  | 0 => s
  | k + 1 => stepP (sumN s ys k) (pairOf (six ys k))
theorem sumN_succ (s : BitVec 64 × BitVec 64) (ys : List Int) (k : Nat) : sumN s ys (k + 1) = stepP (sumN s ys k) (pairOf (six ys k)) := rfl
/-- The sum of bytes. -/
def sumP (xs : List Int) : BitVec 64 × BitVec 64 := sumN iv (msgL xs) (msgN xs.length)
end Go.Proofs.Ytkkehbebaokdmaa
