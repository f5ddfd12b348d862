/- What the statements ask of the program's maker of numbers: by an invariant that its own text gives. -/
import Derived.Test.YtcplekodbgmneaaObjA
namespace Go.Proofs.Ytcplekodbgmneaa
open Go.RowKit
set_option maxRecDepth 20000

/-- A boot, how many it gave. -/
structure MkIs (Inv : (Nat → Prop) → World → Value → Nat × Nat → Prop) : Prop where
  base : ObjBase Inv
  make : ∀ (B : Nat), B < 4294967296 → ∀ w : World, Calls Try.prog 7 #[.int .u64 (B : Int)] w fun e w' => ∃ v F, e = .returned (.tuple #[v, .int .i64 0]) ∧ Inv F w' v (B, 0) ∧ (∀ k, F k → w.heap.size ≤ k) ∧ Below w.heap.size w w'
  makeNo : ∀ (B : Nat), 4294967296 ≤ B → ∀ w : World, Calls Try.prog 7 #[.int .u64 (B : Int)] w fun e w' => e = .returned (.tuple #[.pointer none, .int .i64 1]) ∧ Below w.heap.size w w'
  next : ∀ (F : Nat → Prop) (v : Value) (B n : Nat) (ep : Int) (s : Nat), B < 4294967296 → n < 100 → s ≤ 65535 → ∀ w : World, Inv F w v (B, n) →
    Calls Try.prog 9 #[v, .int .u32 ep, .int .i64 (s : Int)] w fun e w' => ∃ F', e = .returned (.tuple #[.agg #[.int .u32 ep, .int .u32 (s : Int), .int .u64 ((B : Int) * 4294967296 + n + 1)], .int .i64 0]) ∧ KeptG Inv F w v F' w' (B, n + 1)
  nextArg : ∀ (F : Nat → Prop) (v : Value) (B n : Nat) (ep s : Int), s < 0 ∨ 65535 < s → ∀ w : World, Inv F w v (B, n) →
    Calls Try.prog 9 #[v, .int .u32 ep, .int .i64 s] w fun e w' => ∃ F', e = .returned (.tuple #[.agg #[.int .u32 0, .int .u32 0, .int .u64 0], .int .i64 1]) ∧ KeptG Inv F w v F' w' (B, n)
  nextEnd : ∀ (F : Nat → Prop) (v : Value) (B : Nat) (ep : Int) (s : Nat), s ≤ 65535 → ∀ w : World, Inv F w v (B, 100) →
    Calls Try.prog 9 #[v, .int .u32 ep, .int .i64 (s : Int)] w fun e w' => ∃ F', e = .returned (.tuple #[.agg #[.int .u32 0, .int .u32 0, .int .u64 0], .int .i64 6]) ∧ KeptG Inv F w v F' w' (B, 100)
  left : ∀ (F : Nat → Prop) (v : Value) (B n : Nat), n ≤ 100 → ∀ w : World, Inv F w v (B, n) → Calls Try.prog 11 #[v] w fun e w' => ∃ F', e = .returned (.int .i64 (100 - (n : Int))) ∧ KeptG Inv F w v F' w' (B, n)
  nextNil : ∀ (ep : Int) (s : Nat), s ≤ 65535 → ∀ w : World, Calls Try.prog 9 #[.pointer none, .int .u32 ep, .int .i64 (s : Int)] w fun e w' => (∃ a b c, e = .returned (.tuple #[.agg #[.int .u32 a, .int .u32 b, .int .u64 c], .int .i64 6])) ∧ Below w.heap.size w w'
  leftNil : ∀ w : World, Calls Try.prog 11 #[.pointer none] w fun e w' => e = .returned (.int .i64 0) ∧ Below w.heap.size w w'
  boot : ∀ (a b : Int) (V : Nat), V < 18446744073709551616 → ∀ w : World, Calls Try.prog 13 #[.agg #[.int .u32 a, .int .u32 b, .int .u64 (V : Int)]] w fun e w' => e = .returned (.int .u64 ((V / 4294967296 : Nat) : Int)) ∧ Below w.heap.size w w'
end Go.Proofs.Ytcplekodbgmneaa
