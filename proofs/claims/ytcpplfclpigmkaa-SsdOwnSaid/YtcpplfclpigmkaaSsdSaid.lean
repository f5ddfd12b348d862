/- What the statements ask of the program's device. -/
import Derived.Test.YtcpplfclpigmkaaDevSt
namespace Go.Proofs.Ytcpplfclpigmkaa
open Go.RowKit
set_option maxRecDepth 20000

/-- What is asked of a device, whatever memory it has: by a power of PI. -/
structure SsdIs (PI : (Nat → Prop) → World → Value → PSt → Prop) (SI : Option Addr → (Nat → Prop) → World → Value → SsdSt → Prop) : Prop where
  base : ∀ p, ObjBase (SI p)
  make : ∀ (p : Option Addr) (n : Nat), n ≤ 65536 → ∀ w : World, Calls Try.prog 7 #[.int .i64 (n : Int), .pointer p] w fun e w' => ∃ v F, e = .returned v ∧ SI p F w' v ⟨List.replicate n 0, [], []⟩ ∧ (∀ k, F k → w.heap.size ≤ k) ∧ Below w.heap.size w w'
  makeNo : ∀ (p : Option Addr) (n : Int), n < 0 ∨ 65536 < n → ∀ w : World, Calls Try.prog 7 #[.int .i64 n, .pointer p] w fun e w' => e = .returned (.pointer none) ∧ Below w.heap.size w w'
  write : ∀ (p : Option Addr) (F G : Nat → Prop) (v : Value) (st : SsdSt) (q : PSt) (off n c : Nat) (x : Option Addr) (xs : List Int), off + n ≤ st.B.length → st.T.length ≤ 100000 → q.2.2 ≤ 1000000 → Fit x n c → Bytes xs → ∀ w : World, SI p F w v st → PI G w (.pointer p) q → (∀ k, F k → ¬ G k) → SIn (fun k => ¬ F k ∧ ¬ G k) w x n xs →
    Calls Try.prog 9 #[v, .int .i64 (off : Int), .slice x n c] w fun e w' => ∃ F' G', e = .returned (.bool (pSpend q).1) ∧ KeptD (SI p) PI F G w v (.pointer p) F' G' w' (if (pSpend q).1 = true then st.write off xs else st) (pSpend q).2
  barrier : ∀ (p : Option Addr) (F G : Nat → Prop) (v : Value) (st : SsdSt) (q : PSt), st.T.length ≤ 100000 → q.2.2 ≤ 1000000 → ∀ w : World, SI p F w v st → PI G w (.pointer p) q → (∀ k, F k → ¬ G k) →
    Calls Try.prog 10 #[v] w fun e w' => ∃ F' G', e = .returned (.bool (pSpend q).1) ∧ KeptD (SI p) PI F G w v (.pointer p) F' G' w' (if (pSpend q).1 = true then st.settle else st) (pSpend q).2
  read : ∀ (p : Option Addr) (F G : Nat → Prop) (v : Value) (st : SsdSt) (q : PSt) (off n : Nat), off + n ≤ st.B.length → q.1 = true → ∀ w : World, SI p F w v st → PI G w (.pointer p) q → (∀ k, F k → ¬ G k) →
    Calls Try.prog 17 #[v, .int .i64 (off : Int), .int .i64 (n : Int)] w fun e w' => ∃ z cz F', e = .returned (.tuple #[.slice z n cz, .bool true]) ∧ KeptG (SI p) F w v F' w' st ∧ SIn (NewOf w F') w' z n ((st.cur.drop off).take n) ∧ Fit z n cz ∧ Soft w w'
  snap : ∀ (p : Option Addr) (F : Nat → Prop) (v : Value) (st : SsdSt), ∀ w : World, SI p F w v st →
    Calls Try.prog 11 #[v] w fun e w' => ∃ z cz F', e = .returned (.slice z st.B.length cz) ∧ KeptG (SI p) F w v F' w' st ∧ SIn (NewOf w F') w' z st.B.length st.cur ∧ Fit z st.B.length cz ∧ Soft w w'
  crash : ∀ (p : Option Addr) (F : Nat → Prop) (v : Value) (st : SsdSt) (x : Option Addr) (m c : Nat) (K : List Bool), Fit x m c → ∀ w : World, SI p F w v st → KIn (fun k => ¬ F k) w x m K →
    Calls Try.prog 12 #[v, .slice x m c] w fun e w' => ∃ F', e = .returned (.tuple #[]) ∧ KeptG (SI p) F w v F' w' (st.crash K)
  smash : ∀ (p : Option Addr) (F : Nat → Prop) (v : Value) (st : SsdSt) (off n c : Nat) (x : Option Addr) (xs : List Int), off + n ≤ st.B.length → Fit x n c → Bytes xs → ∀ w : World, SI p F w v st → SIn (fun k => ¬ F k) w x n xs →
    Calls Try.prog 14 #[v, .int .i64 (off : Int), .slice x n c] w fun e w' => ∃ F', e = .returned (.bool true) ∧ KeptG (SI p) F w v F' w' (st.smash off xs)
  back : ∀ (p : Option Addr) (F : Nat → Prop) (v : Value) (st : SsdSt) (n c : Nat) (x : Option Addr) (xs : List Int), n = st.B.length → Fit x n c → Bytes xs → ∀ w : World, SI p F w v st → SIn (fun k => ¬ F k) w x n xs →
    Calls Try.prog 15 #[v, .slice x n c] w fun e w' => ∃ F', e = .returned (.bool true) ∧ KeptG (SI p) F w v F' w' (st.lay xs)
  backNo : ∀ (p : Option Addr) (F : Nat → Prop) (v : Value) (st : SsdSt) (n c : Nat) (x : Option Addr), n ≠ st.B.length → ∀ w : World, SI p F w v st →
    Calls Try.prog 15 #[v, .slice x n c] w fun e w' => ∃ F', e = .returned (.bool false) ∧ KeptG (SI p) F w v F' w' st
  trace : ∀ (p : Option Addr) (F : Nat → Prop) (v : Value) (st : SsdSt), st.T.length ≤ 100000 → ∀ w : World, SI p F w v st →
    Calls Try.prog 16 #[v] w fun e w' => ∃ z cz F', e = .returned (.slice z st.T.length cz) ∧ KeptG (SI p) F w v F' w' st ∧ TIn (NewOf w F') w' z st.T.length st.T ∧ Fit z st.T.length cz ∧ Soft w w'
  size : ∀ (p : Option Addr) (F : Nat → Prop) (v : Value) (st : SsdSt), ∀ w : World, SI p F w v st →
    Calls Try.prog 18 #[v] w fun e w' => e = .returned (.int .i64 (st.B.length : Int)) ∧ Below w.heap.size w w'
  writeNil : ∀ (off : Int) (x : Option Addr) (n c : Nat) (w : World), Calls Try.prog 9 #[.pointer none, .int .i64 off, .slice x n c] w fun e w' => e = .returned (.bool false) ∧ Below w.heap.size w w'
  barrierNil : ∀ w : World, Calls Try.prog 10 #[.pointer none] w fun e w' => e = .returned (.bool false) ∧ Below w.heap.size w w'
  readNil : ∀ (off n : Int) (w : World), Calls Try.prog 17 #[.pointer none, .int .i64 off, .int .i64 n] w fun e w' => (∃ z cz, e = .returned (.tuple #[.slice z 0 cz, .bool false])) ∧ Below w.heap.size w w'
  snapNil : ∀ w : World, Calls Try.prog 11 #[.pointer none] w fun e w' => (∃ z cz, e = .returned (.slice z 0 cz)) ∧ Below w.heap.size w w'
  crashNil : ∀ (x : Option Addr) (n c : Nat) (w : World), Calls Try.prog 12 #[.pointer none, .slice x n c] w fun e w' => e = .returned (.tuple #[]) ∧ Below w.heap.size w w'
  smashNil : ∀ (off : Int) (x : Option Addr) (n c : Nat) (w : World), Calls Try.prog 14 #[.pointer none, .int .i64 off, .slice x n c] w fun e w' => e = .returned (.bool false) ∧ Below w.heap.size w w'
  backNil : ∀ (x : Option Addr) (n c : Nat) (w : World), Calls Try.prog 15 #[.pointer none, .slice x n c] w fun e w' => e = .returned (.bool false) ∧ Below w.heap.size w w'
  traceNil : ∀ w : World, Calls Try.prog 16 #[.pointer none] w fun e w' => (∃ z cz, e = .returned (.slice z 0 cz)) ∧ Below w.heap.size w w'
  sizeNil : ∀ w : World, Calls Try.prog 18 #[.pointer none] w fun e w' => e = .returned (.int .i64 0) ∧ Below w.heap.size w w'
end Go.Proofs.Ytcpplfclpigmkaa
