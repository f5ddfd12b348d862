/- What the statements ask of digest; rows of bytes in memory. -/
import Derived.Test.YtkkehbebaokdmaaRefDig
import Derived.Test.YtkkehbebaokdmaaEqP
import Derived.Test.YtkkehbebaokdmaaLAt
namespace Go.Proofs.Ytkkehbebaokdmaa
open Go.RowKit
set_option maxRecDepth 20000

def StepSaid : Prop := ∀ (s m : BitVec 64 × BitVec 64) (w : World), Calls Try.prog 58 #[.agg #[.int .u64 (nv s.1), .int .u64 (nv s.2)], .agg #[.int .u64 (nv m.1), .int .u64 (nv m.2)]] w fun e w' => e = .returned (.agg #[.int .u64 (nv (stepP s m).1), .int .u64 (nv (stepP s m).2)]) ∧ Below w.heap.size w w'
def SumSaid : Prop := ∀ (P : List (List Int)) (x : Option Addr) (m c : Nat), m ≤ 1000 → P.flatten.length ≤ 50000 → m ≤ c → (x = none → m = 0 ∧ c = 0) → ∀ w : World, LAt w x m P →
  Calls Try.prog 38 #[.slice x m c] w fun e w' => e = .returned (.agg #[.int .u64 (nv (sumP P.flatten).1), .int .u64 (nv (sumP P.flatten).2)]) ∧ Below w.heap.size w w'
theorem sum_of (hS : SumSaid) (P : List (List Int)) (x : Option Addr) (m c : Nat) (hm : m ≤ 1000) {zs : List Int} (hz : P.flatten = zs) (hl : zs.length ≤ 50000) (hc : m ≤ c) (hnil : x = none → m = 0 ∧ c = 0) (w : World) (h : LAt w x m P) {t : BitVec 64 × BitVec 64} (ht : sumP zs = t) :
    Calls Try.prog 38 #[.slice x m c] w fun e w' => e = .returned (.agg #[.int .u64 (nv t.1), .int .u64 (nv t.2)]) ∧ Below w.heap.size w w' := by
  subst hz ht
  exact hS P x m c hm hl hc hnil w h
theorem rsum_of (xs : List Int) (x : Option Addr) (n c : Nat) (hn : n ≤ 50000) (bx : Bytes xs) (hnil : x = none → n = 0 ∧ c = 0) (w : World) (sx : SAt w x n xs) {t : BitVec 64 × BitVec 64} (ht : sumP xs = t) : Calls Try.prog 29 #[.slice x n c] w fun e w' => e = .returned (.agg #[.int .u64 (nv t.1), .int .u64 (nv t.2)]) ∧ Below w.heap.size w w' := ht ▸ rsum xs x n c hn bx hnil w sx
end Go.Proofs.Ytkkehbebaokdmaa
