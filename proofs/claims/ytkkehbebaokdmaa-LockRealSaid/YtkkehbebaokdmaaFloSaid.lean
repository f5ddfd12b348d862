/- What the statements ask of flow. -/
import Derived.Test.YtkkehbebaokdmaaRefFlo
import Derived.Test.YtkkehbebaokdmaaEqP
namespace Go.Proofs.Ytkkehbebaokdmaa
open Go.RowKit
set_option maxRecDepth 20000

/-- flow.Sub is the document's. -/
def SubSaid : Prop := ∀ (key : BitVec 64 × BitVec 64) (n : Nn) (w : World), Calls Try.prog 53 #[.agg #[.int .u64 (nv key.1), .int .u64 (nv key.2)], .agg #[.int .u32 (nv32 n.1), .int .u32 (nv32 n.2.1), .int .u64 (nv n.2.2)]] w fun e w' => e = .returned (.agg #[.int .u64 (nv (subP key n).1), .int .u64 (nv (subP key n).2)]) ∧ Below w.heap.size w w'
/-- flow.Bytes is the document's. -/
def FlowSaid : Prop := ∀ (sub : BitVec 64 × BitVec 64) (n : Int) (w : World), Calls Try.prog 69 #[.agg #[.int .u64 (nv sub.1), .int .u64 (nv sub.2)], .int .i64 n] w fun e w' => Gives e w' (flowI sub n) ∧ Below w.heap.size w w'
/-- flow.Xor is the document's. -/
def XorSaid : Prop := ∀ (xs ys : List Int) (x y : Option Addr) (n m c d : Nat), n ≤ 50000 → m ≤ 50000 → n ≤ c → m ≤ d → Bytes xs → Bytes ys → ∀ w : World, SAt w x n xs → SAt w y m ys → Calls Try.prog 68 #[.slice x n c, .slice y m d] w fun e w' => Gives e w' (xorL xs ys) ∧ Below w.heap.size w w'

theorem flow_in (hF : FlowSaid) (sub : BitVec 64 × BitVec 64) (n : Nat) (hn : n ≤ 4000) {a b x : Int} (ha : nv sub.1 = a) (hb : nv sub.2 = b) (hx : x = (n : Int)) (w : World) : Calls Try.prog 69 #[.agg #[.int .u64 a, .int .u64 b], .int .i64 x] w fun e w' => (∃ y c, e = .returned (.slice y n c) ∧ SAt w' y n (flowL sub n) ∧ n ≤ c ∧ c ≤ maxLen ∧ (y = none → n = 0 ∧ c = 0)) ∧ Below w.heap.size w w' := by
  subst ha hb hx
  refine (hF sub n w).mono fun e w' ⟨⟨y, l, c, he, hs, hc, hm, hnil⟩, hb⟩ => ?_
  rw [flowI_in sub n hn] at hs
  obtain rfl : n = l := by rw [← hs.1, flowL_length]
  exact ⟨⟨y, c, he, hs, hc, hm, hnil⟩, hb⟩
theorem flow_out (hF : FlowSaid) (sub : BitVec 64 × BitVec 64) (n : Int) (hn : n < 0 ∨ 4000 < n) (w : World) : Calls Try.prog 69 #[.agg #[.int .u64 (nv sub.1), .int .u64 (nv sub.2)], .int .i64 n] w fun e w' => (∃ y c, e = .returned (.slice y 0 c)) ∧ Below w.heap.size w w' := by
  refine (hF sub n w).mono fun e w' ⟨⟨y, l, c, he, hs, hc, hm, hnil⟩, hb⟩ => ?_
  rw [flowI_out sub n hn] at hs
  obtain rfl : 0 = l := hs.1
  exact ⟨⟨y, c, he⟩, hb⟩
theorem rflow_at (sub : BitVec 64 × BitVec 64) (n : Nat) (hn : n ≤ 4000) {a b x : Int} (ha : nv sub.1 = a) (hb : nv sub.2 = b) (hx : x = (n : Int)) (w : World) : Calls Try.prog 41 #[.agg #[.int .u64 a, .int .u64 b], .int .i64 x] w fun e w' => (∃ y c, e = .returned (.slice y n c) ∧ SAt w' y n (flowL sub n) ∧ n ≤ c ∧ c ≤ maxLen ∧ (y = none → n = 0 ∧ c = 0)) ∧ Below w.heap.size w w' := by
  subst ha hb hx
  exact (rflow_in sub n hn w).mono fun e w' ⟨y, c, he, hs, hc, hm, hnil, hb⟩ => ⟨⟨y, c, he, hs, hc, hm, hnil⟩, hb⟩
end Go.Proofs.Ytkkehbebaokdmaa
