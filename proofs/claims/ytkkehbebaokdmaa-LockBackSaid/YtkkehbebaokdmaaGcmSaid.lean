/- What the statements ask of gcm, and of the document's own: fn is the function. -/
import Derived.Test.YtkkehbebaokdmaaRefTag
namespace Go.Proofs.Ytkkehbebaokdmaa
open Go.RowKit
set_option maxRecDepth 20000

/-- A tag. -/
def TagIs (fn : Nat) : Prop := ∀ (sub : BitVec 64 × BitVec 64) (xs ys : List Int) (x y : Option Addr) (n m c d : Nat), n ≤ 5000 → m ≤ 5000 → n ≤ c → m ≤ d → Bytes xs → Bytes ys → (x = none → n = 0 ∧ c = 0) → (y = none → m = 0 ∧ d = 0) → ∀ w : World, SAt w x n xs → SAt w y m ys →
  Calls Try.prog fn #[.agg #[.int .u64 (nv sub.1), .int .u64 (nv sub.2)], .slice x n c, .slice y m d] w fun e w' => e = .returned (.agg #[.int .u64 (nv (tagP sub xs ys).1), .int .u64 (nv (tagP sub xs ys).2)]) ∧ Below w.heap.size w w'
/-- Bytes that may be sealed are. -/
def SealIn (fn : Nat) : Prop := ∀ (key : BitVec 64 × BitVec 64) (n : Nn) (xs ys : List Int) (x y : Option Addr) (nx ny c d : Nat), nx ≤ 4000 → ny ≤ 4000 → Bytes xs → Bytes ys → nx ≤ c → ny ≤ d → (x = none → nx = 0 ∧ c = 0) → (y = none → ny = 0 ∧ d = 0) → ∀ w : World, SAt w x nx xs → SAt w y ny ys → 
  Calls Try.prog fn #[.agg #[.int .u64 (nv key.1), .int .u64 (nv key.2)], .agg #[.int .u32 (nv32 n.1), .int .u32 (nv32 n.2.1), .int .u64 (nv n.2.2)], .slice x nx c, .slice y ny d] w fun e w' => ∃ z cz, e = .returned (.tuple #[.agg #[.slice z ny cz, .int .u64 (nv (tagP (subP key n) xs (mixL (subP key n) ys)).1), .int .u64 (nv (tagP (subP key n) xs (mixL (subP key n) ys)).2)], .bool true]) ∧ SAt w' z ny (mixL (subP key n) ys) ∧ ny ≤ cz ∧ cz ≤ maxLen ∧ (z = none → ny = 0 ∧ cz = 0) ∧ Below w.heap.size w w'
/-- Others are not. -/
def SealOut (fn : Nat) : Prop := ∀ (key : BitVec 64 × BitVec 64) (n : Nn) (x y : Option Addr) (nx ny c d : Nat), 4000 < nx ∨ 4000 < ny → ∀ w : World,
  Calls Try.prog fn #[.agg #[.int .u64 (nv key.1), .int .u64 (nv key.2)], .agg #[.int .u32 (nv32 n.1), .int .u32 (nv32 n.2.1), .int .u64 (nv n.2.2)], .slice x nx c, .slice y ny d] w fun e w' => e = .returned (.tuple #[.agg #[.slice none 0 0, .int .u64 0, .int .u64 0], .bool false]) ∧ Below w.heap.size w w'
/-- What has its tag is opened. -/
def OpenYes (fn : Nat) : Prop := ∀ (key : BitVec 64 × BitVec 64) (n : Nn) (xs ys : List Int) (x y : Option Addr) (nx ny c d : Nat) (t : BitVec 64 × BitVec 64), nx ≤ 4000 → ny ≤ 4000 → tagP (subP key n) xs ys = t → Bytes xs → Bytes ys → nx ≤ c → ny ≤ d → (x = none → nx = 0 ∧ c = 0) → (y = none → ny = 0 ∧ d = 0) → ∀ w : World, SAt w x nx xs → SAt w y ny ys → 
  Calls Try.prog fn #[.agg #[.int .u64 (nv key.1), .int .u64 (nv key.2)], .agg #[.int .u32 (nv32 n.1), .int .u32 (nv32 n.2.1), .int .u64 (nv n.2.2)], .slice x nx c, .agg #[.slice y ny d, .int .u64 (nv t.1), .int .u64 (nv t.2)]] w fun e w' => ∃ z cz, e = .returned (.tuple #[.slice z ny cz, .bool true]) ∧ SAt w' z ny (mixL (subP key n) ys) ∧ Below w.heap.size w w'
/-- What hasn't is not. -/
def OpenNo (fn : Nat) : Prop := ∀ (key : BitVec 64 × BitVec 64) (n : Nn) (xs ys : List Int) (x y : Option Addr) (nx ny c d : Nat) (t : BitVec 64 × BitVec 64), nx ≤ 4000 → ny ≤ 4000 → tagP (subP key n) xs ys ≠ t → Bytes xs → Bytes ys → nx ≤ c → ny ≤ d → (x = none → nx = 0 ∧ c = 0) → (y = none → ny = 0 ∧ d = 0) → ∀ w : World, SAt w x nx xs → SAt w y ny ys → 
  Calls Try.prog fn #[.agg #[.int .u64 (nv key.1), .int .u64 (nv key.2)], .agg #[.int .u32 (nv32 n.1), .int .u32 (nv32 n.2.1), .int .u64 (nv n.2.2)], .slice x nx c, .agg #[.slice y ny d, .int .u64 (nv t.1), .int .u64 (nv t.2)]] w fun e w' => (∃ z cz, e = .returned (.tuple #[.slice z 0 cz, .bool false])) ∧ Below w.heap.size w w'
/-- What is longer is not. -/
def OpenLong (fn : Nat) : Prop := ∀ (key : BitVec 64 × BitVec 64) (n : Nn) (x y : Option Addr) (nx ny c d : Nat) (t1 t2 : Int), 4000 < nx ∨ 4000 < ny → ∀ w : World,
  Calls Try.prog fn #[.agg #[.int .u64 (nv key.1), .int .u64 (nv key.2)], .agg #[.int .u32 (nv32 n.1), .int .u32 (nv32 n.2.1), .int .u64 (nv n.2.2)], .slice x nx c, .agg #[.slice y ny d, .int .u64 t1, .int .u64 t2]] w fun e w' => (∃ z cz, e = .returned (.tuple #[.slice z 0 cz, .bool false])) ∧ Below w.heap.size w w'
end Go.Proofs.Ytkkehbebaokdmaa
