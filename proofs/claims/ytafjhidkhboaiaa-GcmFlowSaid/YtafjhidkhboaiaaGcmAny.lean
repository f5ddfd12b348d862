/- Stage 5's walks, at any arguments. -/
import Derived.Test.YtafjhidkhboaiaaGcmSea
import Derived.Test.YtafjhidkhboaiaaGcmBck
import Derived.Test.YtafjhidkhboaiaaGcmOpn
import Derived.Test.YtafjhidkhboaiaaGcmOut
import Derived.Test.YtafjhidkhboaiaaGcmTrn
namespace Go.Proofs.Ytafjhidkhboaiaa
open Go.RowKit

theorem seals_any (hT : TagIs 12) (hSi : SealIn 9) (hOy : OpenYes 15) (key : BitVec 64 × BitVec 64) (n : Nn) (xs ys : List Int) (x y : Option Addr) (nx ny c d : Nat) (bx : Bytes xs) (by_ : Bytes ys) (hc : nx ≤ c) (hd : ny ≤ d) (xnil : x = none → nx = 0 ∧ c = 0) (ynil : y = none → ny = 0 ∧ d = 0) (w : World) (sx : SAt w x nx xs) (sy : SAt w y ny ys) : Calls Try.prog 3 #[.agg #[.int .u64 (nv key.1), .int .u64 (nv key.2)], .agg #[.int .u32 (nv32 n.1), .int .u32 (nv32 n.2.1), .int .u64 (nv n.2.2)], .slice x nx c, .slice y ny d] w fun e w' => e = .returned (.bool true) ∧ Below w.heap.size w w' := by
  by_cases h : 300 < nx ∨ 300 < ny
  · exact seals_out key n x y nx ny c d h w
  · exact seals_in hT hSi hOy key n xs ys x y nx ny c d (by omega) (by omega) bx by_ hc hd xnil ynil w sx sy
theorem back_any (hSi : SealIn 9) (hOy : OpenYes 15) (key : BitVec 64 × BitVec 64) (n : Nn) (xs ys : List Int) (x y : Option Addr) (nx ny c d : Nat) (bx : Bytes xs) (by_ : Bytes ys) (hc : nx ≤ c) (hd : ny ≤ d) (xnil : x = none → nx = 0 ∧ c = 0) (ynil : y = none → ny = 0 ∧ d = 0) (w : World) (sx : SAt w x nx xs) (sy : SAt w y ny ys) : Calls Try.prog 4 #[.agg #[.int .u64 (nv key.1), .int .u64 (nv key.2)], .agg #[.int .u32 (nv32 n.1), .int .u32 (nv32 n.2.1), .int .u64 (nv n.2.2)], .slice x nx c, .slice y ny d] w fun e w' => e = .returned (.bool true) ∧ Below w.heap.size w w' := by
  by_cases h : 300 < nx ∨ 300 < ny
  · exact back_out key n x y nx ny c d h w
  · exact back_in hSi hOy key n xs ys x y nx ny c d (by omega) (by omega) bx by_ hc hd xnil ynil w sx sy
theorem opens_any (hSi : SealIn 9) (hOy : OpenYes 15) (hOn : OpenNo 15) (key : BitVec 64 × BitVec 64) (n : Nn) (xs ys : List Int) (x y : Option Addr) (nx ny c d : Nat) (t : BitVec 64 × BitVec 64) (bx : Bytes xs) (by_ : Bytes ys) (hc : nx ≤ c) (hd : ny ≤ d) (xnil : x = none → nx = 0 ∧ c = 0) (ynil : y = none → ny = 0 ∧ d = 0) (w : World) (sx : SAt w x nx xs) (sy : SAt w y ny ys) : Calls Try.prog 5 #[.agg #[.int .u64 (nv key.1), .int .u64 (nv key.2)], .agg #[.int .u32 (nv32 n.1), .int .u32 (nv32 n.2.1), .int .u64 (nv n.2.2)], .slice x nx c, .agg #[.slice y ny d, .int .u64 (nv t.1), .int .u64 (nv t.2)]] w fun e w' => e = .returned (.bool true) ∧ Below w.heap.size w w' := by
  by_cases h : 300 < nx ∨ 300 < ny
  · exact opens_out key n x y nx ny c d t h w
  · exact opens_in hSi hOy hOn key n xs ys x y nx ny c d t (by omega) (by omega) bx by_ hc hd xnil ynil w sx sy
set_option maxHeartbeats 1000000 in
theorem flow_out_ (key : BitVec 64 × BitVec 64) (n : Nn) (y : Option Addr) (ny d : Nat) (h : 300 < ny) (w : World) : Calls Try.prog 8 #[.agg #[.int .u64 (nv key.1), .int .u64 (nv key.2)], .agg #[.int .u32 (nv32 n.1), .int .u32 (nv32 n.2.1), .int .u64 (nv n.2.2)], .slice y ny d] w fun e w' => e = .returned (.bool true) ∧ Below w.heap.size w w' := by
  go_enter Try.func8, Try.ntmps8
  go_wp2
  go_ret
  exact ⟨rfl, by go_grown⟩
theorem flow_any (hSi : SealIn 9) (hOy : OpenYes 15) (key : BitVec 64 × BitVec 64) (n : Nn) (ys : List Int) (y : Option Addr) (ny d : Nat) (by_ : Bytes ys) (hd : ny ≤ d) (ynil : y = none → ny = 0 ∧ d = 0) (w : World) (sy : SAt w y ny ys) : Calls Try.prog 8 #[.agg #[.int .u64 (nv key.1), .int .u64 (nv key.2)], .agg #[.int .u32 (nv32 n.1), .int .u32 (nv32 n.2.1), .int .u64 (nv n.2.2)], .slice y ny d] w fun e w' => e = .returned (.bool true) ∧ Below w.heap.size w w' := by
  by_cases h : 300 < ny
  · exact flow_out_ key n y ny d h w
  · exact flow_in_ hSi hOy key n ys y ny d (by omega) by_ hd ynil w sy
set_option maxHeartbeats 2000000 in
theorem turned_out (key : BitVec 64 × BitVec 64) (n : Nn) (x y : Option Addr) (nx ny c d : Nat) (at_ : Int) (vb : BitVec 8) (h : 100 < nx ∨ ny < 1 ∨ 100 < ny ∨ vb = 0#8) (w : World) : Calls Try.prog 6 #[.agg #[.int .u64 (nv key.1), .int .u64 (nv key.2)], .agg #[.int .u32 (nv32 n.1), .int .u32 (nv32 n.2.1), .int .u64 (nv n.2.2)], .slice x nx c, .slice y ny d, .int .i64 at_, .int .u8 (nv8 vb)] w fun e w' => e = .returned (.bool true) ∧ Below w.heap.size w w' := by
  by_cases h1 : 100 < nx
  · clear h
    go_enter Try.func6, Try.ntmps6
    go_wp2
    go_ret
    exact ⟨rfl, by go_grown⟩
  · by_cases h2 : ny < 1
    · clear h
      go_enter Try.func6, Try.ntmps6
      go_wp2
      go_ret
      exact ⟨rfl, by go_grown⟩
    · by_cases h3 : 100 < ny
      · clear h
        go_enter Try.func6, Try.ntmps6
        go_wp2
        go_ret
        exact ⟨rfl, by go_grown⟩
      · have hv : (nv8 vb == 0) = true := by
          have h0 : vb = 0#8 := by
            rcases h with h | h | h | h
            · exact absurd h h1
            · exact absurd h h2
            · exact absurd h h3
            · exact h
          rw [h0]
          rfl
        clear h
        go_enter Try.func6, Try.ntmps6
        go_wp2
        go_ret
        exact ⟨rfl, by go_grown⟩
theorem turned_any (hSi : SealIn 9) (hOy : OpenYes 15) (hOn : OpenNo 15) (key : BitVec 64 × BitVec 64) (n : Nn) (xs ys : List Int) (x y : Option Addr) (nx ny c d : Nat) (at_ : Int) (vb : BitVec 8) (bx : Bytes xs) (by_ : Bytes ys) (hc : nx ≤ c) (hd : ny ≤ d) (xnil : x = none → nx = 0 ∧ c = 0) (ynil : y = none → ny = 0 ∧ d = 0) (w : World) (sx : SAt w x nx xs) (sy : SAt w y ny ys) : Calls Try.prog 6 #[.agg #[.int .u64 (nv key.1), .int .u64 (nv key.2)], .agg #[.int .u32 (nv32 n.1), .int .u32 (nv32 n.2.1), .int .u64 (nv n.2.2)], .slice x nx c, .slice y ny d, .int .i64 at_, .int .u8 (nv8 vb)] w fun e w' => e = .returned (.bool true) ∧ Below w.heap.size w w' := by
  by_cases h : 100 < nx ∨ ny < 1 ∨ 100 < ny ∨ vb = 0#8
  · exact turned_out key n x y nx ny c d at_ vb h w
  · have hvb : vb ≠ 0#8 := fun e => h (Or.inr (Or.inr (Or.inr e)))
    have hm := i64_mask at_ 1 (by decide) 1 (by decide)
    have hm2 : (at_ % ((2 ^ 64 : Nat) : Int)).toNat % 2 ^ 1 < 2 := Nat.mod_lt _ (by decide)
    generalize (at_ % ((2 ^ 64 : Nat) : Int)).toNat % 2 ^ 1 = m2 at *
    obtain rfl | rfl : m2 = 0 ∨ m2 = 1 := by omega
    · exact turned_0 hSi hOy hOn key n xs ys x y nx ny c d at_ vb (by omega) (by omega) (by omega) hvb hm bx by_ hc hd xnil ynil w sx sy
    · exact turned_1 hSi hOy hOn key n xs ys x y nx ny c d at_ vb (by omega) (by omega) (by omega) hvb hm bx by_ hc hd xnil ynil w sx sy
end Go.Proofs.Ytafjhidkhboaiaa
