/- A root, a record, plain; what is asked of the functions that have them as bytes. -/
import Derived.Test.YtnimhlkoikjomaaOfi
import Derived.Test.YtnimhlkoikjomaaNn
import Derived.Test.YtnimhlkoikjomaaNonB
import Derived.Test.YtnimhlkoikjomaaFit
import Derived.Test.YtnimhlkoikjomaaOff
namespace Go.Proofs.Ytnimhlkoikjomaa
open Go.RowKit
set_option maxRecDepth 20000

structure Rt where
  ct : BitVec 64
  ep : BitVec 32
  sl : Int
  h : BitVec 64 × BitVec 64
theorem Rt.ext_iff' (a b : Rt) : a = b ↔ (a.ct = b.ct ∧ a.ep = b.ep ∧ a.sl = b.sl ∧ a.h = b.h) := by
  obtain ⟨a1, a2, a3, a4⟩ := a
  obtain ⟨b1, b2, b3, b4⟩ := b
  simp
instance : DecidableEq Rt := fun a b => decidable_of_iff _ (Rt.ext_iff' a b).symm
abbrev rt0 : Rt := ⟨0#64, 0#32, 0, (0#64, 0#64)⟩
def rtv (r : Rt) : Value := .agg #[.int .u64 (nv r.ct), .int .u32 (nv32 r.ep), .int .i64 r.sl, .int .u64 (nv r.h.1), .int .u64 (nv r.h.2)]
def rtOk (r : Rt) : Prop := r.sl = 4 ∨ r.sl = 8 ∨ r.sl = 16
instance (r : Rt) : Decidable (rtOk r) := by unfold rtOk; exact inferInstance
/-- Its bytes. -/
def rtL (r : Rt) : List Int := putL r.ct.toNat 8 ++ putL r.ep.toNat 4 ++ putL r.sl.toNat 4 ++ pairL r.h
theorem rtL_length (r : Rt) : (rtL r).length = 32 := by simp [rtL, putL_length, pairL_length]
theorem rtL_bytes (r : Rt) : Bytes (rtL r) := (((putL_bytes _ _).append (putL_bytes _ _)).append (putL_bytes _ _)).append (pairL_bytes _)
/-- The root that these bytes would be. -/
def rtGet (xs : List Int) : Rt := ⟨BitVec.ofInt 64 (num (xs.take 8)), BitVec.ofInt 32 (num ((xs.drop 8).take 4)), num ((xs.drop 12).take 4), pairOf (xs.drop 16)⟩
/-- What these bytes are. -/
def rtRes (xs : List Int) : Rt × Bool := if xs.length = 32 ∧ rtOk (rtGet xs) then (rtGet xs, true) else (rt0, false)
theorem rt_cut {B C D E : List Int} (hB : B.length = 8) (hC : C.length = 4) (hD : D.length = 4) :
    (B ++ C ++ D ++ E).take 8 = B ∧ ((B ++ C ++ D ++ E).drop 8).take 4 = C ∧ ((B ++ C ++ D ++ E).drop 12).take 4 = D ∧ (B ++ C ++ D ++ E).drop 16 = E := by
  refine ⟨?_, ?_, ?_, ?_⟩
  · rw [List.append_assoc, List.append_assoc, List.take_left' hB]
  · rw [show B ++ C ++ D ++ E = B ++ (C ++ (D ++ E)) from by simp, List.drop_left' hB, List.take_left' hC]
  · rw [show B ++ C ++ D ++ E = (B ++ C) ++ (D ++ E) from by simp, List.drop_left' (by simp [hB, hC]), List.take_left' hD]
  · rw [List.drop_left' (by simp [hB, hC, hD])]
/-- Get of Put. -/
theorem rtGet_L (r : Rt) (h : rtOk r) : rtGet (rtL r) = r := by
  obtain ⟨c1, c2, c3, c4⟩ := rt_cut (B := putL r.ct.toNat 8) (C := putL r.ep.toNat 4) (D := putL r.sl.toNat 4) (E := pairL r.h) (putL_length _ _) (putL_length _ _) (putL_length _ _)
  rw [Rt.ext_iff']
  refine ⟨?_, ?_, ?_, ?_⟩
  · show BitVec.ofInt 64 (num ((rtL r).take 8)) = r.ct
    rw [rtL, c1]
    exact ofInt64_num (num_put8 _ r.ct.isLt)
  · show BitVec.ofInt 32 (num (((rtL r).drop 8).take 4)) = r.ep
    rw [rtL, c2]
    have := r.ep.isLt
    exact ofInt32_num (by rw [num_putL, Nat.mod_eq_of_lt (by omega)])
  · show num (((rtL r).drop 12).take 4) = r.sl
    rw [rtL, c3, num_putL]
    unfold rtOk at h
    omega
  · show pairOf ((rtL r).drop 16) = r.h
    rw [rtL, c4, pairOf_L]
theorem rtL_Get {xs : List Int} (hb : Bytes xs) (hl : xs.length = 32) : rtL (rtGet xs) = xs := by
  unfold rtL rtGet
  dsimp only
  rw [putL_back64 (hb.take 8) (by rw [List.length_take]; omega), putL_back32 ((hb.drop 8).take 4) (by rw [List.length_take, List.length_drop]; omega), putL_back ((hb.drop 12).take 4) (n := 4) (by rw [List.length_take, List.length_drop]; omega), pairL_back (hb.drop 16) (by rw [List.length_drop]; omega)]
  have e1 : xs.drop 8 = (xs.drop 8).take 4 ++ xs.drop 12 := by
    have := (List.take_append_drop 4 (xs.drop 8)).symm
    rwa [List.drop_drop] at this
  have e2 : xs.drop 12 = (xs.drop 12).take 4 ++ xs.drop 16 := by
    have := (List.take_append_drop 4 (xs.drop 12)).symm
    rwa [List.drop_drop] at this
  rw [List.append_assoc, ← e2, List.append_assoc, ← e1, List.take_append_drop]
theorem rtRes_L (r : Rt) (h : rtOk r) : rtRes (rtL r) = (r, true) := by
  unfold rtRes
  rw [rtGet_L r h, if_pos ⟨rtL_length r, h⟩]
theorem rtRes_no (xs : List Int) (h : xs.length ≠ 32) : rtRes xs = (rt0, false) := by
  unfold rtRes
  rw [if_neg]
  exact fun e => h e.1
theorem rtRes_ok {xs : List Int} (hb : Bytes xs) {r : Rt} (h : rtRes xs = (r, true)) : rtL r = xs ∧ rtOk r := by
  unfold rtRes at h
  split at h
  · rename_i ht
    obtain ⟨rfl, -⟩ := Prod.mk.inj h
    exact ⟨rtL_Get hb ht.1, ht.2⟩
  · cases (Prod.mk.inj h).2
def RtPutYes (fn : Nat) : Prop := ∀ (r : Rt), rtOk r → ∀ w : World, Calls Try.prog fn #[rtv r] w fun e w' => ∃ z c, e = .returned (.tuple #[.slice z 32 c, .bool true]) ∧ SIn (fun k => w.heap.size ≤ k) w' z 32 (rtL r) ∧ Fit z 32 c ∧ Below w.heap.size w w'
def RtPutNo (fn : Nat) : Prop := ∀ (r : Rt), ¬ rtOk r → ∀ w : World, Calls Try.prog fn #[rtv r] w fun e w' => ∃ z c, e = .returned (.tuple #[.slice z 0 c, .bool false]) ∧ Fit z 0 c ∧ Below w.heap.size w w'
def RtGetIn (fn : Nat) : Prop := ∀ (x : Option Addr) (n c : Nat) (xs : List Int), Fit x n c → Bytes xs → ∀ w : World, SAt w x n xs → Calls Try.prog fn #[.slice x n c] w fun e w' => e = .returned (.tuple #[rtv (rtRes xs).1, .bool (rtRes xs).2]) ∧ Below w.heap.size w w'
/-- A record's bytes. -/
def rcL (n : Nn) (ys : List Int) (t : BitVec 64 × BitVec 64) : List Int := putL n.1.toNat 4 ++ putL n.2.2.toNat 8 ++ ys ++ pairL t
theorem rcL_length (n : Nn) (ys : List Int) (t : BitVec 64 × BitVec 64) (h : ys.length = 32) : (rcL n ys t).length = 60 := by simp [rcL, putL_length, pairL_length, h]
theorem rcL_bytes (n : Nn) {ys : List Int} (t : BitVec 64 × BitVec 64) (h : Bytes ys) : Bytes (rcL n ys t) := (((putL_bytes _ _).append (putL_bytes _ _)).append h).append (pairL_bytes _)
/-- The number of a record's bytes; the tag. -/
def rcN (xs : List Int) : Nn := (BitVec.ofInt 32 (num (xs.take 4)), 65535#32, BitVec.ofInt 64 (num ((xs.drop 4).take 8)))
def rcB (xs : List Int) : List Int := (xs.drop 12).take 32
def rcT (xs : List Int) : BitVec 64 × BitVec 64 := pairOf (xs.drop 44)
theorem rc_cut {B C D E : List Int} (hB : B.length = 4) (hC : C.length = 8) (hD : D.length = 32) :
    (B ++ C ++ D ++ E).take 4 = B ∧ ((B ++ C ++ D ++ E).drop 4).take 8 = C ∧ ((B ++ C ++ D ++ E).drop 12).take 32 = D ∧ (B ++ C ++ D ++ E).drop 44 = E := by
  refine ⟨?_, ?_, ?_, ?_⟩
  · rw [List.append_assoc, List.append_assoc, List.take_left' hB]
  · rw [show B ++ C ++ D ++ E = B ++ (C ++ (D ++ E)) from by simp, List.drop_left' hB, List.take_left' hC]
  · rw [show B ++ C ++ D ++ E = (B ++ C) ++ (D ++ E) from by simp, List.drop_left' (by simp [hB, hC]), List.take_left' hD]
  · rw [List.drop_left' (by simp [hB, hC, hD])]
theorem rc_back (n : Nn) {ys : List Int} (t : BitVec 64 × BitVec 64) (hn : nv32 n.2.1 = 65535) (hy : ys.length = 32) : rcN (rcL n ys t) = n ∧ rcB (rcL n ys t) = ys ∧ rcT (rcL n ys t) = t := by
  obtain ⟨e, s, v⟩ := n
  obtain ⟨c1, c2, c3, c4⟩ := rc_cut (B := putL e.toNat 4) (C := putL v.toNat 8) (D := ys) (E := pairL t) (putL_length _ _) (putL_length _ _) hy
  have hs : (65535#32) = s := (nv32_inj (y := s) (by rw [show nv32 s = 65535 from hn]; rfl))
  refine ⟨?_, ?_, ?_⟩
  · unfold rcN rcL
    dsimp only
    rw [c1, c2, hs]
    have := e.isLt
    rw [ofInt32_num (v := e) (by rw [num_putL, Nat.mod_eq_of_lt (by omega)]), ofInt64_num (v := v) (num_put8 _ v.isLt)]
  · unfold rcB rcL
    exact c3
  · unfold rcT rcL
    rw [c4, pairOf_L]
def nnv (n : Nn) : Value := .agg #[.int .u32 (nv32 n.1), .int .u32 (nv32 n.2.1), .int .u64 (nv n.2.2)]
def sev (x : Option Addr) (m c : Nat) (t : BitVec 64 × BitVec 64) : Value := .agg #[.slice x m c, .int .u64 (nv t.1), .int .u64 (nv t.2)]
def RcPutYes (fn : Nat) : Prop := ∀ (n : Nn) (x : Option Addr) (c : Nat) (ys : List Int) (t : BitVec 64 × BitVec 64), nv32 n.2.1 = 65535 → Fit x 32 c → Bytes ys → ∀ w : World, SAt w x 32 ys → Calls Try.prog fn #[nnv n, sev x 32 c t] w fun e w' => ∃ z cz, e = .returned (.tuple #[.slice z 60 cz, .bool true]) ∧ SIn (fun k => w.heap.size ≤ k) w' z 60 (rcL n ys t) ∧ Fit z 60 cz ∧ Below w.heap.size w w'
def RcPutNo (fn : Nat) : Prop := ∀ (n : Nn) (x : Option Addr) (m c : Nat) (t : BitVec 64 × BitVec 64), (m ≠ 32 ∨ nv32 n.2.1 ≠ 65535) → ∀ w : World, Calls Try.prog fn #[nnv n, sev x m c t] w fun e w' => ∃ z cz, e = .returned (.tuple #[.slice z 0 cz, .bool false]) ∧ Fit z 0 cz ∧ Below w.heap.size w w'
def RcGetYes (fn : Nat) : Prop := ∀ (x : Option Addr) (c : Nat) (xs : List Int), Fit x 60 c → Bytes xs → ∀ w : World, SAt w x 60 xs → Calls Try.prog fn #[.slice x 60 c] w fun e w' => ∃ z cz, e = .returned (.tuple #[nnv (rcN xs), sev z 32 cz (rcT xs), .bool true]) ∧ SIn (fun k => w.heap.size ≤ k) w' z 32 (rcB xs) ∧ Fit z 32 cz ∧ Below w.heap.size w w'
def RcGetNo (fn : Nat) : Prop := ∀ (x : Option Addr) (n c : Nat), n ≠ 60 → n ≤ 9223372036854775807 → ∀ w : World, Calls Try.prog fn #[.slice x n c] w fun e w' => ∃ z cz, e = .returned (.tuple #[.agg #[.int .u32 0, .int .u32 0, .int .u64 0], .agg #[.slice z 0 cz, .int .u64 0, .int .u64 0], .bool false]) ∧ Below w.heap.size w w'
end Go.Proofs.Ytnimhlkoikjomaa
