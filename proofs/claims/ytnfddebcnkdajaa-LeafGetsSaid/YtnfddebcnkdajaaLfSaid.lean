/- A leaf, plain; what is asked of the functions that have it as bytes. -/
import Derived.Test.YtnfddebcnkdajaaBWire
import Derived.Test.YtnfddebcnkdajaaOfi
import Derived.Test.YtnfddebcnkdajaaNn
import Derived.Test.YtnfddebcnkdajaaNonB
import Derived.Test.YtnfddebcnkdajaaFit
import Derived.Test.YtnfddebcnkdajaaOff
namespace Go.Proofs.Ytnfddebcnkdajaa
open Go.RowKit
set_option maxRecDepth 20000

structure Lf where
  kind : Int
  dirty : Bool
  lba : Int
  ep : BitVec 32
  sl : BitVec 32
  ve : BitVec 64
  tag : BitVec 64 × BitVec 64
theorem Lf.ext_iff' (a b : Lf) : a = b ↔ (a.kind = b.kind ∧ a.dirty = b.dirty ∧ a.lba = b.lba ∧ a.ep = b.ep ∧ a.sl = b.sl ∧ a.ve = b.ve ∧ a.tag = b.tag) := by
  obtain ⟨a1, a2, a3, a4, a5, a6, a7⟩ := a
  obtain ⟨b1, b2, b3, b4, b5, b6, b7⟩ := b
  simp
instance : DecidableEq Lf := fun a b => decidable_of_iff _ (Lf.ext_iff' a b).symm
abbrev lf0 : Lf := ⟨0, false, 0, 0#32, 0#32, 0#64, (0#64, 0#64)⟩
instance : Inhabited Lf := ⟨lf0⟩
/-- Its cells. -/
def lfC (l : Lf) : List Value := [.int .i64 l.kind, .bool l.dirty, .int .i64 l.lba, .int .u32 (nv32 l.ep), .int .u32 (nv32 l.sl), .int .u64 (nv l.ve), .int .u64 (nv l.tag.1), .int .u64 (nv l.tag.2)]
def lfv (l : Lf) : Value := .agg #[.int .i64 l.kind, .bool l.dirty, .int .i64 l.lba, .int .u32 (nv32 l.ep), .int .u32 (nv32 l.sl), .int .u64 (nv l.ve), .int .u64 (nv l.tag.1), .int .u64 (nv l.tag.2)]
/-- A leaf of noughts. -/
abbrev lfZ (lba : Int) : Lf := ⟨2, true, lba, 0#32, 0#32, 0#64, (0#64, 0#64)⟩
/-- It may be. -/
def lfOk (l : Lf) (slot : Int) : Prop := (0 ≤ slot ∧ slot < 16) ∧ (l = lf0 ∨ ((0 ≤ l.lba ∧ l.lba < 32) ∧ (l = lfZ l.lba ∨ (l.kind = 1 ∧ nv32 l.sl = slot ∧ l.ep ≠ 0#32))))
instance (l : Lf) (slot : Int) : Decidable (lfOk l slot) := by unfold lfOk; exact inferInstance
def lfIs (l : Lf) (slot : Int) : Bool := decide (lfOk l slot)
/-- Its bytes. -/
def lfL (l : Lf) : List Int := [l.kind % 256, if l.dirty = true then 1 else 0] ++ putL l.lba.toNat 2 ++ putL l.ep.toNat 4 ++ putL l.ve.toNat 8 ++ pairL l.tag
theorem lfL_length (l : Lf) : (lfL l).length = 32 := by simp [lfL, putL_length, pairL_length]
theorem lfL_bytes (l : Lf) : Bytes (lfL l) := by
  unfold lfL
  refine ((((?_ : Bytes _).append (putL_bytes _ _)).append (putL_bytes _ _)).append (putL_bytes _ _)).append (pairL_bytes _)
  intro x hx
  simp only [List.mem_cons, List.not_mem_nil, or_false] at hx
  rcases hx with rfl | rfl
  · omega
  · split <;> omega
/-- The leaf that these bytes would be. -/
def lfGet (xs : List Int) (slot : Int) : Lf :=
  ⟨xs.getD 0 0, decide (xs.getD 1 0 = 1), num ((xs.drop 2).take 2), BitVec.ofInt 32 (num ((xs.drop 4).take 4)), if xs.getD 0 0 = 1 then BitVec.ofInt 32 slot else 0#32, BitVec.ofInt 64 (num ((xs.drop 8).take 8)), pairOf (xs.drop 16)⟩
def lfTaken (xs : List Int) (slot : Int) : Bool := decide (xs.length = 32 ∧ lfOk (lfGet xs slot) slot ∧ lfL (lfGet xs slot) = xs)
/-- What these bytes are. -/
def lfRes (xs : List Int) (slot : Int) : Lf × Bool := if lfTaken xs slot = true then (lfGet xs slot, true) else (lf0, false)
theorem lf_cut {A B C D E : List Int} (hA : A.length = 2) (hB : B.length = 2) (hC : C.length = 4) (hD : D.length = 8) :
    ((A ++ B ++ C ++ D ++ E).drop 2).take 2 = B ∧ ((A ++ B ++ C ++ D ++ E).drop 4).take 4 = C ∧ ((A ++ B ++ C ++ D ++ E).drop 8).take 8 = D ∧ (A ++ B ++ C ++ D ++ E).drop 16 = E := by
  refine ⟨?_, ?_, ?_, ?_⟩
  · rw [List.append_assoc, List.append_assoc, List.append_assoc, List.drop_left' hA, List.take_left' hB]
  · rw [show A ++ B ++ C ++ D ++ E = (A ++ B) ++ (C ++ (D ++ E)) from by simp, List.drop_left' (by simp [hA, hB]), List.take_left' hC]
  · rw [show A ++ B ++ C ++ D ++ E = (A ++ B ++ C) ++ (D ++ E) from by simp, List.drop_left' (by simp [hA, hB, hC]), List.take_left' hD]
  · rw [List.drop_left' (by simp [hA, hB, hC, hD])]
/-- Get of Put. -/
theorem lfGet_L (l : Lf) (slot : Int) (h : lfOk l slot) : lfGet (lfL l) slot = l := by
  have hk : l.kind % 256 = l.kind ∧ (l.kind = 1 → BitVec.ofInt 32 slot = l.sl) ∧ (l.kind ≠ 1 → l.sl = 0#32) ∧ 0 ≤ l.lba ∧ l.lba < 32 := by
    obtain ⟨⟨h1, h2⟩, h3 | ⟨⟨h3, h4⟩, h5 | ⟨h5, h6, h7⟩⟩⟩ := h
    · rw [h3]
      exact ⟨rfl, fun e => absurd (show (0 : Int) = 1 from e) (by decide), fun _ => rfl, Int.le_refl 0, show (0 : Int) < 32 by decide⟩
    · rw [h5]
      exact ⟨rfl, fun e => absurd (show (2 : Int) = 1 from e) (by decide), fun _ => rfl, h3, h4⟩
    · refine ⟨by rw [h5]; rfl, fun _ => ?_, fun e => absurd h5 e, h3, h4⟩
      apply BitVec.eq_of_toNat_eq
      have := l.sl.isLt
      rw [← h6, BitVec.toNat_ofInt]
      unfold nv32
      omega
  obtain ⟨h1, h2, h3, h4, h5⟩ := hk
  obtain ⟨c1, c2, c3, c4⟩ := lf_cut (A := [l.kind % 256, if l.dirty = true then 1 else 0]) (B := putL l.lba.toNat 2) (C := putL l.ep.toNat 4) (D := putL l.ve.toNat 8) (E := pairL l.tag) rfl (putL_length _ _) (putL_length _ _) (putL_length _ _)
  have e0 : (lfL l).getD 0 0 = l.kind := by
    show l.kind % 256 = _
    exact h1
  have e1 : (lfL l).getD 1 0 = if l.dirty = true then 1 else 0 := rfl
  rw [Lf.ext_iff']
  refine ⟨e0, ?_, ?_, ?_, ?_, ?_, ?_⟩
  · show decide ((lfL l).getD 1 0 = 1) = l.dirty
    rw [e1]
    cases l.dirty <;> simp
  · show num (((lfL l).drop 2).take 2) = l.lba
    rw [lfL, c1, num_putL]
    omega
  · show BitVec.ofInt 32 (num (((lfL l).drop 4).take 4)) = l.ep
    rw [lfL, c2]
    have := l.ep.isLt
    exact ofInt32_num (by rw [num_putL, Nat.mod_eq_of_lt (by omega)])
  · show (if (lfL l).getD 0 0 = 1 then BitVec.ofInt 32 slot else 0#32) = l.sl
    rw [e0]
    by_cases e : l.kind = 1
    · rw [if_pos e, h2 e]
    · rw [if_neg e, h3 e]
  · show BitVec.ofInt 64 (num (((lfL l).drop 8).take 8)) = l.ve
    rw [lfL, c3]
    exact ofInt64_num (num_put8 _ l.ve.isLt)
  · show pairOf ((lfL l).drop 16) = l.tag
    rw [lfL, c4, pairOf_L]
theorem lfRes_L (l : Lf) (slot : Int) (h : lfOk l slot) : lfRes (lfL l) slot = (l, true) := by
  unfold lfRes
  rw [if_pos (by unfold lfTaken; rw [decide_eq_true_eq, lfGet_L l slot h]; exact ⟨lfL_length l, h, rfl⟩), lfGet_L l slot h]
theorem lfRes_no (xs : List Int) (slot : Int) (h : xs.length ≠ 32) : lfRes xs slot = (lf0, false) := by
  unfold lfRes
  rw [if_neg]
  unfold lfTaken
  rw [decide_eq_true_eq]
  exact fun e => h e.1
theorem lfRes_ok {xs : List Int} {slot : Int} {l : Lf} (h : lfRes xs slot = (l, true)) : lfL l = xs ∧ lfOk l slot := by
  unfold lfRes at h
  split at h
  · rename_i ht
    unfold lfTaken at ht
    rw [decide_eq_true_eq] at ht
    obtain ⟨rfl, -⟩ := Prod.mk.inj h
    exact ⟨ht.2.2, ht.2.1⟩
  · cases (Prod.mk.inj h).2
/-- Is, as function fn has it. -/
def LfIsIn (fn : Nat) : Prop := ∀ (l : Lf) (slot : Int) (w : World), Calls Try.prog fn #[lfv l, .int .i64 slot] w fun e w' => e = .returned (.bool (lfIs l slot)) ∧ Below w.heap.size w w'
def LfPutYes (fn : Nat) : Prop := ∀ (l : Lf) (slot : Int), lfOk l slot → ∀ w : World, Calls Try.prog fn #[lfv l, .int .i64 slot] w fun e w' => ∃ z c, e = .returned (.tuple #[.slice z 32 c, .bool true]) ∧ SIn (fun k => w.heap.size ≤ k) w' z 32 (lfL l) ∧ Fit z 32 c ∧ Below w.heap.size w w'
def LfPutNo (fn : Nat) : Prop := ∀ (l : Lf) (slot : Int), ¬ lfOk l slot → ∀ w : World, Calls Try.prog fn #[lfv l, .int .i64 slot] w fun e w' => ∃ z c, e = .returned (.tuple #[.slice z 0 c, .bool false]) ∧ Fit z 0 c ∧ Below w.heap.size w w'
def LfGetIn (fn : Nat) : Prop := ∀ (x : Option Addr) (n c : Nat) (xs : List Int) (slot : Int), Fit x n c → Bytes xs → ∀ w : World, SAt w x n xs → Calls Try.prog fn #[.slice x n c, .int .i64 slot] w fun e w' => e = .returned (.tuple #[lfv (lfRes xs slot).1, .bool (lfRes xs slot).2]) ∧ Below w.heap.size w w'
end Go.Proofs.Ytnfddebcnkdajaa
