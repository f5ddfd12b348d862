/- What each kind may have. -/
import Derived.Test.YtnfddebcnkdajaaLfPuts
namespace Go.Proofs.Ytnfddebcnkdajaa
open Go.RowKit
set_option maxRecDepth 20000

def kdL (S S1 : BitVec 32) : List Lf := [⟨0, false, 0, 0#32, 0#32, 0#64, (0#64, 0#64)⟩, ⟨2, true, 31, 0#32, 0#32, 0#64, (0#64, 0#64)⟩, ⟨1, false, 31, 1#32, S, 9#64, (0#64, 0#64)⟩, ⟨1, true, 0, 1#32, S, 9#64, (1#64, 2#64)⟩, ⟨0, true, 0, 0#32, 0#32, 0#64, (0#64, 0#64)⟩, ⟨0, false, 1, 0#32, 0#32, 0#64, (0#64, 0#64)⟩, ⟨2, false, 3, 0#32, 0#32, 0#64, (0#64, 0#64)⟩, ⟨2, true, 32, 0#32, 0#32, 0#64, (0#64, 0#64)⟩, ⟨2, true, 0, 0#32, 0#32, 0#64, (1#64, 0#64)⟩, ⟨1, false, (-1), 1#32, S, 9#64, (0#64, 0#64)⟩, ⟨1, false, 0, 1#32, S1, 0#64, (0#64, 0#64)⟩, ⟨1, false, 0, 0#32, S, 0#64, (0#64, 0#64)⟩, ⟨3, false, 0, 1#32, S, 9#64, (0#64, 0#64)⟩]
def kdC (s s1 : Int) : Array Value := #[.int .i64 0, .bool false, .int .i64 0, .int .u32 0, .int .u32 0, .int .u64 0, .int .u64 0, .int .u64 0, .int .i64 2, .bool true, .int .i64 31, .int .u32 0, .int .u32 0, .int .u64 0, .int .u64 0, .int .u64 0, .int .i64 1, .bool false, .int .i64 31, .int .u32 1, .int .u32 s, .int .u64 9, .int .u64 0, .int .u64 0, .int .i64 1, .bool true, .int .i64 0, .int .u32 1, .int .u32 s, .int .u64 9, .int .u64 1, .int .u64 2, .int .i64 0, .bool true, .int .i64 0, .int .u32 0, .int .u32 0, .int .u64 0, .int .u64 0, .int .u64 0, .int .i64 0, .bool false, .int .i64 1, .int .u32 0, .int .u32 0, .int .u64 0, .int .u64 0, .int .u64 0, .int .i64 2, .bool false, .int .i64 3, .int .u32 0, .int .u32 0, .int .u64 0, .int .u64 0, .int .u64 0, .int .i64 2, .bool true, .int .i64 32, .int .u32 0, .int .u32 0, .int .u64 0, .int .u64 0, .int .u64 0, .int .i64 2, .bool true, .int .i64 0, .int .u32 0, .int .u32 0, .int .u64 0, .int .u64 1, .int .u64 0, .int .i64 1, .bool false, .int .i64 (-1), .int .u32 1, .int .u32 s, .int .u64 9, .int .u64 0, .int .u64 0, .int .i64 1, .bool false, .int .i64 0, .int .u32 1, .int .u32 s1, .int .u64 0, .int .u64 0, .int .u64 0, .int .i64 1, .bool false, .int .i64 0, .int .u32 0, .int .u32 s, .int .u64 0, .int .u64 0, .int .u64 0, .int .i64 3, .bool false, .int .i64 0, .int .u32 1, .int .u32 s, .int .u64 9, .int .u64 0, .int .u64 0]
theorem kd_at (S S1 : BitVec 32) : ∀ i, i < 13 → ∀ j, j < 8 → (kdC (nv32 S) (nv32 S1))[i * 8 + j]? = (lfC ((kdL S S1).getD i lf0))[j]? := by
  intro i hi j hj
  match i, hi with
  | 0, _ => match j, hj with
    | 0, _ => rfl
    | 1, _ => rfl
    | 2, _ => rfl
    | 3, _ => rfl
    | 4, _ => rfl
    | 5, _ => rfl
    | 6, _ => rfl
    | 7, _ => rfl
  | 1, _ => match j, hj with
    | 0, _ => rfl
    | 1, _ => rfl
    | 2, _ => rfl
    | 3, _ => rfl
    | 4, _ => rfl
    | 5, _ => rfl
    | 6, _ => rfl
    | 7, _ => rfl
  | 2, _ => match j, hj with
    | 0, _ => rfl
    | 1, _ => rfl
    | 2, _ => rfl
    | 3, _ => rfl
    | 4, _ => rfl
    | 5, _ => rfl
    | 6, _ => rfl
    | 7, _ => rfl
  | 3, _ => match j, hj with
    | 0, _ => rfl
    | 1, _ => rfl
    | 2, _ => rfl
    | 3, _ => rfl
    | 4, _ => rfl
    | 5, _ => rfl
    | 6, _ => rfl
    | 7, _ => rfl
  | 4, _ => match j, hj with
    | 0, _ => rfl
    | 1, _ => rfl
    | 2, _ => rfl
    | 3, _ => rfl
    | 4, _ => rfl
    | 5, _ => rfl
    | 6, _ => rfl
    | 7, _ => rfl
  | 5, _ => match j, hj with
    | 0, _ => rfl
    | 1, _ => rfl
    | 2, _ => rfl
    | 3, _ => rfl
    | 4, _ => rfl
    | 5, _ => rfl
    | 6, _ => rfl
    | 7, _ => rfl
  | 6, _ => match j, hj with
    | 0, _ => rfl
    | 1, _ => rfl
    | 2, _ => rfl
    | 3, _ => rfl
    | 4, _ => rfl
    | 5, _ => rfl
    | 6, _ => rfl
    | 7, _ => rfl
  | 7, _ => match j, hj with
    | 0, _ => rfl
    | 1, _ => rfl
    | 2, _ => rfl
    | 3, _ => rfl
    | 4, _ => rfl
    | 5, _ => rfl
    | 6, _ => rfl
    | 7, _ => rfl
  | 8, _ => match j, hj with
    | 0, _ => rfl
    | 1, _ => rfl
    | 2, _ => rfl
    | 3, _ => rfl
    | 4, _ => rfl
    | 5, _ => rfl
    | 6, _ => rfl
    | 7, _ => rfl
  | 9, _ => match j, hj with
    | 0, _ => rfl
    | 1, _ => rfl
    | 2, _ => rfl
    | 3, _ => rfl
    | 4, _ => rfl
    | 5, _ => rfl
    | 6, _ => rfl
    | 7, _ => rfl
  | 10, _ => match j, hj with
    | 0, _ => rfl
    | 1, _ => rfl
    | 2, _ => rfl
    | 3, _ => rfl
    | 4, _ => rfl
    | 5, _ => rfl
    | 6, _ => rfl
    | 7, _ => rfl
  | 11, _ => match j, hj with
    | 0, _ => rfl
    | 1, _ => rfl
    | 2, _ => rfl
    | 3, _ => rfl
    | 4, _ => rfl
    | 5, _ => rfl
    | 6, _ => rfl
    | 7, _ => rfl
  | 12, _ => match j, hj with
    | 0, _ => rfl
    | 1, _ => rfl
    | 2, _ => rfl
    | 3, _ => rfl
    | 4, _ => rfl
    | 5, _ => rfl
    | 6, _ => rfl
    | 7, _ => rfl
theorem kd_ok (S S1 : BitVec 32) (s : Nat) (hs : s < 16) (h : nv32 S = (s : Int)) (h1 : nv32 S1 = (s : Int) + 1) : ∀ i, i < 13 → (lfOk ((kdL S S1).getD i lf0) (s : Int) ↔ i < 4) := by
  have hss : 0 ≤ (s : Int) ∧ (s : Int) < 16 := by omega
  have h9 : (0#64 : BitVec 64) ≠ 9#64 := by decide
  intro i hi
  match i, hi with
  | 0, _ => exact ⟨fun _ => by decide, fun _ => ⟨hss, Or.inl rfl⟩⟩
  | 1, _ => exact ⟨fun _ => by decide, fun _ => ⟨hss, Or.inr ⟨show (0 : Int) ≤ 31 ∧ (31 : Int) < 32 by decide, Or.inl rfl⟩⟩⟩
  | 2, _ => exact ⟨fun _ => by decide, fun _ => ⟨hss, Or.inr ⟨show (0 : Int) ≤ 31 ∧ (31 : Int) < 32 by decide, Or.inr ⟨rfl, h, show (1#32 : BitVec 32) ≠ 0#32 by decide⟩⟩⟩⟩
  | 3, _ => exact ⟨fun _ => by decide, fun _ => ⟨hss, Or.inr ⟨show (0 : Int) ≤ 0 ∧ (0 : Int) < 32 by decide, Or.inr ⟨rfl, h, show (1#32 : BitVec 32) ≠ 0#32 by decide⟩⟩⟩⟩
  | 4, _ =>
    refine ⟨fun h2 => ?_, fun e => absurd e (by decide)⟩
    exfalso
    obtain ⟨-, h3 | ⟨h3, h4 | ⟨h4, h5, h6⟩⟩⟩ := h2
    · have e := (Lf.ext_iff' _ _).1 h3
      revert e
      exact fun e => absurd (show (true : Bool) = false from e.2.1) (by decide)
    · have e := (Lf.ext_iff' _ _).1 h4
      revert e
      exact fun e => absurd (show (0 : Int) = 2 from e.1) (by decide)
    · exact absurd (show (0 : Int) = 1 from h4) (by decide)
  | 5, _ =>
    refine ⟨fun h2 => ?_, fun e => absurd e (by decide)⟩
    exfalso
    obtain ⟨-, h3 | ⟨h3, h4 | ⟨h4, h5, h6⟩⟩⟩ := h2
    · have e := (Lf.ext_iff' _ _).1 h3
      revert e
      exact fun e => absurd (show (1 : Int) = 0 from e.2.2.1) (by decide)
    · have e := (Lf.ext_iff' _ _).1 h4
      revert e
      exact fun e => absurd (show (0 : Int) = 2 from e.1) (by decide)
    · exact absurd (show (0 : Int) = 1 from h4) (by decide)
  | 6, _ =>
    refine ⟨fun h2 => ?_, fun e => absurd e (by decide)⟩
    exfalso
    obtain ⟨-, h3 | ⟨h3, h4 | ⟨h4, h5, h6⟩⟩⟩ := h2
    · have e := (Lf.ext_iff' _ _).1 h3
      revert e
      exact fun e => absurd (show (2 : Int) = 0 from e.1) (by decide)
    · have e := (Lf.ext_iff' _ _).1 h4
      revert e
      exact fun e => absurd (show (false : Bool) = true from e.2.1) (by decide)
    · exact absurd (show (2 : Int) = 1 from h4) (by decide)
  | 7, _ =>
    refine ⟨fun h2 => ?_, fun e => absurd e (by decide)⟩
    exfalso
    obtain ⟨-, h3 | ⟨h3, h4 | ⟨h4, h5, h6⟩⟩⟩ := h2
    · have e := (Lf.ext_iff' _ _).1 h3
      revert e
      exact fun e => absurd (show (2 : Int) = 0 from e.1) (by decide)
    · have e := (Lf.ext_iff' _ _).1 h4
      revert e
      exact absurd (show (32 : Int) < 32 from h3.2) (by decide)
    · exact absurd (show (2 : Int) = 1 from h4) (by decide)
  | 8, _ =>
    refine ⟨fun h2 => ?_, fun e => absurd e (by decide)⟩
    exfalso
    obtain ⟨-, h3 | ⟨h3, h4 | ⟨h4, h5, h6⟩⟩⟩ := h2
    · have e := (Lf.ext_iff' _ _).1 h3
      revert e
      exact fun e => absurd (show (2 : Int) = 0 from e.1) (by decide)
    · have e := (Lf.ext_iff' _ _).1 h4
      revert e
      exact fun e => absurd (show ((1#64, 0#64) : BitVec 64 × BitVec 64) = (0#64, 0#64) from e.2.2.2.2.2.2) (by decide)
    · exact absurd (show (2 : Int) = 1 from h4) (by decide)
  | 9, _ =>
    refine ⟨fun h2 => ?_, fun e => absurd e (by decide)⟩
    exfalso
    obtain ⟨-, h3 | ⟨h3, h4 | ⟨h4, h5, h6⟩⟩⟩ := h2
    · have e := (Lf.ext_iff' _ _).1 h3
      revert e
      exact fun e => absurd (show (1 : Int) = 0 from e.1) (by decide)
    · have e := (Lf.ext_iff' _ _).1 h4
      revert e
      exact fun e => absurd (show (1 : Int) = 2 from e.1) (by decide)
    · exact absurd (show (0 : Int) ≤ -1 from h3.1) (by decide)
  | 10, _ =>
    refine ⟨fun h2 => ?_, fun e => absurd e (by decide)⟩
    exfalso
    obtain ⟨-, h3 | ⟨h3, h4 | ⟨h4, h5, h6⟩⟩⟩ := h2
    · have e := (Lf.ext_iff' _ _).1 h3
      revert e
      exact fun e => absurd (show (1 : Int) = 0 from e.1) (by decide)
    · have e := (Lf.ext_iff' _ _).1 h4
      revert e
      exact fun e => absurd (show (1 : Int) = 2 from e.1) (by decide)
    · have e : nv32 S1 = (s : Int) := h5
      omega
  | 11, _ =>
    refine ⟨fun h2 => ?_, fun e => absurd e (by decide)⟩
    exfalso
    obtain ⟨-, h3 | ⟨h3, h4 | ⟨h4, h5, h6⟩⟩⟩ := h2
    · have e := (Lf.ext_iff' _ _).1 h3
      revert e
      exact fun e => absurd (show (1 : Int) = 0 from e.1) (by decide)
    · have e := (Lf.ext_iff' _ _).1 h4
      revert e
      exact fun e => absurd (show (1 : Int) = 2 from e.1) (by decide)
    · exact h6 rfl
  | 12, _ =>
    refine ⟨fun h2 => ?_, fun e => absurd e (by decide)⟩
    exfalso
    obtain ⟨-, h3 | ⟨h3, h4 | ⟨h4, h5, h6⟩⟩⟩ := h2
    · have e := (Lf.ext_iff' _ _).1 h3
      revert e
      exact fun e => absurd (show (3 : Int) = 0 from e.1) (by decide)
    · have e := (Lf.ext_iff' _ _).1 h4
      revert e
      exact fun e => absurd (show (3 : Int) = 2 from e.1) (by decide)
    · exact absurd (show (3 : Int) = 1 from h4) (by decide)
set_option maxHeartbeats 4000000 in
theorem lfkinds (hO : LfAll) (way slot : Int) (w : World) : Calls Try.prog 6 #[.int .i64 way, .int .i64 slot] w fun e w' => e = .returned (.bool true) ∧ Below w.heap.size w w' := by
  have hkn := lfknown hO
  by_cases h0 : slot < 0
  · go_enter Try.func6, Try.ntmps6
    go_wp2
    go_ret
    exact ⟨rfl, Below.refl _ _⟩
  by_cases h15 : slot > 15
  · go_enter Try.func6, Try.ntmps6
    go_wp2
    go_ret
    exact ⟨rfl, Below.refl _ _⟩
  obtain ⟨s, rfl⟩ : ∃ s : Nat, slot = s := ⟨slot.toNat, by omega⟩
  have hs : s < 16 := by omega
  have hN : Below w.heap.size w (w.alloc (.cells #[.int .u32 1, .int .u32 (s : Int), .int .u64 9] 25)) := (Below.refl _ _).alloc (Nat.le_refl _) _
  have hB1 : Below w.heap.size w ((w.alloc (.cells #[.int .u32 1, .int .u32 (s : Int), .int .u64 9] 25)).alloc (.cells #[.int .i64 0, .bool false, .int .i64 0, .int .u32 0, .int .u32 0, .int .u64 0, .int .u64 0, .int .u64 0, .int .i64 2, .bool true, .int .i64 31, .int .u32 0, .int .u32 0, .int .u64 0, .int .u64 0, .int .u64 0, .int .i64 1, .bool false, .int .i64 31, .int .u32 1, .int .u32 (s : Int), .int .u64 9, .int .u64 0, .int .u64 0, .int .i64 1, .bool true, .int .i64 0, .int .u32 1, .int .u32 (s : Int), .int .u64 9, .int .u64 1, .int .u64 2, .int .i64 0, .bool true, .int .i64 0, .int .u32 0, .int .u32 0, .int .u64 0, .int .u64 0, .int .u64 0, .int .i64 0, .bool false, .int .i64 1, .int .u32 0, .int .u32 0, .int .u64 0, .int .u64 0, .int .u64 0, .int .i64 2, .bool false, .int .i64 3, .int .u32 0, .int .u32 0, .int .u64 0, .int .u64 0, .int .u64 0, .int .i64 2, .bool true, .int .i64 32, .int .u32 0, .int .u32 0, .int .u64 0, .int .u64 0, .int .u64 0, .int .i64 2, .bool true, .int .i64 0, .int .u32 0, .int .u32 0, .int .u64 0, .int .u64 1, .int .u64 0, .int .i64 1, .bool false, .int .i64 (-1), .int .u32 1, .int .u32 (s : Int), .int .u64 9, .int .u64 0, .int .u64 0, .int .i64 1, .bool false, .int .i64 0, .int .u32 1, .int .u32 ((s : Int) + 1), .int .u64 0, .int .u64 0, .int .u64 0, .int .i64 1, .bool false, .int .i64 0, .int .u32 0, .int .u32 (s : Int), .int .u64 0, .int .u64 0, .int .u64 0, .int .i64 3, .bool false, .int .i64 0, .int .u32 1, .int .u32 (s : Int), .int .u64 9, .int .u64 0, .int .u64 0] 29)) := hN.alloc hN.size _
  have bk : CBox 29 ((w.alloc (.cells #[.int .u32 1, .int .u32 (s : Int), .int .u64 9] 25)).alloc (.cells #[.int .i64 0, .bool false, .int .i64 0, .int .u32 0, .int .u32 0, .int .u64 0, .int .u64 0, .int .u64 0, .int .i64 2, .bool true, .int .i64 31, .int .u32 0, .int .u32 0, .int .u64 0, .int .u64 0, .int .u64 0, .int .i64 1, .bool false, .int .i64 31, .int .u32 1, .int .u32 (s : Int), .int .u64 9, .int .u64 0, .int .u64 0, .int .i64 1, .bool true, .int .i64 0, .int .u32 1, .int .u32 (s : Int), .int .u64 9, .int .u64 1, .int .u64 2, .int .i64 0, .bool true, .int .i64 0, .int .u32 0, .int .u32 0, .int .u64 0, .int .u64 0, .int .u64 0, .int .i64 0, .bool false, .int .i64 1, .int .u32 0, .int .u32 0, .int .u64 0, .int .u64 0, .int .u64 0, .int .i64 2, .bool false, .int .i64 3, .int .u32 0, .int .u32 0, .int .u64 0, .int .u64 0, .int .u64 0, .int .i64 2, .bool true, .int .i64 32, .int .u32 0, .int .u32 0, .int .u64 0, .int .u64 0, .int .u64 0, .int .i64 2, .bool true, .int .i64 0, .int .u32 0, .int .u32 0, .int .u64 0, .int .u64 1, .int .u64 0, .int .i64 1, .bool false, .int .i64 (-1), .int .u32 1, .int .u32 (s : Int), .int .u64 9, .int .u64 0, .int .u64 0, .int .i64 1, .bool false, .int .i64 0, .int .u32 1, .int .u32 ((s : Int) + 1), .int .u64 0, .int .u64 0, .int .u64 0, .int .i64 1, .bool false, .int .i64 0, .int .u32 0, .int .u32 (s : Int), .int .u64 0, .int .u64 0, .int .u64 0, .int .i64 3, .bool false, .int .i64 0, .int .u32 1, .int .u32 (s : Int), .int .u64 9, .int .u64 0, .int .u64 0] 29)) (w.alloc (.cells #[.int .u32 1, .int .u32 (s : Int), .int .u64 9] 25)).heap.size (kdC (s : Int) ((s : Int) + 1)) := CBox.new _ _ _
  rw [World.size_alloc] at bk
  by_cases hw0 : way < 0
  · go_enter Try.func6, Try.ntmps6
    go_wp2
    go_ret
    exact ⟨rfl, hB1⟩
  by_cases hw1 : way ≥ 13
  · go_enter Try.func6, Try.ntmps6
    go_wp2
    go_ret
    exact ⟨rfl, hB1⟩
  obtain ⟨W, rfl⟩ : ∃ W : Nat, way = W := ⟨way.toNat, by omega⟩
  have hW : W < 13 := by omega
  obtain ⟨S, hS⟩ : ∃ S : BitVec 32, nv32 S = (s : Int) := ⟨BitVec.ofInt 32 s, nv32_of _ (by omega) (by omega)⟩
  obtain ⟨S1, hS1⟩ : ∃ S1 : BitVec 32, nv32 S1 = (s : Int) + 1 := ⟨BitVec.ofInt 32 (s + 1), nv32_of _ (by omega) (by omega)⟩
  have hok := kd_ok S S1 s hs hS hS1 W hW
  have ha := kd_at S S1 W hW
  rw [hS, hS1] at ha
  obtain ⟨ml, hml⟩ : ∃ ml, (kdL S S1).getD W lf0 = ml := ⟨_, rfl⟩
  rw [hml] at hok ha
  clear hml hS hS1
  obtain ⟨kl, dl, lbl, epl, sll, vel, tal, tbl⟩ := ml
  have hWi : (W : Int) < 13 := by omega
  have c0_ := (CBox.cell bk (W * 8)).trans (show _ = some (.int .i64 kl) from ha 0 (by decide))
  have c1_ := (CBox.cell bk (W * 8 + 1)).trans (show _ = some (.bool dl) from ha 1 (by decide))
  have c2_ := (CBox.cell bk (W * 8 + 2)).trans (show _ = some (.int .i64 lbl) from ha 2 (by decide))
  have c3_ := (CBox.cell bk (W * 8 + 3)).trans (show _ = some (.int .u32 (nv32 epl)) from ha 3 (by decide))
  have c4_ := (CBox.cell bk (W * 8 + 4)).trans (show _ = some (.int .u32 (nv32 sll)) from ha 4 (by decide))
  have c5_ := (CBox.cell bk (W * 8 + 5)).trans (show _ = some (.int .u64 (nv vel)) from ha 5 (by decide))
  have c6_ := (CBox.cell bk (W * 8 + 6)).trans (show _ = some (.int .u64 (nv tal)) from ha 6 (by decide))
  have c7_ := (CBox.cell bk (W * 8 + 7)).trans (show _ = some (.int .u64 (nv tbl)) from ha 7 (by decide))
  by_cases hw4 : W < 4
  · have hw4' : (W : Int) < 4 := by omega
    have ho := hok.2 hw4
    clear hok
    have p1 := hO.putYes _ _ ho
    have p3 := hO.is_ ⟨kl, dl, lbl, epl, sll, vel, tal, tbl⟩ (s : Int)
    rw [show lfIs ⟨kl, dl, lbl, epl, sll, vel, tal, tbl⟩ (s : Int) = true from decide_eq_true ho] at p3
    clear ho
    unfold lfv at p1 p3
    dsimp only at p1 p3
    go_enter Try.func6, Try.ntmps6
    go_wp2_with fail
    refine (p1 _).mono ?_
    clear p1 c0_ c1_ c2_ c3_ c4_ c5_ c6_ c7_
    rintro e w2 ⟨z, c, rfl, sz, fz, hb⟩
    have hB2 := hB1.trans (hb.mono hB1.size)
    replace bk := CBox.grown bk hb
    have c0_ := (CBox.cell bk (W * 8)).trans (show _ = some (.int .i64 kl) from ha 0 (by decide))
    have c1_ := (CBox.cell bk (W * 8 + 1)).trans (show _ = some (.bool dl) from ha 1 (by decide))
    have c2_ := (CBox.cell bk (W * 8 + 2)).trans (show _ = some (.int .i64 lbl) from ha 2 (by decide))
    have c3_ := (CBox.cell bk (W * 8 + 3)).trans (show _ = some (.int .u32 (nv32 epl)) from ha 3 (by decide))
    have c4_ := (CBox.cell bk (W * 8 + 4)).trans (show _ = some (.int .u32 (nv32 sll)) from ha 4 (by decide))
    have c5_ := (CBox.cell bk (W * 8 + 5)).trans (show _ = some (.int .u64 (nv vel)) from ha 5 (by decide))
    have c6_ := (CBox.cell bk (W * 8 + 6)).trans (show _ = some (.int .u64 (nv tal)) from ha 6 (by decide))
    have c7_ := (CBox.cell bk (W * 8 + 7)).trans (show _ = some (.int .u64 (nv tbl)) from ha 7 (by decide))
    go_wp2_with fail
    refine (p3 _).mono ?_
    rintro e w3 ⟨rfl, hb⟩
    have hB3 := hB2.trans (hb.mono hB2.size)
    go_wp2_with fail
    refine (hkn _).mono ?_
    rintro e w6 ⟨rfl, hb6⟩
    have hB6 := hB3.trans (hb6.mono hB3.size)
    go_wp2
    go_ret
    first | exact ⟨rfl, hB6⟩ | exact ⟨congrArg (fun b => Ending.returned (Value.bool b)) (show (!decide ((W : Int) < 4)) = true by rw [decide_eq_false (by omega)]; rfl), hB6⟩
  · have hw4' : ¬ (W : Int) < 4 := by omega
    have ho : ¬ lfOk _ _ := fun e => hw4 (hok.1 e)
    clear hok
    have p1 := hO.putNo _ _ ho
    have p3 := hO.is_ ⟨kl, dl, lbl, epl, sll, vel, tal, tbl⟩ (s : Int)
    rw [show lfIs ⟨kl, dl, lbl, epl, sll, vel, tal, tbl⟩ (s : Int) = false from decide_eq_false ho] at p3
    clear ho
    unfold lfv at p1 p3
    dsimp only at p1 p3
    go_enter Try.func6, Try.ntmps6
    go_wp2_with fail
    refine (p1 _).mono ?_
    clear p1 c0_ c1_ c2_ c3_ c4_ c5_ c6_ c7_
    rintro e w2 ⟨z, c, rfl, fz, hb⟩
    have hB2 := hB1.trans (hb.mono hB1.size)
    replace bk := CBox.grown bk hb
    have c0_ := (CBox.cell bk (W * 8)).trans (show _ = some (.int .i64 kl) from ha 0 (by decide))
    have c1_ := (CBox.cell bk (W * 8 + 1)).trans (show _ = some (.bool dl) from ha 1 (by decide))
    have c2_ := (CBox.cell bk (W * 8 + 2)).trans (show _ = some (.int .i64 lbl) from ha 2 (by decide))
    have c3_ := (CBox.cell bk (W * 8 + 3)).trans (show _ = some (.int .u32 (nv32 epl)) from ha 3 (by decide))
    have c4_ := (CBox.cell bk (W * 8 + 4)).trans (show _ = some (.int .u32 (nv32 sll)) from ha 4 (by decide))
    have c5_ := (CBox.cell bk (W * 8 + 5)).trans (show _ = some (.int .u64 (nv vel)) from ha 5 (by decide))
    have c6_ := (CBox.cell bk (W * 8 + 6)).trans (show _ = some (.int .u64 (nv tal)) from ha 6 (by decide))
    have c7_ := (CBox.cell bk (W * 8 + 7)).trans (show _ = some (.int .u64 (nv tbl)) from ha 7 (by decide))
    go_wp2_with fail
    refine (p3 _).mono ?_
    rintro e w3 ⟨rfl, hb⟩
    have hB3 := hB2.trans (hb.mono hB2.size)
    go_wp2_with fail
    refine (hkn _).mono ?_
    rintro e w6 ⟨rfl, hb6⟩
    have hB6 := hB3.trans (hb6.mono hB3.size)
    go_wp2
    go_ret
    first | exact ⟨rfl, hB6⟩ | exact ⟨congrArg (fun b => Ending.returned (Value.bool b)) (show (!decide ((W : Int) < 4)) = true by rw [decide_eq_false (by omega)]; rfl), hB6⟩
end Go.Proofs.Ytnfddebcnkdajaa
