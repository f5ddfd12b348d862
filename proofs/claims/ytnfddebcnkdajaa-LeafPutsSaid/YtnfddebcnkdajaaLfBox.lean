/- A leaf in a block of its own; when two are one. -/
import Derived.Test.YtnfddebcnkdajaaLfSaid
import Derived.Test.YtnfddebcnkdajaaObjA
import Derived.Test.YtnfddebcnkdajaaEqP
import Derived.Test.YtnfddebcnkdajaaNvEq
namespace Go.Proofs.Ytnfddebcnkdajaa
open Go.RowKit
set_option maxRecDepth 20000

def LfBx (w : World) (b : Nat) (l : Lf) : Prop := CBox 29 w b #[.int .i64 l.kind, .bool l.dirty, .int .i64 l.lba, .int .u32 (nv32 l.ep), .int .u32 (nv32 l.sl), .int .u64 (nv l.ve), .int .u64 (nv l.tag.1), .int .u64 (nv l.tag.2)]
section
variable {w : World} {b : Nat} {l : Lf}
theorem LfBx.c0 (h : LfBx w b l) : w.cell? ⟨b, 0, none⟩ = some (.int .i64 l.kind) := CBox.cell h 0
theorem LfBx.c1 (h : LfBx w b l) : w.cell? ⟨b, 1, none⟩ = some (.bool l.dirty) := CBox.cell h 1
theorem LfBx.c2 (h : LfBx w b l) : w.cell? ⟨b, 2, none⟩ = some (.int .i64 l.lba) := CBox.cell h 2
theorem LfBx.c3 (h : LfBx w b l) : w.cell? ⟨b, 3, none⟩ = some (.int .u32 (nv32 l.ep)) := CBox.cell h 3
theorem LfBx.c4 (h : LfBx w b l) : w.cell? ⟨b, 4, none⟩ = some (.int .u32 (nv32 l.sl)) := CBox.cell h 4
theorem LfBx.c5 (h : LfBx w b l) : w.cell? ⟨b, 5, none⟩ = some (.int .u64 (nv l.ve)) := CBox.cell h 5
theorem LfBx.c6 (h : LfBx w b l) : w.cell? ⟨b, 6, none⟩ = some (.int .u64 (nv l.tag.1)) := CBox.cell h 6
theorem LfBx.c7 (h : LfBx w b l) : w.cell? ⟨b, 7, none⟩ = some (.int .u64 (nv l.tag.2)) := CBox.cell h 7
theorem LfBx.grown {w' : World} (h : LfBx w b l) (hb : Below w.heap.size w w') : LfBx w' b l := CBox.grown h hb
theorem LfBx.drew (h : LfBx w b l) : LfBx w.drew b l := h
theorem LfBx.new (w : World) (l : Lf) : LfBx (w.alloc (.cells #[.int .i64 l.kind, .bool l.dirty, .int .i64 l.lba, .int .u32 (nv32 l.ep), .int .u32 (nv32 l.sl), .int .u64 (nv l.ve), .int .u64 (nv l.tag.1), .int .u64 (nv l.tag.2)] 29)) w.heap.size l := CBox.new _ _ _
end
theorem eqL (a b : Lf) (w : World) : (Op.equalIn 10000 29 (lfv a) (lfv b)).run Try.prog w = .ok (decide (a = b)) w := by
  have hp := eq32' 9997 (nv a.tag.1) (nv a.tag.2) (nv b.tag.1) (nv b.tag.2) w
  rw [pair_eq_of'] at hp
  have e : decide (a = b) = decide (a.kind = b.kind ∧ a.dirty = b.dirty ∧ a.lba = b.lba ∧ a.ep = b.ep ∧ a.sl = b.sl ∧ a.ve = b.ve ∧ a.tag = b.tag) := by
    rw [Bool.eq_iff_iff, decide_eq_true_eq, decide_eq_true_eq]
    exact Lf.ext_iff' a b
  rw [e]
  unfold lfv
  go_simp
  simp only [nv32_iff, nv_iff]
  by_cases h1 : a.kind = b.kind
  case neg => simp [h1]
  by_cases h2 : a.dirty = b.dirty
  case neg => simp [h1, h2]
  by_cases h3 : a.lba = b.lba
  case neg => simp [h1, h2, h3]
  by_cases h4 : a.ep = b.ep
  case neg => simp [h1, h2, h3, h4]
  by_cases h5 : a.sl = b.sl
  case neg => simp [h1, h2, h3, h4, h5]
  by_cases h6 : a.ve = b.ve
  case neg => simp [h1, h2, h3, h4, h5, h6]
  by_cases h7 : a.tag = b.tag <;> simp [h1, h2, h3, h4, h5, h6, h7]
end Go.Proofs.Ytnfddebcnkdajaa
