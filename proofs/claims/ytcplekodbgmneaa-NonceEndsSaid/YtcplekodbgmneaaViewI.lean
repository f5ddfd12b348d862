/- Slices of numbers that came in. -/
import Derived.Test.YtcplekodbgmneaaViewG
namespace Go.Proofs.Ytcplekodbgmneaa
open Go.ChangeShapes Go.WideShapes Go.ChangeAt Go.RowKit Go.Deep
set_option maxRecDepth 20000

theorem one_of {α : Type} (cs : List α) (h : cs.length = 1) : ∃ a, cs = [a] := by
  match cs, h with
  | [a], _ => exact ⟨a, rfl⟩
theorem Try.cells3 : Try.prog.cellsOf 3 = 1 := by kernel_rfl
theorem Try.cells32 : Try.prog.cellsOf 32 = 1 := by kernel_rfl
theorem u64_of {a : Int} (h : (Lit.int .u64 a).wf = true) : ∃ n : Nat, a = n ∧ n < 18446744073709551616 := by
  have hx : 0 ≤ a ∧ a ≤ 18446744073709551615 := by simpa [Lit.wf, IntKind.min, IntKind.max, IntKind.signed, IntKind.bits] using h
  exact ⟨a.toNat, by omega, by omega⟩
def IntR (_w : World) (cs : List Value) (a : Int) : Prop := cs = [.int .i64 a]
theorem int_cells {H : Type} {enc : TypeId × Value → H} {W : World} (fuel : Nat) (cs : List Value) (e : DataW H × List MemPlace) (hl : cs.length = 1) (h : DataW.trod enc Try.prog W 0 (fun _ => true) true fuel 3 cs = some e) (_hlt : ∀ q ∈ e.2, q.block < W.heap.size) : ∃ a, IntR W cs a := by
  obtain ⟨c, rfl⟩ := one_of cs hl
  obtain ⟨a, e0, _, _⟩ := DataW.trod_int Try.underlying3 h
  exact ⟨a, e0⟩
def U32R (_w : World) (cs : List Value) (a : Int) : Prop := cs = [.int .u32 a]
theorem u32_cells {H : Type} {enc : TypeId × Value → H} {W : World} (fuel : Nat) (cs : List Value) (e : DataW H × List MemPlace) (hl : cs.length = 1) (h : DataW.trod enc Try.prog W 0 (fun _ => true) true fuel 32 cs = some e) (_hlt : ∀ q ∈ e.2, q.block < W.heap.size) : ∃ a, U32R W cs a := by
  obtain ⟨c, rfl⟩ := one_of cs hl
  obtain ⟨a, e0, _, _⟩ := DataW.trod_int Try.underlying32 h
  exact ⟨a, e0⟩
end Go.Proofs.Ytcplekodbgmneaa
