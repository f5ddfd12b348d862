/- Slices of ints that came in, row by row. -/
import Derived.Test.YtdehnfgepnnaiaaViewG
namespace Go.Proofs.Ytdehnfgepnnaiaa
open Go.ChangeShapes Go.WideShapes Go.ChangeAt Go.RowKit Go.Deep
set_option maxRecDepth 20000

theorem Try.cells3 : Try.prog.cellsOf 3 = 1 := by kernel_rfl
theorem i64_le {a : Int} (h : (Lit.int .i64 a).wf = true) : a ≤ 9223372036854775807 := by
  have hx : -9223372036854775808 ≤ a ∧ a ≤ 9223372036854775807 := by simpa [Lit.wf, IntKind.min, IntKind.max, IntKind.signed, IntKind.bits] using h
  exact hx.2
/-- An int. -/
def IntB (_w : World) (cs : List Value) (a : Int) : Prop := cs = [.int .i64 a] ∧ a ≤ 9223372036854775807
theorem intb_cells {H : Type} {enc : TypeId × Value → H} {W : World} (fuel : Nat) (cs : List Value) (e : DataW H × List MemPlace) (hl : cs.length = 1) (h : DataW.trod enc Try.prog W 0 (fun _ => true) true fuel 3 cs = some e) (_hlt : ∀ q ∈ e.2, q.block < W.heap.size) : ∃ a, IntB W cs a := by
  match cs, hl with
  | [c], _ =>
    obtain ⟨a, e0, _, w0⟩ := DataW.trod_int Try.underlying3 h
    exact ⟨a, e0, i64_le w0⟩
/-- The int at a place. -/
theorem intb_at {w : World} {x : Option Addr} {m : Nat} {L : List Int} (h : RowsAt 1 IntB w x m L) {i : Nat} (hi : i < m) : ∃ b o, x = some ⟨b, o, none⟩ ∧ b < w.heap.size ∧ ∃ k : Int, k ≤ 9223372036854775807 ∧ w.cell? ⟨b, o + i, none⟩ = some (.int .i64 k) := by
  obtain ⟨_, h⟩ := h
  obtain ⟨b, o, rfl, hb, he⟩ := h (by omega)
  obtain ⟨cs, _, hc, hR, hn⟩ := he i hi
  have := hc 0 _ (by rw [hR]; rfl)
  rw [Nat.mul_one, Nat.add_zero] at this
  exact ⟨b, o, rfl, hb, _, hn, this⟩
end Go.Proofs.Ytdehnfgepnnaiaa
