/- Slices of bools that came in, row by row. -/
import Derived.Test.YtdehnfgepnnaiaaViewG
namespace Go.Proofs.Ytdehnfgepnnaiaa
open Go.ChangeShapes Go.WideShapes Go.ChangeAt Go.RowKit Go.Deep
set_option maxRecDepth 20000

theorem Try.cells4 : Try.prog.cellsOf 4 = 1 := by kernel_rfl
def BoolR (_w : World) (cs : List Value) (a : Bool) : Prop := cs = [.bool a]
theorem bool_cells {H : Type} {enc : TypeId × Value → H} {W : World} (fuel : Nat) (cs : List Value) (e : DataW H × List MemPlace) (hl : cs.length = 1) (h : DataW.trod enc Try.prog W 0 (fun _ => true) true fuel 4 cs = some e) (_hlt : ∀ q ∈ e.2, q.block < W.heap.size) : ∃ a, BoolR W cs a := by
  match cs, hl with
  | [c], _ =>
    obtain ⟨a, e0, _⟩ := DataW.trod_bool Try.underlying4 h
    exact ⟨a, e0⟩
/-- The bool at a place. -/
theorem bool_at {w : World} {x : Option Addr} {m : Nat} {L : List Bool} (h : RowsAt 1 BoolR w x m L) {i : Nat} (hi : i < m) : ∃ b o, x = some ⟨b, o, none⟩ ∧ b < w.heap.size ∧ ∃ k : Bool, w.cell? ⟨b, o + i, none⟩ = some (.bool k) := by
  obtain ⟨_, h⟩ := h
  obtain ⟨b, o, rfl, hb, he⟩ := h (by omega)
  obtain ⟨cs, _, hc, hR⟩ := he i hi
  have := hc 0 _ (by rw [hR]; rfl)
  rw [Nat.mul_one, Nat.add_zero] at this
  exact ⟨b, o, rfl, hb, _, this⟩
end Go.Proofs.Ytdehnfgepnnaiaa
