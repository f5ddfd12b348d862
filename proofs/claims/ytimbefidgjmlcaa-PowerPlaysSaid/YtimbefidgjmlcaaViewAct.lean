/- A slice of structs of two ints that came in. -/
import Derived.Test.YtimbefidgjmlcaaViewG
namespace Go.Proofs.Ytimbefidgjmlcaa
open Go.ChangeShapes Go.WideShapes Go.ChangeAt Go.RowKit Go.Deep
set_option maxRecDepth 20000

theorem Try.cells29 : Try.prog.cellsOf 29 = 2 := by kernel_rfl
theorem Try.cells3 : Try.prog.cellsOf 3 = 1 := by kernel_rfl
theorem two_of {α : Type} (cs : List α) (h : cs.length = 2) : ∃ a b, cs = [a, b] := by
  match cs, h with
  | [a, b], _ => exact ⟨a, b, rfl⟩
/-- An act: its kind and its number, an int. -/
def ActR (_w : World) (cs : List Value) (a : Int × Int) : Prop := cs = [.int .i64 a.1, .int .i64 a.2] ∧ a.2 ≤ 9223372036854775807
theorem i64_le {a : Int} (h : (Lit.int .i64 a).wf = true) : a ≤ 9223372036854775807 := by
  have hx : -9223372036854775808 ≤ a ∧ a ≤ 9223372036854775807 := by simpa [Lit.wf, IntKind.min, IntKind.max, IntKind.signed, IntKind.bits] using h
  exact hx.2
theorem act_cells {H : Type} {enc : TypeId × Value → H} {W : World} (fuel : Nat) (cs : List Value) (e : DataW H × List MemPlace) (hl : cs.length = 2) (h : DataW.trod enc Try.prog W 0 (fun _ => true) true fuel 29 cs = some e) (_hlt : ∀ q ∈ e.2, q.block < W.heap.size) : ∃ a, ActR W cs a := by
  obtain ⟨c0, c1, rfl⟩ := two_of cs hl
  obtain ⟨ys, m, _, hx, _, hl2, hy⟩ := DataW.trod_struct Try.underlying29 h
  match ys, hl2 with
  | [y0, y1], _ =>
    have h0 := hy 0 _ rfl
    have h1 := hy 1 _ rfl
    simp [Try.cells3] at h0 h1
    subst hx
    obtain ⟨k, e0, _, _⟩ := DataW.trod_int Try.underlying3 h0
    obtain ⟨n, e1, _, w1⟩ := DataW.trod_int Try.underlying3 h1
    simp at e0 e1
    subst e0 e1
    exact ⟨(k, n), rfl, i64_le w1⟩
/-- The act at a place. -/
theorem act_at {w : World} {x : Option Addr} {m : Nat} {L : List (Int × Int)} (h : RowsAt 2 ActR w x m L) {i : Nat} (hi : i < m) : ∃ b o, x = some ⟨b, o, none⟩ ∧ b < w.heap.size ∧ ∃ k n : Int, n ≤ 9223372036854775807 ∧ w.cell? ⟨b, o + i * 2, none⟩ = some (.int .i64 k) ∧ w.cell? ⟨b, o + i * 2 + 1, none⟩ = some (.int .i64 n) := by
  obtain ⟨_, h⟩ := h
  obtain ⟨b, o, rfl, hb, he⟩ := h (by omega)
  obtain ⟨cs, _, hc, hR, hn⟩ := he i hi
  refine ⟨b, o, rfl, hb, _, _, hn, hc 0 _ (by rw [hR]; rfl), hc 1 _ (by rw [hR]; rfl)⟩
end Go.Proofs.Ytimbefidgjmlcaa
