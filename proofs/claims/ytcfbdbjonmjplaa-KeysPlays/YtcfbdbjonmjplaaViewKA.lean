/- A slice of structs of an int, a number of four bytes, an int, that came in. -/
import Derived.Test.YtcfbdbjonmjplaaViewG
import Derived.Test.YtcfbdbjonmjplaaKeySaid
namespace Go.Proofs.Ytcfbdbjonmjplaa
open Go.ChangeShapes Go.WideShapes Go.ChangeAt Go.RowKit Go.Deep
set_option maxRecDepth 20000

theorem Try.cells35 : Try.prog.cellsOf 35 = 3 := by kernel_rfl
theorem Try.cells3 : Try.prog.cellsOf 3 = 1 := by kernel_rfl
theorem Try.cells33 : Try.prog.cellsOf 33 = 1 := by kernel_rfl
theorem three_of {α : Type} (cs : List α) (h : cs.length = 3) : ∃ a b c, cs = [a, b, c] := by
  match cs, h with
  | [a, b, c], _ => exact ⟨a, b, c, rfl⟩
/-- An act: its kind, below what, its number. -/
def KActR (_w : World) (cs : List Value) (a : Int × Nat × Int) : Prop := cs = [.int .i64 a.1, .int .u32 (a.2.1 : Int), .int .i64 a.2.2] ∧ U32 a.2.1 ∧ a.2.2 ≤ 9223372036854775807
theorem i64_le {a : Int} (h : (Lit.int .i64 a).wf = true) : a ≤ 9223372036854775807 := by
  have hx : -9223372036854775808 ≤ a ∧ a ≤ 9223372036854775807 := by simpa [Lit.wf, IntKind.min, IntKind.max, IntKind.signed, IntKind.bits] using h
  exact hx.2
theorem kact_cells {H : Type} {enc : TypeId × Value → H} {W : World} (fuel : Nat) (cs : List Value) (e : DataW H × List MemPlace) (hl : cs.length = 3) (h : DataW.trod enc Try.prog W 0 (fun _ => true) true fuel 35 cs = some e) (_hlt : ∀ q ∈ e.2, q.block < W.heap.size) : ∃ a, KActR W cs a := by
  obtain ⟨c0, c1, c2, rfl⟩ := three_of cs hl
  obtain ⟨ys, m, _, hx, _, hl2, hy⟩ := DataW.trod_struct Try.underlying35 h
  match ys, hl2 with
  | [y0, y1, y2], _ =>
    have h0 := hy 0 _ rfl
    have h1 := hy 1 _ rfl
    have h2 := hy 2 _ rfl
    simp [Try.cells3, Try.cells33] at h0 h1 h2
    subst hx
    obtain ⟨k, e0, _, _⟩ := DataW.trod_int Try.underlying3 h0
    obtain ⟨n, e1, _, w1⟩ := DataW.trod_int Try.underlying33 h1
    obtain ⟨z, e2, _, w2⟩ := DataW.trod_int Try.underlying3 h2
    simp at e0 e1 e2
    subst e0 e1 e2
    obtain ⟨n, rfl, hn⟩ := u32_of w1
    exact ⟨(k, n, z), rfl, hn, i64_le w2⟩
/-- The act at a place. -/
theorem kact_at {w : World} {x : Option Addr} {m : Nat} {L : List (Int × Nat × Int)} (h : RowsAt 3 KActR w x m L) {i : Nat} (hi : i < m) : ∃ b o, x = some ⟨b, o, none⟩ ∧ b < w.heap.size ∧ ∃ (k : Int) (be : Nat) (n : Int), U32 be ∧ n ≤ 9223372036854775807 ∧ w.cell? ⟨b, o + i * 3, none⟩ = some (.int .i64 k) ∧ w.cell? ⟨b, o + i * 3 + 1, none⟩ = some (.int .u32 (be : Int)) ∧ w.cell? ⟨b, o + i * 3 + 2, none⟩ = some (.int .i64 n) := by
  obtain ⟨_, h⟩ := h
  obtain ⟨b, o, rfl, hb, he⟩ := h (by omega)
  obtain ⟨cs, _, hc, hR, hu, hn⟩ := he i hi
  exact ⟨b, o, rfl, hb, _, _, _, hu, hn, hc 0 _ (by rw [hR]; rfl), hc 1 _ (by rw [hR]; rfl), hc 2 _ (by rw [hR]; rfl)⟩
end Go.Proofs.Ytcfbdbjonmjplaa
