/- A leaf that came in by value. -/
import Derived.Test.YtnfddebcnkdajaaLfSaid
import Derived.Test.YtnfddebcnkdajaaViewC
namespace Go.Proofs.Ytnfddebcnkdajaa
open Go.ChangeShapes Go.WideShapes Go.ChangeAt Go.RowKit
set_option maxRecDepth 20000

theorem Try.cells29 : Try.prog.cellsOf 29 = 8 := by kernel_rfl
theorem Try.cells4 : Try.prog.cellsOf 4 = 1 := by kernel_rfl
theorem Try.cells3 : Try.prog.cellsOf 3 = 1 := by kernel_rfl
theorem eight_of {α : Type} (cs : List α) (h : cs.length = 8) : ∃ a b c d e f g i, cs = [a, b, c, d, e, f, g, i] := by
  match cs, h with
  | [a, b, c, d, e, f, g, i], _ => exact ⟨a, b, c, d, e, f, g, i, rfl⟩
/-- A leaf, cell by cell. -/
theorem leaf_cells {H : Type} {enc : TypeId × Value → H} {W : World} {fuel : Nat} {cs : List Value} {e : DataW H × List MemPlace} (hl : cs.length = 8) (h : DataW.trod enc Try.prog W 0 (fun _ => true) true fuel 29 cs = some e) : ∃ l : Lf, cs = lfC l := by
  obtain ⟨c0, c1, c2, c3, c4, c5, c6, c7, rfl⟩ := eight_of cs hl
  obtain ⟨ys, m, _, hx, _, hl2, hy⟩ := DataW.trod_struct Try.underlying29 h
  match ys, hl2 with
  | [y0, y1, y2, y3, y4], _ =>
    have h0 := hy 0 _ rfl
    have h1 := hy 1 _ rfl
    have h2 := hy 2 _ rfl
    have h3 := hy 3 _ rfl
    have h4 := hy 4 _ rfl
    simp [Try.cells27, Try.cells25, Try.cells3, Try.cells4] at h0 h1 h2 h3 h4
    obtain ⟨k, e0, _, _⟩ := DataW.trod_int Try.underlying3 h0
    obtain ⟨d, e1, _⟩ := DataW.trod_bool Try.underlying4 h1
    obtain ⟨lb, e2, _, _⟩ := DataW.trod_int Try.underlying3 h2
    obtain ⟨n, hn0, hn1, hn2⟩ := nonce_cells h3
    obtain ⟨q, hq⟩ := pair_cells h4
    simp at e0 e1 e2 hq
    obtain ⟨rfl, rfl⟩ := hq
    subst e0 e1 e2 hn0 hn1 hn2
    exact ⟨⟨k, d, lb, n.1, n.2.1, n.2.2, q⟩, rfl⟩
theorem view_leaf {H : Type} {enc : TypeId × Value → H} {W : World} {base : Nat} {v : Value} {d : DataW H} {p : List MemPlace}
    (hok : Value.okWide Try.prog W .any base 29 v) (h : DataW.Trod enc Try.prog W 0 (fun _ => true) true 29 v d p) : ∃ l : Lf, v = lfv l := by
  simp only [Value.okWide, Try.underlying29] at hok
  obtain ⟨cs, rfl, hsz, _⟩ := hok
  rw [Try.cells29] at hsz
  obtain ⟨fuel, hf⟩ := h
  obtain ⟨l, hl⟩ := leaf_cells (cs := cs.toList) (by simpa using hsz) (by simpa [Value.cells] using hf)
  refine ⟨l, ?_⟩
  obtain ⟨cs⟩ := cs
  simp only at hl
  subst hl
  rfl
end Go.Proofs.Ytnfddebcnkdajaa
