/- A root that came in by value. -/
import Derived.Test.YtnimhlkoikjomaaRtSaid
import Derived.Test.YtnimhlkoikjomaaViewC
namespace Go.Proofs.Ytnimhlkoikjomaa
open Go.ChangeShapes Go.WideShapes Go.ChangeAt Go.RowKit
set_option maxRecDepth 20000

theorem Try.cells27 : Try.prog.cellsOf 27 = 5 := by kernel_rfl
theorem Try.cells3 : Try.prog.cellsOf 3 = 1 := by kernel_rfl
theorem five_of {α : Type} (cs : List α) (h : cs.length = 5) : ∃ a b c d e, cs = [a, b, c, d, e] := by
  match cs, h with
  | [a, b, c, d, e], _ => exact ⟨a, b, c, d, e, rfl⟩
/-- A root, cell by cell. -/
theorem root_cells {H : Type} {enc : TypeId × Value → H} {W : World} {fuel : Nat} {cs : List Value} {e : DataW H × List MemPlace} (hl : cs.length = 5) (h : DataW.trod enc Try.prog W 0 (fun _ => true) true fuel 27 cs = some e) : ∃ r : Rt, cs = [.int .u64 (nv r.ct), .int .u32 (nv32 r.ep), .int .i64 r.sl, .int .u64 (nv r.h.1), .int .u64 (nv r.h.2)] := by
  obtain ⟨c0, c1, c2, c3, c4, rfl⟩ := five_of cs hl
  obtain ⟨ys, m, _, hx, _, hl2, hy⟩ := DataW.trod_struct Try.underlying27 h
  match ys, hl2 with
  | [y0, y1, y2, y3], _ =>
    have h0 := hy 0 _ rfl
    have h1 := hy 1 _ rfl
    have h2 := hy 2 _ rfl
    have h3 := hy 3 _ rfl
    simp [Try.cells25, Try.cells3, Try.cells23, Try.cells22] at h0 h1 h2 h3
    obtain ⟨a, e0, _, wa⟩ := DataW.trod_int Try.underlying22 h0
    obtain ⟨b, e1, _, wb⟩ := DataW.trod_int Try.underlying23 h1
    obtain ⟨k, e2, _, _⟩ := DataW.trod_int Try.underlying3 h2
    obtain ⟨q, hq⟩ := pair_cells h3
    simp at e0 e1 e2 hq
    obtain ⟨rfl, rfl⟩ := hq
    subst e0 e1 e2
    obtain ⟨x, rfl⟩ := word_of wa
    obtain ⟨y, rfl⟩ := word32_of wb
    exact ⟨⟨x, y, k, q⟩, rfl⟩
theorem view_root {H : Type} {enc : TypeId × Value → H} {W : World} {base : Nat} {v : Value} {d : DataW H} {p : List MemPlace}
    (hok : Value.okWide Try.prog W .any base 27 v) (h : DataW.Trod enc Try.prog W 0 (fun _ => true) true 27 v d p) : ∃ r : Rt, v = rtv r := by
  simp only [Value.okWide, Try.underlying27] at hok
  obtain ⟨cs, rfl, hsz, _⟩ := hok
  rw [Try.cells27] at hsz
  obtain ⟨fuel, hf⟩ := h
  obtain ⟨r, hr⟩ := root_cells (cs := cs.toList) (by simpa using hsz) (by simpa [Value.cells] using hf)
  refine ⟨r, ?_⟩
  obtain ⟨cs⟩ := cs
  simp only at hr
  subst hr
  rfl
end Go.Proofs.Ytnimhlkoikjomaa
