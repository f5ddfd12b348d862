/- A slice of a lock's acts that came in. -/
import Derived.Test.YtkkehbebaokdmaaViewG
import Derived.Test.YtkkehbebaokdmaaLkPlaysA
namespace Go.Proofs.Ytkkehbebaokdmaa
open Go.ChangeShapes Go.WideShapes Go.ChangeAt Go.RowKit Go.Deep
set_option maxRecDepth 20000

theorem Try.cells37 : Try.prog.cellsOf 37 = 8 := by kernel_rfl
theorem Try.cells3 : Try.prog.cellsOf 3 = 1 := by kernel_rfl
theorem eight_of {α : Type} (cs : List α) (h : cs.length = 8) : ∃ a b c d e f g i, cs = [a, b, c, d, e, f, g, i] := by
  match cs, h with
  | [a, b, c, d, e, f, g, i], _ => exact ⟨a, b, c, d, e, f, g, i, rfl⟩
theorem lact_cells {H : Type} {enc : TypeId × Value → H} {W : World} (fuel : Nat) (cs : List Value) (e : DataW H × List MemPlace) (hl : cs.length = 8) (h : DataW.trod enc Try.prog W 0 (fun _ => true) true fuel 37 cs = some e) (hlt : ∀ q ∈ e.2, q.block < W.heap.size) : ∃ a, LActR W cs a := by
  obtain ⟨c0, c1, c2, c3, c4, c5, c6, c7, rfl⟩ := eight_of cs hl
  obtain ⟨ys, m, _, hx, _, hl2, hy⟩ := DataW.trod_struct Try.underlying37 h
  match ys, hl2 with
  | [y0, y1, y2, y3, y4], _ =>
    have h0 := hy 0 _ rfl
    have h1 := hy 1 _ rfl
    have h2 := hy 2 _ rfl
    have h3 := hy 3 _ rfl
    have h4 := hy 4 _ rfl
    simp [Try.cells27, Try.cells30, Try.cells35, Try.cells3, Try.cells28] at h0 h1 h2 h3 h4
    subst hx
    obtain ⟨k, e0, _, _⟩ := DataW.trod_int Try.underlying3 h0
    obtain ⟨q, hq⟩ := pair_cells h1
    obtain ⟨n, hn0, hn1, hn2⟩ := nonce_cells h2
    obtain ⟨x3, n3, d3, xs3, rfl, f31, f32, b3, s3, f33⟩ := sat_cells h3 (fun z hz => hlt z (by simp [hz]))
    obtain ⟨B, e6, _, wB⟩ := DataW.trod_int Try.underlying28 h4
    simp at e0 e6 hq
    obtain ⟨B', rfl⟩ := word_of wB
    obtain ⟨rfl, rfl⟩ := hq
    subst e0 e6 hn0 hn1 hn2
    obtain rfl : xs3.length = n3 := s3.1
    exact ⟨⟨k, q, n, xs3, B'⟩, x3, d3, rfl, b3, s3, ⟨f31, f32, f33⟩⟩
end Go.Proofs.Ytkkehbebaokdmaa
