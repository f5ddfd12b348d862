/- A slice of steps that came in. -/
import Derived.Test.YtfgigbecmhmidaaViewC
import Derived.Test.YtfgigbecmhmidaaActAt
namespace Go.Proofs.Ytfgigbecmhmidaa
open Go.ChangeShapes Go.WideShapes Go.ChangeAt Go.RowKit Go.Deep

theorem Try.cells39 : Try.prog.cellsOf 39 = 10 := by kernel_rfl
theorem Try.cells3 : Try.prog.cellsOf 3 = 1 := by kernel_rfl
theorem ten_of {α : Type} (cs : List α) (h : cs.length = 10) : ∃ a b c d e f g i j k, cs = [a, b, c, d, e, f, g, i, j, k] := by
  match cs, h with
  | [a, b, c, d, e, f, g, i, j, k], _ => exact ⟨a, b, c, d, e, f, g, i, j, k, rfl⟩
/-- A step, cell by cell. -/
theorem act_cells {H : Type} {enc : TypeId × Value → H} {W : World} {fuel : Nat} {cs : List Value} {e : DataW H × List MemPlace} (hl : cs.length = 10) (h : DataW.trod enc Try.prog W 0 (fun _ => true) true fuel 39 cs = some e) (hlt : ∀ q ∈ e.2, q.block < W.heap.size) :
    ∃ (a : ActP) (h : Option Addr) (hc : Nat) (d : Option Addr) (dc : Nat), cs = actC a h hc d dc ∧ Bytes a.head ∧ Bytes a.data ∧ SAt W h a.head.length a.head ∧ SAt W d a.data.length a.data ∧ Fit h a.head.length hc ∧ Fit d a.data.length dc := by
  obtain ⟨c0, c1, c2, c3, c4, c5, c6, c7, c8, c9, rfl⟩ := ten_of cs hl
  obtain ⟨ys, m, _, hx, _, hl2, hy⟩ := DataW.trod_struct Try.underlying39 h
  match ys, hl2 with
  | [y0, y1, y2, y3, y4, y5, y6], _ =>
    have h0 := hy 0 _ rfl
    have h1 := hy 1 _ rfl
    have h2 := hy 2 _ rfl
    have h3 := hy 3 _ rfl
    have h4 := hy 4 _ rfl
    have h5 := hy 5 _ rfl
    have h6 := hy 6 _ rfl
    simp [Try.cells37, Try.cells33, Try.cells36, Try.cells3, Try.cells31] at h0 h1 h2 h3 h4 h5 h6
    subst hx
    obtain ⟨k, e0, _, _⟩ := DataW.trod_int Try.underlying3 h0
    obtain ⟨q, hq⟩ := pair_cells h1
    obtain ⟨n, hn0, hn1, hn2⟩ := nonce_cells h2
    obtain ⟨x3, n3, d3, xs3, rfl, f31, f32, b3, s3, f33⟩ := sat_cells h3 (fun z hz => hlt z (by simp [hz]))
    obtain ⟨x4, n4, d4, xs4, rfl, f41, f42, b4, s4, f43⟩ := sat_cells h4 (fun z hz => hlt z (by simp [hz]))
    obtain ⟨N, e5, _, _⟩ := DataW.trod_int Try.underlying3 h5
    obtain ⟨B, e6, _, wB⟩ := DataW.trod_int Try.underlying31 h6
    simp at e0 e5 e6 hq
    obtain ⟨B', rfl⟩ := word_of wB
    obtain ⟨rfl, rfl⟩ := hq
    subst e0 e5 e6 hn0 hn1 hn2
    obtain rfl : xs3.length = n3 := s3.1
    obtain rfl : xs4.length = n4 := s4.1
    exact ⟨⟨k, q, n, xs3, xs4, N, B'⟩, x3, d3, x4, d4, rfl, b3, b4, s3, s4, ⟨f31, f32, f33⟩, ⟨f41, f42, f43⟩⟩
theorem view_acts {H : Type} {enc : TypeId × Value → H} {W : World} {base : Nat} {v : Value} {d : DataW H} {p : List MemPlace}
    (hok : Value.okWide Try.prog W .any base 22 v) (h : DataW.Trod enc Try.prog W 0 (fun _ => true) true 22 v d p) (hlt : ∀ x ∈ p, x.block < W.heap.size) :
    ∃ (x : Option Addr) (m c : Nat) (L : List ActP), v = .slice x m c ∧ Fit x m c ∧ ActsAt W x m L := by
  obtain ⟨a0, len, cap, rfl⟩ := okWide_slice Try.underlying22 hok
  obtain ⟨fuel, hf⟩ := h
  rcases open_slice Try.underlying22 hf with ⟨hcs, _⟩ | ⟨a, len', cap', m, n, D, Pl, hcs, _, hl, hm, hmm, hx, hel⟩
  · simp [Value.cells] at hcs
    obtain ⟨rfl, rfl, rfl⟩ := hcs
    exact ⟨none, 0, 0, [], rfl, fit_none, rfl, fun h => absurd h (by omega)⟩
  · simp [Value.cells] at hcs
    obtain ⟨rfl, rfl, rfl⟩ := hcs
    simp only [Prod.mk.injEq] at hx
    rw [Try.cells39] at hel
    have hlm : len ≤ m := by rw [hmm]; split <;> omega
    have each : ∀ i, ∃ A : ActP, i < len → ∃ h hc d dc, (∀ j u, (actC A h hc d dc)[j]? = some u → W.cell? ((a.add (i * 10)).add j) = some u) ∧ Bytes A.head ∧ Bytes A.data ∧ SAt W h A.head.length A.head ∧ SAt W d A.data.length A.data ∧ Fit h A.head.length hc ∧ Fit d A.data.length dc := by
      intro i
      by_cases hi : i < len
      · obtain ⟨cs, hc, ht⟩ := hel i (by omega)
        have hs := World.cells?_some hc
        obtain ⟨A, h, hc2, d, dc, rfl, r⟩ := act_cells hs.2.1 ht (fun q hq => hlt q (by rw [hx.2]; exact List.mem_append_right _ (List.mem_flatMap.2 ⟨i, List.mem_range.2 (by omega), hq⟩)))
        refine ⟨A, fun _ => ⟨h, hc2, d, dc, fun j u hj => ?_, r⟩⟩
        have hj10 : j < 10 := by
          rcases Nat.lt_or_ge j (actC A h hc2 d dc).length with h' | h'
          · exact h'
          · rw [List.getElem?_eq_none h'] at hj
            cases hj
        have := hs.2.2 j hj10
        rw [this]
        exact hj
      · exact ⟨default, fun h => absurd h hi⟩
    obtain ⟨f, hf2⟩ := Classical.axiomOfChoice each
    refine ⟨some a, len, cap, (List.range len).map f, rfl, ⟨hl, hm, fun e => by cases e⟩, by simp, fun hn => ?_⟩
    obtain ⟨b, off, spot⟩ := a
    obtain ⟨h, hc, d, dc, hc0, _⟩ := hf2 0 hn
    have hcell0 := hc0 0 _ rfl
    have hspot : spot = none := by simpa [Addr.add] using World.cell?_spot hcell0
    subst hspot
    refine ⟨b, off, rfl, World.block_lt_of_cell? W _ (by simpa [add_plain'] using hcell0), fun i hi => ?_⟩
    rw [show ((List.range len).map f).getD i default = f i from by simp [hi]]
    obtain ⟨h, hc, d, dc, hc1, r⟩ := hf2 i hi
    refine ⟨h, hc, d, dc, fun j u hj => ?_, r⟩
    have := hc1 j u hj
    rw [add_plain', add_plain'] at this
    exact this
end Go.Proofs.Ytfgigbecmhmidaa
