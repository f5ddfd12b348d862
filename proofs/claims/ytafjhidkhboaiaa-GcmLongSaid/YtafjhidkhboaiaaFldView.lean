/- A slice of Pairs that came in. -/
import Derived.Test.YtafjhidkhboaiaaFldApp
namespace Go.Proofs.Ytafjhidkhboaiaa
open Go.ChangeShapes Go.WideShapes Go.ChangeAt Go.RowKit

theorem pair_cells {H : Type} {enc : TypeId × Value → H} {W : World} {fuel : Nat} {cs : List Value} {e : DataW H × List MemPlace} (h : DataW.trod enc Try.prog W 0 (fun _ => true) true fuel 24 cs = some e) :
    ∃ q : BitVec 64 × BitVec 64, cs = [.int .u64 (nv q.1), .int .u64 (nv q.2)] := by
  obtain ⟨xs, m, _, _, hcl, hl, hx⟩ := DataW.trod_array Try.underlying24 h
  rw [Try.cells24] at hcl
  match cs, hcl with
  | [c0, c1], _ =>
    have h0 := hx 0 (by decide)
    have h1 := hx 1 (by decide)
    simp [Try.cells22] at h0 h1
    rw [List.getElem?_eq_getElem (show 0 < xs.length by omega)] at h0
    rw [List.getElem?_eq_getElem (show 1 < xs.length by omega)] at h1
    obtain ⟨a, e0, _, wa⟩ := DataW.trod_int Try.underlying22 h0
    obtain ⟨b, e1, _, wb⟩ := DataW.trod_int Try.underlying22 h1
    simp at e0 e1
    subst e0 e1
    obtain ⟨x, rfl⟩ := word_of wa
    obtain ⟨y, rfl⟩ := word_of wb
    exact ⟨(x, y), rfl⟩

theorem view_row {H : Type} {enc : TypeId × Value → H} {W : World} {base : Nat} {v : Value} {d : DataW H} {p : List MemPlace}
    (hok : Value.okWide Try.prog W .any base 49 v) (h : DataW.Trod enc Try.prog W 0 (fun _ => true) true 49 v d p) :
    ∃ (x : Option Addr) (n cap : Nat) (f : Nat → BitVec 64 × BitVec 64), v = .slice x n cap ∧ PRow W x n f := by
  obtain ⟨a0, len, cap, rfl⟩ := okWide_slice Try.underlying49 hok
  obtain ⟨fuel, hf⟩ := h
  rcases DataW.trod_slice Try.underlying49 hf with ⟨hcs, _⟩ | ⟨a, len', cap', elems, rest, m, _, hcs, _, _, _, _, hlen, hel, _⟩
  · simp [Value.cells] at hcs
    obtain ⟨rfl, rfl, rfl⟩ := hcs
    exact ⟨none, 0, 0, fun _ => (0#64, 0#64), rfl, fun h => absurd h (by omega)⟩
  · simp [Value.cells] at hcs
    obtain ⟨rfl, rfl, rfl⟩ := hcs
    have each : ∀ i, ∃ q : BitVec 64 × BitVec 64, i < len → W.cell? ((a.add (i * 2)).add 0) = some (.int .u64 (nv q.1)) ∧ W.cell? ((a.add (i * 2)).add 1) = some (.int .u64 (nv q.2)) := by
      intro i
      by_cases hi : i < len
      · have hb := hel i hi
        rw [List.getElem?_eq_getElem (show i < elems.length by omega), Try.cells24, Option.bind_eq_some_iff] at hb
        obtain ⟨cs, hc, ht⟩ := hb
        obtain ⟨q, rfl⟩ := pair_cells ht
        have hs := World.cells?_some hc
        exact ⟨q, fun _ => ⟨hs.2.2 0 (by decide), hs.2.2 1 (by decide)⟩⟩
      · exact ⟨(0#64, 0#64), fun h => absurd h hi⟩
    obtain ⟨f, hf2⟩ : ∃ f : Nat → BitVec 64 × BitVec 64, ∀ i, i < len → W.cell? ((a.add (i * 2)).add 0) = some (.int .u64 (nv (f i).1)) ∧ W.cell? ((a.add (i * 2)).add 1) = some (.int .u64 (nv (f i).2)) := ⟨fun i => (each i).choose, fun i => (each i).choose_spec⟩
    refine ⟨some a, len, cap, f, rfl, fun hn => ?_⟩
    obtain ⟨b, off, spot⟩ := a
    have hspot : spot = none := by simpa [Addr.add] using World.cell?_spot (hf2 0 hn).1
    subst hspot
    refine ⟨b, off, rfl, World.block_lt_of_cell? W _ (by simpa [addr_add] using (hf2 0 hn).1), fun i hi => ?_⟩
    have := hf2 i hi
    rw [addr_add, addr_add, addr_add, Nat.add_zero] at this
    exact this
end Go.Proofs.Ytafjhidkhboaiaa
