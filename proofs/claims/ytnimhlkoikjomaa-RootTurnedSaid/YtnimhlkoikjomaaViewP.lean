/- A Pair that came in by value, as two words. -/
import Derived.Test.YtnimhlkoikjomaaSpk
import Derived.Test.YtnimhlkoikjomaaLaw
namespace Go.Proofs.Ytnimhlkoikjomaa
open Go.ChangeShapes Go.WideShapes Go.ChangeAt Go.RowKit
set_option maxRecDepth 20000

theorem Try.cells22 : Try.prog.cellsOf 22 = 1 := by kernel_rfl
theorem Try.cells25 : Try.prog.cellsOf 25 = 2 := by kernel_rfl

theorem two_of {α : Type} (cs : Array α) (h : cs.size = 2) : ∃ a b, cs = #[a, b] := by
  obtain ⟨l⟩ := cs
  match l, h with
  | [a, b], _ => exact ⟨a, b, rfl⟩

theorem word_of {a : Int} (h : (Lit.int .u64 a).wf = true) : ∃ x : BitVec 64, a = nv x := by
  have hx : 0 ≤ a ∧ a ≤ 18446744073709551615 := by simpa [Lit.wf, IntKind.min, IntKind.max, IntKind.signed, IntKind.bits] using h
  exact ⟨BitVec.ofInt 64 a, (nv_of a hx.1 (by omega)).symm⟩

theorem view_pair {H : Type} {enc : TypeId × Value → H} {W : World} {base : Nat} {v : Value} {d : DataW H} {p : List MemPlace}
    (hok : Value.okWide Try.prog W .any base 25 v) (h : DataW.Trod enc Try.prog W 0 (fun _ => true) true 25 v d p) :
    ∃ q : BitVec 64 × BitVec 64, v = .agg #[.int .u64 (nv q.1), .int .u64 (nv q.2)] := by
  simp only [Value.okWide, Try.underlying25] at hok
  obtain ⟨cs, rfl, hsz, _⟩ := hok
  rw [Try.cells25] at hsz
  obtain ⟨c0, c1, rfl⟩ := two_of cs hsz
  obtain ⟨fuel, hf⟩ := h
  obtain ⟨xs, m, _, _, _, hl, hx⟩ := DataW.trod_array Try.underlying25 hf
  have h0 := hx 0 (by decide)
  have h1 := hx 1 (by decide)
  simp [Try.cells22, Value.cells] at h0 h1
  rw [List.getElem?_eq_getElem (show 0 < xs.length by omega)] at h0
  rw [List.getElem?_eq_getElem (show 1 < xs.length by omega)] at h1
  obtain ⟨a, e0, _, wa⟩ := DataW.trod_int Try.underlying22 h0
  obtain ⟨b, e1, _, wb⟩ := DataW.trod_int Try.underlying22 h1
  simp at e0 e1
  subst e0 e1
  obtain ⟨x, rfl⟩ := word_of wa
  obtain ⟨y, rfl⟩ := word_of wb
  exact ⟨(x, y), rfl⟩
end Go.Proofs.Ytnimhlkoikjomaa
