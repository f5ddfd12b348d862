/- A Nonce that came in by value. -/
import Derived.Test.YtnimhlkoikjomaaFlo
import Derived.Test.YtnimhlkoikjomaaViewP
import Derived.Test.YtnimhlkoikjomaaViewB
import Derived.Deep.Strs
namespace Go.Proofs.Ytnimhlkoikjomaa
open Go.ChangeShapes Go.WideShapes Go.ChangeAt Go.RowKit
set_option maxRecDepth 20000

theorem Try.cells23 : Try.prog.cellsOf 23 = 1 := by kernel_rfl
theorem Try.cells37 : Try.prog.cellsOf 37 = 3 := by kernel_rfl
theorem three_of {α : Type} (cs : Array α) (h : cs.size = 3) : ∃ a b c, cs = #[a, b, c] := by
  obtain ⟨l⟩ := cs
  match l, h with
  | [a, b, c], _ => exact ⟨a, b, c, rfl⟩
theorem word32_of {a : Int} (h : (Lit.int .u32 a).wf = true) : ∃ x : BitVec 32, a = nv32 x := by
  have hx : 0 ≤ a ∧ a ≤ 4294967295 := by simpa [Lit.wf, IntKind.min, IntKind.max, IntKind.signed, IntKind.bits] using h
  exact ⟨BitVec.ofInt 32 a, (nv32_of a hx.1 (by omega)).symm⟩
theorem view_nonce {H : Type} {enc : TypeId × Value → H} {W : World} {base : Nat} {v : Value} {d : DataW H} {p : List MemPlace}
    (hok : Value.okWide Try.prog W .any base 37 v) (h : DataW.Trod enc Try.prog W 0 (fun _ => true) true 37 v d p) :
    ∃ n : Nn, v = .agg #[.int .u32 (nv32 n.1), .int .u32 (nv32 n.2.1), .int .u64 (nv n.2.2)] := by
  simp only [Value.okWide, Try.underlying37] at hok
  obtain ⟨cs, rfl, hsz, _⟩ := hok
  rw [Try.cells37] at hsz
  obtain ⟨c0, c1, c2, rfl⟩ := three_of cs hsz
  obtain ⟨fuel, hf⟩ := h
  obtain ⟨y0, y1, y2, m, _, _, h0, h1, h2⟩ := Deep.trod_struct3 Try.underlying37 hf
  simp [Try.cells22, Try.cells23, Value.cells] at h0 h1 h2
  obtain ⟨a, e0, _, wa⟩ := DataW.trod_int Try.underlying23 h0
  obtain ⟨b, e1, _, wb⟩ := DataW.trod_int Try.underlying23 h1
  obtain ⟨c, e2, _, wc⟩ := DataW.trod_int Try.underlying22 h2
  simp at e0 e1 e2
  subst e0 e1 e2
  obtain ⟨x, rfl⟩ := word32_of wa
  obtain ⟨y, rfl⟩ := word32_of wb
  obtain ⟨z, rfl⟩ := word_of wc
  exact ⟨(x, y, z), rfl⟩
end Go.Proofs.Ytnimhlkoikjomaa
