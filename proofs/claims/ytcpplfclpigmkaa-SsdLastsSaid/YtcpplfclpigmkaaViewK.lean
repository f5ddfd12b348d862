/- Slices of bools that came in. -/
import Derived.Test.YtcpplfclpigmkaaViewBo
import Derived.Test.YtcpplfclpigmkaaDevSt
namespace Go.Proofs.Ytcpplfclpigmkaa
open Go.ChangeShapes Go.WideShapes Go.ChangeAt Go.RowKit Go.Deep
set_option maxRecDepth 20000

theorem view_bools {H : Type} {enc : TypeId × Value → H} {W : World} {base : Nat} {v : Value} {d : DataW H} {p : List MemPlace}
    (hok : Value.okWide Try.prog W .any base 23 v) (h : DataW.Trod enc Try.prog W 0 (fun _ => true) true 23 v d p) (hlt : ∀ x ∈ p, x.block < W.heap.size) :
    ∃ (x : Option Addr) (m c : Nat) (K : List Bool), v = .slice x m c ∧ Fit x m c ∧ KIn (fun k => k < W.heap.size) W x m K := by
  obtain ⟨x, m, c, L, e, hf, hl, hr⟩ := view_each (R := BoolR) Try.underlying23 Try.cells4 (by decide) bool_cells hok h hlt
  refine ⟨x, m, c, L, e, hf, hl, fun hm => ?_⟩
  obtain ⟨b, o, ex, hb, hi⟩ := hr hm
  refine ⟨b, o, ex, hb, hb, fun i him => ?_⟩
  obtain ⟨cs, _, hc, hR⟩ := hi i him
  have := hc 0 (.bool (L.getD i default)) (by rw [hR]; rfl)
  rw [Nat.mul_one, Nat.add_zero] at this
  exact this
end Go.Proofs.Ytcpplfclpigmkaa
