/- A slice of bytes that came in, as SAt. -/
import Derived.Test.YtnimhlkoikjomaaBAt
import Derived.Deep.Strs
namespace Go.Proofs.Ytnimhlkoikjomaa
open Go.ChangeShapes Go.WideShapes Go.ChangeAt Go.RowKit
set_option maxRecDepth 20000

theorem view_sat {H : Type} {enc : TypeId × Value → H} {W : World} {base : Nat} {v : Value} {d : DataW H} {p : List MemPlace}
    (hok : Value.okWide Try.prog W .any base 28 v) (h : DataW.Trod enc Try.prog W 0 (fun _ => true) true 28 v d p) (hlt : ∀ x ∈ p, x.block < W.heap.size) :
    ∃ (x : Option Addr) (n c : Nat) (xs : List Int), v = .slice x n c ∧ n ≤ c ∧ c ≤ maxLen ∧ Bytes xs ∧ SAt W x n xs ∧ (x = none → n = 0 ∧ c = 0) := by
  have hv := view_bytes hok h hlt
  obtain ⟨a, n, cap, xs, rfl, hn, hnc, hcm, hx, hat⟩ := hv
  refine ⟨a, n, cap, xs, rfl, hnc, hcm, hx, ⟨hn, fun hl => ?_⟩, fun e => ?_⟩
  · rcases hat with h | ⟨b, off, e, hb, ha⟩
    · omega
    · exact ⟨b, off, e, hb, ha⟩
  · subst e
    obtain ⟨fuel, hf⟩ := h
    rcases open_ints Try.underlying28 Try.underlying5 Try.cells5 hf with ⟨hcs, _⟩ | ⟨a, len', cap', zs, hcs, _⟩
    · simp [Value.cells] at hcs
      exact hcs
    · simp [Value.cells] at hcs
end Go.Proofs.Ytnimhlkoikjomaa
