/- Sealed bytes that came in by value. -/
import Derived.Test.YtnimhlkoikjomaaViewN
import Derived.Test.YtnimhlkoikjomaaViewC
namespace Go.Proofs.Ytnimhlkoikjomaa
open Go.ChangeShapes Go.WideShapes Go.ChangeAt Go.RowKit
set_option maxRecDepth 20000

theorem Try.cells39 : Try.prog.cellsOf 39 = 3 := by kernel_rfl
theorem view_sealed {H : Type} {enc : TypeId × Value → H} {W : World} {base : Nat} {v : Value} {d : DataW H} {p : List MemPlace}
    (hok : Value.okWide Try.prog W .any base 39 v) (h : DataW.Trod enc Try.prog W 0 (fun _ => true) true 39 v d p) (hlt : ∀ x ∈ p, x.block < W.heap.size) :
    ∃ (t : BitVec 64 × BitVec 64) (x : Option Addr) (n c : Nat) (xs : List Int), v = .agg #[.slice x n c, .int .u64 (nv t.1), .int .u64 (nv t.2)] ∧ n ≤ c ∧ c ≤ maxLen ∧ Bytes xs ∧ SAt W x n xs ∧ (x = none → n = 0 ∧ c = 0) := by
  simp only [Value.okWide, Try.underlying39] at hok
  obtain ⟨cs, rfl, hsz, _⟩ := hok
  rw [Try.cells39] at hsz
  obtain ⟨c0, c1, c2, rfl⟩ := three_of cs hsz
  obtain ⟨fuel, hf⟩ := h
  obtain ⟨ys, m, _, hx, _, hl, hy⟩ := DataW.trod_struct Try.underlying39 hf
  match ys, hl with
  | [y0, y1], _ =>
    have h0 := hy 0 _ rfl
    have h1 := hy 1 _ rfl
    simp [Try.cells28, Try.cells25, Value.cells] at h0 h1
    simp only [Prod.mk.injEq] at hx
    obtain ⟨q, hq⟩ := pair_cells h1
    simp at hq
    obtain ⟨rfl, rfl⟩ := hq
    obtain ⟨x, n, c, xs, rfl, r⟩ := sat_cells h0 (fun z hz => hlt z (by rw [hx.2]; simp [hz]))
    exact ⟨q, x, n, c, xs, rfl, r⟩
end Go.Proofs.Ytnimhlkoikjomaa
