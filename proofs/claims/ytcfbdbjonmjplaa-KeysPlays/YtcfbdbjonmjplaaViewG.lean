/- A slice of structs that came in. -/
import Derived.Test.YtcfbdbjonmjplaaLaw
import Derived.Deep.Slices
import Derived.Deep.Strs
import Derived.Test.YtcfbdbjonmjplaaRowsAt
namespace Go.Proofs.Ytcfbdbjonmjplaa
open Go.ChangeShapes Go.WideShapes Go.ChangeAt Go.RowKit Go.Deep
set_option maxRecDepth 20000

theorem view_each {α : Type} [Inhabited α] {T E size : Nat} (hT : Try.prog.underlying T = some (.slice E)) (hE : Try.prog.cellsOf E = size) (h0 : 0 < size) {R : World → List Value → α → Prop} {H : Type} {enc : TypeId × Value → H} {W : World} {base : Nat} {v : Value} {d : DataW H} {p : List MemPlace}
    (each : ∀ (fuel : Nat) (cs : List Value) (e : DataW H × List MemPlace), cs.length = size → DataW.trod enc Try.prog W 0 (fun _ => true) true fuel E cs = some e → (∀ q ∈ e.2, q.block < W.heap.size) → ∃ a, R W cs a)
    (hok : Value.okWide Try.prog W .any base T v) (h : DataW.Trod enc Try.prog W 0 (fun _ => true) true T v d p) (hlt : ∀ x ∈ p, x.block < W.heap.size) :
    ∃ (x : Option Addr) (m c : Nat) (L : List α), v = .slice x m c ∧ (m ≤ c ∧ c ≤ maxLen ∧ (x = none → m = 0 ∧ c = 0)) ∧ RowsAt size R W x m L := by
  obtain ⟨a0, len, cap, rfl⟩ := okWide_slice hT hok
  obtain ⟨fuel, hf⟩ := h
  rcases open_slice hT hf with ⟨hcs, _⟩ | ⟨a, len', cap', m, n, D, Pl, hcs, _, hl, hm, hmm, hx, hel⟩
  · simp [Value.cells] at hcs
    obtain ⟨rfl, rfl, rfl⟩ := hcs
    exact ⟨none, 0, 0, [], rfl, ⟨Nat.le_refl _, Nat.zero_le _, fun _ => ⟨rfl, rfl⟩⟩, rfl, fun h => absurd h (by omega)⟩
  · simp [Value.cells] at hcs
    obtain ⟨rfl, rfl, rfl⟩ := hcs
    simp only [Prod.mk.injEq] at hx
    rw [hE] at hel
    have hlm : len ≤ m := by rw [hmm]; split <;> omega
    have each' : ∀ i, ∃ A : α, i < len → ∃ cs, cs.length = size ∧ (∀ j u, cs[j]? = some u → W.cell? ((a.add (i * size)).add j) = some u) ∧ R W cs A := by
      intro i
      by_cases hi : i < len
      · obtain ⟨cs, hc, ht⟩ := hel i (by omega)
        have hs := World.cells?_some hc
        obtain ⟨A, r⟩ := each _ _ _ hs.2.1 ht (fun q hq => hlt q (by rw [hx.2]; exact List.mem_append_right _ (List.mem_flatMap.2 ⟨i, List.mem_range.2 (by omega), hq⟩)))
        refine ⟨A, fun _ => ⟨cs, hs.2.1, fun j u hj => ?_, r⟩⟩
        have hj10 : j < size := by
          rcases Nat.lt_or_ge j cs.length with h' | h'
          · rw [hs.2.1] at h'; exact h'
          · rw [List.getElem?_eq_none h'] at hj
            cases hj
        have := hs.2.2 j hj10
        rw [this]
        exact hj
      · exact ⟨default, fun h => absurd h hi⟩
    obtain ⟨f, hf2⟩ := Classical.axiomOfChoice each'
    refine ⟨some a, len, cap, (List.range len).map f, rfl, ⟨hl, hm, fun e => by cases e⟩, by simp, fun hn => ?_⟩
    obtain ⟨b, off, spot⟩ := a
    obtain ⟨cs, hcl, hc0, _⟩ := hf2 0 hn
    have hcell0 := hc0 0 cs[0] (List.getElem?_eq_getElem (by omega))
    have hspot : spot = none := by simpa [Addr.add] using World.cell?_spot hcell0
    subst hspot
    refine ⟨b, off, rfl, World.block_lt_of_cell? W _ (by simpa [add_plain'] using hcell0), fun i hi => ?_⟩
    rw [show ((List.range len).map f).getD i default = f i from by simp [hi]]
    obtain ⟨cs, hcl, hc1, r⟩ := hf2 i hi
    refine ⟨cs, hcl, fun j u hj => ?_, r⟩
    have := hc1 j u hj
    rw [add_plain', add_plain'] at this
    exact this
end Go.Proofs.Ytcfbdbjonmjplaa
