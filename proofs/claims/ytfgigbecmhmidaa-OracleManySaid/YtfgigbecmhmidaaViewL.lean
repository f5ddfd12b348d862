/- A slice of rows of bytes that came in. -/
import Derived.Test.YtfgigbecmhmidaaLAt
import Derived.Deep.Matrix
namespace Go.Proofs.Ytfgigbecmhmidaa
open Go.ChangeShapes Go.WideShapes Go.ChangeAt Go.RowKit Go.Deep

theorem Try.cells37 : Try.prog.cellsOf 37 = 1 := by kernel_rfl
theorem Try.bytes5 : Try.prog.bytesOf 5 = 1 := by kernel_rfl
theorem weights_all {H : Type} {P : Program} {e : TypeId} {d : DataW H} : ∀ {l : List (DataW H)}, d ∈ l → ∀ n ∈ d.weights P e, n ∈ DataW.weightsAll P e l
  | x :: l, h, n, hn => by
    simp only [DataW.weightsAll, List.mem_append]
    rcases List.mem_cons.1 h with rfl | h
    · exact Or.inl hn
    · exact Or.inr (weights_all h n hn)
theorem view_rows {H : Type} {enc : TypeId × Value → H} {W : World} {base : Nat} {v : Value} {d : DataW H} {p : List MemPlace}
    (hok : Value.okWide Try.prog W .any base 58 v) (h : DataW.Trod enc Try.prog W 0 (fun _ => true) true 58 v d p) (hsz : ∀ n ∈ d.weights Try.prog 58, n ≤ reachBytes) :
    ∃ (x : Option Addr) (m c : Nat) (P : List (List Int)), v = .slice x m c ∧ m ≤ c ∧ (x = none → m = 0 ∧ c = 0) ∧ (∀ ys ∈ P, Bytes ys ∧ ys.length ≤ 140737488351232) ∧ LAt W x m P := by
  obtain ⟨a0, len, cap, rfl⟩ := okWide_slice Try.underlying58 hok
  obtain ⟨fuel, hf⟩ := h
  rcases open_int_rows Try.underlying58 Try.underlying37 Try.underlying5 Try.cells37 Try.cells5 hf with ⟨hcs, hx⟩ | ⟨a, len', cap', A, L, C, Z, hcs, _, hl, hm, hx, hrow⟩
  · simp [Value.cells] at hcs
    obtain ⟨rfl, rfl, rfl⟩ := hcs
    exact ⟨none, 0, 0, [], rfl, Nat.le_refl _, fun _ => ⟨rfl, rfl⟩, (fun ys hy => by cases hy), lat_none _ _⟩
  · simp [Value.cells] at hcs
    obtain ⟨rfl, rfl, rfl⟩ := hcs
    simp only [Prod.mk.injEq] at hx
    obtain ⟨rfl, rfl⟩ := hx
    have hlen : ∀ r, r < len → ((Z r).take (L r)).length = L r := fun r hr => by
      have := hrow r (by omega)
      rw [List.length_take]
      omega
    have hby : ∀ r, r < len → Bytes ((Z r).take (L r)) := fun r hr x hx => u8_range ((hrow r (by omega)).2.2.2.2.1 x (List.mem_of_mem_take hx))
    refine ⟨some a, len, cap, (List.range len).map fun r => (Z r).take (L r), rfl, hl, (fun e => by cases e), fun ys hy => ?_, by simp, fun hn => ?_⟩
    · obtain ⟨r, hr, rfl⟩ := List.mem_map.1 hy
      have hr := List.mem_range.1 hr
      refine ⟨hby r hr, ?_⟩
      rw [hlen r hr]
      have h1 := hrow r (by omega)
      cases hA : A r with
      | none =>
        have := h1.2.2.2.2.2.1 hA
        omega
      | some a' =>
        have hd : intRow (H := H) .u8 (A r) (L r) (Z r) ∈ (List.range len).map fun r => intRow (H := H) .u8 (A r) (L r) (Z r) := List.mem_map.2 ⟨r, List.mem_range.2 hr, rfl⟩
        have hw := hsz ((L r + (C r - L r)) * 1) (by
          simp only [DataW.weights, Try.underlying58, List.mem_cons, List.mem_append]
          refine Or.inr (Or.inl (weights_all hd _ ?_))
          rw [hA, intRow]
          simp only [DataW.weights, Try.underlying37, List.mem_cons]
          refine Or.inl ?_
          rw [Try.bytes5]
          simp [lits, h1.2.2.2.1]
          omega)
        have : reachBytes = 140737488351232 := by decide
        omega
    · obtain ⟨b, off, spot⟩ := a
      have h0 := (hrow 0 (by omega)).1
      have hspot : spot = none := by simpa [Addr.add] using World.cell?_spot h0
      subst hspot
      refine ⟨b, off, rfl, World.block_lt_of_cell? W _ (by simpa [add_plain'] using h0), fun r hr => ?_⟩
      have h1 := hrow r (by omega)
      have e : ((List.range len).map fun r => (Z r).take (L r)).getD r [] = (Z r).take (L r) := by simp [hr]
      rw [e]
      refine RowIn.of (y := A r) (n := L r) (c := C r) (by rw [← add_plain']; exact h1.1) ⟨hlen r hr, fun hL => ?_⟩ h1.2.1 h1.2.2.1 (fun e => ?_) (hby r hr)
      · cases hA : A r with
        | none =>
          have := h1.2.2.2.2.2.1 hA
          omega
        | some a' =>
          obtain ⟨b', off', spot'⟩ := a'
          have hc := (h1.2.2.2.2.2.2 _ hA).2
          have hs' : spot' = none := by simpa [Addr.add] using World.cell?_spot (hc 0 (by omega))
          subst hs'
          refine ⟨b', off', rfl, World.block_lt_of_cell? W _ (by simpa [add_plain'] using hc 0 (by omega)), fun i hi => ?_⟩
          rw [hlen r hr] at hi
          rw [← add_plain', hc i (by omega)]
          simp [hi]
      · have := h1.2.2.2.2.2.1 e
        omega
end Go.Proofs.Ytfgigbecmhmidaa
