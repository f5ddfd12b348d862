/- Sealed bytes, and a byte, that came in by value. -/
import Derived.Test.YtafjhidkhboaiaaViewN
import Derived.Test.YtafjhidkhboaiaaFldView
import Derived.Test.YtafjhidkhboaiaaGcmTrn
namespace Go.Proofs.Ytafjhidkhboaiaa
open Go.ChangeShapes Go.WideShapes Go.ChangeAt Go.RowKit

theorem Try.cells28 : Try.prog.cellsOf 28 = 1 := by kernel_rfl
theorem Try.cells30 : Try.prog.cellsOf 30 = 3 := by kernel_rfl
theorem word8_of {a : Int} (h : (Lit.int .u8 a).wf = true) : ∃ x : BitVec 8, a = nv8 x := by
  have hx := u8_range h
  refine ⟨BitVec.ofInt 8 a, ?_⟩
  unfold nv8
  rw [BitVec.toNat_ofInt]
  omega
theorem sat_cells {H : Type} {enc : TypeId × Value → H} {W : World} {fuel : Nat} {v : Value} {e : DataW H × List MemPlace} (h : DataW.trod enc Try.prog W 0 (fun _ => true) true fuel 28 [v] = some e) (hlt : ∀ q ∈ e.2, q.block < W.heap.size) :
    ∃ (x : Option Addr) (n c : Nat) (xs : List Int), v = .slice x n c ∧ n ≤ c ∧ c ≤ maxLen ∧ Bytes xs ∧ SAt W x n xs ∧ (x = none → n = 0 ∧ c = 0) := by
  rcases open_ints Try.underlying28 Try.underlying5 Try.cells5 h with ⟨hcs, hx⟩ | ⟨a, len, cap, zs, hcs, _, hl, hm, hz, hx, hcell, hwz⟩
  · simp at hcs
    subst hcs
    exact ⟨none, 0, 0, [], rfl, Nat.le_refl _, Nat.zero_le _, bytes_nil, SAt.none _ _, fun _ => ⟨rfl, rfl⟩⟩
  · simp at hcs
    subst hcs
    subst hx
    simp only [if_true] at hz
    have hlen : (zs.take len).length = len := by rw [List.length_take]; omega
    refine ⟨some a, len, cap, zs.take len, rfl, hl, hm, fun x hx => u8_range (hwz x (List.mem_of_mem_take hx)), ⟨hlen, fun hl0 => ?_⟩, fun e => by cases e⟩
    obtain ⟨b, off, spot⟩ := a
    have hspot : spot = none := by simpa [Addr.add] using World.cell?_spot (hcell 0 (by omega))
    subst hspot
    refine ⟨b, off, rfl, hlt (.cell b off) (MemPlace.mem_row.2 ⟨0, by omega, by simp⟩), fun i hi => ?_⟩
    rw [hlen] at hi
    rw [← add_plain', hcell i (by omega)]
    simp [hi]
theorem view_sealed {H : Type} {enc : TypeId × Value → H} {W : World} {base : Nat} {v : Value} {d : DataW H} {p : List MemPlace}
    (hok : Value.okWide Try.prog W .any base 30 v) (h : DataW.Trod enc Try.prog W 0 (fun _ => true) true 30 v d p) (hlt : ∀ x ∈ p, x.block < W.heap.size) :
    ∃ (t : BitVec 64 × BitVec 64) (x : Option Addr) (n c : Nat) (xs : List Int), v = .agg #[.slice x n c, .int .u64 (nv t.1), .int .u64 (nv t.2)] ∧ n ≤ c ∧ c ≤ maxLen ∧ Bytes xs ∧ SAt W x n xs ∧ (x = none → n = 0 ∧ c = 0) := by
  simp only [Value.okWide, Try.underlying30] at hok
  obtain ⟨cs, rfl, hsz, _⟩ := hok
  rw [Try.cells30] at hsz
  obtain ⟨c0, c1, c2, rfl⟩ := three_of cs hsz
  obtain ⟨fuel, hf⟩ := h
  obtain ⟨ys, m, _, hx, _, hl, hy⟩ := DataW.trod_struct Try.underlying30 hf
  match ys, hl with
  | [y0, y1], _ =>
    have h0 := hy 0 _ rfl
    have h1 := hy 1 _ rfl
    simp [Try.cells28, Try.cells24, Value.cells] at h0 h1
    simp only [Prod.mk.injEq] at hx
    obtain ⟨q, hq⟩ := pair_cells h1
    simp at hq
    obtain ⟨rfl, rfl⟩ := hq
    obtain ⟨x, n, c, xs, rfl, r⟩ := sat_cells h0 (fun z hz => hlt z (by rw [hx.2]; simp [hz]))
    exact ⟨q, x, n, c, xs, rfl, r⟩
end Go.Proofs.Ytafjhidkhboaiaa
