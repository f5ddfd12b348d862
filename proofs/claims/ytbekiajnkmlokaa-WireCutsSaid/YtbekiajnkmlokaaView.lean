/- A slice of bytes that came in: what it holds, as the walks ask it. -/
import Derived.Test.YtbekiajnkmlokaaPut
import Derived.Test.YtbekiajnkmlokaaLaw
import Derived.Test.YtbekiajnkmlokaaLex
namespace Go.Proofs.Ytbekiajnkmlokaa
open Go.ChangeShapes Go.WideShapes Go.ChangeAt Go.RowKit

theorem Try.cells5 : Try.prog.cellsOf 5 = 1 := by kernel_rfl

theorem add_plain' (b off i : Nat) : (⟨b, off, none⟩ : Addr).add i = ⟨b, off + i, none⟩ := by unfold Addr.add; split <;> simp_all

theorem u8_range {a : Int} (h : (Lit.int .u8 a).wf = true) : 0 ≤ a ∧ a < 256 := by
  have hx : 0 ≤ a ∧ a ≤ 255 := by simpa [Lit.wf, IntKind.min, IntKind.max, IntKind.signed, IntKind.bits] using h
  omega

theorem view_bytes {H : Type} {enc : TypeId × Value → H} {W : World} {base : Nat} {v : Value} {d : DataW H} {p : List MemPlace}
    (hok : Value.okWide Try.prog W .any base 23 v) (h : DataW.Trod enc Try.prog W 0 (fun _ => true) true 23 v d p) (hlt : ∀ x ∈ p, x.block < W.heap.size) :
    ∃ (a : Option Addr) (n cap : Nat) (xs : List Int), v = .slice a n cap ∧ xs.length = n ∧ n ≤ cap ∧ cap ≤ maxLen ∧ Bytes xs ∧ (n = 0 ∨ ∃ b off, a = some ⟨b, off, none⟩ ∧ b < W.heap.size ∧ At W b off xs) := by
  obtain ⟨a0, len, cap, rfl⟩ := okWide_slice Try.underlying23 hok
  obtain ⟨fuel, hf⟩ := h
  rcases open_ints Try.underlying23 Try.underlying5 Try.cells5 hf with ⟨hcs, hx⟩ | ⟨a, len', cap', zs, hcs, _, hl, hm, hz, hx, hcell, hwz⟩
  · simp [Value.cells] at hcs
    obtain ⟨rfl, rfl, rfl⟩ := hcs
    exact ⟨none, 0, 0, [], rfl, rfl, Nat.le_refl _, Nat.zero_le _, (fun x hx => by cases hx), Or.inl rfl⟩
  · simp [Value.cells] at hcs
    obtain ⟨rfl, rfl, rfl⟩ := hcs
    simp only [Prod.mk.injEq] at hx
    obtain ⟨rfl, rfl⟩ := hx
    simp only [if_true] at hz
    have hlen : (zs.take len).length = len := by rw [List.length_take]; omega
    refine ⟨some a, len, cap, zs.take len, rfl, hlen, hl, hm, fun x hx => u8_range (hwz x (List.mem_of_mem_take hx)), ?_⟩
    by_cases hl0 : len = 0
    · exact Or.inl hl0
    · right
      obtain ⟨b, off, spot⟩ := a
      have hspot : spot = none := by simpa [Addr.add] using World.cell?_spot (hcell 0 (by omega))
      subst hspot
      refine ⟨b, off, rfl, hlt (.cell b off) (MemPlace.mem_row.2 ⟨0, by omega, by simp⟩), fun i hi => ?_⟩
      rw [hlen] at hi
      rw [← add_plain', hcell i (by omega)]
      simp [hi]

theorem conv_empty (a : Option Addr) (cap : Nat) (w : World) : (convert 23 9 (.slice a 0 cap)).run Try.prog w = .ok (.string (strOfNums [])) w := by
  cases a with
  | none => exact run_convert_bytes_nil w 23 5 Try.underlying23 Try.underlying5 0 cap 9 Try.underlying9
  | some ad =>
    rw [run_convert_bytes_string w 23 9 5 _ 0 cap Try.underlying23 Try.underlying5 Try.underlying9, run_bytesToString w ad 0 cap [] (run_loadCells_list (P := Try.prog) w ad [] (fun j v hj => by simp at hj))]
    rfl

/-- Bytes that say one number are one. -/
theorem map_byt_num : ∀ (xs ys : List Int), xs.length = ys.length → Bytes xs → Bytes ys → num xs = num ys → xs = ys := by
  intro xs
  induction xs with
  | nil => intro ys hl _ _ _; cases ys with
    | nil => rfl
    | cons y ys => simp at hl
  | cons x xs ih =>
    intro ys hl hx hy h
    cases ys with
    | nil => simp at hl
    | cons y ys =>
      have hl' : xs.length = ys.length := by simpa using hl
      have b1 := num_range xs hx.tail
      have b2 := num_range ys hy.tail
      rw [num_cons, num_cons, hl'] at h
      rw [hl'] at b1
      have hxy : x = y := by
        by_cases e : x < y
        · have := mul_gap _ x y (num xs) (num ys) e (by omega) b1.2 b2.1; omega
        · by_cases e' : y < x
          · have := mul_gap _ y x (num ys) (num xs) e' (by omega) b2.2 b1.1; omega
          · omega
      subst hxy
      rw [ih ys hl' hx.tail hy.tail (by omega)]

/-- The bytes of the number of bytes are the bytes. -/
theorem putL_num : ∀ (xs : List Int), Bytes xs → putL (num xs).toNat xs.length = xs := by
  intro xs hx
  have hr := num_range xs hx
  apply map_byt_num
  · exact putL_length _ _
  · exact putL_bytes _ _
  · exact hx
  · rw [num_putL]
    have e : (256 : Int) ^ xs.length = ((256 ^ xs.length : Nat) : Int) := by simp
    rw [e] at hr
    rw [Nat.mod_eq_of_lt (by omega)]
    omega
end Go.Proofs.Ytbekiajnkmlokaa
