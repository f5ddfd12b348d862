/- Proved: for any slice of bytes and any Pair WirePairs returns true: wire.Pair answers the document's Pair of just 16 bytes and nothing of others, wire.Bytes of it is the bytes, and wire.Pair of wire.Bytes of any Pair is that Pair. No condition. -/
import Derived.Test.YtbekiajnkmlokaaPairs
import Derived.Test.YtbekiajnkmlokaaLaw
namespace Go.Proofs.Ytbekiajnkmlokaa
open Go.ChangeShapes Go.WideShapes Go.ChangeAt Go.RowKit

theorem Try.cells22 : Try.prog.cellsOf 22 = 1 := by kernel_rfl
theorem Try.cells32 : Try.prog.cellsOf 32 = 2 := by kernel_rfl

theorem two_of {α : Type} (cs : Array α) (h : cs.size = 2) : ∃ a b, cs = #[a, b] := by
  obtain ⟨l⟩ := cs
  match l, h with
  | [a, b], _ => exact ⟨a, b, rfl⟩

theorem u64_of {a : Int} (h : (Lit.int .u64 a).wf = true) : ∃ A : Nat, a = A ∧ A < 18446744073709551616 := by
  have hx : 0 ≤ a ∧ a ≤ 18446744073709551615 := by simpa [Lit.wf, IntKind.min, IntKind.max, IntKind.signed, IntKind.bits] using h
  exact ⟨a.toNat, by omega, by omega⟩

theorem view_pair {H : Type} {enc : TypeId × Value → H} {W : World} {base : Nat} {v : Value} {d : DataW H} {p : List MemPlace}
    (hok : Value.okWide Try.prog W .any base 32 v) (h : DataW.Trod enc Try.prog W 0 (fun _ => true) true 32 v d p) :
    ∃ A B : Nat, v = .agg #[.int .u64 A, .int .u64 B] ∧ A < 18446744073709551616 ∧ B < 18446744073709551616 := by
  simp only [Value.okWide, Try.underlying32] at hok
  obtain ⟨cs, rfl, hsz, _⟩ := hok
  rw [Try.cells32] at hsz
  obtain ⟨c0, c1, rfl⟩ := two_of cs hsz
  obtain ⟨fuel, hf⟩ := h
  obtain ⟨xs, m, _, _, _, hl, hx⟩ := DataW.trod_array Try.underlying32 hf
  have h0 := hx 0 (by decide)
  have h1 := hx 1 (by decide)
  simp [Try.cells22, Value.cells] at h0 h1
  rw [List.getElem?_eq_getElem (show 0 < xs.length by omega)] at h0
  rw [List.getElem?_eq_getElem (show 1 < xs.length by omega)] at h1
  obtain ⟨a, e0, _, wa⟩ := DataW.trod_int Try.underlying22 h0
  obtain ⟨b, e1, _, wb⟩ := DataW.trod_int Try.underlying22 h1
  simp at e0 e1
  subst e0 e1
  obtain ⟨A, rfl, hA⟩ := u64_of wa
  obtain ⟨B, rfl, hB⟩ := u64_of wb
  exact ⟨A, B, rfl, hA, hB⟩

set_option maxRecDepth 100000 in
theorem wirePairs_lifted (os : Os) (started : os.Started) (H : Type) (enc : TypeId × Value → H) :
    ReturnsInHanded {} Try.checked os 5 .any (Rows.wirePairsSpec.pre6 enc Try.prog Try.f5 Rows.wirePairsRow.domain false) (Rows.wirePairsSpec.post enc Try.prog Try.f5 false true false false) := by
  refine returnsInHanded_of_change (C := Try.checked) Try.own started (by kernel_rfl) Try.func5
    (ChangeSpec.witness6 (enc := enc) (C := Try.checked) false ⟨#[], #[.slice none 0 0, .agg #[.int .u64 0, .int .u64 0]], []⟩ 8 (by kernel_rfl) (by kernel_rfl) (by kernel_rfl) (by kernel_rfl)) ?_
  intro W base args ds gs before hval0 hW hcnd _
  have hval : ∀ (j : Nat) t v, Try.f5.params[j]? = some t → args[j]? = some v → Value.okWide Try.prog W .any base t v := hval0
  have hW' := hW
  obtain ⟨p, q, hA0, hV, rfl, hfz, hnd⟩ := hW
  have hA : DataW.TrodAll enc Try.prog W 0 (fun _ => true) true Try.f5.params.toList args.toList ds p := hA0
  rw [Try.params5] at hA hval
  obtain ⟨v0, v1, d0, d1, p0, p1, rfl, rfl, rfl, h0, h1⟩ := trodAll_two hA
  obtain ⟨rfl, rfl⟩ := trodVars_none hV
  obtain ⟨a, n, cap, xs, rfl, hn, hnc, hcm, hx, hat⟩ := view_bytes (hval 0 23 v0 rfl rfl) h0 (fun x hx => hW'.lt x (by simp [hx]))
  obtain ⟨A, B, rfl, hA1, hB1⟩ := view_pair (hval 1 32 v1 rfl rfl) h1
  clear hA0 hval0
  have fin : Calls Try.prog 5 #[.slice a n cap, .agg #[.int .u64 A, .int .u64 B]] W fun e w' => e = .returned (.bool true) ∧ Below W.heap.size W w' := by
    by_cases h50 : 50 < n
    · exact pairs_long a n cap A B W h50
    · by_cases h16 : n = 16
      · subst h16
        rcases hat with h | ⟨b, off, rfl, hb, hat⟩
        · omega
        · exact pairs_some b off cap xs A B W hn hnc hcm hx hb hat hA1 hB1
      · exact pairs_none a n cap A B W (by omega) h16 hA1 hB1
  refine fin.mono fun e W' ⟨he, hb⟩ => ?_
  subst he
  exact ⟨_, rfl, law_post Try.laidOut (of_decide_eq_true (by kernel_rfl)) (by kernel_rfl) Try.underlying4 rfl hW' rfl hb⟩

theorem wirePairs_holds : Rows.WirePairsSaid :=
  OpenClaim.holds_of_wide 5 Try.f5 rfl rfl rfl rfl rfl rfl rfl ⟨rfl, rfl, rfl, rfl, rfl⟩ rfl rfl rfl rfl rfl (by kernel_rfl) Try.func5 (by kernel_rfl)
    (of_decide_eq_true (by kernel_rfl)) (by unfold Func.isWrapper; first | (rw [if_pos (by decide +kernel)]; kernel_rfl) | (rw [if_neg (by decide +kernel)]; exact ⟨rfl, rfl⟩))
    (fun os started H enc _ => wirePairs_lifted os started H enc)

end Go.Proofs.Ytbekiajnkmlokaa
