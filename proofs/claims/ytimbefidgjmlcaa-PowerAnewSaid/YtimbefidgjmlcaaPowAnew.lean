/- PowerAnew's walk. -/
import Derived.Test.YtimbefidgjmlcaaPowLaws
namespace Go.Proofs.Ytimbefidgjmlcaa
open Go.RowKit
set_option maxRecDepth 20000
variable {Inv : (Nat → Prop) → World → Value → PSt → Prop}

/-- Behind i steps of a fuse of B: what is left, how many were done. -/
def AnewAt (B : Option Nat) (i d : Nat) (st : PSt) : Prop :=
  match B with
  | none => st = (true, none, i) ∧ d = i
  | some B => (i ≤ B ∧ st = (true, some (B - i), i) ∧ d = i) ∨ (B < i ∧ st = (false, some 0, B) ∧ d = B)
theorem anew_next {B : Option Nat} {i d : Nat} {st : PSt} (h : AnewAt B i d st) : ∃ r st', pSpend st = (r, st') ∧ st.2.2 ≤ i ∧ ((r = true ∧ AnewAt B (i + 1) (d + 1) st') ∨ (r = false ∧ AnewAt B (i + 1) d st')) := by
  cases B with
  | none =>
    obtain ⟨rfl, rfl⟩ := h
    exact ⟨true, _, pSpend_free _, Nat.le_refl _, Or.inl ⟨rfl, rfl, rfl⟩⟩
  | some B =>
    rcases h with ⟨h1, rfl, rfl⟩ | ⟨h1, rfl, rfl⟩
    · by_cases e : d = B
      · subst e
        rw [show d - d = 0 from by omega]
        exact ⟨false, _, pSpend_end _, Nat.le_refl _, Or.inr ⟨rfl, Or.inr ⟨by omega, rfl, rfl⟩⟩⟩
      · rw [show B - d = (B - (d + 1)) + 1 from by omega]
        exact ⟨true, _, pSpend_some _ _, Nat.le_refl _, Or.inl ⟨rfl, Or.inl ⟨by omega, rfl, rfl⟩⟩⟩
    · exact ⟨false, _, pSpend_gone _ _, by show d ≤ i; omega, Or.inr ⟨rfl, Or.inr ⟨by omega, rfl, rfl⟩⟩⟩
set_option maxHeartbeats 2000000 in
theorem panew (hO : PowIs Inv) (x b s : Int) (w : World) : Calls Try.prog 6 #[.int .i64 x, .int .i64 b, .int .i64 s] w fun e w' => e = .returned (.bool true) ∧ Below w.heap.size w w' := by
  by_cases h1 : x < 0
  · go_enter Try.func6, Try.ntmps6
    go_wp2
    go_ret
    exact ⟨rfl, Below.refl _ _⟩
  by_cases h2 : 50 < x
  · go_enter Try.func6, Try.ntmps6
    go_wp2
    go_ret
    exact ⟨rfl, Below.refl _ _⟩
  by_cases h3 : 50 < b
  · go_enter Try.func6, Try.ntmps6
    go_wp2
    go_ret
    exact ⟨rfl, Below.refl _ _⟩
  by_cases h4 : s < 0
  · go_enter Try.func6, Try.ntmps6
    go_wp2
    go_ret
    exact ⟨rfl, Below.refl _ _⟩
  by_cases h5 : 100 < s
  · go_enter Try.func6, Try.ntmps6
    go_wp2
    go_ret
    exact ⟨rfl, Below.refl _ _⟩
  obtain ⟨s, rfl⟩ : ∃ k : Nat, s = k := ⟨s.toNat, by omega⟩
  have hs : Hid (s ≤ 100) := hide' (by omega)
  have hb : Hid (b ≤ 50) := hide' (by omega)
  have hx : Hid (x ≤ 50) := hide' (by omega)
  go_enter Try.func6, Try.ntmps6
  go_wp2_with fail
  refine (hO.make _).mono ?_
  rintro e w1 ⟨v, F, rfl, hI, hF, hB⟩
  obtain ⟨a, rfl⟩ := hO.base.ptr hI
  have M : ObjIn Inv w F (.pointer (some a)) (true, none, 0) w1 := ⟨hI, hF, hB⟩
  clear hI hF hB h1 h2 h3 h4 h5
  go_wp2_with fail
  refine (fuse_at hO F _ _ rfl (by have := hx.out; omega) _ M.inv).mono ?_
  rintro e w2 ⟨F2, rfl, hK⟩
  replace M := M.o hK
  clear hK
  go_wp2_with fail
  refine (fuse_at hO F2 _ _ rfl (by have := hb.out; omega) _ M.inv).mono ?_
  rintro e w3 ⟨F3, rfl, hK⟩
  replace M := M.o hK
  clear hK
  obtain ⟨B, hBe⟩ : ∃ B : Option Nat, (if b < 0 then none else some b.toNat) = B := ⟨_, rfl⟩
  have M0 : ∃ st, AnewAt B 0 0 st ∧ ObjIn Inv w F3 (.pointer (some a)) st w3 := by
    refine ⟨_, ?_, M⟩
    have e : pFuse (pFuse (true, none, 0) x) b = (true, B, 0) := by rw [← hBe]; rfl
    rw [e]
    cases B with
    | none => exact ⟨rfl, rfl⟩
    | some B => exact Or.inl ⟨Nat.zero_le _, rfl, rfl⟩
  clear M
  obtain ⟨st, hA, M⟩ := M0
  replace hBe := hide' hBe
  go_wp2_with fail
  go_loopw [8, 9] (fun t i wr => ∃ (k d : Nat) (F : Nat → Prop) (st : PSt), k ≤ s ∧ d ≤ k ∧ t = .int .i64 (d : Int) ∧ i = .int .i64 (k : Int) ∧ AnewAt B k d st ∧ ObjIn Inv w F (.pointer (some a)) st wr) (fun _ i _ => s - (intOf i).toNat)
  case atStart => exact ⟨0, 0, F3, st, by omega, by omega, rfl, rfl, hA, M⟩
  case round =>
    clear M F F2 F3 hA st
    obtain ⟨k, d, F, st, hk, hd, rfl, rfl, hA, M⟩ := hrel
    by_cases hlt : k < s
    · have hlt' : (k : Int) < s := by omega
      have hw : IntKind.i64.wrap ((k : Int) + 1) = (k : Int) + 1 := by
        have := hs.out
        rw [IntKind.wrap_i64]
        omega
      have hwd : IntKind.i64.wrap ((d : Int) + 1) = (d : Int) + 1 := by
        have := hs.out
        rw [IntKind.wrap_i64]
        omega
      obtain ⟨r, st', hp, hle, hr⟩ := anew_next hA
      clear hA
      go_wp2_with fail
      refine (spend_at hO F _ hp (by have := hs.out; omega) _ M.inv).mono ?_
      rintro e w4 ⟨F4, rfl, hK⟩
      replace M := M.o hK
      clear hK hp hle
      rcases hr with ⟨rfl, hA⟩ | ⟨rfl, hA⟩
      · go_wp2
        go_roundw
        case rel => exact ⟨k + 1, d + 1, F4, st', by omega, by omega, by go_num, by go_num, hA, M⟩
        case measure => simp [intOf]; omega
      · go_wp2
        go_roundw
        case rel => exact ⟨k + 1, d, F4, st', by omega, by omega, rfl, by go_num, hA, M⟩
        case measure => simp [intOf]; omega
    · have hlt' : ¬ (k : Int) < s := by omega
      obtain rfl : k = s := by omega
      clear hlt hk
      by_cases hb0 : b < 0
      · have hB0 : B = none := by
          have := hBe.out
          rw [if_pos hb0] at this
          exact this.symm
        subst hB0
        obtain ⟨rfl, rfl⟩ := hA
        have hb1 : ¬ 0 ≤ b := by omega
        clear hd hlt'
        go_wp2_with fail
        refine (hO.on F _ _ _ M.inv).mono ?_
        rintro e w4 ⟨rfl, hb4⟩
        replace M := M.quiet hO.base hb4
        clear hb4
        go_wp2_with fail
        refine (pknown hO _).mono ?_
        rintro e w6 ⟨rfl, hb6⟩
        replace M := M.quiet hO.base hb6
        go_wp2
        go_ret
        exact ⟨rfl, M.hB⟩
      · obtain ⟨B', rfl⟩ : ∃ n : Nat, b = n := ⟨b.toNat, by omega⟩
        have hB0 : B = some B' := by
          have := hBe.out
          rw [if_neg hb0] at this
          rw [← this]
          rfl
        subst hB0
        have hb1 : (0 : Int) ≤ B' := by omega
        clear hd hlt' hb0
        rcases hA with ⟨h1, rfl, rfl⟩ | ⟨h1, rfl, rfl⟩
        · have hmn : min (d : Int) (B' : Int) = d := by omega
          have hle : (d : Int) ≤ B' := by omega
          go_wp2_with fail
          refine (hO.on F _ _ _ M.inv).mono ?_
          rintro e w4 ⟨rfl, hb4⟩
          replace M := M.quiet hO.base hb4
          clear hb4
          go_wp2_with fail
          refine (pknown hO _).mono ?_
          rintro e w6 ⟨rfl, hb6⟩
          replace M := M.quiet hO.base hb6
          go_wp2
          go_ret
          exact ⟨rfl, M.hB⟩
        · have hmn : min (k : Int) (d : Int) = d := by omega
          have hle : ¬ (k : Int) ≤ d := by omega
          have hle2 : (d : Int) ≤ k := by omega
          have hne : ¬ (d : Int) = k := by omega
          go_wp2_with fail
          refine (hO.on F _ _ _ M.inv).mono ?_
          rintro e w4 ⟨rfl, hb4⟩
          replace M := M.quiet hO.base hb4
          clear hb4
          go_wp2_with fail
          refine (pknown hO _).mono ?_
          rintro e w6 ⟨rfl, hb6⟩
          replace M := M.quiet hO.base hb6
          go_wp2
          go_ret
          refine ⟨?_, M.hB⟩
          show Ending.returned (.bool (!((d : Int) == (k : Int)))) = _
          rw [show ((d : Int) == (k : Int)) = false from by simp; omega]
          rfl
end Go.Proofs.Ytimbefidgjmlcaa
