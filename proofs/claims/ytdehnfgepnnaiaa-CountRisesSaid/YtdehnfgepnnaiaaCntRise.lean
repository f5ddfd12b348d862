/- CountRises' walk. -/
import Derived.Test.YtdehnfgepnnaiaaCntLaws
import Derived.Test.YtdehnfgepnnaiaaViewBo
namespace Go.Proofs.Ytdehnfgepnnaiaa
open Go.RowKit
set_option maxRecDepth 20000
variable {PI : (Nat → Prop) → World → Value → PSt → Prop} {CI : Option Addr → (Nat → Prop) → World → Value → CSt → Prop}

theorem u64_up {n : Nat} (h : n ≤ 1000) : IntKind.u64.wrap ((n : Int) + 1) = (n : Int) + 1 := by
  rw [IntKind.wrap_u64]
  omega
set_option maxHeartbeats 2000000 in
theorem crises (hW : PowIs PI) (hO : CntIs PI CI) (x : Option Addr) (m c : Nat) (A : List Bool) (w : World) (f1 : m ≤ c ∧ c ≤ maxLen ∧ (x = none → m = 0 ∧ c = 0)) (s1 : RowsAt 1 BoolR w x m A) :
    Calls Try.prog 5 #[.slice x m c] w fun e w' => e = .returned (.bool true) ∧ Below w.heap.size w w' := by
  by_cases hm : 200 < m
  · have h1 : (200 : Int) < m := by omega
    go_enter Try.func5, Try.ntmps5
    go_wp2
    go_ret
    exact ⟨rfl, Below.refl _ _⟩
  have h1 : ¬ (200 : Int) < m := by omega
  have HM : Hid (m ≤ 200) := hide' (by omega)
  go_enter Try.func5, Try.ntmps5
  go_wp2_with fail
  refine (hW.make _).mono ?_
  rintro e w1 ⟨v, G, rfl, hI, hG, hB⟩
  obtain ⟨a, rfl⟩ := hW.base.ptr hI
  have M1 : ObjIn PI w G (.pointer (some a)) (true, none, 0) w1 := ⟨hI, hG, hB⟩
  clear hI hG hB h1 hm
  go_wp2_with fail
  refine (hO.make (some a) _).mono ?_
  rintro e w2 ⟨v, F, rfl, hI, hF, hB⟩
  obtain ⟨cp, rfl⟩ := (hO.base _).ptr hI
  have M := M1.pair hW.base hI hF hB
  clear hI hF hB M1
  go_wp2_with fail
  go_loopw [7, 4, 5, 6] (fun i va vb vc wr => ∃ (k V B C n : Nat) (H : Nat → Prop), k ≤ m ∧ i = .int .i64 (k : Int) ∧ va = .int .u64 (V : Int) ∧ vb = .int .u64 (B : Int) ∧ vc = .int .u64 (C : Int) ∧ CBd k ((V, B, C), (true, none, n)) ∧ ObjIn (PairI (CI (some a)) PI (.pointer (some a))) w H (.pointer (some cp)) ((V, B, C), (true, none, n)) wr) (fun i _ _ _ _ => m - (intOf i).toNat)
  case atStart => exact ⟨0, 0, 0, 0, 0, _, by omega, rfl, rfl, rfl, rfl, ⟨by decide, by decide, by decide⟩, M⟩
  case round =>
    clear M
    obtain ⟨k, V, B, C, n, H, hk, rfl, rfl, rfl, rfl, hbd, M⟩ := hrel
    have hV : V ≤ k := hbd.1
    have hBk : B ≤ k := hbd.2.1
    have hnk : n ≤ k := hbd.2.2
    have hm := HM.out
    by_cases hlt : k < m
    · have hlt' : (k : Int) < m := by omega
      have hw : IntKind.i64.wrap ((k : Int) + 1) = (k : Int) + 1 := by
        rw [IntKind.wrap_i64]
        omega
      obtain ⟨b, o0, rfl, hb0, kd, hc0⟩ := bool_at s1 hlt
      have hs0 := (M.hB.cell (p := ⟨b, o0 + k, none⟩) hb0).trans hc0
      clear hc0
      cases kd
      · have hw1 := u64_up (n := B) (by omega)
        go_wp2_with fail
        refine (cboot_at hO (some a) _ _ (s' := ((V, B + 1, C), (true, none, n + 1))) (r := true) rfl (show B ≤ 1000000 by omega) (show n ≤ 1000000 by omega) _ M.inv).mono ?_
        rintro e w3 ⟨H3, rfl, hK⟩
        replace M := M.o hK
        replace hbd : CBd (k + 1) ((V, B + 1, C), (true, none, n + 1)) := dBoot_bd hbd
        clear hK hs0 hV hBk hnk hm
        go_wp2
        go_roundw
        case rel => exact ⟨k + 1, V, B + 1, C, n + 1, _, by omega, by go_num, rfl, by go_num, rfl, hbd, M⟩
        case measure => simp [intOf]; omega
      · have hw1 := u64_up (n := V) (by omega)
        go_wp2_with fail
        refine (cbump_at hO (some a) _ _ (s' := ((V + 1, B, B), (true, none, n + 1))) (r := true) rfl (show V ≤ 1000000 by omega) (show n ≤ 1000000 by omega) _ M.inv).mono ?_
        rintro e w3 ⟨H3, rfl, hK⟩
        replace M := M.o hK
        replace hbd : CBd (k + 1) ((V + 1, B, B), (true, none, n + 1)) := dBump_bd hbd
        clear hK hs0 hV hBk hnk hm
        go_wp2
        go_roundw
        case rel => exact ⟨k + 1, V + 1, B, B, n + 1, _, by omega, by go_num, by go_num, rfl, rfl, hbd, M⟩
        case measure => simp [intOf]; omega
    · have hlt' : ¬ (k : Int) < m := by omega
      clear hbd hV hBk hnk hm
      go_wp2_with fail
      refine (cvalue_at hO (some a) _ _ _ _ M.inv).mono ?_
      rintro e wr1 ⟨rfl, hb⟩
      replace M := M.quiet (pairbase (hO.base _) hW.base _) hb
      clear hb
      go_wp2_with fail
      refine (cboots_at hO (some a) _ _ _ _ M.inv).mono ?_
      rintro e wr1 ⟨rfl, hb⟩
      replace M := M.quiet (pairbase (hO.base _) hW.base _) hb
      clear hb
      go_wp2_with fail
      refine (cat__at hO (some a) _ _ _ _ M.inv).mono ?_
      rintro e wr1 ⟨rfl, hb⟩
      replace M := M.quiet (pairbase (hO.base _) hW.base _) hb
      clear hb
      go_wp2_with fail
      refine (cknown hW hO _).mono ?_
      rintro e w5 ⟨rfl, hb⟩
      replace M := M.quiet (pairbase (hO.base _) hW.base _) hb
      go_wp2
      go_ret
      exact ⟨rfl, M.hB⟩
end Go.Proofs.Ytdehnfgepnnaiaa
