/- What is known of a Power; the walks of PowerOfNothing, PowerFuse, PowerAnew. -/
import Derived.Test.YtimbefidgjmlcaaPowSaid
namespace Go.Proofs.Ytimbefidgjmlcaa
open Go.RowKit
set_option maxRecDepth 20000
variable {Inv : (Nat → Prop) → World → Value → PSt → Prop}

theorem spend_at (hO : PowIs Inv) (F : Nat → Prop) (v : Value) {st st' : PSt} {r : Bool} (h : pSpend st = (r, st')) (hn : st.2.2 ≤ 1000000) (w : World) (hI : Inv F w v st) : Calls Try.prog 10 #[v] w fun e w' => ∃ F', e = .returned (.bool r) ∧ KeptG Inv F w v F' w' st' := by
  have := hO.spend F v st hn w hI
  rw [h] at this
  exact this
theorem fuse_at (hO : PowIs Inv) (F : Nat → Prop) (v : Value) (st : PSt) {st' : PSt} {n : Int} (h : pFuse st n = st') (hn : n ≤ 1000000) (w : World) (hI : Inv F w v st) : Calls Try.prog 8 #[v, .int .i64 n] w fun e w' => ∃ F', e = .returned (.tuple #[]) ∧ KeptG Inv F w v F' w' st' := by
  subst h
  exact hO.fuse F v st n (by omega) w hI
set_option maxHeartbeats 1000000 in
theorem pknown (hO : PowIs Inv) (w : World) : Calls Try.prog 16 #[] w fun e w' => e = .returned (.bool true) ∧ Below w.heap.size w w' := by
  go_enter Try.func16, Try.ntmps16
  go_wp2_with fail
  refine (hO.make _).mono ?_
  rintro e w1 ⟨v, F, rfl, hI, hF, hB⟩
  obtain ⟨a, rfl⟩ := hO.base.ptr hI
  have M : ObjIn Inv w F (.pointer (some a)) (true, none, 0) w1 := ⟨hI, hF, hB⟩
  clear hI hF hB
  go_wp2_with fail
  refine (fuse_at hO F _ _ (st' := (true, some 1, 0)) rfl (by decide) _ M.inv).mono ?_
  rintro e w2 ⟨F2, rfl, hK⟩
  replace M := M.o hK
  clear hK
  go_wp2_with fail
  refine (spend_at hO F2 _ (pSpend_some 0 0) (by decide) _ M.inv).mono ?_
  rintro e w3 ⟨F3, rfl, hK⟩
  replace M := M.o hK
  clear hK
  go_wp2_with fail
  refine (spend_at hO F3 _ (pSpend_end 1) (by decide) _ M.inv).mono ?_
  rintro e w4 ⟨F4, rfl, hK⟩
  replace M := M.o hK
  clear hK
  go_wp2_with fail
  refine (hO.on F4 _ _ _ M.inv).mono ?_
  rintro e w5 ⟨rfl, hb⟩
  replace M := M.quiet hO.base hb
  clear hb
  go_wp2_with fail
  refine (hO.steps F4 _ _ _ M.inv).mono ?_
  rintro e w6 ⟨rfl, hb⟩
  replace M := M.quiet hO.base hb
  clear hb
  go_wp2
  go_ret
  exact ⟨rfl, M.hB⟩
theorem pnone (hO : PowIs Inv) (n : Int) (w : World) : Calls Try.prog 5 #[.int .i64 n] w fun e w' => e = .returned (.bool true) ∧ Below w.heap.size w w' := by
  go_enter Try.func5, Try.ntmps5
  go_wp2_with fail
  refine (hO.fuseNil n _).mono ?_
  rintro e w1 ⟨rfl, hb1⟩
  go_wp2_with fail
  refine (hO.backNil _).mono ?_
  rintro e w2 ⟨rfl, hb⟩
  replace hb1 := hb1.trans (hb.mono hb1.size)
  clear hb
  go_wp2_with fail
  refine (hO.spendNil _).mono ?_
  rintro e w3 ⟨rfl, hb⟩
  replace hb1 := hb1.trans (hb.mono hb1.size)
  clear hb
  go_wp2_with fail
  refine (hO.onNil _).mono ?_
  rintro e w4 ⟨rfl, hb⟩
  replace hb1 := hb1.trans (hb.mono hb1.size)
  clear hb
  go_wp2_with fail
  refine (hO.stepsNil _).mono ?_
  rintro e w5 ⟨rfl, hb⟩
  replace hb1 := hb1.trans (hb.mono hb1.size)
  clear hb
  go_wp2_with fail
  refine (pknown hO _).mono ?_
  rintro e w6 ⟨rfl, hb⟩
  replace hb1 := hb1.trans (hb.mono hb1.size)
  clear hb
  go_wp2
  go_ret
  exact ⟨rfl, hb1⟩
set_option maxHeartbeats 2000000 in
theorem pfuse_law (hO : PowIs Inv) (n m : Int) (w : World) : Calls Try.prog 4 #[.int .i64 n, .int .i64 m] w fun e w' => e = .returned (.bool true) ∧ Below w.heap.size w w' := by
  by_cases h1 : n < 0
  · go_enter Try.func4, Try.ntmps4
    go_wp2
    go_ret
    exact ⟨rfl, Below.refl _ _⟩
  by_cases h2 : 200 < n
  · go_enter Try.func4, Try.ntmps4
    go_wp2
    go_ret
    exact ⟨rfl, Below.refl _ _⟩
  by_cases h3 : m < 1
  · go_enter Try.func4, Try.ntmps4
    go_wp2
    go_ret
    exact ⟨rfl, Below.refl _ _⟩
  by_cases h4 : 50 < m
  · go_enter Try.func4, Try.ntmps4
    go_wp2
    go_ret
    exact ⟨rfl, Below.refl _ _⟩
  obtain ⟨n, rfl⟩ : ∃ k : Nat, n = k := ⟨n.toNat, by omega⟩
  obtain ⟨m, rfl⟩ : ∃ k : Nat, m = k := ⟨m.toNat, by omega⟩
  have hn : Hid (n ≤ 200) := hide' (by omega)
  have hm : Hid (m ≤ 50) := hide' (by omega)
  go_enter Try.func4, Try.ntmps4
  go_wp2_with fail
  refine (hO.make _).mono ?_
  rintro e w1 ⟨v, F, rfl, hI, hF, hB⟩
  obtain ⟨a, rfl⟩ := hO.base.ptr hI
  have M : ObjIn Inv w F (.pointer (some a)) (true, none, 0) w1 := ⟨hI, hF, hB⟩
  clear hI hF hB h1 h2 h3 h4
  go_wp2_with fail
  refine (fuse_at hO F _ _ (st' := (true, some (n - 0), 0)) (by simp [pFuse]) (by have := hn.out; omega) _ M.inv).mono ?_
  rintro e w2 ⟨F2, rfl, hK⟩
  replace M := M.o hK
  clear hK
  go_wp2_with fail
  go_loopw [6] (fun i wr => ∃ (k : Nat) (F : Nat → Prop), k ≤ n ∧ i = .int .i64 (k : Int) ∧ ObjIn Inv w F (.pointer (some a)) (true, some (n - k), k) wr) (fun i _ => n - (intOf i).toNat)
  case atStart => exact ⟨0, F2, by omega, rfl, M⟩
  case round =>
    clear M F F2
    obtain ⟨k, F, hk, rfl, M⟩ := hrel
    by_cases hlt : k < n
    · have hlt' : (k : Int) < n := by omega
      have hw : IntKind.i64.wrap ((k : Int) + 1) = (k : Int) + 1 := by
              have := hn.out
              rw [IntKind.wrap_i64]
              omega
      go_wp2_with fail
      refine (spend_at hO F _ (st' := (true, some (n - (k + 1)), k + 1)) (r := true) (by rw [show n - k = (n - (k + 1)) + 1 from by omega]; rfl) (by have := hn.out; show k ≤ _; omega) _ M.inv).mono ?_
      rintro e w3 ⟨F3, rfl, hK⟩
      replace M := M.o hK
      clear hK
      go_wp2_with fail
      refine (hO.on F3 _ _ _ M.inv).mono ?_
      rintro e w4 ⟨rfl, hb⟩
      replace M := M.quiet hO.base hb
      clear hb
      go_wp2
      go_roundw
      case rel => exact ⟨k + 1, F3, by omega, by go_num, M⟩
      case measure => simp [intOf]; omega
    · have hlt' : ¬ (k : Int) < n := by omega
      go_wp2_with fail
      obtain rfl : k = n := by omega
      rw [show k - k = 0 from by omega] at M
      clear hlt hlt' hk
      obtain ⟨N, hN⟩ : ∃ N : Int, Hid (N = (k : Int)) := ⟨_, rfl⟩
      rw [← hN.out]
      go_loopw [7] (fun i wr => ∃ (j : Nat) (F : Nat → Prop) (on : Bool), j ≤ m ∧ i = .int .i64 (j : Int) ∧ ObjIn Inv w F (.pointer (some a)) (on, some 0, k) wr) (fun i _ => m - (intOf i).toNat)
      case atStart => exact ⟨0, F, true, by omega, rfl, M⟩
      case round =>
        clear M F
        obtain ⟨j, F, on, hj, rfl, M⟩ := hrel
        by_cases hlt : j < m
        · have hlt' : (j : Int) < m := by omega
          have hw : IntKind.i64.wrap ((j : Int) + 1) = (j : Int) + 1 := by
                      have := hm.out
                      rw [IntKind.wrap_i64]
                      omega
          go_wp2_with fail
          refine (spend_at hO F _ (st' := (false, some 0, k)) (r := false) (by cases on <;> rfl) (by have := hn.out; show k ≤ _; omega) _ M.inv).mono ?_
          rintro e w3 ⟨F3, rfl, hK⟩
          replace M := M.o hK
          clear hK
          go_wp2_with fail
          refine (hO.on F3 _ _ _ M.inv).mono ?_
          rintro e w4 ⟨rfl, hb⟩
          replace M := M.quiet hO.base hb
          clear hb
          go_wp2
          go_roundw
          case rel => exact ⟨j + 1, F3, false, by omega, by go_num, M⟩
          case measure => simp [intOf]; omega
        · have hlt' : ¬ (j : Int) < m := by omega
          go_wp2_with fail
          refine (hO.back F _ _ _ M.inv).mono ?_
          rintro e w3 ⟨F3, rfl, hK⟩
          replace M : ObjIn Inv w F3 (.pointer (some a)) (true, none, k + 0) w3 := M.o hK
          clear hK
          go_wp2_with fail
          clear hlt hlt' hj
          generalize (j : Int) = J at *
          go_loopw [8] (fun i wr => ∃ (j : Nat) (F : Nat → Prop), j ≤ m ∧ i = .int .i64 (j : Int) ∧ ObjIn Inv w F (.pointer (some a)) (true, none, k + j) wr) (fun i _ => m - (intOf i).toNat)
          case atStart => exact ⟨0, F3, by omega, rfl, M⟩
          case round =>
            clear M F F3
            obtain ⟨j, F, hj, rfl, M⟩ := hrel
            by_cases hlt : j < m
            · have hlt' : (j : Int) < m := by omega
              have hw : IntKind.i64.wrap ((j : Int) + 1) = (j : Int) + 1 := by
                              have := hm.out
                              rw [IntKind.wrap_i64]
                              omega
              go_wp2_with fail
              refine (spend_at hO F _ (pSpend_free _) (by have := hn.out; have := hm.out; show k + j ≤ _; omega) _ M.inv).mono ?_
              rintro e w3 ⟨F3, rfl, hK⟩
              replace M := M.o hK
              clear hK
              go_wp2
              go_roundw
              case rel => exact ⟨j + 1, F3, by omega, by go_num, M⟩
              case measure => simp [intOf]; omega
            · have hlt' : ¬ (j : Int) < m := by omega
              have hw1 : IntKind.i64.wrap (N + (m : Int)) = N + m := by
                have := hn.out
                have := hm.out
                have := hN.out
                rw [IntKind.wrap_i64]
                omega
              have hjm : (((k + j : Nat) : Int)) = N + m := by
                have := hN.out
                omega
              go_wp2_with fail
              have h := hO.steps F _ _ _ M.inv
              rw [show (((true, none, k + j) : PSt).2.2 : Int) = N + m from hjm] at h
              refine h.mono ?_
              rintro e w4 ⟨rfl, hb⟩
              replace M := M.quiet hO.base hb
              clear hb h
              go_wp2_with fail
              refine (pknown hO _).mono ?_
              rintro e w6 ⟨rfl, hb⟩
              replace M := M.quiet hO.base hb
              go_wp2
              go_ret
              exact ⟨rfl, M.hB⟩
end Go.Proofs.Ytimbefidgjmlcaa
