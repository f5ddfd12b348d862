/- NonceEnds' walk. -/
import Derived.Test.YtcplekodbgmneaaNonLaws
namespace Go.Proofs.Ytcplekodbgmneaa
open Go.RowKit
set_option maxRecDepth 20000
variable {Inv : (Nat → Prop) → World → Value → Nat × Nat → Prop}

theorem nend_at (hO : MkIs Inv) (F : Nat → Prop) (v : Value) (B : Nat) (ep : Int) {sv : Int} (hsv : 0 ≤ sv ∧ sv ≤ 65535) (w : World) (hI : Inv F w v (B, 100)) :
    Calls Try.prog 9 #[v, .int .u32 ep, .int .i64 sv] w fun e w' => ∃ F', e = .returned (.tuple #[.agg #[.int .u32 0, .int .u32 0, .int .u64 0], .int .i64 6]) ∧ KeptG Inv F w v F' w' (B, 100) := by
  obtain ⟨s, rfl⟩ : ∃ s : Nat, sv = s := ⟨sv.toNat, by omega⟩
  exact hO.nextEnd F v B ep s (by omega) w hI
theorem nnil_at (hO : MkIs Inv) (ep : Int) {sv : Int} (hsv : 0 ≤ sv ∧ sv ≤ 65535) (w : World) : Calls Try.prog 9 #[.pointer none, .int .u32 ep, .int .i64 sv] w fun e w' => (∃ a b c, e = .returned (.tuple #[.agg #[.int .u32 a, .int .u32 b, .int .u64 c], .int .i64 6])) ∧ Below w.heap.size w w' := by
  obtain ⟨s, rfl⟩ : ∃ s : Nat, sv = s := ⟨sv.toNat, by omega⟩
  exact hO.nextNil ep s (by omega) w
set_option maxHeartbeats 2000000 in
theorem nends (hO : MkIs Inv) (B : Nat) (mo : Int) (w : World) :
    Calls Try.prog 5 #[.int .u64 (B : Int), .int .i64 mo] w fun e w' => e = .returned (.bool true) ∧ Below w.heap.size w w' := by
  have heq := eqN
  by_cases hb : 4294967296 ≤ B
  · have hb' : (4294967296 : Int) ≤ B := by omega
    go_enter Try.func5, Try.ntmps5
    go_wp2
    go_ret
    exact ⟨rfl, Below.refl _ _⟩
  have hb' : ¬ (4294967296 : Int) ≤ B := by omega
  by_cases hm0 : mo < 0
  · go_enter Try.func5, Try.ntmps5
    go_wp2
    go_ret
    exact ⟨rfl, Below.refl _ _⟩
  by_cases hm1 : 20 < mo
  · go_enter Try.func5, Try.ntmps5
    go_wp2
    go_ret
    exact ⟨rfl, Below.refl _ _⟩
  go_enter Try.func5, Try.ntmps5
  go_wp2_with fail
  refine (hO.make B (by omega) _).mono ?_
  rintro e w1 ⟨v, F, rfl, hI, hF, hB⟩
  obtain ⟨a, rfl⟩ := hO.base.ptr hI
  have M0 : ObjIn Inv w F (.pointer (some a)) (B, 0) w1 := ⟨hI, hF, hB⟩
  clear hI hF hB
  have HB := hide' hb
  clear hb hb'
  go_wp2_with fail
  go_loopw [7] (fun i wr => ∃ (k : Nat) (F : Nat → Prop), k ≤ 100 ∧ i = .int .i64 (k : Int) ∧ ObjIn Inv w F (.pointer (some a)) (B, k) wr) (fun i _ => 100 - (intOf i).toNat)
  case atStart => exact ⟨0, F, by omega, rfl, M0⟩
  case round =>
    clear M0 F
    obtain ⟨k, F, hk, rfl, M⟩ := hrel
    by_cases hlt : k < 100
    · obtain ⟨ver, HV⟩ : ∃ ver, Hid ((B : Int) * 4294967296 + k + 1 = ver) := ⟨_, rfl⟩
      go_wp2_with fail
      refine (nnext_at hO F _ B k 1 k rfl HV.out (by have := HB.out; omega) hlt (by omega) _ M.inv).mono ?_
      rintro e w2 ⟨F2, rfl, hK⟩
      replace M := M.o hK
      clear hK
      replace M := M.quiet hO.base ((Below.refl _ _).alloc (Nat.le_refl _) (.cells #[.int .u32 1, .int .u32 (k : Int), .int .u64 ver] 34))
      go_wp2
      go_roundw
      case rel => exact ⟨k + 1, F2, by omega, by go_num, M⟩
      case measure => simp [intOf]; omega
    · rw [show k = 100 from by omega] at M
      go_wp2_with fail
      clear hlt hk
      generalize (k : Int) = k0 at *
      go_loopw [10] (fun i wr => ∃ (k : Nat) (F : Nat → Prop), (k : Int) ≤ mo ∧ i = .int .i64 (k : Int) ∧ ObjIn Inv w F (.pointer (some a)) (B, 100) wr) (fun i _ => mo.toNat - (intOf i).toNat)
      case atStart => exact ⟨0, F, by omega, rfl, M⟩
      case round =>
        clear M F
        obtain ⟨k, F, hk, rfl, M⟩ := hrel
        by_cases hlt : (k : Int) < mo
        · go_wp2_with fail
          refine (nend_at hO F _ B 1 (by decide) _ M.inv).mono ?_
          rintro e w2 ⟨F2, rfl, hK⟩
          replace M := M.o hK
          clear hK
          have bN := CBox.new 34 w2 #[.int .u32 0, .int .u32 0, .int .u64 0]
          replace M := M.quiet hO.base ((Below.refl _ _).alloc (Nat.le_refl _) (.cells #[.int .u32 0, .int .u32 0, .int .u64 0] 34))
          go_wp2
          go_roundw
          case rel => exact ⟨k + 1, F2, by omega, by go_num, M⟩
          case measure => simp [intOf]; omega
        · go_wp2_with fail
          refine (nnil_at hO 1 (by decide) _).mono ?_
          rintro e w2 ⟨⟨c1, c2, c3, rfl⟩, hb⟩
          replace M := M.quiet hO.base hb
          clear hb
          replace M := M.quiet hO.base ((Below.refl _ _).alloc (Nat.le_refl _) (.cells #[.int .u32 c1, .int .u32 c2, .int .u64 c3] 34))
          go_wp2_with fail
          refine (nleft_at hO F _ B 100 (l := 0) rfl (by decide) _ M.inv).mono ?_
          rintro e w3 ⟨F3, rfl, hK⟩
          replace M := M.o hK
          go_wp2_with fail
          refine (hO.leftNil _).mono ?_
          rintro e w4 ⟨rfl, hb⟩
          replace M := M.quiet hO.base hb
          clear hb
          go_wp2_with fail
          refine (nknown hO _).mono ?_
          rintro e w5 ⟨rfl, hb⟩
          replace M := M.quiet hO.base hb
          go_wp2
          go_ret
          exact ⟨rfl, M.hB⟩
end Go.Proofs.Ytcplekodbgmneaa
