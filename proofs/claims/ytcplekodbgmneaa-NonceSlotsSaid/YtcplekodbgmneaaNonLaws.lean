/- What the laws of the maker share: what is known; NonceSlots' walk. -/
import Derived.Test.YtcplekodbgmneaaNonSaid
import Derived.Test.YtcplekodbgmneaaNonB
namespace Go.Proofs.Ytcplekodbgmneaa
open Go.RowKit
set_option maxRecDepth 20000
variable {Inv : (Nat → Prop) → World → Value → Nat × Nat → Prop}

theorem nnext_at (hO : MkIs Inv) (F : Nat → Prop) (v : Value) (B n : Nat) (ep : Int) (s : Nat) {sv ver : Int} (hsv : (s : Int) = sv) (hv : (B : Int) * 4294967296 + n + 1 = ver) (hB : B < 4294967296) (hn : n < 100) (hs : s ≤ 65535) (w : World) (hI : Inv F w v (B, n)) :
    Calls Try.prog 9 #[v, .int .u32 ep, .int .i64 sv] w fun e w' => ∃ F', e = .returned (.tuple #[.agg #[.int .u32 ep, .int .u32 sv, .int .u64 ver], .int .i64 0]) ∧ KeptG Inv F w v F' w' (B, n + 1) := by
  subst hsv hv
  exact hO.next F v B n ep s hB hn hs w hI
theorem nleft_at (hO : MkIs Inv) (F : Nat → Prop) (v : Value) (B n : Nat) {l : Int} (hl : 100 - (n : Int) = l) (hn : n ≤ 100) (w : World) (hI : Inv F w v (B, n)) : Calls Try.prog 11 #[v] w fun e w' => ∃ F', e = .returned (.int .i64 l) ∧ KeptG Inv F w v F' w' (B, n) := by
  subst hl
  exact hO.left F v B n hn w hI
theorem nboot_at (hO : MkIs Inv) (a b ver bt : Int) (h0 : 0 ≤ bt ∧ bt < 4294967296) (h1 : bt * 4294967296 ≤ ver ∧ ver < bt * 4294967296 + 4294967296) (w : World) : Calls Try.prog 13 #[.agg #[.int .u32 a, .int .u32 b, .int .u64 ver]] w fun e w' => e = .returned (.int .u64 bt) ∧ Below w.heap.size w w' := by
  obtain ⟨V, rfl⟩ : ∃ V : Nat, ver = V := ⟨ver.toNat, by omega⟩
  obtain ⟨B, rfl⟩ : ∃ B : Nat, bt = B := ⟨bt.toNat, by omega⟩
  refine (hO.boot a b V (by omega) w).mono ?_
  rintro e w' ⟨rfl, h⟩
  exact ⟨by rw [show V / 4294967296 = B from by omega], h⟩
set_option maxHeartbeats 1000000 in
theorem nknown (hO : MkIs Inv) (w : World) : Calls Try.prog 12 #[] w fun e w' => e = .returned (.bool true) ∧ Below w.heap.size w w' := by
  have heq := eqN
  go_enter Try.func12, Try.ntmps12
  go_wp2_with fail
  refine (hO.make 2 (by decide) _).mono ?_
  rintro e w1 ⟨v, F, rfl, hI, hF, hB⟩
  obtain ⟨a, rfl⟩ := hO.base.ptr hI
  have M : ObjIn Inv w F (.pointer (some a)) (2, 0) w1 := ⟨hI, hF, hB⟩
  clear hI hF hB
  go_wp2_with fail
  refine (nnext_at hO F _ 2 0 3 4 (sv := 4) (ver := 8589934593) rfl rfl (by decide) (by decide) (by decide) _ M.inv).mono ?_
  rintro e w2 ⟨F2, rfl, hK⟩
  replace M := M.o hK
  clear hK
  have bN := CBox.new 34 w2 #[.int .u32 3, .int .u32 4, .int .u64 8589934593]
  replace M := M.quiet hO.base ((Below.refl _ _).alloc (Nat.le_refl _) (.cells #[.int .u32 3, .int .u32 4, .int .u64 8589934593] 34))
  go_wp2_with fail
  refine (nleft_at hO F2 _ 2 1 (l := 99) rfl (by decide) _ M.inv).mono ?_
  rintro e w3 ⟨F3, rfl, hK⟩
  replace M := M.o hK
  go_wp2
  go_ret
  exact ⟨rfl, M.hB⟩
set_option maxHeartbeats 2000000 in
theorem nslots (hO : MkIs Inv) (B : Nat) (ep s : Int) (hB64 : B < 18446744073709551616) (w : World) :
    Calls Try.prog 6 #[.int .u64 (B : Int), .int .u32 ep, .int .i64 s] w fun e w' => e = .returned (.bool true) ∧ Below w.heap.size w w' := by
  have heq := eqN
  by_cases hb : 4294967296 ≤ B
  · have hb' : (4294967296 : Int) ≤ B := by omega
    go_enter Try.func6, Try.ntmps6
    go_wp2
    go_ret
    exact ⟨rfl, Below.refl _ _⟩
  have hb' : ¬ (4294967296 : Int) ≤ B := by omega
  go_enter Try.func6, Try.ntmps6
  go_wp2_with fail
  refine (hO.make B (by omega) _).mono ?_
  rintro e w1 ⟨v, F, rfl, hI, hF, hB⟩
  obtain ⟨a, rfl⟩ := hO.base.ptr hI
  have M : ObjIn Inv w F (.pointer (some a)) (B, 0) w1 := ⟨hI, hF, hB⟩
  clear hI hF hB
  go_wp2_with fail
  by_cases hs : s < 0 ∨ 65535 < s
  · refine (hO.nextArg F _ B 0 ep s hs _ M.inv).mono ?_
    rintro e w2 ⟨F2, rfl, hK⟩
    replace M := M.o hK
    clear hK
    have bN := CBox.new 34 w2 #[.int .u32 0, .int .u32 0, .int .u64 0]
    replace M := M.quiet hO.base ((Below.refl _ _).alloc (Nat.le_refl _) (.cells #[.int .u32 0, .int .u32 0, .int .u64 0] 34))
    have hs' : s < 0 ∨ ¬ s < 0 ∧ 65535 < s := by omega
    rcases hs' with hs1 | ⟨hs1, hs2⟩
    · go_wp2_with fail
      refine (nleft_at hO F2 _ B 0 (l := 100) rfl (by decide) _ M.inv).mono ?_
      rintro e w3 ⟨F3, rfl, hK⟩
      replace M := M.o hK
      go_wp2_with fail
      refine (nknown hO _).mono ?_
      rintro e w4 ⟨rfl, hb4⟩
      replace M := M.quiet hO.base hb4
      go_wp2
      go_ret
      exact ⟨rfl, M.hB⟩
    · go_wp2_with fail
      refine (nleft_at hO F2 _ B 0 (l := 100) rfl (by decide) _ M.inv).mono ?_
      rintro e w3 ⟨F3, rfl, hK⟩
      replace M := M.o hK
      go_wp2_with fail
      refine (nknown hO _).mono ?_
      rintro e w4 ⟨rfl, hb4⟩
      replace M := M.quiet hO.base hb4
      go_wp2
      go_ret
      exact ⟨rfl, M.hB⟩
  · obtain ⟨s, rfl⟩ : ∃ n : Nat, s = n := ⟨s.toNat, by omega⟩
    have hs1 : ¬ (s : Int) < 0 := by omega
    have hs2 : ¬ (65535 : Int) < s := by omega
    clear hs
    have HB := hide' hb
    clear hb hb'
    have hw1 : IntKind.u64.wrap (IntKind.u64.wrap ((B : Int) * 4294967296) + 1) = (B : Int) * 4294967296 + 1 := by
      have := HB.out
      rw [IntKind.wrap_u64, IntKind.wrap_u64]
      omega
    have hw2 : IntKind.u32.wrap (s : Int) = s := by
      rw [IntKind.wrap_u32]
      omega
    obtain ⟨ver, HV⟩ : ∃ ver, Hid ((B : Int) * 4294967296 + 1 = ver) := ⟨_, rfl⟩
    rw [HV.out] at hw1
    refine (nnext_at hO F _ B 0 ep s (ver := ver) rfl (by have := HV.out; omega) (by have := HB.out; omega) (by decide) (by omega) _ M.inv).mono ?_
    rintro e w2 ⟨F2, rfl, hK⟩
    replace M := M.o hK
    clear hK
    have bN := CBox.new 34 w2 #[.int .u32 ep, .int .u32 (s : Int), .int .u64 ver]
    replace M := M.quiet hO.base ((Below.refl _ _).alloc (Nat.le_refl _) (.cells #[.int .u32 ep, .int .u32 (s : Int), .int .u64 ver] 34))
    go_wp2_with fail
    refine (nboot_at hO ep s _ B (by have := HB.out; omega) (by have := HB.out; have := HV.out; omega) _).mono ?_
    rintro e w3 ⟨rfl, hb3⟩
    replace M := M.quiet hO.base hb3
    go_wp2_with fail
    refine (nleft_at hO F2 _ B 1 (l := 99) rfl (by decide) _ M.inv).mono ?_
    rintro e w4 ⟨F3, rfl, hK⟩
    replace M := M.o hK
    go_wp2_with fail
    refine (nknown hO _).mono ?_
    rintro e w5 ⟨rfl, hb4⟩
    replace M := M.quiet hO.base hb4
    go_wp2
    go_ret
    exact ⟨rfl, M.hB⟩
end Go.Proofs.Ytcplekodbgmneaa
