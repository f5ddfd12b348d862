/- A counter with its power; what is known of it; the walk of CountOfNothing. -/
import Derived.Test.YtdehnfgepnnaiaaCntSaid
namespace Go.Proofs.Ytdehnfgepnnaiaa
open Go.RowKit
set_option maxRecDepth 20000
variable {PI : (Nat → Prop) → World → Value → PSt → Prop} {CI : Option Addr → (Nat → Prop) → World → Value → CSt → Prop}
theorem cbump_at (hO : CntIs PI CI) (p : Option Addr) (H : Nat → Prop) (v : Value) {s s' : CP} {r : Bool} (h : dBump s = (r, s')) (h1 : s.1.1 ≤ 1000000) (h2 : s.2.2.2 ≤ 1000000) (w : World) (hI : PairI (CI p) PI (.pointer p) H w v s) : Calls Try.prog 8 #[v] w fun e w' => ∃ H', e = .returned (.bool r) ∧ KeptG (PairI (CI p) PI (.pointer p)) H w v H' w' s' := by
  obtain ⟨F, G, a, b, c, d⟩ := hI
  have e1 : r = (pSpend s.2).1 := congrArg Prod.fst h.symm
  have e2 : s' = (dBump s).2 := congrArg Prod.snd h.symm
  subst e1 e2
  exact (hO.bump p F G v s.1 s.2 h1 h2 w a b c).mono (by rintro e w' ⟨F', G', rfl, hK⟩; exact ⟨_, rfl, hK.pair d⟩)
theorem cboot_at (hO : CntIs PI CI) (p : Option Addr) (H : Nat → Prop) (v : Value) {s s' : CP} {r : Bool} (h : dBoot s = (r, s')) (h1 : s.1.2.1 ≤ 1000000) (h2 : s.2.2.2 ≤ 1000000) (w : World) (hI : PairI (CI p) PI (.pointer p) H w v s) : Calls Try.prog 10 #[v] w fun e w' => ∃ H', e = .returned (.bool r) ∧ KeptG (PairI (CI p) PI (.pointer p)) H w v H' w' s' := by
  obtain ⟨F, G, a, b, c, d⟩ := hI
  have e1 : r = (pSpend s.2).1 := congrArg Prod.fst h.symm
  have e2 : s' = (dBoot s).2 := congrArg Prod.snd h.symm
  subst e1 e2
  exact (hO.boot p F G v s.1 s.2 h1 h2 w a b c).mono (by rintro e w' ⟨F', G', rfl, hK⟩; exact ⟨_, rfl, hK.pair d⟩)
theorem cvalue_at (hO : CntIs PI CI) (p : Option Addr) (H : Nat → Prop) (v : Value) (s : CP) (w : World) (hI : PairI (CI p) PI (.pointer p) H w v s) : Calls Try.prog 16 #[v] w fun e w' => e = .returned (.int .u64 (s.1.1 : Int)) ∧ Below w.heap.size w w' := by
  obtain ⟨F, G, a, b, c, d⟩ := hI
  exact hO.value p F v s.1 w a
theorem cboots_at (hO : CntIs PI CI) (p : Option Addr) (H : Nat → Prop) (v : Value) (s : CP) (w : World) (hI : PairI (CI p) PI (.pointer p) H w v s) : Calls Try.prog 17 #[v] w fun e w' => e = .returned (.int .u64 (s.1.2.1 : Int)) ∧ Below w.heap.size w w' := by
  obtain ⟨F, G, a, b, c, d⟩ := hI
  exact hO.boots p F v s.1 w a
theorem cat__at (hO : CntIs PI CI) (p : Option Addr) (H : Nat → Prop) (v : Value) (s : CP) (w : World) (hI : PairI (CI p) PI (.pointer p) H w v s) : Calls Try.prog 18 #[v] w fun e w' => e = .returned (.int .u64 (s.1.2.2 : Int)) ∧ Below w.heap.size w w' := by
  obtain ⟨F, G, a, b, c, d⟩ := hI
  exact hO.at_ p F v s.1 w a
theorem cback_at (hW : PowIs PI) (hO : CntIs PI CI) (p : Option Addr) (H : Nat → Prop) (v : Value) (s : CP) (w : World) (hI : PairI (CI p) PI (.pointer p) H w v s) : Calls Try.prog 12 #[.pointer p] w fun e w' => ∃ H', e = .returned (.tuple #[]) ∧ KeptG (PairI (CI p) PI (.pointer p)) H w v H' w' (s.1, pBack s.2) := by
  obtain ⟨F, G, a, b, c, d⟩ := hI
  exact (hW.back G _ s.2 w b).mono (by rintro e w' ⟨G', rfl, hK⟩; exact ⟨_, rfl, hK.pair2 (hO.base p) a c d⟩)
theorem cfuse_at (hW : PowIs PI) (hO : CntIs PI CI) (p : Option Addr) (H : Nat → Prop) (v : Value) (s : CP) (n : Int) (hn : n ≤ 9223372036854775807) (w : World) (hI : PairI (CI p) PI (.pointer p) H w v s) : Calls Try.prog 14 #[.pointer p, .int .i64 n] w fun e w' => ∃ H', e = .returned (.tuple #[]) ∧ KeptG (PairI (CI p) PI (.pointer p)) H w v H' w' (s.1, pFuse s.2 n) := by
  obtain ⟨F, G, a, b, c, d⟩ := hI
  exact (hW.fuse G _ s.2 n hn w b).mono (by rintro e w' ⟨G', rfl, hK⟩; exact ⟨_, rfl, hK.pair2 (hO.base p) a c d⟩)
set_option maxHeartbeats 1000000 in
theorem cknown (hW : PowIs PI) (hO : CntIs PI CI) (w : World) : Calls Try.prog 19 #[] w fun e w' => e = .returned (.bool true) ∧ Below w.heap.size w w' := by
  go_enter Try.func19, Try.ntmps19
  go_wp2_with fail
  refine (hW.make _).mono ?_
  rintro e w1 ⟨v, G, rfl, hI, hG, hB⟩
  obtain ⟨a, rfl⟩ := hW.base.ptr hI
  have M1 : ObjIn PI w G (.pointer (some a)) (true, none, 0) w1 := ⟨hI, hG, hB⟩
  clear hI hG hB
  go_wp2_with fail
  refine (hO.make (some a) _).mono ?_
  rintro e w2 ⟨v, F, rfl, hI, hF, hB⟩
  obtain ⟨c, rfl⟩ := (hO.base _).ptr hI
  have M := M1.pair hW.base hI hF hB
  clear hI hF hB M1
  go_wp2_with fail
  refine (cboot_at hO (some a) _ _ (s := ((0, 0, 0), (true, none, 0))) (s' := ((0, 1, 0), (true, none, 1))) (r := true) rfl (by decide) (by decide) _ M.inv).mono ?_
  rintro e w3 ⟨H3, rfl, hK⟩
  replace M := M.o hK
  clear hK
  go_wp2_with fail
  refine (cbump_at hO (some a) _ _ (s := ((0, 1, 0), (true, none, 1))) (s' := ((1, 1, 1), (true, none, 2))) (r := true) rfl (by decide) (by decide) _ M.inv).mono ?_
  rintro e w4 ⟨H4, rfl, hK⟩
  replace M := M.o hK
  clear hK
  go_wp2_with fail
  refine (cbump_at hO (some a) _ _ (s := ((1, 1, 1), (true, none, 2))) (s' := ((2, 1, 1), (true, none, 3))) (r := true) rfl (by decide) (by decide) _ M.inv).mono ?_
  rintro e w5 ⟨H5, rfl, hK⟩
  replace M := M.o hK
  clear hK
  go_wp2_with fail
  refine (cvalue_at hO (some a) _ _ _ _ M.inv).mono ?_
  rintro e w6 ⟨rfl, hb⟩
  replace M := M.quiet (pairbase (hO.base _) hW.base _) hb
  clear hb
  go_wp2_with fail
  refine (cboots_at hO (some a) _ _ _ _ M.inv).mono ?_
  rintro e w7 ⟨rfl, hb⟩
  replace M := M.quiet (pairbase (hO.base _) hW.base _) hb
  clear hb
  go_wp2_with fail
  refine (cat__at hO (some a) _ _ _ _ M.inv).mono ?_
  rintro e w8 ⟨rfl, hb⟩
  replace M := M.quiet (pairbase (hO.base _) hW.base _) hb
  clear hb
  go_wp2
  go_ret
  exact ⟨rfl, M.hB⟩
set_option maxHeartbeats 1000000 in
theorem cnone (hW : PowIs PI) (hO : CntIs PI CI) (n : Int) (w : World) : Calls Try.prog 4 #[.int .i64 n] w fun e w' => e = .returned (.bool true) ∧ Below w.heap.size w w' := by
  by_cases h1 : n < 0
  · go_enter Try.func4, Try.ntmps4
    go_wp2
    go_ret
    exact ⟨rfl, Below.refl _ _⟩
  by_cases h2 : 20 < n
  · go_enter Try.func4, Try.ntmps4
    go_wp2
    go_ret
    exact ⟨rfl, Below.refl _ _⟩
  obtain ⟨n, rfl⟩ : ∃ k : Nat, n = k := ⟨n.toNat, by omega⟩
  have hn : Hid (n ≤ 20) := hide' (by omega)
  go_enter Try.func4, Try.ntmps4
  go_wp2_with fail
  clear h1 h2
  go_loopw [4] (fun i wr => ∃ k : Nat, k ≤ n ∧ i = .int .i64 (k : Int) ∧ Below w.heap.size w wr) (fun i _ => n - (intOf i).toNat)
  case atStart => exact ⟨0, by omega, rfl, Below.refl _ _⟩
  case round =>
    obtain ⟨k, hk, rfl, hB⟩ := hrel
    by_cases hlt : k < n
    · have hlt' : (k : Int) < n := by omega
      have hw : IntKind.i64.wrap ((k : Int) + 1) = (k : Int) + 1 := by
        have := hn.out
        rw [IntKind.wrap_i64]
        omega
      go_wp2_with fail
      refine (hO.bumpNil _).mono ?_
      rintro e w1 ⟨rfl, hb⟩
      replace hB := hB.trans (hb.mono hB.size)
      clear hb
      go_wp2_with fail
      refine (hO.bootNil _).mono ?_
      rintro e w2 ⟨rfl, hb⟩
      replace hB := hB.trans (hb.mono hB.size)
      clear hb
      go_wp2
      go_roundw
      case rel => exact ⟨k + 1, by omega, by go_num, hB⟩
      case measure => simp [intOf]; omega
    · have hlt' : ¬ (k : Int) < n := by omega
      go_wp2_with fail
      refine (hO.valueNil _).mono ?_
      rintro e w1 ⟨rfl, hb⟩
      replace hB := hB.trans (hb.mono hB.size)
      clear hb
      go_wp2_with fail
      refine (hO.bootsNil _).mono ?_
      rintro e w1 ⟨rfl, hb⟩
      replace hB := hB.trans (hb.mono hB.size)
      clear hb
      go_wp2_with fail
      refine (hO.atNil _).mono ?_
      rintro e w1 ⟨rfl, hb⟩
      replace hB := hB.trans (hb.mono hB.size)
      clear hb
      go_wp2_with fail
      refine (cknown hW hO _).mono ?_
      rintro e w2 ⟨rfl, hb⟩
      replace hB := hB.trans (hb.mono hB.size)
      clear hb
      go_wp2
      go_ret
      exact ⟨rfl, hB⟩
end Go.Proofs.Ytdehnfgepnnaiaa
