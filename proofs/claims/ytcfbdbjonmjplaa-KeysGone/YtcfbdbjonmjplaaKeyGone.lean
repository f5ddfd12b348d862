/- The walk of KeysGone. -/
import Derived.Test.YtcfbdbjonmjplaaKeyKnown
namespace Go.Proofs.Ytcfbdbjonmjplaa
open Go.RowKit
set_option maxRecDepth 20000
variable {PI : (Nat → Prop) → World → Value → PSt → Prop} {KI : Option Addr → (Nat → Prop) → World → Value → KSt → Prop}
/-- Which epochs are there in the end. -/
theorem gone_has {s : BitVec 64} {n m b e : Nat} (h1 : 1 ≤ e) (h2 : e ≤ n + 1 + m) : kHas (s, min (max 1 b) (1 + n), 1 + n + m) e = decide (b ≤ e ∨ n < e) := by
  unfold kHas
  rw [Bool.eq_iff_iff, decide_eq_true_eq, decide_eq_true_eq]
  dsimp only
  omega
set_option maxHeartbeats 4000000 in
theorem kgone (hW : PowIs PI) (hO : KeysIs PI KI) (s : BitVec 64) (n : Int) (b : Nat) (hb32 : U32 b) (m : Int) (w : World) : Calls Try.prog 5 #[.int .u64 (nv s), .int .i64 n, .int .u32 (b : Int), .int .i64 m] w fun e w' => e = .returned (.bool true) ∧ Below w.heap.size w w' := by
  by_cases h1 : n < 0
  · go_enter Try.func5, Try.ntmps5
    go_wp2
    go_ret
    exact ⟨rfl, Below.refl _ _⟩
  by_cases h2 : 20 < n
  · go_enter Try.func5, Try.ntmps5
    go_wp2
    go_ret
    exact ⟨rfl, Below.refl _ _⟩
  by_cases h3 : m < 0
  · go_enter Try.func5, Try.ntmps5
    go_wp2
    go_ret
    exact ⟨rfl, Below.refl _ _⟩
  by_cases h4 : 20 < m
  · go_enter Try.func5, Try.ntmps5
    go_wp2
    go_ret
    exact ⟨rfl, Below.refl _ _⟩
  obtain ⟨n, rfl⟩ : ∃ k : Nat, n = k := ⟨n.toNat, by omega⟩
  obtain ⟨m, rfl⟩ : ∃ k : Nat, m = k := ⟨m.toNat, by omega⟩
  have hn : Hid (n ≤ 20) := hide' (by omega)
  have hm : Hid (m ≤ 20) := hide' (by omega)
  go_enter Try.func5, Try.ntmps5
  go_wp2_with fail
  refine (hW.make _).mono ?_
  rintro e w1 ⟨v, G, rfl, hI, hG, hB⟩
  obtain ⟨a, rfl⟩ := hW.base.ptr hI
  have M1 : ObjIn PI w G (.pointer (some a)) (true, none, 0) w1 := ⟨hI, hG, hB⟩
  clear hI hG hB h1 h2 h3 h4
  go_wp2_with fail
  refine (hO.make (some a) s _).mono ?_
  rintro e w2 ⟨v, F, rfl, hI, hF, hB⟩
  obtain ⟨c, rfl⟩ := (hO.base _).ptr hI
  have M := M1.pair hW.base hI hF hB
  clear hI hF hB M1
  go_wp2_with fail
  go_loopw [10] (fun i wr => ∃ (k : Nat) (H : Nat → Prop), k ≤ n ∧ i = .int .i64 (k : Int) ∧ ObjIn (KPI PI KI (some a)) w H (.pointer (some c)) ((s, 1, 1 + k), (true, none, k)) wr) (fun i _ => n - (intOf i).toNat)
  case atStart => exact ⟨0, _, by omega, rfl, M⟩
  case round =>
    clear M
    obtain ⟨k, H, hk, rfl, M⟩ := hrel
    by_cases hlt : k < n
    · have hlt' : (k : Int) < n := by omega
      have hw : IntKind.i64.wrap ((k : Int) + 1) = (k : Int) + 1 := by
        have := hn.out
        rw [IntKind.wrap_i64]
        omega
      go_wp2_with fail
      refine (kadd_at hO (some a) _ _ (s' := ((s, 1, 1 + (k + 1)), (true, none, k + 1))) (r := true) rfl ⟨Nat.le_refl 1, by dsimp only; omega, by have := hn.out; dsimp only; omega⟩ (by have := hn.out; dsimp only; omega) _ M.inv).mono ?_
      rintro e w3 ⟨H3, rfl, hK⟩
      replace M := M.o hK
      clear hK
      go_wp2
      go_roundw
      case rel => exact ⟨k + 1, _, by omega, by go_num, M⟩
      case measure => simp [intOf]; omega
    · have hlt' : ¬ (k : Int) < n := by omega
      obtain rfl : k = n := by omega
      clear hlt
      go_wp2_with fail
      refine (kerase_at hO (some a) _ _ (n := b) (s' := ((s, min (max 1 b) (1 + k), 1 + k), (true, none, k + 1))) (r := true) rfl hb32 rfl ⟨Nat.le_refl 1, by dsimp only; omega, by have := hn.out; dsimp only; omega⟩ (by have := hn.out; dsimp only; omega) _ M.inv).mono ?_
      rintro e w4 ⟨H4, rfl, hK⟩
      replace M : ObjIn (KPI PI KI (some a)) w H4 (.pointer (some c)) ((s, min (max 1 b) (1 + k), 1 + k + 0), (true, none, k + 1 + 0)) w4 := M.o hK
      clear hK H hk
      go_wp2_with fail
      obtain ⟨lo, hlo⟩ : ∃ lo, Hid (lo = min (max 1 b) (1 + k)) := ⟨_, rfl⟩
      rw [← hlo.out] at M
      go_loopw [11] (fun i wr => ∃ (j : Nat) (H : Nat → Prop), j ≤ m ∧ i = .int .i64 (j : Int) ∧ ObjIn (KPI PI KI (some a)) w H (.pointer (some c)) ((s, lo, 1 + k + j), (true, none, k + 1 + j)) wr) (fun i _ => m - (intOf i).toNat)
      case atStart => exact ⟨0, _, by omega, rfl, M⟩
      case round =>
        clear M H4
        obtain ⟨j, H, hj, rfl, M⟩ := hrel
        by_cases hlt : j < m
        · have hlt2 : (j : Int) < m := by omega
          have hw : IntKind.i64.wrap ((j : Int) + 1) = (j : Int) + 1 := by
            have := hm.out
            rw [IntKind.wrap_i64]
            omega
          have hok : KOk (s, lo, 1 + k + j) := by
            have := hm.out
            have := hn.out
            have := hlo.out
            exact ⟨by dsimp only; omega, by dsimp only; omega, by dsimp only; omega⟩
          have hqq : k + 1 + j ≤ 1000000 := by
            have := hm.out
            have := hn.out
            omega
          go_wp2_with fail
          refine (kadd_at hO (some a) _ _ (s' := ((s, lo, 1 + k + (j + 1)), (true, none, k + 1 + (j + 1)))) (r := true) rfl hok hqq _ M.inv).mono ?_
          rintro e w3 ⟨H3, rfl, hK⟩
          replace M := M.o hK
          clear hK hok hqq
          go_wp2
          go_roundw
          case rel => exact ⟨j + 1, _, by omega, by go_num, M⟩
          case measure => simp [intOf]; omega
        · have hlt2 : ¬ (j : Int) < m := by omega
          obtain rfl : j = m := by omega
          clear hlt hj
          have hok : KOk (s, lo, 1 + k + j) := by
            have := hm.out
            have := hn.out
            have := hlo.out
            exact ⟨by dsimp only; omega, by dsimp only; omega, by dsimp only; omega⟩
          go_wp2_with fail
          obtain ⟨J, hJ⟩ : ∃ J : Int, Hid (J = (j : Int)) := ⟨_, rfl⟩
          rw [← hJ.out]
          go_loopw [12] (fun i wr => ∃ (e : Nat) (H : Nat → Prop), 1 ≤ e ∧ e ≤ k + 1 + j + 1 ∧ i = .int .i64 (e : Int) ∧ ObjIn (KPI PI KI (some a)) w H (.pointer (some c)) ((s, lo, 1 + k + j), (true, none, k + 1 + j)) wr) (fun i _ => k + 1 + j + 1 - (intOf i).toNat)
          case atStart => exact ⟨1, _, by omega, by omega, rfl, M⟩
          case round =>
            clear M H
            obtain ⟨e, H, he1, he2, rfl, M⟩ := hrel
            have hw1 : IntKind.i64.wrap ((k : Int) + 1) = (k : Int) + 1 := by
              have := hn.out
              rw [IntKind.wrap_i64]
              omega
            have hw2 : IntKind.i64.wrap ((k : Int) + 1 + J) = (k : Int) + 1 + J := by
              have := hn.out
              have := hm.out
              have := hJ.out
              rw [IntKind.wrap_i64]
              omega
            by_cases hle : e ≤ k + 1 + j
            · have hle' : (e : Int) ≤ (k : Int) + 1 + J := by
                have := hJ.out
                omega
              have hw : IntKind.i64.wrap ((e : Int) + 1) = (e : Int) + 1 := by
                have := hm.out
                have := hn.out
                rw [IntKind.wrap_i64]
                omega
              have he1000 : e ≤ 1000000 := by
                have := hm.out
                have := hn.out
                omega
              have hw32 := u32_small he1000
              have hhas : kHas (s, lo, 1 + k + j) e = decide (b ≤ e ∨ k < e) := by
                rw [hlo.out]
                exact gone_has he1 hle
              go_wp2_with fail
              refine (kkey_at hO (some a) _ _ _ (n := e) rfl (U32.small he1000) hok _ M.inv).mono ?_
              rintro x w6 ⟨rfl, hb⟩
              replace M := M.quiet (pairbase (hO.base _) hW.base _) hb
              clear hb
              rw [hhas]
              generalize nv (kKey ((s, lo, 1 + k + j), (true, none, k + 1 + j)).1 e).1 = k1
              generalize nv (kKey ((s, lo, 1 + k + j), (true, none, k + 1 + j)).1 e).2 = k2
              have hb : Below w6.heap.size w6 (w6.alloc (.cells #[.int .u64 k1, .int .u64 k2] 46)) := (Below.refl _ _).alloc (Nat.le_refl _) _
              replace M := M.quiet (pairbase (hO.base _) hW.base _) hb
              clear hb hhas he1000 hok
              by_cases hbe : b ≤ e
              · have hbe' : (b : Int) ≤ (e : Int) := by omega
                rw [show decide (b ≤ e ∨ k < e) = true from decide_eq_true (Or.inl hbe)]
                go_wp2
                go_roundw
                case rel => exact ⟨e + 1, _, by omega, by omega, by go_num, M⟩
                case measure => simp [intOf]; omega
              · have hbe' : ¬ (b : Int) ≤ (e : Int) := by omega
                by_cases hke : k < e
                · have hke' : (k : Int) < (e : Int) := by omega
                  rw [show decide (b ≤ e ∨ k < e) = true from decide_eq_true (Or.inr hke)]
                  go_wp2
                  go_roundw
                  case rel => exact ⟨e + 1, _, by omega, by omega, by go_num, M⟩
                  case measure => simp [intOf]; omega
                · have hke' : ¬ (k : Int) < (e : Int) := by omega
                  rw [show decide (b ≤ e ∨ k < e) = false from decide_eq_false (fun h => h.elim hbe hke)]
                  go_wp2
                  go_roundw
                  case rel => exact ⟨e + 1, _, by omega, by omega, by go_num, M⟩
                  case measure => simp [intOf]; omega
            · have hle' : ¬ (e : Int) ≤ (k : Int) + 1 + J := by
                have := hJ.out
                omega
              clear hok
              go_wp2_with fail
              refine (hO.keyNil 1 _).mono ?_
              rintro x w6 ⟨rfl, hb⟩
              replace M := M.quiet (pairbase (hO.base _) hW.base _) hb
              have hb : Below w6.heap.size w6 (w6.alloc (.cells #[.int .u64 0, .int .u64 0] 46)) := (Below.refl _ _).alloc (Nat.le_refl _) _
              replace M := M.quiet (pairbase (hO.base _) hW.base _) hb
              clear hb
              go_wp2_with fail
              generalize w6.alloc (.cells #[.int .u64 0, .int .u64 0] 46) = w7 at *
              refine (hO.addNil _).mono ?_
              rintro x w8 ⟨rfl, hb⟩
              replace M := M.quiet (pairbase (hO.base _) hW.base _) hb
              clear hb
              go_wp2_with fail
              refine (hO.eraseNil 1 _).mono ?_
              rintro x w8 ⟨rfl, hb⟩
              replace M := M.quiet (pairbase (hO.base _) hW.base _) hb
              clear hb
              go_wp2_with fail
              refine (hO.currentNil _).mono ?_
              rintro x w8 ⟨rfl, hb⟩
              replace M := M.quiet (pairbase (hO.base _) hW.base _) hb
              clear hb
              go_wp2_with fail
              refine (hO.epochsNil _).mono ?_
              rintro x w8 ⟨⟨z, cz, rfl⟩, hb⟩
              replace M := M.quiet (pairbase (hO.base _) hW.base _) hb
              clear hb
              go_wp2_with fail
              refine (kknown hW hO _).mono ?_
              rintro x w8 ⟨rfl, hb⟩
              replace M := M.quiet (pairbase (hO.base _) hW.base _) hb
              clear hb
              go_wp2
              go_ret
              exact ⟨rfl, M.hB⟩
end Go.Proofs.Ytcfbdbjonmjplaa
