/- The walk of KeysCurrent. -/
import Derived.Test.YtcfbdbjonmjplaaKeyKnown
import Derived.Test.YtcfbdbjonmjplaaEqP
import Derived.Test.YtcfbdbjonmjplaaRegion
namespace Go.Proofs.Ytcfbdbjonmjplaa
open Go.RowKit
set_option maxRecDepth 20000
variable {PI : (Nat → Prop) → World → Value → PSt → Prop} {KI : Option Addr → (Nat → Prop) → World → Value → KSt → Prop}
set_option maxHeartbeats 4000000 in
theorem kcur (hW : PowIs PI) (hO : KeysIs PI KI) (s : BitVec 64) (n : Int) (b : Nat) (hb32 : U32 b) (w : World) : Calls Try.prog 6 #[.int .u64 (nv s), .int .i64 n, .int .u32 (b : Int)] w fun e w' => e = .returned (.bool true) ∧ Below w.heap.size w w' := by
  by_cases h1 : n < 0
  · go_enter Try.func6, Try.ntmps6
    go_wp2
    go_ret
    exact ⟨rfl, Below.refl _ _⟩
  by_cases h2 : 20 < n
  · go_enter Try.func6, Try.ntmps6
    go_wp2
    go_ret
    exact ⟨rfl, Below.refl _ _⟩
  obtain ⟨n, rfl⟩ : ∃ k : Nat, n = k := ⟨n.toNat, by omega⟩
  have hn : Hid (n ≤ 20) := hide' (by omega)
  have heq := eq32
  go_enter Try.func6, Try.ntmps6
  go_wp2_with fail
  refine (hW.make _).mono ?_
  rintro e w1 ⟨v, G, rfl, hI, hG, hB⟩
  obtain ⟨a, rfl⟩ := hW.base.ptr hI
  have M1 : ObjIn PI w G (.pointer (some a)) (true, none, 0) w1 := ⟨hI, hG, hB⟩
  clear hI hG hB h1 h2
  go_wp2_with fail
  refine (hO.make (some a) s _).mono ?_
  rintro e w2 ⟨v, F, rfl, hI, hF, hB⟩
  obtain ⟨c, rfl⟩ := (hO.base _).ptr hI
  have M := M1.pair hW.base hI hF hB
  clear hI hF hB M1
  go_wp2_with fail
  go_loopw [8] (fun i wr => ∃ (k : Nat) (H : Nat → Prop), k ≤ n ∧ i = .int .i64 (k : Int) ∧ ObjIn (KPI PI KI (some a)) w H (.pointer (some c)) ((s, 1, 1 + k), (true, none, k)) wr) (fun i _ => n - (intOf i).toNat)
  case atStart => exact ⟨0, _, by omega, rfl, M⟩
  case round =>
    clear M
    obtain ⟨k, H, hk, rfl, M⟩ := hrel
    by_cases hlt : k < n
    · have hlt' : (k : Int) < n := by omega
      have hw : IntKind.i64.wrap ((k : Int) + 1) = (k : Int) + 1 := by
        have := hn.out
        rw [IntKind.wrap_i64]
        omega
      go_wp2_with fail
      refine (kadd_at hO (some a) _ _ (s' := ((s, 1, 1 + (k + 1)), (true, none, k + 1))) (r := true) rfl ⟨Nat.le_refl 1, by dsimp only; omega, by have := hn.out; dsimp only; omega⟩ (by have := hn.out; dsimp only; omega) _ M.inv).mono ?_
      rintro e w3 ⟨H3, rfl, hK⟩
      replace M := M.o hK
      clear hK
      go_wp2
      go_roundw
      case rel => exact ⟨k + 1, _, by omega, by go_num, M⟩
      case measure => simp [intOf]; omega
    · have hlt' : ¬ (k : Int) < n := by omega
      obtain rfl : k = n := by omega
      clear hlt
      have hw : IntKind.i64.wrap ((k : Int) + 1) = (k : Int) + 1 := by
        have := hn.out
        rw [IntKind.wrap_i64]
        omega
      have hw32 : IntKind.u32.wrap ((k : Int) + 1) = ((1 + k : Nat) : Int) := by
        have := hn.out
        rw [IntKind.wrap_u32]
        omega
      have hu : U32 (1 + k) := U32.small (by have := hn.out; omega)
      go_wp2_with fail
      refine (kerase_at hO (some a) _ _ (n := b) (s' := ((s, min (max 1 b) (1 + k), 1 + k), (true, none, k + 1))) (r := true) rfl hb32 rfl ⟨Nat.le_refl 1, by dsimp only; omega, by have := hn.out; dsimp only; omega⟩ (by have := hn.out; dsimp only; omega) _ M.inv).mono ?_
      rintro e w4 ⟨H4, rfl, hK⟩
      replace M := M.o hK
      clear hK H hk
      obtain ⟨lo, hlo⟩ : ∃ lo, Hid (lo = min (max 1 b) (1 + k)) := ⟨_, rfl⟩
      rw [← hlo.out] at M
      have hok3 : KOk (s, lo, 1 + k) := by
        have := hn.out
        have := hlo.out
        exact ⟨by dsimp only; omega, by dsimp only; omega, by dsimp only; omega⟩
      have hhas : kHas (s, lo, 1 + k) (1 + k) = true := decide_eq_true ⟨hok3.2.1, Nat.le_refl _⟩
      have hkk : kKey (s, lo, 1 + k) (1 + k) = keyOf s (1 + k) := if_pos hhas
      have HOK := hide' hok3
      clear hok3
      go_wp2_with fail
      refine (kcurrent_at hO (some a) _ _ _ HOK.out _ M.inv).mono ?_
      rintro e w5 ⟨rfl, hb⟩
      replace M := M.quiet (pairbase (hO.base _) hW.base _) hb
      clear hb
      go_wp2_with fail
      refine (kkey_at hO (some a) _ _ _ (n := 1 + k) rfl hu HOK.out _ M.inv).mono ?_
      rintro x w6 ⟨rfl, hb⟩
      replace M := M.quiet (pairbase (hO.base _) hW.base _) hb
      clear hb
      dsimp only at M ⊢
      rw [hhas, hkk]
      clear hhas hkk
      have bX := Box.new w6 (nv (keyOf s (1 + k)).1) (nv (keyOf s (1 + k)).2)
      have hb : Below w6.heap.size w6 (w6.alloc (.cells #[.int .u64 (nv (keyOf s (1 + k)).1), .int .u64 (nv (keyOf s (1 + k)).2)] 46)) := (Below.refl _ _).alloc (Nat.le_refl _) _
      replace M := M.quiet (pairbase (hO.base _) hW.base _) hb
      clear hb
      go_wp2_with fail
      generalize w6.alloc (.cells #[.int .u64 (nv (keyOf s (1 + k)).1), .int .u64 (nv (keyOf s (1 + k)).2)] 46) = w8 at *
      generalize w6.heap.size = bq at *
      have hok3 := HOK.out
      replace M := M.quiet (pairbase (hO.base _) hW.base _) (Below.refl _ _).drew
      have hS0 : Below w8.heap.size w8 w8.drew := (Below.refl _ _).drew
      refine wp_region_held_drew (S := fun w' => Below w8.heap.size w8 w') (by kernel_rfl) (Below.refl _ _).drew (fun hHeld => ?_)
      refine takeM 0 40 9 rfl rfl rfl (by kernel_rfl) (by kernel_rfl) (by kernel_rfl) (fun _ _ _ h => h) (by rfl) hHeld rfl ?_
      simp only [List.set_cons_succ, List.set_cons_zero]
      refine takeM 1 41 40 rfl rfl rfl (by kernel_rfl) (by kernel_rfl) (by kernel_rfl) (fun _ _ _ h => h) (by rfl) hHeld rfl ?_
      simp only [List.set_cons_succ, List.set_cons_zero]
      refine takeM 2 42 11 rfl rfl rfl (by kernel_rfl) (by kernel_rfl) (by kernel_rfl) (fun _ _ _ h => h) (by rfl) hHeld rfl ?_
      simp only [List.set_cons_succ, List.set_cons_zero]
      refine takeL 3 43 (v := ?_) rfl rfl (by kernel_rfl) (by kernel_rfl) (by kernel_rfl) (fun _ _ _ h => h) (by rfl) hHeld (fun w hSw => ?_) ?_
      rotate_left 1
      · (try dsimp only at hSw)
        clear hSw
        go_simp
        try with_reducible rfl
      simp only [List.set_cons_succ, List.set_cons_zero]
      refine takeM 4 44 43 rfl rfl rfl (by kernel_rfl) (by kernel_rfl) (by kernel_rfl) (fun _ _ _ h => h) (by rfl) hHeld rfl ?_
      simp only [List.set_cons_succ, List.set_cons_zero]
      refine takeL 5 45 (v := ?_) rfl rfl (by kernel_rfl) (by kernel_rfl) (by kernel_rfl) (fun _ _ _ h => h) (by rfl) hHeld (fun w hSw => ?_) ?_
      rotate_left 1
      · (try dsimp only at hSw)
        have e0_ := (bX.grown hSw).c0
        have e1_ := (bX.grown hSw).c1
        clear hSw
        go_simp
        try with_reducible rfl
      simp only [List.set_cons_succ, List.set_cons_zero]
      refine takeM 6 46 0 rfl rfl rfl (by kernel_rfl) (by kernel_rfl) (by kernel_rfl) (fun _ _ _ h => h) (by rfl) hHeld rfl ?_
      simp only [List.set_cons_succ, List.set_cons_zero]
      refine takeM 7 47 1 rfl rfl rfl (by kernel_rfl) (by kernel_rfl) (by kernel_rfl) (fun _ _ _ h => h) (by rfl) hHeld rfl ?_
      simp only [List.set_cons_succ, List.set_cons_zero]
      refine takeL 8 48 (v := .int .i64 ((k : Int) + 1)) rfl rfl (by kernel_rfl) (by kernel_rfl) (by kernel_rfl) (fun _ _ _ h => h) (by rfl) hHeld (fun w hSw => ?_) ?_
      · clear hSw
        go_simp
      simp only [List.set_cons_succ, List.set_cons_zero]
      refine takeL 9 49 (v := .int .u32 ((1 + k : Nat) : Int)) rfl rfl (by kernel_rfl) (by kernel_rfl) (by kernel_rfl) (fun _ _ _ h => h) (by rfl) hHeld (fun w hSw => ?_) ?_
      · clear hSw
        go_simp
      simp only [List.set_cons_succ, List.set_cons_zero]
      refine onlyL 10 rfl (by kernel_rfl) (by rfl) (fun K hK => ?_)
      go_wp2_with fail
      refine (hO.of_ s (1 + k) hu _).mono ?_
      rintro x wq10 ⟨rfl, hb⟩
      have hB0 := hS0.trans (hb.mono hS0.size)
      replace M := M.quiet (pairbase (hO.base _) hW.base _) hb
      clear hHeld hS0 hb
      refine hK.out _ _ hB0 (fun hHeld => ?_)
      clear hK K
      have hS0 := hB0
      clear hB0
      refine takeL 11 51 (v := .bool true) rfl rfl (by kernel_rfl) (by kernel_rfl) (by kernel_rfl) (fun _ _ _ h => h) (by rfl) hHeld (fun w hSw => ?_) ?_
      · clear hSw
        go_simp
      simp only [List.set_cons_succ, List.set_cons_zero]
      refine takeL 12 52 (v := .bool true) rfl rfl (by kernel_rfl) (by kernel_rfl) (by kernel_rfl) (fun _ _ _ h => h) (by rfl) hHeld (fun w hSw => ?_) ?_
      · clear hSw
        go_simp
      simp only [List.set_cons_succ, List.set_cons_zero]
      refine takeM 13 53 52 rfl rfl rfl (by kernel_rfl) (by kernel_rfl) (by kernel_rfl) (fun _ _ _ h => h) (by rfl) hHeld rfl ?_
      simp only [List.set_cons_succ, List.set_cons_zero]
      refine takeM 14 54 7 rfl rfl rfl (by kernel_rfl) (by kernel_rfl) (by kernel_rfl) (fun _ _ _ h => h) (by rfl) hHeld rfl ?_
      simp only [List.set_cons_succ, List.set_cons_zero]
      refine takeM 16 56 1 rfl rfl rfl (by kernel_rfl) (by kernel_rfl) (by kernel_rfl) (fun _ _ _ h => h) (by rfl) hHeld rfl ?_
      simp only [List.set_cons_succ, List.set_cons_zero]
      refine takeL 17 57 (v := .int .i64 ((k : Int) + 1)) rfl rfl (by kernel_rfl) (by kernel_rfl) (by kernel_rfl) (fun _ _ _ h => h) (by rfl) hHeld (fun w hSw => ?_) ?_
      · clear hSw
        go_simp
      simp only [List.set_cons_succ, List.set_cons_zero]
      refine takeL 18 58 (v := .int .u32 ((1 + k : Nat) : Int)) rfl rfl (by kernel_rfl) (by kernel_rfl) (by kernel_rfl) (fun _ _ _ h => h) (by rfl) hHeld (fun w hSw => ?_) ?_
      · clear hSw
        go_simp
      simp only [List.set_cons_succ, List.set_cons_zero]
      refine onlyL 15 rfl (by kernel_rfl) (by rfl) (fun K hK => ?_)
      go_wp2_with fail
      refine (kcurrent_at hO (some a) _ _ _ hok3 _ M.inv).mono ?_
      rintro x wq15 ⟨rfl, hb⟩
      have hB0 := hS0.trans (hb.mono hS0.size)
      replace M := M.quiet (pairbase (hO.base _) hW.base _) hb
      clear hHeld hS0 hb
      refine hK.out _ _ hB0 (fun hHeld => ?_)
      clear hK K
      have hS0 := hB0
      clear hB0
      refine takeL 19 59 (v := .bool true) rfl rfl (by kernel_rfl) (by kernel_rfl) (by kernel_rfl) (fun _ _ _ h => h) (by rfl) hHeld (fun w hSw => ?_) ?_
      · clear hSw
        go_simp
      simp only [List.set_cons_succ, List.set_cons_zero]
      refine takeL 20 60 (v := .bool true) rfl rfl (by kernel_rfl) (by kernel_rfl) (by kernel_rfl) (fun _ _ _ h => h) (by rfl) hHeld (fun w hSw => ?_) ?_
      · clear hSw
        go_simp
      simp only [List.set_cons_succ, List.set_cons_zero]
      refine takeM 21 61 60 rfl rfl rfl (by kernel_rfl) (by kernel_rfl) (by kernel_rfl) (fun _ _ _ h => h) (by rfl) hHeld rfl ?_
      simp only [List.set_cons_succ, List.set_cons_zero]
      refine onlyL 22 rfl (by kernel_rfl) (by rfl) (fun K hK => ?_)
      go_wp2_with fail
      refine (kknown hW hO _).mono ?_
      rintro x wq22 ⟨rfl, hb⟩
      have hB0 := hS0.trans (hb.mono hS0.size)
      replace M := M.quiet (pairbase (hO.base _) hW.base _) hb
      clear hHeld hS0 hb
      refine hK.out _ _ hB0 (fun hHeld => ?_)
      clear hK K
      have hS0 := hB0
      clear hB0
      refine takeL 23 63 (v := .bool true) rfl rfl (by kernel_rfl) (by kernel_rfl) (by kernel_rfl) (fun _ _ _ h => h) (by rfl) hHeld (fun w hSw => ?_) ?_
      · clear hSw
        go_simp
      simp only [List.set_cons_succ, List.set_cons_zero]
      refine takeA 24 6 63 rfl rfl rfl (by kernel_rfl) (by kernel_rfl) (by kernel_rfl) (fun _ _ _ h => h) (by rfl) hHeld rfl ?_
      simp only [List.set_cons_succ, List.set_cons_zero]
      refine wpAnyH_done (by kernel_rfl) ?_ _
      go_wp2
      go_ret
      exact ⟨rfl, M.hB⟩
end Go.Proofs.Ytcfbdbjonmjplaa
