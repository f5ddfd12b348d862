/- NonceOnce's walk. -/
import Derived.Test.YtcplekodbgmneaaNonOnceA
import Derived.Test.YtcplekodbgmneaaRegion
namespace Go.Proofs.Ytcplekodbgmneaa
open Go.RowKit
set_option maxRecDepth 20000

variable {Inv : (Nat → Prop) → World → Value → Nat × Nat → Prop}
set_option maxHeartbeats 4000000 in
theorem nonce_ (hO : MkIs Inv) (A B : Nat) (nn ep s : Int) (w : World) (hA64 : A < 18446744073709551616) (hB64 : B < 18446744073709551616) :
    Calls Try.prog 4 #[.int .u64 (A : Int), .int .u64 (B : Int), .int .i64 nn, .int .u32 ep, .int .i64 s] w fun e w' => e = .returned (.bool true) ∧ Below w.heap.size w w' := by
  have heq := eqN
  by_cases hout : A = B ∨ 4294967296 ≤ A ∨ 4294967296 ≤ B ∨ nn < 0 ∨ 40 < nn ∨ s < 0 ∨ 65535 < s
  · by_cases h1 : (A : Int) = B
    · go_enter Try.func4, Try.ntmps4
      go_wp2
      go_ret
      exact ⟨rfl, Below.refl _ _⟩
    by_cases h2 : (4294967296 : Int) ≤ A
    · go_enter Try.func4, Try.ntmps4
      go_wp2
      go_ret
      exact ⟨rfl, Below.refl _ _⟩
    by_cases h3 : (4294967296 : Int) ≤ B
    · go_enter Try.func4, Try.ntmps4
      go_wp2
      go_ret
      exact ⟨rfl, Below.refl _ _⟩
    by_cases h4 : nn < 0
    · go_enter Try.func4, Try.ntmps4
      go_wp2
      go_ret
      exact ⟨rfl, Below.refl _ _⟩
    by_cases h5 : 40 < nn
    · go_enter Try.func4, Try.ntmps4
      go_wp2
      go_ret
      exact ⟨rfl, Below.refl _ _⟩
    by_cases h6 : s < 0
    · go_enter Try.func4, Try.ntmps4
      go_wp2
      go_ret
      exact ⟨rfl, Below.refl _ _⟩
    have h7 : 65535 < s := by omega
    go_enter Try.func4, Try.ntmps4
    go_wp2
    go_ret
    exact ⟨rfl, Below.refl _ _⟩
  have h1 : ¬ (A : Int) = B := by omega
  have h2 : ¬ (4294967296 : Int) ≤ A := by omega
  have h3 : ¬ (4294967296 : Int) ≤ B := by omega
  have h4 : ¬ nn < 0 := by omega
  have h5 : ¬ 40 < nn := by omega
  obtain ⟨s, rfl⟩ : ∃ n : Nat, s = n := ⟨s.toNat, by omega⟩
  obtain ⟨n, rfl⟩ : ∃ n : Nat, nn = n := ⟨nn.toNat, by omega⟩
  have h6 : ¬ (s : Int) < 0 := by omega
  have h7 : ¬ 65535 < (s : Int) := by omega
  have HAB : Hid (A ≠ B ∧ A < 4294967296 ∧ B < 4294967296 ∧ s ≤ 65535 ∧ n ≤ 40) := hide' (by omega)
  clear hout hA64 hB64
  go_enter Try.func4, Try.ntmps4
  go_wp2_with fail
  refine (hO.make A (by have := HAB.out; omega) _).mono ?_
  rintro e w1 ⟨v1, F, rfl, hI, hF, hb⟩
  obtain ⟨a1, rfl⟩ := hO.base.ptr hI
  have M0 : ObjIn Inv w F (.pointer (some a1)) (A, 0) w1 := ⟨hI, hF, hb⟩
  clear hI hF hb
  go_wp2_with fail
  refine (hO.make B (by have := HAB.out; omega) _).mono ?_
  rintro e w2 ⟨v2, G, rfl, hI, hG, hb⟩
  obtain ⟨a2, rfl⟩ := hO.base.ptr hI
  have M1 : OnSt Inv w a1 a2 ep s A B F G 0 0 0 (.slice none 0 0) w2 := ⟨M0.duo hO.base hI hG hb, ⟨by simp [flatG], Or.inl ⟨rfl, rfl⟩⟩, fun q hq => by simp [Value.ownBlock] at hq⟩
  clear hI hG hb M0
  go_wp2_with fail
  go_loopw [16, 15] (fun i l wr => ∃ (k : Nat) (F G : Nat → Prop), k ≤ n ∧ i = .int .i64 (k : Int) ∧ OnSt Inv w a1 a2 ep s A B F G k k (2 * k) l wr) (fun i _ _ => n - (intOf i).toNat)
  case atStart => exact ⟨0, F, G, by omega, rfl, M1⟩
  case round =>
    clear M1 F G
    obtain ⟨k, F, G, hk, rfl, M⟩ := hrel
    by_cases hlt : k < n
    · obtain ⟨va, HVA⟩ : ∃ va, Hid ((A : Int) * 4294967296 + k + 1 = va) := ⟨_, rfl⟩
      obtain ⟨vb, HVB⟩ : ∃ vb, Hid ((B : Int) * 4294967296 + k + 1 = vb) := ⟨_, rfl⟩
      go_wp2_with fail
      refine (nnext_at hO F _ A k ep s rfl HVA.out (by have := HAB.out; omega) (by have := HAB.out; omega) (by have := HAB.out; omega) _ M.duo.one).mono ?_
      rintro e w3 ⟨F2, rfl, hK⟩
      replace M := M.o1 hO hK
      clear hK
      have bP := CBox.new 34 w3 #[.int .u32 ep, .int .u32 (s : Int), .int .u64 va]
      have hnP := M.duo.new hO.base hO.base
      replace M := M.quiet hO ((Below.refl _ _).alloc (Nat.le_refl _) (.cells #[.int .u32 ep, .int .u32 (s : Int), .int .u64 va] 34))
      go_wp2_with fail
      refine (nnext_at hO G _ B k ep s rfl HVB.out (by have := HAB.out; omega) (by have := HAB.out; omega) (by have := HAB.out; omega) _ M.duo.two).mono ?_
      rintro e w4 ⟨G2, rfl, hK⟩
      replace M := M.o2 hO hK
      replace bP := bP.off hK.off hnP.2.1
      clear hK hnP
      generalize w3.heap.size = P at *
      have bQ := CBox.new 34 w4 #[.int .u32 ep, .int .u32 (s : Int), .int .u64 vb]
      have hb : Below w4.heap.size w4 (w4.alloc (.cells #[.int .u32 ep, .int .u32 (s : Int), .int .u64 vb] 34)) := (Below.refl _ _).alloc (Nat.le_refl _) _
      replace M := M.quiet hO hb
      replace bP := bP.grown hb
      clear hb
      have p0 := bP.cell 0
      have p1 := bP.cell 1
      have p2 := bP.cell 2
      have q0 := bQ.cell 0
      have q1 := bQ.cell 1
      have q2 := bQ.cell 2
      go_wp2_with fail
      refine (nboot_at hO ep s _ A (by have := HAB.out; omega) (by have := HAB.out; have := HVA.out; omega) _).mono ?_
      rintro e w5 ⟨rfl, hb⟩
      generalize w4.heap.size = Q at *
      generalize w4.alloc (.cells #[.int .u32 ep, .int .u32 (s : Int), .int .u64 vb] 34) = w4' at *
      replace M := M.quiet hO hb
      replace bP := bP.grown hb
      replace bQ := bQ.grown hb
      clear hb p0 p1 p2 q0 q1 q2
      have q0 := bQ.cell 0
      have q1 := bQ.cell 1
      have q2 := bQ.cell 2
      go_wp2_with fail
      refine (nboot_at hO ep s _ B (by have := HAB.out; omega) (by have := HAB.out; have := HVB.out; omega) _).mono ?_
      rintro e w6 ⟨rfl, hb⟩
      replace M := M.quiet hO hb
      replace bP := bP.grown hb
      replace bQ := bQ.grown hb
      clear hb q0 q1 q2
      have p0 := bP.cell 0
      have p1 := bP.cell 1
      have p2 := bP.cell 2
      have q0 := bQ.cell 0
      have q1 := bQ.cell 1
      have q2 := bQ.cell 2
      obtain ⟨i0, hi0, hz0, hz1, hz2⟩ := info_parts Try.nonInfo
      have hva : (verAt A B (2 * k) : Int) = va := by
        have := ver_even A B k
        have := HVA.out
        omega
      have hvb : (verAt A B (2 * k + 1) : Int) = vb := by
        have := ver_odd A B k
        have := HVB.out
        omega
      have happ : flatG (nonC ep s A B) (2 * (k + 1)) = flatG (nonC ep s A B) (2 * k) ++ [.int .u32 ep, .int .u32 (s : Int), .int .u64 va, .int .u32 ep, .int .u32 (s : Int), .int .u64 vb] := by
        rw [show 2 * (k + 1) = 2 * k + 1 + 1 from by omega, flatG, flatG, nonC, nonC, hva, hvb, List.append_assoc]
        rfl
      have hbl : Below w6.heap.size w6 (w6.alloc (.cells #[.int .u32 ep, .int .u32 (s : Int), .int .u64 va, .int .u32 ep, .int .u32 (s : Int), .int .u64 vb] 34)) := (Below.refl _ _).alloc (Nat.le_refl _) _
      have M3 := M.quiet hO hbl
      have hwz := M3.duo.hB.size
      have HAP := hide' happ
      have HVa := hide' hva
      have HVb := hide' hvb
      clear M happ hva hvb hbl
      have Hk40 : Hid (2 * k + 2 ≤ 80) := hide' (by have := HAB.out; omega)
      go_wp2_with (at_builtin; refine wpList_append_at rfl _ _ 44 rfl w.heap.size 34 i0 _ 3 16 (by kernel_rfl) hi0 hz0 hz1 hz2 (by decide) (by decide) _ (2 * k) _ rfl M3.own ⟨w6.heap.size, 0, none⟩ 2 2 [.int .u32 ep, .int .u32 (s : Int), .int .u64 va, .int .u32 ep, .int .u32 (s : Int), .int .u64 vb] rfl (by simp) (news6 _ w6 _ _ _ _ _ _) (by simp [Value.oneCell']) (by have := Hk40.out; unfold maxLen; omega) (by have := Hk40.out; omega) hwz ?_)
      intro v' w9 own' hgr hloc
      rw [show 2 * k + 2 = 2 * (k + 1) from by omega, ← HAP.out] at own'
      have M4 := M3.app hO own' hgr (by simpa only [World.size_alloc] using hloc)
      clear p0 p1 p2 q0 q1 q2
      go_wp2
      go_roundw
      case rel => exact ⟨k + 1, F2, G2, by omega, by go_num, M4⟩
      case measure => simp [intOf]; omega
    · obtain ⟨m, HM⟩ : ∃ m, Hid (2 * k = m) := ⟨_, rfl⟩
      rw [HM.out] at M
      have hm80 : m ≤ 80 := by have := HM.out; have := HAB.out; omega
      go_wp2_with fail
      clear hlt hk
      generalize (k : Int) = k0 at *
      obtain ⟨y, cy, rfl, hcy, -, hny⟩ := own_is M.own
      have hz := M.duo.hB.size
      clear hny
      go_loopw [21] (fun i wr => ∃ (j : Nat), j ≤ m ∧ i = .int .i64 (j : Int) ∧ OnSt Inv w a1 a2 ep s A B F G k k m (.slice y m cy) wr) (fun i _ => m - (intOf i).toNat)
      case atStart => exact ⟨0, by omega, rfl, M⟩
      case round =>
        clear M
        obtain ⟨j, hj, rfl, M⟩ := hrel
        by_cases hlt : j < m
        · go_wp2_with fail
          go_loopw [22] (fun i wr => ∃ (l : Nat), l ≤ j ∧ i = .int .i64 (l : Int) ∧ OnSt Inv w a1 a2 ep s A B F G k k m (.slice y m cy) wr) (fun i _ => j - (intOf i).toNat)
          case atStart => exact ⟨0, by omega, rfl, M⟩
          case round =>
            clear M
            obtain ⟨l, hl, rfl, M⟩ := hrel
            by_cases hlj : l < j
            · obtain ⟨g, cap, e, hmc, -, -, -⟩ := M.cells hlt
              obtain ⟨rfl, rfl⟩ : y = some ⟨g, 0, none⟩ ∧ cy = cap := by simpa using e
              clear e
              have hl2 : l < m := by omega
              have hne : ¬ (verAt A B j : Int) = verAt A B l := by
                have := ver_inj (A := A) (B := B) HAB.out.1 (i := j) (k := l) (by omega) hlj
                omega
              go_wp2_with fail
              refine wp_region_held_drew (S := fun w' => Below wr.heap.size wr w') (by kernel_rfl) (Below.refl _ _).drew (fun hHeld => ?_)
              refine takeM 0 113 15 rfl rfl rfl (by kernel_rfl) (by kernel_rfl) (by kernel_rfl) (fun _ _ _ h => h) (by rfl) hHeld rfl ?_
              simp only [List.set_cons_succ, List.set_cons_zero]
              refine takeM 1 114 21 rfl rfl rfl (by kernel_rfl) (by kernel_rfl) (by kernel_rfl) (fun _ _ _ h => h) (by rfl) hHeld rfl ?_
              simp only [List.set_cons_succ, List.set_cons_zero]
              refine takeL 2 115 (v := ?_) rfl rfl (by kernel_rfl) (by kernel_rfl) (by kernel_rfl) (fun _ _ _ h => h) (by rfl) hHeld (fun w hSw => ?_) ?_
              rotate_left 1
              · (try dsimp only at hSw)
                clear hSw
                go_simp
                try with_reducible rfl
              simp only [List.set_cons_succ, List.set_cons_zero]
              refine takeL 3 116 (v := ?_) rfl rfl (by kernel_rfl) (by kernel_rfl) (by kernel_rfl) (fun _ _ _ h => h) (by rfl) hHeld (fun w hSw => ?_) ?_
              rotate_left 1
              · (try dsimp only at hSw)
                obtain ⟨e0_, e1_, e2_⟩ := (M.quiet hO hSw).at_ hlt
                clear hSw
                go_simp
                try with_reducible rfl
              simp only [List.set_cons_succ, List.set_cons_zero]
              refine takeM 4 117 15 rfl rfl rfl (by kernel_rfl) (by kernel_rfl) (by kernel_rfl) (fun _ _ _ h => h) (by rfl) hHeld rfl ?_
              simp only [List.set_cons_succ, List.set_cons_zero]
              refine takeM 5 118 22 rfl rfl rfl (by kernel_rfl) (by kernel_rfl) (by kernel_rfl) (fun _ _ _ h => h) (by rfl) hHeld rfl ?_
              simp only [List.set_cons_succ, List.set_cons_zero]
              refine takeL 6 119 (v := ?_) rfl rfl (by kernel_rfl) (by kernel_rfl) (by kernel_rfl) (fun _ _ _ h => h) (by rfl) hHeld (fun w hSw => ?_) ?_
              rotate_left 1
              · (try dsimp only at hSw)
                clear hSw
                go_simp
                try with_reducible rfl
              simp only [List.set_cons_succ, List.set_cons_zero]
              refine takeL 7 120 (v := ?_) rfl rfl (by kernel_rfl) (by kernel_rfl) (by kernel_rfl) (fun _ _ _ h => h) (by rfl) hHeld (fun w hSw => ?_) ?_
              rotate_left 1
              · (try dsimp only at hSw)
                obtain ⟨e0_, e1_, e2_⟩ := (M.quiet hO hSw).at_ hl2
                clear hSw
                go_simp
                try with_reducible rfl
              simp only [List.set_cons_succ, List.set_cons_zero]
              refine takeL 8 121 (v := .bool false) rfl rfl (by kernel_rfl) (by kernel_rfl) (by kernel_rfl) (fun _ _ _ h => h) (by rfl) hHeld (fun w hSw => ?_) ?_
              · clear hSw
                go_simp
              simp only [List.set_cons_succ, List.set_cons_zero]
              refine wpAnyH_done (by kernel_rfl) ?_ _
              replace M := M.quiet hO hHeld
              clear hHeld hne hl2 hmc
              generalize wr.drew = wd at *
              go_wp2
              go_roundw
              case rel => exact ⟨l + 1, by omega, by go_num, M⟩
              case measure => simp [intOf]; omega
            · go_wp2
              go_roundw
              case rel => exact ⟨j + 1, by omega, by go_num, M⟩
              case measure => simp [intOf]; omega
        · go_wp2_with fail
          refine (nknown hO _).mono ?_
          rintro e w5 ⟨rfl, hb⟩
          replace M := M.quiet hO hb
          go_wp2
          go_ret
          exact ⟨rfl, M.duo.hB⟩
end Go.Proofs.Ytcplekodbgmneaa
