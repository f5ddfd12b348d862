/- CountPlays' walk. -/
import Derived.Test.YtdehnfgepnnaiaaCntLaws
import Derived.Test.YtdehnfgepnnaiaaRefCnt
import Derived.Test.YtdehnfgepnnaiaaViewJ
import Derived.Test.YtdehnfgepnnaiaaRegion
namespace Go.Proofs.Ytdehnfgepnnaiaa
open Go.RowKit
set_option maxRecDepth 20000
variable {PI : (Nat → Prop) → World → Value → PSt → Prop} {CI : Option Addr → (Nat → Prop) → World → Value → CSt → Prop}
/-- The document's counter with its power. -/
abbrev RCP (p : Option Addr) : (Nat → Prop) → World → Value → CP → Prop := PairI (RCInv p) RPInv (.pointer p)
theorem rcbump_at (p : Option Addr) (H : Nat → Prop) (v : Value) {s s' : CP} {r : Bool} (h : dBump s = (r, s')) (h1 : s.1.1 ≤ 1000000) (h2 : s.2.2.2 ≤ 1000000) (w : World) (hI : RCP p H w v s) : Calls Try.prog 9 #[v] w fun e w' => ∃ H', e = .returned (.bool r) ∧ KeptG (RCP p) H w v H' w' s' := by
  obtain ⟨F, G, a, b, c, d⟩ := hI
  have e1 : r = (pSpend s.2).1 := congrArg Prod.fst h.symm
  have e2 : s' = (dBump s).2 := congrArg Prod.snd h.symm
  subst e1 e2
  exact (rcbump p F G v s.1 s.2 h1 h2 w a b c).mono (by rintro e w' ⟨F', G', rfl, hK⟩; exact ⟨_, rfl, hK.pair d⟩)
theorem rcboot_at (p : Option Addr) (H : Nat → Prop) (v : Value) {s s' : CP} {r : Bool} (h : dBoot s = (r, s')) (h1 : s.1.2.1 ≤ 1000000) (h2 : s.2.2.2 ≤ 1000000) (w : World) (hI : RCP p H w v s) : Calls Try.prog 11 #[v] w fun e w' => ∃ H', e = .returned (.bool r) ∧ KeptG (RCP p) H w v H' w' s' := by
  obtain ⟨F, G, a, b, c, d⟩ := hI
  have e1 : r = (pSpend s.2).1 := congrArg Prod.fst h.symm
  have e2 : s' = (dBoot s).2 := congrArg Prod.snd h.symm
  subst e1 e2
  exact (rcboot p F G v s.1 s.2 h1 h2 w a b c).mono (by rintro e w' ⟨F', G', rfl, hK⟩; exact ⟨_, rfl, hK.pair d⟩)
theorem rcback_at (p : Option Addr) (H : Nat → Prop) (v : Value) (s : CP) (w : World) (hI : RCP p H w v s) : Calls Try.prog 13 #[.pointer p] w fun e w' => ∃ H', e = .returned (.tuple #[]) ∧ KeptG (RCP p) H w v H' w' (s.1, pBack s.2) := by
  obtain ⟨F, G, a, b, c, d⟩ := hI
  exact (rback G _ s.2 w b).mono (by rintro e w' ⟨G', rfl, hK⟩; exact ⟨_, rfl, hK.pair2 (rcbase p) a c d⟩)
theorem rcfuse_at (p : Option Addr) (H : Nat → Prop) (v : Value) (s : CP) (n : Int) (hn : n ≤ 9223372036854775807) (w : World) (hI : RCP p H w v s) : Calls Try.prog 15 #[.pointer p, .int .i64 n] w fun e w' => ∃ H', e = .returned (.tuple #[]) ∧ KeptG (RCP p) H w v H' w' (s.1, pFuse s.2 n) := by
  obtain ⟨F, G, a, b, c, d⟩ := hI
  exact (rfuse G _ s.2 n hn w b).mono (by rintro e w' ⟨G', rfl, hK⟩; exact ⟨_, rfl, hK.pair2 (rcbase p) a c d⟩)
set_option maxHeartbeats 8000000 in
theorem cplays (hW : PowIs PI) (hO : CntIs PI CI) (x : Option Addr) (m c : Nat) (A : List Int) (w : World) (f1 : m ≤ c ∧ c ≤ maxLen ∧ (x = none → m = 0 ∧ c = 0)) (s1 : RowsAt 1 IntB w x m A) :
    Calls Try.prog 3 #[.slice x m c] w fun e w' => e = .returned (.bool true) ∧ Below w.heap.size w w' := by
  by_cases hm : 300 < m
  · have h1 : (300 : Int) < m := by omega
    go_enter Try.func3, Try.ntmps3
    go_wp2
    go_ret
    exact ⟨rfl, Below.refl _ _⟩
  have h1 : ¬ (300 : Int) < m := by omega
  have HM : Hid (m ≤ 300) := hide' (by omega)
  go_enter Try.func3, Try.ntmps3
  go_wp2_with fail
  refine (hW.make _).mono ?_
  rintro e w1 ⟨v, G, rfl, hI, hG, hB⟩
  obtain ⟨a, rfl⟩ := hW.base.ptr hI
  have M0 : ObjIn PI w G (.pointer (some a)) (true, none, 0) w1 := ⟨hI, hG, hB⟩
  clear hI hG hB h1 hm
  have hN := CBox.new 27 w1 #[.bool false, .bool false, .int .i64 0, .int .i64 0]
  have M1 : Duo PI RPInv w G (.pointer (some a)) (true, none, 0) (fun k => k = w1.heap.size) (.pointer (some ⟨w1.heap.size, 0, none⟩)) (true, none, 0) (w1.alloc (.cells #[.bool false, .bool false, .int .i64 0, .int .i64 0] 27)) :=
    M0.duo hW.base ⟨_, rfl, ⟨false, 0, hN, hide' rfl⟩, fun _ => Iff.rfl⟩ (fun k hk => hk ▸ Nat.le_refl _) ((Below.refl _ _).alloc (Nat.le_refl _) _)
  clear hN M0
  go_wp2_with fail
  generalize w1.heap.size = bq at *
  generalize w1.alloc (.cells #[.bool false, .bool false, .int .i64 0, .int .i64 0] 27) = w2 at *
  refine (hO.make (some a) _).mono ?_
  rintro e w3 ⟨v, F, rfl, hI, hF, hB⟩
  obtain ⟨cp, rfl⟩ := (hO.base _).ptr hI
  have M2 := (M1.pairOne hW.base rpbase hI hF hB).swap
  clear hI hF hB M1
  have hN := CBox.new 33 w3 #[.pointer (some ⟨bq, 0, none⟩), .int .u64 0, .int .u64 0, .int .u64 0]
  have M := (M2.pairOne (I := RCInv (some ⟨bq, 0, none⟩)) (s := ((0, 0, 0) : CSt)) (F := fun k => k = w3.heap.size) rpbase (pairbase (hO.base _) hW.base _) ⟨_, rfl, hN, fun _ => Iff.rfl⟩ (fun k hk => hk ▸ Nat.le_refl _) ((Below.refl _ _).alloc (Nat.le_refl _) _)).swap
  clear hN M2
  go_wp2_with fail
  generalize w3.heap.size = bx at *
  generalize w3.alloc (.cells #[.pointer (some ⟨bq, 0, none⟩), .int .u64 0, .int .u64 0, .int .u64 0] 33) = w4 at *
  go_loopw [7] (fun i wr => ∃ (k : Nat) (H1 H2 : Nat → Prop) (s : CP), k ≤ m ∧ CBd k s ∧ i = .int .i64 (k : Int) ∧ Duo (PairI (CI (some a)) PI (.pointer (some a))) (RCP (some ⟨bq, 0, none⟩)) w H1 (.pointer (some cp)) s H2 (.pointer (some ⟨bx, 0, none⟩)) s wr) (fun i _ => m - (intOf i).toNat)
  case atStart => exact ⟨0, _, _, ((0, 0, 0), (true, none, 0)), by omega, ⟨by decide, by decide, by decide⟩, rfl, M⟩
  case round =>
    clear M
    obtain ⟨k, H1, H2, s, hk, hbd0, rfl, M⟩ := hrel
    by_cases hlt : k < m
    · have hlt' : (k : Int) < m := by omega
      have hw : IntKind.i64.wrap ((k : Int) + 1) = (k : Int) + 1 := by
        have := HM.out
        rw [IntKind.wrap_i64]
        omega
      have hs1 : s.1.1 ≤ 1000000 := by
        have := HM.out
        have := hbd0.1
        omega
      have hs2 : s.1.2.1 ≤ 1000000 := by
        have := HM.out
        have := hbd0.2.1
        omega
      have hs3 : s.2.2.2 ≤ 1000000 := by
        have := HM.out
        have := hbd0.2.2
        omega
      obtain ⟨b, o0, rfl, hb0, kd, hkd, hc0⟩ := intb_at s1 hlt
      have HC0 := hide' hc0
      have HKD := hide' hkd
      have hs0 := (M.hB.cell (p := ⟨b, o0 + k, none⟩) hb0).trans hc0
      clear hc0 hkd
      by_cases hk0 : kd = 0
      · subst hk0
        obtain ⟨r, s', hr⟩ : ∃ r s', dBump s = (r, s') := ⟨_, _, rfl⟩
        have hbd1 := dBump_bd hbd0
        rw [hr] at hbd1
        dsimp only at hbd1
        go_wp2_with fail
        refine (cbump_at hO (some a) H1 _ hr hs1 hs3 _ M.one).mono ?_
        rintro e w5 ⟨H3, rfl, hK⟩
        replace M := M.o1 (pairbase (rcbase _) rpbase _) hK
        clear hK hs0
        go_wp2_with fail
        refine (rcbump_at _ H2 _ hr hs1 hs3 _ M.two).mono ?_
        rintro e wr ⟨H4, rfl, hK⟩
        replace M := M.o2 (pairbase (hO.base _) hW.base _) hK
        clear hK hs1 hs2 hs3 hbd0 hr s
        have hbd := hbd1
        clear hbd1
        obtain ⟨⟨V, B, C⟩, q⟩ := s'
        go_wp2_with fail
        have bX : CBox 33 wr bx #[.pointer (some ⟨bq, 0, none⟩), .int .u64 (V : Int), .int .u64 (B : Int), .int .u64 (C : Int)] := by
          obtain ⟨F1, G1, ⟨b, e, h, _⟩, _⟩ := M.two
          obtain rfl : bx = b := by simpa using e
          exact h
        replace M := M.quiet (pairbase (hO.base _) hW.base _) (pairbase (rcbase _) rpbase _) (Below.refl _ _).drew
        have hS0 : Below wr.heap.size wr wr.drew := (Below.refl _ _).drew
        refine wp_region_held_drew (S := fun w' => Below wr.heap.size wr w') (by kernel_rfl) (Below.refl _ _).drew (fun hHeld => ?_)
        refine takeM 0 65 5 rfl rfl rfl (by kernel_rfl) (by kernel_rfl) (by kernel_rfl) (fun _ _ _ h => h) (by rfl) hHeld rfl ?_
        simp only [List.set_cons_succ, List.set_cons_zero]
        refine takeM 2 67 6 rfl rfl rfl (by kernel_rfl) (by kernel_rfl) (by kernel_rfl) (fun _ _ _ h => h) (by rfl) hHeld rfl ?_
        simp only [List.set_cons_succ, List.set_cons_zero]
        refine takeL 3 68 (v := ?_) rfl rfl (by kernel_rfl) (by kernel_rfl) (by kernel_rfl) (fun _ _ _ h => h) (by rfl) hHeld (fun w hSw => ?_) ?_
        rotate_left 1
        · (try dsimp only at hSw)
          clear hSw
          go_simp
          try with_reducible rfl
        simp only [List.set_cons_succ, List.set_cons_zero]
        refine takeL 4 69 (v := ?_) rfl rfl (by kernel_rfl) (by kernel_rfl) (by kernel_rfl) (fun _ _ _ h => h) (by rfl) hHeld (fun w hSw => ?_) ?_
        rotate_left 1
        · (try dsimp only at hSw)
          clear hSw
          go_simp
          try with_reducible rfl
        simp only [List.set_cons_succ, List.set_cons_zero]
        refine takeL 5 70 (v := ?_) rfl rfl (by kernel_rfl) (by kernel_rfl) (by kernel_rfl) (fun _ _ _ h => h) (by rfl) hHeld (fun w hSw => ?_) ?_
        rotate_left 1
        · (try dsimp only at hSw)
          have e0_ := (bX.grown hSw).cell 1
          clear hSw
          go_simp
          try with_reducible rfl
        simp only [List.set_cons_succ, List.set_cons_zero]
        refine onlyL 1 rfl (by kernel_rfl) (by rfl) (fun K hK => ?_)
        go_wp2_with fail
        refine (cvalue_at hO (some a) _ _ (((V, B, C), q) : CP) _ M.one).mono ?_
        rintro e wq1 ⟨rfl, hb⟩
        have hB0 := hS0.trans (hb.mono hS0.size)
        replace M := M.quiet (pairbase (hO.base _) hW.base _) (pairbase (rcbase _) rpbase _) hb
        clear hHeld hS0 hb
        refine hK.out _ _ hB0 (fun hHeld => ?_)
        clear hK K
        have hS0 := hB0
        clear hB0
        refine takeL 6 71 (v := .bool false) rfl rfl (by kernel_rfl) (by kernel_rfl) (by kernel_rfl) (fun _ _ _ h => h) (by rfl) hHeld (fun w hSw => ?_) ?_
        · clear hSw
          go_simp
        simp only [List.set_cons_succ, List.set_cons_zero]
        refine takeM 7 72 71 rfl rfl rfl (by kernel_rfl) (by kernel_rfl) (by kernel_rfl) (fun _ _ _ h => h) (by rfl) hHeld rfl ?_
        simp only [List.set_cons_succ, List.set_cons_zero]
        refine takeM 8 73 5 rfl rfl rfl (by kernel_rfl) (by kernel_rfl) (by kernel_rfl) (fun _ _ _ h => h) (by rfl) hHeld rfl ?_
        simp only [List.set_cons_succ, List.set_cons_zero]
        refine takeM 10 75 6 rfl rfl rfl (by kernel_rfl) (by kernel_rfl) (by kernel_rfl) (fun _ _ _ h => h) (by rfl) hHeld rfl ?_
        simp only [List.set_cons_succ, List.set_cons_zero]
        refine takeL 11 76 (v := ?_) rfl rfl (by kernel_rfl) (by kernel_rfl) (by kernel_rfl) (fun _ _ _ h => h) (by rfl) hHeld (fun w hSw => ?_) ?_
        rotate_left 1
        · (try dsimp only at hSw)
          clear hSw
          go_simp
          try with_reducible rfl
        simp only [List.set_cons_succ, List.set_cons_zero]
        refine takeL 12 77 (v := ?_) rfl rfl (by kernel_rfl) (by kernel_rfl) (by kernel_rfl) (fun _ _ _ h => h) (by rfl) hHeld (fun w hSw => ?_) ?_
        rotate_left 1
        · (try dsimp only at hSw)
          clear hSw
          go_simp
          try with_reducible rfl
        simp only [List.set_cons_succ, List.set_cons_zero]
        refine takeL 13 78 (v := ?_) rfl rfl (by kernel_rfl) (by kernel_rfl) (by kernel_rfl) (fun _ _ _ h => h) (by rfl) hHeld (fun w hSw => ?_) ?_
        rotate_left 1
        · (try dsimp only at hSw)
          have e0_ := (bX.grown hSw).cell 2
          clear hSw
          go_simp
          try with_reducible rfl
        simp only [List.set_cons_succ, List.set_cons_zero]
        refine onlyL 9 rfl (by kernel_rfl) (by rfl) (fun K hK => ?_)
        go_wp2_with fail
        refine (cboots_at hO (some a) _ _ (((V, B, C), q) : CP) _ M.one).mono ?_
        rintro e wq9 ⟨rfl, hb⟩
        have hB0 := hS0.trans (hb.mono hS0.size)
        replace M := M.quiet (pairbase (hO.base _) hW.base _) (pairbase (rcbase _) rpbase _) hb
        clear hHeld hS0 hb
        refine hK.out _ _ hB0 (fun hHeld => ?_)
        clear hK K
        have hS0 := hB0
        clear hB0
        refine takeL 14 79 (v := .bool false) rfl rfl (by kernel_rfl) (by kernel_rfl) (by kernel_rfl) (fun _ _ _ h => h) (by rfl) hHeld (fun w hSw => ?_) ?_
        · clear hSw
          go_simp
        simp only [List.set_cons_succ, List.set_cons_zero]
        refine takeL 15 80 (v := .bool false) rfl rfl (by kernel_rfl) (by kernel_rfl) (by kernel_rfl) (fun _ _ _ h => h) (by rfl) hHeld (fun w hSw => ?_) ?_
        · clear hSw
          go_simp
        simp only [List.set_cons_succ, List.set_cons_zero]
        refine takeM 16 81 80 rfl rfl rfl (by kernel_rfl) (by kernel_rfl) (by kernel_rfl) (fun _ _ _ h => h) (by rfl) hHeld rfl ?_
        simp only [List.set_cons_succ, List.set_cons_zero]
        refine takeM 17 82 5 rfl rfl rfl (by kernel_rfl) (by kernel_rfl) (by kernel_rfl) (fun _ _ _ h => h) (by rfl) hHeld rfl ?_
        simp only [List.set_cons_succ, List.set_cons_zero]
        refine takeM 19 84 6 rfl rfl rfl (by kernel_rfl) (by kernel_rfl) (by kernel_rfl) (fun _ _ _ h => h) (by rfl) hHeld rfl ?_
        simp only [List.set_cons_succ, List.set_cons_zero]
        refine takeL 20 85 (v := ?_) rfl rfl (by kernel_rfl) (by kernel_rfl) (by kernel_rfl) (fun _ _ _ h => h) (by rfl) hHeld (fun w hSw => ?_) ?_
        rotate_left 1
        · (try dsimp only at hSw)
          clear hSw
          go_simp
          try with_reducible rfl
        simp only [List.set_cons_succ, List.set_cons_zero]
        refine takeL 21 86 (v := ?_) rfl rfl (by kernel_rfl) (by kernel_rfl) (by kernel_rfl) (fun _ _ _ h => h) (by rfl) hHeld (fun w hSw => ?_) ?_
        rotate_left 1
        · (try dsimp only at hSw)
          clear hSw
          go_simp
          try with_reducible rfl
        simp only [List.set_cons_succ, List.set_cons_zero]
        refine takeL 22 87 (v := ?_) rfl rfl (by kernel_rfl) (by kernel_rfl) (by kernel_rfl) (fun _ _ _ h => h) (by rfl) hHeld (fun w hSw => ?_) ?_
        rotate_left 1
        · (try dsimp only at hSw)
          have e0_ := (bX.grown hSw).cell 3
          clear hSw
          go_simp
          try with_reducible rfl
        simp only [List.set_cons_succ, List.set_cons_zero]
        refine onlyL 18 rfl (by kernel_rfl) (by rfl) (fun K hK => ?_)
        go_wp2_with fail
        refine (cat__at hO (some a) _ _ (((V, B, C), q) : CP) _ M.one).mono ?_
        rintro e wq18 ⟨rfl, hb⟩
        have hB0 := hS0.trans (hb.mono hS0.size)
        replace M := M.quiet (pairbase (hO.base _) hW.base _) (pairbase (rcbase _) rpbase _) hb
        clear hHeld hS0 hb
        refine hK.out _ _ hB0 (fun hHeld => ?_)
        clear hK K
        have hS0 := hB0
        clear hB0
        refine takeL 23 88 (v := .bool false) rfl rfl (by kernel_rfl) (by kernel_rfl) (by kernel_rfl) (fun _ _ _ h => h) (by rfl) hHeld (fun w hSw => ?_) ?_
        · clear hSw
          go_simp
        simp only [List.set_cons_succ, List.set_cons_zero]
        refine takeL 24 89 (v := .bool false) rfl rfl (by kernel_rfl) (by kernel_rfl) (by kernel_rfl) (fun _ _ _ h => h) (by rfl) hHeld (fun w hSw => ?_) ?_
        · clear hSw
          go_simp
        simp only [List.set_cons_succ, List.set_cons_zero]
        refine wpAnyH_done (by kernel_rfl) ?_ _
        go_wp2
        go_roundw
        case rel => exact ⟨k + 1, _, _, (((V, B, C), q) : CP), by omega, hbd, by go_num, M⟩
        case measure => simp [intOf]; omega
      by_cases hk1 : kd = 1
      · subst hk1
        obtain ⟨r, s', hr⟩ : ∃ r s', dBoot s = (r, s') := ⟨_, _, rfl⟩
        have hbd1 := dBoot_bd hbd0
        rw [hr] at hbd1
        dsimp only at hbd1
        go_wp2_with fail
        refine (cboot_at hO (some a) H1 _ hr hs2 hs3 _ M.one).mono ?_
        rintro e w5 ⟨H3, rfl, hK⟩
        replace M := M.o1 (pairbase (rcbase _) rpbase _) hK
        clear hK hs0
        go_wp2_with fail
        refine (rcboot_at _ H2 _ hr hs2 hs3 _ M.two).mono ?_
        rintro e wr ⟨H4, rfl, hK⟩
        replace M := M.o2 (pairbase (hO.base _) hW.base _) hK
        clear hK hs1 hs2 hs3 hbd0 hr s
        have hbd := hbd1
        clear hbd1
        obtain ⟨⟨V, B, C⟩, q⟩ := s'
        go_wp2_with fail
        have bX : CBox 33 wr bx #[.pointer (some ⟨bq, 0, none⟩), .int .u64 (V : Int), .int .u64 (B : Int), .int .u64 (C : Int)] := by
          obtain ⟨F1, G1, ⟨b, e, h, _⟩, _⟩ := M.two
          obtain rfl : bx = b := by simpa using e
          exact h
        replace M := M.quiet (pairbase (hO.base _) hW.base _) (pairbase (rcbase _) rpbase _) (Below.refl _ _).drew
        have hS0 : Below wr.heap.size wr wr.drew := (Below.refl _ _).drew
        refine wp_region_held_drew (S := fun w' => Below wr.heap.size wr w') (by kernel_rfl) (Below.refl _ _).drew (fun hHeld => ?_)
        refine takeM 0 65 5 rfl rfl rfl (by kernel_rfl) (by kernel_rfl) (by kernel_rfl) (fun _ _ _ h => h) (by rfl) hHeld rfl ?_
        simp only [List.set_cons_succ, List.set_cons_zero]
        refine takeM 2 67 6 rfl rfl rfl (by kernel_rfl) (by kernel_rfl) (by kernel_rfl) (fun _ _ _ h => h) (by rfl) hHeld rfl ?_
        simp only [List.set_cons_succ, List.set_cons_zero]
        refine takeL 3 68 (v := ?_) rfl rfl (by kernel_rfl) (by kernel_rfl) (by kernel_rfl) (fun _ _ _ h => h) (by rfl) hHeld (fun w hSw => ?_) ?_
        rotate_left 1
        · (try dsimp only at hSw)
          clear hSw
          go_simp
          try with_reducible rfl
        simp only [List.set_cons_succ, List.set_cons_zero]
        refine takeL 4 69 (v := ?_) rfl rfl (by kernel_rfl) (by kernel_rfl) (by kernel_rfl) (fun _ _ _ h => h) (by rfl) hHeld (fun w hSw => ?_) ?_
        rotate_left 1
        · (try dsimp only at hSw)
          clear hSw
          go_simp
          try with_reducible rfl
        simp only [List.set_cons_succ, List.set_cons_zero]
        refine takeL 5 70 (v := ?_) rfl rfl (by kernel_rfl) (by kernel_rfl) (by kernel_rfl) (fun _ _ _ h => h) (by rfl) hHeld (fun w hSw => ?_) ?_
        rotate_left 1
        · (try dsimp only at hSw)
          have e0_ := (bX.grown hSw).cell 1
          clear hSw
          go_simp
          try with_reducible rfl
        simp only [List.set_cons_succ, List.set_cons_zero]
        refine onlyL 1 rfl (by kernel_rfl) (by rfl) (fun K hK => ?_)
        go_wp2_with fail
        refine (cvalue_at hO (some a) _ _ (((V, B, C), q) : CP) _ M.one).mono ?_
        rintro e wq1 ⟨rfl, hb⟩
        have hB0 := hS0.trans (hb.mono hS0.size)
        replace M := M.quiet (pairbase (hO.base _) hW.base _) (pairbase (rcbase _) rpbase _) hb
        clear hHeld hS0 hb
        refine hK.out _ _ hB0 (fun hHeld => ?_)
        clear hK K
        have hS0 := hB0
        clear hB0
        refine takeL 6 71 (v := .bool false) rfl rfl (by kernel_rfl) (by kernel_rfl) (by kernel_rfl) (fun _ _ _ h => h) (by rfl) hHeld (fun w hSw => ?_) ?_
        · clear hSw
          go_simp
        simp only [List.set_cons_succ, List.set_cons_zero]
        refine takeM 7 72 71 rfl rfl rfl (by kernel_rfl) (by kernel_rfl) (by kernel_rfl) (fun _ _ _ h => h) (by rfl) hHeld rfl ?_
        simp only [List.set_cons_succ, List.set_cons_zero]
        refine takeM 8 73 5 rfl rfl rfl (by kernel_rfl) (by kernel_rfl) (by kernel_rfl) (fun _ _ _ h => h) (by rfl) hHeld rfl ?_
        simp only [List.set_cons_succ, List.set_cons_zero]
        refine takeM 10 75 6 rfl rfl rfl (by kernel_rfl) (by kernel_rfl) (by kernel_rfl) (fun _ _ _ h => h) (by rfl) hHeld rfl ?_
        simp only [List.set_cons_succ, List.set_cons_zero]
        refine takeL 11 76 (v := ?_) rfl rfl (by kernel_rfl) (by kernel_rfl) (by kernel_rfl) (fun _ _ _ h => h) (by rfl) hHeld (fun w hSw => ?_) ?_
        rotate_left 1
        · (try dsimp only at hSw)
          clear hSw
          go_simp
          try with_reducible rfl
        simp only [List.set_cons_succ, List.set_cons_zero]
        refine takeL 12 77 (v := ?_) rfl rfl (by kernel_rfl) (by kernel_rfl) (by kernel_rfl) (fun _ _ _ h => h) (by rfl) hHeld (fun w hSw => ?_) ?_
        rotate_left 1
        · (try dsimp only at hSw)
          clear hSw
          go_simp
          try with_reducible rfl
        simp only [List.set_cons_succ, List.set_cons_zero]
        refine takeL 13 78 (v := ?_) rfl rfl (by kernel_rfl) (by kernel_rfl) (by kernel_rfl) (fun _ _ _ h => h) (by rfl) hHeld (fun w hSw => ?_) ?_
        rotate_left 1
        · (try dsimp only at hSw)
          have e0_ := (bX.grown hSw).cell 2
          clear hSw
          go_simp
          try with_reducible rfl
        simp only [List.set_cons_succ, List.set_cons_zero]
        refine onlyL 9 rfl (by kernel_rfl) (by rfl) (fun K hK => ?_)
        go_wp2_with fail
        refine (cboots_at hO (some a) _ _ (((V, B, C), q) : CP) _ M.one).mono ?_
        rintro e wq9 ⟨rfl, hb⟩
        have hB0 := hS0.trans (hb.mono hS0.size)
        replace M := M.quiet (pairbase (hO.base _) hW.base _) (pairbase (rcbase _) rpbase _) hb
        clear hHeld hS0 hb
        refine hK.out _ _ hB0 (fun hHeld => ?_)
        clear hK K
        have hS0 := hB0
        clear hB0
        refine takeL 14 79 (v := .bool false) rfl rfl (by kernel_rfl) (by kernel_rfl) (by kernel_rfl) (fun _ _ _ h => h) (by rfl) hHeld (fun w hSw => ?_) ?_
        · clear hSw
          go_simp
        simp only [List.set_cons_succ, List.set_cons_zero]
        refine takeL 15 80 (v := .bool false) rfl rfl (by kernel_rfl) (by kernel_rfl) (by kernel_rfl) (fun _ _ _ h => h) (by rfl) hHeld (fun w hSw => ?_) ?_
        · clear hSw
          go_simp
        simp only [List.set_cons_succ, List.set_cons_zero]
        refine takeM 16 81 80 rfl rfl rfl (by kernel_rfl) (by kernel_rfl) (by kernel_rfl) (fun _ _ _ h => h) (by rfl) hHeld rfl ?_
        simp only [List.set_cons_succ, List.set_cons_zero]
        refine takeM 17 82 5 rfl rfl rfl (by kernel_rfl) (by kernel_rfl) (by kernel_rfl) (fun _ _ _ h => h) (by rfl) hHeld rfl ?_
        simp only [List.set_cons_succ, List.set_cons_zero]
        refine takeM 19 84 6 rfl rfl rfl (by kernel_rfl) (by kernel_rfl) (by kernel_rfl) (fun _ _ _ h => h) (by rfl) hHeld rfl ?_
        simp only [List.set_cons_succ, List.set_cons_zero]
        refine takeL 20 85 (v := ?_) rfl rfl (by kernel_rfl) (by kernel_rfl) (by kernel_rfl) (fun _ _ _ h => h) (by rfl) hHeld (fun w hSw => ?_) ?_
        rotate_left 1
        · (try dsimp only at hSw)
          clear hSw
          go_simp
          try with_reducible rfl
        simp only [List.set_cons_succ, List.set_cons_zero]
        refine takeL 21 86 (v := ?_) rfl rfl (by kernel_rfl) (by kernel_rfl) (by kernel_rfl) (fun _ _ _ h => h) (by rfl) hHeld (fun w hSw => ?_) ?_
        rotate_left 1
        · (try dsimp only at hSw)
          clear hSw
          go_simp
          try with_reducible rfl
        simp only [List.set_cons_succ, List.set_cons_zero]
        refine takeL 22 87 (v := ?_) rfl rfl (by kernel_rfl) (by kernel_rfl) (by kernel_rfl) (fun _ _ _ h => h) (by rfl) hHeld (fun w hSw => ?_) ?_
        rotate_left 1
        · (try dsimp only at hSw)
          have e0_ := (bX.grown hSw).cell 3
          clear hSw
          go_simp
          try with_reducible rfl
        simp only [List.set_cons_succ, List.set_cons_zero]
        refine onlyL 18 rfl (by kernel_rfl) (by rfl) (fun K hK => ?_)
        go_wp2_with fail
        refine (cat__at hO (some a) _ _ (((V, B, C), q) : CP) _ M.one).mono ?_
        rintro e wq18 ⟨rfl, hb⟩
        have hB0 := hS0.trans (hb.mono hS0.size)
        replace M := M.quiet (pairbase (hO.base _) hW.base _) (pairbase (rcbase _) rpbase _) hb
        clear hHeld hS0 hb
        refine hK.out _ _ hB0 (fun hHeld => ?_)
        clear hK K
        have hS0 := hB0
        clear hB0
        refine takeL 23 88 (v := .bool false) rfl rfl (by kernel_rfl) (by kernel_rfl) (by kernel_rfl) (fun _ _ _ h => h) (by rfl) hHeld (fun w hSw => ?_) ?_
        · clear hSw
          go_simp
        simp only [List.set_cons_succ, List.set_cons_zero]
        refine takeL 24 89 (v := .bool false) rfl rfl (by kernel_rfl) (by kernel_rfl) (by kernel_rfl) (fun _ _ _ h => h) (by rfl) hHeld (fun w hSw => ?_) ?_
        · clear hSw
          go_simp
        simp only [List.set_cons_succ, List.set_cons_zero]
        refine wpAnyH_done (by kernel_rfl) ?_ _
        go_wp2
        go_roundw
        case rel => exact ⟨k + 1, _, _, (((V, B, C), q) : CP), by omega, hbd, by go_num, M⟩
        case measure => simp [intOf]; omega
      by_cases hk2 : kd = 2
      · subst hk2
        go_wp2_with fail
        refine (cback_at hW hO (some a) H1 _ s _ M.one).mono ?_
        rintro e w5 ⟨H3, rfl, hK⟩
        replace M := M.o1 (pairbase (rcbase _) rpbase _) hK
        clear hK hs0
        go_wp2_with fail
        refine (rcback_at _ H2 _ s _ M.two).mono ?_
        rintro e wr ⟨H4, rfl, hK⟩
        replace M := M.o2 (pairbase (hO.base _) hW.base _) hK
        clear hK
        have hbd1 : CBd (k + 1) (s.1, pBack s.2) := ⟨Nat.le_succ_of_le hbd0.1, Nat.le_succ_of_le hbd0.2.1, Nat.le_succ_of_le hbd0.2.2⟩
        generalize pBack s.2 = q2 at *
        have hbd := hbd1
        clear hbd1 hbd0 hs1 hs2 hs3
        obtain ⟨⟨V, B, C⟩, q0⟩ := s
        dsimp only at M hbd
        clear q0
        obtain ⟨q, hq⟩ : ∃ q, q = q2 := ⟨_, rfl⟩
        subst hq
        go_wp2_with fail
        have bX : CBox 33 wr bx #[.pointer (some ⟨bq, 0, none⟩), .int .u64 (V : Int), .int .u64 (B : Int), .int .u64 (C : Int)] := by
          obtain ⟨F1, G1, ⟨b, e, h, _⟩, _⟩ := M.two
          obtain rfl : bx = b := by simpa using e
          exact h
        replace M := M.quiet (pairbase (hO.base _) hW.base _) (pairbase (rcbase _) rpbase _) (Below.refl _ _).drew
        have hS0 : Below wr.heap.size wr wr.drew := (Below.refl _ _).drew
        refine wp_region_held_drew (S := fun w' => Below wr.heap.size wr w') (by kernel_rfl) (Below.refl _ _).drew (fun hHeld => ?_)
        refine takeM 0 65 5 rfl rfl rfl (by kernel_rfl) (by kernel_rfl) (by kernel_rfl) (fun _ _ _ h => h) (by rfl) hHeld rfl ?_
        simp only [List.set_cons_succ, List.set_cons_zero]
        refine takeM 2 67 6 rfl rfl rfl (by kernel_rfl) (by kernel_rfl) (by kernel_rfl) (fun _ _ _ h => h) (by rfl) hHeld rfl ?_
        simp only [List.set_cons_succ, List.set_cons_zero]
        refine takeL 3 68 (v := ?_) rfl rfl (by kernel_rfl) (by kernel_rfl) (by kernel_rfl) (fun _ _ _ h => h) (by rfl) hHeld (fun w hSw => ?_) ?_
        rotate_left 1
        · (try dsimp only at hSw)
          clear hSw
          go_simp
          try with_reducible rfl
        simp only [List.set_cons_succ, List.set_cons_zero]
        refine takeL 4 69 (v := ?_) rfl rfl (by kernel_rfl) (by kernel_rfl) (by kernel_rfl) (fun _ _ _ h => h) (by rfl) hHeld (fun w hSw => ?_) ?_
        rotate_left 1
        · (try dsimp only at hSw)
          clear hSw
          go_simp
          try with_reducible rfl
        simp only [List.set_cons_succ, List.set_cons_zero]
        refine takeL 5 70 (v := ?_) rfl rfl (by kernel_rfl) (by kernel_rfl) (by kernel_rfl) (fun _ _ _ h => h) (by rfl) hHeld (fun w hSw => ?_) ?_
        rotate_left 1
        · (try dsimp only at hSw)
          have e0_ := (bX.grown hSw).cell 1
          clear hSw
          go_simp
          try with_reducible rfl
        simp only [List.set_cons_succ, List.set_cons_zero]
        refine onlyL 1 rfl (by kernel_rfl) (by rfl) (fun K hK => ?_)
        go_wp2_with fail
        refine (cvalue_at hO (some a) _ _ (((V, B, C), q) : CP) _ M.one).mono ?_
        rintro e wq1 ⟨rfl, hb⟩
        have hB0 := hS0.trans (hb.mono hS0.size)
        replace M := M.quiet (pairbase (hO.base _) hW.base _) (pairbase (rcbase _) rpbase _) hb
        clear hHeld hS0 hb
        refine hK.out _ _ hB0 (fun hHeld => ?_)
        clear hK K
        have hS0 := hB0
        clear hB0
        refine takeL 6 71 (v := .bool false) rfl rfl (by kernel_rfl) (by kernel_rfl) (by kernel_rfl) (fun _ _ _ h => h) (by rfl) hHeld (fun w hSw => ?_) ?_
        · clear hSw
          go_simp
        simp only [List.set_cons_succ, List.set_cons_zero]
        refine takeM 7 72 71 rfl rfl rfl (by kernel_rfl) (by kernel_rfl) (by kernel_rfl) (fun _ _ _ h => h) (by rfl) hHeld rfl ?_
        simp only [List.set_cons_succ, List.set_cons_zero]
        refine takeM 8 73 5 rfl rfl rfl (by kernel_rfl) (by kernel_rfl) (by kernel_rfl) (fun _ _ _ h => h) (by rfl) hHeld rfl ?_
        simp only [List.set_cons_succ, List.set_cons_zero]
        refine takeM 10 75 6 rfl rfl rfl (by kernel_rfl) (by kernel_rfl) (by kernel_rfl) (fun _ _ _ h => h) (by rfl) hHeld rfl ?_
        simp only [List.set_cons_succ, List.set_cons_zero]
        refine takeL 11 76 (v := ?_) rfl rfl (by kernel_rfl) (by kernel_rfl) (by kernel_rfl) (fun _ _ _ h => h) (by rfl) hHeld (fun w hSw => ?_) ?_
        rotate_left 1
        · (try dsimp only at hSw)
          clear hSw
          go_simp
          try with_reducible rfl
        simp only [List.set_cons_succ, List.set_cons_zero]
        refine takeL 12 77 (v := ?_) rfl rfl (by kernel_rfl) (by kernel_rfl) (by kernel_rfl) (fun _ _ _ h => h) (by rfl) hHeld (fun w hSw => ?_) ?_
        rotate_left 1
        · (try dsimp only at hSw)
          clear hSw
          go_simp
          try with_reducible rfl
        simp only [List.set_cons_succ, List.set_cons_zero]
        refine takeL 13 78 (v := ?_) rfl rfl (by kernel_rfl) (by kernel_rfl) (by kernel_rfl) (fun _ _ _ h => h) (by rfl) hHeld (fun w hSw => ?_) ?_
        rotate_left 1
        · (try dsimp only at hSw)
          have e0_ := (bX.grown hSw).cell 2
          clear hSw
          go_simp
          try with_reducible rfl
        simp only [List.set_cons_succ, List.set_cons_zero]
        refine onlyL 9 rfl (by kernel_rfl) (by rfl) (fun K hK => ?_)
        go_wp2_with fail
        refine (cboots_at hO (some a) _ _ (((V, B, C), q) : CP) _ M.one).mono ?_
        rintro e wq9 ⟨rfl, hb⟩
        have hB0 := hS0.trans (hb.mono hS0.size)
        replace M := M.quiet (pairbase (hO.base _) hW.base _) (pairbase (rcbase _) rpbase _) hb
        clear hHeld hS0 hb
        refine hK.out _ _ hB0 (fun hHeld => ?_)
        clear hK K
        have hS0 := hB0
        clear hB0
        refine takeL 14 79 (v := .bool false) rfl rfl (by kernel_rfl) (by kernel_rfl) (by kernel_rfl) (fun _ _ _ h => h) (by rfl) hHeld (fun w hSw => ?_) ?_
        · clear hSw
          go_simp
        simp only [List.set_cons_succ, List.set_cons_zero]
        refine takeL 15 80 (v := .bool false) rfl rfl (by kernel_rfl) (by kernel_rfl) (by kernel_rfl) (fun _ _ _ h => h) (by rfl) hHeld (fun w hSw => ?_) ?_
        · clear hSw
          go_simp
        simp only [List.set_cons_succ, List.set_cons_zero]
        refine takeM 16 81 80 rfl rfl rfl (by kernel_rfl) (by kernel_rfl) (by kernel_rfl) (fun _ _ _ h => h) (by rfl) hHeld rfl ?_
        simp only [List.set_cons_succ, List.set_cons_zero]
        refine takeM 17 82 5 rfl rfl rfl (by kernel_rfl) (by kernel_rfl) (by kernel_rfl) (fun _ _ _ h => h) (by rfl) hHeld rfl ?_
        simp only [List.set_cons_succ, List.set_cons_zero]
        refine takeM 19 84 6 rfl rfl rfl (by kernel_rfl) (by kernel_rfl) (by kernel_rfl) (fun _ _ _ h => h) (by rfl) hHeld rfl ?_
        simp only [List.set_cons_succ, List.set_cons_zero]
        refine takeL 20 85 (v := ?_) rfl rfl (by kernel_rfl) (by kernel_rfl) (by kernel_rfl) (fun _ _ _ h => h) (by rfl) hHeld (fun w hSw => ?_) ?_
        rotate_left 1
        · (try dsimp only at hSw)
          clear hSw
          go_simp
          try with_reducible rfl
        simp only [List.set_cons_succ, List.set_cons_zero]
        refine takeL 21 86 (v := ?_) rfl rfl (by kernel_rfl) (by kernel_rfl) (by kernel_rfl) (fun _ _ _ h => h) (by rfl) hHeld (fun w hSw => ?_) ?_
        rotate_left 1
        · (try dsimp only at hSw)
          clear hSw
          go_simp
          try with_reducible rfl
        simp only [List.set_cons_succ, List.set_cons_zero]
        refine takeL 22 87 (v := ?_) rfl rfl (by kernel_rfl) (by kernel_rfl) (by kernel_rfl) (fun _ _ _ h => h) (by rfl) hHeld (fun w hSw => ?_) ?_
        rotate_left 1
        · (try dsimp only at hSw)
          have e0_ := (bX.grown hSw).cell 3
          clear hSw
          go_simp
          try with_reducible rfl
        simp only [List.set_cons_succ, List.set_cons_zero]
        refine onlyL 18 rfl (by kernel_rfl) (by rfl) (fun K hK => ?_)
        go_wp2_with fail
        refine (cat__at hO (some a) _ _ (((V, B, C), q) : CP) _ M.one).mono ?_
        rintro e wq18 ⟨rfl, hb⟩
        have hB0 := hS0.trans (hb.mono hS0.size)
        replace M := M.quiet (pairbase (hO.base _) hW.base _) (pairbase (rcbase _) rpbase _) hb
        clear hHeld hS0 hb
        refine hK.out _ _ hB0 (fun hHeld => ?_)
        clear hK K
        have hS0 := hB0
        clear hB0
        refine takeL 23 88 (v := .bool false) rfl rfl (by kernel_rfl) (by kernel_rfl) (by kernel_rfl) (fun _ _ _ h => h) (by rfl) hHeld (fun w hSw => ?_) ?_
        · clear hSw
          go_simp
        simp only [List.set_cons_succ, List.set_cons_zero]
        refine takeL 24 89 (v := .bool false) rfl rfl (by kernel_rfl) (by kernel_rfl) (by kernel_rfl) (fun _ _ _ h => h) (by rfl) hHeld (fun w hSw => ?_) ?_
        · clear hSw
          go_simp
        simp only [List.set_cons_succ, List.set_cons_zero]
        refine wpAnyH_done (by kernel_rfl) ?_ _
        go_wp2
        go_roundw
        case rel => exact ⟨k + 1, _, _, (((V, B, C), q) : CP), by omega, hbd, by go_num, M⟩
        case measure => simp [intOf]; omega
      · go_wp2_with fail
        refine (cfuse_at hW hO (some a) H1 _ s kd HKD.out _ M.one).mono ?_
        rintro e w5 ⟨H3, rfl, hK⟩
        replace M := M.o1 (pairbase (rcbase _) rpbase _) hK
        clear hK hs0
        have hs0 := (M.hB.cell (p := ⟨b, o0 + k, none⟩) hb0).trans HC0.out
        go_wp2_with fail
        refine (rcfuse_at _ H2 _ s kd HKD.out _ M.two).mono ?_
        rintro e wr ⟨H4, rfl, hK⟩
        replace M := M.o2 (pairbase (hO.base _) hW.base _) hK
        clear hK hs0
        have hbd1 : CBd (k + 1) (s.1, pFuse s.2 kd) := ⟨Nat.le_succ_of_le hbd0.1, Nat.le_succ_of_le hbd0.2.1, Nat.le_succ_of_le hbd0.2.2⟩
        generalize pFuse s.2 kd = q2 at *
        have hbd := hbd1
        clear hbd1 hbd0 hs1 hs2 hs3
        obtain ⟨⟨V, B, C⟩, q0⟩ := s
        dsimp only at M hbd
        clear q0
        obtain ⟨q, hq⟩ : ∃ q, q = q2 := ⟨_, rfl⟩
        subst hq
        go_wp2_with fail
        have bX : CBox 33 wr bx #[.pointer (some ⟨bq, 0, none⟩), .int .u64 (V : Int), .int .u64 (B : Int), .int .u64 (C : Int)] := by
          obtain ⟨F1, G1, ⟨b, e, h, _⟩, _⟩ := M.two
          obtain rfl : bx = b := by simpa using e
          exact h
        replace M := M.quiet (pairbase (hO.base _) hW.base _) (pairbase (rcbase _) rpbase _) (Below.refl _ _).drew
        have hS0 : Below wr.heap.size wr wr.drew := (Below.refl _ _).drew
        refine wp_region_held_drew (S := fun w' => Below wr.heap.size wr w') (by kernel_rfl) (Below.refl _ _).drew (fun hHeld => ?_)
        refine takeM 0 65 5 rfl rfl rfl (by kernel_rfl) (by kernel_rfl) (by kernel_rfl) (fun _ _ _ h => h) (by rfl) hHeld rfl ?_
        simp only [List.set_cons_succ, List.set_cons_zero]
        refine takeM 2 67 6 rfl rfl rfl (by kernel_rfl) (by kernel_rfl) (by kernel_rfl) (fun _ _ _ h => h) (by rfl) hHeld rfl ?_
        simp only [List.set_cons_succ, List.set_cons_zero]
        refine takeL 3 68 (v := ?_) rfl rfl (by kernel_rfl) (by kernel_rfl) (by kernel_rfl) (fun _ _ _ h => h) (by rfl) hHeld (fun w hSw => ?_) ?_
        rotate_left 1
        · (try dsimp only at hSw)
          clear hSw
          go_simp
          try with_reducible rfl
        simp only [List.set_cons_succ, List.set_cons_zero]
        refine takeL 4 69 (v := ?_) rfl rfl (by kernel_rfl) (by kernel_rfl) (by kernel_rfl) (fun _ _ _ h => h) (by rfl) hHeld (fun w hSw => ?_) ?_
        rotate_left 1
        · (try dsimp only at hSw)
          clear hSw
          go_simp
          try with_reducible rfl
        simp only [List.set_cons_succ, List.set_cons_zero]
        refine takeL 5 70 (v := ?_) rfl rfl (by kernel_rfl) (by kernel_rfl) (by kernel_rfl) (fun _ _ _ h => h) (by rfl) hHeld (fun w hSw => ?_) ?_
        rotate_left 1
        · (try dsimp only at hSw)
          have e0_ := (bX.grown hSw).cell 1
          clear hSw
          go_simp
          try with_reducible rfl
        simp only [List.set_cons_succ, List.set_cons_zero]
        refine onlyL 1 rfl (by kernel_rfl) (by rfl) (fun K hK => ?_)
        go_wp2_with fail
        refine (cvalue_at hO (some a) _ _ (((V, B, C), q) : CP) _ M.one).mono ?_
        rintro e wq1 ⟨rfl, hb⟩
        have hB0 := hS0.trans (hb.mono hS0.size)
        replace M := M.quiet (pairbase (hO.base _) hW.base _) (pairbase (rcbase _) rpbase _) hb
        clear hHeld hS0 hb
        refine hK.out _ _ hB0 (fun hHeld => ?_)
        clear hK K
        have hS0 := hB0
        clear hB0
        refine takeL 6 71 (v := .bool false) rfl rfl (by kernel_rfl) (by kernel_rfl) (by kernel_rfl) (fun _ _ _ h => h) (by rfl) hHeld (fun w hSw => ?_) ?_
        · clear hSw
          go_simp
        simp only [List.set_cons_succ, List.set_cons_zero]
        refine takeM 7 72 71 rfl rfl rfl (by kernel_rfl) (by kernel_rfl) (by kernel_rfl) (fun _ _ _ h => h) (by rfl) hHeld rfl ?_
        simp only [List.set_cons_succ, List.set_cons_zero]
        refine takeM 8 73 5 rfl rfl rfl (by kernel_rfl) (by kernel_rfl) (by kernel_rfl) (fun _ _ _ h => h) (by rfl) hHeld rfl ?_
        simp only [List.set_cons_succ, List.set_cons_zero]
        refine takeM 10 75 6 rfl rfl rfl (by kernel_rfl) (by kernel_rfl) (by kernel_rfl) (fun _ _ _ h => h) (by rfl) hHeld rfl ?_
        simp only [List.set_cons_succ, List.set_cons_zero]
        refine takeL 11 76 (v := ?_) rfl rfl (by kernel_rfl) (by kernel_rfl) (by kernel_rfl) (fun _ _ _ h => h) (by rfl) hHeld (fun w hSw => ?_) ?_
        rotate_left 1
        · (try dsimp only at hSw)
          clear hSw
          go_simp
          try with_reducible rfl
        simp only [List.set_cons_succ, List.set_cons_zero]
        refine takeL 12 77 (v := ?_) rfl rfl (by kernel_rfl) (by kernel_rfl) (by kernel_rfl) (fun _ _ _ h => h) (by rfl) hHeld (fun w hSw => ?_) ?_
        rotate_left 1
        · (try dsimp only at hSw)
          clear hSw
          go_simp
          try with_reducible rfl
        simp only [List.set_cons_succ, List.set_cons_zero]
        refine takeL 13 78 (v := ?_) rfl rfl (by kernel_rfl) (by kernel_rfl) (by kernel_rfl) (fun _ _ _ h => h) (by rfl) hHeld (fun w hSw => ?_) ?_
        rotate_left 1
        · (try dsimp only at hSw)
          have e0_ := (bX.grown hSw).cell 2
          clear hSw
          go_simp
          try with_reducible rfl
        simp only [List.set_cons_succ, List.set_cons_zero]
        refine onlyL 9 rfl (by kernel_rfl) (by rfl) (fun K hK => ?_)
        go_wp2_with fail
        refine (cboots_at hO (some a) _ _ (((V, B, C), q) : CP) _ M.one).mono ?_
        rintro e wq9 ⟨rfl, hb⟩
        have hB0 := hS0.trans (hb.mono hS0.size)
        replace M := M.quiet (pairbase (hO.base _) hW.base _) (pairbase (rcbase _) rpbase _) hb
        clear hHeld hS0 hb
        refine hK.out _ _ hB0 (fun hHeld => ?_)
        clear hK K
        have hS0 := hB0
        clear hB0
        refine takeL 14 79 (v := .bool false) rfl rfl (by kernel_rfl) (by kernel_rfl) (by kernel_rfl) (fun _ _ _ h => h) (by rfl) hHeld (fun w hSw => ?_) ?_
        · clear hSw
          go_simp
        simp only [List.set_cons_succ, List.set_cons_zero]
        refine takeL 15 80 (v := .bool false) rfl rfl (by kernel_rfl) (by kernel_rfl) (by kernel_rfl) (fun _ _ _ h => h) (by rfl) hHeld (fun w hSw => ?_) ?_
        · clear hSw
          go_simp
        simp only [List.set_cons_succ, List.set_cons_zero]
        refine takeM 16 81 80 rfl rfl rfl (by kernel_rfl) (by kernel_rfl) (by kernel_rfl) (fun _ _ _ h => h) (by rfl) hHeld rfl ?_
        simp only [List.set_cons_succ, List.set_cons_zero]
        refine takeM 17 82 5 rfl rfl rfl (by kernel_rfl) (by kernel_rfl) (by kernel_rfl) (fun _ _ _ h => h) (by rfl) hHeld rfl ?_
        simp only [List.set_cons_succ, List.set_cons_zero]
        refine takeM 19 84 6 rfl rfl rfl (by kernel_rfl) (by kernel_rfl) (by kernel_rfl) (fun _ _ _ h => h) (by rfl) hHeld rfl ?_
        simp only [List.set_cons_succ, List.set_cons_zero]
        refine takeL 20 85 (v := ?_) rfl rfl (by kernel_rfl) (by kernel_rfl) (by kernel_rfl) (fun _ _ _ h => h) (by rfl) hHeld (fun w hSw => ?_) ?_
        rotate_left 1
        · (try dsimp only at hSw)
          clear hSw
          go_simp
          try with_reducible rfl
        simp only [List.set_cons_succ, List.set_cons_zero]
        refine takeL 21 86 (v := ?_) rfl rfl (by kernel_rfl) (by kernel_rfl) (by kernel_rfl) (fun _ _ _ h => h) (by rfl) hHeld (fun w hSw => ?_) ?_
        rotate_left 1
        · (try dsimp only at hSw)
          clear hSw
          go_simp
          try with_reducible rfl
        simp only [List.set_cons_succ, List.set_cons_zero]
        refine takeL 22 87 (v := ?_) rfl rfl (by kernel_rfl) (by kernel_rfl) (by kernel_rfl) (fun _ _ _ h => h) (by rfl) hHeld (fun w hSw => ?_) ?_
        rotate_left 1
        · (try dsimp only at hSw)
          have e0_ := (bX.grown hSw).cell 3
          clear hSw
          go_simp
          try with_reducible rfl
        simp only [List.set_cons_succ, List.set_cons_zero]
        refine onlyL 18 rfl (by kernel_rfl) (by rfl) (fun K hK => ?_)
        go_wp2_with fail
        refine (cat__at hO (some a) _ _ (((V, B, C), q) : CP) _ M.one).mono ?_
        rintro e wq18 ⟨rfl, hb⟩
        have hB0 := hS0.trans (hb.mono hS0.size)
        replace M := M.quiet (pairbase (hO.base _) hW.base _) (pairbase (rcbase _) rpbase _) hb
        clear hHeld hS0 hb
        refine hK.out _ _ hB0 (fun hHeld => ?_)
        clear hK K
        have hS0 := hB0
        clear hB0
        refine takeL 23 88 (v := .bool false) rfl rfl (by kernel_rfl) (by kernel_rfl) (by kernel_rfl) (fun _ _ _ h => h) (by rfl) hHeld (fun w hSw => ?_) ?_
        · clear hSw
          go_simp
        simp only [List.set_cons_succ, List.set_cons_zero]
        refine takeL 24 89 (v := .bool false) rfl rfl (by kernel_rfl) (by kernel_rfl) (by kernel_rfl) (fun _ _ _ h => h) (by rfl) hHeld (fun w hSw => ?_) ?_
        · clear hSw
          go_simp
        simp only [List.set_cons_succ, List.set_cons_zero]
        refine wpAnyH_done (by kernel_rfl) ?_ _
        go_wp2
        go_roundw
        case rel => exact ⟨k + 1, _, _, (((V, B, C), q) : CP), by omega, hbd, by go_num, M⟩
        case measure => simp [intOf]; omega
    · have hlt' : ¬ (k : Int) < m := by omega
      go_wp2_with fail
      refine (cknown hW hO _).mono ?_
      rintro e w5 ⟨rfl, hb⟩
      replace M := M.quiet (pairbase (hO.base _) hW.base _) (pairbase (rcbase _) rpbase _) hb
      go_wp2
      go_ret
      exact ⟨rfl, M.hB⟩
end Go.Proofs.Ytdehnfgepnnaiaa
