/- PowerPlays' walk. -/
import Derived.Test.YtimbefidgjmlcaaObjB
import Derived.Test.YtimbefidgjmlcaaPowLaws
import Derived.Test.YtimbefidgjmlcaaRefPow
import Derived.Test.YtimbefidgjmlcaaViewAct
import Derived.Test.YtimbefidgjmlcaaRegion
namespace Go.Proofs.Ytimbefidgjmlcaa
open Go.RowKit
set_option maxRecDepth 20000
variable {Inv : (Nat → Prop) → World → Value → PSt → Prop}

set_option maxHeartbeats 4000000 in
theorem pplays (hO : PowIs Inv) (x : Option Addr) (m c : Nat) (A : List (Int × Int)) (w : World) (f1 : m ≤ c ∧ c ≤ maxLen ∧ (x = none → m = 0 ∧ c = 0)) (s1 : RowsAt 2 ActR w x m A) :
    Calls Try.prog 3 #[.slice x m c] w fun e w' => e = .returned (.bool true) ∧ Below w.heap.size w w' := by
  by_cases hm : 300 < m
  · have h1 : (300 : Int) < m := by omega
    go_enter Try.func3, Try.ntmps3
    go_wp2
    go_ret
    exact ⟨rfl, Below.refl _ _⟩
  have h1 : ¬ (300 : Int) < m := by omega
  have HM : Hid (m ≤ 300) := hide' (by omega)
  go_enter Try.func3, Try.ntmps3
  go_wp2_with fail
  refine (hO.make _).mono ?_
  rintro e w1 ⟨v, F, rfl, hI, hF, hB⟩
  obtain ⟨a, rfl⟩ := hO.base.ptr hI
  have M0 : ObjIn Inv w F (.pointer (some a)) (true, none, 0) w1 := ⟨hI, hF, hB⟩
  clear hI hF hB h1 hm
  have hN := CBox.new 27 w1 #[.bool false, .bool false, .int .i64 0, .int .i64 0]
  have M : Duo Inv RPInv w F (.pointer (some a)) (true, none, 0) (fun k => k = w1.heap.size) (.pointer (some ⟨w1.heap.size, 0, none⟩)) (true, none, 0) (w1.alloc (.cells #[.bool false, .bool false, .int .i64 0, .int .i64 0] 27)) :=
    M0.duo hO.base ⟨_, rfl, ⟨false, 0, hN, hide' rfl⟩, fun _ => Iff.rfl⟩ (fun k hk => hk ▸ Nat.le_refl _) ((Below.refl _ _).alloc (Nat.le_refl _) _)
  clear hN M0
  go_wp2_with fail
  generalize w1.heap.size = bx at *
  generalize w1.alloc (.cells #[.bool false, .bool false, .int .i64 0, .int .i64 0] 27) = w2 at *
  go_loopw [5] (fun i wr => ∃ (k : Nat) (F G : Nat → Prop) (st : PSt), k ≤ m ∧ st.2.2 ≤ k ∧ i = .int .i64 (k : Int) ∧ Duo Inv RPInv w F (.pointer (some a)) st G (.pointer (some ⟨bx, 0, none⟩)) st wr) (fun i _ => m - (intOf i).toNat)
  case atStart => exact ⟨0, F, _, (true, none, 0), by omega, by decide, rfl, M⟩
  case round =>
    clear M F
    obtain ⟨k, F, G, st, hk, hle0, rfl, M⟩ := hrel
    by_cases hlt : k < m
    · have hlt' : (k : Int) < m := by omega
      have hw : IntKind.i64.wrap ((k : Int) + 1) = (k : Int) + 1 := by
        have := HM.out
        rw [IntKind.wrap_i64]
        omega
      have hst3 : st.2.2 ≤ 1000000 := by
        have := HM.out
        omega
      obtain ⟨b, o0, rfl, hb0, kd, nm, hnm, hc0, hc1⟩ := act_at s1 hlt
      have hs0 := (M.hB.cell (p := ⟨b, o0 + k * 2, none⟩) hb0).trans hc0
      have HC1 := hide' hc1
      have HNM := hide' hnm
      clear hc0 hc1 hnm
      by_cases hk1 : kd = 1
      · subst hk1
        have hs1 := (M.hB.cell (p := ⟨b, o0 + k * 2 + 1, none⟩) hb0).trans HC1.out
        go_wp2_with fail
        refine (hO.fuse F _ st nm HNM.out _ M.one).mono ?_
        rintro e w4 ⟨F2, rfl, hK⟩
        replace M := M.o1 rpbase hK
        clear hK hs0 hs1
        have hs1 := (M.hB.cell (p := ⟨b, o0 + k * 2 + 1, none⟩) hb0).trans HC1.out
        go_wp2_with fail
        refine (rfuse G _ st nm HNM.out _ M.two).mono ?_
        rintro e wr ⟨G2, rfl, hK⟩
        replace M := M.o2 hO.base hK
        clear hK hs1
        have hle : (pFuse st nm).2.2 ≤ k + 1 := Nat.le_succ_of_le hle0
        obtain ⟨st2, hst⟩ : ∃ s : PSt, pFuse st nm = s := ⟨_, rfl⟩
        rw [hst] at M hle
        clear hst hle0 hst3
        obtain ⟨o, u, n⟩ := st2
        go_wp2_with fail
        have bX : ∃ (f : Bool) (l : Int), CBox 27 wr bx #[.bool (!o), .bool f, .int .i64 l, .int .i64 (n : Int)] := by
          obtain ⟨b, e, ⟨f, l, h, _⟩, _⟩ := M.two
          obtain rfl : bx = b := by simpa using e
          exact ⟨f, l, h⟩
        obtain ⟨f, l, bX⟩ := bX
        refine wp_region_held_drew (S := fun w' => Below wr.heap.size wr w') (by kernel_rfl) (Below.refl _ _).drew (fun hHeld => ?_)
        refine takeM 0 54 3 rfl rfl rfl (by kernel_rfl) (by kernel_rfl) (by kernel_rfl) (fun _ _ _ h => h) (by rfl) hHeld rfl ?_
        simp only [List.set_cons_succ, List.set_cons_zero]
        refine takeM 2 56 4 rfl rfl rfl (by kernel_rfl) (by kernel_rfl) (by kernel_rfl) (fun _ _ _ h => h) (by rfl) hHeld rfl ?_
        simp only [List.set_cons_succ, List.set_cons_zero]
        refine takeL 3 57 (v := ?_) rfl rfl (by kernel_rfl) (by kernel_rfl) (by kernel_rfl) (fun _ _ _ h => h) (by rfl) hHeld (fun w hSw => ?_) ?_
        rotate_left 1
        · (try dsimp only at hSw)
          clear hSw
          go_simp
          try with_reducible rfl
        simp only [List.set_cons_succ, List.set_cons_zero]
        refine takeL 4 58 (v := ?_) rfl rfl (by kernel_rfl) (by kernel_rfl) (by kernel_rfl) (fun _ _ _ h => h) (by rfl) hHeld (fun w hSw => ?_) ?_
        rotate_left 1
        · (try dsimp only at hSw)
          clear hSw
          go_simp
          try with_reducible rfl
        simp only [List.set_cons_succ, List.set_cons_zero]
        refine takeL 5 59 (v := ?_) rfl rfl (by kernel_rfl) (by kernel_rfl) (by kernel_rfl) (fun _ _ _ h => h) (by rfl) hHeld (fun w hSw => ?_) ?_
        rotate_left 1
        · (try dsimp only at hSw)
          have e0_ := (bX.grown hSw).cell 0
          clear hSw
          go_simp
          try with_reducible rfl
        simp only [List.set_cons_succ, List.set_cons_zero]
        refine onlyL 1 rfl (by kernel_rfl) (by rfl) (fun K hK => ?_)
        go_wp2_with fail
        refine (hO.on _ _ (o, u, n) _ (M.quiet hO.base rpbase (Below.refl _ _).drew).one).mono ?_
        rintro e wq ⟨rfl, hb⟩
        replace hb := hHeld.trans (hb.mono hHeld.size)
        replace M := M.quiet hO.base rpbase hb
        clear hHeld
        refine hK.out _ _ hb (fun hHeld => ?_)
        clear hK K
        refine takeL 6 60 (v := .bool false) rfl rfl (by kernel_rfl) (by kernel_rfl) (by kernel_rfl) (fun _ _ _ h => h) (by rfl) hHeld (fun w hSw => ?_) ?_
        · clear hSw
          cases o <;> go_simp
        simp only [List.set_cons_succ, List.set_cons_zero]
        refine takeM 7 61 60 rfl rfl rfl (by kernel_rfl) (by kernel_rfl) (by kernel_rfl) (fun _ _ _ h => h) (by rfl) hHeld rfl ?_
        simp only [List.set_cons_succ, List.set_cons_zero]
        refine takeM 8 62 3 rfl rfl rfl (by kernel_rfl) (by kernel_rfl) (by kernel_rfl) (fun _ _ _ h => h) (by rfl) hHeld rfl ?_
        simp only [List.set_cons_succ, List.set_cons_zero]
        refine takeM 10 64 4 rfl rfl rfl (by kernel_rfl) (by kernel_rfl) (by kernel_rfl) (fun _ _ _ h => h) (by rfl) hHeld rfl ?_
        simp only [List.set_cons_succ, List.set_cons_zero]
        refine takeL 11 65 (v := ?_) rfl rfl (by kernel_rfl) (by kernel_rfl) (by kernel_rfl) (fun _ _ _ h => h) (by rfl) hHeld (fun w hSw => ?_) ?_
        rotate_left 1
        · (try dsimp only at hSw)
          clear hSw
          go_simp
          try with_reducible rfl
        simp only [List.set_cons_succ, List.set_cons_zero]
        refine takeL 12 66 (v := ?_) rfl rfl (by kernel_rfl) (by kernel_rfl) (by kernel_rfl) (fun _ _ _ h => h) (by rfl) hHeld (fun w hSw => ?_) ?_
        rotate_left 1
        · (try dsimp only at hSw)
          clear hSw
          go_simp
          try with_reducible rfl
        simp only [List.set_cons_succ, List.set_cons_zero]
        refine takeL 13 67 (v := ?_) rfl rfl (by kernel_rfl) (by kernel_rfl) (by kernel_rfl) (fun _ _ _ h => h) (by rfl) hHeld (fun w hSw => ?_) ?_
        rotate_left 1
        · (try dsimp only at hSw)
          have e0_ := (bX.grown hSw).cell 3
          clear hSw
          go_simp
          try with_reducible rfl
        simp only [List.set_cons_succ, List.set_cons_zero]
        refine onlyL 9 rfl (by kernel_rfl) (by rfl) (fun K hK => ?_)
        go_wp2_with fail
        refine (hO.steps _ _ (o, u, n) _ M.one).mono ?_
        rintro e wp ⟨rfl, hb2⟩
        have hb3 := hb.trans (hb2.mono hb.size)
        replace M := M.quiet hO.base rpbase hb2
        clear hHeld
        refine hK.out _ _ hb3 (fun hHeld => ?_)
        clear hK K
        refine takeL 14 68 (v := .bool false) rfl rfl (by kernel_rfl) (by kernel_rfl) (by kernel_rfl) (fun _ _ _ h => h) (by rfl) hHeld (fun w hSw => ?_) ?_
        · clear hSw
          go_simp
        simp only [List.set_cons_succ, List.set_cons_zero]
        refine takeL 15 69 (v := .bool false) rfl rfl (by kernel_rfl) (by kernel_rfl) (by kernel_rfl) (fun _ _ _ h => h) (by rfl) hHeld (fun w hSw => ?_) ?_
        · clear hSw
          go_simp
        simp only [List.set_cons_succ, List.set_cons_zero]
        refine wpAnyH_done (by kernel_rfl) ?_ _
        go_wp2
        go_roundw
        case rel => exact ⟨k + 1, _, _, (o, u, n), by omega, hle, by go_num, M⟩
        case measure => simp [intOf]; omega
      by_cases hk2 : kd = 2
      · subst hk2
        go_wp2_with fail
        refine (hO.spend F _ st hst3 _ M.one).mono ?_
        rintro e w4 ⟨F2, rfl, hK⟩
        replace M := M.o1 rpbase hK
        clear hK hs0
        go_wp2_with fail
        refine (rspend G _ st hst3 _ M.two).mono ?_
        rintro e wr ⟨G2, rfl, hK⟩
        replace M := M.o2 hO.base hK
        clear hK
        have hle : (pSpend st).2.2.2 ≤ k + 1 := Nat.le_trans (pSpend_le st) (Nat.succ_le_succ hle0)
        generalize (pSpend st).1 = r at *
        obtain ⟨st2, hst⟩ : ∃ s : PSt, (pSpend st).2 = s := ⟨_, rfl⟩
        rw [hst] at M hle
        clear hst hle0 hst3
        obtain ⟨o, u, n⟩ := st2
        go_wp2_with fail
        have bX : ∃ (f : Bool) (l : Int), CBox 27 wr bx #[.bool (!o), .bool f, .int .i64 l, .int .i64 (n : Int)] := by
          obtain ⟨b, e, ⟨f, l, h, _⟩, _⟩ := M.two
          obtain rfl : bx = b := by simpa using e
          exact ⟨f, l, h⟩
        obtain ⟨f, l, bX⟩ := bX
        refine wp_region_held_drew (S := fun w' => Below wr.heap.size wr w') (by kernel_rfl) (Below.refl _ _).drew (fun hHeld => ?_)
        refine takeM 0 54 3 rfl rfl rfl (by kernel_rfl) (by kernel_rfl) (by kernel_rfl) (fun _ _ _ h => h) (by rfl) hHeld rfl ?_
        simp only [List.set_cons_succ, List.set_cons_zero]
        refine takeM 2 56 4 rfl rfl rfl (by kernel_rfl) (by kernel_rfl) (by kernel_rfl) (fun _ _ _ h => h) (by rfl) hHeld rfl ?_
        simp only [List.set_cons_succ, List.set_cons_zero]
        refine takeL 3 57 (v := ?_) rfl rfl (by kernel_rfl) (by kernel_rfl) (by kernel_rfl) (fun _ _ _ h => h) (by rfl) hHeld (fun w hSw => ?_) ?_
        rotate_left 1
        · (try dsimp only at hSw)
          clear hSw
          go_simp
          try with_reducible rfl
        simp only [List.set_cons_succ, List.set_cons_zero]
        refine takeL 4 58 (v := ?_) rfl rfl (by kernel_rfl) (by kernel_rfl) (by kernel_rfl) (fun _ _ _ h => h) (by rfl) hHeld (fun w hSw => ?_) ?_
        rotate_left 1
        · (try dsimp only at hSw)
          clear hSw
          go_simp
          try with_reducible rfl
        simp only [List.set_cons_succ, List.set_cons_zero]
        refine takeL 5 59 (v := ?_) rfl rfl (by kernel_rfl) (by kernel_rfl) (by kernel_rfl) (fun _ _ _ h => h) (by rfl) hHeld (fun w hSw => ?_) ?_
        rotate_left 1
        · (try dsimp only at hSw)
          have e0_ := (bX.grown hSw).cell 0
          clear hSw
          go_simp
          try with_reducible rfl
        simp only [List.set_cons_succ, List.set_cons_zero]
        refine onlyL 1 rfl (by kernel_rfl) (by rfl) (fun K hK => ?_)
        go_wp2_with fail
        refine (hO.on _ _ (o, u, n) _ (M.quiet hO.base rpbase (Below.refl _ _).drew).one).mono ?_
        rintro e wq ⟨rfl, hb⟩
        replace hb := hHeld.trans (hb.mono hHeld.size)
        replace M := M.quiet hO.base rpbase hb
        clear hHeld
        refine hK.out _ _ hb (fun hHeld => ?_)
        clear hK K
        refine takeL 6 60 (v := .bool false) rfl rfl (by kernel_rfl) (by kernel_rfl) (by kernel_rfl) (fun _ _ _ h => h) (by rfl) hHeld (fun w hSw => ?_) ?_
        · clear hSw
          cases o <;> go_simp
        simp only [List.set_cons_succ, List.set_cons_zero]
        refine takeM 7 61 60 rfl rfl rfl (by kernel_rfl) (by kernel_rfl) (by kernel_rfl) (fun _ _ _ h => h) (by rfl) hHeld rfl ?_
        simp only [List.set_cons_succ, List.set_cons_zero]
        refine takeM 8 62 3 rfl rfl rfl (by kernel_rfl) (by kernel_rfl) (by kernel_rfl) (fun _ _ _ h => h) (by rfl) hHeld rfl ?_
        simp only [List.set_cons_succ, List.set_cons_zero]
        refine takeM 10 64 4 rfl rfl rfl (by kernel_rfl) (by kernel_rfl) (by kernel_rfl) (fun _ _ _ h => h) (by rfl) hHeld rfl ?_
        simp only [List.set_cons_succ, List.set_cons_zero]
        refine takeL 11 65 (v := ?_) rfl rfl (by kernel_rfl) (by kernel_rfl) (by kernel_rfl) (fun _ _ _ h => h) (by rfl) hHeld (fun w hSw => ?_) ?_
        rotate_left 1
        · (try dsimp only at hSw)
          clear hSw
          go_simp
          try with_reducible rfl
        simp only [List.set_cons_succ, List.set_cons_zero]
        refine takeL 12 66 (v := ?_) rfl rfl (by kernel_rfl) (by kernel_rfl) (by kernel_rfl) (fun _ _ _ h => h) (by rfl) hHeld (fun w hSw => ?_) ?_
        rotate_left 1
        · (try dsimp only at hSw)
          clear hSw
          go_simp
          try with_reducible rfl
        simp only [List.set_cons_succ, List.set_cons_zero]
        refine takeL 13 67 (v := ?_) rfl rfl (by kernel_rfl) (by kernel_rfl) (by kernel_rfl) (fun _ _ _ h => h) (by rfl) hHeld (fun w hSw => ?_) ?_
        rotate_left 1
        · (try dsimp only at hSw)
          have e0_ := (bX.grown hSw).cell 3
          clear hSw
          go_simp
          try with_reducible rfl
        simp only [List.set_cons_succ, List.set_cons_zero]
        refine onlyL 9 rfl (by kernel_rfl) (by rfl) (fun K hK => ?_)
        go_wp2_with fail
        refine (hO.steps _ _ (o, u, n) _ M.one).mono ?_
        rintro e wp ⟨rfl, hb2⟩
        have hb3 := hb.trans (hb2.mono hb.size)
        replace M := M.quiet hO.base rpbase hb2
        clear hHeld
        refine hK.out _ _ hb3 (fun hHeld => ?_)
        clear hK K
        refine takeL 14 68 (v := .bool false) rfl rfl (by kernel_rfl) (by kernel_rfl) (by kernel_rfl) (fun _ _ _ h => h) (by rfl) hHeld (fun w hSw => ?_) ?_
        · clear hSw
          go_simp
        simp only [List.set_cons_succ, List.set_cons_zero]
        refine takeL 15 69 (v := .bool false) rfl rfl (by kernel_rfl) (by kernel_rfl) (by kernel_rfl) (fun _ _ _ h => h) (by rfl) hHeld (fun w hSw => ?_) ?_
        · clear hSw
          go_simp
        simp only [List.set_cons_succ, List.set_cons_zero]
        refine wpAnyH_done (by kernel_rfl) ?_ _
        go_wp2
        go_roundw
        case rel => exact ⟨k + 1, _, _, (o, u, n), by omega, hle, by go_num, M⟩
        case measure => simp [intOf]; omega
      · go_wp2_with fail
        refine (hO.back F _ st _ M.one).mono ?_
        rintro e w4 ⟨F2, rfl, hK⟩
        replace M := M.o1 rpbase hK
        clear hK hs0
        go_wp2_with fail
        refine (rback G _ st _ M.two).mono ?_
        rintro e wr ⟨G2, rfl, hK⟩
        replace M := M.o2 hO.base hK
        clear hK
        have hle : (pBack st).2.2 ≤ k + 1 := Nat.le_succ_of_le hle0
        obtain ⟨st2, hst⟩ : ∃ s : PSt, pBack st = s := ⟨_, rfl⟩
        rw [hst] at M hle
        clear hst hle0 hst3
        obtain ⟨o, u, n⟩ := st2
        go_wp2_with fail
        have bX : ∃ (f : Bool) (l : Int), CBox 27 wr bx #[.bool (!o), .bool f, .int .i64 l, .int .i64 (n : Int)] := by
          obtain ⟨b, e, ⟨f, l, h, _⟩, _⟩ := M.two
          obtain rfl : bx = b := by simpa using e
          exact ⟨f, l, h⟩
        obtain ⟨f, l, bX⟩ := bX
        refine wp_region_held_drew (S := fun w' => Below wr.heap.size wr w') (by kernel_rfl) (Below.refl _ _).drew (fun hHeld => ?_)
        refine takeM 0 54 3 rfl rfl rfl (by kernel_rfl) (by kernel_rfl) (by kernel_rfl) (fun _ _ _ h => h) (by rfl) hHeld rfl ?_
        simp only [List.set_cons_succ, List.set_cons_zero]
        refine takeM 2 56 4 rfl rfl rfl (by kernel_rfl) (by kernel_rfl) (by kernel_rfl) (fun _ _ _ h => h) (by rfl) hHeld rfl ?_
        simp only [List.set_cons_succ, List.set_cons_zero]
        refine takeL 3 57 (v := ?_) rfl rfl (by kernel_rfl) (by kernel_rfl) (by kernel_rfl) (fun _ _ _ h => h) (by rfl) hHeld (fun w hSw => ?_) ?_
        rotate_left 1
        · (try dsimp only at hSw)
          clear hSw
          go_simp
          try with_reducible rfl
        simp only [List.set_cons_succ, List.set_cons_zero]
        refine takeL 4 58 (v := ?_) rfl rfl (by kernel_rfl) (by kernel_rfl) (by kernel_rfl) (fun _ _ _ h => h) (by rfl) hHeld (fun w hSw => ?_) ?_
        rotate_left 1
        · (try dsimp only at hSw)
          clear hSw
          go_simp
          try with_reducible rfl
        simp only [List.set_cons_succ, List.set_cons_zero]
        refine takeL 5 59 (v := ?_) rfl rfl (by kernel_rfl) (by kernel_rfl) (by kernel_rfl) (fun _ _ _ h => h) (by rfl) hHeld (fun w hSw => ?_) ?_
        rotate_left 1
        · (try dsimp only at hSw)
          have e0_ := (bX.grown hSw).cell 0
          clear hSw
          go_simp
          try with_reducible rfl
        simp only [List.set_cons_succ, List.set_cons_zero]
        refine onlyL 1 rfl (by kernel_rfl) (by rfl) (fun K hK => ?_)
        go_wp2_with fail
        refine (hO.on _ _ (o, u, n) _ (M.quiet hO.base rpbase (Below.refl _ _).drew).one).mono ?_
        rintro e wq ⟨rfl, hb⟩
        replace hb := hHeld.trans (hb.mono hHeld.size)
        replace M := M.quiet hO.base rpbase hb
        clear hHeld
        refine hK.out _ _ hb (fun hHeld => ?_)
        clear hK K
        refine takeL 6 60 (v := .bool false) rfl rfl (by kernel_rfl) (by kernel_rfl) (by kernel_rfl) (fun _ _ _ h => h) (by rfl) hHeld (fun w hSw => ?_) ?_
        · clear hSw
          cases o <;> go_simp
        simp only [List.set_cons_succ, List.set_cons_zero]
        refine takeM 7 61 60 rfl rfl rfl (by kernel_rfl) (by kernel_rfl) (by kernel_rfl) (fun _ _ _ h => h) (by rfl) hHeld rfl ?_
        simp only [List.set_cons_succ, List.set_cons_zero]
        refine takeM 8 62 3 rfl rfl rfl (by kernel_rfl) (by kernel_rfl) (by kernel_rfl) (fun _ _ _ h => h) (by rfl) hHeld rfl ?_
        simp only [List.set_cons_succ, List.set_cons_zero]
        refine takeM 10 64 4 rfl rfl rfl (by kernel_rfl) (by kernel_rfl) (by kernel_rfl) (fun _ _ _ h => h) (by rfl) hHeld rfl ?_
        simp only [List.set_cons_succ, List.set_cons_zero]
        refine takeL 11 65 (v := ?_) rfl rfl (by kernel_rfl) (by kernel_rfl) (by kernel_rfl) (fun _ _ _ h => h) (by rfl) hHeld (fun w hSw => ?_) ?_
        rotate_left 1
        · (try dsimp only at hSw)
          clear hSw
          go_simp
          try with_reducible rfl
        simp only [List.set_cons_succ, List.set_cons_zero]
        refine takeL 12 66 (v := ?_) rfl rfl (by kernel_rfl) (by kernel_rfl) (by kernel_rfl) (fun _ _ _ h => h) (by rfl) hHeld (fun w hSw => ?_) ?_
        rotate_left 1
        · (try dsimp only at hSw)
          clear hSw
          go_simp
          try with_reducible rfl
        simp only [List.set_cons_succ, List.set_cons_zero]
        refine takeL 13 67 (v := ?_) rfl rfl (by kernel_rfl) (by kernel_rfl) (by kernel_rfl) (fun _ _ _ h => h) (by rfl) hHeld (fun w hSw => ?_) ?_
        rotate_left 1
        · (try dsimp only at hSw)
          have e0_ := (bX.grown hSw).cell 3
          clear hSw
          go_simp
          try with_reducible rfl
        simp only [List.set_cons_succ, List.set_cons_zero]
        refine onlyL 9 rfl (by kernel_rfl) (by rfl) (fun K hK => ?_)
        go_wp2_with fail
        refine (hO.steps _ _ (o, u, n) _ M.one).mono ?_
        rintro e wp ⟨rfl, hb2⟩
        have hb3 := hb.trans (hb2.mono hb.size)
        replace M := M.quiet hO.base rpbase hb2
        clear hHeld
        refine hK.out _ _ hb3 (fun hHeld => ?_)
        clear hK K
        refine takeL 14 68 (v := .bool false) rfl rfl (by kernel_rfl) (by kernel_rfl) (by kernel_rfl) (fun _ _ _ h => h) (by rfl) hHeld (fun w hSw => ?_) ?_
        · clear hSw
          go_simp
        simp only [List.set_cons_succ, List.set_cons_zero]
        refine takeL 15 69 (v := .bool false) rfl rfl (by kernel_rfl) (by kernel_rfl) (by kernel_rfl) (fun _ _ _ h => h) (by rfl) hHeld (fun w hSw => ?_) ?_
        · clear hSw
          go_simp
        simp only [List.set_cons_succ, List.set_cons_zero]
        refine wpAnyH_done (by kernel_rfl) ?_ _
        go_wp2
        go_roundw
        case rel => exact ⟨k + 1, _, _, (o, u, n), by omega, hle, by go_num, M⟩
        case measure => simp [intOf]; omega
    · have hlt' : ¬ (k : Int) < m := by omega
      go_wp2_with fail
      refine (pknown hO _).mono ?_
      rintro e w5 ⟨rfl, hb⟩
      replace M := M.quiet hO.base rpbase hb
      go_wp2
      go_ret
      exact ⟨rfl, M.hB⟩
end Go.Proofs.Ytimbefidgjmlcaa
