/- By an ideal lock two rows of leaves have one top just if they are one. -/
import Derived.Test.YtkbhkgfchiacbaaM12
import Derived.Test.YtkbhkgfchiacbaaM13
namespace Go.Proofs.Ytkbhkgfchiacbaa
open Go.RowKit
set_option maxRecDepth 20000
variable {Inv : (Nat → Prop) → World → Value → LSt → Prop}

theorem tops_iff (P Q : List (List Int)) (n : Nat) (hp : P.length = n) (hq : Q.length = n) (hn : 1 ≤ n) (hn2 : n ≤ 1000) : (tbuild ⟨true, [], []⟩ P).2.getD 1 pr0 = (tbuild (tbuild ⟨true, [], []⟩ P).1 Q).2.getD 1 pr0 ↔ ∀ j, j < n → P.getD j [] = Q.getD j [] := by
  have idl : ∀ (st : LSt) (P : List (List Int)), (tbuild st P).1.ideal = st.ideal := fun st P => by
    have hl : ∀ (n k : Nat) (t : TS), (lows P n k t).1.ideal = t.1.ideal := fun n k t => by
      induction k with
      | zero => rfl
      | succ k ih => show ((lows P n k t).1.sumS _).ideal = _; rw [sumS_ideal]; exact ih
    have hh : ∀ (n k : Nat) (t : TS), (highs n k t).1.ideal = t.1.ideal := fun n k t => by
      induction k with
      | zero => rfl
      | succ k ih => show ((highs n k t).1.sumS _).ideal = _; rw [sumS_ideal]; exact ih
    unfold tbuild
    rw [hh, hl]
  have h1 := (tbuild_ok ⟨true, [], []⟩ P (by omega)).build Q
  have h2 := tbuild_ok (tbuild ⟨true, [], []⟩ P).1 Q (by omega)
  rw [hp] at h1
  rw [hq] at h2
  have hi : (tbuild (tbuild ⟨true, [], []⟩ P).1 Q).1.ideal = true := by rw [idl, idl]
  have hs : (tbuild (tbuild ⟨true, [], []⟩ P).1 Q).1.sums.length ≤ 100000 := by
    refine Nat.le_trans (tbuild_sums _ _) ?_
    have := tbuild_sums ⟨true, [], []⟩ P
    rw [hp] at this
    rw [hq]
    simp at this
    omega
  constructor
  · exact fun h j hj => h1.leaves hn hi hs h2 h j hj
  · exact fun h => h1.same h2 h (2 * n - 1) 1 (by omega) (Nat.le_refl _)
set_option maxHeartbeats 4000000 in
theorem trtops (hL : LockIs Inv) (hO : TreeAll Inv) (x y : Option Addr) (n c m d : Nat) (P Q : List (List Int)) (hmx : n ≤ maxLen) (hmy : m ≤ maxLen) (fx : Fit x n c) (fy : Fit y m d) (w : World) (sx : LIn (fun k => k < w.heap.size) w x n P) (sy : LIn (fun k => k < w.heap.size) w y m Q) :
    Calls Try.prog 6 #[.slice x n c, .slice y m d] w fun e w' => e = .returned (.bool true) ∧ Below w.heap.size w w' := by
  go_enter Try.func6, Try.ntmps6
  go_wp2_with fail
  refine (trlong _ x n c P hmx _ sx).mono ?_
  rintro e w1 ⟨rfl | ⟨rfl, hsp⟩, hb1⟩
  · go_wp2
    go_ret
    exact ⟨rfl, hb1⟩
  have T1 := hb1
  have sx1 := sx.off (Off.of_below (F := fun _ => False) hb1) (fun _ _ _ h => h)
  have sy1 := sy.off (Off.of_below (F := fun _ => False) hb1) (fun _ _ _ h => h)
  have hlp := sx.1
  have hlq := sy.1
  have hz1 := hb1.size
  clear sx sy hb1
  go_wp2_with fail
  refine (trlong _ y m d Q hmy _ sy1).mono ?_
  rintro e w2 ⟨rfl | ⟨rfl, hsq⟩, hb2⟩
  · go_wp2
    go_ret
    exact ⟨rfl, T1.trans (hb2.mono T1.size)⟩
  have T2 := T1.trans (hb2.mono T1.size)
  have sx2 := sx1.off (Off.of_below (F := fun _ => False) hb2) (fun _ _ _ h => h)
  have sy2 := sy1.off (Off.of_below (F := fun _ => False) hb2) (fun _ _ _ h => h)
  have hz2 := hb2.size
  clear sx1 sy1 hb2
  by_cases hnm : n ≠ m
  · have hnm' : ¬ (n : Int) = m := by omega
    go_wp2
    go_ret
    exact ⟨rfl, T2⟩
  obtain rfl := Decidable.not_not.1 hnm
  clear hnm
  go_wp2_with fail
  refine (rgIs (n : Int) w2).mono ?_
  rintro e w3 ⟨rfl, hb3⟩
  have T3 := T2.trans (hb3.mono T2.size)
  by_cases hg' : ¬ gmOk (n : Int)
  · rw [show gmIs (n : Int) = false from decide_eq_false hg']
    go_wp2
    go_ret
    exact ⟨rfl, T3⟩
  have hg := Decidable.not_not.1 hg'
  rw [show gmIs (n : Int) = true from decide_eq_true hg]
  have sx3 := sx2.off (Off.of_below (F := fun _ => False) hb3) (fun _ _ _ h => h)
  have sy3 := sy2.off (Off.of_below (F := fun _ => False) hb3) (fun _ _ _ h => h)
  have hz3 := hb3.size
  clear sx2 sy2 hb3 hg'
  have hn4 : 4 ≤ n := by
    unfold gmOk at hg
    omega
  have hn20 := hsp.1
  have hn21 : n ≤ 20 := hn20
  go_wp2_with fail
  refine (hL.ideal w3).mono ?_
  rintro e w4 ⟨v, F, rfl, hI, hF, hb4⟩
  have T4 := T3.trans (hb4.mono T3.size)
  have sx4 := sx3.off (Off.of_below (F := fun _ => False) hb4) (fun _ _ _ h => h)
  have sy4 := sy3.off (Off.of_below (F := fun _ => False) hb4) (fun _ _ _ h => h)
  have hz4 := hb4.size
  clear sx3 sy3 hb4
  obtain ⟨A, HA⟩ : ∃ A, Hid (tbuild ⟨true, [], []⟩ P = A) := ⟨_, rfl⟩
  obtain ⟨Z, HZ⟩ : ∃ Z, Hid (tbuild A.1 Q = Z) := ⟨_, rfl⟩
  have hA1 : A.1.sums.length ≤ 40 := by
    rw [← HA.out]
    refine Nat.le_trans (tbuild_sums _ _) ?_
    rw [hlp]
    simp
    omega
  have HTOP : Hid (A.2.getD 1 pr0 = Z.2.getD 1 pr0 ↔ ∀ j, j < n → P.getD j [] = Q.getD j []) := hide' (by
    rw [← HZ.out, ← HA.out]
    exact tops_iff P Q n hlp hlq (by omega) (by omega))
  have hA2 : A.2.length = 2 * n := by rw [← HA.out, tbuild_len, hlp]
  have hZ2 : Z.2.length = 2 * n := by rw [← HZ.out, tbuild_len, hlq]
  have hbd := hO.build F v ⟨true, [], []⟩ P x n c hg (fun y hy => by have := hsp.2 y hy; omega) (Nat.zero_le _) fx w4 hI (sx4.mono (fun j _ hk hf => by have := hF j hf; omega))
  rw [HA.out] at hbd
  obtain ⟨s, Hs⟩ : ∃ s, Hid (A.2.getD 1 pr0 = s) := ⟨_, rfl⟩
  obtain ⟨t, Ht⟩ : ∃ t, Hid (Z.2.getD 1 pr0 = t) := ⟨_, rfl⟩
  have HS := hide' (And.intro hz1 (And.intro hz2 (And.intro hz3 hz4)))
  have HX := hide' (And.intro hsp (And.intro hsq (And.intro hg hA1)))
  have ht : trOk (2 * n) := by
    have := hg
    unfold trOk gmOk at *
    omega
  have HT := hide' ht
  have HP := hide' (And.intro hlp hlq)
  clear hz1 hz2 hz3 hz4 hsp hsq hg hA1 ht hlp hlq hn20 hn4
  go_wp2_with fail
  refine hbd.mono ?_
  clear hbd
  rintro e w5 ⟨za, ca, F5, rfl, hK5, hz5, hfa⟩
  have T5 := T4.trans (hK5.off.below (fun j hj => Nat.le_trans T3.size (hF j hj)) T4.size)
  have sx5 := sx4.off hK5.off (fun j _ hk hf => by have := hF j hf; have := HS.out; omega)
  have sy5 := sy4.off hK5.off (fun j _ hk hf => by have := hF j hf; have := HS.out; omega)
  have hF5 : ∀ j, F5 j → w3.heap.size ≤ j := fun j hj => (hK5.sub j hj).elim (hF j) (fun h => Nat.le_trans HS.out.2.2.2 h)
  have hs5 := hide' hK5.off.size
  have hbd := hO.build F5 v A.1 Q y n d HX.out.2.2.1 (fun y hy => by have := HX.out.2.1.2 y hy; omega) (by have := HX.out; omega) fy w5 hK5.inv (sy5.mono (fun j _ hk hf => by have := hF5 j hf; have := HS.out; omega))
  rw [HZ.out] at hbd
  clear hK5 sx4 sy4 hI hF
  obtain ⟨N, HN⟩ : ∃ N, Hid (2 * n = N) := ⟨_, rfl⟩
  rw [HN.out] at hbd hz5 hfa hA2 hZ2 HT
  rw [HN.out]
  go_wp2_with fail
  refine hbd.mono ?_
  clear hbd
  rintro e w6 ⟨zb, cb, F6, rfl, hK6, hz6, hfb⟩
  have T6 := T5.trans (hK6.off.below (fun j hj => Nat.le_trans T3.size (hF5 j hj)) T5.size)
  have sx6 := sx5.off hK6.off (fun j _ hk hf => by have := hF5 j hf; have := HS.out; omega)
  have sy6 := sy5.off hK6.off (fun j _ hk hf => by have := hF5 j hf; have := HS.out; omega)
  have hza := (hz5.off hK6.off (fun j _ hj hf => hj.1 hf)).prow
  have hzb := hz6.prow
  clear hK6 hz5 hz6 sx5 sy5 hF5
  have ht1 := hO.top A.2 za N ca HT.out hfa w6 hA2 hza
  have ht2 : ∀ w', Below w6.heap.size w6 w' → _ := fun w' hb => hO.top Z.2 zb N cb HT.out hfb w' hZ2 (hzb.grown hb)
  rw [Hs.out] at ht1
  simp only [Ht.out] at ht2
  clear hza hzb hA2 hZ2 hfa hfb
  go_wp2_with fail
  refine ht1.mono ?_
  clear ht1
  rintro e w7 ⟨rfl, hb7⟩
  go_wp2_with fail
  have hB8 : Below w6.heap.size w6 (w7.alloc (.cells #[.int .u64 (nv s.1), .int .u64 (nv s.2)] 34)) := hb7.alloc hb7.size _
  have hbx := Box.new w7 (nv s.1) (nv s.2)
  generalize w7.alloc (.cells #[.int .u64 (nv s.1), .int .u64 (nv s.2)] 34) = w8 at *
  generalize w7.heap.size = ta at *
  refine (ht2 w8 hB8).mono ?_
  clear ht2
  rintro e w9 ⟨rfl, hb9⟩
  go_wp2_with fail
  have hB9 := hb9.alloc hb9.size (.cells #[.int .u64 (nv t.1), .int .u64 (nv t.2)] 34)
  have hbx9 := hbx.grown hB9
  have hby := Box.new w9 (nv t.1) (nv t.2)
  have hB10 := hB8.trans (hB9.mono hB8.size)
  have T10 := T6.trans (hB10.mono T6.size)
  clear hb7 hB8 hbx hb9 hB9
  generalize w9.alloc (.cells #[.int .u64 (nv t.1), .int .u64 (nv t.2)] 34) = w10 at *
  generalize w9.heap.size = tb at *
  have sx10 := sx6.off (Off.of_below (F := fun _ => False) hB10) (fun _ _ _ h => h)
  have sy10 := sy6.off (Off.of_below (F := fun _ => False) hB10) (fun _ _ _ h => h)
  clear sx6 sy6 hB10
  go_loopw [14, 15] (fun sm i wr => ∃ (k : Nat) (b : Bool), k ≤ n ∧ sm = .bool b ∧ i = .int .i64 (k : Int) ∧ Hid (b = true ↔ ∀ j, j < k → P.getD j [] = Q.getD j []) ∧ Below w10.heap.size w10 wr) (fun _ i _ => n - (intOf i).toNat)
  case atStart => exact ⟨0, true, Nat.zero_le _, rfl, rfl, hide' ⟨fun _ j hj => absurd hj (by omega), fun _ => rfl⟩, Below.refl _ _⟩
  case round =>
    obtain ⟨k, b, hk, rfl, rfl, HB, hb⟩ := hrel
    by_cases hlt : k < n
    · have hlt' : (k : Int) < n := by omega
      have hw : IntKind.i64.wrap ((k : Int) + 1) = (k : Int) + 1 := by
        rw [IntKind.wrap_i64]
        omega
      obtain ⟨bx, ox, rfl, hbx, -, hr⟩ := (sx10.off (Off.of_below (F := fun _ => False) hb) (fun _ _ _ h => h)).2 (by omega)
      obtain ⟨bz, oz, rfl, hbz, -, hq⟩ := (sy10.off (Off.of_below (F := fun _ => False) hb) (fun _ _ _ h => h)).2 (by omega)
      obtain ⟨ya, cya, ca, sa, -, -, -, ba⟩ := hr k hlt
      obtain ⟨yb, cyb, cb, sb, -, -, -, bb⟩ := hq k hlt
      replace sa := sa.sat
      replace sb := sb.sat
      have hse := str_eq _ _ ba bb
      obtain ⟨u, hu⟩ : ∃ u, Hid (P.getD k [] = u) := ⟨_, rfl⟩
      obtain ⟨u', hu'⟩ : ∃ u', Hid (Q.getD k [] = u') := ⟨_, rfl⟩
      rw [hu.out] at ca sa hse
      rw [hu'.out] at cb sb hse
      obtain ⟨B, HBB⟩ : ∃ B : Bool, Hid (decide (u = u') = B) := ⟨_, rfl⟩
      rw [HBB.out] at hse
      obtain ⟨lu, hlu⟩ : ∃ l, Hid (u.length = l) := ⟨_, rfl⟩
      obtain ⟨lu', hlu'⟩ : ∃ l, Hid (u'.length = l) := ⟨_, rfl⟩
      rw [hlu.out] at ca sa
      rw [hlu'.out] at cb sb
      clear hr hq ba bb
      cases b
      · go_wp2_with fail
        refine wp_region_held_drew (S := fun w' => Below wr.heap.size wr w') (by kernel_rfl) (Below.refl _ _).drew (fun hHeld => ?_)
        refine takeM 0 64 14 rfl rfl rfl (by kernel_rfl) (by kernel_rfl) (by kernel_rfl) (fun _ _ _ h => h) (by rfl) hHeld rfl ?_
        simp only [List.set_cons_succ, List.set_cons_zero]
        refine takeM 1 65 64 rfl rfl rfl (by kernel_rfl) (by kernel_rfl) (by kernel_rfl) (fun _ _ _ h => h) (by rfl) hHeld rfl ?_
        simp only [List.set_cons_succ, List.set_cons_zero]
        refine takeN 2 66 rfl rfl (by kernel_rfl) (by kernel_rfl) (by kernel_rfl) (fun _ _ _ h => h) (by rfl) hHeld ?_
        simp only [List.set_cons_succ, List.set_cons_zero]
        refine takeN 3 67 rfl rfl (by kernel_rfl) (by kernel_rfl) (by kernel_rfl) (fun _ _ _ h => h) (by rfl) hHeld ?_
        simp only [List.set_cons_succ, List.set_cons_zero]
        refine takeN 4 68 rfl rfl (by kernel_rfl) (by kernel_rfl) (by kernel_rfl) (fun _ _ _ h => h) (by rfl) hHeld ?_
        simp only [List.set_cons_succ, List.set_cons_zero]
        refine takeN 5 69 rfl rfl (by kernel_rfl) (by kernel_rfl) (by kernel_rfl) (fun _ _ _ h => h) (by rfl) hHeld ?_
        simp only [List.set_cons_succ, List.set_cons_zero]
        refine takeN 6 70 rfl rfl (by kernel_rfl) (by kernel_rfl) (by kernel_rfl) (fun _ _ _ h => h) (by rfl) hHeld ?_
        simp only [List.set_cons_succ, List.set_cons_zero]
        refine takeN 7 71 rfl rfl (by kernel_rfl) (by kernel_rfl) (by kernel_rfl) (fun _ _ _ h => h) (by rfl) hHeld ?_
        simp only [List.set_cons_succ, List.set_cons_zero]
        refine takeN 8 72 rfl rfl (by kernel_rfl) (by kernel_rfl) (by kernel_rfl) (fun _ _ _ h => h) (by rfl) hHeld ?_
        simp only [List.set_cons_succ, List.set_cons_zero]
        refine takeN 9 73 rfl rfl (by kernel_rfl) (by kernel_rfl) (by kernel_rfl) (fun _ _ _ h => h) (by rfl) hHeld ?_
        simp only [List.set_cons_succ, List.set_cons_zero]
        refine takeN 10 74 rfl rfl (by kernel_rfl) (by kernel_rfl) (by kernel_rfl) (fun _ _ _ h => h) (by rfl) hHeld ?_
        simp only [List.set_cons_succ, List.set_cons_zero]
        refine takeN 11 75 rfl rfl (by kernel_rfl) (by kernel_rfl) (by kernel_rfl) (fun _ _ _ h => h) (by rfl) hHeld ?_
        simp only [List.set_cons_succ, List.set_cons_zero]
        refine takeN 12 76 rfl rfl (by kernel_rfl) (by kernel_rfl) (by kernel_rfl) (fun _ _ _ h => h) (by rfl) hHeld ?_
        simp only [List.set_cons_succ, List.set_cons_zero]
        refine takeL 13 77 (v := ?_) rfl rfl (by kernel_rfl) (by kernel_rfl) (by kernel_rfl) (fun _ _ _ h => h) (by rfl) hHeld (fun w hSw => ?_) ?_
        rotate_left 1
        · (try dsimp only at hSw)
          clear hSw
          go_simp
          try with_reducible rfl
        simp only [List.set_cons_succ, List.set_cons_zero]
        refine takeA 14 14 77 rfl rfl rfl (by kernel_rfl) (by kernel_rfl) (by kernel_rfl) (fun _ _ _ h => h) (by rfl) hHeld rfl ?_
        simp only [List.set_cons_succ, List.set_cons_zero]
        have hBR := (Below.refl wr.heap.size wr).drew
        clear hHeld
        refine wpAnyH_done (by kernel_rfl) ?_ _
        go_wp2
        go_roundw
        case rel => exact ⟨k + 1, false, by omega, rfl, by go_num, hide' ⟨fun h => by (cases h), fun h => HB.out.2 (fun j hj => h j (by omega))⟩, hb.trans (hBR.mono hb.size)⟩
        case measure => simp [intOf]; omega
      · go_wp2_with fail
        refine wp_region_held_drew (S := fun w' => Below wr.heap.size wr w') (by kernel_rfl) (Below.refl _ _).drew (fun hHeld => ?_)
        refine takeM 0 64 14 rfl rfl rfl (by kernel_rfl) (by kernel_rfl) (by kernel_rfl) (fun _ _ _ h => h) (by rfl) hHeld rfl ?_
        simp only [List.set_cons_succ, List.set_cons_zero]
        refine takeM 1 65 64 rfl rfl rfl (by kernel_rfl) (by kernel_rfl) (by kernel_rfl) (fun _ _ _ h => h) (by rfl) hHeld rfl ?_
        simp only [List.set_cons_succ, List.set_cons_zero]
        refine takeM 2 66 0 rfl rfl rfl (by kernel_rfl) (by kernel_rfl) (by kernel_rfl) (fun _ _ _ h => h) (by rfl) hHeld rfl ?_
        simp only [List.set_cons_succ, List.set_cons_zero]
        refine takeM 3 67 15 rfl rfl rfl (by kernel_rfl) (by kernel_rfl) (by kernel_rfl) (fun _ _ _ h => h) (by rfl) hHeld rfl ?_
        simp only [List.set_cons_succ, List.set_cons_zero]
        refine takeL 4 68 (v := ?_) rfl rfl (by kernel_rfl) (by kernel_rfl) (by kernel_rfl) (fun _ _ _ h => h) (by rfl) hHeld (fun w hSw => ?_) ?_
        rotate_left 1
        · (try dsimp only at hSw)
          clear hSw
          go_simp
          try with_reducible rfl
        simp only [List.set_cons_succ, List.set_cons_zero]
        refine takeL 5 69 (v := ?_) rfl rfl (by kernel_rfl) (by kernel_rfl) (by kernel_rfl) (fun _ _ _ h => h) (by rfl) hHeld (fun w hSw => ?_) ?_
        rotate_left 1
        · (try dsimp only at hSw)
          have e0_ : w.cell? ⟨bx, ox + k, none⟩ = _ := ((Off.of_below (F := fun _ => False) hSw).cell (p := ⟨bx, ox + k, none⟩) hbx (fun h => h)).trans ca
          clear hSw
          go_simp
          try with_reducible rfl
        simp only [List.set_cons_succ, List.set_cons_zero]
        refine takeL 6 70 (v := ?_) rfl rfl (by kernel_rfl) (by kernel_rfl) (by kernel_rfl) (fun _ _ _ h => h) (by rfl) hHeld (fun w hSw => ?_) ?_
        rotate_left 1
        · (try dsimp only at hSw)
          have e1_ := (sa.below hSw).conv (c := cya)
          clear hSw
          go_simp
          try with_reducible rfl
        simp only [List.set_cons_succ, List.set_cons_zero]
        refine takeM 7 71 1 rfl rfl rfl (by kernel_rfl) (by kernel_rfl) (by kernel_rfl) (fun _ _ _ h => h) (by rfl) hHeld rfl ?_
        simp only [List.set_cons_succ, List.set_cons_zero]
        refine takeM 8 72 15 rfl rfl rfl (by kernel_rfl) (by kernel_rfl) (by kernel_rfl) (fun _ _ _ h => h) (by rfl) hHeld rfl ?_
        simp only [List.set_cons_succ, List.set_cons_zero]
        refine takeL 9 73 (v := ?_) rfl rfl (by kernel_rfl) (by kernel_rfl) (by kernel_rfl) (fun _ _ _ h => h) (by rfl) hHeld (fun w hSw => ?_) ?_
        rotate_left 1
        · (try dsimp only at hSw)
          clear hSw
          go_simp
          try with_reducible rfl
        simp only [List.set_cons_succ, List.set_cons_zero]
        refine takeL 10 74 (v := ?_) rfl rfl (by kernel_rfl) (by kernel_rfl) (by kernel_rfl) (fun _ _ _ h => h) (by rfl) hHeld (fun w hSw => ?_) ?_
        rotate_left 1
        · (try dsimp only at hSw)
          have e0_ : w.cell? ⟨bz, oz + k, none⟩ = _ := ((Off.of_below (F := fun _ => False) hSw).cell (p := ⟨bz, oz + k, none⟩) hbz (fun h => h)).trans cb
          clear hSw
          go_simp
          try with_reducible rfl
        simp only [List.set_cons_succ, List.set_cons_zero]
        refine takeL 11 75 (v := ?_) rfl rfl (by kernel_rfl) (by kernel_rfl) (by kernel_rfl) (fun _ _ _ h => h) (by rfl) hHeld (fun w hSw => ?_) ?_
        rotate_left 1
        · (try dsimp only at hSw)
          have e1_ := (sb.below hSw).conv (c := cyb)
          clear hSw
          go_simp
          try with_reducible rfl
        simp only [List.set_cons_succ, List.set_cons_zero]
        refine takeL 12 76 (v := ?_) rfl rfl (by kernel_rfl) (by kernel_rfl) (by kernel_rfl) (fun _ _ _ h => h) (by rfl) hHeld (fun w hSw => ?_) ?_
        rotate_left 1
        · (try dsimp only at hSw)
          clear hSw
          go_simp
          try with_reducible rfl
        simp only [List.set_cons_succ, List.set_cons_zero]
        refine takeL 13 77 (v := ?_) rfl rfl (by kernel_rfl) (by kernel_rfl) (by kernel_rfl) (fun _ _ _ h => h) (by rfl) hHeld (fun w hSw => ?_) ?_
        rotate_left 1
        · (try dsimp only at hSw)
          clear hSw
          go_simp
          try with_reducible rfl
        simp only [List.set_cons_succ, List.set_cons_zero]
        refine takeA 14 14 77 rfl rfl rfl (by kernel_rfl) (by kernel_rfl) (by kernel_rfl) (fun _ _ _ h => h) (by rfl) hHeld rfl ?_
        simp only [List.set_cons_succ, List.set_cons_zero]
        have hBR := (Below.refl wr.heap.size wr).drew
        clear hHeld
        refine wpAnyH_done (by kernel_rfl) ?_ _
        go_wp2
        go_roundw
        case rel => exact ⟨k + 1, B, by omega, rfl, by go_num, hide' ⟨fun h j hj => by
            by_cases e : j = k
            · subst e
              rw [hu.out, hu'.out]
              exact of_decide_eq_true (HBB.out.trans h)
            · exact HB.out.1 (by trivial) j (by omega), fun h => by
            have := h k (by omega)
            rw [hu.out, hu'.out] at this
            exact HBB.out.symm.trans (decide_eq_true this)⟩, hb.trans (hBR.mono hb.size)⟩
        case measure => simp [intOf]; omega
    · have hlt' : ¬ (k : Int) < n := by omega
      obtain rfl : k = n := by omega
      have hE : (nv s.1 == nv t.1 && nv s.2 == nv t.2) = b := by
        rw [pair_eq_of, Bool.eq_iff_iff, decide_eq_true_iff, ← Hs.out, ← Ht.out]
        exact HTOP.out.trans HB.out.symm
      have e0_ : ∀ w, (Op.equalIn 10000 34 (.agg #[.int .u64 (nv s.1), .int .u64 (nv s.2)]) (.agg #[.int .u64 (nv t.1), .int .u64 (nv t.2)])).run Try.prog w = .ok b w := fun w => by rw [eq32, hE]
      have e1_ := (hbx9.grown hb).c0
      have e2_ := (hbx9.grown hb).c1
      have e3_ := (hby.grown hb).c0
      have e4_ := (hby.grown hb).c1
      clear hE hbx9 hby sx10 sy10
      cases b
      · go_wp2_with fail
        refine (trknown hL hO _).mono ?_
        rintro e wz ⟨rfl, hbz⟩
        have T11 := T10.trans (hb.mono T10.size)
        go_wp2
        go_ret
        exact ⟨rfl, T11.trans (hbz.mono T11.size)⟩
      · go_wp2_with fail
        refine (trknown hL hO _).mono ?_
        rintro e wz ⟨rfl, hbz⟩
        have T11 := T10.trans (hb.mono T10.size)
        go_wp2
        go_ret
        exact ⟨rfl, T11.trans (hbz.mono T11.size)⟩
end Go.Proofs.Ytkbhkgfchiacbaa
