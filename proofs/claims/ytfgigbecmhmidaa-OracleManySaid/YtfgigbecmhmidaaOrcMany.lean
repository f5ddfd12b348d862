/- OracleMany's walk. -/
import Derived.Test.YtfgigbecmhmidaaOrcManyA
namespace Go.Proofs.Ytfgigbecmhmidaa
open Go.RowKit

variable {Inv : (Nat → Prop) → World → Value → OSt → Prop}
theorem seal_news (w : World) (a b c : Value) (j : Nat) (u : Value) (h : [a, b, c][j]? = some u) : (w.alloc (.cells #[a, b, c] 41)).cell? ((⟨w.heap.size, 0, none⟩ : Addr).add j) = some u := by
  rw [add_plain', Nat.zero_add, World.cell?_alloc_new]
  simpa using h
theorem sout_at {P : List (List Int)} {p n : Nat} {ys : List Int} (HY : Hid (P.getD p [] = ys)) (HN : Hid (ys.length = n)) {w : World} {z : Option Addr} (h : SAt w z (P.getD p []).length (outB (p + 1) (P.getD p []).length)) : SAt w z n (outB (p + 1) n) := by
  rw [HY.out, HN.out] at h
  exact h
theorem sout_q {P : List (List Int)} {p n : Nat} (HN : Hid ((P.getD p []).length = n)) {w : World} {z : Option Addr} (h : SAt w z (P.getD p []).length (outB (p + 1) (P.getD p []).length)) : SAt w z n (outB (p + 1) n) := by
  rw [HN.out] at h
  exact h
theorem osame_yes (p : Nat) (hp : p < 1000) (z : Option Addr) (n c d : Nat) (w : World) (sz : SAt w z n (outB (p + 1) n)) : Calls Try.prog 13 #[.agg #[.slice z n c, .int .u64 18446744073709551615, .int .u64 ((p : Int) + 1)], .agg #[.slice z n d, .int .u64 18446744073709551615, .int .u64 ((p : Int) + 1)]] w fun e w' => e = .returned (.bool true) ∧ Below w.heap.size w w' := by
  have h := rsame_any (tagI (p + 1)) (tagI (p + 1)) _ _ z z n n c d (outB_bytes _ _) (outB_bytes _ _) w sz sz
  rw [tagI_1, tagI_2 (p + 1) (by omega)] at h
  simpa using h
theorem osame_no (p q : Nat) (hp : p < 1000) (hq : q < 1000) (hne : p ≠ q) (z y : Option Addr) (m n c d : Nat) (w : World) (sz : SAt w z m (outB (p + 1) m)) (sy : SAt w y n (outB (q + 1) n)) : Calls Try.prog 13 #[.agg #[.slice z m c, .int .u64 18446744073709551615, .int .u64 ((p : Int) + 1)], .agg #[.slice y n d, .int .u64 18446744073709551615, .int .u64 ((q : Int) + 1)]] w fun e w' => e = .returned (.bool false) ∧ Below w.heap.size w w' := by
  have h := rsame_any (tagI (p + 1)) (tagI (q + 1)) _ _ z y m n c d (outB_bytes _ _) (outB_bytes _ _) w sz sy
  have hd : decide (outB (p + 1) m = outB (q + 1) n ∧ tagI (p + 1) = tagI (q + 1)) = false := decide_eq_false (fun e => hne (by have := tag_inj (by omega) (by omega) e.2; omega))
  rw [hd, tagI_1, tagI_1, tagI_2 (p + 1) (by omega), tagI_2 (q + 1) (by omega)] at h
  simpa using h
set_option maxRecDepth 10000 in
set_option maxHeartbeats 8000000 in
theorem many_in (hO : OrcIs Inv) (key : BitVec 64 × BitVec 64) (P : List (List Int)) (x : Option Addr) (m cx : Nat) (hm : m ≤ 30) (hc : m ≤ cx) (w : World) (hl : LIn (· < w.heap.size) w x m P) :
    Calls Try.prog 8 #[.slice x m cx, .agg #[.int .u64 (nv key.1), .int .u64 (nv key.2)]] w fun e w' => e = .returned (.bool true) ∧ Below w.heap.size w w' := by
  have heq := eq32
  have hPl := hl.1
  go_enter Try.func8, Try.ntmps8
  go_wp2_with fail
  have b4 := Box.new w (nv key.1) (nv key.2)
  have hB : Below w.heap.size w (w.alloc (.cells #[.int .u64 (nv key.1), .int .u64 (nv key.2)] 33)) := by go_grown
  generalize w.alloc (.cells #[.int .u64 (nv key.1), .int .u64 (nv key.2)] 33) = W1 at *
  refine (hO.make _).mono ?_
  rintro e w1 ⟨o1, F1, rfl, hI, hF1, hb⟩
  obtain ⟨a1, rfl⟩ := hO.ptr hI
  have hW1 := b4.lt
  have M0 : MSt Inv w a1 key P 0 F1 (manyL key P 0, []) (.slice none 0 0) (fun _ => (none, 0)) w1 := ⟨hI, World.ownsRow_nil _ _ _ _, fun j hj => absurd hj (by omega), fun k hk => by simp [Value.ownBlock] at hk, fun k hk => Nat.lt_of_lt_of_le hW1 (hF1 k hk), b4.grown hb, hB.trans (hb.mono hB.size)⟩
  clear hb hW1 hF1 hI hB b4
  go_wp2_with fail
  go_loopw [6, 7] (fun v i wr => ∃ (k : Nat) (F : Nat → Prop) (Z : Nat → Option Addr × Nat) (v0 : Value), k ≤ m ∧ i = .int .i64 (k : Int) ∧ v0 = v ∧ MSt Inv w a1 key P k F (manyL key P k, []) v0 Z wr) (fun _ i _ => m - (intOf i).toNat)
  case atStart => exact ⟨0, F1, _, _, Nat.zero_le _, rfl, rfl, M0⟩
  case round =>
    clear M0 F1
    obtain ⟨i, F, Z, v, hi, rfl, rfl, M⟩ := hrel
    have hvlt : ∀ k, v.ownBlock = some k → k < wr.heap.size := fun k hk => by
      obtain ⟨cur, hh⟩ := own_type M.own hk
      obtain ⟨hl, _⟩ := Array.getElem?_eq_some_iff.1 hh
      exact hl
    by_cases hlt : i < m
    · obtain ⟨b, o, rfl, hbl, hbw, hrow⟩ := hl.2 (by omega)
      have hbr : b < wr.heap.size := Nat.lt_of_lt_of_le hbl M.hB.size
      have hnb : ¬ F b := fun h => by have := M.hF b h; omega
      have hnK : ¬ F w.heap.size := fun h => Nat.lt_irrefl _ (M.hF _ h)
      obtain ⟨y, cy, hcell0, sy0, hcy, hcmy, nily, by_⟩ := hrow i hlt
      obtain ⟨ys, HY⟩ : ∃ ys, Hid (P.getD i [] = ys) := ⟨_, rfl⟩
      rw [HY.out] at hcell0 sy0 hcy nily by_
      obtain ⟨n, HN⟩ : ∃ n, Hid (ys.length = n) := ⟨_, rfl⟩
      rw [HN.out] at hcell0 sy0 hcy nily
      have hcell := (M.hB.cell (p := ⟨b, o + i, none⟩) hbl).trans hcell0
      have sy : SIn (fun k => ¬ F k) wr y n ys := (sy0.off (Off.of_below (F := fun _ => False) M.hB) (fun _ _ _ h => h)).mono (fun k _ h hf => by have := M.hF k hf; omega)
      have fy : Fit y n cy := ⟨hcy, hcmy, nily⟩
      clear sy0 hcell0
      by_cases h100 : 100 < n
      · go_wp2
        go_ret
        exact ⟨rfl, M.hB⟩
      · go_wp2_with fail
        refine wp_region_held_drew (S := fun w' => Off F wr w') (by kernel_rfl) (Off.refl _ _).drew (fun hHeld => ?_)
        refine takeM 0 33 5 rfl rfl rfl (by kernel_rfl) (by kernel_rfl) (by kernel_rfl) (fun _ _ _ h => h) (by rfl) hHeld rfl ?_
        simp only [List.set_cons_succ, List.set_cons_zero]
        refine takeL 1 34 (v := ?_) rfl rfl (by kernel_rfl) (by kernel_rfl) (by kernel_rfl) (fun _ _ _ h => h) (by rfl) hHeld (fun w hSw => ?_) ?_
        rotate_left 1
        · (try dsimp only at hSw)
          have hx_ : Box w _ (nv key.1) (nv key.2) := off_block M.box hSw hnK
          have e0_ := hx_.c0
          have e1_ := hx_.c1
          clear hx_
          clear hSw
          go_simp
          try with_reducible rfl
        simp only [List.set_cons_succ, List.set_cons_zero]
        refine takeM 2 35 7 rfl rfl rfl (by kernel_rfl) (by kernel_rfl) (by kernel_rfl) (fun _ _ _ h => h) (by rfl) hHeld rfl ?_
        simp only [List.set_cons_succ, List.set_cons_zero]
        refine takeL 3 36 (v := ?_) rfl rfl (by kernel_rfl) (by kernel_rfl) (by kernel_rfl) (fun _ _ _ h => h) (by rfl) hHeld (fun w hSw => ?_) ?_
        rotate_left 1
        · (try dsimp only at hSw)
          clear hSw
          go_simp
          try with_reducible rfl
        simp only [List.set_cons_succ, List.set_cons_zero]
        refine takeL 4 37 (v := ?_) rfl rfl (by kernel_rfl) (by kernel_rfl) (by kernel_rfl) (fun _ _ _ h => h) (by rfl) hHeld (fun w hSw => ?_) ?_
        rotate_left 1
        · (try dsimp only at hSw)
          clear hSw
          go_simp
          try with_reducible rfl
        simp only [List.set_cons_succ, List.set_cons_zero]
        refine takeM 5 38 0 rfl rfl rfl (by kernel_rfl) (by kernel_rfl) (by kernel_rfl) (fun _ _ _ h => h) (by rfl) hHeld rfl ?_
        simp only [List.set_cons_succ, List.set_cons_zero]
        refine takeM 6 39 7 rfl rfl rfl (by kernel_rfl) (by kernel_rfl) (by kernel_rfl) (fun _ _ _ h => h) (by rfl) hHeld rfl ?_
        simp only [List.set_cons_succ, List.set_cons_zero]
        refine takeL 7 40 (v := ?_) rfl rfl (by kernel_rfl) (by kernel_rfl) (by kernel_rfl) (fun _ _ _ h => h) (by rfl) hHeld (fun w hSw => ?_) ?_
        rotate_left 1
        · (try dsimp only at hSw)
          clear hSw
          go_simp
          try with_reducible rfl
        simp only [List.set_cons_succ, List.set_cons_zero]
        refine takeL 8 41 (v := ?_) rfl rfl (by kernel_rfl) (by kernel_rfl) (by kernel_rfl) (fun _ _ _ h => h) (by rfl) hHeld (fun w hSw => ?_) ?_
        rotate_left 1
        · (try dsimp only at hSw)
          have e0_ := (hSw.cell (p := ⟨b, o + i, none⟩) hbr hnb).trans hcell
          clear hSw
          go_simp
          try with_reducible rfl
        simp only [List.set_cons_succ, List.set_cons_zero]
        have hof0 : Off F wr wr.drew := (Off.refl _ _).drew
        have hI : Inv F wr.drew (.pointer (some a1)) (manyL key P i, []) := hO.below M.inv (Below.refl _ _).drew
        replace sy := sy.off (Off.of_below (F := fun _ => False) (Below.refl wr.heap.size wr).drew) (fun _ _ _ h => h)
        clear hHeld
        have hwd : wr.heap.size ≤ wr.drew.heap.size := Nat.le_refl _
        generalize wr.drew = wd at *
        refine twoL 9 13 rfl rfl (by kernel_rfl) (by rfl) (by rfl) (fun K hK => ?_) (fun K hK => ?_)
        · go_wp2_with fail
          refine (oseal_at hO F _ (manyL key P i) [] key (0#32, 0#32, BitVec.ofNat 64 i) rfl rfl rfl rfl (nv_ofN i (by omega)) [] ys none y 0 n 0 cy (by decide) (by omega) (by rw [manyL_length]; omega) bytes_none by_ fit_none fy _ hI (SIn.none _ _ _) sy (i := (i : Int) + 1) (by rw [manyL_length])).mono ?_
          rintro e w5 ⟨z, cz, F2, rfl, hK2, sz, fz⟩
          rw [manyL_length] at sz
          have hI2 : Inv F2 w5 (.pointer (some a1)) (manyL key P (i + 1), []) := by rw [manyL_succ, issAt, HY.out]; exact hK2.inv
          have hsub : ∀ k, F2 k → F k ∨ wr.heap.size ≤ k := fun k hk => (hK2.sub k hk).imp_right (fun h => by omega)
          have hof : Off F wr w5 := hof0.trans hK2.off (fun _ h => Or.inl h)
          have hw5 := hof.size
          clear hK2
          refine hK.out _ _ hof (fun hHeld => ?_)
          clear hK K
          replace sz := sz.mono (G' := fun k => wr.heap.size ≤ k ∧ ¬ F2 k ∧ k ≠ w5.heap.size) (fun k hk h => ⟨by have := h.1; omega, h.2, Nat.ne_of_lt hk⟩)
          have hB2 : ¬ F2 w5.heap.size := fun h => Nat.lt_irrefl _ (hO.lt hI2 _ h)
          refine takeM 10 32 42 rfl rfl rfl (by kernel_rfl) (by kernel_rfl) (by kernel_rfl) (fun _ _ _ h => h) (by rfl) hHeld rfl ?_
          simp only [List.set_cons_succ, List.set_cons_zero]
          refine takeL 11 43 (v := ?_) rfl rfl (by kernel_rfl) (by kernel_rfl) (by kernel_rfl) (fun _ _ _ h => h) (by rfl) hHeld (fun w hSw => ?_) ?_
          rotate_left 1
          · (try dsimp only at hSw)
            clear hSw
            go_simp
            try with_reducible rfl
          simp only [List.set_cons_succ, List.set_cons_zero]
          refine takeL 12 44 (v := ?_) rfl rfl (by kernel_rfl) (by kernel_rfl) (by kernel_rfl) (fun _ _ _ h => h) (by rfl) hHeld (fun w hSw => ?_) ?_
          rotate_left 1
          · (try dsimp only at hSw)
            clear hSw
            go_simp
            try with_reducible rfl
          simp only [List.set_cons_succ, List.set_cons_zero]
          refine onlyL 13 rfl (by kernel_rfl) (by rfl) (fun K hK => ?_)
          go_wp2
          have bT := SBox.new w5 (.slice none 0 0) 0 0
          have hb : Below w5.heap.size w5 (w5.alloc (.cells #[.slice none 0 0, .int .u64 0, .int .u64 0] 41)) := (Below.refl _ _).alloc (Nat.le_refl _) _
          replace hof := hof.alloc (.cells #[.slice none 0 0, .int .u64 0, .int .u64 0] 41)
          refine hK.out _ _ hof (fun hHeld => ?_)
          clear hK K
          replace sz := sz.off (Off.of_below (F := fun _ => False) hb) (fun _ _ _ h => h)
          replace hI2 := hO.below hI2 hb
          clear hb
          generalize w5.alloc (.cells #[.slice none 0 0, .int .u64 0, .int .u64 0] 41) = w6 at *
          generalize w5.heap.size = B at *
          have q0 := bT.c0
          have q1 := bT.c1
          have q2 := bT.c2
          have q3 := bT.frozen 0
          have q4 := bT.frozen 1
          have q5 := bT.frozen 2
          refine onlyL 14 rfl (by kernel_rfl) (by rfl) (fun K hK => ?_)
          go_wp2_with fail
          clear q0 q1 q2 q3 q4 q5
          have hot : Off (fun k => k = B) w6 (((w6.setCell ⟨B, 0, none⟩ (.slice z n cz)).setCell ⟨B, 1, none⟩ (.int .u64 18446744073709551615)).setCell ⟨B, 2, none⟩ (.int .u64 ((i : Int) + 1))) := ((((Off.refl (fun k => k = B) w6).setCell (p := ⟨B, 0, none⟩) (Or.inl rfl) (.slice z n cz)).setCell (p := ⟨B, 1, none⟩) (Or.inl rfl) (.int .u64 18446744073709551615)).setCell (p := ⟨B, 2, none⟩) (Or.inl rfl) (.int .u64 ((i : Int) + 1)))
          replace bT := bT.put3 (.slice z n cz) 18446744073709551615 ((i : Int) + 1)
          replace hof : Off F wr (((w6.setCell ⟨B, 0, none⟩ (.slice z n cz)).setCell ⟨B, 1, none⟩ (.int .u64 18446744073709551615)).setCell ⟨B, 2, none⟩ (.int .u64 ((i : Int) + 1))) := hof.trans hot (fun k hk => Or.inr (by omega))
          refine hK.out _ _ hof (fun hHeld => ?_)
          clear hK K
          replace hI2 := hO.keep hI2 hot (fun k h e => by subst e; exact hB2 h)
          replace sz := sz.off hot (fun k _ h e => h.2.2 e)
          clear hot
          generalize (((w6.setCell ⟨B, 0, none⟩ (.slice z n cz)).setCell ⟨B, 1, none⟩ (.int .u64 18446744073709551615)).setCell ⟨B, 2, none⟩ (.int .u64 ((i : Int) + 1))) = w8 at *
          refine takeA 15 9 44 rfl rfl rfl (by kernel_rfl) (by kernel_rfl) (by kernel_rfl) (fun _ _ _ h => h) (by rfl) hHeld rfl ?_
          simp only [List.set_cons_succ, List.set_cons_zero]
          refine wpAnyH_done (by kernel_rfl) ?_ _
          have M2 := M.move hI2 hsub hof
          have hwz := M.hB.size
          have hzz : SIn (fun k => w.heap.size < k ∧ ¬ F2 k ∧ v.ownBlock ≠ some k) w8 z n (outB (i + 1) n) := sz.mono (fun k _ h => ⟨by have := h.1; have := M.box.lt; omega, h.2.1, fun e => by have := hvlt k e; have := h.1; omega⟩)
          clear M hI hI2 hof hHeld sz hsub
          have q0 := bT.c0
          have q1 := bT.c1
          have q2 := bT.c2
          obtain ⟨i0, hi0, hz0, hz1, hz2⟩ := info_parts Try.sealInfo
          have hbl : Below w8.heap.size w8 (w8.alloc (.cells #[.slice z n cz, .int .u64 18446744073709551615, .int .u64 ((i : Int) + 1)] 41)) := (Below.refl _ _).alloc (Nat.le_refl _) _
          have M3 := M2.quiet hO hbl
          have hzz3 := hzz.off (Off.of_below (F := fun _ => False) hbl) (fun _ _ _ h => h)
          have hsz3 := M3.hB.size
          go_wp2_with (at_builtin; refine wpList_append_at rfl _ _ 59 rfl (w.heap.size + 1) 41 i0 _ 3 40 (by kernel_rfl) hi0 hz0 hz1 hz2 (by decide) (by decide) v i _ rfl M3.own ⟨w8.heap.size, 0, none⟩ 1 1 [.slice z n cz, .int .u64 18446744073709551615, .int .u64 ((i : Int) + 1)] rfl (by simp) (seal_news w8 _ _ _) (by simp [Value.oneCell']) (by unfold maxLen; omega) (by omega) (by have := M3.box.lt; omega) ?_)
          intro v' w9 own' hgr hloc
          have M4 := MSt.app hO M3 z cz (by rw [HY.out, HN.out]; exact own') hgr (by simpa only [World.size_alloc] using hloc) (by rw [HY.out, HN.out]; exact hzz3) (by rw [HY.out, HN.out]; exact fz)
          clear q0 q1 q2
          go_wp2
          go_roundw
          case rel => exact ⟨i + 1, F2, _, _, by omega, by go_num, rfl, M4⟩
          case measure => simp [intOf]; omega
        · go_wp2
          have bT := SBox.new wd (.slice none 0 0) 0 0
          have hb : Below wd.heap.size wd (wd.alloc (.cells #[.slice none 0 0, .int .u64 0, .int .u64 0] 41)) := (Below.refl _ _).alloc (Nat.le_refl _) _
          have hof1 : Off F wr (wd.alloc (.cells #[.slice none 0 0, .int .u64 0, .int .u64 0] 41)) := hof0.alloc _
          refine hK.out _ _ hof1 (fun hHeld => ?_)
          clear hK K
          have hB2a : ¬ F wd.heap.size := fun h => Nat.lt_irrefl _ (hO.lt hI _ h)
          have hwB : wr.heap.size ≤ wd.heap.size := hof0.size
          replace hI := hO.below hI hb
          replace sy := sy.off (Off.of_below (F := fun _ => False) hb) (fun _ _ _ h => h)
          have hB6 := bT.lt
          clear hb
          generalize wd.alloc (.cells #[.slice none 0 0, .int .u64 0, .int .u64 0] 41) = w6 at *
          generalize wd.heap.size = B at *
          refine onlyL 9 rfl (by kernel_rfl) (by rfl) (fun K hK => ?_)
          go_wp2_with fail
          refine (oseal_at hO F _ (manyL key P i) [] key (0#32, 0#32, BitVec.ofNat 64 i) rfl rfl rfl rfl (nv_ofN i (by omega)) [] ys none y 0 n 0 cy (by decide) (by omega) (by rw [manyL_length]; omega) bytes_none by_ fit_none fy _ hI (SIn.none _ _ _) sy (i := (i : Int) + 1) (by rw [manyL_length])).mono ?_
          rintro e w5 ⟨z, cz, F2, rfl, hK2, sz, fz⟩
          rw [manyL_length] at sz
          have hI2 : Inv F2 w5 (.pointer (some a1)) (manyL key P (i + 1), []) := by rw [manyL_succ, issAt, HY.out]; exact hK2.inv
          have hsub : ∀ k, F2 k → F k ∨ wr.heap.size ≤ k := fun k hk => (hK2.sub k hk).imp_right (fun h => Nat.le_trans (Nat.le_trans hwB (Nat.le_of_lt hB6)) h)
          have hof : Off F wr w5 := hof1.trans hK2.off (fun _ h => Or.inl h)
          replace bT : SBox w5 B (.slice none 0 0) 0 0 := off_block bT hK2.off hB2a
          have hB2 : ¬ F2 B := fun h => (hK2.sub B h).elim hB2a (fun h => by omega)
          replace sz := sz.mono (G' := fun k => wr.heap.size ≤ k ∧ ¬ F2 k ∧ k ≠ B) (fun k _ h => ⟨by have := h.1; omega, h.2, fun e => by have := h.1; omega⟩)
          clear hK2
          refine hK.out _ _ hof (fun hHeld => ?_)
          clear hK K
          refine takeM 10 32 42 rfl rfl rfl (by kernel_rfl) (by kernel_rfl) (by kernel_rfl) (fun _ _ _ h => h) (by rfl) hHeld rfl ?_
          simp only [List.set_cons_succ, List.set_cons_zero]
          refine takeL 11 43 (v := ?_) rfl rfl (by kernel_rfl) (by kernel_rfl) (by kernel_rfl) (fun _ _ _ h => h) (by rfl) hHeld (fun w hSw => ?_) ?_
          rotate_left 1
          · (try dsimp only at hSw)
            clear hSw
            go_simp
            try with_reducible rfl
          simp only [List.set_cons_succ, List.set_cons_zero]
          refine takeL 12 44 (v := ?_) rfl rfl (by kernel_rfl) (by kernel_rfl) (by kernel_rfl) (fun _ _ _ h => h) (by rfl) hHeld (fun w hSw => ?_) ?_
          rotate_left 1
          · (try dsimp only at hSw)
            clear hSw
            go_simp
            try with_reducible rfl
          simp only [List.set_cons_succ, List.set_cons_zero]
          have q0 := bT.c0
          have q1 := bT.c1
          have q2 := bT.c2
          have q3 := bT.frozen 0
          have q4 := bT.frozen 1
          have q5 := bT.frozen 2
          refine onlyL 14 rfl (by kernel_rfl) (by rfl) (fun K hK => ?_)
          go_wp2_with fail
          clear q0 q1 q2 q3 q4 q5
          have hot : Off (fun k => k = B) w5 (((w5.setCell ⟨B, 0, none⟩ (.slice z n cz)).setCell ⟨B, 1, none⟩ (.int .u64 18446744073709551615)).setCell ⟨B, 2, none⟩ (.int .u64 ((i : Int) + 1))) := ((((Off.refl (fun k => k = B) w5).setCell (p := ⟨B, 0, none⟩) (Or.inl rfl) (.slice z n cz)).setCell (p := ⟨B, 1, none⟩) (Or.inl rfl) (.int .u64 18446744073709551615)).setCell (p := ⟨B, 2, none⟩) (Or.inl rfl) (.int .u64 ((i : Int) + 1)))
          replace bT := bT.put3 (.slice z n cz) 18446744073709551615 ((i : Int) + 1)
          replace hof : Off F wr (((w5.setCell ⟨B, 0, none⟩ (.slice z n cz)).setCell ⟨B, 1, none⟩ (.int .u64 18446744073709551615)).setCell ⟨B, 2, none⟩ (.int .u64 ((i : Int) + 1))) := hof.trans hot (fun k hk => Or.inr (by omega))
          refine hK.out _ _ hof (fun hHeld => ?_)
          clear hK K
          replace hI2 := hO.keep hI2 hot (fun k h e => by subst e; exact hB2 h)
          replace sz := sz.off hot (fun k _ h e => h.2.2 e)
          clear hot
          generalize (((w5.setCell ⟨B, 0, none⟩ (.slice z n cz)).setCell ⟨B, 1, none⟩ (.int .u64 18446744073709551615)).setCell ⟨B, 2, none⟩ (.int .u64 ((i : Int) + 1))) = w8 at *
          refine takeA 15 9 44 rfl rfl rfl (by kernel_rfl) (by kernel_rfl) (by kernel_rfl) (fun _ _ _ h => h) (by rfl) hHeld rfl ?_
          simp only [List.set_cons_succ, List.set_cons_zero]
          refine wpAnyH_done (by kernel_rfl) ?_ _
          have M2 := M.move hI2 hsub hof
          have hwz := M.hB.size
          have hzz : SIn (fun k => w.heap.size < k ∧ ¬ F2 k ∧ v.ownBlock ≠ some k) w8 z n (outB (i + 1) n) := sz.mono (fun k _ h => ⟨by have := h.1; have := M.box.lt; omega, h.2.1, fun e => by have := hvlt k e; have := h.1; omega⟩)
          clear M hI hI2 hof hHeld sz hsub
          have q0 := bT.c0
          have q1 := bT.c1
          have q2 := bT.c2
          obtain ⟨i0, hi0, hz0, hz1, hz2⟩ := info_parts Try.sealInfo
          have hbl : Below w8.heap.size w8 (w8.alloc (.cells #[.slice z n cz, .int .u64 18446744073709551615, .int .u64 ((i : Int) + 1)] 41)) := (Below.refl _ _).alloc (Nat.le_refl _) _
          have M3 := M2.quiet hO hbl
          have hzz3 := hzz.off (Off.of_below (F := fun _ => False) hbl) (fun _ _ _ h => h)
          have hsz3 := M3.hB.size
          go_wp2_with (at_builtin; refine wpList_append_at rfl _ _ 59 rfl (w.heap.size + 1) 41 i0 _ 3 40 (by kernel_rfl) hi0 hz0 hz1 hz2 (by decide) (by decide) v i _ rfl M3.own ⟨w8.heap.size, 0, none⟩ 1 1 [.slice z n cz, .int .u64 18446744073709551615, .int .u64 ((i : Int) + 1)] rfl (by simp) (seal_news w8 _ _ _) (by simp [Value.oneCell']) (by unfold maxLen; omega) (by omega) (by have := M3.box.lt; omega) ?_)
          intro v' w9 own' hgr hloc
          have M4 := MSt.app hO M3 z cz (by rw [HY.out, HN.out]; exact own') hgr (by simpa only [World.size_alloc] using hloc) (by rw [HY.out, HN.out]; exact hzz3) (by rw [HY.out, HN.out]; exact fz)
          clear q0 q1 q2
          go_wp2
          go_roundw
          case rel => exact ⟨i + 1, F2, _, _, by omega, by go_num, rfl, M4⟩
          case measure => simp [intOf]; omega
    · obtain rfl : i = m := by omega
      clear hvlt hlt hi
      obtain ⟨yv, cv, rfl, hcv, hcvm, _⟩ := own_is M.own
      have H0 := M
      go_wp2_with fail
      go_loopw [10] (fun iv wr => ∃ (p : Nat) (F : Nat → Prop), p ≤ i ∧ iv = .int .i64 (p : Int) ∧ MSt Inv w a1 key P i F (manyL key P i, []) (.slice yv i cv) Z wr) (fun iv _ => i - (intOf iv).toNat)
      case atStart => exact ⟨0, F, Nat.zero_le _, rfl, H0⟩
      case round =>
        clear H0 M F
        obtain ⟨p, F, hp0, rfl, M⟩ := hrel
        by_cases hp : p < i
        · have H0 := M
          go_wp2_with fail
          go_loopw [11] (fun kv wr => ∃ (q : Nat) (F : Nat → Prop), q ≤ i ∧ kv = .int .i64 (q : Int) ∧ MSt Inv w a1 key P i F (manyL key P i, []) (.slice yv i cv) Z wr) (fun kv _ => i - (intOf kv).toNat)
          case atStart => exact ⟨0, F, Nat.zero_le _, rfl, H0⟩
          case round =>
            clear H0 M F
            obtain ⟨q, F, hq0, rfl, M⟩ := hrel
            by_cases hq : q < i
            · have hnK : ¬ F w.heap.size := fun h => Nat.lt_irrefl _ (M.hF _ h)
              obtain ⟨g, cap, e, _, hgl, hgF, c0, c1, c2⟩ := M.cells hq
              simp at e
              obtain ⟨rfl, rfl⟩ := e
              obtain ⟨ys, HY⟩ : ∃ ys, Hid (P.getD p [] = ys) := ⟨_, rfl⟩
              obtain ⟨n, HN⟩ : ∃ n, Hid (ys.length = n) := ⟨_, rfl⟩
              obtain ⟨nq, HQ⟩ : ∃ nq, Hid ((P.getD q []).length = nq) := ⟨_, rfl⟩
              rw [HQ.out] at c0
              by_cases hpq : p = q
              · subst hpq
                have hnq : n = nq := by rw [← HN.out, ← HQ.out, HY.out]
                rw [← hnq] at c0
                clear HQ hnq
                go_wp2_with fail
                refine wp_region_held_drew (S := fun w' => Off F wr w') (by kernel_rfl) (Off.refl _ _).drew (fun hHeld => ?_)
                refine takeM 0 64 5 rfl rfl rfl (by kernel_rfl) (by kernel_rfl) (by kernel_rfl) (fun _ _ _ h => h) (by rfl) hHeld rfl ?_
                simp only [List.set_cons_succ, List.set_cons_zero]
                refine takeL 1 65 (v := ?_) rfl rfl (by kernel_rfl) (by kernel_rfl) (by kernel_rfl) (fun _ _ _ h => h) (by rfl) hHeld (fun w hSw => ?_) ?_
                rotate_left 1
                · (try dsimp only at hSw)
                  have hx_ : Box w _ (nv key.1) (nv key.2) := off_block M.box hSw hnK
                  have e0_ := hx_.c0
                  have e1_ := hx_.c1
                  clear hx_
                  clear hSw
                  go_simp
                  try with_reducible rfl
                simp only [List.set_cons_succ, List.set_cons_zero]
                refine takeM 2 66 10 rfl rfl rfl (by kernel_rfl) (by kernel_rfl) (by kernel_rfl) (fun _ _ _ h => h) (by rfl) hHeld rfl ?_
                simp only [List.set_cons_succ, List.set_cons_zero]
                refine takeL 3 67 (v := ?_) rfl rfl (by kernel_rfl) (by kernel_rfl) (by kernel_rfl) (fun _ _ _ h => h) (by rfl) hHeld (fun w hSw => ?_) ?_
                rotate_left 1
                · (try dsimp only at hSw)
                  clear hSw
                  go_simp
                  try with_reducible rfl
                simp only [List.set_cons_succ, List.set_cons_zero]
                refine takeL 4 68 (v := ?_) rfl rfl (by kernel_rfl) (by kernel_rfl) (by kernel_rfl) (fun _ _ _ h => h) (by rfl) hHeld (fun w hSw => ?_) ?_
                rotate_left 1
                · (try dsimp only at hSw)
                  clear hSw
                  go_simp
                  try with_reducible rfl
                simp only [List.set_cons_succ, List.set_cons_zero]
                refine takeM 5 69 6 rfl rfl rfl (by kernel_rfl) (by kernel_rfl) (by kernel_rfl) (fun _ _ _ h => h) (by rfl) hHeld rfl ?_
                simp only [List.set_cons_succ, List.set_cons_zero]
                refine takeM 6 70 11 rfl rfl rfl (by kernel_rfl) (by kernel_rfl) (by kernel_rfl) (fun _ _ _ h => h) (by rfl) hHeld rfl ?_
                simp only [List.set_cons_succ, List.set_cons_zero]
                refine takeL 7 71 (v := ?_) rfl rfl (by kernel_rfl) (by kernel_rfl) (by kernel_rfl) (fun _ _ _ h => h) (by rfl) hHeld (fun w hSw => ?_) ?_
                rotate_left 1
                · (try dsimp only at hSw)
                  clear hSw
                  go_simp
                  try with_reducible rfl
                simp only [List.set_cons_succ, List.set_cons_zero]
                refine takeL 8 72 (v := ?_) rfl rfl (by kernel_rfl) (by kernel_rfl) (by kernel_rfl) (fun _ _ _ h => h) (by rfl) hHeld (fun w hSw => ?_) ?_
                rotate_left 1
                · (try dsimp only at hSw)
                  have e0_ := (hSw.cell (p := ⟨g, p * 3 + 0, none⟩) hgl hgF).trans c0
                  have e1_ := (hSw.cell (p := ⟨g, p * 3 + 1, none⟩) hgl hgF).trans c1
                  have e2_ := (hSw.cell (p := ⟨g, p * 3 + 2, none⟩) hgl hgF).trans c2
                  simp only [Nat.add_zero] at e0_
                  clear hSw
                  go_simp
                  try with_reducible rfl
                simp only [List.set_cons_succ, List.set_cons_zero]
                have Md := M.quiet hO (Below.refl wr.heap.size wr).drew
                have hof0 : Off F wr wr.drew := (Off.refl _ _).drew
                clear hHeld
                generalize wr.drew = wd at *
                refine onlyL 9 rfl (by kernel_rfl) (by rfl) (fun K hK => ?_)
                go_wp2_with fail
                refine (mopen_yes hO hm Md hp HY.out HN.out).mono ?_
                rintro e w5 ⟨zo, co, F2, rfl, M2, hof2, so⟩
                have hof : Off F wr w5 := hof0.trans hof2 (fun _ h => Or.inl h)
                replace M := M2
                clear Md M2 hof0 hof2
                refine hK.out _ _ hof (fun hHeld => ?_)
                clear hK K
                refine takeM 10 63 73 rfl rfl rfl (by kernel_rfl) (by kernel_rfl) (by kernel_rfl) (fun _ _ _ h => h) (by rfl) hHeld rfl ?_
                simp only [List.set_cons_succ, List.set_cons_zero]
                refine takeL 11 74 (v := ?_) rfl rfl (by kernel_rfl) (by kernel_rfl) (by kernel_rfl) (fun _ _ _ h => h) (by rfl) hHeld (fun w hSw => ?_) ?_
                rotate_left 1
                · (try dsimp only at hSw)
                  clear hSw
                  go_simp
                  try with_reducible rfl
                simp only [List.set_cons_succ, List.set_cons_zero]
                refine takeL 12 75 (v := ?_) rfl rfl (by kernel_rfl) (by kernel_rfl) (by kernel_rfl) (fun _ _ _ h => h) (by rfl) hHeld (fun w hSw => ?_) ?_
                rotate_left 1
                · (try dsimp only at hSw)
                  clear hSw
                  go_simp
                  try with_reducible rfl
                simp only [List.set_cons_succ, List.set_cons_zero]
                refine takeA 13 12 74 rfl rfl rfl (by kernel_rfl) (by kernel_rfl) (by kernel_rfl) (fun _ _ _ h => h) (by rfl) hHeld rfl ?_
                simp only [List.set_cons_succ, List.set_cons_zero]
                refine takeA 14 13 75 rfl rfl rfl (by kernel_rfl) (by kernel_rfl) (by kernel_rfl) (fun _ _ _ h => h) (by rfl) hHeld rfl ?_
                simp only [List.set_cons_succ, List.set_cons_zero]
                refine wpAnyH_done (by kernel_rfl) ?_ _
                clear hHeld hof hnK hgF hgl c0 c1 c2
                obtain ⟨g2, cap2, e2, _, hgl, _, c0, c1, c2⟩ := M.cells hp
                rw [HY.out, HN.out] at c0
                simp at e2
                obtain ⟨rfl, rfl⟩ := e2
                obtain ⟨b, o, rfl, hbl, hbw, hrow⟩ := hl.2 (by omega)
                obtain ⟨y, cy, hcell0, sy0, hcy, hcmy, nily, by_⟩ := hrow p hp
                rw [HY.out, HN.out] at hcell0 sy0
                have hcell := (M.hB.cell (p := ⟨b, o + p, none⟩) hbl).trans hcell0
                have sy := (sy0.off (Off.of_below (F := fun _ => False) M.hB) (fun _ _ _ h => h)).sat
                have hbr : b < w5.heap.size := Nat.lt_of_lt_of_le hbl M.hB.size
                clear sy0 hcell0
                go_wp2_with fail
                refine wp_region_held_drew (S := fun w' => Below w5.heap.size w5 w') (by kernel_rfl) (Below.refl _ _).drew (fun hHeld => ?_)
                refine takeM 0 76 13 rfl rfl rfl (by kernel_rfl) (by kernel_rfl) (by kernel_rfl) (fun _ _ _ h => h) (by rfl) hHeld rfl ?_
                simp only [List.set_cons_succ, List.set_cons_zero]
                refine takeM 1 77 10 rfl rfl rfl (by kernel_rfl) (by kernel_rfl) (by kernel_rfl) (fun _ _ _ h => h) (by rfl) hHeld rfl ?_
                simp only [List.set_cons_succ, List.set_cons_zero]
                refine takeM 2 78 11 rfl rfl rfl (by kernel_rfl) (by kernel_rfl) (by kernel_rfl) (fun _ _ _ h => h) (by rfl) hHeld rfl ?_
                simp only [List.set_cons_succ, List.set_cons_zero]
                refine takeL 3 79 (v := ?_) rfl rfl (by kernel_rfl) (by kernel_rfl) (by kernel_rfl) (fun _ _ _ h => h) (by rfl) hHeld (fun w hSw => ?_) ?_
                rotate_left 1
                · (try dsimp only at hSw)
                  clear hSw
                  go_simp
                  try with_reducible rfl
                simp only [List.set_cons_succ, List.set_cons_zero]
                refine takeL 4 80 (v := ?_) rfl rfl (by kernel_rfl) (by kernel_rfl) (by kernel_rfl) (fun _ _ _ h => h) (by rfl) hHeld (fun w hSw => ?_) ?_
                rotate_left 1
                · (try dsimp only at hSw)
                  clear hSw
                  go_simp
                  try with_reducible rfl
                simp only [List.set_cons_succ, List.set_cons_zero]
                refine takeM 5 81 80 rfl rfl rfl (by kernel_rfl) (by kernel_rfl) (by kernel_rfl) (fun _ _ _ h => h) (by rfl) hHeld rfl ?_
                simp only [List.set_cons_succ, List.set_cons_zero]
                refine takeM 6 82 13 rfl rfl rfl (by kernel_rfl) (by kernel_rfl) (by kernel_rfl) (fun _ _ _ h => h) (by rfl) hHeld rfl ?_
                simp only [List.set_cons_succ, List.set_cons_zero]
                refine takeM 7 83 82 rfl rfl rfl (by kernel_rfl) (by kernel_rfl) (by kernel_rfl) (fun _ _ _ h => h) (by rfl) hHeld rfl ?_
                simp only [List.set_cons_succ, List.set_cons_zero]
                refine takeM 8 84 12 rfl rfl rfl (by kernel_rfl) (by kernel_rfl) (by kernel_rfl) (fun _ _ _ h => h) (by rfl) hHeld rfl ?_
                simp only [List.set_cons_succ, List.set_cons_zero]
                refine takeL 9 85 (v := ?_) rfl rfl (by kernel_rfl) (by kernel_rfl) (by kernel_rfl) (fun _ _ _ h => h) (by rfl) hHeld (fun w hSw => ?_) ?_
                rotate_left 1
                · (try dsimp only at hSw)
                  have e0_ := fun c => (so.below hSw).conv (c := c)
                  clear hSw
                  go_simp
                  try with_reducible rfl
                simp only [List.set_cons_succ, List.set_cons_zero]
                refine takeM 10 86 0 rfl rfl rfl (by kernel_rfl) (by kernel_rfl) (by kernel_rfl) (fun _ _ _ h => h) (by rfl) hHeld rfl ?_
                simp only [List.set_cons_succ, List.set_cons_zero]
                refine takeM 11 87 10 rfl rfl rfl (by kernel_rfl) (by kernel_rfl) (by kernel_rfl) (fun _ _ _ h => h) (by rfl) hHeld rfl ?_
                simp only [List.set_cons_succ, List.set_cons_zero]
                refine takeL 12 88 (v := ?_) rfl rfl (by kernel_rfl) (by kernel_rfl) (by kernel_rfl) (fun _ _ _ h => h) (by rfl) hHeld (fun w hSw => ?_) ?_
                rotate_left 1
                · (try dsimp only at hSw)
                  clear hSw
                  go_simp
                  try with_reducible rfl
                simp only [List.set_cons_succ, List.set_cons_zero]
                refine takeL 13 89 (v := ?_) rfl rfl (by kernel_rfl) (by kernel_rfl) (by kernel_rfl) (fun _ _ _ h => h) (by rfl) hHeld (fun w hSw => ?_) ?_
                rotate_left 1
                · (try dsimp only at hSw)
                  have e0_ := (hSw.cell (p := ⟨b, o + p, none⟩) hbr).trans hcell
                  clear hSw
                  go_simp
                  try with_reducible rfl
                simp only [List.set_cons_succ, List.set_cons_zero]
                refine takeL 14 90 (v := ?_) rfl rfl (by kernel_rfl) (by kernel_rfl) (by kernel_rfl) (fun _ _ _ h => h) (by rfl) hHeld (fun w hSw => ?_) ?_
                rotate_left 1
                · (try dsimp only at hSw)
                  have e0_ := fun c => (sy.below hSw).conv (c := c)
                  clear hSw
                  go_simp
                  try with_reducible rfl
                simp only [List.set_cons_succ, List.set_cons_zero]
                refine takeL 15 91 (v := ?_) rfl rfl (by kernel_rfl) (by kernel_rfl) (by kernel_rfl) (fun _ _ _ h => h) (by rfl) hHeld (fun w hSw => ?_) ?_
                rotate_left 1
                · (try dsimp only at hSw)
                  clear hSw
                  go_simp
                  try with_reducible rfl
                simp only [List.set_cons_succ, List.set_cons_zero]
                refine takeL 16 92 (v := ?_) rfl rfl (by kernel_rfl) (by kernel_rfl) (by kernel_rfl) (fun _ _ _ h => h) (by rfl) hHeld (fun w hSw => ?_) ?_
                rotate_left 1
                · (try dsimp only at hSw)
                  clear hSw
                  go_simp
                  try with_reducible rfl
                simp only [List.set_cons_succ, List.set_cons_zero]
                refine takeL 17 93 (v := ?_) rfl rfl (by kernel_rfl) (by kernel_rfl) (by kernel_rfl) (fun _ _ _ h => h) (by rfl) hHeld (fun w hSw => ?_) ?_
                rotate_left 1
                · (try dsimp only at hSw)
                  clear hSw
                  go_simp
                  try with_reducible rfl
                simp only [List.set_cons_succ, List.set_cons_zero]
                refine takeM 18 94 93 rfl rfl rfl (by kernel_rfl) (by kernel_rfl) (by kernel_rfl) (fun _ _ _ h => h) (by rfl) hHeld rfl ?_
                simp only [List.set_cons_succ, List.set_cons_zero]
                refine takeM 19 95 6 rfl rfl rfl (by kernel_rfl) (by kernel_rfl) (by kernel_rfl) (fun _ _ _ h => h) (by rfl) hHeld rfl ?_
                simp only [List.set_cons_succ, List.set_cons_zero]
                refine takeM 20 96 10 rfl rfl rfl (by kernel_rfl) (by kernel_rfl) (by kernel_rfl) (fun _ _ _ h => h) (by rfl) hHeld rfl ?_
                simp only [List.set_cons_succ, List.set_cons_zero]
                refine takeL 21 97 (v := ?_) rfl rfl (by kernel_rfl) (by kernel_rfl) (by kernel_rfl) (fun _ _ _ h => h) (by rfl) hHeld (fun w hSw => ?_) ?_
                rotate_left 1
                · (try dsimp only at hSw)
                  clear hSw
                  go_simp
                  try with_reducible rfl
                simp only [List.set_cons_succ, List.set_cons_zero]
                refine takeL 22 98 (v := ?_) rfl rfl (by kernel_rfl) (by kernel_rfl) (by kernel_rfl) (fun _ _ _ h => h) (by rfl) hHeld (fun w hSw => ?_) ?_
                rotate_left 1
                · (try dsimp only at hSw)
                  have e0_ := (hSw.cell (p := ⟨g, p * 3 + 0, none⟩) hgl).trans c0
                  have e1_ := (hSw.cell (p := ⟨g, p * 3 + 1, none⟩) hgl).trans c1
                  have e2_ := (hSw.cell (p := ⟨g, p * 3 + 2, none⟩) hgl).trans c2
                  simp only [Nat.add_zero] at e0_
                  clear hSw
                  go_simp
                  try with_reducible rfl
                simp only [List.set_cons_succ, List.set_cons_zero]
                refine takeM 23 99 6 rfl rfl rfl (by kernel_rfl) (by kernel_rfl) (by kernel_rfl) (fun _ _ _ h => h) (by rfl) hHeld rfl ?_
                simp only [List.set_cons_succ, List.set_cons_zero]
                refine takeM 24 100 11 rfl rfl rfl (by kernel_rfl) (by kernel_rfl) (by kernel_rfl) (fun _ _ _ h => h) (by rfl) hHeld rfl ?_
                simp only [List.set_cons_succ, List.set_cons_zero]
                refine takeL 25 101 (v := ?_) rfl rfl (by kernel_rfl) (by kernel_rfl) (by kernel_rfl) (fun _ _ _ h => h) (by rfl) hHeld (fun w hSw => ?_) ?_
                rotate_left 1
                · (try dsimp only at hSw)
                  clear hSw
                  go_simp
                  try with_reducible rfl
                simp only [List.set_cons_succ, List.set_cons_zero]
                refine takeL 26 102 (v := ?_) rfl rfl (by kernel_rfl) (by kernel_rfl) (by kernel_rfl) (fun _ _ _ h => h) (by rfl) hHeld (fun w hSw => ?_) ?_
                rotate_left 1
                · (try dsimp only at hSw)
                  have e0_ := (hSw.cell (p := ⟨g, p * 3 + 0, none⟩) hgl).trans c0
                  have e1_ := (hSw.cell (p := ⟨g, p * 3 + 1, none⟩) hgl).trans c1
                  have e2_ := (hSw.cell (p := ⟨g, p * 3 + 2, none⟩) hgl).trans c2
                  simp only [Nat.add_zero] at e0_
                  clear hSw
                  go_simp
                  try with_reducible rfl
                simp only [List.set_cons_succ, List.set_cons_zero]
                refine takeM 28 104 10 rfl rfl rfl (by kernel_rfl) (by kernel_rfl) (by kernel_rfl) (fun _ _ _ h => h) (by rfl) hHeld rfl ?_
                simp only [List.set_cons_succ, List.set_cons_zero]
                refine takeM 29 105 11 rfl rfl rfl (by kernel_rfl) (by kernel_rfl) (by kernel_rfl) (fun _ _ _ h => h) (by rfl) hHeld rfl ?_
                simp only [List.set_cons_succ, List.set_cons_zero]
                refine takeL 30 106 (v := ?_) rfl rfl (by kernel_rfl) (by kernel_rfl) (by kernel_rfl) (fun _ _ _ h => h) (by rfl) hHeld (fun w hSw => ?_) ?_
                rotate_left 1
                · (try dsimp only at hSw)
                  clear hSw
                  go_simp
                  try with_reducible rfl
                simp only [List.set_cons_succ, List.set_cons_zero]
                have Md := M.quiet hO (Below.refl w5.heap.size w5).drew
                clear hHeld
                have hbd : Below w5.heap.size w5 w5.drew := (Below.refl _ _).drew
                generalize w5.drew = wd at *
                refine onlyL 27 rfl (by kernel_rfl) (by rfl) (fun K hK => ?_)
                go_wp2_with fail
                refine (osame_yes p (by omega) _ _ _ _ _ (sout_at HY HN (Md.out p hp).1.sat)).mono ?_
                rintro e w6 ⟨rfl, hb⟩
                replace M := Md.quiet hO hb
                refine hK.out _ _ (hbd.trans (hb.mono hbd.size)) (fun hHeld => ?_)
                clear hK K Md
                refine takeL 31 107 (v := ?_) rfl rfl (by kernel_rfl) (by kernel_rfl) (by kernel_rfl) (fun _ _ _ h => h) (by rfl) hHeld (fun w hSw => ?_) ?_
                rotate_left 1
                · (try dsimp only at hSw)
                  clear hSw
                  go_simp
                  try with_reducible rfl
                simp only [List.set_cons_succ, List.set_cons_zero]
                refine takeL 32 108 (v := ?_) rfl rfl (by kernel_rfl) (by kernel_rfl) (by kernel_rfl) (fun _ _ _ h => h) (by rfl) hHeld (fun w hSw => ?_) ?_
                rotate_left 1
                · (try dsimp only at hSw)
                  clear hSw
                  go_simp
                  try with_reducible rfl
                simp only [List.set_cons_succ, List.set_cons_zero]
                refine wpAnyH_done (by kernel_rfl) ?_ _
                go_wp2
                go_roundw
                case rel => exact ⟨p + 1, F2, by omega, by go_num, M⟩
                case measure => simp [intOf]; omega
              · have hpqi : ((p : Int) == (q : Int)) = false := by simp; omega
                have hpqd : decide ((p : Int) = (q : Int)) = false := by simp; omega
                go_wp2_with fail
                refine wp_region_held_drew (S := fun w' => Off F wr w') (by kernel_rfl) (Off.refl _ _).drew (fun hHeld => ?_)
                refine takeM 0 64 5 rfl rfl rfl (by kernel_rfl) (by kernel_rfl) (by kernel_rfl) (fun _ _ _ h => h) (by rfl) hHeld rfl ?_
                simp only [List.set_cons_succ, List.set_cons_zero]
                refine takeL 1 65 (v := ?_) rfl rfl (by kernel_rfl) (by kernel_rfl) (by kernel_rfl) (fun _ _ _ h => h) (by rfl) hHeld (fun w hSw => ?_) ?_
                rotate_left 1
                · (try dsimp only at hSw)
                  have hx_ : Box w _ (nv key.1) (nv key.2) := off_block M.box hSw hnK
                  have e0_ := hx_.c0
                  have e1_ := hx_.c1
                  clear hx_
                  clear hSw
                  go_simp
                  try with_reducible rfl
                simp only [List.set_cons_succ, List.set_cons_zero]
                refine takeM 2 66 10 rfl rfl rfl (by kernel_rfl) (by kernel_rfl) (by kernel_rfl) (fun _ _ _ h => h) (by rfl) hHeld rfl ?_
                simp only [List.set_cons_succ, List.set_cons_zero]
                refine takeL 3 67 (v := ?_) rfl rfl (by kernel_rfl) (by kernel_rfl) (by kernel_rfl) (fun _ _ _ h => h) (by rfl) hHeld (fun w hSw => ?_) ?_
                rotate_left 1
                · (try dsimp only at hSw)
                  clear hSw
                  go_simp
                  try with_reducible rfl
                simp only [List.set_cons_succ, List.set_cons_zero]
                refine takeL 4 68 (v := ?_) rfl rfl (by kernel_rfl) (by kernel_rfl) (by kernel_rfl) (fun _ _ _ h => h) (by rfl) hHeld (fun w hSw => ?_) ?_
                rotate_left 1
                · (try dsimp only at hSw)
                  clear hSw
                  go_simp
                  try with_reducible rfl
                simp only [List.set_cons_succ, List.set_cons_zero]
                refine takeM 5 69 6 rfl rfl rfl (by kernel_rfl) (by kernel_rfl) (by kernel_rfl) (fun _ _ _ h => h) (by rfl) hHeld rfl ?_
                simp only [List.set_cons_succ, List.set_cons_zero]
                refine takeM 6 70 11 rfl rfl rfl (by kernel_rfl) (by kernel_rfl) (by kernel_rfl) (fun _ _ _ h => h) (by rfl) hHeld rfl ?_
                simp only [List.set_cons_succ, List.set_cons_zero]
                refine takeL 7 71 (v := ?_) rfl rfl (by kernel_rfl) (by kernel_rfl) (by kernel_rfl) (fun _ _ _ h => h) (by rfl) hHeld (fun w hSw => ?_) ?_
                rotate_left 1
                · (try dsimp only at hSw)
                  clear hSw
                  go_simp
                  try with_reducible rfl
                simp only [List.set_cons_succ, List.set_cons_zero]
                refine takeL 8 72 (v := ?_) rfl rfl (by kernel_rfl) (by kernel_rfl) (by kernel_rfl) (fun _ _ _ h => h) (by rfl) hHeld (fun w hSw => ?_) ?_
                rotate_left 1
                · (try dsimp only at hSw)
                  have e0_ := (hSw.cell (p := ⟨g, q * 3 + 0, none⟩) hgl hgF).trans c0
                  have e1_ := (hSw.cell (p := ⟨g, q * 3 + 1, none⟩) hgl hgF).trans c1
                  have e2_ := (hSw.cell (p := ⟨g, q * 3 + 2, none⟩) hgl hgF).trans c2
                  simp only [Nat.add_zero] at e0_
                  clear hSw
                  go_simp
                  try with_reducible rfl
                simp only [List.set_cons_succ, List.set_cons_zero]
                have Md := M.quiet hO (Below.refl wr.heap.size wr).drew
                have hof0 : Off F wr wr.drew := (Off.refl _ _).drew
                clear hHeld
                generalize wr.drew = wd at *
                refine onlyL 9 rfl (by kernel_rfl) (by rfl) (fun K hK => ?_)
                go_wp2_with fail
                refine (mopen_no hO hm Md hp hq hpq HQ.out).mono ?_
                rintro e w5 ⟨zo, co, F2, rfl, M2, hof2⟩
                have hof : Off F wr w5 := hof0.trans hof2 (fun _ h => Or.inl h)
                replace M := M2
                clear Md M2 hof0 hof2
                refine hK.out _ _ hof (fun hHeld => ?_)
                clear hK K
                refine takeM 10 63 73 rfl rfl rfl (by kernel_rfl) (by kernel_rfl) (by kernel_rfl) (fun _ _ _ h => h) (by rfl) hHeld rfl ?_
                simp only [List.set_cons_succ, List.set_cons_zero]
                refine takeL 11 74 (v := ?_) rfl rfl (by kernel_rfl) (by kernel_rfl) (by kernel_rfl) (fun _ _ _ h => h) (by rfl) hHeld (fun w hSw => ?_) ?_
                rotate_left 1
                · (try dsimp only at hSw)
                  clear hSw
                  go_simp
                  try with_reducible rfl
                simp only [List.set_cons_succ, List.set_cons_zero]
                refine takeL 12 75 (v := ?_) rfl rfl (by kernel_rfl) (by kernel_rfl) (by kernel_rfl) (fun _ _ _ h => h) (by rfl) hHeld (fun w hSw => ?_) ?_
                rotate_left 1
                · (try dsimp only at hSw)
                  clear hSw
                  go_simp
                  try with_reducible rfl
                simp only [List.set_cons_succ, List.set_cons_zero]
                refine takeA 13 12 74 rfl rfl rfl (by kernel_rfl) (by kernel_rfl) (by kernel_rfl) (fun _ _ _ h => h) (by rfl) hHeld rfl ?_
                simp only [List.set_cons_succ, List.set_cons_zero]
                refine takeA 14 13 75 rfl rfl rfl (by kernel_rfl) (by kernel_rfl) (by kernel_rfl) (fun _ _ _ h => h) (by rfl) hHeld rfl ?_
                simp only [List.set_cons_succ, List.set_cons_zero]
                refine wpAnyH_done (by kernel_rfl) ?_ _
                clear hHeld hof hnK hgF hgl c0 c1 c2
                obtain ⟨g2, cap2, e2, _, hgl, _, c0, c1, c2⟩ := M.cells hp
                rw [HY.out, HN.out] at c0
                simp at e2
                obtain ⟨rfl, rfl⟩ := e2
                obtain ⟨g2, cap2, e2, _, _, _, d0, d1, d2⟩ := M.cells hq
                rw [HQ.out] at d0
                simp at e2
                obtain ⟨rfl, rfl⟩ := e2
                go_wp2_with fail
                refine wp_region_held_drew (S := fun w' => Below w5.heap.size w5 w') (by kernel_rfl) (Below.refl _ _).drew (fun hHeld => ?_)
                refine takeM 0 76 13 rfl rfl rfl (by kernel_rfl) (by kernel_rfl) (by kernel_rfl) (fun _ _ _ h => h) (by rfl) hHeld rfl ?_
                simp only [List.set_cons_succ, List.set_cons_zero]
                refine takeM 1 77 10 rfl rfl rfl (by kernel_rfl) (by kernel_rfl) (by kernel_rfl) (fun _ _ _ h => h) (by rfl) hHeld rfl ?_
                simp only [List.set_cons_succ, List.set_cons_zero]
                refine takeM 2 78 11 rfl rfl rfl (by kernel_rfl) (by kernel_rfl) (by kernel_rfl) (fun _ _ _ h => h) (by rfl) hHeld rfl ?_
                simp only [List.set_cons_succ, List.set_cons_zero]
                refine takeL 3 79 (v := ?_) rfl rfl (by kernel_rfl) (by kernel_rfl) (by kernel_rfl) (fun _ _ _ h => h) (by rfl) hHeld (fun w hSw => ?_) ?_
                rotate_left 1
                · (try dsimp only at hSw)
                  have e0_ := hpqi
                  have e1_ := hpqd
                  clear hSw
                  go_simp
                  try with_reducible rfl
                simp only [List.set_cons_succ, List.set_cons_zero]
                refine takeL 4 80 (v := ?_) rfl rfl (by kernel_rfl) (by kernel_rfl) (by kernel_rfl) (fun _ _ _ h => h) (by rfl) hHeld (fun w hSw => ?_) ?_
                rotate_left 1
                · (try dsimp only at hSw)
                  clear hSw
                  go_simp
                  try with_reducible rfl
                simp only [List.set_cons_succ, List.set_cons_zero]
                refine takeM 5 81 80 rfl rfl rfl (by kernel_rfl) (by kernel_rfl) (by kernel_rfl) (fun _ _ _ h => h) (by rfl) hHeld rfl ?_
                simp only [List.set_cons_succ, List.set_cons_zero]
                refine takeM 6 82 13 rfl rfl rfl (by kernel_rfl) (by kernel_rfl) (by kernel_rfl) (fun _ _ _ h => h) (by rfl) hHeld rfl ?_
                simp only [List.set_cons_succ, List.set_cons_zero]
                refine takeM 7 83 82 rfl rfl rfl (by kernel_rfl) (by kernel_rfl) (by kernel_rfl) (fun _ _ _ h => h) (by rfl) hHeld rfl ?_
                simp only [List.set_cons_succ, List.set_cons_zero]
                refine takeN 8 84 rfl rfl (by kernel_rfl) (by kernel_rfl) (by kernel_rfl) (fun _ _ _ h => h) (by rfl) hHeld ?_
                simp only [List.set_cons_succ, List.set_cons_zero]
                refine takeN 9 85 rfl rfl (by kernel_rfl) (by kernel_rfl) (by kernel_rfl) (fun _ _ _ h => h) (by rfl) hHeld ?_
                simp only [List.set_cons_succ, List.set_cons_zero]
                refine takeN 10 86 rfl rfl (by kernel_rfl) (by kernel_rfl) (by kernel_rfl) (fun _ _ _ h => h) (by rfl) hHeld ?_
                simp only [List.set_cons_succ, List.set_cons_zero]
                refine takeN 11 87 rfl rfl (by kernel_rfl) (by kernel_rfl) (by kernel_rfl) (fun _ _ _ h => h) (by rfl) hHeld ?_
                simp only [List.set_cons_succ, List.set_cons_zero]
                refine takeN 12 88 rfl rfl (by kernel_rfl) (by kernel_rfl) (by kernel_rfl) (fun _ _ _ h => h) (by rfl) hHeld ?_
                simp only [List.set_cons_succ, List.set_cons_zero]
                refine takeN 13 89 rfl rfl (by kernel_rfl) (by kernel_rfl) (by kernel_rfl) (fun _ _ _ h => h) (by rfl) hHeld ?_
                simp only [List.set_cons_succ, List.set_cons_zero]
                refine takeN 14 90 rfl rfl (by kernel_rfl) (by kernel_rfl) (by kernel_rfl) (fun _ _ _ h => h) (by rfl) hHeld ?_
                simp only [List.set_cons_succ, List.set_cons_zero]
                refine takeN 15 91 rfl rfl (by kernel_rfl) (by kernel_rfl) (by kernel_rfl) (fun _ _ _ h => h) (by rfl) hHeld ?_
                simp only [List.set_cons_succ, List.set_cons_zero]
                refine takeL 16 92 (v := ?_) rfl rfl (by kernel_rfl) (by kernel_rfl) (by kernel_rfl) (fun _ _ _ h => h) (by rfl) hHeld (fun w hSw => ?_) ?_
                rotate_left 1
                · (try dsimp only at hSw)
                  clear hSw
                  go_simp
                  try with_reducible rfl
                simp only [List.set_cons_succ, List.set_cons_zero]
                refine takeL 17 93 (v := ?_) rfl rfl (by kernel_rfl) (by kernel_rfl) (by kernel_rfl) (fun _ _ _ h => h) (by rfl) hHeld (fun w hSw => ?_) ?_
                rotate_left 1
                · (try dsimp only at hSw)
                  clear hSw
                  go_simp
                  try with_reducible rfl
                simp only [List.set_cons_succ, List.set_cons_zero]
                refine takeM 18 94 93 rfl rfl rfl (by kernel_rfl) (by kernel_rfl) (by kernel_rfl) (fun _ _ _ h => h) (by rfl) hHeld rfl ?_
                simp only [List.set_cons_succ, List.set_cons_zero]
                refine takeM 19 95 6 rfl rfl rfl (by kernel_rfl) (by kernel_rfl) (by kernel_rfl) (fun _ _ _ h => h) (by rfl) hHeld rfl ?_
                simp only [List.set_cons_succ, List.set_cons_zero]
                refine takeM 20 96 10 rfl rfl rfl (by kernel_rfl) (by kernel_rfl) (by kernel_rfl) (fun _ _ _ h => h) (by rfl) hHeld rfl ?_
                simp only [List.set_cons_succ, List.set_cons_zero]
                refine takeL 21 97 (v := ?_) rfl rfl (by kernel_rfl) (by kernel_rfl) (by kernel_rfl) (fun _ _ _ h => h) (by rfl) hHeld (fun w hSw => ?_) ?_
                rotate_left 1
                · (try dsimp only at hSw)
                  clear hSw
                  go_simp
                  try with_reducible rfl
                simp only [List.set_cons_succ, List.set_cons_zero]
                refine takeL 22 98 (v := ?_) rfl rfl (by kernel_rfl) (by kernel_rfl) (by kernel_rfl) (fun _ _ _ h => h) (by rfl) hHeld (fun w hSw => ?_) ?_
                rotate_left 1
                · (try dsimp only at hSw)
                  have e0_ := (hSw.cell (p := ⟨g, p * 3 + 0, none⟩) hgl).trans c0
                  have e1_ := (hSw.cell (p := ⟨g, p * 3 + 1, none⟩) hgl).trans c1
                  have e2_ := (hSw.cell (p := ⟨g, p * 3 + 2, none⟩) hgl).trans c2
                  simp only [Nat.add_zero] at e0_
                  clear hSw
                  go_simp
                  try with_reducible rfl
                simp only [List.set_cons_succ, List.set_cons_zero]
                refine takeM 23 99 6 rfl rfl rfl (by kernel_rfl) (by kernel_rfl) (by kernel_rfl) (fun _ _ _ h => h) (by rfl) hHeld rfl ?_
                simp only [List.set_cons_succ, List.set_cons_zero]
                refine takeM 24 100 11 rfl rfl rfl (by kernel_rfl) (by kernel_rfl) (by kernel_rfl) (fun _ _ _ h => h) (by rfl) hHeld rfl ?_
                simp only [List.set_cons_succ, List.set_cons_zero]
                refine takeL 25 101 (v := ?_) rfl rfl (by kernel_rfl) (by kernel_rfl) (by kernel_rfl) (fun _ _ _ h => h) (by rfl) hHeld (fun w hSw => ?_) ?_
                rotate_left 1
                · (try dsimp only at hSw)
                  clear hSw
                  go_simp
                  try with_reducible rfl
                simp only [List.set_cons_succ, List.set_cons_zero]
                refine takeL 26 102 (v := ?_) rfl rfl (by kernel_rfl) (by kernel_rfl) (by kernel_rfl) (fun _ _ _ h => h) (by rfl) hHeld (fun w hSw => ?_) ?_
                rotate_left 1
                · (try dsimp only at hSw)
                  have e0_ := (hSw.cell (p := ⟨g, q * 3 + 0, none⟩) hgl).trans d0
                  have e1_ := (hSw.cell (p := ⟨g, q * 3 + 1, none⟩) hgl).trans d1
                  have e2_ := (hSw.cell (p := ⟨g, q * 3 + 2, none⟩) hgl).trans d2
                  simp only [Nat.add_zero] at e0_
                  clear hSw
                  go_simp
                  try with_reducible rfl
                simp only [List.set_cons_succ, List.set_cons_zero]
                refine takeM 28 104 10 rfl rfl rfl (by kernel_rfl) (by kernel_rfl) (by kernel_rfl) (fun _ _ _ h => h) (by rfl) hHeld rfl ?_
                simp only [List.set_cons_succ, List.set_cons_zero]
                refine takeM 29 105 11 rfl rfl rfl (by kernel_rfl) (by kernel_rfl) (by kernel_rfl) (fun _ _ _ h => h) (by rfl) hHeld rfl ?_
                simp only [List.set_cons_succ, List.set_cons_zero]
                refine takeL 30 106 (v := ?_) rfl rfl (by kernel_rfl) (by kernel_rfl) (by kernel_rfl) (fun _ _ _ h => h) (by rfl) hHeld (fun w hSw => ?_) ?_
                rotate_left 1
                · (try dsimp only at hSw)
                  have e0_ := hpqi
                  have e1_ := hpqd
                  clear hSw
                  go_simp
                  try with_reducible rfl
                simp only [List.set_cons_succ, List.set_cons_zero]
                have Md := M.quiet hO (Below.refl w5.heap.size w5).drew
                clear hHeld
                have hbd : Below w5.heap.size w5 w5.drew := (Below.refl _ _).drew
                generalize w5.drew = wd at *
                refine onlyL 27 rfl (by kernel_rfl) (by rfl) (fun K hK => ?_)
                go_wp2_with fail
                refine (osame_no p q (by omega) (by omega) hpq _ _ _ _ _ _ _ (sout_at HY HN (Md.out p hp).1.sat) (sout_q HQ (Md.out q hq).1.sat)).mono ?_
                rintro e w6 ⟨rfl, hb⟩
                replace M := Md.quiet hO hb
                refine hK.out _ _ (hbd.trans (hb.mono hbd.size)) (fun hHeld => ?_)
                clear hK K Md
                refine takeL 31 107 (v := ?_) rfl rfl (by kernel_rfl) (by kernel_rfl) (by kernel_rfl) (fun _ _ _ h => h) (by rfl) hHeld (fun w hSw => ?_) ?_
                rotate_left 1
                · (try dsimp only at hSw)
                  clear hSw
                  go_simp
                  try with_reducible rfl
                simp only [List.set_cons_succ, List.set_cons_zero]
                refine takeL 32 108 (v := ?_) rfl rfl (by kernel_rfl) (by kernel_rfl) (by kernel_rfl) (fun _ _ _ h => h) (by rfl) hHeld (fun w hSw => ?_) ?_
                rotate_left 1
                · (try dsimp only at hSw)
                  clear hSw
                  go_simp
                  try with_reducible rfl
                simp only [List.set_cons_succ, List.set_cons_zero]
                refine wpAnyH_done (by kernel_rfl) ?_ _
                go_wp2
                go_roundw
                case rel => exact ⟨q + 1, F2, by omega, by go_num, M⟩
                case measure => simp [intOf]; omega
            · go_wp2
              go_roundw
              case rel => exact ⟨p + 1, F, by omega, by go_num, M⟩
              case measure => simp [intOf]; omega
        · go_wp2_with fail
          refine (hO.twice F _ _ false (by rw [manyL_length]; omega) ⟨fun h => (by cases h), fun h => absurd h (many_once key P (by omega))⟩ _ M.inv).mono ?_
          rintro e w5 ⟨F2, rfl, hK⟩
          have hB := M.hB.trans (hK.off.below (fun k h => by have := M.hF k h; omega) M.hB.size)
          go_wp2_with fail
          refine (oknown hO _).mono ?_
          rintro e w6 ⟨rfl, hb⟩
          replace hB := hB.trans (hb.mono hB.size)
          go_wp2
          go_ret
          exact ⟨rfl, hB⟩
set_option maxHeartbeats 400000 in
theorem many_any (hO : OrcIs Inv) (key : BitVec 64 × BitVec 64) (P : List (List Int)) (x : Option Addr) (m cx : Nat) (hc : m ≤ cx) (w : World) (hl : LIn (· < w.heap.size) w x m P) :
    Calls Try.prog 8 #[.slice x m cx, .agg #[.int .u64 (nv key.1), .int .u64 (nv key.2)]] w fun e w' => e = .returned (.bool true) ∧ Below w.heap.size w w' := by
  by_cases h : 30 < m
  · go_enter Try.func8, Try.ntmps8
    go_wp2
    go_ret
    exact ⟨rfl, by go_grown⟩
  · exact many_in hO key P x m cx (by omega) hc w hl
end Go.Proofs.Ytfgigbecmhmidaa
