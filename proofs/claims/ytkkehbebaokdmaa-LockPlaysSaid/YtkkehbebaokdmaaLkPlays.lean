/- LockPlays' walk. -/
import Derived.Test.YtkkehbebaokdmaaLkPlaysA
namespace Go.Proofs.Ytkkehbebaokdmaa
open Go.RowKit
set_option maxRecDepth 20000
variable {Inv : (Nat → Prop) → World → Value → LSt → Prop}

set_option maxRecDepth 20000 in
set_option maxHeartbeats 8000000 in
theorem lplays_in (hO : LockIs Inv) (i : Bool) (L : List LActP) (x : Option Addr) (m c : Nat) (w : World) (hl : RowsAt 8 LActR w x m L) :
    Calls Try.prog 3 #[.bool i, .slice x m c] w fun e w' => e = .returned (.bool true) ∧ Below w.heap.size w w' := by
  have heq := eq32
  by_cases hm : 60 < m
  · have hm' : (60 : Int) < m := by omega
    go_enter Try.func3, Try.ntmps3
    go_wp2
    go_ret
    exact ⟨rfl, Below.refl _ _⟩
  go_enter Try.func3, Try.ntmps3
  go_wp2_with fail
  refine (lof hO i _).mono ?_
  rintro e w0 ⟨v, F0, rfl, hI, hF0, hB⟩
  obtain ⟨a1, rfl⟩ := hO.ptr hI
  go_wp2_with fail
  refine (rlnew i _).mono ?_
  rintro e w1 ⟨bx, G0, rfl, hR, hG0, hb⟩
  have M0 : QSt Inv w a1 bx F0 G0 ⟨i, [], []⟩ ⟨i, [], []⟩ w1 := ⟨hO.below hI hb, hR, fun k hf hg => by have := hO.lt hI k hf; have := hG0 k hg; omega, hF0, fun k hk => Nat.le_trans hB.size (hG0 k hk), hB.trans (hb.mono hB.size)⟩
  clear hI hF0 hB hR hG0 hb
  have hnew := M0.newF hO
  have bL := SBox.new w1 (.slice none 0 0) 0 0
  have hb : Below w1.heap.size w1 (w1.alloc (.cells #[.slice none 0 0, .int .u64 0, .int .u64 0] 32)) := (Below.refl _ _).alloc (Nat.le_refl _) _
  replace M0 := M0.quiet hO hb
  have L0 : Lst w F0 G0 w1.heap.size none 0 0 (0#64, 0#64) [] (w1.alloc (.cells #[.slice none 0 0, .int .u64 0, .int .u64 0] 32)) := ⟨bL, hnew.1, hnew.2.1, hnew.2.2, SIn.none _ _ _, fun h => absurd h (by omega), bytes_none, fit_none, by decide⟩
  clear bL hb hnew
  go_wp2_with fail
  generalize w1.alloc (.cells #[.slice none 0 0, .int .u64 0, .int .u64 0] 32) = W2 at *
  generalize w1.heap.size = bl at *
  go_loopw [8] (fun j wr => ∃ (k : Nat) (F G : Nat → Prop) (st : LSt) (z : Option Addr) (n cz : Nat) (t : BitVec 64 × BitVec 64) (bs : List Int), k ≤ m ∧ j = .int .i64 (k : Int) ∧ QSt Inv w a1 bx F G st st wr ∧ Lst w F G bl z n cz t bs wr ∧ st.iss.length ≤ k ∧ st.sums.length ≤ k) (fun j _ => m - (intOf j).toNat)
  case atStart => exact ⟨0, F0, G0, _, none, 0, 0, _, [], Nat.zero_le _, rfl, M0, L0, Nat.le_refl _, Nat.le_refl _⟩
  case round =>
    clear M0 L0 F0 G0
    obtain ⟨k, F, G, st, z, n, cz, t, bs, hk, rfl, M, lst, hl1, hl2⟩ := hrel
    by_cases hlt : k < m
    · obtain ⟨b, o, rfl, hbl, hrow⟩ := hl.2 (by omega)
      obtain ⟨⟨kd, key, nn, ds, by_⟩, HA⟩ : ∃ a, Hid (L.getD k default = a) := ⟨_, rfl⟩
      obtain ⟨cs, _, hcell, d, dc, rfl, bd, sd, fd⟩ := hrow k hlt
      rw [HA.out] at hcell bd sd fd
      clear HA hrow
      dsimp only at bd sd fd
      obtain ⟨nd, HD⟩ : ∃ nd, Hid (ds.length = nd) := ⟨_, rfl⟩
      rw [HD.out] at sd fd
      have hbw : b < wr.heap.size := Nat.lt_of_lt_of_le hbl M.hB.size
      have g0 : w.cell? ⟨b, o + k * 8 + 0, none⟩ = some (.int .i64 kd) := by
        have := hcell 0 _ rfl
        exact this
      have h0 := (M.hB.cell (p := ⟨b, o + k * 8 + 0, none⟩) hbl).trans g0
      have g1 : w.cell? ⟨b, o + k * 8 + 1, none⟩ = some (.int .u64 (nv key.1)) := by
        have := hcell 1 _ rfl
        exact this
      have h1 := (M.hB.cell (p := ⟨b, o + k * 8 + 1, none⟩) hbl).trans g1
      have g2 : w.cell? ⟨b, o + k * 8 + 2, none⟩ = some (.int .u64 (nv key.2)) := by
        have := hcell 2 _ rfl
        exact this
      have h2 := (M.hB.cell (p := ⟨b, o + k * 8 + 2, none⟩) hbl).trans g2
      have g3 : w.cell? ⟨b, o + k * 8 + 3, none⟩ = some (.int .u32 (nv32 nn.1)) := by
        have := hcell 3 _ rfl
        exact this
      have h3 := (M.hB.cell (p := ⟨b, o + k * 8 + 3, none⟩) hbl).trans g3
      have g4 : w.cell? ⟨b, o + k * 8 + 4, none⟩ = some (.int .u32 (nv32 nn.2.1)) := by
        have := hcell 4 _ rfl
        exact this
      have h4 := (M.hB.cell (p := ⟨b, o + k * 8 + 4, none⟩) hbl).trans g4
      have g5 : w.cell? ⟨b, o + k * 8 + 5, none⟩ = some (.int .u64 (nv nn.2.2)) := by
        have := hcell 5 _ rfl
        exact this
      have h5 := (M.hB.cell (p := ⟨b, o + k * 8 + 5, none⟩) hbl).trans g5
      have g6 : w.cell? ⟨b, o + k * 8 + 6, none⟩ = some (.slice d nd dc) := by
        have := hcell 6 _ rfl
        rw [HD.out] at this
        exact this
      have h6 := (M.hB.cell (p := ⟨b, o + k * 8 + 6, none⟩) hbl).trans g6
      have g7 : w.cell? ⟨b, o + k * 8 + 7, none⟩ = some (.int .u64 (nv by_)) := by
        have := hcell 7 _ rfl
        exact this
      have h7 := (M.hB.cell (p := ⟨b, o + k * 8 + 7, none⟩) hbl).trans g7
      rw [Nat.add_zero] at h0 g0
      clear hcell
      by_cases h100 : 100 < nd
      · have h100' : (100 : Int) < nd := by omega
        go_wp2
        go_ret
        exact ⟨rfl, M.hB⟩
      have h100' : ¬ (100 : Int) < nd := by omega
      by_cases hk1 : kd = 1
      · subst hk1
        go_wp2_with fail
        clear h0 h1 h2 h3 h4 h5 h6 h7
        have hkn := hk
        obtain ⟨t1, HT1⟩ : ∃ t1, Hid (st.sealT key nn [] ds = t1) := ⟨_, rfl⟩
        obtain ⟨bs1, HB1⟩ : ∃ bs1, Hid (st.sealB key nn ds = bs1) := ⟨_, rfl⟩
        obtain ⟨st1, HS1⟩ : ∃ st1, Hid (st.sealS ⟨key, nn, [], ds⟩ = st1) := ⟨_, rfl⟩
        have hbb := LSt.sealB_bytes st key nn bd
        have hln := sealS_len st ⟨key, nn, [], ds⟩
        rw [HB1.out] at hbb
        rw [HS1.out] at hln
        refine wp_region_held_drew (S := fun w' => Below w.heap.size w w') (by kernel_rfl) (M.hB.drew) (fun hHeld => ?_)
        refine takeM 0 64 5 rfl rfl rfl (by kernel_rfl) (by kernel_rfl) (by kernel_rfl) (fun _ _ _ h => h) (by rfl) hHeld rfl ?_
        simp only [List.set_cons_succ, List.set_cons_zero]
        refine takeM 1 65 1 rfl rfl rfl (by kernel_rfl) (by kernel_rfl) (by kernel_rfl) (fun _ _ _ h => h) (by rfl) hHeld rfl ?_
        simp only [List.set_cons_succ, List.set_cons_zero]
        refine takeM 2 66 8 rfl rfl rfl (by kernel_rfl) (by kernel_rfl) (by kernel_rfl) (fun _ _ _ h => h) (by rfl) hHeld rfl ?_
        simp only [List.set_cons_succ, List.set_cons_zero]
        refine takeL 3 67 (v := ?_) rfl rfl (by kernel_rfl) (by kernel_rfl) (by kernel_rfl) (fun _ _ _ h => h) (by rfl) hHeld (fun wz hSw => ?_) ?_
        rotate_left 1
        · (try dsimp only at hSw)
          clear hSw
          go_simp
          try with_reducible rfl
        simp only [List.set_cons_succ, List.set_cons_zero]
        refine takeL 4 68 (v := ?_) rfl rfl (by kernel_rfl) (by kernel_rfl) (by kernel_rfl) (fun _ _ _ h => h) (by rfl) hHeld (fun wz hSw => ?_) ?_
        rotate_left 1
        · (try dsimp only at hSw)
          clear hSw
          go_simp
          try with_reducible rfl
        simp only [List.set_cons_succ, List.set_cons_zero]
        refine takeL 5 69 (v := ?_) rfl rfl (by kernel_rfl) (by kernel_rfl) (by kernel_rfl) (fun _ _ _ h => h) (by rfl) hHeld (fun wz hSw => ?_) ?_
        rotate_left 1
        · (try dsimp only at hSw)
          have e0_ := (hSw.cell (p := ⟨b, o + k * 8 + 1, none⟩) hbl).trans g1
          have e1_ := (hSw.cell (p := ⟨b, o + k * 8 + 2, none⟩) hbl).trans g2
          clear hSw
          go_simp
          try with_reducible rfl
        simp only [List.set_cons_succ, List.set_cons_zero]
        refine takeM 6 70 1 rfl rfl rfl (by kernel_rfl) (by kernel_rfl) (by kernel_rfl) (fun _ _ _ h => h) (by rfl) hHeld rfl ?_
        simp only [List.set_cons_succ, List.set_cons_zero]
        refine takeM 7 71 8 rfl rfl rfl (by kernel_rfl) (by kernel_rfl) (by kernel_rfl) (fun _ _ _ h => h) (by rfl) hHeld rfl ?_
        simp only [List.set_cons_succ, List.set_cons_zero]
        refine takeL 8 72 (v := ?_) rfl rfl (by kernel_rfl) (by kernel_rfl) (by kernel_rfl) (fun _ _ _ h => h) (by rfl) hHeld (fun wz hSw => ?_) ?_
        rotate_left 1
        · (try dsimp only at hSw)
          clear hSw
          go_simp
          try with_reducible rfl
        simp only [List.set_cons_succ, List.set_cons_zero]
        refine takeL 9 73 (v := ?_) rfl rfl (by kernel_rfl) (by kernel_rfl) (by kernel_rfl) (fun _ _ _ h => h) (by rfl) hHeld (fun wz hSw => ?_) ?_
        rotate_left 1
        · (try dsimp only at hSw)
          clear hSw
          go_simp
          try with_reducible rfl
        simp only [List.set_cons_succ, List.set_cons_zero]
        refine takeL 10 74 (v := ?_) rfl rfl (by kernel_rfl) (by kernel_rfl) (by kernel_rfl) (fun _ _ _ h => h) (by rfl) hHeld (fun wz hSw => ?_) ?_
        rotate_left 1
        · (try dsimp only at hSw)
          have e0_ := (hSw.cell (p := ⟨b, o + k * 8 + 3, none⟩) hbl).trans g3
          have e1_ := (hSw.cell (p := ⟨b, o + k * 8 + 4, none⟩) hbl).trans g4
          have e2_ := (hSw.cell (p := ⟨b, o + k * 8 + 5, none⟩) hbl).trans g5
          clear hSw
          go_simp
          try with_reducible rfl
        simp only [List.set_cons_succ, List.set_cons_zero]
        refine takeM 11 75 1 rfl rfl rfl (by kernel_rfl) (by kernel_rfl) (by kernel_rfl) (fun _ _ _ h => h) (by rfl) hHeld rfl ?_
        simp only [List.set_cons_succ, List.set_cons_zero]
        refine takeM 12 76 8 rfl rfl rfl (by kernel_rfl) (by kernel_rfl) (by kernel_rfl) (fun _ _ _ h => h) (by rfl) hHeld rfl ?_
        simp only [List.set_cons_succ, List.set_cons_zero]
        refine takeL 13 77 (v := ?_) rfl rfl (by kernel_rfl) (by kernel_rfl) (by kernel_rfl) (fun _ _ _ h => h) (by rfl) hHeld (fun wz hSw => ?_) ?_
        rotate_left 1
        · (try dsimp only at hSw)
          clear hSw
          go_simp
          try with_reducible rfl
        simp only [List.set_cons_succ, List.set_cons_zero]
        refine takeL 14 78 (v := ?_) rfl rfl (by kernel_rfl) (by kernel_rfl) (by kernel_rfl) (fun _ _ _ h => h) (by rfl) hHeld (fun wz hSw => ?_) ?_
        rotate_left 1
        · (try dsimp only at hSw)
          clear hSw
          go_simp
          try with_reducible rfl
        simp only [List.set_cons_succ, List.set_cons_zero]
        refine takeL 15 79 (v := ?_) rfl rfl (by kernel_rfl) (by kernel_rfl) (by kernel_rfl) (fun _ _ _ h => h) (by rfl) hHeld (fun wz hSw => ?_) ?_
        rotate_left 1
        · (try dsimp only at hSw)
          have e0_ := (hSw.cell (p := ⟨b, o + k * 8 + 6, none⟩) hbl).trans g6
          clear hSw
          go_simp
          try with_reducible rfl
        simp only [List.set_cons_succ, List.set_cons_zero]
        have hd : Below wr.heap.size wr wr.drew := (Below.refl _ _).drew
        replace M := M.quiet hO hd
        replace lst := lst.quiet hd
        clear hd
        generalize wr.drew = wd at *
        refine share (P := ?Psharea) (Cond := fun w3 b9 z9 c9 F2 => QSt Inv w a1 bx F2 G st1 st w3 ∧ Lst w F2 G bl z n cz t bs w3 ∧ SBox w3 b9 (.slice z9 nd c9) (nv t1.1) (nv t1.2) ∧ (¬ F2 b9 ∧ ¬ G b9 ∧ w.heap.size ≤ b9) ∧ b9 ≠ bl ∧ SIn (fun k => ¬ F2 k ∧ ¬ G k) w3 z9 nd bs1) (fun fin => ?h1a) ?h2a
        case h1a =>
          refine twoL 16 20 rfl rfl (by kernel_rfl) (by rfl) (by rfl) (fun K hK => ?_) (fun K hK => ?_)
          · go_wp2_with fail
            refine (lseal_as hO F _ st key nn rfl rfl rfl rfl rfl [] ds none d 0 nd 0 dc HT1.out HB1.out HS1.out (by omega) (by omega) (by omega) bytes_none bd fit_none fd _ M.inv (SIn.none _ _ _) (M.inF sd)).mono ?_
            rintro e w2 ⟨z9, c9, F2, rfl, hK2, sz, -⟩
            replace sz := M.sz hK2 sz
            replace lst := lst.o hK2
            replace M := M.o hK2
            clear hK2
            refine hK.out _ _ M.hB (fun hHeld => ?_)
            clear hK K
            refine takeM 17 63 80 rfl rfl rfl (by kernel_rfl) (by kernel_rfl) (by kernel_rfl) (fun _ _ _ h => h) (by rfl) hHeld rfl ?_
            simp only [List.set_cons_succ, List.set_cons_zero]
            refine takeL 18 81 (v := ?_) rfl rfl (by kernel_rfl) (by kernel_rfl) (by kernel_rfl) (fun _ _ _ h => h) (by rfl) hHeld (fun wz hSw => ?_) ?_
            rotate_left 1
            · (try dsimp only at hSw)
              clear hSw
              go_simp
              try with_reducible rfl
            simp only [List.set_cons_succ, List.set_cons_zero]
            refine takeL 19 82 (v := ?_) rfl rfl (by kernel_rfl) (by kernel_rfl) (by kernel_rfl) (fun _ _ _ h => h) (by rfl) hHeld (fun wz hSw => ?_) ?_
            rotate_left 1
            · (try dsimp only at hSw)
              clear hSw
              go_simp
              try with_reducible rfl
            simp only [List.set_cons_succ, List.set_cons_zero]
            refine onlyL 20 rfl (by kernel_rfl) (by rfl) (fun K hK => ?_)
            go_wp2
            have bN := SBox.new w2 (.slice none 0 0) 0 0
            have hb9 := M.newF hO
            have hb : Below w2.heap.size w2 (w2.alloc (.cells #[.slice none 0 0, .int .u64 0, .int .u64 0] 32)) := (Below.refl _ _).alloc (Nat.le_refl _) _
            have hlb := lst.box.lt
            have hne : w2.heap.size ≠ bl := by omega
            replace M := M.quiet hO hb
            replace lst := lst.quiet hb
            replace sz := sz.off (Off.of_below (F := fun _ => False) hb) (fun _ _ _ h => h)
            clear hb hlb
            refine hK.out _ _ M.hB (fun hHeld => ?_)
            clear hK K
            generalize w2.alloc (.cells #[.slice none 0 0, .int .u64 0, .int .u64 0] 32) = w3_ at *
            generalize w2.heap.size = b9 at *
            have q0 := bN.c0
            have q1 := bN.c1
            have q2 := bN.c2
            have f0 := bN.frozen 0
            have f1 := bN.frozen 1
            have f2 := bN.frozen 2
            refine onlyL 21 rfl (by kernel_rfl) (by rfl) (fun K hK => ?_)
            go_wp2_with fail
            clear q0 q1 q2 f0 f1 f2
            have hot : Off (fun k => k = b9) w3_ (((w3_.setCell ⟨b9, 0, none⟩ (.slice z9 nd c9)).setCell ⟨b9, 1, none⟩ (.int .u64 (nv t1.1))).setCell ⟨b9, 2, none⟩ (.int .u64 (nv t1.2))) := ((((Off.refl (fun k => k = b9) w3_).setCell (p := ⟨b9, 0, none⟩) (Or.inl rfl) (.slice z9 nd c9)).setCell (p := ⟨b9, 1, none⟩) (Or.inl rfl) (.int .u64 (nv t1.1))).setCell (p := ⟨b9, 2, none⟩) (Or.inl rfl) (.int .u64 (nv t1.2)))
            have hU : U8 w3_ (((w3_.setCell ⟨b9, 0, none⟩ (.slice z9 nd c9)).setCell ⟨b9, 1, none⟩ (.int .u64 (nv t1.1))).setCell ⟨b9, 2, none⟩ (.int .u64 (nv t1.2))) := U8.of_off hot (fun k cur fr h e => by subst e; exact bN.no8 h)
            replace lst := lst.one hot hne hU
            replace M := M.one hO hot hb9
            have sz0 := sat_not bN.not8 sz.sat
            replace sz : SIn (fun k => ¬ F2 k ∧ ¬ G k) _ z9 nd bs1 := ⟨sz.1, fun hn => by
              obtain ⟨g, o, e, hlt, hg, hat⟩ := sz.2 hn
              obtain ⟨g2, o2, e2, _, hg2, _⟩ := sz0.2 hn
              rw [e] at e2
              obtain ⟨rfl, rfl⟩ : g = g2 ∧ o = o2 := by simpa using e2
              exact ⟨g, o, e, Nat.lt_of_lt_of_le hlt hot.size, hg, hat.off hot hlt hg2⟩⟩
            clear sz0
            replace bN := bN.put3 (.slice z9 nd c9) (nv t1.1) (nv t1.2)
            clear hot hU
            refine hK.out _ _ M.hB (fun hHeld => ?_)
            clear hK K
            generalize (((w3_.setCell ⟨b9, 0, none⟩ (.slice z9 nd c9)).setCell ⟨b9, 1, none⟩ (.int .u64 (nv t1.1))).setCell ⟨b9, 2, none⟩ (.int .u64 (nv t1.2))) = w4 at *
            refine takeA 22 10 82 rfl rfl rfl (by kernel_rfl) (by kernel_rfl) (by kernel_rfl) (fun _ _ _ h => h) (by rfl) hHeld rfl ?_
            simp only [List.set_cons_succ, List.set_cons_zero]
            refine wpAnyH_done (by kernel_rfl) ?_ _
            exact fin w4 b9 z9 c9 F2 ⟨M, lst, bN, hb9, hne, sz⟩
          · go_wp2
            have bN := SBox.new wd (.slice none 0 0) 0 0
            have hb9 := M.newF hO
            have hb : Below wd.heap.size wd (wd.alloc (.cells #[.slice none 0 0, .int .u64 0, .int .u64 0] 32)) := (Below.refl _ _).alloc (Nat.le_refl _) _
            have hlb := lst.box.lt
            have hne : wd.heap.size ≠ bl := by omega
            replace M := M.quiet hO hb
            replace lst := lst.quiet hb
            clear hb hlb
            refine hK.out _ _ M.hB (fun hHeld => ?_)
            clear hK K
            generalize wd.alloc (.cells #[.slice none 0 0, .int .u64 0, .int .u64 0] 32) = wc at *
            generalize wd.heap.size = b9 at *
            refine onlyL 16 rfl (by kernel_rfl) (by rfl) (fun K hK => ?_)
            go_wp2_with fail
            refine (lseal_as hO F _ st key nn rfl rfl rfl rfl rfl [] ds none d 0 nd 0 dc HT1.out HB1.out HS1.out (by omega) (by omega) (by omega) bytes_none bd fit_none fd _ M.inv (SIn.none _ _ _) (M.inF sd)).mono ?_
            rintro e w2 ⟨z9, c9, F2, rfl, hK2, sz, -⟩
            replace sz := M.sz hK2 sz
            have hb9o := hb9.1
            replace hb9 : ¬ F2 b9 ∧ ¬ G b9 ∧ w.heap.size ≤ b9 := ⟨fun e => (hK2.sub b9 e).elim hb9.1 (fun e => by have := bN.lt; omega), hb9.2⟩
            replace bN : SBox w2 b9 (.slice none 0 0) 0 0 := off_block bN hK2.off hb9o
            replace lst := lst.o hK2
            replace M := M.o hK2
            clear hK2 hb9o
            refine hK.out _ _ M.hB (fun hHeld => ?_)
            clear hK K
            refine takeM 17 63 80 rfl rfl rfl (by kernel_rfl) (by kernel_rfl) (by kernel_rfl) (fun _ _ _ h => h) (by rfl) hHeld rfl ?_
            simp only [List.set_cons_succ, List.set_cons_zero]
            refine takeL 18 81 (v := ?_) rfl rfl (by kernel_rfl) (by kernel_rfl) (by kernel_rfl) (fun _ _ _ h => h) (by rfl) hHeld (fun wz hSw => ?_) ?_
            rotate_left 1
            · (try dsimp only at hSw)
              clear hSw
              go_simp
              try with_reducible rfl
            simp only [List.set_cons_succ, List.set_cons_zero]
            refine takeL 19 82 (v := ?_) rfl rfl (by kernel_rfl) (by kernel_rfl) (by kernel_rfl) (fun _ _ _ h => h) (by rfl) hHeld (fun wz hSw => ?_) ?_
            rotate_left 1
            · (try dsimp only at hSw)
              clear hSw
              go_simp
              try with_reducible rfl
            simp only [List.set_cons_succ, List.set_cons_zero]
            generalize w2 = w3_ at *
            have q0 := bN.c0
            have q1 := bN.c1
            have q2 := bN.c2
            have f0 := bN.frozen 0
            have f1 := bN.frozen 1
            have f2 := bN.frozen 2
            refine onlyL 21 rfl (by kernel_rfl) (by rfl) (fun K hK => ?_)
            go_wp2_with fail
            clear q0 q1 q2 f0 f1 f2
            have hot : Off (fun k => k = b9) w3_ (((w3_.setCell ⟨b9, 0, none⟩ (.slice z9 nd c9)).setCell ⟨b9, 1, none⟩ (.int .u64 (nv t1.1))).setCell ⟨b9, 2, none⟩ (.int .u64 (nv t1.2))) := ((((Off.refl (fun k => k = b9) w3_).setCell (p := ⟨b9, 0, none⟩) (Or.inl rfl) (.slice z9 nd c9)).setCell (p := ⟨b9, 1, none⟩) (Or.inl rfl) (.int .u64 (nv t1.1))).setCell (p := ⟨b9, 2, none⟩) (Or.inl rfl) (.int .u64 (nv t1.2)))
            have hU : U8 w3_ (((w3_.setCell ⟨b9, 0, none⟩ (.slice z9 nd c9)).setCell ⟨b9, 1, none⟩ (.int .u64 (nv t1.1))).setCell ⟨b9, 2, none⟩ (.int .u64 (nv t1.2))) := U8.of_off hot (fun k cur fr h e => by subst e; exact bN.no8 h)
            replace lst := lst.one hot hne hU
            replace M := M.one hO hot hb9
            have sz0 := sat_not bN.not8 sz.sat
            replace sz : SIn (fun k => ¬ F2 k ∧ ¬ G k) _ z9 nd bs1 := ⟨sz.1, fun hn => by
              obtain ⟨g, o, e, hlt, hg, hat⟩ := sz.2 hn
              obtain ⟨g2, o2, e2, _, hg2, _⟩ := sz0.2 hn
              rw [e] at e2
              obtain ⟨rfl, rfl⟩ : g = g2 ∧ o = o2 := by simpa using e2
              exact ⟨g, o, e, Nat.lt_of_lt_of_le hlt hot.size, hg, hat.off hot hlt hg2⟩⟩
            clear sz0
            replace bN := bN.put3 (.slice z9 nd c9) (nv t1.1) (nv t1.2)
            clear hot hU
            refine hK.out _ _ M.hB (fun hHeld => ?_)
            clear hK K
            generalize (((w3_.setCell ⟨b9, 0, none⟩ (.slice z9 nd c9)).setCell ⟨b9, 1, none⟩ (.int .u64 (nv t1.1))).setCell ⟨b9, 2, none⟩ (.int .u64 (nv t1.2))) = w4 at *
            refine takeA 22 10 82 rfl rfl rfl (by kernel_rfl) (by kernel_rfl) (by kernel_rfl) (fun _ _ _ h => h) (by rfl) hHeld rfl ?_
            simp only [List.set_cons_succ, List.set_cons_zero]
            refine wpAnyH_done (by kernel_rfl) ?_ _
            exact fin w4 b9 z9 c9 F2 ⟨M, lst, bN, hb9, hne, sz⟩
        case h2a =>
          intro w3 b9 z9 c9 F2 ⟨M, lst, bS, hb9, hne9, sz⟩
          clear hkn
          go_wp2_with fail
          refine wp_region_held_drew (S := fun w' => Below w.heap.size w w') (by kernel_rfl) (M.hB.drew) (fun hHeld => ?_)
          refine takeM 0 84 6 rfl rfl rfl (by kernel_rfl) (by kernel_rfl) (by kernel_rfl) (fun _ _ _ h => h) (by rfl) hHeld rfl ?_
          simp only [List.set_cons_succ, List.set_cons_zero]
          refine takeM 1 85 1 rfl rfl rfl (by kernel_rfl) (by kernel_rfl) (by kernel_rfl) (fun _ _ _ h => h) (by rfl) hHeld rfl ?_
          simp only [List.set_cons_succ, List.set_cons_zero]
          refine takeM 2 86 8 rfl rfl rfl (by kernel_rfl) (by kernel_rfl) (by kernel_rfl) (fun _ _ _ h => h) (by rfl) hHeld rfl ?_
          simp only [List.set_cons_succ, List.set_cons_zero]
          refine takeL 3 87 (v := ?_) rfl rfl (by kernel_rfl) (by kernel_rfl) (by kernel_rfl) (fun _ _ _ h => h) (by rfl) hHeld (fun wz hSw => ?_) ?_
          rotate_left 1
          · (try dsimp only at hSw)
            clear hSw
            go_simp
            try with_reducible rfl
          simp only [List.set_cons_succ, List.set_cons_zero]
          refine takeL 4 88 (v := ?_) rfl rfl (by kernel_rfl) (by kernel_rfl) (by kernel_rfl) (fun _ _ _ h => h) (by rfl) hHeld (fun wz hSw => ?_) ?_
          rotate_left 1
          · (try dsimp only at hSw)
            clear hSw
            go_simp
            try with_reducible rfl
          simp only [List.set_cons_succ, List.set_cons_zero]
          refine takeL 5 89 (v := ?_) rfl rfl (by kernel_rfl) (by kernel_rfl) (by kernel_rfl) (fun _ _ _ h => h) (by rfl) hHeld (fun wz hSw => ?_) ?_
          rotate_left 1
          · (try dsimp only at hSw)
            have e0_ := (hSw.cell (p := ⟨b, o + k * 8 + 1, none⟩) hbl).trans g1
            have e1_ := (hSw.cell (p := ⟨b, o + k * 8 + 2, none⟩) hbl).trans g2
            clear hSw
            go_simp
            try with_reducible rfl
          simp only [List.set_cons_succ, List.set_cons_zero]
          refine takeM 6 90 1 rfl rfl rfl (by kernel_rfl) (by kernel_rfl) (by kernel_rfl) (fun _ _ _ h => h) (by rfl) hHeld rfl ?_
          simp only [List.set_cons_succ, List.set_cons_zero]
          refine takeM 7 91 8 rfl rfl rfl (by kernel_rfl) (by kernel_rfl) (by kernel_rfl) (fun _ _ _ h => h) (by rfl) hHeld rfl ?_
          simp only [List.set_cons_succ, List.set_cons_zero]
          refine takeL 8 92 (v := ?_) rfl rfl (by kernel_rfl) (by kernel_rfl) (by kernel_rfl) (fun _ _ _ h => h) (by rfl) hHeld (fun wz hSw => ?_) ?_
          rotate_left 1
          · (try dsimp only at hSw)
            clear hSw
            go_simp
            try with_reducible rfl
          simp only [List.set_cons_succ, List.set_cons_zero]
          refine takeL 9 93 (v := ?_) rfl rfl (by kernel_rfl) (by kernel_rfl) (by kernel_rfl) (fun _ _ _ h => h) (by rfl) hHeld (fun wz hSw => ?_) ?_
          rotate_left 1
          · (try dsimp only at hSw)
            clear hSw
            go_simp
            try with_reducible rfl
          simp only [List.set_cons_succ, List.set_cons_zero]
          refine takeL 10 94 (v := ?_) rfl rfl (by kernel_rfl) (by kernel_rfl) (by kernel_rfl) (fun _ _ _ h => h) (by rfl) hHeld (fun wz hSw => ?_) ?_
          rotate_left 1
          · (try dsimp only at hSw)
            have e0_ := (hSw.cell (p := ⟨b, o + k * 8 + 3, none⟩) hbl).trans g3
            have e1_ := (hSw.cell (p := ⟨b, o + k * 8 + 4, none⟩) hbl).trans g4
            have e2_ := (hSw.cell (p := ⟨b, o + k * 8 + 5, none⟩) hbl).trans g5
            clear hSw
            go_simp
            try with_reducible rfl
          simp only [List.set_cons_succ, List.set_cons_zero]
          refine takeM 11 95 1 rfl rfl rfl (by kernel_rfl) (by kernel_rfl) (by kernel_rfl) (fun _ _ _ h => h) (by rfl) hHeld rfl ?_
          simp only [List.set_cons_succ, List.set_cons_zero]
          refine takeM 12 96 8 rfl rfl rfl (by kernel_rfl) (by kernel_rfl) (by kernel_rfl) (fun _ _ _ h => h) (by rfl) hHeld rfl ?_
          simp only [List.set_cons_succ, List.set_cons_zero]
          refine takeL 13 97 (v := ?_) rfl rfl (by kernel_rfl) (by kernel_rfl) (by kernel_rfl) (fun _ _ _ h => h) (by rfl) hHeld (fun wz hSw => ?_) ?_
          rotate_left 1
          · (try dsimp only at hSw)
            clear hSw
            go_simp
            try with_reducible rfl
          simp only [List.set_cons_succ, List.set_cons_zero]
          refine takeL 14 98 (v := ?_) rfl rfl (by kernel_rfl) (by kernel_rfl) (by kernel_rfl) (fun _ _ _ h => h) (by rfl) hHeld (fun wz hSw => ?_) ?_
          rotate_left 1
          · (try dsimp only at hSw)
            clear hSw
            go_simp
            try with_reducible rfl
          simp only [List.set_cons_succ, List.set_cons_zero]
          refine takeL 15 99 (v := ?_) rfl rfl (by kernel_rfl) (by kernel_rfl) (by kernel_rfl) (fun _ _ _ h => h) (by rfl) hHeld (fun wz hSw => ?_) ?_
          rotate_left 1
          · (try dsimp only at hSw)
            have e0_ := (hSw.cell (p := ⟨b, o + k * 8 + 6, none⟩) hbl).trans g6
            clear hSw
            go_simp
            try with_reducible rfl
          simp only [List.set_cons_succ, List.set_cons_zero]
          have hd : Below w3.heap.size w3 w3.drew := (Below.refl _ _).drew
          replace M := M.quiet hO hd
          replace lst := lst.quiet hd
          replace bS := bS.grown hd
          replace sz := sz.off (Off.of_below (F := fun _ => False) hd) (fun _ _ _ h => h)
          clear hd
          generalize w3.drew = wd at *
          refine share (P := ?Psharex) (Cond := fun w5 b11 z11 c11 G2 => QSt Inv w a1 bx F2 G2 st1 st1 w5 ∧ Lst w F2 G2 bl z n cz t bs w5 ∧ SBox w5 b11 (.slice z11 nd c11) (nv t1.1) (nv t1.2) ∧ (¬ F2 b11 ∧ ¬ G2 b11 ∧ w.heap.size ≤ b11) ∧ b11 ≠ bl ∧ SBox w5 b9 (.slice z9 nd c9) (nv t1.1) (nv t1.2) ∧ SAt w5 z9 nd bs1 ∧ SIn (fun k => ¬ F2 k) w5 z11 nd bs1 ∧ Typ8 w.heap.size w5 z11 nd ∧ Fit z11 nd c11) (fun fin => ?h1x) ?h2x
          case h1x =>
            refine twoL 16 20 rfl rfl (by kernel_rfl) (by rfl) (by rfl) (fun K hK => ?_) (fun K hK => ?_)
            · go_wp2_with fail
              refine (rlseal_at G bx st key nn rfl rfl rfl rfl rfl [] ds none d 0 nd 0 dc HT1.out HB1.out HS1.out (by omega) (by omega) (by omega) bytes_none bd fit_none fd _ M.rin (SIn.none _ _ _) (M.inG sd)).mono ?_
              rintro e w2 ⟨z11, c11, G2, rfl, hR, hsub, hoff, sy, fy, hU, hT8⟩
              have sy2 := typ8_new hT8 sy (hO.lt M.inv)
              replace hT8 := hT8.mono M.hB.size
              replace lst := lst.x hsub hoff hU
              replace bS : SBox w2 b9 (.slice z9 nd c9) (nv t1.1) (nv t1.2) := off_block bS hoff hb9.2.1
              replace sz := (sz.off hoff (fun _ _ h => h.2)).mono (G' := fun k => ¬ F2 k) (fun _ _ h => h.1)
              replace M := M.x hO hR hsub hoff
              clear hR hsub hoff hU sy
              refine hK.out _ _ M.hB (fun hHeld => ?_)
              clear hK K
              refine takeM 17 83 100 rfl rfl rfl (by kernel_rfl) (by kernel_rfl) (by kernel_rfl) (fun _ _ _ h => h) (by rfl) hHeld rfl ?_
              simp only [List.set_cons_succ, List.set_cons_zero]
              refine takeL 18 101 (v := ?_) rfl rfl (by kernel_rfl) (by kernel_rfl) (by kernel_rfl) (fun _ _ _ h => h) (by rfl) hHeld (fun wz hSw => ?_) ?_
              rotate_left 1
              · (try dsimp only at hSw)
                clear hSw
                go_simp
                try with_reducible rfl
              simp only [List.set_cons_succ, List.set_cons_zero]
              refine takeL 19 102 (v := ?_) rfl rfl (by kernel_rfl) (by kernel_rfl) (by kernel_rfl) (fun _ _ _ h => h) (by rfl) hHeld (fun wz hSw => ?_) ?_
              rotate_left 1
              · (try dsimp only at hSw)
                clear hSw
                go_simp
                try with_reducible rfl
              simp only [List.set_cons_succ, List.set_cons_zero]
              refine onlyL 20 rfl (by kernel_rfl) (by rfl) (fun K hK => ?_)
              go_wp2
              have bN := SBox.new w2 (.slice none 0 0) 0 0
              have hb11 := M.newF hO
              have hb : Below w2.heap.size w2 (w2.alloc (.cells #[.slice none 0 0, .int .u64 0, .int .u64 0] 32)) := (Below.refl _ _).alloc (Nat.le_refl _) _
              have hlb := lst.box.lt
              have hne : w2.heap.size ≠ bl := by omega
              have nb9 : w2.heap.size ≠ b9 := by have := bS.lt; omega
              replace M := M.quiet hO hb
              replace lst := lst.quiet hb
              replace bS := bS.grown hb
              replace sz := sz.off (Off.of_below (F := fun _ => False) hb) (fun _ _ _ h => h)
              replace sy2 := sy2.off (Off.of_below (F := fun _ => False) hb) (fun _ _ _ h => h)
              replace hT8 := hT8.stay (U8.of_below hb)
              clear hb hlb
              refine hK.out _ _ M.hB (fun hHeld => ?_)
              clear hK K
              generalize w2.alloc (.cells #[.slice none 0 0, .int .u64 0, .int .u64 0] 32) = w3_ at *
              generalize w2.heap.size = b11 at *
              have q0 := bN.c0
              have q1 := bN.c1
              have q2 := bN.c2
              have f0 := bN.frozen 0
              have f1 := bN.frozen 1
              have f2 := bN.frozen 2
              refine onlyL 21 rfl (by kernel_rfl) (by rfl) (fun K hK => ?_)
              go_wp2_with fail
              clear q0 q1 q2 f0 f1 f2
              have hot : Off (fun k => k = b11) w3_ (((w3_.setCell ⟨b11, 0, none⟩ (.slice z11 nd c11)).setCell ⟨b11, 1, none⟩ (.int .u64 (nv t1.1))).setCell ⟨b11, 2, none⟩ (.int .u64 (nv t1.2))) := ((((Off.refl (fun k => k = b11) w3_).setCell (p := ⟨b11, 0, none⟩) (Or.inl rfl) (.slice z11 nd c11)).setCell (p := ⟨b11, 1, none⟩) (Or.inl rfl) (.int .u64 (nv t1.1))).setCell (p := ⟨b11, 2, none⟩) (Or.inl rfl) (.int .u64 (nv t1.2)))
              have hU : U8 w3_ (((w3_.setCell ⟨b11, 0, none⟩ (.slice z11 nd c11)).setCell ⟨b11, 1, none⟩ (.int .u64 (nv t1.1))).setCell ⟨b11, 2, none⟩ (.int .u64 (nv t1.2))) := U8.of_off hot (fun k cur fr h e => by subst e; exact bN.no8 h)
              replace lst := lst.one hot hne hU
              replace M := M.one hO hot hb11
              replace sz : SAt _ z9 nd bs1 := ((sat_not bN.not8 sz.sat).off hot (fun k _ h e => h e)).sat
              replace sy2 := hT8.sin sy2 hU hot.size
              replace hT8 := hT8.stay hU
              replace bS : SBox _ b9 (.slice z9 nd c9) (nv t1.1) (nv t1.2) := off_block bS hot (fun e => nb9 e.symm)
              replace bN := bN.put3 (.slice z11 nd c11) (nv t1.1) (nv t1.2)
              clear hot hU
              refine hK.out _ _ M.hB (fun hHeld => ?_)
              clear hK K
              generalize (((w3_.setCell ⟨b11, 0, none⟩ (.slice z11 nd c11)).setCell ⟨b11, 1, none⟩ (.int .u64 (nv t1.1))).setCell ⟨b11, 2, none⟩ (.int .u64 (nv t1.2))) = w4 at *
              refine takeA 22 12 102 rfl rfl rfl (by kernel_rfl) (by kernel_rfl) (by kernel_rfl) (fun _ _ _ h => h) (by rfl) hHeld rfl ?_
              simp only [List.set_cons_succ, List.set_cons_zero]
              refine wpAnyH_done (by kernel_rfl) ?_ _
              exact fin w4 b11 z11 c11 G2 ⟨M, lst, bN, hb11, hne, bS, sz, sy2, hT8, fy⟩
            · go_wp2
              have bN := SBox.new wd (.slice none 0 0) 0 0
              have hb11 := M.newF hO
              have hb : Below wd.heap.size wd (wd.alloc (.cells #[.slice none 0 0, .int .u64 0, .int .u64 0] 32)) := (Below.refl _ _).alloc (Nat.le_refl _) _
              have hlb := lst.box.lt
              have hne : wd.heap.size ≠ bl := by omega
              have nb9 : wd.heap.size ≠ b9 := by have := bS.lt; omega
              replace M := M.quiet hO hb
              replace lst := lst.quiet hb
              replace bS := bS.grown hb
              replace sz := sz.off (Off.of_below (F := fun _ => False) hb) (fun _ _ _ h => h)
              clear hb hlb
              refine hK.out _ _ M.hB (fun hHeld => ?_)
              clear hK K
              generalize wd.alloc (.cells #[.slice none 0 0, .int .u64 0, .int .u64 0] 32) = wc at *
              generalize wd.heap.size = b11 at *
              refine onlyL 16 rfl (by kernel_rfl) (by rfl) (fun K hK => ?_)
              go_wp2_with fail
              refine (rlseal_at G bx st key nn rfl rfl rfl rfl rfl [] ds none d 0 nd 0 dc HT1.out HB1.out HS1.out (by omega) (by omega) (by omega) bytes_none bd fit_none fd _ M.rin (SIn.none _ _ _) (M.inG sd)).mono ?_
              rintro e w2 ⟨z11, c11, G2, rfl, hR, hsub, hoff, sy, fy, hU, hT8⟩
              have sy2 := typ8_new hT8 sy (hO.lt M.inv)
              replace hT8 := hT8.mono M.hB.size
              have hb11o := hb11.2.1
              replace hb11 : ¬ F2 b11 ∧ ¬ G2 b11 ∧ w.heap.size ≤ b11 := ⟨hb11.1, fun e => (hsub b11 e).elim hb11.2.1 (fun e => by have := bN.lt; omega), hb11.2.2⟩
              replace bN : SBox w2 b11 (.slice none 0 0) 0 0 := off_block bN hoff hb11o
              replace lst := lst.x hsub hoff hU
              replace bS : SBox w2 b9 (.slice z9 nd c9) (nv t1.1) (nv t1.2) := off_block bS hoff hb9.2.1
              replace sz := (sz.off hoff (fun _ _ h => h.2)).mono (G' := fun k => ¬ F2 k) (fun _ _ h => h.1)
              replace M := M.x hO hR hsub hoff
              clear hR hsub hoff hU sy hb11o
              refine hK.out _ _ M.hB (fun hHeld => ?_)
              clear hK K
              refine takeM 17 83 100 rfl rfl rfl (by kernel_rfl) (by kernel_rfl) (by kernel_rfl) (fun _ _ _ h => h) (by rfl) hHeld rfl ?_
              simp only [List.set_cons_succ, List.set_cons_zero]
              refine takeL 18 101 (v := ?_) rfl rfl (by kernel_rfl) (by kernel_rfl) (by kernel_rfl) (fun _ _ _ h => h) (by rfl) hHeld (fun wz hSw => ?_) ?_
              rotate_left 1
              · (try dsimp only at hSw)
                clear hSw
                go_simp
                try with_reducible rfl
              simp only [List.set_cons_succ, List.set_cons_zero]
              refine takeL 19 102 (v := ?_) rfl rfl (by kernel_rfl) (by kernel_rfl) (by kernel_rfl) (fun _ _ _ h => h) (by rfl) hHeld (fun wz hSw => ?_) ?_
              rotate_left 1
              · (try dsimp only at hSw)
                clear hSw
                go_simp
                try with_reducible rfl
              simp only [List.set_cons_succ, List.set_cons_zero]
              generalize w2 = w3_ at *
              have q0 := bN.c0
              have q1 := bN.c1
              have q2 := bN.c2
              have f0 := bN.frozen 0
              have f1 := bN.frozen 1
              have f2 := bN.frozen 2
              refine onlyL 21 rfl (by kernel_rfl) (by rfl) (fun K hK => ?_)
              go_wp2_with fail
              clear q0 q1 q2 f0 f1 f2
              have hot : Off (fun k => k = b11) w3_ (((w3_.setCell ⟨b11, 0, none⟩ (.slice z11 nd c11)).setCell ⟨b11, 1, none⟩ (.int .u64 (nv t1.1))).setCell ⟨b11, 2, none⟩ (.int .u64 (nv t1.2))) := ((((Off.refl (fun k => k = b11) w3_).setCell (p := ⟨b11, 0, none⟩) (Or.inl rfl) (.slice z11 nd c11)).setCell (p := ⟨b11, 1, none⟩) (Or.inl rfl) (.int .u64 (nv t1.1))).setCell (p := ⟨b11, 2, none⟩) (Or.inl rfl) (.int .u64 (nv t1.2)))
              have hU : U8 w3_ (((w3_.setCell ⟨b11, 0, none⟩ (.slice z11 nd c11)).setCell ⟨b11, 1, none⟩ (.int .u64 (nv t1.1))).setCell ⟨b11, 2, none⟩ (.int .u64 (nv t1.2))) := U8.of_off hot (fun k cur fr h e => by subst e; exact bN.no8 h)
              replace lst := lst.one hot hne hU
              replace M := M.one hO hot hb11
              replace sz : SAt _ z9 nd bs1 := ((sat_not bN.not8 sz.sat).off hot (fun k _ h e => h e)).sat
              replace sy2 := hT8.sin sy2 hU hot.size
              replace hT8 := hT8.stay hU
              replace bS : SBox _ b9 (.slice z9 nd c9) (nv t1.1) (nv t1.2) := off_block bS hot (fun e => nb9 e.symm)
              replace bN := bN.put3 (.slice z11 nd c11) (nv t1.1) (nv t1.2)
              clear hot hU
              refine hK.out _ _ M.hB (fun hHeld => ?_)
              clear hK K
              generalize (((w3_.setCell ⟨b11, 0, none⟩ (.slice z11 nd c11)).setCell ⟨b11, 1, none⟩ (.int .u64 (nv t1.1))).setCell ⟨b11, 2, none⟩ (.int .u64 (nv t1.2))) = w4 at *
              refine takeA 22 12 102 rfl rfl rfl (by kernel_rfl) (by kernel_rfl) (by kernel_rfl) (fun _ _ _ h => h) (by rfl) hHeld rfl ?_
              simp only [List.set_cons_succ, List.set_cons_zero]
              refine wpAnyH_done (by kernel_rfl) ?_ _
              exact fin w4 b11 z11 c11 G2 ⟨M, lst, bN, hb11, hne, bS, sz, sy2, hT8, fy⟩
          case h2x =>
            intro w5 b11 z11 c11 G2 ⟨M, lst, bT, hb11, hne11, bS, s9, s11, hT8, fy⟩
            have q0 := bS.c0
            have q1 := bS.c1
            have q2 := bS.c2
            have q3 := bT.c0
            have q4 := bT.c1
            have q5 := bT.c2
            go_wp2_with fail
            clear q0 q1 q2 q3 q4 q5
            refine (rsame_self t1 bs1 z9 z11 nd c9 c11 hbb _ s9 s11.sat).mono ?_
            rintro e w6 ⟨rfl, hb⟩
            replace M := M.quiet hO hb
            replace lst := lst.quiet hb
            replace bT := bT.grown hb
            replace s11 := s11.off (Off.of_below (F := fun _ => False) hb) (fun _ _ _ h => h)
            replace hT8 := hT8.stay (U8.of_below hb)
            clear hb s9 bS
            have q3 := bT.c0
            have q4 := bT.c1
            have q5 := bT.c2
            have q0 := lst.box.c0
            have q1 := lst.box.c1
            have q2 := lst.box.c2
            have f0 := lst.box.frozen 0
            have f1 := lst.box.frozen 1
            have f2 := lst.box.frozen 2
            go_wp2
            clear q0 q1 q2 q3 q4 q5 f0 f1 f2
            have hot : Off (fun k => k = bl) w6 (((w6.setCell ⟨bl, 0, none⟩ (.slice z11 nd c11)).setCell ⟨bl, 1, none⟩ (.int .u64 (nv t1.1))).setCell ⟨bl, 2, none⟩ (.int .u64 (nv t1.2))) := ((((Off.refl (fun k => k = bl) w6).setCell (p := ⟨bl, 0, none⟩) (Or.inl rfl) (.slice z11 nd c11)).setCell (p := ⟨bl, 1, none⟩) (Or.inl rfl) (.int .u64 (nv t1.1))).setCell (p := ⟨bl, 2, none⟩) (Or.inl rfl) (.int .u64 (nv t1.2)))
            have hU : U8 w6 (((w6.setCell ⟨bl, 0, none⟩ (.slice z11 nd c11)).setCell ⟨bl, 1, none⟩ (.int .u64 (nv t1.1))).setCell ⟨bl, 2, none⟩ (.int .u64 (nv t1.2))) := U8.of_off hot (fun k cur fr h e => by subst e; exact lst.box.no8 h)
            replace M := M.one hO hot ⟨lst.nF, lst.nG, lst.ge⟩
            have lst2 : Lst w F2 G2 bl z11 nd c11 t1 bs1 _ := ⟨lst.box.put3 (.slice z11 nd c11) (nv t1.1) (nv t1.2), lst.nF, lst.nG, lst.ge, hT8.sin s11 hU hot.size, hT8.stay hU, hbb, fy, by omega⟩
            clear hot hU lst
            go_roundw
            case rel => exact ⟨k + 1, F2, G2, st1, z11, nd, c11, t1, bs1, by omega, by go_num, M, lst2, by omega, by rw [hln.2]; omega⟩
            case measure => simp [intOf]; omega
      by_cases hk2 : kd = 2
      · subst hk2
        go_wp2_with fail
        have hx := nv_xor t.2 by_
        obtain ⟨y2, HY⟩ : ∃ y2, Hid (t.2 ^^^ by_ = y2) := ⟨_, rfl⟩
        rw [HY.out] at hx
        refine wp_region_held_drew (S := fun w' => Below wr.heap.size wr w') (by kernel_rfl) ((Below.refl _ _).drew) (fun hHeld => ?_)
        refine takeL 0 115 (v := ?_) rfl rfl (by kernel_rfl) (by kernel_rfl) (by kernel_rfl) (fun _ _ _ h => h) (by rfl) hHeld (fun wz hSw => ?_) ?_
        rotate_left 1
        · (try dsimp only at hSw)
          clear hSw
          go_simp
          try with_reducible rfl
        simp only [List.set_cons_succ, List.set_cons_zero]
        refine takeL 1 116 (v := ?_) rfl rfl (by kernel_rfl) (by kernel_rfl) (by kernel_rfl) (fun _ _ _ h => h) (by rfl) hHeld (fun wz hSw => ?_) ?_
        rotate_left 1
        · (try dsimp only at hSw)
          have hx_ := lst.box.grown hSw
          have e0_ := hx_.c0
          clear hx_
          clear hSw
          go_simp
          try with_reducible rfl
        simp only [List.set_cons_succ, List.set_cons_zero]
        refine takeL 2 117 (v := ?_) rfl rfl (by kernel_rfl) (by kernel_rfl) (by kernel_rfl) (fun _ _ _ h => h) (by rfl) hHeld (fun wz hSw => ?_) ?_
        rotate_left 1
        · (try dsimp only at hSw)
          clear hSw
          go_simp
          try with_reducible rfl
        simp only [List.set_cons_succ, List.set_cons_zero]
        refine takeL 3 118 (v := ?_) rfl rfl (by kernel_rfl) (by kernel_rfl) (by kernel_rfl) (fun _ _ _ h => h) (by rfl) hHeld (fun wz hSw => ?_) ?_
        rotate_left 1
        · (try dsimp only at hSw)
          clear hSw
          go_simp
          try with_reducible rfl
        simp only [List.set_cons_succ, List.set_cons_zero]
        refine takeL 4 119 (v := ?_) rfl rfl (by kernel_rfl) (by kernel_rfl) (by kernel_rfl) (fun _ _ _ h => h) (by rfl) hHeld (fun wz hSw => ?_) ?_
        rotate_left 1
        · (try dsimp only at hSw)
          have hx_ := lst.box.grown hSw
          have e1_ := hx_.c1
          clear hx_
          clear hSw
          go_simp
          try with_reducible rfl
        simp only [List.set_cons_succ, List.set_cons_zero]
        refine takeL 5 120 (v := ?_) rfl rfl (by kernel_rfl) (by kernel_rfl) (by kernel_rfl) (fun _ _ _ h => h) (by rfl) hHeld (fun wz hSw => ?_) ?_
        rotate_left 1
        · (try dsimp only at hSw)
          clear hSw
          go_simp
          try with_reducible rfl
        simp only [List.set_cons_succ, List.set_cons_zero]
        refine takeL 6 121 (v := ?_) rfl rfl (by kernel_rfl) (by kernel_rfl) (by kernel_rfl) (fun _ _ _ h => h) (by rfl) hHeld (fun wz hSw => ?_) ?_
        rotate_left 1
        · (try dsimp only at hSw)
          clear hSw
          go_simp
          try with_reducible rfl
        simp only [List.set_cons_succ, List.set_cons_zero]
        refine takeL 7 122 (v := ?_) rfl rfl (by kernel_rfl) (by kernel_rfl) (by kernel_rfl) (fun _ _ _ h => h) (by rfl) hHeld (fun wz hSw => ?_) ?_
        rotate_left 1
        · (try dsimp only at hSw)
          have hx_ := lst.box.grown hSw
          have e2_ := hx_.c2
          clear hx_
          clear hSw
          go_simp
          try with_reducible rfl
        simp only [List.set_cons_succ, List.set_cons_zero]
        refine takeM 8 123 1 rfl rfl rfl (by kernel_rfl) (by kernel_rfl) (by kernel_rfl) (fun _ _ _ h => h) (by rfl) hHeld rfl ?_
        simp only [List.set_cons_succ, List.set_cons_zero]
        refine takeM 9 124 8 rfl rfl rfl (by kernel_rfl) (by kernel_rfl) (by kernel_rfl) (fun _ _ _ h => h) (by rfl) hHeld rfl ?_
        simp only [List.set_cons_succ, List.set_cons_zero]
        refine takeL 10 125 (v := ?_) rfl rfl (by kernel_rfl) (by kernel_rfl) (by kernel_rfl) (fun _ _ _ h => h) (by rfl) hHeld (fun wz hSw => ?_) ?_
        rotate_left 1
        · (try dsimp only at hSw)
          clear hSw
          go_simp
          try with_reducible rfl
        simp only [List.set_cons_succ, List.set_cons_zero]
        refine takeL 11 126 (v := ?_) rfl rfl (by kernel_rfl) (by kernel_rfl) (by kernel_rfl) (fun _ _ _ h => h) (by rfl) hHeld (fun wz hSw => ?_) ?_
        rotate_left 1
        · (try dsimp only at hSw)
          clear hSw
          go_simp
          try with_reducible rfl
        simp only [List.set_cons_succ, List.set_cons_zero]
        refine takeL 12 127 (v := ?_) rfl rfl (by kernel_rfl) (by kernel_rfl) (by kernel_rfl) (fun _ _ _ h => h) (by rfl) hHeld (fun wz hSw => ?_) ?_
        rotate_left 1
        · (try dsimp only at hSw)
          have e0_ := (hSw.cell (p := ⟨b, o + k * 8 + 7, none⟩) hbw).trans h7
          clear hSw
          go_simp
          try with_reducible rfl
        simp only [List.set_cons_succ, List.set_cons_zero]
        refine takeL 13 128 (v := ?_) rfl rfl (by kernel_rfl) (by kernel_rfl) (by kernel_rfl) (fun _ _ _ h => h) (by rfl) hHeld (fun wz hSw => ?_) ?_
        rotate_left 1
        · (try dsimp only at hSw)
          clear hSw
          go_simp
          try with_reducible rfl
        simp only [List.set_cons_succ, List.set_cons_zero]
        refine takeL 14 129 (v := ?_) rfl rfl (by kernel_rfl) (by kernel_rfl) (by kernel_rfl) (fun _ _ _ h => h) (by rfl) hHeld (fun wz hSw => ?_) ?_
        rotate_left 1
        · (try dsimp only at hSw)
          clear hSw
          go_simp
          try with_reducible rfl
        simp only [List.set_cons_succ, List.set_cons_zero]
        refine takeL 15 130 (v := ?_) rfl rfl (by kernel_rfl) (by kernel_rfl) (by kernel_rfl) (fun _ _ _ h => h) (by rfl) hHeld (fun wz hSw => ?_) ?_
        rotate_left 1
        · (try dsimp only at hSw)
          clear hSw
          go_simp
          try with_reducible rfl
        simp only [List.set_cons_succ, List.set_cons_zero]
        have hd : Below wr.heap.size wr wr.drew := (Below.refl _ _).drew
        replace M := M.quiet hO hd
        replace lst := lst.quiet hd
        generalize wr.drew = wd at *
        clear hHeld
        refine onlyL 16 rfl (by kernel_rfl) (by rfl) (fun K hK => ?_)
        go_wp2
        have bS := SBox.new wd (.slice none 0 0) 0 0
        have hbS := M.newF hO
        have hb : Below wd.heap.size wd (wd.alloc (.cells #[.slice none 0 0, .int .u64 0, .int .u64 0] 32)) := (Below.refl _ _).alloc (Nat.le_refl _) _
        have hne : wd.heap.size ≠ bl := by have := lst.box.lt; omega
        have hzd := hd.size
        replace M := M.quiet hO hb
        replace lst := lst.quiet hb
        replace hd := hd.trans (hb.mono hd.size)
        clear hb
        refine hK.out _ _ hd (fun hHeld => ?_)
        clear hK K hHeld
        generalize wd.alloc (.cells #[.slice none 0 0, .int .u64 0, .int .u64 0] 32) = w2 at *
        generalize wd.heap.size = b13 at *
        have q0 := bS.c0
        have q1 := bS.c1
        have q2 := bS.c2
        have f0 := bS.frozen 0
        have f1 := bS.frozen 1
        have f2 := bS.frozen 2
        refine onlyL 17 rfl (by kernel_rfl) (by rfl) (fun K hK => ?_)
        go_wp2_with fail
        clear q0 q1 q2 f0 f1 f2
        have hot : Off (fun k => k = b13) w2 (((w2.setCell ⟨b13, 0, none⟩ (.slice z n cz)).setCell ⟨b13, 1, none⟩ (.int .u64 (nv t.1))).setCell ⟨b13, 2, none⟩ (.int .u64 (nv y2))) := ((((Off.refl (fun k => k = b13) w2).setCell (p := ⟨b13, 0, none⟩) (Or.inl rfl) (.slice z n cz)).setCell (p := ⟨b13, 1, none⟩) (Or.inl rfl) (.int .u64 (nv t.1))).setCell (p := ⟨b13, 2, none⟩) (Or.inl rfl) (.int .u64 (nv y2)))
        have hU : U8 w2 (((w2.setCell ⟨b13, 0, none⟩ (.slice z n cz)).setCell ⟨b13, 1, none⟩ (.int .u64 (nv t.1))).setCell ⟨b13, 2, none⟩ (.int .u64 (nv y2))) := U8.of_off hot (fun k cur fr h e => by subst e; exact bS.no8 h)
        replace lst := lst.one hot hne hU
        replace M := M.one hO hot hbS
        replace hd := hd.trans (hot.below (fun k e => by omega) hd.size)
        replace bS := bS.put3 (.slice z n cz) (nv t.1) (nv y2)
        clear hot hU
        refine hK.out _ _ hd (fun _ => ?_)
        clear hK K hd
        generalize (((w2.setCell ⟨b13, 0, none⟩ (.slice z n cz)).setCell ⟨b13, 1, none⟩ (.int .u64 (nv t.1))).setCell ⟨b13, 2, none⟩ (.int .u64 (nv y2))) = w3 at *
        refine wpAnyH_done (by kernel_rfl) ?_ _
        clear hzd h0 h1 h2 h3 h4 h5 h6 h7
        go_wp2_with fail
        obtain ⟨q, HQ⟩ : ∃ q : Ask, Hid (q = ⟨key, nn, [], bs, (t.1, y2)⟩) := ⟨_, rfl⟩
        have z0 : nv q.key.1 = nv key.1 := by rw [HQ.out]
        have z1 : nv q.key.2 = nv key.2 := by rw [HQ.out]
        have z2 : nv32 q.non.1 = nv32 nn.1 := by rw [HQ.out]
        have z3 : nv32 q.non.2.1 = nv32 nn.2.1 := by rw [HQ.out]
        have z4 : nv q.non.2.2 = nv nn.2.2 := by rw [HQ.out]
        have z5 : nv q.tag.1 = nv t.1 := by rw [HQ.out]
        have z6 : nv q.tag.2 = nv y2 := by rw [HQ.out]
        have z8 : q.head = [] := by rw [HQ.out]
        have z9 : q.bytes = bs := by rw [HQ.out]
        obtain ⟨r, HR⟩ : ∃ r, Hid (st.opens q = r) := ⟨_, rfl⟩
        obtain ⟨ls, HLs⟩ : ∃ ls, Hid ((r.getD []).length = ls) := ⟨_, rfl⟩
        obtain ⟨so, HSo⟩ : ∃ so, Hid (r.isSome = so) := ⟨_, rfl⟩
        obtain ⟨rs, HRs⟩ : ∃ rs, Hid (r.getD [] = rs) := ⟨_, rfl⟩
        refine wp_region_held_drew (S := fun w' => Below w.heap.size w w' ∧ SBox w' b13 (.slice z n cz) (nv t.1) (nv y2)) (by kernel_rfl) (⟨M.hB.drew, bS⟩) (fun hHeld => ?_)
        refine takeM 0 132 5 rfl rfl rfl (by kernel_rfl) (by kernel_rfl) (by kernel_rfl) (fun _ _ _ h => h) (by rfl) hHeld rfl ?_
        simp only [List.set_cons_succ, List.set_cons_zero]
        refine takeM 1 133 1 rfl rfl rfl (by kernel_rfl) (by kernel_rfl) (by kernel_rfl) (fun _ _ _ h => h) (by rfl) hHeld rfl ?_
        simp only [List.set_cons_succ, List.set_cons_zero]
        refine takeM 2 134 8 rfl rfl rfl (by kernel_rfl) (by kernel_rfl) (by kernel_rfl) (fun _ _ _ h => h) (by rfl) hHeld rfl ?_
        simp only [List.set_cons_succ, List.set_cons_zero]
        refine takeL 3 135 (v := ?_) rfl rfl (by kernel_rfl) (by kernel_rfl) (by kernel_rfl) (fun _ _ _ h => h) (by rfl) hHeld (fun wz hSw => ?_) ?_
        rotate_left 1
        · (try dsimp only at hSw)
          clear hSw
          go_simp
          try with_reducible rfl
        simp only [List.set_cons_succ, List.set_cons_zero]
        refine takeL 4 136 (v := ?_) rfl rfl (by kernel_rfl) (by kernel_rfl) (by kernel_rfl) (fun _ _ _ h => h) (by rfl) hHeld (fun wz hSw => ?_) ?_
        rotate_left 1
        · (try dsimp only at hSw)
          clear hSw
          go_simp
          try with_reducible rfl
        simp only [List.set_cons_succ, List.set_cons_zero]
        refine takeL 5 137 (v := ?_) rfl rfl (by kernel_rfl) (by kernel_rfl) (by kernel_rfl) (fun _ _ _ h => h) (by rfl) hHeld (fun wz hSw => ?_) ?_
        rotate_left 1
        · (try dsimp only at hSw)
          have e0_ := (hSw.1.cell (p := ⟨b, o + k * 8 + 1, none⟩) hbl).trans g1
          have e1_ := (hSw.1.cell (p := ⟨b, o + k * 8 + 2, none⟩) hbl).trans g2
          clear hSw
          go_simp
          try with_reducible rfl
        simp only [List.set_cons_succ, List.set_cons_zero]
        refine takeM 6 138 1 rfl rfl rfl (by kernel_rfl) (by kernel_rfl) (by kernel_rfl) (fun _ _ _ h => h) (by rfl) hHeld rfl ?_
        simp only [List.set_cons_succ, List.set_cons_zero]
        refine takeM 7 139 8 rfl rfl rfl (by kernel_rfl) (by kernel_rfl) (by kernel_rfl) (fun _ _ _ h => h) (by rfl) hHeld rfl ?_
        simp only [List.set_cons_succ, List.set_cons_zero]
        refine takeL 8 140 (v := ?_) rfl rfl (by kernel_rfl) (by kernel_rfl) (by kernel_rfl) (fun _ _ _ h => h) (by rfl) hHeld (fun wz hSw => ?_) ?_
        rotate_left 1
        · (try dsimp only at hSw)
          clear hSw
          go_simp
          try with_reducible rfl
        simp only [List.set_cons_succ, List.set_cons_zero]
        refine takeL 9 141 (v := ?_) rfl rfl (by kernel_rfl) (by kernel_rfl) (by kernel_rfl) (fun _ _ _ h => h) (by rfl) hHeld (fun wz hSw => ?_) ?_
        rotate_left 1
        · (try dsimp only at hSw)
          clear hSw
          go_simp
          try with_reducible rfl
        simp only [List.set_cons_succ, List.set_cons_zero]
        refine takeL 10 142 (v := ?_) rfl rfl (by kernel_rfl) (by kernel_rfl) (by kernel_rfl) (fun _ _ _ h => h) (by rfl) hHeld (fun wz hSw => ?_) ?_
        rotate_left 1
        · (try dsimp only at hSw)
          have e0_ := (hSw.1.cell (p := ⟨b, o + k * 8 + 3, none⟩) hbl).trans g3
          have e1_ := (hSw.1.cell (p := ⟨b, o + k * 8 + 4, none⟩) hbl).trans g4
          have e2_ := (hSw.1.cell (p := ⟨b, o + k * 8 + 5, none⟩) hbl).trans g5
          clear hSw
          go_simp
          try with_reducible rfl
        simp only [List.set_cons_succ, List.set_cons_zero]
        refine takeL 11 143 (v := ?_) rfl rfl (by kernel_rfl) (by kernel_rfl) (by kernel_rfl) (fun _ _ _ h => h) (by rfl) hHeld (fun wz hSw => ?_) ?_
        rotate_left 1
        · (try dsimp only at hSw)
          have e0_ := hSw.2.c0
          have e1_ := hSw.2.c1
          have e2_ := hSw.2.c2
          clear hSw
          go_simp
          try with_reducible rfl
        simp only [List.set_cons_succ, List.set_cons_zero]
        have hd : Below w3.heap.size w3 w3.drew := (Below.refl _ _).drew
        replace M := M.quiet hO hd
        replace lst := lst.quiet hd
        replace bS := bS.grown hd
        clear hd hHeld
        generalize w3.drew = wd at *
        refine onlyL 12 rfl (by kernel_rfl) (by rfl) (fun K hK => ?_)
        go_wp2_with fail
        refine (lopen_at hO F _ st q z0 z1 z2 z3 z4 z5 z6 z8 z9 HR.out HLs.out HSo.out none z 0 n 0 cz (by omega) (by have := lst.le; omega) (by omega) bytes_none lst.byt fit_none lst.fit _ M.inv (SIn.none _ _ _) lst.sin).mono ?_
        rintro e w4 ⟨zo, co, F2, rfl, hK2, so1⟩
        rw [HRs.out] at so1
        have hbF := hbS.1
        replace bS : SBox w4 b13 (.slice z n cz) (nv t.1) (nv y2) := off_block bS hK2.off hbF
        replace so1 := so1.sat
        replace lst := lst.o hK2
        replace M := M.o hK2
        clear hK2 hbF
        refine hK.out _ _ ⟨M.hB, bS⟩ (fun hHeld => ?_)
        clear hK K
        refine takeM 13 131 144 rfl rfl rfl (by kernel_rfl) (by kernel_rfl) (by kernel_rfl) (fun _ _ _ h => h) (by rfl) hHeld rfl ?_
        simp only [List.set_cons_succ, List.set_cons_zero]
        refine takeL 14 145 (v := ?_) rfl rfl (by kernel_rfl) (by kernel_rfl) (by kernel_rfl) (fun _ _ _ h => h) (by rfl) hHeld (fun wz hSw => ?_) ?_
        rotate_left 1
        · (try dsimp only at hSw)
          clear hSw
          go_simp
          try with_reducible rfl
        simp only [List.set_cons_succ, List.set_cons_zero]
        refine takeL 15 146 (v := ?_) rfl rfl (by kernel_rfl) (by kernel_rfl) (by kernel_rfl) (fun _ _ _ h => h) (by rfl) hHeld (fun wz hSw => ?_) ?_
        rotate_left 1
        · (try dsimp only at hSw)
          clear hSw
          go_simp
          try with_reducible rfl
        simp only [List.set_cons_succ, List.set_cons_zero]
        refine takeA 16 14 145 rfl rfl rfl (by kernel_rfl) (by kernel_rfl) (by kernel_rfl) (fun _ _ _ h => h) (by rfl) hHeld rfl ?_
        simp only [List.set_cons_succ, List.set_cons_zero]
        refine takeA 17 15 146 rfl rfl rfl (by kernel_rfl) (by kernel_rfl) (by kernel_rfl) (fun _ _ _ h => h) (by rfl) hHeld rfl ?_
        simp only [List.set_cons_succ, List.set_cons_zero]
        refine wpAnyH_done (by kernel_rfl) ?_ _
        clear hHeld
        go_wp2_with fail
        refine wp_region_held_drew (S := fun w' => Below w.heap.size w w' ∧ SBox w' b13 (.slice z n cz) (nv t.1) (nv y2)) (by kernel_rfl) (⟨M.hB.drew, bS⟩) (fun hHeld => ?_)
        refine takeM 0 148 6 rfl rfl rfl (by kernel_rfl) (by kernel_rfl) (by kernel_rfl) (fun _ _ _ h => h) (by rfl) hHeld rfl ?_
        simp only [List.set_cons_succ, List.set_cons_zero]
        refine takeM 1 149 1 rfl rfl rfl (by kernel_rfl) (by kernel_rfl) (by kernel_rfl) (fun _ _ _ h => h) (by rfl) hHeld rfl ?_
        simp only [List.set_cons_succ, List.set_cons_zero]
        refine takeM 2 150 8 rfl rfl rfl (by kernel_rfl) (by kernel_rfl) (by kernel_rfl) (fun _ _ _ h => h) (by rfl) hHeld rfl ?_
        simp only [List.set_cons_succ, List.set_cons_zero]
        refine takeL 3 151 (v := ?_) rfl rfl (by kernel_rfl) (by kernel_rfl) (by kernel_rfl) (fun _ _ _ h => h) (by rfl) hHeld (fun wz hSw => ?_) ?_
        rotate_left 1
        · (try dsimp only at hSw)
          clear hSw
          go_simp
          try with_reducible rfl
        simp only [List.set_cons_succ, List.set_cons_zero]
        refine takeL 4 152 (v := ?_) rfl rfl (by kernel_rfl) (by kernel_rfl) (by kernel_rfl) (fun _ _ _ h => h) (by rfl) hHeld (fun wz hSw => ?_) ?_
        rotate_left 1
        · (try dsimp only at hSw)
          clear hSw
          go_simp
          try with_reducible rfl
        simp only [List.set_cons_succ, List.set_cons_zero]
        refine takeL 5 153 (v := ?_) rfl rfl (by kernel_rfl) (by kernel_rfl) (by kernel_rfl) (fun _ _ _ h => h) (by rfl) hHeld (fun wz hSw => ?_) ?_
        rotate_left 1
        · (try dsimp only at hSw)
          have e0_ := (hSw.1.cell (p := ⟨b, o + k * 8 + 1, none⟩) hbl).trans g1
          have e1_ := (hSw.1.cell (p := ⟨b, o + k * 8 + 2, none⟩) hbl).trans g2
          clear hSw
          go_simp
          try with_reducible rfl
        simp only [List.set_cons_succ, List.set_cons_zero]
        refine takeM 6 154 1 rfl rfl rfl (by kernel_rfl) (by kernel_rfl) (by kernel_rfl) (fun _ _ _ h => h) (by rfl) hHeld rfl ?_
        simp only [List.set_cons_succ, List.set_cons_zero]
        refine takeM 7 155 8 rfl rfl rfl (by kernel_rfl) (by kernel_rfl) (by kernel_rfl) (fun _ _ _ h => h) (by rfl) hHeld rfl ?_
        simp only [List.set_cons_succ, List.set_cons_zero]
        refine takeL 8 156 (v := ?_) rfl rfl (by kernel_rfl) (by kernel_rfl) (by kernel_rfl) (fun _ _ _ h => h) (by rfl) hHeld (fun wz hSw => ?_) ?_
        rotate_left 1
        · (try dsimp only at hSw)
          clear hSw
          go_simp
          try with_reducible rfl
        simp only [List.set_cons_succ, List.set_cons_zero]
        refine takeL 9 157 (v := ?_) rfl rfl (by kernel_rfl) (by kernel_rfl) (by kernel_rfl) (fun _ _ _ h => h) (by rfl) hHeld (fun wz hSw => ?_) ?_
        rotate_left 1
        · (try dsimp only at hSw)
          clear hSw
          go_simp
          try with_reducible rfl
        simp only [List.set_cons_succ, List.set_cons_zero]
        refine takeL 10 158 (v := ?_) rfl rfl (by kernel_rfl) (by kernel_rfl) (by kernel_rfl) (fun _ _ _ h => h) (by rfl) hHeld (fun wz hSw => ?_) ?_
        rotate_left 1
        · (try dsimp only at hSw)
          have e0_ := (hSw.1.cell (p := ⟨b, o + k * 8 + 3, none⟩) hbl).trans g3
          have e1_ := (hSw.1.cell (p := ⟨b, o + k * 8 + 4, none⟩) hbl).trans g4
          have e2_ := (hSw.1.cell (p := ⟨b, o + k * 8 + 5, none⟩) hbl).trans g5
          clear hSw
          go_simp
          try with_reducible rfl
        simp only [List.set_cons_succ, List.set_cons_zero]
        refine takeL 11 159 (v := ?_) rfl rfl (by kernel_rfl) (by kernel_rfl) (by kernel_rfl) (fun _ _ _ h => h) (by rfl) hHeld (fun wz hSw => ?_) ?_
        rotate_left 1
        · (try dsimp only at hSw)
          have e0_ := hSw.2.c0
          have e1_ := hSw.2.c1
          have e2_ := hSw.2.c2
          clear hSw
          go_simp
          try with_reducible rfl
        simp only [List.set_cons_succ, List.set_cons_zero]
        have hd : Below w4.heap.size w4 w4.drew := (Below.refl _ _).drew
        replace M := M.quiet hO hd
        replace lst := lst.quiet hd
        replace bS := bS.grown hd
        replace so1 := so1.below hd
        clear hd hHeld
        generalize w4.drew = wd at *
        refine onlyL 12 rfl (by kernel_rfl) (by rfl) (fun K hK => ?_)
        go_wp2_with fail
        refine (rlopen_at G bx st q z0 z1 z2 z3 z4 z5 z6 z8 z9 HR.out HLs.out HSo.out none z 0 n 0 cz (by omega) (by have := lst.le; omega) (by omega) bytes_none lst.byt fit_none lst.fit _ M.rin ⟨rfl, fun h => absurd h (Nat.lt_irrefl _)⟩ lst.sin.sat).mono ?_
        rintro e w5 ⟨zp, cp, rfl, so2, hb⟩
        rw [HRs.out] at so2
        replace bS := bS.grown hb
        replace so1 := so1.below hb
        replace lst := lst.quiet hb
        replace M := M.quiet hO hb
        clear hb
        refine hK.out _ _ ⟨M.hB, bS⟩ (fun hHeld => ?_)
        clear hK K
        refine takeM 13 147 160 rfl rfl rfl (by kernel_rfl) (by kernel_rfl) (by kernel_rfl) (fun _ _ _ h => h) (by rfl) hHeld rfl ?_
        simp only [List.set_cons_succ, List.set_cons_zero]
        refine takeL 14 161 (v := ?_) rfl rfl (by kernel_rfl) (by kernel_rfl) (by kernel_rfl) (fun _ _ _ h => h) (by rfl) hHeld (fun wz hSw => ?_) ?_
        rotate_left 1
        · (try dsimp only at hSw)
          clear hSw
          go_simp
          try with_reducible rfl
        simp only [List.set_cons_succ, List.set_cons_zero]
        refine takeL 15 162 (v := ?_) rfl rfl (by kernel_rfl) (by kernel_rfl) (by kernel_rfl) (fun _ _ _ h => h) (by rfl) hHeld (fun wz hSw => ?_) ?_
        rotate_left 1
        · (try dsimp only at hSw)
          clear hSw
          go_simp
          try with_reducible rfl
        simp only [List.set_cons_succ, List.set_cons_zero]
        refine takeA 16 16 161 rfl rfl rfl (by kernel_rfl) (by kernel_rfl) (by kernel_rfl) (fun _ _ _ h => h) (by rfl) hHeld rfl ?_
        simp only [List.set_cons_succ, List.set_cons_zero]
        refine takeA 17 17 162 rfl rfl rfl (by kernel_rfl) (by kernel_rfl) (by kernel_rfl) (fun _ _ _ h => h) (by rfl) hHeld rfl ?_
        simp only [List.set_cons_succ, List.set_cons_zero]
        refine wpAnyH_done (by kernel_rfl) ?_ _
        clear hHeld
        have e0_ := fun c => so1.conv (c := c)
        have e1_ := fun c => so2.conv (c := c)
        go_wp2
        go_roundw
        case rel => exact ⟨k + 1, F2, G, st, z, n, cz, t, bs, by omega, by go_num, M, lst, by omega, by omega⟩
        case measure => simp [intOf]; omega
      go_wp2_with fail
      clear h0 h1 h2 h3 h4 h5 h6 h7
      obtain ⟨⟨v1, v2⟩, HV⟩ : ∃ p, Hid (st.sumV ds = p) := ⟨_, rfl⟩
      obtain ⟨st1, HS1⟩ : ∃ st1, Hid (st.sumS ds = st1) := ⟨_, rfl⟩
      have hln := sumS_len st ds
      rw [HS1.out] at hln
      have hdl := sd.1
      refine wp_region_held_drew (S := fun w' => Below w.heap.size w w') (by kernel_rfl) (M.hB.drew) (fun hHeld => ?_)
      refine takeM 0 45 5 rfl rfl rfl (by kernel_rfl) (by kernel_rfl) (by kernel_rfl) (fun _ _ _ h => h) (by rfl) hHeld rfl ?_
      simp only [List.set_cons_succ, List.set_cons_zero]
      refine takeM 1 46 1 rfl rfl rfl (by kernel_rfl) (by kernel_rfl) (by kernel_rfl) (fun _ _ _ h => h) (by rfl) hHeld rfl ?_
      simp only [List.set_cons_succ, List.set_cons_zero]
      refine takeM 2 47 8 rfl rfl rfl (by kernel_rfl) (by kernel_rfl) (by kernel_rfl) (fun _ _ _ h => h) (by rfl) hHeld rfl ?_
      simp only [List.set_cons_succ, List.set_cons_zero]
      refine takeL 3 48 (v := ?_) rfl rfl (by kernel_rfl) (by kernel_rfl) (by kernel_rfl) (fun _ _ _ h => h) (by rfl) hHeld (fun wz hSw => ?_) ?_
      rotate_left 1
      · (try dsimp only at hSw)
        clear hSw
        go_simp
        try with_reducible rfl
      simp only [List.set_cons_succ, List.set_cons_zero]
      refine takeL 4 49 (v := ?_) rfl rfl (by kernel_rfl) (by kernel_rfl) (by kernel_rfl) (fun _ _ _ h => h) (by rfl) hHeld (fun wz hSw => ?_) ?_
      rotate_left 1
      · (try dsimp only at hSw)
        clear hSw
        go_simp
        try with_reducible rfl
      simp only [List.set_cons_succ, List.set_cons_zero]
      refine takeL 5 50 (v := ?_) rfl rfl (by kernel_rfl) (by kernel_rfl) (by kernel_rfl) (fun _ _ _ h => h) (by rfl) hHeld (fun wz hSw => ?_) ?_
      rotate_left 1
      · (try dsimp only at hSw)
        have e0_ := (hSw.cell (p := ⟨b, o + k * 8 + 6, none⟩) hbl).trans g6
        clear hSw
        go_simp
        try with_reducible rfl
      simp only [List.set_cons_succ, List.set_cons_zero]
      refine takeM 8 53 6 rfl rfl rfl (by kernel_rfl) (by kernel_rfl) (by kernel_rfl) (fun _ _ _ h => h) (by rfl) hHeld rfl ?_
      simp only [List.set_cons_succ, List.set_cons_zero]
      refine takeM 9 54 1 rfl rfl rfl (by kernel_rfl) (by kernel_rfl) (by kernel_rfl) (fun _ _ _ h => h) (by rfl) hHeld rfl ?_
      simp only [List.set_cons_succ, List.set_cons_zero]
      refine takeM 10 55 8 rfl rfl rfl (by kernel_rfl) (by kernel_rfl) (by kernel_rfl) (fun _ _ _ h => h) (by rfl) hHeld rfl ?_
      simp only [List.set_cons_succ, List.set_cons_zero]
      refine takeL 11 56 (v := ?_) rfl rfl (by kernel_rfl) (by kernel_rfl) (by kernel_rfl) (fun _ _ _ h => h) (by rfl) hHeld (fun wz hSw => ?_) ?_
      rotate_left 1
      · (try dsimp only at hSw)
        clear hSw
        go_simp
        try with_reducible rfl
      simp only [List.set_cons_succ, List.set_cons_zero]
      refine takeL 12 57 (v := ?_) rfl rfl (by kernel_rfl) (by kernel_rfl) (by kernel_rfl) (fun _ _ _ h => h) (by rfl) hHeld (fun wz hSw => ?_) ?_
      rotate_left 1
      · (try dsimp only at hSw)
        clear hSw
        go_simp
        try with_reducible rfl
      simp only [List.set_cons_succ, List.set_cons_zero]
      refine takeL 13 58 (v := ?_) rfl rfl (by kernel_rfl) (by kernel_rfl) (by kernel_rfl) (fun _ _ _ h => h) (by rfl) hHeld (fun wz hSw => ?_) ?_
      rotate_left 1
      · (try dsimp only at hSw)
        have e0_ := (hSw.cell (p := ⟨b, o + k * 8 + 6, none⟩) hbl).trans g6
        clear hSw
        go_simp
        try with_reducible rfl
      simp only [List.set_cons_succ, List.set_cons_zero]
      have hd : Below wr.heap.size wr wr.drew := (Below.refl _ _).drew
      replace M := M.quiet hO hd
      replace lst := lst.quiet hd
      clear hd
      generalize wr.drew = wd at *
      have hb : Below wd.heap.size wd (wd.alloc (.cells #[.slice d nd dc] 27)) := (Below.refl _ _).alloc (Nat.le_refl _) _
      have lr := lin_one (G := fun k => ¬ F k) wd (M.newF hO).1 (M.inF sd) fd.1 fd.2.1 fd.2.2 bd
      refine onlyL 6 rfl (by kernel_rfl) (by rfl) (fun K hK => ?_)
      go_wp2
      replace M := M.quiet hO hb
      replace lst := lst.quiet hb
      clear hb
      refine hK.out _ _ M.hB (fun hHeld => ?_)
      clear hK K
      generalize wd.alloc (.cells #[.slice d nd dc] 27) = w2 at *
      generalize wd.heap.size = B2 at *
      refine onlyL 7 rfl (by kernel_rfl) (by rfl) (fun K hK => ?_)
      go_wp2_with fail
      refine (lsum_at hO F _ st [ds] (zs := ds) (by simp) HV.out HS1.out _ 1 1 (by decide) (by omega) (by omega) (fit1 _) _ M.inv lr).mono ?_
      rintro e w3 ⟨F2, rfl, hK2⟩
      replace lst := lst.o hK2
      replace M := M.o hK2
      clear hK2 lr
      refine hK.out _ _ M.hB (fun hHeld => ?_)
      clear hK K
      refine onlyL 14 rfl (by kernel_rfl) (by rfl) (fun K hK => ?_)
      go_wp2_with fail
      refine (rlsum_at G bx st ds HV.out HS1.out d nd dc (by omega) (by omega) bd fd _ M.rin (M.inG sd)).mono ?_
      rintro e w4 ⟨rfl, G2, hR, hsub, hoff, hU⟩
      replace lst := lst.x hsub hoff hU
      replace M := M.x hO hR hsub hoff
      clear hR hsub hoff hU
      refine hK.out _ _ M.hB (fun hHeld => ?_)
      clear hK K
      refine takeL 15 60 (v := ?_) rfl rfl (by kernel_rfl) (by kernel_rfl) (by kernel_rfl) (fun _ _ _ h => h) (by rfl) hHeld (fun wz hSw => ?_) ?_
      rotate_left 1
      · (try dsimp only at hSw)
        have e0_ := heq
        clear hSw
        go_simp
        try with_reducible rfl
      simp only [List.set_cons_succ, List.set_cons_zero]
      refine wpAnyH_done (by kernel_rfl) ?_ _
      clear hHeld
      go_wp2
      go_roundw
      case rel => exact ⟨k + 1, F2, G2, st1, z, n, cz, t, bs, by omega, by go_num, M, lst, by rw [hln.2]; omega, by omega⟩
      case measure => simp [intOf]; omega
    · obtain rfl : k = m := by omega
      go_wp2_with fail
      refine (hO.issued F _ st (by omega) _ M.inv).mono ?_
      rintro e w2 ⟨za, ca, F2, rfl, hK2, rd⟩
      replace M := M.o hK2
      clear hK2 lst
      go_wp2_with fail
      refine (rlissued G bx st _ M.rin).mono ?_
      rintro e w3 ⟨zb, cb, rfl, rd2, hb⟩
      replace M := M.quiet hO hb
      replace rd := rd.below hb
      clear hb
      go_wp2_with fail
      refine (rosame st.iss za zb _ ca cb (by omega) _ rd rd2).mono ?_
      rintro e w4 ⟨rfl, hb⟩
      replace M := M.quiet hO hb
      clear hb
      go_wp2_with fail
      refine (lknown hO _).mono ?_
      rintro e w5 ⟨rfl, hb⟩
      replace M := M.quiet hO hb
      go_wp2
      go_ret
      exact ⟨rfl, M.hB⟩
end Go.Proofs.Ytkkehbebaokdmaa
