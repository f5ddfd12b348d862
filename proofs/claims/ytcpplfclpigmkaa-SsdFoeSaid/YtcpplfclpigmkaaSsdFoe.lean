/- SsdFoe's walk. -/
import Derived.Test.YtcpplfclpigmkaaSsdLaws
import Derived.Test.YtcpplfclpigmkaaRegion
namespace Go.Proofs.Ytcpplfclpigmkaa
open Go.RowKit
set_option maxRecDepth 20000
variable {PI : (Nat → Prop) → World → Value → PSt → Prop} {SI : Option Addr → (Nat → Prop) → World → Value → SsdSt → Prop}

theorem splice_get (L : List Int) (off : Nat) (cs : List Int) (h : off + cs.length ≤ L.length) (i : Nat) : (splice L off cs)[i]? = if i < off then L[i]? else if i < off + cs.length then cs[i - off]? else L[i]? := by
  unfold splice
  by_cases h1 : i < off
  · rw [if_pos h1, List.getElem?_append_left (by rw [List.length_take]; omega), List.getElem?_take, if_pos h1]
  · rw [if_neg h1, List.getElem?_append_right (by rw [List.length_take]; omega), List.length_take, Nat.min_eq_left (by omega)]
    by_cases h2 : i < off + cs.length
    · rw [if_pos h2, List.getElem?_append_left (by omega)]
    · rw [if_neg h2, List.getElem?_append_right (by omega), List.getElem?_drop]
      congr 1
      omega
theorem splice_nil (L : List Int) (off : Nat) : splice L off [] = L := by simp [splice]
theorem splice_step (L : List Int) (off : Nat) (cs : List Int) (h : off + cs.length ≤ L.length) (k : Nat) (hk : k < cs.length) : splice L off (cs.take (k + 1)) = (splice L off (cs.take k)).set (off + k) (cs.getD k 0) := by
  have l1 : (cs.take (k + 1)).length = k + 1 := by rw [List.length_take]; omega
  have l0 : (cs.take k).length = k := by rw [List.length_take]; omega
  apply List.ext_getElem?
  intro i
  rw [List.getElem?_set, splice_get _ _ _ (by rw [l1]; omega), splice_get _ _ _ (by rw [l0]; omega), splice_len _ _ _ (by rw [l0]; omega), l0, l1]
  by_cases e : off + k = i
  · subst e
    rw [if_pos rfl, if_neg (by omega), if_pos (by omega), if_pos (by omega), List.getElem?_take, if_pos (by omega), Nat.add_sub_cancel_left]
    simp [hk]
  · rw [if_neg e]
    by_cases h1 : i < off
    · simp [h1]
    · rw [if_neg h1, if_neg h1]
      by_cases h2 : i < off + k
      · rw [if_pos (by omega), if_pos h2, List.getElem?_take, List.getElem?_take, if_pos (by omega), if_pos (by omega)]
      · rw [if_neg (by omega), if_neg h2]
theorem At.put1 {w : World} {b o : Nat} {xs : List Int} (h : At w b o xs) (j : Nat) (hj : j < xs.length) (v : Int) : At (w.setCell ⟨b, o + j, none⟩ (.int .u8 v)) b o (xs.set j v) := by
  intro i hi
  rw [List.length_set] at hi
  by_cases e : i = j
  · subst e
    rw [World.cell?_setCell_same _ _ _ (h i hi)]
    simp [hj]
  · rw [World.cell?_setCell_other _ _ _ _ (by simp), h i hi]
    simp [Ne.symm e]
theorem sback_at (hO : SsdIs PI SI) (p : Option Addr) (F : Nat → Prop) (v : Value) {st st' : SsdSt} (n c : Nat) (x : Option Addr) (xs : List Int) (hs : st.lay xs = st') (hn : st.B.length = n) (fx : Fit x n c) (bx : Bytes xs) (w : World) (hI : SI p F w v st) (hx : SIn (fun k => ¬ F k) w x n xs) :
    Calls Try.prog 15 #[v, .slice x n c] w fun e w' => ∃ F', e = .returned (.bool true) ∧ KeptG (SI p) F w v F' w' st' := by
  subst hs
  exact hO.back p F v st n c x xs hn.symm fx bx w hI hx
theorem ssmash_at (hO : SsdIs PI SI) (p : Option Addr) (F : Nat → Prop) (v : Value) {st st' : SsdSt} {ov : Int} (off n c : Nat) (x : Option Addr) (xs : List Int) (hov : (off : Int) = ov) (hs : st.smash off xs = st') (h : off + n ≤ st.B.length) (fx : Fit x n c) (bx : Bytes xs) (w : World) (hI : SI p F w v st) (hx : SIn (fun k => ¬ F k) w x n xs) :
    Calls Try.prog 14 #[v, .int .i64 ov, .slice x n c] w fun e w' => ∃ F', e = .returned (.bool true) ∧ KeptG (SI p) F w v F' w' st' := by
  subst hov hs
  exact hO.smash p F v st off n c x xs h fx bx w hI hx
theorem splice_bytes {L cs : List Int} {off : Nat} (h : Bytes L) (k : Bytes cs) : Bytes (splice L off cs) := by
  intro x hx
  unfold splice at hx
  rcases List.mem_append.1 hx with hx | hx
  · exact h x (List.mem_of_mem_take hx)
  · rcases List.mem_append.1 hx with hx | hx
    · exact k x hx
    · exact h x (List.mem_of_mem_drop hx)
set_option maxRecDepth 20000 in
set_option maxHeartbeats 4000000 in
theorem sfoe_in (hP : PowIs PI) (hO : SsdIs PI SI) (off n1 c1 at_ n2 c2 : Nat) (x1 x2 : Option Addr) (xs1 xs2 : List Int) (h0 : off ≤ 50) (h1 : n1 ≤ 50) (h2 : at_ ≤ 50) (h3 : n2 ≤ 50) (b1 : Bytes xs1) (b2 : Bytes xs2) (f1 : Fit x1 n1 c1) (f2 : Fit x2 n2 c2) (w : World) (s1 : SAt w x1 n1 xs1) (s2 : SAt w x2 n2 xs2) :
    Calls Try.prog 4 #[.int .i64 (off : Int), .slice x1 n1 c1, .int .i64 (at_ : Int), .slice x2 n2 c2] w fun e w' => e = .returned (.bool true) ∧ Below w.heap.size w w' := by
  have H1 := hide' f1
  have H2 := hide' f2
  clear f1 f2
  go_enter Try.func4, Try.ntmps4
  go_wp2_with fail
  refine (hP.make _).mono ?_
  rintro e w1 ⟨u, G, rfl, hJ, hG, hb⟩
  obtain ⟨p, rfl⟩ := hP.base.ptr hJ
  have M0 : ObjIn PI w G (.pointer (some p)) (true, none, 0) w1 := ⟨hJ, hG, hb⟩
  clear hJ hG hb
  go_wp2_with fail
  refine (smake_at hO (some p) 100 rfl (by decide) _).mono ?_
  rintro e w2 ⟨v, F, rfl, hI, hF, hb⟩
  obtain ⟨a, rfl⟩ := (hO.base _).ptr hI
  have M : Dev PI SI (some p) w F (.pointer (some a)) ⟨List.replicate 100 0, [], []⟩ G 0 w2 := (M0.duo hP.base hI hF hb).swap
  clear hI hF hb M0
  have hR : (List.replicate 100 (0 : Int)).length = 100 := by simp
  have bR : Bytes (List.replicate 100 (0 : Int)) := by
    intro y hy
    have := List.eq_of_mem_replicate hy
    omega
  generalize List.replicate 100 (0 : Int) = R at *
  have l1 : (splice R off xs1).length = 100 := by rw [splice_len _ _ _ (by rw [s1.1]; omega), hR]
  have l2 : (splice (splice R off xs1) at_ xs2).length = 100 := by rw [splice_len _ _ _ (by rw [s2.1]; omega), l1]
  have bC1 := hide' (splice_bytes (off := off) bR b1)
  clear bR
  replace hR := hide' hR
  replace l1 := hide' l1
  replace l2 := hide' l2
  go_wp2_with fail
  refine (swrite_at hO (some p) F G _ (st' := ⟨R, [(off, xs1)], [((off : Int), xs1)]⟩) off n1 c1 x1 xs1 rfl rfl (by show off + n1 ≤ R.length; have := hR.out; omega) (Nat.zero_le _) (by decide) H1.out b1 _ M (M.arg s1)).mono ?_
  rintro e w3 ⟨F3, G3, rfl, hK⟩
  replace M := M.both hK
  clear hK
  have lT : Hid ([((off : Int), xs1)].length = 1) := hide' rfl
  go_wp2_with fail
  refine (ssnap_at hO (some p) F3 _ 100 (ys := splice R off xs1) hR.out rfl _ M.one).mono ?_
  rintro e w4 ⟨z, cz, F4, rfl, hK, sz, fz, hsoft⟩
  have hbz : ∃ bz oz, z = some ⟨bz, oz, none⟩ ∧ w3.heap.size ≤ bz := by
    obtain ⟨bz, oz, e, _, hz, _⟩ := sz.2 (by decide)
    exact ⟨bz, oz, e, hz.1⟩
  obtain ⟨bz, oz, rfl, hbz⟩ := hbz
  have frz : ∀ i, w4.frozen? ⟨bz, i, none⟩ = false := fun i => hsoft bz i hbz
  have hwz : w.heap.size ≤ bz := Nat.le_trans M.hB.size hbz
  have sW := sz.newD hP.base M
  replace M := M.o1 hP.base hK
  clear hK hsoft sz hbz
  have hbzl : bz < w4.heap.size := by
    obtain ⟨b', o', e, hl, _⟩ := sW.2 (by decide)
    obtain ⟨rfl, rfl⟩ : bz = b' ∧ oz = o' := by simpa using e
    exact hl
  -- a copy of it
  have hb : Below w4.heap.size w4 (w4.alloc (.cells #[] 5)) := (Below.refl _ _).alloc (Nat.le_refl _) _
  have hlit : (w4.alloc (.cells #[] 5)).ownsRow w4.heap.size 5 1 (.slice (some ⟨w4.heap.size, 0, none⟩) 0 0) 0 (([] : List Int).map (Value.int .u8)) :=
    World.ownsRow_lit (base := w4.heap.size) (e := 5) (size := 1) w4 #[] 0 (Nat.le_refl _) (by decide) rfl
  go_wp2_with (at_builtin; refine wpList_app rfl _ _ rfl w4.heap.size _ 0 [] rfl hlit (some ⟨bz, oz, none⟩) 100 cz _ rfl (sW.sat.below hb) fz.2.2 (by omega) hb.size ?_)
  intro v5 w5 own5 hb5 hv5
  replace hv5 := own_not_nil own5 (by decide)
  replace hb := hb.trans hb5
  obtain ⟨gi, ci, rfl, hgi, hgil, hgic, hgicm, hati⟩ := own_bytes l1.out own5 hv5
  have hci : Fit (some ⟨gi, 0, none⟩) 100 ci := ⟨hgic, hgicm, fun e => by cases e⟩
  have hnew := M.new (hO.base _) hP.base
  have sC : SIn (fun k => ¬ F4 k ∧ ¬ G3 k) w5 (some ⟨gi, 0, none⟩) 100 (splice R off xs1) := ⟨l1.out, fun _ => ⟨gi, 0, rfl, hgil, ⟨fun hf => by have := (hO.base _).lt M.one gi hf; omega, fun hg => by have := hP.base.lt M.two gi hg; omega⟩, hati⟩⟩
  have hne : gi ≠ bz := by omega
  replace M := M.quiet (hO.base _) hP.base hb
  replace sW := sW.off (Off.of_below (F := fun _ => False) hb) (fun _ _ _ h => h)
  replace frz : ∀ i, w5.frozen? ⟨bz, i, none⟩ = false := fun i => (World.frozen?_of_block (w := w4) (a := ⟨bz, i, none⟩) (hb.block bz hbzl)).trans (frz i)
  replace hbzl : bz < w5.heap.size := Nat.lt_of_lt_of_le hbzl hb.size
  clear hb hb5 hlit own5 hv5 hnew hgic hgicm hati hgi
  go_wp2_with fail
  refine (ssmash_at hO (some p) F4 _ (st' := ⟨splice (splice R off xs1) at_ xs2, [], [((off : Int), xs1)]⟩) at_ n2 c2 x2 xs2 rfl rfl (by show at_ + n2 ≤ R.length; have := hR.out; omega) H2.out b2 _ M.one ((M.arg s2).mono (fun _ _ h => h.1))).mono ?_
  rintro e w6 ⟨F6, rfl, hK⟩
  have hbzF : ¬ F4 bz := by
    obtain ⟨b', o', e, _, hn, _⟩ := sW.2 (by decide)
    obtain ⟨rfl, rfl⟩ : bz = b' ∧ oz = o' := by simpa using e
    exact hn.1
  replace frz : ∀ i, w6.frozen? ⟨bz, i, none⟩ = false := fun i => (hK.off.frozen (p := ⟨bz, i, none⟩) hbzl hbzF).trans (frz i)
  replace sW := hK.sin sW
  replace sC := hK.sin sC
  replace M := M.o1 hP.base hK
  clear hK hbzl hbzF
  generalize hT1 : [((off : Int), xs1)] = T1 at *
  clear hT1
  replace sC : SIn (fun k => (¬ F6 k ∧ ¬ G3 k) ∧ k ≠ bz) w6 (some ⟨gi, 0, none⟩) 100 (splice R off xs1) := ⟨sC.1, fun hn => by
    obtain ⟨b, o, e, hl, hg, ha⟩ := sC.2 hn
    obtain ⟨rfl, rfl⟩ : gi = b ∧ 0 = o := by simpa using e
    exact ⟨gi, 0, rfl, hl, ⟨hg, hne⟩, ha⟩⟩
  go_wp2_with fail
  go_loopw [12] (fun i wr => ∃ k : Nat, k ≤ n2 ∧ i = .int .i64 (k : Int) ∧ Dev PI SI (some p) w F6 (.pointer (some a)) ⟨splice (splice R off xs1) at_ xs2, [], T1⟩ G3 (0 + 1) wr ∧ SIn (fun k => ¬ F6 k ∧ ¬ G3 k) wr (some ⟨bz, oz, none⟩) 100 (splice (splice R off xs1) at_ (xs2.take k)) ∧ SIn (fun k => (¬ F6 k ∧ ¬ G3 k) ∧ k ≠ bz) wr (some ⟨gi, 0, none⟩) 100 (splice R off xs1) ∧ ∀ i, wr.frozen? ⟨bz, i, none⟩ = false) (fun i _ => n2 - (intOf i).toNat)
  case atStart => exact ⟨0, Nat.zero_le _, rfl, M, by rw [List.take_zero, splice_nil]; exact sW, sC, frz⟩
  case round =>
    clear M sW sC frz
    obtain ⟨k, hk, rfl, M, sW, sC, frz⟩ := hrel
    by_cases hlt : k < n2
    · have hlt' : (k : Int) < n2 := by omega
      have hw1 : IntKind.i64.wrap ((k : Int) + 1) = (k : Int) + 1 := by
        rw [IntKind.wrap_i64]
        omega
      have hw2 : IntKind.i64.wrap ((at_ : Int) + (k : Int)) = ((at_ + k : Nat) : Int) := by
        rw [IntKind.wrap_i64]
        omega
      have hak : at_ + k < 100 := by omega
      obtain ⟨bz', oz', e, hzl, hzn, hat⟩ := sW.2 (by decide)
      obtain ⟨rfl, rfl⟩ : bz = bz' ∧ oz = oz' := by simpa using e
      obtain ⟨b2', o2', rfl, hb2l, hat2⟩ := s2.2 (by omega)
      have hc2 := (M.hB.cell (p := ⟨b2', o2' + k, none⟩) hb2l).trans (hat2 k (by rw [s2.1]; exact hlt))
      have lw : (splice (splice R off xs1) at_ (xs2.take k)).length = 100 := by rw [splice_len _ _ _ (by rw [List.length_take, s2.1, l1.out]; omega), l1.out]
      have hc1 := hat (at_ + k) (by rw [lw]; exact hak)
      have hf1 := frz (oz + (at_ + k))
      have hst := hide' (splice_step (splice R off xs1) at_ xs2 (by rw [l1.out, s2.1]; omega) k (by rw [s2.1]; exact hlt))
      have hat' := hide' (hat.put1 (at_ + k) (by rw [lw]; exact hak) (xs2.getD k 0))
      have ho : Off (fun k => k = bz) wr (wr.setCell ⟨bz, oz + (at_ + k), none⟩ (.int .u8 (xs2.getD k 0))) := Off.one _ _ _ _
      have hat3 := hide' hat2
      have lw2 := hide' lw
      clear hat hat2 lw e
      generalize (splice (splice R off xs1) at_ (xs2.take k)).getD (at_ + k) 0 = old at *
      obtain ⟨q, hq⟩ : ∃ q : Nat, at_ + k = q := ⟨_, rfl⟩
      obtain ⟨y, hy⟩ : ∃ y, xs2.getD k 0 = y := ⟨_, rfl⟩
      rw [hy] at hst hat' ho hc2
      rw [hq] at hst hat' ho hc1 hf1 hw2
      have hq' := hide' hq
      clear hq hy hak
      have hq100 : (q : Int) < 100 := by
        have := hq'.out
        omega
      go_wp2
      go_roundw
      case rel =>
        refine ⟨k + 1, by omega, by go_num, M.off (hO.base _) hP.base ho (fun j h e => hzn.1 (e ▸ h)) (fun j h e => hzn.2 (e ▸ h)) (fun j h => h ▸ hwz), ?_, sC.off ho (fun b _ hb e => hb.2 e), fun i => by rw [World.frozen?_setCell]; exact frz i⟩
        · rw [hst.out]
          exact ⟨by rw [List.length_set]; exact lw2.out, fun _ => ⟨bz, oz, rfl, by simpa using hzl, hzn, hat'.out⟩⟩
      case measure => simp [intOf]; omega
    · have hlt' : ¬ (k : Int) < n2 := by omega
      obtain rfl : k = n2 := by omega
      rw [List.take_of_length_le (by rw [s2.1]; omega)] at sW
      generalize splice R off xs1 = C1 at *
      generalize splice C1 at_ xs2 = C2 at *
      clear frz
      replace sC := sC.mono (G' := fun k => ¬ F6 k ∧ ¬ G3 k) (fun _ _ h => h.1)
      go_wp2_with fail
      refine (scrash_at hO (some p) F6 _ (st' := ⟨C2, [], T1⟩) none 0 0 [] rfl ⟨by decide, by decide, fun _ => ⟨rfl, rfl⟩⟩ _ M.one (KIn.none _ _ _)).mono ?_
      rintro e wr ⟨F6, rfl, hK⟩
      replace sW := hK.sin sW
      replace sC := hK.sin sC
      replace M := M.o1 hP.base hK
      clear hK hlt hlt' hk s1 s2 b1 b2
      go_wp2_with fail
      refine wp_region_held_drew (S := fun w' => Off F6 wr.drew w') (by kernel_rfl) (Off.refl _ _) (fun hHeld => ?_)
      have hHeld0 := hHeld
      replace M := M.quiet (hO.base _) hP.base (Below.refl _ _).drew
      have hdr : Off (fun _ => False) wr wr.drew := (Off.refl _ _).drew
      replace sW := sW.off hdr (fun _ _ _ h => h)
      replace sC := sC.off hdr (fun _ _ _ h => h)
      clear hdr
      refine takeM 0 80 9 rfl rfl rfl (by kernel_rfl) (by kernel_rfl) (by kernel_rfl) (fun _ _ _ h => h) (by rfl) hHeld rfl ?_
      simp only [List.set_cons_succ, List.set_cons_zero]
      refine takeM 3 83 10 rfl rfl rfl (by kernel_rfl) (by kernel_rfl) (by kernel_rfl) (fun _ _ _ h => h) (by rfl) hHeld rfl ?_
      simp only [List.set_cons_succ, List.set_cons_zero]
      refine takeL 4 84 (v := ?_) rfl rfl (by kernel_rfl) (by kernel_rfl) (by kernel_rfl) (fun _ _ _ h => h) (by rfl) hHeld (fun w hSw => ?_) ?_
      rotate_left 1
      · (try dsimp only at hSw)
        have e0_ := fun c => ((sW.off hSw (fun _ _ h => h.1)).sat).conv (c := c)
        clear hSw
        go_simp
        try with_reducible rfl
      simp only [List.set_cons_succ, List.set_cons_zero]
      refine onlyL 1 rfl (by kernel_rfl) (by rfl) (fun K hK0 => ?_)
      go_wp2_with fail
      refine (ssnap_at hO (some p) F6 _ 100 (ys := C2) l2.out rfl _ M.one).mono ?_
      rintro e w7 ⟨zn, cn, F7, rfl, hK, sn, -, -⟩
      have hoff0 := hHeld0.size
      have hoff := hHeld0.trans hK.off (fun _ h => Or.inl h)
      have hsub : ∀ k, F7 k → F6 k ∨ _ ≤ k := hK.sub
      replace sW := hK.sin sW
      replace sC := hK.sin sC
      replace M := M.o1 hP.base hK
      refine hK0.out _ _ hoff (fun _ => ?_)
      clear hK0 K
      refine held_more (S' := fun w' => Off F7 w7 w') (fun _ h => hoff.trans h (fun k hk => (hsub k hk).imp id (fun e => Nat.le_trans hoff0 e))) _ _ _ _ ?_
      have hHeld := Off.refl F7 w7
      have hHeld0 := hHeld
      clear hoff hsub hK
      clear hoff0
      refine takeL 2 82 (v := ?_) rfl rfl (by kernel_rfl) (by kernel_rfl) (by kernel_rfl) (fun _ _ _ h => h) (by rfl) hHeld (fun w hSw => ?_) ?_
      rotate_left 1
      · (try dsimp only at hSw)
        have e0_ := fun c => ((sn.off hSw (fun _ _ h => h.2)).sat).conv (c := c)
        clear hSw
        go_simp
        try with_reducible rfl
      simp only [List.set_cons_succ, List.set_cons_zero]
      clear sn
      refine takeL 5 85 (v := .bool true) rfl rfl (by kernel_rfl) (by kernel_rfl) (by kernel_rfl) (fun _ _ _ h => h) (by rfl) hHeld (fun w hSw => ?_) ?_
      · (try dsimp only at hSw)
        have hss := str_self C2
        clear hSw
        go_simp
      simp only [List.set_cons_succ, List.set_cons_zero]
      refine takeM 6 86 85 rfl rfl rfl (by kernel_rfl) (by kernel_rfl) (by kernel_rfl) (fun _ _ _ h => h) (by rfl) hHeld rfl ?_
      simp only [List.set_cons_succ, List.set_cons_zero]
      refine takeM 7 87 9 rfl rfl rfl (by kernel_rfl) (by kernel_rfl) (by kernel_rfl) (fun _ _ _ h => h) (by rfl) hHeld rfl ?_
      simp only [List.set_cons_succ, List.set_cons_zero]
      refine takeM 8 88 11 rfl rfl rfl (by kernel_rfl) (by kernel_rfl) (by kernel_rfl) (fun _ _ _ h => h) (by rfl) hHeld rfl ?_
      simp only [List.set_cons_succ, List.set_cons_zero]
      refine onlyL 9 rfl (by kernel_rfl) (by rfl) (fun K hK0 => ?_)
      go_wp2_with fail
      refine (sback_at hO (some p) F7 _ (st' := ⟨C1, [], T1⟩) 100 ci _ C1 rfl l2.out hci bC1.out _ M.one (sC.mono (fun _ _ h => h.1))).mono ?_
      rintro e w8 ⟨F8, rfl, hK⟩
      have hoff0 := hHeld0.size
      have hoff := hHeld0.trans hK.off (fun _ h => Or.inl h)
      have hsub : ∀ k, F8 k → F7 k ∨ _ ≤ k := hK.sub
      replace sW := hK.sin sW
      replace sC := hK.sin sC
      replace M := M.o1 hP.base hK
      refine hK0.out _ _ hoff (fun _ => ?_)
      clear hK0 K
      refine held_more (S' := fun w' => Off F8 w8 w') (fun _ h => hoff.trans h (fun k hk => (hsub k hk).imp id (fun e => Nat.le_trans hoff0 e))) _ _ _ _ ?_
      have hHeld := Off.refl F8 w8
      have hHeld0 := hHeld
      clear hoff hsub hK
      clear hoff0
      refine takeL 10 90 (v := ?_) rfl rfl (by kernel_rfl) (by kernel_rfl) (by kernel_rfl) (fun _ _ _ h => h) (by rfl) hHeld (fun w hSw => ?_) ?_
      rotate_left 1
      · (try dsimp only at hSw)
        clear hSw
        go_simp
        try with_reducible rfl
      simp only [List.set_cons_succ, List.set_cons_zero]
      refine takeM 11 91 90 rfl rfl rfl (by kernel_rfl) (by kernel_rfl) (by kernel_rfl) (fun _ _ _ h => h) (by rfl) hHeld rfl ?_
      simp only [List.set_cons_succ, List.set_cons_zero]
      refine takeM 12 92 9 rfl rfl rfl (by kernel_rfl) (by kernel_rfl) (by kernel_rfl) (fun _ _ _ h => h) (by rfl) hHeld rfl ?_
      simp only [List.set_cons_succ, List.set_cons_zero]
      refine takeM 15 95 11 rfl rfl rfl (by kernel_rfl) (by kernel_rfl) (by kernel_rfl) (fun _ _ _ h => h) (by rfl) hHeld rfl ?_
      simp only [List.set_cons_succ, List.set_cons_zero]
      refine takeL 16 96 (v := ?_) rfl rfl (by kernel_rfl) (by kernel_rfl) (by kernel_rfl) (fun _ _ _ h => h) (by rfl) hHeld (fun w hSw => ?_) ?_
      rotate_left 1
      · (try dsimp only at hSw)
        have e0_ := fun c => ((sC.off hSw (fun _ _ h => h.1)).sat).conv (c := c)
        clear hSw
        go_simp
        try with_reducible rfl
      simp only [List.set_cons_succ, List.set_cons_zero]
      refine onlyL 13 rfl (by kernel_rfl) (by rfl) (fun K hK0 => ?_)
      go_wp2_with fail
      refine (ssnap_at hO (some p) F8 _ 100 (ys := C1) l1.out rfl _ M.one).mono ?_
      rintro e w9 ⟨zm, cm, F9, rfl, hK, sn, -, -⟩
      have hoff0 := hHeld0.size
      have hoff := hHeld0.trans hK.off (fun _ h => Or.inl h)
      have hsub : ∀ k, F9 k → F8 k ∨ _ ≤ k := hK.sub
      replace sW := hK.sin sW
      replace sC := hK.sin sC
      replace M := M.o1 hP.base hK
      refine hK0.out _ _ hoff (fun _ => ?_)
      clear hK0 K
      refine held_more (S' := fun w' => Off F9 w9 w') (fun _ h => hoff.trans h (fun k hk => (hsub k hk).imp id (fun e => Nat.le_trans hoff0 e))) _ _ _ _ ?_
      have hHeld := Off.refl F9 w9
      have hHeld0 := hHeld
      clear hoff hsub hK
      clear hoff0
      refine takeL 14 94 (v := ?_) rfl rfl (by kernel_rfl) (by kernel_rfl) (by kernel_rfl) (fun _ _ _ h => h) (by rfl) hHeld (fun w hSw => ?_) ?_
      rotate_left 1
      · (try dsimp only at hSw)
        have e0_ := fun c => ((sn.off hSw (fun _ _ h => h.2)).sat).conv (c := c)
        clear hSw
        go_simp
        try with_reducible rfl
      simp only [List.set_cons_succ, List.set_cons_zero]
      clear sn
      refine takeL 17 97 (v := .bool true) rfl rfl (by kernel_rfl) (by kernel_rfl) (by kernel_rfl) (fun _ _ _ h => h) (by rfl) hHeld (fun w hSw => ?_) ?_
      · (try dsimp only at hSw)
        have hss := str_self C1
        clear hSw
        go_simp
      simp only [List.set_cons_succ, List.set_cons_zero]
      refine takeL 18 98 (v := ?_) rfl rfl (by kernel_rfl) (by kernel_rfl) (by kernel_rfl) (fun _ _ _ h => h) (by rfl) hHeld (fun w hSw => ?_) ?_
      rotate_left 1
      · (try dsimp only at hSw)
        clear hSw
        go_simp
        try with_reducible rfl
      simp only [List.set_cons_succ, List.set_cons_zero]
      refine takeM 19 99 98 rfl rfl rfl (by kernel_rfl) (by kernel_rfl) (by kernel_rfl) (fun _ _ _ h => h) (by rfl) hHeld rfl ?_
      simp only [List.set_cons_succ, List.set_cons_zero]
      refine takeM 20 100 9 rfl rfl rfl (by kernel_rfl) (by kernel_rfl) (by kernel_rfl) (fun _ _ _ h => h) (by rfl) hHeld rfl ?_
      simp only [List.set_cons_succ, List.set_cons_zero]
      refine onlyL 21 rfl (by kernel_rfl) (by rfl) (fun K hK0 => ?_)
      go_wp2_with fail
      refine (hO.backNo (some p) F9 _ _ 0 0 none (by show 0 ≠ C1.length; rw [l1.out]; decide) _ M.one).mono ?_
      rintro e w10 ⟨F10, rfl, hK⟩
      have hoff0 := hHeld0.size
      have hoff := hHeld0.trans hK.off (fun _ h => Or.inl h)
      have hsub : ∀ k, F10 k → F9 k ∨ _ ≤ k := hK.sub
      replace sW := hK.sin sW
      replace sC := hK.sin sC
      replace M := M.o1 hP.base hK
      refine hK0.out _ _ hoff (fun _ => ?_)
      clear hK0 K
      refine held_more (S' := fun w' => Off F10 w10 w') (fun _ h => hoff.trans h (fun k hk => (hsub k hk).imp id (fun e => Nat.le_trans hoff0 e))) _ _ _ _ ?_
      have hHeld := Off.refl F10 w10
      have hHeld0 := hHeld
      clear hoff hsub hK
      clear hoff0
      refine takeL 22 102 (v := ?_) rfl rfl (by kernel_rfl) (by kernel_rfl) (by kernel_rfl) (fun _ _ _ h => h) (by rfl) hHeld (fun w hSw => ?_) ?_
      rotate_left 1
      · (try dsimp only at hSw)
        clear hSw
        go_simp
        try with_reducible rfl
      simp only [List.set_cons_succ, List.set_cons_zero]
      refine takeL 23 103 (v := ?_) rfl rfl (by kernel_rfl) (by kernel_rfl) (by kernel_rfl) (fun _ _ _ h => h) (by rfl) hHeld (fun w hSw => ?_) ?_
      rotate_left 1
      · (try dsimp only at hSw)
        clear hSw
        go_simp
        try with_reducible rfl
      simp only [List.set_cons_succ, List.set_cons_zero]
      refine takeM 24 104 103 rfl rfl rfl (by kernel_rfl) (by kernel_rfl) (by kernel_rfl) (fun _ _ _ h => h) (by rfl) hHeld rfl ?_
      simp only [List.set_cons_succ, List.set_cons_zero]
      refine takeM 25 105 9 rfl rfl rfl (by kernel_rfl) (by kernel_rfl) (by kernel_rfl) (fun _ _ _ h => h) (by rfl) hHeld rfl ?_
      simp only [List.set_cons_succ, List.set_cons_zero]
      refine onlyL 26 rfl (by kernel_rfl) (by rfl) (fun K hK0 => ?_)
      go_wp2_with fail
      refine (hO.trace (some p) F10 _ ⟨C1, [], T1⟩ (by rw [lT.out]; decide) _ M.one).mono ?_
      rintro e w11 ⟨zt, ct, F11, rfl, hK, -, -, -⟩
      rw [lT.out]
      have hoff0 := hHeld0.size
      have hoff := hHeld0.trans hK.off (fun _ h => Or.inl h)
      have hsub : ∀ k, F11 k → F10 k ∨ _ ≤ k := hK.sub
      replace sW := hK.sin sW
      replace sC := hK.sin sC
      replace M := M.o1 hP.base hK
      refine hK0.out _ _ hoff (fun _ => ?_)
      clear hK0 K
      refine held_more (S' := fun w' => Off F11 w11 w') (fun _ h => hoff.trans h (fun k hk => (hsub k hk).imp id (fun e => Nat.le_trans hoff0 e))) _ _ _ _ ?_
      have hHeld := Off.refl F11 w11
      have hHeld0 := hHeld
      clear hoff hsub hK
      clear hoff0
      refine takeL 27 107 (v := ?_) rfl rfl (by kernel_rfl) (by kernel_rfl) (by kernel_rfl) (fun _ _ _ h => h) (by rfl) hHeld (fun w hSw => ?_) ?_
      rotate_left 1
      · (try dsimp only at hSw)
        clear hSw
        go_simp
        try with_reducible rfl
      simp only [List.set_cons_succ, List.set_cons_zero]
      refine takeL 28 108 (v := ?_) rfl rfl (by kernel_rfl) (by kernel_rfl) (by kernel_rfl) (fun _ _ _ h => h) (by rfl) hHeld (fun w hSw => ?_) ?_
      rotate_left 1
      · (try dsimp only at hSw)
        clear hSw
        go_simp
        try with_reducible rfl
      simp only [List.set_cons_succ, List.set_cons_zero]
      refine takeL 29 109 (v := ?_) rfl rfl (by kernel_rfl) (by kernel_rfl) (by kernel_rfl) (fun _ _ _ h => h) (by rfl) hHeld (fun w hSw => ?_) ?_
      rotate_left 1
      · (try dsimp only at hSw)
        clear hSw
        go_simp
        try with_reducible rfl
      simp only [List.set_cons_succ, List.set_cons_zero]
      refine takeM 30 110 109 rfl rfl rfl (by kernel_rfl) (by kernel_rfl) (by kernel_rfl) (fun _ _ _ h => h) (by rfl) hHeld rfl ?_
      simp only [List.set_cons_succ, List.set_cons_zero]
      refine onlyL 31 rfl (by kernel_rfl) (by rfl) (fun K hK0 => ?_)
      go_wp2_with fail
      refine (sknown hP hO _).mono ?_
      rintro e w12 ⟨rfl, hb⟩
      replace M := M.quiet (hO.base _) hP.base hb
      refine hK0.out _ _ (Off.of_below hb) (fun hHeld => ?_)
      clear hK0 K hb
      refine takeL 32 112 (v := ?_) rfl rfl (by kernel_rfl) (by kernel_rfl) (by kernel_rfl) (fun _ _ _ h => h) (by rfl) hHeld (fun w hSw => ?_) ?_
      rotate_left 1
      · (try dsimp only at hSw)
        clear hSw
        go_simp
        try with_reducible rfl
      simp only [List.set_cons_succ, List.set_cons_zero]
      refine takeA 33 8 112 rfl rfl rfl (by kernel_rfl) (by kernel_rfl) (by kernel_rfl) (fun _ _ _ h => h) (by rfl) hHeld rfl ?_
      simp only [List.set_cons_succ, List.set_cons_zero]
      refine wpAnyH_done (by kernel_rfl) ?_ _
      go_wp2
      go_ret
      exact ⟨rfl, M.hB⟩
theorem sfoe_any (hP : PowIs PI) (hO : SsdIs PI SI) (off : Int) (n1 c1 : Nat) (at_ : Int) (n2 c2 : Nat) (x1 x2 : Option Addr) (xs1 xs2 : List Int) (b1 : Bytes xs1) (b2 : Bytes xs2) (f1 : Fit x1 n1 c1) (f2 : Fit x2 n2 c2) (w : World) (s1 : SAt w x1 n1 xs1) (s2 : SAt w x2 n2 xs2) :
    Calls Try.prog 4 #[.int .i64 off, .slice x1 n1 c1, .int .i64 at_, .slice x2 n2 c2] w fun e w' => e = .returned (.bool true) ∧ Below w.heap.size w w' := by
  by_cases hok : (0 ≤ off ∧ off ≤ 50) ∧ n1 ≤ 50 ∧ (0 ≤ at_ ∧ at_ ≤ 50) ∧ n2 ≤ 50
  · obtain ⟨⟨h0, h1⟩, h2, ⟨h3, h4⟩, h5⟩ := hok
    obtain ⟨off, rfl⟩ : ∃ k : Nat, off = k := ⟨off.toNat, by omega⟩
    obtain ⟨at_, rfl⟩ : ∃ k : Nat, at_ = k := ⟨at_.toNat, by omega⟩
    exact sfoe_in hP hO off n1 c1 at_ n2 c2 x1 x2 xs1 xs2 (by omega) h2 (by omega) h5 b1 b2 f1 f2 w s1 s2
  have H1 := hide' hok
  clear hok f1 f2 s1 s2 b1 b2
  by_cases h0 : off < 0
  · go_enter Try.func4, Try.ntmps4
    go_wp2
    go_ret
    exact ⟨rfl, Below.refl _ _⟩
  by_cases h1 : 50 < off
  · go_enter Try.func4, Try.ntmps4
    go_wp2
    go_ret
    exact ⟨rfl, Below.refl _ _⟩
  by_cases h2 : (50 : Int) < n1
  · go_enter Try.func4, Try.ntmps4
    go_wp2
    go_ret
    exact ⟨rfl, Below.refl _ _⟩
  by_cases h3 : at_ < 0
  · go_enter Try.func4, Try.ntmps4
    go_wp2
    go_ret
    exact ⟨rfl, Below.refl _ _⟩
  by_cases h4 : 50 < at_
  · go_enter Try.func4, Try.ntmps4
    go_wp2
    go_ret
    exact ⟨rfl, Below.refl _ _⟩
  by_cases h5 : (50 : Int) < n2
  · go_enter Try.func4, Try.ntmps4
    go_wp2
    go_ret
    exact ⟨rfl, Below.refl _ _⟩
  exact absurd (show (0 ≤ off ∧ off ≤ 50) ∧ n1 ≤ 50 ∧ (0 ≤ at_ ∧ at_ ≤ 50) ∧ n2 ≤ 50 from by omega) H1.out
end Go.Proofs.Ytcpplfclpigmkaa
