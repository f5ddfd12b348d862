/- SsdOwn's walk. -/
import Derived.Test.YtcpplfclpigmkaaSsdLaws
import Derived.Test.YtcpplfclpigmkaaRegion
namespace Go.Proofs.Ytcpplfclpigmkaa
open Go.RowKit
set_option maxRecDepth 20000
variable {PI : (Nat → Prop) → World → Value → PSt → Prop} {SI : Option Addr → (Nat → Prop) → World → Value → SsdSt → Prop}

/-- The one write that was done, where it stands. -/
theorem strace_one (hO : SsdIs PI SI) (p : Option Addr) (F : Nat → Prop) (v : Value) (B : List Int) (Wt : List (Nat × List Int)) (o : Int) (xs : List Int) (n : Nat) (hn : xs.length = n) (w : World) (hI : SI p F w v ⟨B, Wt, [(o, xs)]⟩) :
    Calls Try.prog 16 #[v] w fun e w' => ∃ bt ot ct F' y cy, e = .returned (.slice (some ⟨bt, ot, none⟩) 1 ct) ∧ 1 ≤ ct ∧ KeptG (SI p) F w v F' w' ⟨B, Wt, [(o, xs)]⟩ ∧ bt < w'.heap.size ∧ w.heap.size ≤ bt ∧ w'.cell? ⟨bt, ot + 1, none⟩ = some (.slice y n cy) ∧ SIn (NewOf w F') w' y n xs ∧ Fit y n cy ∧ Soft w w' := by
  subst hn
  refine (hO.trace p F v ⟨B, Wt, [(o, xs)]⟩ (by show 1 ≤ _; decide) w hI).mono ?_
  rintro e w' ⟨z, cz, F', rfl, hK, ht, hf, hs⟩
  obtain ⟨bt, ot, rfl, hl, hg, hr⟩ := ht.2 (by show 0 < 1; decide)
  obtain ⟨y, cy, h1, h2, h3, h4, h5, _⟩ := (hr 0 (by show 0 < 1; decide)).2
  rw [Nat.zero_mul, Nat.add_zero] at h1
  exact ⟨bt, ot, cz, F', y, cy, rfl, hf.1, hK, hl, hg.1, h1, h2, ⟨h3, h4, h5⟩, hs⟩
theorem cur_read (R xs : List Int) (n : Nat) (hn : xs.length = n) : ((splice R 0 xs).drop 0).take n = xs := by
  subst hn
  simp [splice]
theorem sin_head {G : Nat → Prop} {w : World} {x : Option Addr} {n : Nat} {xs : List Int} (h : SIn G w x n xs) (hn : 1 ≤ n) : ∃ b o, x = some ⟨b, o, none⟩ ∧ b < w.heap.size ∧ G b ∧ w.cell? ⟨b, o, none⟩ = some (.int .u8 (xs.getD 0 0)) := by
  obtain ⟨b, o, e, hl, hg, ha⟩ := h.2 (by omega)
  exact ⟨b, o, e, hl, hg, ha 0 (by rw [h.1]; omega)⟩
set_option maxRecDepth 20000 in
set_option maxHeartbeats 4000000 in
theorem sown_in (hP : PowIs PI) (hO : SsdIs PI SI) (n c : Nat) (x : Option Addr) (xs : List Int) (h1 : 1 ≤ n) (h2 : n ≤ 50) (bx : Bytes xs) (fx : Fit x n c) (w : World) (s1 : SAt w x n xs) :
    Calls Try.prog 5 #[.slice x n c] w fun e w' => e = .returned (.bool true) ∧ Below w.heap.size w w' := by
  have HX := hide' fx
  have hxl := s1.1
  have hn1 := hide' h1
  clear fx
  go_enter Try.func5, Try.ntmps5
  go_wp2_with fail
  refine (hP.make _).mono ?_
  rintro e w1 ⟨u, G, rfl, hJ, hG, hb⟩
  obtain ⟨p, rfl⟩ := hP.base.ptr hJ
  have M0 : ObjIn PI w G (.pointer (some p)) (true, none, 0) w1 := ⟨hJ, hG, hb⟩
  clear hJ hG hb
  go_wp2_with fail
  refine (smake_at hO (some p) 100 rfl (by decide) _).mono ?_
  rintro e w2 ⟨v, F, rfl, hI, hF, hb⟩
  obtain ⟨a, rfl⟩ := (hO.base _).ptr hI
  have M : Dev PI SI (some p) w F (.pointer (some a)) ⟨List.replicate 100 0, [], []⟩ G 0 w2 := (M0.duo hP.base hI hF hb).swap
  clear hI hF hb M0
  have hR : (List.replicate 100 (0 : Int)).length = 100 := by simp
  generalize List.replicate 100 (0 : Int) = R at *
  replace hR := hide' hR
  -- what is handed in: a copy
  have hb : Below w2.heap.size w2 (w2.alloc (.cells #[] 5)) := (Below.refl _ _).alloc (Nat.le_refl _) _
  have hlit : (w2.alloc (.cells #[] 5)).ownsRow w2.heap.size 5 1 (.slice (some ⟨w2.heap.size, 0, none⟩) 0 0) 0 (([] : List Int).map (Value.int .u8)) :=
    World.ownsRow_lit (base := w2.heap.size) (e := 5) (size := 1) w2 #[] 0 (Nat.le_refl _) (by decide) rfl
  go_wp2_with (at_builtin; refine wpList_app rfl _ _ rfl w2.heap.size _ 0 [] rfl hlit x n c xs rfl ((s1.below M.hB).below hb) HX.out.2.2 (by omega) hb.size ?_)
  intro v3 w3 own3 hb3 hv3
  replace hv3 := own_not_nil own3 (by have := hn1.out; omega)
  replace hb := hb.trans hb3
  obtain ⟨gi, ci, rfl, hgi, hgil, hgic, hgicm, hati⟩ := own_bytes hxl own3 hv3
  have fri := own_frozen own3
  have hnF : ¬ F gi ∧ ¬ G gi := ⟨fun hf => by have := (hO.base _).lt M.one gi hf; omega, fun hg => by have := hP.base.lt M.two gi hg; omega⟩
  have hwg : w.heap.size ≤ gi := Nat.le_trans M.hB.size hgi
  have sI : SIn (fun k => ¬ F k ∧ ¬ G k) w3 (some ⟨gi, 0, none⟩) n xs := ⟨hxl, fun _ => ⟨gi, 0, rfl, hgil, hnF, hati⟩⟩
  replace M := M.quiet (hO.base _) hP.base hb
  clear hb hb3 hlit own3 hv3 hati hgi
  have hfi : Fit (some ⟨gi, 0, none⟩) n ci := ⟨hgic, hgicm, fun e => by cases e⟩
  go_wp2_with fail
  refine (swrite_at hO (some p) F G _ (st' := ⟨R, [(0, xs)], [(0, xs)]⟩) 0 n ci _ xs rfl rfl (by show 0 + n ≤ R.length; have := hR.out; omega) (Nat.zero_le _) (by decide) hfi bx _ M sI).mono ?_
  rintro e w4 ⟨F4, G4, rfl, hK⟩
  have hnF4 : ¬ F4 gi ∧ ¬ G4 gi := ⟨fun h => (hK.sub1 gi h).elim hnF.1 (fun e => by omega), fun h => (hK.sub2 gi h).elim hnF.2 (fun e => by omega)⟩
  have hgn : ¬ (F gi ∨ G gi) := fun h => h.elim hnF.1 hnF.2
  have fr0 := (hK.off.frozen (p := ⟨gi, 0, none⟩) hgil hgn).trans (fri 0)
  have hc0 : w4.cell? ⟨gi, 0, none⟩ = some (.int .u8 (xs.getD 0 0)) := by
    obtain ⟨b, o, e, hl, hg, hc⟩ := sin_head sI hn1.out
    obtain ⟨rfl, rfl⟩ : gi = b ∧ 0 = o := by simpa using e
    exact (hK.off.cell (p := ⟨gi, 0, none⟩) hl hgn).trans hc
  replace M := M.both hK
  clear hK sI fri hnF hgn hgic hgicm hfi
  generalize xs.getD 0 0 = x0 at hc0
  go_wp2_with fail
  clear fr0 hc0
  generalize bits BinOp.xor IntKind.u8 x0 255 = u0
  have hot : Off (fun k => k = gi) w4 (w4.setCell ⟨gi, 0, none⟩ (.int .u8 u0)) := Off.one _ _ _ _
  replace M := M.off (hO.base _) hP.base hot (fun k h e => hnF4.1 (e ▸ h)) (fun k h e => hnF4.2 (e ▸ h)) (fun k h => h ▸ hwg)
  clear hot hnF4 hwg hgil
  generalize w4.setCell ⟨gi, 0, none⟩ (.int .u8 u0) = w5 at *
  refine (sread_at hO (some p) F4 G4 _ 0 n (ys := xs) rfl rfl (by exact cur_read R xs n hxl) (by show 0 + n ≤ R.length; have := hR.out; omega) _ M).mono ?_
  rintro e w6 ⟨z, cz, F6, rfl, hK, sR, fR, hsoft⟩
  obtain ⟨bz, oz, rfl, hbzl, hbz, hcz⟩ := sin_head sR hn1.out
  have frz : ∀ i, w6.frozen? ⟨bz, i, none⟩ = false := fun i => hsoft bz i hbz.1
  have hwz : w.heap.size ≤ bz := Nat.le_trans M.hB.size hbz.1
  replace sR := sR.newD hP.base M
  replace M := M.o1 hP.base hK
  clear hK hsoft hbz hcz
  go_wp2_with fail
  refine (strace_one hO (some p) F6 _ R [(0, xs)] 0 xs n hxl _ M.one).mono ?_
  rintro e wr ⟨bt, ot, ct, F7, y, cy, rfl, hct1, hK, htl, hbt, hct, sY, fY, hsoft⟩
  have hbzF : ¬ F6 bz ∧ ¬ G4 bz := by
    obtain ⟨b', o', e, _, hn, _⟩ := sR.2 (by have := hn1.out; omega)
    obtain ⟨rfl, rfl⟩ : bz = b' ∧ oz = o' := by simpa using e
    exact hn
  have hbzF7 : ¬ F7 bz := fun h => (hK.sub bz h).elim hbzF.1 (fun e => by omega)
  have hne : bt ≠ bz := by omega
  replace frz : ∀ i, wr.frozen? ⟨bz, i, none⟩ = false := fun i => (hK.off.frozen (p := ⟨bz, i, none⟩) hbzl hbzF.1).trans (frz i)
  have hsz := hK.off.size
  have hG6 : ∀ k, G4 k → k < w6.heap.size := hP.base.lt M.two
  replace sR := hK.sin sR
  replace M := M.o1 hP.base hK
  clear hK
  go_wp2_with fail
  have sx := s1.below M.hB
  refine wp_region_held_drew (S := fun w' => Below wr.heap.size wr w') (by kernel_rfl) (Below.refl _ _).drew (fun hHeld => ?_)
  refine takeM 0 46 6 rfl rfl rfl (by kernel_rfl) (by kernel_rfl) (by kernel_rfl) (fun _ _ _ h => h) (by rfl) hHeld rfl ?_
  simp only [List.set_cons_succ, List.set_cons_zero]
  refine takeL 1 47 (v := ?_) rfl rfl (by kernel_rfl) (by kernel_rfl) (by kernel_rfl) (fun _ _ _ h => h) (by rfl) hHeld (fun w hSw => ?_) ?_
  rotate_left 1
  · (try dsimp only at hSw)
    clear hSw
    go_simp
    try with_reducible rfl
  simp only [List.set_cons_succ, List.set_cons_zero]
  refine takeM 2 48 47 rfl rfl rfl (by kernel_rfl) (by kernel_rfl) (by kernel_rfl) (fun _ _ _ h => h) (by rfl) hHeld rfl ?_
  simp only [List.set_cons_succ, List.set_cons_zero]
  refine takeM 3 49 5 rfl rfl rfl (by kernel_rfl) (by kernel_rfl) (by kernel_rfl) (fun _ _ _ h => h) (by rfl) hHeld rfl ?_
  simp only [List.set_cons_succ, List.set_cons_zero]
  refine takeL 4 50 (v := ?_) rfl rfl (by kernel_rfl) (by kernel_rfl) (by kernel_rfl) (fun _ _ _ h => h) (by rfl) hHeld (fun w hSw => ?_) ?_
  rotate_left 1
  · (try dsimp only at hSw)
    have e0_ := fun c => (sR.sat.below hSw).conv (c := c)
    clear hSw
    go_simp
    try with_reducible rfl
  simp only [List.set_cons_succ, List.set_cons_zero]
  refine takeM 5 51 0 rfl rfl rfl (by kernel_rfl) (by kernel_rfl) (by kernel_rfl) (fun _ _ _ h => h) (by rfl) hHeld rfl ?_
  simp only [List.set_cons_succ, List.set_cons_zero]
  refine takeL 6 52 (v := ?_) rfl rfl (by kernel_rfl) (by kernel_rfl) (by kernel_rfl) (fun _ _ _ h => h) (by rfl) hHeld (fun w hSw => ?_) ?_
  rotate_left 1
  · (try dsimp only at hSw)
    have e0_ := fun c => (sx.below hSw).conv (c := c)
    clear hSw
    go_simp
    try with_reducible rfl
  simp only [List.set_cons_succ, List.set_cons_zero]
  refine takeL 7 53 (v := .bool false) rfl rfl (by kernel_rfl) (by kernel_rfl) (by kernel_rfl) (fun _ _ _ h => h) (by rfl) hHeld (fun w hSw => ?_) ?_
  · (try dsimp only at hSw)
    have hss := str_self xs
    clear hSw
    go_simp
  simp only [List.set_cons_succ, List.set_cons_zero]
  refine takeL 8 54 (v := ?_) rfl rfl (by kernel_rfl) (by kernel_rfl) (by kernel_rfl) (fun _ _ _ h => h) (by rfl) hHeld (fun w hSw => ?_) ?_
  rotate_left 1
  · (try dsimp only at hSw)
    clear hSw
    go_simp
    try with_reducible rfl
  simp only [List.set_cons_succ, List.set_cons_zero]
  refine takeM 9 55 54 rfl rfl rfl (by kernel_rfl) (by kernel_rfl) (by kernel_rfl) (fun _ _ _ h => h) (by rfl) hHeld rfl ?_
  simp only [List.set_cons_succ, List.set_cons_zero]
  refine takeM 10 56 7 rfl rfl rfl (by kernel_rfl) (by kernel_rfl) (by kernel_rfl) (fun _ _ _ h => h) (by rfl) hHeld rfl ?_
  simp only [List.set_cons_succ, List.set_cons_zero]
  refine takeL 11 57 (v := ?_) rfl rfl (by kernel_rfl) (by kernel_rfl) (by kernel_rfl) (fun _ _ _ h => h) (by rfl) hHeld (fun w hSw => ?_) ?_
  rotate_left 1
  · (try dsimp only at hSw)
    clear hSw
    go_simp
    try with_reducible rfl
  simp only [List.set_cons_succ, List.set_cons_zero]
  refine takeL 12 58 (v := ?_) rfl rfl (by kernel_rfl) (by kernel_rfl) (by kernel_rfl) (fun _ _ _ h => h) (by rfl) hHeld (fun w hSw => ?_) ?_
  rotate_left 1
  · (try dsimp only at hSw)
    clear hSw
    go_simp
    try with_reducible rfl
  simp only [List.set_cons_succ, List.set_cons_zero]
  refine takeL 13 59 (v := ?_) rfl rfl (by kernel_rfl) (by kernel_rfl) (by kernel_rfl) (fun _ _ _ h => h) (by rfl) hHeld (fun w hSw => ?_) ?_
  rotate_left 1
  · (try dsimp only at hSw)
    clear hSw
    go_simp
    try with_reducible rfl
  simp only [List.set_cons_succ, List.set_cons_zero]
  refine takeM 14 60 59 rfl rfl rfl (by kernel_rfl) (by kernel_rfl) (by kernel_rfl) (fun _ _ _ h => h) (by rfl) hHeld rfl ?_
  simp only [List.set_cons_succ, List.set_cons_zero]
  refine takeM 15 61 7 rfl rfl rfl (by kernel_rfl) (by kernel_rfl) (by kernel_rfl) (fun _ _ _ h => h) (by rfl) hHeld rfl ?_
  simp only [List.set_cons_succ, List.set_cons_zero]
  refine takeL 16 62 (v := ?_) rfl rfl (by kernel_rfl) (by kernel_rfl) (by kernel_rfl) (fun _ _ _ h => h) (by rfl) hHeld (fun w hSw => ?_) ?_
  rotate_left 1
  · (try dsimp only at hSw)
    clear hSw
    go_simp
    try with_reducible rfl
  simp only [List.set_cons_succ, List.set_cons_zero]
  refine takeL 17 63 (v := ?_) rfl rfl (by kernel_rfl) (by kernel_rfl) (by kernel_rfl) (fun _ _ _ h => h) (by rfl) hHeld (fun w hSw => ?_) ?_
  rotate_left 1
  · (try dsimp only at hSw)
    clear hSw
    go_simp
    try with_reducible rfl
  simp only [List.set_cons_succ, List.set_cons_zero]
  refine takeL 18 64 (v := ?_) rfl rfl (by kernel_rfl) (by kernel_rfl) (by kernel_rfl) (fun _ _ _ h => h) (by rfl) hHeld (fun w hSw => ?_) ?_
  rotate_left 1
  · (try dsimp only at hSw)
    have e0_ := (hSw.cell (p := ⟨bt, ot + 1, none⟩) htl).trans hct
    clear hSw
    go_simp
    try with_reducible rfl
  simp only [List.set_cons_succ, List.set_cons_zero]
  refine takeL 19 65 (v := ?_) rfl rfl (by kernel_rfl) (by kernel_rfl) (by kernel_rfl) (fun _ _ _ h => h) (by rfl) hHeld (fun w hSw => ?_) ?_
  rotate_left 1
  · (try dsimp only at hSw)
    have e0_ := fun c => (sY.sat.below hSw).conv (c := c)
    clear hSw
    go_simp
    try with_reducible rfl
  simp only [List.set_cons_succ, List.set_cons_zero]
  refine takeM 20 66 0 rfl rfl rfl (by kernel_rfl) (by kernel_rfl) (by kernel_rfl) (fun _ _ _ h => h) (by rfl) hHeld rfl ?_
  simp only [List.set_cons_succ, List.set_cons_zero]
  refine takeL 21 67 (v := ?_) rfl rfl (by kernel_rfl) (by kernel_rfl) (by kernel_rfl) (fun _ _ _ h => h) (by rfl) hHeld (fun w hSw => ?_) ?_
  rotate_left 1
  · (try dsimp only at hSw)
    have e0_ := fun c => (sx.below hSw).conv (c := c)
    clear hSw
    go_simp
    try with_reducible rfl
  simp only [List.set_cons_succ, List.set_cons_zero]
  refine takeL 22 68 (v := .bool false) rfl rfl (by kernel_rfl) (by kernel_rfl) (by kernel_rfl) (fun _ _ _ h => h) (by rfl) hHeld (fun w hSw => ?_) ?_
  · (try dsimp only at hSw)
    have hss := str_self xs
    clear hSw
    go_simp
  simp only [List.set_cons_succ, List.set_cons_zero]
  refine takeL 23 69 (v := ?_) rfl rfl (by kernel_rfl) (by kernel_rfl) (by kernel_rfl) (fun _ _ _ h => h) (by rfl) hHeld (fun w hSw => ?_) ?_
  rotate_left 1
  · (try dsimp only at hSw)
    clear hSw
    go_simp
    try with_reducible rfl
  simp only [List.set_cons_succ, List.set_cons_zero]
  refine wpAnyH_done (by kernel_rfl) ?_ _
  clear hHeld sx
  have hdr : Off (fun _ => False) wr wr.drew := (Off.refl _ _).drew
  replace M := M.quiet (hO.base _) hP.base (Below.refl _ _).drew
  obtain ⟨bz', oz', e, hzl', hzn, hcz⟩ := sin_head (sR.off hdr (fun _ _ _ h => h)) hn1.out
  obtain ⟨rfl, rfl⟩ : bz = bz' ∧ oz = oz' := by simpa using e
  replace frz : wr.drew.frozen? ⟨bz, oz, none⟩ = false := frz oz
  obtain ⟨by_, oy, rfl, hyl, hyn, hcy⟩ := sin_head (sY.off hdr (fun _ _ _ h => h)) hn1.out
  have fry : wr.drew.frozen? ⟨by_, oy, none⟩ = false := hsoft by_ oy hyn.1
  have hyG : ¬ G4 by_ := fun hg => by
    have := hG6 by_ hg
    have := hyn.1
    omega
  have hney : by_ ≠ bz := by
    have := hyn.1
    omega
  replace hct : wr.drew.cell? ⟨bt, ot + 1, none⟩ = some (.slice (some ⟨by_, oy, none⟩) n cy) := hct
  clear hsoft sR sY e hdr
  clear hG6
  generalize wr.drew = wd at *
  generalize xs.getD 0 0 = x0 at *
  obtain ⟨u1, hu1⟩ : ∃ u1, bits BinOp.xor IntKind.u8 x0 255 = u1 := ⟨_, rfl⟩
  have hct' : (wd.setCell ⟨bz, oz, none⟩ (.int .u8 u1)).cell? ⟨bt, ot + 1, none⟩ = some (.slice (some ⟨by_, oy, none⟩) n cy) := by rw [World.cell?_setCell_other _ _ _ _ (by simp), hct]
  have hcy' : (wd.setCell ⟨bz, oz, none⟩ (.int .u8 u1)).cell? ⟨by_, oy, none⟩ = some (.int .u8 x0) := by rw [World.cell?_setCell_other _ _ _ _ (by simp), hcy]
  have hot : Off (fun k => k = bz ∨ k = by_) wd ((wd.setCell ⟨bz, oz, none⟩ (.int .u8 u1)).setCell ⟨by_, oy, none⟩ (.int .u8 u1)) := ((Off.refl (fun k => k = bz ∨ k = by_) wd).setCell (p := ⟨bz, oz, none⟩) (Or.inl (Or.inl rfl)) _).setCell (p := ⟨by_, oy, none⟩) (Or.inl (Or.inr rfl)) _
  have hwy : w.heap.size ≤ by_ := by
    have := hyn.1
    omega
  replace M := M.off (hO.base _) hP.base hot (fun k h e => e.elim (fun e => hzn.1 (e ▸ h)) (fun e => hyn.2 (e ▸ h))) (fun k h e => e.elim (fun e => hzn.2 (e ▸ h)) (fun e => hyG (e ▸ h))) (fun k h => h.elim (fun e => e ▸ hwz) (fun e => e ▸ hwy))
  clear hot hyn hzn hyG hwy hwz hbzF hbzF7 hne hney hct hcy
  go_wp2_with fail
  clear hct' hcy' hcz frz fry
  generalize (wd.setCell ⟨bz, oz, none⟩ (.int .u8 u1)).setCell ⟨by_, oy, none⟩ (.int .u8 u1) = w9 at *
  refine (sread_at hO (some p) F7 G4 _ 0 n (ys := xs) rfl rfl (by exact cur_read R xs n hxl) (by show 0 + n ≤ R.length; have := hR.out; omega) _ M).mono ?_
  rintro e w10 ⟨z2, cz2, F10, rfl, hK, sR, fR2, -⟩
  replace sR := sR.newD hP.base M
  replace M := M.o1 hP.base hK
  clear hK
  go_wp2_with fail
  refine (strace_one hO (some p) F10 _ R [(0, xs)] 0 xs n hxl _ M.one).mono ?_
  clear htl hbt hct1
  rintro e w11 ⟨bt, ot, ct, F11, y, cy, rfl, hct1, hK, htl, hbt, hct, sY, fY, -⟩
  replace sR := hK.sin sR
  replace M := M.o1 hP.base hK
  clear hK
  go_wp2_with fail
  refine (hO.readNil 0 0 _).mono ?_
  rintro e w12 ⟨⟨zn, cn, rfl⟩, hb⟩
  replace sR := sR.off (Off.of_below (F := fun _ => False) hb) (fun _ _ _ h => h)
  replace sY := sY.off (Off.of_below (F := fun _ => False) hb) (fun _ _ _ h => h)
  replace hct := (hb.cell (p := ⟨bt, ot + 1, none⟩) htl).trans hct
  replace htl := Nat.lt_of_lt_of_le htl hb.size
  replace M := M.quiet (hO.base _) hP.base hb
  clear hb
  go_wp2_with fail
  refine (hO.crashNil none 0 0 _).mono ?_
  rintro e wr ⟨rfl, hb⟩
  replace sR := sR.off (Off.of_below (F := fun _ => False) hb) (fun _ _ _ h => h)
  replace sY := sY.off (Off.of_below (F := fun _ => False) hb) (fun _ _ _ h => h)
  replace hct := (hb.cell (p := ⟨bt, ot + 1, none⟩) htl).trans hct
  replace htl := Nat.lt_of_lt_of_le htl hb.size
  replace M := M.quiet (hO.base _) hP.base hb
  clear hb
  go_wp2_with fail
  have sx := s1.below M.hB
  refine wp_region_held_drew (S := fun w' => Below wr.heap.size wr w') (by kernel_rfl) (Below.refl _ _).drew (fun hHeld => ?_)
  refine takeM 0 99 5 rfl rfl rfl (by kernel_rfl) (by kernel_rfl) (by kernel_rfl) (fun _ _ _ h => h) (by rfl) hHeld rfl ?_
  simp only [List.set_cons_succ, List.set_cons_zero]
  refine takeL 1 100 (v := ?_) rfl rfl (by kernel_rfl) (by kernel_rfl) (by kernel_rfl) (fun _ _ _ h => h) (by rfl) hHeld (fun w hSw => ?_) ?_
  rotate_left 1
  · (try dsimp only at hSw)
    have e0_ := fun c => (sR.sat.below hSw).conv (c := c)
    clear hSw
    go_simp
    try with_reducible rfl
  simp only [List.set_cons_succ, List.set_cons_zero]
  refine takeM 2 101 0 rfl rfl rfl (by kernel_rfl) (by kernel_rfl) (by kernel_rfl) (fun _ _ _ h => h) (by rfl) hHeld rfl ?_
  simp only [List.set_cons_succ, List.set_cons_zero]
  refine takeL 3 102 (v := ?_) rfl rfl (by kernel_rfl) (by kernel_rfl) (by kernel_rfl) (fun _ _ _ h => h) (by rfl) hHeld (fun w hSw => ?_) ?_
  rotate_left 1
  · (try dsimp only at hSw)
    have e0_ := fun c => (sx.below hSw).conv (c := c)
    clear hSw
    go_simp
    try with_reducible rfl
  simp only [List.set_cons_succ, List.set_cons_zero]
  refine takeL 4 103 (v := .bool true) rfl rfl (by kernel_rfl) (by kernel_rfl) (by kernel_rfl) (fun _ _ _ h => h) (by rfl) hHeld (fun w hSw => ?_) ?_
  · (try dsimp only at hSw)
    have hss := str_self xs
    clear hSw
    go_simp
  simp only [List.set_cons_succ, List.set_cons_zero]
  refine takeM 5 104 103 rfl rfl rfl (by kernel_rfl) (by kernel_rfl) (by kernel_rfl) (fun _ _ _ h => h) (by rfl) hHeld rfl ?_
  simp only [List.set_cons_succ, List.set_cons_zero]
  refine takeM 6 105 7 rfl rfl rfl (by kernel_rfl) (by kernel_rfl) (by kernel_rfl) (fun _ _ _ h => h) (by rfl) hHeld rfl ?_
  simp only [List.set_cons_succ, List.set_cons_zero]
  refine takeL 7 106 (v := ?_) rfl rfl (by kernel_rfl) (by kernel_rfl) (by kernel_rfl) (fun _ _ _ h => h) (by rfl) hHeld (fun w hSw => ?_) ?_
  rotate_left 1
  · (try dsimp only at hSw)
    clear hSw
    go_simp
    try with_reducible rfl
  simp only [List.set_cons_succ, List.set_cons_zero]
  refine takeL 8 107 (v := ?_) rfl rfl (by kernel_rfl) (by kernel_rfl) (by kernel_rfl) (fun _ _ _ h => h) (by rfl) hHeld (fun w hSw => ?_) ?_
  rotate_left 1
  · (try dsimp only at hSw)
    clear hSw
    go_simp
    try with_reducible rfl
  simp only [List.set_cons_succ, List.set_cons_zero]
  refine takeL 9 108 (v := ?_) rfl rfl (by kernel_rfl) (by kernel_rfl) (by kernel_rfl) (fun _ _ _ h => h) (by rfl) hHeld (fun w hSw => ?_) ?_
  rotate_left 1
  · (try dsimp only at hSw)
    clear hSw
    go_simp
    try with_reducible rfl
  simp only [List.set_cons_succ, List.set_cons_zero]
  refine takeM 10 109 108 rfl rfl rfl (by kernel_rfl) (by kernel_rfl) (by kernel_rfl) (fun _ _ _ h => h) (by rfl) hHeld rfl ?_
  simp only [List.set_cons_succ, List.set_cons_zero]
  refine takeM 11 110 7 rfl rfl rfl (by kernel_rfl) (by kernel_rfl) (by kernel_rfl) (fun _ _ _ h => h) (by rfl) hHeld rfl ?_
  simp only [List.set_cons_succ, List.set_cons_zero]
  refine takeL 12 111 (v := ?_) rfl rfl (by kernel_rfl) (by kernel_rfl) (by kernel_rfl) (fun _ _ _ h => h) (by rfl) hHeld (fun w hSw => ?_) ?_
  rotate_left 1
  · (try dsimp only at hSw)
    clear hSw
    go_simp
    try with_reducible rfl
  simp only [List.set_cons_succ, List.set_cons_zero]
  refine takeL 13 112 (v := ?_) rfl rfl (by kernel_rfl) (by kernel_rfl) (by kernel_rfl) (fun _ _ _ h => h) (by rfl) hHeld (fun w hSw => ?_) ?_
  rotate_left 1
  · (try dsimp only at hSw)
    clear hSw
    go_simp
    try with_reducible rfl
  simp only [List.set_cons_succ, List.set_cons_zero]
  refine takeL 14 113 (v := ?_) rfl rfl (by kernel_rfl) (by kernel_rfl) (by kernel_rfl) (fun _ _ _ h => h) (by rfl) hHeld (fun w hSw => ?_) ?_
  rotate_left 1
  · (try dsimp only at hSw)
    have e0_ := (hSw.cell (p := ⟨bt, ot + 1, none⟩) htl).trans hct
    clear hSw
    go_simp
    try with_reducible rfl
  simp only [List.set_cons_succ, List.set_cons_zero]
  refine takeL 15 114 (v := ?_) rfl rfl (by kernel_rfl) (by kernel_rfl) (by kernel_rfl) (fun _ _ _ h => h) (by rfl) hHeld (fun w hSw => ?_) ?_
  rotate_left 1
  · (try dsimp only at hSw)
    have e0_ := fun c => (sY.sat.below hSw).conv (c := c)
    clear hSw
    go_simp
    try with_reducible rfl
  simp only [List.set_cons_succ, List.set_cons_zero]
  refine takeM 16 115 0 rfl rfl rfl (by kernel_rfl) (by kernel_rfl) (by kernel_rfl) (fun _ _ _ h => h) (by rfl) hHeld rfl ?_
  simp only [List.set_cons_succ, List.set_cons_zero]
  refine takeL 17 116 (v := ?_) rfl rfl (by kernel_rfl) (by kernel_rfl) (by kernel_rfl) (fun _ _ _ h => h) (by rfl) hHeld (fun w hSw => ?_) ?_
  rotate_left 1
  · (try dsimp only at hSw)
    have e0_ := fun c => (sx.below hSw).conv (c := c)
    clear hSw
    go_simp
    try with_reducible rfl
  simp only [List.set_cons_succ, List.set_cons_zero]
  refine takeL 18 117 (v := .bool true) rfl rfl (by kernel_rfl) (by kernel_rfl) (by kernel_rfl) (fun _ _ _ h => h) (by rfl) hHeld (fun w hSw => ?_) ?_
  · (try dsimp only at hSw)
    have hss := str_self xs
    clear hSw
    go_simp
  simp only [List.set_cons_succ, List.set_cons_zero]
  refine takeL 19 118 (v := ?_) rfl rfl (by kernel_rfl) (by kernel_rfl) (by kernel_rfl) (fun _ _ _ h => h) (by rfl) hHeld (fun w hSw => ?_) ?_
  rotate_left 1
  · (try dsimp only at hSw)
    clear hSw
    go_simp
    try with_reducible rfl
  simp only [List.set_cons_succ, List.set_cons_zero]
  refine takeM 20 119 118 rfl rfl rfl (by kernel_rfl) (by kernel_rfl) (by kernel_rfl) (fun _ _ _ h => h) (by rfl) hHeld rfl ?_
  simp only [List.set_cons_succ, List.set_cons_zero]
  refine takeM 21 120 10 rfl rfl rfl (by kernel_rfl) (by kernel_rfl) (by kernel_rfl) (fun _ _ _ h => h) (by rfl) hHeld rfl ?_
  simp only [List.set_cons_succ, List.set_cons_zero]
  refine takeL 22 121 (v := ?_) rfl rfl (by kernel_rfl) (by kernel_rfl) (by kernel_rfl) (fun _ _ _ h => h) (by rfl) hHeld (fun w hSw => ?_) ?_
  rotate_left 1
  · (try dsimp only at hSw)
    clear hSw
    go_simp
    try with_reducible rfl
  simp only [List.set_cons_succ, List.set_cons_zero]
  refine takeL 23 122 (v := ?_) rfl rfl (by kernel_rfl) (by kernel_rfl) (by kernel_rfl) (fun _ _ _ h => h) (by rfl) hHeld (fun w hSw => ?_) ?_
  rotate_left 1
  · (try dsimp only at hSw)
    clear hSw
    go_simp
    try with_reducible rfl
  simp only [List.set_cons_succ, List.set_cons_zero]
  refine takeM 24 123 122 rfl rfl rfl (by kernel_rfl) (by kernel_rfl) (by kernel_rfl) (fun _ _ _ h => h) (by rfl) hHeld rfl ?_
  simp only [List.set_cons_succ, List.set_cons_zero]
  refine takeM 25 124 8 rfl rfl rfl (by kernel_rfl) (by kernel_rfl) (by kernel_rfl) (fun _ _ _ h => h) (by rfl) hHeld rfl ?_
  simp only [List.set_cons_succ, List.set_cons_zero]
  refine onlyL 26 rfl (by kernel_rfl) (by rfl) (fun K hK0 => ?_)
  go_wp2_with fail
  refine (hO.writeNil 0 none 0 0 _).mono ?_
  rintro e v1 ⟨rfl, hb⟩
  have hHeld2 := hHeld.trans (hb.mono hHeld.size)
  clear hHeld hb
  refine hK0.out _ _ hHeld2 (fun hHeld => ?_)
  clear hHeld2 hK0 K
  refine takeL 27 126 (v := ?_) rfl rfl (by kernel_rfl) (by kernel_rfl) (by kernel_rfl) (fun _ _ _ h => h) (by rfl) hHeld (fun w hSw => ?_) ?_
  rotate_left 1
  · (try dsimp only at hSw)
    clear hSw
    go_simp
    try with_reducible rfl
  simp only [List.set_cons_succ, List.set_cons_zero]
  refine takeL 28 127 (v := ?_) rfl rfl (by kernel_rfl) (by kernel_rfl) (by kernel_rfl) (fun _ _ _ h => h) (by rfl) hHeld (fun w hSw => ?_) ?_
  rotate_left 1
  · (try dsimp only at hSw)
    clear hSw
    go_simp
    try with_reducible rfl
  simp only [List.set_cons_succ, List.set_cons_zero]
  refine takeM 29 128 127 rfl rfl rfl (by kernel_rfl) (by kernel_rfl) (by kernel_rfl) (fun _ _ _ h => h) (by rfl) hHeld rfl ?_
  simp only [List.set_cons_succ, List.set_cons_zero]
  refine takeM 30 129 8 rfl rfl rfl (by kernel_rfl) (by kernel_rfl) (by kernel_rfl) (fun _ _ _ h => h) (by rfl) hHeld rfl ?_
  simp only [List.set_cons_succ, List.set_cons_zero]
  refine onlyL 31 rfl (by kernel_rfl) (by rfl) (fun K hK0 => ?_)
  go_wp2_with fail
  refine (hO.barrierNil _).mono ?_
  rintro e v2 ⟨rfl, hb⟩
  have hHeld2 := hHeld.trans (hb.mono hHeld.size)
  clear hHeld hb
  refine hK0.out _ _ hHeld2 (fun hHeld => ?_)
  clear hHeld2 hK0 K
  refine takeL 32 131 (v := ?_) rfl rfl (by kernel_rfl) (by kernel_rfl) (by kernel_rfl) (fun _ _ _ h => h) (by rfl) hHeld (fun w hSw => ?_) ?_
  rotate_left 1
  · (try dsimp only at hSw)
    clear hSw
    go_simp
    try with_reducible rfl
  simp only [List.set_cons_succ, List.set_cons_zero]
  refine takeL 33 132 (v := ?_) rfl rfl (by kernel_rfl) (by kernel_rfl) (by kernel_rfl) (fun _ _ _ h => h) (by rfl) hHeld (fun w hSw => ?_) ?_
  rotate_left 1
  · (try dsimp only at hSw)
    clear hSw
    go_simp
    try with_reducible rfl
  simp only [List.set_cons_succ, List.set_cons_zero]
  refine takeM 34 133 132 rfl rfl rfl (by kernel_rfl) (by kernel_rfl) (by kernel_rfl) (fun _ _ _ h => h) (by rfl) hHeld rfl ?_
  simp only [List.set_cons_succ, List.set_cons_zero]
  refine takeM 35 134 8 rfl rfl rfl (by kernel_rfl) (by kernel_rfl) (by kernel_rfl) (fun _ _ _ h => h) (by rfl) hHeld rfl ?_
  simp only [List.set_cons_succ, List.set_cons_zero]
  refine onlyL 36 rfl (by kernel_rfl) (by rfl) (fun K hK0 => ?_)
  go_wp2_with fail
  refine (hO.smashNil 0 none 0 0 _).mono ?_
  rintro e v3 ⟨rfl, hb⟩
  have hHeld2 := hHeld.trans (hb.mono hHeld.size)
  clear hHeld hb
  refine hK0.out _ _ hHeld2 (fun hHeld => ?_)
  clear hHeld2 hK0 K
  refine takeL 37 136 (v := ?_) rfl rfl (by kernel_rfl) (by kernel_rfl) (by kernel_rfl) (fun _ _ _ h => h) (by rfl) hHeld (fun w hSw => ?_) ?_
  rotate_left 1
  · (try dsimp only at hSw)
    clear hSw
    go_simp
    try with_reducible rfl
  simp only [List.set_cons_succ, List.set_cons_zero]
  refine takeL 38 137 (v := ?_) rfl rfl (by kernel_rfl) (by kernel_rfl) (by kernel_rfl) (fun _ _ _ h => h) (by rfl) hHeld (fun w hSw => ?_) ?_
  rotate_left 1
  · (try dsimp only at hSw)
    clear hSw
    go_simp
    try with_reducible rfl
  simp only [List.set_cons_succ, List.set_cons_zero]
  refine takeM 39 138 137 rfl rfl rfl (by kernel_rfl) (by kernel_rfl) (by kernel_rfl) (fun _ _ _ h => h) (by rfl) hHeld rfl ?_
  simp only [List.set_cons_succ, List.set_cons_zero]
  refine takeM 40 139 8 rfl rfl rfl (by kernel_rfl) (by kernel_rfl) (by kernel_rfl) (fun _ _ _ h => h) (by rfl) hHeld rfl ?_
  simp only [List.set_cons_succ, List.set_cons_zero]
  refine onlyL 41 rfl (by kernel_rfl) (by rfl) (fun K hK0 => ?_)
  go_wp2_with fail
  refine (hO.backNil none 0 0 _).mono ?_
  rintro e v4 ⟨rfl, hb⟩
  have hHeld2 := hHeld.trans (hb.mono hHeld.size)
  clear hHeld hb
  refine hK0.out _ _ hHeld2 (fun hHeld => ?_)
  clear hHeld2 hK0 K
  refine takeL 42 141 (v := ?_) rfl rfl (by kernel_rfl) (by kernel_rfl) (by kernel_rfl) (fun _ _ _ h => h) (by rfl) hHeld (fun w hSw => ?_) ?_
  rotate_left 1
  · (try dsimp only at hSw)
    clear hSw
    go_simp
    try with_reducible rfl
  simp only [List.set_cons_succ, List.set_cons_zero]
  refine takeL 43 142 (v := ?_) rfl rfl (by kernel_rfl) (by kernel_rfl) (by kernel_rfl) (fun _ _ _ h => h) (by rfl) hHeld (fun w hSw => ?_) ?_
  rotate_left 1
  · (try dsimp only at hSw)
    clear hSw
    go_simp
    try with_reducible rfl
  simp only [List.set_cons_succ, List.set_cons_zero]
  refine takeM 44 143 142 rfl rfl rfl (by kernel_rfl) (by kernel_rfl) (by kernel_rfl) (fun _ _ _ h => h) (by rfl) hHeld rfl ?_
  simp only [List.set_cons_succ, List.set_cons_zero]
  refine takeM 45 144 8 rfl rfl rfl (by kernel_rfl) (by kernel_rfl) (by kernel_rfl) (fun _ _ _ h => h) (by rfl) hHeld rfl ?_
  simp only [List.set_cons_succ, List.set_cons_zero]
  refine takeM 48 147 8 rfl rfl rfl (by kernel_rfl) (by kernel_rfl) (by kernel_rfl) (fun _ _ _ h => h) (by rfl) hHeld rfl ?_
  simp only [List.set_cons_succ, List.set_cons_zero]
  refine takeM 52 151 8 rfl rfl rfl (by kernel_rfl) (by kernel_rfl) (by kernel_rfl) (fun _ _ _ h => h) (by rfl) hHeld rfl ?_
  simp only [List.set_cons_succ, List.set_cons_zero]
  refine onlyL 46 rfl (by kernel_rfl) (by rfl) (fun K hK0 => ?_)
  go_wp2_with fail
  refine (hO.snapNil _).mono ?_
  rintro e v5 ⟨⟨q1, q2, rfl⟩, hb⟩
  have hHeld2 := hHeld.trans (hb.mono hHeld.size)
  clear hHeld hb
  refine hK0.out _ _ hHeld2 (fun hHeld => ?_)
  clear hHeld2 hK0 K
  refine takeL 47 146 (v := ?_) rfl rfl (by kernel_rfl) (by kernel_rfl) (by kernel_rfl) (fun _ _ _ h => h) (by rfl) hHeld (fun w hSw => ?_) ?_
  rotate_left 1
  · (try dsimp only at hSw)
    clear hSw
    go_simp
    try with_reducible rfl
  simp only [List.set_cons_succ, List.set_cons_zero]
  refine onlyL 49 rfl (by kernel_rfl) (by rfl) (fun K hK0 => ?_)
  go_wp2_with fail
  refine (hO.traceNil _).mono ?_
  rintro e v6 ⟨⟨q3, q4, rfl⟩, hb⟩
  have hHeld2 := hHeld.trans (hb.mono hHeld.size)
  clear hHeld hb
  refine hK0.out _ _ hHeld2 (fun hHeld => ?_)
  clear hHeld2 hK0 K
  refine takeL 50 149 (v := ?_) rfl rfl (by kernel_rfl) (by kernel_rfl) (by kernel_rfl) (fun _ _ _ h => h) (by rfl) hHeld (fun w hSw => ?_) ?_
  rotate_left 1
  · (try dsimp only at hSw)
    clear hSw
    go_simp
    try with_reducible rfl
  simp only [List.set_cons_succ, List.set_cons_zero]
  refine takeL 51 150 (v := ?_) rfl rfl (by kernel_rfl) (by kernel_rfl) (by kernel_rfl) (fun _ _ _ h => h) (by rfl) hHeld (fun w hSw => ?_) ?_
  rotate_left 1
  · (try dsimp only at hSw)
    clear hSw
    go_simp
    try with_reducible rfl
  simp only [List.set_cons_succ, List.set_cons_zero]
  refine onlyL 53 rfl (by kernel_rfl) (by rfl) (fun K hK0 => ?_)
  go_wp2_with fail
  refine (hO.sizeNil _).mono ?_
  rintro e v7 ⟨rfl, hb⟩
  have hHeld2 := hHeld.trans (hb.mono hHeld.size)
  clear hHeld hb
  refine hK0.out _ _ hHeld2 (fun hHeld => ?_)
  clear hHeld2 hK0 K
  refine takeL 54 153 (v := ?_) rfl rfl (by kernel_rfl) (by kernel_rfl) (by kernel_rfl) (fun _ _ _ h => h) (by rfl) hHeld (fun w hSw => ?_) ?_
  rotate_left 1
  · (try dsimp only at hSw)
    clear hSw
    go_simp
    try with_reducible rfl
  simp only [List.set_cons_succ, List.set_cons_zero]
  refine takeL 55 154 (v := ?_) rfl rfl (by kernel_rfl) (by kernel_rfl) (by kernel_rfl) (fun _ _ _ h => h) (by rfl) hHeld (fun w hSw => ?_) ?_
  rotate_left 1
  · (try dsimp only at hSw)
    clear hSw
    go_simp
    try with_reducible rfl
  simp only [List.set_cons_succ, List.set_cons_zero]
  refine takeL 56 155 (v := ?_) rfl rfl (by kernel_rfl) (by kernel_rfl) (by kernel_rfl) (fun _ _ _ h => h) (by rfl) hHeld (fun w hSw => ?_) ?_
  rotate_left 1
  · (try dsimp only at hSw)
    clear hSw
    go_simp
    try with_reducible rfl
  simp only [List.set_cons_succ, List.set_cons_zero]
  refine takeM 57 156 155 rfl rfl rfl (by kernel_rfl) (by kernel_rfl) (by kernel_rfl) (fun _ _ _ h => h) (by rfl) hHeld rfl ?_
  simp only [List.set_cons_succ, List.set_cons_zero]
  refine onlyL 58 rfl (by kernel_rfl) (by rfl) (fun K hK0 => ?_)
  go_wp2_with fail
  refine (sknown hP hO _).mono ?_
  rintro e v8 ⟨rfl, hb⟩
  have hHeld2 := hHeld.trans (hb.mono hHeld.size)
  clear hHeld hb
  refine hK0.out _ _ hHeld2 (fun hHeld => ?_)
  clear hHeld2 hK0 K
  refine takeL 59 158 (v := ?_) rfl rfl (by kernel_rfl) (by kernel_rfl) (by kernel_rfl) (fun _ _ _ h => h) (by rfl) hHeld (fun w hSw => ?_) ?_
  rotate_left 1
  · (try dsimp only at hSw)
    clear hSw
    go_simp
    try with_reducible rfl
  simp only [List.set_cons_succ, List.set_cons_zero]
  refine takeA 60 2 158 rfl rfl rfl (by kernel_rfl) (by kernel_rfl) (by kernel_rfl) (fun _ _ _ h => h) (by rfl) hHeld rfl ?_
  simp only [List.set_cons_succ, List.set_cons_zero]
  refine wpAnyH_done (by kernel_rfl) ?_ _
  go_wp2
  go_ret
  exact ⟨rfl, M.hB.trans (hHeld.mono M.hB.size)⟩
theorem sown_any (hP : PowIs PI) (hO : SsdIs PI SI) (n c : Nat) (x : Option Addr) (xs : List Int) (bx : Bytes xs) (fx : Fit x n c) (w : World) (s1 : SAt w x n xs) :
    Calls Try.prog 5 #[.slice x n c] w fun e w' => e = .returned (.bool true) ∧ Below w.heap.size w w' := by
  by_cases h1 : n < 1
  · go_enter Try.func5, Try.ntmps5
    go_wp2
    go_ret
    exact ⟨rfl, Below.refl _ _⟩
  by_cases h2 : 50 < n
  · go_enter Try.func5, Try.ntmps5
    go_wp2
    go_ret
    exact ⟨rfl, Below.refl _ _⟩
  exact sown_in hP hO n c x xs (by omega) (by omega) bx fx w s1
end Go.Proofs.Ytcpplfclpigmkaa
