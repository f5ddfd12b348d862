/- DskImB DskImC PowC: texts laid together. -/
import Derived.Test.YtcjmmfgnnebgkaaM10
import Derived.Deep.WholeRow
import Derived.Test.YtcjmmfgnnebgkaaM09

/- The landed disk: Write, Barrier. -/
namespace Go.Proofs.Ytcjmmfgnnebgkaa
open Go.RowKit
set_option maxRecDepth 20000

set_option maxHeartbeats 2000000 in
theorem kwrite (p : Option Addr) (F G : Nat → Prop) (v : Value) (st : DskSt) (q : PSt) (lba c : Nat) (x : Option Addr) (xs : List Int) (hlba : lba < 32) (hno : st.no = false) (hT : st.T.length ≤ 100000) (hq : q.2.2 ≤ 1000000) (fx : Fit x 32 c) (bx : Bytes xs) (w : World) (hD : DkInv p F w v st) (hP : PwInv G w (.pointer p) q) (hd : ∀ k, F k → ¬ G k) (hx : SIn (fun k => ¬ F k ∧ ¬ G k) w x 32 xs) :
    Calls Try.prog 12 #[v, .int .i64 (lba : Int), .slice x 32 c] w fun e w' => ∃ F' G', e = .returned (.bool (pSpend q).1) ∧ KeptD (DkInv p) PwInv F G w v (.pointer p) F' G' w' (if (pSpend q).1 = true then st.write lba xs else st) (pSpend q).2 := by
  obtain ⟨b, FB, vD, f, rfl, h, hF⟩ := hD
  have HF := hide' hF
  clear hF
  have hbl := DkBox.lt h.box
  obtain ⟨⟨r, q'⟩, hr⟩ : ∃ x, pSpend q = x := ⟨_, rfl⟩
  rw [hr]
  rw [show (if (r, q').1 = true then st.write lba xs else st) = (if r = true then st.write lba xs else st) from rfl]
  rw [show (r, q').2 = q' from rfl, show (r, q').1 = r from rfl]
  obtain ⟨st', hst'⟩ : ∃ st', (if r = true then st.write lba xs else st) = st' := ⟨_, rfl⟩
  rw [hst']
  have HST := hide' hst'
  clear hst'
  have HX := hide' fx
  clear fx
  have hxl := hx.1
  have hi := khas b lba hlba w
  go_enter Try.func12, Try.ntmps12
  go_wp2_with fail
  refine hi.mono ?_
  clear hi
  rintro e w0 ⟨rfl, hb0⟩
  replace hb0 := hb0.b
  have k1 := DkBox.c1024 h.blk (DkBox.grown h.box hb0)
  have k2 := DkBox.c1025 h.blk (DkBox.grown h.box hb0)
  rw [hno] at k2
  have hP0 := pwbase.below hP hb0
  have hsp := pow_is.spend G _ q hq w0 hP0
  clear hP0
  rw [hr, show (r, q').2 = q' from rfl, show (r, q').1 = r from rfl] at hsp
  go_wp2_with fail
  refine hsp.mono ?_
  clear k1 k2 hsp hr
  rintro e w1 ⟨G1, rfl, hK⟩
  have hFG : ∀ k, KOwn FB b vD k → ¬ G k := fun k hk => hd k ((HF.out k).2 hk)
  have hoff1 : Off G w w1 := (Off.of_below (F := G) hb0).trans hK.off (fun _ hi => Or.inl hi)
  have hA := h.off hoff1 hFG
  have hP1 := hK.inv
  have hsub : Hid (∀ k, G1 k → G k ∨ w.heap.size ≤ k) := hide' (fun k hk => (hK.sub k hk).imp id (fun e => Nat.le_trans hb0.size e))
  have hGlt := hide' (pwbase.lt hP1)
  have hFG1 : ∀ k, KOwn FB b vD k → ¬ G1 k := fun k hk hg => (hsub.out k hg).elim (hFG k hk) (fun e => by have := h.olt k hk; omega)
  have hw1 := hoff1.size
  have hoff1' := hide' hoff1
  have hxs : SAt w1 x 32 xs := (hx.off hoff1 (fun _ _ h => h.2)).sat
  clear hK hP hb0 hoff1
  cases r
  · obtain rfl : st = st' := HST.out
    go_wp2
    go_ret
    have hpost : KeptD (DkInv p) PwInv F G w (.pointer (some ⟨b, 0, none⟩)) (.pointer p) F G1 w1 st q' := ⟨⟨b, FB, vD, f, rfl, hA, HF.out⟩, hP1, fun k hk => hFG1 k ((HF.out k).1 hk), fun _ h => Or.inl h, hsub.out, hoff1'.out.mono (fun _ h => Or.inl (Or.inr h))⟩
    first | exact ⟨rfl, _, _, hpost⟩ | exact ⟨_, _, rfl, hpost⟩
  obtain rfl : st.write lba xs = st' := HST.out
  obtain ⟨yD, cD, rfl, -, -, -⟩ := hA.ops.is
  generalize hmD : st.T.length = mD at *
  go_wp2_with fail
  refine startX (S := fun w' => Off (fun k => (Value.slice yD mD cD).ownBlock = some k) w1 w') 13 (by kernel_rfl) (Off.refl _ w1).drew (fun hHeld => ?_)
  refine moveY 0 30 0 rfl rfl rfl (by kernel_rfl) (by kernel_rfl) (by kernel_rfl) (fun _ _ _ h => h) (by rfl) (by kernel_rfl) (by kernel_rfl) (by decide) hHeld rfl ?_
  simp only [List.set_cons_succ, List.set_cons_zero]
  refine moveY 1 31 0 rfl rfl rfl (by kernel_rfl) (by kernel_rfl) (by kernel_rfl) (fun _ _ _ h => h) (by rfl) (by kernel_rfl) (by kernel_rfl) (by decide) hHeld rfl ?_
  simp only [List.set_cons_succ, List.set_cons_zero]
  refine takeY 2 32 (v := ?_) rfl rfl (by kernel_rfl) (by kernel_rfl) (by kernel_rfl) (fun _ _ _ h => h) (by rfl) (by kernel_rfl) (by kernel_rfl) (by decide) hHeld (fun w hSw => ?_) ?_
  rotate_left 1
  · (try dsimp only at hSw)
    clear hSw
    go_simp
    try with_reducible rfl
  simp only [List.set_cons_succ, List.set_cons_zero]
  refine takeY 3 33 (v := ?_) rfl rfl (by kernel_rfl) (by kernel_rfl) (by kernel_rfl) (fun _ _ _ h => h) (by rfl) (by kernel_rfl) (by kernel_rfl) (by decide) hHeld (fun w hSw => ?_) ?_
  rotate_left 1
  · (try dsimp only at hSw)
    clear hSw
    go_simp
    try with_reducible rfl
  simp only [List.set_cons_succ, List.set_cons_zero]
  refine takeY 4 34 (v := ?_) rfl rfl (by kernel_rfl) (by kernel_rfl) (by kernel_rfl) (fun _ _ _ h => h) (by rfl) (by kernel_rfl) (by kernel_rfl) (by decide) hHeld (fun w hSw => ?_) ?_
  rotate_left 1
  · (try dsimp only at hSw)
    have e0_ := DkBox.c1026 hA.blk (DkBox.off hA.box hSw (fun e => (hA.own b e).1 rfl))
    clear hSw
    go_simp
    try with_reducible rfl
  simp only [List.set_cons_succ, List.set_cons_zero]
  refine moveY 5 35 1 rfl rfl rfl (by kernel_rfl) (by kernel_rfl) (by kernel_rfl) (fun _ _ _ h => h) (by rfl) (by kernel_rfl) (by kernel_rfl) (by decide) hHeld rfl ?_
  simp only [List.set_cons_succ, List.set_cons_zero]
  refine moveY 6 36 2 rfl rfl rfl (by kernel_rfl) (by kernel_rfl) (by kernel_rfl) (fun _ _ _ h => h) (by rfl) (by kernel_rfl) (by kernel_rfl) (by decide) hHeld rfl ?_
  simp only [List.set_cons_succ, List.set_cons_zero]
  refine onlyX 7 rfl (by kernel_rfl) (by rfl) (fun K hK => ?_)
  go_wp2_with fail
  refine (iclone x 32 c xs (by omega) HX.out.2.2 _ (hxs.drew)).mono ?_
  rintro e w3 ⟨v3, rfl, own3, hc3⟩
  have hc : Clean w1 w3 := (Clean.refl w1).drew.trans hc3
  obtain ⟨z, cz, rfl, sz, hnz, hcz, hzn⟩ := own_sin hxl own3
  have oz := own_block own3
  refine hK.out _ _ (fun _ => Off.of_below hc.b) (fun _ => ?_)
  clear hK K hHeld hc3
  refine onlyX 8 rfl (by kernel_rfl) (by rfl) (fun K hK => ?_)
  go_wp2
  refine hK.out _ _ (fun _ => Off.of_below hc.b) (fun _ => ?_)
  clear hK K
  have hbx : CBox 62 (w3.alloc (.cells #[.int .i64 (lba : Int), .slice z 32 cz] 62)) w3.heap.size #[.int .i64 (lba : Int), .slice z 32 cz] := CBox.new _ _ _
  have hc4 : Clean w1 (w3.alloc (.cells #[.int .i64 (lba : Int), .slice z 32 cz] 62)) := hc.alloc _ _
  have sz4 := sz.off (F := fun _ => False) ((Off.refl _ w3).alloc (.cells #[.int .i64 (lba : Int), .slice z 32 cz] 62)) (fun _ _ _ h => h)
  have hs4 : w3.heap.size < (w3.alloc (.cells #[.int .i64 (lba : Int), .slice z 32 cz] 62)).heap.size := by rw [World.size_alloc]; omega
  refine onlyX 9 rfl (by kernel_rfl) (by rfl) (fun K hK => ?_)
  go_wp2_with fail
  refine hK.out _ _ (fun _ => Off.of_below hc4.b) (fun _ => ?_)
  clear hK K
  generalize w3.alloc (.cells #[.int .i64 (lba : Int), .slice z 32 cz] 62) = w4 at *
  have hz1 : w1.heap.size ≤ w3.heap.size := hc.b.size
  have hA4 := hA.below hc4.b
  have hFBz : ∀ k, (Value.slice yD mD cD).ownBlock = some k → ¬ (FB k ∨ (Value.slice z 32 cz).ownBlock = some k) := fun k hk h => h.elim (hA.own k hk).2 (fun h => by have := oz k h; have := hA.olt k (Or.inr (Or.inl hk)); have : w1.drew.heap.size = w1.heap.size := rfl; omega)
  refine onlyX 10 rfl (by kernel_rfl) (by rfl) (fun K hK => ?_)
  refine wp_op_app (.tmp 34) (.tmp 39) rfl (fun k => FB k ∨ (Value.slice z 32 cz).ownBlock = some k) (Value.slice yD mD cD) st.T rfl (hA4.ops.mono (fun _ _ h => Or.inl h)) hFBz w3.heap.size ((lba : Int), xs) (z, cz) rfl (CBox.cell hbx 0) (by show _ = some (Value.slice z xs.length cz); rw [hxl]; exact CBox.cell hbx 1) ⟨by show SIn _ _ z xs.length xs; rw [hxl]; exact sz4.mono (fun _ _ h => Or.inr h), by show Fit z xs.length cz; rw [hxl]; exact ⟨hnz, hcz, hzn⟩, bx⟩ (by omega) ?_
  intro v5 w5 h2 h3 h4
  obtain ⟨y5, c5, rfl, -, -, -⟩ := h2.is
  generalize hm5 : (st.T ++ [((lba : Int), xs)]).length = m5 at *
  have hoG : Off (fun k => (Value.slice yD mD cD).ownBlock = some k) w4 w5 := (Off.refl _ w4).grown h3 (fun k hk => Or.inl hk)
  have hoA : Off (fun k => (Value.slice yD mD cD).ownBlock = some k) w1 w5 := (Off.of_below hc4.b).trans hoG (fun _ h => Or.inl h)
  have h5s := hoG.size
  refine hK.out _ _ (fun _ => hoA) (fun hHeld => ?_)
  clear hK K h3
  replace hHeld := hHeld (by decide)
  refine takeY 11 41 (v := ?_) rfl rfl (by kernel_rfl) (by kernel_rfl) (by kernel_rfl) (fun _ _ _ h => h) (by rfl) (by kernel_rfl) (by kernel_rfl) (by decide) hHeld (fun w hSw => ?_) ?_
  rotate_left 1
  · (try dsimp only at hSw)
    clear hSw
    go_simp
    try with_reducible rfl
  simp only [List.set_cons_succ, List.set_cons_zero]
  refine takeY 12 42 (v := ?_) rfl rfl (by kernel_rfl) (by kernel_rfl) (by kernel_rfl) (fun _ _ _ h => h) (by rfl) (by kernel_rfl) (by kernel_rfl) (by decide) hHeld (fun w hSw => ?_) ?_
  rotate_left 1
  · (try dsimp only at hSw)
    clear hSw
    go_simp
    try with_reducible rfl
  simp only [List.set_cons_succ, List.set_cons_zero]
  clear hHeld
  have hx5 := DkBox.off hA.box hoA (fun e => (hA.own b e).1 rfl)
  have g5 := DkBox.c1026 hA.blk hx5
  have f5 := DkBox.frozen hx5 1026
  refine onlyX 13 rfl (by kernel_rfl) (by rfl) (fun K hK => ?_)
  go_wp2_with fail
  clear g5 f5
  refine hK.out _ _ (fun h => absurd rfl h) (fun _ => ?_)
  clear hK K
  refine doneX (by kernel_rfl) ?_ _
  go_wp2
  go_ret
  have hx6 := DkBox.put2 hA.blk hx5 (.slice y5 m5 c5)
  have ho6 : Off (fun k => k = b) w5 (w5.setCell ⟨b, 1026, none⟩ (.slice y5 m5 c5)) := Off.one w5 b 1026 _
  generalize w5.setCell ⟨b, 1026, none⟩ (.slice y5 m5 c5) = w6 at *
  have hoB : Off (fun k => k = b ∨ (Value.slice yD mD cD).ownBlock = some k) w1 w6 := (hoA.mono (fun _ h => Or.inl (Or.inr h))).trans ho6 (fun _ h => Or.inl (Or.inl h))
  have hzw : w1.drew.heap.size = w1.heap.size := rfl
  have n5 : ∀ k, (Value.slice y5 m5 c5).ownBlock = some k → k ≠ b ∧ ¬ (FB k ∨ (Value.slice z 32 cz).ownBlock = some k) := fun k hk => (h4 k hk).elim (fun e => ⟨(hA.own k e).1, hFBz k e⟩) (fun e => by
    have hb_ := hA.olt b (Or.inl rfl)
    refine ⟨by omega, fun h => h.elim (fun h => by have := hA.lt k h; omega) (fun h => ?_)⟩
    have := own_lt own3 k h
    omega)
  have hpost : KeptD (DkInv p) PwInv F G w (.pointer (some ⟨b, 0, none⟩)) (.pointer p) (KOwn (fun k => FB k ∨ (Value.slice z 32 cz).ownBlock = some k) b (.slice y5 m5 c5)) G1 w6 (st.write lba xs) q' := by
    refine ⟨⟨b, fun k => FB k ∨ (Value.slice z 32 cz).ownBlock = some k, Value.slice y5 m5 c5, f, rfl, ⟨hx6, h2.off ho6 (fun k hk e => (n5 k hk).1 e) (fun k _ hk e => ?_), hA.blk, hA.byt, ?_, fun o ho => ?_, fun h => ?_, n5, fun k hk => ?_, fun o ho => ?_⟩, fun _ => Iff.rfl⟩, ?_, ?_, ?_, hsub.out, ?_⟩
    · subst e
      exact hk.elim hA.nb (fun h => by have := oz k h; have := hA.olt k (Or.inl rfl); omega)
    · obtain ⟨T0, hT0, hf0⟩ := hA.tl
      exact ⟨T0, by show st.T ++ _ = T0 ++ wOps (st.Wt ++ [(lba, xs)]); rw [wOps_app, hT0, List.append_assoc], hf0⟩
    · rcases List.mem_append.1 ho with ho | ho
      · exact hA.wf o ho
      · obtain rfl := List.mem_singleton.1 ho
        exact ⟨hlba, hxl⟩
    · exact h.elim hA.nb (fun h => by have := oz b h; have := hA.olt b (Or.inl rfl); omega)
    · have := hoB.size
      have h6s := ho6.size
      exact hk.elim (fun h => by have := hA.lt k h; omega) (fun h => by have := own_lt own3 k h; omega)
    · rcases List.mem_append.1 ho with ho | ho
      · exact hA.ob o ho
      · obtain rfl := List.mem_singleton.1 ho
        show xs.length ≤ _
        rw [hxl]
        omega
    · refine pwbase.keep hP1 hoB (fun k hg e => ?_)
      rcases e with e | e
      · exact hFG1 k (Or.inl e) hg
      · exact hFG1 k (Or.inr (Or.inl e)) hg
    · rintro k (hk | hk | hk) hg
      · exact hFG1 k (Or.inl hk) hg
      · exact (h4 k hk).elim (fun e => hFG1 k (Or.inr (Or.inl e)) hg) (fun e => by have := hGlt.out k hg; omega)
      · exact hk.elim (fun e => hFG1 k (Or.inr (Or.inr e)) hg) (fun e => by have := oz k e; have := hGlt.out k hg; omega)
    · rintro k (hk | hk | hk)
      · exact Or.inl ((HF.out k).2 (Or.inl hk))
      · exact (h4 k hk).imp (fun e => (HF.out k).2 (Or.inr (Or.inl e))) (fun e => by omega)
      · exact hk.imp (fun e => (HF.out k).2 (Or.inr (Or.inr e))) (fun e => by have := oz k e; omega)
    · exact (hoff1'.out.mono (G := fun k => F k ∨ G k) (fun k hk => Or.inl (Or.inr hk))).trans hoB (fun k hk => Or.inl (Or.inl ((HF.out k).2 (hk.elim Or.inl (fun h => Or.inr (Or.inl h))))))
  first | exact ⟨rfl, _, _, hpost⟩ | exact ⟨_, _, rfl, hpost⟩
set_option maxHeartbeats 2000000 in
theorem kbarrier (p : Option Addr) (F G : Nat → Prop) (v : Value) (st : DskSt) (q : PSt) (hT : st.T.length ≤ 100000) (hq : q.2.2 ≤ 1000000) (w : World) (hD : DkInv p F w v st) (hP : PwInv G w (.pointer p) q) (hd : ∀ k, F k → ¬ G k) :
    Calls Try.prog 14 #[v] w fun e w' => ∃ F' G', e = .returned (.bool (pSpend q).1) ∧ KeptD (DkInv p) PwInv F G w v (.pointer p) F' G' w' (if (pSpend q).1 = true then st.settle else st) (pSpend q).2 := by
  obtain ⟨b, FB, vD, f, rfl, h, hF⟩ := hD
  have HF := hide' hF
  clear hF
  have hbl := DkBox.lt h.box
  obtain ⟨⟨r, q'⟩, hr⟩ : ∃ x, pSpend q = x := ⟨_, rfl⟩
  rw [hr]
  rw [show (if (r, q').1 = true then st.settle else st) = (if r = true then st.settle else st) from rfl]
  rw [show (r, q').2 = q' from rfl, show (r, q').1 = r from rfl]
  obtain ⟨st', hst'⟩ : ∃ st', (if r = true then st.settle else st) = st' := ⟨_, rfl⟩
  rw [hst']
  have HST := hide' hst'
  clear hst'
  have k1 := DkBox.c1024 h.blk h.box
  have hsp := pow_is.spend G _ q hq w hP
  go_enter Try.func14, Try.ntmps14
  rw [hr, show (r, q').2 = q' from rfl, show (r, q').1 = r from rfl] at hsp
  go_wp2_with fail
  refine hsp.mono ?_
  clear k1 hsp hr
  rintro e w1 ⟨G1, rfl, hK⟩
  have hFG : ∀ k, KOwn FB b vD k → ¬ G k := fun k hk => hd k ((HF.out k).2 hk)
  have hoff1 : Off G w w1 := hK.off
  have hA := h.off hoff1 hFG
  have hP1 := hK.inv
  have hsub : Hid (∀ k, G1 k → G k ∨ w.heap.size ≤ k) := hide' (fun k hk => (hK.sub k hk).imp id (fun e => e))
  have hGlt := hide' (pwbase.lt hP1)
  have hFG1 : ∀ k, KOwn FB b vD k → ¬ G1 k := fun k hk hg => (hsub.out k hg).elim (hFG k hk) (fun e => by have := h.olt k hk; omega)
  have hw1 := hoff1.size
  have hoff1' := hide' hoff1
  clear hK hP hoff1
  cases r
  · obtain rfl : st = st' := HST.out
    go_wp2
    go_ret
    have hpost : KeptD (DkInv p) PwInv F G w (.pointer (some ⟨b, 0, none⟩)) (.pointer p) F G1 w1 st q' := ⟨⟨b, FB, vD, f, rfl, hA, HF.out⟩, hP1, fun k hk => hFG1 k ((HF.out k).1 hk), fun _ h => Or.inl h, hsub.out, hoff1'.out.mono (fun _ h => Or.inl (Or.inr h))⟩
    first | exact ⟨rfl, _, _, hpost⟩ | exact ⟨_, _, rfl, hpost⟩
  obtain rfl : st.settle = st' := HST.out
  have hwt := kwait FB b p vD f st w1 hA
  obtain ⟨m, hm⟩ : ∃ m, st.Wt.length = m := ⟨_, rfl⟩
  rw [hm] at hwt
  have HMl := hide' hm
  clear hm
  have hwf := hide' hA.wf
  have hbk0 := hide' hA.blk
  go_wp2_with fail
  refine hwt.mono ?_
  clear hwt
  rintro e w2 ⟨zw, cw, rfl, fw, ht, hc1⟩
  have hA1 := hA.below hc1.b
  have HMx : Hid (m ≤ maxLen) := hide' (by have := fw.1; have := fw.2.1; omega)
  have hbox1 := hA1.box
  have HG : Hid (∀ k, (vD.ownBlock = some k ∨ FB k) → k ≠ b) := hide' (fun k hk e => by subst e; exact hk.elim (fun h => (hA.own k h).1 rfl) hA.nb)
  clear fw
  obtain ⟨no, HNO⟩ : ∃ no, Hid (st.no = no) := ⟨_, rfl⟩
  rw [HNO.out] at hbox1
  go_wp2_with fail
  go_loopw [18] (fun i wr => ∃ k : Nat, k ≤ m ∧ i = .int .i64 (k : Int) ∧ DkBox wr b (layD st.B (st.Wt.take k)) p no vD f ∧ Off (fun k => k = b) w2 wr) (fun i _ => m - (intOf i).toNat)
  case atStart => exact ⟨0, Nat.zero_le _, rfl, hbox1, Off.refl _ _⟩
  case round =>
    obtain ⟨k, hk, rfl, hx, ho⟩ := hrel
    by_cases hlt : k < m
    · have hlt' : (k : Int) < m := by omega
      have hw : IntKind.i64.wrap ((k : Int) + 1) = (k : Int) + 1 := by
        have := HMx.out
        unfold maxLen at this
        rw [IntKind.wrap_i64]
        omega
      obtain ⟨ba, o, off, ys, z, cz, rfl, hbl, hbg', hkL, hob, hmem, bys, hs, fz, hc0, hc1'⟩ := tin_at (ht.off ho (fun k _ h => HG.out k h)) hlt
      have hwo := hwf.out _ hmem
      have hoff : off < 32 := hwo.1
      have hy : ys.length = 32 := hwo.2
      rw [hy] at hs hc1'
      have hst : Hid (layD st.B (st.Wt.take (k + 1)) = (layD st.B (st.Wt.take k)).set off ys) := hide' (layD_taK st.B st.Wt k hkL hob)
      have hbk : Blks (layD st.B (st.Wt.take k)) := hbk0.out.lay _ (fun o ho => hwf.out o (List.mem_of_mem_take ho))
      have hA2 : Clean wr (wr.alloc (.cells #[.int .i64 (off : Int), .slice z 32 cz] 62)) := (Clean.refl wr).alloc _ _
      have hse := ksettle (wr.alloc (.cells #[.int .i64 (off : Int), .slice z 32 cz] 62)) b (layD st.B (st.Wt.take k)) p no vD f off cz z ys hoff hbk (hx.grown hA2.b) (hs.sat.below hA2.b)
      clear hob hmem hs hx hwo fz hy hbk
      go_wp2_with fail
      refine hse.mono ?_
      clear hse hc0 hc1'
      rintro e w5 ⟨rfl, hx5, ho5⟩
      go_wp2
      go_roundw
      case rel => exact ⟨k + 1, by omega, by go_num, by rw [hst.out]; exact hx5, (ho.more hA2.b).trans ho5.o (fun _ h => Or.inl h)⟩
      case measure => simp [intOf]; omega
    · have hlt' : ¬ (k : Int) < m := by omega
      have hkm : st.Wt.take k = st.Wt := List.take_of_length_le (by have := HMl.out; omega)
      rw [hkm] at hx
      obtain ⟨yD, cD, rfl, -, -, -⟩ := hA.ops.is
      have hO2 : Off (fun k => k = b) w1 wr := (Off.of_below hc1.b).trans ho (fun _ h => Or.inl h)
      have hops := hA.ops.off hO2 (fun k hk e => (hA.own k hk).1 e) (fun k _ hk e => hA.nb (e ▸ hk))
      have hblk : Blks (layD st.B st.Wt) := hbk0.out.lay _ hwf.out
      obtain ⟨B2, HB2⟩ : ∃ B2, Hid (layD st.B st.Wt = B2) := ⟨_, rfl⟩
      rw [HB2.out] at hx hblk
      generalize hmD : st.T.length = mD at *
      have e2 := DkBox.c1026 hblk hx
      have hbx : CBox 62 (wr.alloc (.cells #[.int .i64 (-1), .slice none 0 0] 62)) wr.heap.size #[.int .i64 (-1), .slice none 0 0] := CBox.new _ _ _
      have hc4 : Below wr.heap.size wr (wr.alloc (.cells #[.int .i64 (-1), .slice none 0 0] 62)) := (Below.refl _ _).alloc (Nat.le_refl _) _
      have hops4 := hops.off (Off.of_below (F := fun _ => False) hc4) (fun _ _ h => h) (fun _ _ _ h => h)
      have hFBz : ∀ k, (Value.slice yD mD cD).ownBlock = some k → ¬ FB k := fun k hk => (hA.own k hk).2
      have hlt3 : k = m := by omega
      clear hlt hlt'
      subst hlt3
      go_wp2_with (at_builtin; refine wpList_op_app rfl (.tmp 30) (.tmp 32) rfl FB (.slice yD mD cD) st.T rfl hops4 hFBz wr.heap.size (-1, []) (none, 0) rfl (CBox.cell hbx 0) (CBox.cell hbx 1) (opAt_none _ _ _) (by omega) ?_)
      intro v5 w5 h2 h3 h4
      obtain ⟨y5, c5, rfl, -, -, -⟩ := h2.is
      generalize hm5 : (st.T ++ [(-1, [])]).length = m5 at *
      have hoG : Off (fun k => (Value.slice yD mD cD).ownBlock = some k) (wr.alloc (.cells #[.int .i64 (-1), .slice none 0 0] 62)) w5 := (Off.refl _ _).grown h3 (fun k hk => Or.inl hk)
      have hoA : Off (fun k => (Value.slice yD mD cD).ownBlock = some k) wr w5 := (Off.of_below hc4).trans hoG (fun _ h => Or.inl h)
      have h5s := hoG.size
      have hx5 := DkBox.off hx hoA (fun e => (hA.own b e).1 rfl)
      have g5 := DkBox.c1026 hblk hx5
      have f5 := DkBox.frozen hx5 1026
      clear h3 e2
      have hx6 := DkBox.put2 hblk hx5 (.slice y5 m5 c5)
      have ho6 : Off (fun k => k = b) w5 (w5.setCell ⟨b, 1026, none⟩ (.slice y5 m5 c5)) := Off.one w5 b 1026 _
      go_wp2_with fail
      generalize w5.setCell ⟨b, 1026, none⟩ (.slice y5 m5 c5) = w6 at *
      refine (knone w6 b _ p no y5 m5 c5 _ hblk hx6).mono ?_
      rintro e w7 ⟨rfl, hx7, ho7⟩
      clear g5 f5
      go_wp2
      go_ret
      have hs4 : wr.heap.size ≤ (wr.alloc (.cells #[.int .i64 (-1), .slice none 0 0] 62)).heap.size := hc4.size
      generalize wr.alloc (.cells #[.int .i64 (-1), .slice none 0 0] 62) = w4 at *
      have h1r := hO2.size
      have n5 : ∀ k, (Value.slice y5 m5 c5).ownBlock = some k → k ≠ b ∧ ¬ FB k := fun k hk => (h4 k hk).elim (fun e => hA.own k e) (fun e => by
        have hb_ := hA.olt b (Or.inl rfl)
        exact ⟨by omega, fun h => by have := hA.lt k h; omega⟩)
      have ho67 : Off (fun k => k = b) w5 w7 := ho6.trans ho7.o (fun _ h => Or.inl h)
      have hoB : Off (fun k => k = b ∨ (Value.slice yD mD cD).ownBlock = some k) wr w7 := (hoA.mono (fun _ h => Or.inl (Or.inr h))).trans ho67 (fun _ h => Or.inl (Or.inl h))
      have hoC : Off (fun k => KOwn FB b (Value.slice yD mD cD) k) w1 w7 := (hO2.mono (G := fun k => KOwn FB b (Value.slice yD mD cD) k) (fun k h => Or.inl (Or.inl h))).trans hoB (fun k h => Or.inl (h.elim Or.inl (fun h => Or.inr (Or.inl h))))
      have hpost : KeptD (DkInv p) PwInv F G w (.pointer (some ⟨b, 0, none⟩)) (.pointer p) (KOwn FB b (Value.slice y5 m5 c5)) G1 w7 st.settle q' := by
        refine ⟨⟨b, FB, Value.slice y5 m5 c5, m5, rfl, ⟨?_, h2.off ho67 (fun k hk e => (n5 k hk).1 e) (fun k _ hk e => hA.nb (e ▸ hk)), ?_, ?_, ⟨st.T ++ [(-1, [])], by simp [DskSt.settle, wOps], hm5⟩, fun o ho => (by cases ho), hA.nb, n5, fun k hk => Nat.lt_of_lt_of_le (hA.lt k hk) hoC.size, fun o ho => (List.mem_append.1 ho).elim (hA.ob o) (fun h => by obtain rfl := List.mem_singleton.1 h; exact Nat.zero_le _)⟩, fun _ => Iff.rfl⟩, ?_, ?_, ?_, hsub.out, ?_⟩
        · show DkBox w7 b (layD st.B st.Wt) p st.no _ _
          rw [HB2.out, HNO.out]
          exact hx7
        · show Blks (layD st.B st.Wt)
          rw [HB2.out]
          exact hblk
        · exact layD_byK _ _ hA.byt (fun o ho => hA.ops.bytes ((o.1 : Int), o.2) (by
            obtain ⟨T0, hT, -⟩ := hA.tl
            rw [hT]
            exact List.mem_append_right _ (List.mem_map.2 ⟨o, ho, rfl⟩)))
        · exact pwbase.keep hP1 hoC (fun k hg e => hFG1 k e hg)
        · rintro k (hk | hk | hk) hg
          · exact hFG1 k (Or.inl hk) hg
          · exact (h4 k hk).elim (fun e => hFG1 k (Or.inr (Or.inl e)) hg) (fun e => by have := hGlt.out k hg; omega)
          · exact hFG1 k (Or.inr (Or.inr hk)) hg
        · rintro k (hk | hk | hk)
          · exact Or.inl ((HF.out k).2 (Or.inl hk))
          · exact (h4 k hk).imp (fun e => (HF.out k).2 (Or.inr (Or.inl e))) (fun e => by omega)
          · exact Or.inl ((HF.out k).2 (Or.inr (Or.inr hk)))
        · exact (hoff1'.out.mono (G := fun k => F k ∨ G k) (fun k hk => Or.inl (Or.inr hk))).trans hoC (fun k hk => Or.inl (Or.inl ((HF.out k).2 hk)))
      first | exact ⟨rfl, _, _, hpost⟩ | exact ⟨_, _, rfl, hpost⟩
end Go.Proofs.Ytcjmmfgnnebgkaa


/- The landed disk: New, Crash, Refuse; a Write that is refused; of nothing. -/
namespace Go.Proofs.Ytcjmmfgnnebgkaa
open Go.RowKit
set_option maxRecDepth 20000

def dkZero (p : Option Addr) : Array Value := ((List.replicate 1024 (0 : Int)).map (Value.int .u8) ++ [Value.pointer p, Value.bool false, Value.slice none 0 0, Value.int .i64 0]).toArray
set_option maxRecDepth 100000 in
theorem dk_zero (w : World) : (zeroValue 58).run Try.prog w = .ok (.agg (dkZero none)) w := by kernel_rfl
set_option maxRecDepth 100000 in
theorem dk_size (p : Option Addr) : (dkZero p).size = 1028 := by kernel_rfl
set_option maxRecDepth 100000 in
theorem dk_set (p : Option Addr) : (dkZero none).setIfInBounds 1024 (.pointer p) = dkZero p := by kernel_rfl
theorem flat_rep (k : Nat) : ∀ n, (List.replicate n (List.replicate k (0 : Int))).flatten = List.replicate (n * k) 0
  | 0 => by simp
  | n + 1 => by
    rw [List.replicate_succ, List.flatten_cons, flat_rep k n, List.replicate_append_replicate]
    congr 1
    rw [Nat.succ_mul]
    omega
set_option maxHeartbeats 1000000 in
theorem kmake (p : Option Addr) (w : World) : Calls Try.prog 9 #[.pointer p] w fun e w' => ∃ v F, e = .returned v ∧ DkInv p F w' v DskSt.new ∧ (∀ k, F k → w.heap.size ≤ k) ∧ Below w.heap.size w w' := by
  obtain ⟨Z, HZ⟩ : ∃ Z, Hid (dkZero p = Z) := ⟨_, rfl⟩
  obtain ⟨Z0, HZ0⟩ : ∃ Z0, Hid (dkZero none = Z0) := ⟨_, rfl⟩
  have hz0 := dk_zero
  have hz1 := dk_size none
  have hz2 := dk_set p
  rw [HZ.out] at hz2
  rw [HZ0.out] at hz0 hz1 hz2
  have hbx : DkBox (w.alloc (.cells Z 58)) w.heap.size (List.replicate 32 zblk) p false (.slice none 0 0) 0 := by
    unfold DkBox RowK
    rw [← HZ.out, flat_rep]
    show (w.heap.push _)[w.heap.size]? = _
    simp [dkZero]
  have hb : Below w.heap.size w (w.alloc (.cells Z 58)) := (Below.refl _ _).alloc (Nat.le_refl _) _
  go_enter Try.func9, Try.ntmps9
  go_wp2
  go_ret
  have hall : DkInv p (KOwn (fun _ => False) w.heap.size (Value.slice none 0 0)) (w.alloc (.cells Z 58)) (.pointer (some ⟨w.heap.size, 0, none⟩)) DskSt.new ∧ (∀ k, KOwn (fun _ => False) w.heap.size (Value.slice none 0 0) k → w.heap.size ≤ k) := by
    refine ⟨⟨w.heap.size, fun _ => False, Value.slice none 0 0, 0, rfl, ⟨hbx, opRow_nil _ _, ⟨List.length_replicate, fun x hx => ?_⟩, fun x hx => ?_, ⟨[], rfl, rfl⟩, fun o ho => (by cases ho), fun h => h, fun k hk => by simp [Value.ownBlock] at hk, fun k hk => hk.elim, fun o ho => (by cases ho)⟩, fun _ => Iff.rfl⟩, ?_⟩
    · obtain ⟨-, rfl⟩ := List.mem_replicate.1 hx
      exact List.length_replicate
    · obtain ⟨-, rfl⟩ := List.mem_replicate.1 hx
      intro y hy
      obtain ⟨-, rfl⟩ := List.mem_replicate.1 hy
      omega
    · rintro k (rfl | hk | hk)
      · exact Nat.le_refl _
      · simp [Value.ownBlock] at hk
      · exact hk.elim
  first | exact ⟨_, _, rfl, hall.1, hall.2, hb⟩ | exact ⟨_, rfl, _, hall.1, hall.2, hb⟩
set_option maxHeartbeats 2000000 in
theorem kcrash (p : Option Addr) (F : Nat → Prop) (v : Value) (st : DskSt) (x : Option Addr) (n c : Nat) (K0 : List Bool) (w : World) (hD : DkInv p F w v st) (hKI : KIn (fun k => ¬ F k) w x n K0) :
    Calls Try.prog 18 #[v, .slice x n c] w fun e w' => ∃ F', e = .returned (.tuple #[]) ∧ KeptG (DkInv p) F w v F' w' (st.crash K0) := by
  obtain ⟨b, FB, vD, f, rfl, hA, hF⟩ := hD
  have HF := hide' hF
  clear hF
  have hKl := hKI.1
  have hwt := kwait FB b p vD f st w hA
  obtain ⟨m, hm⟩ : ∃ m, st.Wt.length = m := ⟨_, rfl⟩
  rw [hm] at hwt
  have HMl := hide' hm
  clear hm
  have hwf := hide' hA.wf
  have hbk0 := hide' hA.blk
  go_enter Try.func18, Try.ntmps18
  go_wp2_with fail
  refine hwt.mono ?_
  clear hwt
  rintro e w1 ⟨zw, cw, rfl, fw, ht, hc1⟩
  have hA1 := hA.below hc1.b
  have HMx : Hid (m ≤ maxLen) := hide' (by have := fw.1; have := fw.2.1; omega)
  have hbox1 := hA1.box
  obtain ⟨no, HNO⟩ : ∃ no, Hid (st.no = no) := ⟨_, rfl⟩
  rw [HNO.out] at hbox1
  have HKI := hide' (hKI.off (Off.of_below (F := fun _ => False) hc1.b) (fun _ _ _ h => h))
  have HG : Hid (∀ k, (vD.ownBlock = some k ∨ FB k) → k ≠ b) := hide' (fun k hk e => by subst e; exact hk.elim (fun h => (hA.own k h).1 rfl) hA.nb)
  clear fw hKI
  go_wp2_with fail
  go_loopw [11] (fun i wr => ∃ k : Nat, k ≤ m ∧ i = .int .i64 (k : Int) ∧ DkBox wr b (layD st.B (keptOf (st.Wt.take k) K0)) p no vD f ∧ Off (fun k => k = b) w1 wr) (fun i _ => m - (intOf i).toNat)
  case atStart => exact ⟨0, Nat.zero_le _, rfl, hbox1, Off.refl _ _⟩
  case round =>
    obtain ⟨k, hk, rfl, hx, ho⟩ := hrel
    by_cases hlt : k < m
    · have hlt' : (k : Int) < m := by omega
      have hw : IntKind.i64.wrap ((k : Int) + 1) = (k : Int) + 1 := by
        have := HMx.out
        unfold maxLen at this
        rw [IntKind.wrap_i64]
        omega
      obtain ⟨ba, o, off, ys, z, cz, rfl, hbl, hbg', hkL, hob, hmem, bys, hs, fz, hc0, hc1'⟩ := tin_at (ht.off ho (fun k _ h => HG.out k h)) hlt
      have hks := hide' (kept_step st.Wt K0 k (off, ys) hkL hob)
      have hwo := hwf.out _ hmem
      have hoff : off < 32 := hwo.1
      have hy : ys.length = 32 := hwo.2
      rw [hy] at hs hc1'
      have hbk : Blks (layD st.B (keptOf (st.Wt.take k) K0)) := hbk0.out.lay _ (fun o ho => hwf.out o (List.mem_of_mem_take (kept_mem ho)))
      have hA2 : Clean wr (wr.alloc (.cells #[.int .i64 (off : Int), .slice z 32 cz] 62)) := (Clean.refl wr).alloc _ _
      have hse := hide' (ksettle (wr.alloc (.cells #[.int .i64 (off : Int), .slice z 32 cz] 62)) b (layD st.B (keptOf (st.Wt.take k) K0)) p no vD f off cz z ys hoff hbk (hx.grown hA2.b) (hs.sat.below hA2.b))
      have hxq := hx.grown hA2.b
      have hoq := ho.more hA2.b
      clear hob hmem hs hx hwo fz hy hbk
      by_cases hkn : k < n
      · have hkn' : (k : Int) < n := by omega
        obtain ⟨bk, ok, rfl, hbkk, hnk, hck⟩ := HKI.out.2 (by omega)
        have hck0 := (hoq.cell (p := ⟨bk, ok + k, none⟩) hbkk (fun e => hnk ((HF.out bk).2 (Or.inl e)))).trans (hck k hkn)
        clear hck
        cases hv : K0.getD k false
        · rw [hv] at hck0
          have hst : Hid (keptOf (st.Wt.take (k + 1)) K0 = keptOf (st.Wt.take k) K0) := hide' (by rw [hks.out, hv]; simp)
          clear hks hv
          go_wp2
          go_roundw
          case rel => exact ⟨k + 1, by omega, by go_num, by rw [hst.out]; exact hxq, hoq⟩
          case measure => simp [intOf]; omega
        · rw [hv] at hck0
          have hst : Hid (layD st.B (keptOf (st.Wt.take (k + 1)) K0) = (layD st.B (keptOf (st.Wt.take k) K0)).set off ys) := hide' (by rw [hks.out, hv, if_pos rfl, layD_apK])
          clear hks hv
          go_wp2_with fail
          refine hse.out.mono ?_
          clear hse hc0 hc1' hck0
          rintro e w5 ⟨rfl, hx5, ho5⟩
          go_wp2
          go_roundw
          case rel => exact ⟨k + 1, by omega, by go_num, by rw [hst.out]; exact hx5, hoq.trans ho5.o (fun _ h => Or.inl h)⟩
          case measure => simp [intOf]; omega
      · have hkn' : ¬ (k : Int) < n := by omega
        have hv : K0.getD k false = false := by rw [List.getD_eq_getElem?_getD, List.getElem?_eq_none (by omega)]; rfl
        have hst : Hid (keptOf (st.Wt.take (k + 1)) K0 = keptOf (st.Wt.take k) K0) := hide' (by rw [hks.out, hv]; simp)
        clear hks hv
        go_wp2
        go_roundw
        case rel => exact ⟨k + 1, by omega, by go_num, by rw [hst.out]; exact hxq, hoq⟩
        case measure => simp [intOf]; omega
    · have hlt' : ¬ (k : Int) < m := by omega
      have hkm : st.Wt.take k = st.Wt := List.take_of_length_le (by have := HMl.out; omega)
      rw [hkm] at hx
      obtain ⟨y, c1, hvD, -⟩ : ∃ y c, vD = .slice y st.T.length c ∧ Fit y st.T.length c := hA.ops.is
      have hblk : Blks (layD st.B (keptOf st.Wt K0)) := hbk0.out.lay _ (fun o ho => hwf.out o (kept_mem ho))
      have hno := knone wr b _ p no y st.T.length c1 f hblk (hvD ▸ hx)
      go_wp2_with fail
      refine hno.mono ?_
      clear hno
      rintro e w5 ⟨rfl, hx5, ho5⟩
      go_wp2
      go_end0
      have hO : Off (fun k => k = b) w w5 := ((Off.of_below hc1.b).trans ho (fun _ h => Or.inl h)).trans ho5.o (fun _ h => Or.inl h)
      have hpost : KeptG (DkInv p) F w (.pointer (some ⟨b, 0, none⟩)) F w5 (st.crash K0) := by
        refine ⟨⟨b, FB, vD, st.T.length, rfl, ⟨?_, hA.ops.off hO (fun k hk e => (hA.own k hk).1 e) (fun k _ hk e => hA.nb (e ▸ hk)), hblk, layD_byK _ _ hA.byt (fun o ho => hA.ops.bytes ((o.1 : Int), o.2) ?_), ⟨st.T, by simp [wOps, DskSt.crash], rfl⟩, fun o ho => (by cases ho), hA.nb, hA.own, fun k hk => Nat.lt_of_lt_of_le (hA.lt k hk) hO.size, hA.ob⟩, HF.out⟩, fun _ h => Or.inl h, hO.mono (fun k h => Or.inl ((HF.out k).2 (Or.inl h)))⟩
        · show DkBox w5 b (layD st.B (keptOf st.Wt K0)) p st.no vD _
          rw [HNO.out, hvD]
          exact hx5
        · obtain ⟨T0, hT, -⟩ := hA.tl
          rw [hT]
          exact List.mem_append_right _ (List.mem_map.2 ⟨o, kept_mem ho, rfl⟩)
      first | exact ⟨rfl, _, hpost⟩ | exact ⟨_, rfl, hpost⟩
theorem krefuse (p : Option Addr) (F : Nat → Prop) (v : Value) (st : DskSt) (no : Bool) (w : World) (hD : DkInv p F w v st) :
    Calls Try.prog 20 #[v, .bool no] w fun e w' => ∃ F', e = .returned (.tuple #[]) ∧ KeptG (DkInv p) F w v F' w' (st.refuse no) := by
  obtain ⟨b, FB, vD, f, rfl, h, hF⟩ := hD
  have hO : Off (fun k => k = b) w (w.setCell ⟨b, 1025, none⟩ (.bool no)) := Off.one w b 1025 _
  have hx := DkBox.put1 h.blk h.box no
  have hpost : KeptG (DkInv p) F w (.pointer (some ⟨b, 0, none⟩)) F (w.setCell ⟨b, 1025, none⟩ (.bool no)) (st.refuse no) :=
    ⟨⟨b, FB, vD, f, rfl, ⟨hx, h.ops.off hO (fun k hk e => (h.own k hk).1 e) (fun k _ hk e => h.nb (e ▸ hk)), h.blk, h.byt, h.tl, h.wf, h.nb, h.own, fun k hk => Nat.lt_of_lt_of_le (h.lt k hk) hO.size, h.ob⟩, hF⟩, fun _ h => Or.inl h, hO.mono (fun k hk => Or.inl ((hF k).2 (Or.inl hk)))⟩
  have c1 := DkBox.c1025 h.blk h.box
  have f1 := DkBox.frozen h.box 1025
  have HP := hide' hpost
  clear hpost hO hx h hF
  go_enter Try.func20, Try.ntmps20
  go_wp2
  go_end0
  have hpost := HP.out
  first | exact ⟨rfl, _, hpost⟩ | exact ⟨_, rfl, hpost⟩
theorem kwriteNo (p : Option Addr) (F : Nat → Prop) (v : Value) (st : DskSt) (lba : Int) (x : Option Addr) (n c : Nat) (hn : (lba < 0 ∨ 32 ≤ lba) ∨ n ≠ 32 ∨ st.no = true) (w : World) (hD : DkInv p F w v st) :
    Calls Try.prog 12 #[v, .int .i64 lba, .slice x n c] w fun e w' => ∃ F', e = .returned (.bool false) ∧ KeptG (DkInv p) F w v F' w' st := by
  have hk := hide' (fun w' => (dkbase p).kept (w' := w') hD)
  obtain ⟨b, FB, vD, f, rfl, h, -⟩ := hD
  by_cases h0 : lba < 0 ∨ 32 ≤ lba
  · have hi := khasNo (some ⟨b, 0, none⟩) lba (Or.inr h0) w
    clear h hn h0
    go_enter Try.func12, Try.ntmps12
    go_wp2_with fail
    refine hi.mono ?_
    clear hi
    rintro e w0 ⟨rfl, hb0⟩
    go_wp2
    go_ret
    have hpost := hk.out _ hb0.b
    first | exact ⟨rfl, _, hpost⟩ | exact ⟨_, rfl, hpost⟩
  · obtain ⟨i, rfl⟩ : ∃ i : Nat, lba = (i : Int) := ⟨lba.toNat, by omega⟩
    have hi := khas b i (by omega) w
    have hn1 := hn.resolve_left h0
    clear hn h0
    by_cases h2 : n = 32
    · have h3 : st.no = true := hn1.resolve_left (fun e => e h2)
      subst h2
      clear hn1
      go_enter Try.func12, Try.ntmps12
      go_wp2_with fail
      refine hi.mono ?_
      clear hi
      rintro e w0 ⟨rfl, hb0⟩
      have k2 := DkBox.c1025 h.blk (DkBox.grown h.box hb0.b)
      rw [h3] at k2
      clear h h3
      go_wp2
      go_ret
      have hpost := hk.out _ hb0.b
      first | exact ⟨rfl, _, hpost⟩ | exact ⟨_, rfl, hpost⟩
    · have h3 : ¬ (n : Int) = 32 := by omega
      clear hn1 h2 h
      go_enter Try.func12, Try.ntmps12
      go_wp2_with fail
      refine hi.mono ?_
      clear hi
      rintro e w0 ⟨rfl, hb0⟩
      go_wp2
      go_ret
      have hpost := hk.out _ hb0.b
      first | exact ⟨rfl, _, hpost⟩ | exact ⟨_, rfl, hpost⟩
theorem kwriteNil (lba : Int) (x : Option Addr) (n c : Nat) (w : World) : Calls Try.prog 12 #[.pointer none, .int .i64 lba, .slice x n c] w fun e w' => e = .returned (.bool false) ∧ Below w.heap.size w w' := by
  go_enter Try.func12, Try.ntmps12
  go_wp2_with fail
  refine (khasNo none _ (Or.inl rfl) _).mono ?_
  rintro e w1 ⟨rfl, hb⟩
  replace hb := hb.b
  go_wp2
  go_ret
  exact ⟨rfl, hb⟩
theorem kbarrierNil (w : World) : Calls Try.prog 14 #[.pointer none] w fun e w' => e = .returned (.bool false) ∧ Below w.heap.size w w' := by
  have hb : Below w.heap.size w w := Below.refl _ _
  go_enter Try.func14, Try.ntmps14
  go_wp2
  go_ret
  exact ⟨rfl, hb⟩
theorem kcrashNil (x : Option Addr) (n c : Nat) (w : World) : Calls Try.prog 18 #[.pointer none, .slice x n c] w fun e w' => e = .returned (.tuple #[]) ∧ Below w.heap.size w w' := by
  have hb : Below w.heap.size w w := Below.refl _ _
  go_enter Try.func18, Try.ntmps18
  go_wp2
  (try simp only [Exit.inBlock, Exit.then])
  refine bodyPost_ret (results_none rfl _ _ _) rfl ?_
  exact ⟨rfl, hb⟩
theorem krefuseNil (no : Bool) (w : World) : Calls Try.prog 20 #[.pointer none, .bool no] w fun e w' => e = .returned (.tuple #[]) ∧ Below w.heap.size w w' := by
  have hb : Below w.heap.size w w := Below.refl _ _
  go_enter Try.func20, Try.ntmps20
  go_wp2
  (try simp only [Exit.inBlock, Exit.then])
  refine bodyPost_ret (results_none rfl _ _ _) rfl ?_
  exact ⟨rfl, hb⟩
theorem ktraceNil (w : World) : Calls Try.prog 27 #[.pointer none] w fun e w' => (∃ z cz, e = .returned (.slice z 0 cz)) ∧ Below w.heap.size w w' := by
  have hb : Below w.heap.size w w := Below.refl _ _
  go_enter Try.func27, Try.ntmps27
  go_wp2
  go_ret
  exact ⟨⟨_, _, rfl⟩, hb⟩
end Go.Proofs.Ytcjmmfgnnebgkaa


/- power.On: new blocks alone, none frozen. -/
namespace Go.Proofs.Ytcjmmfgnnebgkaa
open Go.RowKit
set_option maxRecDepth 20000

theorem ponC (b : Nat) (st : PSt) (w : World) (h : PwBox w b st) : Calls Try.prog 37 #[.pointer (some ⟨b, 0, none⟩)] w fun e w' => e = .returned (.bool st.1) ∧ Clean w w' := by
  have c0 : w.cell? ⟨b, 0, none⟩ = some (.bool st.1) := CBox.cell h 0
  clear h
  generalize st.1 = o at *
  go_enter Try.func37, Try.ntmps37
  go_wp2
  go_ret
  exact ⟨rfl, Clean.refl _⟩
end Go.Proofs.Ytcjmmfgnnebgkaa
