/- The landed device: Write, Barrier. -/
import Derived.Test.YtcpplfclpigmkaaSsdImB
import Derived.Test.YtcpplfclpigmkaaPowImpl
namespace Go.Proofs.Ytcpplfclpigmkaa
open Go.RowKit
set_option maxRecDepth 20000

theorem DvBox.put2 {w : World} {b g n : Nat} {p : Option Addr} {vD : Value} {f : Nat} (h : DvBox w b g n p vD f) (u : Value) : DvBox (w.setCell ⟨b, 2, none⟩ u) b g n p u f := by
  have := CBox.put h 2 u
  exact this
theorem own_lt {w : World} {base e size n : Nat} {v : Value} {xs : List Value} (h : w.ownsRow base e size v n xs) : ∀ k, v.ownBlock = some k → k < w.heap.size := fun k hk => by
  obtain ⟨cur, hh⟩ := own_type h hk
  exact (Array.getElem?_eq_some_iff.1 hh).1
set_option maxHeartbeats 2000000 in
theorem iwrite (p : Option Addr) (F G : Nat → Prop) (v : Value) (st : SsdSt) (q : PSt) (off n c : Nat) (x : Option Addr) (xs : List Int) (hoff : off + n ≤ st.B.length) (hT : st.T.length ≤ 100000) (hq : q.2.2 ≤ 1000000) (fx : Fit x n c) (bx : Bytes xs) (w : World) (hD : DvInv p F w v st) (hP : PwInv G w (.pointer p) q) (hd : ∀ k, F k → ¬ G k) (hx : SIn (fun k => ¬ F k ∧ ¬ G k) w x n xs) :
    Calls Try.prog 9 #[v, .int .i64 (off : Int), .slice x n c] w fun e w' => ∃ F' G', e = .returned (.bool (pSpend q).1) ∧ KeptD (DvInv p) PwInv F G w v (.pointer p) F' G' w' (if (pSpend q).1 = true then st.write off xs else st) (pSpend q).2 := by
  obtain ⟨b, g, FB, vD, f, rfl, h, hF⟩ := hD
  have HF := hide' hF
  clear hF
  have hbl := CBox.lt h.box
  obtain ⟨⟨r, q'⟩, hr⟩ : ∃ x, pSpend q = x := ⟨_, rfl⟩
  rw [hr]
  rw [show (if (r, q').1 = true then st.write off xs else st) = (if r = true then st.write off xs else st) from rfl]
  rw [show (r, q').2 = q' from rfl, show (r, q').1 = r from rfl]
  obtain ⟨st', hst'⟩ : ∃ st', (if r = true then st.write off xs else st) = st' := ⟨_, rfl⟩
  rw [hst']
  have HST := hide' hst'
  clear hst'
  have HX := hide' fx
  clear fx
  have hxl := hx.1
  have hBl := h.len
  have hi := iwithin b g st.B.length p vD f off n hoff h.len w h.box
  go_enter Try.func9, Try.ntmps9
  go_wp2_with fail
  refine hi.mono ?_
  clear hi
  rintro e w0 ⟨rfl, hb0⟩
  replace hb0 := hb0.b
  have k1 : w0.cell? ⟨b, 1, none⟩ = some (.pointer p) := CBox.cell (CBox.grown h.box hb0) 1
  have hP0 := pwbase.below hP hb0
  have hsp := pow_is.spend G _ q hq w0 hP0
  clear hP0
  rw [hr, show (r, q').2 = q' from rfl, show (r, q').1 = r from rfl] at hsp
  go_wp2_with fail
  refine hsp.mono ?_
  clear k1 hsp hr
  rintro e w1 ⟨G1, rfl, hK⟩
  have hFG : ∀ k, DOwn FB b g vD k → ¬ G k := fun k hk => hd k ((HF.out k).2 hk)
  have hoff1 : Off G w w1 := (Off.of_below (F := G) hb0).trans hK.off (fun _ hi => Or.inl hi)
  have hA := h.off hoff1 hFG
  have hP1 := hK.inv
  have hsub : Hid (∀ k, G1 k → G k ∨ w.heap.size ≤ k) := hide' (fun k hk => (hK.sub k hk).imp id (fun e => Nat.le_trans hb0.size e))
  have hGlt := hide' (pwbase.lt hP1)
  have hFG1 : ∀ k, DOwn FB b g vD k → ¬ G1 k := fun k hk hg => (hsub.out k hg).elim (hFG k hk) (fun e => by have := h.olt k hk; omega)
  have hw1 := hoff1.size
  have hoff1' := hide' hoff1
  have hxs : SAt w1 x n xs := (hx.off hoff1 (fun _ _ h => h.2)).sat
  clear hK hP hb0 hoff1
  cases r
  · obtain rfl : st = st' := HST.out
    go_wp2
    go_ret
    have hpost : KeptD (DvInv p) PwInv F G w (.pointer (some ⟨b, 0, none⟩)) (.pointer p) F G1 w1 st q' := ⟨⟨b, g, FB, vD, f, rfl, hA, HF.out⟩, hP1, fun k hk => hFG1 k ((HF.out k).1 hk), fun _ h => Or.inl h, hsub.out, hoff1'.out.mono (fun _ h => Or.inl (Or.inr h))⟩
    first | exact ⟨rfl, _, _, hpost⟩ | exact ⟨_, _, rfl, hpost⟩
  obtain rfl : st.write off xs = st' := HST.out
  obtain ⟨yD, cD, rfl, -, -, -⟩ := hA.ops.is
  generalize hmD : st.T.length = mD at *
  go_wp2_with fail
  refine startX (S := fun w' => Off (fun k => (Value.slice yD mD cD).ownBlock = some k) w1 w') 13 (by kernel_rfl) (Off.refl _ w1).drew (fun hHeld => ?_)
  refine moveY 0 21 0 rfl rfl rfl (by kernel_rfl) (by kernel_rfl) (by kernel_rfl) (fun _ _ _ h => h) (by rfl) (by kernel_rfl) (by kernel_rfl) (by decide) hHeld rfl ?_
  simp only [List.set_cons_succ, List.set_cons_zero]
  refine moveY 1 22 0 rfl rfl rfl (by kernel_rfl) (by kernel_rfl) (by kernel_rfl) (fun _ _ _ h => h) (by rfl) (by kernel_rfl) (by kernel_rfl) (by decide) hHeld rfl ?_
  simp only [List.set_cons_succ, List.set_cons_zero]
  refine takeY 2 23 (v := ?_) rfl rfl (by kernel_rfl) (by kernel_rfl) (by kernel_rfl) (fun _ _ _ h => h) (by rfl) (by kernel_rfl) (by kernel_rfl) (by decide) hHeld (fun w hSw => ?_) ?_
  rotate_left 1
  · (try dsimp only at hSw)
    clear hSw
    go_simp
    try with_reducible rfl
  simp only [List.set_cons_succ, List.set_cons_zero]
  refine takeY 3 24 (v := ?_) rfl rfl (by kernel_rfl) (by kernel_rfl) (by kernel_rfl) (fun _ _ _ h => h) (by rfl) (by kernel_rfl) (by kernel_rfl) (by decide) hHeld (fun w hSw => ?_) ?_
  rotate_left 1
  · (try dsimp only at hSw)
    clear hSw
    go_simp
    try with_reducible rfl
  simp only [List.set_cons_succ, List.set_cons_zero]
  refine takeY 4 25 (v := ?_) rfl rfl (by kernel_rfl) (by kernel_rfl) (by kernel_rfl) (fun _ _ _ h => h) (by rfl) (by kernel_rfl) (by kernel_rfl) (by decide) hHeld (fun w hSw => ?_) ?_
  rotate_left 1
  · (try dsimp only at hSw)
    have e0_ := (CBox.cell (CBox.off hA.box hSw (fun e => (hA.own b e).1 rfl)) 2)
    clear hSw
    go_simp
    try with_reducible rfl
  simp only [List.set_cons_succ, List.set_cons_zero]
  refine moveY 5 26 1 rfl rfl rfl (by kernel_rfl) (by kernel_rfl) (by kernel_rfl) (fun _ _ _ h => h) (by rfl) (by kernel_rfl) (by kernel_rfl) (by decide) hHeld rfl ?_
  simp only [List.set_cons_succ, List.set_cons_zero]
  refine moveY 6 27 2 rfl rfl rfl (by kernel_rfl) (by kernel_rfl) (by kernel_rfl) (fun _ _ _ h => h) (by rfl) (by kernel_rfl) (by kernel_rfl) (by decide) hHeld rfl ?_
  simp only [List.set_cons_succ, List.set_cons_zero]
  refine onlyX 7 rfl (by kernel_rfl) (by rfl) (fun K hK => ?_)
  go_wp2_with fail
  refine (iclone x n c xs (by omega) HX.out.2.2 _ (hxs.drew)).mono ?_
  rintro e w3 ⟨v3, rfl, own3, hc3⟩
  have hc : Clean w1 w3 := (Clean.refl w1).drew.trans hc3
  obtain ⟨z, cz, rfl, sz, hnz, hcz, hzn⟩ := own_sin hxl own3
  have oz := own_block own3
  refine hK.out _ _ (fun _ => Off.of_below hc.b) (fun _ => ?_)
  clear hK K hHeld hc3
  refine onlyX 8 rfl (by kernel_rfl) (by rfl) (fun K hK => ?_)
  go_wp2
  refine hK.out _ _ (fun _ => Off.of_below hc.b) (fun _ => ?_)
  clear hK K
  have hbx : CBox 40 (w3.alloc (.cells #[.int .i64 (off : Int), .slice z n cz] 40)) w3.heap.size #[.int .i64 (off : Int), .slice z n cz] := CBox.new _ _ _
  have hc4 : Clean w1 (w3.alloc (.cells #[.int .i64 (off : Int), .slice z n cz] 40)) := hc.alloc _ _
  have sz4 := sz.off (F := fun _ => False) ((Off.refl _ w3).alloc (.cells #[.int .i64 (off : Int), .slice z n cz] 40)) (fun _ _ _ h => h)
  have hs4 : w3.heap.size < (w3.alloc (.cells #[.int .i64 (off : Int), .slice z n cz] 40)).heap.size := by rw [World.size_alloc]; omega
  refine onlyX 9 rfl (by kernel_rfl) (by rfl) (fun K hK => ?_)
  go_wp2_with fail
  refine hK.out _ _ (fun _ => Off.of_below hc4.b) (fun _ => ?_)
  clear hK K
  generalize w3.alloc (.cells #[.int .i64 (off : Int), .slice z n cz] 40) = w4 at *
  have hz1 : w1.heap.size ≤ w3.heap.size := hc.b.size
  have hA4 := hA.below hc4.b
  have hFBz : ∀ k, (Value.slice yD mD cD).ownBlock = some k → ¬ (FB k ∨ (Value.slice z n cz).ownBlock = some k) := fun k hk h => h.elim (hA.own k hk).2.2 (fun h => by have := oz k h; have := hA.olt k (Or.inr (Or.inr (Or.inl hk))); have : w1.drew.heap.size = w1.heap.size := rfl; omega)
  refine onlyX 10 rfl (by kernel_rfl) (by rfl) (fun K hK => ?_)
  refine wp_op_app (.tmp 25) (.tmp 30) rfl (fun k => FB k ∨ (Value.slice z n cz).ownBlock = some k) (Value.slice yD mD cD) st.T rfl (hA4.ops.mono (fun _ _ h => Or.inl h)) hFBz w3.heap.size ((off : Int), xs) (z, cz) rfl (CBox.cell hbx 0) (by show _ = some (Value.slice z xs.length cz); rw [hxl]; exact CBox.cell hbx 1) ⟨by show SIn _ _ z xs.length xs; rw [hxl]; exact sz4.mono (fun _ _ h => Or.inr h), by show Fit z xs.length cz; rw [hxl]; exact ⟨hnz, hcz, hzn⟩, bx⟩ (by omega) ?_
  intro v5 w5 h2 h3 h4
  obtain ⟨y5, c5, rfl, -, -, -⟩ := h2.is
  generalize hm5 : (st.T ++ [((off : Int), xs)]).length = m5 at *
  have hoG : Off (fun k => (Value.slice yD mD cD).ownBlock = some k) w4 w5 := (Off.refl _ w4).grown h3 (fun k hk => Or.inl hk)
  have hoA : Off (fun k => (Value.slice yD mD cD).ownBlock = some k) w1 w5 := (Off.of_below hc4.b).trans hoG (fun _ h => Or.inl h)
  have h5s := hoG.size
  refine hK.out _ _ (fun _ => hoA) (fun hHeld => ?_)
  clear hK K h3
  replace hHeld := hHeld (by decide)
  refine takeY 11 32 (v := ?_) rfl rfl (by kernel_rfl) (by kernel_rfl) (by kernel_rfl) (fun _ _ _ h => h) (by rfl) (by kernel_rfl) (by kernel_rfl) (by decide) hHeld (fun w hSw => ?_) ?_
  rotate_left 1
  · (try dsimp only at hSw)
    clear hSw
    go_simp
    try with_reducible rfl
  simp only [List.set_cons_succ, List.set_cons_zero]
  refine takeY 12 33 (v := ?_) rfl rfl (by kernel_rfl) (by kernel_rfl) (by kernel_rfl) (fun _ _ _ h => h) (by rfl) (by kernel_rfl) (by kernel_rfl) (by decide) hHeld (fun w hSw => ?_) ?_
  rotate_left 1
  · (try dsimp only at hSw)
    clear hSw
    go_simp
    try with_reducible rfl
  simp only [List.set_cons_succ, List.set_cons_zero]
  clear hHeld
  have hx5 := CBox.off hA.box hoA (fun e => (hA.own b e).1 rfl)
  have g5 := CBox.cell hx5 2
  have f5 := CBox.frozen hx5 2
  refine onlyX 13 rfl (by kernel_rfl) (by rfl) (fun K hK => ?_)
  go_wp2_with fail
  clear g5 f5
  refine hK.out _ _ (fun h => absurd rfl h) (fun _ => ?_)
  clear hK K
  refine doneX (by kernel_rfl) ?_ _
  go_wp2
  go_ret
  have hx6 := DvBox.put2 hx5 (.slice y5 m5 c5)
  have ho6 : Off (fun k => k = b) w5 (w5.setCell ⟨b, 2, none⟩ (.slice y5 m5 c5)) := Off.one w5 b 2 _
  generalize w5.setCell ⟨b, 2, none⟩ (.slice y5 m5 c5) = w6 at *
  have hoB : Off (fun k => k = b ∨ (Value.slice yD mD cD).ownBlock = some k) w1 w6 := (hoA.mono (fun _ h => Or.inl (Or.inr h))).trans ho6 (fun _ h => Or.inl (Or.inl h))
  have hzw : w1.drew.heap.size = w1.heap.size := rfl
  have n5 : ∀ k, (Value.slice y5 m5 c5).ownBlock = some k → k ≠ b ∧ k ≠ g ∧ ¬ (FB k ∨ (Value.slice z n cz).ownBlock = some k) := fun k hk => (h4 k hk).elim (fun e => ⟨(hA.own k e).1, (hA.own k e).2.1, hFBz k e⟩) (fun e => by
    have hb_ := hA.olt b (Or.inl rfl)
    have hg_ := hA.olt g (Or.inr (Or.inl rfl))
    refine ⟨by omega, by omega, fun h => h.elim (fun h => by have := hA.lt k h; omega) (fun h => ?_)⟩
    have := own_lt own3 k h
    omega)
  have hpost : KeptD (DvInv p) PwInv F G w (.pointer (some ⟨b, 0, none⟩)) (.pointer p) (DOwn (fun k => FB k ∨ (Value.slice z n cz).ownBlock = some k) b g (.slice y5 m5 c5)) G1 w6 (st.write off xs) q' := by
    refine ⟨⟨b, g, fun k => FB k ∨ (Value.slice z n cz).ownBlock = some k, Value.slice y5 m5 c5, f, rfl, ⟨hx6, (hA.row.off hoB (fun e => e.elim (fun e => hA.bg e.symm) (fun e => (hA.own g e).2.1 rfl))), h2.off ho6 (fun k hk e => (n5 k hk).1 e) (fun k _ hk e => ?_), hA.len, hA.byt, ?_, fun o ho => ?_, hA.bg, fun h => ?_, fun h => ?_, n5, fun k hk => ?_, fun o ho => ?_⟩, fun _ => Iff.rfl⟩, ?_, ?_, ?_, hsub.out, ?_⟩
    · subst e
      exact hk.elim hA.nb (fun h => by have := oz k h; have := hA.olt k (Or.inl rfl); omega)
    · obtain ⟨T0, hT0, hf0⟩ := hA.tl
      exact ⟨T0, by show st.T ++ _ = T0 ++ wOps (st.Wt ++ [(off, xs)]); rw [wOps_app, hT0, List.append_assoc], hf0⟩
    · rcases List.mem_append.1 ho with ho | ho
      · exact hA.wf o ho
      · obtain rfl := List.mem_singleton.1 ho
        show off + xs.length ≤ _
        rw [hxl]
        exact hoff
    · exact h.elim hA.nb (fun h => by have := oz b h; have := hA.olt b (Or.inl rfl); omega)
    · exact h.elim hA.ng (fun h => by have := oz g h; have := hA.olt g (Or.inr (Or.inl rfl)); omega)
    · have := hoB.size
      have h6s := ho6.size
      exact hk.elim (fun h => by have := hA.lt k h; omega) (fun h => by have := own_lt own3 k h; omega)
    · rcases List.mem_append.1 ho with ho | ho
      · exact hA.ob o ho
      · obtain rfl := List.mem_singleton.1 ho
        show xs.length ≤ _
        rw [hxl]
        omega
    · refine pwbase.keep hP1 hoB (fun k hg e => ?_)
      rcases e with e | e
      · exact hFG1 k (Or.inl e) hg
      · exact hFG1 k (Or.inr (Or.inr (Or.inl e))) hg
    · rintro k (hk | hk | hk | hk) hg
      · exact hFG1 k (Or.inl hk) hg
      · exact hFG1 k (Or.inr (Or.inl hk)) hg
      · exact (h4 k hk).elim (fun e => hFG1 k (Or.inr (Or.inr (Or.inl e))) hg) (fun e => by have := hGlt.out k hg; omega)
      · exact hk.elim (fun e => hFG1 k (Or.inr (Or.inr (Or.inr e))) hg) (fun e => by have := oz k e; have := hGlt.out k hg; omega)
    · rintro k (hk | hk | hk | hk)
      · exact Or.inl ((HF.out k).2 (Or.inl hk))
      · exact Or.inl ((HF.out k).2 (Or.inr (Or.inl hk)))
      · exact (h4 k hk).imp (fun e => (HF.out k).2 (Or.inr (Or.inr (Or.inl e)))) (fun e => by omega)
      · exact hk.imp (fun e => (HF.out k).2 (Or.inr (Or.inr (Or.inr e)))) (fun e => by have := oz k e; omega)
    · exact (hoff1'.out.mono (G := fun k => F k ∨ G k) (fun k hk => Or.inl (Or.inr hk))).trans hoB (fun k hk => Or.inl (Or.inl ((HF.out k).2 (hk.elim Or.inl (fun h => Or.inr (Or.inr (Or.inl h)))))))
  first | exact ⟨rfl, _, _, hpost⟩ | exact ⟨_, _, rfl, hpost⟩
set_option maxHeartbeats 2000000 in
theorem ibarrier (p : Option Addr) (F G : Nat → Prop) (v : Value) (st : SsdSt) (q : PSt) (hT : st.T.length ≤ 100000) (hq : q.2.2 ≤ 1000000) (w : World) (hD : DvInv p F w v st) (hP : PwInv G w (.pointer p) q) (hd : ∀ k, F k → ¬ G k) :
    Calls Try.prog 10 #[v] w fun e w' => ∃ F' G', e = .returned (.bool (pSpend q).1) ∧ KeptD (DvInv p) PwInv F G w v (.pointer p) F' G' w' (if (pSpend q).1 = true then st.settle else st) (pSpend q).2 := by
  obtain ⟨b, g, FB, vD, f, rfl, h, hF⟩ := hD
  have HF := hide' hF
  clear hF
  have hbl := CBox.lt h.box
  obtain ⟨⟨r, q'⟩, hr⟩ : ∃ x, pSpend q = x := ⟨_, rfl⟩
  rw [hr]
  rw [show (if (r, q').1 = true then st.settle else st) = (if r = true then st.settle else st) from rfl]
  rw [show (r, q').2 = q' from rfl, show (r, q').1 = r from rfl]
  obtain ⟨st', hst'⟩ : ∃ st', (if r = true then st.settle else st) = st' := ⟨_, rfl⟩
  rw [hst']
  have HST := hide' hst'
  clear hst'
  have k1 : w.cell? ⟨b, 1, none⟩ = some (.pointer p) := CBox.cell h.box 1
  have hsp := pow_is.spend G _ q hq w hP
  go_enter Try.func10, Try.ntmps10
  rw [hr, show (r, q').2 = q' from rfl, show (r, q').1 = r from rfl] at hsp
  go_wp2_with fail
  refine hsp.mono ?_
  clear k1 hsp hr
  rintro e w1 ⟨G1, rfl, hK⟩
  have hFG : ∀ k, DOwn FB b g vD k → ¬ G k := fun k hk => hd k ((HF.out k).2 hk)
  have hoff1 : Off G w w1 := hK.off
  have hA := h.off hoff1 hFG
  have hP1 := hK.inv
  have hsub : Hid (∀ k, G1 k → G k ∨ w.heap.size ≤ k) := hide' (fun k hk => (hK.sub k hk).imp id (fun e => e))
  have hGlt := hide' (pwbase.lt hP1)
  have hFG1 : ∀ k, DOwn FB b g vD k → ¬ G1 k := fun k hk hg => (hsub.out k hg).elim (hFG k hk) (fun e => by have := h.olt k hk; omega)
  have hw1 := hoff1.size
  have hoff1' := hide' hoff1
  clear hK hP hoff1
  cases r
  · obtain rfl : st = st' := HST.out
    go_wp2
    go_ret
    have hpost : KeptD (DvInv p) PwInv F G w (.pointer (some ⟨b, 0, none⟩)) (.pointer p) F G1 w1 st q' := ⟨⟨b, g, FB, vD, f, rfl, hA, HF.out⟩, hP1, fun k hk => hFG1 k ((HF.out k).1 hk), fun _ h => Or.inl h, hsub.out, hoff1'.out.mono (fun _ h => Or.inl (Or.inr h))⟩
    first | exact ⟨rfl, _, _, hpost⟩ | exact ⟨_, _, rfl, hpost⟩
  obtain rfl : st.settle = st' := HST.out
  have hse := isettle FB b g p vD f st w1 hA
  go_wp2_with fail
  refine hse.mono ?_
  clear hse
  rintro e w2 ⟨rfl, hA2, ho2⟩
  replace ho2 := ho2.o
  obtain ⟨yD, cD, rfl, -, -, -⟩ := hA2.ops.is
  have hT2 : (SsdSt.mk st.cur [] st.T).T.length = st.T.length := rfl
  rw [hT2] at hA2 hFG hFG1
  have HF2 : Hid (∀ k, F k ↔ DOwn FB b g (Value.slice yD st.T.length cD) k) := HF
  clear HF hA h hT2
  obtain ⟨B2, hB2⟩ : ∃ B2, st.cur = B2 := ⟨_, rfl⟩
  rw [hB2] at hA2
  generalize hmD : st.T.length = mD at *
  have e2 : w2.cell? ⟨b, 2, none⟩ = some (.slice yD mD cD) := CBox.cell hA2.box 2
  have hbx : CBox 40 (w2.alloc (.cells #[.int .i64 (-1), .slice none 0 0] 40)) w2.heap.size #[.int .i64 (-1), .slice none 0 0] := CBox.new _ _ _
  have hc4 : Below w2.heap.size w2 (w2.alloc (.cells #[.int .i64 (-1), .slice none 0 0] 40)) := (Below.refl _ _).alloc (Nat.le_refl _) _
  have hA4 := hA2.below hc4
  have hFBz : ∀ k, (Value.slice yD mD cD).ownBlock = some k → ¬ FB k := fun k hk => (hA2.own k hk).2.2
  go_wp2_with (at_builtin; refine wpList_op_app rfl (.tmp 19) (.tmp 21) rfl FB (.slice yD mD cD) st.T rfl hA4.ops hFBz w2.heap.size (-1, []) (none, 0) rfl (CBox.cell hbx 0) (CBox.cell hbx 1) (opAt_none _ _ _) (by omega) ?_)
  intro v5 w5 h2 h3 h4
  obtain ⟨y5, c5, rfl, -, -, -⟩ := h2.is
  generalize hm5 : (st.T ++ [(-1, [])]).length = m5 at *
  have hoG : Off (fun k => (Value.slice yD mD cD).ownBlock = some k) (w2.alloc (.cells #[.int .i64 (-1), .slice none 0 0] 40)) w5 := (Off.refl _ _).grown h3 (fun k hk => Or.inl hk)
  have hoA : Off (fun k => (Value.slice yD mD cD).ownBlock = some k) w2 w5 := (Off.of_below hc4).trans hoG (fun _ h => Or.inl h)
  have h5s := hoG.size
  have hx5 := CBox.off hA2.box hoA (fun e => (hA2.own b e).1 rfl)
  have g5 := CBox.cell hx5 2
  have f5 := CBox.frozen hx5 2
  clear h3 e2
  have hx6 := DvBox.put2 hx5 (.slice y5 m5 c5)
  have ho6 : Off (fun k => k = b) w5 (w5.setCell ⟨b, 2, none⟩ (.slice y5 m5 c5)) := Off.one w5 b 2 _
  go_wp2_with fail
  generalize w5.setCell ⟨b, 2, none⟩ (.slice y5 m5 c5) = w6 at *
  refine (inone w6 b g _ p y5 m5 c5 _ hx6).mono ?_
  rintro e w7 ⟨rfl, hx7, ho7⟩
  clear g5 f5
  go_wp2
  go_ret
  have hs4 : w2.heap.size ≤ (w2.alloc (.cells #[.int .i64 (-1), .slice none 0 0] 40)).heap.size := hc4.size
  generalize w2.alloc (.cells #[.int .i64 (-1), .slice none 0 0] 40) = w4 at *
  have n5 : ∀ k, (Value.slice y5 m5 c5).ownBlock = some k → k ≠ b ∧ k ≠ g ∧ ¬ FB k := fun k hk => (h4 k hk).elim (fun e => hA2.own k e) (fun e => by
    have hb_ := hA2.olt b (Or.inl rfl)
    have hg_ := hA2.olt g (Or.inr (Or.inl rfl))
    exact ⟨by omega, by omega, fun h => by have := hA2.lt k h; omega⟩)
  have ho67 : Off (fun k => k = b) w5 w7 := ho6.trans ho7.o (fun _ h => Or.inl h)
  have hoB : Off (fun k => k = b ∨ (Value.slice yD mD cD).ownBlock = some k) w2 w7 := (hoA.mono (fun _ h => Or.inl (Or.inr h))).trans ho67 (fun _ h => Or.inl (Or.inl h))
  have hoC : Off (fun k => DOwn FB b g (Value.slice yD mD cD) k) w1 w7 := (ho2.mono (G := fun k => DOwn FB b g (Value.slice yD mD cD) k) (fun k h => Or.inl (h.elim Or.inl (fun h => Or.inr (Or.inl h))))).trans hoB (fun k h => Or.inl (h.elim Or.inl (fun h => Or.inr (Or.inr (Or.inl h)))))
  have h12 := ho2.size
  have hpost : KeptD (DvInv p) PwInv F G w (.pointer (some ⟨b, 0, none⟩)) (.pointer p) (DOwn FB b g (Value.slice y5 m5 c5)) G1 w7 st.settle q' := by
    refine ⟨⟨b, g, FB, Value.slice y5 m5 c5, m5, rfl, ⟨?_, ?_, h2.off ho67 (fun k hk e => (n5 k hk).1 e) (fun k _ hk e => hA2.nb (e ▸ hk)), ?_, ?_, ⟨st.T ++ [(-1, [])], by simp [SsdSt.settle, wOps], hm5⟩, fun o ho => (by cases ho), hA2.bg, hA2.nb, hA2.ng, n5, fun k hk => Nat.lt_of_lt_of_le (hA2.lt k hk) hoB.size, fun o ho => (List.mem_append.1 ho).elim (hA2.ob o) (fun h => by obtain rfl := List.mem_singleton.1 h; exact Nat.zero_le _)⟩, fun _ => Iff.rfl⟩, ?_, ?_, ?_, hsub.out, ?_⟩
    · show DvBox w7 b g st.cur.length p _ _
      rw [hB2]
      exact hx7
    · show RowC w7 g st.cur []
      rw [hB2]
      exact hA2.row.off hoB (fun e => e.elim (fun e => hA2.bg e.symm) (fun e => (hA2.own g e).2.1 rfl))
    · show st.cur.length ≤ _
      rw [hB2]
      exact hA2.len
    · show Bytes st.cur
      rw [hB2]
      exact hA2.byt
    · exact pwbase.keep hP1 hoC (fun k hg e => hFG1 k e hg)
    · rintro k (hk | hk | hk | hk) hg
      · exact hFG1 k (Or.inl hk) hg
      · exact hFG1 k (Or.inr (Or.inl hk)) hg
      · exact (h4 k hk).elim (fun e => hFG1 k (Or.inr (Or.inr (Or.inl e))) hg) (fun e => by have := hGlt.out k hg; omega)
      · exact hFG1 k (Or.inr (Or.inr (Or.inr hk))) hg
    · rintro k (hk | hk | hk | hk)
      · exact Or.inl ((HF2.out k).2 (Or.inl hk))
      · exact Or.inl ((HF2.out k).2 (Or.inr (Or.inl hk)))
      · exact (h4 k hk).imp (fun e => (HF2.out k).2 (Or.inr (Or.inr (Or.inl e)))) (fun e => by omega)
      · exact Or.inl ((HF2.out k).2 (Or.inr (Or.inr (Or.inr hk))))
    · exact (hoff1'.out.mono (G := fun k => F k ∨ G k) (fun k hk => Or.inl (Or.inr hk))).trans hoC (fun k hk => Or.inl (Or.inl ((HF2.out k).2 hk)))
  first | exact ⟨rfl, _, _, hpost⟩ | exact ⟨_, _, rfl, hpost⟩
end Go.Proofs.Ytcpplfclpigmkaa
