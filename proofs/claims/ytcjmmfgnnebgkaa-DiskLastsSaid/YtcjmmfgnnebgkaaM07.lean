/- RefDskX RefDskN DskPair: texts laid together. -/
import Derived.Test.YtcjmmfgnnebgkaaM06
import Derived.Test.YtcjmmfgnnebgkaaM05
import Derived.Test.YtcjmmfgnnebgkaaM03

/- What the document's disk comes to: Write. -/
namespace Go.Proofs.Ytcjmmfgnnebgkaa
open Go.RowKit
set_option maxRecDepth 20000

set_option maxRecDepth 20000 in
set_option maxHeartbeats 4000000 in
theorem rdwrite (p : Option Addr) (F G : Nat → Prop) (v : Value) (st : DskSt) (q : PSt) (lba c : Nat) (x : Option Addr) (xs : List Int) (hl : lba < 32) (hno : st.no = false) (hT : st.T.length ≤ 100000) (hWl : st.Wt.length ≤ 1000000) (hq : q.2.2 ≤ 1000000) (fx : Fit x 32 c) (bx : Bytes xs) (w : World) (hD : RDInv p F w v st) (hP : RPInv G w (.pointer p) q) (hd : ∀ k, F k → ¬ G k) (hx : SIn (fun k => ¬ F k ∧ ¬ G k) w x 32 xs) :
    Calls Try.prog 13 #[v, .int .i64 (lba : Int), .slice x 32 c] w fun e w' => ∃ F' G', e = .returned (.bool (pSpend q).1) ∧ KeptD (RDInv p) RPInv F G w v (.pointer p) F' G' w' (if (pSpend q).1 = true then st.write lba xs else st) (pSpend q).2 := by
  obtain ⟨b, FB, vW, vT, rfl, h, hF⟩ := hD
  have HF := hide' hF
  clear hF
  have HX := hide' fx
  clear fx
  have hxl := hx.1
  have k0 := h.box.c0
  have k35 := h.box.c35
  rw [hno] at k35
  have hbl := h.box.lt
  obtain ⟨⟨r, q'⟩, hr⟩ : ∃ x, pSpend q = x := ⟨_, rfl⟩
  have hi := is_yes lba hl
  rw [hr]
  rw [show (if (r, q').1 = true then st.write lba xs else st) = (if r = true then st.write lba xs else st) from rfl]
  rw [show (r, q').2 = q' from rfl, show (r, q').1 = r from rfl]
  obtain ⟨st', hst'⟩ : ∃ st', (if r = true then st.write lba xs else st) = st' := ⟨_, rfl⟩
  rw [hst']
  have HST := hide' hst'
  clear hst'
  go_enter Try.func13, Try.ntmps13
  go_wp2_with fail
  refine (hi _).mono ?_
  rintro e w0 ⟨rfl, hb0⟩
  replace k0 := (hb0.cell (p := ⟨b, 0, none⟩) hbl).trans k0
  replace k35 := (hb0.cell (p := ⟨b, 35, none⟩) hbl).trans k35
  have hP0 := rpbase.below hP hb0
  have hsp := rspend G _ q hq w0 hP0
  rw [hr, show (r, q').2 = q' from rfl, show (r, q').1 = r from rfl] at hsp
  clear hi hP0
  go_wp2_with fail
  refine hsp.mono ?_
  clear k0 k35 hsp hr
  rintro e w1 ⟨G1, rfl, hK⟩
  have hown := h.own
  have hFG : ∀ k, ROwn FB b vW vT k → ¬ G k := fun k hk => hd k ((HF.out k).2 hk)
  have hoff1 : Off G w w1 := (Off.of_below (F := G) hb0).trans hK.off (fun _ hi => Or.inl hi)
  have hA := h.off hoff1 hFG
  have hP1 := hK.inv
  have hsub : Hid (∀ k, G1 k → G k ∨ w.heap.size ≤ k) := hide' (fun k hk => (hK.sub k hk).imp id (fun e => Nat.le_trans hb0.size e))
  have hGlt := hide' (rpbase.lt hP1)
  have hFG1 : ∀ k, ROwn FB b vW vT k → ¬ G1 k := fun k hk hg => (hsub.out k hg).elim (hFG k hk) (fun e => by have := hown k hk; omega)
  have hw1 := hoff1.size
  have sx := hx.off hoff1 (fun _ _ h => h.2)
  clear hK h hP hx
  cases r
  · obtain rfl : st = st' := HST.out
    go_wp2
    go_ret
    have hpost : KeptD (RDInv p) RPInv F G w (.pointer (some ⟨b, 0, none⟩)) (.pointer p) F G1 w1 st q' := ⟨⟨b, FB, vW, vT, rfl, hA, HF.out⟩, hP1, fun k hk => hFG1 k ((HF.out k).1 hk), fun _ h => Or.inl h, hsub.out, hoff1.mono (fun _ h => Or.inl (Or.inr h))⟩
    first | exact ⟨rfl, _, _, hpost⟩ | exact ⟨_, _, rfl, hpost⟩
  obtain rfl : st.write lba xs = st' := HST.out
  have hoff1' := hide' hoff1
  clear hoff1
  have hb : Below w1.heap.size w1 (w1.alloc (.cells #[] 5)) := (Below.refl _ _).alloc (Nat.le_refl _) _
  have hlit : (w1.alloc (.cells #[] 5)).ownsRow w1.heap.size 5 1 (.slice (some ⟨w1.heap.size, 0, none⟩) 0 0) 0 (([] : List Int).map (Value.int .u8)) :=
    World.ownsRow_lit (base := w1.heap.size) (e := 5) (size := 1) w1 #[] 0 (Nat.le_refl _) (by decide) rfl
  go_wp2_with (at_builtin; refine wpList_app rfl _ _ rfl w1.heap.size _ 0 [] rfl hlit x 32 c xs rfl (sx.sat.below hb) HX.out.2.2 (by omega) hb.size ?_)
  intro v5 w5 own5 hb5 hv5
  replace hv5 := own_not_nil own5 (by decide)
  replace hb := hb.trans hb5
  obtain ⟨gi, ci, rfl, hgi, hgil, hgic, hgicm, hati⟩ := own_bytes hxl own5 hv5
  clear hb5 hlit own5 hv5 sx HX
  replace hA := hA.below hb
  have hP5 := rpbase.below hP1 hb
  have bO := CBox.new 62 w5 #[.int .i64 (lba : Int), .slice (some ⟨gi, 0, none⟩) 32 ci]
  have hbn : Below w5.heap.size w5 (w5.alloc (.cells #[.int .i64 (lba : Int), .slice (some ⟨gi, 0, none⟩) 32 ci] 62)) := (Below.refl _ _).alloc (Nat.le_refl _) _
  replace hA := hA.below hbn
  replace hP5 := rpbase.below hP5 hbn
  replace hati := hati.below hbn hgil
  have hB5 := hb.trans (hbn.mono hb.size)
  have hgi5 : gi < (w5.alloc (.cells #[.int .i64 (lba : Int), .slice (some ⟨gi, 0, none⟩) 32 ci] 62)).heap.size := Nat.lt_of_lt_of_le hgil hbn.size
  have hbO : w5.heap.size < (w5.alloc (.cells #[.int .i64 (lba : Int), .slice (some ⟨gi, 0, none⟩) 32 ci] 62)).heap.size := by simp
  go_wp2_with fail
  obtain ⟨yW, cW, rfl, -, -, -⟩ := hA.wt.is
  obtain ⟨yT, cT, rfl, -, -, -⟩ := hA.tr.is
  obtain ⟨m, hm⟩ : ∃ m, (wOps st.Wt).length = m := ⟨_, rfl⟩
  obtain ⟨mT, hmT⟩ : ∃ m, st.T.length = m := ⟨_, rfl⟩
  have hmb : Hid (m ≤ 1000000) := hide' (by rw [← hm, wOps_len]; exact hWl)
  have hmTb : Hid (mT ≤ 1000000) := hide' (by omega)
  rw [hm, hmT] at hA hown hFG hFG1
  have HF2 : Hid (∀ k, F k ↔ ROwn FB b (.slice yW m cW) (.slice yT mT cT) k) := hide' (by rw [← hm, ← hmT]; exact HF.out)
  rw [← hm] at hmb
  rw [← hmT] at hmTb
  have hW5 : Below w1.heap.size w1 (w5.alloc (.cells #[.int .i64 (lba : Int), .slice (some ⟨gi, 0, none⟩) 32 ci] 62)) := hB5
  have hAsz : w1.heap.size ≤ w5.heap.size := hb.size
  clear HF hm hmT hbn hB5 hb
  generalize hvW : Value.slice yW m cW = vW at *
  generalize hvT : Value.slice yT mT cT = vT at *
  obtain ⟨W, hWe⟩ : ∃ W, w5.alloc (.cells #[.int .i64 (lba : Int), .slice (some ⟨gi, 0, none⟩) 32 ci] 62) = W := ⟨_, rfl⟩
  rw [hWe] at hA hP5 hati bO hgi5 hbO hW5 ⊢
  clear hWe
  generalize w5.heap.size = A at *
  have hgW : ∀ k, ROwn FB b vW vT k → k < w1.heap.size := fun k hk => by have := hown k hk; omega
  have hWl' : ∀ k, vW.ownBlock = some k → k < W.drew.heap.size := fun k hk => Nat.lt_of_lt_of_le (hgW k (Or.inr (Or.inl hk))) hW5.size
  have hTl' : ∀ k, vT.ownBlock = some k → k < W.drew.heap.size := fun k hk => Nat.lt_of_lt_of_le (hgW k (Or.inr (Or.inr (Or.inl hk)))) hW5.size
  have hWG : ∀ k, vW.ownBlock = some k → ¬ (FB k ∨ k = gi) := fun k hk e => e.elim (hA.oW k hk).2 (fun e => by have := hgW k (Or.inr (Or.inl hk)); omega)
  have hTG : ∀ k, vT.ownBlock = some k → ¬ (FB k ∨ k = gi) := fun k hk e => e.elim (hA.oT k hk).2 (fun e => by have := hgW k (Or.inr (Or.inr (Or.inl hk))); omega)
  have hd0 : Off (fun _ => False) W W.drew := (Off.refl _ _).drew
  have hrW : OpRow (fun k => FB k ∨ k = gi) W.drew vW (wOps st.Wt) := (hA.wt.off hd0 (fun _ _ h => h) (fun _ _ _ h => h)).mono (fun _ _ h => Or.inl h)
  have hrT : OpRow (fun k => FB k ∨ k = gi) W.drew vT st.T := (hA.tr.off hd0 (fun _ _ h => h) (fun _ _ _ h => h)).mono (fun _ _ h => Or.inl h)
  have hat : OpAt (fun k => FB k ∨ k = gi) W.drew ((lba : Int), xs) (some ⟨gi, 0, none⟩, ci) := ⟨⟨rfl, fun _ => ⟨gi, 0, rfl, hgi5, Or.inr rfl, hati⟩⟩, by show Fit _ xs.length _; rw [hxl]; exact ⟨hgic, hgicm, fun e => by cases e⟩, bx⟩
  have J0 : JW W.drew (fun k => FB k ∨ k = gi) vW vT (wOps st.Wt) st.T ((lba : Int), xs) (some ⟨gi, 0, none⟩, ci) false false false 0 0 undef W.drew := ⟨Off.refl _ _, fun _ => hrW, hrT, fun e => (by cases e), fun e => (by cases e), fun e => (by cases e), hat⟩
  have k33 := hA.box.c33
  have k34 := hA.box.c34
  have hbW : b < W.drew.heap.size := hA.box.lt
  have hAn : ¬ (A = b ∨ vW.ownBlock = some A ∨ vT.ownBlock = some A) := by
    rintro (e | e | e)
    · have := hgW b (Or.inl rfl)
      omega
    · have := hgW A (Or.inr (Or.inl e))
      omega
    · have := hgW A (Or.inr (Or.inr (Or.inl e)))
      omega
  have tillJ : ∀ {d7 d8 d14 : Bool} {g7 g14 : Nat} {v8 : Value} {w' : World} {l : Array Bool}, JW W.drew (fun k => FB k ∨ k = gi) vW vT (wOps st.Wt) st.T ((lba : Int), xs) (some ⟨gi, 0, none⟩, ci) d7 d8 d14 g7 g14 v8 w' → Till (fun w' => Off (fun k => k = b ∨ vW.ownBlock = some k ∨ vT.ownBlock = some k) W.drew w') (fun w' => w'.cell? ⟨b, 33, none⟩ = some vW) (fun w' => w'.cell? ⟨b, 34, none⟩ = some vT) 18 21 l w' := fun J =>
    ⟨J.off.mono (fun k hk => Or.inl (Or.inr (Or.inl hk))), fun _ => (J.off.cell (p := ⟨b, 33, none⟩) hbW (fun e => (hA.oW b e).1 rfl)).trans k33, fun _ => (J.off.cell (p := ⟨b, 34, none⟩) hbW (fun e => (hA.oW b e).1 rfl)).trans k34⟩
  have hL1 : (wOps st.Wt).length ≤ 1000000 := hmb.out
  have hL2 : st.T.length ≤ 1000000 := hmTb.out
  have bOd : CBox 62 W.drew A #[.int .i64 (lba : Int), .slice (some ⟨gi, 0, none⟩) 32 ci] := bO
  have HJ := hide' J0
  clear J0 hrW hrT hat
  subst hvW hvT
  refine startI (Com := fun w' => Off (fun k => k = b ∨ (Value.slice yW m cW).ownBlock = some k ∨ (Value.slice yT mT cT).ownBlock = some k) W.drew w') (A1 := fun w' => w'.cell? ⟨b, 33, none⟩ = some (.slice yW m cW)) (A2 := fun w' => w'.cell? ⟨b, 34, none⟩ = some (.slice yT mT cT)) (k1 := 18) (k2 := 21) (by kernel_rfl) (tillJ HJ.out) (fun hHeld => ?_)
  refine moveI 0 35 0 rfl rfl rfl (by kernel_rfl) (by kernel_rfl) (by kernel_rfl) (fun _ _ _ h => h) (by rfl) (by kernel_rfl) (by decide) hHeld rfl (fun hHeld => ?_)
  simp only [List.set_cons_succ, List.set_cons_zero]
  refine moveI 1 36 0 rfl rfl rfl (by kernel_rfl) (by kernel_rfl) (by kernel_rfl) (fun _ _ _ h => h) (by rfl) (by kernel_rfl) (by decide) hHeld rfl (fun hHeld => ?_)
  simp only [List.set_cons_succ, List.set_cons_zero]
  refine moveI 2 37 0 rfl rfl rfl (by kernel_rfl) (by kernel_rfl) (by kernel_rfl) (fun _ _ _ h => h) (by rfl) (by kernel_rfl) (by decide) hHeld rfl (fun hHeld => ?_)
  simp only [List.set_cons_succ, List.set_cons_zero]
  refine takeI 3 38 (v := ?_) rfl rfl (by kernel_rfl) (by kernel_rfl) (by kernel_rfl) (fun _ _ _ h => h) (by rfl) (by kernel_rfl) (by decide) hHeld (fun w hSw => ?_) (fun hHeld => ?_)
  rotate_left 1
  · (try dsimp only at hSw)
    clear hSw
    go_simp
    try with_reducible rfl
  simp only [List.set_cons_succ, List.set_cons_zero]
  refine takeI 4 39 (v := ?_) rfl rfl (by kernel_rfl) (by kernel_rfl) (by kernel_rfl) (fun _ _ _ h => h) (by rfl) (by kernel_rfl) (by decide) hHeld (fun w hSw => ?_) (fun hHeld => ?_)
  rotate_left 1
  · (try dsimp only at hSw)
    clear hSw
    go_simp
    try with_reducible rfl
  simp only [List.set_cons_succ, List.set_cons_zero]
  refine takeI 5 40 (v := ?_) rfl rfl (by kernel_rfl) (by kernel_rfl) (by kernel_rfl) (fun _ _ _ h => h) (by rfl) (by kernel_rfl) (by decide) hHeld (fun w hSw => ?_) (fun hHeld => ?_)
  rotate_left 1
  · (try dsimp only at hSw)
    have e0_ : w.cell? ⟨b, 33, none⟩ = some (.slice yW m cW) := hSw.2.1 (by kernel_rfl)
    clear hSw
    go_simp
    try with_reducible rfl
  simp only [List.set_cons_succ, List.set_cons_zero]
  refine takeI 6 41 (v := ?_) rfl rfl (by kernel_rfl) (by kernel_rfl) (by kernel_rfl) (fun _ _ _ h => h) (by rfl) (by kernel_rfl) (by decide) hHeld (fun w hSw => ?_) (fun hHeld => ?_)
  rotate_left 1
  · (try dsimp only at hSw)
    have hx_ := CBox.off (F := fun k => k = b ∨ (Value.slice yW m cW).ownBlock = some k ∨ (Value.slice yT mT cT).ownBlock = some k) bOd hSw.1 hAn
    have e0_ : w.cell? ⟨A, 0, none⟩ = some (.int .i64 (lba : Int)) := CBox.cell hx_ 0
    have e1_ : w.cell? ⟨A, 1, none⟩ = some (.slice (some ⟨gi, 0, none⟩) 32 ci) := CBox.cell hx_ 1
    clear hx_
    clear hSw
    go_simp
    try with_reducible rfl
  simp only [List.set_cons_succ, List.set_cons_zero]
  refine moveI 9 44 0 rfl rfl rfl (by kernel_rfl) (by kernel_rfl) (by kernel_rfl) (fun _ _ _ h => h) (by rfl) (by kernel_rfl) (by decide) hHeld rfl (fun hHeld => ?_)
  simp only [List.set_cons_succ, List.set_cons_zero]
  refine takeI 10 45 (v := ?_) rfl rfl (by kernel_rfl) (by kernel_rfl) (by kernel_rfl) (fun _ _ _ h => h) (by rfl) (by kernel_rfl) (by decide) hHeld (fun w hSw => ?_) (fun hHeld => ?_)
  rotate_left 1
  · (try dsimp only at hSw)
    clear hSw
    go_simp
    try with_reducible rfl
  simp only [List.set_cons_succ, List.set_cons_zero]
  refine takeI 11 46 (v := ?_) rfl rfl (by kernel_rfl) (by kernel_rfl) (by kernel_rfl) (fun _ _ _ h => h) (by rfl) (by kernel_rfl) (by decide) hHeld (fun w hSw => ?_) (fun hHeld => ?_)
  rotate_left 1
  · (try dsimp only at hSw)
    clear hSw
    go_simp
    try with_reducible rfl
  simp only [List.set_cons_succ, List.set_cons_zero]
  refine takeI 12 47 (v := ?_) rfl rfl (by kernel_rfl) (by kernel_rfl) (by kernel_rfl) (fun _ _ _ h => h) (by rfl) (by kernel_rfl) (by decide) hHeld (fun w hSw => ?_) (fun hHeld => ?_)
  rotate_left 1
  · (try dsimp only at hSw)
    have e0_ : w.cell? ⟨b, 34, none⟩ = some (.slice yT mT cT) := hSw.2.2 (by kernel_rfl)
    clear hSw
    go_simp
    try with_reducible rfl
  simp only [List.set_cons_succ, List.set_cons_zero]
  refine takeI 13 48 (v := ?_) rfl rfl (by kernel_rfl) (by kernel_rfl) (by kernel_rfl) (fun _ _ _ h => h) (by rfl) (by kernel_rfl) (by decide) hHeld (fun w hSw => ?_) (fun hHeld => ?_)
  rotate_left 1
  · (try dsimp only at hSw)
    have hx_ := CBox.off (F := fun k => k = b ∨ (Value.slice yW m cW).ownBlock = some k ∨ (Value.slice yT mT cT).ownBlock = some k) bOd hSw.1 hAn
    have e0_ : w.cell? ⟨A, 0, none⟩ = some (.int .i64 (lba : Int)) := CBox.cell hx_ 0
    have e1_ : w.cell? ⟨A, 1, none⟩ = some (.slice (some ⟨gi, 0, none⟩) 32 ci) := CBox.cell hx_ 1
    clear hx_
    clear hSw
    go_simp
    try with_reducible rfl
  simp only [List.set_cons_succ, List.set_cons_zero]
  clear hHeld
  have J0 := HJ.out
  refine share4 (T := ?TT) (Cond := fun g7 g14 v8 w2 => JW W.drew (fun k => FB k ∨ k = gi) (.slice yW m cW) (.slice yT mT cT) (wOps st.Wt) st.T ((lba : Int), xs) (some ⟨gi, 0, none⟩, ci) true true true g7 g14 v8 w2) (fun fin => ?h1) ?h2
  case h1 =>
    refine twoI 7 14 rfl rfl rfl rfl (by kernel_rfl) ?_ ?_
    · refine wp_op1 (k := 42) (s := 41) (n := (lba : Int)) (z := some ⟨gi, 0, none⟩) (l := 32) (cz := ci) rfl rfl rfl ?_
      simp only [List.set_cons_succ, List.set_cons_zero]
      have J1 := J0.lay7
      simp only [hxl] at J1
      refine ⟨tillJ J1, ?_⟩
      generalize W.drew.alloc (.cells #[.int .i64 (lba : Int), .slice (some ⟨gi, 0, none⟩) 32 ci] 62) = wA at J1 ⊢
      generalize W.drew.heap.size = g7 at J1 ⊢
      refine twoI 8 14 rfl rfl rfl rfl (by kernel_rfl) ?_ ?_
      · refine wp_opA (k := 43) (s := 40) (x := 42) rfl rfl (fun k => FB k ∨ k = gi) _ (wOps st.Wt) rfl (J1.rW rfl) hWG g7 ((lba : Int), xs) (some ⟨gi, 0, none⟩, ci) rfl (J1.c7 rfl rfl).1 (J1.c7 rfl rfl).2 J1.at_ hL1 ?_
        intro v8 wB h2 h3 h4
        have J2 := J1.app8 hWl' hWG hA.oo h2 h3 h4
        clear h2 h3 h4
        simp only [List.set_cons_succ, List.set_cons_zero]
        refine ⟨tillJ J2, ?_⟩
        refine onlyI 14 rfl rfl (by kernel_rfl) ?_
        refine wp_op1 (k := 49) (s := 48) (n := (lba : Int)) (z := some ⟨gi, 0, none⟩) (l := 32) (cz := ci) rfl rfl rfl ?_
        simp only [List.set_cons_succ, List.set_cons_zero]
        have J3 := J2.lay14
        simp only [hxl] at J3
        refine ⟨tillJ J3, ?_⟩
        generalize wB.alloc (.cells #[.int .i64 (lba : Int), .slice (some ⟨gi, 0, none⟩) 32 ci] 62) = wC at J3 ⊢
        generalize wB.heap.size = g14 at J3 ⊢
        exact fin g7 g14 v8 wC J3
      · refine wp_op1 (k := 49) (s := 48) (n := (lba : Int)) (z := some ⟨gi, 0, none⟩) (l := 32) (cz := ci) rfl rfl rfl ?_
        simp only [List.set_cons_succ, List.set_cons_zero]
        have J2 := J1.lay14
        simp only [hxl] at J2
        refine ⟨tillJ J2, ?_⟩
        generalize wA.alloc (.cells #[.int .i64 (lba : Int), .slice (some ⟨gi, 0, none⟩) 32 ci] 62) = wB at J2 ⊢
        generalize wA.heap.size = g14 at J2 ⊢
        refine onlyI 8 rfl rfl (by kernel_rfl) ?_
        refine wp_opA (k := 43) (s := 40) (x := 42) rfl rfl (fun k => FB k ∨ k = gi) _ (wOps st.Wt) rfl (J2.rW rfl) hWG g7 ((lba : Int), xs) (some ⟨gi, 0, none⟩, ci) rfl (J2.c7 rfl rfl).1 (J2.c7 rfl rfl).2 J2.at_ hL1 ?_
        intro v8 wC h2 h3 h4
        have J3 := J2.app8 hWl' hWG hA.oo h2 h3 h4
        clear h2 h3 h4
        simp only [List.set_cons_succ, List.set_cons_zero]
        refine ⟨tillJ J3, ?_⟩
        exact fin g7 g14 v8 wC J3
    · refine wp_op1 (k := 49) (s := 48) (n := (lba : Int)) (z := some ⟨gi, 0, none⟩) (l := 32) (cz := ci) rfl rfl rfl ?_
      simp only [List.set_cons_succ, List.set_cons_zero]
      have J1 := J0.lay14
      simp only [hxl] at J1
      refine ⟨tillJ J1, ?_⟩
      generalize W.drew.alloc (.cells #[.int .i64 (lba : Int), .slice (some ⟨gi, 0, none⟩) 32 ci] 62) = wA at J1 ⊢
      generalize W.drew.heap.size = g14 at J1 ⊢
      refine onlyI 7 rfl rfl (by kernel_rfl) ?_
      refine wp_op1 (k := 42) (s := 41) (n := (lba : Int)) (z := some ⟨gi, 0, none⟩) (l := 32) (cz := ci) rfl rfl rfl ?_
      simp only [List.set_cons_succ, List.set_cons_zero]
      have J2 := J1.lay7
      simp only [hxl] at J2
      refine ⟨tillJ J2, ?_⟩
      generalize wA.alloc (.cells #[.int .i64 (lba : Int), .slice (some ⟨gi, 0, none⟩) 32 ci] 62) = wB at J2 ⊢
      generalize wA.heap.size = g7 at J2 ⊢
      refine onlyI 8 rfl rfl (by kernel_rfl) ?_
      refine wp_opA (k := 43) (s := 40) (x := 42) rfl rfl (fun k => FB k ∨ k = gi) _ (wOps st.Wt) rfl (J2.rW rfl) hWG g7 ((lba : Int), xs) (some ⟨gi, 0, none⟩, ci) rfl (J2.c7 rfl rfl).1 (J2.c7 rfl rfl).2 J2.at_ hL1 ?_
      intro v8 wC h2 h3 h4
      have J3 := J2.app8 hWl' hWG hA.oo h2 h3 h4
      clear h2 h3 h4
      simp only [List.set_cons_succ, List.set_cons_zero]
      refine ⟨tillJ J3, ?_⟩
      exact fin g7 g14 v8 wC J3
  case h2 =>
    rintro g7 g14 v8 w2 J
    obtain ⟨hr8, ho8⟩ := J.r8 rfl
    obtain ⟨⟨cc0, cc1⟩, -⟩ := J.c14 rfl
    obtain ⟨y8, c8, rfl, -, -, -⟩ := hr8.is
    generalize (wOps st.Wt ++ [((lba : Int), xs)]).length = m8 at *
    refine onlyI 15 rfl rfl (by kernel_rfl) ?_
    refine wp_opA (k := 50) (s := 47) (x := 49) rfl rfl (fun k => FB k ∨ k = gi) _ st.T rfl J.rT hTG g14 ((lba : Int), xs) (some ⟨gi, 0, none⟩, ci) rfl cc0 cc1 J.at_ hL2 ?_
    intro vT2 w3 h2 h3 h4
    obtain ⟨y2, c2, rfl, -, -, -⟩ := h2.is
    generalize (st.T ++ [((lba : Int), xs)]).length = m2 at *
    have hoT : Off (fun k => (Value.slice yT mT cT).ownBlock = some k) w2 w3 := (Off.refl _ _).grown h3 (fun k hk => Or.inl hk)
    have hoA : Off (fun k => k = b ∨ (Value.slice yW m cW).ownBlock = some k ∨ (Value.slice yT mT cT).ownBlock = some k) W.drew w3 := (J.off.mono (G := (fun k => k = b ∨ (Value.slice yW m cW).ownBlock = some k ∨ (Value.slice yT mT cT).ownBlock = some k)) (fun k hk => Or.inl (Or.inr (Or.inl hk)))).trans hoT (fun k hk => Or.inl (Or.inr (Or.inr hk)))
    have hr8b := hr8.off hoT (fun k hk e => (ho8 k hk).elim (fun e2 => hA.oo k e2 e) (fun e2 => by have := hTl' k e; omega)) (fun k _ hg e => hTG k e hg)
    have h8lt : ∀ k, (Value.slice y8 m8 c8).ownBlock = some k → k < w2.heap.size := fun k hk => hr8.lt hk
    have hx3 : DBox w3 b p st.B (.slice yW m cW) (.slice yT mT cT) st.no := ((hA.box.off hd0 (fun h => h)).off J.off (fun e => (hA.oW b e).1 rfl)).off hoT (fun e => (hA.oT b e).1 rfl)
    have hHeld : ∀ {l : Array Bool}, Till (fun w' => Off (fun k => k = b ∨ (Value.slice yW m cW).ownBlock = some k ∨ (Value.slice yT mT cT).ownBlock = some k) W.drew w') (fun w' => w'.cell? ⟨b, 33, none⟩ = some (.slice yW m cW)) (fun w' => w'.cell? ⟨b, 34, none⟩ = some (.slice yT mT cT)) 18 21 l w3 := ⟨hoA, fun _ => hx3.c33, fun _ => hx3.c34⟩
    have hz2 := J.off.size
    have hz3 := hoT.size
    clear cc0 cc1 hr8 h3
    simp only [List.set_cons_succ, List.set_cons_zero]
    refine ⟨hHeld, ?_⟩
    refine takeI 16 51 (v := ?_) rfl rfl (by kernel_rfl) (by kernel_rfl) (by kernel_rfl) (fun _ _ _ h => h) (by rfl) (by kernel_rfl) (by decide) hHeld (fun w hSw => ?_) (fun hHeld => ?_)
    rotate_left 1
    · (try dsimp only at hSw)
      clear hSw
      go_simp
      try with_reducible rfl
    simp only [List.set_cons_succ, List.set_cons_zero]
    refine takeI 17 52 (v := ?_) rfl rfl (by kernel_rfl) (by kernel_rfl) (by kernel_rfl) (fun _ _ _ h => h) (by rfl) (by kernel_rfl) (by decide) hHeld (fun w hSw => ?_) (fun hHeld => ?_)
    rotate_left 1
    · (try dsimp only at hSw)
      clear hSw
      go_simp
      try with_reducible rfl
    simp only [List.set_cons_succ, List.set_cons_zero]
    have f33 := hx3.frozen 33
    have g33 := hx3.c33
    have hx4 := hx3.putW (.slice y8 m8 c8)
    have hoA4 := hoA.setCell (p := ⟨b, 33, none⟩) (Or.inl (Or.inl rfl)) (.slice y8 m8 c8)
    refine onlyK 18 rfl rfl (by kernel_rfl) (fun K hK => ?_)
    go_wp2_with fail
    clear f33 g33
    refine hK.out _ _ ⟨hoA4, fun e => absurd (show true = false from e) (by decide), fun _ => hx4.c34⟩ (fun hHeld => ?_)
    clear hK K
    refine takeI 19 53 (v := ?_) rfl rfl (by kernel_rfl) (by kernel_rfl) (by kernel_rfl) (fun _ _ _ h => h) (by rfl) (by kernel_rfl) (by decide) hHeld (fun w hSw => ?_) (fun hHeld => ?_)
    rotate_left 1
    · (try dsimp only at hSw)
      clear hSw
      go_simp
      try with_reducible rfl
    simp only [List.set_cons_succ, List.set_cons_zero]
    refine takeI 20 54 (v := ?_) rfl rfl (by kernel_rfl) (by kernel_rfl) (by kernel_rfl) (fun _ _ _ h => h) (by rfl) (by kernel_rfl) (by decide) hHeld (fun w hSw => ?_) (fun hHeld => ?_)
    rotate_left 1
    · (try dsimp only at hSw)
      clear hSw
      go_simp
      try with_reducible rfl
    simp only [List.set_cons_succ, List.set_cons_zero]
    have f34 := hx4.frozen 34
    have g34 := hx4.c34
    have hx5 := hx4.putT (.slice y2 m2 c2)
    have hoA5 := hoA4.setCell (p := ⟨b, 34, none⟩) (Or.inl (Or.inl rfl)) (.slice y2 m2 c2)
    refine onlyK 21 rfl rfl (by kernel_rfl) (fun K hK => ?_)
    go_wp2_with fail
    clear f34 g34
    refine hK.out _ _ ⟨hoA5, fun e => absurd (show true = false from e) (by decide), fun e => absurd (show true = false from e) (by decide)⟩ (fun hHeld => ?_)
    clear hK K hHeld
    refine doneI (by kernel_rfl) ?_ _
    go_wp2
    go_ret
    have hpost : KeptD (RDInv p) RPInv F G w (.pointer (some ⟨b, 0, none⟩)) (.pointer p) (ROwn (fun k => FB k ∨ k = gi) b (.slice y8 m8 c8) (.slice y2 m2 c2)) G1 ((w3.setCell ⟨b, 33, none⟩ (.slice y8 m8 c8)).setCell ⟨b, 34, none⟩ (.slice y2 m2 c2)) (st.write lba xs) q' := by
      have hbW1 : b < w1.heap.size := hgW b (Or.inl rfl)
      have hWs : w1.heap.size ≤ W.heap.size := hW5.size
      have hWd : W.drew.heap.size = W.heap.size := rfl
      have hFBl : ∀ k, FB k → k < w1.heap.size := fun k hk => hgW k (Or.inr (Or.inr (Or.inr hk)))
      have hgiW : gi < W.heap.size := hgi5
      have hgi1 : w1.heap.size ≤ gi := hgi
      have hW1 : ∀ k, (Value.slice yW m cW).ownBlock = some k → k < w1.heap.size := fun k hk => hgW k (Or.inr (Or.inl hk))
      have hT1 : ∀ k, (Value.slice yT mT cT).ownBlock = some k → k < w1.heap.size := fun k hk => hgW k (Or.inr (Or.inr (Or.inl hk)))
      have o8 : ∀ k, (Value.slice y8 m8 c8).ownBlock = some k → (Value.slice yW m cW).ownBlock = some k ∨ W.heap.size ≤ k := ho8
      have o2 : ∀ k, (Value.slice y2 m2 c2).ownBlock = some k → (Value.slice yT mT cT).ownBlock = some k ∨ w2.heap.size ≤ k := h4
      have ho1 : Off (fun j => j = b) w3 ((w3.setCell ⟨b, 33, none⟩ (.slice y8 m8 c8)).setCell ⟨b, 34, none⟩ (.slice y2 m2 c2)) := (Off.setCell (F := fun j => j = b) (p := ⟨b, 33, none⟩) (Off.refl _ w3) (Or.inl rfl) _).setCell (p := ⟨b, 34, none⟩) (Or.inl rfl) _
      have n8 : ∀ k, (Value.slice y8 m8 c8).ownBlock = some k → k ≠ b ∧ ¬ (FB k ∨ k = gi) := fun k hk => (o8 k hk).elim (fun e => ⟨(hA.oW k e).1, fun h => h.elim (hA.oW k e).2 (fun h => by have := hW1 k e; omega)⟩) (fun e => ⟨by omega, fun h => h.elim (fun h => by have := hFBl k h; omega) (fun h => by omega)⟩)
      have n2 : ∀ k, (Value.slice y2 m2 c2).ownBlock = some k → k ≠ b ∧ ¬ (FB k ∨ k = gi) := fun k hk => (o2 k hk).elim (fun e => ⟨(hA.oT k e).1, fun h => h.elim (hA.oT k e).2 (fun h => by have := hT1 k e; omega)⟩) (fun e => ⟨by omega, fun h => h.elim (fun h => by have := hFBl k h; omega) (fun h => by omega)⟩)
      have hnbF : ¬ (FB b ∨ b = gi) := fun h => h.elim hA.nb (fun h => by omega)
      have hG1 : ∀ k, G1 k → k < w1.heap.size := hGlt.out
      have hoff5 : Off (fun k => k = b ∨ (Value.slice yW m cW).ownBlock = some k ∨ (Value.slice yT mT cT).ownBlock = some k) W ((w3.setCell ⟨b, 33, none⟩ (.slice y8 m8 c8)).setCell ⟨b, 34, none⟩ (.slice y2 m2 c2)) := (hd0.mono (fun _ h => h.elim)).trans hoA5 (fun _ h => Or.inl h)
      refine ⟨⟨b, fun k => FB k ∨ k = gi, .slice y8 m8 c8, .slice y2 m2 c2, rfl, ⟨hx5, ?_, h2.off ho1 (fun k hk e => (n2 k hk).1 e) (fun k _ hg e => hnbF (e ▸ hg)), ⟨hA.wf.n, hA.wf.b, fun o ho => ?_⟩, hA.bB, hnbF, fun k hk => ?_, n8, n2, fun k hk e => ?_⟩, fun _ => Iff.rfl⟩, ?_, ?_, ?_, hsub.out, ?_⟩
      · show OpRow _ _ _ (wOps (st.Wt ++ [(lba, xs)]))
        rw [wOps_app]
        exact hr8b.off ho1 (fun k hk e => (n8 k hk).1 e) (fun k _ hg e => hnbF (e ▸ hg))
      · rcases List.mem_append.1 ho with ho | ho
        · exact hA.wf.w o ho
        · obtain rfl := List.mem_singleton.1 ho
          exact ⟨hl, hxl⟩
      · have := hoff5.size
        exact hk.elim (fun h => by have := hFBl k h; omega) (fun h => by omega)
      · exact (o2 k e).elim (fun e2 => (o8 k hk).elim (fun e1 => hA.oo k e1 e2) (fun e1 => by have := hT1 k e2; omega)) (fun e2 => by have := h8lt k hk; omega)
      · refine rpbase.keep hP5 hoff5 (fun k hg e => ?_)
        rcases e with e | e | e
        · exact hFG1 k (Or.inl e) hg
        · exact hFG1 k (Or.inr (Or.inl e)) hg
        · exact hFG1 k (Or.inr (Or.inr (Or.inl e))) hg
      · rintro k (hk | hk | hk | hk) hg
        · exact hFG1 k (Or.inl hk) hg
        · exact (o8 k hk).elim (fun e => hFG1 k (Or.inr (Or.inl e)) hg) (fun e => by have := hG1 k hg; omega)
        · exact (o2 k hk).elim (fun e => hFG1 k (Or.inr (Or.inr (Or.inl e))) hg) (fun e => by have := hG1 k hg; omega)
        · exact hk.elim (fun e => hFG1 k (Or.inr (Or.inr (Or.inr e))) hg) (fun e => by have := hG1 k hg; omega)
      · rintro k (hk | hk | hk | hk)
        · exact Or.inl ((HF2.out k).2 (Or.inl hk))
        · exact (o8 k hk).imp (fun e => (HF2.out k).2 (Or.inr (Or.inl e))) (fun e => by omega)
        · exact (o2 k hk).imp (fun e => (HF2.out k).2 (Or.inr (Or.inr (Or.inl e)))) (fun e => by omega)
        · exact hk.imp (fun e => (HF2.out k).2 (Or.inr (Or.inr (Or.inr e)))) (fun e => by omega)
      · exact ((hoff1'.out.mono (G := fun k => F k ∨ G k) (fun k hk => Or.inl (Or.inr hk))).more hW5).trans hoff5 (fun k hk => Or.inl (Or.inl ((HF2.out k).2 (hk.elim Or.inl (fun h => Or.inr (h.elim Or.inl (fun h => Or.inr (Or.inl h))))))))
    first | exact ⟨rfl, _, _, hpost⟩ | exact ⟨_, _, rfl, hpost⟩
end Go.Proofs.Ytcjmmfgnnebgkaa


/- What the document's disk comes to: a Write that is refused. -/
namespace Go.Proofs.Ytcjmmfgnnebgkaa
open Go.RowKit
set_option maxRecDepth 20000

theorem rdwriteNo (p : Option Addr) (F : Nat → Prop) (v : Value) (st : DskSt) (lba : Int) (x : Option Addr) (n c : Nat) (hc : (lba < 0 ∨ 32 ≤ lba) ∨ n ≠ 32 ∨ st.no = true) (w : World) (hD : RDInv p F w v st) :
    Calls Try.prog 13 #[v, .int .i64 lba, .slice x n c] w fun e w' => ∃ F', e = .returned (.bool false) ∧ KeptG (RDInv p) F w v F' w' st := by
  have hD0 := hide' hD
  obtain ⟨b, FB, vW, vT, rfl, hA, -⟩ := hD
  have hbl := hA.box.lt
  have k35 := hA.box.c35
  clear hA
  by_cases h0 : lba < 0 ∨ 32 ≤ lba
  · have hi := is_no lba h0
    clear h0 hc
    go_enter Try.func13, Try.ntmps13
    go_wp2_with fail
    refine (hi _).mono ?_
    rintro e w1 ⟨rfl, hb⟩
    go_wp2
    go_ret
    have hpost := (rdbase p).kept hD0.out hb
    first | exact ⟨rfl, _, hpost⟩ | exact ⟨_, rfl, hpost⟩
  · obtain ⟨lb, rfl⟩ : ∃ k : Nat, lba = k := ⟨lba.toNat, by omega⟩
    have hi := is_yes lb (by omega)
    have hc2 := hc.resolve_left h0
    clear h0 hc
    by_cases hn : n = 32
    · subst hn
      have hno : st.no = true := hc2.resolve_left (fun h => h rfl)
      rw [hno] at k35
      go_enter Try.func13, Try.ntmps13
      go_wp2_with fail
      refine (hi _).mono ?_
      rintro e w1 ⟨rfl, hb⟩
      replace k35 := (hb.cell (p := ⟨b, 35, none⟩) hbl).trans k35
      go_wp2
      go_ret
      have hpost := (rdbase p).kept hD0.out hb
      first | exact ⟨rfl, _, hpost⟩ | exact ⟨_, rfl, hpost⟩
    · have hn' : ¬ (n : Int) = 32 := by omega
      clear hc2 k35
      go_enter Try.func13, Try.ntmps13
      go_wp2_with fail
      refine (hi _).mono ?_
      rintro e w1 ⟨rfl, hb⟩
      go_wp2
      go_ret
      have hpost := (rdbase p).kept hD0.out hb
      first | exact ⟨rfl, _, hpost⟩ | exact ⟨_, rfl, hpost⟩
end Go.Proofs.Ytcjmmfgnnebgkaa


/- A disk with its power, as one object; what each act does to it, plain. -/
namespace Go.Proofs.Ytcjmmfgnnebgkaa
open Go.RowKit
set_option maxRecDepth 20000

abbrev DP : Type := DskSt × PSt
def DPI (DI : (Nat → Prop) → World → Value → DskSt → Prop) (PI : (Nat → Prop) → World → Value → PSt → Prop) (p : Option Addr) (H : Nat → Prop) (w : World) (v : Value) (s : DP) : Prop := ∃ F G, DI F w v s.1 ∧ PI G w (.pointer p) s.2 ∧ (∀ k, F k → ¬ G k) ∧ ∀ k, H k ↔ F k ∨ G k
section
variable {DI : (Nat → Prop) → World → Value → DskSt → Prop} {PI : (Nat → Prop) → World → Value → PSt → Prop} {p : Option Addr} {H F G F' G' : Nat → Prop} {w w' : World} {v : Value} {s s' : DskSt} {t t' : PSt}
theorem dpbase (hD : ObjBase DI) (hP : ObjBase PI) (p : Option Addr) : ObjBase (DPI DI PI p) := by
  refine ⟨?_, ?_, ?_⟩
  · rintro H w w' v st ⟨F, G, h1, h2, h3, h4⟩ hs hb
    exact ⟨F, G, hD.stay h1 hs (fun k hk => hb k ((h4 k).2 (Or.inl hk))), hP.stay h2 hs (fun k hk => hb k ((h4 k).2 (Or.inr hk))), h3, h4⟩
  · rintro H w v st ⟨F, G, h1, h2, h3, h4⟩ k hk
    exact ((h4 k).1 hk).elim (hD.lt h1 k) (hP.lt h2 k)
  · rintro H w v _ ⟨F, G, h1, _, _, _⟩
    exact hD.ptr h1
theorem KeptD.dp (hK : KeptD DI PI F G w v (.pointer p) F' G' w' s' t') (hH : ∀ k, H k ↔ F k ∨ G k) : KeptG (DPI DI PI p) H w v (fun k => F' k ∨ G' k) w' (s', t') :=
  ⟨⟨F', G', hK.one, hK.two, hK.dis, fun _ => Iff.rfl⟩, fun k hk => hk.elim (fun h => (hK.sub1 k h).imp (fun h => (hH k).2 (Or.inl h)) id) (fun h => (hK.sub2 k h).imp (fun h => (hH k).2 (Or.inr h)) id), hK.off.mono (fun k hk => Or.inl ((hH k).2 hk))⟩
theorem KeptG.dp1 (hP : ObjBase PI) (hK : KeptG DI F w v F' w' s') (h2 : PI G w (.pointer p) t) (hd : ∀ k, F k → ¬ G k) (hH : ∀ k, H k ↔ F k ∨ G k) : KeptG (DPI DI PI p) H w v (fun k => F' k ∨ G k) w' (s', t) :=
  ⟨⟨F', G, hK.inv, hP.keep h2 hK.off (fun k hg hf => hd k hf hg), fun k hf hg => (hK.sub k hf).elim (fun h => hd k h hg) (fun e => by have := hP.lt h2 k hg; omega), fun _ => Iff.rfl⟩, fun k hk => hk.elim (fun h => (hK.sub k h).imp (fun h => (hH k).2 (Or.inl h)) id) (fun h => Or.inl ((hH k).2 (Or.inr h))), hK.off.mono (fun k hk => Or.inl ((hH k).2 (Or.inl hk)))⟩
theorem KeptG.dp2 (hD : ObjBase DI) (hK : KeptG PI G w (.pointer p) G' w' t') (h1 : DI F w v s) (hd : ∀ k, F k → ¬ G k) (hH : ∀ k, H k ↔ F k ∨ G k) : KeptG (DPI DI PI p) H w v (fun k => F k ∨ G' k) w' (s, t') :=
  ⟨⟨F, G', hD.keep h1 hK.off hd, hK.inv, fun k hf hg => (hK.sub k hg).elim (hd k hf) (fun e => by have := hD.lt h1 k hf; omega), fun _ => Iff.rfl⟩, fun k hk => hk.elim (fun h => Or.inl ((hH k).2 (Or.inl h))) (fun h => (hK.sub k h).imp (fun h => (hH k).2 (Or.inr h)) id), hK.off.mono (fun k hk => Or.inl ((hH k).2 (Or.inr hk)))⟩
end
/-- What the calls tell, and leave. -/
def dWrite (s : DP) (lba : Int) (xs : List Int) : Bool × DP := if (0 ≤ lba ∧ lba < 32) ∧ xs.length = 32 ∧ s.1.no = false then ((pSpend s.2).1, (if (pSpend s.2).1 = true then s.1.write lba.toNat xs else s.1, (pSpend s.2).2)) else (false, s)
def dBarrier (s : DP) : Bool × DP := ((pSpend s.2).1, (if (pSpend s.2).1 = true then s.1.settle else s.1, (pSpend s.2).2))
def dRead (s : DP) (lba : Int) : Bool × List Int := if (0 ≤ lba ∧ lba < 32) ∧ s.2.1 = true then (true, s.1.cur lba.toNat) else (false, [])
/-- So much there is of each. -/
def DBd (k : Nat) (s : DP) : Prop := s.1.T.length ≤ k ∧ s.1.Wt.length ≤ k ∧ s.2.2.2 ≤ k
theorem dWrite_bd {k : Nat} {s : DP} (h : DBd k s) (lba : Int) (xs : List Int) : DBd (k + 1) (dWrite s lba xs).2 := by
  obtain ⟨h1, h2, h3⟩ := h
  have := pSpend_le s.2
  unfold dWrite
  split
  · dsimp only
    split
    · exact ⟨by simp [DskSt.write]; omega, by simp [DskSt.write]; omega, by dsimp only; omega⟩
    · exact ⟨by dsimp only; omega, by dsimp only; omega, by dsimp only; omega⟩
  · exact ⟨by dsimp only; omega, by dsimp only; omega, by dsimp only; omega⟩
theorem dBarrier_bd {k : Nat} {s : DP} (h : DBd k s) : DBd (k + 1) (dBarrier s).2 := by
  obtain ⟨h1, h2, h3⟩ := h
  have := pSpend_le s.2
  unfold dBarrier
  dsimp only
  split
  · exact ⟨by simp [DskSt.settle]; omega, by simp [DskSt.settle], by dsimp only; omega⟩
  · exact ⟨by dsimp only; omega, by dsimp only; omega, by dsimp only; omega⟩
theorem DBd.crash {k : Nat} {s : DP} (h : DBd k s) (K : List Bool) : DBd (k + 1) (s.1.crash K, s.2) := ⟨Nat.le_succ_of_le h.1, Nat.zero_le _, Nat.le_succ_of_le h.2.2⟩
theorem DBd.more {k : Nat} {s : DP} (h : DBd k s) : DBd (k + 1) s := ⟨Nat.le_succ_of_le h.1, Nat.le_succ_of_le h.2.1, Nat.le_succ_of_le h.2.2⟩
end Go.Proofs.Ytcjmmfgnnebgkaa
