/- RefLk RowsAt Byt: texts laid together. -/
import Derived.Test.YtkkehbebaokdmaaM13
import Derived.Test.YtkkehbebaokdmaaM12
import Derived.Test.YtkkehbebaokdmaaM04
import Derived.Test.YtkkehbebaokdmaaM01
import Derived.Test.YtkkehbebaokdmaaM03

/- The document's own lock: Seal and Open. -/
namespace Go.Proofs.Ytkkehbebaokdmaa
open Go.RowKit
set_option maxRecDepth 20000

theorem SBox.no8 {w : World} {b : Nat} {v : Value} {t1 t2 : Int} (h : SBox w b v t1 t2) {cur : Array Value} {fr : Nat × Nat} (h2 : w.heap[b]? = some (.cells cur 5 fr)) : False := by
  unfold SBox at h
  rw [h] at h2
  simp at h2
theorem Typ8.of_own {B : Nat} {w : World} {x : Option Addr} {n c : Nat} {xs : List Value} (h : w.ownsRow B 5 1 (.slice x n c) n xs) : Typ8 B w x n := fun hn => by
  obtain ⟨h1, h2 | ⟨g, cap, cur, e, hg, hh, rest⟩⟩ := h
  · simp at h2
    omega
  · simp at e
    exact ⟨g, 0, cur, _, e.1, hg, hh⟩
set_option maxHeartbeats 4000000 in
theorem rlseal (G0 : Nat → Prop) (b : Nat) (st : LSt) (key : BitVec 64 × BitVec 64) (nn : Nn) (xs ys : List Int) (x y : Option Addr) (nx ny c d : Nat) (hnx : nx ≤ 4000) (hny : ny ≤ 4000) (hL : st.iss.length ≤ 10000) (bx : Bytes xs) (by_ : Bytes ys) (fx : Fit x nx c) (fy : Fit y ny d) (w : World) (hI : RLInv G0 w b st) (sx : SIn (fun k => ¬ G0 k) w x nx xs) (sy : SIn (fun k => ¬ G0 k) w y ny ys) :
    Calls Try.prog 11 #[.pointer (some ⟨b, 0, none⟩), .agg #[.int .u64 (nv key.1), .int .u64 (nv key.2)], .agg #[.int .u32 (nv32 nn.1), .int .u32 (nv32 nn.2.1), .int .u64 (nv nn.2.2)], .slice x nx c, .slice y ny d] w fun e w' => ∃ z cz G', e = .returned (.tuple #[.agg #[.slice z ny cz, .int .u64 (nv (st.sealT key nn xs ys).1), .int .u64 (nv (st.sealT key nn xs ys).2)], .bool true]) ∧ RLInv G' w' b (st.sealS ⟨key, nn, xs, ys⟩) ∧ (∀ k, G' k → G0 k ∨ w.heap.size ≤ k) ∧ Off G0 w w' ∧ SAt w' z ny (st.sealB key nn ys) ∧ Fit z ny cz ∧ U8 w w' ∧ Typ8 w.heap.size w' z ny := by
  have hI' := hI
  have hlt0 := hI.lt
  have bK := ((Box.new w (nv key.1) (nv key.2)).alloc (.cells #[.int .u32 (nv32 nn.1), .int .u32 (nv32 nn.2.1), .int .u64 (nv nn.2.2)] 35)).alloc (.cells #[.slice none 0 0, .int .u64 0, .int .u64 0] 32)
  have bN := (NBox.new (w.alloc (.cells #[.int .u64 (nv key.1), .int .u64 (nv key.2)] 30)) nn).alloc (.cells #[.slice none 0 0, .int .u64 0, .int .u64 0] 32)
  have bR := SBox.new ((w.alloc (.cells #[.int .u64 (nv key.1), .int .u64 (nv key.2)] 30)).alloc (.cells #[.int .u32 (nv32 nn.1), .int .u32 (nv32 nn.2.1), .int .u64 (nv nn.2.2)] 35)) (.slice none 0 0) 0 0
  have hB : Below w.heap.size w (((w.alloc (.cells #[.int .u64 (nv key.1), .int .u64 (nv key.2)] 30)).alloc (.cells #[.int .u32 (nv32 nn.1), .int .u32 (nv32 nn.2.1), .int .u64 (nv nn.2.2)] 35)).alloc (.cells #[.slice none 0 0, .int .u64 0, .int .u64 0] 32)) := by go_grown
  simp only [World.size_alloc] at bN bR
  obtain ⟨rfl, hb, hF⟩ | ⟨hi, o, G, hb, hP, hn, hF⟩ := hI
  · have hbl := hb.lt
    have hbb : LBox (((w.alloc (.cells #[.int .u64 (nv key.1), .int .u64 (nv key.2)] 30)).alloc (.cells #[.int .u32 (nv32 nn.1), .int .u32 (nv32 nn.2.1), .int .u64 (nv nn.2.2)] 35)).alloc (.cells #[.slice none 0 0, .int .u64 0, .int .u64 0] 32)) b (.pointer none) := off_block hb (Off.of_below (F := fun _ => False) hB) (fun h => h)
    have k0 := hbb.c0
    have tx := sx.sat.below hB
    have ty := sy.sat.below hB
    obtain ⟨t, HT⟩ : ∃ t, Hid (tagP (subP key nn) xs (mixL (subP key nn) ys) = t) := ⟨_, rfl⟩
    have hST : LSt.sealT ⟨false, [], []⟩ key nn xs ys = t := HT.out
    have hSB : LSt.sealB ⟨false, [], []⟩ key nn ys = mixL (subP key nn) ys := rfl
    have hSS : LSt.sealS ⟨false, [], []⟩ ⟨key, nn, xs, ys⟩ = ⟨false, [], []⟩ := rfl
    rw [hST, hSB, hSS]
    clear hST hSB hSS
    have hC := fun w => rseal_own key nn xs ys x y nx ny c d hnx hny bx by_ fx.1 fy.1 fx.2.2 fy.2.2 w
    rw [HT.out] at hC
    have q0 := bK.c0
    have q1 := bK.c1
    have q2 := bN.c0
    have q3 := bN.c1
    have q4 := bN.c2
    go_enter Try.func11, Try.ntmps11
    go_wp2_with fail
    have hWz : w.heap.size + 1 + 1 < (((w.alloc (.cells #[.int .u64 (nv key.1), .int .u64 (nv key.2)] 30)).alloc (.cells #[.int .u32 (nv32 nn.1), .int .u32 (nv32 nn.2.1), .int .u64 (nv nn.2.2)] 35)).alloc (.cells #[.slice none 0 0, .int .u64 0, .int .u64 0] 32)).heap.size := bR.lt
    generalize (((w.alloc (.cells #[.int .u64 (nv key.1), .int .u64 (nv key.2)] 30)).alloc (.cells #[.int .u32 (nv32 nn.1), .int .u32 (nv32 nn.2.1), .int .u64 (nv nn.2.2)] 35)).alloc (.cells #[.slice none 0 0, .int .u64 0, .int .u64 0] 32)) = W1 at *
    clear q0 q1 q2 q3 q4
    refine (hC _ tx ty).mono ?_
    rintro e w2 ⟨v, rfl, own, hb2⟩
    obtain ⟨z, cz, rfl, sz, hz1, hz2, hz3⟩ := own_slice (by rw [mixL_length, sy.1]) own
    have hT8 := Typ8.of_own own
    clear own hC
    replace bR := bR.grown hb2
    have q0 := bR.c0
    have q1 := bR.c1
    have q2 := bR.c2
    have q3 := bR.frozen 0
    have q4 := bR.frozen 1
    have q5 := bR.frozen 2
    go_wp2
    clear q0 q1 q2 q3 q4 q5
    have hos : Off (fun k => k = w.heap.size + 1 + 1) w2 (((w2.setCell ⟨w.heap.size + 1 + 1, 0, none⟩ (.slice z ny cz)).setCell ⟨w.heap.size + 1 + 1, 1, none⟩ (.int .u64 (nv t.1))).setCell ⟨w.heap.size + 1 + 1, 2, none⟩ (.int .u64 (nv t.2))) := ((((Off.refl (fun k => k = w.heap.size + 1 + 1) w2).setCell (p := ⟨w.heap.size + 1 + 1, 0, none⟩) (Or.inl rfl) (.slice z ny cz)).setCell (p := ⟨w.heap.size + 1 + 1, 1, none⟩) (Or.inl rfl) (.int .u64 (nv t.1))).setCell (p := ⟨w.heap.size + 1 + 1, 2, none⟩) (Or.inl rfl) (.int .u64 (nv t.2)))
    have hU2 : U8 w2 (((w2.setCell ⟨w.heap.size + 1 + 1, 0, none⟩ (.slice z ny cz)).setCell ⟨w.heap.size + 1 + 1, 1, none⟩ (.int .u64 (nv t.1))).setCell ⟨w.heap.size + 1 + 1, 2, none⟩ (.int .u64 (nv t.2))) := U8.of_off hos (fun k cur fr h e => by subst e; exact bR.no8 h)
    have hBe := ((Off.of_below (F := fun _ => False) (hB.trans (hb2.mono hB.size))).trans hos (fun k h => Or.inr (by omega))).none (fun _ h => h.elim)
    have sz2 := (sat_no8 (fun cur fr h => bR.no8 h) hT8 sz)
    replace bR := bR.put3 (.slice z ny cz) (nv t.1) (nv t.2)
    have r0 := bR.c0
    have r1 := bR.c1
    have r2 := bR.c2
    refine bodyPost_ret (v := .tuple #[.agg #[.slice z ny cz, .int .u64 (nv t.1), .int .u64 (nv t.2)], .bool true]) (by simp [results, Try.results11, go_sem, r0, r1, r2]) rfl ⟨z, cz, G0, rfl, hI'.below hBe, fun k h => Or.inl h, Off.of_below hBe, (sz2.off hos (fun k _ h e => h e)).sat, ⟨hz1, hz2, hz3⟩, (U8.of_below (hB.trans (hb2.mono hB.size))).trans hU2, ?_⟩
    exact (hT8.mono hB.size).stay hU2
  · have hGl := hP.lt
    have hbl := hb.lt
    have hbb : LBox (((w.alloc (.cells #[.int .u64 (nv key.1), .int .u64 (nv key.2)] 30)).alloc (.cells #[.int .u32 (nv32 nn.1), .int .u32 (nv32 nn.2.1), .int .u64 (nv nn.2.2)] 35)).alloc (.cells #[.slice none 0 0, .int .u64 0, .int .u64 0] 32)) b (.pointer (some ⟨o, 0, none⟩)) := off_block hb (Off.of_below (F := fun _ => False) hB) (fun h => h)
    have k0 := hbb.c0
    have hbW := hbb.lt
    have hT : st.sealT key nn xs ys = tagI (st.iss.length + 1) := by rw [LSt.sealT, if_pos hi]
    have hT1 := tagI_1 (st.iss.length + 1)
    have hT2 : nv (tagI (st.iss.length + 1)).2 = (st.iss.length : Int) + 1 := (tagI_2 _ (by omega)).trans (by omega)
    have hSB : st.sealB key nn ys = outB (st.iss.length + 1) ny := by rw [LSt.sealB, if_pos hi, sy.1]
    have hSS : st.sealS ⟨key, nn, xs, ys⟩ = ⟨st.ideal, st.iss ++ [⟨key, nn, xs, ys⟩], st.sums⟩ := by rw [LSt.sealS, if_pos hi]
    rw [hT, hT1, hT2, hSB, hSS]
    clear hT hT1 hT2 hSB hSS
    replace sx := (sx.off (Off.of_below (F := fun _ => False) hB) (fun _ _ _ h => h)).mono (G' := fun k => ¬ G k) (fun k _ h hg => h ((hF k).2 (Or.inr hg)))
    replace sy := (sy.off (Off.of_below (F := fun _ => False) hB) (fun _ _ _ h => h)).mono (G' := fun k => ¬ G k) (fun k _ h hg => h ((hF k).2 (Or.inr hg)))
    replace hP := hP.below hB
    go_enter Try.func11, Try.ntmps11
    go_wp2_with fail
    have hWz : w.heap.size + 1 + 1 < (((w.alloc (.cells #[.int .u64 (nv key.1), .int .u64 (nv key.2)] 30)).alloc (.cells #[.int .u32 (nv32 nn.1), .int .u32 (nv32 nn.2.1), .int .u64 (nv nn.2.2)] 35)).alloc (.cells #[.slice none 0 0, .int .u64 0, .int .u64 0] 32)).heap.size := bR.lt
    generalize (((w.alloc (.cells #[.int .u64 (nv key.1), .int .u64 (nv key.2)] 30)).alloc (.cells #[.int .u32 (nv32 nn.1), .int .u32 (nv32 nn.2.1), .int .u64 (nv nn.2.2)] 35)).alloc (.cells #[.slice none 0 0, .int .u64 0, .int .u64 0] 32)) = W1 at *
    refine wp_region_held_drew (S := fun w' => Off (fun k => G k ∨ k = w.heap.size + 1 + 1) W1 w') (by kernel_rfl) (Off.refl _ _).drew (fun hHeld => ?_)
    refine takeM 0 17 0 rfl rfl rfl (by kernel_rfl) (by kernel_rfl) (by kernel_rfl) (fun _ _ _ h => h) (by rfl) hHeld rfl ?_
    simp only [List.set_cons_succ, List.set_cons_zero]
    refine takeL 1 18 (v := ?_) rfl rfl (by kernel_rfl) (by kernel_rfl) (by kernel_rfl) (fun _ _ _ h => h) (by rfl) hHeld (fun wz hSw => ?_) ?_
    rotate_left 1
    · (try dsimp only at hSw)
      clear hSw
      go_simp
      try with_reducible rfl
    simp only [List.set_cons_succ, List.set_cons_zero]
    refine takeL 2 19 (v := ?_) rfl rfl (by kernel_rfl) (by kernel_rfl) (by kernel_rfl) (fun _ _ _ h => h) (by rfl) hHeld (fun wz hSw => ?_) ?_
    rotate_left 1
    · (try dsimp only at hSw)
      clear hSw
      go_simp
      try with_reducible rfl
    simp only [List.set_cons_succ, List.set_cons_zero]
    refine takeL 3 20 (v := ?_) rfl rfl (by kernel_rfl) (by kernel_rfl) (by kernel_rfl) (fun _ _ _ h => h) (by rfl) hHeld (fun wz hSw => ?_) ?_
    rotate_left 1
    · (try dsimp only at hSw)
      have e0_ := (hSw.cell (p := ⟨b, 0, none⟩) hbW (fun h => h.elim hn (fun e => by have e : b = w.heap.size + 1 + 1 := e; omega))).trans k0
      clear hSw
      go_simp
      try with_reducible rfl
    simp only [List.set_cons_succ, List.set_cons_zero]
    refine takeL 4 21 (v := ?_) rfl rfl (by kernel_rfl) (by kernel_rfl) (by kernel_rfl) (fun _ _ _ h => h) (by rfl) hHeld (fun wz hSw => ?_) ?_
    rotate_left 1
    · (try dsimp only at hSw)
      have hx_ : Box wz _ (nv key.1) (nv key.2) := off_block bK hSw (fun h => h.elim (fun h => by have := hGl _ h; omega) (fun e => by omega))
      have e0_ := hx_.c0
      have e1_ := hx_.c1
      clear hx_
      clear hSw
      go_simp
      try with_reducible rfl
    simp only [List.set_cons_succ, List.set_cons_zero]
    refine takeL 5 22 (v := ?_) rfl rfl (by kernel_rfl) (by kernel_rfl) (by kernel_rfl) (fun _ _ _ h => h) (by rfl) hHeld (fun wz hSw => ?_) ?_
    rotate_left 1
    · (try dsimp only at hSw)
      have hx_ : NBox wz _ nn := off_block bN hSw (fun h => h.elim (fun h => by have := hGl _ h; omega) (fun e => by omega))
      have e0_ := hx_.c0
      have e1_ := hx_.c1
      have e2_ := hx_.c2
      clear hx_
      clear hSw
      go_simp
      try with_reducible rfl
    simp only [List.set_cons_succ, List.set_cons_zero]
    refine takeM 6 23 3 rfl rfl rfl (by kernel_rfl) (by kernel_rfl) (by kernel_rfl) (fun _ _ _ h => h) (by rfl) hHeld rfl ?_
    simp only [List.set_cons_succ, List.set_cons_zero]
    refine takeM 7 24 4 rfl rfl rfl (by kernel_rfl) (by kernel_rfl) (by kernel_rfl) (fun _ _ _ h => h) (by rfl) hHeld rfl ?_
    simp only [List.set_cons_succ, List.set_cons_zero]
    refine onlyL 8 rfl (by kernel_rfl) (by rfl) (fun K hK => ?_)
    go_wp2_with fail
    refine (roseal8 G o st.iss st.sums key nn xs ys x y nx ny c d hnx hny (by omega) bx by_ W1.drew (hP.below (Below.refl _ _).drew) (sx.off (F := fun _ => False) (Off.refl _ _).drew (fun _ _ _ h => h)) (sy.off (F := fun _ => False) (Off.refl _ _).drew (fun _ _ _ h => h))).mono ?_
    rintro e w2 ⟨z, cz, G2, rfl, hR, hsub, hoff, sz, fz1, fz2, fz3, hU, hT8⟩
    have hof : Off (fun k => G k ∨ k = w.heap.size + 1 + 1) W1 w2 := (Off.refl _ W1).drew.trans hoff (fun k h => Or.inl (Or.inl h))
    replace bR : SBox w2 _ (.slice none 0 0) 0 0 := off_block (w := W1.drew) bR hoff (fun h => by have := hGl _ h; omega)
    refine hK.out _ _ hof (fun _ => ?_)
    clear hK K hHeld
    have hHeld := hof
    refine takeL 9 26 (v := ?_) rfl rfl (by kernel_rfl) (by kernel_rfl) (by kernel_rfl) (fun _ _ _ h => h) (by rfl) hHeld (fun wz hSw => ?_) ?_
    rotate_left 1
    · (try dsimp only at hSw)
      clear hSw
      go_simp
      try with_reducible rfl
    simp only [List.set_cons_succ, List.set_cons_zero]
    refine takeL 10 27 (v := ?_) rfl rfl (by kernel_rfl) (by kernel_rfl) (by kernel_rfl) (fun _ _ _ h => h) (by rfl) hHeld (fun wz hSw => ?_) ?_
    rotate_left 1
    · (try dsimp only at hSw)
      clear hSw
      go_simp
      try with_reducible rfl
    simp only [List.set_cons_succ, List.set_cons_zero]
    have q0 := bR.c0
    have q1 := bR.c1
    have q2 := bR.c2
    have q3 := bR.frozen 0
    have q4 := bR.frozen 1
    have q5 := bR.frozen 2
    refine onlyL 11 rfl (by kernel_rfl) (by rfl) (fun K hK => ?_)
    go_wp2_with fail
    clear q0 q1 q2 q3 q4 q5
    have hos : Off (fun k => k = w.heap.size + 1 + 1) w2 (((w2.setCell ⟨w.heap.size + 1 + 1, 0, none⟩ (.slice z ny cz)).setCell ⟨w.heap.size + 1 + 1, 1, none⟩ (.int .u64 18446744073709551615)).setCell ⟨w.heap.size + 1 + 1, 2, none⟩ (.int .u64 ((st.iss.length : Int) + 1))) := ((((Off.refl (fun k => k = w.heap.size + 1 + 1) w2).setCell (p := ⟨w.heap.size + 1 + 1, 0, none⟩) (Or.inl rfl) (.slice z ny cz)).setCell (p := ⟨w.heap.size + 1 + 1, 1, none⟩) (Or.inl rfl) (.int .u64 18446744073709551615)).setCell (p := ⟨w.heap.size + 1 + 1, 2, none⟩) (Or.inl rfl) (.int .u64 ((st.iss.length : Int) + 1)))
    have hU2 : U8 w2 (((w2.setCell ⟨w.heap.size + 1 + 1, 0, none⟩ (.slice z ny cz)).setCell ⟨w.heap.size + 1 + 1, 1, none⟩ (.int .u64 18446744073709551615)).setCell ⟨w.heap.size + 1 + 1, 2, none⟩ (.int .u64 ((st.iss.length : Int) + 1))) := U8.of_off hos (fun k cur fr h e => by subst e; exact bR.no8 h)
    have sz2 := (sat_no8 (fun cur fr h => bR.no8 h) hT8 sz.sat).off hos (fun k _ h e => h e)
    replace bR := bR.put3 (.slice z ny cz) 18446744073709551615 ((st.iss.length : Int) + 1)
    generalize (((w2.setCell ⟨w.heap.size + 1 + 1, 0, none⟩ (.slice z ny cz)).setCell ⟨w.heap.size + 1 + 1, 1, none⟩ (.int .u64 18446744073709551615)).setCell ⟨w.heap.size + 1 + 1, 2, none⟩ (.int .u64 ((st.iss.length : Int) + 1))) = w3 at *
    replace hof := hof.trans hos (fun k h => Or.inl (Or.inr h))
    refine hK.out _ _ hof (fun _ => ?_)
    clear hK K hHeld
    have hHeld := hof
    refine takeA 12 11 27 rfl rfl rfl (by kernel_rfl) (by kernel_rfl) (by kernel_rfl) (fun _ _ _ h => h) (by rfl) hHeld rfl ?_
    simp only [List.set_cons_succ, List.set_cons_zero]
    refine wpAnyH_done (by kernel_rfl) ?_ _
    go_wp2
    have r0 := bR.c0
    have r1 := bR.c1
    have r2 := bR.c2
    have hz1 : W1.drew.heap.size = W1.heap.size := rfl
    obtain ⟨a1, a2, a3⟩ := RLInv.lift (W1 := W1.drew) (st' := ⟨st.ideal, st.iss ++ [⟨key, nn, xs, ys⟩], st.sums⟩) hbb hbl hn hGl hF hi hB.drew hR hsub hoff (hos.mono (fun k h => Or.inl ⟨by omega, by omega⟩))
    refine bodyPost_ret (v := .tuple #[.agg #[.slice z ny cz, .int .u64 18446744073709551615, .int .u64 ((st.iss.length : Int) + 1)], .bool true]) (by simp [results, Try.results11, go_sem, r0, r1, r2]) rfl ⟨z, cz, _, rfl, a1, a2, a3, sz2.sat, ⟨fz1, fz2, fz3⟩, ?_, (hT8.mono hB.size).stay hU2⟩
    exact ((U8.of_below hB.drew).trans hU).trans hU2
set_option maxHeartbeats 4000000 in
theorem rlopen (G0 : Nat → Prop) (b : Nat) (st : LSt) (q : Ask) (x y : Option Addr) (n m c d : Nat) (hnx : n ≤ 4000) (hny : m ≤ 4000) (hL : st.iss.length ≤ 10000) (bx : Bytes q.head) (by_ : Bytes q.bytes) (fx : Fit x n c) (fy : Fit y m d) (w : World) (hI : RLInv G0 w b st) (sx : SAt w x n q.head) (sy : SAt w y m q.bytes) :
    Calls Try.prog 14 #[.pointer (some ⟨b, 0, none⟩), .agg #[.int .u64 (nv q.key.1), .int .u64 (nv q.key.2)], .agg #[.int .u32 (nv32 q.non.1), .int .u32 (nv32 q.non.2.1), .int .u64 (nv q.non.2.2)], .slice x n c, .agg #[.slice y m d, .int .u64 (nv q.tag.1), .int .u64 (nv q.tag.2)]] w fun e w' => ∃ z cz, e = .returned (.tuple #[.slice z ((st.opens q).getD []).length cz, .bool (st.opens q).isSome]) ∧ SAt w' z ((st.opens q).getD []).length ((st.opens q).getD []) ∧ Below w.heap.size w w' := by
  have hI' := hI
  have hlt0 := hI.lt
  obtain ⟨key, HK⟩ : ∃ key, Hid (q.key = key) := ⟨_, rfl⟩
  obtain ⟨nn, HN⟩ : ∃ nn, Hid (q.non = nn) := ⟨_, rfl⟩
  rw [HK.out, HN.out]
  have bK := ((Box.new w (nv key.1) (nv key.2)).alloc (.cells #[.int .u32 (nv32 nn.1), .int .u32 (nv32 nn.2.1), .int .u64 (nv nn.2.2)] 35)).alloc (.cells #[.slice y m d, .int .u64 (nv q.tag.1), .int .u64 (nv q.tag.2)] 32)
  have bN := (NBox.new (w.alloc (.cells #[.int .u64 (nv key.1), .int .u64 (nv key.2)] 30)) nn).alloc (.cells #[.slice y m d, .int .u64 (nv q.tag.1), .int .u64 (nv q.tag.2)] 32)
  have bR := SBox.new ((w.alloc (.cells #[.int .u64 (nv key.1), .int .u64 (nv key.2)] 30)).alloc (.cells #[.int .u32 (nv32 nn.1), .int .u32 (nv32 nn.2.1), .int .u64 (nv nn.2.2)] 35)) (.slice y m d) (nv q.tag.1) (nv q.tag.2)
  have hB : Below w.heap.size w (((w.alloc (.cells #[.int .u64 (nv key.1), .int .u64 (nv key.2)] 30)).alloc (.cells #[.int .u32 (nv32 nn.1), .int .u32 (nv32 nn.2.1), .int .u64 (nv nn.2.2)] 35)).alloc (.cells #[.slice y m d, .int .u64 (nv q.tag.1), .int .u64 (nv q.tag.2)] 32)) := by go_grown
  simp only [World.size_alloc] at bN bR
  obtain ⟨rfl, hb, hF⟩ | ⟨hi, o, G, hb, hP, hn, hF⟩ := hI
  · have hbl := hb.lt
    have hbb : LBox (((w.alloc (.cells #[.int .u64 (nv key.1), .int .u64 (nv key.2)] 30)).alloc (.cells #[.int .u32 (nv32 nn.1), .int .u32 (nv32 nn.2.1), .int .u64 (nv nn.2.2)] 35)).alloc (.cells #[.slice y m d, .int .u64 (nv q.tag.1), .int .u64 (nv q.tag.2)] 32)) b (.pointer none) := off_block hb (Off.of_below (F := fun _ => False) hB) (fun h => h)
    have k0 := hbb.c0
    have tx := sx.below hB
    have ty := sy.below hB
    have q0 := bK.c0
    have q1 := bK.c1
    have q2 := bN.c0
    have q3 := bN.c1
    have q4 := bN.c2
    have q5 := bR.c0
    have q6 := bR.c1
    have q7 := bR.c2
    by_cases ht : tagP (subP q.key q.non) q.head q.bytes = q.tag
    · have ho := LSt.opens_real (st := ⟨false, [], []⟩) rfl ht
      rw [ho]
      clear ho
      have hC := fun w => ropen_yes q.key q.non q.head q.bytes x y n m c d q.tag hnx hny ht bx by_ fx.1 fy.1 fx.2.2 fy.2.2 w
      rw [HK.out, HN.out] at hC
      rw [HK.out, HN.out]
      go_enter Try.func14, Try.ntmps14
      go_wp2_with fail
      have hWz : w.heap.size + 1 + 1 < (((w.alloc (.cells #[.int .u64 (nv key.1), .int .u64 (nv key.2)] 30)).alloc (.cells #[.int .u32 (nv32 nn.1), .int .u32 (nv32 nn.2.1), .int .u64 (nv nn.2.2)] 35)).alloc (.cells #[.slice y m d, .int .u64 (nv q.tag.1), .int .u64 (nv q.tag.2)] 32)).heap.size := bR.lt
      generalize (((w.alloc (.cells #[.int .u64 (nv key.1), .int .u64 (nv key.2)] 30)).alloc (.cells #[.int .u32 (nv32 nn.1), .int .u32 (nv32 nn.2.1), .int .u64 (nv nn.2.2)] 35)).alloc (.cells #[.slice y m d, .int .u64 (nv q.tag.1), .int .u64 (nv q.tag.2)] 32)) = W1 at *
      clear q0 q1 q2 q3 q4 q5 q6 q7
      refine (hC _ tx ty).mono ?_
      rintro e w2 ⟨z, cz, rfl, sz, hb2⟩
      go_wp2
      go_ret2
      have hlen : (mixL (subP key nn) q.bytes).length = m := by rw [mixL_length, sy.1]
      refine ⟨z, cz, by simp [hlen], ?_, hB.trans (hb2.mono hB.size)⟩
      simp only [Option.getD_some]
      rw [hlen]
      exact sz
    · have ho := LSt.opens_unreal (st := ⟨false, [], []⟩) rfl ht
      rw [ho]
      clear ho
      have hC := fun w => ropen_no q.key q.non q.head q.bytes x y n m c d q.tag hnx hny ht bx by_ fx.1 fy.1 fx.2.2 fy.2.2 w
      rw [HK.out, HN.out] at hC
      go_enter Try.func14, Try.ntmps14
      go_wp2_with fail
      have hWz : w.heap.size + 1 + 1 < (((w.alloc (.cells #[.int .u64 (nv key.1), .int .u64 (nv key.2)] 30)).alloc (.cells #[.int .u32 (nv32 nn.1), .int .u32 (nv32 nn.2.1), .int .u64 (nv nn.2.2)] 35)).alloc (.cells #[.slice y m d, .int .u64 (nv q.tag.1), .int .u64 (nv q.tag.2)] 32)).heap.size := bR.lt
      generalize (((w.alloc (.cells #[.int .u64 (nv key.1), .int .u64 (nv key.2)] 30)).alloc (.cells #[.int .u32 (nv32 nn.1), .int .u32 (nv32 nn.2.1), .int .u64 (nv nn.2.2)] 35)).alloc (.cells #[.slice y m d, .int .u64 (nv q.tag.1), .int .u64 (nv q.tag.2)] 32)) = W1 at *
      clear q0 q1 q2 q3 q4 q5 q6 q7
      refine (hC _ tx ty).mono ?_
      rintro e w2 ⟨⟨z, cz, rfl⟩, hb2⟩
      go_wp2
      go_ret2
      exact ⟨z, cz, by simp, ⟨rfl, fun h => absurd h (Nat.lt_irrefl _)⟩, hB.trans (hb2.mono hB.size)⟩
  · have hGl := hP.lt
    have hbl := hb.lt
    have hbb : LBox (((w.alloc (.cells #[.int .u64 (nv key.1), .int .u64 (nv key.2)] 30)).alloc (.cells #[.int .u32 (nv32 nn.1), .int .u32 (nv32 nn.2.1), .int .u64 (nv nn.2.2)] 35)).alloc (.cells #[.slice y m d, .int .u64 (nv q.tag.1), .int .u64 (nv q.tag.2)] 32)) b (.pointer (some ⟨o, 0, none⟩)) := off_block hb (Off.of_below (F := fun _ => False) hB) (fun h => h)
    have k0 := hbb.c0
    have hbW := hbb.lt
    replace sx := sx.below hB
    replace sy := sy.below hB
    replace hP := hP.below hB
    by_cases hit : ∃ i, Hit st.iss q i
    · obtain ⟨i, hit⟩ := hit
      have ho := LSt.opens_hit hi (by omega) hit
      rw [ho]
      clear ho
      have hC := fun w => oropen_yes G o (st.iss, st.sums) q x y n m c d (by dsimp only; omega) bx by_ i hit w
      rw [HK.out, HN.out] at hC
      simp only [Option.getD_some, Option.isSome_some]
      go_enter Try.func14, Try.ntmps14
      go_wp2_with fail
      have hWz : w.heap.size + 1 + 1 < (((w.alloc (.cells #[.int .u64 (nv key.1), .int .u64 (nv key.2)] 30)).alloc (.cells #[.int .u32 (nv32 nn.1), .int .u32 (nv32 nn.2.1), .int .u64 (nv nn.2.2)] 35)).alloc (.cells #[.slice y m d, .int .u64 (nv q.tag.1), .int .u64 (nv q.tag.2)] 32)).heap.size := bR.lt
      generalize (((w.alloc (.cells #[.int .u64 (nv key.1), .int .u64 (nv key.2)] 30)).alloc (.cells #[.int .u32 (nv32 nn.1), .int .u32 (nv32 nn.2.1), .int .u64 (nv nn.2.2)] 35)).alloc (.cells #[.slice y m d, .int .u64 (nv q.tag.1), .int .u64 (nv q.tag.2)] 32)) = W1 at *
      refine wp_region_held_drew (S := fun w' => Off (fun k => G k ∨ False) W1 w') (by kernel_rfl) (Off.refl _ _).drew (fun hHeld => ?_)
      refine takeM 0 17 0 rfl rfl rfl (by kernel_rfl) (by kernel_rfl) (by kernel_rfl) (fun _ _ _ h => h) (by rfl) hHeld rfl ?_
      simp only [List.set_cons_succ, List.set_cons_zero]
      refine takeL 1 18 (v := ?_) rfl rfl (by kernel_rfl) (by kernel_rfl) (by kernel_rfl) (fun _ _ _ h => h) (by rfl) hHeld (fun wz hSw => ?_) ?_
      rotate_left 1
      · (try dsimp only at hSw)
        clear hSw
        go_simp
        try with_reducible rfl
      simp only [List.set_cons_succ, List.set_cons_zero]
      refine takeL 2 19 (v := ?_) rfl rfl (by kernel_rfl) (by kernel_rfl) (by kernel_rfl) (fun _ _ _ h => h) (by rfl) hHeld (fun wz hSw => ?_) ?_
      rotate_left 1
      · (try dsimp only at hSw)
        clear hSw
        go_simp
        try with_reducible rfl
      simp only [List.set_cons_succ, List.set_cons_zero]
      refine takeL 3 20 (v := ?_) rfl rfl (by kernel_rfl) (by kernel_rfl) (by kernel_rfl) (fun _ _ _ h => h) (by rfl) hHeld (fun wz hSw => ?_) ?_
      rotate_left 1
      · (try dsimp only at hSw)
        have e0_ := (hSw.cell (p := ⟨b, 0, none⟩) hbW (fun h => h.elim hn (fun e => e))).trans k0
        clear hSw
        go_simp
        try with_reducible rfl
      simp only [List.set_cons_succ, List.set_cons_zero]
      refine takeL 4 21 (v := ?_) rfl rfl (by kernel_rfl) (by kernel_rfl) (by kernel_rfl) (fun _ _ _ h => h) (by rfl) hHeld (fun wz hSw => ?_) ?_
      rotate_left 1
      · (try dsimp only at hSw)
        have hx_ : Box wz _ (nv key.1) (nv key.2) := off_block bK hSw (fun h => h.elim (fun h => by have := hGl _ h; omega) (fun e => e))
        have e0_ := hx_.c0
        have e1_ := hx_.c1
        clear hx_
        clear hSw
        go_simp
        try with_reducible rfl
      simp only [List.set_cons_succ, List.set_cons_zero]
      refine takeL 5 22 (v := ?_) rfl rfl (by kernel_rfl) (by kernel_rfl) (by kernel_rfl) (fun _ _ _ h => h) (by rfl) hHeld (fun wz hSw => ?_) ?_
      rotate_left 1
      · (try dsimp only at hSw)
        have hx_ : NBox wz _ nn := off_block bN hSw (fun h => h.elim (fun h => by have := hGl _ h; omega) (fun e => e))
        have e0_ := hx_.c0
        have e1_ := hx_.c1
        have e2_ := hx_.c2
        clear hx_
        clear hSw
        go_simp
        try with_reducible rfl
      simp only [List.set_cons_succ, List.set_cons_zero]
      refine takeM 6 23 3 rfl rfl rfl (by kernel_rfl) (by kernel_rfl) (by kernel_rfl) (fun _ _ _ h => h) (by rfl) hHeld rfl ?_
      simp only [List.set_cons_succ, List.set_cons_zero]
      refine takeL 7 24 (v := ?_) rfl rfl (by kernel_rfl) (by kernel_rfl) (by kernel_rfl) (fun _ _ _ h => h) (by rfl) hHeld (fun wz hSw => ?_) ?_
      rotate_left 1
      · (try dsimp only at hSw)
        have hx_ : SBox wz _ (.slice y m d) (nv q.tag.1) (nv q.tag.2) := off_block bR hSw (fun h => h.elim (fun h => by have := hGl _ h; omega) (fun e => e))
        have e0_ := hx_.c0
        have e1_ := hx_.c1
        have e2_ := hx_.c2
        clear hx_
        clear hSw
        go_simp
        try with_reducible rfl
      simp only [List.set_cons_succ, List.set_cons_zero]
      refine onlyL 8 rfl (by kernel_rfl) (by rfl) (fun K hK => ?_)
      go_wp2_with fail
      refine (hC W1.drew (hP.below (Below.refl _ _).drew) (sx.below (Below.refl _ _).drew) (sy.below (Below.refl _ _).drew)).mono ?_
      rintro e w2 ⟨z, cz, rfl, sz, hb2⟩
      replace hb2 : Below W1.heap.size W1 w2 := (Below.refl _ _).drew.trans hb2
      have hof : Off (fun k => G k ∨ False) W1 w2 := Off.of_below hb2
      refine hK.out _ _ hof (fun _ => ?_)
      clear hK K hHeld
      have hHeld := hof
      refine takeL 9 26 (v := ?_) rfl rfl (by kernel_rfl) (by kernel_rfl) (by kernel_rfl) (fun _ _ _ h => h) (by rfl) hHeld (fun wz hSw => ?_) ?_
      rotate_left 1
      · (try dsimp only at hSw)
        clear hSw
        go_simp
        try with_reducible rfl
      simp only [List.set_cons_succ, List.set_cons_zero]
      refine takeL 10 27 (v := ?_) rfl rfl (by kernel_rfl) (by kernel_rfl) (by kernel_rfl) (fun _ _ _ h => h) (by rfl) hHeld (fun wz hSw => ?_) ?_
      rotate_left 1
      · (try dsimp only at hSw)
        clear hSw
        go_simp
        try with_reducible rfl
      simp only [List.set_cons_succ, List.set_cons_zero]
      refine takeA 11 10 26 rfl rfl rfl (by kernel_rfl) (by kernel_rfl) (by kernel_rfl) (fun _ _ _ h => h) (by rfl) hHeld rfl ?_
      simp only [List.set_cons_succ, List.set_cons_zero]
      refine takeA 12 11 27 rfl rfl rfl (by kernel_rfl) (by kernel_rfl) (by kernel_rfl) (fun _ _ _ h => h) (by rfl) hHeld rfl ?_
      simp only [List.set_cons_succ, List.set_cons_zero]
      refine wpAnyH_done (by kernel_rfl) ?_ _
      go_wp2
      go_ret2
      exact ⟨z, cz, rfl, sz.sat, hB.trans (hb2.mono hB.size)⟩
    · have ho := LSt.opens_no hi (fun i h => hit ⟨i, h⟩)
      rw [ho]
      clear ho
      have hC := fun w => oropen_no G o (st.iss, st.sums) q x y n m c d (by dsimp only; omega) bx by_ (fun i h => hit ⟨i, h⟩) w
      rw [HK.out, HN.out] at hC
      simp only [Option.getD_none, Option.isSome_none, List.length_nil]
      go_enter Try.func14, Try.ntmps14
      go_wp2_with fail
      have hWz : w.heap.size + 1 + 1 < (((w.alloc (.cells #[.int .u64 (nv key.1), .int .u64 (nv key.2)] 30)).alloc (.cells #[.int .u32 (nv32 nn.1), .int .u32 (nv32 nn.2.1), .int .u64 (nv nn.2.2)] 35)).alloc (.cells #[.slice y m d, .int .u64 (nv q.tag.1), .int .u64 (nv q.tag.2)] 32)).heap.size := bR.lt
      generalize (((w.alloc (.cells #[.int .u64 (nv key.1), .int .u64 (nv key.2)] 30)).alloc (.cells #[.int .u32 (nv32 nn.1), .int .u32 (nv32 nn.2.1), .int .u64 (nv nn.2.2)] 35)).alloc (.cells #[.slice y m d, .int .u64 (nv q.tag.1), .int .u64 (nv q.tag.2)] 32)) = W1 at *
      refine wp_region_held_drew (S := fun w' => Off (fun k => G k ∨ False) W1 w') (by kernel_rfl) (Off.refl _ _).drew (fun hHeld => ?_)
      refine takeM 0 17 0 rfl rfl rfl (by kernel_rfl) (by kernel_rfl) (by kernel_rfl) (fun _ _ _ h => h) (by rfl) hHeld rfl ?_
      simp only [List.set_cons_succ, List.set_cons_zero]
      refine takeL 1 18 (v := ?_) rfl rfl (by kernel_rfl) (by kernel_rfl) (by kernel_rfl) (fun _ _ _ h => h) (by rfl) hHeld (fun wz hSw => ?_) ?_
      rotate_left 1
      · (try dsimp only at hSw)
        clear hSw
        go_simp
        try with_reducible rfl
      simp only [List.set_cons_succ, List.set_cons_zero]
      refine takeL 2 19 (v := ?_) rfl rfl (by kernel_rfl) (by kernel_rfl) (by kernel_rfl) (fun _ _ _ h => h) (by rfl) hHeld (fun wz hSw => ?_) ?_
      rotate_left 1
      · (try dsimp only at hSw)
        clear hSw
        go_simp
        try with_reducible rfl
      simp only [List.set_cons_succ, List.set_cons_zero]
      refine takeL 3 20 (v := ?_) rfl rfl (by kernel_rfl) (by kernel_rfl) (by kernel_rfl) (fun _ _ _ h => h) (by rfl) hHeld (fun wz hSw => ?_) ?_
      rotate_left 1
      · (try dsimp only at hSw)
        have e0_ := (hSw.cell (p := ⟨b, 0, none⟩) hbW (fun h => h.elim hn (fun e => e))).trans k0
        clear hSw
        go_simp
        try with_reducible rfl
      simp only [List.set_cons_succ, List.set_cons_zero]
      refine takeL 4 21 (v := ?_) rfl rfl (by kernel_rfl) (by kernel_rfl) (by kernel_rfl) (fun _ _ _ h => h) (by rfl) hHeld (fun wz hSw => ?_) ?_
      rotate_left 1
      · (try dsimp only at hSw)
        have hx_ : Box wz _ (nv key.1) (nv key.2) := off_block bK hSw (fun h => h.elim (fun h => by have := hGl _ h; omega) (fun e => e))
        have e0_ := hx_.c0
        have e1_ := hx_.c1
        clear hx_
        clear hSw
        go_simp
        try with_reducible rfl
      simp only [List.set_cons_succ, List.set_cons_zero]
      refine takeL 5 22 (v := ?_) rfl rfl (by kernel_rfl) (by kernel_rfl) (by kernel_rfl) (fun _ _ _ h => h) (by rfl) hHeld (fun wz hSw => ?_) ?_
      rotate_left 1
      · (try dsimp only at hSw)
        have hx_ : NBox wz _ nn := off_block bN hSw (fun h => h.elim (fun h => by have := hGl _ h; omega) (fun e => e))
        have e0_ := hx_.c0
        have e1_ := hx_.c1
        have e2_ := hx_.c2
        clear hx_
        clear hSw
        go_simp
        try with_reducible rfl
      simp only [List.set_cons_succ, List.set_cons_zero]
      refine takeM 6 23 3 rfl rfl rfl (by kernel_rfl) (by kernel_rfl) (by kernel_rfl) (fun _ _ _ h => h) (by rfl) hHeld rfl ?_
      simp only [List.set_cons_succ, List.set_cons_zero]
      refine takeL 7 24 (v := ?_) rfl rfl (by kernel_rfl) (by kernel_rfl) (by kernel_rfl) (fun _ _ _ h => h) (by rfl) hHeld (fun wz hSw => ?_) ?_
      rotate_left 1
      · (try dsimp only at hSw)
        have hx_ : SBox wz _ (.slice y m d) (nv q.tag.1) (nv q.tag.2) := off_block bR hSw (fun h => h.elim (fun h => by have := hGl _ h; omega) (fun e => e))
        have e0_ := hx_.c0
        have e1_ := hx_.c1
        have e2_ := hx_.c2
        clear hx_
        clear hSw
        go_simp
        try with_reducible rfl
      simp only [List.set_cons_succ, List.set_cons_zero]
      refine onlyL 8 rfl (by kernel_rfl) (by rfl) (fun K hK => ?_)
      go_wp2_with fail
      refine (hC W1.drew (hP.below (Below.refl _ _).drew) (sx.below (Below.refl _ _).drew) (sy.below (Below.refl _ _).drew)).mono ?_
      rintro e w2 ⟨rfl, hb2⟩
      replace hb2 : Below W1.heap.size W1 w2 := (Below.refl _ _).drew.trans hb2
      have hof : Off (fun k => G k ∨ False) W1 w2 := Off.of_below hb2
      refine hK.out _ _ hof (fun _ => ?_)
      clear hK K hHeld
      have hHeld := hof
      refine takeL 9 26 (v := ?_) rfl rfl (by kernel_rfl) (by kernel_rfl) (by kernel_rfl) (fun _ _ _ h => h) (by rfl) hHeld (fun wz hSw => ?_) ?_
      rotate_left 1
      · (try dsimp only at hSw)
        clear hSw
        go_simp
        try with_reducible rfl
      simp only [List.set_cons_succ, List.set_cons_zero]
      refine takeL 10 27 (v := ?_) rfl rfl (by kernel_rfl) (by kernel_rfl) (by kernel_rfl) (fun _ _ _ h => h) (by rfl) hHeld (fun wz hSw => ?_) ?_
      rotate_left 1
      · (try dsimp only at hSw)
        clear hSw
        go_simp
        try with_reducible rfl
      simp only [List.set_cons_succ, List.set_cons_zero]
      refine takeA 11 10 26 rfl rfl rfl (by kernel_rfl) (by kernel_rfl) (by kernel_rfl) (fun _ _ _ h => h) (by rfl) hHeld rfl ?_
      simp only [List.set_cons_succ, List.set_cons_zero]
      refine takeA 12 11 27 rfl rfl rfl (by kernel_rfl) (by kernel_rfl) (by kernel_rfl) (fun _ _ _ h => h) (by rfl) hHeld rfl ?_
      simp only [List.set_cons_succ, List.set_cons_zero]
      refine wpAnyH_done (by kernel_rfl) ?_ _
      go_wp2
      go_ret2
      exact ⟨none, 0, rfl, ⟨rfl, fun h => absurd h (Nat.lt_irrefl _)⟩, hB.trans (hb2.mono hB.size)⟩
end Go.Proofs.Ytkkehbebaokdmaa


/- A slice of structs, cell by cell. -/
namespace Go.Proofs.Ytkkehbebaokdmaa
open Go.RowKit
set_option maxRecDepth 20000

/-- A slice of m things of so many cells each, of each of which R holds. -/
def RowsAt {α : Type} [Inhabited α] (size : Nat) (R : World → List Value → α → Prop) (w : World) (x : Option Addr) (m : Nat) (L : List α) : Prop :=
  L.length = m ∧ (0 < m → ∃ b o, x = some ⟨b, o, none⟩ ∧ b < w.heap.size ∧ ∀ i, i < m → ∃ cs, cs.length = size ∧ (∀ j u, cs[j]? = some u → w.cell? ⟨b, o + i * size + j, none⟩ = some u) ∧ R w cs (L.getD i default))
end Go.Proofs.Ytkkehbebaokdmaa


/- A byte, laid over a number. -/
namespace Go.Proofs.Ytkkehbebaokdmaa
open Go.RowKit
set_option maxRecDepth 20000

/-- A byte as the walks have it. -/
def nv8 (x : BitVec 8) : Int := (x.toNat : Int)
theorem nv8_range (x : BitVec 8) : 0 ≤ nv8 x ∧ nv8 x < 256 := by
  have := x.isLt
  unfold nv8
  omega
theorem nv8_inj {x y : BitVec 8} (h : nv8 x = nv8 y) : x = y := BitVec.eq_of_toNat_eq (by unfold nv8 at h; omega)
theorem i64_mask (n : Int) (k : Nat) (hk : k < 63) (M : Int) (hM : (BitVec.ofInt 64 M).toNat = 2 ^ k - 1) : bits .and .i64 n M = (((n % ((2 ^ 64 : Nat) : Int)).toNat % 2 ^ k : Nat) : Int) := by
  have key : (BitVec.ofInt 64 n &&& BitVec.ofInt 64 M).toNat = (n % ((2 ^ 64 : Nat) : Int)).toNat % 2 ^ k := by
    rw [BitVec.toNat_and, BitVec.toNat_ofInt, hM, Nat.and_two_pow_sub_one_eq_mod]
  show IntKind.i64.wrap ((BitVec.ofInt 64 n &&& BitVec.ofInt 64 M).toNat : Nat) = _
  rw [key, IntKind.wrap_i64]
  have h1 : (n % ((2 ^ 64 : Nat) : Int)).toNat % 2 ^ k < 2 ^ k := Nat.mod_lt _ (Nat.two_pow_pos k)
  have h2 : 2 ^ k ≤ 2 ^ 62 := Nat.pow_le_pow_right (by decide) (by omega)
  omega
theorem bytes_set {xs : List Int} (h : Bytes xs) (i : Nat) {v : Int} (hv : 0 ≤ v ∧ v < 256) : Bytes (xs.set i v) := fun x hx => by
  rcases List.mem_or_eq_of_mem_set hx with hx | rfl
  · exact h x hx
  · exact hv
theorem xor_byte (a : BitVec 64) (b : BitVec 8) : bits .xor .u64 (nv a) (nv8 b) = nv (a ^^^ b.setWidth 64) := by
  have e : nv8 b = nv (b.setWidth 64) := by
    have := b.isLt
    unfold nv nv8
    rw [BitVec.toNat_setWidth]
    omega
  rw [← nv_xor, e]
theorem byte_ne {a : BitVec 64} {b : BitVec 8} (hb : b ≠ 0#8) : a ≠ a ^^^ b.setWidth 64 := fun e => hb (by
  have h0 : (b.setWidth 64 : BitVec 64) = 0#64 := by
    have h1 : a ^^^ (a ^^^ b.setWidth 64) = a ^^^ a := by rw [← e]
    rw [← BitVec.xor_assoc, BitVec.xor_self, BitVec.zero_xor] at h1
    exact h1
  apply BitVec.eq_of_toNat_eq
  have h2 : (b.setWidth 64 : BitVec 64).toNat = 0 := by rw [h0]; rfl
  have := b.isLt
  rw [BitVec.toNat_setWidth] at h2
  show b.toNat = 0
  omega)
theorem turn_1 (t : BitVec 64 × BitVec 64) (b : BitVec 8) (hb : b ≠ 0#8) : t ≠ (t.1 ^^^ b.setWidth 64, t.2) := fun e => byte_ne hb (congrArg Prod.fst e)
theorem turn_2 (t : BitVec 64 × BitVec 64) (b : BitVec 8) (hb : b ≠ 0#8) : t ≠ (t.1, t.2 ^^^ b.setWidth 64) := fun e => byte_ne hb (congrArg Prod.snd e)
theorem SBox.setOther {w : World} {b : Nat} {v : Value} {t1 t2 : Int} (h : SBox w b v t1 t2) {a : Addr} (ha : b ≠ a.block) (u : Value) : SBox (w.setCell a u) b v t1 t2 := (Below.heap_setCell w a u b ha).trans h
theorem xor_byte32 (a : BitVec 32) (b : BitVec 8) : bits .xor .u32 (nv32 a) (nv8 b) = nv32 (a ^^^ b.setWidth 32) := by
  have h1 := a.isLt
  have h2 := b.isLt
  have e : nv8 b = nv32 (b.setWidth 32) := by
    unfold nv32 nv8
    rw [BitVec.toNat_setWidth]
    omega
  rw [e]
  unfold nv32
  rw [u32_xor_nat _ _ a.isLt (b.setWidth 32).isLt, BitVec.toNat_xor]
theorem byte_ne32 {a : BitVec 32} {b : BitVec 8} (hb : b ≠ 0#8) : a ≠ a ^^^ b.setWidth 32 := fun e => hb (by
  have h0 : (b.setWidth 32 : BitVec 32) = 0#32 := by
    have h1 : a ^^^ (a ^^^ b.setWidth 32) = a ^^^ a := by rw [← e]
    rw [← BitVec.xor_assoc, BitVec.xor_self, BitVec.zero_xor] at h1
    exact h1
  apply BitVec.eq_of_toNat_eq
  have h2 : (b.setWidth 32 : BitVec 32).toNat = 0 := by rw [h0]; rfl
  have := b.isLt
  rw [BitVec.toNat_setWidth] at h2
  show b.toNat = 0
  omega)
theorem xor8_ne {x y : Int} (hx : 0 ≤ x ∧ x < 256) (hy : 0 ≤ y ∧ y < 256) (h0 : y ≠ 0) : xor8 x y ≠ x := fun e => h0 (by
  have h : xor8 x y = ((x.toNat ^^^ y.toNat : Nat) : Int) := u8_xor x y hx.1 hx.2 hy.1 hy.2
  rw [h] at e
  have e2 : x.toNat ^^^ y.toNat = x.toNat := by omega
  have e3 : x.toNat ^^^ (x.toNat ^^^ y.toNat) = x.toNat ^^^ x.toNat := by rw [e2]
  rw [← Nat.xor_assoc, Nat.xor_self, Nat.zero_xor] at e3
  omega)
theorem xor8_zero {x : Int} (hx : 0 ≤ x ∧ x < 256) : xor8 x 0 = x := by
  have h : xor8 x 0 = ((x.toNat ^^^ (0 : Int).toNat : Nat) : Int) := u8_xor x 0 hx.1 hx.2 (by decide) (by decide)
  rw [h]
  simp
  omega
end Go.Proofs.Ytkkehbebaokdmaa
