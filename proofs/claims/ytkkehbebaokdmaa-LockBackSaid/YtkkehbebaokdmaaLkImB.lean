/- The landed lock: Seal and Open. -/
import Derived.Test.YtkkehbebaokdmaaM20
import Derived.Test.YtkkehbebaokdmaaM21
import Derived.Test.YtkkehbebaokdmaaM22
namespace Go.Proofs.Ytkkehbebaokdmaa
open Go.RowKit
set_option maxRecDepth 20000

set_option maxHeartbeats 4000000 in
theorem iseal8 (hO : OrcIs PInv) (F : Nat → Prop) (v : Value) (st : LSt) (key : BitVec 64 × BitVec 64) (nn : Nn) (xs ys : List Int) (x y : Option Addr) (nx ny c d : Nat) (hnx : nx ≤ 4000) (hny : ny ≤ 4000) (hL : st.iss.length ≤ 10000) (bx : Bytes xs) (by_ : Bytes ys) (fx : Fit x nx c) (fy : Fit y ny d) (w : World) (hI : LInv F w v st) (sx : SIn (fun k => ¬ F k) w x nx xs) (sy : SIn (fun k => ¬ F k) w y ny ys) :
    Calls Try.prog 10 #[v, kv key, nvv nn, .slice x nx c, .slice y ny d] w fun e w' => ∃ z cz F', e = .returned (.tuple #[.agg #[.slice z ny cz, .int .u64 (nv (st.sealT key nn xs ys).1), .int .u64 (nv (st.sealT key nn xs ys).2)], .bool true]) ∧ KeptL LInv F w v F' w' (st.sealS ⟨key, nn, xs, ys⟩) ∧ SIn (fun k => ¬ F' k ∧ (st.ideal = true → w.heap.size ≤ k)) w' z ny (st.sealB key nn ys) ∧ Fit z ny cz := by
  unfold kv nvv
  have hI' := hI
  have hlt0 := hI.lt
  have bK := ((Box.new w (nv key.1) (nv key.2)).alloc (.cells #[.int .u32 (nv32 nn.1), .int .u32 (nv32 nn.2.1), .int .u64 (nv nn.2.2)] 35)).alloc (.cells #[.slice none 0 0, .int .u64 0, .int .u64 0] 32)
  have bN := (NBox.new (w.alloc (.cells #[.int .u64 (nv key.1), .int .u64 (nv key.2)] 30)) nn).alloc (.cells #[.slice none 0 0, .int .u64 0, .int .u64 0] 32)
  have bR := SBox.new ((w.alloc (.cells #[.int .u64 (nv key.1), .int .u64 (nv key.2)] 30)).alloc (.cells #[.int .u32 (nv32 nn.1), .int .u32 (nv32 nn.2.1), .int .u64 (nv nn.2.2)] 35)) (.slice none 0 0) 0 0
  have hB : Below w.heap.size w (((w.alloc (.cells #[.int .u64 (nv key.1), .int .u64 (nv key.2)] 30)).alloc (.cells #[.int .u32 (nv32 nn.1), .int .u32 (nv32 nn.2.1), .int .u64 (nv nn.2.2)] 35)).alloc (.cells #[.slice none 0 0, .int .u64 0, .int .u64 0] 32)) := by go_grown
  simp only [World.size_alloc] at bN bR
  obtain ⟨b, rfl, ⟨rfl, hb, hF⟩ | ⟨hi, u, G, hb, hP, hn, hF⟩⟩ := hI
  · obtain ⟨G, hG0⟩ : ∃ G : Nat → Prop, ∀ k, ¬ G k := ⟨fun _ => False, fun _ h => h⟩
    have hn : ¬ G b := hG0 b
    have hGl : ∀ k, G k → k < w.heap.size := fun k h => absurd h (hG0 k)
    have hbl := hb.lt
    have hbb : FBox (((w.alloc (.cells #[.int .u64 (nv key.1), .int .u64 (nv key.2)] 30)).alloc (.cells #[.int .u32 (nv32 nn.1), .int .u32 (nv32 nn.2.1), .int .u64 (nv nn.2.2)] 35)).alloc (.cells #[.slice none 0 0, .int .u64 0, .int .u64 0] 32)) b realC := off_block hb (Off.of_below (F := fun _ => False) hB) (fun h => h)
    have k0 : (((w.alloc (.cells #[.int .u64 (nv key.1), .int .u64 (nv key.2)] 30)).alloc (.cells #[.int .u32 (nv32 nn.1), .int .u32 (nv32 nn.2.1), .int .u64 (nv nn.2.2)] 35)).alloc (.cells #[.slice none 0 0, .int .u64 0, .int .u64 0] 32)).cell? ⟨b, 0, none⟩ = some (.func (.func 36) #[] #[]) := hbb.cell 0
    have hq := func_eq 39 (.func 36) #[] (Or.inr (Or.inr (Or.inr rfl)))
    have hbW := hbb.lt
    have tx := sx.sat.below hB
    have ty := sy.sat.below hB
    show Calls _ _ _ _ fun e w' => ∃ z cz F', e = .returned (.tuple #[.agg #[.slice z ny cz, .int .u64 (nv (tagP (subP key nn) xs (mixL (subP key nn) ys)).1), .int .u64 (nv (tagP (subP key nn) xs (mixL (subP key nn) ys)).2)], .bool true]) ∧ KeptL LInv F w _ F' w' ⟨false, [], []⟩ ∧ SIn (fun k => ¬ F' k ∧ (false = true → w.heap.size ≤ k)) w' z ny (mixL (subP key nn) ys) ∧ Fit z ny cz
    obtain ⟨t1, H1⟩ : ∃ t, Hid (nv (tagP (subP key nn) xs (mixL (subP key nn) ys)).1 = t) := ⟨_, rfl⟩
    obtain ⟨t2, H2⟩ : ∃ t, Hid (nv (tagP (subP key nn) xs (mixL (subP key nn) ys)).2 = t) := ⟨_, rfl⟩
    rw [H1.out, H2.out]
    have hC := fun w => iseal_in sub_said flow_said xor_said tag_said key nn xs ys x y nx ny c d hnx hny bx by_ fx.1 fy.1 fx.2.2 fy.2.2 w
    rw [H1.out, H2.out] at hC
    go_enter Try.func10, Try.ntmps10
    go_wp2_with fail
    have hWz : w.heap.size + 1 + 1 < (((w.alloc (.cells #[.int .u64 (nv key.1), .int .u64 (nv key.2)] 30)).alloc (.cells #[.int .u32 (nv32 nn.1), .int .u32 (nv32 nn.2.1), .int .u64 (nv nn.2.2)] 35)).alloc (.cells #[.slice none 0 0, .int .u64 0, .int .u64 0] 32)).heap.size := bR.lt
    generalize (((w.alloc (.cells #[.int .u64 (nv key.1), .int .u64 (nv key.2)] 30)).alloc (.cells #[.int .u32 (nv32 nn.1), .int .u32 (nv32 nn.2.1), .int .u64 (nv nn.2.2)] 35)).alloc (.cells #[.slice none 0 0, .int .u64 0, .int .u64 0] 32)) = W1 at *
    refine wp_region_held_drew (S := fun w' => Off (fun k => G k ∨ k = w.heap.size + 1 + 1) W1 w') (by kernel_rfl) (Off.refl _ _).drew (fun hHeld => ?_)
    refine takeM 0 22 0 rfl rfl rfl (by kernel_rfl) (by kernel_rfl) (by kernel_rfl) (fun _ _ _ h => h) (by rfl) hHeld rfl ?_
    simp only [List.set_cons_succ, List.set_cons_zero]
    refine takeL 1 23 (v := ?_) rfl rfl (by kernel_rfl) (by kernel_rfl) (by kernel_rfl) (fun _ _ _ h => h) (by rfl) hHeld (fun wz hSw => ?_) ?_
    rotate_left 1
    · (try dsimp only at hSw)
      clear hSw
      go_simp
      try with_reducible rfl
    simp only [List.set_cons_succ, List.set_cons_zero]
    refine takeL 2 24 (v := ?_) rfl rfl (by kernel_rfl) (by kernel_rfl) (by kernel_rfl) (fun _ _ _ h => h) (by rfl) hHeld (fun wz hSw => ?_) ?_
    rotate_left 1
    · (try dsimp only at hSw)
      clear hSw
      go_simp
      try with_reducible rfl
    simp only [List.set_cons_succ, List.set_cons_zero]
    refine takeL 3 25 (v := ?_) rfl rfl (by kernel_rfl) (by kernel_rfl) (by kernel_rfl) (fun _ _ _ h => h) (by rfl) hHeld (fun wz hSw => ?_) ?_
    rotate_left 1
    · (try dsimp only at hSw)
      have e0_ := (hSw.cell (p := ⟨b, 0, none⟩) hbW (fun h => h.elim hn (fun e => by have e : b = w.heap.size + 1 + 1 := e; omega))).trans k0
      clear hSw
      go_simp
      try with_reducible rfl
    simp only [List.set_cons_succ, List.set_cons_zero]
    refine takeL 4 26 (v := ?_) rfl rfl (by kernel_rfl) (by kernel_rfl) (by kernel_rfl) (fun _ _ _ h => h) (by rfl) hHeld (fun wz hSw => ?_) ?_
    rotate_left 1
    · (try dsimp only at hSw)
      have hx_ : Box wz _ (nv key.1) (nv key.2) := off_block bK hSw (fun h => h.elim (fun h => by have := hGl _ h; omega) (fun e => by omega))
      have e0_ := hx_.c0
      have e1_ := hx_.c1
      clear hx_
      clear hSw
      go_simp
      try with_reducible rfl
    simp only [List.set_cons_succ, List.set_cons_zero]
    refine takeL 5 27 (v := ?_) rfl rfl (by kernel_rfl) (by kernel_rfl) (by kernel_rfl) (fun _ _ _ h => h) (by rfl) hHeld (fun wz hSw => ?_) ?_
    rotate_left 1
    · (try dsimp only at hSw)
      have hx_ : NBox wz _ nn := off_block bN hSw (fun h => h.elim (fun h => by have := hGl _ h; omega) (fun e => by omega))
      have e0_ := hx_.c0
      have e1_ := hx_.c1
      have e2_ := hx_.c2
      clear hx_
      clear hSw
      go_simp
      try with_reducible rfl
    simp only [List.set_cons_succ, List.set_cons_zero]
    refine takeM 6 28 3 rfl rfl rfl (by kernel_rfl) (by kernel_rfl) (by kernel_rfl) (fun _ _ _ h => h) (by rfl) hHeld rfl ?_
    simp only [List.set_cons_succ, List.set_cons_zero]
    refine takeM 7 29 4 rfl rfl rfl (by kernel_rfl) (by kernel_rfl) (by kernel_rfl) (fun _ _ _ h => h) (by rfl) hHeld rfl ?_
    simp only [List.set_cons_succ, List.set_cons_zero]
    refine onlyL 8 rfl (by kernel_rfl) (by rfl) (fun K hK => ?_)
    go_wp2_with fail
    refine (hC W1.drew (tx.below (Below.refl _ _).drew) (ty.below (Below.refl _ _).drew)).mono ?_
    rintro e w2 ⟨z, cz, rfl, sz, hz1, hz2, hz3, hb2⟩
    replace hb2 : Below W1.heap.size W1 w2 := (Below.refl _ _).drew.trans hb2
    have hof : Off (fun k => G k ∨ k = w.heap.size + 1 + 1) W1 w2 := Off.of_below hb2
    replace bR := bR.grown hb2
    have sz2 := sat_not bR.not8 sz
    refine hK.out _ _ hof (fun _ => ?_)
    clear hK K hHeld
    have hHeld := hof
    refine takeL 9 31 (v := ?_) rfl rfl (by kernel_rfl) (by kernel_rfl) (by kernel_rfl) (fun _ _ _ h => h) (by rfl) hHeld (fun wz hSw => ?_) ?_
    rotate_left 1
    · (try dsimp only at hSw)
      clear hSw
      go_simp
      try with_reducible rfl
    simp only [List.set_cons_succ, List.set_cons_zero]
    refine takeL 10 32 (v := ?_) rfl rfl (by kernel_rfl) (by kernel_rfl) (by kernel_rfl) (fun _ _ _ h => h) (by rfl) hHeld (fun wz hSw => ?_) ?_
    rotate_left 1
    · (try dsimp only at hSw)
      clear hSw
      go_simp
      try with_reducible rfl
    simp only [List.set_cons_succ, List.set_cons_zero]
    have q0 := bR.c0
    have q1 := bR.c1
    have q2 := bR.c2
    have q3 := bR.frozen 0
    have q4 := bR.frozen 1
    have q5 := bR.frozen 2
    refine onlyL 11 rfl (by kernel_rfl) (by rfl) (fun K hK => ?_)
    go_wp2_with fail
    clear q0 q1 q2 q3 q4 q5
    have hos : Off (fun k => k = w.heap.size + 1 + 1) w2 (((w2.setCell ⟨w.heap.size + 1 + 1, 0, none⟩ (.slice z ny cz)).setCell ⟨w.heap.size + 1 + 1, 1, none⟩ (.int .u64 t1)).setCell ⟨w.heap.size + 1 + 1, 2, none⟩ (.int .u64 t2)) := ((((Off.refl (fun k => k = w.heap.size + 1 + 1) w2).setCell (p := ⟨w.heap.size + 1 + 1, 0, none⟩) (Or.inl rfl) (.slice z ny cz)).setCell (p := ⟨w.heap.size + 1 + 1, 1, none⟩) (Or.inl rfl) (.int .u64 t1)).setCell (p := ⟨w.heap.size + 1 + 1, 2, none⟩) (Or.inl rfl) (.int .u64 t2))
    replace bR := bR.put3 (.slice z ny cz) t1 t2
    generalize (((w2.setCell ⟨w.heap.size + 1 + 1, 0, none⟩ (.slice z ny cz)).setCell ⟨w.heap.size + 1 + 1, 1, none⟩ (.int .u64 t1)).setCell ⟨w.heap.size + 1 + 1, 2, none⟩ (.int .u64 t2)) = w3 at *
    replace hof := hof.trans hos (fun k h => Or.inl (Or.inr h))
    refine hK.out _ _ hof (fun _ => ?_)
    clear hK K hHeld
    have hHeld := hof
    refine takeA 12 11 32 rfl rfl rfl (by kernel_rfl) (by kernel_rfl) (by kernel_rfl) (fun _ _ _ h => h) (by rfl) hHeld rfl ?_
    simp only [List.set_cons_succ, List.set_cons_zero]
    refine wpAnyH_done (by kernel_rfl) ?_ _
    go_wp2
    have r0 := bR.c0
    have r1 := bR.c1
    have r2 := bR.c2
    refine bodyPost_ret (v := .tuple #[.agg #[.slice z ny cz, .int .u64 t1, .int .u64 t2], .bool true]) (by simp [results, Try.results10, go_sem, r0, r1, r2]) rfl ⟨z, cz, F, rfl, ?_, ?_, hz1, hz2, hz3⟩
    · exact hI'.kept (((Off.of_below (F := fun _ => False) (hB.trans (hb2.mono hB.size))).trans hos (fun k h => Or.inr (by omega))).none (fun _ h => h.elim))
    · have hb3 : FBox w3 b realC := off_block (off_block hbb (Off.of_below (F := fun _ => False) hb2) (fun h => h)) hos (fun e => by omega)
      exact (sat_not hb3.not8 (sz2.off hos (fun k _ h e => h e)).sat).mono (fun k _ h => ⟨fun hf => h ((hF k).1 hf), fun e => by cases e⟩)
  · have hGl := hP.lt
    have hbl := hb.lt
    have hbb : FBox (((w.alloc (.cells #[.int .u64 (nv key.1), .int .u64 (nv key.2)] 30)).alloc (.cells #[.int .u32 (nv32 nn.1), .int .u32 (nv32 nn.2.1), .int .u64 (nv nn.2.2)] 35)).alloc (.cells #[.slice none 0 0, .int .u64 0, .int .u64 0] 32)) b (idealC u) := off_block hb (Off.of_below (F := fun _ => False) hB) (fun h => h)
    have k0 : (((w.alloc (.cells #[.int .u64 (nv key.1), .int .u64 (nv key.2)] 30)).alloc (.cells #[.int .u32 (nv32 nn.1), .int .u32 (nv32 nn.2.1), .int .u64 (nv nn.2.2)] 35)).alloc (.cells #[.slice none 0 0, .int .u64 0, .int .u64 0] 32)).cell? ⟨b, 0, none⟩ = some (.func (.func 31) #[u] #[]) := hbb.cell 0
    have hq := func_eq 39 (.func 31) #[u] (Or.inr (Or.inr (Or.inr rfl)))
    have hbW := hbb.lt
    have hT : st.sealT key nn xs ys = tagI (st.iss.length + 1) := by rw [LSt.sealT, if_pos hi]
    have hT1 := tagI_1 (st.iss.length + 1)
    have hT2 : nv (tagI (st.iss.length + 1)).2 = (st.iss.length : Int) + 1 := (tagI_2 _ (by omega)).trans (by omega)
    have hSB : st.sealB key nn ys = outB (st.iss.length + 1) ny := by rw [LSt.sealB, if_pos hi, sy.1]
    have hSS : st.sealS ⟨key, nn, xs, ys⟩ = ⟨st.ideal, st.iss ++ [⟨key, nn, xs, ys⟩], st.sums⟩ := by rw [LSt.sealS, if_pos hi]
    rw [hT, hT1, hT2, hSB, hSS]
    clear hT hT1 hT2 hSB hSS
    replace sx := (sx.off (Off.of_below (F := fun _ => False) hB) (fun _ _ _ h => h)).mono (G' := fun k => ¬ G k) (fun k _ h hg => h ((hF k).2 (Or.inr hg)))
    replace sy := (sy.off (Off.of_below (F := fun _ => False) hB) (fun _ _ _ h => h)).mono (G' := fun k => ¬ G k) (fun k _ h hg => h ((hF k).2 (Or.inr hg)))
    replace hP := hP.below hB
    go_enter Try.func10, Try.ntmps10
    go_wp2_with fail
    have hWz : w.heap.size + 1 + 1 < (((w.alloc (.cells #[.int .u64 (nv key.1), .int .u64 (nv key.2)] 30)).alloc (.cells #[.int .u32 (nv32 nn.1), .int .u32 (nv32 nn.2.1), .int .u64 (nv nn.2.2)] 35)).alloc (.cells #[.slice none 0 0, .int .u64 0, .int .u64 0] 32)).heap.size := bR.lt
    generalize (((w.alloc (.cells #[.int .u64 (nv key.1), .int .u64 (nv key.2)] 30)).alloc (.cells #[.int .u32 (nv32 nn.1), .int .u32 (nv32 nn.2.1), .int .u64 (nv nn.2.2)] 35)).alloc (.cells #[.slice none 0 0, .int .u64 0, .int .u64 0] 32)) = W1 at *
    refine wp_region_held_drew (S := fun w' => Off (fun k => G k ∨ k = w.heap.size + 1 + 1) W1 w') (by kernel_rfl) (Off.refl _ _).drew (fun hHeld => ?_)
    refine takeM 0 22 0 rfl rfl rfl (by kernel_rfl) (by kernel_rfl) (by kernel_rfl) (fun _ _ _ h => h) (by rfl) hHeld rfl ?_
    simp only [List.set_cons_succ, List.set_cons_zero]
    refine takeL 1 23 (v := ?_) rfl rfl (by kernel_rfl) (by kernel_rfl) (by kernel_rfl) (fun _ _ _ h => h) (by rfl) hHeld (fun wz hSw => ?_) ?_
    rotate_left 1
    · (try dsimp only at hSw)
      clear hSw
      go_simp
      try with_reducible rfl
    simp only [List.set_cons_succ, List.set_cons_zero]
    refine takeL 2 24 (v := ?_) rfl rfl (by kernel_rfl) (by kernel_rfl) (by kernel_rfl) (fun _ _ _ h => h) (by rfl) hHeld (fun wz hSw => ?_) ?_
    rotate_left 1
    · (try dsimp only at hSw)
      clear hSw
      go_simp
      try with_reducible rfl
    simp only [List.set_cons_succ, List.set_cons_zero]
    refine takeL 3 25 (v := ?_) rfl rfl (by kernel_rfl) (by kernel_rfl) (by kernel_rfl) (fun _ _ _ h => h) (by rfl) hHeld (fun wz hSw => ?_) ?_
    rotate_left 1
    · (try dsimp only at hSw)
      have e0_ := (hSw.cell (p := ⟨b, 0, none⟩) hbW (fun h => h.elim hn (fun e => by have e : b = w.heap.size + 1 + 1 := e; omega))).trans k0
      clear hSw
      go_simp
      try with_reducible rfl
    simp only [List.set_cons_succ, List.set_cons_zero]
    refine takeL 4 26 (v := ?_) rfl rfl (by kernel_rfl) (by kernel_rfl) (by kernel_rfl) (fun _ _ _ h => h) (by rfl) hHeld (fun wz hSw => ?_) ?_
    rotate_left 1
    · (try dsimp only at hSw)
      have hx_ : Box wz _ (nv key.1) (nv key.2) := off_block bK hSw (fun h => h.elim (fun h => by have := hGl _ h; omega) (fun e => by omega))
      have e0_ := hx_.c0
      have e1_ := hx_.c1
      clear hx_
      clear hSw
      go_simp
      try with_reducible rfl
    simp only [List.set_cons_succ, List.set_cons_zero]
    refine takeL 5 27 (v := ?_) rfl rfl (by kernel_rfl) (by kernel_rfl) (by kernel_rfl) (fun _ _ _ h => h) (by rfl) hHeld (fun wz hSw => ?_) ?_
    rotate_left 1
    · (try dsimp only at hSw)
      have hx_ : NBox wz _ nn := off_block bN hSw (fun h => h.elim (fun h => by have := hGl _ h; omega) (fun e => by omega))
      have e0_ := hx_.c0
      have e1_ := hx_.c1
      have e2_ := hx_.c2
      clear hx_
      clear hSw
      go_simp
      try with_reducible rfl
    simp only [List.set_cons_succ, List.set_cons_zero]
    refine takeM 6 28 3 rfl rfl rfl (by kernel_rfl) (by kernel_rfl) (by kernel_rfl) (fun _ _ _ h => h) (by rfl) hHeld rfl ?_
    simp only [List.set_cons_succ, List.set_cons_zero]
    refine takeM 7 29 4 rfl rfl rfl (by kernel_rfl) (by kernel_rfl) (by kernel_rfl) (fun _ _ _ h => h) (by rfl) hHeld rfl ?_
    simp only [List.set_cons_succ, List.set_cons_zero]
    refine onlyL 8 rfl (by kernel_rfl) (by rfl) (fun K hK => ?_)
    go_wp2_with fail
    refine (hO.sealIn G u st.iss st.sums key nn xs ys x y nx ny c d hnx hny hL bx by_ fx fy W1.drew (hP.below (Below.refl _ _).drew) (sx.off (F := fun _ => False) (Off.refl _ _).drew (fun _ _ _ h => h)) (sy.off (F := fun _ => False) (Off.refl _ _).drew (fun _ _ _ h => h))).mono ?_
    rintro e w2 ⟨z, cz, G2, rfl, hKp, sz, fz⟩
    have hof : Off (fun k => G k ∨ k = w.heap.size + 1 + 1) W1 w2 := (Off.refl _ W1).drew.trans hKp.off (fun k h => Or.inl (Or.inl h))
    replace bR : SBox w2 _ (.slice none 0 0) 0 0 := off_block (w := W1.drew) bR hKp.off (fun h => by have := hGl _ h; omega)
    refine hK.out _ _ hof (fun _ => ?_)
    clear hK K hHeld
    have hHeld := hof
    refine takeL 9 31 (v := ?_) rfl rfl (by kernel_rfl) (by kernel_rfl) (by kernel_rfl) (fun _ _ _ h => h) (by rfl) hHeld (fun wz hSw => ?_) ?_
    rotate_left 1
    · (try dsimp only at hSw)
      clear hSw
      go_simp
      try with_reducible rfl
    simp only [List.set_cons_succ, List.set_cons_zero]
    refine takeL 10 32 (v := ?_) rfl rfl (by kernel_rfl) (by kernel_rfl) (by kernel_rfl) (fun _ _ _ h => h) (by rfl) hHeld (fun wz hSw => ?_) ?_
    rotate_left 1
    · (try dsimp only at hSw)
      clear hSw
      go_simp
      try with_reducible rfl
    simp only [List.set_cons_succ, List.set_cons_zero]
    have q0 := bR.c0
    have q1 := bR.c1
    have q2 := bR.c2
    have q3 := bR.frozen 0
    have q4 := bR.frozen 1
    have q5 := bR.frozen 2
    refine onlyL 11 rfl (by kernel_rfl) (by rfl) (fun K hK => ?_)
    go_wp2_with fail
    clear q0 q1 q2 q3 q4 q5
    have hos : Off (fun k => k = w.heap.size + 1 + 1) w2 (((w2.setCell ⟨w.heap.size + 1 + 1, 0, none⟩ (.slice z ny cz)).setCell ⟨w.heap.size + 1 + 1, 1, none⟩ (.int .u64 18446744073709551615)).setCell ⟨w.heap.size + 1 + 1, 2, none⟩ (.int .u64 ((st.iss.length : Int) + 1))) := ((((Off.refl (fun k => k = w.heap.size + 1 + 1) w2).setCell (p := ⟨w.heap.size + 1 + 1, 0, none⟩) (Or.inl rfl) (.slice z ny cz)).setCell (p := ⟨w.heap.size + 1 + 1, 1, none⟩) (Or.inl rfl) (.int .u64 18446744073709551615)).setCell (p := ⟨w.heap.size + 1 + 1, 2, none⟩) (Or.inl rfl) (.int .u64 ((st.iss.length : Int) + 1)))
    replace bR := bR.put3 (.slice z ny cz) 18446744073709551615 ((st.iss.length : Int) + 1)
    generalize (((w2.setCell ⟨w.heap.size + 1 + 1, 0, none⟩ (.slice z ny cz)).setCell ⟨w.heap.size + 1 + 1, 1, none⟩ (.int .u64 18446744073709551615)).setCell ⟨w.heap.size + 1 + 1, 2, none⟩ (.int .u64 ((st.iss.length : Int) + 1))) = w3 at *
    replace hof := hof.trans hos (fun k h => Or.inl (Or.inr h))
    refine hK.out _ _ hof (fun _ => ?_)
    clear hK K hHeld
    have hHeld := hof
    refine takeA 12 11 32 rfl rfl rfl (by kernel_rfl) (by kernel_rfl) (by kernel_rfl) (fun _ _ _ h => h) (by rfl) hHeld rfl ?_
    simp only [List.set_cons_succ, List.set_cons_zero]
    refine wpAnyH_done (by kernel_rfl) ?_ _
    go_wp2
    have r0 := bR.c0
    have r1 := bR.c1
    have r2 := bR.c2
    refine bodyPost_ret (v := .tuple #[.agg #[.slice z ny cz, .int .u64 18446744073709551615, .int .u64 ((st.iss.length : Int) + 1)], .bool true]) (by simp [results, Try.results10, go_sem, r0, r1, r2]) rfl ⟨z, cz, _, rfl, liftL (W1 := W1.drew) (st' := ⟨st.ideal, st.iss ++ [⟨key, nn, xs, ys⟩], st.sums⟩) hbb hbl hn hGl hF hi hB.drew hKp (hos.mono (fun k h => Or.inl ⟨by omega, by show k < W1.heap.size; omega⟩)), ?_, fz⟩
    have hz1 : W1.drew.heap.size = W1.heap.size := rfl
    have hz0 := hB.size
    exact (sz.off hos (fun k _ h e => by omega)).mono (fun k _ h => ⟨fun e => e.elim (fun e => by omega) h.2, fun _ => by omega⟩)
set_option maxHeartbeats 4000000 in
theorem iopen8 (hO : OrcIs PInv) (F : Nat → Prop) (v : Value) (st : LSt) (q : Ask) (x y : Option Addr) (n m c d : Nat) (hnx : n ≤ 4000) (hny : m ≤ 4000) (hL : st.iss.length ≤ 10000) (bx : Bytes q.head) (by_ : Bytes q.bytes) (fx : Fit x n c) (fy : Fit y m d) (w : World) (hI : LInv F w v st) (sx : SIn (fun k => ¬ F k) w x n q.head) (sy : SIn (fun k => ¬ F k) w y m q.bytes) :
    Calls Try.prog 13 #[v, kv q.key, nvv q.non, .slice x n c, .agg #[.slice y m d, .int .u64 (nv q.tag.1), .int .u64 (nv q.tag.2)]] w fun e w' => ∃ z cz F', e = .returned (.tuple #[.slice z ((st.opens q).getD []).length cz, .bool (st.opens q).isSome]) ∧ KeptL LInv F w v F' w' st ∧ SIn (fun k => ¬ F' k) w' z ((st.opens q).getD []).length ((st.opens q).getD []) := by
  unfold kv nvv
  have hI' := hI
  have hlt0 := hI.lt
  obtain ⟨key, HK⟩ : ∃ key, Hid (q.key = key) := ⟨_, rfl⟩
  obtain ⟨nn, HN⟩ : ∃ nn, Hid (q.non = nn) := ⟨_, rfl⟩
  rw [HK.out, HN.out]
  have bK := ((Box.new w (nv key.1) (nv key.2)).alloc (.cells #[.int .u32 (nv32 nn.1), .int .u32 (nv32 nn.2.1), .int .u64 (nv nn.2.2)] 35)).alloc (.cells #[.slice y m d, .int .u64 (nv q.tag.1), .int .u64 (nv q.tag.2)] 32)
  have bN := (NBox.new (w.alloc (.cells #[.int .u64 (nv key.1), .int .u64 (nv key.2)] 30)) nn).alloc (.cells #[.slice y m d, .int .u64 (nv q.tag.1), .int .u64 (nv q.tag.2)] 32)
  have bR := SBox.new ((w.alloc (.cells #[.int .u64 (nv key.1), .int .u64 (nv key.2)] 30)).alloc (.cells #[.int .u32 (nv32 nn.1), .int .u32 (nv32 nn.2.1), .int .u64 (nv nn.2.2)] 35)) (.slice y m d) (nv q.tag.1) (nv q.tag.2)
  have hB : Below w.heap.size w (((w.alloc (.cells #[.int .u64 (nv key.1), .int .u64 (nv key.2)] 30)).alloc (.cells #[.int .u32 (nv32 nn.1), .int .u32 (nv32 nn.2.1), .int .u64 (nv nn.2.2)] 35)).alloc (.cells #[.slice y m d, .int .u64 (nv q.tag.1), .int .u64 (nv q.tag.2)] 32)) := by go_grown
  simp only [World.size_alloc] at bN bR
  obtain ⟨b, rfl, ⟨rfl, hb, hF⟩ | ⟨hi, u, G, hb, hP, hn, hF⟩⟩ := hI
  · obtain ⟨G, hG0⟩ : ∃ G : Nat → Prop, ∀ k, ¬ G k := ⟨fun _ => False, fun _ h => h⟩
    have hn : ¬ G b := hG0 b
    have hGl : ∀ k, G k → k < w.heap.size := fun k h => absurd h (hG0 k)
    have hbl := hb.lt
    have hbb : FBox (((w.alloc (.cells #[.int .u64 (nv key.1), .int .u64 (nv key.2)] 30)).alloc (.cells #[.int .u32 (nv32 nn.1), .int .u32 (nv32 nn.2.1), .int .u64 (nv nn.2.2)] 35)).alloc (.cells #[.slice y m d, .int .u64 (nv q.tag.1), .int .u64 (nv q.tag.2)] 32)) b realC := off_block hb (Off.of_below (F := fun _ => False) hB) (fun h => h)
    have k0 : (((w.alloc (.cells #[.int .u64 (nv key.1), .int .u64 (nv key.2)] 30)).alloc (.cells #[.int .u32 (nv32 nn.1), .int .u32 (nv32 nn.2.1), .int .u64 (nv nn.2.2)] 35)).alloc (.cells #[.slice y m d, .int .u64 (nv q.tag.1), .int .u64 (nv q.tag.2)] 32)).cell? ⟨b, 1, none⟩ = some (.func (.func 37) #[] #[]) := hbb.cell 1
    have hq := func_eq 42 (.func 37) #[] (Or.inr (Or.inr (Or.inl rfl)))
    have hbW := hbb.lt
    have tx := sx.sat.below hB
    have ty := sy.sat.below hB
    by_cases ht : tagP (subP q.key q.non) q.head q.bytes = q.tag
    · have ho := LSt.opens_real (st := ⟨false, [], []⟩) rfl ht
      rw [ho]
      clear ho
      have hC := fun w => iopen_yes sub_said flow_said xor_said tag_said q.key q.non q.head q.bytes x y n m c d q.tag hnx hny ht bx by_ fx.1 fy.1 fx.2.2 fy.2.2 w
      rw [HK.out, HN.out] at hC
      rw [HK.out, HN.out]
      go_enter Try.func13, Try.ntmps13
      go_wp2_with fail
      have hWz : w.heap.size + 1 + 1 < (((w.alloc (.cells #[.int .u64 (nv key.1), .int .u64 (nv key.2)] 30)).alloc (.cells #[.int .u32 (nv32 nn.1), .int .u32 (nv32 nn.2.1), .int .u64 (nv nn.2.2)] 35)).alloc (.cells #[.slice y m d, .int .u64 (nv q.tag.1), .int .u64 (nv q.tag.2)] 32)).heap.size := bR.lt
      generalize (((w.alloc (.cells #[.int .u64 (nv key.1), .int .u64 (nv key.2)] 30)).alloc (.cells #[.int .u32 (nv32 nn.1), .int .u32 (nv32 nn.2.1), .int .u64 (nv nn.2.2)] 35)).alloc (.cells #[.slice y m d, .int .u64 (nv q.tag.1), .int .u64 (nv q.tag.2)] 32)) = W1 at *
      refine wp_region_held_drew (S := fun w' => Off (fun k => G k ∨ False) W1 w') (by kernel_rfl) (Off.refl _ _).drew (fun hHeld => ?_)
      refine takeM 0 21 0 rfl rfl rfl (by kernel_rfl) (by kernel_rfl) (by kernel_rfl) (fun _ _ _ h => h) (by rfl) hHeld rfl ?_
      simp only [List.set_cons_succ, List.set_cons_zero]
      refine takeL 1 22 (v := ?_) rfl rfl (by kernel_rfl) (by kernel_rfl) (by kernel_rfl) (fun _ _ _ h => h) (by rfl) hHeld (fun wz hSw => ?_) ?_
      rotate_left 1
      · (try dsimp only at hSw)
        clear hSw
        go_simp
        try with_reducible rfl
      simp only [List.set_cons_succ, List.set_cons_zero]
      refine takeL 2 23 (v := ?_) rfl rfl (by kernel_rfl) (by kernel_rfl) (by kernel_rfl) (fun _ _ _ h => h) (by rfl) hHeld (fun wz hSw => ?_) ?_
      rotate_left 1
      · (try dsimp only at hSw)
        clear hSw
        go_simp
        try with_reducible rfl
      simp only [List.set_cons_succ, List.set_cons_zero]
      refine takeL 3 24 (v := ?_) rfl rfl (by kernel_rfl) (by kernel_rfl) (by kernel_rfl) (fun _ _ _ h => h) (by rfl) hHeld (fun wz hSw => ?_) ?_
      rotate_left 1
      · (try dsimp only at hSw)
        have e0_ := (hSw.cell (p := ⟨b, 1, none⟩) hbW (fun h => h.elim hn (fun e => e))).trans k0
        clear hSw
        go_simp
        try with_reducible rfl
      simp only [List.set_cons_succ, List.set_cons_zero]
      refine takeL 4 25 (v := ?_) rfl rfl (by kernel_rfl) (by kernel_rfl) (by kernel_rfl) (fun _ _ _ h => h) (by rfl) hHeld (fun wz hSw => ?_) ?_
      rotate_left 1
      · (try dsimp only at hSw)
        have hx_ : Box wz _ (nv key.1) (nv key.2) := off_block bK hSw (fun h => h.elim (fun h => by have := hGl _ h; omega) (fun e => e))
        have e0_ := hx_.c0
        have e1_ := hx_.c1
        clear hx_
        clear hSw
        go_simp
        try with_reducible rfl
      simp only [List.set_cons_succ, List.set_cons_zero]
      refine takeL 5 26 (v := ?_) rfl rfl (by kernel_rfl) (by kernel_rfl) (by kernel_rfl) (fun _ _ _ h => h) (by rfl) hHeld (fun wz hSw => ?_) ?_
      rotate_left 1
      · (try dsimp only at hSw)
        have hx_ : NBox wz _ nn := off_block bN hSw (fun h => h.elim (fun h => by have := hGl _ h; omega) (fun e => e))
        have e0_ := hx_.c0
        have e1_ := hx_.c1
        have e2_ := hx_.c2
        clear hx_
        clear hSw
        go_simp
        try with_reducible rfl
      simp only [List.set_cons_succ, List.set_cons_zero]
      refine takeM 6 27 3 rfl rfl rfl (by kernel_rfl) (by kernel_rfl) (by kernel_rfl) (fun _ _ _ h => h) (by rfl) hHeld rfl ?_
      simp only [List.set_cons_succ, List.set_cons_zero]
      refine takeL 7 28 (v := ?_) rfl rfl (by kernel_rfl) (by kernel_rfl) (by kernel_rfl) (fun _ _ _ h => h) (by rfl) hHeld (fun wz hSw => ?_) ?_
      rotate_left 1
      · (try dsimp only at hSw)
        have hx_ : SBox wz _ (.slice y m d) (nv q.tag.1) (nv q.tag.2) := off_block bR hSw (fun h => h.elim (fun h => by have := hGl _ h; omega) (fun e => e))
        have e0_ := hx_.c0
        have e1_ := hx_.c1
        have e2_ := hx_.c2
        clear hx_
        clear hSw
        go_simp
        try with_reducible rfl
      simp only [List.set_cons_succ, List.set_cons_zero]
      refine onlyL 8 rfl (by kernel_rfl) (by rfl) (fun K hK => ?_)
      go_wp2_with fail
      refine (hC W1.drew (tx.below (Below.refl _ _).drew) (ty.below (Below.refl _ _).drew)).mono ?_
      rintro e w2 ⟨z, cz, rfl, sz, hb2⟩
      replace hb2 : Below W1.heap.size W1 w2 := (Below.refl _ _).drew.trans hb2
      have hof : Off (fun k => G k ∨ False) W1 w2 := Off.of_below hb2
      refine hK.out _ _ hof (fun _ => ?_)
      clear hK K hHeld
      have hHeld := hof
      refine takeL 9 30 (v := ?_) rfl rfl (by kernel_rfl) (by kernel_rfl) (by kernel_rfl) (fun _ _ _ h => h) (by rfl) hHeld (fun wz hSw => ?_) ?_
      rotate_left 1
      · (try dsimp only at hSw)
        clear hSw
        go_simp
        try with_reducible rfl
      simp only [List.set_cons_succ, List.set_cons_zero]
      refine takeL 10 31 (v := ?_) rfl rfl (by kernel_rfl) (by kernel_rfl) (by kernel_rfl) (fun _ _ _ h => h) (by rfl) hHeld (fun wz hSw => ?_) ?_
      rotate_left 1
      · (try dsimp only at hSw)
        clear hSw
        go_simp
        try with_reducible rfl
      simp only [List.set_cons_succ, List.set_cons_zero]
      refine takeA 11 10 30 rfl rfl rfl (by kernel_rfl) (by kernel_rfl) (by kernel_rfl) (fun _ _ _ h => h) (by rfl) hHeld rfl ?_
      simp only [List.set_cons_succ, List.set_cons_zero]
      refine takeA 12 11 31 rfl rfl rfl (by kernel_rfl) (by kernel_rfl) (by kernel_rfl) (fun _ _ _ h => h) (by rfl) hHeld rfl ?_
      simp only [List.set_cons_succ, List.set_cons_zero]
      refine wpAnyH_done (by kernel_rfl) ?_ _
      go_wp2
      go_ret2
      have hk := hI'.kept (hB.trans (hb2.mono hB.size))
      have hb3 : FBox w2 b realC := off_block hbb (Off.of_below (F := fun _ => False) hb2) (fun h => h)
      have hlen : (mixL (subP key nn) q.bytes).length = m := by rw [mixL_length, sy.1]
      refine ⟨z, cz, F, by simp [hlen], hk, ?_⟩
      simp only [Option.getD_some]
      rw [hlen]
      exact (sat_not hb3.not8 sz).mono (fun k _ h hf => h ((hF k).1 hf))
    · have ho := LSt.opens_unreal (st := ⟨false, [], []⟩) rfl ht
      rw [ho]
      clear ho
      have hC := fun w => iopen_no sub_said tag_said q.key q.non q.head q.bytes x y n m c d q.tag hnx hny ht bx by_ fx.1 fy.1 fx.2.2 fy.2.2 w
      rw [HK.out, HN.out] at hC
      go_enter Try.func13, Try.ntmps13
      go_wp2_with fail
      have hWz : w.heap.size + 1 + 1 < (((w.alloc (.cells #[.int .u64 (nv key.1), .int .u64 (nv key.2)] 30)).alloc (.cells #[.int .u32 (nv32 nn.1), .int .u32 (nv32 nn.2.1), .int .u64 (nv nn.2.2)] 35)).alloc (.cells #[.slice y m d, .int .u64 (nv q.tag.1), .int .u64 (nv q.tag.2)] 32)).heap.size := bR.lt
      generalize (((w.alloc (.cells #[.int .u64 (nv key.1), .int .u64 (nv key.2)] 30)).alloc (.cells #[.int .u32 (nv32 nn.1), .int .u32 (nv32 nn.2.1), .int .u64 (nv nn.2.2)] 35)).alloc (.cells #[.slice y m d, .int .u64 (nv q.tag.1), .int .u64 (nv q.tag.2)] 32)) = W1 at *
      refine wp_region_held_drew (S := fun w' => Off (fun k => G k ∨ False) W1 w') (by kernel_rfl) (Off.refl _ _).drew (fun hHeld => ?_)
      refine takeM 0 21 0 rfl rfl rfl (by kernel_rfl) (by kernel_rfl) (by kernel_rfl) (fun _ _ _ h => h) (by rfl) hHeld rfl ?_
      simp only [List.set_cons_succ, List.set_cons_zero]
      refine takeL 1 22 (v := ?_) rfl rfl (by kernel_rfl) (by kernel_rfl) (by kernel_rfl) (fun _ _ _ h => h) (by rfl) hHeld (fun wz hSw => ?_) ?_
      rotate_left 1
      · (try dsimp only at hSw)
        clear hSw
        go_simp
        try with_reducible rfl
      simp only [List.set_cons_succ, List.set_cons_zero]
      refine takeL 2 23 (v := ?_) rfl rfl (by kernel_rfl) (by kernel_rfl) (by kernel_rfl) (fun _ _ _ h => h) (by rfl) hHeld (fun wz hSw => ?_) ?_
      rotate_left 1
      · (try dsimp only at hSw)
        clear hSw
        go_simp
        try with_reducible rfl
      simp only [List.set_cons_succ, List.set_cons_zero]
      refine takeL 3 24 (v := ?_) rfl rfl (by kernel_rfl) (by kernel_rfl) (by kernel_rfl) (fun _ _ _ h => h) (by rfl) hHeld (fun wz hSw => ?_) ?_
      rotate_left 1
      · (try dsimp only at hSw)
        have e0_ := (hSw.cell (p := ⟨b, 1, none⟩) hbW (fun h => h.elim hn (fun e => e))).trans k0
        clear hSw
        go_simp
        try with_reducible rfl
      simp only [List.set_cons_succ, List.set_cons_zero]
      refine takeL 4 25 (v := ?_) rfl rfl (by kernel_rfl) (by kernel_rfl) (by kernel_rfl) (fun _ _ _ h => h) (by rfl) hHeld (fun wz hSw => ?_) ?_
      rotate_left 1
      · (try dsimp only at hSw)
        have hx_ : Box wz _ (nv key.1) (nv key.2) := off_block bK hSw (fun h => h.elim (fun h => by have := hGl _ h; omega) (fun e => e))
        have e0_ := hx_.c0
        have e1_ := hx_.c1
        clear hx_
        clear hSw
        go_simp
        try with_reducible rfl
      simp only [List.set_cons_succ, List.set_cons_zero]
      refine takeL 5 26 (v := ?_) rfl rfl (by kernel_rfl) (by kernel_rfl) (by kernel_rfl) (fun _ _ _ h => h) (by rfl) hHeld (fun wz hSw => ?_) ?_
      rotate_left 1
      · (try dsimp only at hSw)
        have hx_ : NBox wz _ nn := off_block bN hSw (fun h => h.elim (fun h => by have := hGl _ h; omega) (fun e => e))
        have e0_ := hx_.c0
        have e1_ := hx_.c1
        have e2_ := hx_.c2
        clear hx_
        clear hSw
        go_simp
        try with_reducible rfl
      simp only [List.set_cons_succ, List.set_cons_zero]
      refine takeM 6 27 3 rfl rfl rfl (by kernel_rfl) (by kernel_rfl) (by kernel_rfl) (fun _ _ _ h => h) (by rfl) hHeld rfl ?_
      simp only [List.set_cons_succ, List.set_cons_zero]
      refine takeL 7 28 (v := ?_) rfl rfl (by kernel_rfl) (by kernel_rfl) (by kernel_rfl) (fun _ _ _ h => h) (by rfl) hHeld (fun wz hSw => ?_) ?_
      rotate_left 1
      · (try dsimp only at hSw)
        have hx_ : SBox wz _ (.slice y m d) (nv q.tag.1) (nv q.tag.2) := off_block bR hSw (fun h => h.elim (fun h => by have := hGl _ h; omega) (fun e => e))
        have e0_ := hx_.c0
        have e1_ := hx_.c1
        have e2_ := hx_.c2
        clear hx_
        clear hSw
        go_simp
        try with_reducible rfl
      simp only [List.set_cons_succ, List.set_cons_zero]
      refine onlyL 8 rfl (by kernel_rfl) (by rfl) (fun K hK => ?_)
      go_wp2_with fail
      refine (hC W1.drew (tx.below (Below.refl _ _).drew) (ty.below (Below.refl _ _).drew)).mono ?_
      rintro e w2 ⟨⟨z, cz, rfl⟩, hb2⟩
      replace hb2 : Below W1.heap.size W1 w2 := (Below.refl _ _).drew.trans hb2
      have hof : Off (fun k => G k ∨ False) W1 w2 := Off.of_below hb2
      refine hK.out _ _ hof (fun _ => ?_)
      clear hK K hHeld
      have hHeld := hof
      refine takeL 9 30 (v := ?_) rfl rfl (by kernel_rfl) (by kernel_rfl) (by kernel_rfl) (fun _ _ _ h => h) (by rfl) hHeld (fun wz hSw => ?_) ?_
      rotate_left 1
      · (try dsimp only at hSw)
        clear hSw
        go_simp
        try with_reducible rfl
      simp only [List.set_cons_succ, List.set_cons_zero]
      refine takeL 10 31 (v := ?_) rfl rfl (by kernel_rfl) (by kernel_rfl) (by kernel_rfl) (fun _ _ _ h => h) (by rfl) hHeld (fun wz hSw => ?_) ?_
      rotate_left 1
      · (try dsimp only at hSw)
        clear hSw
        go_simp
        try with_reducible rfl
      simp only [List.set_cons_succ, List.set_cons_zero]
      refine takeA 11 10 30 rfl rfl rfl (by kernel_rfl) (by kernel_rfl) (by kernel_rfl) (fun _ _ _ h => h) (by rfl) hHeld rfl ?_
      simp only [List.set_cons_succ, List.set_cons_zero]
      refine takeA 12 11 31 rfl rfl rfl (by kernel_rfl) (by kernel_rfl) (by kernel_rfl) (fun _ _ _ h => h) (by rfl) hHeld rfl ?_
      simp only [List.set_cons_succ, List.set_cons_zero]
      refine wpAnyH_done (by kernel_rfl) ?_ _
      go_wp2
      go_ret2
      have hk := hI'.kept (hB.trans (hb2.mono hB.size))
      exact ⟨z, cz, F, by simp, hk, SIn.none _ _ _⟩
  · have hGl := hP.lt
    have hbl := hb.lt
    have hbb : FBox (((w.alloc (.cells #[.int .u64 (nv key.1), .int .u64 (nv key.2)] 30)).alloc (.cells #[.int .u32 (nv32 nn.1), .int .u32 (nv32 nn.2.1), .int .u64 (nv nn.2.2)] 35)).alloc (.cells #[.slice y m d, .int .u64 (nv q.tag.1), .int .u64 (nv q.tag.2)] 32)) b (idealC u) := off_block hb (Off.of_below (F := fun _ => False) hB) (fun h => h)
    have k0 : (((w.alloc (.cells #[.int .u64 (nv key.1), .int .u64 (nv key.2)] 30)).alloc (.cells #[.int .u32 (nv32 nn.1), .int .u32 (nv32 nn.2.1), .int .u64 (nv nn.2.2)] 35)).alloc (.cells #[.slice y m d, .int .u64 (nv q.tag.1), .int .u64 (nv q.tag.2)] 32)).cell? ⟨b, 1, none⟩ = some (.func (.func 32) #[u] #[]) := hbb.cell 1
    have hq := func_eq 42 (.func 32) #[u] (Or.inr (Or.inr (Or.inl rfl)))
    have hbW := hbb.lt
    replace sx := (sx.off (Off.of_below (F := fun _ => False) hB) (fun _ _ _ h => h)).mono (G' := fun k => ¬ G k) (fun k _ h hg => h ((hF k).2 (Or.inr hg)))
    replace sy := (sy.off (Off.of_below (F := fun _ => False) hB) (fun _ _ _ h => h)).mono (G' := fun k => ¬ G k) (fun k _ h hg => h ((hF k).2 (Or.inr hg)))
    replace hP := hP.below hB
    by_cases hit : ∃ i, Hit st.iss q i
    · obtain ⟨i, hit⟩ := hit
      have ho := LSt.opens_hit hi (by omega) hit
      rw [ho]
      clear ho
      have hC := fun w => hO.openYes G u (st.iss, st.sums) q x y n m c d i hL bx by_ fx fy hit w
      unfold kv nvv at hC
      rw [HK.out, HN.out] at hC
      simp only [Option.getD_some, Option.isSome_some]
      go_enter Try.func13, Try.ntmps13
      go_wp2_with fail
      have hWz : w.heap.size + 1 + 1 < (((w.alloc (.cells #[.int .u64 (nv key.1), .int .u64 (nv key.2)] 30)).alloc (.cells #[.int .u32 (nv32 nn.1), .int .u32 (nv32 nn.2.1), .int .u64 (nv nn.2.2)] 35)).alloc (.cells #[.slice y m d, .int .u64 (nv q.tag.1), .int .u64 (nv q.tag.2)] 32)).heap.size := bR.lt
      generalize (((w.alloc (.cells #[.int .u64 (nv key.1), .int .u64 (nv key.2)] 30)).alloc (.cells #[.int .u32 (nv32 nn.1), .int .u32 (nv32 nn.2.1), .int .u64 (nv nn.2.2)] 35)).alloc (.cells #[.slice y m d, .int .u64 (nv q.tag.1), .int .u64 (nv q.tag.2)] 32)) = W1 at *
      refine wp_region_held_drew (S := fun w' => Off (fun k => G k ∨ False) W1 w') (by kernel_rfl) (Off.refl _ _).drew (fun hHeld => ?_)
      refine takeM 0 21 0 rfl rfl rfl (by kernel_rfl) (by kernel_rfl) (by kernel_rfl) (fun _ _ _ h => h) (by rfl) hHeld rfl ?_
      simp only [List.set_cons_succ, List.set_cons_zero]
      refine takeL 1 22 (v := ?_) rfl rfl (by kernel_rfl) (by kernel_rfl) (by kernel_rfl) (fun _ _ _ h => h) (by rfl) hHeld (fun wz hSw => ?_) ?_
      rotate_left 1
      · (try dsimp only at hSw)
        clear hSw
        go_simp
        try with_reducible rfl
      simp only [List.set_cons_succ, List.set_cons_zero]
      refine takeL 2 23 (v := ?_) rfl rfl (by kernel_rfl) (by kernel_rfl) (by kernel_rfl) (fun _ _ _ h => h) (by rfl) hHeld (fun wz hSw => ?_) ?_
      rotate_left 1
      · (try dsimp only at hSw)
        clear hSw
        go_simp
        try with_reducible rfl
      simp only [List.set_cons_succ, List.set_cons_zero]
      refine takeL 3 24 (v := ?_) rfl rfl (by kernel_rfl) (by kernel_rfl) (by kernel_rfl) (fun _ _ _ h => h) (by rfl) hHeld (fun wz hSw => ?_) ?_
      rotate_left 1
      · (try dsimp only at hSw)
        have e0_ := (hSw.cell (p := ⟨b, 1, none⟩) hbW (fun h => h.elim hn (fun e => e))).trans k0
        clear hSw
        go_simp
        try with_reducible rfl
      simp only [List.set_cons_succ, List.set_cons_zero]
      refine takeL 4 25 (v := ?_) rfl rfl (by kernel_rfl) (by kernel_rfl) (by kernel_rfl) (fun _ _ _ h => h) (by rfl) hHeld (fun wz hSw => ?_) ?_
      rotate_left 1
      · (try dsimp only at hSw)
        have hx_ : Box wz _ (nv key.1) (nv key.2) := off_block bK hSw (fun h => h.elim (fun h => by have := hGl _ h; omega) (fun e => e))
        have e0_ := hx_.c0
        have e1_ := hx_.c1
        clear hx_
        clear hSw
        go_simp
        try with_reducible rfl
      simp only [List.set_cons_succ, List.set_cons_zero]
      refine takeL 5 26 (v := ?_) rfl rfl (by kernel_rfl) (by kernel_rfl) (by kernel_rfl) (fun _ _ _ h => h) (by rfl) hHeld (fun wz hSw => ?_) ?_
      rotate_left 1
      · (try dsimp only at hSw)
        have hx_ : NBox wz _ nn := off_block bN hSw (fun h => h.elim (fun h => by have := hGl _ h; omega) (fun e => e))
        have e0_ := hx_.c0
        have e1_ := hx_.c1
        have e2_ := hx_.c2
        clear hx_
        clear hSw
        go_simp
        try with_reducible rfl
      simp only [List.set_cons_succ, List.set_cons_zero]
      refine takeM 6 27 3 rfl rfl rfl (by kernel_rfl) (by kernel_rfl) (by kernel_rfl) (fun _ _ _ h => h) (by rfl) hHeld rfl ?_
      simp only [List.set_cons_succ, List.set_cons_zero]
      refine takeL 7 28 (v := ?_) rfl rfl (by kernel_rfl) (by kernel_rfl) (by kernel_rfl) (fun _ _ _ h => h) (by rfl) hHeld (fun wz hSw => ?_) ?_
      rotate_left 1
      · (try dsimp only at hSw)
        have hx_ : SBox wz _ (.slice y m d) (nv q.tag.1) (nv q.tag.2) := off_block bR hSw (fun h => h.elim (fun h => by have := hGl _ h; omega) (fun e => e))
        have e0_ := hx_.c0
        have e1_ := hx_.c1
        have e2_ := hx_.c2
        clear hx_
        clear hSw
        go_simp
        try with_reducible rfl
      simp only [List.set_cons_succ, List.set_cons_zero]
      refine onlyL 8 rfl (by kernel_rfl) (by rfl) (fun K hK => ?_)
      go_wp2_with fail
      refine (hC W1.drew (hP.below (Below.refl _ _).drew) (sx.off (F := fun _ => False) (Off.refl _ _).drew (fun _ _ _ h => h)) (sy.off (F := fun _ => False) (Off.refl _ _).drew (fun _ _ _ h => h))).mono ?_
      rintro e w2 ⟨z, cz, G2, rfl, hKp, sz⟩
      have hof : Off (fun k => G k ∨ False) W1 w2 := (Off.refl _ W1).drew.trans hKp.off (fun k h => Or.inl (Or.inl h))
      refine hK.out _ _ hof (fun _ => ?_)
      clear hK K hHeld
      have hHeld := hof
      refine takeL 9 30 (v := ?_) rfl rfl (by kernel_rfl) (by kernel_rfl) (by kernel_rfl) (fun _ _ _ h => h) (by rfl) hHeld (fun wz hSw => ?_) ?_
      rotate_left 1
      · (try dsimp only at hSw)
        clear hSw
        go_simp
        try with_reducible rfl
      simp only [List.set_cons_succ, List.set_cons_zero]
      refine takeL 10 31 (v := ?_) rfl rfl (by kernel_rfl) (by kernel_rfl) (by kernel_rfl) (fun _ _ _ h => h) (by rfl) hHeld (fun wz hSw => ?_) ?_
      rotate_left 1
      · (try dsimp only at hSw)
        clear hSw
        go_simp
        try with_reducible rfl
      simp only [List.set_cons_succ, List.set_cons_zero]
      refine takeA 11 10 30 rfl rfl rfl (by kernel_rfl) (by kernel_rfl) (by kernel_rfl) (fun _ _ _ h => h) (by rfl) hHeld rfl ?_
      simp only [List.set_cons_succ, List.set_cons_zero]
      refine takeA 12 11 31 rfl rfl rfl (by kernel_rfl) (by kernel_rfl) (by kernel_rfl) (fun _ _ _ h => h) (by rfl) hHeld rfl ?_
      simp only [List.set_cons_succ, List.set_cons_zero]
      refine wpAnyH_done (by kernel_rfl) ?_ _
      go_wp2
      go_ret2
      have hk := liftL (W1 := W1.drew) (st' := st) (w3 := w2) hbb hbl hn hGl hF hi hB.drew hKp (Off.refl _ _)
      have hz1 : W1.drew.heap.size = W1.heap.size := rfl
      refine ⟨z, cz, _, rfl, hk, sz.mono (fun k _ h e => e.elim (fun e => by omega) h.2)⟩
    · have ho := LSt.opens_no hi (fun i h => hit ⟨i, h⟩)
      rw [ho]
      clear ho
      have hC := fun w => hO.openNo G u (st.iss, st.sums) q x y n m c d hL bx by_ fx fy (fun i h => hit ⟨i, h⟩) w
      unfold kv nvv at hC
      rw [HK.out, HN.out] at hC
      simp only [Option.getD_none, Option.isSome_none, List.length_nil]
      go_enter Try.func13, Try.ntmps13
      go_wp2_with fail
      have hWz : w.heap.size + 1 + 1 < (((w.alloc (.cells #[.int .u64 (nv key.1), .int .u64 (nv key.2)] 30)).alloc (.cells #[.int .u32 (nv32 nn.1), .int .u32 (nv32 nn.2.1), .int .u64 (nv nn.2.2)] 35)).alloc (.cells #[.slice y m d, .int .u64 (nv q.tag.1), .int .u64 (nv q.tag.2)] 32)).heap.size := bR.lt
      generalize (((w.alloc (.cells #[.int .u64 (nv key.1), .int .u64 (nv key.2)] 30)).alloc (.cells #[.int .u32 (nv32 nn.1), .int .u32 (nv32 nn.2.1), .int .u64 (nv nn.2.2)] 35)).alloc (.cells #[.slice y m d, .int .u64 (nv q.tag.1), .int .u64 (nv q.tag.2)] 32)) = W1 at *
      refine wp_region_held_drew (S := fun w' => Off (fun k => G k ∨ False) W1 w') (by kernel_rfl) (Off.refl _ _).drew (fun hHeld => ?_)
      refine takeM 0 21 0 rfl rfl rfl (by kernel_rfl) (by kernel_rfl) (by kernel_rfl) (fun _ _ _ h => h) (by rfl) hHeld rfl ?_
      simp only [List.set_cons_succ, List.set_cons_zero]
      refine takeL 1 22 (v := ?_) rfl rfl (by kernel_rfl) (by kernel_rfl) (by kernel_rfl) (fun _ _ _ h => h) (by rfl) hHeld (fun wz hSw => ?_) ?_
      rotate_left 1
      · (try dsimp only at hSw)
        clear hSw
        go_simp
        try with_reducible rfl
      simp only [List.set_cons_succ, List.set_cons_zero]
      refine takeL 2 23 (v := ?_) rfl rfl (by kernel_rfl) (by kernel_rfl) (by kernel_rfl) (fun _ _ _ h => h) (by rfl) hHeld (fun wz hSw => ?_) ?_
      rotate_left 1
      · (try dsimp only at hSw)
        clear hSw
        go_simp
        try with_reducible rfl
      simp only [List.set_cons_succ, List.set_cons_zero]
      refine takeL 3 24 (v := ?_) rfl rfl (by kernel_rfl) (by kernel_rfl) (by kernel_rfl) (fun _ _ _ h => h) (by rfl) hHeld (fun wz hSw => ?_) ?_
      rotate_left 1
      · (try dsimp only at hSw)
        have e0_ := (hSw.cell (p := ⟨b, 1, none⟩) hbW (fun h => h.elim hn (fun e => e))).trans k0
        clear hSw
        go_simp
        try with_reducible rfl
      simp only [List.set_cons_succ, List.set_cons_zero]
      refine takeL 4 25 (v := ?_) rfl rfl (by kernel_rfl) (by kernel_rfl) (by kernel_rfl) (fun _ _ _ h => h) (by rfl) hHeld (fun wz hSw => ?_) ?_
      rotate_left 1
      · (try dsimp only at hSw)
        have hx_ : Box wz _ (nv key.1) (nv key.2) := off_block bK hSw (fun h => h.elim (fun h => by have := hGl _ h; omega) (fun e => e))
        have e0_ := hx_.c0
        have e1_ := hx_.c1
        clear hx_
        clear hSw
        go_simp
        try with_reducible rfl
      simp only [List.set_cons_succ, List.set_cons_zero]
      refine takeL 5 26 (v := ?_) rfl rfl (by kernel_rfl) (by kernel_rfl) (by kernel_rfl) (fun _ _ _ h => h) (by rfl) hHeld (fun wz hSw => ?_) ?_
      rotate_left 1
      · (try dsimp only at hSw)
        have hx_ : NBox wz _ nn := off_block bN hSw (fun h => h.elim (fun h => by have := hGl _ h; omega) (fun e => e))
        have e0_ := hx_.c0
        have e1_ := hx_.c1
        have e2_ := hx_.c2
        clear hx_
        clear hSw
        go_simp
        try with_reducible rfl
      simp only [List.set_cons_succ, List.set_cons_zero]
      refine takeM 6 27 3 rfl rfl rfl (by kernel_rfl) (by kernel_rfl) (by kernel_rfl) (fun _ _ _ h => h) (by rfl) hHeld rfl ?_
      simp only [List.set_cons_succ, List.set_cons_zero]
      refine takeL 7 28 (v := ?_) rfl rfl (by kernel_rfl) (by kernel_rfl) (by kernel_rfl) (fun _ _ _ h => h) (by rfl) hHeld (fun wz hSw => ?_) ?_
      rotate_left 1
      · (try dsimp only at hSw)
        have hx_ : SBox wz _ (.slice y m d) (nv q.tag.1) (nv q.tag.2) := off_block bR hSw (fun h => h.elim (fun h => by have := hGl _ h; omega) (fun e => e))
        have e0_ := hx_.c0
        have e1_ := hx_.c1
        have e2_ := hx_.c2
        clear hx_
        clear hSw
        go_simp
        try with_reducible rfl
      simp only [List.set_cons_succ, List.set_cons_zero]
      refine onlyL 8 rfl (by kernel_rfl) (by rfl) (fun K hK => ?_)
      go_wp2_with fail
      refine (hC W1.drew (hP.below (Below.refl _ _).drew) (sx.off (F := fun _ => False) (Off.refl _ _).drew (fun _ _ _ h => h)) (sy.off (F := fun _ => False) (Off.refl _ _).drew (fun _ _ _ h => h))).mono ?_
      rintro e w2 ⟨z, cz, G2, rfl, hKp⟩
      have hof : Off (fun k => G k ∨ False) W1 w2 := (Off.refl _ W1).drew.trans hKp.off (fun k h => Or.inl (Or.inl h))
      refine hK.out _ _ hof (fun _ => ?_)
      clear hK K hHeld
      have hHeld := hof
      refine takeL 9 30 (v := ?_) rfl rfl (by kernel_rfl) (by kernel_rfl) (by kernel_rfl) (fun _ _ _ h => h) (by rfl) hHeld (fun wz hSw => ?_) ?_
      rotate_left 1
      · (try dsimp only at hSw)
        clear hSw
        go_simp
        try with_reducible rfl
      simp only [List.set_cons_succ, List.set_cons_zero]
      refine takeL 10 31 (v := ?_) rfl rfl (by kernel_rfl) (by kernel_rfl) (by kernel_rfl) (fun _ _ _ h => h) (by rfl) hHeld (fun wz hSw => ?_) ?_
      rotate_left 1
      · (try dsimp only at hSw)
        clear hSw
        go_simp
        try with_reducible rfl
      simp only [List.set_cons_succ, List.set_cons_zero]
      refine takeA 11 10 30 rfl rfl rfl (by kernel_rfl) (by kernel_rfl) (by kernel_rfl) (fun _ _ _ h => h) (by rfl) hHeld rfl ?_
      simp only [List.set_cons_succ, List.set_cons_zero]
      refine takeA 12 11 31 rfl rfl rfl (by kernel_rfl) (by kernel_rfl) (by kernel_rfl) (fun _ _ _ h => h) (by rfl) hHeld rfl ?_
      simp only [List.set_cons_succ, List.set_cons_zero]
      refine wpAnyH_done (by kernel_rfl) ?_ _
      go_wp2
      go_ret2
      have hk := liftL (W1 := W1.drew) (st' := st) (w3 := w2) hbb hbl hn hGl hF hi hB.drew hKp (Off.refl _ _)
      exact ⟨z, cz, _, rfl, hk, SIn.none _ _ _⟩
end Go.Proofs.Ytkkehbebaokdmaa
