/- RefLkA RefOpen: texts laid together. -/
import Derived.Test.YtkkehbebaokdmaaM11
import Derived.Test.YtkkehbebaokdmaaRefOSum
import Derived.Test.YtkkehbebaokdmaaRefOSeal
import Derived.Test.YtkkehbebaokdmaaM12

/- The document's own lock: which sealer, in a block of its own; New, Sum, Issued. -/
namespace Go.Proofs.Ytkkehbebaokdmaa
open Go.RowKit
set_option maxRecDepth 20000

/-- One cell in block b. -/
def LBox (w : World) (b : Nat) (v : Value) : Prop := w.heap[b]? = some (.cells #[v] 60 (0, 0))
theorem LBox.lt {w : World} {b : Nat} {v : Value} (h : LBox w b v) : b < w.heap.size := by
  obtain ⟨hlt, _⟩ := Array.getElem?_eq_some_iff.1 h
  exact hlt
theorem LBox.c0 {w : World} {b : Nat} {v : Value} (h : LBox w b v) : w.cell? ⟨b, 0, none⟩ = some v := by unfold LBox at h; simp [World.cell?, h]
theorem LBox.not8 {w : World} {b : Nat} {v : Value} (h : LBox w b v) {cur : Array Value} {fr : Nat × Nat} (h2 : w.heap[b]? = some (.cells cur 5 fr)) : False := by
  unfold LBox at h
  rw [h] at h2
  simp at h2
/-- The document's lock in block b: a real one, or one with an ideal sealer. -/
def RLInv (G : Nat → Prop) (w : World) (b : Nat) (st : LSt) : Prop :=
  (st = ⟨false, [], []⟩ ∧ LBox w b (.pointer none) ∧ ∀ k, G k ↔ k = b) ∨ (st.ideal = true ∧ ∃ o H, LBox w b (.pointer (some ⟨o, 0, none⟩)) ∧ RInv H w o (st.iss, st.sums) ∧ ¬ H b ∧ ∀ k, G k ↔ k = b ∨ H k)
theorem RLInv.off {G F : Nat → Prop} {w w' : World} {b : Nat} {st : LSt} (h : RLInv G w b st) (hb : Off F w w') (hd : ∀ k, k < w.heap.size → G k → ¬ F k) : RLInv G w' b st := by
  obtain ⟨h1, h2, h3⟩ | ⟨h1, o, H, h2, h3, h4, h5⟩ := h
  · exact Or.inl ⟨h1, off_block h2 hb (hd b h2.lt ((h3 b).2 rfl)), h3⟩
  · exact Or.inr ⟨h1, o, H, off_block h2 hb (hd b h2.lt ((h5 b).2 (Or.inl rfl))), h3.off hb (fun k hk hH => hd k hk ((h5 k).2 (Or.inr hH))), h4, h5⟩
theorem RLInv.below {G : Nat → Prop} {w w' : World} {b : Nat} {st : LSt} (h : RLInv G w b st) (hb : Below w.heap.size w w') : RLInv G w' b st := h.off (Off.of_below (F := fun _ => False) hb) (fun _ _ _ h => h)
theorem RLInv.lt {G : Nat → Prop} {w : World} {b : Nat} {st : LSt} (h : RLInv G w b st) (k : Nat) (hk : G k) : k < w.heap.size := by
  obtain ⟨h1, h2, h3⟩ | ⟨h1, o, H, h2, h3, h4, h5⟩ := h
  · exact (h3 k).1 hk ▸ h2.lt
  · rcases (h5 k).1 hk with rfl | hk
    · exact h2.lt
    · exact h3.lt k hk
/-- A call on the ideal sealer behind the document's lock. -/
theorem RLInv.lift {G H H' : Nat → Prop} {w W1 w2 w3 : World} {b o : Nat} {st' : LSt} (hb : LBox W1 b (.pointer (some ⟨o, 0, none⟩))) (hbl : b < w.heap.size) (hn : ¬ H b) (hH : ∀ k, H k → k < w.heap.size) (hG : ∀ k, G k ↔ k = b ∨ H k) (hi : st'.ideal = true) (hB : Below w.heap.size w W1) (hR : RInv H' w2 o (st'.iss, st'.sums)) (hsub : ∀ k, H' k → H k ∨ W1.heap.size ≤ k) (hoff : Off H W1 w2) (hp : Off (fun k => w.heap.size ≤ k ∧ k < W1.heap.size) w2 w3) :
    RLInv (fun k => k = b ∨ H' k) w3 b st' ∧ (∀ k, k = b ∨ H' k → G k ∨ w.heap.size ≤ k) ∧ Off G w w3 := by
  have hz := hB.size
  have hnp : ∀ k, k = b ∨ H' k → ¬ (w.heap.size ≤ k ∧ k < W1.heap.size) := by
    rintro k (rfl | h) h2
    · omega
    · rcases hsub k h with h | h
      · have := hH k h
        omega
      · omega
  refine ⟨Or.inr ⟨hi, o, H', off_block (off_block hb hoff hn) hp (hnp b (Or.inl rfl)), hR.off hp (fun k _ hk => hnp k (Or.inr hk)), fun h => (hsub b h).elim hn (fun h => by omega), fun _ => Iff.rfl⟩, ?_, ?_⟩
  · rintro k (rfl | h)
    · exact Or.inl ((hG _).2 (Or.inl rfl))
    · exact (hsub k h).imp (fun h => (hG k).2 (Or.inr h)) (fun h => by omega)
  · exact ((Off.of_below hB).trans hoff (fun k h => Or.inl ((hG k).2 (Or.inr h)))).trans hp (fun k h => Or.inr h.1)
theorem rinv_made (w : World) : RInv (fun k => k = w.heap.size) (w.alloc (.cells #[.slice none 0 0, .slice none 0 0] 58)) w.heap.size ([], []) := by
  refine ⟨fun _ => False, fun _ => False, .slice none 0 0, .slice none 0 0, ⟨heap_alloc_new w _, ⟨fun _ => ⟨none, 0, none, 0, none, 0⟩, World.ownsRow_nil _ _ _ _, fun k hk => by simp [Value.ownBlock] at hk, fun i hi => absurd hi (by simp)⟩, ⟨World.ownsRow_nil _ _ _ _, fun k hk => by simp [Value.ownBlock] at hk, fun p hp => by simp at hp⟩, fun h => h, fun h => h, fun _ h => h.elim⟩, fun k => by simp, fun k hk => ?_⟩
  subst hk
  rw [World.size_alloc]
  omega
theorem rlnew (i : Bool) (w : World) : Calls Try.prog 9 #[.bool i] w fun e w' => ∃ b G, e = .returned (.pointer (some ⟨b, 0, none⟩)) ∧ RLInv G w' b ⟨i, [], []⟩ ∧ (∀ k, G k → w.heap.size ≤ k) ∧ Below w.heap.size w w' := by
  cases i
  · have hN : LBox (w.alloc (.cells #[.pointer none] 60)) w.heap.size (.pointer none) := heap_alloc_new _ _
    have hB : Below w.heap.size w (w.alloc (.cells #[.pointer none] 60)) := (Below.refl _ _).alloc (Nat.le_refl _) _
    go_enter Try.func9, Try.ntmps9
    go_wp2
    go_ret
    exact ⟨_, fun k => k = w.heap.size, rfl, Or.inl ⟨rfl, hN, fun _ => Iff.rfl⟩, fun k hk => hk ▸ Nat.le_refl _, hB⟩
  · have hR := rinv_made w
    have hB : Below w.heap.size w (w.alloc (.cells #[.slice none 0 0, .slice none 0 0] 58)) := (Below.refl _ _).alloc (Nat.le_refl _) _
    have hz : (w.alloc (.cells #[.slice none 0 0, .slice none 0 0] 58)).heap.size = w.heap.size + 1 := World.size_alloc ..
    have hb2 : Below (w.alloc (.cells #[.slice none 0 0, .slice none 0 0] 58)).heap.size (w.alloc (.cells #[.slice none 0 0, .slice none 0 0] 58)) ((w.alloc (.cells #[.slice none 0 0, .slice none 0 0] 58)).alloc (.cells #[.pointer (some ⟨w.heap.size, 0, none⟩)] 60)) := (Below.refl _ _).alloc (Nat.le_refl _) _
    have hN : LBox ((w.alloc (.cells #[.slice none 0 0, .slice none 0 0] 58)).alloc (.cells #[.pointer (some ⟨w.heap.size, 0, none⟩)] 60)) (w.heap.size + 1) (.pointer (some ⟨w.heap.size, 0, none⟩)) := by
      rw [← hz]
      exact heap_alloc_new _ _
    have hR2 := hR.below hb2
    have hB2 := hB.trans (hb2.mono hB.size)
    clear hR hB hb2 hz
    go_enter Try.func9, Try.ntmps9
    go_wp2
    go_ret
    refine ⟨_, fun k => k = w.heap.size + 1 ∨ k = w.heap.size, rfl, Or.inr ⟨rfl, w.heap.size, _, hN, hR2, by omega, fun _ => Iff.rfl⟩, fun k hk => by omega, hB2⟩
theorem rlissued (G : Nat → Prop) (b : Nat) (st : LSt) (w : World) (hI : RLInv G w b st) : Calls Try.prog 19 #[.pointer (some ⟨b, 0, none⟩)] w fun e w' => ∃ z cz, e = .returned (.slice z st.iss.length cz) ∧ IRd w' z st.iss.length st.iss ∧ Below w.heap.size w w' := by
  obtain ⟨rfl, h2, h3⟩ | ⟨h1, o, H, h2, h3, h4, h5⟩ := hI
  · have k0 := h2.c0
    go_enter Try.func19, Try.ntmps19
    go_wp2
    go_ret
    exact ⟨none, 0, rfl, ⟨rfl, fun h => absurd h (Nat.lt_irrefl _)⟩, Below.refl _ _⟩
  · have k0 := h2.c0
    obtain ⟨FL, FS, vL, vS, hR, hiff, hlt⟩ := h3
    obtain ⟨yL, cL, rfl, hcL, hrd⟩ := hR.iss.rd
    have k1 := hR.box.c0
    go_enter Try.func19, Try.ntmps19
    go_wp2
    go_ret
    exact ⟨_, ⟨_, rfl⟩, hrd, Below.refl _ _⟩
set_option maxHeartbeats 1000000 in
theorem rlsum (G : Nat → Prop) (b : Nat) (st : LSt) (xs : List Int) (x : Option Addr) (n c : Nat) (hn : n ≤ 50000) (hS : st.sums.length ≤ 50000) (bx : Bytes xs) (fx : Fit x n c) (w : World) (hI : RLInv G w b st) (sx : SIn (fun k => ¬ G k) w x n xs) :
    Calls Try.prog 16 #[.pointer (some ⟨b, 0, none⟩), .slice x n c] w fun e w' => e = .returned (.agg #[.int .u64 (st.sumV xs).1, .int .u64 (st.sumV xs).2]) ∧ ∃ G', RLInv G' w' b (st.sumS xs) ∧ (∀ k, G' k → G k ∨ w.heap.size ≤ k) ∧ Off G w w' ∧ U8 w w' := by
  have hI' := hI
  have bR := Box.new w 0 0
  have hB : Below w.heap.size w (w.alloc (.cells #[.int .u64 0, .int .u64 0] 30)) := by go_grown
  obtain ⟨rfl, h2, h3⟩ | ⟨hi, o, H, h2, hP, hn', hG⟩ := hI
  · have hbl := h2.lt
    have hbW : LBox (w.alloc (.cells #[.int .u64 0, .int .u64 0] 30)) b (.pointer none) := off_block h2 (Off.of_below (F := fun _ => False) hB) (fun h => h)
    have k0 := hbW.c0
    obtain ⟨p, HP⟩ : ∃ p, Hid (sumP xs = p) := ⟨_, rfl⟩
    rw [LSt.sumV_real rfl xs HP.out]
    have hs : LSt.sumS ⟨false, [], []⟩ xs = ⟨false, [], []⟩ := rfl
    rw [hs]
    clear hs
    have sx1 := sx.sat.below hB
    go_enter Try.func16, Try.ntmps16
    go_wp2_with fail
    generalize w.alloc (.cells #[.int .u64 0, .int .u64 0] 30) = W1 at *
    refine (rsum_of xs x n c hn bx fx.2.2 _ sx1 HP.out).mono ?_
    rintro e w2 ⟨rfl, hb2⟩
    replace bR := bR.grown hb2
    replace hB := hB.trans (hb2.mono hB.size)
    have q0 := bR.c0
    have q1 := bR.c1
    have q2 := bR.frozen 0
    have q3 := bR.frozen 1
    go_wp2
    clear q0 q1 q2 q3
    replace bR := bR.put2 (nv p.1) (nv p.2)
    have r0 := bR.c0
    have r1 := bR.c1
    have hb3 := (((Off.of_below (F := fun _ => False) hB).setCell (p := ⟨w.heap.size, 0, none⟩) (Or.inr (Nat.le_refl _)) (.int .u64 (nv p.1))).setCell (p := ⟨w.heap.size, 1, none⟩) (Or.inr (Nat.le_refl _)) (.int .u64 (nv p.2))).none (fun _ h => h.elim)
    refine bodyPost_ret (v := .agg #[.int .u64 (nv p.1), .int .u64 (nv p.2)]) (by simp [results, Try.results16, go_sem, r0, r1]) rfl ⟨rfl, G, hI'.below hb3, fun k h => Or.inl h, Off.of_below hb3, U8.of_below hb3⟩
  · have hbl := h2.lt
    have hbW : LBox (w.alloc (.cells #[.int .u64 0, .int .u64 0] 30)) b (.pointer (some ⟨o, 0, none⟩)) := off_block h2 (Off.of_below (F := fun _ => False) hB) (fun h => h)
    have k0 := hbW.c0
    have hv : st.sumV xs = (17216961135462248174, ((sumIx st.sums xs : Nat) : Int)) := by rw [LSt.sumV, if_pos hi]
    have hs : st.sumS xs = ⟨st.ideal, st.iss, sumSt st.sums xs⟩ := by rw [LSt.sumS, if_pos hi]
    rw [hv, hs]
    clear hv hs
    have hHl := hP.lt
    replace sx := (sx.off (Off.of_below (F := fun _ => False) hB) (fun _ _ _ h => h)).mono (G' := fun k => ¬ H k) (fun k _ h hg => h ((hG k).2 (Or.inr hg)))
    replace hP := hP.below hB
    have hU := U8.of_below hB
    go_enter Try.func16, Try.ntmps16
    go_wp2_with fail
    have hWz : w.heap.size < (w.alloc (.cells #[.int .u64 0, .int .u64 0] 30)).heap.size := by simp
    generalize w.alloc (.cells #[.int .u64 0, .int .u64 0] 30) = W1 at *
    refine (rosum8 H o st.iss st.sums xs x n c hS bx _ hP sx).mono ?_
    rintro e w2 ⟨rfl, H2, hR, hsub, hoff, hU2⟩
    replace bR : Box w2 w.heap.size 0 0 := off_block bR hoff (fun h => by have := hHl _ h; omega)
    have bR' := bR
    have q0 := bR.c0
    have q1 := bR.c1
    have q2 := bR.frozen 0
    have q3 := bR.frozen 1
    go_wp2
    clear q0 q1 q2 q3
    replace bR := bR.put2 17216961135462248174 ((sumIx st.sums xs : Nat) : Int)
    have r0 := bR.c0
    have r1 := bR.c1
    have hp : Off (fun k => k = w.heap.size) w2 ((w2.setCell ⟨w.heap.size, 0, none⟩ (.int .u64 17216961135462248174)).setCell ⟨w.heap.size, 1, none⟩ (.int .u64 ((sumIx st.sums xs : Nat) : Int))) := ((Off.refl (fun k => k = w.heap.size) w2).setCell (p := ⟨w.heap.size, 0, none⟩) (Or.inl rfl) _).setCell (p := ⟨w.heap.size, 1, none⟩) (Or.inl rfl) _
    obtain ⟨a1, a2, a3⟩ := RLInv.lift (st' := ⟨st.ideal, st.iss, sumSt st.sums xs⟩) hbW hbl hn' hHl hG hi hB hR hsub hoff (hp.mono (fun k h => Or.inl ⟨by omega, by omega⟩))
    refine bodyPost_ret (v := .agg #[.int .u64 17216961135462248174, .int .u64 ((sumIx st.sums xs : Nat) : Int)]) (by simp [results, Try.results16, go_sem, r0, r1]) rfl ⟨rfl, _, a1, a2, a3, (hU.trans hU2).trans (U8.of_off hp (fun k cur fr h e => ?_))⟩
    subst e
    have hx := bR'
    unfold Box at hx
    rw [hx] at h
    simp at h
end Go.Proofs.Ytkkehbebaokdmaa


/- What lockboxref5.Open and Same come to. -/
namespace Go.Proofs.Ytkkehbebaokdmaa
open Go.RowKit
set_option maxRecDepth 20000

set_option maxRecDepth 10000 in
set_option maxHeartbeats 1000000 in
theorem ropen_yes : OpenYes 27 := by
  intro key n xs ys x y nx ny c d t hnx hny ht bx by_ _ _ xnil ynil w sx sy
  obtain ⟨sub, HS⟩ : ∃ sub, Hid (subP key n = sub) := ⟨_, rfl⟩
  rw [HS.out] at ht
  have heq := eq32
  obtain ⟨ms, HM⟩ : ∃ ms, Hid (mixL sub ys = ms) := ⟨_, rfl⟩
  have HX : Hid (xorL ys (flowL sub ny) = ms) := by rw [← HM.out, mixL, sy.1]; exact hide' rfl
  have hml : ms.length = ny := by rw [← HM.out, mixL_length, sy.1]
  rw [HS.out, HM.out]
  go_enter Try.func27, Try.ntmps27
  go_wp2_with fail
  have b0 := Box.new w (nv key.1) (nv key.2)
  have bS := SBox.new ((w.alloc (.cells #[.int .u64 (nv key.1), .int .u64 (nv key.2)] 30)).alloc (.cells #[.int .u32 (nv32 n.1), .int .u32 (nv32 n.2.1), .int .u64 (nv n.2.2)] 35)) (.slice y ny d) (nv t.1) (nv t.2)
  have hB : Below w.heap.size w (((w.alloc (.cells #[.int .u64 (nv key.1), .int .u64 (nv key.2)] 30)).alloc (.cells #[.int .u32 (nv32 n.1), .int .u32 (nv32 n.2.1), .int .u64 (nv n.2.2)] 35)).alloc (.cells #[.slice y ny d, .int .u64 (nv t.1), .int .u64 (nv t.2)] 32)) := by go_grown
  simp only [World.size_alloc] at bS
  generalize ((w.alloc (.cells #[.int .u64 (nv key.1), .int .u64 (nv key.2)] 30)).alloc (.cells #[.int .u32 (nv32 n.1), .int .u32 (nv32 n.2.1), .int .u64 (nv n.2.2)] 35)).alloc (.cells #[.slice y ny d, .int .u64 (nv t.1), .int .u64 (nv t.2)] 32) = W1 at *
  replace sx := sx.below hB
  replace sy := sy.below hB
  clear b0
  refine (rsub_of key n HS.out _).mono ?_
  rintro e w1 ⟨rfl, hb⟩
  replace bS := bS.grown hb
  replace sx := sx.below hb
  replace sy := sy.below hb
  replace hB := hB.trans (hb.mono hB.size)
  clear hb
  go_wp2_with fail
  have hb : Below w1.heap.size w1 (w1.alloc (.cells #[.int .u64 (nv sub.1), .int .u64 (nv sub.2)] 30)) := (Below.refl _ _).alloc (Nat.le_refl _) _
  have b2 := Box.new w1 (nv sub.1) (nv sub.2)
  replace bS := bS.grown hb
  replace sx := sx.below hb
  replace sy := sy.below hb
  replace hB := hB.trans (hb.mono hB.size)
  clear hb
  generalize w1.alloc (.cells #[.int .u64 (nv sub.1), .int .u64 (nv sub.2)] 30) = w2 at *
  generalize w1.heap.size = A at *
  refine wp_region_held_drew (S := fun w' => Below w2.heap.size w2 w') (by kernel_rfl) (Below.refl _ _).drew (fun hHeld => ?_)
  refine takeL 0 23 (v := ?_) rfl rfl (by kernel_rfl) (by kernel_rfl) (by kernel_rfl) (fun _ _ _ h => h) (by rfl) hHeld (fun w hSw => ?_) ?_
  rotate_left 1
  · (try dsimp only at hSw)
    have e0_ := (bS.grown hSw).c0
    have e1_ := (bS.grown hSw).c1
    have e2_ := (bS.grown hSw).c2
    have e3_ := (b2.grown hSw).c0
    have e4_ := (b2.grown hSw).c1
    clear hSw
    go_simp
    try with_reducible rfl
  simp only [List.set_cons_succ, List.set_cons_zero]
  refine takeM 1 24 2 rfl rfl rfl (by kernel_rfl) (by kernel_rfl) (by kernel_rfl) (fun _ _ _ h => h) (by rfl) hHeld rfl ?_
  simp only [List.set_cons_succ, List.set_cons_zero]
  refine takeL 2 25 (v := ?_) rfl rfl (by kernel_rfl) (by kernel_rfl) (by kernel_rfl) (fun _ _ _ h => h) (by rfl) hHeld (fun w hSw => ?_) ?_
  rotate_left 1
  · (try dsimp only at hSw)
    clear hSw
    go_simp
    try with_reducible rfl
  simp only [List.set_cons_succ, List.set_cons_zero]
  refine takeL 3 26 (v := ?_) rfl rfl (by kernel_rfl) (by kernel_rfl) (by kernel_rfl) (fun _ _ _ h => h) (by rfl) hHeld (fun w hSw => ?_) ?_
  rotate_left 1
  · (try dsimp only at hSw)
    have e0_ := (bS.grown hSw).c0
    have e1_ := (bS.grown hSw).c1
    have e2_ := (bS.grown hSw).c2
    have e3_ := (b2.grown hSw).c0
    have e4_ := (b2.grown hSw).c1
    clear hSw
    go_simp
    try with_reducible rfl
  simp only [List.set_cons_succ, List.set_cons_zero]
  refine takeL 5 28 (v := ?_) rfl rfl (by kernel_rfl) (by kernel_rfl) (by kernel_rfl) (fun _ _ _ h => h) (by rfl) hHeld (fun w hSw => ?_) ?_
  rotate_left 1
  · (try dsimp only at hSw)
    clear hSw
    go_simp
    try with_reducible rfl
  simp only [List.set_cons_succ, List.set_cons_zero]
  refine takeL 6 29 (v := ?_) rfl rfl (by kernel_rfl) (by kernel_rfl) (by kernel_rfl) (fun _ _ _ h => h) (by rfl) hHeld (fun w hSw => ?_) ?_
  rotate_left 1
  · (try dsimp only at hSw)
    have e0_ := (bS.grown hSw).c0
    have e1_ := (bS.grown hSw).c1
    have e2_ := (bS.grown hSw).c2
    have e3_ := (b2.grown hSw).c0
    have e4_ := (b2.grown hSw).c1
    clear hSw
    go_simp
    try with_reducible rfl
  simp only [List.set_cons_succ, List.set_cons_zero]
  refine onlyL 4 rfl (by kernel_rfl) (by rfl) (fun K hK => ?_)
  go_wp2_with fail
  refine (rtag sub xs ys x y nx ny c d (by omega) (by omega) bx by_ xnil ynil _ sx.drew sy.drew).mono ?_
  rintro e wp1_ ⟨rfl, hb⟩
  replace hb := (Below.refl _ _).drew.trans hb
  rw [ht]
  replace bS := bS.grown hb
  replace b2 := b2.grown hb
  replace sx := sx.below hb
  replace sy := sy.below hb
  replace hB := hB.trans (hb.mono hB.size)
  refine hK.out _ _ hb (fun _ => ?_)
  clear hK K hHeld
  refine held_more (S' := fun w' => Below wp1_.heap.size wp1_ w') (fun _ h => hb.trans (h.mono hb.size)) _ _ _ _ ?_
  have hHeld := Below.refl wp1_.heap.size wp1_
  clear hb
  refine takeL 7 30 (v := ?_) rfl rfl (by kernel_rfl) (by kernel_rfl) (by kernel_rfl) (fun _ _ _ h => h) (by rfl) hHeld (fun w hSw => ?_) ?_
  rotate_left 1
  · (try dsimp only at hSw)
    clear hSw
    go_simp
    try with_reducible rfl
  simp only [List.set_cons_succ, List.set_cons_zero]
  refine wpAnyH_done (by kernel_rfl) ?_ _
  go_wp2_with fail
  refine wp_region_held_drew (S := fun w' => Below wp1_.heap.size wp1_ w') (by kernel_rfl) (Below.refl _ _).drew (fun hHeld => ?_)
  refine takeL 0 31 (v := ?_) rfl rfl (by kernel_rfl) (by kernel_rfl) (by kernel_rfl) (fun _ _ _ h => h) (by rfl) hHeld (fun w hSw => ?_) ?_
  rotate_left 1
  · (try dsimp only at hSw)
    clear hSw
    go_simp
    try with_reducible rfl
  simp only [List.set_cons_succ, List.set_cons_zero]
  refine takeL 1 32 (v := ?_) rfl rfl (by kernel_rfl) (by kernel_rfl) (by kernel_rfl) (fun _ _ _ h => h) (by rfl) hHeld (fun w hSw => ?_) ?_
  rotate_left 1
  · (try dsimp only at hSw)
    have e0_ := (bS.grown hSw).c0
    have e1_ := (bS.grown hSw).c1
    have e2_ := (bS.grown hSw).c2
    have e3_ := (b2.grown hSw).c0
    have e4_ := (b2.grown hSw).c1
    clear hSw
    go_simp
    try with_reducible rfl
  simp only [List.set_cons_succ, List.set_cons_zero]
  refine takeL 2 33 (v := ?_) rfl rfl (by kernel_rfl) (by kernel_rfl) (by kernel_rfl) (fun _ _ _ h => h) (by rfl) hHeld (fun w hSw => ?_) ?_
  rotate_left 1
  · (try dsimp only at hSw)
    have e0_ := (bS.grown hSw).c0
    have e1_ := (bS.grown hSw).c1
    have e2_ := (bS.grown hSw).c2
    have e3_ := (b2.grown hSw).c0
    have e4_ := (b2.grown hSw).c1
    clear hSw
    go_simp
    try with_reducible rfl
  simp only [List.set_cons_succ, List.set_cons_zero]
  refine takeL 3 34 (v := ?_) rfl rfl (by kernel_rfl) (by kernel_rfl) (by kernel_rfl) (fun _ _ _ h => h) (by rfl) hHeld (fun w hSw => ?_) ?_
  rotate_left 1
  · (try dsimp only at hSw)
    clear hSw
    go_simp
    try with_reducible rfl
  simp only [List.set_cons_succ, List.set_cons_zero]
  refine takeL 4 35 (v := ?_) rfl rfl (by kernel_rfl) (by kernel_rfl) (by kernel_rfl) (fun _ _ _ h => h) (by rfl) hHeld (fun w hSw => ?_) ?_
  rotate_left 1
  · (try dsimp only at hSw)
    have e0_ := (bS.grown hSw).c0
    have e1_ := (bS.grown hSw).c1
    have e2_ := (bS.grown hSw).c2
    have e3_ := (b2.grown hSw).c0
    have e4_ := (b2.grown hSw).c1
    clear hSw
    go_simp
    try with_reducible rfl
  simp only [List.set_cons_succ, List.set_cons_zero]
  refine takeL 5 36 (v := ?_) rfl rfl (by kernel_rfl) (by kernel_rfl) (by kernel_rfl) (fun _ _ _ h => h) (by rfl) hHeld (fun w hSw => ?_) ?_
  rotate_left 1
  · (try dsimp only at hSw)
    clear hSw
    go_simp
    try with_reducible rfl
  simp only [List.set_cons_succ, List.set_cons_zero]
  refine onlyL 6 rfl (by kernel_rfl) (by rfl) (fun K hK => ?_)
  go_wp2_with fail
  refine (rflow_at sub ny hny rfl rfl rfl _).mono ?_
  rintro e wq1_ ⟨⟨xf, cf, rfl, sf, hcf, -, -⟩, hb⟩
  replace hb := (Below.refl _ _).drew.trans hb
  replace bS := bS.grown hb
  replace b2 := b2.grown hb
  replace sy := sy.below hb
  replace hB := hB.trans (hb.mono hB.size)
  refine hK.out _ _ hb (fun _ => ?_)
  clear hK K hHeld
  refine held_more (S' := fun w' => Below wq1_.heap.size wq1_ w') (fun _ h => hb.trans (h.mono hb.size)) _ _ _ _ ?_
  have hHeld := Below.refl wq1_.heap.size wq1_
  clear hb
  refine onlyL 7 rfl (by kernel_rfl) (by rfl) (fun K hK => ?_)
  go_wp2_with fail
  refine (rxor ys (flowL sub ny) y xf ny ny d cf (by omega) (by omega) _ sy sf).mono ?_
  rintro e wq2_ ⟨⟨z, l, cz, rfl, sz, hcz, -, -⟩, hb⟩
  rw [HX.out] at sz
  obtain rfl : ny = l := by rw [← sz.1, hml]
  replace bS := bS.grown hb
  replace b2 := b2.grown hb
  replace sy := sy.below hb
  replace sf := sf.below hb
  replace hB := hB.trans (hb.mono hB.size)
  refine hK.out _ _ hb (fun _ => ?_)
  clear hK K hHeld
  refine held_more (S' := fun w' => Below wq2_.heap.size wq2_ w') (fun _ h => hb.trans (h.mono hb.size)) _ _ _ _ ?_
  have hHeld := Below.refl wq2_.heap.size wq2_
  clear hb
  refine takeA 8 8 38 rfl rfl rfl (by kernel_rfl) (by kernel_rfl) (by kernel_rfl) (fun _ _ _ h => h) (by rfl) hHeld rfl ?_
  simp only [List.set_cons_succ, List.set_cons_zero]
  refine takeL 9 9 (v := ?_) rfl rfl (by kernel_rfl) (by kernel_rfl) (by kernel_rfl) (fun _ _ _ h => h) (by rfl) hHeld (fun w hSw => ?_) ?_
  rotate_left 1
  · (try dsimp only at hSw)
    clear hSw
    go_simp
    try with_reducible rfl
  simp only [List.set_cons_succ, List.set_cons_zero]
  refine wpAnyH_done (by kernel_rfl) ?_ _
  go_wp2
  go_ret2
  exact ⟨z, cz, rfl, sz, hB⟩

set_option maxRecDepth 10000 in
set_option maxHeartbeats 1000000 in
theorem ropen_no : OpenNo 27 := by
  intro key n xs ys x y nx ny c d t hnx hny ht bx by_ _ _ xnil ynil w sx sy
  obtain ⟨sub, HS⟩ : ∃ sub, Hid (subP key n = sub) := ⟨_, rfl⟩
  rw [HS.out] at ht
  have heq := eq32
  have hne : (nv (tagP sub xs ys).1 == nv t.1 && nv (tagP sub xs ys).2 == nv t.2) = false := by
    rw [pair_eq_of]
    exact decide_eq_false ht
  go_enter Try.func27, Try.ntmps27
  go_wp2_with fail
  have b0 := Box.new w (nv key.1) (nv key.2)
  have bS := SBox.new ((w.alloc (.cells #[.int .u64 (nv key.1), .int .u64 (nv key.2)] 30)).alloc (.cells #[.int .u32 (nv32 n.1), .int .u32 (nv32 n.2.1), .int .u64 (nv n.2.2)] 35)) (.slice y ny d) (nv t.1) (nv t.2)
  have hB : Below w.heap.size w (((w.alloc (.cells #[.int .u64 (nv key.1), .int .u64 (nv key.2)] 30)).alloc (.cells #[.int .u32 (nv32 n.1), .int .u32 (nv32 n.2.1), .int .u64 (nv n.2.2)] 35)).alloc (.cells #[.slice y ny d, .int .u64 (nv t.1), .int .u64 (nv t.2)] 32)) := by go_grown
  simp only [World.size_alloc] at bS
  generalize ((w.alloc (.cells #[.int .u64 (nv key.1), .int .u64 (nv key.2)] 30)).alloc (.cells #[.int .u32 (nv32 n.1), .int .u32 (nv32 n.2.1), .int .u64 (nv n.2.2)] 35)).alloc (.cells #[.slice y ny d, .int .u64 (nv t.1), .int .u64 (nv t.2)] 32) = W1 at *
  replace sx := sx.below hB
  replace sy := sy.below hB
  clear b0
  refine (rsub_of key n HS.out _).mono ?_
  rintro e w1 ⟨rfl, hb⟩
  replace bS := bS.grown hb
  replace sx := sx.below hb
  replace sy := sy.below hb
  replace hB := hB.trans (hb.mono hB.size)
  clear hb
  go_wp2_with fail
  have hb : Below w1.heap.size w1 (w1.alloc (.cells #[.int .u64 (nv sub.1), .int .u64 (nv sub.2)] 30)) := (Below.refl _ _).alloc (Nat.le_refl _) _
  have b2 := Box.new w1 (nv sub.1) (nv sub.2)
  replace bS := bS.grown hb
  replace sx := sx.below hb
  replace sy := sy.below hb
  replace hB := hB.trans (hb.mono hB.size)
  clear hb
  generalize w1.alloc (.cells #[.int .u64 (nv sub.1), .int .u64 (nv sub.2)] 30) = w2 at *
  generalize w1.heap.size = A at *
  refine wp_region_held_drew (S := fun w' => Below w2.heap.size w2 w') (by kernel_rfl) (Below.refl _ _).drew (fun hHeld => ?_)
  refine takeL 0 23 (v := ?_) rfl rfl (by kernel_rfl) (by kernel_rfl) (by kernel_rfl) (fun _ _ _ h => h) (by rfl) hHeld (fun w hSw => ?_) ?_
  rotate_left 1
  · (try dsimp only at hSw)
    have e0_ := (bS.grown hSw).c0
    have e1_ := (bS.grown hSw).c1
    have e2_ := (bS.grown hSw).c2
    have e3_ := (b2.grown hSw).c0
    have e4_ := (b2.grown hSw).c1
    clear hSw
    go_simp
    try with_reducible rfl
  simp only [List.set_cons_succ, List.set_cons_zero]
  refine takeM 1 24 2 rfl rfl rfl (by kernel_rfl) (by kernel_rfl) (by kernel_rfl) (fun _ _ _ h => h) (by rfl) hHeld rfl ?_
  simp only [List.set_cons_succ, List.set_cons_zero]
  refine takeL 2 25 (v := ?_) rfl rfl (by kernel_rfl) (by kernel_rfl) (by kernel_rfl) (fun _ _ _ h => h) (by rfl) hHeld (fun w hSw => ?_) ?_
  rotate_left 1
  · (try dsimp only at hSw)
    clear hSw
    go_simp
    try with_reducible rfl
  simp only [List.set_cons_succ, List.set_cons_zero]
  refine takeL 3 26 (v := ?_) rfl rfl (by kernel_rfl) (by kernel_rfl) (by kernel_rfl) (fun _ _ _ h => h) (by rfl) hHeld (fun w hSw => ?_) ?_
  rotate_left 1
  · (try dsimp only at hSw)
    have e0_ := (bS.grown hSw).c0
    have e1_ := (bS.grown hSw).c1
    have e2_ := (bS.grown hSw).c2
    have e3_ := (b2.grown hSw).c0
    have e4_ := (b2.grown hSw).c1
    clear hSw
    go_simp
    try with_reducible rfl
  simp only [List.set_cons_succ, List.set_cons_zero]
  refine takeL 5 28 (v := ?_) rfl rfl (by kernel_rfl) (by kernel_rfl) (by kernel_rfl) (fun _ _ _ h => h) (by rfl) hHeld (fun w hSw => ?_) ?_
  rotate_left 1
  · (try dsimp only at hSw)
    clear hSw
    go_simp
    try with_reducible rfl
  simp only [List.set_cons_succ, List.set_cons_zero]
  refine takeL 6 29 (v := ?_) rfl rfl (by kernel_rfl) (by kernel_rfl) (by kernel_rfl) (fun _ _ _ h => h) (by rfl) hHeld (fun w hSw => ?_) ?_
  rotate_left 1
  · (try dsimp only at hSw)
    have e0_ := (bS.grown hSw).c0
    have e1_ := (bS.grown hSw).c1
    have e2_ := (bS.grown hSw).c2
    have e3_ := (b2.grown hSw).c0
    have e4_ := (b2.grown hSw).c1
    clear hSw
    go_simp
    try with_reducible rfl
  simp only [List.set_cons_succ, List.set_cons_zero]
  refine onlyL 4 rfl (by kernel_rfl) (by rfl) (fun K hK => ?_)
  go_wp2_with fail
  refine (rtag sub xs ys x y nx ny c d (by omega) (by omega) bx by_ xnil ynil _ sx.drew sy.drew).mono ?_
  rintro e wp1_ ⟨rfl, hb⟩
  replace hb := (Below.refl _ _).drew.trans hb
  replace bS := bS.grown hb
  replace b2 := b2.grown hb
  replace sx := sx.below hb
  replace sy := sy.below hb
  replace hB := hB.trans (hb.mono hB.size)
  refine hK.out _ _ hb (fun _ => ?_)
  clear hK K hHeld
  refine held_more (S' := fun w' => Below wp1_.heap.size wp1_ w') (fun _ h => hb.trans (h.mono hb.size)) _ _ _ _ ?_
  have hHeld := Below.refl wp1_.heap.size wp1_
  clear hb
  refine takeL 7 30 (v := ?_) rfl rfl (by kernel_rfl) (by kernel_rfl) (by kernel_rfl) (fun _ _ _ h => h) (by rfl) hHeld (fun w hSw => ?_) ?_
  rotate_left 1
  · (try dsimp only at hSw)
    clear hSw
    go_simp
    try with_reducible rfl
  simp only [List.set_cons_succ, List.set_cons_zero]
  refine wpAnyH_done (by kernel_rfl) ?_ _
  go_wp2
  go_ret2
  exact ⟨⟨_, _, rfl⟩, hB⟩

set_option maxHeartbeats 400000 in
theorem ropen_long : OpenLong 27 := by
  intro key n x y nx ny c d t1 t2 h w
  by_cases h1 : 4000 < nx
  · clear h
    go_enter Try.func27, Try.ntmps27
    go_wp2
    go_ret2
    exact ⟨⟨_, _, rfl⟩, by go_grown⟩
  · have h2 : 4000 < ny := by omega
    clear h
    go_enter Try.func27, Try.ntmps27
    go_wp2
    go_ret2
    exact ⟨⟨_, _, rfl⟩, by go_grown⟩
end Go.Proofs.Ytkkehbebaokdmaa
