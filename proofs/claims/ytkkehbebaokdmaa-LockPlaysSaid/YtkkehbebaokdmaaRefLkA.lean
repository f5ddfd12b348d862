/- The document's own lock: which sealer, in a block of its own; New, Sum, Issued. -/
import Derived.Test.YtkkehbebaokdmaaLkLaws
import Derived.Test.YtkkehbebaokdmaaRefOSum
import Derived.Test.YtkkehbebaokdmaaRefOSeal
namespace Go.Proofs.Ytkkehbebaokdmaa
open Go.RowKit
set_option maxRecDepth 20000

/-- One cell in block b. -/
def LBox (w : World) (b : Nat) (v : Value) : Prop := w.heap[b]? = some (.cells #[v] 60 (0, 0))
theorem LBox.lt {w : World} {b : Nat} {v : Value} (h : LBox w b v) : b < w.heap.size := by
  obtain ⟨hlt, _⟩ := Array.getElem?_eq_some_iff.1 h
  exact hlt
theorem LBox.c0 {w : World} {b : Nat} {v : Value} (h : LBox w b v) : w.cell? ⟨b, 0, none⟩ = some v := by unfold LBox at h; simp [World.cell?, h]
theorem LBox.not8 {w : World} {b : Nat} {v : Value} (h : LBox w b v) {cur : Array Value} {fr : Nat × Nat} (h2 : w.heap[b]? = some (.cells cur 5 fr)) : False := by
  unfold LBox at h
  rw [h] at h2
  simp at h2
/-- The document's lock in block b: a real one, or one with an ideal sealer. -/
def RLInv (G : Nat → Prop) (w : World) (b : Nat) (st : LSt) : Prop :=
  (st = ⟨false, [], []⟩ ∧ LBox w b (.pointer none) ∧ ∀ k, G k ↔ k = b) ∨ (st.ideal = true ∧ ∃ o H, LBox w b (.pointer (some ⟨o, 0, none⟩)) ∧ RInv H w o (st.iss, st.sums) ∧ ¬ H b ∧ ∀ k, G k ↔ k = b ∨ H k)
theorem RLInv.off {G F : Nat → Prop} {w w' : World} {b : Nat} {st : LSt} (h : RLInv G w b st) (hb : Off F w w') (hd : ∀ k, k < w.heap.size → G k → ¬ F k) : RLInv G w' b st := by
  obtain ⟨h1, h2, h3⟩ | ⟨h1, o, H, h2, h3, h4, h5⟩ := h
  · exact Or.inl ⟨h1, off_block h2 hb (hd b h2.lt ((h3 b).2 rfl)), h3⟩
  · exact Or.inr ⟨h1, o, H, off_block h2 hb (hd b h2.lt ((h5 b).2 (Or.inl rfl))), h3.off hb (fun k hk hH => hd k hk ((h5 k).2 (Or.inr hH))), h4, h5⟩
theorem RLInv.below {G : Nat → Prop} {w w' : World} {b : Nat} {st : LSt} (h : RLInv G w b st) (hb : Below w.heap.size w w') : RLInv G w' b st := h.off (Off.of_below (F := fun _ => False) hb) (fun _ _ _ h => h)
theorem RLInv.lt {G : Nat → Prop} {w : World} {b : Nat} {st : LSt} (h : RLInv G w b st) (k : Nat) (hk : G k) : k < w.heap.size := by
  obtain ⟨h1, h2, h3⟩ | ⟨h1, o, H, h2, h3, h4, h5⟩ := h
  · exact (h3 k).1 hk ▸ h2.lt
  · rcases (h5 k).1 hk with rfl | hk
    · exact h2.lt
    · exact h3.lt k hk
/-- A call on the ideal sealer behind the document's lock. -/
theorem RLInv.lift {G H H' : Nat → Prop} {w W1 w2 w3 : World} {b o : Nat} {st' : LSt} (hb : LBox W1 b (.pointer (some ⟨o, 0, none⟩))) (hbl : b < w.heap.size) (hn : ¬ H b) (hH : ∀ k, H k → k < w.heap.size) (hG : ∀ k, G k ↔ k = b ∨ H k) (hi : st'.ideal = true) (hB : Below w.heap.size w W1) (hR : RInv H' w2 o (st'.iss, st'.sums)) (hsub : ∀ k, H' k → H k ∨ W1.heap.size ≤ k) (hoff : Off H W1 w2) (hp : Off (fun k => w.heap.size ≤ k ∧ k < W1.heap.size) w2 w3) :
    RLInv (fun k => k = b ∨ H' k) w3 b st' ∧ (∀ k, k = b ∨ H' k → G k ∨ w.heap.size ≤ k) ∧ Off G w w3 := by
  have hz := hB.size
  have hnp : ∀ k, k = b ∨ H' k → ¬ (w.heap.size ≤ k ∧ k < W1.heap.size) := by
    rintro k (rfl | h) h2
    · omega
    · rcases hsub k h with h | h
      · have := hH k h
        omega
      · omega
  refine ⟨Or.inr ⟨hi, o, H', off_block (off_block hb hoff hn) hp (hnp b (Or.inl rfl)), hR.off hp (fun k _ hk => hnp k (Or.inr hk)), fun h => (hsub b h).elim hn (fun h => by omega), fun _ => Iff.rfl⟩, ?_, ?_⟩
  · rintro k (rfl | h)
    · exact Or.inl ((hG _).2 (Or.inl rfl))
    · exact (hsub k h).imp (fun h => (hG k).2 (Or.inr h)) (fun h => by omega)
  · exact ((Off.of_below hB).trans hoff (fun k h => Or.inl ((hG k).2 (Or.inr h)))).trans hp (fun k h => Or.inr h.1)
theorem rinv_made (w : World) : RInv (fun k => k = w.heap.size) (w.alloc (.cells #[.slice none 0 0, .slice none 0 0] 58)) w.heap.size ([], []) := by
  refine ⟨fun _ => False, fun _ => False, .slice none 0 0, .slice none 0 0, ⟨heap_alloc_new w _, ⟨fun _ => ⟨none, 0, none, 0, none, 0⟩, World.ownsRow_nil _ _ _ _, fun k hk => by simp [Value.ownBlock] at hk, fun i hi => absurd hi (by simp)⟩, ⟨World.ownsRow_nil _ _ _ _, fun k hk => by simp [Value.ownBlock] at hk, fun p hp => by simp at hp⟩, fun h => h, fun h => h, fun _ h => h.elim⟩, fun k => by simp, fun k hk => ?_⟩
  subst hk
  rw [World.size_alloc]
  omega
theorem rlnew (i : Bool) (w : World) : Calls Try.prog 9 #[.bool i] w fun e w' => ∃ b G, e = .returned (.pointer (some ⟨b, 0, none⟩)) ∧ RLInv G w' b ⟨i, [], []⟩ ∧ (∀ k, G k → w.heap.size ≤ k) ∧ Below w.heap.size w w' := by
  cases i
  · have hN : LBox (w.alloc (.cells #[.pointer none] 60)) w.heap.size (.pointer none) := heap_alloc_new _ _
    have hB : Below w.heap.size w (w.alloc (.cells #[.pointer none] 60)) := (Below.refl _ _).alloc (Nat.le_refl _) _
    go_enter Try.func9, Try.ntmps9
    go_wp2
    go_ret
    exact ⟨_, fun k => k = w.heap.size, rfl, Or.inl ⟨rfl, hN, fun _ => Iff.rfl⟩, fun k hk => hk ▸ Nat.le_refl _, hB⟩
  · have hR := rinv_made w
    have hB : Below w.heap.size w (w.alloc (.cells #[.slice none 0 0, .slice none 0 0] 58)) := (Below.refl _ _).alloc (Nat.le_refl _) _
    have hz : (w.alloc (.cells #[.slice none 0 0, .slice none 0 0] 58)).heap.size = w.heap.size + 1 := World.size_alloc ..
    have hb2 : Below (w.alloc (.cells #[.slice none 0 0, .slice none 0 0] 58)).heap.size (w.alloc (.cells #[.slice none 0 0, .slice none 0 0] 58)) ((w.alloc (.cells #[.slice none 0 0, .slice none 0 0] 58)).alloc (.cells #[.pointer (some ⟨w.heap.size, 0, none⟩)] 60)) := (Below.refl _ _).alloc (Nat.le_refl _) _
    have hN : LBox ((w.alloc (.cells #[.slice none 0 0, .slice none 0 0] 58)).alloc (.cells #[.pointer (some ⟨w.heap.size, 0, none⟩)] 60)) (w.heap.size + 1) (.pointer (some ⟨w.heap.size, 0, none⟩)) := by
      rw [← hz]
      exact heap_alloc_new _ _
    have hR2 := hR.below hb2
    have hB2 := hB.trans (hb2.mono hB.size)
    clear hR hB hb2 hz
    go_enter Try.func9, Try.ntmps9
    go_wp2
    go_ret
    refine ⟨_, fun k => k = w.heap.size + 1 ∨ k = w.heap.size, rfl, Or.inr ⟨rfl, w.heap.size, _, hN, hR2, by omega, fun _ => Iff.rfl⟩, fun k hk => by omega, hB2⟩
theorem rlissued (G : Nat → Prop) (b : Nat) (st : LSt) (w : World) (hI : RLInv G w b st) : Calls Try.prog 19 #[.pointer (some ⟨b, 0, none⟩)] w fun e w' => ∃ z cz, e = .returned (.slice z st.iss.length cz) ∧ IRd w' z st.iss.length st.iss ∧ Below w.heap.size w w' := by
  obtain ⟨rfl, h2, h3⟩ | ⟨h1, o, H, h2, h3, h4, h5⟩ := hI
  · have k0 := h2.c0
    go_enter Try.func19, Try.ntmps19
    go_wp2
    go_ret
    exact ⟨none, 0, rfl, ⟨rfl, fun h => absurd h (Nat.lt_irrefl _)⟩, Below.refl _ _⟩
  · have k0 := h2.c0
    obtain ⟨FL, FS, vL, vS, hR, hiff, hlt⟩ := h3
    obtain ⟨yL, cL, rfl, hcL, hrd⟩ := hR.iss.rd
    have k1 := hR.box.c0
    go_enter Try.func19, Try.ntmps19
    go_wp2
    go_ret
    exact ⟨_, ⟨_, rfl⟩, hrd, Below.refl _ _⟩
set_option maxHeartbeats 1000000 in
theorem rlsum (G : Nat → Prop) (b : Nat) (st : LSt) (xs : List Int) (x : Option Addr) (n c : Nat) (hn : n ≤ 50000) (hS : st.sums.length ≤ 50000) (bx : Bytes xs) (fx : Fit x n c) (w : World) (hI : RLInv G w b st) (sx : SIn (fun k => ¬ G k) w x n xs) :
    Calls Try.prog 16 #[.pointer (some ⟨b, 0, none⟩), .slice x n c] w fun e w' => e = .returned (.agg #[.int .u64 (st.sumV xs).1, .int .u64 (st.sumV xs).2]) ∧ ∃ G', RLInv G' w' b (st.sumS xs) ∧ (∀ k, G' k → G k ∨ w.heap.size ≤ k) ∧ Off G w w' ∧ U8 w w' := by
  have hI' := hI
  have bR := Box.new w 0 0
  have hB : Below w.heap.size w (w.alloc (.cells #[.int .u64 0, .int .u64 0] 30)) := by go_grown
  obtain ⟨rfl, h2, h3⟩ | ⟨hi, o, H, h2, hP, hn', hG⟩ := hI
  · have hbl := h2.lt
    have hbW : LBox (w.alloc (.cells #[.int .u64 0, .int .u64 0] 30)) b (.pointer none) := off_block h2 (Off.of_below (F := fun _ => False) hB) (fun h => h)
    have k0 := hbW.c0
    obtain ⟨p, HP⟩ : ∃ p, Hid (sumP xs = p) := ⟨_, rfl⟩
    rw [LSt.sumV_real rfl xs HP.out]
    have hs : LSt.sumS ⟨false, [], []⟩ xs = ⟨false, [], []⟩ := rfl
    rw [hs]
    clear hs
    have sx1 := sx.sat.below hB
    go_enter Try.func16, Try.ntmps16
    go_wp2_with fail
    generalize w.alloc (.cells #[.int .u64 0, .int .u64 0] 30) = W1 at *
    refine (rsum_of xs x n c hn bx fx.2.2 _ sx1 HP.out).mono ?_
    rintro e w2 ⟨rfl, hb2⟩
    replace bR := bR.grown hb2
    replace hB := hB.trans (hb2.mono hB.size)
    have q0 := bR.c0
    have q1 := bR.c1
    have q2 := bR.frozen 0
    have q3 := bR.frozen 1
    go_wp2
    clear q0 q1 q2 q3
    replace bR := bR.put2 (nv p.1) (nv p.2)
    have r0 := bR.c0
    have r1 := bR.c1
    have hb3 := (((Off.of_below (F := fun _ => False) hB).setCell (p := ⟨w.heap.size, 0, none⟩) (Or.inr (Nat.le_refl _)) (.int .u64 (nv p.1))).setCell (p := ⟨w.heap.size, 1, none⟩) (Or.inr (Nat.le_refl _)) (.int .u64 (nv p.2))).none (fun _ h => h.elim)
    refine bodyPost_ret (v := .agg #[.int .u64 (nv p.1), .int .u64 (nv p.2)]) (by simp [results, Try.results16, go_sem, r0, r1]) rfl ⟨rfl, G, hI'.below hb3, fun k h => Or.inl h, Off.of_below hb3, U8.of_below hb3⟩
  · have hbl := h2.lt
    have hbW : LBox (w.alloc (.cells #[.int .u64 0, .int .u64 0] 30)) b (.pointer (some ⟨o, 0, none⟩)) := off_block h2 (Off.of_below (F := fun _ => False) hB) (fun h => h)
    have k0 := hbW.c0
    have hv : st.sumV xs = (17216961135462248174, ((sumIx st.sums xs : Nat) : Int)) := by rw [LSt.sumV, if_pos hi]
    have hs : st.sumS xs = ⟨st.ideal, st.iss, sumSt st.sums xs⟩ := by rw [LSt.sumS, if_pos hi]
    rw [hv, hs]
    clear hv hs
    have hHl := hP.lt
    replace sx := (sx.off (Off.of_below (F := fun _ => False) hB) (fun _ _ _ h => h)).mono (G' := fun k => ¬ H k) (fun k _ h hg => h ((hG k).2 (Or.inr hg)))
    replace hP := hP.below hB
    have hU := U8.of_below hB
    go_enter Try.func16, Try.ntmps16
    go_wp2_with fail
    have hWz : w.heap.size < (w.alloc (.cells #[.int .u64 0, .int .u64 0] 30)).heap.size := by simp
    generalize w.alloc (.cells #[.int .u64 0, .int .u64 0] 30) = W1 at *
    refine (rosum8 H o st.iss st.sums xs x n c hS bx _ hP sx).mono ?_
    rintro e w2 ⟨rfl, H2, hR, hsub, hoff, hU2⟩
    replace bR : Box w2 w.heap.size 0 0 := off_block bR hoff (fun h => by have := hHl _ h; omega)
    have bR' := bR
    have q0 := bR.c0
    have q1 := bR.c1
    have q2 := bR.frozen 0
    have q3 := bR.frozen 1
    go_wp2
    clear q0 q1 q2 q3
    replace bR := bR.put2 17216961135462248174 ((sumIx st.sums xs : Nat) : Int)
    have r0 := bR.c0
    have r1 := bR.c1
    have hp : Off (fun k => k = w.heap.size) w2 ((w2.setCell ⟨w.heap.size, 0, none⟩ (.int .u64 17216961135462248174)).setCell ⟨w.heap.size, 1, none⟩ (.int .u64 ((sumIx st.sums xs : Nat) : Int))) := ((Off.refl (fun k => k = w.heap.size) w2).setCell (p := ⟨w.heap.size, 0, none⟩) (Or.inl rfl) _).setCell (p := ⟨w.heap.size, 1, none⟩) (Or.inl rfl) _
    obtain ⟨a1, a2, a3⟩ := RLInv.lift (st' := ⟨st.ideal, st.iss, sumSt st.sums xs⟩) hbW hbl hn' hHl hG hi hB hR hsub hoff (hp.mono (fun k h => Or.inl ⟨by omega, by omega⟩))
    refine bodyPost_ret (v := .agg #[.int .u64 17216961135462248174, .int .u64 ((sumIx st.sums xs : Nat) : Int)]) (by simp [results, Try.results16, go_sem, r0, r1]) rfl ⟨rfl, _, a1, a2, a3, (hU.trans hU2).trans (U8.of_off hp (fun k cur fr h e => ?_))⟩
    subst e
    have hx := bR'
    unfold Box at hx
    rw [hx] at h
    simp at h
end Go.Proofs.Ytkkehbebaokdmaa
