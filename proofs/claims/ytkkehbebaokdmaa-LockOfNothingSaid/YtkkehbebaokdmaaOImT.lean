/- What the program's Sum comes to. -/
import Derived.Test.YtkkehbebaokdmaaOImS
namespace Go.Proofs.Ytkkehbebaokdmaa
open Go.RowKit Go.Maps
set_option maxRecDepth 20000

theorem iremember_at (FL FS : Nat → Prop) (b : Nat) (vL vS : Value) (L : List Iss) (S : List (List Int)) (p : List Int) (i : Int) (hi : i = (S.length : Int) + 1) (hp : p ∉ S) (bp : Bytes p) (hl : p.length ≤ 50000) (hS : S.length ≤ 10000) (w : World) (hA : PAt FL FS w b vL vS (L, S)) (hF : ∀ k, k = b ∨ FL k ∨ FS k → k < w.heap.size) :
    Calls Try.prog 51 #[.pointer (some ⟨b, 0, none⟩), .string (strOfNums p), .int .u64 i] w fun e w' => ∃ FS' vS', e = .returned (.tuple #[]) ∧ PAt FL FS' w' b vL vS' (L, S ++ [p]) ∧ (∀ k, FS' k → FS k ∨ w.heap.size ≤ k) ∧ Off (fun k => k = b ∨ FS k) w w' ∧ ∀ k, FS' k → k < w'.heap.size := by
  subst hi
  exact iremember FL FS b vL vS L S p hp bp hl hS w hA hF
/-- The end of Sum, behind remember. -/
theorem sum_kept {F FL FS FS' : Nat → Prop} {w w1 w2 : World} {b : Nat} {vL vS : Value} {st : OSt} (hF : ∀ k, F k ↔ k = b ∨ FL k ∨ FS k) (hlt : ∀ k, F k → k < w.heap.size) (hB : Below w.heap.size w w1) (hA : PAt FL FS' w2 b vL vS st)
    (hsub : ∀ k, FS' k → FS k ∨ w1.heap.size ≤ k) (hoff : Off (fun k => k = b ∨ FS k) w1 w2) (hl2 : ∀ k, FS' k → k < w2.heap.size) (u v : Value) (hR : ∀ k, k = b ∨ FL k ∨ FS' k → k ≠ w.heap.size) :
    Kept PInv F w (.pointer (some ⟨b, 0, none⟩)) (fun k => k = b ∨ FL k ∨ FS' k) ((w2.setCell ⟨w.heap.size, 0, none⟩ u).setCell ⟨w.heap.size, 1, none⟩ v) st := by
  have hof : Off (fun k => k = w.heap.size) w2 ((w2.setCell ⟨w.heap.size, 0, none⟩ u).setCell ⟨w.heap.size, 1, none⟩ v) := ((Off.refl (fun k => k = w.heap.size) w2).setCell (p := ⟨w.heap.size, 0, none⟩) (Or.inl rfl) u).setCell (p := ⟨w.heap.size, 1, none⟩) (Or.inl rfl) v
  have hz := hof.size
  have hz1 := hoff.size
  have hz0 := hB.size
  refine ⟨⟨b, FL, FS', vL, vS, rfl, hA.eqs (Eqs.of_off hof (fun k _ hk e => hR k hk e)), fun k => Iff.rfl, ?_⟩, ?_, ?_⟩
  · rintro k (h | h | h)
    · have := hlt k ((hF k).2 (Or.inl h))
      omega
    · have := hlt k ((hF k).2 (Or.inr (Or.inl h)))
      omega
    · have := hl2 k h
      omega
  · rintro k (h | h | h)
    · exact Or.inl ((hF k).2 (Or.inl h))
    · exact Or.inl ((hF k).2 (Or.inr (Or.inl h)))
    · rcases hsub k h with h | h
      · exact Or.inl ((hF k).2 (Or.inr (Or.inr h)))
      · exact Or.inr (by omega)
  · exact ((Off.of_below (F := F) hB).trans hoff (fun k hk => Or.inl ((hF k).2 (hk.imp id Or.inr)))).trans hof (fun k hk => Or.inr (by omega))

set_option maxRecDepth 10000 in
set_option maxHeartbeats 2000000 in
theorem isumm (F : Nat → Prop) (v : Value) (L : List Iss) (S : List (List Int)) (P : List (List Int)) (x : Option Addr) (m c : Nat) (hm : m ≤ 1000) (hP : P.flatten.length ≤ 50000) (hS : S.length ≤ 10000) (hfit : Fit x m c) (w : World) (hI : PInv F w v (L, S)) (hl : LIn (fun k => ¬ F k) w x m P) :
    Calls Try.prog 33 #[v, .slice x m c] w fun e w' => ∃ F', e = .returned (.agg #[.int .u64 17216961135462248174, .int .u64 (sumIx S P.flatten : Nat)]) ∧ Kept PInv F w v F' w' (L, sumSt S P.flatten) := by
  obtain ⟨b, FL, FS, vL, vS, rfl, hA, hF0, hlt0⟩ := hI
  have HF := hide' hF0
  have HLT := hide' hlt0
  have hbw : b < w.heap.size := hA.box.lt
  clear hF0 hlt0
  have hB : Below w.heap.size w (w.alloc (.cells #[.int .u64 0, .int .u64 0] 30)) := (Below.refl _ _).alloc (Nat.le_refl _) _
  have bR := Box.new w 0 0
  have hla := hl.lat.below hB
  have bP := hla.bytes
  have hcat := iconcat P x m c hm hP hfit.1 hfit.2.2 _ hla
  obtain ⟨xs, HX⟩ : ∃ xs, Hid (P.flatten = xs) := ⟨_, rfl⟩
  rw [HX.out] at hP bP hcat ⊢
  obtain ⟨j, HJ⟩ : ∃ j, Hid (sumIx S xs = j) := ⟨_, rfl⟩
  obtain ⟨S', HS⟩ : ∃ S', Hid (sumSt S xs = S') := ⟨_, rfl⟩
  rw [HJ.out, HS.out]
  clear hl hla
  go_enter Try.func33, Try.ntmps33
  go_wp2_with fail
  refine hcat.mono ?_
  rintro e w1 ⟨v1, rfl, own1, hb⟩
  obtain ⟨x1, c1, rfl, s1⟩ := own_sat rfl own1
  have e0 := fun c => s1.conv (c := c)
  replace bR := bR.grown hb
  replace hB := hB.trans (hb.mono hB.size)
  replace hA := hA.below hB
  clear hb own1 hcat
  have hz1 := hB.size
  have hRw := bR.lt
  have k1 := hA.box.c1
  have hkey := keyS_mk hP
  have hFw : ∀ k, k = b ∨ FL k ∨ FS k → k < w1.heap.size := fun k hk => by
    have := HLT.out k ((HF.out k).2 hk)
    omega
  have hFn : ∀ k, k = b ∨ FL k ∨ FS k → k ≠ w.heap.size := fun k hk => by
    have := HLT.out k ((HF.out k).2 hk)
    omega
  rcases hA.sum with ⟨rfl, e⟩ | ⟨mb, D, rfl, hG, hown, hD⟩
  · dsimp only at e
    subst e
    have hlook := fun w => Maps.look_nil (P := Try.prog) (w := w) (t := 77) true lawS Try.underlyingSums (zeroU w) hkey
    have hlen := fun w ty => Maps.len_nil (P := Try.prog) (w := w) (t := 77) Try.underlyingSums ty
    simp only [if_true] at hlook
    obtain rfl : j = 1 := by rw [← HJ.out]; simp [sumIx]
    obtain rfl : S' = [] ++ [xs] := by rw [← HS.out]; simp [sumSt]
    go_wp2_with fail
    clear hlook hlen e0
    refine (iremember_at FL FS b vL (.map none) L [] xs 1 (by simp) (by simp) bP hP (by simp) _ hA hFw).mono ?_
    rintro e w2 ⟨FS', vS', rfl, hA2, hsub, hoff, hl2⟩
    have bR2 : Box w2 w.heap.size 0 0 := off_block bR hoff (fun e => e.elim (fun e => by omega) (fun e => hFn _ (Or.inr (Or.inr e)) rfl))
    have k2 := bR2.c0
    have k3 := bR2.c1
    have k4 := bR2.frozen 0
    have k5 := bR2.frozen 1
    go_wp2
    have q := bR2.put2 17216961135462248174 1
    have q0 := q.c0
    have q1 := q.c1
    refine bodyPost_ret (v := .agg #[.int .u64 17216961135462248174, .int .u64 1]) (by simp [results, Try.results33, go_sem, q0, q1]) rfl ⟨_, rfl, sum_kept HF.out HLT.out hB hA2 hsub hoff hl2 _ _ ?_⟩
    rintro k (h | h | h) e
    · exact hFn k (Or.inl h) e
    · exact hFn k (Or.inr (Or.inl h)) e
    · rcases hsub k h with h | h
      · exact hFn k (Or.inr (Or.inr h)) e
      · omega
  · dsimp only at hown hD
    by_cases hm' : xs ∈ S
    · have hhas : Maps.has D (keyS xs) = true := by rw [hD.has xs bP]; exact decide_eq_true hm'
      have HV := hide' (hD.val xs hm')
      obtain rfl : S' = S := by rw [← HS.out]; exact if_pos hm'
      have k2 := bR.c0
      have k3 := bR.c1
      have k4 := bR.frozen 0
      have k5 := bR.frozen 1
      go_wp2_with (at_lookup; refine wpList_lookup_own_ok_int _ rfl _ _ 77 rfl 9 28 .u64 lawS Try.underlyingSums Try.underlyingU64 (zeroU _) mb S'.length D rfl hown _ _ rfl hkey ?_; intro cc hat hwc; (obtain rfl : cc = (j : Int) := by rw [HV.out, HJ.out] at hat; injection hat with hat; injection hat with _ hat; exact hat.symm))
      have q := bR.put2 17216961135462248174 (j : Int)
      have q0 := q.c0
      have q1 := q.c1
      refine bodyPost_ret (v := .agg #[.int .u64 17216961135462248174, .int .u64 (j : Int)]) (by simp [results, Try.results33, go_sem, q0, q1]) rfl ⟨_, rfl, sum_kept HF.out HLT.out hB hA (fun k h => Or.inl h) (Off.refl _ _) (fun k h => hFw k (Or.inr (Or.inr h))) _ _ hFn⟩
    · have hhas : Maps.has D (keyS xs) = false := by rw [hD.has xs bP]; exact decide_eq_false hm'
      obtain rfl : S' = S ++ [xs] := by rw [← HS.out]; exact if_neg hm'
      have hj : (j : Int) = (S.length : Int) + 1 := by rw [← HJ.out, sumIx_new hm']; rfl
      have hlen := fun ty => hown.len Try.underlyingSums ty
      rw [hD.len] at hlen
      go_wp2_with (at_lookup; refine wpList_lookup_own_ok_int _ rfl _ _ 77 rfl 9 28 .u64 lawS Try.underlyingSums Try.underlyingU64 (zeroU _) mb S.length D rfl hown _ _ rfl hkey ?_; intro cc hat hwc)
      clear e0 hlen
      refine (iremember_at FL FS b vL (.map (some mb)) L S xs ((S.length : Int) + 1) rfl hm' bP hP hS _ hA hFw).mono ?_
      rintro e w2 ⟨FS', vS', rfl, hA2, hsub, hoff, hl2⟩
      have bR2 : Box w2 w.heap.size 0 0 := off_block bR hoff (fun e => e.elim (fun e => by omega) (fun e => hFn _ (Or.inr (Or.inr e)) rfl))
      have k2 := bR2.c0
      have k3 := bR2.c1
      have k4 := bR2.frozen 0
      have k5 := bR2.frozen 1
      go_wp2
      have q := bR2.put2 17216961135462248174 ((S.length : Int) + 1)
      have q0 := q.c0
      have q1 := q.c1
      refine bodyPost_ret (v := .agg #[.int .u64 17216961135462248174, .int .u64 ((S.length : Int) + 1)]) (by simp [results, Try.results33, go_sem, q0, q1]) rfl ⟨_, by rw [hj], sum_kept HF.out HLT.out hB hA2 hsub hoff hl2 _ _ ?_⟩
      rintro k (h | h | h) e
      · exact hFn k (Or.inl h) e
      · exact hFn k (Or.inr (Or.inl h)) e
      · rcases hsub k h with h | h
        · exact hFn k (Or.inr (Or.inr h)) e
        · omega
end Go.Proofs.Ytkkehbebaokdmaa
