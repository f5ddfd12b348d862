/- What the program's remember and Sum come to. -/
import Derived.Test.YtkkehbebaokdmaaOImM
import Derived.Test.YtkkehbebaokdmaaCat
import Derived.WalkSpells
namespace Go.Proofs.Ytkkehbebaokdmaa
open Go.RowKit Go.Maps
set_option maxRecDepth 20000

theorem RowInG.row {G : Nat → Prop} {w : World} {b o : Nat} {ys : List Int} (h : RowInG G w b o ys) : RowIn w b o ys := by
  obtain ⟨y, c, h1, h2, h3⟩ := h
  exact ⟨y, c, h1, h2.sat, h3⟩
theorem LIn.lat {G : Nat → Prop} {w : World} {x : Option Addr} {m : Nat} {P : List (List Int)} (h : LIn G w x m P) : LAt w x m P :=
  ⟨h.1, fun hm => by
    obtain ⟨b, o, e, hlt, _, hr⟩ := h.2 hm
    exact ⟨b, o, e, hlt, fun i hi => (hr i hi).row⟩⟩
theorem wfU (n : Nat) (h : n ≤ 10000) : (Lit.int .u64 ((n : Int) + 1)).wf = true := WalkArith.wf_u64 (by omega)

set_option maxHeartbeats 1000000 in
theorem iremember (FL FS : Nat → Prop) (b : Nat) (vL vS : Value) (L : List Iss) (S : List (List Int)) (p : List Int) (hp : p ∉ S) (bp : Bytes p) (hl : p.length ≤ 50000) (hS : S.length ≤ 10000) (w : World) (hA : PAt FL FS w b vL vS (L, S)) (hF : ∀ k, k = b ∨ FL k ∨ FS k → k < w.heap.size) :
    Calls Try.prog 51 #[.pointer (some ⟨b, 0, none⟩), .string (strOfNums p), .int .u64 ((S.length : Int) + 1)] w fun e w' => ∃ FS' vS', e = .returned (.tuple #[]) ∧ PAt FL FS' w' b vL vS' (L, S ++ [p]) ∧ (∀ k, FS' k → FS k ∨ w.heap.size ≤ k) ∧ Off (fun k => k = b ∨ FS k) w w' ∧ ∀ k, FS' k → k < w'.heap.size := by
  have hwf := wfU S.length hS
  have hbl := hA.box.lt
  rcases hA.sum with ⟨rfl, e⟩ | ⟨mb, D, rfl, hG, hown, hD⟩
  · dsimp only at e
    subst e
    have hmm := @run_makeMap Try.prog
    have hnm := fun w => run_eql_map_nil (P := Try.prog) w 77 9 28 none Try.underlyingSums
    have k0 := hA.box.c1
    have k2 := hA.box.frozen 1
    have bx2 := hA.box.put1 (.map (some w.heap.size))
    have hof : Off (fun k => k = b) w (w.setCell ⟨b, 1, none⟩ (.map (some w.heap.size))) := Off.one w b 1 _
    have hb : Below (w.setCell ⟨b, 1, none⟩ (.map (some w.heap.size))).heap.size (w.setCell ⟨b, 1, none⟩ (.map (some w.heap.size))) ((w.setCell ⟨b, 1, none⟩ (.map (some w.heap.size))).alloc (.map #[] 0)) := (Below.refl _ _).alloc (Nat.le_refl _) _
    have bx3 := bx2.grown hb
    have k3 := bx3.c1
    have hown := World.ownsMap_made (w.setCell ⟨b, 1, none⟩ (.map (some w.heap.size))) Try.prog 9 (plainElem (H := Unit) Try.prog 28)
    rw [World.size_setCell] at hown
    go_enter Try.func51, Try.ntmps51
    go_wp2_with (at_mapUpdate; refine wpList_mapUpdate_own _ rfl _ _ _ 77 rfl 9 28 lawS Try.underlyingSums _ w.heap.size 0 _ rfl hown (by unfold maxLen; omega) _ _ _ rfl rfl (keyS_mk hl) _ [] (plainElem_int Try.underlyingU64 hwf) ?_)
    intro w1 hown1 hgrow1
    clear k0 k2 k3 hmm hnm
    go_wp2
    have hofA : Off (fun k => k = b) w w1 := (hof.more hb).grown hgrow1 (fun k hk => Or.inr (by cases hk; exact Nat.le_refl _))
    refine bodyPost_end (v := .tuple #[]) (by simp [results, Try.results51, go_sem]) rfl ⟨fun k => k = w.heap.size, .map (some w.heap.size), rfl, ⟨?_, hA.iss.eqs (Eqs.of_off hofA (fun k _ hk e => hA.nl (e ▸ hk))), Or.inr ⟨w.heap.size, _, rfl, rfl, hown1, SumD.nil.put tidy_empty (by simp) bp⟩, hA.nl, fun e => by omega, fun k hk e => ?_⟩, fun k hk => Or.inr (by omega), hofA.mono (fun k hk => Or.inl (Or.inl hk)), fun k hk => ?_⟩
    · exact (hgrow1.block b bx3.lt (fun e => by cases e; omega)).trans bx3
    · have := hF k (Or.inr (Or.inl hk))
      omega
    · subst hk
      exact hown1.lt
  · have hnm := fun w => run_eql_map_nil (P := Try.prog) w 77 9 28 (some mb) Try.underlyingSums
    have k0 := hA.box.c1
    have hT := hown.tidy lawS
    dsimp only at hown hD
    go_enter Try.func51, Try.ntmps51
    go_wp2_with (at_mapUpdate; refine wpList_mapUpdate_own _ rfl _ _ _ 77 rfl 9 28 lawS Try.underlyingSums _ mb S.length D rfl hown (by unfold maxLen; omega) _ _ _ rfl rfl (keyS_mk hl) _ [] (plainElem_int Try.underlyingU64 hwf) ?_)
    intro w1 hown1 hgrow1
    clear k0 hnm
    go_wp2
    have hofA : Off (fun k => FS k) w w1 := (Off.refl _ _).grown hgrow1 (fun k hk => Or.inl (by cases hk; exact hG))
    refine bodyPost_end (v := .tuple #[]) (by simp [results, Try.results51, go_sem]) rfl ⟨FS, .map (some mb), rfl, ⟨off_block hA.box hofA hA.ns, hA.iss.eqs (Eqs.of_off hofA (fun k _ hk e => hA.ls k hk e)), Or.inr ⟨mb, _, rfl, hG, by rw [List.length_append]; exact hown1, hD.put hT hp bp⟩, hA.nl, hA.ns, hA.ls⟩, fun k hk => Or.inl hk, hofA.mono (fun k hk => Or.inl (Or.inr hk)), fun k hk => Nat.lt_of_lt_of_le (hF k (Or.inr (Or.inr hk))) hofA.size⟩
end Go.Proofs.Ytkkehbebaokdmaa
