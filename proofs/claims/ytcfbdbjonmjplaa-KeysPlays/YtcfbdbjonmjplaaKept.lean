/- A call on two objects; two objects as one. -/
import Derived.Test.YtcfbdbjonmjplaaObjB
namespace Go.Proofs.Ytcfbdbjonmjplaa
open Go.RowKit
set_option maxRecDepth 20000

/-- What is told of a call on two objects: what both have now, and what has turned. -/
structure KeptD {σ τ : Type} (I : (Nat → Prop) → World → Value → σ → Prop) (J : (Nat → Prop) → World → Value → τ → Prop) (F G : Nat → Prop) (w : World) (v u : Value) (F' G' : Nat → Prop) (w' : World) (s' : σ) (t' : τ) : Prop where
  one : I F' w' v s'
  two : J G' w' u t'
  dis : ∀ k, F' k → ¬ G' k
  sub1 : ∀ k, F' k → F k ∨ w.heap.size ≤ k
  sub2 : ∀ k, G' k → G k ∨ w.heap.size ≤ k
  off : Off (fun k => F k ∨ G k) w w'
theorem Duo.both {σ τ : Type} {I : (Nat → Prop) → World → Value → σ → Prop} {J : (Nat → Prop) → World → Value → τ → Prop} {w wr wr' : World} {F G F' G' : Nat → Prop} {v u : Value} {s s' : σ} {t t' : τ} (h : Duo I J w F v s G u t wr) (hK : KeptD I J F G wr v u F' G' wr' s' t') : Duo I J w F' v s' G' u t' wr' :=
  ⟨hK.one, hK.two, hK.dis, fun k hk => (hK.sub1 k hk).elim (h.hF k) (fun e => Nat.le_trans h.hB.size e), fun k hk => (hK.sub2 k hk).elim (h.hG k) (fun e => Nat.le_trans h.hB.size e),
    h.hB.trans (hK.off.below (fun k hk => hk.elim (h.hF k) (h.hG k)) h.hB.size)⟩
/-- A call on the second, behind which the first alone has turned. -/
theorem KeptG.thenOne {σ τ : Type} {I : (Nat → Prop) → World → Value → σ → Prop} {J : (Nat → Prop) → World → Value → τ → Prop} (hJ : ObjBase J) {F G G' : Nat → Prop} {w w1 w' : World} {v u : Value} {s' : σ} {t' : τ} (hK : KeptG J G w u G' w1 t') (hd : ∀ k, F k → ¬ G k) (hlt : ∀ k, F k → k < w.heap.size) (h1 : I F w' v s') (ho : Off F w1 w') : KeptD I J F G w v u F G' w' s' t' where
  one := h1
  two := hJ.keep hK.inv ho (fun k hg hf => (hK.sub k hg).elim (hd k hf) (fun e => absurd (hlt k hf) (Nat.not_lt.2 e)))
  dis := fun k hf hg => (hK.sub k hg).elim (hd k hf) (fun e => absurd (hlt k hf) (Nat.not_lt.2 e))
  sub1 := fun _ h => Or.inl h
  sub2 := hK.sub
  off := (hK.off.mono (G := fun k => F k ∨ G k) (fun _ h => Or.inl (Or.inr h))).trans ho (fun _ h => Or.inl (Or.inl h))
/-- .. and has some more memory. -/
theorem KeptG.thenNew {σ τ : Type} {I : (Nat → Prop) → World → Value → σ → Prop} {J : (Nat → Prop) → World → Value → τ → Prop} (hJ : ObjBase J) {F F' G G' : Nat → Prop} {w w1 w' : World} {v u : Value} {s' : σ} {t' : τ} (hK : KeptG J G w u G' w1 t') (hd : ∀ k, F k → ¬ G k) (hlt : ∀ k, F k → k < w.heap.size) (h1 : I F' w' v s') (ho : Off F w1 w') (hF' : ∀ k, F' k → F k ∨ w1.heap.size ≤ k) : KeptD I J F G w v u F' G' w' s' t' where
  one := h1
  two := hJ.keep hK.inv ho (fun k hg hf => (hK.sub k hg).elim (hd k hf) (fun e => absurd (hlt k hf) (Nat.not_lt.2 e)))
  dis := fun k hf hg => (hF' k hf).elim (fun hf => (hK.sub k hg).elim (hd k hf) (fun e => absurd (hlt k hf) (Nat.not_lt.2 e))) (fun e => absurd (hJ.lt hK.inv k hg) (Nat.not_lt.2 e))
  sub1 := fun k hf => (hF' k hf).imp id (fun e => Nat.le_trans hK.off.size e)
  sub2 := hK.sub
  off := (hK.off.mono (G := fun k => F k ∨ G k) (fun _ h => Or.inl (Or.inr h))).trans ho (fun _ h => Or.inl (Or.inl h))
theorem Duo.swap {σ τ : Type} {I : (Nat → Prop) → World → Value → σ → Prop} {J : (Nat → Prop) → World → Value → τ → Prop} {w wr : World} {F G : Nat → Prop} {v u : Value} {s : σ} {t : τ} (h : Duo I J w F v s G u t wr) : Duo J I w G u t F v s wr :=
  ⟨h.two, h.one, fun k hg hf => h.dis k hf hg, h.hG, h.hF, h.hB⟩
/-- Two objects as one, known by the first. -/
def PairI {σ τ : Type} (I : (Nat → Prop) → World → Value → σ → Prop) (J : (Nat → Prop) → World → Value → τ → Prop) (u : Value) (H : Nat → Prop) (w : World) (v : Value) (s : σ × τ) : Prop := ∃ F G, I F w v s.1 ∧ J G w u s.2 ∧ (∀ k, F k → ¬ G k) ∧ ∀ k, H k ↔ F k ∨ G k
section
variable {σ τ : Type} {I : (Nat → Prop) → World → Value → σ → Prop} {J : (Nat → Prop) → World → Value → τ → Prop} {u v : Value} {H F G F' G' : Nat → Prop} {w w' : World} {s s' : σ} {t t' : τ}
theorem pairbase (hI : ObjBase I) (hJ : ObjBase J) (u : Value) : ObjBase (PairI I J u) := by
  refine ⟨?_, ?_, ?_⟩
  · rintro H w w' v st ⟨F, G, h1, h2, h3, h4⟩ hs hb
    exact ⟨F, G, hI.stay h1 hs (fun k hk => hb k ((h4 k).2 (Or.inl hk))), hJ.stay h2 hs (fun k hk => hb k ((h4 k).2 (Or.inr hk))), h3, h4⟩
  · rintro H w v st ⟨F, G, h1, h2, h3, h4⟩ k hk
    exact ((h4 k).1 hk).elim (hI.lt h1 k) (hJ.lt h2 k)
  · rintro H w v _ ⟨F, G, h1, _, _, _⟩
    exact hI.ptr h1
theorem KeptD.pair (hK : KeptD I J F G w v u F' G' w' s' t') (hH : ∀ k, H k ↔ F k ∨ G k) : KeptG (PairI I J u) H w v (fun k => F' k ∨ G' k) w' (s', t') :=
  ⟨⟨F', G', hK.one, hK.two, hK.dis, fun _ => Iff.rfl⟩, fun k hk => hk.elim (fun h => (hK.sub1 k h).imp (fun h => (hH k).2 (Or.inl h)) id) (fun h => (hK.sub2 k h).imp (fun h => (hH k).2 (Or.inr h)) id), hK.off.mono (fun k hk => Or.inl ((hH k).2 hk))⟩
/-- A call on the second alone. -/
theorem KeptG.pair2 (hI : ObjBase I) (hK : KeptG J G w u G' w' t') (h1 : I F w v s) (hd : ∀ k, F k → ¬ G k) (hH : ∀ k, H k ↔ F k ∨ G k) : KeptG (PairI I J u) H w v (fun k => F k ∨ G' k) w' (s, t') :=
  ⟨⟨F, G', hI.keep h1 hK.off hd, hK.inv, fun k hf hg => (hK.sub k hg).elim (hd k hf) (fun e => absurd (hI.lt h1 k hf) (Nat.not_lt.2 e)), fun _ => Iff.rfl⟩, fun k hk => hk.elim (fun h => Or.inl ((hH k).2 (Or.inl h))) (fun h => (hK.sub k h).imp (fun h => (hH k).2 (Or.inr h)) id), hK.off.mono (fun k hk => Or.inl ((hH k).2 (Or.inr hk)))⟩
/-- The first made behind the second. -/
theorem ObjIn.pair (hJ : ObjBase J) {w0 : World} (M : ObjIn J w0 G u t w) (h1 : I F w' v s) (hF : ∀ k, F k → w.heap.size ≤ k) (hb : Below w.heap.size w w') : ObjIn (PairI I J u) w0 (fun k => F k ∨ G k) v (s, t) w' :=
  ⟨⟨F, G, h1, hJ.below M.inv hb, fun k hf hg => absurd (hJ.lt M.inv k hg) (Nat.not_lt.2 (hF k hf)), fun _ => Iff.rfl⟩, fun k hk => hk.elim (fun h => Nat.le_trans M.hB.size (hF k h)) (M.hF k), M.hB.trans (hb.mono M.hB.size)⟩
/-- The first of two apart has one more made to it. -/
theorem Duo.pairOne {υ : Type} {K : (Nat → Prop) → World → Value → υ → Prop} {G2 : Nat → Prop} {u2 : Value} {t2 : υ} (hJ : ObjBase J) (hK : ObjBase K) {w0 : World} (M : Duo J K w0 G u t G2 u2 t2 w) (h1 : I F w' v s) (hF : ∀ k, F k → w.heap.size ≤ k) (hb : Below w.heap.size w w') : Duo (PairI I J u) K w0 (fun k => F k ∨ G k) v (s, t) G2 u2 t2 w' :=
  have M' := M.quiet hJ hK hb
  ⟨⟨F, G, h1, M'.one, fun k hf hg => absurd (hJ.lt M.one k hg) (Nat.not_lt.2 (hF k hf)), fun _ => Iff.rfl⟩, M'.two, fun k hk hg => hk.elim (fun h => absurd (hK.lt M.two k hg) (Nat.not_lt.2 (hF k h))) (fun h => M.dis k h hg),
    fun k hk => hk.elim (fun h => Nat.le_trans M.hB.size (hF k h)) (M.hF k), M.hG, M'.hB⟩
end
end Go.Proofs.Ytcfbdbjonmjplaa
