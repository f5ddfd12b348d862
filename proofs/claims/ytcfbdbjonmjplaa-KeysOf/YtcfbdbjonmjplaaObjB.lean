/- Two objects apart from each other, in memory of their own. -/
import Derived.Test.YtcfbdbjonmjplaaObjA
namespace Go.Proofs.Ytcfbdbjonmjplaa
open Go.RowKit
set_option maxRecDepth 20000

structure Duo {σ τ : Type} (I : (Nat → Prop) → World → Value → σ → Prop) (J : (Nat → Prop) → World → Value → τ → Prop) (w : World) (F : Nat → Prop) (v : Value) (s : σ) (G : Nat → Prop) (u : Value) (t : τ) (wr : World) : Prop where
  one : I F wr v s
  two : J G wr u t
  dis : ∀ k, F k → ¬ G k
  hF : ∀ k, F k → w.heap.size ≤ k
  hG : ∀ k, G k → w.heap.size ≤ k
  hB : Below w.heap.size w wr
section
variable {σ τ : Type} {I : (Nat → Prop) → World → Value → σ → Prop} {J : (Nat → Prop) → World → Value → τ → Prop} {w wr wr' : World} {F G : Nat → Prop} {v u : Value} {s : σ} {t : τ}
theorem Duo.o1 (hJ : ObjBase J) (h : Duo I J w F v s G u t wr) {F' : Nat → Prop} {s' : σ} (hK : KeptG I F wr v F' wr' s') : Duo I J w F' v s' G u t wr' :=
  ⟨hK.inv, hJ.keep h.two hK.off (fun k hg hf => h.dis k hf hg), fun k hf hg => (hK.sub k hf).elim (fun e => h.dis k e hg) (fun e => by have := hJ.lt h.two k hg; omega),
    fun k hk => (hK.sub k hk).elim (h.hF k) (fun e => Nat.le_trans h.hB.size e), h.hG, h.hB.trans (hK.off.below h.hF h.hB.size)⟩
theorem Duo.o2 (hI : ObjBase I) (h : Duo I J w F v s G u t wr) {G' : Nat → Prop} {t' : τ} (hK : KeptG J G wr u G' wr' t') : Duo I J w F v s G' u t' wr' :=
  ⟨hI.keep h.one hK.off h.dis, hK.inv, fun k hf hg => (hK.sub k hg).elim (h.dis k hf) (fun e => by have := hI.lt h.one k hf; omega),
    h.hF, fun k hk => (hK.sub k hk).elim (h.hG k) (fun e => Nat.le_trans h.hB.size e), h.hB.trans (hK.off.below h.hG h.hB.size)⟩
theorem Duo.off (hI : ObjBase I) (hJ : ObjBase J) (h : Duo I J w F v s G u t wr) {H : Nat → Prop} (hoff : Off H wr wr') (h1 : ∀ k, F k → ¬ H k) (h2 : ∀ k, G k → ¬ H k) (h3 : ∀ k, H k → w.heap.size ≤ k) : Duo I J w F v s G u t wr' :=
  ⟨hI.keep h.one hoff h1, hJ.keep h.two hoff h2, h.dis, h.hF, h.hG, h.hB.trans (hoff.below h3 h.hB.size)⟩
theorem Duo.quiet (hI : ObjBase I) (hJ : ObjBase J) (h : Duo I J w F v s G u t wr) (hb : Below wr.heap.size wr wr') : Duo I J w F v s G u t wr' :=
  h.off hI hJ (Off.of_below (F := fun _ => False) hb) (fun _ _ h => h) (fun _ _ h => h) (fun _ h => h.elim)
/-- A block that is made now is neither's. -/
theorem Duo.new (hI : ObjBase I) (hJ : ObjBase J) (h : Duo I J w F v s G u t wr) : ¬ F wr.heap.size ∧ ¬ G wr.heap.size ∧ w.heap.size ≤ wr.heap.size := ⟨fun e => Nat.lt_irrefl _ (hI.lt h.one _ e), fun e => Nat.lt_irrefl _ (hJ.lt h.two _ e), h.hB.size⟩
/-- The second object made behind the first one. -/
theorem ObjIn.duo (hI : ObjBase I) (h : ObjIn I w F v s wr) (hj : J G wr' u t) (hG : ∀ k, G k → wr.heap.size ≤ k) (hb : Below wr.heap.size wr wr') : Duo I J w F v s G u t wr' :=
  ⟨hI.below h.inv hb, hj, fun k hf hg => by have := hI.lt h.inv k hf; have := hG k hg; omega, h.hF, fun k hk => Nat.le_trans h.hB.size (hG k hk), h.hB.trans (hb.mono h.hB.size)⟩
end
end Go.Proofs.Ytcfbdbjonmjplaa
