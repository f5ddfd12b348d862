/- Objects: what a statement asks of one, whatever memory it has. -/
import Derived.Test.YtfneckhjhjmopaaOffA
import Derived.Test.YtfneckhjhjmopaaHid
namespace Go.Proofs.Ytfneckhjhjmopaa
open Go.RowKit
set_option maxRecDepth 20000

/-- An invariant of an object: it hangs on the blocks of F alone. -/
structure ObjBase {σ : Type} (Inv : (Nat → Prop) → World → Value → σ → Prop) : Prop where
  stay : ∀ {F : Nat → Prop} {w w' : World} {v : Value} {st : σ}, Inv F w v st → w.heap.size ≤ w'.heap.size → (∀ k, F k → w'.heap[k]? = w.heap[k]?) → Inv F w' v st
  lt : ∀ {F : Nat → Prop} {w : World} {v : Value} {st : σ}, Inv F w v st → ∀ k, F k → k < w.heap.size
  ptr : ∀ {F : Nat → Prop} {w : World} {v : Value} {st : σ}, Inv F w v st → ∃ a, v = .pointer (some a)
/-- Behind a call on an object: what it has now, and what has turned. -/
structure KeptG {σ : Type} (Inv : (Nat → Prop) → World → Value → σ → Prop) (F : Nat → Prop) (w : World) (v : Value) (F' : Nat → Prop) (w' : World) (st' : σ) : Prop where
  inv : Inv F' w' v st'
  sub : ∀ k, F' k → F k ∨ w.heap.size ≤ k
  off : Off F w w'
variable {σ : Type} {Inv : (Nat → Prop) → World → Value → σ → Prop}
theorem ObjBase.keep (h : ObjBase Inv) {F G : Nat → Prop} {w w' : World} {v : Value} {st : σ} (hI : Inv F w v st) (hb : Off G w w') (hd : ∀ k, F k → ¬ G k) : Inv F w' v st :=
  h.stay hI hb.size (fun k hk => hb.block k (h.lt hI k hk) (hd k hk))
theorem ObjBase.below (h : ObjBase Inv) {F : Nat → Prop} {w w' : World} {v : Value} {st : σ} (hI : Inv F w v st) (hb : Below w.heap.size w w') : Inv F w' v st :=
  h.keep hI (Off.of_below (F := fun _ => False) hb) (fun _ _ h => h)
theorem ObjBase.kept (h : ObjBase Inv) {F : Nat → Prop} {w w' : World} {v : Value} {st : σ} (hI : Inv F w v st) (hb : Below w.heap.size w w') : KeptG Inv F w v F w' st := ⟨h.below hI hb, fun _ h => Or.inl h, Off.of_below hb⟩
/-- An object made by the statement, with all that came ahead of it as it was. -/
structure ObjIn (Inv : (Nat → Prop) → World → Value → σ → Prop) (w : World) (F : Nat → Prop) (v : Value) (st : σ) (wr : World) : Prop where
  inv : Inv F wr v st
  hF : ∀ k, F k → w.heap.size ≤ k
  hB : Below w.heap.size w wr
theorem ObjIn.o {w : World} {F F' : Nat → Prop} {v : Value} {st st' : σ} {wr wr' : World} (h : ObjIn Inv w F v st wr) (hK : KeptG Inv F wr v F' wr' st') : ObjIn Inv w F' v st' wr' :=
  ⟨hK.inv, fun k hk => (hK.sub k hk).elim (h.hF k) (fun e => Nat.le_trans h.hB.size e), h.hB.trans (hK.off.below h.hF h.hB.size)⟩
theorem ObjIn.quiet (hO : ObjBase Inv) {w : World} {F : Nat → Prop} {v : Value} {st : σ} {wr wr' : World} (h : ObjIn Inv w F v st wr) (hb : Below wr.heap.size wr wr') : ObjIn Inv w F v st wr' :=
  ⟨hO.below h.inv hb, h.hF, h.hB.trans (hb.mono h.hB.size)⟩
theorem ObjIn.off (hO : ObjBase Inv) {w : World} {F G : Nat → Prop} {v : Value} {st : σ} {wr wr' : World} (h : ObjIn Inv w F v st wr) (hb : Off G wr wr') (hd : ∀ k, F k → ¬ G k) (hG : ∀ k, G k → w.heap.size ≤ k) : ObjIn Inv w F v st wr' :=
  ⟨hO.keep h.inv hb hd, h.hF, h.hB.trans (hb.below hG h.hB.size)⟩
/-- A block of cells that was made. -/
def CBox (T : TypeId) (w : World) (b : Nat) (cs : Array Value) : Prop := w.heap[b]? = some (.cells cs T (0, 0))
theorem CBox.new (T : TypeId) (w : World) (cs : Array Value) : CBox T (w.alloc (.cells cs T)) w.heap.size cs := by
  show (w.heap.push _)[w.heap.size]? = _
  simp
theorem CBox.lt {T : TypeId} {w : World} {b : Nat} {cs : Array Value} (h : CBox T w b cs) : b < w.heap.size := by
  obtain ⟨hlt, _⟩ := Array.getElem?_eq_some_iff.1 h
  exact hlt
theorem CBox.cell {T : TypeId} {w : World} {b : Nat} {cs : Array Value} (h : CBox T w b cs) (i : Nat) : w.cell? ⟨b, i, none⟩ = cs[i]? := by unfold CBox at h; simp [World.cell?, h]
theorem CBox.frozen {T : TypeId} {w : World} {b : Nat} {cs : Array Value} (h : CBox T w b cs) (i : Nat) : w.frozen? ⟨b, i, none⟩ = false := by unfold CBox at h; simp [World.frozen?, h]
theorem CBox.grown {T : TypeId} {w w' : World} {b : Nat} {cs : Array Value} (h : CBox T w b cs) (hb : Below w.heap.size w w') : CBox T w' b cs := (hb.block b h.lt).trans h
theorem CBox.off {T : TypeId} {w w' : World} {b : Nat} {cs : Array Value} {F : Nat → Prop} (h : CBox T w b cs) (hb : Off F w w') (hn : ¬ F b) : CBox T w' b cs := off_block h hb hn
theorem CBox.put {T : TypeId} {w : World} {b : Nat} {cs : Array Value} (h : CBox T w b cs) (i : Nat) (v : Value) : CBox T (w.setCell ⟨b, i, none⟩ v) b (cs.setIfInBounds i v) := by
  unfold CBox at h ⊢
  simp [World.setCell, Array.getElem?_modify, h]
end Go.Proofs.Ytfneckhjhjmopaa
