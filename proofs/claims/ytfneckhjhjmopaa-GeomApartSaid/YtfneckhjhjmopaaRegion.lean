/- A statement whose order Go leaves open, walked in the text's order: plain laws on such regions. -/
import Derived.Deep.RegionHeld
import Derived.BigRegion
namespace Go.Proofs.Ytfneckhjhjmopaa
open Go.RowKit
set_option maxRecDepth 20000
section
variable {P : Program} {ops : Array Oper} {Q : Exit → Act → World → Prop} {md : Region.Mode} {S S' : World → Prop}

/-- What is asked of every world may be made more on the way. -/
theorem held_more (hS : ∀ w, S' w → S w) : ∀ (fuel : Nat) (listed : Array Bool) (a : Act) (w : World), wpAnyH P md ops Q S' fuel listed a w → wpAnyH P md ops Q S fuel listed a w
  | 0, _, _, _, h => h
  | fuel + 1, _, _, _, h => ⟨h.1, fun i hi => wpOp_mono (fun a' w' h' => ⟨hS _ h'.1, held_more hS fuel _ a' w' h'.2⟩) (h.2 i hi)⟩

variable {fuel : Nat} {listed : Array Bool} {t : List Value} {d : List Deferred} {w : World}

/-- An operation that yields its value in every world that meets S comes up first. -/
theorem takeL (i k : Nat) {oi : Oper} {v : Value} (hi : ops[i]? = some oi) (hd : oi.dst = some k)
    (hs : Region.noSelect ops = true) (hf : Region.free md ops listed i = true) (hr : (Region.ready md ops listed).contains i = true)
    (hQ : ∀ c a w, Q (.panic c) (a.put oi.dst v) w → Q (.panic c) a w) (hw : Region.wanted oi (yielded ops t.toArray) = true) (hS : S w)
    (hy : ∀ w, S w → (execOp (Act.eval ⟨t.toArray, d⟩) oi).run P w = .ok (.value v) w)
    (h : wpAnyH P md ops Q S fuel (listed.setIfInBounds i true) ⟨(t.set k v).toArray, d⟩ w) : wpAnyH P md ops Q S (fuel + 1) listed ⟨t.toArray, d⟩ w := by
  refine wpAnyH_take hi hs hf hr hQ (Or.inl ⟨hw, hy⟩) hS ?_
  have e : Act.put ⟨t.toArray, d⟩ oi.dst v = ⟨(t.set k v).toArray, d⟩ := by simp [hd, Act.put]
  rw [e]
  exact h

theorem eval_slot {x : Nat} {v : Value} (hv : t[x]? = some v) : Act.eval ⟨t.toArray, d⟩ (.tmp x) = v := by
  simp [Act.eval, hv]
/-- A copy of a slot. -/
theorem takeM (i k x : Nat) {oi : Oper} {v : Value} (hi : ops[i]? = some oi) (hd : oi.dst = some k) (ho : oi.op = .move (.tmp x))
    (hs : Region.noSelect ops = true) (hf : Region.free md ops listed i = true) (hr : (Region.ready md ops listed).contains i = true)
    (hQ : ∀ c a w, Q (.panic c) (a.put oi.dst v) w → Q (.panic c) a w) (hw : Region.wanted oi (yielded ops t.toArray) = true) (hS : S w)
    (hv : t[x]? = some v)
    (h : wpAnyH P md ops Q S fuel (listed.setIfInBounds i true) ⟨(t.set k v).toArray, d⟩ w) : wpAnyH P md ops Q S (fuel + 1) listed ⟨t.toArray, d⟩ w :=
  takeL i k hi hd hs hf hr hQ hw hS (fun w _ => by rw [BigFrame.run_move _ ho w, eval_slot hv]) h
theorem takeA (i k x : Nat) {oi : Oper} {v : Value} (hi : ops[i]? = some oi) (hd : oi.dst = some k) (ho : oi.op = .assign (.tmp x))
    (hs : Region.noSelect ops = true) (hf : Region.free md ops listed i = true) (hr : (Region.ready md ops listed).contains i = true)
    (hQ : ∀ c a w, Q (.panic c) (a.put oi.dst v) w → Q (.panic c) a w) (hw : Region.wanted oi (yielded ops t.toArray) = true) (hS : S w)
    (hv : t[x]? = some v)
    (h : wpAnyH P md ops Q S fuel (listed.setIfInBounds i true) ⟨(t.set k v).toArray, d⟩ w) : wpAnyH P md ops Q S (fuel + 1) listed ⟨t.toArray, d⟩ w :=
  takeL i k hi hd hs hf hr hQ hw hS (fun w _ => by rw [BigFrame.run_assign _ ho w, eval_slot hv]) h

/-- An operation that its guard passes over. -/
theorem takeN (i k : Nat) {oi : Oper} (hi : ops[i]? = some oi) (hd : oi.dst = some k)
    (hs : Region.noSelect ops = true) (hf : Region.free md ops listed i = true) (hr : (Region.ready md ops listed).contains i = true)
    (hQ : ∀ c a w, Q (.panic c) (a.put oi.dst undef) w → Q (.panic c) a w) (hw : Region.wanted oi (yielded ops t.toArray) = false) (hS : S w)
    (h : wpAnyH P md ops Q S fuel (listed.setIfInBounds i true) ⟨(t.set k undef).toArray, d⟩ w) : wpAnyH P md ops Q S (fuel + 1) listed ⟨t.toArray, d⟩ w := by
  refine wpAnyH_take hi hs hf hr hQ (Or.inr ⟨hw, rfl⟩) hS ?_
  have e : Act.put ⟨t.toArray, d⟩ oi.dst undef = ⟨(t.set k undef).toArray, d⟩ := by simp [hd, Act.put]
  rw [e]
  exact h

/-- The one operation that may come up now. -/
theorem onlyL (i : Nat) {oi : Oper} (hi : ops[i]? = some oi) (hr : Region.ready md ops listed = [i]) (hw : Region.wanted oi (yielded ops t.toArray) = true)
    (h : ∀ K : Act → World → Prop, Shut (∀ a w, S w → (S w → wpAnyH P md ops Q S fuel (listed.setIfInBounds i true) a w) → K a w) → Oper.wp P oi ⟨t.toArray, d⟩ w K Q) :
    wpAnyH P md ops Q S (fuel + 1) listed ⟨t.toArray, d⟩ w := by
  refine wpAnyH_ready (rs := [i]) hr (by simp) (AllReadyH.cons hi (fun K hK => ?_) AllReadyH.nil)
  rw [if_pos hw]
  exact h K hK

/-- Two operations may come up now. -/
theorem twoL (i j : Nat) {oi oj : Oper} (hi : ops[i]? = some oi) (hj : ops[j]? = some oj) (hr : Region.ready md ops listed = [i, j]) (hwi : Region.wanted oi (yielded ops t.toArray) = true) (hwj : Region.wanted oj (yielded ops t.toArray) = true)
    (h1 : ∀ K : Act → World → Prop, Shut (∀ a w, S w → (S w → wpAnyH P md ops Q S fuel (listed.setIfInBounds i true) a w) → K a w) → Oper.wp P oi ⟨t.toArray, d⟩ w K Q)
    (h2 : ∀ K : Act → World → Prop, Shut (∀ a w, S w → (S w → wpAnyH P md ops Q S fuel (listed.setIfInBounds j true) a w) → K a w) → Oper.wp P oj ⟨t.toArray, d⟩ w K Q) :
    wpAnyH P md ops Q S (fuel + 1) listed ⟨t.toArray, d⟩ w := by
  refine wpAnyH_ready (rs := [i, j]) hr (by simp) (AllReadyH.cons hi (fun K hK => ?_) (AllReadyH.cons hj (fun K hK => ?_) AllReadyH.nil))
  · rw [if_pos hwi]; exact h1 K hK
  · rw [if_pos hwj]; exact h2 K hK
end
end Go.Proofs.Ytfneckhjhjmopaa
