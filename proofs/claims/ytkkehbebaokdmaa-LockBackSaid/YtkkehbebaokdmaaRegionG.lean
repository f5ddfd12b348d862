/- Two chains of two operations each that make memory, in whatever order: what a struct literal with two copies of slices comes to. -/
import Derived.Test.YtkkehbebaokdmaaRegionX
import Derived.Below
namespace Go.Proofs.Ytkkehbebaokdmaa
open Go.RowKit
set_option maxRecDepth 20000
section
variable {P : Program} {ops : Array Oper} {Q : Exit → Act → World → Prop} {md : Region.Mode} {S : World → Prop} {last : Nat}
variable {fuel : Nat} {listed : Array Bool} {d : List Deferred}

theorem opX (i : Nat) {oi : Oper} {a : Act} {w : World} {K : Act → World → Prop} (hi : ops[i]? = some oi) (hg : oi.guard = none) (h : Oper.wp P oi a w K Q) : wpOp P ops Q i K a w := by
  have hw : Region.wanted oi (yielded ops a.tmps) = true := by simp [Region.wanted, hg]
  unfold wpOp
  simp only [hi, hw, if_true]
  exact Or.inl h
theorem oneX {a : Act} {w : World} (i : Nat) {oi : Oper} (hi : ops[i]? = some oi) (hg : oi.guard = none) (hr : Region.ready md ops listed = [i])
    (h : Oper.wp P oi a w (fun a' w' => (i ≠ last → S w') ∧ wpAnyX P md ops Q S last fuel (listed.setIfInBounds i true) a' w') Q) : wpAnyX P md ops Q S last (fuel + 1) listed a w := by
  refine ⟨fun h0 => (by rw [hr] at h0; cases h0), fun j hj => ?_⟩
  rw [hr] at hj
  obtain rfl : j = i := by simpa using hj
  exact opX j hi hg h
theorem twoX {a : Act} {w : World} (i j : Nat) {oi oj : Oper} (hi : ops[i]? = some oi) (hgi : oi.guard = none) (hj : ops[j]? = some oj) (hgj : oj.guard = none) (hr : Region.ready md ops listed = [i, j])
    (h1 : Oper.wp P oi a w (fun a' w' => (i ≠ last → S w') ∧ wpAnyX P md ops Q S last fuel (listed.setIfInBounds i true) a' w') Q)
    (h2 : Oper.wp P oj a w (fun a' w' => (j ≠ last → S w') ∧ wpAnyX P md ops Q S last fuel (listed.setIfInBounds j true) a' w') Q) : wpAnyX P md ops Q S last (fuel + 1) listed a w := by
  refine ⟨fun h0 => (by rw [hr] at h0; cases h0), fun k hk => ?_⟩
  rw [hr] at hk
  simp only [List.mem_cons, List.not_mem_nil, or_false] at hk
  rcases hk with rfl | rfl
  · exact opX k hi hgi h1
  · exact opX k hj hgj h2

/-- An operation that makes memory: whatever world meets I, it answers a value of which A holds, and all that was there stays. -/
def Makes (P : Program) (Q : Exit → Act → World → Prop) (o : Oper) (k : Nat) (d : List Deferred) (I : List Value → World → Prop) (A : Value → World → Prop) : Prop :=
  ∀ (t : List Value) (w : World) (K : Act → World → Prop), I t w → (∀ v w', Below w.heap.size w w' → A v w' → K ⟨(t.set k v).toArray, d⟩ w') → Oper.wp P o ⟨t.toArray, d⟩ w K Q
/-- But for these four slots t' is t. -/
def But (t t' : List Value) (a b c e : Nat) : Prop := t'.length = t.length ∧ ∀ s, s ≠ a → s ≠ b → s ≠ c → s ≠ e → t'[s]? = t[s]?

/-- Two copies, one behind the other: a1, a2 (which takes what a1 made), b1, b2 (which takes what b1 made, and waits for a2). -/
theorem gridC {t : List Value} {w0 : World} (i1 i2 j1 j2 k1 k2 l1 l2 : Nat) {a1 a2 b1 b2 : Oper}
    (ha1 : ops[i1]? = some a1) (ha2 : ops[i2]? = some a2) (hb1 : ops[j1]? = some b1) (hb2 : ops[j2]? = some b2) (ga1 : a1.guard = none) (ga2 : a2.guard = none) (gb1 : b1.guard = none) (gb2 : b2.guard = none)
    (r00 : Region.ready md ops listed = [i1, j1]) (r10 : Region.ready md ops (listed.setIfInBounds i1 true) = [i2, j1]) (r01 : Region.ready md ops (listed.setIfInBounds j1 true) = [i1])
    (r20 : Region.ready md ops ((listed.setIfInBounds i1 true).setIfInBounds i2 true) = [j1]) (r11 : Region.ready md ops ((listed.setIfInBounds i1 true).setIfInBounds j1 true) = [i2])
    (r21 : Region.ready md ops (((listed.setIfInBounds i1 true).setIfInBounds i2 true).setIfInBounds j1 true) = [j2])
    (hik : k1 ≠ k2 ∧ k1 ≠ l1 ∧ k1 ≠ l2 ∧ k2 ≠ l1 ∧ k2 ≠ l2 ∧ l1 ≠ l2) (hij : i1 ≠ i2 ∧ i1 ≠ j1 ∧ i2 ≠ j1) (hlen : k1 < t.length ∧ l1 < t.length)
    (A1 A2 B1 B2 : Value → World → Prop) (sA1 : ∀ v w w', A1 v w → Below w.heap.size w w' → A1 v w') (sA2 : ∀ v w w', A2 v w → Below w.heap.size w w' → A2 v w') (sB1 : ∀ v w w', B1 v w → Below w.heap.size w w' → B1 v w')
    (hS : ∀ w, Below w0.heap.size w0 w → S w)
    (mA1 : Makes P Q a1 k1 d (fun t' w => But t t' k1 k2 l1 l2 ∧ Below w0.heap.size w0 w) A1)
    (mA2 : Makes P Q a2 k2 d (fun t' w => But t t' k1 k2 l1 l2 ∧ Below w0.heap.size w0 w ∧ ∃ v, t'[k1]? = some v ∧ A1 v w) A2)
    (mB1 : Makes P Q b1 l1 d (fun t' w => But t t' k1 k2 l1 l2 ∧ Below w0.heap.size w0 w) B1)
    (mB2 : Makes P Q b2 l2 d (fun t' w => But t t' k1 k2 l1 l2 ∧ Below w0.heap.size w0 w ∧ ∃ v, t'[l1]? = some v ∧ B1 v w) B2)
    (fin : ∀ v1 v2 u1 u2 w, Below w0.heap.size w0 w → A2 v2 w → B2 u2 w → wpAnyX P md ops Q S last fuel ((((listed.setIfInBounds i1 true).setIfInBounds i2 true).setIfInBounds j1 true).setIfInBounds j2 true) ⟨((((t.set k1 v1).set k2 v2).set l1 u1).set l2 u2).toArray, d⟩ w) :
    wpAnyX P md ops Q S last (fuel + 1 + 1 + 1 + 1) listed ⟨t.toArray, d⟩ w0 := by
  obtain ⟨n12, n13, n14, n23, n24, n34⟩ := hik
  obtain ⟨m12, m13, m23⟩ := hij
  obtain ⟨q1, q3⟩ := hlen
  have but0 : But t t k1 k2 l1 l2 := ⟨rfl, fun _ _ _ _ _ => rfl⟩
  have butS : ∀ {t' : List Value} (k : Nat) (v : Value), But t t' k1 k2 l1 l2 → k = k1 ∨ k = k2 ∨ k = l1 ∨ k = l2 → But t (t'.set k v) k1 k2 l1 l2 := fun {t'} k v h hk => ⟨by rw [List.length_set]; exact h.1, fun s h1 h2 h3 h4 => by
    rw [List.getElem?_set_ne (by rcases hk with rfl | rfl | rfl | rfl <;> exact fun e => (by first | exact h1 e.symm | exact h2 e.symm | exact h3 e.symm | exact h4 e.symm))]
    exact h.2 s h1 h2 h3 h4⟩
  have getS : ∀ {t' : List Value} (k : Nat) (v : Value), t'.length = t.length → k < t.length → (t'.set k v)[k]? = some v := fun {t'} k v h hk => by
    rw [List.getElem?_set_self (by omega)]
  have getO : ∀ {t' : List Value} (k s : Nat) (v u : Value), k ≠ s → t'[s]? = some u → (t'.set k v)[s]? = some u := fun {t'} k s v u h hs => by
    rw [List.getElem?_set_ne h]
    exact hs
  have b0 := Below.refl w0.heap.size w0
  refine twoX i1 j1 ha1 ga1 hb1 gb1 r00 (mA1 t w0 _ ⟨but0, b0⟩ fun v1 w1 h1 p1 => ?_) (mB1 t w0 _ ⟨but0, b0⟩ fun u1 w1 h1 p1 => ?_)
  · have c1 := b0.trans h1
    have e1 := butS k1 v1 but0 (Or.inl rfl)
    refine ⟨fun _ => hS _ c1, twoX i2 j1 ha2 ga2 hb1 gb1 r10 (mA2 _ w1 _ ⟨e1, c1, v1, getS k1 v1 rfl q1, p1⟩ fun v2 w2 h2 p2 => ?_) (mB1 _ w1 _ ⟨e1, c1⟩ fun u1 w2 h2 p2 => ?_)⟩
    · have c2 := c1.trans (h2.mono c1.size)
      have e2 := butS k2 v2 e1 (Or.inr (Or.inl rfl))
      refine ⟨fun _ => hS _ c2, oneX j1 hb1 gb1 r20 (mB1 _ w2 _ ⟨e2, c2⟩ fun u1 w3 h3 p3 => ?_)⟩
      have c3 := c2.trans (h3.mono c2.size)
      have e3 := butS l1 u1 e2 (Or.inr (Or.inr (Or.inl rfl)))
      refine ⟨fun _ => hS _ c3, oneX j2 hb2 gb2 r21 (mB2 _ w3 _ ⟨e3, c3, u1, getS l1 u1 e2.1 q3, p3⟩ fun u2 w4 h4 p4 => ?_)⟩
      have c4 := c3.trans (h4.mono c3.size)
      exact ⟨fun _ => hS _ c4, fin v1 v2 u1 u2 w4 c4 (sA2 _ _ _ (sA2 _ _ _ p2 h3) h4) p4⟩
    · have c2 := c1.trans (h2.mono c1.size)
      have e2 := butS l1 u1 e1 (Or.inr (Or.inr (Or.inl rfl)))
      have g1 := getO l1 k1 u1 v1 (Ne.symm n13) (getS k1 v1 rfl q1)
      refine ⟨fun _ => hS _ c2, oneX i2 ha2 ga2 r11 (mA2 _ w2 _ ⟨e2, c2, v1, g1, sA1 _ _ _ p1 h2⟩ fun v2 w3 h3 p3 => ?_)⟩
      have c3 := c2.trans (h3.mono c2.size)
      have e3 := butS k2 v2 e2 (Or.inr (Or.inl rfl))
      have r : Region.ready md ops (((listed.setIfInBounds i1 true).setIfInBounds j1 true).setIfInBounds i2 true) = [j2] := by rw [Array.setIfInBounds_comm (i := j1) (j := i2) _ _ (Ne.symm m23)]; exact r21
      refine ⟨fun _ => hS _ c3, oneX j2 hb2 gb2 r (mB2 _ w3 _ ⟨e3, c3, u1, getO k2 l1 v2 u1 n23 (getS l1 u1 e1.1 q3), sB1 _ _ _ p2 h3⟩ fun u2 w4 h4 p4 => ?_)⟩
      have c4 := c3.trans (h4.mono c3.size)
      refine ⟨fun _ => hS _ c4, ?_⟩
      rw [Array.setIfInBounds_comm (i := j1) (j := i2) _ _ (Ne.symm m23), List.set_comm (i := l1) (j := k2) _ _ (Ne.symm n23)]
      exact fin v1 v2 u1 u2 w4 c4 (sA2 _ _ _ p3 h4) p4
  · have c1 := b0.trans h1
    have e1 := butS l1 u1 but0 (Or.inr (Or.inr (Or.inl rfl)))
    refine ⟨fun _ => hS _ c1, oneX i1 ha1 ga1 r01 (mA1 _ w1 _ ⟨e1, c1⟩ fun v1 w2 h2 p2 => ?_)⟩
    have c2 := c1.trans (h2.mono c1.size)
    have e2 := butS k1 v1 e1 (Or.inl rfl)
    have g1 := getO k1 l1 v1 u1 n13 (getS l1 u1 rfl q3)
    have r : Region.ready md ops ((listed.setIfInBounds j1 true).setIfInBounds i1 true) = [i2] := by rw [Array.setIfInBounds_comm (i := j1) (j := i1) _ _ (Ne.symm m13)]; exact r11
    refine ⟨fun _ => hS _ c2, oneX i2 ha2 ga2 r (mA2 _ w2 _ ⟨e2, c2, v1, getS k1 v1 e1.1 q1, p2⟩ fun v2 w3 h3 p3 => ?_)⟩
    have c3 := c2.trans (h3.mono c2.size)
    have e3 := butS k2 v2 e2 (Or.inr (Or.inl rfl))
    have r : Region.ready md ops (((listed.setIfInBounds j1 true).setIfInBounds i1 true).setIfInBounds i2 true) = [j2] := by rw [Array.setIfInBounds_comm (i := j1) (j := i1) _ _ (Ne.symm m13), Array.setIfInBounds_comm (i := j1) (j := i2) _ _ (Ne.symm m23)]; exact r21
    refine ⟨fun _ => hS _ c3, oneX j2 hb2 gb2 r (mB2 _ w3 _ ⟨e3, c3, u1, getO k2 l1 v2 u1 n23 g1, sB1 _ _ _ (sB1 _ _ _ p1 h2) h3⟩ fun u2 w4 h4 p4 => ?_)⟩
    have c4 := c3.trans (h4.mono c3.size)
    refine ⟨fun _ => hS _ c4, ?_⟩
    rw [Array.setIfInBounds_comm (i := j1) (j := i1) _ _ (Ne.symm m13), Array.setIfInBounds_comm (i := j1) (j := i2) _ _ (Ne.symm m23), List.set_comm (i := l1) (j := k1) _ _ (Ne.symm n13), List.set_comm (i := l1) (j := k2) _ _ (Ne.symm n23)]
    exact fin v1 v2 u1 u2 w4 c4 (sA2 _ _ _ p3 h4) p4
end
end Go.Proofs.Ytkkehbebaokdmaa
