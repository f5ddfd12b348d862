/- Two calls on one object, each of a row that is laid for it alone, in a statement whose order Go leaves open. -/
import Derived.Test.YtkkehbebaokdmaaRegionG
namespace Go.Proofs.Ytkkehbebaokdmaa
open Go.RowKit
set_option maxRecDepth 20000
section
variable {P : Program} {ops : Array Oper} {Q : Exit → Act → World → Prop} {md : Region.Mode} {S : World → Prop} {fuel : Nat} {listed : Array Bool} {d : List Deferred}

theorem wanted_plain {o : Oper} (h : o.guard = none) (y : Nat → Option Bool) : Region.wanted o y = true := by simp [Region.wanted, h]
theorem wanted_but {t t' : List Value} {a b c e : Nat} (hb : But t t' a b c e) {o : Oper} (j s : Nat) {p : Bool} (hg : o.guard = some (j, p)) (hj : (ops[j]?).bind (·.dst) = some s) (h1 : s ≠ a) (h2 : s ≠ b) (h3 : s ≠ c) (h4 : s ≠ e) (h : Region.wanted o (yielded ops t.toArray) = true) : Region.wanted o (yielded ops t'.toArray) = true := by
  have e : yielded ops t'.toArray j = yielded ops t.toArray j := by simp [yielded, hj, hb.2 s h1 h2 h3 h4]
  simpa [Region.wanted, hg, e] using h
/-- Two calls, one behind the other, each of what an operation of its own made ahead of it: a1 makes what a2 takes, b1 makes what b2 takes; b2 waits for a2. J0, J1, J2: what holds ahead of a2, behind it, behind b2; G: what an object owns then. -/
theorem gridE {t : List Value} {w0 : World} (i1 i2 j1 j2 k1 k2 l1 l2 : Nat) {a1 a2 b1 b2 : Oper}
    (ha1 : ops[i1]? = some a1) (ha2 : ops[i2]? = some a2) (hb1 : ops[j1]? = some b1) (hb2 : ops[j2]? = some b2)
    (wa1 : ∀ t', But t t' k1 k2 l1 l2 → Region.wanted a1 (yielded ops t'.toArray) = true) (wa2 : ∀ t', But t t' k1 k2 l1 l2 → Region.wanted a2 (yielded ops t'.toArray) = true)
    (wb1 : ∀ t', But t t' k1 k2 l1 l2 → Region.wanted b1 (yielded ops t'.toArray) = true) (wb2 : ∀ t', But t t' k1 k2 l1 l2 → Region.wanted b2 (yielded ops t'.toArray) = true)
    (r00 : Region.ready md ops listed = [i1, j1]) (r10 : Region.ready md ops (listed.setIfInBounds i1 true) = [i2, j1]) (r01 : Region.ready md ops (listed.setIfInBounds j1 true) = [i1])
    (r20 : Region.ready md ops ((listed.setIfInBounds i1 true).setIfInBounds i2 true) = [j1]) (r11 : Region.ready md ops ((listed.setIfInBounds i1 true).setIfInBounds j1 true) = [i2])
    (r21 : Region.ready md ops (((listed.setIfInBounds i1 true).setIfInBounds i2 true).setIfInBounds j1 true) = [j2])
    (hik : k1 ≠ k2 ∧ k1 ≠ l1 ∧ k1 ≠ l2 ∧ k2 ≠ l1 ∧ k2 ≠ l2 ∧ l1 ≠ l2) (hij : i1 ≠ i2 ∧ i1 ≠ j1 ∧ i2 ≠ j1) (hlen : k1 < t.length ∧ l1 < t.length)
    (J0 J1 J2 : (Nat → Prop) → World → Prop) (A1 B1 : (Nat → Prop) → Value → World → Prop) (R2 R4 : Value → Prop) (G0 : Nat → Prop) (h0 : J0 G0 w0) (hS0 : ∀ G w, J0 G w → S w) (hS1 : ∀ G w, J1 G w → S w) (hS2 : ∀ G w, J2 G w → S w)
    (mA1 : ∀ (t' : List Value) (w : World) (K : Act → World → Prop), But t t' k1 k2 l1 l2 → J0 G0 w → (∀ v w', J0 G0 w' → A1 G0 v w' → (∀ u, B1 G0 u w → B1 G0 u w') → K ⟨(t'.set k1 v).toArray, d⟩ w') → Oper.wp P a1 ⟨t'.toArray, d⟩ w K Q)
    (mB1 : ∀ (t' : List Value) (w : World) (K : Act → World → Prop), But t t' k1 k2 l1 l2 → J0 G0 w → (∀ u w', J0 G0 w' → B1 G0 u w' → (∀ v, A1 G0 v w → A1 G0 v w') → K ⟨(t'.set l1 u).toArray, d⟩ w') → Oper.wp P b1 ⟨t'.toArray, d⟩ w K Q)
    (mB1' : ∀ (t' : List Value) (G : Nat → Prop) (w : World) (K : Act → World → Prop), But t t' k1 k2 l1 l2 → J1 G w → (∀ u w', J1 G w' → B1 G u w' → K ⟨(t'.set l1 u).toArray, d⟩ w') → Oper.wp P b1 ⟨t'.toArray, d⟩ w K Q)
    (mA2 : ∀ (t' : List Value) (w : World) (v : Value) (K : Act → World → Prop), But t t' k1 k2 l1 l2 → J0 G0 w → t'[k1]? = some v → A1 G0 v w → (∀ G v2 w', J1 G w' → R2 v2 → (∀ u, B1 G0 u w → B1 G u w') → K ⟨(t'.set k2 v2).toArray, d⟩ w') → Oper.wp P a2 ⟨t'.toArray, d⟩ w K Q)
    (mB2 : ∀ (t' : List Value) (G : Nat → Prop) (w : World) (u : Value) (K : Act → World → Prop), But t t' k1 k2 l1 l2 → J1 G w → t'[l1]? = some u → B1 G u w → (∀ G' u2 w', J2 G' w' → R4 u2 → K ⟨(t'.set l2 u2).toArray, d⟩ w') → Oper.wp P b2 ⟨t'.toArray, d⟩ w K Q)
    (fin : ∀ G v1 v2 u1 u2 w, J2 G w → R2 v2 → R4 u2 → wpAnyH P md ops Q S fuel ((((listed.setIfInBounds i1 true).setIfInBounds i2 true).setIfInBounds j1 true).setIfInBounds j2 true) ⟨((((t.set k1 v1).set k2 v2).set l1 u1).set l2 u2).toArray, d⟩ w) :
    wpAnyH P md ops Q S (fuel + 1 + 1 + 1 + 1) listed ⟨t.toArray, d⟩ w0 := by
  obtain ⟨n12, n13, n14, n23, n24, n34⟩ := hik
  obtain ⟨m12, m13, m23⟩ := hij
  obtain ⟨q1, q3⟩ := hlen
  have but0 : But t t k1 k2 l1 l2 := ⟨rfl, fun _ _ _ _ _ => rfl⟩
  have butS : ∀ {t' : List Value} (k : Nat) (v : Value), But t t' k1 k2 l1 l2 → k = k1 ∨ k = k2 ∨ k = l1 ∨ k = l2 → But t (t'.set k v) k1 k2 l1 l2 := fun {t'} k v h hk => ⟨by rw [List.length_set]; exact h.1, fun s h1 h2 h3 h4 => by
    rw [List.getElem?_set_ne (by rcases hk with rfl | rfl | rfl | rfl <;> exact fun e => (by first | exact h1 e.symm | exact h2 e.symm | exact h3 e.symm | exact h4 e.symm))]
    exact h.2 s h1 h2 h3 h4⟩
  have getS : ∀ {t' : List Value} (k : Nat) (v : Value), t'.length = t.length → k < t.length → (t'.set k v)[k]? = some v := fun {t'} k v h hk => by
    rw [List.getElem?_set_self (by omega)]
  have getO : ∀ {t' : List Value} (k s : Nat) (v u : Value), k ≠ s → t'[s]? = some u → (t'.set k v)[s]? = some u := fun {t'} k s v u h hs => by
    rw [List.getElem?_set_ne h]
    exact hs
  refine twoL i1 j1 ha1 hb1 r00 (wa1 t but0) (wb1 t but0) (fun K hK => mA1 t w0 K but0 h0 fun v1 w1 j1_ p1 _ => hK.out _ _ (hS0 _ _ j1_) fun _ => ?_) (fun K hK => mB1 t w0 K but0 h0 fun u1 w1 j1_ p1 _ => hK.out _ _ (hS0 _ _ j1_) fun _ => ?_)
  · have e1 := butS k1 v1 but0 (Or.inl rfl)
    refine twoL i2 j1 ha2 hb1 r10 (wa2 _ e1) (wb1 _ e1) (fun K hK => mA2 _ w1 v1 K e1 j1_ (getS k1 v1 rfl q1) p1 fun G v2 w2 j2_ p2 _ => hK.out _ _ (hS1 _ _ j2_) fun _ => ?_) (fun K hK => mB1 _ w1 K e1 j1_ fun u1 w2 j2_ p2 st => hK.out _ _ (hS0 _ _ j2_) fun _ => ?_)
    · have e2 := butS k2 v2 e1 (Or.inr (Or.inl rfl))
      refine onlyL j1 hb1 r20 (wb1 _ e2) (fun K hK => mB1' _ _ w2 K e2 j2_ fun u1 w3 j3_ p3 => hK.out _ _ (hS1 _ _ j3_) fun _ => ?_)
      have e3 := butS l1 u1 e2 (Or.inr (Or.inr (Or.inl rfl)))
      refine onlyL j2 hb2 r21 (wb2 _ e3) (fun K hK => mB2 _ _ w3 u1 K e3 j3_ (getS l1 u1 e2.1 q3) p3 fun G' u2 w4 j4_ p4 => hK.out _ _ (hS2 _ _ j4_) fun _ => ?_)
      exact fin _ v1 v2 u1 u2 w4 j4_ p2 p4
    · have e2 := butS l1 u1 e1 (Or.inr (Or.inr (Or.inl rfl)))
      have g1 := getO l1 k1 u1 v1 (Ne.symm n13) (getS k1 v1 rfl q1)
      refine onlyL i2 ha2 r11 (wa2 _ e2) (fun K hK => mA2 _ w2 v1 K e2 j2_ g1 (st v1 p1) fun G v2 w3 j3_ p3 st2 => hK.out _ _ (hS1 _ _ j3_) fun _ => ?_)
      have e3 := butS k2 v2 e2 (Or.inr (Or.inl rfl))
      have r : Region.ready md ops (((listed.setIfInBounds i1 true).setIfInBounds j1 true).setIfInBounds i2 true) = [j2] := by rw [Array.setIfInBounds_comm (i := j1) (j := i2) _ _ (Ne.symm m23)]; exact r21
      refine onlyL j2 hb2 r (wb2 _ e3) (fun K hK => mB2 _ _ w3 u1 K e3 j3_ (getO k2 l1 v2 u1 n23 (getS l1 u1 e1.1 q3)) (st2 u1 p2) fun G' u2 w4 j4_ p4 => hK.out _ _ (hS2 _ _ j4_) fun _ => ?_)
      rw [Array.setIfInBounds_comm (i := j1) (j := i2) _ _ (Ne.symm m23), List.set_comm (i := l1) (j := k2) _ _ (Ne.symm n23)]
      exact fin _ v1 v2 u1 u2 w4 j4_ p3 p4
  · have e1 := butS l1 u1 but0 (Or.inr (Or.inr (Or.inl rfl)))
    refine onlyL i1 ha1 r01 (wa1 _ e1) (fun K hK => mA1 _ w1 K e1 j1_ fun v1 w2 j2_ p2 st => hK.out _ _ (hS0 _ _ j2_) fun _ => ?_)
    have e2 := butS k1 v1 e1 (Or.inl rfl)
    have g1 := getO k1 l1 v1 u1 n13 (getS l1 u1 rfl q3)
    have r : Region.ready md ops ((listed.setIfInBounds j1 true).setIfInBounds i1 true) = [i2] := by rw [Array.setIfInBounds_comm (i := j1) (j := i1) _ _ (Ne.symm m13)]; exact r11
    refine onlyL i2 ha2 r (wa2 _ e2) (fun K hK => mA2 _ w2 v1 K e2 j2_ (getS k1 v1 e1.1 q1) p2 fun G v2 w3 j3_ p3 st2 => hK.out _ _ (hS1 _ _ j3_) fun _ => ?_)
    have e3 := butS k2 v2 e2 (Or.inr (Or.inl rfl))
    have r : Region.ready md ops (((listed.setIfInBounds j1 true).setIfInBounds i1 true).setIfInBounds i2 true) = [j2] := by rw [Array.setIfInBounds_comm (i := j1) (j := i1) _ _ (Ne.symm m13), Array.setIfInBounds_comm (i := j1) (j := i2) _ _ (Ne.symm m23)]; exact r21
    refine onlyL j2 hb2 r (wb2 _ e3) (fun K hK => mB2 _ _ w3 u1 K e3 j3_ (getO k2 l1 v2 u1 n23 g1) (st2 u1 (st u1 p1)) fun G' u2 w4 j4_ p4 => hK.out _ _ (hS2 _ _ j4_) fun _ => ?_)
    rw [Array.setIfInBounds_comm (i := j1) (j := i1) _ _ (Ne.symm m13), Array.setIfInBounds_comm (i := j1) (j := i2) _ _ (Ne.symm m23), List.set_comm (i := l1) (j := k1) _ _ (Ne.symm n13), List.set_comm (i := l1) (j := k2) _ _ (Ne.symm n23)]
    exact fin _ v1 v2 u1 u2 w4 j4_ p3 p4
end
end Go.Proofs.Ytkkehbebaokdmaa
