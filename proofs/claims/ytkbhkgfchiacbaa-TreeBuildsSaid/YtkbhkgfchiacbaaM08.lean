/- RegionG RegionE RefOSealA OrcRow LkLaws Ofi: texts laid together. -/
import Derived.Test.YtkbhkgfchiacbaaM07
import Derived.Below
import Derived.Test.YtkbhkgfchiacbaaM03
import Derived.Test.YtkbhkgfchiacbaaM04

/- Two chains of two operations each that make memory, in whatever order: what a struct literal with two copies of slices comes to. -/
namespace Go.Proofs.Ytkbhkgfchiacbaa
open Go.RowKit
set_option maxRecDepth 20000
section
variable {P : Program} {ops : Array Oper} {Q : Exit → Act → World → Prop} {md : Region.Mode} {S : World → Prop} {last : Nat}
variable {fuel : Nat} {listed : Array Bool} {d : List Deferred}

theorem opX (i : Nat) {oi : Oper} {a : Act} {w : World} {K : Act → World → Prop} (hi : ops[i]? = some oi) (hg : oi.guard = none) (h : Oper.wp P oi a w K Q) : wpOp P ops Q i K a w := by
  have hw : Region.wanted oi (yielded ops a.tmps) = true := by simp [Region.wanted, hg]
  unfold wpOp
  simp only [hi, hw, if_true]
  exact Or.inl h
theorem oneX {a : Act} {w : World} (i : Nat) {oi : Oper} (hi : ops[i]? = some oi) (hg : oi.guard = none) (hr : Region.ready md ops listed = [i])
    (h : Oper.wp P oi a w (fun a' w' => (i ≠ last → S w') ∧ wpAnyX P md ops Q S last fuel (listed.setIfInBounds i true) a' w') Q) : wpAnyX P md ops Q S last (fuel + 1) listed a w := by
  refine ⟨fun h0 => (by rw [hr] at h0; cases h0), fun j hj => ?_⟩
  rw [hr] at hj
  obtain rfl : j = i := by simpa using hj
  exact opX j hi hg h
theorem twoX {a : Act} {w : World} (i j : Nat) {oi oj : Oper} (hi : ops[i]? = some oi) (hgi : oi.guard = none) (hj : ops[j]? = some oj) (hgj : oj.guard = none) (hr : Region.ready md ops listed = [i, j])
    (h1 : Oper.wp P oi a w (fun a' w' => (i ≠ last → S w') ∧ wpAnyX P md ops Q S last fuel (listed.setIfInBounds i true) a' w') Q)
    (h2 : Oper.wp P oj a w (fun a' w' => (j ≠ last → S w') ∧ wpAnyX P md ops Q S last fuel (listed.setIfInBounds j true) a' w') Q) : wpAnyX P md ops Q S last (fuel + 1) listed a w := by
  refine ⟨fun h0 => (by rw [hr] at h0; cases h0), fun k hk => ?_⟩
  rw [hr] at hk
  simp only [List.mem_cons, List.not_mem_nil, or_false] at hk
  rcases hk with rfl | rfl
  · exact opX k hi hgi h1
  · exact opX k hj hgj h2

/-- An operation that makes memory: whatever world meets I, it answers a value of which A holds, and all that was there stays. -/
def Makes (P : Program) (Q : Exit → Act → World → Prop) (o : Oper) (k : Nat) (d : List Deferred) (I : List Value → World → Prop) (A : Value → World → Prop) : Prop :=
  ∀ (t : List Value) (w : World) (K : Act → World → Prop), I t w → (∀ v w', Below w.heap.size w w' → A v w' → K ⟨(t.set k v).toArray, d⟩ w') → Oper.wp P o ⟨t.toArray, d⟩ w K Q
/-- But for these four slots t' is t. -/
def But (t t' : List Value) (a b c e : Nat) : Prop := t'.length = t.length ∧ ∀ s, s ≠ a → s ≠ b → s ≠ c → s ≠ e → t'[s]? = t[s]?

/-- Two copies, one behind the other: a1, a2 (which takes what a1 made), b1, b2 (which takes what b1 made, and waits for a2). -/
theorem gridC {t : List Value} {w0 : World} (i1 i2 j1 j2 k1 k2 l1 l2 : Nat) {a1 a2 b1 b2 : Oper}
    (ha1 : ops[i1]? = some a1) (ha2 : ops[i2]? = some a2) (hb1 : ops[j1]? = some b1) (hb2 : ops[j2]? = some b2) (ga1 : a1.guard = none) (ga2 : a2.guard = none) (gb1 : b1.guard = none) (gb2 : b2.guard = none)
    (r00 : Region.ready md ops listed = [i1, j1]) (r10 : Region.ready md ops (listed.setIfInBounds i1 true) = [i2, j1]) (r01 : Region.ready md ops (listed.setIfInBounds j1 true) = [i1])
    (r20 : Region.ready md ops ((listed.setIfInBounds i1 true).setIfInBounds i2 true) = [j1]) (r11 : Region.ready md ops ((listed.setIfInBounds i1 true).setIfInBounds j1 true) = [i2])
    (r21 : Region.ready md ops (((listed.setIfInBounds i1 true).setIfInBounds i2 true).setIfInBounds j1 true) = [j2])
    (hik : k1 ≠ k2 ∧ k1 ≠ l1 ∧ k1 ≠ l2 ∧ k2 ≠ l1 ∧ k2 ≠ l2 ∧ l1 ≠ l2) (hij : i1 ≠ i2 ∧ i1 ≠ j1 ∧ i2 ≠ j1) (hlen : k1 < t.length ∧ l1 < t.length)
    (A1 A2 B1 B2 : Value → World → Prop) (sA1 : ∀ v w w', A1 v w → Below w.heap.size w w' → A1 v w') (sA2 : ∀ v w w', A2 v w → Below w.heap.size w w' → A2 v w') (sB1 : ∀ v w w', B1 v w → Below w.heap.size w w' → B1 v w')
    (hS : ∀ w, Below w0.heap.size w0 w → S w)
    (mA1 : Makes P Q a1 k1 d (fun t' w => But t t' k1 k2 l1 l2 ∧ Below w0.heap.size w0 w) A1)
    (mA2 : Makes P Q a2 k2 d (fun t' w => But t t' k1 k2 l1 l2 ∧ Below w0.heap.size w0 w ∧ ∃ v, t'[k1]? = some v ∧ A1 v w) A2)
    (mB1 : Makes P Q b1 l1 d (fun t' w => But t t' k1 k2 l1 l2 ∧ Below w0.heap.size w0 w) B1)
    (mB2 : Makes P Q b2 l2 d (fun t' w => But t t' k1 k2 l1 l2 ∧ Below w0.heap.size w0 w ∧ ∃ v, t'[l1]? = some v ∧ B1 v w) B2)
    (fin : ∀ v1 v2 u1 u2 w, Below w0.heap.size w0 w → A2 v2 w → B2 u2 w → wpAnyX P md ops Q S last fuel ((((listed.setIfInBounds i1 true).setIfInBounds i2 true).setIfInBounds j1 true).setIfInBounds j2 true) ⟨((((t.set k1 v1).set k2 v2).set l1 u1).set l2 u2).toArray, d⟩ w) :
    wpAnyX P md ops Q S last (fuel + 1 + 1 + 1 + 1) listed ⟨t.toArray, d⟩ w0 := by
  obtain ⟨n12, n13, n14, n23, n24, n34⟩ := hik
  obtain ⟨m12, m13, m23⟩ := hij
  obtain ⟨q1, q3⟩ := hlen
  have but0 : But t t k1 k2 l1 l2 := ⟨rfl, fun _ _ _ _ _ => rfl⟩
  have butS : ∀ {t' : List Value} (k : Nat) (v : Value), But t t' k1 k2 l1 l2 → k = k1 ∨ k = k2 ∨ k = l1 ∨ k = l2 → But t (t'.set k v) k1 k2 l1 l2 := fun {t'} k v h hk => ⟨by rw [List.length_set]; exact h.1, fun s h1 h2 h3 h4 => by
    rw [List.getElem?_set_ne (by rcases hk with rfl | rfl | rfl | rfl <;> exact fun e => (by first | exact h1 e.symm | exact h2 e.symm | exact h3 e.symm | exact h4 e.symm))]
    exact h.2 s h1 h2 h3 h4⟩
  have getS : ∀ {t' : List Value} (k : Nat) (v : Value), t'.length = t.length → k < t.length → (t'.set k v)[k]? = some v := fun {t'} k v h hk => by
    rw [List.getElem?_set_self (by omega)]
  have getO : ∀ {t' : List Value} (k s : Nat) (v u : Value), k ≠ s → t'[s]? = some u → (t'.set k v)[s]? = some u := fun {t'} k s v u h hs => by
    rw [List.getElem?_set_ne h]
    exact hs
  have b0 := Below.refl w0.heap.size w0
  refine twoX i1 j1 ha1 ga1 hb1 gb1 r00 (mA1 t w0 _ ⟨but0, b0⟩ fun v1 w1 h1 p1 => ?_) (mB1 t w0 _ ⟨but0, b0⟩ fun u1 w1 h1 p1 => ?_)
  · have c1 := b0.trans h1
    have e1 := butS k1 v1 but0 (Or.inl rfl)
    refine ⟨fun _ => hS _ c1, twoX i2 j1 ha2 ga2 hb1 gb1 r10 (mA2 _ w1 _ ⟨e1, c1, v1, getS k1 v1 rfl q1, p1⟩ fun v2 w2 h2 p2 => ?_) (mB1 _ w1 _ ⟨e1, c1⟩ fun u1 w2 h2 p2 => ?_)⟩
    · have c2 := c1.trans (h2.mono c1.size)
      have e2 := butS k2 v2 e1 (Or.inr (Or.inl rfl))
      refine ⟨fun _ => hS _ c2, oneX j1 hb1 gb1 r20 (mB1 _ w2 _ ⟨e2, c2⟩ fun u1 w3 h3 p3 => ?_)⟩
      have c3 := c2.trans (h3.mono c2.size)
      have e3 := butS l1 u1 e2 (Or.inr (Or.inr (Or.inl rfl)))
      refine ⟨fun _ => hS _ c3, oneX j2 hb2 gb2 r21 (mB2 _ w3 _ ⟨e3, c3, u1, getS l1 u1 e2.1 q3, p3⟩ fun u2 w4 h4 p4 => ?_)⟩
      have c4 := c3.trans (h4.mono c3.size)
      exact ⟨fun _ => hS _ c4, fin v1 v2 u1 u2 w4 c4 (sA2 _ _ _ (sA2 _ _ _ p2 h3) h4) p4⟩
    · have c2 := c1.trans (h2.mono c1.size)
      have e2 := butS l1 u1 e1 (Or.inr (Or.inr (Or.inl rfl)))
      have g1 := getO l1 k1 u1 v1 (Ne.symm n13) (getS k1 v1 rfl q1)
      refine ⟨fun _ => hS _ c2, oneX i2 ha2 ga2 r11 (mA2 _ w2 _ ⟨e2, c2, v1, g1, sA1 _ _ _ p1 h2⟩ fun v2 w3 h3 p3 => ?_)⟩
      have c3 := c2.trans (h3.mono c2.size)
      have e3 := butS k2 v2 e2 (Or.inr (Or.inl rfl))
      have r : Region.ready md ops (((listed.setIfInBounds i1 true).setIfInBounds j1 true).setIfInBounds i2 true) = [j2] := by rw [Array.setIfInBounds_comm (i := j1) (j := i2) _ _ (Ne.symm m23)]; exact r21
      refine ⟨fun _ => hS _ c3, oneX j2 hb2 gb2 r (mB2 _ w3 _ ⟨e3, c3, u1, getO k2 l1 v2 u1 n23 (getS l1 u1 e1.1 q3), sB1 _ _ _ p2 h3⟩ fun u2 w4 h4 p4 => ?_)⟩
      have c4 := c3.trans (h4.mono c3.size)
      refine ⟨fun _ => hS _ c4, ?_⟩
      rw [Array.setIfInBounds_comm (i := j1) (j := i2) _ _ (Ne.symm m23), List.set_comm (i := l1) (j := k2) _ _ (Ne.symm n23)]
      exact fin v1 v2 u1 u2 w4 c4 (sA2 _ _ _ p3 h4) p4
  · have c1 := b0.trans h1
    have e1 := butS l1 u1 but0 (Or.inr (Or.inr (Or.inl rfl)))
    refine ⟨fun _ => hS _ c1, oneX i1 ha1 ga1 r01 (mA1 _ w1 _ ⟨e1, c1⟩ fun v1 w2 h2 p2 => ?_)⟩
    have c2 := c1.trans (h2.mono c1.size)
    have e2 := butS k1 v1 e1 (Or.inl rfl)
    have g1 := getO k1 l1 v1 u1 n13 (getS l1 u1 rfl q3)
    have r : Region.ready md ops ((listed.setIfInBounds j1 true).setIfInBounds i1 true) = [i2] := by rw [Array.setIfInBounds_comm (i := j1) (j := i1) _ _ (Ne.symm m13)]; exact r11
    refine ⟨fun _ => hS _ c2, oneX i2 ha2 ga2 r (mA2 _ w2 _ ⟨e2, c2, v1, getS k1 v1 e1.1 q1, p2⟩ fun v2 w3 h3 p3 => ?_)⟩
    have c3 := c2.trans (h3.mono c2.size)
    have e3 := butS k2 v2 e2 (Or.inr (Or.inl rfl))
    have r : Region.ready md ops (((listed.setIfInBounds j1 true).setIfInBounds i1 true).setIfInBounds i2 true) = [j2] := by rw [Array.setIfInBounds_comm (i := j1) (j := i1) _ _ (Ne.symm m13), Array.setIfInBounds_comm (i := j1) (j := i2) _ _ (Ne.symm m23)]; exact r21
    refine ⟨fun _ => hS _ c3, oneX j2 hb2 gb2 r (mB2 _ w3 _ ⟨e3, c3, u1, getO k2 l1 v2 u1 n23 g1, sB1 _ _ _ (sB1 _ _ _ p1 h2) h3⟩ fun u2 w4 h4 p4 => ?_)⟩
    have c4 := c3.trans (h4.mono c3.size)
    refine ⟨fun _ => hS _ c4, ?_⟩
    rw [Array.setIfInBounds_comm (i := j1) (j := i1) _ _ (Ne.symm m13), Array.setIfInBounds_comm (i := j1) (j := i2) _ _ (Ne.symm m23), List.set_comm (i := l1) (j := k1) _ _ (Ne.symm n13), List.set_comm (i := l1) (j := k2) _ _ (Ne.symm n23)]
    exact fin v1 v2 u1 u2 w4 c4 (sA2 _ _ _ p3 h4) p4
end
end Go.Proofs.Ytkbhkgfchiacbaa


/- Two calls on one object, each of a row that is laid for it alone, in a statement whose order Go leaves open. -/
namespace Go.Proofs.Ytkbhkgfchiacbaa
open Go.RowKit
set_option maxRecDepth 20000
section
variable {P : Program} {ops : Array Oper} {Q : Exit → Act → World → Prop} {md : Region.Mode} {S : World → Prop} {fuel : Nat} {listed : Array Bool} {d : List Deferred}

theorem wanted_plain {o : Oper} (h : o.guard = none) (y : Nat → Option Bool) : Region.wanted o y = true := by simp [Region.wanted, h]
theorem wanted_but {t t' : List Value} {a b c e : Nat} (hb : But t t' a b c e) {o : Oper} (j s : Nat) {p : Bool} (hg : o.guard = some (j, p)) (hj : (ops[j]?).bind (·.dst) = some s) (h1 : s ≠ a) (h2 : s ≠ b) (h3 : s ≠ c) (h4 : s ≠ e) (h : Region.wanted o (yielded ops t.toArray) = true) : Region.wanted o (yielded ops t'.toArray) = true := by
  have e : yielded ops t'.toArray j = yielded ops t.toArray j := by simp [yielded, hj, hb.2 s h1 h2 h3 h4]
  simpa [Region.wanted, hg, e] using h
/-- Two calls, one behind the other, each of what an operation of its own made ahead of it: a1 makes what a2 takes, b1 makes what b2 takes; b2 waits for a2. J0, J1, J2: what holds ahead of a2, behind it, behind b2; G: what an object owns then. -/
theorem gridE {t : List Value} {w0 : World} (i1 i2 j1 j2 k1 k2 l1 l2 : Nat) {a1 a2 b1 b2 : Oper}
    (ha1 : ops[i1]? = some a1) (ha2 : ops[i2]? = some a2) (hb1 : ops[j1]? = some b1) (hb2 : ops[j2]? = some b2)
    (wa1 : ∀ t', But t t' k1 k2 l1 l2 → Region.wanted a1 (yielded ops t'.toArray) = true) (wa2 : ∀ t', But t t' k1 k2 l1 l2 → Region.wanted a2 (yielded ops t'.toArray) = true)
    (wb1 : ∀ t', But t t' k1 k2 l1 l2 → Region.wanted b1 (yielded ops t'.toArray) = true) (wb2 : ∀ t', But t t' k1 k2 l1 l2 → Region.wanted b2 (yielded ops t'.toArray) = true)
    (r00 : Region.ready md ops listed = [i1, j1]) (r10 : Region.ready md ops (listed.setIfInBounds i1 true) = [i2, j1]) (r01 : Region.ready md ops (listed.setIfInBounds j1 true) = [i1])
    (r20 : Region.ready md ops ((listed.setIfInBounds i1 true).setIfInBounds i2 true) = [j1]) (r11 : Region.ready md ops ((listed.setIfInBounds i1 true).setIfInBounds j1 true) = [i2])
    (r21 : Region.ready md ops (((listed.setIfInBounds i1 true).setIfInBounds i2 true).setIfInBounds j1 true) = [j2])
    (hik : k1 ≠ k2 ∧ k1 ≠ l1 ∧ k1 ≠ l2 ∧ k2 ≠ l1 ∧ k2 ≠ l2 ∧ l1 ≠ l2) (hij : i1 ≠ i2 ∧ i1 ≠ j1 ∧ i2 ≠ j1) (hlen : k1 < t.length ∧ l1 < t.length)
    (J0 J1 J2 : (Nat → Prop) → World → Prop) (A1 B1 : (Nat → Prop) → Value → World → Prop) (R2 R4 : Value → Prop) (G0 : Nat → Prop) (h0 : J0 G0 w0) (hS0 : ∀ G w, J0 G w → S w) (hS1 : ∀ G w, J1 G w → S w) (hS2 : ∀ G w, J2 G w → S w)
    (mA1 : ∀ (t' : List Value) (w : World) (K : Act → World → Prop), But t t' k1 k2 l1 l2 → J0 G0 w → (∀ v w', J0 G0 w' → A1 G0 v w' → (∀ u, B1 G0 u w → B1 G0 u w') → K ⟨(t'.set k1 v).toArray, d⟩ w') → Oper.wp P a1 ⟨t'.toArray, d⟩ w K Q)
    (mB1 : ∀ (t' : List Value) (w : World) (K : Act → World → Prop), But t t' k1 k2 l1 l2 → J0 G0 w → (∀ u w', J0 G0 w' → B1 G0 u w' → (∀ v, A1 G0 v w → A1 G0 v w') → K ⟨(t'.set l1 u).toArray, d⟩ w') → Oper.wp P b1 ⟨t'.toArray, d⟩ w K Q)
    (mB1' : ∀ (t' : List Value) (G : Nat → Prop) (w : World) (K : Act → World → Prop), But t t' k1 k2 l1 l2 → J1 G w → (∀ u w', J1 G w' → B1 G u w' → K ⟨(t'.set l1 u).toArray, d⟩ w') → Oper.wp P b1 ⟨t'.toArray, d⟩ w K Q)
    (mA2 : ∀ (t' : List Value) (w : World) (v : Value) (K : Act → World → Prop), But t t' k1 k2 l1 l2 → J0 G0 w → t'[k1]? = some v → A1 G0 v w → (∀ G v2 w', J1 G w' → R2 v2 → (∀ u, B1 G0 u w → B1 G u w') → K ⟨(t'.set k2 v2).toArray, d⟩ w') → Oper.wp P a2 ⟨t'.toArray, d⟩ w K Q)
    (mB2 : ∀ (t' : List Value) (G : Nat → Prop) (w : World) (u : Value) (K : Act → World → Prop), But t t' k1 k2 l1 l2 → J1 G w → t'[l1]? = some u → B1 G u w → (∀ G' u2 w', J2 G' w' → R4 u2 → K ⟨(t'.set l2 u2).toArray, d⟩ w') → Oper.wp P b2 ⟨t'.toArray, d⟩ w K Q)
    (fin : ∀ G v1 v2 u1 u2 w, J2 G w → R2 v2 → R4 u2 → wpAnyH P md ops Q S fuel ((((listed.setIfInBounds i1 true).setIfInBounds i2 true).setIfInBounds j1 true).setIfInBounds j2 true) ⟨((((t.set k1 v1).set k2 v2).set l1 u1).set l2 u2).toArray, d⟩ w) :
    wpAnyH P md ops Q S (fuel + 1 + 1 + 1 + 1) listed ⟨t.toArray, d⟩ w0 := by
  obtain ⟨n12, n13, n14, n23, n24, n34⟩ := hik
  obtain ⟨m12, m13, m23⟩ := hij
  obtain ⟨q1, q3⟩ := hlen
  have but0 : But t t k1 k2 l1 l2 := ⟨rfl, fun _ _ _ _ _ => rfl⟩
  have butS : ∀ {t' : List Value} (k : Nat) (v : Value), But t t' k1 k2 l1 l2 → k = k1 ∨ k = k2 ∨ k = l1 ∨ k = l2 → But t (t'.set k v) k1 k2 l1 l2 := fun {t'} k v h hk => ⟨by rw [List.length_set]; exact h.1, fun s h1 h2 h3 h4 => by
    rw [List.getElem?_set_ne (by rcases hk with rfl | rfl | rfl | rfl <;> exact fun e => (by first | exact h1 e.symm | exact h2 e.symm | exact h3 e.symm | exact h4 e.symm))]
    exact h.2 s h1 h2 h3 h4⟩
  have getS : ∀ {t' : List Value} (k : Nat) (v : Value), t'.length = t.length → k < t.length → (t'.set k v)[k]? = some v := fun {t'} k v h hk => by
    rw [List.getElem?_set_self (by omega)]
  have getO : ∀ {t' : List Value} (k s : Nat) (v u : Value), k ≠ s → t'[s]? = some u → (t'.set k v)[s]? = some u := fun {t'} k s v u h hs => by
    rw [List.getElem?_set_ne h]
    exact hs
  refine twoL i1 j1 ha1 hb1 r00 (wa1 t but0) (wb1 t but0) (fun K hK => mA1 t w0 K but0 h0 fun v1 w1 j1_ p1 _ => hK.out _ _ (hS0 _ _ j1_) fun _ => ?_) (fun K hK => mB1 t w0 K but0 h0 fun u1 w1 j1_ p1 _ => hK.out _ _ (hS0 _ _ j1_) fun _ => ?_)
  · have e1 := butS k1 v1 but0 (Or.inl rfl)
    refine twoL i2 j1 ha2 hb1 r10 (wa2 _ e1) (wb1 _ e1) (fun K hK => mA2 _ w1 v1 K e1 j1_ (getS k1 v1 rfl q1) p1 fun G v2 w2 j2_ p2 _ => hK.out _ _ (hS1 _ _ j2_) fun _ => ?_) (fun K hK => mB1 _ w1 K e1 j1_ fun u1 w2 j2_ p2 st => hK.out _ _ (hS0 _ _ j2_) fun _ => ?_)
    · have e2 := butS k2 v2 e1 (Or.inr (Or.inl rfl))
      refine onlyL j1 hb1 r20 (wb1 _ e2) (fun K hK => mB1' _ _ w2 K e2 j2_ fun u1 w3 j3_ p3 => hK.out _ _ (hS1 _ _ j3_) fun _ => ?_)
      have e3 := butS l1 u1 e2 (Or.inr (Or.inr (Or.inl rfl)))
      refine onlyL j2 hb2 r21 (wb2 _ e3) (fun K hK => mB2 _ _ w3 u1 K e3 j3_ (getS l1 u1 e2.1 q3) p3 fun G' u2 w4 j4_ p4 => hK.out _ _ (hS2 _ _ j4_) fun _ => ?_)
      exact fin _ v1 v2 u1 u2 w4 j4_ p2 p4
    · have e2 := butS l1 u1 e1 (Or.inr (Or.inr (Or.inl rfl)))
      have g1 := getO l1 k1 u1 v1 (Ne.symm n13) (getS k1 v1 rfl q1)
      refine onlyL i2 ha2 r11 (wa2 _ e2) (fun K hK => mA2 _ w2 v1 K e2 j2_ g1 (st v1 p1) fun G v2 w3 j3_ p3 st2 => hK.out _ _ (hS1 _ _ j3_) fun _ => ?_)
      have e3 := butS k2 v2 e2 (Or.inr (Or.inl rfl))
      have r : Region.ready md ops (((listed.setIfInBounds i1 true).setIfInBounds j1 true).setIfInBounds i2 true) = [j2] := by rw [Array.setIfInBounds_comm (i := j1) (j := i2) _ _ (Ne.symm m23)]; exact r21
      refine onlyL j2 hb2 r (wb2 _ e3) (fun K hK => mB2 _ _ w3 u1 K e3 j3_ (getO k2 l1 v2 u1 n23 (getS l1 u1 e1.1 q3)) (st2 u1 p2) fun G' u2 w4 j4_ p4 => hK.out _ _ (hS2 _ _ j4_) fun _ => ?_)
      rw [Array.setIfInBounds_comm (i := j1) (j := i2) _ _ (Ne.symm m23), List.set_comm (i := l1) (j := k2) _ _ (Ne.symm n23)]
      exact fin _ v1 v2 u1 u2 w4 j4_ p3 p4
  · have e1 := butS l1 u1 but0 (Or.inr (Or.inr (Or.inl rfl)))
    refine onlyL i1 ha1 r01 (wa1 _ e1) (fun K hK => mA1 _ w1 K e1 j1_ fun v1 w2 j2_ p2 st => hK.out _ _ (hS0 _ _ j2_) fun _ => ?_)
    have e2 := butS k1 v1 e1 (Or.inl rfl)
    have g1 := getO k1 l1 v1 u1 n13 (getS l1 u1 rfl q3)
    have r : Region.ready md ops ((listed.setIfInBounds j1 true).setIfInBounds i1 true) = [i2] := by rw [Array.setIfInBounds_comm (i := j1) (j := i1) _ _ (Ne.symm m13)]; exact r11
    refine onlyL i2 ha2 r (wa2 _ e2) (fun K hK => mA2 _ w2 v1 K e2 j2_ (getS k1 v1 e1.1 q1) p2 fun G v2 w3 j3_ p3 st2 => hK.out _ _ (hS1 _ _ j3_) fun _ => ?_)
    have e3 := butS k2 v2 e2 (Or.inr (Or.inl rfl))
    have r : Region.ready md ops (((listed.setIfInBounds j1 true).setIfInBounds i1 true).setIfInBounds i2 true) = [j2] := by rw [Array.setIfInBounds_comm (i := j1) (j := i1) _ _ (Ne.symm m13), Array.setIfInBounds_comm (i := j1) (j := i2) _ _ (Ne.symm m23)]; exact r21
    refine onlyL j2 hb2 r (wb2 _ e3) (fun K hK => mB2 _ _ w3 u1 K e3 j3_ (getO k2 l1 v2 u1 n23 g1) (st2 u1 (st u1 p1)) fun G' u2 w4 j4_ p4 => hK.out _ _ (hS2 _ _ j4_) fun _ => ?_)
    rw [Array.setIfInBounds_comm (i := j1) (j := i1) _ _ (Ne.symm m13), Array.setIfInBounds_comm (i := j1) (j := i2) _ _ (Ne.symm m23), List.set_comm (i := l1) (j := k1) _ _ (Ne.symm n13), List.set_comm (i := l1) (j := k2) _ _ (Ne.symm n23)]
    exact fin _ v1 v2 u1 u2 w4 j4_ p3 p4
end
end Go.Proofs.Ytkbhkgfchiacbaa


/- Laws that the walk of lockboxref7's Seal takes: an empty slice literal, a copy of bytes by append. -/
namespace Go.Proofs.Ytkbhkgfchiacbaa
open Go.RowKit
set_option maxRecDepth 20000

theorem Try.issInfo : (Try.prog.info? 98).map (fun i => (i.zero, i.size, i.bytes)) = some (some (.agg #[.int .u64 0, .int .u64 0, .int .u32 0, .int .u32 0, .int .u64 0, .slice none 0 0, .slice none 0 0, .slice none 0 0, .int .u64 0, .int .u64 0]), 10, 120) := by kernel_rfl
/-- append of bytes to an empty slice literal: new memory, all else stays. -/
theorem wp_app0B {o : Oper} {a : Act} {w : World} {K : Act → World → Prop} {Q : Exit → Act → World → Prop} (s x : Operand)
    (ho : o.op = .call { callee := .builtin .append, args := #[s, x], argTypes := #[40, 40] }) (base g : Nat) (hs : a.eval s = .slice (some ⟨g, 0, none⟩) 0 0) (hown : w.ownsRow base 5 1 (.slice (some ⟨g, 0, none⟩) 0 0) 0 [])
    (y : Option Addr) (m c : Nat) (xs : List Int) (hx : a.eval x = .slice y m c) (hrow : SAt w y m xs) (hb : m ≤ 100000) (hbase : base ≤ w.heap.size)
    (h : ∀ k c' w', w'.ownsRow base 5 1 (.slice (some ⟨k, 0, none⟩) m c') m (xs.map (Value.int .u8)) → Below w.heap.size w w' → (m ≠ 0 → w.heap.size ≤ k) → K (a.put o.dst (.slice (some ⟨k, 0, none⟩) m c')) w') : o.wp Try.prog a w K Q := by
  obtain ⟨i0, hi, hz0, hz1, hz2⟩ := info_parts Try.info5
  by_cases hm : m = 0
  · subst hm
    obtain rfl : xs = [] := List.eq_nil_of_length_eq_zero hrow.1
    have hr : (Builtin.append_ #[40, 40] o.type #[.slice (some ⟨g, 0, none⟩) 0 0, .slice y 0 c]).run Try.prog w = .ok (.slice (some ⟨g, 0, none⟩) 0 0) w := by
      cases y with
      | none => simp [Builtin.append_, run_underlying Try.underlying40, sizeOf, typeInfo, hi, Builtin.lenOf, Builtin.firstCells, storeCells]
      | some ad =>
        have hf := run_firstCells_some (P := Try.prog) w i0.size 0 ad 0 c [] (by simp) (fun j u hj => by simp at hj)
        simp [Builtin.append_, run_underlying Try.underlying40, sizeOf, typeInfo, hi, Builtin.lenOf, hf, storeCells]
    unfold Oper.wp execOp
    simp only [ho, resolve, invoke, builtin, Sem.run_bind, Sem.run_pure, Result.andThen_ok, List.map_toArray, List.map_cons, List.map_nil, hs, hx, hr]
    exact h g 0 w hown (Below.refl _ _) (fun h => absurd rfl h)
  · obtain ⟨b, off, rfl, _, hc⟩ := hrow.2 (by omega)
    have hl : (xs.map (Value.int .u8)).length = m := by rw [List.length_map]; exact hrow.1
    have hr := run_append_grow (P := Try.prog) w 40 o.type 5 i0 _ Try.underlying40 hi hz0 ⟨g, 0, none⟩ 0 0 [] (by simp) (fun j u hj => by simp at hj) ⟨b, off, none⟩ m c (xs.map (Value.int .u8)) (by rw [hz1, hl, Nat.mul_one]) hc.news (by omega) (by omega)
      (by rw [hz2]; exact growslice_fits (by omega) (by omega))
    simp only [Nat.zero_add] at hr
    have hge := grownCap_ge w m 0 5
    unfold Oper.wp execOp
    simp only [ho, resolve, invoke, builtin, Sem.run_bind, Sem.run_pure, Result.andThen_ok, List.map_toArray, List.map_cons, List.map_nil, hs, hx, hr]
    refine h w.heap.size _ _ ⟨by rw [hl, Nat.mul_one], .inr ⟨w.heap.size, _, _, rfl, hbase, heap_alloc_new w.drew _, hge, grownCap_le_maxLen w m 0 5 (by unfold maxLen; omega), ?_, ?_⟩⟩ (((Below.refl w.heap.size w).drew).alloc (Nat.le_refl _) _) (fun _ => Nat.le_refl _)
    · simp [size_zeroCells, hl, Value.cells]
      omega
    · rw [Nat.mul_one, ← hl]
      simp
/-- A slice literal of no bytes. -/
theorem wp_lit0 {o : Oper} {a : Act} {w : World} {K : Act → World → Prop} {Q : Exit → Act → World → Prop} (ho : o.op = .buildSlice 40 0 #[])
    (h : K (a.put o.dst (.slice (some ⟨w.heap.size, 0, none⟩) 0 0)) (w.alloc (.cells #[] 5))) : o.wp Try.prog a w K Q := by
  unfold Oper.wp execOp
  simp only [ho]
  go_simp
  exact h
theorem put_slot {o : Oper} {t : List Value} {d : List Deferred} {k : Nat} (hd : o.dst = some k) (v : Value) : Act.put ⟨t.toArray, d⟩ o.dst v = ⟨(t.set k v).toArray, d⟩ := by simp [hd, Act.put]
theorem wp_lit0L {o : Oper} {t : List Value} {d : List Deferred} {w : World} {K : Act → World → Prop} {Q : Exit → Act → World → Prop} {k : Nat} (hd : o.dst = some k) (ho : o.op = .buildSlice 40 0 #[])
    (h : K ⟨(t.set k (.slice (some ⟨w.heap.size, 0, none⟩) 0 0)).toArray, d⟩ (w.alloc (.cells #[] 5))) : o.wp Try.prog ⟨t.toArray, d⟩ w K Q :=
  wp_lit0 ho (by rw [put_slot hd]; exact h)
theorem below_drew {w w' : World} (h : Below w.drew.heap.size w.drew w') : Below w.heap.size w w' := (Below.refl w.heap.size w).drew.trans h
end Go.Proofs.Ytkbhkgfchiacbaa


/- Rows of rows that are laid for a call, and calls of Sum, one operation at a time. -/
namespace Go.Proofs.Ytkbhkgfchiacbaa
open Go.RowKit
set_option maxRecDepth 20000

variable {Inv : (Nat → Prop) → World → Value → OSt → Prop}
theorem wp_row1L {o : Oper} {t : List Value} {d : List Deferred} {w : World} {K : Act → World → Prop} {Q : Exit → Act → World → Prop} {k s : Nat} {x : Option Addr} {n c : Nat} (hd : o.dst = some k) (ho : o.op = .buildSlice 22 1 #[(0, .tmp s)]) (hs : t[s]? = some (.slice x n c))
    (h : K ⟨(t.set k (.slice (some ⟨w.heap.size, 0, none⟩) 1 1)).toArray, d⟩ (w.alloc (.cells #[.slice x n c] 40))) : o.wp Try.prog ⟨t.toArray, d⟩ w K Q := by
  have he := eval_slot (d := d) hs
  have hrun : (Instr.buildSlice 22 1 #[(0, .slice x n c)]).run Try.prog w = .ok (.slice (some ⟨w.heap.size, 0, none⟩) 1 1) (w.alloc (.cells #[.slice x n c] 40)) := by go_simp
  rw [← put_slot hd] at h
  generalize (⟨t.toArray, d⟩ : Act) = a at *
  unfold Oper.wp execOp
  simp only [ho, List.map_toArray, List.map_cons, List.map_nil, he, Sem.run_bind, hrun, Result.andThen_ok, Sem.run_pure]
  exact h
theorem wp_row2L {o : Oper} {t : List Value} {d : List Deferred} {w : World} {K : Act → World → Prop} {Q : Exit → Act → World → Prop} {k s r : Nat} {x y : Option Addr} {n c m e : Nat} (hd : o.dst = some k) (ho : o.op = .buildSlice 22 2 #[(0, .tmp s), (1, .tmp r)]) (hs : t[s]? = some (.slice x n c)) (hr : t[r]? = some (.slice y m e))
    (h : K ⟨(t.set k (.slice (some ⟨w.heap.size, 0, none⟩) 2 2)).toArray, d⟩ (w.alloc (.cells #[.slice x n c, .slice y m e] 40))) : o.wp Try.prog ⟨t.toArray, d⟩ w K Q := by
  have he := eval_slot (d := d) hs
  have hf := eval_slot (d := d) hr
  have hrun : (Instr.buildSlice 22 2 #[(0, .slice x n c), (1, .slice y m e)]).run Try.prog w = .ok (.slice (some ⟨w.heap.size, 0, none⟩) 2 2) (w.alloc (.cells #[.slice x n c, .slice y m e] 40)) := by go_simp
  rw [← put_slot hd] at h
  generalize (⟨t.toArray, d⟩ : Act) = a at *
  unfold Oper.wp execOp
  simp only [ho, List.map_toArray, List.map_cons, List.map_nil, he, hf, Sem.run_bind, hrun, Result.andThen_ok, Sem.run_pure]
  exact h
theorem wp_sumL {o : Oper} {t : List Value} {d : List Deferred} {w : World} {K : Act → World → Prop} {Q : Exit → Act → World → Prop} {k s r : Nat} {a b : TypeId} {u v : Value} (hd : o.dst = some k) (ho : o.op = .call { callee := .value (.func 36), args := #[.tmp s, .tmp r], argTypes := #[a, b] }) (hs : t[s]? = some u) (hr : t[r]? = some v)
    (h : Calls Try.prog 36 #[u, v] w fun e w' => ∃ z, e = .returned z ∧ K ⟨(t.set k z).toArray, d⟩ w') : o.wp Try.prog ⟨t.toArray, d⟩ w K Q := by
  have he := eval_slot (d := d) hs
  have hf := eval_slot (d := d) hr
  simp only [← put_slot hd] at h
  generalize (⟨t.toArray, d⟩ : Act) = c at *
  have hen : ∀ args w, (callFunc 36 args).run Try.prog w = .ok (.enter 36 args) w := fun args w => by go_simp
  unfold Oper.wp execOp
  simp only [ho, resolve, invoke, List.map_toArray, List.map_cons, List.map_nil, he, hf, Sem.run_bind]
  simp only [Act.eval, Deferred.ofValue, Sem.run_pure, Result.andThen_ok, Array.append_empty, hen]
  rw [Oper.upon_enter]
  refine h.mono ?_
  rintro e w' ⟨z, rfl, hk⟩
  exact hk
theorem LIn.mono {G G' : Nat → Prop} {w : World} {x : Option Addr} {m : Nat} {P : List (List Int)} (h : LIn G w x m P) (hd : ∀ b, b < w.heap.size → G b → G' b) : LIn G' w x m P :=
  ⟨h.1, fun hm => by
    obtain ⟨b, o, e, hlt, hg, hr⟩ := h.2 hm
    refine ⟨b, o, e, hlt, hd b hlt hg, fun i hi => ?_⟩
    obtain ⟨y, c, h1, h2, h3⟩ := hr i hi
    exact ⟨y, c, h1, h2.mono hd, h3⟩⟩
/-- Sum, on one's own. -/
theorem osum_at (hO : OrcIs Inv) (F : Nat → Prop) (v : Value) (S : List (List Int)) (P : List (List Int)) (x : Option Addr) (m : Nat) (hm : 1 ≤ m ∧ m ≤ 2) {zs : List Int} (hz : P.flatten = zs) (hl : zs.length ≤ 50000) (hS : S.length ≤ 10000) (hx : x ≠ none) (w : World) (hI : Inv F w v ([], S)) (h : LIn (fun k => ¬ F k) w x m P) {ix : Nat} (hi : sumIx S zs = ix) {S' : List (List Int)} (hs : sumSt S zs = S') :
    Calls Try.prog 36 #[v, .slice x m m] w fun e w' => ∃ F', e = .returned (.agg #[.int .u64 17216961135462248174, .int .u64 (ix : Int)]) ∧ Kept Inv F w v F' w' ([], S') := by
  subst hz hi hs
  exact hO.sum F v [] S P x m m (by omega) hl hS ⟨Nat.le_refl _, by unfold maxLen; omega, fun e => absurd e hx⟩ w hI h
theorem wp_allocL {o : Oper} {t : List Value} {d : List Deferred} {w w' : World} {K : Act → World → Prop} {Q : Exit → Act → World → Prop} {k : Nat} {T : TypeId} {v : Value} (hd : o.dst = some k) (ho : o.op = .alloc T) (hrun : (Instr.alloc T true (.tuple #[])).run Try.prog w = .ok v w')
    (h : K ⟨(t.set k v).toArray, d⟩ w') : o.wp Try.prog ⟨t.toArray, d⟩ w K Q := by
  rw [← put_slot hd] at h
  unfold Oper.wp execOp
  simp only [ho, Sem.run_bind, hrun, Result.andThen_ok, Sem.run_pure]
  exact h
theorem alloc_pair (w : World) : (Instr.alloc 34 true (.tuple #[])).run Try.prog w = .ok (.pointer (some ⟨w.heap.size, 0, none⟩)) (w.alloc (.cells #[.int .u64 0, .int .u64 0] 34)) := by go_simp
theorem alloc_nonce (w : World) : (Instr.alloc 74 true (.tuple #[])).run Try.prog w = .ok (.pointer (some ⟨w.heap.size, 0, none⟩)) (w.alloc (.cells #[.int .u32 0, .int .u32 0, .int .u64 0] 74)) := by go_simp
theorem alloc_sealed (w : World) : (Instr.alloc 76 true (.tuple #[])).run Try.prog w = .ok (.pointer (some ⟨w.heap.size, 0, none⟩)) (w.alloc (.cells #[.slice none 0 0, .int .u64 0, .int .u64 0] 76)) := by go_simp
/-- A Sealed out of a slice and a Pair. -/
theorem run_buildS {o : Oper} {t : List Value} {d : List Deferred} {s r : Nat} {x : Option Addr} {n c : Nat} {t1 t2 : Int} (ho : o.op = .build 76 #[(0, .tmp s), (1, .tmp r)]) (hs : t[s]? = some (.slice x n c)) (hr : t[r]? = some (.agg #[.int .u64 t1, .int .u64 t2])) (w : World) :
    (execOp (Act.eval ⟨t.toArray, d⟩) o).run Try.prog w = .ok (.value (.agg #[.slice x n c, .int .u64 t1, .int .u64 t2])) w := by
  have he := eval_slot (d := d) hs
  have hf := eval_slot (d := d) hr
  have hrun : (Instr.build 76 #[(0, .slice x n c), (1, .agg #[.int .u64 t1, .int .u64 t2])]).run Try.prog w = .ok (.agg #[.slice x n c, .int .u64 t1, .int .u64 t2]) w := by go_simp
  generalize (⟨t.toArray, d⟩ : Act) = a at *
  unfold execOp
  simp only [ho, List.map_toArray, List.map_cons, List.map_nil, he, hf, Sem.run_bind, hrun, Result.andThen_ok, Sem.run_pure]
theorem wp_valueL {o : Oper} {t : List Value} {d : List Deferred} {w : World} {K : Act → World → Prop} {Q : Exit → Act → World → Prop} {k : Nat} {v : Value} (hd : o.dst = some k) (hrun : (execOp (Act.eval ⟨t.toArray, d⟩) o).run Try.prog w = .ok (.value v) w)
    (h : K ⟨(t.set k v).toArray, d⟩ w) : o.wp Try.prog ⟨t.toArray, d⟩ w K Q := by
  rw [← put_slot hd] at h
  unfold Oper.wp
  rw [hrun]
  exact h
/-- append of bytes to a row of the call's own, with what else stays. -/
theorem wpList_appG {w : World} {ops : Array Oper} {rest : List Oper} {o : Oper} {a : Act} {Q : Exit → Act → World → Prop} (hgd : o.guard = none) (s x : Operand)
    (ho : o.op = .call { callee := .builtin .append, args := #[s, x], argTypes := #[40, 40] }) (base : Nat) (v : Value) (n : Nat) (ys : List Int) (hs : a.eval s = v) (hown : w.ownsRow base 5 1 v n (ys.map (Value.int .u8)))
    (sx : Option Addr) (l c : Nat) (zs : List Int) (hx : a.eval x = .slice sx l c) (hz : SAt w sx l zs) (hnil : sx = none → l = 0 ∧ c = 0) (hbound : n + l ≤ 100000) (hbase : base ≤ w.heap.size)
    (h : ∀ v' w', w'.ownsRow base 5 1 v' (n + l) ((ys ++ zs).map (Value.int .u8)) → w.grownBy w' v.ownBlock → wpList Try.prog ops Q rest (a.put o.dst v') w') : wpList Try.prog ops Q (o :: rest) a w :=
  wpList_plain hgd fun _ hK => wp_app s x ho base v n ys hs hown sx l c zs hx hz hnil hbound hbase (fun v' w' h1 h2 _ => hK _ _ (h v' w' h1 h2))
theorem Box.put0 {w : World} {b : Nat} {x y : Int} (h : Box w b x y) (x' : Int) : Box (w.setCell ⟨b, 0, none⟩ (.int .u64 x')) b x' y := by
  unfold Box at h ⊢
  simp [World.setCell, Array.getElem?_modify, h]
theorem NBox.put1 {w : World} {b : Nat} {n : Nn} (h : NBox w b n) (x : BitVec 32) : NBox (w.setCell ⟨b, 1, none⟩ (.int .u32 (nv32 x))) b (n.1, x, n.2.2) := by
  unfold NBox at h ⊢
  simp [World.setCell, Array.getElem?_modify, h]
theorem NBox.put2 {w : World} {b : Nat} {n : Nn} (h : NBox w b n) (x : BitVec 64) : NBox (w.setCell ⟨b, 2, none⟩ (.int .u64 (nv x))) b (n.1, n.2.1, x) := by
  unfold NBox at h ⊢
  simp [World.setCell, Array.getElem?_modify, h]
theorem SBox.put2 {w : World} {b : Nat} {v : Value} {t1 t2 : Int} (h : SBox w b v t1 t2) (t2' : Int) : SBox (w.setCell ⟨b, 2, none⟩ (.int .u64 t2')) b v t1 t2' := by
  unfold SBox at h ⊢
  simp [World.setCell, Array.getElem?_modify, h]
theorem At.turn0 {w : World} {b : Nat} {xs : List Int} (h : At w b 0 xs) (h0 : 0 < xs.length) (u : Int) : At (w.setCell ⟨b, 0, none⟩ (.int .u8 u)) b 0 (xs.set 0 u) := by
  intro i hi
  rw [List.length_set] at hi
  by_cases e : i = 0
  · subst e
    rw [World.cell?_setCell_same _ _ _ (h 0 h0)]
    simp [h0]
  · rw [World.cell?_setCell_other _ _ _ _ (by simp <;> omega), h i hi]
    simp [List.getD, List.getElem?_set_ne (Ne.symm e)]
/-- What was sealed is one thing: is it asked for? -/
theorem hit_one {E : Iss} {q : Ask} {i : Nat} (h : Hit [E] q i) : E.key = q.key ∧ E.non = q.non ∧ E.head = q.head ∧ outB 1 E.data.length = q.bytes ∧ tagI 1 = q.tag := by
  obtain ⟨h0, h⟩ := h
  obtain rfl : i = 0 := by simpa using h0
  exact h
theorem hit_of {E : Iss} {q : Ask} (h1 : E.key = q.key) (h2 : E.non = q.non) (h3 : E.head = q.head) (h4 : outB 1 E.data.length = q.bytes) (h5 : tagI 1 = q.tag) : Hit [E] q 0 := ⟨by simp, h1, h2, h3, h4, h5⟩
end Go.Proofs.Ytkbhkgfchiacbaa


/- What the laws of a lock share: how it is made, what is known of it. -/
namespace Go.Proofs.Ytkbhkgfchiacbaa
open Go.RowKit
set_option maxRecDepth 20000
variable {Inv : (Nat → Prop) → World → Value → LSt → Prop}

theorem lsum_at (hO : LockIs Inv) (F : Nat → Prop) (v : Value) (st : LSt) (P : List (List Int)) {zs : List Int} (hz : P.flatten = zs) {v1 v2 : Int} (hv : st.sumV zs = (v1, v2)) {st' : LSt} (hs : st.sumS zs = st') (x : Option Addr) (m c : Nat) (hm : m ≤ 1000) (hl : zs.length ≤ 50000) (hS : st.sums.length ≤ 10000) (fx : Fit x m c) (w : World) (hI : Inv F w v st) (h : LIn (fun k => ¬ F k) w x m P) :
    Calls Try.prog 39 #[v, .slice x m c] w fun e w' => ∃ F', e = .returned (.agg #[.int .u64 v1, .int .u64 v2]) ∧ KeptL Inv F w v F' w' st' := by
  subst hz hs
  refine (hO.sum F v st P x m c hm hl hS fx w hI h).mono ?_
  rw [hv]
  exact fun _ _ h => h
theorem LSt.sumV_real {st : LSt} (hi : st.ideal = false) (zs : List Int) {p : BitVec 64 × BitVec 64} (hp : sumP zs = p) : st.sumV zs = (nv p.1, nv p.2) := by rw [LSt.sumV, if_neg (by rw [hi]; decide), hp]
theorem LSt.sumV_ideal {st : LSt} (hi : st.ideal = true) (zs : List Int) {i : Nat} (h : sumIx st.sums zs = i) : st.sumV zs = (17216961135462248174, ((i : Nat) : Int)) := by rw [LSt.sumV, if_pos hi, h]
theorem lit1 {F : Nat → Prop} (w : World) (hlt : ∀ k, F k → k < w.heap.size) (u : Int) : SIn (fun k => ¬ F k) (w.alloc (.cells #[.int .u8 u] 5 (1, 2))) (some ⟨w.heap.size, 0, none⟩) 1 [u] :=
  ⟨rfl, fun _ => ⟨w.heap.size, 0, rfl, by simp, fun h => Nat.lt_irrefl _ (hlt _ h), At.lit7 w [u] (1, 2)⟩⟩
theorem fit1 (b : Nat) : Fit (some ⟨b, 0, none⟩) 1 1 := ⟨Nat.le_refl _, by decide, fun e => by cases e⟩
theorem bytes_one (u : Int) (h : 0 ≤ u ∧ u < 256) : Bytes [u] := fun x hx => by simp at hx; omega
end Go.Proofs.Ytkbhkgfchiacbaa


/- Numbers, Pairs as bytes and back. -/
namespace Go.Proofs.Ytkbhkgfchiacbaa
open Go.RowKit
set_option maxRecDepth 20000

theorem ofInt64_num {xs : List Int} {v : BitVec 64} (h : num xs = (v.toNat : Int)) : BitVec.ofInt 64 (num xs) = v := by
  apply BitVec.eq_of_toNat_eq
  have := v.isLt
  rw [h, BitVec.toNat_ofInt]
  omega
theorem ofInt32_num {xs : List Int} {v : BitVec 32} (h : num xs = (v.toNat : Int)) : BitVec.ofInt 32 (num xs) = v := by
  apply BitVec.eq_of_toNat_eq
  have := v.isLt
  rw [h, BitVec.toNat_ofInt]
  omega
theorem pairOf_L (p : BitVec 64 × BitVec 64) : pairOf (pairL p) = p := by
  unfold pairOf pairL
  rw [List.take_left' (putL_length _ _), List.drop_left' (putL_length _ _)]
  exact Prod.ext (ofInt64_num (num_put8 _ p.1.isLt)) (ofInt64_num (num_put8 _ p.2.isLt))
theorem toNat_ofInt64 {n : Int} (h0 : 0 ≤ n) (h1 : n < 18446744073709551616) : (BitVec.ofInt 64 n).toNat = n.toNat := by
  rw [BitVec.toNat_ofInt]
  omega
theorem toNat_ofInt32 {n : Int} (h0 : 0 ≤ n) (h1 : n < 4294967296) : (BitVec.ofInt 32 n).toNat = n.toNat := by
  rw [BitVec.toNat_ofInt]
  omega
theorem putL_back {ys : List Int} (hb : Bytes ys) {n : Nat} (hn : ys.length = n) : putL (num ys).toNat n = ys := by
  subst hn
  exact putL_num ys hb
theorem putL_back64 {ys : List Int} (hb : Bytes ys) (hn : ys.length = 8) : putL (BitVec.ofInt 64 (num ys)).toNat 8 = ys := by
  have h := num_lt ys hb (by omega)
  rw [toNat_ofInt64 h.1 h.2]
  exact putL_back hb hn
theorem num_lt4 {ys : List Int} (hb : Bytes ys) (hn : ys.length = 4) : 0 ≤ num ys ∧ num ys < 4294967296 := by
  have h := num_range ys hb
  rw [hn] at h
  exact h
theorem putL_back32 {ys : List Int} (hb : Bytes ys) (hn : ys.length = 4) : putL (BitVec.ofInt 32 (num ys)).toNat 4 = ys := by
  have h := num_lt4 hb hn
  rw [toNat_ofInt32 h.1 h.2]
  exact putL_back hb hn
theorem pairL_back {ys : List Int} (hb : Bytes ys) (hn : ys.length = 16) : pairL (pairOf ys) = ys := by
  unfold pairL pairOf
  rw [putL_back64 (hb.take 8) (by rw [List.length_take]; omega), putL_back64 (hb.drop 8) (by rw [List.length_drop]; omega), List.take_append_drop]
end Go.Proofs.Ytkbhkgfchiacbaa
