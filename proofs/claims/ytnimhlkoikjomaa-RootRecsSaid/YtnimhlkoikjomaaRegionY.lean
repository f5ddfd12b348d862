/- RegionX's laws where the last operation waits for another one by way of others. -/
import Derived.Test.YtnimhlkoikjomaaRegionX
namespace Go.Proofs.Ytnimhlkoikjomaa
open Go.RowKit
set_option maxRecDepth 20000
section
variable {P : Program} {ops : Array Oper} {Q : Exit → Act → World → Prop} {md : Region.Mode} {S : World → Prop} {last : Nat}

/-- Number l waits for number i, in at most n steps. -/
def waitsN (md : Region.Mode) (ops : Array Oper) : Nat → Nat → Nat → Bool
  | 0, _, _ => false
  | n + 1, l, i => match ops[l]? with
    | some o => o.after.any fun e => Region.binds md e && (e.on == i || waitsN md ops n e.on i)
    | none => false
/-- Of what is done all is done that it waits for. -/
def Clo (md : Region.Mode) (ops : Array Oper) (listed : Array Bool) : Prop := ∀ m om, ops[m]? = some om → listed.getD m false = true → ∀ e ∈ om.after, Region.binds md e = true → listed.getD e.on false = true
def cloB (md : Region.Mode) (ops : Array Oper) (listed : Array Bool) : Bool := (List.range ops.size).all fun m => !listed.getD m false || match ops[m]? with
  | some o => o.after.all fun e => !Region.binds md e || listed.getD e.on false
  | none => true
theorem clo_of {listed : Array Bool} (h : cloB md ops listed = true) : Clo md ops listed := by
  intro m om hm hl e he hb
  have hlt : m < ops.size := (Array.getElem?_eq_some_iff.1 hm).1
  have h1 := List.all_eq_true.1 h m (List.mem_range.2 hlt)
  simp only [hl, hm, Bool.not_true, Bool.false_or] at h1
  obtain ⟨n, hn, rfl⟩ := Array.getElem_of_mem he
  have h2 := Array.all_eq_true.1 h1 n hn
  rw [hb] at h2
  simpa using h2
theorem ready_deps {l : Array Bool} {i : Nat} {oi : Oper} (hr : i ∈ Region.ready md ops l) (hi : ops[i]? = some oi) : ∀ e ∈ oi.after, Region.binds md e = true → l.getD e.on false = true := by
  intro e he hb
  obtain ⟨_, o, ho, hall⟩ := mem_ready.1 hr
  obtain rfl : oi = o := by rw [hi] at ho; exact Option.some.inj ho
  exact hall e he hb
theorem clo_waits {listed : Array Bool} (hc : Clo md ops listed) : ∀ (n l i : Nat) (ol : Oper), ops[l]? = some ol → (∀ e ∈ ol.after, Region.binds md e = true → listed.getD e.on false = true) → waitsN md ops n l i = true → listed.getD i false = true
  | 0, _, _, _, _, _, h => by cases h
  | n + 1, l, i, ol, hl, hd, h => by
    simp only [waitsN, hl, Array.any_eq_true] at h
    obtain ⟨k, hk, hb⟩ := h
    rw [Bool.and_eq_true, Bool.or_eq_true, beq_iff_eq] at hb
    have h1 := hd _ (Array.getElem_mem hk) hb.1
    rcases hb.2 with e | e
    · rw [← e]
      exact h1
    · cases hm : ops[(ol.after[k]).on]? with
      | none =>
        cases n with
        | zero => simp [waitsN] at e
        | succ n => simp [waitsN, hm] at e
      | some om => exact clo_waits hc n _ i om hm (fun e' he' hb' => hc _ om hm h1 e' he' hb') e
theorem getD_set' {l : Array Bool} {i j : Nat} (h : l.getD j false = true) : (l.setIfInBounds i true).getD j false = true := by
  by_cases e : i = j
  · subst e
    have hi : i < l.size := by
      rcases Nat.lt_or_ge i l.size with h' | h'
      · exact h'
      · simp [Array.getElem?_eq_none h'] at h
    simp [hi]
  · simpa [Array.getD_eq_getD_getElem?, Array.getElem?_setIfInBounds_ne e] using h
theorem clo_set {l : Array Bool} {i : Nat} (hc : Clo md ops l) (hr : i ∈ Region.ready md ops l) : Clo md ops (l.setIfInBounds i true) := by
  intro m om hm hl e he hb
  by_cases h : i = m
  · subst h
    exact getD_set' (ready_deps hr hm e he hb)
  · have hl' : l.getD m false = true := by simpa [Array.getD_eq_getD_getElem?, Array.getElem?_setIfInBounds_ne h] using hl
    exact getD_set' (hc m om hm hl' e he hb)
theorem firstY {i : Nat} {oi : Oper} {v : Value} (hi : ops[i]? = some oi) (hsel : ∀ (j : Nat) (o : Oper) cs b, ops[j]? = some o → o.op ≠ .select cs b)
    (hQ : ∀ c a w, Q (.panic c) (a.put oi.dst v) w → Q (.panic c) a w) (hlast : waitsN md ops ops.size last i = true) (hil : i ≠ last) :
    ∀ (fuel : Nat) (listed : Array Bool) (a : Act) (w : World), Clo md ops listed →
      (∀ j oj, ops[j]? = some oj → j ≠ i → listed.getD j true = false → (∀ e ∈ oj.after, Region.binds md e = true → e.on ≠ i) → oi.apart ops oj = true) →
      i ∈ Region.ready md ops listed → YieldsIf P ops S oi v a → S w →
      wpAnyX P md ops Q S last fuel (listed.setIfInBounds i true) (a.put oi.dst v) w → wpAnyX P md ops Q S last (fuel + 1) listed a w := by
  intro fuel
  induction fuel with
  | zero =>
    intro listed a w _ _ hr hy hS H
    refine ⟨fun h => (by rw [h] at hr; cases hr), fun j hj => ?_⟩
    by_cases hji : j = i
    · subst hji
      exact hy.wpOp hi hS ⟨fun _ => hS, H⟩
    · have := ready_mono hj hji
      rw [H.1] at this
      cases this
  | succ fuel ih =>
    intro listed a w hclo hfree hr hy hS H
    refine ⟨fun h => (by rw [h] at hr; cases hr), fun j hj => ?_⟩
    by_cases hji : j = i
    · subst hji
      exact hy.wpOp hi hS ⟨fun _ => hS, H⟩
    · have h1 := H.2 j (ready_mono hj hji)
      obtain ⟨hjun, oj, hoj, hall⟩ := mem_ready.1 hj
      have hiun : listed.getD i false = false := by
        have h0 := (mem_ready.1 hr).1
        rcases Nat.lt_or_ge i listed.size with h' | h'
        · simp [h'] at h0 ⊢
          exact h0
        · simp [Array.getElem?_eq_none h']
      have hnot : ∀ e ∈ oj.after, Region.binds md e = true → e.on ≠ i := fun e he hb heq => by
        have h1 := ready_deps hj hoj e he hb
        rw [heq, hiun] at h1
        cases h1
      have hjl : j ≠ last := fun e => by
        subst e
        have := clo_waits hclo _ _ i oj hoj (ready_deps hj hoj) hlast
        rw [hiun] at this
        cases this
      have h2 := wpOp_putIf hoj (hfree j oj hoj hji hjun hnot) (fun cs b => hsel i oi cs b hi) (fun cs b => hsel j oj cs b hoj) hQ hy h1
      have hfree' : ∀ k ok, ops[k]? = some ok → k ≠ i → (listed.setIfInBounds j true).getD k true = false →
          (∀ e ∈ ok.after, Region.binds md e = true → e.on ≠ i) → oi.apart ops ok = true := fun k ok hk hki hun hno => by
        refine hfree k ok hk hki ?_ hno
        by_cases hjk : j = k
        · subst hjk
          exact hjun
        · rw [getD_set_ne true hjk] at hun
          exact hun
      refine wpOp_mono (fun a' w' h3 => ⟨h3.2.1, ih (listed.setIfInBounds j true) a' w' (clo_set hclo hj) hfree' (ready_mono hr (Ne.symm hji)) h3.1 (h3.2.1 hjl) ?_⟩) h2
      rw [Array.setIfInBounds_comm _ _ hji]
      exact h3.2.2
variable {fuel : Nat} {listed : Array Bool} {t : List Value} {d : List Deferred} {w : World}
theorem takeY (i k : Nat) {oi : Oper} {v : Value} (hi : ops[i]? = some oi) (hd : oi.dst = some k)
    (hs : Region.noSelect ops = true) (hf : Region.free md ops listed i = true) (hr : (Region.ready md ops listed).contains i = true)
    (hQ : ∀ c a w, Q (.panic c) (a.put oi.dst v) w → Q (.panic c) a w) (hw : Region.wanted oi (yielded ops t.toArray) = true) (hlast : waitsN md ops ops.size last i = true) (hc : cloB md ops listed = true) (hil : i ≠ last) (hS : S w)
    (hy : ∀ w, S w → (execOp (Act.eval ⟨t.toArray, d⟩) oi).run P w = .ok (.value v) w)
    (h : wpAnyX P md ops Q S last fuel (listed.setIfInBounds i true) ⟨(t.set k v).toArray, d⟩ w) : wpAnyX P md ops Q S last (fuel + 1) listed ⟨t.toArray, d⟩ w := by
  refine firstY hi (Region.noSelect_spec hs) hQ hlast hil fuel listed _ w (clo_of hc) (Region.free_spec hi hf) (by simpa using hr) (Or.inl ⟨hw, hy⟩) hS ?_
  have e : Act.put ⟨t.toArray, d⟩ oi.dst v = ⟨(t.set k v).toArray, d⟩ := by simp [hd, Act.put]
  rw [e]
  exact h
theorem moveY (i k x : Nat) {oi : Oper} {v : Value} (hi : ops[i]? = some oi) (hd : oi.dst = some k) (ho : oi.op = .move (.tmp x))
    (hs : Region.noSelect ops = true) (hf : Region.free md ops listed i = true) (hr : (Region.ready md ops listed).contains i = true)
    (hQ : ∀ c a w, Q (.panic c) (a.put oi.dst v) w → Q (.panic c) a w) (hw : Region.wanted oi (yielded ops t.toArray) = true) (hlast : waitsN md ops ops.size last i = true) (hc : cloB md ops listed = true) (hil : i ≠ last) (hS : S w)
    (hv : t[x]? = some v)
    (h : wpAnyX P md ops Q S last fuel (listed.setIfInBounds i true) ⟨(t.set k v).toArray, d⟩ w) : wpAnyX P md ops Q S last (fuel + 1) listed ⟨t.toArray, d⟩ w :=
  takeY i k hi hd hs hf hr hQ hw hlast hc hil hS (fun w _ => by rw [BigFrame.run_move _ ho w, eval_slot hv]) h
end
end Go.Proofs.Ytnimhlkoikjomaa
