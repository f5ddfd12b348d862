/- ObjA LfOut RegionY ShareW RefTr: texts laid together. -/
import Derived.Test.YtkbhkgfchiacbaaM02
import Derived.Test.YtkbhkgfchiacbaaM01
import Derived.Test.YtkbhkgfchiacbaaM04
import Derived.Test.YtkbhkgfchiacbaaM07
import Derived.Test.YtkbhkgfchiacbaaM09
import Derived.Test.YtkbhkgfchiacbaaM10
import Derived.Test.YtkbhkgfchiacbaaM08

/- Objects: what a statement asks of one, whatever memory it has. -/
namespace Go.Proofs.Ytkbhkgfchiacbaa
open Go.RowKit
set_option maxRecDepth 20000

/-- An invariant of an object: it hangs on the blocks of F alone. -/
structure ObjBase {σ : Type} (Inv : (Nat → Prop) → World → Value → σ → Prop) : Prop where
  stay : ∀ {F : Nat → Prop} {w w' : World} {v : Value} {st : σ}, Inv F w v st → w.heap.size ≤ w'.heap.size → (∀ k, F k → w'.heap[k]? = w.heap[k]?) → Inv F w' v st
  lt : ∀ {F : Nat → Prop} {w : World} {v : Value} {st : σ}, Inv F w v st → ∀ k, F k → k < w.heap.size
  ptr : ∀ {F : Nat → Prop} {w : World} {v : Value} {st : σ}, Inv F w v st → ∃ a, v = .pointer (some a)
/-- Behind a call on an object: what it has now, and what has turned. -/
structure KeptG {σ : Type} (Inv : (Nat → Prop) → World → Value → σ → Prop) (F : Nat → Prop) (w : World) (v : Value) (F' : Nat → Prop) (w' : World) (st' : σ) : Prop where
  inv : Inv F' w' v st'
  sub : ∀ k, F' k → F k ∨ w.heap.size ≤ k
  off : Off F w w'
variable {σ : Type} {Inv : (Nat → Prop) → World → Value → σ → Prop}
theorem ObjBase.keep (h : ObjBase Inv) {F G : Nat → Prop} {w w' : World} {v : Value} {st : σ} (hI : Inv F w v st) (hb : Off G w w') (hd : ∀ k, F k → ¬ G k) : Inv F w' v st :=
  h.stay hI hb.size (fun k hk => hb.block k (h.lt hI k hk) (hd k hk))
theorem ObjBase.below (h : ObjBase Inv) {F : Nat → Prop} {w w' : World} {v : Value} {st : σ} (hI : Inv F w v st) (hb : Below w.heap.size w w') : Inv F w' v st :=
  h.keep hI (Off.of_below (F := fun _ => False) hb) (fun _ _ h => h)
theorem ObjBase.kept (h : ObjBase Inv) {F : Nat → Prop} {w w' : World} {v : Value} {st : σ} (hI : Inv F w v st) (hb : Below w.heap.size w w') : KeptG Inv F w v F w' st := ⟨h.below hI hb, fun _ h => Or.inl h, Off.of_below hb⟩
/-- An object made by the statement, with all that came ahead of it as it was. -/
structure ObjIn (Inv : (Nat → Prop) → World → Value → σ → Prop) (w : World) (F : Nat → Prop) (v : Value) (st : σ) (wr : World) : Prop where
  inv : Inv F wr v st
  hF : ∀ k, F k → w.heap.size ≤ k
  hB : Below w.heap.size w wr
theorem ObjIn.o {w : World} {F F' : Nat → Prop} {v : Value} {st st' : σ} {wr wr' : World} (h : ObjIn Inv w F v st wr) (hK : KeptG Inv F wr v F' wr' st') : ObjIn Inv w F' v st' wr' :=
  ⟨hK.inv, fun k hk => (hK.sub k hk).elim (h.hF k) (fun e => Nat.le_trans h.hB.size e), h.hB.trans (hK.off.below h.hF h.hB.size)⟩
theorem ObjIn.quiet (hO : ObjBase Inv) {w : World} {F : Nat → Prop} {v : Value} {st : σ} {wr wr' : World} (h : ObjIn Inv w F v st wr) (hb : Below wr.heap.size wr wr') : ObjIn Inv w F v st wr' :=
  ⟨hO.below h.inv hb, h.hF, h.hB.trans (hb.mono h.hB.size)⟩
theorem ObjIn.off (hO : ObjBase Inv) {w : World} {F G : Nat → Prop} {v : Value} {st : σ} {wr wr' : World} (h : ObjIn Inv w F v st wr) (hb : Off G wr wr') (hd : ∀ k, F k → ¬ G k) (hG : ∀ k, G k → w.heap.size ≤ k) : ObjIn Inv w F v st wr' :=
  ⟨hO.keep h.inv hb hd, h.hF, h.hB.trans (hb.below hG h.hB.size)⟩
/-- A block of cells that was made. -/
def CBox (T : TypeId) (w : World) (b : Nat) (cs : Array Value) : Prop := w.heap[b]? = some (.cells cs T (0, 0))
theorem CBox.new (T : TypeId) (w : World) (cs : Array Value) : CBox T (w.alloc (.cells cs T)) w.heap.size cs := by
  show (w.heap.push _)[w.heap.size]? = _
  simp
theorem CBox.lt {T : TypeId} {w : World} {b : Nat} {cs : Array Value} (h : CBox T w b cs) : b < w.heap.size := by
  obtain ⟨hlt, _⟩ := Array.getElem?_eq_some_iff.1 h
  exact hlt
theorem CBox.cell {T : TypeId} {w : World} {b : Nat} {cs : Array Value} (h : CBox T w b cs) (i : Nat) : w.cell? ⟨b, i, none⟩ = cs[i]? := by unfold CBox at h; simp [World.cell?, h]
theorem CBox.frozen {T : TypeId} {w : World} {b : Nat} {cs : Array Value} (h : CBox T w b cs) (i : Nat) : w.frozen? ⟨b, i, none⟩ = false := by unfold CBox at h; simp [World.frozen?, h]
theorem CBox.grown {T : TypeId} {w w' : World} {b : Nat} {cs : Array Value} (h : CBox T w b cs) (hb : Below w.heap.size w w') : CBox T w' b cs := (hb.block b h.lt).trans h
theorem CBox.off {T : TypeId} {w w' : World} {b : Nat} {cs : Array Value} {F : Nat → Prop} (h : CBox T w b cs) (hb : Off F w w') (hn : ¬ F b) : CBox T w' b cs := off_block h hb hn
theorem CBox.put {T : TypeId} {w : World} {b : Nat} {cs : Array Value} (h : CBox T w b cs) (i : Nat) (v : Value) : CBox T (w.setCell ⟨b, i, none⟩ v) b (cs.setIfInBounds i v) := by
  unfold CBox at h ⊢
  simp [World.setCell, Array.getElem?_modify, h]
end Go.Proofs.Ytkbhkgfchiacbaa


/- Numbers and Pairs as bytes, whatever function makes them; a row of two bytes that was made. -/
namespace Go.Proofs.Ytkbhkgfchiacbaa
open Go.RowKit
set_option maxRecDepth 20000

def PutIn (fn : Nat) : Prop := ∀ (V n : Nat), 1 ≤ n → n ≤ 8 → ∀ w : World, Calls Try.prog fn #[.int .u64 V, .int .i64 n] w fun e w' => ∃ x c, e = .returned (.slice x n c) ∧ SAt w' x n (putL V n) ∧ Fit x n c ∧ Below w.heap.size w w'
def BytesIn (fn : Nat) : Prop := ∀ (p : BitVec 64 × BitVec 64) (w : World), Calls Try.prog fn #[.agg #[.int .u64 (nv p.1), .int .u64 (nv p.2)]] w fun e w' => ∃ x c, e = .returned (.slice x 16 c) ∧ SAt w' x 16 (pairL p) ∧ Fit x 16 c ∧ Below w.heap.size w w'
theorem rput_in : PutIn 59 := fun V n h1 h2 w => (rput_own V n w h1 h2).mono (by
  rintro e w' ⟨v, rfl, own, hb⟩
  obtain ⟨x, c, rfl, hs, f1, f2, f3⟩ := own_slice (putL_length V n) own
  exact ⟨x, c, rfl, hs, ⟨f1, f2, f3⟩, hb⟩)
theorem rbytes_in : BytesIn 42 := fun p w => (rbytes p w).mono (by
  rintro e w' ⟨v, rfl, own, hb⟩
  obtain ⟨x, c, rfl, hs, f1, f2, f3⟩ := own_slice (pairL_length p) own
  exact ⟨x, c, rfl, hs, ⟨f1, f2, f3⟩, hb⟩)
theorem wput_in : PutIn 56 := fun V n h1 h2 w => (put_some V n w h1 h2).mono (by
  rintro e w' ⟨rfl, hat, hb, hlt⟩
  exact ⟨_, _, rfl, hat.sat hlt (putL_length V n), ⟨Nat.le_refl _, by unfold maxLen; omega, fun e => by cases e⟩, hb⟩)
theorem wbytes_in : BytesIn 40 := fun p w => (bytes_any p.1.toNat p.2.toNat w).mono (by
  rintro e w' ⟨g, rfl, hg, hr, hb⟩
  exact ⟨_, _, rfl, hr.sat (pairL_length p), ⟨Nat.le_refl _, by decide, fun e => by cases e⟩, hb⟩)
theorem own_cbox {w : World} {g n base : Nat} {cs : Array Value} (h : CBox 5 w g cs) (hn : cs.size = n) (hb : base ≤ g) (hm : n ≤ maxLen) : w.ownsRow base 5 1 (.slice (some ⟨g, 0, none⟩) n n) n cs.toList :=
  ⟨by rw [Nat.mul_one, Array.length_toList]; exact hn, .inr ⟨g, n, cs, rfl, hb, h, Nat.le_refl _, hm, by rw [Nat.mul_one]; exact hn, by rw [Nat.mul_one, ← hn, ← Array.length_toList, List.take_length]⟩⟩
end Go.Proofs.Ytkbhkgfchiacbaa


/- RegionX's laws where the last operation waits for another one by way of others. -/
namespace Go.Proofs.Ytkbhkgfchiacbaa
open Go.RowKit
set_option maxRecDepth 20000
section
variable {P : Program} {ops : Array Oper} {Q : Exit → Act → World → Prop} {md : Region.Mode} {S : World → Prop} {last : Nat}

/-- Number l waits for number i, in at most n steps. -/
def waitsN (md : Region.Mode) (ops : Array Oper) : Nat → Nat → Nat → Bool
  | 0, _, _ => false
  | n + 1, l, i => match ops[l]? with
    | some o => o.after.any fun e => Region.binds md e && (e.on == i || waitsN md ops n e.on i)
    | none => false
/-- Of what is done all is done that it waits for. -/
def Clo (md : Region.Mode) (ops : Array Oper) (listed : Array Bool) : Prop := ∀ m om, ops[m]? = some om → listed.getD m false = true → ∀ e ∈ om.after, Region.binds md e = true → listed.getD e.on false = true
def cloB (md : Region.Mode) (ops : Array Oper) (listed : Array Bool) : Bool := (List.range ops.size).all fun m => !listed.getD m false || match ops[m]? with
  | some o => o.after.all fun e => !Region.binds md e || listed.getD e.on false
  | none => true
theorem clo_of {listed : Array Bool} (h : cloB md ops listed = true) : Clo md ops listed := by
  intro m om hm hl e he hb
  have hlt : m < ops.size := (Array.getElem?_eq_some_iff.1 hm).1
  have h1 := List.all_eq_true.1 h m (List.mem_range.2 hlt)
  simp only [hl, hm, Bool.not_true, Bool.false_or] at h1
  obtain ⟨n, hn, rfl⟩ := Array.getElem_of_mem he
  have h2 := Array.all_eq_true.1 h1 n hn
  rw [hb] at h2
  simpa using h2
theorem ready_deps {l : Array Bool} {i : Nat} {oi : Oper} (hr : i ∈ Region.ready md ops l) (hi : ops[i]? = some oi) : ∀ e ∈ oi.after, Region.binds md e = true → l.getD e.on false = true := by
  intro e he hb
  obtain ⟨_, o, ho, hall⟩ := mem_ready.1 hr
  obtain rfl : oi = o := by rw [hi] at ho; exact Option.some.inj ho
  exact hall e he hb
theorem clo_waits {listed : Array Bool} (hc : Clo md ops listed) : ∀ (n l i : Nat) (ol : Oper), ops[l]? = some ol → (∀ e ∈ ol.after, Region.binds md e = true → listed.getD e.on false = true) → waitsN md ops n l i = true → listed.getD i false = true
  | 0, _, _, _, _, _, h => by cases h
  | n + 1, l, i, ol, hl, hd, h => by
    simp only [waitsN, hl, Array.any_eq_true] at h
    obtain ⟨k, hk, hb⟩ := h
    rw [Bool.and_eq_true, Bool.or_eq_true, beq_iff_eq] at hb
    have h1 := hd _ (Array.getElem_mem hk) hb.1
    rcases hb.2 with e | e
    · rw [← e]
      exact h1
    · cases hm : ops[(ol.after[k]).on]? with
      | none =>
        cases n with
        | zero => simp [waitsN] at e
        | succ n => simp [waitsN, hm] at e
      | some om => exact clo_waits hc n _ i om hm (fun e' he' hb' => hc _ om hm h1 e' he' hb') e
theorem getD_set' {l : Array Bool} {i j : Nat} (h : l.getD j false = true) : (l.setIfInBounds i true).getD j false = true := by
  by_cases e : i = j
  · subst e
    have hi : i < l.size := by
      rcases Nat.lt_or_ge i l.size with h' | h'
      · exact h'
      · simp [Array.getElem?_eq_none h'] at h
    simp [hi]
  · simpa [Array.getD_eq_getD_getElem?, Array.getElem?_setIfInBounds_ne e] using h
theorem clo_set {l : Array Bool} {i : Nat} (hc : Clo md ops l) (hr : i ∈ Region.ready md ops l) : Clo md ops (l.setIfInBounds i true) := by
  intro m om hm hl e he hb
  by_cases h : i = m
  · subst h
    exact getD_set' (ready_deps hr hm e he hb)
  · have hl' : l.getD m false = true := by simpa [Array.getD_eq_getD_getElem?, Array.getElem?_setIfInBounds_ne h] using hl
    exact getD_set' (hc m om hm hl' e he hb)
theorem firstY {i : Nat} {oi : Oper} {v : Value} (hi : ops[i]? = some oi) (hsel : ∀ (j : Nat) (o : Oper) cs b, ops[j]? = some o → o.op ≠ .select cs b)
    (hQ : ∀ c a w, Q (.panic c) (a.put oi.dst v) w → Q (.panic c) a w) (hlast : waitsN md ops ops.size last i = true) (hil : i ≠ last) :
    ∀ (fuel : Nat) (listed : Array Bool) (a : Act) (w : World), Clo md ops listed →
      (∀ j oj, ops[j]? = some oj → j ≠ i → listed.getD j true = false → (∀ e ∈ oj.after, Region.binds md e = true → e.on ≠ i) → oi.apart ops oj = true) →
      i ∈ Region.ready md ops listed → YieldsIf P ops S oi v a → S w →
      wpAnyX P md ops Q S last fuel (listed.setIfInBounds i true) (a.put oi.dst v) w → wpAnyX P md ops Q S last (fuel + 1) listed a w := by
  intro fuel
  induction fuel with
  | zero =>
    intro listed a w _ _ hr hy hS H
    refine ⟨fun h => (by rw [h] at hr; cases hr), fun j hj => ?_⟩
    by_cases hji : j = i
    · subst hji
      exact hy.wpOp hi hS ⟨fun _ => hS, H⟩
    · have := ready_mono hj hji
      rw [H.1] at this
      cases this
  | succ fuel ih =>
    intro listed a w hclo hfree hr hy hS H
    refine ⟨fun h => (by rw [h] at hr; cases hr), fun j hj => ?_⟩
    by_cases hji : j = i
    · subst hji
      exact hy.wpOp hi hS ⟨fun _ => hS, H⟩
    · have h1 := H.2 j (ready_mono hj hji)
      obtain ⟨hjun, oj, hoj, hall⟩ := mem_ready.1 hj
      have hiun : listed.getD i false = false := by
        have h0 := (mem_ready.1 hr).1
        rcases Nat.lt_or_ge i listed.size with h' | h'
        · simp [h'] at h0 ⊢
          exact h0
        · simp [Array.getElem?_eq_none h']
      have hnot : ∀ e ∈ oj.after, Region.binds md e = true → e.on ≠ i := fun e he hb heq => by
        have h1 := ready_deps hj hoj e he hb
        rw [heq, hiun] at h1
        cases h1
      have hjl : j ≠ last := fun e => by
        subst e
        have := clo_waits hclo _ _ i oj hoj (ready_deps hj hoj) hlast
        rw [hiun] at this
        cases this
      have h2 := wpOp_putIf hoj (hfree j oj hoj hji hjun hnot) (fun cs b => hsel i oi cs b hi) (fun cs b => hsel j oj cs b hoj) hQ hy h1
      have hfree' : ∀ k ok, ops[k]? = some ok → k ≠ i → (listed.setIfInBounds j true).getD k true = false →
          (∀ e ∈ ok.after, Region.binds md e = true → e.on ≠ i) → oi.apart ops ok = true := fun k ok hk hki hun hno => by
        refine hfree k ok hk hki ?_ hno
        by_cases hjk : j = k
        · subst hjk
          exact hjun
        · rw [getD_set_ne true hjk] at hun
          exact hun
      refine wpOp_mono (fun a' w' h3 => ⟨h3.2.1, ih (listed.setIfInBounds j true) a' w' (clo_set hclo hj) hfree' (ready_mono hr (Ne.symm hji)) h3.1 (h3.2.1 hjl) ?_⟩) h2
      rw [Array.setIfInBounds_comm _ _ hji]
      exact h3.2.2
variable {fuel : Nat} {listed : Array Bool} {t : List Value} {d : List Deferred} {w : World}
theorem takeY (i k : Nat) {oi : Oper} {v : Value} (hi : ops[i]? = some oi) (hd : oi.dst = some k)
    (hs : Region.noSelect ops = true) (hf : Region.free md ops listed i = true) (hr : (Region.ready md ops listed).contains i = true)
    (hQ : ∀ c a w, Q (.panic c) (a.put oi.dst v) w → Q (.panic c) a w) (hw : Region.wanted oi (yielded ops t.toArray) = true) (hlast : waitsN md ops ops.size last i = true) (hc : cloB md ops listed = true) (hil : i ≠ last) (hS : S w)
    (hy : ∀ w, S w → (execOp (Act.eval ⟨t.toArray, d⟩) oi).run P w = .ok (.value v) w)
    (h : wpAnyX P md ops Q S last fuel (listed.setIfInBounds i true) ⟨(t.set k v).toArray, d⟩ w) : wpAnyX P md ops Q S last (fuel + 1) listed ⟨t.toArray, d⟩ w := by
  refine firstY hi (Region.noSelect_spec hs) hQ hlast hil fuel listed _ w (clo_of hc) (Region.free_spec hi hf) (by simpa using hr) (Or.inl ⟨hw, hy⟩) hS ?_
  have e : Act.put ⟨t.toArray, d⟩ oi.dst v = ⟨(t.set k v).toArray, d⟩ := by simp [hd, Act.put]
  rw [e]
  exact h
theorem moveY (i k x : Nat) {oi : Oper} {v : Value} (hi : ops[i]? = some oi) (hd : oi.dst = some k) (ho : oi.op = .move (.tmp x))
    (hs : Region.noSelect ops = true) (hf : Region.free md ops listed i = true) (hr : (Region.ready md ops listed).contains i = true)
    (hQ : ∀ c a w, Q (.panic c) (a.put oi.dst v) w → Q (.panic c) a w) (hw : Region.wanted oi (yielded ops t.toArray) = true) (hlast : waitsN md ops ops.size last i = true) (hc : cloB md ops listed = true) (hil : i ≠ last) (hS : S w)
    (hv : t[x]? = some v)
    (h : wpAnyX P md ops Q S last fuel (listed.setIfInBounds i true) ⟨(t.set k v).toArray, d⟩ w) : wpAnyX P md ops Q S last (fuel + 1) listed ⟨t.toArray, d⟩ w :=
  takeY i k hi hd hs hf hr hQ hw hlast hc hil hS (fun w _ => by rw [BigFrame.run_move _ ho w, eval_slot hv]) h
end
end Go.Proofs.Ytkbhkgfchiacbaa


/- Several orders, one rest: a world and three things more. -/
namespace Go.Proofs.Ytkbhkgfchiacbaa
open Go.RowKit
set_option maxRecDepth 20000

theorem shareW {B C D : Type} {Cond P : World → B → C → D → Prop} {X : Prop} (h1 : (∀ a b c d, Cond a b c d → P a b c d) → X) (h2 : ∀ a b c d, Cond a b c d → P a b c d) : X := h1 h2
end Go.Proofs.Ytkbhkgfchiacbaa


/- The document's sums of a tree. -/
namespace Go.Proofs.Ytkbhkgfchiacbaa
open Go.RowKit
set_option maxRecDepth 20000

/-- Behind a call on the document's lock. -/
structure KeptR (G : Nat → Prop) (w : World) (b : Nat) (G' : Nat → Prop) (w' : World) (st' : LSt) : Prop where
  inv : RLInv G' w' b st'
  sub : ∀ k, G' k → G k ∨ w.heap.size ≤ k
  off : Off G w w'
  u : U8 w w'
theorem RLInv.keptR {G : Nat → Prop} {w w' : World} {b : Nat} {st : LSt} (h : RLInv G w b st) (hb : Below w.heap.size w w') : KeptR G w b G w' st := ⟨h.below hb, fun _ h => Or.inl h, Off.of_below hb, U8.of_below hb⟩
theorem KeptR.trans {G H J : Nat → Prop} {a c d : World} {b : Nat} {s t : LSt} (h : KeptR G a b H c s) (k : KeptR H c b J d t) : KeptR G a b J d t :=
  ⟨k.inv, fun i hi => (k.sub i hi).elim (h.sub i) (fun e => Or.inr (Nat.le_trans h.off.size e)), h.off.trans k.off (fun i hi => h.sub i hi), h.u.trans k.u⟩
theorem Typ8.own {w : World} {base n : Nat} {v : Value} {xs : List Value} (h : w.ownsRow base 5 1 v n xs) {k : Nat} (hk : v.ownBlock = some k) : ∃ cur, w.heap[k]? = some (.cells cur 5 (0, 0)) := own_type h hk
theorem box_typ {w : World} {b : Nat} {x y : Int} (h : Box w b x y) {cur : Array Value} {fr : Nat × Nat} (h2 : w.heap[b]? = some (.cells cur 5 fr)) : False := by
  unfold Box at h
  rw [h] at h2
  simp at h2
/-- A result in a block of the call's own. -/
theorem KeptR.put {G G' : Nat → Prop} {w w' : World} {b A : Nat} {st : LSt} {x y : Int} (h : KeptR G w b G' w' st) (hb : Box w' A x y) (hA : w.heap.size ≤ A) (hG : ¬ G' A) (u v : Value) : KeptR G w b G' ((w'.setCell ⟨A, 0, none⟩ u).setCell ⟨A, 1, none⟩ v) st := by
  have hp : Off (fun k => k = A) w' ((w'.setCell ⟨A, 0, none⟩ u).setCell ⟨A, 1, none⟩ v) := ((Off.refl (fun k => k = A) w').setCell (p := ⟨A, 0, none⟩) (Or.inl rfl) _).setCell (p := ⟨A, 1, none⟩) (Or.inl rfl) _
  exact ⟨h.inv.off hp (fun k _ hk e => hG (e ▸ hk)), h.sub, h.off.trans hp (fun i e => Or.inr (e ▸ hA)), h.u.trans (U8.of_off hp (fun k cur fr hk e => box_typ hb (e ▸ hk)))⟩
set_option maxHeartbeats 1000000 in
theorem rtLow (G : Nat → Prop) (b : Nat) (st : LSt) (xs : List Int) (x : Option Addr) (n c : Nat) (hn : n ≤ 40000) (hS : st.sums.length ≤ 50000) (bx : Bytes xs) (fx : Fit x n c) (w : World) (hI : RLInv G w b st) (sx : SIn (fun k => ¬ G k) w x n xs) :
    Calls Try.prog 26 #[.pointer (some ⟨b, 0, none⟩), .slice x n c] w fun e w' => e = .returned (.agg #[.int .u64 (nv (st.sumQ (lowZ xs)).1), .int .u64 (nv (st.sumQ (lowZ xs)).2)]) ∧ ∃ G', KeptR G w b G' w' (st.sumS (lowZ xs)) := by
  have hxl := sx.1
  have hlt := hI.lt
  have bR0 := Box.new w 0 0
  have hB1 : Below w.heap.size w (w.alloc (.cells #[.int .u64 0, .int .u64 0] 34)) := (Below.refl _ _).alloc (Nat.le_refl _) _
  have hs1 : (w.alloc (.cells #[.int .u64 0, .int .u64 0] 34)).heap.size = w.heap.size + 1 := World.size_alloc ..
  have hl1 : Below (w.alloc (.cells #[.int .u64 0, .int .u64 0] 34)).heap.size (w.alloc (.cells #[.int .u64 0, .int .u64 0] 34)) ((w.alloc (.cells #[.int .u64 0, .int .u64 0] 34)).alloc (.cells #[.int .u8 0] 5)) := (Below.refl _ _).alloc (Nat.le_refl _) _
  have own0 : ((w.alloc (.cells #[.int .u64 0, .int .u64 0] 34)).alloc (.cells #[.int .u8 0] 5)).ownsRow (w.heap.size + 1) 5 1 (.slice (some ⟨w.heap.size + 1, 0, none⟩) 1 1) 1 (([0] : List Int).map (Value.int .u8)) := by
    have := World.ownsRow_lit (base := w.heap.size + 1) (e := 5) (size := 1) (w.alloc (.cells #[.int .u64 0, .int .u64 0] 34)) #[.int .u8 0] 1 (by rw [hs1]; exact Nat.le_refl _) (by decide) rfl
    rw [hs1] at this
    exact this
  have bR1 := bR0.grown hl1
  have sx1 := (sx.sat.below hB1).below hl1
  have hB2 : Below w.heap.size w ((w.alloc (.cells #[.int .u64 0, .int .u64 0] 34)).alloc (.cells #[.int .u8 0] 5)) := hB1.trans (hl1.mono hB1.size)
  go_enter Try.func26, Try.ntmps26
  go_wp2_with (at_builtin; refine wpList_app rfl (.tmp 6) (.tmp 7) rfl (w.heap.size + 1) _ 1 [0] rfl own0 x n c xs rfl sx1 fx.2.2 (by omega) (by rw [World.size_alloc, World.size_alloc]; omega) ?_)
  intro v3 w3 own3 hb3 _
  have hA3 : w.heap.size < w3.heap.size := Nat.lt_of_lt_of_le bR1.lt hb3.size
  have bR3 : Box w3 w.heap.size 0 0 := bR1.below hb3 (Nat.lt_succ_self _)
  have hB3 : Below w.heap.size w w3 := hB2.trans (hb3.mono (Nat.le_succ _))
  clear own0 bR0 bR1 sx1 hb3 hl1
  generalize (w.alloc (.cells #[.int .u64 0, .int .u64 0] 34)).alloc (.cells #[.int .u8 0] 5) = W2 at *
  obtain ⟨z, cz, rfl, hs3, f1, f2, f3⟩ := own_sin (n := 1 + n) (xs := [0] ++ xs) (by rw [List.length_append, hxl]; rfl) own3
  have hsG : SIn (fun k => ¬ G k) w3 z (1 + n) (lowZ xs) := hs3.mono (fun k _ hk hg => by have := own_block own3 k hk; have := hlt k hg; omega)
  have hI3 := hI.below hB3
  have hQ := st.sumV_Q (lowZ xs) (by omega)
  have hsum := rlsum G b st (lowZ xs) z (1 + n) cz (by omega) hS (lowZ_bytes bx) ⟨f1, f2, f3⟩ w3 hI3 hsG
  rw [hQ] at hsum
  obtain ⟨q, HQ⟩ : ∃ q, Hid (st.sumQ (lowZ xs) = q) := ⟨_, rfl⟩
  rw [HQ.out] at hsum
  obtain ⟨q1, hq1⟩ : ∃ q1, nv q.1 = q1 := ⟨_, rfl⟩
  obtain ⟨q2, hq2⟩ : ∃ q2, nv q.2 = q2 := ⟨_, rfl⟩
  rw [hq1, hq2] at hsum
  have HQ1 := hide' hq1
  have HQ2 := hide' hq2
  clear hq1 hq2
  go_wp2_with fail
  refine hsum.mono ?_
  clear hsum hQ own3 hs3 hsG
  rintro e w4 ⟨rfl, G4, hI4, hsub, hoff, hu⟩
  have hnG : ¬ G4 w.heap.size := fun h => (hsub _ h).elim (fun h => by have := hlt _ h; omega) (fun h => by omega)
  have bR4 : Box w4 w.heap.size 0 0 := off_block bR3 hoff (fun h => by have := hlt _ h; omega)
  have hK : KeptR G w b G4 w4 (st.sumS (lowZ xs)) := (hI.keptR hB3).trans ⟨hI4, hsub, hoff, hu⟩
  have hK2 := hK.put bR4 (Nat.le_refl _) hnG (.int .u64 q1) (.int .u64 q2)
  have e0 := bR4.c0
  have e1 := bR4.c1
  have e2 := bR4.frozen 0
  have e3 := bR4.frozen 1
  have bR5 := bR4.put2 q1 q2
  clear hK
  go_wp2
  clear e0 e1 e2 e3
  have r0 := bR5.c0
  have r1 := bR5.c1
  exact bodyPost_ret (v := .agg #[.int .u64 q1, .int .u64 q2]) (by simp [results, Try.results26, go_sem, r0, r1]) rfl ⟨by rw [HQ.out, HQ1.out, HQ2.out], G4, hK2⟩
set_option maxHeartbeats 2000000 in
theorem rtHigh (G : Nat → Prop) (b : Nat) (st : LSt) (p r : Pr) (hS : st.sums.length ≤ 50000) (w : World) (hI : RLInv G w b st) :
    Calls Try.prog 27 #[.pointer (some ⟨b, 0, none⟩), .agg #[.int .u64 (nv p.1), .int .u64 (nv p.2)], .agg #[.int .u64 (nv r.1), .int .u64 (nv r.2)]] w fun e w' => e = .returned (.agg #[.int .u64 (nv (st.sumQ (highZ p r)).1), .int .u64 (nv (st.sumQ (highZ p r)).2)]) ∧ ∃ G', KeptR G w b G' w' (st.sumS (highZ p r)) := by
  have hlt := hI.lt
  have hb1 : Below w.heap.size w (w.alloc (.cells #[.int .u64 (nv p.1), .int .u64 (nv p.2)] 34)) := (Below.refl _ _).alloc (Nat.le_refl _) _
  have hb2 : Below (w.alloc (.cells #[.int .u64 (nv p.1), .int .u64 (nv p.2)] 34)).heap.size (w.alloc (.cells #[.int .u64 (nv p.1), .int .u64 (nv p.2)] 34)) ((w.alloc (.cells #[.int .u64 (nv p.1), .int .u64 (nv p.2)] 34)).alloc (.cells #[.int .u64 (nv r.1), .int .u64 (nv r.2)] 34)) := (Below.refl _ _).alloc (Nat.le_refl _) _
  have hb3 : Below ((w.alloc (.cells #[.int .u64 (nv p.1), .int .u64 (nv p.2)] 34)).alloc (.cells #[.int .u64 (nv r.1), .int .u64 (nv r.2)] 34)).heap.size ((w.alloc (.cells #[.int .u64 (nv p.1), .int .u64 (nv p.2)] 34)).alloc (.cells #[.int .u64 (nv r.1), .int .u64 (nv r.2)] 34)) (((w.alloc (.cells #[.int .u64 (nv p.1), .int .u64 (nv p.2)] 34)).alloc (.cells #[.int .u64 (nv r.1), .int .u64 (nv r.2)] 34)).alloc (.cells #[.int .u64 0, .int .u64 0] 34)) := (Below.refl _ _).alloc (Nat.le_refl _) _
  have b1 := ((Box.new w (nv p.1) (nv p.2)).grown hb2).grown hb3
  have b2 := (Box.new (w.alloc (.cells #[.int .u64 (nv p.1), .int .u64 (nv p.2)] 34)) (nv r.1) (nv r.2)).grown hb3
  have b3 := Box.new ((w.alloc (.cells #[.int .u64 (nv p.1), .int .u64 (nv p.2)] 34)).alloc (.cells #[.int .u64 (nv r.1), .int .u64 (nv r.2)] 34)) 0 0
  have hB : Below w.heap.size w (((w.alloc (.cells #[.int .u64 (nv p.1), .int .u64 (nv p.2)] 34)).alloc (.cells #[.int .u64 (nv r.1), .int .u64 (nv r.2)] 34)).alloc (.cells #[.int .u64 0, .int .u64 0] 34)) := hb1.trans ((hb2.mono hb1.size).trans (hb3.mono (Nat.le_trans hb1.size hb2.size)))
  simp only [World.size_alloc] at b2 b3
  have hzq : (((w.alloc (.cells #[.int .u64 (nv p.1), .int .u64 (nv p.2)] 34)).alloc (.cells #[.int .u64 (nv r.1), .int .u64 (nv r.2)] 34)).alloc (.cells #[.int .u64 0, .int .u64 0] 34)).heap.size = w.heap.size + 3 := by rw [World.size_alloc, World.size_alloc, World.size_alloc]
  have hKq := hI.keptR hB
  have hIq := hI.below hB
  have hltq : ∀ k, G k → k < (((w.alloc (.cells #[.int .u64 (nv p.1), .int .u64 (nv p.2)] 34)).alloc (.cells #[.int .u64 (nv r.1), .int .u64 (nv r.2)] 34)).alloc (.cells #[.int .u64 0, .int .u64 0] 34)).heap.size := fun k hk => by have := hlt k hk; omega
  have n1 : ¬ G w.heap.size := fun h => by have := hlt _ h; omega
  have n2 : ¬ G (w.heap.size + 1) := fun h => by have := hlt _ h; omega
  have n3 : ¬ G (w.heap.size + 2) := fun h => by have := hlt _ h; omega
  clear hb1 hb2 hb3
  go_enter Try.func27, Try.ntmps27
  go_wp2_with fail
  generalize (((w.alloc (.cells #[.int .u64 (nv p.1), .int .u64 (nv p.2)] 34)).alloc (.cells #[.int .u64 (nv r.1), .int .u64 (nv r.2)] 34)).alloc (.cells #[.int .u64 0, .int .u64 0] 34)) = wq at *
  have hA0 : w.heap.size ≤ w.heap.size := Nat.le_refl _
  generalize hA : w.heap.size = A0 at *
  refine startX (S := fun w' => Off G wq w') 9 (by kernel_rfl) (Off.refl _ _).drew (fun hHeld => ?_)
  refine moveY 0 7 0 rfl rfl rfl (by kernel_rfl) (by kernel_rfl) (by kernel_rfl) (fun _ _ _ h => h) (by rfl) (by kernel_rfl) (by kernel_rfl) (by decide) hHeld rfl ?_
  simp only [List.set_cons_succ, List.set_cons_zero]
  refine takeY 2 9 (v := ?_) rfl rfl (by kernel_rfl) (by kernel_rfl) (by kernel_rfl) (fun _ _ _ h => h) (by rfl) (by kernel_rfl) (by kernel_rfl) (by decide) hHeld (fun w hSw => ?_) ?_
  rotate_left 1
  · (try dsimp only at hSw)
    have b1_ : Box w A0 (nv p.1) (nv p.2) := off_block b1 hSw n1
    have e0_ := b1_.c0
    have e1_ := b1_.c1
    clear b1_
    clear hSw
    go_simp
    try with_reducible rfl
  simp only [List.set_cons_succ, List.set_cons_zero]
  refine takeY 5 12 (v := ?_) rfl rfl (by kernel_rfl) (by kernel_rfl) (by kernel_rfl) (fun _ _ _ h => h) (by rfl) (by kernel_rfl) (by kernel_rfl) (by decide) hHeld (fun w hSw => ?_) ?_
  rotate_left 1
  · (try dsimp only at hSw)
    have b2_ : Box w (A0 + 1) (nv r.1) (nv r.2) := off_block b2 hSw n2
    have e0_ := b2_.c0
    have e1_ := b2_.c1
    clear b2_
    clear hSw
    go_simp
    try with_reducible rfl
  simp only [List.set_cons_succ, List.set_cons_zero]
  clear hHeld
  have HZQ := hide' hzq
  clear hzq
  obtain ⟨B0, HB0⟩ : ∃ B0, Hid (wq.heap.size = B0) := ⟨_, hide' rfl⟩
  refine shareW (P := ?Pshr) (Cond := fun w2 (u : Nat) x2 c2 => w2.ownsRow B0 5 1 (.slice (some ⟨u, 0, none⟩) 1 1) 1 (([1] : List Int).map (Value.int .u8)) ∧ SAt w2 x2 16 (pairL p) ∧ Fit x2 16 c2 ∧ Below B0 wq w2) (fun fin => ?one) ?two
  rotate_left
  case one =>
    refine twoX 1 3 rfl rfl rfl rfl (by kernel_rfl) ?_ ?_
    · have own0 : ((wq.alloc (.cells #[.int .u8 1] 5))).ownsRow B0 5 1 (.slice (some ⟨wq.heap.size, 0, none⟩) 1 1) 1 (([1] : List Int).map (Value.int .u8)) := World.ownsRow_lit (base := B0) (e := 5) (size := 1) wq #[.int .u8 1] 1 (Nat.le_of_eq HB0.out.symm) (by decide) rfl
      have hl1 : Below wq.heap.size wq (wq.alloc (.cells #[.int .u8 1] 5)) := (Below.refl _ _).alloc (Nat.le_refl _) _
      go_wp2_with fail
      refine ⟨(Off.of_below (F := G) hl1).drew, ?_⟩
      have own1 : ((wq.alloc (.cells #[.int .u8 1] 5)).drew).ownsRow B0 5 1 (.slice (some ⟨wq.heap.size, 0, none⟩) 1 1) 1 (([1] : List Int).map (Value.int .u8)) := own0
      have h1 : Below wq.heap.size wq ((wq.alloc (.cells #[.int .u8 1] 5)).drew) := hl1.drew
      clear own0 hl1
      generalize (wq.alloc (.cells #[.int .u8 1] 5)).drew = w1 at *
      refine onlyX 3 rfl (by kernel_rfl) (by rfl) (fun K hK => ?_)
      go_wp2_with fail
      refine (rbytes_in p _).mono ?_
      rintro e w2 ⟨x2, c2, rfl, s2, f2, hb⟩
      have h2 := h1.trans (hb.mono h1.size)
      replace own1 := own_grown own1 hb
      refine hK.out _ _ (fun _ => Off.of_below h2) (fun _ => ?_)
      clear hK K hb h1
      replace h2 : Below B0 wq w2 := HB0.out ▸ h2
      generalize wq.heap.size = u at own1 ⊢
      exact fin w2 u x2 c2 ⟨own1, s2, f2, h2⟩
    · go_wp2_with fail
      refine (rbytes_in p _).mono ?_
      rintro e w1 ⟨x2, c2, rfl, s2, f2, hb⟩
      have h1 : Below wq.heap.size wq w1 := (Below.refl _ _).drew.trans hb
      refine ⟨Off.of_below h1, ?_⟩
      clear hb
      refine onlyX 1 rfl (by kernel_rfl) (by rfl) (fun K hK => ?_)
      have own0 : ((w1.alloc (.cells #[.int .u8 1] 5))).ownsRow B0 5 1 (.slice (some ⟨w1.heap.size, 0, none⟩) 1 1) 1 (([1] : List Int).map (Value.int .u8)) := World.ownsRow_lit (base := B0) (e := 5) (size := 1) w1 #[.int .u8 1] 1 (HB0.out ▸ h1.size) (by decide) rfl
      have hl1 : Below w1.heap.size w1 (w1.alloc (.cells #[.int .u8 1] 5)) := (Below.refl _ _).alloc (Nat.le_refl _) _
      have s2' := s2.below hl1
      have h2 := h1.trans (hl1.mono h1.size)
      go_wp2_with fail
      refine hK.out _ _ (fun _ => Off.of_below h2) (fun _ => ?_)
      clear hK K
      replace h2 : Below B0 wq (w1.alloc (.cells #[.int .u8 1] 5)) := HB0.out ▸ h2
      generalize w1.alloc (.cells #[.int .u8 1] 5) = w2 at *
      generalize w1.heap.size = u at own0 ⊢
      exact fin w2 u x2 c2 ⟨own0, s2', f2, h2⟩
  rintro w2 u x2 c2 ⟨own0, s2, f2, h2⟩
  obtain rfl := HB0.out
  clear HB0
  refine onlyX 4 rfl (by kernel_rfl) (by rfl) (fun K hK => ?_)
  refine wp_app (.tmp 8) (.tmp 10) rfl wq.heap.size _ 1 [1] rfl own0 x2 16 c2 (pairL p) rfl s2 f2.2.2 (by decide) h2.size ?_
  intro v3 w3 own3 hb _
  have h3 := h2.grown hb h2.size (own_block own0)
  refine hK.out _ _ (fun _ => Off.of_below h3) (fun _ => ?_)
  clear hK K hb own0 s2 h2
  refine onlyX 6 rfl (by kernel_rfl) (by rfl) (fun K hK => ?_)
  obtain ⟨y3, d3, rfl, -, -, -⟩ := own_is own3
  go_wp2_with fail
  refine (rbytes_in r _).mono ?_
  rintro e w4 ⟨x4, c4, rfl, s4, f4, hb⟩
  have h4 := h3.trans (hb.mono h3.size)
  have OWN := hide' (own_grown own3 hb)
  clear own3
  refine hK.out _ _ (fun _ => Off.of_below h4) (fun _ => ?_)
  clear hK K hb h3
  refine onlyX 7 rfl (by kernel_rfl) (by rfl) (fun K hK => ?_)
  refine wp_app (.tmp 11) (.tmp 13) rfl wq.heap.size (.slice y3 (1 + 16) d3) (1 + 16) ([1] ++ pairL p) rfl OWN.out x4 16 c4 (pairL r) rfl s4 f4.2.2 (by decide) h4.size ?_
  intro v5 w5 own5 hb _
  have h5 := h4.grown hb h4.size (own_block OWN.out)
  refine hK.out _ _ (fun _ => Off.of_below h5) (fun _ => ?_)
  clear hK K hb s4 h4
  obtain ⟨z, cz, rfl, hs5, f1, f2', f3⟩ := own_sin (n := 1 + 16 + 16) (xs := [1] ++ pairL p ++ pairL r) (by simp [pairL_length]) own5
  have hz : ([1] ++ pairL p ++ pairL r : List Int) = highZ p r := by unfold highZ; rw [List.append_assoc]; rfl
  rw [hz] at hs5
  have hsG : SIn (fun k => ¬ G k) w5 z (1 + 16 + 16) (highZ p r) := hs5.mono (fun k _ hk hg => by have := own_block own5 k hk; have := hltq k hg; omega)
  have hI5 := hIq.below h5
  have hQ := st.sumV_Q (highZ p r) (by omega)
  have hsum := rlsum G b st (highZ p r) z (1 + 16 + 16) cz (by omega) hS (highZ_bytes p r) ⟨f1, f2', f3⟩ w5 hI5 hsG
  rw [hQ] at hsum
  obtain ⟨q, HQ⟩ : ∃ q, Hid (st.sumQ (highZ p r) = q) := ⟨_, rfl⟩
  rw [HQ.out] at hsum
  obtain ⟨q1, hq1⟩ : ∃ q1, nv q.1 = q1 := ⟨_, rfl⟩
  obtain ⟨q2, hq2⟩ : ∃ q2, nv q.2 = q2 := ⟨_, rfl⟩
  rw [hq1, hq2] at hsum
  have HQ1 := hide' hq1
  have HQ2 := hide' hq2
  clear hq1 hq2
  refine onlyX 8 rfl (by kernel_rfl) (by rfl) (fun K hK => ?_)
  go_wp2_with fail
  refine hsum.mono ?_
  clear hsum hQ own5 hs5 hsG hz
  rintro e w6 ⟨rfl, G6, hI6, hsub, hoff, hu⟩
  have ho6 : Off G wq w6 := (Off.of_below h5).trans hoff (fun _ h => Or.inl h)
  refine hK.out _ _ (fun _ => ho6) (fun _ => ?_)
  clear hK K
  have h5s := h5.size
  have hzq := HZQ.out
  have hnG : ¬ G6 (A0 + 2) := fun h => (hsub _ h).elim n3 (fun h => by omega)
  have bR6 : Box w6 (A0 + 2) 0 0 := off_block b3 ho6 n3
  have hKR : KeptR G w b G6 w6 (st.sumS (highZ p r)) := (hKq.trans (hIq.keptR h5)).trans ⟨hI6, hsub, hoff, hu⟩
  have hK2 := hKR.put bR6 (by omega) hnG (.int .u64 q1) (.int .u64 q2)
  have e0 := bR6.c0
  have e1 := bR6.c1
  have e2 := bR6.frozen 0
  have e3 := bR6.frozen 1
  have bR7 := bR6.put2 q1 q2
  clear hKR
  refine onlyX 9 rfl (by kernel_rfl) (by rfl) (fun K hK => ?_)
  go_wp2_with fail
  clear e0 e1 e2 e3
  refine hK.out _ _ (fun h => absurd rfl h) (fun _ => ?_)
  clear hK K
  refine doneX (by kernel_rfl) ?_ _
  have r0 := bR7.c0
  have r1 := bR7.c1
  go_wp2_with fail
  exact bodyPost_ret (v := .agg #[.int .u64 q1, .int .u64 q2]) (by simp [results, Try.results27, go_sem, r0, r1]) rfl ⟨by rw [HQ.out, HQ1.out, HQ2.out], G6, hK2⟩
end Go.Proofs.Ytkbhkgfchiacbaa
