/- RegionY RefDsk RefDskB: texts laid together. -/
import Derived.Test.YtcjmmfgnnebgkaaM04
import Derived.Test.YtcjmmfgnnebgkaaM03

/- RegionX's laws where the last operation waits for another one by way of others. -/
namespace Go.Proofs.Ytcjmmfgnnebgkaa
open Go.RowKit
set_option maxRecDepth 20000
section
variable {P : Program} {ops : Array Oper} {Q : Exit → Act → World → Prop} {md : Region.Mode} {S : World → Prop} {last : Nat}

/-- Number l waits for number i, in at most n steps. -/
def waitsN (md : Region.Mode) (ops : Array Oper) : Nat → Nat → Nat → Bool
  | 0, _, _ => false
  | n + 1, l, i => match ops[l]? with
    | some o => o.after.any fun e => Region.binds md e && (e.on == i || waitsN md ops n e.on i)
    | none => false
/-- Of what is done all is done that it waits for. -/
def Clo (md : Region.Mode) (ops : Array Oper) (listed : Array Bool) : Prop := ∀ m om, ops[m]? = some om → listed.getD m false = true → ∀ e ∈ om.after, Region.binds md e = true → listed.getD e.on false = true
def cloB (md : Region.Mode) (ops : Array Oper) (listed : Array Bool) : Bool := (List.range ops.size).all fun m => !listed.getD m false || match ops[m]? with
  | some o => o.after.all fun e => !Region.binds md e || listed.getD e.on false
  | none => true
theorem clo_of {listed : Array Bool} (h : cloB md ops listed = true) : Clo md ops listed := by
  intro m om hm hl e he hb
  have hlt : m < ops.size := (Array.getElem?_eq_some_iff.1 hm).1
  have h1 := List.all_eq_true.1 h m (List.mem_range.2 hlt)
  simp only [hl, hm, Bool.not_true, Bool.false_or] at h1
  obtain ⟨n, hn, rfl⟩ := Array.getElem_of_mem he
  have h2 := Array.all_eq_true.1 h1 n hn
  rw [hb] at h2
  simpa using h2
theorem ready_deps {l : Array Bool} {i : Nat} {oi : Oper} (hr : i ∈ Region.ready md ops l) (hi : ops[i]? = some oi) : ∀ e ∈ oi.after, Region.binds md e = true → l.getD e.on false = true := by
  intro e he hb
  obtain ⟨_, o, ho, hall⟩ := mem_ready.1 hr
  obtain rfl : oi = o := by rw [hi] at ho; exact Option.some.inj ho
  exact hall e he hb
theorem clo_waits {listed : Array Bool} (hc : Clo md ops listed) : ∀ (n l i : Nat) (ol : Oper), ops[l]? = some ol → (∀ e ∈ ol.after, Region.binds md e = true → listed.getD e.on false = true) → waitsN md ops n l i = true → listed.getD i false = true
  | 0, _, _, _, _, _, h => by cases h
  | n + 1, l, i, ol, hl, hd, h => by
    simp only [waitsN, hl, Array.any_eq_true] at h
    obtain ⟨k, hk, hb⟩ := h
    rw [Bool.and_eq_true, Bool.or_eq_true, beq_iff_eq] at hb
    have h1 := hd _ (Array.getElem_mem hk) hb.1
    rcases hb.2 with e | e
    · rw [← e]
      exact h1
    · cases hm : ops[(ol.after[k]).on]? with
      | none =>
        cases n with
        | zero => simp [waitsN] at e
        | succ n => simp [waitsN, hm] at e
      | some om => exact clo_waits hc n _ i om hm (fun e' he' hb' => hc _ om hm h1 e' he' hb') e
theorem getD_set' {l : Array Bool} {i j : Nat} (h : l.getD j false = true) : (l.setIfInBounds i true).getD j false = true := by
  by_cases e : i = j
  · subst e
    have hi : i < l.size := by
      rcases Nat.lt_or_ge i l.size with h' | h'
      · exact h'
      · simp [Array.getElem?_eq_none h'] at h
    simp [hi]
  · simpa [Array.getD_eq_getD_getElem?, Array.getElem?_setIfInBounds_ne e] using h
theorem clo_set {l : Array Bool} {i : Nat} (hc : Clo md ops l) (hr : i ∈ Region.ready md ops l) : Clo md ops (l.setIfInBounds i true) := by
  intro m om hm hl e he hb
  by_cases h : i = m
  · subst h
    exact getD_set' (ready_deps hr hm e he hb)
  · have hl' : l.getD m false = true := by simpa [Array.getD_eq_getD_getElem?, Array.getElem?_setIfInBounds_ne h] using hl
    exact getD_set' (hc m om hm hl' e he hb)
theorem firstY {i : Nat} {oi : Oper} {v : Value} (hi : ops[i]? = some oi) (hsel : ∀ (j : Nat) (o : Oper) cs b, ops[j]? = some o → o.op ≠ .select cs b)
    (hQ : ∀ c a w, Q (.panic c) (a.put oi.dst v) w → Q (.panic c) a w) (hlast : waitsN md ops ops.size last i = true) (hil : i ≠ last) :
    ∀ (fuel : Nat) (listed : Array Bool) (a : Act) (w : World), Clo md ops listed →
      (∀ j oj, ops[j]? = some oj → j ≠ i → listed.getD j true = false → (∀ e ∈ oj.after, Region.binds md e = true → e.on ≠ i) → oi.apart ops oj = true) →
      i ∈ Region.ready md ops listed → YieldsIf P ops S oi v a → S w →
      wpAnyX P md ops Q S last fuel (listed.setIfInBounds i true) (a.put oi.dst v) w → wpAnyX P md ops Q S last (fuel + 1) listed a w := by
  intro fuel
  induction fuel with
  | zero =>
    intro listed a w _ _ hr hy hS H
    refine ⟨fun h => (by rw [h] at hr; cases hr), fun j hj => ?_⟩
    by_cases hji : j = i
    · subst hji
      exact hy.wpOp hi hS ⟨fun _ => hS, H⟩
    · have := ready_mono hj hji
      rw [H.1] at this
      cases this
  | succ fuel ih =>
    intro listed a w hclo hfree hr hy hS H
    refine ⟨fun h => (by rw [h] at hr; cases hr), fun j hj => ?_⟩
    by_cases hji : j = i
    · subst hji
      exact hy.wpOp hi hS ⟨fun _ => hS, H⟩
    · have h1 := H.2 j (ready_mono hj hji)
      obtain ⟨hjun, oj, hoj, hall⟩ := mem_ready.1 hj
      have hiun : listed.getD i false = false := by
        have h0 := (mem_ready.1 hr).1
        rcases Nat.lt_or_ge i listed.size with h' | h'
        · simp [h'] at h0 ⊢
          exact h0
        · simp [Array.getElem?_eq_none h']
      have hnot : ∀ e ∈ oj.after, Region.binds md e = true → e.on ≠ i := fun e he hb heq => by
        have h1 := ready_deps hj hoj e he hb
        rw [heq, hiun] at h1
        cases h1
      have hjl : j ≠ last := fun e => by
        subst e
        have := clo_waits hclo _ _ i oj hoj (ready_deps hj hoj) hlast
        rw [hiun] at this
        cases this
      have h2 := wpOp_putIf hoj (hfree j oj hoj hji hjun hnot) (fun cs b => hsel i oi cs b hi) (fun cs b => hsel j oj cs b hoj) hQ hy h1
      have hfree' : ∀ k ok, ops[k]? = some ok → k ≠ i → (listed.setIfInBounds j true).getD k true = false →
          (∀ e ∈ ok.after, Region.binds md e = true → e.on ≠ i) → oi.apart ops ok = true := fun k ok hk hki hun hno => by
        refine hfree k ok hk hki ?_ hno
        by_cases hjk : j = k
        · subst hjk
          exact hjun
        · rw [getD_set_ne true hjk] at hun
          exact hun
      refine wpOp_mono (fun a' w' h3 => ⟨h3.2.1, ih (listed.setIfInBounds j true) a' w' (clo_set hclo hj) hfree' (ready_mono hr (Ne.symm hji)) h3.1 (h3.2.1 hjl) ?_⟩) h2
      rw [Array.setIfInBounds_comm _ _ hji]
      exact h3.2.2
variable {fuel : Nat} {listed : Array Bool} {t : List Value} {d : List Deferred} {w : World}
theorem takeY (i k : Nat) {oi : Oper} {v : Value} (hi : ops[i]? = some oi) (hd : oi.dst = some k)
    (hs : Region.noSelect ops = true) (hf : Region.free md ops listed i = true) (hr : (Region.ready md ops listed).contains i = true)
    (hQ : ∀ c a w, Q (.panic c) (a.put oi.dst v) w → Q (.panic c) a w) (hw : Region.wanted oi (yielded ops t.toArray) = true) (hlast : waitsN md ops ops.size last i = true) (hc : cloB md ops listed = true) (hil : i ≠ last) (hS : S w)
    (hy : ∀ w, S w → (execOp (Act.eval ⟨t.toArray, d⟩) oi).run P w = .ok (.value v) w)
    (h : wpAnyX P md ops Q S last fuel (listed.setIfInBounds i true) ⟨(t.set k v).toArray, d⟩ w) : wpAnyX P md ops Q S last (fuel + 1) listed ⟨t.toArray, d⟩ w := by
  refine firstY hi (Region.noSelect_spec hs) hQ hlast hil fuel listed _ w (clo_of hc) (Region.free_spec hi hf) (by simpa using hr) (Or.inl ⟨hw, hy⟩) hS ?_
  have e : Act.put ⟨t.toArray, d⟩ oi.dst v = ⟨(t.set k v).toArray, d⟩ := by simp [hd, Act.put]
  rw [e]
  exact h
theorem moveY (i k x : Nat) {oi : Oper} {v : Value} (hi : ops[i]? = some oi) (hd : oi.dst = some k) (ho : oi.op = .move (.tmp x))
    (hs : Region.noSelect ops = true) (hf : Region.free md ops listed i = true) (hr : (Region.ready md ops listed).contains i = true)
    (hQ : ∀ c a w, Q (.panic c) (a.put oi.dst v) w → Q (.panic c) a w) (hw : Region.wanted oi (yielded ops t.toArray) = true) (hlast : waitsN md ops ops.size last i = true) (hc : cloB md ops listed = true) (hil : i ≠ last) (hS : S w)
    (hv : t[x]? = some v)
    (h : wpAnyX P md ops Q S last fuel (listed.setIfInBounds i true) ⟨(t.set k v).toArray, d⟩ w) : wpAnyX P md ops Q S last (fuel + 1) listed ⟨t.toArray, d⟩ w :=
  takeY i k hi hd hs hf hr hQ hw hlast hc hil hS (fun w _ => by rw [BigFrame.run_move _ ho w, eval_slot hv]) h
end
end Go.Proofs.Ytcjmmfgnnebgkaa


/- What the document's disk comes to: New, Is, Barrier. -/
namespace Go.Proofs.Ytcjmmfgnnebgkaa
open Go.RowKit
set_option maxRecDepth 20000

def newS (k : Nat) : List (List Int) := (List.range 32).map fun i => if i < k then zblk else []
theorem newS_len (k : Nat) : (newS k).length = 32 := by simp [newS]
theorem newS_0 : newS 0 = List.replicate 32 [] := by decide
theorem newS_32 : newS 32 = List.replicate 32 zblk := by decide +kernel
theorem newS_step (k : Nat) (hk : k < 32) : (newS k).set k zblk = newS (k + 1) := by
  apply List.ext_getElem?
  intro i
  rw [List.getElem?_set, newS_len]
  by_cases e : k = i
  · subst e
    simp [newS, hk]
  · rw [if_neg e]
    simp only [newS, List.getElem?_map]
    by_cases hi : i < 32
    · rw [List.getElem?_range hi]
      simp only [Option.map_some]
      congr 1
      by_cases h1 : i < k
      · rw [if_pos h1, if_pos (by omega)]
      · rw [if_neg h1, if_neg (by omega)]
    · rw [List.getElem?_eq_none (by simp; omega)]
      rfl
theorem new_wf : DskWf DskSt.new := ⟨by simp, fun x hx => by rw [List.eq_of_mem_replicate hx]; simp, fun o ho => by cases ho⟩
theorem new_bytes : ∀ x ∈ DskSt.new.B, Bytes x := fun x hx y hy => by
  rw [List.eq_of_mem_replicate hx] at hy
  have := List.eq_of_mem_replicate hy
  omega
theorem is_yes (n : Nat) (h : n < 32) (w : World) : Calls Try.prog 32 #[.int .i64 (n : Int)] w fun e w' => e = .returned (.bool true) ∧ Below w.heap.size w w' := by
  have h2 : (n : Int) < 32 := by omega
  go_enter Try.func32, Try.ntmps32
  go_wp2
  go_ret
  exact ⟨rfl, Below.refl _ _⟩
theorem is_no (x : Int) (h : x < 0 ∨ 32 ≤ x) (w : World) : Calls Try.prog 32 #[.int .i64 x] w fun e w' => e = .returned (.bool false) ∧ Below w.heap.size w w' := by
  have h' : x < 0 ∨ 0 ≤ x ∧ ¬ x < 32 := by omega
  clear h
  rcases h' with h1 | ⟨h1, h2⟩
  · have h0 : ¬ 0 ≤ x := by omega
    go_enter Try.func32, Try.ntmps32
    go_wp2
    go_ret
    exact ⟨rfl, Below.refl _ _⟩
  · go_enter Try.func32, Try.ntmps32
    go_wp2
    go_ret
    exact ⟨rfl, Below.refl _ _⟩
set_option maxRecDepth 10000 in
set_option maxHeartbeats 2000000 in
theorem rdmake (p : Option Addr) (w : World) : Calls Try.prog 10 #[.pointer p] w fun e w' => ∃ v F, e = .returned v ∧ RDInv p F w' v DskSt.new ∧ (∀ k, F k → w.heap.size ≤ k) ∧ Below w.heap.size w w' := by
  have hmk := make32
  have hN : DBox (w.alloc (.cells (dCells p (List.replicate 32 []) (.slice none 0 0) (.slice none 0 0) false).toArray 47)) w.heap.size p (List.replicate 32 []) (.slice none 0 0) (.slice none 0 0) false := ⟨rfl, CBox.new 47 w _⟩
  have hA : Below w.heap.size w (w.alloc (.cells (dCells p (List.replicate 32 []) (.slice none 0 0) (.slice none 0 0) false).toArray 47)) := (Below.refl _ _).alloc (Nat.le_refl _) _
  go_enter Try.func10, Try.ntmps10
  go_wp2_with fail
  go_loopw [4] (fun i wr => ∃ k : Nat, k ≤ 32 ∧ i = .int .i64 (k : Int) ∧ DBox wr w.heap.size p (newS k) (.slice none 0 0) (.slice none 0 0) false ∧ Below w.heap.size w wr) (fun i _ => 32 - (intOf i).toNat)
  case atStart => exact ⟨0, by omega, rfl, hN, hA⟩
  case round =>
    clear hN hA
    obtain ⟨k, hk, rfl, h, hB⟩ := hrel
    have hwA := h.lt
    by_cases hlt : k < 32
    · have hlt' : (k : Int) < 32 := by omega
      have hw : IntKind.i64.wrap ((k : Int) + 1) = (k : Int) + 1 := by
        rw [IntKind.wrap_i64]
        omega
      go_wp2_with fail
      refine startX (S := fun w' => Below wr.heap.size wr w') 7 (by kernel_rfl) (Below.refl _ _).drew (fun hHeld => ?_)
      refine moveY 0 12 3 rfl rfl rfl (by kernel_rfl) (by kernel_rfl) (by kernel_rfl) (fun _ _ _ h => h) (by rfl) (by kernel_rfl) (by kernel_rfl) (by decide) hHeld rfl ?_
      simp only [List.set_cons_succ, List.set_cons_zero]
      refine moveY 1 13 4 rfl rfl rfl (by kernel_rfl) (by kernel_rfl) (by kernel_rfl) (fun _ _ _ h => h) (by rfl) (by kernel_rfl) (by kernel_rfl) (by decide) hHeld rfl ?_
      simp only [List.set_cons_succ, List.set_cons_zero]
      refine takeY 4 16 (v := ?_) rfl rfl (by kernel_rfl) (by kernel_rfl) (by kernel_rfl) (fun _ _ _ h => h) (by rfl) (by kernel_rfl) (by kernel_rfl) (by decide) hHeld (fun w hSw => ?_) ?_
      rotate_left 1
      · (try dsimp only at hSw)
        clear hSw
        go_simp
        try with_reducible rfl
      simp only [List.set_cons_succ, List.set_cons_zero]
      refine takeY 5 17 (v := ?_) rfl rfl (by kernel_rfl) (by kernel_rfl) (by kernel_rfl) (fun _ _ _ h => h) (by rfl) (by kernel_rfl) (by kernel_rfl) (by decide) hHeld (fun w hSw => ?_) ?_
      rotate_left 1
      · (try dsimp only at hSw)
        clear hSw
        go_simp
        try with_reducible rfl
      simp only [List.set_cons_succ, List.set_cons_zero]
      refine onlyX 2 rfl (by kernel_rfl) (by rfl) (fun K hK => ?_)
      go_wp2_with fail
      have hRw : Row (wr.alloc (.cells (madeCells #[.int .u8 0] 32) 5)).drew wr.heap.size zblk := Row.made wr 32
      have hbn : Below wr.heap.size wr (wr.alloc (.cells (madeCells #[.int .u8 0] 32) 5)).drew := ((Below.refl _ _).alloc (Nat.le_refl _) _).drew
      refine hK.out _ _ (fun _ => hbn) (fun _ => ?_)
      clear hK K hHeld
      replace h := h.grown hbn
      replace hB := hB.trans (hbn.mono hB.size)
      generalize (wr.alloc (.cells (madeCells #[.int .u8 0] 32) 5)).drew = wn at *
      refine heldX_more (S' := fun w' => Below wn.heap.size wn w') (fun _ h => hbn.trans (h.mono hbn.size)) _ _ _ _ ?_
      clear hbn
      have hHeld := Below.refl wn.heap.size wn
      refine takeY 3 15 (v := ?_) rfl rfl (by kernel_rfl) (by kernel_rfl) (by kernel_rfl) (fun _ _ _ h => h) (by rfl) (by kernel_rfl) (by kernel_rfl) (by decide) hHeld (fun w hSw => ?_) ?_
      rotate_left 1
      · (try dsimp only at hSw)
        have e0_ := fun c => ((hRw.sat (n := 32) (by simp)).below hSw).conv (c := c)
        clear hSw
        go_simp
        try with_reducible rfl
      simp only [List.set_cons_succ, List.set_cons_zero]
      refine takeY 6 18 (v := ?_) rfl rfl (by kernel_rfl) (by kernel_rfl) (by kernel_rfl) (fun _ _ _ h => h) (by rfl) (by kernel_rfl) (by kernel_rfl) (by decide) hHeld (fun w hSw => ?_) ?_
      rotate_left 1
      · (try dsimp only at hSw)
        clear hSw
        go_simp
        try with_reducible rfl
      simp only [List.set_cons_succ, List.set_cons_zero]
      have f0 := h.frozen (1 + k)
      have g0 := h.cS k hlt
      refine onlyX 7 rfl (by kernel_rfl) (by rfl) (fun K hK => ?_)
      go_wp2_with fail
      refine hK.out _ _ (fun h => absurd rfl h) (fun _ => ?_)
      clear hK K f0 g0
      refine doneX (by kernel_rfl) ?_ _
      go_wp2
      go_roundw
      case rel => exact ⟨k + 1, by omega, by go_num, by rw [← newS_step k hlt]; exact h.putS k hlt zblk, hB.setCell (by simp) _⟩
      case measure => simp [intOf]; omega
    · have hlt' : ¬ (k : Int) < 32 := by omega
      obtain rfl : k = 32 := by omega
      rw [newS_32] at h
      go_wp2
      go_ret
      refine ⟨_, rfl, ROwn (fun _ => False) w.heap.size (.slice none 0 0) (.slice none 0 0), ⟨w.heap.size, fun _ => False, _, _, rfl, ?_, fun _ => Iff.rfl⟩, ?_, hB⟩
      · exact ⟨h, opRow_nil _ _, opRow_nil _ _, new_wf, new_bytes, fun h => h, fun _ h => h.elim, fun k hk => by simp [Value.ownBlock] at hk, fun k hk => by simp [Value.ownBlock] at hk, fun k hk => by simp [Value.ownBlock] at hk⟩
      · rintro k (rfl | hk | hk | hk)
        · exact Nat.le_refl _
        · simp [Value.ownBlock] at hk
        · simp [Value.ownBlock] at hk
        · exact hk.elim
end Go.Proofs.Ytcjmmfgnnebgkaa


/- What the document's disk comes to: Barrier. -/
namespace Go.Proofs.Ytcjmmfgnnebgkaa
open Go.RowKit
set_option maxRecDepth 20000

set_option maxRecDepth 10000 in
set_option maxHeartbeats 4000000 in
theorem rdbarrier (p : Option Addr) (F G : Nat → Prop) (v : Value) (st : DskSt) (q : PSt) (hT : st.T.length ≤ 100000) (hq : q.2.2 ≤ 1000000) (hWl : st.Wt.length ≤ 1000000) (w : World) (hD : RDInv p F w v st) (hP : RPInv G w (.pointer p) q) (hd : ∀ k, F k → ¬ G k) :
    Calls Try.prog 15 #[v] w fun e w' => ∃ F' G', e = .returned (.bool (pSpend q).1) ∧ KeptD (RDInv p) RPInv F G w v (.pointer p) F' G' w' (if (pSpend q).1 = true then st.settle else st) (pSpend q).2 := by
  obtain ⟨b, FB, vW, vT, rfl, h, hF⟩ := hD
  have HF := hide' hF
  clear hF
  have k0 := h.box.c0
  have hsp := rspend G _ q hq w hP
  obtain ⟨⟨r, q'⟩, hr⟩ : ∃ x, pSpend q = x := ⟨_, rfl⟩
  rw [hr] at hsp ⊢
  rw [show (if (r, q').1 = true then st.settle else st) = (if r = true then st.settle else st) from rfl]
  rw [show (r, q').2 = q' from rfl] at hsp ⊢
  rw [show (r, q').1 = r from rfl] at hsp ⊢
  obtain ⟨st', hst'⟩ : ∃ st', (if r = true then st.settle else st) = st' := ⟨_, rfl⟩
  rw [hst']
  have HST := hide' hst'
  clear hst'
  go_enter Try.func15, Try.ntmps15
  go_wp2_with fail
  refine hsp.mono ?_
  clear k0 hsp hr
  rintro e w1 ⟨G1, rfl, hK⟩
  have hown := h.own
  have hFG : ∀ k, ROwn FB b vW vT k → ¬ G k := fun k hk => hd k ((HF.out k).2 hk)
  have hA := h.off hK.off hFG
  have hP1 := hK.inv
  have hsub := hide' hK.sub
  have hoff1 := hide' hK.off
  have hGlt := hide' (rpbase.lt hP1)
  have hFG1 : ∀ k, ROwn FB b vW vT k → ¬ G1 k := fun k hk hg => (hsub.out k hg).elim (hFG k hk) (fun e => by have := hown k hk; omega)
  have hw1 := hK.off.size
  clear hK h hP
  cases r
  · obtain rfl : st = st' := HST.out
    go_wp2
    go_ret
    have hpost : KeptD (RDInv p) RPInv F G w (.pointer (some ⟨b, 0, none⟩)) (.pointer p) F G1 w1 st q' := ⟨⟨b, FB, vW, vT, rfl, hA, HF.out⟩, hP1, fun k hk => hFG1 k ((HF.out k).1 hk), fun _ h => Or.inl h, hsub.out, hoff1.out.mono (fun _ h => Or.inl (Or.inr h))⟩
    first | exact ⟨rfl, _, _, hpost⟩ | exact ⟨_, _, rfl, hpost⟩
  obtain rfl : st.settle = st' := HST.out
  have hbox := hA.box
  obtain ⟨yW, cW, rfl, -, -, -⟩ := hA.wt.is
  obtain ⟨m, hm⟩ : ∃ m, (wOps st.Wt).length = m := ⟨_, rfl⟩
  rw [hm] at hA hbox hown hFG hFG1
  have HF2 : Hid (∀ k, F k ↔ ROwn FB b (.slice yW m cW) vT k) := hide' (by rw [← hm]; exact HF.out)
  have hmn : Hid (m = st.Wt.length) := hide' (by rw [← hm, wOps_len])
  have hmb : Hid (m ≤ 1000000) := hide' (by have := hmn.out; omega)
  clear hm HF
  go_wp2_with fail
  go_loopw [3] (fun i wr => ∃ k : Nat, k ≤ m ∧ i = .int .i64 (k : Int) ∧ DBox wr b p (layD st.B ((st.Wt.take k))) (.slice yW m cW) vT st.no ∧ Off (fun j => j = b) w1 wr) (fun i _ => m - (intOf i).toNat)
  case atStart => exact ⟨0, Nat.zero_le _, rfl, hbox, Off.refl _ _⟩
  case round =>
    obtain ⟨k, hk, rfl, hx, ho⟩ := hrel
    have k33 := hx.c33
    by_cases hlt : k < m
    · have hlt' : (k : Int) < m := by omega
      have hw : IntKind.i64.wrap ((k : Int) + 1) = (k : Int) + 1 := by
        have := hmb.out
        rw [IntKind.wrap_i64]
        omega
      have hwt := hA.wt.off ho (fun k hk => (hA.oW k hk).1) (fun k _ hf e => hA.nb (e ▸ hf))
      obtain ⟨g, lb, ys, z, cz, rfl, hgl, hob, hlb, hys, bys, hs, -, hc0, hc1⟩ := wt_at hwt hmn.out hA.wf.w hlt
      have hlbi : (lb : Int) < 32 := by omega
      have hst := hide' (layD_take st.B st.Wt k (by have := hmn.out; omega) hob)
      clear hwt hob
      go_wp2_with fail
      refine startX (S := fun w' => Below wr.heap.size wr w') 21 (by kernel_rfl) (Below.refl _ _).drew (fun hHeld => ?_)
      refine moveY 0 19 0 rfl rfl rfl (by kernel_rfl) (by kernel_rfl) (by kernel_rfl) (fun _ _ _ h => h) (by rfl) (by kernel_rfl) (by kernel_rfl) (by decide) hHeld rfl ?_
      simp only [List.set_cons_succ, List.set_cons_zero]
      refine moveY 1 20 0 rfl rfl rfl (by kernel_rfl) (by kernel_rfl) (by kernel_rfl) (fun _ _ _ h => h) (by rfl) (by kernel_rfl) (by kernel_rfl) (by decide) hHeld rfl ?_
      simp only [List.set_cons_succ, List.set_cons_zero]
      refine takeY 2 21 (v := ?_) rfl rfl (by kernel_rfl) (by kernel_rfl) (by kernel_rfl) (fun _ _ _ h => h) (by rfl) (by kernel_rfl) (by kernel_rfl) (by decide) hHeld (fun w hSw => ?_) ?_
      rotate_left 1
      · (try dsimp only at hSw)
        clear hSw
        go_simp
        try with_reducible rfl
      simp only [List.set_cons_succ, List.set_cons_zero]
      refine takeY 3 22 (v := ?_) rfl rfl (by kernel_rfl) (by kernel_rfl) (by kernel_rfl) (fun _ _ _ h => h) (by rfl) (by kernel_rfl) (by kernel_rfl) (by decide) hHeld (fun w hSw => ?_) ?_
      rotate_left 1
      · (try dsimp only at hSw)
        clear hSw
        go_simp
        try with_reducible rfl
      simp only [List.set_cons_succ, List.set_cons_zero]
      refine takeY 4 23 (v := ?_) rfl rfl (by kernel_rfl) (by kernel_rfl) (by kernel_rfl) (fun _ _ _ h => h) (by rfl) (by kernel_rfl) (by kernel_rfl) (by decide) hHeld (fun w hSw => ?_) ?_
      rotate_left 1
      · (try dsimp only at hSw)
        have e0_ := (hx.grown hSw).c33
        clear hSw
        go_simp
        try with_reducible rfl
      simp only [List.set_cons_succ, List.set_cons_zero]
      refine moveY 5 24 3 rfl rfl rfl (by kernel_rfl) (by kernel_rfl) (by kernel_rfl) (fun _ _ _ h => h) (by rfl) (by kernel_rfl) (by kernel_rfl) (by decide) hHeld rfl ?_
      simp only [List.set_cons_succ, List.set_cons_zero]
      refine takeY 6 25 (v := ?_) rfl rfl (by kernel_rfl) (by kernel_rfl) (by kernel_rfl) (fun _ _ _ h => h) (by rfl) (by kernel_rfl) (by kernel_rfl) (by decide) hHeld (fun w hSw => ?_) ?_
      rotate_left 1
      · (try dsimp only at hSw)
        clear hSw
        go_simp
        try with_reducible rfl
      simp only [List.set_cons_succ, List.set_cons_zero]
      refine takeY 7 26 (v := ?_) rfl rfl (by kernel_rfl) (by kernel_rfl) (by kernel_rfl) (fun _ _ _ h => h) (by rfl) (by kernel_rfl) (by kernel_rfl) (by decide) hHeld (fun w hSw => ?_) ?_
      rotate_left 1
      · (try dsimp only at hSw)
        clear hSw
        go_simp
        try with_reducible rfl
      simp only [List.set_cons_succ, List.set_cons_zero]
      refine takeY 8 27 (v := ?_) rfl rfl (by kernel_rfl) (by kernel_rfl) (by kernel_rfl) (fun _ _ _ h => h) (by rfl) (by kernel_rfl) (by kernel_rfl) (by decide) hHeld (fun w hSw => ?_) ?_
      rotate_left 1
      · (try dsimp only at hSw)
        have e0_ := (hSw.cell (p := ⟨g, k * 2, none⟩) hgl).trans hc0
        clear hSw
        go_simp
        try with_reducible rfl
      simp only [List.set_cons_succ, List.set_cons_zero]
      refine moveY 9 28 0 rfl rfl rfl (by kernel_rfl) (by kernel_rfl) (by kernel_rfl) (fun _ _ _ h => h) (by rfl) (by kernel_rfl) (by kernel_rfl) (by decide) hHeld rfl ?_
      simp only [List.set_cons_succ, List.set_cons_zero]
      refine takeY 10 29 (v := ?_) rfl rfl (by kernel_rfl) (by kernel_rfl) (by kernel_rfl) (fun _ _ _ h => h) (by rfl) (by kernel_rfl) (by kernel_rfl) (by decide) hHeld (fun w hSw => ?_) ?_
      rotate_left 1
      · (try dsimp only at hSw)
        clear hSw
        go_simp
        try with_reducible rfl
      simp only [List.set_cons_succ, List.set_cons_zero]
      refine takeY 11 30 (v := ?_) rfl rfl (by kernel_rfl) (by kernel_rfl) (by kernel_rfl) (fun _ _ _ h => h) (by rfl) (by kernel_rfl) (by kernel_rfl) (by decide) hHeld (fun w hSw => ?_) ?_
      rotate_left 1
      · (try dsimp only at hSw)
        clear hSw
        go_simp
        try with_reducible rfl
      simp only [List.set_cons_succ, List.set_cons_zero]
      refine takeY 12 31 (v := ?_) rfl rfl (by kernel_rfl) (by kernel_rfl) (by kernel_rfl) (fun _ _ _ h => h) (by rfl) (by kernel_rfl) (by kernel_rfl) (by decide) hHeld (fun w hSw => ?_) ?_
      rotate_left 1
      · (try dsimp only at hSw)
        have e0_ := (hx.grown hSw).c33
        clear hSw
        go_simp
        try with_reducible rfl
      simp only [List.set_cons_succ, List.set_cons_zero]
      refine moveY 13 32 3 rfl rfl rfl (by kernel_rfl) (by kernel_rfl) (by kernel_rfl) (fun _ _ _ h => h) (by rfl) (by kernel_rfl) (by kernel_rfl) (by decide) hHeld rfl ?_
      simp only [List.set_cons_succ, List.set_cons_zero]
      refine takeY 14 33 (v := ?_) rfl rfl (by kernel_rfl) (by kernel_rfl) (by kernel_rfl) (fun _ _ _ h => h) (by rfl) (by kernel_rfl) (by kernel_rfl) (by decide) hHeld (fun w hSw => ?_) ?_
      rotate_left 1
      · (try dsimp only at hSw)
        clear hSw
        go_simp
        try with_reducible rfl
      simp only [List.set_cons_succ, List.set_cons_zero]
      refine takeY 15 34 (v := ?_) rfl rfl (by kernel_rfl) (by kernel_rfl) (by kernel_rfl) (fun _ _ _ h => h) (by rfl) (by kernel_rfl) (by kernel_rfl) (by decide) hHeld (fun w hSw => ?_) ?_
      rotate_left 1
      · (try dsimp only at hSw)
        clear hSw
        go_simp
        try with_reducible rfl
      simp only [List.set_cons_succ, List.set_cons_zero]
      refine takeY 16 35 (v := ?_) rfl rfl (by kernel_rfl) (by kernel_rfl) (by kernel_rfl) (fun _ _ _ h => h) (by rfl) (by kernel_rfl) (by kernel_rfl) (by decide) hHeld (fun w hSw => ?_) ?_
      rotate_left 1
      · (try dsimp only at hSw)
        have e0_ := (hSw.cell (p := ⟨g, k * 2 + 1, none⟩) hgl).trans hc1
        clear hSw
        go_simp
        try with_reducible rfl
      simp only [List.set_cons_succ, List.set_cons_zero]
      refine takeY 17 36 (v := ?_) rfl rfl (by kernel_rfl) (by kernel_rfl) (by kernel_rfl) (fun _ _ _ h => h) (by rfl) (by kernel_rfl) (by kernel_rfl) (by decide) hHeld (fun w hSw => ?_) ?_
      rotate_left 1
      · (try dsimp only at hSw)
        have e0_ := fun c => (hs.below hSw).conv (c := c)
        clear hSw
        go_simp
        try with_reducible rfl
      simp only [List.set_cons_succ, List.set_cons_zero]
      refine takeY 18 37 (v := ?_) rfl rfl (by kernel_rfl) (by kernel_rfl) (by kernel_rfl) (fun _ _ _ h => h) (by rfl) (by kernel_rfl) (by kernel_rfl) (by decide) hHeld (fun w hSw => ?_) ?_
      rotate_left 1
      · (try dsimp only at hSw)
        clear hSw
        go_simp
        try with_reducible rfl
      simp only [List.set_cons_succ, List.set_cons_zero]
      refine takeY 19 38 (v := ?_) rfl rfl (by kernel_rfl) (by kernel_rfl) (by kernel_rfl) (fun _ _ _ h => h) (by rfl) (by kernel_rfl) (by kernel_rfl) (by decide) hHeld (fun w hSw => ?_) ?_
      rotate_left 1
      · (try dsimp only at hSw)
        clear hSw
        go_simp
        try with_reducible rfl
      simp only [List.set_cons_succ, List.set_cons_zero]
      refine takeY 20 39 (v := ?_) rfl rfl (by kernel_rfl) (by kernel_rfl) (by kernel_rfl) (fun _ _ _ h => h) (by rfl) (by kernel_rfl) (by kernel_rfl) (by decide) hHeld (fun w hSw => ?_) ?_
      rotate_left 1
      · (try dsimp only at hSw)
        clear hSw
        go_simp
        try with_reducible rfl
      simp only [List.set_cons_succ, List.set_cons_zero]
      have hxd := hx.grown (Below.refl _ wr).drew
      have f0 := hxd.frozen (1 + lb)
      have g0 := hxd.cS lb hlb
      refine onlyX 21 rfl (by kernel_rfl) (by rfl) (fun K hK => ?_)
      go_wp2_with fail
      refine hK.out _ _ (fun h => absurd rfl h) (fun _ => ?_)
      clear hK K f0 g0
      refine doneX (by kernel_rfl) ?_ _
      go_wp2
      go_roundw
      case rel => exact ⟨k + 1, by omega, by go_num, by rw [hst.out]; exact hx.putS lb hlb ys, (ho.setCell (p := ⟨b, 1 + lb, none⟩) (Or.inl rfl) _).drew⟩
      case measure => simp [intOf]; omega
    · have hlt' : ¬ (k : Int) < m := by omega
      have hkm : st.Wt.take k = st.Wt := List.take_of_length_le (by have := hmn.out; omega)
      rw [hkm] at hx
      clear hbox
      have f33 := hx.frozen 33
      have hxW := hx.putW (.slice none 0 0)
      have hoW := ho.setCell (p := ⟨b, 33, none⟩) (Or.inl rfl) (.slice none 0 0)
      have k34 := hxW.c34
      have htr := hA.tr.off hoW (fun k hk => (hA.oT k hk).1) (fun k _ hf e => hA.nb (e ▸ hf))
      generalize hw2e : wr.setCell ⟨b, 33, none⟩ (.slice none 0 0) = w2 at *
      have hbn : Below w2.heap.size w2 (w2.alloc (.cells #[.int .i64 (-1), .slice none 0 0] 62)) := (Below.refl _ _).alloc (Nat.le_refl _) _
      have htr2 := htr.off (Off.of_below (F := fun _ => False) hbn) (fun _ _ h => h) (fun _ _ _ h => h)
      have hz2 := hoW.size
      have hbs := hbn.size
      have hoTl : ∀ k, vT.ownBlock = some k → k < w2.heap.size := fun k hk => htr.lt hk
      go_wp2_with (at_builtin; refine wpList_op_app rfl _ _ rfl FB vT st.T rfl htr2 (fun k hk => (hA.oT k hk).2) w2.heap.size (-1, []) (none, 0) rfl (by simp) (by simp) (opAt_none _ _ _) (by omega) ?_)
      intro vT2 w3 hrow hgr hnew
      obtain ⟨y2, c2, rfl, -, -, -⟩ := hrow.is
      obtain ⟨m2, hm2⟩ : ∃ m2, (st.T ++ [(-1, [])]).length = m2 := ⟨_, rfl⟩
      rw [hm2] at hrow hnew
      have HM2 := hide' hm2
      rw [List.length_append, List.length_singleton] at HM2
      clear hm2
      generalize hv2 : Value.slice y2 m2 c2 = vT2 at *
      have ho3 : Off (fun j => vT.ownBlock = some j) (w2.alloc (.cells #[.int .i64 (-1), .slice none 0 0] 62)) w3 := (Off.refl _ _).grown hgr (fun k hk => Or.inl hk)
      have hx3 := (hxW.grown hbn).off ho3 (fun e => (hA.oT b e).1 rfl)
      have f34 := hx3.frozen 34
      have g34 := hx3.c34
      have hxT := hx3.putT vT2
      have hoT := hide' (((hoW.alloc (.cells #[.int .i64 (-1), .slice none 0 0] 62)).mono (G := fun k => k = b ∨ vT.ownBlock = some k) (fun k hk => Or.inl (Or.inl hk))).trans ho3 (fun k hk => Or.inl (Or.inr hk)))
      have ho4 : Off (fun j => j = b) w3 (w3.setCell ⟨b, 34, none⟩ vT2) := Off.one _ _ _ _
      have hrow4 := hrow.off ho4 (fun k hk e => (hnew k hk).elim (fun h => (hA.oT k h).1 e) (fun h => by have := hown b (Or.inl rfl); omega)) (fun k _ hf e => hA.nb (e ▸ hf))
      clear k34 hgr htr htr2 hrow
      subst hv2
      go_wp2
      go_ret
      generalize hv2 : Value.slice y2 m2 c2 = vT2 at *
      have hpost : KeptD (RDInv p) RPInv F G w (.pointer (some ⟨b, 0, none⟩)) (.pointer p) (ROwn FB b (.slice none 0 0) vT2) G1 (w3.setCell ⟨b, 34, none⟩ vT2) st.settle q' := by
        have hz3 : w2.heap.size ≤ w3.heap.size := Nat.le_trans hbn.size ho3.size
        have hnew' : ∀ k, vT2.ownBlock = some k → vT.ownBlock = some k ∨ w2.heap.size ≤ k := fun k hk => (hnew k hk).imp id (fun e => by omega)
        have hblt := hown b (Or.inl rfl)
        have hoffA : Off (fun k => k = b ∨ vT.ownBlock = some k) w1 (w3.setCell ⟨b, 34, none⟩ vT2) := hoT.out.setCell (p := ⟨b, 34, none⟩) (Or.inl (Or.inl rfl)) vT2
        have hlw := layD_wf st.Wt st.B hA.wf.n hA.wf.b hA.wf.w
        refine ⟨⟨b, FB, .slice none 0 0, vT2, rfl, ⟨hxT, opRow_nil _ _, hrow4, ⟨hlw.1, hlw.2, fun o ho => by cases ho⟩, layD_bytes _ _ hA.bB hA.wbytes, hA.nb, fun k hk => Nat.lt_of_lt_of_le (hA.lt k hk) hoffA.size, fun k hk => by simp [Value.ownBlock] at hk, fun k hk => (hnew' k hk).elim (hA.oT k) (fun e => ⟨fun e2 => by omega, fun e2 => by have := hA.lt k e2; omega⟩), fun k hk => by simp [Value.ownBlock] at hk⟩, fun _ => Iff.rfl⟩, ?_, ?_, ?_, hsub.out, ?_⟩
        · exact rpbase.keep hP1 hoffA (fun k hg e => e.elim (fun e => hFG1 k (Or.inl e) hg) (fun e => hFG1 k (Or.inr (Or.inr (Or.inl e))) hg))
        · rintro k (hk | hk | hk | hk) hg
          · exact hFG1 k (Or.inl hk) hg
          · simp [Value.ownBlock] at hk
          · exact (hnew' k hk).elim (fun e => hFG1 k (Or.inr (Or.inr (Or.inl e))) hg) (fun e => by have := hGlt.out k hg; omega)
          · exact hFG1 k (Or.inr (Or.inr (Or.inr hk))) hg
        · rintro k (hk | hk | hk | hk)
          · exact Or.inl ((HF2.out k).2 (Or.inl hk))
          · simp [Value.ownBlock] at hk
          · exact (hnew' k hk).imp (fun e => (HF2.out k).2 (Or.inr (Or.inr (Or.inl e)))) (fun e => by omega)
          · exact Or.inl ((HF2.out k).2 (Or.inr (Or.inr (Or.inr hk))))
        · exact (hoff1.out.mono (G := fun k => F k ∨ G k) (fun k hk => Or.inl (Or.inr hk))).trans hoffA (fun k hk => Or.inl (Or.inl (hk.elim (fun e => (HF2.out k).2 (Or.inl e)) (fun e => (HF2.out k).2 (Or.inr (Or.inr (Or.inl e)))))))
      subst hv2
      rw [HM2.out]
      first | exact ⟨rfl, _, _, hpost⟩ | exact ⟨_, _, rfl, hpost⟩
end Go.Proofs.Ytcjmmfgnnebgkaa
