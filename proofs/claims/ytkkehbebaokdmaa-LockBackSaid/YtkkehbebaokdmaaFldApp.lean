/- append of Pairs to a row of the call's own; a slice of Pairs that came in; regions where several operations may come up. -/
import Derived.Test.YtkkehbebaokdmaaFldRow
import Derived.Test.YtkkehbebaokdmaaRegion
import Derived.Test.YtkkehbebaokdmaaViewP
import Derived.Laws.AppendOwnNone
namespace Go.Proofs.Ytkkehbebaokdmaa
open Go.ChangeShapes Go.WideShapes Go.ChangeAt Go.RowKit
set_option maxRecDepth 20000

theorem Try.pairInfo : (Try.prog.info? 30).map (fun i => (i.zero, i.size, i.bytes)) = some (some (.agg #[.int .u64 0, .int .u64 0]), 2, 16) := by kernel_rfl

/-- n Pairs, cell by cell. -/
def flatP (f : Nat → BitVec 64 × BitVec 64) : Nat → List Value
  | 0 => []
  | n + 1 => flatP f n ++ [.int .u64 (nv (f n).1), .int .u64 (nv (f n).2)]
theorem flatP_len (f : Nat → BitVec 64 × BitVec 64) : ∀ n, (flatP f n).length = n * 2
  | 0 => rfl
  | n + 1 => by rw [flatP, List.length_append, flatP_len f n]; simp; omega
theorem flatP_get (f : Nat → BitVec 64 × BitVec 64) : ∀ n i, i < n → (flatP f n)[i * 2]? = some (.int .u64 (nv (f i).1)) ∧ (flatP f n)[i * 2 + 1]? = some (.int .u64 (nv (f i).2))
  | 0, i, h => absurd h (by omega)
  | n + 1, i, h => by
    have hl := flatP_len f n
    rw [flatP]
    by_cases e : i = n
    · subst e
      rw [List.getElem?_append_right (by omega), List.getElem?_append_right (by omega), hl, show i * 2 - i * 2 = 0 from by omega, show i * 2 + 1 - i * 2 = 1 from by omega]
      exact ⟨rfl, rfl⟩
    · have := flatP_get f n i (by omega)
      rw [List.getElem?_append_left (by omega), List.getElem?_append_left (by omega)]
      exact this
theorem flatP_one (f : Nat → BitVec 64 × BitVec 64) : ∀ n, ∀ u ∈ flatP f n, u.oneCell' = true
  | 0, u, h => by cases h
  | n + 1, u, h => by
    rw [flatP, List.mem_append] at h
    rcases h with h | h
    · exact flatP_one f n u h
    · simp at h
      rcases h with rfl | rfl <;> rfl
theorem flatP_snoc (f : Nat → BitVec 64 × BitVec 64) (p : BitVec 64 × BitVec 64) (n : Nat) : flatP f n ++ [.int .u64 (nv p.1), .int .u64 (nv p.2)] = flatP (fun i => if i < n then f i else p) (n + 1) := by
  have h : ∀ k, k ≤ n → flatP f k = flatP (fun i => if i < n then f i else p) k := by
    intro k
    induction k with
    | zero => intro _; rfl
    | succ k ih => intro hk; rw [flatP, flatP, ih (by omega), if_pos (show k < n by omega)]
  rw [h n (Nat.le_refl _), flatP, if_neg (Nat.lt_irrefl n)]
theorem addr_add (b off i : Nat) : (⟨b, off, none⟩ : Addr).add i = ⟨b, off + i, none⟩ := by unfold Addr.add; split <;> simp_all
theorem PRow.news {w : World} {g o m : Nat} {f : Nat → BitVec 64 × BitVec 64} (h : ∀ i, i < m → w.cell? ⟨g, o + i * 2, none⟩ = some (.int .u64 (nv (f i).1)) ∧ w.cell? ⟨g, o + i * 2 + 1, none⟩ = some (.int .u64 (nv (f i).2))) :
    ∀ j u, (flatP f m)[j]? = some u → w.cell? ((⟨g, o, none⟩ : Addr).add j) = some u := by
  intro j u hj
  have hlt : j < m * 2 := by
    rcases Nat.lt_or_ge j (flatP f m).length with h | h
    · rw [flatP_len] at h; exact h
    · rw [List.getElem?_eq_none h] at hj; cases hj
  rw [addr_add]
  have hg := flatP_get f m (j / 2) (by omega)
  have hc := h (j / 2) (by omega)
  rcases Nat.mod_two_eq_zero_or_one j with e | e
  · rw [show j / 2 * 2 = j from by omega] at hg hc
    rw [← hj, hg.1]; exact hc.1
  · rw [show o + j / 2 * 2 + 1 = o + j from by omega] at hc
    rw [show j / 2 * 2 + 1 = j from by omega] at hg
    rw [← hj, hg.2]; exact hc.2
theorem own_prow {w : World} {base n : Nat} {v : Value} {f : Nat → BitVec 64 × BitVec 64} (h : w.ownsRow base 30 2 v n (flatP f n)) : ∃ x c, v = .slice x n c ∧ PRow w x n f := by
  have h' := h
  obtain ⟨_, ⟨rfl, rfl⟩ | ⟨g, cap, cur, rfl, hg, hh, hnc, hcm, _⟩⟩ := h
  · exact ⟨none, 0, rfl, fun h => absurd h (by omega)⟩
  · obtain ⟨hlt, _⟩ := Array.getElem?_eq_some_iff.1 hh
    refine ⟨_, cap, rfl, fun _ => ⟨g, 0, rfl, hlt, fun i hi => ?_⟩⟩
    rw [Nat.zero_add, h'.cellAt (i * 2) (by omega), h'.cellAt (i * 2 + 1) (by omega)]
    exact flatP_get f n i hi

/-- append of a row to an empty literal: a new row, or the literal itself. -/
theorem wp_app0 {o : Oper} {a : Act} {w : World} {K : Act → World → Prop} {Q : Exit → Act → World → Prop} (s x : Operand)
    (ho : o.op = .call { callee := .builtin .append, args := #[s, x], argTypes := #[94, 94] }) (base g : Nat) (hs : a.eval s = .slice (some ⟨g, 0, none⟩) 0 0) (hown : w.ownsRow base 30 2 (.slice (some ⟨g, 0, none⟩) 0 0) 0 [])
    (y : Option Addr) (m c : Nat) (f : Nat → BitVec 64 × BitVec 64) (hx : a.eval x = .slice y m c) (hrow : PRow w y m f) (hb : m ≤ 100000) (hbase : base ≤ w.heap.size)
    (h : ∀ k c' w', w'.ownsRow base 30 2 (.slice (some ⟨k, 0, none⟩) m c') m (flatP f m) → Below w.heap.size w w' → k = g ∨ w.heap.size ≤ k → K (a.put o.dst (.slice (some ⟨k, 0, none⟩) m c')) w') : o.wp Try.prog a w K Q := by
  obtain ⟨i0, hi, hz0, hz1, hz2⟩ := info_parts Try.pairInfo
  by_cases hm : m = 0
  · subst hm
    have hr : (Builtin.append_ #[94, 94] o.type #[.slice (some ⟨g, 0, none⟩) 0 0, .slice y 0 c]).run Try.prog w = .ok (.slice (some ⟨g, 0, none⟩) 0 0) w := by
      cases y with
      | none => simp [Builtin.append_, run_underlying Try.underlying94, sizeOf, typeInfo, hi, Builtin.lenOf, Builtin.firstCells, storeCells]
      | some ad =>
        have hf := run_firstCells_some (P := Try.prog) w i0.size 0 ad 0 c [] (by simp) (fun j u hj => by simp at hj)
        simp [Builtin.append_, run_underlying Try.underlying94, sizeOf, typeInfo, hi, Builtin.lenOf, hf, storeCells]
    unfold Oper.wp execOp
    simp only [ho, resolve, invoke, builtin, Sem.run_bind, Sem.run_pure, Result.andThen_ok, List.map_toArray, List.map_cons, List.map_nil, hs, hx, hr]
    exact h g 0 w hown (Below.refl _ _) (Or.inl rfl)
  · obtain ⟨b, off, rfl, _, hc⟩ := hrow (by omega)
    have hr := run_append_grow (P := Try.prog) w 94 o.type 30 i0 _ Try.underlying94 hi hz0 ⟨g, 0, none⟩ 0 0 [] (by simp) (fun j u hj => by simp at hj) ⟨b, off, none⟩ m c (flatP f m) (by rw [hz1]; exact flatP_len f m) (PRow.news hc) (by omega) (by omega)
      (by rw [hz2]; exact growslice_fits (by omega) (by omega))
    simp only [Nat.zero_add] at hr
    have hge := grownCap_ge w m 0 30
    unfold Oper.wp execOp
    simp only [ho, resolve, invoke, builtin, Sem.run_bind, Sem.run_pure, Result.andThen_ok, List.map_toArray, List.map_cons, List.map_nil, hs, hx, hr]
    refine h w.heap.size _ _ ⟨flatP_len f m, .inr ⟨w.heap.size, _, _, rfl, hbase, heap_alloc_new w.drew _, hge, grownCap_le_maxLen w m 0 30 (by unfold maxLen; omega), ?_, ?_⟩⟩ (((Below.refl w.heap.size w).drew).alloc (Nat.le_refl _) _) (Or.inr (Nat.le_refl _))
    · simp [size_zeroCells, flatP_len, Value.cells]
      omega
    · simp [flatP_len]

/-- append of one Pair. -/
theorem wp_app1 {o : Oper} {a : Act} {w : World} {K : Act → World → Prop} {Q : Exit → Act → World → Prop} (s x : Operand)
    (ho : o.op = .call { callee := .builtin .append, args := #[s, x], argTypes := #[94, 94] }) (base k n c : Nat) (f : Nat → BitVec 64 × BitVec 64) (hs : a.eval s = .slice (some ⟨k, 0, none⟩) n c) (hown : w.ownsRow base 30 2 (.slice (some ⟨k, 0, none⟩) n c) n (flatP f n))
    (b : Nat) (p : BitVec 64 × BitVec 64) (hx : a.eval x = .slice (some ⟨b, 0, none⟩) 1 1) (hbox : Box w b (nv p.1) (nv p.2)) (hb : n ≤ 100000) (hbase : base ≤ w.heap.size)
    (h : ∀ v' w', w'.ownsRow base 30 2 v' (n + 1) (flatP (fun i => if i < n then f i else p) (n + 1)) → w.grownBy w' (some k) → K (a.put o.dst v') w') : o.wp Try.prog a w K Q := by
  obtain ⟨i0, hi, hz0, hz1, hz2⟩ := info_parts Try.pairInfo
  refine wp_append_own w s x 94 ho base 30 i0 _ 2 16 Try.underlying94 hi hz0 hz1 hz2 rfl (by decide) _ n _ hs hown ⟨b, 0, none⟩ 1 1 [.int .u64 (nv p.1), .int .u64 (nv p.2)] hx rfl ?_ ?_ (by unfold maxLen; omega) (by omega) hbase ?_
  · intro j u hj
    rw [addr_add, Nat.zero_add]
    match j, hj with
    | 0, hj => simp at hj; subst hj; exact hbox.c0
    | 1, hj => simp at hj; subst hj; exact hbox.c1
    | j + 2, hj => simp at hj
  · intro u hu
    simp at hu
    rcases hu with rfl | rfl <;> rfl
  · intro v' w' h1 h2 _
    rw [flatP_snoc] at h1
    exact h v' w' h1 h2

theorem Box.kept {w w' : World} {b : Nat} {x y : Int} {row : Option Nat} (h : Box w b x y) (hg : w.grownBy w' row) (hne : some b ≠ row) : Box w' b x y := (hg.block b h.lt hne).trans h

section
variable {P : Program} {ops : Array Oper} {Q : Exit → Act → World → Prop} {md : Region.Mode} {S : World → Prop} {fuel : Nat} {listed : Array Bool} {t : List Value} {d : List Deferred} {w : World}
/-- Three operations may come up now. -/
theorem threeL (i j k : Nat) {oi oj ok : Oper} (hi : ops[i]? = some oi) (hj : ops[j]? = some oj) (hk : ops[k]? = some ok) (hr : Region.ready md ops listed = [i, j, k]) (hwi : Region.wanted oi (yielded ops t.toArray) = true) (hwj : Region.wanted oj (yielded ops t.toArray) = true) (hwk : Region.wanted ok (yielded ops t.toArray) = true)
    (h1 : ∀ K : Act → World → Prop, Shut (∀ a w, S w → (S w → wpAnyH P md ops Q S fuel (listed.setIfInBounds i true) a w) → K a w) → Oper.wp P oi ⟨t.toArray, d⟩ w K Q)
    (h2 : ∀ K : Act → World → Prop, Shut (∀ a w, S w → (S w → wpAnyH P md ops Q S fuel (listed.setIfInBounds j true) a w) → K a w) → Oper.wp P oj ⟨t.toArray, d⟩ w K Q)
    (h3 : ∀ K : Act → World → Prop, Shut (∀ a w, S w → (S w → wpAnyH P md ops Q S fuel (listed.setIfInBounds k true) a w) → K a w) → Oper.wp P ok ⟨t.toArray, d⟩ w K Q) :
    wpAnyH P md ops Q S (fuel + 1) listed ⟨t.toArray, d⟩ w := by
  refine wpAnyH_ready (rs := [i, j, k]) hr (by simp) (AllReadyH.cons hi (fun K hK => ?_) (AllReadyH.cons hj (fun K hK => ?_) (AllReadyH.cons hk (fun K hK => ?_) AllReadyH.nil)))
  · rw [if_pos hwi]; exact h1 K hK
  · rw [if_pos hwj]; exact h2 K hK
  · rw [if_pos hwk]; exact h3 K hK
end
end Go.Proofs.Ytkkehbebaokdmaa
