/- Rows of writes in memory, their bytes in blocks of G. -/
import Derived.Test.YtcpplfclpigmkaaDevLaws
namespace Go.Proofs.Ytcpplfclpigmkaa
open Go.RowKit
set_option maxRecDepth 20000

theorem Try.opInfo : (Try.prog.info? 40).map (fun i => (i.zero, i.size, i.bytes)) = some (some (.agg #[.int .i64 0, .slice none 0 0]), 2, 32) := by kernel_rfl
theorem Try.underlyingOps : Try.prog.underlying 34 = some (.slice 40) := by kernel_rfl
/-- A write, cell by cell. -/
def opC (p : Int × List Int) (c : Option Addr × Nat) : List Value := [.int .i64 p.1, .slice c.1 p.2.length c.2]
theorem opC_length (p : Int × List Int) (c : Option Addr × Nat) : (opC p c).length = 2 := rfl
/-- Its bytes stand there. -/
structure OpAt (G : Nat → Prop) (w : World) (p : Int × List Int) (c : Option Addr × Nat) : Prop where
  s : SIn G w c.1 p.2.length p.2
  f : Fit c.1 p.2.length c.2
  b : Bytes p.2
theorem OpAt.off {F G : Nat → Prop} {w w' : World} {p : Int × List Int} {c : Option Addr × Nat} (h : OpAt G w p c) (hb : Off F w w') (hd : ∀ b, b < w.heap.size → G b → ¬ F b) : OpAt G w' p c := ⟨h.s.off hb hd, h.f, h.b⟩
theorem OpAt.mono {G G' : Nat → Prop} {w : World} {p : Int × List Int} {c : Option Addr × Nat} (h : OpAt G w p c) (hd : ∀ b, b < w.heap.size → G b → G' b) : OpAt G' w p c := ⟨h.s.mono hd, h.f, h.b⟩
theorem opAt_none (G : Nat → Prop) (w : World) (o : Int) : OpAt G w (o, []) (none, 0) := ⟨SIn.none _ _ _, ⟨Nat.le_refl _, Nat.zero_le _, fun _ => ⟨rfl, rfl⟩⟩, fun x hx => by cases hx⟩
/-- A row of them. -/
def OpRow (G : Nat → Prop) (w : World) (v : Value) (L : List (Int × List Int)) : Prop := ∃ C : Nat → Option Addr × Nat, w.ownsRow 0 40 2 v L.length (flatG (fun i => opC (L.getD i (0, [])) (C i)) L.length) ∧ ∀ i, i < L.length → OpAt G w (L.getD i (0, [])) (C i)
theorem opRow_nil (G : Nat → Prop) (w : World) : OpRow G w (.slice none 0 0) [] := ⟨fun _ => (none, 0), World.ownsRow_nil _ _ _ _, fun i hi => absurd hi (by simp)⟩
theorem OpRow.off {F G : Nat → Prop} {w w' : World} {v : Value} {L : List (Int × List Int)} (h : OpRow G w v L) (hb : Off F w w') (ho : ∀ k, v.ownBlock = some k → ¬ F k) (hd : ∀ b, b < w.heap.size → G b → ¬ F b) : OpRow G w' v L := by
  obtain ⟨C, h1, h2⟩ := h
  exact ⟨C, own_off h1 hb ho, fun i hi => (h2 i hi).off hb hd⟩
theorem OpRow.mono {G G' : Nat → Prop} {w : World} {v : Value} {L : List (Int × List Int)} (h : OpRow G w v L) (hd : ∀ b, b < w.heap.size → G b → G' b) : OpRow G' w v L := by
  obtain ⟨C, h1, h2⟩ := h
  exact ⟨C, h1, fun i hi => (h2 i hi).mono hd⟩
theorem OpRow.lt {G : Nat → Prop} {w : World} {v : Value} {L : List (Int × List Int)} (h : OpRow G w v L) {k : Nat} (hk : v.ownBlock = some k) : k < w.heap.size := by
  obtain ⟨C, h1, _⟩ := h
  obtain ⟨cur, hh⟩ := own_type h1 hk
  exact (Array.getElem?_eq_some_iff.1 hh).1
/-- What its block is. -/
theorem OpRow.typ {G : Nat → Prop} {w : World} {v : Value} {L : List (Int × List Int)} (h : OpRow G w v L) {k : Nat} (hk : v.ownBlock = some k) : ∃ cur, w.heap[k]? = some (.cells cur 40 (0, 0)) := by
  obtain ⟨C, h1, _⟩ := h
  exact own_type h1 hk
theorem OpRow.is {G : Nat → Prop} {w : World} {v : Value} {L : List (Int × List Int)} (h : OpRow G w v L) : ∃ y cy, v = .slice y L.length cy ∧ L.length ≤ cy ∧ cy ≤ maxLen ∧ (y = none → L.length = 0 ∧ cy = 0) := by
  obtain ⟨C, h1, _⟩ := h
  exact own_is h1
theorem op_cells {G : Nat → Prop} {w : World} {v : Value} {L : List (Int × List Int)} (h : OpRow G w v L) (i : Nat) (hi : i < L.length) : ∃ g cap c, v = .slice (some ⟨g, 0, none⟩) L.length cap ∧ g < w.heap.size ∧ OpAt G w (L.getD i (0, [])) c ∧ w.cell? ⟨g, i * 2, none⟩ = some (.int .i64 (L.getD i (0, [])).1) ∧ w.cell? ⟨g, i * 2 + 1, none⟩ = some (.slice c.1 (L.getD i (0, [])).2.length c.2) := by
  obtain ⟨C, h1, h2⟩ := h
  have hget : ∀ j, j < 2 → (flatG (fun i => opC (L.getD i (0, [])) (C i)) L.length)[i * 2 + j]? = (opC (L.getD i (0, [])) (C i))[j]? := fun j hj => flatG_get (s := 2) (fun i => opC_length _ _) L.length i j hi hj
  obtain ⟨g, cap, rfl, _, hgl, hc0⟩ := own_cell h1 ((hget 0 (by decide)).trans rfl)
  obtain ⟨g', cap', e, _, _, hc1⟩ := own_cell h1 ((hget 1 (by decide)).trans rfl)
  simp only [Value.slice.injEq, Option.some.injEq, Addr.mk.injEq] at e
  rw [← e.1.1] at hc1
  exact ⟨g, cap, C i, rfl, hgl, h2 i hi, hc0, hc1⟩
/-- append of one write to a row that somebody owns. -/
theorem wp_op_app {w : World} {o : Oper} {a : Act} {K : Act → World → Prop} {Q : Exit → Act → World → Prop} (s x : Operand)
    (ho : o.op = .call { callee := .builtin .append, args := #[s, x], argTypes := #[34, 34] }) (G : Nat → Prop) (v : Value) (L : List (Int × List Int)) (hs : a.eval s = v) (hrow : OpRow G w v L) (hG : ∀ k, v.ownBlock = some k → ¬ G k)
    (g : Nat) (p : Int × List Int) (c : Option Addr × Nat) (hx : a.eval x = .slice (some ⟨g, 0, none⟩) 1 1) (h0 : w.cell? ⟨g, 0, none⟩ = some (.int .i64 p.1)) (h1 : w.cell? ⟨g, 1, none⟩ = some (.slice c.1 p.2.length c.2)) (hp : OpAt G w p c) (hL : L.length ≤ 1000000)
    (h : ∀ v' w', OpRow G w' v' (L ++ [p]) → w.grownBy w' v.ownBlock → (∀ k, v'.ownBlock = some k → v.ownBlock = some k ∨ w.heap.size ≤ k) → K (a.put o.dst v') w') : o.wp Try.prog a w K Q := by
  obtain ⟨C, hown, hat⟩ := hrow
  obtain ⟨i0, hi, hz0, hz1, hz2⟩ := info_parts Try.opInfo
  refine wp_append_at s x 34 ho 0 40 i0 _ 2 32 Try.underlyingOps hi hz0 hz1 hz2 rfl (by decide) v L.length _ hs hown ⟨g, 0, none⟩ 1 1 (opC p c) hx (by rw [opC_length]) ?_ ?_ (by unfold maxLen; omega) (by omega) (Nat.zero_le _) ?_
  · intro j u hj
    match j, hj with
    | 0, hj =>
      obtain rfl : Value.int .i64 p.1 = u := by simpa [opC] using hj
      simpa [add_plain'] using h0
    | 1, hj =>
      obtain rfl : Value.slice c.1 p.2.length c.2 = u := by simpa [opC] using hj
      simpa [add_plain'] using h1
  · intro u hu
    simp only [opC, List.mem_cons, List.not_mem_nil, or_false] at hu
    rcases hu with rfl | rfl <;> rfl
  · intro v' w' h2 h3 h4
    have hoff : Off (fun k => v.ownBlock = some k) w w' := (Off.refl _ w).grown h3 (fun k hk => Or.inl hk)
    refine h v' w' ⟨fun i => if i < L.length then C i else c, ?_, fun i hi => ?_⟩ h3 h4
    · have e : flatG (fun i => opC ((L ++ [p]).getD i (0, [])) (if i < L.length then C i else c)) (L ++ [p]).length = flatG (fun i => opC (L.getD i (0, [])) (C i)) L.length ++ opC p c := by
        rw [List.length_append, List.length_singleton, flatG]
        congr 1
        · refine flatG_congr _ (fun i hi => ?_)
          rw [if_pos hi, List.getD_eq_getElem?_getD, List.getElem?_append_left hi, ← List.getD_eq_getElem?_getD]
        · simp
      rw [e, List.length_append, List.length_singleton]
      exact h2
    · rw [List.length_append, List.length_singleton] at hi
      by_cases e : i < L.length
      · simp only [if_pos e]
        rw [show (L ++ [p]).getD i (0, []) = L.getD i (0, []) from by rw [List.getD_eq_getElem?_getD, List.getElem?_append_left e, ← List.getD_eq_getElem?_getD]]
        exact (hat i e).off hoff (fun b _ hb hf => hG b hf hb)
      · obtain rfl : i = L.length := by omega
        simp only [if_neg e]
        rw [show (L ++ [p]).getD L.length (0, []) = p from by simp]
        exact hp.off hoff (fun b _ hb hf => hG b hf hb)
theorem wpList_op_app {w : World} {ops : Array Oper} {rest : List Oper} {o : Oper} {a : Act} {Q : Exit → Act → World → Prop} (hgd : o.guard = none) (s x : Operand)
    (ho : o.op = .call { callee := .builtin .append, args := #[s, x], argTypes := #[34, 34] }) (G : Nat → Prop) (v : Value) (L : List (Int × List Int)) (hs : a.eval s = v) (hrow : OpRow G w v L) (hG : ∀ k, v.ownBlock = some k → ¬ G k)
    (g : Nat) (p : Int × List Int) (c : Option Addr × Nat) (hx : a.eval x = .slice (some ⟨g, 0, none⟩) 1 1) (h0 : w.cell? ⟨g, 0, none⟩ = some (.int .i64 p.1)) (h1 : w.cell? ⟨g, 1, none⟩ = some (.slice c.1 p.2.length c.2)) (hp : OpAt G w p c) (hL : L.length ≤ 1000000)
    (h : ∀ v' w', OpRow G w' v' (L ++ [p]) → w.grownBy w' v.ownBlock → (∀ k, v'.ownBlock = some k → v.ownBlock = some k ∨ w.heap.size ≤ k) → wpList Try.prog ops Q rest (a.put o.dst v') w') : wpList Try.prog ops Q (o :: rest) a w :=
  wpList_plain hgd fun _ hK => wp_op_app s x ho G v L hs hrow hG g p c hx h0 h1 hp hL fun v' w' h2 h3 h4 => hK _ _ (h v' w' h2 h3 h4)
theorem OpRow.bytes {G : Nat → Prop} {w : World} {v : Value} {L : List (Int × List Int)} (h : OpRow G w v L) : ∀ p ∈ L, Bytes p.2 := by
  intro p hp
  obtain ⟨C, _, h2⟩ := h
  obtain ⟨i, hi, rfl⟩ := List.getElem_of_mem hp
  have := (h2 i hi).b
  rw [List.getD_eq_getElem?_getD, List.getElem?_eq_getElem hi, Option.getD_some] at this
  exact this
/-- What waits, as writes. -/
def wOps (L : List (Nat × List Int)) : List (Int × List Int) := L.map fun o => ((o.1 : Int), o.2)
theorem wOps_len (L : List (Nat × List Int)) : (wOps L).length = L.length := by simp [wOps]
theorem wOps_at (L : List (Nat × List Int)) (i : Nat) (hi : i < L.length) : (wOps L).getD i (0, []) = (((L.getD i (0, [])).1 : Int), (L.getD i (0, [])).2) := by
  simp [wOps, hi]
theorem wOps_app (L : List (Nat × List Int)) (o : Nat × List Int) : wOps (L ++ [o]) = wOps L ++ [((o.1 : Int), o.2)] := by simp [wOps]
end Go.Proofs.Ytcpplfclpigmkaa
