/- OpRow RefPow RefDskA RegionX: texts laid together. -/
import Derived.Test.YtcjmmfgnnebgkaaM03
import Derived.Test.YtcjmmfgnnebgkaaM01
import Derived.Lib.ConvBytes

/- Rows of writes in memory, their bytes in blocks of G. -/
namespace Go.Proofs.Ytcjmmfgnnebgkaa
open Go.RowKit
set_option maxRecDepth 20000

theorem Try.opInfo : (Try.prog.info? 62).map (fun i => (i.zero, i.size, i.bytes)) = some (some (.agg #[.int .i64 0, .slice none 0 0]), 2, 32) := by kernel_rfl
theorem Try.underlyingOps : Try.prog.underlying 45 = some (.slice 62) := by kernel_rfl
/-- A write, cell by cell. -/
def opC (p : Int × List Int) (c : Option Addr × Nat) : List Value := [.int .i64 p.1, .slice c.1 p.2.length c.2]
theorem opC_length (p : Int × List Int) (c : Option Addr × Nat) : (opC p c).length = 2 := rfl
/-- Its bytes stand there. -/
structure OpAt (G : Nat → Prop) (w : World) (p : Int × List Int) (c : Option Addr × Nat) : Prop where
  s : SIn G w c.1 p.2.length p.2
  f : Fit c.1 p.2.length c.2
  b : Bytes p.2
theorem OpAt.off {F G : Nat → Prop} {w w' : World} {p : Int × List Int} {c : Option Addr × Nat} (h : OpAt G w p c) (hb : Off F w w') (hd : ∀ b, b < w.heap.size → G b → ¬ F b) : OpAt G w' p c := ⟨h.s.off hb hd, h.f, h.b⟩
theorem OpAt.mono {G G' : Nat → Prop} {w : World} {p : Int × List Int} {c : Option Addr × Nat} (h : OpAt G w p c) (hd : ∀ b, b < w.heap.size → G b → G' b) : OpAt G' w p c := ⟨h.s.mono hd, h.f, h.b⟩
theorem opAt_none (G : Nat → Prop) (w : World) (o : Int) : OpAt G w (o, []) (none, 0) := ⟨SIn.none _ _ _, ⟨Nat.le_refl _, Nat.zero_le _, fun _ => ⟨rfl, rfl⟩⟩, fun x hx => by cases hx⟩
/-- A row of them. -/
def OpRow (G : Nat → Prop) (w : World) (v : Value) (L : List (Int × List Int)) : Prop := ∃ C : Nat → Option Addr × Nat, w.ownsRow 0 62 2 v L.length (flatG (fun i => opC (L.getD i (0, [])) (C i)) L.length) ∧ ∀ i, i < L.length → OpAt G w (L.getD i (0, [])) (C i)
theorem opRow_nil (G : Nat → Prop) (w : World) : OpRow G w (.slice none 0 0) [] := ⟨fun _ => (none, 0), World.ownsRow_nil _ _ _ _, fun i hi => absurd hi (by simp)⟩
theorem OpRow.off {F G : Nat → Prop} {w w' : World} {v : Value} {L : List (Int × List Int)} (h : OpRow G w v L) (hb : Off F w w') (ho : ∀ k, v.ownBlock = some k → ¬ F k) (hd : ∀ b, b < w.heap.size → G b → ¬ F b) : OpRow G w' v L := by
  obtain ⟨C, h1, h2⟩ := h
  exact ⟨C, own_off h1 hb ho, fun i hi => (h2 i hi).off hb hd⟩
theorem OpRow.mono {G G' : Nat → Prop} {w : World} {v : Value} {L : List (Int × List Int)} (h : OpRow G w v L) (hd : ∀ b, b < w.heap.size → G b → G' b) : OpRow G' w v L := by
  obtain ⟨C, h1, h2⟩ := h
  exact ⟨C, h1, fun i hi => (h2 i hi).mono hd⟩
theorem OpRow.lt {G : Nat → Prop} {w : World} {v : Value} {L : List (Int × List Int)} (h : OpRow G w v L) {k : Nat} (hk : v.ownBlock = some k) : k < w.heap.size := by
  obtain ⟨C, h1, _⟩ := h
  obtain ⟨cur, hh⟩ := own_type h1 hk
  exact (Array.getElem?_eq_some_iff.1 hh).1
/-- What its block is. -/
theorem OpRow.typ {G : Nat → Prop} {w : World} {v : Value} {L : List (Int × List Int)} (h : OpRow G w v L) {k : Nat} (hk : v.ownBlock = some k) : ∃ cur, w.heap[k]? = some (.cells cur 62 (0, 0)) := by
  obtain ⟨C, h1, _⟩ := h
  exact own_type h1 hk
theorem OpRow.is {G : Nat → Prop} {w : World} {v : Value} {L : List (Int × List Int)} (h : OpRow G w v L) : ∃ y cy, v = .slice y L.length cy ∧ L.length ≤ cy ∧ cy ≤ maxLen ∧ (y = none → L.length = 0 ∧ cy = 0) := by
  obtain ⟨C, h1, _⟩ := h
  exact own_is h1
theorem op_cells {G : Nat → Prop} {w : World} {v : Value} {L : List (Int × List Int)} (h : OpRow G w v L) (i : Nat) (hi : i < L.length) : ∃ g cap c, v = .slice (some ⟨g, 0, none⟩) L.length cap ∧ g < w.heap.size ∧ OpAt G w (L.getD i (0, [])) c ∧ w.cell? ⟨g, i * 2, none⟩ = some (.int .i64 (L.getD i (0, [])).1) ∧ w.cell? ⟨g, i * 2 + 1, none⟩ = some (.slice c.1 (L.getD i (0, [])).2.length c.2) := by
  obtain ⟨C, h1, h2⟩ := h
  have hget : ∀ j, j < 2 → (flatG (fun i => opC (L.getD i (0, [])) (C i)) L.length)[i * 2 + j]? = (opC (L.getD i (0, [])) (C i))[j]? := fun j hj => flatG_get (s := 2) (fun i => opC_length _ _) L.length i j hi hj
  obtain ⟨g, cap, rfl, _, hgl, hc0⟩ := own_cell h1 ((hget 0 (by decide)).trans rfl)
  obtain ⟨g', cap', e, _, _, hc1⟩ := own_cell h1 ((hget 1 (by decide)).trans rfl)
  simp only [Value.slice.injEq, Option.some.injEq, Addr.mk.injEq] at e
  rw [← e.1.1] at hc1
  exact ⟨g, cap, C i, rfl, hgl, h2 i hi, hc0, hc1⟩
/-- append of one write to a row that somebody owns. -/
theorem wp_op_app {w : World} {o : Oper} {a : Act} {K : Act → World → Prop} {Q : Exit → Act → World → Prop} (s x : Operand)
    (ho : o.op = .call { callee := .builtin .append, args := #[s, x], argTypes := #[45, 45] }) (G : Nat → Prop) (v : Value) (L : List (Int × List Int)) (hs : a.eval s = v) (hrow : OpRow G w v L) (hG : ∀ k, v.ownBlock = some k → ¬ G k)
    (g : Nat) (p : Int × List Int) (c : Option Addr × Nat) (hx : a.eval x = .slice (some ⟨g, 0, none⟩) 1 1) (h0 : w.cell? ⟨g, 0, none⟩ = some (.int .i64 p.1)) (h1 : w.cell? ⟨g, 1, none⟩ = some (.slice c.1 p.2.length c.2)) (hp : OpAt G w p c) (hL : L.length ≤ 1000000)
    (h : ∀ v' w', OpRow G w' v' (L ++ [p]) → w.grownBy w' v.ownBlock → (∀ k, v'.ownBlock = some k → v.ownBlock = some k ∨ w.heap.size ≤ k) → K (a.put o.dst v') w') : o.wp Try.prog a w K Q := by
  obtain ⟨C, hown, hat⟩ := hrow
  obtain ⟨i0, hi, hz0, hz1, hz2⟩ := info_parts Try.opInfo
  refine wp_append_at s x 45 ho 0 62 i0 _ 2 32 Try.underlyingOps hi hz0 hz1 hz2 rfl (by decide) v L.length _ hs hown ⟨g, 0, none⟩ 1 1 (opC p c) hx (by rw [opC_length]) ?_ ?_ (by unfold maxLen; omega) (by omega) (Nat.zero_le _) ?_
  · intro j u hj
    match j, hj with
    | 0, hj =>
      obtain rfl : Value.int .i64 p.1 = u := by simpa [opC] using hj
      simpa [add_plain'] using h0
    | 1, hj =>
      obtain rfl : Value.slice c.1 p.2.length c.2 = u := by simpa [opC] using hj
      simpa [add_plain'] using h1
  · intro u hu
    simp only [opC, List.mem_cons, List.not_mem_nil, or_false] at hu
    rcases hu with rfl | rfl <;> rfl
  · intro v' w' h2 h3 h4
    have hoff : Off (fun k => v.ownBlock = some k) w w' := (Off.refl _ w).grown h3 (fun k hk => Or.inl hk)
    refine h v' w' ⟨fun i => if i < L.length then C i else c, ?_, fun i hi => ?_⟩ h3 h4
    · have e : flatG (fun i => opC ((L ++ [p]).getD i (0, [])) (if i < L.length then C i else c)) (L ++ [p]).length = flatG (fun i => opC (L.getD i (0, [])) (C i)) L.length ++ opC p c := by
        rw [List.length_append, List.length_singleton, flatG]
        congr 1
        · refine flatG_congr _ (fun i hi => ?_)
          rw [if_pos hi, List.getD_eq_getElem?_getD, List.getElem?_append_left hi, ← List.getD_eq_getElem?_getD]
        · simp
      rw [e, List.length_append, List.length_singleton]
      exact h2
    · rw [List.length_append, List.length_singleton] at hi
      by_cases e : i < L.length
      · simp only [if_pos e]
        rw [show (L ++ [p]).getD i (0, []) = L.getD i (0, []) from by rw [List.getD_eq_getElem?_getD, List.getElem?_append_left e, ← List.getD_eq_getElem?_getD]]
        exact (hat i e).off hoff (fun b _ hb hf => hG b hf hb)
      · obtain rfl : i = L.length := by omega
        simp only [if_neg e]
        rw [show (L ++ [p]).getD L.length (0, []) = p from by simp]
        exact hp.off hoff (fun b _ hb hf => hG b hf hb)
theorem wpList_op_app {w : World} {ops : Array Oper} {rest : List Oper} {o : Oper} {a : Act} {Q : Exit → Act → World → Prop} (hgd : o.guard = none) (s x : Operand)
    (ho : o.op = .call { callee := .builtin .append, args := #[s, x], argTypes := #[45, 45] }) (G : Nat → Prop) (v : Value) (L : List (Int × List Int)) (hs : a.eval s = v) (hrow : OpRow G w v L) (hG : ∀ k, v.ownBlock = some k → ¬ G k)
    (g : Nat) (p : Int × List Int) (c : Option Addr × Nat) (hx : a.eval x = .slice (some ⟨g, 0, none⟩) 1 1) (h0 : w.cell? ⟨g, 0, none⟩ = some (.int .i64 p.1)) (h1 : w.cell? ⟨g, 1, none⟩ = some (.slice c.1 p.2.length c.2)) (hp : OpAt G w p c) (hL : L.length ≤ 1000000)
    (h : ∀ v' w', OpRow G w' v' (L ++ [p]) → w.grownBy w' v.ownBlock → (∀ k, v'.ownBlock = some k → v.ownBlock = some k ∨ w.heap.size ≤ k) → wpList Try.prog ops Q rest (a.put o.dst v') w') : wpList Try.prog ops Q (o :: rest) a w :=
  wpList_plain hgd fun _ hK => wp_op_app s x ho G v L hs hrow hG g p c hx h0 h1 hp hL fun v' w' h2 h3 h4 => hK _ _ (h v' w' h2 h3 h4)
theorem OpRow.bytes {G : Nat → Prop} {w : World} {v : Value} {L : List (Int × List Int)} (h : OpRow G w v L) : ∀ p ∈ L, Bytes p.2 := by
  intro p hp
  obtain ⟨C, _, h2⟩ := h
  obtain ⟨i, hi, rfl⟩ := List.getElem_of_mem hp
  have := (h2 i hi).b
  rw [List.getD_eq_getElem?_getD, List.getElem?_eq_getElem hi, Option.getD_some] at this
  exact this
/-- What waits, as writes. -/
def wOps (L : List (Nat × List Int)) : List (Int × List Int) := L.map fun o => ((o.1 : Int), o.2)
theorem wOps_len (L : List (Nat × List Int)) : (wOps L).length = L.length := by simp [wOps]
theorem wOps_at (L : List (Nat × List Int)) (i : Nat) (hi : i < L.length) : (wOps L).getD i (0, []) = (((L.getD i (0, [])).1 : Int), (L.getD i (0, [])).2) := by
  simp [wOps, hi]
theorem wOps_app (L : List (Nat × List Int)) (o : Nat × List Int) : wOps (L ++ [o]) = wOps L ++ [((o.1 : Int), o.2)] := by simp [wOps]
end Go.Proofs.Ytcjmmfgnnebgkaa


/- The document's Power. -/
namespace Go.Proofs.Ytcjmmfgnnebgkaa
open Go.RowKit
set_option maxRecDepth 20000

/-- What its left field has: its fuse's steps, where it has one. -/
def LeftIs : Option Nat → Bool → Int → Prop
  | none, f, _ => f = false
  | some k, f, l => f = true ∧ l = k ∧ k ≤ 9223372036854775807
def RPBox (w : World) (b : Nat) (st : PSt) : Prop := ∃ (f : Bool) (l : Int), CBox 28 w b #[.bool (!st.1), .bool f, .int .i64 l, .int .i64 (st.2.2 : Int)] ∧ Hid (LeftIs st.2.1 f l)
def RPInv (F : Nat → Prop) (w : World) (v : Value) (st : PSt) : Prop := ∃ b, v = .pointer (some ⟨b, 0, none⟩) ∧ RPBox w b st ∧ ∀ k, F k ↔ k = b
theorem rpbase : ObjBase RPInv := by
  refine ⟨?_, ?_, ?_⟩
  · rintro F w w' v _ ⟨b, rfl, ⟨f, l, h, hl⟩, hF⟩ _ hb
    exact ⟨b, rfl, ⟨f, l, (hb b ((hF b).2 rfl)).trans h, hl⟩, hF⟩
  · rintro F w v _ ⟨b, rfl, ⟨f, l, h, _⟩, hF⟩ k hk
    rw [(hF k).1 hk]
    exact CBox.lt h
  · rintro F w v _ ⟨b, rfl, _, _⟩
    exact ⟨_, rfl⟩
theorem rput {w w' : World} {b : Nat} {st' : PSt} {F : Nat → Prop} (hF : ∀ k, F k ↔ k = b) (h : RPBox w' b st') (ho : Off (fun k => k = b) w w') : KeptG RPInv F w (.pointer (some ⟨b, 0, none⟩)) F w' st' :=
  ⟨⟨b, rfl, h, hF⟩, fun _ h => Or.inl h, ho.mono (fun i hi => Or.inl ((hF i).2 hi))⟩
theorem rfuse (F : Nat → Prop) (v : Value) (st : PSt) (n : Int) (hn : n ≤ 9223372036854775807) (w : World) (hI : RPInv F w v st) : Calls Try.prog 22 #[v, .int .i64 n] w fun e w' => ∃ F', e = .returned (.tuple #[]) ∧ KeptG RPInv F w v F' w' (pFuse st n) := by
  obtain ⟨b, rfl, ⟨f, l, h, hl⟩, hF⟩ := hI
  obtain ⟨g, hg⟩ : ∃ g : Bool, g = decide (0 ≤ n) := ⟨_, rfl⟩
  have hlf : Hid (LeftIs (pFuse st n).2.1 g n) := by
    apply hide'
    subst hg
    unfold pFuse
    by_cases h0 : n < 0
    · have h1 : ¬ 0 ≤ n := by omega
      simp [h0, h1, LeftIs]
    · have h1 : 0 ≤ n := by omega
      simp only [if_neg h0, LeftIs]
      exact ⟨by simp [h1], by omega, by omega⟩
  clear hn hl
  have c1 : w.cell? ⟨b, 1, none⟩ = some (.bool f) := CBox.cell h 1
  have f1 := CBox.frozen h 1
  have h1 : CBox 28 (w.setCell ⟨b, 1, none⟩ (.bool g)) b _ := CBox.put h 1 (.bool g)
  have c2 : (w.setCell ⟨b, 1, none⟩ (.bool g)).cell? ⟨b, 2, none⟩ = some (.int .i64 l) := CBox.cell h1 2
  have f2 := CBox.frozen h1 2
  have h2 : CBox 28 ((w.setCell ⟨b, 1, none⟩ (.bool g)).setCell ⟨b, 2, none⟩ (.int .i64 n)) b #[.bool (!st.1), .bool g, .int .i64 n, .int .i64 (st.2.2 : Int)] := CBox.put h1 2 (.int .i64 n)
  have o2 : Off (fun k => k = b) w ((w.setCell ⟨b, 1, none⟩ (.bool g)).setCell ⟨b, 2, none⟩ (.int .i64 n)) := Off.setCell (F := fun k => k = b) (p := ⟨b, 2, none⟩) (Off.setCell (F := fun k => k = b) (p := ⟨b, 1, none⟩) (Off.refl _ w) (Or.inl rfl) _) (Or.inl rfl) _
  have hF' := hide' hF
  clear hF h h1
  by_cases h0 : 0 ≤ n
  · simp only [h0, decide_true] at hg
    subst hg
    go_enter Try.func22, Try.ntmps22
    go_wp2
    go_end0
    first | exact ⟨rfl, F, rput hF'.out ⟨_, _, h2, hlf⟩ o2⟩ | exact ⟨F, rfl, rput hF'.out ⟨_, _, h2, hlf⟩ o2⟩
  · simp only [h0, decide_false] at hg
    subst hg
    go_enter Try.func22, Try.ntmps22
    go_wp2
    go_end0
    first | exact ⟨rfl, F, rput hF'.out ⟨_, _, h2, hlf⟩ o2⟩ | exact ⟨F, rfl, rput hF'.out ⟨_, _, h2, hlf⟩ o2⟩
theorem rback (F : Nat → Prop) (v : Value) (st : PSt) (w : World) (hI : RPInv F w v st) : Calls Try.prog 24 #[v] w fun e w' => ∃ F', e = .returned (.tuple #[]) ∧ KeptG RPInv F w v F' w' (pBack st) := by
  obtain ⟨b, rfl, ⟨f, l, h, hl⟩, hF⟩ := hI
  have c0 : w.cell? ⟨b, 0, none⟩ = some (.bool (!st.1)) := CBox.cell h 0
  have f0 := CBox.frozen h 0
  have h1 : CBox 28 (w.setCell ⟨b, 0, none⟩ (.bool false)) b _ := CBox.put h 0 (.bool false)
  have c1 : (w.setCell ⟨b, 0, none⟩ (.bool false)).cell? ⟨b, 1, none⟩ = some (.bool f) := CBox.cell h1 1
  have f1 := CBox.frozen h1 1
  have h2 : CBox 28 ((w.setCell ⟨b, 0, none⟩ (.bool false)).setCell ⟨b, 1, none⟩ (.bool false)) b #[.bool false, .bool false, .int .i64 l, .int .i64 (st.2.2 : Int)] := CBox.put h1 1 (.bool false)
  have o2 : Off (fun k => k = b) w ((w.setCell ⟨b, 0, none⟩ (.bool false)).setCell ⟨b, 1, none⟩ (.bool false)) := Off.setCell (F := fun k => k = b) (p := ⟨b, 1, none⟩) (Off.setCell (F := fun k => k = b) (p := ⟨b, 0, none⟩) (Off.refl _ w) (Or.inl rfl) _) (Or.inl rfl) _
  have hF' := hide' hF
  clear hF h h1 hl
  go_enter Try.func24, Try.ntmps24
  go_wp2
  go_end0
  first | exact ⟨rfl, F, rput hF'.out ⟨_, _, h2, hide' rfl⟩ o2⟩ | exact ⟨F, rfl, rput hF'.out ⟨_, _, h2, hide' rfl⟩ o2⟩
theorem left_less {k : Nat} {l : Int} (h : Hid (LeftIs (some (k + 1)) true l)) : ¬ l = 0 ∧ ∃ l', IntKind.i64.wrap (l - 1) = l' ∧ Hid (LeftIs (some k) true l') := by
  obtain ⟨_, rfl, hk⟩ := h.out
  refine ⟨by omega, (k : Int), ?_, hide' ⟨rfl, rfl, by omega⟩⟩
  rw [IntKind.wrap_i64]
  omega
set_option maxHeartbeats 1000000 in
theorem rspend (F : Nat → Prop) (v : Value) (st : PSt) (hn : st.2.2 ≤ 1000000) (w : World) (hI : RPInv F w v st) : Calls Try.prog 33 #[v] w fun e w' => ∃ F', e = .returned (.bool (pSpend st).1) ∧ KeptG RPInv F w v F' w' (pSpend st).2 := by
  obtain ⟨b, rfl, ⟨f, l, h, hl⟩, hF⟩ := hI
  obtain ⟨o, fu, n⟩ := st
  have hw1 : IntKind.i64.wrap ((n : Int) + 1) = ((n + 1 : Nat) : Int) := by
    rw [IntKind.wrap_i64]
    have : n ≤ 1000000 := hn
    omega
  clear hn
  have hF' := hide' hF
  clear hF
  have f0 := CBox.frozen h 0
  cases o
  · rw [pSpend_gone]
    have c0 : w.cell? ⟨b, 0, none⟩ = some (.bool true) := CBox.cell h 0
    go_enter Try.func33, Try.ntmps33
    go_wp2
    go_ret
    first | exact ⟨rfl, F, rput hF'.out ⟨_, _, h, hl⟩ (Off.refl _ _)⟩ | exact ⟨F, rfl, rput hF'.out ⟨_, _, h, hl⟩ (Off.refl _ _)⟩
  · have c0 : w.cell? ⟨b, 0, none⟩ = some (.bool false) := CBox.cell h 0
    have c1 : w.cell? ⟨b, 1, none⟩ = some (.bool f) := CBox.cell h 1
    have c2 : w.cell? ⟨b, 2, none⟩ = some (.int .i64 l) := CBox.cell h 2
    have f2 := CBox.frozen h 2
    -- the step that is done
    have step : ∀ l' : Int, CBox 28 ((w.setCell ⟨b, 2, none⟩ (.int .i64 l')).setCell ⟨b, 3, none⟩ (.int .i64 ((n + 1 : Nat) : Int))) b #[.bool false, .bool f, .int .i64 l', .int .i64 ((n + 1 : Nat) : Int)] ∧
        Off (fun k => k = b) w ((w.setCell ⟨b, 2, none⟩ (.int .i64 l')).setCell ⟨b, 3, none⟩ (.int .i64 ((n + 1 : Nat) : Int))) ∧
        (w.setCell ⟨b, 2, none⟩ (.int .i64 l')).cell? ⟨b, 3, none⟩ = some (.int .i64 (n : Int)) ∧ (w.setCell ⟨b, 2, none⟩ (.int .i64 l')).frozen? ⟨b, 3, none⟩ = false := by
      intro l'
      have h1 : CBox 28 (w.setCell ⟨b, 2, none⟩ (.int .i64 l')) b _ := CBox.put h 2 (.int .i64 l')
      exact ⟨CBox.put h1 3 (.int .i64 ((n + 1 : Nat) : Int)), Off.setCell (F := fun k => k = b) (p := ⟨b, 3, none⟩) (Off.setCell (F := fun k => k = b) (p := ⟨b, 2, none⟩) (Off.refl _ w) (Or.inl rfl) _) (Or.inl rfl) _, CBox.cell h1 3, CBox.frozen h1 3⟩
    rcases fu with _ | _ | k
    · rw [pSpend_free]
      obtain rfl : f = false := hl.out
      obtain ⟨l', hl'⟩ : ∃ l', IntKind.i64.wrap (l - 1) = l' := ⟨_, rfl⟩
      obtain ⟨h2, o2, d3, f3⟩ := step l'
      clear step h hl
      go_enter Try.func33, Try.ntmps33
      go_wp2
      go_ret
      first | exact ⟨rfl, F, rput hF'.out ⟨_, _, h2, hide' rfl⟩ o2⟩ | exact ⟨F, rfl, rput hF'.out ⟨_, _, h2, hide' rfl⟩ o2⟩
    · rw [pSpend_end]
      obtain ⟨rfl, rfl, _⟩ := hl.out
      clear step
      have h2 : CBox 28 (w.setCell ⟨b, 0, none⟩ (.bool true)) b #[.bool true, .bool true, .int .i64 0, .int .i64 (n : Int)] := CBox.put h 0 (.bool true)
      have o2 : Off (fun k => k = b) w (w.setCell ⟨b, 0, none⟩ (.bool true)) := Off.setCell (F := fun k => k = b) (p := ⟨b, 0, none⟩) (Off.refl _ w) (Or.inl rfl) _
      clear h
      go_enter Try.func33, Try.ntmps33
      go_wp2
      go_ret
      first | exact ⟨rfl, F, rput hF'.out ⟨_, _, h2, hl⟩ o2⟩ | exact ⟨F, rfl, rput hF'.out ⟨_, _, h2, hl⟩ o2⟩
    · rw [pSpend_some]
      have hf1 := hl.out.1
      subst hf1
      obtain ⟨hl0, l', hl', hlk⟩ := left_less hl
      obtain ⟨h2, o2, d3, f3⟩ := step l'
      clear step h hl
      go_enter Try.func33, Try.ntmps33
      go_wp2
      go_ret
      first | exact ⟨rfl, F, rput hF'.out ⟨_, _, h2, hlk⟩ o2⟩ | exact ⟨F, rfl, rput hF'.out ⟨_, _, h2, hlk⟩ o2⟩
end Go.Proofs.Ytcjmmfgnnebgkaa


/- The document's disk in memory: its box, its rows. -/
namespace Go.Proofs.Ytcjmmfgnnebgkaa
open Go.RowKit
set_option maxRecDepth 20000

def dCells (p : Option Addr) (S : List (List Int)) (vW vT : Value) (no : Bool) : List Value := .pointer p :: (S.map (fun x => Value.string (strOfNums x)) ++ [vW, vT, .bool no])
/-- A disk at block b. -/
def DBox (w : World) (b : Nat) (p : Option Addr) (S : List (List Int)) (vW vT : Value) (no : Bool) : Prop := S.length = 32 ∧ CBox 47 w b (dCells p S vW vT no).toArray
section
variable {w : World} {b : Nat} {p : Option Addr} {S : List (List Int)} {vW vT : Value} {no : Bool}
theorem DBox.lt (h : DBox w b p S vW vT no) : b < w.heap.size := CBox.lt h.2
theorem DBox.frozen (h : DBox w b p S vW vT no) (i : Nat) : w.frozen? ⟨b, i, none⟩ = false := CBox.frozen h.2 i
theorem DBox.c0 (h : DBox w b p S vW vT no) : w.cell? ⟨b, 0, none⟩ = some (.pointer p) := CBox.cell h.2 0
theorem DBox.cS (h : DBox w b p S vW vT no) (i : Nat) (hi : i < 32) : w.cell? ⟨b, 1 + i, none⟩ = some (.string (strOfNums (S.getD i []))) := by
  rw [CBox.cell h.2]
  have hl := h.1
  rw [List.getElem?_toArray, Nat.add_comm, dCells, List.getElem?_cons_succ, List.getElem?_append_left (by rw [List.length_map]; omega)]
  simp [hl, hi]
theorem DBox.c33 (h : DBox w b p S vW vT no) : w.cell? ⟨b, 33, none⟩ = some vW := by
  rw [CBox.cell h.2, List.getElem?_toArray, dCells, List.getElem?_cons_succ, List.getElem?_append_right (by rw [List.length_map, h.1]; decide), List.length_map, h.1]
  rfl
theorem DBox.c34 (h : DBox w b p S vW vT no) : w.cell? ⟨b, 34, none⟩ = some vT := by
  rw [CBox.cell h.2, List.getElem?_toArray, dCells, List.getElem?_cons_succ, List.getElem?_append_right (by rw [List.length_map, h.1]; decide), List.length_map, h.1]
  rfl
theorem DBox.c35 (h : DBox w b p S vW vT no) : w.cell? ⟨b, 35, none⟩ = some (.bool no) := by
  rw [CBox.cell h.2, List.getElem?_toArray, dCells, List.getElem?_cons_succ, List.getElem?_append_right (by rw [List.length_map, h.1]; decide), List.length_map, h.1]
  rfl
theorem DBox.off {F : Nat → Prop} {w' : World} (h : DBox w b p S vW vT no) (hb : Off F w w') (hn : ¬ F b) : DBox w' b p S vW vT no := ⟨h.1, CBox.off h.2 hb hn⟩
theorem DBox.grown {w' : World} (h : DBox w b p S vW vT no) (hb : Below w.heap.size w w') : DBox w' b p S vW vT no := ⟨h.1, CBox.grown h.2 hb⟩
theorem DBox.putS (h : DBox w b p S vW vT no) (i : Nat) (hi : i < 32) (x : List Int) : DBox (w.setCell ⟨b, 1 + i, none⟩ (.string (strOfNums x))) b p (S.set i x) vW vT no := by
  refine ⟨by rw [List.length_set]; exact h.1, ?_⟩
  have := CBox.put h.2 (1 + i) (.string (strOfNums x))
  have e : ((dCells p S vW vT no).toArray.setIfInBounds (1 + i) (.string (strOfNums x))) = (dCells p (S.set i x) vW vT no).toArray := by
    rw [List.setIfInBounds_toArray, Nat.add_comm, dCells, List.set_cons_succ, List.set_append_left _ _ (by rw [List.length_map, h.1]; exact hi), dCells, List.map_set]
  rw [e] at this
  exact this
theorem DBox.putW (h : DBox w b p S vW vT no) (u : Value) : DBox (w.setCell ⟨b, 33, none⟩ u) b p S u vT no := by
  refine ⟨h.1, ?_⟩
  have := CBox.put h.2 33 u
  have e : ((dCells p S vW vT no).toArray.setIfInBounds 33 u) = (dCells p S u vT no).toArray := by
    rw [List.setIfInBounds_toArray, dCells, List.set_cons_succ, List.set_append_right _ _ (by rw [List.length_map, h.1]; decide), List.length_map, h.1]
    rfl
  rw [e] at this
  exact this
theorem DBox.putT (h : DBox w b p S vW vT no) (u : Value) : DBox (w.setCell ⟨b, 34, none⟩ u) b p S vW u no := by
  refine ⟨h.1, ?_⟩
  have := CBox.put h.2 34 u
  have e : ((dCells p S vW vT no).toArray.setIfInBounds 34 u) = (dCells p S vW u no).toArray := by
    rw [List.setIfInBounds_toArray, dCells, List.set_cons_succ, List.set_append_right _ _ (by rw [List.length_map, h.1]; decide), List.length_map, h.1]
    rfl
  rw [e] at this
  exact this
theorem DBox.putN (h : DBox w b p S vW vT no) (u : Bool) : DBox (w.setCell ⟨b, 35, none⟩ (.bool u)) b p S vW vT u := by
  refine ⟨h.1, ?_⟩
  have := CBox.put h.2 35 (.bool u)
  have e : ((dCells p S vW vT no).toArray.setIfInBounds 35 (.bool u)) = (dCells p S vW vT u).toArray := by
    rw [List.setIfInBounds_toArray, dCells, List.set_cons_succ, List.set_append_right _ _ (by rw [List.length_map, h.1]; decide), List.length_map, h.1]
    rfl
  rw [e] at this
  exact this
end
/-- The document's disk. -/
structure RDAt (FB : Nat → Prop) (w : World) (b : Nat) (p : Option Addr) (vW vT : Value) (st : DskSt) : Prop where
  box : DBox w b p st.B vW vT st.no
  wt : OpRow FB w vW (wOps st.Wt)
  tr : OpRow FB w vT st.T
  wf : DskWf st
  bB : ∀ x ∈ st.B, Bytes x
  nb : ¬ FB b
  lt : ∀ k, FB k → k < w.heap.size
  oW : ∀ k, vW.ownBlock = some k → k ≠ b ∧ ¬ FB k
  oT : ∀ k, vT.ownBlock = some k → k ≠ b ∧ ¬ FB k
  oo : ∀ k, vW.ownBlock = some k → vT.ownBlock ≠ some k
/-- All that is its own. -/
def ROwn (FB : Nat → Prop) (b : Nat) (vW vT : Value) : Nat → Prop := fun k => k = b ∨ vW.ownBlock = some k ∨ vT.ownBlock = some k ∨ FB k
theorem RDAt.off {FB G : Nat → Prop} {w w' : World} {b : Nat} {p : Option Addr} {vW vT : Value} {st : DskSt} (h : RDAt FB w b p vW vT st) (hb : Off G w w') (hd : ∀ k, ROwn FB b vW vT k → ¬ G k) : RDAt FB w' b p vW vT st :=
  ⟨h.box.off hb (hd b (Or.inl rfl)), h.wt.off hb (fun k hk => hd k (Or.inr (Or.inl hk))) (fun k _ hk => hd k (Or.inr (Or.inr (Or.inr hk)))), h.tr.off hb (fun k hk => hd k (Or.inr (Or.inr (Or.inl hk)))) (fun k _ hk => hd k (Or.inr (Or.inr (Or.inr hk)))),
    h.wf, h.bB, h.nb, fun k hk => Nat.lt_of_lt_of_le (h.lt k hk) hb.size, h.oW, h.oT, h.oo⟩
theorem RDAt.below {FB : Nat → Prop} {w w' : World} {b : Nat} {p : Option Addr} {vW vT : Value} {st : DskSt} (h : RDAt FB w b p vW vT st) (hb : Below w.heap.size w w') : RDAt FB w' b p vW vT st := h.off (Off.of_below (F := fun _ => False) hb) (fun _ _ h => h)
theorem RDAt.own {FB : Nat → Prop} {w : World} {b : Nat} {p : Option Addr} {vW vT : Value} {st : DskSt} (h : RDAt FB w b p vW vT st) : ∀ k, ROwn FB b vW vT k → k < w.heap.size := by
  rintro k (rfl | hk | hk | hk)
  · exact h.box.lt
  · exact h.wt.lt hk
  · exact h.tr.lt hk
  · exact h.lt k hk
def RDInv (p : Option Addr) (F : Nat → Prop) (w : World) (v : Value) (st : DskSt) : Prop := ∃ b FB vW vT, v = .pointer (some ⟨b, 0, none⟩) ∧ RDAt FB w b p vW vT st ∧ ∀ k, F k ↔ ROwn FB b vW vT k
theorem rdbase (p : Option Addr) : ObjBase (RDInv p) := by
  refine ⟨?_, ?_, ?_⟩
  · rintro F w w' v st ⟨b, FB, vW, vT, rfl, h, hF⟩ hs hb
    refine ⟨b, FB, vW, vT, rfl, ?_, hF⟩
    have hcell : ∀ k i, F k → w'.cell? ⟨k, i, none⟩ = w.cell? ⟨k, i, none⟩ := fun k i hk => World.cell?_of_block (w := w) (hb k hk)
    have hin : ∀ {x : Option Addr} {n : Nat} {xs : List Int}, SIn FB w x n xs → SIn FB w' x n xs := fun {x n xs} hx => ⟨hx.1, fun hn => by
      obtain ⟨g, o, e, hl, hg, ha⟩ := hx.2 hn
      exact ⟨g, o, e, Nat.lt_of_lt_of_le hl hs, hg, fun i hi => (hcell g (o + i) ((hF g).2 (Or.inr (Or.inr (Or.inr hg))))).trans (ha i hi)⟩⟩
    have hrow : ∀ {u : Value} {L : List (Int × List Int)}, OpRow FB w u L → (∀ k, u.ownBlock = some k → F k) → OpRow FB w' u L := fun {u L} hr ho => by
      obtain ⟨C, h1, h2⟩ := hr
      refine ⟨C, ?_, fun i hi => ⟨hin (h2 i hi).s, (h2 i hi).f, (h2 i hi).b⟩⟩
      obtain ⟨hl, h3 | ⟨g, cap, cur, rfl, hg, hh, rest⟩⟩ := h1
      · exact ⟨hl, Or.inl h3⟩
      · exact ⟨hl, Or.inr ⟨g, cap, cur, rfl, hg, (hb g (ho g rfl)).trans hh, rest⟩⟩
    exact ⟨⟨h.box.1, (hb b ((hF b).2 (Or.inl rfl))).trans h.box.2⟩, hrow h.wt (fun k hk => (hF k).2 (Or.inr (Or.inl hk))), hrow h.tr (fun k hk => (hF k).2 (Or.inr (Or.inr (Or.inl hk)))), h.wf, h.bB, h.nb, fun k hk => Nat.lt_of_lt_of_le (h.lt k hk) hs, h.oW, h.oT, h.oo⟩
  · rintro F w v st ⟨b, FB, vW, vT, rfl, h, hF⟩ k hk
    exact h.own k ((hF k).1 hk)
  · rintro F w v _ ⟨b, FB, vW, vT, rfl, _, _⟩
    exact ⟨_, rfl⟩
theorem layD_take (B : List (List Int)) (L : List (Nat × List Int)) (k : Nat) (hk : k < L.length) {lb : Nat} {ys : List Int} (h : L.getD k (0, []) = (lb, ys)) : layD B (L.take (k + 1)) = (layD B (L.take k)).set lb ys := by
  rw [List.take_succ_eq_append_getElem hk]
  have e : L[k] = (lb, ys) := by rw [← h, List.getD_eq_getElem?_getD, List.getElem?_eq_getElem hk, Option.getD_some]
  rw [e]
  simp [layD]
theorem layD_bytes : ∀ (L : List (Nat × List Int)) (B : List (List Int)), (∀ x ∈ B, Bytes x) → (∀ o ∈ L, Bytes o.2) → ∀ x ∈ layD B L, Bytes x
  | [], _, h, _ => h
  | o :: L, B, h, h2 => layD_bytes L (B.set o.1 o.2) (fun x hx => by
      rcases List.mem_or_eq_of_mem_set hx with h' | h'
      · exact h x h'
      · rw [h']
        exact h2 o List.mem_cons_self) (fun p hp => h2 p (List.mem_cons_of_mem _ hp))
theorem layD_len (B : List (List Int)) (L : List (Nat × List Int)) : (layD B L).length = B.length := by
  induction L generalizing B with
  | nil => rfl
  | cons o L ih =>
    show (layD (B.set o.1 o.2) L).length = _
    rw [ih, List.length_set]
theorem RDAt.wbytes {FB : Nat → Prop} {w : World} {b : Nat} {p : Option Addr} {vW vT : Value} {st : DskSt} (h : RDAt FB w b p vW vT st) : ∀ o ∈ st.Wt, Bytes o.2 := fun o ho =>
  h.wt.bytes ((o.1 : Int), o.2) (List.mem_map.2 ⟨o, ho, rfl⟩)
/-- The write at a place of what waits. -/
theorem wt_at {G : Nat → Prop} {w : World} {y : Option Addr} {m c : Nat} {L : List (Nat × List Int)} (h : OpRow G w (.slice y m c) (wOps L)) (hm : m = L.length) (hw : ∀ o ∈ L, o.1 < 32 ∧ o.2.length = 32) {k : Nat} (hk : k < m) :
    ∃ g lb ys z cz, y = some ⟨g, 0, none⟩ ∧ g < w.heap.size ∧ L.getD k (0, []) = (lb, ys) ∧ lb < 32 ∧ ys.length = 32 ∧ Bytes ys ∧ SAt w z 32 ys ∧ Fit z 32 cz ∧ w.cell? ⟨g, k * 2, none⟩ = some (.int .i64 (lb : Int)) ∧ w.cell? ⟨g, k * 2 + 1, none⟩ = some (.slice z 32 cz) := by
  subst hm
  obtain ⟨g, cap, c', hv, hgl, hat, hc0, hc1⟩ := op_cells h k (by rw [wOps_len]; exact hk)
  rw [wOps_at _ _ hk] at hat hc0 hc1
  have hmem : L.getD k (0, []) ∈ L := by
    rw [List.getD_eq_getElem?_getD, List.getElem?_eq_getElem hk, Option.getD_some]
    exact List.getElem_mem hk
  obtain ⟨h1, h2⟩ := hw _ hmem
  have hs := hat.s.sat
  have hf := hat.f
  simp only [h2] at hs hf hc1
  refine ⟨g, _, _, c'.1, c'.2, ?_, hgl, rfl, h1, h2, hat.b, hs, hf, hc0, hc1⟩
  simp only [Value.slice.injEq] at hv
  exact hv.1
/-- []byte of a text. -/
theorem conv_back (xs : List Int) (hx : Bytes xs) (n : Nat) (hn : xs.length = n) (w : World) : ∃ cap w', (convert 9 33 (.string (strOfNums xs))).run Try.prog w = .ok (.slice (some ⟨w.heap.size, 0, none⟩) n cap) w' ∧ At w' w.heap.size 0 xs ∧ w.heap.size < w'.heap.size ∧ Below w.heap.size w w' ∧ n ≤ cap := by
  have hsz : (strOfNums xs).size = n := by rw [strOfNums_size, hn]
  have hr := Lib.run_convert_string_bytes (P := Try.prog) w 9 33 5 (strOfNums xs) (show Try.prog.underlying 9 = some .string by kernel_rfl) Try.underlying33 Try.underlying5
  rw [hsz] at hr
  refine ⟨_, _, hr, fun i hi => ?_, by rw [Lib.bytesWorld_size]; omega, ⟨rfl, rfl, rfl, by rw [Lib.bytesWorld_size]; omega, fun k hk => Lib.bytesWorld_at_old w 5 _ k hk⟩, grownCap_ge w n 0 5⟩
  rw [Nat.zero_add, Lib.bytesWorld_cell w 5 (strOfNums xs) i (by rw [hsz]; omega)]
  have e : (strOfNums xs).data.toList = xs.map byt := by
    have := str_toList xs
    rw [ByteArray.toList_eq] at this
    exact this
  rw [e]
  have hb := hx xs[i] (List.getElem_mem hi)
  have : ((xs.map byt).getD i 0).toNat = xs[i].toNat := by
    rw [List.getD_eq_getElem?_getD, List.getElem?_map, List.getElem?_eq_getElem hi, Option.map_some, Option.getD_some]
    exact byt_toNat hb
  rw [this]
  simp [hi]
  omega
end Go.Proofs.Ytcjmmfgnnebgkaa


/- A statement whose order Go leaves open and whose last operation, a store, waits for all others: what is asked of every world ahead of it need not hold behind it. -/
namespace Go.Proofs.Ytcjmmfgnnebgkaa
open Go.RowKit
set_option maxRecDepth 20000
section
variable {P : Program} {ops : Array Oper} {Q : Exit → Act → World → Prop} {md : Region.Mode} {S S' : World → Prop} {last : Nat}

/-- Whatever order is picked from here on; S holds behind each operation but the last one. -/
def wpAnyX (P : Program) (md : Region.Mode) (ops : Array Oper) (Q : Exit → Act → World → Prop) (S : World → Prop) (last : Nat) : Nat → Array Bool → Act → World → Prop
  | 0, listed, a, w => Region.ready md ops listed = [] ∧ Q .normal a w
  | fuel + 1, listed, a, w => (Region.ready md ops listed = [] → Q .normal a w) ∧
    ∀ i ∈ Region.ready md ops listed, wpOp P ops Q i (fun a' w' => (i ≠ last → S w') ∧ wpAnyX P md ops Q S last fuel (listed.setIfInBounds i true) a' w') a w
theorem wpAny_of_X : ∀ (fuel : Nat) (listed : Array Bool) (a : Act) (w : World), wpAnyX P md ops Q S last fuel listed a w → wpAny P md ops Q fuel listed a w
  | 0, _, _, _, h => h
  | fuel + 1, _, _, _, h => ⟨h.1, fun i hi => wpOp_mono (fun a' w' h' => wpAny_of_X fuel _ a' w' h'.2) (h.2 i hi)⟩
theorem heldX_more (hS : ∀ w, S' w → S w) : ∀ (fuel : Nat) (listed : Array Bool) (a : Act) (w : World), wpAnyX P md ops Q S' last fuel listed a w → wpAnyX P md ops Q S last fuel listed a w
  | 0, _, _, _, h => h
  | fuel + 1, _, _, _, h => ⟨h.1, fun i hi => wpOp_mono (fun a' w' h' => ⟨fun hl => hS _ (h'.1 hl), heldX_more hS fuel _ a' w' h'.2⟩) (h.2 i hi)⟩
/-- The last operation waits for number i. -/
def lastWaits (md : Region.Mode) (ops : Array Oper) (last i : Nat) : Bool := match ops[last]? with
  | some o => o.after.any fun e => Region.binds md e && e.on == i
  | none => false
theorem firstX {i : Nat} {oi : Oper} {v : Value} (hi : ops[i]? = some oi) (hsel : ∀ (j : Nat) (o : Oper) cs b, ops[j]? = some o → o.op ≠ .select cs b)
    (hQ : ∀ c a w, Q (.panic c) (a.put oi.dst v) w → Q (.panic c) a w) (hlast : lastWaits md ops last i = true) (hil : i ≠ last) :
    ∀ (fuel : Nat) (listed : Array Bool) (a : Act) (w : World),
      (∀ j oj, ops[j]? = some oj → j ≠ i → listed.getD j true = false → (∀ e ∈ oj.after, Region.binds md e = true → e.on ≠ i) → oi.apart ops oj = true) →
      i ∈ Region.ready md ops listed → YieldsIf P ops S oi v a → S w →
      wpAnyX P md ops Q S last fuel (listed.setIfInBounds i true) (a.put oi.dst v) w → wpAnyX P md ops Q S last (fuel + 1) listed a w := by
  intro fuel
  induction fuel with
  | zero =>
    intro listed a w _ hr hy hS H
    refine ⟨fun h => (by rw [h] at hr; cases hr), fun j hj => ?_⟩
    by_cases hji : j = i
    · subst hji
      exact hy.wpOp hi hS ⟨fun _ => hS, H⟩
    · have := ready_mono hj hji
      rw [H.1] at this
      cases this
  | succ fuel ih =>
    intro listed a w hfree hr hy hS H
    refine ⟨fun h => (by rw [h] at hr; cases hr), fun j hj => ?_⟩
    by_cases hji : j = i
    · subst hji
      exact hy.wpOp hi hS ⟨fun _ => hS, H⟩
    · have h1 := H.2 j (ready_mono hj hji)
      obtain ⟨hjun, oj, hoj, hall⟩ := mem_ready.1 hj
      have hnot : ∀ e ∈ oj.after, Region.binds md e = true → e.on ≠ i := fun e he hb heq => by
        have h1 := hall e he hb
        have h0 := (mem_ready.1 hr).1
        rw [heq] at h1
        rcases Nat.lt_or_ge i listed.size with h' | h'
        · simp [h'] at h0 h1
          rw [h0] at h1
          cases h1
        · simp [Array.getElem?_eq_none h'] at h1
      have hjl : j ≠ last := fun e => by
        subst e
        simp only [lastWaits, hoj, Array.any_eq_true] at hlast
        obtain ⟨n, hn, hb⟩ := hlast
        rw [Bool.and_eq_true, beq_iff_eq] at hb
        exact hnot _ (Array.getElem_mem hn) hb.1 hb.2
      have h2 := wpOp_putIf hoj (hfree j oj hoj hji hjun hnot) (fun cs b => hsel i oi cs b hi) (fun cs b => hsel j oj cs b hoj) hQ hy h1
      have hfree' : ∀ k ok, ops[k]? = some ok → k ≠ i → (listed.setIfInBounds j true).getD k true = false →
          (∀ e ∈ ok.after, Region.binds md e = true → e.on ≠ i) → oi.apart ops ok = true := fun k ok hk hki hun hno => by
        refine hfree k ok hk hki ?_ hno
        by_cases hjk : j = k
        · subst hjk
          exact hjun
        · rw [getD_set_ne true hjk] at hun
          exact hun
      refine wpOp_mono (fun a' w' h3 => ⟨h3.2.1, ih (listed.setIfInBounds j true) a' w' hfree' (ready_mono hr (Ne.symm hji)) h3.1 (h3.2.1 hjl) ?_⟩) h2
      rw [Array.setIfInBounds_comm _ _ hji]
      exact h3.2.2
theorem doneX {listed : Array Bool} {a : Act} {w : World} (hr : Region.ready md ops listed = []) (h : Q .normal a w) : ∀ fuel, wpAnyX P md ops Q S last fuel listed a w
  | 0 => ⟨hr, h⟩
  | _ + 1 => ⟨fun _ => h, by rw [hr]; simp⟩
theorem startX (last : Nat) {id : Nat} {a : Act} {w : World} (hm : P.follows .mixedOrders = true) (hS : S w.drew) (h : S w.drew → wpAnyX P .any ops Q S last ops.size (Array.replicate ops.size false) a w.drew) : (Code.region id ops true).wp P Q a w :=
  wp_region_any hm (wpAny_of_X _ _ _ _ (h hS))

variable {fuel : Nat} {listed : Array Bool} {t : List Value} {d : List Deferred} {w : World}
theorem takeX (i k : Nat) {oi : Oper} {v : Value} (hi : ops[i]? = some oi) (hd : oi.dst = some k)
    (hs : Region.noSelect ops = true) (hf : Region.free md ops listed i = true) (hr : (Region.ready md ops listed).contains i = true)
    (hQ : ∀ c a w, Q (.panic c) (a.put oi.dst v) w → Q (.panic c) a w) (hw : Region.wanted oi (yielded ops t.toArray) = true) (hlast : lastWaits md ops last i = true) (hil : i ≠ last) (hS : S w)
    (hy : ∀ w, S w → (execOp (Act.eval ⟨t.toArray, d⟩) oi).run P w = .ok (.value v) w)
    (h : wpAnyX P md ops Q S last fuel (listed.setIfInBounds i true) ⟨(t.set k v).toArray, d⟩ w) : wpAnyX P md ops Q S last (fuel + 1) listed ⟨t.toArray, d⟩ w := by
  refine firstX hi (Region.noSelect_spec hs) hQ hlast hil fuel listed _ w (Region.free_spec hi hf) (by simpa using hr) (Or.inl ⟨hw, hy⟩) hS ?_
  have e : Act.put ⟨t.toArray, d⟩ oi.dst v = ⟨(t.set k v).toArray, d⟩ := by simp [hd, Act.put]
  rw [e]
  exact h
theorem moveX (i k x : Nat) {oi : Oper} {v : Value} (hi : ops[i]? = some oi) (hd : oi.dst = some k) (ho : oi.op = .move (.tmp x))
    (hs : Region.noSelect ops = true) (hf : Region.free md ops listed i = true) (hr : (Region.ready md ops listed).contains i = true)
    (hQ : ∀ c a w, Q (.panic c) (a.put oi.dst v) w → Q (.panic c) a w) (hw : Region.wanted oi (yielded ops t.toArray) = true) (hlast : lastWaits md ops last i = true) (hil : i ≠ last) (hS : S w)
    (hv : t[x]? = some v)
    (h : wpAnyX P md ops Q S last fuel (listed.setIfInBounds i true) ⟨(t.set k v).toArray, d⟩ w) : wpAnyX P md ops Q S last (fuel + 1) listed ⟨t.toArray, d⟩ w :=
  takeX i k hi hd hs hf hr hQ hw hlast hil hS (fun w _ => by rw [BigFrame.run_move _ ho w, eval_slot hv]) h
/-- The one operation that may come up now. -/
theorem onlyX (i : Nat) {oi : Oper} (hi : ops[i]? = some oi) (hr : Region.ready md ops listed = [i]) (hw : Region.wanted oi (yielded ops t.toArray) = true)
    (h : ∀ K : Act → World → Prop, Shut (∀ a w, (i ≠ last → S w) → ((i ≠ last → S w) → wpAnyX P md ops Q S last fuel (listed.setIfInBounds i true) a w) → K a w) → Oper.wp P oi ⟨t.toArray, d⟩ w K Q) :
    wpAnyX P md ops Q S last (fuel + 1) listed ⟨t.toArray, d⟩ w := by
  refine ⟨fun h0 => (by rw [hr] at h0; cases h0), fun j hj => ?_⟩
  rw [hr] at hj
  obtain rfl : j = i := by simpa using hj
  unfold wpOp
  simp only [hi, hw, if_true]
  exact Or.inl (h _ (fun a w hS hn => ⟨hS, hn hS⟩))
end
end Go.Proofs.Ytcjmmfgnnebgkaa
