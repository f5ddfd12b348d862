/- OpTail Clean RowC Clone: texts laid together. -/
import Derived.Test.YtcjmmfgnnebgkaaM04
import Derived.WalkKit
import Derived.WalkSpells
import Derived.WalkLawsBesides
import Derived.Handy
import Derived.Test.YtcjmmfgnnebgkaaM03
import Derived.Test.YtcjmmfgnnebgkaaM02
import Derived.Test.YtcjmmfgnnebgkaaM01

/- Rows of writes: one of them; what stands behind the first of them. -/
namespace Go.Proofs.Ytcjmmfgnnebgkaa
open Go.RowKit
set_option maxRecDepth 20000

/-- A write of a slice of them. -/
theorem tin_at {G : Nat → Prop} {w : World} {x : Option Addr} {m : Nat} {L : List (Nat × List Int)} (h : TIn G w x m (wOps L)) {k : Nat} (hk : k < m) :
    ∃ b o off ys z cz, x = some ⟨b, o, none⟩ ∧ b < w.heap.size ∧ G b ∧ k < L.length ∧ L.getD k (0, []) = (off, ys) ∧ (off, ys) ∈ L ∧ Bytes ys ∧ SIn G w z ys.length ys ∧ Fit z ys.length cz ∧ w.cell? ⟨b, o + k * 2, none⟩ = some (.int .i64 (off : Int)) ∧ w.cell? ⟨b, o + k * 2 + 1, none⟩ = some (.slice z ys.length cz) := by
  have hl : m = L.length := by rw [← h.1, wOps_len]
  subst hl
  obtain ⟨b, o, rfl, hb, hg, hr⟩ := h.2 (by omega)
  have := hr k hk
  rw [wOps_at _ _ hk] at this
  obtain ⟨h1, z, cz, h2, h3, h4, h5, h6, h7⟩ := this
  refine ⟨b, o, _, _, z, cz, rfl, hb, hg, hk, rfl, ?_, h7, h3, ⟨h4, h5, h6⟩, h1, h2⟩
  show L.getD k (0, []) ∈ L
  rw [List.getD_eq_getElem?_getD, List.getElem?_eq_getElem hk, Option.getD_some]
  exact List.getElem_mem hk
/-- The slice behind the first s of some writes. -/
def nextO (a : Option Addr) (cap s : Nat) : Option Addr := if cap = s then a else a.map (·.add (s * 2))
theorem size2 (w : World) : (sizeOf 62).run Try.prog w = .ok 2 w := by
  obtain ⟨i0, hi, _, hz1, _⟩ := info_parts Try.opInfo
  simp [sizeOf, typeInfo, hi, hz1]
theorem sl_tailO (a : Option Addr) (len cap s : Nat) (h : s ≤ len) (w : World) : (Instr.slice 45 (.slice a len cap) (some (.int .i64 s)) none none).run Try.prog w = .ok (.slice (nextO a cap s) (len - s) (cap - s)) w := by
  have hi : (asIntOf (.int .i64 s)).run Try.prog w = .ok (.i64, (s : Int)) w := rfl
  simp only [Instr.slice, Sem.run_bind, run_underlying Try.underlyingOps, Result.andThen_ok, size2]
  simp [Instr.sliceBounds, Instr.sliceBound, Sem.run_bind, Sem.run_pure, hi, h, nextO]
theorem fit_tailO {y : Option Addr} {m c f : Nat} (h : Fit y m c) (hf : f ≤ m) : Fit (nextO y c f) (m - f) (c - f) := by
  obtain ⟨h1, h2, h3⟩ := h
  refine ⟨by omega, by omega, fun e => ?_⟩
  unfold nextO at e
  split at e
  · obtain ⟨rfl, rfl⟩ := h3 e
    omega
  · cases y with
    | none =>
      obtain ⟨rfl, rfl⟩ := h3 rfl
      omega
    | some a => simp at e
theorem OpRow.tail {G G' : Nat → Prop} {w : World} {y : Option Addr} {m c f : Nat} {T : List (Int × List Int)} (h : OpRow G w (.slice y m c) T) {T0 T1 : List (Int × List Int)} (hT : T = T0 ++ T1) (hf : T0.length = f) (h1 : ∀ k, (Value.slice y m c).ownBlock = some k → G' k) (h2 : ∀ k, G k → G' k) : TIn G' w (nextO y c f) (m - f) T1 := by
  obtain ⟨y', c', e, hc, _, _⟩ := h.is
  simp only [Value.slice.injEq] at e
  obtain ⟨-, hm, rfl⟩ := e
  have hl : T.length = f + T1.length := by rw [hT, List.length_append, hf]
  refine ⟨by omega, fun hpos => ?_⟩
  obtain ⟨g, cap, c0, hv, hgl, hat, hc0, hc1⟩ := op_cells h f (by omega)
  simp only [Value.slice.injEq] at hv
  obtain ⟨rfl, -, -⟩ := hv
  refine ⟨g, f * 2, ?_, hgl, h1 g (by simp [Value.ownBlock]), fun i hi => ?_⟩
  · rw [nextO, if_neg (by omega), Option.map_some, add_plain', Nat.zero_add]
  · obtain ⟨g', cap', c1, hv, _, hat, hd0, hd1⟩ := op_cells h (f + i) (by omega)
    simp only [Value.slice.injEq, Option.some.injEq, Addr.mk.injEq] at hv
    rw [← hv.1.1] at hd0 hd1
    have e : T.getD (f + i) (0, []) = T1.getD i (0, []) := by
      rw [hT, List.getD_eq_getElem?_getD, List.getElem?_append_right (by omega), hf, Nat.add_sub_cancel_left, ← List.getD_eq_getElem?_getD]
    rw [e] at hat hd0 hd1
    rw [show f * 2 + i * 2 = (f + i) * 2 from by omega]
    exact ⟨hd0, c1.1, c1.2, hd1, hat.s.mono (fun k _ hk => h2 k hk), hat.f.1, hat.f.2.1, hat.f.2.2, hat.b⟩
theorem own_lt {w : World} {base e size n : Nat} {v : Value} {xs : List Value} (h : w.ownsRow base e size v n xs) : ∀ k, v.ownBlock = some k → k < w.heap.size := fun k hk => by
  obtain ⟨cur, hh⟩ := own_type h hk
  exact (Array.getElem?_eq_some_iff.1 hh).1
end Go.Proofs.Ytcjmmfgnnebgkaa


/- New blocks alone, none of them frozen. -/
namespace Go.Proofs.Ytcjmmfgnnebgkaa
open Go.RowKit
set_option maxRecDepth 20000

/-- New blocks alone, none of them frozen. -/
structure Clean (w w' : World) : Prop where
  b : Below w.heap.size w w'
  f : ∀ k i, w.heap.size ≤ k → w'.frozen? ⟨k, i, none⟩ = false
theorem Clean.refl (w : World) : Clean w w := ⟨Below.refl _ _, fun k i h => by
  have : w.heap[k]? = none := Array.getElem?_eq_none h
  simp [World.frozen?, this]⟩
theorem Clean.drew {a w : World} (h : Clean a w) : Clean a w.drew := ⟨h.b.drew, h.f⟩
theorem Clean.alloc {a w : World} (h : Clean a w) (c : Array Value) (t : TypeId) : Clean a (w.alloc (.cells c t)) := ⟨h.b.alloc h.b.size _, fun k i hk => by
  by_cases e : k = w.heap.size
  · subst e
    simp
  · rw [World.frozen?_alloc_old _ _ _ (show (⟨k, i, none⟩ : Addr).block ≠ w.heap.size from e)]
    exact h.f k i hk⟩
theorem Clean.setCell {a w : World} (h : Clean a w) {p : Addr} (hp : a.heap.size ≤ p.block) (u : Value) : Clean a (w.setCell p u) := ⟨h.b.setCell hp u, fun k i hk => by
  rw [World.frozen?_setCell]
  exact h.f k i hk⟩
theorem Clean.trans {a b c : World} (h : Clean a b) (k : Clean b c) : Clean a c := ⟨h.b.trans (k.b.mono h.b.size), fun n i hn => by
  rcases Nat.lt_or_ge n b.heap.size with hl | hl
  · rw [World.frozen?_of_block (w := b) (a := ⟨n, i, none⟩) (k.b.block n hl)]
    exact h.f n i hn
  · exact k.f n i hl⟩
end Go.Proofs.Ytcjmmfgnnebgkaa


/- A row of bytes with what room there is behind it; copy into it. What turns, no new block frozen. -/
namespace Go.Proofs.Ytcjmmfgnnebgkaa
open Go.RowKit
set_option maxRecDepth 20000

/-- Block g: these bytes, and what stands behind them. -/
def RowC (w : World) (g : Nat) (cur : List Int) (tail : List Value) : Prop := w.heap[g]? = some (.cells (cur.map (Value.int .u8) ++ tail).toArray 5 (0, 0))
section
variable {w w' : World} {g : Nat} {cur : List Int} {tail : List Value}
theorem RowC.at (h : RowC w g cur tail) : At w g 0 cur := by
  intro i hi
  unfold RowC at h
  have e : (cur.map (Value.int .u8) ++ tail)[i]? = some (.int .u8 (cur.getD i 0)) := by
    rw [List.getElem?_append_left (by rw [List.length_map]; exact hi), List.getElem?_map, List.getElem?_eq_getElem hi, List.getD_eq_getElem?_getD, List.getElem?_eq_getElem hi]
    rfl
  simp only [World.cell?, h, Nat.zero_add, List.getElem?_toArray, e]
  rfl
theorem RowC.lt (h : RowC w g cur tail) : g < w.heap.size := (Array.getElem?_eq_some_iff.1 h).1
theorem RowC.frozen (h : RowC w g cur tail) (i : Nat) : w.frozen? ⟨g, i, none⟩ = false := by unfold RowC at h; simp [World.frozen?, h]
theorem RowC.off {F : Nat → Prop} (h : RowC w g cur tail) (hb : Off F w w') (hn : ¬ F g) : RowC w' g cur tail := off_block h hb hn
theorem RowC.sin {G : Nat → Prop} (h : RowC w g cur tail) (hG : G g) : SIn G w (some ⟨g, 0, none⟩) cur.length cur := ⟨rfl, fun _ => ⟨g, 0, rfl, h.lt, hG, h.at⟩⟩
theorem RowC.made (w : World) (n : Nat) : RowC (w.alloc (.cells (madeCells #[.int .u8 0] n) 5)) w.heap.size (List.replicate n 0) [] := by
  have := Row.made w n
  unfold Row at this
  unfold RowC
  rw [List.append_nil]
  exact this
end
theorem own_rowC {w : World} {base n : Nat} {v : Value} {xs : List Int} (h : w.ownsRow base 5 1 v n (xs.map (Value.int .u8))) (hv : v ≠ .slice none 0 0) :
    ∃ g cap tail, v = .slice (some ⟨g, 0, none⟩) n cap ∧ base ≤ g ∧ n ≤ cap ∧ cap ≤ maxLen ∧ RowC w g xs tail := by
  obtain ⟨_, ⟨h0, _⟩ | ⟨g, cap, cur, rfl, hg, hh, hnc, hcm, hsz, htk⟩⟩ := h
  · exact absurd h0 hv
  · refine ⟨g, cap, cur.toList.drop n, rfl, hg, hnc, hcm, ?_⟩
    unfold RowC
    rw [hh]
    rw [Nat.mul_one] at htk
    rw [← htk, List.take_append_drop]
/-- Nothing has turned but in blocks of F, and in new ones; none of these is frozen. -/
structure Offs (F : Nat → Prop) (w w' : World) : Prop where
  o : Off F w w'
  s : Soft w w'
theorem Offs.refl (F : Nat → Prop) (w : World) : Offs F w w := ⟨Off.refl _ _, (Clean.refl w).f⟩
theorem Offs.clean {F : Nat → Prop} {w w' : World} (h : Clean w w') : Offs F w w' := ⟨Off.of_below h.b, h.f⟩
/-- .. of old blocks alone. -/
theorem Offs.trans {F G : Nat → Prop} {a b c : World} (h : Offs F a b) (k : Offs G b c) (hG : ∀ i, G i → F i) (hF : ∀ i, F i → i < a.heap.size) : Offs F a c :=
  ⟨h.o.trans k.o (fun i hi => Or.inl (hG i hi)), fun n i hn => by
    rcases Nat.lt_or_ge n b.heap.size with hl | hl
    · have hng : ¬ G n := fun e => by have := hF n (hG n e); omega
      rw [k.o.frozen (p := ⟨n, i, none⟩) hl hng]
      exact h.s n i hn
    · exact k.s n i hl⟩
theorem Offs.mono {F G : Nat → Prop} {a b : World} (h : Offs F a b) (hG : ∀ i, F i → G i) : Offs G a b := ⟨h.o.mono (fun i hi => Or.inl (hG i hi)), h.s⟩
theorem Offs.alloc {F : Nat → Prop} {a w : World} (h : Offs F a w) (c : Array Value) (t : TypeId) : Offs F a (w.alloc (.cells c t)) := ⟨h.o.alloc _, fun k i hk => by
  by_cases e : k = w.heap.size
  · subst e
    simp
  · rw [World.frozen?_alloc_old _ _ _ (show (⟨k, i, none⟩ : Addr).block ≠ w.heap.size from e)]
    exact h.s k i hk⟩
theorem Offs.setCell {F : Nat → Prop} {a w : World} (h : Offs F a w) {p : Addr} (hp : F p.block ∨ a.heap.size ≤ p.block) (u : Value) : Offs F a (w.setCell p u) := ⟨h.o.setCell hp u, fun k i hk => by
  rw [World.frozen?_setCell]
  exact h.s k i hk⟩
theorem Offs.drew {F : Nat → Prop} {a w : World} (h : Offs F a w) : Offs F a w.drew := ⟨h.o.drew, h.s⟩
theorem splice_mapT (L cs : List Int) (off : Nat) (tail : List Value) (h : off + cs.length ≤ L.length) : splice (L.map (Value.int .u8) ++ tail) off (cs.map (Value.int .u8)) = (splice L off cs).map (Value.int .u8) ++ tail := by
  unfold splice
  rw [List.take_append_of_le_length (by rw [List.length_map]; omega), List.length_map, List.drop_append_of_le_length (by rw [List.length_map]; omega)]
  simp
/-- copy of all of some bytes into a row. -/
theorem wp_copyC {o : Oper} {a : Act} {w : World} {K : Act → World → Prop} {Q : Exit → Act → World → Prop} (d s : Operand)
    (ho : o.op = .call { callee := .builtin .copy, args := #[d, s], argTypes := #[33, 33] }) (g off dl dCap n sCap : Nat) (dp sx : Option Addr)
    (hd : a.eval d = .slice dp dl dCap) (hdp : 0 < n → dp = some ⟨g, off, none⟩) (hs : a.eval s = .slice sx n sCap) (cur xs : List Int) (tail : List Value)
    (hg : RowC w g cur tail) (hx : SAt w sx n xs) (hnd : n ≤ dl) (hfit : off + n ≤ cur.length)
    (h : ∀ w', RowC w' g (splice cur off xs) tail → Off (fun k => k = g) w w' → w'.heap.size = w.heap.size → (∀ k i, w'.frozen? ⟨k, i, none⟩ = w.frozen? ⟨k, i, none⟩) → K (a.put o.dst (goInt n)) w') : Oper.wp Try.prog o a w K Q := by
  have hl := hx.1
  by_cases h0 : n = 0
  · subst h0
    obtain rfl : xs = [] := List.eq_nil_of_length_eq_zero hl
    have hrun := run_copy_none (P := Try.prog) w 33 33 o.type 5 dp sx dl dCap 0 sCap Try.underlying33 (by kernel_rfl) (Nat.zero_min dl)
    unfold Oper.wp
    simp [execOp, ho, resolve, invoke, builtin, hd, hs, hrun, Result.andThen]
    exact h w (by simpa [splice] using hg) (Off.refl _ _) rfl (fun _ _ => rfl)
  · obtain rfl := hdp (by omega)
    obtain ⟨b, so, rfl, _, hat⟩ := hx.2 (by omega)
    have e : (xs.map (Value.int .u8)).length = n := by simp [hl]
    have hrun := run_copy_row (P := Try.prog) w 33 33 o.type 5 g off dl dCap ⟨b, so, none⟩ n sCap (cur.map (Value.int .u8) ++ tail).toArray 5 (xs.map (Value.int .u8)) Try.underlying33 (by kernel_rfl) hg (by rw [e]; exact (Nat.min_eq_left hnd).symm) hat.news (by rw [e]; simp; omega) (one_cells xs)
    rw [e] at hrun
    have hr := setRow_heap w g _ (splice (cur.map (Value.int .u8) ++ tail) off (xs.map (Value.int .u8))).toArray 5 _ hg
    have hR : RowC (w.setRow g (splice (cur.map (Value.int .u8) ++ tail) off (xs.map (Value.int .u8))).toArray) g (splice cur off xs) tail := by
      unfold RowC
      rw [hr, splice_mapT cur xs off tail (by omega)]
    have e2 : (splice (cur.map (Value.int .u8) ++ tail) off (xs.map (Value.int .u8))).toArray = ((cur.map (Value.int .u8) ++ tail).toArray.toList.take off ++ (xs.map (Value.int .u8) ++ (cur.map (Value.int .u8) ++ tail).toArray.toList.drop (off + n))).toArray := by
      rw [splice, e]
    have hO : Off (fun k => k = g) w (w.setRow g (splice (cur.map (Value.int .u8) ++ tail) off (xs.map (Value.int .u8))).toArray) := ⟨rfl, rfl, rfl, by simp [World.setRow], fun k _ hn => setRow_other w g k _ hn⟩
    have hZ : ∀ k i, (w.setRow g (splice (cur.map (Value.int .u8) ++ tail) off (xs.map (Value.int .u8))).toArray).frozen? ⟨k, i, none⟩ = w.frozen? ⟨k, i, none⟩ := fun k i => by
      by_cases hk : k = g
      · subst hk
        rw [hR.frozen, hg.frozen]
      · exact World.frozen?_of_block (w := w) (a := ⟨k, i, none⟩) (setRow_other w g k _ hk)
    have hK := h _ hR hO (by simp [World.setRow]) hZ
    clear h hR hO hZ hr
    rw [e2] at hK
    unfold Oper.wp
    simp [execOp, ho, resolve, invoke, builtin, hd, hs, hrun, Result.andThen]
    simp at hK
    exact hK
theorem wpList_copyC {ops : Array Oper} {rest : List Oper} {o : Oper} {a : Act} {w : World} {Q : Exit → Act → World → Prop} (hgd : o.guard = none) (d s : Operand)
    (ho : o.op = .call { callee := .builtin .copy, args := #[d, s], argTypes := #[33, 33] }) (g off dl dCap n sCap : Nat) (dp sx : Option Addr)
    (hd : a.eval d = .slice dp dl dCap) (hdp : 0 < n → dp = some ⟨g, off, none⟩) (hs : a.eval s = .slice sx n sCap) (cur xs : List Int) (tail : List Value)
    (hg : RowC w g cur tail) (hx : SAt w sx n xs) (hnd : n ≤ dl) (hfit : off + n ≤ cur.length)
    (h : ∀ w', RowC w' g (splice cur off xs) tail → Off (fun k => k = g) w w' → w'.heap.size = w.heap.size → (∀ k i, w'.frozen? ⟨k, i, none⟩ = w.frozen? ⟨k, i, none⟩) → wpList Try.prog ops Q rest (a.put o.dst (goInt n)) w') : wpList Try.prog ops Q (o :: rest) a w :=
  wpList_plain hgd fun _ hK => wp_copyC d s ho g off dl dCap n sCap dp sx hd hdp hs cur xs tail hg hx hnd hfit fun w' h1 h2 h3 h4 => hK _ _ (h w' h1 h2 h3 h4)
end Go.Proofs.Ytcjmmfgnnebgkaa


/- bytes.Clone, as the library has it; append to an empty slice literal. -/
namespace Go.Proofs.Ytcjmmfgnnebgkaa
open Go.RowKit
set_option maxRecDepth 20000

/-- append of bytes to an empty slice literal: new memory, none of it frozen. -/
theorem wpList_app0C {o : Oper} {a : Act} {w : World} {ops : Array Oper} {rest : List Oper} {Q : Exit → Act → World → Prop} (hgd : o.guard = none) (s x : Operand)
    (ho : o.op = .call { callee := .builtin .append, args := #[s, x], argTypes := #[33, 33] }) (g : Nat) (hs : a.eval s = .slice (some ⟨g, 0, none⟩) 0 0) (base : Nat) (hown : w.ownsRow base 5 1 (.slice (some ⟨g, 0, none⟩) 0 0) 0 [])
    (y : Option Addr) (m c : Nat) (xs : List Int) (hx : a.eval x = .slice y m c) (hrow : SAt w y m xs) (hb : m ≤ 100000) (hbase : base ≤ w.heap.size)
    (h : ∀ v w', w'.ownsRow base 5 1 v m (xs.map (Value.int .u8)) → Clean w w' → v ≠ .slice none 0 0 → wpList Try.prog ops Q rest (a.put o.dst v) w') : wpList Try.prog ops Q (o :: rest) a w := by
  refine wpList_plain hgd fun _ hK => ?_
  obtain ⟨i0, hi, hz0, hz1, hz2⟩ := info_parts Try.info5
  by_cases hm : m = 0
  · subst hm
    obtain rfl : xs = [] := List.eq_nil_of_length_eq_zero hrow.1
    have hr : (Builtin.append_ #[33, 33] o.type #[.slice (some ⟨g, 0, none⟩) 0 0, .slice y 0 c]).run Try.prog w = .ok (.slice (some ⟨g, 0, none⟩) 0 0) w := by
      cases y with
      | none => simp [Builtin.append_, run_underlying Try.underlying33, sizeOf, typeInfo, hi, Builtin.lenOf, Builtin.firstCells, storeCells]
      | some ad =>
        have hf := run_firstCells_some (P := Try.prog) w i0.size 0 ad 0 c [] (by simp) (fun j u hj => by simp at hj)
        simp [Builtin.append_, run_underlying Try.underlying33, sizeOf, typeInfo, hi, Builtin.lenOf, hf, storeCells]
    unfold Oper.wp execOp
    simp only [ho, resolve, invoke, builtin, Sem.run_bind, Sem.run_pure, Result.andThen_ok, List.map_toArray, List.map_cons, List.map_nil, hs, hx, hr]
    exact hK _ _ (h _ w hown (Clean.refl _) (fun e => by cases e))
  · obtain ⟨b, off, rfl, _, hc⟩ := hrow.2 (by omega)
    have hl : (xs.map (Value.int .u8)).length = m := by rw [List.length_map]; exact hrow.1
    have hr := run_append_grow (P := Try.prog) w 33 o.type 5 i0 _ Try.underlying33 hi hz0 ⟨g, 0, none⟩ 0 0 [] (by simp) (fun j u hj => by simp at hj) ⟨b, off, none⟩ m c (xs.map (Value.int .u8)) (by rw [hz1, hl, Nat.mul_one]) hc.news (by omega) (by omega)
      (by rw [hz2]; exact growslice_fits (by omega) (by omega))
    simp only [Nat.zero_add] at hr
    have hge := grownCap_ge w m 0 5
    unfold Oper.wp execOp
    simp only [ho, resolve, invoke, builtin, Sem.run_bind, Sem.run_pure, Result.andThen_ok, List.map_toArray, List.map_cons, List.map_nil, hs, hx, hr]
    refine hK _ _ (h _ _ ⟨by rw [hl, Nat.mul_one], .inr ⟨w.heap.size, _, _, rfl, hbase, heap_alloc_new w.drew _, hge, grownCap_le_maxLen w m 0 5 (by unfold maxLen; omega), ?_, ?_⟩⟩ ((Clean.refl w).drew.alloc _ _) (fun e => by cases e))
    · simp [size_zeroCells, hl, Value.cells]
      omega
    · rw [Nat.mul_one, ← hl]
      simp

theorem nil_eq (a : Option Addr) (l c : Nat) (w : World) : (binOp .eql 33 (.slice a l c) (.slice none 0 0)).run Try.prog w = .ok (.bool a.isNone) w := by
  simp [binOp, run_equal_slice_nil (P := Try.prog) (w := w) 33 5 a l c Try.underlying33, Result.andThen]
set_option maxHeartbeats 1000000 in
/-- Of what is not nil: not nil. -/
theorem icloneN (ad : Addr) (n c : Nat) (xs : List Int) (hn : n ≤ 100000) (w : World) (sx : SAt w (some ad) n xs) : Calls Try.prog 31 #[.slice (some ad) n c] w fun e w' => ∃ v, e = .returned v ∧ w'.ownsRow w.heap.size 5 1 v n (xs.map (Value.int .u8)) ∧ Clean w w' ∧ v ≠ .slice none 0 0 := by
  have hne := nil_eq
  have hb : Below w.heap.size w (w.alloc (.cells #[] 5)) := (Below.refl _ _).alloc (Nat.le_refl _) _
  go_enter Try.func31, Try.ntmps31
  go_wp2_with (at_builtin; refine wpList_app0C rfl _ _ rfl w.heap.size rfl w.heap.size (World.ownsRow_lit (base := w.heap.size) (e := 5) (size := 1) w #[] 0 (Nat.le_refl _) (by decide) rfl) (some ad) n c xs rfl (sx.below hb) hn (by simp) ?_)
  intro v w' own hc hv
  replace hc := ((Clean.refl w).alloc #[] 5).trans hc
  have HV := hide' hv
  clear hv
  go_wp2
  go_ret
  exact ⟨_, rfl, own, hc, HV.out⟩
theorem iclone (x : Option Addr) (n c : Nat) (xs : List Int) (hn : n ≤ 100000) (hnil : x = none → n = 0 ∧ c = 0) (w : World) (sx : SAt w x n xs) : Calls Try.prog 31 #[.slice x n c] w fun e w' => ∃ v, e = .returned v ∧ w'.ownsRow w.heap.size 5 1 v n (xs.map (Value.int .u8)) ∧ Clean w w' := by
  cases x with
  | none =>
    have hne := nil_eq
    obtain ⟨rfl, rfl⟩ := hnil rfl
    obtain rfl : xs = [] := List.eq_nil_of_length_eq_zero sx.1
    go_enter Try.func31, Try.ntmps31
    go_wp2
    go_ret
    exact ⟨_, rfl, World.ownsRow_nil _ _ _ _, Clean.refl _⟩
  | some ad =>
    exact (icloneN ad n c xs hn w sx).mono (by
      rintro e w' ⟨v, h1, h2, h3, -⟩
      exact ⟨v, h1, h2, h3⟩)
end Go.Proofs.Ytcjmmfgnnebgkaa
