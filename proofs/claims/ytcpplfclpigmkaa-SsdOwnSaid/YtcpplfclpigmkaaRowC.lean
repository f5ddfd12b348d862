/- A row of bytes with what room there is behind it; copy into it. What turns, no new block frozen. -/
import Derived.Test.YtcpplfclpigmkaaDevSt
import Derived.Test.YtcpplfclpigmkaaClean
namespace Go.Proofs.Ytcpplfclpigmkaa
open Go.RowKit
set_option maxRecDepth 20000

/-- Block g: these bytes, and what stands behind them. -/
def RowC (w : World) (g : Nat) (cur : List Int) (tail : List Value) : Prop := w.heap[g]? = some (.cells (cur.map (Value.int .u8) ++ tail).toArray 5 (0, 0))
section
variable {w w' : World} {g : Nat} {cur : List Int} {tail : List Value}
theorem RowC.at (h : RowC w g cur tail) : At w g 0 cur := by
  intro i hi
  unfold RowC at h
  have e : (cur.map (Value.int .u8) ++ tail)[i]? = some (.int .u8 (cur.getD i 0)) := by
    rw [List.getElem?_append_left (by rw [List.length_map]; exact hi), List.getElem?_map, List.getElem?_eq_getElem hi, List.getD_eq_getElem?_getD, List.getElem?_eq_getElem hi]
    rfl
  simp only [World.cell?, h, Nat.zero_add, List.getElem?_toArray, e]
  rfl
theorem RowC.lt (h : RowC w g cur tail) : g < w.heap.size := (Array.getElem?_eq_some_iff.1 h).1
theorem RowC.frozen (h : RowC w g cur tail) (i : Nat) : w.frozen? ⟨g, i, none⟩ = false := by unfold RowC at h; simp [World.frozen?, h]
theorem RowC.off {F : Nat → Prop} (h : RowC w g cur tail) (hb : Off F w w') (hn : ¬ F g) : RowC w' g cur tail := off_block h hb hn
theorem RowC.sin {G : Nat → Prop} (h : RowC w g cur tail) (hG : G g) : SIn G w (some ⟨g, 0, none⟩) cur.length cur := ⟨rfl, fun _ => ⟨g, 0, rfl, h.lt, hG, h.at⟩⟩
theorem RowC.made (w : World) (n : Nat) : RowC (w.alloc (.cells (madeCells #[.int .u8 0] n) 5)) w.heap.size (List.replicate n 0) [] := by
  have := Row.made w n
  unfold Row at this
  unfold RowC
  rw [List.append_nil]
  exact this
end
theorem own_rowC {w : World} {base n : Nat} {v : Value} {xs : List Int} (h : w.ownsRow base 5 1 v n (xs.map (Value.int .u8))) (hv : v ≠ .slice none 0 0) :
    ∃ g cap tail, v = .slice (some ⟨g, 0, none⟩) n cap ∧ base ≤ g ∧ n ≤ cap ∧ cap ≤ maxLen ∧ RowC w g xs tail := by
  obtain ⟨_, ⟨h0, _⟩ | ⟨g, cap, cur, rfl, hg, hh, hnc, hcm, hsz, htk⟩⟩ := h
  · exact absurd h0 hv
  · refine ⟨g, cap, cur.toList.drop n, rfl, hg, hnc, hcm, ?_⟩
    unfold RowC
    rw [hh]
    rw [Nat.mul_one] at htk
    rw [← htk, List.take_append_drop]
/-- Nothing has turned but in blocks of F, and in new ones; none of these is frozen. -/
structure Offs (F : Nat → Prop) (w w' : World) : Prop where
  o : Off F w w'
  s : Soft w w'
theorem Offs.refl (F : Nat → Prop) (w : World) : Offs F w w := ⟨Off.refl _ _, (Clean.refl w).f⟩
theorem Offs.clean {F : Nat → Prop} {w w' : World} (h : Clean w w') : Offs F w w' := ⟨Off.of_below h.b, h.f⟩
/-- .. of old blocks alone. -/
theorem Offs.trans {F G : Nat → Prop} {a b c : World} (h : Offs F a b) (k : Offs G b c) (hG : ∀ i, G i → F i) (hF : ∀ i, F i → i < a.heap.size) : Offs F a c :=
  ⟨h.o.trans k.o (fun i hi => Or.inl (hG i hi)), fun n i hn => by
    rcases Nat.lt_or_ge n b.heap.size with hl | hl
    · have hng : ¬ G n := fun e => by have := hF n (hG n e); omega
      rw [k.o.frozen (p := ⟨n, i, none⟩) hl hng]
      exact h.s n i hn
    · exact k.s n i hl⟩
theorem Offs.mono {F G : Nat → Prop} {a b : World} (h : Offs F a b) (hG : ∀ i, F i → G i) : Offs G a b := ⟨h.o.mono (fun i hi => Or.inl (hG i hi)), h.s⟩
theorem Offs.alloc {F : Nat → Prop} {a w : World} (h : Offs F a w) (c : Array Value) (t : TypeId) : Offs F a (w.alloc (.cells c t)) := ⟨h.o.alloc _, fun k i hk => by
  by_cases e : k = w.heap.size
  · subst e
    simp
  · rw [World.frozen?_alloc_old _ _ _ (show (⟨k, i, none⟩ : Addr).block ≠ w.heap.size from e)]
    exact h.s k i hk⟩
theorem Offs.setCell {F : Nat → Prop} {a w : World} (h : Offs F a w) {p : Addr} (hp : F p.block ∨ a.heap.size ≤ p.block) (u : Value) : Offs F a (w.setCell p u) := ⟨h.o.setCell hp u, fun k i hk => by
  rw [World.frozen?_setCell]
  exact h.s k i hk⟩
theorem Offs.drew {F : Nat → Prop} {a w : World} (h : Offs F a w) : Offs F a w.drew := ⟨h.o.drew, h.s⟩
theorem splice_mapT (L cs : List Int) (off : Nat) (tail : List Value) (h : off + cs.length ≤ L.length) : splice (L.map (Value.int .u8) ++ tail) off (cs.map (Value.int .u8)) = (splice L off cs).map (Value.int .u8) ++ tail := by
  unfold splice
  rw [List.take_append_of_le_length (by rw [List.length_map]; omega), List.length_map, List.drop_append_of_le_length (by rw [List.length_map]; omega)]
  simp
/-- copy of all of some bytes into a row. -/
theorem wp_copyC {o : Oper} {a : Act} {w : World} {K : Act → World → Prop} {Q : Exit → Act → World → Prop} (d s : Operand)
    (ho : o.op = .call { callee := .builtin .copy, args := #[d, s], argTypes := #[22, 22] }) (g off dl dCap n sCap : Nat) (dp sx : Option Addr)
    (hd : a.eval d = .slice dp dl dCap) (hdp : 0 < n → dp = some ⟨g, off, none⟩) (hs : a.eval s = .slice sx n sCap) (cur xs : List Int) (tail : List Value)
    (hg : RowC w g cur tail) (hx : SAt w sx n xs) (hnd : n ≤ dl) (hfit : off + n ≤ cur.length)
    (h : ∀ w', RowC w' g (splice cur off xs) tail → Off (fun k => k = g) w w' → w'.heap.size = w.heap.size → (∀ k i, w'.frozen? ⟨k, i, none⟩ = w.frozen? ⟨k, i, none⟩) → K (a.put o.dst (goInt n)) w') : Oper.wp Try.prog o a w K Q := by
  have hl := hx.1
  by_cases h0 : n = 0
  · subst h0
    obtain rfl : xs = [] := List.eq_nil_of_length_eq_zero hl
    have hrun := run_copy_none (P := Try.prog) w 22 22 o.type 5 dp sx dl dCap 0 sCap Try.underlying22 (by kernel_rfl) (Nat.zero_min dl)
    unfold Oper.wp
    simp [execOp, ho, resolve, invoke, builtin, hd, hs, hrun, Result.andThen]
    exact h w (by simpa [splice] using hg) (Off.refl _ _) rfl (fun _ _ => rfl)
  · obtain rfl := hdp (by omega)
    obtain ⟨b, so, rfl, _, hat⟩ := hx.2 (by omega)
    have e : (xs.map (Value.int .u8)).length = n := by simp [hl]
    have hrun := run_copy_row (P := Try.prog) w 22 22 o.type 5 g off dl dCap ⟨b, so, none⟩ n sCap (cur.map (Value.int .u8) ++ tail).toArray 5 (xs.map (Value.int .u8)) Try.underlying22 (by kernel_rfl) hg (by rw [e]; exact (Nat.min_eq_left hnd).symm) hat.news (by rw [e]; simp; omega) (one_cells xs)
    rw [e] at hrun
    have hr := setRow_heap w g _ (splice (cur.map (Value.int .u8) ++ tail) off (xs.map (Value.int .u8))).toArray 5 _ hg
    have hR : RowC (w.setRow g (splice (cur.map (Value.int .u8) ++ tail) off (xs.map (Value.int .u8))).toArray) g (splice cur off xs) tail := by
      unfold RowC
      rw [hr, splice_mapT cur xs off tail (by omega)]
    have e2 : (splice (cur.map (Value.int .u8) ++ tail) off (xs.map (Value.int .u8))).toArray = ((cur.map (Value.int .u8) ++ tail).toArray.toList.take off ++ (xs.map (Value.int .u8) ++ (cur.map (Value.int .u8) ++ tail).toArray.toList.drop (off + n))).toArray := by
      rw [splice, e]
    have hO : Off (fun k => k = g) w (w.setRow g (splice (cur.map (Value.int .u8) ++ tail) off (xs.map (Value.int .u8))).toArray) := ⟨rfl, rfl, rfl, by simp [World.setRow], fun k _ hn => setRow_other w g k _ hn⟩
    have hZ : ∀ k i, (w.setRow g (splice (cur.map (Value.int .u8) ++ tail) off (xs.map (Value.int .u8))).toArray).frozen? ⟨k, i, none⟩ = w.frozen? ⟨k, i, none⟩ := fun k i => by
      by_cases hk : k = g
      · subst hk
        rw [hR.frozen, hg.frozen]
      · exact World.frozen?_of_block (w := w) (a := ⟨k, i, none⟩) (setRow_other w g k _ hk)
    have hK := h _ hR hO (by simp [World.setRow]) hZ
    clear h hR hO hZ hr
    rw [e2] at hK
    unfold Oper.wp
    simp [execOp, ho, resolve, invoke, builtin, hd, hs, hrun, Result.andThen]
    simp at hK
    exact hK
theorem wpList_copyC {ops : Array Oper} {rest : List Oper} {o : Oper} {a : Act} {w : World} {Q : Exit → Act → World → Prop} (hgd : o.guard = none) (d s : Operand)
    (ho : o.op = .call { callee := .builtin .copy, args := #[d, s], argTypes := #[22, 22] }) (g off dl dCap n sCap : Nat) (dp sx : Option Addr)
    (hd : a.eval d = .slice dp dl dCap) (hdp : 0 < n → dp = some ⟨g, off, none⟩) (hs : a.eval s = .slice sx n sCap) (cur xs : List Int) (tail : List Value)
    (hg : RowC w g cur tail) (hx : SAt w sx n xs) (hnd : n ≤ dl) (hfit : off + n ≤ cur.length)
    (h : ∀ w', RowC w' g (splice cur off xs) tail → Off (fun k => k = g) w w' → w'.heap.size = w.heap.size → (∀ k i, w'.frozen? ⟨k, i, none⟩ = w.frozen? ⟨k, i, none⟩) → wpList Try.prog ops Q rest (a.put o.dst (goInt n)) w') : wpList Try.prog ops Q (o :: rest) a w :=
  wpList_plain hgd fun _ hK => wp_copyC d s ho g off dl dCap n sCap dp sx hd hdp hs cur xs tail hg hx hnd hfit fun w' h1 h2 h3 h4 => hK _ _ (h w' h1 h2 h3 h4)
end Go.Proofs.Ytcpplfclpigmkaa
