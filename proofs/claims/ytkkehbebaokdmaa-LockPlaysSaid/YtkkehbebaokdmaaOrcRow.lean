/- Rows of rows that are laid for a call, and calls of Sum, one operation at a time. -/
import Derived.Test.YtkkehbebaokdmaaOrcLaws
import Derived.Test.YtkkehbebaokdmaaRegionE
import Derived.Test.YtkkehbebaokdmaaRefOSealA
namespace Go.Proofs.Ytkkehbebaokdmaa
open Go.RowKit
set_option maxRecDepth 20000

variable {Inv : (Nat → Prop) → World → Value → OSt → Prop}
theorem wp_row1L {o : Oper} {t : List Value} {d : List Deferred} {w : World} {K : Act → World → Prop} {Q : Exit → Act → World → Prop} {k s : Nat} {x : Option Addr} {n c : Nat} (hd : o.dst = some k) (ho : o.op = .buildSlice 63 1 #[(0, .tmp s)]) (hs : t[s]? = some (.slice x n c))
    (h : K ⟨(t.set k (.slice (some ⟨w.heap.size, 0, none⟩) 1 1)).toArray, d⟩ (w.alloc (.cells #[.slice x n c] 27))) : o.wp Try.prog ⟨t.toArray, d⟩ w K Q := by
  have he := eval_slot (d := d) hs
  have hrun : (Instr.buildSlice 63 1 #[(0, .slice x n c)]).run Try.prog w = .ok (.slice (some ⟨w.heap.size, 0, none⟩) 1 1) (w.alloc (.cells #[.slice x n c] 27)) := by go_simp
  rw [← put_slot hd] at h
  generalize (⟨t.toArray, d⟩ : Act) = a at *
  unfold Oper.wp execOp
  simp only [ho, List.map_toArray, List.map_cons, List.map_nil, he, Sem.run_bind, hrun, Result.andThen_ok, Sem.run_pure]
  exact h
theorem wp_row2L {o : Oper} {t : List Value} {d : List Deferred} {w : World} {K : Act → World → Prop} {Q : Exit → Act → World → Prop} {k s r : Nat} {x y : Option Addr} {n c m e : Nat} (hd : o.dst = some k) (ho : o.op = .buildSlice 63 2 #[(0, .tmp s), (1, .tmp r)]) (hs : t[s]? = some (.slice x n c)) (hr : t[r]? = some (.slice y m e))
    (h : K ⟨(t.set k (.slice (some ⟨w.heap.size, 0, none⟩) 2 2)).toArray, d⟩ (w.alloc (.cells #[.slice x n c, .slice y m e] 27))) : o.wp Try.prog ⟨t.toArray, d⟩ w K Q := by
  have he := eval_slot (d := d) hs
  have hf := eval_slot (d := d) hr
  have hrun : (Instr.buildSlice 63 2 #[(0, .slice x n c), (1, .slice y m e)]).run Try.prog w = .ok (.slice (some ⟨w.heap.size, 0, none⟩) 2 2) (w.alloc (.cells #[.slice x n c, .slice y m e] 27)) := by go_simp
  rw [← put_slot hd] at h
  generalize (⟨t.toArray, d⟩ : Act) = a at *
  unfold Oper.wp execOp
  simp only [ho, List.map_toArray, List.map_cons, List.map_nil, he, hf, Sem.run_bind, hrun, Result.andThen_ok, Sem.run_pure]
  exact h
theorem wp_sumL {o : Oper} {t : List Value} {d : List Deferred} {w : World} {K : Act → World → Prop} {Q : Exit → Act → World → Prop} {k s r : Nat} {a b : TypeId} {u v : Value} (hd : o.dst = some k) (ho : o.op = .call { callee := .value (.func 33), args := #[.tmp s, .tmp r], argTypes := #[a, b] }) (hs : t[s]? = some u) (hr : t[r]? = some v)
    (h : Calls Try.prog 33 #[u, v] w fun e w' => ∃ z, e = .returned z ∧ K ⟨(t.set k z).toArray, d⟩ w') : o.wp Try.prog ⟨t.toArray, d⟩ w K Q := by
  have he := eval_slot (d := d) hs
  have hf := eval_slot (d := d) hr
  simp only [← put_slot hd] at h
  generalize (⟨t.toArray, d⟩ : Act) = c at *
  have hen : ∀ args w, (callFunc 33 args).run Try.prog w = .ok (.enter 33 args) w := fun args w => by go_simp
  unfold Oper.wp execOp
  simp only [ho, resolve, invoke, List.map_toArray, List.map_cons, List.map_nil, he, hf, Sem.run_bind]
  simp only [Act.eval, Deferred.ofValue, Sem.run_pure, Result.andThen_ok, Array.append_empty, hen]
  rw [Oper.upon_enter]
  refine h.mono ?_
  rintro e w' ⟨z, rfl, hk⟩
  exact hk
theorem LIn.mono {G G' : Nat → Prop} {w : World} {x : Option Addr} {m : Nat} {P : List (List Int)} (h : LIn G w x m P) (hd : ∀ b, b < w.heap.size → G b → G' b) : LIn G' w x m P :=
  ⟨h.1, fun hm => by
    obtain ⟨b, o, e, hlt, hg, hr⟩ := h.2 hm
    refine ⟨b, o, e, hlt, hd b hlt hg, fun i hi => ?_⟩
    obtain ⟨y, c, h1, h2, h3⟩ := hr i hi
    exact ⟨y, c, h1, h2.mono hd, h3⟩⟩
/-- Sum, on one's own. -/
theorem osum_at (hO : OrcIs Inv) (F : Nat → Prop) (v : Value) (S : List (List Int)) (P : List (List Int)) (x : Option Addr) (m : Nat) (hm : 1 ≤ m ∧ m ≤ 2) {zs : List Int} (hz : P.flatten = zs) (hl : zs.length ≤ 50000) (hS : S.length ≤ 10000) (hx : x ≠ none) (w : World) (hI : Inv F w v ([], S)) (h : LIn (fun k => ¬ F k) w x m P) {ix : Nat} (hi : sumIx S zs = ix) {S' : List (List Int)} (hs : sumSt S zs = S') :
    Calls Try.prog 33 #[v, .slice x m m] w fun e w' => ∃ F', e = .returned (.agg #[.int .u64 17216961135462248174, .int .u64 (ix : Int)]) ∧ Kept Inv F w v F' w' ([], S') := by
  subst hz hi hs
  exact hO.sum F v [] S P x m m (by omega) hl hS ⟨Nat.le_refl _, by unfold maxLen; omega, fun e => absurd e hx⟩ w hI h
theorem wp_allocL {o : Oper} {t : List Value} {d : List Deferred} {w w' : World} {K : Act → World → Prop} {Q : Exit → Act → World → Prop} {k : Nat} {T : TypeId} {v : Value} (hd : o.dst = some k) (ho : o.op = .alloc T) (hrun : (Instr.alloc T true (.tuple #[])).run Try.prog w = .ok v w')
    (h : K ⟨(t.set k v).toArray, d⟩ w') : o.wp Try.prog ⟨t.toArray, d⟩ w K Q := by
  rw [← put_slot hd] at h
  unfold Oper.wp execOp
  simp only [ho, Sem.run_bind, hrun, Result.andThen_ok, Sem.run_pure]
  exact h
theorem alloc_pair (w : World) : (Instr.alloc 30 true (.tuple #[])).run Try.prog w = .ok (.pointer (some ⟨w.heap.size, 0, none⟩)) (w.alloc (.cells #[.int .u64 0, .int .u64 0] 30)) := by go_simp
theorem alloc_nonce (w : World) : (Instr.alloc 35 true (.tuple #[])).run Try.prog w = .ok (.pointer (some ⟨w.heap.size, 0, none⟩)) (w.alloc (.cells #[.int .u32 0, .int .u32 0, .int .u64 0] 35)) := by go_simp
theorem alloc_sealed (w : World) : (Instr.alloc 32 true (.tuple #[])).run Try.prog w = .ok (.pointer (some ⟨w.heap.size, 0, none⟩)) (w.alloc (.cells #[.slice none 0 0, .int .u64 0, .int .u64 0] 32)) := by go_simp
/-- A Sealed out of a slice and a Pair. -/
theorem run_buildS {o : Oper} {t : List Value} {d : List Deferred} {s r : Nat} {x : Option Addr} {n c : Nat} {t1 t2 : Int} (ho : o.op = .build 32 #[(0, .tmp s), (1, .tmp r)]) (hs : t[s]? = some (.slice x n c)) (hr : t[r]? = some (.agg #[.int .u64 t1, .int .u64 t2])) (w : World) :
    (execOp (Act.eval ⟨t.toArray, d⟩) o).run Try.prog w = .ok (.value (.agg #[.slice x n c, .int .u64 t1, .int .u64 t2])) w := by
  have he := eval_slot (d := d) hs
  have hf := eval_slot (d := d) hr
  have hrun : (Instr.build 32 #[(0, .slice x n c), (1, .agg #[.int .u64 t1, .int .u64 t2])]).run Try.prog w = .ok (.agg #[.slice x n c, .int .u64 t1, .int .u64 t2]) w := by go_simp
  generalize (⟨t.toArray, d⟩ : Act) = a at *
  unfold execOp
  simp only [ho, List.map_toArray, List.map_cons, List.map_nil, he, hf, Sem.run_bind, hrun, Result.andThen_ok, Sem.run_pure]
theorem wp_valueL {o : Oper} {t : List Value} {d : List Deferred} {w : World} {K : Act → World → Prop} {Q : Exit → Act → World → Prop} {k : Nat} {v : Value} (hd : o.dst = some k) (hrun : (execOp (Act.eval ⟨t.toArray, d⟩) o).run Try.prog w = .ok (.value v) w)
    (h : K ⟨(t.set k v).toArray, d⟩ w) : o.wp Try.prog ⟨t.toArray, d⟩ w K Q := by
  rw [← put_slot hd] at h
  unfold Oper.wp
  rw [hrun]
  exact h
/-- append of bytes to a row of the call's own, with what else stays. -/
theorem wpList_appG {w : World} {ops : Array Oper} {rest : List Oper} {o : Oper} {a : Act} {Q : Exit → Act → World → Prop} (hgd : o.guard = none) (s x : Operand)
    (ho : o.op = .call { callee := .builtin .append, args := #[s, x], argTypes := #[27, 27] }) (base : Nat) (v : Value) (n : Nat) (ys : List Int) (hs : a.eval s = v) (hown : w.ownsRow base 5 1 v n (ys.map (Value.int .u8)))
    (sx : Option Addr) (l c : Nat) (zs : List Int) (hx : a.eval x = .slice sx l c) (hz : SAt w sx l zs) (hnil : sx = none → l = 0 ∧ c = 0) (hbound : n + l ≤ 100000) (hbase : base ≤ w.heap.size)
    (h : ∀ v' w', w'.ownsRow base 5 1 v' (n + l) ((ys ++ zs).map (Value.int .u8)) → w.grownBy w' v.ownBlock → wpList Try.prog ops Q rest (a.put o.dst v') w') : wpList Try.prog ops Q (o :: rest) a w :=
  wpList_plain hgd fun _ hK => wp_app s x ho base v n ys hs hown sx l c zs hx hz hnil hbound hbase (fun v' w' h1 h2 _ => hK _ _ (h v' w' h1 h2))
theorem Box.put0 {w : World} {b : Nat} {x y : Int} (h : Box w b x y) (x' : Int) : Box (w.setCell ⟨b, 0, none⟩ (.int .u64 x')) b x' y := by
  unfold Box at h ⊢
  simp [World.setCell, Array.getElem?_modify, h]
theorem NBox.put1 {w : World} {b : Nat} {n : Nn} (h : NBox w b n) (x : BitVec 32) : NBox (w.setCell ⟨b, 1, none⟩ (.int .u32 (nv32 x))) b (n.1, x, n.2.2) := by
  unfold NBox at h ⊢
  simp [World.setCell, Array.getElem?_modify, h]
theorem NBox.put2 {w : World} {b : Nat} {n : Nn} (h : NBox w b n) (x : BitVec 64) : NBox (w.setCell ⟨b, 2, none⟩ (.int .u64 (nv x))) b (n.1, n.2.1, x) := by
  unfold NBox at h ⊢
  simp [World.setCell, Array.getElem?_modify, h]
theorem SBox.put2 {w : World} {b : Nat} {v : Value} {t1 t2 : Int} (h : SBox w b v t1 t2) (t2' : Int) : SBox (w.setCell ⟨b, 2, none⟩ (.int .u64 t2')) b v t1 t2' := by
  unfold SBox at h ⊢
  simp [World.setCell, Array.getElem?_modify, h]
theorem At.turn0 {w : World} {b : Nat} {xs : List Int} (h : At w b 0 xs) (h0 : 0 < xs.length) (u : Int) : At (w.setCell ⟨b, 0, none⟩ (.int .u8 u)) b 0 (xs.set 0 u) := by
  intro i hi
  rw [List.length_set] at hi
  by_cases e : i = 0
  · subst e
    rw [World.cell?_setCell_same _ _ _ (h 0 h0)]
    simp [h0]
  · rw [World.cell?_setCell_other _ _ _ _ (by simp <;> omega), h i hi]
    simp [List.getD, List.getElem?_set_ne (Ne.symm e)]
/-- What was sealed is one thing: is it asked for? -/
theorem hit_one {E : Iss} {q : Ask} {i : Nat} (h : Hit [E] q i) : E.key = q.key ∧ E.non = q.non ∧ E.head = q.head ∧ outB 1 E.data.length = q.bytes ∧ tagI 1 = q.tag := by
  obtain ⟨h0, h⟩ := h
  obtain rfl : i = 0 := by simpa using h0
  exact h
theorem hit_of {E : Iss} {q : Ask} (h1 : E.key = q.key) (h2 : E.non = q.non) (h3 : E.head = q.head) (h4 : outB 1 E.data.length = q.bytes) (h5 : tagI 1 = q.tag) : Hit [E] q 0 := ⟨by simp, h1, h2, h3, h4, h5⟩
end Go.Proofs.Ytkkehbebaokdmaa
