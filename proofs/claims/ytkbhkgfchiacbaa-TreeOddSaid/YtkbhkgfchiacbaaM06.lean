/- FldRow ViewP FldApp Gcm RefGcm RefTag GcmSaid Dig: texts laid together. -/
import Derived.Test.YtkbhkgfchiacbaaM05
import Derived.Test.YtkbhkgfchiacbaaM02
import Derived.Test.YtkbhkgfchiacbaaM01
import Derived.Laws.AppendOwnNone
import Derived.Test.YtkbhkgfchiacbaaM04
import Derived.Test.YtkbhkgfchiacbaaM03

/- Rows of Pairs, their sum of powers, and lockboxref3.Eval. -/
namespace Go.Proofs.Ytkbhkgfchiacbaa
open Go.RowKit
set_option maxRecDepth 20000

/-- n Pairs at x, two cells each. -/
def PRow (w : World) (x : Option Addr) (n : Nat) (f : Nat → BitVec 64 × BitVec 64) : Prop :=
  0 < n → ∃ g o, x = some ⟨g, o, none⟩ ∧ g < w.heap.size ∧ ∀ i, i < n → w.cell? ⟨g, o + i * 2, none⟩ = some (.int .u64 (nv (f i).1)) ∧ w.cell? ⟨g, o + i * 2 + 1, none⟩ = some (.int .u64 (nv (f i).2))
theorem PRow.below {w w' : World} {B : Nat} {x : Option Addr} {n : Nat} {f : Nat → BitVec 64 × BitVec 64} (h : PRow w x n f) (hB : w.heap.size ≤ B) (hb : Below B w w') : PRow w' x n f := by
  intro hn
  obtain ⟨g, o, rfl, hg, hc⟩ := h hn
  exact ⟨g, o, rfl, Nat.lt_of_lt_of_le hg hb.size, fun i hi => ⟨(hb.cell (p := ⟨g, _, none⟩) (by simp only; omega)).trans (hc i hi).1, (hb.cell (p := ⟨g, _, none⟩) (by simp only; omega)).trans (hc i hi).2⟩⟩
theorem PRow.grown {w w' : World} {x : Option Addr} {n : Nat} {f : Nat → BitVec 64 × BitVec 64} (h : PRow w x n f) (hb : Below w.heap.size w w') : PRow w' x n f := h.below (Nat.le_refl _) hb

/-- The sum of powers of the first n. -/
def evalP (h : BitVec 64 × BitVec 64) (f : Nat → BitVec 64 × BitVec 64) : Nat → BitVec 64 × BitVec 64
  | 0 => (0#64, 0#64)
  | n + 1 => fmul (addP (evalP h f n) (f n)) h
theorem evalP_succ (h : BitVec 64 × BitVec 64) (f : Nat → BitVec 64 × BitVec 64) (n : Nat) : evalP h f (n + 1) = fmul (addP (evalP h f n) (f n)) h := rfl
theorem evalP_congr {h : BitVec 64 × BitVec 64} {f f' : Nat → BitVec 64 × BitVec 64} : ∀ n, (∀ i, i < n → f i = f' i) → evalP h f n = evalP h f' n
  | 0, _ => rfl
  | n + 1, hf => by rw [evalP_succ, evalP_succ, evalP_congr n (fun i hi => hf i (by omega)), hf n (by omega)]

/-- field.Eval is the document's. -/
def EvalSaid : Prop := ∀ (h : BitVec 64 × BitVec 64) (f : Nat → BitVec 64 × BitVec 64) (x : Option Addr) (n cap : Nat), n ≤ 1000000 → ∀ w : World, PRow w x n f →
    Calls Try.prog 65 #[.agg #[.int .u64 (nv h.1), .int .u64 (nv h.2)], .slice x n cap] w fun e w' => e = .returned (.agg #[.int .u64 (nv (evalP h f n).1), .int .u64 (nv (evalP h f n).2)]) ∧ Below w.heap.size w w'
end Go.Proofs.Ytkbhkgfchiacbaa


/- A Pair that came in by value, as two words. -/
namespace Go.Proofs.Ytkbhkgfchiacbaa
open Go.ChangeShapes Go.WideShapes Go.ChangeAt Go.RowKit
set_option maxRecDepth 20000

theorem Try.cells32 : Try.prog.cellsOf 32 = 1 := by kernel_rfl
theorem Try.cells34 : Try.prog.cellsOf 34 = 2 := by kernel_rfl

theorem two_of {α : Type} (cs : Array α) (h : cs.size = 2) : ∃ a b, cs = #[a, b] := by
  obtain ⟨l⟩ := cs
  match l, h with
  | [a, b], _ => exact ⟨a, b, rfl⟩

theorem word_of {a : Int} (h : (Lit.int .u64 a).wf = true) : ∃ x : BitVec 64, a = nv x := by
  have hx : 0 ≤ a ∧ a ≤ 18446744073709551615 := by simpa [Lit.wf, IntKind.min, IntKind.max, IntKind.signed, IntKind.bits] using h
  exact ⟨BitVec.ofInt 64 a, (nv_of a hx.1 (by omega)).symm⟩

theorem view_pair {H : Type} {enc : TypeId × Value → H} {W : World} {base : Nat} {v : Value} {d : DataW H} {p : List MemPlace}
    (hok : Value.okWide Try.prog W .any base 34 v) (h : DataW.Trod enc Try.prog W 0 (fun _ => true) true 34 v d p) :
    ∃ q : BitVec 64 × BitVec 64, v = .agg #[.int .u64 (nv q.1), .int .u64 (nv q.2)] := by
  simp only [Value.okWide, Try.underlying34] at hok
  obtain ⟨cs, rfl, hsz, _⟩ := hok
  rw [Try.cells34] at hsz
  obtain ⟨c0, c1, rfl⟩ := two_of cs hsz
  obtain ⟨fuel, hf⟩ := h
  obtain ⟨xs, m, _, _, _, hl, hx⟩ := DataW.trod_array Try.underlying34 hf
  have h0 := hx 0 (by decide)
  have h1 := hx 1 (by decide)
  simp [Try.cells32, Value.cells] at h0 h1
  rw [List.getElem?_eq_getElem (show 0 < xs.length by omega)] at h0
  rw [List.getElem?_eq_getElem (show 1 < xs.length by omega)] at h1
  obtain ⟨a, e0, _, wa⟩ := DataW.trod_int Try.underlying32 h0
  obtain ⟨b, e1, _, wb⟩ := DataW.trod_int Try.underlying32 h1
  simp at e0 e1
  subst e0 e1
  obtain ⟨x, rfl⟩ := word_of wa
  obtain ⟨y, rfl⟩ := word_of wb
  exact ⟨(x, y), rfl⟩
end Go.Proofs.Ytkbhkgfchiacbaa


/- append of Pairs to a row of the call's own; a slice of Pairs that came in; regions where several operations may come up. -/
namespace Go.Proofs.Ytkbhkgfchiacbaa
open Go.ChangeShapes Go.WideShapes Go.ChangeAt Go.RowKit
set_option maxRecDepth 20000

theorem Try.pairInfo : (Try.prog.info? 34).map (fun i => (i.zero, i.size, i.bytes)) = some (some (.agg #[.int .u64 0, .int .u64 0]), 2, 16) := by kernel_rfl

/-- n Pairs, cell by cell. -/
def flatP (f : Nat → BitVec 64 × BitVec 64) : Nat → List Value
  | 0 => []
  | n + 1 => flatP f n ++ [.int .u64 (nv (f n).1), .int .u64 (nv (f n).2)]
theorem flatP_len (f : Nat → BitVec 64 × BitVec 64) : ∀ n, (flatP f n).length = n * 2
  | 0 => rfl
  | n + 1 => by rw [flatP, List.length_append, flatP_len f n]; simp; omega
theorem flatP_get (f : Nat → BitVec 64 × BitVec 64) : ∀ n i, i < n → (flatP f n)[i * 2]? = some (.int .u64 (nv (f i).1)) ∧ (flatP f n)[i * 2 + 1]? = some (.int .u64 (nv (f i).2))
  | 0, i, h => absurd h (by omega)
  | n + 1, i, h => by
    have hl := flatP_len f n
    rw [flatP]
    by_cases e : i = n
    · subst e
      rw [List.getElem?_append_right (by omega), List.getElem?_append_right (by omega), hl, show i * 2 - i * 2 = 0 from by omega, show i * 2 + 1 - i * 2 = 1 from by omega]
      exact ⟨rfl, rfl⟩
    · have := flatP_get f n i (by omega)
      rw [List.getElem?_append_left (by omega), List.getElem?_append_left (by omega)]
      exact this
theorem flatP_one (f : Nat → BitVec 64 × BitVec 64) : ∀ n, ∀ u ∈ flatP f n, u.oneCell' = true
  | 0, u, h => by cases h
  | n + 1, u, h => by
    rw [flatP, List.mem_append] at h
    rcases h with h | h
    · exact flatP_one f n u h
    · simp at h
      rcases h with rfl | rfl <;> rfl
theorem flatP_snoc (f : Nat → BitVec 64 × BitVec 64) (p : BitVec 64 × BitVec 64) (n : Nat) : flatP f n ++ [.int .u64 (nv p.1), .int .u64 (nv p.2)] = flatP (fun i => if i < n then f i else p) (n + 1) := by
  have h : ∀ k, k ≤ n → flatP f k = flatP (fun i => if i < n then f i else p) k := by
    intro k
    induction k with
    | zero => intro _; rfl
    | succ k ih => intro hk; rw [flatP, flatP, ih (by omega), if_pos (show k < n by omega)]
  rw [h n (Nat.le_refl _), flatP, if_neg (Nat.lt_irrefl n)]
theorem addr_add (b off i : Nat) : (⟨b, off, none⟩ : Addr).add i = ⟨b, off + i, none⟩ := by unfold Addr.add; split <;> simp_all
theorem PRow.news {w : World} {g o m : Nat} {f : Nat → BitVec 64 × BitVec 64} (h : ∀ i, i < m → w.cell? ⟨g, o + i * 2, none⟩ = some (.int .u64 (nv (f i).1)) ∧ w.cell? ⟨g, o + i * 2 + 1, none⟩ = some (.int .u64 (nv (f i).2))) :
    ∀ j u, (flatP f m)[j]? = some u → w.cell? ((⟨g, o, none⟩ : Addr).add j) = some u := by
  intro j u hj
  have hlt : j < m * 2 := by
    rcases Nat.lt_or_ge j (flatP f m).length with h | h
    · rw [flatP_len] at h; exact h
    · rw [List.getElem?_eq_none h] at hj; cases hj
  rw [addr_add]
  have hg := flatP_get f m (j / 2) (by omega)
  have hc := h (j / 2) (by omega)
  rcases Nat.mod_two_eq_zero_or_one j with e | e
  · rw [show j / 2 * 2 = j from by omega] at hg hc
    rw [← hj, hg.1]; exact hc.1
  · rw [show o + j / 2 * 2 + 1 = o + j from by omega] at hc
    rw [show j / 2 * 2 + 1 = j from by omega] at hg
    rw [← hj, hg.2]; exact hc.2
theorem own_prow {w : World} {base n : Nat} {v : Value} {f : Nat → BitVec 64 × BitVec 64} (h : w.ownsRow base 34 2 v n (flatP f n)) : ∃ x c, v = .slice x n c ∧ PRow w x n f := by
  have h' := h
  obtain ⟨_, ⟨rfl, rfl⟩ | ⟨g, cap, cur, rfl, hg, hh, hnc, hcm, _⟩⟩ := h
  · exact ⟨none, 0, rfl, fun h => absurd h (by omega)⟩
  · obtain ⟨hlt, _⟩ := Array.getElem?_eq_some_iff.1 hh
    refine ⟨_, cap, rfl, fun _ => ⟨g, 0, rfl, hlt, fun i hi => ?_⟩⟩
    rw [Nat.zero_add, h'.cellAt (i * 2) (by omega), h'.cellAt (i * 2 + 1) (by omega)]
    exact flatP_get f n i hi

/-- append of a row to an empty literal: a new row, or the literal itself. -/
theorem wp_app0 {o : Oper} {a : Act} {w : World} {K : Act → World → Prop} {Q : Exit → Act → World → Prop} (s x : Operand)
    (ho : o.op = .call { callee := .builtin .append, args := #[s, x], argTypes := #[24, 24] }) (base g : Nat) (hs : a.eval s = .slice (some ⟨g, 0, none⟩) 0 0) (hown : w.ownsRow base 34 2 (.slice (some ⟨g, 0, none⟩) 0 0) 0 [])
    (y : Option Addr) (m c : Nat) (f : Nat → BitVec 64 × BitVec 64) (hx : a.eval x = .slice y m c) (hrow : PRow w y m f) (hb : m ≤ 100000) (hbase : base ≤ w.heap.size)
    (h : ∀ k c' w', w'.ownsRow base 34 2 (.slice (some ⟨k, 0, none⟩) m c') m (flatP f m) → Below w.heap.size w w' → k = g ∨ w.heap.size ≤ k → K (a.put o.dst (.slice (some ⟨k, 0, none⟩) m c')) w') : o.wp Try.prog a w K Q := by
  obtain ⟨i0, hi, hz0, hz1, hz2⟩ := info_parts Try.pairInfo
  by_cases hm : m = 0
  · subst hm
    have hr : (Builtin.append_ #[24, 24] o.type #[.slice (some ⟨g, 0, none⟩) 0 0, .slice y 0 c]).run Try.prog w = .ok (.slice (some ⟨g, 0, none⟩) 0 0) w := by
      cases y with
      | none => simp [Builtin.append_, run_underlying Try.underlying24, sizeOf, typeInfo, hi, Builtin.lenOf, Builtin.firstCells, storeCells]
      | some ad =>
        have hf := run_firstCells_some (P := Try.prog) w i0.size 0 ad 0 c [] (by simp) (fun j u hj => by simp at hj)
        simp [Builtin.append_, run_underlying Try.underlying24, sizeOf, typeInfo, hi, Builtin.lenOf, hf, storeCells]
    unfold Oper.wp execOp
    simp only [ho, resolve, invoke, builtin, Sem.run_bind, Sem.run_pure, Result.andThen_ok, List.map_toArray, List.map_cons, List.map_nil, hs, hx, hr]
    exact h g 0 w hown (Below.refl _ _) (Or.inl rfl)
  · obtain ⟨b, off, rfl, _, hc⟩ := hrow (by omega)
    have hr := run_append_grow (P := Try.prog) w 24 o.type 34 i0 _ Try.underlying24 hi hz0 ⟨g, 0, none⟩ 0 0 [] (by simp) (fun j u hj => by simp at hj) ⟨b, off, none⟩ m c (flatP f m) (by rw [hz1]; exact flatP_len f m) (PRow.news hc) (by omega) (by omega)
      (by rw [hz2]; exact growslice_fits (by omega) (by omega))
    simp only [Nat.zero_add] at hr
    have hge := grownCap_ge w m 0 34
    unfold Oper.wp execOp
    simp only [ho, resolve, invoke, builtin, Sem.run_bind, Sem.run_pure, Result.andThen_ok, List.map_toArray, List.map_cons, List.map_nil, hs, hx, hr]
    refine h w.heap.size _ _ ⟨flatP_len f m, .inr ⟨w.heap.size, _, _, rfl, hbase, heap_alloc_new w.drew _, hge, grownCap_le_maxLen w m 0 34 (by unfold maxLen; omega), ?_, ?_⟩⟩ (((Below.refl w.heap.size w).drew).alloc (Nat.le_refl _) _) (Or.inr (Nat.le_refl _))
    · simp [size_zeroCells, flatP_len, Value.cells]
      omega
    · simp [flatP_len]

/-- append of one Pair. -/
theorem wp_app1 {o : Oper} {a : Act} {w : World} {K : Act → World → Prop} {Q : Exit → Act → World → Prop} (s x : Operand)
    (ho : o.op = .call { callee := .builtin .append, args := #[s, x], argTypes := #[24, 24] }) (base k n c : Nat) (f : Nat → BitVec 64 × BitVec 64) (hs : a.eval s = .slice (some ⟨k, 0, none⟩) n c) (hown : w.ownsRow base 34 2 (.slice (some ⟨k, 0, none⟩) n c) n (flatP f n))
    (b : Nat) (p : BitVec 64 × BitVec 64) (hx : a.eval x = .slice (some ⟨b, 0, none⟩) 1 1) (hbox : Box w b (nv p.1) (nv p.2)) (hb : n ≤ 100000) (hbase : base ≤ w.heap.size)
    (h : ∀ v' w', w'.ownsRow base 34 2 v' (n + 1) (flatP (fun i => if i < n then f i else p) (n + 1)) → w.grownBy w' (some k) → K (a.put o.dst v') w') : o.wp Try.prog a w K Q := by
  obtain ⟨i0, hi, hz0, hz1, hz2⟩ := info_parts Try.pairInfo
  refine wp_append_own w s x 24 ho base 34 i0 _ 2 16 Try.underlying24 hi hz0 hz1 hz2 rfl (by decide) _ n _ hs hown ⟨b, 0, none⟩ 1 1 [.int .u64 (nv p.1), .int .u64 (nv p.2)] hx rfl ?_ ?_ (by unfold maxLen; omega) (by omega) hbase ?_
  · intro j u hj
    rw [addr_add, Nat.zero_add]
    match j, hj with
    | 0, hj => simp at hj; subst hj; exact hbox.c0
    | 1, hj => simp at hj; subst hj; exact hbox.c1
    | j + 2, hj => simp at hj
  · intro u hu
    simp at hu
    rcases hu with rfl | rfl <;> rfl
  · intro v' w' h1 h2 _
    rw [flatP_snoc] at h1
    exact h v' w' h1 h2

theorem Box.kept {w w' : World} {b : Nat} {x y : Int} {row : Option Nat} (h : Box w b x y) (hg : w.grownBy w' row) (hne : some b ≠ row) : Box w' b x y := (hg.block b h.lt hne).trans h

section
variable {P : Program} {ops : Array Oper} {Q : Exit → Act → World → Prop} {md : Region.Mode} {S : World → Prop} {fuel : Nat} {listed : Array Bool} {t : List Value} {d : List Deferred} {w : World}
/-- Three operations may come up now. -/
theorem threeL (i j k : Nat) {oi oj ok : Oper} (hi : ops[i]? = some oi) (hj : ops[j]? = some oj) (hk : ops[k]? = some ok) (hr : Region.ready md ops listed = [i, j, k]) (hwi : Region.wanted oi (yielded ops t.toArray) = true) (hwj : Region.wanted oj (yielded ops t.toArray) = true) (hwk : Region.wanted ok (yielded ops t.toArray) = true)
    (h1 : ∀ K : Act → World → Prop, Shut (∀ a w, S w → (S w → wpAnyH P md ops Q S fuel (listed.setIfInBounds i true) a w) → K a w) → Oper.wp P oi ⟨t.toArray, d⟩ w K Q)
    (h2 : ∀ K : Act → World → Prop, Shut (∀ a w, S w → (S w → wpAnyH P md ops Q S fuel (listed.setIfInBounds j true) a w) → K a w) → Oper.wp P oj ⟨t.toArray, d⟩ w K Q)
    (h3 : ∀ K : Act → World → Prop, Shut (∀ a w, S w → (S w → wpAnyH P md ops Q S fuel (listed.setIfInBounds k true) a w) → K a w) → Oper.wp P ok ⟨t.toArray, d⟩ w K Q) :
    wpAnyH P md ops Q S (fuel + 1) listed ⟨t.toArray, d⟩ w := by
  refine wpAnyH_ready (rs := [i, j, k]) hr (by simp) (AllReadyH.cons hi (fun K hK => ?_) (AllReadyH.cons hj (fun K hK => ?_) (AllReadyH.cons hk (fun K hK => ?_) AllReadyH.nil)))
  · rw [if_pos hwi]; exact h1 K hK
  · rw [if_pos hwj]; exact h2 K hK
  · rw [if_pos hwk]; exact h3 K hK
end
end Go.Proofs.Ytkbhkgfchiacbaa


/- Sealed bytes: plain facts, and rows of Pairs that grow. -/
namespace Go.Proofs.Ytkbhkgfchiacbaa
open Go.RowKit
set_option maxRecDepth 20000

/-- Bytes, filled up with noughts to sixteens. -/
def padN (n : Nat) : Nat := (16 - n % 16) % 16
def padL (xs : List Int) : List Int := xs ++ List.replicate (padN xs.length) 0
theorem padL_length (xs : List Int) : (padL xs).length = 16 * ((xs.length + 15) / 16) := by
  rw [padL, List.length_append, List.length_replicate, padN]
  omega
theorem padL_bytes {xs : List Int} (h : Bytes xs) : Bytes (padL xs) := h.append (fun x hx => by
  obtain ⟨_, rfl⟩ := List.mem_replicate.1 hx
  omega)
/-- Bytes as Pairs. -/
def prs (xs : List Int) : List (BitVec 64 × BitVec 64) := (List.range ((xs.length + 15) / 16)).map fun i => pairOf (six (padL xs) i)
theorem prs_length (xs : List Int) : (prs xs).length = (xs.length + 15) / 16 := by simp [prs]
theorem prs_get (xs : List Int) (i : Nat) (h : i < (xs.length + 15) / 16) : (prs xs).getD i (0#64, 0#64) = pairOf (six (padL xs) i) := by
  simp [prs, h]
/-- Pairs, cell by cell. -/
def fl (l : List (BitVec 64 × BitVec 64)) : List Value := flatP (fun i => l.getD i (0#64, 0#64)) l.length
theorem flatP_congr {f g : Nat → BitVec 64 × BitVec 64} : ∀ n, (∀ i, i < n → f i = g i) → flatP f n = flatP g n
  | 0, _ => rfl
  | n + 1, h => by rw [flatP, flatP, flatP_congr n (fun i hi => h i (by omega)), h n (by omega)]
theorem flatP_add (f : Nat → BitVec 64 × BitVec 64) (m : Nat) : ∀ n, flatP f (m + n) = flatP f m ++ flatP (fun i => f (m + i)) n
  | 0 => by simp [flatP]
  | n + 1 => by rw [← Nat.add_assoc, flatP, flatP_add f m n, flatP, List.append_assoc]
theorem fl_append (l m : List (BitVec 64 × BitVec 64)) : fl (l ++ m) = fl l ++ fl m := by
  unfold fl
  rw [List.length_append, flatP_add]
  congr 1
  · exact flatP_congr _ (fun i hi => by simp [List.getD, List.getElem?_append_left hi])
  · exact flatP_congr _ (fun i hi => by simp [List.getD, List.getElem?_append_right])
theorem fl_one (p : BitVec 64 × BitVec 64) : fl [p] = [.int .u64 (nv p.1), .int .u64 (nv p.2)] := rfl
/-- The sum of powers of a row. -/
def evalL (h : BitVec 64 × BitVec 64) (l : List (BitVec 64 × BitVec 64)) : BitVec 64 × BitVec 64 := evalP h (fun i => l.getD i (0#64, 0#64)) l.length
def lenP (a b : Nat) : BitVec 64 × BitVec 64 := (BitVec.ofNat 64 a, BitVec.ofNat 64 b)
/-- The tag of bytes. -/
def tagP (sub : BitVec 64 × BitVec 64) (hd bs : List Int) : BitVec 64 × BitVec 64 := addP (evalL (enc sub (0#64, 1#64)) (prs hd ++ prs bs ++ [lenP hd.length bs.length])) (enc sub (0#64, 0#64))
/-- Bytes by a key and a number. -/
def mixL (sub : BitVec 64 × BitVec 64) (xs : List Int) : List Int := xorL xs (flowL sub xs.length)
theorem mixL_length (sub : BitVec 64 × BitVec 64) (xs : List Int) : (mixL sub xs).length = xs.length := by rw [mixL, xorL_length, flowL_length, Nat.min_self]
theorem mixL_bytes (sub : BitVec 64 × BitVec 64) {xs : List Int} (h : Bytes xs) : Bytes (mixL sub xs) := xorL_bytes h (flowL_bytes _ _)
theorem mixL_back (sub : BitVec 64 × BitVec 64) {xs : List Int} (h : Bytes xs) : mixL sub (mixL sub xs) = xs := by
  have e := mixL_length sub xs
  unfold mixL at e ⊢
  rw [e, xorL_back h (flowL_bytes _ _), flowL_length, Nat.min_self, List.take_of_length_le (Nat.le_refl _)]

/-- append of Pairs to a row of the call's own. -/
theorem wpList_appP {w : World} {ops : Array Oper} {rest : List Oper} {o : Oper} {a : Act} {Q : Exit → Act → World → Prop} (hgd : o.guard = none) (s x : Operand)
    (ho : o.op = .call { callee := .builtin .append, args := #[s, x], argTypes := #[24, 24] }) (base : Nat) (v : Value) (n : Nat) (xs : List Value) (hs : a.eval s = v) (hown : w.ownsRow base 34 2 v n xs)
    (sx : Option Addr) (l c : Nat) (f : Nat → BitVec 64 × BitVec 64) (hx : a.eval x = .slice sx l c) (hz : PRow w sx l f) (hnil : sx = none → l = 0 ∧ c = 0) (hbound : n + l ≤ 100000) (hbase : base ≤ w.heap.size)
    (h : ∀ v' w', w'.ownsRow base 34 2 v' (n + l) (xs ++ flatP f l) → Below base w w' → wpList Try.prog ops Q rest (a.put o.dst v') w') : wpList Try.prog ops Q (o :: rest) a w := by
  obtain ⟨i0, hi, hz0, hz1, hz2⟩ := info_parts Try.pairInfo
  cases sx with
  | none =>
    obtain ⟨rfl, rfl⟩ := hnil rfl
    refine wpList_append_own_none hgd s x 24 ho base 34 i0 2 Try.underlying24 hi v n _ hs hown hx (h v w ?_ (Below.refl _ _))
    simpa [flatP] using hown
  | some ad =>
    refine wpList_append_own w hgd s x 24 ho base 34 i0 _ 2 16 Try.underlying24 hi hz0 hz1 hz2 rfl (by decide) v n _ hs hown ad l c (flatP f l) hx (flatP_len f l) ?_ (flatP_one f l) (by unfold maxLen; omega) (by omega) hbase ?_
    · by_cases hl : 0 < l
      · obtain ⟨b, o, e, _, hc⟩ := hz hl
        obtain rfl : ad = ⟨b, o, none⟩ := by simpa using e
        exact PRow.news hc
      · obtain rfl : l = 0 := by omega
        intro j u hj
        simp [flatP] at hj
    · intro v' w' h1 h2 _
      exact h v' w' h1 ((Below.refl _ _).grown h2 hbase (own_block hown))
/-- A row of the call's own, as a slice of Pairs. -/
theorem own_pair_row {w : World} {base : Nat} {v : Value} {l : List (BitVec 64 × BitVec 64)} {n : Nat} (hn : l.length = n) (h : w.ownsRow base 34 2 v n (fl l)) : ∃ x c, v = .slice x n c ∧ PRow w x n (fun i => l.getD i (0#64, 0#64)) ∧ n ≤ c ∧ c ≤ maxLen ∧ (x = none → n = 0 ∧ c = 0) := by
  subst hn
  have h' := h
  obtain ⟨x, c, rfl, hp⟩ := own_prow h
  obtain ⟨_, ⟨e, h0⟩ | ⟨g, cap, cur, e, hg, hh, hnc, hcm, _⟩⟩ := h'
  · simp only [Value.slice.injEq] at e
    obtain ⟨rfl, h1, rfl⟩ := e
    exact ⟨none, 0, rfl, hp, by omega, by decide, fun _ => ⟨h1, rfl⟩⟩
  · simp only [Value.slice.injEq] at e
    obtain ⟨rfl, _, hc⟩ := e
    subst hc
    exact ⟨_, c, rfl, hp, hnc, hcm, fun e => by cases e⟩
theorem Box.prow {w : World} {b : Nat} {p : BitVec 64 × BitVec 64} (h : Box w b (nv p.1) (nv p.2)) : PRow w (some ⟨b, 0, none⟩) 1 (fun _ => p) := by
  intro _
  refine ⟨b, 0, rfl, h.lt, fun i hi => ?_⟩
  obtain rfl : i = 0 := by omega
  exact ⟨h.c0, h.c1⟩
end Go.Proofs.Ytkbhkgfchiacbaa


/- What lockboxref5.pairs and Tag come to. -/
namespace Go.Proofs.Ytkbhkgfchiacbaa
open Go.RowKit
set_option maxRecDepth 20000

theorem rep_succ (j : Nat) (xs : List Int) : xs ++ List.replicate (j + 1) (0 : Int) = xs ++ List.replicate j 0 ++ [0] := by
  rw [List.replicate_succ', List.append_assoc]
theorem pad_end (n j : Nat) (hj : j ≤ padN n) : (((n + j) % 16 : Nat) = 0) ↔ j = padN n := by
  unfold padN at hj ⊢
  omega
theorem prs_take (xs : List Int) (k : Nat) (h : k < (xs.length + 15) / 16) : (prs xs).take (k + 1) = (prs xs).take k ++ [pairOf (six (padL xs) k)] := by
  rw [List.take_add_one]
  congr 1
  simp [prs, h]


end Go.Proofs.Ytkbhkgfchiacbaa


/- What lockboxref5.Tag comes to. -/
namespace Go.Proofs.Ytkbhkgfchiacbaa
open Go.RowKit
set_option maxRecDepth 20000

theorem nv_len (n : Nat) (h : n < 18446744073709551616) : nv (BitVec.ofNat 64 n) = n := by
  unfold nv
  rw [BitVec.toNat_ofNat]
  omega
end Go.Proofs.Ytkbhkgfchiacbaa


/- What the statements ask of gcm, and of the document's own: fn is the function. -/
namespace Go.Proofs.Ytkbhkgfchiacbaa
open Go.RowKit
set_option maxRecDepth 20000

/-- A tag. -/
def TagIs (fn : Nat) : Prop := ∀ (sub : BitVec 64 × BitVec 64) (xs ys : List Int) (x y : Option Addr) (n m c d : Nat), n ≤ 5000 → m ≤ 5000 → n ≤ c → m ≤ d → Bytes xs → Bytes ys → (x = none → n = 0 ∧ c = 0) → (y = none → m = 0 ∧ d = 0) → ∀ w : World, SAt w x n xs → SAt w y m ys →
  Calls Try.prog fn #[.agg #[.int .u64 (nv sub.1), .int .u64 (nv sub.2)], .slice x n c, .slice y m d] w fun e w' => e = .returned (.agg #[.int .u64 (nv (tagP sub xs ys).1), .int .u64 (nv (tagP sub xs ys).2)]) ∧ Below w.heap.size w w'
/-- Bytes that may be sealed are. -/
def SealIn (fn : Nat) : Prop := ∀ (key : BitVec 64 × BitVec 64) (n : Nn) (xs ys : List Int) (x y : Option Addr) (nx ny c d : Nat), nx ≤ 4000 → ny ≤ 4000 → Bytes xs → Bytes ys → nx ≤ c → ny ≤ d → (x = none → nx = 0 ∧ c = 0) → (y = none → ny = 0 ∧ d = 0) → ∀ w : World, SAt w x nx xs → SAt w y ny ys → 
  Calls Try.prog fn #[.agg #[.int .u64 (nv key.1), .int .u64 (nv key.2)], .agg #[.int .u32 (nv32 n.1), .int .u32 (nv32 n.2.1), .int .u64 (nv n.2.2)], .slice x nx c, .slice y ny d] w fun e w' => ∃ z cz, e = .returned (.tuple #[.agg #[.slice z ny cz, .int .u64 (nv (tagP (subP key n) xs (mixL (subP key n) ys)).1), .int .u64 (nv (tagP (subP key n) xs (mixL (subP key n) ys)).2)], .bool true]) ∧ SAt w' z ny (mixL (subP key n) ys) ∧ ny ≤ cz ∧ cz ≤ maxLen ∧ (z = none → ny = 0 ∧ cz = 0) ∧ Below w.heap.size w w'
/-- Others are not. -/
def SealOut (fn : Nat) : Prop := ∀ (key : BitVec 64 × BitVec 64) (n : Nn) (x y : Option Addr) (nx ny c d : Nat), 4000 < nx ∨ 4000 < ny → ∀ w : World,
  Calls Try.prog fn #[.agg #[.int .u64 (nv key.1), .int .u64 (nv key.2)], .agg #[.int .u32 (nv32 n.1), .int .u32 (nv32 n.2.1), .int .u64 (nv n.2.2)], .slice x nx c, .slice y ny d] w fun e w' => e = .returned (.tuple #[.agg #[.slice none 0 0, .int .u64 0, .int .u64 0], .bool false]) ∧ Below w.heap.size w w'
/-- What has its tag is opened. -/
def OpenYes (fn : Nat) : Prop := ∀ (key : BitVec 64 × BitVec 64) (n : Nn) (xs ys : List Int) (x y : Option Addr) (nx ny c d : Nat) (t : BitVec 64 × BitVec 64), nx ≤ 4000 → ny ≤ 4000 → tagP (subP key n) xs ys = t → Bytes xs → Bytes ys → nx ≤ c → ny ≤ d → (x = none → nx = 0 ∧ c = 0) → (y = none → ny = 0 ∧ d = 0) → ∀ w : World, SAt w x nx xs → SAt w y ny ys → 
  Calls Try.prog fn #[.agg #[.int .u64 (nv key.1), .int .u64 (nv key.2)], .agg #[.int .u32 (nv32 n.1), .int .u32 (nv32 n.2.1), .int .u64 (nv n.2.2)], .slice x nx c, .agg #[.slice y ny d, .int .u64 (nv t.1), .int .u64 (nv t.2)]] w fun e w' => ∃ z cz, e = .returned (.tuple #[.slice z ny cz, .bool true]) ∧ SAt w' z ny (mixL (subP key n) ys) ∧ Below w.heap.size w w'
/-- What hasn't is not. -/
def OpenNo (fn : Nat) : Prop := ∀ (key : BitVec 64 × BitVec 64) (n : Nn) (xs ys : List Int) (x y : Option Addr) (nx ny c d : Nat) (t : BitVec 64 × BitVec 64), nx ≤ 4000 → ny ≤ 4000 → tagP (subP key n) xs ys ≠ t → Bytes xs → Bytes ys → nx ≤ c → ny ≤ d → (x = none → nx = 0 ∧ c = 0) → (y = none → ny = 0 ∧ d = 0) → ∀ w : World, SAt w x nx xs → SAt w y ny ys → 
  Calls Try.prog fn #[.agg #[.int .u64 (nv key.1), .int .u64 (nv key.2)], .agg #[.int .u32 (nv32 n.1), .int .u32 (nv32 n.2.1), .int .u64 (nv n.2.2)], .slice x nx c, .agg #[.slice y ny d, .int .u64 (nv t.1), .int .u64 (nv t.2)]] w fun e w' => (∃ z cz, e = .returned (.tuple #[.slice z 0 cz, .bool false])) ∧ Below w.heap.size w w'
/-- What is longer is not. -/
def OpenLong (fn : Nat) : Prop := ∀ (key : BitVec 64 × BitVec 64) (n : Nn) (x y : Option Addr) (nx ny c d : Nat) (t1 t2 : Int), 4000 < nx ∨ 4000 < ny → ∀ w : World,
  Calls Try.prog fn #[.agg #[.int .u64 (nv key.1), .int .u64 (nv key.2)], .agg #[.int .u32 (nv32 n.1), .int .u32 (nv32 n.2.1), .int .u64 (nv n.2.2)], .slice x nx c, .agg #[.slice y ny d, .int .u64 t1, .int .u64 t2]] w fun e w' => (∃ z cz, e = .returned (.tuple #[.slice z 0 cz, .bool false])) ∧ Below w.heap.size w w'
end Go.Proofs.Ytkbhkgfchiacbaa


/- Plain facts: a step, and the sum of bytes. -/
namespace Go.Proofs.Ytkbhkgfchiacbaa
open Go.RowKit
set_option maxRecDepth 20000

/-- A step. -/
def stepP (s m : BitVec 64 × BitVec 64) : BitVec 64 × BitVec 64 := ((enc m s).1 ^^^ s.1, (enc m s).2 ^^^ s.2)
def iv : BitVec 64 × BitVec 64 := (0x6a09e667f3bcc908#64, 0xbb67ae8584caa73b#64)
theorem iv_1 : nv iv.1 = 7640891576956012808 := by decide
theorem iv_2 : nv iv.2 = 13503953896175478587 := by decide
/-- How many noughts. -/
def digN (n : Nat) : Nat := (23 - n % 16) % 16
/-- Bytes, as they are summed. -/
def msgL (xs : List Int) : List Int := xs ++ [128] ++ List.replicate (digN xs.length) 0 ++ putL xs.length 8
def msgN (n : Nat) : Nat := (n + 1 + digN n + 8) / 16
theorem msg_sixteen (n : Nat) : n + 1 + digN n + 8 = 16 * msgN n := by
  unfold msgN digN
  omega
theorem msgL_length (xs : List Int) : (msgL xs).length = 16 * msgN xs.length := by
  rw [← msg_sixteen]
  simp [msgL, putL_length]
  omega
theorem msgL_bytes {xs : List Int} (h : Bytes xs) : Bytes (msgL xs) := by
  refine ((h.append ?_).append ?_).append (putL_bytes _ _)
  · intro x hx
    simp at hx
    omega
  · intro x hx
    obtain ⟨_, rfl⟩ := List.mem_replicate.1 hx
    omega
theorem dig_end (n j : Nat) (hj : j ≤ digN n) : ((n + 1 + j) % 16 = 8) ↔ j = digN n := by
  unfold digN at hj ⊢
  omega
/-- The first k sixteens' sum. -/
def sumN (s : BitVec 64 × BitVec 64) (ys : List Int) : Nat → BitVec 64 × BitVec 64
  | 0 => s
  | k + 1 => stepP (sumN s ys k) (pairOf (six ys k))
theorem sumN_succ (s : BitVec 64 × BitVec 64) (ys : List Int) (k : Nat) : sumN s ys (k + 1) = stepP (sumN s ys k) (pairOf (six ys k)) := rfl
/-- The sum of bytes. -/
def sumP (xs : List Int) : BitVec 64 × BitVec 64 := sumN iv (msgL xs) (msgN xs.length)
end Go.Proofs.Ytkbhkgfchiacbaa
