/- DskImA PowImpl: texts laid together. -/
import Derived.Test.YtcjmmfgnnebgkaaM09
import Derived.Test.YtcjmmfgnnebgkaaM05
import Derived.Test.YtcjmmfgnnebgkaaM03
import Derived.Test.YtcjmmfgnnebgkaaM01

/- The landed disk in memory; has, waiting, noneWaits, settle. -/
namespace Go.Proofs.Ytcjmmfgnnebgkaa
open Go.RowKit
set_option maxRecDepth 20000

/-- Block g: these bytes, and what stands behind them; of whatever type. -/
def RowK (T : TypeId) (w : World) (g : Nat) (cur : List Int) (tail : List Value) : Prop := w.heap[g]? = some (.cells (cur.map (Value.int .u8) ++ tail).toArray T (0, 0))
section
variable {T : TypeId} {w w' : World} {g : Nat} {cur : List Int} {tail : List Value}
theorem RowK.at (h : RowK T w g cur tail) : At w g 0 cur := by
  intro i hi
  unfold RowK at h
  have e : (cur.map (Value.int .u8) ++ tail)[i]? = some (.int .u8 (cur.getD i 0)) := by
    rw [List.getElem?_append_left (by rw [List.length_map]; exact hi), List.getElem?_map, List.getElem?_eq_getElem hi, List.getD_eq_getElem?_getD, List.getElem?_eq_getElem hi]
    rfl
  simp only [World.cell?, h, Nat.zero_add, List.getElem?_toArray, e]
  rfl
theorem RowK.lt (h : RowK T w g cur tail) : g < w.heap.size := (Array.getElem?_eq_some_iff.1 h).1
theorem RowK.frozen (h : RowK T w g cur tail) (i : Nat) : w.frozen? ⟨g, i, none⟩ = false := by unfold RowK at h; simp [World.frozen?, h]
theorem RowK.off {F : Nat → Prop} (h : RowK T w g cur tail) (hb : Off F w w') (hn : ¬ F g) : RowK T w' g cur tail := off_block h hb hn
theorem RowK.drew' (h : RowK T w g cur tail) : RowK T w.drew g cur tail := h
theorem RowK.tl (h : RowK T w g cur tail) {n : Nat} (hn : cur.length = n) (j : Nat) : w.cell? ⟨g, n + j, none⟩ = tail[j]? := by
  subst hn
  unfold RowK at h
  have e : (cur.map (Value.int .u8) ++ tail)[cur.length + j]? = tail[j]? := by
    rw [List.getElem?_append_right (by rw [List.length_map]; omega), List.length_map, Nat.add_sub_cancel_left]
  rw [← e]
  simp [World.cell?, h]
theorem RowK.put (h : RowK T w g cur tail) {n : Nat} (hn : cur.length = n) (j : Nat) (u : Value) : RowK T (w.setCell ⟨g, n + j, none⟩ u) g cur (tail.set j u) := by
  subst hn
  unfold RowK at h ⊢
  have hl := (Array.getElem?_eq_some_iff.1 h).1
  simp only [World.setCell, Array.getElem?_modify, h, if_true, Option.map_some]
  congr 2
  apply Array.ext'
  simp
end
/-- copy of all of some bytes into such a block. -/
theorem wp_copyK {o : Oper} {a : Act} {w : World} {K : Act → World → Prop} {Q : Exit → Act → World → Prop} (d s : Operand)
    (ho : o.op = .call { callee := .builtin .copy, args := #[d, s], argTypes := #[33, 33] }) (T : TypeId) (g off dl dCap n sCap : Nat) (dp : Addr) (sx : Option Addr)
    (hd : a.eval d = .slice (some dp) dl dCap) (hdp : dp = ⟨g, off, none⟩) (hs : a.eval s = .slice sx n sCap) (cur xs : List Int) (tail : List Value)
    (hg : RowK T w g cur tail) (hx : SAt w sx n xs) (hnd : n ≤ dl) (hfit : off + n ≤ cur.length)
    (h : ∀ w', RowK T w' g (splice cur off xs) tail → Off (fun k => k = g) w w' → w'.heap.size = w.heap.size → (∀ k i, w'.frozen? ⟨k, i, none⟩ = w.frozen? ⟨k, i, none⟩) → K (a.put o.dst (goInt n)) w') : Oper.wp Try.prog o a w K Q := by
  have hl := hx.1
  subst hdp
  by_cases h0 : n = 0
  · subst h0
    obtain rfl : xs = [] := List.eq_nil_of_length_eq_zero hl
    have hrun := run_copy_none (P := Try.prog) w 33 33 o.type 5 (some ⟨g, off, none⟩) sx dl dCap 0 sCap Try.underlying33 (by kernel_rfl) (Nat.zero_min dl)
    unfold Oper.wp
    simp [execOp, ho, resolve, invoke, builtin, hd, hs, hrun, Result.andThen]
    exact h w (by simpa [splice] using hg) (Off.refl _ _) rfl (fun _ _ => rfl)
  · obtain ⟨b, so, rfl, _, hat⟩ := hx.2 (by omega)
    have e : (xs.map (Value.int .u8)).length = n := by simp [hl]
    have hrun := run_copy_row (P := Try.prog) w 33 33 o.type 5 g off dl dCap ⟨b, so, none⟩ n sCap (cur.map (Value.int .u8) ++ tail).toArray T (xs.map (Value.int .u8)) Try.underlying33 (by kernel_rfl) hg (by rw [e]; exact (Nat.min_eq_left hnd).symm) hat.news (by rw [e]; simp; omega) (one_cells xs)
    rw [e] at hrun
    have hr := setRow_heap w g _ (splice (cur.map (Value.int .u8) ++ tail) off (xs.map (Value.int .u8))).toArray T _ hg
    have hR : RowK T (w.setRow g (splice (cur.map (Value.int .u8) ++ tail) off (xs.map (Value.int .u8))).toArray) g (splice cur off xs) tail := by
      unfold RowK
      rw [hr, splice_mapT cur xs off tail (by omega)]
    have e2 : (splice (cur.map (Value.int .u8) ++ tail) off (xs.map (Value.int .u8))).toArray = ((cur.map (Value.int .u8) ++ tail).toArray.toList.take off ++ (xs.map (Value.int .u8) ++ (cur.map (Value.int .u8) ++ tail).toArray.toList.drop (off + n))).toArray := by
      rw [splice, e]
    have hO : Off (fun k => k = g) w (w.setRow g (splice (cur.map (Value.int .u8) ++ tail) off (xs.map (Value.int .u8))).toArray) := ⟨rfl, rfl, rfl, by simp [World.setRow], fun k _ hn => setRow_other w g k _ hn⟩
    have hZ : ∀ k i, (w.setRow g (splice (cur.map (Value.int .u8) ++ tail) off (xs.map (Value.int .u8))).toArray).frozen? ⟨k, i, none⟩ = w.frozen? ⟨k, i, none⟩ := fun k i => by
      by_cases hk : k = g
      · subst hk
        rw [hR.frozen, hg.frozen]
      · exact World.frozen?_of_block (w := w) (a := ⟨k, i, none⟩) (setRow_other w g k _ hk)
    have hK := h _ hR hO (by simp [World.setRow]) hZ
    clear h hR hO hZ hr
    rw [e2] at hK
    unfold Oper.wp
    simp [execOp, ho, resolve, invoke, builtin, hd, hs, hrun, Result.andThen]
    simp at hK
    exact hK
/-- Blocks of 32 bytes, one behind the other. -/
theorem flat_len : ∀ (B : List (List Int)), (∀ x ∈ B, x.length = 32) → B.flatten.length = B.length * 32
  | [], _ => rfl
  | x :: B, h => by
    rw [List.flatten_cons, List.length_append, flat_len B (fun y hy => h y (List.mem_cons_of_mem _ hy)), h x List.mem_cons_self, List.length_cons]
    omega
theorem splice_flat : ∀ (B : List (List Int)) (i : Nat) (xs : List Int), (∀ x ∈ B, x.length = 32) → i < B.length → xs.length = 32 → splice B.flatten (i * 32) xs = (B.set i xs).flatten
  | [], _, _, _, h, _ => absurd h (by simp)
  | x :: B, 0, xs, h, _, hx => by
    have hl := h x List.mem_cons_self
    rw [List.flatten_cons, List.set_cons_zero, List.flatten_cons]
    unfold splice
    rw [Nat.zero_mul, List.take_zero, List.nil_append, Nat.zero_add, hx, List.drop_left' hl]
  | x :: B, i + 1, xs, h, hi, hx => by
    have hl := h x List.mem_cons_self
    have ih := splice_flat B i xs (fun y hy => h y (List.mem_cons_of_mem _ hy)) (by simpa using hi) hx
    rw [List.set_cons_succ, List.flatten_cons, List.flatten_cons, ← ih]
    unfold splice
    have e1 : (i + 1) * 32 = x.length + i * 32 := by omega
    rw [e1, List.take_length_add_append, List.append_assoc, Nat.add_assoc, List.drop_length_add_append]
theorem flat_at : ∀ (B : List (List Int)) (i : Nat), (∀ x ∈ B, x.length = 32) → i < B.length → ((B.flatten).drop (i * 32)).take 32 = B.getD i []
  | [], _, _, h => absurd h (by simp)
  | x :: B, 0, h, _ => by
    have hl := h x List.mem_cons_self
    rw [List.flatten_cons, Nat.zero_mul, List.drop_zero, List.take_left' hl]
    rfl
  | x :: B, i + 1, h, hi => by
    have hl := h x List.mem_cons_self
    have ih := flat_at B i (fun y hy => h y (List.mem_cons_of_mem _ hy)) (by simpa using hi)
    have e1 : (i + 1) * 32 = x.length + i * 32 := by omega
    rw [List.flatten_cons, e1, List.drop_length_add_append, ih]
    rfl
/-- 32 blocks. -/
structure Blks (B : List (List Int)) : Prop where
  n : B.length = 32
  b : ∀ x ∈ B, x.length = 32
theorem Blks.flat {B : List (List Int)} (h : Blks B) : B.flatten.length = 1024 := by rw [flat_len B h.b, h.n]
theorem Blks.set {B : List (List Int)} (h : Blks B) (i : Nat) {xs : List Int} (hx : xs.length = 32) : Blks (B.set i xs) := ⟨by rw [List.length_set]; exact h.n, fun y hy => by
  rcases List.mem_or_eq_of_mem_set hy with e | e
  · exact h.b y e
  · rw [e]; exact hx⟩
theorem Blks.lay : ∀ (L : List (Nat × List Int)) {B : List (List Int)}, Blks B → (∀ o ∈ L, o.1 < 32 ∧ o.2.length = 32) → Blks (layD B L)
  | [], _, h, _ => h
  | o :: L, _, h, hL => Blks.lay L (h.set o.1 (hL o List.mem_cons_self).2) (fun q hq => hL q (List.mem_cons_of_mem _ hq))
theorem layD_apK (B : List (List Int)) (L : List (Nat × List Int)) (o : Nat × List Int) : layD B (L ++ [o]) = (layD B L).set o.1 o.2 := by simp [layD]
theorem layD_taK (B : List (List Int)) (L : List (Nat × List Int)) (k : Nat) (hk : k < L.length) {off : Nat} {ys : List Int} (h : L.getD k (0, []) = (off, ys)) : layD B (L.take (k + 1)) = (layD B (L.take k)).set off ys := by
  rw [List.take_succ_eq_append_getElem hk, layD_apK]
  have e : L[k] = (off, ys) := by rw [← h, List.getD_eq_getElem?_getD, List.getElem?_eq_getElem hk, Option.getD_some]
  rw [e]
theorem layD_byK : ∀ (L : List (Nat × List Int)) (B : List (List Int)), (∀ x ∈ B, Bytes x) → (∀ o ∈ L, Bytes o.2) → ∀ x ∈ layD B L, Bytes x
  | [], _, h, _ => h
  | o :: L, B, h, hL => layD_byK L (B.set o.1 o.2) (fun y hy => by
      rcases List.mem_or_eq_of_mem_set hy with e | e
      · exact h y e
      · rw [e]; exact hL o List.mem_cons_self) (fun q hq => hL q (List.mem_cons_of_mem _ hq))
/-- The disk's block. -/
def DkBox (w : World) (b : Nat) (B : List (List Int)) (p : Option Addr) (no : Bool) (vD : Value) (f : Nat) : Prop := RowK 58 w b B.flatten [.pointer p, .bool no, vD, .int .i64 (f : Int)]
section
variable {w w' : World} {b : Nat} {B : List (List Int)} {p : Option Addr} {no : Bool} {vD : Value} {f : Nat}
theorem DkBox.lt (h : DkBox w b B p no vD f) : b < w.heap.size := RowK.lt h
theorem DkBox.frozen (h : DkBox w b B p no vD f) (i : Nat) : w.frozen? ⟨b, i, none⟩ = false := RowK.frozen h i
theorem DkBox.off {F : Nat → Prop} (h : DkBox w b B p no vD f) (hb : Off F w w') (hn : ¬ F b) : DkBox w' b B p no vD f := RowK.off h hb hn
theorem DkBox.grown (h : DkBox w b B p no vD f) (hb : Below w.heap.size w w') : DkBox w' b B p no vD f := h.off (Off.of_below (F := fun _ => False) hb) (fun h => h)
variable (hB : Blks B)
include hB
theorem DkBox.c1024 (h : DkBox w b B p no vD f) : w.cell? ⟨b, 1024, none⟩ = some (.pointer p) := RowK.tl h hB.flat 0
theorem DkBox.c1025 (h : DkBox w b B p no vD f) : w.cell? ⟨b, 1025, none⟩ = some (.bool no) := RowK.tl h hB.flat 1
theorem DkBox.c1026 (h : DkBox w b B p no vD f) : w.cell? ⟨b, 1026, none⟩ = some vD := RowK.tl h hB.flat 2
theorem DkBox.c1027 (h : DkBox w b B p no vD f) : w.cell? ⟨b, 1027, none⟩ = some (.int .i64 (f : Int)) := RowK.tl h hB.flat 3
theorem DkBox.put1 (h : DkBox w b B p no vD f) (no' : Bool) : DkBox (w.setCell ⟨b, 1025, none⟩ (.bool no')) b B p no' vD f := RowK.put h hB.flat 1 (.bool no')
theorem DkBox.put2 (h : DkBox w b B p no vD f) (u : Value) : DkBox (w.setCell ⟨b, 1026, none⟩ u) b B p no u f := RowK.put h hB.flat 2 u
theorem DkBox.put3 (h : DkBox w b B p no vD f) (m : Nat) : DkBox (w.setCell ⟨b, 1027, none⟩ (.int .i64 (m : Int))) b B p no vD m := RowK.put h hB.flat 3 (.int .i64 (m : Int))
end
/-- The landed disk. -/
structure DkAt (FB : Nat → Prop) (w : World) (b : Nat) (p : Option Addr) (vD : Value) (f : Nat) (st : DskSt) : Prop where
  box : DkBox w b st.B p st.no vD f
  ops : OpRow FB w vD st.T
  blk : Blks st.B
  byt : ∀ x ∈ st.B, Bytes x
  tl : ∃ T0, st.T = T0 ++ wOps st.Wt ∧ T0.length = f
  wf : ∀ o ∈ st.Wt, o.1 < 32 ∧ o.2.length = 32
  nb : ¬ FB b
  own : ∀ k, vD.ownBlock = some k → k ≠ b ∧ ¬ FB k
  lt : ∀ k, FB k → k < w.heap.size
  ob : ∀ o ∈ st.T, o.2.length ≤ 32
/-- All that is its own. -/
def KOwn (FB : Nat → Prop) (b : Nat) (vD : Value) : Nat → Prop := fun k => k = b ∨ vD.ownBlock = some k ∨ FB k
def DkInv (p : Option Addr) (F : Nat → Prop) (w : World) (v : Value) (st : DskSt) : Prop := ∃ b FB vD f, v = .pointer (some ⟨b, 0, none⟩) ∧ DkAt FB w b p vD f st ∧ ∀ k, F k ↔ KOwn FB b vD k
section
variable {FB G : Nat → Prop} {w w' : World} {b : Nat} {p : Option Addr} {vD : Value} {f : Nat} {st : DskSt}
theorem DkAt.off (h : DkAt FB w b p vD f st) (hb : Off G w w') (hd : ∀ k, KOwn FB b vD k → ¬ G k) : DkAt FB w' b p vD f st :=
  ⟨h.box.off hb (hd b (Or.inl rfl)), h.ops.off hb (fun k hk => hd k (Or.inr (Or.inl hk))) (fun k _ hk => hd k (Or.inr (Or.inr hk))),
    h.blk, h.byt, h.tl, h.wf, h.nb, h.own, fun k hk => Nat.lt_of_lt_of_le (h.lt k hk) hb.size, h.ob⟩
theorem DkAt.below (h : DkAt FB w b p vD f st) (hb : Below w.heap.size w w') : DkAt FB w' b p vD f st := h.off (Off.of_below (F := fun _ => False) hb) (fun _ _ h => h)
theorem DkAt.olt (h : DkAt FB w b p vD f st) : ∀ k, KOwn FB b vD k → k < w.heap.size := by
  rintro k (rfl | hk | hk)
  · exact h.box.lt
  · exact h.ops.lt hk
  · exact h.lt k hk
theorem DkAt.isWf (h : DkAt FB w b p vD f st) : DskWf st := ⟨h.blk.n, h.blk.b, h.wf⟩
end
theorem dkbase (p : Option Addr) : ObjBase (DkInv p) := by
  refine ⟨?_, ?_, ?_⟩
  · rintro F w w' v st ⟨b, FB, vD, f, rfl, h, hF⟩ hs hb
    refine ⟨b, FB, vD, f, rfl, ?_, hF⟩
    have hcell : ∀ k i, F k → w'.cell? ⟨k, i, none⟩ = w.cell? ⟨k, i, none⟩ := fun k i hk => World.cell?_of_block (w := w) (hb k hk)
    have hin : ∀ {x : Option Addr} {n : Nat} {xs : List Int}, SIn FB w x n xs → SIn FB w' x n xs := fun {x n xs} hx => ⟨hx.1, fun hn => by
      obtain ⟨g, o, e, hl, hg, ha⟩ := hx.2 hn
      exact ⟨g, o, e, Nat.lt_of_lt_of_le hl hs, hg, fun i hi => (hcell g (o + i) ((hF g).2 (Or.inr (Or.inr hg)))).trans (ha i hi)⟩⟩
    have hrow : OpRow FB w' vD st.T := by
      obtain ⟨C, h1, h2⟩ := h.ops
      refine ⟨C, ?_, fun i hi => ⟨hin (h2 i hi).s, (h2 i hi).f, (h2 i hi).b⟩⟩
      have ho : ∀ k, vD.ownBlock = some k → F k := fun k hk => (hF k).2 (Or.inr (Or.inl hk))
      obtain ⟨hl, h3 | ⟨g, cap, cur, rfl, hg, hh, rest⟩⟩ := h1
      · exact ⟨hl, Or.inl h3⟩
      · exact ⟨hl, Or.inr ⟨g, cap, cur, rfl, hg, (hb g (ho g rfl)).trans hh, rest⟩⟩
    exact ⟨(hb b ((hF b).2 (Or.inl rfl))).trans h.box, hrow, h.blk, h.byt, h.tl, h.wf, h.nb, h.own, fun k hk => Nat.lt_of_lt_of_le (h.lt k hk) hs, h.ob⟩
  · rintro F w v st ⟨b, FB, vD, f, rfl, h, hF⟩ k hk
    exact h.olt k ((hF k).1 hk)
  · rintro F w v _ ⟨b, FB, vD, f, rfl, _, _⟩
    exact ⟨_, rfl⟩
theorem khas (b : Nat) (i : Nat) (hi : i < 32) (w : World) : Calls Try.prog 29 #[.pointer (some ⟨b, 0, none⟩), .int .i64 (i : Int)] w fun e w' => e = .returned (.bool true) ∧ Clean w w' := by
  have h1 : (i : Int) ≥ 0 := by omega
  have h2 : (i : Int) < 32 := by omega
  clear hi
  go_enter Try.func29, Try.ntmps29
  go_wp2
  go_ret
  exact ⟨rfl, Clean.refl _⟩
theorem khasNo (v : Option Addr) (i : Int) (hi : v = none ∨ i < 0 ∨ 32 ≤ i) (w : World) : Calls Try.prog 29 #[.pointer v, .int .i64 i] w fun e w' => e = .returned (.bool false) ∧ Clean w w' := by
  have hc := Clean.refl w
  cases v with
  | none =>
    clear hi
    go_enter Try.func29, Try.ntmps29
    go_wp2
    go_ret
    exact ⟨rfl, hc⟩
  | some a =>
    by_cases h0 : i < 0
    · have h1 : ¬ i ≥ 0 := by omega
      clear hi
      go_enter Try.func29, Try.ntmps29
      go_wp2
      go_ret
      exact ⟨rfl, hc⟩
    · have h1 : i ≥ 0 := by omega
      have h2 : ¬ i < 32 := by
        rcases hi with h | h | h
        · cases h
        · omega
        · omega
      clear hi h0
      go_enter Try.func29, Try.ntmps29
      go_wp2
      go_ret
      exact ⟨rfl, hc⟩
theorem kwait (FB : Nat → Prop) (b : Nat) (p : Option Addr) (vD : Value) (f : Nat) (st : DskSt) (w : World) (h : DkAt FB w b p vD f st) :
    Calls Try.prog 34 #[.pointer (some ⟨b, 0, none⟩)] w fun e w' => ∃ z cz, e = .returned (.slice z st.Wt.length cz) ∧ Fit z st.Wt.length cz ∧ TIn (fun k => vD.ownBlock = some k ∨ FB k) w' z st.Wt.length (wOps st.Wt) ∧ Clean w w' := by
  obtain ⟨T0, hT, hTl⟩ := h.tl
  obtain ⟨y, c, rfl, hf⟩ : ∃ y c, vD = .slice y st.T.length c ∧ Fit y st.T.length c := h.ops.is
  have ht := h.ops.tail (G' := fun k => (Value.slice y st.T.length c).ownBlock = some k ∨ FB k) hT hTl (fun k hk => Or.inl hk) (fun k hk => Or.inr hk)
  have hl : st.T.length = f + st.Wt.length := by rw [hT, List.length_append, hTl, wOps_len]
  rw [show st.Wt.length = st.T.length - f from by omega]
  have ht0 : TIn (fun k => (Value.slice y st.T.length c).ownBlock = some k ∨ FB k) w (nextO y c f) (st.T.length - f) (wOps st.Wt) := ht
  clear ht
  have ht := ht0
  clear ht0
  have hfm : f ≤ st.T.length := by omega
  clear hl hT hTl
  generalize hm : st.T.length = m at *
  have hbx : DkBox w b st.B p st.no (.slice y m c) f := h.box
  have hbk := h.blk
  clear hm
  go_enter Try.func34, Try.ntmps34
  go_wp2_with fail
  refine startX (S := fun w' => Below w.heap.size w w') 9 (by kernel_rfl) (Below.refl _ _).drew (fun hHeld => ?_)
  refine moveY 0 3 0 rfl rfl rfl (by kernel_rfl) (by kernel_rfl) (by kernel_rfl) (fun _ _ _ h => h) (by rfl) (by kernel_rfl) (by kernel_rfl) (by decide) hHeld rfl ?_
  simp only [List.set_cons_succ, List.set_cons_zero]
  refine takeY 1 4 (v := ?_) rfl rfl (by kernel_rfl) (by kernel_rfl) (by kernel_rfl) (fun _ _ _ h => h) (by rfl) (by kernel_rfl) (by kernel_rfl) (by decide) hHeld (fun w hSw => ?_) ?_
  rotate_left 1
  · (try dsimp only at hSw)
    clear hSw
    go_simp
    try with_reducible rfl
  simp only [List.set_cons_succ, List.set_cons_zero]
  refine takeY 2 5 (v := ?_) rfl rfl (by kernel_rfl) (by kernel_rfl) (by kernel_rfl) (fun _ _ _ h => h) (by rfl) (by kernel_rfl) (by kernel_rfl) (by decide) hHeld (fun w hSw => ?_) ?_
  rotate_left 1
  · (try dsimp only at hSw)
    clear hSw
    go_simp
    try with_reducible rfl
  simp only [List.set_cons_succ, List.set_cons_zero]
  refine takeY 3 6 (v := ?_) rfl rfl (by kernel_rfl) (by kernel_rfl) (by kernel_rfl) (fun _ _ _ h => h) (by rfl) (by kernel_rfl) (by kernel_rfl) (by decide) hHeld (fun w hSw => ?_) ?_
  rotate_left 1
  · (try dsimp only at hSw)
    have e0_ := (DkBox.c1026 hbk (DkBox.grown hbx hSw))
    clear hSw
    go_simp
    try with_reducible rfl
  simp only [List.set_cons_succ, List.set_cons_zero]
  refine moveY 4 7 0 rfl rfl rfl (by kernel_rfl) (by kernel_rfl) (by kernel_rfl) (fun _ _ _ h => h) (by rfl) (by kernel_rfl) (by kernel_rfl) (by decide) hHeld rfl ?_
  simp only [List.set_cons_succ, List.set_cons_zero]
  refine takeY 5 8 (v := ?_) rfl rfl (by kernel_rfl) (by kernel_rfl) (by kernel_rfl) (fun _ _ _ h => h) (by rfl) (by kernel_rfl) (by kernel_rfl) (by decide) hHeld (fun w hSw => ?_) ?_
  rotate_left 1
  · (try dsimp only at hSw)
    clear hSw
    go_simp
    try with_reducible rfl
  simp only [List.set_cons_succ, List.set_cons_zero]
  refine takeY 6 9 (v := ?_) rfl rfl (by kernel_rfl) (by kernel_rfl) (by kernel_rfl) (fun _ _ _ h => h) (by rfl) (by kernel_rfl) (by kernel_rfl) (by decide) hHeld (fun w hSw => ?_) ?_
  rotate_left 1
  · (try dsimp only at hSw)
    clear hSw
    go_simp
    try with_reducible rfl
  simp only [List.set_cons_succ, List.set_cons_zero]
  refine takeY 7 10 (v := ?_) rfl rfl (by kernel_rfl) (by kernel_rfl) (by kernel_rfl) (fun _ _ _ h => h) (by rfl) (by kernel_rfl) (by kernel_rfl) (by decide) hHeld (fun w hSw => ?_) ?_
  rotate_left 1
  · (try dsimp only at hSw)
    have e0_ := (DkBox.c1027 hbk (DkBox.grown hbx hSw))
    clear hSw
    go_simp
    try with_reducible rfl
  simp only [List.set_cons_succ, List.set_cons_zero]
  refine takeY 8 11 (v := ?_) rfl rfl (by kernel_rfl) (by kernel_rfl) (by kernel_rfl) (fun _ _ _ h => h) (by rfl) (by kernel_rfl) (by kernel_rfl) (by decide) hHeld (fun w hSw => ?_) ?_
  rotate_left 1
  · (try dsimp only at hSw)
    have e0_ := sl_tailO y m c f hfm
    clear hSw
    go_simp
    try with_reducible rfl
  simp only [List.set_cons_succ, List.set_cons_zero]
  refine onlyX 9 rfl (by kernel_rfl) (by rfl) (fun K hK => ?_)
  go_wp2
  refine hK.out _ _ (fun h => absurd rfl h) (fun _ => ?_)
  clear hK K hHeld
  refine doneX (by kernel_rfl) ?_ _
  go_wp2
  go_ret
  exact ⟨_, _, rfl, fit_tailO hf hfm, ht.off (F := fun _ => False) (Off.refl _ w).drew (fun _ _ _ h => h), (Clean.refl _).drew⟩
theorem knone (w : World) (b : Nat) (B : List (List Int)) (p : Option Addr) (no : Bool) (y : Option Addr) (m c f : Nat) (hB : Blks B) (h : DkBox w b B p no (.slice y m c) f) :
    Calls Try.prog 36 #[.pointer (some ⟨b, 0, none⟩)] w fun e w' => e = .returned (.tuple #[]) ∧ DkBox w' b B p no (.slice y m c) m ∧ Offs (fun k => k = b) w w' := by
  have c2 := h.c1026 hB
  have c3 := h.c1027 hB
  have f3 := h.frozen 1027
  have h2 := h.put3 hB m
  have o2 : Offs (fun k => k = b) w (w.setCell ⟨b, 1027, none⟩ (.int .i64 (m : Int))) := Offs.setCell (F := fun k => k = b) (p := ⟨b, 1027, none⟩) (Offs.refl _ w) (Or.inl rfl) _
  clear h
  go_enter Try.func36, Try.ntmps36
  go_wp2
  go_end0
  exact ⟨rfl, h2, o2⟩
set_option maxHeartbeats 1000000 in
theorem ksettle (wr : World) (b : Nat) (B : List (List Int)) (p : Option Addr) (no : Bool) (vD : Value) (f i cz : Nat) (z : Option Addr) (ys : List Int) (hi : i < 32) (hB : Blks B) (h : DkBox wr b B p no vD f) (hs : SAt wr z 32 ys) :
    Calls Try.prog 35 #[.pointer (some ⟨b, 0, none⟩), .agg #[.int .i64 (i : Int), .slice z 32 cz]] wr fun e w' => e = .returned (.tuple #[]) ∧ DkBox w' b (B.set i ys) p no vD f ∧ Offs (fun k => k = b) wr w' := by
  have hfl := hB.flat
  have hspl := splice_flat B i ys hB.b (by rw [hB.n]; exact hi) hs.1
  have hbl : b < wr.heap.size := h.lt
  have hA : Clean wr (wr.alloc (.cells #[.int .i64 (i : Int), .slice z 32 cz] 62)) := (Clean.refl wr).alloc _ _
  have hBx : CBox 62 (wr.alloc (.cells #[.int .i64 (i : Int), .slice z 32 cz] 62)) wr.heap.size #[.int .i64 (i : Int), .slice z 32 cz] := CBox.new _ _ _
  have hbq : DkBox (wr.alloc (.cells #[.int .i64 (i : Int), .slice z 32 cz] 62)) b B p no vD f := h.grown hA.b
  have hsq : SAt (wr.alloc (.cells #[.int .i64 (i : Int), .slice z 32 cz] 62)) z 32 ys := hs.below hA.b
  clear h hs
  go_enter Try.func35, Try.ntmps35
  go_wp2_with fail
  generalize hw0 : wr.alloc (.cells #[.int .i64 (i : Int), .slice z 32 cz] 62) = wq at *
  refine startX (S := fun w' => Below wq.heap.size wq w') 9 (by kernel_rfl) (Below.refl _ _).drew (fun hHeld => ?_)
  refine moveY 0 4 0 rfl rfl rfl (by kernel_rfl) (by kernel_rfl) (by kernel_rfl) (fun _ _ _ h => h) (by rfl) (by kernel_rfl) (by kernel_rfl) (by decide) hHeld rfl ?_
  simp only [List.set_cons_succ, List.set_cons_zero]
  refine takeY 1 5 (v := ?_) rfl rfl (by kernel_rfl) (by kernel_rfl) (by kernel_rfl) (fun _ _ _ h => h) (by rfl) (by kernel_rfl) (by kernel_rfl) (by decide) hHeld (fun w hSw => ?_) ?_
  rotate_left 1
  · (try dsimp only at hSw)
    clear hSw
    go_simp
    try with_reducible rfl
  simp only [List.set_cons_succ, List.set_cons_zero]
  refine takeY 2 6 (v := ?_) rfl rfl (by kernel_rfl) (by kernel_rfl) (by kernel_rfl) (fun _ _ _ h => h) (by rfl) (by kernel_rfl) (by kernel_rfl) (by decide) hHeld (fun w hSw => ?_) ?_
  rotate_left 1
  · (try dsimp only at hSw)
    have hx_ := CBox.grown hBx hSw
    have e0_ : w.cell? ⟨wr.heap.size, 0, none⟩ = _ := CBox.cell hx_ 0
    clear hx_
    clear hSw
    go_simp
    try with_reducible rfl
  simp only [List.set_cons_succ, List.set_cons_zero]
  refine takeY 3 7 (v := ?_) rfl rfl (by kernel_rfl) (by kernel_rfl) (by kernel_rfl) (fun _ _ _ h => h) (by rfl) (by kernel_rfl) (by kernel_rfl) (by decide) hHeld (fun w hSw => ?_) ?_
  rotate_left 1
  · (try dsimp only at hSw)
    clear hSw
    go_simp
    try with_reducible rfl
  simp only [List.set_cons_succ, List.set_cons_zero]
  refine takeY 4 8 (v := ?_) rfl rfl (by kernel_rfl) (by kernel_rfl) (by kernel_rfl) (fun _ _ _ h => h) (by rfl) (by kernel_rfl) (by kernel_rfl) (by decide) hHeld (fun w hSw => ?_) ?_
  rotate_left 1
  · (try dsimp only at hSw)
    clear hSw
    go_simp
    try with_reducible rfl
  simp only [List.set_cons_succ, List.set_cons_zero]
  refine takeY 5 9 (v := ?_) rfl rfl (by kernel_rfl) (by kernel_rfl) (by kernel_rfl) (fun _ _ _ h => h) (by rfl) (by kernel_rfl) (by kernel_rfl) (by decide) hHeld (fun w hSw => ?_) ?_
  rotate_left 1
  · (try dsimp only at hSw)
    have e0_ : (i : Int) < 32 := by omega
    have e1_ : ¬ (i : Int) < 0 := by omega
    clear hSw
    go_simp
    try with_reducible rfl
  simp only [List.set_cons_succ, List.set_cons_zero]
  refine takeY 6 10 (v := ?_) rfl rfl (by kernel_rfl) (by kernel_rfl) (by kernel_rfl) (fun _ _ _ h => h) (by rfl) (by kernel_rfl) (by kernel_rfl) (by decide) hHeld (fun w hSw => ?_) ?_
  rotate_left 1
  · (try dsimp only at hSw)
    clear hSw
    go_simp
    try with_reducible rfl
  simp only [List.set_cons_succ, List.set_cons_zero]
  refine takeY 7 11 (v := ?_) rfl rfl (by kernel_rfl) (by kernel_rfl) (by kernel_rfl) (fun _ _ _ h => h) (by rfl) (by kernel_rfl) (by kernel_rfl) (by decide) hHeld (fun w hSw => ?_) ?_
  rotate_left 1
  · (try dsimp only at hSw)
    clear hSw
    go_simp
    try with_reducible rfl
  simp only [List.set_cons_succ, List.set_cons_zero]
  refine takeY 8 12 (v := ?_) rfl rfl (by kernel_rfl) (by kernel_rfl) (by kernel_rfl) (fun _ _ _ h => h) (by rfl) (by kernel_rfl) (by kernel_rfl) (by decide) hHeld (fun w hSw => ?_) ?_
  rotate_left 1
  · (try dsimp only at hSw)
    have hx_ := CBox.grown hBx hSw
    have e0_ : w.cell? ⟨wr.heap.size, 1, none⟩ = _ := CBox.cell hx_ 1
    clear hx_
    clear hSw
    go_simp
    try with_reducible rfl
  simp only [List.set_cons_succ, List.set_cons_zero]
  refine onlyX 9 rfl (by kernel_rfl) (by rfl) (fun K hK => ?_)
  refine wp_copyK (.tmp 10) (.tmp 12) rfl 58 b (i * 32) 32 32 32 cz _ z rfl (by first | rfl | (rw [add_plain']; simp) | simp) rfl B.flatten ys _ (RowK.drew' hbq) hsq.drew (Nat.le_refl _) (by rw [hfl]; omega) ?_
  intro w3 hr3 ho3 hz3 hf3
  refine hK.out _ _ (fun h => absurd rfl h) (fun _ => ?_)
  clear hK K hHeld
  refine doneX (by kernel_rfl) ?_ _
  go_wp2
  go_end0
  rw [hspl] at hr3
  refine ⟨rfl, hr3, ((Off.of_below hA.b).trans (Off.refl (fun k => k = b) wq).drew (fun _ h => Or.inl h)).trans ho3 (fun _ h => Or.inl h), fun q j hq => (hf3 q j).trans (hA.f q j hq)⟩
end Go.Proofs.Ytcjmmfgnnebgkaa


/- The landed Power: on, the steps of its fuse, how many there were, in a block of its own. -/
namespace Go.Proofs.Ytcjmmfgnnebgkaa
open Go.RowKit
set_option maxRecDepth 20000

/-- What its fuse has left, as a number. -/
def fuseI : Option Nat → Int
  | none => -1
  | some k => k
/-- Its fuse is an int. -/
def FuseOk (st : PSt) : Prop := Hid (match st.2.1 with | some k => k ≤ 9223372036854775807 | none => True)
theorem ok_fuse {st : PSt} {n : Int} (hn : n ≤ 9223372036854775807) : FuseOk (pFuse st n) := by
  unfold FuseOk pFuse
  apply hide'
  by_cases h : n < 0
  · simp [h]
  · simp only [if_neg h]
    omega
theorem ok_spend {st : PSt} (h : FuseOk st) : FuseOk (pSpend st).2 := by
  obtain ⟨o, f, n⟩ := st
  cases o
  · exact h
  · rcases f with _ | _ | k
    · exact h
    · exact h
    · exact hide' (Nat.le_of_succ_le (show k + 1 ≤ 9223372036854775807 from h.out))
/-- A Power at block b. -/
def PwBox (w : World) (b : Nat) (st : PSt) : Prop := CBox 54 w b #[.bool st.1, .int .i64 (fuseI st.2.1), .int .i64 (st.2.2 : Int)]
def PwInv (F : Nat → Prop) (w : World) (v : Value) (st : PSt) : Prop := ∃ b, v = .pointer (some ⟨b, 0, none⟩) ∧ PwBox w b st ∧ FuseOk st ∧ ∀ k, F k ↔ k = b
theorem pwbase : ObjBase PwInv := by
  refine ⟨?_, ?_, ?_⟩
  · rintro F w w' v _ ⟨b, rfl, h, ho, hF⟩ _ hb
    exact ⟨b, rfl, (hb b ((hF b).2 rfl)).trans h, ho, hF⟩
  · rintro F w v _ ⟨b, rfl, h, _, hF⟩ k hk
    rw [(hF k).1 hk]
    exact CBox.lt h
  · rintro F w v _ ⟨b, rfl, _, _, _⟩
    exact ⟨_, rfl⟩
theorem pwput {w w' : World} {b : Nat} {st' : PSt} {F : Nat → Prop} (hF : ∀ k, F k ↔ k = b) (h : PwBox w' b st') (hf : FuseOk st') (ho : Off (fun k => k = b) w w') : KeptG PwInv F w (.pointer (some ⟨b, 0, none⟩)) F w' st' :=
  ⟨⟨b, rfl, h, hf, hF⟩, fun _ h => Or.inl h, ho.mono (fun i hi => Or.inl ((hF i).2 hi))⟩
theorem pmake (w : World) : Calls Try.prog 8 #[] w fun e w' => ∃ v F, e = .returned v ∧ PwInv F w' v (true, none, 0) ∧ (∀ k, F k → w.heap.size ≤ k) ∧ Below w.heap.size w w' := by
  have hN := CBox.new 54 w #[.bool true, .int .i64 (-1), .int .i64 0]
  have hA : Below w.heap.size w (w.alloc (.cells #[.bool true, .int .i64 (-1), .int .i64 0] 54)) := (Below.refl _ _).alloc (Nat.le_refl _) _
  go_enter Try.func8, Try.ntmps8
  go_wp2
  go_ret
  exact ⟨_, fun k => k = w.heap.size, rfl, ⟨w.heap.size, rfl, hN, trivial, fun _ => Iff.rfl⟩, fun k hk => hk ▸ Nat.le_refl _, hA⟩
theorem ponB (b : Nat) (st : PSt) (w : World) (h : PwBox w b st) : Calls Try.prog 37 #[.pointer (some ⟨b, 0, none⟩)] w fun e w' => e = .returned (.bool st.1) ∧ Below w.heap.size w w' := by
  have c0 : w.cell? ⟨b, 0, none⟩ = some (.bool st.1) := CBox.cell h 0
  clear h
  generalize st.1 = o at *
  go_enter Try.func37, Try.ntmps37
  go_wp2
  go_ret
  exact ⟨rfl, Below.refl _ _⟩
theorem pstepsB (b : Nat) (st : PSt) (w : World) (h : PwBox w b st) : Calls Try.prog 25 #[.pointer (some ⟨b, 0, none⟩)] w fun e w' => e = .returned (.int .i64 (st.2.2 : Int)) ∧ Below w.heap.size w w' := by
  have c0 : w.cell? ⟨b, 2, none⟩ = some (.int .i64 (st.2.2 : Int)) := CBox.cell h 2
  clear h
  generalize (st.2.2 : Int) = o at *
  go_enter Try.func25, Try.ntmps25
  go_wp2
  go_ret
  exact ⟨rfl, Below.refl _ _⟩
theorem pfuseB (b : Nat) (st : PSt) (n : Int) (w : World) (h : PwBox w b st) : Calls Try.prog 21 #[.pointer (some ⟨b, 0, none⟩), .int .i64 n] w fun e w' => e = .returned (.tuple #[]) ∧ PwBox w' b (pFuse st n) ∧ Off (fun k => k = b) w w' := by
  have f1 := CBox.frozen h 1
  have c1 : w.cell? ⟨b, 1, none⟩ = some (.int .i64 (fuseI st.2.1)) := CBox.cell h 1
  have h2 : PwBox (w.setCell ⟨b, 1, none⟩ (.int .i64 (fuseI (pFuse st n).2.1))) b (pFuse st n) := CBox.put h 1 (.int .i64 (fuseI (pFuse st n).2.1))
  have o2 : Off (fun k => k = b) w (w.setCell ⟨b, 1, none⟩ (.int .i64 (fuseI (pFuse st n).2.1))) := Off.setCell (F := fun k => k = b) (p := ⟨b, 1, none⟩) (Off.refl _ w) (Or.inl rfl) _
  have hn : n < -1 ∨ n = -1 ∨ 0 ≤ n := by omega
  rcases hn with hn | rfl | hn
  · have e : fuseI (pFuse st n).2.1 = -1 := by
      have : n < 0 := by omega
      simp [pFuse, this, fuseI]
    rw [e] at h2 o2
    have h0 : ¬ -1 ≤ n := by omega
    go_enter Try.func21, Try.ntmps21
    go_wp2
    go_end0
    exact ⟨rfl, h2, o2⟩
  · rw [show fuseI (pFuse st (-1)).2.1 = -1 from rfl] at h2 o2
    go_enter Try.func21, Try.ntmps21
    go_wp2
    go_end0
    exact ⟨rfl, h2, o2⟩
  · have hn' : ¬ n < 0 := by omega
    have e : fuseI (pFuse st n).2.1 = n := by
      simp [pFuse, hn', fuseI]
      omega
    rw [e] at h2 o2
    have h0 : -1 ≤ n := by omega
    go_enter Try.func21, Try.ntmps21
    go_wp2
    go_end0
    exact ⟨rfl, h2, o2⟩
theorem pbackB (b : Nat) (st : PSt) (w : World) (h : PwBox w b st) : Calls Try.prog 23 #[.pointer (some ⟨b, 0, none⟩)] w fun e w' => e = .returned (.tuple #[]) ∧ PwBox w' b (pBack st) ∧ Off (fun k => k = b) w w' := by
  have f0 := CBox.frozen h 0
  have c0 : w.cell? ⟨b, 0, none⟩ = some (.bool st.1) := CBox.cell h 0
  have h1 : CBox 54 (w.setCell ⟨b, 0, none⟩ (.bool true)) b _ := CBox.put h 0 (.bool true)
  have f1 := CBox.frozen h1 1
  have c1 : (w.setCell ⟨b, 0, none⟩ (.bool true)).cell? ⟨b, 1, none⟩ = some (.int .i64 (fuseI st.2.1)) := CBox.cell h1 1
  have h2 : PwBox ((w.setCell ⟨b, 0, none⟩ (.bool true)).setCell ⟨b, 1, none⟩ (.int .i64 (-1))) b (pBack st) := CBox.put h1 1 (.int .i64 (-1))
  have o2 : Off (fun k => k = b) w ((w.setCell ⟨b, 0, none⟩ (.bool true)).setCell ⟨b, 1, none⟩ (.int .i64 (-1))) := Off.setCell (F := fun k => k = b) (p := ⟨b, 1, none⟩) (Off.setCell (F := fun k => k = b) (p := ⟨b, 0, none⟩) (Off.refl _ w) (Or.inl rfl) _) (Or.inl rfl) _
  go_enter Try.func23, Try.ntmps23
  go_wp2
  go_end0
  exact ⟨rfl, h2, o2⟩
theorem pspendB (b : Nat) (st : PSt) (hn : st.2.2 ≤ 1000000) (hf : FuseOk st) (w : World) (h : PwBox w b st) : Calls Try.prog 30 #[.pointer (some ⟨b, 0, none⟩)] w fun e w' => e = .returned (.bool (pSpend st).1) ∧ PwBox w' b (pSpend st).2 ∧ Off (fun k => k = b) w w' := by
  obtain ⟨o, f, n⟩ := st
  have hw1 : IntKind.i64.wrap ((n : Int) + 1) = ((n + 1 : Nat) : Int) := by
    rw [IntKind.wrap_i64]
    have : n ≤ 1000000 := hn
    omega
  clear hn
  cases o
  · rw [pSpend_gone]
    go_enter Try.func30, Try.ntmps30
    go_wp2_with fail
    refine (ponB b _ _ h).mono ?_
    rintro e w1 ⟨rfl, hb⟩
    replace h := CBox.grown h hb
    go_wp2
    go_ret
    exact ⟨rfl, h, Off.of_below hb⟩
  · rcases f with _ | _ | k
    · rw [pSpend_free]
      go_enter Try.func30, Try.ntmps30
      go_wp2_with fail
      refine (ponB b _ _ h).mono ?_
      rintro e w1 ⟨rfl, hb⟩
      replace h := CBox.grown h hb
      have c1 : w1.cell? ⟨b, 1, none⟩ = some (.int .i64 (-1)) := CBox.cell h 1
      have c2 : w1.cell? ⟨b, 2, none⟩ = some (.int .i64 (n : Int)) := CBox.cell h 2
      have f2 := CBox.frozen h 2
      have h2 : PwBox (w1.setCell ⟨b, 2, none⟩ (.int .i64 ((n + 1 : Nat) : Int))) b (true, none, n + 1) := CBox.put h 2 (.int .i64 ((n + 1 : Nat) : Int))
      have o2 : Off (fun k => k = b) w (w1.setCell ⟨b, 2, none⟩ (.int .i64 ((n + 1 : Nat) : Int))) := Off.setCell (F := fun k => k = b) (p := ⟨b, 2, none⟩) (Off.of_below hb) (Or.inl rfl) _
      clear h hb
      go_wp2
      go_ret
      exact ⟨rfl, h2, o2⟩
    · rw [pSpend_end]
      go_enter Try.func30, Try.ntmps30
      go_wp2_with fail
      refine (ponB b _ _ h).mono ?_
      rintro e w1 ⟨rfl, hb⟩
      replace h := CBox.grown h hb
      have c1 : w1.cell? ⟨b, 1, none⟩ = some (.int .i64 0) := CBox.cell h 1
      have f0 := CBox.frozen h 0
      have c0 : w1.cell? ⟨b, 0, none⟩ = some (.bool true) := CBox.cell h 0
      have h2 : PwBox (w1.setCell ⟨b, 0, none⟩ (.bool false)) b (false, some 0, n) := CBox.put h 0 (.bool false)
      have o2 : Off (fun k => k = b) w (w1.setCell ⟨b, 0, none⟩ (.bool false)) := Off.setCell (F := fun k => k = b) (p := ⟨b, 0, none⟩) (Off.of_below hb) (Or.inl rfl) _
      clear h hb
      go_wp2
      go_ret
      exact ⟨rfl, h2, o2⟩
    · rw [pSpend_some]
      go_enter Try.func30, Try.ntmps30
      go_wp2_with fail
      refine (ponB b _ _ h).mono ?_
      rintro e w1 ⟨rfl, hb⟩
      replace h := CBox.grown h hb
      obtain ⟨z, hz⟩ : ∃ z : Int, Hid (z = ((k + 1 : Nat) : Int)) := ⟨_, rfl⟩
      have hz0 : ¬ z = 0 := by have := hz.out; omega
      have hz1 : ¬ z = -1 := by have := hz.out; omega
      have hw0 : IntKind.i64.wrap (z - 1) = (k : Int) := by
        have := hz.out
        have : k + 1 ≤ 9223372036854775807 := hf.out
        rw [IntKind.wrap_i64]
        omega
      have c1 : w1.cell? ⟨b, 1, none⟩ = some (.int .i64 z) := by rw [hz.out]; exact CBox.cell h 1
      have c2 : w1.cell? ⟨b, 2, none⟩ = some (.int .i64 (n : Int)) := CBox.cell h 2
      have f1 := CBox.frozen h 1
      have h1 : CBox 54 (w1.setCell ⟨b, 1, none⟩ (.int .i64 (k : Int))) b _ := CBox.put h 1 (.int .i64 (k : Int))
      have d2 : (w1.setCell ⟨b, 1, none⟩ (.int .i64 (k : Int))).cell? ⟨b, 2, none⟩ = some (.int .i64 (n : Int)) := CBox.cell h1 2
      have f2 := CBox.frozen h1 2
      have h2 : PwBox ((w1.setCell ⟨b, 1, none⟩ (.int .i64 (k : Int))).setCell ⟨b, 2, none⟩ (.int .i64 ((n + 1 : Nat) : Int))) b (true, some k, n + 1) := CBox.put h1 2 (.int .i64 ((n + 1 : Nat) : Int))
      have o2 : Off (fun k => k = b) w ((w1.setCell ⟨b, 1, none⟩ (.int .i64 (k : Int))).setCell ⟨b, 2, none⟩ (.int .i64 ((n + 1 : Nat) : Int))) := Off.setCell (F := fun k => k = b) (p := ⟨b, 2, none⟩) (Off.setCell (F := fun k => k = b) (p := ⟨b, 1, none⟩) (Off.of_below hb) (Or.inl rfl) _) (Or.inl rfl) _
      clear h hb h1
      go_wp2
      go_ret
      exact ⟨rfl, h2, o2⟩
theorem pfuseNil (n : Int) (w : World) : Calls Try.prog 21 #[.pointer none, .int .i64 n] w fun e w' => e = .returned (.tuple #[]) ∧ Below w.heap.size w w' := by
  go_enter Try.func21, Try.ntmps21
  go_wp2
  (try simp only [Exit.inBlock, Exit.then])
  refine bodyPost_ret (results_none rfl _ _ _) rfl ?_
  exact ⟨rfl, Below.refl _ _⟩
theorem pbackNil (w : World) : Calls Try.prog 23 #[.pointer none] w fun e w' => e = .returned (.tuple #[]) ∧ Below w.heap.size w w' := by
  go_enter Try.func23, Try.ntmps23
  go_wp2
  (try simp only [Exit.inBlock, Exit.then])
  refine bodyPost_ret (results_none rfl _ _ _) rfl ?_
  exact ⟨rfl, Below.refl _ _⟩
theorem ponNil (w : World) : Calls Try.prog 37 #[.pointer none] w fun e w' => e = .returned (.bool false) ∧ Below w.heap.size w w' := by
  go_enter Try.func37, Try.ntmps37
  go_wp2
  go_ret
  exact ⟨rfl, Below.refl _ _⟩
theorem pstepsNil (w : World) : Calls Try.prog 25 #[.pointer none] w fun e w' => e = .returned (.int .i64 0) ∧ Below w.heap.size w w' := by
  go_enter Try.func25, Try.ntmps25
  go_wp2
  go_ret
  exact ⟨rfl, Below.refl _ _⟩
theorem pspendNil (w : World) : Calls Try.prog 30 #[.pointer none] w fun e w' => e = .returned (.bool false) ∧ Below w.heap.size w w' := by
  go_enter Try.func30, Try.ntmps30
  go_wp2_with fail
  refine (ponNil _).mono ?_
  rintro e w1 ⟨rfl, hb⟩
  go_wp2
  go_ret
  exact ⟨rfl, hb⟩
theorem pow_is : PowIs PwInv where
  base := pwbase
  make := pmake
  fuse := by
    rintro F v st n hn w ⟨b, rfl, h, hf, hF⟩
    exact (pfuseB b st n w h).mono (by rintro e w' ⟨rfl, h2, o2⟩; exact ⟨F, rfl, pwput hF h2 (ok_fuse hn) o2⟩)
  spend := by
    rintro F v st hn w ⟨b, rfl, h, hf, hF⟩
    exact (pspendB b st hn hf w h).mono (by rintro e w' ⟨rfl, h2, o2⟩; exact ⟨F, rfl, pwput hF h2 (ok_spend hf) o2⟩)
  back := by
    rintro F v st w ⟨b, rfl, h, hf, hF⟩
    exact (pbackB b st w h).mono (by rintro e w' ⟨rfl, h2, o2⟩; exact ⟨F, rfl, pwput hF h2 trivial o2⟩)
  on := by
    rintro F v st w ⟨b, rfl, h, hf, hF⟩
    exact ponB b st w h
  steps := by
    rintro F v st w ⟨b, rfl, h, hf, hF⟩
    exact pstepsB b st w h
  fuseNil := pfuseNil
  spendNil := pspendNil
  backNil := pbackNil
  onNil := ponNil
  stepsNil := pstepsNil
end Go.Proofs.Ytcjmmfgnnebgkaa
