/- The landed device in memory; what lays writes over bytes, what waits. -/
import Derived.Test.YtcpplfclpigmkaaOpRow
import Derived.Test.YtcpplfclpigmkaaRowC
import Derived.Test.YtcpplfclpigmkaaRegionY
import Derived.Test.YtcpplfclpigmkaaSsdSaid
import Derived.Test.YtcpplfclpigmkaaClone
namespace Go.Proofs.Ytcpplfclpigmkaa
open Go.RowKit
set_option maxRecDepth 20000

theorem RowC.drew' {w : World} {g : Nat} {cur : List Int} {tail : List Value} (h : RowC w g cur tail) : RowC w.drew g cur tail := h
/-- The device's block. -/
def DvBox (w : World) (b g n : Nat) (p : Option Addr) (vD : Value) (f : Nat) : Prop := CBox 45 w b #[.slice (some ⟨g, 0, none⟩) n n, .pointer p, vD, .int .i64 (f : Int)]
/-- The landed device. -/
structure DvAt (FB : Nat → Prop) (w : World) (b g : Nat) (p : Option Addr) (vD : Value) (f : Nat) (st : SsdSt) : Prop where
  box : DvBox w b g st.B.length p vD f
  row : RowC w g st.B []
  ops : OpRow FB w vD st.T
  len : st.B.length ≤ 65536
  byt : Bytes st.B
  tl : ∃ T0, st.T = T0 ++ wOps st.Wt ∧ T0.length = f
  wf : ∀ o ∈ st.Wt, o.1 + o.2.length ≤ st.B.length
  bg : b ≠ g
  nb : ¬ FB b
  ng : ¬ FB g
  own : ∀ k, vD.ownBlock = some k → k ≠ b ∧ k ≠ g ∧ ¬ FB k
  lt : ∀ k, FB k → k < w.heap.size
  ob : ∀ o ∈ st.T, o.2.length ≤ 65536
/-- All that is its own. -/
def DOwn (FB : Nat → Prop) (b g : Nat) (vD : Value) : Nat → Prop := fun k => k = b ∨ k = g ∨ vD.ownBlock = some k ∨ FB k
def DvInv (p : Option Addr) (F : Nat → Prop) (w : World) (v : Value) (st : SsdSt) : Prop := ∃ b g FB vD f, v = .pointer (some ⟨b, 0, none⟩) ∧ DvAt FB w b g p vD f st ∧ ∀ k, F k ↔ DOwn FB b g vD k
section
variable {FB G : Nat → Prop} {w w' : World} {b g : Nat} {p : Option Addr} {vD : Value} {f : Nat} {st : SsdSt}
theorem DvAt.off (h : DvAt FB w b g p vD f st) (hb : Off G w w') (hd : ∀ k, DOwn FB b g vD k → ¬ G k) : DvAt FB w' b g p vD f st :=
  ⟨CBox.off h.box hb (hd b (Or.inl rfl)), h.row.off hb (hd g (Or.inr (Or.inl rfl))), h.ops.off hb (fun k hk => hd k (Or.inr (Or.inr (Or.inl hk)))) (fun k _ hk => hd k (Or.inr (Or.inr (Or.inr hk)))),
    h.len, h.byt, h.tl, h.wf, h.bg, h.nb, h.ng, h.own, fun k hk => Nat.lt_of_lt_of_le (h.lt k hk) hb.size, h.ob⟩
theorem DvAt.below (h : DvAt FB w b g p vD f st) (hb : Below w.heap.size w w') : DvAt FB w' b g p vD f st := h.off (Off.of_below (F := fun _ => False) hb) (fun _ _ h => h)
theorem DvAt.olt (h : DvAt FB w b g p vD f st) : ∀ k, DOwn FB b g vD k → k < w.heap.size := by
  rintro k (rfl | rfl | hk | hk)
  · exact CBox.lt h.box
  · exact h.row.lt
  · exact h.ops.lt hk
  · exact h.lt k hk
end
theorem dvbase (p : Option Addr) : ObjBase (DvInv p) := by
  refine ⟨?_, ?_, ?_⟩
  · rintro F w w' v st ⟨b, g, FB, vD, f, rfl, h, hF⟩ hs hb
    refine ⟨b, g, FB, vD, f, rfl, ?_, hF⟩
    have hcell : ∀ k i, F k → w'.cell? ⟨k, i, none⟩ = w.cell? ⟨k, i, none⟩ := fun k i hk => World.cell?_of_block (w := w) (hb k hk)
    have hin : ∀ {x : Option Addr} {n : Nat} {xs : List Int}, SIn FB w x n xs → SIn FB w' x n xs := fun {x n xs} hx => ⟨hx.1, fun hn => by
      obtain ⟨g, o, e, hl, hg, ha⟩ := hx.2 hn
      exact ⟨g, o, e, Nat.lt_of_lt_of_le hl hs, hg, fun i hi => (hcell g (o + i) ((hF g).2 (Or.inr (Or.inr (Or.inr hg))))).trans (ha i hi)⟩⟩
    have hrow : OpRow FB w' vD st.T := by
      obtain ⟨C, h1, h2⟩ := h.ops
      refine ⟨C, ?_, fun i hi => ⟨hin (h2 i hi).s, (h2 i hi).f, (h2 i hi).b⟩⟩
      have ho : ∀ k, vD.ownBlock = some k → F k := fun k hk => (hF k).2 (Or.inr (Or.inr (Or.inl hk)))
      obtain ⟨hl, h3 | ⟨g, cap, cur, rfl, hg, hh, rest⟩⟩ := h1
      · exact ⟨hl, Or.inl h3⟩
      · exact ⟨hl, Or.inr ⟨g, cap, cur, rfl, hg, (hb g (ho g rfl)).trans hh, rest⟩⟩
    exact ⟨(hb b ((hF b).2 (Or.inl rfl))).trans h.box, (hb g ((hF g).2 (Or.inr (Or.inl rfl)))).trans h.row, hrow, h.len, h.byt, h.tl, h.wf, h.bg, h.nb, h.ng, h.own, fun k hk => Nat.lt_of_lt_of_le (h.lt k hk) hs, h.ob⟩
  · rintro F w v st ⟨b, g, FB, vD, f, rfl, h, hF⟩ k hk
    exact h.olt k ((hF k).1 hk)
  · rintro F w v _ ⟨b, g, FB, vD, f, rfl, _, _⟩
    exact ⟨_, rfl⟩

theorem layW_len (L : List (Nat × List Int)) : ∀ b : List Int, (∀ o ∈ L, o.1 + o.2.length ≤ b.length) → (layW b L).length = b.length := by
  induction L with
  | nil => intro b _; rfl
  | cons o L ih =>
    intro b h
    show (layW (splice b o.1 o.2) L).length = _
    have e := splice_len b o.1 o.2 (h o List.mem_cons_self)
    rw [ih _ (fun q hq => by rw [e]; exact h q (List.mem_cons_of_mem _ hq)), e]
theorem splice_bytes {b xs : List Int} (off : Nat) (hb : Bytes b) (hx : Bytes xs) : Bytes (splice b off xs) := by
  intro y hy
  rcases List.mem_append.1 hy with h | h
  · exact hb y (List.mem_of_mem_take h)
  · rcases List.mem_append.1 h with h | h
    · exact hx y h
    · exact hb y (List.mem_of_mem_drop h)
theorem layW_bytes (L : List (Nat × List Int)) : ∀ b : List Int, Bytes b → (∀ o ∈ L, Bytes o.2) → Bytes (layW b L) := by
  induction L with
  | nil => intro b h _; exact h
  | cons o L ih => intro b h h2; exact ih _ (splice_bytes _ h (h2 o List.mem_cons_self)) (fun q hq => h2 q (List.mem_cons_of_mem _ hq))
theorem layW_take (b : List Int) (L : List (Nat × List Int)) (k : Nat) (hk : k < L.length) {off : Nat} {ys : List Int} (h : L.getD k (0, []) = (off, ys)) : layW b (L.take (k + 1)) = splice (layW b (L.take k)) off ys := by
  rw [List.take_succ_eq_append_getElem hk]
  have e : L[k] = (off, ys) := by rw [← h, List.getD_eq_getElem?_getD, List.getElem?_eq_getElem hk, Option.getD_some]
  rw [e]
  simp [layW]
/-- A write of a slice of them. -/
theorem tin_at {G : Nat → Prop} {w : World} {x : Option Addr} {m : Nat} {L : List (Nat × List Int)} (h : TIn G w x m (wOps L)) {k : Nat} (hk : k < m) :
    ∃ b o off ys z cz, x = some ⟨b, o, none⟩ ∧ b < w.heap.size ∧ G b ∧ k < L.length ∧ L.getD k (0, []) = (off, ys) ∧ (off, ys) ∈ L ∧ Bytes ys ∧ SIn G w z ys.length ys ∧ Fit z ys.length cz ∧ w.cell? ⟨b, o + k * 2, none⟩ = some (.int .i64 (off : Int)) ∧ w.cell? ⟨b, o + k * 2 + 1, none⟩ = some (.slice z ys.length cz) := by
  have hl : m = L.length := by rw [← h.1, wOps_len]
  subst hl
  obtain ⟨b, o, rfl, hb, hg, hr⟩ := h.2 (by omega)
  have := hr k hk
  rw [wOps_at _ _ hk] at this
  obtain ⟨h1, z, cz, h2, h3, h4, h5, h6, h7⟩ := this
  refine ⟨b, o, _, _, z, cz, rfl, hb, hg, hk, rfl, ?_, h7, h3, ⟨h4, h5, h6⟩, h1, h2⟩
  show L.getD k (0, []) ∈ L
  rw [List.getD_eq_getElem?_getD, List.getElem?_eq_getElem hk, Option.getD_some]
  exact List.getElem_mem hk
set_option maxHeartbeats 2000000 in
theorem ilay (g n cap : Nat) (cur : List Int) (tail : List Value) (x : Option Addr) (m c : Nat) (L : List (Nat × List Int)) (hn : cur.length = n) (hc : n ≤ cap) (hm : m ≤ maxLen) (hwf : ∀ o ∈ L, o.1 + o.2.length ≤ n) (w : World) (hg : RowC w g cur tail) (hx : TIn (fun k => k ≠ g) w x m (wOps L)) :
    Calls Try.prog 25 #[.slice (some ⟨g, 0, none⟩) n cap, .slice x m c] w fun e w' => e = .returned (.tuple #[]) ∧ RowC w' g (layW cur L) tail ∧ Offs (fun k => k = g) w w' := by
  have HL : Hid (L.length = m) := hide' (by rw [← hx.1, wOps_len])
  have hgl := hg.lt
  have HM := hide' hm
  clear hm
  go_enter Try.func25, Try.ntmps25
  go_wp2_with fail
  go_loopw [8] (fun i wr => ∃ k : Nat, k ≤ m ∧ i = .int .i64 (k : Int) ∧ RowC wr g (layW cur (L.take k)) tail ∧ Offs (fun k => k = g) w wr) (fun i _ => m - (intOf i).toNat)
  case atStart => exact ⟨0, Nat.zero_le _, rfl, hg, Offs.refl _ _⟩
  case round =>
    obtain ⟨k, hk, rfl, hr, ho⟩ := hrel
    by_cases hlt : k < m
    · have hlt' : (k : Int) < m := by omega
      have hw : IntKind.i64.wrap ((k : Int) + 1) = (k : Int) + 1 := by
        have := HM.out
        unfold maxLen at this
        rw [IntKind.wrap_i64]
        omega
      obtain ⟨b, o, off, ys, z, cz, rfl, hbl, hbg, hkL, hob, hmem, bys, hs, -, hc0, hc1⟩ := tin_at (hx.off ho.o (fun k _ h => h)) hlt
      obtain ⟨yn, HY⟩ : ∃ yn, Hid (ys.length = yn) := ⟨_, rfl⟩
      rw [HY.out] at hs hc1
      have hfit : off + yn ≤ n := by
        have := hwf _ hmem
        rwa [HY.out] at this
      have hcl : (layW cur (L.take k)).length = n := by
        rw [layW_len _ _ (fun o ho => by rw [hn]; exact hwf o (List.mem_of_mem_take ho)), hn]
      have hst := hide' (layW_take cur L k hkL hob)
      have hB : CBox 40 (wr.alloc (.cells #[.int .i64 (off : Int), .slice z yn cz] 40)) wr.heap.size #[.int .i64 (off : Int), .slice z yn cz] := CBox.new _ _ _
      have hbq : Below wr.heap.size wr (wr.alloc (.cells #[.int .i64 (off : Int), .slice z yn cz] 40)) := (Below.refl _ _).alloc (Nat.le_refl _) _
      have HOB : Hid (Offs (fun k => k = g) w (wr.alloc (.cells #[.int .i64 (off : Int), .slice z yn cz] 40))) := hide' (ho.alloc _ _)
      clear hob hmem
      go_wp2_with fail
      clear hc0 hc1 ho
      have ho := HOB.out
      clear HOB
      replace hr := hr.off (Off.of_below (F := fun _ => False) hbq) (fun h => h)
      replace hs := hs.sat.below hbq
      have hq' : ∀ q i, (wr.alloc (.cells #[.int .i64 (off : Int), .slice z yn cz] 40)).heap.size ≤ q → (wr.alloc (.cells #[.int .i64 (off : Int), .slice z yn cz] 40)).frozen? ⟨q, i, none⟩ = false := fun q i hq => (Clean.refl _).f q i hq
      clear hbq
      generalize wr.alloc (.cells #[.int .i64 (off : Int), .slice z yn cz] 40) = wq at *
      refine startX (S := fun w' => Below wq.heap.size wq w') 6 (by kernel_rfl) (Below.refl _ _).drew (fun hHeld => ?_)
      refine moveY 0 12 0 rfl rfl rfl (by kernel_rfl) (by kernel_rfl) (by kernel_rfl) (fun _ _ _ h => h) (by rfl) (by kernel_rfl) (by kernel_rfl) (by decide) hHeld rfl ?_
      simp only [List.set_cons_succ, List.set_cons_zero]
      refine takeY 1 13 (v := ?_) rfl rfl (by kernel_rfl) (by kernel_rfl) (by kernel_rfl) (fun _ _ _ h => h) (by rfl) (by kernel_rfl) (by kernel_rfl) (by decide) hHeld (fun w hSw => ?_) ?_
      rotate_left 1
      · (try dsimp only at hSw)
        clear hSw
        go_simp
        try with_reducible rfl
      simp only [List.set_cons_succ, List.set_cons_zero]
      refine takeY 2 14 (v := ?_) rfl rfl (by kernel_rfl) (by kernel_rfl) (by kernel_rfl) (fun _ _ _ h => h) (by rfl) (by kernel_rfl) (by kernel_rfl) (by decide) hHeld (fun w hSw => ?_) ?_
      rotate_left 1
      · (try dsimp only at hSw)
        have e0_ : w.cell? ⟨wr.heap.size, 0, none⟩ = some (.int .i64 (off : Int)) := CBox.cell (CBox.grown hB hSw) 0
        clear hSw
        go_simp
        try with_reducible rfl
      simp only [List.set_cons_succ, List.set_cons_zero]
      refine takeY 3 15 (v := ?_) rfl rfl (by kernel_rfl) (by kernel_rfl) (by kernel_rfl) (fun _ _ _ h => h) (by rfl) (by kernel_rfl) (by kernel_rfl) (by decide) hHeld (fun w hSw => ?_) ?_
      rotate_left 1
      · (try dsimp only at hSw)
        have e0_ := sl_tail (some ⟨g, 0, none⟩) n cap off (by omega)
        clear hSw
        go_simp
        try with_reducible rfl
      simp only [List.set_cons_succ, List.set_cons_zero]
      refine takeY 4 16 (v := ?_) rfl rfl (by kernel_rfl) (by kernel_rfl) (by kernel_rfl) (fun _ _ _ h => h) (by rfl) (by kernel_rfl) (by kernel_rfl) (by decide) hHeld (fun w hSw => ?_) ?_
      rotate_left 1
      · (try dsimp only at hSw)
        clear hSw
        go_simp
        try with_reducible rfl
      simp only [List.set_cons_succ, List.set_cons_zero]
      refine takeY 5 17 (v := ?_) rfl rfl (by kernel_rfl) (by kernel_rfl) (by kernel_rfl) (fun _ _ _ h => h) (by rfl) (by kernel_rfl) (by kernel_rfl) (by decide) hHeld (fun w hSw => ?_) ?_
      rotate_left 1
      · (try dsimp only at hSw)
        have e0_ : w.cell? ⟨wr.heap.size, 1, none⟩ = some (.slice z yn cz) := CBox.cell (CBox.grown hB hSw) 1
        clear hSw
        go_simp
        try with_reducible rfl
      simp only [List.set_cons_succ, List.set_cons_zero]
      refine onlyX 6 rfl (by kernel_rfl) (by rfl) (fun K hK => ?_)
      refine wp_copyC (.tmp 15) (.tmp 17) rfl g off (n - off) (cap - off) yn cz (nextA (some ⟨g, 0, none⟩) cap off) z rfl (fun h => by rw [nextA, if_neg (by omega), Option.map_some, add_plain', Nat.zero_add]) rfl (layW cur (L.take k)) ys tail hr.drew' hs.drew (by omega) (by rw [hcl]; omega) ?_
      intro w3 hr3 ho3 hz3 hf3
      refine hK.out _ _ (fun h => absurd rfl h) (fun _ => ?_)
      clear hK K hHeld
      refine doneX (by kernel_rfl) ?_ _
      go_wp2
      go_roundw
      case rel => exact ⟨k + 1, by omega, by go_num, by rw [hst.out]; exact hr3, ho.trans ⟨(Off.refl (fun k => k = g) wq).drew.trans ho3 (fun _ h => Or.inl h), fun q i hq => (hf3 q i).trans ((hq' q i hq))⟩ (fun _ h => h) (fun i hi => hi ▸ hgl)⟩
      case measure => simp [intOf]; omega
    · obtain rfl : k = m := by omega
      have e : L.take k = L := List.take_of_length_le (by rw [HL.out]; exact Nat.le_refl _)
      rw [e] at hr
      clear e
      go_wp2
      go_end0
      exact ⟨rfl, hr, ho⟩
/-- The slice behind the first s of some writes. -/
def nextO (a : Option Addr) (cap s : Nat) : Option Addr := if cap = s then a else a.map (·.add (s * 2))
theorem size2 (w : World) : (sizeOf 40).run Try.prog w = .ok 2 w := by
  obtain ⟨i0, hi, _, hz1, _⟩ := info_parts Try.opInfo
  simp [sizeOf, typeInfo, hi, hz1]
theorem sl_tailO (a : Option Addr) (len cap s : Nat) (h : s ≤ len) (w : World) : (Instr.slice 34 (.slice a len cap) (some (.int .i64 s)) none none).run Try.prog w = .ok (.slice (nextO a cap s) (len - s) (cap - s)) w := by
  have hi : (asIntOf (.int .i64 s)).run Try.prog w = .ok (.i64, (s : Int)) w := rfl
  simp only [Instr.slice, Sem.run_bind, run_underlying Try.underlyingOps, Result.andThen_ok, size2]
  simp [Instr.sliceBounds, Instr.sliceBound, Sem.run_bind, Sem.run_pure, hi, h, nextO]
theorem fit_tailO {y : Option Addr} {m c f : Nat} (h : Fit y m c) (hf : f ≤ m) : Fit (nextO y c f) (m - f) (c - f) := by
  obtain ⟨h1, h2, h3⟩ := h
  refine ⟨by omega, by omega, fun e => ?_⟩
  unfold nextO at e
  split at e
  · obtain ⟨rfl, rfl⟩ := h3 e
    omega
  · cases y with
    | none =>
      obtain ⟨rfl, rfl⟩ := h3 rfl
      omega
    | some a => simp at e
theorem OpRow.tail {G G' : Nat → Prop} {w : World} {y : Option Addr} {m c f : Nat} {T : List (Int × List Int)} (h : OpRow G w (.slice y m c) T) {T0 T1 : List (Int × List Int)} (hT : T = T0 ++ T1) (hf : T0.length = f) (h1 : ∀ k, (Value.slice y m c).ownBlock = some k → G' k) (h2 : ∀ k, G k → G' k) : TIn G' w (nextO y c f) (m - f) T1 := by
  obtain ⟨y', c', e, hc, _, _⟩ := h.is
  simp only [Value.slice.injEq] at e
  obtain ⟨-, hm, rfl⟩ := e
  have hl : T.length = f + T1.length := by rw [hT, List.length_append, hf]
  refine ⟨by omega, fun hpos => ?_⟩
  obtain ⟨g, cap, c0, hv, hgl, hat, hc0, hc1⟩ := op_cells h f (by omega)
  simp only [Value.slice.injEq] at hv
  obtain ⟨rfl, -, -⟩ := hv
  refine ⟨g, f * 2, ?_, hgl, h1 g (by simp [Value.ownBlock]), fun i hi => ?_⟩
  · rw [nextO, if_neg (by omega), Option.map_some, add_plain', Nat.zero_add]
  · obtain ⟨g', cap', c1, hv, _, hat, hd0, hd1⟩ := op_cells h (f + i) (by omega)
    simp only [Value.slice.injEq, Option.some.injEq, Addr.mk.injEq] at hv
    rw [← hv.1.1] at hd0 hd1
    have e : T.getD (f + i) (0, []) = T1.getD i (0, []) := by
      rw [hT, List.getD_eq_getElem?_getD, List.getElem?_append_right (by omega), hf, Nat.add_sub_cancel_left, ← List.getD_eq_getElem?_getD]
    rw [e] at hat hd0 hd1
    rw [show f * 2 + i * 2 = (f + i) * 2 from by omega]
    exact ⟨hd0, c1.1, c1.2, hd1, hat.s.mono (fun k _ hk => h2 k hk), hat.f.1, hat.f.2.1, hat.f.2.2, hat.b⟩
theorem iwait (FB : Nat → Prop) (b g : Nat) (p : Option Addr) (vD : Value) (f : Nat) (st : SsdSt) (w : World) (h : DvAt FB w b g p vD f st) :
    Calls Try.prog 26 #[.pointer (some ⟨b, 0, none⟩)] w fun e w' => ∃ z cz, e = .returned (.slice z st.Wt.length cz) ∧ Fit z st.Wt.length cz ∧ TIn (fun k => vD.ownBlock = some k ∨ FB k) w' z st.Wt.length (wOps st.Wt) ∧ Clean w w' := by
  obtain ⟨T0, hT, hTl⟩ := h.tl
  obtain ⟨y, c, rfl, hf⟩ : ∃ y c, vD = .slice y st.T.length c ∧ Fit y st.T.length c := h.ops.is
  have ht := h.ops.tail (G' := fun k => (Value.slice y st.T.length c).ownBlock = some k ∨ FB k) hT hTl (fun k hk => Or.inl hk) (fun k hk => Or.inr hk)
  have hl : st.T.length = f + st.Wt.length := by rw [hT, List.length_append, hTl, wOps_len]
  rw [show st.Wt.length = st.T.length - f from by omega]
  have ht0 : TIn (fun k => (Value.slice y st.T.length c).ownBlock = some k ∨ FB k) w (nextO y c f) (st.T.length - f) (wOps st.Wt) := ht
  clear ht
  have ht := ht0
  clear ht0
  have hfm : f ≤ st.T.length := by omega
  clear hl hT hTl
  generalize hm : st.T.length = m at *
  have hbx : DvBox w b g st.B.length p (.slice y m c) f := h.box
  clear hm
  go_enter Try.func26, Try.ntmps26
  go_wp2_with fail
  refine startX (S := fun w' => Below w.heap.size w w') 9 (by kernel_rfl) (Below.refl _ _).drew (fun hHeld => ?_)
  refine moveY 0 3 0 rfl rfl rfl (by kernel_rfl) (by kernel_rfl) (by kernel_rfl) (fun _ _ _ h => h) (by rfl) (by kernel_rfl) (by kernel_rfl) (by decide) hHeld rfl ?_
  simp only [List.set_cons_succ, List.set_cons_zero]
  refine takeY 1 4 (v := ?_) rfl rfl (by kernel_rfl) (by kernel_rfl) (by kernel_rfl) (fun _ _ _ h => h) (by rfl) (by kernel_rfl) (by kernel_rfl) (by decide) hHeld (fun w hSw => ?_) ?_
  rotate_left 1
  · (try dsimp only at hSw)
    clear hSw
    go_simp
    try with_reducible rfl
  simp only [List.set_cons_succ, List.set_cons_zero]
  refine takeY 2 5 (v := ?_) rfl rfl (by kernel_rfl) (by kernel_rfl) (by kernel_rfl) (fun _ _ _ h => h) (by rfl) (by kernel_rfl) (by kernel_rfl) (by decide) hHeld (fun w hSw => ?_) ?_
  rotate_left 1
  · (try dsimp only at hSw)
    clear hSw
    go_simp
    try with_reducible rfl
  simp only [List.set_cons_succ, List.set_cons_zero]
  refine takeY 3 6 (v := ?_) rfl rfl (by kernel_rfl) (by kernel_rfl) (by kernel_rfl) (fun _ _ _ h => h) (by rfl) (by kernel_rfl) (by kernel_rfl) (by decide) hHeld (fun w hSw => ?_) ?_
  rotate_left 1
  · (try dsimp only at hSw)
    have e0_ := (CBox.cell (CBox.grown h.box hSw) 2)
    clear hSw
    go_simp
    try with_reducible rfl
  simp only [List.set_cons_succ, List.set_cons_zero]
  refine moveY 4 7 0 rfl rfl rfl (by kernel_rfl) (by kernel_rfl) (by kernel_rfl) (fun _ _ _ h => h) (by rfl) (by kernel_rfl) (by kernel_rfl) (by decide) hHeld rfl ?_
  simp only [List.set_cons_succ, List.set_cons_zero]
  refine takeY 5 8 (v := ?_) rfl rfl (by kernel_rfl) (by kernel_rfl) (by kernel_rfl) (fun _ _ _ h => h) (by rfl) (by kernel_rfl) (by kernel_rfl) (by decide) hHeld (fun w hSw => ?_) ?_
  rotate_left 1
  · (try dsimp only at hSw)
    clear hSw
    go_simp
    try with_reducible rfl
  simp only [List.set_cons_succ, List.set_cons_zero]
  refine takeY 6 9 (v := ?_) rfl rfl (by kernel_rfl) (by kernel_rfl) (by kernel_rfl) (fun _ _ _ h => h) (by rfl) (by kernel_rfl) (by kernel_rfl) (by decide) hHeld (fun w hSw => ?_) ?_
  rotate_left 1
  · (try dsimp only at hSw)
    clear hSw
    go_simp
    try with_reducible rfl
  simp only [List.set_cons_succ, List.set_cons_zero]
  refine takeY 7 10 (v := ?_) rfl rfl (by kernel_rfl) (by kernel_rfl) (by kernel_rfl) (fun _ _ _ h => h) (by rfl) (by kernel_rfl) (by kernel_rfl) (by decide) hHeld (fun w hSw => ?_) ?_
  rotate_left 1
  · (try dsimp only at hSw)
    have e0_ := (CBox.cell (CBox.grown h.box hSw) 3)
    clear hSw
    go_simp
    try with_reducible rfl
  simp only [List.set_cons_succ, List.set_cons_zero]
  refine takeY 8 11 (v := ?_) rfl rfl (by kernel_rfl) (by kernel_rfl) (by kernel_rfl) (fun _ _ _ h => h) (by rfl) (by kernel_rfl) (by kernel_rfl) (by decide) hHeld (fun w hSw => ?_) ?_
  rotate_left 1
  · (try dsimp only at hSw)
    have e0_ := sl_tailO y m c f hfm
    clear hSw
    go_simp
    try with_reducible rfl
  simp only [List.set_cons_succ, List.set_cons_zero]
  refine onlyX 9 rfl (by kernel_rfl) (by rfl) (fun K hK => ?_)
  go_wp2
  refine hK.out _ _ (fun h => absurd rfl h) (fun _ => ?_)
  clear hK K hHeld
  refine doneX (by kernel_rfl) ?_ _
  go_wp2
  go_ret
  exact ⟨_, _, rfl, fit_tailO hf hfm, ht.off (F := fun _ => False) (Off.refl _ w).drew (fun _ _ _ h => h), (Clean.refl _).drew⟩
end Go.Proofs.Ytcpplfclpigmkaa
