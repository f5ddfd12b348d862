/- What wire.Bytes comes to. -/
import Derived.Test.YtbekiajnkmlokaaPair
import Derived.Laws.CopyOwn
namespace Go.Proofs.Ytbekiajnkmlokaa
open Go.RowKit

/-- Block g is a row of these bytes, none frozen. -/
def Row (w : World) (g : Nat) (cur : List Int) : Prop := w.heap[g]? = some (.cells (cur.map (Value.int .u8)).toArray 5 (0, 0))
theorem Row.at {w : World} {g : Nat} {cur : List Int} (h : Row w g cur) : At w g 0 cur := by
  intro i hi
  unfold Row at h
  simp [World.cell?, h, hi]
theorem Row.lt {w : World} {g : Nat} {cur : List Int} (h : Row w g cur) : g < w.heap.size := by
  obtain ⟨hlt, _⟩ := Array.getElem?_eq_some_iff.1 h
  exact hlt
theorem Row.below {w w' : World} {B g : Nat} {cur : List Int} (h : Row w g cur) (hb : Below B w w') (hB : g < B) : Row w' g cur := (hb.block g hB).trans h
theorem Row.made (w : World) (n : Nat) : Row (w.alloc (.cells (madeCells #[.int .u8 0] n) 5)) w.heap.size (List.replicate n 0) := by
  unfold Row
  have e : (w.alloc (.cells (madeCells #[.int .u8 0] n) 5)).heap[w.heap.size]? = some (.cells (madeCells #[.int .u8 0] n) 5) := by
    show (w.heap.push _)[w.heap.size]? = _
    simp
  rw [e, List.map_replicate, ← toList_madeCells_one]
theorem splice_map (L cs : List Int) (off : Nat) (f : Int → Value) : splice (L.map f) off (cs.map f) = (splice L off cs).map f := by
  simp [splice]

/-- copy of n bytes into a row of the call's own. -/
theorem wp_copy {o : Oper} {a : Act} {w : World} {K : Act → World → Prop} {Q : Exit → Act → World → Prop} (hgd : o.guard = none) (d s : Operand)
    (ho : o.op = .call { callee := .builtin .copy, args := #[d, s], argTypes := #[23, 23] }) (g off dCap n b so sCap : Nat)
    (hd : a.eval d = .slice (some ⟨g, off, none⟩) n dCap) (hs : a.eval s = .slice (some ⟨b, so, none⟩) n sCap) (cur xs : List Int)
    (hg : Row w g cur) (hn : xs.length = n) (hat : At w b so xs) (hfit : off + n ≤ cur.length) (B : Nat) (w0 : World) (hb : Below B w0 w) (hBg : B ≤ g)
    (h : ∀ w', Row w' g (splice cur off xs) → Below B w0 w' → K (a.put o.dst (goInt n)) w') : Oper.wp Try.prog o a w K Q := by
  have hw : Region.wanted o (yielded #[] a.tmps) = true := by simp [Region.wanted, hgd]
  have e : (xs.map (Value.int .u8)).length = n := by simp [hn]
  have := step_copy_splice (P := Try.prog) (ops := #[]) (o := o) (a := a) (w := w) (K := K) (Q := Q) (E := False) hgd d s 23 23 ho 5 Try.underlying23 (by kernel_rfl) (some ⟨g, off, none⟩) (some ⟨b, so, none⟩) n dCap n sCap hd hs g off
    (cur.map (Value.int .u8)) 5 hg (xs.map (Value.int .u8)) (by rw [e]; simp) (fun _ => ⟨rfl, _, rfl, fun j v hj => by
      have hj' : j < xs.length := by
        rcases Nat.lt_or_ge j xs.length with h | h
        · exact h
        · simp [List.getElem?_eq_none (show (xs.map (Value.int .u8)).length ≤ j by simpa using h)] at hj
      have hplain : (⟨b, so, none⟩ : Addr).add j = ⟨b, so + j, none⟩ := by unfold Addr.add; split <;> simp_all
      rw [hplain, hat j hj']
      simp [List.getElem?_eq_getElem hj'] at hj
      simp [← hj, List.getElem?_eq_getElem hj']⟩) (by rw [e]; simpa using hfit) (fun v hv => by
      obtain ⟨x, _, rfl⟩ := List.mem_map.1 hv
      rfl) B w0 hb hBg (fun w' hr hb' => by
      rw [e]
      refine h w' ?_ hb'
      have := hr.out
      rw [splice_map] at this
      exact this)
  rw [if_pos hw] at this
  exact this

theorem make16 (w : World) : (Instr.makeSlice 23 (.int .i64 16) (.int .i64 16)).run Try.prog w = .ok (.slice (some ⟨w.heap.size, 0, none⟩) 16 16) (w.alloc (.cells (madeCells #[.int .u8 0] 16) 5)) :=
  run_make_row' (P := Try.prog) 23 5 (.int .u8 0) 1 Try.underlying23 Try.info5 rfl .i64 .i64 16 (by decide) (by decide) w

theorem splice_two (A B : Nat) : splice (splice (List.replicate 16 0) 0 (putL A 8)) 8 (putL B 8) = putL A 8 ++ putL B 8 := by
  have hA := putL_length A 8
  have hB := putL_length B 8
  unfold splice
  rw [hA, hB, List.take_zero, List.nil_append, List.take_left' hA, List.drop_eq_nil_of_le (by simp [hA]), List.append_nil]

set_option maxHeartbeats 1000000 in
theorem bytes_any (A B : Nat) (w : World) :
    Calls Try.prog 16 #[.agg #[.int .u64 A, .int .u64 B]] w fun e w' => ∃ g, e = .returned (.slice (some ⟨g, 0, none⟩) 16 16) ∧ w.heap.size ≤ g ∧ Row w' g (putL A 8 ++ putL B 8) ∧ Below w.heap.size w w' := by
  have hmk := make16
  go_enter Try.func16, Try.ntmps16
  go_wp2
  have hRow := Row.made (w.alloc (.cells #[.int .u64 A, .int .u64 B] 32)) 16
  rw [World.size_alloc] at hRow
  obtain ⟨W0, hW0⟩ : ∃ W0, W0 = (w.alloc (.cells #[.int .u64 A, .int .u64 B] 32)).alloc (.cells (madeCells #[.int .u8 0] 16) 5) := ⟨_, rfl⟩
  have hB : Below w.heap.size w W0 := by rw [hW0]; go_grown
  have hB1 : Below (w.heap.size + 1) (w.alloc (.cells #[.int .u64 A, .int .u64 B] 32)) W0 := by rw [hW0]; exact (Below.refl _ _).alloc (by simp) _
  have hc0 : W0.cell? ⟨w.heap.size, 0, none⟩ = some (.int .u64 A) := (hB1.cell (p := ⟨w.heap.size, 0, none⟩) (by simp)).trans (by simp)
  have hc1 : W0.cell? ⟨w.heap.size, 1, none⟩ = some (.int .u64 B) := (hB1.cell (p := ⟨w.heap.size, 1, none⟩) (by simp)).trans (by simp)
  rw [← hW0] at hRow ⊢
  have hsz1 := hRow.lt
  clear hW0 hB1 hmk
  refine wp_region_held_drew (S := fun w' => w'.cell? ⟨w.heap.size, 0, none⟩ = some (.int .u64 A)) (by kernel_rfl) (hc0) (fun hHeld => ?_)
  refine takeM 0 5 3 rfl rfl rfl (by kernel_rfl) (by kernel_rfl) (by kernel_rfl) (fun _ _ _ h => h) (by rfl) hHeld rfl ?_
  simp only [List.set_cons_succ, List.set_cons_zero]
  refine takeL 1 6 (v := ?_) rfl rfl (by kernel_rfl) (by kernel_rfl) (by kernel_rfl) (fun _ _ _ h => h) (by rfl) hHeld (fun w hSw => ?_) ?_
  rotate_left 1
  · (try dsimp only at hSw); go_simp; try with_reducible rfl
  simp only [List.set_cons_succ, List.set_cons_zero]
  refine takeL 2 7 (v := ?_) rfl rfl (by kernel_rfl) (by kernel_rfl) (by kernel_rfl) (fun _ _ _ h => h) (by rfl) hHeld (fun w hSw => ?_) ?_
  rotate_left 1
  · (try dsimp only at hSw); go_simp; try with_reducible rfl
  simp only [List.set_cons_succ, List.set_cons_zero]
  refine takeL 3 8 (v := ?_) rfl rfl (by kernel_rfl) (by kernel_rfl) (by kernel_rfl) (fun _ _ _ h => h) (by rfl) hHeld (fun w hSw => ?_) ?_
  rotate_left 1
  · (try dsimp only at hSw); go_simp; try with_reducible rfl
  simp only [List.set_cons_succ, List.set_cons_zero]
  refine onlyL 4 rfl (by kernel_rfl) (by rfl) (fun K hK => ?_)
  go_wp2_with fail
  refine (put_some A 8 _ (by decide) (by decide)).mono ?_
  rintro e w1 ⟨rfl, ha1, hb1, hz1⟩
  simp only [World.size_drew] at ha1 hb1 hz1
  refine hK.out _ _ ((hb1.cell (p := ⟨w.heap.size, 0, none⟩) (by simp only; omega)).trans hc0) (fun hHeld => ?_)
  clear hK K
  refine onlyL 5 rfl (by kernel_rfl) (by rfl) (fun K hK => ?_)
  refine wp_copy rfl (.tmp 6) (.tmp 9) rfl (w.heap.size + 1) 0 16 8 _ 0 8 rfl rfl (List.replicate 16 0) (putL A 8) (hRow.below ((Below.refl _ _).drew.trans hb1) hsz1) (putL_length _ _) ha1 (by simp) (w.heap.size + 1) W0 ((Below.refl _ _).drew.trans (hb1.mono (by omega))) (Nat.le_refl _) (fun w2 hR2 hBe2 => ?_)
  have hc1' : w2.cell? ⟨w.heap.size, 1, none⟩ = some (.int .u64 B) := (hBe2.cell (p := ⟨w.heap.size, 1, none⟩) (by simp only; omega)).trans hc1
  have hlt2 := hR2.lt
  refine hK.out _ _ ((hBe2.cell (p := ⟨w.heap.size, 0, none⟩) (by simp only; omega)).trans hc0) (fun hHeld => ?_)
  clear hK K ha1 hb1 hz1 hc0 hc1 hRow
  have eP : ∀ (t : List Value) (d : List Deferred) (v : Value), Act.put ⟨t.toArray, d⟩ (some 10) v = ⟨(t.set 10 v).toArray, d⟩ := fun t d v => by simp [Act.put]
  refine wpAnyH_done (by kernel_rfl) ?_ _
  go_wp2
  refine wp_region_held_drew (S := fun w' => w'.cell? ⟨w.heap.size, 1, none⟩ = some (.int .u64 B)) (by kernel_rfl) (hc1') (fun hHeld => ?_)
  refine takeM 0 11 3 rfl rfl rfl (by kernel_rfl) (by kernel_rfl) (by kernel_rfl) (fun _ _ _ h => h) (by rfl) hHeld rfl ?_
  simp only [List.set_cons_succ, List.set_cons_zero]
  refine takeL 1 12 (v := ?_) rfl rfl (by kernel_rfl) (by kernel_rfl) (by kernel_rfl) (fun _ _ _ h => h) (by rfl) hHeld (fun w hSw => ?_) ?_
  rotate_left 1
  · (try dsimp only at hSw); go_simp; try with_reducible rfl
  simp only [List.set_cons_succ, List.set_cons_zero]
  refine takeL 2 13 (v := ?_) rfl rfl (by kernel_rfl) (by kernel_rfl) (by kernel_rfl) (fun _ _ _ h => h) (by rfl) hHeld (fun w hSw => ?_) ?_
  rotate_left 1
  · (try dsimp only at hSw); go_simp; try with_reducible rfl
  simp only [List.set_cons_succ, List.set_cons_zero]
  refine takeL 3 14 (v := ?_) rfl rfl (by kernel_rfl) (by kernel_rfl) (by kernel_rfl) (fun _ _ _ h => h) (by rfl) hHeld (fun w hSw => ?_) ?_
  rotate_left 1
  · (try dsimp only at hSw); go_simp; try with_reducible rfl
  simp only [List.set_cons_succ, List.set_cons_zero]
  refine onlyL 4 rfl (by kernel_rfl) (by rfl) (fun K hK => ?_)
  go_wp2_with fail
  refine (put_some B 8 _ (by decide) (by decide)).mono ?_
  rintro e w3 ⟨rfl, ha3, hb3, hz3⟩
  simp only [World.size_drew] at ha3 hb3 hz3
  refine hK.out _ _ ((hb3.cell (p := ⟨w.heap.size, 1, none⟩) (by simp only; omega)).trans hc1') (fun hHeld => ?_)
  clear hK K
  refine onlyL 5 rfl (by kernel_rfl) (by rfl) (fun K hK => ?_)
  refine wp_copy rfl (.tmp 12) (.tmp 15) rfl (w.heap.size + 1) 8 8 8 _ 0 8 rfl rfl (splice (List.replicate 16 0) 0 (putL A 8)) (putL B 8) (hR2.below ((Below.refl _ _).drew.trans hb3) hlt2) (putL_length _ _) ha3 (by rw [length_splice _ _ _ (by simp [putL_length])]; simp) (w.heap.size + 1) W0 (hBe2.trans ((Below.refl _ _).drew.trans (hb3.mono (by omega)))) (Nat.le_refl _) (fun w4 hR4 hBe4 => ?_)
  refine hK.out _ _ ((hBe4.cell (p := ⟨w.heap.size, 1, none⟩) (by simp only; omega)).trans ((hBe2.cell (p := ⟨w.heap.size, 1, none⟩) (by simp only; omega)).symm.trans hc1')) (fun hHeld => ?_)
  clear hK K
  refine wpAnyH_done (by kernel_rfl) ?_ _
  go_wp2
  go_ret
  rw [splice_two] at hR4
  exact ⟨w.heap.size + 1, rfl, by omega, hR4, hB.trans (hBe4.mono (by omega))⟩
end Go.Proofs.Ytbekiajnkmlokaa
