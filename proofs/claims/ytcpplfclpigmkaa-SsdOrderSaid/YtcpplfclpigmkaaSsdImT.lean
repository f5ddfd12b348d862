/- The landed device: Trace. -/
import Derived.Test.YtcpplfclpigmkaaSsdImE
import Derived.Deep.Matrix
namespace Go.Proofs.Ytcpplfclpigmkaa
open Go.RowKit
set_option maxRecDepth 20000

theorem make_ops (n : Nat) (hn : n ≤ 100000) : ∃ M : Array Value, M.size = n * 2 ∧ ∀ w : World, (Instr.makeSlice 34 (.int .i64 (n : Int)) (.int .i64 (n : Int))).run Try.prog w = .ok (.slice (some ⟨w.heap.size, 0, none⟩) n n) (w.alloc (.cells M 40)) := by
  obtain ⟨i0, hi, hz0, hz1, hz2⟩ := info_parts Try.opInfo
  obtain ⟨z, hz⟩ : ∃ z, i0.zero = some z := ⟨_, hz0⟩
  refine ⟨madeCells z.cells (n * 2), size_madeCells _ _, fun w => ?_⟩
  have hr := run_make (P := Try.prog) w 34 40 i0 z Try.underlyingOps hi hz .i64 .i64 n n (by omega) (Int.le_refl _) (by rw [hz2]; omega) (by omega)
  rw [hz1] at hr
  exact hr
set_option maxRecDepth 10000 in
set_option maxHeartbeats 4000000 in
theorem itrace (p : Option Addr) (F : Nat → Prop) (v : Value) (st : SsdSt) (hT : st.T.length ≤ 100000) (w : World) (hD : DvInv p F w v st) :
    Calls Try.prog 16 #[v] w fun e w' => ∃ z cz F', e = .returned (.slice z st.T.length cz) ∧ KeptG (DvInv p) F w v F' w' st ∧ TIn (NewOf w F') w' z st.T.length st.T ∧ Fit z st.T.length cz ∧ Soft w w' := by
  have HLT := hide' ((dvbase p).lt hD)
  have HK := hide' (fun w' => (dvbase p).kept (w' := w') hD)
  obtain ⟨b, g, FB, vD, f, rfl, hX, -⟩ := hD
  have hA := hX.ops
  obtain ⟨L, HLL⟩ : ∃ L, Hid (st.T = L) := ⟨_, rfl⟩
  have HB : Hid (∀ o ∈ L, o.2.length ≤ 100000) := hide' (fun o ho => by have := hX.ob o (HLL.out ▸ ho); omega)
  rw [HLL.out] at hA hT ⊢
  obtain ⟨n, HN⟩ : ∃ n, Hid (L.length = n) := ⟨_, rfl⟩
  rw [HN.out] at hT ⊢
  have HNL := hide' hT
  obtain ⟨M, hM, hmk⟩ := make_ops n hT
  clear hT
  obtain ⟨y, c, hvD, -⟩ : ∃ y c, vD = .slice y L.length c ∧ Fit y L.length c := hA.is
  rw [HN.out] at hvD
  subst hvD
  have k2 : w.cell? ⟨b, 2, none⟩ = some (.slice y n c) := CBox.cell hX.box 2
  have hb : Below w.heap.size w (w.alloc (.cells M 40)) := (Below.refl _ _).alloc (Nat.le_refl _) _
  have k3 : (w.alloc (.cells M 40)).cell? ⟨b, 2, none⟩ = some (.slice y n c) := CBox.cell (CBox.grown hX.box hb) 2
  have row0 := World.rowIs_alloc w M 40 (fun i => M[i]?.getD undef) (fun i hi => by simp [hi])
  rw [hM] at row0
  have hc0 : Clean w (w.alloc (.cells M 40)) := (Clean.refl w).alloc _ _
  clear hX
  go_enter Try.func16, Try.ntmps16
  go_wp2_with fail
  clear hmk hb k2 k3
  generalize hAA : w.heap.size = A at *
  have hAw : w.heap.size ≤ A := by omega
  generalize w.alloc (.cells M 40) = w1 at *
  go_loopw [19] (fun i wr => ∃ (k : Nat) (f : Nat → Value), k ≤ n ∧ i = .int .i64 (k : Int) ∧ wr.rowIs A 40 (n * 2) f ∧ Hid (∀ i, i < k → ∃ c, OpAt (fun q => A ≤ q ∧ q ≠ A) wr (L.getD i (0, [])) c ∧ f (i * 2) = .int .i64 (L.getD i (0, [])).1 ∧ f (i * 2 + 1) = .slice c.1 (L.getD i (0, [])).2.length c.2) ∧ Clean w wr) (fun i _ => n - (intOf i).toNat)
  case atStart => exact ⟨0, _, Nat.zero_le _, rfl, row0, hide' (fun i hi => absurd hi (by omega)), hc0⟩
  case round =>
    clear row0 hc0
    obtain ⟨k, f, hk, rfl, row, HI, hC⟩ := hrel
    by_cases hlt : k < n
    · have hops := hA.off (Off.of_below (F := fun _ => False) hC.b) (fun _ _ h => h) (fun _ _ _ h => h)
      obtain ⟨g, cap, c0, e, hgl, hat, hd0, hd1⟩ := op_cells hops k (by rw [HN.out]; exact hlt)
      simp only [Value.slice.injEq] at e
      obtain ⟨rfl, -, rfl⟩ := e
      obtain ⟨⟨off, ys⟩, HZ⟩ : ∃ z, Hid (L.getD k (0, []) = z) := ⟨_, rfl⟩
      rw [HZ.out] at hat hd0 hd1
      obtain ⟨z, cz⟩ := c0
      obtain ⟨yn, HY⟩ : ∃ yn, Hid (ys.length = yn) := ⟨_, rfl⟩
      have hs : SIn FB wr z yn ys := HY.out ▸ hat.s
      have fz : Fit z yn cz := HY.out ▸ hat.f
      have bys : Bytes ys := hat.b
      have HYL : Hid (yn ≤ 100000) := hide' (by
        have := HB.out (off, ys) (by
          rw [← HZ.out, List.getD_eq_getElem?_getD, List.getElem?_eq_getElem (by rw [HN.out]; exact hlt), Option.getD_some]
          exact List.getElem_mem _)
        have h2 : ys.length ≤ 100000 := this
        rw [HY.out] at h2
        exact h2)
      have c0 : wr.cell? ⟨g, k * 2, none⟩ = some (.int .i64 off) := hd0
      have c1 : wr.cell? ⟨g, k * 2 + 1, none⟩ = some (.slice z yn cz) := HY.out ▸ hd1
      clear hd0 hd1 hat hops
      have hw : IntKind.i64.wrap ((k : Int) + 1) = (k : Int) + 1 := by
        have := HNL.out
        rw [IntKind.wrap_i64]
        omega
      have hB : CBox 40 (wr.alloc (.cells #[.int .i64 off, .slice z yn cz] 40)) wr.heap.size #[.int .i64 off, .slice z yn cz] := CBox.new _ _ _
      have hb : Below wr.heap.size wr (wr.alloc (.cells #[.int .i64 off, .slice z yn cz] 40)) := (Below.refl _ _).alloc (Nat.le_refl _) _
      have hAr := row.lt
      go_wp2_with fail
      clear c0 c1
      replace hs := hs.off (Off.of_below (F := fun _ => False) hb) (fun _ _ _ h => h)
      replace row := row.of_block (hb.block _ hAr)
      replace HI : Hid (∀ i, i < k → ∃ c, OpAt (fun q => A ≤ q ∧ q ≠ A) (wr.alloc (.cells #[.int .i64 off, .slice z yn cz] 40)) (L.getD i (0, [])) c ∧ f (i * 2) = .int .i64 (L.getD i (0, [])).1 ∧ f (i * 2 + 1) = .slice c.1 (L.getD i (0, [])).2.length c.2) := hide' (fun i hi => by
        obtain ⟨c, h1, h2⟩ := HI.out i hi
        exact ⟨c, h1.off (Off.of_below (F := fun _ => False) hb) (fun _ _ _ h => h), h2⟩)
      replace hC := hC.alloc #[.int .i64 off, .slice z yn cz] 40
      clear hb
      generalize wr.alloc (.cells #[.int .i64 off, .slice z yn cz] 40) = wq at *
      have hAq : A < wq.heap.size := row.lt
      refine startX (S := fun w' => Below wq.heap.size wq w') 9 (by kernel_rfl) (Below.refl _ _).drew (fun hHeld => ?_)
      refine moveY 0 24 3 rfl rfl rfl (by kernel_rfl) (by kernel_rfl) (by kernel_rfl) (fun _ _ _ h => h) (by rfl) (by kernel_rfl) (by kernel_rfl) (by decide) hHeld rfl ?_
      simp only [List.set_cons_succ, List.set_cons_zero]
      refine moveY 1 25 4 rfl rfl rfl (by kernel_rfl) (by kernel_rfl) (by kernel_rfl) (fun _ _ _ h => h) (by rfl) (by kernel_rfl) (by kernel_rfl) (by decide) hHeld rfl ?_
      simp only [List.set_cons_succ, List.set_cons_zero]
      refine takeY 2 26 (v := ?_) rfl rfl (by kernel_rfl) (by kernel_rfl) (by kernel_rfl) (fun _ _ _ h => h) (by rfl) (by kernel_rfl) (by kernel_rfl) (by decide) hHeld (fun w hSw => ?_) ?_
      rotate_left 1
      · (try dsimp only at hSw)
        clear hSw
        go_simp
        try with_reducible rfl
      simp only [List.set_cons_succ, List.set_cons_zero]
      refine takeY 3 27 (v := ?_) rfl rfl (by kernel_rfl) (by kernel_rfl) (by kernel_rfl) (fun _ _ _ h => h) (by rfl) (by kernel_rfl) (by kernel_rfl) (by decide) hHeld (fun w hSw => ?_) ?_
      rotate_left 1
      · (try dsimp only at hSw)
        have hx_ := CBox.grown hB hSw
        have e0_ : w.cell? ⟨wr.heap.size, 0, none⟩ = _ := CBox.cell hx_ 0
        clear hx_
        clear hSw
        go_simp
        try with_reducible rfl
      simp only [List.set_cons_succ, List.set_cons_zero]
      refine takeY 4 28 (v := ?_) rfl rfl (by kernel_rfl) (by kernel_rfl) (by kernel_rfl) (fun _ _ _ h => h) (by rfl) (by kernel_rfl) (by kernel_rfl) (by decide) hHeld (fun w hSw => ?_) ?_
      rotate_left 1
      · (try dsimp only at hSw)
        clear hSw
        go_simp
        try with_reducible rfl
      simp only [List.set_cons_succ, List.set_cons_zero]
      refine takeY 5 29 (v := ?_) rfl rfl (by kernel_rfl) (by kernel_rfl) (by kernel_rfl) (fun _ _ _ h => h) (by rfl) (by kernel_rfl) (by kernel_rfl) (by decide) hHeld (fun w hSw => ?_) ?_
      rotate_left 1
      · (try dsimp only at hSw)
        have hx_ := CBox.grown hB hSw
        have e0_ : w.cell? ⟨wr.heap.size, 1, none⟩ = _ := CBox.cell hx_ 1
        clear hx_
        clear hSw
        go_simp
        try with_reducible rfl
      simp only [List.set_cons_succ, List.set_cons_zero]
      refine onlyX 6 rfl (by kernel_rfl) (by rfl) (fun K hK => ?_)
      go_wp2_with fail
      refine (iclone z yn cz ys HYL.out fz.2.2 _ hs.sat.drew).mono ?_
      rintro e w3 ⟨v3, rfl, own3, hc3⟩
      have hc : Clean wq w3 := (Clean.refl wq).drew.trans hc3
      replace own3 : w3.ownsRow wq.heap.size 5 1 v3 yn (ys.map (Value.int .u8)) := own3
      refine hK.out _ _ (fun _ => hc.b) (fun hHeld => ?_)
      replace hHeld := hHeld (by decide)
      clear hK K hc3
      obtain ⟨z3, c3, rfl, sz, hn3, hm3, hz3⟩ := own_sin HY.out own3
      have oz := own_block own3
      refine onlyX 7 rfl (by kernel_rfl) (by rfl) (fun K hK => ?_)
      go_wp2
      refine hK.out _ _ (fun _ => hc.b) (fun hHeld => ?_)
      replace hHeld := hHeld (by decide)
      clear hK K
      refine takeY 8 32 (v := ?_) rfl rfl (by kernel_rfl) (by kernel_rfl) (by kernel_rfl) (fun _ _ _ h => h) (by rfl) (by kernel_rfl) (by kernel_rfl) (by decide) hHeld (fun w hSw => ?_) ?_
      rotate_left 1
      · (try dsimp only at hSw)
        clear hSw
        go_simp
        try with_reducible rfl
      simp only [List.set_cons_succ, List.set_cons_zero]
      clear hHeld
      replace row := row.of_block (hc.b.block _ row.lt)
      have l0 := row.cell (i := k * 2) (by omega)
      have l1 := row.cell (i := k * 2 + 1) (by omega)
      have q0 := row.frozen (k * 2)
      have q1 := row.frozen (k * 2 + 1)
      refine onlyX 9 rfl (by kernel_rfl) (by rfl) (fun K hK => ?_)
      go_wp2_with fail
      clear l0 l1 q0 q1
      refine hK.out _ _ (fun h => absurd rfl h) (fun _ => ?_)
      clear hK K
      refine doneX (by kernel_rfl) ?_ _
      have row9 := (row.set (k * 2) (.int .i64 off)).set (k * 2 + 1) (.slice z3 yn c3)
      have hof : Off (fun k => k = A) w3 ((w3.setCell ⟨A, k * 2, none⟩ (.int .i64 off)).setCell ⟨A, k * 2 + 1, none⟩ (.slice z3 yn c3)) := Off.setCell (F := fun k => k = A) (p := ⟨A, k * 2 + 1, none⟩) (Off.setCell (F := fun k => k = A) (p := ⟨A, k * 2, none⟩) (Off.refl _ w3) (Or.inl rfl) _) (Or.inl rfl) _
      have hc0 : Clean w w3 := hC.trans hc
      have hc9 : Clean w ((w3.setCell ⟨A, k * 2, none⟩ (.int .i64 off)).setCell ⟨A, k * 2 + 1, none⟩ (.slice z3 yn c3)) := (hc0.setCell (p := ⟨A, k * 2, none⟩) hAw _).setCell (p := ⟨A, k * 2 + 1, none⟩) hAw _
      generalize ((w3.setCell ⟨A, k * 2, none⟩ (.int .i64 off)).setCell ⟨A, k * 2 + 1, none⟩ (.slice z3 yn c3)) = w9 at *
      go_wp2
      go_roundw
      case rel =>
        refine ⟨k + 1, _, by omega, by go_num, row9, hide' (fun i hi => ?_), hc9⟩
        by_cases e : i = k
        · subst e
          rw [HZ.out]
          refine ⟨(z3, c3), ⟨?_, ?_, bys⟩, ?_, ?_⟩
          · show SIn _ _ z3 ys.length ys
            rw [HY.out]
            exact (sz.off hof (fun q _ hq e => by have := oz q hq; omega)).mono (fun q _ hq => by have := oz q hq; omega)
          · show Fit z3 ys.length c3
            rw [HY.out]
            exact ⟨hn3, hm3, hz3⟩
          · (try dsimp only)
            rw [if_neg (by omega), if_pos rfl]
          · show _ = Value.slice z3 ys.length c3
            rw [HY.out]
            (try dsimp only)
            rw [if_pos rfl]
        · obtain ⟨c0, h1, h2, h3⟩ := HI.out i (by omega)
          refine ⟨c0, (h1.off (Off.of_below (F := fun _ => False) hc.b) (fun _ _ _ h => h)).off hof (fun q _ hq e => hq.2 e), ?_, ?_⟩
          · rw [← h2]
            (try dsimp only)
            rw [if_neg (by omega), if_neg (by omega)]
          · rw [← h3]
            (try dsimp only)
            rw [if_neg (by omega), if_neg (by omega)]
      case measure => simp [intOf]; omega
    · obtain rfl : k = n := by omega
      go_wp2
      go_ret
      have hAF : ¬ F A := fun h => by have := HLT.out A h; omega
      have hFA : ∀ q, A ≤ q → ¬ F q := fun q hq h => by have := HLT.out q h; omega
      have hti : TIn (NewOf w F) wr (some ⟨A, 0, none⟩) k L := by
        refine ⟨HN.out, fun _ => ⟨A, 0, rfl, row.lt, ⟨by omega, hAF⟩, fun i hi => ?_⟩⟩
        obtain ⟨c, h1, h2, h3⟩ := HI.out i hi
        rw [Nat.zero_add]
        refine ⟨?_, c.1, c.2, ?_, h1.s.mono (fun q _ hq => ⟨by omega, hFA q hq.1⟩), h1.f.1, h1.f.2.1, h1.f.2.2, h1.b⟩
        · rw [row.cell (by omega), h2]
        · rw [row.cell (by omega), h3]
      refine ⟨_, _, F, rfl, HK.out _ (hAA ▸ hC.b), hti, ⟨Nat.le_refl _, (show k ≤ maxLen from by have := HNL.out; unfold maxLen; omega), fun e => by cases e⟩, fun q i hq => hC.f q i (by omega)⟩
end Go.Proofs.Ytcpplfclpigmkaa
