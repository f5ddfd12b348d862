/- What the program's flow comes to. -/
import Derived.Test.YtkkehbebaokdmaaFloSaid
import Derived.Test.YtkkehbebaokdmaaSpkImpl
namespace Go.Proofs.Ytkkehbebaokdmaa
open Go.RowKit
set_option maxRecDepth 20000

theorem enc_p (k p : BitVec 64 × BitVec 64) (p1 p2 : Int) (hp1 : nv p.1 = p1) (hp2 : nv p.2 = p2) (w : World) :
    Calls Try.prog 67 #[.agg #[.int .u64 (nv k.1), .int .u64 (nv k.2)], .agg #[.int .u64 p1, .int .u64 p2]] w fun e w' => e = .returned (.agg #[.int .u64 (nv (enc k p).1), .int .u64 (nv (enc k p).2)]) ∧ Below w.heap.size w w' := by
  subst hp1 hp2
  exact enc_said k p w

set_option maxHeartbeats 1000000 in
theorem sub_said : SubSaid := by
  intro key n w
  have h1 := nv32_range n.1
  have h2 := nv32_range n.2.1
  go_enter Try.func53, Try.ntmps53
  go_wp2_with fail
  rw [nonP_or2 n]
  have bR := Box.new ((w.alloc (.cells #[.int .u64 (nv key.1), .int .u64 (nv key.2)] 30)).alloc (.cells #[.int .u32 (nv32 n.1), .int .u32 (nv32 n.2.1), .int .u64 (nv n.2.2)] 35)) 0 0
  have hB : Below w.heap.size w (((w.alloc (.cells #[.int .u64 (nv key.1), .int .u64 (nv key.2)] 30)).alloc (.cells #[.int .u32 (nv32 n.1), .int .u32 (nv32 n.2.1), .int .u64 (nv n.2.2)] 35)).alloc (.cells #[.int .u64 0, .int .u64 0] 30)) := by go_grown
  simp only [World.size_alloc] at bR
  refine (enc_said key (nonP n) _).mono ?_
  rintro e w1 ⟨rfl, hb1⟩
  replace bR := bR.grown hb1
  replace hB := hB.trans (hb1.mono hB.size)
  clear hb1 h1 h2
  have g0 := bR.c0
  have g1 := bR.c1
  have g2 := bR.frozen 0
  have g3 := bR.frozen 1
  go_wp2
  refine bodyPost_ret (v := .agg #[.int .u64 (nv (subP key n).1), .int .u64 (nv (subP key n).2)]) (by simp [results, Try.results53, go_sem, g0, g1, subP]) rfl ⟨rfl, ?_⟩
  exact (hB.setCell (by simp only; omega) _).setCell (by simp only; omega) _

set_option maxHeartbeats 400000 in
theorem iflow_out (sub : BitVec 64 × BitVec 64) (n : Int) (h : n < 0 ∨ 4000 < n) (w : World) : Calls Try.prog 69 #[.agg #[.int .u64 (nv sub.1), .int .u64 (nv sub.2)], .int .i64 n] w fun e w' => e = .returned (.slice none 0 0) ∧ Below w.heap.size w w' := by
  by_cases h1 : n < 0
  · clear h
    go_enter Try.func69, Try.ntmps69
    go_wp2
    go_ret
    exact ⟨rfl, by go_grown⟩
  · have h2 : 4000 < n := by omega
    clear h
    go_enter Try.func69, Try.ntmps69
    go_wp2
    go_ret
    exact ⟨rfl, by go_grown⟩

/-- A row of n bytes whose first k sixteens are filled. -/
def fillL (sub : BitVec 64 × BitVec 64) (n k : Nat) : List Int := (blk sub k ++ List.replicate n 0).take n
theorem fillL_length (sub : BitVec 64 × BitVec 64) (n k : Nat) : (fillL sub n k).length = n := by simp [fillL]
theorem fillL_zero (sub : BitVec 64 × BitVec 64) (n : Nat) : fillL sub n 0 = List.replicate n 0 := by simp [fillL, blk]
theorem fillL_done (sub : BitVec 64 × BitVec 64) (n k : Nat) (h : n ≤ 16 * k) : fillL sub n k = flowL sub n := by
  rw [fillL, List.take_append_of_le_length (by rw [blk_length]; exact h), flowL_of sub n k h]
theorem fillL_step (sub : BitVec 64 × BitVec 64) (n k : Nat) (h : 16 * k < n) : splice (fillL sub n k) (16 * k) ((blk1 sub (k + 1)).take (n - 16 * k)) = fillL sub n (k + 1) := by
  have hA := blk_length sub k
  have hB := blk1_length sub (k + 1)
  rw [splice, fillL, fillL, blk_succ]
  generalize blk sub k = A at *
  generalize blk1 sub (k + 1) = B at *
  apply List.ext_getElem?
  intro i
  simp only [List.getElem?_append, List.getElem?_take, List.getElem?_drop, List.getElem?_replicate, List.length_take, List.length_append, List.length_replicate, hA, hB]
  repeat' split
  all_goals first | rfl | omega | (congr 1; omega) | (simp; omega)
set_option maxHeartbeats 400000 in
theorem ipiece (sub : BitVec 64 × BitVec 64) (k : Nat) (hk : k < 900) (i : Int) (hi : i = k) (w : World) : Calls Try.prog 80 #[.agg #[.int .u64 (nv sub.1), .int .u64 (nv sub.2)], .int .i64 i] w fun e w' => ∃ g, e = .returned (.slice (some ⟨g, 0, none⟩) 16 16) ∧ w.heap.size ≤ g ∧ Row w' g (blk1 sub (k + 1)) ∧ Below w.heap.size w w' := by
  subst hi
  go_enter Try.func80, Try.ntmps80
  go_wp2_with fail
  have hB : Below w.heap.size w (w.alloc (.cells #[.int .u64 (nv sub.1), .int .u64 (nv sub.2)] 30)) := by go_grown
  refine (enc_p sub (BitVec.ofNat 64 (k + 1), 0#64) _ _ (nv_small (k + 1) (by omega)) rfl _).mono ?_
  rintro e w1 ⟨rfl, hb1⟩
  replace hB := hB.trans (hb1.mono hB.size)
  clear hb1
  go_wp2_with fail
  refine (wbytes _ _).mono ?_
  rintro e w2 ⟨g2, rfl, hg2, row2, hb2⟩
  have hle := hB.size
  replace hB := hB.trans (hb2.mono hB.size)
  clear hb2
  go_wp2
  go_ret
  exact ⟨g2, rfl, by omega, row2, hB⟩

set_option maxRecDepth 10000 in
set_option maxHeartbeats 1000000 in
theorem iflow_in (sub : BitVec 64 × BitVec 64) (n : Nat) (hn : n ≤ 4000) (w : World) : Calls Try.prog 69 #[.agg #[.int .u64 (nv sub.1), .int .u64 (nv sub.2)], .int .i64 n] w fun e w' => ∃ x c, e = .returned (.slice x n c) ∧ SAt w' x n (flowL sub n) ∧ n ≤ c ∧ c ≤ maxLen ∧ (x = none → n = 0 ∧ c = 0) ∧ Below w.heap.size w w' := by
  have hmk := run_make_row' (P := Try.prog) 27 5 (.int .u8 0) 1 Try.underlying27 Try.info5 rfl .i64 .i64 n (by omega) (by omega)
  go_enter Try.func69, Try.ntmps69
  go_wp2
  clear hmk
  have b0 := (Box.new w (nv sub.1) (nv sub.2)).alloc (.cells (madeCells #[.int .u8 0] n) 5)
  have hR := Row.made (w.alloc (.cells #[.int .u64 (nv sub.1), .int .u64 (nv sub.2)] 30)) n
  have hB : Below w.heap.size w ((w.alloc (.cells #[.int .u64 (nv sub.1), .int .u64 (nv sub.2)] 30)).alloc (.cells (madeCells #[.int .u8 0] n) 5)) := by go_grown
  simp only [World.size_alloc] at hR
  go_loopw [6] (fun i wr => ∃ k m : Nat, m = 16 * k ∧ m < n + 16 ∧ i = .int .i64 (m : Int) ∧ Row wr (w.heap.size + 1) (fillL sub n k) ∧ Box wr w.heap.size (nv sub.1) (nv sub.2) ∧ Below w.heap.size w wr) (fun i _ => 5000 - (intOf i).toNat)
  case atStart => exact ⟨0, 0, rfl, by omega, rfl, by rw [fillL_zero]; exact hR, b0, hB⟩
  case round =>
    clear b0 hB hR
    obtain ⟨k, m, hm, hk, rfl, hR, b0, hB⟩ := hrel
    by_cases hlt : m < n
    · have hS := fillL_step sub n k (by omega)
      rw [← hm] at hS
      replace hS := hide' hS
      have c1 : (m : Int) ≤ (n : Int) := by omega
      have c2 : ¬ n = m := by omega
      replace hm := hide' hm
      go_wp2_with fail
      have hsz := hR.lt
      refine wp_region_held_drew (S := fun w' => Below (w.heap.size + 1) wr w') (by kernel_rfl) (Below.refl _ _).drew (fun hHeld => ?_)
      refine takeM 0 20 5 rfl rfl rfl (by kernel_rfl) (by kernel_rfl) (by kernel_rfl) (fun _ _ _ h => h) (by rfl) hHeld rfl ?_
      simp only [List.set_cons_succ, List.set_cons_zero]
      refine takeM 1 21 6 rfl rfl rfl (by kernel_rfl) (by kernel_rfl) (by kernel_rfl) (fun _ _ _ h => h) (by rfl) hHeld rfl ?_
      simp only [List.set_cons_succ, List.set_cons_zero]
      refine takeL 2 22 (v := ?_) rfl rfl (by kernel_rfl) (by kernel_rfl) (by kernel_rfl) (fun _ _ _ h => h) (by rfl) hHeld (fun w hSw => ?_) ?_
      rotate_left 1
      · (try dsimp only at hSw)
        clear hSw
        go_simp
        try with_reducible rfl
      simp only [List.set_cons_succ, List.set_cons_zero]
      refine takeL 3 23 (v := ?_) rfl rfl (by kernel_rfl) (by kernel_rfl) (by kernel_rfl) (fun _ _ _ h => h) (by rfl) hHeld (fun w hSw => ?_) ?_
      rotate_left 1
      · (try dsimp only at hSw)
        have e0_ := (b0.below hSw (Nat.lt_succ_self _)).c0
        have e1_ := (b0.below hSw (Nat.lt_succ_self _)).c1
        clear hSw
        go_simp
        try with_reducible rfl
      simp only [List.set_cons_succ, List.set_cons_zero]
      refine takeM 4 24 6 rfl rfl rfl (by kernel_rfl) (by kernel_rfl) (by kernel_rfl) (fun _ _ _ h => h) (by rfl) hHeld rfl ?_
      simp only [List.set_cons_succ, List.set_cons_zero]
      refine takeL 5 25 (v := ?_) rfl rfl (by kernel_rfl) (by kernel_rfl) (by kernel_rfl) (fun _ _ _ h => h) (by rfl) hHeld (fun w hSw => ?_) ?_
      rotate_left 1
      · (try dsimp only at hSw)
        clear hSw
        go_simp
        try with_reducible rfl
      simp only [List.set_cons_succ, List.set_cons_zero]
      refine onlyL 6 rfl (by kernel_rfl) (by rfl) (fun K hK => ?_)
      go_wp2_with fail
      refine (ipiece sub k (by have := hm.out; omega) _ (by have := hm.out; go_num <;> omega) _).mono ?_
      rintro e w1 ⟨g2, rfl, hg2, row2, hb⟩
      replace hb := (Below.refl _ _).drew.trans hb
      replace hR := hR.below hb hsz
      have hb2 : Below (w.heap.size + 1) wr w1 := hb.mono (Nat.le_of_lt hsz)
      refine hK.out _ _ hb2 (fun hHeld => ?_)
      clear hK K
      refine onlyL 7 rfl (by kernel_rfl) (by rfl) (fun K hK => ?_)
      refine wp_copy2 rfl (.tmp 22) (.tmp 26) rfl (w.heap.size + 1) m (n - m) _ 16 g2 0 16 rfl rfl _ _ hR (blk1_length _ _) row2.at (by rw [fillL_length]; omega) (w.heap.size + 1) wr hb2 (Nat.le_refl _) (fun w2 hR3 hb3 => ?_)
      rw [hS.out] at hR3
      refine hK.out _ _ hb3 (fun hHeld => ?_)
      clear hK K hb2 hb row2 hR
      refine wpAnyH_done (by kernel_rfl) ?_ _
      go_wp2
      go_roundw
      case rel => exact ⟨k + 1, m + 16, by have := hm.out; omega, by omega, by go_num, hR3, b0.below hb3 (Nat.lt_succ_self _), hB.trans (hb3.mono (Nat.le_succ _))⟩
      case measure => simp [intOf]; omega
    · go_wp2
      go_ret
      refine ⟨_, n, rfl, ?_, Nat.le_refl _, by unfold maxLen; omega, (fun h => by cases h), hB⟩
      rw [← fillL_done sub n k (by omega)]
      exact hR.sat (fillL_length _ _ _)

theorem flow_said : FlowSaid := by
  intro sub n w
  by_cases h : n < 0 ∨ 4000 < n
  · exact (iflow_out sub n h w).mono fun _ _ ⟨he, hb⟩ => ⟨⟨none, 0, 0, he, by rw [flowI_out sub n h]; exact SAt.none _ _, Nat.le_refl _, Nat.zero_le _, fun _ => ⟨rfl, rfl⟩⟩, hb⟩
  · obtain ⟨m, rfl⟩ : ∃ m : Nat, n = m := ⟨n.toNat, by omega⟩
    rw [flowI_in sub m (by omega)]
    exact (iflow_in sub m (by omega) w).mono fun _ _ ⟨x, c, he, hs, hc, hm, hn, hb⟩ => ⟨⟨x, m, c, he, hs, hc, hm, hn⟩, hb⟩


set_option maxRecDepth 10000 in
set_option maxHeartbeats 2000000 in
theorem xor_said : XorSaid := by
  intro xs ys x y n m c d hn hm _ _ bx by_ w hx hy
  obtain ⟨l, hl⟩ : ∃ l, l = min n m := ⟨_, rfl⟩
  have hlx : (xorL xs ys).length = l := by rw [xorL_length, hx.1, hy.1, hl]
  have hmk := run_make_row' (P := Try.prog) 27 5 (.int .u8 0) 1 Try.underlying27 Try.info5 rfl .i64 .i64 l (by omega) (by omega)
  have hmin : (if m < n then (m : Int) else (n : Int)) = (l : Int) := by split <;> omega
  have hl2 : l ≤ 50000 := by omega
  have hln : l ≤ n := by omega
  have hlm : l ≤ m := by omega
  have HX := hide' hlx
  clear hl hlx
  go_enter Try.func68, Try.ntmps68
  go_wp2
  clear hmk
  go_loopw [15] (fun i wr => ∃ k : Nat, k ≤ l ∧ i = .int .i64 (k : Int) ∧ wr.rowIs w.heap.size 5 l (fun j => if j < k then .int .u8 ((xorL xs ys).getD j 0) else .int .u8 0) ∧ Below w.heap.size w wr) (fun i _ => l - (intOf i).toNat)
  case atStart => exact ⟨0, Nat.zero_le _, rfl, (World.rowIs_made _ _ _ _).congr (fun i hi => by simp), (Below.refl _ _).alloc (Nat.le_refl _) _⟩
  case round =>
    obtain ⟨k, hk, rfl, hrow, hB⟩ := hrel
    by_cases hlt : k < l
    · obtain ⟨ba, oa, rfl, hba, ata⟩ := hx.2 (by omega)
      obtain ⟨bb, ob, rfl, hbb, atb⟩ := hy.2 (by omega)
      have h1 : k < n := by omega
      have h2 : k < m := by omega
      have HS := hide' (xorL_get xs ys k (by rw [hx.1]; exact h1) (by rw [hy.1]; exact h2))
      have ca := (hB.cell (p := ⟨ba, oa + k, none⟩) hba).trans (ata k (by rw [hx.1]; exact h1))
      have cb := (hB.cell (p := ⟨bb, ob + k, none⟩) hbb).trans (atb k (by rw [hy.1]; exact h2))
      clear ata atb hx hy
      generalize xs.getD k 0 = u at *
      generalize ys.getD k 0 = v0 at *
      go_wp2_with fail
      refine wp_region_held_drew (S := fun w' => Below w.heap.size wr w') (by kernel_rfl) (Below.refl _ _).drew (fun hHeld => ?_)
      refine takeM 0 18 5 rfl rfl rfl (by kernel_rfl) (by kernel_rfl) (by kernel_rfl) (fun _ _ _ h => h) (by rfl) hHeld rfl ?_
      simp only [List.set_cons_succ, List.set_cons_zero]
      refine takeM 1 19 6 rfl rfl rfl (by kernel_rfl) (by kernel_rfl) (by kernel_rfl) (fun _ _ _ h => h) (by rfl) hHeld rfl ?_
      simp only [List.set_cons_succ, List.set_cons_zero]
      refine takeM 2 20 0 rfl rfl rfl (by kernel_rfl) (by kernel_rfl) (by kernel_rfl) (fun _ _ _ h => h) (by rfl) hHeld rfl ?_
      simp only [List.set_cons_succ, List.set_cons_zero]
      refine takeM 3 21 6 rfl rfl rfl (by kernel_rfl) (by kernel_rfl) (by kernel_rfl) (fun _ _ _ h => h) (by rfl) hHeld rfl ?_
      simp only [List.set_cons_succ, List.set_cons_zero]
      refine takeL 4 22 (v := ?_) rfl rfl (by kernel_rfl) (by kernel_rfl) (by kernel_rfl) (fun _ _ _ h => h) (by rfl) hHeld (fun w hSw => ?_) ?_
      rotate_left 1
      · (try dsimp only at hSw)
        clear hSw
        go_simp
        try with_reducible rfl
      simp only [List.set_cons_succ, List.set_cons_zero]
      refine takeL 5 23 (v := ?_) rfl rfl (by kernel_rfl) (by kernel_rfl) (by kernel_rfl) (fun _ _ _ h => h) (by rfl) hHeld (fun w hSw => ?_) ?_
      rotate_left 1
      · (try dsimp only at hSw)
        have e0_ := (hSw.cell (p := ⟨ba, oa + k, none⟩) hba).trans ca
        clear hSw
        go_simp
        try with_reducible rfl
      simp only [List.set_cons_succ, List.set_cons_zero]
      refine takeM 6 24 1 rfl rfl rfl (by kernel_rfl) (by kernel_rfl) (by kernel_rfl) (fun _ _ _ h => h) (by rfl) hHeld rfl ?_
      simp only [List.set_cons_succ, List.set_cons_zero]
      refine takeM 7 25 6 rfl rfl rfl (by kernel_rfl) (by kernel_rfl) (by kernel_rfl) (fun _ _ _ h => h) (by rfl) hHeld rfl ?_
      simp only [List.set_cons_succ, List.set_cons_zero]
      refine takeL 8 26 (v := ?_) rfl rfl (by kernel_rfl) (by kernel_rfl) (by kernel_rfl) (fun _ _ _ h => h) (by rfl) hHeld (fun w hSw => ?_) ?_
      rotate_left 1
      · (try dsimp only at hSw)
        clear hSw
        go_simp
        try with_reducible rfl
      simp only [List.set_cons_succ, List.set_cons_zero]
      refine takeL 9 27 (v := ?_) rfl rfl (by kernel_rfl) (by kernel_rfl) (by kernel_rfl) (fun _ _ _ h => h) (by rfl) hHeld (fun w hSw => ?_) ?_
      rotate_left 1
      · (try dsimp only at hSw)
        have e0_ := (hSw.cell (p := ⟨bb, ob + k, none⟩) hbb).trans cb
        clear hSw
        go_simp
        try with_reducible rfl
      simp only [List.set_cons_succ, List.set_cons_zero]
      refine takeL 10 28 (v := ?_) rfl rfl (by kernel_rfl) (by kernel_rfl) (by kernel_rfl) (fun _ _ _ h => h) (by rfl) hHeld (fun w hSw => ?_) ?_
      rotate_left 1
      · (try dsimp only at hSw)
        clear hSw
        go_simp
        try with_reducible rfl
      simp only [List.set_cons_succ, List.set_cons_zero]
      refine takeL 11 29 (v := ?_) rfl rfl (by kernel_rfl) (by kernel_rfl) (by kernel_rfl) (fun _ _ _ h => h) (by rfl) hHeld (fun w hSw => ?_) ?_
      rotate_left 1
      · (try dsimp only at hSw)
        clear hSw
        go_simp
        try with_reducible rfl
      simp only [List.set_cons_succ, List.set_cons_zero]
      refine onlyL 12 rfl (by kernel_rfl) (by rfl) (fun K hK => ?_)
      have f0 : wr.drew.frozen? ⟨w.heap.size, k, none⟩ = false := hrow.frozen k
      have f1 : wr.drew.cell? ⟨w.heap.size, k, none⟩ = some (.int .u8 0) := (hrow.cell (i := k) (by omega)).trans (by simp)
      go_wp2_with fail
      have hBn := (Below.refl w.heap.size wr).drew.setCell (p := ⟨w.heap.size, k, none⟩) (Nat.le_refl _) (.int .u8 (xor8 u v0))
      refine hK.out _ _ hBn (fun hHeld => ?_)
      clear hK K f0 f1
      refine wpAnyH_done (by kernel_rfl) ?_ _
      go_wp2
      go_roundw
      case rel =>
        refine ⟨k + 1, hlt, by go_num, (hrow.drew.set k _).congr (fun j hj => ?_), hB.trans hBn⟩
        by_cases e : j = k
        · subst e
          have e2 := HS.out
          rw [List.getElem?_eq_some_iff] at e2
          obtain ⟨h, e2⟩ := e2
          simp [h, e2, xor8]
        · by_cases e' : j < k
          · have e2 : j < k + 1 := by omega
            simp [e, e', e2]
          · have e2 : ¬ j < k + 1 := by omega
            simp [e, e', e2]
      case measure => simp [intOf]; omega
    · obtain rfl : k = l := by omega
      go_wp2
      go_ret
      refine ⟨⟨_, k, k, rfl, ⟨HX.out, fun _ => ⟨w.heap.size, 0, rfl, hrow.lt, fun i hi => ?_⟩⟩, Nat.le_refl _, by unfold maxLen; omega, fun h => by cases h⟩, hB⟩
      rw [Nat.zero_add, hrow.cell (i := i) (by rw [← HX.out]; exact hi)]
      have hik : i < k := by rw [← HX.out]; exact hi
      simp [hik]
end Go.Proofs.Ytkkehbebaokdmaa
