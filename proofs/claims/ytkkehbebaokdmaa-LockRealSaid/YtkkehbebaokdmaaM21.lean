/- FloImpl GcmPrsI FldImpl: texts laid together. -/
import Derived.Test.YtkkehbebaokdmaaM06
import Derived.Test.YtkkehbebaokdmaaM19
import Derived.Test.YtkkehbebaokdmaaM08
import Derived.Test.YtkkehbebaokdmaaM03
import Derived.Test.YtkkehbebaokdmaaM07

/- What the program's flow comes to. -/
namespace Go.Proofs.Ytkkehbebaokdmaa
open Go.RowKit
set_option maxRecDepth 20000

theorem enc_p (k p : BitVec 64 × BitVec 64) (p1 p2 : Int) (hp1 : nv p.1 = p1) (hp2 : nv p.2 = p2) (w : World) :
    Calls Try.prog 67 #[.agg #[.int .u64 (nv k.1), .int .u64 (nv k.2)], .agg #[.int .u64 p1, .int .u64 p2]] w fun e w' => e = .returned (.agg #[.int .u64 (nv (enc k p).1), .int .u64 (nv (enc k p).2)]) ∧ Below w.heap.size w w' := by
  subst hp1 hp2
  exact enc_said k p w

set_option maxHeartbeats 1000000 in
theorem sub_said : SubSaid := by
  intro key n w
  have h1 := nv32_range n.1
  have h2 := nv32_range n.2.1
  go_enter Try.func53, Try.ntmps53
  go_wp2_with fail
  rw [nonP_or2 n]
  have bR := Box.new ((w.alloc (.cells #[.int .u64 (nv key.1), .int .u64 (nv key.2)] 30)).alloc (.cells #[.int .u32 (nv32 n.1), .int .u32 (nv32 n.2.1), .int .u64 (nv n.2.2)] 35)) 0 0
  have hB : Below w.heap.size w (((w.alloc (.cells #[.int .u64 (nv key.1), .int .u64 (nv key.2)] 30)).alloc (.cells #[.int .u32 (nv32 n.1), .int .u32 (nv32 n.2.1), .int .u64 (nv n.2.2)] 35)).alloc (.cells #[.int .u64 0, .int .u64 0] 30)) := by go_grown
  simp only [World.size_alloc] at bR
  refine (enc_said key (nonP n) _).mono ?_
  rintro e w1 ⟨rfl, hb1⟩
  replace bR := bR.grown hb1
  replace hB := hB.trans (hb1.mono hB.size)
  clear hb1 h1 h2
  have g0 := bR.c0
  have g1 := bR.c1
  have g2 := bR.frozen 0
  have g3 := bR.frozen 1
  go_wp2
  refine bodyPost_ret (v := .agg #[.int .u64 (nv (subP key n).1), .int .u64 (nv (subP key n).2)]) (by simp [results, Try.results53, go_sem, g0, g1, subP]) rfl ⟨rfl, ?_⟩
  exact (hB.setCell (by simp only; omega) _).setCell (by simp only; omega) _

set_option maxHeartbeats 400000 in
theorem iflow_out (sub : BitVec 64 × BitVec 64) (n : Int) (h : n < 0 ∨ 4000 < n) (w : World) : Calls Try.prog 69 #[.agg #[.int .u64 (nv sub.1), .int .u64 (nv sub.2)], .int .i64 n] w fun e w' => e = .returned (.slice none 0 0) ∧ Below w.heap.size w w' := by
  by_cases h1 : n < 0
  · clear h
    go_enter Try.func69, Try.ntmps69
    go_wp2
    go_ret
    exact ⟨rfl, by go_grown⟩
  · have h2 : 4000 < n := by omega
    clear h
    go_enter Try.func69, Try.ntmps69
    go_wp2
    go_ret
    exact ⟨rfl, by go_grown⟩

/-- A row of n bytes whose first k sixteens are filled. -/
def fillL (sub : BitVec 64 × BitVec 64) (n k : Nat) : List Int := (blk sub k ++ List.replicate n 0).take n
theorem fillL_length (sub : BitVec 64 × BitVec 64) (n k : Nat) : (fillL sub n k).length = n := by simp [fillL]
theorem fillL_zero (sub : BitVec 64 × BitVec 64) (n : Nat) : fillL sub n 0 = List.replicate n 0 := by simp [fillL, blk]
theorem fillL_done (sub : BitVec 64 × BitVec 64) (n k : Nat) (h : n ≤ 16 * k) : fillL sub n k = flowL sub n := by
  rw [fillL, List.take_append_of_le_length (by rw [blk_length]; exact h), flowL_of sub n k h]
theorem fillL_step (sub : BitVec 64 × BitVec 64) (n k : Nat) (h : 16 * k < n) : splice (fillL sub n k) (16 * k) ((blk1 sub (k + 1)).take (n - 16 * k)) = fillL sub n (k + 1) := by
  have hA := blk_length sub k
  have hB := blk1_length sub (k + 1)
  rw [splice, fillL, fillL, blk_succ]
  generalize blk sub k = A at *
  generalize blk1 sub (k + 1) = B at *
  apply List.ext_getElem?
  intro i
  simp only [List.getElem?_append, List.getElem?_take, List.getElem?_drop, List.getElem?_replicate, List.length_take, List.length_append, List.length_replicate, hA, hB]
  repeat' split
  all_goals first | rfl | omega | (congr 1; omega) | (simp; omega)
set_option maxHeartbeats 400000 in
theorem ipiece (sub : BitVec 64 × BitVec 64) (k : Nat) (hk : k < 900) (i : Int) (hi : i = k) (w : World) : Calls Try.prog 80 #[.agg #[.int .u64 (nv sub.1), .int .u64 (nv sub.2)], .int .i64 i] w fun e w' => ∃ g, e = .returned (.slice (some ⟨g, 0, none⟩) 16 16) ∧ w.heap.size ≤ g ∧ Row w' g (blk1 sub (k + 1)) ∧ Below w.heap.size w w' := by
  subst hi
  go_enter Try.func80, Try.ntmps80
  go_wp2_with fail
  have hB : Below w.heap.size w (w.alloc (.cells #[.int .u64 (nv sub.1), .int .u64 (nv sub.2)] 30)) := by go_grown
  refine (enc_p sub (BitVec.ofNat 64 (k + 1), 0#64) _ _ (nv_small (k + 1) (by omega)) rfl _).mono ?_
  rintro e w1 ⟨rfl, hb1⟩
  replace hB := hB.trans (hb1.mono hB.size)
  clear hb1
  go_wp2_with fail
  refine (wbytes _ _).mono ?_
  rintro e w2 ⟨g2, rfl, hg2, row2, hb2⟩
  have hle := hB.size
  replace hB := hB.trans (hb2.mono hB.size)
  clear hb2
  go_wp2
  go_ret
  exact ⟨g2, rfl, by omega, row2, hB⟩

set_option maxRecDepth 10000 in
set_option maxHeartbeats 1000000 in
theorem iflow_in (sub : BitVec 64 × BitVec 64) (n : Nat) (hn : n ≤ 4000) (w : World) : Calls Try.prog 69 #[.agg #[.int .u64 (nv sub.1), .int .u64 (nv sub.2)], .int .i64 n] w fun e w' => ∃ x c, e = .returned (.slice x n c) ∧ SAt w' x n (flowL sub n) ∧ n ≤ c ∧ c ≤ maxLen ∧ (x = none → n = 0 ∧ c = 0) ∧ Below w.heap.size w w' := by
  have hmk := run_make_row' (P := Try.prog) 27 5 (.int .u8 0) 1 Try.underlying27 Try.info5 rfl .i64 .i64 n (by omega) (by omega)
  go_enter Try.func69, Try.ntmps69
  go_wp2
  clear hmk
  have b0 := (Box.new w (nv sub.1) (nv sub.2)).alloc (.cells (madeCells #[.int .u8 0] n) 5)
  have hR := Row.made (w.alloc (.cells #[.int .u64 (nv sub.1), .int .u64 (nv sub.2)] 30)) n
  have hB : Below w.heap.size w ((w.alloc (.cells #[.int .u64 (nv sub.1), .int .u64 (nv sub.2)] 30)).alloc (.cells (madeCells #[.int .u8 0] n) 5)) := by go_grown
  simp only [World.size_alloc] at hR
  go_loopw [6] (fun i wr => ∃ k m : Nat, m = 16 * k ∧ m < n + 16 ∧ i = .int .i64 (m : Int) ∧ Row wr (w.heap.size + 1) (fillL sub n k) ∧ Box wr w.heap.size (nv sub.1) (nv sub.2) ∧ Below w.heap.size w wr) (fun i _ => 5000 - (intOf i).toNat)
  case atStart => exact ⟨0, 0, rfl, by omega, rfl, by rw [fillL_zero]; exact hR, b0, hB⟩
  case round =>
    clear b0 hB hR
    obtain ⟨k, m, hm, hk, rfl, hR, b0, hB⟩ := hrel
    by_cases hlt : m < n
    · have hS := fillL_step sub n k (by omega)
      rw [← hm] at hS
      replace hS := hide' hS
      have c1 : (m : Int) ≤ (n : Int) := by omega
      have c2 : ¬ n = m := by omega
      replace hm := hide' hm
      go_wp2_with fail
      have hsz := hR.lt
      refine wp_region_held_drew (S := fun w' => Below (w.heap.size + 1) wr w') (by kernel_rfl) (Below.refl _ _).drew (fun hHeld => ?_)
      refine takeM 0 20 5 rfl rfl rfl (by kernel_rfl) (by kernel_rfl) (by kernel_rfl) (fun _ _ _ h => h) (by rfl) hHeld rfl ?_
      simp only [List.set_cons_succ, List.set_cons_zero]
      refine takeM 1 21 6 rfl rfl rfl (by kernel_rfl) (by kernel_rfl) (by kernel_rfl) (fun _ _ _ h => h) (by rfl) hHeld rfl ?_
      simp only [List.set_cons_succ, List.set_cons_zero]
      refine takeL 2 22 (v := ?_) rfl rfl (by kernel_rfl) (by kernel_rfl) (by kernel_rfl) (fun _ _ _ h => h) (by rfl) hHeld (fun w hSw => ?_) ?_
      rotate_left 1
      · (try dsimp only at hSw)
        clear hSw
        go_simp
        try with_reducible rfl
      simp only [List.set_cons_succ, List.set_cons_zero]
      refine takeL 3 23 (v := ?_) rfl rfl (by kernel_rfl) (by kernel_rfl) (by kernel_rfl) (fun _ _ _ h => h) (by rfl) hHeld (fun w hSw => ?_) ?_
      rotate_left 1
      · (try dsimp only at hSw)
        have e0_ := (b0.below hSw (Nat.lt_succ_self _)).c0
        have e1_ := (b0.below hSw (Nat.lt_succ_self _)).c1
        clear hSw
        go_simp
        try with_reducible rfl
      simp only [List.set_cons_succ, List.set_cons_zero]
      refine takeM 4 24 6 rfl rfl rfl (by kernel_rfl) (by kernel_rfl) (by kernel_rfl) (fun _ _ _ h => h) (by rfl) hHeld rfl ?_
      simp only [List.set_cons_succ, List.set_cons_zero]
      refine takeL 5 25 (v := ?_) rfl rfl (by kernel_rfl) (by kernel_rfl) (by kernel_rfl) (fun _ _ _ h => h) (by rfl) hHeld (fun w hSw => ?_) ?_
      rotate_left 1
      · (try dsimp only at hSw)
        clear hSw
        go_simp
        try with_reducible rfl
      simp only [List.set_cons_succ, List.set_cons_zero]
      refine onlyL 6 rfl (by kernel_rfl) (by rfl) (fun K hK => ?_)
      go_wp2_with fail
      refine (ipiece sub k (by have := hm.out; omega) _ (by have := hm.out; go_num <;> omega) _).mono ?_
      rintro e w1 ⟨g2, rfl, hg2, row2, hb⟩
      replace hb := (Below.refl _ _).drew.trans hb
      replace hR := hR.below hb hsz
      have hb2 : Below (w.heap.size + 1) wr w1 := hb.mono (Nat.le_of_lt hsz)
      refine hK.out _ _ hb2 (fun hHeld => ?_)
      clear hK K
      refine onlyL 7 rfl (by kernel_rfl) (by rfl) (fun K hK => ?_)
      refine wp_copy2 rfl (.tmp 22) (.tmp 26) rfl (w.heap.size + 1) m (n - m) _ 16 g2 0 16 rfl rfl _ _ hR (blk1_length _ _) row2.at (by rw [fillL_length]; omega) (w.heap.size + 1) wr hb2 (Nat.le_refl _) (fun w2 hR3 hb3 => ?_)
      rw [hS.out] at hR3
      refine hK.out _ _ hb3 (fun hHeld => ?_)
      clear hK K hb2 hb row2 hR
      refine wpAnyH_done (by kernel_rfl) ?_ _
      go_wp2
      go_roundw
      case rel => exact ⟨k + 1, m + 16, by have := hm.out; omega, by omega, by go_num, hR3, b0.below hb3 (Nat.lt_succ_self _), hB.trans (hb3.mono (Nat.le_succ _))⟩
      case measure => simp [intOf]; omega
    · go_wp2
      go_ret
      refine ⟨_, n, rfl, ?_, Nat.le_refl _, by unfold maxLen; omega, (fun h => by cases h), hB⟩
      rw [← fillL_done sub n k (by omega)]
      exact hR.sat (fillL_length _ _ _)

theorem flow_said : FlowSaid := by
  intro sub n w
  by_cases h : n < 0 ∨ 4000 < n
  · exact (iflow_out sub n h w).mono fun _ _ ⟨he, hb⟩ => ⟨⟨none, 0, 0, he, by rw [flowI_out sub n h]; exact SAt.none _ _, Nat.le_refl _, Nat.zero_le _, fun _ => ⟨rfl, rfl⟩⟩, hb⟩
  · obtain ⟨m, rfl⟩ : ∃ m : Nat, n = m := ⟨n.toNat, by omega⟩
    rw [flowI_in sub m (by omega)]
    exact (iflow_in sub m (by omega) w).mono fun _ _ ⟨x, c, he, hs, hc, hm, hn, hb⟩ => ⟨⟨x, m, c, he, hs, hc, hm, hn⟩, hb⟩


set_option maxRecDepth 10000 in
set_option maxHeartbeats 2000000 in
theorem xor_said : XorSaid := by
  intro xs ys x y n m c d hn hm _ _ bx by_ w hx hy
  obtain ⟨l, hl⟩ : ∃ l, l = min n m := ⟨_, rfl⟩
  have hlx : (xorL xs ys).length = l := by rw [xorL_length, hx.1, hy.1, hl]
  have hmk := run_make_row' (P := Try.prog) 27 5 (.int .u8 0) 1 Try.underlying27 Try.info5 rfl .i64 .i64 l (by omega) (by omega)
  have hmin : (if m < n then (m : Int) else (n : Int)) = (l : Int) := by split <;> omega
  have hl2 : l ≤ 50000 := by omega
  have hln : l ≤ n := by omega
  have hlm : l ≤ m := by omega
  have HX := hide' hlx
  clear hl hlx
  go_enter Try.func68, Try.ntmps68
  go_wp2
  clear hmk
  go_loopw [15] (fun i wr => ∃ k : Nat, k ≤ l ∧ i = .int .i64 (k : Int) ∧ wr.rowIs w.heap.size 5 l (fun j => if j < k then .int .u8 ((xorL xs ys).getD j 0) else .int .u8 0) ∧ Below w.heap.size w wr) (fun i _ => l - (intOf i).toNat)
  case atStart => exact ⟨0, Nat.zero_le _, rfl, (World.rowIs_made _ _ _ _).congr (fun i hi => by simp), (Below.refl _ _).alloc (Nat.le_refl _) _⟩
  case round =>
    obtain ⟨k, hk, rfl, hrow, hB⟩ := hrel
    by_cases hlt : k < l
    · obtain ⟨ba, oa, rfl, hba, ata⟩ := hx.2 (by omega)
      obtain ⟨bb, ob, rfl, hbb, atb⟩ := hy.2 (by omega)
      have h1 : k < n := by omega
      have h2 : k < m := by omega
      have HS := hide' (xorL_get xs ys k (by rw [hx.1]; exact h1) (by rw [hy.1]; exact h2))
      have ca := (hB.cell (p := ⟨ba, oa + k, none⟩) hba).trans (ata k (by rw [hx.1]; exact h1))
      have cb := (hB.cell (p := ⟨bb, ob + k, none⟩) hbb).trans (atb k (by rw [hy.1]; exact h2))
      clear ata atb hx hy
      generalize xs.getD k 0 = u at *
      generalize ys.getD k 0 = v0 at *
      go_wp2_with fail
      refine wp_region_held_drew (S := fun w' => Below w.heap.size wr w') (by kernel_rfl) (Below.refl _ _).drew (fun hHeld => ?_)
      refine takeM 0 18 5 rfl rfl rfl (by kernel_rfl) (by kernel_rfl) (by kernel_rfl) (fun _ _ _ h => h) (by rfl) hHeld rfl ?_
      simp only [List.set_cons_succ, List.set_cons_zero]
      refine takeM 1 19 6 rfl rfl rfl (by kernel_rfl) (by kernel_rfl) (by kernel_rfl) (fun _ _ _ h => h) (by rfl) hHeld rfl ?_
      simp only [List.set_cons_succ, List.set_cons_zero]
      refine takeM 2 20 0 rfl rfl rfl (by kernel_rfl) (by kernel_rfl) (by kernel_rfl) (fun _ _ _ h => h) (by rfl) hHeld rfl ?_
      simp only [List.set_cons_succ, List.set_cons_zero]
      refine takeM 3 21 6 rfl rfl rfl (by kernel_rfl) (by kernel_rfl) (by kernel_rfl) (fun _ _ _ h => h) (by rfl) hHeld rfl ?_
      simp only [List.set_cons_succ, List.set_cons_zero]
      refine takeL 4 22 (v := ?_) rfl rfl (by kernel_rfl) (by kernel_rfl) (by kernel_rfl) (fun _ _ _ h => h) (by rfl) hHeld (fun w hSw => ?_) ?_
      rotate_left 1
      · (try dsimp only at hSw)
        clear hSw
        go_simp
        try with_reducible rfl
      simp only [List.set_cons_succ, List.set_cons_zero]
      refine takeL 5 23 (v := ?_) rfl rfl (by kernel_rfl) (by kernel_rfl) (by kernel_rfl) (fun _ _ _ h => h) (by rfl) hHeld (fun w hSw => ?_) ?_
      rotate_left 1
      · (try dsimp only at hSw)
        have e0_ := (hSw.cell (p := ⟨ba, oa + k, none⟩) hba).trans ca
        clear hSw
        go_simp
        try with_reducible rfl
      simp only [List.set_cons_succ, List.set_cons_zero]
      refine takeM 6 24 1 rfl rfl rfl (by kernel_rfl) (by kernel_rfl) (by kernel_rfl) (fun _ _ _ h => h) (by rfl) hHeld rfl ?_
      simp only [List.set_cons_succ, List.set_cons_zero]
      refine takeM 7 25 6 rfl rfl rfl (by kernel_rfl) (by kernel_rfl) (by kernel_rfl) (fun _ _ _ h => h) (by rfl) hHeld rfl ?_
      simp only [List.set_cons_succ, List.set_cons_zero]
      refine takeL 8 26 (v := ?_) rfl rfl (by kernel_rfl) (by kernel_rfl) (by kernel_rfl) (fun _ _ _ h => h) (by rfl) hHeld (fun w hSw => ?_) ?_
      rotate_left 1
      · (try dsimp only at hSw)
        clear hSw
        go_simp
        try with_reducible rfl
      simp only [List.set_cons_succ, List.set_cons_zero]
      refine takeL 9 27 (v := ?_) rfl rfl (by kernel_rfl) (by kernel_rfl) (by kernel_rfl) (fun _ _ _ h => h) (by rfl) hHeld (fun w hSw => ?_) ?_
      rotate_left 1
      · (try dsimp only at hSw)
        have e0_ := (hSw.cell (p := ⟨bb, ob + k, none⟩) hbb).trans cb
        clear hSw
        go_simp
        try with_reducible rfl
      simp only [List.set_cons_succ, List.set_cons_zero]
      refine takeL 10 28 (v := ?_) rfl rfl (by kernel_rfl) (by kernel_rfl) (by kernel_rfl) (fun _ _ _ h => h) (by rfl) hHeld (fun w hSw => ?_) ?_
      rotate_left 1
      · (try dsimp only at hSw)
        clear hSw
        go_simp
        try with_reducible rfl
      simp only [List.set_cons_succ, List.set_cons_zero]
      refine takeL 11 29 (v := ?_) rfl rfl (by kernel_rfl) (by kernel_rfl) (by kernel_rfl) (fun _ _ _ h => h) (by rfl) hHeld (fun w hSw => ?_) ?_
      rotate_left 1
      · (try dsimp only at hSw)
        clear hSw
        go_simp
        try with_reducible rfl
      simp only [List.set_cons_succ, List.set_cons_zero]
      refine onlyL 12 rfl (by kernel_rfl) (by rfl) (fun K hK => ?_)
      have f0 : wr.drew.frozen? ⟨w.heap.size, k, none⟩ = false := hrow.frozen k
      have f1 : wr.drew.cell? ⟨w.heap.size, k, none⟩ = some (.int .u8 0) := (hrow.cell (i := k) (by omega)).trans (by simp)
      go_wp2_with fail
      have hBn := (Below.refl w.heap.size wr).drew.setCell (p := ⟨w.heap.size, k, none⟩) (Nat.le_refl _) (.int .u8 (xor8 u v0))
      refine hK.out _ _ hBn (fun hHeld => ?_)
      clear hK K f0 f1
      refine wpAnyH_done (by kernel_rfl) ?_ _
      go_wp2
      go_roundw
      case rel =>
        refine ⟨k + 1, hlt, by go_num, (hrow.drew.set k _).congr (fun j hj => ?_), hB.trans hBn⟩
        by_cases e : j = k
        · subst e
          have e2 := HS.out
          rw [List.getElem?_eq_some_iff] at e2
          obtain ⟨h, e2⟩ := e2
          simp [h, e2, xor8]
        · by_cases e' : j < k
          · have e2 : j < k + 1 := by omega
            simp [e, e', e2]
          · have e2 : ¬ j < k + 1 := by omega
            simp [e, e', e2]
      case measure => simp [intOf]; omega
    · obtain rfl : k = l := by omega
      go_wp2
      go_ret
      refine ⟨⟨_, k, k, rfl, ⟨HX.out, fun _ => ⟨w.heap.size, 0, rfl, hrow.lt, fun i hi => ?_⟩⟩, Nat.le_refl _, by unfold maxLen; omega, fun h => by cases h⟩, hB⟩
      rw [Nat.zero_add, hrow.cell (i := i) (by rw [← HX.out]; exact hi)]
      have hik : i < k := by rw [← HX.out]; exact hi
      simp [hik]
end Go.Proofs.Ytkkehbebaokdmaa


/- What the program's gcm.pairs comes to. -/
namespace Go.Proofs.Ytkkehbebaokdmaa
open Go.RowKit
set_option maxRecDepth 20000

/-- Block g is an array of these bytes, none frozen. -/
def RowT (w : World) (g t : Nat) (cur : List Int) : Prop := w.heap[g]? = some (.cells (cur.map (Value.int .u8)).toArray t (0, 0))
theorem RowT.at {w : World} {g t : Nat} {cur : List Int} (h : RowT w g t cur) : At w g 0 cur := by
  intro i hi
  unfold RowT at h
  simp [World.cell?, h, hi]
theorem RowT.lt {w : World} {g t : Nat} {cur : List Int} (h : RowT w g t cur) : g < w.heap.size := by
  obtain ⟨hlt, _⟩ := Array.getElem?_eq_some_iff.1 h
  exact hlt
theorem RowT.below {w w' : World} {B g t : Nat} {cur : List Int} (h : RowT w g t cur) (hb : Below B w w') (hB : g < B) : RowT w' g t cur := (hb.block g hB).trans h
/-- copy of bytes into an array of the call's own: as many as fit. -/
theorem wp_copyT {o : Oper} {a : Act} {w : World} {K : Act → World → Prop} {Q : Exit → Act → World → Prop} (hgd : o.guard = none) (d s : Operand)
    (ho : o.op = .call { callee := .builtin .copy, args := #[d, s], argTypes := #[27, 27] }) (g t off dl dCap n b so sCap : Nat)
    (hd : a.eval d = .slice (some ⟨g, off, none⟩) dl dCap) (hs : a.eval s = .slice (some ⟨b, so, none⟩) n sCap) (cur xs : List Int)
    (hg : RowT w g t cur) (hn : xs.length = n) (hat : At w b so xs) (hfit : off + min n dl ≤ cur.length) (B : Nat) (w0 : World) (hb : Below B w0 w) (hBg : B ≤ g)
    (h : ∀ w', RowT w' g t (splice cur off (xs.take dl)) → Below B w0 w' → K (a.put o.dst (goInt (min n dl : Nat))) w') : Oper.wp Try.prog o a w K Q := by
  have hw : Region.wanted o (yielded #[] a.tmps) = true := by simp [Region.wanted, hgd]
  have e : ((xs.take dl).map (Value.int .u8)).length = min n dl := by simp [hn, Nat.min_comm]
  have := step_copy_splice (P := Try.prog) (ops := #[]) (o := o) (a := a) (w := w) (K := K) (Q := Q) (E := False) hgd d s 27 27 ho 5 Try.underlying27 (by kernel_rfl) (some ⟨g, off, none⟩) (some ⟨b, so, none⟩) dl dCap n sCap hd hs g off
    (cur.map (Value.int .u8)) t hg ((xs.take dl).map (Value.int .u8)) (by rw [e]) (fun _ => ⟨rfl, _, rfl, (hat.cut1' dl).news⟩) (by rw [e]; simpa using hfit) (one_cells _) B w0 hb hBg (fun w' hr hb' => by
      rw [e]
      refine h w' ?_ hb'
      have := hr.out
      rw [splice_map] at this
      exact this)
  rw [if_pos hw] at this
  exact this

theorem six_pad (xs : List Int) (q k : Nat) (hq : q = 16 * k) (hk : q < xs.length) : splice (List.replicate 16 (0 : Int)) 0 ((xs.drop q).take 16) = six (padL xs) k := by
  subst hq
  unfold splice six padL padN
  apply List.ext_getElem?
  intro i
  simp only [List.getElem?_append, List.getElem?_take, List.getElem?_drop, List.getElem?_replicate, List.length_take, List.length_drop, List.length_nil, List.take_zero]
  repeat' split
  all_goals first | rfl | omega | (congr 1; omega) | (simp; omega)

set_option maxRecDepth 10000 in
set_option maxHeartbeats 4000000 in
theorem ipairs (xs : List Int) (x : Option Addr) (n c : Nat) (hn : n ≤ 5000) (hc : n ≤ c) (bx : Bytes xs) (w : World) (sx : SAt w x n xs) : Calls Try.prog 70 #[.slice x n c] w fun e w' => ∃ v, e = .returned v ∧ w'.ownsRow w.heap.size 30 2 v ((n + 15) / 16) (fl (prs xs)) ∧ Below w.heap.size w w' := by
  have hxl := sx.1
  have HT := hide' (prs_take xs)
  go_enter Try.func70, Try.ntmps70
  go_wp2_with fail
  go_loopw [3, 4] (fun l i wr => ∃ k q : Nat, Hid (q = 16 * k) ∧ q < n + 16 ∧ i = .int .i64 (q : Int) ∧ wr.ownsRow w.heap.size 30 2 l k (fl ((prs xs).take k)) ∧ Below w.heap.size w wr) (fun _ i _ => 6000 - (intOf i).toNat)
  case atStart => exact ⟨0, 0, rfl, by omega, rfl, World.ownsRow_nil _ _ _ _, Below.refl _ _⟩
  case round =>
    obtain ⟨k, q, HQ, hq, rfl, own3, hb3⟩ := hrel
    by_cases hlt : q < n
    · have hk : k < (xs.length + 15) / 16 := by
        have := HQ.out
        omega
      have hk2 := HT.out k hk
      have c1 : (q : Int) ≤ (n : Int) := by omega
      have c2 : ¬ c = q := by omega
      obtain ⟨b, o, rfl, hbl, hat⟩ := sx.2 (by omega)
      have HX := hide' (six_pad xs q k HQ.out (by omega))
      go_wp2_with fail
      have hR : RowT (wr.alloc (.cells #[.int .u8 0, .int .u8 0, .int .u8 0, .int .u8 0, .int .u8 0, .int .u8 0, .int .u8 0, .int .u8 0, .int .u8 0, .int .u8 0, .int .u8 0, .int .u8 0, .int .u8 0, .int .u8 0, .int .u8 0, .int .u8 0] 105)) wr.heap.size 105 (List.replicate 16 0) := by
        unfold RowT
        show (wr.heap.push _)[wr.heap.size]? = _
        simp [List.replicate]
      have hA : Below wr.heap.size wr (wr.alloc (.cells #[.int .u8 0, .int .u8 0, .int .u8 0, .int .u8 0, .int .u8 0, .int .u8 0, .int .u8 0, .int .u8 0, .int .u8 0, .int .u8 0, .int .u8 0, .int .u8 0, .int .u8 0, .int .u8 0, .int .u8 0, .int .u8 0] 105)) := (Below.refl _ _).alloc (Nat.le_refl _) _
      have hlt1 := hR.lt
      generalize wr.alloc (.cells #[.int .u8 0, .int .u8 0, .int .u8 0, .int .u8 0, .int .u8 0, .int .u8 0, .int .u8 0, .int .u8 0, .int .u8 0, .int .u8 0, .int .u8 0, .int .u8 0, .int .u8 0, .int .u8 0, .int .u8 0, .int .u8 0] 105) = w1 at *
      have hsz := hb3.size
      replace hb3 := hb3.trans (hA.mono hsz)
      replace hat := hat.below hb3 hbl
      refine wp_region_held_drew (S := fun w' => Below wr.heap.size w1 w') (by kernel_rfl) (Below.refl _ _).drew (fun hHeld => ?_)
      refine takeL 0 14 (v := ?_) rfl rfl (by kernel_rfl) (by kernel_rfl) (by kernel_rfl) (fun _ _ _ h => h) (by rfl) hHeld (fun w hSw => ?_) ?_
      rotate_left 1
      · (try dsimp only at hSw)
        clear hSw
        go_simp
        try with_reducible rfl
      simp only [List.set_cons_succ, List.set_cons_zero]
      refine takeM 1 15 0 rfl rfl rfl (by kernel_rfl) (by kernel_rfl) (by kernel_rfl) (fun _ _ _ h => h) (by rfl) hHeld rfl ?_
      simp only [List.set_cons_succ, List.set_cons_zero]
      refine takeM 2 16 4 rfl rfl rfl (by kernel_rfl) (by kernel_rfl) (by kernel_rfl) (fun _ _ _ h => h) (by rfl) hHeld rfl ?_
      simp only [List.set_cons_succ, List.set_cons_zero]
      refine takeL 3 17 (v := ?_) rfl rfl (by kernel_rfl) (by kernel_rfl) (by kernel_rfl) (fun _ _ _ h => h) (by rfl) hHeld (fun w hSw => ?_) ?_
      rotate_left 1
      · (try dsimp only at hSw)
        clear hSw
        go_simp
        try with_reducible rfl
      simp only [List.set_cons_succ, List.set_cons_zero]
      refine onlyL 4 rfl (by kernel_rfl) (by rfl) (fun K hK => ?_)
      refine wp_copyT rfl (.tmp 14) (.tmp 17) rfl wr.heap.size 105 0 16 16 (n - q) b (o + q) (c - q) rfl rfl (List.replicate 16 0) (xs.drop q) hR (by rw [List.length_drop, hxl]) (hat.cut2 q) (by rw [List.length_replicate]; omega) wr.heap.size w1 (Below.refl _ _).drew (Nat.le_refl _) (fun w2 hR2 hb2 => ?_)
      rw [HX.out] at hR2
      have hg2 := hR2.lt
      refine hK.out _ _ hb2 (fun hHeld => ?_)
      clear hK K hR hHeld
      replace own3 := own_grown own3 (hA.trans hb2)
      replace hb3 := hb3.trans (hb2.mono hsz)
      clear hb2 hat hA
      refine wpAnyH_done (by kernel_rfl) ?_ _
      have hl16 := six_length (padL xs) k (by rw [padL_length]; omega)
      go_wp2_with fail
      refine (wpair wr.heap.size 0 16 _ _ hl16 (by omega) (by decide) (six_bytes (padL_bytes bx) k) hg2 hR2.at).mono ?_
      rintro e w4 ⟨rfl, hb4⟩
      replace own3 := own_grown own3 hb4
      replace hb3 := hb3.trans (hb4.mono hb3.size)
      clear hb4 hl16 hg2 hR2
      generalize pairOf (six (padL xs) k) = pq at *
      have hS4 := hb3.size
      have hprow : PRow ((w4.alloc (.cells #[.int .u64 (nv pq.1), .int .u64 (nv pq.2)] 30)).alloc (.cells #[.int .u64 (nv pq.1), .int .u64 (nv pq.2)] 30)) (some ⟨w4.heap.size + 1, 0, none⟩) 1 (fun _ => pq) := by
        have := (Box.new (w4.alloc (.cells #[.int .u64 (nv pq.1), .int .u64 (nv pq.2)] 30)) (nv pq.1) (nv pq.2)).prow
        rw [World.size_alloc] at this
        exact this
      have hk3 : k ≤ 5000 := by
        have := HQ.out
        omega
      go_wp2_with (at_builtin; refine wpList_appP rfl _ _ rfl w.heap.size _ k _ rfl ((own3.alloc _).alloc _) (some ⟨w4.heap.size + 1, 0, none⟩) 1 1 (fun _ => pq) rfl hprow (fun e => by cases e) (by omega) (by rw [World.size_alloc, World.size_alloc]; omega) ?_)
      intro v5 w5 own5 hb5
      replace hb3 := ((hb3.alloc hS4 _).alloc (by rw [World.size_alloc]; omega) _).trans hb5
      clear hb5 own3 hprow
      go_wp2
      go_roundw
      case rel =>
        refine ⟨k + 1, q + 16, ?_, by omega, by go_num, ?_, hb3⟩
        · have := HQ.out
          exact hide' (by omega)
        · rw [hk2, fl_append]
          exact own5
      case measure => simp [intOf]; omega
    · have hk : k = (n + 15) / 16 := by
        have := HQ.out
        omega
      have hall : (prs xs).take k = prs xs := List.take_of_length_le (by rw [prs_length, hxl]; omega)
      rw [hall, hk] at own3
      go_wp2
      go_ret
      exact ⟨_, rfl, own3, hb3⟩
end Go.Proofs.Ytkkehbebaokdmaa


/- What the program's field comes to: Add and Mul are the document's, for all Pairs. -/
namespace Go.Proofs.Ytkkehbebaokdmaa
open Go.RowKit
set_option maxRecDepth 20000

set_option maxHeartbeats 400000 in
theorem add_said : AddSaid := by
  intro p q w
  have h1 := nv_xor p.1 q.1
  have h2 := nv_xor p.2 q.2
  go_enter Try.func71, Try.ntmps71
  go_wp2
  refine bodyPost_ret (v := .agg #[.int .u64 (nv (addP p q).1), .int .u64 (nv (addP p q).2)]) (by simp [results, Try.results71, go_sem, addP]) rfl ⟨rfl, by go_grown⟩

theorem top_mul (x : BitVec 64) : IntKind.u64.wrap (nv x / 9223372036854775808 * 135) = nv (if x >>> 63 = 1#64 then 135#64 else 0#64) := by
  rw [nv_shr63]
  have h : x >>> 63 = 0#64 ∨ x >>> 63 = 1#64 := by
    by_cases h : x >>> 63 = 1#64
    · exact Or.inr h
    · left
      have hx := x.isLt
      apply BitVec.eq_of_toNat_eq
      have h' : (x >>> 63).toNat ≠ 1 := fun e => h (BitVec.eq_of_toNat_eq e)
      rw [BitVec.toNat_ushiftRight, Nat.shiftRight_eq_div_pow] at h' ⊢
      show x.toNat / 2 ^ 63 = 0
      omega
  rcases h with h | h
  · rw [h]; decide
  · rw [h]; decide
theorem raise2 (p : BitVec 64 × BitVec 64) : bits .xor .u64 (IntKind.u64.wrap (nv p.2 * 2)) (IntKind.u64.wrap (nv p.1 / 9223372036854775808 * 135)) = nv (twiceP p).2 := by
  rw [top_mul, nv_shl1, nv_xor, twiceP]
  by_cases h : p.1 >>> 63 = 1#64
  · simp only [h, if_true]
  · simp only [h, if_false, BitVec.xor_zero]

set_option maxHeartbeats 400000 in
theorem raise_said (p : BitVec 64 × BitVec 64) (w : World) : Calls Try.prog 85 #[.agg #[.int .u64 (nv p.1), .int .u64 (nv p.2)]] w fun e w' => e = .returned (.agg #[.int .u64 (nv (twiceP p).1), .int .u64 (nv (twiceP p).2)]) ∧ Below w.heap.size w w' := by
  have h1 := tw1 p
  have h2 := raise2 p
  go_enter Try.func85, Try.ntmps85
  go_wp2
  refine bodyPost_ret (v := .agg #[.int .u64 (nv (twiceP p).1), .int .u64 (nv (twiceP p).2)]) (by simp [results, Try.results85, go_sem]) rfl ⟨rfl, by go_grown⟩




theorem dig_hi (b : BitVec 64 × BitVec 64) (n : Nat) (h : n < 64) : (bits .and .u64 (nv b.1 / 2 ^ (63 - n)) 1 == 1) = (cat b).getLsbD (127 - n) := by
  rw [digit, cat_bit, if_neg (by omega), show 63 - n = 127 - n - 64 from by omega]
theorem dig_lo (b : BitVec 64 × BitVec 64) (n : Nat) (h : n < 64) : (bits .and .u64 (nv b.2 / 2 ^ (63 - n)) 1 == 1) = (cat b).getLsbD (127 - (64 + n)) := by
  rw [digit, cat_bit, if_pos (by omega), show 63 - n = 127 - (64 + n) from by omega]

set_option maxHeartbeats 2000000 in
theorem mul_said : MulSaid := by
  intro a b w
  have i0 : ∀ w, (Instr.index 30 (.agg #[.int .u64 (nv b.1), .int .u64 (nv b.2)]) (.int .i64 0)).run Try.prog w = .ok (.int .u64 (nv b.1)) w := fun _ => by kernel_rfl
  have i1 : ∀ w, (Instr.index 30 (.agg #[.int .u64 (nv b.1), .int .u64 (nv b.2)]) (.int .i64 1)).run Try.prog w = .ok (.int .u64 (nv b.2)) w := fun _ => by kernel_rfl
  go_enter Try.func81, Try.ntmps81
  go_wp2
  have bA := (((Box.new w (nv a.1) (nv a.2)).alloc (.cells #[.int .u64 (nv b.1), .int .u64 (nv b.2)] 30)).alloc (.cells #[.int .u64 0, .int .u64 0] 30)).alloc (.cells #[.int .u64 0, .int .u64 0] 30)
  have bR := (Box.new ((w.alloc (.cells #[.int .u64 (nv a.1), .int .u64 (nv a.2)] 30)).alloc (.cells #[.int .u64 (nv b.1), .int .u64 (nv b.2)] 30)) 0 0).alloc (.cells #[.int .u64 0, .int .u64 0] 30)
  have bO := Box.new (((w.alloc (.cells #[.int .u64 (nv a.1), .int .u64 (nv a.2)] 30)).alloc (.cells #[.int .u64 (nv b.1), .int .u64 (nv b.2)] 30)).alloc (.cells #[.int .u64 0, .int .u64 0] 30)) 0 0
  have hB : Below w.heap.size w ((((w.alloc (.cells #[.int .u64 (nv a.1), .int .u64 (nv a.2)] 30)).alloc (.cells #[.int .u64 (nv b.1), .int .u64 (nv b.2)] 30)).alloc (.cells #[.int .u64 0, .int .u64 0] 30)).alloc (.cells #[.int .u64 0, .int .u64 0] 30)) := by go_grown
  simp only [World.size_alloc] at bA bR bO
  generalize (((w.alloc (.cells #[.int .u64 (nv a.1), .int .u64 (nv a.2)] 30)).alloc (.cells #[.int .u64 (nv b.1), .int .u64 (nv b.2)] 30)).alloc (.cells #[.int .u64 0, .int .u64 0] 30)).alloc (.cells #[.int .u64 0, .int .u64 0] 30) = W at *
  go_loopw [10] (fun i wr => ∃ (k : Nat) (m : Int), k ≤ 2 ∧ m = k ∧ i = .int .i64 m ∧ Box wr w.heap.size (nv a.1) (nv a.2) ∧ Box wr (w.heap.size + 1 + 1) 0 0 ∧ Box wr (w.heap.size + 1 + 1 + 1) (nv (mulP a b (64 * k)).1) (nv (mulP a b (64 * k)).2) ∧ Below w.heap.size w wr) (fun i _ => 2 - (intOf i).toNat)
  case atStart => exact ⟨0, 0, by decide, rfl, rfl, bA, bR, bO, hB⟩
  case round =>
    clear bA bR bO hB
    obtain ⟨k, m, hk, hm, rfl, bA, bR, bO, hB⟩ := hrel
    obtain rfl | rfl | rfl : k = 0 ∨ k = 1 ∨ k = 2 := by omega
    · obtain rfl : m = 0 := hm
      obtain ⟨wo, rfl⟩ : ∃ wo : World, wo = wr := ⟨_, rfl⟩
      go_wp2
      go_loopw [8] (fun i wr => ∃ n : Nat, n ≤ 64 ∧ i = .int .i64 (63 - (n : Int)) ∧ Box wr w.heap.size (nv a.1) (nv a.2) ∧ Box wr (w.heap.size + 1 + 1) 0 0 ∧ Box wr (w.heap.size + 1 + 1 + 1) (nv (mulP a b (n)).1) (nv (mulP a b (n)).2) ∧ Below w.heap.size w wr) (fun i _ => (intOf i + 1).toNat)
      case atStart => exact ⟨0, by decide, rfl, bA, bR, bO, hB⟩
      case round =>
        clear bA bR bO hB
        obtain ⟨n, hn, rfl, bA, bR, bO, hB⟩ := hrel
        by_cases hlt : n < 64
        · have HM := hide' (mulP_succ a b (n))
          generalize mulP a b (n) = q at *
          have o0 := bO.c0
          have o1 := bO.c1
          go_wp2_with fail
          refine (raise_said q _).mono ?_
          rintro e w1 ⟨rfl, hb1⟩
          have bA1 := bA.grown hb1
          have bR1 := bR.grown hb1
          have bO1 := bO.grown hb1
          have hB1 := hB.trans (hb1.mono hB.size)
          clear o0 o1 hb1 bA bR bO hB
          have g0 := bO1.c0
          have g1 := bO1.c1
          have g2 := bO1.frozen 0
          have g3 := bO1.frozen 1
          have k2 := bA1.c0
          have k3 := bA1.c1
          go_wp2_with fail
          · have hd : (bits .and .u64 (nv b.1 / 2 ^ (63 - n)) 1 == 1) = true := by assumption
            rw [dig_hi b n hlt] at hd
            have bA2 := bA1.set2 (o := w.heap.size + 1 + 1 + 1) (by omega) (.int .u64 (nv (twiceP q).1)) (.int .u64 (nv (twiceP q).2))
            have bR2 := bR1.set2 (o := w.heap.size + 1 + 1 + 1) (by omega) (.int .u64 (nv (twiceP q).1)) (.int .u64 (nv (twiceP q).2))
            have bO2 := bO1.put2 (nv (twiceP q).1) (nv (twiceP q).2)
            have hB2 := (hB1.setCell (p := ⟨w.heap.size + 1 + 1 + 1, 0, none⟩) (by simp only; omega) (.int .u64 (nv (twiceP q).1))).setCell (p := ⟨w.heap.size + 1 + 1 + 1, 1, none⟩) (by simp only; omega) (.int .u64 (nv (twiceP q).2))
            refine (add_said (twiceP q) a _).mono ?_
            rintro e w3 ⟨rfl, hb3⟩
            have bA3 := bA2.grown hb3
            have bR3 := bR2.grown hb3
            have bO3 := bO2.grown hb3
            have hB3 := hB2.trans (hb3.mono hB2.size)
            clear g0 g1 g2 g3 k2 k3 bA1 bR1 bO1 hB1 bA2 bR2 bO2 hB2 hb3
            have g0 := bO3.c0
            have g1 := bO3.c1
            have g2 := bO3.frozen 0
            have g3 := bO3.frozen 1
            go_wp2
            go_roundw
            case rel =>
              refine ⟨n + 1, hlt, by rw [show (63 : Int) - n - 1 = 63 - ((n + 1 : Nat) : Int) from by omega], bA3.set2 (by omega) _ _, bR3.set2 (by omega) _ _, ?_, (hB3.setCell (by simp only; omega) _).setCell (by simp only; omega) _⟩
              rw [show (n + 1) = (n) + 1 from by omega, HM.out, if_pos hd]
              exact bO3.put2 _ _
            case measure => simp [intOf]; omega
          · have hd : (bits .and .u64 (nv b.1 / 2 ^ (63 - n)) 1 == 1) = false := by assumption
            rw [dig_hi b n hlt] at hd
            go_roundw
            case rel =>
              refine ⟨n + 1, hlt, by rw [show (63 : Int) - n - 1 = 63 - ((n + 1 : Nat) : Int) from by omega], bA1.set2 (by omega) _ _, bR1.set2 (by omega) _ _, ?_, (hB1.setCell (by simp only; omega) _).setCell (by simp only; omega) _⟩
              rw [show (n + 1) = (n) + 1 from by omega, HM.out, if_neg (by rw [hd]; decide)]
              exact bO1.put2 _ _
            case measure => simp [intOf]; omega
        · obtain rfl : n = 64 := by omega
          go_wp2
          go_roundw
          case rel => exact ⟨1, 1, by decide, rfl, rfl, bA, bR, bO, hB⟩
          case measure => simp [intOf]
    · obtain rfl : m = 1 := hm
      obtain ⟨wo, rfl⟩ : ∃ wo : World, wo = wr := ⟨_, rfl⟩
      go_wp2
      go_loopw [8] (fun i wr => ∃ n : Nat, n ≤ 64 ∧ i = .int .i64 (63 - (n : Int)) ∧ Box wr w.heap.size (nv a.1) (nv a.2) ∧ Box wr (w.heap.size + 1 + 1) 0 0 ∧ Box wr (w.heap.size + 1 + 1 + 1) (nv (mulP a b (64 + n)).1) (nv (mulP a b (64 + n)).2) ∧ Below w.heap.size w wr) (fun i _ => (intOf i + 1).toNat)
      case atStart => exact ⟨0, by decide, rfl, bA, bR, bO, hB⟩
      case round =>
        clear bA bR bO hB
        obtain ⟨n, hn, rfl, bA, bR, bO, hB⟩ := hrel
        by_cases hlt : n < 64
        · have HM := hide' (mulP_succ a b (64 + n))
          generalize mulP a b (64 + n) = q at *
          have o0 := bO.c0
          have o1 := bO.c1
          go_wp2_with fail
          refine (raise_said q _).mono ?_
          rintro e w1 ⟨rfl, hb1⟩
          have bA1 := bA.grown hb1
          have bR1 := bR.grown hb1
          have bO1 := bO.grown hb1
          have hB1 := hB.trans (hb1.mono hB.size)
          clear o0 o1 hb1 bA bR bO hB
          have g0 := bO1.c0
          have g1 := bO1.c1
          have g2 := bO1.frozen 0
          have g3 := bO1.frozen 1
          have k2 := bA1.c0
          have k3 := bA1.c1
          go_wp2_with fail
          · have hd : (bits .and .u64 (nv b.2 / 2 ^ (63 - n)) 1 == 1) = true := by assumption
            rw [dig_lo b n hlt] at hd
            have bA2 := bA1.set2 (o := w.heap.size + 1 + 1 + 1) (by omega) (.int .u64 (nv (twiceP q).1)) (.int .u64 (nv (twiceP q).2))
            have bR2 := bR1.set2 (o := w.heap.size + 1 + 1 + 1) (by omega) (.int .u64 (nv (twiceP q).1)) (.int .u64 (nv (twiceP q).2))
            have bO2 := bO1.put2 (nv (twiceP q).1) (nv (twiceP q).2)
            have hB2 := (hB1.setCell (p := ⟨w.heap.size + 1 + 1 + 1, 0, none⟩) (by simp only; omega) (.int .u64 (nv (twiceP q).1))).setCell (p := ⟨w.heap.size + 1 + 1 + 1, 1, none⟩) (by simp only; omega) (.int .u64 (nv (twiceP q).2))
            refine (add_said (twiceP q) a _).mono ?_
            rintro e w3 ⟨rfl, hb3⟩
            have bA3 := bA2.grown hb3
            have bR3 := bR2.grown hb3
            have bO3 := bO2.grown hb3
            have hB3 := hB2.trans (hb3.mono hB2.size)
            clear g0 g1 g2 g3 k2 k3 bA1 bR1 bO1 hB1 bA2 bR2 bO2 hB2 hb3
            have g0 := bO3.c0
            have g1 := bO3.c1
            have g2 := bO3.frozen 0
            have g3 := bO3.frozen 1
            go_wp2
            go_roundw
            case rel =>
              refine ⟨n + 1, hlt, by rw [show (63 : Int) - n - 1 = 63 - ((n + 1 : Nat) : Int) from by omega], bA3.set2 (by omega) _ _, bR3.set2 (by omega) _ _, ?_, (hB3.setCell (by simp only; omega) _).setCell (by simp only; omega) _⟩
              rw [show 64 + (n + 1) = (64 + n) + 1 from by omega, HM.out, if_pos hd]
              exact bO3.put2 _ _
            case measure => simp [intOf]; omega
          · have hd : (bits .and .u64 (nv b.2 / 2 ^ (63 - n)) 1 == 1) = false := by assumption
            rw [dig_lo b n hlt] at hd
            go_roundw
            case rel =>
              refine ⟨n + 1, hlt, by rw [show (63 : Int) - n - 1 = 63 - ((n + 1 : Nat) : Int) from by omega], bA1.set2 (by omega) _ _, bR1.set2 (by omega) _ _, ?_, (hB1.setCell (by simp only; omega) _).setCell (by simp only; omega) _⟩
              rw [show 64 + (n + 1) = (64 + n) + 1 from by omega, HM.out, if_neg (by rw [hd]; decide)]
              exact bO1.put2 _ _
            case measure => simp [intOf]; omega
        · obtain rfl : n = 64 := by omega
          go_wp2
          go_roundw
          case rel => exact ⟨2, 2, by decide, rfl, rfl, bA, bR, bO, hB⟩
          case measure => simp [intOf]
    · obtain rfl : m = 2 := hm
      have g0 := bO.c0
      have g1 := bO.c1
      have g2 := bR.frozen 0
      have g3 := bR.frozen 1
      have g4 := bR.c0
      have g5 := bR.c1
      go_wp2
      refine bodyPost_ret (v := .agg #[.int .u64 (nv (mulP a b 128).1), .int .u64 (nv (mulP a b 128).2)]) (by simp [results, Try.results81, go_sem, g4, g5]) rfl ⟨rfl, ?_⟩
      exact (hB.setCell (by simp only; omega) _).setCell (by simp only; omega) _
end Go.Proofs.Ytkkehbebaokdmaa
