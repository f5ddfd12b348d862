/- The landed leaves: Put. -/
import Derived.Test.YtnfddebcnkdajaaLfImA
import Derived.Test.YtnfddebcnkdajaaCat
namespace Go.Proofs.Ytnfddebcnkdajaa
open Go.RowKit
set_option maxRecDepth 20000

theorem putL_one (k : Nat) : putL k 1 = [(k : Int) % 256] := by
  rw [putL_succ]
  simp [putL, byteAt]
set_option maxRecDepth 20000 in
set_option maxHeartbeats 4000000 in
theorem iput_own (l : Lf) (slot : Int) (h : lfOk l slot) (wr : World) : Calls Try.prog 7 #[lfv l, .int .i64 slot] wr fun e w' => ∃ v, e = .returned (.tuple #[v, .bool true]) ∧ w'.ownsRow wr.heap.size 5 1 v 32 ((lfL l).map (Value.int .u8)) ∧ Below wr.heap.size wr w' := by
  have hi := iis l slot
  rw [show lfIs l slot = true from decide_eq_true h] at hi
  have hl : 0 ≤ l.lba ∧ l.lba < 32 := by
    obtain ⟨-, h | ⟨h, -⟩⟩ := h
    · rw [h]
      exact ⟨Int.le_refl 0, show (0 : Int) < 32 by decide⟩
    · exact h
  have hk : 0 ≤ l.kind ∧ l.kind < 3 := by
    obtain ⟨-, h | ⟨-, h | ⟨h, -⟩⟩⟩ := h
    · rw [h]
      exact ⟨Int.le_refl 0, show (0 : Int) < 3 by decide⟩
    · rw [h]
      exact ⟨show (0 : Int) ≤ 2 by decide, show (2 : Int) < 3 by decide⟩
    · omega
  clear h
  obtain ⟨k, d, lb, ep, sl, ve, t1, t2⟩ := l
  dsimp only at hl hk
  obtain ⟨lb, rfl⟩ : ∃ n : Nat, lb = n := ⟨lb.toNat, by omega⟩
  obtain ⟨k, rfl⟩ : ∃ n : Nat, k = n := ⟨k.toNat, by omega⟩
  have hlw : IntKind.u64.wrap (lb : Int) = lb := by
    rw [IntKind.wrap_u64]
    omega
  have hkw : IntKind.u64.wrap (k : Int) = k := by
    rw [IntKind.wrap_u64]
    omega
  have hk1 := putL_one k
  have hp : IntKind.u64.wrap (nv32 ep) = nv32 ep := by
    have := nv32_range ep
    rw [IntKind.wrap_u64]
    omega
  clear hl hk
  unfold lfv at hi ⊢
  dsimp only at hi ⊢
  cases d
  · have hB : Below wr.heap.size wr (wr.alloc (.cells #[.int .i64 (k : Int), .bool false, .int .i64 (lb : Int), .int .u32 (nv32 ep), .int .u32 (nv32 sl), .int .u64 (nv ve), .int .u64 (nv t1), .int .u64 (nv t2)] 29)) := (Below.refl _ _).alloc (Nat.le_refl _) _
    have bx : CBox 29 (wr.alloc (.cells #[.int .i64 (k : Int), .bool false, .int .i64 (lb : Int), .int .u32 (nv32 ep), .int .u32 (nv32 sl), .int .u64 (nv ve), .int .u64 (nv t1), .int .u64 (nv t2)] 29)) wr.heap.size #[.int .i64 (k : Int), .bool false, .int .i64 (lb : Int), .int .u32 (nv32 ep), .int .u32 (nv32 sl), .int .u64 (nv ve), .int .u64 (nv t1), .int .u64 (nv t2)] := CBox.new _ _ _
    go_enter Try.func7, Try.ntmps7
    go_wp2_with fail
    generalize wr.alloc (.cells #[.int .i64 (k : Int), .bool false, .int .i64 (lb : Int), .int .u32 (nv32 ep), .int .u32 (nv32 sl), .int .u64 (nv ve), .int .u64 (nv t1), .int .u64 (nv t2)] 29) = W at *
    refine (hi _).mono ?_
    clear hi
    rintro e w1 ⟨rfl, hb1⟩
    replace bx := bx.grown hb1
    replace hB := hB.trans (hb1.mono hB.size)
    clear hb1
    have k1 : w1.cell? ⟨wr.heap.size, 1, none⟩ = some (.bool false) := bx.cell 1
    go_wp2_with fail
    clear k1
    refine startX (S := fun w' => Below w1.heap.size w1 w') 25 (by kernel_rfl) (Below.refl _ _).drew (fun hHeld => ?_)
    refine takeY 0 13 (v := ?_) rfl rfl (by kernel_rfl) (by kernel_rfl) (by kernel_rfl) (fun _ _ _ h => h) (by rfl) (by kernel_rfl) (by kernel_rfl) (by decide) hHeld (fun w hSw => ?_) ?_
    rotate_left 1
    · (try dsimp only at hSw)
      clear hSw
      go_simp
      try with_reducible rfl
    simp only [List.set_cons_succ, List.set_cons_zero]
    refine takeY 1 14 (v := ?_) rfl rfl (by kernel_rfl) (by kernel_rfl) (by kernel_rfl) (fun _ _ _ h => h) (by rfl) (by kernel_rfl) (by kernel_rfl) (by decide) hHeld (fun w hSw => ?_) ?_
    rotate_left 1
    · (try dsimp only at hSw)
      have e0_ : w.cell? ⟨wr.heap.size, 0, none⟩ = some (.int .i64 (k : Int)) := (bx.grown hSw).cell 0
      clear hSw
      go_simp
      try with_reducible rfl
    simp only [List.set_cons_succ, List.set_cons_zero]
    refine takeY 2 15 (v := ?_) rfl rfl (by kernel_rfl) (by kernel_rfl) (by kernel_rfl) (fun _ _ _ h => h) (by rfl) (by kernel_rfl) (by kernel_rfl) (by decide) hHeld (fun w hSw => ?_) ?_
    rotate_left 1
    · (try dsimp only at hSw)
      have e0_ := hkw
      clear hSw
      go_simp
      try with_reducible rfl
    simp only [List.set_cons_succ, List.set_cons_zero]
    refine moveY 4 17 6 rfl rfl rfl (by kernel_rfl) (by kernel_rfl) (by kernel_rfl) (fun _ _ _ h => h) (by rfl) (by kernel_rfl) (by kernel_rfl) (by decide) hHeld rfl ?_
    simp only [List.set_cons_succ, List.set_cons_zero]
    refine takeY 6 19 (v := ?_) rfl rfl (by kernel_rfl) (by kernel_rfl) (by kernel_rfl) (fun _ _ _ h => h) (by rfl) (by kernel_rfl) (by kernel_rfl) (by decide) hHeld (fun w hSw => ?_) ?_
    rotate_left 1
    · (try dsimp only at hSw)
      clear hSw
      go_simp
      try with_reducible rfl
    simp only [List.set_cons_succ, List.set_cons_zero]
    refine takeY 7 20 (v := ?_) rfl rfl (by kernel_rfl) (by kernel_rfl) (by kernel_rfl) (fun _ _ _ h => h) (by rfl) (by kernel_rfl) (by kernel_rfl) (by decide) hHeld (fun w hSw => ?_) ?_
    rotate_left 1
    · (try dsimp only at hSw)
      have e2_ : w.cell? ⟨wr.heap.size, 2, none⟩ = some (.int .i64 (lb : Int)) := (bx.grown hSw).cell 2
      clear hSw
      go_simp
      try with_reducible rfl
    simp only [List.set_cons_succ, List.set_cons_zero]
    refine takeY 8 21 (v := ?_) rfl rfl (by kernel_rfl) (by kernel_rfl) (by kernel_rfl) (fun _ _ _ h => h) (by rfl) (by kernel_rfl) (by kernel_rfl) (by decide) hHeld (fun w hSw => ?_) ?_
    rotate_left 1
    · (try dsimp only at hSw)
      have e0_ := hlw
      clear hSw
      go_simp
      try with_reducible rfl
    simp only [List.set_cons_succ, List.set_cons_zero]
    refine takeY 10 23 (v := ?_) rfl rfl (by kernel_rfl) (by kernel_rfl) (by kernel_rfl) (fun _ _ _ h => h) (by rfl) (by kernel_rfl) (by kernel_rfl) (by decide) hHeld (fun w hSw => ?_) ?_
    rotate_left 1
    · (try dsimp only at hSw)
      clear hSw
      go_simp
      try with_reducible rfl
    simp only [List.set_cons_succ, List.set_cons_zero]
    refine takeY 11 24 (v := ?_) rfl rfl (by kernel_rfl) (by kernel_rfl) (by kernel_rfl) (fun _ _ _ h => h) (by rfl) (by kernel_rfl) (by kernel_rfl) (by decide) hHeld (fun w hSw => ?_) ?_
    rotate_left 1
    · (try dsimp only at hSw)
      clear hSw
      go_simp
      try with_reducible rfl
    simp only [List.set_cons_succ, List.set_cons_zero]
    refine takeY 12 25 (v := ?_) rfl rfl (by kernel_rfl) (by kernel_rfl) (by kernel_rfl) (fun _ _ _ h => h) (by rfl) (by kernel_rfl) (by kernel_rfl) (by decide) hHeld (fun w hSw => ?_) ?_
    rotate_left 1
    · (try dsimp only at hSw)
      have e3_ : w.cell? ⟨wr.heap.size, 3, none⟩ = some (.int .u32 (nv32 ep)) := (bx.grown hSw).cell 3
      clear hSw
      go_simp
      try with_reducible rfl
    simp only [List.set_cons_succ, List.set_cons_zero]
    refine takeY 13 26 (v := ?_) rfl rfl (by kernel_rfl) (by kernel_rfl) (by kernel_rfl) (fun _ _ _ h => h) (by rfl) (by kernel_rfl) (by kernel_rfl) (by decide) hHeld (fun w hSw => ?_) ?_
    rotate_left 1
    · (try dsimp only at hSw)
      have e0_ := hp
      clear hSw
      go_simp
      try with_reducible rfl
    simp only [List.set_cons_succ, List.set_cons_zero]
    refine takeY 15 28 (v := ?_) rfl rfl (by kernel_rfl) (by kernel_rfl) (by kernel_rfl) (fun _ _ _ h => h) (by rfl) (by kernel_rfl) (by kernel_rfl) (by decide) hHeld (fun w hSw => ?_) ?_
    rotate_left 1
    · (try dsimp only at hSw)
      clear hSw
      go_simp
      try with_reducible rfl
    simp only [List.set_cons_succ, List.set_cons_zero]
    refine takeY 16 29 (v := ?_) rfl rfl (by kernel_rfl) (by kernel_rfl) (by kernel_rfl) (fun _ _ _ h => h) (by rfl) (by kernel_rfl) (by kernel_rfl) (by decide) hHeld (fun w hSw => ?_) ?_
    rotate_left 1
    · (try dsimp only at hSw)
      clear hSw
      go_simp
      try with_reducible rfl
    simp only [List.set_cons_succ, List.set_cons_zero]
    refine takeY 17 30 (v := ?_) rfl rfl (by kernel_rfl) (by kernel_rfl) (by kernel_rfl) (fun _ _ _ h => h) (by rfl) (by kernel_rfl) (by kernel_rfl) (by decide) hHeld (fun w hSw => ?_) ?_
    rotate_left 1
    · (try dsimp only at hSw)
      have e5_ : w.cell? ⟨wr.heap.size, 5, none⟩ = some (.int .u64 (nv ve)) := (bx.grown hSw).cell 5
      clear hSw
      go_simp
      try with_reducible rfl
    simp only [List.set_cons_succ, List.set_cons_zero]
    refine takeY 19 32 (v := ?_) rfl rfl (by kernel_rfl) (by kernel_rfl) (by kernel_rfl) (fun _ _ _ h => h) (by rfl) (by kernel_rfl) (by kernel_rfl) (by decide) hHeld (fun w hSw => ?_) ?_
    rotate_left 1
    · (try dsimp only at hSw)
      clear hSw
      go_simp
      try with_reducible rfl
    simp only [List.set_cons_succ, List.set_cons_zero]
    refine takeY 20 33 (v := ?_) rfl rfl (by kernel_rfl) (by kernel_rfl) (by kernel_rfl) (fun _ _ _ h => h) (by rfl) (by kernel_rfl) (by kernel_rfl) (by decide) hHeld (fun w hSw => ?_) ?_
    rotate_left 1
    · (try dsimp only at hSw)
      have e6_ : w.cell? ⟨wr.heap.size, 6, none⟩ = some (.int .u64 (nv t1)) := (bx.grown hSw).cell 6
      have e7_ : w.cell? ⟨wr.heap.size, 7, none⟩ = some (.int .u64 (nv t2)) := (bx.grown hSw).cell 7
      clear hSw
      go_simp
      try with_reducible rfl
    simp only [List.set_cons_succ, List.set_cons_zero]
    refine onlyX 3 rfl (by kernel_rfl) (by rfl) (fun K hK => ?_)
    go_wp2_with fail
    refine (wput_in k 1 (by decide) (by decide) _).mono ?_
    rintro e v0 ⟨x0, c0, rfl, s0, f0, hb⟩
    have hW0 : Below w1.heap.size w1 v0 := ((Below.refl w1.heap.size w1).drew).trans (hb.mono ((Below.refl w1.heap.size w1).drew).size)
    refine hK.out _ _ (fun _ => hW0) (fun _ => ?_)
    clear hK K hb hHeld
    refine onlyX 5 rfl (by kernel_rfl) (by rfl) (fun K hK => ?_)
    go_wp2_with fail
    refine (wput_in 0 1 (by decide) (by decide) _).mono ?_
    rintro e v1 ⟨x1, c1, rfl, s1, f1, hb⟩
    have hW1 : Below w1.heap.size w1 v1 := (hW0).trans (hb.mono (hW0).size)
    replace s0 := s0.below hb
    refine hK.out _ _ (fun _ => hW1) (fun _ => ?_)
    clear hK K hb hW0
    refine onlyX 9 rfl (by kernel_rfl) (by rfl) (fun K hK => ?_)
    go_wp2_with fail
    refine (wput_in lb 2 (by decide) (by decide) _).mono ?_
    rintro e v2 ⟨x2, c2, rfl, s2, f2, hb⟩
    have hW2 : Below w1.heap.size w1 v2 := (hW1).trans (hb.mono (hW1).size)
    replace s0 := s0.below hb
    replace s1 := s1.below hb
    refine hK.out _ _ (fun _ => hW2) (fun _ => ?_)
    clear hK K hb hW1
    refine onlyX 14 rfl (by kernel_rfl) (by rfl) (fun K hK => ?_)
    go_wp2_with fail
    refine (wput_in ep.toNat 4 (by decide) (by decide) _).mono ?_
    rintro e v3 ⟨x3, c3, rfl, s3, f3, hb⟩
    have hW3 : Below w1.heap.size w1 v3 := (hW2).trans (hb.mono (hW2).size)
    replace s0 := s0.below hb
    replace s1 := s1.below hb
    replace s2 := s2.below hb
    refine hK.out _ _ (fun _ => hW3) (fun _ => ?_)
    clear hK K hb hW2
    refine onlyX 18 rfl (by kernel_rfl) (by rfl) (fun K hK => ?_)
    go_wp2_with fail
    refine (wput_in ve.toNat 8 (by decide) (by decide) _).mono ?_
    rintro e v4 ⟨x4, c4, rfl, s4, f4, hb⟩
    have hW4 : Below w1.heap.size w1 v4 := (hW3).trans (hb.mono (hW3).size)
    replace s0 := s0.below hb
    replace s1 := s1.below hb
    replace s2 := s2.below hb
    replace s3 := s3.below hb
    refine hK.out _ _ (fun _ => hW4) (fun _ => ?_)
    clear hK K hb hW3
    refine onlyX 21 rfl (by kernel_rfl) (by rfl) (fun K hK => ?_)
    go_wp2_with fail
    refine (wbytes_in (t1, t2) _).mono ?_
    rintro e v5 ⟨x5, c5, rfl, s5, f5, hb⟩
    have hW5 : Below w1.heap.size w1 v5 := (hW4).trans (hb.mono (hW4).size)
    replace s0 := s0.below hb
    replace s1 := s1.below hb
    replace s2 := s2.below hb
    replace s3 := s3.below hb
    replace s4 := s4.below hb
    refine hK.out _ _ (fun _ => hW5) (fun _ => ?_)
    clear hK K hb hW4
    refine onlyX 22 rfl (by kernel_rfl) (by rfl) (fun K hK => ?_)
    go_wp2
    have hl := lat_rows v5 [(x0, 1, c0, putL k 1), (x1, 1, c1, putL 0 1), (x2, 2, c2, putL lb 2), (x3, 4, c3, putL ep.toNat 4), (x4, 8, c4, putL ve.toNat 8), (x5, 16, c5, pairL (t1, t2))] (by
      intro q hq
      simp only [List.mem_cons, List.not_mem_nil, or_false] at hq
      rcases hq with rfl | rfl | rfl | rfl | rfl | rfl
      · exact ⟨s0, f0, putL_bytes _ _⟩
      · exact ⟨s1, f1, putL_bytes _ _⟩
      · exact ⟨s2, f2, putL_bytes _ _⟩
      · exact ⟨s3, f3, putL_bytes _ _⟩
      · exact ⟨s4, f4, putL_bytes _ _⟩
      · exact ⟨s5, f5, pairL_bytes _⟩)
    have hA : Below v5.heap.size v5 (v5.alloc (.cells #[.slice x0 1 c0, .slice x1 1 c1, .slice x2 2 c2, .slice x3 4 c3, .slice x4 8 c4, .slice x5 16 c5] 30)) := (Below.refl _ _).alloc (Nat.le_refl _) _
    have hW6 := hW5.trans (hA.mono hW5.size)
    refine hK.out _ _ (fun _ => hW6) (fun _ => ?_)
    clear hK K
    refine onlyX 23 rfl (by kernel_rfl) (by rfl) (fun K hK => ?_)
    go_wp2_with fail
    refine (iconcat [putL k 1, putL 0 1, putL lb 2, putL ep.toNat 4, putL ve.toNat 8, pairL (t1, t2)] _ 6 6 (by decide) (by simp [putL_length, pairL_length]) (Nat.le_refl _) (fun e => by cases e) _ hl).mono ?_
    rintro e v7 ⟨v, rfl, own, hb⟩
    have hW7 := hW6.trans (hb.mono hW6.size)
    refine hK.out _ _ (fun _ => hW7) (fun _ => ?_)
    clear hK K
    refine onlyX 24 rfl (by kernel_rfl) (by rfl) (fun K hK => ?_)
    go_wp2
    refine hK.out _ _ (fun _ => hW7) (fun _ => ?_)
    clear hK K
    refine onlyX 25 rfl (by kernel_rfl) (by rfl) (fun K hK => ?_)
    go_wp2
    refine hK.out _ _ (fun h => absurd rfl h) (fun _ => ?_)
    clear hK K
    refine doneX (by kernel_rfl) ?_ _
    go_wp2
    go_ret2
    have eL : [putL k 1, putL 0 1, putL lb 2, putL ep.toNat 4, putL ve.toNat 8, pairL (t1, t2)].flatten = lfL ⟨(k : Int), false, (lb : Int), ep, sl, ve, (t1, t2)⟩ := by
      unfold lfL
      simp [hk1, show putL 0 1 = [0] from by decide]
    have eN : ([putL k 1, putL 0 1, putL lb 2, putL ep.toNat 4, putL ve.toNat 8, pairL (t1, t2)].flatten).length = 32 := by rw [eL, lfL_length]
    rw [eN, eL] at own
    exact ⟨_, rfl, own_low own (Nat.le_trans hB.size hW6.size), hB.trans (hW7.mono hB.size)⟩
  · have hB : Below wr.heap.size wr (wr.alloc (.cells #[.int .i64 (k : Int), .bool true, .int .i64 (lb : Int), .int .u32 (nv32 ep), .int .u32 (nv32 sl), .int .u64 (nv ve), .int .u64 (nv t1), .int .u64 (nv t2)] 29)) := (Below.refl _ _).alloc (Nat.le_refl _) _
    have bx : CBox 29 (wr.alloc (.cells #[.int .i64 (k : Int), .bool true, .int .i64 (lb : Int), .int .u32 (nv32 ep), .int .u32 (nv32 sl), .int .u64 (nv ve), .int .u64 (nv t1), .int .u64 (nv t2)] 29)) wr.heap.size #[.int .i64 (k : Int), .bool true, .int .i64 (lb : Int), .int .u32 (nv32 ep), .int .u32 (nv32 sl), .int .u64 (nv ve), .int .u64 (nv t1), .int .u64 (nv t2)] := CBox.new _ _ _
    go_enter Try.func7, Try.ntmps7
    go_wp2_with fail
    generalize wr.alloc (.cells #[.int .i64 (k : Int), .bool true, .int .i64 (lb : Int), .int .u32 (nv32 ep), .int .u32 (nv32 sl), .int .u64 (nv ve), .int .u64 (nv t1), .int .u64 (nv t2)] 29) = W at *
    refine (hi _).mono ?_
    clear hi
    rintro e w1 ⟨rfl, hb1⟩
    replace bx := bx.grown hb1
    replace hB := hB.trans (hb1.mono hB.size)
    clear hb1
    have k1 : w1.cell? ⟨wr.heap.size, 1, none⟩ = some (.bool true) := bx.cell 1
    go_wp2_with fail
    clear k1
    refine startX (S := fun w' => Below w1.heap.size w1 w') 25 (by kernel_rfl) (Below.refl _ _).drew (fun hHeld => ?_)
    refine takeY 0 13 (v := ?_) rfl rfl (by kernel_rfl) (by kernel_rfl) (by kernel_rfl) (fun _ _ _ h => h) (by rfl) (by kernel_rfl) (by kernel_rfl) (by decide) hHeld (fun w hSw => ?_) ?_
    rotate_left 1
    · (try dsimp only at hSw)
      clear hSw
      go_simp
      try with_reducible rfl
    simp only [List.set_cons_succ, List.set_cons_zero]
    refine takeY 1 14 (v := ?_) rfl rfl (by kernel_rfl) (by kernel_rfl) (by kernel_rfl) (fun _ _ _ h => h) (by rfl) (by kernel_rfl) (by kernel_rfl) (by decide) hHeld (fun w hSw => ?_) ?_
    rotate_left 1
    · (try dsimp only at hSw)
      have e0_ : w.cell? ⟨wr.heap.size, 0, none⟩ = some (.int .i64 (k : Int)) := (bx.grown hSw).cell 0
      clear hSw
      go_simp
      try with_reducible rfl
    simp only [List.set_cons_succ, List.set_cons_zero]
    refine takeY 2 15 (v := ?_) rfl rfl (by kernel_rfl) (by kernel_rfl) (by kernel_rfl) (fun _ _ _ h => h) (by rfl) (by kernel_rfl) (by kernel_rfl) (by decide) hHeld (fun w hSw => ?_) ?_
    rotate_left 1
    · (try dsimp only at hSw)
      have e0_ := hkw
      clear hSw
      go_simp
      try with_reducible rfl
    simp only [List.set_cons_succ, List.set_cons_zero]
    refine moveY 4 17 6 rfl rfl rfl (by kernel_rfl) (by kernel_rfl) (by kernel_rfl) (fun _ _ _ h => h) (by rfl) (by kernel_rfl) (by kernel_rfl) (by decide) hHeld rfl ?_
    simp only [List.set_cons_succ, List.set_cons_zero]
    refine takeY 6 19 (v := ?_) rfl rfl (by kernel_rfl) (by kernel_rfl) (by kernel_rfl) (fun _ _ _ h => h) (by rfl) (by kernel_rfl) (by kernel_rfl) (by decide) hHeld (fun w hSw => ?_) ?_
    rotate_left 1
    · (try dsimp only at hSw)
      clear hSw
      go_simp
      try with_reducible rfl
    simp only [List.set_cons_succ, List.set_cons_zero]
    refine takeY 7 20 (v := ?_) rfl rfl (by kernel_rfl) (by kernel_rfl) (by kernel_rfl) (fun _ _ _ h => h) (by rfl) (by kernel_rfl) (by kernel_rfl) (by decide) hHeld (fun w hSw => ?_) ?_
    rotate_left 1
    · (try dsimp only at hSw)
      have e2_ : w.cell? ⟨wr.heap.size, 2, none⟩ = some (.int .i64 (lb : Int)) := (bx.grown hSw).cell 2
      clear hSw
      go_simp
      try with_reducible rfl
    simp only [List.set_cons_succ, List.set_cons_zero]
    refine takeY 8 21 (v := ?_) rfl rfl (by kernel_rfl) (by kernel_rfl) (by kernel_rfl) (fun _ _ _ h => h) (by rfl) (by kernel_rfl) (by kernel_rfl) (by decide) hHeld (fun w hSw => ?_) ?_
    rotate_left 1
    · (try dsimp only at hSw)
      have e0_ := hlw
      clear hSw
      go_simp
      try with_reducible rfl
    simp only [List.set_cons_succ, List.set_cons_zero]
    refine takeY 10 23 (v := ?_) rfl rfl (by kernel_rfl) (by kernel_rfl) (by kernel_rfl) (fun _ _ _ h => h) (by rfl) (by kernel_rfl) (by kernel_rfl) (by decide) hHeld (fun w hSw => ?_) ?_
    rotate_left 1
    · (try dsimp only at hSw)
      clear hSw
      go_simp
      try with_reducible rfl
    simp only [List.set_cons_succ, List.set_cons_zero]
    refine takeY 11 24 (v := ?_) rfl rfl (by kernel_rfl) (by kernel_rfl) (by kernel_rfl) (fun _ _ _ h => h) (by rfl) (by kernel_rfl) (by kernel_rfl) (by decide) hHeld (fun w hSw => ?_) ?_
    rotate_left 1
    · (try dsimp only at hSw)
      clear hSw
      go_simp
      try with_reducible rfl
    simp only [List.set_cons_succ, List.set_cons_zero]
    refine takeY 12 25 (v := ?_) rfl rfl (by kernel_rfl) (by kernel_rfl) (by kernel_rfl) (fun _ _ _ h => h) (by rfl) (by kernel_rfl) (by kernel_rfl) (by decide) hHeld (fun w hSw => ?_) ?_
    rotate_left 1
    · (try dsimp only at hSw)
      have e3_ : w.cell? ⟨wr.heap.size, 3, none⟩ = some (.int .u32 (nv32 ep)) := (bx.grown hSw).cell 3
      clear hSw
      go_simp
      try with_reducible rfl
    simp only [List.set_cons_succ, List.set_cons_zero]
    refine takeY 13 26 (v := ?_) rfl rfl (by kernel_rfl) (by kernel_rfl) (by kernel_rfl) (fun _ _ _ h => h) (by rfl) (by kernel_rfl) (by kernel_rfl) (by decide) hHeld (fun w hSw => ?_) ?_
    rotate_left 1
    · (try dsimp only at hSw)
      have e0_ := hp
      clear hSw
      go_simp
      try with_reducible rfl
    simp only [List.set_cons_succ, List.set_cons_zero]
    refine takeY 15 28 (v := ?_) rfl rfl (by kernel_rfl) (by kernel_rfl) (by kernel_rfl) (fun _ _ _ h => h) (by rfl) (by kernel_rfl) (by kernel_rfl) (by decide) hHeld (fun w hSw => ?_) ?_
    rotate_left 1
    · (try dsimp only at hSw)
      clear hSw
      go_simp
      try with_reducible rfl
    simp only [List.set_cons_succ, List.set_cons_zero]
    refine takeY 16 29 (v := ?_) rfl rfl (by kernel_rfl) (by kernel_rfl) (by kernel_rfl) (fun _ _ _ h => h) (by rfl) (by kernel_rfl) (by kernel_rfl) (by decide) hHeld (fun w hSw => ?_) ?_
    rotate_left 1
    · (try dsimp only at hSw)
      clear hSw
      go_simp
      try with_reducible rfl
    simp only [List.set_cons_succ, List.set_cons_zero]
    refine takeY 17 30 (v := ?_) rfl rfl (by kernel_rfl) (by kernel_rfl) (by kernel_rfl) (fun _ _ _ h => h) (by rfl) (by kernel_rfl) (by kernel_rfl) (by decide) hHeld (fun w hSw => ?_) ?_
    rotate_left 1
    · (try dsimp only at hSw)
      have e5_ : w.cell? ⟨wr.heap.size, 5, none⟩ = some (.int .u64 (nv ve)) := (bx.grown hSw).cell 5
      clear hSw
      go_simp
      try with_reducible rfl
    simp only [List.set_cons_succ, List.set_cons_zero]
    refine takeY 19 32 (v := ?_) rfl rfl (by kernel_rfl) (by kernel_rfl) (by kernel_rfl) (fun _ _ _ h => h) (by rfl) (by kernel_rfl) (by kernel_rfl) (by decide) hHeld (fun w hSw => ?_) ?_
    rotate_left 1
    · (try dsimp only at hSw)
      clear hSw
      go_simp
      try with_reducible rfl
    simp only [List.set_cons_succ, List.set_cons_zero]
    refine takeY 20 33 (v := ?_) rfl rfl (by kernel_rfl) (by kernel_rfl) (by kernel_rfl) (fun _ _ _ h => h) (by rfl) (by kernel_rfl) (by kernel_rfl) (by decide) hHeld (fun w hSw => ?_) ?_
    rotate_left 1
    · (try dsimp only at hSw)
      have e6_ : w.cell? ⟨wr.heap.size, 6, none⟩ = some (.int .u64 (nv t1)) := (bx.grown hSw).cell 6
      have e7_ : w.cell? ⟨wr.heap.size, 7, none⟩ = some (.int .u64 (nv t2)) := (bx.grown hSw).cell 7
      clear hSw
      go_simp
      try with_reducible rfl
    simp only [List.set_cons_succ, List.set_cons_zero]
    refine onlyX 3 rfl (by kernel_rfl) (by rfl) (fun K hK => ?_)
    go_wp2_with fail
    refine (wput_in k 1 (by decide) (by decide) _).mono ?_
    rintro e v0 ⟨x0, c0, rfl, s0, f0, hb⟩
    have hW0 : Below w1.heap.size w1 v0 := ((Below.refl w1.heap.size w1).drew).trans (hb.mono ((Below.refl w1.heap.size w1).drew).size)
    refine hK.out _ _ (fun _ => hW0) (fun _ => ?_)
    clear hK K hb hHeld
    refine onlyX 5 rfl (by kernel_rfl) (by rfl) (fun K hK => ?_)
    go_wp2_with fail
    refine (wput_in 1 1 (by decide) (by decide) _).mono ?_
    rintro e v1 ⟨x1, c1, rfl, s1, f1, hb⟩
    have hW1 : Below w1.heap.size w1 v1 := (hW0).trans (hb.mono (hW0).size)
    replace s0 := s0.below hb
    refine hK.out _ _ (fun _ => hW1) (fun _ => ?_)
    clear hK K hb hW0
    refine onlyX 9 rfl (by kernel_rfl) (by rfl) (fun K hK => ?_)
    go_wp2_with fail
    refine (wput_in lb 2 (by decide) (by decide) _).mono ?_
    rintro e v2 ⟨x2, c2, rfl, s2, f2, hb⟩
    have hW2 : Below w1.heap.size w1 v2 := (hW1).trans (hb.mono (hW1).size)
    replace s0 := s0.below hb
    replace s1 := s1.below hb
    refine hK.out _ _ (fun _ => hW2) (fun _ => ?_)
    clear hK K hb hW1
    refine onlyX 14 rfl (by kernel_rfl) (by rfl) (fun K hK => ?_)
    go_wp2_with fail
    refine (wput_in ep.toNat 4 (by decide) (by decide) _).mono ?_
    rintro e v3 ⟨x3, c3, rfl, s3, f3, hb⟩
    have hW3 : Below w1.heap.size w1 v3 := (hW2).trans (hb.mono (hW2).size)
    replace s0 := s0.below hb
    replace s1 := s1.below hb
    replace s2 := s2.below hb
    refine hK.out _ _ (fun _ => hW3) (fun _ => ?_)
    clear hK K hb hW2
    refine onlyX 18 rfl (by kernel_rfl) (by rfl) (fun K hK => ?_)
    go_wp2_with fail
    refine (wput_in ve.toNat 8 (by decide) (by decide) _).mono ?_
    rintro e v4 ⟨x4, c4, rfl, s4, f4, hb⟩
    have hW4 : Below w1.heap.size w1 v4 := (hW3).trans (hb.mono (hW3).size)
    replace s0 := s0.below hb
    replace s1 := s1.below hb
    replace s2 := s2.below hb
    replace s3 := s3.below hb
    refine hK.out _ _ (fun _ => hW4) (fun _ => ?_)
    clear hK K hb hW3
    refine onlyX 21 rfl (by kernel_rfl) (by rfl) (fun K hK => ?_)
    go_wp2_with fail
    refine (wbytes_in (t1, t2) _).mono ?_
    rintro e v5 ⟨x5, c5, rfl, s5, f5, hb⟩
    have hW5 : Below w1.heap.size w1 v5 := (hW4).trans (hb.mono (hW4).size)
    replace s0 := s0.below hb
    replace s1 := s1.below hb
    replace s2 := s2.below hb
    replace s3 := s3.below hb
    replace s4 := s4.below hb
    refine hK.out _ _ (fun _ => hW5) (fun _ => ?_)
    clear hK K hb hW4
    refine onlyX 22 rfl (by kernel_rfl) (by rfl) (fun K hK => ?_)
    go_wp2
    have hl := lat_rows v5 [(x0, 1, c0, putL k 1), (x1, 1, c1, putL 1 1), (x2, 2, c2, putL lb 2), (x3, 4, c3, putL ep.toNat 4), (x4, 8, c4, putL ve.toNat 8), (x5, 16, c5, pairL (t1, t2))] (by
      intro q hq
      simp only [List.mem_cons, List.not_mem_nil, or_false] at hq
      rcases hq with rfl | rfl | rfl | rfl | rfl | rfl
      · exact ⟨s0, f0, putL_bytes _ _⟩
      · exact ⟨s1, f1, putL_bytes _ _⟩
      · exact ⟨s2, f2, putL_bytes _ _⟩
      · exact ⟨s3, f3, putL_bytes _ _⟩
      · exact ⟨s4, f4, putL_bytes _ _⟩
      · exact ⟨s5, f5, pairL_bytes _⟩)
    have hA : Below v5.heap.size v5 (v5.alloc (.cells #[.slice x0 1 c0, .slice x1 1 c1, .slice x2 2 c2, .slice x3 4 c3, .slice x4 8 c4, .slice x5 16 c5] 30)) := (Below.refl _ _).alloc (Nat.le_refl _) _
    have hW6 := hW5.trans (hA.mono hW5.size)
    refine hK.out _ _ (fun _ => hW6) (fun _ => ?_)
    clear hK K
    refine onlyX 23 rfl (by kernel_rfl) (by rfl) (fun K hK => ?_)
    go_wp2_with fail
    refine (iconcat [putL k 1, putL 1 1, putL lb 2, putL ep.toNat 4, putL ve.toNat 8, pairL (t1, t2)] _ 6 6 (by decide) (by simp [putL_length, pairL_length]) (Nat.le_refl _) (fun e => by cases e) _ hl).mono ?_
    rintro e v7 ⟨v, rfl, own, hb⟩
    have hW7 := hW6.trans (hb.mono hW6.size)
    refine hK.out _ _ (fun _ => hW7) (fun _ => ?_)
    clear hK K
    refine onlyX 24 rfl (by kernel_rfl) (by rfl) (fun K hK => ?_)
    go_wp2
    refine hK.out _ _ (fun _ => hW7) (fun _ => ?_)
    clear hK K
    refine onlyX 25 rfl (by kernel_rfl) (by rfl) (fun K hK => ?_)
    go_wp2
    refine hK.out _ _ (fun h => absurd rfl h) (fun _ => ?_)
    clear hK K
    refine doneX (by kernel_rfl) ?_ _
    go_wp2
    go_ret2
    have eL : [putL k 1, putL 1 1, putL lb 2, putL ep.toNat 4, putL ve.toNat 8, pairL (t1, t2)].flatten = lfL ⟨(k : Int), true, (lb : Int), ep, sl, ve, (t1, t2)⟩ := by
      unfold lfL
      simp [hk1, show putL 1 1 = [1] from by decide]
    have eN : ([putL k 1, putL 1 1, putL lb 2, putL ep.toNat 4, putL ve.toNat 8, pairL (t1, t2)].flatten).length = 32 := by rw [eL, lfL_length]
    rw [eN, eL] at own
    exact ⟨_, rfl, own_low own (Nat.le_trans hB.size hW6.size), hB.trans (hW7.mono hB.size)⟩
theorem iput_yes : LfPutYes 7 := fun l slot h w => (iput_own l slot h w).mono (by
  rintro e w' ⟨v, rfl, own, hb⟩
  obtain ⟨z, c, rfl, hs, h1, h2, h3⟩ := own_sin (lfL_length l) own
  exact ⟨z, c, rfl, hs.mono (fun k _ hk => own_block own k hk), ⟨h1, h2, h3⟩, hb⟩)
theorem iput_no : LfPutNo 7 := by
  intro l slot h w
  have hi := iis l slot
  rw [show lfIs l slot = false from decide_eq_false h] at hi
  clear h
  obtain ⟨k, d, lb, ep, sl, ve, t1, t2⟩ := l
  have hB : Below w.heap.size w (w.alloc (.cells #[.int .i64 k, .bool d, .int .i64 lb, .int .u32 (nv32 ep), .int .u32 (nv32 sl), .int .u64 (nv ve), .int .u64 (nv t1), .int .u64 (nv t2)] 29)) := (Below.refl _ _).alloc (Nat.le_refl _) _
  unfold lfv at hi ⊢
  dsimp only at hi ⊢
  go_enter Try.func7, Try.ntmps7
  go_wp2_with fail
  refine (hi _).mono ?_
  rintro e w1 ⟨rfl, hb1⟩
  replace hB := hB.trans (hb1.mono hB.size)
  go_wp2
  go_ret2
  exact ⟨_, _, rfl, fit_none, hB⟩
end Go.Proofs.Ytnfddebcnkdajaa
