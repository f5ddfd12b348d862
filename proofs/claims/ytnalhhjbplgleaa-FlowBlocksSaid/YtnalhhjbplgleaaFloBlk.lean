/- FlowBlocks' walk, where flow's functions are what the document has. -/
import Derived.Test.YtnalhhjbplgleaaFloLaws
namespace Go.Proofs.Ytnalhhjbplgleaa
open Go.RowKit

theorem rbytes_gives (p : BitVec 64 × BitVec 64) (w : World) : Calls Try.prog 15 #[.agg #[.int .u64 (nv p.1), .int .u64 (nv p.2)]] w fun e w' => Gives e w' (pairL p) ∧ Below w.heap.size w w' :=
  (rbytes p w).mono fun _ _ ⟨_, he, ho, hb⟩ => ⟨he ▸ own_gives (pairL_length p) ho, hb⟩
set_option maxRecDepth 10000 in
set_option maxHeartbeats 4000000 in
theorem blocks_in (hF : FlowSaid) (sub : BitVec 64 × BitVec 64) (i : Nat) (hi : i ≤ 30) (w : World) : Calls Try.prog 7 #[.agg #[.int .u64 (nv sub.1), .int .u64 (nv sub.2)], .int .i64 i] w fun e w' => e = .returned (.bool true) ∧ Below w.heap.size w w' := by
  go_enter Try.func7, Try.ntmps7
  go_wp2_with fail
  have b0 := Box.new w (nv sub.1) (nv sub.2)
  have hB : Below w.heap.size w (w.alloc (.cells #[.int .u64 (nv sub.1), .int .u64 (nv sub.2)] 24)) := by go_grown
  generalize (w.alloc (.cells #[.int .u64 (nv sub.1), .int .u64 (nv sub.2)] 24)) = W at *
  refine (flow_in hF sub (16 * (i + 1)) (by omega) rfl rfl (by omega) _).mono ?_
  rintro e w1 ⟨⟨x1, c1, rfl, s1, hc1, -, -⟩, hb⟩
  replace b0 := b0.grown hb
  replace hB := hB.trans (hb.mono hB.size)
  clear hb
  have s0 := s1.tail (s := 16 * i) hc1
  rw [flowL_block sub i] at s0
  unfold blk1 at s0
  have hst := fun w => sl_tail x1 (16 * (i + 1)) c1 (16 * i) (by omega) w
  have e1 : ((16 * i : Nat) : Int) = 16 * (i : Int) := by omega
  have e2 : 16 * (i + 1) - 16 * i = 16 := by omega
  rw [e2] at s0
  simp only [e1, e2] at hst
  clear e1 e2
  generalize nextA x1 c1 (16 * i) = x0 at *
  generalize c1 - 16 * i = c0 at *
  go_wp2_with fail
  have w1_e : IntKind.i64.wrap (16 * (i : Int)) = 16 * (i : Int) := by rw [IntKind.wrap_i64]; omega
  have w2_e : IntKind.i64.wrap ((i : Int) + 1) = (i : Int) + 1 := by rw [IntKind.wrap_i64]; omega
  have w3_e : IntKind.u64.wrap ((i : Int) + 1) = (i : Int) + 1 := by rw [IntKind.wrap_u64]; omega
  refine wp_region_held_drew (S := fun w' => Below w1.heap.size w1 w') (by kernel_rfl) (Below.refl _ _).drew (fun hHeld => ?_)
  refine takeM 0 23 5 rfl rfl rfl (by kernel_rfl) (by kernel_rfl) (by kernel_rfl) (fun _ _ _ h => h) (by rfl) hHeld rfl ?_
  simp only [List.set_cons_succ, List.set_cons_zero]
  refine takeM 1 24 1 rfl rfl rfl (by kernel_rfl) (by kernel_rfl) (by kernel_rfl) (fun _ _ _ h => h) (by rfl) hHeld rfl ?_
  simp only [List.set_cons_succ, List.set_cons_zero]
  refine takeL 2 25 (v := ?_) rfl rfl (by kernel_rfl) (by kernel_rfl) (by kernel_rfl) (fun _ _ _ h => h) (by rfl) hHeld (fun w hSw => ?_) ?_
  rotate_left 1
  · (try dsimp only at hSw)
    clear hSw
    go_simp
    try with_reducible rfl
  simp only [List.set_cons_succ, List.set_cons_zero]
  refine takeL 3 26 (v := ?_) rfl rfl (by kernel_rfl) (by kernel_rfl) (by kernel_rfl) (fun _ _ _ h => h) (by rfl) hHeld (fun w hSw => ?_) ?_
  rotate_left 1
  · (try dsimp only at hSw)
    clear hSw
    go_simp
    try with_reducible rfl
  simp only [List.set_cons_succ, List.set_cons_zero]
  refine takeL 4 27 (v := ?_) rfl rfl (by kernel_rfl) (by kernel_rfl) (by kernel_rfl) (fun _ _ _ h => h) (by rfl) hHeld (fun w hSw => ?_) ?_
  rotate_left 1
  · (try dsimp only at hSw)
    have e0_ := (b0.grown hSw).c0
    have e1_ := (b0.grown hSw).c1
    have e2_ := fun c => (s1.below hSw).conv (c := c)
    have e3_ := fun c => (s0.below hSw).conv (c := c)
    clear hSw
    go_simp
    try with_reducible rfl
  simp only [List.set_cons_succ, List.set_cons_zero]
  refine takeL 5 28 (v := ?_) rfl rfl (by kernel_rfl) (by kernel_rfl) (by kernel_rfl) (fun _ _ _ h => h) (by rfl) hHeld (fun w hSw => ?_) ?_
  rotate_left 1
  · (try dsimp only at hSw)
    have e0_ := (b0.grown hSw).c0
    have e1_ := (b0.grown hSw).c1
    have e2_ := fun c => (s1.below hSw).conv (c := c)
    have e3_ := fun c => (s0.below hSw).conv (c := c)
    clear hSw
    go_simp
    try with_reducible rfl
  simp only [List.set_cons_succ, List.set_cons_zero]
  refine takeM 6 29 1 rfl rfl rfl (by kernel_rfl) (by kernel_rfl) (by kernel_rfl) (fun _ _ _ h => h) (by rfl) hHeld rfl ?_
  simp only [List.set_cons_succ, List.set_cons_zero]
  refine takeL 7 30 (v := ?_) rfl rfl (by kernel_rfl) (by kernel_rfl) (by kernel_rfl) (fun _ _ _ h => h) (by rfl) hHeld (fun w hSw => ?_) ?_
  rotate_left 1
  · (try dsimp only at hSw)
    clear hSw
    go_simp
    try with_reducible rfl
  simp only [List.set_cons_succ, List.set_cons_zero]
  refine takeL 8 31 (v := ?_) rfl rfl (by kernel_rfl) (by kernel_rfl) (by kernel_rfl) (fun _ _ _ h => h) (by rfl) hHeld (fun w hSw => ?_) ?_
  rotate_left 1
  · (try dsimp only at hSw)
    have e0_ := (b0.grown hSw).c0
    have e1_ := (b0.grown hSw).c1
    have e2_ := fun c => (s1.below hSw).conv (c := c)
    have e3_ := fun c => (s0.below hSw).conv (c := c)
    clear hSw
    go_simp
    try with_reducible rfl
  simp only [List.set_cons_succ, List.set_cons_zero]
  refine takeL 9 32 (v := ?_) rfl rfl (by kernel_rfl) (by kernel_rfl) (by kernel_rfl) (fun _ _ _ h => h) (by rfl) hHeld (fun w hSw => ?_) ?_
  rotate_left 1
  · (try dsimp only at hSw)
    clear hSw
    go_simp
    try with_reducible rfl
  simp only [List.set_cons_succ, List.set_cons_zero]
  refine onlyL 10 rfl (by kernel_rfl) (by rfl) (fun K hK => ?_)
  go_wp2_with fail
  refine (rencrypt_at sub (BitVec.ofNat 64 (i + 1), 0#64) _ _ (nv_small (i + 1) (by omega)) rfl _).mono ?_
  rintro e w1_ ⟨rfl, hb⟩
  replace hb := (Below.refl _ _).drew.trans hb
  replace b0 := b0.grown hb
  replace s1 := s1.below hb
  replace s0 := s0.below hb
  replace hB := hB.trans (hb.mono hB.size)
  refine hK.out _ _ hb (fun _ => ?_)
  clear hK K hHeld
  refine held_more (S' := fun w' => Below w1_.heap.size w1_ w') (fun _ h => hb.trans (h.mono hb.size)) _ _ _ _ ?_
  have hHeld := Below.refl w1_.heap.size w1_
  clear hb
  refine onlyL 11 rfl (by kernel_rfl) (by rfl) (fun K hK => ?_)
  go_wp2_with fail
  refine (rbytes_gives _ _).mono ?_
  rintro e w2_ ⟨⟨x2, l2, c2, rfl, s2, hc2, -, -⟩, hb⟩
  replace b0 := b0.grown hb
  replace s1 := s1.below hb
  replace s0 := s0.below hb
  replace hB := hB.trans (hb.mono hB.size)
  refine hK.out _ _ hb (fun _ => ?_)
  clear hK K hHeld
  refine held_more (S' := fun w' => Below w2_.heap.size w2_ w') (fun _ h => hb.trans (h.mono hb.size)) _ _ _ _ ?_
  have hHeld := Below.refl w2_.heap.size w2_
  clear hb
  refine takeL 12 35 (v := ?_) rfl rfl (by kernel_rfl) (by kernel_rfl) (by kernel_rfl) (fun _ _ _ h => h) (by rfl) hHeld (fun w hSw => ?_) ?_
  rotate_left 1
  · (try dsimp only at hSw)
    have e0_ := (b0.grown hSw).c0
    have e1_ := (b0.grown hSw).c1
    have e2_ := fun c => (s1.below hSw).conv (c := c)
    have e3_ := fun c => (s0.below hSw).conv (c := c)
    have e4_ := fun c => (s2.below hSw).conv (c := c)
    clear hSw
    go_simp
    try with_reducible rfl
  simp only [List.set_cons_succ, List.set_cons_zero]
  refine takeL 13 36 (v := ?_) rfl rfl (by kernel_rfl) (by kernel_rfl) (by kernel_rfl) (fun _ _ _ h => h) (by rfl) hHeld (fun w hSw => ?_) ?_
  rotate_left 1
  · (try dsimp only at hSw)
    clear hSw
    go_simp
    try with_reducible rfl
  simp only [List.set_cons_succ, List.set_cons_zero]
  refine takeM 14 37 36 rfl rfl rfl (by kernel_rfl) (by kernel_rfl) (by kernel_rfl) (fun _ _ _ h => h) (by rfl) hHeld rfl ?_
  simp only [List.set_cons_succ, List.set_cons_zero]
  refine onlyL 15 rfl (by kernel_rfl) (by rfl) (fun K hK => ?_)
  go_wp2_with fail
  refine (known_true hF _).mono ?_
  rintro e w3_ ⟨rfl, hb⟩
  replace b0 := b0.grown hb
  replace s1 := s1.below hb
  replace s0 := s0.below hb
  replace s2 := s2.below hb
  replace hB := hB.trans (hb.mono hB.size)
  refine hK.out _ _ hb (fun _ => ?_)
  clear hK K hHeld
  refine held_more (S' := fun w' => Below w3_.heap.size w3_ w') (fun _ h => hb.trans (h.mono hb.size)) _ _ _ _ ?_
  have hHeld := Below.refl w3_.heap.size w3_
  clear hb
  refine takeL 16 39 (v := ?_) rfl rfl (by kernel_rfl) (by kernel_rfl) (by kernel_rfl) (fun _ _ _ h => h) (by rfl) hHeld (fun w hSw => ?_) ?_
  rotate_left 1
  · (try dsimp only at hSw)
    clear hSw
    go_simp
    try with_reducible rfl
  simp only [List.set_cons_succ, List.set_cons_zero]
  refine takeA 17 4 39 rfl rfl rfl (by kernel_rfl) (by kernel_rfl) (by kernel_rfl) (fun _ _ _ h => h) (by rfl) hHeld rfl ?_
  simp only [List.set_cons_succ, List.set_cons_zero]
  refine wpAnyH_done (by kernel_rfl) ?_ _
  go_wp2
  go_ret
  exact ⟨rfl, hB⟩

set_option maxHeartbeats 1000000 in
theorem blocks_out (sub : BitVec 64 × BitVec 64) (i : Int) (h : i < 0 ∨ 30 < i) (w : World) : Calls Try.prog 7 #[.agg #[.int .u64 (nv sub.1), .int .u64 (nv sub.2)], .int .i64 i] w fun e w' => e = .returned (.bool true) ∧ Below w.heap.size w w' := by
  by_cases h1 : i < 0
  · clear h
    go_enter Try.func7, Try.ntmps7
    go_wp2
    go_ret
    exact ⟨rfl, by go_grown⟩
  · have h3 : 30 < i := by omega
    clear h
    go_enter Try.func7, Try.ntmps7
    go_wp2
    go_ret
    exact ⟨rfl, by go_grown⟩
theorem blocks_any4 (hF : FlowSaid) (sub : BitVec 64 × BitVec 64) (i : Int) (w : World) : Calls Try.prog 7 #[.agg #[.int .u64 (nv sub.1), .int .u64 (nv sub.2)], .int .i64 i] w fun e w' => e = .returned (.bool true) ∧ Below w.heap.size w w' := by
  by_cases h : i < 0 ∨ 30 < i
  · exact blocks_out sub i h w
  · obtain ⟨m, rfl⟩ : ∃ m : Nat, i = m := ⟨i.toNat, by omega⟩
    exact blocks_in hF sub m (by omega) w
end Go.Proofs.Ytnalhhjbplgleaa
