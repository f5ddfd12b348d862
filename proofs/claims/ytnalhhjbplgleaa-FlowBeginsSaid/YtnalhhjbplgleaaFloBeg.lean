/- FlowBegins' walk, where flow's functions are what the document has. -/
import Derived.Test.YtnalhhjbplgleaaFloLaws
namespace Go.Proofs.Ytnalhhjbplgleaa
open Go.RowKit

set_option maxRecDepth 10000 in
set_option maxHeartbeats 4000000 in
theorem begins_in (hF : FlowSaid) (sub : BitVec 64 × BitVec 64) (a b : Nat) (hab : a ≤ b) (hb6 : b ≤ 600) (w : World) : Calls Try.prog 6 #[.agg #[.int .u64 (nv sub.1), .int .u64 (nv sub.2)], .int .i64 a, .int .i64 b] w fun e w' => e = .returned (.bool true) ∧ Below w.heap.size w w' := by
  go_enter Try.func6, Try.ntmps6
  have hsl := sl_head
  go_wp2_with fail
  have b0 := Box.new w (nv sub.1) (nv sub.2)
  have hB : Below w.heap.size w (w.alloc (.cells #[.int .u64 (nv sub.1), .int .u64 (nv sub.2)] 24)) := by go_grown
  generalize (w.alloc (.cells #[.int .u64 (nv sub.1), .int .u64 (nv sub.2)] 24)) = W at *
  refine wp_region_held_drew (S := fun w' => Below W.heap.size W w') (by kernel_rfl) (Below.refl _ _).drew (fun hHeld => ?_)
  refine takeL 0 20 (v := ?_) rfl rfl (by kernel_rfl) (by kernel_rfl) (by kernel_rfl) (fun _ _ _ h => h) (by rfl) hHeld (fun w hSw => ?_) ?_
  rotate_left 1
  · (try dsimp only at hSw)
    have e0_ := (b0.grown hSw).c0
    have e1_ := (b0.grown hSw).c1
    clear hSw
    go_simp
    try with_reducible rfl
  simp only [List.set_cons_succ, List.set_cons_zero]
  refine takeM 1 21 1 rfl rfl rfl (by kernel_rfl) (by kernel_rfl) (by kernel_rfl) (fun _ _ _ h => h) (by rfl) hHeld rfl ?_
  simp only [List.set_cons_succ, List.set_cons_zero]
  refine takeL 3 23 (v := ?_) rfl rfl (by kernel_rfl) (by kernel_rfl) (by kernel_rfl) (fun _ _ _ h => h) (by rfl) hHeld (fun w hSw => ?_) ?_
  rotate_left 1
  · (try dsimp only at hSw)
    have e0_ := (b0.grown hSw).c0
    have e1_ := (b0.grown hSw).c1
    clear hSw
    go_simp
    try with_reducible rfl
  simp only [List.set_cons_succ, List.set_cons_zero]
  refine takeM 4 24 2 rfl rfl rfl (by kernel_rfl) (by kernel_rfl) (by kernel_rfl) (fun _ _ _ h => h) (by rfl) hHeld rfl ?_
  simp only [List.set_cons_succ, List.set_cons_zero]
  refine onlyL 2 rfl (by kernel_rfl) (by rfl) (fun K hK => ?_)
  go_wp2_with fail
  refine (flow_in hF sub a (by omega) rfl rfl rfl _).mono ?_
  rintro e wa1_ ⟨⟨x1, c1, rfl, s1, hc1, -, -⟩, hb⟩
  replace hb := (Below.refl _ _).drew.trans hb
  replace b0 := b0.grown hb
  replace hB := hB.trans (hb.mono hB.size)
  refine hK.out _ _ hb (fun _ => ?_)
  clear hK K hHeld
  refine held_more (S' := fun w' => Below wa1_.heap.size wa1_ w') (fun _ h => hb.trans (h.mono hb.size)) _ _ _ _ ?_
  have hHeld := Below.refl wa1_.heap.size wa1_
  clear hb
  refine onlyL 5 rfl (by kernel_rfl) (by rfl) (fun K hK => ?_)
  go_wp2_with fail
  refine (flow_in hF sub b (by omega) rfl rfl rfl _).mono ?_
  rintro e wa2_ ⟨⟨x2, c2, rfl, s2, hc2, -, -⟩, hb⟩
  replace b0 := b0.grown hb
  replace s1 := s1.below hb
  replace hB := hB.trans (hb.mono hB.size)
  refine hK.out _ _ hb (fun _ => ?_)
  clear hK K hHeld
  refine held_more (S' := fun w' => Below wa2_.heap.size wa2_ w') (fun _ h => hb.trans (h.mono hb.size)) _ _ _ _ ?_
  have hHeld := Below.refl wa2_.heap.size wa2_
  clear hb
  refine takeA 6 7 22 rfl rfl rfl (by kernel_rfl) (by kernel_rfl) (by kernel_rfl) (fun _ _ _ h => h) (by rfl) hHeld rfl ?_
  simp only [List.set_cons_succ, List.set_cons_zero]
  refine takeA 7 8 25 rfl rfl rfl (by kernel_rfl) (by kernel_rfl) (by kernel_rfl) (fun _ _ _ h => h) (by rfl) hHeld rfl ?_
  simp only [List.set_cons_succ, List.set_cons_zero]
  refine wpAnyH_done (by kernel_rfl) ?_ _
  go_wp2_with fail
  have hac : a ≤ c2 := by omega
  have s0 := s2.head (s := a) hab
  rw [flowL_begin sub a b hab] at s0
  refine wp_region_held_drew (S := fun w' => Below wa2_.heap.size wa2_ w') (by kernel_rfl) (Below.refl _ _).drew (fun hHeld => ?_)
  refine takeM 0 26 7 rfl rfl rfl (by kernel_rfl) (by kernel_rfl) (by kernel_rfl) (fun _ _ _ h => h) (by rfl) hHeld rfl ?_
  simp only [List.set_cons_succ, List.set_cons_zero]
  refine takeL 1 27 (v := ?_) rfl rfl (by kernel_rfl) (by kernel_rfl) (by kernel_rfl) (fun _ _ _ h => h) (by rfl) hHeld (fun w hSw => ?_) ?_
  rotate_left 1
  · (try dsimp only at hSw)
    clear hSw
    go_simp
    try with_reducible rfl
  simp only [List.set_cons_succ, List.set_cons_zero]
  refine takeM 2 28 1 rfl rfl rfl (by kernel_rfl) (by kernel_rfl) (by kernel_rfl) (fun _ _ _ h => h) (by rfl) hHeld rfl ?_
  simp only [List.set_cons_succ, List.set_cons_zero]
  refine takeL 3 29 (v := ?_) rfl rfl (by kernel_rfl) (by kernel_rfl) (by kernel_rfl) (fun _ _ _ h => h) (by rfl) hHeld (fun w hSw => ?_) ?_
  rotate_left 1
  · (try dsimp only at hSw)
    clear hSw
    go_simp
    try with_reducible rfl
  simp only [List.set_cons_succ, List.set_cons_zero]
  refine takeM 4 30 29 rfl rfl rfl (by kernel_rfl) (by kernel_rfl) (by kernel_rfl) (fun _ _ _ h => h) (by rfl) hHeld rfl ?_
  simp only [List.set_cons_succ, List.set_cons_zero]
  refine takeM 5 31 8 rfl rfl rfl (by kernel_rfl) (by kernel_rfl) (by kernel_rfl) (fun _ _ _ h => h) (by rfl) hHeld rfl ?_
  simp only [List.set_cons_succ, List.set_cons_zero]
  refine takeL 6 32 (v := ?_) rfl rfl (by kernel_rfl) (by kernel_rfl) (by kernel_rfl) (fun _ _ _ h => h) (by rfl) hHeld (fun w hSw => ?_) ?_
  rotate_left 1
  · (try dsimp only at hSw)
    clear hSw
    go_simp
    try with_reducible rfl
  simp only [List.set_cons_succ, List.set_cons_zero]
  refine takeM 7 33 2 rfl rfl rfl (by kernel_rfl) (by kernel_rfl) (by kernel_rfl) (fun _ _ _ h => h) (by rfl) hHeld rfl ?_
  simp only [List.set_cons_succ, List.set_cons_zero]
  refine takeL 8 34 (v := ?_) rfl rfl (by kernel_rfl) (by kernel_rfl) (by kernel_rfl) (fun _ _ _ h => h) (by rfl) hHeld (fun w hSw => ?_) ?_
  rotate_left 1
  · (try dsimp only at hSw)
    clear hSw
    go_simp
    try with_reducible rfl
  simp only [List.set_cons_succ, List.set_cons_zero]
  refine takeL 9 35 (v := ?_) rfl rfl (by kernel_rfl) (by kernel_rfl) (by kernel_rfl) (fun _ _ _ h => h) (by rfl) hHeld (fun w hSw => ?_) ?_
  rotate_left 1
  · (try dsimp only at hSw)
    clear hSw
    go_simp
    try with_reducible rfl
  simp only [List.set_cons_succ, List.set_cons_zero]
  refine takeM 10 36 35 rfl rfl rfl (by kernel_rfl) (by kernel_rfl) (by kernel_rfl) (fun _ _ _ h => h) (by rfl) hHeld rfl ?_
  simp only [List.set_cons_succ, List.set_cons_zero]
  refine takeM 11 37 8 rfl rfl rfl (by kernel_rfl) (by kernel_rfl) (by kernel_rfl) (fun _ _ _ h => h) (by rfl) hHeld rfl ?_
  simp only [List.set_cons_succ, List.set_cons_zero]
  refine takeM 12 38 1 rfl rfl rfl (by kernel_rfl) (by kernel_rfl) (by kernel_rfl) (fun _ _ _ h => h) (by rfl) hHeld rfl ?_
  simp only [List.set_cons_succ, List.set_cons_zero]
  refine takeL 13 39 (v := ?_) rfl rfl (by kernel_rfl) (by kernel_rfl) (by kernel_rfl) (fun _ _ _ h => h) (by rfl) hHeld (fun w hSw => ?_) ?_
  rotate_left 1
  · (try dsimp only at hSw)
    clear hSw
    go_simp
    try with_reducible rfl
  simp only [List.set_cons_succ, List.set_cons_zero]
  refine takeL 14 40 (v := ?_) rfl rfl (by kernel_rfl) (by kernel_rfl) (by kernel_rfl) (fun _ _ _ h => h) (by rfl) hHeld (fun w hSw => ?_) ?_
  rotate_left 1
  · (try dsimp only at hSw)
    have e0_ := fun c => (s1.below hSw).conv (c := c)
    have e1_ := fun c => (s0.below hSw).conv (c := c)
    clear hSw
    go_simp
    try with_reducible rfl
  simp only [List.set_cons_succ, List.set_cons_zero]
  refine takeM 15 41 7 rfl rfl rfl (by kernel_rfl) (by kernel_rfl) (by kernel_rfl) (fun _ _ _ h => h) (by rfl) hHeld rfl ?_
  simp only [List.set_cons_succ, List.set_cons_zero]
  refine takeL 16 42 (v := ?_) rfl rfl (by kernel_rfl) (by kernel_rfl) (by kernel_rfl) (fun _ _ _ h => h) (by rfl) hHeld (fun w hSw => ?_) ?_
  rotate_left 1
  · (try dsimp only at hSw)
    have e0_ := fun c => (s1.below hSw).conv (c := c)
    have e1_ := fun c => (s0.below hSw).conv (c := c)
    clear hSw
    go_simp
    try with_reducible rfl
  simp only [List.set_cons_succ, List.set_cons_zero]
  refine takeL 17 43 (v := ?_) rfl rfl (by kernel_rfl) (by kernel_rfl) (by kernel_rfl) (fun _ _ _ h => h) (by rfl) hHeld (fun w hSw => ?_) ?_
  rotate_left 1
  · (try dsimp only at hSw)
    clear hSw
    go_simp
    try with_reducible rfl
  simp only [List.set_cons_succ, List.set_cons_zero]
  refine takeL 18 44 (v := ?_) rfl rfl (by kernel_rfl) (by kernel_rfl) (by kernel_rfl) (fun _ _ _ h => h) (by rfl) hHeld (fun w hSw => ?_) ?_
  rotate_left 1
  · (try dsimp only at hSw)
    clear hSw
    go_simp
    try with_reducible rfl
  simp only [List.set_cons_succ, List.set_cons_zero]
  refine takeM 19 45 44 rfl rfl rfl (by kernel_rfl) (by kernel_rfl) (by kernel_rfl) (fun _ _ _ h => h) (by rfl) hHeld rfl ?_
  simp only [List.set_cons_succ, List.set_cons_zero]
  refine onlyL 20 rfl (by kernel_rfl) (by rfl) (fun K hK => ?_)
  go_wp2_with fail
  refine (known_true hF _).mono ?_
  rintro e wb1_ ⟨rfl, hb⟩
  replace hb := (Below.refl _ _).drew.trans hb
  replace s1 := s1.below hb
  replace s0 := s0.below hb
  replace hB := hB.trans (hb.mono hB.size)
  refine hK.out _ _ hb (fun _ => ?_)
  clear hK K hHeld
  refine held_more (S' := fun w' => Below wb1_.heap.size wb1_ w') (fun _ h => hb.trans (h.mono hb.size)) _ _ _ _ ?_
  have hHeld := Below.refl wb1_.heap.size wb1_
  clear hb
  refine takeL 21 47 (v := ?_) rfl rfl (by kernel_rfl) (by kernel_rfl) (by kernel_rfl) (fun _ _ _ h => h) (by rfl) hHeld (fun w hSw => ?_) ?_
  rotate_left 1
  · (try dsimp only at hSw)
    clear hSw
    go_simp
    try with_reducible rfl
  simp only [List.set_cons_succ, List.set_cons_zero]
  refine takeA 22 6 47 rfl rfl rfl (by kernel_rfl) (by kernel_rfl) (by kernel_rfl) (fun _ _ _ h => h) (by rfl) hHeld rfl ?_
  simp only [List.set_cons_succ, List.set_cons_zero]
  refine wpAnyH_done (by kernel_rfl) ?_ _
  go_wp2
  go_ret
  exact ⟨rfl, hB⟩

set_option maxHeartbeats 1000000 in
theorem begins_out (sub : BitVec 64 × BitVec 64) (a b : Int) (h : a < 0 ∨ b < a ∨ 600 < b) (w : World) : Calls Try.prog 6 #[.agg #[.int .u64 (nv sub.1), .int .u64 (nv sub.2)], .int .i64 a, .int .i64 b] w fun e w' => e = .returned (.bool true) ∧ Below w.heap.size w w' := by
  by_cases h1 : a < 0
  · clear h
    go_enter Try.func6, Try.ntmps6
    go_wp2
    go_ret
    exact ⟨rfl, by go_grown⟩
  · by_cases h2 : b < a
    · clear h
      go_enter Try.func6, Try.ntmps6
      go_wp2
      go_ret
      exact ⟨rfl, by go_grown⟩
    · have h3 : 600 < b := by omega
      clear h
      go_enter Try.func6, Try.ntmps6
      go_wp2
      go_ret
      exact ⟨rfl, by go_grown⟩
theorem begins_any (hF : FlowSaid) (sub : BitVec 64 × BitVec 64) (a b : Int) (w : World) : Calls Try.prog 6 #[.agg #[.int .u64 (nv sub.1), .int .u64 (nv sub.2)], .int .i64 a, .int .i64 b] w fun e w' => e = .returned (.bool true) ∧ Below w.heap.size w w' := by
  by_cases h : a < 0 ∨ b < a ∨ 600 < b
  · exact begins_out sub a b h w
  · obtain ⟨m, rfl⟩ : ∃ m : Nat, a = m := ⟨a.toNat, by omega⟩
    obtain ⟨n, rfl⟩ : ∃ n : Nat, b = n := ⟨b.toNat, by omega⟩
    exact begins_in hF sub m n (by omega) (by omega) w
end Go.Proofs.Ytnalhhjbplgleaa
