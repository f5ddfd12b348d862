/- What the statements on flow come to, where flow's functions are what the document has. -/
import Derived.Test.YtnalhhjbplgleaaFloSaid
namespace Go.Proofs.Ytnalhhjbplgleaa
open Go.RowKit

set_option maxRecDepth 10000 in
set_option maxHeartbeats 4000000 in
theorem known_true (hF : FlowSaid) (w : World) : Calls Try.prog 9 #[] w fun e w' => e = .returned (.bool true) ∧ Below w.heap.size w w' := by
  go_enter Try.func9, Try.ntmps9
  go_wp2
  have b0 := Box.new w 1 2
  have hB : Below w.heap.size w (w.alloc (.cells #[.int .u64 1, .int .u64 2] 24)) := by go_grown
  generalize (w.alloc (.cells #[.int .u64 1, .int .u64 2] 24)) = W at *
  refine wp_region_held_drew (S := fun w' => Below W.heap.size W w') (by kernel_rfl) (Below.refl _ _).drew (fun hHeld => ?_)
  refine takeL 0 3 (v := ?_) rfl rfl (by kernel_rfl) (by kernel_rfl) (by kernel_rfl) (fun _ _ _ h => h) (by rfl) hHeld (fun w hSw => ?_) ?_
  rotate_left 1
  · (try dsimp only at hSw)
    have e0_ := (b0.grown hSw).c0
    have e1_ := (b0.grown hSw).c1
    clear hSw
    go_simp
    try with_reducible rfl
  simp only [List.set_cons_succ, List.set_cons_zero]
  refine onlyL 1 rfl (by kernel_rfl) (by rfl) (fun K hK => ?_)
  go_wp2_with fail
  refine (flow_in hF (1#64, 2#64) 0 (by decide) rfl rfl rfl _).mono ?_
  rintro e w1_ ⟨⟨x1, c1, rfl, s1, hc1, -, -⟩, hb⟩
  replace hb := (Below.refl _ _).drew.trans hb
  replace b0 := b0.grown hb
  replace hB := hB.trans (hb.mono hB.size)
  refine hK.out _ _ hb (fun _ => ?_)
  clear hK K hHeld
  refine held_more (S' := fun w' => Below w1_.heap.size w1_ w') (fun _ h => hb.trans (h.mono hb.size)) _ _ _ _ ?_
  have hHeld := Below.refl w1_.heap.size w1_
  clear hb
  refine takeL 2 5 (v := ?_) rfl rfl (by kernel_rfl) (by kernel_rfl) (by kernel_rfl) (fun _ _ _ h => h) (by rfl) hHeld (fun w hSw => ?_) ?_
  rotate_left 1
  · (try dsimp only at hSw)
    clear hSw
    go_simp
    try with_reducible rfl
  simp only [List.set_cons_succ, List.set_cons_zero]
  refine takeL 3 6 (v := ?_) rfl rfl (by kernel_rfl) (by kernel_rfl) (by kernel_rfl) (fun _ _ _ h => h) (by rfl) hHeld (fun w hSw => ?_) ?_
  rotate_left 1
  · (try dsimp only at hSw)
    clear hSw
    go_simp
    try with_reducible rfl
  simp only [List.set_cons_succ, List.set_cons_zero]
  refine takeM 4 7 6 rfl rfl rfl (by kernel_rfl) (by kernel_rfl) (by kernel_rfl) (fun _ _ _ h => h) (by rfl) hHeld rfl ?_
  simp only [List.set_cons_succ, List.set_cons_zero]
  refine takeL 5 8 (v := ?_) rfl rfl (by kernel_rfl) (by kernel_rfl) (by kernel_rfl) (fun _ _ _ h => h) (by rfl) hHeld (fun w hSw => ?_) ?_
  rotate_left 1
  · (try dsimp only at hSw)
    have e0_ := (b0.grown hSw).c0
    have e1_ := (b0.grown hSw).c1
    clear hSw
    go_simp
    try with_reducible rfl
  simp only [List.set_cons_succ, List.set_cons_zero]
  refine takeL 8 11 (v := ?_) rfl rfl (by kernel_rfl) (by kernel_rfl) (by kernel_rfl) (fun _ _ _ h => h) (by rfl) hHeld (fun w hSw => ?_) ?_
  rotate_left 1
  · (try dsimp only at hSw)
    have e0_ := (b0.grown hSw).c0
    have e1_ := (b0.grown hSw).c1
    clear hSw
    go_simp
    try with_reducible rfl
  simp only [List.set_cons_succ, List.set_cons_zero]
  refine onlyL 6 rfl (by kernel_rfl) (by rfl) (fun K hK => ?_)
  go_wp2_with fail
  refine (flow_in hF (1#64, 2#64) 20 (by decide) rfl rfl rfl _).mono ?_
  rintro e w2_ ⟨⟨x2, c2, rfl, s2, hc2, -, -⟩, hb⟩
  replace b0 := b0.grown hb
  replace hB := hB.trans (hb.mono hB.size)
  refine hK.out _ _ hb (fun _ => ?_)
  clear hK K hHeld
  refine held_more (S' := fun w' => Below w2_.heap.size w2_ w') (fun _ h => hb.trans (h.mono hb.size)) _ _ _ _ ?_
  have hHeld := Below.refl w2_.heap.size w2_
  clear hb
  refine takeL 7 10 (v := ?_) rfl rfl (by kernel_rfl) (by kernel_rfl) (by kernel_rfl) (fun _ _ _ h => h) (by rfl) hHeld (fun w hSw => ?_) ?_
  rotate_left 1
  · (try dsimp only at hSw)
    have e0_ := (b0.grown hSw).c0
    have e1_ := (b0.grown hSw).c1
    have e2_ := fun c => (s2.below hSw).conv (c := c)
    clear hSw
    go_simp
    try with_reducible rfl
  simp only [List.set_cons_succ, List.set_cons_zero]
  refine onlyL 9 rfl (by kernel_rfl) (by rfl) (fun K hK => ?_)
  go_wp2_with fail
  refine (rflow_at (1#64, 2#64) 20 (by decide) rfl rfl rfl _).mono ?_
  rintro e w3_ ⟨⟨x3, c3, rfl, s3, hc3, -, -⟩, hb⟩
  replace b0 := b0.grown hb
  replace s2 := s2.below hb
  replace hB := hB.trans (hb.mono hB.size)
  refine hK.out _ _ hb (fun _ => ?_)
  clear hK K hHeld
  refine held_more (S' := fun w' => Below w3_.heap.size w3_ w') (fun _ h => hb.trans (h.mono hb.size)) _ _ _ _ ?_
  have hHeld := Below.refl w3_.heap.size w3_
  clear hb
  refine takeL 10 13 (v := ?_) rfl rfl (by kernel_rfl) (by kernel_rfl) (by kernel_rfl) (fun _ _ _ h => h) (by rfl) hHeld (fun w hSw => ?_) ?_
  rotate_left 1
  · (try dsimp only at hSw)
    have e0_ := (b0.grown hSw).c0
    have e1_ := (b0.grown hSw).c1
    have e2_ := fun c => (s2.below hSw).conv (c := c)
    have e3_ := fun c => (s3.below hSw).conv (c := c)
    clear hSw
    go_simp
    try with_reducible rfl
  simp only [List.set_cons_succ, List.set_cons_zero]
  refine takeL 11 14 (v := ?_) rfl rfl (by kernel_rfl) (by kernel_rfl) (by kernel_rfl) (fun _ _ _ h => h) (by rfl) hHeld (fun w hSw => ?_) ?_
  rotate_left 1
  · (try dsimp only at hSw)
    clear hSw
    go_simp
    try with_reducible rfl
  simp only [List.set_cons_succ, List.set_cons_zero]
  refine takeL 12 15 (v := ?_) rfl rfl (by kernel_rfl) (by kernel_rfl) (by kernel_rfl) (fun _ _ _ h => h) (by rfl) hHeld (fun w hSw => ?_) ?_
  rotate_left 1
  · (try dsimp only at hSw)
    clear hSw
    go_simp
    try with_reducible rfl
  simp only [List.set_cons_succ, List.set_cons_zero]
  refine takeA 13 0 15 rfl rfl rfl (by kernel_rfl) (by kernel_rfl) (by kernel_rfl) (fun _ _ _ h => h) (by rfl) hHeld rfl ?_
  simp only [List.set_cons_zero]
  refine wpAnyH_done (by kernel_rfl) ?_ _
  go_wp2
  go_ret
  exact ⟨rfl, hB⟩

theorem rsub_is (key : BitVec 64 × BitVec 64) (n : Nn) {q : BitVec 64 × BitVec 64} (h : subP key n = q) (w : World) : Calls Try.prog 11 #[.agg #[.int .u64 (nv key.1), .int .u64 (nv key.2)], .agg #[.int .u32 (nv32 n.1), .int .u32 (nv32 n.2.1), .int .u64 (nv n.2.2)]] w fun e w' => e = .returned (.agg #[.int .u64 (nv q.1), .int .u64 (nv q.2)]) ∧ Below w.heap.size w w' := h ▸ rsub key n w
set_option maxRecDepth 10000 in
set_option maxHeartbeats 4000000 in
theorem bytes_any4 (hS : SubSaid) (hF : FlowSaid) (key : BitVec 64 × BitVec 64) (n : Nn) (many : Int) (w : World) : Calls Try.prog 3 #[.agg #[.int .u64 (nv key.1), .int .u64 (nv key.2)], .agg #[.int .u32 (nv32 n.1), .int .u32 (nv32 n.2.1), .int .u64 (nv n.2.2)], .int .i64 many] w fun e w' => e = .returned (.bool true) ∧ Below w.heap.size w w' := by
  have heq := eq32
  go_enter Try.func3, Try.ntmps3
  by_cases h : 4000 < many
  · go_wp2_with fail
    have b0 := (Box.new w (nv key.1) (nv key.2)).alloc (.cells #[.int .u32 (nv32 n.1), .int .u32 (nv32 n.2.1), .int .u64 (nv n.2.2)] 27)
    have b1 := NBox.new (w.alloc (.cells #[.int .u64 (nv key.1), .int .u64 (nv key.2)] 24)) n
    simp only [World.size_alloc] at b1
    have hB : Below w.heap.size w ((w.alloc (.cells #[.int .u64 (nv key.1), .int .u64 (nv key.2)] 24)).alloc (.cells #[.int .u32 (nv32 n.1), .int .u32 (nv32 n.2.1), .int .u64 (nv n.2.2)] 27)) := by go_grown
    generalize ((w.alloc (.cells #[.int .u64 (nv key.1), .int .u64 (nv key.2)] 24)).alloc (.cells #[.int .u32 (nv32 n.1), .int .u32 (nv32 n.2.1), .int .u64 (nv n.2.2)] 27)) = W at *
    refine (flow_out hF key many (Or.inr h) _).mono ?_
    rintro e w1 ⟨⟨x1, c1, rfl⟩, hb⟩
    replace hB := hB.trans (hb.mono hB.size)
    clear hb
    go_wp2_with fail
    refine (known_true hF _).mono ?_
    rintro e w2 ⟨rfl, hb⟩
    replace hB := hB.trans (hb.mono hB.size)
    go_wp2
    go_ret
    exact ⟨rfl, hB⟩
  · go_wp2_with fail
    have b0 := (Box.new w (nv key.1) (nv key.2)).alloc (.cells #[.int .u32 (nv32 n.1), .int .u32 (nv32 n.2.1), .int .u64 (nv n.2.2)] 27)
    have b1 := NBox.new (w.alloc (.cells #[.int .u64 (nv key.1), .int .u64 (nv key.2)] 24)) n
    simp only [World.size_alloc] at b1
    have hB : Below w.heap.size w ((w.alloc (.cells #[.int .u64 (nv key.1), .int .u64 (nv key.2)] 24)).alloc (.cells #[.int .u32 (nv32 n.1), .int .u32 (nv32 n.2.1), .int .u64 (nv n.2.2)] 27)) := by go_grown
    generalize ((w.alloc (.cells #[.int .u64 (nv key.1), .int .u64 (nv key.2)] 24)).alloc (.cells #[.int .u32 (nv32 n.1), .int .u32 (nv32 n.2.1), .int .u64 (nv n.2.2)] 27)) = W at *
    refine (hS key n _).mono ?_
    rintro e wn ⟨rfl, hb⟩
    replace b0 := b0.grown hb
    replace b1 := b1.grown hb
    replace hB := hB.trans (hb.mono hB.size)
    clear hb
    obtain ⟨q, HQ⟩ : ∃ q, Hid (subP key n = q) := ⟨_, rfl⟩
    rw [HQ.out]
    go_wp2_with fail
    have b2 := Box.new wn (nv q.1) (nv q.2)
    replace b0 := b0.alloc (.cells #[.int .u64 (nv q.1), .int .u64 (nv q.2)] 24)
    replace b1 := b1.alloc (.cells #[.int .u64 (nv q.1), .int .u64 (nv q.2)] 24)
    replace hB := hB.alloc hB.size (.cells #[.int .u64 (nv q.1), .int .u64 (nv q.2)] 24)
    generalize wn.alloc (.cells #[.int .u64 (nv q.1), .int .u64 (nv q.2)] 24) = W1 at *
    generalize wn.heap.size = A at *
    refine wp_region_held_drew (S := fun w' => Below W1.heap.size W1 w') (by kernel_rfl) (Below.refl _ _).drew (fun hHeld => ?_)
    refine takeL 0 21 (v := ?_) rfl rfl (by kernel_rfl) (by kernel_rfl) (by kernel_rfl) (fun _ _ _ h => h) (by rfl) hHeld (fun w hSw => ?_) ?_
    rotate_left 1
    · (try dsimp only at hSw)
      have e0_ := (b0.grown hSw).c0
      have e1_ := (b0.grown hSw).c1
      have e2_ := (b1.grown hSw).c0
      have e3_ := (b1.grown hSw).c1
      have e4_ := (b1.grown hSw).c2
      have e5_ := (b2.grown hSw).c0
      have e6_ := (b2.grown hSw).c1
      clear hSw
      go_simp
      try with_reducible rfl
    simp only [List.set_cons_succ, List.set_cons_zero]
    refine takeL 1 22 (v := ?_) rfl rfl (by kernel_rfl) (by kernel_rfl) (by kernel_rfl) (fun _ _ _ h => h) (by rfl) hHeld (fun w hSw => ?_) ?_
    rotate_left 1
    · (try dsimp only at hSw)
      have e0_ := (b0.grown hSw).c0
      have e1_ := (b0.grown hSw).c1
      have e2_ := (b1.grown hSw).c0
      have e3_ := (b1.grown hSw).c1
      have e4_ := (b1.grown hSw).c2
      have e5_ := (b2.grown hSw).c0
      have e6_ := (b2.grown hSw).c1
      clear hSw
      go_simp
      try with_reducible rfl
    simp only [List.set_cons_succ, List.set_cons_zero]
    refine takeL 2 23 (v := ?_) rfl rfl (by kernel_rfl) (by kernel_rfl) (by kernel_rfl) (fun _ _ _ h => h) (by rfl) hHeld (fun w hSw => ?_) ?_
    rotate_left 1
    · (try dsimp only at hSw)
      have e0_ := (b0.grown hSw).c0
      have e1_ := (b0.grown hSw).c1
      have e2_ := (b1.grown hSw).c0
      have e3_ := (b1.grown hSw).c1
      have e4_ := (b1.grown hSw).c2
      have e5_ := (b2.grown hSw).c0
      have e6_ := (b2.grown hSw).c1
      clear hSw
      go_simp
      try with_reducible rfl
    simp only [List.set_cons_succ, List.set_cons_zero]
    refine onlyL 3 rfl (by kernel_rfl) (by rfl) (fun K hK => ?_)
    go_wp2_with fail
    refine (rsub_is key n HQ.out _).mono ?_
    rintro e w1_ ⟨rfl, hb⟩
    replace hb := (Below.refl _ _).drew.trans hb
    replace b0 := b0.grown hb
    replace b1 := b1.grown hb
    replace b2 := b2.grown hb
    replace hB := hB.trans (hb.mono hB.size)
    refine hK.out _ _ hb (fun _ => ?_)
    clear hK K hHeld
    refine held_more (S' := fun w' => Below w1_.heap.size w1_ w') (fun _ h => hb.trans (h.mono hb.size)) _ _ _ _ ?_
    have hHeld := Below.refl w1_.heap.size w1_
    clear hb
    refine takeL 4 25 (v := ?_) rfl rfl (by kernel_rfl) (by kernel_rfl) (by kernel_rfl) (fun _ _ _ h => h) (by rfl) hHeld (fun w hSw => ?_) ?_
    rotate_left 1
    · (try dsimp only at hSw)
      clear hSw
      go_simp
      try with_reducible rfl
    simp only [List.set_cons_succ, List.set_cons_zero]
    refine takeM 5 26 25 rfl rfl rfl (by kernel_rfl) (by kernel_rfl) (by kernel_rfl) (fun _ _ _ h => h) (by rfl) hHeld rfl ?_
    simp only [List.set_cons_succ, List.set_cons_zero]
    refine takeL 6 27 (v := ?_) rfl rfl (by kernel_rfl) (by kernel_rfl) (by kernel_rfl) (fun _ _ _ h => h) (by rfl) hHeld (fun w hSw => ?_) ?_
    rotate_left 1
    · (try dsimp only at hSw)
      have e0_ := (b0.grown hSw).c0
      have e1_ := (b0.grown hSw).c1
      have e2_ := (b1.grown hSw).c0
      have e3_ := (b1.grown hSw).c1
      have e4_ := (b1.grown hSw).c2
      have e5_ := (b2.grown hSw).c0
      have e6_ := (b2.grown hSw).c1
      clear hSw
      go_simp
      try with_reducible rfl
    simp only [List.set_cons_succ, List.set_cons_zero]
    refine takeM 7 28 2 rfl rfl rfl (by kernel_rfl) (by kernel_rfl) (by kernel_rfl) (fun _ _ _ h => h) (by rfl) hHeld rfl ?_
    simp only [List.set_cons_succ, List.set_cons_zero]
    refine takeL 10 31 (v := ?_) rfl rfl (by kernel_rfl) (by kernel_rfl) (by kernel_rfl) (fun _ _ _ h => h) (by rfl) hHeld (fun w hSw => ?_) ?_
    rotate_left 1
    · (try dsimp only at hSw)
      have e0_ := (b0.grown hSw).c0
      have e1_ := (b0.grown hSw).c1
      have e2_ := (b1.grown hSw).c0
      have e3_ := (b1.grown hSw).c1
      have e4_ := (b1.grown hSw).c2
      have e5_ := (b2.grown hSw).c0
      have e6_ := (b2.grown hSw).c1
      clear hSw
      go_simp
      try with_reducible rfl
    simp only [List.set_cons_succ, List.set_cons_zero]
    refine takeM 11 32 2 rfl rfl rfl (by kernel_rfl) (by kernel_rfl) (by kernel_rfl) (fun _ _ _ h => h) (by rfl) hHeld rfl ?_
    simp only [List.set_cons_succ, List.set_cons_zero]
    refine onlyL 8 rfl (by kernel_rfl) (by rfl) (fun K hK => ?_)
    go_wp2_with fail
    refine (hF q many _).mono ?_
    rintro e w2_ ⟨⟨x1, l1, c1, rfl, s1, hc1, -, -⟩, hb⟩
    replace b0 := b0.grown hb
    replace b1 := b1.grown hb
    replace b2 := b2.grown hb
    replace hB := hB.trans (hb.mono hB.size)
    refine hK.out _ _ hb (fun _ => ?_)
    clear hK K hHeld
    refine held_more (S' := fun w' => Below w2_.heap.size w2_ w') (fun _ h => hb.trans (h.mono hb.size)) _ _ _ _ ?_
    have hHeld := Below.refl w2_.heap.size w2_
    clear hb
    refine takeL 9 30 (v := ?_) rfl rfl (by kernel_rfl) (by kernel_rfl) (by kernel_rfl) (fun _ _ _ h => h) (by rfl) hHeld (fun w hSw => ?_) ?_
    rotate_left 1
    · (try dsimp only at hSw)
      have e0_ := (b0.grown hSw).c0
      have e1_ := (b0.grown hSw).c1
      have e2_ := (b1.grown hSw).c0
      have e3_ := (b1.grown hSw).c1
      have e4_ := (b1.grown hSw).c2
      have e5_ := (b2.grown hSw).c0
      have e6_ := (b2.grown hSw).c1
      have e7_ := fun c => (s1.below hSw).conv (c := c)
      clear hSw
      go_simp
      try with_reducible rfl
    simp only [List.set_cons_succ, List.set_cons_zero]
    refine onlyL 12 rfl (by kernel_rfl) (by rfl) (fun K hK => ?_)
    go_wp2_with fail
    refine (rflow q many _).mono ?_
    rintro e w3_ ⟨⟨x2, l2, c2, rfl, s2, hc2, -, -⟩, hb⟩
    replace b0 := b0.grown hb
    replace b1 := b1.grown hb
    replace b2 := b2.grown hb
    replace s1 := s1.below hb
    replace hB := hB.trans (hb.mono hB.size)
    refine hK.out _ _ hb (fun _ => ?_)
    clear hK K hHeld
    refine held_more (S' := fun w' => Below w3_.heap.size w3_ w') (fun _ h => hb.trans (h.mono hb.size)) _ _ _ _ ?_
    have hHeld := Below.refl w3_.heap.size w3_
    clear hb
    refine takeL 13 34 (v := ?_) rfl rfl (by kernel_rfl) (by kernel_rfl) (by kernel_rfl) (fun _ _ _ h => h) (by rfl) hHeld (fun w hSw => ?_) ?_
    rotate_left 1
    · (try dsimp only at hSw)
      have e0_ := (b0.grown hSw).c0
      have e1_ := (b0.grown hSw).c1
      have e2_ := (b1.grown hSw).c0
      have e3_ := (b1.grown hSw).c1
      have e4_ := (b1.grown hSw).c2
      have e5_ := (b2.grown hSw).c0
      have e6_ := (b2.grown hSw).c1
      have e7_ := fun c => (s1.below hSw).conv (c := c)
      have e8_ := fun c => (s2.below hSw).conv (c := c)
      clear hSw
      go_simp
      try with_reducible rfl
    simp only [List.set_cons_succ, List.set_cons_zero]
    refine takeL 14 35 (v := ?_) rfl rfl (by kernel_rfl) (by kernel_rfl) (by kernel_rfl) (fun _ _ _ h => h) (by rfl) hHeld (fun w hSw => ?_) ?_
    rotate_left 1
    · (try dsimp only at hSw)
      clear hSw
      go_simp
      try with_reducible rfl
    simp only [List.set_cons_succ, List.set_cons_zero]
    refine takeL 15 36 (v := ?_) rfl rfl (by kernel_rfl) (by kernel_rfl) (by kernel_rfl) (fun _ _ _ h => h) (by rfl) hHeld (fun w hSw => ?_) ?_
    rotate_left 1
    · (try dsimp only at hSw)
      clear hSw
      go_simp
      try with_reducible rfl
    simp only [List.set_cons_succ, List.set_cons_zero]
    refine takeM 16 37 36 rfl rfl rfl (by kernel_rfl) (by kernel_rfl) (by kernel_rfl) (fun _ _ _ h => h) (by rfl) hHeld rfl ?_
    simp only [List.set_cons_succ, List.set_cons_zero]
    refine onlyL 17 rfl (by kernel_rfl) (by rfl) (fun K hK => ?_)
    go_wp2_with fail
    refine (known_true hF _).mono ?_
    rintro e w4_ ⟨rfl, hb⟩
    replace b0 := b0.grown hb
    replace b1 := b1.grown hb
    replace b2 := b2.grown hb
    replace s1 := s1.below hb
    replace s2 := s2.below hb
    replace hB := hB.trans (hb.mono hB.size)
    refine hK.out _ _ hb (fun _ => ?_)
    clear hK K hHeld
    refine held_more (S' := fun w' => Below w4_.heap.size w4_ w') (fun _ h => hb.trans (h.mono hb.size)) _ _ _ _ ?_
    have hHeld := Below.refl w4_.heap.size w4_
    clear hb
    refine takeL 18 39 (v := ?_) rfl rfl (by kernel_rfl) (by kernel_rfl) (by kernel_rfl) (fun _ _ _ h => h) (by rfl) hHeld (fun w hSw => ?_) ?_
    rotate_left 1
    · (try dsimp only at hSw)
      clear hSw
      go_simp
      try with_reducible rfl
    simp only [List.set_cons_succ, List.set_cons_zero]
    refine takeA 19 6 39 rfl rfl rfl (by kernel_rfl) (by kernel_rfl) (by kernel_rfl) (fun _ _ _ h => h) (by rfl) hHeld rfl ?_
    simp only [List.set_cons_succ, List.set_cons_zero]
    refine wpAnyH_done (by kernel_rfl) ?_ _
    go_wp2
    go_ret
    exact ⟨rfl, hB⟩

end Go.Proofs.Ytnalhhjbplgleaa
