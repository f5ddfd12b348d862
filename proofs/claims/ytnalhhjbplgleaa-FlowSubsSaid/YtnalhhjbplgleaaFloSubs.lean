/- FlowSubs' walk, where flow's functions are what the document has. -/
import Derived.Test.YtnalhhjbplgleaaFloLaws
import Derived.Test.YtnalhhjbplgleaaSpkSaid
namespace Go.Proofs.Ytnalhhjbplgleaa
open Go.RowKit

theorem non_eq (a b : Nn) : (nv32 a.1 = nv32 b.1 ∧ nv32 a.2.1 = nv32 b.2.1 ∧ nv a.2.2 = nv b.2.2) ↔ a = b := by
  constructor
  · rintro ⟨h1, h2, h3⟩
    exact Prod.ext (nv32_inj h1) (Prod.ext (nv32_inj h2) (nv_inj h3))
  · rintro rfl
    exact ⟨rfl, rfl, rfl⟩
theorem ite3 {α : Type} (p q r : Prop) [Decidable p] [Decidable q] [Decidable r] (X Y : α) : (if p then if q then if r then X else Y else Y else Y) = if p ∧ q ∧ r then X else Y := by
  by_cases hp : p
  · by_cases hq : q
    · by_cases hr : r
      · simp [hp, hq, hr]
      · simp [hr]
    · simp [hq]
  · simp [hp]
set_option maxRecDepth 10000 in
set_option maxHeartbeats 4000000 in
theorem subs_any (hS : SubSaid) (hF : FlowSaid) (key : BitVec 64 × BitVec 64) (a b : Nn) (w : World) : Calls Try.prog 4 #[.agg #[.int .u64 (nv key.1), .int .u64 (nv key.2)], .agg #[.int .u32 (nv32 a.1), .int .u32 (nv32 a.2.1), .int .u64 (nv a.2.2)], .agg #[.int .u32 (nv32 b.1), .int .u32 (nv32 b.2.1), .int .u64 (nv b.2.2)]] w fun e w' => e = .returned (.bool true) ∧ Below w.heap.size w w' := by
  have heq := eq32
  by_cases h : a = b
  · have h1 : (nv (subP key a).1 == nv (subP key b).1 && nv (subP key a).2 == nv (subP key b).2) = true := by rw [pair_eq, decide_eq_true_eq, h]
    have h2 : Hid (nv32 a.1 = nv32 b.1 ∧ nv32 a.2.1 = nv32 b.2.1 ∧ nv a.2.2 = nv b.2.2) := (non_eq a b).2 h
    clear h
    go_enter Try.func4, Try.ntmps4
    go_wp2_with fail
    have b0 := ((Box.new w (nv key.1) (nv key.2)).alloc (.cells #[.int .u32 (nv32 a.1), .int .u32 (nv32 a.2.1), .int .u64 (nv a.2.2)] 27)).alloc (.cells #[.int .u32 (nv32 b.1), .int .u32 (nv32 b.2.1), .int .u64 (nv b.2.2)] 27)
    have b1 := (NBox.new (w.alloc (.cells #[.int .u64 (nv key.1), .int .u64 (nv key.2)] 24)) a).alloc (.cells #[.int .u32 (nv32 b.1), .int .u32 (nv32 b.2.1), .int .u64 (nv b.2.2)] 27)
    have b2 := NBox.new ((w.alloc (.cells #[.int .u64 (nv key.1), .int .u64 (nv key.2)] 24)).alloc (.cells #[.int .u32 (nv32 a.1), .int .u32 (nv32 a.2.1), .int .u64 (nv a.2.2)] 27)) b
    simp only [World.size_alloc] at b1 b2
    have hB : Below w.heap.size w (((w.alloc (.cells #[.int .u64 (nv key.1), .int .u64 (nv key.2)] 24)).alloc (.cells #[.int .u32 (nv32 a.1), .int .u32 (nv32 a.2.1), .int .u64 (nv a.2.2)] 27)).alloc (.cells #[.int .u32 (nv32 b.1), .int .u32 (nv32 b.2.1), .int .u64 (nv b.2.2)] 27)) := by go_grown
    generalize (((w.alloc (.cells #[.int .u64 (nv key.1), .int .u64 (nv key.2)] 24)).alloc (.cells #[.int .u32 (nv32 a.1), .int .u32 (nv32 a.2.1), .int .u64 (nv a.2.2)] 27)).alloc (.cells #[.int .u32 (nv32 b.1), .int .u32 (nv32 b.2.1), .int .u64 (nv b.2.2)] 27)) = W at *
    refine wp_region_held_drew (S := fun w' => Below W.heap.size W w') (by kernel_rfl) (Below.refl _ _).drew (fun hHeld => ?_)
    refine takeL 0 7 (v := ?_) rfl rfl (by kernel_rfl) (by kernel_rfl) (by kernel_rfl) (fun _ _ _ h => h) (by rfl) hHeld (fun w hSw => ?_) ?_
    rotate_left 1
    · (try dsimp only at hSw)
      have e0_ := (b0.grown hSw).c0
      have e1_ := (b0.grown hSw).c1
      have e2_ := (b1.grown hSw).c0
      have e3_ := (b1.grown hSw).c1
      have e4_ := (b1.grown hSw).c2
      have e5_ := (b2.grown hSw).c0
      have e6_ := (b2.grown hSw).c1
      have e7_ := (b2.grown hSw).c2
      clear hSw
      go_simp
      try with_reducible rfl
    simp only [List.set_cons_succ, List.set_cons_zero]
    refine takeL 1 8 (v := ?_) rfl rfl (by kernel_rfl) (by kernel_rfl) (by kernel_rfl) (fun _ _ _ h => h) (by rfl) hHeld (fun w hSw => ?_) ?_
    rotate_left 1
    · (try dsimp only at hSw)
      have e0_ := (b0.grown hSw).c0
      have e1_ := (b0.grown hSw).c1
      have e2_ := (b1.grown hSw).c0
      have e3_ := (b1.grown hSw).c1
      have e4_ := (b1.grown hSw).c2
      have e5_ := (b2.grown hSw).c0
      have e6_ := (b2.grown hSw).c1
      have e7_ := (b2.grown hSw).c2
      clear hSw
      go_simp
      try with_reducible rfl
    simp only [List.set_cons_succ, List.set_cons_zero]
    refine takeL 3 10 (v := ?_) rfl rfl (by kernel_rfl) (by kernel_rfl) (by kernel_rfl) (fun _ _ _ h => h) (by rfl) hHeld (fun w hSw => ?_) ?_
    rotate_left 1
    · (try dsimp only at hSw)
      have e0_ := (b0.grown hSw).c0
      have e1_ := (b0.grown hSw).c1
      have e2_ := (b1.grown hSw).c0
      have e3_ := (b1.grown hSw).c1
      have e4_ := (b1.grown hSw).c2
      have e5_ := (b2.grown hSw).c0
      have e6_ := (b2.grown hSw).c1
      have e7_ := (b2.grown hSw).c2
      clear hSw
      go_simp
      try with_reducible rfl
    simp only [List.set_cons_succ, List.set_cons_zero]
    refine takeL 4 11 (v := ?_) rfl rfl (by kernel_rfl) (by kernel_rfl) (by kernel_rfl) (fun _ _ _ h => h) (by rfl) hHeld (fun w hSw => ?_) ?_
    rotate_left 1
    · (try dsimp only at hSw)
      have e0_ := (b0.grown hSw).c0
      have e1_ := (b0.grown hSw).c1
      have e2_ := (b1.grown hSw).c0
      have e3_ := (b1.grown hSw).c1
      have e4_ := (b1.grown hSw).c2
      have e5_ := (b2.grown hSw).c0
      have e6_ := (b2.grown hSw).c1
      have e7_ := (b2.grown hSw).c2
      clear hSw
      go_simp
      try with_reducible rfl
    simp only [List.set_cons_succ, List.set_cons_zero]
    refine takeL 7 14 (v := ?_) rfl rfl (by kernel_rfl) (by kernel_rfl) (by kernel_rfl) (fun _ _ _ h => h) (by rfl) hHeld (fun w hSw => ?_) ?_
    rotate_left 1
    · (try dsimp only at hSw)
      have e0_ := (b0.grown hSw).c0
      have e1_ := (b0.grown hSw).c1
      have e2_ := (b1.grown hSw).c0
      have e3_ := (b1.grown hSw).c1
      have e4_ := (b1.grown hSw).c2
      have e5_ := (b2.grown hSw).c0
      have e6_ := (b2.grown hSw).c1
      have e7_ := (b2.grown hSw).c2
      clear hSw
      go_simp
      try with_reducible rfl
    simp only [List.set_cons_succ, List.set_cons_zero]
    refine takeL 8 15 (v := ?_) rfl rfl (by kernel_rfl) (by kernel_rfl) (by kernel_rfl) (fun _ _ _ h => h) (by rfl) hHeld (fun w hSw => ?_) ?_
    rotate_left 1
    · (try dsimp only at hSw)
      have e0_ := (b0.grown hSw).c0
      have e1_ := (b0.grown hSw).c1
      have e2_ := (b1.grown hSw).c0
      have e3_ := (b1.grown hSw).c1
      have e4_ := (b1.grown hSw).c2
      have e5_ := (b2.grown hSw).c0
      have e6_ := (b2.grown hSw).c1
      have e7_ := (b2.grown hSw).c2
      clear hSw
      go_simp
      try with_reducible rfl
    simp only [List.set_cons_succ, List.set_cons_zero]
    refine takeL 9 16 (v := ?_) rfl rfl (by kernel_rfl) (by kernel_rfl) (by kernel_rfl) (fun _ _ _ h => h) (by rfl) hHeld (fun w hSw => ?_) ?_
    rotate_left 1
    · go_simp
      rw [ite3, if_pos h2.out]
    simp only [List.set_cons_succ, List.set_cons_zero]
    refine onlyL 2 rfl (by kernel_rfl) (by rfl) (fun K hK => ?_)
    go_wp2_with fail
    refine (hS key a _).mono ?_
    rintro e w1_ ⟨rfl, hb⟩
    replace hb := (Below.refl _ _).drew.trans hb
    replace b0 := b0.grown hb
    replace b1 := b1.grown hb
    replace b2 := b2.grown hb
    replace hB := hB.trans (hb.mono hB.size)
    refine hK.out _ _ hb (fun _ => ?_)
    clear hK K hHeld
    refine held_more (S' := fun w' => Below w1_.heap.size w1_ w') (fun _ h => hb.trans (h.mono hb.size)) _ _ _ _ ?_
    have hHeld := Below.refl w1_.heap.size w1_
    clear hb
    refine onlyL 5 rfl (by kernel_rfl) (by rfl) (fun K hK => ?_)
    go_wp2_with fail
    refine (hS key b _).mono ?_
    rintro e w2_ ⟨rfl, hb⟩
    replace b0 := b0.grown hb
    replace b1 := b1.grown hb
    replace b2 := b2.grown hb
    replace hB := hB.trans (hb.mono hB.size)
    refine hK.out _ _ hb (fun _ => ?_)
    clear hK K hHeld
    refine held_more (S' := fun w' => Below w2_.heap.size w2_ w') (fun _ h => hb.trans (h.mono hb.size)) _ _ _ _ ?_
    have hHeld := Below.refl w2_.heap.size w2_
    clear hb
    refine takeL 6 13 (v := ?_) rfl rfl (by kernel_rfl) (by kernel_rfl) (by kernel_rfl) (fun _ _ _ h => h) (by rfl) hHeld (fun w hSw => ?_) ?_
    rotate_left 1
    · (try dsimp only at hSw)
      clear hSw
      go_simp
      try with_reducible rfl
    simp only [List.set_cons_succ, List.set_cons_zero]
    refine takeL 10 17 (v := ?_) rfl rfl (by kernel_rfl) (by kernel_rfl) (by kernel_rfl) (fun _ _ _ h => h) (by rfl) hHeld (fun w hSw => ?_) ?_
    rotate_left 1
    · (try dsimp only at hSw)
      clear hSw
      go_simp
      try with_reducible rfl
    simp only [List.set_cons_succ, List.set_cons_zero]
    refine takeM 11 18 17 rfl rfl rfl (by kernel_rfl) (by kernel_rfl) (by kernel_rfl) (fun _ _ _ h => h) (by rfl) hHeld rfl ?_
    simp only [List.set_cons_succ, List.set_cons_zero]
    refine onlyL 12 rfl (by kernel_rfl) (by rfl) (fun K hK => ?_)
    go_wp2_with fail
    refine (known_true hF _).mono ?_
    rintro e w3_ ⟨rfl, hb⟩
    replace b0 := b0.grown hb
    replace b1 := b1.grown hb
    replace b2 := b2.grown hb
    replace hB := hB.trans (hb.mono hB.size)
    refine hK.out _ _ hb (fun _ => ?_)
    clear hK K hHeld
    refine held_more (S' := fun w' => Below w3_.heap.size w3_ w') (fun _ h => hb.trans (h.mono hb.size)) _ _ _ _ ?_
    have hHeld := Below.refl w3_.heap.size w3_
    clear hb
    refine takeL 13 20 (v := ?_) rfl rfl (by kernel_rfl) (by kernel_rfl) (by kernel_rfl) (fun _ _ _ h => h) (by rfl) hHeld (fun w hSw => ?_) ?_
    rotate_left 1
    · (try dsimp only at hSw)
      clear hSw
      go_simp
      try with_reducible rfl
    simp only [List.set_cons_succ, List.set_cons_zero]
    refine takeA 14 6 20 rfl rfl rfl (by kernel_rfl) (by kernel_rfl) (by kernel_rfl) (fun _ _ _ h => h) (by rfl) hHeld rfl ?_
    simp only [List.set_cons_succ, List.set_cons_zero]
    refine wpAnyH_done (by kernel_rfl) ?_ _
    go_wp2
    go_ret
    exact ⟨rfl, hB⟩
  · have h1 : (nv (subP key a).1 == nv (subP key b).1 && nv (subP key a).2 == nv (subP key b).2) = false := by rw [pair_eq, decide_eq_false_iff_not]; exact fun e => h (subP_inj e)
    have h2 : Hid (¬ (nv32 a.1 = nv32 b.1 ∧ nv32 a.2.1 = nv32 b.2.1 ∧ nv a.2.2 = nv b.2.2)) := fun e => h ((non_eq a b).1 e)
    clear h
    go_enter Try.func4, Try.ntmps4
    go_wp2_with fail
    have b0 := ((Box.new w (nv key.1) (nv key.2)).alloc (.cells #[.int .u32 (nv32 a.1), .int .u32 (nv32 a.2.1), .int .u64 (nv a.2.2)] 27)).alloc (.cells #[.int .u32 (nv32 b.1), .int .u32 (nv32 b.2.1), .int .u64 (nv b.2.2)] 27)
    have b1 := (NBox.new (w.alloc (.cells #[.int .u64 (nv key.1), .int .u64 (nv key.2)] 24)) a).alloc (.cells #[.int .u32 (nv32 b.1), .int .u32 (nv32 b.2.1), .int .u64 (nv b.2.2)] 27)
    have b2 := NBox.new ((w.alloc (.cells #[.int .u64 (nv key.1), .int .u64 (nv key.2)] 24)).alloc (.cells #[.int .u32 (nv32 a.1), .int .u32 (nv32 a.2.1), .int .u64 (nv a.2.2)] 27)) b
    simp only [World.size_alloc] at b1 b2
    have hB : Below w.heap.size w (((w.alloc (.cells #[.int .u64 (nv key.1), .int .u64 (nv key.2)] 24)).alloc (.cells #[.int .u32 (nv32 a.1), .int .u32 (nv32 a.2.1), .int .u64 (nv a.2.2)] 27)).alloc (.cells #[.int .u32 (nv32 b.1), .int .u32 (nv32 b.2.1), .int .u64 (nv b.2.2)] 27)) := by go_grown
    generalize (((w.alloc (.cells #[.int .u64 (nv key.1), .int .u64 (nv key.2)] 24)).alloc (.cells #[.int .u32 (nv32 a.1), .int .u32 (nv32 a.2.1), .int .u64 (nv a.2.2)] 27)).alloc (.cells #[.int .u32 (nv32 b.1), .int .u32 (nv32 b.2.1), .int .u64 (nv b.2.2)] 27)) = W at *
    refine wp_region_held_drew (S := fun w' => Below W.heap.size W w') (by kernel_rfl) (Below.refl _ _).drew (fun hHeld => ?_)
    refine takeL 0 7 (v := ?_) rfl rfl (by kernel_rfl) (by kernel_rfl) (by kernel_rfl) (fun _ _ _ h => h) (by rfl) hHeld (fun w hSw => ?_) ?_
    rotate_left 1
    · (try dsimp only at hSw)
      have e0_ := (b0.grown hSw).c0
      have e1_ := (b0.grown hSw).c1
      have e2_ := (b1.grown hSw).c0
      have e3_ := (b1.grown hSw).c1
      have e4_ := (b1.grown hSw).c2
      have e5_ := (b2.grown hSw).c0
      have e6_ := (b2.grown hSw).c1
      have e7_ := (b2.grown hSw).c2
      clear hSw
      go_simp
      try with_reducible rfl
    simp only [List.set_cons_succ, List.set_cons_zero]
    refine takeL 1 8 (v := ?_) rfl rfl (by kernel_rfl) (by kernel_rfl) (by kernel_rfl) (fun _ _ _ h => h) (by rfl) hHeld (fun w hSw => ?_) ?_
    rotate_left 1
    · (try dsimp only at hSw)
      have e0_ := (b0.grown hSw).c0
      have e1_ := (b0.grown hSw).c1
      have e2_ := (b1.grown hSw).c0
      have e3_ := (b1.grown hSw).c1
      have e4_ := (b1.grown hSw).c2
      have e5_ := (b2.grown hSw).c0
      have e6_ := (b2.grown hSw).c1
      have e7_ := (b2.grown hSw).c2
      clear hSw
      go_simp
      try with_reducible rfl
    simp only [List.set_cons_succ, List.set_cons_zero]
    refine takeL 3 10 (v := ?_) rfl rfl (by kernel_rfl) (by kernel_rfl) (by kernel_rfl) (fun _ _ _ h => h) (by rfl) hHeld (fun w hSw => ?_) ?_
    rotate_left 1
    · (try dsimp only at hSw)
      have e0_ := (b0.grown hSw).c0
      have e1_ := (b0.grown hSw).c1
      have e2_ := (b1.grown hSw).c0
      have e3_ := (b1.grown hSw).c1
      have e4_ := (b1.grown hSw).c2
      have e5_ := (b2.grown hSw).c0
      have e6_ := (b2.grown hSw).c1
      have e7_ := (b2.grown hSw).c2
      clear hSw
      go_simp
      try with_reducible rfl
    simp only [List.set_cons_succ, List.set_cons_zero]
    refine takeL 4 11 (v := ?_) rfl rfl (by kernel_rfl) (by kernel_rfl) (by kernel_rfl) (fun _ _ _ h => h) (by rfl) hHeld (fun w hSw => ?_) ?_
    rotate_left 1
    · (try dsimp only at hSw)
      have e0_ := (b0.grown hSw).c0
      have e1_ := (b0.grown hSw).c1
      have e2_ := (b1.grown hSw).c0
      have e3_ := (b1.grown hSw).c1
      have e4_ := (b1.grown hSw).c2
      have e5_ := (b2.grown hSw).c0
      have e6_ := (b2.grown hSw).c1
      have e7_ := (b2.grown hSw).c2
      clear hSw
      go_simp
      try with_reducible rfl
    simp only [List.set_cons_succ, List.set_cons_zero]
    refine takeL 7 14 (v := ?_) rfl rfl (by kernel_rfl) (by kernel_rfl) (by kernel_rfl) (fun _ _ _ h => h) (by rfl) hHeld (fun w hSw => ?_) ?_
    rotate_left 1
    · (try dsimp only at hSw)
      have e0_ := (b0.grown hSw).c0
      have e1_ := (b0.grown hSw).c1
      have e2_ := (b1.grown hSw).c0
      have e3_ := (b1.grown hSw).c1
      have e4_ := (b1.grown hSw).c2
      have e5_ := (b2.grown hSw).c0
      have e6_ := (b2.grown hSw).c1
      have e7_ := (b2.grown hSw).c2
      clear hSw
      go_simp
      try with_reducible rfl
    simp only [List.set_cons_succ, List.set_cons_zero]
    refine takeL 8 15 (v := ?_) rfl rfl (by kernel_rfl) (by kernel_rfl) (by kernel_rfl) (fun _ _ _ h => h) (by rfl) hHeld (fun w hSw => ?_) ?_
    rotate_left 1
    · (try dsimp only at hSw)
      have e0_ := (b0.grown hSw).c0
      have e1_ := (b0.grown hSw).c1
      have e2_ := (b1.grown hSw).c0
      have e3_ := (b1.grown hSw).c1
      have e4_ := (b1.grown hSw).c2
      have e5_ := (b2.grown hSw).c0
      have e6_ := (b2.grown hSw).c1
      have e7_ := (b2.grown hSw).c2
      clear hSw
      go_simp
      try with_reducible rfl
    simp only [List.set_cons_succ, List.set_cons_zero]
    refine takeL 9 16 (v := ?_) rfl rfl (by kernel_rfl) (by kernel_rfl) (by kernel_rfl) (fun _ _ _ h => h) (by rfl) hHeld (fun w hSw => ?_) ?_
    rotate_left 1
    · go_simp
      rw [ite3, if_neg h2.out]
    simp only [List.set_cons_succ, List.set_cons_zero]
    refine onlyL 2 rfl (by kernel_rfl) (by rfl) (fun K hK => ?_)
    go_wp2_with fail
    refine (hS key a _).mono ?_
    rintro e w1_ ⟨rfl, hb⟩
    replace hb := (Below.refl _ _).drew.trans hb
    replace b0 := b0.grown hb
    replace b1 := b1.grown hb
    replace b2 := b2.grown hb
    replace hB := hB.trans (hb.mono hB.size)
    refine hK.out _ _ hb (fun _ => ?_)
    clear hK K hHeld
    refine held_more (S' := fun w' => Below w1_.heap.size w1_ w') (fun _ h => hb.trans (h.mono hb.size)) _ _ _ _ ?_
    have hHeld := Below.refl w1_.heap.size w1_
    clear hb
    refine onlyL 5 rfl (by kernel_rfl) (by rfl) (fun K hK => ?_)
    go_wp2_with fail
    refine (hS key b _).mono ?_
    rintro e w2_ ⟨rfl, hb⟩
    replace b0 := b0.grown hb
    replace b1 := b1.grown hb
    replace b2 := b2.grown hb
    replace hB := hB.trans (hb.mono hB.size)
    refine hK.out _ _ hb (fun _ => ?_)
    clear hK K hHeld
    refine held_more (S' := fun w' => Below w2_.heap.size w2_ w') (fun _ h => hb.trans (h.mono hb.size)) _ _ _ _ ?_
    have hHeld := Below.refl w2_.heap.size w2_
    clear hb
    refine takeL 6 13 (v := ?_) rfl rfl (by kernel_rfl) (by kernel_rfl) (by kernel_rfl) (fun _ _ _ h => h) (by rfl) hHeld (fun w hSw => ?_) ?_
    rotate_left 1
    · (try dsimp only at hSw)
      clear hSw
      go_simp
      try with_reducible rfl
    simp only [List.set_cons_succ, List.set_cons_zero]
    refine takeL 10 17 (v := ?_) rfl rfl (by kernel_rfl) (by kernel_rfl) (by kernel_rfl) (fun _ _ _ h => h) (by rfl) hHeld (fun w hSw => ?_) ?_
    rotate_left 1
    · (try dsimp only at hSw)
      clear hSw
      go_simp
      try with_reducible rfl
    simp only [List.set_cons_succ, List.set_cons_zero]
    refine takeM 11 18 17 rfl rfl rfl (by kernel_rfl) (by kernel_rfl) (by kernel_rfl) (fun _ _ _ h => h) (by rfl) hHeld rfl ?_
    simp only [List.set_cons_succ, List.set_cons_zero]
    refine onlyL 12 rfl (by kernel_rfl) (by rfl) (fun K hK => ?_)
    go_wp2_with fail
    refine (known_true hF _).mono ?_
    rintro e w3_ ⟨rfl, hb⟩
    replace b0 := b0.grown hb
    replace b1 := b1.grown hb
    replace b2 := b2.grown hb
    replace hB := hB.trans (hb.mono hB.size)
    refine hK.out _ _ hb (fun _ => ?_)
    clear hK K hHeld
    refine held_more (S' := fun w' => Below w3_.heap.size w3_ w') (fun _ h => hb.trans (h.mono hb.size)) _ _ _ _ ?_
    have hHeld := Below.refl w3_.heap.size w3_
    clear hb
    refine takeL 13 20 (v := ?_) rfl rfl (by kernel_rfl) (by kernel_rfl) (by kernel_rfl) (fun _ _ _ h => h) (by rfl) hHeld (fun w hSw => ?_) ?_
    rotate_left 1
    · (try dsimp only at hSw)
      clear hSw
      go_simp
      try with_reducible rfl
    simp only [List.set_cons_succ, List.set_cons_zero]
    refine takeA 14 6 20 rfl rfl rfl (by kernel_rfl) (by kernel_rfl) (by kernel_rfl) (fun _ _ _ h => h) (by rfl) hHeld rfl ?_
    simp only [List.set_cons_succ, List.set_cons_zero]
    refine wpAnyH_done (by kernel_rfl) ?_ _
    go_wp2
    go_ret
    exact ⟨rfl, hB⟩

end Go.Proofs.Ytnalhhjbplgleaa
