/- FieldRules' walk, where field.Mul and field.Add are the document's. -/
import Derived.Test.YtmkkcplkpajjfaaFldLaws
namespace Go.Proofs.Ytmkkcplkpajjfaa
open Go.RowKit

theorem add_at (hA : AddSaid) (a b c : BitVec 64 × BitVec 64) {a1 a2 b1 b2 c1 c2 : Int} (ha1 : nv a.1 = a1) (ha2 : nv a.2 = a2) (hb1 : nv b.1 = b1) (hb2 : nv b.2 = b2) (h : addP a b = c) (hc1 : nv c.1 = c1) (hc2 : nv c.2 = c2) (w : World) :
    Calls Try.prog 10 #[.agg #[.int .u64 a1, .int .u64 a2], .agg #[.int .u64 b1, .int .u64 b2]] w fun e w' => e = .returned (.agg #[.int .u64 c1, .int .u64 c2]) ∧ Below w.heap.size w w' := by
  subst ha1 ha2 hb1 hb2 h hc1 hc2
  exact hA a b w

theorem is_none (a : BitVec 64 × BitVec 64) : (nv a.1 == 0 && nv a.2 == 0) = decide (a = (0#64, 0#64)) := by
  rw [← nv_zero, nv_eq, nv_eq, Bool.eq_iff_iff]
  simp [Prod.ext_iff]

set_option maxHeartbeats 4000000 in
theorem rules_any (hM : MulSaid) (hA : AddSaid) (a b c : BitVec 64 × BitVec 64) (w : World) : Calls Try.prog 4 #[.agg #[.int .u64 (nv a.1), .int .u64 (nv a.2)], .agg #[.int .u64 (nv b.1), .int .u64 (nv b.2)], .agg #[.int .u64 (nv c.1), .int .u64 (nv c.2)]] w fun e w' => e = .returned (.bool true) ∧ Below w.heap.size w w' := by
  have heq := eq32
  go_enter Try.func4, Try.ntmps4
  go_wp2
  have b0 := (((Box.new w (nv a.1) (nv a.2)).alloc (.cells #[.int .u64 (nv b.1), .int .u64 (nv b.2)] 24)).alloc (.cells #[.int .u64 (nv c.1), .int .u64 (nv c.2)] 24)).alloc (.cells #[.int .u64 0, .int .u64 1] 24)
  have b1 := ((Box.new (w.alloc (.cells #[.int .u64 (nv a.1), .int .u64 (nv a.2)] 24)) (nv b.1) (nv b.2)).alloc (.cells #[.int .u64 (nv c.1), .int .u64 (nv c.2)] 24)).alloc (.cells #[.int .u64 0, .int .u64 1] 24)
  have b2 := (Box.new ((w.alloc (.cells #[.int .u64 (nv a.1), .int .u64 (nv a.2)] 24)).alloc (.cells #[.int .u64 (nv b.1), .int .u64 (nv b.2)] 24)) (nv c.1) (nv c.2)).alloc (.cells #[.int .u64 0, .int .u64 1] 24)
  have b3 := Box.new (((w.alloc (.cells #[.int .u64 (nv a.1), .int .u64 (nv a.2)] 24)).alloc (.cells #[.int .u64 (nv b.1), .int .u64 (nv b.2)] 24)).alloc (.cells #[.int .u64 (nv c.1), .int .u64 (nv c.2)] 24)) 0 1
  simp only [World.size_alloc] at b1 b2 b3
  have hB : Below w.heap.size w ((((w.alloc (.cells #[.int .u64 (nv a.1), .int .u64 (nv a.2)] 24)).alloc (.cells #[.int .u64 (nv b.1), .int .u64 (nv b.2)] 24)).alloc (.cells #[.int .u64 (nv c.1), .int .u64 (nv c.2)] 24)).alloc (.cells #[.int .u64 0, .int .u64 1] 24)) := by go_grown
  generalize ((((w.alloc (.cells #[.int .u64 (nv a.1), .int .u64 (nv a.2)] 24)).alloc (.cells #[.int .u64 (nv b.1), .int .u64 (nv b.2)] 24)).alloc (.cells #[.int .u64 (nv c.1), .int .u64 (nv c.2)] 24)).alloc (.cells #[.int .u64 0, .int .u64 1] 24)) = W at *
  refine wp_region_held_drew (S := fun w' => w'.cell? ⟨w.heap.size, 0, none⟩ = some (.int .u64 (nv a.1)) ∧ w'.cell? ⟨w.heap.size, 1, none⟩ = some (.int .u64 (nv a.2)) ∧ w'.cell? ⟨w.heap.size + 1, 0, none⟩ = some (.int .u64 (nv b.1)) ∧ w'.cell? ⟨w.heap.size + 1, 1, none⟩ = some (.int .u64 (nv b.2)) ∧ w'.cell? ⟨w.heap.size + 1 + 1, 0, none⟩ = some (.int .u64 (nv c.1)) ∧ w'.cell? ⟨w.heap.size + 1 + 1, 1, none⟩ = some (.int .u64 (nv c.2)) ∧ w'.cell? ⟨w.heap.size + 1 + 1 + 1, 0, none⟩ = some (.int .u64 0) ∧ w'.cell? ⟨w.heap.size + 1 + 1 + 1, 1, none⟩ = some (.int .u64 1)) (by kernel_rfl) ⟨b0.c0, b0.c1, b1.c0, b1.c1, b2.c0, b2.c1, b3.c0, b3.c1⟩ (fun hHeld => ?_)
  refine takeL 0 10 (v := ?_) rfl rfl (by kernel_rfl) (by kernel_rfl) (by kernel_rfl) (fun _ _ _ h => h) (by rfl) hHeld (fun w hSw => ?_) ?_
  rotate_left 1
  · (try dsimp only at hSw); go_simp; try with_reducible rfl
  simp only [List.set_cons_succ, List.set_cons_zero]
  refine takeL 1 11 (v := ?_) rfl rfl (by kernel_rfl) (by kernel_rfl) (by kernel_rfl) (fun _ _ _ h => h) (by rfl) hHeld (fun w hSw => ?_) ?_
  rotate_left 1
  · (try dsimp only at hSw); go_simp; try with_reducible rfl
  simp only [List.set_cons_succ, List.set_cons_zero]
  refine takeL 3 13 (v := ?_) rfl rfl (by kernel_rfl) (by kernel_rfl) (by kernel_rfl) (fun _ _ _ h => h) (by rfl) hHeld (fun w hSw => ?_) ?_
  rotate_left 1
  · (try dsimp only at hSw); go_simp; try with_reducible rfl
  simp only [List.set_cons_succ, List.set_cons_zero]
  refine takeL 4 14 (v := ?_) rfl rfl (by kernel_rfl) (by kernel_rfl) (by kernel_rfl) (fun _ _ _ h => h) (by rfl) hHeld (fun w hSw => ?_) ?_
  rotate_left 1
  · (try dsimp only at hSw); go_simp; try with_reducible rfl
  simp only [List.set_cons_succ, List.set_cons_zero]
  refine onlyL 2 rfl (by kernel_rfl) (by rfl) (fun K hK => ?_)
  go_wp2_with fail
  refine (hM a b _).mono ?_
  rintro e wn ⟨rfl, hbn⟩
  have hbn := (Below.refl _ _).drew.trans hbn
  have b0 := b0.grown hbn
  have b1 := b1.grown hbn
  have b2 := b2.grown hbn
  have b3 := b3.grown hbn
  have hB := hB.trans (hbn.mono hB.size)
  refine hK.out _ _ ⟨b0.c0, b0.c1, b1.c0, b1.c1, b2.c0, b2.c1, b3.c0, b3.c1⟩ (fun hHeld => ?_)
  clear hK K hbn
  refine onlyL 5 rfl (by kernel_rfl) (by rfl) (fun K hK => ?_)
  go_wp2_with fail
  refine (mul_is hM b a (fmul_comm b a) _).mono ?_
  rintro e wn ⟨rfl, hbn⟩
  have b0 := b0.grown hbn
  have b1 := b1.grown hbn
  have b2 := b2.grown hbn
  have b3 := b3.grown hbn
  have hB := hB.trans (hbn.mono hB.size)
  refine hK.out _ _ ⟨b0.c0, b0.c1, b1.c0, b1.c1, b2.c0, b2.c1, b3.c0, b3.c1⟩ (fun hHeld => ?_)
  clear hK K hbn
  refine takeL 6 16 (v := ?_) rfl rfl (by kernel_rfl) (by kernel_rfl) (by kernel_rfl) (fun _ _ _ h => h) (by rfl) hHeld (fun w hSw => ?_) ?_
  rotate_left 1
  · (try dsimp only at hSw); go_simp; try with_reducible rfl
  simp only [List.set_cons_succ, List.set_cons_zero]
  refine takeM 7 17 16 rfl rfl rfl (by kernel_rfl) (by kernel_rfl) (by kernel_rfl) (fun _ _ _ h => h) (by rfl) hHeld rfl ?_
  simp only [List.set_cons_succ, List.set_cons_zero]
  refine takeL 8 18 (v := ?_) rfl rfl (by kernel_rfl) (by kernel_rfl) (by kernel_rfl) (fun _ _ _ h => h) (by rfl) hHeld (fun w hSw => ?_) ?_
  rotate_left 1
  · (try dsimp only at hSw); go_simp; try with_reducible rfl
  simp only [List.set_cons_succ, List.set_cons_zero]
  refine takeL 9 19 (v := ?_) rfl rfl (by kernel_rfl) (by kernel_rfl) (by kernel_rfl) (fun _ _ _ h => h) (by rfl) hHeld (fun w hSw => ?_) ?_
  rotate_left 1
  · (try dsimp only at hSw); go_simp; try with_reducible rfl
  simp only [List.set_cons_succ, List.set_cons_zero]
  refine takeL 10 20 (v := ?_) rfl rfl (by kernel_rfl) (by kernel_rfl) (by kernel_rfl) (fun _ _ _ h => h) (by rfl) hHeld (fun w hSw => ?_) ?_
  rotate_left 1
  · (try dsimp only at hSw); go_simp; try with_reducible rfl
  simp only [List.set_cons_succ, List.set_cons_zero]
  refine takeL 13 23 (v := ?_) rfl rfl (by kernel_rfl) (by kernel_rfl) (by kernel_rfl) (fun _ _ _ h => h) (by rfl) hHeld (fun w hSw => ?_) ?_
  rotate_left 1
  · (try dsimp only at hSw); go_simp; try with_reducible rfl
  simp only [List.set_cons_succ, List.set_cons_zero]
  refine takeL 14 24 (v := ?_) rfl rfl (by kernel_rfl) (by kernel_rfl) (by kernel_rfl) (fun _ _ _ h => h) (by rfl) hHeld (fun w hSw => ?_) ?_
  rotate_left 1
  · (try dsimp only at hSw); go_simp; try with_reducible rfl
  simp only [List.set_cons_succ, List.set_cons_zero]
  refine takeL 16 26 (v := ?_) rfl rfl (by kernel_rfl) (by kernel_rfl) (by kernel_rfl) (fun _ _ _ h => h) (by rfl) hHeld (fun w hSw => ?_) ?_
  rotate_left 1
  · (try dsimp only at hSw); go_simp; try with_reducible rfl
  simp only [List.set_cons_succ, List.set_cons_zero]
  refine onlyL 11 rfl (by kernel_rfl) (by rfl) (fun K hK => ?_)
  go_wp2_with fail
  refine (hM b c _).mono ?_
  rintro e wn ⟨rfl, hbn⟩
  have b0 := b0.grown hbn
  have b1 := b1.grown hbn
  have b2 := b2.grown hbn
  have b3 := b3.grown hbn
  have hB := hB.trans (hbn.mono hB.size)
  refine hK.out _ _ ⟨b0.c0, b0.c1, b1.c0, b1.c1, b2.c0, b2.c1, b3.c0, b3.c1⟩ (fun hHeld => ?_)
  clear hK K hbn
  refine onlyL 12 rfl (by kernel_rfl) (by rfl) (fun K hK => ?_)
  go_wp2_with fail
  refine (mul_is hM a (fmul b c) (fmul_assoc a b c) _).mono ?_
  rintro e wn ⟨rfl, hbn⟩
  have b0 := b0.grown hbn
  have b1 := b1.grown hbn
  have b2 := b2.grown hbn
  have b3 := b3.grown hbn
  have hB := hB.trans (hbn.mono hB.size)
  refine hK.out _ _ ⟨b0.c0, b0.c1, b1.c0, b1.c1, b2.c0, b2.c1, b3.c0, b3.c1⟩ (fun hHeld => ?_)
  clear hK K hbn
  refine onlyL 15 rfl (by kernel_rfl) (by rfl) (fun K hK => ?_)
  go_wp2_with fail
  refine (hM a b _).mono ?_
  rintro e wn ⟨rfl, hbn⟩
  have b0 := b0.grown hbn
  have b1 := b1.grown hbn
  have b2 := b2.grown hbn
  have b3 := b3.grown hbn
  have hB := hB.trans (hbn.mono hB.size)
  refine hK.out _ _ ⟨b0.c0, b0.c1, b1.c0, b1.c1, b2.c0, b2.c1, b3.c0, b3.c1⟩ (fun hHeld => ?_)
  clear hK K hbn
  refine onlyL 17 rfl (by kernel_rfl) (by rfl) (fun K hK => ?_)
  go_wp2_with fail
  refine (hM (fmul a b) c _).mono ?_
  rintro e wn ⟨rfl, hbn⟩
  have b0 := b0.grown hbn
  have b1 := b1.grown hbn
  have b2 := b2.grown hbn
  have b3 := b3.grown hbn
  have hB := hB.trans (hbn.mono hB.size)
  refine hK.out _ _ ⟨b0.c0, b0.c1, b1.c0, b1.c1, b2.c0, b2.c1, b3.c0, b3.c1⟩ (fun hHeld => ?_)
  clear hK K hbn
  refine takeL 18 28 (v := ?_) rfl rfl (by kernel_rfl) (by kernel_rfl) (by kernel_rfl) (fun _ _ _ h => h) (by rfl) hHeld (fun w hSw => ?_) ?_
  rotate_left 1
  · (try dsimp only at hSw); go_simp; try with_reducible rfl
  simp only [List.set_cons_succ, List.set_cons_zero]
  refine takeL 19 29 (v := ?_) rfl rfl (by kernel_rfl) (by kernel_rfl) (by kernel_rfl) (fun _ _ _ h => h) (by rfl) hHeld (fun w hSw => ?_) ?_
  rotate_left 1
  · (try dsimp only at hSw); go_simp; try with_reducible rfl
  simp only [List.set_cons_succ, List.set_cons_zero]
  refine wpAnyH_done (by kernel_rfl) ?_ _
  go_wp2
  refine wp_region_held_drew (S := fun w' => w'.cell? ⟨w.heap.size, 0, none⟩ = some (.int .u64 (nv a.1)) ∧ w'.cell? ⟨w.heap.size, 1, none⟩ = some (.int .u64 (nv a.2)) ∧ w'.cell? ⟨w.heap.size + 1, 0, none⟩ = some (.int .u64 (nv b.1)) ∧ w'.cell? ⟨w.heap.size + 1, 1, none⟩ = some (.int .u64 (nv b.2)) ∧ w'.cell? ⟨w.heap.size + 1 + 1, 0, none⟩ = some (.int .u64 (nv c.1)) ∧ w'.cell? ⟨w.heap.size + 1 + 1, 1, none⟩ = some (.int .u64 (nv c.2)) ∧ w'.cell? ⟨w.heap.size + 1 + 1 + 1, 0, none⟩ = some (.int .u64 0) ∧ w'.cell? ⟨w.heap.size + 1 + 1 + 1, 1, none⟩ = some (.int .u64 1)) (by kernel_rfl) ⟨b0.c0, b0.c1, b1.c0, b1.c1, b2.c0, b2.c1, b3.c0, b3.c1⟩ (fun hHeld => ?_)
  refine takeL 0 30 (v := ?_) rfl rfl (by kernel_rfl) (by kernel_rfl) (by kernel_rfl) (fun _ _ _ h => h) (by rfl) hHeld (fun w hSw => ?_) ?_
  rotate_left 1
  · (try dsimp only at hSw); go_simp; try with_reducible rfl
  simp only [List.set_cons_succ, List.set_cons_zero]
  refine takeL 1 31 (v := ?_) rfl rfl (by kernel_rfl) (by kernel_rfl) (by kernel_rfl) (fun _ _ _ h => h) (by rfl) hHeld (fun w hSw => ?_) ?_
  rotate_left 1
  · (try dsimp only at hSw); go_simp; try with_reducible rfl
  simp only [List.set_cons_succ, List.set_cons_zero]
  refine takeL 2 32 (v := ?_) rfl rfl (by kernel_rfl) (by kernel_rfl) (by kernel_rfl) (fun _ _ _ h => h) (by rfl) hHeld (fun w hSw => ?_) ?_
  rotate_left 1
  · (try dsimp only at hSw); go_simp; try with_reducible rfl
  simp only [List.set_cons_succ, List.set_cons_zero]
  refine takeL 5 35 (v := ?_) rfl rfl (by kernel_rfl) (by kernel_rfl) (by kernel_rfl) (fun _ _ _ h => h) (by rfl) hHeld (fun w hSw => ?_) ?_
  rotate_left 1
  · (try dsimp only at hSw); go_simp; try with_reducible rfl
  simp only [List.set_cons_succ, List.set_cons_zero]
  refine takeL 6 36 (v := ?_) rfl rfl (by kernel_rfl) (by kernel_rfl) (by kernel_rfl) (fun _ _ _ h => h) (by rfl) hHeld (fun w hSw => ?_) ?_
  rotate_left 1
  · (try dsimp only at hSw); go_simp; try with_reducible rfl
  simp only [List.set_cons_succ, List.set_cons_zero]
  refine takeL 8 38 (v := ?_) rfl rfl (by kernel_rfl) (by kernel_rfl) (by kernel_rfl) (fun _ _ _ h => h) (by rfl) hHeld (fun w hSw => ?_) ?_
  rotate_left 1
  · (try dsimp only at hSw); go_simp; try with_reducible rfl
  simp only [List.set_cons_succ, List.set_cons_zero]
  refine takeL 9 39 (v := ?_) rfl rfl (by kernel_rfl) (by kernel_rfl) (by kernel_rfl) (fun _ _ _ h => h) (by rfl) hHeld (fun w hSw => ?_) ?_
  rotate_left 1
  · (try dsimp only at hSw); go_simp; try with_reducible rfl
  simp only [List.set_cons_succ, List.set_cons_zero]
  refine onlyL 3 rfl (by kernel_rfl) (by rfl) (fun K hK => ?_)
  go_wp2_with fail
  refine (hA b c _).mono ?_
  rintro e wn ⟨rfl, hbn⟩
  have hbn := (Below.refl _ _).drew.trans hbn
  have b0 := b0.grown hbn
  have b1 := b1.grown hbn
  have b2 := b2.grown hbn
  have b3 := b3.grown hbn
  have hB := hB.trans (hbn.mono hB.size)
  refine hK.out _ _ ⟨b0.c0, b0.c1, b1.c0, b1.c1, b2.c0, b2.c1, b3.c0, b3.c1⟩ (fun hHeld => ?_)
  clear hK K hbn
  refine onlyL 4 rfl (by kernel_rfl) (by rfl) (fun K hK => ?_)
  go_wp2_with fail
  refine (mul_is hM a (addP b c) (fmul_add a b c) _).mono ?_
  rintro e wn ⟨rfl, hbn⟩
  have b0 := b0.grown hbn
  have b1 := b1.grown hbn
  have b2 := b2.grown hbn
  have b3 := b3.grown hbn
  have hB := hB.trans (hbn.mono hB.size)
  refine hK.out _ _ ⟨b0.c0, b0.c1, b1.c0, b1.c1, b2.c0, b2.c1, b3.c0, b3.c1⟩ (fun hHeld => ?_)
  clear hK K hbn
  refine onlyL 7 rfl (by kernel_rfl) (by rfl) (fun K hK => ?_)
  go_wp2_with fail
  refine (hM a b _).mono ?_
  rintro e wn ⟨rfl, hbn⟩
  have b0 := b0.grown hbn
  have b1 := b1.grown hbn
  have b2 := b2.grown hbn
  have b3 := b3.grown hbn
  have hB := hB.trans (hbn.mono hB.size)
  refine hK.out _ _ ⟨b0.c0, b0.c1, b1.c0, b1.c1, b2.c0, b2.c1, b3.c0, b3.c1⟩ (fun hHeld => ?_)
  clear hK K hbn
  refine onlyL 10 rfl (by kernel_rfl) (by rfl) (fun K hK => ?_)
  go_wp2_with fail
  refine (hM a c _).mono ?_
  rintro e wn ⟨rfl, hbn⟩
  have b0 := b0.grown hbn
  have b1 := b1.grown hbn
  have b2 := b2.grown hbn
  have b3 := b3.grown hbn
  have hB := hB.trans (hbn.mono hB.size)
  refine hK.out _ _ ⟨b0.c0, b0.c1, b1.c0, b1.c1, b2.c0, b2.c1, b3.c0, b3.c1⟩ (fun hHeld => ?_)
  clear hK K hbn
  refine onlyL 11 rfl (by kernel_rfl) (by rfl) (fun K hK => ?_)
  go_wp2_with fail
  refine (hA (fmul a b) (fmul a c) _).mono ?_
  rintro e wn ⟨rfl, hbn⟩
  have b0 := b0.grown hbn
  have b1 := b1.grown hbn
  have b2 := b2.grown hbn
  have b3 := b3.grown hbn
  have hB := hB.trans (hbn.mono hB.size)
  refine hK.out _ _ ⟨b0.c0, b0.c1, b1.c0, b1.c1, b2.c0, b2.c1, b3.c0, b3.c1⟩ (fun hHeld => ?_)
  clear hK K hbn
  refine takeL 12 42 (v := ?_) rfl rfl (by kernel_rfl) (by kernel_rfl) (by kernel_rfl) (fun _ _ _ h => h) (by rfl) hHeld (fun w hSw => ?_) ?_
  rotate_left 1
  · (try dsimp only at hSw); go_simp; try with_reducible rfl
  simp only [List.set_cons_succ, List.set_cons_zero]
  refine takeM 13 43 42 rfl rfl rfl (by kernel_rfl) (by kernel_rfl) (by kernel_rfl) (fun _ _ _ h => h) (by rfl) hHeld rfl ?_
  simp only [List.set_cons_succ, List.set_cons_zero]
  refine takeL 14 44 (v := ?_) rfl rfl (by kernel_rfl) (by kernel_rfl) (by kernel_rfl) (fun _ _ _ h => h) (by rfl) hHeld (fun w hSw => ?_) ?_
  rotate_left 1
  · (try dsimp only at hSw); go_simp; try with_reducible rfl
  simp only [List.set_cons_succ, List.set_cons_zero]
  refine takeL 15 45 (v := ?_) rfl rfl (by kernel_rfl) (by kernel_rfl) (by kernel_rfl) (fun _ _ _ h => h) (by rfl) hHeld (fun w hSw => ?_) ?_
  rotate_left 1
  · (try dsimp only at hSw); go_simp; try with_reducible rfl
  simp only [List.set_cons_succ, List.set_cons_zero]
  refine takeL 17 47 (v := ?_) rfl rfl (by kernel_rfl) (by kernel_rfl) (by kernel_rfl) (fun _ _ _ h => h) (by rfl) hHeld (fun w hSw => ?_) ?_
  rotate_left 1
  · (try dsimp only at hSw); go_simp; try with_reducible rfl
  simp only [List.set_cons_succ, List.set_cons_zero]
  refine onlyL 16 rfl (by kernel_rfl) (by rfl) (fun K hK => ?_)
  go_wp2_with fail
  refine (mul_at hM a (0#64, 1#64) a rfl rfl nv_zero nv_one (fmul_one a) rfl rfl _).mono ?_
  rintro e wn ⟨rfl, hbn⟩
  have b0 := b0.grown hbn
  have b1 := b1.grown hbn
  have b2 := b2.grown hbn
  have b3 := b3.grown hbn
  have hB := hB.trans (hbn.mono hB.size)
  refine hK.out _ _ ⟨b0.c0, b0.c1, b1.c0, b1.c1, b2.c0, b2.c1, b3.c0, b3.c1⟩ (fun hHeld => ?_)
  clear hK K hbn
  refine takeL 18 48 (v := ?_) rfl rfl (by kernel_rfl) (by kernel_rfl) (by kernel_rfl) (fun _ _ _ h => h) (by rfl) hHeld (fun w hSw => ?_) ?_
  rotate_left 1
  · (try dsimp only at hSw); go_simp; try with_reducible rfl
  simp only [List.set_cons_succ, List.set_cons_zero]
  refine takeL 19 49 (v := ?_) rfl rfl (by kernel_rfl) (by kernel_rfl) (by kernel_rfl) (fun _ _ _ h => h) (by rfl) hHeld (fun w hSw => ?_) ?_
  rotate_left 1
  · (try dsimp only at hSw); go_simp; try with_reducible rfl
  simp only [List.set_cons_succ, List.set_cons_zero]
  refine takeM 20 50 49 rfl rfl rfl (by kernel_rfl) (by kernel_rfl) (by kernel_rfl) (fun _ _ _ h => h) (by rfl) hHeld rfl ?_
  simp only [List.set_cons_succ, List.set_cons_zero]
  refine takeL 21 51 (v := ?_) rfl rfl (by kernel_rfl) (by kernel_rfl) (by kernel_rfl) (fun _ _ _ h => h) (by rfl) hHeld (fun w hSw => ?_) ?_
  rotate_left 1
  · (try dsimp only at hSw); go_simp; try with_reducible rfl
  simp only [List.set_cons_succ, List.set_cons_zero]
  refine takeL 22 52 (v := ?_) rfl rfl (by kernel_rfl) (by kernel_rfl) (by kernel_rfl) (fun _ _ _ h => h) (by rfl) hHeld (fun w hSw => ?_) ?_
  rotate_left 1
  · (try dsimp only at hSw); go_simp; try with_reducible rfl
  simp only [List.set_cons_succ, List.set_cons_zero]
  refine takeL 24 54 (v := ?_) rfl rfl (by kernel_rfl) (by kernel_rfl) (by kernel_rfl) (fun _ _ _ h => h) (by rfl) hHeld (fun w hSw => ?_) ?_
  rotate_left 1
  · (try dsimp only at hSw); go_simp; try with_reducible rfl
  simp only [List.set_cons_succ, List.set_cons_zero]
  refine onlyL 23 rfl (by kernel_rfl) (by rfl) (fun K hK => ?_)
  go_wp2_with fail
  refine (mul_at hM a (0#64, 0#64) (0#64, 0#64) rfl rfl nv_zero nv_zero (fmul_zero a) nv_zero nv_zero _).mono ?_
  rintro e wn ⟨rfl, hbn⟩
  have b0 := b0.grown hbn
  have b1 := b1.grown hbn
  have b2 := b2.grown hbn
  have b3 := b3.grown hbn
  have hB := hB.trans (hbn.mono hB.size)
  refine hK.out _ _ ⟨b0.c0, b0.c1, b1.c0, b1.c1, b2.c0, b2.c1, b3.c0, b3.c1⟩ (fun hHeld => ?_)
  clear hK K hbn
  refine takeL 25 55 (v := ?_) rfl rfl (by kernel_rfl) (by kernel_rfl) (by kernel_rfl) (fun _ _ _ h => h) (by rfl) hHeld (fun w hSw => ?_) ?_
  rotate_left 1
  · (try dsimp only at hSw); go_simp; try with_reducible rfl
  simp only [List.set_cons_succ, List.set_cons_zero]
  refine takeL 26 56 (v := ?_) rfl rfl (by kernel_rfl) (by kernel_rfl) (by kernel_rfl) (fun _ _ _ h => h) (by rfl) hHeld (fun w hSw => ?_) ?_
  rotate_left 1
  · (try dsimp only at hSw); go_simp; try with_reducible rfl
  simp only [List.set_cons_succ, List.set_cons_zero]
  have k0 := b0.c0
  have k1 := b0.c1
  have k2 := b1.c0
  have k3 := b1.c1
  refine wpAnyH_done (by kernel_rfl) ?_ _
  go_wp2_with fail
  · have h : ¬nv a.1 = 0 ∨ ¬nv a.2 = 0 := by assumption
    have za : ¬ a = (0#64, 0#64) := fun e => by rw [e] at h; exact h.elim (fun h => h nv_zero) (fun h => h nv_zero)
    have ha : (nv a.1 == 0 && nv a.2 == 0) = false := by rw [is_none]; simp [za]
    rename_i h1 _ _ _ _
    clear h h1
    by_cases zb : b = (0#64, 0#64)
    · have e1 : nv b.1 = 0 := by rw [zb]; exact nv_zero
      have e2 : nv b.2 = 0 := by rw [zb]; exact nv_zero
      refine (mul_at hM a b (0#64, 0#64) rfl rfl rfl rfl ((fmul_none a b).2 (Or.inr zb)) nv_zero nv_zero _).mono ?_
      rintro e wm ⟨rfl, hbm⟩
      have b0 := b0.grown hbm
      have b1 := b1.grown hbm
      have hB := hB.trans (hbm.mono hB.size)
      clear hbm
      clear zb za
      clear k0 k1 k2 k3
      have k0 := b0.c0
      have k1 := b0.c1
      go_wp2_with fail
      refine (add_at hA a a (0#64, 0#64) rfl rfl rfl rfl (addP_self a) nv_zero nv_zero _).mono ?_
      rintro e wm ⟨rfl, hbm⟩
      have b0 := b0.grown hbm
      have b1 := b1.grown hbm
      have hB := hB.trans (hbm.mono hB.size)
      clear hbm
      clear k0 k1
      go_wp2_with fail
      refine (known_true hM _).mono ?_
      rintro e wm ⟨rfl, hbm⟩
      have b0 := b0.grown hbm
      have b1 := b1.grown hbm
      have hB := hB.trans (hbm.mono hB.size)
      clear hbm
      go_wp2
      go_ret
      exact ⟨rfl, hB⟩
    · have hb : (nv b.1 == 0 && nv b.2 == 0) = false := by rw [is_none]; simp [zb]
      have hz : (nv (fmul a b).1 == 0 && nv (fmul a b).2 == 0) = false := by rw [is_none]; simp [fmul_none, za, zb]
      refine (hM a b _).mono ?_
      rintro e wm ⟨rfl, hbm⟩
      have b0 := b0.grown hbm
      have b1 := b1.grown hbm
      have hB := hB.trans (hbm.mono hB.size)
      clear hbm
      clear zb za
      clear k0 k1 k2 k3
      have k0 := b0.c0
      have k1 := b0.c1
      go_wp2_with fail
      refine (add_at hA a a (0#64, 0#64) rfl rfl rfl rfl (addP_self a) nv_zero nv_zero _).mono ?_
      rintro e wm ⟨rfl, hbm⟩
      have b0 := b0.grown hbm
      have b1 := b1.grown hbm
      have hB := hB.trans (hbm.mono hB.size)
      clear hbm
      clear k0 k1
      go_wp2_with fail
      refine (known_true hM _).mono ?_
      rintro e wm ⟨rfl, hbm⟩
      have b0 := b0.grown hbm
      have b1 := b1.grown hbm
      have hB := hB.trans (hbm.mono hB.size)
      clear hbm
      go_wp2
      go_ret
      exact ⟨rfl, hB⟩
  · have h : ¬(¬nv a.1 = 0 ∨ ¬nv a.2 = 0) := by assumption
    have e1 : nv a.1 = 0 := Decidable.byContradiction fun e => h (Or.inl e)
    have e2 : nv a.2 = 0 := Decidable.byContradiction fun e => h (Or.inr e)
    have za : a = (0#64, 0#64) := Prod.ext (nv_inj (e1.trans nv_zero.symm)) (nv_inj (e2.trans nv_zero.symm))
    have ha : (nv a.1 == 0 && nv a.2 == 0) = true := by rw [e1, e2]; rfl
    rename_i h1 _ _ _ _
    clear h h1 e1 e2
    refine (mul_at hM a b (0#64, 0#64) rfl rfl rfl rfl ((fmul_none a b).2 (Or.inl za)) nv_zero nv_zero _).mono ?_
    rintro e wm ⟨rfl, hbm⟩
    have b0 := b0.grown hbm
    have b1 := b1.grown hbm
    have hB := hB.trans (hbm.mono hB.size)
    clear hbm
    clear za
    clear k0 k1 k2 k3
    have k0 := b0.c0
    have k1 := b0.c1
    go_wp2_with fail
    refine (add_at hA a a (0#64, 0#64) rfl rfl rfl rfl (addP_self a) nv_zero nv_zero _).mono ?_
    rintro e wm ⟨rfl, hbm⟩
    have b0 := b0.grown hbm
    have b1 := b1.grown hbm
    have hB := hB.trans (hbm.mono hB.size)
    clear hbm
    clear k0 k1
    go_wp2_with fail
    refine (known_true hM _).mono ?_
    rintro e wm ⟨rfl, hbm⟩
    have b0 := b0.grown hbm
    have b1 := b1.grown hbm
    have hB := hB.trans (hbm.mono hB.size)
    clear hbm
    go_wp2
    go_ret
    exact ⟨rfl, hB⟩

end Go.Proofs.Ytmkkcplkpajjfaa
