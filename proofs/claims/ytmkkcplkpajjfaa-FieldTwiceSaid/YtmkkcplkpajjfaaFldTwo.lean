/- FieldTwice's walk, where field.Mul is the document's. -/
import Derived.Test.YtmkkcplkpajjfaaFldLaws
namespace Go.Proofs.Ytmkkcplkpajjfaa
open Go.RowKit

set_option maxHeartbeats 4000000 in
theorem twice_any (hM : MulSaid) (a : BitVec 64 × BitVec 64) (w : World) : Calls Try.prog 7 #[.agg #[.int .u64 (nv a.1), .int .u64 (nv a.2)]] w fun e w' => e = .returned (.bool true) ∧ Below w.heap.size w w' := by
  have heq := eq32
  go_enter Try.func7, Try.ntmps7
  go_wp2
  · have h : (nv a.1 / 9223372036854775808 == 1) = true := by assumption
    rw [tw1 a, tw2 a h]
    clear h
    rename_i h1 K1 h2
    clear h1
    have b0 := (Box.new w (nv a.1) (nv a.2)).alloc (.cells #[.int .u64 (nv (twiceP a).1), .int .u64 (nv (twiceP a).2)] 24)
    have b1 := Box.new (w.alloc (.cells #[.int .u64 (nv a.1), .int .u64 (nv a.2)] 24)) (nv (twiceP a).1) (nv (twiceP a).2)
    simp only [World.size_alloc] at b1
    have hB : Below w.heap.size w ((w.alloc (.cells #[.int .u64 (nv a.1), .int .u64 (nv a.2)] 24)).alloc (.cells #[.int .u64 (nv (twiceP a).1), .int .u64 (nv (twiceP a).2)] 24)) := by go_grown
    generalize ((w.alloc (.cells #[.int .u64 (nv a.1), .int .u64 (nv a.2)] 24)).alloc (.cells #[.int .u64 (nv (twiceP a).1), .int .u64 (nv (twiceP a).2)] 24)) = W at *
    refine wp_region_held_drew (S := fun w' => w'.cell? ⟨w.heap.size, 0, none⟩ = some (.int .u64 (nv a.1)) ∧ w'.cell? ⟨w.heap.size, 1, none⟩ = some (.int .u64 (nv a.2)) ∧ w'.cell? ⟨w.heap.size + 1, 0, none⟩ = some (.int .u64 (nv (twiceP a).1)) ∧ w'.cell? ⟨w.heap.size + 1, 1, none⟩ = some (.int .u64 (nv (twiceP a).2))) (by kernel_rfl) ⟨b0.c0, b0.c1, b1.c0, b1.c1⟩ (fun hHeld => ?_)
    refine takeL 0 23 (v := ?_) rfl rfl (by kernel_rfl) (by kernel_rfl) (by kernel_rfl) (fun _ _ _ h => h) (by rfl) hHeld (fun w hSw => ?_) ?_
    rotate_left 1
    · (try dsimp only at hSw); go_simp; try with_reducible rfl
    simp only [List.set_cons_succ, List.set_cons_zero]
    refine takeL 1 24 (v := ?_) rfl rfl (by kernel_rfl) (by kernel_rfl) (by kernel_rfl) (fun _ _ _ h => h) (by rfl) hHeld (fun w hSw => ?_) ?_
    rotate_left 1
    · (try dsimp only at hSw); go_simp; try with_reducible rfl
    simp only [List.set_cons_succ, List.set_cons_zero]
    refine takeL 3 26 (v := ?_) rfl rfl (by kernel_rfl) (by kernel_rfl) (by kernel_rfl) (fun _ _ _ h => h) (by rfl) hHeld (fun w hSw => ?_) ?_
    rotate_left 1
    · (try dsimp only at hSw); go_simp; try with_reducible rfl
    simp only [List.set_cons_succ, List.set_cons_zero]
    refine onlyL 2 rfl (by kernel_rfl) (by rfl) (fun K hK => ?_)
    go_wp2_with fail
    refine (mul_at hM a (0#64, 2#64) (twiceP a) rfl rfl nv_zero (by decide) (fmul_two a) rfl rfl _).mono ?_
    rintro e wn ⟨rfl, hbn⟩
    have hbn := (Below.refl _ _).drew.trans hbn
    have b0 := b0.grown hbn
    have b1 := b1.grown hbn
    have hB := hB.trans (hbn.mono hB.size)
    refine hK.out _ _ ⟨b0.c0, b0.c1, b1.c0, b1.c1⟩ (fun hHeld => ?_)
    clear hK K hbn
    refine takeL 4 27 (v := ?_) rfl rfl (by kernel_rfl) (by kernel_rfl) (by kernel_rfl) (fun _ _ _ h => h) (by rfl) hHeld (fun w hSw => ?_) ?_
    rotate_left 1
    · (try dsimp only at hSw); go_simp; try with_reducible rfl
    simp only [List.set_cons_succ, List.set_cons_zero]
    refine takeM 5 28 27 rfl rfl rfl (by kernel_rfl) (by kernel_rfl) (by kernel_rfl) (fun _ _ _ h => h) (by rfl) hHeld rfl ?_
    simp only [List.set_cons_succ, List.set_cons_zero]
    refine takeL 6 29 (v := ?_) rfl rfl (by kernel_rfl) (by kernel_rfl) (by kernel_rfl) (fun _ _ _ h => h) (by rfl) hHeld (fun w hSw => ?_) ?_
    rotate_left 1
    · (try dsimp only at hSw); go_simp; try with_reducible rfl
    simp only [List.set_cons_succ, List.set_cons_zero]
    refine takeL 7 30 (v := ?_) rfl rfl (by kernel_rfl) (by kernel_rfl) (by kernel_rfl) (fun _ _ _ h => h) (by rfl) hHeld (fun w hSw => ?_) ?_
    rotate_left 1
    · (try dsimp only at hSw); go_simp; try with_reducible rfl
    simp only [List.set_cons_succ, List.set_cons_zero]
    refine takeL 9 32 (v := ?_) rfl rfl (by kernel_rfl) (by kernel_rfl) (by kernel_rfl) (fun _ _ _ h => h) (by rfl) hHeld (fun w hSw => ?_) ?_
    rotate_left 1
    · (try dsimp only at hSw); go_simp; try with_reducible rfl
    simp only [List.set_cons_succ, List.set_cons_zero]
    refine onlyL 8 rfl (by kernel_rfl) (by rfl) (fun K hK => ?_)
    go_wp2_with fail
    refine (mul_at hM (0#64, 2#64) a (twiceP a) nv_zero (by decide) rfl rfl (by rw [fmul_comm, fmul_two]) rfl rfl _).mono ?_
    rintro e wn ⟨rfl, hbn⟩
    have b0 := b0.grown hbn
    have b1 := b1.grown hbn
    have hB := hB.trans (hbn.mono hB.size)
    refine hK.out _ _ ⟨b0.c0, b0.c1, b1.c0, b1.c1⟩ (fun hHeld => ?_)
    clear hK K hbn
    refine takeL 10 33 (v := ?_) rfl rfl (by kernel_rfl) (by kernel_rfl) (by kernel_rfl) (fun _ _ _ h => h) (by rfl) hHeld (fun w hSw => ?_) ?_
    rotate_left 1
    · (try dsimp only at hSw); go_simp; try with_reducible rfl
    simp only [List.set_cons_succ, List.set_cons_zero]
    refine takeL 11 34 (v := ?_) rfl rfl (by kernel_rfl) (by kernel_rfl) (by kernel_rfl) (fun _ _ _ h => h) (by rfl) hHeld (fun w hSw => ?_) ?_
    rotate_left 1
    · (try dsimp only at hSw); go_simp; try with_reducible rfl
    simp only [List.set_cons_succ, List.set_cons_zero]
    refine takeM 12 35 34 rfl rfl rfl (by kernel_rfl) (by kernel_rfl) (by kernel_rfl) (fun _ _ _ h => h) (by rfl) hHeld rfl ?_
    simp only [List.set_cons_succ, List.set_cons_zero]
    refine onlyL 13 rfl (by kernel_rfl) (by rfl) (fun K hK => ?_)
    go_wp2_with fail
    refine (known_true hM _).mono ?_
    rintro e wn ⟨rfl, hbn⟩
    have b0 := b0.grown hbn
    have b1 := b1.grown hbn
    have hB := hB.trans (hbn.mono hB.size)
    refine hK.out _ _ ⟨b0.c0, b0.c1, b1.c0, b1.c1⟩ (fun hHeld => ?_)
    clear hK K hbn
    refine takeL 14 37 (v := ?_) rfl rfl (by kernel_rfl) (by kernel_rfl) (by kernel_rfl) (fun _ _ _ h => h) (by rfl) hHeld (fun w hSw => ?_) ?_
    rotate_left 1
    · (try dsimp only at hSw); go_simp; try with_reducible rfl
    simp only [List.set_cons_succ, List.set_cons_zero]
    refine takeA 15 2 37 rfl rfl rfl (by kernel_rfl) (by kernel_rfl) (by kernel_rfl) (fun _ _ _ h => h) (by rfl) hHeld rfl ?_
    simp only [List.set_cons_succ, List.set_cons_zero]
    refine wpAnyH_done (by kernel_rfl) ?_ _
    go_wp2
    go_ret
    exact ⟨rfl, hB⟩
  · have h : (nv a.1 / 9223372036854775808 == 1) = false := by assumption
    rw [tw1 a, tw3 a h]
    clear h
    rename_i h1 K1 h2
    clear h1
    have b0 := (Box.new w (nv a.1) (nv a.2)).alloc (.cells #[.int .u64 (nv (twiceP a).1), .int .u64 (nv (twiceP a).2)] 24)
    have b1 := Box.new (w.alloc (.cells #[.int .u64 (nv a.1), .int .u64 (nv a.2)] 24)) (nv (twiceP a).1) (nv (twiceP a).2)
    simp only [World.size_alloc] at b1
    have hB : Below w.heap.size w ((w.alloc (.cells #[.int .u64 (nv a.1), .int .u64 (nv a.2)] 24)).alloc (.cells #[.int .u64 (nv (twiceP a).1), .int .u64 (nv (twiceP a).2)] 24)) := by go_grown
    generalize ((w.alloc (.cells #[.int .u64 (nv a.1), .int .u64 (nv a.2)] 24)).alloc (.cells #[.int .u64 (nv (twiceP a).1), .int .u64 (nv (twiceP a).2)] 24)) = W at *
    refine wp_region_held_drew (S := fun w' => w'.cell? ⟨w.heap.size, 0, none⟩ = some (.int .u64 (nv a.1)) ∧ w'.cell? ⟨w.heap.size, 1, none⟩ = some (.int .u64 (nv a.2)) ∧ w'.cell? ⟨w.heap.size + 1, 0, none⟩ = some (.int .u64 (nv (twiceP a).1)) ∧ w'.cell? ⟨w.heap.size + 1, 1, none⟩ = some (.int .u64 (nv (twiceP a).2))) (by kernel_rfl) ⟨b0.c0, b0.c1, b1.c0, b1.c1⟩ (fun hHeld => ?_)
    refine takeL 0 23 (v := ?_) rfl rfl (by kernel_rfl) (by kernel_rfl) (by kernel_rfl) (fun _ _ _ h => h) (by rfl) hHeld (fun w hSw => ?_) ?_
    rotate_left 1
    · (try dsimp only at hSw); go_simp; try with_reducible rfl
    simp only [List.set_cons_succ, List.set_cons_zero]
    refine takeL 1 24 (v := ?_) rfl rfl (by kernel_rfl) (by kernel_rfl) (by kernel_rfl) (fun _ _ _ h => h) (by rfl) hHeld (fun w hSw => ?_) ?_
    rotate_left 1
    · (try dsimp only at hSw); go_simp; try with_reducible rfl
    simp only [List.set_cons_succ, List.set_cons_zero]
    refine takeL 3 26 (v := ?_) rfl rfl (by kernel_rfl) (by kernel_rfl) (by kernel_rfl) (fun _ _ _ h => h) (by rfl) hHeld (fun w hSw => ?_) ?_
    rotate_left 1
    · (try dsimp only at hSw); go_simp; try with_reducible rfl
    simp only [List.set_cons_succ, List.set_cons_zero]
    refine onlyL 2 rfl (by kernel_rfl) (by rfl) (fun K hK => ?_)
    go_wp2_with fail
    refine (mul_at hM a (0#64, 2#64) (twiceP a) rfl rfl nv_zero (by decide) (fmul_two a) rfl rfl _).mono ?_
    rintro e wn ⟨rfl, hbn⟩
    have hbn := (Below.refl _ _).drew.trans hbn
    have b0 := b0.grown hbn
    have b1 := b1.grown hbn
    have hB := hB.trans (hbn.mono hB.size)
    refine hK.out _ _ ⟨b0.c0, b0.c1, b1.c0, b1.c1⟩ (fun hHeld => ?_)
    clear hK K hbn
    refine takeL 4 27 (v := ?_) rfl rfl (by kernel_rfl) (by kernel_rfl) (by kernel_rfl) (fun _ _ _ h => h) (by rfl) hHeld (fun w hSw => ?_) ?_
    rotate_left 1
    · (try dsimp only at hSw); go_simp; try with_reducible rfl
    simp only [List.set_cons_succ, List.set_cons_zero]
    refine takeM 5 28 27 rfl rfl rfl (by kernel_rfl) (by kernel_rfl) (by kernel_rfl) (fun _ _ _ h => h) (by rfl) hHeld rfl ?_
    simp only [List.set_cons_succ, List.set_cons_zero]
    refine takeL 6 29 (v := ?_) rfl rfl (by kernel_rfl) (by kernel_rfl) (by kernel_rfl) (fun _ _ _ h => h) (by rfl) hHeld (fun w hSw => ?_) ?_
    rotate_left 1
    · (try dsimp only at hSw); go_simp; try with_reducible rfl
    simp only [List.set_cons_succ, List.set_cons_zero]
    refine takeL 7 30 (v := ?_) rfl rfl (by kernel_rfl) (by kernel_rfl) (by kernel_rfl) (fun _ _ _ h => h) (by rfl) hHeld (fun w hSw => ?_) ?_
    rotate_left 1
    · (try dsimp only at hSw); go_simp; try with_reducible rfl
    simp only [List.set_cons_succ, List.set_cons_zero]
    refine takeL 9 32 (v := ?_) rfl rfl (by kernel_rfl) (by kernel_rfl) (by kernel_rfl) (fun _ _ _ h => h) (by rfl) hHeld (fun w hSw => ?_) ?_
    rotate_left 1
    · (try dsimp only at hSw); go_simp; try with_reducible rfl
    simp only [List.set_cons_succ, List.set_cons_zero]
    refine onlyL 8 rfl (by kernel_rfl) (by rfl) (fun K hK => ?_)
    go_wp2_with fail
    refine (mul_at hM (0#64, 2#64) a (twiceP a) nv_zero (by decide) rfl rfl (by rw [fmul_comm, fmul_two]) rfl rfl _).mono ?_
    rintro e wn ⟨rfl, hbn⟩
    have b0 := b0.grown hbn
    have b1 := b1.grown hbn
    have hB := hB.trans (hbn.mono hB.size)
    refine hK.out _ _ ⟨b0.c0, b0.c1, b1.c0, b1.c1⟩ (fun hHeld => ?_)
    clear hK K hbn
    refine takeL 10 33 (v := ?_) rfl rfl (by kernel_rfl) (by kernel_rfl) (by kernel_rfl) (fun _ _ _ h => h) (by rfl) hHeld (fun w hSw => ?_) ?_
    rotate_left 1
    · (try dsimp only at hSw); go_simp; try with_reducible rfl
    simp only [List.set_cons_succ, List.set_cons_zero]
    refine takeL 11 34 (v := ?_) rfl rfl (by kernel_rfl) (by kernel_rfl) (by kernel_rfl) (fun _ _ _ h => h) (by rfl) hHeld (fun w hSw => ?_) ?_
    rotate_left 1
    · (try dsimp only at hSw); go_simp; try with_reducible rfl
    simp only [List.set_cons_succ, List.set_cons_zero]
    refine takeM 12 35 34 rfl rfl rfl (by kernel_rfl) (by kernel_rfl) (by kernel_rfl) (fun _ _ _ h => h) (by rfl) hHeld rfl ?_
    simp only [List.set_cons_succ, List.set_cons_zero]
    refine onlyL 13 rfl (by kernel_rfl) (by rfl) (fun K hK => ?_)
    go_wp2_with fail
    refine (known_true hM _).mono ?_
    rintro e wn ⟨rfl, hbn⟩
    have b0 := b0.grown hbn
    have b1 := b1.grown hbn
    have hB := hB.trans (hbn.mono hB.size)
    refine hK.out _ _ ⟨b0.c0, b0.c1, b1.c0, b1.c1⟩ (fun hHeld => ?_)
    clear hK K hbn
    refine takeL 14 37 (v := ?_) rfl rfl (by kernel_rfl) (by kernel_rfl) (by kernel_rfl) (fun _ _ _ h => h) (by rfl) hHeld (fun w hSw => ?_) ?_
    rotate_left 1
    · (try dsimp only at hSw); go_simp; try with_reducible rfl
    simp only [List.set_cons_succ, List.set_cons_zero]
    refine takeA 15 2 37 rfl rfl rfl (by kernel_rfl) (by kernel_rfl) (by kernel_rfl) (fun _ _ _ h => h) (by rfl) hHeld rfl ?_
    simp only [List.set_cons_succ, List.set_cons_zero]
    refine wpAnyH_done (by kernel_rfl) ?_ _
    go_wp2
    go_ret
    exact ⟨rfl, hB⟩

end Go.Proofs.Ytmkkcplkpajjfaa
