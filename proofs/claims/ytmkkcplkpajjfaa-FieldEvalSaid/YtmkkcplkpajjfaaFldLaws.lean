/- What the statements on field come to, where field's functions are what the document has. -/
import Derived.Test.YtmkkcplkpajjfaaRefFld
namespace Go.Proofs.Ytmkkcplkpajjfaa
open Go.RowKit

/-- field.Mul is the document's. -/
def MulSaid : Prop := ∀ (a b : BitVec 64 × BitVec 64) (w : World), Calls Try.prog 8 #[.agg #[.int .u64 (nv a.1), .int .u64 (nv a.2)], .agg #[.int .u64 (nv b.1), .int .u64 (nv b.2)]] w fun e w' => e = .returned (.agg #[.int .u64 (nv (fmul a b).1), .int .u64 (nv (fmul a b).2)]) ∧ Below w.heap.size w w'
/-- field.Add is the document's. -/
def AddSaid : Prop := ∀ (a b : BitVec 64 × BitVec 64) (w : World), Calls Try.prog 10 #[.agg #[.int .u64 (nv a.1), .int .u64 (nv a.2)], .agg #[.int .u64 (nv b.1), .int .u64 (nv b.2)]] w fun e w' => e = .returned (.agg #[.int .u64 (nv (addP a b).1), .int .u64 (nv (addP a b).2)]) ∧ Below w.heap.size w w'

theorem mul_is (hM : MulSaid) (a b : BitVec 64 × BitVec 64) {c : BitVec 64 × BitVec 64} (h : fmul a b = c) (w : World) : Calls Try.prog 8 #[.agg #[.int .u64 (nv a.1), .int .u64 (nv a.2)], .agg #[.int .u64 (nv b.1), .int .u64 (nv b.2)]] w fun e w' => e = .returned (.agg #[.int .u64 (nv c.1), .int .u64 (nv c.2)]) ∧ Below w.heap.size w w' := by
  subst h
  exact hM a b w
theorem add_is (hA : AddSaid) (a b : BitVec 64 × BitVec 64) {c : BitVec 64 × BitVec 64} (h : addP a b = c) (w : World) : Calls Try.prog 10 #[.agg #[.int .u64 (nv a.1), .int .u64 (nv a.2)], .agg #[.int .u64 (nv b.1), .int .u64 (nv b.2)]] w fun e w' => e = .returned (.agg #[.int .u64 (nv c.1), .int .u64 (nv c.2)]) ∧ Below w.heap.size w w' := by
  subst h
  exact hA a b w
theorem mul_at (hM : MulSaid) (a b c : BitVec 64 × BitVec 64) {a1 a2 b1 b2 c1 c2 : Int} (ha1 : nv a.1 = a1) (ha2 : nv a.2 = a2) (hb1 : nv b.1 = b1) (hb2 : nv b.2 = b2) (h : fmul a b = c) (hc1 : nv c.1 = c1) (hc2 : nv c.2 = c2) (w : World) :
    Calls Try.prog 8 #[.agg #[.int .u64 a1, .int .u64 a2], .agg #[.int .u64 b1, .int .u64 b2]] w fun e w' => e = .returned (.agg #[.int .u64 c1, .int .u64 c2]) ∧ Below w.heap.size w w' := by
  subst ha1 ha2 hb1 hb2 h hc1 hc2
  exact hM a b w

theorem known_val : fmul (0x8000000000000000#64, 0#64) (0#64, 2#64) = (0#64, 135#64) := by decide +kernel
theorem topv : nv (0x8000000000000000#64) = 9223372036854775808 := by decide

set_option maxHeartbeats 400000 in
theorem known_true (hM : MulSaid) (w : World) : Calls Try.prog 12 #[] w fun e w' => e = .returned (.bool true) ∧ Below w.heap.size w w' := by
  have heq := eq32
  go_enter Try.func12, Try.ntmps12
  go_wp2_with fail
  refine (mul_at hM (0x8000000000000000#64, 0#64) (0#64, 2#64) (0#64, 135#64) topv nv_zero nv_zero (by decide) known_val nv_zero nv_135 _).mono ?_
  rintro e w1 ⟨rfl, hb1⟩
  go_wp2
  go_ret
  exact ⟨rfl, hb1⟩

set_option maxHeartbeats 2000000 in
theorem muls_any (hM : MulSaid) (hA : AddSaid) (a b : BitVec 64 × BitVec 64) (w : World) : Calls Try.prog 3 #[.agg #[.int .u64 (nv a.1), .int .u64 (nv a.2)], .agg #[.int .u64 (nv b.1), .int .u64 (nv b.2)]] w fun e w' => e = .returned (.bool true) ∧ Below w.heap.size w w' := by
  have heq := eq32
  go_enter Try.func3, Try.ntmps3
  go_wp2
  have b0 := (Box.new w (nv a.1) (nv a.2)).alloc (.cells #[.int .u64 (nv b.1), .int .u64 (nv b.2)] 24)
  have b1 := Box.new (w.alloc (.cells #[.int .u64 (nv a.1), .int .u64 (nv a.2)] 24)) (nv b.1) (nv b.2)
  simp only [World.size_alloc] at b1
  have hB : Below w.heap.size w ((w.alloc (.cells #[.int .u64 (nv a.1), .int .u64 (nv a.2)] 24)).alloc (.cells #[.int .u64 (nv b.1), .int .u64 (nv b.2)] 24)) := by go_grown
  generalize ((w.alloc (.cells #[.int .u64 (nv a.1), .int .u64 (nv a.2)] 24)).alloc (.cells #[.int .u64 (nv b.1), .int .u64 (nv b.2)] 24)) = W at *
  refine wp_region_held_drew (S := fun w' => w'.cell? ⟨w.heap.size, 0, none⟩ = some (.int .u64 (nv a.1)) ∧ w'.cell? ⟨w.heap.size, 1, none⟩ = some (.int .u64 (nv a.2)) ∧ w'.cell? ⟨w.heap.size + 1, 0, none⟩ = some (.int .u64 (nv b.1)) ∧ w'.cell? ⟨w.heap.size + 1, 1, none⟩ = some (.int .u64 (nv b.2))) (by kernel_rfl) ⟨b0.c0, b0.c1, b1.c0, b1.c1⟩ (fun hHeld => ?_)
  refine takeL 0 5 (v := ?_) rfl rfl (by kernel_rfl) (by kernel_rfl) (by kernel_rfl) (fun _ _ _ h => h) (by rfl) hHeld (fun w hSw => ?_) ?_
  rotate_left 1
  · (try dsimp only at hSw); go_simp; try with_reducible rfl
  simp only [List.set_cons_succ, List.set_cons_zero]
  refine takeL 1 6 (v := ?_) rfl rfl (by kernel_rfl) (by kernel_rfl) (by kernel_rfl) (fun _ _ _ h => h) (by rfl) hHeld (fun w hSw => ?_) ?_
  rotate_left 1
  · (try dsimp only at hSw); go_simp; try with_reducible rfl
  simp only [List.set_cons_succ, List.set_cons_zero]
  refine takeL 3 8 (v := ?_) rfl rfl (by kernel_rfl) (by kernel_rfl) (by kernel_rfl) (fun _ _ _ h => h) (by rfl) hHeld (fun w hSw => ?_) ?_
  rotate_left 1
  · (try dsimp only at hSw); go_simp; try with_reducible rfl
  simp only [List.set_cons_succ, List.set_cons_zero]
  refine takeL 4 9 (v := ?_) rfl rfl (by kernel_rfl) (by kernel_rfl) (by kernel_rfl) (fun _ _ _ h => h) (by rfl) hHeld (fun w hSw => ?_) ?_
  rotate_left 1
  · (try dsimp only at hSw); go_simp; try with_reducible rfl
  simp only [List.set_cons_succ, List.set_cons_zero]
  refine onlyL 2 rfl (by kernel_rfl) (by rfl) (fun K hK => ?_)
  go_wp2_with fail
  refine (hM a b _).mono ?_
  rintro e wn ⟨rfl, hbn⟩
  have hbn := (Below.refl _ _).drew.trans hbn
  have b0 := b0.grown hbn
  have b1 := b1.grown hbn
  have hB := hB.trans (hbn.mono hB.size)
  refine hK.out _ _ ⟨b0.c0, b0.c1, b1.c0, b1.c1⟩ (fun hHeld => ?_)
  clear hK K hbn
  refine onlyL 5 rfl (by kernel_rfl) (by rfl) (fun K hK => ?_)
  go_wp2_with fail
  refine (rmul a b _).mono ?_
  rintro e wn ⟨rfl, hbn⟩
  have b0 := b0.grown hbn
  have b1 := b1.grown hbn
  have hB := hB.trans (hbn.mono hB.size)
  refine hK.out _ _ ⟨b0.c0, b0.c1, b1.c0, b1.c1⟩ (fun hHeld => ?_)
  clear hK K hbn
  refine takeL 6 11 (v := ?_) rfl rfl (by kernel_rfl) (by kernel_rfl) (by kernel_rfl) (fun _ _ _ h => h) (by rfl) hHeld (fun w hSw => ?_) ?_
  rotate_left 1
  · (try dsimp only at hSw); go_simp; try with_reducible rfl
  simp only [List.set_cons_succ, List.set_cons_zero]
  refine takeM 7 12 11 rfl rfl rfl (by kernel_rfl) (by kernel_rfl) (by kernel_rfl) (fun _ _ _ h => h) (by rfl) hHeld rfl ?_
  simp only [List.set_cons_succ, List.set_cons_zero]
  refine takeL 8 13 (v := ?_) rfl rfl (by kernel_rfl) (by kernel_rfl) (by kernel_rfl) (fun _ _ _ h => h) (by rfl) hHeld (fun w hSw => ?_) ?_
  rotate_left 1
  · (try dsimp only at hSw); go_simp; try with_reducible rfl
  simp only [List.set_cons_succ, List.set_cons_zero]
  refine takeL 9 14 (v := ?_) rfl rfl (by kernel_rfl) (by kernel_rfl) (by kernel_rfl) (fun _ _ _ h => h) (by rfl) hHeld (fun w hSw => ?_) ?_
  rotate_left 1
  · (try dsimp only at hSw); go_simp; try with_reducible rfl
  simp only [List.set_cons_succ, List.set_cons_zero]
  refine takeL 11 16 (v := ?_) rfl rfl (by kernel_rfl) (by kernel_rfl) (by kernel_rfl) (fun _ _ _ h => h) (by rfl) hHeld (fun w hSw => ?_) ?_
  rotate_left 1
  · (try dsimp only at hSw); go_simp; try with_reducible rfl
  simp only [List.set_cons_succ, List.set_cons_zero]
  refine takeL 12 17 (v := ?_) rfl rfl (by kernel_rfl) (by kernel_rfl) (by kernel_rfl) (fun _ _ _ h => h) (by rfl) hHeld (fun w hSw => ?_) ?_
  rotate_left 1
  · (try dsimp only at hSw); go_simp; try with_reducible rfl
  simp only [List.set_cons_succ, List.set_cons_zero]
  refine onlyL 10 rfl (by kernel_rfl) (by rfl) (fun K hK => ?_)
  go_wp2_with fail
  refine (hA a b _).mono ?_
  rintro e wn ⟨rfl, hbn⟩
  have b0 := b0.grown hbn
  have b1 := b1.grown hbn
  have hB := hB.trans (hbn.mono hB.size)
  refine hK.out _ _ ⟨b0.c0, b0.c1, b1.c0, b1.c1⟩ (fun hHeld => ?_)
  clear hK K hbn
  refine onlyL 13 rfl (by kernel_rfl) (by rfl) (fun K hK => ?_)
  go_wp2_with fail
  refine (radd a b _).mono ?_
  rintro e wn ⟨rfl, hbn⟩
  have b0 := b0.grown hbn
  have b1 := b1.grown hbn
  have hB := hB.trans (hbn.mono hB.size)
  refine hK.out _ _ ⟨b0.c0, b0.c1, b1.c0, b1.c1⟩ (fun hHeld => ?_)
  clear hK K hbn
  refine takeL 14 19 (v := ?_) rfl rfl (by kernel_rfl) (by kernel_rfl) (by kernel_rfl) (fun _ _ _ h => h) (by rfl) hHeld (fun w hSw => ?_) ?_
  rotate_left 1
  · (try dsimp only at hSw); go_simp; try with_reducible rfl
  simp only [List.set_cons_succ, List.set_cons_zero]
  refine takeL 15 20 (v := ?_) rfl rfl (by kernel_rfl) (by kernel_rfl) (by kernel_rfl) (fun _ _ _ h => h) (by rfl) hHeld (fun w hSw => ?_) ?_
  rotate_left 1
  · (try dsimp only at hSw); go_simp; try with_reducible rfl
  simp only [List.set_cons_succ, List.set_cons_zero]
  refine takeM 16 21 20 rfl rfl rfl (by kernel_rfl) (by kernel_rfl) (by kernel_rfl) (fun _ _ _ h => h) (by rfl) hHeld rfl ?_
  simp only [List.set_cons_succ, List.set_cons_zero]
  refine onlyL 17 rfl (by kernel_rfl) (by rfl) (fun K hK => ?_)
  go_wp2_with fail
  refine (known_true hM _).mono ?_
  rintro e wn ⟨rfl, hbn⟩
  have b0 := b0.grown hbn
  have b1 := b1.grown hbn
  have hB := hB.trans (hbn.mono hB.size)
  refine hK.out _ _ ⟨b0.c0, b0.c1, b1.c0, b1.c1⟩ (fun hHeld => ?_)
  clear hK K hbn
  refine takeL 18 23 (v := ?_) rfl rfl (by kernel_rfl) (by kernel_rfl) (by kernel_rfl) (fun _ _ _ h => h) (by rfl) hHeld (fun w hSw => ?_) ?_
  rotate_left 1
  · (try dsimp only at hSw); go_simp; try with_reducible rfl
  simp only [List.set_cons_succ, List.set_cons_zero]
  refine takeA 19 4 23 rfl rfl rfl (by kernel_rfl) (by kernel_rfl) (by kernel_rfl) (fun _ _ _ h => h) (by rfl) hHeld rfl ?_
  simp only [List.set_cons_succ, List.set_cons_zero]
  refine wpAnyH_done (by kernel_rfl) ?_ _
  go_wp2
  go_ret
  exact ⟨rfl, hB⟩

end Go.Proofs.Ytmkkcplkpajjfaa
