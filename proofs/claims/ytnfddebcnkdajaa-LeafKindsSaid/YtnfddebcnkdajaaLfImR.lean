/- The landed leaves: read. -/
import Derived.Test.YtnfddebcnkdajaaLfImP
import Derived.Test.YtnfddebcnkdajaaCutW
import Derived.Test.YtnfddebcnkdajaaBEq
namespace Go.Proofs.Ytnfddebcnkdajaa
open Go.RowKit
set_option maxRecDepth 20000

theorem fill32 (n : Nat) : fillL [1, 1, 2, 4, 8, 16] (n : Int) = decide (n = 32) := by
  simp only [fillL]
  repeat' split
  all_goals first
    | (rw [eq_comm, decide_eq_false_iff_not]; omega)
    | (rw [Bool.eq_iff_iff, beq_iff_eq, decide_eq_true_eq]; omega)
theorem AtI.lit (w : World) (zs : List Int) : AtI (w.alloc (.cells (zs.map (Value.int .i64)).toArray 3)) w.heap.size 0 zs := by
  intro i hi
  rw [Nat.zero_add]
  simp [hi]
theorem ints6 (w : World) : AtI (w.alloc (.cells #[.int .i64 1, .int .i64 1, .int .i64 2, .int .i64 4, .int .i64 8, .int .i64 16] 3)) w.heap.size 0 [1, 1, 2, 4, 8, 16] := AtI.lit w [1, 1, 2, 4, 8, 16]
set_option maxHeartbeats 1000000 in
theorem iread_no (x : Option Addr) (n c : Nat) (slot : Int) (hn : n ≠ 32) (hm : n ≤ 9223372036854775807) (w : World) : Calls Try.prog 20 #[.slice x n c, .int .i64 slot] w fun e w' => e = .returned (.tuple #[lfv lf0, .bool false]) ∧ Below w.heap.size w w' := by
  have hz : lfv lf0 = .agg #[.int .i64 0, .bool false, .int .i64 0, .int .u32 0, .int .u32 0, .int .u64 0, .int .u64 0, .int .u64 0] := rfl
  rw [hz]
  have z0 := (CBox.new 29 w #[.int .i64 0, .bool false, .int .i64 0, .int .u32 0, .int .u32 0, .int .u64 0, .int .u64 0, .int .u64 0]).grown ((Below.refl _ _).alloc (Nat.le_refl _) (.cells #[.int .i64 1, .int .i64 1, .int .i64 2, .int .i64 4, .int .i64 8, .int .i64 16] 3))
  have hB0 : Below w.heap.size w ((w.alloc (.cells #[.int .i64 0, .bool false, .int .i64 0, .int .u32 0, .int .u32 0, .int .u64 0, .int .u64 0, .int .u64 0] 29)).alloc (.cells #[.int .i64 1, .int .i64 1, .int .i64 2, .int .i64 4, .int .i64 8, .int .i64 16] 3)) := ((Below.refl _ _).alloc (Nat.le_refl _) _).alloc (by rw [World.size_alloc]; omega) _
  have hf := fill_some _ 0 6 6 n [1, 1, 2, 4, 8, 16] _ rfl (by decide) hm (ints6 (w.alloc (.cells #[.int .i64 0, .bool false, .int .i64 0, .int .u32 0, .int .u32 0, .int .u64 0, .int .u64 0, .int .u64 0] 29)))
  rw [fill32, decide_eq_false hn] at hf
  have hc := cut_no x (some ⟨(w.alloc (.cells #[.int .i64 0, .bool false, .int .i64 0, .int .u32 0, .int .u32 0, .int .u64 0, .int .u64 0, .int .u64 0] 29)).heap.size, 0, none⟩) n c 6 6 _ hf
  simp only [World.size_alloc] at hc
  clear hf hn
  go_enter Try.func20, Try.ntmps20
  go_wp2_with fail
  generalize (w.alloc (.cells #[.int .i64 0, .bool false, .int .i64 0, .int .u32 0, .int .u32 0, .int .u64 0, .int .u64 0, .int .u64 0] 29)).alloc (.cells #[.int .i64 1, .int .i64 1, .int .i64 2, .int .i64 4, .int .i64 8, .int .i64 16] 3) = W at *
  refine hc.mono ?_
  clear hc
  rintro e w1 ⟨rfl, rfl⟩
  have f0 := CBox.frozen z0 0
  have f1 := CBox.frozen z0 1
  have f2 := CBox.frozen z0 2
  have f3 := CBox.frozen z0 3
  have f4 := CBox.frozen z0 4
  have f5 := CBox.frozen z0 5
  have f6 := CBox.frozen z0 6
  have f7 := CBox.frozen z0 7
  have g0 : w1.cell? ⟨w.heap.size, 0, none⟩ = some (.int .i64 0) := CBox.cell z0 0
  have g1 : w1.cell? ⟨w.heap.size, 1, none⟩ = some (.bool false) := CBox.cell z0 1
  have g2 : w1.cell? ⟨w.heap.size, 2, none⟩ = some (.int .i64 0) := CBox.cell z0 2
  have g3 : w1.cell? ⟨w.heap.size, 3, none⟩ = some (.int .u32 0) := CBox.cell z0 3
  have g4 : w1.cell? ⟨w.heap.size, 4, none⟩ = some (.int .u32 0) := CBox.cell z0 4
  have g5 : w1.cell? ⟨w.heap.size, 5, none⟩ = some (.int .u64 0) := CBox.cell z0 5
  have g6 : w1.cell? ⟨w.heap.size, 6, none⟩ = some (.int .u64 0) := CBox.cell z0 6
  have g7 : w1.cell? ⟨w.heap.size, 7, none⟩ = some (.int .u64 0) := CBox.cell z0 7
  go_wp2
  have bM := (CBox.put (CBox.put (CBox.put (CBox.put (CBox.put (CBox.put (CBox.put (CBox.put z0 0 (.int .i64 0)) 1 (.bool false)) 2 (.int .i64 0)) 3 (.int .u32 0)) 4 (.int .u32 0)) 5 (.int .u64 0)) 6 (.int .u64 0)) 7 (.int .u64 0))
  have k0 := CBox.cell bM 0
  have k1 := CBox.cell bM 1
  have k2 := CBox.cell bM 2
  have k3 := CBox.cell bM 3
  have k4 := CBox.cell bM 4
  have k5 := CBox.cell bM 5
  have k6 := CBox.cell bM 6
  have k7 := CBox.cell bM 7
  have hBE : Below w.heap.size w ((((((((w1.setCell ⟨w.heap.size, 0, none⟩ (.int .i64 0)).setCell ⟨w.heap.size, 1, none⟩ (.bool false)).setCell ⟨w.heap.size, 2, none⟩ (.int .i64 0)).setCell ⟨w.heap.size, 3, none⟩ (.int .u32 0)).setCell ⟨w.heap.size, 4, none⟩ (.int .u32 0)).setCell ⟨w.heap.size, 5, none⟩ (.int .u64 0)).setCell ⟨w.heap.size, 6, none⟩ (.int .u64 0)).setCell ⟨w.heap.size, 7, none⟩ (.int .u64 0)) := ((((((((((((((((hB0).setCell (p := ⟨w.heap.size, 0, none⟩) (Nat.le_refl _) (.int .i64 0))).setCell (p := ⟨w.heap.size, 1, none⟩) (Nat.le_refl _) (.bool false))).setCell (p := ⟨w.heap.size, 2, none⟩) (Nat.le_refl _) (.int .i64 0))).setCell (p := ⟨w.heap.size, 3, none⟩) (Nat.le_refl _) (.int .u32 0))).setCell (p := ⟨w.heap.size, 4, none⟩) (Nat.le_refl _) (.int .u32 0))).setCell (p := ⟨w.heap.size, 5, none⟩) (Nat.le_refl _) (.int .u64 0))).setCell (p := ⟨w.heap.size, 6, none⟩) (Nat.le_refl _) (.int .u64 0))).setCell (p := ⟨w.heap.size, 7, none⟩) (Nat.le_refl _) (.int .u64 0))
  exact bodyPost_ret (v := .tuple #[.agg #[.int .i64 0, .bool false, .int .i64 0, .int .u32 0, .int .u32 0, .int .u64 0, .int .u64 0, .int .u64 0], .bool false]) (by simp [results, Try.results20, go_sem, k0, k1, k2, k3, k4, k5, k6, k7]) rfl ⟨rfl, hBE⟩
theorem cut_row {w : World} {N k : Nat} {xs : List Int} (h : CutsTo w N 6 6 (cutP xs [1, 1, 2, 4, 8, 16])) (hx : xs.length = 32) (hk : k < 6) : ∃ g, N < g ∧ w.cell? ⟨N, k, none⟩ = some (.slice (some ⟨g, 0, none⟩) ([1, 1, 2, 4, 8, 16] : List Nat)[k] ([1, 1, 2, 4, 8, 16] : List Nat)[k]) ∧ Row w g (cutP xs [1, 1, 2, 4, 8, 16] k) := by
  obtain ⟨f, hf, hr⟩ := h
  obtain ⟨g, h1, h2, h3⟩ := hr k hk
  refine ⟨g, h1, ?_, h3⟩
  rw [hf.cell hk, h2, cutP_length xs [1, 1, 2, 4, 8, 16] k hk (by rw [hx]; rfl)]
  simp [hk]
end Go.Proofs.Ytnfddebcnkdajaa
