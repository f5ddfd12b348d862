/- The landed leaves: Get; all that is asked of them. -/
import Derived.Test.YtnfddebcnkdajaaLfImG
namespace Go.Proofs.Ytnfddebcnkdajaa
open Go.RowKit
set_option maxRecDepth 20000

theorem lfRes_read {xs : List Int} {slot : Int} {l : Lf} (hL : lfGet xs slot = l) (hxl : xs.length = 32) (ho : lfOk l slot) : lfRes xs slot = if lfL l = xs then (l, true) else (lf0, false) := by
  unfold lfRes lfTaken
  rw [hL]
  by_cases hq : lfL l = xs
  · rw [if_pos hq, if_pos (decide_eq_true ⟨hxl, ho, hq⟩)]
  · rw [if_neg hq, if_neg (by rw [decide_eq_true_eq]; exact fun e => hq e.2.2)]
theorem lfRes_off {xs : List Int} {slot : Int} {l : Lf} (hL : lfGet xs slot = l) (ho : ¬ lfOk l slot) : lfRes xs slot = (lf0, false) := by
  unfold lfRes lfTaken
  rw [hL, if_neg]
  rw [decide_eq_true_eq]
  exact fun e => ho e.2.1
set_option maxRecDepth 20000 in
set_option maxHeartbeats 4000000 in
theorem iget : LfGetIn 10 := by
  intro x n c xs slot fx bx w sx
  have hz : lfv lf0 = .agg #[.int .i64 0, .bool false, .int .i64 0, .int .u32 0, .int .u32 0, .int .u64 0, .int .u64 0, .int .u64 0] := rfl
  have z0 := CBox.new 29 w #[.int .i64 0, .bool false, .int .i64 0, .int .u32 0, .int .u32 0, .int .u64 0, .int .u64 0, .int .u64 0]
  have hB0 : Below w.heap.size w (w.alloc (.cells #[.int .i64 0, .bool false, .int .i64 0, .int .u32 0, .int .u32 0, .int .u64 0, .int .u64 0, .int .u64 0] 29)) := (Below.refl _ _).alloc (Nat.le_refl _) _
  have hxl := sx.1
  by_cases hn : n = 32
  case neg =>
    rw [lfRes_no xs slot (by omega), hz]
    have hm : n ≤ 9223372036854775807 := Nat.le_trans fx.1 fx.2.1
    have hr := iread_no x n c slot hn hm
    rw [hz] at hr
    clear sx bx hn hm fx hxl
    go_enter Try.func10, Try.ntmps10
    go_wp2_with fail
    generalize w.alloc (.cells #[.int .i64 0, .bool false, .int .i64 0, .int .u32 0, .int .u32 0, .int .u64 0, .int .u64 0, .int .u64 0] 29) = W at *
    refine (hr _).mono ?_
    clear hr
    rintro e w1 ⟨rfl, hb⟩
    have z2 := (z0.grown hb).grown ((Below.refl _ _).alloc (Nat.le_refl _) (.cells #[.int .i64 0, .bool false, .int .i64 0, .int .u32 0, .int .u32 0, .int .u64 0, .int .u64 0, .int .u64 0] 29))
    have hB2 := hB0.trans (hb.mono hB0.size)
    have hB3 : Below w.heap.size w (w1.alloc (.cells #[.int .i64 0, .bool false, .int .i64 0, .int .u32 0, .int .u32 0, .int .u64 0, .int .u64 0, .int .u64 0] 29)) := hB2.alloc hB2.size _
    clear z0 hB0 hb hB2
    have f0 := CBox.frozen z2 0
    have f1 := CBox.frozen z2 1
    have f2 := CBox.frozen z2 2
    have f3 := CBox.frozen z2 3
    have f4 := CBox.frozen z2 4
    have f5 := CBox.frozen z2 5
    have f6 := CBox.frozen z2 6
    have f7 := CBox.frozen z2 7
    have g0 : (w1.alloc (.cells #[.int .i64 0, .bool false, .int .i64 0, .int .u32 0, .int .u32 0, .int .u64 0, .int .u64 0, .int .u64 0] 29)).cell? ⟨w.heap.size, 0, none⟩ = some (.int .i64 0) := CBox.cell z2 0
    have g1 : (w1.alloc (.cells #[.int .i64 0, .bool false, .int .i64 0, .int .u32 0, .int .u32 0, .int .u64 0, .int .u64 0, .int .u64 0] 29)).cell? ⟨w.heap.size, 1, none⟩ = some (.bool false) := CBox.cell z2 1
    have g2 : (w1.alloc (.cells #[.int .i64 0, .bool false, .int .i64 0, .int .u32 0, .int .u32 0, .int .u64 0, .int .u64 0, .int .u64 0] 29)).cell? ⟨w.heap.size, 2, none⟩ = some (.int .i64 0) := CBox.cell z2 2
    have g3 : (w1.alloc (.cells #[.int .i64 0, .bool false, .int .i64 0, .int .u32 0, .int .u32 0, .int .u64 0, .int .u64 0, .int .u64 0] 29)).cell? ⟨w.heap.size, 3, none⟩ = some (.int .u32 0) := CBox.cell z2 3
    have g4 : (w1.alloc (.cells #[.int .i64 0, .bool false, .int .i64 0, .int .u32 0, .int .u32 0, .int .u64 0, .int .u64 0, .int .u64 0] 29)).cell? ⟨w.heap.size, 4, none⟩ = some (.int .u32 0) := CBox.cell z2 4
    have g5 : (w1.alloc (.cells #[.int .i64 0, .bool false, .int .i64 0, .int .u32 0, .int .u32 0, .int .u64 0, .int .u64 0, .int .u64 0] 29)).cell? ⟨w.heap.size, 5, none⟩ = some (.int .u64 0) := CBox.cell z2 5
    have g6 : (w1.alloc (.cells #[.int .i64 0, .bool false, .int .i64 0, .int .u32 0, .int .u32 0, .int .u64 0, .int .u64 0, .int .u64 0] 29)).cell? ⟨w.heap.size, 6, none⟩ = some (.int .u64 0) := CBox.cell z2 6
    have g7 : (w1.alloc (.cells #[.int .i64 0, .bool false, .int .i64 0, .int .u32 0, .int .u32 0, .int .u64 0, .int .u64 0, .int .u64 0] 29)).cell? ⟨w.heap.size, 7, none⟩ = some (.int .u64 0) := CBox.cell z2 7
    go_wp2
    have bM := (CBox.put (CBox.put (CBox.put (CBox.put (CBox.put (CBox.put (CBox.put (CBox.put z2 0 (.int .i64 0)) 1 (.bool false)) 2 (.int .i64 0)) 3 (.int .u32 0)) 4 (.int .u32 0)) 5 (.int .u64 0)) 6 (.int .u64 0)) 7 (.int .u64 0))
    have k0 := CBox.cell bM 0
    have k1 := CBox.cell bM 1
    have k2 := CBox.cell bM 2
    have k3 := CBox.cell bM 3
    have k4 := CBox.cell bM 4
    have k5 := CBox.cell bM 5
    have k6 := CBox.cell bM 6
    have k7 := CBox.cell bM 7
    have hBE : Below w.heap.size w (((((((((w1.alloc (.cells #[.int .i64 0, .bool false, .int .i64 0, .int .u32 0, .int .u32 0, .int .u64 0, .int .u64 0, .int .u64 0] 29)).setCell ⟨w.heap.size, 0, none⟩ (.int .i64 0)).setCell ⟨w.heap.size, 1, none⟩ (.bool false)).setCell ⟨w.heap.size, 2, none⟩ (.int .i64 0)).setCell ⟨w.heap.size, 3, none⟩ (.int .u32 0)).setCell ⟨w.heap.size, 4, none⟩ (.int .u32 0)).setCell ⟨w.heap.size, 5, none⟩ (.int .u64 0)).setCell ⟨w.heap.size, 6, none⟩ (.int .u64 0)).setCell ⟨w.heap.size, 7, none⟩ (.int .u64 0)) := ((((((((((((((((hB3).setCell (p := ⟨w.heap.size, 0, none⟩) (Nat.le_refl _) (.int .i64 0))).setCell (p := ⟨w.heap.size, 1, none⟩) (Nat.le_refl _) (.bool false))).setCell (p := ⟨w.heap.size, 2, none⟩) (Nat.le_refl _) (.int .i64 0))).setCell (p := ⟨w.heap.size, 3, none⟩) (Nat.le_refl _) (.int .u32 0))).setCell (p := ⟨w.heap.size, 4, none⟩) (Nat.le_refl _) (.int .u32 0))).setCell (p := ⟨w.heap.size, 5, none⟩) (Nat.le_refl _) (.int .u64 0))).setCell (p := ⟨w.heap.size, 6, none⟩) (Nat.le_refl _) (.int .u64 0))).setCell (p := ⟨w.heap.size, 7, none⟩) (Nat.le_refl _) (.int .u64 0))
    exact bodyPost_ret (v := .tuple #[.agg #[.int .i64 0, .bool false, .int .i64 0, .int .u32 0, .int .u32 0, .int .u64 0, .int .u64 0, .int .u64 0], .bool false]) (by simp [results, Try.results10, go_sem, k0, k1, k2, k3, k4, k5, k6, k7]) rfl ⟨rfl, hBE⟩
  subst hn
  obtain ⟨b, o, rfl, hbl, hat⟩ := sx.2 (by decide)
  have hr := iread_yes b o c xs slot (w.alloc (.cells #[.int .i64 0, .bool false, .int .i64 0, .int .u32 0, .int .u32 0, .int .u64 0, .int .u64 0, .int .u64 0] 29)) hxl fx.1 fx.2.1 bx (Nat.lt_of_lt_of_le hbl hB0.size) (hat.below hB0 hbl)
  obtain ⟨l, hL⟩ : ∃ l, lfGet xs slot = l := ⟨_, rfl⟩
  rw [hL] at hr
  by_cases ho : lfOk l slot
  · have hput := iput_yes l slot ho
    have HR := hide' (lfRes_read hL hxl ho)
    clear hL ho hat fx
    obtain ⟨k, d, lb, ep, sl, ve, t1, t2⟩ := l
    unfold lfv at hr hput
    dsimp only at hr hput
    have sx0 := sx.below hB0
    go_enter Try.func10, Try.ntmps10
    go_wp2_with fail
    generalize w.alloc (.cells #[.int .i64 0, .bool false, .int .i64 0, .int .u32 0, .int .u32 0, .int .u64 0, .int .u64 0, .int .u64 0] 29) = W at *
    refine hr.mono ?_
    clear hr
    rintro e w1 ⟨rfl, hb⟩
    have hA : Below w1.heap.size w1 (w1.alloc (.cells #[.int .i64 k, .bool d, .int .i64 lb, .int .u32 (nv32 ep), .int .u32 (nv32 sl), .int .u64 (nv ve), .int .u64 (nv t1), .int .u64 (nv t2)] 29)) := (Below.refl _ _).alloc (Nat.le_refl _) _
    have z2 := (z0.grown hb).grown hA
    have y2 := CBox.new 29 w1 #[.int .i64 k, .bool d, .int .i64 lb, .int .u32 (nv32 ep), .int .u32 (nv32 sl), .int .u64 (nv ve), .int .u64 (nv t1), .int .u64 (nv t2)]
    have sx2 := (sx0.below hb).below hA
    have hB2 := hB0.trans (hb.mono hB0.size)
    have hB3 := hB2.trans (hA.mono hB2.size)
    clear z0 hB0 hb hA sx0 sx
    go_wp2_with fail
    generalize w1.alloc (.cells #[.int .i64 k, .bool d, .int .i64 lb, .int .u32 (nv32 ep), .int .u32 (nv32 sl), .int .u64 (nv ve), .int .u64 (nv t1), .int .u64 (nv t2)] 29) = w2 at *
    refine (hput _).mono ?_
    clear hput
    rintro e w3 ⟨z, cz, rfl, sz, fz, hb⟩
    have sx3 := sx2.below hb
    have z3 := z2.grown hb
    have y3 := y2.grown hb
    have hB4 := hB3.trans (hb.mono hB3.size)
    clear z2 y2 hB3 hb sx2
    have heq := iequal z (some ⟨b, o, none⟩) 32 32 cz c _ _ (lfL_bytes ⟨k, d, lb, ep, sl, ve, t1, t2⟩) bx w3 sz.sat sx3
    go_wp2_with fail
    refine heq.mono ?_
    clear heq
    rintro e w4 ⟨rfl, rfl⟩
    clear sx3 sz fz bx hB2 hbl hxl
    have y_0 : w4.cell? ⟨w1.heap.size, 0, none⟩ = some (.int .i64 k) := CBox.cell y3 0
    have y_1 : w4.cell? ⟨w1.heap.size, 1, none⟩ = some (.bool d) := CBox.cell y3 1
    have y_2 : w4.cell? ⟨w1.heap.size, 2, none⟩ = some (.int .i64 lb) := CBox.cell y3 2
    have y_3 : w4.cell? ⟨w1.heap.size, 3, none⟩ = some (.int .u32 (nv32 ep)) := CBox.cell y3 3
    have y_4 : w4.cell? ⟨w1.heap.size, 4, none⟩ = some (.int .u32 (nv32 sl)) := CBox.cell y3 4
    have y_5 : w4.cell? ⟨w1.heap.size, 5, none⟩ = some (.int .u64 (nv ve)) := CBox.cell y3 5
    have y_6 : w4.cell? ⟨w1.heap.size, 6, none⟩ = some (.int .u64 (nv t1)) := CBox.cell y3 6
    have y_7 : w4.cell? ⟨w1.heap.size, 7, none⟩ = some (.int .u64 (nv t2)) := CBox.cell y3 7
    by_cases hq : lfL ⟨k, d, lb, ep, sl, ve, t1, t2⟩ = xs
    · have hr := HR.out
      rw [if_pos hq] at hr
      rw [decide_eq_true hq]
      clear HR hq
      have HR := hide' hr
      clear hr y3
      have f0 := CBox.frozen z3 0
      have f1 := CBox.frozen z3 1
      have f2 := CBox.frozen z3 2
      have f3 := CBox.frozen z3 3
      have f4 := CBox.frozen z3 4
      have f5 := CBox.frozen z3 5
      have f6 := CBox.frozen z3 6
      have f7 := CBox.frozen z3 7
      have g0 : w4.cell? ⟨w.heap.size, 0, none⟩ = some (.int .i64 0) := CBox.cell z3 0
      have g1 : w4.cell? ⟨w.heap.size, 1, none⟩ = some (.bool false) := CBox.cell z3 1
      have g2 : w4.cell? ⟨w.heap.size, 2, none⟩ = some (.int .i64 0) := CBox.cell z3 2
      have g3 : w4.cell? ⟨w.heap.size, 3, none⟩ = some (.int .u32 0) := CBox.cell z3 3
      have g4 : w4.cell? ⟨w.heap.size, 4, none⟩ = some (.int .u32 0) := CBox.cell z3 4
      have g5 : w4.cell? ⟨w.heap.size, 5, none⟩ = some (.int .u64 0) := CBox.cell z3 5
      have g6 : w4.cell? ⟨w.heap.size, 6, none⟩ = some (.int .u64 0) := CBox.cell z3 6
      have g7 : w4.cell? ⟨w.heap.size, 7, none⟩ = some (.int .u64 0) := CBox.cell z3 7
      go_wp2
      have bM := (CBox.put (CBox.put (CBox.put (CBox.put (CBox.put (CBox.put (CBox.put (CBox.put z3 0 (.int .i64 k)) 1 (.bool d)) 2 (.int .i64 lb)) 3 (.int .u32 (nv32 ep))) 4 (.int .u32 (nv32 sl))) 5 (.int .u64 (nv ve))) 6 (.int .u64 (nv t1))) 7 (.int .u64 (nv t2)))
      have k0 := CBox.cell bM 0
      have k1 := CBox.cell bM 1
      have k2 := CBox.cell bM 2
      have k3 := CBox.cell bM 3
      have k4 := CBox.cell bM 4
      have k5 := CBox.cell bM 5
      have k6 := CBox.cell bM 6
      have k7 := CBox.cell bM 7
      have hBE : Below w.heap.size w ((((((((w4.setCell ⟨w.heap.size, 0, none⟩ (.int .i64 k)).setCell ⟨w.heap.size, 1, none⟩ (.bool d)).setCell ⟨w.heap.size, 2, none⟩ (.int .i64 lb)).setCell ⟨w.heap.size, 3, none⟩ (.int .u32 (nv32 ep))).setCell ⟨w.heap.size, 4, none⟩ (.int .u32 (nv32 sl))).setCell ⟨w.heap.size, 5, none⟩ (.int .u64 (nv ve))).setCell ⟨w.heap.size, 6, none⟩ (.int .u64 (nv t1))).setCell ⟨w.heap.size, 7, none⟩ (.int .u64 (nv t2))) := ((((((((((((((((hB4).setCell (p := ⟨w.heap.size, 0, none⟩) (Nat.le_refl _) (.int .i64 k))).setCell (p := ⟨w.heap.size, 1, none⟩) (Nat.le_refl _) (.bool d))).setCell (p := ⟨w.heap.size, 2, none⟩) (Nat.le_refl _) (.int .i64 lb))).setCell (p := ⟨w.heap.size, 3, none⟩) (Nat.le_refl _) (.int .u32 (nv32 ep)))).setCell (p := ⟨w.heap.size, 4, none⟩) (Nat.le_refl _) (.int .u32 (nv32 sl)))).setCell (p := ⟨w.heap.size, 5, none⟩) (Nat.le_refl _) (.int .u64 (nv ve)))).setCell (p := ⟨w.heap.size, 6, none⟩) (Nat.le_refl _) (.int .u64 (nv t1)))).setCell (p := ⟨w.heap.size, 7, none⟩) (Nat.le_refl _) (.int .u64 (nv t2)))
      exact bodyPost_ret (v := .tuple #[.agg #[.int .i64 k, .bool d, .int .i64 lb, .int .u32 (nv32 ep), .int .u32 (nv32 sl), .int .u64 (nv ve), .int .u64 (nv t1), .int .u64 (nv t2)], .bool true]) (by simp [results, Try.results10, go_sem, k0, k1, k2, k3, k4, k5, k6, k7]) rfl ⟨by rw [HR.out]; rfl, hBE⟩
    · have hr := HR.out
      rw [if_neg hq] at hr
      rw [decide_eq_false hq]
      clear HR hq
      have HR := hide' hr
      clear hr y3 y_0 y_1 y_2 y_3 y_4 y_5 y_6 y_7
      have f0 := CBox.frozen z3 0
      have f1 := CBox.frozen z3 1
      have f2 := CBox.frozen z3 2
      have f3 := CBox.frozen z3 3
      have f4 := CBox.frozen z3 4
      have f5 := CBox.frozen z3 5
      have f6 := CBox.frozen z3 6
      have f7 := CBox.frozen z3 7
      have g0 : w4.cell? ⟨w.heap.size, 0, none⟩ = some (.int .i64 0) := CBox.cell z3 0
      have g1 : w4.cell? ⟨w.heap.size, 1, none⟩ = some (.bool false) := CBox.cell z3 1
      have g2 : w4.cell? ⟨w.heap.size, 2, none⟩ = some (.int .i64 0) := CBox.cell z3 2
      have g3 : w4.cell? ⟨w.heap.size, 3, none⟩ = some (.int .u32 0) := CBox.cell z3 3
      have g4 : w4.cell? ⟨w.heap.size, 4, none⟩ = some (.int .u32 0) := CBox.cell z3 4
      have g5 : w4.cell? ⟨w.heap.size, 5, none⟩ = some (.int .u64 0) := CBox.cell z3 5
      have g6 : w4.cell? ⟨w.heap.size, 6, none⟩ = some (.int .u64 0) := CBox.cell z3 6
      have g7 : w4.cell? ⟨w.heap.size, 7, none⟩ = some (.int .u64 0) := CBox.cell z3 7
      go_wp2
      have bM := (CBox.put (CBox.put (CBox.put (CBox.put (CBox.put (CBox.put (CBox.put (CBox.put z3 0 (.int .i64 0)) 1 (.bool false)) 2 (.int .i64 0)) 3 (.int .u32 0)) 4 (.int .u32 0)) 5 (.int .u64 0)) 6 (.int .u64 0)) 7 (.int .u64 0))
      have k0 := CBox.cell bM 0
      have k1 := CBox.cell bM 1
      have k2 := CBox.cell bM 2
      have k3 := CBox.cell bM 3
      have k4 := CBox.cell bM 4
      have k5 := CBox.cell bM 5
      have k6 := CBox.cell bM 6
      have k7 := CBox.cell bM 7
      have hBE : Below w.heap.size w ((((((((w4.setCell ⟨w.heap.size, 0, none⟩ (.int .i64 0)).setCell ⟨w.heap.size, 1, none⟩ (.bool false)).setCell ⟨w.heap.size, 2, none⟩ (.int .i64 0)).setCell ⟨w.heap.size, 3, none⟩ (.int .u32 0)).setCell ⟨w.heap.size, 4, none⟩ (.int .u32 0)).setCell ⟨w.heap.size, 5, none⟩ (.int .u64 0)).setCell ⟨w.heap.size, 6, none⟩ (.int .u64 0)).setCell ⟨w.heap.size, 7, none⟩ (.int .u64 0)) := ((((((((((((((((hB4).setCell (p := ⟨w.heap.size, 0, none⟩) (Nat.le_refl _) (.int .i64 0))).setCell (p := ⟨w.heap.size, 1, none⟩) (Nat.le_refl _) (.bool false))).setCell (p := ⟨w.heap.size, 2, none⟩) (Nat.le_refl _) (.int .i64 0))).setCell (p := ⟨w.heap.size, 3, none⟩) (Nat.le_refl _) (.int .u32 0))).setCell (p := ⟨w.heap.size, 4, none⟩) (Nat.le_refl _) (.int .u32 0))).setCell (p := ⟨w.heap.size, 5, none⟩) (Nat.le_refl _) (.int .u64 0))).setCell (p := ⟨w.heap.size, 6, none⟩) (Nat.le_refl _) (.int .u64 0))).setCell (p := ⟨w.heap.size, 7, none⟩) (Nat.le_refl _) (.int .u64 0))
      exact bodyPost_ret (v := .tuple #[.agg #[.int .i64 0, .bool false, .int .i64 0, .int .u32 0, .int .u32 0, .int .u64 0, .int .u64 0, .int .u64 0], .bool false]) (by simp [results, Try.results10, go_sem, k0, k1, k2, k3, k4, k5, k6, k7]) rfl ⟨by rw [HR.out]; rfl, hBE⟩
  · have hput := iput_no l slot ho
    have HR := hide' (lfRes_off hL ho)
    clear hL ho hat fx
    obtain ⟨k, d, lb, ep, sl, ve, t1, t2⟩ := l
    unfold lfv at hr hput
    dsimp only at hr hput
    go_enter Try.func10, Try.ntmps10
    go_wp2_with fail
    generalize w.alloc (.cells #[.int .i64 0, .bool false, .int .i64 0, .int .u32 0, .int .u32 0, .int .u64 0, .int .u64 0, .int .u64 0] 29) = W at *
    refine hr.mono ?_
    clear hr
    rintro e w1 ⟨rfl, hb⟩
    have hA : Below w1.heap.size w1 (w1.alloc (.cells #[.int .i64 k, .bool d, .int .i64 lb, .int .u32 (nv32 ep), .int .u32 (nv32 sl), .int .u64 (nv ve), .int .u64 (nv t1), .int .u64 (nv t2)] 29)) := (Below.refl _ _).alloc (Nat.le_refl _) _
    have z2 := (z0.grown hb).grown hA
    have hB2 := hB0.trans (hb.mono hB0.size)
    have hB3 := hB2.trans (hA.mono hB2.size)
    clear z0 hB0 hb hA sx bx
    go_wp2_with fail
    generalize w1.alloc (.cells #[.int .i64 k, .bool d, .int .i64 lb, .int .u32 (nv32 ep), .int .u32 (nv32 sl), .int .u64 (nv ve), .int .u64 (nv t1), .int .u64 (nv t2)] 29) = w2 at *
    refine (hput _).mono ?_
    clear hput
    rintro e w4 ⟨z, cz, rfl, fz, hb⟩
    have z3 := z2.grown hb
    have hB4 := hB3.trans (hb.mono hB3.size)
    clear z2 hB3 hb hB2 fz hbl hxl
    have f0 := CBox.frozen z3 0
    have f1 := CBox.frozen z3 1
    have f2 := CBox.frozen z3 2
    have f3 := CBox.frozen z3 3
    have f4 := CBox.frozen z3 4
    have f5 := CBox.frozen z3 5
    have f6 := CBox.frozen z3 6
    have f7 := CBox.frozen z3 7
    have g0 : w4.cell? ⟨w.heap.size, 0, none⟩ = some (.int .i64 0) := CBox.cell z3 0
    have g1 : w4.cell? ⟨w.heap.size, 1, none⟩ = some (.bool false) := CBox.cell z3 1
    have g2 : w4.cell? ⟨w.heap.size, 2, none⟩ = some (.int .i64 0) := CBox.cell z3 2
    have g3 : w4.cell? ⟨w.heap.size, 3, none⟩ = some (.int .u32 0) := CBox.cell z3 3
    have g4 : w4.cell? ⟨w.heap.size, 4, none⟩ = some (.int .u32 0) := CBox.cell z3 4
    have g5 : w4.cell? ⟨w.heap.size, 5, none⟩ = some (.int .u64 0) := CBox.cell z3 5
    have g6 : w4.cell? ⟨w.heap.size, 6, none⟩ = some (.int .u64 0) := CBox.cell z3 6
    have g7 : w4.cell? ⟨w.heap.size, 7, none⟩ = some (.int .u64 0) := CBox.cell z3 7
    go_wp2
    have bM := (CBox.put (CBox.put (CBox.put (CBox.put (CBox.put (CBox.put (CBox.put (CBox.put z3 0 (.int .i64 0)) 1 (.bool false)) 2 (.int .i64 0)) 3 (.int .u32 0)) 4 (.int .u32 0)) 5 (.int .u64 0)) 6 (.int .u64 0)) 7 (.int .u64 0))
    have k0 := CBox.cell bM 0
    have k1 := CBox.cell bM 1
    have k2 := CBox.cell bM 2
    have k3 := CBox.cell bM 3
    have k4 := CBox.cell bM 4
    have k5 := CBox.cell bM 5
    have k6 := CBox.cell bM 6
    have k7 := CBox.cell bM 7
    have hBE : Below w.heap.size w ((((((((w4.setCell ⟨w.heap.size, 0, none⟩ (.int .i64 0)).setCell ⟨w.heap.size, 1, none⟩ (.bool false)).setCell ⟨w.heap.size, 2, none⟩ (.int .i64 0)).setCell ⟨w.heap.size, 3, none⟩ (.int .u32 0)).setCell ⟨w.heap.size, 4, none⟩ (.int .u32 0)).setCell ⟨w.heap.size, 5, none⟩ (.int .u64 0)).setCell ⟨w.heap.size, 6, none⟩ (.int .u64 0)).setCell ⟨w.heap.size, 7, none⟩ (.int .u64 0)) := ((((((((((((((((hB4).setCell (p := ⟨w.heap.size, 0, none⟩) (Nat.le_refl _) (.int .i64 0))).setCell (p := ⟨w.heap.size, 1, none⟩) (Nat.le_refl _) (.bool false))).setCell (p := ⟨w.heap.size, 2, none⟩) (Nat.le_refl _) (.int .i64 0))).setCell (p := ⟨w.heap.size, 3, none⟩) (Nat.le_refl _) (.int .u32 0))).setCell (p := ⟨w.heap.size, 4, none⟩) (Nat.le_refl _) (.int .u32 0))).setCell (p := ⟨w.heap.size, 5, none⟩) (Nat.le_refl _) (.int .u64 0))).setCell (p := ⟨w.heap.size, 6, none⟩) (Nat.le_refl _) (.int .u64 0))).setCell (p := ⟨w.heap.size, 7, none⟩) (Nat.le_refl _) (.int .u64 0))
    exact bodyPost_ret (v := .tuple #[.agg #[.int .i64 0, .bool false, .int .i64 0, .int .u32 0, .int .u32 0, .int .u64 0, .int .u64 0, .int .u64 0], .bool false]) (by simp [results, Try.results10, go_sem, k0, k1, k2, k3, k4, k5, k6, k7]) rfl ⟨by rw [HR.out]; rfl, hBE⟩
theorem lf_all : LfAll where
  is_ := iis
  putYes := iput_yes
  putNo := iput_no
  get := iget
end Go.Proofs.Ytnfddebcnkdajaa
