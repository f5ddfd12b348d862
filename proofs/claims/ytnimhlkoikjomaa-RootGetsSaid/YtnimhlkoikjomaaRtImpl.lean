/- The landed roots: Get, GetRec; all that is asked of them. -/
import Derived.Test.YtnimhlkoikjomaaRtImP
import Derived.Test.YtnimhlkoikjomaaCutR
namespace Go.Proofs.Ytnimhlkoikjomaa
open Go.RowKit
set_option maxRecDepth 20000

theorem fillRt (n : Nat) : fillL [8, 4, 4, 16] (n : Int) = decide (n = 32) := by
  simp only [fillL]
  repeat' split
  all_goals first
    | (rw [eq_comm, decide_eq_false_iff_not]; omega)
    | (rw [Bool.eq_iff_iff, beq_iff_eq, decide_eq_true_eq]; omega)
theorem fillRc (n : Nat) : fillL [4, 8, 32, 16] (n : Int) = decide (n = 60) := by
  simp only [fillL]
  repeat' split
  all_goals first
    | (rw [eq_comm, decide_eq_false_iff_not]; omega)
    | (rw [Bool.eq_iff_iff, beq_iff_eq, decide_eq_true_eq]; omega)
set_option maxHeartbeats 1000000 in
theorem irtget_no (x : Option Addr) (n c : Nat) (hn : n ≠ 32) (hm : n ≤ 9223372036854775807) (w : World) : Calls Try.prog 9 #[.slice x n c] w fun e w' => e = .returned (.tuple #[rtv rt0, .bool false]) ∧ Below w.heap.size w w' := by
  have hz : rtv rt0 = .agg #[.int .u64 0, .int .u32 0, .int .i64 0, .int .u64 0, .int .u64 0] := rfl
  rw [hz]
  have z0 := (CBox.new 27 w #[.int .u64 0, .int .u32 0, .int .i64 0, .int .u64 0, .int .u64 0]).grown ((Below.refl _ _).alloc (Nat.le_refl _) (.cells #[.int .i64 8, .int .i64 4, .int .i64 4, .int .i64 16] 3))
  have hB0 : Below w.heap.size w ((w.alloc (.cells #[.int .u64 0, .int .u32 0, .int .i64 0, .int .u64 0, .int .u64 0] 27)).alloc (.cells #[.int .i64 8, .int .i64 4, .int .i64 4, .int .i64 16] 3)) := ((Below.refl _ _).alloc (Nat.le_refl _) _).alloc (by rw [World.size_alloc]; omega) _
  have hI : AtI ((w.alloc (.cells #[.int .u64 0, .int .u32 0, .int .i64 0, .int .u64 0, .int .u64 0] 27)).alloc (.cells #[.int .i64 8, .int .i64 4, .int .i64 4, .int .i64 16] 3)) (w.alloc (.cells #[.int .u64 0, .int .u32 0, .int .i64 0, .int .u64 0, .int .u64 0] 27)).heap.size 0 [8, 4, 4, 16] := AtI.lit (w.alloc (.cells #[.int .u64 0, .int .u32 0, .int .i64 0, .int .u64 0, .int .u64 0] 27)) [8, 4, 4, 16]
  have hf := fill_some _ 0 4 4 n [8, 4, 4, 16] _ rfl (by decide) hm hI
  rw [fillRt, decide_eq_false hn] at hf
  have hc := cut_no x (some ⟨(w.alloc (.cells #[.int .u64 0, .int .u32 0, .int .i64 0, .int .u64 0, .int .u64 0] 27)).heap.size, 0, none⟩) n c 4 4 _ hf
  simp only [World.size_alloc] at hc
  clear hf hn hI
  go_enter Try.func9, Try.ntmps9
  go_wp2_with fail
  generalize ((w.alloc (.cells #[.int .u64 0, .int .u32 0, .int .i64 0, .int .u64 0, .int .u64 0] 27)).alloc (.cells #[.int .i64 8, .int .i64 4, .int .i64 4, .int .i64 16] 3)) = W at *
  refine hc.mono ?_
  clear hc
  rintro e w1 ⟨rfl, rfl⟩
  have f0 := CBox.frozen z0 0
  have f1 := CBox.frozen z0 1
  have f2 := CBox.frozen z0 2
  have f3 := CBox.frozen z0 3
  have f4 := CBox.frozen z0 4
  have g0 : w1.cell? ⟨w.heap.size, 0, none⟩ = some (.int .u64 0) := CBox.cell z0 0
  have g1 : w1.cell? ⟨w.heap.size, 1, none⟩ = some (.int .u32 0) := CBox.cell z0 1
  have g2 : w1.cell? ⟨w.heap.size, 2, none⟩ = some (.int .i64 0) := CBox.cell z0 2
  have g3 : w1.cell? ⟨w.heap.size, 3, none⟩ = some (.int .u64 0) := CBox.cell z0 3
  have g4 : w1.cell? ⟨w.heap.size, 4, none⟩ = some (.int .u64 0) := CBox.cell z0 4
  go_wp2
  have bM := (CBox.put (CBox.put (CBox.put (CBox.put (CBox.put z0 0 (.int .u64 0)) 1 (.int .u32 0)) 2 (.int .i64 0)) 3 (.int .u64 0)) 4 (.int .u64 0))
  have k0 := CBox.cell bM 0
  have k1 := CBox.cell bM 1
  have k2 := CBox.cell bM 2
  have k3 := CBox.cell bM 3
  have k4 := CBox.cell bM 4
  have hBE : Below w.heap.size w (((((w1.setCell ⟨w.heap.size, 0, none⟩ (.int .u64 0)).setCell ⟨w.heap.size, 1, none⟩ (.int .u32 0)).setCell ⟨w.heap.size, 2, none⟩ (.int .i64 0)).setCell ⟨w.heap.size, 3, none⟩ (.int .u64 0)).setCell ⟨w.heap.size, 4, none⟩ (.int .u64 0)) := ((((((((((hB0).setCell (p := ⟨w.heap.size, 0, none⟩) (Nat.le_refl _) (.int .u64 0))).setCell (p := ⟨w.heap.size, 1, none⟩) (Nat.le_refl _) (.int .u32 0))).setCell (p := ⟨w.heap.size, 2, none⟩) (Nat.le_refl _) (.int .i64 0))).setCell (p := ⟨w.heap.size, 3, none⟩) (Nat.le_refl _) (.int .u64 0))).setCell (p := ⟨w.heap.size, 4, none⟩) (Nat.le_refl _) (.int .u64 0))
  exact bodyPost_ret (v := .tuple #[.agg #[.int .u64 0, .int .u32 0, .int .i64 0, .int .u64 0, .int .u64 0], .bool false]) (by simp [results, Try.results9, go_sem, k0, k1, k2, k3, k4]) rfl ⟨rfl, hBE⟩
set_option maxRecDepth 20000 in
set_option maxHeartbeats 4000000 in
theorem irtget_yes (b o c : Nat) (xs : List Int) (w : World) (hxl : xs.length = 32) (hcap : 32 ≤ c) (hcm : c ≤ maxLen) (bx : Bytes xs) (hbl : b < w.heap.size) (hat : At w b o xs) : Calls Try.prog 9 #[.slice (some ⟨b, o, none⟩) 32 c] w fun e w' => e = .returned (.tuple #[rtv (rtRes xs).1, .bool (rtRes xs).2]) ∧ Below w.heap.size w w' := by
  have hz : rtv rt0 = .agg #[.int .u64 0, .int .u32 0, .int .i64 0, .int .u64 0, .int .u64 0] := rfl
  have hcm' : c ≤ 9223372036854775807 := hcm
  obtain ⟨V, hV⟩ : ∃ e : BitVec 64, BitVec.ofInt 64 (num (xs.take 8)) = e := ⟨_, rfl⟩
  have hVn : num (xs.take 8) = nv V := by
    have := num_lt _ (bx.take 8) (by rw [List.length_take]; omega)
    rw [← hV, nv_of _ this.1 this.2]
  obtain ⟨E, hE⟩ : ∃ e : BitVec 32, BitVec.ofInt 32 (num ((xs.drop 8).take 4)) = e := ⟨_, rfl⟩
  have hEn : num ((xs.drop 8).take 4) = nv32 E := by
    have := num_lt4 ((bx.drop 8).take 4) (by rw [List.length_take, List.length_drop, hxl]; rfl)
    rw [← hE, nv32_of _ this.1 this.2]
  have hew : IntKind.u32.wrap (nv32 E) = nv32 E := by
    have := nv32_range E
    rw [IntKind.wrap_u32]
    omega
  obtain ⟨LB, hLB⟩ : ∃ m : Nat, num ((xs.drop 12).take 4) = (m : Int) := ⟨(num ((xs.drop 12).take 4)).toNat, by have := num_range _ ((bx.drop 12).take 4); omega⟩
  have hlw : IntKind.i64.wrap (LB : Int) = LB := by
    have := num_lt4 ((bx.drop 12).take 4) (by rw [List.length_take, List.length_drop, hxl]; rfl)
    rw [hLB] at this
    rw [IntKind.wrap_i64]
    omega
  obtain ⟨P, hP⟩ : ∃ p, pairOf (xs.drop 16) = p := ⟨_, rfl⟩
  have hL : rtGet xs = ⟨V, E, (LB : Int), P⟩ := by
    unfold rtGet
    rw [hV, hE, hLB, hP]
  have HR : Hid (rtRes xs = if rtOk ⟨V, E, (LB : Int), P⟩ then (⟨V, E, (LB : Int), P⟩, true) else (rt0, false)) := hide' (by
    unfold rtRes
    rw [hL]
    by_cases hk : rtOk ⟨V, E, (LB : Int), P⟩
    · rw [if_pos ⟨hxl, hk⟩, if_pos hk]
    · rw [if_neg (fun e => hk e.2), if_neg hk])
  have q0 : num (cutP xs [8, 4, 4, 16] 0) = nv V := hVn
  have q1 : num (cutP xs [8, 4, 4, 16] 1) = nv32 E := hEn
  have q2 : num (cutP xs [8, 4, 4, 16] 2) = LB := hLB
  have q3 : pairOf (cutP xs [8, 4, 4, 16] 3) = P := by
    rw [← hP]
    show pairOf ((xs.drop 16).take 16) = _
    rw [List.take_of_length_le (by rw [List.length_drop]; omega)]
  have ql := fun k (h : k < 4) => cutP_length xs [8, 4, 4, 16] k h (by rw [hxl]; rfl)
  have qb : ∀ k, Bytes (cutP xs [8, 4, 4, 16] k) := fun k => (bx.drop _).take _
  clear hV hE hP hLB hEn hVn hL bx
  have z0 := (CBox.new 27 w #[.int .u64 0, .int .u32 0, .int .i64 0, .int .u64 0, .int .u64 0]).grown ((Below.refl _ _).alloc (Nat.le_refl _) (.cells #[.int .i64 8, .int .i64 4, .int .i64 4, .int .i64 16] 3))
  have hB0 : Below w.heap.size w ((w.alloc (.cells #[.int .u64 0, .int .u32 0, .int .i64 0, .int .u64 0, .int .u64 0] 27)).alloc (.cells #[.int .i64 8, .int .i64 4, .int .i64 4, .int .i64 16] 3)) := ((Below.refl _ _).alloc (Nat.le_refl _) _).alloc (by rw [World.size_alloc]; omega) _
  have hI : AtI ((w.alloc (.cells #[.int .u64 0, .int .u32 0, .int .i64 0, .int .u64 0, .int .u64 0] 27)).alloc (.cells #[.int .i64 8, .int .i64 4, .int .i64 4, .int .i64 16] 3)) (w.alloc (.cells #[.int .u64 0, .int .u32 0, .int .i64 0, .int .u64 0, .int .u64 0] 27)).heap.size 0 [8, 4, 4, 16] := AtI.lit (w.alloc (.cells #[.int .u64 0, .int .u32 0, .int .i64 0, .int .u64 0, .int .u64 0] 27)) [8, 4, 4, 16]
  have hf := fun w' (hb : Below ((w.alloc (.cells #[.int .u64 0, .int .u32 0, .int .i64 0, .int .u64 0, .int .u64 0] 27)).alloc (.cells #[.int .i64 8, .int .i64 4, .int .i64 4, .int .i64 16] 3)).heap.size ((w.alloc (.cells #[.int .u64 0, .int .u32 0, .int .i64 0, .int .u64 0, .int .u64 0] 27)).alloc (.cells #[.int .i64 8, .int .i64 4, .int .i64 4, .int .i64 16] 3)) w') => fill_some (w.alloc (.cells #[.int .u64 0, .int .u32 0, .int .i64 0, .int .u64 0, .int .u64 0] 27)).heap.size 0 4 4 32 [8, 4, 4, 16] w' rfl (by decide) (by decide) (hI.below hb (by simp only [World.size_alloc]; omega))
  rw [fillRt, decide_eq_true (rfl : 32 = 32)] at hf
  have hc := cut_yes b o 32 c xs (some ⟨(w.alloc (.cells #[.int .u64 0, .int .u32 0, .int .i64 0, .int .u64 0, .int .u64 0] 27)).heap.size, 0, none⟩) 4 4 [8, 4, 4, 16] _ hxl (by decide) hcap hcm' (Nat.lt_of_lt_of_le hbl hB0.size) (hat.below hB0 hbl) rfl (by decide) rfl (fun _ => ⟨_, 0, rfl, by simp only [World.size_alloc]; omega, hI⟩) hf
  have hN0 : w.heap.size < ((w.alloc (.cells #[.int .u64 0, .int .u32 0, .int .i64 0, .int .u64 0, .int .u64 0] 27)).alloc (.cells #[.int .i64 8, .int .i64 4, .int .i64 4, .int .i64 16] 3)).heap.size := by rw [World.size_alloc, World.size_alloc]; omega
  simp only [World.size_alloc] at hc hf hN0
  clear hf hI hat
  go_enter Try.func9, Try.ntmps9
  go_wp2_with fail
  generalize ((w.alloc (.cells #[.int .u64 0, .int .u32 0, .int .i64 0, .int .u64 0, .int .u64 0] 27)).alloc (.cells #[.int .i64 8, .int .i64 4, .int .i64 4, .int .i64 16] 3)) = W at *
  refine hc.mono ?_
  clear hc
  rintro e w2 ⟨rfl, hcuts, hb⟩
  have z2 : CBox 27 w2 w.heap.size #[.int .u64 0, .int .u32 0, .int .i64 0, .int .u64 0, .int .u64 0] := (hb.block _ (by omega)).trans z0
  have hB2 := hB0.trans (hb.mono (by omega))
  clear z0 hB0 hb hN0
  obtain ⟨g0, hg0, hc0, hr0⟩ := cut_rowG hcuts rfl (by rw [hxl]; rfl) (show 0 < 4 by decide)
  replace hc0 : _ = some (Value.slice (some ⟨g0, 0, none⟩) 8 8) := hc0
  obtain ⟨g1, hg1, hc1, hr1⟩ := cut_rowG hcuts rfl (by rw [hxl]; rfl) (show 1 < 4 by decide)
  replace hc1 : _ = some (Value.slice (some ⟨g1, 0, none⟩) 4 4) := hc1
  obtain ⟨g2, hg2, hc2, hr2⟩ := cut_rowG hcuts rfl (by rw [hxl]; rfl) (show 2 < 4 by decide)
  replace hc2 : _ = some (Value.slice (some ⟨g2, 0, none⟩) 4 4) := hc2
  obtain ⟨g3, hg3, hc3, hr3⟩ := cut_rowG hcuts rfl (by rw [hxl]; rfl) (show 3 < 4 by decide)
  replace hc3 : _ = some (Value.slice (some ⟨g3, 0, none⟩) 16 16) := hc3
  clear hcuts
  go_wp2_with fail
  refine (wget_some g0 0 8 8 _ _ (ql 0 (by decide)) (by decide) (by decide) (qb 0) hr0.at).mono ?_
  rw [q0]
  rintro e w3 ⟨rfl, rfl⟩
  go_wp2_with fail
  refine (wget_some g1 0 4 4 _ _ (ql 1 (by decide)) (by decide) (by decide) (qb 1) hr1.at).mono ?_
  rw [q1]
  rintro e w3 ⟨rfl, rfl⟩
  go_wp2_with fail
  refine (wget_some g2 0 4 4 _ _ (ql 2 (by decide)) (by decide) (by decide) (qb 2) hr2.at).mono ?_
  rw [q2]
  rintro e w3 ⟨rfl, rfl⟩
  go_wp2_with fail
  refine (wpair g3 0 16 _ _ (ql 3 (by decide)) (by decide) (by decide) (qb 3) hr3.lt hr3.at).mono ?_
  rw [q3]
  rintro e w4 ⟨rfl, hb⟩
  have hp4 : Below w4.heap.size w4 (w4.alloc (.cells #[.int .u64 (nv P.1), .int .u64 (nv P.2)] 25)) := (Below.refl _ _).alloc (Nat.le_refl _) _
  have hB4 := hB2.trans (hb.mono hB2.size)
  have hB5 := hB4.trans (hp4.mono hB4.size)
  have z5 := (z2.grown hb).grown hp4
  have bP : CBox 25 (w4.alloc (.cells #[.int .u64 (nv P.1), .int .u64 (nv P.2)] 25)) w4.heap.size #[.int .u64 (nv P.1), .int .u64 (nv P.2)] := CBox.new _ _ _
  clear hc0 hr0 hg0 q0 hc1 hr1 hg1 q1 hc2 hr2 hg2 q2 hc3 hr3 hg3 q3 ql qb z2 hB2 hB4 hb hp4
  have hi := islots (LB : Int)
  by_cases hk : rtOk ⟨V, E, (LB : Int), P⟩
  · rw [decide_eq_true (show (LB : Int) = 4 ∨ (LB : Int) = 8 ∨ (LB : Int) = 16 from hk)] at hi
    replace HR : Hid (rtRes xs = (⟨V, E, (LB : Int), P⟩, true)) := hide' (by rw [HR.out, if_pos hk])
    clear hk
    go_wp2_with fail
    generalize (w4.alloc (.cells #[.int .u64 (nv P.1), .int .u64 (nv P.2)] 25)) = w5 at *
    refine (hi _).mono ?_
    clear hi
    rintro e w6 ⟨rfl, rfl⟩
    have p0 : w6.cell? ⟨w4.heap.size, 0, none⟩ = some (.int .u64 (nv P.1)) := bP.cell 0
    have p1 : w6.cell? ⟨w4.heap.size, 1, none⟩ = some (.int .u64 (nv P.2)) := bP.cell 1
    have f0 := CBox.frozen z5 0
    have f1 := CBox.frozen z5 1
    have f2 := CBox.frozen z5 2
    have f3 := CBox.frozen z5 3
    have f4 := CBox.frozen z5 4
    have g0 : w6.cell? ⟨w.heap.size, 0, none⟩ = some (.int .u64 0) := CBox.cell z5 0
    have g1 : w6.cell? ⟨w.heap.size, 1, none⟩ = some (.int .u32 0) := CBox.cell z5 1
    have g2 : w6.cell? ⟨w.heap.size, 2, none⟩ = some (.int .i64 0) := CBox.cell z5 2
    have g3 : w6.cell? ⟨w.heap.size, 3, none⟩ = some (.int .u64 0) := CBox.cell z5 3
    have g4 : w6.cell? ⟨w.heap.size, 4, none⟩ = some (.int .u64 0) := CBox.cell z5 4
    go_wp2
    have bM := (CBox.put (CBox.put (CBox.put (CBox.put (CBox.put z5 0 (.int .u64 (nv V))) 1 (.int .u32 (nv32 E))) 2 (.int .i64 (LB : Int))) 3 (.int .u64 (nv P.1))) 4 (.int .u64 (nv P.2)))
    have k0 := CBox.cell bM 0
    have k1 := CBox.cell bM 1
    have k2 := CBox.cell bM 2
    have k3 := CBox.cell bM 3
    have k4 := CBox.cell bM 4
    have hBE : Below w.heap.size w (((((w6.setCell ⟨w.heap.size, 0, none⟩ (.int .u64 (nv V))).setCell ⟨w.heap.size, 1, none⟩ (.int .u32 (nv32 E))).setCell ⟨w.heap.size, 2, none⟩ (.int .i64 (LB : Int))).setCell ⟨w.heap.size, 3, none⟩ (.int .u64 (nv P.1))).setCell ⟨w.heap.size, 4, none⟩ (.int .u64 (nv P.2))) := ((((((((((hB5).setCell (p := ⟨w.heap.size, 0, none⟩) (Nat.le_refl _) (.int .u64 (nv V)))).setCell (p := ⟨w.heap.size, 1, none⟩) (Nat.le_refl _) (.int .u32 (nv32 E)))).setCell (p := ⟨w.heap.size, 2, none⟩) (Nat.le_refl _) (.int .i64 (LB : Int)))).setCell (p := ⟨w.heap.size, 3, none⟩) (Nat.le_refl _) (.int .u64 (nv P.1)))).setCell (p := ⟨w.heap.size, 4, none⟩) (Nat.le_refl _) (.int .u64 (nv P.2)))
    exact bodyPost_ret (v := .tuple #[.agg #[.int .u64 (nv V), .int .u32 (nv32 E), .int .i64 (LB : Int), .int .u64 (nv P.1), .int .u64 (nv P.2)], .bool true]) (by simp [results, Try.results9, go_sem, k0, k1, k2, k3, k4]) rfl ⟨by rw [HR.out]; rfl, hBE⟩
  · rw [decide_eq_false (show ¬ ((LB : Int) = 4 ∨ (LB : Int) = 8 ∨ (LB : Int) = 16) from hk)] at hi
    replace HR : Hid (rtRes xs = (rt0, false)) := hide' (by rw [HR.out, if_neg hk])
    clear hk
    go_wp2_with fail
    generalize (w4.alloc (.cells #[.int .u64 (nv P.1), .int .u64 (nv P.2)] 25)) = w5 at *
    refine (hi _).mono ?_
    clear hi
    rintro e w6 ⟨rfl, rfl⟩
    have p0 : w6.cell? ⟨w4.heap.size, 0, none⟩ = some (.int .u64 (nv P.1)) := bP.cell 0
    have p1 : w6.cell? ⟨w4.heap.size, 1, none⟩ = some (.int .u64 (nv P.2)) := bP.cell 1
    have f0 := CBox.frozen z5 0
    have f1 := CBox.frozen z5 1
    have f2 := CBox.frozen z5 2
    have f3 := CBox.frozen z5 3
    have f4 := CBox.frozen z5 4
    have g0 : w6.cell? ⟨w.heap.size, 0, none⟩ = some (.int .u64 0) := CBox.cell z5 0
    have g1 : w6.cell? ⟨w.heap.size, 1, none⟩ = some (.int .u32 0) := CBox.cell z5 1
    have g2 : w6.cell? ⟨w.heap.size, 2, none⟩ = some (.int .i64 0) := CBox.cell z5 2
    have g3 : w6.cell? ⟨w.heap.size, 3, none⟩ = some (.int .u64 0) := CBox.cell z5 3
    have g4 : w6.cell? ⟨w.heap.size, 4, none⟩ = some (.int .u64 0) := CBox.cell z5 4
    go_wp2
    have bM := (CBox.put (CBox.put (CBox.put (CBox.put (CBox.put z5 0 (.int .u64 0)) 1 (.int .u32 0)) 2 (.int .i64 0)) 3 (.int .u64 0)) 4 (.int .u64 0))
    have k0 := CBox.cell bM 0
    have k1 := CBox.cell bM 1
    have k2 := CBox.cell bM 2
    have k3 := CBox.cell bM 3
    have k4 := CBox.cell bM 4
    have hBE : Below w.heap.size w (((((w6.setCell ⟨w.heap.size, 0, none⟩ (.int .u64 0)).setCell ⟨w.heap.size, 1, none⟩ (.int .u32 0)).setCell ⟨w.heap.size, 2, none⟩ (.int .i64 0)).setCell ⟨w.heap.size, 3, none⟩ (.int .u64 0)).setCell ⟨w.heap.size, 4, none⟩ (.int .u64 0)) := ((((((((((hB5).setCell (p := ⟨w.heap.size, 0, none⟩) (Nat.le_refl _) (.int .u64 0))).setCell (p := ⟨w.heap.size, 1, none⟩) (Nat.le_refl _) (.int .u32 0))).setCell (p := ⟨w.heap.size, 2, none⟩) (Nat.le_refl _) (.int .i64 0))).setCell (p := ⟨w.heap.size, 3, none⟩) (Nat.le_refl _) (.int .u64 0))).setCell (p := ⟨w.heap.size, 4, none⟩) (Nat.le_refl _) (.int .u64 0))
    exact bodyPost_ret (v := .tuple #[.agg #[.int .u64 0, .int .u32 0, .int .i64 0, .int .u64 0, .int .u64 0], .bool false]) (by simp [results, Try.results9, go_sem, k0, k1, k2, k3, k4]) rfl ⟨by rw [HR.out]; rfl, hBE⟩
theorem irtget : RtGetIn 9 := by
  intro x n c xs fx bx w sx
  by_cases hn : n = 32
  · subst hn
    obtain ⟨b, o, rfl, hbl, hat⟩ := sx.2 (by decide)
    exact irtget_yes b o c xs w sx.1 fx.1 fx.2.1 bx hbl hat
  · rw [rtRes_no xs (by have := sx.1; omega)]
    exact irtget_no x n c hn (Nat.le_trans fx.1 fx.2.1) w
theorem rt_all : RtAll := ⟨irtput_yes, irtput_no, irtget⟩
set_option maxHeartbeats 2000000 in
theorem ircget_no' (x : Option Addr) (n c : Nat) (hn : n ≠ 60) (hm : n ≤ 9223372036854775807) (w : World) : Calls Try.prog 14 #[.slice x n c] w fun e w' => e = .returned (.tuple #[.agg #[.int .u32 0, .int .u32 0, .int .u64 0], .agg #[.slice none 0 0, .int .u64 0, .int .u64 0], .bool false]) ∧ Below w.heap.size w w' := by
  have hB0 : Below w.heap.size w (((w.alloc (.cells #[.int .u32 0, .int .u32 0, .int .u64 0] 37)).alloc (.cells #[.slice none 0 0, .int .u64 0, .int .u64 0] 39)).alloc (.cells #[.int .i64 4, .int .i64 8, .int .i64 32, .int .i64 16] 3)) := (((Below.refl w.heap.size w).alloc (Nat.le_refl _) _).alloc (by rw [World.size_alloc]; omega) _).alloc (by rw [World.size_alloc, World.size_alloc]; omega) _
  have bn : CBox 37 (((w.alloc (.cells #[.int .u32 0, .int .u32 0, .int .u64 0] 37)).alloc (.cells #[.slice none 0 0, .int .u64 0, .int .u64 0] 39)).alloc (.cells #[.int .i64 4, .int .i64 8, .int .i64 32, .int .i64 16] 3)) w.heap.size #[.int .u32 0, .int .u32 0, .int .u64 0] := ((CBox.new 37 w #[.int .u32 0, .int .u32 0, .int .u64 0]).grown ((Below.refl _ _).alloc (Nat.le_refl _) (.cells #[.slice none 0 0, .int .u64 0, .int .u64 0] 39))).grown ((Below.refl _ _).alloc (Nat.le_refl _) _)
  have bs : CBox 39 (((w.alloc (.cells #[.int .u32 0, .int .u32 0, .int .u64 0] 37)).alloc (.cells #[.slice none 0 0, .int .u64 0, .int .u64 0] 39)).alloc (.cells #[.int .i64 4, .int .i64 8, .int .i64 32, .int .i64 16] 3)) (w.heap.size + 1) #[.slice none 0 0, .int .u64 0, .int .u64 0] := by
    have := (CBox.new 39 (w.alloc (.cells #[.int .u32 0, .int .u32 0, .int .u64 0] 37)) #[.slice none 0 0, .int .u64 0, .int .u64 0]).grown ((Below.refl _ _).alloc (Nat.le_refl _) (.cells #[.int .i64 4, .int .i64 8, .int .i64 32, .int .i64 16] 3))
    rw [World.size_alloc] at this
    exact this
  have hI : AtI (((w.alloc (.cells #[.int .u32 0, .int .u32 0, .int .u64 0] 37)).alloc (.cells #[.slice none 0 0, .int .u64 0, .int .u64 0] 39)).alloc (.cells #[.int .i64 4, .int .i64 8, .int .i64 32, .int .i64 16] 3)) ((w.alloc (.cells #[.int .u32 0, .int .u32 0, .int .u64 0] 37)).alloc (.cells #[.slice none 0 0, .int .u64 0, .int .u64 0] 39)).heap.size 0 [4, 8, 32, 16] := AtI.lit ((w.alloc (.cells #[.int .u32 0, .int .u32 0, .int .u64 0] 37)).alloc (.cells #[.slice none 0 0, .int .u64 0, .int .u64 0] 39)) [4, 8, 32, 16]
  have hf := fill_some _ 0 4 4 n [4, 8, 32, 16] _ rfl (by decide) hm hI
  rw [fillRc, decide_eq_false hn] at hf
  have hc := cut_no x (some ⟨((w.alloc (.cells #[.int .u32 0, .int .u32 0, .int .u64 0] 37)).alloc (.cells #[.slice none 0 0, .int .u64 0, .int .u64 0] 39)).heap.size, 0, none⟩) n c 4 4 _ hf
  simp only [World.size_alloc] at hc
  clear hf hn hI
  go_enter Try.func14, Try.ntmps14
  go_wp2_with fail
  generalize (((w.alloc (.cells #[.int .u32 0, .int .u32 0, .int .u64 0] 37)).alloc (.cells #[.slice none 0 0, .int .u64 0, .int .u64 0] 39)).alloc (.cells #[.int .i64 4, .int .i64 8, .int .i64 32, .int .i64 16] 3)) = W at *
  refine hc.mono ?_
  clear hc
  rintro e w1 ⟨rfl, rfl⟩
  have f0 := CBox.frozen bn 0
  have f1 := CBox.frozen bn 1
  have f2 := CBox.frozen bn 2
  have g0 : w1.cell? ⟨w.heap.size, 0, none⟩ = some (.int .u32 0) := CBox.cell bn 0
  have g1 : w1.cell? ⟨w.heap.size, 1, none⟩ = some (.int .u32 0) := CBox.cell bn 1
  have g2 : w1.cell? ⟨w.heap.size, 2, none⟩ = some (.int .u64 0) := CBox.cell bn 2
  have bnn := (CBox.put (CBox.put (CBox.put bn 0 (.int .u32 0)) 1 (.int .u32 0)) 2 (.int .u64 0))
  have ho1 : Off (fun k => k = w.heap.size) w1 (((w1.setCell ⟨w.heap.size, 0, none⟩ (.int .u32 0)).setCell ⟨w.heap.size, 1, none⟩ (.int .u32 0)).setCell ⟨w.heap.size, 2, none⟩ (.int .u64 0)) := (Off.setCell (F := fun k => k = w.heap.size) (p := ⟨w.heap.size, 2, none⟩) (Off.setCell (F := fun k => k = w.heap.size) (p := ⟨w.heap.size, 1, none⟩) (Off.setCell (F := fun k => k = w.heap.size) (p := ⟨w.heap.size, 0, none⟩) (Off.refl (fun k => k = w.heap.size) w1) (Or.inl rfl) (.int .u32 0)) (Or.inl rfl) (.int .u32 0)) (Or.inl rfl) (.int .u64 0))
  replace bs := bs.off ho1 (fun e => absurd e (by omega))
  have f3 := CBox.frozen bs 0
  have f4 := CBox.frozen bs 1
  have f5 := CBox.frozen bs 2
  have g3 : (((w1.setCell ⟨w.heap.size, 0, none⟩ (.int .u32 0)).setCell ⟨w.heap.size, 1, none⟩ (.int .u32 0)).setCell ⟨w.heap.size, 2, none⟩ (.int .u64 0)).cell? ⟨w.heap.size + 1, 0, none⟩ = some (.slice none 0 0) := CBox.cell bs 0
  have g4 : (((w1.setCell ⟨w.heap.size, 0, none⟩ (.int .u32 0)).setCell ⟨w.heap.size, 1, none⟩ (.int .u32 0)).setCell ⟨w.heap.size, 2, none⟩ (.int .u64 0)).cell? ⟨w.heap.size + 1, 1, none⟩ = some (.int .u64 0) := CBox.cell bs 1
  have g5 : (((w1.setCell ⟨w.heap.size, 0, none⟩ (.int .u32 0)).setCell ⟨w.heap.size, 1, none⟩ (.int .u32 0)).setCell ⟨w.heap.size, 2, none⟩ (.int .u64 0)).cell? ⟨w.heap.size + 1, 2, none⟩ = some (.int .u64 0) := CBox.cell bs 2
  have bsn := (CBox.put (CBox.put (CBox.put bs 0 (.slice none 0 0)) 1 (.int .u64 0)) 2 (.int .u64 0))
  have ho2 : Off (fun k => k = w.heap.size + 1) (((w1.setCell ⟨w.heap.size, 0, none⟩ (.int .u32 0)).setCell ⟨w.heap.size, 1, none⟩ (.int .u32 0)).setCell ⟨w.heap.size, 2, none⟩ (.int .u64 0)) ((((((w1.setCell ⟨w.heap.size, 0, none⟩ (.int .u32 0)).setCell ⟨w.heap.size, 1, none⟩ (.int .u32 0)).setCell ⟨w.heap.size, 2, none⟩ (.int .u64 0)).setCell ⟨w.heap.size + 1, 0, none⟩ (.slice none 0 0)).setCell ⟨w.heap.size + 1, 1, none⟩ (.int .u64 0)).setCell ⟨w.heap.size + 1, 2, none⟩ (.int .u64 0)) := (Off.setCell (F := fun k => k = w.heap.size + 1) (p := ⟨w.heap.size + 1, 2, none⟩) (Off.setCell (F := fun k => k = w.heap.size + 1) (p := ⟨w.heap.size + 1, 1, none⟩) (Off.setCell (F := fun k => k = w.heap.size + 1) (p := ⟨w.heap.size + 1, 0, none⟩) (Off.refl (fun k => k = w.heap.size + 1) (((w1.setCell ⟨w.heap.size, 0, none⟩ (.int .u32 0)).setCell ⟨w.heap.size, 1, none⟩ (.int .u32 0)).setCell ⟨w.heap.size, 2, none⟩ (.int .u64 0))) (Or.inl rfl) (.slice none 0 0)) (Or.inl rfl) (.int .u64 0)) (Or.inl rfl) (.int .u64 0))
  replace bnn := bnn.off ho2 (fun e => absurd e (by omega))
  go_wp2
  have k0 := CBox.cell bnn 0
  have k1 := CBox.cell bnn 1
  have k2 := CBox.cell bnn 2
  have j0 := CBox.cell bsn 0
  have j1 := CBox.cell bsn 1
  have j2 := CBox.cell bsn 2
  have hBE : Below w.heap.size w ((((((w1.setCell ⟨w.heap.size, 0, none⟩ (.int .u32 0)).setCell ⟨w.heap.size, 1, none⟩ (.int .u32 0)).setCell ⟨w.heap.size, 2, none⟩ (.int .u64 0)).setCell ⟨w.heap.size + 1, 0, none⟩ (.slice none 0 0)).setCell ⟨w.heap.size + 1, 1, none⟩ (.int .u64 0)).setCell ⟨w.heap.size + 1, 2, none⟩ (.int .u64 0)) := ((((((((((((hB0).setCell (p := ⟨w.heap.size, 0, none⟩) (Nat.le_refl _) (.int .u32 0))).setCell (p := ⟨w.heap.size, 1, none⟩) (Nat.le_refl _) (.int .u32 0))).setCell (p := ⟨w.heap.size, 2, none⟩) (Nat.le_refl _) (.int .u64 0))).setCell (p := ⟨w.heap.size + 1, 0, none⟩) (Nat.le_succ _) (.slice none 0 0))).setCell (p := ⟨w.heap.size + 1, 1, none⟩) (Nat.le_succ _) (.int .u64 0))).setCell (p := ⟨w.heap.size + 1, 2, none⟩) (Nat.le_succ _) (.int .u64 0))
  exact bodyPost_ret (v := .tuple #[.agg #[.int .u32 0, .int .u32 0, .int .u64 0], .agg #[.slice none 0 0, .int .u64 0, .int .u64 0], .bool false]) (by simp [results, Try.results14, go_sem, k0, k1, k2, j0, j1, j2]) rfl ⟨rfl, hBE⟩
set_option maxRecDepth 20000 in
set_option maxHeartbeats 4000000 in
theorem ircget_yes : RcGetYes 14 := by
  intro x c xs fx bx w sx
  have hxl := sx.1
  obtain ⟨b, o, rfl, hbl, hat⟩ := sx.2 (by decide)
  have hcap : 60 ≤ c := fx.1
  have hcm' : c ≤ 9223372036854775807 := fx.2.1
  clear fx sx
  obtain ⟨V, hV⟩ : ∃ e : BitVec 64, BitVec.ofInt 64 (num ((xs.drop 4).take 8)) = e := ⟨_, rfl⟩
  have hVn : num ((xs.drop 4).take 8) = nv V := by
    have := num_lt _ ((bx.drop 4).take 8) (by rw [List.length_take]; omega)
    rw [← hV, nv_of _ this.1 this.2]
  obtain ⟨E, hE⟩ : ∃ e : BitVec 32, BitVec.ofInt 32 (num (xs.take 4)) = e := ⟨_, rfl⟩
  have hEn : num (xs.take 4) = nv32 E := by
    have := num_lt4 (bx.take 4) (by rw [List.length_take, hxl]; rfl)
    rw [← hE, nv32_of _ this.1 this.2]
  have hew : IntKind.u32.wrap (nv32 E) = nv32 E := by
    have := nv32_range E
    rw [IntKind.wrap_u32]
    omega
  obtain ⟨P, hP⟩ : ∃ p, pairOf (xs.drop 44) = p := ⟨_, rfl⟩
  have HN : Hid (rcN xs = (E, 65535#32, V) ∧ rcT xs = P) := hide' (by
    unfold rcN rcT
    rw [hV, hE, hP]
    exact ⟨rfl, rfl⟩)
  have q0 : num (cutP xs [4, 8, 32, 16] 0) = nv32 E := hEn
  have q1 : num (cutP xs [4, 8, 32, 16] 1) = nv V := hVn
  have q2 : cutP xs [4, 8, 32, 16] 2 = rcB xs := rfl
  have q3 : pairOf (cutP xs [4, 8, 32, 16] 3) = P := by
    rw [← hP]
    show pairOf ((xs.drop 44).take 16) = _
    rw [List.take_of_length_le (by rw [List.length_drop]; omega)]
  have ql := fun k (h : k < 4) => cutP_length xs [4, 8, 32, 16] k h (by rw [hxl]; rfl)
  have qb : ∀ k, Bytes (cutP xs [4, 8, 32, 16] k) := fun k => (bx.drop _).take _
  have hB32 : (rcB xs).length = 32 := by unfold rcB; rw [List.length_take, List.length_drop, hxl]; rfl
  clear hV hE hP hEn hVn bx
  have hB0 : Below w.heap.size w (((w.alloc (.cells #[.int .u32 0, .int .u32 0, .int .u64 0] 37)).alloc (.cells #[.slice none 0 0, .int .u64 0, .int .u64 0] 39)).alloc (.cells #[.int .i64 4, .int .i64 8, .int .i64 32, .int .i64 16] 3)) := (((Below.refl w.heap.size w).alloc (Nat.le_refl _) _).alloc (by rw [World.size_alloc]; omega) _).alloc (by rw [World.size_alloc, World.size_alloc]; omega) _
  have bn : CBox 37 (((w.alloc (.cells #[.int .u32 0, .int .u32 0, .int .u64 0] 37)).alloc (.cells #[.slice none 0 0, .int .u64 0, .int .u64 0] 39)).alloc (.cells #[.int .i64 4, .int .i64 8, .int .i64 32, .int .i64 16] 3)) w.heap.size #[.int .u32 0, .int .u32 0, .int .u64 0] := ((CBox.new 37 w #[.int .u32 0, .int .u32 0, .int .u64 0]).grown ((Below.refl _ _).alloc (Nat.le_refl _) (.cells #[.slice none 0 0, .int .u64 0, .int .u64 0] 39))).grown ((Below.refl _ _).alloc (Nat.le_refl _) _)
  have bs : CBox 39 (((w.alloc (.cells #[.int .u32 0, .int .u32 0, .int .u64 0] 37)).alloc (.cells #[.slice none 0 0, .int .u64 0, .int .u64 0] 39)).alloc (.cells #[.int .i64 4, .int .i64 8, .int .i64 32, .int .i64 16] 3)) (w.heap.size + 1) #[.slice none 0 0, .int .u64 0, .int .u64 0] := by
    have := (CBox.new 39 (w.alloc (.cells #[.int .u32 0, .int .u32 0, .int .u64 0] 37)) #[.slice none 0 0, .int .u64 0, .int .u64 0]).grown ((Below.refl _ _).alloc (Nat.le_refl _) (.cells #[.int .i64 4, .int .i64 8, .int .i64 32, .int .i64 16] 3))
    rw [World.size_alloc] at this
    exact this
  have hI : AtI (((w.alloc (.cells #[.int .u32 0, .int .u32 0, .int .u64 0] 37)).alloc (.cells #[.slice none 0 0, .int .u64 0, .int .u64 0] 39)).alloc (.cells #[.int .i64 4, .int .i64 8, .int .i64 32, .int .i64 16] 3)) ((w.alloc (.cells #[.int .u32 0, .int .u32 0, .int .u64 0] 37)).alloc (.cells #[.slice none 0 0, .int .u64 0, .int .u64 0] 39)).heap.size 0 [4, 8, 32, 16] := AtI.lit ((w.alloc (.cells #[.int .u32 0, .int .u32 0, .int .u64 0] 37)).alloc (.cells #[.slice none 0 0, .int .u64 0, .int .u64 0] 39)) [4, 8, 32, 16]
  have hf := fun w' (hb : Below (((w.alloc (.cells #[.int .u32 0, .int .u32 0, .int .u64 0] 37)).alloc (.cells #[.slice none 0 0, .int .u64 0, .int .u64 0] 39)).alloc (.cells #[.int .i64 4, .int .i64 8, .int .i64 32, .int .i64 16] 3)).heap.size (((w.alloc (.cells #[.int .u32 0, .int .u32 0, .int .u64 0] 37)).alloc (.cells #[.slice none 0 0, .int .u64 0, .int .u64 0] 39)).alloc (.cells #[.int .i64 4, .int .i64 8, .int .i64 32, .int .i64 16] 3)) w') => fill_some ((w.alloc (.cells #[.int .u32 0, .int .u32 0, .int .u64 0] 37)).alloc (.cells #[.slice none 0 0, .int .u64 0, .int .u64 0] 39)).heap.size 0 4 4 60 [4, 8, 32, 16] w' rfl (by decide) (by decide) (hI.below hb (by simp only [World.size_alloc]; omega))
  rw [fillRc, decide_eq_true (rfl : 60 = 60)] at hf
  have hc := cut_yes b o 60 c xs (some ⟨((w.alloc (.cells #[.int .u32 0, .int .u32 0, .int .u64 0] 37)).alloc (.cells #[.slice none 0 0, .int .u64 0, .int .u64 0] 39)).heap.size, 0, none⟩) 4 4 [4, 8, 32, 16] _ hxl (by decide) hcap hcm' (Nat.lt_of_lt_of_le hbl hB0.size) (hat.below hB0 hbl) rfl (by decide) rfl (fun _ => ⟨_, 0, rfl, by simp only [World.size_alloc]; omega, hI⟩) hf
  have hN0 : w.heap.size + 2 < (((w.alloc (.cells #[.int .u32 0, .int .u32 0, .int .u64 0] 37)).alloc (.cells #[.slice none 0 0, .int .u64 0, .int .u64 0] 39)).alloc (.cells #[.int .i64 4, .int .i64 8, .int .i64 32, .int .i64 16] 3)).heap.size := by rw [World.size_alloc, World.size_alloc, World.size_alloc]; omega
  simp only [World.size_alloc] at hc hf hN0
  clear hf hI hat
  go_enter Try.func14, Try.ntmps14
  go_wp2_with fail
  obtain ⟨M, hM⟩ : ∃ M, (((w.alloc (.cells #[.int .u32 0, .int .u32 0, .int .u64 0] 37)).alloc (.cells #[.slice none 0 0, .int .u64 0, .int .u64 0] 39)).alloc (.cells #[.int .i64 4, .int .i64 8, .int .i64 32, .int .i64 16] 3)).heap.size = M := ⟨_, rfl⟩
  have hM2 : w.heap.size + 1 + 1 + 1 = M := by rw [← hM, World.size_alloc, World.size_alloc, World.size_alloc]
  try simp only [hM2] at hc
  generalize (((w.alloc (.cells #[.int .u32 0, .int .u32 0, .int .u64 0] 37)).alloc (.cells #[.slice none 0 0, .int .u64 0, .int .u64 0] 39)).alloc (.cells #[.int .i64 4, .int .i64 8, .int .i64 32, .int .i64 16] 3)) = W at *
  refine hc.mono ?_
  clear hc
  rintro e w2 ⟨rfl, hcuts, hb⟩
  have hM3 : w.heap.size + 1 < W.heap.size := by omega
  replace bn : CBox 37 w2 w.heap.size #[.int .u32 0, .int .u32 0, .int .u64 0] := (hb.block _ (by omega)).trans bn
  replace bs : CBox 39 w2 (w.heap.size + 1) #[.slice none 0 0, .int .u64 0, .int .u64 0] := (hb.block _ (by omega)).trans bs
  have hB2 := hB0.trans (hb.mono (by omega))
  have hW2 := hb.size
  clear hB0 hb
  obtain ⟨g0, hg0, hc0, hr0⟩ := cut_rowG hcuts rfl (by rw [hxl]; rfl) (show 0 < 4 by decide)
  replace hc0 : _ = some (Value.slice (some ⟨g0, 0, none⟩) 4 4) := hc0
  obtain ⟨g1, hg1, hc1, hr1⟩ := cut_rowG hcuts rfl (by rw [hxl]; rfl) (show 1 < 4 by decide)
  replace hc1 : _ = some (Value.slice (some ⟨g1, 0, none⟩) 8 8) := hc1
  obtain ⟨g2, hg2, hc2, hr2⟩ := cut_rowG hcuts rfl (by rw [hxl]; rfl) (show 2 < 4 by decide)
  replace hc2 : _ = some (Value.slice (some ⟨g2, 0, none⟩) 32 32) := hc2
  obtain ⟨g3, hg3, hc3, hr3⟩ := cut_rowG hcuts rfl (by rw [hxl]; rfl) (show 3 < 4 by decide)
  replace hc3 : _ = some (Value.slice (some ⟨g3, 0, none⟩) 16 16) := hc3
  clear hcuts
  go_wp2_with fail
  refine (wget_some g0 0 4 4 _ _ (ql 0 (by decide)) (by decide) (by decide) (qb 0) hr0.at).mono ?_
  rw [q0]
  rintro e w3 ⟨rfl, rfl⟩
  go_wp2_with fail
  refine (wget_some g1 0 8 8 _ _ (ql 1 (by decide)) (by decide) (by decide) (qb 1) hr1.at).mono ?_
  rw [q1]
  rintro e w3 ⟨rfl, rfl⟩
  go_wp2_with fail
  refine (wpair g3 0 16 _ _ (ql 3 (by decide)) (by decide) (by decide) (qb 3) hr3.lt hr3.at).mono ?_
  rw [q3]
  rintro e w4 ⟨rfl, hb⟩
  rw [q2] at hr2
  have hl2 := World.block_lt_of_cell? _ _ hc2
  have hl2r := hr2.lt
  replace hc2 := (hb.cell (p := ⟨_, 2, none⟩) hl2).trans hc2
  replace hr2 := hr2.below hb hl2r
  have hp4 : Below w4.heap.size w4 ((w4.alloc (.cells #[.int .u64 (nv P.1), .int .u64 (nv P.2)] 25)).alloc (.cells #[.int .u32 (nv32 E), .int .u32 65535, .int .u64 (nv V)] 37)) := ((Below.refl _ _).alloc (Nat.le_refl _) _).alloc (by rw [World.size_alloc]; omega) _
  have hB4 := hB2.trans (hb.mono hB2.size)
  have hB6 := hB4.trans (hp4.mono hB4.size)
  replace bn := (bn.grown hb).grown hp4
  replace bs := (bs.grown hb).grown hp4
  have hw4 := hb.size
  replace hc2 := (hp4.cell (p := ⟨_, 2, none⟩) (Nat.lt_of_lt_of_le hl2 hw4)).trans hc2
  replace hr2 := hr2.below hp4 (Nat.lt_of_lt_of_le hl2r hw4)
  have bP : CBox 25 ((w4.alloc (.cells #[.int .u64 (nv P.1), .int .u64 (nv P.2)] 25)).alloc (.cells #[.int .u32 (nv32 E), .int .u32 65535, .int .u64 (nv V)] 37)) w4.heap.size #[.int .u64 (nv P.1), .int .u64 (nv P.2)] := (CBox.new 25 w4 #[.int .u64 (nv P.1), .int .u64 (nv P.2)]).grown ((Below.refl _ _).alloc (Nat.le_refl _) _)
  have bN : CBox 37 ((w4.alloc (.cells #[.int .u64 (nv P.1), .int .u64 (nv P.2)] 25)).alloc (.cells #[.int .u32 (nv32 E), .int .u32 65535, .int .u64 (nv V)] 37)) (w4.heap.size + 1) #[.int .u32 (nv32 E), .int .u32 65535, .int .u64 (nv V)] := by
    have := CBox.new 37 (w4.alloc (.cells #[.int .u64 (nv P.1), .int .u64 (nv P.2)] 25)) #[.int .u32 (nv32 E), .int .u32 65535, .int .u64 (nv V)]
    rwa [World.size_alloc] at this
  have hlt6 := bN.lt
  clear hc0 hc1 hc3 hr0 hr1 hr3 hg0 hg1 hg3 q0 q1 q2 q3 ql qb hB2 hB4 hp4 hb
  go_wp2_with fail
  generalize ((w4.alloc (.cells #[.int .u64 (nv P.1), .int .u64 (nv P.2)] 25)).alloc (.cells #[.int .u32 (nv32 E), .int .u32 65535, .int .u64 (nv V)] 37)) = wq at *
  obtain ⟨A0, hA0⟩ : ∃ A0, w.heap.size = A0 := ⟨_, rfl⟩
  obtain ⟨A4, hA4⟩ : ∃ A4, w4.heap.size = A4 := ⟨_, rfl⟩
  rw [hA0] at hM2 hM3 hN0 hB6 bn bs ⊢
  rw [hA4] at hw4 hlt6 bP bN ⊢
  have nP : ¬ (A4 = A0 ∨ A4 = A0 + 1) := by omega
  have nN : ¬ (A4 + 1 = A0 ∨ A4 + 1 = A0 + 1) := by omega
  have nM : ¬ (M = A0 ∨ M = A0 + 1) := by omega
  have nG : ¬ (g2 = A0 ∨ g2 = A0 + 1) := by omega
  refine startX (S := fun w' => Off (fun k => k = A0 ∨ k = A0 + 1) wq w') 8 (by kernel_rfl) (Off.refl _ _).drew (fun hHeld => ?_)
  refine takeY 0 49 (v := ?_) rfl rfl (by kernel_rfl) (by kernel_rfl) (by kernel_rfl) (fun _ _ _ h => h) (by rfl) (by kernel_rfl) (by kernel_rfl) (by decide) hHeld (fun w hSw => ?_) ?_
  rotate_left 1
  · (try dsimp only at hSw)
    have e0_ : w.cell? ⟨A4 + 1, 0, none⟩ = some (.int .u32 (nv32 E)) := (CBox.off bN hSw nN).cell 0
    have e1_ : w.cell? ⟨A4 + 1, 1, none⟩ = some (.int .u32 65535) := (CBox.off bN hSw nN).cell 1
    have e2_ : w.cell? ⟨A4 + 1, 2, none⟩ = some (.int .u64 (nv V)) := (CBox.off bN hSw nN).cell 2
    clear hSw
    go_simp
    try with_reducible rfl
  simp only [List.set_cons_succ, List.set_cons_zero]
  refine moveY 1 50 5 rfl rfl rfl (by kernel_rfl) (by kernel_rfl) (by kernel_rfl) (fun _ _ _ h => h) (by rfl) (by kernel_rfl) (by kernel_rfl) (by decide) hHeld rfl ?_
  simp only [List.set_cons_succ, List.set_cons_zero]
  refine takeY 2 51 (v := ?_) rfl rfl (by kernel_rfl) (by kernel_rfl) (by kernel_rfl) (fun _ _ _ h => h) (by rfl) (by kernel_rfl) (by kernel_rfl) (by decide) hHeld (fun w hSw => ?_) ?_
  rotate_left 1
  · (try dsimp only at hSw)
    clear hSw
    go_simp
    try with_reducible rfl
  simp only [List.set_cons_succ, List.set_cons_zero]
  refine takeY 3 52 (v := ?_) rfl rfl (by kernel_rfl) (by kernel_rfl) (by kernel_rfl) (fun _ _ _ h => h) (by rfl) (by kernel_rfl) (by kernel_rfl) (by decide) hHeld (fun w hSw => ?_) ?_
  rotate_left 1
  · (try dsimp only at hSw)
    have e0_ := (Off.cell hSw (p := ⟨_, 2, none⟩) (World.block_lt_of_cell? _ _ hc2) (by exact nM)).trans hc2
    clear hSw
    go_simp
    try with_reducible rfl
  simp only [List.set_cons_succ, List.set_cons_zero]
  refine takeY 4 53 (v := ?_) rfl rfl (by kernel_rfl) (by kernel_rfl) (by kernel_rfl) (fun _ _ _ h => h) (by rfl) (by kernel_rfl) (by kernel_rfl) (by decide) hHeld (fun w hSw => ?_) ?_
  rotate_left 1
  · (try dsimp only at hSw)
    have e0_ : w.cell? ⟨A4, 0, none⟩ = some (.int .u64 (nv P.1)) := (CBox.off bP hSw nP).cell 0
    have e1_ : w.cell? ⟨A4, 1, none⟩ = some (.int .u64 (nv P.2)) := (CBox.off bP hSw nP).cell 1
    clear hSw
    go_simp
    try with_reducible rfl
  simp only [List.set_cons_succ, List.set_cons_zero]
  refine takeY 5 54 (v := ?_) rfl rfl (by kernel_rfl) (by kernel_rfl) (by kernel_rfl) (fun _ _ _ h => h) (by rfl) (by kernel_rfl) (by kernel_rfl) (by decide) hHeld (fun w hSw => ?_) ?_
  rotate_left 1
  · (try dsimp only at hSw)
    clear hSw
    go_simp
    try with_reducible rfl
  simp only [List.set_cons_succ, List.set_cons_zero]
  clear hHeld
  have hod : Off (fun _ => False) wq wq.drew := (Off.refl _ wq).drew
  generalize wq.drew = wd at *
  replace bn := bn.off hod (fun h => h)
  have f0 := CBox.frozen bn 0
  have f1 := CBox.frozen bn 1
  have f2 := CBox.frozen bn 2
  have g0_ : wd.cell? ⟨A0, 0, none⟩ = some (.int .u32 0) := CBox.cell bn 0
  have g1_ : wd.cell? ⟨A0, 1, none⟩ = some (.int .u32 0) := CBox.cell bn 1
  have g2_ : wd.cell? ⟨A0, 2, none⟩ = some (.int .u64 0) := CBox.cell bn 2
  have bnn := (CBox.put (CBox.put (CBox.put bn 0 (.int .u32 (nv32 E))) 1 (.int .u32 65535)) 2 (.int .u64 (nv V)))
  have how8 : Off (fun k => k = A0) wd (((wd.setCell ⟨A0, 0, none⟩ (.int .u32 (nv32 E))).setCell ⟨A0, 1, none⟩ (.int .u32 65535)).setCell ⟨A0, 2, none⟩ (.int .u64 (nv V))) := (Off.setCell (F := fun k => k = A0) (p := ⟨A0, 2, none⟩) (Off.setCell (F := fun k => k = A0) (p := ⟨A0, 1, none⟩) (Off.setCell (F := fun k => k = A0) (p := ⟨A0, 0, none⟩) (Off.refl (fun k => k = A0) wd) (Or.inl rfl) (.int .u32 (nv32 E))) (Or.inl rfl) (.int .u32 65535)) (Or.inl rfl) (.int .u64 (nv V)))
  refine onlyX 6 rfl (by kernel_rfl) (by rfl) (fun K hK => ?_)
  go_wp2_with fail
  clear f0 f1 f2 g0_ g1_ g2_
  generalize (((wd.setCell ⟨A0, 0, none⟩ (.int .u32 (nv32 E))).setCell ⟨A0, 1, none⟩ (.int .u32 65535)).setCell ⟨A0, 2, none⟩ (.int .u64 (nv V))) = w8 at *
  have ho78 : Off (fun k => k = A0 ∨ k = A0 + 1) wq w8 := (hod.mono (G := fun k => k = A0 ∨ k = A0 + 1) (fun k h => h.elim)).trans (G := fun k => k = A0) how8 (fun k h => Or.inl (Or.inl h))
  refine hK.out _ _ (fun _ => ho78) (fun _ => ?_)
  clear hK K
  replace bs := (bs.off hod (fun h => h)).off how8 (fun e => by omega)
  have f0 := CBox.frozen bs 0
  have f1 := CBox.frozen bs 1
  have f2 := CBox.frozen bs 2
  have g0_ : w8.cell? ⟨(A0 + 1), 0, none⟩ = some (.slice none 0 0) := CBox.cell bs 0
  have g1_ : w8.cell? ⟨(A0 + 1), 1, none⟩ = some (.int .u64 0) := CBox.cell bs 1
  have g2_ : w8.cell? ⟨(A0 + 1), 2, none⟩ = some (.int .u64 0) := CBox.cell bs 2
  have bsn := (CBox.put (CBox.put (CBox.put bs 0 (.slice (some ⟨g2, 0, none⟩) 32 32)) 1 (.int .u64 (nv P.1))) 2 (.int .u64 (nv P.2)))
  have how9 : Off (fun k => k = (A0 + 1)) w8 (((w8.setCell ⟨(A0 + 1), 0, none⟩ (.slice (some ⟨g2, 0, none⟩) 32 32)).setCell ⟨(A0 + 1), 1, none⟩ (.int .u64 (nv P.1))).setCell ⟨(A0 + 1), 2, none⟩ (.int .u64 (nv P.2))) := (Off.setCell (F := fun k => k = (A0 + 1)) (p := ⟨(A0 + 1), 2, none⟩) (Off.setCell (F := fun k => k = (A0 + 1)) (p := ⟨(A0 + 1), 1, none⟩) (Off.setCell (F := fun k => k = (A0 + 1)) (p := ⟨(A0 + 1), 0, none⟩) (Off.refl (fun k => k = (A0 + 1)) w8) (Or.inl rfl) (.slice (some ⟨g2, 0, none⟩) 32 32)) (Or.inl rfl) (.int .u64 (nv P.1))) (Or.inl rfl) (.int .u64 (nv P.2)))
  refine onlyX 7 rfl (by kernel_rfl) (by rfl) (fun K hK => ?_)
  go_wp2_with fail
  clear f0 f1 f2 g0_ g1_ g2_
  generalize (((w8.setCell ⟨(A0 + 1), 0, none⟩ (.slice (some ⟨g2, 0, none⟩) 32 32)).setCell ⟨(A0 + 1), 1, none⟩ (.int .u64 (nv P.1))).setCell ⟨(A0 + 1), 2, none⟩ (.int .u64 (nv P.2))) = w9 at *
  have ho79 : Off (fun k => k = A0 ∨ k = A0 + 1) wq w9 := ho78.trans (G := fun k => k = A0 + 1) how9 (fun k h => Or.inl (Or.inr h))
  refine hK.out _ _ (fun _ => ho79) (fun _ => ?_)
  clear hK K
  refine onlyX 8 rfl (by kernel_rfl) (by rfl) (fun K hK => ?_)
  go_wp2_with fail
  refine hK.out _ _ (fun h => absurd rfl h) (fun _ => ?_)
  clear hK K
  refine doneX (by kernel_rfl) ?_ _
  go_wp2_with fail
  replace bnn := bnn.off how9 (fun e => by omega)
  have k0 := CBox.cell bnn 0
  have k1 := CBox.cell bnn 1
  have k2 := CBox.cell bnn 2
  have j0 := CBox.cell bsn 0
  have j1 := CBox.cell bsn 1
  have j2 := CBox.cell bsn 2
  have hBE : Below w.heap.size w w9 := by
    rw [hA0]
    exact hB6.trans (ho79.below (B := A0) (fun k hk => by omega) (by omega))
  refine bodyPost_ret (v := .tuple #[.agg #[.int .u32 (nv32 E), .int .u32 65535, .int .u64 (nv V)], .agg #[.slice (some ⟨g2, 0, none⟩) 32 32, .int .u64 (nv P.1), .int .u64 (nv P.2)], .bool true]) (by simp [results, Try.results14, go_sem, k0, k1, k2, j0, j1, j2]) rfl ?_
  refine ⟨some ⟨g2, 0, none⟩, 32, by rw [HN.out.1, HN.out.2]; rfl, ?_, ⟨Nat.le_refl _, by decide, fun e => by cases e⟩, hBE⟩
  have hs : SIn (fun k => k = g2) wq (some ⟨g2, 0, none⟩) 32 (rcB xs) := ⟨hB32, fun _ => ⟨g2, 0, rfl, hr2.lt, rfl, hr2.at⟩⟩
  exact (hs.off ho79 (fun k _ hk e => by subst hk; exact nG e)).mono (fun k _ hk => by subst hk; omega)
theorem ircget_no : RcGetNo 14 := by
  intro x n c hn hm w
  refine (ircget_no' x n c hn hm w).mono ?_
  rintro e w' ⟨rfl, hb⟩
  exact ⟨_, _, rfl, hb⟩
theorem rc_all : RcAll := ⟨ircput_yes, ircput_no, ircget_yes, ircget_no⟩
end Go.Proofs.Ytnimhlkoikjomaa
