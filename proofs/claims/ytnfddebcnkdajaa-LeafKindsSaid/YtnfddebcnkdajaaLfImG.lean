/- The landed leaves: read of 32 bytes, Get. -/
import Derived.Test.YtnfddebcnkdajaaLfImR
namespace Go.Proofs.Ytnfddebcnkdajaa
open Go.RowKit
set_option maxRecDepth 20000

set_option maxRecDepth 20000 in
set_option maxHeartbeats 4000000 in
theorem iread_yes (b o c : Nat) (xs : List Int) (slot : Int) (w : World) (hxl : xs.length = 32) (hcap : 32 ≤ c) (hcm : c ≤ maxLen) (bx : Bytes xs) (hbl : b < w.heap.size) (hat : At w b o xs) : Calls Try.prog 20 #[.slice (some ⟨b, o, none⟩) 32 c, .int .i64 slot] w fun e w' => e = .returned (.tuple #[lfv (lfGet xs slot), .bool true]) ∧ Below w.heap.size w w' := by
  have hn0 : nv32 0#32 = 0 := rfl
  have hcm' : c ≤ 9223372036854775807 := hcm
  obtain ⟨K0, hK0⟩ : ∃ k, xs.getD 0 0 = k := ⟨_, rfl⟩
  obtain ⟨X1, hX1⟩ : ∃ k, xs.getD 1 0 = k := ⟨_, rfl⟩
  obtain ⟨D0, hD0⟩ : ∃ d, decide (X1 = 1) = d := ⟨_, rfl⟩
  have bxl : ∀ i, i < 32 → 0 ≤ xs.getD i 0 ∧ xs.getD i 0 < 256 := fun i hi => bx _ (by rw [List.getD_eq_getElem?_getD, List.getElem?_eq_getElem (by omega), Option.getD_some]; exact List.getElem_mem _)
  have hK0r := bxl 0 (by decide)
  have hX1r := bxl 1 (by decide)
  rw [hK0] at hK0r
  rw [hX1] at hX1r
  have hkw : IntKind.i64.wrap K0 = K0 := by rw [IntKind.wrap_i64]; omega
  have hD : (X1 == 1) = D0 := by rw [← hD0]; rfl
  obtain ⟨LB, hLB⟩ : ∃ m : Nat, num ((xs.drop 2).take 2) = (m : Int) := ⟨(num ((xs.drop 2).take 2)).toNat, by have := num_range _ ((bx.drop 2).take 2); omega⟩
  have hLBr : LB < 65536 := by
    have := num_range _ ((bx.drop 2).take 2)
    rw [hLB, List.length_take, List.length_drop, hxl] at this
    have h2 : (256 : Int) ^ min 2 (32 - 2) = 65536 := by decide
    omega
  have hlw : IntKind.i64.wrap (LB : Int) = LB := by rw [IntKind.wrap_i64]; omega
  obtain ⟨E, hE⟩ : ∃ e : BitVec 32, BitVec.ofInt 32 (num ((xs.drop 4).take 4)) = e := ⟨_, rfl⟩
  have hEn : num ((xs.drop 4).take 4) = nv32 E := by
    have := num_range _ ((bx.drop 4).take 4)
    rw [List.length_take, List.length_drop, hxl] at this
    have h2 : (256 : Int) ^ min 4 (32 - 4) = 4294967296 := by decide
    rw [← hE, nv32_of _ this.1 (by omega)]
  have hew : IntKind.u32.wrap (nv32 E) = nv32 E := by
    have := nv32_range E
    rw [IntKind.wrap_u32]
    omega
  obtain ⟨V, hV⟩ : ∃ e : BitVec 64, BitVec.ofInt 64 (num ((xs.drop 8).take 8)) = e := ⟨_, rfl⟩
  have hVn : num ((xs.drop 8).take 8) = nv V := by
    have := num_lt _ ((bx.drop 8).take 8) (by rw [List.length_take]; omega)
    rw [← hV, nv_of _ this.1 this.2]
  obtain ⟨P, hP⟩ : ∃ p, pairOf (xs.drop 16) = p := ⟨_, rfl⟩
  obtain ⟨T, hT⟩ : ∃ t : BitVec 32, BitVec.ofInt 32 slot = t := ⟨_, rfl⟩
  have htw : IntKind.u32.wrap slot = nv32 T := by
    rw [← hT, IntKind.wrap_u32]
    unfold nv32
    rw [BitVec.toNat_ofInt]
    omega
  have hL : lfGet xs slot = ⟨K0, D0, (LB : Int), E, if K0 = 1 then T else 0#32, V, P⟩ := by
    unfold lfGet
    rw [hK0, hX1, hD0, hLB, hE, hV, hP, hT]
  have q0 : num (cutP xs [1, 1, 2, 4, 8, 16] 0) = K0 := by
    have e : cutP xs [1, 1, 2, 4, 8, 16] 0 = [K0] := by
      show (xs.drop 0).take 1 = [K0]
      rw [← hK0]
      match xs, hxl with
      | y :: r, _ => rfl
    rw [e, num_cons]
    simp [num]
  have q1 : num (cutP xs [1, 1, 2, 4, 8, 16] 1) = X1 := by
    have e : cutP xs [1, 1, 2, 4, 8, 16] 1 = [X1] := by
      show (xs.drop 1).take 1 = [X1]
      rw [← hX1]
      match xs, hxl with
      | y :: z :: r, _ => rfl
    rw [e, num_cons]
    simp [num]
  have q2 : num (cutP xs [1, 1, 2, 4, 8, 16] 2) = LB := hLB
  have q3 : num (cutP xs [1, 1, 2, 4, 8, 16] 3) = nv32 E := hEn
  have q4 : num (cutP xs [1, 1, 2, 4, 8, 16] 4) = nv V := hVn
  have q5 : pairOf (cutP xs [1, 1, 2, 4, 8, 16] 5) = P := by
    rw [← hP]
    show pairOf ((xs.drop 16).take 16) = _
    rw [List.take_of_length_le (by rw [List.length_drop]; omega)]
  have ql := fun k (h : k < 6) => cutP_length xs [1, 1, 2, 4, 8, 16] k h (by rw [hxl]; rfl)
  have qb : ∀ k, Bytes (cutP xs [1, 1, 2, 4, 8, 16] k) := fun k => (bx.drop _).take _
  clear hE hV hP hT hLB hEn hVn hK0 hX1 hD0 bxl bx
  have z0 := (CBox.new 29 w #[.int .i64 0, .bool false, .int .i64 0, .int .u32 0, .int .u32 0, .int .u64 0, .int .u64 0, .int .u64 0]).grown ((Below.refl _ _).alloc (Nat.le_refl _) (.cells #[.int .i64 1, .int .i64 1, .int .i64 2, .int .i64 4, .int .i64 8, .int .i64 16] 3))
  have hB0 : Below w.heap.size w ((w.alloc (.cells #[.int .i64 0, .bool false, .int .i64 0, .int .u32 0, .int .u32 0, .int .u64 0, .int .u64 0, .int .u64 0] 29)).alloc (.cells #[.int .i64 1, .int .i64 1, .int .i64 2, .int .i64 4, .int .i64 8, .int .i64 16] 3)) := ((Below.refl _ _).alloc (Nat.le_refl _) _).alloc (by rw [World.size_alloc]; omega) _
  have hI := ints6 (w.alloc (.cells #[.int .i64 0, .bool false, .int .i64 0, .int .u32 0, .int .u32 0, .int .u64 0, .int .u64 0, .int .u64 0] 29))
  have hf := fun w' (hb : Below ((w.alloc (.cells #[.int .i64 0, .bool false, .int .i64 0, .int .u32 0, .int .u32 0, .int .u64 0, .int .u64 0, .int .u64 0] 29)).alloc (.cells #[.int .i64 1, .int .i64 1, .int .i64 2, .int .i64 4, .int .i64 8, .int .i64 16] 3)).heap.size ((w.alloc (.cells #[.int .i64 0, .bool false, .int .i64 0, .int .u32 0, .int .u32 0, .int .u64 0, .int .u64 0, .int .u64 0] 29)).alloc (.cells #[.int .i64 1, .int .i64 1, .int .i64 2, .int .i64 4, .int .i64 8, .int .i64 16] 3)) w') => fill_some (w.alloc (.cells #[.int .i64 0, .bool false, .int .i64 0, .int .u32 0, .int .u32 0, .int .u64 0, .int .u64 0, .int .u64 0] 29)).heap.size 0 6 6 32 [1, 1, 2, 4, 8, 16] w' rfl (by decide) (by decide) (hI.below hb (by simp only [World.size_alloc]; omega))
  rw [fill32, decide_eq_true (rfl : 32 = 32)] at hf
  have hc := cut_yes b o 32 c xs (some ⟨(w.alloc (.cells #[.int .i64 0, .bool false, .int .i64 0, .int .u32 0, .int .u32 0, .int .u64 0, .int .u64 0, .int .u64 0] 29)).heap.size, 0, none⟩) 6 6 [1, 1, 2, 4, 8, 16] _ hxl (by decide) hcap hcm' (Nat.lt_of_lt_of_le hbl hB0.size) (hat.below hB0 hbl) rfl (by decide) rfl (fun _ => ⟨_, 0, rfl, by simp only [World.size_alloc]; omega, hI⟩) hf
  have hN0 : w.heap.size < ((w.alloc (.cells #[.int .i64 0, .bool false, .int .i64 0, .int .u32 0, .int .u32 0, .int .u64 0, .int .u64 0, .int .u64 0] 29)).alloc (.cells #[.int .i64 1, .int .i64 1, .int .i64 2, .int .i64 4, .int .i64 8, .int .i64 16] 3)).heap.size := by rw [World.size_alloc, World.size_alloc]; omega
  simp only [World.size_alloc] at hc hf hN0
  clear hf hI hat
  go_enter Try.func20, Try.ntmps20
  go_wp2_with fail
  generalize (w.alloc (.cells #[.int .i64 0, .bool false, .int .i64 0, .int .u32 0, .int .u32 0, .int .u64 0, .int .u64 0, .int .u64 0] 29)).alloc (.cells #[.int .i64 1, .int .i64 1, .int .i64 2, .int .i64 4, .int .i64 8, .int .i64 16] 3) = W at *
  refine hc.mono ?_
  clear hc
  rintro e w2 ⟨rfl, hcuts, hb⟩
  have z2 : CBox 29 w2 w.heap.size #[.int .i64 0, .bool false, .int .i64 0, .int .u32 0, .int .u32 0, .int .u64 0, .int .u64 0, .int .u64 0] := (hb.block _ (by omega)).trans z0
  have hB2 := hB0.trans (hb.mono (by omega))
  clear z0 hB0 hb hN0
  obtain ⟨g0, hg0, hc0, hr0⟩ := cut_row hcuts hxl (show 0 < 6 by decide)
  dsimp only [List.getElem_cons_succ, List.getElem_cons_zero] at hc0
  obtain ⟨g1, hg1, hc1, hr1⟩ := cut_row hcuts hxl (show 1 < 6 by decide)
  dsimp only [List.getElem_cons_succ, List.getElem_cons_zero] at hc1
  obtain ⟨g2, hg2, hc2, hr2⟩ := cut_row hcuts hxl (show 2 < 6 by decide)
  dsimp only [List.getElem_cons_succ, List.getElem_cons_zero] at hc2
  obtain ⟨g3, hg3, hc3, hr3⟩ := cut_row hcuts hxl (show 3 < 6 by decide)
  dsimp only [List.getElem_cons_succ, List.getElem_cons_zero] at hc3
  obtain ⟨g4, hg4, hc4, hr4⟩ := cut_row hcuts hxl (show 4 < 6 by decide)
  dsimp only [List.getElem_cons_succ, List.getElem_cons_zero] at hc4
  obtain ⟨g5, hg5, hc5, hr5⟩ := cut_row hcuts hxl (show 5 < 6 by decide)
  dsimp only [List.getElem_cons_succ, List.getElem_cons_zero] at hc5
  clear hcuts
  go_wp2_with fail
  refine (wget_some g0 0 1 1 _ _ (ql 0 (by decide)) (by decide) (by decide) (qb 0) hr0.at).mono ?_
  rw [q0]
  rintro e w3 ⟨rfl, rfl⟩
  go_wp2_with fail
  refine (wget_some g1 0 1 1 _ _ (ql 1 (by decide)) (by decide) (by decide) (qb 1) hr1.at).mono ?_
  rw [q1]
  rintro e w3 ⟨rfl, rfl⟩
  go_wp2_with fail
  refine (wget_some g2 0 2 2 _ _ (ql 2 (by decide)) (by decide) (by decide) (qb 2) hr2.at).mono ?_
  rw [q2]
  rintro e w3 ⟨rfl, rfl⟩
  go_wp2_with fail
  refine (wget_some g3 0 4 4 _ _ (ql 3 (by decide)) (by decide) (by decide) (qb 3) hr3.at).mono ?_
  rw [q3]
  rintro e w3 ⟨rfl, rfl⟩
  go_wp2_with fail
  refine (wget_some g4 0 8 8 _ _ (ql 4 (by decide)) (by decide) (by decide) (qb 4) hr4.at).mono ?_
  rw [q4]
  rintro e w3 ⟨rfl, rfl⟩
  go_wp2_with fail
  refine (wpair g5 0 16 _ _ (ql 5 (by decide)) (by decide) (by decide) (qb 5) hr5.lt hr5.at).mono ?_
  rw [q5]
  rintro e w4 ⟨rfl, hb⟩
  have hB4 := hB2.trans (hb.mono hB2.size)
  have z4 := z2.grown hb
  clear hc0 hr0 hg0 q0 hc1 hr1 hg1 q1 hc2 hr2 hg2 q2 hc3 hr3 hg3 q3 hc4 hr4 hg4 q4 hc5 hr5 hg5 q5 ql qb z2 hB2 hb
  by_cases hk1 : K0 = 1
  · subst hk1
    rw [if_pos rfl] at hL
    have HL := hide' hL
    clear hL hkw
    have z5 := (z4.grown ((Below.refl _ _).alloc (Nat.le_refl _) (.cells #[.int .u64 (nv P.1), .int .u64 (nv P.2)] 27))).grown ((Below.refl _ _).alloc (Nat.le_refl _) (.cells #[.int .i64 1, .bool D0, .int .i64 (LB : Int), .int .u32 (nv32 E), .int .u32 (nv32 T), .int .u64 (nv V), .int .u64 (nv P.1), .int .u64 (nv P.2)] 29))
    have hB5 : Below w.heap.size w ((w4.alloc (.cells #[.int .u64 (nv P.1), .int .u64 (nv P.2)] 27)).alloc (.cells #[.int .i64 1, .bool D0, .int .i64 (LB : Int), .int .u32 (nv32 E), .int .u32 (nv32 T), .int .u64 (nv V), .int .u64 (nv P.1), .int .u64 (nv P.2)] 29)) := (hB4.alloc hB4.size _).alloc (by rw [World.size_alloc]; exact Nat.le_succ_of_le hB4.size) _
    clear z4 hB4
    have f0 := CBox.frozen z5 0
    have f1 := CBox.frozen z5 1
    have f2 := CBox.frozen z5 2
    have f3 := CBox.frozen z5 3
    have f4 := CBox.frozen z5 4
    have f5 := CBox.frozen z5 5
    have f6 := CBox.frozen z5 6
    have f7 := CBox.frozen z5 7
    have g0 : ((w4.alloc (.cells #[.int .u64 (nv P.1), .int .u64 (nv P.2)] 27)).alloc (.cells #[.int .i64 1, .bool D0, .int .i64 (LB : Int), .int .u32 (nv32 E), .int .u32 (nv32 T), .int .u64 (nv V), .int .u64 (nv P.1), .int .u64 (nv P.2)] 29)).cell? ⟨w.heap.size, 0, none⟩ = some (.int .i64 0) := CBox.cell z5 0
    have g1 : ((w4.alloc (.cells #[.int .u64 (nv P.1), .int .u64 (nv P.2)] 27)).alloc (.cells #[.int .i64 1, .bool D0, .int .i64 (LB : Int), .int .u32 (nv32 E), .int .u32 (nv32 T), .int .u64 (nv V), .int .u64 (nv P.1), .int .u64 (nv P.2)] 29)).cell? ⟨w.heap.size, 1, none⟩ = some (.bool false) := CBox.cell z5 1
    have g2 : ((w4.alloc (.cells #[.int .u64 (nv P.1), .int .u64 (nv P.2)] 27)).alloc (.cells #[.int .i64 1, .bool D0, .int .i64 (LB : Int), .int .u32 (nv32 E), .int .u32 (nv32 T), .int .u64 (nv V), .int .u64 (nv P.1), .int .u64 (nv P.2)] 29)).cell? ⟨w.heap.size, 2, none⟩ = some (.int .i64 0) := CBox.cell z5 2
    have g3 : ((w4.alloc (.cells #[.int .u64 (nv P.1), .int .u64 (nv P.2)] 27)).alloc (.cells #[.int .i64 1, .bool D0, .int .i64 (LB : Int), .int .u32 (nv32 E), .int .u32 (nv32 T), .int .u64 (nv V), .int .u64 (nv P.1), .int .u64 (nv P.2)] 29)).cell? ⟨w.heap.size, 3, none⟩ = some (.int .u32 0) := CBox.cell z5 3
    have g4 : ((w4.alloc (.cells #[.int .u64 (nv P.1), .int .u64 (nv P.2)] 27)).alloc (.cells #[.int .i64 1, .bool D0, .int .i64 (LB : Int), .int .u32 (nv32 E), .int .u32 (nv32 T), .int .u64 (nv V), .int .u64 (nv P.1), .int .u64 (nv P.2)] 29)).cell? ⟨w.heap.size, 4, none⟩ = some (.int .u32 0) := CBox.cell z5 4
    have g5 : ((w4.alloc (.cells #[.int .u64 (nv P.1), .int .u64 (nv P.2)] 27)).alloc (.cells #[.int .i64 1, .bool D0, .int .i64 (LB : Int), .int .u32 (nv32 E), .int .u32 (nv32 T), .int .u64 (nv V), .int .u64 (nv P.1), .int .u64 (nv P.2)] 29)).cell? ⟨w.heap.size, 5, none⟩ = some (.int .u64 0) := CBox.cell z5 5
    have g6 : ((w4.alloc (.cells #[.int .u64 (nv P.1), .int .u64 (nv P.2)] 27)).alloc (.cells #[.int .i64 1, .bool D0, .int .i64 (LB : Int), .int .u32 (nv32 E), .int .u32 (nv32 T), .int .u64 (nv V), .int .u64 (nv P.1), .int .u64 (nv P.2)] 29)).cell? ⟨w.heap.size, 6, none⟩ = some (.int .u64 0) := CBox.cell z5 6
    have g7 : ((w4.alloc (.cells #[.int .u64 (nv P.1), .int .u64 (nv P.2)] 27)).alloc (.cells #[.int .i64 1, .bool D0, .int .i64 (LB : Int), .int .u32 (nv32 E), .int .u32 (nv32 T), .int .u64 (nv V), .int .u64 (nv P.1), .int .u64 (nv P.2)] 29)).cell? ⟨w.heap.size, 7, none⟩ = some (.int .u64 0) := CBox.cell z5 7
    go_wp2
    have bM := (CBox.put (CBox.put (CBox.put (CBox.put (CBox.put (CBox.put (CBox.put (CBox.put z5 0 (.int .i64 1)) 1 (.bool D0)) 2 (.int .i64 (LB : Int))) 3 (.int .u32 (nv32 E))) 4 (.int .u32 (nv32 T))) 5 (.int .u64 (nv V))) 6 (.int .u64 (nv P.1))) 7 (.int .u64 (nv P.2)))
    have k0 := CBox.cell bM 0
    have k1 := CBox.cell bM 1
    have k2 := CBox.cell bM 2
    have k3 := CBox.cell bM 3
    have k4 := CBox.cell bM 4
    have k5 := CBox.cell bM 5
    have k6 := CBox.cell bM 6
    have k7 := CBox.cell bM 7
    have hBE : Below w.heap.size w ((((((((((w4.alloc (.cells #[.int .u64 (nv P.1), .int .u64 (nv P.2)] 27)).alloc (.cells #[.int .i64 1, .bool D0, .int .i64 (LB : Int), .int .u32 (nv32 E), .int .u32 (nv32 T), .int .u64 (nv V), .int .u64 (nv P.1), .int .u64 (nv P.2)] 29)).setCell ⟨w.heap.size, 0, none⟩ (.int .i64 1)).setCell ⟨w.heap.size, 1, none⟩ (.bool D0)).setCell ⟨w.heap.size, 2, none⟩ (.int .i64 (LB : Int))).setCell ⟨w.heap.size, 3, none⟩ (.int .u32 (nv32 E))).setCell ⟨w.heap.size, 4, none⟩ (.int .u32 (nv32 T))).setCell ⟨w.heap.size, 5, none⟩ (.int .u64 (nv V))).setCell ⟨w.heap.size, 6, none⟩ (.int .u64 (nv P.1))).setCell ⟨w.heap.size, 7, none⟩ (.int .u64 (nv P.2))) := ((((((((((((((((hB5).setCell (p := ⟨w.heap.size, 0, none⟩) (Nat.le_refl _) (.int .i64 1))).setCell (p := ⟨w.heap.size, 1, none⟩) (Nat.le_refl _) (.bool D0))).setCell (p := ⟨w.heap.size, 2, none⟩) (Nat.le_refl _) (.int .i64 (LB : Int)))).setCell (p := ⟨w.heap.size, 3, none⟩) (Nat.le_refl _) (.int .u32 (nv32 E)))).setCell (p := ⟨w.heap.size, 4, none⟩) (Nat.le_refl _) (.int .u32 (nv32 T)))).setCell (p := ⟨w.heap.size, 5, none⟩) (Nat.le_refl _) (.int .u64 (nv V)))).setCell (p := ⟨w.heap.size, 6, none⟩) (Nat.le_refl _) (.int .u64 (nv P.1)))).setCell (p := ⟨w.heap.size, 7, none⟩) (Nat.le_refl _) (.int .u64 (nv P.2)))
    exact bodyPost_ret (v := .tuple #[.agg #[.int .i64 1, .bool D0, .int .i64 (LB : Int), .int .u32 (nv32 E), .int .u32 (nv32 T), .int .u64 (nv V), .int .u64 (nv P.1), .int .u64 (nv P.2)], .bool true]) (by simp [results, Try.results20, go_sem, k0, k1, k2, k3, k4, k5, k6, k7]) rfl ⟨by rw [HL.out]; rfl, hBE⟩
  · rw [if_neg hk1] at hL
    have HL := hide' hL
    clear hL
    have z5 := (z4.grown ((Below.refl _ _).alloc (Nat.le_refl _) (.cells #[.int .u64 (nv P.1), .int .u64 (nv P.2)] 27))).grown ((Below.refl _ _).alloc (Nat.le_refl _) (.cells #[.int .i64 K0, .bool D0, .int .i64 (LB : Int), .int .u32 (nv32 E), .int .u32 0, .int .u64 (nv V), .int .u64 (nv P.1), .int .u64 (nv P.2)] 29))
    have hB5 : Below w.heap.size w ((w4.alloc (.cells #[.int .u64 (nv P.1), .int .u64 (nv P.2)] 27)).alloc (.cells #[.int .i64 K0, .bool D0, .int .i64 (LB : Int), .int .u32 (nv32 E), .int .u32 0, .int .u64 (nv V), .int .u64 (nv P.1), .int .u64 (nv P.2)] 29)) := (hB4.alloc hB4.size _).alloc (by rw [World.size_alloc]; exact Nat.le_succ_of_le hB4.size) _
    clear z4 hB4
    have f0 := CBox.frozen z5 0
    have f1 := CBox.frozen z5 1
    have f2 := CBox.frozen z5 2
    have f3 := CBox.frozen z5 3
    have f4 := CBox.frozen z5 4
    have f5 := CBox.frozen z5 5
    have f6 := CBox.frozen z5 6
    have f7 := CBox.frozen z5 7
    have g0 : ((w4.alloc (.cells #[.int .u64 (nv P.1), .int .u64 (nv P.2)] 27)).alloc (.cells #[.int .i64 K0, .bool D0, .int .i64 (LB : Int), .int .u32 (nv32 E), .int .u32 0, .int .u64 (nv V), .int .u64 (nv P.1), .int .u64 (nv P.2)] 29)).cell? ⟨w.heap.size, 0, none⟩ = some (.int .i64 0) := CBox.cell z5 0
    have g1 : ((w4.alloc (.cells #[.int .u64 (nv P.1), .int .u64 (nv P.2)] 27)).alloc (.cells #[.int .i64 K0, .bool D0, .int .i64 (LB : Int), .int .u32 (nv32 E), .int .u32 0, .int .u64 (nv V), .int .u64 (nv P.1), .int .u64 (nv P.2)] 29)).cell? ⟨w.heap.size, 1, none⟩ = some (.bool false) := CBox.cell z5 1
    have g2 : ((w4.alloc (.cells #[.int .u64 (nv P.1), .int .u64 (nv P.2)] 27)).alloc (.cells #[.int .i64 K0, .bool D0, .int .i64 (LB : Int), .int .u32 (nv32 E), .int .u32 0, .int .u64 (nv V), .int .u64 (nv P.1), .int .u64 (nv P.2)] 29)).cell? ⟨w.heap.size, 2, none⟩ = some (.int .i64 0) := CBox.cell z5 2
    have g3 : ((w4.alloc (.cells #[.int .u64 (nv P.1), .int .u64 (nv P.2)] 27)).alloc (.cells #[.int .i64 K0, .bool D0, .int .i64 (LB : Int), .int .u32 (nv32 E), .int .u32 0, .int .u64 (nv V), .int .u64 (nv P.1), .int .u64 (nv P.2)] 29)).cell? ⟨w.heap.size, 3, none⟩ = some (.int .u32 0) := CBox.cell z5 3
    have g4 : ((w4.alloc (.cells #[.int .u64 (nv P.1), .int .u64 (nv P.2)] 27)).alloc (.cells #[.int .i64 K0, .bool D0, .int .i64 (LB : Int), .int .u32 (nv32 E), .int .u32 0, .int .u64 (nv V), .int .u64 (nv P.1), .int .u64 (nv P.2)] 29)).cell? ⟨w.heap.size, 4, none⟩ = some (.int .u32 0) := CBox.cell z5 4
    have g5 : ((w4.alloc (.cells #[.int .u64 (nv P.1), .int .u64 (nv P.2)] 27)).alloc (.cells #[.int .i64 K0, .bool D0, .int .i64 (LB : Int), .int .u32 (nv32 E), .int .u32 0, .int .u64 (nv V), .int .u64 (nv P.1), .int .u64 (nv P.2)] 29)).cell? ⟨w.heap.size, 5, none⟩ = some (.int .u64 0) := CBox.cell z5 5
    have g6 : ((w4.alloc (.cells #[.int .u64 (nv P.1), .int .u64 (nv P.2)] 27)).alloc (.cells #[.int .i64 K0, .bool D0, .int .i64 (LB : Int), .int .u32 (nv32 E), .int .u32 0, .int .u64 (nv V), .int .u64 (nv P.1), .int .u64 (nv P.2)] 29)).cell? ⟨w.heap.size, 6, none⟩ = some (.int .u64 0) := CBox.cell z5 6
    have g7 : ((w4.alloc (.cells #[.int .u64 (nv P.1), .int .u64 (nv P.2)] 27)).alloc (.cells #[.int .i64 K0, .bool D0, .int .i64 (LB : Int), .int .u32 (nv32 E), .int .u32 0, .int .u64 (nv V), .int .u64 (nv P.1), .int .u64 (nv P.2)] 29)).cell? ⟨w.heap.size, 7, none⟩ = some (.int .u64 0) := CBox.cell z5 7
    go_wp2
    have bM := (CBox.put (CBox.put (CBox.put (CBox.put (CBox.put (CBox.put (CBox.put (CBox.put z5 0 (.int .i64 K0)) 1 (.bool D0)) 2 (.int .i64 (LB : Int))) 3 (.int .u32 (nv32 E))) 4 (.int .u32 0)) 5 (.int .u64 (nv V))) 6 (.int .u64 (nv P.1))) 7 (.int .u64 (nv P.2)))
    have k0 := CBox.cell bM 0
    have k1 := CBox.cell bM 1
    have k2 := CBox.cell bM 2
    have k3 := CBox.cell bM 3
    have k4 := CBox.cell bM 4
    have k5 := CBox.cell bM 5
    have k6 := CBox.cell bM 6
    have k7 := CBox.cell bM 7
    have hBE : Below w.heap.size w ((((((((((w4.alloc (.cells #[.int .u64 (nv P.1), .int .u64 (nv P.2)] 27)).alloc (.cells #[.int .i64 K0, .bool D0, .int .i64 (LB : Int), .int .u32 (nv32 E), .int .u32 0, .int .u64 (nv V), .int .u64 (nv P.1), .int .u64 (nv P.2)] 29)).setCell ⟨w.heap.size, 0, none⟩ (.int .i64 K0)).setCell ⟨w.heap.size, 1, none⟩ (.bool D0)).setCell ⟨w.heap.size, 2, none⟩ (.int .i64 (LB : Int))).setCell ⟨w.heap.size, 3, none⟩ (.int .u32 (nv32 E))).setCell ⟨w.heap.size, 4, none⟩ (.int .u32 0)).setCell ⟨w.heap.size, 5, none⟩ (.int .u64 (nv V))).setCell ⟨w.heap.size, 6, none⟩ (.int .u64 (nv P.1))).setCell ⟨w.heap.size, 7, none⟩ (.int .u64 (nv P.2))) := ((((((((((((((((hB5).setCell (p := ⟨w.heap.size, 0, none⟩) (Nat.le_refl _) (.int .i64 K0))).setCell (p := ⟨w.heap.size, 1, none⟩) (Nat.le_refl _) (.bool D0))).setCell (p := ⟨w.heap.size, 2, none⟩) (Nat.le_refl _) (.int .i64 (LB : Int)))).setCell (p := ⟨w.heap.size, 3, none⟩) (Nat.le_refl _) (.int .u32 (nv32 E)))).setCell (p := ⟨w.heap.size, 4, none⟩) (Nat.le_refl _) (.int .u32 0))).setCell (p := ⟨w.heap.size, 5, none⟩) (Nat.le_refl _) (.int .u64 (nv V)))).setCell (p := ⟨w.heap.size, 6, none⟩) (Nat.le_refl _) (.int .u64 (nv P.1)))).setCell (p := ⟨w.heap.size, 7, none⟩) (Nat.le_refl _) (.int .u64 (nv P.2)))
    exact bodyPost_ret (v := .tuple #[.agg #[.int .i64 K0, .bool D0, .int .i64 (LB : Int), .int .u32 (nv32 E), .int .u32 0, .int .u64 (nv V), .int .u64 (nv P.1), .int .u64 (nv P.2)], .bool true]) (by simp [results, Try.results20, go_sem, k0, k1, k2, k3, k4, k5, k6, k7]) rfl ⟨by rw [HL.out]; unfold lfv; rw [hn0], hBE⟩
end Go.Proofs.Ytnfddebcnkdajaa
