/- The document's leaves: Get. -/
import Derived.Test.YtnfddebcnkdajaaRefLfP
import Derived.Test.YtnfddebcnkdajaaRegionY
namespace Go.Proofs.Ytnfddebcnkdajaa
open Go.RowKit
set_option maxRecDepth 20000

theorem lfRes_bad (xs : List Int) (slot : Int) (h : ¬ (0 ≤ slot ∧ slot < 16)) : lfRes xs slot = (lf0, false) := by
  unfold lfRes
  rw [if_neg]
  unfold lfTaken
  rw [decide_eq_true_eq]
  exact fun e => h e.2.1.1
set_option maxHeartbeats 4000000 in
theorem rlget : LfGetIn 12 := by
  intro x n c xs slot fx bx w sx
  have bZ0 := CBox.new 29 w #[.int .i64 0, .bool false, .int .i64 0, .int .u32 0, .int .u32 0, .int .u64 0, .int .u64 0, .int .u64 0]
  have hB0 : Below w.heap.size w (w.alloc (.cells #[.int .i64 0, .bool false, .int .i64 0, .int .u32 0, .int .u32 0, .int .u64 0, .int .u64 0, .int .u64 0] 29)) := (Below.refl _ _).alloc (Nat.le_refl _) _
  have hn0 : nv32 0#32 = 0 := rfl
  have hz : lfv lf0 = .agg #[.int .i64 0, .bool false, .int .i64 0, .int .u32 0, .int .u32 0, .int .u64 0, .int .u64 0, .int .u64 0] := rfl
  have hxl := sx.1
  by_cases hn : n = 32
  case neg =>
    rw [lfRes_no xs slot (by omega), hz]
    have hn' : ¬ (n : Int) = 32 := by omega
    clear sx bx
    go_enter Try.func12, Try.ntmps12
    go_wp2
    exact bodyPost_ret (v := .tuple #[.agg #[.int .i64 0, .bool false, .int .i64 0, .int .u32 0, .int .u32 0, .int .u64 0, .int .u64 0, .int .u64 0], .bool false]) (by simp [results, Try.results12, go_sem]) rfl ⟨rfl, hB0⟩
  subst hn
  by_cases hs : 0 ≤ slot ∧ slot < 16
  case neg =>
    rw [lfRes_bad xs slot hs, hz]
    clear sx bx
    by_cases h0 : slot < 0
    · go_enter Try.func12, Try.ntmps12
      go_wp2
      exact bodyPost_ret (v := .tuple #[.agg #[.int .i64 0, .bool false, .int .i64 0, .int .u32 0, .int .u32 0, .int .u64 0, .int .u64 0, .int .u64 0], .bool false]) (by simp [results, Try.results12, go_sem]) rfl ⟨rfl, hB0⟩
    · have h1 : slot ≥ 16 := by omega
      go_enter Try.func12, Try.ntmps12
      go_wp2
      exact bodyPost_ret (v := .tuple #[.agg #[.int .i64 0, .bool false, .int .i64 0, .int .u32 0, .int .u32 0, .int .u64 0, .int .u64 0, .int .u64 0], .bool false]) (by simp [results, Try.results12, go_sem]) rfl ⟨rfl, hB0⟩
  have s0 : ¬ slot < 0 := by omega
  have s1 : ¬ slot ≥ 16 := by omega
  obtain ⟨b, o, rfl, hbl, hat⟩ := sx.2 (by decide)
  have HF := hide' fx
  have c1 : (2 : Int) ≤ c := by have := fx.1; omega
  have c2 : (4 : Int) ≤ c := by have := fx.1; omega
  have c3 : (8 : Int) ≤ c := by have := fx.1; omega
  have c4 : (16 : Int) ≤ c := by have := fx.1; omega
  have n1 : ¬ c = 2 := by have := fx.1; omega
  have n2 : ¬ c = 4 := by have := fx.1; omega
  have n3 : ¬ c = 8 := by have := fx.1; omega
  have n4 : ¬ c = 16 := by have := fx.1; omega
  clear fx
  have hA := hat.alloc hbl (.cells #[.int .i64 0, .bool false, .int .i64 0, .int .u32 0, .int .u32 0, .int .u64 0, .int .u64 0, .int .u64 0] 29)
  obtain ⟨K0, hK0⟩ : ∃ k, xs.getD 0 0 = k := ⟨_, rfl⟩
  obtain ⟨X1, hX1⟩ : ∃ k, xs.getD 1 0 = k := ⟨_, rfl⟩
  obtain ⟨D0, hD0⟩ : ∃ d, decide (X1 = 1) = d := ⟨_, rfl⟩
  have bxl : ∀ i, i < 32 → 0 ≤ xs.getD i 0 ∧ xs.getD i 0 < 256 := fun i hi => bx _ (by rw [List.getD_eq_getElem?_getD, List.getElem?_eq_getElem (by omega), Option.getD_some]; exact List.getElem_mem _)
  have hK0r := bxl 0 (by decide)
  have hX1r := bxl 1 (by decide)
  rw [hK0] at hK0r
  rw [hX1] at hX1r
  have hkw : IntKind.i64.wrap K0 = K0 := by rw [IntKind.wrap_i64]; omega
  have hD : (X1 == 1) = D0 := by rw [← hD0]; rfl
  obtain ⟨LB, hLB⟩ : ∃ m : Nat, num ((xs.drop 2).take 2) = (m : Int) := ⟨(num ((xs.drop 2).take 2)).toNat, by have := num_range _ ((bx.drop 2).take 2); omega⟩
  have hLBr : LB < 65536 := by
    have := num_range _ ((bx.drop 2).take 2)
    rw [hLB, List.length_take, List.length_drop, hxl] at this
    have h2 : (256 : Int) ^ min 2 (32 - 2) = 65536 := by decide
    omega
  have hlw : IntKind.i64.wrap (LB : Int) = LB := by rw [IntKind.wrap_i64]; omega
  obtain ⟨E, hE⟩ : ∃ e : BitVec 32, BitVec.ofInt 32 (num ((xs.drop 4).take 4)) = e := ⟨_, rfl⟩
  have hEn : num ((xs.drop 4).take 4) = nv32 E := by
    have := num_range _ ((bx.drop 4).take 4)
    rw [List.length_take, List.length_drop, hxl] at this
    have h2 : (256 : Int) ^ min 4 (32 - 4) = 4294967296 := by decide
    rw [← hE, nv32_of _ this.1 (by omega)]
  have hew : IntKind.u32.wrap (nv32 E) = nv32 E := by
    have := nv32_range E
    rw [IntKind.wrap_u32]
    omega
  obtain ⟨V, hV⟩ : ∃ e : BitVec 64, BitVec.ofInt 64 (num ((xs.drop 8).take 8)) = e := ⟨_, rfl⟩
  have hVn : num ((xs.drop 8).take 8) = nv V := by
    have := num_lt _ ((bx.drop 8).take 8) (by rw [List.length_take]; omega)
    rw [← hV, nv_of _ this.1 this.2]
  obtain ⟨P, hP⟩ : ∃ p, pairOf (xs.drop 16) = p := ⟨_, rfl⟩
  obtain ⟨T, hT⟩ : ∃ t : BitVec 32, BitVec.ofInt 32 slot = t := ⟨_, rfl⟩
  have hTn : nv32 T = slot := by rw [← hT]; exact nv32_of _ hs.1 (by omega)
  have htw : IntKind.u32.wrap slot = nv32 T := by
    rw [hTn, IntKind.wrap_u32]
    omega
  have hL : lfGet xs slot = ⟨K0, D0, (LB : Int), E, if K0 = 1 then T else 0#32, V, P⟩ := by
    unfold lfGet
    rw [hK0, hX1, hD0, hLB, hE, hV, hP, hT]
  have G1 := fun w ha => rget_some b (o + 2) (c - 2) 2 ((xs.drop 2).take 2) w (by rw [List.length_take, List.length_drop, hxl]; rfl) (by decide) (by decide) ((bx.drop 2).take 2) ha
  have G2 := fun w ha => rget_some b (o + 4) (c - 4) 4 ((xs.drop 4).take 4) w (by rw [List.length_take, List.length_drop, hxl]; rfl) (by decide) (by decide) ((bx.drop 4).take 4) ha
  have G3 := fun w ha => rget_some b (o + 8) (c - 8) 8 ((xs.drop 8).take 8) w (by rw [List.length_take, List.length_drop, hxl]; rfl) (by decide) (by decide) ((bx.drop 8).take 8) ha
  have G4 := fun w hb ha => rpair b (o + 16) (c - 16) (xs.drop 16) w (by rw [List.length_drop, hxl]) (by have := HF.out.1; omega) (by have := HF.out.2.1; omega) (bx.drop 16) hb ha
  rw [hLB] at G1
  rw [hEn] at G2
  rw [hVn] at G3
  rw [hP] at G4
  go_enter Try.func12, Try.ntmps12
  go_wp2_with fail
  generalize w.alloc (.cells #[.int .i64 0, .bool false, .int .i64 0, .int .u32 0, .int .u32 0, .int .u64 0, .int .u64 0, .int .u64 0] 29) = W at *
  refine (G1 _ ((hA.cut2 2).cut1' 2)).mono ?_
  rintro e w1 ⟨rfl, rfl⟩
  go_wp2_with fail
  refine (G2 _ ((hA.cut2 4).cut1' 4)).mono ?_
  rintro e w1 ⟨rfl, rfl⟩
  go_wp2_with fail
  refine (G3 _ ((hA.cut2 8).cut1' 8)).mono ?_
  rintro e w1 ⟨rfl, rfl⟩
  have hbW : b < w1.heap.size := Nat.lt_of_lt_of_le hbl hB0.size
  go_wp2_with fail
  refine (G4 _ hbW (hA.cut2 16)).mono ?_
  rintro e w2 ⟨rfl, hb2⟩
  have hb3 : Below w2.heap.size w2 (w2.alloc (.cells #[.int .u64 (nv P.1), .int .u64 (nv P.2)] 27)) := (Below.refl _ _).alloc (Nat.le_refl _) _
  have bP := Box.new w2 (nv P.1) (nv P.2)
  go_wp2_with fail
  have hB3 : Below w.heap.size w (w2.alloc (.cells #[.int .u64 (nv P.1), .int .u64 (nv P.2)] 27)) := (hB0.trans (hb2.mono hB0.size)).trans (hb3.mono (Nat.le_trans hB0.size hb2.size))
  have hbq : b < (w2.alloc (.cells #[.int .u64 (nv P.1), .int .u64 (nv P.2)] 27)).heap.size := Nat.lt_of_lt_of_le hbl hB3.size
  have bZ := bZ0.grown (hb2.trans (hb3.mono hb2.size))
  clear bZ0
  have hAq := hA.below (hb2.trans (hb3.mono hb2.size)) hbW
  generalize w2.alloc (.cells #[.int .u64 (nv P.1), .int .u64 (nv P.2)] 27) = wq at *
  have cx0 := hAq 0 (by omega)
  have cx1 := hAq 1 (by omega)
  rw [hK0, Nat.add_zero] at cx0
  rw [hX1] at cx1
  clear G1 G2 G3 G4 hb2 hb3
  refine startX (S := fun w' => Below wq.heap.size wq w') 17 (by kernel_rfl) (Below.refl _ _).drew (fun hHeld => ?_)
  refine moveY 0 53 0 rfl rfl rfl (by kernel_rfl) (by kernel_rfl) (by kernel_rfl) (fun _ _ _ h => h) (by rfl) (by kernel_rfl) (by kernel_rfl) (by decide) hHeld rfl ?_
  simp only [List.set_cons_succ, List.set_cons_zero]
  refine takeY 1 54 (v := ?_) rfl rfl (by kernel_rfl) (by kernel_rfl) (by kernel_rfl) (fun _ _ _ h => h) (by rfl) (by kernel_rfl) (by kernel_rfl) (by decide) hHeld (fun w hSw => ?_) ?_
  rotate_left 1
  · (try dsimp only at hSw)
    clear hSw
    go_simp
    try with_reducible rfl
  simp only [List.set_cons_succ, List.set_cons_zero]
  refine takeY 2 55 (v := ?_) rfl rfl (by kernel_rfl) (by kernel_rfl) (by kernel_rfl) (fun _ _ _ h => h) (by rfl) (by kernel_rfl) (by kernel_rfl) (by decide) hHeld (fun w hSw => ?_) ?_
  rotate_left 1
  · (try dsimp only at hSw)
    have e0_ : w.cell? ⟨b, o, none⟩ = some (.int .u8 K0) := (hSw.cell (p := ⟨b, o, none⟩) hbq).trans cx0
    clear hSw
    go_simp
    try with_reducible rfl
  simp only [List.set_cons_succ, List.set_cons_zero]
  refine takeY 3 56 (v := .int .i64 K0) rfl rfl (by kernel_rfl) (by kernel_rfl) (by kernel_rfl) (fun _ _ _ h => h) (by rfl) (by kernel_rfl) (by kernel_rfl) (by decide) hHeld (fun w hSw => ?_) ?_
  · (try dsimp only at hSw)
    clear hSw
    go_simp
    try with_reducible rfl
  simp only [List.set_cons_succ, List.set_cons_zero]
  refine moveY 4 57 0 rfl rfl rfl (by kernel_rfl) (by kernel_rfl) (by kernel_rfl) (fun _ _ _ h => h) (by rfl) (by kernel_rfl) (by kernel_rfl) (by decide) hHeld rfl ?_
  simp only [List.set_cons_succ, List.set_cons_zero]
  refine takeY 5 58 (v := ?_) rfl rfl (by kernel_rfl) (by kernel_rfl) (by kernel_rfl) (fun _ _ _ h => h) (by rfl) (by kernel_rfl) (by kernel_rfl) (by decide) hHeld (fun w hSw => ?_) ?_
  rotate_left 1
  · (try dsimp only at hSw)
    clear hSw
    go_simp
    try with_reducible rfl
  simp only [List.set_cons_succ, List.set_cons_zero]
  refine takeY 6 59 (v := ?_) rfl rfl (by kernel_rfl) (by kernel_rfl) (by kernel_rfl) (fun _ _ _ h => h) (by rfl) (by kernel_rfl) (by kernel_rfl) (by decide) hHeld (fun w hSw => ?_) ?_
  rotate_left 1
  · (try dsimp only at hSw)
    have e0_ : w.cell? ⟨b, o + 1, none⟩ = some (.int .u8 X1) := (hSw.cell (p := ⟨b, o + 1, none⟩) hbq).trans cx1
    clear hSw
    go_simp
    try with_reducible rfl
  simp only [List.set_cons_succ, List.set_cons_zero]
  refine takeY 7 60 (v := .bool D0) rfl rfl (by kernel_rfl) (by kernel_rfl) (by kernel_rfl) (fun _ _ _ h => h) (by rfl) (by kernel_rfl) (by kernel_rfl) (by decide) hHeld (fun w hSw => ?_) ?_
  · (try dsimp only at hSw)
    clear hSw
    go_simp
    try with_reducible rfl
  simp only [List.set_cons_succ, List.set_cons_zero]
  refine moveY 8 61 6 rfl rfl rfl (by kernel_rfl) (by kernel_rfl) (by kernel_rfl) (fun _ _ _ h => h) (by rfl) (by kernel_rfl) (by kernel_rfl) (by decide) hHeld rfl ?_
  simp only [List.set_cons_succ, List.set_cons_zero]
  refine takeY 9 62 (v := ?_) rfl rfl (by kernel_rfl) (by kernel_rfl) (by kernel_rfl) (fun _ _ _ h => h) (by rfl) (by kernel_rfl) (by kernel_rfl) (by decide) hHeld (fun w hSw => ?_) ?_
  rotate_left 1
  · (try dsimp only at hSw)
    clear hSw
    go_simp
    try with_reducible rfl
  simp only [List.set_cons_succ, List.set_cons_zero]
  refine takeY 10 63 (v := ?_) rfl rfl (by kernel_rfl) (by kernel_rfl) (by kernel_rfl) (fun _ _ _ h => h) (by rfl) (by kernel_rfl) (by kernel_rfl) (by decide) hHeld (fun w hSw => ?_) ?_
  rotate_left 1
  · (try dsimp only at hSw)
    have hx_ := bP.grown hSw
    have e0_ := hx_.c0
    have e1_ := hx_.c1
    clear hx_
    clear hSw
    go_simp
    try with_reducible rfl
  simp only [List.set_cons_succ, List.set_cons_zero]
  refine moveY 11 64 8 rfl rfl rfl (by kernel_rfl) (by kernel_rfl) (by kernel_rfl) (fun _ _ _ h => h) (by rfl) (by kernel_rfl) (by kernel_rfl) (by decide) hHeld rfl ?_
  simp only [List.set_cons_succ, List.set_cons_zero]
  refine takeY 12 65 (v := ?_) rfl rfl (by kernel_rfl) (by kernel_rfl) (by kernel_rfl) (fun _ _ _ h => h) (by rfl) (by kernel_rfl) (by kernel_rfl) (by decide) hHeld (fun w hSw => ?_) ?_
  rotate_left 1
  · (try dsimp only at hSw)
    clear hSw
    go_simp
    try with_reducible rfl
  simp only [List.set_cons_succ, List.set_cons_zero]
  refine moveY 13 66 10 rfl rfl rfl (by kernel_rfl) (by kernel_rfl) (by kernel_rfl) (fun _ _ _ h => h) (by rfl) (by kernel_rfl) (by kernel_rfl) (by decide) hHeld rfl ?_
  simp only [List.set_cons_succ, List.set_cons_zero]
  refine takeY 14 67 (v := ?_) rfl rfl (by kernel_rfl) (by kernel_rfl) (by kernel_rfl) (fun _ _ _ h => h) (by rfl) (by kernel_rfl) (by kernel_rfl) (by decide) hHeld (fun w hSw => ?_) ?_
  rotate_left 1
  · (try dsimp only at hSw)
    clear hSw
    go_simp
    try with_reducible rfl
  simp only [List.set_cons_succ, List.set_cons_zero]
  refine takeY 15 68 (v := ?_) rfl rfl (by kernel_rfl) (by kernel_rfl) (by kernel_rfl) (fun _ _ _ h => h) (by rfl) (by kernel_rfl) (by kernel_rfl) (by decide) hHeld (fun w hSw => ?_) ?_
  rotate_left 1
  · (try dsimp only at hSw)
    clear hSw
    go_simp
    try with_reducible rfl
  simp only [List.set_cons_succ, List.set_cons_zero]
  refine onlyX 16 rfl (by kernel_rfl) (by rfl) (fun K hK => ?_)
  go_wp2_with fail
  refine hK.out _ _ (fun _ => ((Below.refl _ _).alloc (Nat.le_refl _) _).drew) (fun _ => ?_)
  clear hK K hHeld
  refine onlyX 17 rfl (by kernel_rfl) (by rfl) (fun K hK => ?_)
  go_wp2_with fail
  refine hK.out _ _ (fun h => absurd rfl h) (fun _ => ?_)
  clear hK K
  refine doneX (by kernel_rfl) ?_ _
  have bL : LfBx ((wq.alloc (.cells #[.int .i64 K0, .bool D0, .int .i64 (LB : Int), .int .u32 (nv32 E), .int .u32 0, .int .u64 (nv V), .int .u64 (nv P.1), .int .u64 (nv P.2)] 29)).drew) wq.heap.size ⟨K0, D0, (LB : Int), E, 0#32, V, P⟩ := CBox.new _ wq _
  have hbl2 : Below wq.heap.size wq ((wq.alloc (.cells #[.int .i64 K0, .bool D0, .int .i64 (LB : Int), .int .u32 (nv32 E), .int .u32 0, .int .u64 (nv V), .int .u64 (nv P.1), .int .u64 (nv P.2)] 29)).drew) := ((Below.refl _ _).alloc (Nat.le_refl _) _).drew
  have hB5 := hB3.trans (hbl2.mono hB3.size)
  have hA5 := hAq.below hbl2 hbq
  have z0 := bZ.grown hbl2
  have hbl5 := Nat.lt_of_lt_of_le hbq hbl2.size
  have hzne : wq.heap.size ≠ w.heap.size := fun e => by have := CBox.lt bZ; omega
  have hq0 : w.heap.size ≤ wq.heap.size := hB3.size
  have hbq0 : b ≠ wq.heap.size := fun e => by omega
  clear hbl2 cx0 cx1 bP hAq bZ hbq hB3 hB0 hA hbW
  generalize ((wq.alloc (.cells #[.int .i64 K0, .bool D0, .int .i64 (LB : Int), .int .u32 (nv32 E), .int .u32 0, .int .u64 (nv V), .int .u64 (nv P.1), .int .u64 (nv P.2)] 29)).drew) = w5 at *
  generalize wq.heap.size = q at *
  have d0 := bL.c0
  by_cases hk1 : K0 = 1
  · subst hk1
    rw [if_pos rfl] at hL
    have fr4 := CBox.frozen bL 4
    have d4 := bL.c4
    dsimp only at d0 d4
    rw [hn0] at d4
    have bL1 := CBox.put bL 4 (.int .u32 slot)
    have bL2 : LfBx (w5.setCell ⟨q, 4, none⟩ (.int .u32 slot)) q ⟨1, D0, (LB : Int), E, T, V, P⟩ := by
      unfold LfBx
      dsimp only
      rw [hTn]
      exact bL1
    have z1 := CBox.off z0 (F := fun j => j = q) (Off.setCell (F := fun j => j = q) (p := ⟨q, 4, none⟩) (Off.refl _ w5) (Or.inl rfl) (.int .u32 slot)) (fun e => hzne e.symm)
    have hB51 : Below w.heap.size w (w5.setCell ⟨q, 4, none⟩ (.int .u32 slot)) := Below.setCell (p := ⟨q, 4, none⟩) hB5 hq0 (.int .u32 slot)
    have hA51 : At (w5.setCell ⟨q, 4, none⟩ (.int .u32 slot)) b o xs := hA5.setOther (by exact hbq0) _
    have hbl51 : b < (w5.setCell ⟨q, 4, none⟩ (.int .u32 slot)).heap.size := by simpa using hbl5
    clear bL bL1 z0 hB5 hA5 hbl5
    have e0 : (w5.setCell ⟨q, 4, none⟩ (.int .u32 slot)).cell? ⟨q, 0, none⟩ = some (.int .i64 1) := bL2.c0
    have bL := bL2
    have z0 := z1
    have hB5 := hB51
    have hA5 := hA51
    have hbl5 := hbl51
    clear bL2 z1 hB51 hA51 hbl51 e0
    have c0_ := LfBx.c0 bL
    have c1_ := LfBx.c1 bL
    have c2_ := LfBx.c2 bL
    have c3_ := LfBx.c3 bL
    have c4_ := LfBx.c4 bL
    have c5_ := LfBx.c5 bL
    have c6_ := LfBx.c6 bL
    have c7_ := LfBx.c7 bL
    dsimp only at c0_ c1_ c2_ c3_ c4_ c5_ c6_ c7_
    rw [hTn] at c4_
    by_cases ho : lfOk (⟨1, D0, (LB : Int), E, T, V, P⟩ : Lf) slot
    · have hput := rlput_yes (⟨1, D0, (LB : Int), E, T, V, P⟩ : Lf) slot ho
      unfold lfv at hput
      dsimp only at hput
      simp only [hTn] at hput
      go_wp2_with fail
      clear c0_ c1_ c2_ c3_ c4_ c5_ c6_ c7_
      refine (hput _).mono ?_
      clear hput
      rintro e w6 ⟨z, cz, rfl, sz, fz, hb6⟩
      replace bL := CBox.grown bL hb6
      have c0_ := LfBx.c0 bL
      have c1_ := LfBx.c1 bL
      have c2_ := LfBx.c2 bL
      have c3_ := LfBx.c3 bL
      have c4_ := LfBx.c4 bL
      have c5_ := LfBx.c5 bL
      have c6_ := LfBx.c6 bL
      have c7_ := LfBx.c7 bL
      dsimp only at c0_ c1_ c2_ c3_ c4_ c5_ c6_ c7_
      rw [hTn] at c4_
      have z6 := CBox.grown z0 hb6
      have hB6 := hB5.trans (hb6.mono hB5.size)
      have hA6 := hA5.below hb6 hbl5
      have e1 := (sz.sat).conv (c := cz)
      have e2 := hA6.conv (cap := c) hxl
      have hcmp := str_eq (lfL (⟨1, D0, (LB : Int), E, T, V, P⟩ : Lf)) xs (lfL_bytes _) bx
      have hr : lfRes xs slot = (if lfL (⟨1, D0, (LB : Int), E, T, V, P⟩ : Lf) = xs then ((⟨1, D0, (LB : Int), E, T, V, P⟩ : Lf), true) else (lf0, false)) := by
        unfold lfRes lfTaken
        rw [hL]
        by_cases hq : lfL (⟨1, D0, (LB : Int), E, T, V, P⟩ : Lf) = xs
        · rw [if_pos hq, if_pos (decide_eq_true ⟨hxl, ho, hq⟩)]
        · rw [if_neg hq, if_neg (by rw [decide_eq_true_eq]; exact fun e => hq e.2.2)]
      by_cases hq : lfL (⟨1, D0, (LB : Int), E, T, V, P⟩ : Lf) = xs
      · rw [if_pos hq] at hr
        rw [decide_eq_true hq] at hcmp
        have HR := hide' hr
        clear hr hq ho hL z0 hA5 hA6 sz hb6 hB5
        have f0 := CBox.frozen z6 0
        have f1 := CBox.frozen z6 1
        have f2 := CBox.frozen z6 2
        have f3 := CBox.frozen z6 3
        have f4 := CBox.frozen z6 4
        have f5 := CBox.frozen z6 5
        have f6 := CBox.frozen z6 6
        have f7 := CBox.frozen z6 7
        have g0 : w6.cell? ⟨w.heap.size, 0, none⟩ = some (.int .i64 0) := CBox.cell z6 0
        have g1 : w6.cell? ⟨w.heap.size, 1, none⟩ = some (.bool false) := CBox.cell z6 1
        have g2 : w6.cell? ⟨w.heap.size, 2, none⟩ = some (.int .i64 0) := CBox.cell z6 2
        have g3 : w6.cell? ⟨w.heap.size, 3, none⟩ = some (.int .u32 0) := CBox.cell z6 3
        have g4 : w6.cell? ⟨w.heap.size, 4, none⟩ = some (.int .u32 0) := CBox.cell z6 4
        have g5 : w6.cell? ⟨w.heap.size, 5, none⟩ = some (.int .u64 0) := CBox.cell z6 5
        have g6 : w6.cell? ⟨w.heap.size, 6, none⟩ = some (.int .u64 0) := CBox.cell z6 6
        have g7 : w6.cell? ⟨w.heap.size, 7, none⟩ = some (.int .u64 0) := CBox.cell z6 7
        go_wp2
        have bM := (CBox.put (CBox.put (CBox.put (CBox.put (CBox.put (CBox.put (CBox.put (CBox.put z6 0 (.int .i64 1)) 1 (.bool D0)) 2 (.int .i64 (LB : Int))) 3 (.int .u32 (nv32 E))) 4 (.int .u32 slot)) 5 (.int .u64 (nv V))) 6 (.int .u64 (nv P.1))) 7 (.int .u64 (nv P.2)))
        have k0 := CBox.cell bM 0
        have k1 := CBox.cell bM 1
        have k2 := CBox.cell bM 2
        have k3 := CBox.cell bM 3
        have k4 := CBox.cell bM 4
        have k5 := CBox.cell bM 5
        have k6 := CBox.cell bM 6
        have k7 := CBox.cell bM 7
        have hB7 : Below w.heap.size w ((((((((w6.setCell ⟨w.heap.size, 0, none⟩ (.int .i64 1)).setCell ⟨w.heap.size, 1, none⟩ (.bool D0)).setCell ⟨w.heap.size, 2, none⟩ (.int .i64 (LB : Int))).setCell ⟨w.heap.size, 3, none⟩ (.int .u32 (nv32 E))).setCell ⟨w.heap.size, 4, none⟩ (.int .u32 slot)).setCell ⟨w.heap.size, 5, none⟩ (.int .u64 (nv V))).setCell ⟨w.heap.size, 6, none⟩ (.int .u64 (nv P.1))).setCell ⟨w.heap.size, 7, none⟩ (.int .u64 (nv P.2))) := (Below.setCell (p := ⟨w.heap.size, 7, none⟩) (Below.setCell (p := ⟨w.heap.size, 6, none⟩) (Below.setCell (p := ⟨w.heap.size, 5, none⟩) (Below.setCell (p := ⟨w.heap.size, 4, none⟩) (Below.setCell (p := ⟨w.heap.size, 3, none⟩) (Below.setCell (p := ⟨w.heap.size, 2, none⟩) (Below.setCell (p := ⟨w.heap.size, 1, none⟩) (Below.setCell (p := ⟨w.heap.size, 0, none⟩) hB6 (Nat.le_refl _) (.int .i64 1)) (Nat.le_refl _) (.bool D0)) (Nat.le_refl _) (.int .i64 (LB : Int))) (Nat.le_refl _) (.int .u32 (nv32 E))) (Nat.le_refl _) (.int .u32 slot)) (Nat.le_refl _) (.int .u64 (nv V))) (Nat.le_refl _) (.int .u64 (nv P.1))) (Nat.le_refl _) (.int .u64 (nv P.2)))
        exact bodyPost_ret (v := .tuple #[.agg #[.int .i64 1, .bool D0, .int .i64 (LB : Int), .int .u32 (nv32 E), .int .u32 slot, .int .u64 (nv V), .int .u64 (nv P.1), .int .u64 (nv P.2)], .bool true]) (by simp [results, Try.results12, go_sem, k0, k1, k2, k3, k4, k5, k6, k7]) rfl ⟨by rw [HR.out]; first | rfl | simp only [lfv, hTn], hB7⟩
      · rw [if_neg hq] at hr
        rw [decide_eq_false hq] at hcmp
        have HR := hide' hr
        clear hr hq ho hL z0 hA5 hA6 sz hb6 hB5
        have f0 := CBox.frozen z6 0
        have f1 := CBox.frozen z6 1
        have f2 := CBox.frozen z6 2
        have f3 := CBox.frozen z6 3
        have f4 := CBox.frozen z6 4
        have f5 := CBox.frozen z6 5
        have f6 := CBox.frozen z6 6
        have f7 := CBox.frozen z6 7
        have g0 : w6.cell? ⟨w.heap.size, 0, none⟩ = some (.int .i64 0) := CBox.cell z6 0
        have g1 : w6.cell? ⟨w.heap.size, 1, none⟩ = some (.bool false) := CBox.cell z6 1
        have g2 : w6.cell? ⟨w.heap.size, 2, none⟩ = some (.int .i64 0) := CBox.cell z6 2
        have g3 : w6.cell? ⟨w.heap.size, 3, none⟩ = some (.int .u32 0) := CBox.cell z6 3
        have g4 : w6.cell? ⟨w.heap.size, 4, none⟩ = some (.int .u32 0) := CBox.cell z6 4
        have g5 : w6.cell? ⟨w.heap.size, 5, none⟩ = some (.int .u64 0) := CBox.cell z6 5
        have g6 : w6.cell? ⟨w.heap.size, 6, none⟩ = some (.int .u64 0) := CBox.cell z6 6
        have g7 : w6.cell? ⟨w.heap.size, 7, none⟩ = some (.int .u64 0) := CBox.cell z6 7
        go_wp2
        have bM := (CBox.put (CBox.put (CBox.put (CBox.put (CBox.put (CBox.put (CBox.put (CBox.put z6 0 (.int .i64 0)) 1 (.bool false)) 2 (.int .i64 0)) 3 (.int .u32 0)) 4 (.int .u32 0)) 5 (.int .u64 0)) 6 (.int .u64 0)) 7 (.int .u64 0))
        have k0 := CBox.cell bM 0
        have k1 := CBox.cell bM 1
        have k2 := CBox.cell bM 2
        have k3 := CBox.cell bM 3
        have k4 := CBox.cell bM 4
        have k5 := CBox.cell bM 5
        have k6 := CBox.cell bM 6
        have k7 := CBox.cell bM 7
        have hB7 : Below w.heap.size w ((((((((w6.setCell ⟨w.heap.size, 0, none⟩ (.int .i64 0)).setCell ⟨w.heap.size, 1, none⟩ (.bool false)).setCell ⟨w.heap.size, 2, none⟩ (.int .i64 0)).setCell ⟨w.heap.size, 3, none⟩ (.int .u32 0)).setCell ⟨w.heap.size, 4, none⟩ (.int .u32 0)).setCell ⟨w.heap.size, 5, none⟩ (.int .u64 0)).setCell ⟨w.heap.size, 6, none⟩ (.int .u64 0)).setCell ⟨w.heap.size, 7, none⟩ (.int .u64 0)) := (Below.setCell (p := ⟨w.heap.size, 7, none⟩) (Below.setCell (p := ⟨w.heap.size, 6, none⟩) (Below.setCell (p := ⟨w.heap.size, 5, none⟩) (Below.setCell (p := ⟨w.heap.size, 4, none⟩) (Below.setCell (p := ⟨w.heap.size, 3, none⟩) (Below.setCell (p := ⟨w.heap.size, 2, none⟩) (Below.setCell (p := ⟨w.heap.size, 1, none⟩) (Below.setCell (p := ⟨w.heap.size, 0, none⟩) hB6 (Nat.le_refl _) (.int .i64 0)) (Nat.le_refl _) (.bool false)) (Nat.le_refl _) (.int .i64 0)) (Nat.le_refl _) (.int .u32 0)) (Nat.le_refl _) (.int .u32 0)) (Nat.le_refl _) (.int .u64 0)) (Nat.le_refl _) (.int .u64 0)) (Nat.le_refl _) (.int .u64 0))
        exact bodyPost_ret (v := .tuple #[.agg #[.int .i64 0, .bool false, .int .i64 0, .int .u32 0, .int .u32 0, .int .u64 0, .int .u64 0, .int .u64 0], .bool false]) (by simp [results, Try.results12, go_sem, k0, k1, k2, k3, k4, k5, k6, k7]) rfl ⟨by rw [HR.out]; first | rfl | simp only [lfv, hTn], hB7⟩
    · have hput := rlput_no (⟨1, D0, (LB : Int), E, T, V, P⟩ : Lf) slot ho
      unfold lfv at hput
      dsimp only at hput
      simp only [hTn] at hput
      go_wp2_with fail
      clear c0_ c1_ c2_ c3_ c4_ c5_ c6_ c7_
      refine (hput _).mono ?_
      clear hput
      rintro e w6 ⟨z, cz, rfl, fz, hb6⟩
      have z6 := CBox.grown z0 hb6
      have hB6 := hB5.trans (hb6.mono hB5.size)
      have HR : Hid (lfRes xs slot = (lf0, false)) := hide' (by
        unfold lfRes lfTaken
        rw [hL, if_neg]
        rw [decide_eq_true_eq]
        exact fun e => ho e.2.1)
      clear ho hL z0 hA5 hb6 hB5
      have f0 := CBox.frozen z6 0
      have f1 := CBox.frozen z6 1
      have f2 := CBox.frozen z6 2
      have f3 := CBox.frozen z6 3
      have f4 := CBox.frozen z6 4
      have f5 := CBox.frozen z6 5
      have f6 := CBox.frozen z6 6
      have f7 := CBox.frozen z6 7
      have g0 : w6.cell? ⟨w.heap.size, 0, none⟩ = some (.int .i64 0) := CBox.cell z6 0
      have g1 : w6.cell? ⟨w.heap.size, 1, none⟩ = some (.bool false) := CBox.cell z6 1
      have g2 : w6.cell? ⟨w.heap.size, 2, none⟩ = some (.int .i64 0) := CBox.cell z6 2
      have g3 : w6.cell? ⟨w.heap.size, 3, none⟩ = some (.int .u32 0) := CBox.cell z6 3
      have g4 : w6.cell? ⟨w.heap.size, 4, none⟩ = some (.int .u32 0) := CBox.cell z6 4
      have g5 : w6.cell? ⟨w.heap.size, 5, none⟩ = some (.int .u64 0) := CBox.cell z6 5
      have g6 : w6.cell? ⟨w.heap.size, 6, none⟩ = some (.int .u64 0) := CBox.cell z6 6
      have g7 : w6.cell? ⟨w.heap.size, 7, none⟩ = some (.int .u64 0) := CBox.cell z6 7
      go_wp2
      have bM := (CBox.put (CBox.put (CBox.put (CBox.put (CBox.put (CBox.put (CBox.put (CBox.put z6 0 (.int .i64 0)) 1 (.bool false)) 2 (.int .i64 0)) 3 (.int .u32 0)) 4 (.int .u32 0)) 5 (.int .u64 0)) 6 (.int .u64 0)) 7 (.int .u64 0))
      have k0 := CBox.cell bM 0
      have k1 := CBox.cell bM 1
      have k2 := CBox.cell bM 2
      have k3 := CBox.cell bM 3
      have k4 := CBox.cell bM 4
      have k5 := CBox.cell bM 5
      have k6 := CBox.cell bM 6
      have k7 := CBox.cell bM 7
      have hB7 : Below w.heap.size w ((((((((w6.setCell ⟨w.heap.size, 0, none⟩ (.int .i64 0)).setCell ⟨w.heap.size, 1, none⟩ (.bool false)).setCell ⟨w.heap.size, 2, none⟩ (.int .i64 0)).setCell ⟨w.heap.size, 3, none⟩ (.int .u32 0)).setCell ⟨w.heap.size, 4, none⟩ (.int .u32 0)).setCell ⟨w.heap.size, 5, none⟩ (.int .u64 0)).setCell ⟨w.heap.size, 6, none⟩ (.int .u64 0)).setCell ⟨w.heap.size, 7, none⟩ (.int .u64 0)) := (Below.setCell (p := ⟨w.heap.size, 7, none⟩) (Below.setCell (p := ⟨w.heap.size, 6, none⟩) (Below.setCell (p := ⟨w.heap.size, 5, none⟩) (Below.setCell (p := ⟨w.heap.size, 4, none⟩) (Below.setCell (p := ⟨w.heap.size, 3, none⟩) (Below.setCell (p := ⟨w.heap.size, 2, none⟩) (Below.setCell (p := ⟨w.heap.size, 1, none⟩) (Below.setCell (p := ⟨w.heap.size, 0, none⟩) hB6 (Nat.le_refl _) (.int .i64 0)) (Nat.le_refl _) (.bool false)) (Nat.le_refl _) (.int .i64 0)) (Nat.le_refl _) (.int .u32 0)) (Nat.le_refl _) (.int .u32 0)) (Nat.le_refl _) (.int .u64 0)) (Nat.le_refl _) (.int .u64 0)) (Nat.le_refl _) (.int .u64 0))
      exact bodyPost_ret (v := .tuple #[.agg #[.int .i64 0, .bool false, .int .i64 0, .int .u32 0, .int .u32 0, .int .u64 0, .int .u64 0, .int .u64 0], .bool false]) (by simp [results, Try.results12, go_sem, k0, k1, k2, k3, k4, k5, k6, k7]) rfl ⟨by rw [HR.out]; first | rfl | simp only [lfv, hTn], hB7⟩
  · rw [if_neg hk1] at hL
    have c0_ := LfBx.c0 bL
    have c1_ := LfBx.c1 bL
    have c2_ := LfBx.c2 bL
    have c3_ := LfBx.c3 bL
    have c4_ := LfBx.c4 bL
    have c5_ := LfBx.c5 bL
    have c6_ := LfBx.c6 bL
    have c7_ := LfBx.c7 bL
    dsimp only at c0_ c1_ c2_ c3_ c4_ c5_ c6_ c7_
    rw [hn0] at c4_
    by_cases ho : lfOk (⟨K0, D0, (LB : Int), E, 0#32, V, P⟩ : Lf) slot
    · have hput := rlput_yes (⟨K0, D0, (LB : Int), E, 0#32, V, P⟩ : Lf) slot ho
      unfold lfv at hput
      dsimp only at hput
      simp only [hn0] at hput
      go_wp2_with fail
      clear c0_ c1_ c2_ c3_ c4_ c5_ c6_ c7_
      refine (hput _).mono ?_
      clear hput
      rintro e w6 ⟨z, cz, rfl, sz, fz, hb6⟩
      replace bL := CBox.grown bL hb6
      have c0_ := LfBx.c0 bL
      have c1_ := LfBx.c1 bL
      have c2_ := LfBx.c2 bL
      have c3_ := LfBx.c3 bL
      have c4_ := LfBx.c4 bL
      have c5_ := LfBx.c5 bL
      have c6_ := LfBx.c6 bL
      have c7_ := LfBx.c7 bL
      dsimp only at c0_ c1_ c2_ c3_ c4_ c5_ c6_ c7_
      rw [hn0] at c4_
      have z6 := CBox.grown z0 hb6
      have hB6 := hB5.trans (hb6.mono hB5.size)
      have hA6 := hA5.below hb6 hbl5
      have e1 := (sz.sat).conv (c := cz)
      have e2 := hA6.conv (cap := c) hxl
      have hcmp := str_eq (lfL (⟨K0, D0, (LB : Int), E, 0#32, V, P⟩ : Lf)) xs (lfL_bytes _) bx
      have hr : lfRes xs slot = (if lfL (⟨K0, D0, (LB : Int), E, 0#32, V, P⟩ : Lf) = xs then ((⟨K0, D0, (LB : Int), E, 0#32, V, P⟩ : Lf), true) else (lf0, false)) := by
        unfold lfRes lfTaken
        rw [hL]
        by_cases hq : lfL (⟨K0, D0, (LB : Int), E, 0#32, V, P⟩ : Lf) = xs
        · rw [if_pos hq, if_pos (decide_eq_true ⟨hxl, ho, hq⟩)]
        · rw [if_neg hq, if_neg (by rw [decide_eq_true_eq]; exact fun e => hq e.2.2)]
      by_cases hq : lfL (⟨K0, D0, (LB : Int), E, 0#32, V, P⟩ : Lf) = xs
      · rw [if_pos hq] at hr
        rw [decide_eq_true hq] at hcmp
        have HR := hide' hr
        clear hr hq ho hL z0 hA5 hA6 sz hb6 hB5
        have f0 := CBox.frozen z6 0
        have f1 := CBox.frozen z6 1
        have f2 := CBox.frozen z6 2
        have f3 := CBox.frozen z6 3
        have f4 := CBox.frozen z6 4
        have f5 := CBox.frozen z6 5
        have f6 := CBox.frozen z6 6
        have f7 := CBox.frozen z6 7
        have g0 : w6.cell? ⟨w.heap.size, 0, none⟩ = some (.int .i64 0) := CBox.cell z6 0
        have g1 : w6.cell? ⟨w.heap.size, 1, none⟩ = some (.bool false) := CBox.cell z6 1
        have g2 : w6.cell? ⟨w.heap.size, 2, none⟩ = some (.int .i64 0) := CBox.cell z6 2
        have g3 : w6.cell? ⟨w.heap.size, 3, none⟩ = some (.int .u32 0) := CBox.cell z6 3
        have g4 : w6.cell? ⟨w.heap.size, 4, none⟩ = some (.int .u32 0) := CBox.cell z6 4
        have g5 : w6.cell? ⟨w.heap.size, 5, none⟩ = some (.int .u64 0) := CBox.cell z6 5
        have g6 : w6.cell? ⟨w.heap.size, 6, none⟩ = some (.int .u64 0) := CBox.cell z6 6
        have g7 : w6.cell? ⟨w.heap.size, 7, none⟩ = some (.int .u64 0) := CBox.cell z6 7
        go_wp2
        have bM := (CBox.put (CBox.put (CBox.put (CBox.put (CBox.put (CBox.put (CBox.put (CBox.put z6 0 (.int .i64 K0)) 1 (.bool D0)) 2 (.int .i64 (LB : Int))) 3 (.int .u32 (nv32 E))) 4 (.int .u32 0)) 5 (.int .u64 (nv V))) 6 (.int .u64 (nv P.1))) 7 (.int .u64 (nv P.2)))
        have k0 := CBox.cell bM 0
        have k1 := CBox.cell bM 1
        have k2 := CBox.cell bM 2
        have k3 := CBox.cell bM 3
        have k4 := CBox.cell bM 4
        have k5 := CBox.cell bM 5
        have k6 := CBox.cell bM 6
        have k7 := CBox.cell bM 7
        have hB7 : Below w.heap.size w ((((((((w6.setCell ⟨w.heap.size, 0, none⟩ (.int .i64 K0)).setCell ⟨w.heap.size, 1, none⟩ (.bool D0)).setCell ⟨w.heap.size, 2, none⟩ (.int .i64 (LB : Int))).setCell ⟨w.heap.size, 3, none⟩ (.int .u32 (nv32 E))).setCell ⟨w.heap.size, 4, none⟩ (.int .u32 0)).setCell ⟨w.heap.size, 5, none⟩ (.int .u64 (nv V))).setCell ⟨w.heap.size, 6, none⟩ (.int .u64 (nv P.1))).setCell ⟨w.heap.size, 7, none⟩ (.int .u64 (nv P.2))) := (Below.setCell (p := ⟨w.heap.size, 7, none⟩) (Below.setCell (p := ⟨w.heap.size, 6, none⟩) (Below.setCell (p := ⟨w.heap.size, 5, none⟩) (Below.setCell (p := ⟨w.heap.size, 4, none⟩) (Below.setCell (p := ⟨w.heap.size, 3, none⟩) (Below.setCell (p := ⟨w.heap.size, 2, none⟩) (Below.setCell (p := ⟨w.heap.size, 1, none⟩) (Below.setCell (p := ⟨w.heap.size, 0, none⟩) hB6 (Nat.le_refl _) (.int .i64 K0)) (Nat.le_refl _) (.bool D0)) (Nat.le_refl _) (.int .i64 (LB : Int))) (Nat.le_refl _) (.int .u32 (nv32 E))) (Nat.le_refl _) (.int .u32 0)) (Nat.le_refl _) (.int .u64 (nv V))) (Nat.le_refl _) (.int .u64 (nv P.1))) (Nat.le_refl _) (.int .u64 (nv P.2)))
        exact bodyPost_ret (v := .tuple #[.agg #[.int .i64 K0, .bool D0, .int .i64 (LB : Int), .int .u32 (nv32 E), .int .u32 0, .int .u64 (nv V), .int .u64 (nv P.1), .int .u64 (nv P.2)], .bool true]) (by simp [results, Try.results12, go_sem, k0, k1, k2, k3, k4, k5, k6, k7]) rfl ⟨by rw [HR.out]; first | rfl | simp only [lfv, hTn], hB7⟩
      · rw [if_neg hq] at hr
        rw [decide_eq_false hq] at hcmp
        have HR := hide' hr
        clear hr hq ho hL z0 hA5 hA6 sz hb6 hB5
        have f0 := CBox.frozen z6 0
        have f1 := CBox.frozen z6 1
        have f2 := CBox.frozen z6 2
        have f3 := CBox.frozen z6 3
        have f4 := CBox.frozen z6 4
        have f5 := CBox.frozen z6 5
        have f6 := CBox.frozen z6 6
        have f7 := CBox.frozen z6 7
        have g0 : w6.cell? ⟨w.heap.size, 0, none⟩ = some (.int .i64 0) := CBox.cell z6 0
        have g1 : w6.cell? ⟨w.heap.size, 1, none⟩ = some (.bool false) := CBox.cell z6 1
        have g2 : w6.cell? ⟨w.heap.size, 2, none⟩ = some (.int .i64 0) := CBox.cell z6 2
        have g3 : w6.cell? ⟨w.heap.size, 3, none⟩ = some (.int .u32 0) := CBox.cell z6 3
        have g4 : w6.cell? ⟨w.heap.size, 4, none⟩ = some (.int .u32 0) := CBox.cell z6 4
        have g5 : w6.cell? ⟨w.heap.size, 5, none⟩ = some (.int .u64 0) := CBox.cell z6 5
        have g6 : w6.cell? ⟨w.heap.size, 6, none⟩ = some (.int .u64 0) := CBox.cell z6 6
        have g7 : w6.cell? ⟨w.heap.size, 7, none⟩ = some (.int .u64 0) := CBox.cell z6 7
        go_wp2
        have bM := (CBox.put (CBox.put (CBox.put (CBox.put (CBox.put (CBox.put (CBox.put (CBox.put z6 0 (.int .i64 0)) 1 (.bool false)) 2 (.int .i64 0)) 3 (.int .u32 0)) 4 (.int .u32 0)) 5 (.int .u64 0)) 6 (.int .u64 0)) 7 (.int .u64 0))
        have k0 := CBox.cell bM 0
        have k1 := CBox.cell bM 1
        have k2 := CBox.cell bM 2
        have k3 := CBox.cell bM 3
        have k4 := CBox.cell bM 4
        have k5 := CBox.cell bM 5
        have k6 := CBox.cell bM 6
        have k7 := CBox.cell bM 7
        have hB7 : Below w.heap.size w ((((((((w6.setCell ⟨w.heap.size, 0, none⟩ (.int .i64 0)).setCell ⟨w.heap.size, 1, none⟩ (.bool false)).setCell ⟨w.heap.size, 2, none⟩ (.int .i64 0)).setCell ⟨w.heap.size, 3, none⟩ (.int .u32 0)).setCell ⟨w.heap.size, 4, none⟩ (.int .u32 0)).setCell ⟨w.heap.size, 5, none⟩ (.int .u64 0)).setCell ⟨w.heap.size, 6, none⟩ (.int .u64 0)).setCell ⟨w.heap.size, 7, none⟩ (.int .u64 0)) := (Below.setCell (p := ⟨w.heap.size, 7, none⟩) (Below.setCell (p := ⟨w.heap.size, 6, none⟩) (Below.setCell (p := ⟨w.heap.size, 5, none⟩) (Below.setCell (p := ⟨w.heap.size, 4, none⟩) (Below.setCell (p := ⟨w.heap.size, 3, none⟩) (Below.setCell (p := ⟨w.heap.size, 2, none⟩) (Below.setCell (p := ⟨w.heap.size, 1, none⟩) (Below.setCell (p := ⟨w.heap.size, 0, none⟩) hB6 (Nat.le_refl _) (.int .i64 0)) (Nat.le_refl _) (.bool false)) (Nat.le_refl _) (.int .i64 0)) (Nat.le_refl _) (.int .u32 0)) (Nat.le_refl _) (.int .u32 0)) (Nat.le_refl _) (.int .u64 0)) (Nat.le_refl _) (.int .u64 0)) (Nat.le_refl _) (.int .u64 0))
        exact bodyPost_ret (v := .tuple #[.agg #[.int .i64 0, .bool false, .int .i64 0, .int .u32 0, .int .u32 0, .int .u64 0, .int .u64 0, .int .u64 0], .bool false]) (by simp [results, Try.results12, go_sem, k0, k1, k2, k3, k4, k5, k6, k7]) rfl ⟨by rw [HR.out]; first | rfl | simp only [lfv, hTn], hB7⟩
    · have hput := rlput_no (⟨K0, D0, (LB : Int), E, 0#32, V, P⟩ : Lf) slot ho
      unfold lfv at hput
      dsimp only at hput
      simp only [hn0] at hput
      go_wp2_with fail
      clear c0_ c1_ c2_ c3_ c4_ c5_ c6_ c7_
      refine (hput _).mono ?_
      clear hput
      rintro e w6 ⟨z, cz, rfl, fz, hb6⟩
      have z6 := CBox.grown z0 hb6
      have hB6 := hB5.trans (hb6.mono hB5.size)
      have HR : Hid (lfRes xs slot = (lf0, false)) := hide' (by
        unfold lfRes lfTaken
        rw [hL, if_neg]
        rw [decide_eq_true_eq]
        exact fun e => ho e.2.1)
      clear ho hL z0 hA5 hb6 hB5
      have f0 := CBox.frozen z6 0
      have f1 := CBox.frozen z6 1
      have f2 := CBox.frozen z6 2
      have f3 := CBox.frozen z6 3
      have f4 := CBox.frozen z6 4
      have f5 := CBox.frozen z6 5
      have f6 := CBox.frozen z6 6
      have f7 := CBox.frozen z6 7
      have g0 : w6.cell? ⟨w.heap.size, 0, none⟩ = some (.int .i64 0) := CBox.cell z6 0
      have g1 : w6.cell? ⟨w.heap.size, 1, none⟩ = some (.bool false) := CBox.cell z6 1
      have g2 : w6.cell? ⟨w.heap.size, 2, none⟩ = some (.int .i64 0) := CBox.cell z6 2
      have g3 : w6.cell? ⟨w.heap.size, 3, none⟩ = some (.int .u32 0) := CBox.cell z6 3
      have g4 : w6.cell? ⟨w.heap.size, 4, none⟩ = some (.int .u32 0) := CBox.cell z6 4
      have g5 : w6.cell? ⟨w.heap.size, 5, none⟩ = some (.int .u64 0) := CBox.cell z6 5
      have g6 : w6.cell? ⟨w.heap.size, 6, none⟩ = some (.int .u64 0) := CBox.cell z6 6
      have g7 : w6.cell? ⟨w.heap.size, 7, none⟩ = some (.int .u64 0) := CBox.cell z6 7
      go_wp2
      have bM := (CBox.put (CBox.put (CBox.put (CBox.put (CBox.put (CBox.put (CBox.put (CBox.put z6 0 (.int .i64 0)) 1 (.bool false)) 2 (.int .i64 0)) 3 (.int .u32 0)) 4 (.int .u32 0)) 5 (.int .u64 0)) 6 (.int .u64 0)) 7 (.int .u64 0))
      have k0 := CBox.cell bM 0
      have k1 := CBox.cell bM 1
      have k2 := CBox.cell bM 2
      have k3 := CBox.cell bM 3
      have k4 := CBox.cell bM 4
      have k5 := CBox.cell bM 5
      have k6 := CBox.cell bM 6
      have k7 := CBox.cell bM 7
      have hB7 : Below w.heap.size w ((((((((w6.setCell ⟨w.heap.size, 0, none⟩ (.int .i64 0)).setCell ⟨w.heap.size, 1, none⟩ (.bool false)).setCell ⟨w.heap.size, 2, none⟩ (.int .i64 0)).setCell ⟨w.heap.size, 3, none⟩ (.int .u32 0)).setCell ⟨w.heap.size, 4, none⟩ (.int .u32 0)).setCell ⟨w.heap.size, 5, none⟩ (.int .u64 0)).setCell ⟨w.heap.size, 6, none⟩ (.int .u64 0)).setCell ⟨w.heap.size, 7, none⟩ (.int .u64 0)) := (Below.setCell (p := ⟨w.heap.size, 7, none⟩) (Below.setCell (p := ⟨w.heap.size, 6, none⟩) (Below.setCell (p := ⟨w.heap.size, 5, none⟩) (Below.setCell (p := ⟨w.heap.size, 4, none⟩) (Below.setCell (p := ⟨w.heap.size, 3, none⟩) (Below.setCell (p := ⟨w.heap.size, 2, none⟩) (Below.setCell (p := ⟨w.heap.size, 1, none⟩) (Below.setCell (p := ⟨w.heap.size, 0, none⟩) hB6 (Nat.le_refl _) (.int .i64 0)) (Nat.le_refl _) (.bool false)) (Nat.le_refl _) (.int .i64 0)) (Nat.le_refl _) (.int .u32 0)) (Nat.le_refl _) (.int .u32 0)) (Nat.le_refl _) (.int .u64 0)) (Nat.le_refl _) (.int .u64 0)) (Nat.le_refl _) (.int .u64 0))
      exact bodyPost_ret (v := .tuple #[.agg #[.int .i64 0, .bool false, .int .i64 0, .int .u32 0, .int .u32 0, .int .u64 0, .int .u64 0, .int .u64 0], .bool false]) (by simp [results, Try.results12, go_sem, k0, k1, k2, k3, k4, k5, k6, k7]) rfl ⟨by rw [HR.out]; first | rfl | simp only [lfv, hTn], hB7⟩
end Go.Proofs.Ytnfddebcnkdajaa
