/- The document's roots: Get. -/
import Derived.Test.YtnimhlkoikjomaaRefRt
namespace Go.Proofs.Ytnimhlkoikjomaa
open Go.RowKit
set_option maxRecDepth 20000

set_option maxHeartbeats 4000000 in
theorem rrget : RtGetIn 11 := by
  intro x n c xs fx bx w sx
  have bZ0 := CBox.new 27 w #[.int .u64 0, .int .u32 0, .int .i64 0, .int .u64 0, .int .u64 0]
  have hB0 : Below w.heap.size w (w.alloc (.cells #[.int .u64 0, .int .u32 0, .int .i64 0, .int .u64 0, .int .u64 0] 27)) := (Below.refl _ _).alloc (Nat.le_refl _) _
  have hz : rtv rt0 = .agg #[.int .u64 0, .int .u32 0, .int .i64 0, .int .u64 0, .int .u64 0] := rfl
  have hxl := sx.1
  by_cases hn : n = 32
  case neg =>
    rw [rtRes_no xs (by omega), hz]
    have hn' : ¬ (n : Int) = 32 := by omega
    clear sx bx
    go_enter Try.func11, Try.ntmps11
    go_wp2
    exact bodyPost_ret (v := .tuple #[.agg #[.int .u64 0, .int .u32 0, .int .i64 0, .int .u64 0, .int .u64 0], .bool false]) (by simp [results, Try.results11, go_sem]) rfl ⟨rfl, hB0⟩
  subst hn
  obtain ⟨b, o, rfl, hbl, hat⟩ := sx.2 (by decide)
  have HF := hide' fx
  have c0 : (8 : Int) ≤ c := by have := fx.1; omega
  have c1 : (8 : Int) ≤ 12 := by decide
  have c2 : (12 : Int) ≤ c := by have := fx.1; omega
  have c3 : (16 : Int) ≤ c := by have := fx.1; omega
  have n1 : ¬ c = 8 := by have := fx.1; omega
  have n2 : ¬ c = 12 := by have := fx.1; omega
  have n3 : ¬ c = 16 := by have := fx.1; omega
  clear fx
  have hA := hat.alloc hbl (.cells #[.int .u64 0, .int .u32 0, .int .i64 0, .int .u64 0, .int .u64 0] 27)
  obtain ⟨V, hV⟩ : ∃ e : BitVec 64, BitVec.ofInt 64 (num (xs.take 8)) = e := ⟨_, rfl⟩
  have hVn : num (xs.take 8) = nv V := by
    have := num_lt _ (bx.take 8) (by rw [List.length_take]; omega)
    rw [← hV, nv_of _ this.1 this.2]
  obtain ⟨E, hE⟩ : ∃ e : BitVec 32, BitVec.ofInt 32 (num ((xs.drop 8).take 4)) = e := ⟨_, rfl⟩
  have hEn : num ((xs.drop 8).take 4) = nv32 E := by
    have := num_lt4 ((bx.drop 8).take 4) (by rw [List.length_take, List.length_drop, hxl]; rfl)
    rw [← hE, nv32_of _ this.1 this.2]
  have hew : IntKind.u32.wrap (nv32 E) = nv32 E := by
    have := nv32_range E
    rw [IntKind.wrap_u32]
    omega
  obtain ⟨LB, hLB⟩ : ∃ m : Nat, num ((xs.drop 12).take 4) = (m : Int) := ⟨(num ((xs.drop 12).take 4)).toNat, by have := num_range _ ((bx.drop 12).take 4); omega⟩
  have hlw : IntKind.i64.wrap (LB : Int) = LB := by
    have := num_lt4 ((bx.drop 12).take 4) (by rw [List.length_take, List.length_drop, hxl]; rfl)
    rw [hLB] at this
    rw [IntKind.wrap_i64]
    omega
  obtain ⟨P, hP⟩ : ∃ p, pairOf (xs.drop 16) = p := ⟨_, rfl⟩
  have hL : rtGet xs = ⟨V, E, (LB : Int), P⟩ := by
    unfold rtGet
    rw [hV, hE, hLB, hP]
  have G1 := fun w ha => rget_some b o c 8 (xs.take 8) w (by rw [List.length_take, hxl]; rfl) (by decide) (by decide) (bx.take 8) ha
  have G2 := fun w ha => rget_some b (o + 8) (c - 8) 4 ((xs.drop 8).take 4) w (by rw [List.length_take, List.length_drop, hxl]; rfl) (by decide) (by decide) ((bx.drop 8).take 4) ha
  have G3 := fun w ha => rget_some b (o + 12) (c - 12) 4 ((xs.drop 12).take 4) w (by rw [List.length_take, List.length_drop, hxl]; rfl) (by decide) (by decide) ((bx.drop 12).take 4) ha
  have G4 := fun w hb ha => rpair b (o + 16) (c - 16) (xs.drop 16) w (by rw [List.length_drop, hxl]) (by have := HF.out.1; omega) (by have := HF.out.2.1; omega) (bx.drop 16) hb ha
  rw [hVn] at G1
  rw [hEn] at G2
  rw [hLB] at G3
  rw [hP] at G4
  have HR : Hid (rtRes xs = if rtOk ⟨V, E, (LB : Int), P⟩ then (⟨V, E, (LB : Int), P⟩, true) else (rt0, false)) := hide' (by
    unfold rtRes
    rw [hL]
    by_cases hk : rtOk ⟨V, E, (LB : Int), P⟩
    · rw [if_pos ⟨hxl, hk⟩, if_pos hk]
    · rw [if_neg (fun e => hk e.2), if_neg hk])
  go_enter Try.func11, Try.ntmps11
  go_wp2_with fail
  generalize (w.alloc (.cells #[.int .u64 0, .int .u32 0, .int .i64 0, .int .u64 0, .int .u64 0] 27)) = W at *
  refine (G1 _ (hA.cut1' 8)).mono ?_
  rintro e w1 ⟨rfl, rfl⟩
  go_wp2_with fail
  refine (G2 _ ((hA.cut2 8).cut1' 4)).mono ?_
  rintro e w1 ⟨rfl, rfl⟩
  go_wp2_with fail
  refine (G3 _ ((hA.cut2 12).cut1' 4)).mono ?_
  rintro e w1 ⟨rfl, rfl⟩
  have hbW : b < w1.heap.size := Nat.lt_of_lt_of_le hbl hB0.size
  go_wp2_with fail
  refine (G4 _ hbW (hA.cut2 16)).mono ?_
  rintro e w2 ⟨rfl, hb2⟩
  clear G1 G2 G3 G4
  have bP := Box.new w2 (nv P.1) (nv P.2)
  have hb3 : Below w2.heap.size w2 (w2.alloc (.cells #[.int .u64 (nv P.1), .int .u64 (nv P.2)] 25)) := (Below.refl _ _).alloc (Nat.le_refl _) _
  have p0 := bP.c0
  have p1 := bP.c1
  have hb4 : Below (w2.alloc (.cells #[.int .u64 (nv P.1), .int .u64 (nv P.2)] 25)).heap.size (w2.alloc (.cells #[.int .u64 (nv P.1), .int .u64 (nv P.2)] 25)) ((w2.alloc (.cells #[.int .u64 (nv P.1), .int .u64 (nv P.2)] 25)).alloc (.cells #[.int .u64 (nv V), .int .u32 (nv32 E), .int .i64 (LB : Int), .int .u64 (nv P.1), .int .u64 (nv P.2)] 27)) := (Below.refl _ _).alloc (Nat.le_refl _) _
  have bR := CBox.new 27 (w2.alloc (.cells #[.int .u64 (nv P.1), .int .u64 (nv P.2)] 25)) #[.int .u64 (nv V), .int .u32 (nv32 E), .int .i64 (LB : Int), .int .u64 (nv P.1), .int .u64 (nv P.2)]
  have hB2 := hB0.trans (hb2.mono hB0.size)
  have hB3 := hB2.trans (hb3.mono hB2.size)
  have hB4 := hB3.trans (hb4.mono hB3.size)
  have bZ := ((bZ0.grown hb2).grown hb3).grown hb4
  clear bZ0 bP
  have hsz : w2.heap.size + 1 = (w2.alloc (.cells #[.int .u64 (nv P.1), .int .u64 (nv P.2)] 25)).heap.size := (World.size_alloc _ _).symm
  rw [← hsz] at bR
  clear hsz
  have r0 : ((w2.alloc (.cells #[.int .u64 (nv P.1), .int .u64 (nv P.2)] 25)).alloc (.cells #[.int .u64 (nv V), .int .u32 (nv32 E), .int .i64 (LB : Int), .int .u64 (nv P.1), .int .u64 (nv P.2)] 27)).cell? ⟨w2.heap.size + 1, 0, none⟩ = some (.int .u64 (nv V)) := CBox.cell bR 0
  have r1 : ((w2.alloc (.cells #[.int .u64 (nv P.1), .int .u64 (nv P.2)] 25)).alloc (.cells #[.int .u64 (nv V), .int .u32 (nv32 E), .int .i64 (LB : Int), .int .u64 (nv P.1), .int .u64 (nv P.2)] 27)).cell? ⟨w2.heap.size + 1, 1, none⟩ = some (.int .u32 (nv32 E)) := CBox.cell bR 1
  have r2 : ((w2.alloc (.cells #[.int .u64 (nv P.1), .int .u64 (nv P.2)] 25)).alloc (.cells #[.int .u64 (nv V), .int .u32 (nv32 E), .int .i64 (LB : Int), .int .u64 (nv P.1), .int .u64 (nv P.2)] 27)).cell? ⟨w2.heap.size + 1, 2, none⟩ = some (.int .i64 (LB : Int)) := CBox.cell bR 2
  have r3 : ((w2.alloc (.cells #[.int .u64 (nv P.1), .int .u64 (nv P.2)] 25)).alloc (.cells #[.int .u64 (nv V), .int .u32 (nv32 E), .int .i64 (LB : Int), .int .u64 (nv P.1), .int .u64 (nv P.2)] 27)).cell? ⟨w2.heap.size + 1, 3, none⟩ = some (.int .u64 (nv P.1)) := CBox.cell bR 3
  have r4 : ((w2.alloc (.cells #[.int .u64 (nv P.1), .int .u64 (nv P.2)] 25)).alloc (.cells #[.int .u64 (nv V), .int .u32 (nv32 E), .int .i64 (LB : Int), .int .u64 (nv P.1), .int .u64 (nv P.2)] 27)).cell? ⟨w2.heap.size + 1, 4, none⟩ = some (.int .u64 (nv P.2)) := CBox.cell bR 4
  by_cases hk : rtOk ⟨V, E, (LB : Int), P⟩
  · have pp := rrput_yes ⟨V, E, (LB : Int), P⟩ hk
    unfold rtv at pp
    dsimp only at pp
    go_wp2_with fail
    generalize ((w2.alloc (.cells #[.int .u64 (nv P.1), .int .u64 (nv P.2)] 25)).alloc (.cells #[.int .u64 (nv V), .int .u32 (nv32 E), .int .i64 (LB : Int), .int .u64 (nv P.1), .int .u64 (nv P.2)] 27)) = w4 at *
    refine (pp w4).mono ?_
    clear r0 r1 r2 r3 r4 p0 p1 pp
    rintro e w5 ⟨z5, c5, rfl, -, -, hb6⟩
    have bR5 := bR.grown hb6
    have bZ5 := bZ.grown hb6
    have hB5 := hB4.trans (hb6.mono hB4.size)
    have r0 : w5.cell? ⟨w2.heap.size + 1, 0, none⟩ = some (.int .u64 (nv V)) := CBox.cell bR5 0
    have r1 : w5.cell? ⟨w2.heap.size + 1, 1, none⟩ = some (.int .u32 (nv32 E)) := CBox.cell bR5 1
    have r2 : w5.cell? ⟨w2.heap.size + 1, 2, none⟩ = some (.int .i64 (LB : Int)) := CBox.cell bR5 2
    have r3 : w5.cell? ⟨w2.heap.size + 1, 3, none⟩ = some (.int .u64 (nv P.1)) := CBox.cell bR5 3
    have r4 : w5.cell? ⟨w2.heap.size + 1, 4, none⟩ = some (.int .u64 (nv P.2)) := CBox.cell bR5 4
    have hz5 : w.heap.size ≤ w5.heap.size := hB5.size
    have f0 := CBox.frozen bZ5 0
    have f1 := CBox.frozen bZ5 1
    have f2 := CBox.frozen bZ5 2
    have f3 := CBox.frozen bZ5 3
    have f4 := CBox.frozen bZ5 4
    have g0 : w5.cell? ⟨w.heap.size, 0, none⟩ = some (.int .u64 0) := CBox.cell bZ5 0
    have g1 : w5.cell? ⟨w.heap.size, 1, none⟩ = some (.int .u32 0) := CBox.cell bZ5 1
    have g2 : w5.cell? ⟨w.heap.size, 2, none⟩ = some (.int .i64 0) := CBox.cell bZ5 2
    have g3 : w5.cell? ⟨w.heap.size, 3, none⟩ = some (.int .u64 0) := CBox.cell bZ5 3
    have g4 : w5.cell? ⟨w.heap.size, 4, none⟩ = some (.int .u64 0) := CBox.cell bZ5 4
    go_wp2
    have bM := (CBox.put (CBox.put (CBox.put (CBox.put (CBox.put bZ5 0 (.int .u64 (nv V))) 1 (.int .u32 (nv32 E))) 2 (.int .i64 (LB : Int))) 3 (.int .u64 (nv P.1))) 4 (.int .u64 (nv P.2)))
    have k0 := CBox.cell bM 0
    have k1 := CBox.cell bM 1
    have k2 := CBox.cell bM 2
    have k3 := CBox.cell bM 3
    have k4 := CBox.cell bM 4
    have hBE : Below w.heap.size w (((((w5.setCell ⟨w.heap.size, 0, none⟩ (.int .u64 (nv V))).setCell ⟨w.heap.size, 1, none⟩ (.int .u32 (nv32 E))).setCell ⟨w.heap.size, 2, none⟩ (.int .i64 (LB : Int))).setCell ⟨w.heap.size, 3, none⟩ (.int .u64 (nv P.1))).setCell ⟨w.heap.size, 4, none⟩ (.int .u64 (nv P.2))) := ((((((((((hB5).setCell (p := ⟨w.heap.size, 0, none⟩) (Nat.le_refl _) (.int .u64 (nv V)))).setCell (p := ⟨w.heap.size, 1, none⟩) (Nat.le_refl _) (.int .u32 (nv32 E)))).setCell (p := ⟨w.heap.size, 2, none⟩) (Nat.le_refl _) (.int .i64 (LB : Int)))).setCell (p := ⟨w.heap.size, 3, none⟩) (Nat.le_refl _) (.int .u64 (nv P.1)))).setCell (p := ⟨w.heap.size, 4, none⟩) (Nat.le_refl _) (.int .u64 (nv P.2)))
    exact bodyPost_ret (v := .tuple #[.agg #[.int .u64 (nv V), .int .u32 (nv32 E), .int .i64 (LB : Int), .int .u64 (nv P.1), .int .u64 (nv P.2)], .bool true]) (by simp [results, Try.results11, go_sem, k0, k1, k2, k3, k4]) rfl ⟨by rw [HR.out, if_pos hk]; rfl, hBE⟩
  · have pp := rrput_no ⟨V, E, (LB : Int), P⟩ hk
    unfold rtv at pp
    dsimp only at pp
    go_wp2_with fail
    generalize ((w2.alloc (.cells #[.int .u64 (nv P.1), .int .u64 (nv P.2)] 25)).alloc (.cells #[.int .u64 (nv V), .int .u32 (nv32 E), .int .i64 (LB : Int), .int .u64 (nv P.1), .int .u64 (nv P.2)] 27)) = w4 at *
    refine (pp w4).mono ?_
    clear r0 r1 r2 r3 r4 p0 p1 pp
    rintro e w5 ⟨z5, c5, rfl, -, hb6⟩
    have bZ5 := bZ.grown hb6
    have hB5 := hB4.trans (hb6.mono hB4.size)
    have f0 := CBox.frozen bZ5 0
    have f1 := CBox.frozen bZ5 1
    have f2 := CBox.frozen bZ5 2
    have f3 := CBox.frozen bZ5 3
    have f4 := CBox.frozen bZ5 4
    have g0 : w5.cell? ⟨w.heap.size, 0, none⟩ = some (.int .u64 0) := CBox.cell bZ5 0
    have g1 : w5.cell? ⟨w.heap.size, 1, none⟩ = some (.int .u32 0) := CBox.cell bZ5 1
    have g2 : w5.cell? ⟨w.heap.size, 2, none⟩ = some (.int .i64 0) := CBox.cell bZ5 2
    have g3 : w5.cell? ⟨w.heap.size, 3, none⟩ = some (.int .u64 0) := CBox.cell bZ5 3
    have g4 : w5.cell? ⟨w.heap.size, 4, none⟩ = some (.int .u64 0) := CBox.cell bZ5 4
    go_wp2
    have bM := (CBox.put (CBox.put (CBox.put (CBox.put (CBox.put bZ5 0 (.int .u64 0)) 1 (.int .u32 0)) 2 (.int .i64 0)) 3 (.int .u64 0)) 4 (.int .u64 0))
    have k0 := CBox.cell bM 0
    have k1 := CBox.cell bM 1
    have k2 := CBox.cell bM 2
    have k3 := CBox.cell bM 3
    have k4 := CBox.cell bM 4
    have hBE : Below w.heap.size w (((((w5.setCell ⟨w.heap.size, 0, none⟩ (.int .u64 0)).setCell ⟨w.heap.size, 1, none⟩ (.int .u32 0)).setCell ⟨w.heap.size, 2, none⟩ (.int .i64 0)).setCell ⟨w.heap.size, 3, none⟩ (.int .u64 0)).setCell ⟨w.heap.size, 4, none⟩ (.int .u64 0)) := ((((((((((hB5).setCell (p := ⟨w.heap.size, 0, none⟩) (Nat.le_refl _) (.int .u64 0))).setCell (p := ⟨w.heap.size, 1, none⟩) (Nat.le_refl _) (.int .u32 0))).setCell (p := ⟨w.heap.size, 2, none⟩) (Nat.le_refl _) (.int .i64 0))).setCell (p := ⟨w.heap.size, 3, none⟩) (Nat.le_refl _) (.int .u64 0))).setCell (p := ⟨w.heap.size, 4, none⟩) (Nat.le_refl _) (.int .u64 0))
    exact bodyPost_ret (v := .tuple #[.agg #[.int .u64 0, .int .u32 0, .int .i64 0, .int .u64 0, .int .u64 0], .bool false]) (by simp [results, Try.results11, go_sem, k0, k1, k2, k3, k4]) rfl ⟨by rw [HR.out, if_neg hk]; rfl, hBE⟩
end Go.Proofs.Ytnimhlkoikjomaa
