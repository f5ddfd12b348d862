/- OImI MapE: texts laid together. -/
import Derived.Test.YtkbhkgfchiacbaaOImL
import Derived.Test.YtkbhkgfchiacbaaM14
import Derived.WideKeyEntry

/- What the program's Issued comes to. -/
namespace Go.Proofs.Ytkbhkgfchiacbaa
open Go.RowKit
set_option maxRecDepth 20000

theorem Try.underlyingIss : Try.prog.underlying 55 = some (.slice 98) := by kernel_rfl
theorem make_iss (n : Nat) (hn : n ≤ 10000) : ∃ M : Array Value, M.size = n * 10 ∧ ∀ w : World, (Instr.makeSlice 55 (.int .i64 (n : Int)) (.int .i64 (n : Int))).run Try.prog w = .ok (.slice (some ⟨w.heap.size, 0, none⟩) n n) (w.alloc (.cells M 98)) := by
  obtain ⟨i0, hi, hz0, hz1, hz2⟩ := info_parts Try.issInfo
  obtain ⟨z, hz⟩ : ∃ z, i0.zero = some z := ⟨_, hz0⟩
  refine ⟨madeCells z.cells (n * 10), size_madeCells _ _, fun w => ?_⟩
  have hr := run_make (P := Try.prog) w 55 98 i0 z Try.underlyingIss hi hz .i64 .i64 n n (by omega) (Int.le_refl _) (by rw [hz2]; omega) (by omega)
  rw [hz1] at hr
  exact hr
theorem cells10 {k j : Nat} {f : Nat → Value} {v0 v1 v2 v3 v4 v5 v6 v7 v8 v9 u : Value} (hj : ([v0, v1, v2, v3, v4, v5, v6, v7, v8, v9] : List Value)[j]? = some u) : (fun j => if j = k * 10 + 9 then v9 else if j = k * 10 + 8 then v8 else if j = k * 10 + 7 then v7 else if j = k * 10 + 6 then v6 else if j = k * 10 + 5 then v5 else if j = k * 10 + 4 then v4 else if j = k * 10 + 3 then v3 else if j = k * 10 + 2 then v2 else if j = k * 10 + 1 then v1 else if j = k * 10 then v0 else f j) (k * 10 + j) = u := by
  have h10 : j < 10 := by
    rcases Nat.lt_or_ge j 10 with h | h
    · exact h
    · rw [List.getElem?_eq_none h] at hj
      cases hj
  match j, h10 with
  | 0, _ => simpa using hj
  | 1, _ => simpa using hj
  | 2, _ => simpa using hj
  | 3, _ => simpa using hj
  | 4, _ => simpa using hj
  | 5, _ => simpa using hj
  | 6, _ => simpa using hj
  | 7, _ => simpa using hj
  | 8, _ => simpa using hj
  | 9, _ => simpa using hj
theorem cells_other {i k j : Nat} {f : Nat → Value} {v0 v1 v2 v3 v4 v5 v6 v7 v8 v9 : Value} (hi : i < k) (hj : j < 10) : (fun j => if j = k * 10 + 9 then v9 else if j = k * 10 + 8 then v8 else if j = k * 10 + 7 then v7 else if j = k * 10 + 6 then v6 else if j = k * 10 + 5 then v5 else if j = k * 10 + 4 then v4 else if j = k * 10 + 3 then v3 else if j = k * 10 + 2 then v2 else if j = k * 10 + 1 then v1 else if j = k * 10 then v0 else f j) (i * 10 + j) = f (i * 10 + j) := by
  dsimp only
  rw [if_neg (by omega)]
  rw [if_neg (by omega)]
  rw [if_neg (by omega)]
  rw [if_neg (by omega)]
  rw [if_neg (by omega)]
  rw [if_neg (by omega)]
  rw [if_neg (by omega)]
  rw [if_neg (by omega)]
  rw [if_neg (by omega)]
  rw [if_neg (by omega)]

set_option maxRecDepth 10000 in
set_option maxHeartbeats 4000000 in
theorem iissued (F : Nat → Prop) (v : Value) (st : OSt) (hL : st.1.length ≤ 10000) (w : World) (hI : PInv F w v st) :
    Calls Try.prog 37 #[v] w fun e w' => ∃ z cz F', e = .returned (.slice z st.1.length cz) ∧ Kept PInv F w v F' w' st ∧ IRdG (fun k => w.heap.size ≤ k ∧ ¬ F' k) w' z st.1.length st.1 ∧ st.1.length ≤ cz ∧ ∀ k i, w.heap.size ≤ k → w'.frozen? ⟨k, i, none⟩ = false := by
  have HLT := hide' hI.lt
  have HK := hide' (fun w' => hI.kept (w' := w'))
  obtain ⟨b, FL, FS, vL, vS, rfl, hA, -, -⟩ := hI
  obtain ⟨n, HN⟩ : ∃ n, Hid (st.1.length = n) := ⟨_, rfl⟩
  rw [HN.out] at hL ⊢
  obtain ⟨M, hM, hmk⟩ := make_iss n hL
  obtain ⟨yl, cl, rfl, hcl, -, -⟩ := own_is hA.iss.choose_spec.1
  rw [HN.out] at hA hcl
  have k0 := hA.box.c0
  have hb : Below w.heap.size w (w.alloc (.cells M 98)) := (Below.refl _ _).alloc (Nat.le_refl _) _
  have k1 := (hA.box.grown hb).c0
  have row0 := World.rowIs_alloc w M 98 (fun i => M[i]?.getD undef) (fun i hi => by simp [hi])
  rw [hM] at row0
  have hc0 : Clean w (w.alloc (.cells M 98)) := (Clean.refl w).alloc _ _
  go_enter Try.func37, Try.ntmps37
  go_wp2_with fail
  clear hmk k0 k1 hb
  generalize hAA : w.heap.size = A at *
  have hAw : w.heap.size ≤ A := by omega
  generalize w.alloc (.cells M 98) = w1 at *
  go_loopw [19] (fun i wr => ∃ (k : Nat) (f : Nat → Value), k ≤ n ∧ i = .int .i64 (k : Int) ∧ wr.rowIs A 98 (n * 10) f ∧ Hid (∀ i, i < k → ∃ c, IssIn (fun q => A ≤ q ∧ q ≠ A) wr (st.1.getD i default) c i ∧ ∀ j u, (issC (st.1.getD i default) c i)[j]? = some u → f (i * 10 + j) = u) ∧ Clean w wr) (fun i _ => n - (intOf i).toNat)
  case atStart => exact ⟨0, _, Nat.zero_le _, rfl, row0, hide' (fun i hi => absurd hi (by omega)), hc0⟩
  case round =>
    clear row0 hc0
    obtain ⟨k, f, hk, rfl, row, HI, hC⟩ := hrel
    by_cases hlt : k < n
    · have hA' := hA.below hC.b
      obtain ⟨g, cap, cc, e, hcap, hgl, hGg, hin, hcs⟩ := rec_cells hA'.iss k (by rw [HN.out]; exact hlt)
      simp only [Value.slice.injEq] at e
      obtain ⟨rfl, -, rfl⟩ := e
      obtain ⟨z, HZ⟩ : ∃ z, Hid (st.1.getD k default = z) := ⟨_, rfl⟩
      rw [HZ.out] at hin hcs
      obtain ⟨zk, zn, zh, zd⟩ := z
      obtain ⟨nhz, HH⟩ : ∃ nhz, Hid (zh.length = nhz) := ⟨_, rfl⟩
      obtain ⟨ndz, HD⟩ : ∃ ndz, Hid (zd.length = ndz) := ⟨_, rfl⟩
      have hsH : SIn _ _ cc.h nhz zh := HH.out ▸ hin.hs
      have sD : SIn _ _ cc.d ndz zd := HD.out ▸ hin.ds
      have bzh : Bytes zh := hin.hb
      have bzd : Bytes zd := hin.db
      have hhn : cc.h = none → nhz = 0 ∧ cc.hc = 0 := HH.out ▸ hin.hl.2.2
      have hhm : nhz ≤ 4000 := HH.out ▸ hin.hm
      have hdn : cc.d = none → ndz = 0 ∧ cc.dc = 0 := HD.out ▸ hin.dl.2.2
      have hdm : ndz ≤ 4000 := HD.out ▸ hin.dm
      have c0 : wr.cell? ⟨g, k * 7, none⟩ = some (.int .u64 (nv zk.1)) := hcs 0 _ rfl
      have c1 : wr.cell? ⟨g, k * 7 + 1, none⟩ = some (.int .u64 (nv zk.2)) := hcs 1 _ rfl
      have c2 : wr.cell? ⟨g, k * 7 + 2, none⟩ = some (.int .u32 (nv32 zn.1)) := hcs 2 _ rfl
      have c3 : wr.cell? ⟨g, k * 7 + 3, none⟩ = some (.int .u32 (nv32 zn.2.1)) := hcs 3 _ rfl
      have c4 : wr.cell? ⟨g, k * 7 + 4, none⟩ = some (.int .u64 (nv zn.2.2)) := hcs 4 _ rfl
      have c5 : wr.cell? ⟨g, k * 7 + 5, none⟩ = some (.slice cc.h nhz cc.hc) := by rw [← HH.out]; exact hcs 5 _ rfl
      have c6 : wr.cell? ⟨g, k * 7 + 6, none⟩ = some (.slice cc.d ndz cc.dc) := by rw [← HD.out]; exact hcs 6 _ rfl
      clear hcs hin
      have rB := RcBox.new wr zk zn (.slice cc.h nhz cc.hc) (.slice cc.d ndz cc.dc)
      have hb : Below wr.heap.size wr (wr.alloc (.cells #[.int .u64 (nv zk.1), .int .u64 (nv zk.2), .int .u32 (nv32 zn.1), .int .u32 (nv32 zn.2.1), .int .u64 (nv zn.2.2), .slice cc.h nhz cc.hc, .slice cc.d ndz cc.dc] 92)) := (Below.refl _ _).alloc (Nat.le_refl _) _
      have HKn : Hid (((k : Int) + 1) = ((k + 1 : Nat) : Int)) := hide' rfl
      have hAr := row.lt
      go_wp2_with fail
      clear c0 c1 c2 c3 c4 c5 c6 hA'
      replace hsH := hsH.off (Off.of_below (F := fun _ => False) hb) (fun _ _ _ h => h)
      replace sD := sD.off (Off.of_below (F := fun _ => False) hb) (fun _ _ _ h => h)
      replace row := row.of_block (hb.block _ hAr)
      replace HI : Hid (∀ i, i < k → ∃ c, IssIn (fun q => A ≤ q ∧ q ≠ A) (wr.alloc (.cells #[.int .u64 (nv zk.1), .int .u64 (nv zk.2), .int .u32 (nv32 zn.1), .int .u32 (nv32 zn.2.1), .int .u64 (nv zn.2.2), .slice cc.h nhz cc.hc, .slice cc.d ndz cc.dc] 92)) (st.1.getD i default) c i ∧ ∀ j u, (issC (st.1.getD i default) c i)[j]? = some u → f (i * 10 + j) = u) := hide' (fun i hi => by
        obtain ⟨c, h1, h2⟩ := HI.out i hi
        exact ⟨c, h1.off (Off.of_below (F := fun _ => False) hb) (fun _ _ _ h => h), h2⟩)
      replace hC := hC.alloc #[.int .u64 (nv zk.1), .int .u64 (nv zk.2), .int .u32 (nv32 zn.1), .int .u32 (nv32 zn.2.1), .int .u64 (nv zn.2.2), .slice cc.h nhz cc.hc, .slice cc.d ndz cc.dc] 92
      clear hb
      generalize wr.alloc (.cells #[.int .u64 (nv zk.1), .int .u64 (nv zk.2), .int .u32 (nv32 zn.1), .int .u32 (nv32 zn.2.1), .int .u64 (nv zn.2.2), .slice cc.h nhz cc.hc, .slice cc.d ndz cc.dc] 92) = wq at *
      have hAq : A < wq.heap.size := row.lt
      refine startX (S := fun w' => Below wq.heap.size wq w') 23 (by kernel_rfl) (Below.refl _ _).drew (fun hHeld => ?_)
      refine moveX 0 24 3 rfl rfl rfl (by kernel_rfl) (by kernel_rfl) (by kernel_rfl) (fun _ _ _ h => h) (by rfl) (by kernel_rfl) (by decide) hHeld rfl ?_
      simp only [List.set_cons_succ, List.set_cons_zero]
      refine moveX 1 25 4 rfl rfl rfl (by kernel_rfl) (by kernel_rfl) (by kernel_rfl) (fun _ _ _ h => h) (by rfl) (by kernel_rfl) (by decide) hHeld rfl ?_
      simp only [List.set_cons_succ, List.set_cons_zero]
      refine takeX 2 26 (v := ?_) rfl rfl (by kernel_rfl) (by kernel_rfl) (by kernel_rfl) (fun _ _ _ h => h) (by rfl) (by kernel_rfl) (by decide) hHeld (fun w hSw => ?_) ?_
      rotate_left 1
      · (try dsimp only at hSw)
        clear hSw
        go_simp
        try with_reducible rfl
      simp only [List.set_cons_succ, List.set_cons_zero]
      refine takeX 3 27 (v := ?_) rfl rfl (by kernel_rfl) (by kernel_rfl) (by kernel_rfl) (fun _ _ _ h => h) (by rfl) (by kernel_rfl) (by decide) hHeld (fun w hSw => ?_) ?_
      rotate_left 1
      · (try dsimp only at hSw)
        clear hSw
        go_simp
        try with_reducible rfl
      simp only [List.set_cons_succ, List.set_cons_zero]
      refine takeX 4 28 (v := ?_) rfl rfl (by kernel_rfl) (by kernel_rfl) (by kernel_rfl) (fun _ _ _ h => h) (by rfl) (by kernel_rfl) (by decide) hHeld (fun w hSw => ?_) ?_
      rotate_left 1
      · (try dsimp only at hSw)
        have hx_ := rB.grown hSw
        have e0_ := hx_.c0
        have e1_ := hx_.c1
        clear hx_
        clear hSw
        go_simp
        try with_reducible rfl
      simp only [List.set_cons_succ, List.set_cons_zero]
      refine takeX 5 29 (v := ?_) rfl rfl (by kernel_rfl) (by kernel_rfl) (by kernel_rfl) (fun _ _ _ h => h) (by rfl) (by kernel_rfl) (by decide) hHeld (fun w hSw => ?_) ?_
      rotate_left 1
      · (try dsimp only at hSw)
        clear hSw
        go_simp
        try with_reducible rfl
      simp only [List.set_cons_succ, List.set_cons_zero]
      refine takeX 6 30 (v := ?_) rfl rfl (by kernel_rfl) (by kernel_rfl) (by kernel_rfl) (fun _ _ _ h => h) (by rfl) (by kernel_rfl) (by decide) hHeld (fun w hSw => ?_) ?_
      rotate_left 1
      · (try dsimp only at hSw)
        clear hSw
        go_simp
        try with_reducible rfl
      simp only [List.set_cons_succ, List.set_cons_zero]
      refine takeX 7 31 (v := ?_) rfl rfl (by kernel_rfl) (by kernel_rfl) (by kernel_rfl) (fun _ _ _ h => h) (by rfl) (by kernel_rfl) (by decide) hHeld (fun w hSw => ?_) ?_
      rotate_left 1
      · (try dsimp only at hSw)
        have hx_ := rB.grown hSw
        have e2_ := hx_.c2
        have e3_ := hx_.c3
        have e4_ := hx_.c4
        clear hx_
        clear hSw
        go_simp
        try with_reducible rfl
      simp only [List.set_cons_succ, List.set_cons_zero]
      refine takeX 8 32 (v := ?_) rfl rfl (by kernel_rfl) (by kernel_rfl) (by kernel_rfl) (fun _ _ _ h => h) (by rfl) (by kernel_rfl) (by decide) hHeld (fun w hSw => ?_) ?_
      rotate_left 1
      · (try dsimp only at hSw)
        clear hSw
        go_simp
        try with_reducible rfl
      simp only [List.set_cons_succ, List.set_cons_zero]
      refine takeX 9 33 (v := ?_) rfl rfl (by kernel_rfl) (by kernel_rfl) (by kernel_rfl) (fun _ _ _ h => h) (by rfl) (by kernel_rfl) (by decide) hHeld (fun w hSw => ?_) ?_
      rotate_left 1
      · (try dsimp only at hSw)
        have hx_ := rB.grown hSw
        have e5_ := hx_.c5
        clear hx_
        clear hSw
        go_simp
        try with_reducible rfl
      simp only [List.set_cons_succ, List.set_cons_zero]
      refine takeX 11 35 (v := ?_) rfl rfl (by kernel_rfl) (by kernel_rfl) (by kernel_rfl) (fun _ _ _ h => h) (by rfl) (by kernel_rfl) (by decide) hHeld (fun w hSw => ?_) ?_
      rotate_left 1
      · (try dsimp only at hSw)
        clear hSw
        go_simp
        try with_reducible rfl
      simp only [List.set_cons_succ, List.set_cons_zero]
      refine takeX 12 36 (v := ?_) rfl rfl (by kernel_rfl) (by kernel_rfl) (by kernel_rfl) (fun _ _ _ h => h) (by rfl) (by kernel_rfl) (by decide) hHeld (fun w hSw => ?_) ?_
      rotate_left 1
      · (try dsimp only at hSw)
        have hx_ := rB.grown hSw
        have e6_ := hx_.c6
        clear hx_
        clear hSw
        go_simp
        try with_reducible rfl
      simp only [List.set_cons_succ, List.set_cons_zero]
      refine moveX 14 38 4 rfl rfl rfl (by kernel_rfl) (by kernel_rfl) (by kernel_rfl) (fun _ _ _ h => h) (by rfl) (by kernel_rfl) (by decide) hHeld rfl ?_
      simp only [List.set_cons_succ, List.set_cons_zero]
      refine takeX 15 39 (v := ?_) rfl rfl (by kernel_rfl) (by kernel_rfl) (by kernel_rfl) (fun _ _ _ h => h) (by rfl) (by kernel_rfl) (by decide) hHeld (fun w hSw => ?_) ?_
      rotate_left 1
      · (try dsimp only at hSw)
        clear hSw
        go_simp
        try with_reducible rfl
      simp only [List.set_cons_succ, List.set_cons_zero]
      refine takeX 16 40 (v := ?_) rfl rfl (by kernel_rfl) (by kernel_rfl) (by kernel_rfl) (fun _ _ _ h => h) (by rfl) (by kernel_rfl) (by decide) hHeld (fun w hSw => ?_) ?_
      rotate_left 1
      · (try dsimp only at hSw)
        clear hSw
        go_simp
        try with_reducible rfl
      simp only [List.set_cons_succ, List.set_cons_zero]
      refine takeX 17 41 (v := ?_) rfl rfl (by kernel_rfl) (by kernel_rfl) (by kernel_rfl) (fun _ _ _ h => h) (by rfl) (by kernel_rfl) (by decide) hHeld (fun w hSw => ?_) ?_
      rotate_left 1
      · (try dsimp only at hSw)
        clear hSw
        go_simp
        try with_reducible rfl
      simp only [List.set_cons_succ, List.set_cons_zero]
      refine takeX 18 42 (v := ?_) rfl rfl (by kernel_rfl) (by kernel_rfl) (by kernel_rfl) (fun _ _ _ h => h) (by rfl) (by kernel_rfl) (by decide) hHeld (fun w hSw => ?_) ?_
      rotate_left 1
      · (try dsimp only at hSw)
        have hx_ := rB.grown hSw
        have e6_ := hx_.c6
        clear hx_
        clear hSw
        go_simp
        try with_reducible rfl
      simp only [List.set_cons_succ, List.set_cons_zero]
      refine takeX 19 43 (v := ?_) rfl rfl (by kernel_rfl) (by kernel_rfl) (by kernel_rfl) (fun _ _ _ h => h) (by rfl) (by kernel_rfl) (by decide) hHeld (fun w hSw => ?_) ?_
      rotate_left 1
      · (try dsimp only at hSw)
        clear hSw
        go_simp
        try with_reducible rfl
      simp only [List.set_cons_succ, List.set_cons_zero]
      refine onlyX 10 rfl (by kernel_rfl) (by rfl) (fun K hK => ?_)
      go_wp2_with fail
      refine (iclone cc.h nhz cc.hc zh (by omega) hhn _ hsH.sat.drew).mono ?_
      rintro e w3 ⟨v3, rfl, own3, hc3⟩
      replace hc3 : Clean wq w3 := (Clean.refl wq).drew.trans hc3
      replace own3 : w3.ownsRow wq.heap.size 5 1 v3 nhz (zh.map (Value.int .u8)) := own3
      refine hK.out _ _ (fun _ => hc3.b) (fun _ => ?_)
      clear hK K hHeld
      replace sD := sD.off (Off.of_below (F := fun _ => False) hc3.b) (fun _ _ _ h => h)
      refine onlyX 13 rfl (by kernel_rfl) (by rfl) (fun K hK => ?_)
      go_wp2_with fail
      refine (iclone cc.d ndz cc.dc zd (by omega) hdn _ sD.sat).mono ?_
      rintro e w4 ⟨v4, rfl, own4, hc4⟩
      replace own3 := own_grown own3 hc4.b
      have hc34 : Clean wq w4 := hc3.trans hc4
      have hz3 := hc3.b.size
      refine hK.out _ _ (fun _ => hc34.b) (fun _ => ?_)
      clear hK K hc3 hc4
      refine onlyX 20 rfl (by kernel_rfl) (by rfl) (fun K hK => ?_)
      go_wp2_with fail
      refine (isealed_at (k + 1) ndz _ HKn.out (by omega) _).mono ?_
      rintro e w5 ⟨g5, rfl, hg5, row5, hc5⟩
      replace own3 := own_grown own3 hc5.b
      replace own4 := own_grown own4 hc5.b
      have hz4 := hc34.b.size
      have hc : Clean wq w5 := hc34.trans hc5
      refine hK.out _ _ (fun _ => hc.b) (fun _ => ?_)
      clear hK K hc34 hc5
      obtain ⟨xh, ch, rfl, sh, hch, hchm, nilh⟩ := own_sin HH.out own3
      obtain ⟨xd, cd, rfl, sd, hcd, hcdm, nild⟩ := own_sin HD.out own4
      refine onlyX 21 rfl (by kernel_rfl) (by rfl) (fun K hK => ?_)
      go_wp2
      refine hK.out _ _ (fun _ => hc.b) (fun _ => ?_)
      clear hK K
      refine onlyX 22 rfl (by kernel_rfl) (by rfl) (fun K hK => ?_)
      go_wp2
      refine hK.out _ _ (fun _ => hc.b) (fun _ => ?_)
      clear hK K
      replace row := row.of_block (hc.b.block _ row.lt)
      have l0 := row.cell (i := k * 10) (by omega)
      have l1 := row.cell (i := k * 10 + 1) (by omega)
      have l2 := row.cell (i := k * 10 + 2) (by omega)
      have l3 := row.cell (i := k * 10 + 3) (by omega)
      have l4 := row.cell (i := k * 10 + 4) (by omega)
      have l5 := row.cell (i := k * 10 + 5) (by omega)
      have l6 := row.cell (i := k * 10 + 6) (by omega)
      have l7 := row.cell (i := k * 10 + 7) (by omega)
      have l8 := row.cell (i := k * 10 + 8) (by omega)
      have l9 := row.cell (i := k * 10 + 9) (by omega)
      have q0 := row.frozen (k * 10)
      have q1 := row.frozen (k * 10 + 1)
      have q2 := row.frozen (k * 10 + 2)
      have q3 := row.frozen (k * 10 + 3)
      have q4 := row.frozen (k * 10 + 4)
      have q5 := row.frozen (k * 10 + 5)
      have q6 := row.frozen (k * 10 + 6)
      have q7 := row.frozen (k * 10 + 7)
      have q8 := row.frozen (k * 10 + 8)
      have q9 := row.frozen (k * 10 + 9)
      refine onlyX 23 rfl (by kernel_rfl) (by rfl) (fun K hK => ?_)
      go_wp2_with fail
      clear l0 q0 l1 q1 l2 q2 l3 q3 l4 q4 l5 q5 l6 q6 l7 q7 l8 q8 l9 q9
      refine hK.out _ _ (fun h => absurd rfl h) (fun _ => ?_)
      clear hK K
      refine doneX (by kernel_rfl) ?_ _
      have row9 := ((((((((((row.set (k * 10) (.int .u64 (nv zk.1))).set (k * 10 + 1) (.int .u64 (nv zk.2))).set (k * 10 + 2) (.int .u32 (nv32 zn.1))).set (k * 10 + 3) (.int .u32 (nv32 zn.2.1))).set (k * 10 + 4) (.int .u64 (nv zn.2.2))).set (k * 10 + 5) (.slice xh nhz ch)).set (k * 10 + 6) (.slice xd ndz cd)).set (k * 10 + 7) (.slice (some ⟨g5, 0, none⟩) ndz ndz)).set (k * 10 + 8) (.int .u64 18446744073709551615)).set (k * 10 + 9) (.int .u64 ((k : Int) + 1)))
      have hof : Off (fun k => k = A) w5 ((((((((((w5.setCell ⟨A, k * 10, none⟩ (.int .u64 (nv zk.1))).setCell ⟨A, k * 10 + 1, none⟩ (.int .u64 (nv zk.2))).setCell ⟨A, k * 10 + 2, none⟩ (.int .u32 (nv32 zn.1))).setCell ⟨A, k * 10 + 3, none⟩ (.int .u32 (nv32 zn.2.1))).setCell ⟨A, k * 10 + 4, none⟩ (.int .u64 (nv zn.2.2))).setCell ⟨A, k * 10 + 5, none⟩ (.slice xh nhz ch)).setCell ⟨A, k * 10 + 6, none⟩ (.slice xd ndz cd)).setCell ⟨A, k * 10 + 7, none⟩ (.slice (some ⟨g5, 0, none⟩) ndz ndz)).setCell ⟨A, k * 10 + 8, none⟩ (.int .u64 18446744073709551615)).setCell ⟨A, k * 10 + 9, none⟩ (.int .u64 ((k : Int) + 1))) := (((((((((((Off.refl (fun k => k = A) w5).setCell (p := ⟨A, k * 10, none⟩) (Or.inl rfl) (.int .u64 (nv zk.1))).setCell (p := ⟨A, k * 10 + 1, none⟩) (Or.inl rfl) (.int .u64 (nv zk.2))).setCell (p := ⟨A, k * 10 + 2, none⟩) (Or.inl rfl) (.int .u32 (nv32 zn.1))).setCell (p := ⟨A, k * 10 + 3, none⟩) (Or.inl rfl) (.int .u32 (nv32 zn.2.1))).setCell (p := ⟨A, k * 10 + 4, none⟩) (Or.inl rfl) (.int .u64 (nv zn.2.2))).setCell (p := ⟨A, k * 10 + 5, none⟩) (Or.inl rfl) (.slice xh nhz ch)).setCell (p := ⟨A, k * 10 + 6, none⟩) (Or.inl rfl) (.slice xd ndz cd)).setCell (p := ⟨A, k * 10 + 7, none⟩) (Or.inl rfl) (.slice (some ⟨g5, 0, none⟩) ndz ndz)).setCell (p := ⟨A, k * 10 + 8, none⟩) (Or.inl rfl) (.int .u64 18446744073709551615)).setCell (p := ⟨A, k * 10 + 9, none⟩) (Or.inl rfl) (.int .u64 ((k : Int) + 1)))
      have hc0 : Clean w w5 := hC.trans hc
      have hc9 : Clean w ((((((((((w5.setCell ⟨A, k * 10, none⟩ (.int .u64 (nv zk.1))).setCell ⟨A, k * 10 + 1, none⟩ (.int .u64 (nv zk.2))).setCell ⟨A, k * 10 + 2, none⟩ (.int .u32 (nv32 zn.1))).setCell ⟨A, k * 10 + 3, none⟩ (.int .u32 (nv32 zn.2.1))).setCell ⟨A, k * 10 + 4, none⟩ (.int .u64 (nv zn.2.2))).setCell ⟨A, k * 10 + 5, none⟩ (.slice xh nhz ch)).setCell ⟨A, k * 10 + 6, none⟩ (.slice xd ndz cd)).setCell ⟨A, k * 10 + 7, none⟩ (.slice (some ⟨g5, 0, none⟩) ndz ndz)).setCell ⟨A, k * 10 + 8, none⟩ (.int .u64 18446744073709551615)).setCell ⟨A, k * 10 + 9, none⟩ (.int .u64 ((k : Int) + 1))) := ((((((((((hc0.setCell (p := ⟨A, k * 10, none⟩) hAw (.int .u64 (nv zk.1))).setCell (p := ⟨A, k * 10 + 1, none⟩) hAw (.int .u64 (nv zk.2))).setCell (p := ⟨A, k * 10 + 2, none⟩) hAw (.int .u32 (nv32 zn.1))).setCell (p := ⟨A, k * 10 + 3, none⟩) hAw (.int .u32 (nv32 zn.2.1))).setCell (p := ⟨A, k * 10 + 4, none⟩) hAw (.int .u64 (nv zn.2.2))).setCell (p := ⟨A, k * 10 + 5, none⟩) hAw (.slice xh nhz ch)).setCell (p := ⟨A, k * 10 + 6, none⟩) hAw (.slice xd ndz cd)).setCell (p := ⟨A, k * 10 + 7, none⟩) hAw (.slice (some ⟨g5, 0, none⟩) ndz ndz)).setCell (p := ⟨A, k * 10 + 8, none⟩) hAw (.int .u64 18446744073709551615)).setCell (p := ⟨A, k * 10 + 9, none⟩) hAw (.int .u64 ((k : Int) + 1)))
      generalize ((((((((((w5.setCell ⟨A, k * 10, none⟩ (.int .u64 (nv zk.1))).setCell ⟨A, k * 10 + 1, none⟩ (.int .u64 (nv zk.2))).setCell ⟨A, k * 10 + 2, none⟩ (.int .u32 (nv32 zn.1))).setCell ⟨A, k * 10 + 3, none⟩ (.int .u32 (nv32 zn.2.1))).setCell ⟨A, k * 10 + 4, none⟩ (.int .u64 (nv zn.2.2))).setCell ⟨A, k * 10 + 5, none⟩ (.slice xh nhz ch)).setCell ⟨A, k * 10 + 6, none⟩ (.slice xd ndz cd)).setCell ⟨A, k * 10 + 7, none⟩ (.slice (some ⟨g5, 0, none⟩) ndz ndz)).setCell ⟨A, k * 10 + 8, none⟩ (.int .u64 18446744073709551615)).setCell ⟨A, k * 10 + 9, none⟩ (.int .u64 ((k : Int) + 1))) = w9 at *
      have fr : ∀ {x : Option Addr} {l : Nat} {zs : List Int} {G : Nat → Prop}, SIn G w5 x l zs → (∀ q, G q → wq.heap.size ≤ q) → SIn (fun q => A ≤ q ∧ q ≠ A) w9 x l zs := fun {x l zs G} h hG => (h.off hof (fun q _ hq e => by have := hG q hq; omega)).mono (fun q _ hq => by have := hG q hq; omega)
      go_wp2
      go_roundw
      case rel =>
        refine ⟨k + 1, _, by omega, by go_num, row9, hide' (fun i hi => ?_), hc9⟩
        by_cases e : i = k
        · subst e
          rw [HZ.out]
          refine ⟨⟨xh, ch, xd, cd, some ⟨g5, 0, none⟩, ndz⟩, ⟨?_, ?_, bzh, ?_, ?_, bzd, ?_, ?_⟩, fun j u hj => ?_⟩
          · rw [show (Iss.head ⟨zk, zn, zh, zd⟩).length = nhz from HH.out]; exact fr sh (own_block own3)
          · rw [show (Iss.head ⟨zk, zn, zh, zd⟩).length = nhz from HH.out]; exact ⟨hch, hchm, nilh⟩
          · rw [show (Iss.data ⟨zk, zn, zh, zd⟩).length = ndz from HD.out]; exact fr sd (fun q hq => Nat.le_trans hz3 (own_block own4 q hq))
          · rw [show (Iss.data ⟨zk, zn, zh, zd⟩).length = ndz from HD.out]; exact ⟨hcd, hcdm, nild⟩
          · rw [show (Iss.data ⟨zk, zn, zh, zd⟩).length = ndz from HD.out]; exact fr (G := fun q => q = g5) ⟨outB_length _ _, fun _ => ⟨g5, 0, rfl, row5.lt, rfl, fun j hj => by rw [Nat.zero_add]; exact row5.cell (by rw [outB_length] at hj; exact hj)⟩⟩ (fun q (hq : q = g5) => by omega)
          · rw [show (Iss.data ⟨zk, zn, zh, zd⟩).length = ndz from HD.out]; exact ⟨Nat.le_refl _, (show ndz ≤ maxLen from by unfold maxLen; omega), fun e => by cases e⟩
          · rw [issC, show (Iss.head ⟨zk, zn, zh, zd⟩).length = nhz from HH.out, show (Iss.data ⟨zk, zn, zh, zd⟩).length = ndz from HD.out] at hj
            exact cells10 hj
        · obtain ⟨c0, h1, h2⟩ := HI.out i (by omega)
          refine ⟨c0, ((h1.off (Off.of_below (F := fun _ => False) hc.b) (fun _ _ _ h => h)).off hof (fun q _ hq e => hq.2 e)), fun j u hj => ?_⟩
          have hj10 : j < 10 := by
            rcases Nat.lt_or_ge j 10 with h | h
            · exact h
            · rw [List.getElem?_eq_none (by rw [issC_length]; exact h)] at hj
              cases hj
          rw [← h2 j u hj]
          exact cells_other (by omega) hj10
      case measure => simp [intOf]; omega
    · obtain rfl : k = n := by omega
      go_wp2
      go_ret
      have hAF : ¬ F A := fun h => by have := HLT.out A h; omega
      have hFA : ∀ q, A ≤ q → ¬ F q := fun q hq h => by have := HLT.out q h; omega
      refine ⟨_, _, F, rfl, HK.out _ (hAA ▸ hC.b), ⟨HN.out, fun _ => ⟨A, 0, rfl, row.lt, ⟨by omega, hAF⟩, fun i hi => ?_⟩⟩, Nat.le_refl _, fun q i hq => hC.f q i (by omega)⟩
      obtain ⟨c, h1, h2⟩ := HI.out i hi
      refine ⟨c, h1.mono (fun q _ hq => ⟨by omega, hFA q hq.1⟩), fun j u hj => ?_⟩
      have hj10 : j < 10 := by
        rcases Nat.lt_or_ge j 10 with h | h
        · exact h
        · rw [List.getElem?_eq_none (by rw [issC_length]; exact h)] at hj
          cases hj
      rw [Nat.zero_add, ← h2 j u hj]
      exact row.cell (by omega)
end Go.Proofs.Ytkbhkgfchiacbaa


/- m[k]++ on a map with numbers as elements, as the model does it: the entry, then the store into it. Keys that are structs. -/
namespace Go.Proofs.Ytkbhkgfchiacbaa
open Go.RowKit Go.Maps Go.WideElems Go.ChangeMaps Go.MapKept
set_option maxRecDepth 20000
open Go.WideMaps (KeyLaw)

theorem entry_own {P : Program} {k e t : TypeId} {q : IntKind} {w : World} {b n : Nat} {D : DataW Unit} (h : w.ownsMap P k (plainElem P e) b n D) (K : KeyLaw P k) (ht : P.underlying t = some (.map k e)) (he : P.underlying e = some (.int q)) (hz : ∀ u : World, (zeroValue e).run P u = .ok (.int q 0) u) (hn : n < maxLen)
    {key : Value} {kl : Lit} (hkey : keyOf P k key = some kl) :
    ∃ (v0 : Value) (st : Nat) (w1 : World), (Instr.mapEntry t (.map (some b)) key).run P w = .ok (.tuple #[v0, goInt st]) w1 ∧ (∃ D1 : DataW Unit, w1.ownsMap P k (plainElem P e) b (n + 1) D1 ∧ D1.atKey kl (.lit (.int q 0)) = D.atKey kl (.lit (.int q 0))) ∧ w.grownBy w1 (some b) ∧
      ∀ (x : Int), (Lit.int q x).wf = true → ∃ w2, (Instr.entryStore t (.map (some b)) (goInt st) (.int q x)).run P w1 = .ok () w2 ∧ w2.ownsMap P k (plainElem P e) b (n + 1) (D.put kl (.lit (.int q x))) ∧ w.grownBy w2 (some b) := by
  have hu := fun (x : Int) (hx : (Lit.int q x).wf = true) => h.update (val := .int q x) (Keyed.of_law K) ht hn hkey (plainElem_int he hx)
  have h0 := h
  obtain ⟨es, clock, hb, F, hs, rfl⟩ := h
  obtain ⟨v0, st, es1, clock1, hrun, _, hstore⟩ := entry_then_store K ht hz hb F hkey
  have hg1 : w.grownBy (setBlock w b (.map es1 clock1)) (some b) := ⟨rfl, rfl, rfl, by simp [setBlock], fun i _ hi => heap_setBlock_other hb _ (fun e => hi (by rw [e]))⟩
  refine ⟨v0, st, _, hrun, ?_, hg1, fun x hx => ?_⟩
  · rcases K.find w hkey es.toList F.keys with ⟨h1, h2⟩ | ⟨j, e0, h1, h2, h3⟩
    · have hr : (Instr.mapEntry t (.map (some b)) key).run P w = .ok (.tuple #[.int q 0, goInt clock]) (setBlock w b (.map (es.push ⟨key, .int q 0, clock⟩) (clock + 1))) := by
        simp [Instr.mapEntry, run_underlying ht, MapKept.run_getObj_map hb, K.check w false hkey, h1, hz, MapKept.run_setObj_map _ hb, Result.andThen, setBlock]
      have hw0 : (Lit.int q 0).wf = true := by cases q <;> decide
      obtain ⟨w', hr2, ho, _⟩ := hu 0 hw0
      have hr3 : (Instr.mapUpdate t (.map (some b)) key (.int q 0)).run P w = .ok () (setBlock w b (.map (es.push ⟨key, .int q 0, clock⟩) (clock + 1))) := by
        simp [Instr.mapUpdate, run_underlying ht, MapKept.run_getObj_map hb, K.check w false hkey, h1, MapKept.run_setObj_map _ hb, Result.andThen, setBlock]
      rw [hr] at hrun
      rw [hr3] at hr2
      have e1 : setBlock w b (.map (es.push ⟨key, .int q 0, clock⟩) (clock + 1)) = setBlock w b (.map es1 clock1) := by injection hrun
      have e2 : setBlock w b (.map (es.push ⟨key, .int q 0, clock⟩) (clock + 1)) = w' := by injection hr2
      rw [← e1]
      rw [← e2] at ho
      refine ⟨_, ho, ?_⟩
      have hnot : (DataW.map ((es.toList.map (rg P k (plainElem (H := Unit) P e))).foldr DataW.insert [])).atKey kl (.lit (.int q 0)) = .lit (.int q 0) := by
        rcases Maps.fit_look false (Keyed.of_law K) ht (hz w) hb F hkey with ⟨_, _, hat⟩ | ⟨e0, y, hm, hk0, _⟩
        · exact hat _
        · exact absurd hk0 (h2 e0 hm)
      rw [atKey_put_same h0.isMap ((Keyed.of_law K).key hkey), hnot]
    · have hj : es[j]? = some e0 := by simpa using h2
      have hsame : es.modify j (fun e => { e with key := key }) = es := by
        refine Array.ext (by simp) (fun i h4 h5 => ?_)
        rw [Array.getElem_modify]
        split
        · rename_i e
          subst e
          have h6 : es[j] = e0 := by
            rw [Array.getElem?_eq_getElem h5] at hj
            exact Option.some.inj hj
          rw [h6, ← h3]
        · rfl
      have hr : (Instr.mapEntry t (.map (some b)) key).run P w = .ok (.tuple #[e0.val, goInt e0.born]) (setBlock w b (.map es clock)) := by
        simp [Instr.mapEntry, run_underlying ht, MapKept.run_getObj_map hb, K.check w false hkey, h1, hj, h3, K.stays w hkey, hsame, MapKept.run_setObj_map _ hb, Result.andThen, setBlock]
      rw [hr] at hrun
      have e1 : setBlock w b (.map es clock) = setBlock w b (.map es1 clock1) := by injection hrun
      rw [← e1]
      exact ⟨_, ⟨es, clock, heap_setBlock_same hb _, F, by omega, rfl⟩, rfl⟩
  · obtain ⟨es', clock', hs1, hs2⟩ := hstore (setBlock w b (.map es1 clock1)) (.int q x) (heap_setBlock_same hb _)
    obtain ⟨w', hr2, ho, hg⟩ := hu x hx
    rw [hs2] at hr2
    have e2 : setBlock w b (.map es' clock') = w' := by injection hr2
    have e3 : setBlock (setBlock w b (.map es1 clock1)) b (.map es' clock') = setBlock w b (.map es' clock') := by simp [setBlock]
    rw [e3, e2] at hs1
    exact ⟨w', hs1, ho, hg⟩
end Go.Proofs.Ytkbhkgfchiacbaa
