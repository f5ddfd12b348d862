/- The landed roots: isSlots, Put, PutRec. -/
import Derived.Test.YtnimhlkoikjomaaRtRecs
import Derived.Test.YtnimhlkoikjomaaLatR
import Derived.Test.YtnimhlkoikjomaaCat
namespace Go.Proofs.Ytnimhlkoikjomaa
open Go.RowKit
set_option maxRecDepth 20000

theorem islots (x : Int) (w : World) : Calls Try.prog 17 #[.int .i64 x] w fun e w' => e = .returned (.bool (decide (x = 4 ∨ x = 8 ∨ x = 16))) ∧ w' = w := by
  by_cases h0 : x = 4
  · subst h0
    go_enter Try.func17, Try.ntmps17
    go_wp2
    go_ret
    exact ⟨rfl, rfl⟩
  by_cases h1 : x = 8
  · subst h1
    go_enter Try.func17, Try.ntmps17
    go_wp2
    go_ret
    exact ⟨rfl, rfl⟩
  by_cases h2 : x = 16
  · subst h2
    go_enter Try.func17, Try.ntmps17
    go_wp2
    go_ret
    exact ⟨rfl, rfl⟩
  rw [decide_eq_false (fun e => e.elim h0 fun e => e.elim h1 h2)]
  go_enter Try.func17, Try.ntmps17
  go_wp2
  go_ret
  exact ⟨congrArg (fun b => Ending.returned (.bool b)) (show (x == 4 || x == 8 || x == 16) = false from by simp [h0, h1, h2]), rfl⟩
set_option maxRecDepth 20000 in
set_option maxHeartbeats 4000000 in
theorem irtput_own (r : Rt) (h : rtOk r) (wr : World) : Calls Try.prog 7 #[rtv r] wr fun e w' => ∃ v, e = .returned (.tuple #[v, .bool true]) ∧ w'.ownsRow wr.heap.size 5 1 v 32 ((rtL r).map (Value.int .u8)) ∧ Below wr.heap.size wr w' := by
  obtain ⟨ct, ep, sl, t1, t2⟩ := r
  have hi := islots sl
  rw [decide_eq_true (show sl = 4 ∨ sl = 8 ∨ sl = 16 from h)] at hi
  have hs : 0 ≤ sl ∧ sl < 17 := by
    have : sl = 4 ∨ sl = 8 ∨ sl = 16 := h
    omega
  clear h
  obtain ⟨sl, rfl⟩ : ∃ n : Nat, sl = n := ⟨sl.toNat, by omega⟩
  have hlw : IntKind.u64.wrap (sl : Int) = sl := by
    rw [IntKind.wrap_u64]
    omega
  have hp : IntKind.u64.wrap (nv32 ep) = nv32 ep := by
    have := nv32_range ep
    rw [IntKind.wrap_u64]
    omega
  clear hs
  unfold rtv
  dsimp only
  have hB : Below wr.heap.size wr (wr.alloc (.cells #[.int .u64 (nv ct), .int .u32 (nv32 ep), .int .i64 (sl : Int), .int .u64 (nv t1), .int .u64 (nv t2)] 27)) := (Below.refl _ _).alloc (Nat.le_refl _) _
  have bx : CBox 27 (wr.alloc (.cells #[.int .u64 (nv ct), .int .u32 (nv32 ep), .int .i64 (sl : Int), .int .u64 (nv t1), .int .u64 (nv t2)] 27)) wr.heap.size #[.int .u64 (nv ct), .int .u32 (nv32 ep), .int .i64 (sl : Int), .int .u64 (nv t1), .int .u64 (nv t2)] := CBox.new _ _ _
  go_enter Try.func7, Try.ntmps7
  go_wp2_with fail
  generalize wr.alloc (.cells #[.int .u64 (nv ct), .int .u32 (nv32 ep), .int .i64 (sl : Int), .int .u64 (nv t1), .int .u64 (nv t2)] 27) = W at *
  refine (hi _).mono ?_
  clear hi
  rintro e w1 ⟨rfl, rfl⟩
  go_wp2_with fail
  refine startX (S := fun w' => Below w1.heap.size w1 w') 17 (by kernel_rfl) (Below.refl _ _).drew (fun hHeld => ?_)
  refine takeY 0 8 (v := ?_) rfl rfl (by kernel_rfl) (by kernel_rfl) (by kernel_rfl) (fun _ _ _ h => h) (by rfl) (by kernel_rfl) (by kernel_rfl) (by decide) hHeld (fun w hSw => ?_) ?_
  rotate_left 1
  · (try dsimp only at hSw)
    clear hSw
    go_simp
    try with_reducible rfl
  simp only [List.set_cons_succ, List.set_cons_zero]
  refine takeY 1 9 (v := ?_) rfl rfl (by kernel_rfl) (by kernel_rfl) (by kernel_rfl) (fun _ _ _ h => h) (by rfl) (by kernel_rfl) (by kernel_rfl) (by decide) hHeld (fun w hSw => ?_) ?_
  rotate_left 1
  · (try dsimp only at hSw)
    have e0_ : w.cell? ⟨wr.heap.size, 0, none⟩ = some (.int .u64 (nv ct)) := (bx.grown hSw).cell 0
    clear hSw
    go_simp
    try with_reducible rfl
  simp only [List.set_cons_succ, List.set_cons_zero]
  refine takeY 3 11 (v := ?_) rfl rfl (by kernel_rfl) (by kernel_rfl) (by kernel_rfl) (fun _ _ _ h => h) (by rfl) (by kernel_rfl) (by kernel_rfl) (by decide) hHeld (fun w hSw => ?_) ?_
  rotate_left 1
  · (try dsimp only at hSw)
    clear hSw
    go_simp
    try with_reducible rfl
  simp only [List.set_cons_succ, List.set_cons_zero]
  refine takeY 4 12 (v := ?_) rfl rfl (by kernel_rfl) (by kernel_rfl) (by kernel_rfl) (fun _ _ _ h => h) (by rfl) (by kernel_rfl) (by kernel_rfl) (by decide) hHeld (fun w hSw => ?_) ?_
  rotate_left 1
  · (try dsimp only at hSw)
    have e1_ : w.cell? ⟨wr.heap.size, 1, none⟩ = some (.int .u32 (nv32 ep)) := (bx.grown hSw).cell 1
    clear hSw
    go_simp
    try with_reducible rfl
  simp only [List.set_cons_succ, List.set_cons_zero]
  refine takeY 5 13 (v := ?_) rfl rfl (by kernel_rfl) (by kernel_rfl) (by kernel_rfl) (fun _ _ _ h => h) (by rfl) (by kernel_rfl) (by kernel_rfl) (by decide) hHeld (fun w hSw => ?_) ?_
  rotate_left 1
  · (try dsimp only at hSw)
    have e0_ := hp
    clear hSw
    go_simp
    try with_reducible rfl
  simp only [List.set_cons_succ, List.set_cons_zero]
  refine takeY 7 15 (v := ?_) rfl rfl (by kernel_rfl) (by kernel_rfl) (by kernel_rfl) (fun _ _ _ h => h) (by rfl) (by kernel_rfl) (by kernel_rfl) (by decide) hHeld (fun w hSw => ?_) ?_
  rotate_left 1
  · (try dsimp only at hSw)
    clear hSw
    go_simp
    try with_reducible rfl
  simp only [List.set_cons_succ, List.set_cons_zero]
  refine takeY 8 16 (v := ?_) rfl rfl (by kernel_rfl) (by kernel_rfl) (by kernel_rfl) (fun _ _ _ h => h) (by rfl) (by kernel_rfl) (by kernel_rfl) (by decide) hHeld (fun w hSw => ?_) ?_
  rotate_left 1
  · (try dsimp only at hSw)
    have e2_ : w.cell? ⟨wr.heap.size, 2, none⟩ = some (.int .i64 (sl : Int)) := (bx.grown hSw).cell 2
    clear hSw
    go_simp
    try with_reducible rfl
  simp only [List.set_cons_succ, List.set_cons_zero]
  refine takeY 9 17 (v := ?_) rfl rfl (by kernel_rfl) (by kernel_rfl) (by kernel_rfl) (fun _ _ _ h => h) (by rfl) (by kernel_rfl) (by kernel_rfl) (by decide) hHeld (fun w hSw => ?_) ?_
  rotate_left 1
  · (try dsimp only at hSw)
    have e0_ := hlw
    clear hSw
    go_simp
    try with_reducible rfl
  simp only [List.set_cons_succ, List.set_cons_zero]
  refine takeY 11 19 (v := ?_) rfl rfl (by kernel_rfl) (by kernel_rfl) (by kernel_rfl) (fun _ _ _ h => h) (by rfl) (by kernel_rfl) (by kernel_rfl) (by decide) hHeld (fun w hSw => ?_) ?_
  rotate_left 1
  · (try dsimp only at hSw)
    clear hSw
    go_simp
    try with_reducible rfl
  simp only [List.set_cons_succ, List.set_cons_zero]
  refine takeY 12 20 (v := ?_) rfl rfl (by kernel_rfl) (by kernel_rfl) (by kernel_rfl) (fun _ _ _ h => h) (by rfl) (by kernel_rfl) (by kernel_rfl) (by decide) hHeld (fun w hSw => ?_) ?_
  rotate_left 1
  · (try dsimp only at hSw)
    have e3_ : w.cell? ⟨wr.heap.size, 3, none⟩ = some (.int .u64 (nv t1)) := (bx.grown hSw).cell 3
    have e4_ : w.cell? ⟨wr.heap.size, 4, none⟩ = some (.int .u64 (nv t2)) := (bx.grown hSw).cell 4
    clear hSw
    go_simp
    try with_reducible rfl
  simp only [List.set_cons_succ, List.set_cons_zero]
  refine onlyX 2 rfl (by kernel_rfl) (by rfl) (fun K hK => ?_)
  go_wp2_with fail
  refine (wput_in ct.toNat 8 (by decide) (by decide) _).mono ?_
  rintro e v0 ⟨x0, c0, rfl, s0, f0, hb⟩
  have hW0 : Below w1.heap.size w1 v0 := ((Below.refl w1.heap.size w1).drew).trans (hb.mono ((Below.refl w1.heap.size w1).drew).size)
  refine hK.out _ _ (fun _ => hW0) (fun _ => ?_)
  clear hK K hb hHeld
  refine onlyX 6 rfl (by kernel_rfl) (by rfl) (fun K hK => ?_)
  go_wp2_with fail
  refine (wput_in ep.toNat 4 (by decide) (by decide) _).mono ?_
  rintro e v1 ⟨x1, c1, rfl, s1, f1, hb⟩
  have hW1 : Below w1.heap.size w1 v1 := (hW0).trans (hb.mono (hW0).size)
  replace s0 := s0.below hb
  refine hK.out _ _ (fun _ => hW1) (fun _ => ?_)
  clear hK K hb hW0
  refine onlyX 10 rfl (by kernel_rfl) (by rfl) (fun K hK => ?_)
  go_wp2_with fail
  refine (wput_in sl 4 (by decide) (by decide) _).mono ?_
  rintro e v2 ⟨x2, c2, rfl, s2, f2, hb⟩
  have hW2 : Below w1.heap.size w1 v2 := (hW1).trans (hb.mono (hW1).size)
  replace s0 := s0.below hb
  replace s1 := s1.below hb
  refine hK.out _ _ (fun _ => hW2) (fun _ => ?_)
  clear hK K hb hW1
  refine onlyX 13 rfl (by kernel_rfl) (by rfl) (fun K hK => ?_)
  go_wp2_with fail
  refine (wbytes_in (t1, t2) _).mono ?_
  rintro e v3 ⟨x3, c3, rfl, s3, f3, hb⟩
  have hW3 : Below w1.heap.size w1 v3 := (hW2).trans (hb.mono (hW2).size)
  replace s0 := s0.below hb
  replace s1 := s1.below hb
  replace s2 := s2.below hb
  refine hK.out _ _ (fun _ => hW3) (fun _ => ?_)
  clear hK K hb hW2
  refine onlyX 14 rfl (by kernel_rfl) (by rfl) (fun K hK => ?_)
  go_wp2
  have hl := lat_rows v3 [(x0, 8, c0, putL ct.toNat 8), (x1, 4, c1, putL ep.toNat 4), (x2, 4, c2, putL sl 4), (x3, 16, c3, pairL (t1, t2))] (by
    intro q hq
    simp only [List.mem_cons, List.not_mem_nil, or_false] at hq
    rcases hq with rfl | rfl | rfl | rfl
    · exact ⟨s0, f0, putL_bytes _ _⟩
    · exact ⟨s1, f1, putL_bytes _ _⟩
    · exact ⟨s2, f2, putL_bytes _ _⟩
    · exact ⟨s3, f3, pairL_bytes _⟩)
  have hA : Below v3.heap.size v3 (v3.alloc (.cells #[.slice x0 8 c0, .slice x1 4 c1, .slice x2 4 c2, .slice x3 16 c3] 28)) := (Below.refl _ _).alloc (Nat.le_refl _) _
  have hWb := hW3.trans (hA.mono hW3.size)
  refine hK.out _ _ (fun _ => hWb) (fun _ => ?_)
  clear hK K
  refine onlyX 15 rfl (by kernel_rfl) (by rfl) (fun K hK => ?_)
  go_wp2_with fail
  refine (iconcat [putL ct.toNat 8, putL ep.toNat 4, putL sl 4, pairL (t1, t2)] _ 4 4 (by decide) (by simp [putL_length, pairL_length]) (Nat.le_refl _) (fun e => by cases e) _ hl).mono ?_
  rintro e v9 ⟨v, rfl, own, hb⟩
  have hWc := hWb.trans (hb.mono hWb.size)
  refine hK.out _ _ (fun _ => hWc) (fun _ => ?_)
  clear hK K
  refine onlyX 16 rfl (by kernel_rfl) (by rfl) (fun K hK => ?_)
  go_wp2
  refine hK.out _ _ (fun _ => hWc) (fun _ => ?_)
  clear hK K
  refine onlyX 17 rfl (by kernel_rfl) (by rfl) (fun K hK => ?_)
  go_wp2
  refine hK.out _ _ (fun h => absurd rfl h) (fun _ => ?_)
  clear hK K
  refine doneX (by kernel_rfl) ?_ _
  go_wp2
  go_ret2
  have eL : [putL ct.toNat 8, putL ep.toNat 4, putL sl 4, pairL (t1, t2)].flatten = rtL ⟨ct, ep, (sl : Int), (t1, t2)⟩ := by
    unfold rtL
    simp
  have eN : [putL ct.toNat 8, putL ep.toNat 4, putL sl 4, pairL (t1, t2)].flatten.length = 32 := by rw [eL, rtL_length]
  rw [eN, eL] at own
  exact ⟨_, rfl, own_low own (Nat.le_trans hB.size hWb.size), hB.trans (hWc.mono hB.size)⟩
theorem irtput_yes : RtPutYes 7 := fun r h w => (irtput_own r h w).mono (by
  rintro e w' ⟨v, rfl, own, hb⟩
  obtain ⟨z, c, rfl, hs, h1, h2, h3⟩ := own_sin (rtL_length r) own
  exact ⟨z, c, rfl, hs.mono (fun k _ hk => own_block own k hk), ⟨h1, h2, h3⟩, hb⟩)
theorem irtput_no : RtPutNo 7 := by
  intro r h w
  obtain ⟨ct, ep, sl, t1, t2⟩ := r
  have hi := islots sl
  rw [decide_eq_false (show ¬ (sl = 4 ∨ sl = 8 ∨ sl = 16) from h)] at hi
  clear h
  have hB : Below w.heap.size w (w.alloc (.cells #[.int .u64 (nv ct), .int .u32 (nv32 ep), .int .i64 sl, .int .u64 (nv t1), .int .u64 (nv t2)] 27)) := (Below.refl _ _).alloc (Nat.le_refl _) _
  unfold rtv
  dsimp only
  go_enter Try.func7, Try.ntmps7
  go_wp2_with fail
  refine (hi _).mono ?_
  rintro e w1 ⟨rfl, rfl⟩
  go_wp2
  go_ret2
  exact ⟨_, _, rfl, fit_none, hB⟩
set_option maxRecDepth 20000 in
set_option maxHeartbeats 4000000 in
theorem ircput_own (ep : BitVec 32) (ve t1 t2 : BitVec 64) (x : Option Addr) (c : Nat) (ys : List Int) (fx : Fit x 32 c) (by_ : Bytes ys) (wr : World) (sx : SAt wr x 32 ys) : Calls Try.prog 12 #[nnv (ep, 65535#32, ve), sev x 32 c (t1, t2)] wr fun e w' => ∃ v, e = .returned (.tuple #[v, .bool true]) ∧ w'.ownsRow wr.heap.size 5 1 v 60 ((rcL (ep, 65535#32, ve) ys (t1, t2)).map (Value.int .u8)) ∧ Below wr.heap.size wr w' := by
  have hp : IntKind.u64.wrap (nv32 ep) = nv32 ep := by
    have := nv32_range ep
    rw [IntKind.wrap_u64]
    omega
  have HY : Hid (ys.length = 32) := sx.1
  have h6 : nv32 65535#32 = 65535 := rfl
  unfold nnv sev
  dsimp only
  rw [h6]
  clear h6
  have hB : Below wr.heap.size wr ((wr.alloc (.cells #[.int .u32 (nv32 ep), .int .u32 65535, .int .u64 (nv ve)] 37)).alloc (.cells #[.slice x 32 c, .int .u64 (nv t1), .int .u64 (nv t2)] 39)) := ((Below.refl _ _).alloc (Nat.le_refl _) _).alloc (by rw [World.size_alloc]; omega) _
  have bn : CBox 37 ((wr.alloc (.cells #[.int .u32 (nv32 ep), .int .u32 65535, .int .u64 (nv ve)] 37)).alloc (.cells #[.slice x 32 c, .int .u64 (nv t1), .int .u64 (nv t2)] 39)) wr.heap.size #[.int .u32 (nv32 ep), .int .u32 65535, .int .u64 (nv ve)] := (CBox.new 37 wr #[.int .u32 (nv32 ep), .int .u32 65535, .int .u64 (nv ve)]).grown ((Below.refl _ _).alloc (Nat.le_refl _) _)
  have bs : CBox 39 ((wr.alloc (.cells #[.int .u32 (nv32 ep), .int .u32 65535, .int .u64 (nv ve)] 37)).alloc (.cells #[.slice x 32 c, .int .u64 (nv t1), .int .u64 (nv t2)] 39)) (wr.heap.size + 1) #[.slice x 32 c, .int .u64 (nv t1), .int .u64 (nv t2)] := by
    have := CBox.new 39 (wr.alloc (.cells #[.int .u32 (nv32 ep), .int .u32 65535, .int .u64 (nv ve)] 37)) #[.slice x 32 c, .int .u64 (nv t1), .int .u64 (nv t2)]
    rwa [World.size_alloc] at this
  replace sx := (sx.below ((Below.refl _ _).alloc (Nat.le_refl _) (.cells #[.int .u32 (nv32 ep), .int .u32 65535, .int .u64 (nv ve)] 37))).below ((Below.refl _ _).alloc (Nat.le_refl _) (.cells #[.slice x 32 c, .int .u64 (nv t1), .int .u64 (nv t2)] 39))
  go_enter Try.func12, Try.ntmps12
  go_wp2_with fail
  generalize ((wr.alloc (.cells #[.int .u32 (nv32 ep), .int .u32 65535, .int .u64 (nv ve)] 37)).alloc (.cells #[.slice x 32 c, .int .u64 (nv t1), .int .u64 (nv t2)] 39)) = W at *
  replace sx := sx.below (Below.refl W.heap.size W).drew
  refine startX (S := fun w' => Below W.heap.size W w') 15 (by kernel_rfl) (Below.refl _ _).drew (fun hHeld => ?_)
  refine takeY 0 15 (v := ?_) rfl rfl (by kernel_rfl) (by kernel_rfl) (by kernel_rfl) (fun _ _ _ h => h) (by rfl) (by kernel_rfl) (by kernel_rfl) (by decide) hHeld (fun w hSw => ?_) ?_
  rotate_left 1
  · (try dsimp only at hSw)
    clear hSw
    go_simp
    try with_reducible rfl
  simp only [List.set_cons_succ, List.set_cons_zero]
  refine takeY 1 16 (v := ?_) rfl rfl (by kernel_rfl) (by kernel_rfl) (by kernel_rfl) (fun _ _ _ h => h) (by rfl) (by kernel_rfl) (by kernel_rfl) (by decide) hHeld (fun w hSw => ?_) ?_
  rotate_left 1
  · (try dsimp only at hSw)
    have e0_ : w.cell? ⟨wr.heap.size, 0, none⟩ = some (.int .u32 (nv32 ep)) := (bn.grown hSw).cell 0
    clear hSw
    go_simp
    try with_reducible rfl
  simp only [List.set_cons_succ, List.set_cons_zero]
  refine takeY 2 17 (v := ?_) rfl rfl (by kernel_rfl) (by kernel_rfl) (by kernel_rfl) (fun _ _ _ h => h) (by rfl) (by kernel_rfl) (by kernel_rfl) (by decide) hHeld (fun w hSw => ?_) ?_
  rotate_left 1
  · (try dsimp only at hSw)
    have e0_ := hp
    clear hSw
    go_simp
    try with_reducible rfl
  simp only [List.set_cons_succ, List.set_cons_zero]
  refine takeY 4 19 (v := ?_) rfl rfl (by kernel_rfl) (by kernel_rfl) (by kernel_rfl) (fun _ _ _ h => h) (by rfl) (by kernel_rfl) (by kernel_rfl) (by decide) hHeld (fun w hSw => ?_) ?_
  rotate_left 1
  · (try dsimp only at hSw)
    clear hSw
    go_simp
    try with_reducible rfl
  simp only [List.set_cons_succ, List.set_cons_zero]
  refine takeY 5 20 (v := ?_) rfl rfl (by kernel_rfl) (by kernel_rfl) (by kernel_rfl) (fun _ _ _ h => h) (by rfl) (by kernel_rfl) (by kernel_rfl) (by decide) hHeld (fun w hSw => ?_) ?_
  rotate_left 1
  · (try dsimp only at hSw)
    have e2_ : w.cell? ⟨wr.heap.size, 2, none⟩ = some (.int .u64 (nv ve)) := (bn.grown hSw).cell 2
    clear hSw
    go_simp
    try with_reducible rfl
  simp only [List.set_cons_succ, List.set_cons_zero]
  refine takeY 7 22 (v := ?_) rfl rfl (by kernel_rfl) (by kernel_rfl) (by kernel_rfl) (fun _ _ _ h => h) (by rfl) (by kernel_rfl) (by kernel_rfl) (by decide) hHeld (fun w hSw => ?_) ?_
  rotate_left 1
  · (try dsimp only at hSw)
    clear hSw
    go_simp
    try with_reducible rfl
  simp only [List.set_cons_succ, List.set_cons_zero]
  refine takeY 8 23 (v := ?_) rfl rfl (by kernel_rfl) (by kernel_rfl) (by kernel_rfl) (fun _ _ _ h => h) (by rfl) (by kernel_rfl) (by kernel_rfl) (by decide) hHeld (fun w hSw => ?_) ?_
  rotate_left 1
  · (try dsimp only at hSw)
    have e0_ : w.cell? ⟨wr.heap.size + 1, 0, none⟩ = some (.slice x 32 c) := (bs.grown hSw).cell 0
    clear hSw
    go_simp
    try with_reducible rfl
  simp only [List.set_cons_succ, List.set_cons_zero]
  refine takeY 9 24 (v := ?_) rfl rfl (by kernel_rfl) (by kernel_rfl) (by kernel_rfl) (fun _ _ _ h => h) (by rfl) (by kernel_rfl) (by kernel_rfl) (by decide) hHeld (fun w hSw => ?_) ?_
  rotate_left 1
  · (try dsimp only at hSw)
    clear hSw
    go_simp
    try with_reducible rfl
  simp only [List.set_cons_succ, List.set_cons_zero]
  refine takeY 10 25 (v := ?_) rfl rfl (by kernel_rfl) (by kernel_rfl) (by kernel_rfl) (fun _ _ _ h => h) (by rfl) (by kernel_rfl) (by kernel_rfl) (by decide) hHeld (fun w hSw => ?_) ?_
  rotate_left 1
  · (try dsimp only at hSw)
    have e1_ : w.cell? ⟨wr.heap.size + 1, 1, none⟩ = some (.int .u64 (nv t1)) := (bs.grown hSw).cell 1
    have e2_ : w.cell? ⟨wr.heap.size + 1, 2, none⟩ = some (.int .u64 (nv t2)) := (bs.grown hSw).cell 2
    clear hSw
    go_simp
    try with_reducible rfl
  simp only [List.set_cons_succ, List.set_cons_zero]
  refine onlyX 3 rfl (by kernel_rfl) (by rfl) (fun K hK => ?_)
  go_wp2_with fail
  refine (wput_in ep.toNat 4 (by decide) (by decide) _).mono ?_
  rintro e v0 ⟨x0, c0, rfl, s0, f0, hb⟩
  have hW0 : Below W.heap.size W v0 := ((Below.refl W.heap.size W).drew).trans (hb.mono ((Below.refl W.heap.size W).drew).size)
  replace sx := sx.below hb
  refine hK.out _ _ (fun _ => hW0) (fun _ => ?_)
  clear hK K hb hHeld
  refine onlyX 6 rfl (by kernel_rfl) (by rfl) (fun K hK => ?_)
  go_wp2_with fail
  refine (wput_in ve.toNat 8 (by decide) (by decide) _).mono ?_
  rintro e v1 ⟨x1, c1, rfl, s1, f1, hb⟩
  have hW1 : Below W.heap.size W v1 := (hW0).trans (hb.mono (hW0).size)
  replace s0 := s0.below hb
  replace sx := sx.below hb
  refine hK.out _ _ (fun _ => hW1) (fun _ => ?_)
  clear hK K hb hW0
  refine onlyX 11 rfl (by kernel_rfl) (by rfl) (fun K hK => ?_)
  go_wp2_with fail
  refine (wbytes_in (t1, t2) _).mono ?_
  rintro e v2 ⟨x2, c2, rfl, s2, f2, hb⟩
  have hW2 : Below W.heap.size W v2 := (hW1).trans (hb.mono (hW1).size)
  replace s0 := s0.below hb
  replace s1 := s1.below hb
  replace sx := sx.below hb
  refine hK.out _ _ (fun _ => hW2) (fun _ => ?_)
  clear hK K hb hW1
  refine onlyX 12 rfl (by kernel_rfl) (by rfl) (fun K hK => ?_)
  go_wp2
  have hl := lat_rows v2 [(x0, 4, c0, putL ep.toNat 4), (x1, 8, c1, putL ve.toNat 8), (x, 32, c, ys), (x2, 16, c2, pairL (t1, t2))] (by
    intro q hq
    simp only [List.mem_cons, List.not_mem_nil, or_false] at hq
    rcases hq with rfl | rfl | rfl | rfl
    · exact ⟨s0, f0, putL_bytes _ _⟩
    · exact ⟨s1, f1, putL_bytes _ _⟩
    · exact ⟨sx, fx, by_⟩
    · exact ⟨s2, f2, pairL_bytes _⟩)
  have hA : Below v2.heap.size v2 (v2.alloc (.cells #[.slice x0 4 c0, .slice x1 8 c1, .slice x 32 c, .slice x2 16 c2] 28)) := (Below.refl _ _).alloc (Nat.le_refl _) _
  have hWb := hW2.trans (hA.mono hW2.size)
  refine hK.out _ _ (fun _ => hWb) (fun _ => ?_)
  clear hK K
  refine onlyX 13 rfl (by kernel_rfl) (by rfl) (fun K hK => ?_)
  go_wp2_with fail
  refine (iconcat [putL ep.toNat 4, putL ve.toNat 8, ys, pairL (t1, t2)] _ 4 4 (by decide) (by simp [putL_length, pairL_length, HY.out]) (Nat.le_refl _) (fun e => by cases e) _ hl).mono ?_
  rintro e v9 ⟨v, rfl, own, hb⟩
  have hWc := hWb.trans (hb.mono hWb.size)
  refine hK.out _ _ (fun _ => hWc) (fun _ => ?_)
  clear hK K
  refine onlyX 14 rfl (by kernel_rfl) (by rfl) (fun K hK => ?_)
  go_wp2
  refine hK.out _ _ (fun _ => hWc) (fun _ => ?_)
  clear hK K
  refine onlyX 15 rfl (by kernel_rfl) (by rfl) (fun K hK => ?_)
  go_wp2
  refine hK.out _ _ (fun h => absurd rfl h) (fun _ => ?_)
  clear hK K
  refine doneX (by kernel_rfl) ?_ _
  go_wp2
  go_ret2
  have eL : [putL ep.toNat 4, putL ve.toNat 8, ys, pairL (t1, t2)].flatten = rcL (ep, 65535#32, ve) ys (t1, t2) := by
    unfold rcL
    simp
  have eN : [putL ep.toNat 4, putL ve.toNat 8, ys, pairL (t1, t2)].flatten.length = 60 := by rw [eL, rcL_length _ _ _ HY.out]
  rw [eN, eL] at own
  exact ⟨_, rfl, own_low own (Nat.le_trans hB.size hWb.size), hB.trans (hWc.mono hB.size)⟩
theorem ircput_yes : RcPutYes 12 := by
  intro n x c ys t hn fx by_ w sx
  obtain ⟨ep, s, ve⟩ := n
  obtain rfl : (65535#32) = s := nv32_inj (by rw [show nv32 s = 65535 from hn]; rfl)
  refine (ircput_own ep ve t.1 t.2 x c ys fx by_ w sx).mono ?_
  rintro e w' ⟨v, rfl, own, hb⟩
  obtain ⟨z, cz, rfl, hs, f1, f2, f3⟩ := own_sin (rcL_length _ _ _ sx.1) own
  exact ⟨z, cz, rfl, hs.mono (fun k _ hk => own_block own k hk), ⟨f1, f2, f3⟩, hb⟩
theorem ircput_no : RcPutNo 12 := by
  intro n x m c t hn w
  obtain ⟨ep, s, ve⟩ := n
  obtain ⟨t1, t2⟩ := t
  unfold nnv sev
  dsimp only
  have hB : Below w.heap.size w ((w.alloc (.cells #[.int .u32 (nv32 ep), .int .u32 (nv32 s), .int .u64 (nv ve)] 37)).alloc (.cells #[.slice x m c, .int .u64 (nv t1), .int .u64 (nv t2)] 39)) := ((Below.refl w.heap.size w).alloc (Nat.le_refl _) _).alloc (by rw [World.size_alloc]; omega) _
  by_cases hm : m = 32
  · subst hm
    have h1 : (nv32 s != 65535) = true := bne_iff_ne.2 (hn.resolve_left (fun h => h rfl))
    clear hn
    go_enter Try.func12, Try.ntmps12
    go_wp2
    go_ret2
    exact ⟨_, _, rfl, fit_none, hB⟩
  · have h1 : ((m : Int) != 32) = true := bne_iff_ne.2 (by omega)
    clear hn
    go_enter Try.func12, Try.ntmps12
    go_wp2
    go_ret2
    exact ⟨_, _, rfl, fit_none, hB⟩
end Go.Proofs.Ytnimhlkoikjomaa
