/- The document's roots: Put. -/
import Derived.Test.YtnimhlkoikjomaaRtBox
import Derived.Test.YtnimhlkoikjomaaLfOut
import Derived.Test.YtnimhlkoikjomaaRegionY
namespace Go.Proofs.Ytnimhlkoikjomaa
open Go.RowKit
set_option maxRecDepth 20000

theorem own_base {w : World} {B B' n : Nat} {v : Value} {xs : List Value} {e : TypeId} {size : Nat} (h : w.ownsRow B e size v n xs) (hB : B' ≤ B) : w.ownsRow B' e size v n xs := by
  obtain ⟨h1, h2 | ⟨g, cap, cur, rfl, hg, rest⟩⟩ := h
  · exact ⟨h1, Or.inl h2⟩
  · exact ⟨h1, Or.inr ⟨g, cap, cur, rfl, Nat.le_trans hB hg, rest⟩⟩
set_option maxHeartbeats 2000000 in
theorem rrput4 (ct : BitVec 64) (ep : BitVec 32) (t1 t2 : BitVec 64) (wr : World) : Calls Try.prog 8 #[rtv ⟨ct, ep, 4, (t1, t2)⟩] wr fun e w' => ∃ v, e = .returned (.tuple #[v, .bool true]) ∧ w'.ownsRow wr.heap.size 5 1 v 32 ((rtL ⟨ct, ep, 4, (t1, t2)⟩).map (Value.int .u8)) ∧ Below wr.heap.size wr w' := by
  have hp : IntKind.u64.wrap (nv32 ep) = nv32 ep := by
    have := nv32_range ep
    rw [IntKind.wrap_u64]
    omega
  unfold rtv rtL
  dsimp only
  have hB : Below wr.heap.size wr (wr.alloc (.cells #[.int .u64 (nv ct), .int .u32 (nv32 ep), .int .i64 4, .int .u64 (nv t1), .int .u64 (nv t2)] 27)) := (Below.refl _ _).alloc (Nat.le_refl _) _
  have bx : CBox 27 (wr.alloc (.cells #[.int .u64 (nv ct), .int .u32 (nv32 ep), .int .i64 4, .int .u64 (nv t1), .int .u64 (nv t2)] 27)) wr.heap.size #[.int .u64 (nv ct), .int .u32 (nv32 ep), .int .i64 4, .int .u64 (nv t1), .int .u64 (nv t2)] := CBox.new _ _ _
  have k0 : (wr.alloc (.cells #[.int .u64 (nv ct), .int .u32 (nv32 ep), .int .i64 4, .int .u64 (nv t1), .int .u64 (nv t2)] 27)).cell? ⟨wr.heap.size, 2, none⟩ = some (.int .i64 4) := bx.cell 2
  go_enter Try.func8, Try.ntmps8
  go_wp2_with fail
  clear k0
  generalize wr.alloc (.cells #[.int .u64 (nv ct), .int .u32 (nv32 ep), .int .i64 4, .int .u64 (nv t1), .int .u64 (nv t2)] 27) = W at *
  have hlt := bx.lt
  refine startX (S := fun w' => Below W.heap.size W w') 8 (by kernel_rfl) (Below.refl _ _).drew (fun hHeld => ?_)
  refine takeY 0 18 (v := ?_) rfl rfl (by kernel_rfl) (by kernel_rfl) (by kernel_rfl) (fun _ _ _ h => h) (by rfl) (by kernel_rfl) (by kernel_rfl) (by decide) hHeld (fun w hSw => ?_) ?_
  rotate_left 1
  · (try dsimp only at hSw)
    clear hSw
    go_simp
    try with_reducible rfl
  simp only [List.set_cons_succ, List.set_cons_zero]
  refine takeY 1 19 (v := ?_) rfl rfl (by kernel_rfl) (by kernel_rfl) (by kernel_rfl) (fun _ _ _ h => h) (by rfl) (by kernel_rfl) (by kernel_rfl) (by decide) hHeld (fun w hSw => ?_) ?_
  rotate_left 1
  · (try dsimp only at hSw)
    have e0_ : w.cell? ⟨wr.heap.size, 0, none⟩ = some (.int .u64 (nv ct)) := (bx.grown hSw).cell 0
    clear hSw
    go_simp
    try with_reducible rfl
  simp only [List.set_cons_succ, List.set_cons_zero]
  refine takeY 3 21 (v := ?_) rfl rfl (by kernel_rfl) (by kernel_rfl) (by kernel_rfl) (fun _ _ _ h => h) (by rfl) (by kernel_rfl) (by kernel_rfl) (by decide) hHeld (fun w hSw => ?_) ?_
  rotate_left 1
  · (try dsimp only at hSw)
    clear hSw
    go_simp
    try with_reducible rfl
  simp only [List.set_cons_succ, List.set_cons_zero]
  refine takeY 4 22 (v := ?_) rfl rfl (by kernel_rfl) (by kernel_rfl) (by kernel_rfl) (fun _ _ _ h => h) (by rfl) (by kernel_rfl) (by kernel_rfl) (by decide) hHeld (fun w hSw => ?_) ?_
  rotate_left 1
  · (try dsimp only at hSw)
    have e0_ : w.cell? ⟨wr.heap.size, 1, none⟩ = some (.int .u32 (nv32 ep)) := (bx.grown hSw).cell 1
    clear hSw
    go_simp
    try with_reducible rfl
  simp only [List.set_cons_succ, List.set_cons_zero]
  refine takeY 5 23 (v := ?_) rfl rfl (by kernel_rfl) (by kernel_rfl) (by kernel_rfl) (fun _ _ _ h => h) (by rfl) (by kernel_rfl) (by kernel_rfl) (by decide) hHeld (fun w hSw => ?_) ?_
  rotate_left 1
  · (try dsimp only at hSw)
    have e0_ := hp
    clear hSw
    go_simp
    try with_reducible rfl
  simp only [List.set_cons_succ, List.set_cons_zero]
  refine onlyX 2 rfl (by kernel_rfl) (by rfl) (fun K hK => ?_)
  go_wp2_with fail
  refine (rput_own ct.toNat 8 _ (by decide) (by decide)).mono ?_
  rintro e w1 ⟨v1, rfl, own1, hb1⟩
  have hW1 : Below W.heap.size W w1 := (Below.refl _ _).drew.trans hb1
  replace own1 : w1.ownsRow W.heap.size 5 1 v1 8 ((putL ct.toNat 8).map (Value.int .u8)) := own1
  refine hK.out _ _ (fun _ => hW1) (fun _ => ?_)
  clear hK K hHeld hb1
  refine onlyX 6 rfl (by kernel_rfl) (by rfl) (fun K hK => ?_)
  go_wp2_with fail
  refine (rput_in ep.toNat 4 (by decide) (by decide) _).mono ?_
  rintro e w2 ⟨x2, c2, rfl, s2, f2, hb2⟩
  have hW2 := hW1.trans (hb2.mono hW1.size)
  replace own1 := own_grown own1 hb2
  refine hK.out _ _ (fun _ => hW2) (fun _ => ?_)
  clear hK K hb2
  refine onlyX 7 rfl (by kernel_rfl) (by rfl) (fun K hK => ?_)
  refine wp_app (.tmp 20) (.tmp 24) rfl W.heap.size v1 8 (putL ct.toNat 8) rfl own1 x2 4 c2 (putL ep.toNat 4) rfl s2 f2.2.2 (by decide) hW2.size ?_
  intro v3 w3 own3 hb3 _
  have hW3 : Below W.heap.size W w3 := hW2.grown hb3 hW2.size (own_block own1)
  refine hK.out _ _ (fun _ => hW3) (fun _ => ?_)
  clear hK K own1 s2 hb3
  refine onlyX 8 rfl (by kernel_rfl) (by rfl) (fun K hK => ?_)
  go_wp2
  refine hK.out _ _ (fun h => absurd rfl h) (fun _ => ?_)
  clear hK K
  refine doneX (by kernel_rfl) ?_ _
  replace bx := bx.grown hW3
  have j0 : w3.cell? ⟨wr.heap.size, 2, none⟩ = some (.int .i64 4) := bx.cell 2
  obtain ⟨y3, d3, rfl, -, -, -⟩ := own_is own3
  go_wp2_with fail
  clear j0
  refine (rput_in ((4 : Int).toNat) 4 (by decide) (by decide) _).mono ?_
  rintro e w4 ⟨x4, c4, rfl, s4, f4, hb4⟩
  have hW4 := hW3.trans (hb4.mono hW3.size)
  replace own3 := own_grown own3 hb4
  replace bx := bx.grown hb4
  clear hb4
  go_wp2_with (at_builtin; refine wpList_app rfl (.tmp 26) (.tmp 30) rfl W.heap.size _ (8 + 4) (putL ct.toNat 8 ++ putL ep.toNat 4) rfl own3 x4 4 c4 _ rfl s4 f4.2.2 (by decide) hW4.size ?_)
  intro v5 w5 own5 hb5 _
  have hW5 := hW4.trans hb5
  replace bx : CBox 27 w5 wr.heap.size #[.int .u64 (nv ct), .int .u32 (nv32 ep), .int .i64 4, .int .u64 (nv t1), .int .u64 (nv t2)] := (hb5.block _ hlt).trans bx
  clear own3 s4 hb5
  have j0 : w5.cell? ⟨wr.heap.size, 3, none⟩ = some (.int .u64 (nv t1)) := bx.cell 3
  have j1 : w5.cell? ⟨wr.heap.size, 4, none⟩ = some (.int .u64 (nv t2)) := bx.cell 4
  obtain ⟨y5, d5, rfl, -, -, -⟩ := own_is own5
  go_wp2_with fail
  clear j0 j1
  refine (rbytes_in (t1, t2) _).mono ?_
  rintro e w6 ⟨x6, c6, rfl, s6, f6, hb6⟩
  have hW6 := hW5.trans (hb6.mono hW5.size)
  have OWN5 := hide' (own_grown own5 hb6)
  clear hb6 own5
  go_wp2_with (at_builtin; refine wpList_app rfl (.tmp 32) (.tmp 35) rfl W.heap.size _ ((8 + 4) + 4) (putL ct.toNat 8 ++ putL ep.toNat 4 ++ putL (4 : Int).toNat 4) rfl OWN5.out x6 16 c6 (pairL (t1, t2)) rfl s6 f6.2.2 (by decide) hW6.size ?_)
  intro v7 w7 own7 hb7 _
  have hW7 := hW6.trans hb7
  clear s6 hb7
  obtain ⟨y7, d7, rfl, -, -, -⟩ := own_is own7
  go_wp2
  go_ret2
  exact ⟨_, rfl, own_base own7 (Nat.le_of_lt hlt), hB.trans (hW7.mono hB.size)⟩
set_option maxHeartbeats 2000000 in
theorem rrput8 (ct : BitVec 64) (ep : BitVec 32) (t1 t2 : BitVec 64) (wr : World) : Calls Try.prog 8 #[rtv ⟨ct, ep, 8, (t1, t2)⟩] wr fun e w' => ∃ v, e = .returned (.tuple #[v, .bool true]) ∧ w'.ownsRow wr.heap.size 5 1 v 32 ((rtL ⟨ct, ep, 8, (t1, t2)⟩).map (Value.int .u8)) ∧ Below wr.heap.size wr w' := by
  have hp : IntKind.u64.wrap (nv32 ep) = nv32 ep := by
    have := nv32_range ep
    rw [IntKind.wrap_u64]
    omega
  unfold rtv rtL
  dsimp only
  have hB : Below wr.heap.size wr (wr.alloc (.cells #[.int .u64 (nv ct), .int .u32 (nv32 ep), .int .i64 8, .int .u64 (nv t1), .int .u64 (nv t2)] 27)) := (Below.refl _ _).alloc (Nat.le_refl _) _
  have bx : CBox 27 (wr.alloc (.cells #[.int .u64 (nv ct), .int .u32 (nv32 ep), .int .i64 8, .int .u64 (nv t1), .int .u64 (nv t2)] 27)) wr.heap.size #[.int .u64 (nv ct), .int .u32 (nv32 ep), .int .i64 8, .int .u64 (nv t1), .int .u64 (nv t2)] := CBox.new _ _ _
  have k0 : (wr.alloc (.cells #[.int .u64 (nv ct), .int .u32 (nv32 ep), .int .i64 8, .int .u64 (nv t1), .int .u64 (nv t2)] 27)).cell? ⟨wr.heap.size, 2, none⟩ = some (.int .i64 8) := bx.cell 2
  go_enter Try.func8, Try.ntmps8
  go_wp2_with fail
  clear k0
  generalize wr.alloc (.cells #[.int .u64 (nv ct), .int .u32 (nv32 ep), .int .i64 8, .int .u64 (nv t1), .int .u64 (nv t2)] 27) = W at *
  have hlt := bx.lt
  refine startX (S := fun w' => Below W.heap.size W w') 8 (by kernel_rfl) (Below.refl _ _).drew (fun hHeld => ?_)
  refine takeY 0 18 (v := ?_) rfl rfl (by kernel_rfl) (by kernel_rfl) (by kernel_rfl) (fun _ _ _ h => h) (by rfl) (by kernel_rfl) (by kernel_rfl) (by decide) hHeld (fun w hSw => ?_) ?_
  rotate_left 1
  · (try dsimp only at hSw)
    clear hSw
    go_simp
    try with_reducible rfl
  simp only [List.set_cons_succ, List.set_cons_zero]
  refine takeY 1 19 (v := ?_) rfl rfl (by kernel_rfl) (by kernel_rfl) (by kernel_rfl) (fun _ _ _ h => h) (by rfl) (by kernel_rfl) (by kernel_rfl) (by decide) hHeld (fun w hSw => ?_) ?_
  rotate_left 1
  · (try dsimp only at hSw)
    have e0_ : w.cell? ⟨wr.heap.size, 0, none⟩ = some (.int .u64 (nv ct)) := (bx.grown hSw).cell 0
    clear hSw
    go_simp
    try with_reducible rfl
  simp only [List.set_cons_succ, List.set_cons_zero]
  refine takeY 3 21 (v := ?_) rfl rfl (by kernel_rfl) (by kernel_rfl) (by kernel_rfl) (fun _ _ _ h => h) (by rfl) (by kernel_rfl) (by kernel_rfl) (by decide) hHeld (fun w hSw => ?_) ?_
  rotate_left 1
  · (try dsimp only at hSw)
    clear hSw
    go_simp
    try with_reducible rfl
  simp only [List.set_cons_succ, List.set_cons_zero]
  refine takeY 4 22 (v := ?_) rfl rfl (by kernel_rfl) (by kernel_rfl) (by kernel_rfl) (fun _ _ _ h => h) (by rfl) (by kernel_rfl) (by kernel_rfl) (by decide) hHeld (fun w hSw => ?_) ?_
  rotate_left 1
  · (try dsimp only at hSw)
    have e0_ : w.cell? ⟨wr.heap.size, 1, none⟩ = some (.int .u32 (nv32 ep)) := (bx.grown hSw).cell 1
    clear hSw
    go_simp
    try with_reducible rfl
  simp only [List.set_cons_succ, List.set_cons_zero]
  refine takeY 5 23 (v := ?_) rfl rfl (by kernel_rfl) (by kernel_rfl) (by kernel_rfl) (fun _ _ _ h => h) (by rfl) (by kernel_rfl) (by kernel_rfl) (by decide) hHeld (fun w hSw => ?_) ?_
  rotate_left 1
  · (try dsimp only at hSw)
    have e0_ := hp
    clear hSw
    go_simp
    try with_reducible rfl
  simp only [List.set_cons_succ, List.set_cons_zero]
  refine onlyX 2 rfl (by kernel_rfl) (by rfl) (fun K hK => ?_)
  go_wp2_with fail
  refine (rput_own ct.toNat 8 _ (by decide) (by decide)).mono ?_
  rintro e w1 ⟨v1, rfl, own1, hb1⟩
  have hW1 : Below W.heap.size W w1 := (Below.refl _ _).drew.trans hb1
  replace own1 : w1.ownsRow W.heap.size 5 1 v1 8 ((putL ct.toNat 8).map (Value.int .u8)) := own1
  refine hK.out _ _ (fun _ => hW1) (fun _ => ?_)
  clear hK K hHeld hb1
  refine onlyX 6 rfl (by kernel_rfl) (by rfl) (fun K hK => ?_)
  go_wp2_with fail
  refine (rput_in ep.toNat 4 (by decide) (by decide) _).mono ?_
  rintro e w2 ⟨x2, c2, rfl, s2, f2, hb2⟩
  have hW2 := hW1.trans (hb2.mono hW1.size)
  replace own1 := own_grown own1 hb2
  refine hK.out _ _ (fun _ => hW2) (fun _ => ?_)
  clear hK K hb2
  refine onlyX 7 rfl (by kernel_rfl) (by rfl) (fun K hK => ?_)
  refine wp_app (.tmp 20) (.tmp 24) rfl W.heap.size v1 8 (putL ct.toNat 8) rfl own1 x2 4 c2 (putL ep.toNat 4) rfl s2 f2.2.2 (by decide) hW2.size ?_
  intro v3 w3 own3 hb3 _
  have hW3 : Below W.heap.size W w3 := hW2.grown hb3 hW2.size (own_block own1)
  refine hK.out _ _ (fun _ => hW3) (fun _ => ?_)
  clear hK K own1 s2 hb3
  refine onlyX 8 rfl (by kernel_rfl) (by rfl) (fun K hK => ?_)
  go_wp2
  refine hK.out _ _ (fun h => absurd rfl h) (fun _ => ?_)
  clear hK K
  refine doneX (by kernel_rfl) ?_ _
  replace bx := bx.grown hW3
  have j0 : w3.cell? ⟨wr.heap.size, 2, none⟩ = some (.int .i64 8) := bx.cell 2
  obtain ⟨y3, d3, rfl, -, -, -⟩ := own_is own3
  go_wp2_with fail
  clear j0
  refine (rput_in ((8 : Int).toNat) 4 (by decide) (by decide) _).mono ?_
  rintro e w4 ⟨x4, c4, rfl, s4, f4, hb4⟩
  have hW4 := hW3.trans (hb4.mono hW3.size)
  replace own3 := own_grown own3 hb4
  replace bx := bx.grown hb4
  clear hb4
  go_wp2_with (at_builtin; refine wpList_app rfl (.tmp 26) (.tmp 30) rfl W.heap.size _ (8 + 4) (putL ct.toNat 8 ++ putL ep.toNat 4) rfl own3 x4 4 c4 _ rfl s4 f4.2.2 (by decide) hW4.size ?_)
  intro v5 w5 own5 hb5 _
  have hW5 := hW4.trans hb5
  replace bx : CBox 27 w5 wr.heap.size #[.int .u64 (nv ct), .int .u32 (nv32 ep), .int .i64 8, .int .u64 (nv t1), .int .u64 (nv t2)] := (hb5.block _ hlt).trans bx
  clear own3 s4 hb5
  have j0 : w5.cell? ⟨wr.heap.size, 3, none⟩ = some (.int .u64 (nv t1)) := bx.cell 3
  have j1 : w5.cell? ⟨wr.heap.size, 4, none⟩ = some (.int .u64 (nv t2)) := bx.cell 4
  obtain ⟨y5, d5, rfl, -, -, -⟩ := own_is own5
  go_wp2_with fail
  clear j0 j1
  refine (rbytes_in (t1, t2) _).mono ?_
  rintro e w6 ⟨x6, c6, rfl, s6, f6, hb6⟩
  have hW6 := hW5.trans (hb6.mono hW5.size)
  have OWN5 := hide' (own_grown own5 hb6)
  clear hb6 own5
  go_wp2_with (at_builtin; refine wpList_app rfl (.tmp 32) (.tmp 35) rfl W.heap.size _ ((8 + 4) + 4) (putL ct.toNat 8 ++ putL ep.toNat 4 ++ putL (8 : Int).toNat 4) rfl OWN5.out x6 16 c6 (pairL (t1, t2)) rfl s6 f6.2.2 (by decide) hW6.size ?_)
  intro v7 w7 own7 hb7 _
  have hW7 := hW6.trans hb7
  clear s6 hb7
  obtain ⟨y7, d7, rfl, -, -, -⟩ := own_is own7
  go_wp2
  go_ret2
  exact ⟨_, rfl, own_base own7 (Nat.le_of_lt hlt), hB.trans (hW7.mono hB.size)⟩
set_option maxHeartbeats 2000000 in
theorem rrput16 (ct : BitVec 64) (ep : BitVec 32) (t1 t2 : BitVec 64) (wr : World) : Calls Try.prog 8 #[rtv ⟨ct, ep, 16, (t1, t2)⟩] wr fun e w' => ∃ v, e = .returned (.tuple #[v, .bool true]) ∧ w'.ownsRow wr.heap.size 5 1 v 32 ((rtL ⟨ct, ep, 16, (t1, t2)⟩).map (Value.int .u8)) ∧ Below wr.heap.size wr w' := by
  have hp : IntKind.u64.wrap (nv32 ep) = nv32 ep := by
    have := nv32_range ep
    rw [IntKind.wrap_u64]
    omega
  unfold rtv rtL
  dsimp only
  have hB : Below wr.heap.size wr (wr.alloc (.cells #[.int .u64 (nv ct), .int .u32 (nv32 ep), .int .i64 16, .int .u64 (nv t1), .int .u64 (nv t2)] 27)) := (Below.refl _ _).alloc (Nat.le_refl _) _
  have bx : CBox 27 (wr.alloc (.cells #[.int .u64 (nv ct), .int .u32 (nv32 ep), .int .i64 16, .int .u64 (nv t1), .int .u64 (nv t2)] 27)) wr.heap.size #[.int .u64 (nv ct), .int .u32 (nv32 ep), .int .i64 16, .int .u64 (nv t1), .int .u64 (nv t2)] := CBox.new _ _ _
  have k0 : (wr.alloc (.cells #[.int .u64 (nv ct), .int .u32 (nv32 ep), .int .i64 16, .int .u64 (nv t1), .int .u64 (nv t2)] 27)).cell? ⟨wr.heap.size, 2, none⟩ = some (.int .i64 16) := bx.cell 2
  go_enter Try.func8, Try.ntmps8
  go_wp2_with fail
  clear k0
  generalize wr.alloc (.cells #[.int .u64 (nv ct), .int .u32 (nv32 ep), .int .i64 16, .int .u64 (nv t1), .int .u64 (nv t2)] 27) = W at *
  have hlt := bx.lt
  refine startX (S := fun w' => Below W.heap.size W w') 8 (by kernel_rfl) (Below.refl _ _).drew (fun hHeld => ?_)
  refine takeY 0 18 (v := ?_) rfl rfl (by kernel_rfl) (by kernel_rfl) (by kernel_rfl) (fun _ _ _ h => h) (by rfl) (by kernel_rfl) (by kernel_rfl) (by decide) hHeld (fun w hSw => ?_) ?_
  rotate_left 1
  · (try dsimp only at hSw)
    clear hSw
    go_simp
    try with_reducible rfl
  simp only [List.set_cons_succ, List.set_cons_zero]
  refine takeY 1 19 (v := ?_) rfl rfl (by kernel_rfl) (by kernel_rfl) (by kernel_rfl) (fun _ _ _ h => h) (by rfl) (by kernel_rfl) (by kernel_rfl) (by decide) hHeld (fun w hSw => ?_) ?_
  rotate_left 1
  · (try dsimp only at hSw)
    have e0_ : w.cell? ⟨wr.heap.size, 0, none⟩ = some (.int .u64 (nv ct)) := (bx.grown hSw).cell 0
    clear hSw
    go_simp
    try with_reducible rfl
  simp only [List.set_cons_succ, List.set_cons_zero]
  refine takeY 3 21 (v := ?_) rfl rfl (by kernel_rfl) (by kernel_rfl) (by kernel_rfl) (fun _ _ _ h => h) (by rfl) (by kernel_rfl) (by kernel_rfl) (by decide) hHeld (fun w hSw => ?_) ?_
  rotate_left 1
  · (try dsimp only at hSw)
    clear hSw
    go_simp
    try with_reducible rfl
  simp only [List.set_cons_succ, List.set_cons_zero]
  refine takeY 4 22 (v := ?_) rfl rfl (by kernel_rfl) (by kernel_rfl) (by kernel_rfl) (fun _ _ _ h => h) (by rfl) (by kernel_rfl) (by kernel_rfl) (by decide) hHeld (fun w hSw => ?_) ?_
  rotate_left 1
  · (try dsimp only at hSw)
    have e0_ : w.cell? ⟨wr.heap.size, 1, none⟩ = some (.int .u32 (nv32 ep)) := (bx.grown hSw).cell 1
    clear hSw
    go_simp
    try with_reducible rfl
  simp only [List.set_cons_succ, List.set_cons_zero]
  refine takeY 5 23 (v := ?_) rfl rfl (by kernel_rfl) (by kernel_rfl) (by kernel_rfl) (fun _ _ _ h => h) (by rfl) (by kernel_rfl) (by kernel_rfl) (by decide) hHeld (fun w hSw => ?_) ?_
  rotate_left 1
  · (try dsimp only at hSw)
    have e0_ := hp
    clear hSw
    go_simp
    try with_reducible rfl
  simp only [List.set_cons_succ, List.set_cons_zero]
  refine onlyX 2 rfl (by kernel_rfl) (by rfl) (fun K hK => ?_)
  go_wp2_with fail
  refine (rput_own ct.toNat 8 _ (by decide) (by decide)).mono ?_
  rintro e w1 ⟨v1, rfl, own1, hb1⟩
  have hW1 : Below W.heap.size W w1 := (Below.refl _ _).drew.trans hb1
  replace own1 : w1.ownsRow W.heap.size 5 1 v1 8 ((putL ct.toNat 8).map (Value.int .u8)) := own1
  refine hK.out _ _ (fun _ => hW1) (fun _ => ?_)
  clear hK K hHeld hb1
  refine onlyX 6 rfl (by kernel_rfl) (by rfl) (fun K hK => ?_)
  go_wp2_with fail
  refine (rput_in ep.toNat 4 (by decide) (by decide) _).mono ?_
  rintro e w2 ⟨x2, c2, rfl, s2, f2, hb2⟩
  have hW2 := hW1.trans (hb2.mono hW1.size)
  replace own1 := own_grown own1 hb2
  refine hK.out _ _ (fun _ => hW2) (fun _ => ?_)
  clear hK K hb2
  refine onlyX 7 rfl (by kernel_rfl) (by rfl) (fun K hK => ?_)
  refine wp_app (.tmp 20) (.tmp 24) rfl W.heap.size v1 8 (putL ct.toNat 8) rfl own1 x2 4 c2 (putL ep.toNat 4) rfl s2 f2.2.2 (by decide) hW2.size ?_
  intro v3 w3 own3 hb3 _
  have hW3 : Below W.heap.size W w3 := hW2.grown hb3 hW2.size (own_block own1)
  refine hK.out _ _ (fun _ => hW3) (fun _ => ?_)
  clear hK K own1 s2 hb3
  refine onlyX 8 rfl (by kernel_rfl) (by rfl) (fun K hK => ?_)
  go_wp2
  refine hK.out _ _ (fun h => absurd rfl h) (fun _ => ?_)
  clear hK K
  refine doneX (by kernel_rfl) ?_ _
  replace bx := bx.grown hW3
  have j0 : w3.cell? ⟨wr.heap.size, 2, none⟩ = some (.int .i64 16) := bx.cell 2
  obtain ⟨y3, d3, rfl, -, -, -⟩ := own_is own3
  go_wp2_with fail
  clear j0
  refine (rput_in ((16 : Int).toNat) 4 (by decide) (by decide) _).mono ?_
  rintro e w4 ⟨x4, c4, rfl, s4, f4, hb4⟩
  have hW4 := hW3.trans (hb4.mono hW3.size)
  replace own3 := own_grown own3 hb4
  replace bx := bx.grown hb4
  clear hb4
  go_wp2_with (at_builtin; refine wpList_app rfl (.tmp 26) (.tmp 30) rfl W.heap.size _ (8 + 4) (putL ct.toNat 8 ++ putL ep.toNat 4) rfl own3 x4 4 c4 _ rfl s4 f4.2.2 (by decide) hW4.size ?_)
  intro v5 w5 own5 hb5 _
  have hW5 := hW4.trans hb5
  replace bx : CBox 27 w5 wr.heap.size #[.int .u64 (nv ct), .int .u32 (nv32 ep), .int .i64 16, .int .u64 (nv t1), .int .u64 (nv t2)] := (hb5.block _ hlt).trans bx
  clear own3 s4 hb5
  have j0 : w5.cell? ⟨wr.heap.size, 3, none⟩ = some (.int .u64 (nv t1)) := bx.cell 3
  have j1 : w5.cell? ⟨wr.heap.size, 4, none⟩ = some (.int .u64 (nv t2)) := bx.cell 4
  obtain ⟨y5, d5, rfl, -, -, -⟩ := own_is own5
  go_wp2_with fail
  clear j0 j1
  refine (rbytes_in (t1, t2) _).mono ?_
  rintro e w6 ⟨x6, c6, rfl, s6, f6, hb6⟩
  have hW6 := hW5.trans (hb6.mono hW5.size)
  have OWN5 := hide' (own_grown own5 hb6)
  clear hb6 own5
  go_wp2_with (at_builtin; refine wpList_app rfl (.tmp 32) (.tmp 35) rfl W.heap.size _ ((8 + 4) + 4) (putL ct.toNat 8 ++ putL ep.toNat 4 ++ putL (16 : Int).toNat 4) rfl OWN5.out x6 16 c6 (pairL (t1, t2)) rfl s6 f6.2.2 (by decide) hW6.size ?_)
  intro v7 w7 own7 hb7 _
  have hW7 := hW6.trans hb7
  clear s6 hb7
  obtain ⟨y7, d7, rfl, -, -, -⟩ := own_is own7
  go_wp2
  go_ret2
  exact ⟨_, rfl, own_base own7 (Nat.le_of_lt hlt), hB.trans (hW7.mono hB.size)⟩
theorem rrput (r : Rt) (h : rtOk r) (w : World) : Calls Try.prog 8 #[rtv r] w fun e w' => ∃ v, e = .returned (.tuple #[v, .bool true]) ∧ w'.ownsRow w.heap.size 5 1 v 32 ((rtL r).map (Value.int .u8)) ∧ Below w.heap.size w w' := by
  obtain ⟨ct, ep, sl, t1, t2⟩ := r
  rcases h with h | h | h
  · obtain rfl : sl = 4 := h
    exact rrput4 ct ep t1 t2 w
  · obtain rfl : sl = 8 := h
    exact rrput8 ct ep t1 t2 w
  · obtain rfl : sl = 16 := h
    exact rrput16 ct ep t1 t2 w
theorem rrput_yes : RtPutYes 8 := fun r h w => (rrput r h w).mono (by
  rintro e w' ⟨v, rfl, own, hb⟩
  obtain ⟨x, c, rfl, hs, f1, f2, f3⟩ := own_sin (rtL_length r) own
  exact ⟨x, c, rfl, hs.mono (fun k _ hk => own_block own k hk), ⟨f1, f2, f3⟩, hb⟩)
theorem rrput_no : RtPutNo 8 := by
  intro r h w
  obtain ⟨ct, ep, sl, t1, t2⟩ := r
  have h1 : (sl != 4) = true := bne_iff_ne.2 fun e => h (Or.inl e)
  have h2 : (sl != 8) = true := bne_iff_ne.2 fun e => h (Or.inr (Or.inl e))
  have h3 : (sl != 16) = true := bne_iff_ne.2 fun e => h (Or.inr (Or.inr e))
  unfold rtv
  dsimp only
  have hB : Below w.heap.size w (w.alloc (.cells #[.int .u64 (nv ct), .int .u32 (nv32 ep), .int .i64 sl, .int .u64 (nv t1), .int .u64 (nv t2)] 27)) := (Below.refl _ _).alloc (Nat.le_refl _) _
  clear h
  go_enter Try.func8, Try.ntmps8
  go_wp2
  go_ret2
  exact ⟨_, _, rfl, fit_none, hB⟩
end Go.Proofs.Ytnimhlkoikjomaa
