/- The document's leaves: Put. -/
import Derived.Test.YtnfddebcnkdajaaRefLf
import Derived.Test.YtnfddebcnkdajaaLfOut
namespace Go.Proofs.Ytnfddebcnkdajaa
open Go.RowKit
set_option maxRecDepth 20000

set_option maxHeartbeats 2000000 in
theorem rlput_own (l : Lf) (slot : Int) (h : lfOk l slot) (w : World) : Calls Try.prog 8 #[lfv l, .int .i64 slot] w fun e w' => ∃ v, e = .returned (.tuple #[v, .bool true]) ∧ w'.ownsRow w.heap.size 5 1 v 32 ((lfL l).map (Value.int .u8)) ∧ Below w.heap.size w w' := by
  have hi := rlis l slot
  rw [show lfIs l slot = true from decide_eq_true h] at hi
  have hl : 0 ≤ l.lba := by
    obtain ⟨-, h | ⟨h, -⟩⟩ := h
    · rw [h]
      exact Int.le_refl 0
    · exact h.1
  have hl2 : l.lba < 32 := by
    obtain ⟨-, h | ⟨h, -⟩⟩ := h
    · rw [h]
      show (0 : Int) < 32
      decide
    · exact h.2
  clear h
  obtain ⟨k, d, lb, ep, sl, ve, t1, t2⟩ := l
  obtain ⟨lb, rfl⟩ : ∃ n : Nat, lb = n := ⟨lb.toNat, by have : (0 : Int) ≤ lb := hl; omega⟩
  have hlw : IntKind.u64.wrap (lb : Int) = lb := by
    have h1 : (lb : Int) < 32 := hl2
    rw [IntKind.wrap_u64]
    omega
  have hkw : IntKind.u8.wrap k = k % 256 := by rw [IntKind.wrap_u8]
  have hp : IntKind.u64.wrap (nv32 ep) = nv32 ep := by
    have := nv32_range ep
    rw [IntKind.wrap_u64]
    omega
  clear hl hl2
  unfold lfv at hi ⊢
  dsimp only at hi ⊢
  cases d
  · have hB : Below w.heap.size w (w.alloc (.cells #[.int .i64 k, .bool false, .int .i64 (lb : Int), .int .u32 (nv32 ep), .int .u32 (nv32 sl), .int .u64 (nv ve), .int .u64 (nv t1), .int .u64 (nv t2)] 29)) := (Below.refl _ _).alloc (Nat.le_refl _) _
    have bx0 : CBox 29 (w.alloc (.cells #[.int .i64 k, .bool false, .int .i64 (lb : Int), .int .u32 (nv32 ep), .int .u32 (nv32 sl), .int .u64 (nv ve), .int .u64 (nv t1), .int .u64 (nv t2)] 29)) w.heap.size #[.int .i64 k, .bool false, .int .i64 (lb : Int), .int .u32 (nv32 ep), .int .u32 (nv32 sl), .int .u64 (nv ve), .int .u64 (nv t1), .int .u64 (nv t2)] := CBox.new _ _ _
    go_enter Try.func8, Try.ntmps8
    go_wp2_with fail
    generalize w.alloc (.cells #[.int .i64 k, .bool false, .int .i64 (lb : Int), .int .u32 (nv32 ep), .int .u32 (nv32 sl), .int .u64 (nv ve), .int .u64 (nv t1), .int .u64 (nv t2)] 29) = W at *
    refine (hi _).mono ?_
    clear hi
    rintro e w1 ⟨rfl, hb1⟩
    replace bx0 := bx0.grown hb1
    replace hB := hB.trans (hb1.mono hB.size)
    clear hb1
    have k0 : w1.cell? ⟨w.heap.size, 0, none⟩ = some (.int .i64 k) := bx0.cell 0
    have k1 : w1.cell? ⟨w.heap.size, 1, none⟩ = some (.bool false) := bx0.cell 1
    have hb2 : Below w1.heap.size w1 (w1.alloc (.cells #[.int .u8 (k % 256), .int .u8 0] 5)) := (Below.refl _ _).alloc (Nat.le_refl _) _
    have row : CBox 5 (w1.alloc (.cells #[.int .u8 (k % 256), .int .u8 0] 5)) w1.heap.size #[.int .u8 (k % 256), .int .u8 0] := CBox.new _ _ _
    have k2 : (w1.alloc (.cells #[.int .u8 (k % 256), .int .u8 0] 5)).cell? ⟨w.heap.size, 1, none⟩ = some (.bool false) := (bx0.grown hb2).cell 1
    have bx : CBox 29 (w1.alloc (.cells #[.int .u8 (k % 256), .int .u8 0] 5)) w.heap.size #[.int .i64 k, .bool false, .int .i64 (lb : Int), .int .u32 (nv32 ep), .int .u32 (nv32 sl), .int .u64 (nv ve), .int .u64 (nv t1), .int .u64 (nv t2)] := bx0.grown hb2
    have own := own_cbox (base := w.heap.size + 1) row rfl bx0.lt (show (2 : Nat) ≤ maxLen by decide)
    replace hB := hB.trans (hb2.mono hB.size)
    have k3 : (w1.alloc (.cells #[.int .u8 (k % 256), .int .u8 0] 5)).cell? ⟨w.heap.size, 2, none⟩ = some (.int .i64 (lb : Int)) := bx.cell 2
    clear row
    go_wp2_with fail
    clear k0 k1 k2 k3 hb2
    generalize w1.alloc (.cells #[.int .u8 (k % 256), .int .u8 0] 5) = w2 at *
    clear bx0
    have own : w2.ownsRow (w.heap.size + 1) 5 1 (.slice (some ⟨w1.heap.size, 0, none⟩) 2 2) 2 (([k % 256, 0] : List Int).map (Value.int .u8)) := own
    refine (rput_in lb 2 (by decide) (by decide) _).mono ?_
    rintro e w3 ⟨x0, c0, rfl, s0, f0, hb⟩
    replace own := own_grown own hb
    replace bx := bx.grown hb
    replace hB := hB.trans (hb.mono hB.size)
    clear hb
    have hz := bx.lt
    go_wp2_with (at_builtin; refine wpList_app rfl (.tmp 19) (.tmp 23) rfl (w.heap.size + 1) (.slice (some ⟨w1.heap.size, 0, none⟩) 2 2) 2 ([k % 256, 0]) rfl own x0 2 c0 (putL lb 2) rfl s0 f0.2.2 (by decide) hz ?_)
    intro v0 w4 own' hb _
    replace bx : CBox 29 w4 w.heap.size #[.int .i64 k, .bool false, .int .i64 (lb : Int), .int .u32 (nv32 ep), .int .u32 (nv32 sl), .int .u64 (nv ve), .int .u64 (nv t1), .int .u64 (nv t2)] := (hb.block _ (Nat.lt_succ_self _)).trans bx
    replace hB := hB.trans (hb.mono (Nat.le_succ _))
    clear hb own s0
    have own := own'
    clear own' hz
    have j0 : w4.cell? ⟨w.heap.size, 3, none⟩ = some (.int .u32 (nv32 ep)) := bx.cell 3
    have j1 := hp
    obtain ⟨y0, d0, rfl, -, -, -⟩ := own_is own
    go_wp2_with fail
    clear j0 j1
    refine (rput_in ep.toNat 4 (by decide) (by decide) _).mono ?_
    rintro e w5 ⟨x1, c1, rfl, s1, f1, hb⟩
    replace own := own_grown own hb
    replace bx := bx.grown hb
    replace hB := hB.trans (hb.mono hB.size)
    clear hb
    have hz := bx.lt
    go_wp2_with (at_builtin; refine wpList_app rfl (.tmp 25) (.tmp 30) rfl (w.heap.size + 1) (.slice y0 (2 + 2) d0) (2 + 2) ([k % 256, 0] ++ putL lb 2) rfl own x1 4 c1 (putL ep.toNat 4) rfl s1 f1.2.2 (by decide) hz ?_)
    intro v1 w6 own' hb _
    replace bx : CBox 29 w6 w.heap.size #[.int .i64 k, .bool false, .int .i64 (lb : Int), .int .u32 (nv32 ep), .int .u32 (nv32 sl), .int .u64 (nv ve), .int .u64 (nv t1), .int .u64 (nv t2)] := (hb.block _ (Nat.lt_succ_self _)).trans bx
    replace hB := hB.trans (hb.mono (Nat.le_succ _))
    clear hb own s1
    have own := own'
    clear own' hz
    have j0 : w6.cell? ⟨w.heap.size, 5, none⟩ = some (.int .u64 (nv ve)) := bx.cell 5
    have j1 := hp
    obtain ⟨y1, d1, rfl, -, -, -⟩ := own_is own
    go_wp2_with fail
    clear j0 j1
    refine (rput_in ve.toNat 8 (by decide) (by decide) _).mono ?_
    rintro e w7 ⟨x2, c2, rfl, s2, f2, hb⟩
    replace own := own_grown own hb
    replace bx := bx.grown hb
    replace hB := hB.trans (hb.mono hB.size)
    clear hb
    have hz := bx.lt
    go_wp2_with (at_builtin; refine wpList_app rfl (.tmp 32) (.tmp 36) rfl (w.heap.size + 1) (.slice y1 ((2 + 2) + 4) d1) ((2 + 2) + 4) ([k % 256, 0] ++ putL lb 2 ++ putL ep.toNat 4) rfl own x2 8 c2 (putL ve.toNat 8) rfl s2 f2.2.2 (by decide) hz ?_)
    intro v2 w8 own' hb _
    replace bx : CBox 29 w8 w.heap.size #[.int .i64 k, .bool false, .int .i64 (lb : Int), .int .u32 (nv32 ep), .int .u32 (nv32 sl), .int .u64 (nv ve), .int .u64 (nv t1), .int .u64 (nv t2)] := (hb.block _ (Nat.lt_succ_self _)).trans bx
    replace hB := hB.trans (hb.mono (Nat.le_succ _))
    clear hb own s2
    have own := own'
    clear own' hz
    have j0 : w8.cell? ⟨w.heap.size, 6, none⟩ = some (.int .u64 (nv t1)) := bx.cell 6
    have j1 : w8.cell? ⟨w.heap.size, 7, none⟩ = some (.int .u64 (nv t2)) := bx.cell 7
    obtain ⟨y2, d2, rfl, -, -, -⟩ := own_is own
    go_wp2_with fail
    clear j0 j1
    refine (rbytes_in (t1, t2) _).mono ?_
    rintro e w9 ⟨x3, c3, rfl, s3, f3, hb⟩
    replace own := own_grown own hb
    replace bx := bx.grown hb
    replace hB := hB.trans (hb.mono hB.size)
    clear hb
    have hz := bx.lt
    go_wp2_with (at_builtin; refine wpList_app rfl (.tmp 38) (.tmp 41) rfl (w.heap.size + 1) (.slice y2 (((2 + 2) + 4) + 8) d2) (((2 + 2) + 4) + 8) ([k % 256, 0] ++ putL lb 2 ++ putL ep.toNat 4 ++ putL ve.toNat 8) rfl own x3 16 c3 (pairL (t1, t2)) rfl s3 f3.2.2 (by decide) hz ?_)
    intro v3 w10 own' hb _
    replace bx : CBox 29 w10 w.heap.size #[.int .i64 k, .bool false, .int .i64 (lb : Int), .int .u32 (nv32 ep), .int .u32 (nv32 sl), .int .u64 (nv ve), .int .u64 (nv t1), .int .u64 (nv t2)] := (hb.block _ (Nat.lt_succ_self _)).trans bx
    replace hB := hB.trans (hb.mono (Nat.le_succ _))
    clear hb own s3
    have own := own'
    clear own' hz
    go_wp2
    go_ret2
    have own : w10.ownsRow w.heap.size 5 1 v3 32 ((lfL ⟨k, false, (lb : Int), ep, sl, ve, t1, t2⟩).map (Value.int .u8)) := own_low own (Nat.le_succ _)
    exact ⟨_, rfl, own, hB⟩
  · have hB : Below w.heap.size w (w.alloc (.cells #[.int .i64 k, .bool true, .int .i64 (lb : Int), .int .u32 (nv32 ep), .int .u32 (nv32 sl), .int .u64 (nv ve), .int .u64 (nv t1), .int .u64 (nv t2)] 29)) := (Below.refl _ _).alloc (Nat.le_refl _) _
    have bx0 : CBox 29 (w.alloc (.cells #[.int .i64 k, .bool true, .int .i64 (lb : Int), .int .u32 (nv32 ep), .int .u32 (nv32 sl), .int .u64 (nv ve), .int .u64 (nv t1), .int .u64 (nv t2)] 29)) w.heap.size #[.int .i64 k, .bool true, .int .i64 (lb : Int), .int .u32 (nv32 ep), .int .u32 (nv32 sl), .int .u64 (nv ve), .int .u64 (nv t1), .int .u64 (nv t2)] := CBox.new _ _ _
    go_enter Try.func8, Try.ntmps8
    go_wp2_with fail
    generalize w.alloc (.cells #[.int .i64 k, .bool true, .int .i64 (lb : Int), .int .u32 (nv32 ep), .int .u32 (nv32 sl), .int .u64 (nv ve), .int .u64 (nv t1), .int .u64 (nv t2)] 29) = W at *
    refine (hi _).mono ?_
    clear hi
    rintro e w1 ⟨rfl, hb1⟩
    replace bx0 := bx0.grown hb1
    replace hB := hB.trans (hb1.mono hB.size)
    clear hb1
    have k0 : w1.cell? ⟨w.heap.size, 0, none⟩ = some (.int .i64 k) := bx0.cell 0
    have k1 : w1.cell? ⟨w.heap.size, 1, none⟩ = some (.bool true) := bx0.cell 1
    have hb2 : Below w1.heap.size w1 (w1.alloc (.cells #[.int .u8 (k % 256), .int .u8 0] 5)) := (Below.refl _ _).alloc (Nat.le_refl _) _
    have row : CBox 5 (w1.alloc (.cells #[.int .u8 (k % 256), .int .u8 0] 5)) w1.heap.size #[.int .u8 (k % 256), .int .u8 0] := CBox.new _ _ _
    have k2 : (w1.alloc (.cells #[.int .u8 (k % 256), .int .u8 0] 5)).cell? ⟨w.heap.size, 1, none⟩ = some (.bool true) := (bx0.grown hb2).cell 1
    have row1 : (w1.alloc (.cells #[.int .u8 (k % 256), .int .u8 0] 5)).cell? ⟨w1.heap.size, 1, none⟩ = some (.int .u8 0) := row.cell 1
    have frz : (w1.alloc (.cells #[.int .u8 (k % 256), .int .u8 0] 5)).frozen? ⟨w1.heap.size, 1, none⟩ = false := row.frozen 1
    have hb3 : Below w1.heap.size w1 (w1.alloc (.cells #[.int .u8 (k % 256), .int .u8 1] 5)) := (Below.refl _ _).alloc (Nat.le_refl _) _
    have row2 : CBox 5 (w1.alloc (.cells #[.int .u8 (k % 256), .int .u8 1] 5)) w1.heap.size #[.int .u8 (k % 256), .int .u8 1] := CBox.new _ _ _
    have bx : CBox 29 (w1.alloc (.cells #[.int .u8 (k % 256), .int .u8 1] 5)) w.heap.size #[.int .i64 k, .bool true, .int .i64 (lb : Int), .int .u32 (nv32 ep), .int .u32 (nv32 sl), .int .u64 (nv ve), .int .u64 (nv t1), .int .u64 (nv t2)] := bx0.grown hb3
    have own := own_cbox (base := w.heap.size + 1) row2 rfl bx0.lt (show (2 : Nat) ≤ maxLen by decide)
    replace hB := hB.trans (hb3.mono hB.size)
    have k3 : (w1.alloc (.cells #[.int .u8 (k % 256), .int .u8 1] 5)).cell? ⟨w.heap.size, 2, none⟩ = some (.int .i64 (lb : Int)) := bx.cell 2
    clear row row2
    go_wp2_with fail
    clear k0 k1 k2 k3 hb2 hb3 row1 frz
    generalize w1.alloc (.cells #[.int .u8 (k % 256), .int .u8 1] 5) = w2 at *
    clear bx0
    have own : w2.ownsRow (w.heap.size + 1) 5 1 (.slice (some ⟨w1.heap.size, 0, none⟩) 2 2) 2 (([k % 256, 1] : List Int).map (Value.int .u8)) := own
    refine (rput_in lb 2 (by decide) (by decide) _).mono ?_
    rintro e w3 ⟨x0, c0, rfl, s0, f0, hb⟩
    replace own := own_grown own hb
    replace bx := bx.grown hb
    replace hB := hB.trans (hb.mono hB.size)
    clear hb
    have hz := bx.lt
    go_wp2_with (at_builtin; refine wpList_app rfl (.tmp 19) (.tmp 23) rfl (w.heap.size + 1) (.slice (some ⟨w1.heap.size, 0, none⟩) 2 2) 2 ([k % 256, 1]) rfl own x0 2 c0 (putL lb 2) rfl s0 f0.2.2 (by decide) hz ?_)
    intro v0 w4 own' hb _
    replace bx : CBox 29 w4 w.heap.size #[.int .i64 k, .bool true, .int .i64 (lb : Int), .int .u32 (nv32 ep), .int .u32 (nv32 sl), .int .u64 (nv ve), .int .u64 (nv t1), .int .u64 (nv t2)] := (hb.block _ (Nat.lt_succ_self _)).trans bx
    replace hB := hB.trans (hb.mono (Nat.le_succ _))
    clear hb own s0
    have own := own'
    clear own' hz
    have j0 : w4.cell? ⟨w.heap.size, 3, none⟩ = some (.int .u32 (nv32 ep)) := bx.cell 3
    have j1 := hp
    obtain ⟨y0, d0, rfl, -, -, -⟩ := own_is own
    go_wp2_with fail
    clear j0 j1
    refine (rput_in ep.toNat 4 (by decide) (by decide) _).mono ?_
    rintro e w5 ⟨x1, c1, rfl, s1, f1, hb⟩
    replace own := own_grown own hb
    replace bx := bx.grown hb
    replace hB := hB.trans (hb.mono hB.size)
    clear hb
    have hz := bx.lt
    go_wp2_with (at_builtin; refine wpList_app rfl (.tmp 25) (.tmp 30) rfl (w.heap.size + 1) (.slice y0 (2 + 2) d0) (2 + 2) ([k % 256, 1] ++ putL lb 2) rfl own x1 4 c1 (putL ep.toNat 4) rfl s1 f1.2.2 (by decide) hz ?_)
    intro v1 w6 own' hb _
    replace bx : CBox 29 w6 w.heap.size #[.int .i64 k, .bool true, .int .i64 (lb : Int), .int .u32 (nv32 ep), .int .u32 (nv32 sl), .int .u64 (nv ve), .int .u64 (nv t1), .int .u64 (nv t2)] := (hb.block _ (Nat.lt_succ_self _)).trans bx
    replace hB := hB.trans (hb.mono (Nat.le_succ _))
    clear hb own s1
    have own := own'
    clear own' hz
    have j0 : w6.cell? ⟨w.heap.size, 5, none⟩ = some (.int .u64 (nv ve)) := bx.cell 5
    have j1 := hp
    obtain ⟨y1, d1, rfl, -, -, -⟩ := own_is own
    go_wp2_with fail
    clear j0 j1
    refine (rput_in ve.toNat 8 (by decide) (by decide) _).mono ?_
    rintro e w7 ⟨x2, c2, rfl, s2, f2, hb⟩
    replace own := own_grown own hb
    replace bx := bx.grown hb
    replace hB := hB.trans (hb.mono hB.size)
    clear hb
    have hz := bx.lt
    go_wp2_with (at_builtin; refine wpList_app rfl (.tmp 32) (.tmp 36) rfl (w.heap.size + 1) (.slice y1 ((2 + 2) + 4) d1) ((2 + 2) + 4) ([k % 256, 1] ++ putL lb 2 ++ putL ep.toNat 4) rfl own x2 8 c2 (putL ve.toNat 8) rfl s2 f2.2.2 (by decide) hz ?_)
    intro v2 w8 own' hb _
    replace bx : CBox 29 w8 w.heap.size #[.int .i64 k, .bool true, .int .i64 (lb : Int), .int .u32 (nv32 ep), .int .u32 (nv32 sl), .int .u64 (nv ve), .int .u64 (nv t1), .int .u64 (nv t2)] := (hb.block _ (Nat.lt_succ_self _)).trans bx
    replace hB := hB.trans (hb.mono (Nat.le_succ _))
    clear hb own s2
    have own := own'
    clear own' hz
    have j0 : w8.cell? ⟨w.heap.size, 6, none⟩ = some (.int .u64 (nv t1)) := bx.cell 6
    have j1 : w8.cell? ⟨w.heap.size, 7, none⟩ = some (.int .u64 (nv t2)) := bx.cell 7
    obtain ⟨y2, d2, rfl, -, -, -⟩ := own_is own
    go_wp2_with fail
    clear j0 j1
    refine (rbytes_in (t1, t2) _).mono ?_
    rintro e w9 ⟨x3, c3, rfl, s3, f3, hb⟩
    replace own := own_grown own hb
    replace bx := bx.grown hb
    replace hB := hB.trans (hb.mono hB.size)
    clear hb
    have hz := bx.lt
    go_wp2_with (at_builtin; refine wpList_app rfl (.tmp 38) (.tmp 41) rfl (w.heap.size + 1) (.slice y2 (((2 + 2) + 4) + 8) d2) (((2 + 2) + 4) + 8) ([k % 256, 1] ++ putL lb 2 ++ putL ep.toNat 4 ++ putL ve.toNat 8) rfl own x3 16 c3 (pairL (t1, t2)) rfl s3 f3.2.2 (by decide) hz ?_)
    intro v3 w10 own' hb _
    replace bx : CBox 29 w10 w.heap.size #[.int .i64 k, .bool true, .int .i64 (lb : Int), .int .u32 (nv32 ep), .int .u32 (nv32 sl), .int .u64 (nv ve), .int .u64 (nv t1), .int .u64 (nv t2)] := (hb.block _ (Nat.lt_succ_self _)).trans bx
    replace hB := hB.trans (hb.mono (Nat.le_succ _))
    clear hb own s3
    have own := own'
    clear own' hz
    go_wp2
    go_ret2
    have own : w10.ownsRow w.heap.size 5 1 v3 32 ((lfL ⟨k, true, (lb : Int), ep, sl, ve, t1, t2⟩).map (Value.int .u8)) := own_low own (Nat.le_succ _)
    exact ⟨_, rfl, own, hB⟩
theorem rlput_yes : LfPutYes 8 := fun l slot h w => (rlput_own l slot h w).mono (by
  rintro e w' ⟨v, rfl, own, hb⟩
  obtain ⟨z, c, rfl, hs, h1, h2, h3⟩ := own_sin (lfL_length l) own
  exact ⟨z, c, rfl, hs.mono (fun k _ hk => own_block own k hk), ⟨h1, h2, h3⟩, hb⟩)
theorem rlput_no : LfPutNo 8 := by
  intro l slot h w
  have hi := rlis l slot
  rw [show lfIs l slot = false from decide_eq_false h] at hi
  clear h
  obtain ⟨k, d, lb, ep, sl, ve, t1, t2⟩ := l
  have hB : Below w.heap.size w (w.alloc (.cells #[.int .i64 k, .bool d, .int .i64 lb, .int .u32 (nv32 ep), .int .u32 (nv32 sl), .int .u64 (nv ve), .int .u64 (nv t1), .int .u64 (nv t2)] 29)) := (Below.refl _ _).alloc (Nat.le_refl _) _
  unfold lfv at hi ⊢
  dsimp only at hi ⊢
  go_enter Try.func8, Try.ntmps8
  go_wp2_with fail
  refine (hi _).mono ?_
  rintro e w1 ⟨rfl, hb1⟩
  replace hB := hB.trans (hb1.mono hB.size)
  go_wp2
  go_ret2
  exact ⟨_, _, rfl, fit_none, hB⟩
end Go.Proofs.Ytnfddebcnkdajaa
