/- WirePairs' walk. -/
import Derived.Test.YtbekiajnkmlokaaBytes
import Derived.Test.YtbekiajnkmlokaaView
import Derived.Test.YtbekiajnkmlokaaEq
namespace Go.Proofs.Ytbekiajnkmlokaa
open Go.RowKit

set_option maxHeartbeats 400000 in
theorem rpair_none (a : Option Addr) (n cap : Nat) (w : World) (h : n ≠ 16) :
    Calls Try.prog 15 #[.slice a n cap] w fun e w' => e = .returned (.tuple #[.agg #[.int .u64 0, .int .u64 0], .bool false]) ∧ Below w.heap.size w w' := by
  have h' : ((n : Int) != 16) = true := by rw [bne_iff_ne]; omega
  go_enter Try.func15, Try.ntmps15
  go_wp2
  exact bodyPost_ret (v := .tuple #[.agg #[.int .u64 0, .int .u64 0], .bool false]) (by simp [results, Try.results15, go_sem]) rfl ⟨rfl, by go_grown⟩

set_option maxHeartbeats 1000000 in
theorem rpair_some (b off cap : Nat) (xs : List Int) (w : World) (hn : xs.length = 16) (hcap : 16 ≤ cap) (hcm : cap ≤ maxLen) (hx : Bytes xs) (hb : b < w.heap.size) (hat0 : At w b off xs) :
    Calls Try.prog 15 #[.slice (some ⟨b, off, none⟩) 16 cap] w fun e w' => e = .returned (.tuple #[.agg #[.int .u64 (num (xs.take 8)), .int .u64 (num (xs.drop 8))], .bool true]) ∧ Below w.heap.size w w' := by
  unfold maxLen at hcm
  have hn8 : 8 ≤ xs.length := by omega
  have c8 : (8 : Int) ≤ (cap : Int) := by omega
  have c16 : (16 : Int) ≤ (cap : Int) := by omega
  have cn : ¬ cap = 8 := by omega
  have hat := hat0.alloc hb (.cells #[.int .u64 0, .int .u64 0] 32)
  go_enter Try.func15, Try.ntmps15
  go_wp2_with fail
  refine (rget_some b off cap 8 (xs.take 8) _ (by simp [hn]) (by omega) (by omega) (hx.take 8) (At.cut1 hat 8 hn8)).mono ?_
  rintro e w1 ⟨rfl, rfl⟩
  go_wp2_with fail
  refine (rget_some b (off + 8) (cap - 8) 8 (xs.drop 8) _ (by simp [hn]) (by omega) (by omega) (hx.drop 8) (At.cut2 hat 8)).mono ?_
  rintro e w1 ⟨rfl, rfl⟩
  go_wp2
  exact bodyPost_ret (v := .tuple #[.agg #[.int .u64 (num (xs.take 8)), .int .u64 (num (xs.drop 8))], .bool true]) (by simp [results, Try.results15, go_sem]) rfl ⟨rfl, by go_grown⟩

set_option maxHeartbeats 400000 in
theorem pairs_long (a : Option Addr) (n cap : Nat) (p0 p1 : Int) (w : World) (h : 50 < n) :
    Calls Try.prog 5 #[.slice a n cap, .agg #[.int .u64 p0, .int .u64 p1]] w fun e w' => e = .returned (.bool true) ∧ Below w.heap.size w w' := by
  go_enter Try.func5, Try.ntmps5
  go_wp2
  go_ret
  exact ⟨rfl, by go_grown⟩

/-- Two numbers in a block of their own. -/
def Box (w : World) (b : Nat) (x y : Int) : Prop := w.heap[b]? = some (.cells #[.int .u64 x, .int .u64 y] 32 (0, 0))
theorem Box.c0 {w : World} {b : Nat} {x y : Int} (h : Box w b x y) : w.cell? ⟨b, 0, none⟩ = some (.int .u64 x) := by unfold Box at h; simp [World.cell?, h]
theorem Box.c1 {w : World} {b : Nat} {x y : Int} (h : Box w b x y) : w.cell? ⟨b, 1, none⟩ = some (.int .u64 y) := by unfold Box at h; simp [World.cell?, h]
theorem Box.lt {w : World} {b : Nat} {x y : Int} (h : Box w b x y) : b < w.heap.size := by
  obtain ⟨hlt, _⟩ := Array.getElem?_eq_some_iff.1 h
  exact hlt
theorem Box.below {w w' : World} {B b : Nat} {x y : Int} (h : Box w b x y) (hb : Below B w w') (hB : b < B) : Box w' b x y := (hb.block b hB).trans h
theorem Box.alloc {w : World} {b : Nat} {x y : Int} (h : Box w b x y) (o : Obj) : Box (w.alloc o) b x y := h.below ((Below.refl w.heap.size w).alloc (Nat.le_refl _) o) h.lt
theorem Box.new (w : World) (x y : Int) : Box (w.alloc (.cells #[.int .u64 x, .int .u64 y] 32)) w.heap.size x y := by
  show (w.heap.push _)[w.heap.size]? = _
  simp
theorem Box.grown {w w' : World} {b : Nat} {x y : Int} (h : Box w b x y) (hb : Below w.heap.size w w') : Box w' b x y := h.below hb h.lt
theorem num_left (A B : Nat) (hA : A < 18446744073709551616) : num ((putL A 8 ++ putL B 8).take 8) = A := by
  rw [List.take_left' (putL_length A 8), num_put8 A hA]
theorem num_right (A B : Nat) (hB : B < 18446744073709551616) : num ((putL A 8 ++ putL B 8).drop 8) = B := by
  rw [List.drop_left' (putL_length A 8), num_put8 B hB]

set_option maxHeartbeats 2000000 in
theorem pairs_none (a : Option Addr) (n cap : Nat) (A B : Nat) (w : World) (h50 : n ≤ 50) (h : n ≠ 16) (hA : A < 18446744073709551616) (hB : B < 18446744073709551616) :
    Calls Try.prog 5 #[.slice a n cap, .agg #[.int .u64 A, .int .u64 B]] w fun e w' => e = .returned (.bool true) ∧ Below w.heap.size w w' := by
  go_enter Try.func5, Try.ntmps5
  go_wp2_with fail
  have bp0 := Box.new w A B
  have hB0 : Below w.heap.size w (w.alloc (.cells #[.int .u64 A, .int .u64 B] 32)) := (Below.refl _ _).alloc (Nat.le_refl _) _
  refine (pair_none a n cap _ h).mono ?_
  rintro e w1 ⟨rfl, hb1⟩
  go_wp2_with fail
  have bp1 := bp0.grown hb1
  have bx1 := Box.new w1 0 0
  have hBx : Below w1.heap.size w1 (w1.alloc (.cells #[.int .u64 0, .int .u64 0] 32)) := (Below.refl _ _).alloc (Nat.le_refl _) _
  refine (rpair_none a n cap _ h).mono ?_
  rintro e w2 ⟨rfl, hb2⟩
  have bp2 := (bp1.grown hBx).grown hb2
  have bx2 := bx1.grown hb2
  have by2 := Box.new w2 0 0
  have hBy : Below w2.heap.size w2 (w2.alloc (.cells #[.int .u64 0, .int .u64 0] 32)) := (Below.refl _ _).alloc (Nat.le_refl _) _
  have q0 := (bp2.grown hBy).c0
  have q1 := (bp2.grown hBy).c1
  clear bp0 bx1 bp1
  go_wp2_with fail
  refine (bytes_any A B _).mono ?_
  rintro e w3 ⟨g, rfl, hg, hrow, hb3⟩
  go_wp2_with fail
  refine (pair_some g 0 16 (putL A 8 ++ putL B 8) _ (by simp [putL_length]) (Nat.le_refl _) (by decide) ((putL_bytes A 8).append (putL_bytes B 8)) hrow.lt hrow.at).mono ?_
  rintro e w4 ⟨rfl, hb4⟩
  rw [num_left A B hA, num_right A B hB]
  have bp4 := ((bp2.grown hBy).grown hb3).grown hb4
  have bx4 := ((bx2.grown hBy).grown hb3).grown hb4
  have by4 := (by2.grown hb3).grown hb4
  have bz4 := Box.new w4 A B
  have hBz : Below w4.heap.size w4 (w4.alloc (.cells #[.int .u64 A, .int .u64 B] 32)) := (Below.refl _ _).alloc (Nat.le_refl _) _
  have hAll : Below w.heap.size w (w4.alloc (.cells #[.int .u64 A, .int .u64 B] 32)) := by
    have s0 := hB0.size
    have s1 := hb1.size
    have s2 := hBx.size
    have s3 := hb2.size
    have s4 := hBy.size
    have s5 := hb3.size
    have s6 := hb4.size
    exact ((((((hB0.trans (hb1.mono s0)).trans (hBx.mono (Nat.le_trans s0 s1))).trans (hb2.mono (by omega))).trans (hBy.mono (by omega))).trans (hb3.mono (by omega))).trans (hb4.mono (by omega))).trans (hBz.mono (by omega))
  clear q0 q1
  go_wp2_with fail
  have heq := eq32
  have x0 := (bx4.grown hBz).c0
  have x1 := (bx4.grown hBz).c1
  have y0 := (by4.grown hBz).c0
  have y1 := (by4.grown hBz).c1
  have z0 := bz4.c0
  have z1 := bz4.c1
  have p0 := (bp4.grown hBz).c0
  have p1 := (bp4.grown hBz).c1
  have lx := (bx4.grown hBz).lt
  have ly := (by4.grown hBz).lt
  have lz := bz4.lt
  have lp := (bp4.grown hBz).lt
  clear bx4 by4 bz4 bp4 bx2 bp2 by2 hBx hBy hBz hb1 hb2 hb3 hb4 hrow hg hB0
  generalize w4.alloc (.cells #[.int .u64 A, .int .u64 B] 32) = W5 at *
  generalize w1.heap.size = bX at *
  generalize w2.heap.size = bY at *
  generalize w4.heap.size = bZ at *
  refine wp_region_held_drew (S := fun w' => w'.cell? ⟨bX, 0, none⟩ = some (.int .u64 0) ∧ w'.cell? ⟨bX, 1, none⟩ = some (.int .u64 0) ∧ w'.cell? ⟨bY, 0, none⟩ = some (.int .u64 0) ∧ w'.cell? ⟨bY, 1, none⟩ = some (.int .u64 0) ∧ w'.cell? ⟨bZ, 0, none⟩ = some (.int .u64 A) ∧ w'.cell? ⟨bZ, 1, none⟩ = some (.int .u64 B) ∧ w'.cell? ⟨w.heap.size, 0, none⟩ = some (.int .u64 A) ∧ w'.cell? ⟨w.heap.size, 1, none⟩ = some (.int .u64 B)) (by kernel_rfl) (⟨x0, x1, y0, y1, z0, z1, p0, p1⟩) (fun hHeld => ?_)
  refine takeL 0 30 (v := ?_) rfl rfl (by kernel_rfl) (by kernel_rfl) (by kernel_rfl) (fun _ _ _ h => h) (by rfl) hHeld (fun w hSw => ?_) ?_
  rotate_left 1
  · (try dsimp only at hSw); go_simp; try with_reducible rfl
  simp only [List.set_cons_succ, List.set_cons_zero]
  refine takeL 1 31 (v := ?_) rfl rfl (by kernel_rfl) (by kernel_rfl) (by kernel_rfl) (fun _ _ _ h => h) (by rfl) hHeld (fun w hSw => ?_) ?_
  rotate_left 1
  · (try dsimp only at hSw); go_simp; try with_reducible rfl
  simp only [List.set_cons_succ, List.set_cons_zero]
  refine takeL 2 32 (v := ?_) rfl rfl (by kernel_rfl) (by kernel_rfl) (by kernel_rfl) (fun _ _ _ h => h) (by rfl) hHeld (fun w hSw => ?_) ?_
  rotate_left 1
  · (try dsimp only at hSw); go_simp; try with_reducible rfl
  simp only [List.set_cons_succ, List.set_cons_zero]
  refine takeM 3 33 32 rfl rfl rfl (by kernel_rfl) (by kernel_rfl) (by kernel_rfl) (fun _ _ _ h => h) (by rfl) hHeld rfl ?_
  simp only [List.set_cons_succ, List.set_cons_zero]
  refine takeM 4 34 6 rfl rfl rfl (by kernel_rfl) (by kernel_rfl) (by kernel_rfl) (fun _ _ _ h => h) (by rfl) hHeld rfl ?_
  simp only [List.set_cons_succ, List.set_cons_zero]
  refine takeM 5 35 8 rfl rfl rfl (by kernel_rfl) (by kernel_rfl) (by kernel_rfl) (fun _ _ _ h => h) (by rfl) hHeld rfl ?_
  simp only [List.set_cons_succ, List.set_cons_zero]
  refine takeL 6 36 (v := ?_) rfl rfl (by kernel_rfl) (by kernel_rfl) (by kernel_rfl) (fun _ _ _ h => h) (by rfl) hHeld (fun w hSw => ?_) ?_
  rotate_left 1
  · (try dsimp only at hSw); go_simp; try with_reducible rfl
  simp only [List.set_cons_succ, List.set_cons_zero]
  refine takeL 7 37 (v := ?_) rfl rfl (by kernel_rfl) (by kernel_rfl) (by kernel_rfl) (fun _ _ _ h => h) (by rfl) hHeld (fun w hSw => ?_) ?_
  rotate_left 1
  · (try dsimp only at hSw); go_simp; try with_reducible rfl
  simp only [List.set_cons_succ, List.set_cons_zero]
  refine takeM 8 38 37 rfl rfl rfl (by kernel_rfl) (by kernel_rfl) (by kernel_rfl) (fun _ _ _ h => h) (by rfl) hHeld rfl ?_
  simp only [List.set_cons_succ, List.set_cons_zero]
  refine takeM 9 39 6 rfl rfl rfl (by kernel_rfl) (by kernel_rfl) (by kernel_rfl) (fun _ _ _ h => h) (by rfl) hHeld rfl ?_
  simp only [List.set_cons_succ, List.set_cons_zero]
  refine takeL 10 40 (v := ?_) rfl rfl (by kernel_rfl) (by kernel_rfl) (by kernel_rfl) (fun _ _ _ h => h) (by rfl) hHeld (fun w hSw => ?_) ?_
  rotate_left 1
  · (try dsimp only at hSw); go_simp; try with_reducible rfl
  simp only [List.set_cons_succ, List.set_cons_zero]
  refine takeM 11 41 40 rfl rfl rfl (by kernel_rfl) (by kernel_rfl) (by kernel_rfl) (fun _ _ _ h => h) (by rfl) hHeld rfl ?_
  simp only [List.set_cons_succ, List.set_cons_zero]
  refine takeN 12 42 rfl rfl (by kernel_rfl) (by kernel_rfl) (by kernel_rfl) (fun _ _ _ h => h) (by rfl) hHeld ?_
  simp only [List.set_cons_succ, List.set_cons_zero]
  refine takeN 13 43 rfl rfl (by kernel_rfl) (by kernel_rfl) (by kernel_rfl) (fun _ _ _ h => h) (by rfl) hHeld ?_
  simp only [List.set_cons_succ, List.set_cons_zero]
  refine takeN 14 44 rfl rfl (by kernel_rfl) (by kernel_rfl) (by kernel_rfl) (fun _ _ _ h => h) (by rfl) hHeld ?_
  simp only [List.set_cons_succ, List.set_cons_zero]
  refine takeN 15 45 rfl rfl (by kernel_rfl) (by kernel_rfl) (by kernel_rfl) (fun _ _ _ h => h) (by rfl) hHeld ?_
  simp only [List.set_cons_succ, List.set_cons_zero]
  refine takeN 16 46 rfl rfl (by kernel_rfl) (by kernel_rfl) (by kernel_rfl) (fun _ _ _ h => h) (by rfl) hHeld ?_
  simp only [List.set_cons_succ, List.set_cons_zero]
  refine takeN 17 47 rfl rfl (by kernel_rfl) (by kernel_rfl) (by kernel_rfl) (fun _ _ _ h => h) (by rfl) hHeld ?_
  simp only [List.set_cons_succ, List.set_cons_zero]
  refine takeL 18 48 (v := ?_) rfl rfl (by kernel_rfl) (by kernel_rfl) (by kernel_rfl) (fun _ _ _ h => h) (by rfl) hHeld (fun w hSw => ?_) ?_
  rotate_left 1
  · (try dsimp only at hSw); go_simp; try with_reducible rfl
  simp only [List.set_cons_succ, List.set_cons_zero]
  refine takeL 19 49 (v := ?_) rfl rfl (by kernel_rfl) (by kernel_rfl) (by kernel_rfl) (fun _ _ _ h => h) (by rfl) hHeld (fun w hSw => ?_) ?_
  rotate_left 1
  · (try dsimp only at hSw); go_simp; try with_reducible rfl
  simp only [List.set_cons_succ, List.set_cons_zero]
  refine takeM 20 50 49 rfl rfl rfl (by kernel_rfl) (by kernel_rfl) (by kernel_rfl) (fun _ _ _ h => h) (by rfl) hHeld rfl ?_
  simp only [List.set_cons_succ, List.set_cons_zero]
  refine takeM 21 51 10 rfl rfl rfl (by kernel_rfl) (by kernel_rfl) (by kernel_rfl) (fun _ _ _ h => h) (by rfl) hHeld rfl ?_
  simp only [List.set_cons_succ, List.set_cons_zero]
  refine takeL 22 52 (v := ?_) rfl rfl (by kernel_rfl) (by kernel_rfl) (by kernel_rfl) (fun _ _ _ h => h) (by rfl) hHeld (fun w hSw => ?_) ?_
  rotate_left 1
  · (try dsimp only at hSw); go_simp; try with_reducible rfl
  simp only [List.set_cons_succ, List.set_cons_zero]
  refine takeM 23 53 52 rfl rfl rfl (by kernel_rfl) (by kernel_rfl) (by kernel_rfl) (fun _ _ _ h => h) (by rfl) hHeld rfl ?_
  simp only [List.set_cons_succ, List.set_cons_zero]
  refine takeL 24 54 (v := ?_) rfl rfl (by kernel_rfl) (by kernel_rfl) (by kernel_rfl) (fun _ _ _ h => h) (by rfl) hHeld (fun w hSw => ?_) ?_
  rotate_left 1
  · (try dsimp only at hSw); go_simp; try with_reducible rfl
  simp only [List.set_cons_succ, List.set_cons_zero]
  refine takeL 25 55 (v := ?_) rfl rfl (by kernel_rfl) (by kernel_rfl) (by kernel_rfl) (fun _ _ _ h => h) (by rfl) hHeld (fun w hSw => ?_) ?_
  rotate_left 1
  · (try dsimp only at hSw); go_simp; try with_reducible rfl
  simp only [List.set_cons_succ, List.set_cons_zero]
  refine takeL 26 56 (v := ?_) rfl rfl (by kernel_rfl) (by kernel_rfl) (by kernel_rfl) (fun _ _ _ h => h) (by rfl) hHeld (fun w hSw => ?_) ?_
  rotate_left 1
  · (try dsimp only at hSw); go_simp; try with_reducible rfl
  simp only [List.set_cons_succ, List.set_cons_zero]
  refine takeL 27 57 (v := ?_) rfl rfl (by kernel_rfl) (by kernel_rfl) (by kernel_rfl) (fun _ _ _ h => h) (by rfl) hHeld (fun w hSw => ?_) ?_
  rotate_left 1
  · (try dsimp only at hSw); go_simp; try with_reducible rfl
  simp only [List.set_cons_succ, List.set_cons_zero]
  refine takeM 28 58 57 rfl rfl rfl (by kernel_rfl) (by kernel_rfl) (by kernel_rfl) (fun _ _ _ h => h) (by rfl) hHeld rfl ?_
  simp only [List.set_cons_succ, List.set_cons_zero]
  refine onlyL 29 rfl (by kernel_rfl) (by rfl) (fun K hK => ?_)
  go_wp2_with fail
  refine (known_true _).mono ?_
  rintro e w6 ⟨rfl, hb6⟩
  simp only [World.size_drew] at hb6
  have cc : ∀ q o v, q < W5.heap.size → W5.cell? ⟨q, o, none⟩ = some v → w6.cell? ⟨q, o, none⟩ = some v := fun q o v hq h => (hb6.cell (p := ⟨q, o, none⟩) hq).trans h
  refine hK.out _ _ ⟨cc _ _ _ lx x0, cc _ _ _ lx x1, cc _ _ _ ly y0, cc _ _ _ ly y1, cc _ _ _ lz z0, cc _ _ _ lz z1, cc _ _ _ lp p0, cc _ _ _ lp p1⟩ (fun hHeld => ?_)
  clear hK K cc
  refine takeL 30 60 (v := ?_) rfl rfl (by kernel_rfl) (by kernel_rfl) (by kernel_rfl) (fun _ _ _ h => h) (by rfl) hHeld (fun w hSw => ?_) ?_
  rotate_left 1
  · (try dsimp only at hSw); go_simp; try with_reducible rfl
  simp only [List.set_cons_succ, List.set_cons_zero]
  refine takeA 31 4 60 rfl rfl rfl (by kernel_rfl) (by kernel_rfl) (by kernel_rfl) (fun _ _ _ h => h) (by rfl) hHeld rfl ?_
  simp only [List.set_cons_succ, List.set_cons_zero]
  refine wpAnyH_done (by kernel_rfl) ?_ _
  go_wp2
  go_ret
  exact ⟨rfl, hAll.trans (((Below.refl _ _).drew.trans hb6).mono hAll.size)⟩

set_option maxHeartbeats 2000000 in
theorem pairs_some (b off cap : Nat) (xs : List Int) (A B : Nat) (w : World) (hn : xs.length = 16) (hcap : 16 ≤ cap) (hcm : cap ≤ maxLen) (hx : Bytes xs) (hbw : b < w.heap.size) (hat : At w b off xs) (hA : A < 18446744073709551616) (hB : B < 18446744073709551616) :
    Calls Try.prog 5 #[.slice (some ⟨b, off, none⟩) 16 cap, .agg #[.int .u64 A, .int .u64 B]] w fun e w' => e = .returned (.bool true) ∧ Below w.heap.size w w' := by
  have hcm0 := hcm
  obtain ⟨X, hX⟩ := Int.eq_ofNat_of_zero_le (num_range _ (hx.take 8)).1
  obtain ⟨Y, hY⟩ := Int.eq_ofNat_of_zero_le (num_range _ (hx.drop 8)).1
  have HX : Hid (num (xs.take 8) = X) := hX
  have HY : Hid (num (xs.drop 8) = Y) := hY
  have HP : Hid (putL X 8 ++ putL Y 8 = xs) := by
    have e1 := putL_num _ (hx.take 8)
    have e2 := putL_num _ (hx.drop 8)
    rw [hX, Int.toNat_natCast, List.length_take, hn] at e1
    rw [hY, Int.toNat_natCast, List.length_drop, hn] at e2
    show putL X 8 ++ putL Y 8 = xs
    rw [show putL X 8 = xs.take 8 from e1, show putL Y 8 = xs.drop 8 from e2, List.take_append_drop]
  clear hX hY
  have hs := str_self xs
  go_enter Try.func5, Try.ntmps5
  go_wp2_with fail
  have bp0 := Box.new w A B
  have hB0 : Below w.heap.size w (w.alloc (.cells #[.int .u64 A, .int .u64 B] 32)) := (Below.refl _ _).alloc (Nat.le_refl _) _
  have at0 := hat.below hB0 hbw
  have lt0 : b < (w.alloc (.cells #[.int .u64 A, .int .u64 B] 32)).heap.size := by simp; omega
  refine (pair_some b off cap xs _ hn hcap hcm0 hx lt0 at0).mono ?_
  rintro e w1 ⟨rfl, hb1⟩
  rw [HX.out, HY.out]
  go_wp2_with fail
  have bp1 := bp0.grown hb1
  have bx1 := Box.new w1 X Y
  have hBx : Below w1.heap.size w1 (w1.alloc (.cells #[.int .u64 X, .int .u64 Y] 32)) := (Below.refl _ _).alloc (Nat.le_refl _) _
  have at1 := (at0.below hb1 lt0).below hBx (Nat.lt_of_lt_of_le lt0 hb1.size)
  have lt1 : b < (w1.alloc (.cells #[.int .u64 X, .int .u64 Y] 32)).heap.size := Nat.lt_of_lt_of_le lt0 (Nat.le_trans hb1.size hBx.size)
  refine (rpair_some b off cap xs _ hn hcap hcm0 hx lt1 at1).mono ?_
  rintro e w2 ⟨rfl, hb2⟩
  rw [HX.out, HY.out]
  have bp2 := (bp1.grown hBx).grown hb2
  have bx2 := bx1.grown hb2
  have by2 := Box.new w2 X Y
  have hBy : Below w2.heap.size w2 (w2.alloc (.cells #[.int .u64 X, .int .u64 Y] 32)) := (Below.refl _ _).alloc (Nat.le_refl _) _
  have q0 := (bp2.grown hBy).c0
  have q1 := (bp2.grown hBy).c1
  clear bp0 bx1 bp1
  have at2 := (at1.below hb2 lt1).below hBy (Nat.lt_of_lt_of_le lt1 hb2.size)
  have lt2 : b < (w2.alloc (.cells #[.int .u64 X, .int .u64 Y] 32)).heap.size := Nat.lt_of_lt_of_le lt1 (Nat.le_trans hb2.size hBy.size)
  go_wp2_with fail
  refine (bytes_any A B _).mono ?_
  rintro e w3 ⟨g, rfl, hg, hrow, hb3⟩
  go_wp2_with fail
  refine (pair_some g 0 16 (putL A 8 ++ putL B 8) _ (by simp [putL_length]) (Nat.le_refl _) (by decide) ((putL_bytes A 8).append (putL_bytes B 8)) hrow.lt hrow.at).mono ?_
  rintro e w4 ⟨rfl, hb4⟩
  rw [num_left A B hA, num_right A B hB]
  have bp4 := ((bp2.grown hBy).grown hb3).grown hb4
  have bx4 := ((bx2.grown hBy).grown hb3).grown hb4
  have by4 := (by2.grown hb3).grown hb4
  have bz4 := Box.new w4 A B
  have hBz : Below w4.heap.size w4 (w4.alloc (.cells #[.int .u64 A, .int .u64 B] 32)) := (Below.refl _ _).alloc (Nat.le_refl _) _
  have hAll : Below w.heap.size w (w4.alloc (.cells #[.int .u64 A, .int .u64 B] 32)) := by
    have s0 := hB0.size
    have s1 := hb1.size
    have s2 := hBx.size
    have s3 := hb2.size
    have s4 := hBy.size
    have s5 := hb3.size
    have s6 := hb4.size
    exact ((((((hB0.trans (hb1.mono s0)).trans (hBx.mono (Nat.le_trans s0 s1))).trans (hb2.mono (by omega))).trans (hBy.mono (by omega))).trans (hb3.mono (by omega))).trans (hb4.mono (by omega))).trans (hBz.mono (by omega))
  clear q0 q1
  go_wp2_with fail
  have heq := eq32
  have x0 := (bx4.grown hBz).c0
  have x1 := (bx4.grown hBz).c1
  have y0 := (by4.grown hBz).c0
  have y1 := (by4.grown hBz).c1
  have z0 := bz4.c0
  have z1 := bz4.c1
  have p0 := (bp4.grown hBz).c0
  have p1 := (bp4.grown hBz).c1
  have lx := (bx4.grown hBz).lt
  have ly := (by4.grown hBz).lt
  have lz := bz4.lt
  have lp := (bp4.grown hBz).lt
  have at4 := ((at2.below hb3 lt2).below hb4 (Nat.lt_of_lt_of_le lt2 hb3.size)).below hBz (Nat.lt_of_lt_of_le lt2 (Nat.le_trans hb3.size hb4.size))
  have lb := Nat.lt_of_lt_of_le lt2 (Nat.le_trans hb3.size (Nat.le_trans hb4.size hBz.size))
  clear bx4 by4 bz4 bp4 bx2 bp2 by2 hBx hBy hBz hb1 hb2 hb3 hb4 hrow hg at0 at1 at2 lt0 lt1 lt2 hB0
  generalize w4.alloc (.cells #[.int .u64 A, .int .u64 B] 32) = W5 at *
  generalize w1.heap.size = bX at *
  generalize w2.heap.size = bY at *
  generalize w4.heap.size = bZ at *
  refine wp_region_held_drew (S := fun w' => w'.cell? ⟨bX, 0, none⟩ = some (.int .u64 X) ∧ w'.cell? ⟨bX, 1, none⟩ = some (.int .u64 Y) ∧ w'.cell? ⟨bY, 0, none⟩ = some (.int .u64 X) ∧ w'.cell? ⟨bY, 1, none⟩ = some (.int .u64 Y) ∧ w'.cell? ⟨bZ, 0, none⟩ = some (.int .u64 A) ∧ w'.cell? ⟨bZ, 1, none⟩ = some (.int .u64 B) ∧ w'.cell? ⟨w.heap.size, 0, none⟩ = some (.int .u64 A) ∧ w'.cell? ⟨w.heap.size, 1, none⟩ = some (.int .u64 B) ∧ (convert 23 9 (.slice (some ⟨b, off, none⟩) 16 cap)).run Try.prog w' = .ok (.string (strOfNums xs)) w') (by kernel_rfl) (⟨x0, x1, y0, y1, z0, z1, p0, p1, (show At W5.drew b off xs from at4).conv hn⟩) (fun hHeld => ?_)
  refine takeL 0 30 (v := ?_) rfl rfl (by kernel_rfl) (by kernel_rfl) (by kernel_rfl) (fun _ _ _ h => h) (by rfl) hHeld (fun w hSw => ?_) ?_
  rotate_left 1
  · (try dsimp only at hSw); go_simp; try with_reducible rfl
  simp only [List.set_cons_succ, List.set_cons_zero]
  refine takeL 1 31 (v := ?_) rfl rfl (by kernel_rfl) (by kernel_rfl) (by kernel_rfl) (fun _ _ _ h => h) (by rfl) hHeld (fun w hSw => ?_) ?_
  rotate_left 1
  · (try dsimp only at hSw); go_simp; try with_reducible rfl
  simp only [List.set_cons_succ, List.set_cons_zero]
  refine takeL 2 32 (v := ?_) rfl rfl (by kernel_rfl) (by kernel_rfl) (by kernel_rfl) (fun _ _ _ h => h) (by rfl) hHeld (fun w hSw => ?_) ?_
  rotate_left 1
  · (try dsimp only at hSw); go_simp; try with_reducible rfl
  simp only [List.set_cons_succ, List.set_cons_zero]
  refine takeM 3 33 32 rfl rfl rfl (by kernel_rfl) (by kernel_rfl) (by kernel_rfl) (fun _ _ _ h => h) (by rfl) hHeld rfl ?_
  simp only [List.set_cons_succ, List.set_cons_zero]
  refine takeM 4 34 6 rfl rfl rfl (by kernel_rfl) (by kernel_rfl) (by kernel_rfl) (fun _ _ _ h => h) (by rfl) hHeld rfl ?_
  simp only [List.set_cons_succ, List.set_cons_zero]
  refine takeM 5 35 8 rfl rfl rfl (by kernel_rfl) (by kernel_rfl) (by kernel_rfl) (fun _ _ _ h => h) (by rfl) hHeld rfl ?_
  simp only [List.set_cons_succ, List.set_cons_zero]
  refine takeL 6 36 (v := ?_) rfl rfl (by kernel_rfl) (by kernel_rfl) (by kernel_rfl) (fun _ _ _ h => h) (by rfl) hHeld (fun w hSw => ?_) ?_
  rotate_left 1
  · (try dsimp only at hSw); go_simp; try with_reducible rfl
  simp only [List.set_cons_succ, List.set_cons_zero]
  refine takeL 7 37 (v := ?_) rfl rfl (by kernel_rfl) (by kernel_rfl) (by kernel_rfl) (fun _ _ _ h => h) (by rfl) hHeld (fun w hSw => ?_) ?_
  rotate_left 1
  · (try dsimp only at hSw); go_simp; try with_reducible rfl
  simp only [List.set_cons_succ, List.set_cons_zero]
  refine takeM 8 38 37 rfl rfl rfl (by kernel_rfl) (by kernel_rfl) (by kernel_rfl) (fun _ _ _ h => h) (by rfl) hHeld rfl ?_
  simp only [List.set_cons_succ, List.set_cons_zero]
  refine takeM 9 39 6 rfl rfl rfl (by kernel_rfl) (by kernel_rfl) (by kernel_rfl) (fun _ _ _ h => h) (by rfl) hHeld rfl ?_
  simp only [List.set_cons_succ, List.set_cons_zero]
  refine takeL 10 40 (v := ?_) rfl rfl (by kernel_rfl) (by kernel_rfl) (by kernel_rfl) (fun _ _ _ h => h) (by rfl) hHeld (fun w hSw => ?_) ?_
  rotate_left 1
  · (try dsimp only at hSw); go_simp; try with_reducible rfl
  simp only [List.set_cons_succ, List.set_cons_zero]
  refine takeM 11 41 40 rfl rfl rfl (by kernel_rfl) (by kernel_rfl) (by kernel_rfl) (fun _ _ _ h => h) (by rfl) hHeld rfl ?_
  simp only [List.set_cons_succ, List.set_cons_zero]
  refine takeL 12 42 (v := ?_) rfl rfl (by kernel_rfl) (by kernel_rfl) (by kernel_rfl) (fun _ _ _ h => h) (by rfl) hHeld (fun w hSw => ?_) ?_
  rotate_left 1
  · (try dsimp only at hSw); go_simp; try with_reducible rfl
  simp only [List.set_cons_succ, List.set_cons_zero]
  refine takeM 15 45 0 rfl rfl rfl (by kernel_rfl) (by kernel_rfl) (by kernel_rfl) (fun _ _ _ h => h) (by rfl) hHeld rfl ?_
  simp only [List.set_cons_succ, List.set_cons_zero]
  refine takeL 16 46 (v := ?_) rfl rfl (by kernel_rfl) (by kernel_rfl) (by kernel_rfl) (fun _ _ _ h => h) (by rfl) hHeld (fun w hSw => ?_) ?_
  rotate_left 1
  · (try dsimp only at hSw); go_simp; try with_reducible rfl
  simp only [List.set_cons_succ, List.set_cons_zero]
  refine onlyL 13 rfl (by kernel_rfl) (by rfl) (fun K hK => ?_)
  go_wp2_with fail
  refine (bytes_any X Y _).mono ?_
  rintro e w6 ⟨g6, rfl, hg6, hrow6, hb6⟩
  simp only [World.size_drew] at hb6 hg6
  have cc : ∀ q o v, q < W5.heap.size → W5.cell? ⟨q, o, none⟩ = some v → w6.cell? ⟨q, o, none⟩ = some v := fun q o v hq h => (hb6.cell (p := ⟨q, o, none⟩) hq).trans h
  have at6 := (show At W5.drew b off xs from at4).below hb6 lb
  have k6 := at6.conv (n := 16) (cap := cap) hn
  have hr6 := hrow6.at
  rw [HP.out] at hr6
  have k7 := hr6.conv (n := 16) (cap := 16) hn
  have S6 := And.intro (cc _ _ _ lx x0) (And.intro (cc _ _ _ lx x1) (And.intro (cc _ _ _ ly y0) (And.intro (cc _ _ _ ly y1) (And.intro (cc _ _ _ lz z0) (And.intro (cc _ _ _ lz z1) (And.intro (cc _ _ _ lp p0) (And.intro (cc _ _ _ lp p1) k6)))))))
  refine hK.out _ _ S6 (fun _ => ?_)
  clear hK K hHeld
  refine held_more (S' := fun w' => (w'.cell? ⟨bX, 0, none⟩ = some (.int .u64 X) ∧ w'.cell? ⟨bX, 1, none⟩ = some (.int .u64 Y) ∧ w'.cell? ⟨bY, 0, none⟩ = some (.int .u64 X) ∧ w'.cell? ⟨bY, 1, none⟩ = some (.int .u64 Y) ∧ w'.cell? ⟨bZ, 0, none⟩ = some (.int .u64 A) ∧ w'.cell? ⟨bZ, 1, none⟩ = some (.int .u64 B) ∧ w'.cell? ⟨w.heap.size, 0, none⟩ = some (.int .u64 A) ∧ w'.cell? ⟨w.heap.size, 1, none⟩ = some (.int .u64 B) ∧ (convert 23 9 (.slice (some ⟨b, off, none⟩) 16 cap)).run Try.prog w' = .ok (.string (strOfNums xs)) w') ∧ (convert 23 9 (.slice (some ⟨g6, 0, none⟩) 16 16)).run Try.prog w' = .ok (.string (strOfNums xs)) w') (fun _ h => h.1) _ _ _ _ ?_
  have hHeld : (fun w' : World => (w'.cell? ⟨bX, 0, none⟩ = some (.int .u64 X) ∧ w'.cell? ⟨bX, 1, none⟩ = some (.int .u64 Y) ∧ w'.cell? ⟨bY, 0, none⟩ = some (.int .u64 X) ∧ w'.cell? ⟨bY, 1, none⟩ = some (.int .u64 Y) ∧ w'.cell? ⟨bZ, 0, none⟩ = some (.int .u64 A) ∧ w'.cell? ⟨bZ, 1, none⟩ = some (.int .u64 B) ∧ w'.cell? ⟨w.heap.size, 0, none⟩ = some (.int .u64 A) ∧ w'.cell? ⟨w.heap.size, 1, none⟩ = some (.int .u64 B) ∧ (convert 23 9 (.slice (some ⟨b, off, none⟩) 16 cap)).run Try.prog w' = .ok (.string (strOfNums xs)) w') ∧ (convert 23 9 (.slice (some ⟨g6, 0, none⟩) 16 16)).run Try.prog w' = .ok (.string (strOfNums xs)) w') w6 := ⟨S6, k7⟩
  refine takeL 14 44 (v := ?_) rfl rfl (by kernel_rfl) (by kernel_rfl) (by kernel_rfl) (fun _ _ _ h => h) (by rfl) hHeld (fun w hSw => ?_) ?_
  rotate_left 1
  · (try dsimp only at hSw); go_simp; try with_reducible rfl
  simp only [List.set_cons_succ, List.set_cons_zero]
  refine takeL 17 47 (v := ?_) rfl rfl (by kernel_rfl) (by kernel_rfl) (by kernel_rfl) (fun _ _ _ h => h) (by rfl) hHeld (fun w hSw => ?_) ?_
  rotate_left 1
  · (try dsimp only at hSw); go_simp; try with_reducible rfl
  simp only [List.set_cons_succ, List.set_cons_zero]
  refine takeL 18 48 (v := ?_) rfl rfl (by kernel_rfl) (by kernel_rfl) (by kernel_rfl) (fun _ _ _ h => h) (by rfl) hHeld (fun w hSw => ?_) ?_
  rotate_left 1
  · (try dsimp only at hSw); go_simp; try with_reducible rfl
  simp only [List.set_cons_succ, List.set_cons_zero]
  refine takeL 19 49 (v := ?_) rfl rfl (by kernel_rfl) (by kernel_rfl) (by kernel_rfl) (fun _ _ _ h => h) (by rfl) hHeld (fun w hSw => ?_) ?_
  rotate_left 1
  · (try dsimp only at hSw); go_simp; try with_reducible rfl
  simp only [List.set_cons_succ, List.set_cons_zero]
  refine takeM 20 50 49 rfl rfl rfl (by kernel_rfl) (by kernel_rfl) (by kernel_rfl) (fun _ _ _ h => h) (by rfl) hHeld rfl ?_
  simp only [List.set_cons_succ, List.set_cons_zero]
  refine takeM 21 51 10 rfl rfl rfl (by kernel_rfl) (by kernel_rfl) (by kernel_rfl) (fun _ _ _ h => h) (by rfl) hHeld rfl ?_
  simp only [List.set_cons_succ, List.set_cons_zero]
  refine takeL 22 52 (v := ?_) rfl rfl (by kernel_rfl) (by kernel_rfl) (by kernel_rfl) (fun _ _ _ h => h) (by rfl) hHeld (fun w hSw => ?_) ?_
  rotate_left 1
  · (try dsimp only at hSw); go_simp; try with_reducible rfl
  simp only [List.set_cons_succ, List.set_cons_zero]
  refine takeM 23 53 52 rfl rfl rfl (by kernel_rfl) (by kernel_rfl) (by kernel_rfl) (fun _ _ _ h => h) (by rfl) hHeld rfl ?_
  simp only [List.set_cons_succ, List.set_cons_zero]
  refine takeL 24 54 (v := ?_) rfl rfl (by kernel_rfl) (by kernel_rfl) (by kernel_rfl) (fun _ _ _ h => h) (by rfl) hHeld (fun w hSw => ?_) ?_
  rotate_left 1
  · (try dsimp only at hSw); go_simp; try with_reducible rfl
  simp only [List.set_cons_succ, List.set_cons_zero]
  refine takeL 25 55 (v := ?_) rfl rfl (by kernel_rfl) (by kernel_rfl) (by kernel_rfl) (fun _ _ _ h => h) (by rfl) hHeld (fun w hSw => ?_) ?_
  rotate_left 1
  · (try dsimp only at hSw); go_simp; try with_reducible rfl
  simp only [List.set_cons_succ, List.set_cons_zero]
  refine takeL 26 56 (v := ?_) rfl rfl (by kernel_rfl) (by kernel_rfl) (by kernel_rfl) (fun _ _ _ h => h) (by rfl) hHeld (fun w hSw => ?_) ?_
  rotate_left 1
  · (try dsimp only at hSw); go_simp; try with_reducible rfl
  simp only [List.set_cons_succ, List.set_cons_zero]
  refine takeL 27 57 (v := ?_) rfl rfl (by kernel_rfl) (by kernel_rfl) (by kernel_rfl) (fun _ _ _ h => h) (by rfl) hHeld (fun w hSw => ?_) ?_
  rotate_left 1
  · (try dsimp only at hSw); go_simp; try with_reducible rfl
  simp only [List.set_cons_succ, List.set_cons_zero]
  refine takeM 28 58 57 rfl rfl rfl (by kernel_rfl) (by kernel_rfl) (by kernel_rfl) (fun _ _ _ h => h) (by rfl) hHeld rfl ?_
  simp only [List.set_cons_succ, List.set_cons_zero]
  refine onlyL 29 rfl (by kernel_rfl) (by rfl) (fun K hK => ?_)
  go_wp2_with fail
  refine (known_true _).mono ?_
  rintro e w7 ⟨rfl, hb7⟩
  have s6 := hb6.size
  have dd : ∀ q o v, q < W5.heap.size → w6.cell? ⟨q, o, none⟩ = some v → w7.cell? ⟨q, o, none⟩ = some v := fun q o v hq h => (hb7.cell (p := ⟨q, o, none⟩) (Nat.lt_of_lt_of_le hq s6)).trans h
  refine hK.out _ _ ⟨⟨dd _ _ _ lx (cc _ _ _ lx x0), dd _ _ _ lx (cc _ _ _ lx x1), dd _ _ _ ly (cc _ _ _ ly y0), dd _ _ _ ly (cc _ _ _ ly y1), dd _ _ _ lz (cc _ _ _ lz z0), dd _ _ _ lz (cc _ _ _ lz z1), dd _ _ _ lp (cc _ _ _ lp p0), dd _ _ _ lp (cc _ _ _ lp p1), (at6.below hb7 (Nat.lt_of_lt_of_le lb s6)).conv hn⟩, (hr6.below hb7 hrow6.lt).conv hn⟩ (fun hHeld => ?_)
  clear hK K cc dd
  refine takeL 30 60 (v := ?_) rfl rfl (by kernel_rfl) (by kernel_rfl) (by kernel_rfl) (fun _ _ _ h => h) (by rfl) hHeld (fun w hSw => ?_) ?_
  rotate_left 1
  · (try dsimp only at hSw); go_simp; try with_reducible rfl
  simp only [List.set_cons_succ, List.set_cons_zero]
  refine takeA 31 4 60 rfl rfl rfl (by kernel_rfl) (by kernel_rfl) (by kernel_rfl) (fun _ _ _ h => h) (by rfl) hHeld rfl ?_
  simp only [List.set_cons_succ, List.set_cons_zero]
  refine wpAnyH_done (by kernel_rfl) ?_ _
  go_wp2
  go_ret
  exact ⟨rfl, (hAll.trans (((Below.refl _ _).drew.trans hb6).mono hAll.size)).trans (hb7.mono (Nat.le_trans hAll.size s6))⟩

end Go.Proofs.Ytbekiajnkmlokaa
