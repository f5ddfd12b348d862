/- What the program's wire comes to, for the stages that call it: Put and Bytes. -/
import Derived.Test.YtnimhlkoikjomaaBAt
import Derived.Test.YtnimhlkoikjomaaRegion
import Derived.Test.YtnimhlkoikjomaaSpk
namespace Go.Proofs.Ytnimhlkoikjomaa
open Go.RowKit
set_option maxRecDepth 20000

/-- A Pair's sixteen bytes. -/
def pairL (p : BitVec 64 × BitVec 64) : List Int := putL p.1.toNat 8 ++ putL p.2.toNat 8
theorem pairL_length (p : BitVec 64 × BitVec 64) : (pairL p).length = 16 := by simp [pairL, putL_length]
theorem pairL_bytes (p : BitVec 64 × BitVec 64) : Bytes (pairL p) := (putL_bytes _ _).append (putL_bytes _ _)
/-- Sixteen bytes as a Pair. -/
def pairOf (xs : List Int) : BitVec 64 × BitVec 64 := (BitVec.ofInt 64 (num (xs.take 8)), BitVec.ofInt 64 (num (xs.drop 8)))
theorem pairOf_1 (xs : List Int) (hx : Bytes xs) : nv (pairOf xs).1 = num (xs.take 8) := by
  have h := num_lt (xs.take 8) (hx.take 8) (by rw [List.length_take]; omega)
  exact nv_of _ h.1 h.2
theorem pairOf_2 (xs : List Int) (hx : Bytes xs) (hl : xs.length ≤ 16) : nv (pairOf xs).2 = num (xs.drop 8) := by
  have h := num_lt (xs.drop 8) (hx.drop 8) (by rw [List.length_drop]; omega)
  exact nv_of _ h.1 h.2
set_option maxHeartbeats 400000 in
theorem put_none (v n : Int) (w : World) (h : n < 1 ∨ 8 < n) :
    Calls Try.prog 19 #[.int .u64 v, .int .i64 n] w fun e w' => e = .returned (.slice none 0 0) ∧ w' = w := by
  by_cases h1 : n < 1
  · go_enter Try.func19, Try.ntmps19
    go_wp2
    go_ret
    exact ⟨rfl, rfl⟩
  · have h2 : 8 < n := by omega
    go_enter Try.func19, Try.ntmps19
    go_wp2
    go_ret
    exact ⟨rfl, rfl⟩
set_option maxHeartbeats 400000 in
theorem put_row (V : Nat) (n : Nat) (w : World) (h1 : 1 ≤ n) (h2 : n ≤ 8) :
    Calls Try.prog 19 #[.int .u64 V, .int .i64 n] w fun e w' => e = .returned (.slice (some ⟨w.heap.size, 0, none⟩) n n) ∧ w'.rowIs w.heap.size 5 n (fun j => .int .u8 (byteAt V (n - 1 - j))) ∧ Below w.heap.size w w' := by
  have hmk := run_make_row' (P := Try.prog) 28 5 (.int .u8 0) 1 Try.underlying28 Try.info5 rfl .i64 .i64 n (by omega) (by omega)
  go_enter Try.func19, Try.ntmps19
  go_wp2
  go_loopw [0, 6] (fun v i wr => ∃ k : Nat, k ≤ n ∧ i = .int .i64 ((k : Int) - 1) ∧ v = .int .u64 ((V / 256 ^ (n - k) : Nat) : Int) ∧ wr.rowIs w.heap.size 5 n (fun j => if j < k then .int .u8 0 else .int .u8 (byteAt V (n - 1 - j))) ∧ Below w.heap.size w wr)
    (fun _ i _ => (intOf i + 1).toNat)
  case atStart =>
    exact ⟨n, Nat.le_refl _, rfl, by simp, (World.rowIs_made _ _ _ _).congr (fun i hi => by simp [hi]), (Below.refl _ _).alloc (Nat.le_refl _) _⟩
  case round =>
    obtain ⟨k, hk, rfl, rfl, hrow, hb⟩ := hrel
    by_cases hlt : 1 ≤ k
    · have hce := hrow.cell (i := k - 1) (by omega)
      have hfr := hrow.frozen (k - 1)
      go_wp2
      go_roundw
      case rel =>
        refine ⟨k - 1, by omega, by rw [show (k : Int) - 1 - 1 = ((k - 1 : Nat) : Int) - 1 from by omega], by rw [shr_step V n k hlt hk], (hrow.set (k - 1) _).congr (fun i hi => ?_), hb.setCell (Nat.le_refl _) _⟩
        by_cases e : i = k - 1
        · subst e; simp [byte_step V n k hlt hk]
        · by_cases e' : i < k - 1
          · have e2 : i < k := by omega
            simp [e, e', e2]
          · have e2 : ¬ i < k := by omega
            simp [e, e', e2]
      case measure => simp [intOf]; omega
    · go_wp2
      go_ret
      exact ⟨rfl, hrow.congr (fun i hi => by have e : ¬ i < k := by omega
                                             simp [e]), hb⟩
theorem put_some (V : Nat) (n : Nat) (w : World) (h1 : 1 ≤ n) (h2 : n ≤ 8) :
    Calls Try.prog 19 #[.int .u64 V, .int .i64 n] w fun e w' => e = .returned (.slice (some ⟨w.heap.size, 0, none⟩) n n) ∧ At w' w.heap.size 0 (putL V n) ∧ Below w.heap.size w w' ∧ w.heap.size < w'.heap.size :=
  (put_row V n w h1 h2).mono fun _ _ ⟨he, hr, hb⟩ => ⟨he, At.put hr, hb, hr.lt⟩
theorem make16 (w : World) : (Instr.makeSlice 28 (.int .i64 16) (.int .i64 16)).run Try.prog w = .ok (.slice (some ⟨w.heap.size, 0, none⟩) 16 16) (w.alloc (.cells (madeCells #[.int .u8 0] 16) 5)) :=
  run_make_row' (P := Try.prog) 28 5 (.int .u8 0) 1 Try.underlying28 Try.info5 rfl .i64 .i64 16 (by decide) (by decide) w
theorem splice_two (A B : Nat) : splice (splice (List.replicate 16 0) 0 (putL A 8)) 8 (putL B 8) = putL A 8 ++ putL B 8 := by
  have hA := putL_length A 8
  have hB := putL_length B 8
  unfold splice
  rw [hA, hB, List.take_zero, List.nil_append, List.take_left' hA, List.drop_eq_nil_of_le (by simp [hA]), List.append_nil]
set_option maxHeartbeats 1000000 in
theorem bytes_any (A B : Nat) (w : World) :
    Calls Try.prog 20 #[.agg #[.int .u64 A, .int .u64 B]] w fun e w' => ∃ g, e = .returned (.slice (some ⟨g, 0, none⟩) 16 16) ∧ w.heap.size ≤ g ∧ Row w' g (putL A 8 ++ putL B 8) ∧ Below w.heap.size w w' := by
  have hmk := make16
  go_enter Try.func20, Try.ntmps20
  go_wp2
  have hRow := Row.made (w.alloc (.cells #[.int .u64 A, .int .u64 B] 25)) 16
  rw [World.size_alloc] at hRow
  obtain ⟨W0, hW0⟩ : ∃ W0, W0 = (w.alloc (.cells #[.int .u64 A, .int .u64 B] 25)).alloc (.cells (madeCells #[.int .u8 0] 16) 5) := ⟨_, rfl⟩
  have hB : Below w.heap.size w W0 := by rw [hW0]; go_grown
  have hB1 : Below (w.heap.size + 1) (w.alloc (.cells #[.int .u64 A, .int .u64 B] 25)) W0 := by rw [hW0]; exact (Below.refl _ _).alloc (by simp) _
  have hc0 : W0.cell? ⟨w.heap.size, 0, none⟩ = some (.int .u64 A) := (hB1.cell (p := ⟨w.heap.size, 0, none⟩) (by simp)).trans (by simp)
  have hc1 : W0.cell? ⟨w.heap.size, 1, none⟩ = some (.int .u64 B) := (hB1.cell (p := ⟨w.heap.size, 1, none⟩) (by simp)).trans (by simp)
  rw [← hW0] at hRow ⊢
  have hsz1 := hRow.lt
  clear hW0 hB1 hmk
  refine wp_region_held_drew (S := fun w' => w'.cell? ⟨w.heap.size, 0, none⟩ = some (.int .u64 A)) (by kernel_rfl) (hc0) (fun hHeld => ?_)
  refine takeM 0 5 3 rfl rfl rfl (by kernel_rfl) (by kernel_rfl) (by kernel_rfl) (fun _ _ _ h => h) (by rfl) hHeld rfl ?_
  simp only [List.set_cons_succ, List.set_cons_zero]
  refine takeL 1 6 (v := ?_) rfl rfl (by kernel_rfl) (by kernel_rfl) (by kernel_rfl) (fun _ _ _ h => h) (by rfl) hHeld (fun w hSw => ?_) ?_
  rotate_left 1
  · (try dsimp only at hSw); go_simp; try with_reducible rfl
  simp only [List.set_cons_succ, List.set_cons_zero]
  refine takeL 2 7 (v := ?_) rfl rfl (by kernel_rfl) (by kernel_rfl) (by kernel_rfl) (fun _ _ _ h => h) (by rfl) hHeld (fun w hSw => ?_) ?_
  rotate_left 1
  · (try dsimp only at hSw); go_simp; try with_reducible rfl
  simp only [List.set_cons_succ, List.set_cons_zero]
  refine takeL 3 8 (v := ?_) rfl rfl (by kernel_rfl) (by kernel_rfl) (by kernel_rfl) (fun _ _ _ h => h) (by rfl) hHeld (fun w hSw => ?_) ?_
  rotate_left 1
  · (try dsimp only at hSw); go_simp; try with_reducible rfl
  simp only [List.set_cons_succ, List.set_cons_zero]
  refine onlyL 4 rfl (by kernel_rfl) (by rfl) (fun K hK => ?_)
  go_wp2_with fail
  refine (put_some A 8 _ (by decide) (by decide)).mono ?_
  rintro e w1 ⟨rfl, ha1, hb1, hz1⟩
  simp only [World.size_drew] at ha1 hb1 hz1
  refine hK.out _ _ ((hb1.cell (p := ⟨w.heap.size, 0, none⟩) (by simp only; omega)).trans hc0) (fun hHeld => ?_)
  clear hK K
  refine onlyL 5 rfl (by kernel_rfl) (by rfl) (fun K hK => ?_)
  refine wp_copy rfl (.tmp 6) (.tmp 9) rfl (w.heap.size + 1) 0 16 8 _ 0 8 rfl rfl (List.replicate 16 0) (putL A 8) (hRow.below ((Below.refl _ _).drew.trans hb1) hsz1) (putL_length _ _) ha1 (by simp) (w.heap.size + 1) W0 ((Below.refl _ _).drew.trans (hb1.mono (by omega))) (Nat.le_refl _) (fun w2 hR2 hBe2 => ?_)
  have hc1' : w2.cell? ⟨w.heap.size, 1, none⟩ = some (.int .u64 B) := (hBe2.cell (p := ⟨w.heap.size, 1, none⟩) (by simp only; omega)).trans hc1
  have hlt2 := hR2.lt
  refine hK.out _ _ ((hBe2.cell (p := ⟨w.heap.size, 0, none⟩) (by simp only; omega)).trans hc0) (fun hHeld => ?_)
  clear hK K ha1 hb1 hz1 hc0 hc1 hRow
  have eP : ∀ (t : List Value) (d : List Deferred) (v : Value), Act.put ⟨t.toArray, d⟩ (some 10) v = ⟨(t.set 10 v).toArray, d⟩ := fun t d v => by simp [Act.put]
  refine wpAnyH_done (by kernel_rfl) ?_ _
  go_wp2
  refine wp_region_held_drew (S := fun w' => w'.cell? ⟨w.heap.size, 1, none⟩ = some (.int .u64 B)) (by kernel_rfl) (hc1') (fun hHeld => ?_)
  refine takeM 0 11 3 rfl rfl rfl (by kernel_rfl) (by kernel_rfl) (by kernel_rfl) (fun _ _ _ h => h) (by rfl) hHeld rfl ?_
  simp only [List.set_cons_succ, List.set_cons_zero]
  refine takeL 1 12 (v := ?_) rfl rfl (by kernel_rfl) (by kernel_rfl) (by kernel_rfl) (fun _ _ _ h => h) (by rfl) hHeld (fun w hSw => ?_) ?_
  rotate_left 1
  · (try dsimp only at hSw); go_simp; try with_reducible rfl
  simp only [List.set_cons_succ, List.set_cons_zero]
  refine takeL 2 13 (v := ?_) rfl rfl (by kernel_rfl) (by kernel_rfl) (by kernel_rfl) (fun _ _ _ h => h) (by rfl) hHeld (fun w hSw => ?_) ?_
  rotate_left 1
  · (try dsimp only at hSw); go_simp; try with_reducible rfl
  simp only [List.set_cons_succ, List.set_cons_zero]
  refine takeL 3 14 (v := ?_) rfl rfl (by kernel_rfl) (by kernel_rfl) (by kernel_rfl) (fun _ _ _ h => h) (by rfl) hHeld (fun w hSw => ?_) ?_
  rotate_left 1
  · (try dsimp only at hSw); go_simp; try with_reducible rfl
  simp only [List.set_cons_succ, List.set_cons_zero]
  refine onlyL 4 rfl (by kernel_rfl) (by rfl) (fun K hK => ?_)
  go_wp2_with fail
  refine (put_some B 8 _ (by decide) (by decide)).mono ?_
  rintro e w3 ⟨rfl, ha3, hb3, hz3⟩
  simp only [World.size_drew] at ha3 hb3 hz3
  refine hK.out _ _ ((hb3.cell (p := ⟨w.heap.size, 1, none⟩) (by simp only; omega)).trans hc1') (fun hHeld => ?_)
  clear hK K
  refine onlyL 5 rfl (by kernel_rfl) (by rfl) (fun K hK => ?_)
  refine wp_copy rfl (.tmp 12) (.tmp 15) rfl (w.heap.size + 1) 8 8 8 _ 0 8 rfl rfl (splice (List.replicate 16 0) 0 (putL A 8)) (putL B 8) (hR2.below ((Below.refl _ _).drew.trans hb3) hlt2) (putL_length _ _) ha3 (by rw [length_splice _ _ _ (by simp [putL_length])]; simp) (w.heap.size + 1) W0 (hBe2.trans ((Below.refl _ _).drew.trans (hb3.mono (by omega)))) (Nat.le_refl _) (fun w4 hR4 hBe4 => ?_)
  refine hK.out _ _ ((hBe4.cell (p := ⟨w.heap.size, 1, none⟩) (by simp only; omega)).trans ((hBe2.cell (p := ⟨w.heap.size, 1, none⟩) (by simp only; omega)).symm.trans hc1')) (fun hHeld => ?_)
  clear hK K
  refine wpAnyH_done (by kernel_rfl) ?_ _
  go_wp2
  go_ret
  rw [splice_two] at hR4
  exact ⟨w.heap.size + 1, rfl, by omega, hR4, hB.trans (hBe4.mono (by omega))⟩
theorem wbytes (p : BitVec 64 × BitVec 64) (w : World) : Calls Try.prog 20 #[.agg #[.int .u64 (nv p.1), .int .u64 (nv p.2)]] w fun e w' => ∃ g, e = .returned (.slice (some ⟨g, 0, none⟩) 16 16) ∧ w.heap.size ≤ g ∧ Row w' g (pairL p) ∧ Below w.heap.size w w' := bytes_any p.1.toNat p.2.toNat w
set_option maxHeartbeats 400000 in
theorem number_some (b off cap n : Nat) (xs : List Int) (w : World) (hn : xs.length = n) (hl : n ≤ 8) (hx : Bytes xs) (hc : At w b off xs) :
    Calls Try.prog 30 #[.slice (some ⟨b, off, none⟩) n cap] w fun e w' => e = .returned (.int .u64 (num xs)) ∧ w' = w := by
  subst hn
  go_enter Try.func30, Try.ntmps30
  go_wp2
  go_loop [3, 8] (fun v i => ∃ k : Nat, k ≤ xs.length ∧ i = .int .i64 k ∧ v = .int .u64 (num (xs.take k))) (fun _ i => xs.length - (intOf i).toNat)
  case atStart => exact ⟨0, Nat.zero_le _, rfl, rfl⟩
  case round =>
    obtain ⟨k, hk, rfl, rfl⟩ := hrel
    by_cases hlt : k < xs.length
    · have hck := hc k hlt
      go_wp2
      go_round
      case rel => exact ⟨k + 1, hlt, by go_num, by rw [num_step xs hx hl k hlt]⟩
      case measure => simp [intOf]; omega
    · go_wp2
      go_ret
      exact ⟨ret_int (by rw [List.take_of_length_le (by omega)]), rfl⟩
set_option maxHeartbeats 400000 in
theorem pair_none (a : Option Addr) (n cap : Nat) (w : World) (h : n ≠ 16) :
    Calls Try.prog 25 #[.slice a n cap] w fun e w' => e = .returned (.tuple #[.agg #[.int .u64 0, .int .u64 0], .bool false]) ∧ Below w.heap.size w w' := by
  have h' : ((n : Int) != 16) = true := by rw [bne_iff_ne]; omega
  go_enter Try.func25, Try.ntmps25
  go_wp2
  exact bodyPost_ret (v := .tuple #[.agg #[.int .u64 0, .int .u64 0], .bool false]) (by simp [results, Try.results25, go_sem]) rfl ⟨rfl, by go_grown⟩
set_option maxHeartbeats 1000000 in
theorem pair_some (b off cap : Nat) (xs : List Int) (w : World) (hn : xs.length = 16) (hcap : 16 ≤ cap) (hcm : cap ≤ maxLen) (hx : Bytes xs) (hb : b < w.heap.size) (hat0 : At w b off xs) :
    Calls Try.prog 25 #[.slice (some ⟨b, off, none⟩) 16 cap] w fun e w' => e = .returned (.tuple #[.agg #[.int .u64 (num (xs.take 8)), .int .u64 (num (xs.drop 8))], .bool true]) ∧ Below w.heap.size w w' := by
  unfold maxLen at hcm
  have hn8 : 8 ≤ xs.length := by omega
  have c8 : (8 : Int) ≤ (cap : Int) := by omega
  have c16 : (16 : Int) ≤ (cap : Int) := by omega
  have cn : ¬ cap = 8 := by omega
  have hat := fun o => (hat0.alloc hb o).drawn
  have hat := hat (.cells #[.int .u64 0, .int .u64 0] 25)
  go_enter Try.func25, Try.ntmps25
  go_wp2
  refine wp_region_held_drew (S := fun _ => True) (by kernel_rfl) trivial (fun hHeld => ?_)
  refine takeM 0 8 0 rfl rfl rfl (by kernel_rfl) (by kernel_rfl) (by kernel_rfl) (fun _ _ _ h => h) (by rfl) hHeld rfl ?_
  simp only [List.set_cons_succ, List.set_cons_zero]
  refine takeL 1 9 (v := ?_) rfl rfl (by kernel_rfl) (by kernel_rfl) (by kernel_rfl) (fun _ _ _ h => h) (by rfl) hHeld (fun w hSw => ?_) ?_
  rotate_left 1
  · (try dsimp only at hSw); go_simp; try with_reducible rfl
  simp only [List.set_cons_succ, List.set_cons_zero]
  refine takeM 3 11 0 rfl rfl rfl (by kernel_rfl) (by kernel_rfl) (by kernel_rfl) (fun _ _ _ h => h) (by rfl) hHeld rfl ?_
  simp only [List.set_cons_succ, List.set_cons_zero]
  refine takeL 4 12 (v := ?_) rfl rfl (by kernel_rfl) (by kernel_rfl) (by kernel_rfl) (fun _ _ _ h => h) (by rfl) hHeld (fun w hSw => ?_) ?_
  rotate_left 1
  · (try dsimp only at hSw); go_simp; try with_reducible rfl
  simp only [List.set_cons_succ, List.set_cons_zero]
  refine onlyL 2 rfl (by kernel_rfl) (by rfl) (fun K hK => ?_)
  go_wp2_with fail
  refine (number_some b off cap 8 (xs.take 8) _ (by simp [hn]) (by omega) (hx.take 8) (At.cut1 hat 8 hn8)).mono ?_
  rintro e w1 ⟨rfl, rfl⟩
  refine hK.out _ _ trivial (fun hHeld => ?_)
  clear hK K
  refine onlyL 5 rfl (by kernel_rfl) (by rfl) (fun K hK => ?_)
  go_wp2_with fail
  refine (number_some b (off + 8) (cap - 8) 8 (xs.drop 8) _ (by simp [hn]) (by omega) (hx.drop 8) (At.cut2 hat 8)).mono ?_
  rintro e w1 ⟨rfl, rfl⟩
  refine hK.out _ _ trivial (fun hHeld => ?_)
  clear hK K
  refine takeL 6 14 (v := ?_) rfl rfl (by kernel_rfl) (by kernel_rfl) (by kernel_rfl) (fun _ _ _ h => h) (by rfl) hHeld (fun w hSw => ?_) ?_
  rotate_left 1
  · (try dsimp only at hSw); go_simp; try with_reducible rfl
  simp only [List.set_cons_succ, List.set_cons_zero]
  refine onlyL 7 rfl (by kernel_rfl) (by rfl) (fun K hK => ?_)
  go_wp2
  refine hK.out _ _ trivial (fun hHeld => ?_)
  clear hK K
  refine takeL 8 3 (v := ?_) rfl rfl (by kernel_rfl) (by kernel_rfl) (by kernel_rfl) (fun _ _ _ h => h) (by rfl) hHeld (fun w hSw => ?_) ?_
  rotate_left 1
  · (try dsimp only at hSw); go_simp; try with_reducible rfl
  simp only [List.set_cons_succ, List.set_cons_zero]
  refine wpAnyH_done (by kernel_rfl) ?_ _
  go_wp2
  exact bodyPost_ret (v := .tuple #[.agg #[.int .u64 (num (xs.take 8)), .int .u64 (num (xs.drop 8))], .bool true]) (by simp [results, Try.results25, go_sem]) rfl ⟨rfl, by go_grown⟩
theorem wpair (b off cap : Nat) (xs : List Int) (w : World) (hn : xs.length = 16) (hcap : 16 ≤ cap) (hcm : cap ≤ maxLen) (hx : Bytes xs) (hb : b < w.heap.size) (hat : At w b off xs) :
    Calls Try.prog 25 #[.slice (some ⟨b, off, none⟩) 16 cap] w fun e w' => e = .returned (.tuple #[.agg #[.int .u64 (nv (pairOf xs).1), .int .u64 (nv (pairOf xs).2)], .bool true]) ∧ Below w.heap.size w w' := by
  rw [pairOf_1 xs hx, pairOf_2 xs hx (by omega)]
  exact pair_some b off cap xs w hn hcap hcm hx hb hat
set_option maxHeartbeats 400000 in
theorem wget_some (b off cap n : Nat) (xs : List Int) (w : World) (hn : xs.length = n) (h1 : 1 ≤ n) (hl : n ≤ 8) (hx : Bytes xs) (hc : At w b off xs) :
    Calls Try.prog 24 #[.slice (some ⟨b, off, none⟩) n cap] w fun e w' => e = .returned (.tuple #[.int .u64 (num xs), .bool true]) ∧ w' = w := by
  subst hn
  go_enter Try.func24, Try.ntmps24
  go_wp2_with fail
  refine (number_some b off cap _ xs w rfl hl hx hc).mono ?_
  rintro e w' ⟨rfl, rfl⟩
  go_wp2
  go_ret2
  exact ⟨rfl, rfl⟩
end Go.Proofs.Ytnimhlkoikjomaa
