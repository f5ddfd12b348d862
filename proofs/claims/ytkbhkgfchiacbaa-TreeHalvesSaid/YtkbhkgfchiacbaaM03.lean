/- BWire Nn Flo Orc Box EqP: texts laid together. -/
import Derived.Test.YtkbhkgfchiacbaaBAt
import Derived.Test.YtkbhkgfchiacbaaM02
import Derived.Test.YtkbhkgfchiacbaaRows
import Derived.WalkKit
import Derived.WalkSpells
import Derived.WalkLawsBesides
import Derived.Deep.OwnRows
import Derived.Handy

/- What the program's wire comes to, for the stages that call it: Put and Bytes. -/
namespace Go.Proofs.Ytkbhkgfchiacbaa
open Go.RowKit
set_option maxRecDepth 20000

/-- A Pair's sixteen bytes. -/
def pairL (p : BitVec 64 × BitVec 64) : List Int := putL p.1.toNat 8 ++ putL p.2.toNat 8
theorem pairL_length (p : BitVec 64 × BitVec 64) : (pairL p).length = 16 := by simp [pairL, putL_length]
theorem pairL_bytes (p : BitVec 64 × BitVec 64) : Bytes (pairL p) := (putL_bytes _ _).append (putL_bytes _ _)
/-- Sixteen bytes as a Pair. -/
def pairOf (xs : List Int) : BitVec 64 × BitVec 64 := (BitVec.ofInt 64 (num (xs.take 8)), BitVec.ofInt 64 (num (xs.drop 8)))
theorem pairOf_1 (xs : List Int) (hx : Bytes xs) : nv (pairOf xs).1 = num (xs.take 8) := by
  have h := num_lt (xs.take 8) (hx.take 8) (by rw [List.length_take]; omega)
  exact nv_of _ h.1 h.2
theorem pairOf_2 (xs : List Int) (hx : Bytes xs) (hl : xs.length ≤ 16) : nv (pairOf xs).2 = num (xs.drop 8) := by
  have h := num_lt (xs.drop 8) (hx.drop 8) (by rw [List.length_drop]; omega)
  exact nv_of _ h.1 h.2
set_option maxHeartbeats 400000 in
theorem put_none (v n : Int) (w : World) (h : n < 1 ∨ 8 < n) :
    Calls Try.prog 56 #[.int .u64 v, .int .i64 n] w fun e w' => e = .returned (.slice none 0 0) ∧ w' = w := by
  by_cases h1 : n < 1
  · go_enter Try.func56, Try.ntmps56
    go_wp2
    go_ret
    exact ⟨rfl, rfl⟩
  · have h2 : 8 < n := by omega
    go_enter Try.func56, Try.ntmps56
    go_wp2
    go_ret
    exact ⟨rfl, rfl⟩
set_option maxHeartbeats 400000 in
theorem put_row (V : Nat) (n : Nat) (w : World) (h1 : 1 ≤ n) (h2 : n ≤ 8) :
    Calls Try.prog 56 #[.int .u64 V, .int .i64 n] w fun e w' => e = .returned (.slice (some ⟨w.heap.size, 0, none⟩) n n) ∧ w'.rowIs w.heap.size 5 n (fun j => .int .u8 (byteAt V (n - 1 - j))) ∧ Below w.heap.size w w' := by
  have hmk := run_make_row' (P := Try.prog) 40 5 (.int .u8 0) 1 Try.underlying40 Try.info5 rfl .i64 .i64 n (by omega) (by omega)
  go_enter Try.func56, Try.ntmps56
  go_wp2
  go_loopw [0, 6] (fun v i wr => ∃ k : Nat, k ≤ n ∧ i = .int .i64 ((k : Int) - 1) ∧ v = .int .u64 ((V / 256 ^ (n - k) : Nat) : Int) ∧ wr.rowIs w.heap.size 5 n (fun j => if j < k then .int .u8 0 else .int .u8 (byteAt V (n - 1 - j))) ∧ Below w.heap.size w wr)
    (fun _ i _ => (intOf i + 1).toNat)
  case atStart =>
    exact ⟨n, Nat.le_refl _, rfl, by simp, (World.rowIs_made _ _ _ _).congr (fun i hi => by simp [hi]), (Below.refl _ _).alloc (Nat.le_refl _) _⟩
  case round =>
    obtain ⟨k, hk, rfl, rfl, hrow, hb⟩ := hrel
    by_cases hlt : 1 ≤ k
    · have hce := hrow.cell (i := k - 1) (by omega)
      have hfr := hrow.frozen (k - 1)
      go_wp2
      go_roundw
      case rel =>
        refine ⟨k - 1, by omega, by rw [show (k : Int) - 1 - 1 = ((k - 1 : Nat) : Int) - 1 from by omega], by rw [shr_step V n k hlt hk], (hrow.set (k - 1) _).congr (fun i hi => ?_), hb.setCell (Nat.le_refl _) _⟩
        by_cases e : i = k - 1
        · subst e; simp [byte_step V n k hlt hk]
        · by_cases e' : i < k - 1
          · have e2 : i < k := by omega
            simp [e, e', e2]
          · have e2 : ¬ i < k := by omega
            simp [e, e', e2]
      case measure => simp [intOf]; omega
    · go_wp2
      go_ret
      exact ⟨rfl, hrow.congr (fun i hi => by have e : ¬ i < k := by omega
                                             simp [e]), hb⟩
theorem put_some (V : Nat) (n : Nat) (w : World) (h1 : 1 ≤ n) (h2 : n ≤ 8) :
    Calls Try.prog 56 #[.int .u64 V, .int .i64 n] w fun e w' => e = .returned (.slice (some ⟨w.heap.size, 0, none⟩) n n) ∧ At w' w.heap.size 0 (putL V n) ∧ Below w.heap.size w w' ∧ w.heap.size < w'.heap.size :=
  (put_row V n w h1 h2).mono fun _ _ ⟨he, hr, hb⟩ => ⟨he, At.put hr, hb, hr.lt⟩
theorem make16 (w : World) : (Instr.makeSlice 40 (.int .i64 16) (.int .i64 16)).run Try.prog w = .ok (.slice (some ⟨w.heap.size, 0, none⟩) 16 16) (w.alloc (.cells (madeCells #[.int .u8 0] 16) 5)) :=
  run_make_row' (P := Try.prog) 40 5 (.int .u8 0) 1 Try.underlying40 Try.info5 rfl .i64 .i64 16 (by decide) (by decide) w
theorem splice_two (A B : Nat) : splice (splice (List.replicate 16 0) 0 (putL A 8)) 8 (putL B 8) = putL A 8 ++ putL B 8 := by
  have hA := putL_length A 8
  have hB := putL_length B 8
  unfold splice
  rw [hA, hB, List.take_zero, List.nil_append, List.take_left' hA, List.drop_eq_nil_of_le (by simp [hA]), List.append_nil]
set_option maxHeartbeats 1000000 in
theorem bytes_any (A B : Nat) (w : World) :
    Calls Try.prog 40 #[.agg #[.int .u64 A, .int .u64 B]] w fun e w' => ∃ g, e = .returned (.slice (some ⟨g, 0, none⟩) 16 16) ∧ w.heap.size ≤ g ∧ Row w' g (putL A 8 ++ putL B 8) ∧ Below w.heap.size w w' := by
  have hmk := make16
  go_enter Try.func40, Try.ntmps40
  go_wp2
  have hRow := Row.made (w.alloc (.cells #[.int .u64 A, .int .u64 B] 34)) 16
  rw [World.size_alloc] at hRow
  obtain ⟨W0, hW0⟩ : ∃ W0, W0 = (w.alloc (.cells #[.int .u64 A, .int .u64 B] 34)).alloc (.cells (madeCells #[.int .u8 0] 16) 5) := ⟨_, rfl⟩
  have hB : Below w.heap.size w W0 := by rw [hW0]; go_grown
  have hB1 : Below (w.heap.size + 1) (w.alloc (.cells #[.int .u64 A, .int .u64 B] 34)) W0 := by rw [hW0]; exact (Below.refl _ _).alloc (by simp) _
  have hc0 : W0.cell? ⟨w.heap.size, 0, none⟩ = some (.int .u64 A) := (hB1.cell (p := ⟨w.heap.size, 0, none⟩) (by simp)).trans (by simp)
  have hc1 : W0.cell? ⟨w.heap.size, 1, none⟩ = some (.int .u64 B) := (hB1.cell (p := ⟨w.heap.size, 1, none⟩) (by simp)).trans (by simp)
  rw [← hW0] at hRow ⊢
  have hsz1 := hRow.lt
  clear hW0 hB1 hmk
  refine wp_region_held_drew (S := fun w' => w'.cell? ⟨w.heap.size, 0, none⟩ = some (.int .u64 A)) (by kernel_rfl) (hc0) (fun hHeld => ?_)
  refine takeM 0 5 3 rfl rfl rfl (by kernel_rfl) (by kernel_rfl) (by kernel_rfl) (fun _ _ _ h => h) (by rfl) hHeld rfl ?_
  simp only [List.set_cons_succ, List.set_cons_zero]
  refine takeL 1 6 (v := ?_) rfl rfl (by kernel_rfl) (by kernel_rfl) (by kernel_rfl) (fun _ _ _ h => h) (by rfl) hHeld (fun w hSw => ?_) ?_
  rotate_left 1
  · (try dsimp only at hSw); go_simp; try with_reducible rfl
  simp only [List.set_cons_succ, List.set_cons_zero]
  refine takeL 2 7 (v := ?_) rfl rfl (by kernel_rfl) (by kernel_rfl) (by kernel_rfl) (fun _ _ _ h => h) (by rfl) hHeld (fun w hSw => ?_) ?_
  rotate_left 1
  · (try dsimp only at hSw); go_simp; try with_reducible rfl
  simp only [List.set_cons_succ, List.set_cons_zero]
  refine takeL 3 8 (v := ?_) rfl rfl (by kernel_rfl) (by kernel_rfl) (by kernel_rfl) (fun _ _ _ h => h) (by rfl) hHeld (fun w hSw => ?_) ?_
  rotate_left 1
  · (try dsimp only at hSw); go_simp; try with_reducible rfl
  simp only [List.set_cons_succ, List.set_cons_zero]
  refine onlyL 4 rfl (by kernel_rfl) (by rfl) (fun K hK => ?_)
  go_wp2_with fail
  refine (put_some A 8 _ (by decide) (by decide)).mono ?_
  rintro e w1 ⟨rfl, ha1, hb1, hz1⟩
  simp only [World.size_drew] at ha1 hb1 hz1
  refine hK.out _ _ ((hb1.cell (p := ⟨w.heap.size, 0, none⟩) (by simp only; omega)).trans hc0) (fun hHeld => ?_)
  clear hK K
  refine onlyL 5 rfl (by kernel_rfl) (by rfl) (fun K hK => ?_)
  refine wp_copy rfl (.tmp 6) (.tmp 9) rfl (w.heap.size + 1) 0 16 8 _ 0 8 rfl rfl (List.replicate 16 0) (putL A 8) (hRow.below ((Below.refl _ _).drew.trans hb1) hsz1) (putL_length _ _) ha1 (by simp) (w.heap.size + 1) W0 ((Below.refl _ _).drew.trans (hb1.mono (by omega))) (Nat.le_refl _) (fun w2 hR2 hBe2 => ?_)
  have hc1' : w2.cell? ⟨w.heap.size, 1, none⟩ = some (.int .u64 B) := (hBe2.cell (p := ⟨w.heap.size, 1, none⟩) (by simp only; omega)).trans hc1
  have hlt2 := hR2.lt
  refine hK.out _ _ ((hBe2.cell (p := ⟨w.heap.size, 0, none⟩) (by simp only; omega)).trans hc0) (fun hHeld => ?_)
  clear hK K ha1 hb1 hz1 hc0 hc1 hRow
  have eP : ∀ (t : List Value) (d : List Deferred) (v : Value), Act.put ⟨t.toArray, d⟩ (some 10) v = ⟨(t.set 10 v).toArray, d⟩ := fun t d v => by simp [Act.put]
  refine wpAnyH_done (by kernel_rfl) ?_ _
  go_wp2
  refine wp_region_held_drew (S := fun w' => w'.cell? ⟨w.heap.size, 1, none⟩ = some (.int .u64 B)) (by kernel_rfl) (hc1') (fun hHeld => ?_)
  refine takeM 0 11 3 rfl rfl rfl (by kernel_rfl) (by kernel_rfl) (by kernel_rfl) (fun _ _ _ h => h) (by rfl) hHeld rfl ?_
  simp only [List.set_cons_succ, List.set_cons_zero]
  refine takeL 1 12 (v := ?_) rfl rfl (by kernel_rfl) (by kernel_rfl) (by kernel_rfl) (fun _ _ _ h => h) (by rfl) hHeld (fun w hSw => ?_) ?_
  rotate_left 1
  · (try dsimp only at hSw); go_simp; try with_reducible rfl
  simp only [List.set_cons_succ, List.set_cons_zero]
  refine takeL 2 13 (v := ?_) rfl rfl (by kernel_rfl) (by kernel_rfl) (by kernel_rfl) (fun _ _ _ h => h) (by rfl) hHeld (fun w hSw => ?_) ?_
  rotate_left 1
  · (try dsimp only at hSw); go_simp; try with_reducible rfl
  simp only [List.set_cons_succ, List.set_cons_zero]
  refine takeL 3 14 (v := ?_) rfl rfl (by kernel_rfl) (by kernel_rfl) (by kernel_rfl) (fun _ _ _ h => h) (by rfl) hHeld (fun w hSw => ?_) ?_
  rotate_left 1
  · (try dsimp only at hSw); go_simp; try with_reducible rfl
  simp only [List.set_cons_succ, List.set_cons_zero]
  refine onlyL 4 rfl (by kernel_rfl) (by rfl) (fun K hK => ?_)
  go_wp2_with fail
  refine (put_some B 8 _ (by decide) (by decide)).mono ?_
  rintro e w3 ⟨rfl, ha3, hb3, hz3⟩
  simp only [World.size_drew] at ha3 hb3 hz3
  refine hK.out _ _ ((hb3.cell (p := ⟨w.heap.size, 1, none⟩) (by simp only; omega)).trans hc1') (fun hHeld => ?_)
  clear hK K
  refine onlyL 5 rfl (by kernel_rfl) (by rfl) (fun K hK => ?_)
  refine wp_copy rfl (.tmp 12) (.tmp 15) rfl (w.heap.size + 1) 8 8 8 _ 0 8 rfl rfl (splice (List.replicate 16 0) 0 (putL A 8)) (putL B 8) (hR2.below ((Below.refl _ _).drew.trans hb3) hlt2) (putL_length _ _) ha3 (by rw [length_splice _ _ _ (by simp [putL_length])]; simp) (w.heap.size + 1) W0 (hBe2.trans ((Below.refl _ _).drew.trans (hb3.mono (by omega)))) (Nat.le_refl _) (fun w4 hR4 hBe4 => ?_)
  refine hK.out _ _ ((hBe4.cell (p := ⟨w.heap.size, 1, none⟩) (by simp only; omega)).trans ((hBe2.cell (p := ⟨w.heap.size, 1, none⟩) (by simp only; omega)).symm.trans hc1')) (fun hHeld => ?_)
  clear hK K
  refine wpAnyH_done (by kernel_rfl) ?_ _
  go_wp2
  go_ret
  rw [splice_two] at hR4
  exact ⟨w.heap.size + 1, rfl, by omega, hR4, hB.trans (hBe4.mono (by omega))⟩
theorem wbytes (p : BitVec 64 × BitVec 64) (w : World) : Calls Try.prog 40 #[.agg #[.int .u64 (nv p.1), .int .u64 (nv p.2)]] w fun e w' => ∃ g, e = .returned (.slice (some ⟨g, 0, none⟩) 16 16) ∧ w.heap.size ≤ g ∧ Row w' g (pairL p) ∧ Below w.heap.size w w' := bytes_any p.1.toNat p.2.toNat w
set_option maxHeartbeats 400000 in
theorem number_some (b off cap n : Nat) (xs : List Int) (w : World) (hn : xs.length = n) (hl : n ≤ 8) (hx : Bytes xs) (hc : At w b off xs) :
    Calls Try.prog 67 #[.slice (some ⟨b, off, none⟩) n cap] w fun e w' => e = .returned (.int .u64 (num xs)) ∧ w' = w := by
  subst hn
  go_enter Try.func67, Try.ntmps67
  go_wp2
  go_loop [3, 8] (fun v i => ∃ k : Nat, k ≤ xs.length ∧ i = .int .i64 k ∧ v = .int .u64 (num (xs.take k))) (fun _ i => xs.length - (intOf i).toNat)
  case atStart => exact ⟨0, Nat.zero_le _, rfl, rfl⟩
  case round =>
    obtain ⟨k, hk, rfl, rfl⟩ := hrel
    by_cases hlt : k < xs.length
    · have hck := hc k hlt
      go_wp2
      go_round
      case rel => exact ⟨k + 1, hlt, by go_num, by rw [num_step xs hx hl k hlt]⟩
      case measure => simp [intOf]; omega
    · go_wp2
      go_ret
      exact ⟨ret_int (by rw [List.take_of_length_le (by omega)]), rfl⟩
set_option maxHeartbeats 400000 in
theorem pair_none (a : Option Addr) (n cap : Nat) (w : World) (h : n ≠ 16) :
    Calls Try.prog 49 #[.slice a n cap] w fun e w' => e = .returned (.tuple #[.agg #[.int .u64 0, .int .u64 0], .bool false]) ∧ Below w.heap.size w w' := by
  have h' : ((n : Int) != 16) = true := by rw [bne_iff_ne]; omega
  go_enter Try.func49, Try.ntmps49
  go_wp2
  exact bodyPost_ret (v := .tuple #[.agg #[.int .u64 0, .int .u64 0], .bool false]) (by simp [results, Try.results49, go_sem]) rfl ⟨rfl, by go_grown⟩
set_option maxHeartbeats 1000000 in
theorem pair_some (b off cap : Nat) (xs : List Int) (w : World) (hn : xs.length = 16) (hcap : 16 ≤ cap) (hcm : cap ≤ maxLen) (hx : Bytes xs) (hb : b < w.heap.size) (hat0 : At w b off xs) :
    Calls Try.prog 49 #[.slice (some ⟨b, off, none⟩) 16 cap] w fun e w' => e = .returned (.tuple #[.agg #[.int .u64 (num (xs.take 8)), .int .u64 (num (xs.drop 8))], .bool true]) ∧ Below w.heap.size w w' := by
  unfold maxLen at hcm
  have hn8 : 8 ≤ xs.length := by omega
  have c8 : (8 : Int) ≤ (cap : Int) := by omega
  have c16 : (16 : Int) ≤ (cap : Int) := by omega
  have cn : ¬ cap = 8 := by omega
  have hat := fun o => (hat0.alloc hb o).drawn
  have hat := hat (.cells #[.int .u64 0, .int .u64 0] 34)
  go_enter Try.func49, Try.ntmps49
  go_wp2
  refine wp_region_held_drew (S := fun _ => True) (by kernel_rfl) trivial (fun hHeld => ?_)
  refine takeM 0 8 0 rfl rfl rfl (by kernel_rfl) (by kernel_rfl) (by kernel_rfl) (fun _ _ _ h => h) (by rfl) hHeld rfl ?_
  simp only [List.set_cons_succ, List.set_cons_zero]
  refine takeL 1 9 (v := ?_) rfl rfl (by kernel_rfl) (by kernel_rfl) (by kernel_rfl) (fun _ _ _ h => h) (by rfl) hHeld (fun w hSw => ?_) ?_
  rotate_left 1
  · (try dsimp only at hSw); go_simp; try with_reducible rfl
  simp only [List.set_cons_succ, List.set_cons_zero]
  refine takeM 3 11 0 rfl rfl rfl (by kernel_rfl) (by kernel_rfl) (by kernel_rfl) (fun _ _ _ h => h) (by rfl) hHeld rfl ?_
  simp only [List.set_cons_succ, List.set_cons_zero]
  refine takeL 4 12 (v := ?_) rfl rfl (by kernel_rfl) (by kernel_rfl) (by kernel_rfl) (fun _ _ _ h => h) (by rfl) hHeld (fun w hSw => ?_) ?_
  rotate_left 1
  · (try dsimp only at hSw); go_simp; try with_reducible rfl
  simp only [List.set_cons_succ, List.set_cons_zero]
  refine onlyL 2 rfl (by kernel_rfl) (by rfl) (fun K hK => ?_)
  go_wp2_with fail
  refine (number_some b off cap 8 (xs.take 8) _ (by simp [hn]) (by omega) (hx.take 8) (At.cut1 hat 8 hn8)).mono ?_
  rintro e w1 ⟨rfl, rfl⟩
  refine hK.out _ _ trivial (fun hHeld => ?_)
  clear hK K
  refine onlyL 5 rfl (by kernel_rfl) (by rfl) (fun K hK => ?_)
  go_wp2_with fail
  refine (number_some b (off + 8) (cap - 8) 8 (xs.drop 8) _ (by simp [hn]) (by omega) (hx.drop 8) (At.cut2 hat 8)).mono ?_
  rintro e w1 ⟨rfl, rfl⟩
  refine hK.out _ _ trivial (fun hHeld => ?_)
  clear hK K
  refine takeL 6 14 (v := ?_) rfl rfl (by kernel_rfl) (by kernel_rfl) (by kernel_rfl) (fun _ _ _ h => h) (by rfl) hHeld (fun w hSw => ?_) ?_
  rotate_left 1
  · (try dsimp only at hSw); go_simp; try with_reducible rfl
  simp only [List.set_cons_succ, List.set_cons_zero]
  refine onlyL 7 rfl (by kernel_rfl) (by rfl) (fun K hK => ?_)
  go_wp2
  refine hK.out _ _ trivial (fun hHeld => ?_)
  clear hK K
  refine takeL 8 3 (v := ?_) rfl rfl (by kernel_rfl) (by kernel_rfl) (by kernel_rfl) (fun _ _ _ h => h) (by rfl) hHeld (fun w hSw => ?_) ?_
  rotate_left 1
  · (try dsimp only at hSw); go_simp; try with_reducible rfl
  simp only [List.set_cons_succ, List.set_cons_zero]
  refine wpAnyH_done (by kernel_rfl) ?_ _
  go_wp2
  exact bodyPost_ret (v := .tuple #[.agg #[.int .u64 (num (xs.take 8)), .int .u64 (num (xs.drop 8))], .bool true]) (by simp [results, Try.results49, go_sem]) rfl ⟨rfl, by go_grown⟩
theorem wpair (b off cap : Nat) (xs : List Int) (w : World) (hn : xs.length = 16) (hcap : 16 ≤ cap) (hcm : cap ≤ maxLen) (hx : Bytes xs) (hb : b < w.heap.size) (hat : At w b off xs) :
    Calls Try.prog 49 #[.slice (some ⟨b, off, none⟩) 16 cap] w fun e w' => e = .returned (.tuple #[.agg #[.int .u64 (nv (pairOf xs).1), .int .u64 (nv (pairOf xs).2)], .bool true]) ∧ Below w.heap.size w w' := by
  rw [pairOf_1 xs hx, pairOf_2 xs hx (by omega)]
  exact pair_some b off cap xs w hn hcap hcm hx hb hat
end Go.Proofs.Ytkbhkgfchiacbaa


/- Numbers that are used once, plain. -/
namespace Go.Proofs.Ytkbhkgfchiacbaa
open Go.RowKit
set_option maxRecDepth 20000

/-- A uint32 as the walks have it. -/
def nv32 (x : BitVec 32) : Int := (x.toNat : Int)
theorem nv32_range (x : BitVec 32) : 0 ≤ nv32 x ∧ nv32 x < 4294967296 := by
  have := x.isLt
  unfold nv32
  omega
theorem nv32_inj {x y : BitVec 32} (h : nv32 x = nv32 y) : x = y := BitVec.eq_of_toNat_eq (by unfold nv32 at h; omega)
theorem nv32_of (a : Int) (h0 : 0 ≤ a) (h1 : a < 4294967296) : nv32 (BitVec.ofInt 32 a) = a := by
  unfold nv32
  rw [BitVec.toNat_ofInt]
  omega
/-- Epoch, Slot, Version. -/
abbrev Nn : Type := BitVec 32 × BitVec 32 × BitVec 64
end Go.Proofs.Ytkbhkgfchiacbaa


/- Plain facts: numbers that are used once, the flow of bytes, and rows byte by byte. -/
namespace Go.Proofs.Ytkbhkgfchiacbaa
open Go.RowKit
set_option maxRecDepth 20000

/-- A number as the Pair that is turned into a key. -/
def nonP (n : Nn) : BitVec 64 × BitVec 64 := ((n.1 ++ n.2.1 : BitVec (32 + 32)), n.2.2)
theorem cat32 (a b : BitVec 32) : (a ++ b : BitVec (32 + 32)).toNat = a.toNat * 4294967296 + b.toNat := by
  have hb := b.isLt
  rw [BitVec.toNat_append, ← Nat.shiftLeft_add_eq_or_of_lt hb, Nat.shiftLeft_eq]
theorem nonP_inj {m n : Nn} (h : nonP m = nonP n) : m = n := by
  obtain ⟨a, b, c⟩ := m
  obtain ⟨a', b', c'⟩ := n
  simp only [nonP, Prod.mk.injEq] at h
  obtain ⟨h1, rfl⟩ := h
  have h1 : (a ++ b : BitVec (32 + 32)).toNat = (a' ++ b' : BitVec (32 + 32)).toNat := by rw [h1]
  rw [cat32, cat32] at h1
  have h2 := b.isLt
  have h3 := b'.isLt
  obtain rfl : a = a' := BitVec.eq_of_toNat_eq (by omega)
  obtain rfl : b = b' := BitVec.eq_of_toNat_eq (by omega)
  rfl
theorem nonP_or (n : Nn) : bits .or .u64 (IntKind.u64.wrap (nv32 n.1 * 4294967296)) (nv32 n.2.1) = nv (nonP n).1 := by
  have h1 := n.1.isLt
  have h2 := n.2.1.isLt
  have e : IntKind.u64.wrap (nv32 n.1 * 4294967296) = ((n.1.toNat * 4294967296 : Nat) : Int) := by
    unfold nv32
    rw [IntKind.wrap_u64]
    omega
  rw [e]
  unfold nv32 nv
  rw [u64_or_nat _ _ (by omega) (by omega)]
  show (_ : Int) = (((n.1 ++ n.2.1 : BitVec (32 + 32)).toNat : Nat) : Int)
  rw [BitVec.toNat_append, Nat.shiftLeft_eq]
/-- A key of a key and a number. -/
def subP (key : BitVec 64 × BitVec 64) (n : Nn) : BitVec 64 × BitVec 64 := enc key (nonP n)
theorem subP_inj {key : BitVec 64 × BitVec 64} {m n : Nn} (h : subP key m = subP key n) : m = n := nonP_inj (enc_inj h)

/-- Block number i: 1, 2, .. -/
def blk1 (sub : BitVec 64 × BitVec 64) (i : Nat) : List Int := pairL (enc sub (BitVec.ofNat 64 i, 0#64))
theorem blk1_length (sub : BitVec 64 × BitVec 64) (i : Nat) : (blk1 sub i).length = 16 := pairL_length _
/-- The first k blocks. -/
def blk (sub : BitVec 64 × BitVec 64) : Nat → List Int
  | 0 => []
  | k + 1 => blk sub k ++ blk1 sub (k + 1)
theorem blk_succ (sub : BitVec 64 × BitVec 64) (k : Nat) : blk sub (k + 1) = blk sub k ++ blk1 sub (k + 1) := rfl
theorem blk_length (sub : BitVec 64 × BitVec 64) : ∀ k, (blk sub k).length = 16 * k
  | 0 => rfl
  | k + 1 => by rw [blk_succ, List.length_append, blk_length sub k, blk1_length]; omega
theorem blk_bytes (sub : BitVec 64 × BitVec 64) : ∀ k, Bytes (blk sub k)
  | 0 => fun x hx => by cases hx
  | k + 1 => (blk_bytes sub k).append (pairL_bytes _)
theorem blk_take (sub : BitVec 64 × BitVec 64) (k : Nat) : ∀ m, k ≤ m → (blk sub m).take (16 * k) = blk sub k
  | 0, h => by obtain rfl : k = 0 := by omega
               rfl
  | m + 1, h => by
    by_cases e : k = m + 1
    · subst e
      exact List.take_of_length_le (by rw [blk_length]; exact Nat.le_refl _)
    · rw [blk_succ, List.take_append_of_le_length (by rw [blk_length]; omega), blk_take sub k m (by omega)]
/-- The first n bytes. -/
def flowL (sub : BitVec 64 × BitVec 64) (n : Nat) : List Int := (blk sub ((n + 15) / 16)).take n
theorem flowL_length (sub : BitVec 64 × BitVec 64) (n : Nat) : (flowL sub n).length = n := by
  rw [flowL, List.length_take, blk_length]
  omega
theorem flowL_bytes (sub : BitVec 64 × BitVec 64) (n : Nat) : Bytes (flowL sub n) := (blk_bytes _ _).take _
theorem flowL_of (sub : BitVec 64 × BitVec 64) (n k : Nat) (h : n ≤ 16 * k) : (blk sub k).take n = flowL sub n := by
  rw [flowL, ← blk_take sub ((n + 15) / 16) k (by omega), List.take_take, Nat.min_eq_left (by omega)]
theorem flowL_begin (sub : BitVec 64 × BitVec 64) (a b : Nat) (h : a ≤ b) : (flowL sub b).take a = flowL sub a := by
  rw [flowL, List.take_take, Nat.min_eq_left h, flowL_of sub a _ (by omega)]
theorem flowL_block (sub : BitVec 64 × BitVec 64) (i : Nat) : (flowL sub (16 * (i + 1))).drop (16 * i) = blk1 sub (i + 1) := by
  rw [← flowL_of sub (16 * (i + 1)) (i + 1) (Nat.le_refl _), List.take_of_length_le (by rw [blk_length]; exact Nat.le_refl _), blk_succ, ← blk_length sub i, List.drop_left]
/-- What Bytes answers at any number. -/
def flowI (sub : BitVec 64 × BitVec 64) (n : Int) : List Int := if 0 ≤ n ∧ n ≤ 4000 then flowL sub n.toNat else []
theorem flowI_in (sub : BitVec 64 × BitVec 64) (n : Nat) (h : n ≤ 4000) : flowI sub n = flowL sub n := by
  rw [flowI, if_pos (by omega)]
  rfl
theorem flowI_out (sub : BitVec 64 × BitVec 64) (n : Int) (h : n < 0 ∨ 4000 < n) : flowI sub n = [] := if_neg (by omega)

/-- Two rows, byte by byte. -/
def xor8 (x y : Int) : Int := bits .xor .u8 x y
theorem xor8_nat (x y : Nat) (hx : x < 256) (hy : y < 256) : xor8 x y = ((x ^^^ y : Nat) : Int) := by
  unfold xor8
  rw [u8_xor_nat _ _ hx hy]
theorem xor8_range {x y : Int} (hx : 0 ≤ x ∧ x < 256) (hy : 0 ≤ y ∧ y < 256) : 0 ≤ xor8 x y ∧ xor8 x y < 256 := by
  have h : xor8 x y = ((x.toNat ^^^ y.toNat : Nat) : Int) := u8_xor x y hx.1 hx.2 hy.1 hy.2
  have h2 : x.toNat ^^^ y.toNat < 2 ^ 8 := Nat.xor_lt_two_pow (by omega) (by omega)
  omega
theorem xor8_back {x y : Int} (hx : 0 ≤ x ∧ x < 256) (hy : 0 ≤ y ∧ y < 256) : xor8 (xor8 x y) y = x := by
  have h : xor8 x y = ((x.toNat ^^^ y.toNat : Nat) : Int) := u8_xor x y hx.1 hx.2 hy.1 hy.2
  have hr := xor8_range hx hy
  have h2 : xor8 (xor8 x y) y = (((xor8 x y).toNat ^^^ y.toNat : Nat) : Int) := u8_xor _ y hr.1 hr.2 hy.1 hy.2
  rw [h2, h, Int.toNat_natCast, Nat.xor_assoc, Nat.xor_self, Nat.xor_zero]
  omega
def xorL (xs ys : List Int) : List Int := List.zipWith xor8 xs ys
theorem xorL_length (xs ys : List Int) : (xorL xs ys).length = min xs.length ys.length := List.length_zipWith
theorem xorL_bytes : ∀ {xs ys : List Int}, Bytes xs → Bytes ys → Bytes (xorL xs ys)
  | [], ys, _, _ => fun z hz => by simp [xorL] at hz
  | x :: xs, [], _, _ => fun z hz => by simp [xorL] at hz
  | x :: xs, y :: ys, hx, hy => fun z hz => by
    rw [xorL, List.zipWith_cons_cons, List.mem_cons] at hz
    rcases hz with rfl | hz
    · exact xor8_range (hx x List.mem_cons_self) (hy y List.mem_cons_self)
    · exact xorL_bytes (fun u hu => hx u (List.mem_cons_of_mem _ hu)) (fun u hu => hy u (List.mem_cons_of_mem _ hu)) z hz
theorem xorL_back : ∀ {xs ys : List Int}, Bytes xs → Bytes ys → xorL (xorL xs ys) ys = xs.take (min xs.length ys.length)
  | [], ys, _, _ => by simp [xorL]
  | x :: xs, [], _, _ => by simp [xorL]
  | x :: xs, y :: ys, hx, hy => by
    have ih := xorL_back (fun u hu => hx u (List.mem_cons_of_mem _ hu)) (fun u hu => hy u (List.mem_cons_of_mem _ hu))
    unfold xorL at ih ⊢
    rw [List.zipWith_cons_cons, List.zipWith_cons_cons, ih, xor8_back (hx x List.mem_cons_self) (hy y List.mem_cons_self), List.length_cons, List.length_cons, Nat.succ_min_succ, List.take_succ_cons]
theorem xorL_get (xs ys : List Int) (k : Nat) (h1 : k < xs.length) (h2 : k < ys.length) : (xorL xs ys)[k]? = some (xor8 (xs.getD k 0) (ys.getD k 0)) := by
  rw [xorL, List.getElem?_zipWith, List.getElem?_eq_getElem h1, List.getElem?_eq_getElem h2]
  simp [h1, h2]
theorem xorL_take (xs ys : List Int) (k : Nat) (h1 : k < xs.length) (h2 : k < ys.length) : (xorL xs ys).take (k + 1) = (xorL xs ys).take k ++ [xor8 (xs.getD k 0) (ys.getD k 0)] := by
  rw [List.take_add_one, xorL_get xs ys k h1 h2]
  rfl
end Go.Proofs.Ytkbhkgfchiacbaa


/- What an ideal sealer has: plain; and the document's own, in memory. -/
namespace Go.Proofs.Ytkbhkgfchiacbaa
open Go.RowKit
set_option maxRecDepth 20000

/-- What was sealed. -/
structure Iss where
  key : BitVec 64 × BitVec 64
  non : Nn
  head : List Int
  data : List Int
instance : Inhabited Iss := ⟨⟨(0#64, 0#64), (0#32, 0#32, 0#64), [], []⟩⟩
/-- What comes out, of the i-th, of n bytes. -/
def outB (i n : Nat) : List Int := (List.range n).map fun k => (putL i 8).getD (k % 8) 0
theorem outB_length (i n : Nat) : (outB i n).length = n := by simp [outB]
theorem outB_bytes (i n : Nat) : Bytes (outB i n) := fun x hx => by
  obtain ⟨k, _, rfl⟩ := List.mem_map.1 hx
  have hl : k % 8 < (putL i 8).length := by rw [putL_length]; exact Nat.mod_lt _ (by decide)
  rw [List.getD, List.getElem?_eq_getElem hl, Option.getD_some]
  exact putL_bytes i 8 _ (List.getElem_mem hl)
/-- What was sealed, what was summed. -/
abbrev OSt : Type := List Iss × List (List Int)
/-- Which sum. -/
def sumIx (S : List (List Int)) (p : List Int) : Nat := List.idxOf p S + 1
def sumSt (S : List (List Int)) (p : List Int) : List (List Int) := if p ∈ S then S else S ++ [p]
theorem sumIx_new {S : List (List Int)} {p : List Int} (h : p ∉ S) : sumIx S p = S.length + 1 := by rw [sumIx, List.idxOf_eq_length h]
theorem sumIx_at {S : List (List Int)} {p : List Int} {k : Nat} (hk : k < S.length) (h : S.getD k [] = p) (hf : ∀ j, j < k → S.getD j [] ≠ p) : sumIx S p = k + 1 ∧ sumSt S p = S := by
  have e : S[k] = p := by simpa [List.getD, hk] using h
  have hm : p ∈ S := e ▸ List.getElem_mem hk
  refine ⟨?_, if_pos hm⟩
  have h1 : List.idxOf p S < S.length := List.idxOf_lt_length_iff.2 hm
  have h2 : S[List.idxOf p S] = p := List.getElem_idxOf h1
  have h3 : ¬ List.idxOf p S < k := fun hlt => hf _ hlt (by simp [List.getD, h1, h2])
  have h4 : ¬ k < List.idxOf p S := fun hlt => by
    have := List.not_of_lt_findIdx (p := (· == p)) (xs := S) hlt
    simp [e] at this
  unfold sumIx
  omega
/-- Where an issue's slices stand. -/
structure SlC where
  h : Option Addr
  hc : Nat
  d : Option Addr
  dc : Nat
  o : Option Addr
  oc : Nat
/-- An issue, cell by cell: the i-th, from 0. -/
def issC (x : Iss) (c : SlC) (i : Nat) : List Value := [.int .u64 (nv x.key.1), .int .u64 (nv x.key.2), .int .u32 (nv32 x.non.1), .int .u32 (nv32 x.non.2.1), .int .u64 (nv x.non.2.2), .slice c.h x.head.length c.hc, .slice c.d x.data.length c.dc, .slice c.o x.data.length c.oc, .int .u64 18446744073709551615, .int .u64 ((i : Int) + 1)]
theorem issC_length (x : Iss) (c : SlC) (i : Nat) : (issC x c i).length = 10 := rfl
/-- Its slices have its bytes. -/
structure IssIn (G : Nat → Prop) (w : World) (x : Iss) (c : SlC) (i : Nat) : Prop where
  hs : SIn G w c.h x.head.length x.head
  hl : x.head.length ≤ c.hc ∧ c.hc ≤ maxLen ∧ (c.h = none → x.head.length = 0 ∧ c.hc = 0)
  hb : Bytes x.head
  ds : SIn G w c.d x.data.length x.data
  dl : x.data.length ≤ c.dc ∧ c.dc ≤ maxLen ∧ (c.d = none → x.data.length = 0 ∧ c.dc = 0)
  db : Bytes x.data
  os : SIn G w c.o x.data.length (outB (i + 1) x.data.length)
  ol : x.data.length ≤ c.oc ∧ c.oc ≤ maxLen ∧ (c.o = none → x.data.length = 0 ∧ c.oc = 0)
theorem IssIn.off {F G : Nat → Prop} {w w' : World} {x : Iss} {c : SlC} {i : Nat} (h : IssIn G w x c i) (hb : Off F w w') (hd : ∀ b, b < w.heap.size → G b → ¬ F b) : IssIn G w' x c i :=
  ⟨h.hs.off hb hd, h.hl, h.hb, h.ds.off hb hd, h.dl, h.db, h.os.off hb hd, h.ol⟩
theorem IssIn.mono {G G' : Nat → Prop} {w : World} {x : Iss} {c : SlC} {i : Nat} (h : IssIn G w x c i) (hd : ∀ b, b < w.heap.size → G b → G' b) : IssIn G' w x c i :=
  ⟨h.hs.mono hd, h.hl, h.hb, h.ds.mono hd, h.dl, h.db, h.os.mono hd, h.ol⟩
/-- A row of issues: its block, and others, in which its slices stand. -/
def IRow (G : Nat → Prop) (w : World) (v : Value) (L : List Iss) : Prop := ∃ C : Nat → SlC, w.ownsRow 0 98 10 v L.length (flatG (fun i => issC (L.getD i default) (C i) i) L.length) ∧ (∀ k, v.ownBlock = some k → G k) ∧ ∀ i, i < L.length → IssIn (fun k => G k ∧ v.ownBlock ≠ some k) w (L.getD i default) (C i) i
theorem IRow.off {F G : Nat → Prop} {w w' : World} {v : Value} {L : List Iss} (h : IRow G w v L) (hb : Off F w w') (hd : ∀ b, b < w.heap.size → G b → ¬ F b) : IRow G w' v L := by
  obtain ⟨C, h1, h2, h3⟩ := h
  refine ⟨C, own_off h1 hb (fun k hk => ?_), h2, fun i hi => (h3 i hi).off hb (fun b hlt hg => hd b hlt hg.1)⟩
  obtain ⟨cur, hh⟩ := own_type h1 hk
  obtain ⟨hlt, _⟩ := Array.getElem?_eq_some_iff.1 hh
  exact hd k hlt (h2 k hk)
/-- A row of texts. -/
def SRow (G : Nat → Prop) (w : World) (v : Value) (S : List (List Int)) : Prop := w.ownsRow 0 9 1 v S.length (S.map fun p => .string (strOfNums p)) ∧ (∀ k, v.ownBlock = some k → G k) ∧ ∀ p ∈ S, Bytes p
theorem SRow.off {F G : Nat → Prop} {w w' : World} {v : Value} {S : List (List Int)} (h : SRow G w v S) (hb : Off F w w') (hd : ∀ b, b < w.heap.size → G b → ¬ F b) : SRow G w' v S := by
  obtain ⟨h1, h2, h3⟩ := h
  refine ⟨own_off h1 hb (fun k hk => ?_), h2, h3⟩
  obtain ⟨cur, hh⟩ := own_type h1 hk
  obtain ⟨hlt, _⟩ := Array.getElem?_eq_some_iff.1 hh
  exact hd k hlt (h2 k hk)
/-- Two slices in a block of their own. -/
def TBox (w : World) (b : Nat) (u v : Value) : Prop := w.heap[b]? = some (.cells #[u, v] 58 (0, 0))
theorem TBox.c0 {w : World} {b : Nat} {u v : Value} (h : TBox w b u v) : w.cell? ⟨b, 0, none⟩ = some u := by unfold TBox at h; simp [World.cell?, h]
theorem TBox.c1 {w : World} {b : Nat} {u v : Value} (h : TBox w b u v) : w.cell? ⟨b, 1, none⟩ = some v := by unfold TBox at h; simp [World.cell?, h]
theorem TBox.frozen {w : World} {b : Nat} {u v : Value} (h : TBox w b u v) (i : Nat) : w.frozen? ⟨b, i, none⟩ = false := by unfold TBox at h; simp [World.frozen?, h]
theorem TBox.lt {w : World} {b : Nat} {u v : Value} (h : TBox w b u v) : b < w.heap.size := by
  obtain ⟨hlt, _⟩ := Array.getElem?_eq_some_iff.1 h
  exact hlt
theorem TBox.grown {w w' : World} {b : Nat} {u v : Value} (h : TBox w b u v) (hb : Below w.heap.size w w') : TBox w' b u v := (hb.block b h.lt).trans h
theorem TBox.put0 {w : World} {b : Nat} {u v : Value} (h : TBox w b u v) (u' : Value) : TBox (w.setCell ⟨b, 0, none⟩ u') b u' v := by
  unfold TBox at h ⊢
  simp [World.setCell, Array.getElem?_modify, h]
theorem TBox.put1 {w : World} {b : Nat} {u v : Value} (h : TBox w b u v) (v' : Value) : TBox (w.setCell ⟨b, 1, none⟩ v') b u v' := by
  unfold TBox at h ⊢
  simp [World.setCell, Array.getElem?_modify, h]
/-- The document's own ideal sealer, in block b. -/
structure RAt (FL FS : Nat → Prop) (w : World) (b : Nat) (vL vS : Value) (st : OSt) : Prop where
  box : TBox w b vL vS
  iss : IRow FL w vL st.1
  sum : SRow FS w vS st.2
  nl : ¬ FL b
  ns : ¬ FS b
  ls : ∀ k, FL k → ¬ FS k
def RInv (F : Nat → Prop) (w : World) (b : Nat) (st : OSt) : Prop := ∃ FL FS vL vS, RAt FL FS w b vL vS st ∧ (∀ k, F k ↔ k = b ∨ FL k ∨ FS k) ∧ ∀ k, F k → k < w.heap.size
theorem RAt.off {FL FS G : Nat → Prop} {w w' : World} {b : Nat} {vL vS : Value} {st : OSt} (h : RAt FL FS w b vL vS st) (hb : Off G w w') (hd : ∀ k, k < w.heap.size → k = b ∨ FL k ∨ FS k → ¬ G k) : RAt FL FS w' b vL vS st :=
  ⟨off_block h.box hb (hd b h.box.lt (Or.inl rfl)), h.iss.off hb (fun k hk hf => hd k hk (Or.inr (Or.inl hf))), h.sum.off hb (fun k hk hf => hd k hk (Or.inr (Or.inr hf))), h.nl, h.ns, h.ls⟩
theorem RInv.off {F G : Nat → Prop} {w w' : World} {b : Nat} {st : OSt} (h : RInv F w b st) (hb : Off G w w') (hd : ∀ b, b < w.heap.size → F b → ¬ G b) : RInv F w' b st := by
  obtain ⟨FL, FS, vL, vS, h1, h2, h3⟩ := h
  exact ⟨FL, FS, vL, vS, h1.off hb (fun k hk hf => hd k hk ((h2 k).2 hf)), h2, fun k hk => Nat.lt_of_lt_of_le (h3 k hk) hb.size⟩
theorem RInv.below {F : Nat → Prop} {w w' : World} {b : Nat} {st : OSt} (h : RInv F w b st) (hb : Below w.heap.size w w') : RInv F w' b st := h.off (Off.of_below (F := fun _ => False) hb) (fun _ _ _ h => h)
theorem RInv.lt {F : Nat → Prop} {w : World} {b : Nat} {st : OSt} (h : RInv F w b st) (k : Nat) (hk : F k) : k < w.heap.size := by
  obtain ⟨_, _, _, _, _, _, h3⟩ := h
  exact h3 k hk
/-- The tag of the i-th. -/
def tagI (i : Nat) : BitVec 64 × BitVec 64 := (18446744073709551615#64, BitVec.ofNat 64 i)
theorem tagI_1 (i : Nat) : nv (tagI i).1 = 18446744073709551615 := rfl
theorem tagI_2 (i : Nat) (h : i < 18446744073709551616) : nv (tagI i).2 = i := by
  unfold nv tagI
  rw [BitVec.toNat_ofNat]
  omega
/-- What is asked to be opened. -/
structure Ask where
  key : BitVec 64 × BitVec 64
  non : Nn
  head : List Int
  bytes : List Int
  tag : BitVec 64 × BitVec 64
/-- The i-th, from 0, is just this. -/
def Hit (L : List Iss) (q : Ask) (i : Nat) : Prop := i < L.length ∧ (L.getD i default).key = q.key ∧ (L.getD i default).non = q.non ∧ (L.getD i default).head = q.head ∧ outB (i + 1) (L.getD i default).data.length = q.bytes ∧ tagI (i + 1) = q.tag
theorem Hit.one {L : List Iss} {q : Ask} {i j : Nat} (h : Hit L q i) (k : Hit L q j) (hL : L.length < 18446744073709551615) : i = j := by
  have e := h.2.2.2.2.2.trans k.2.2.2.2.2.symm
  have h1 := tagI_2 (i + 1) (by have := h.1; omega)
  have h2 := tagI_2 (j + 1) (by have := k.1; omega)
  rw [e, h2] at h1
  omega
end Go.Proofs.Ytkbhkgfchiacbaa


/- A Pair in a block of its own. -/
namespace Go.Proofs.Ytkbhkgfchiacbaa
open Go.RowKit
set_option maxRecDepth 20000

/-- Two numbers in a block of their own. -/
def Box (w : World) (b : Nat) (x y : Int) : Prop := w.heap[b]? = some (.cells #[.int .u64 x, .int .u64 y] 34 (0, 0))
theorem Box.c0 {w : World} {b : Nat} {x y : Int} (h : Box w b x y) : w.cell? ⟨b, 0, none⟩ = some (.int .u64 x) := by unfold Box at h; simp [World.cell?, h]
theorem Box.c1 {w : World} {b : Nat} {x y : Int} (h : Box w b x y) : w.cell? ⟨b, 1, none⟩ = some (.int .u64 y) := by unfold Box at h; simp [World.cell?, h]
theorem Box.frozen {w : World} {b : Nat} {x y : Int} (h : Box w b x y) (i : Nat) : w.frozen? ⟨b, i, none⟩ = false := by unfold Box at h; simp [World.frozen?, h]
theorem Box.lt {w : World} {b : Nat} {x y : Int} (h : Box w b x y) : b < w.heap.size := by
  obtain ⟨hlt, _⟩ := Array.getElem?_eq_some_iff.1 h
  exact hlt
theorem Box.below {w w' : World} {B b : Nat} {x y : Int} (h : Box w b x y) (hb : Below B w w') (hB : b < B) : Box w' b x y := (hb.block b hB).trans h
theorem Box.alloc {w : World} {b : Nat} {x y : Int} (h : Box w b x y) (o : Obj) : Box (w.alloc o) b x y := h.below ((Below.refl w.heap.size w).alloc (Nat.le_refl _) o) h.lt
theorem Box.new (w : World) (x y : Int) : Box (w.alloc (.cells #[.int .u64 x, .int .u64 y] 34)) w.heap.size x y := by
  show (w.heap.push _)[w.heap.size]? = _
  simp
theorem Box.grown {w w' : World} {b : Nat} {x y : Int} (h : Box w b x y) (hb : Below w.heap.size w w') : Box w' b x y := h.below hb h.lt
theorem Box.set2 {w : World} {b o : Nat} {x y : Int} (h : Box w b x y) (hne : b ≠ o) (u v : Value) : Box ((w.setCell ⟨o, 0, none⟩ u).setCell ⟨o, 1, none⟩ v) b x y :=
  ((Below.heap_setCell _ ⟨o, 1, none⟩ v b hne).trans (Below.heap_setCell w ⟨o, 0, none⟩ u b hne)).trans h
theorem Box.put2 {w : World} {b : Nat} {x y : Int} (h : Box w b x y) (x' y' : Int) : Box ((w.setCell ⟨b, 0, none⟩ (.int .u64 x')).setCell ⟨b, 1, none⟩ (.int .u64 y')) b x' y' := by
  unfold Box at h ⊢
  simp [World.setCell, Array.getElem?_modify, h]
theorem Box.drew {w : World} {b : Nat} {x y : Int} (h : Box w b x y) : Box w.drew b x y := h
end Go.Proofs.Ytkbhkgfchiacbaa


/- == on two Pairs. -/
namespace Go.Proofs.Ytkbhkgfchiacbaa
open Go.RowKit
set_option maxRecDepth 20000
theorem Try.size32 : (Try.prog.info? 32).map (·.size) = some 1 := by kernel_rfl
theorem size22 (w : World) : (sizeOf 32).run Try.prog w = .ok 1 w := by
  have := Try.size32
  cases h : Try.prog.info? 32 with
  | none => rw [h] at this; simp at this
  | some i => rw [h] at this; simp at this; simp [sizeOf, typeInfo, h, this]
theorem eq32' (d : Nat) (x y x' y' : Int) (w : World) : (Op.equalIn (d + 1 + 1) 34 (.agg #[.int .u64 x, .int .u64 y]) (.agg #[.int .u64 x', .int .u64 y'])).run Try.prog w = .ok (x == x' && y == y') w := by
  have h1 : ∀ a b : Int, (Op.equalIn (d + 1) 32 (.int .u64 a) (.int .u64 b)).run Try.prog w = .ok (a == b) w := fun a b => run_equalIn_int w d 32 .u64 .u64 a b Try.underlying32
  rw [Op.equalIn]
  have hp : ∀ (cs : Array Value) (o : Nat) (v : Value), cs[o]? = some v → (part 32 cs o).run Try.prog w = .ok v w := by
    intro cs o v h
    simp [part, isAgg, run_underlying Try.underlying32, h, Sem.run_bind, Sem.run_pure]
  have p0 := hp #[.int .u64 x, .int .u64 y] 0 (.int .u64 x) rfl
  have p1 := hp #[.int .u64 x, .int .u64 y] 1 (.int .u64 y) rfl
  have p0' := hp #[.int .u64 x', .int .u64 y'] 0 (.int .u64 x') rfl
  have p1' := hp #[.int .u64 x', .int .u64 y'] 1 (.int .u64 y') rfl
  clear hp
  simp only [Sem.run_bind, run_underlying Try.underlying34, Result.andThen_ok, size22, Nat.mul_one]
  rw [Std.Legacy.Range.forIn_eq_forIn_range']
  simp only [Std.Legacy.Range.size, List.range', List.forIn_cons, Sem.run_bind, p0, p0', h1, Result.andThen_ok]
  cases hx : (x == x')
  · simp
  · simp [p1, p1', h1]
    cases hy : (y == y') <;> simp_all
theorem eq32 (x y x' y' : Int) (w : World) : (Op.equalIn 10000 34 (.agg #[.int .u64 x, .int .u64 y]) (.agg #[.int .u64 x', .int .u64 y'])).run Try.prog w = .ok (x == x' && y == y') w := eq32' 9998 x y x' y' w
end Go.Proofs.Ytkbhkgfchiacbaa
