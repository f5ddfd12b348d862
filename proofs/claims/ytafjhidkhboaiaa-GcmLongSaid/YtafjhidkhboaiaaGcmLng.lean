/- Stage 5's walks. -/
import Derived.Test.YtafjhidkhboaiaaGcmLaws
namespace Go.Proofs.Ytafjhidkhboaiaa
open Go.RowKit

theorem seal_out_at {fn : Nat} (hS : SealOut fn) (key : BitVec 64 × BitVec 64) (n : Nn) {k1 k2 n1 n2 n3 : Int} (hk1 : nv key.1 = k1) (hk2 : nv key.2 = k2) (hn1 : nv32 n.1 = n1) (hn2 : nv32 n.2.1 = n2) (hn3 : nv n.2.2 = n3) (x y : Option Addr) (nx ny c d : Nat) (h : 4000 < nx ∨ 4000 < ny) (w : World) :
    Calls Try.prog fn #[.agg #[.int .u64 k1, .int .u64 k2], .agg #[.int .u32 n1, .int .u32 n2, .int .u64 n3], .slice x nx c, .slice y ny d] w fun e w' => e = .returned (.tuple #[.agg #[.slice none 0 0, .int .u64 0, .int .u64 0], .bool false]) ∧ Below w.heap.size w w' := by
  subst hk1 hk2 hn1 hn2 hn3
  exact hS key n x y nx ny c d h w
theorem open_long_at {fn : Nat} (hO : OpenLong fn) (key : BitVec 64 × BitVec 64) (n : Nn) {k1 k2 n1 n2 n3 : Int} (hk1 : nv key.1 = k1) (hk2 : nv key.2 = k2) (hn1 : nv32 n.1 = n1) (hn2 : nv32 n.2.1 = n2) (hn3 : nv n.2.2 = n3) (x y : Option Addr) (nx ny c d : Nat) (t1 t2 : Int) (h : 4000 < nx ∨ 4000 < ny) (w : World) :
    Calls Try.prog fn #[.agg #[.int .u64 k1, .int .u64 k2], .agg #[.int .u32 n1, .int .u32 n2, .int .u64 n3], .slice x nx c, .agg #[.slice y ny d, .int .u64 t1, .int .u64 t2]] w fun e w' => (∃ z cz b, e = .returned (.tuple #[.slice z 0 cz, .bool b])) ∧ Below w.heap.size w w' := by
  subst hk1 hk2 hn1 hn2 hn3
  exact (hO key n x y nx ny c d t1 t2 h w).mono fun e w' ⟨⟨z, cz, h1⟩, h2⟩ => ⟨⟨z, cz, false, h1⟩, h2⟩
theorem open_none_at {fn : Nat} (hOy : OpenYes fn) (hOn : OpenNo fn) (key : BitVec 64 × BitVec 64) (n : Nn) {k1 k2 n1 n2 n3 : Int} (hk1 : nv key.1 = k1) (hk2 : nv key.2 = k2) (hn1 : nv32 n.1 = n1) (hn2 : nv32 n.2.1 = n2) (hn3 : nv n.2.2 = n3) (w : World) :
    Calls Try.prog fn #[.agg #[.int .u64 k1, .int .u64 k2], .agg #[.int .u32 n1, .int .u32 n2, .int .u64 n3], .slice none 0 0, .agg #[.slice none 0 0, .int .u64 0, .int .u64 0]] w fun e w' => (∃ z cz b, e = .returned (.tuple #[.slice z 0 cz, .bool b])) ∧ Below w.heap.size w w' := by
  subst hk1 hk2 hn1 hn2 hn3
  by_cases h : tagP (subP key n) [] [] = (0#64, 0#64)
  · exact (hOy key n [] [] none none 0 0 0 0 (0#64, 0#64) (by decide) (by decide) h bytes_nil bytes_nil (by decide) (by decide) (fun _ => ⟨rfl, rfl⟩) (fun _ => ⟨rfl, rfl⟩) w (SAt.none _ _) (SAt.none _ _)).mono fun e w' ⟨z, cz, h1, _, h2⟩ => ⟨⟨z, cz, true, h1⟩, h2⟩
  · exact (hOn key n [] [] none none 0 0 0 0 (0#64, 0#64) (by decide) (by decide) h bytes_nil bytes_nil (by decide) (by decide) (fun _ => ⟨rfl, rfl⟩) (fun _ => ⟨rfl, rfl⟩) w (SAt.none _ _) (SAt.none _ _)).mono fun e w' ⟨⟨z, cz, h1⟩, h2⟩ => ⟨⟨z, cz, false, h1⟩, h2⟩
theorem zeros_bytes (N : Nat) : Bytes (List.replicate N 0) := fun x hx => by
  obtain ⟨_, rfl⟩ := List.mem_replicate.1 hx
  omega

set_option maxRecDepth 10000 in
set_option maxHeartbeats 2000000 in
theorem long_head_in (hSi : SealIn 9) (hOy : OpenYes 15) (N : Nat) (h : N ≤ 4000) (_h2 : N ≤ 4100) (w : World) : Calls Try.prog 7 #[.int .i64 N, .bool true] w fun e w' => e = .returned (.bool true) ∧ Below w.heap.size w w' := by
  have hmk := run_make_row' (P := Try.prog) 28 5 (.int .u8 0) 1 Try.underlying28 Try.info5 rfl .i64 .i64 N (by omega) (by omega)
  obtain ⟨sub, HS⟩ : ∃ sub, Hid (subP (0#64, 0#64) ((0#32, 0#32, 0#64) : Nn) = sub) := ⟨_, rfl⟩
  obtain ⟨ms, HM⟩ : ∃ ms, Hid (mixL sub ([] : List Int) = ms) := ⟨_, rfl⟩
  obtain ⟨t, HT⟩ : ∃ t, Hid (tagP sub (List.replicate N 0) ms = t) := ⟨_, rfl⟩
  have hmb : Bytes ms := by rw [← HM.out]; exact mixL_bytes sub bytes_nil
  have HMB : Hid (mixL sub ms = ([] : List Int)) := by rw [← HM.out]; exact hide' (mixL_back sub bytes_nil)
  go_enter Try.func7, Try.ntmps7
  go_wp2_with fail
  have sb := (Row.made w N).sat (List.length_replicate (n := N))
  have hB : Below w.heap.size w (w.alloc (.cells (madeCells #[.int .u8 0] N) 5)) := by go_grown
  generalize w.alloc (.cells (madeCells #[.int .u8 0] N) 5) = W1 at *
  clear hmk
  refine (seal_at hSi (0#64, 0#64) (0#32, 0#32, 0#64) (by decide) (by decide) (by decide) (by decide) (by decide) (List.replicate N 0) ([] : List Int) (some ⟨w.heap.size, 0, none⟩) none N 0 N 0 (by omega) (by omega) HS.out HM.out HT.out (zeros_bytes N) bytes_nil (Nat.le_refl _) (Nat.le_refl _) (fun e => by cases e) (fun _ => ⟨rfl, rfl⟩) _ sb (SAt.none _ _)).mono ?_
  rintro e w1 ⟨⟨z, cz, rfl, sz, hcz, -, znil⟩, hb⟩
  replace sb := sb.below hb
  replace hB := hB.trans (hb.mono hB.size)
  clear hb
  have hb : Below w1.heap.size w1 (w1.alloc (.cells #[.slice z 0 cz, .int .u64 (nv t.1), .int .u64 (nv t.2)] 30)) := (Below.refl _ _).alloc (Nat.le_refl _) _
  have bS := SBox.new w1 (.slice z 0 cz) (nv t.1) (nv t.2)
  replace sb := sb.below hb
  replace sz := sz.below hb
  replace hB := hB.trans (hb.mono hB.size)
  clear hb
  have ey0 := bS.c0
  have ey1 := bS.c1
  have ey2 := bS.c2
  go_wp2_with fail
  clear ey0 ey1 ey2
  generalize w1.alloc (.cells #[.slice z 0 cz, .int .u64 (nv t.1), .int .u64 (nv t.2)] 30) = w2 at *
  generalize w1.heap.size = A at *
  refine (open_at hOy (0#64, 0#64) (0#32, 0#32, 0#64) (by decide) (by decide) (by decide) (by decide) (by decide) (List.replicate N 0) ms (some ⟨w.heap.size, 0, none⟩) z N 0 N cz t (by omega) (by omega) HS.out HT.out HMB.out (zeros_bytes N) hmb (Nat.le_refl _) hcz (fun e => by cases e) (fun e => by have := znil e; simp_all) _ sb sz).mono ?_
  rintro e w3 ⟨⟨z2, cz2, rfl, -⟩, hb⟩
  replace sb := sb.below hb
  replace sz := sz.below hb
  replace bS := bS.grown hb
  replace hB := hB.trans (hb.mono hB.size)
  clear hb
  go_wp2_with fail
  refine (known_true hSi hOy _).mono ?_
  rintro e w4 ⟨rfl, hb⟩
  replace hB := hB.trans (hb.mono hB.size)
  go_wp2
  go_ret
  exact ⟨rfl, hB⟩

set_option maxRecDepth 10000 in
set_option maxHeartbeats 2000000 in
theorem long_head_out (hSi : SealIn 9) (hOy : OpenYes 15) (hSo : SealOut 9) (hOl : OpenLong 15) (N : Nat) (h : 4000 < N) (h2 : N ≤ 4100) (w : World) : Calls Try.prog 7 #[.int .i64 N, .bool true] w fun e w' => e = .returned (.bool true) ∧ Below w.heap.size w w' := by
  have hmk := run_make_row' (P := Try.prog) 28 5 (.int .u8 0) 1 Try.underlying28 Try.info5 rfl .i64 .i64 N (by omega) (by omega)
  have hdec : decide ((N : Int) ≤ 4000) = false := decide_eq_false (by omega)
  go_enter Try.func7, Try.ntmps7
  go_wp2_with fail
  have sb := (Row.made w N).sat (List.length_replicate (n := N))
  have hB : Below w.heap.size w (w.alloc (.cells (madeCells #[.int .u8 0] N) 5)) := by go_grown
  generalize w.alloc (.cells (madeCells #[.int .u8 0] N) 5) = W1 at *
  clear hmk
  refine (seal_out_at hSo (0#64, 0#64) (0#32, 0#32, 0#64) (by decide) (by decide) (by decide) (by decide) (by decide) (some ⟨w.heap.size, 0, none⟩) none N 0 N 0 (by omega) _).mono ?_
  rintro e w1 ⟨rfl, hb⟩
  replace sb := sb.below hb
  replace hB := hB.trans (hb.mono hB.size)
  clear hb
  have hb : Below w1.heap.size w1 (w1.alloc (.cells #[.slice none 0 0, .int .u64 0, .int .u64 0] 30)) := (Below.refl _ _).alloc (Nat.le_refl _) _
  have bS := SBox.new w1 (.slice none 0 0) 0 0
  replace sb := sb.below hb
  replace hB := hB.trans (hb.mono hB.size)
  clear hb
  have ey0 := bS.c0
  have ey1 := bS.c1
  have ey2 := bS.c2
  go_wp2_with fail
  clear ey0 ey1 ey2
  generalize w1.alloc (.cells #[.slice none 0 0, .int .u64 0, .int .u64 0] 30) = w2 at *
  generalize w1.heap.size = A at *
  refine (open_long_at hOl (0#64, 0#64) (0#32, 0#32, 0#64) (by decide) (by decide) (by decide) (by decide) (by decide) (some ⟨w.heap.size, 0, none⟩) none N 0 N 0 0 0 (by omega) _).mono ?_
  rintro e w3 ⟨⟨z2, cz2, b2, rfl⟩, hb⟩
  replace sb := sb.below hb
  replace bS := bS.grown hb
  replace hB := hB.trans (hb.mono hB.size)
  clear hb
  go_wp2_with fail
  refine (known_true hSi hOy _).mono ?_
  rintro e w4 ⟨rfl, hb⟩
  replace hB := hB.trans (hb.mono hB.size)
  go_wp2
  go_ret
  exact ⟨rfl, hB⟩

set_option maxRecDepth 10000 in
set_option maxHeartbeats 2000000 in
theorem long_data_in (hSi : SealIn 9) (hOy : OpenYes 15) (N : Nat) (h : N ≤ 4000) (_h2 : N ≤ 4100) (w : World) : Calls Try.prog 7 #[.int .i64 N, .bool false] w fun e w' => e = .returned (.bool true) ∧ Below w.heap.size w w' := by
  have hmk := run_make_row' (P := Try.prog) 28 5 (.int .u8 0) 1 Try.underlying28 Try.info5 rfl .i64 .i64 N (by omega) (by omega)
  obtain ⟨sub, HS⟩ : ∃ sub, Hid (subP (0#64, 0#64) ((0#32, 0#32, 0#64) : Nn) = sub) := ⟨_, rfl⟩
  obtain ⟨ms, HM⟩ : ∃ ms, Hid (mixL sub (List.replicate N 0) = ms) := ⟨_, rfl⟩
  obtain ⟨t, HT⟩ : ∃ t, Hid (tagP sub ([] : List Int) ms = t) := ⟨_, rfl⟩
  have hmb : Bytes ms := by rw [← HM.out]; exact mixL_bytes sub (zeros_bytes N)
  have HMB : Hid (mixL sub ms = (List.replicate N 0)) := by rw [← HM.out]; exact hide' (mixL_back sub (zeros_bytes N))
  go_enter Try.func7, Try.ntmps7
  go_wp2_with fail
  have sb := (Row.made w N).sat (List.length_replicate (n := N))
  have hB : Below w.heap.size w (w.alloc (.cells (madeCells #[.int .u8 0] N) 5)) := by go_grown
  generalize w.alloc (.cells (madeCells #[.int .u8 0] N) 5) = W1 at *
  clear hmk
  refine (seal_at hSi (0#64, 0#64) (0#32, 0#32, 0#64) (by decide) (by decide) (by decide) (by decide) (by decide) ([] : List Int) (List.replicate N 0) none (some ⟨w.heap.size, 0, none⟩) 0 N 0 N (by omega) (by omega) HS.out HM.out HT.out bytes_nil (zeros_bytes N) (Nat.le_refl _) (Nat.le_refl _) (fun _ => ⟨rfl, rfl⟩) (fun e => by cases e) _ (SAt.none _ _) sb).mono ?_
  rintro e w1 ⟨⟨z, cz, rfl, sz, hcz, -, znil⟩, hb⟩
  replace sb := sb.below hb
  replace hB := hB.trans (hb.mono hB.size)
  clear hb
  have hb : Below w1.heap.size w1 (w1.alloc (.cells #[.slice z N cz, .int .u64 (nv t.1), .int .u64 (nv t.2)] 30)) := (Below.refl _ _).alloc (Nat.le_refl _) _
  have bS := SBox.new w1 (.slice z N cz) (nv t.1) (nv t.2)
  replace sb := sb.below hb
  replace sz := sz.below hb
  replace hB := hB.trans (hb.mono hB.size)
  clear hb
  have ey0 := bS.c0
  have ey1 := bS.c1
  have ey2 := bS.c2
  go_wp2_with fail
  clear ey0 ey1 ey2
  generalize w1.alloc (.cells #[.slice z N cz, .int .u64 (nv t.1), .int .u64 (nv t.2)] 30) = w2 at *
  generalize w1.heap.size = A at *
  refine (open_at hOy (0#64, 0#64) (0#32, 0#32, 0#64) (by decide) (by decide) (by decide) (by decide) (by decide) ([] : List Int) ms none z 0 N 0 cz t (by omega) (by omega) HS.out HT.out HMB.out bytes_nil hmb (Nat.le_refl _) hcz (fun _ => ⟨rfl, rfl⟩) (fun e => by have := znil e; simp_all) _ (SAt.none _ _) sz).mono ?_
  rintro e w3 ⟨⟨z2, cz2, rfl, -⟩, hb⟩
  replace sb := sb.below hb
  replace sz := sz.below hb
  replace bS := bS.grown hb
  replace hB := hB.trans (hb.mono hB.size)
  clear hb
  go_wp2_with fail
  refine (known_true hSi hOy _).mono ?_
  rintro e w4 ⟨rfl, hb⟩
  replace hB := hB.trans (hb.mono hB.size)
  go_wp2
  go_ret
  exact ⟨rfl, hB⟩

set_option maxRecDepth 10000 in
set_option maxHeartbeats 2000000 in
theorem long_data_out (hSi : SealIn 9) (hOy : OpenYes 15) (hSo : SealOut 9) (hOn : OpenNo 15) (N : Nat) (h : 4000 < N) (h2 : N ≤ 4100) (w : World) : Calls Try.prog 7 #[.int .i64 N, .bool false] w fun e w' => e = .returned (.bool true) ∧ Below w.heap.size w w' := by
  have hmk := run_make_row' (P := Try.prog) 28 5 (.int .u8 0) 1 Try.underlying28 Try.info5 rfl .i64 .i64 N (by omega) (by omega)
  have hdec : decide ((N : Int) ≤ 4000) = false := decide_eq_false (by omega)
  go_enter Try.func7, Try.ntmps7
  go_wp2_with fail
  have sb := (Row.made w N).sat (List.length_replicate (n := N))
  have hB : Below w.heap.size w (w.alloc (.cells (madeCells #[.int .u8 0] N) 5)) := by go_grown
  generalize w.alloc (.cells (madeCells #[.int .u8 0] N) 5) = W1 at *
  clear hmk
  refine (seal_out_at hSo (0#64, 0#64) (0#32, 0#32, 0#64) (by decide) (by decide) (by decide) (by decide) (by decide) none (some ⟨w.heap.size, 0, none⟩) 0 N 0 N (by omega) _).mono ?_
  rintro e w1 ⟨rfl, hb⟩
  replace sb := sb.below hb
  replace hB := hB.trans (hb.mono hB.size)
  clear hb
  have hb : Below w1.heap.size w1 (w1.alloc (.cells #[.slice none 0 0, .int .u64 0, .int .u64 0] 30)) := (Below.refl _ _).alloc (Nat.le_refl _) _
  have bS := SBox.new w1 (.slice none 0 0) 0 0
  replace sb := sb.below hb
  replace hB := hB.trans (hb.mono hB.size)
  clear hb
  have ey0 := bS.c0
  have ey1 := bS.c1
  have ey2 := bS.c2
  go_wp2_with fail
  clear ey0 ey1 ey2
  generalize w1.alloc (.cells #[.slice none 0 0, .int .u64 0, .int .u64 0] 30) = w2 at *
  generalize w1.heap.size = A at *
  refine (open_none_at hOy hOn (0#64, 0#64) (0#32, 0#32, 0#64) (by decide) (by decide) (by decide) (by decide) (by decide) _).mono ?_
  rintro e w3 ⟨⟨z2, cz2, b2, rfl⟩, hb⟩
  replace sb := sb.below hb
  replace bS := bS.grown hb
  replace hB := hB.trans (hb.mono hB.size)
  clear hb
  go_wp2_with fail
  refine (known_true hSi hOy _).mono ?_
  rintro e w4 ⟨rfl, hb⟩
  replace hB := hB.trans (hb.mono hB.size)
  go_wp2
  go_ret
  exact ⟨rfl, hB⟩

set_option maxHeartbeats 400000 in
theorem long_out (n : Int) (b : Bool) (h : n < 0 ∨ 4100 < n) (w : World) : Calls Try.prog 7 #[.int .i64 n, .bool b] w fun e w' => e = .returned (.bool true) ∧ Below w.heap.size w w' := by
  by_cases h1 : n < 0
  · clear h
    go_enter Try.func7, Try.ntmps7
    go_wp2
    go_ret
    exact ⟨rfl, Below.refl _ _⟩
  · have h2 : 4100 < n := by omega
    clear h
    go_enter Try.func7, Try.ntmps7
    go_wp2
    go_ret
    exact ⟨rfl, Below.refl _ _⟩
theorem long_any (hSi : SealIn 9) (hOy : OpenYes 15) (hSo : SealOut 9) (hOn : OpenNo 15) (hOl : OpenLong 15) (n : Int) (b : Bool) (w : World) : Calls Try.prog 7 #[.int .i64 n, .bool b] w fun e w' => e = .returned (.bool true) ∧ Below w.heap.size w w' := by
  by_cases h : n < 0 ∨ 4100 < n
  · exact long_out n b h w
  · obtain ⟨N, rfl⟩ : ∃ N : Nat, n = N := ⟨n.toNat, by omega⟩
    by_cases h4 : N ≤ 4000
    · cases b with
      | true => exact long_head_in hSi hOy N h4 (by omega) w
      | false => exact long_data_in hSi hOy N h4 (by omega) w
    · cases b with
      | true => exact long_head_out hSi hOy hSo hOl N (by omega) (by omega) w
      | false => exact long_data_out hSi hOy hSo hOn N (by omega) (by omega) w
end Go.Proofs.Ytafjhidkhboaiaa
