/- WirePuts' walk. -/
import Derived.Test.YtbekiajnkmlokaaRefPut
import Derived.Test.YtbekiajnkmlokaaLex
import Derived.Deep.RegionHeld
namespace Go.Proofs.Ytbekiajnkmlokaa
open Go.RowKit

theorem nil_conv (w : World) : (convert 23 9 (.slice none 0 0)).run Try.prog w = .ok (.string ByteArray.empty) w :=
  run_convert_bytes_nil w 23 5 Try.underlying23 Try.underlying5 0 0 9 Try.underlying9
theorem At.drew {w : World} {b off : Nat} {xs : List Int} (h : At w b off xs) : At w.drew b off xs := h

set_option maxHeartbeats 1000000 in
theorem puts_none (v n : Int) (w : World) (h : n < 1 ∨ 8 < n) :
    Calls Try.prog 3 #[.int .u64 v, .int .i64 n] w fun e w' => e = .returned (.bool true) ∧ Below w.heap.size w w' := by
  have kn := nil_conv
  have ht : (decide (n < 1) || decide (8 < n)) = true := by simpa using h
  go_enter Try.func3, Try.ntmps3
  go_wp2_with fail
  refine (put_none v n _ h).mono ?_
  rintro e w' ⟨rfl, rfl⟩
  go_wp2_with fail
  go_region_held (fun _ => True) (exact trivial) (first | (go_at_call 10; refine (rput_none v n _ h).mono ?_; rintro e w' ⟨rfl, rfl⟩))
  go_wp2_with fail
  refine (get_none none 0 0 _ (Or.inl (by decide))).mono ?_
  rintro e w2 ⟨rfl, rfl⟩
  rcases h with h | h
  · go_wp2_with fail
    refine (known_true _).mono ?_
    rintro e w3 ⟨rfl, hb⟩
    go_wp2
    go_ret
    exact ⟨rfl, (Below.refl _ _).drew.trans hb⟩
  · have h' : ¬ n < 1 := by omega
    go_wp2_with fail
    refine (known_true _).mono ?_
    rintro e w3 ⟨rfl, hb⟩
    go_wp2
    go_ret
    exact ⟨rfl, (Below.refl _ _).drew.trans hb⟩

theorem mask_one (V i : Nat) (M : Int) (hV : V < 18446744073709551616) (hM : M = ((2 ^ i - 1 : Nat) : Int)) (hM' : 2 ^ i - 1 < 18446744073709551616) :
    bits .and .u64 (V : Int) M = ((V % 2 ^ i : Nat) : Int) := by
  rw [hM, u64_and_nat _ _ hV hM', Nat.and_two_pow_sub_one_eq_mod]
theorem mask_any (V n : Nat) (h1 : 1 ≤ n) (h2 : n < 8) (hV : V < 18446744073709551616) :
    bits .and .u64 (V : Int) (IntKind.u64.wrap (IntKind.u64.wrap (2 ^ (8 * n)) - 1)) = (V : Int) % 256 ^ n := by
  have : n = 1 ∨ n = 2 ∨ n = 3 ∨ n = 4 ∨ n = 5 ∨ n = 6 ∨ n = 7 := by omega
  have e : (V : Int) % 256 ^ n = ((V % 2 ^ (8 * n) : Nat) : Int) := by rw [Nat.pow_mul]; simp
  rw [e]
  rcases this with rfl | rfl | rfl | rfl | rfl | rfl | rfl
  all_goals exact mask_one V _ _ hV (by decide) (by decide)

set_option maxHeartbeats 1000000 in
theorem puts_some (V n : Nat) (w : World) (h1 : 1 ≤ n) (h2 : n < 8) (hV : V < 18446744073709551616) :
    Calls Try.prog 3 #[.int .u64 V, .int .i64 n] w fun e w' => e = .returned (.bool true) ∧ Below w.heap.size w w' := by
  have ht : ((strOfNums (putL V n)).toList != (strOfNums (putL V n)).toList) = false := by simp
  go_enter Try.func3, Try.ntmps3
  go_wp2_with fail
  refine (put_some V n _ h1 (by omega)).mono ?_
  rintro e w1 ⟨rfl, ha1, hb1, hz1⟩
  have k1 := ha1.drew.conv (n := n) (cap := n) (putL_length _ _)
  go_wp2_with fail
  go_region_held (fun w' => (convert 23 9 (.slice (some ⟨w.heap.size, 0, none⟩) n n)).run Try.prog w' = .ok (.string (strOfNums (putL V n))) w') (first | exact k1 | exact k1') (first | (go_at_call 10; refine (rput_some V n _ h1 (by omega)).mono ?_; rintro e w2 ⟨g, cap, rfl, hg, hg', ha2, hb2⟩; simp only [World.size_drew] at hg hb2; have k2 := ha2.conv (n := n) (cap := cap) (putL_length _ _); have k1' := (ha1.drew.below hb2 hz1).conv (n := n) (cap := n) (putL_length _ _)))
  clear k1 k2 k1'
  go_wp2_with fail
  refine (get_some w.heap.size 0 n n (putL V n) _ (putL_length _ _) h1 (by omega) (putL_bytes _ _) (ha1.drew.below hb2 hz1)).mono ?_
  rintro e w3 ⟨rfl, rfl⟩
  rw [num_putL]
  have hm := mask_any V n h1 h2 hV
  go_wp2_with fail
  refine (known_true _).mono ?_
  rintro e w4 ⟨rfl, hb4⟩
  go_wp2
  go_ret
  exact ⟨rfl, ((hb1.trans ((Below.refl _ _).drew.trans (hb2.mono (by omega)))).trans (hb4.mono (by have := hb2.size; simp at this; omega)))⟩

set_option maxHeartbeats 1000000 in
theorem puts_8 (V : Nat) (w : World) (hV : V < 18446744073709551616) :
    Calls Try.prog 3 #[.int .u64 V, .int .i64 8] w fun e w' => e = .returned (.bool true) ∧ Below w.heap.size w w' := by
  have ht : ((strOfNums (putL V 8)).toList != (strOfNums (putL V 8)).toList) = false := by simp
  go_enter Try.func3, Try.ntmps3
  go_wp2_with fail
  refine (put_some V 8 _ (by omega) (by omega)).mono ?_
  rintro e w1 ⟨rfl, ha1, hb1, hz1⟩
  have k1 := ha1.drew.conv (n := 8) (cap := 8) (putL_length _ _)
  go_wp2_with fail
  go_region_held (fun w' => (convert 23 9 (.slice (some ⟨w.heap.size, 0, none⟩) 8 8)).run Try.prog w' = .ok (.string (strOfNums (putL V 8))) w') (first | exact k1 | exact k1') (first | (go_at_call 10; refine (rput_some V 8 _ (by omega) (by omega)).mono ?_; rintro e w2 ⟨g, cap, rfl, hg, hg', ha2, hb2⟩; simp only [World.size_drew] at hg hb2; have k2 := ha2.conv (n := 8) (cap := cap) (putL_length _ _); have k1' := (ha1.drew.below hb2 hz1).conv (n := 8) (cap := 8) (putL_length _ _)))
  clear k1 k2 k1'
  go_wp2_with fail
  refine (get_some w.heap.size 0 8 8 (putL V 8) _ (putL_length _ _) (by omega) (by omega) (putL_bytes _ _) (ha1.drew.below hb2 hz1)).mono ?_
  rintro e w3 ⟨rfl, rfl⟩
  rw [num_put8 V hV]
  go_wp2_with fail
  refine (known_true _).mono ?_
  rintro e w4 ⟨rfl, hb4⟩
  go_wp2
  go_ret
  exact ⟨rfl, ((hb1.trans ((Below.refl _ _).drew.trans (hb2.mono (by omega)))).trans (hb4.mono (by have := hb2.size; simp at this; omega)))⟩
end Go.Proofs.Ytbekiajnkmlokaa
