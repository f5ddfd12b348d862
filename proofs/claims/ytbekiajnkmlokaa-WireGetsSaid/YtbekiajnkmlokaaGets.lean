/- WireGets' walk. -/
import Derived.Test.YtbekiajnkmlokaaRefPut
import Derived.Test.YtbekiajnkmlokaaView
import Derived.Test.YtbekiajnkmlokaaRegion
namespace Go.Proofs.Ytbekiajnkmlokaa
open Go.RowKit

set_option maxHeartbeats 400000 in
theorem gets_long (a : Option Addr) (n cap : Nat) (w : World) (h : 50 < n) :
    Calls Try.prog 4 #[.slice a n cap] w fun e w' => e = .returned (.bool true) ∧ Below w.heap.size w w' := by
  go_enter Try.func4, Try.ntmps4
  go_wp2
  go_ret
  exact ⟨rfl, Below.refl _ _⟩

set_option maxHeartbeats 1000000 in
theorem gets_none (a : Option Addr) (n cap : Nat) (w : World) (h : n ≤ 50) (h' : n < 1 ∨ 8 < n) :
    Calls Try.prog 4 #[.slice a n cap] w fun e w' => e = .returned (.bool true) ∧ Below w.heap.size w w' := by
  go_enter Try.func4, Try.ntmps4
  go_wp2_with fail
  refine (get_none a n cap _ h').mono ?_
  rintro e w1 ⟨rfl, rfl⟩
  go_wp2_with fail
  refine (rget_none a n cap _ h').mono ?_
  rintro e w2 ⟨rfl, rfl⟩
  go_wp2_with fail
  refine wp_region_held_drew (S := fun _ => True) (by kernel_rfl) trivial (fun hHeld => ?_)
  refine takeM 0 20 3 rfl rfl rfl (by kernel_rfl) (by kernel_rfl) (by kernel_rfl) (fun _ _ _ h => h) (by rfl) hHeld rfl ?_
  simp only [List.set_cons_succ, List.set_cons_zero]
  refine takeM 1 21 5 rfl rfl rfl (by kernel_rfl) (by kernel_rfl) (by kernel_rfl) (fun _ _ _ h => h) (by rfl) hHeld rfl ?_
  simp only [List.set_cons_succ, List.set_cons_zero]
  refine takeL 2 22 (v := ?_) rfl rfl (by kernel_rfl) (by kernel_rfl) (by kernel_rfl) (fun _ _ _ h => h) (by rfl) hHeld (fun w hSw => ?_) ?_
  rotate_left 1
  · (try dsimp only at hSw); go_simp; try with_reducible rfl
  simp only [List.set_cons_succ, List.set_cons_zero]
  refine takeM 3 23 22 rfl rfl rfl (by kernel_rfl) (by kernel_rfl) (by kernel_rfl) (fun _ _ _ h => h) (by rfl) hHeld rfl ?_
  simp only [List.set_cons_succ, List.set_cons_zero]
  refine takeM 4 24 4 rfl rfl rfl (by kernel_rfl) (by kernel_rfl) (by kernel_rfl) (fun _ _ _ h => h) (by rfl) hHeld rfl ?_
  simp only [List.set_cons_succ, List.set_cons_zero]
  refine takeM 5 25 6 rfl rfl rfl (by kernel_rfl) (by kernel_rfl) (by kernel_rfl) (fun _ _ _ h => h) (by rfl) hHeld rfl ?_
  simp only [List.set_cons_succ, List.set_cons_zero]
  refine takeL 6 26 (v := ?_) rfl rfl (by kernel_rfl) (by kernel_rfl) (by kernel_rfl) (fun _ _ _ h => h) (by rfl) hHeld (fun w hSw => ?_) ?_
  rotate_left 1
  · (try dsimp only at hSw); go_simp; try with_reducible rfl
  simp only [List.set_cons_succ, List.set_cons_zero]
  refine takeL 7 27 (v := ?_) rfl rfl (by kernel_rfl) (by kernel_rfl) (by kernel_rfl) (fun _ _ _ h => h) (by rfl) hHeld (fun w hSw => ?_) ?_
  rotate_left 1
  · (try dsimp only at hSw); go_simp; try with_reducible rfl
  simp only [List.set_cons_succ, List.set_cons_zero]
  refine takeM 8 28 27 rfl rfl rfl (by kernel_rfl) (by kernel_rfl) (by kernel_rfl) (fun _ _ _ h => h) (by rfl) hHeld rfl ?_
  simp only [List.set_cons_succ, List.set_cons_zero]
  refine takeM 9 29 4 rfl rfl rfl (by kernel_rfl) (by kernel_rfl) (by kernel_rfl) (fun _ _ _ h => h) (by rfl) hHeld rfl ?_
  simp only [List.set_cons_succ, List.set_cons_zero]
  refine takeL 10 30 (v := ?_) rfl rfl (by kernel_rfl) (by kernel_rfl) (by kernel_rfl) (fun _ _ _ h => h) (by rfl) hHeld (fun w hSw => ?_) ?_
  rotate_left 1
  · (try dsimp only at hSw); go_simp; try with_reducible rfl
  simp only [List.set_cons_succ, List.set_cons_zero]
  refine takeM 11 31 30 rfl rfl rfl (by kernel_rfl) (by kernel_rfl) (by kernel_rfl) (fun _ _ _ h => h) (by rfl) hHeld rfl ?_
  simp only [List.set_cons_succ, List.set_cons_zero]
  refine takeN 12 32 rfl rfl (by kernel_rfl) (by kernel_rfl) (by kernel_rfl) (fun _ _ _ h => h) (by rfl) hHeld ?_
  simp only [List.set_cons_succ, List.set_cons_zero]
  refine takeN 13 33 rfl rfl (by kernel_rfl) (by kernel_rfl) (by kernel_rfl) (fun _ _ _ h => h) (by rfl) hHeld ?_
  simp only [List.set_cons_succ, List.set_cons_zero]
  refine takeN 14 34 rfl rfl (by kernel_rfl) (by kernel_rfl) (by kernel_rfl) (fun _ _ _ h => h) (by rfl) hHeld ?_
  simp only [List.set_cons_succ, List.set_cons_zero]
  refine takeN 15 35 rfl rfl (by kernel_rfl) (by kernel_rfl) (by kernel_rfl) (fun _ _ _ h => h) (by rfl) hHeld ?_
  simp only [List.set_cons_succ, List.set_cons_zero]
  refine takeN 16 36 rfl rfl (by kernel_rfl) (by kernel_rfl) (by kernel_rfl) (fun _ _ _ h => h) (by rfl) hHeld ?_
  simp only [List.set_cons_succ, List.set_cons_zero]
  refine takeN 17 37 rfl rfl (by kernel_rfl) (by kernel_rfl) (by kernel_rfl) (fun _ _ _ h => h) (by rfl) hHeld ?_
  simp only [List.set_cons_succ, List.set_cons_zero]
  refine takeN 18 38 rfl rfl (by kernel_rfl) (by kernel_rfl) (by kernel_rfl) (fun _ _ _ h => h) (by rfl) hHeld ?_
  simp only [List.set_cons_succ, List.set_cons_zero]
  refine takeN 19 39 rfl rfl (by kernel_rfl) (by kernel_rfl) (by kernel_rfl) (fun _ _ _ h => h) (by rfl) hHeld ?_
  simp only [List.set_cons_succ, List.set_cons_zero]
  refine takeL 20 40 (v := ?_) rfl rfl (by kernel_rfl) (by kernel_rfl) (by kernel_rfl) (fun _ _ _ h => h) (by rfl) hHeld (fun w hSw => ?_) ?_
  rotate_left 1
  · (try dsimp only at hSw); go_simp; try with_reducible rfl
  simp only [List.set_cons_succ, List.set_cons_zero]
  refine takeL 21 41 (v := ?_) rfl rfl (by kernel_rfl) (by kernel_rfl) (by kernel_rfl) (fun _ _ _ h => h) (by rfl) hHeld (fun w hSw => ?_) ?_
  rotate_left 1
  · (try dsimp only at hSw); go_simp; try with_reducible rfl
  simp only [List.set_cons_succ, List.set_cons_zero]
  refine takeM 22 42 41 rfl rfl rfl (by kernel_rfl) (by kernel_rfl) (by kernel_rfl) (fun _ _ _ h => h) (by rfl) hHeld rfl ?_
  simp only [List.set_cons_succ, List.set_cons_zero]
  refine onlyL 23 rfl (by kernel_rfl) (by rfl) (fun K hK => ?_)
  go_wp2_with fail
  refine (known_true _).mono ?_
  rintro e w3 ⟨rfl, hb3⟩
  refine hK.out _ _ (trivial) (fun hHeld => ?_)
  clear hK K
  refine takeL 24 44 (v := ?_) rfl rfl (by kernel_rfl) (by kernel_rfl) (by kernel_rfl) (fun _ _ _ h => h) (by rfl) hHeld (fun w hSw => ?_) ?_
  rotate_left 1
  · (try dsimp only at hSw); go_simp; try with_reducible rfl
  simp only [List.set_cons_succ, List.set_cons_zero]
  refine takeA 25 2 44 rfl rfl rfl (by kernel_rfl) (by kernel_rfl) (by kernel_rfl) (fun _ _ _ h => h) (by rfl) hHeld rfl ?_
  simp only [List.set_cons_succ, List.set_cons_zero]
  refine wpAnyH_done (by kernel_rfl) ?_ _
  go_wp2
  go_ret
  exact ⟨rfl, (Below.refl _ _).drew.trans hb3⟩

set_option maxHeartbeats 1000000 in
theorem gets_some (b off n cap : Nat) (xs : List Int) (w : World) (hn : xs.length = n) (h1 : 1 ≤ n) (h2 : n ≤ 8) (hx : Bytes xs) (hbw : b < w.heap.size) (hc : At w b off xs) :
    Calls Try.prog 4 #[.slice (some ⟨b, off, none⟩) n cap] w fun e w' => e = .returned (.bool true) ∧ Below w.heap.size w w' := by
  have hs := str_self xs
  obtain ⟨V, hV⟩ := Int.eq_ofNat_of_zero_le (num_range xs hx).1
  have HP : Hid (putL V n = xs) := by have := putL_num xs hx; rw [hV, Int.toNat_natCast, hn] at this; exact this
  have HV : Hid (num xs = V) := hV
  clear hV
  have HN : Hid (xs.length = n) := hn
  clear hn
  go_enter Try.func4, Try.ntmps4
  go_wp2_with fail
  refine (get_some b off cap n xs _ HN.out h1 h2 hx hc).mono ?_
  rintro e w1 ⟨rfl, rfl⟩
  rw [HV.out]
  go_wp2_with fail
  refine (rget_some b off cap n xs _ HN.out h1 h2 hx hc).mono ?_
  rintro e w2 ⟨rfl, rfl⟩
  rw [HV.out]
  have k0 := (show At w2.drew b off xs from hc).conv (n := n) (cap := cap) HN.out
  go_wp2_with fail
  go_region_held (fun w' => (convert 23 9 (.slice (some ⟨b, off, none⟩) n cap)).run Try.prog w' = .ok (.string (strOfNums xs)) w') (first | exact k0 | exact k1' | exact k2') (first
    | (go_at_call 12; refine (known_true _).mono ?_; rintro e w4 ⟨rfl, hb4⟩; have k2' := (((show At w2.drew b off xs from hc).below hb3 hbw).below hb4 (Nat.lt_of_lt_of_le hbw hb3.size)).conv (n := n) (cap := cap) HN.out)
    | (go_at_call 9; refine (put_some V n _ h1 h2).mono ?_; rintro e w3 ⟨rfl, ha3, hb3, hz3⟩; simp only [World.size_drew] at ha3 hb3 hz3; rw [HP.out] at ha3; have k1 := ha3.conv (n := n) (cap := n) HN.out; have k1' := ((show At w2.drew b off xs from hc).below hb3 hbw).conv (n := n) (cap := cap) HN.out))
  go_wp2
  go_ret
  exact ⟨rfl, ((Below.refl _ _).drew.trans hb3).trans (hb4.mono hb3.size)⟩
end Go.Proofs.Ytbekiajnkmlokaa
