/- What lockboxref1.Same comes to where both have the same rows. -/
import Derived.Test.YtbekiajnkmlokaaRefCut
namespace Go.Proofs.Ytbekiajnkmlokaa
open Go.RowKit

/-- m rows, P 0, P 1 .., whose slices lie at a. -/
def RowsAt (w : World) (a : Option Addr) (m : Nat) (P : Nat → List Int) : Prop :=
  ∀ j, j < m → ∃ g x c, a = some ⟨g, 0, none⟩ ∧ g < w.heap.size ∧ w.cell? ⟨g, j, none⟩ = some (.slice x (P j).length c) ∧ SAt w x (P j).length (P j)
theorem RowsAt.below {w w' : World} {a : Option Addr} {m : Nat} {P : Nat → List Int} (h : RowsAt w a m P) (hb : Below w.heap.size w w') : RowsAt w' a m P := by
  intro j hj
  obtain ⟨g, x, c, e, hg, hc, hs⟩ := h j hj
  exact ⟨g, x, c, e, Nat.lt_of_lt_of_le hg hb.size, (hb.cell (p := ⟨g, j, none⟩) hg).trans hc, hs.below hb⟩
theorem SAt.drew {w : World} {x : Option Addr} {l : Nat} {ys : List Int} (h : SAt w x l ys) : SAt w.drew x l ys := h

set_option maxHeartbeats 1000000 in
theorem same_true (a0 a1 : Option Addr) (m c0 c1 : Nat) (P : Nat → List Int) (w : World) (hm : m ≤ 1000) (h0 : RowsAt w a0 m P) (h1 : RowsAt w a1 m P) :
    Calls Try.prog 19 #[.slice a0 m c0, .slice a1 m c1] w fun e w' => e = .returned (.bool true) ∧ Below w.heap.size w w' := by
  go_enter Try.func19, Try.ntmps19
  go_wp2
  go_loopw [5] (fun i wr => ∃ k : Nat, k ≤ m ∧ i = .int .i64 k ∧ Below w.heap.size w wr) (fun i _ => m - (intOf i).toNat)
  case atStart => exact ⟨0, Nat.zero_le _, rfl, Below.refl _ _⟩
  case round =>
    obtain ⟨k, hk, rfl, hb⟩ := hrel
    by_cases hlt : k < m
    · obtain ⟨g0, x0, e0, ha0, _, hc0, hs0⟩ := (h0.below hb) k hlt
      obtain ⟨g1, x1, e1, ha1, _, hc1, hs1⟩ := (h1.below hb) k hlt
      subst ha0 ha1
      have k0 := hs0.drew.conv (c := e0)
      have k1 := hs1.drew.conv (c := e1)
      have ht : ((strOfNums (P k)).toList != (strOfNums (P k)).toList) = false := by simp
      go_wp2
      refine wp_region_held_drew (S := fun w' => w'.cell? ⟨g0, k, none⟩ = some (.slice x0 (P k).length e0) ∧ w'.cell? ⟨g1, k, none⟩ = some (.slice x1 (P k).length e1) ∧ (convert 23 9 (.slice x0 (P k).length e0)).run Try.prog w' = .ok (.string (strOfNums (P k))) w' ∧ (convert 23 9 (.slice x1 (P k).length e1)).run Try.prog w' = .ok (.string (strOfNums (P k))) w') (by kernel_rfl) ⟨hc0, hc1, k0, k1⟩ (fun hHeld => ?_)
      refine takeM 0 17 0 rfl rfl rfl (by kernel_rfl) (by kernel_rfl) (by kernel_rfl) (fun _ _ _ h => h) (by rfl) hHeld rfl ?_
      simp only [List.set_cons_succ, List.set_cons_zero]
      refine takeM 1 18 5 rfl rfl rfl (by kernel_rfl) (by kernel_rfl) (by kernel_rfl) (fun _ _ _ h => h) (by rfl) hHeld rfl ?_
      simp only [List.set_cons_succ, List.set_cons_zero]
      refine takeL 2 19 (v := ?_) rfl rfl (by kernel_rfl) (by kernel_rfl) (by kernel_rfl) (fun _ _ _ h => h) (by rfl) hHeld (fun w hSw => ?_) ?_
      rotate_left 1
      · (try dsimp only at hSw); go_simp; try with_reducible rfl
      simp only [List.set_cons_succ, List.set_cons_zero]
      refine takeL 3 20 (v := ?_) rfl rfl (by kernel_rfl) (by kernel_rfl) (by kernel_rfl) (fun _ _ _ h => h) (by rfl) hHeld (fun w hSw => ?_) ?_
      rotate_left 1
      · (try dsimp only at hSw); go_simp; try with_reducible rfl
      simp only [List.set_cons_succ, List.set_cons_zero]
      refine takeL 4 21 (v := ?_) rfl rfl (by kernel_rfl) (by kernel_rfl) (by kernel_rfl) (fun _ _ _ h => h) (by rfl) hHeld (fun w hSw => ?_) ?_
      rotate_left 1
      · (try dsimp only at hSw); go_simp; try with_reducible rfl
      simp only [List.set_cons_succ, List.set_cons_zero]
      refine takeM 5 22 1 rfl rfl rfl (by kernel_rfl) (by kernel_rfl) (by kernel_rfl) (fun _ _ _ h => h) (by rfl) hHeld rfl ?_
      simp only [List.set_cons_succ, List.set_cons_zero]
      refine takeM 6 23 5 rfl rfl rfl (by kernel_rfl) (by kernel_rfl) (by kernel_rfl) (fun _ _ _ h => h) (by rfl) hHeld rfl ?_
      simp only [List.set_cons_succ, List.set_cons_zero]
      refine takeL 7 24 (v := ?_) rfl rfl (by kernel_rfl) (by kernel_rfl) (by kernel_rfl) (fun _ _ _ h => h) (by rfl) hHeld (fun w hSw => ?_) ?_
      rotate_left 1
      · (try dsimp only at hSw); go_simp; try with_reducible rfl
      simp only [List.set_cons_succ, List.set_cons_zero]
      refine takeL 8 25 (v := ?_) rfl rfl (by kernel_rfl) (by kernel_rfl) (by kernel_rfl) (fun _ _ _ h => h) (by rfl) hHeld (fun w hSw => ?_) ?_
      rotate_left 1
      · (try dsimp only at hSw); go_simp; try with_reducible rfl
      simp only [List.set_cons_succ, List.set_cons_zero]
      refine takeL 9 26 (v := ?_) rfl rfl (by kernel_rfl) (by kernel_rfl) (by kernel_rfl) (fun _ _ _ h => h) (by rfl) hHeld (fun w hSw => ?_) ?_
      rotate_left 1
      · (try dsimp only at hSw); go_simp; try with_reducible rfl
      simp only [List.set_cons_succ, List.set_cons_zero]
      refine takeL 10 27 (v := ?_) rfl rfl (by kernel_rfl) (by kernel_rfl) (by kernel_rfl) (fun _ _ _ h => h) (by rfl) hHeld (fun w hSw => ?_) ?_
      rotate_left 1
      · (try dsimp only at hSw); go_simp; try with_reducible rfl
      simp only [List.set_cons_succ, List.set_cons_zero]
      refine wpAnyH_done (by kernel_rfl) ?_ _
      clear k0 k1 hc0 hc1 hHeld
      go_wp2
      go_roundw
      case rel => exact ⟨k + 1, hlt, by go_num, hb.drew⟩
      case measure => simp [intOf]; omega
    · go_wp2
      go_ret
      exact ⟨rfl, hb⟩
end Go.Proofs.Ytbekiajnkmlokaa
