/- What wire.Pair, lockboxref1.Pair and wire.Bytes come to. -/
import Derived.Test.YtbekiajnkmlokaaRefPut
import Derived.Test.YtbekiajnkmlokaaLex
import Derived.Test.YtbekiajnkmlokaaRegion
namespace Go.Proofs.Ytbekiajnkmlokaa
open Go.RowKit

theorem At.alloc {w : World} {b off : Nat} {xs : List Int} (h : At w b off xs) (hb : b < w.heap.size) (o : Obj) : At (w.alloc o) b off xs :=
  h.below ((Below.refl w.heap.size w).alloc (Nat.le_refl _) o) hb
theorem At.cut1 {w : World} {b off : Nat} {xs : List Int} (h : At w b off xs) (k : Nat) (hk : k ≤ xs.length) : At w b off (xs.take k) := by
  intro i hi
  rw [List.length_take] at hi
  rw [h i (by omega)]
  simp [show i < k by omega]
theorem At.cut2 {w : World} {b off : Nat} {xs : List Int} (h : At w b off xs) (k : Nat) : At w b (off + k) (xs.drop k) := by
  intro i hi
  rw [List.length_drop] at hi
  rw [Nat.add_assoc, h (k + i) (by omega)]
  simp
theorem At.drawn {w : World} {b off : Nat} {xs : List Int} (h : At w b off xs) : At w.drew b off xs := h

set_option maxHeartbeats 400000 in
theorem pair_none (a : Option Addr) (n cap : Nat) (w : World) (h : n ≠ 16) :
    Calls Try.prog 14 #[.slice a n cap] w fun e w' => e = .returned (.tuple #[.agg #[.int .u64 0, .int .u64 0], .bool false]) ∧ Below w.heap.size w w' := by
  have h' : ((n : Int) != 16) = true := by rw [bne_iff_ne]; omega
  go_enter Try.func14, Try.ntmps14
  go_wp2
  exact bodyPost_ret (v := .tuple #[.agg #[.int .u64 0, .int .u64 0], .bool false]) (by simp [results, Try.results14, go_sem]) rfl ⟨rfl, by go_grown⟩

set_option maxHeartbeats 1000000 in
theorem pair_some (b off cap : Nat) (xs : List Int) (w : World) (hn : xs.length = 16) (hcap : 16 ≤ cap) (hcm : cap ≤ maxLen) (hx : Bytes xs) (hb : b < w.heap.size) (hat0 : At w b off xs) :
    Calls Try.prog 14 #[.slice (some ⟨b, off, none⟩) 16 cap] w fun e w' => e = .returned (.tuple #[.agg #[.int .u64 (num (xs.take 8)), .int .u64 (num (xs.drop 8))], .bool true]) ∧ Below w.heap.size w w' := by
  unfold maxLen at hcm
  have hn8 : 8 ≤ xs.length := by omega
  have c8 : (8 : Int) ≤ (cap : Int) := by omega
  have c16 : (16 : Int) ≤ (cap : Int) := by omega
  have cn : ¬ cap = 8 := by omega
  have hat := fun o => (hat0.alloc hb o).drawn
  have hat := hat (.cells #[.int .u64 0, .int .u64 0] 32)
  go_enter Try.func14, Try.ntmps14
  go_wp2
  refine wp_region_held_drew (S := fun _ => True) (by kernel_rfl) trivial (fun hHeld => ?_)
  refine takeM 0 8 0 rfl rfl rfl (by kernel_rfl) (by kernel_rfl) (by kernel_rfl) (fun _ _ _ h => h) (by rfl) hHeld rfl ?_
  simp only [List.set_cons_succ, List.set_cons_zero]
  refine takeL 1 9 (v := ?_) rfl rfl (by kernel_rfl) (by kernel_rfl) (by kernel_rfl) (fun _ _ _ h => h) (by rfl) hHeld (fun w hSw => ?_) ?_
  rotate_left 1
  · (try dsimp only at hSw); go_simp; try with_reducible rfl
  simp only [List.set_cons_succ, List.set_cons_zero]
  refine takeM 3 11 0 rfl rfl rfl (by kernel_rfl) (by kernel_rfl) (by kernel_rfl) (fun _ _ _ h => h) (by rfl) hHeld rfl ?_
  simp only [List.set_cons_succ, List.set_cons_zero]
  refine takeL 4 12 (v := ?_) rfl rfl (by kernel_rfl) (by kernel_rfl) (by kernel_rfl) (fun _ _ _ h => h) (by rfl) hHeld (fun w hSw => ?_) ?_
  rotate_left 1
  · (try dsimp only at hSw); go_simp; try with_reducible rfl
  simp only [List.set_cons_succ, List.set_cons_zero]
  refine onlyL 2 rfl (by kernel_rfl) (by rfl) (fun K hK => ?_)
  go_wp2_with fail
  refine (number_some b off cap 8 (xs.take 8) _ (by simp [hn]) (by omega) (hx.take 8) (At.cut1 hat 8 hn8)).mono ?_
  rintro e w1 ⟨rfl, rfl⟩
  refine hK.out _ _ trivial (fun hHeld => ?_)
  clear hK K
  refine onlyL 5 rfl (by kernel_rfl) (by rfl) (fun K hK => ?_)
  go_wp2_with fail
  refine (number_some b (off + 8) (cap - 8) 8 (xs.drop 8) _ (by simp [hn]) (by omega) (hx.drop 8) (At.cut2 hat 8)).mono ?_
  rintro e w1 ⟨rfl, rfl⟩
  refine hK.out _ _ trivial (fun hHeld => ?_)
  clear hK K
  refine takeL 6 14 (v := ?_) rfl rfl (by kernel_rfl) (by kernel_rfl) (by kernel_rfl) (fun _ _ _ h => h) (by rfl) hHeld (fun w hSw => ?_) ?_
  rotate_left 1
  · (try dsimp only at hSw); go_simp; try with_reducible rfl
  simp only [List.set_cons_succ, List.set_cons_zero]
  refine onlyL 7 rfl (by kernel_rfl) (by rfl) (fun K hK => ?_)
  go_wp2
  refine hK.out _ _ trivial (fun hHeld => ?_)
  clear hK K
  refine takeL 8 3 (v := ?_) rfl rfl (by kernel_rfl) (by kernel_rfl) (by kernel_rfl) (fun _ _ _ h => h) (by rfl) hHeld (fun w hSw => ?_) ?_
  rotate_left 1
  · (try dsimp only at hSw); go_simp; try with_reducible rfl
  simp only [List.set_cons_succ, List.set_cons_zero]
  refine wpAnyH_done (by kernel_rfl) ?_ _
  go_wp2
  exact bodyPost_ret (v := .tuple #[.agg #[.int .u64 (num (xs.take 8)), .int .u64 (num (xs.drop 8))], .bool true]) (by simp [results, Try.results14, go_sem]) rfl ⟨rfl, by go_grown⟩
end Go.Proofs.Ytbekiajnkmlokaa
