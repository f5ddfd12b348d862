/- What the statements on digest come to, where digest's functions are what the document has. -/
import Derived.Test.YtokckfgajklflaaDigSaid
import Derived.Lib.SlBytesConst
namespace Go.Proofs.Ytokckfgajklflaa
open Go.RowKit

theorem bytes_abc (l : List Int) (h : ∀ x ∈ l, x = 97 ∨ x = 98 ∨ x = 99) : Bytes l := fun x hx => by
  rcases h x hx with rfl | rfl | rfl <;> decide
set_option maxRecDepth 10000 in
set_option maxHeartbeats 2000000 in
theorem known_true (hS : SumSaid) (w : World) : Calls Try.prog 11 #[] w fun e w' => e = .returned (.bool true) ∧ Below w.heap.size w w' := by
  obtain ⟨t, HT⟩ : ∃ t, Hid (sumP [97, 98, 99] = t) := ⟨_, rfl⟩
  obtain ⟨t0, HT0⟩ : ∃ t0, Hid (sumP [] = t0) := ⟨_, rfl⟩
  have heq := eq32
  have kc := fun (w : World) (C : Array Value) (n c : Nat) => Lib.run_convert_bytes_const (P := Try.prog) w 22 5 C n c Try.underlying22 Try.underlying5
  have kc2 : ∀ (w : World) (o : Obj) (C : Array Value) (n c : Nat), (convert 22 22 (.slice (some ⟨w.heap.size + 1, 0, none⟩) n c)).run Try.prog ((w.alloc o).alloc (.cells C 5)) = .ok (.slice (some ⟨w.heap.size + 1, 0, none⟩) n c) ((w.alloc o).alloc (.cells C 5 (C.size, C.size + 1))) := fun w o C n c => by
    have := kc (w.alloc o) C n c
    rw [World.size_alloc] at this
    exact this
  have hl : LAt (((w.alloc (.cells #[.int .u8 97, .int .u8 98] 5 (2, 3))).alloc (.cells #[.int .u8 99] 5 (1, 2))).alloc (.cells #[.slice (some ⟨w.heap.size, 0, none⟩) 2 2, .slice (some ⟨w.heap.size + 1, 0, none⟩) 1 1] 22)) (some ⟨w.heap.size + 1 + 1, 0, none⟩) 2 [[97, 98], [99]] := by
    have h1 := (sat_lit w [97, 98] (2, 3) 2 rfl).below ((Below.refl _ _).alloc (Nat.le_refl _) (.cells #[.int .u8 99] 5 (1, 2)))
    have h2 := sat_lit (w.alloc (.cells #[.int .u8 97, .int .u8 98] 5 (2, 3))) [99] (1, 2) 1 rfl
    have := lat_two ((w.alloc (.cells #[.int .u8 97, .int .u8 98] 5 (2, 3))).alloc (.cells #[.int .u8 99] 5 (1, 2))) h1 (Nat.le_refl _) (by decide) (fun e => by cases e) (bytes_abc _ (by decide)) h2 (Nat.le_refl _) (by decide) (fun e => by cases e) (bytes_abc _ (by decide))
    simp only [World.size_alloc] at this
    exact this
  have hB : Below w.heap.size w (((w.alloc (.cells #[.int .u8 97, .int .u8 98] 5 (2, 3))).alloc (.cells #[.int .u8 99] 5 (1, 2))).alloc (.cells #[.slice (some ⟨w.heap.size, 0, none⟩) 2 2, .slice (some ⟨w.heap.size + 1, 0, none⟩) 1 1] 22)) := by go_grown
  go_enter Try.func11, Try.ntmps11
  go_wp2_with fail
  refine (sum_of hS [[97, 98], [99]] _ 2 2 (by decide) (zs := [97, 98, 99]) rfl (by decide) (by decide) (fun e => by cases e) _ hl HT.out).mono ?_
  rintro e w1 ⟨rfl, hb⟩
  replace hB := hB.trans (hb.mono hB.size)
  clear hb hl
  have hl : LAt ((w1.alloc (.cells #[.int .u8 97, .int .u8 98, .int .u8 99] 5 (3, 4))).alloc (.cells #[.slice (some ⟨w1.heap.size, 0, none⟩) 3 3] 22)) (some ⟨w1.heap.size + 1, 0, none⟩) 1 [[97, 98, 99]] := by
    have := lat_one (w1.alloc (.cells #[.int .u8 97, .int .u8 98, .int .u8 99] 5 (3, 4))) (sat_lit w1 [97, 98, 99] (3, 4) 3 rfl) (Nat.le_refl _) (by decide) (fun e => by cases e) (bytes_abc _ (by decide))
    simp only [World.size_alloc] at this
    exact this
  have hb : Below w1.heap.size w1 ((w1.alloc (.cells #[.int .u8 97, .int .u8 98, .int .u8 99] 5 (3, 4))).alloc (.cells #[.slice (some ⟨w1.heap.size, 0, none⟩) 3 3] 22)) := by go_grown
  replace hB := hB.trans (hb.mono hB.size)
  clear hb
  go_wp2_with fail
  refine (sum_of hS [[97, 98, 99]] _ 1 1 (by decide) (zs := [97, 98, 99]) rfl (by decide) (by decide) (fun e => by cases e) _ hl HT.out).mono ?_
  rintro e w2 ⟨rfl, hb⟩
  replace hB := hB.trans (hb.mono hB.size)
  clear hb hl
  go_wp2_with fail
  refine (sum_of hS [] none 0 0 (by decide) (zs := []) rfl (by decide) (by decide) (fun _ => ⟨rfl, rfl⟩) _ (lat_none _ _) HT0.out).mono ?_
  rintro e w3 ⟨rfl, hb⟩
  replace hB := hB.trans (hb.mono hB.size)
  clear hb
  go_wp2_with fail
  refine (rsum_of [] none 0 0 (by decide) (fun x hx => by cases hx) (fun _ => ⟨rfl, rfl⟩) _ (SAt.none _ _) HT0.out).mono ?_
  rintro e w4 ⟨rfl, hb⟩
  replace hB := hB.trans (hb.mono hB.size)
  clear hb
  go_wp2
  go_ret
  exact ⟨rfl, hB⟩
end Go.Proofs.Ytokckfgajklflaa
