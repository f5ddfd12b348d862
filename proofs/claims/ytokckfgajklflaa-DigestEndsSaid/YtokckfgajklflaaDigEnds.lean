/- Stage 6's walks: DigestEnds. -/
import Derived.Test.YtokckfgajklflaaDigLaws
namespace Go.Proofs.Ytokckfgajklflaa
open Go.RowKit

theorem Row.set {w : World} {g : Nat} {cur : List Int} (h : Row w g cur) (j : Nat) (z : Int) : Row (w.setCell ⟨g, j, none⟩ (.int .u8 z)) g (cur.set j z) := by
  unfold Row at h ⊢
  simp [World.setCell, Array.getElem?_modify, h, List.map_set]
theorem Bytes.set {cur : List Int} (h : Bytes cur) (j : Nat) {z : Int} (hz : 0 ≤ z ∧ z < 256) : Bytes (cur.set j z) := fun x hx => by
  rcases List.mem_or_eq_of_mem_set hx with h' | rfl
  · exact h x h'
  · exact hz
theorem bytes_zeros (n : Nat) : Bytes (List.replicate n 0) := fun x hx => by
  obtain ⟨_, rfl⟩ := List.mem_replicate.1 hx
  omega

set_option maxRecDepth 10000 in
set_option maxHeartbeats 2000000 in
theorem ends_in (hS : SumSaid) (n : Nat) (c : Int) (hn : n ≤ 20) (w : World) : Calls Try.prog 5 #[.int .i64 n, .int .u8 c] w fun e w' => e = .returned (.bool true) ∧ Below w.heap.size w w' := by
  have heq := eq32
  go_enter Try.func5, Try.ntmps5
  go_wp2_with fail
  go_loopw [5] (fun i wr => ∃ k : Nat, k ≤ 16 ∧ i = .int .i64 (k : Int) ∧ Below w.heap.size w wr) (fun i _ => 16 - (intOf i).toNat)
  case atStart => exact ⟨0, by decide, rfl, Below.refl _ _⟩
  case round =>
    obtain ⟨k, hk, rfl, hB⟩ := hrel
    by_cases hlt : k < 16
    · obtain ⟨L, HL⟩ : ∃ L, Hid (L = 16 * n + k) := ⟨_, rfl⟩
      have hL : L ≤ 400 := by
        have := HL.out
        omega
      have hLi : (16 : Int) * (n : Int) + (k : Int) = (L : Int) := by
        have := HL.out
        omega
      have hmk := run_make_row' (P := Try.prog) 22 5 (.int .u8 0) 1 Try.underlying22 Try.info5 rfl .i64 .i64 L (by omega) (by omega)
      have hz := hB.size
      have hR := Row.made wr L
      have hb : Below wr.heap.size wr (wr.alloc (.cells (madeCells #[.int .u8 0] L) 5)) := (Below.refl _ _).alloc (Nat.le_refl _) _
      go_wp2_with fail
      clear hmk
      generalize wr.alloc (.cells (madeCells #[.int .u8 0] L) 5) = W1 at *
      replace hB := hB.trans (hb.mono hz)
      obtain ⟨G, HG⟩ : ∃ G, Hid (wr.heap.size = G) := ⟨_, rfl⟩
      rw [HG.out] at hR hz ⊢
      clear hb HG hLi HL
      go_loopw [7] (fun i wq => ∃ (j : Nat) (cur : List Int), j ≤ L ∧ i = .int .i64 (j : Int) ∧ cur.length = L ∧ Bytes cur ∧ Row wq G cur ∧ Below w.heap.size w wq) (fun i _ => L - (intOf i).toNat)
      case atStart => exact ⟨0, List.replicate L 0, Nat.zero_le _, rfl, by simp, bytes_zeros L, hR, hB⟩
      case round =>
        clear hR hB
        obtain ⟨j, cur, hj, rfl, hcl, hcb, hR, hB⟩ := hrel
        by_cases hjl : j < L
        · have hce := hR.at j (by omega)
          have hfr := hR.frozen j
          rw [Nat.zero_add] at hce
          go_wp2
          go_roundw
          case rel => exact ⟨j + 1, _, hjl, by go_num, by rw [List.length_set]; exact hcl, hcb.set j (by omega), hR.set j _, hB.setCell hz _⟩
          case measure => simp [intOf]; omega
        · obtain rfl : j = L := by omega
          obtain ⟨t, HT⟩ : ∃ t, Hid (sumP cur = t) := ⟨_, rfl⟩
          have sx := hR.sat hcl
          have hl := lat_one wr sx (Nat.le_refl _) (by unfold maxLen; omega) (fun e => by cases e) hcb
          have hb : Below wr.heap.size wr (wr.alloc (.cells #[.slice (some ⟨G, 0, none⟩) j j] 22)) := (Below.refl _ _).alloc (Nat.le_refl _) _
          replace hB := hB.trans (hb.mono hB.size)
          replace sx := sx.below hb
          clear hb
          go_wp2_with fail
          refine (sum_of hS [cur] _ 1 1 (by decide) (zs := cur) (by simp) (by omega) (by decide) (fun e => by cases e) _ hl HT.out).mono ?_
          rintro e w1 ⟨rfl, hb⟩
          replace hB := hB.trans (hb.mono hB.size)
          replace sx := sx.below hb
          clear hb hl hR
          go_wp2_with fail
          refine (rsum_of cur _ j j (by omega) hcb (fun e => by cases e) _ sx HT.out).mono ?_
          rintro e w2 ⟨rfl, hb⟩
          replace hB := hB.trans (hb.mono hB.size)
          clear hb sx
          go_wp2
          go_roundw
          case rel => exact ⟨k + 1, by omega, by go_num, hB⟩
          case measure => simp [intOf]; omega
    · go_wp2_with fail
      refine (known_true hS _).mono ?_
      rintro e w3 ⟨rfl, hb⟩
      replace hB := hB.trans (hb.mono hB.size)
      go_wp2
      go_ret
      exact ⟨rfl, hB⟩

set_option maxHeartbeats 400000 in
theorem ends_any (hS : SumSaid) (n c : Int) (w : World) : Calls Try.prog 5 #[.int .i64 n, .int .u8 c] w fun e w' => e = .returned (.bool true) ∧ Below w.heap.size w w' := by
  by_cases h1 : n < 0
  · go_enter Try.func5, Try.ntmps5
    go_wp2
    go_ret
    exact ⟨rfl, Below.refl _ _⟩
  · by_cases h2 : 20 < n
    · go_enter Try.func5, Try.ntmps5
      go_wp2
      go_ret
      exact ⟨rfl, Below.refl _ _⟩
    · obtain ⟨m, rfl⟩ : ∃ m : Nat, n = m := ⟨n.toNat, by omega⟩
      exact ends_in hS m c (by omega) w
end Go.Proofs.Ytokckfgajklflaa
