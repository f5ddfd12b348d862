/- Stage 6's walks: DigestRows. -/
import Derived.Test.YtokckfgajklflaaDigLaws
namespace Go.Proofs.Ytokckfgajklflaa
open Go.RowKit

theorem flat_take (P : List (List Int)) (k : Nat) (h : k < P.length) : (P.take (k + 1)).flatten = (P.take k).flatten ++ P.getD k [] := by
  rw [List.take_succ_eq_append_getElem h, List.flatten_append]
  simp [h]
set_option maxRecDepth 10000 in
set_option maxHeartbeats 2000000 in
theorem rows_any (hS : SumSaid) (P : List (List Int)) (x : Option Addr) (m c : Nat) (hc : m ≤ c) (hnil : x = none → m = 0 ∧ c = 0) (hP : ∀ ys ∈ P, Bytes ys ∧ ys.length ≤ 140737488351232) (w : World) (hl : LAt w x m P) : Calls Try.prog 4 #[.slice x m c] w fun e w' => e = .returned (.bool true) ∧ Below w.heap.size w w' := by
  have heq := eq32
  have hPl := hl.1
  have HF := hide' (flat_take P)
  obtain ⟨t, HT⟩ : ∃ t, Hid (sumP P.flatten = t) := ⟨_, rfl⟩
  go_enter Try.func4, Try.ntmps4
  go_wp2_with fail
  go_loopw [3, 4] (fun v i wr => ∃ k L : Nat, k ≤ m ∧ k ≤ 101 ∧ i = .int .i64 (k : Int) ∧ L ≤ 500 ∧ Hid ((P.take k).flatten.length = L) ∧ wr.ownsRow w.heap.size 5 1 v L ((P.take k).flatten.map (Value.int .u8)) ∧ Below w.heap.size w wr) (fun _ i _ => m - (intOf i).toNat)
  case atStart => exact ⟨0, 0, Nat.zero_le _, by decide, rfl, by decide, rfl, by simpa using World.ownsRow_nil _ _ _ _, Below.refl _ _⟩
  case round =>
    obtain ⟨k, L, hk, hk1, rfl, hL, HL, own, hB⟩ := hrel
    obtain ⟨xa, ca, rfl, sa, hca, hcma, nila⟩ := own_slice HL.out own
    by_cases hlt : k < m
    · obtain ⟨b, o, rfl, hbl, hrow⟩ := hl.2 (by omega)
      have hr := (hrow k hlt).below hB
      have HK := hide' (HF.out k (by omega))
      have hyn : (P.getD k []).length ≤ 140737488351232 := by
        have hkl : k < P.length := by omega
        simp only [List.getD, List.getElem?_eq_getElem hkl, Option.getD_some]
        exact (hP _ (List.getElem_mem hkl)).2
      generalize P.getD k [] = ys at *
      obtain ⟨y, cy, hcell, sy, hcy, hcmy, nily, by_⟩ := hr
      obtain ⟨n, HN⟩ : ∃ n, Hid (ys.length = n) := ⟨_, rfl⟩
      rw [HN.out] at hcell sy hcy nily hyn
      by_cases h100 : 100 < k
      · go_wp2
        go_ret
        exact ⟨rfl, hB⟩
      · by_cases h500 : 500 < L + n
        · have h5 : (500 : Int) < (L : Int) + (n : Int) := by omega
          go_wp2
          go_ret
          exact ⟨rfl, hB⟩
        · have h5 : ¬ (500 : Int) < (L : Int) + (n : Int) := by omega
          have hz := hB.size
          obtain ⟨A, HA⟩ : ∃ A, Hid ((P.take k).flatten = A) := ⟨_, rfl⟩
          rw [HA.out] at own sa HL
          go_wp2_with (at_builtin; refine wpList_app rfl _ _ rfl w.heap.size _ L _ rfl own y n cy ys rfl sy nily (by omega) hz ?_)
          intro v2 w2 own2 hb hv2
          replace hB := hB.trans hb
          clear hb own sa
          go_wp2
          go_roundw
          case rel =>
            refine ⟨k + 1, L + n, by omega, by omega, by go_num, by omega, ?_, ?_, hB⟩
            · have := HL.out
              have := HN.out
              rw [HK.out, HA.out, List.length_append]
              exact hide' (by omega)
            · rw [HK.out, HA.out, List.map_append]
              simpa using own2
          case measure => simp [intOf]; omega
    · obtain rfl : k = m := by omega
      have hall : P.take k = P := List.take_of_length_le (by omega)
      rw [hall] at HL sa
      replace hl := hl.below hB
      go_wp2_with fail
      refine (sum_of hS P x k c (by omega) (zs := P.flatten) rfl (by rw [HL.out]; omega) hc hnil _ hl HT.out).mono ?_
      rintro e w1 ⟨rfl, hb⟩
      replace sa := sa.below hb
      replace hB := hB.trans (hb.mono hB.size)
      clear hb own hl
      have hl := lat_one w1 sa hca hcma nila (fun x hx => by
        obtain ⟨ys, hy, hxy⟩ := List.mem_flatten.1 hx
        exact (hP ys hy).1 x hxy)
      have hb : Below w1.heap.size w1 (w1.alloc (.cells #[.slice xa L ca] 22)) := (Below.refl _ _).alloc (Nat.le_refl _) _
      replace hB := hB.trans (hb.mono hB.size)
      clear hb
      go_wp2_with fail
      refine (sum_of hS [P.flatten] _ 1 1 (by decide) (zs := P.flatten) (by simp) (by rw [HL.out]; omega) (by decide) (fun e => by cases e) _ hl HT.out).mono ?_
      rintro e w2 ⟨rfl, hb⟩
      replace hB := hB.trans (hb.mono hB.size)
      clear hb hl
      go_wp2_with fail
      refine (known_true hS _).mono ?_
      rintro e w3 ⟨rfl, hb⟩
      replace hB := hB.trans (hb.mono hB.size)
      go_wp2
      go_ret
      exact ⟨rfl, hB⟩
end Go.Proofs.Ytokckfgajklflaa
