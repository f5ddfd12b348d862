/- slices.Grow of nil and slices.Concat, as the library has them: rows of bytes. -/
import Derived.Test.YtnimhlkoikjomaaLAt
import Derived.Lib.AppendZeros
namespace Go.Proofs.Ytnimhlkoikjomaa
open Go.RowKit
set_option maxRecDepth 20000

set_option maxHeartbeats 1000000 in
theorem igrow (n : Nat) (hn : n ≤ 50000) (w : World) : Calls Try.prog 28 #[.slice none 0 0, .int .i64 n] w fun e w' => ∃ v, e = .returned v ∧ w'.ownsRow w.heap.size 5 1 v 0 [] ∧ Below w.heap.size w w' := by
  obtain ⟨i0, hi, hz0, hz1, hz2⟩ := info_parts Try.info5
  by_cases h0 : n = 0
  · subst h0
    go_enter Try.func28, Try.ntmps28
    go_wp2
    go_ret
    exact ⟨_, rfl, World.ownsRow_nil _ _ _ _, Below.refl _ _⟩
  · have happ := Lib.run_append_nil_zeros (P := Try.prog) w 28 3 28 5 i0 (.int .u8 0) .i64 .i64 Try.underlying28 (by kernel_rfl) hi hz0 n (by omega) (by rw [hz1]; decide) (by omega) (by rw [hz2]; omega)
    generalize hcap : grownCap w n 0 5 = cap2 at happ
    have hcapge : n ≤ cap2 := by rw [← hcap]; exact grownCap_ge w _ 0 _
    have hcaple : cap2 ≤ maxLen := by rw [← hcap]; exact grownCap_le_maxLen w _ 0 _ (by unfold maxLen; omega)
    generalize hZ : (Builtin.zeroCells (Value.int .u8 0).cells n ++ Builtin.zeroCells (Value.int .u8 0).cells (cap2 - n)) = Z at happ
    have hZs : Z.size = cap2 := by rw [← hZ]; simp [size_zeroCells, Value.cells]; omega
    clear hcap hZ
    have hs0 := sl_head none 0 0 0 (Nat.le_refl _)
    have hs1 := sl_head (some ⟨w.heap.size, 0, none⟩) n cap2 0 (Nat.zero_le _)
    go_enter Try.func28, Try.ntmps28
    go_wp2_with (at_builtin; refine Lib.wpList_append_run _ rfl _ _ _ _ rfl _ _ rfl rfl _ _ happ ?_)
    go_ret
    refine ⟨_, rfl, ⟨rfl, .inr ⟨w.heap.size, cap2, Z, rfl, Nat.le_refl _, ?_, Nat.zero_le _, hcaple, by rw [hZs, Nat.mul_one], by simp⟩⟩, ?_⟩
    · exact heap_alloc_new _ _
    · exact (Below.refl _ _).drew.alloc (Nat.le_refl _) _

set_option maxRecDepth 10000 in
set_option maxHeartbeats 2000000 in
theorem iconcat (P : List (List Int)) (x : Option Addr) (m c : Nat) (hm : m ≤ 1000) (hP : P.flatten.length ≤ 50000) (hc : m ≤ c) (hnil : x = none → m = 0 ∧ c = 0) (w : World) (hl : LAt w x m P) :
    Calls Try.prog 18 #[.slice x m c] w fun e w' => ∃ v, e = .returned v ∧ w'.ownsRow w.heap.size 5 1 v P.flatten.length (P.flatten.map (Value.int .u8)) ∧ Below w.heap.size w w' := by
  have hPl := hl.1
  have HF := hide' (flat_take P)
  have HX : Hid (∀ k, (P.take k).flatten.length ≤ P.flatten.length) := hide' (fun k => by
    conv => rhs; rw [← List.take_append_drop k P, List.flatten_append, List.length_append]
    omega)
  obtain ⟨Z, HZ⟩ : ∃ Z, Hid (P.flatten = Z) := ⟨_, rfl⟩
  rw [HZ.out] at hP ⊢
  rw [HZ.out] at HX
  obtain ⟨z, HN⟩ : ∃ z, Hid (Z.length = z) := ⟨_, rfl⟩
  rw [HN.out] at hP ⊢
  rw [HN.out] at HX
  go_enter Try.func18, Try.ntmps18
  go_wp2_with fail
  go_loop [3, 11] (fun sz i => ∃ k L : Nat, k ≤ m ∧ i = .int .i64 (k : Int) ∧ sz = .int .i64 (L : Int) ∧ L ≤ 50000 ∧ Hid ((P.take k).flatten.length = L)) (fun _ i => m - (intOf i).toNat)
  case atStart => exact ⟨0, 0, Nat.zero_le _, rfl, rfl, by decide, rfl⟩
  case round =>
    obtain ⟨k, L, hk, rfl, rfl, hL, HL⟩ := hrel
    by_cases hlt : k < m
    · obtain ⟨b, o, rfl, hbl, hrow⟩ := hl.2 (by omega)
      have hr := hrow k hlt
      have HK := hide' (HF.out k (by omega))
      have HB := hide' (HX.out (k + 1))
      generalize P.getD k [] = ys at *
      obtain ⟨y, cy, hcell, sy, hcy, hcmy, nily, by_⟩ := hr
      obtain ⟨n, HY⟩ : ∃ n, Hid (ys.length = n) := ⟨_, rfl⟩
      rw [HY.out] at hcell sy hcy nily
      have hLn : L + n ≤ 50000 := by
        have := HB.out
        rw [HK.out, List.length_append, HL.out, HY.out] at this
        omega
      go_wp2
      go_round
      case rel =>
        refine ⟨k + 1, L + n, by omega, by go_num, by go_num, hLn, ?_⟩
        rw [HK.out, List.length_append, HL.out, HY.out]
        exact rfl
      case measure => simp [intOf]; omega
    · obtain rfl : k = m := by omega
      have hall : P.take k = P := List.take_of_length_le (by omega)
      have hLz : L = z := by
        have := HL.out
        rw [hall, HZ.out, HN.out] at this
        exact this.symm
      subst hLz
      clear HL
      go_wp2_with fail
      refine (igrow L hL _).mono ?_
      rintro e w1 ⟨v1, rfl, own1, hb⟩
      have hz1 := hb.size
      clear hlt hall
      go_wp2_with fail
      go_loopw [6, 27] (fun v i wr => ∃ j L' : Nat, j ≤ k ∧ i = .int .i64 (j : Int) ∧ L' ≤ 50000 ∧ Hid ((P.take j).flatten.length = L') ∧ wr.ownsRow w.heap.size 5 1 v L' ((P.take j).flatten.map (Value.int .u8)) ∧ Below w.heap.size w wr) (fun _ i _ => k - (intOf i).toNat)
      case atStart => exact ⟨0, 0, Nat.zero_le _, rfl, by decide, rfl, by simpa using own1, hb⟩
      case round =>
        clear own1 hb
        obtain ⟨j, L', hj, rfl, hL', HL', own, hB⟩ := hrel
        obtain ⟨xa, ca, rfl, sa, hca, hcma, nila⟩ := own_slice HL'.out own
        by_cases hlt : j < k
        · obtain ⟨b, o, rfl, hbl, hrow⟩ := hl.2 (by omega)
          have hr := (hrow j hlt).below hB
          have HK := hide' (HF.out j (by omega))
          have HB := hide' (HX.out (j + 1))
          generalize P.getD j [] = ys at *
          obtain ⟨y, cy, hcell, sy, hcy, hcmy, nily, by_⟩ := hr
          obtain ⟨n, HY⟩ : ∃ n, Hid (ys.length = n) := ⟨_, rfl⟩
          rw [HY.out] at hcell sy hcy nily
          have hLn : L' + n ≤ 50000 := by
            have := HB.out
            rw [HK.out, List.length_append, HL'.out, HY.out] at this
            omega
          have hz := hB.size
          obtain ⟨A, HA⟩ : ∃ A, Hid ((P.take j).flatten = A) := ⟨_, rfl⟩
          rw [HA.out] at own sa HL'
          go_wp2_with (at_builtin; refine wpList_app rfl _ _ rfl w.heap.size _ L' _ rfl own y n cy ys rfl sy nily (by omega) hz ?_)
          intro v2 w2 own2 hb2 hv2
          replace hB := hB.trans hb2
          clear hb2 own sa
          go_wp2
          go_roundw
          case rel =>
            refine ⟨j + 1, L' + n, by omega, by go_num, by omega, ?_, ?_, hB⟩
            · have := HL'.out
              have := HY.out
              rw [HK.out, HA.out, List.length_append]
              exact hide' (by omega)
            · rw [HK.out, HA.out, List.map_append]
              simpa using own2
          case measure => simp [intOf]; omega
        · obtain rfl : j = k := by omega
          have hall : P.take j = P := List.take_of_length_le (by omega)
          rw [hall, HZ.out] at own HL'
          have hLL : L' = L := HL'.out.symm.trans HN.out
          rw [hLL] at own
          go_wp2
          go_ret
          rw [hLL]
          exact ⟨_, rfl, own, hB⟩
end Go.Proofs.Ytnimhlkoikjomaa
