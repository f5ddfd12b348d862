/- RefOSame LIn OrcSaid: texts laid together. -/
import Derived.Test.YtkkehbebaokdmaaM04
import Derived.Test.YtkkehbebaokdmaaM02

/- What lockboxref7.Same comes to, where both are the same issues. -/
namespace Go.Proofs.Ytkkehbebaokdmaa
open Go.RowKit
set_option maxRecDepth 20000

/-- A slice of issues, to be read. -/
def IRd (w : World) (x : Option Addr) (n : Nat) (L : List Iss) : Prop := L.length = n ∧ (0 < n → ∃ g o, x = some ⟨g, o, none⟩ ∧ g < w.heap.size ∧ ∀ i, i < n → ∃ c, IssIn (fun _ => True) w (L.getD i default) c i ∧ ∀ j u, (issC (L.getD i default) c i)[j]? = some u → w.cell? ⟨g, o + i * 10 + j, none⟩ = some u)
theorem IRd.below {w w' : World} {x : Option Addr} {n : Nat} {L : List Iss} (h : IRd w x n L) (hb : Below w.heap.size w w') : IRd w' x n L :=
  ⟨h.1, fun hn => by
    obtain ⟨g, o, e, hg, hr⟩ := h.2 hn
    refine ⟨g, o, e, Nat.lt_of_lt_of_le hg hb.size, fun i hi => ?_⟩
    obtain ⟨c, h1, h2⟩ := hr i hi
    exact ⟨c, h1.off (Off.of_below (F := fun _ => False) hb) (fun _ _ _ h => h), fun j u hj => (hb.cell (p := ⟨g, o + i * 10 + j, none⟩) hg).trans (h2 j u hj)⟩⟩
theorem IRow.rd {G : Nat → Prop} {w : World} {v : Value} {L : List Iss} (h : IRow G w v L) : ∃ x cap, v = .slice x L.length cap ∧ L.length ≤ cap ∧ IRd w x L.length L := by
  by_cases hp : 0 < L.length
  · obtain ⟨g, cap, rfl, hcap, hgl, hr⟩ := iss_rows h hp
    refine ⟨_, cap, rfl, hcap, rfl, fun _ => ⟨g, 0, rfl, hgl, fun i hi => ?_⟩⟩
    obtain ⟨c, h1, h2⟩ := hr i hi
    exact ⟨c, h1.mono (fun _ _ _ => trivial), fun j u hj => by rw [Nat.zero_add]; exact h2 j u hj⟩
  · obtain ⟨C, h1, _⟩ := h
    obtain ⟨y, cy, rfl, hc, -, -⟩ := own_is h1
    exact ⟨y, cy, rfl, hc, rfl, fun h => absurd h hp⟩
theorem same_true (i : Nat) (hi : i < 1000000) (xs : List Int) (z y : Option Addr) (m c d : Nat) (bx : Bytes xs) (w : World) (sz : SAt w z m xs) (sy : SAt w y m xs) : Calls Try.prog 12 #[.agg #[.slice z m c, .int .u64 18446744073709551615, .int .u64 (i : Nat)], .agg #[.slice y m d, .int .u64 18446744073709551615, .int .u64 (i : Nat)]] w fun e w' => e = .returned (.bool true) ∧ Below w.heap.size w w' := by
  have := same_at i hi (tagI i) xs xs z y m m c d bx bx w sz sy
  rw [tagI_2 i (by omega)] at this
  simp only [and_self, decide_true] at this
  exact this

set_option maxRecDepth 10000 in
set_option maxHeartbeats 4000000 in
theorem rosame (L : List Iss) (x y : Option Addr) (n c d : Nat) (hn : n ≤ 50000) (w : World) (hx : IRd w x n L) (hy : IRd w y n L) : Calls Try.prog 17 #[.slice x n c, .slice y n d] w fun e w' => e = .returned (.bool true) ∧ Below w.heap.size w w' := by
  have heq := eq32
  have heqN := eqN
  go_enter Try.func17, Try.ntmps17
  go_wp2_with fail
  go_loopw [5] (fun v wr => ∃ k : Nat, k ≤ n ∧ v = .int .i64 (k : Int) ∧ Below w.heap.size w wr) (fun v _ => n - (intOf v).toNat)
  case atStart => exact ⟨0, Nat.zero_le _, rfl, Below.refl _ _⟩
  case round =>
    obtain ⟨k, hk, rfl, hB⟩ := hrel
    by_cases hlt : k < n
    · obtain ⟨g0, o0, rfl, hg0, h0⟩ := (hx.below hB).2 (by omega)
      obtain ⟨g1, o1, rfl, hg1, h1⟩ := (hy.below hB).2 (by omega)
      obtain ⟨ca, ha, hca⟩ := h0 k hlt
      obtain ⟨cb, hb_, hcb⟩ := h1 k hlt
      obtain ⟨z, HZ⟩ : ∃ z, Hid (L.getD k default = z) := ⟨_, rfl⟩
      rw [HZ.out] at ha hb_ hca hcb
      have a0 : wr.cell? ⟨g0, o0 + k * 10, none⟩ = some (.int .u64 (nv z.key.1)) := hca 0 _ rfl
      have a1 : wr.cell? ⟨g0, o0 + k * 10 + 1, none⟩ = some (.int .u64 (nv z.key.2)) := hca 1 _ rfl
      have a2 : wr.cell? ⟨g0, o0 + k * 10 + 2, none⟩ = some (.int .u32 (nv32 z.non.1)) := hca 2 _ rfl
      have a3 : wr.cell? ⟨g0, o0 + k * 10 + 3, none⟩ = some (.int .u32 (nv32 z.non.2.1)) := hca 3 _ rfl
      have a4 : wr.cell? ⟨g0, o0 + k * 10 + 4, none⟩ = some (.int .u64 (nv z.non.2.2)) := hca 4 _ rfl
      have a5 : wr.cell? ⟨g0, o0 + k * 10 + 5, none⟩ = some (.slice ca.h z.head.length ca.hc) := hca 5 _ rfl
      have a6 : wr.cell? ⟨g0, o0 + k * 10 + 6, none⟩ = some (.slice ca.d z.data.length ca.dc) := hca 6 _ rfl
      have a7 : wr.cell? ⟨g0, o0 + k * 10 + 7, none⟩ = some (.slice ca.o z.data.length ca.oc) := hca 7 _ rfl
      have a8 : wr.cell? ⟨g0, o0 + k * 10 + 8, none⟩ = some (.int .u64 18446744073709551615) := hca 8 _ rfl
      have a9 : wr.cell? ⟨g0, o0 + k * 10 + 9, none⟩ = some (.int .u64 ((k : Int) + 1)) := hca 9 _ rfl
      have b0 : wr.cell? ⟨g1, o1 + k * 10, none⟩ = some (.int .u64 (nv z.key.1)) := hcb 0 _ rfl
      have b1 : wr.cell? ⟨g1, o1 + k * 10 + 1, none⟩ = some (.int .u64 (nv z.key.2)) := hcb 1 _ rfl
      have b2 : wr.cell? ⟨g1, o1 + k * 10 + 2, none⟩ = some (.int .u32 (nv32 z.non.1)) := hcb 2 _ rfl
      have b3 : wr.cell? ⟨g1, o1 + k * 10 + 3, none⟩ = some (.int .u32 (nv32 z.non.2.1)) := hcb 3 _ rfl
      have b4 : wr.cell? ⟨g1, o1 + k * 10 + 4, none⟩ = some (.int .u64 (nv z.non.2.2)) := hcb 4 _ rfl
      have b5 : wr.cell? ⟨g1, o1 + k * 10 + 5, none⟩ = some (.slice cb.h z.head.length cb.hc) := hcb 5 _ rfl
      have b6 : wr.cell? ⟨g1, o1 + k * 10 + 6, none⟩ = some (.slice cb.d z.data.length cb.dc) := hcb 6 _ rfl
      have b7 : wr.cell? ⟨g1, o1 + k * 10 + 7, none⟩ = some (.slice cb.o z.data.length cb.oc) := hcb 7 _ rfl
      have b8 : wr.cell? ⟨g1, o1 + k * 10 + 8, none⟩ = some (.int .u64 18446744073709551615) := hcb 8 _ rfl
      have b9 : wr.cell? ⟨g1, o1 + k * 10 + 9, none⟩ = some (.int .u64 ((k : Int) + 1)) := hcb 9 _ rfl
      have st1 := str_self z.head
      have st2 := str_self z.data
      clear hca hcb h0 h1 hx hy
      go_wp2_with fail
      refine wp_region_held_drew (S := fun w' => Below wr.heap.size wr w') (by kernel_rfl) (Below.refl _ _).drew (fun hHeld => ?_)
      refine takeM 0 17 0 rfl rfl rfl (by kernel_rfl) (by kernel_rfl) (by kernel_rfl) (fun _ _ _ h => h) (by rfl) hHeld rfl ?_
      simp only [List.set_cons_succ, List.set_cons_zero]
      refine takeM 1 18 5 rfl rfl rfl (by kernel_rfl) (by kernel_rfl) (by kernel_rfl) (fun _ _ _ h => h) (by rfl) hHeld rfl ?_
      simp only [List.set_cons_succ, List.set_cons_zero]
      refine takeL 2 19 (v := ?_) rfl rfl (by kernel_rfl) (by kernel_rfl) (by kernel_rfl) (fun _ _ _ h => h) (by rfl) hHeld (fun w hSw => ?_) ?_
      rotate_left 1
      · (try dsimp only at hSw)
        clear hSw
        go_simp
        try with_reducible rfl
      simp only [List.set_cons_succ, List.set_cons_zero]
      refine takeL 3 20 (v := ?_) rfl rfl (by kernel_rfl) (by kernel_rfl) (by kernel_rfl) (fun _ _ _ h => h) (by rfl) hHeld (fun w hSw => ?_) ?_
      rotate_left 1
      · (try dsimp only at hSw)
        clear hSw
        go_simp
        try with_reducible rfl
      simp only [List.set_cons_succ, List.set_cons_zero]
      refine takeL 4 21 (v := ?_) rfl rfl (by kernel_rfl) (by kernel_rfl) (by kernel_rfl) (fun _ _ _ h => h) (by rfl) hHeld (fun w hSw => ?_) ?_
      rotate_left 1
      · (try dsimp only at hSw)
        have e0_ := (hSw.cell (p := ⟨g0, o0 + k * 10, none⟩) hg0).trans a0
        have e1_ := (hSw.cell (p := ⟨g0, o0 + k * 10 + 1, none⟩) hg0).trans a1
        clear hSw
        go_simp
        try with_reducible rfl
      simp only [List.set_cons_succ, List.set_cons_zero]
      refine takeM 5 22 1 rfl rfl rfl (by kernel_rfl) (by kernel_rfl) (by kernel_rfl) (fun _ _ _ h => h) (by rfl) hHeld rfl ?_
      simp only [List.set_cons_succ, List.set_cons_zero]
      refine takeM 6 23 5 rfl rfl rfl (by kernel_rfl) (by kernel_rfl) (by kernel_rfl) (fun _ _ _ h => h) (by rfl) hHeld rfl ?_
      simp only [List.set_cons_succ, List.set_cons_zero]
      refine takeL 7 24 (v := ?_) rfl rfl (by kernel_rfl) (by kernel_rfl) (by kernel_rfl) (fun _ _ _ h => h) (by rfl) hHeld (fun w hSw => ?_) ?_
      rotate_left 1
      · (try dsimp only at hSw)
        clear hSw
        go_simp
        try with_reducible rfl
      simp only [List.set_cons_succ, List.set_cons_zero]
      refine takeL 8 25 (v := ?_) rfl rfl (by kernel_rfl) (by kernel_rfl) (by kernel_rfl) (fun _ _ _ h => h) (by rfl) hHeld (fun w hSw => ?_) ?_
      rotate_left 1
      · (try dsimp only at hSw)
        clear hSw
        go_simp
        try with_reducible rfl
      simp only [List.set_cons_succ, List.set_cons_zero]
      refine takeL 9 26 (v := ?_) rfl rfl (by kernel_rfl) (by kernel_rfl) (by kernel_rfl) (fun _ _ _ h => h) (by rfl) hHeld (fun w hSw => ?_) ?_
      rotate_left 1
      · (try dsimp only at hSw)
        have e0_ := (hSw.cell (p := ⟨g1, o1 + k * 10, none⟩) hg1).trans b0
        have e1_ := (hSw.cell (p := ⟨g1, o1 + k * 10 + 1, none⟩) hg1).trans b1
        clear hSw
        go_simp
        try with_reducible rfl
      simp only [List.set_cons_succ, List.set_cons_zero]
      refine takeL 10 27 (v := ?_) rfl rfl (by kernel_rfl) (by kernel_rfl) (by kernel_rfl) (fun _ _ _ h => h) (by rfl) hHeld (fun w hSw => ?_) ?_
      rotate_left 1
      · (try dsimp only at hSw)
        clear hSw
        go_simp
        try with_reducible rfl
      simp only [List.set_cons_succ, List.set_cons_zero]
      refine takeM 11 28 27 rfl rfl rfl (by kernel_rfl) (by kernel_rfl) (by kernel_rfl) (fun _ _ _ h => h) (by rfl) hHeld rfl ?_
      simp only [List.set_cons_succ, List.set_cons_zero]
      refine takeM 12 29 0 rfl rfl rfl (by kernel_rfl) (by kernel_rfl) (by kernel_rfl) (fun _ _ _ h => h) (by rfl) hHeld rfl ?_
      simp only [List.set_cons_succ, List.set_cons_zero]
      refine takeM 13 30 5 rfl rfl rfl (by kernel_rfl) (by kernel_rfl) (by kernel_rfl) (fun _ _ _ h => h) (by rfl) hHeld rfl ?_
      simp only [List.set_cons_succ, List.set_cons_zero]
      refine takeL 14 31 (v := ?_) rfl rfl (by kernel_rfl) (by kernel_rfl) (by kernel_rfl) (fun _ _ _ h => h) (by rfl) hHeld (fun w hSw => ?_) ?_
      rotate_left 1
      · (try dsimp only at hSw)
        clear hSw
        go_simp
        try with_reducible rfl
      simp only [List.set_cons_succ, List.set_cons_zero]
      refine takeL 15 32 (v := ?_) rfl rfl (by kernel_rfl) (by kernel_rfl) (by kernel_rfl) (fun _ _ _ h => h) (by rfl) hHeld (fun w hSw => ?_) ?_
      rotate_left 1
      · (try dsimp only at hSw)
        clear hSw
        go_simp
        try with_reducible rfl
      simp only [List.set_cons_succ, List.set_cons_zero]
      refine takeL 16 33 (v := ?_) rfl rfl (by kernel_rfl) (by kernel_rfl) (by kernel_rfl) (fun _ _ _ h => h) (by rfl) hHeld (fun w hSw => ?_) ?_
      rotate_left 1
      · (try dsimp only at hSw)
        have e2_ := (hSw.cell (p := ⟨g0, o0 + k * 10 + 2, none⟩) hg0).trans a2
        have e3_ := (hSw.cell (p := ⟨g0, o0 + k * 10 + 3, none⟩) hg0).trans a3
        have e4_ := (hSw.cell (p := ⟨g0, o0 + k * 10 + 4, none⟩) hg0).trans a4
        clear hSw
        go_simp
        try with_reducible rfl
      simp only [List.set_cons_succ, List.set_cons_zero]
      refine takeM 17 34 1 rfl rfl rfl (by kernel_rfl) (by kernel_rfl) (by kernel_rfl) (fun _ _ _ h => h) (by rfl) hHeld rfl ?_
      simp only [List.set_cons_succ, List.set_cons_zero]
      refine takeM 18 35 5 rfl rfl rfl (by kernel_rfl) (by kernel_rfl) (by kernel_rfl) (fun _ _ _ h => h) (by rfl) hHeld rfl ?_
      simp only [List.set_cons_succ, List.set_cons_zero]
      refine takeL 19 36 (v := ?_) rfl rfl (by kernel_rfl) (by kernel_rfl) (by kernel_rfl) (fun _ _ _ h => h) (by rfl) hHeld (fun w hSw => ?_) ?_
      rotate_left 1
      · (try dsimp only at hSw)
        clear hSw
        go_simp
        try with_reducible rfl
      simp only [List.set_cons_succ, List.set_cons_zero]
      refine takeL 20 37 (v := ?_) rfl rfl (by kernel_rfl) (by kernel_rfl) (by kernel_rfl) (fun _ _ _ h => h) (by rfl) hHeld (fun w hSw => ?_) ?_
      rotate_left 1
      · (try dsimp only at hSw)
        clear hSw
        go_simp
        try with_reducible rfl
      simp only [List.set_cons_succ, List.set_cons_zero]
      refine takeL 21 38 (v := ?_) rfl rfl (by kernel_rfl) (by kernel_rfl) (by kernel_rfl) (fun _ _ _ h => h) (by rfl) hHeld (fun w hSw => ?_) ?_
      rotate_left 1
      · (try dsimp only at hSw)
        have e2_ := (hSw.cell (p := ⟨g1, o1 + k * 10 + 2, none⟩) hg1).trans b2
        have e3_ := (hSw.cell (p := ⟨g1, o1 + k * 10 + 3, none⟩) hg1).trans b3
        have e4_ := (hSw.cell (p := ⟨g1, o1 + k * 10 + 4, none⟩) hg1).trans b4
        clear hSw
        go_simp
        try with_reducible rfl
      simp only [List.set_cons_succ, List.set_cons_zero]
      refine takeL 22 39 (v := ?_) rfl rfl (by kernel_rfl) (by kernel_rfl) (by kernel_rfl) (fun _ _ _ h => h) (by rfl) hHeld (fun w hSw => ?_) ?_
      rotate_left 1
      · (try dsimp only at hSw)
        clear hSw
        go_simp
        try with_reducible rfl
      simp only [List.set_cons_succ, List.set_cons_zero]
      refine takeL 23 40 (v := ?_) rfl rfl (by kernel_rfl) (by kernel_rfl) (by kernel_rfl) (fun _ _ _ h => h) (by rfl) hHeld (fun w hSw => ?_) ?_
      rotate_left 1
      · (try dsimp only at hSw)
        clear hSw
        go_simp
        try with_reducible rfl
      simp only [List.set_cons_succ, List.set_cons_zero]
      refine takeM 24 41 40 rfl rfl rfl (by kernel_rfl) (by kernel_rfl) (by kernel_rfl) (fun _ _ _ h => h) (by rfl) hHeld rfl ?_
      simp only [List.set_cons_succ, List.set_cons_zero]
      refine takeM 25 42 0 rfl rfl rfl (by kernel_rfl) (by kernel_rfl) (by kernel_rfl) (fun _ _ _ h => h) (by rfl) hHeld rfl ?_
      simp only [List.set_cons_succ, List.set_cons_zero]
      refine takeM 26 43 5 rfl rfl rfl (by kernel_rfl) (by kernel_rfl) (by kernel_rfl) (fun _ _ _ h => h) (by rfl) hHeld rfl ?_
      simp only [List.set_cons_succ, List.set_cons_zero]
      refine takeL 27 44 (v := ?_) rfl rfl (by kernel_rfl) (by kernel_rfl) (by kernel_rfl) (fun _ _ _ h => h) (by rfl) hHeld (fun w hSw => ?_) ?_
      rotate_left 1
      · (try dsimp only at hSw)
        clear hSw
        go_simp
        try with_reducible rfl
      simp only [List.set_cons_succ, List.set_cons_zero]
      refine takeL 28 45 (v := ?_) rfl rfl (by kernel_rfl) (by kernel_rfl) (by kernel_rfl) (fun _ _ _ h => h) (by rfl) hHeld (fun w hSw => ?_) ?_
      rotate_left 1
      · (try dsimp only at hSw)
        clear hSw
        go_simp
        try with_reducible rfl
      simp only [List.set_cons_succ, List.set_cons_zero]
      refine takeL 29 46 (v := ?_) rfl rfl (by kernel_rfl) (by kernel_rfl) (by kernel_rfl) (fun _ _ _ h => h) (by rfl) hHeld (fun w hSw => ?_) ?_
      rotate_left 1
      · (try dsimp only at hSw)
        have e5_ := (hSw.cell (p := ⟨g0, o0 + k * 10 + 5, none⟩) hg0).trans a5
        clear hSw
        go_simp
        try with_reducible rfl
      simp only [List.set_cons_succ, List.set_cons_zero]
      refine takeL 30 47 (v := ?_) rfl rfl (by kernel_rfl) (by kernel_rfl) (by kernel_rfl) (fun _ _ _ h => h) (by rfl) hHeld (fun w hSw => ?_) ?_
      rotate_left 1
      · (try dsimp only at hSw)
        have e0_ := fun c => (ha.hs.sat.below hSw).conv (c := c)
        clear hSw
        go_simp
        try with_reducible rfl
      simp only [List.set_cons_succ, List.set_cons_zero]
      refine takeM 31 48 1 rfl rfl rfl (by kernel_rfl) (by kernel_rfl) (by kernel_rfl) (fun _ _ _ h => h) (by rfl) hHeld rfl ?_
      simp only [List.set_cons_succ, List.set_cons_zero]
      refine takeM 32 49 5 rfl rfl rfl (by kernel_rfl) (by kernel_rfl) (by kernel_rfl) (fun _ _ _ h => h) (by rfl) hHeld rfl ?_
      simp only [List.set_cons_succ, List.set_cons_zero]
      refine takeL 33 50 (v := ?_) rfl rfl (by kernel_rfl) (by kernel_rfl) (by kernel_rfl) (fun _ _ _ h => h) (by rfl) hHeld (fun w hSw => ?_) ?_
      rotate_left 1
      · (try dsimp only at hSw)
        clear hSw
        go_simp
        try with_reducible rfl
      simp only [List.set_cons_succ, List.set_cons_zero]
      refine takeL 34 51 (v := ?_) rfl rfl (by kernel_rfl) (by kernel_rfl) (by kernel_rfl) (fun _ _ _ h => h) (by rfl) hHeld (fun w hSw => ?_) ?_
      rotate_left 1
      · (try dsimp only at hSw)
        clear hSw
        go_simp
        try with_reducible rfl
      simp only [List.set_cons_succ, List.set_cons_zero]
      refine takeL 35 52 (v := ?_) rfl rfl (by kernel_rfl) (by kernel_rfl) (by kernel_rfl) (fun _ _ _ h => h) (by rfl) hHeld (fun w hSw => ?_) ?_
      rotate_left 1
      · (try dsimp only at hSw)
        have e5_ := (hSw.cell (p := ⟨g1, o1 + k * 10 + 5, none⟩) hg1).trans b5
        clear hSw
        go_simp
        try with_reducible rfl
      simp only [List.set_cons_succ, List.set_cons_zero]
      refine takeL 36 53 (v := ?_) rfl rfl (by kernel_rfl) (by kernel_rfl) (by kernel_rfl) (fun _ _ _ h => h) (by rfl) hHeld (fun w hSw => ?_) ?_
      rotate_left 1
      · (try dsimp only at hSw)
        have e0_ := fun c => (hb_.hs.sat.below hSw).conv (c := c)
        clear hSw
        go_simp
        try with_reducible rfl
      simp only [List.set_cons_succ, List.set_cons_zero]
      refine takeL 37 54 (v := ?_) rfl rfl (by kernel_rfl) (by kernel_rfl) (by kernel_rfl) (fun _ _ _ h => h) (by rfl) hHeld (fun w hSw => ?_) ?_
      rotate_left 1
      · (try dsimp only at hSw)
        clear hSw
        go_simp
        try with_reducible rfl
      simp only [List.set_cons_succ, List.set_cons_zero]
      refine takeL 38 55 (v := ?_) rfl rfl (by kernel_rfl) (by kernel_rfl) (by kernel_rfl) (fun _ _ _ h => h) (by rfl) hHeld (fun w hSw => ?_) ?_
      rotate_left 1
      · (try dsimp only at hSw)
        clear hSw
        go_simp
        try with_reducible rfl
      simp only [List.set_cons_succ, List.set_cons_zero]
      refine takeM 39 56 55 rfl rfl rfl (by kernel_rfl) (by kernel_rfl) (by kernel_rfl) (fun _ _ _ h => h) (by rfl) hHeld rfl ?_
      simp only [List.set_cons_succ, List.set_cons_zero]
      refine takeM 40 57 0 rfl rfl rfl (by kernel_rfl) (by kernel_rfl) (by kernel_rfl) (fun _ _ _ h => h) (by rfl) hHeld rfl ?_
      simp only [List.set_cons_succ, List.set_cons_zero]
      refine takeM 41 58 5 rfl rfl rfl (by kernel_rfl) (by kernel_rfl) (by kernel_rfl) (fun _ _ _ h => h) (by rfl) hHeld rfl ?_
      simp only [List.set_cons_succ, List.set_cons_zero]
      refine takeL 42 59 (v := ?_) rfl rfl (by kernel_rfl) (by kernel_rfl) (by kernel_rfl) (fun _ _ _ h => h) (by rfl) hHeld (fun w hSw => ?_) ?_
      rotate_left 1
      · (try dsimp only at hSw)
        clear hSw
        go_simp
        try with_reducible rfl
      simp only [List.set_cons_succ, List.set_cons_zero]
      refine takeL 43 60 (v := ?_) rfl rfl (by kernel_rfl) (by kernel_rfl) (by kernel_rfl) (fun _ _ _ h => h) (by rfl) hHeld (fun w hSw => ?_) ?_
      rotate_left 1
      · (try dsimp only at hSw)
        clear hSw
        go_simp
        try with_reducible rfl
      simp only [List.set_cons_succ, List.set_cons_zero]
      refine takeL 44 61 (v := ?_) rfl rfl (by kernel_rfl) (by kernel_rfl) (by kernel_rfl) (fun _ _ _ h => h) (by rfl) hHeld (fun w hSw => ?_) ?_
      rotate_left 1
      · (try dsimp only at hSw)
        have e6_ := (hSw.cell (p := ⟨g0, o0 + k * 10 + 6, none⟩) hg0).trans a6
        clear hSw
        go_simp
        try with_reducible rfl
      simp only [List.set_cons_succ, List.set_cons_zero]
      refine takeL 45 62 (v := ?_) rfl rfl (by kernel_rfl) (by kernel_rfl) (by kernel_rfl) (fun _ _ _ h => h) (by rfl) hHeld (fun w hSw => ?_) ?_
      rotate_left 1
      · (try dsimp only at hSw)
        have e0_ := fun c => (ha.ds.sat.below hSw).conv (c := c)
        clear hSw
        go_simp
        try with_reducible rfl
      simp only [List.set_cons_succ, List.set_cons_zero]
      refine takeM 46 63 1 rfl rfl rfl (by kernel_rfl) (by kernel_rfl) (by kernel_rfl) (fun _ _ _ h => h) (by rfl) hHeld rfl ?_
      simp only [List.set_cons_succ, List.set_cons_zero]
      refine takeM 47 64 5 rfl rfl rfl (by kernel_rfl) (by kernel_rfl) (by kernel_rfl) (fun _ _ _ h => h) (by rfl) hHeld rfl ?_
      simp only [List.set_cons_succ, List.set_cons_zero]
      refine takeL 48 65 (v := ?_) rfl rfl (by kernel_rfl) (by kernel_rfl) (by kernel_rfl) (fun _ _ _ h => h) (by rfl) hHeld (fun w hSw => ?_) ?_
      rotate_left 1
      · (try dsimp only at hSw)
        clear hSw
        go_simp
        try with_reducible rfl
      simp only [List.set_cons_succ, List.set_cons_zero]
      refine takeL 49 66 (v := ?_) rfl rfl (by kernel_rfl) (by kernel_rfl) (by kernel_rfl) (fun _ _ _ h => h) (by rfl) hHeld (fun w hSw => ?_) ?_
      rotate_left 1
      · (try dsimp only at hSw)
        clear hSw
        go_simp
        try with_reducible rfl
      simp only [List.set_cons_succ, List.set_cons_zero]
      refine takeL 50 67 (v := ?_) rfl rfl (by kernel_rfl) (by kernel_rfl) (by kernel_rfl) (fun _ _ _ h => h) (by rfl) hHeld (fun w hSw => ?_) ?_
      rotate_left 1
      · (try dsimp only at hSw)
        have e6_ := (hSw.cell (p := ⟨g1, o1 + k * 10 + 6, none⟩) hg1).trans b6
        clear hSw
        go_simp
        try with_reducible rfl
      simp only [List.set_cons_succ, List.set_cons_zero]
      refine takeL 51 68 (v := ?_) rfl rfl (by kernel_rfl) (by kernel_rfl) (by kernel_rfl) (fun _ _ _ h => h) (by rfl) hHeld (fun w hSw => ?_) ?_
      rotate_left 1
      · (try dsimp only at hSw)
        have e0_ := fun c => (hb_.ds.sat.below hSw).conv (c := c)
        clear hSw
        go_simp
        try with_reducible rfl
      simp only [List.set_cons_succ, List.set_cons_zero]
      refine takeL 52 69 (v := ?_) rfl rfl (by kernel_rfl) (by kernel_rfl) (by kernel_rfl) (fun _ _ _ h => h) (by rfl) hHeld (fun w hSw => ?_) ?_
      rotate_left 1
      · (try dsimp only at hSw)
        clear hSw
        go_simp
        try with_reducible rfl
      simp only [List.set_cons_succ, List.set_cons_zero]
      refine takeL 53 70 (v := ?_) rfl rfl (by kernel_rfl) (by kernel_rfl) (by kernel_rfl) (fun _ _ _ h => h) (by rfl) hHeld (fun w hSw => ?_) ?_
      rotate_left 1
      · (try dsimp only at hSw)
        clear hSw
        go_simp
        try with_reducible rfl
      simp only [List.set_cons_succ, List.set_cons_zero]
      refine takeM 54 71 70 rfl rfl rfl (by kernel_rfl) (by kernel_rfl) (by kernel_rfl) (fun _ _ _ h => h) (by rfl) hHeld rfl ?_
      simp only [List.set_cons_succ, List.set_cons_zero]
      refine takeM 55 72 0 rfl rfl rfl (by kernel_rfl) (by kernel_rfl) (by kernel_rfl) (fun _ _ _ h => h) (by rfl) hHeld rfl ?_
      simp only [List.set_cons_succ, List.set_cons_zero]
      refine takeM 56 73 5 rfl rfl rfl (by kernel_rfl) (by kernel_rfl) (by kernel_rfl) (fun _ _ _ h => h) (by rfl) hHeld rfl ?_
      simp only [List.set_cons_succ, List.set_cons_zero]
      refine takeL 57 74 (v := ?_) rfl rfl (by kernel_rfl) (by kernel_rfl) (by kernel_rfl) (fun _ _ _ h => h) (by rfl) hHeld (fun w hSw => ?_) ?_
      rotate_left 1
      · (try dsimp only at hSw)
        clear hSw
        go_simp
        try with_reducible rfl
      simp only [List.set_cons_succ, List.set_cons_zero]
      refine takeL 58 75 (v := ?_) rfl rfl (by kernel_rfl) (by kernel_rfl) (by kernel_rfl) (fun _ _ _ h => h) (by rfl) hHeld (fun w hSw => ?_) ?_
      rotate_left 1
      · (try dsimp only at hSw)
        clear hSw
        go_simp
        try with_reducible rfl
      simp only [List.set_cons_succ, List.set_cons_zero]
      refine takeL 59 76 (v := ?_) rfl rfl (by kernel_rfl) (by kernel_rfl) (by kernel_rfl) (fun _ _ _ h => h) (by rfl) hHeld (fun w hSw => ?_) ?_
      rotate_left 1
      · (try dsimp only at hSw)
        have e7_ := (hSw.cell (p := ⟨g0, o0 + k * 10 + 7, none⟩) hg0).trans a7
        have e8_ := (hSw.cell (p := ⟨g0, o0 + k * 10 + 8, none⟩) hg0).trans a8
        have e9_ := (hSw.cell (p := ⟨g0, o0 + k * 10 + 9, none⟩) hg0).trans a9
        clear hSw
        go_simp
        try with_reducible rfl
      simp only [List.set_cons_succ, List.set_cons_zero]
      refine takeM 60 77 1 rfl rfl rfl (by kernel_rfl) (by kernel_rfl) (by kernel_rfl) (fun _ _ _ h => h) (by rfl) hHeld rfl ?_
      simp only [List.set_cons_succ, List.set_cons_zero]
      refine takeM 61 78 5 rfl rfl rfl (by kernel_rfl) (by kernel_rfl) (by kernel_rfl) (fun _ _ _ h => h) (by rfl) hHeld rfl ?_
      simp only [List.set_cons_succ, List.set_cons_zero]
      refine takeL 62 79 (v := ?_) rfl rfl (by kernel_rfl) (by kernel_rfl) (by kernel_rfl) (fun _ _ _ h => h) (by rfl) hHeld (fun w hSw => ?_) ?_
      rotate_left 1
      · (try dsimp only at hSw)
        clear hSw
        go_simp
        try with_reducible rfl
      simp only [List.set_cons_succ, List.set_cons_zero]
      refine takeL 63 80 (v := ?_) rfl rfl (by kernel_rfl) (by kernel_rfl) (by kernel_rfl) (fun _ _ _ h => h) (by rfl) hHeld (fun w hSw => ?_) ?_
      rotate_left 1
      · (try dsimp only at hSw)
        clear hSw
        go_simp
        try with_reducible rfl
      simp only [List.set_cons_succ, List.set_cons_zero]
      refine takeL 64 81 (v := ?_) rfl rfl (by kernel_rfl) (by kernel_rfl) (by kernel_rfl) (fun _ _ _ h => h) (by rfl) hHeld (fun w hSw => ?_) ?_
      rotate_left 1
      · (try dsimp only at hSw)
        have e7_ := (hSw.cell (p := ⟨g1, o1 + k * 10 + 7, none⟩) hg1).trans b7
        have e8_ := (hSw.cell (p := ⟨g1, o1 + k * 10 + 8, none⟩) hg1).trans b8
        have e9_ := (hSw.cell (p := ⟨g1, o1 + k * 10 + 9, none⟩) hg1).trans b9
        clear hSw
        go_simp
        try with_reducible rfl
      simp only [List.set_cons_succ, List.set_cons_zero]
      refine onlyL 65 rfl (by kernel_rfl) (by rfl) (fun K hK => ?_)
      go_wp2_with fail
      refine (same_true (k + 1) (by omega) _ _ _ _ _ _ (outB_bytes _ _) _ ha.os.sat.drew hb_.os.sat.drew).mono ?_
      rintro e w1 ⟨rfl, hb⟩
      replace hb := (Below.refl _ _).drew.trans hb
      replace hB := hB.trans (hb.mono hB.size)
      refine hK.out _ _ hb (fun hHeld => ?_)
      clear hK K
      refine takeL 66 83 (v := ?_) rfl rfl (by kernel_rfl) (by kernel_rfl) (by kernel_rfl) (fun _ _ _ h => h) (by rfl) hHeld (fun w hSw => ?_) ?_
      rotate_left 1
      · (try dsimp only at hSw)
        clear hSw
        go_simp
        try with_reducible rfl
      simp only [List.set_cons_succ, List.set_cons_zero]
      refine takeL 67 84 (v := ?_) rfl rfl (by kernel_rfl) (by kernel_rfl) (by kernel_rfl) (fun _ _ _ h => h) (by rfl) hHeld (fun w hSw => ?_) ?_
      rotate_left 1
      · (try dsimp only at hSw)
        clear hSw
        go_simp
        try with_reducible rfl
      simp only [List.set_cons_succ, List.set_cons_zero]
      refine wpAnyH_done (by kernel_rfl) ?_ _
      go_wp2
      go_roundw
      case rel => exact ⟨k + 1, hlt, by go_num, hB⟩
      case measure => simp [intOf]; omega
    · obtain rfl : k = n := by omega
      go_wp2
      go_ret
      exact ⟨rfl, hB⟩
end Go.Proofs.Ytkkehbebaokdmaa


/- Slices of rows of bytes, in blocks of G. -/
namespace Go.Proofs.Ytkkehbebaokdmaa
open Go.RowKit
set_option maxRecDepth 20000

theorem Off.one (w : World) (b i : Nat) (u : Value) : Off (fun k => k = b) w (w.setCell ⟨b, i, Option.none⟩ u) := (Off.refl (fun k => k = b) w).setCell (p := ⟨b, i, Option.none⟩) (Or.inl rfl) u
/-- The slice in this cell has these bytes. -/
def RowInG (G : Nat → Prop) (w : World) (b o : Nat) (ys : List Int) : Prop := ∃ y c, w.cell? ⟨b, o, none⟩ = some (.slice y ys.length c) ∧ SIn G w y ys.length ys ∧ ys.length ≤ c ∧ c ≤ maxLen ∧ (y = none → ys.length = 0 ∧ c = 0) ∧ Bytes ys
theorem RowInG.of {G : Nat → Prop} {w : World} {b o n c : Nat} {y : Option Addr} {ys : List Int} (h : w.cell? ⟨b, o, none⟩ = some (.slice y n c)) (hs : SIn G w y n ys) (hc : n ≤ c) (hm : c ≤ maxLen) (hnil : y = none → n = 0 ∧ c = 0) (hb : Bytes ys) : RowInG G w b o ys := by
  obtain rfl : ys.length = n := hs.1
  exact ⟨y, c, h, hs, hc, hm, hnil, hb⟩
/-- A slice of m rows. -/
def LIn (G : Nat → Prop) (w : World) (x : Option Addr) (m : Nat) (P : List (List Int)) : Prop := P.length = m ∧ (0 < m → ∃ b o, x = some ⟨b, o, none⟩ ∧ b < w.heap.size ∧ G b ∧ ∀ i, i < m → RowInG G w b (o + i) (P.getD i []))
theorem LIn.off {F G : Nat → Prop} {w w' : World} {x : Option Addr} {m : Nat} {P : List (List Int)} (h : LIn G w x m P) (hb : Off F w w') (hd : ∀ b, b < w.heap.size → G b → ¬ F b) : LIn G w' x m P :=
  ⟨h.1, fun hm => by
    obtain ⟨b, o, e, hlt, hg, hr⟩ := h.2 hm
    refine ⟨b, o, e, Nat.lt_of_lt_of_le hlt hb.size, hg, fun i hi => ?_⟩
    obtain ⟨y, c, h1, h2, h3⟩ := hr i hi
    exact ⟨y, c, (hb.cell (p := ⟨b, o + i, none⟩) hlt (hd b hlt hg)).trans h1, h2.off hb hd, h3⟩⟩
theorem LIn.drew {G : Nat → Prop} {w : World} {x : Option Addr} {m : Nat} {P : List (List Int)} (h : LIn G w x m P) : LIn G w.drew x m P := h.off (F := fun _ => False) (Off.refl _ _).drew (fun _ _ _ h => h)
theorem lin_none (G : Nat → Prop) (w : World) (x : Option Addr) : LIn G w x 0 [] := ⟨rfl, fun h => absurd h (by omega)⟩
theorem lin_one {G : Nat → Prop} (w : World) {y : Option Addr} {n c : Nat} {ys : List Int} (hG : G w.heap.size) (hs : SIn G w y n ys) (hc : n ≤ c) (hm : c ≤ maxLen) (hnil : y = none → n = 0 ∧ c = 0) (hb : Bytes ys) :
    LIn G (w.alloc (.cells #[.slice y n c] 27)) (some ⟨w.heap.size, 0, none⟩) 1 [ys] := by
  refine ⟨rfl, fun _ => ⟨w.heap.size, 0, rfl, by rw [World.size_alloc]; omega, hG, fun i hi => ?_⟩⟩
  obtain rfl : i = 0 := by omega
  exact RowInG.of (y := y) (n := n) (c := c) (by simp) (hs.off (F := fun _ => False) ((Off.refl _ _).alloc _) (fun _ _ _ h => h)) hc hm hnil hb
theorem lin_two {G : Nat → Prop} (w : World) {y z : Option Addr} {n c k d : Nat} {ys zs : List Int} (hG : G w.heap.size) (hs : SIn G w y n ys) (hc : n ≤ c) (hm : c ≤ maxLen) (hnil : y = none → n = 0 ∧ c = 0) (hb : Bytes ys)
    (hs2 : SIn G w z k zs) (hc2 : k ≤ d) (hm2 : d ≤ maxLen) (hnil2 : z = none → k = 0 ∧ d = 0) (hb2 : Bytes zs) :
    LIn G (w.alloc (.cells #[.slice y n c, .slice z k d] 27)) (some ⟨w.heap.size, 0, none⟩) 2 [ys, zs] := by
  refine ⟨rfl, fun _ => ⟨w.heap.size, 0, rfl, by rw [World.size_alloc]; omega, hG, fun i hi => ?_⟩⟩
  match i, hi with
  | 0, _ => exact RowInG.of (y := y) (n := n) (c := c) (by simp) (hs.off (F := fun _ => False) ((Off.refl _ _).alloc _) (fun _ _ _ h => h)) hc hm hnil hb
  | 1, _ => exact RowInG.of (y := z) (n := k) (c := d) (by simp) (hs2.off (F := fun _ => False) ((Off.refl _ _).alloc _) (fun _ _ _ h => h)) hc2 hm2 hnil2 hb2
end Go.Proofs.Ytkkehbebaokdmaa


/- What the statements ask of the program's ideal sealer: by an invariant that its own text gives. -/
namespace Go.Proofs.Ytkkehbebaokdmaa
open Go.RowKit
set_option maxRecDepth 20000

def kv (key : BitVec 64 × BitVec 64) : Value := .agg #[.int .u64 (nv key.1), .int .u64 (nv key.2)]
def nvv (n : Nn) : Value := .agg #[.int .u32 (nv32 n.1), .int .u32 (nv32 n.2.1), .int .u64 (nv n.2.2)]
/-- A slice: so long, so much room. -/
def Fit (x : Option Addr) (n c : Nat) : Prop := n ≤ c ∧ c ≤ maxLen ∧ (x = none → n = 0 ∧ c = 0)
/-- A slice of issues in memory of G, none of it frozen. -/
def IRdG (G : Nat → Prop) (w : World) (x : Option Addr) (n : Nat) (L : List Iss) : Prop := L.length = n ∧ (0 < n → ∃ g o, x = some ⟨g, o, none⟩ ∧ g < w.heap.size ∧ G g ∧ ∀ i, i < n → ∃ c, IssIn G w (L.getD i default) c i ∧ ∀ j u, (issC (L.getD i default) c i)[j]? = some u → w.cell? ⟨g, o + i * 10 + j, none⟩ = some u)
theorem IRdG.rd {G : Nat → Prop} {w : World} {x : Option Addr} {n : Nat} {L : List Iss} (h : IRdG G w x n L) : IRd w x n L :=
  ⟨h.1, fun hn => by
    obtain ⟨g, o, e, hg, _, hr⟩ := h.2 hn
    refine ⟨g, o, e, hg, fun i hi => ?_⟩
    obtain ⟨c, h1, h2⟩ := hr i hi
    exact ⟨c, h1.mono (fun _ _ _ => trivial), h2⟩⟩
/-- Behind a call on an object: what it has now, and what has turned. -/
structure Kept (Inv : (Nat → Prop) → World → Value → OSt → Prop) (F : Nat → Prop) (w : World) (v : Value) (F' : Nat → Prop) (w' : World) (st' : OSt) : Prop where
  inv : Inv F' w' v st'
  sub : ∀ k, F' k → F k ∨ w.heap.size ≤ k
  off : Off F w w'
structure OrcIs (Inv : (Nat → Prop) → World → Value → OSt → Prop) : Prop where
  stay : ∀ {F : Nat → Prop} {w w' : World} {v : Value} {st : OSt}, Inv F w v st → w.heap.size ≤ w'.heap.size → (∀ k, F k → w'.heap[k]? = w.heap[k]?) → Inv F w' v st
  lt : ∀ {F : Nat → Prop} {w : World} {v : Value} {st : OSt}, Inv F w v st → ∀ k, F k → k < w.heap.size
  ptr : ∀ {F : Nat → Prop} {w : World} {v : Value} {st : OSt}, Inv F w v st → ∃ a, v = .pointer (some a)
  make : ∀ w : World, Calls Try.prog 30 #[] w fun e w' => ∃ v F, e = .returned v ∧ Inv F w' v ([], []) ∧ (∀ k, F k → w.heap.size ≤ k) ∧ Below w.heap.size w w'
  sealIn : ∀ (F : Nat → Prop) (v : Value) (L : List Iss) (S : List (List Int)) (key : BitVec 64 × BitVec 64) (nn : Nn) (xs ys : List Int) (x y : Option Addr) (nx ny c d : Nat), nx ≤ 4000 → ny ≤ 4000 → L.length ≤ 10000 → Bytes xs → Bytes ys → Fit x nx c → Fit y ny d → ∀ w : World, Inv F w v (L, S) → SIn (fun k => ¬ F k) w x nx xs → SIn (fun k => ¬ F k) w y ny ys →
    Calls Try.prog 31 #[v, kv key, nvv nn, .slice x nx c, .slice y ny d] w fun e w' => ∃ z cz F', e = .returned (.tuple #[.agg #[.slice z ny cz, .int .u64 18446744073709551615, .int .u64 ((L.length : Int) + 1)], .bool true]) ∧ Kept Inv F w v F' w' (L ++ [⟨key, nn, xs, ys⟩], S) ∧ SIn (fun k => w.heap.size ≤ k ∧ ¬ F' k) w' z ny (outB (L.length + 1) ny) ∧ Fit z ny cz
  openYes : ∀ (F : Nat → Prop) (v : Value) (st : OSt) (q : Ask) (x y : Option Addr) (n m c d i : Nat), st.1.length ≤ 10000 → Bytes q.head → Bytes q.bytes → Fit x n c → Fit y m d → Hit st.1 q i → ∀ w : World, Inv F w v st → SIn (fun k => ¬ F k) w x n q.head → SIn (fun k => ¬ F k) w y m q.bytes →
    Calls Try.prog 32 #[v, kv q.key, nvv q.non, .slice x n c, .agg #[.slice y m d, .int .u64 (nv q.tag.1), .int .u64 (nv q.tag.2)]] w fun e w' => ∃ z cz F', e = .returned (.tuple #[.slice z (st.1.getD i default).data.length cz, .bool true]) ∧ Kept Inv F w v F' w' st ∧ SIn (fun k => w.heap.size ≤ k ∧ ¬ F' k) w' z (st.1.getD i default).data.length (st.1.getD i default).data
  openNo : ∀ (F : Nat → Prop) (v : Value) (st : OSt) (q : Ask) (x y : Option Addr) (n m c d : Nat), st.1.length ≤ 10000 → Bytes q.head → Bytes q.bytes → Fit x n c → Fit y m d → (∀ i, ¬ Hit st.1 q i) → ∀ w : World, Inv F w v st → SIn (fun k => ¬ F k) w x n q.head → SIn (fun k => ¬ F k) w y m q.bytes →
    Calls Try.prog 32 #[v, kv q.key, nvv q.non, .slice x n c, .agg #[.slice y m d, .int .u64 (nv q.tag.1), .int .u64 (nv q.tag.2)]] w fun e w' => ∃ z cz F', e = .returned (.tuple #[.slice z 0 cz, .bool false]) ∧ Kept Inv F w v F' w' st
  sum : ∀ (F : Nat → Prop) (v : Value) (L : List Iss) (S : List (List Int)) (P : List (List Int)) (x : Option Addr) (m c : Nat), m ≤ 1000 → P.flatten.length ≤ 50000 → S.length ≤ 10000 → Fit x m c → ∀ w : World, Inv F w v (L, S) → LIn (fun k => ¬ F k) w x m P →
    Calls Try.prog 33 #[v, .slice x m c] w fun e w' => ∃ F', e = .returned (.agg #[.int .u64 17216961135462248174, .int .u64 (sumIx S P.flatten : Nat)]) ∧ Kept Inv F w v F' w' (L, sumSt S P.flatten)
  issued : ∀ (F : Nat → Prop) (v : Value) (st : OSt), st.1.length ≤ 10000 → ∀ w : World, Inv F w v st →
    Calls Try.prog 34 #[v] w fun e w' => ∃ z cz F', e = .returned (.slice z st.1.length cz) ∧ Kept Inv F w v F' w' st ∧ IRdG (fun k => w.heap.size ≤ k ∧ ¬ F' k) w' z st.1.length st.1 ∧ st.1.length ≤ cz ∧ ∀ k i, w.heap.size ≤ k → w'.frozen? ⟨k, i, none⟩ = false
  twice : ∀ (F : Nat → Prop) (v : Value) (st : OSt) (t : Bool), st.1.length ≤ 10000 → (t = true ↔ Two st.1) → ∀ w : World, Inv F w v st →
    Calls Try.prog 35 #[v] w fun e w' => ∃ F', e = .returned (.bool t) ∧ Kept Inv F w v F' w' st
  sealNil : ∀ (key : BitVec 64 × BitVec 64) (nn : Nn) (x y : Option Addr) (nx ny c d : Nat) (w : World), Calls Try.prog 31 #[.pointer none, kv key, nvv nn, .slice x nx c, .slice y ny d] w fun e w' => (∃ z cz t1 t2, e = .returned (.tuple #[.agg #[.slice z 0 cz, .int .u64 t1, .int .u64 t2], .bool false])) ∧ Below w.heap.size w w'
  openNil : ∀ (key : BitVec 64 × BitVec 64) (nn : Nn) (x y : Option Addr) (nx ny c d : Nat) (t1 t2 : Int) (w : World), Calls Try.prog 32 #[.pointer none, kv key, nvv nn, .slice x nx c, .agg #[.slice y ny d, .int .u64 t1, .int .u64 t2]] w fun e w' => (∃ z cz, e = .returned (.tuple #[.slice z 0 cz, .bool false])) ∧ Below w.heap.size w w'
  sumNil : ∀ (x : Option Addr) (m c : Nat) (w : World), Calls Try.prog 33 #[.pointer none, .slice x m c] w fun e w' => e = .returned (.agg #[.int .u64 0, .int .u64 0]) ∧ Below w.heap.size w w'
  issuedNil : ∀ w : World, Calls Try.prog 34 #[.pointer none] w fun e w' => (∃ z cz, e = .returned (.slice z 0 cz)) ∧ Below w.heap.size w w'
  twiceNil : ∀ w : World, Calls Try.prog 35 #[.pointer none] w fun e w' => e = .returned (.bool false) ∧ Below w.heap.size w w'
theorem OrcIs.keep {Inv : (Nat → Prop) → World → Value → OSt → Prop} (h : OrcIs Inv) {F G : Nat → Prop} {w w' : World} {v : Value} {st : OSt} (hI : Inv F w v st) (hb : Off G w w') (hd : ∀ k, F k → ¬ G k) : Inv F w' v st :=
  h.stay hI hb.size (fun k hk => hb.block k (h.lt hI k hk) (hd k hk))
theorem OrcIs.below {Inv : (Nat → Prop) → World → Value → OSt → Prop} (h : OrcIs Inv) {F : Nat → Prop} {w w' : World} {v : Value} {st : OSt} (hI : Inv F w v st) (hb : Below w.heap.size w w') : Inv F w' v st :=
  h.keep hI (Off.of_below (F := fun _ => False) hb) (fun _ _ h => h)
theorem fit_none : Fit none 0 0 := ⟨Nat.le_refl _, Nat.zero_le _, fun _ => ⟨rfl, rfl⟩⟩
end Go.Proofs.Ytkkehbebaokdmaa
