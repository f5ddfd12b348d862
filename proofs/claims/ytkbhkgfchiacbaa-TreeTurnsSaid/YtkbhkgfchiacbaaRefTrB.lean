/- The document's trees: Same, Is, Build. -/
import Derived.Test.YtkbhkgfchiacbaaM11
import Derived.Test.YtkbhkgfchiacbaaM09
import Derived.Test.YtkbhkgfchiacbaaM12
namespace Go.Proofs.Ytkbhkgfchiacbaa
open Go.RowKit
set_option maxRecDepth 20000

theorem KeptR.put' {G G' : Nat → Prop} {w w' w2 : World} {b g n : Nat} {st : LSt} {L : List Pr} (h : KeptR G w b G' w' st) (hq : PQ w' g n L) (hG : ¬ G' g) (hg : w.heap.size ≤ g) (hp : Off (fun k => k = g) w' w2) : KeptR G w b G' w2 st :=
  ⟨h.inv.off hp (fun _ _ hk e => hG (e ▸ hk)), h.sub, h.off.trans hp (fun _ e => Or.inr (e ▸ hg)), h.u.trans (U8.of_off hp (fun _ cur fr hk e => hq.not8 cur fr (e ▸ hk)))⟩
theorem LIn.keptR {G G' : Nat → Prop} {w w' : World} {b B : Nat} {st : LSt} (h : KeptR G w b G' w' st) (hB : B ≤ w.heap.size) {x : Option Addr} {m : Nat} {P : List (List Int)} (hs : LIn (fun k => ¬ G k ∧ k < B) w x m P) : LIn (fun k => ¬ G' k ∧ k < B) w' x m P := by
  have hx : ∀ k, ¬ G k ∧ k < B → ¬ G' k ∧ k < B := fun k hk => ⟨fun hf => (h.sub k hf).elim hk.1 (fun e => by have := hk.2; omega), hk.2⟩
  refine ⟨hs.1, fun hm => ?_⟩
  obtain ⟨c, o, e, hlt, hg, hr⟩ := (hs.off h.off (fun _ _ h => h.1)).2 hm
  refine ⟨c, o, e, hlt, hx _ hg, fun i hi => ?_⟩
  obtain ⟨y, d, h1, h2, h3⟩ := hr i hi
  exact ⟨y, d, h1, h2.mono (fun k _ hk => hx k hk), h3⟩
theorem rtIs (x : Option Addr) (n c : Nat) (hn : n ≤ 100000) (w : World) : Calls Try.prog 19 #[.slice x n c] w fun e w' => e = .returned (.bool (decide (n % 2 = 0 ∧ gmOk ((n / 2 : Nat) : Int)))) ∧ Below w.heap.size w w' := by
  have hb := Below.refl w.heap.size w
  have hI := rgIs ((n / 2 : Nat) : Int)
  have h2 : (n : Int).tmod 2 = ((n % 2 : Nat) : Int) := (Int.ofNat_tmod n 2).symm
  have h3 : (n : Int).tdiv 2 = ((n / 2 : Nat) : Int) := (Int.ofNat_tdiv n 2).symm
  obtain ⟨q, HQ⟩ : ∃ q : Nat, Hid (n / 2 = q) := ⟨_, rfl⟩
  rw [HQ.out] at hI h3 ⊢
  have hw : IntKind.i64.wrap (q : Int) = q := by
    have := HQ.out
    rw [IntKind.wrap_i64]
    omega
  by_cases h0 : n % 2 = 0
  · rw [h0] at h2
    have H0 := hide' h0
    clear h0 hn
    go_enter Try.func19, Try.ntmps19
    go_wp2_with fail
    refine (hI _).mono ?_
    clear hI
    rintro e w1 ⟨rfl, hb1⟩
    go_wp2
    go_ret
    have e : decide (n % 2 = 0 ∧ gmOk (q : Int)) = gmIs (q : Int) := by
      unfold gmIs
      rw [Bool.eq_iff_iff, decide_eq_true_eq, decide_eq_true_eq]
      exact ⟨fun h => h.2, fun h => ⟨H0.out, h⟩⟩
    rw [e]
    exact ⟨rfl, hb1⟩
  · rw [show n % 2 = 1 from by omega] at h2
    have H0 := hide' h0
    clear h0 hn
    go_enter Try.func19, Try.ntmps19
    go_wp2
    go_ret
    have e : decide (n % 2 = 0 ∧ gmOk (q : Int)) = false := decide_eq_false (fun h => H0.out h.1)
    rw [e]
    exact ⟨rfl, hb⟩
set_option maxHeartbeats 1000000 in
theorem rtSame (f : Nat → Pr) (x y : Option Addr) (m c d : Nat) (hm : m ≤ 100000) (w : World) (sx : PRow w x m f) (sy : PRow w y m f) : Calls Try.prog 15 #[.slice x m c, .slice y m d] w fun e w' => e = .returned (.bool true) ∧ Below w.heap.size w w' := by
  go_enter Try.func15, Try.ntmps15
  go_wp2_with fail
  go_loopw [5] (fun i wr => ∃ k : Nat, k ≤ m ∧ i = .int .i64 (k : Int) ∧ Below w.heap.size w wr) (fun i _ => m - (intOf i).toNat)
  case atStart => exact ⟨0, Nat.zero_le _, rfl, Below.refl _ _⟩
  case round =>
    obtain ⟨k, hk, rfl, hb⟩ := hrel
    by_cases hlt : k < m
    · have hlt' : (k : Int) < m := by omega
      have hw : IntKind.i64.wrap ((k : Int) + 1) = (k : Int) + 1 := by
        rw [IntKind.wrap_i64]
        omega
      obtain ⟨gx, ox, rfl, hgx, cx⟩ := (sx.grown hb) (by omega)
      obtain ⟨gy, oy, rfl, hgy, cy⟩ := (sy.grown hb) (by omega)
      replace cx := cx k hlt
      replace cy := cy k hlt
      go_wp2_with fail
      refine startX (S := fun w' => Below wr.heap.size wr w') 8 (by kernel_rfl) (Below.refl _ _).drew (fun hHeld => ?_)
      refine moveY 0 17 0 rfl rfl rfl (by kernel_rfl) (by kernel_rfl) (by kernel_rfl) (fun _ _ _ h => h) (by rfl) (by kernel_rfl) (by kernel_rfl) (by decide) hHeld rfl ?_
      simp only [List.set_cons_succ, List.set_cons_zero]
      refine moveY 1 18 5 rfl rfl rfl (by kernel_rfl) (by kernel_rfl) (by kernel_rfl) (fun _ _ _ h => h) (by rfl) (by kernel_rfl) (by kernel_rfl) (by decide) hHeld rfl ?_
      simp only [List.set_cons_succ, List.set_cons_zero]
      refine takeY 2 19 (v := ?_) rfl rfl (by kernel_rfl) (by kernel_rfl) (by kernel_rfl) (fun _ _ _ h => h) (by rfl) (by kernel_rfl) (by kernel_rfl) (by decide) hHeld (fun w hSw => ?_) ?_
      rotate_left 1
      · (try dsimp only at hSw)
        have e0_ : (k : Int) < m := by omega
        clear hSw
        go_simp
        try with_reducible rfl
      simp only [List.set_cons_succ, List.set_cons_zero]
      refine takeY 3 20 (v := ?_) rfl rfl (by kernel_rfl) (by kernel_rfl) (by kernel_rfl) (fun _ _ _ h => h) (by rfl) (by kernel_rfl) (by kernel_rfl) (by decide) hHeld (fun w hSw => ?_) ?_
      rotate_left 1
      · (try dsimp only at hSw)
        have e0_ : w.cell? ⟨gx, ox + k * 2, none⟩ = some (.int .u64 (nv (f k).1)) := (hSw.cell (p := ⟨gx, ox + k * 2, none⟩) hgx).trans cx.1
        have e1_ : w.cell? ⟨gx, ox + k * 2 + 1, none⟩ = some (.int .u64 (nv (f k).2)) := (hSw.cell (p := ⟨gx, ox + k * 2 + 1, none⟩) hgx).trans cx.2
        clear hSw
        go_simp
        try with_reducible rfl
      simp only [List.set_cons_succ, List.set_cons_zero]
      refine moveY 4 21 1 rfl rfl rfl (by kernel_rfl) (by kernel_rfl) (by kernel_rfl) (fun _ _ _ h => h) (by rfl) (by kernel_rfl) (by kernel_rfl) (by decide) hHeld rfl ?_
      simp only [List.set_cons_succ, List.set_cons_zero]
      refine moveY 5 22 5 rfl rfl rfl (by kernel_rfl) (by kernel_rfl) (by kernel_rfl) (fun _ _ _ h => h) (by rfl) (by kernel_rfl) (by kernel_rfl) (by decide) hHeld rfl ?_
      simp only [List.set_cons_succ, List.set_cons_zero]
      refine takeY 6 23 (v := ?_) rfl rfl (by kernel_rfl) (by kernel_rfl) (by kernel_rfl) (fun _ _ _ h => h) (by rfl) (by kernel_rfl) (by kernel_rfl) (by decide) hHeld (fun w hSw => ?_) ?_
      rotate_left 1
      · (try dsimp only at hSw)
        have e0_ : (k : Int) < m := by omega
        clear hSw
        go_simp
        try with_reducible rfl
      simp only [List.set_cons_succ, List.set_cons_zero]
      refine takeY 7 24 (v := ?_) rfl rfl (by kernel_rfl) (by kernel_rfl) (by kernel_rfl) (fun _ _ _ h => h) (by rfl) (by kernel_rfl) (by kernel_rfl) (by decide) hHeld (fun w hSw => ?_) ?_
      rotate_left 1
      · (try dsimp only at hSw)
        have e0_ : w.cell? ⟨gy, oy + k * 2, none⟩ = some (.int .u64 (nv (f k).1)) := (hSw.cell (p := ⟨gy, oy + k * 2, none⟩) hgy).trans cy.1
        have e1_ : w.cell? ⟨gy, oy + k * 2 + 1, none⟩ = some (.int .u64 (nv (f k).2)) := (hSw.cell (p := ⟨gy, oy + k * 2 + 1, none⟩) hgy).trans cy.2
        clear hSw
        go_simp
        try with_reducible rfl
      simp only [List.set_cons_succ, List.set_cons_zero]
      refine onlyX 8 rfl (by kernel_rfl) (by rfl) (fun K hK => ?_)
      have heq := fun w => eq32 (nv (f k).1) (nv (f k).2) (nv (f k).1) (nv (f k).2) w
      simp only [beq_self_eq_true, Bool.and_self] at heq
      go_wp2_with fail
      refine hK.out _ _ (fun h => absurd rfl h) (fun _ => ?_)
      clear hK K hHeld heq
      refine doneX (by kernel_rfl) ?_ _
      go_wp2
      go_roundw
      case rel => exact ⟨k + 1, by omega, by go_num, hb.drew⟩
      case measure => simp [intOf]; omega
    · have hlt' : ¬ (k : Int) < m := by omega
      go_wp2
      go_ret
      exact ⟨rfl, hb⟩
set_option maxHeartbeats 2000000 in
theorem rtBuild (G : Nat → Prop) (b : Nat) (st : LSt) (P : List (List Int)) (x : Option Addr) (n c : Nat) (hn : gmOk (n : Int)) (hP : ∀ y ∈ P, y.length ≤ 4000) (hS : st.sums.length ≤ 10000) (w : World) (hI : RLInv G w b st) (sx : LIn (fun k => ¬ G k) w x n P) :
    Calls Try.prog 12 #[.pointer (some ⟨b, 0, none⟩), .slice x n c] w fun e w' => ∃ g G', e = .returned (.tuple #[.slice (some ⟨g, 0, none⟩) (2 * n) (2 * n), .bool true]) ∧ KeptR G w b G' w' (tbuild st P).1 ∧ PQ w' g (2 * n) (tbuild st P).2 ∧ ¬ G' g ∧ w.heap.size ≤ g := by
  have hxl := sx.1
  have hlt0 := hI.lt
  have hn16 : 4 ≤ n ∧ n ≤ 16 := by
    rcases hn with h | h | h <;> omega
  have hIs := rgIs (n : Int)
  rw [show gmIs (n : Int) = true from decide_eq_true hn] at hIs
  obtain ⟨N2, HN⟩ : ∃ N2 : Nat, Hid (2 * n = N2) := ⟨_, rfl⟩
  have hw2 : IntKind.i64.wrap (2 * (n : Int)) = (N2 : Int) := by
    have := HN.out
    rw [IntKind.wrap_i64]
    omega
  have hw1 : IntKind.i64.wrap ((n : Int) - 1) = (((n - 1 : Nat)) : Int) := by
    rw [IntKind.wrap_i64]
    omega
  rw [HN.out]
  obtain ⟨M, hmk, hmq⟩ := make_pairs N2 (by have := HN.out; omega)
  obtain ⟨N1, HN1⟩ : ∃ N1 : Nat, Hid (n - 1 = N1) := ⟨_, rfl⟩
  rw [HN1.out] at hw1
  obtain ⟨s0, HS0⟩ : ∃ s0 : TS, Hid ((st, List.replicate N2 pr0) = s0) := ⟨_, rfl⟩
  obtain ⟨R, HR⟩ : ∃ R : TS, Hid (tbuild st P = R) := ⟨_, rfl⟩
  rw [HR.out]
  have HB : Hid (R = highs n N1 (lows P n n s0)) := hide' (by rw [← HR.out, tbuild, hxl, HN1.out, HN.out, HS0.out])
  have hsn : ¬ n = 0 := by omega
  clear hn
  go_enter Try.func12, Try.ntmps12
  go_wp2_with fail
  refine (hIs _).mono ?_
  clear hIs
  rintro e w0 ⟨rfl, hb0⟩
  have hbm : Below w0.heap.size w0 (w0.alloc (.cells M 34)) := (Below.refl _ _).alloc (Nat.le_refl _) _
  have hq0 := hmq w0
  have hB0 : Below w.heap.size w (w0.alloc (.cells M 34)) := hb0.trans (hbm.mono hb0.size)
  have hwg : w.heap.size ≤ w0.heap.size := hb0.size
  go_wp2_with fail
  clear hmk hmq hbm hw2
  generalize w0.alloc (.cells M 34) = w1 at *
  generalize w0.heap.size = g at *
  have hng0 : ¬ G g := fun h => by have := hlt0 g h; omega
  have hK0 : KeptR G w b G w1 st := hI.keptR hB0
  obtain ⟨B0, HB0⟩ : ∃ B0, Hid (w.heap.size = B0) := ⟨_, rfl⟩
  have hBg : B0 ≤ g := HB0.out ▸ hwg
  have sx1 : LIn (fun k => ¬ G k ∧ k < B0) w1 x n P := LIn.keptR hK0 (Nat.le_of_eq HB0.out.symm) ⟨hxl, fun hm => by
    obtain ⟨c', o, e, hl, hg, hr⟩ := sx.2 hm
    exact ⟨c', o, e, hl, ⟨hg, HB0.out ▸ hl⟩, fun i hi => by
      obtain ⟨y, d, h1, h2, h3⟩ := hr i hi
      exact ⟨y, d, h1, h2.mono (fun k hk hx => ⟨hx, HB0.out ▸ hk⟩), h3⟩⟩⟩
  go_loopw [8] (fun i wr => ∃ (k : Nat) (G1 : Nat → Prop), k ≤ n ∧ i = .int .i64 (k : Int) ∧ PQ wr g N2 (lows P n k s0).2 ∧ KeptR G w b G1 wr (lows P n k s0).1 ∧ ¬ G1 g ∧ LIn (fun k => ¬ G1 k ∧ k < B0) wr x n P) (fun i _ => n - (intOf i).toNat)
  case atStart => exact ⟨0, G, Nat.zero_le _, rfl, by rw [← HS0.out]; exact hq0, by rw [← HS0.out]; exact hK0, hng0, sx1⟩
  case round =>
    clear hq0 hK0 hng0 sx1 hB0 hb0
    obtain ⟨k, G1, hk, rfl, hq, hKR, hng, sl⟩ := hrel
    have hsm : (lows P n k s0).1.sums.length ≤ 10100 := by
      have := lows_sums P n k s0
      have e : s0.1.sums.length = st.sums.length := by rw [← HS0.out]
      omega
    by_cases hlt : k < n
    · have hlt' : (k : Int) < n := by omega
      have hw : IntKind.i64.wrap ((k : Int) + 1) = (k : Int) + 1 := by
        rw [IntKind.wrap_i64]
        omega
      obtain ⟨J, HJ⟩ : ∃ J : Nat, Hid (n + k = J) := ⟨_, rfl⟩
      have hwJ : IntKind.i64.wrap ((n : Int) + k) = (J : Int) := by
        have := HJ.out
        rw [IntKind.wrap_i64]
        omega
      have hJ2 : (J : Int) < N2 := by
        have := HJ.out
        have := HN.out
        omega
      obtain ⟨bx, ox, rfl, hbx, hgx, hrx⟩ := sl.2 (by omega)
      obtain ⟨y, cy, cell, sy, fy1, fy2, fy3, by_⟩ := hrx k hlt
      have HS : Hid (lows P n (k + 1) s0 = lowS n k (P.getD k []) (lows P n k s0)) := hide' rfl
      have hyl : (P.getD k []).length ≤ 4000 := by
        rw [List.getD_eq_getElem?_getD, List.getElem?_eq_getElem (by omega), Option.getD_some]
        exact hP _ (List.getElem_mem _)
      obtain ⟨ys, hys⟩ : ∃ ys, P.getD k [] = ys := ⟨_, rfl⟩
      rw [hys] at cell sy fy1 fy3 by_ HS hyl
      obtain ⟨m, hm⟩ : ∃ m, ys.length = m := ⟨_, rfl⟩
      rw [hm] at cell sy fy1 fy3 hyl
      have hlow := rtLow G1 b (lows P n k s0).1 ys y m cy (by omega) (by omega) by_ ⟨fy1, fy2, fy3⟩ wr hKR.inv (sy.mono (fun k _ h => h.1))
      obtain ⟨Q, HQ⟩ : ∃ Q, Hid ((lows P n k s0).1.sumQ (lowZ ys) = Q) := ⟨_, rfl⟩
      rw [HQ.out] at hlow
      clear sy hys hm
      go_wp2_with fail
      refine hlow.mono ?_
      clear hlow cell
      rintro e w2 ⟨rfl, G2, hK2⟩
      have hq2 : PQ w2 g N2 (lows P n k s0).2 := hq.off hK2.off hng
      have hng2 : ¬ G2 g := fun h => (hK2.sub g h).elim hng (fun h => by have := hq.lt; omega)
      have sl2 := LIn.keptR hK2 (Nat.le_trans hBg (Nat.le_of_lt hq.lt)) sl
      have hJn : J < N2 := by omega
      have e0 := hq2.c0 (i := J) hJn
      have e1 := hq2.c1 (i := J) hJn
      have e2 := hq2.frozen (J * 2)
      have e3 := hq2.frozen (J * 2 + 1)
      have hq3 := hq2.put J hJn Q
      have ho3 := PQ.offPut w2 g J (.int .u64 (nv Q.1)) (.int .u64 (nv Q.2))
      have hK3 := (hKR.trans hK2).put' hq2 hng2 hwg ho3
      have sl3 := sl2.off ho3 (fun c _ h e => by have := h.2; omega)
      go_wp2_with fail
      clear e0 e1 e2 e3
      generalize (w2.setCell ⟨g, J * 2, none⟩ (.int .u64 (nv Q.1))).setCell ⟨g, J * 2 + 1, none⟩ (.int .u64 (nv Q.2)) = w3 at *
      go_wp2
      go_roundw
      case rel =>
        refine ⟨k + 1, G2, by omega, by go_num, ?_, ?_, hng2, sl3⟩
        · rw [HS.out, lowS, HQ.out, HJ.out]
          exact hq3
        · rw [HS.out, lowS]
          exact hK3
      case measure => simp [intOf]; omega
    · have hlt' : ¬ (k : Int) < n := by omega
      obtain rfl : k = n := by omega
      obtain ⟨s1, HS1⟩ : ∃ s1, Hid (lows P k k s0 = s1) := ⟨_, rfl⟩
      rw [HS1.out] at hq hKR hsm
      clear sl
      go_wp2_with fail
      go_loopw [9] (fun i wr => ∃ (j m : Nat) (G1 : Nat → Prop), j + m = N1 ∧ i = .int .i64 (j : Int) ∧ PQ wr g N2 (highs k m s1).2 ∧ KeptR G w b G1 wr (highs k m s1).1 ∧ ¬ G1 g) (fun i _ => (intOf i).toNat)
      case atStart => exact ⟨N1, 0, G1, rfl, rfl, hq, hKR, hng⟩
      case round =>
        clear hq hKR hng
        obtain ⟨j, m, G1, hjm, rfl, hq, hKR, hng⟩ := hrel
        have hsm2 : (highs k m s1).1.sums.length ≤ 10200 := by
          have := highs_sums k m s1
          have := HN1.out
          omega
        by_cases hj : 1 ≤ j
        · have hj' : (j : Int) ≥ 1 := by omega
          have hw : IntKind.i64.wrap ((j : Int) - 1) = ((j - 1 : Nat) : Int) := by
            have := HN1.out
            rw [IntKind.wrap_i64]
            omega
          obtain ⟨A, HA⟩ : ∃ A : Nat, Hid (2 * j = A) := ⟨_, rfl⟩
          obtain ⟨B, HBB⟩ : ∃ B : Nat, Hid (2 * j + 1 = B) := ⟨_, rfl⟩
          have hwA : IntKind.i64.wrap (2 * (j : Int)) = (A : Int) := by
            have := HA.out
            have := HN1.out
            rw [IntKind.wrap_i64]
            omega
          have hwB : IntKind.i64.wrap ((A : Int) + 1) = (B : Int) := by
            have := HA.out
            have := HBB.out
            have := HN1.out
            rw [IntKind.wrap_i64]
            omega
          have hAN : A < N2 ∧ B < N2 ∧ j < N2 := by
            have := HA.out
            have := HBB.out
            have := HN1.out
            have := HN.out
            omega
          have HSS : Hid (highs k (m + 1) s1 = highS j (highs k m s1)) := hide' (by rw [highs, show k - 1 - m = j from by have := HN1.out; omega])
          obtain ⟨s, Hs⟩ : ∃ s, Hid (highs k m s1 = s) := ⟨_, rfl⟩
          rw [Hs.out] at hq hKR hsm2 HSS
          have HS : Hid (highs k (m + 1) s1 = (s.1.sumS (highZ (s.2.getD A pr0) (s.2.getD B pr0)), s.2.set j (s.1.sumQ (highZ (s.2.getD A pr0) (s.2.getD B pr0))))) := hide' (by rw [HSS.out, highS, highOf, HBB.out, HA.out])
          obtain ⟨j1, HJ1⟩ : ∃ j1 : Nat, Hid (j - 1 = j1) := ⟨_, rfl⟩
          rw [HJ1.out] at hw
          clear HSS
          go_wp2_with fail
          refine startX (S := fun w' => Off G1 wr w') 16 (by kernel_rfl) (Off.refl _ _).drew (fun hHeld => ?_)
          refine moveY 0 40 7 rfl rfl rfl (by kernel_rfl) (by kernel_rfl) (by kernel_rfl) (fun _ _ _ h => h) (by rfl) (by kernel_rfl) (by kernel_rfl) (by decide) hHeld rfl ?_
          simp only [List.set_cons_succ, List.set_cons_zero]
          refine moveY 1 41 9 rfl rfl rfl (by kernel_rfl) (by kernel_rfl) (by kernel_rfl) (fun _ _ _ h => h) (by rfl) (by kernel_rfl) (by kernel_rfl) (by decide) hHeld rfl ?_
          simp only [List.set_cons_succ, List.set_cons_zero]
          refine moveY 2 42 0 rfl rfl rfl (by kernel_rfl) (by kernel_rfl) (by kernel_rfl) (fun _ _ _ h => h) (by rfl) (by kernel_rfl) (by kernel_rfl) (by decide) hHeld rfl ?_
          simp only [List.set_cons_succ, List.set_cons_zero]
          refine moveY 3 43 7 rfl rfl rfl (by kernel_rfl) (by kernel_rfl) (by kernel_rfl) (fun _ _ _ h => h) (by rfl) (by kernel_rfl) (by kernel_rfl) (by decide) hHeld rfl ?_
          simp only [List.set_cons_succ, List.set_cons_zero]
          refine moveY 4 44 9 rfl rfl rfl (by kernel_rfl) (by kernel_rfl) (by kernel_rfl) (fun _ _ _ h => h) (by rfl) (by kernel_rfl) (by kernel_rfl) (by decide) hHeld rfl ?_
          simp only [List.set_cons_succ, List.set_cons_zero]
          refine takeY 5 45 (v := ?_) rfl rfl (by kernel_rfl) (by kernel_rfl) (by kernel_rfl) (fun _ _ _ h => h) (by rfl) (by kernel_rfl) (by kernel_rfl) (by decide) hHeld (fun w hSw => ?_) ?_
          rotate_left 1
          · (try dsimp only at hSw)
            have e0_ := hwA
            clear hSw
            go_simp
            try with_reducible rfl
          simp only [List.set_cons_succ, List.set_cons_zero]
          refine takeY 6 46 (v := ?_) rfl rfl (by kernel_rfl) (by kernel_rfl) (by kernel_rfl) (fun _ _ _ h => h) (by rfl) (by kernel_rfl) (by kernel_rfl) (by decide) hHeld (fun w hSw => ?_) ?_
          rotate_left 1
          · (try dsimp only at hSw)
            have e0_ : (A : Int) < N2 := by omega
            clear hSw
            go_simp
            try with_reducible rfl
          simp only [List.set_cons_succ, List.set_cons_zero]
          refine takeY 7 47 (v := ?_) rfl rfl (by kernel_rfl) (by kernel_rfl) (by kernel_rfl) (fun _ _ _ h => h) (by rfl) (by kernel_rfl) (by kernel_rfl) (by decide) hHeld (fun w hSw => ?_) ?_
          rotate_left 1
          · (try dsimp only at hSw)
            have hl_ := PQ.off hq hSw hng
            have e0_ : w.cell? ⟨g, A * 2, none⟩ = some (.int .u64 (nv (s.2.getD A pr0).1)) := hl_.c0 (by omega)
            have e1_ : w.cell? ⟨g, A * 2 + 1, none⟩ = some (.int .u64 (nv (s.2.getD A pr0).2)) := hl_.c1 (by omega)
            clear hl_
            clear hSw
            go_simp
            try with_reducible rfl
          simp only [List.set_cons_succ, List.set_cons_zero]
          refine moveY 8 48 7 rfl rfl rfl (by kernel_rfl) (by kernel_rfl) (by kernel_rfl) (fun _ _ _ h => h) (by rfl) (by kernel_rfl) (by kernel_rfl) (by decide) hHeld rfl ?_
          simp only [List.set_cons_succ, List.set_cons_zero]
          refine moveY 9 49 9 rfl rfl rfl (by kernel_rfl) (by kernel_rfl) (by kernel_rfl) (fun _ _ _ h => h) (by rfl) (by kernel_rfl) (by kernel_rfl) (by decide) hHeld rfl ?_
          simp only [List.set_cons_succ, List.set_cons_zero]
          refine takeY 10 50 (v := ?_) rfl rfl (by kernel_rfl) (by kernel_rfl) (by kernel_rfl) (fun _ _ _ h => h) (by rfl) (by kernel_rfl) (by kernel_rfl) (by decide) hHeld (fun w hSw => ?_) ?_
          rotate_left 1
          · (try dsimp only at hSw)
            have e0_ := hwA
            clear hSw
            go_simp
            try with_reducible rfl
          simp only [List.set_cons_succ, List.set_cons_zero]
          refine takeY 11 51 (v := ?_) rfl rfl (by kernel_rfl) (by kernel_rfl) (by kernel_rfl) (fun _ _ _ h => h) (by rfl) (by kernel_rfl) (by kernel_rfl) (by decide) hHeld (fun w hSw => ?_) ?_
          rotate_left 1
          · (try dsimp only at hSw)
            have e0_ := hwB
            clear hSw
            go_simp
            try with_reducible rfl
          simp only [List.set_cons_succ, List.set_cons_zero]
          refine takeY 12 52 (v := ?_) rfl rfl (by kernel_rfl) (by kernel_rfl) (by kernel_rfl) (fun _ _ _ h => h) (by rfl) (by kernel_rfl) (by kernel_rfl) (by decide) hHeld (fun w hSw => ?_) ?_
          rotate_left 1
          · (try dsimp only at hSw)
            have e0_ : (B : Int) < N2 := by omega
            clear hSw
            go_simp
            try with_reducible rfl
          simp only [List.set_cons_succ, List.set_cons_zero]
          refine takeY 13 53 (v := ?_) rfl rfl (by kernel_rfl) (by kernel_rfl) (by kernel_rfl) (fun _ _ _ h => h) (by rfl) (by kernel_rfl) (by kernel_rfl) (by decide) hHeld (fun w hSw => ?_) ?_
          rotate_left 1
          · (try dsimp only at hSw)
            have hl_ := PQ.off hq hSw hng
            have e0_ : w.cell? ⟨g, B * 2, none⟩ = some (.int .u64 (nv (s.2.getD B pr0).1)) := hl_.c0 (by omega)
            have e1_ : w.cell? ⟨g, B * 2 + 1, none⟩ = some (.int .u64 (nv (s.2.getD B pr0).2)) := hl_.c1 (by omega)
            clear hl_
            clear hSw
            go_simp
            try with_reducible rfl
          simp only [List.set_cons_succ, List.set_cons_zero]
          refine onlyX 14 rfl (by kernel_rfl) (by rfl) (fun K hK => ?_)
          go_wp2_with fail
          refine (rtHigh G1 b s.1 (s.2.getD A pr0) (s.2.getD B pr0) (by omega) _ (RLInv.off (F := fun _ => False) hKR.inv (Off.refl _ wr).drew (fun _ _ _ h => h))).mono ?_
          rintro e w2 ⟨rfl, G2, hK2⟩
          replace hK2 : KeptR G1 wr b G2 w2 (s.1.sumS (highZ (s.2.getD A pr0) (s.2.getD B pr0))) := ⟨hK2.inv, hK2.sub, (Off.refl _ wr).drew.trans hK2.off (fun _ h => Or.inl h), hK2.u⟩
          refine hK.out _ _ (fun _ => hK2.off) (fun hHeld => ?_)
          clear hK K
          replace hHeld := hHeld (by decide)
          refine takeY 15 55 (v := ?_) rfl rfl (by kernel_rfl) (by kernel_rfl) (by kernel_rfl) (fun _ _ _ h => h) (by rfl) (by kernel_rfl) (by kernel_rfl) (by decide) hHeld (fun w hSw => ?_) ?_
          rotate_left 1
          · (try dsimp only at hSw)
            have e0_ : (j : Int) < N2 := by omega
            clear hSw
            go_simp
            try with_reducible rfl
          simp only [List.set_cons_succ, List.set_cons_zero]
          clear hHeld
          have hq2 : PQ w2 g N2 s.2 := hq.off hK2.off hng
          have hng2 : ¬ G2 g := fun h => (hK2.sub g h).elim hng (fun h => by have := hq.lt; omega)
          obtain ⟨Q, HQ⟩ : ∃ Q, Hid (s.1.sumQ (highZ (s.2.getD A pr0) (s.2.getD B pr0)) = Q) := ⟨_, rfl⟩
          rw [HQ.out]
          have e0 := hq2.c0 (i := j) (by omega)
          have e1 := hq2.c1 (i := j) (by omega)
          have e2 := hq2.frozen (j * 2)
          have e3 := hq2.frozen (j * 2 + 1)
          refine onlyX 16 rfl (by kernel_rfl) (by rfl) (fun K hK => ?_)
          go_wp2_with fail
          clear e0 e1 e2 e3
          have hq3 := hq2.put j (by omega) Q
          have hK3 := (hKR.trans hK2).put' hq2 hng2 hwg (PQ.offPut w2 g j (.int .u64 (nv Q.1)) (.int .u64 (nv Q.2)))
          refine hK.out _ _ (fun h => absurd rfl h) (fun _ => ?_)
          clear hK K
          refine doneX (by kernel_rfl) ?_ _
          generalize (w2.setCell ⟨g, j * 2, none⟩ (.int .u64 (nv Q.1))).setCell ⟨g, j * 2 + 1, none⟩ (.int .u64 (nv Q.2)) = w3 at *
          go_wp2
          go_roundw
          case rel => exact ⟨j1, m + 1, G2, by have := HJ1.out; omega, rfl, by rw [HS.out, HQ.out]; exact hq3, by rw [HS.out]; exact hK3, hng2⟩
          case measure => have := HJ1.out; simp [intOf]; omega
        · have hj' : ¬ (j : Int) ≥ 1 := by omega
          obtain rfl : m = N1 := by omega
          rw [← HS1.out, ← HB.out] at hq hKR
          go_wp2
          go_ret2
          first | exact ⟨_, _, rfl, hKR, hq, hng, hwg⟩ | exact ⟨_, rfl, _, hKR, hq, hng, hwg⟩
end Go.Proofs.Ytkbhkgfchiacbaa
