/- GmIsI TrImA: texts laid together. -/
import Derived.Test.YtkbhkgfchiacbaaM09
import Derived.Test.YtkbhkgfchiacbaaM02
import Derived.Test.YtkbhkgfchiacbaaM11
import Derived.Test.YtkbhkgfchiacbaaM08

/- The landed places: Is. -/
namespace Go.Proofs.Ytkbhkgfchiacbaa
open Go.RowKit
set_option maxRecDepth 20000

theorem igm_is (n : Int) (w : World) : Calls Try.prog 23 #[.int .i64 n] w fun e w' => e = .returned (.bool (gmIs n)) ∧ Below w.heap.size w w' := by
  have hb := Below.refl w.heap.size w
  by_cases h : gmOk n
  · have e : gmIs n = true := decide_eq_true h
    rw [e]
    rcases h with rfl | rfl | rfl
    all_goals
      go_enter Try.func23, Try.ntmps23
      go_wp2
      go_ret
      exact ⟨rfl, hb⟩
  · have e : gmIs n = false := decide_eq_false h
    rw [e]
    have h1 : (n == 4) = false := beq_false_of_ne fun e => h (Or.inl e)
    have h2 : (n == 8) = false := beq_false_of_ne fun e => h (Or.inr (Or.inl e))
    have h3 : (n == 16) = false := beq_false_of_ne fun e => h (Or.inr (Or.inr e))
    clear h
    go_enter Try.func23, Try.ntmps23
    go_wp2
    go_ret
    exact ⟨by first | rfl | simp, hb⟩
end Go.Proofs.Ytkbhkgfchiacbaa


/- The landed trees: leafSum, nodeSum, isTree, slices.Clone. -/
namespace Go.Proofs.Ytkbhkgfchiacbaa
open Go.RowKit
set_option maxRecDepth 20000

section
variable {Inv : (Nat → Prop) → World → Value → LSt → Prop}
theorem LockIs.kept (hL : LockIs Inv) {F : Nat → Prop} {w w' : World} {v : Value} {st : LSt} (h : Inv F w v st) (hb : Below w.heap.size w w') : KeptL Inv F w v F w' st := ⟨hL.below h hb, fun _ h => Or.inl h, Off.of_below hb⟩
theorem KeptL.trans {F H J : Nat → Prop} {a c d : World} {v : Value} {s t : LSt} (h : KeptL Inv F a v H c s) (k : KeptL Inv H c v J d t) : KeptL Inv F a v J d t :=
  ⟨k.inv, fun i hi => (k.sub i hi).elim (h.sub i) (fun e => Or.inr (Nat.le_trans h.off.size e)), h.off.trans k.off (fun i hi => h.sub i hi)⟩
theorem KeptL.put (hL : LockIs Inv) {F F' : Nat → Prop} {w w' w2 : World} {v : Value} {A : Nat} {st : LSt} (h : KeptL Inv F w v F' w' st) (hA : w.heap.size ≤ A) (hG : ¬ F' A) (hp : Off (fun k => k = A) w' w2) : KeptL Inv F w v F' w2 st :=
  ⟨hL.keep h.inv hp (fun _ hk e => hG (e ▸ hk)), h.sub, h.off.trans hp (fun _ e => Or.inr (e ▸ hA))⟩
end
theorem offBox (w : World) (A : Nat) (u v : Value) : Off (fun k => k = A) w ((w.setCell ⟨A, 0, none⟩ u).setCell ⟨A, 1, none⟩ v) := ((Off.refl (fun k => k = A) w).setCell (p := ⟨A, 0, none⟩) (Or.inl rfl) _).setCell (p := ⟨A, 1, none⟩) (Or.inl rfl) _
theorem sin_lit {G : Nat → Prop} (w : World) (z : Int) (hG : G w.heap.size) : SIn G (w.alloc (.cells #[.int .u8 z] 5)) (some ⟨w.heap.size, 0, none⟩) 1 [z] := ⟨rfl, fun _ => ⟨_, 0, rfl, by rw [World.size_alloc]; omega, hG, At.one w z⟩⟩
theorem inewbytes (p : Pr) (w : World) : Calls Try.prog 40 #[.agg #[.int .u64 (nv p.1), .int .u64 (nv p.2)]] w fun e w' => ∃ g, e = .returned (.slice (some ⟨g, 0, none⟩) 16 16) ∧ SIn (fun k => w.heap.size ≤ k) w' (some ⟨g, 0, none⟩) 16 (pairL p) ∧ Below w.heap.size w w' := (bytes_any p.1.toNat p.2.toNat w).mono (by
  rintro e w' ⟨g, rfl, hg, hr, hb⟩
  exact ⟨g, rfl, ⟨pairL_length p, fun _ => ⟨g, 0, rfl, hr.lt, hg, hr.at⟩⟩, hb⟩)
theorem lin_three {G : Nat → Prop} (w : World) {y1 y2 y3 : Option Addr} {n1 n2 n3 c1 c2 c3 : Nat} {l1 l2 l3 : List Int} (hG : G w.heap.size) (s1 : SIn G w y1 n1 l1) (f1 : Fit y1 n1 c1) (b1 : Bytes l1) (s2 : SIn G w y2 n2 l2) (f2 : Fit y2 n2 c2) (b2 : Bytes l2) (s3 : SIn G w y3 n3 l3) (f3 : Fit y3 n3 c3) (b3 : Bytes l3) :
    LIn G (w.alloc (.cells #[.slice y1 n1 c1, .slice y2 n2 c2, .slice y3 n3 c3] 40)) (some ⟨w.heap.size, 0, none⟩) 3 [l1, l2, l3] := by
  have ho : Off (fun _ => False) w (w.alloc (.cells #[.slice y1 n1 c1, .slice y2 n2 c2, .slice y3 n3 c3] 40)) := (Off.refl _ _).alloc _
  refine ⟨rfl, fun _ => ⟨w.heap.size, 0, rfl, by rw [World.size_alloc]; omega, hG, fun i hi => ?_⟩⟩
  match i, hi with
  | 0, _ => exact RowInG.of (y := y1) (n := n1) (c := c1) (by simp) (s1.off ho (fun _ _ _ h => h)) f1.1 f1.2.1 f1.2.2 b1
  | 1, _ => exact RowInG.of (y := y2) (n := n2) (c := c2) (by simp) (s2.off ho (fun _ _ _ h => h)) f2.1 f2.2.1 f2.2.2 b2
  | 2, _ => exact RowInG.of (y := y3) (n := n3) (c := c3) (by simp) (s3.off ho (fun _ _ _ h => h)) f3.1 f3.2.1 f3.2.2 b3
theorem fit_new (g n : Nat) (hn : n ≤ maxLen) : Fit (some ⟨g, 0, none⟩) n n := ⟨Nat.le_refl _, hn, fun e => by cases e⟩
section
variable {Inv : (Nat → Prop) → World → Value → LSt → Prop}
set_option maxHeartbeats 1000000 in
theorem ilow (hL : LockIs Inv) (F : Nat → Prop) (v : Value) (st : LSt) (xs : List Int) (x : Option Addr) (n c : Nat) (hn : n ≤ 4000) (hS : st.sums.length ≤ 10000) (bx : Bytes xs) (fx : Fit x n c) (w : World) (hI : Inv F w v st) (sx : SIn (fun k => ¬ F k) w x n xs) :
    Calls Try.prog 24 #[v, .slice x n c] w fun e w' => e = .returned (.agg #[.int .u64 (nv (st.sumQ (lowZ xs)).1), .int .u64 (nv (st.sumQ (lowZ xs)).2)]) ∧ ∃ F', KeptL Inv F w v F' w' (st.sumS (lowZ xs)) := by
  have hxl := sx.1
  have hlt := hL.lt hI
  obtain ⟨a, rfl⟩ := hL.ptr hI
  obtain ⟨W1, HW1⟩ : ∃ W1, w.alloc (.cells #[.int .u64 0, .int .u64 0] 34) = W1 := ⟨_, rfl⟩
  have bR1 : Box W1 w.heap.size 0 0 := HW1 ▸ Box.new w 0 0
  have hB1 : Below w.heap.size w W1 := HW1 ▸ (Below.refl _ _).alloc (Nat.le_refl _) _
  have hs1 : W1.heap.size = w.heap.size + 1 := by rw [← HW1]; exact World.size_alloc ..
  obtain ⟨W2, HW2⟩ : ∃ W2, W1.alloc (.cells #[.int .u8 0] 5) = W2 := ⟨_, rfl⟩
  have hB2 : Below W1.heap.size W1 W2 := HW2 ▸ (Below.refl _ _).alloc (Nat.le_refl _) _
  have hs2 : W2.heap.size = w.heap.size + 2 := by rw [← HW2, World.size_alloc, hs1]
  have s0 : SIn (fun k => ¬ F k) W2 (some ⟨w.heap.size + 1, 0, none⟩) 1 [0] := by
    have := sin_lit (G := fun k => ¬ F k) W1 0 (fun h => by have := hlt _ h; omega)
    rw [HW2, hs1] at this
    exact this
  have sx2 : SIn (fun k => ¬ F k) W2 x n xs := (sx.off (Off.of_below (F := fun _ => False) hB1) (fun _ _ _ h => h)).off (Off.of_below (F := fun _ => False) hB2) (fun _ _ _ h => h)
  have hl := lin_two (G := fun k => ¬ F k) W2 (fun h => by have := hlt _ h; omega) s0 (Nat.le_refl 1) (by decide) (fun e => by cases e) (by intro z hz; simp at hz; omega) sx2 fx.1 fx.2.1 fx.2.2 bx
  obtain ⟨W3, HW3⟩ : ∃ W3, W2.alloc (.cells #[.slice (some ⟨w.heap.size + 1, 0, none⟩) 1 1, .slice x n c] 40) = W3 := ⟨_, rfl⟩
  have hB3 : Below W2.heap.size W2 W3 := HW3 ▸ (Below.refl _ _).alloc (Nat.le_refl _) _
  rw [HW3, hs2] at hl
  have hB : Below w.heap.size w W3 := hB1.trans ((hB2.trans (hB3.mono hB2.size)).mono hB1.size)
  have bR3 : Box W3 w.heap.size 0 0 := (bR1.grown hB2).grown hB3
  have hfl : ([[0], xs] : List (List Int)).flatten = lowZ xs := by simp [lowZ]
  have hsum := hL.sum F (.pointer (some a)) st [[0], xs] (some ⟨w.heap.size + 2, 0, none⟩) 2 2 (by decide) (by rw [hfl]; simp [lowZ]; omega) hS (fit_new _ 2 (by decide)) W3 (hL.below hI hB) hl
  rw [hfl, st.sumV_Q (lowZ xs) (by omega)] at hsum
  obtain ⟨q, HQ⟩ : ∃ q, Hid (st.sumQ (lowZ xs) = q) := ⟨_, rfl⟩
  rw [HQ.out] at hsum
  obtain ⟨q1, hq1⟩ : ∃ q1, nv q.1 = q1 := ⟨_, rfl⟩
  obtain ⟨q2, hq2⟩ : ∃ q2, nv q.2 = q2 := ⟨_, rfl⟩
  rw [hq1, hq2] at hsum
  have HQ1 := hide' hq1
  have HQ2 := hide' hq2
  have hK0 := hL.kept hI hB
  clear hq1 hq2 sx2 s0 sx hfl hl hB2 hB3 bR1
  go_enter Try.func24, Try.ntmps24
  go_wp2_with fail
  refine hsum.mono ?_
  clear hsum
  rintro e w4 ⟨F4, rfl, hK4⟩
  have hnF : ¬ F4 w.heap.size := fun h => (hK4.sub _ h).elim (fun h => by have := hlt _ h; omega) (fun h => by have := bR3.lt; omega)
  have bR4 : Box w4 w.heap.size 0 0 := off_block bR3 hK4.off (fun h => by have := hlt _ h; omega)
  have hK := hK0.trans hK4
  have hK2 := hK.put hL (Nat.le_refl _) hnF (offBox w4 w.heap.size (.int .u64 q1) (.int .u64 q2))
  have e0 := bR4.c0
  have e1 := bR4.c1
  have e2 := bR4.frozen 0
  have e3 := bR4.frozen 1
  have bR5 := bR4.put2 q1 q2
  clear hK hK0 hK4
  go_wp2
  clear e0 e1 e2 e3
  have r0 := bR5.c0
  have r1 := bR5.c1
  exact bodyPost_ret (v := .agg #[.int .u64 q1, .int .u64 q2]) (by simp [results, Try.results24, go_sem, r0, r1]) rfl ⟨by rw [HQ.out, HQ1.out, HQ2.out], F4, hK2⟩
theorem PQ.c0' {w : World} {g n : Nat} {L : List Pr} (h : PQ w g n L) (i : Nat) {q : Pr} (hq : i < n ∧ L.getD i pr0 = q) : w.cell? ⟨g, i * 2, none⟩ = some (.int .u64 (nv q.1)) := hq.2 ▸ h.c0 hq.1
theorem PQ.c1' {w : World} {g n : Nat} {L : List Pr} (h : PQ w g n L) (i : Nat) {q : Pr} (hq : i < n ∧ L.getD i pr0 = q) : w.cell? ⟨g, i * 2 + 1, none⟩ = some (.int .u64 (nv q.2)) := hq.2 ▸ h.c1 hq.1
set_option maxHeartbeats 2000000 in
theorem ihigh (hL : LockIs Inv) (F : Nat → Prop) (v : Value) (st : LSt) (L : List Pr) (g n c i : Nat) (hin : 2 * i + 1 < n) (hn : n ≤ 100) (hS : st.sums.length ≤ 10000) (w : World) (hI : Inv F w v st) (hq : PQ w g n L) (hg : ¬ F g) :
    Calls Try.prog 25 #[v, .slice (some ⟨g, 0, none⟩) n c, .int .i64 (i : Int)] w fun e w' => e = .returned (.agg #[.int .u64 (nv (st.sumQ (highOf i L)).1), .int .u64 (nv (st.sumQ (highOf i L)).2)]) ∧ ∃ F', KeptL Inv F w v F' w' (st.sumS (highOf i L)) := by
  obtain ⟨A, HA⟩ : ∃ A : Nat, Hid (2 * i = A) := ⟨_, rfl⟩
  obtain ⟨B, HBB⟩ : ∃ B : Nat, Hid (2 * i + 1 = B) := ⟨_, rfl⟩
  have hwA : IntKind.i64.wrap (2 * (i : Int)) = (A : Int) := by
    have := HA.out
    rw [IntKind.wrap_i64]
    omega
  have hwB : IntKind.i64.wrap ((A : Int) + 1) = (B : Int) := by
    have := HA.out
    have := HBB.out
    rw [IntKind.wrap_i64]
    omega
  have hA2 : (A : Int) < n := by
    have := HA.out
    omega
  have hB2 : (B : Int) < n := by
    have := HBB.out
    omega
  obtain ⟨p, hp0⟩ : ∃ p, L.getD A pr0 = p := ⟨_, rfl⟩
  obtain ⟨r, hr0⟩ : ∃ r, L.getD B pr0 = r := ⟨_, rfl⟩
  rw [show highOf i L = highZ p r from by rw [highOf, HBB.out, HA.out, hp0, hr0]]
  have hp : A < n ∧ L.getD A pr0 = p := ⟨by omega, hp0⟩
  have hr : B < n ∧ L.getD B pr0 = r := ⟨by omega, hr0⟩
  clear HA HBB hin hp0 hr0 hn
  have hlt := hL.lt hI
  obtain ⟨a, rfl⟩ := hL.ptr hI
  have bR := Box.new w 0 0
  have hB1 : Below w.heap.size w (w.alloc (.cells #[.int .u64 0, .int .u64 0] 34)) := (Below.refl _ _).alloc (Nat.le_refl _) _
  have hq1 := hq.below hB1
  have hI1 := hL.below hI hB1
  have hK1 := hL.kept hI hB1
  clear hq hI
  obtain ⟨A0, HA0⟩ : ∃ A0, Hid (w.heap.size = A0) := ⟨_, rfl⟩
  replace bR : Box (w.alloc (.cells #[.int .u64 0, .int .u64 0] 34)) A0 0 0 := HA0.out ▸ bR
  replace hlt : ∀ k, F k → k < A0 := HA0.out ▸ hlt
  go_enter Try.func25, Try.ntmps25
  go_wp2_with fail
  rw [HA0.out]
  generalize w.alloc (.cells #[.int .u64 0, .int .u64 0] 34) = wq at *
  refine startX (S := fun w' => Off F wq w') 17 (by kernel_rfl) (Off.refl _ _).drew (fun hHeld => ?_)
  refine moveY 0 7 0 rfl rfl rfl (by kernel_rfl) (by kernel_rfl) (by kernel_rfl) (fun _ _ _ h => h) (by rfl) (by kernel_rfl) (by kernel_rfl) (by decide) hHeld rfl ?_
  simp only [List.set_cons_succ, List.set_cons_zero]
  refine moveY 2 9 1 rfl rfl rfl (by kernel_rfl) (by kernel_rfl) (by kernel_rfl) (fun _ _ _ h => h) (by rfl) (by kernel_rfl) (by kernel_rfl) (by decide) hHeld rfl ?_
  simp only [List.set_cons_succ, List.set_cons_zero]
  refine moveY 3 10 2 rfl rfl rfl (by kernel_rfl) (by kernel_rfl) (by kernel_rfl) (fun _ _ _ h => h) (by rfl) (by kernel_rfl) (by kernel_rfl) (by decide) hHeld rfl ?_
  simp only [List.set_cons_succ, List.set_cons_zero]
  refine takeY 4 11 (v := ?_) rfl rfl (by kernel_rfl) (by kernel_rfl) (by kernel_rfl) (fun _ _ _ h => h) (by rfl) (by kernel_rfl) (by kernel_rfl) (by decide) hHeld (fun w hSw => ?_) ?_
  rotate_left 1
  · (try dsimp only at hSw)
    have e0_ := hwA
    clear hSw
    go_simp
    try with_reducible rfl
  simp only [List.set_cons_succ, List.set_cons_zero]
  refine takeY 5 12 (v := ?_) rfl rfl (by kernel_rfl) (by kernel_rfl) (by kernel_rfl) (fun _ _ _ h => h) (by rfl) (by kernel_rfl) (by kernel_rfl) (by decide) hHeld (fun w hSw => ?_) ?_
  rotate_left 1
  · (try dsimp only at hSw)
    have e0_ := hA2
    clear hSw
    go_simp
    try with_reducible rfl
  simp only [List.set_cons_succ, List.set_cons_zero]
  refine takeY 6 13 (v := ?_) rfl rfl (by kernel_rfl) (by kernel_rfl) (by kernel_rfl) (fun _ _ _ h => h) (by rfl) (by kernel_rfl) (by kernel_rfl) (by decide) hHeld (fun w hSw => ?_) ?_
  rotate_left 1
  · (try dsimp only at hSw)
    have hl_ := hq1.off hSw hg
    have e0_ : w.cell? ⟨g, A * 2, none⟩ = some (.int .u64 (nv p.1)) := hl_.c0' A hp
    have e1_ : w.cell? ⟨g, A * 2 + 1, none⟩ = some (.int .u64 (nv p.2)) := hl_.c1' A hp
    clear hl_
    clear hSw
    go_simp
    try with_reducible rfl
  simp only [List.set_cons_succ, List.set_cons_zero]
  refine moveY 8 15 1 rfl rfl rfl (by kernel_rfl) (by kernel_rfl) (by kernel_rfl) (fun _ _ _ h => h) (by rfl) (by kernel_rfl) (by kernel_rfl) (by decide) hHeld rfl ?_
  simp only [List.set_cons_succ, List.set_cons_zero]
  refine moveY 9 16 2 rfl rfl rfl (by kernel_rfl) (by kernel_rfl) (by kernel_rfl) (fun _ _ _ h => h) (by rfl) (by kernel_rfl) (by kernel_rfl) (by decide) hHeld rfl ?_
  simp only [List.set_cons_succ, List.set_cons_zero]
  refine takeY 10 17 (v := ?_) rfl rfl (by kernel_rfl) (by kernel_rfl) (by kernel_rfl) (fun _ _ _ h => h) (by rfl) (by kernel_rfl) (by kernel_rfl) (by decide) hHeld (fun w hSw => ?_) ?_
  rotate_left 1
  · (try dsimp only at hSw)
    have e0_ := hwA
    clear hSw
    go_simp
    try with_reducible rfl
  simp only [List.set_cons_succ, List.set_cons_zero]
  refine takeY 11 18 (v := ?_) rfl rfl (by kernel_rfl) (by kernel_rfl) (by kernel_rfl) (fun _ _ _ h => h) (by rfl) (by kernel_rfl) (by kernel_rfl) (by decide) hHeld (fun w hSw => ?_) ?_
  rotate_left 1
  · (try dsimp only at hSw)
    have e0_ := hwB
    clear hSw
    go_simp
    try with_reducible rfl
  simp only [List.set_cons_succ, List.set_cons_zero]
  refine takeY 12 19 (v := ?_) rfl rfl (by kernel_rfl) (by kernel_rfl) (by kernel_rfl) (fun _ _ _ h => h) (by rfl) (by kernel_rfl) (by kernel_rfl) (by decide) hHeld (fun w hSw => ?_) ?_
  rotate_left 1
  · (try dsimp only at hSw)
    have e0_ := hB2
    clear hSw
    go_simp
    try with_reducible rfl
  simp only [List.set_cons_succ, List.set_cons_zero]
  refine takeY 13 20 (v := ?_) rfl rfl (by kernel_rfl) (by kernel_rfl) (by kernel_rfl) (fun _ _ _ h => h) (by rfl) (by kernel_rfl) (by kernel_rfl) (by decide) hHeld (fun w hSw => ?_) ?_
  rotate_left 1
  · (try dsimp only at hSw)
    have hl_ := hq1.off hSw hg
    have e0_ : w.cell? ⟨g, B * 2, none⟩ = some (.int .u64 (nv r.1)) := hl_.c0' B hr
    have e1_ : w.cell? ⟨g, B * 2 + 1, none⟩ = some (.int .u64 (nv r.2)) := hl_.c1' B hr
    clear hl_
    clear hSw
    go_simp
    try with_reducible rfl
  simp only [List.set_cons_succ, List.set_cons_zero]
  clear hHeld
  obtain ⟨B0, HB0⟩ : ∃ B0, Hid (wq.heap.size = B0) := ⟨_, hide' rfl⟩
  refine shareW (P := ?Pshr) (Cond := fun w2 (u : Nat) (g1 : Nat) (g2 : Nat) => SIn (fun k => B0 ≤ k) w2 (some ⟨u, 0, none⟩) 1 [1] ∧ SIn (fun k => B0 ≤ k) w2 (some ⟨g1, 0, none⟩) 16 (pairL p) ∧ SIn (fun k => B0 ≤ k) w2 (some ⟨g2, 0, none⟩) 16 (pairL r) ∧ Below B0 wq w2) (fun fin => ?one) ?two
  rotate_left
  case one =>
    refine twoX 1 7 rfl rfl rfl rfl (by kernel_rfl) ?_ ?_
    · have hh : Below wq.heap.size wq wq := Below.refl _ _
      have s0 : SIn (fun k => B0 ≤ k) (wq.alloc (.cells #[.int .u8 1] 5)) (some ⟨wq.heap.size, 0, none⟩) 1 [1] := sin_lit wq 1 (by have := HB0.out; have := hh.size; omega)
      have hl1 : Below wq.heap.size wq (wq.alloc (.cells #[.int .u8 1] 5)) := (Below.refl _ _).alloc (Nat.le_refl _) _
      replace hh := hh.trans (hl1.mono hh.size)
      clear hl1
      go_wp2_with fail
      replace hh := hh.drew
      replace s0 : SIn (fun k => B0 ≤ k) (wq.alloc (.cells #[.int .u8 1] 5)).drew (some ⟨wq.heap.size, 0, none⟩) 1 [1] := s0.off (F := fun _ => False) (Off.refl _ _).drew (fun _ _ _ h => h)
      refine ⟨Off.of_below hh, ?_⟩
      generalize HU : wq.heap.size = u at s0 ⊢
      generalize (wq.alloc (.cells #[.int .u8 1] 5)).drew = w1 at *
      refine onlyX 7 rfl (by kernel_rfl) (by rfl) (fun K hK => ?_)
      go_wp2_with fail
      refine (inewbytes p _).mono ?_
      rintro e w2 ⟨g2, rfl, s2, hb⟩
      replace s0 := s0.off (Off.of_below (F := fun _ => False) hb) (fun _ _ _ h => h)
      replace s2 : SIn (fun k => B0 ≤ k) w2 (some ⟨g2, 0, none⟩) 16 (pairL p) := s2.mono (fun k _ hk => by have := HB0.out; have := hh.size; exact Nat.le_trans (by omega) hk)
      replace hh := hh.trans (hb.mono hh.size)
      refine hK.out _ _ (fun _ => Off.of_below hh) (fun _ => ?_)
      clear hb hK K
      refine onlyX 14 rfl (by kernel_rfl) (by rfl) (fun K hK => ?_)
      go_wp2_with fail
      refine (inewbytes r _).mono ?_
      rintro e w3 ⟨g3, rfl, s3, hb⟩
      replace s0 := s0.off (Off.of_below (F := fun _ => False) hb) (fun _ _ _ h => h)
      replace s2 := s2.off (Off.of_below (F := fun _ => False) hb) (fun _ _ _ h => h)
      replace s3 : SIn (fun k => B0 ≤ k) w3 (some ⟨g3, 0, none⟩) 16 (pairL r) := s3.mono (fun k _ hk => by have := HB0.out; have := hh.size; exact Nat.le_trans (by omega) hk)
      replace hh := hh.trans (hb.mono hh.size)
      refine hK.out _ _ (fun _ => Off.of_below hh) (fun _ => ?_)
      clear hb hK K
      exact fin w3 u g2 g3 ⟨s0, s2, s3, HB0.out ▸ hh⟩
    · have hh : Below wq.heap.size wq wq := Below.refl _ _
      go_wp2_with fail
      refine (inewbytes p _).mono ?_
      rintro e w1 ⟨g1, rfl, s1, hb⟩
      replace hb := (Below.refl _ _).drew.trans hb
      replace s1 : SIn (fun k => wq.heap.size ≤ k) w1 (some ⟨g1, 0, none⟩) 16 (pairL p) := s1
      replace s1 : SIn (fun k => B0 ≤ k) w1 (some ⟨g1, 0, none⟩) 16 (pairL p) := s1.mono (fun k _ hk => by have := HB0.out; have := hh.size; exact Nat.le_trans (by omega) hk)
      replace hh := hh.trans (hb.mono hh.size)
      refine ⟨Off.of_below hh, ?_⟩
      clear hb
      refine twoX 1 14 rfl rfl rfl rfl (by kernel_rfl) ?_ ?_
      · have s0 : SIn (fun k => B0 ≤ k) (w1.alloc (.cells #[.int .u8 1] 5)) (some ⟨w1.heap.size, 0, none⟩) 1 [1] := sin_lit w1 1 (by have := HB0.out; have := hh.size; omega)
        have hl1 : Below w1.heap.size w1 (w1.alloc (.cells #[.int .u8 1] 5)) := (Below.refl _ _).alloc (Nat.le_refl _) _
        replace s1 := s1.off (Off.of_below (F := fun _ => False) hl1) (fun _ _ _ h => h)
        replace hh := hh.trans (hl1.mono hh.size)
        clear hl1
        go_wp2_with fail
        refine ⟨Off.of_below hh, ?_⟩
        generalize w1.heap.size = u at s0 ⊢
        generalize (w1.alloc (.cells #[.int .u8 1] 5)) = w2 at *
        refine onlyX 14 rfl (by kernel_rfl) (by rfl) (fun K hK => ?_)
        go_wp2_with fail
        refine (inewbytes r _).mono ?_
        rintro e w3 ⟨g3, rfl, s3, hb⟩
        replace s0 := s0.off (Off.of_below (F := fun _ => False) hb) (fun _ _ _ h => h)
        replace s1 := s1.off (Off.of_below (F := fun _ => False) hb) (fun _ _ _ h => h)
        replace s3 : SIn (fun k => B0 ≤ k) w3 (some ⟨g3, 0, none⟩) 16 (pairL r) := s3.mono (fun k _ hk => by have := HB0.out; have := hh.size; exact Nat.le_trans (by omega) hk)
        replace hh := hh.trans (hb.mono hh.size)
        refine hK.out _ _ (fun _ => Off.of_below hh) (fun _ => ?_)
        clear hb hK K
        exact fin w3 u g1 g3 ⟨s0, s1, s3, HB0.out ▸ hh⟩
      · go_wp2_with fail
        refine (inewbytes r _).mono ?_
        rintro e w2 ⟨g2, rfl, s2, hb⟩
        replace s1 := s1.off (Off.of_below (F := fun _ => False) hb) (fun _ _ _ h => h)
        replace s2 : SIn (fun k => B0 ≤ k) w2 (some ⟨g2, 0, none⟩) 16 (pairL r) := s2.mono (fun k _ hk => by have := HB0.out; have := hh.size; exact Nat.le_trans (by omega) hk)
        replace hh := hh.trans (hb.mono hh.size)
        refine ⟨Off.of_below hh, ?_⟩
        clear hb
        refine onlyX 1 rfl (by kernel_rfl) (by rfl) (fun K hK => ?_)
        have s0 : SIn (fun k => B0 ≤ k) (w2.alloc (.cells #[.int .u8 1] 5)) (some ⟨w2.heap.size, 0, none⟩) 1 [1] := sin_lit w2 1 (by have := HB0.out; have := hh.size; omega)
        have hl1 : Below w2.heap.size w2 (w2.alloc (.cells #[.int .u8 1] 5)) := (Below.refl _ _).alloc (Nat.le_refl _) _
        replace s1 := s1.off (Off.of_below (F := fun _ => False) hl1) (fun _ _ _ h => h)
        replace s2 := s2.off (Off.of_below (F := fun _ => False) hl1) (fun _ _ _ h => h)
        replace hh := hh.trans (hl1.mono hh.size)
        clear hl1
        go_wp2_with fail
        refine hK.out _ _ (fun _ => Off.of_below hh) (fun _ => ?_)
        clear hK K
        generalize w2.heap.size = u at s0 ⊢
        generalize (w2.alloc (.cells #[.int .u8 1] 5)) = w3 at *
        exact fin w3 u g1 g2 ⟨s0, s1, s2, HB0.out ▸ hh⟩
  rintro w2 u g1 g2 ⟨s0, s1, s2, hh⟩
  obtain rfl := HB0.out
  clear HB0
  have hsz : A0 < wq.heap.size := bR.lt
  have hF : ∀ k, wq.heap.size ≤ k → ¬ F k := fun k h1 h2 => by have := hlt k h2; omega
  have hl := lin_three (G := fun k => ¬ F k) w2 (hF _ hh.size) (s0.mono (fun k _ h => hF k h)) (fit_new _ 1 (by decide)) (by intro z hz; simp at hz; omega) (s1.mono (fun k _ h => hF k h)) (fit_new _ 16 (by decide)) (pairL_bytes p) (s2.mono (fun k _ h => hF k h)) (fit_new _ 16 (by decide)) (pairL_bytes r)
  refine onlyX 15 rfl (by kernel_rfl) (by rfl) (fun K hK => ?_)
  go_wp2_with fail
  have hb3 : Below w2.heap.size w2 (w2.alloc (.cells #[.slice (some ⟨u, 0, none⟩) 1 1, .slice (some ⟨g1, 0, none⟩) 16 16, .slice (some ⟨g2, 0, none⟩) 16 16] 40)) := (Below.refl _ _).alloc (Nat.le_refl _) _
  have h3 := hh.trans (hb3.mono hh.size)
  refine hK.out _ _ (fun _ => Off.of_below h3) (fun _ => ?_)
  clear hK K hb3 s0 s1 s2 hh
  generalize w2.alloc (.cells #[.slice (some ⟨u, 0, none⟩) 1 1, .slice (some ⟨g1, 0, none⟩) 16 16, .slice (some ⟨g2, 0, none⟩) 16 16] 40) = w3 at *
  generalize w2.heap.size = u3 at *
  have hfl : ([[1], pairL p, pairL r] : List (List Int)).flatten = highZ p r := by simp [highZ]
  have hsum := hL.sum F (.pointer (some a)) st [[1], pairL p, pairL r] (some ⟨u3, 0, none⟩) 3 3 (by decide) (by rw [hfl, highZ_length]; decide) hS (fit_new _ 3 (by decide)) w3 (hL.below hI1 h3) hl
  rw [hfl, st.sumV_Q (highZ p r) (by omega)] at hsum
  obtain ⟨q, HQ⟩ : ∃ q, Hid (st.sumQ (highZ p r) = q) := ⟨_, rfl⟩
  rw [HQ.out] at hsum
  obtain ⟨q1, hq1⟩ : ∃ q1, nv q.1 = q1 := ⟨_, rfl⟩
  obtain ⟨q2, hq2⟩ : ∃ q2, nv q.2 = q2 := ⟨_, rfl⟩
  rw [hq1, hq2] at hsum
  have HQ1 := hide' hq1
  have HQ2 := hide' hq2
  clear hq1 hq2 hfl hl
  refine onlyX 16 rfl (by kernel_rfl) (by rfl) (fun K hK => ?_)
  go_wp2_with fail
  refine hsum.mono ?_
  clear hsum
  rintro e w6 ⟨F6, rfl, hK6⟩
  have ho6 : Off F wq w6 := (Off.of_below h3).trans hK6.off (fun _ h => Or.inl h)
  refine hK.out _ _ (fun _ => ho6) (fun _ => ?_)
  clear hK K
  have h3s := h3.size
  have hnF : ¬ F6 A0 := fun h => (hK6.sub _ h).elim (fun h => by have := hlt _ h; omega) (fun h => by omega)
  have bR6 : Box w6 A0 0 0 := off_block bR ho6 (fun h => by have := hlt _ h; omega)
  have hKR := (hK1.trans (hL.kept hI1 h3)).trans hK6
  have hK2 := hKR.put hL (Nat.le_of_eq HA0.out) hnF (offBox w6 A0 (.int .u64 q1) (.int .u64 q2))
  have e0 := bR6.c0
  have e1 := bR6.c1
  have e2 := bR6.frozen 0
  have e3 := bR6.frozen 1
  have bR7 := bR6.put2 q1 q2
  clear hKR
  refine onlyX 17 rfl (by kernel_rfl) (by rfl) (fun K hK => ?_)
  go_wp2_with fail
  clear e0 e1 e2 e3
  refine hK.out _ _ (fun h => absurd rfl h) (fun _ => ?_)
  clear hK K
  refine doneX (by kernel_rfl) ?_ _
  have r0 := bR7.c0
  have r1 := bR7.c1
  go_wp2_with fail
  exact bodyPost_ret (v := .agg #[.int .u64 q1, .int .u64 q2]) (by simp [results, Try.results25, go_sem, r0, r1]) rfl ⟨by rw [HQ.out, HQ1.out, HQ2.out], F6, hK2⟩
end
theorem iis_tree (x : Option Addr) (n c : Nat) (hn : n ≤ 100000) (w : World) : Calls Try.prog 28 #[.slice x n c] w fun e w' => e = .returned (.bool (decide (trOk n))) ∧ Below w.heap.size w w' := by
  have hb := Below.refl w.heap.size w
  have hI := igm_is ((n / 2 : Nat) : Int)
  have h2 : (n : Int).tmod 2 = ((n % 2 : Nat) : Int) := (Int.ofNat_tmod n 2).symm
  have h3 : (n : Int).tdiv 2 = ((n / 2 : Nat) : Int) := (Int.ofNat_tdiv n 2).symm
  have hT : decide (trOk n) = decide (n % 2 = 0 ∧ gmOk ((n / 2 : Nat) : Int)) := decide_eq_decide.2 Iff.rfl
  rw [hT]
  clear hT
  obtain ⟨q, HQ⟩ : ∃ q : Nat, Hid (n / 2 = q) := ⟨_, rfl⟩
  rw [HQ.out] at hI h3 ⊢
  have hw : IntKind.i64.wrap (q : Int) = q := by
    have := HQ.out
    rw [IntKind.wrap_i64]
    omega
  by_cases h0 : n % 2 = 0
  · rw [h0] at h2
    have H0 := hide' h0
    clear h0 hn
    go_enter Try.func28, Try.ntmps28
    go_wp2_with fail
    refine (hI _).mono ?_
    clear hI
    rintro e w1 ⟨rfl, hb1⟩
    go_wp2
    go_ret
    have e : decide (n % 2 = 0 ∧ gmOk (q : Int)) = gmIs (q : Int) := by
      unfold gmIs
      rw [Bool.eq_iff_iff, decide_eq_true_eq, decide_eq_true_eq]
      exact ⟨fun h => h.2, fun h => ⟨H0.out, h⟩⟩
    rw [e]
    exact ⟨rfl, hb1⟩
  · rw [show n % 2 = 1 from by omega] at h2
    have H0 := hide' h0
    clear h0 hn
    go_enter Try.func28, Try.ntmps28
    go_wp2
    go_ret
    have e : decide (n % 2 = 0 ∧ gmOk (q : Int)) = false := decide_eq_false (fun h => H0.out h.1)
    rw [e]
    exact ⟨rfl, hb⟩
theorem pnil_eq (a : Addr) (l c : Nat) (w : World) : (binOp .eql 24 (.slice (some a) l c) (.slice none 0 0)).run Try.prog w = .ok (.bool false) w := by
  simp [binOp, run_equal_slice_nil (P := Try.prog) (w := w) 24 34 (some a) l c Try.underlying24, Result.andThen]
theorem ipclone (x : Option Addr) (n c : Nat) (L : List Pr) (h0 : 0 < n) (hn : n ≤ 1000) (hl : L.length = n) (w : World) (sx : PRow w x n (fun i => L.getD i pr0)) : Calls Try.prog 29 #[.slice x n c] w fun e w' => ∃ g cg, e = .returned (.slice (some ⟨g, 0, none⟩) n cg) ∧ PQ w' g n L ∧ w.heap.size ≤ g ∧ n ≤ cg ∧ cg ≤ maxLen ∧ Below w.heap.size w w' := by
  obtain ⟨bx, ox, rfl, -, -⟩ := sx h0
  have hown := World.ownsRow_lit (base := w.heap.size) (e := 34) (size := 2) w #[] 0 (Nat.le_refl _) (by decide) rfl
  have hbl : Below w.heap.size w (w.alloc (.cells #[] 34)) := (Below.refl _ _).alloc (Nat.le_refl _) _
  have sx0 := sx.grown hbl
  have hnil := fun w => pnil_eq ⟨bx, ox, none⟩ n c w
  go_enter Try.func29, Try.ntmps29
  go_wp2_with (at_builtin; refine wpList_plain rfl fun _ hK => wp_app0 (.tmp 5) (.tmp 6) rfl w.heap.size w.heap.size rfl hown (some ⟨bx, ox, none⟩) n c (fun i => L.getD i pr0) rfl sx0 (by omega) hbl.size ?_)
  intro g cg w1 own1 hb1 hgk
  refine hK _ _ ?_
  have hgb := own_block own1 g rfl
  have hq0 := PQ.of_own hl own1
  have hcg : n ≤ cg ∧ cg ≤ maxLen := by
    obtain ⟨y', c', e, h1, h2, -⟩ := own_is own1
    simp only [Value.slice.injEq] at e
    obtain ⟨-, -, rfl⟩ := e
    exact ⟨h1, h2⟩
  have hB0 : Below w.heap.size w w1 := hbl.trans (hb1.mono (Nat.le_succ _))
  clear hK hown sx0 hnil own1 hb1 hgk hbl
  go_wp2
  go_ret
  exact ⟨_, _, rfl, hq0, hgb, hcg.1, hcg.2, hB0⟩
end Go.Proofs.Ytkbhkgfchiacbaa
