/- The landed places. -/
import Derived.Test.YtfneckhjhjmopaaGmSaid
import Derived.Test.YtfneckhjhjmopaaRegion
import Derived.Test.YtfneckhjhjmopaaObjA
namespace Go.Proofs.Ytfneckhjhjmopaa
open Go.RowKit
set_option maxRecDepth 20000

def gmPlace (n f i m s : Int) : Int := if gmOk n ∧ 0 ≤ i ∧ i < m then wrap64 (f + wrap64 (i * s)) else -1
theorem gmPlace_of {n f i m s : Int} (h : gmOk n) (hf : 0 ≤ f ∧ f ≤ 100000) (hm : m ≤ 32) (hs : s = 16 ∨ s = 32 ∨ s = 60) : gmPlace n f i m s = if 0 ≤ i ∧ i < m then f + i * s else -1 := by
  unfold gmPlace
  by_cases hi : 0 ≤ i ∧ i < m
  · rw [if_pos ⟨h, hi⟩, if_pos hi]
    rcases hs with rfl | rfl | rfl
    all_goals
      simp only [wrap64]
      omega
  · rw [if_neg (fun e => hi e.2), if_neg hi]
theorem gmPlace_no {n f i m s : Int} (h : ¬ gmOk n) : gmPlace n f i m s = -1 := if_neg fun e => h e.1

theorem igm_is (n : Int) (w : World) : Calls Try.prog 5 #[.int .i64 n] w fun e w' => e = .returned (.bool (gmIs n)) ∧ Below w.heap.size w w' := by
  have hb := Below.refl w.heap.size w
  by_cases h : gmOk n
  · have e : gmIs n = true := decide_eq_true h
    rw [e]
    rcases h with rfl | rfl | rfl
    all_goals
      go_enter Try.func5, Try.ntmps5
      go_wp2
      go_ret
      exact ⟨rfl, hb⟩
  · have e : gmIs n = false := decide_eq_false h
    rw [e]
    have h1 : (n == 4) = false := beq_false_of_ne fun e => h (Or.inl e)
    have h2 : (n == 8) = false := beq_false_of_ne fun e => h (Or.inr (Or.inl e))
    have h3 : (n == 16) = false := beq_false_of_ne fun e => h (Or.inr (Or.inr e))
    clear h
    go_enter Try.func5, Try.ntmps5
    go_wp2
    go_ret
    exact ⟨by first | rfl | simp, hb⟩
theorem igm_area (a : Int) (w : World) : Calls Try.prog 21 #[.int .i64 a] w fun e w' => e = .returned (.bool (decide (a = 0 ∨ a = 1))) ∧ Below w.heap.size w w' := by
  have hb := Below.refl w.heap.size w
  by_cases h0 : a ≥ 0
  · by_cases h1 : a < 2
    · rw [decide_eq_true (show a = 0 ∨ a = 1 by omega)]
      go_enter Try.func21, Try.ntmps21
      go_wp2
      go_ret
      exact ⟨by first | rfl | simp_all, hb⟩
    · rw [decide_eq_false (show ¬ (a = 0 ∨ a = 1) by omega)]
      go_enter Try.func21, Try.ntmps21
      go_wp2
      go_ret
      exact ⟨by first | rfl | simp_all, hb⟩
  · rw [decide_eq_false (show ¬ (a = 0 ∨ a = 1) by omega)]
    go_enter Try.func21, Try.ntmps21
    go_wp2
    go_ret
    exact ⟨by first | rfl | simp_all, hb⟩
theorem igm_nodes (n : Int) (w : World) : Calls Try.prog 25 #[gmv n] w fun e w' => e = .returned (.int .i64 (wrap64 (2 * n))) ∧ Below w.heap.size w w' := by
  have hB : Below w.heap.size w (w.alloc (.cells #[.int .i64 n] 23)) := (Below.refl _ _).alloc (Nat.le_refl _) _
  have bx : CBox 23 (w.alloc (.cells #[.int .i64 n] 23)) w.heap.size #[.int .i64 n] := CBox.new _ _ _
  go_enter Try.func25, Try.ntmps25
  go_wp2
  go_ret
  exact ⟨rfl, hB⟩
set_option maxHeartbeats 1000000 in
theorem igm_place (n f i m s : Int) (w : World) : Calls Try.prog 19 #[gmv n, .int .i64 f, .int .i64 i, .int .i64 m, .int .i64 s] w fun e w' => e = .returned (.int .i64 (gmPlace n f i m s)) ∧ Below w.heap.size w w' := by
  have hI := igm_is n
  have hB : Below w.heap.size w (w.alloc (.cells #[.int .i64 n] 23)) := (Below.refl _ _).alloc (Nat.le_refl _) _
  have bx : CBox 23 (w.alloc (.cells #[.int .i64 n] 23)) w.heap.size #[.int .i64 n] := CBox.new _ _ _
  by_cases h : gmOk n
  · have e : gmIs n = true := decide_eq_true h
    rw [e] at hI
    by_cases h1 : i < 0
    · have e2 : gmPlace n f i m s = -1 := if_neg (fun x => by omega)
      clear h
      go_enter Try.func19, Try.ntmps19
      go_wp2_with fail
      refine (hI _).mono ?_
      rintro e u0 ⟨rfl, hb⟩
      have e0_ := (bx.grown hb).cell 0
      replace hB := hB.trans (hb.mono hB.size)
      clear hb
      go_wp2
      go_ret
      exact ⟨by first | rfl | (rw [e2]; rfl) | (simp_all; done) | (simp_all; rfl), hB⟩
    · by_cases h2 : i ≥ m
      · have e2 : gmPlace n f i m s = -1 := if_neg (fun x => by omega)
        clear h
        go_enter Try.func19, Try.ntmps19
        go_wp2_with fail
        refine (hI _).mono ?_
        rintro e u0 ⟨rfl, hb⟩
        have e0_ := (bx.grown hb).cell 0
        replace hB := hB.trans (hb.mono hB.size)
        clear hb
        go_wp2
        go_ret
        exact ⟨by first | rfl | (rw [e2]; rfl) | (simp_all; done) | (simp_all; rfl), hB⟩
      · have e2 : gmPlace n f i m s = wrap64 (f + wrap64 (i * s)) := if_pos ⟨h, by omega, by omega⟩
        clear h
        go_enter Try.func19, Try.ntmps19
        go_wp2_with fail
        refine (hI _).mono ?_
        rintro e u0 ⟨rfl, hb⟩
        have e0_ := (bx.grown hb).cell 0
        replace hB := hB.trans (hb.mono hB.size)
        clear hb
        go_wp2
        go_ret
        exact ⟨by first | rfl | (rw [e2]; rfl) | (simp_all; done) | (simp_all; rfl), hB⟩
  · have e : gmIs n = false := decide_eq_false h
    rw [e] at hI
    have e2 : gmPlace n f i m s = -1 := if_neg (fun x => h x.1)
    clear h
    go_enter Try.func19, Try.ntmps19
    go_wp2_with fail
    refine (hI _).mono ?_
    rintro e u0 ⟨rfl, hb⟩
    have e0_ := (bx.grown hb).cell 0
    replace hB := hB.trans (hb.mono hB.size)
    clear hb
    go_wp2
    go_ret
    exact ⟨by first | rfl | (rw [e2]; rfl) | (simp_all; done) | (simp_all; rfl), hB⟩
theorem igm_data (n i : Int) (w : World) : Calls Try.prog 7 #[gmv n, .int .i64 i] w fun e w' => e = .returned (.int .i64 (gmData n i)) ∧ Below w.heap.size w w' := by
  have hP := igm_place n 0 i n 32
  have eP : gmPlace n 0 i n 32 = gmData n i := by
    by_cases h : gmOk n
    · rw [gmPlace_of h (by omega) (by rcases h with rfl | rfl | rfl <;> omega) (Or.inr (Or.inl rfl))]
      unfold gmData
      by_cases hi : 0 ≤ i ∧ i < n
      · rw [if_pos hi, if_pos ⟨h, hi⟩]
        omega
      · rw [if_neg hi, if_neg (fun e => hi e.2)]
    · rw [gmPlace_no h]
      exact (if_neg fun e => h e.1).symm
  rw [eP] at hP
  have hB : Below w.heap.size w (w.alloc (.cells #[.int .i64 n] 23)) := (Below.refl _ _).alloc (Nat.le_refl _) _
  have bx : CBox 23 (w.alloc (.cells #[.int .i64 n] 23)) w.heap.size #[.int .i64 n] := CBox.new _ _ _
  go_enter Try.func7, Try.ntmps7
  go_wp2_with fail
  refine (hP _).mono ?_
  rintro e u0 ⟨rfl, hb⟩
  replace hB := hB.trans (hb.mono hB.size)
  go_wp2
  go_ret
  exact ⟨rfl, hB⟩
/-- What a function of an area and a number answers where there are places: this. -/
def GmAt (F : FuncId) (n a : Int) (P : Int → Int) : Prop := ∀ i w, Calls Try.prog F #[gmv n, .int .i64 a, .int .i64 i] w fun e w' => e = .returned (.int .i64 (P i)) ∧ Below w.heap.size w w'
theorem igm_behindL {n a m s : Int} {P : Int → Int} (hF : GmAt 9 n a P) (w : World) : Calls Try.prog 24 #[gmv n, .func (.func 9) #[] #[], .int .i64 a, .int .i64 m, .int .i64 s] w fun e w' => e = .returned (.int .i64 (wrap64 (P (wrap64 (m - 1)) + s))) ∧ Below w.heap.size w w' := by
  have hG := hF (wrap64 (m - 1))
  generalize P (wrap64 (m - 1)) = D at *
  have hB : Below w.heap.size w (w.alloc (.cells #[.int .i64 n] 23)) := (Below.refl _ _).alloc (Nat.le_refl _) _
  have bx : CBox 23 (w.alloc (.cells #[.int .i64 n] 23)) w.heap.size #[.int .i64 n] := CBox.new _ _ _
  go_enter Try.func24, Try.ntmps24
  go_wp2_with fail
  refine (hG _).mono ?_
  rintro e u0 ⟨rfl, hb⟩
  replace hB := hB.trans (hb.mono hB.size)
  go_wp2
  go_ret
  exact ⟨rfl, hB⟩
theorem igm_behindN {n a m s : Int} {P : Int → Int} (hF : GmAt 11 n a P) (w : World) : Calls Try.prog 24 #[gmv n, .func (.func 11) #[] #[], .int .i64 a, .int .i64 m, .int .i64 s] w fun e w' => e = .returned (.int .i64 (wrap64 (P (wrap64 (m - 1)) + s))) ∧ Below w.heap.size w w' := by
  have hG := hF (wrap64 (m - 1))
  generalize P (wrap64 (m - 1)) = D at *
  have hB : Below w.heap.size w (w.alloc (.cells #[.int .i64 n] 23)) := (Below.refl _ _).alloc (Nat.le_refl _) _
  have bx : CBox 23 (w.alloc (.cells #[.int .i64 n] 23)) w.heap.size #[.int .i64 n] := CBox.new _ _ _
  go_enter Try.func24, Try.ntmps24
  go_wp2_with fail
  refine (hG _).mono ?_
  rintro e u0 ⟨rfl, hb⟩
  replace hB := hB.trans (hb.mono hB.size)
  go_wp2
  go_ret
  exact ⟨rfl, hB⟩
def GmBeg (n a : Int) : Prop := ∀ w, Calls Try.prog 22 #[gmv n, .int .i64 a] w fun e w' => (∃ v, e = .returned (.int .i64 v) ∧ (gmOk n → v = 32 * n + 64 * n * a)) ∧ Below w.heap.size w w'
theorem gm_wrap {x : Int} (h0 : -100000 ≤ x) (h1 : x ≤ 100000) : wrap64 x = x := by
  unfold wrap64
  omega
theorem igm_beg0 (n : Int) : GmBeg n 0 := by
  intro w
  have hD := igm_data n (wrap64 (n - 1))
  have eD : gmOk n → wrap64 (gmData n (wrap64 (n - 1)) + 32) = 32 * n + 64 * n * 0 := fun h => by
    have e1 : wrap64 (n - 1) = n - 1 := gm_wrap (by rcases h with rfl | rfl | rfl <;> omega) (by rcases h with rfl | rfl | rfl <;> omega)
    have e2 : gmData n (n - 1) = 32 * (n - 1) := if_pos ⟨h, by rcases h with rfl | rfl | rfl <;> omega, by omega⟩
    rw [e1, e2, gm_wrap (by rcases h with rfl | rfl | rfl <;> omega) (by rcases h with rfl | rfl | rfl <;> omega)]
    omega
  generalize gmData n (wrap64 (n - 1)) = D at *
  have hB : Below w.heap.size w (w.alloc (.cells #[.int .i64 n] 23)) := (Below.refl _ _).alloc (Nat.le_refl _) _
  have bx : CBox 23 (w.alloc (.cells #[.int .i64 n] 23)) w.heap.size #[.int .i64 n] := CBox.new _ _ _
  go_enter Try.func22, Try.ntmps22
  go_wp2_with fail
  refine (hD _).mono ?_
  rintro e u0 ⟨rfl, hb⟩
  replace hB := hB.trans (hb.mono hB.size)
  go_wp2
  go_ret
  exact ⟨⟨_, rfl, eD⟩, hB⟩
set_option maxRecDepth 20000 in
set_option maxHeartbeats 4000000 in
theorem igm_begS (n a : Int) (ha : 1 ≤ a ∧ a ≤ 2) (hF : GmAt 11 n (a - 1) (gmNode n (a - 1))) : GmBeg n a := by
  intro w
  have hN := igm_nodes n
  have hH := igm_behindN (m := wrap64 (2 * n)) (s := 16) hF
  have eD : gmOk n → wrap64 (gmNode n (a - 1) (wrap64 (wrap64 (2 * n) - 1)) + 16) = 32 * n + 64 * n * a := fun h => by
    have ho : a - 1 = 0 ∨ a - 1 = 1 := by omega
    have e0 : wrap64 (2 * n) = 2 * n := gm_wrap (by rcases h with rfl | rfl | rfl <;> omega) (by rcases h with rfl | rfl | rfl <;> omega)
    have e1 : wrap64 (2 * n - 1) = 2 * n - 1 := gm_wrap (by rcases h with rfl | rfl | rfl <;> omega) (by rcases h with rfl | rfl | rfl <;> omega)
    have e2 : gmNode n (a - 1) (2 * n - 1) = 64 * n + 64 * n * (a - 1) + 16 * (2 * n - 1) := if_pos ⟨h, ho, by rcases h with rfl | rfl | rfl <;> omega, by omega⟩
    have e3 : 64 * n * (a - 1) + 64 * n = 64 * n * a := by rw [Int.mul_sub]; omega
    have e4 : 0 ≤ 64 * n * a ∧ 64 * n * a ≤ 2048 := by
      have : a = 1 ∨ a = 2 := by omega
      rcases h with rfl | rfl | rfl <;> rcases this with rfl | rfl <;> omega
    have e5 : 0 ≤ n ∧ n ≤ 16 := by rcases h with rfl | rfl | rfl <;> omega
    rw [e0, e1, e2, gm_wrap (by omega) (by omega)]
    omega
  have ew : wrap64 (a - 1) = a - 1 := gm_wrap (by omega) (by omega)
  have h0 : (a == 0) = false := beq_false_of_ne (by omega)
  generalize gmNode n (a - 1) (wrap64 (wrap64 (2 * n) - 1)) = D at *
  generalize wrap64 (2 * n) = N at *
  clear hF ha
  have hB : Below w.heap.size w (w.alloc (.cells #[.int .i64 n] 23)) := (Below.refl _ _).alloc (Nat.le_refl _) _
  have bx : CBox 23 (w.alloc (.cells #[.int .i64 n] 23)) w.heap.size #[.int .i64 n] := CBox.new _ _ _
  go_enter Try.func22, Try.ntmps22
  go_wp2_with fail
  generalize w.alloc (.cells #[.int .i64 n] 23) = W at *
  refine wp_region_held_drew (S := fun w' => Below W.heap.size W w') (by kernel_rfl) (Below.refl _ _).drew (fun hHeld => ?_)
  simp only [List.size_toArray, List.length_cons, List.length_nil, Nat.zero_add, Nat.reduceAdd]
  refine takeL 0 13 (v := gmv n) rfl rfl (by kernel_rfl) (by kernel_rfl) (by kernel_rfl) (fun _ _ _ h => h) (by rfl) hHeld (fun w hSw => ?_) ?_
  · (try dsimp only at hSw)
    have e0_ := (bx.grown hSw).cell 0
    clear hSw
    go_simp
    try with_reducible rfl
  simp only [List.set_cons_succ, List.set_cons_zero]
  refine takeM 1 14 1 rfl rfl rfl (by kernel_rfl) (by kernel_rfl) (by kernel_rfl) (fun _ _ _ h => h) (by rfl) hHeld rfl ?_
  simp only [List.set_cons_succ, List.set_cons_zero]
  refine takeL 2 15 (v := ?_) rfl rfl (by kernel_rfl) (by kernel_rfl) (by kernel_rfl) (fun _ _ _ h => h) (by rfl) hHeld (fun w hSw => ?_) ?_
  rotate_left 1
  · (try dsimp only at hSw)
    have e0_ := (bx.grown hSw).cell 0
    clear hSw
    go_simp
    try with_reducible rfl
  simp only [List.set_cons_succ, List.set_cons_zero]
  refine takeL 3 16 (v := gmv n) rfl rfl (by kernel_rfl) (by kernel_rfl) (by kernel_rfl) (fun _ _ _ h => h) (by rfl) hHeld (fun w hSw => ?_) ?_
  · (try dsimp only at hSw)
    have e0_ := (bx.grown hSw).cell 0
    clear hSw
    go_simp
    try with_reducible rfl
  simp only [List.set_cons_succ, List.set_cons_zero]
  refine onlyL 4 rfl (by kernel_rfl) (by rfl) (fun K hK => ?_)
  go_wp2_with fail
  refine (hN _).mono ?_
  rintro e v0 ⟨rfl, hb⟩
  have hW0 : Below W.heap.size W v0 := ((Below.refl W.heap.size W).drew).trans (hb.mono ((Below.refl W.heap.size W).drew).size)
  refine hK.out _ _ hW0 (fun hHeld => ?_)
  clear hK K hb
  refine onlyL 5 rfl (by kernel_rfl) (by rfl) (fun K hK => ?_)
  go_wp2_with fail
  refine (hH _).mono ?_
  rintro e v1 ⟨rfl, hb⟩
  have hW1 : Below W.heap.size W v1 := (hW0).trans (hb.mono (hW0).size)
  refine hK.out _ _ hW1 (fun hHeld => ?_)
  clear hK K hb
  refine takeA 6 4 18 rfl rfl rfl (by kernel_rfl) (by kernel_rfl) (by kernel_rfl) (fun _ _ _ h => h) (by rfl) hHeld rfl ?_
  simp only [List.set_cons_succ, List.set_cons_zero]
  refine wpAnyH_done (by kernel_rfl) ?_ _
  go_wp2
  go_ret
  exact ⟨⟨_, rfl, eD⟩, hB.trans (hW1.mono hB.size)⟩
set_option maxRecDepth 20000 in
set_option maxHeartbeats 4000000 in
theorem igm_leafA (n a : Int) (ha : a = 0 ∨ a = 1) (hS : GmBeg n a) : GmAt 9 n a (gmLeaf n a) := by
  intro i w
  have hA := igm_area a
  rw [decide_eq_true ha] at hA
  have eP : ∀ v : Int, (gmOk n → v = 32 * n + 64 * n * a) → gmPlace n v i n 32 = gmLeaf n a i := fun v hv => by
    by_cases h : gmOk n
    · obtain rfl := hv h
      rw [gmPlace_of h (by rcases h with rfl | rfl | rfl <;> omega) (by rcases h with rfl | rfl | rfl <;> omega) (Or.inr (Or.inl rfl))]
      unfold gmLeaf
      by_cases hi : 0 ≤ i ∧ i < n
      · rw [if_pos hi, if_pos ⟨h, ha, hi⟩]
        omega
      · rw [if_neg hi, if_neg (fun e => hi e.2.2)]
    · rw [gmPlace_no h]
      exact (if_neg fun e => h e.1).symm
  clear ha
  have hB : Below w.heap.size w (w.alloc (.cells #[.int .i64 n] 23)) := (Below.refl _ _).alloc (Nat.le_refl _) _
  have bx : CBox 23 (w.alloc (.cells #[.int .i64 n] 23)) w.heap.size #[.int .i64 n] := CBox.new _ _ _
  go_enter Try.func9, Try.ntmps9
  go_wp2_with fail
  refine (hA _).mono ?_
  rintro e u0 ⟨rfl, hb⟩
  replace bx := bx.grown hb
  replace hB := hB.trans (hb.mono hB.size)
  clear hb
  go_wp2_with fail
  refine wp_region_held_drew (S := fun w' => Below u0.heap.size u0 w') (by kernel_rfl) (Below.refl _ _).drew (fun hHeld => ?_)
  simp only [List.size_toArray, List.length_cons, List.length_nil, Nat.zero_add, Nat.reduceAdd]
  refine takeL 0 10 (v := gmv n) rfl rfl (by kernel_rfl) (by kernel_rfl) (by kernel_rfl) (fun _ _ _ h => h) (by rfl) hHeld (fun w hSw => ?_) ?_
  · (try dsimp only at hSw)
    have e0_ := (bx.grown hSw).cell 0
    clear hSw
    go_simp
    try with_reducible rfl
  simp only [List.set_cons_succ, List.set_cons_zero]
  refine takeL 1 11 (v := gmv n) rfl rfl (by kernel_rfl) (by kernel_rfl) (by kernel_rfl) (fun _ _ _ h => h) (by rfl) hHeld (fun w hSw => ?_) ?_
  · (try dsimp only at hSw)
    have e0_ := (bx.grown hSw).cell 0
    clear hSw
    go_simp
    try with_reducible rfl
  simp only [List.set_cons_succ, List.set_cons_zero]
  refine takeM 2 12 1 rfl rfl rfl (by kernel_rfl) (by kernel_rfl) (by kernel_rfl) (fun _ _ _ h => h) (by rfl) hHeld rfl ?_
  simp only [List.set_cons_succ, List.set_cons_zero]
  refine takeM 4 14 2 rfl rfl rfl (by kernel_rfl) (by kernel_rfl) (by kernel_rfl) (fun _ _ _ h => h) (by rfl) hHeld rfl ?_
  simp only [List.set_cons_succ, List.set_cons_zero]
  refine takeL 5 15 (v := ?_) rfl rfl (by kernel_rfl) (by kernel_rfl) (by kernel_rfl) (fun _ _ _ h => h) (by rfl) hHeld (fun w hSw => ?_) ?_
  rotate_left 1
  · (try dsimp only at hSw)
    have e0_ := (bx.grown hSw).cell 0
    clear hSw
    go_simp
    try with_reducible rfl
  simp only [List.set_cons_succ, List.set_cons_zero]
  refine takeL 6 16 (v := .int .i64 n) rfl rfl (by kernel_rfl) (by kernel_rfl) (by kernel_rfl) (fun _ _ _ h => h) (by rfl) hHeld (fun w hSw => ?_) ?_
  · (try dsimp only at hSw)
    have e0_ := (bx.grown hSw).cell 0
    clear hSw
    go_simp
    try with_reducible rfl
  simp only [List.set_cons_succ, List.set_cons_zero]
  refine onlyL 3 rfl (by kernel_rfl) (by rfl) (fun K hK => ?_)
  go_wp2_with fail
  refine (hS _).mono ?_
  rintro e v0 ⟨⟨v, rfl, hv⟩, hb⟩
  have hW0 : Below u0.heap.size u0 v0 := ((Below.refl u0.heap.size u0).drew).trans (hb.mono ((Below.refl u0.heap.size u0).drew).size)
  refine hK.out _ _ hW0 (fun hHeld => ?_)
  clear hK K hb
  refine onlyL 7 rfl (by kernel_rfl) (by rfl) (fun K hK => ?_)
  go_wp2_with fail
  refine (igm_place _ _ _ _ _ _).mono ?_
  rintro e v1 ⟨rfl, hb⟩
  have hW1 : Below u0.heap.size u0 v1 := (hW0).trans (hb.mono (hW0).size)
  refine hK.out _ _ hW1 (fun hHeld => ?_)
  clear hK K hb
  refine takeA 8 6 17 rfl rfl rfl (by kernel_rfl) (by kernel_rfl) (by kernel_rfl) (fun _ _ _ h => h) (by rfl) hHeld rfl ?_
  simp only [List.set_cons_succ, List.set_cons_zero]
  refine wpAnyH_done (by kernel_rfl) ?_ _
  go_wp2
  go_ret
  exact ⟨by rw [eP v hv]; rfl, hB.trans (hW1.mono hB.size)⟩
theorem igm_leafNo (n a : Int) (ha : ¬ (a = 0 ∨ a = 1)) : GmAt 9 n a (gmLeaf n a) := by
  intro i w
  have hA := igm_area a
  rw [decide_eq_false ha] at hA
  have e2 : gmLeaf n a i = -1 := if_neg fun e => ha e.2.1
  rw [e2]
  clear ha
  have hB : Below w.heap.size w (w.alloc (.cells #[.int .i64 n] 23)) := (Below.refl _ _).alloc (Nat.le_refl _) _
  have bx : CBox 23 (w.alloc (.cells #[.int .i64 n] 23)) w.heap.size #[.int .i64 n] := CBox.new _ _ _
  go_enter Try.func9, Try.ntmps9
  go_wp2_with fail
  refine (hA _).mono ?_
  rintro e u0 ⟨rfl, hb⟩
  replace hB := hB.trans (hb.mono hB.size)
  go_wp2
  go_ret
  exact ⟨rfl, hB⟩
set_option maxRecDepth 20000 in
set_option maxHeartbeats 4000000 in
theorem igm_nodeA (n a : Int) (ha : a = 0 ∨ a = 1) (hF : GmAt 9 n a (gmLeaf n a)) : GmAt 11 n a (gmNode n a) := by
  intro i w
  have hA := igm_area a
  rw [decide_eq_true ha] at hA
  have hH := igm_behindL (m := n) (s := 32) hF
  have eP : gmPlace n (wrap64 (gmLeaf n a (wrap64 (n - 1)) + 32)) i (wrap64 (2 * n)) 16 = gmNode n a i := by
    by_cases h : gmOk n
    · have e1 : wrap64 (gmLeaf n a (wrap64 (n - 1)) + 32) = 64 * n + 64 * n * a := by
        have f1 : wrap64 (n - 1) = n - 1 := gm_wrap (by rcases h with rfl | rfl | rfl <;> omega) (by rcases h with rfl | rfl | rfl <;> omega)
        have f2 : gmLeaf n a (n - 1) = 32 * n + 64 * n * a + 32 * (n - 1) := if_pos ⟨h, ha, by rcases h with rfl | rfl | rfl <;> omega, by omega⟩
        have f4 : 0 ≤ 64 * n * a ∧ 64 * n * a ≤ 2048 := by rcases h with rfl | rfl | rfl <;> rcases ha with rfl | rfl <;> omega
        have f5 : 0 ≤ n ∧ n ≤ 16 := by rcases h with rfl | rfl | rfl <;> omega
        rw [f1, f2, gm_wrap (by omega) (by omega)]
        omega
      have e2 : wrap64 (2 * n) = 2 * n := gm_wrap (by rcases h with rfl | rfl | rfl <;> omega) (by rcases h with rfl | rfl | rfl <;> omega)
      rw [e1, e2, gmPlace_of h (by rcases h with rfl | rfl | rfl <;> omega) (by rcases h with rfl | rfl | rfl <;> omega) (Or.inl rfl)]
      unfold gmNode
      by_cases hi : 0 ≤ i ∧ i < 2 * n
      · rw [if_pos hi, if_pos ⟨h, ha, hi⟩]
        omega
      · rw [if_neg hi, if_neg (fun e => hi e.2.2)]
    · rw [gmPlace_no h]
      exact (if_neg fun e => h e.1).symm
  generalize gmLeaf n a (wrap64 (n - 1)) = D at *
  clear hF
  clear ha
  have hB : Below w.heap.size w (w.alloc (.cells #[.int .i64 n] 23)) := (Below.refl _ _).alloc (Nat.le_refl _) _
  have bx : CBox 23 (w.alloc (.cells #[.int .i64 n] 23)) w.heap.size #[.int .i64 n] := CBox.new _ _ _
  go_enter Try.func11, Try.ntmps11
  go_wp2_with fail
  refine (hA _).mono ?_
  rintro e u0 ⟨rfl, hb⟩
  replace bx := bx.grown hb
  replace hB := hB.trans (hb.mono hB.size)
  clear hb
  go_wp2_with fail
  refine wp_region_held_drew (S := fun w' => Below u0.heap.size u0 w') (by kernel_rfl) (Below.refl _ _).drew (fun hHeld => ?_)
  simp only [List.size_toArray, List.length_cons, List.length_nil, Nat.zero_add, Nat.reduceAdd]
  refine takeL 0 10 (v := gmv n) rfl rfl (by kernel_rfl) (by kernel_rfl) (by kernel_rfl) (fun _ _ _ h => h) (by rfl) hHeld (fun w hSw => ?_) ?_
  · (try dsimp only at hSw)
    have e0_ := (bx.grown hSw).cell 0
    clear hSw
    go_simp
    try with_reducible rfl
  simp only [List.set_cons_succ, List.set_cons_zero]
  refine takeL 1 11 (v := gmv n) rfl rfl (by kernel_rfl) (by kernel_rfl) (by kernel_rfl) (fun _ _ _ h => h) (by rfl) hHeld (fun w hSw => ?_) ?_
  · (try dsimp only at hSw)
    have e0_ := (bx.grown hSw).cell 0
    clear hSw
    go_simp
    try with_reducible rfl
  simp only [List.set_cons_succ, List.set_cons_zero]
  refine takeM 2 12 1 rfl rfl rfl (by kernel_rfl) (by kernel_rfl) (by kernel_rfl) (fun _ _ _ h => h) (by rfl) hHeld rfl ?_
  simp only [List.set_cons_succ, List.set_cons_zero]
  refine takeL 3 13 (v := ?_) rfl rfl (by kernel_rfl) (by kernel_rfl) (by kernel_rfl) (fun _ _ _ h => h) (by rfl) hHeld (fun w hSw => ?_) ?_
  rotate_left 1
  · (try dsimp only at hSw)
    have e0_ := (bx.grown hSw).cell 0
    clear hSw
    go_simp
    try with_reducible rfl
  simp only [List.set_cons_succ, List.set_cons_zero]
  refine takeL 4 14 (v := .int .i64 n) rfl rfl (by kernel_rfl) (by kernel_rfl) (by kernel_rfl) (fun _ _ _ h => h) (by rfl) hHeld (fun w hSw => ?_) ?_
  · (try dsimp only at hSw)
    have e0_ := (bx.grown hSw).cell 0
    clear hSw
    go_simp
    try with_reducible rfl
  simp only [List.set_cons_succ, List.set_cons_zero]
  refine takeM 6 16 2 rfl rfl rfl (by kernel_rfl) (by kernel_rfl) (by kernel_rfl) (fun _ _ _ h => h) (by rfl) hHeld rfl ?_
  simp only [List.set_cons_succ, List.set_cons_zero]
  refine takeL 7 17 (v := gmv n) rfl rfl (by kernel_rfl) (by kernel_rfl) (by kernel_rfl) (fun _ _ _ h => h) (by rfl) hHeld (fun w hSw => ?_) ?_
  · (try dsimp only at hSw)
    have e0_ := (bx.grown hSw).cell 0
    clear hSw
    go_simp
    try with_reducible rfl
  simp only [List.set_cons_succ, List.set_cons_zero]
  refine onlyL 5 rfl (by kernel_rfl) (by rfl) (fun K hK => ?_)
  go_wp2_with fail
  refine (hH _).mono ?_
  rintro e v0 ⟨rfl, hb⟩
  have hW0 : Below u0.heap.size u0 v0 := ((Below.refl u0.heap.size u0).drew).trans (hb.mono ((Below.refl u0.heap.size u0).drew).size)
  refine hK.out _ _ hW0 (fun hHeld => ?_)
  clear hK K hb
  refine onlyL 8 rfl (by kernel_rfl) (by rfl) (fun K hK => ?_)
  go_wp2_with fail
  refine (igm_nodes _ _).mono ?_
  rintro e v1 ⟨rfl, hb⟩
  have hW1 : Below u0.heap.size u0 v1 := (hW0).trans (hb.mono (hW0).size)
  refine hK.out _ _ hW1 (fun hHeld => ?_)
  clear hK K hb
  refine onlyL 9 rfl (by kernel_rfl) (by rfl) (fun K hK => ?_)
  go_wp2_with fail
  refine (igm_place _ _ _ _ _ _).mono ?_
  rintro e v2 ⟨rfl, hb⟩
  have hW2 : Below u0.heap.size u0 v2 := (hW1).trans (hb.mono (hW1).size)
  refine hK.out _ _ hW2 (fun hHeld => ?_)
  clear hK K hb
  refine takeA 10 6 19 rfl rfl rfl (by kernel_rfl) (by kernel_rfl) (by kernel_rfl) (fun _ _ _ h => h) (by rfl) hHeld rfl ?_
  simp only [List.set_cons_succ, List.set_cons_zero]
  refine wpAnyH_done (by kernel_rfl) ?_ _
  go_wp2
  go_ret
  exact ⟨by rw [eP]; rfl, hB.trans (hW2.mono hB.size)⟩
theorem igm_nodeNo (n a : Int) (ha : ¬ (a = 0 ∨ a = 1)) : GmAt 11 n a (gmNode n a) := by
  intro i w
  have hA := igm_area a
  rw [decide_eq_false ha] at hA
  have e2 : gmNode n a i = -1 := if_neg fun e => ha e.2.1
  rw [e2]
  clear ha
  have hB : Below w.heap.size w (w.alloc (.cells #[.int .i64 n] 23)) := (Below.refl _ _).alloc (Nat.le_refl _) _
  have bx : CBox 23 (w.alloc (.cells #[.int .i64 n] 23)) w.heap.size #[.int .i64 n] := CBox.new _ _ _
  go_enter Try.func11, Try.ntmps11
  go_wp2_with fail
  refine (hA _).mono ?_
  rintro e u0 ⟨rfl, hb⟩
  replace hB := hB.trans (hb.mono hB.size)
  go_wp2
  go_ret
  exact ⟨rfl, hB⟩
theorem igm_leaf0 (n : Int) : GmAt 9 n 0 (gmLeaf n 0) := igm_leafA n 0 (Or.inl rfl) (igm_beg0 n)
theorem igm_node0 (n : Int) : GmAt 11 n 0 (gmNode n 0) := igm_nodeA n 0 (Or.inl rfl) (igm_leaf0 n)
theorem igm_beg1 (n : Int) : GmBeg n 1 := igm_begS n 1 (by omega) (igm_node0 n)
theorem igm_leaf1 (n : Int) : GmAt 9 n 1 (gmLeaf n 1) := igm_leafA n 1 (Or.inr rfl) (igm_beg1 n)
theorem igm_node1 (n : Int) : GmAt 11 n 1 (gmNode n 1) := igm_nodeA n 1 (Or.inr rfl) (igm_leaf1 n)
theorem igm_beg2 (n : Int) : GmBeg n 2 := igm_begS n 2 (by omega) (igm_node1 n)
theorem igm_leaf (n a : Int) : GmAt 9 n a (gmLeaf n a) := by
  by_cases ha : a = 0 ∨ a = 1
  · rcases ha with rfl | rfl
    · exact igm_leaf0 n
    · exact igm_leaf1 n
  · exact igm_leafNo n a ha
theorem igm_node (n a : Int) : GmAt 11 n a (gmNode n a) := by
  by_cases ha : a = 0 ∨ a = 1
  · rcases ha with rfl | rfl
    · exact igm_node0 n
    · exact igm_node1 n
  · exact igm_nodeNo n a ha
set_option maxRecDepth 20000 in
set_option maxHeartbeats 4000000 in
theorem igm_rec (n i : Int) (w : World) : Calls Try.prog 13 #[gmv n, .int .i64 i] w fun e w' => e = .returned (.int .i64 (gmRec n i)) ∧ Below w.heap.size w w' := by
  have hS := igm_beg2 n
  unfold GmBeg at hS
  have eP : ∀ v : Int, (gmOk n → v = 32 * n + 64 * n * 2) → gmPlace n v i 2 60 = gmRec n i := fun v hv => by
    by_cases h : gmOk n
    · obtain rfl := hv h
      rw [gmPlace_of h (by rcases h with rfl | rfl | rfl <;> omega) (by omega) (Or.inr (Or.inr rfl))]
      unfold gmRec
      by_cases hi : 0 ≤ i ∧ i < 2
      · rw [if_pos hi, if_pos ⟨h, by omega⟩]
        omega
      · rw [if_neg hi, if_neg (fun e => hi (by omega))]
    · rw [gmPlace_no h]
      exact (if_neg fun e => h e.1).symm
  have hB : Below w.heap.size w (w.alloc (.cells #[.int .i64 n] 23)) := (Below.refl _ _).alloc (Nat.le_refl _) _
  have bx : CBox 23 (w.alloc (.cells #[.int .i64 n] 23)) w.heap.size #[.int .i64 n] := CBox.new _ _ _
  go_enter Try.func13, Try.ntmps13
  go_wp2_with fail
  generalize w.alloc (.cells #[.int .i64 n] 23) = W at *
  refine wp_region_held_drew (S := fun w' => Below W.heap.size W w') (by kernel_rfl) (Below.refl _ _).drew (fun hHeld => ?_)
  simp only [List.size_toArray, List.length_cons, List.length_nil, Nat.zero_add, Nat.reduceAdd]
  refine takeL 0 5 (v := gmv n) rfl rfl (by kernel_rfl) (by kernel_rfl) (by kernel_rfl) (fun _ _ _ h => h) (by rfl) hHeld (fun w hSw => ?_) ?_
  · (try dsimp only at hSw)
    have e0_ := (bx.grown hSw).cell 0
    clear hSw
    go_simp
    try with_reducible rfl
  simp only [List.set_cons_succ, List.set_cons_zero]
  refine takeL 1 6 (v := gmv n) rfl rfl (by kernel_rfl) (by kernel_rfl) (by kernel_rfl) (fun _ _ _ h => h) (by rfl) hHeld (fun w hSw => ?_) ?_
  · (try dsimp only at hSw)
    have e0_ := (bx.grown hSw).cell 0
    clear hSw
    go_simp
    try with_reducible rfl
  simp only [List.set_cons_succ, List.set_cons_zero]
  refine takeM 3 8 1 rfl rfl rfl (by kernel_rfl) (by kernel_rfl) (by kernel_rfl) (fun _ _ _ h => h) (by rfl) hHeld rfl ?_
  simp only [List.set_cons_succ, List.set_cons_zero]
  refine onlyL 2 rfl (by kernel_rfl) (by rfl) (fun K hK => ?_)
  go_wp2_with fail
  refine (hS _).mono ?_
  rintro e v0 ⟨⟨v, rfl, hv⟩, hb⟩
  have hW0 : Below W.heap.size W v0 := ((Below.refl W.heap.size W).drew).trans (hb.mono ((Below.refl W.heap.size W).drew).size)
  refine hK.out _ _ hW0 (fun hHeld => ?_)
  clear hK K hb
  refine onlyL 4 rfl (by kernel_rfl) (by rfl) (fun K hK => ?_)
  go_wp2_with fail
  refine (igm_place _ _ _ _ _ _).mono ?_
  rintro e v1 ⟨rfl, hb⟩
  have hW1 : Below W.heap.size W v1 := (hW0).trans (hb.mono (hW0).size)
  refine hK.out _ _ hW1 (fun hHeld => ?_)
  clear hK K hb
  refine takeA 5 4 9 rfl rfl rfl (by kernel_rfl) (by kernel_rfl) (by kernel_rfl) (fun _ _ _ h => h) (by rfl) hHeld rfl ?_
  simp only [List.set_cons_succ, List.set_cons_zero]
  refine wpAnyH_done (by kernel_rfl) ?_ _
  go_wp2
  go_ret
  exact ⟨by rw [eP v hv]; rfl, hB.trans (hW1.mono hB.size)⟩
set_option maxHeartbeats 1000000 in
theorem igm_size (n : Int) (w : World) : Calls Try.prog 15 #[gmv n] w fun e w' => e = .returned (.int .i64 (gmSize n)) ∧ Below w.heap.size w w' := by
  have hI := igm_is n
  have hR := igm_rec n 1
  have hB : Below w.heap.size w (w.alloc (.cells #[.int .i64 n] 23)) := (Below.refl _ _).alloc (Nat.le_refl _) _
  have bx : CBox 23 (w.alloc (.cells #[.int .i64 n] 23)) w.heap.size #[.int .i64 n] := CBox.new _ _ _
  by_cases h : gmOk n
  · have e : gmIs n = true := decide_eq_true h
    rw [e] at hI
    have e2 : wrap64 (gmRec n 1 + 60) = gmSize n := by
      have f2 : gmRec n 1 = 160 * n + 60 * 1 := if_pos ⟨h, Or.inr rfl⟩
      have f3 : gmSize n = 160 * n + 120 := if_pos h
      rw [f2, f3, gm_wrap (by rcases h with rfl | rfl | rfl <;> omega) (by rcases h with rfl | rfl | rfl <;> omega)]
      omega
    clear h
    go_enter Try.func15, Try.ntmps15
    go_wp2_with fail
    refine (hI _).mono ?_
    rintro e u0 ⟨rfl, hb⟩
    have e0_ := (bx.grown hb).cell 0
    replace hB := hB.trans (hb.mono hB.size)
    clear hb
    go_wp2_with fail
    refine (hR _).mono ?_
    rintro e u1 ⟨rfl, hb⟩
    replace hB := hB.trans (hb.mono hB.size)
    clear hb
    go_wp2
    go_ret
    exact ⟨by rw [e2]; rfl, hB⟩
  · have e : gmIs n = false := decide_eq_false h
    rw [e] at hI
    have e2 : gmSize n = 0 := if_neg h
    rw [e2]
    clear h
    go_enter Try.func15, Try.ntmps15
    go_wp2_with fail
    refine (hI _).mono ?_
    rintro e u0 ⟨rfl, hb⟩
    replace hB := hB.trans (hb.mono hB.size)
    clear hb
    go_wp2
    go_ret
    exact ⟨rfl, hB⟩
theorem gm_all : GmAll := ⟨fun n _ => igm_is n, fun n i _ _ => igm_data n i, fun n a i _ _ _ => igm_leaf n a i, fun n a i _ _ _ => igm_node n a i, fun n i _ _ => igm_rec n i, fun n _ => igm_size n⟩
end Go.Proofs.Ytfneckhjhjmopaa
