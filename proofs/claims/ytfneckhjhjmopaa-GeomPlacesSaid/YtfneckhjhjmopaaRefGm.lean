/- The document's places. -/
import Derived.Test.YtfneckhjhjmopaaGmSaid
namespace Go.Proofs.Ytfneckhjhjmopaa
open Go.RowKit
set_option maxRecDepth 20000

theorem rgOne (b : Bool) (x : Int) (w : World) : Calls Try.prog 20 #[.bool b, .int .i64 x] w fun e w' => e = .returned (.int .i64 (if b = true then x else -1)) ∧ Below w.heap.size w w' := by
  have hb := Below.refl w.heap.size w
  cases b
  · go_enter Try.func20, Try.ntmps20
    go_wp2
    go_ret
    exact ⟨rfl, hb⟩
  · go_enter Try.func20, Try.ntmps20
    go_wp2
    go_ret
    exact ⟨rfl, hb⟩
theorem rgIs (n : Int) (w : World) : Calls Try.prog 6 #[.int .i64 n] w fun e w' => e = .returned (.bool (gmIs n)) ∧ Below w.heap.size w w' := by
  have hb := Below.refl w.heap.size w
  by_cases h : gmOk n
  · have e : gmIs n = true := decide_eq_true h
    rw [e]
    rcases h with rfl | rfl | rfl
    all_goals
      go_enter Try.func6, Try.ntmps6
      go_wp2
      go_ret
      exact ⟨rfl, hb⟩
  · have e : gmIs n = false := decide_eq_false h
    rw [e]
    have h1 : (n == 4) = false := beq_false_of_ne fun e => h (Or.inl e)
    have h2 : (n == 8) = false := beq_false_of_ne fun e => h (Or.inr (Or.inl e))
    have h3 : (n == 16) = false := beq_false_of_ne fun e => h (Or.inr (Or.inr e))
    clear h
    go_enter Try.func6, Try.ntmps6
    go_wp2
    go_ret
    exact ⟨by first | rfl | simp, hb⟩
theorem rgArea (n : Int) (w : World) : Calls Try.prog 23 #[.int .i64 n] w fun e w' => ∃ v, e = .returned (.int .i64 v) ∧ (gmOk n → v = 64 * n) ∧ Below w.heap.size w w' := by
  have hb := Below.refl w.heap.size w
  by_cases h : gmOk n
  · rcases h with rfl | rfl | rfl
    all_goals
      go_enter Try.func23, Try.ntmps23
      go_wp2
      go_ret
      exact ⟨_, rfl, fun _ => rfl, hb⟩
  · go_enter Try.func23, Try.ntmps23
    go_wp2
    go_ret
    exact ⟨_, rfl, fun e => absurd e h, hb⟩
theorem gm_wraps (i : Int) (h0 : 0 ≤ i) (h1 : i < 32) : (IntKind.i64.wrap (i * 32) = 32 * i) ∧ (IntKind.i64.wrap (16 * i) = 16 * i) ∧ (IntKind.i64.wrap (i * 60) = 60 * i) ∧ ∀ k : Int, 0 ≤ k → k ≤ 100000 → IntKind.i64.wrap (k + 32 * i) = k + 32 * i ∧ IntKind.i64.wrap (k + 16 * i) = k + 16 * i ∧ IntKind.i64.wrap (k + 60 * i) = k + 60 * i := by
  refine ⟨?_, ?_, ?_, fun k k0 k1 => ⟨?_, ?_, ?_⟩⟩
  all_goals
    rw [IntKind.wrap_i64]
    omega
set_option maxHeartbeats 1000000 in
theorem rgData (n i : Int) (w : World) : Calls Try.prog 8 #[.int .i64 n, .int .i64 i] w fun e w' => e = .returned (.int .i64 (gmData n i)) ∧ Below w.heap.size w w' := by
  have hB := Below.refl w.heap.size w
  have hI := rgIs n
  by_cases h : gmOk n
  · have e : gmIs n = true := decide_eq_true h
    rw [e] at hI
    by_cases h1 : i ≥ 0
    · by_cases h2 : i < n
      · have e2 : gmData n i = 32 * i := if_pos ⟨h, h1, h2⟩
        obtain ⟨w1, -, -, -⟩ := gm_wraps i h1 (by rcases h with rfl | rfl | rfl <;> omega)
        clear h
        go_enter Try.func8, Try.ntmps8
        go_wp2_with fail
        refine (hI _).mono ?_
        rintro e u0 ⟨rfl, hb⟩
        replace hB := hB.trans (hb.mono hB.size)
        go_wp2_with fail
        refine (rgOne _ _ _).mono ?_
        rintro e u1 ⟨rfl, hb⟩
        replace hB := hB.trans (hb.mono hB.size)
        go_wp2
        go_ret
        exact ⟨by first | rfl | (rw [e2]; rfl) | simp_all, hB⟩
      · have e2 : gmData n i = -1 := if_neg (fun x => h2 x.2.2)
        clear h
        go_enter Try.func8, Try.ntmps8
        go_wp2_with fail
        refine (hI _).mono ?_
        rintro e u0 ⟨rfl, hb⟩
        replace hB := hB.trans (hb.mono hB.size)
        go_wp2_with fail
        refine (rgOne _ _ _).mono ?_
        rintro e u1 ⟨rfl, hb⟩
        replace hB := hB.trans (hb.mono hB.size)
        go_wp2
        go_ret
        exact ⟨by first | rfl | (rw [e2]; rfl) | simp_all, hB⟩
    · have e2 : gmData n i = -1 := if_neg (fun x => h1 x.2.1)
      clear h
      go_enter Try.func8, Try.ntmps8
      go_wp2_with fail
      refine (hI _).mono ?_
      rintro e u0 ⟨rfl, hb⟩
      replace hB := hB.trans (hb.mono hB.size)
      go_wp2_with fail
      refine (rgOne _ _ _).mono ?_
      rintro e u1 ⟨rfl, hb⟩
      replace hB := hB.trans (hb.mono hB.size)
      go_wp2
      go_ret
      exact ⟨by first | rfl | (rw [e2]; rfl) | simp_all, hB⟩
  · have e : gmIs n = false := decide_eq_false h
    rw [e] at hI
    have e2 : gmData n i = -1 := if_neg (fun x => h x.1)
    clear h
    go_enter Try.func8, Try.ntmps8
    go_wp2_with fail
    refine (hI _).mono ?_
    rintro e u0 ⟨rfl, hb⟩
    replace hB := hB.trans (hb.mono hB.size)
    go_wp2_with fail
    refine (rgOne _ _ _).mono ?_
    rintro e u1 ⟨rfl, hb⟩
    replace hB := hB.trans (hb.mono hB.size)
    go_wp2
    go_ret
    exact ⟨by first | rfl | (rw [e2]; rfl) | simp_all, hB⟩
set_option maxHeartbeats 1000000 in
theorem rgLeaf (n a i : Int) (w : World) : Calls Try.prog 10 #[.int .i64 n, .int .i64 a, .int .i64 i] w fun e w' => e = .returned (.int .i64 (gmLeaf n a i)) ∧ Below w.heap.size w w' := by
  have hB := Below.refl w.heap.size w
  have hI := rgIs n
  have hAr := rgArea n
  by_cases h : gmOk n
  · have e : gmIs n = true := decide_eq_true h
    rw [e] at hI
    by_cases ha : a = 0 ∨ a = 1
    · by_cases h1 : i ≥ 0
      · by_cases h2 : i < n
        · have e2 : gmLeaf n a i = 32 * n + 64 * n * a + 32 * i := if_pos ⟨h, ha, h1, h2⟩
          obtain ⟨w1, w2, -, w3⟩ := gm_wraps i h1 (by rcases h with rfl | rfl | rfl <;> omega)
          rcases h with rfl | rfl | rfl <;> rcases ha with rfl | rfl
          all_goals
            go_enter Try.func10, Try.ntmps10
            go_wp2_with fail
            refine (hI _).mono ?_
            rintro e u0 ⟨rfl, hb⟩
            replace hB := hB.trans (hb.mono hB.size)
            go_wp2_with fail
            refine (hAr _).mono ?_
            rintro e u1 ⟨v, rfl, hv, hb⟩
            obtain rfl := hv (by decide)
            replace hB := hB.trans (hb.mono hB.size)
            go_wp2_with fail
            refine (rgOne _ _ _).mono ?_
            rintro e u2 ⟨rfl, hb⟩
            replace hB := hB.trans (hb.mono hB.size)
            go_wp2
            go_ret
            exact ⟨by first | rfl | (rw [e2]; rfl) | simp_all, hB⟩
        · have e2 : gmLeaf n a i = -1 := if_neg (fun x => h2 x.2.2.2)
          clear h
          rcases ha with rfl | rfl
          all_goals
            go_enter Try.func10, Try.ntmps10
            go_wp2_with fail
            refine (hI _).mono ?_
            rintro e u0 ⟨rfl, hb⟩
            replace hB := hB.trans (hb.mono hB.size)
            clear hb
            go_wp2_with fail
            refine (hAr _).mono ?_
            rintro e u1 ⟨v, rfl, -, hb⟩
            replace hB := hB.trans (hb.mono hB.size)
            clear hb
            go_wp2_with fail
            refine (rgOne _ _ _).mono ?_
            rintro e u2 ⟨rfl, hb⟩
            replace hB := hB.trans (hb.mono hB.size)
            go_wp2
            go_ret
            exact ⟨by first | rfl | (rw [e2]; rfl) | simp_all, hB⟩
      · have e2 : gmLeaf n a i = -1 := if_neg (fun x => h1 x.2.2.1)
        clear h
        rcases ha with rfl | rfl
        all_goals
          go_enter Try.func10, Try.ntmps10
          go_wp2_with fail
          refine (hI _).mono ?_
          rintro e u0 ⟨rfl, hb⟩
          replace hB := hB.trans (hb.mono hB.size)
          clear hb
          go_wp2_with fail
          refine (hAr _).mono ?_
          rintro e u1 ⟨v, rfl, -, hb⟩
          replace hB := hB.trans (hb.mono hB.size)
          clear hb
          go_wp2_with fail
          refine (rgOne _ _ _).mono ?_
          rintro e u2 ⟨rfl, hb⟩
          replace hB := hB.trans (hb.mono hB.size)
          go_wp2
          go_ret
          exact ⟨by first | rfl | (rw [e2]; rfl) | simp_all, hB⟩
    · have a0 : (a == 0) = false := beq_false_of_ne fun e => ha (Or.inl e)
      have a1 : (a == 1) = false := beq_false_of_ne fun e => ha (Or.inr e)
      have a2 : ¬ a = 0 := fun e => ha (Or.inl e)
      have a3 : ¬ a = 1 := fun e => ha (Or.inr e)
      have e2 : gmLeaf n a i = -1 := if_neg (fun x => ha x.2.1)
      clear h ha
      go_enter Try.func10, Try.ntmps10
      go_wp2_with fail
      refine (hI _).mono ?_
      rintro e u0 ⟨rfl, hb⟩
      replace hB := hB.trans (hb.mono hB.size)
      clear hb
      go_wp2_with fail
      refine (hAr _).mono ?_
      rintro e u1 ⟨v, rfl, -, hb⟩
      replace hB := hB.trans (hb.mono hB.size)
      clear hb
      go_wp2_with fail
      refine (rgOne _ _ _).mono ?_
      rintro e u2 ⟨rfl, hb⟩
      replace hB := hB.trans (hb.mono hB.size)
      go_wp2
      go_ret
      exact ⟨by first | rfl | (rw [e2]; rfl) | simp_all, hB⟩
  · have e : gmIs n = false := decide_eq_false h
    rw [e] at hI
    have e2 : gmLeaf n a i = -1 := if_neg (fun x => h x.1)
    clear h
    go_enter Try.func10, Try.ntmps10
    go_wp2_with fail
    refine (hI _).mono ?_
    rintro e u0 ⟨rfl, hb⟩
    replace hB := hB.trans (hb.mono hB.size)
    clear hb
    go_wp2_with fail
    refine (hAr _).mono ?_
    rintro e u1 ⟨v, rfl, -, hb⟩
    replace hB := hB.trans (hb.mono hB.size)
    clear hb
    go_wp2_with fail
    refine (rgOne _ _ _).mono ?_
    rintro e u2 ⟨rfl, hb⟩
    replace hB := hB.trans (hb.mono hB.size)
    go_wp2
    go_ret
    exact ⟨by first | rfl | (rw [e2]; rfl) | simp_all, hB⟩
set_option maxHeartbeats 1000000 in
theorem rgNode (n a i : Int) (w : World) : Calls Try.prog 12 #[.int .i64 n, .int .i64 a, .int .i64 i] w fun e w' => e = .returned (.int .i64 (gmNode n a i)) ∧ Below w.heap.size w w' := by
  have hB := Below.refl w.heap.size w
  have hI := rgIs n
  have hAr := rgArea n
  by_cases h : gmOk n
  · have e : gmIs n = true := decide_eq_true h
    rw [e] at hI
    by_cases ha : a = 0 ∨ a = 1
    · by_cases h1 : i ≥ 0
      · by_cases h2 : i < 2 * n
        · have e2 : gmNode n a i = 64 * n + 64 * n * a + 16 * i := if_pos ⟨h, ha, h1, h2⟩
          obtain ⟨w1, w2, -, w3⟩ := gm_wraps i h1 (by rcases h with rfl | rfl | rfl <;> omega)
          rcases h with rfl | rfl | rfl <;> rcases ha with rfl | rfl
          all_goals
            go_enter Try.func12, Try.ntmps12
            go_wp2_with fail
            refine (hI _).mono ?_
            rintro e u0 ⟨rfl, hb⟩
            replace hB := hB.trans (hb.mono hB.size)
            go_wp2_with fail
            refine (hAr _).mono ?_
            rintro e u1 ⟨v, rfl, hv, hb⟩
            obtain rfl := hv (by decide)
            replace hB := hB.trans (hb.mono hB.size)
            go_wp2_with fail
            refine (rgOne _ _ _).mono ?_
            rintro e u2 ⟨rfl, hb⟩
            replace hB := hB.trans (hb.mono hB.size)
            go_wp2
            go_ret
            exact ⟨by first | rfl | (rw [e2]; rfl) | simp_all, hB⟩
        · have e2 : gmNode n a i = -1 := if_neg (fun x => h2 x.2.2.2)
          have hw : IntKind.i64.wrap (2 * n) = 2 * n := by
            rw [IntKind.wrap_i64]
            rcases h with rfl | rfl | rfl <;> decide
          clear h
          rcases ha with rfl | rfl
          all_goals
            go_enter Try.func12, Try.ntmps12
            go_wp2_with fail
            refine (hI _).mono ?_
            rintro e u0 ⟨rfl, hb⟩
            replace hB := hB.trans (hb.mono hB.size)
            clear hb
            go_wp2_with fail
            refine (hAr _).mono ?_
            rintro e u1 ⟨v, rfl, -, hb⟩
            replace hB := hB.trans (hb.mono hB.size)
            clear hb
            go_wp2_with fail
            refine (rgOne _ _ _).mono ?_
            rintro e u2 ⟨rfl, hb⟩
            replace hB := hB.trans (hb.mono hB.size)
            go_wp2
            go_ret
            exact ⟨by first | rfl | (rw [e2]; rfl) | simp_all, hB⟩
      · have e2 : gmNode n a i = -1 := if_neg (fun x => h1 x.2.2.1)
        clear h
        rcases ha with rfl | rfl
        all_goals
          go_enter Try.func12, Try.ntmps12
          go_wp2_with fail
          refine (hI _).mono ?_
          rintro e u0 ⟨rfl, hb⟩
          replace hB := hB.trans (hb.mono hB.size)
          clear hb
          go_wp2_with fail
          refine (hAr _).mono ?_
          rintro e u1 ⟨v, rfl, -, hb⟩
          replace hB := hB.trans (hb.mono hB.size)
          clear hb
          go_wp2_with fail
          refine (rgOne _ _ _).mono ?_
          rintro e u2 ⟨rfl, hb⟩
          replace hB := hB.trans (hb.mono hB.size)
          go_wp2
          go_ret
          exact ⟨by first | rfl | (rw [e2]; rfl) | simp_all, hB⟩
    · have a0 : (a == 0) = false := beq_false_of_ne fun e => ha (Or.inl e)
      have a1 : (a == 1) = false := beq_false_of_ne fun e => ha (Or.inr e)
      have a2 : ¬ a = 0 := fun e => ha (Or.inl e)
      have a3 : ¬ a = 1 := fun e => ha (Or.inr e)
      have e2 : gmNode n a i = -1 := if_neg (fun x => ha x.2.1)
      clear h ha
      go_enter Try.func12, Try.ntmps12
      go_wp2_with fail
      refine (hI _).mono ?_
      rintro e u0 ⟨rfl, hb⟩
      replace hB := hB.trans (hb.mono hB.size)
      clear hb
      go_wp2_with fail
      refine (hAr _).mono ?_
      rintro e u1 ⟨v, rfl, -, hb⟩
      replace hB := hB.trans (hb.mono hB.size)
      clear hb
      go_wp2_with fail
      refine (rgOne _ _ _).mono ?_
      rintro e u2 ⟨rfl, hb⟩
      replace hB := hB.trans (hb.mono hB.size)
      go_wp2
      go_ret
      exact ⟨by first | rfl | (rw [e2]; rfl) | simp_all, hB⟩
  · have e : gmIs n = false := decide_eq_false h
    rw [e] at hI
    have e2 : gmNode n a i = -1 := if_neg (fun x => h x.1)
    clear h
    go_enter Try.func12, Try.ntmps12
    go_wp2_with fail
    refine (hI _).mono ?_
    rintro e u0 ⟨rfl, hb⟩
    replace hB := hB.trans (hb.mono hB.size)
    clear hb
    go_wp2_with fail
    refine (hAr _).mono ?_
    rintro e u1 ⟨v, rfl, -, hb⟩
    replace hB := hB.trans (hb.mono hB.size)
    clear hb
    go_wp2_with fail
    refine (rgOne _ _ _).mono ?_
    rintro e u2 ⟨rfl, hb⟩
    replace hB := hB.trans (hb.mono hB.size)
    go_wp2
    go_ret
    exact ⟨by first | rfl | (rw [e2]; rfl) | simp_all, hB⟩
set_option maxHeartbeats 1000000 in
theorem rgRec (n i : Int) (w : World) : Calls Try.prog 14 #[.int .i64 n, .int .i64 i] w fun e w' => e = .returned (.int .i64 (gmRec n i)) ∧ Below w.heap.size w w' := by
  have hB := Below.refl w.heap.size w
  have hI := rgIs n
  have hAr := rgArea n
  by_cases h : gmOk n
  · have e : gmIs n = true := decide_eq_true h
    rw [e] at hI
    by_cases ha : i = 0 ∨ i = 1
    · have e2 : gmRec n i = 160 * n + 60 * i := if_pos ⟨h, ha⟩
      rcases h with rfl | rfl | rfl <;> rcases ha with rfl | rfl
      all_goals
        go_enter Try.func14, Try.ntmps14
        go_wp2_with fail
        refine (hI _).mono ?_
        rintro e u0 ⟨rfl, hb⟩
        replace hB := hB.trans (hb.mono hB.size)
        clear hb
        go_wp2_with fail
        refine (hAr _).mono ?_
        rintro e u1 ⟨v, rfl, hv, hb⟩
        obtain rfl := hv (by decide)
        replace hB := hB.trans (hb.mono hB.size)
        clear hb
        go_wp2_with fail
        refine (rgOne _ _ _).mono ?_
        rintro e u2 ⟨rfl, hb⟩
        replace hB := hB.trans (hb.mono hB.size)
        go_wp2
        go_ret
        exact ⟨by first | rfl | (rw [e2]; rfl) | simp_all, hB⟩
    · have a0 : (i == 0) = false := beq_false_of_ne fun e => ha (Or.inl e)
      have a1 : (i == 1) = false := beq_false_of_ne fun e => ha (Or.inr e)
      have a2 : ¬ i = 0 := fun e => ha (Or.inl e)
      have a3 : ¬ i = 1 := fun e => ha (Or.inr e)
      have e2 : gmRec n i = -1 := if_neg (fun x => ha x.2)
      clear h ha
      go_enter Try.func14, Try.ntmps14
      go_wp2_with fail
      refine (hI _).mono ?_
      rintro e u0 ⟨rfl, hb⟩
      replace hB := hB.trans (hb.mono hB.size)
      clear hb
      go_wp2_with fail
      refine (hAr _).mono ?_
      rintro e u1 ⟨v, rfl, -, hb⟩
      replace hB := hB.trans (hb.mono hB.size)
      clear hb
      go_wp2_with fail
      refine (rgOne _ _ _).mono ?_
      rintro e u2 ⟨rfl, hb⟩
      replace hB := hB.trans (hb.mono hB.size)
      go_wp2
      go_ret
      exact ⟨by first | rfl | (rw [e2]; rfl) | simp_all, hB⟩
  · have e : gmIs n = false := decide_eq_false h
    rw [e] at hI
    have e2 : gmRec n i = -1 := if_neg (fun x => h x.1)
    clear h
    go_enter Try.func14, Try.ntmps14
    go_wp2_with fail
    refine (hI _).mono ?_
    rintro e u0 ⟨rfl, hb⟩
    replace hB := hB.trans (hb.mono hB.size)
    clear hb
    go_wp2_with fail
    refine (hAr _).mono ?_
    rintro e u1 ⟨v, rfl, -, hb⟩
    replace hB := hB.trans (hb.mono hB.size)
    clear hb
    go_wp2_with fail
    refine (rgOne _ _ _).mono ?_
    rintro e u2 ⟨rfl, hb⟩
    replace hB := hB.trans (hb.mono hB.size)
    go_wp2
    go_ret
    exact ⟨by first | rfl | (rw [e2]; rfl) | simp_all, hB⟩
set_option maxHeartbeats 1000000 in
theorem rgSize (n : Int) (w : World) : Calls Try.prog 16 #[.int .i64 n] w fun e w' => e = .returned (.int .i64 (gmSize n)) ∧ Below w.heap.size w w' := by
  have hB := Below.refl w.heap.size w
  have hI := rgIs n
  have hAr := rgArea n
  by_cases h : gmOk n
  · have e : gmIs n = true := decide_eq_true h
    rw [e] at hI
    have e2 : gmSize n = 160 * n + 120 := if_pos h
    rcases h with rfl | rfl | rfl
    all_goals
      go_enter Try.func16, Try.ntmps16
      go_wp2_with fail
      refine (hI _).mono ?_
      rintro e u0 ⟨rfl, hb⟩
      replace hB := hB.trans (hb.mono hB.size)
      clear hb
      go_wp2_with fail
      refine (hAr _).mono ?_
      rintro e u1 ⟨v, rfl, hv, hb⟩
      obtain rfl := hv (by decide)
      replace hB := hB.trans (hb.mono hB.size)
      clear hb
      go_wp2
      go_ret
      exact ⟨by first | rfl | (rw [e2]; rfl) | simp_all, hB⟩
  · have e : gmIs n = false := decide_eq_false h
    rw [e] at hI
    have e2 : gmSize n = 0 := if_neg h
    clear h hAr
    go_enter Try.func16, Try.ntmps16
    go_wp2_with fail
    refine (hI _).mono ?_
    rintro e u0 ⟨rfl, hb⟩
    replace hB := hB.trans (hb.mono hB.size)
    clear hb
    go_wp2
    go_ret
    exact ⟨by first | rfl | (rw [e2]; rfl) | simp_all, hB⟩
end Go.Proofs.Ytfneckhjhjmopaa
