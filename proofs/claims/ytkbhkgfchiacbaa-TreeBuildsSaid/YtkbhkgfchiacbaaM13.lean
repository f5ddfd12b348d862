/- RefTrT TrBuilds Clean: texts laid together. -/
import Derived.Test.YtkbhkgfchiacbaaRefTrB
import Derived.Test.YtkbhkgfchiacbaaM12
import Derived.WalkKit
import Derived.WalkSpells
import Derived.WalkLawsBesides
import Derived.Handy

/- The document's trees: Turn; what is refused. -/
namespace Go.Proofs.Ytkbhkgfchiacbaa
open Go.RowKit
set_option maxRecDepth 20000

set_option maxHeartbeats 1000000 in
theorem rtBuildNo (v : Value) (x : Option Addr) (n c : Nat) (hn : ¬ gmOk (n : Int)) (w : World) : Calls Try.prog 12 #[v, .slice x n c] w fun e w' => e = .returned (.tuple #[.slice none 0 0, .bool false]) ∧ Below w.heap.size w w' := by
  have hIs := rgIs (n : Int)
  rw [show gmIs (n : Int) = false from decide_eq_false hn] at hIs
  clear hn
  go_enter Try.func12, Try.ntmps12
  go_wp2_with fail
  refine (hIs _).mono ?_
  clear hIs
  rintro e w0 ⟨rfl, hb0⟩
  go_wp2
  go_ret2
  exact ⟨rfl, hb0⟩
set_option maxHeartbeats 1000000 in
theorem rtTurnNo (v : Value) (x y : Option Addr) (n c m d : Nat) (i : Int) (hn2 : n ≤ 100000) (hn : ¬ ((n % 2 = 0 ∧ gmOk ((n / 2 : Nat) : Int)) ∧ 0 ≤ i ∧ i < ((n / 2 : Nat) : Int))) (w : World) : Calls Try.prog 18 #[v, .slice x n c, .int .i64 i, .slice y m d] w fun e w' => e = .returned (.tuple #[.slice none 0 0, .bool false]) ∧ Below w.heap.size w w' := by
  have hIs := rtIs x n c hn2
  have h3 : (n : Int).tdiv 2 = ((n / 2 : Nat) : Int) := (Int.ofNat_tdiv n 2).symm
  obtain ⟨q, HQ⟩ : ∃ q : Nat, Hid (n / 2 = q) := ⟨_, rfl⟩
  rw [HQ.out] at hIs h3 hn
  have hw : IntKind.i64.wrap (q : Int) = q := by
    have := HQ.out
    rw [IntKind.wrap_i64]
    omega
  obtain ⟨ok, hok⟩ : ∃ ok, decide (n % 2 = 0 ∧ gmOk (q : Int)) = ok := ⟨_, rfl⟩
  rw [hok] at hIs
  cases ok
  · clear hn hok hn2
    go_enter Try.func18, Try.ntmps18
    go_wp2_with fail
    refine (hIs _).mono ?_
    clear hIs
    rintro e w0 ⟨rfl, hb0⟩
    go_wp2
    go_ret2
    exact ⟨rfl, hb0⟩
  · have h4 : ¬ (0 ≤ i ∧ i < (q : Int)) := fun h => hn ⟨of_decide_eq_true hok, h⟩
    clear hn hok hn2
    by_cases h0 : i < 0
    · clear h4
      go_enter Try.func18, Try.ntmps18
      go_wp2_with fail
      refine (hIs _).mono ?_
      clear hIs
      rintro e w0 ⟨rfl, hb0⟩
      go_wp2
      go_ret2
      exact ⟨rfl, hb0⟩
    · have h5 : i ≥ (q : Int) := by omega
      clear h4
      go_enter Try.func18, Try.ntmps18
      go_wp2_with fail
      refine (hIs _).mono ?_
      clear hIs
      rintro e w0 ⟨rfl, hb0⟩
      go_wp2
      go_ret2
      exact ⟨rfl, hb0⟩
set_option maxHeartbeats 2000000 in
theorem rtTurn (G : Nat → Prop) (b : Nat) (st : LSt) (L : List Pr) (x y : Option Addr) (n c m d i : Nat) (ys : List Int) (hl : L.length = n) (hn2 : n % 2 = 0) (hn : gmOk ((n / 2 : Nat) : Int)) (hi : i < n / 2) (hS : st.sums.length ≤ 10000) (hm : m ≤ 4000) (by_ : Bytes ys) (fx : Fit x n c) (fy : Fit y m d) (w : World) (hI : RLInv G w b st) (sx : PRow w x n (fun i => L.getD i pr0)) (sy : SIn (fun k => ¬ G k) w y m ys) :
    Calls Try.prog 18 #[.pointer (some ⟨b, 0, none⟩), .slice x n c, .int .i64 (i : Int), .slice y m d] w fun e w' => ∃ g cg G', e = .returned (.tuple #[.slice (some ⟨g, 0, none⟩) n cg, .bool true]) ∧ KeptR G w b G' w' (tturn st L i ys).1 ∧ PQ w' g n (tturn st L i ys).2 ∧ ¬ G' g ∧ w.heap.size ≤ g ∧ n ≤ cg ∧ cg ≤ maxLen := by
  have hlt0 := hI.lt
  have hn16 : 8 ≤ n ∧ n ≤ 32 := by
    rcases hn with h | h | h <;> omega
  have hIs := rtIs x n c (by omega)
  rw [decide_eq_true (show n % 2 = 0 ∧ gmOk ((n / 2 : Nat) : Int) from ⟨hn2, hn⟩)] at hIs
  have h3 : (n : Int).tdiv 2 = ((n / 2 : Nat) : Int) := (Int.ofNat_tdiv n 2).symm
  obtain ⟨R, HR⟩ : ∃ R : TS, Hid (tturn st L i ys = R) := ⟨_, rfl⟩
  rw [HR.out]
  obtain ⟨q, HQ0⟩ : ∃ q : Nat, Hid (n / 2 = q) := ⟨_, rfl⟩
  rw [HQ0.out] at h3 hi
  have HR2 : Hid (R = climb ((q + i) / 2) (lowS q i ys (st, L))) := hide' (by rw [← HR.out, tturn, hl, HQ0.out])
  have hw0 : IntKind.i64.wrap (q : Int) = q := by
    have := HQ0.out
    rw [IntKind.wrap_i64]
    omega
  have hi0 : ¬ (i : Int) < 0 := by omega
  have hi1 : ¬ (i : Int) ≥ q := by omega
  obtain ⟨J, HJ⟩ : ∃ J : Nat, Hid (q + i = J) := ⟨_, rfl⟩
  have hJn : J < n := by
    have := HJ.out
    have := HQ0.out
    omega
  have hwJ : IntKind.i64.wrap ((q : Int) + i) = (J : Int) := by
    have := HJ.out
    rw [IntKind.wrap_i64]
    omega
  obtain ⟨k0, HK0⟩ : ∃ k0 : Nat, Hid (J / 2 = k0) := ⟨_, rfl⟩
  have hd0 : (J : Int).tdiv 2 = (k0 : Int) := by
    rw [← HK0.out]
    exact (Int.ofNat_tdiv J 2).symm
  have hwk0 : IntKind.i64.wrap (k0 : Int) = k0 := by
    have := HK0.out
    rw [IntKind.wrap_i64]
    omega
  have HNI := hide' (And.intro hn2 hn)
  have HLl := hide' hl
  have HFY := hide' fy
  have HFX := hide' fx
  clear hn2 hn hl fx fy
  have hb : Below w.heap.size w (w.alloc (.cells #[] 34)) := (Below.refl _ _).alloc (Nat.le_refl _) _
  go_enter Try.func18, Try.ntmps18
  go_wp2_with fail
  refine (hIs _).mono ?_
  clear hIs
  rintro e w0 ⟨rfl, hb0⟩
  have hown := World.ownsRow_lit (base := w0.heap.size) (e := 34) (size := 2) w0 #[] 0 (Nat.le_refl _) (by decide) rfl
  have hbl : Below w0.heap.size w0 (w0.alloc (.cells #[] 34)) := (Below.refl _ _).alloc (Nat.le_refl _) _
  have sx0 := (sx.grown hb0).grown hbl
  go_wp2_with (at_builtin; refine wpList_plain rfl fun _ hK => wp_app0 (.tmp 28) (.tmp 29) rfl w0.heap.size w0.heap.size rfl hown x n c (fun i => L.getD i pr0) rfl sx0 (by omega) hbl.size ?_)
  intro g cg w1 own1 hb1 hgk
  refine hK _ _ ?_
  clear hK hb hown sx0
  have hgb := own_block own1 g rfl
  have hq0 := PQ.of_own HLl.out own1
  have hcg : n ≤ cg ∧ cg ≤ maxLen := by
    obtain ⟨y', c', e, h1, h2, -⟩ := own_is own1
    simp only [Value.slice.injEq] at e
    obtain ⟨-, -, rfl⟩ := e
    exact ⟨h1, h2⟩
  have HCG := hide' hcg
  clear own1 hcg
  have hB0 : Below w.heap.size w w1 := hb0.trans ((hbl.trans (hb1.mono (Nat.le_succ _))).mono hb0.size)
  have hwg : w.heap.size ≤ g := Nat.le_trans hb0.size hgb
  clear hb0 hbl hb1 hgk hgb
  have hng0 : ¬ G g := fun h => by have := hlt0 g h; omega
  have hK0 : KeptR G w b G w1 st := hI.keptR hB0
  have sy1 : SIn (fun k => ¬ G k) w1 y m ys := sy.off (Off.of_below (F := fun _ => False) hB0) (fun _ _ _ h => h)
  have hlow := rtLow G b st ys y m d (by omega) (by omega) by_ HFY.out w1 hK0.inv sy1
  obtain ⟨Q, HQ⟩ : ∃ Q, Hid (st.sumQ (lowZ ys) = Q) := ⟨_, rfl⟩
  rw [HQ.out] at hlow
  go_wp2_with fail
  refine hlow.mono ?_
  clear hlow sy sy1 sx
  rintro e w2 ⟨rfl, G2, hK2⟩
  have hq2 : PQ w2 g n L := hq0.off hK2.off hng0
  have hng2 : ¬ G2 g := fun h => (hK2.sub g h).elim hng0 (fun h => by have := hq0.lt; omega)
  have e0 := hq2.c0 (i := J) hJn
  have e1 := hq2.c1 (i := J) hJn
  have e2 := hq2.frozen (J * 2)
  have e3 := hq2.frozen (J * 2 + 1)
  have hq3 := hq2.put J hJn Q
  have hK3 := (hK0.trans hK2).put' hq2 hng2 hwg (PQ.offPut w2 g J (.int .u64 (nv Q.1)) (.int .u64 (nv Q.2)))
  have hJi : (J : Int) < n := by omega
  go_wp2_with fail
  clear e0 e1 e2 e3 hq2 hK2 hq0 hK0 hng0 hB0
  generalize (w2.setCell ⟨g, J * 2, none⟩ (.int .u64 (nv Q.1))).setCell ⟨g, J * 2 + 1, none⟩ (.int .u64 (nv Q.2)) = w3 at *
  go_loopw [12] (fun i wr => ∃ (k : Nat) (s : TS) (G1 : Nat → Prop), Hid (climb k s = R) ∧ k < q ∧ s.1.sums.length + k ≤ 10100 ∧ i = .int .i64 (k : Int) ∧ PQ wr g n s.2 ∧ KeptR G w b G1 wr s.1 ∧ ¬ G1 g) (fun i _ => (intOf i).toNat)
  case atStart => exact ⟨k0, (st.sumS (lowZ ys), L.set J Q), G2, hide' (by rw [HR2.out, lowS, HQ.out, HJ.out, HK0.out]), by have := HK0.out; have := HJ.out; omega, by have := sumS_len st (lowZ ys); have := HK0.out; show (st.sumS (lowZ ys)).sums.length + k0 ≤ _; omega, rfl, hq3, hK3, hng2⟩
  case round =>
    clear hq3 hK3 hng2
    obtain ⟨k, s, G1, Hcl, hk16, hsm, rfl, hq, hKR, hng⟩ := hrel
    by_cases hk1 : 1 ≤ k
    · have hk' : (k : Int) ≥ 1 := by omega
      obtain ⟨k2, HK2⟩ : ∃ k2 : Nat, Hid (k / 2 = k2) := ⟨_, rfl⟩
      have hdk : (k : Int).tdiv 2 = (k2 : Int) := by
        rw [← HK2.out]
        exact (Int.ofNat_tdiv k 2).symm
      have hwk : IntKind.i64.wrap (k2 : Int) = k2 := by
        have := HK2.out
        rw [IntKind.wrap_i64]
        omega
      obtain ⟨A, HA⟩ : ∃ A : Nat, Hid (2 * k = A) := ⟨_, rfl⟩
      obtain ⟨B, HBB⟩ : ∃ B : Nat, Hid (2 * k + 1 = B) := ⟨_, rfl⟩
      have hwA : IntKind.i64.wrap (2 * (k : Int)) = (A : Int) := by
        have := HA.out
        rw [IntKind.wrap_i64]
        omega
      have hwB : IntKind.i64.wrap ((A : Int) + 1) = (B : Int) := by
        have := HA.out
        have := HBB.out
        rw [IntKind.wrap_i64]
        omega
      have hAN : A < n ∧ B < n ∧ k < n := by
        have := HA.out
        have := HBB.out
        have := HQ0.out
        have := HNI.out.1
        omega
      have HS : Hid (highS k s = (s.1.sumS (highZ (s.2.getD A pr0) (s.2.getD B pr0)), s.2.set k (s.1.sumQ (highZ (s.2.getD A pr0) (s.2.getD B pr0))))) := hide' (by rw [highS, highOf, HBB.out, HA.out])
      go_wp2_with fail
      refine startX (S := fun w' => Off G1 wr w') 16 (by kernel_rfl) (Off.refl _ _).drew (fun hHeld => ?_)
      refine moveY 0 47 11 rfl rfl rfl (by kernel_rfl) (by kernel_rfl) (by kernel_rfl) (fun _ _ _ h => h) (by rfl) (by kernel_rfl) (by kernel_rfl) (by decide) hHeld rfl ?_
      simp only [List.set_cons_succ, List.set_cons_zero]
      refine moveY 1 48 12 rfl rfl rfl (by kernel_rfl) (by kernel_rfl) (by kernel_rfl) (fun _ _ _ h => h) (by rfl) (by kernel_rfl) (by kernel_rfl) (by decide) hHeld rfl ?_
      simp only [List.set_cons_succ, List.set_cons_zero]
      refine moveY 2 49 0 rfl rfl rfl (by kernel_rfl) (by kernel_rfl) (by kernel_rfl) (fun _ _ _ h => h) (by rfl) (by kernel_rfl) (by kernel_rfl) (by decide) hHeld rfl ?_
      simp only [List.set_cons_succ, List.set_cons_zero]
      refine moveY 3 50 11 rfl rfl rfl (by kernel_rfl) (by kernel_rfl) (by kernel_rfl) (fun _ _ _ h => h) (by rfl) (by kernel_rfl) (by kernel_rfl) (by decide) hHeld rfl ?_
      simp only [List.set_cons_succ, List.set_cons_zero]
      refine moveY 4 51 12 rfl rfl rfl (by kernel_rfl) (by kernel_rfl) (by kernel_rfl) (fun _ _ _ h => h) (by rfl) (by kernel_rfl) (by kernel_rfl) (by decide) hHeld rfl ?_
      simp only [List.set_cons_succ, List.set_cons_zero]
      refine takeY 5 52 (v := ?_) rfl rfl (by kernel_rfl) (by kernel_rfl) (by kernel_rfl) (fun _ _ _ h => h) (by rfl) (by kernel_rfl) (by kernel_rfl) (by decide) hHeld (fun w hSw => ?_) ?_
      rotate_left 1
      · (try dsimp only at hSw)
        have e0_ := hwA
        clear hSw
        go_simp
        try with_reducible rfl
      simp only [List.set_cons_succ, List.set_cons_zero]
      refine takeY 6 53 (v := ?_) rfl rfl (by kernel_rfl) (by kernel_rfl) (by kernel_rfl) (fun _ _ _ h => h) (by rfl) (by kernel_rfl) (by kernel_rfl) (by decide) hHeld (fun w hSw => ?_) ?_
      rotate_left 1
      · (try dsimp only at hSw)
        have e0_ : (A : Int) < n := by omega
        clear hSw
        go_simp
        try with_reducible rfl
      simp only [List.set_cons_succ, List.set_cons_zero]
      refine takeY 7 54 (v := ?_) rfl rfl (by kernel_rfl) (by kernel_rfl) (by kernel_rfl) (fun _ _ _ h => h) (by rfl) (by kernel_rfl) (by kernel_rfl) (by decide) hHeld (fun w hSw => ?_) ?_
      rotate_left 1
      · (try dsimp only at hSw)
        have hl_ := PQ.off hq hSw hng
        have e0_ : w.cell? ⟨g, A * 2, none⟩ = some (.int .u64 (nv (s.2.getD A pr0).1)) := hl_.c0 (by omega)
        have e1_ : w.cell? ⟨g, A * 2 + 1, none⟩ = some (.int .u64 (nv (s.2.getD A pr0).2)) := hl_.c1 (by omega)
        clear hl_
        clear hSw
        go_simp
        try with_reducible rfl
      simp only [List.set_cons_succ, List.set_cons_zero]
      refine moveY 8 55 11 rfl rfl rfl (by kernel_rfl) (by kernel_rfl) (by kernel_rfl) (fun _ _ _ h => h) (by rfl) (by kernel_rfl) (by kernel_rfl) (by decide) hHeld rfl ?_
      simp only [List.set_cons_succ, List.set_cons_zero]
      refine moveY 9 56 12 rfl rfl rfl (by kernel_rfl) (by kernel_rfl) (by kernel_rfl) (fun _ _ _ h => h) (by rfl) (by kernel_rfl) (by kernel_rfl) (by decide) hHeld rfl ?_
      simp only [List.set_cons_succ, List.set_cons_zero]
      refine takeY 10 57 (v := ?_) rfl rfl (by kernel_rfl) (by kernel_rfl) (by kernel_rfl) (fun _ _ _ h => h) (by rfl) (by kernel_rfl) (by kernel_rfl) (by decide) hHeld (fun w hSw => ?_) ?_
      rotate_left 1
      · (try dsimp only at hSw)
        have e0_ := hwA
        clear hSw
        go_simp
        try with_reducible rfl
      simp only [List.set_cons_succ, List.set_cons_zero]
      refine takeY 11 58 (v := ?_) rfl rfl (by kernel_rfl) (by kernel_rfl) (by kernel_rfl) (fun _ _ _ h => h) (by rfl) (by kernel_rfl) (by kernel_rfl) (by decide) hHeld (fun w hSw => ?_) ?_
      rotate_left 1
      · (try dsimp only at hSw)
        have e0_ := hwB
        clear hSw
        go_simp
        try with_reducible rfl
      simp only [List.set_cons_succ, List.set_cons_zero]
      refine takeY 12 59 (v := ?_) rfl rfl (by kernel_rfl) (by kernel_rfl) (by kernel_rfl) (fun _ _ _ h => h) (by rfl) (by kernel_rfl) (by kernel_rfl) (by decide) hHeld (fun w hSw => ?_) ?_
      rotate_left 1
      · (try dsimp only at hSw)
        have e0_ : (B : Int) < n := by omega
        clear hSw
        go_simp
        try with_reducible rfl
      simp only [List.set_cons_succ, List.set_cons_zero]
      refine takeY 13 60 (v := ?_) rfl rfl (by kernel_rfl) (by kernel_rfl) (by kernel_rfl) (fun _ _ _ h => h) (by rfl) (by kernel_rfl) (by kernel_rfl) (by decide) hHeld (fun w hSw => ?_) ?_
      rotate_left 1
      · (try dsimp only at hSw)
        have hl_ := PQ.off hq hSw hng
        have e0_ : w.cell? ⟨g, B * 2, none⟩ = some (.int .u64 (nv (s.2.getD B pr0).1)) := hl_.c0 (by omega)
        have e1_ : w.cell? ⟨g, B * 2 + 1, none⟩ = some (.int .u64 (nv (s.2.getD B pr0).2)) := hl_.c1 (by omega)
        clear hl_
        clear hSw
        go_simp
        try with_reducible rfl
      simp only [List.set_cons_succ, List.set_cons_zero]
      refine onlyX 14 rfl (by kernel_rfl) (by rfl) (fun K hK => ?_)
      go_wp2_with fail
      refine (rtHigh G1 b s.1 (s.2.getD A pr0) (s.2.getD B pr0) (by omega) _ (RLInv.off (F := fun _ => False) hKR.inv (Off.refl _ wr).drew (fun _ _ _ h => h))).mono ?_
      rintro e w2 ⟨rfl, G2, hK2⟩
      replace hK2 : KeptR G1 wr b G2 w2 (s.1.sumS (highZ (s.2.getD A pr0) (s.2.getD B pr0))) := ⟨hK2.inv, hK2.sub, (Off.refl _ wr).drew.trans hK2.off (fun _ h => Or.inl h), hK2.u⟩
      refine hK.out _ _ (fun _ => hK2.off) (fun hHeld => ?_)
      clear hK K
      replace hHeld := hHeld (by decide)
      refine takeY 15 62 (v := ?_) rfl rfl (by kernel_rfl) (by kernel_rfl) (by kernel_rfl) (fun _ _ _ h => h) (by rfl) (by kernel_rfl) (by kernel_rfl) (by decide) hHeld (fun w hSw => ?_) ?_
      rotate_left 1
      · (try dsimp only at hSw)
        have e0_ : (k : Int) < n := by omega
        clear hSw
        go_simp
        try with_reducible rfl
      simp only [List.set_cons_succ, List.set_cons_zero]
      clear hHeld
      have hq2 : PQ w2 g n s.2 := hq.off hK2.off hng
      have hng2 : ¬ G2 g := fun h => (hK2.sub g h).elim hng (fun h => by have := hq.lt; omega)
      obtain ⟨Q, HQ⟩ : ∃ Q, Hid (s.1.sumQ (highZ (s.2.getD A pr0) (s.2.getD B pr0)) = Q) := ⟨_, rfl⟩
      rw [HQ.out]
      have e0 := hq2.c0 (i := k) (by omega)
      have e1 := hq2.c1 (i := k) (by omega)
      have e2 := hq2.frozen (k * 2)
      have e3 := hq2.frozen (k * 2 + 1)
      refine onlyX 16 rfl (by kernel_rfl) (by rfl) (fun K hK => ?_)
      go_wp2_with fail
      clear e0 e1 e2 e3
      have hq3 := hq2.put k (by omega) Q
      have hK3 := (hKR.trans hK2).put' hq2 hng2 hwg (PQ.offPut w2 g k (.int .u64 (nv Q.1)) (.int .u64 (nv Q.2)))
      refine hK.out _ _ (fun h => absurd rfl h) (fun _ => ?_)
      clear hK K
      refine doneX (by kernel_rfl) ?_ _
      generalize (w2.setCell ⟨g, k * 2, none⟩ (.int .u64 (nv Q.1))).setCell ⟨g, k * 2 + 1, none⟩ (.int .u64 (nv Q.2)) = w3 at *
      go_wp2
      go_roundw
      case rel => exact ⟨k2, (s.1.sumS (highZ (s.2.getD A pr0) (s.2.getD B pr0)), s.2.set k (s.1.sumQ (highZ (s.2.getD A pr0) (s.2.getD B pr0)))), G2, hide' (by rw [← Hcl.out, climb_k (show k ≠ 0 by omega) s, HK2.out, HS.out]), by have := HK2.out; omega, by have := HK2.out; have := sumS_len s.1 (highZ (s.2.getD A pr0) (s.2.getD B pr0)); show (s.1.sumS _).sums.length + k2 ≤ _; omega, rfl, by rw [HQ.out]; exact hq3, hK3, hng2⟩
      case measure => have := HK2.out; simp [intOf]; omega
    · have hk' : ¬ (k : Int) ≥ 1 := by omega
      obtain rfl : k = 0 := by omega
      have e := Hcl.out
      rw [climb_0] at e
      subst e
      go_wp2
      go_ret2
      first | exact ⟨_, _, _, rfl, hKR, hq, hng, hwg, HCG.out.1, HCG.out.2⟩ | exact ⟨_, _, rfl, _, hKR, hq, hng, hwg, HCG.out.1, HCG.out.2⟩
end Go.Proofs.Ytkbhkgfchiacbaa


/- Any leaves' tree, by either lock. -/
namespace Go.Proofs.Ytkbhkgfchiacbaa
open Go.RowKit
set_option maxRecDepth 20000
variable {Inv : (Nat → Prop) → World → Value → LSt → Prop}

set_option maxHeartbeats 2000000 in
theorem trbuilds (hL : LockIs Inv) (hO : TreeAll Inv) (b : Bool) (x : Option Addr) (n c : Nat) (P : List (List Int)) (hm : n ≤ maxLen) (fx : Fit x n c) (w : World) (sx : LIn (fun k => k < w.heap.size) w x n P) : Calls Try.prog 3 #[.bool b, .slice x n c] w fun e w' => e = .returned (.bool true) ∧ Below w.heap.size w w' := by
  go_enter Try.func3, Try.ntmps3
  go_wp2_with fail
  refine (trlong _ x n c P hm _ sx).mono ?_
  rintro e w1 ⟨rfl | ⟨rfl, hsh⟩, hb1⟩
  · go_wp2
    go_ret
    exact ⟨rfl, hb1⟩
  have T1 := hb1
  have hlen := sx.1
  have hsz := hb1.size
  have sx1 := sx.off (Off.of_below (F := fun _ => False) hb1) (fun _ _ _ h => h)
  go_wp2_with fail
  refine (trof hL b w1).mono ?_
  rintro e w2 ⟨v, F, rfl, hI, hF, hb2⟩
  have T2 := T1.trans (hb2.mono T1.size)
  have sxm := sx1.off (Off.of_below (F := fun _ => False) hb2) (fun _ _ _ h => h)
  have sx2 : LIn (fun k => ¬ F k) w2 x n P := sxm.mono (fun k _ hk hf => by have := hF k hf; omega)
  obtain ⟨hn20, hP⟩ := hsh
  have hsz2 := hb2.size
  clear sx sx1 hb1 hb2
  by_cases hg : gmOk (n : Int)
  · have hbd := hO.build F v ⟨b, [], []⟩ P x n c hg (fun y hy => by have := hP y hy; omega) (Nat.zero_le _) fx w2 hI sx2
    obtain ⟨R, HR⟩ : ∃ R, Hid (tbuild ⟨b, [], []⟩ P = R) := ⟨_, rfl⟩
    have hRl := tbuild_len ⟨b, [], []⟩ P
    rw [HR.out] at hbd hRl
    rw [hlen] at hRl
    have HX := hide' (And.intro hg (And.intro hP (And.intro hsz hsz2)))
    clear hg hP hsz hsz2 sx2 hlen
    go_wp2_with fail
    refine hbd.mono ?_
    clear hbd
    rintro e w3 ⟨z, cz, F2, rfl, hK2, hz, hfz⟩
    have T3 := T2.trans (hK2.off.below (fun j hj => Nat.le_trans T1.size (hF j hj)) T2.size)
    have hb3 : Below w1.heap.size w2 w3 := hK2.off.below hF HX.out.2.2.2
    have hsz := HX.out.2.2.1
    have hsz2 := HX.out.2.2.2
    have sx3 := sxm.off hK2.off (fun k _ hk hf => by have := hF k hf; omega)
    have hsz3 := hK2.off.size
    clear hK2 hb3 sxm hI
    go_wp2_with fail
    refine (rlnew b w3).mono ?_
    rintro e w4 ⟨bl, G, rfl, hJ, hG, hb4⟩
    have T4 := T3.trans (hb4.mono T3.size)
    have sxn := sx3.off (Off.of_below (F := fun _ => False) hb4) (fun _ _ _ h => h)
    have sx4 : LIn (fun k => ¬ G k) w4 x n P := sxn.mono (fun k _ hk hf => by have := hG k hf; omega)
    replace hz : PIn (fun k => k < w3.heap.size) w3 z (2 * n) R.2 := hz.mono (fun k hk _ => hk)
    have hz4 := hz.off (Off.of_below (F := fun _ => False) hb4) (fun _ _ _ h => h)
    have hbd := rtBuild G bl ⟨b, [], []⟩ P x n c HX.out.1 (fun y hy => by have := HX.out.2.1 y hy; omega) (Nat.zero_le _) w4 hJ sx4
    rw [HR.out] at hbd
    have hsz4 := hb4.size
    clear sx3 sxn sx4 hz hb4
    obtain ⟨N, HN⟩ : ∃ N, Hid (2 * n = N) := ⟨_, rfl⟩
    rw [HN.out] at hbd hz4 hfz hRl
    try rw [HN.out]
    have HS := hide' (And.intro hsz (And.intro hsz2 (And.intro hsz3 hsz4)))
    clear hsz hsz2 hsz3 hsz4
    go_wp2_with fail
    refine hbd.mono ?_
    clear hbd
    rintro e w5 ⟨g, G', rfl, hK5, hq, -, -⟩
    have T5 := T4.trans (hK5.off.below (fun j hj => Nat.le_trans T3.size (hG j hj)) T4.size)
    have hz5 := hz4.off hK5.off (fun k _ hk hf => by have := hG k hf; omega)
    have ht : trOk N := by
      have := HX.out.1
      have := HN.out
      unfold trOk gmOk at *
      omega
    have htop := hO.top R.2 z N cz ht hfz w5 hRl hz5.prow
    obtain ⟨q, Hq⟩ : ∃ q, Hid (R.2.getD 1 pr0 = q) := ⟨_, rfl⟩
    rw [Hq.out] at htop
    have h1N : 1 < N ∧ N ≤ 100000 := by
      have := HX.out.1
      have := HN.out
      unfold gmOk at *
      omega
    clear hK5 hz4 hJ
    go_wp2_with fail
    refine htop.mono ?_
    clear htop
    rintro e w6 ⟨rfl, hb6⟩
    have T6 := T5.trans (hb6.mono T5.size)
    have hz6 := hz5.off (Off.of_below (F := fun _ => False) hb6) (fun _ _ _ h => h)
    have hq6 := hq.below hb6
    clear hz5 hq hb6
    go_wp2_with fail
    have hbx := Box.new w6 (nv q.1) (nv q.2)
    have hbw : Below w6.heap.size w6 (w6.alloc (.cells #[.int .u64 (nv q.1), .int .u64 (nv q.2)] 34)) := (Below.refl _ _).alloc (Nat.le_refl _) _
    have hzP := (hz6.off (Off.of_below (F := fun _ => False) hbw) (fun _ _ _ h => h)).prow
    have hq7 := hq6.below hbw
    clear hz6 hq6
    have T7 := T6.trans (hbw.mono T6.size)
    clear hbw
    generalize w6.alloc (.cells #[.int .u64 (nv q.1), .int .u64 (nv q.2)] 34) = w7 at *
    generalize w6.heap.size = tb at *
    have hB := Below.refl w7.heap.size w7
    have h1i : (1 : Int) < N := by omega
    refine wp_region_held_drew (S := fun w' => Below w7.heap.size w7 w') (by kernel_rfl) (Below.refl _ _).drew (fun hHeld => ?_)
    refine takeM 0 32 6 rfl rfl rfl (by kernel_rfl) (by kernel_rfl) (by kernel_rfl) (fun _ _ _ h => h) (by rfl) hHeld rfl ?_
    simp only [List.set_cons_succ, List.set_cons_zero]
    refine takeM 1 33 8 rfl rfl rfl (by kernel_rfl) (by kernel_rfl) (by kernel_rfl) (fun _ _ _ h => h) (by rfl) hHeld rfl ?_
    simp only [List.set_cons_succ, List.set_cons_zero]
    refine takeL 2 34 (v := ?_) rfl rfl (by kernel_rfl) (by kernel_rfl) (by kernel_rfl) (fun _ _ _ h => h) (by rfl) hHeld (fun w hSw => ?_) ?_
    rotate_left 1
    · (try dsimp only at hSw)
      clear hSw
      go_simp
      try with_reducible rfl
    simp only [List.set_cons_succ, List.set_cons_zero]
    refine takeM 3 35 34 rfl rfl rfl (by kernel_rfl) (by kernel_rfl) (by kernel_rfl) (fun _ _ _ h => h) (by rfl) hHeld rfl ?_
    simp only [List.set_cons_succ, List.set_cons_zero]
    refine takeM 4 36 5 rfl rfl rfl (by kernel_rfl) (by kernel_rfl) (by kernel_rfl) (fun _ _ _ h => h) (by rfl) hHeld rfl ?_
    simp only [List.set_cons_succ, List.set_cons_zero]
    refine takeM 5 37 7 rfl rfl rfl (by kernel_rfl) (by kernel_rfl) (by kernel_rfl) (fun _ _ _ h => h) (by rfl) hHeld rfl ?_
    simp only [List.set_cons_succ, List.set_cons_zero]
    refine onlyL 6 rfl (by kernel_rfl) (by rfl) (fun K hK => ?_)
    go_wp2_with fail
    refine (rtSame (fun i => R.2.getD i pr0) z (some ⟨g, 0, none⟩) N cz N h1N.2 _ (hzP.grown (Below.refl _ _).drew) (hq7.prow.grown (Below.refl _ _).drew)).mono ?_
    rintro e w1_ ⟨rfl, hb⟩
    replace hb := (Below.refl _ _).drew.trans hb
    replace hbx := hbx.grown hb
    replace hzP := hzP.grown hb
    replace hq7 := hq7.below hb
    replace hB := hB.trans (hb.mono hB.size)
    refine hK.out _ _ hb (fun _ => ?_)
    clear hK K hHeld
    refine held_more (S' := fun w' => Below w1_.heap.size w1_ w') (fun _ h => hb.trans (h.mono hb.size)) _ _ _ _ ?_
    have hHeld := Below.refl w1_.heap.size w1_
    clear hb
    refine takeL 7 39 (v := ?_) rfl rfl (by kernel_rfl) (by kernel_rfl) (by kernel_rfl) (fun _ _ _ h => h) (by rfl) hHeld (fun w hSw => ?_) ?_
    rotate_left 1
    · (try dsimp only at hSw)
      clear hSw
      go_simp
      try with_reducible rfl
    simp only [List.set_cons_succ, List.set_cons_zero]
    refine takeM 8 40 39 rfl rfl rfl (by kernel_rfl) (by kernel_rfl) (by kernel_rfl) (fun _ _ _ h => h) (by rfl) hHeld rfl ?_
    simp only [List.set_cons_succ, List.set_cons_zero]
    refine takeM 9 41 10 rfl rfl rfl (by kernel_rfl) (by kernel_rfl) (by kernel_rfl) (fun _ _ _ h => h) (by rfl) hHeld rfl ?_
    simp only [List.set_cons_succ, List.set_cons_zero]
    refine takeM 10 42 6 rfl rfl rfl (by kernel_rfl) (by kernel_rfl) (by kernel_rfl) (fun _ _ _ h => h) (by rfl) hHeld rfl ?_
    simp only [List.set_cons_succ, List.set_cons_zero]
    refine takeL 11 43 (v := ?_) rfl rfl (by kernel_rfl) (by kernel_rfl) (by kernel_rfl) (fun _ _ _ h => h) (by rfl) hHeld (fun w hSw => ?_) ?_
    rotate_left 1
    · (try dsimp only at hSw)
      clear hSw
      go_simp
      try with_reducible rfl
    simp only [List.set_cons_succ, List.set_cons_zero]
    refine takeL 12 44 (v := ?_) rfl rfl (by kernel_rfl) (by kernel_rfl) (by kernel_rfl) (fun _ _ _ h => h) (by rfl) hHeld (fun w hSw => ?_) ?_
    rotate_left 1
    · (try dsimp only at hSw)
      clear hSw
      go_simp
      try with_reducible rfl
    simp only [List.set_cons_succ, List.set_cons_zero]
    refine takeM 13 45 44 rfl rfl rfl (by kernel_rfl) (by kernel_rfl) (by kernel_rfl) (fun _ _ _ h => h) (by rfl) hHeld rfl ?_
    simp only [List.set_cons_succ, List.set_cons_zero]
    refine takeM 14 46 6 rfl rfl rfl (by kernel_rfl) (by kernel_rfl) (by kernel_rfl) (fun _ _ _ h => h) (by rfl) hHeld rfl ?_
    simp only [List.set_cons_succ, List.set_cons_zero]
    refine takeL 15 47 (v := ?_) rfl rfl (by kernel_rfl) (by kernel_rfl) (by kernel_rfl) (fun _ _ _ h => h) (by rfl) hHeld (fun w hSw => ?_) ?_
    rotate_left 1
    · (try dsimp only at hSw)
      clear hSw
      go_simp
      try with_reducible rfl
    simp only [List.set_cons_succ, List.set_cons_zero]
    refine takeM 16 48 47 rfl rfl rfl (by kernel_rfl) (by kernel_rfl) (by kernel_rfl) (fun _ _ _ h => h) (by rfl) hHeld rfl ?_
    simp only [List.set_cons_succ, List.set_cons_zero]
    refine takeL 17 49 (v := ?_) rfl rfl (by kernel_rfl) (by kernel_rfl) (by kernel_rfl) (fun _ _ _ h => h) (by rfl) hHeld (fun w hSw => ?_) ?_
    rotate_left 1
    · (try dsimp only at hSw)
      have e0_ := (hbx.grown hSw).c0
      have e1_ := (hbx.grown hSw).c1
      clear hSw
      go_simp
      try with_reducible rfl
    simp only [List.set_cons_succ, List.set_cons_zero]
    refine takeM 18 50 7 rfl rfl rfl (by kernel_rfl) (by kernel_rfl) (by kernel_rfl) (fun _ _ _ h => h) (by rfl) hHeld rfl ?_
    simp only [List.set_cons_succ, List.set_cons_zero]
    refine takeL 19 51 (v := ?_) rfl rfl (by kernel_rfl) (by kernel_rfl) (by kernel_rfl) (fun _ _ _ h => h) (by rfl) hHeld (fun w hSw => ?_) ?_
    rotate_left 1
    · (try dsimp only at hSw)
      clear hSw
      go_simp
      try with_reducible rfl
    simp only [List.set_cons_succ, List.set_cons_zero]
    refine takeL 20 52 (v := ?_) rfl rfl (by kernel_rfl) (by kernel_rfl) (by kernel_rfl) (fun _ _ _ h => h) (by rfl) hHeld (fun w hSw => ?_) ?_
    rotate_left 1
    · (try dsimp only at hSw)
      have l_ := hq7.below hSw
      have e6_ : w.cell? ⟨g, 2, none⟩ = some (.int .u64 (nv q.1)) := (l_.c0 (i := 1) h1N.1).trans (by rw [Hq.out])
      have e7_ : w.cell? ⟨g, 3, none⟩ = some (.int .u64 (nv q.2)) := (l_.c1 (i := 1) h1N.1).trans (by rw [Hq.out])
      clear l_
      clear hSw
      go_simp
      try with_reducible rfl
    simp only [List.set_cons_succ, List.set_cons_zero]
    refine takeL 21 53 (v := ?_) rfl rfl (by kernel_rfl) (by kernel_rfl) (by kernel_rfl) (fun _ _ _ h => h) (by rfl) hHeld (fun w hSw => ?_) ?_
    rotate_left 1
    · (try dsimp only at hSw)
      have e0_ : (Op.equalIn 10000 34 (.agg #[.int .u64 (nv q.1), .int .u64 (nv q.2)]) (.agg #[.int .u64 (nv q.1), .int .u64 (nv q.2)])).run Try.prog w = .ok true w := by rw [eq32]; simp
      clear hSw
      go_simp
      try with_reducible rfl
    simp only [List.set_cons_succ, List.set_cons_zero]
    refine takeL 22 54 (v := ?_) rfl rfl (by kernel_rfl) (by kernel_rfl) (by kernel_rfl) (fun _ _ _ h => h) (by rfl) hHeld (fun w hSw => ?_) ?_
    rotate_left 1
    · (try dsimp only at hSw)
      clear hSw
      go_simp
      try with_reducible rfl
    simp only [List.set_cons_succ, List.set_cons_zero]
    refine takeL 23 55 (v := ?_) rfl rfl (by kernel_rfl) (by kernel_rfl) (by kernel_rfl) (fun _ _ _ h => h) (by rfl) hHeld (fun w hSw => ?_) ?_
    rotate_left 1
    · (try dsimp only at hSw)
      clear hSw
      go_simp
      try with_reducible rfl
    simp only [List.set_cons_succ, List.set_cons_zero]
    refine takeM 24 56 55 rfl rfl rfl (by kernel_rfl) (by kernel_rfl) (by kernel_rfl) (fun _ _ _ h => h) (by rfl) hHeld rfl ?_
    simp only [List.set_cons_succ, List.set_cons_zero]
    refine onlyL 25 rfl (by kernel_rfl) (by rfl) (fun K hK => ?_)
    go_wp2_with fail
    refine (trknown hL hO _).mono ?_
    rintro e w2_ ⟨rfl, hb⟩
    replace hbx := hbx.grown hb
    replace hzP := hzP.grown hb
    replace hq7 := hq7.below hb
    replace hB := hB.trans (hb.mono hB.size)
    refine hK.out _ _ hb (fun _ => ?_)
    clear hK K hHeld
    refine held_more (S' := fun w' => Below w2_.heap.size w2_ w') (fun _ h => hb.trans (h.mono hb.size)) _ _ _ _ ?_
    have hHeld := Below.refl w2_.heap.size w2_
    clear hb
    refine takeL 26 58 (v := ?_) rfl rfl (by kernel_rfl) (by kernel_rfl) (by kernel_rfl) (fun _ _ _ h => h) (by rfl) hHeld (fun w hSw => ?_) ?_
    rotate_left 1
    · (try dsimp only at hSw)
      clear hSw
      go_simp
      try with_reducible rfl
    simp only [List.set_cons_succ, List.set_cons_zero]
    refine takeA 27 4 58 rfl rfl rfl (by kernel_rfl) (by kernel_rfl) (by kernel_rfl) (fun _ _ _ h => h) (by rfl) hHeld rfl ?_
    simp only [List.set_cons_succ, List.set_cons_zero]
    refine wpAnyH_done (by kernel_rfl) ?_ _
    have T8 := T7.trans (hB.mono T7.size)
    go_wp2
    go_ret
    exact ⟨rfl, T8⟩
  · have hbn := hO.buildNo F v ⟨b, [], []⟩ x n c hg w2 hI
    have HX := hide' hg
    clear hg hP
    go_wp2_with fail
    refine hbn.mono ?_
    clear hbn
    rintro e w3 ⟨z, cz, rfl, hfz, hb3⟩
    have T3 := T2.trans (hb3.mono T2.size)
    go_wp2_with fail
    refine (rlnew b w3).mono ?_
    rintro e w4 ⟨bl, G, rfl, -, -, hb4⟩
    have T4 := T3.trans (hb4.mono T3.size)
    go_wp2_with fail
    refine (rtBuildNo _ x n c HX.out w4).mono ?_
    rintro e w5 ⟨rfl, hb5⟩
    have T5 := T4.trans (hb5.mono T4.size)
    have htop := hO.topNo z 0 cz (by decide) (by decide) w5
    go_wp2_with fail
    refine htop.mono ?_
    clear htop
    rintro e w6 ⟨rfl, hb6⟩
    have T6 := T5.trans (hb6.mono T5.size)
    clear sxm hI sx2 hF hsz hsz2 hlen
    go_wp2_with fail
    have hbx := Box.new w6 0 0
    have hbw : Below w6.heap.size w6 (w6.alloc (.cells #[.int .u64 0, .int .u64 0] 34)) := (Below.refl _ _).alloc (Nat.le_refl _) _
    have hzP : PRow (w6.alloc (.cells #[.int .u64 0, .int .u64 0] 34)) z 0 (fun _ => pr0) := fun h => absurd h (by omega)
    have T7 := T6.trans (hbw.mono T6.size)
    clear hbw
    generalize w6.alloc (.cells #[.int .u64 0, .int .u64 0] 34) = w7 at *
    generalize w6.heap.size = tb at *
    have hB := Below.refl w7.heap.size w7
    refine wp_region_held_drew (S := fun w' => Below w7.heap.size w7 w') (by kernel_rfl) (Below.refl _ _).drew (fun hHeld => ?_)
    refine takeM 0 32 6 rfl rfl rfl (by kernel_rfl) (by kernel_rfl) (by kernel_rfl) (fun _ _ _ h => h) (by rfl) hHeld rfl ?_
    simp only [List.set_cons_succ, List.set_cons_zero]
    refine takeM 1 33 8 rfl rfl rfl (by kernel_rfl) (by kernel_rfl) (by kernel_rfl) (fun _ _ _ h => h) (by rfl) hHeld rfl ?_
    simp only [List.set_cons_succ, List.set_cons_zero]
    refine takeL 2 34 (v := ?_) rfl rfl (by kernel_rfl) (by kernel_rfl) (by kernel_rfl) (fun _ _ _ h => h) (by rfl) hHeld (fun w hSw => ?_) ?_
    rotate_left 1
    · (try dsimp only at hSw)
      clear hSw
      go_simp
      try with_reducible rfl
    simp only [List.set_cons_succ, List.set_cons_zero]
    refine takeM 3 35 34 rfl rfl rfl (by kernel_rfl) (by kernel_rfl) (by kernel_rfl) (fun _ _ _ h => h) (by rfl) hHeld rfl ?_
    simp only [List.set_cons_succ, List.set_cons_zero]
    refine takeM 4 36 5 rfl rfl rfl (by kernel_rfl) (by kernel_rfl) (by kernel_rfl) (fun _ _ _ h => h) (by rfl) hHeld rfl ?_
    simp only [List.set_cons_succ, List.set_cons_zero]
    refine takeM 5 37 7 rfl rfl rfl (by kernel_rfl) (by kernel_rfl) (by kernel_rfl) (fun _ _ _ h => h) (by rfl) hHeld rfl ?_
    simp only [List.set_cons_succ, List.set_cons_zero]
    refine onlyL 6 rfl (by kernel_rfl) (by rfl) (fun K hK => ?_)
    go_wp2_with fail
    refine (rtSame (fun _ => pr0) z _ 0 cz _ (by decide) _ (hzP.grown (Below.refl _ _).drew) (fun h => absurd h (by omega))).mono ?_
    rintro e w1_ ⟨rfl, hb⟩
    replace hb := (Below.refl _ _).drew.trans hb
    replace hbx := hbx.grown hb
    replace hzP := hzP.grown hb
    replace hB := hB.trans (hb.mono hB.size)
    refine hK.out _ _ hb (fun _ => ?_)
    clear hK K hHeld
    refine held_more (S' := fun w' => Below w1_.heap.size w1_ w') (fun _ h => hb.trans (h.mono hb.size)) _ _ _ _ ?_
    have hHeld := Below.refl w1_.heap.size w1_
    clear hb
    refine takeL 7 39 (v := ?_) rfl rfl (by kernel_rfl) (by kernel_rfl) (by kernel_rfl) (fun _ _ _ h => h) (by rfl) hHeld (fun w hSw => ?_) ?_
    rotate_left 1
    · (try dsimp only at hSw)
      clear hSw
      go_simp
      try with_reducible rfl
    simp only [List.set_cons_succ, List.set_cons_zero]
    refine takeM 8 40 39 rfl rfl rfl (by kernel_rfl) (by kernel_rfl) (by kernel_rfl) (fun _ _ _ h => h) (by rfl) hHeld rfl ?_
    simp only [List.set_cons_succ, List.set_cons_zero]
    refine takeM 9 41 10 rfl rfl rfl (by kernel_rfl) (by kernel_rfl) (by kernel_rfl) (fun _ _ _ h => h) (by rfl) hHeld rfl ?_
    simp only [List.set_cons_succ, List.set_cons_zero]
    refine takeM 10 42 6 rfl rfl rfl (by kernel_rfl) (by kernel_rfl) (by kernel_rfl) (fun _ _ _ h => h) (by rfl) hHeld rfl ?_
    simp only [List.set_cons_succ, List.set_cons_zero]
    refine takeL 11 43 (v := ?_) rfl rfl (by kernel_rfl) (by kernel_rfl) (by kernel_rfl) (fun _ _ _ h => h) (by rfl) hHeld (fun w hSw => ?_) ?_
    rotate_left 1
    · (try dsimp only at hSw)
      clear hSw
      go_simp
      try with_reducible rfl
    simp only [List.set_cons_succ, List.set_cons_zero]
    refine takeL 12 44 (v := ?_) rfl rfl (by kernel_rfl) (by kernel_rfl) (by kernel_rfl) (fun _ _ _ h => h) (by rfl) hHeld (fun w hSw => ?_) ?_
    rotate_left 1
    · (try dsimp only at hSw)
      clear hSw
      go_simp
      try with_reducible rfl
    simp only [List.set_cons_succ, List.set_cons_zero]
    refine takeM 13 45 44 rfl rfl rfl (by kernel_rfl) (by kernel_rfl) (by kernel_rfl) (fun _ _ _ h => h) (by rfl) hHeld rfl ?_
    simp only [List.set_cons_succ, List.set_cons_zero]
    refine takeM 14 46 6 rfl rfl rfl (by kernel_rfl) (by kernel_rfl) (by kernel_rfl) (fun _ _ _ h => h) (by rfl) hHeld rfl ?_
    simp only [List.set_cons_succ, List.set_cons_zero]
    refine takeL 15 47 (v := ?_) rfl rfl (by kernel_rfl) (by kernel_rfl) (by kernel_rfl) (fun _ _ _ h => h) (by rfl) hHeld (fun w hSw => ?_) ?_
    rotate_left 1
    · (try dsimp only at hSw)
      clear hSw
      go_simp
      try with_reducible rfl
    simp only [List.set_cons_succ, List.set_cons_zero]
    refine takeM 16 48 47 rfl rfl rfl (by kernel_rfl) (by kernel_rfl) (by kernel_rfl) (fun _ _ _ h => h) (by rfl) hHeld rfl ?_
    simp only [List.set_cons_succ, List.set_cons_zero]
    refine takeN 17 49 rfl rfl (by kernel_rfl) (by kernel_rfl) (by kernel_rfl) (fun _ _ _ h => h) (by rfl) hHeld ?_
    simp only [List.set_cons_succ, List.set_cons_zero]
    refine takeN 18 50 rfl rfl (by kernel_rfl) (by kernel_rfl) (by kernel_rfl) (fun _ _ _ h => h) (by rfl) hHeld ?_
    simp only [List.set_cons_succ, List.set_cons_zero]
    refine takeN 19 51 rfl rfl (by kernel_rfl) (by kernel_rfl) (by kernel_rfl) (fun _ _ _ h => h) (by rfl) hHeld ?_
    simp only [List.set_cons_succ, List.set_cons_zero]
    refine takeN 20 52 rfl rfl (by kernel_rfl) (by kernel_rfl) (by kernel_rfl) (fun _ _ _ h => h) (by rfl) hHeld ?_
    simp only [List.set_cons_succ, List.set_cons_zero]
    refine takeN 21 53 rfl rfl (by kernel_rfl) (by kernel_rfl) (by kernel_rfl) (fun _ _ _ h => h) (by rfl) hHeld ?_
    simp only [List.set_cons_succ, List.set_cons_zero]
    refine takeL 22 54 (v := ?_) rfl rfl (by kernel_rfl) (by kernel_rfl) (by kernel_rfl) (fun _ _ _ h => h) (by rfl) hHeld (fun w hSw => ?_) ?_
    rotate_left 1
    · (try dsimp only at hSw)
      clear hSw
      go_simp
      try with_reducible rfl
    simp only [List.set_cons_succ, List.set_cons_zero]
    refine takeL 23 55 (v := ?_) rfl rfl (by kernel_rfl) (by kernel_rfl) (by kernel_rfl) (fun _ _ _ h => h) (by rfl) hHeld (fun w hSw => ?_) ?_
    rotate_left 1
    · (try dsimp only at hSw)
      clear hSw
      go_simp
      try with_reducible rfl
    simp only [List.set_cons_succ, List.set_cons_zero]
    refine takeM 24 56 55 rfl rfl rfl (by kernel_rfl) (by kernel_rfl) (by kernel_rfl) (fun _ _ _ h => h) (by rfl) hHeld rfl ?_
    simp only [List.set_cons_succ, List.set_cons_zero]
    refine onlyL 25 rfl (by kernel_rfl) (by rfl) (fun K hK => ?_)
    go_wp2_with fail
    refine (trknown hL hO _).mono ?_
    rintro e w2_ ⟨rfl, hb⟩
    replace hbx := hbx.grown hb
    replace hzP := hzP.grown hb
    replace hB := hB.trans (hb.mono hB.size)
    refine hK.out _ _ hb (fun _ => ?_)
    clear hK K hHeld
    refine held_more (S' := fun w' => Below w2_.heap.size w2_ w') (fun _ h => hb.trans (h.mono hb.size)) _ _ _ _ ?_
    have hHeld := Below.refl w2_.heap.size w2_
    clear hb
    refine takeL 26 58 (v := ?_) rfl rfl (by kernel_rfl) (by kernel_rfl) (by kernel_rfl) (fun _ _ _ h => h) (by rfl) hHeld (fun w hSw => ?_) ?_
    rotate_left 1
    · (try dsimp only at hSw)
      clear hSw
      go_simp
      try with_reducible rfl
    simp only [List.set_cons_succ, List.set_cons_zero]
    refine takeA 27 4 58 rfl rfl rfl (by kernel_rfl) (by kernel_rfl) (by kernel_rfl) (fun _ _ _ h => h) (by rfl) hHeld rfl ?_
    simp only [List.set_cons_succ, List.set_cons_zero]
    refine wpAnyH_done (by kernel_rfl) ?_ _
    have T8 := T7.trans (hB.mono T7.size)
    go_wp2
    go_ret
    exact ⟨rfl, T8⟩
end Go.Proofs.Ytkbhkgfchiacbaa


/- New blocks alone, none of them frozen. -/
namespace Go.Proofs.Ytkbhkgfchiacbaa
open Go.RowKit
set_option maxRecDepth 20000

/-- New blocks alone, none of them frozen. -/
structure Clean (w w' : World) : Prop where
  b : Below w.heap.size w w'
  f : ∀ k i, w.heap.size ≤ k → w'.frozen? ⟨k, i, none⟩ = false
theorem Clean.refl (w : World) : Clean w w := ⟨Below.refl _ _, fun k i h => by
  have : w.heap[k]? = none := Array.getElem?_eq_none h
  simp [World.frozen?, this]⟩
theorem Clean.drew {a w : World} (h : Clean a w) : Clean a w.drew := ⟨h.b.drew, h.f⟩
theorem Clean.alloc {a w : World} (h : Clean a w) (c : Array Value) (t : TypeId) : Clean a (w.alloc (.cells c t)) := ⟨h.b.alloc h.b.size _, fun k i hk => by
  by_cases e : k = w.heap.size
  · subst e
    simp
  · rw [World.frozen?_alloc_old _ _ _ (show (⟨k, i, none⟩ : Addr).block ≠ w.heap.size from e)]
    exact h.f k i hk⟩
theorem Clean.setCell {a w : World} (h : Clean a w) {p : Addr} (hp : a.heap.size ≤ p.block) (u : Value) : Clean a (w.setCell p u) := ⟨h.b.setCell hp u, fun k i hk => by
  rw [World.frozen?_setCell]
  exact h.f k i hk⟩
theorem Clean.trans {a b c : World} (h : Clean a b) (k : Clean b c) : Clean a c := ⟨h.b.trans (k.b.mono h.b.size), fun n i hn => by
  rcases Nat.lt_or_ge n b.heap.size with hl | hl
  · rw [World.frozen?_of_block (w := b) (a := ⟨n, i, none⟩) (k.b.block n hl)]
    exact h.f n i hn
  · exact k.f n i hl⟩
end Go.Proofs.Ytkbhkgfchiacbaa
