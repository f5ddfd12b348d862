/- TrImpl RowsAt ViewG ViewB ViewN ViewC SatSin ViewTr: texts laid together. -/
import Derived.Test.YtkbhkgfchiacbaaM21
import Derived.Test.YtkbhkgfchiacbaaM01
import Derived.Deep.Slices
import Derived.Deep.Strs
import Derived.Test.YtkbhkgfchiacbaaBAt
import Derived.Test.YtkbhkgfchiacbaaM03
import Derived.Test.YtkbhkgfchiacbaaM06
import Derived.Test.YtkbhkgfchiacbaaM02
import Derived.Test.YtkbhkgfchiacbaaM09

/- The landed trees: Build, Turn, Top. -/
namespace Go.Proofs.Ytkbhkgfchiacbaa
open Go.RowKit
set_option maxRecDepth 20000

section
variable {Inv : (Nat → Prop) → World → Value → LSt → Prop}
theorem LIn.keptL {F F' : Nat → Prop} {w w' : World} {B : Nat} {v : Value} {st : LSt} (h : KeptL Inv F w v F' w' st) (hB : B ≤ w.heap.size) {x : Option Addr} {m : Nat} {P : List (List Int)} (hs : LIn (fun k => ¬ F k ∧ k < B) w x m P) : LIn (fun k => ¬ F' k ∧ k < B) w' x m P := by
  have hx : ∀ k, ¬ F k ∧ k < B → ¬ F' k ∧ k < B := fun k hk => ⟨fun hf => (h.sub k hf).elim hk.1 (fun e => by have := hk.2; omega), hk.2⟩
  refine ⟨hs.1, fun hm => ?_⟩
  obtain ⟨c, o, e, hlt, hg, hr⟩ := (hs.off h.off (fun _ _ h => h.1)).2 hm
  refine ⟨c, o, e, hlt, hx _ hg, fun i hi => ?_⟩
  obtain ⟨y, d, h1, h2, h3⟩ := hr i hi
  exact ⟨y, d, h1, h2.mono (fun k _ hk => hx k hk), h3⟩
set_option maxHeartbeats 2000000 in
theorem itbuild (hL : LockIs Inv) (F : Nat → Prop) (v : Value) (st : LSt) (P : List (List Int)) (x : Option Addr) (n c : Nat) (hn : gmOk (n : Int)) (hP : ∀ y ∈ P, y.length ≤ 4000) (hS : st.sums.length ≤ 9000) (w : World) (hI : Inv F w v st) (sx : LIn (fun k => ¬ F k) w x n P) :
    Calls Try.prog 10 #[v, .slice x n c] w fun e w' => ∃ g F', e = .returned (.tuple #[.slice (some ⟨g, 0, none⟩) (2 * n) (2 * n), .bool true]) ∧ KeptL Inv F w v F' w' (tbuild st P).1 ∧ PQ w' g (2 * n) (tbuild st P).2 ∧ ¬ F' g ∧ w.heap.size ≤ g := by
  have hxl := sx.1
  have hlt0 := hL.lt hI
  have hn16 : 4 ≤ n ∧ n ≤ 16 := by
    rcases hn with h | h | h <;> omega
  have hIs := igm_is (n : Int)
  rw [show gmIs (n : Int) = true from decide_eq_true hn] at hIs
  obtain ⟨N2, HN⟩ : ∃ N2 : Nat, Hid (2 * n = N2) := ⟨_, rfl⟩
  have hw2 : IntKind.i64.wrap (2 * (n : Int)) = (N2 : Int) := by
    have := HN.out
    rw [IntKind.wrap_i64]
    omega
  have hw1 : IntKind.i64.wrap ((n : Int) - 1) = (((n - 1 : Nat)) : Int) := by
    rw [IntKind.wrap_i64]
    omega
  rw [HN.out]
  obtain ⟨M, hmk, hmq⟩ := make_pairs N2 (by have := HN.out; omega)
  obtain ⟨N1, HN1⟩ : ∃ N1 : Nat, Hid (n - 1 = N1) := ⟨_, rfl⟩
  rw [HN1.out] at hw1
  obtain ⟨s0, HS0⟩ : ∃ s0 : TS, Hid ((st, List.replicate N2 pr0) = s0) := ⟨_, rfl⟩
  obtain ⟨R, HR⟩ : ∃ R : TS, Hid (tbuild st P = R) := ⟨_, rfl⟩
  rw [HR.out]
  have HB : Hid (R = highs n N1 (lows P n n s0)) := hide' (by rw [← HR.out, tbuild, hxl, HN1.out, HN.out, HS0.out])
  clear hn
  obtain ⟨a, rfl⟩ := hL.ptr hI
  go_enter Try.func10, Try.ntmps10
  go_wp2_with fail
  refine (hIs _).mono ?_
  clear hIs
  rintro e w0 ⟨rfl, hb0⟩
  have hbm : Below w0.heap.size w0 (w0.alloc (.cells M 34)) := (Below.refl _ _).alloc (Nat.le_refl _) _
  have hq0 := hmq w0
  have hB0 : Below w.heap.size w (w0.alloc (.cells M 34)) := hb0.trans (hbm.mono hb0.size)
  have hwg : w.heap.size ≤ w0.heap.size := hb0.size
  go_wp2_with fail
  clear hmk hmq hbm hw2
  generalize w0.alloc (.cells M 34) = w1 at *
  generalize w0.heap.size = g at *
  have hng0 : ¬ F g := fun h => by have := hlt0 g h; omega
  have hK0 : KeptL Inv F w (.pointer (some a)) F w1 st := hL.kept hI hB0
  obtain ⟨B0, HB0⟩ : ∃ B0, Hid (w.heap.size = B0) := ⟨_, rfl⟩
  have hBg : B0 ≤ g := HB0.out ▸ hwg
  have sx1 : LIn (fun k => ¬ F k ∧ k < B0) w1 x n P := LIn.keptL hK0 (Nat.le_of_eq HB0.out.symm) ⟨hxl, fun hm => by
    obtain ⟨c', o, e, hl, hg, hr⟩ := sx.2 hm
    exact ⟨c', o, e, hl, ⟨hg, HB0.out ▸ hl⟩, fun i hi => by
      obtain ⟨y, d, h1, h2, h3⟩ := hr i hi
      exact ⟨y, d, h1, h2.mono (fun k hk hx => ⟨hx, HB0.out ▸ hk⟩), h3⟩⟩⟩
  go_loopw [21] (fun i wr => ∃ (k : Nat) (F1 : Nat → Prop), k ≤ n ∧ i = .int .i64 (k : Int) ∧ PQ wr g N2 (lows P n k s0).2 ∧ KeptL Inv F w (.pointer (some a)) F1 wr (lows P n k s0).1 ∧ ¬ F1 g ∧ LIn (fun k => ¬ F1 k ∧ k < B0) wr x n P) (fun i _ => n - (intOf i).toNat)
  case atStart => exact ⟨0, F, Nat.zero_le _, rfl, by rw [← HS0.out]; exact hq0, by rw [← HS0.out]; exact hK0, hng0, sx1⟩
  case round =>
    clear hq0 hK0 hng0 sx1 hB0 hb0
    obtain ⟨k, F1, hk, rfl, hq, hKR, hng, sl⟩ := hrel
    have hsm : (lows P n k s0).1.sums.length ≤ 9100 := by
      have := lows_sums P n k s0
      have e : s0.1.sums.length = st.sums.length := by rw [← HS0.out]
      omega
    by_cases hlt : k < n
    · have hlt' : (k : Int) < n := by omega
      have hw : IntKind.i64.wrap ((k : Int) + 1) = (k : Int) + 1 := by
        rw [IntKind.wrap_i64]
        omega
      obtain ⟨J, HJ⟩ : ∃ J : Nat, Hid (n + k = J) := ⟨_, rfl⟩
      have hwJ : IntKind.i64.wrap ((n : Int) + k) = (J : Int) := by
        have := HJ.out
        rw [IntKind.wrap_i64]
        omega
      have hJ2 : (J : Int) < N2 := by
        have := HJ.out
        have := HN.out
        omega
      obtain ⟨bx, ox, rfl, hbx, hgx, hrx⟩ := sl.2 (by omega)
      obtain ⟨y, cy, cell, sy, fy1, fy2, fy3, by_⟩ := hrx k hlt
      have HS : Hid (lows P n (k + 1) s0 = lowS n k (P.getD k []) (lows P n k s0)) := hide' rfl
      have hyl : (P.getD k []).length ≤ 4000 := by
        rw [List.getD_eq_getElem?_getD, List.getElem?_eq_getElem (by omega), Option.getD_some]
        exact hP _ (List.getElem_mem _)
      obtain ⟨ys, hys⟩ : ∃ ys, P.getD k [] = ys := ⟨_, rfl⟩
      rw [hys] at cell sy fy1 fy3 by_ HS hyl
      obtain ⟨m, hm⟩ : ∃ m, ys.length = m := ⟨_, rfl⟩
      rw [hm] at cell sy fy1 fy3 hyl
      have hlow := ilow hL F1 (.pointer (some a)) (lows P n k s0).1 ys y m cy (by omega) (by omega) by_ ⟨fy1, fy2, fy3⟩ wr hKR.inv (sy.mono (fun k _ h => h.1))
      obtain ⟨Q, HQ⟩ : ∃ Q, Hid ((lows P n k s0).1.sumQ (lowZ ys) = Q) := ⟨_, rfl⟩
      rw [HQ.out] at hlow
      clear sy hys hm
      go_wp2_with fail
      refine hlow.mono ?_
      clear hlow cell
      rintro e w2 ⟨rfl, F2, hK2⟩
      have hq2 : PQ w2 g N2 (lows P n k s0).2 := hq.off hK2.off hng
      have hng2 : ¬ F2 g := fun h => (hK2.sub g h).elim hng (fun h => by have := hq.lt; omega)
      have sl2 := LIn.keptL hK2 (Nat.le_trans hBg (Nat.le_of_lt hq.lt)) sl
      have hJn : J < N2 := by omega
      have e0 := hq2.c0 (i := J) hJn
      have e1 := hq2.c1 (i := J) hJn
      have e2 := hq2.frozen (J * 2)
      have e3 := hq2.frozen (J * 2 + 1)
      have hq3 := hq2.put J hJn Q
      have ho3 := PQ.offPut w2 g J (.int .u64 (nv Q.1)) (.int .u64 (nv Q.2))
      have hK3 := (hKR.trans hK2).put hL hwg hng2 ho3
      have sl3 := sl2.off ho3 (fun c _ h e => by have := h.2; omega)
      go_wp2_with fail
      clear e0 e1 e2 e3
      generalize (w2.setCell ⟨g, J * 2, none⟩ (.int .u64 (nv Q.1))).setCell ⟨g, J * 2 + 1, none⟩ (.int .u64 (nv Q.2)) = w3 at *
      go_wp2
      go_roundw
      case rel =>
        refine ⟨k + 1, F2, by omega, by go_num, ?_, ?_, hng2, sl3⟩
        · rw [HS.out, lowS, HQ.out, HJ.out]
          exact hq3
        · rw [HS.out, lowS]
          exact hK3
      case measure => simp [intOf]; omega
    · have hlt' : ¬ (k : Int) < n := by omega
      obtain rfl : k = n := by omega
      obtain ⟨s1, HS1⟩ : ∃ s1, Hid (lows P k k s0 = s1) := ⟨_, rfl⟩
      rw [HS1.out] at hq hKR hsm
      clear sl
      go_wp2_with fail
      go_loopw [10] (fun i wr => ∃ (j m : Nat) (F1 : Nat → Prop), j + m = N1 ∧ i = .int .i64 (j : Int) ∧ PQ wr g N2 (highs k m s1).2 ∧ KeptL Inv F w (.pointer (some a)) F1 wr (highs k m s1).1 ∧ ¬ F1 g) (fun i _ => (intOf i).toNat)
      case atStart => exact ⟨N1, 0, F1, rfl, rfl, hq, hKR, hng⟩
      case round =>
        clear hq hKR hng
        obtain ⟨j, m, F1, hjm, rfl, hq, hKR, hng⟩ := hrel
        have hsm2 : (highs k m s1).1.sums.length ≤ 9200 := by
          have := highs_sums k m s1
          have := HN1.out
          omega
        by_cases hj : 1 ≤ j
        · have hj' : (j : Int) ≥ 1 := by omega
          have hw : IntKind.i64.wrap ((j : Int) - 1) = ((j - 1 : Nat) : Int) := by
            have := HN1.out
            rw [IntKind.wrap_i64]
            omega
          have hjN : j < N2 ∧ 2 * j + 1 < N2 ∧ N2 ≤ 100 := by
            have := HN1.out
            have := HN.out
            omega
          have hjN' : (j : Int) < N2 := by omega
          have HSS : Hid (highs k (m + 1) s1 = highS j (highs k m s1)) := hide' (by rw [highs, show k - 1 - m = j from by have := HN1.out; omega])
          obtain ⟨s, Hs⟩ : ∃ s, Hid (highs k m s1 = s) := ⟨_, rfl⟩
          rw [Hs.out] at hq hKR hsm2 HSS
          obtain ⟨j1, HJ1⟩ : ∃ j1 : Nat, Hid (j - 1 = j1) := ⟨_, rfl⟩
          rw [HJ1.out] at hw
          have hhi := ihigh hL F1 (.pointer (some a)) s.1 s.2 g N2 N2 j hjN.2.1 hjN.2.2 (by omega) wr hKR.inv hq hng
          obtain ⟨Q, HQ⟩ : ∃ Q, Hid (s.1.sumQ (highOf j s.2) = Q) := ⟨_, rfl⟩
          rw [HQ.out] at hhi
          go_wp2_with fail
          refine hhi.mono ?_
          clear hhi
          rintro e w2 ⟨rfl, F2, hK2⟩
          have hq2 : PQ w2 g N2 s.2 := hq.off hK2.off hng
          have hng2 : ¬ F2 g := fun h => (hK2.sub g h).elim hng (fun h => by have := hq.lt; omega)
          have e0 := hq2.c0 (i := j) hjN.1
          have e1 := hq2.c1 (i := j) hjN.1
          have e2 := hq2.frozen (j * 2)
          have e3 := hq2.frozen (j * 2 + 1)
          have hq3 := hq2.put j hjN.1 Q
          have hK3 := (hKR.trans hK2).put hL hwg hng2 (PQ.offPut w2 g j (.int .u64 (nv Q.1)) (.int .u64 (nv Q.2)))
          go_wp2_with fail
          clear e0 e1 e2 e3
          generalize (w2.setCell ⟨g, j * 2, none⟩ (.int .u64 (nv Q.1))).setCell ⟨g, j * 2 + 1, none⟩ (.int .u64 (nv Q.2)) = w3 at *
          go_wp2
          go_roundw
          case rel => exact ⟨j1, m + 1, F2, by have := HJ1.out; omega, rfl, by rw [HSS.out, highS, HQ.out]; exact hq3, by rw [HSS.out, highS]; exact hK3, hng2⟩
          case measure => have := HJ1.out; simp [intOf]; omega
        · have hj' : ¬ (j : Int) ≥ 1 := by omega
          obtain rfl : m = N1 := by omega
          rw [← HS1.out, ← HB.out] at hq hKR
          go_wp2
          go_ret2
          first | exact ⟨_, _, rfl, hKR, hq, hng, hwg⟩ | exact ⟨_, rfl, _, hKR, hq, hng, hwg⟩
theorem itbuild_no (v : Value) (x : Option Addr) (n c : Nat) (hn : ¬ gmOk (n : Int)) (w : World) : Calls Try.prog 10 #[v, .slice x n c] w fun e w' => e = .returned (.tuple #[.slice none 0 0, .bool false]) ∧ Below w.heap.size w w' := by
  have hIs := igm_is (n : Int)
  rw [show gmIs (n : Int) = false from decide_eq_false hn] at hIs
  clear hn
  go_enter Try.func10, Try.ntmps10
  go_wp2_with fail
  refine (hIs _).mono ?_
  clear hIs
  rintro e w0 ⟨rfl, hb0⟩
  go_wp2
  go_ret2
  exact ⟨rfl, hb0⟩
set_option maxHeartbeats 1000000 in
theorem itturn_no (v : Value) (x y : Option Addr) (n c m d : Nat) (i : Int) (hn2 : n ≤ 1000) (hn : ¬ (trOk n ∧ 0 ≤ i ∧ i < ((n / 2 : Nat) : Int))) (w : World) : Calls Try.prog 17 #[v, .slice x n c, .int .i64 i, .slice y m d] w fun e w' => e = .returned (.tuple #[.slice none 0 0, .bool false]) ∧ Below w.heap.size w w' := by
  have hIs := iis_tree x n c (by omega)
  have h3 : (n : Int).tdiv 2 = ((n / 2 : Nat) : Int) := (Int.ofNat_tdiv n 2).symm
  obtain ⟨ok, hok⟩ : ∃ ok, decide (trOk n) = ok := ⟨_, rfl⟩
  rw [hok] at hIs
  obtain ⟨q, HQ⟩ : ∃ q : Nat, Hid (n / 2 = q) := ⟨_, rfl⟩
  rw [HQ.out] at h3 hn
  have hw : IntKind.i64.wrap (q : Int) = q := by
    have := HQ.out
    rw [IntKind.wrap_i64]
    omega
  cases ok
  · clear hn hok hn2
    go_enter Try.func17, Try.ntmps17
    go_wp2_with fail
    refine (hIs _).mono ?_
    clear hIs
    rintro e w0 ⟨rfl, hb0⟩
    go_wp2
    go_ret2
    exact ⟨rfl, hb0⟩
  · have h4 : ¬ (0 ≤ i ∧ i < (q : Int)) := fun h => hn ⟨of_decide_eq_true hok, h⟩
    clear hn hok hn2
    by_cases h0 : i < 0
    · clear h4
      go_enter Try.func17, Try.ntmps17
      go_wp2_with fail
      refine (hIs _).mono ?_
      clear hIs
      rintro e w0 ⟨rfl, hb0⟩
      go_wp2
      go_ret2
      exact ⟨rfl, hb0⟩
    · have h5 : i ≥ (q : Int) := by omega
      clear h4
      go_enter Try.func17, Try.ntmps17
      go_wp2_with fail
      refine (hIs _).mono ?_
      clear hIs
      rintro e w0 ⟨rfl, hb0⟩
      go_wp2
      go_ret2
      exact ⟨rfl, hb0⟩
set_option maxHeartbeats 2000000 in
theorem itturn (hL : LockIs Inv) (F : Nat → Prop) (v : Value) (st : LSt) (L : List Pr) (x y : Option Addr) (n c m d i : Nat) (ys : List Int) (ht : trOk n) (hi : i < n / 2) (hS : st.sums.length ≤ 9000) (hm : m ≤ 4000) (by_ : Bytes ys) (fy : Fit y m d) (w : World) (hI : Inv F w v st) (hl : L.length = n) (sx : PRow w x n (fun i => L.getD i pr0)) (sy : SIn (fun k => ¬ F k) w y m ys) :
    Calls Try.prog 17 #[v, .slice x n c, .int .i64 (i : Int), .slice y m d] w fun e w' => ∃ g cg F', e = .returned (.tuple #[.slice (some ⟨g, 0, none⟩) n cg, .bool true]) ∧ KeptL Inv F w v F' w' (tturn st L i ys).1 ∧ PQ w' g n (tturn st L i ys).2 ∧ ¬ F' g ∧ w.heap.size ≤ g ∧ n ≤ cg ∧ cg ≤ maxLen := by
  have hlt0 := hL.lt hI
  have hn2 := ht.1
  have hn16 : 8 ≤ n ∧ n ≤ 32 := by
    rcases ht.2 with h | h | h <;> omega
  have hIs := iis_tree x n c (by omega)
  rw [decide_eq_true ht] at hIs
  have h3 : (n : Int).tdiv 2 = ((n / 2 : Nat) : Int) := (Int.ofNat_tdiv n 2).symm
  obtain ⟨R, HR⟩ : ∃ R : TS, Hid (tturn st L i ys = R) := ⟨_, rfl⟩
  rw [HR.out]
  obtain ⟨q, HQ0⟩ : ∃ q : Nat, Hid (n / 2 = q) := ⟨_, rfl⟩
  rw [HQ0.out] at h3 hi
  have HR2 : Hid (R = climb ((q + i) / 2) (lowS q i ys (st, L))) := hide' (by rw [← HR.out, tturn, hl, HQ0.out])
  have hw0 : IntKind.i64.wrap (q : Int) = q := by
    have := HQ0.out
    rw [IntKind.wrap_i64]
    omega
  have hi0 : ¬ (i : Int) < 0 := by omega
  have hi1 : ¬ (i : Int) ≥ q := by omega
  obtain ⟨J, HJ⟩ : ∃ J : Nat, Hid (q + i = J) := ⟨_, rfl⟩
  have hJn : J < n := by
    have := HJ.out
    have := HQ0.out
    omega
  have hwJ : IntKind.i64.wrap ((q : Int) + i) = (J : Int) := by
    have := HJ.out
    rw [IntKind.wrap_i64]
    omega
  obtain ⟨k0, HK0⟩ : ∃ k0 : Nat, Hid (J / 2 = k0) := ⟨_, rfl⟩
  have hd0 : (J : Int).tdiv 2 = (k0 : Int) := by
    rw [← HK0.out]
    exact (Int.ofNat_tdiv J 2).symm
  have hwk0 : IntKind.i64.wrap (k0 : Int) = k0 := by
    have := HK0.out
    rw [IntKind.wrap_i64]
    omega
  have HN2 := hide' hn2
  have HFY := hide' fy
  have HCL := hide' (fun w' sx' => ipclone x n c L (by omega) (by omega) hl w' sx')
  clear hn2 ht fy
  obtain ⟨a, rfl⟩ := hL.ptr hI
  go_enter Try.func17, Try.ntmps17
  go_wp2_with fail
  refine (hIs _).mono ?_
  clear hIs
  rintro e w0 ⟨rfl, hb0⟩
  go_wp2_with fail
  refine (HCL.out _ (sx.grown hb0)).mono ?_
  rintro e w1 ⟨g, cg, rfl, hq0, hgb, hcg1, hcg2, hb1⟩
  have HCG := hide' (And.intro hcg1 hcg2)
  clear hcg1 hcg2 HCL sx
  have hB0 : Below w.heap.size w w1 := hb0.trans (hb1.mono hb0.size)
  have hwg : w.heap.size ≤ g := Nat.le_trans hb0.size hgb
  clear hb0 hb1 hgb
  have hng0 : ¬ F g := fun h => by have := hlt0 g h; omega
  have hK0 : KeptL Inv F w (.pointer (some a)) F w1 st := hL.kept hI hB0
  have sy1 : SIn (fun k => ¬ F k) w1 y m ys := sy.off (Off.of_below (F := fun _ => False) hB0) (fun _ _ _ h => h)
  have hlow := ilow hL F (.pointer (some a)) st ys y m d (by omega) (by omega) by_ HFY.out w1 hK0.inv sy1
  obtain ⟨Q, HQ⟩ : ∃ Q, Hid (st.sumQ (lowZ ys) = Q) := ⟨_, rfl⟩
  rw [HQ.out] at hlow
  go_wp2_with fail
  refine hlow.mono ?_
  clear hlow sy sy1
  rintro e w2 ⟨rfl, F2, hK2⟩
  have hq2 : PQ w2 g n L := hq0.off hK2.off hng0
  have hng2 : ¬ F2 g := fun h => (hK2.sub g h).elim hng0 (fun h => by have := hq0.lt; omega)
  have e0 := hq2.c0 (i := J) hJn
  have e1 := hq2.c1 (i := J) hJn
  have e2 := hq2.frozen (J * 2)
  have e3 := hq2.frozen (J * 2 + 1)
  have hq3 := hq2.put J hJn Q
  have hK3 := (hK0.trans hK2).put hL hwg hng2 (PQ.offPut w2 g J (.int .u64 (nv Q.1)) (.int .u64 (nv Q.2)))
  have hJi : (J : Int) < n := by omega
  go_wp2_with fail
  clear e0 e1 e2 e3 hq2 hK2 hq0 hK0 hng0 hB0
  generalize (w2.setCell ⟨g, J * 2, none⟩ (.int .u64 (nv Q.1))).setCell ⟨g, J * 2 + 1, none⟩ (.int .u64 (nv Q.2)) = w3 at *
  go_loopw [12] (fun i wr => ∃ (k : Nat) (s : TS) (F1 : Nat → Prop), Hid (climb k s = R) ∧ k < q ∧ s.1.sums.length + k ≤ 9100 ∧ i = .int .i64 (k : Int) ∧ PQ wr g n s.2 ∧ KeptL Inv F w (.pointer (some a)) F1 wr s.1 ∧ ¬ F1 g) (fun i _ => (intOf i).toNat)
  case atStart => exact ⟨k0, (st.sumS (lowZ ys), L.set J Q), F2, hide' (by rw [HR2.out, lowS, HQ.out, HJ.out, HK0.out]), by have := HK0.out; have := HJ.out; omega, by have := sumS_len st (lowZ ys); have := HK0.out; show (st.sumS (lowZ ys)).sums.length + k0 ≤ _; omega, rfl, hq3, hK3, hng2⟩
  case round =>
    clear hq3 hK3 hng2
    obtain ⟨k, s, F1, Hcl, hk16, hsm, rfl, hq, hKR, hng⟩ := hrel
    by_cases hk1 : 1 ≤ k
    · have hk' : (k : Int) ≥ 1 := by omega
      obtain ⟨k2, HK2⟩ : ∃ k2 : Nat, Hid (k / 2 = k2) := ⟨_, rfl⟩
      have hdk : (k : Int).tdiv 2 = (k2 : Int) := by
        rw [← HK2.out]
        exact (Int.ofNat_tdiv k 2).symm
      have hwk : IntKind.i64.wrap (k2 : Int) = k2 := by
        have := HK2.out
        rw [IntKind.wrap_i64]
        omega
      have hkN : k < n ∧ 2 * k + 1 < n ∧ n ≤ 100 := by
        have := HQ0.out
        have := HN2.out
        omega
      have hkN' : (k : Int) < n := by omega
      have hhi := ihigh hL F1 (.pointer (some a)) s.1 s.2 g n cg k hkN.2.1 hkN.2.2 (by omega) wr hKR.inv hq hng
      obtain ⟨Q2, HQ2⟩ : ∃ Q2, Hid (s.1.sumQ (highOf k s.2) = Q2) := ⟨_, rfl⟩
      rw [HQ2.out] at hhi
      go_wp2_with fail
      refine hhi.mono ?_
      clear hhi
      rintro e w2 ⟨rfl, F2, hK2⟩
      have hq2 : PQ w2 g n s.2 := hq.off hK2.off hng
      have hng2 : ¬ F2 g := fun h => (hK2.sub g h).elim hng (fun h => by have := hq.lt; omega)
      have e0 := hq2.c0 (i := k) hkN.1
      have e1 := hq2.c1 (i := k) hkN.1
      have e2 := hq2.frozen (k * 2)
      have e3 := hq2.frozen (k * 2 + 1)
      have hq3 := hq2.put k hkN.1 Q2
      have hK3 := (hKR.trans hK2).put hL hwg hng2 (PQ.offPut w2 g k (.int .u64 (nv Q2.1)) (.int .u64 (nv Q2.2)))
      go_wp2_with fail
      clear e0 e1 e2 e3
      generalize (w2.setCell ⟨g, k * 2, none⟩ (.int .u64 (nv Q2.1))).setCell ⟨g, k * 2 + 1, none⟩ (.int .u64 (nv Q2.2)) = w3 at *
      go_wp2
      go_roundw
      case rel => exact ⟨k2, highS k s, F2, hide' (by rw [← Hcl.out, climb_k (show k ≠ 0 by omega) s, HK2.out]), by have := HK2.out; omega, by have := HK2.out; have := sumS_len s.1 (highOf k s.2); show (s.1.sumS _).sums.length + k2 ≤ _; omega, rfl, by rw [highS, HQ2.out]; exact hq3, hK3, hng2⟩
      case measure => have := HK2.out; simp [intOf]; omega
    · have hk' : ¬ (k : Int) ≥ 1 := by omega
      obtain rfl : k = 0 := by omega
      have e := Hcl.out
      rw [climb_0] at e
      subst e
      go_wp2
      go_ret2
      first | exact ⟨_, _, _, rfl, hKR, hq, hng, hwg, HCG.out.1, HCG.out.2⟩ | exact ⟨_, _, rfl, _, hKR, hq, hng, hwg, HCG.out.1, HCG.out.2⟩
end
theorem ittop (L : List Pr) (x : Option Addr) (n c : Nat) (ht : trOk n) (w : World) (sx : PRow w x n (fun i => L.getD i pr0)) :
    Calls Try.prog 14 #[.slice x n c] w fun e w' => e = .returned (.tuple #[.agg #[.int .u64 (nv (L.getD 1 pr0).1), .int .u64 (nv (L.getD 1 pr0).2)], .bool true]) ∧ Below w.heap.size w w' := by
  have hn16 : 8 ≤ n ∧ n ≤ 32 := by
    have := ht.1
    rcases ht.2 with h | h | h <;> omega
  have hIs := iis_tree x n c (by omega)
  rw [decide_eq_true ht] at hIs
  have bR := Box.new w 0 0
  have hB1 : Below w.heap.size w (w.alloc (.cells #[.int .u64 0, .int .u64 0] 34)) := (Below.refl _ _).alloc (Nat.le_refl _) _
  obtain ⟨g, o, rfl, hg, hc⟩ := (sx.grown hB1) (by omega)
  have hn1 : (1 : Int) < n := by omega
  replace hc := hc 1 (by omega)
  obtain ⟨q1, hq1⟩ : ∃ q1, nv (L.getD 1 pr0).1 = q1 := ⟨_, rfl⟩
  obtain ⟨q2, hq2⟩ : ∃ q2, nv (L.getD 1 pr0).2 = q2 := ⟨_, rfl⟩
  dsimp only at hc
  rw [hq1, hq2] at hc ⊢
  clear hq1 hq2 ht sx hn16
  go_enter Try.func14, Try.ntmps14
  go_wp2_with fail
  generalize w.alloc (.cells #[.int .u64 0, .int .u64 0] 34) = W1 at *
  refine (hIs _).mono ?_
  clear hIs
  rintro e w2 ⟨rfl, hb2⟩
  have hB2 := hB1.trans (hb2.mono hB1.size)
  have bR2 := bR.grown hb2
  have e0 : w2.cell? ⟨g, o + 1 * 2, none⟩ = some (.int .u64 q1) := (hb2.cell (p := ⟨g, o + 1 * 2, none⟩) hg).trans hc.1
  have e1 : w2.cell? ⟨g, o + 1 * 2 + 1, none⟩ = some (.int .u64 q2) := (hb2.cell (p := ⟨g, o + 1 * 2 + 1, none⟩) hg).trans hc.2
  have f0 := bR2.c0
  have f1 := bR2.c1
  have f2 := bR2.frozen 0
  have f3 := bR2.frozen 1
  have bR3 := bR2.put2 q1 q2
  have hB3 : Below w.heap.size w ((w2.setCell ⟨w.heap.size, 0, none⟩ (.int .u64 q1)).setCell ⟨w.heap.size, 1, none⟩ (.int .u64 q2)) := (hB2.setCell (p := ⟨w.heap.size, 0, none⟩) (Nat.le_refl _) _).setCell (p := ⟨w.heap.size, 1, none⟩) (Nat.le_refl _) _
  go_wp2
  clear e0 e1 f0 f1 f2 f3
  have r0 := bR3.c0
  have r1 := bR3.c1
  exact bodyPost_ret (v := .tuple #[.agg #[.int .u64 q1, .int .u64 q2], .bool true]) (by simp [results, Try.results14, go_sem, r0, r1]) rfl ⟨rfl, hB3⟩
theorem ittop_no (x : Option Addr) (n c : Nat) (hn : n ≤ 1000) (ht : ¬ trOk n) (w : World) : Calls Try.prog 14 #[.slice x n c] w fun e w' => e = .returned (.tuple #[.agg #[.int .u64 0, .int .u64 0], .bool false]) ∧ Below w.heap.size w w' := by
  have hIs := iis_tree x n c (by omega)
  rw [decide_eq_false ht] at hIs
  have bR := Box.new w 0 0
  have hB1 : Below w.heap.size w (w.alloc (.cells #[.int .u64 0, .int .u64 0] 34)) := (Below.refl _ _).alloc (Nat.le_refl _) _
  clear ht hn
  go_enter Try.func14, Try.ntmps14
  go_wp2_with fail
  generalize w.alloc (.cells #[.int .u64 0, .int .u64 0] 34) = W1 at *
  refine (hIs _).mono ?_
  clear hIs
  rintro e w2 ⟨rfl, hb2⟩
  have hB2 := hB1.trans (hb2.mono hB1.size)
  have bR2 := bR.grown hb2
  have f0 := bR2.c0
  have f1 := bR2.c1
  have f2 := bR2.frozen 0
  have f3 := bR2.frozen 1
  have bR3 := bR2.put2 0 0
  have hB3 : Below w.heap.size w ((w2.setCell ⟨w.heap.size, 0, none⟩ (.int .u64 0)).setCell ⟨w.heap.size, 1, none⟩ (.int .u64 0)) := (hB2.setCell (p := ⟨w.heap.size, 0, none⟩) (Nat.le_refl _) _).setCell (p := ⟨w.heap.size, 1, none⟩) (Nat.le_refl _) _
  go_wp2
  clear f0 f1 f2 f3
  have r0 := bR3.c0
  have r1 := bR3.c1
  exact bodyPost_ret (v := .tuple #[.agg #[.int .u64 0, .int .u64 0], .bool false]) (by simp [results, Try.results14, go_sem, r0, r1]) rfl ⟨rfl, hB3⟩
theorem tree_all {Inv : (Nat → Prop) → World → Value → LSt → Prop} (hL : LockIs Inv) : TreeAll Inv where
  build := fun F v st P x n c hn hP hS _ w hI sx => (itbuild hL F v st P x n c hn hP hS w hI sx).mono (by
    rintro e w' ⟨g, F', rfl, hK, hq, hg, hwg⟩
    exact ⟨_, _, F', rfl, hK, hq.pin ⟨hg, hwg⟩, Nat.le_refl _, by
      have : n ≤ 16 := by
        rcases hn with h | h | h <;> omega
      unfold maxLen
      omega, fun e => by cases e⟩)
  buildNo := fun _ v _ x n c hn w _ => (itbuild_no v x n c hn w).mono (by
    rintro e w' ⟨rfl, hb⟩
    exact ⟨_, _, rfl, fit_none, hb⟩)
  turn := fun F v st L x y n c m d i ys ht hi hS hm by_ _ fy w hI sx sy => (itturn hL F v st L x y n c m d i ys ht hi hS hm by_ fy w hI sx.1 sx.prow sy).mono (by
    rintro e w' ⟨g, cg, F', rfl, hK, hq, hg, hwg, h1, h2⟩
    exact ⟨_, _, F', rfl, hK, hq.pin ⟨hg, hwg⟩, h1, h2, fun e => by cases e⟩)
  turnNo := fun _ v _ x y n c m d i hn2 hn w _ => (itturn_no v x y n c m d i hn2 hn w).mono (by
    rintro e w' ⟨rfl, hb⟩
    exact ⟨_, _, rfl, fit_none, hb⟩)
  top := fun L x n c ht _ w _ sx => ittop L x n c ht w sx
  topNo := fun x n c hn ht w => ittop_no x n c hn ht w
end Go.Proofs.Ytkbhkgfchiacbaa


/- A slice of structs, cell by cell. -/
namespace Go.Proofs.Ytkbhkgfchiacbaa
open Go.RowKit
set_option maxRecDepth 20000

/-- A slice of m things of so many cells each, of each of which R holds. -/
def RowsAt {α : Type} [Inhabited α] (size : Nat) (R : World → List Value → α → Prop) (w : World) (x : Option Addr) (m : Nat) (L : List α) : Prop :=
  L.length = m ∧ (0 < m → ∃ b o, x = some ⟨b, o, none⟩ ∧ b < w.heap.size ∧ ∀ i, i < m → ∃ cs, cs.length = size ∧ (∀ j u, cs[j]? = some u → w.cell? ⟨b, o + i * size + j, none⟩ = some u) ∧ R w cs (L.getD i default))
end Go.Proofs.Ytkbhkgfchiacbaa


/- A slice of structs that came in. -/
namespace Go.Proofs.Ytkbhkgfchiacbaa
open Go.ChangeShapes Go.WideShapes Go.ChangeAt Go.RowKit Go.Deep
set_option maxRecDepth 20000

theorem view_each {α : Type} [Inhabited α] {T E size : Nat} (hT : Try.prog.underlying T = some (.slice E)) (hE : Try.prog.cellsOf E = size) (h0 : 0 < size) {R : World → List Value → α → Prop} {H : Type} {enc : TypeId × Value → H} {W : World} {base : Nat} {v : Value} {d : DataW H} {p : List MemPlace}
    (each : ∀ (fuel : Nat) (cs : List Value) (e : DataW H × List MemPlace), cs.length = size → DataW.trod enc Try.prog W 0 (fun _ => true) true fuel E cs = some e → (∀ q ∈ e.2, q.block < W.heap.size) → ∃ a, R W cs a)
    (hok : Value.okWide Try.prog W .any base T v) (h : DataW.Trod enc Try.prog W 0 (fun _ => true) true T v d p) (hlt : ∀ x ∈ p, x.block < W.heap.size) :
    ∃ (x : Option Addr) (m c : Nat) (L : List α), v = .slice x m c ∧ (m ≤ c ∧ c ≤ maxLen ∧ (x = none → m = 0 ∧ c = 0)) ∧ RowsAt size R W x m L := by
  obtain ⟨a0, len, cap, rfl⟩ := okWide_slice hT hok
  obtain ⟨fuel, hf⟩ := h
  rcases open_slice hT hf with ⟨hcs, _⟩ | ⟨a, len', cap', m, n, D, Pl, hcs, _, hl, hm, hmm, hx, hel⟩
  · simp [Value.cells] at hcs
    obtain ⟨rfl, rfl, rfl⟩ := hcs
    exact ⟨none, 0, 0, [], rfl, ⟨Nat.le_refl _, Nat.zero_le _, fun _ => ⟨rfl, rfl⟩⟩, rfl, fun h => absurd h (by omega)⟩
  · simp [Value.cells] at hcs
    obtain ⟨rfl, rfl, rfl⟩ := hcs
    simp only [Prod.mk.injEq] at hx
    rw [hE] at hel
    have hlm : len ≤ m := by rw [hmm]; split <;> omega
    have each' : ∀ i, ∃ A : α, i < len → ∃ cs, cs.length = size ∧ (∀ j u, cs[j]? = some u → W.cell? ((a.add (i * size)).add j) = some u) ∧ R W cs A := by
      intro i
      by_cases hi : i < len
      · obtain ⟨cs, hc, ht⟩ := hel i (by omega)
        have hs := World.cells?_some hc
        obtain ⟨A, r⟩ := each _ _ _ hs.2.1 ht (fun q hq => hlt q (by rw [hx.2]; exact List.mem_append_right _ (List.mem_flatMap.2 ⟨i, List.mem_range.2 (by omega), hq⟩)))
        refine ⟨A, fun _ => ⟨cs, hs.2.1, fun j u hj => ?_, r⟩⟩
        have hj10 : j < size := by
          rcases Nat.lt_or_ge j cs.length with h' | h'
          · rw [hs.2.1] at h'; exact h'
          · rw [List.getElem?_eq_none h'] at hj
            cases hj
        have := hs.2.2 j hj10
        rw [this]
        exact hj
      · exact ⟨default, fun h => absurd h hi⟩
    obtain ⟨f, hf2⟩ := Classical.axiomOfChoice each'
    refine ⟨some a, len, cap, (List.range len).map f, rfl, ⟨hl, hm, fun e => by cases e⟩, by simp, fun hn => ?_⟩
    obtain ⟨b, off, spot⟩ := a
    obtain ⟨cs, hcl, hc0, _⟩ := hf2 0 hn
    have hcell0 := hc0 0 cs[0] (List.getElem?_eq_getElem (by omega))
    have hspot : spot = none := by simpa [Addr.add] using World.cell?_spot hcell0
    subst hspot
    refine ⟨b, off, rfl, World.block_lt_of_cell? W _ (by simpa [add_plain'] using hcell0), fun i hi => ?_⟩
    rw [show ((List.range len).map f).getD i default = f i from by simp [hi]]
    obtain ⟨cs, hcl, hc1, r⟩ := hf2 i hi
    refine ⟨cs, hcl, fun j u hj => ?_, r⟩
    have := hc1 j u hj
    rw [add_plain', add_plain'] at this
    exact this
end Go.Proofs.Ytkbhkgfchiacbaa


/- A slice of bytes that came in, as SAt. -/
namespace Go.Proofs.Ytkbhkgfchiacbaa
open Go.ChangeShapes Go.WideShapes Go.ChangeAt Go.RowKit
set_option maxRecDepth 20000

theorem view_sat {H : Type} {enc : TypeId × Value → H} {W : World} {base : Nat} {v : Value} {d : DataW H} {p : List MemPlace}
    (hok : Value.okWide Try.prog W .any base 40 v) (h : DataW.Trod enc Try.prog W 0 (fun _ => true) true 40 v d p) (hlt : ∀ x ∈ p, x.block < W.heap.size) :
    ∃ (x : Option Addr) (n c : Nat) (xs : List Int), v = .slice x n c ∧ n ≤ c ∧ c ≤ maxLen ∧ Bytes xs ∧ SAt W x n xs ∧ (x = none → n = 0 ∧ c = 0) := by
  have hv := view_bytes hok h hlt
  obtain ⟨a, n, cap, xs, rfl, hn, hnc, hcm, hx, hat⟩ := hv
  refine ⟨a, n, cap, xs, rfl, hnc, hcm, hx, ⟨hn, fun hl => ?_⟩, fun e => ?_⟩
  · rcases hat with h | ⟨b, off, e, hb, ha⟩
    · omega
    · exact ⟨b, off, e, hb, ha⟩
  · subst e
    obtain ⟨fuel, hf⟩ := h
    rcases open_ints Try.underlying40 Try.underlying5 Try.cells5 hf with ⟨hcs, _⟩ | ⟨a, len', cap', zs, hcs, _⟩
    · simp [Value.cells] at hcs
      exact hcs
    · simp [Value.cells] at hcs
end Go.Proofs.Ytkbhkgfchiacbaa


/- A Nonce that came in by value. -/
namespace Go.Proofs.Ytkbhkgfchiacbaa
open Go.ChangeShapes Go.WideShapes Go.ChangeAt Go.RowKit
set_option maxRecDepth 20000

theorem Try.cells72 : Try.prog.cellsOf 72 = 1 := by kernel_rfl
theorem Try.cells74 : Try.prog.cellsOf 74 = 3 := by kernel_rfl
theorem three_of {α : Type} (cs : Array α) (h : cs.size = 3) : ∃ a b c, cs = #[a, b, c] := by
  obtain ⟨l⟩ := cs
  match l, h with
  | [a, b, c], _ => exact ⟨a, b, c, rfl⟩
theorem word32_of {a : Int} (h : (Lit.int .u32 a).wf = true) : ∃ x : BitVec 32, a = nv32 x := by
  have hx : 0 ≤ a ∧ a ≤ 4294967295 := by simpa [Lit.wf, IntKind.min, IntKind.max, IntKind.signed, IntKind.bits] using h
  exact ⟨BitVec.ofInt 32 a, (nv32_of a hx.1 (by omega)).symm⟩
theorem view_nonce {H : Type} {enc : TypeId × Value → H} {W : World} {base : Nat} {v : Value} {d : DataW H} {p : List MemPlace}
    (hok : Value.okWide Try.prog W .any base 74 v) (h : DataW.Trod enc Try.prog W 0 (fun _ => true) true 74 v d p) :
    ∃ n : Nn, v = .agg #[.int .u32 (nv32 n.1), .int .u32 (nv32 n.2.1), .int .u64 (nv n.2.2)] := by
  simp only [Value.okWide, Try.underlying74] at hok
  obtain ⟨cs, rfl, hsz, _⟩ := hok
  rw [Try.cells74] at hsz
  obtain ⟨c0, c1, c2, rfl⟩ := three_of cs hsz
  obtain ⟨fuel, hf⟩ := h
  obtain ⟨y0, y1, y2, m, _, _, h0, h1, h2⟩ := Deep.trod_struct3 Try.underlying74 hf
  simp [Try.cells32, Try.cells72, Value.cells] at h0 h1 h2
  obtain ⟨a, e0, _, wa⟩ := DataW.trod_int Try.underlying72 h0
  obtain ⟨b, e1, _, wb⟩ := DataW.trod_int Try.underlying72 h1
  obtain ⟨c, e2, _, wc⟩ := DataW.trod_int Try.underlying32 h2
  simp at e0 e1 e2
  subst e0 e1 e2
  obtain ⟨x, rfl⟩ := word32_of wa
  obtain ⟨y, rfl⟩ := word32_of wb
  obtain ⟨z, rfl⟩ := word_of wc
  exact ⟨(x, y, z), rfl⟩
end Go.Proofs.Ytkbhkgfchiacbaa


/- A Pair, a Nonce and a slice of bytes that came in, cell by cell. -/
namespace Go.Proofs.Ytkbhkgfchiacbaa
open Go.ChangeShapes Go.WideShapes Go.ChangeAt Go.RowKit
set_option maxRecDepth 20000

theorem Try.cells40 : Try.prog.cellsOf 40 = 1 := by kernel_rfl
theorem pair_cells {H : Type} {enc : TypeId × Value → H} {W : World} {fuel : Nat} {cs : List Value} {e : DataW H × List MemPlace} (h : DataW.trod enc Try.prog W 0 (fun _ => true) true fuel 34 cs = some e) :
    ∃ q : BitVec 64 × BitVec 64, cs = [.int .u64 (nv q.1), .int .u64 (nv q.2)] := by
  obtain ⟨xs, m, _, _, hcl, hl, hx⟩ := DataW.trod_array Try.underlying34 h
  rw [Try.cells34] at hcl
  match cs, hcl with
  | [c0, c1], _ =>
    have h0 := hx 0 (by decide)
    have h1 := hx 1 (by decide)
    simp [Try.cells32] at h0 h1
    rw [List.getElem?_eq_getElem (show 0 < xs.length by omega)] at h0
    rw [List.getElem?_eq_getElem (show 1 < xs.length by omega)] at h1
    obtain ⟨a, e0, _, wa⟩ := DataW.trod_int Try.underlying32 h0
    obtain ⟨b, e1, _, wb⟩ := DataW.trod_int Try.underlying32 h1
    simp at e0 e1
    subst e0 e1
    obtain ⟨x, rfl⟩ := word_of wa
    obtain ⟨y, rfl⟩ := word_of wb
    exact ⟨(x, y), rfl⟩
theorem sat_cells {H : Type} {enc : TypeId × Value → H} {W : World} {fuel : Nat} {v : Value} {e : DataW H × List MemPlace} (h : DataW.trod enc Try.prog W 0 (fun _ => true) true fuel 40 [v] = some e) (hlt : ∀ q ∈ e.2, q.block < W.heap.size) :
    ∃ (x : Option Addr) (n c : Nat) (xs : List Int), v = .slice x n c ∧ n ≤ c ∧ c ≤ maxLen ∧ Bytes xs ∧ SAt W x n xs ∧ (x = none → n = 0 ∧ c = 0) := by
  rcases open_ints Try.underlying40 Try.underlying5 Try.cells5 h with ⟨hcs, hx⟩ | ⟨a, len, cap, zs, hcs, _, hl, hm, hz, hx, hcell, hwz⟩
  · simp at hcs
    subst hcs
    exact ⟨none, 0, 0, [], rfl, Nat.le_refl _, Nat.zero_le _, (fun x hx => by cases hx), SAt.none _ _, fun _ => ⟨rfl, rfl⟩⟩
  · simp at hcs
    subst hcs
    subst hx
    simp only [if_true] at hz
    have hlen : (zs.take len).length = len := by rw [List.length_take]; omega
    refine ⟨some a, len, cap, zs.take len, rfl, hl, hm, fun x hx => u8_range (hwz x (List.mem_of_mem_take hx)), ⟨hlen, fun hl0 => ?_⟩, fun e => by cases e⟩
    obtain ⟨b, off, spot⟩ := a
    have hspot : spot = none := by simpa [Addr.add] using World.cell?_spot (hcell 0 (by omega))
    subst hspot
    refine ⟨b, off, rfl, hlt (.cell b off) (MemPlace.mem_row.2 ⟨0, by omega, by simp⟩), fun i hi => ?_⟩
    rw [hlen] at hi
    rw [← add_plain', hcell i (by omega)]
    simp [hi]
theorem nonce_cells {H : Type} {enc : TypeId × Value → H} {W : World} {fuel : Nat} {c0 c1 c2 : Value} {e : DataW H × List MemPlace} (h : DataW.trod enc Try.prog W 0 (fun _ => true) true fuel 74 [c0, c1, c2] = some e) :
    ∃ n : Nn, c0 = .int .u32 (nv32 n.1) ∧ c1 = .int .u32 (nv32 n.2.1) ∧ c2 = .int .u64 (nv n.2.2) := by
  obtain ⟨y0, y1, y2, m, _, _, h0, h1, h2⟩ := Deep.trod_struct3 Try.underlying74 h
  simp [Try.cells32, Try.cells72] at h0 h1 h2
  obtain ⟨a, e0, _, wa⟩ := DataW.trod_int Try.underlying72 h0
  obtain ⟨b, e1, _, wb⟩ := DataW.trod_int Try.underlying72 h1
  obtain ⟨c, e2, _, wc⟩ := DataW.trod_int Try.underlying32 h2
  simp at e0 e1 e2
  subst e0 e1 e2
  obtain ⟨x, rfl⟩ := word32_of wa
  obtain ⟨y, rfl⟩ := word32_of wb
  obtain ⟨z, rfl⟩ := word_of wc
  exact ⟨(x, y, z), rfl, rfl, rfl⟩
end Go.Proofs.Ytkbhkgfchiacbaa


/- Bytes that came in, in blocks that were there. -/
namespace Go.Proofs.Ytkbhkgfchiacbaa
open Go.RowKit
set_option maxRecDepth 20000

theorem sat_sin {W : World} {x : Option Addr} {n : Nat} {xs : List Int} (s : SAt W x n xs) : SIn (fun k => k < W.heap.size) W x n xs := ⟨s.1, fun h0 => by
  obtain ⟨b', o', e', hb', ha⟩ := s.2 h0
  exact ⟨b', o', e', hb', hb', ha⟩⟩
end Go.Proofs.Ytkbhkgfchiacbaa


/- Slices of rows of bytes, and of Pairs, that came in. -/
namespace Go.Proofs.Ytkbhkgfchiacbaa
open Go.ChangeShapes Go.WideShapes Go.ChangeAt Go.RowKit Go.Deep
set_option maxRecDepth 20000

def RowR (w : World) (cs : List Value) (ys : List Int) : Prop := ∃ y c, cs = [.slice y ys.length c] ∧ SAt w y ys.length ys ∧ Fit y ys.length c ∧ Bytes ys
theorem row_cells {H : Type} {enc : TypeId × Value → H} {W : World} (fuel : Nat) (cs : List Value) (e : DataW H × List MemPlace) (hl : cs.length = 1) (h : DataW.trod enc Try.prog W 0 (fun _ => true) true fuel 40 cs = some e) (hlt : ∀ q ∈ e.2, q.block < W.heap.size) : ∃ a, RowR W cs a := by
  match cs, hl with
  | [c], _ =>
    obtain ⟨x, n, d, xs, rfl, f1, f2, b, s, f3⟩ := sat_cells h hlt
    obtain rfl : xs.length = n := s.1
    exact ⟨xs, x, d, rfl, s, ⟨f1, f2, f3⟩, b⟩
theorem rows_lin {W : World} {x : Option Addr} {m : Nat} {L : List (List Int)} (h : RowsAt 1 RowR W x m L) : LIn (fun k => k < W.heap.size) W x m L := by
  refine ⟨h.1, fun hm => ?_⟩
  obtain ⟨b, o, e, hb, hr⟩ := h.2 hm
  refine ⟨b, o, e, hb, hb, fun i hi => ?_⟩
  obtain ⟨cs, hcl, hc, y, c, rfl, s, f, bs⟩ := hr i hi
  have hc0 := hc 0 _ rfl
  rw [Nat.mul_one, Nat.add_zero] at hc0
  refine ⟨y, c, hc0, ⟨s.1, fun h0 => ?_⟩, f.1, f.2.1, f.2.2, bs⟩
  obtain ⟨b', o', e', hb', ha⟩ := s.2 h0
  exact ⟨b', o', e', hb', hb', ha⟩
def PairR (_w : World) (cs : List Value) (q : Pr) : Prop := cs = [.int .u64 (nv q.1), .int .u64 (nv q.2)]
theorem prow_cells {H : Type} {enc : TypeId × Value → H} {W : World} (fuel : Nat) (cs : List Value) (e : DataW H × List MemPlace) (_hl : cs.length = 2) (h : DataW.trod enc Try.prog W 0 (fun _ => true) true fuel 34 cs = some e) (_hlt : ∀ q ∈ e.2, q.block < W.heap.size) : ∃ a, PairR W cs a := pair_cells h
theorem pairs_pin {W : World} {x : Option Addr} {m : Nat} {L : List Pr} (h : RowsAt 2 PairR W x m L) : PIn (fun k => k < W.heap.size) W x m L := by
  refine ⟨h.1, fun hm => ?_⟩
  obtain ⟨b, o, e, hb, hr⟩ := h.2 hm
  refine ⟨b, o, e, hb, hb, fun i hi => ?_⟩
  obtain ⟨cs, hcl, hc, rfl⟩ := hr i hi
  exact ⟨hc 0 _ rfl, hc 1 _ rfl⟩
end Go.Proofs.Ytkbhkgfchiacbaa
