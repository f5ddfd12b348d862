/- What lockboxref3's functions come to. -/
import Derived.Test.YtkkehbebaokdmaaHid
import Derived.Test.YtkkehbebaokdmaaFld
import Derived.Test.YtkkehbebaokdmaaEqP
import Derived.Test.YtkkehbebaokdmaaRegion
namespace Go.Proofs.Ytkkehbebaokdmaa
open Go.RowKit
set_option maxRecDepth 20000


set_option maxHeartbeats 400000 in
theorem radd (p q : BitVec 64 × BitVec 64) (w : World) : Calls Try.prog 62 #[.agg #[.int .u64 (nv p.1), .int .u64 (nv p.2)], .agg #[.int .u64 (nv q.1), .int .u64 (nv q.2)]] w fun e w' => e = .returned (.agg #[.int .u64 (nv (addP p q).1), .int .u64 (nv (addP p q).2)]) ∧ Below w.heap.size w w' := by
  have h1 := nv_xor p.1 q.1
  have h2 := nv_xor p.2 q.2
  go_enter Try.func62, Try.ntmps62
  go_wp2
  refine bodyPost_ret (v := .agg #[.int .u64 (nv (addP p q).1), .int .u64 (nv (addP p q).2)]) (by simp [results, Try.results62, go_sem, addP]) rfl ⟨rfl, by go_grown⟩

theorem agg2 {a b c d : Int} (h1 : a = c) (h2 : b = d) : Ending.returned (.agg #[.int .u64 a, .int .u64 b]) = .returned (.agg #[.int .u64 c, .int .u64 d]) := by rw [h1, h2]
theorem top_is (x : BitVec 64) : (nv x / 9223372036854775808 == 1) = decide (x >>> 63 = 1#64) := by
  rw [nv_shr63, ← nv_one, nv_eq]
theorem tw1 (p : BitVec 64 × BitVec 64) : bits .or .u64 (IntKind.u64.wrap (nv p.1 * 2)) (nv p.2 / 9223372036854775808) = nv (twiceP p).1 := by
  rw [nv_shl1, nv_shr63, nv_or, twiceP]
theorem tw2 (p : BitVec 64 × BitVec 64) (h : (nv p.1 / 9223372036854775808 == 1) = true) : bits .xor .u64 (IntKind.u64.wrap (nv p.2 * 2)) 135 = nv (twiceP p).2 := by
  rw [top_is, decide_eq_true_eq] at h
  rw [nv_shl1, ← nv_135, nv_xor, twiceP]
  simp only [h, if_true]
theorem tw3 (p : BitVec 64 × BitVec 64) (h : (nv p.1 / 9223372036854775808 == 1) = false) : IntKind.u64.wrap (nv p.2 * 2) = nv (twiceP p).2 := by
  rw [top_is, decide_eq_false_iff_not] at h
  rw [nv_shl1, twiceP]
  simp only [h, if_false]

set_option maxHeartbeats 400000 in
theorem rtwice (p : BitVec 64 × BitVec 64) (w : World) : Calls Try.prog 82 #[.agg #[.int .u64 (nv p.1), .int .u64 (nv p.2)]] w fun e w' => e = .returned (.agg #[.int .u64 (nv (twiceP p).1), .int .u64 (nv (twiceP p).2)]) ∧ Below w.heap.size w w' := by
  go_enter Try.func82, Try.ntmps82
  go_wp2
  · have h : (nv p.1 / 9223372036854775808 == 1) = true := by assumption
    refine bodyPost_ret (v := .agg #[.int .u64 (bits .or .u64 (IntKind.u64.wrap (nv p.1 * 2)) (nv p.2 / 9223372036854775808)), .int .u64 (bits .xor .u64 (IntKind.u64.wrap (nv p.2 * 2)) 135)]) (by simp [results, Try.results82, go_sem]) rfl ⟨agg2 (tw1 p) (tw2 p h), by go_grown⟩
  · have h : (nv p.1 / 9223372036854775808 == 1) = false := by assumption
    refine bodyPost_ret (v := .agg #[.int .u64 (bits .or .u64 (IntKind.u64.wrap (nv p.1 * 2)) (nv p.2 / 9223372036854775808)), .int .u64 (IntKind.u64.wrap (nv p.2 * 2))]) (by simp [results, Try.results82, go_sem]) rfl ⟨agg2 (tw1 p) (tw3 p h), by go_grown⟩

theorem digit_hi (b : BitVec 64 × BitVec 64) (n : Nat) (h : n ≤ 63) : (bits .and .u64 (nv b.1 / 2 ^ ((127 - n) % 64)) 1 == 1) = (cat b).getLsbD (127 - n) := by
  rw [digit, cat_bit, if_neg (by omega), show (127 - n) % 64 = 127 - n - 64 from by omega]
theorem digit_lo (b : BitVec 64 × BitVec 64) (n : Nat) (h : 63 < n) (h2 : n < 128) : (bits .and .u64 (nv b.2 / 2 ^ ((127 - n) % 64)) 1 == 1) = (cat b).getLsbD (127 - n) := by
  rw [digit, cat_bit, if_pos (by omega), show (127 - n) % 64 = 127 - n from by omega]

set_option maxHeartbeats 1000000 in
theorem rmul (a b : BitVec 64 × BitVec 64) (w : World) : Calls Try.prog 77 #[.agg #[.int .u64 (nv a.1), .int .u64 (nv a.2)], .agg #[.int .u64 (nv b.1), .int .u64 (nv b.2)]] w fun e w' => e = .returned (.agg #[.int .u64 (nv (fmul a b).1), .int .u64 (nv (fmul a b).2)]) ∧ Below w.heap.size w w' := by
  go_enter Try.func77, Try.ntmps77
  go_wp2
  have bA := (((Box.new w (nv a.1) (nv a.2)).alloc (.cells #[.int .u64 (nv b.1), .int .u64 (nv b.2)] 30)).alloc (.cells #[.int .u64 0, .int .u64 0] 30)).alloc (.cells #[.int .u64 0, .int .u64 0] 30)
  have bB := ((Box.new (w.alloc (.cells #[.int .u64 (nv a.1), .int .u64 (nv a.2)] 30)) (nv b.1) (nv b.2)).alloc (.cells #[.int .u64 0, .int .u64 0] 30)).alloc (.cells #[.int .u64 0, .int .u64 0] 30)
  have bR := (Box.new ((w.alloc (.cells #[.int .u64 (nv a.1), .int .u64 (nv a.2)] 30)).alloc (.cells #[.int .u64 (nv b.1), .int .u64 (nv b.2)] 30)) 0 0).alloc (.cells #[.int .u64 0, .int .u64 0] 30)
  have bO := Box.new (((w.alloc (.cells #[.int .u64 (nv a.1), .int .u64 (nv a.2)] 30)).alloc (.cells #[.int .u64 (nv b.1), .int .u64 (nv b.2)] 30)).alloc (.cells #[.int .u64 0, .int .u64 0] 30)) 0 0
  have hB : Below w.heap.size w ((((w.alloc (.cells #[.int .u64 (nv a.1), .int .u64 (nv a.2)] 30)).alloc (.cells #[.int .u64 (nv b.1), .int .u64 (nv b.2)] 30)).alloc (.cells #[.int .u64 0, .int .u64 0] 30)).alloc (.cells #[.int .u64 0, .int .u64 0] 30)) := by go_grown
  simp only [World.size_alloc] at bA bB bR bO
  generalize (((w.alloc (.cells #[.int .u64 (nv a.1), .int .u64 (nv a.2)] 30)).alloc (.cells #[.int .u64 (nv b.1), .int .u64 (nv b.2)] 30)).alloc (.cells #[.int .u64 0, .int .u64 0] 30)).alloc (.cells #[.int .u64 0, .int .u64 0] 30) = W at *
  go_loopw [6] (fun i wr => ∃ n : Nat, n ≤ 128 ∧ i = .int .i64 (127 - (n : Int)) ∧ Box wr w.heap.size (nv a.1) (nv a.2) ∧ Box wr (w.heap.size + 1) (nv b.1) (nv b.2) ∧ Box wr (w.heap.size + 1 + 1) 0 0 ∧ Box wr (w.heap.size + 1 + 1 + 1) (nv (mulP a b n).1) (nv (mulP a b n).2) ∧ Below w.heap.size w wr) (fun i _ => (intOf i + 1).toNat)
  case atStart => exact ⟨0, by decide, rfl, bA, bB, bR, bO, hB⟩
  case round =>
    obtain ⟨n, hn, rfl, bA, bB, bR, bO, hB⟩ := hrel
    by_cases hlt : n < 128
    · have HM := hide' (mulP_succ a b n)
      generalize mulP a b n = q at *
      have o0 := bO.c0
      have o1 := bO.c1
      go_wp2_with fail
      refine (rtwice q _).mono ?_
      rintro e w1 ⟨rfl, hb1⟩
      have bA1 := bA.grown hb1
      have bB1 := bB.grown hb1
      have bR1 := bR.grown hb1
      have bO1 := bO.grown hb1
      have hB1 := hB.trans (hb1.mono hB.size)
      clear o0 o1 hb1 bA bB bR bO hB
      have g0 := bO1.c0
      have g1 := bO1.c1
      have g2 := bO1.frozen 0
      have g3 := bO1.frozen 1
      have k0 := bB1.c0
      have k1 := bB1.c1
      have k2 := bA1.c0
      have k3 := bA1.c1
      by_cases h64 : n ≤ 63
      · go_wp2_with fail
        · have hd : (bits .and .u64 (nv b.1 / 2 ^ ((127 - n) % 64)) 1 == 1) = true := by assumption
          rw [digit_hi b n h64] at hd
          have bA2 := bA1.set2 (o := w.heap.size + 1 + 1 + 1) (by omega) (.int .u64 (nv (twiceP q).1)) (.int .u64 (nv (twiceP q).2))
          have bB2 := bB1.set2 (o := w.heap.size + 1 + 1 + 1) (by omega) (.int .u64 (nv (twiceP q).1)) (.int .u64 (nv (twiceP q).2))
          have bR2 := bR1.set2 (o := w.heap.size + 1 + 1 + 1) (by omega) (.int .u64 (nv (twiceP q).1)) (.int .u64 (nv (twiceP q).2))
          have bO2 := bO1.put2 (nv (twiceP q).1) (nv (twiceP q).2)
          have hB2 := (hB1.setCell (p := ⟨w.heap.size + 1 + 1 + 1, 0, none⟩) (by simp only; omega) (.int .u64 (nv (twiceP q).1))).setCell (p := ⟨w.heap.size + 1 + 1 + 1, 1, none⟩) (by simp only; omega) (.int .u64 (nv (twiceP q).2))
          refine (radd (twiceP q) a _).mono ?_
          rintro e w3 ⟨rfl, hb3⟩
          have bA3 := bA2.grown hb3
          have bB3 := bB2.grown hb3
          have bR3 := bR2.grown hb3
          have bO3 := bO2.grown hb3
          have hB3 := hB2.trans (hb3.mono hB2.size)
          clear g0 g1 g2 g3 k0 k1 k2 k3 bA1 bB1 bR1 bO1 hB1 bA2 bB2 bR2 bO2 hB2 hb3
          have g0 := bO3.c0
          have g1 := bO3.c1
          have g2 := bO3.frozen 0
          have g3 := bO3.frozen 1
          go_wp2
          go_roundw
          case rel =>
            refine ⟨n + 1, hlt, by rw [show (127 : Int) - n - 1 = 127 - ((n + 1 : Nat) : Int) from by omega], bA3.set2 (by omega) _ _, bB3.set2 (by omega) _ _, bR3.set2 (by omega) _ _, ?_, (hB3.setCell (by simp only; omega) _).setCell (by simp only; omega) _⟩
            rw [HM.out, if_pos hd]
            exact bO3.put2 _ _
          case measure => simp [intOf]; omega
        · have hd : (bits .and .u64 (nv b.1 / 2 ^ ((127 - n) % 64)) 1 == 1) = false := by assumption
          rw [digit_hi b n h64] at hd
          go_roundw
          case rel =>
            refine ⟨n + 1, hlt, by rw [show (127 : Int) - n - 1 = 127 - ((n + 1 : Nat) : Int) from by omega], bA1.set2 (by omega) _ _, bB1.set2 (by omega) _ _, bR1.set2 (by omega) _ _, ?_, (hB1.setCell (by simp only; omega) _).setCell (by simp only; omega) _⟩
            rw [HM.out, if_neg (by rw [hd]; decide)]
            exact bO1.put2 _ _
          case measure => simp [intOf]; omega
      · go_wp2_with fail
        · have hd : (bits .and .u64 (nv b.2 / 2 ^ ((127 - n) % 64)) 1 == 1) = true := by assumption
          rw [digit_lo b n (by omega) hlt] at hd
          have bA2 := bA1.set2 (o := w.heap.size + 1 + 1 + 1) (by omega) (.int .u64 (nv (twiceP q).1)) (.int .u64 (nv (twiceP q).2))
          have bB2 := bB1.set2 (o := w.heap.size + 1 + 1 + 1) (by omega) (.int .u64 (nv (twiceP q).1)) (.int .u64 (nv (twiceP q).2))
          have bR2 := bR1.set2 (o := w.heap.size + 1 + 1 + 1) (by omega) (.int .u64 (nv (twiceP q).1)) (.int .u64 (nv (twiceP q).2))
          have bO2 := bO1.put2 (nv (twiceP q).1) (nv (twiceP q).2)
          have hB2 := (hB1.setCell (p := ⟨w.heap.size + 1 + 1 + 1, 0, none⟩) (by simp only; omega) (.int .u64 (nv (twiceP q).1))).setCell (p := ⟨w.heap.size + 1 + 1 + 1, 1, none⟩) (by simp only; omega) (.int .u64 (nv (twiceP q).2))
          refine (radd (twiceP q) a _).mono ?_
          rintro e w3 ⟨rfl, hb3⟩
          have bA3 := bA2.grown hb3
          have bB3 := bB2.grown hb3
          have bR3 := bR2.grown hb3
          have bO3 := bO2.grown hb3
          have hB3 := hB2.trans (hb3.mono hB2.size)
          clear g0 g1 g2 g3 k0 k1 k2 k3 bA1 bB1 bR1 bO1 hB1 bA2 bB2 bR2 bO2 hB2 hb3
          have g0 := bO3.c0
          have g1 := bO3.c1
          have g2 := bO3.frozen 0
          have g3 := bO3.frozen 1
          go_wp2
          go_roundw
          case rel =>
            refine ⟨n + 1, hlt, by rw [show (127 : Int) - n - 1 = 127 - ((n + 1 : Nat) : Int) from by omega], bA3.set2 (by omega) _ _, bB3.set2 (by omega) _ _, bR3.set2 (by omega) _ _, ?_, (hB3.setCell (by simp only; omega) _).setCell (by simp only; omega) _⟩
            rw [HM.out, if_pos hd]
            exact bO3.put2 _ _
          case measure => simp [intOf]; omega
        · have hd : (bits .and .u64 (nv b.2 / 2 ^ ((127 - n) % 64)) 1 == 1) = false := by assumption
          rw [digit_lo b n (by omega) hlt] at hd
          go_roundw
          case rel =>
            refine ⟨n + 1, hlt, by rw [show (127 : Int) - n - 1 = 127 - ((n + 1 : Nat) : Int) from by omega], bA1.set2 (by omega) _ _, bB1.set2 (by omega) _ _, bR1.set2 (by omega) _ _, ?_, (hB1.setCell (by simp only; omega) _).setCell (by simp only; omega) _⟩
            rw [HM.out, if_neg (by rw [hd]; decide)]
            exact bO1.put2 _ _
          case measure => simp [intOf]; omega
    · have g0 := bO.c0
      have g1 := bO.c1
      have g2 := bR.frozen 0
      have g3 := bR.frozen 1
      have g4 := bR.c0
      have g5 := bR.c1
      obtain rfl : n = 128 := by omega
      go_wp2
      refine bodyPost_ret (v := .agg #[.int .u64 (nv (mulP a b 128).1), .int .u64 (nv (mulP a b 128).2)]) (by simp [results, Try.results77, go_sem, g4, g5]) rfl ⟨rfl, ?_⟩
      exact (hB.setCell (by simp only; omega) _).setCell (by simp only; omega) _
end Go.Proofs.Ytkkehbebaokdmaa
