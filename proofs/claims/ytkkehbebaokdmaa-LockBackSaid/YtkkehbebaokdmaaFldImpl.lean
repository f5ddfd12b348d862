/- What the program's field comes to: Add and Mul are the document's, for all Pairs. -/
import Derived.Test.YtkkehbebaokdmaaFldSaid
namespace Go.Proofs.Ytkkehbebaokdmaa
open Go.RowKit
set_option maxRecDepth 20000

set_option maxHeartbeats 400000 in
theorem add_said : AddSaid := by
  intro p q w
  have h1 := nv_xor p.1 q.1
  have h2 := nv_xor p.2 q.2
  go_enter Try.func71, Try.ntmps71
  go_wp2
  refine bodyPost_ret (v := .agg #[.int .u64 (nv (addP p q).1), .int .u64 (nv (addP p q).2)]) (by simp [results, Try.results71, go_sem, addP]) rfl ⟨rfl, by go_grown⟩

theorem top_mul (x : BitVec 64) : IntKind.u64.wrap (nv x / 9223372036854775808 * 135) = nv (if x >>> 63 = 1#64 then 135#64 else 0#64) := by
  rw [nv_shr63]
  have h : x >>> 63 = 0#64 ∨ x >>> 63 = 1#64 := by
    by_cases h : x >>> 63 = 1#64
    · exact Or.inr h
    · left
      have hx := x.isLt
      apply BitVec.eq_of_toNat_eq
      have h' : (x >>> 63).toNat ≠ 1 := fun e => h (BitVec.eq_of_toNat_eq e)
      rw [BitVec.toNat_ushiftRight, Nat.shiftRight_eq_div_pow] at h' ⊢
      show x.toNat / 2 ^ 63 = 0
      omega
  rcases h with h | h
  · rw [h]; decide
  · rw [h]; decide
theorem raise2 (p : BitVec 64 × BitVec 64) : bits .xor .u64 (IntKind.u64.wrap (nv p.2 * 2)) (IntKind.u64.wrap (nv p.1 / 9223372036854775808 * 135)) = nv (twiceP p).2 := by
  rw [top_mul, nv_shl1, nv_xor, twiceP]
  by_cases h : p.1 >>> 63 = 1#64
  · simp only [h, if_true]
  · simp only [h, if_false, BitVec.xor_zero]

set_option maxHeartbeats 400000 in
theorem raise_said (p : BitVec 64 × BitVec 64) (w : World) : Calls Try.prog 85 #[.agg #[.int .u64 (nv p.1), .int .u64 (nv p.2)]] w fun e w' => e = .returned (.agg #[.int .u64 (nv (twiceP p).1), .int .u64 (nv (twiceP p).2)]) ∧ Below w.heap.size w w' := by
  have h1 := tw1 p
  have h2 := raise2 p
  go_enter Try.func85, Try.ntmps85
  go_wp2
  refine bodyPost_ret (v := .agg #[.int .u64 (nv (twiceP p).1), .int .u64 (nv (twiceP p).2)]) (by simp [results, Try.results85, go_sem]) rfl ⟨rfl, by go_grown⟩




theorem dig_hi (b : BitVec 64 × BitVec 64) (n : Nat) (h : n < 64) : (bits .and .u64 (nv b.1 / 2 ^ (63 - n)) 1 == 1) = (cat b).getLsbD (127 - n) := by
  rw [digit, cat_bit, if_neg (by omega), show 63 - n = 127 - n - 64 from by omega]
theorem dig_lo (b : BitVec 64 × BitVec 64) (n : Nat) (h : n < 64) : (bits .and .u64 (nv b.2 / 2 ^ (63 - n)) 1 == 1) = (cat b).getLsbD (127 - (64 + n)) := by
  rw [digit, cat_bit, if_pos (by omega), show 63 - n = 127 - (64 + n) from by omega]

set_option maxHeartbeats 2000000 in
theorem mul_said : MulSaid := by
  intro a b w
  have i0 : ∀ w, (Instr.index 30 (.agg #[.int .u64 (nv b.1), .int .u64 (nv b.2)]) (.int .i64 0)).run Try.prog w = .ok (.int .u64 (nv b.1)) w := fun _ => by kernel_rfl
  have i1 : ∀ w, (Instr.index 30 (.agg #[.int .u64 (nv b.1), .int .u64 (nv b.2)]) (.int .i64 1)).run Try.prog w = .ok (.int .u64 (nv b.2)) w := fun _ => by kernel_rfl
  go_enter Try.func81, Try.ntmps81
  go_wp2
  have bA := (((Box.new w (nv a.1) (nv a.2)).alloc (.cells #[.int .u64 (nv b.1), .int .u64 (nv b.2)] 30)).alloc (.cells #[.int .u64 0, .int .u64 0] 30)).alloc (.cells #[.int .u64 0, .int .u64 0] 30)
  have bR := (Box.new ((w.alloc (.cells #[.int .u64 (nv a.1), .int .u64 (nv a.2)] 30)).alloc (.cells #[.int .u64 (nv b.1), .int .u64 (nv b.2)] 30)) 0 0).alloc (.cells #[.int .u64 0, .int .u64 0] 30)
  have bO := Box.new (((w.alloc (.cells #[.int .u64 (nv a.1), .int .u64 (nv a.2)] 30)).alloc (.cells #[.int .u64 (nv b.1), .int .u64 (nv b.2)] 30)).alloc (.cells #[.int .u64 0, .int .u64 0] 30)) 0 0
  have hB : Below w.heap.size w ((((w.alloc (.cells #[.int .u64 (nv a.1), .int .u64 (nv a.2)] 30)).alloc (.cells #[.int .u64 (nv b.1), .int .u64 (nv b.2)] 30)).alloc (.cells #[.int .u64 0, .int .u64 0] 30)).alloc (.cells #[.int .u64 0, .int .u64 0] 30)) := by go_grown
  simp only [World.size_alloc] at bA bR bO
  generalize (((w.alloc (.cells #[.int .u64 (nv a.1), .int .u64 (nv a.2)] 30)).alloc (.cells #[.int .u64 (nv b.1), .int .u64 (nv b.2)] 30)).alloc (.cells #[.int .u64 0, .int .u64 0] 30)).alloc (.cells #[.int .u64 0, .int .u64 0] 30) = W at *
  go_loopw [10] (fun i wr => ∃ (k : Nat) (m : Int), k ≤ 2 ∧ m = k ∧ i = .int .i64 m ∧ Box wr w.heap.size (nv a.1) (nv a.2) ∧ Box wr (w.heap.size + 1 + 1) 0 0 ∧ Box wr (w.heap.size + 1 + 1 + 1) (nv (mulP a b (64 * k)).1) (nv (mulP a b (64 * k)).2) ∧ Below w.heap.size w wr) (fun i _ => 2 - (intOf i).toNat)
  case atStart => exact ⟨0, 0, by decide, rfl, rfl, bA, bR, bO, hB⟩
  case round =>
    clear bA bR bO hB
    obtain ⟨k, m, hk, hm, rfl, bA, bR, bO, hB⟩ := hrel
    obtain rfl | rfl | rfl : k = 0 ∨ k = 1 ∨ k = 2 := by omega
    · obtain rfl : m = 0 := hm
      obtain ⟨wo, rfl⟩ : ∃ wo : World, wo = wr := ⟨_, rfl⟩
      go_wp2
      go_loopw [8] (fun i wr => ∃ n : Nat, n ≤ 64 ∧ i = .int .i64 (63 - (n : Int)) ∧ Box wr w.heap.size (nv a.1) (nv a.2) ∧ Box wr (w.heap.size + 1 + 1) 0 0 ∧ Box wr (w.heap.size + 1 + 1 + 1) (nv (mulP a b (n)).1) (nv (mulP a b (n)).2) ∧ Below w.heap.size w wr) (fun i _ => (intOf i + 1).toNat)
      case atStart => exact ⟨0, by decide, rfl, bA, bR, bO, hB⟩
      case round =>
        clear bA bR bO hB
        obtain ⟨n, hn, rfl, bA, bR, bO, hB⟩ := hrel
        by_cases hlt : n < 64
        · have HM := hide' (mulP_succ a b (n))
          generalize mulP a b (n) = q at *
          have o0 := bO.c0
          have o1 := bO.c1
          go_wp2_with fail
          refine (raise_said q _).mono ?_
          rintro e w1 ⟨rfl, hb1⟩
          have bA1 := bA.grown hb1
          have bR1 := bR.grown hb1
          have bO1 := bO.grown hb1
          have hB1 := hB.trans (hb1.mono hB.size)
          clear o0 o1 hb1 bA bR bO hB
          have g0 := bO1.c0
          have g1 := bO1.c1
          have g2 := bO1.frozen 0
          have g3 := bO1.frozen 1
          have k2 := bA1.c0
          have k3 := bA1.c1
          go_wp2_with fail
          · have hd : (bits .and .u64 (nv b.1 / 2 ^ (63 - n)) 1 == 1) = true := by assumption
            rw [dig_hi b n hlt] at hd
            have bA2 := bA1.set2 (o := w.heap.size + 1 + 1 + 1) (by omega) (.int .u64 (nv (twiceP q).1)) (.int .u64 (nv (twiceP q).2))
            have bR2 := bR1.set2 (o := w.heap.size + 1 + 1 + 1) (by omega) (.int .u64 (nv (twiceP q).1)) (.int .u64 (nv (twiceP q).2))
            have bO2 := bO1.put2 (nv (twiceP q).1) (nv (twiceP q).2)
            have hB2 := (hB1.setCell (p := ⟨w.heap.size + 1 + 1 + 1, 0, none⟩) (by simp only; omega) (.int .u64 (nv (twiceP q).1))).setCell (p := ⟨w.heap.size + 1 + 1 + 1, 1, none⟩) (by simp only; omega) (.int .u64 (nv (twiceP q).2))
            refine (add_said (twiceP q) a _).mono ?_
            rintro e w3 ⟨rfl, hb3⟩
            have bA3 := bA2.grown hb3
            have bR3 := bR2.grown hb3
            have bO3 := bO2.grown hb3
            have hB3 := hB2.trans (hb3.mono hB2.size)
            clear g0 g1 g2 g3 k2 k3 bA1 bR1 bO1 hB1 bA2 bR2 bO2 hB2 hb3
            have g0 := bO3.c0
            have g1 := bO3.c1
            have g2 := bO3.frozen 0
            have g3 := bO3.frozen 1
            go_wp2
            go_roundw
            case rel =>
              refine ⟨n + 1, hlt, by rw [show (63 : Int) - n - 1 = 63 - ((n + 1 : Nat) : Int) from by omega], bA3.set2 (by omega) _ _, bR3.set2 (by omega) _ _, ?_, (hB3.setCell (by simp only; omega) _).setCell (by simp only; omega) _⟩
              rw [show (n + 1) = (n) + 1 from by omega, HM.out, if_pos hd]
              exact bO3.put2 _ _
            case measure => simp [intOf]; omega
          · have hd : (bits .and .u64 (nv b.1 / 2 ^ (63 - n)) 1 == 1) = false := by assumption
            rw [dig_hi b n hlt] at hd
            go_roundw
            case rel =>
              refine ⟨n + 1, hlt, by rw [show (63 : Int) - n - 1 = 63 - ((n + 1 : Nat) : Int) from by omega], bA1.set2 (by omega) _ _, bR1.set2 (by omega) _ _, ?_, (hB1.setCell (by simp only; omega) _).setCell (by simp only; omega) _⟩
              rw [show (n + 1) = (n) + 1 from by omega, HM.out, if_neg (by rw [hd]; decide)]
              exact bO1.put2 _ _
            case measure => simp [intOf]; omega
        · obtain rfl : n = 64 := by omega
          go_wp2
          go_roundw
          case rel => exact ⟨1, 1, by decide, rfl, rfl, bA, bR, bO, hB⟩
          case measure => simp [intOf]
    · obtain rfl : m = 1 := hm
      obtain ⟨wo, rfl⟩ : ∃ wo : World, wo = wr := ⟨_, rfl⟩
      go_wp2
      go_loopw [8] (fun i wr => ∃ n : Nat, n ≤ 64 ∧ i = .int .i64 (63 - (n : Int)) ∧ Box wr w.heap.size (nv a.1) (nv a.2) ∧ Box wr (w.heap.size + 1 + 1) 0 0 ∧ Box wr (w.heap.size + 1 + 1 + 1) (nv (mulP a b (64 + n)).1) (nv (mulP a b (64 + n)).2) ∧ Below w.heap.size w wr) (fun i _ => (intOf i + 1).toNat)
      case atStart => exact ⟨0, by decide, rfl, bA, bR, bO, hB⟩
      case round =>
        clear bA bR bO hB
        obtain ⟨n, hn, rfl, bA, bR, bO, hB⟩ := hrel
        by_cases hlt : n < 64
        · have HM := hide' (mulP_succ a b (64 + n))
          generalize mulP a b (64 + n) = q at *
          have o0 := bO.c0
          have o1 := bO.c1
          go_wp2_with fail
          refine (raise_said q _).mono ?_
          rintro e w1 ⟨rfl, hb1⟩
          have bA1 := bA.grown hb1
          have bR1 := bR.grown hb1
          have bO1 := bO.grown hb1
          have hB1 := hB.trans (hb1.mono hB.size)
          clear o0 o1 hb1 bA bR bO hB
          have g0 := bO1.c0
          have g1 := bO1.c1
          have g2 := bO1.frozen 0
          have g3 := bO1.frozen 1
          have k2 := bA1.c0
          have k3 := bA1.c1
          go_wp2_with fail
          · have hd : (bits .and .u64 (nv b.2 / 2 ^ (63 - n)) 1 == 1) = true := by assumption
            rw [dig_lo b n hlt] at hd
            have bA2 := bA1.set2 (o := w.heap.size + 1 + 1 + 1) (by omega) (.int .u64 (nv (twiceP q).1)) (.int .u64 (nv (twiceP q).2))
            have bR2 := bR1.set2 (o := w.heap.size + 1 + 1 + 1) (by omega) (.int .u64 (nv (twiceP q).1)) (.int .u64 (nv (twiceP q).2))
            have bO2 := bO1.put2 (nv (twiceP q).1) (nv (twiceP q).2)
            have hB2 := (hB1.setCell (p := ⟨w.heap.size + 1 + 1 + 1, 0, none⟩) (by simp only; omega) (.int .u64 (nv (twiceP q).1))).setCell (p := ⟨w.heap.size + 1 + 1 + 1, 1, none⟩) (by simp only; omega) (.int .u64 (nv (twiceP q).2))
            refine (add_said (twiceP q) a _).mono ?_
            rintro e w3 ⟨rfl, hb3⟩
            have bA3 := bA2.grown hb3
            have bR3 := bR2.grown hb3
            have bO3 := bO2.grown hb3
            have hB3 := hB2.trans (hb3.mono hB2.size)
            clear g0 g1 g2 g3 k2 k3 bA1 bR1 bO1 hB1 bA2 bR2 bO2 hB2 hb3
            have g0 := bO3.c0
            have g1 := bO3.c1
            have g2 := bO3.frozen 0
            have g3 := bO3.frozen 1
            go_wp2
            go_roundw
            case rel =>
              refine ⟨n + 1, hlt, by rw [show (63 : Int) - n - 1 = 63 - ((n + 1 : Nat) : Int) from by omega], bA3.set2 (by omega) _ _, bR3.set2 (by omega) _ _, ?_, (hB3.setCell (by simp only; omega) _).setCell (by simp only; omega) _⟩
              rw [show 64 + (n + 1) = (64 + n) + 1 from by omega, HM.out, if_pos hd]
              exact bO3.put2 _ _
            case measure => simp [intOf]; omega
          · have hd : (bits .and .u64 (nv b.2 / 2 ^ (63 - n)) 1 == 1) = false := by assumption
            rw [dig_lo b n hlt] at hd
            go_roundw
            case rel =>
              refine ⟨n + 1, hlt, by rw [show (63 : Int) - n - 1 = 63 - ((n + 1 : Nat) : Int) from by omega], bA1.set2 (by omega) _ _, bR1.set2 (by omega) _ _, ?_, (hB1.setCell (by simp only; omega) _).setCell (by simp only; omega) _⟩
              rw [show 64 + (n + 1) = (64 + n) + 1 from by omega, HM.out, if_neg (by rw [hd]; decide)]
              exact bO1.put2 _ _
            case measure => simp [intOf]; omega
        · obtain rfl : n = 64 := by omega
          go_wp2
          go_roundw
          case rel => exact ⟨2, 2, by decide, rfl, rfl, bA, bR, bO, hB⟩
          case measure => simp [intOf]
    · obtain rfl : m = 2 := hm
      have g0 := bO.c0
      have g1 := bO.c1
      have g2 := bR.frozen 0
      have g3 := bR.frozen 1
      have g4 := bR.c0
      have g5 := bR.c1
      go_wp2
      refine bodyPost_ret (v := .agg #[.int .u64 (nv (mulP a b 128).1), .int .u64 (nv (mulP a b 128).2)]) (by simp [results, Try.results81, go_sem, g4, g5]) rfl ⟨rfl, ?_⟩
      exact (hB.setCell (by simp only; omega) _).setCell (by simp only; omega) _
end Go.Proofs.Ytkkehbebaokdmaa
