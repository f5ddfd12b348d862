/- What lockboxref6.Step and Sum come to. -/
import Derived.Test.YtkkehbebaokdmaaDig
import Derived.Test.YtkkehbebaokdmaaBRef1
import Derived.Test.YtkkehbebaokdmaaRefEnc
namespace Go.Proofs.Ytkkehbebaokdmaa
open Go.RowKit
set_option maxRecDepth 20000

set_option maxHeartbeats 1000000 in
theorem rstep (s m : BitVec 64 × BitVec 64) (w : World) : Calls Try.prog 45 #[.agg #[.int .u64 (nv s.1), .int .u64 (nv s.2)], .agg #[.int .u64 (nv m.1), .int .u64 (nv m.2)]] w fun e w' => e = .returned (.agg #[.int .u64 (nv (stepP s m).1), .int .u64 (nv (stepP s m).2)]) ∧ Below w.heap.size w w' := by
  go_enter Try.func45, Try.ntmps45
  go_wp2_with fail
  have b0 := ((Box.new w (nv s.1) (nv s.2)).alloc (.cells #[.int .u64 (nv m.1), .int .u64 (nv m.2)] 30)).alloc (.cells #[.int .u64 0, .int .u64 0] 30)
  have bR := Box.new ((w.alloc (.cells #[.int .u64 (nv s.1), .int .u64 (nv s.2)] 30)).alloc (.cells #[.int .u64 (nv m.1), .int .u64 (nv m.2)] 30)) 0 0
  have hB : Below w.heap.size w (((w.alloc (.cells #[.int .u64 (nv s.1), .int .u64 (nv s.2)] 30)).alloc (.cells #[.int .u64 (nv m.1), .int .u64 (nv m.2)] 30)).alloc (.cells #[.int .u64 0, .int .u64 0] 30)) := by go_grown
  simp only [World.size_alloc] at bR
  generalize ((w.alloc (.cells #[.int .u64 (nv s.1), .int .u64 (nv s.2)] 30)).alloc (.cells #[.int .u64 (nv m.1), .int .u64 (nv m.2)] 30)).alloc (.cells #[.int .u64 0, .int .u64 0] 30) = W1 at *
  refine (rencrypt m s _).mono ?_
  rintro e w1 ⟨rfl, hb⟩
  replace b0 := b0.grown hb
  replace bR := bR.grown hb
  replace hB := hB.trans (hb.mono hB.size)
  clear hb
  have hx1 := nv_xor (enc m s).1 s.1
  have hx2 := nv_xor (enc m s).2 s.2
  have hb : Below w1.heap.size w1 (w1.alloc (.cells #[.int .u64 (nv (enc m s).1), .int .u64 (nv (enc m s).2)] 30)) := (Below.refl _ _).alloc (Nat.le_refl _) _
  replace b0 := b0.grown hb
  replace bR := bR.grown hb
  replace hB := hB.trans (hb.mono hB.size)
  clear hb
  have g0 := b0.c0
  have g1 := b0.c1
  have g2 := bR.c0
  have g3 := bR.c1
  have g4 := bR.frozen 0
  have g5 := bR.frozen 1
  go_wp2
  refine bodyPost_ret (v := .agg #[.int .u64 (nv (stepP s m).1), .int .u64 (nv (stepP s m).2)]) (by simp [results, Try.results45, go_sem, g2, g3, stepP]) rfl ⟨rfl, ?_⟩
  exact (hB.setCell (by simp only; omega) _).setCell (by simp only; omega) _
set_option maxRecDepth 10000 in
set_option maxHeartbeats 2000000 in
theorem rsum (xs : List Int) (x : Option Addr) (n c : Nat) (hn : n ≤ 50000) (bx : Bytes xs) (hnil : x = none → n = 0 ∧ c = 0) (w : World) (sx : SAt w x n xs) : Calls Try.prog 29 #[.slice x n c] w fun e w' => e = .returned (.agg #[.int .u64 (nv (sumP xs).1), .int .u64 (nv (sumP xs).2)]) ∧ Below w.heap.size w w' := by
  have hxl := sx.1
  obtain ⟨t, HG⟩ : ∃ t, Hid (sumP xs = t) := ⟨_, rfl⟩
  rw [HG.out]
  have bR := (Box.new w 0 0).alloc (.cells #[] 5)
  have hB : Below w.heap.size w ((w.alloc (.cells #[.int .u64 0, .int .u64 0] 30)).alloc (.cells #[] 5)) := by go_grown
  have hlit : ((w.alloc (.cells #[.int .u64 0, .int .u64 0] 30)).alloc (.cells #[] 5)).ownsRow (w.heap.size + 1) 5 1 (.slice (some ⟨w.heap.size + 1, 0, none⟩) 0 0) 0 (([] : List Int).map (Value.int .u8)) := by
    have := World.ownsRow_lit (base := w.heap.size + 1) (e := 5) (size := 1) (w.alloc (.cells #[.int .u64 0, .int .u64 0] 30)) #[] 0 (by rw [World.size_alloc]; exact Nat.le_refl _) (by decide) rfl
    simp only [World.size_alloc] at this
    exact this
  replace sx := sx.below hB
  have hz : w.heap.size + 1 ≤ ((w.alloc (.cells #[.int .u64 0, .int .u64 0] 30)).alloc (.cells #[] 5)).heap.size := by simp only [World.size_alloc]; omega
  have HD := hide' (dig_end n)
  go_enter Try.func29, Try.ntmps29
  go_wp2_with (at_builtin; refine wpList_app rfl _ _ rfl (w.heap.size + 1) _ 0 [] rfl hlit x n c xs rfl sx hnil (by omega) hz ?_)
  intro v1 w1 own1 hb hv1
  replace bR := bR.below hb (Nat.lt_succ_self _)
  replace hB := hB.trans (hb.mono (Nat.le_succ _))
  replace hz := Nat.le_trans hz hb.size
  clear hb hlit sx
  go_wp2_with (at_builtin; refine wpList_app rfl _ _ rfl (w.heap.size + 1) _ n xs rfl (own1.alloc _) (some ⟨w1.heap.size, 0, none⟩) 1 1 [128] rfl ((At.one w1 128).sat (by rw [World.size_alloc]; omega) rfl) (fun e => by cases e) (by omega) (by rw [World.size_alloc]; omega) ?_)
  intro v2 w2 own2 hb hv2
  replace hb := ((Below.refl (w.heap.size + 1) w1).alloc hz _).trans hb
  replace bR := bR.below hb (Nat.lt_succ_self _)
  replace hB := hB.trans (hb.mono (Nat.le_succ _))
  replace hz := Nat.le_trans hz hb.size
  clear hb own1
  go_wp2_with fail
  go_loopw [3] (fun v wr => ∃ j : Nat, j ≤ digN n ∧ v ≠ .slice none 0 0 ∧ wr.ownsRow (w.heap.size + 1) 5 1 v (n + 1 + j) ((xs ++ [128] ++ List.replicate j 0).map (Value.int .u8)) ∧ Box wr w.heap.size 0 0 ∧ w.heap.size + 1 ≤ wr.heap.size ∧ Below w.heap.size w wr) (fun v _ => 60000 - slLen v)
  case atStart => exact ⟨0, Nat.zero_le _, hv2, by simpa using own2, bR, hz, hB⟩
  case round =>
    clear own2 hB hv2 bR hz
    obtain ⟨j, hj, hv, hown, bR, hz, hB⟩ := hrel
    have hpn : digN n < 16 := Nat.mod_lt _ (by decide)
    have hlen : (xs ++ [128] ++ List.replicate j (0 : Int)).length = n + 1 + j := by simp [hxl]; omega
    obtain ⟨g, cap, rfl, hg, hgl, hgc, hcm, hat⟩ := own_bytes hlen hown hv
    by_cases hlt : j = digN n
    · have h0 : (((n + 1 + j) % 16 : Nat) = 8) := (HD.out j hj).2 hlt
      have h1 : ((n : Int) + 1 + (j : Int)) % 16 = 8 := by omega
      have HJ := hide' hlt
      clear hlt
      go_wp2_with fail
      clear h0 h1
      refine (rput_own n 8 _ (by decide) (by decide)).mono ?_
      rintro e w4 ⟨v4, rfl, own4, hb⟩
      replace hown := own_grown hown hb
      replace bR := bR.grown hb
      replace hB := hB.trans (hb.mono hB.size)
      replace hz := Nat.le_trans hz hb.size
      clear hb hat
      obtain ⟨x4, c4, rfl, s4⟩ := own_sat (putL_length _ _) own4
      have n4 : x4 = none → 8 = 0 ∧ c4 = 0 := fun e => by
        obtain ⟨_, _, h, _⟩ := s4.2 (by decide)
        rw [e] at h
        cases h
      go_wp2_with (at_builtin; refine wpList_app rfl _ _ rfl (w.heap.size + 1) _ (n + 1 + j) _ rfl hown x4 8 c4 _ rfl s4 n4 (by omega) hz ?_)
      intro v5 w5 own5 hb hv5
      replace bR := bR.below hb (Nat.lt_succ_self _)
      replace hB := hB.trans (hb.mono (Nat.le_succ _))
      replace hz := Nat.le_trans hz hb.size
      clear hb hown own4 s4 n4 hgl hgc hcm hlen hv
      have own6 : w5.ownsRow (w.heap.size + 1) 5 1 v5 (16 * msgN n) ((msgL xs).map (Value.int .u8)) := by
        have e1 : n + 1 + j + 8 = 16 * msgN n := by rw [HJ.out]; exact msg_sixteen n
        rw [← e1, msgL, hxl, ← HJ.out]
        simpa using own5
      clear own5
      have hlm := msgL_length xs
      rw [hxl] at hlm
      obtain ⟨g6, cap6, rfl, hg6, hgl6, hgc6, hcm6, hat6⟩ := own_bytes hlm own6 hv5
      obtain ⟨ys, HY⟩ : ∃ ys, Hid (msgL xs = ys) := ⟨_, rfl⟩
      have hyb : Bytes ys := by rw [← HY.out]; exact msgL_bytes bx
      obtain ⟨L, HL⟩ : ∃ L, Hid (L = 16 * msgN n) := ⟨_, rfl⟩
      have hL5 : L ≤ 51000 := by
        have := HL.out
        have := msg_sixteen n
        omega
      rw [HY.out] at hat6 hlm
      rw [← HL.out] at hlm hgc6 ⊢
      have HT : Hid (sumN iv ys (msgN n) = t) := by rw [← HG.out, sumP, HY.out, hxl]; exact hide' rfl
      clear own6 hv5 HG HD
      have b4 := Box.new w5 7640891576956012808 13503953896175478587
      have hb : Below w5.heap.size w5 (w5.alloc (.cells #[.int .u64 7640891576956012808, .int .u64 13503953896175478587] 30)) := (Below.refl _ _).alloc (Nat.le_refl _) _
      have hA6 : g6 ≠ w5.heap.size := Nat.ne_of_lt hgl6
      have hAR : w.heap.size ≠ w5.heap.size := Nat.ne_of_lt bR.lt
      replace bR := bR.grown hb
      replace hat6 := hat6.below hb hgl6
      replace hgl6 := Nat.lt_of_lt_of_le hgl6 hb.size
      replace hB := hB.trans (hb.mono hB.size)
      have hAz : w.heap.size ≤ w5.heap.size := by omega
      clear hb
      go_wp2_with fail
      generalize w5.alloc (.cells #[.int .u64 7640891576956012808, .int .u64 13503953896175478587] 30) = W6 at *
      generalize w5.heap.size = A at *
      go_loopw [5] (fun i wr => ∃ k q : Nat, Hid (q = 16 * k) ∧ q ≤ L ∧ i = .int .i64 (q : Int) ∧ Box wr A (nv (sumN iv ys k).1) (nv (sumN iv ys k).2) ∧ Box wr w.heap.size 0 0 ∧ At wr g6 0 ys ∧ g6 < wr.heap.size ∧ Below w.heap.size w wr) (fun i _ => L - (intOf i).toNat)
      case atStart => exact ⟨0, 0, rfl, Nat.zero_le _, rfl, b4, bR, hat6, hgl6, hB⟩
      case round =>
        clear b4 bR hat6 hgl6 hB
        obtain ⟨k, q, HQ, hq, rfl, b4, bR, hat6, hgl6, hB⟩ := hrel
        by_cases hlt : q < L
        · have hq16 : q + 16 ≤ L := by
            have := HQ.out
            have := HL.out
            omega
          have hsl : ∀ w, (Instr.slice 27 (.slice (some ⟨g6, 0, none⟩) L cap6) (some (.int .i64 (q : Int))) (some (.int .i64 ((q : Int) + 16))) none).run Try.prog w = .ok (.slice (some ⟨g6, q, none⟩) 16 (cap6 - q)) w := by
            intro w
            have := sl_mid (some ⟨g6, 0, none⟩) L cap6 q (q + 16) (by omega) (by omega) w
            rw [nextA, if_neg (by omega), Option.map_some, add_plain', Nat.zero_add, show q + 16 - q = 16 from by omega] at this
            exact this
          have hat7 : At wr g6 q (six ys k) := by
            rw [HQ.out]
            exact six_at hat6 k (by have := HQ.out; omega)
          have hl16 := six_length ys k (by have := HQ.out; omega)
          have HS := hide' (sumN_succ iv ys k)
          go_wp2_with fail
          refine (rpair g6 q (cap6 - q) _ _ hl16 (by omega) (by omega) (six_bytes hyb k) hgl6 hat7).mono ?_
          rintro e w7 ⟨rfl, hb⟩
          replace b4 := b4.grown hb
          replace bR := bR.grown hb
          replace hat6 := hat6.below hb hgl6
          replace hgl6 := Nat.lt_of_lt_of_le hgl6 hb.size
          replace hB := hB.trans (hb.mono hB.size)
          clear hb hsl hat7 hl16
          generalize pairOf (six ys k) = pm at *
          generalize sumN iv ys k = sk at *
          have hb : Below w7.heap.size w7 (w7.alloc (.cells #[.int .u64 (nv pm.1), .int .u64 (nv pm.2)] 30)) := (Below.refl _ _).alloc (Nat.le_refl _) _
          replace b4 := b4.grown hb
          replace bR := bR.grown hb
          replace hat6 := hat6.below hb hgl6
          replace hgl6 := Nat.lt_of_lt_of_le hgl6 hb.size
          replace hB := hB.trans (hb.mono hB.size)
          clear hb
          have k0 := b4.c0
          have k1 := b4.c1
          go_wp2_with fail
          refine (rstep sk pm _).mono ?_
          rintro e w8 ⟨rfl, hb⟩
          replace b4 := b4.grown hb
          replace bR := bR.grown hb
          replace hat6 := hat6.below hb hgl6
          replace hgl6 := Nat.lt_of_lt_of_le hgl6 hb.size
          replace hB := hB.trans (hb.mono hB.size)
          clear hb k0 k1
          have k0 := b4.c0
          have k1 := b4.c1
          have k2 := b4.frozen 0
          have k3 := b4.frozen 1
          go_wp2
          go_roundw
          case rel =>
            refine ⟨k + 1, q + 16, ?_, hq16, by go_num, ?_, bR.set2 hAR _ _, (hat6.setOther hA6 _).setOther hA6 _, by simpa using hgl6, (hB.setCell hAz _).setCell hAz _⟩
            · have := HQ.out
              exact hide' (by omega)
            · rw [HS.out]
              exact b4.put2 _ _
          case measure => simp [intOf]; omega
        · obtain rfl : q = L := by omega
          have hk : k = msgN n := by
            have := HQ.out
            have := HL.out
            omega
          rw [hk, HT.out] at b4
          have k0 := b4.c0
          have k1 := b4.c1
          have k2 := bR.frozen 0
          have k3 := bR.frozen 1
          have k4 := bR.c0
          have k5 := bR.c1
          go_wp2
          refine bodyPost_ret (v := .agg #[.int .u64 (nv t.1), .int .u64 (nv t.2)]) (by simp [results, Try.results29, go_sem, k4, k5]) rfl ⟨rfl, ?_⟩
          exact (hB.setCell (Nat.le_refl _) _).setCell (Nat.le_refl _) _
    · have h0 : ¬ (((n + 1 + j) % 16 : Nat) = 8) := fun e => hlt ((HD.out j hj).1 e)
      have h1 : ¬ ((n : Int) + 1 + (j : Int)) % 16 = 8 := by omega
      go_wp2_with (at_builtin; refine wpList_app rfl _ _ rfl (w.heap.size + 1) _ (n + 1 + j) _ rfl (hown.alloc _) (some ⟨wr.heap.size, 0, none⟩) 1 1 [0] rfl ((At.one wr 0).sat (by rw [World.size_alloc]; omega) rfl) (fun e => by cases e) (by omega) (by rw [World.size_alloc]; omega) ?_)
      intro v3 w3 own3 hb hv3
      replace hb := ((Below.refl (w.heap.size + 1) wr).alloc hz _).trans hb
      replace bR := bR.below hb (Nat.lt_succ_self _)
      replace hB := hB.trans (hb.mono (Nat.le_succ _))
      replace hz := Nat.le_trans hz hb.size
      clear hb hown
      go_wp2
      go_roundw
      case rel =>
        refine ⟨j + 1, by omega, hv3, ?_, bR, hz, hB⟩
        rw [← Nat.add_assoc]
        simpa [List.replicate_succ'] using own3
      case measure =>
        obtain ⟨_, ⟨e, _⟩ | ⟨g2, cap2, _, e, _⟩⟩ := own3
        · exact absurd e hv3
        · subst e
          simp [slLen]
          omega
end Go.Proofs.Ytkkehbebaokdmaa
