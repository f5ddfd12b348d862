/- What the program's digest.Sum comes to: slices.Grow, slices.Concat, filled, Sum. -/
import Derived.Test.YtkkehbebaokdmaaDigStepI
import Derived.Test.YtkkehbebaokdmaaCat
namespace Go.Proofs.Ytkkehbebaokdmaa
open Go.RowKit
set_option maxRecDepth 20000

set_option maxRecDepth 10000 in
set_option maxHeartbeats 2000000 in
theorem ifilled (xs : List Int) (n : Nat) (hn : n ≤ 50000) (hxl : xs.length = n) (B : Nat) (v : Value) (w : World) (own : w.ownsRow B 5 1 v n (xs.map (Value.int .u8))) (hBw : B ≤ w.heap.size) :
    Calls Try.prog 56 #[v] w fun e w' => ∃ v', e = .returned v' ∧ v' ≠ .slice none 0 0 ∧ w'.ownsRow B 5 1 v' (16 * msgN n) ((msgL xs).map (Value.int .u8)) ∧ Below B w w' := by
  have HD := hide' (dig_end n)
  obtain ⟨x0, c0, rfl, s0, hc0, hcm0, nil0⟩ := own_slice hxl own
  go_enter Try.func56, Try.ntmps56
  go_wp2_with (at_builtin; refine wpList_app rfl _ _ rfl B _ n xs rfl (own.alloc _) (some ⟨w.heap.size, 0, none⟩) 1 1 [128] rfl ((At.one w 128).sat (by rw [World.size_alloc]; omega) rfl) (fun e => by cases e) (by omega) (by rw [World.size_alloc]; omega) ?_)
  intro v2 w2 own2 hb _
  have hv2 := own_not_nil own2 (by omega)
  have hB : Below B w w2 := ((Below.refl B w).alloc hBw _).trans hb
  have hz : B ≤ w2.heap.size := Nat.le_trans hBw hB.size
  clear hb own s0
  go_wp2_with fail
  go_loopw [0] (fun v wr => ∃ j : Nat, j ≤ digN n ∧ v ≠ .slice none 0 0 ∧ wr.ownsRow B 5 1 v (n + 1 + j) ((xs ++ [128] ++ List.replicate j 0).map (Value.int .u8)) ∧ B ≤ wr.heap.size ∧ Below B w wr) (fun v _ => 60000 - slLen v)
  case atStart => exact ⟨0, Nat.zero_le _, hv2, by simpa using own2, hz, hB⟩
  case round =>
    clear own2 hB hv2 hz
    obtain ⟨j, hj, hv, hown, hz, hB⟩ := hrel
    have hpn : digN n < 16 := Nat.mod_lt _ (by decide)
    have hlen : (xs ++ [128] ++ List.replicate j (0 : Int)).length = n + 1 + j := by simp [hxl]; omega
    obtain ⟨g, cap, rfl, hg, hgl, hgc, hcm, hat⟩ := own_bytes hlen hown hv
    by_cases hlt : j = digN n
    · have h0 : (((n + 1 + j) % 16 : Nat) = 8) := (HD.out j hj).2 hlt
      have h1 : ((n : Int) + 1 + (j : Int)) % 16 = 8 := by omega
      have HJ := hide' hlt
      clear hlt
      go_wp2_with fail
      clear h0 h1
      refine (put_row n 8 _ (by decide) (by decide)).mono ?_
      rintro e w4 ⟨rfl, row4, hb⟩
      have s4 := (At.put row4).sat row4.lt (putL_length _ _)
      replace hown := own_grown hown hb
      replace hB := hB.trans (hb.mono hz)
      replace hz := Nat.le_trans hz hb.size
      clear hb hat
      go_wp2_with (at_builtin; refine wpList_app rfl _ _ rfl B _ (n + 1 + j) _ rfl hown _ 8 8 _ rfl s4 (fun e => by cases e) (by omega) hz ?_)
      intro v5 w5 own5 hb _
      have hv5 := own_not_nil own5 (by omega)
      replace hB := hB.trans hb
      have own6 : w5.ownsRow B 5 1 v5 (16 * msgN n) ((msgL xs).map (Value.int .u8)) := by
        have e1 : n + 1 + j + 8 = 16 * msgN n := by rw [HJ.out]; exact msg_sixteen n
        rw [← e1, msgL, hxl, ← HJ.out]
        simpa using own5
      clear own5
      go_wp2
      go_ret
      exact ⟨_, rfl, hv5, own6, hB⟩
    · have h0 : ¬ (((n + 1 + j) % 16 : Nat) = 8) := fun e => hlt ((HD.out j hj).1 e)
      have h1 : ¬ ((n : Int) + 1 + (j : Int)) % 16 = 8 := by omega
      go_wp2_with (at_builtin; refine wpList_app rfl _ _ rfl B _ (n + 1 + j) _ rfl (hown.alloc _) (some ⟨wr.heap.size, 0, none⟩) 1 1 [0] rfl ((At.one wr 0).sat (by rw [World.size_alloc]; omega) rfl) (fun e => by cases e) (by omega) (by rw [World.size_alloc]; omega) ?_)
      intro v3 w3 own3 hb hv3'
      have hv3 := own_not_nil own3 (by omega)
      replace hb := ((Below.refl B wr).alloc hz _).trans hb
      replace hB := hB.trans hb
      replace hz := Nat.le_trans hz hb.size
      clear hb hown hv3'
      go_wp2
      go_roundw
      case rel =>
        refine ⟨j + 1, by omega, hv3, ?_, hz, hB⟩
        rw [← Nat.add_assoc]
        simpa [List.replicate_succ'] using own3
      case measure =>
        obtain ⟨_, ⟨e, _⟩ | ⟨g2, cap2, _, e, _⟩⟩ := own3
        · exact absurd e hv3
        · subst e
          simp [slLen]
          omega
set_option maxRecDepth 10000 in
set_option maxHeartbeats 2000000 in
theorem isum (P : List (List Int)) (x : Option Addr) (m c : Nat) (hm : m ≤ 1000) (hP : P.flatten.length ≤ 50000) (hc : m ≤ c) (hnil : x = none → m = 0 ∧ c = 0) (w : World) (hl : LAt w x m P) :
    Calls Try.prog 38 #[.slice x m c] w fun e w' => e = .returned (.agg #[.int .u64 (nv (sumP P.flatten).1), .int .u64 (nv (sumP P.flatten).2)]) ∧ Below w.heap.size w w' := by
  obtain ⟨t, HG⟩ : ∃ t, Hid (sumP P.flatten = t) := ⟨_, rfl⟩
  rw [HG.out]
  have hxb := hl.bytes
  have bR := (Box.new w 0 0).alloc (.cells #[.int .u64 7640891576956012808, .int .u64 13503953896175478587] 30)
  have b4 := Box.new (w.alloc (.cells #[.int .u64 0, .int .u64 0] 30)) 7640891576956012808 13503953896175478587
  have hB : Below w.heap.size w ((w.alloc (.cells #[.int .u64 0, .int .u64 0] 30)).alloc (.cells #[.int .u64 7640891576956012808, .int .u64 13503953896175478587] 30)) := by go_grown
  simp only [World.size_alloc] at b4
  go_enter Try.func38, Try.ntmps38
  go_wp2_with fail
  replace hl := hl.below hB
  generalize (w.alloc (.cells #[.int .u64 0, .int .u64 0] 30)).alloc (.cells #[.int .u64 7640891576956012808, .int .u64 13503953896175478587] 30) = W1 at *
  have hA1 := b4.lt
  refine (iconcat P x m c hm hP hc hnil _ hl).mono ?_
  rintro e w1 ⟨v1, rfl, own1, hb⟩
  replace bR := bR.grown hb
  replace b4 := b4.grown hb
  replace hB := hB.trans (hb.mono hB.size)
  have hz1 := hb.size
  clear hb hl
  obtain ⟨xs, HX⟩ : ∃ xs, Hid (P.flatten = xs) := ⟨_, rfl⟩
  rw [HX.out] at own1 hP HG hxb
  obtain ⟨n, HN⟩ : ∃ n, Hid (xs.length = n) := ⟨_, rfl⟩
  rw [HN.out] at own1 hP
  have hbw : Below w1.heap.size w1 w1 := Below.refl _ _
  obtain ⟨x1, c1, rfl, s1, _, _, _⟩ := own_slice HN.out own1
  go_wp2_with fail
  refine (ifilled xs n hP HN.out _ _ _ own1 hz1).mono ?_
  rintro e w2 ⟨v2, rfl, hv2, own2, hb⟩
  replace bR := bR.below hb (by omega)
  replace b4 := b4.below hb (by omega)
  replace hB := hB.trans (hb.mono (by omega))
  have hz2 := hb.size
  clear hb own1 s1
  have hlm := msgL_length xs
  rw [HN.out] at hlm
  obtain ⟨g, cap, rfl, hg, hgl, hgc, hcm, hat⟩ := own_bytes hlm own2 hv2
  obtain ⟨ys, HY⟩ : ∃ ys, Hid (msgL xs = ys) := ⟨_, rfl⟩
  have hyb : Bytes ys := by rw [← HY.out]; exact msgL_bytes hxb
  obtain ⟨L, HL⟩ : ∃ L, Hid (L = 16 * msgN n) := ⟨_, rfl⟩
  have hL5 : L ≤ 51000 := by
    have := HL.out
    have := msg_sixteen n
    unfold digN at this
    omega
  rw [HY.out] at hat hlm
  rw [← HL.out] at hlm hgc ⊢
  have HT : Hid (sumN iv ys (msgN n) = t) := by rw [← HG.out, sumP, HY.out, HN.out]; exact hide' rfl
  have hAg : g ≠ w.heap.size + 1 := by omega
  have hAR : w.heap.size ≠ w.heap.size + 1 := by omega
  clear own2 hv2 HG hz2 hz1 hA1 hg HX hxb hP
  go_wp2_with fail
  have hAz : w.heap.size ≤ w.heap.size + 1 := Nat.le_succ _
  generalize w.heap.size + 1 = A at *
  go_loopw [4] (fun v wr => ∃ (k q : Nat) (y : Option Addr), Hid (q = 16 * k) ∧ q ≤ L ∧ v = .slice y (L - q) (cap - q) ∧ Hid (q < L → y = some ⟨g, q, none⟩) ∧ Box wr A (nv (sumN iv ys k).1) (nv (sumN iv ys k).2) ∧ Box wr w.heap.size 0 0 ∧ At wr g 0 ys ∧ g < wr.heap.size ∧ Below w.heap.size w wr) (fun v _ => slLen v)
  case atStart => exact ⟨0, 0, _, rfl, Nat.zero_le _, rfl, fun _ => rfl, b4, bR, hat, hgl, hB⟩
  case round =>
    clear b4 bR hat hgl hB
    obtain ⟨k, q, y, HQ, hq, rfl, HYA, b4, bR, hat, hgl, hB⟩ := hrel
    by_cases hlt : q < L
    · obtain rfl := HYA.out hlt
      have hq16 : q + 16 ≤ L := by
        have := HQ.out
        have := HL.out
        omega
      have hat7 : At wr g q (six ys k) := by
        rw [HQ.out]
        exact six_at hat k (by have := HQ.out; omega)
      have hl16 := six_length ys k (by have := HQ.out; omega)
      have HS := hide' (sumN_succ iv ys k)
      obtain ⟨l, HLl⟩ : ∃ l, Hid (L - q = l) := ⟨_, rfl⟩
      obtain ⟨cc, HC⟩ : ∃ cc, Hid (cap - q = cc) := ⟨_, rfl⟩
      have hl1 : 16 ≤ l := by have := HLl.out; omega
      have hl2 : l ≤ 51000 := by have := HLl.out; omega
      have hcc : l ≤ cc := by have := HLl.out; have := HC.out; omega
      have hcm2 : cc ≤ maxLen := by have := HC.out; omega
      rw [HLl.out, HC.out]
      have hs1 := sl_head (some ⟨g, q, none⟩) l cc 16 (by omega)
      have hs2 := sl_tail (some ⟨g, q, none⟩) l cc 16 (by omega)
      go_wp2_with fail
      refine (wpair g q cc _ _ hl16 (by omega) hcm2 (six_bytes hyb k) hgl hat7).mono ?_
      rintro e w7 ⟨rfl, hb⟩
      replace b4 := b4.grown hb
      replace bR := bR.grown hb
      replace hat := hat.below hb hgl
      replace hgl := Nat.lt_of_lt_of_le hgl hb.size
      replace hB := hB.trans (hb.mono hB.size)
      clear hb hs1 hat7 hl16
      generalize pairOf (six ys k) = pm at *
      generalize sumN iv ys k = sk at *
      have hb : Below w7.heap.size w7 (w7.alloc (.cells #[.int .u64 (nv pm.1), .int .u64 (nv pm.2)] 30)) := (Below.refl _ _).alloc (Nat.le_refl _) _
      replace b4 := b4.grown hb
      replace bR := bR.grown hb
      replace hat := hat.below hb hgl
      replace hgl := Nat.lt_of_lt_of_le hgl hb.size
      replace hB := hB.trans (hb.mono hB.size)
      clear hb
      have k0 := b4.c0
      have k1 := b4.c1
      go_wp2_with fail
      refine (istep sk pm _).mono ?_
      rintro e w8 ⟨rfl, hb⟩
      replace b4 := b4.grown hb
      replace bR := bR.grown hb
      replace hat := hat.below hb hgl
      replace hgl := Nat.lt_of_lt_of_le hgl hb.size
      replace hB := hB.trans (hb.mono hB.size)
      clear hb k0 k1
      have k0 := b4.c0
      have k1 := b4.c1
      have k2 := b4.frozen 0
      have k3 := b4.frozen 1
      go_wp2
      go_roundw
      case rel =>
        refine ⟨k + 1, q + 16, (if cc = 16 then some ⟨g, q, none⟩ else some ⟨g, q + 16, none⟩), ?_, hq16, ?_, ?_, ?_, bR.set2 hAR _ _, (hat.setOther hAg _).setOther hAg _, by simpa using hgl, (hB.setCell hAz _).setCell hAz _⟩
        · have := HQ.out
          exact hide' (by omega)
        · rw [show L - (q + 16) = l - 16 from by have := HLl.out; omega, show cap - (q + 16) = cc - 16 from by have := HC.out; omega]
        · intro hlt'
          rw [if_neg (by have := HLl.out; omega)]
        · rw [HS.out]
          exact b4.put2 _ _
      case measure => simp [slLen]; omega
    · obtain rfl : q = L := by omega
      have hk : k = msgN n := by
        have := HQ.out
        have := HL.out
        omega
      rw [hk, HT.out] at b4
      rw [Nat.sub_self]
      have k0 := b4.c0
      have k1 := b4.c1
      have k2 := bR.frozen 0
      have k3 := bR.frozen 1
      have k4 := bR.c0
      have k5 := bR.c1
      go_wp2
      refine bodyPost_ret (v := .agg #[.int .u64 (nv t.1), .int .u64 (nv t.2)]) (by simp [results, Try.results38, go_sem, k4, k5]) rfl ⟨rfl, ?_⟩
      exact (hB.setCell (Nat.le_refl _) _).setCell (Nat.le_refl _) _
theorem sum_said : SumSaid := fun P x m c hm hP hc hnil w hl => isum P x m c hm hP hc hnil w hl
end Go.Proofs.Ytkkehbebaokdmaa
