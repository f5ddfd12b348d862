/- RefDig LAt DigSaid LkSaid OrcLaws RegionX: texts laid together. -/
import Derived.Test.YtkbhkgfchiacbaaM06
import Derived.Test.YtkbhkgfchiacbaaM04
import Derived.Test.YtkbhkgfchiacbaaM05
import Derived.Test.YtkbhkgfchiacbaaBAt
import Derived.Test.YtkbhkgfchiacbaaM03
import Derived.Lib.SlBytesConst
import Derived.Test.YtkbhkgfchiacbaaM02

/- What lockboxref6.Step and Sum come to. -/
namespace Go.Proofs.Ytkbhkgfchiacbaa
open Go.RowKit
set_option maxRecDepth 20000

set_option maxHeartbeats 1000000 in
theorem rstep (s m : BitVec 64 × BitVec 64) (w : World) : Calls Try.prog 69 #[.agg #[.int .u64 (nv s.1), .int .u64 (nv s.2)], .agg #[.int .u64 (nv m.1), .int .u64 (nv m.2)]] w fun e w' => e = .returned (.agg #[.int .u64 (nv (stepP s m).1), .int .u64 (nv (stepP s m).2)]) ∧ Below w.heap.size w w' := by
  go_enter Try.func69, Try.ntmps69
  go_wp2_with fail
  have b0 := ((Box.new w (nv s.1) (nv s.2)).alloc (.cells #[.int .u64 (nv m.1), .int .u64 (nv m.2)] 34)).alloc (.cells #[.int .u64 0, .int .u64 0] 34)
  have bR := Box.new ((w.alloc (.cells #[.int .u64 (nv s.1), .int .u64 (nv s.2)] 34)).alloc (.cells #[.int .u64 (nv m.1), .int .u64 (nv m.2)] 34)) 0 0
  have hB : Below w.heap.size w (((w.alloc (.cells #[.int .u64 (nv s.1), .int .u64 (nv s.2)] 34)).alloc (.cells #[.int .u64 (nv m.1), .int .u64 (nv m.2)] 34)).alloc (.cells #[.int .u64 0, .int .u64 0] 34)) := by go_grown
  simp only [World.size_alloc] at bR
  generalize ((w.alloc (.cells #[.int .u64 (nv s.1), .int .u64 (nv s.2)] 34)).alloc (.cells #[.int .u64 (nv m.1), .int .u64 (nv m.2)] 34)).alloc (.cells #[.int .u64 0, .int .u64 0] 34) = W1 at *
  refine (rencrypt m s _).mono ?_
  rintro e w1 ⟨rfl, hb⟩
  replace b0 := b0.grown hb
  replace bR := bR.grown hb
  replace hB := hB.trans (hb.mono hB.size)
  clear hb
  have hx1 := nv_xor (enc m s).1 s.1
  have hx2 := nv_xor (enc m s).2 s.2
  have hb : Below w1.heap.size w1 (w1.alloc (.cells #[.int .u64 (nv (enc m s).1), .int .u64 (nv (enc m s).2)] 34)) := (Below.refl _ _).alloc (Nat.le_refl _) _
  replace b0 := b0.grown hb
  replace bR := bR.grown hb
  replace hB := hB.trans (hb.mono hB.size)
  clear hb
  have g0 := b0.c0
  have g1 := b0.c1
  have g2 := bR.c0
  have g3 := bR.c1
  have g4 := bR.frozen 0
  have g5 := bR.frozen 1
  go_wp2
  refine bodyPost_ret (v := .agg #[.int .u64 (nv (stepP s m).1), .int .u64 (nv (stepP s m).2)]) (by simp [results, Try.results69, go_sem, g2, g3, stepP]) rfl ⟨rfl, ?_⟩
  exact (hB.setCell (by simp only; omega) _).setCell (by simp only; omega) _
set_option maxRecDepth 10000 in
set_option maxHeartbeats 2000000 in
theorem rsum (xs : List Int) (x : Option Addr) (n c : Nat) (hn : n ≤ 50000) (bx : Bytes xs) (hnil : x = none → n = 0 ∧ c = 0) (w : World) (sx : SAt w x n xs) : Calls Try.prog 58 #[.slice x n c] w fun e w' => e = .returned (.agg #[.int .u64 (nv (sumP xs).1), .int .u64 (nv (sumP xs).2)]) ∧ Below w.heap.size w w' := by
  have hxl := sx.1
  obtain ⟨t, HG⟩ : ∃ t, Hid (sumP xs = t) := ⟨_, rfl⟩
  rw [HG.out]
  have bR := (Box.new w 0 0).alloc (.cells #[] 5)
  have hB : Below w.heap.size w ((w.alloc (.cells #[.int .u64 0, .int .u64 0] 34)).alloc (.cells #[] 5)) := by go_grown
  have hlit : ((w.alloc (.cells #[.int .u64 0, .int .u64 0] 34)).alloc (.cells #[] 5)).ownsRow (w.heap.size + 1) 5 1 (.slice (some ⟨w.heap.size + 1, 0, none⟩) 0 0) 0 (([] : List Int).map (Value.int .u8)) := by
    have := World.ownsRow_lit (base := w.heap.size + 1) (e := 5) (size := 1) (w.alloc (.cells #[.int .u64 0, .int .u64 0] 34)) #[] 0 (by rw [World.size_alloc]; exact Nat.le_refl _) (by decide) rfl
    simp only [World.size_alloc] at this
    exact this
  replace sx := sx.below hB
  have hz : w.heap.size + 1 ≤ ((w.alloc (.cells #[.int .u64 0, .int .u64 0] 34)).alloc (.cells #[] 5)).heap.size := by simp only [World.size_alloc]; omega
  have HD := hide' (dig_end n)
  go_enter Try.func58, Try.ntmps58
  go_wp2_with (at_builtin; refine wpList_app rfl _ _ rfl (w.heap.size + 1) _ 0 [] rfl hlit x n c xs rfl sx hnil (by omega) hz ?_)
  intro v1 w1 own1 hb hv1
  replace bR := bR.below hb (Nat.lt_succ_self _)
  replace hB := hB.trans (hb.mono (Nat.le_succ _))
  replace hz := Nat.le_trans hz hb.size
  clear hb hlit sx
  go_wp2_with (at_builtin; refine wpList_app rfl _ _ rfl (w.heap.size + 1) _ n xs rfl (own1.alloc _) (some ⟨w1.heap.size, 0, none⟩) 1 1 [128] rfl ((At.one w1 128).sat (by rw [World.size_alloc]; omega) rfl) (fun e => by cases e) (by omega) (by rw [World.size_alloc]; omega) ?_)
  intro v2 w2 own2 hb hv2
  replace hb := ((Below.refl (w.heap.size + 1) w1).alloc hz _).trans hb
  replace bR := bR.below hb (Nat.lt_succ_self _)
  replace hB := hB.trans (hb.mono (Nat.le_succ _))
  replace hz := Nat.le_trans hz hb.size
  clear hb own1
  go_wp2_with fail
  go_loopw [3] (fun v wr => ∃ j : Nat, j ≤ digN n ∧ v ≠ .slice none 0 0 ∧ wr.ownsRow (w.heap.size + 1) 5 1 v (n + 1 + j) ((xs ++ [128] ++ List.replicate j 0).map (Value.int .u8)) ∧ Box wr w.heap.size 0 0 ∧ w.heap.size + 1 ≤ wr.heap.size ∧ Below w.heap.size w wr) (fun v _ => 60000 - slLen v)
  case atStart => exact ⟨0, Nat.zero_le _, hv2, by simpa using own2, bR, hz, hB⟩
  case round =>
    clear own2 hB hv2 bR hz
    obtain ⟨j, hj, hv, hown, bR, hz, hB⟩ := hrel
    have hpn : digN n < 16 := Nat.mod_lt _ (by decide)
    have hlen : (xs ++ [128] ++ List.replicate j (0 : Int)).length = n + 1 + j := by simp [hxl]; omega
    obtain ⟨g, cap, rfl, hg, hgl, hgc, hcm, hat⟩ := own_bytes hlen hown hv
    by_cases hlt : j = digN n
    · have h0 : (((n + 1 + j) % 16 : Nat) = 8) := (HD.out j hj).2 hlt
      have h1 : ((n : Int) + 1 + (j : Int)) % 16 = 8 := by omega
      have HJ := hide' hlt
      clear hlt
      go_wp2_with fail
      clear h0 h1
      refine (rput_own n 8 _ (by decide) (by decide)).mono ?_
      rintro e w4 ⟨v4, rfl, own4, hb⟩
      replace hown := own_grown hown hb
      replace bR := bR.grown hb
      replace hB := hB.trans (hb.mono hB.size)
      replace hz := Nat.le_trans hz hb.size
      clear hb hat
      obtain ⟨x4, c4, rfl, s4⟩ := own_sat (putL_length _ _) own4
      have n4 : x4 = none → 8 = 0 ∧ c4 = 0 := fun e => by
        obtain ⟨_, _, h, _⟩ := s4.2 (by decide)
        rw [e] at h
        cases h
      go_wp2_with (at_builtin; refine wpList_app rfl _ _ rfl (w.heap.size + 1) _ (n + 1 + j) _ rfl hown x4 8 c4 _ rfl s4 n4 (by omega) hz ?_)
      intro v5 w5 own5 hb hv5
      replace bR := bR.below hb (Nat.lt_succ_self _)
      replace hB := hB.trans (hb.mono (Nat.le_succ _))
      replace hz := Nat.le_trans hz hb.size
      clear hb hown own4 s4 n4 hgl hgc hcm hlen hv
      have own6 : w5.ownsRow (w.heap.size + 1) 5 1 v5 (16 * msgN n) ((msgL xs).map (Value.int .u8)) := by
        have e1 : n + 1 + j + 8 = 16 * msgN n := by rw [HJ.out]; exact msg_sixteen n
        rw [← e1, msgL, hxl, ← HJ.out]
        simpa using own5
      clear own5
      have hlm := msgL_length xs
      rw [hxl] at hlm
      obtain ⟨g6, cap6, rfl, hg6, hgl6, hgc6, hcm6, hat6⟩ := own_bytes hlm own6 hv5
      obtain ⟨ys, HY⟩ : ∃ ys, Hid (msgL xs = ys) := ⟨_, rfl⟩
      have hyb : Bytes ys := by rw [← HY.out]; exact msgL_bytes bx
      obtain ⟨L, HL⟩ : ∃ L, Hid (L = 16 * msgN n) := ⟨_, rfl⟩
      have hL5 : L ≤ 51000 := by
        have := HL.out
        have := msg_sixteen n
        omega
      rw [HY.out] at hat6 hlm
      rw [← HL.out] at hlm hgc6 ⊢
      have HT : Hid (sumN iv ys (msgN n) = t) := by rw [← HG.out, sumP, HY.out, hxl]; exact hide' rfl
      clear own6 hv5 HG HD
      have b4 := Box.new w5 7640891576956012808 13503953896175478587
      have hb : Below w5.heap.size w5 (w5.alloc (.cells #[.int .u64 7640891576956012808, .int .u64 13503953896175478587] 34)) := (Below.refl _ _).alloc (Nat.le_refl _) _
      have hA6 : g6 ≠ w5.heap.size := Nat.ne_of_lt hgl6
      have hAR : w.heap.size ≠ w5.heap.size := Nat.ne_of_lt bR.lt
      replace bR := bR.grown hb
      replace hat6 := hat6.below hb hgl6
      replace hgl6 := Nat.lt_of_lt_of_le hgl6 hb.size
      replace hB := hB.trans (hb.mono hB.size)
      have hAz : w.heap.size ≤ w5.heap.size := by omega
      clear hb
      go_wp2_with fail
      generalize w5.alloc (.cells #[.int .u64 7640891576956012808, .int .u64 13503953896175478587] 34) = W6 at *
      generalize w5.heap.size = A at *
      go_loopw [5] (fun i wr => ∃ k q : Nat, Hid (q = 16 * k) ∧ q ≤ L ∧ i = .int .i64 (q : Int) ∧ Box wr A (nv (sumN iv ys k).1) (nv (sumN iv ys k).2) ∧ Box wr w.heap.size 0 0 ∧ At wr g6 0 ys ∧ g6 < wr.heap.size ∧ Below w.heap.size w wr) (fun i _ => L - (intOf i).toNat)
      case atStart => exact ⟨0, 0, rfl, Nat.zero_le _, rfl, b4, bR, hat6, hgl6, hB⟩
      case round =>
        clear b4 bR hat6 hgl6 hB
        obtain ⟨k, q, HQ, hq, rfl, b4, bR, hat6, hgl6, hB⟩ := hrel
        by_cases hlt : q < L
        · have hq16 : q + 16 ≤ L := by
            have := HQ.out
            have := HL.out
            omega
          have hsl : ∀ w, (Instr.slice 40 (.slice (some ⟨g6, 0, none⟩) L cap6) (some (.int .i64 (q : Int))) (some (.int .i64 ((q : Int) + 16))) none).run Try.prog w = .ok (.slice (some ⟨g6, q, none⟩) 16 (cap6 - q)) w := by
            intro w
            have := sl_mid (some ⟨g6, 0, none⟩) L cap6 q (q + 16) (by omega) (by omega) w
            rw [nextA, if_neg (by omega), Option.map_some, add_plain', Nat.zero_add, show q + 16 - q = 16 from by omega] at this
            exact this
          have hat7 : At wr g6 q (six ys k) := by
            rw [HQ.out]
            exact six_at hat6 k (by have := HQ.out; omega)
          have hl16 := six_length ys k (by have := HQ.out; omega)
          have HS := hide' (sumN_succ iv ys k)
          go_wp2_with fail
          refine (rpair g6 q (cap6 - q) _ _ hl16 (by omega) (by omega) (six_bytes hyb k) hgl6 hat7).mono ?_
          rintro e w7 ⟨rfl, hb⟩
          replace b4 := b4.grown hb
          replace bR := bR.grown hb
          replace hat6 := hat6.below hb hgl6
          replace hgl6 := Nat.lt_of_lt_of_le hgl6 hb.size
          replace hB := hB.trans (hb.mono hB.size)
          clear hb hsl hat7 hl16
          generalize pairOf (six ys k) = pm at *
          generalize sumN iv ys k = sk at *
          have hb : Below w7.heap.size w7 (w7.alloc (.cells #[.int .u64 (nv pm.1), .int .u64 (nv pm.2)] 34)) := (Below.refl _ _).alloc (Nat.le_refl _) _
          replace b4 := b4.grown hb
          replace bR := bR.grown hb
          replace hat6 := hat6.below hb hgl6
          replace hgl6 := Nat.lt_of_lt_of_le hgl6 hb.size
          replace hB := hB.trans (hb.mono hB.size)
          clear hb
          have k0 := b4.c0
          have k1 := b4.c1
          go_wp2_with fail
          refine (rstep sk pm _).mono ?_
          rintro e w8 ⟨rfl, hb⟩
          replace b4 := b4.grown hb
          replace bR := bR.grown hb
          replace hat6 := hat6.below hb hgl6
          replace hgl6 := Nat.lt_of_lt_of_le hgl6 hb.size
          replace hB := hB.trans (hb.mono hB.size)
          clear hb k0 k1
          have k0 := b4.c0
          have k1 := b4.c1
          have k2 := b4.frozen 0
          have k3 := b4.frozen 1
          go_wp2
          go_roundw
          case rel =>
            refine ⟨k + 1, q + 16, ?_, hq16, by go_num, ?_, bR.set2 hAR _ _, (hat6.setOther hA6 _).setOther hA6 _, by simpa using hgl6, (hB.setCell hAz _).setCell hAz _⟩
            · have := HQ.out
              exact hide' (by omega)
            · rw [HS.out]
              exact b4.put2 _ _
          case measure => simp [intOf]; omega
        · obtain rfl : q = L := by omega
          have hk : k = msgN n := by
            have := HQ.out
            have := HL.out
            omega
          rw [hk, HT.out] at b4
          have k0 := b4.c0
          have k1 := b4.c1
          have k2 := bR.frozen 0
          have k3 := bR.frozen 1
          have k4 := bR.c0
          have k5 := bR.c1
          go_wp2
          refine bodyPost_ret (v := .agg #[.int .u64 (nv t.1), .int .u64 (nv t.2)]) (by simp [results, Try.results58, go_sem, k4, k5]) rfl ⟨rfl, ?_⟩
          exact (hB.setCell (Nat.le_refl _) _).setCell (Nat.le_refl _) _
    · have h0 : ¬ (((n + 1 + j) % 16 : Nat) = 8) := fun e => hlt ((HD.out j hj).1 e)
      have h1 : ¬ ((n : Int) + 1 + (j : Int)) % 16 = 8 := by omega
      go_wp2_with (at_builtin; refine wpList_app rfl _ _ rfl (w.heap.size + 1) _ (n + 1 + j) _ rfl (hown.alloc _) (some ⟨wr.heap.size, 0, none⟩) 1 1 [0] rfl ((At.one wr 0).sat (by rw [World.size_alloc]; omega) rfl) (fun e => by cases e) (by omega) (by rw [World.size_alloc]; omega) ?_)
      intro v3 w3 own3 hb hv3
      replace hb := ((Below.refl (w.heap.size + 1) wr).alloc hz _).trans hb
      replace bR := bR.below hb (Nat.lt_succ_self _)
      replace hB := hB.trans (hb.mono (Nat.le_succ _))
      replace hz := Nat.le_trans hz hb.size
      clear hb hown
      go_wp2
      go_roundw
      case rel =>
        refine ⟨j + 1, by omega, hv3, ?_, bR, hz, hB⟩
        rw [← Nat.add_assoc]
        simpa [List.replicate_succ'] using own3
      case measure =>
        obtain ⟨_, ⟨e, _⟩ | ⟨g2, cap2, _, e, _⟩⟩ := own3
        · exact absurd e hv3
        · subst e
          simp [slLen]
          omega
end Go.Proofs.Ytkbhkgfchiacbaa


/- Rows of bytes in memory. -/
namespace Go.Proofs.Ytkbhkgfchiacbaa
open Go.RowKit
set_option maxRecDepth 20000

/-- The slice in this cell has these bytes. -/
def RowIn (w : World) (b o : Nat) (ys : List Int) : Prop := ∃ y c, w.cell? ⟨b, o, none⟩ = some (.slice y ys.length c) ∧ SAt w y ys.length ys ∧ ys.length ≤ c ∧ c ≤ maxLen ∧ (y = none → ys.length = 0 ∧ c = 0) ∧ Bytes ys
theorem RowIn.below {w w' : World} {b o : Nat} {ys : List Int} (h : RowIn w b o ys) (hb : Below w.heap.size w w') : RowIn w' b o ys := by
  obtain ⟨y, c, h1, h2, h3⟩ := h
  exact ⟨y, c, (hb.cell (p := ⟨b, o, none⟩) (World.block_lt_of_cell? w _ h1)).trans h1, h2.below hb, h3⟩
/-- A slice of m rows. -/
def LAt (w : World) (x : Option Addr) (m : Nat) (P : List (List Int)) : Prop := P.length = m ∧ (0 < m → ∃ b o, x = some ⟨b, o, none⟩ ∧ b < w.heap.size ∧ ∀ i, i < m → RowIn w b (o + i) (P.getD i []))
theorem LAt.below {w w' : World} {x : Option Addr} {m : Nat} {P : List (List Int)} (h : LAt w x m P) (hb : Below w.heap.size w w') : LAt w' x m P :=
  ⟨h.1, fun hm => by
    obtain ⟨b, o, e, hlt, hr⟩ := h.2 hm
    exact ⟨b, o, e, Nat.lt_of_lt_of_le hlt hb.size, fun i hi => (hr i hi).below hb⟩⟩
theorem LAt.drew {w : World} {x : Option Addr} {m : Nat} {P : List (List Int)} (h : LAt w x m P) : LAt w.drew x m P := h.below (Below.refl _ _).drew
theorem lat_none (w : World) (x : Option Addr) : LAt w x 0 [] := ⟨rfl, fun h => absurd h (by omega)⟩
/-- A slice of bytes in a cell. -/
theorem RowIn.of {w : World} {b o n c : Nat} {y : Option Addr} {ys : List Int} (h : w.cell? ⟨b, o, none⟩ = some (.slice y n c)) (hs : SAt w y n ys) (hc : n ≤ c) (hm : c ≤ maxLen) (hnil : y = none → n = 0 ∧ c = 0) (hb : Bytes ys) : RowIn w b o ys := by
  obtain rfl : ys.length = n := hs.1
  exact ⟨y, c, h, hs, hc, hm, hnil, hb⟩
theorem lat_one (w : World) {y : Option Addr} {n c : Nat} {ys : List Int} (hs : SAt w y n ys) (hc : n ≤ c) (hm : c ≤ maxLen) (hnil : y = none → n = 0 ∧ c = 0) (hb : Bytes ys) :
    LAt (w.alloc (.cells #[.slice y n c] 40)) (some ⟨w.heap.size, 0, none⟩) 1 [ys] := by
  refine ⟨rfl, fun _ => ⟨w.heap.size, 0, rfl, by rw [World.size_alloc]; omega, fun i hi => ?_⟩⟩
  obtain rfl : i = 0 := by omega
  exact RowIn.of (y := y) (n := n) (c := c) (by simp) (hs.below ((Below.refl _ _).alloc (Nat.le_refl _) _)) hc hm hnil hb
theorem lat_two (w : World) {y z : Option Addr} {n c k d : Nat} {ys zs : List Int} (hs : SAt w y n ys) (hc : n ≤ c) (hm : c ≤ maxLen) (hnil : y = none → n = 0 ∧ c = 0) (hb : Bytes ys)
    (hs2 : SAt w z k zs) (hc2 : k ≤ d) (hm2 : d ≤ maxLen) (hnil2 : z = none → k = 0 ∧ d = 0) (hb2 : Bytes zs) :
    LAt (w.alloc (.cells #[.slice y n c, .slice z k d] 40)) (some ⟨w.heap.size, 0, none⟩) 2 [ys, zs] := by
  refine ⟨rfl, fun _ => ⟨w.heap.size, 0, rfl, by rw [World.size_alloc]; omega, fun i hi => ?_⟩⟩
  match i, hi with
  | 0, _ => exact RowIn.of (y := y) (n := n) (c := c) (by simp) (hs.below ((Below.refl _ _).alloc (Nat.le_refl _) _)) hc hm hnil hb
  | 1, _ => exact RowIn.of (y := z) (n := k) (c := d) (by simp) (hs2.below ((Below.refl _ _).alloc (Nat.le_refl _) _)) hc2 hm2 hnil2 hb2
theorem At.lit (w : World) (zs : List Int) (fr : Nat × Nat) : At (w.alloc (.cells (zs.map (Value.int .u8)).toArray 5 fr)) w.heap.size 0 zs := by
  intro i hi
  rw [Nat.zero_add, World.cell?_alloc_mark]
  simp [hi]
theorem sat_lit (w : World) (zs : List Int) (fr : Nat × Nat) (n : Nat) (hn : zs.length = n) : SAt (w.alloc (.cells (zs.map (Value.int .u8)).toArray 5 fr)) (some ⟨w.heap.size, 0, none⟩) n zs :=
  (At.lit w zs fr).sat (by simp) hn
theorem flat_take (P : List (List Int)) (k : Nat) (h : k < P.length) : (P.take (k + 1)).flatten = (P.take k).flatten ++ P.getD k [] := by
  rw [List.take_succ_eq_append_getElem h, List.flatten_append]
  simp [h]
theorem LAt.bytes {w : World} {x : Option Addr} {m : Nat} {P : List (List Int)} (h : LAt w x m P) : Bytes P.flatten := by
  intro z hz
  obtain ⟨ys, hy, hzy⟩ := List.mem_flatten.1 hz
  obtain ⟨i, hi, rfl⟩ := List.getElem_of_mem hy
  obtain ⟨b, o, _, _, hr⟩ := h.2 (by rw [← h.1]; omega)
  obtain ⟨_, _, _, _, _, _, _, hb⟩ := hr i (by rw [← h.1]; exact hi)
  simp only [List.getD, List.getElem?_eq_getElem hi, Option.getD_some] at hb
  exact hb z hzy
end Go.Proofs.Ytkbhkgfchiacbaa


/- What the statements ask of digest; rows of bytes in memory. -/
namespace Go.Proofs.Ytkbhkgfchiacbaa
open Go.RowKit
set_option maxRecDepth 20000

def StepSaid : Prop := ∀ (s m : BitVec 64 × BitVec 64) (w : World), Calls Try.prog 50 #[.agg #[.int .u64 (nv s.1), .int .u64 (nv s.2)], .agg #[.int .u64 (nv m.1), .int .u64 (nv m.2)]] w fun e w' => e = .returned (.agg #[.int .u64 (nv (stepP s m).1), .int .u64 (nv (stepP s m).2)]) ∧ Below w.heap.size w w'
def SumSaid : Prop := ∀ (P : List (List Int)) (x : Option Addr) (m c : Nat), m ≤ 1000 → P.flatten.length ≤ 50000 → m ≤ c → (x = none → m = 0 ∧ c = 0) → ∀ w : World, LAt w x m P →
  Calls Try.prog 32 #[.slice x m c] w fun e w' => e = .returned (.agg #[.int .u64 (nv (sumP P.flatten).1), .int .u64 (nv (sumP P.flatten).2)]) ∧ Below w.heap.size w w'
theorem sum_of (hS : SumSaid) (P : List (List Int)) (x : Option Addr) (m c : Nat) (hm : m ≤ 1000) {zs : List Int} (hz : P.flatten = zs) (hl : zs.length ≤ 50000) (hc : m ≤ c) (hnil : x = none → m = 0 ∧ c = 0) (w : World) (h : LAt w x m P) {t : BitVec 64 × BitVec 64} (ht : sumP zs = t) :
    Calls Try.prog 32 #[.slice x m c] w fun e w' => e = .returned (.agg #[.int .u64 (nv t.1), .int .u64 (nv t.2)]) ∧ Below w.heap.size w w' := by
  subst hz ht
  exact hS P x m c hm hl hc hnil w h
theorem rsum_of (xs : List Int) (x : Option Addr) (n c : Nat) (hn : n ≤ 50000) (bx : Bytes xs) (hnil : x = none → n = 0 ∧ c = 0) (w : World) (sx : SAt w x n xs) {t : BitVec 64 × BitVec 64} (ht : sumP xs = t) : Calls Try.prog 58 #[.slice x n c] w fun e w' => e = .returned (.agg #[.int .u64 (nv t.1), .int .u64 (nv t.2)]) ∧ Below w.heap.size w w' := ht ▸ rsum xs x n c hn bx hnil w sx
end Go.Proofs.Ytkbhkgfchiacbaa


/- What the statements ask of the program's lock: by an invariant that its own text gives. -/
namespace Go.Proofs.Ytkbhkgfchiacbaa
open Go.RowKit
set_option maxRecDepth 20000

theorem sat_not {w : World} {b : Nat} {x : Option Addr} {n : Nat} {xs : List Int} (hc : ∀ o u, w.cell? ⟨b, o, none⟩ ≠ some (.int .u8 u)) (h : SAt w x n xs) : SIn (fun k => k ≠ b) w x n xs :=
  ⟨h.1, fun hn => by
    obtain ⟨g, o, e, hlt, hat⟩ := h.2 hn
    refine ⟨g, o, e, hlt, fun e' => ?_, hat⟩
    subst e'
    exact hc _ _ (hat 0 (by have := h.1; omega))⟩
theorem SBox.not8 {w : World} {b : Nat} {y : Option Addr} {n c : Nat} {t1 t2 : Int} (h : SBox w b (.slice y n c) t1 t2) (o : Nat) (u : Int) : w.cell? ⟨b, o, none⟩ ≠ some (.int .u8 u) := by
  unfold SBox at h
  match o with
  | 0 | 1 | 2 => simp [World.cell?, h]
  | o + 3 => simp [World.cell?, h]
/-- Which sealer, what it has sealed, what it has summed (a real one remembers nothing). -/
structure LSt where
  ideal : Bool
  iss : List Iss
  sums : List (List Int)
/-- What is sealed: bytes, tag; what is remembered. -/
def LSt.sealB (st : LSt) (key : BitVec 64 × BitVec 64) (nn : Nn) (ys : List Int) : List Int := if st.ideal = true then outB (st.iss.length + 1) ys.length else mixL (subP key nn) ys
def LSt.sealT (st : LSt) (key : BitVec 64 × BitVec 64) (nn : Nn) (xs ys : List Int) : BitVec 64 × BitVec 64 := if st.ideal = true then tagI (st.iss.length + 1) else tagP (subP key nn) xs (mixL (subP key nn) ys)
def LSt.sealS (st : LSt) (e : Iss) : LSt := if st.ideal = true then ⟨st.ideal, st.iss ++ [e], st.sums⟩ else st
/-- What is opened. -/
noncomputable def LSt.opens (st : LSt) (q : Ask) : Option (List Int) :=
  open Classical in
  if st.ideal = true then (if h : ∃ i, Hit st.iss q i then some (st.iss.getD h.choose default).data else none) else (if tagP (subP q.key q.non) q.head q.bytes = q.tag then some (mixL (subP q.key q.non) q.bytes) else none)
/-- A sum. -/
def LSt.sumV (st : LSt) (zs : List Int) : Int × Int := if st.ideal = true then (17216961135462248174, (sumIx st.sums zs : Nat)) else (nv (sumP zs).1, nv (sumP zs).2)
def LSt.sumS (st : LSt) (zs : List Int) : LSt := if st.ideal = true then ⟨st.ideal, st.iss, sumSt st.sums zs⟩ else st
theorem LSt.sealB_length (st : LSt) (key : BitVec 64 × BitVec 64) (nn : Nn) (ys : List Int) : (st.sealB key nn ys).length = ys.length := by
  unfold LSt.sealB
  split
  · exact outB_length _ _
  · exact mixL_length _ _
theorem LSt.sealB_bytes (st : LSt) (key : BitVec 64 × BitVec 64) (nn : Nn) {ys : List Int} (h : Bytes ys) : Bytes (st.sealB key nn ys) := by
  unfold LSt.sealB
  split
  · exact outB_bytes _ _
  · exact mixL_bytes _ h
theorem LSt.opens_hit {st : LSt} {q : Ask} {i : Nat} (hi : st.ideal = true) (hL : st.iss.length ≤ 50000) (h : Hit st.iss q i) : st.opens q = some (st.iss.getD i default).data := by
  have hx : ∃ i, Hit st.iss q i := ⟨i, h⟩
  unfold LSt.opens
  rw [if_pos hi, dif_pos hx, hx.choose_spec.one h (by omega)]
theorem LSt.opens_no {st : LSt} {q : Ask} (hi : st.ideal = true) (h : ∀ i, ¬ Hit st.iss q i) : st.opens q = none := by
  unfold LSt.opens
  rw [if_pos hi, dif_neg (fun ⟨i, hx⟩ => h i hx)]
theorem LSt.opens_real {st : LSt} {q : Ask} (hi : st.ideal = false) (h : tagP (subP q.key q.non) q.head q.bytes = q.tag) : st.opens q = some (mixL (subP q.key q.non) q.bytes) := by
  unfold LSt.opens
  rw [if_neg (by rw [hi]; decide), if_pos h]
theorem LSt.opens_unreal {st : LSt} {q : Ask} (hi : st.ideal = false) (h : tagP (subP q.key q.non) q.head q.bytes ≠ q.tag) : st.opens q = none := by
  unfold LSt.opens
  rw [if_neg (by rw [hi]; decide), if_neg h]
/-- Behind a call on a lock: what it has now, and what has turned. -/
structure KeptL (Inv : (Nat → Prop) → World → Value → LSt → Prop) (F : Nat → Prop) (w : World) (v : Value) (F' : Nat → Prop) (w' : World) (st' : LSt) : Prop where
  inv : Inv F' w' v st'
  sub : ∀ k, F' k → F k ∨ w.heap.size ≤ k
  off : Off F w w'
structure LockIs (Inv : (Nat → Prop) → World → Value → LSt → Prop) : Prop where
  stay : ∀ {F : Nat → Prop} {w w' : World} {v : Value} {st : LSt}, Inv F w v st → w.heap.size ≤ w'.heap.size → (∀ k, F k → w'.heap[k]? = w.heap[k]?) → Inv F w' v st
  lt : ∀ {F : Nat → Prop} {w : World} {v : Value} {st : LSt}, Inv F w v st → ∀ k, F k → k < w.heap.size
  ptr : ∀ {F : Nat → Prop} {w : World} {v : Value} {st : LSt}, Inv F w v st → ∃ a, v = .pointer (some a)
  none_ : ∀ {F : Nat → Prop} {w : World} {v : Value} {st : LSt}, Inv F w v st → st.ideal = false → st.iss = [] ∧ st.sums = []
  plain : ∀ {F : Nat → Prop} {w : World} {v : Value} {st : LSt}, Inv F w v st → st.ideal = false → ∀ {x : Option Addr} {n : Nat} {xs : List Int}, SAt w x n xs → SIn (fun k => ¬ F k) w x n xs
  real : ∀ w : World, Calls Try.prog 21 #[] w fun e w' => ∃ v F, e = .returned v ∧ Inv F w' v ⟨false, [], []⟩ ∧ (∀ k, F k → w.heap.size ≤ k) ∧ Below w.heap.size w w'
  ideal : ∀ w : World, Calls Try.prog 22 #[] w fun e w' => ∃ v F, e = .returned v ∧ Inv F w' v ⟨true, [], []⟩ ∧ (∀ k, F k → w.heap.size ≤ k) ∧ Below w.heap.size w w'
  sum : ∀ (F : Nat → Prop) (v : Value) (st : LSt) (P : List (List Int)) (x : Option Addr) (m c : Nat), m ≤ 1000 → P.flatten.length ≤ 50000 → st.sums.length ≤ 10000 → Fit x m c → ∀ w : World, Inv F w v st → LIn (fun k => ¬ F k) w x m P →
    Calls Try.prog 39 #[v, .slice x m c] w fun e w' => ∃ F', e = .returned (.agg #[.int .u64 (st.sumV P.flatten).1, .int .u64 (st.sumV P.flatten).2]) ∧ KeptL Inv F w v F' w' (st.sumS P.flatten)
  sumNil : ∀ (x : Option Addr) (m c : Nat) (w : World), Calls Try.prog 39 #[.pointer none, .slice x m c] w fun e w' => e = .returned (.agg #[.int .u64 0, .int .u64 0]) ∧ Below w.heap.size w w'
theorem LockIs.keep {Inv : (Nat → Prop) → World → Value → LSt → Prop} (h : LockIs Inv) {F G : Nat → Prop} {w w' : World} {v : Value} {st : LSt} (hI : Inv F w v st) (hb : Off G w w') (hd : ∀ k, F k → ¬ G k) : Inv F w' v st :=
  h.stay hI hb.size (fun k hk => hb.block k (h.lt hI k hk) (hd k hk))
theorem LockIs.below {Inv : (Nat → Prop) → World → Value → LSt → Prop} (h : LockIs Inv) {F : Nat → Prop} {w w' : World} {v : Value} {st : LSt} (hI : Inv F w v st) (hb : Below w.heap.size w w') : Inv F w' v st :=
  h.keep hI (Off.of_below (F := fun _ => False) hb) (fun _ _ h => h)
theorem KeptL.sin {Inv : (Nat → Prop) → World → Value → LSt → Prop} {F F' : Nat → Prop} {w w' : World} {v : Value} {st' : LSt} (h : KeptL Inv F w v F' w' st') {x : Option Addr} {n : Nat} {xs : List Int} (hs : SIn (fun k => ¬ F k) w x n xs) : SIn (fun k => ¬ F' k) w' x n xs :=
  ((hs.mono (G' := fun k => ¬ F k ∧ k < w.heap.size) (fun k hk h => ⟨h, hk⟩)).off h.off (fun _ _ h => h.1)).mono (fun k _ hk hf => (h.sub k hf).elim hk.1 (fun e => by omega))
end Go.Proofs.Ytkbhkgfchiacbaa


/- What the statements on oracle come to, where it is what the document has: known. -/
namespace Go.Proofs.Ytkbhkgfchiacbaa
open Go.RowKit
set_option maxRecDepth 20000

variable {Inv : (Nat → Prop) → World → Value → OSt → Prop}
theorem oseal_at (hO : OrcIs Inv) (F : Nat → Prop) (v : Value) (L : List Iss) (S : List (List Int)) (key : BitVec 64 × BitVec 64) (nn : Nn) {k1 k2 n1 n2 n3 : Int} (hk1 : nv key.1 = k1) (hk2 : nv key.2 = k2) (hn1 : nv32 nn.1 = n1) (hn2 : nv32 nn.2.1 = n2) (hn3 : nv nn.2.2 = n3) (xs ys : List Int) (x y : Option Addr) (nx ny c d : Nat) (hnx : nx ≤ 4000) (hny : ny ≤ 4000) (hL : L.length ≤ 10000) (bx : Bytes xs) (by_ : Bytes ys) (fx : Fit x nx c) (fy : Fit y ny d) (w : World) (hI : Inv F w v (L, S)) (sx : SIn (fun k => ¬ F k) w x nx xs) (sy : SIn (fun k => ¬ F k) w y ny ys) {i : Int} (hi : (L.length : Int) + 1 = i) :
    Calls Try.prog 34 #[v, .agg #[.int .u64 k1, .int .u64 k2], .agg #[.int .u32 n1, .int .u32 n2, .int .u64 n3], .slice x nx c, .slice y ny d] w fun e w' => ∃ z cz F', e = .returned (.tuple #[.agg #[.slice z ny cz, .int .u64 18446744073709551615, .int .u64 i], .bool true]) ∧ Kept Inv F w v F' w' (L ++ [⟨key, nn, xs, ys⟩], S) ∧ SIn (fun k => w.heap.size ≤ k ∧ ¬ F' k) w' z ny (outB (L.length + 1) ny) ∧ Fit z ny cz := by
  subst hk1 hk2 hn1 hn2 hn3 hi
  exact hO.sealIn F v L S key nn xs ys x y nx ny c d hnx hny hL bx by_ fx fy w hI sx sy
theorem oopen_yes (hO : OrcIs Inv) (F : Nat → Prop) (v : Value) (st : OSt) (q : Ask) (i : Nat) {k1 k2 n1 n2 n3 t1 t2 : Int} (hk1 : nv q.key.1 = k1) (hk2 : nv q.key.2 = k2) (hn1 : nv32 q.non.1 = n1) (hn2 : nv32 q.non.2.1 = n2) (hn3 : nv q.non.2.2 = n3) (ht1 : nv q.tag.1 = t1) (ht2 : nv q.tag.2 = t2) {hs bs ds : List Int} (hhs : q.head = hs) (hbs : q.bytes = bs) (hds : (st.1.getD i default).data = ds) {l : Nat} (hl : ds.length = l) (x y : Option Addr) (n m c d : Nat) (hL : st.1.length ≤ 10000) (bx : Bytes hs) (by_ : Bytes bs) (fx : Fit x n c) (fy : Fit y m d) (hit : Hit st.1 q i) (w : World) (hI : Inv F w v st) (sx : SIn (fun k => ¬ F k) w x n hs) (sy : SIn (fun k => ¬ F k) w y m bs) :
    Calls Try.prog 35 #[v, .agg #[.int .u64 k1, .int .u64 k2], .agg #[.int .u32 n1, .int .u32 n2, .int .u64 n3], .slice x n c, .agg #[.slice y m d, .int .u64 t1, .int .u64 t2]] w fun e w' => ∃ z cz F', e = .returned (.tuple #[.slice z l cz, .bool true]) ∧ Kept Inv F w v F' w' st ∧ SIn (fun k => w.heap.size ≤ k ∧ ¬ F' k) w' z l ds := by
  subst hk1 hk2 hn1 hn2 hn3 ht1 ht2 hhs hbs hds hl
  exact hO.openYes F v st q x y n m c d i hL bx by_ fx fy hit w hI sx sy
theorem oopen_no (hO : OrcIs Inv) (F : Nat → Prop) (v : Value) (st : OSt) (q : Ask) {k1 k2 n1 n2 n3 t1 t2 : Int} (hk1 : nv q.key.1 = k1) (hk2 : nv q.key.2 = k2) (hn1 : nv32 q.non.1 = n1) (hn2 : nv32 q.non.2.1 = n2) (hn3 : nv q.non.2.2 = n3) (ht1 : nv q.tag.1 = t1) (ht2 : nv q.tag.2 = t2) {hs bs : List Int} (hhs : q.head = hs) (hbs : q.bytes = bs) (x y : Option Addr) (n m c d : Nat) (hL : st.1.length ≤ 10000) (bx : Bytes hs) (by_ : Bytes bs) (fx : Fit x n c) (fy : Fit y m d) (hit : ∀ i, ¬ Hit st.1 q i) (w : World) (hI : Inv F w v st) (sx : SIn (fun k => ¬ F k) w x n hs) (sy : SIn (fun k => ¬ F k) w y m bs) :
    Calls Try.prog 35 #[v, .agg #[.int .u64 k1, .int .u64 k2], .agg #[.int .u32 n1, .int .u32 n2, .int .u64 n3], .slice x n c, .agg #[.slice y m d, .int .u64 t1, .int .u64 t2]] w fun e w' => ∃ z cz F', e = .returned (.tuple #[.slice z 0 cz, .bool false]) ∧ Kept Inv F w v F' w' st := by
  subst hk1 hk2 hn1 hn2 hn3 ht1 ht2 hhs hbs
  exact hO.openNo F v st q x y n m c d hL bx by_ fx fy hit w hI sx sy
theorem At.lit7 (w : World) (zs : List Int) (fr : Nat × Nat) : At (w.alloc (.cells (zs.map (Value.int .u8)).toArray 5 fr)) w.heap.size 0 zs := by
  intro i hi
  rw [Nat.zero_add, World.cell?_alloc_mark]
  simp [hi]
theorem bytes_none : Bytes [] := fun x hx => by cases hx

end Go.Proofs.Ytkbhkgfchiacbaa


/- A statement whose order Go leaves open and whose last operation, a store, waits for all others: what is asked of every world ahead of it need not hold behind it. -/
namespace Go.Proofs.Ytkbhkgfchiacbaa
open Go.RowKit
set_option maxRecDepth 20000
section
variable {P : Program} {ops : Array Oper} {Q : Exit → Act → World → Prop} {md : Region.Mode} {S S' : World → Prop} {last : Nat}

/-- Whatever order is picked from here on; S holds behind each operation but the last one. -/
def wpAnyX (P : Program) (md : Region.Mode) (ops : Array Oper) (Q : Exit → Act → World → Prop) (S : World → Prop) (last : Nat) : Nat → Array Bool → Act → World → Prop
  | 0, listed, a, w => Region.ready md ops listed = [] ∧ Q .normal a w
  | fuel + 1, listed, a, w => (Region.ready md ops listed = [] → Q .normal a w) ∧
    ∀ i ∈ Region.ready md ops listed, wpOp P ops Q i (fun a' w' => (i ≠ last → S w') ∧ wpAnyX P md ops Q S last fuel (listed.setIfInBounds i true) a' w') a w
theorem wpAny_of_X : ∀ (fuel : Nat) (listed : Array Bool) (a : Act) (w : World), wpAnyX P md ops Q S last fuel listed a w → wpAny P md ops Q fuel listed a w
  | 0, _, _, _, h => h
  | fuel + 1, _, _, _, h => ⟨h.1, fun i hi => wpOp_mono (fun a' w' h' => wpAny_of_X fuel _ a' w' h'.2) (h.2 i hi)⟩
theorem heldX_more (hS : ∀ w, S' w → S w) : ∀ (fuel : Nat) (listed : Array Bool) (a : Act) (w : World), wpAnyX P md ops Q S' last fuel listed a w → wpAnyX P md ops Q S last fuel listed a w
  | 0, _, _, _, h => h
  | fuel + 1, _, _, _, h => ⟨h.1, fun i hi => wpOp_mono (fun a' w' h' => ⟨fun hl => hS _ (h'.1 hl), heldX_more hS fuel _ a' w' h'.2⟩) (h.2 i hi)⟩
/-- The last operation waits for number i. -/
def lastWaits (md : Region.Mode) (ops : Array Oper) (last i : Nat) : Bool := match ops[last]? with
  | some o => o.after.any fun e => Region.binds md e && e.on == i
  | none => false
theorem firstX {i : Nat} {oi : Oper} {v : Value} (hi : ops[i]? = some oi) (hsel : ∀ (j : Nat) (o : Oper) cs b, ops[j]? = some o → o.op ≠ .select cs b)
    (hQ : ∀ c a w, Q (.panic c) (a.put oi.dst v) w → Q (.panic c) a w) (hlast : lastWaits md ops last i = true) (hil : i ≠ last) :
    ∀ (fuel : Nat) (listed : Array Bool) (a : Act) (w : World),
      (∀ j oj, ops[j]? = some oj → j ≠ i → listed.getD j true = false → (∀ e ∈ oj.after, Region.binds md e = true → e.on ≠ i) → oi.apart ops oj = true) →
      i ∈ Region.ready md ops listed → YieldsIf P ops S oi v a → S w →
      wpAnyX P md ops Q S last fuel (listed.setIfInBounds i true) (a.put oi.dst v) w → wpAnyX P md ops Q S last (fuel + 1) listed a w := by
  intro fuel
  induction fuel with
  | zero =>
    intro listed a w _ hr hy hS H
    refine ⟨fun h => (by rw [h] at hr; cases hr), fun j hj => ?_⟩
    by_cases hji : j = i
    · subst hji
      exact hy.wpOp hi hS ⟨fun _ => hS, H⟩
    · have := ready_mono hj hji
      rw [H.1] at this
      cases this
  | succ fuel ih =>
    intro listed a w hfree hr hy hS H
    refine ⟨fun h => (by rw [h] at hr; cases hr), fun j hj => ?_⟩
    by_cases hji : j = i
    · subst hji
      exact hy.wpOp hi hS ⟨fun _ => hS, H⟩
    · have h1 := H.2 j (ready_mono hj hji)
      obtain ⟨hjun, oj, hoj, hall⟩ := mem_ready.1 hj
      have hnot : ∀ e ∈ oj.after, Region.binds md e = true → e.on ≠ i := fun e he hb heq => by
        have h1 := hall e he hb
        have h0 := (mem_ready.1 hr).1
        rw [heq] at h1
        rcases Nat.lt_or_ge i listed.size with h' | h'
        · simp [h'] at h0 h1
          rw [h0] at h1
          cases h1
        · simp [Array.getElem?_eq_none h'] at h1
      have hjl : j ≠ last := fun e => by
        subst e
        simp only [lastWaits, hoj, Array.any_eq_true] at hlast
        obtain ⟨n, hn, hb⟩ := hlast
        rw [Bool.and_eq_true, beq_iff_eq] at hb
        exact hnot _ (Array.getElem_mem hn) hb.1 hb.2
      have h2 := wpOp_putIf hoj (hfree j oj hoj hji hjun hnot) (fun cs b => hsel i oi cs b hi) (fun cs b => hsel j oj cs b hoj) hQ hy h1
      have hfree' : ∀ k ok, ops[k]? = some ok → k ≠ i → (listed.setIfInBounds j true).getD k true = false →
          (∀ e ∈ ok.after, Region.binds md e = true → e.on ≠ i) → oi.apart ops ok = true := fun k ok hk hki hun hno => by
        refine hfree k ok hk hki ?_ hno
        by_cases hjk : j = k
        · subst hjk
          exact hjun
        · rw [getD_set_ne true hjk] at hun
          exact hun
      refine wpOp_mono (fun a' w' h3 => ⟨h3.2.1, ih (listed.setIfInBounds j true) a' w' hfree' (ready_mono hr (Ne.symm hji)) h3.1 (h3.2.1 hjl) ?_⟩) h2
      rw [Array.setIfInBounds_comm _ _ hji]
      exact h3.2.2
theorem doneX {listed : Array Bool} {a : Act} {w : World} (hr : Region.ready md ops listed = []) (h : Q .normal a w) : ∀ fuel, wpAnyX P md ops Q S last fuel listed a w
  | 0 => ⟨hr, h⟩
  | _ + 1 => ⟨fun _ => h, by rw [hr]; simp⟩
theorem startX (last : Nat) {id : Nat} {a : Act} {w : World} (hm : P.follows .mixedOrders = true) (hS : S w.drew) (h : S w.drew → wpAnyX P .any ops Q S last ops.size (Array.replicate ops.size false) a w.drew) : (Code.region id ops true).wp P Q a w :=
  wp_region_any hm (wpAny_of_X _ _ _ _ (h hS))

variable {fuel : Nat} {listed : Array Bool} {t : List Value} {d : List Deferred} {w : World}
theorem takeX (i k : Nat) {oi : Oper} {v : Value} (hi : ops[i]? = some oi) (hd : oi.dst = some k)
    (hs : Region.noSelect ops = true) (hf : Region.free md ops listed i = true) (hr : (Region.ready md ops listed).contains i = true)
    (hQ : ∀ c a w, Q (.panic c) (a.put oi.dst v) w → Q (.panic c) a w) (hw : Region.wanted oi (yielded ops t.toArray) = true) (hlast : lastWaits md ops last i = true) (hil : i ≠ last) (hS : S w)
    (hy : ∀ w, S w → (execOp (Act.eval ⟨t.toArray, d⟩) oi).run P w = .ok (.value v) w)
    (h : wpAnyX P md ops Q S last fuel (listed.setIfInBounds i true) ⟨(t.set k v).toArray, d⟩ w) : wpAnyX P md ops Q S last (fuel + 1) listed ⟨t.toArray, d⟩ w := by
  refine firstX hi (Region.noSelect_spec hs) hQ hlast hil fuel listed _ w (Region.free_spec hi hf) (by simpa using hr) (Or.inl ⟨hw, hy⟩) hS ?_
  have e : Act.put ⟨t.toArray, d⟩ oi.dst v = ⟨(t.set k v).toArray, d⟩ := by simp [hd, Act.put]
  rw [e]
  exact h
theorem moveX (i k x : Nat) {oi : Oper} {v : Value} (hi : ops[i]? = some oi) (hd : oi.dst = some k) (ho : oi.op = .move (.tmp x))
    (hs : Region.noSelect ops = true) (hf : Region.free md ops listed i = true) (hr : (Region.ready md ops listed).contains i = true)
    (hQ : ∀ c a w, Q (.panic c) (a.put oi.dst v) w → Q (.panic c) a w) (hw : Region.wanted oi (yielded ops t.toArray) = true) (hlast : lastWaits md ops last i = true) (hil : i ≠ last) (hS : S w)
    (hv : t[x]? = some v)
    (h : wpAnyX P md ops Q S last fuel (listed.setIfInBounds i true) ⟨(t.set k v).toArray, d⟩ w) : wpAnyX P md ops Q S last (fuel + 1) listed ⟨t.toArray, d⟩ w :=
  takeX i k hi hd hs hf hr hQ hw hlast hil hS (fun w _ => by rw [BigFrame.run_move _ ho w, eval_slot hv]) h
/-- The one operation that may come up now. -/
theorem onlyX (i : Nat) {oi : Oper} (hi : ops[i]? = some oi) (hr : Region.ready md ops listed = [i]) (hw : Region.wanted oi (yielded ops t.toArray) = true)
    (h : ∀ K : Act → World → Prop, Shut (∀ a w, (i ≠ last → S w) → ((i ≠ last → S w) → wpAnyX P md ops Q S last fuel (listed.setIfInBounds i true) a w) → K a w) → Oper.wp P oi ⟨t.toArray, d⟩ w K Q) :
    wpAnyX P md ops Q S last (fuel + 1) listed ⟨t.toArray, d⟩ w := by
  refine ⟨fun h0 => (by rw [hr] at h0; cases h0), fun j hj => ?_⟩
  rw [hr] at hj
  obtain rfl : j = i := by simpa using hj
  unfold wpOp
  simp only [hi, hw, if_true]
  exact Or.inl (h _ (fun a w hS hn => ⟨hS, hn hS⟩))
end
end Go.Proofs.Ytkbhkgfchiacbaa
