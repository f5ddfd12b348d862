/- RefSeal LkReal U8: texts laid together. -/
import Derived.Test.YtkkehbebaokdmaaM09
import Derived.Test.YtkkehbebaokdmaaM11
import Derived.Test.YtkkehbebaokdmaaM04
import Derived.Test.YtkkehbebaokdmaaM03

/- What lockboxref5.Seal comes to. -/
namespace Go.Proofs.Ytkkehbebaokdmaa
open Go.RowKit
set_option maxRecDepth 20000

theorem rtag_is : TagIs 42 := fun sub xs ys x y n m c d hn hm _ _ => rtag sub xs ys x y n m c d hn hm
theorem rsub_of (key : BitVec 64 × BitVec 64) (n : Nn) {q : BitVec 64 × BitVec 64} (h : subP key n = q) (w : World) : Calls Try.prog 39 #[.agg #[.int .u64 (nv key.1), .int .u64 (nv key.2)], .agg #[.int .u32 (nv32 n.1), .int .u32 (nv32 n.2.1), .int .u64 (nv n.2.2)]] w fun e w' => e = .returned (.agg #[.int .u64 (nv q.1), .int .u64 (nv q.2)]) ∧ Below w.heap.size w w' := h ▸ rsub key n w

set_option maxRecDepth 10000 in
set_option maxHeartbeats 1000000 in
theorem rseal_own (key : BitVec 64 × BitVec 64) (n : Nn) (xs ys : List Int) (x y : Option Addr) (nx ny c d : Nat) (hnx : nx ≤ 4000) (hny : ny ≤ 4000) (bx : Bytes xs) (by_ : Bytes ys) (_hc : nx ≤ c) (_hd : ny ≤ d) (xnil : x = none → nx = 0 ∧ c = 0) (_ynil : y = none → ny = 0 ∧ d = 0) (w : World) (sx : SAt w x nx xs) (sy : SAt w y ny ys) :
  Calls Try.prog 24 #[.agg #[.int .u64 (nv key.1), .int .u64 (nv key.2)], .agg #[.int .u32 (nv32 n.1), .int .u32 (nv32 n.2.1), .int .u64 (nv n.2.2)], .slice x nx c, .slice y ny d] w fun e w' => ∃ v, e = .returned (.tuple #[.agg #[v, .int .u64 (nv (tagP (subP key n) xs (mixL (subP key n) ys)).1), .int .u64 (nv (tagP (subP key n) xs (mixL (subP key n) ys)).2)], .bool true]) ∧ w'.ownsRow w.heap.size 5 1 v ny ((mixL (subP key n) ys).map (Value.int .u8)) ∧ Below w.heap.size w w' := by
  obtain ⟨sub, HS⟩ : ∃ sub, Hid (subP key n = sub) := ⟨_, rfl⟩
  obtain ⟨ms, HM⟩ : ∃ ms, Hid (mixL sub ys = ms) := ⟨_, rfl⟩
  obtain ⟨t, HT⟩ : ∃ t, Hid (tagP sub xs ms = t) := ⟨_, rfl⟩
  have hml : ms.length = ny := by rw [← HM.out, mixL_length, sy.1]
  have hmb : Bytes ms := by rw [← HM.out]; exact mixL_bytes sub by_
  have HX : Hid (xorL ys (flowL sub ny) = ms) := by rw [← HM.out, mixL, sy.1]; exact hide' rfl
  rw [HS.out, HM.out, HT.out]
  go_enter Try.func24, Try.ntmps24
  go_wp2_with fail
  have b0 := ((Box.new w (nv key.1) (nv key.2)).alloc (.cells #[.int .u32 (nv32 n.1), .int .u32 (nv32 n.2.1), .int .u64 (nv n.2.2)] 35)).alloc (.cells #[.slice none 0 0, .int .u64 0, .int .u64 0] 32)
  have bR := SBox.new ((w.alloc (.cells #[.int .u64 (nv key.1), .int .u64 (nv key.2)] 30)).alloc (.cells #[.int .u32 (nv32 n.1), .int .u32 (nv32 n.2.1), .int .u64 (nv n.2.2)] 35)) (.slice none 0 0) 0 0
  have hB : Below w.heap.size w (((w.alloc (.cells #[.int .u64 (nv key.1), .int .u64 (nv key.2)] 30)).alloc (.cells #[.int .u32 (nv32 n.1), .int .u32 (nv32 n.2.1), .int .u64 (nv n.2.2)] 35)).alloc (.cells #[.slice none 0 0, .int .u64 0, .int .u64 0] 32)) := by go_grown
  simp only [World.size_alloc] at bR
  generalize ((w.alloc (.cells #[.int .u64 (nv key.1), .int .u64 (nv key.2)] 30)).alloc (.cells #[.int .u32 (nv32 n.1), .int .u32 (nv32 n.2.1), .int .u64 (nv n.2.2)] 35)).alloc (.cells #[.slice none 0 0, .int .u64 0, .int .u64 0] 32) = W1 at *
  replace sx := sx.below hB
  replace sy := sy.below hB
  refine (rsub_of key n HS.out _).mono ?_
  rintro e w1 ⟨rfl, hb⟩
  replace bR := bR.grown hb
  replace sx := sx.below hb
  replace sy := sy.below hb
  replace hB := hB.trans (hb.mono hB.size)
  clear hb b0
  go_wp2_with fail
  have hb : Below w1.heap.size w1 (w1.alloc (.cells #[.int .u64 (nv sub.1), .int .u64 (nv sub.2)] 30)) := (Below.refl _ _).alloc (Nat.le_refl _) _
  have b2 := Box.new w1 (nv sub.1) (nv sub.2)
  replace bR := bR.grown hb
  replace sx := sx.below hb
  replace sy := sy.below hb
  replace hB := hB.trans (hb.mono hB.size)
  clear hb
  generalize w1.alloc (.cells #[.int .u64 (nv sub.1), .int .u64 (nv sub.2)] 30) = w2 at *
  generalize w1.heap.size = A at *
  refine (rflow_at sub ny hny rfl rfl rfl _).mono ?_
  rintro e w3 ⟨⟨xf, cf, rfl, sf, hcf, -, -⟩, hb⟩
  replace bR := bR.grown hb
  replace b2 := b2.grown hb
  replace sx := sx.below hb
  replace sy := sy.below hb
  replace hB := hB.trans (hb.mono hB.size)
  clear hb
  go_wp2_with fail
  refine (rxor_own ys (flowL sub ny) y xf ny ny d cf (by omega) (by omega) _ sy sf).mono ?_
  rintro e w4 ⟨v, rfl, own, hb⟩
  have hz3 : w.heap.size + 1 + 1 + 1 ≤ w3.heap.size := bR.lt
  replace bR := bR.grown hb
  replace b2 := b2.grown hb
  replace sx := sx.below hb
  replace hB := hB.trans (hb.mono hB.size)
  clear hb sy sf
  rw [HX.out, Nat.min_self] at own
  replace own := own_low own hz3
  obtain ⟨z, l, cz, hv, sz, hcz, hcm, znil⟩ := own_gives hml own
  obtain rfl : v = .slice z l cz := by simpa using hv
  clear hv
  obtain rfl : ny = l := by rw [← sz.1, hml]
  have q0 := b2.c0
  have q1 := b2.c1
  go_wp2_with fail
  clear q0 q1
  refine (rtag sub xs ms x z nx ny c cz (by omega) (by omega) bx hmb xnil znil _ sx sz).mono ?_
  rintro e w5 ⟨rfl, hb⟩
  replace bR := bR.grown hb
  replace own := own_grown own hb
  replace sz := sz.below hb
  replace hB := hB.trans (hb.mono hB.size)
  clear hb sx b2
  rw [HT.out]
  have k0 := bR.c0
  have k1 := bR.c1
  have k2 := bR.c2
  have k3 := bR.frozen 0
  have k4 := bR.frozen 1
  have k5 := bR.frozen 2
  go_wp2
  have HNE : Hid ((Value.slice z ny cz).ownBlock ≠ some (w.heap.size + 1 + 1)) := fun e => by
    have := (own.lt _ e).1
    omega
  have hB2 := (((hB.setCell (p := ⟨w.heap.size + 1 + 1, 0, none⟩) (by simp only; omega) (.slice z ny cz)).setCell (p := ⟨w.heap.size + 1 + 1, 1, none⟩) (by simp only; omega) (.int .u64 (nv t.1))).setCell (p := ⟨w.heap.size + 1 + 1, 2, none⟩) (by simp only; omega) (.int .u64 (nv t.2)))
  refine bodyPost_ret (v := .tuple #[.agg #[.slice z ny cz, .int .u64 (nv t.1), .int .u64 (nv t.2)], .bool true]) (by simp [results, Try.results24, go_sem, k0, k1, k2]) rfl ⟨_, rfl, ?_, hB2⟩
  exact own_low (ownsRow_setCell_other (ownsRow_setCell_other (ownsRow_setCell_other own (a := ⟨w.heap.size + 1 + 1, 0, none⟩) HNE.out (.slice z ny cz)) (a := ⟨w.heap.size + 1 + 1, 1, none⟩) HNE.out (.int .u64 (nv t.1))) (a := ⟨w.heap.size + 1 + 1, 2, none⟩) HNE.out (.int .u64 (nv t.2))) (by omega)

theorem rseal_in : SealIn 24 := by
  intro key n xs ys x y nx ny c d hnx hny bx by_ hc hd xnil ynil w sx sy
  refine (rseal_own key n xs ys x y nx ny c d hnx hny bx by_ hc hd xnil ynil w sx sy).mono fun e w' ⟨v, he, own, hb⟩ => ?_
  obtain ⟨z, l, cz, hv, sz, hcz, hcm, znil⟩ := own_gives (by rw [mixL_length, sy.1]) own
  obtain rfl : v = .slice z l cz := by simpa using hv
  obtain rfl : ny = l := by rw [← sz.1, mixL_length, sy.1]
  exact ⟨z, cz, he, sz, hcz, hcm, znil, hb⟩
set_option maxHeartbeats 400000 in
theorem rseal_out : SealOut 24 := by
  intro key n x y nx ny c d h w
  by_cases h1 : 4000 < nx
  · clear h
    go_enter Try.func24, Try.ntmps24
    go_wp2
    refine bodyPost_ret (v := .tuple #[.agg #[.slice none 0 0, .int .u64 0, .int .u64 0], .bool false]) (by simp [results, Try.results24, go_sem]) rfl ⟨rfl, by go_grown⟩
  · have h2 : 4000 < ny := by omega
    clear h
    go_enter Try.func24, Try.ntmps24
    go_wp2
    refine bodyPost_ret (v := .tuple #[.agg #[.slice none 0 0, .int .u64 0, .int .u64 0], .bool false]) (by simp [results, Try.results24, go_sem]) rfl ⟨rfl, by go_grown⟩
end Go.Proofs.Ytkkehbebaokdmaa


/- LockReal's walk. -/
namespace Go.Proofs.Ytkkehbebaokdmaa
open Go.RowKit
set_option maxRecDepth 20000
variable {Inv : (Nat → Prop) → World → Value → LSt → Prop}

theorem LSt.sealT_real {st : LSt} (hi : st.ideal = false) (key : BitVec 64 × BitVec 64) (nn : Nn) (xs ys : List Int) : st.sealT key nn xs ys = tagP (subP key nn) xs (mixL (subP key nn) ys) := by rw [LSt.sealT, if_neg (by rw [hi]; decide)]
theorem LSt.sealB_real {st : LSt} (hi : st.ideal = false) (key : BitVec 64 × BitVec 64) (nn : Nn) (ys : List Int) : st.sealB key nn ys = mixL (subP key nn) ys := by rw [LSt.sealB, if_neg (by rw [hi]; decide)]
theorem LSt.sealS_real {st : LSt} (hi : st.ideal = false) (e : Iss) : st.sealS e = st := by rw [LSt.sealS, if_neg (by rw [hi]; decide)]
theorem rsame_self (t : BitVec 64 × BitVec 64) (xs : List Int) (z y : Option Addr) (m c d : Nat) (bx : Bytes xs) (w : World) (sz : SAt w z m xs) (sy : SAt w y m xs) : Calls Try.prog 12 #[.agg #[.slice z m c, .int .u64 (nv t.1), .int .u64 (nv t.2)], .agg #[.slice y m d, .int .u64 (nv t.1), .int .u64 (nv t.2)]] w fun e w' => e = .returned (.bool true) ∧ Below w.heap.size w w' := by
  refine (rsame_any t t xs xs z y m m c d bx bx w sz sy).mono ?_
  rintro e w' ⟨rfl, h⟩
  exact ⟨by simp, h⟩
set_option maxRecDepth 20000 in
set_option maxHeartbeats 2000000 in
theorem lreal (hO : LockIs Inv) (key : BitVec 64 × BitVec 64) (nn : Nn) (xs ys : List Int) (x y : Option Addr) (nx ny c d : Nat) (tm : Int) (bx : Bytes xs) (by_ : Bytes ys) (fx : Fit x nx c) (fy : Fit y ny d) (w : World) (sx : SAt w x nx xs) (sy : SAt w y ny ys) :
    Calls Try.prog 7 #[.agg #[.int .u64 (nv key.1), .int .u64 (nv key.2)], .agg #[.int .u32 (nv32 nn.1), .int .u32 (nv32 nn.2.1), .int .u64 (nv nn.2.2)], .slice x nx c, .slice y ny d, .int .i64 tm] w fun e w' => e = .returned (.bool true) ∧ Below w.heap.size w w' := by
  have bK := (Box.new w (nv key.1) (nv key.2)).alloc (.cells #[.int .u32 (nv32 nn.1), .int .u32 (nv32 nn.2.1), .int .u64 (nv nn.2.2)] 35)
  have bN := NBox.new (w.alloc (.cells #[.int .u64 (nv key.1), .int .u64 (nv key.2)] 30)) nn
  have hB : Below w.heap.size w ((w.alloc (.cells #[.int .u64 (nv key.1), .int .u64 (nv key.2)] 30)).alloc (.cells #[.int .u32 (nv32 nn.1), .int .u32 (nv32 nn.2.1), .int .u64 (nv nn.2.2)] 35)) := by go_grown
  simp only [World.size_alloc] at bN
  by_cases hx : 100 < nx
  · have hn' : (100 : Int) < nx := by omega
    go_enter Try.func7, Try.ntmps7
    go_wp2
    go_ret
    exact ⟨rfl, hB⟩
  by_cases hy : 100 < ny
  · have hn' : (100 : Int) < ny := by omega
    go_enter Try.func7, Try.ntmps7
    go_wp2
    go_ret
    exact ⟨rfl, hB⟩
  by_cases ht0 : tm < 0
  · go_enter Try.func7, Try.ntmps7
    go_wp2
    go_ret
    exact ⟨rfl, hB⟩
  by_cases ht5 : 5 < tm
  · go_enter Try.func7, Try.ntmps7
    go_wp2
    go_ret
    exact ⟨rfl, hB⟩
  go_enter Try.func7, Try.ntmps7
  go_wp2_with fail
  generalize (w.alloc (.cells #[.int .u64 (nv key.1), .int .u64 (nv key.2)] 30)).alloc (.cells #[.int .u32 (nv32 nn.1), .int .u32 (nv32 nn.2.1), .int .u64 (nv nn.2.2)] 35) = W0 at *
  have hbk := bK.lt
  have hbn := bN.lt
  refine (hO.real _).mono ?_
  rintro e w1 ⟨v, F, rfl, hI, hF, hb⟩
  obtain ⟨a, rfl⟩ := hO.ptr hI
  go_wp2_with fail
  replace sx := sx.below hB
  replace sy := sy.below hB
  have cx : ∀ (F : Nat → Prop) (w' : World), (∀ k, F k → W0.heap.size ≤ k) → Below W0.heap.size W0 w' → SIn (fun k => ¬ F k) w' x nx xs := fun F w' h1 h2 => (sx.inn.off (Off.of_below (F := fun _ => False) h2) (fun _ _ _ h => h)).mono (fun k _ h h' => by have := h1 k h'; omega)
  have cy : ∀ (F : Nat → Prop) (w' : World), (∀ k, F k → W0.heap.size ≤ k) → Below W0.heap.size W0 w' → SIn (fun k => ¬ F k) w' y ny ys := fun F w' h1 h2 => (sy.inn.off (Off.of_below (F := fun _ => False) h2) (fun _ _ _ h => h)).mono (fun k _ h h' => by have := h1 k h'; omega)
  go_loopw [12] (fun i wr => ∃ (k : Nat) (F : Nat → Prop), (k : Int) ≤ tm ∧ i = .int .i64 (k : Int) ∧ Inv F wr (.pointer (some a)) ⟨false, [], []⟩ ∧ (∀ k, F k → W0.heap.size ≤ k) ∧ Below W0.heap.size W0 wr) (fun i _ => tm.toNat - (intOf i).toNat)
  case atStart => exact ⟨0, F, by omega, rfl, hI, hF, hb⟩
  case round =>
    clear hI hF hb F
    obtain ⟨k, F, hk, rfl, hI, hF, hb⟩ := hrel
    have bK' := bK.below hb hbk
    have bN' : NBox wr (w.heap.size + 1) nn := (hb.block _ hbn).trans bN
    have k0 := bK'.c0
    have k1 := bK'.c1
    have n0 := bN'.c0
    have n1 := bN'.c1
    have n2 := bN'.c2
    by_cases hlt : (k : Int) < tm
    · go_wp2_with fail
      clear k0 k1 n0 n1 n2
      refine (lseal_at hO F _ ⟨false, [], []⟩ key nn rfl rfl rfl rfl rfl xs [] x none nx 0 c 0 (by omega) (by decide) (by decide) bx bytes_none fx fit_none _ hI (cx F _ hF hb) (SIn.none _ _ _)).mono ?_
      rintro e w2 ⟨z, cz, F2, rfl, hK, -, -⟩
      rw [LSt.sealS_real rfl] at hK
      go_wp2
      go_roundw
      case rel => exact ⟨k + 1, F2, by omega, by go_num, hK.inv, fun k hk => (hK.sub k hk).elim (hF k) (fun h => Nat.le_trans hb.size h), hb.trans (hK.off.below hF hb.size)⟩
      case measure => simp [intOf]; omega
    · obtain ⟨t, HT⟩ : ∃ t, Hid (tagP (subP key nn) xs (mixL (subP key nn) ys) = t) := ⟨_, rfl⟩
      go_wp2_with fail
      clear k0 k1 n0 n1 n2
      refine (lseal_at hO F _ ⟨false, [], []⟩ key nn rfl rfl rfl rfl rfl xs ys x y nx ny c d (by omega) (by omega) (by decide) bx by_ fx fy _ hI (cx F _ hF hb) (cy F _ hF hb)).mono ?_
      rw [LSt.sealT_real rfl, LSt.sealB_real rfl, LSt.sealS_real rfl, HT.out]
      rintro e w2 ⟨z, cz, F2, rfl, hK, sz, -⟩
      replace hb := hb.trans (hK.off.below hF hb.size)
      replace sz := sz.sat
      clear hK hI hF bK' bN'
      have bS := SBox.new w2 (.slice z ny cz) (nv t.1) (nv t.2)
      have hc : Below w2.heap.size w2 (w2.alloc (.cells #[.slice z ny cz, .int .u64 (nv t.1), .int .u64 (nv t.2)] 32)) := (Below.refl _ _).alloc (Nat.le_refl _) _
      replace sz := sz.below hc
      replace hb := hb.trans (hc.mono hb.size)
      have bK' := bK.below hb hbk
      have bN' : NBox (w2.alloc (.cells #[.slice z ny cz, .int .u64 (nv t.1), .int .u64 (nv t.2)] 32)) (w.heap.size + 1) nn := (hb.block _ hbn).trans bN
      have k0 := bK'.c0
      have k1 := bK'.c1
      have n0 := bN'.c0
      have n1 := bN'.c1
      have n2 := bN'.c2
      clear hc
      go_wp2_with fail
      clear k0 k1 n0 n1 n2 bK' bN'
      generalize w2.alloc (.cells #[.slice z ny cz, .int .u64 (nv t.1), .int .u64 (nv t.2)] 32) = w3 at *
      generalize w2.heap.size = B2 at *
      have hC := rseal_in key nn xs ys x y nx ny c d (by omega) (by omega) bx by_ fx.1 fy.1 fx.2.2 fy.2.2 _ (sx.below hb) (sy.below hb)
      rw [HT.out] at hC
      refine hC.mono ?_
      clear hC
      rintro e w4 ⟨z4, cz4, rfl, s4, -, -, -, hc⟩
      replace sz := sz.below hc
      replace bS := bS.grown hc
      replace hb := hb.trans (hc.mono hb.size)
      clear hc
      have bT := SBox.new w4 (.slice z4 ny cz4) (nv t.1) (nv t.2)
      have hc : Below w4.heap.size w4 (w4.alloc (.cells #[.slice z4 ny cz4, .int .u64 (nv t.1), .int .u64 (nv t.2)] 32)) := (Below.refl _ _).alloc (Nat.le_refl _) _
      replace sz := sz.below hc
      replace s4 := s4.below hc
      replace bS := bS.grown hc
      replace hb := hb.trans (hc.mono hb.size)
      clear hc
      have q0 := bS.c0
      have q1 := bS.c1
      have q2 := bS.c2
      have q3 := bT.c0
      have q4 := bT.c1
      have q5 := bT.c2
      go_wp2_with fail
      clear q0 q1 q2 q3 q4 q5
      refine (rsame_self t _ z z4 ny cz cz4 (mixL_bytes _ by_) _ sz s4).mono ?_
      rintro e w5 ⟨rfl, hc⟩
      replace hb := hb.trans (hc.mono hb.size)
      clear hc
      go_wp2_with fail
      refine (lknown hO _).mono ?_
      rintro e w6 ⟨rfl, hc⟩
      replace hb := hb.trans (hc.mono hb.size)
      go_wp2
      go_ret
      exact ⟨rfl, hB.trans (hb.mono hB.size)⟩
end Go.Proofs.Ytkkehbebaokdmaa


/- Blocks of bytes that stay as they were. -/
namespace Go.Proofs.Ytkkehbebaokdmaa
open Go.RowKit
set_option maxRecDepth 20000

/-- Every block of bytes is as it was. -/
def U8 (w w' : World) : Prop := ∀ (k : Nat) (cur : Array Value) (fr : Nat × Nat), w.heap[k]? = some (.cells cur 5 fr) → w'.heap[k]? = some (.cells cur 5 fr)
theorem U8.of_off {F : Nat → Prop} {w w' : World} (h : Off F w w') (hF : ∀ k cur fr, w.heap[k]? = some (.cells cur 5 fr) → ¬ F k) : U8 w w' := fun k cur fr hk => off_block hk h (hF k cur fr hk)
theorem U8.of_below {w w' : World} (h : Below w.heap.size w w') : U8 w w' := U8.of_off (F := fun _ => False) (Off.of_below h) (fun _ _ _ _ h => h)
theorem U8.trans {a b c : World} (h : U8 a b) (k : U8 b c) : U8 a c := fun i cur fr hi => k i cur fr (h i cur fr hi)
/-- This slice's block is of bytes, and none of those below B. -/
def Typ8 (B : Nat) (w : World) (z : Option Addr) (n : Nat) : Prop := 0 < n → ∃ g o cur fr, z = some ⟨g, o, none⟩ ∧ B ≤ g ∧ w.heap[g]? = some (.cells cur 5 fr)
theorem Typ8.stay {B : Nat} {w w' : World} {z : Option Addr} {n : Nat} (h : Typ8 B w z n) (hu : U8 w w') : Typ8 B w' z n := fun hn => by
  obtain ⟨g, o, cur, fr, e, hB, hg⟩ := h hn
  exact ⟨g, o, cur, fr, e, hB, hu g cur fr hg⟩
theorem Typ8.sin {B : Nat} {G : Nat → Prop} {w w' : World} {z : Option Addr} {n : Nat} {ys : List Int} (h : Typ8 B w z n) (hs : SIn G w z n ys) (hu : U8 w w') (hz : w.heap.size ≤ w'.heap.size) : SIn G w' z n ys :=
  ⟨hs.1, fun hn => by
    obtain ⟨g, o, cur, fr, e, hB, hg⟩ := h hn
    obtain ⟨b, o', e', hlt, hG, hat⟩ := hs.2 hn
    rw [e] at e'
    obtain ⟨rfl, rfl⟩ : g = b ∧ o = o' := by simpa using e'
    refine ⟨g, o, e, Nat.lt_of_lt_of_le hlt hz, hG, ?_⟩
    exact fun i hi => (World.cell?_of_block (w := w) ((hu g cur fr hg).trans hg.symm)).trans (hat i hi)⟩
theorem Typ8.mono {B B' : Nat} {w : World} {z : Option Addr} {n : Nat} (h : Typ8 B w z n) (hB : B' ≤ B) : Typ8 B' w z n := fun hn => by
  obtain ⟨g, o, cur, fr, e, h1, hg⟩ := h hn
  exact ⟨g, o, cur, fr, e, Nat.le_trans hB h1, hg⟩
theorem sat_no8 {w : World} {b B : Nat} {x : Option Addr} {n : Nat} {xs : List Int} (hc : ∀ cur fr, w.heap[b]? ≠ some (.cells cur 5 fr)) (ht : Typ8 B w x n) (h : SAt w x n xs) : SIn (fun k => k ≠ b) w x n xs :=
  ⟨h.1, fun hn => by
    obtain ⟨g, o, e, hlt, hat⟩ := h.2 hn
    obtain ⟨g', o', cur, fr, e', _, hg⟩ := ht hn
    rw [e] at e'
    obtain ⟨rfl, rfl⟩ : g = g' ∧ o = o' := by simpa using e'
    refine ⟨g, o, e, hlt, fun e2 => ?_, hat⟩
    subst e2
    exact hc _ _ hg⟩
end Go.Proofs.Ytkkehbebaokdmaa
