/- RefSeal LkReal OImA: texts laid together. -/
import Derived.Test.YtkkehbebaokdmaaM09
import Derived.Test.YtkkehbebaokdmaaM11
import Derived.Test.YtkkehbebaokdmaaM04
import Derived.Test.YtkkehbebaokdmaaM05
import Derived.Test.YtkkehbebaokdmaaM03

/- What lockboxref5.Seal comes to. -/
namespace Go.Proofs.Ytkkehbebaokdmaa
open Go.RowKit
set_option maxRecDepth 20000

theorem rtag_is : TagIs 42 := fun sub xs ys x y n m c d hn hm _ _ => rtag sub xs ys x y n m c d hn hm
theorem rsub_of (key : BitVec 64 × BitVec 64) (n : Nn) {q : BitVec 64 × BitVec 64} (h : subP key n = q) (w : World) : Calls Try.prog 39 #[.agg #[.int .u64 (nv key.1), .int .u64 (nv key.2)], .agg #[.int .u32 (nv32 n.1), .int .u32 (nv32 n.2.1), .int .u64 (nv n.2.2)]] w fun e w' => e = .returned (.agg #[.int .u64 (nv q.1), .int .u64 (nv q.2)]) ∧ Below w.heap.size w w' := h ▸ rsub key n w

set_option maxRecDepth 10000 in
set_option maxHeartbeats 1000000 in
theorem rseal_own (key : BitVec 64 × BitVec 64) (n : Nn) (xs ys : List Int) (x y : Option Addr) (nx ny c d : Nat) (hnx : nx ≤ 4000) (hny : ny ≤ 4000) (bx : Bytes xs) (by_ : Bytes ys) (_hc : nx ≤ c) (_hd : ny ≤ d) (xnil : x = none → nx = 0 ∧ c = 0) (_ynil : y = none → ny = 0 ∧ d = 0) (w : World) (sx : SAt w x nx xs) (sy : SAt w y ny ys) :
  Calls Try.prog 24 #[.agg #[.int .u64 (nv key.1), .int .u64 (nv key.2)], .agg #[.int .u32 (nv32 n.1), .int .u32 (nv32 n.2.1), .int .u64 (nv n.2.2)], .slice x nx c, .slice y ny d] w fun e w' => ∃ v, e = .returned (.tuple #[.agg #[v, .int .u64 (nv (tagP (subP key n) xs (mixL (subP key n) ys)).1), .int .u64 (nv (tagP (subP key n) xs (mixL (subP key n) ys)).2)], .bool true]) ∧ w'.ownsRow w.heap.size 5 1 v ny ((mixL (subP key n) ys).map (Value.int .u8)) ∧ Below w.heap.size w w' := by
  obtain ⟨sub, HS⟩ : ∃ sub, Hid (subP key n = sub) := ⟨_, rfl⟩
  obtain ⟨ms, HM⟩ : ∃ ms, Hid (mixL sub ys = ms) := ⟨_, rfl⟩
  obtain ⟨t, HT⟩ : ∃ t, Hid (tagP sub xs ms = t) := ⟨_, rfl⟩
  have hml : ms.length = ny := by rw [← HM.out, mixL_length, sy.1]
  have hmb : Bytes ms := by rw [← HM.out]; exact mixL_bytes sub by_
  have HX : Hid (xorL ys (flowL sub ny) = ms) := by rw [← HM.out, mixL, sy.1]; exact hide' rfl
  rw [HS.out, HM.out, HT.out]
  go_enter Try.func24, Try.ntmps24
  go_wp2_with fail
  have b0 := ((Box.new w (nv key.1) (nv key.2)).alloc (.cells #[.int .u32 (nv32 n.1), .int .u32 (nv32 n.2.1), .int .u64 (nv n.2.2)] 35)).alloc (.cells #[.slice none 0 0, .int .u64 0, .int .u64 0] 32)
  have bR := SBox.new ((w.alloc (.cells #[.int .u64 (nv key.1), .int .u64 (nv key.2)] 30)).alloc (.cells #[.int .u32 (nv32 n.1), .int .u32 (nv32 n.2.1), .int .u64 (nv n.2.2)] 35)) (.slice none 0 0) 0 0
  have hB : Below w.heap.size w (((w.alloc (.cells #[.int .u64 (nv key.1), .int .u64 (nv key.2)] 30)).alloc (.cells #[.int .u32 (nv32 n.1), .int .u32 (nv32 n.2.1), .int .u64 (nv n.2.2)] 35)).alloc (.cells #[.slice none 0 0, .int .u64 0, .int .u64 0] 32)) := by go_grown
  simp only [World.size_alloc] at bR
  generalize ((w.alloc (.cells #[.int .u64 (nv key.1), .int .u64 (nv key.2)] 30)).alloc (.cells #[.int .u32 (nv32 n.1), .int .u32 (nv32 n.2.1), .int .u64 (nv n.2.2)] 35)).alloc (.cells #[.slice none 0 0, .int .u64 0, .int .u64 0] 32) = W1 at *
  replace sx := sx.below hB
  replace sy := sy.below hB
  refine (rsub_of key n HS.out _).mono ?_
  rintro e w1 ⟨rfl, hb⟩
  replace bR := bR.grown hb
  replace sx := sx.below hb
  replace sy := sy.below hb
  replace hB := hB.trans (hb.mono hB.size)
  clear hb b0
  go_wp2_with fail
  have hb : Below w1.heap.size w1 (w1.alloc (.cells #[.int .u64 (nv sub.1), .int .u64 (nv sub.2)] 30)) := (Below.refl _ _).alloc (Nat.le_refl _) _
  have b2 := Box.new w1 (nv sub.1) (nv sub.2)
  replace bR := bR.grown hb
  replace sx := sx.below hb
  replace sy := sy.below hb
  replace hB := hB.trans (hb.mono hB.size)
  clear hb
  generalize w1.alloc (.cells #[.int .u64 (nv sub.1), .int .u64 (nv sub.2)] 30) = w2 at *
  generalize w1.heap.size = A at *
  refine (rflow_at sub ny hny rfl rfl rfl _).mono ?_
  rintro e w3 ⟨⟨xf, cf, rfl, sf, hcf, -, -⟩, hb⟩
  replace bR := bR.grown hb
  replace b2 := b2.grown hb
  replace sx := sx.below hb
  replace sy := sy.below hb
  replace hB := hB.trans (hb.mono hB.size)
  clear hb
  go_wp2_with fail
  refine (rxor_own ys (flowL sub ny) y xf ny ny d cf (by omega) (by omega) _ sy sf).mono ?_
  rintro e w4 ⟨v, rfl, own, hb⟩
  have hz3 : w.heap.size + 1 + 1 + 1 ≤ w3.heap.size := bR.lt
  replace bR := bR.grown hb
  replace b2 := b2.grown hb
  replace sx := sx.below hb
  replace hB := hB.trans (hb.mono hB.size)
  clear hb sy sf
  rw [HX.out, Nat.min_self] at own
  replace own := own_low own hz3
  obtain ⟨z, l, cz, hv, sz, hcz, hcm, znil⟩ := own_gives hml own
  obtain rfl : v = .slice z l cz := by simpa using hv
  clear hv
  obtain rfl : ny = l := by rw [← sz.1, hml]
  have q0 := b2.c0
  have q1 := b2.c1
  go_wp2_with fail
  clear q0 q1
  refine (rtag sub xs ms x z nx ny c cz (by omega) (by omega) bx hmb xnil znil _ sx sz).mono ?_
  rintro e w5 ⟨rfl, hb⟩
  replace bR := bR.grown hb
  replace own := own_grown own hb
  replace sz := sz.below hb
  replace hB := hB.trans (hb.mono hB.size)
  clear hb sx b2
  rw [HT.out]
  have k0 := bR.c0
  have k1 := bR.c1
  have k2 := bR.c2
  have k3 := bR.frozen 0
  have k4 := bR.frozen 1
  have k5 := bR.frozen 2
  go_wp2
  have HNE : Hid ((Value.slice z ny cz).ownBlock ≠ some (w.heap.size + 1 + 1)) := fun e => by
    have := (own.lt _ e).1
    omega
  have hB2 := (((hB.setCell (p := ⟨w.heap.size + 1 + 1, 0, none⟩) (by simp only; omega) (.slice z ny cz)).setCell (p := ⟨w.heap.size + 1 + 1, 1, none⟩) (by simp only; omega) (.int .u64 (nv t.1))).setCell (p := ⟨w.heap.size + 1 + 1, 2, none⟩) (by simp only; omega) (.int .u64 (nv t.2)))
  refine bodyPost_ret (v := .tuple #[.agg #[.slice z ny cz, .int .u64 (nv t.1), .int .u64 (nv t.2)], .bool true]) (by simp [results, Try.results24, go_sem, k0, k1, k2]) rfl ⟨_, rfl, ?_, hB2⟩
  exact own_low (ownsRow_setCell_other (ownsRow_setCell_other (ownsRow_setCell_other own (a := ⟨w.heap.size + 1 + 1, 0, none⟩) HNE.out (.slice z ny cz)) (a := ⟨w.heap.size + 1 + 1, 1, none⟩) HNE.out (.int .u64 (nv t.1))) (a := ⟨w.heap.size + 1 + 1, 2, none⟩) HNE.out (.int .u64 (nv t.2))) (by omega)

theorem rseal_in : SealIn 24 := by
  intro key n xs ys x y nx ny c d hnx hny bx by_ hc hd xnil ynil w sx sy
  refine (rseal_own key n xs ys x y nx ny c d hnx hny bx by_ hc hd xnil ynil w sx sy).mono fun e w' ⟨v, he, own, hb⟩ => ?_
  obtain ⟨z, l, cz, hv, sz, hcz, hcm, znil⟩ := own_gives (by rw [mixL_length, sy.1]) own
  obtain rfl : v = .slice z l cz := by simpa using hv
  obtain rfl : ny = l := by rw [← sz.1, mixL_length, sy.1]
  exact ⟨z, cz, he, sz, hcz, hcm, znil, hb⟩
set_option maxHeartbeats 400000 in
theorem rseal_out : SealOut 24 := by
  intro key n x y nx ny c d h w
  by_cases h1 : 4000 < nx
  · clear h
    go_enter Try.func24, Try.ntmps24
    go_wp2
    refine bodyPost_ret (v := .tuple #[.agg #[.slice none 0 0, .int .u64 0, .int .u64 0], .bool false]) (by simp [results, Try.results24, go_sem]) rfl ⟨rfl, by go_grown⟩
  · have h2 : 4000 < ny := by omega
    clear h
    go_enter Try.func24, Try.ntmps24
    go_wp2
    refine bodyPost_ret (v := .tuple #[.agg #[.slice none 0 0, .int .u64 0, .int .u64 0], .bool false]) (by simp [results, Try.results24, go_sem]) rfl ⟨rfl, by go_grown⟩
end Go.Proofs.Ytkkehbebaokdmaa


/- LockReal's walk. -/
namespace Go.Proofs.Ytkkehbebaokdmaa
open Go.RowKit
set_option maxRecDepth 20000
variable {Inv : (Nat → Prop) → World → Value → LSt → Prop}

theorem LSt.sealT_real {st : LSt} (hi : st.ideal = false) (key : BitVec 64 × BitVec 64) (nn : Nn) (xs ys : List Int) : st.sealT key nn xs ys = tagP (subP key nn) xs (mixL (subP key nn) ys) := by rw [LSt.sealT, if_neg (by rw [hi]; decide)]
theorem LSt.sealB_real {st : LSt} (hi : st.ideal = false) (key : BitVec 64 × BitVec 64) (nn : Nn) (ys : List Int) : st.sealB key nn ys = mixL (subP key nn) ys := by rw [LSt.sealB, if_neg (by rw [hi]; decide)]
theorem LSt.sealS_real {st : LSt} (hi : st.ideal = false) (e : Iss) : st.sealS e = st := by rw [LSt.sealS, if_neg (by rw [hi]; decide)]
theorem rsame_self (t : BitVec 64 × BitVec 64) (xs : List Int) (z y : Option Addr) (m c d : Nat) (bx : Bytes xs) (w : World) (sz : SAt w z m xs) (sy : SAt w y m xs) : Calls Try.prog 12 #[.agg #[.slice z m c, .int .u64 (nv t.1), .int .u64 (nv t.2)], .agg #[.slice y m d, .int .u64 (nv t.1), .int .u64 (nv t.2)]] w fun e w' => e = .returned (.bool true) ∧ Below w.heap.size w w' := by
  refine (rsame_any t t xs xs z y m m c d bx bx w sz sy).mono ?_
  rintro e w' ⟨rfl, h⟩
  exact ⟨by simp, h⟩
set_option maxRecDepth 20000 in
set_option maxHeartbeats 2000000 in
theorem lreal (hO : LockIs Inv) (key : BitVec 64 × BitVec 64) (nn : Nn) (xs ys : List Int) (x y : Option Addr) (nx ny c d : Nat) (tm : Int) (bx : Bytes xs) (by_ : Bytes ys) (fx : Fit x nx c) (fy : Fit y ny d) (w : World) (sx : SAt w x nx xs) (sy : SAt w y ny ys) :
    Calls Try.prog 7 #[.agg #[.int .u64 (nv key.1), .int .u64 (nv key.2)], .agg #[.int .u32 (nv32 nn.1), .int .u32 (nv32 nn.2.1), .int .u64 (nv nn.2.2)], .slice x nx c, .slice y ny d, .int .i64 tm] w fun e w' => e = .returned (.bool true) ∧ Below w.heap.size w w' := by
  have bK := (Box.new w (nv key.1) (nv key.2)).alloc (.cells #[.int .u32 (nv32 nn.1), .int .u32 (nv32 nn.2.1), .int .u64 (nv nn.2.2)] 35)
  have bN := NBox.new (w.alloc (.cells #[.int .u64 (nv key.1), .int .u64 (nv key.2)] 30)) nn
  have hB : Below w.heap.size w ((w.alloc (.cells #[.int .u64 (nv key.1), .int .u64 (nv key.2)] 30)).alloc (.cells #[.int .u32 (nv32 nn.1), .int .u32 (nv32 nn.2.1), .int .u64 (nv nn.2.2)] 35)) := by go_grown
  simp only [World.size_alloc] at bN
  by_cases hx : 100 < nx
  · have hn' : (100 : Int) < nx := by omega
    go_enter Try.func7, Try.ntmps7
    go_wp2
    go_ret
    exact ⟨rfl, hB⟩
  by_cases hy : 100 < ny
  · have hn' : (100 : Int) < ny := by omega
    go_enter Try.func7, Try.ntmps7
    go_wp2
    go_ret
    exact ⟨rfl, hB⟩
  by_cases ht0 : tm < 0
  · go_enter Try.func7, Try.ntmps7
    go_wp2
    go_ret
    exact ⟨rfl, hB⟩
  by_cases ht5 : 5 < tm
  · go_enter Try.func7, Try.ntmps7
    go_wp2
    go_ret
    exact ⟨rfl, hB⟩
  go_enter Try.func7, Try.ntmps7
  go_wp2_with fail
  generalize (w.alloc (.cells #[.int .u64 (nv key.1), .int .u64 (nv key.2)] 30)).alloc (.cells #[.int .u32 (nv32 nn.1), .int .u32 (nv32 nn.2.1), .int .u64 (nv nn.2.2)] 35) = W0 at *
  have hbk := bK.lt
  have hbn := bN.lt
  refine (hO.real _).mono ?_
  rintro e w1 ⟨v, F, rfl, hI, hF, hb⟩
  obtain ⟨a, rfl⟩ := hO.ptr hI
  go_wp2_with fail
  replace sx := sx.below hB
  replace sy := sy.below hB
  have cx : ∀ (F : Nat → Prop) (w' : World), (∀ k, F k → W0.heap.size ≤ k) → Below W0.heap.size W0 w' → SIn (fun k => ¬ F k) w' x nx xs := fun F w' h1 h2 => (sx.inn.off (Off.of_below (F := fun _ => False) h2) (fun _ _ _ h => h)).mono (fun k _ h h' => by have := h1 k h'; omega)
  have cy : ∀ (F : Nat → Prop) (w' : World), (∀ k, F k → W0.heap.size ≤ k) → Below W0.heap.size W0 w' → SIn (fun k => ¬ F k) w' y ny ys := fun F w' h1 h2 => (sy.inn.off (Off.of_below (F := fun _ => False) h2) (fun _ _ _ h => h)).mono (fun k _ h h' => by have := h1 k h'; omega)
  go_loopw [12] (fun i wr => ∃ (k : Nat) (F : Nat → Prop), (k : Int) ≤ tm ∧ i = .int .i64 (k : Int) ∧ Inv F wr (.pointer (some a)) ⟨false, [], []⟩ ∧ (∀ k, F k → W0.heap.size ≤ k) ∧ Below W0.heap.size W0 wr) (fun i _ => tm.toNat - (intOf i).toNat)
  case atStart => exact ⟨0, F, by omega, rfl, hI, hF, hb⟩
  case round =>
    clear hI hF hb F
    obtain ⟨k, F, hk, rfl, hI, hF, hb⟩ := hrel
    have bK' := bK.below hb hbk
    have bN' : NBox wr (w.heap.size + 1) nn := (hb.block _ hbn).trans bN
    have k0 := bK'.c0
    have k1 := bK'.c1
    have n0 := bN'.c0
    have n1 := bN'.c1
    have n2 := bN'.c2
    by_cases hlt : (k : Int) < tm
    · go_wp2_with fail
      clear k0 k1 n0 n1 n2
      refine (lseal_at hO F _ ⟨false, [], []⟩ key nn rfl rfl rfl rfl rfl xs [] x none nx 0 c 0 (by omega) (by decide) (by decide) bx bytes_none fx fit_none _ hI (cx F _ hF hb) (SIn.none _ _ _)).mono ?_
      rintro e w2 ⟨z, cz, F2, rfl, hK, -, -⟩
      rw [LSt.sealS_real rfl] at hK
      go_wp2
      go_roundw
      case rel => exact ⟨k + 1, F2, by omega, by go_num, hK.inv, fun k hk => (hK.sub k hk).elim (hF k) (fun h => Nat.le_trans hb.size h), hb.trans (hK.off.below hF hb.size)⟩
      case measure => simp [intOf]; omega
    · obtain ⟨t, HT⟩ : ∃ t, Hid (tagP (subP key nn) xs (mixL (subP key nn) ys) = t) := ⟨_, rfl⟩
      go_wp2_with fail
      clear k0 k1 n0 n1 n2
      refine (lseal_at hO F _ ⟨false, [], []⟩ key nn rfl rfl rfl rfl rfl xs ys x y nx ny c d (by omega) (by omega) (by decide) bx by_ fx fy _ hI (cx F _ hF hb) (cy F _ hF hb)).mono ?_
      rw [LSt.sealT_real rfl, LSt.sealB_real rfl, LSt.sealS_real rfl, HT.out]
      rintro e w2 ⟨z, cz, F2, rfl, hK, sz, -⟩
      replace hb := hb.trans (hK.off.below hF hb.size)
      replace sz := sz.sat
      clear hK hI hF bK' bN'
      have bS := SBox.new w2 (.slice z ny cz) (nv t.1) (nv t.2)
      have hc : Below w2.heap.size w2 (w2.alloc (.cells #[.slice z ny cz, .int .u64 (nv t.1), .int .u64 (nv t.2)] 32)) := (Below.refl _ _).alloc (Nat.le_refl _) _
      replace sz := sz.below hc
      replace hb := hb.trans (hc.mono hb.size)
      have bK' := bK.below hb hbk
      have bN' : NBox (w2.alloc (.cells #[.slice z ny cz, .int .u64 (nv t.1), .int .u64 (nv t.2)] 32)) (w.heap.size + 1) nn := (hb.block _ hbn).trans bN
      have k0 := bK'.c0
      have k1 := bK'.c1
      have n0 := bN'.c0
      have n1 := bN'.c1
      have n2 := bN'.c2
      clear hc
      go_wp2_with fail
      clear k0 k1 n0 n1 n2 bK' bN'
      generalize w2.alloc (.cells #[.slice z ny cz, .int .u64 (nv t.1), .int .u64 (nv t.2)] 32) = w3 at *
      generalize w2.heap.size = B2 at *
      have hC := rseal_in key nn xs ys x y nx ny c d (by omega) (by omega) bx by_ fx.1 fy.1 fx.2.2 fy.2.2 _ (sx.below hb) (sy.below hb)
      rw [HT.out] at hC
      refine hC.mono ?_
      clear hC
      rintro e w4 ⟨z4, cz4, rfl, s4, -, -, -, hc⟩
      replace sz := sz.below hc
      replace bS := bS.grown hc
      replace hb := hb.trans (hc.mono hb.size)
      clear hc
      have bT := SBox.new w4 (.slice z4 ny cz4) (nv t.1) (nv t.2)
      have hc : Below w4.heap.size w4 (w4.alloc (.cells #[.slice z4 ny cz4, .int .u64 (nv t.1), .int .u64 (nv t.2)] 32)) := (Below.refl _ _).alloc (Nat.le_refl _) _
      replace sz := sz.below hc
      replace s4 := s4.below hc
      replace bS := bS.grown hc
      replace hb := hb.trans (hc.mono hb.size)
      clear hc
      have q0 := bS.c0
      have q1 := bS.c1
      have q2 := bS.c2
      have q3 := bT.c0
      have q4 := bT.c1
      have q5 := bT.c2
      go_wp2_with fail
      clear q0 q1 q2 q3 q4 q5
      refine (rsame_self t _ z z4 ny cz cz4 (mixL_bytes _ by_) _ sz s4).mono ?_
      rintro e w5 ⟨rfl, hc⟩
      replace hb := hb.trans (hc.mono hb.size)
      clear hc
      go_wp2_with fail
      refine (lknown hO _).mono ?_
      rintro e w6 ⟨rfl, hc⟩
      replace hb := hb.trans (hc.mono hb.size)
      go_wp2
      go_ret
      exact ⟨rfl, hB.trans (hb.mono hB.size)⟩
end Go.Proofs.Ytkkehbebaokdmaa


/- What the program's oracle calls: bytes.Clone, bytes.Equal, sealed, same. -/
namespace Go.Proofs.Ytkkehbebaokdmaa
open Go.RowKit
set_option maxRecDepth 20000

/-- New blocks alone, none of them frozen. -/
structure Clean (w w' : World) : Prop where
  b : Below w.heap.size w w'
  f : ∀ k i, w.heap.size ≤ k → w'.frozen? ⟨k, i, none⟩ = false
theorem Clean.refl (w : World) : Clean w w := ⟨Below.refl _ _, fun k i h => by
  have : w.heap[k]? = none := Array.getElem?_eq_none h
  simp [World.frozen?, this]⟩
theorem Clean.drew {a w : World} (h : Clean a w) : Clean a w.drew := ⟨h.b.drew, h.f⟩
theorem Clean.alloc {a w : World} (h : Clean a w) (c : Array Value) (t : TypeId) : Clean a (w.alloc (.cells c t)) := ⟨h.b.alloc h.b.size _, fun k i hk => by
  by_cases e : k = w.heap.size
  · subst e
    simp
  · rw [World.frozen?_alloc_old _ _ _ (show (⟨k, i, none⟩ : Addr).block ≠ w.heap.size from e)]
    exact h.f k i hk⟩
theorem Clean.setCell {a w : World} (h : Clean a w) {p : Addr} (hp : a.heap.size ≤ p.block) (u : Value) : Clean a (w.setCell p u) := ⟨h.b.setCell hp u, fun k i hk => by
  rw [World.frozen?_setCell]
  exact h.f k i hk⟩
theorem Clean.trans {a b c : World} (h : Clean a b) (k : Clean b c) : Clean a c := ⟨h.b.trans (k.b.mono h.b.size), fun n i hn => by
  rcases Nat.lt_or_ge n b.heap.size with hl | hl
  · rw [World.frozen?_of_block (w := b) (a := ⟨n, i, none⟩) (k.b.block n hl)]
    exact h.f n i hn
  · exact k.f n i hl⟩

set_option maxHeartbeats 400000 in
theorem iput8 (V : Nat) (w : World) : Calls Try.prog 65 #[.int .u64 V, .int .i64 8] w fun e w' => e = .returned (.slice (some ⟨w.heap.size, 0, none⟩) 8 8) ∧ At w' w.heap.size 0 (putL V 8) ∧ Clean w w' ∧ w.heap.size < w'.heap.size := by
  obtain ⟨n, hn⟩ : ∃ n : Nat, n = 8 := ⟨_, rfl⟩
  have e8 : (8 : Int) = (n : Int) := by omega
  rw [← hn]
  rw [show ((.int .i64 8 : Value)) = .int .i64 (n : Int) from by rw [e8]]
  have h1 : 1 ≤ n := by omega
  have h2 : n ≤ 8 := by omega
  clear e8 hn
  have hmk := run_make_row' (P := Try.prog) 27 5 (.int .u8 0) 1 Try.underlying27 Try.info5 rfl .i64 .i64 n (by omega) (by omega)
  go_enter Try.func65, Try.ntmps65
  go_wp2
  go_loopw [0, 6] (fun v i wr => ∃ k : Nat, k ≤ n ∧ i = .int .i64 ((k : Int) - 1) ∧ v = .int .u64 ((V / 256 ^ (n - k) : Nat) : Int) ∧ wr.rowIs w.heap.size 5 n (fun j => if j < k then .int .u8 0 else .int .u8 (byteAt V (n - 1 - j))) ∧ Clean w wr)
    (fun _ i _ => (intOf i + 1).toNat)
  case atStart =>
    exact ⟨n, Nat.le_refl _, rfl, by simp, (World.rowIs_made _ _ _ _).congr (fun i hi => by simp [hi]), (Clean.refl _).alloc _ _⟩
  case round =>
    obtain ⟨k, hk, rfl, rfl, hrow, hb⟩ := hrel
    by_cases hlt : 1 ≤ k
    · have hce := hrow.cell (i := k - 1) (by omega)
      have hfr := hrow.frozen (k - 1)
      go_wp2
      go_roundw
      case rel =>
        refine ⟨k - 1, by omega, by rw [show (k : Int) - 1 - 1 = ((k - 1 : Nat) : Int) - 1 from by omega], by rw [shr_step V n k hlt hk], (hrow.set (k - 1) _).congr (fun i hi => ?_), hb.setCell (Nat.le_refl _) _⟩
        by_cases e : i = k - 1
        · subst e; simp [byte_step V n k hlt hk]
        · by_cases e' : i < k - 1
          · have e2 : i < k := by omega
            simp [e, e', e2]
          · have e2 : ¬ i < k := by omega
            simp [e, e', e2]
      case measure => simp [intOf]; omega
    · go_wp2
      go_ret
      refine ⟨rfl, At.put (hrow.congr (fun i hi => ?_)), hb, hrow.lt⟩
      have e : ¬ i < k := by omega
      simp [e]

/-- append of bytes to an empty slice literal: new memory, none of it frozen. -/
theorem wpList_app0C {o : Oper} {a : Act} {w : World} {ops : Array Oper} {rest : List Oper} {Q : Exit → Act → World → Prop} (hgd : o.guard = none) (s x : Operand)
    (ho : o.op = .call { callee := .builtin .append, args := #[s, x], argTypes := #[27, 27] }) (g : Nat) (hs : a.eval s = .slice (some ⟨g, 0, none⟩) 0 0) (base : Nat) (hown : w.ownsRow base 5 1 (.slice (some ⟨g, 0, none⟩) 0 0) 0 [])
    (y : Option Addr) (m c : Nat) (xs : List Int) (hx : a.eval x = .slice y m c) (hrow : SAt w y m xs) (hb : m ≤ 100000) (hbase : base ≤ w.heap.size)
    (h : ∀ v w', w'.ownsRow base 5 1 v m (xs.map (Value.int .u8)) → Clean w w' → wpList Try.prog ops Q rest (a.put o.dst v) w') : wpList Try.prog ops Q (o :: rest) a w := by
  refine wpList_plain hgd fun _ hK => ?_
  obtain ⟨i0, hi, hz0, hz1, hz2⟩ := info_parts Try.info5
  by_cases hm : m = 0
  · subst hm
    obtain rfl : xs = [] := List.eq_nil_of_length_eq_zero hrow.1
    have hr : (Builtin.append_ #[27, 27] o.type #[.slice (some ⟨g, 0, none⟩) 0 0, .slice y 0 c]).run Try.prog w = .ok (.slice (some ⟨g, 0, none⟩) 0 0) w := by
      cases y with
      | none => simp [Builtin.append_, run_underlying Try.underlying27, sizeOf, typeInfo, hi, Builtin.lenOf, Builtin.firstCells, storeCells]
      | some ad =>
        have hf := run_firstCells_some (P := Try.prog) w i0.size 0 ad 0 c [] (by simp) (fun j u hj => by simp at hj)
        simp [Builtin.append_, run_underlying Try.underlying27, sizeOf, typeInfo, hi, Builtin.lenOf, hf, storeCells]
    unfold Oper.wp execOp
    simp only [ho, resolve, invoke, builtin, Sem.run_bind, Sem.run_pure, Result.andThen_ok, List.map_toArray, List.map_cons, List.map_nil, hs, hx, hr]
    exact hK _ _ (h _ w hown (Clean.refl _))
  · obtain ⟨b, off, rfl, _, hc⟩ := hrow.2 (by omega)
    have hl : (xs.map (Value.int .u8)).length = m := by rw [List.length_map]; exact hrow.1
    have hr := run_append_grow (P := Try.prog) w 27 o.type 5 i0 _ Try.underlying27 hi hz0 ⟨g, 0, none⟩ 0 0 [] (by simp) (fun j u hj => by simp at hj) ⟨b, off, none⟩ m c (xs.map (Value.int .u8)) (by rw [hz1, hl, Nat.mul_one]) hc.news (by omega) (by omega)
      (by rw [hz2]; exact growslice_fits (by omega) (by omega))
    simp only [Nat.zero_add] at hr
    have hge := grownCap_ge w m 0 5
    unfold Oper.wp execOp
    simp only [ho, resolve, invoke, builtin, Sem.run_bind, Sem.run_pure, Result.andThen_ok, List.map_toArray, List.map_cons, List.map_nil, hs, hx, hr]
    refine hK _ _ (h _ _ ⟨by rw [hl, Nat.mul_one], .inr ⟨w.heap.size, _, _, rfl, hbase, heap_alloc_new w.drew _, hge, grownCap_le_maxLen w m 0 5 (by unfold maxLen; omega), ?_, ?_⟩⟩ ((Clean.refl w).drew.alloc _ _))
    · simp [size_zeroCells, hl, Value.cells]
      omega
    · rw [Nat.mul_one, ← hl]
      simp

theorem nil_eq (a : Option Addr) (l c : Nat) (w : World) : (binOp .eql 27 (.slice a l c) (.slice none 0 0)).run Try.prog w = .ok (.bool a.isNone) w := by
  simp [binOp, run_equal_slice_nil (P := Try.prog) (w := w) 27 5 a l c Try.underlying27, Result.andThen]
set_option maxHeartbeats 1000000 in
theorem iclone (x : Option Addr) (n c : Nat) (xs : List Int) (hn : n ≤ 100000) (hnil : x = none → n = 0 ∧ c = 0) (w : World) (sx : SAt w x n xs) : Calls Try.prog 46 #[.slice x n c] w fun e w' => ∃ v, e = .returned v ∧ w'.ownsRow w.heap.size 5 1 v n (xs.map (Value.int .u8)) ∧ Clean w w' := by
  have hne := nil_eq
  cases x with
  | none =>
    obtain ⟨rfl, rfl⟩ := hnil rfl
    obtain rfl : xs = [] := List.eq_nil_of_length_eq_zero sx.1
    go_enter Try.func46, Try.ntmps46
    go_wp2
    go_ret
    exact ⟨_, rfl, World.ownsRow_nil _ _ _ _, Clean.refl _⟩
  | some ad =>
    have hb : Below w.heap.size w (w.alloc (.cells #[] 5)) := (Below.refl _ _).alloc (Nat.le_refl _) _
    go_enter Try.func46, Try.ntmps46
    go_wp2_with (at_builtin; refine wpList_app0C rfl _ _ rfl w.heap.size rfl w.heap.size (World.ownsRow_lit (base := w.heap.size) (e := 5) (size := 1) w #[] 0 (Nat.le_refl _) (by decide) rfl) (some ad) n c xs rfl (sx.below hb) hn (by simp) ?_)
    intro v w' own hc
    replace hc := ((Clean.refl w).alloc #[] 5).trans hc
    go_wp2
    go_ret
    exact ⟨_, rfl, own, hc⟩

theorem iequal (x y : Option Addr) (n m c d : Nat) (xs ys : List Int) (bx : Bytes xs) (by_ : Bytes ys) (w : World) (sx : SAt w x n xs) (sy : SAt w y m ys) : Calls Try.prog 48 #[.slice x n c, .slice y m d] w fun e w' => e = .returned (.bool (decide (xs = ys))) ∧ w' = w := by
  have e1 := fun c => sx.conv (c := c)
  have e2 := fun c => sy.conv (c := c)
  rw [← str_eq xs ys bx by_]
  go_enter Try.func48, Try.ntmps48
  go_wp2
  go_ret
  exact ⟨rfl, rfl⟩

set_option maxHeartbeats 1000000 in
theorem isame (t t' : BitVec 64 × BitVec 64) (xs ys : List Int) (z y : Option Addr) (m n c d : Nat) (bx : Bytes xs) (by_ : Bytes ys) (w : World) (sz : SAt w z m xs) (sy : SAt w y n ys) : Calls Try.prog 49 #[.agg #[.slice z m c, .int .u64 (nv t.1), .int .u64 (nv t.2)], .agg #[.slice y n d, .int .u64 (nv t'.1), .int .u64 (nv t'.2)]] w fun e w' => e = .returned (.bool (decide (t = t' ∧ xs = ys))) ∧ Below w.heap.size w w' := by
  have heq := eq32
  have hb : Below w.heap.size w ((w.alloc (.cells #[.slice z m c, .int .u64 (nv t.1), .int .u64 (nv t.2)] 32)).alloc (.cells #[.slice y n d, .int .u64 (nv t'.1), .int .u64 (nv t'.2)] 32)) := by go_grown
  have hpe := pair_eq_of t t'
  by_cases h : t = t'
  · have hpe2 : (nv t.1 == nv t'.1 && nv t.2 == nv t'.2) = true := by rw [hpe]; exact decide_eq_true h
    have hd : decide (t = t' ∧ xs = ys) = decide (xs = ys) := by simp [h]
    rw [hd]
    clear hpe h hd
    go_enter Try.func49, Try.ntmps49
    go_wp2_with fail
    refine (iequal z y m n c d xs ys bx by_ _ (sz.below hb) (sy.below hb)).mono ?_
    rintro e w2 ⟨rfl, rfl⟩
    go_wp2
    go_ret
    exact ⟨rfl, hb⟩
  · have hpe2 : (nv t.1 == nv t'.1 && nv t.2 == nv t'.2) = false := by rw [hpe]; exact decide_eq_false h
    have hd : decide (t = t' ∧ xs = ys) = false := by simp [h]
    rw [hd]
    clear hpe h hd
    go_enter Try.func49, Try.ntmps49
    go_wp2
    go_ret
    exact ⟨rfl, hb⟩

set_option maxRecDepth 10000 in
set_option maxHeartbeats 1000000 in
theorem isealed (i n : Nat) (hn : n ≤ 100000) (w : World) : Calls Try.prog 47 #[.int .u64 (i : Int), .int .i64 (n : Int)] w fun e w' => ∃ g, e = .returned (.agg #[.slice (some ⟨g, 0, none⟩) n n, .int .u64 18446744073709551615, .int .u64 (i : Int)]) ∧ w.heap.size ≤ g ∧ w'.rowIs g 5 n (fun j => .int .u8 ((outB i n).getD j 0)) ∧ Clean w w' := by
  have bR := SBox.new w (.slice none 0 0) 0 0
  have hC : Clean w (w.alloc (.cells #[.slice none 0 0, .int .u64 0, .int .u64 0] 32)) := (Clean.refl w).alloc _ _
  have hmk := run_make_row' (P := Try.prog) 27 5 (.int .u8 0) 1 Try.underlying27 Try.info5 rfl .i64 .i64 n (by omega) (by omega)
  go_enter Try.func47, Try.ntmps47
  go_wp2_with fail
  generalize w.alloc (.cells #[.slice none 0 0, .int .u64 0, .int .u64 0] 32) = W1 at *
  refine (iput8 i _).mono ?_
  rintro e w1 ⟨rfl, at1, hc, hlt1⟩
  have hq1 := bR.lt
  replace bR := bR.grown hc.b
  replace hC := hC.trans hc
  have hA1 : w.heap.size < W1.heap.size := hq1
  clear hc hq1
  generalize W1.heap.size = A at *
  have hO : ∀ k, k < n → (outB i n).getD k 0 = (putL i 8).getD (k % 8) 0 := fun k hk => by simp [outB, hk, List.getD]
  have HO := hide' hO
  clear hO
  go_wp2
  clear hmk
  have hAw : A < (w1.alloc (.cells (madeCells #[.int .u8 0] n) 5)).heap.size := by simp; omega
  have hrow0 := World.rowIs_made w1 (.int .u8 0) n 5
  have hC2 := hC.alloc (madeCells #[.int .u8 0] n) 5
  have hb2 : Below w1.heap.size w1 (w1.alloc (.cells (madeCells #[.int .u8 0] n) 5)) := (Below.refl _ _).alloc (Nat.le_refl _) _
  generalize hw2 : w1.alloc (.cells (madeCells #[.int .u8 0] n) 5) = w2 at *
  clear hw2 hC
  go_loopw [14] (fun q wr => ∃ k : Nat, k ≤ n ∧ q = .int .i64 (k : Int) ∧ wr.rowIs w1.heap.size 5 n (fun j => if j < k then .int .u8 ((outB i n).getD j 0) else .int .u8 0) ∧ Below w1.heap.size w1 wr ∧ Clean w wr) (fun q _ => n - (intOf q).toNat)
  case atStart => exact ⟨0, Nat.zero_le _, rfl, hrow0.congr (fun i hi => by simp), hb2, hC2⟩
  case round =>
    clear hb2 hrow0 hC2
    obtain ⟨k, hk, rfl, hrow, hB, hC⟩ := hrel
    by_cases hlt : k < n
    · have hk8 : k % 8 < 8 := Nat.mod_lt _ (by decide)
      have hce := (at1.below hB hlt1) (k % 8) (by rw [putL_length]; exact hk8)
      rw [Nat.zero_add] at hce
      have hi1 : (k : Int) % 8 = ((k % 8 : Nat) : Int) := by omega
      have HK := hide' (HO.out k hlt)
      obtain ⟨u, HU⟩ : ∃ u, Hid ((putL i 8).getD (k % 8) 0 = u) := ⟨_, rfl⟩
      rw [HU.out] at hce HK
      have hc2 := hrow.cell (i := k) hlt
      have hfr := hrow.frozen k
      generalize hr8 : k % 8 = r8 at *
      go_wp2
      go_roundw
      case rel =>
        refine ⟨k + 1, by omega, by go_num, (hrow.set k _).congr (fun j hj => ?_), hB.setCell (Nat.le_refl _) _, hC.setCell (by simp only; omega) _⟩
        by_cases e : j = k
        · subst e
          rw [if_pos rfl, if_pos (Nat.lt_succ_self _), HK.out]
        · by_cases e' : j < k
          · have e2 : j < k + 1 := by omega
            simp [e, e', e2]
          · have e2 : ¬ j < k + 1 := by omega
            simp [e, e', e2]
      case measure => simp [intOf]; omega
    · obtain rfl : k = n := by omega
      have hrow2 := hrow.congr (g := fun j => .int .u8 ((outB i k).getD j 0)) (fun j hj => by simp [hj])
      clear hrow HO
      have bR' := bR.grown hB
      have k0 := bR'.c0
      have k1 := bR'.c1
      have k2 := bR'.c2
      have k3 := bR'.frozen 0
      have k4 := bR'.frozen 1
      have k5 := bR'.frozen 2
      go_wp2
      have bR2 := bR'.put3 (.slice (some ⟨w1.heap.size, 0, none⟩) k k) 18446744073709551615 (i : Int)
      have q0 := bR2.c0
      have q1 := bR2.c1
      have q2 := bR2.c2
      have hne : w1.heap.size ≠ w.heap.size := by omega
      refine bodyPost_ret (v := .agg #[.slice (some ⟨w1.heap.size, 0, none⟩) k k, .int .u64 18446744073709551615, .int .u64 (i : Int)]) (by simp [results, Try.results47, go_sem, q0, q1, q2]) rfl ⟨w1.heap.size, rfl, by omega, ?_, ?_⟩
      · exact ((hrow2.setOther hne _).setOther hne _).setOther hne _
      · exact ((hC.setCell (Nat.le_refl _) _).setCell (Nat.le_refl _) _).setCell (Nat.le_refl _) _
end Go.Proofs.Ytkkehbebaokdmaa
