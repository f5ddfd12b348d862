/- RefSeal LkReal RegionM: texts laid together. -/
import Derived.Test.YtkkehbebaokdmaaM09
import Derived.Test.YtkkehbebaokdmaaM11
import Derived.Test.YtkkehbebaokdmaaM04
import Derived.Test.YtkkehbebaokdmaaM02

/- What lockboxref5.Seal comes to. -/
namespace Go.Proofs.Ytkkehbebaokdmaa
open Go.RowKit
set_option maxRecDepth 20000

theorem rtag_is : TagIs 42 := fun sub xs ys x y n m c d hn hm _ _ => rtag sub xs ys x y n m c d hn hm
theorem rsub_of (key : BitVec 64 × BitVec 64) (n : Nn) {q : BitVec 64 × BitVec 64} (h : subP key n = q) (w : World) : Calls Try.prog 39 #[.agg #[.int .u64 (nv key.1), .int .u64 (nv key.2)], .agg #[.int .u32 (nv32 n.1), .int .u32 (nv32 n.2.1), .int .u64 (nv n.2.2)]] w fun e w' => e = .returned (.agg #[.int .u64 (nv q.1), .int .u64 (nv q.2)]) ∧ Below w.heap.size w w' := h ▸ rsub key n w

set_option maxRecDepth 10000 in
set_option maxHeartbeats 1000000 in
theorem rseal_own (key : BitVec 64 × BitVec 64) (n : Nn) (xs ys : List Int) (x y : Option Addr) (nx ny c d : Nat) (hnx : nx ≤ 4000) (hny : ny ≤ 4000) (bx : Bytes xs) (by_ : Bytes ys) (_hc : nx ≤ c) (_hd : ny ≤ d) (xnil : x = none → nx = 0 ∧ c = 0) (_ynil : y = none → ny = 0 ∧ d = 0) (w : World) (sx : SAt w x nx xs) (sy : SAt w y ny ys) :
  Calls Try.prog 24 #[.agg #[.int .u64 (nv key.1), .int .u64 (nv key.2)], .agg #[.int .u32 (nv32 n.1), .int .u32 (nv32 n.2.1), .int .u64 (nv n.2.2)], .slice x nx c, .slice y ny d] w fun e w' => ∃ v, e = .returned (.tuple #[.agg #[v, .int .u64 (nv (tagP (subP key n) xs (mixL (subP key n) ys)).1), .int .u64 (nv (tagP (subP key n) xs (mixL (subP key n) ys)).2)], .bool true]) ∧ w'.ownsRow w.heap.size 5 1 v ny ((mixL (subP key n) ys).map (Value.int .u8)) ∧ Below w.heap.size w w' := by
  obtain ⟨sub, HS⟩ : ∃ sub, Hid (subP key n = sub) := ⟨_, rfl⟩
  obtain ⟨ms, HM⟩ : ∃ ms, Hid (mixL sub ys = ms) := ⟨_, rfl⟩
  obtain ⟨t, HT⟩ : ∃ t, Hid (tagP sub xs ms = t) := ⟨_, rfl⟩
  have hml : ms.length = ny := by rw [← HM.out, mixL_length, sy.1]
  have hmb : Bytes ms := by rw [← HM.out]; exact mixL_bytes sub by_
  have HX : Hid (xorL ys (flowL sub ny) = ms) := by rw [← HM.out, mixL, sy.1]; exact hide' rfl
  rw [HS.out, HM.out, HT.out]
  go_enter Try.func24, Try.ntmps24
  go_wp2_with fail
  have b0 := ((Box.new w (nv key.1) (nv key.2)).alloc (.cells #[.int .u32 (nv32 n.1), .int .u32 (nv32 n.2.1), .int .u64 (nv n.2.2)] 35)).alloc (.cells #[.slice none 0 0, .int .u64 0, .int .u64 0] 32)
  have bR := SBox.new ((w.alloc (.cells #[.int .u64 (nv key.1), .int .u64 (nv key.2)] 30)).alloc (.cells #[.int .u32 (nv32 n.1), .int .u32 (nv32 n.2.1), .int .u64 (nv n.2.2)] 35)) (.slice none 0 0) 0 0
  have hB : Below w.heap.size w (((w.alloc (.cells #[.int .u64 (nv key.1), .int .u64 (nv key.2)] 30)).alloc (.cells #[.int .u32 (nv32 n.1), .int .u32 (nv32 n.2.1), .int .u64 (nv n.2.2)] 35)).alloc (.cells #[.slice none 0 0, .int .u64 0, .int .u64 0] 32)) := by go_grown
  simp only [World.size_alloc] at bR
  generalize ((w.alloc (.cells #[.int .u64 (nv key.1), .int .u64 (nv key.2)] 30)).alloc (.cells #[.int .u32 (nv32 n.1), .int .u32 (nv32 n.2.1), .int .u64 (nv n.2.2)] 35)).alloc (.cells #[.slice none 0 0, .int .u64 0, .int .u64 0] 32) = W1 at *
  replace sx := sx.below hB
  replace sy := sy.below hB
  refine (rsub_of key n HS.out _).mono ?_
  rintro e w1 ⟨rfl, hb⟩
  replace bR := bR.grown hb
  replace sx := sx.below hb
  replace sy := sy.below hb
  replace hB := hB.trans (hb.mono hB.size)
  clear hb b0
  go_wp2_with fail
  have hb : Below w1.heap.size w1 (w1.alloc (.cells #[.int .u64 (nv sub.1), .int .u64 (nv sub.2)] 30)) := (Below.refl _ _).alloc (Nat.le_refl _) _
  have b2 := Box.new w1 (nv sub.1) (nv sub.2)
  replace bR := bR.grown hb
  replace sx := sx.below hb
  replace sy := sy.below hb
  replace hB := hB.trans (hb.mono hB.size)
  clear hb
  generalize w1.alloc (.cells #[.int .u64 (nv sub.1), .int .u64 (nv sub.2)] 30) = w2 at *
  generalize w1.heap.size = A at *
  refine (rflow_at sub ny hny rfl rfl rfl _).mono ?_
  rintro e w3 ⟨⟨xf, cf, rfl, sf, hcf, -, -⟩, hb⟩
  replace bR := bR.grown hb
  replace b2 := b2.grown hb
  replace sx := sx.below hb
  replace sy := sy.below hb
  replace hB := hB.trans (hb.mono hB.size)
  clear hb
  go_wp2_with fail
  refine (rxor_own ys (flowL sub ny) y xf ny ny d cf (by omega) (by omega) _ sy sf).mono ?_
  rintro e w4 ⟨v, rfl, own, hb⟩
  have hz3 : w.heap.size + 1 + 1 + 1 ≤ w3.heap.size := bR.lt
  replace bR := bR.grown hb
  replace b2 := b2.grown hb
  replace sx := sx.below hb
  replace hB := hB.trans (hb.mono hB.size)
  clear hb sy sf
  rw [HX.out, Nat.min_self] at own
  replace own := own_low own hz3
  obtain ⟨z, l, cz, hv, sz, hcz, hcm, znil⟩ := own_gives hml own
  obtain rfl : v = .slice z l cz := by simpa using hv
  clear hv
  obtain rfl : ny = l := by rw [← sz.1, hml]
  have q0 := b2.c0
  have q1 := b2.c1
  go_wp2_with fail
  clear q0 q1
  refine (rtag sub xs ms x z nx ny c cz (by omega) (by omega) bx hmb xnil znil _ sx sz).mono ?_
  rintro e w5 ⟨rfl, hb⟩
  replace bR := bR.grown hb
  replace own := own_grown own hb
  replace sz := sz.below hb
  replace hB := hB.trans (hb.mono hB.size)
  clear hb sx b2
  rw [HT.out]
  have k0 := bR.c0
  have k1 := bR.c1
  have k2 := bR.c2
  have k3 := bR.frozen 0
  have k4 := bR.frozen 1
  have k5 := bR.frozen 2
  go_wp2
  have HNE : Hid ((Value.slice z ny cz).ownBlock ≠ some (w.heap.size + 1 + 1)) := fun e => by
    have := (own.lt _ e).1
    omega
  have hB2 := (((hB.setCell (p := ⟨w.heap.size + 1 + 1, 0, none⟩) (by simp only; omega) (.slice z ny cz)).setCell (p := ⟨w.heap.size + 1 + 1, 1, none⟩) (by simp only; omega) (.int .u64 (nv t.1))).setCell (p := ⟨w.heap.size + 1 + 1, 2, none⟩) (by simp only; omega) (.int .u64 (nv t.2)))
  refine bodyPost_ret (v := .tuple #[.agg #[.slice z ny cz, .int .u64 (nv t.1), .int .u64 (nv t.2)], .bool true]) (by simp [results, Try.results24, go_sem, k0, k1, k2]) rfl ⟨_, rfl, ?_, hB2⟩
  exact own_low (ownsRow_setCell_other (ownsRow_setCell_other (ownsRow_setCell_other own (a := ⟨w.heap.size + 1 + 1, 0, none⟩) HNE.out (.slice z ny cz)) (a := ⟨w.heap.size + 1 + 1, 1, none⟩) HNE.out (.int .u64 (nv t.1))) (a := ⟨w.heap.size + 1 + 1, 2, none⟩) HNE.out (.int .u64 (nv t.2))) (by omega)

theorem rseal_in : SealIn 24 := by
  intro key n xs ys x y nx ny c d hnx hny bx by_ hc hd xnil ynil w sx sy
  refine (rseal_own key n xs ys x y nx ny c d hnx hny bx by_ hc hd xnil ynil w sx sy).mono fun e w' ⟨v, he, own, hb⟩ => ?_
  obtain ⟨z, l, cz, hv, sz, hcz, hcm, znil⟩ := own_gives (by rw [mixL_length, sy.1]) own
  obtain rfl : v = .slice z l cz := by simpa using hv
  obtain rfl : ny = l := by rw [← sz.1, mixL_length, sy.1]
  exact ⟨z, cz, he, sz, hcz, hcm, znil, hb⟩
set_option maxHeartbeats 400000 in
theorem rseal_out : SealOut 24 := by
  intro key n x y nx ny c d h w
  by_cases h1 : 4000 < nx
  · clear h
    go_enter Try.func24, Try.ntmps24
    go_wp2
    refine bodyPost_ret (v := .tuple #[.agg #[.slice none 0 0, .int .u64 0, .int .u64 0], .bool false]) (by simp [results, Try.results24, go_sem]) rfl ⟨rfl, by go_grown⟩
  · have h2 : 4000 < ny := by omega
    clear h
    go_enter Try.func24, Try.ntmps24
    go_wp2
    refine bodyPost_ret (v := .tuple #[.agg #[.slice none 0 0, .int .u64 0, .int .u64 0], .bool false]) (by simp [results, Try.results24, go_sem]) rfl ⟨rfl, by go_grown⟩
end Go.Proofs.Ytkkehbebaokdmaa


/- LockReal's walk. -/
namespace Go.Proofs.Ytkkehbebaokdmaa
open Go.RowKit
set_option maxRecDepth 20000
variable {Inv : (Nat → Prop) → World → Value → LSt → Prop}

theorem LSt.sealT_real {st : LSt} (hi : st.ideal = false) (key : BitVec 64 × BitVec 64) (nn : Nn) (xs ys : List Int) : st.sealT key nn xs ys = tagP (subP key nn) xs (mixL (subP key nn) ys) := by rw [LSt.sealT, if_neg (by rw [hi]; decide)]
theorem LSt.sealB_real {st : LSt} (hi : st.ideal = false) (key : BitVec 64 × BitVec 64) (nn : Nn) (ys : List Int) : st.sealB key nn ys = mixL (subP key nn) ys := by rw [LSt.sealB, if_neg (by rw [hi]; decide)]
theorem LSt.sealS_real {st : LSt} (hi : st.ideal = false) (e : Iss) : st.sealS e = st := by rw [LSt.sealS, if_neg (by rw [hi]; decide)]
theorem rsame_self (t : BitVec 64 × BitVec 64) (xs : List Int) (z y : Option Addr) (m c d : Nat) (bx : Bytes xs) (w : World) (sz : SAt w z m xs) (sy : SAt w y m xs) : Calls Try.prog 12 #[.agg #[.slice z m c, .int .u64 (nv t.1), .int .u64 (nv t.2)], .agg #[.slice y m d, .int .u64 (nv t.1), .int .u64 (nv t.2)]] w fun e w' => e = .returned (.bool true) ∧ Below w.heap.size w w' := by
  refine (rsame_any t t xs xs z y m m c d bx bx w sz sy).mono ?_
  rintro e w' ⟨rfl, h⟩
  exact ⟨by simp, h⟩
set_option maxRecDepth 20000 in
set_option maxHeartbeats 2000000 in
theorem lreal (hO : LockIs Inv) (key : BitVec 64 × BitVec 64) (nn : Nn) (xs ys : List Int) (x y : Option Addr) (nx ny c d : Nat) (tm : Int) (bx : Bytes xs) (by_ : Bytes ys) (fx : Fit x nx c) (fy : Fit y ny d) (w : World) (sx : SAt w x nx xs) (sy : SAt w y ny ys) :
    Calls Try.prog 7 #[.agg #[.int .u64 (nv key.1), .int .u64 (nv key.2)], .agg #[.int .u32 (nv32 nn.1), .int .u32 (nv32 nn.2.1), .int .u64 (nv nn.2.2)], .slice x nx c, .slice y ny d, .int .i64 tm] w fun e w' => e = .returned (.bool true) ∧ Below w.heap.size w w' := by
  have bK := (Box.new w (nv key.1) (nv key.2)).alloc (.cells #[.int .u32 (nv32 nn.1), .int .u32 (nv32 nn.2.1), .int .u64 (nv nn.2.2)] 35)
  have bN := NBox.new (w.alloc (.cells #[.int .u64 (nv key.1), .int .u64 (nv key.2)] 30)) nn
  have hB : Below w.heap.size w ((w.alloc (.cells #[.int .u64 (nv key.1), .int .u64 (nv key.2)] 30)).alloc (.cells #[.int .u32 (nv32 nn.1), .int .u32 (nv32 nn.2.1), .int .u64 (nv nn.2.2)] 35)) := by go_grown
  simp only [World.size_alloc] at bN
  by_cases hx : 100 < nx
  · have hn' : (100 : Int) < nx := by omega
    go_enter Try.func7, Try.ntmps7
    go_wp2
    go_ret
    exact ⟨rfl, hB⟩
  by_cases hy : 100 < ny
  · have hn' : (100 : Int) < ny := by omega
    go_enter Try.func7, Try.ntmps7
    go_wp2
    go_ret
    exact ⟨rfl, hB⟩
  by_cases ht0 : tm < 0
  · go_enter Try.func7, Try.ntmps7
    go_wp2
    go_ret
    exact ⟨rfl, hB⟩
  by_cases ht5 : 5 < tm
  · go_enter Try.func7, Try.ntmps7
    go_wp2
    go_ret
    exact ⟨rfl, hB⟩
  go_enter Try.func7, Try.ntmps7
  go_wp2_with fail
  generalize (w.alloc (.cells #[.int .u64 (nv key.1), .int .u64 (nv key.2)] 30)).alloc (.cells #[.int .u32 (nv32 nn.1), .int .u32 (nv32 nn.2.1), .int .u64 (nv nn.2.2)] 35) = W0 at *
  have hbk := bK.lt
  have hbn := bN.lt
  refine (hO.real _).mono ?_
  rintro e w1 ⟨v, F, rfl, hI, hF, hb⟩
  obtain ⟨a, rfl⟩ := hO.ptr hI
  go_wp2_with fail
  replace sx := sx.below hB
  replace sy := sy.below hB
  have cx : ∀ (F : Nat → Prop) (w' : World), (∀ k, F k → W0.heap.size ≤ k) → Below W0.heap.size W0 w' → SIn (fun k => ¬ F k) w' x nx xs := fun F w' h1 h2 => (sx.inn.off (Off.of_below (F := fun _ => False) h2) (fun _ _ _ h => h)).mono (fun k _ h h' => by have := h1 k h'; omega)
  have cy : ∀ (F : Nat → Prop) (w' : World), (∀ k, F k → W0.heap.size ≤ k) → Below W0.heap.size W0 w' → SIn (fun k => ¬ F k) w' y ny ys := fun F w' h1 h2 => (sy.inn.off (Off.of_below (F := fun _ => False) h2) (fun _ _ _ h => h)).mono (fun k _ h h' => by have := h1 k h'; omega)
  go_loopw [12] (fun i wr => ∃ (k : Nat) (F : Nat → Prop), (k : Int) ≤ tm ∧ i = .int .i64 (k : Int) ∧ Inv F wr (.pointer (some a)) ⟨false, [], []⟩ ∧ (∀ k, F k → W0.heap.size ≤ k) ∧ Below W0.heap.size W0 wr) (fun i _ => tm.toNat - (intOf i).toNat)
  case atStart => exact ⟨0, F, by omega, rfl, hI, hF, hb⟩
  case round =>
    clear hI hF hb F
    obtain ⟨k, F, hk, rfl, hI, hF, hb⟩ := hrel
    have bK' := bK.below hb hbk
    have bN' : NBox wr (w.heap.size + 1) nn := (hb.block _ hbn).trans bN
    have k0 := bK'.c0
    have k1 := bK'.c1
    have n0 := bN'.c0
    have n1 := bN'.c1
    have n2 := bN'.c2
    by_cases hlt : (k : Int) < tm
    · go_wp2_with fail
      clear k0 k1 n0 n1 n2
      refine (lseal_at hO F _ ⟨false, [], []⟩ key nn rfl rfl rfl rfl rfl xs [] x none nx 0 c 0 (by omega) (by decide) (by decide) bx bytes_none fx fit_none _ hI (cx F _ hF hb) (SIn.none _ _ _)).mono ?_
      rintro e w2 ⟨z, cz, F2, rfl, hK, -, -⟩
      rw [LSt.sealS_real rfl] at hK
      go_wp2
      go_roundw
      case rel => exact ⟨k + 1, F2, by omega, by go_num, hK.inv, fun k hk => (hK.sub k hk).elim (hF k) (fun h => Nat.le_trans hb.size h), hb.trans (hK.off.below hF hb.size)⟩
      case measure => simp [intOf]; omega
    · obtain ⟨t, HT⟩ : ∃ t, Hid (tagP (subP key nn) xs (mixL (subP key nn) ys) = t) := ⟨_, rfl⟩
      go_wp2_with fail
      clear k0 k1 n0 n1 n2
      refine (lseal_at hO F _ ⟨false, [], []⟩ key nn rfl rfl rfl rfl rfl xs ys x y nx ny c d (by omega) (by omega) (by decide) bx by_ fx fy _ hI (cx F _ hF hb) (cy F _ hF hb)).mono ?_
      rw [LSt.sealT_real rfl, LSt.sealB_real rfl, LSt.sealS_real rfl, HT.out]
      rintro e w2 ⟨z, cz, F2, rfl, hK, sz, -⟩
      replace hb := hb.trans (hK.off.below hF hb.size)
      replace sz := sz.sat
      clear hK hI hF bK' bN'
      have bS := SBox.new w2 (.slice z ny cz) (nv t.1) (nv t.2)
      have hc : Below w2.heap.size w2 (w2.alloc (.cells #[.slice z ny cz, .int .u64 (nv t.1), .int .u64 (nv t.2)] 32)) := (Below.refl _ _).alloc (Nat.le_refl _) _
      replace sz := sz.below hc
      replace hb := hb.trans (hc.mono hb.size)
      have bK' := bK.below hb hbk
      have bN' : NBox (w2.alloc (.cells #[.slice z ny cz, .int .u64 (nv t.1), .int .u64 (nv t.2)] 32)) (w.heap.size + 1) nn := (hb.block _ hbn).trans bN
      have k0 := bK'.c0
      have k1 := bK'.c1
      have n0 := bN'.c0
      have n1 := bN'.c1
      have n2 := bN'.c2
      clear hc
      go_wp2_with fail
      clear k0 k1 n0 n1 n2 bK' bN'
      generalize w2.alloc (.cells #[.slice z ny cz, .int .u64 (nv t.1), .int .u64 (nv t.2)] 32) = w3 at *
      generalize w2.heap.size = B2 at *
      have hC := rseal_in key nn xs ys x y nx ny c d (by omega) (by omega) bx by_ fx.1 fy.1 fx.2.2 fy.2.2 _ (sx.below hb) (sy.below hb)
      rw [HT.out] at hC
      refine hC.mono ?_
      clear hC
      rintro e w4 ⟨z4, cz4, rfl, s4, -, -, -, hc⟩
      replace sz := sz.below hc
      replace bS := bS.grown hc
      replace hb := hb.trans (hc.mono hb.size)
      clear hc
      have bT := SBox.new w4 (.slice z4 ny cz4) (nv t.1) (nv t.2)
      have hc : Below w4.heap.size w4 (w4.alloc (.cells #[.slice z4 ny cz4, .int .u64 (nv t.1), .int .u64 (nv t.2)] 32)) := (Below.refl _ _).alloc (Nat.le_refl _) _
      replace sz := sz.below hc
      replace s4 := s4.below hc
      replace bS := bS.grown hc
      replace hb := hb.trans (hc.mono hb.size)
      clear hc
      have q0 := bS.c0
      have q1 := bS.c1
      have q2 := bS.c2
      have q3 := bT.c0
      have q4 := bT.c1
      have q5 := bT.c2
      go_wp2_with fail
      clear q0 q1 q2 q3 q4 q5
      refine (rsame_self t _ z z4 ny cz cz4 (mixL_bytes _ by_) _ sz s4).mono ?_
      rintro e w5 ⟨rfl, hc⟩
      replace hb := hb.trans (hc.mono hb.size)
      clear hc
      go_wp2_with fail
      refine (lknown hO _).mono ?_
      rintro e w6 ⟨rfl, hc⟩
      replace hb := hb.trans (hc.mono hb.size)
      go_wp2
      go_ret
      exact ⟨rfl, hB.trans (hb.mono hB.size)⟩
end Go.Proofs.Ytkkehbebaokdmaa


/- A statement whose order Go leaves open and of whose operations several make memory: each is shown once, whatever order they come up in. -/
namespace Go.Proofs.Ytkkehbebaokdmaa
open Go.RowKit
set_option maxRecDepth 20000
section
variable {P : Program} {ops : Array Oper} {Q : Exit → Act → World → Prop} {md : Region.Mode} {S : World → Prop}

/-- Where the walk of the makers ends: how much is left, what is done, and of that the makers. -/
abbrev MEnd : Type := Nat × Array Bool × List Nat
def mStop (es : List MEnd) (ms : List Nat) (n : Nat) (l : Array Bool) : Bool := es.any fun e => e.1 == n && e.2.1.toList == l.toList && ms.all fun i => l.getD i false == e.2.2.contains i
/-- From these states on nothing but makers comes up, till an end is reached. -/
def mChk (md : Region.Mode) (ops : Array Oper) (es : List MEnd) (ms : List Nat) : Nat → List (Array Bool) → Bool
  | 0, ls => ls.all fun l => mStop es ms 0 l
  | n + 1, ls => (ls.all fun l => mStop es ms (n + 1) l || (!(Region.ready md ops l).isEmpty && (Region.ready md ops l).all ms.contains)) &&
    mChk md ops es ms n ((ls.filter fun l => !mStop es ms (n + 1) l).flatMap fun l => (Region.ready md ops l).map fun i => l.setIfInBounds i true).eraseDups
variable {d : List Deferred}
/-- What holds on the way: of what is done, what it made; all else is as it was. -/
structure MAt (Gr : World → World → Prop) (ms : List Nat) (dep : Nat → List Nat) (slot : Nat → Nat) (A : Nat → List Value → World → Prop) (t0 : List Value) (w0 : World) (l : Array Bool) (t : List Value) (w : World) : Prop where
  len : t.length = t0.length
  old : ∀ s, (∀ i ∈ ms, l.getD i false = true → s ≠ slot i) → t[s]? = t0[s]?
  gr : Gr w0 w
  cl : ∀ i ∈ ms, l.getD i false = true → ∀ j ∈ dep i, l.getD j false = true
  made : ∀ i ∈ ms, l.getD i false = true → (∃ v, t[slot i]? = some v) ∧ A i t w
/-- Of what stands in this slot. -/
def Sl (k : Nat) (A : Value → World → Prop) (t : List Value) (w : World) : Prop := ∃ v, t[k]? = some v ∧ A v w
theorem Sl.put {k : Nat} {A : Value → World → Prop} {t : List Value} {w : World} {v : Value} (hk : k < t.length) (h : A v w) : Sl k A (t.set k v) w := ⟨v, List.getElem?_set_self hk, h⟩
theorem Sl.keep {k s : Nat} {A : Value → World → Prop} {t : List Value} {w w' : World} (h : Sl k A t w) (hs : s ≠ k) (v : Value) (hA : ∀ u, A u w → A u w') : Sl k A (t.set s v) w' := by
  obtain ⟨u, h1, h2⟩ := h
  exact ⟨u, by rw [List.getElem?_set_ne hs]; exact h1, hA u h2⟩
theorem getD_setI {l : Array Bool} {i j : Nat} (h : l.getD i true = false) : (l.setIfInBounds i true).getD j false = (l.getD j false || decide (i = j)) := by
  have hi : i < l.size := by
    rcases Nat.lt_or_ge i l.size with h' | h'
    · exact h'
    · simp [Nat.not_lt.2 h'] at h
  by_cases e : i = j
  · subst e
    simp [Array.getD_eq_getD_getElem?, hi]
  · simp [Array.getD_eq_getD_getElem?, Array.getElem?_setIfInBounds_ne e, e]
/-- What it waits for is done. -/
theorem ready_dep {l : Array Bool} {i : Nat} {oi : Oper} (hr : i ∈ Region.ready md ops l) (hi : ops[i]? = some oi) (j : Nat) (hj : (oi.after.any fun e => Region.binds md e && e.on == j) = true) : l.getD j false = true := by
  obtain ⟨_, o, ho, hall⟩ := mem_ready.1 hr
  obtain rfl : oi = o := by rw [hi] at ho; exact Option.some.inj ho
  obtain ⟨n, hn, hb⟩ := Array.any_eq_true.1 hj
  rw [Bool.and_eq_true, beq_iff_eq] at hb
  have := hall _ (Array.getElem_mem hn) hb.1
  rw [hb.2] at this
  exact this
theorem foldl_set_get (slot : Nat → Nat) (vs : Nat → Value) : ∀ (ds : List Nat) (t : List Value) (s : Nat), (∀ i ∈ ds, ∀ j ∈ ds, slot i = slot j → i = j) → (∀ i ∈ ds, slot i < t.length) →
    (ds.foldl (fun t i => t.set (slot i) (vs i)) t).length = t.length ∧ ((∀ i ∈ ds, s ≠ slot i) → (ds.foldl (fun t i => t.set (slot i) (vs i)) t)[s]? = t[s]?) ∧ ∀ i ∈ ds, (ds.foldl (fun t i => t.set (slot i) (vs i)) t)[slot i]? = some (vs i)
  | [], t, s, _, _ => ⟨rfl, fun _ => rfl, fun i hi => absurd hi (by simp)⟩
  | k :: ds, t, s, hinj, hlt => by
    have hlt' : ∀ i ∈ ds, slot i < (t.set (slot k) (vs k)).length := fun i hi => by rw [List.length_set]; exact hlt i (List.mem_cons_of_mem _ hi)
    have hinj' : ∀ i ∈ ds, ∀ j ∈ ds, slot i = slot j → i = j := fun i hi j hj => hinj i (List.mem_cons_of_mem _ hi) j (List.mem_cons_of_mem _ hj)
    obtain ⟨h1, h2, h3⟩ := foldl_set_get slot vs ds (t.set (slot k) (vs k)) s hinj' hlt'
    simp only [List.foldl_cons]
    refine ⟨h1.trans (List.length_set ..), fun hs => ?_, fun i hi => ?_⟩
    · rw [h2 (fun i hi => hs i (List.mem_cons_of_mem _ hi)), List.getElem?_set_ne (fun e => hs k List.mem_cons_self e.symm)]
    · by_cases hm : i ∈ ds
      · exact h3 i hm
      · obtain rfl : i = k := (List.mem_cons.1 hi).resolve_right hm
        obtain ⟨_, g2, _⟩ := foldl_set_get slot vs ds (t.set (slot i) (vs i)) (slot i) hinj' hlt'
        rw [g2 (fun j hj e => hm (hinj i List.mem_cons_self j (List.mem_cons_of_mem _ hj) e ▸ hj)), List.getElem?_set_self (hlt i List.mem_cons_self)]
theorem anyM {Gr : World → World → Prop} {ms : List Nat} {slot : Nat → Nat} {A : Nat → List Value → World → Prop} {dep : Nat → List Nat} {t0 : List Value} {w0 : World} (es : List MEnd) (hes : ∀ e ∈ es, ∀ i ∈ e.2.2, i ∈ ms)
    (hgr : ∀ a b c, Gr a b → Gr b c → Gr a c) (hS : ∀ w, Gr w0 w → S w) (hinj : ∀ i ∈ ms, ∀ j ∈ ms, slot i = slot j → i = j) (hlt : ∀ i ∈ ms, slot i < t0.length)
    (hdep : (ms.all fun i => (dep i).all fun j => ((ops[i]?).map fun o => o.after.any fun e => Region.binds md e && e.on == j).getD false) = true)
    (hst : ∀ i ∈ ms, ∀ t w j v w', A i t w → j ∈ ms → j ≠ i → j ∉ dep i → Gr w w' → A i (t.set (slot j) v) w')
    (step : ∀ i ∈ ms, ∃ oi, ops[i]? = some oi ∧ ∀ l t w (K : Act → World → Prop), i ∈ Region.ready md ops l → MAt Gr ms dep slot A t0 w0 l t w → Region.wanted oi (yielded ops t.toArray) = true ∧ ((∀ v w', Gr w w' → A i (t.set (slot i) v) w' → K ⟨(t.set (slot i) v).toArray, d⟩ w') → Oper.wp P oi ⟨t.toArray, d⟩ w K Q))
    (fin : ∀ e ∈ es, ∀ (vs : Nat → Value) (w : World), Gr w0 w → (∀ i ∈ e.2.2, A i (e.2.2.foldl (fun t i => t.set (slot i) (vs i)) t0) w) → wpAnyH P md ops Q S e.1 e.2.1 ⟨(e.2.2.foldl (fun t i => t.set (slot i) (vs i)) t0).toArray, d⟩ w) :
    ∀ (n : Nat) (ls : List (Array Bool)), mChk md ops es ms n ls = true → ∀ l ∈ ls, ∀ t w, MAt Gr ms dep slot A t0 w0 l t w → wpAnyH P md ops Q S n l ⟨t.toArray, d⟩ w := by
  have hend : ∀ n l t w, mStop es ms n l = true → MAt Gr ms dep slot A t0 w0 l t w → wpAnyH P md ops Q S n l ⟨t.toArray, d⟩ w := by
    intro n l t w hs hm
    obtain ⟨e, he, hb⟩ := List.any_eq_true.1 hs
    rw [Bool.and_eq_true, Bool.and_eq_true, beq_iff_eq, beq_iff_eq] at hb
    obtain ⟨⟨rfl, hl⟩, hall⟩ := hb
    obtain rfl : e.2.1 = l := Array.toList_inj.1 hl
    have hd : ∀ i ∈ ms, (e.2.1.getD i false = true ↔ i ∈ e.2.2) := fun i hi => by
      have := List.all_eq_true.1 hall i hi
      rw [beq_iff_eq] at this
      rw [this]
      simp
    have hex : ∀ i, ∃ v, i ∈ e.2.2 → t[slot i]? = some v ∧ A i t w := fun i => by
      by_cases hi : i ∈ e.2.2
      · obtain ⟨⟨v, h1⟩, h2⟩ := hm.made i (hes e he i hi) ((hd i (hes e he i hi)).2 hi)
        exact ⟨v, fun _ => ⟨h1, h2⟩⟩
      · exact ⟨undef, fun h => absurd h hi⟩
    obtain ⟨vs, hvs⟩ := Classical.axiomOfChoice hex
    have hft := fun s => foldl_set_get slot vs e.2.2 t0 s (fun i hi j hj => hinj i (hes e he i hi) j (hes e he j hj)) (fun i hi => hlt i (hes e he i hi))
    have ht : t = e.2.2.foldl (fun t i => t.set (slot i) (vs i)) t0 := by
      refine List.ext_getElem? fun s => ?_
      by_cases hx : ∃ i ∈ e.2.2, s = slot i
      · obtain ⟨i, hi, rfl⟩ := hx
        rw [(hft 0).2.2 i hi, (hvs i hi).1]
      · have hx' : ∀ i ∈ e.2.2, s ≠ slot i := fun i hi h => hx ⟨i, hi, h⟩
        rw [(hft s).2.1 hx']
        exact hm.old s (fun i hi hl => hx' i ((hd i hi).1 hl))
    have hA : ∀ i ∈ e.2.2, A i t w := fun i hi => (hvs i hi).2
    rw [ht] at hA ⊢
    exact fin e he vs w hm.gr hA
  intro n
  induction n with
  | zero =>
    intro ls hc l hl t w hm
    exact hend 0 l t w (List.all_eq_true.1 hc l hl) hm
  | succ n ih =>
    intro ls hc l hl t w hm
    rw [mChk, Bool.and_eq_true] at hc
    have h1 := List.all_eq_true.1 hc.1 l hl
    by_cases hs : mStop es ms (n + 1) l = true
    · exact hend _ l t w hs hm
    · rw [Bool.or_eq_true] at h1
      have h2 := h1.resolve_left hs
      rw [Bool.and_eq_true] at h2
      refine ⟨fun h0 => ?_, fun i hi => ?_⟩
      · have := h2.1
        rw [h0] at this
        simp at this
      · have him : i ∈ ms := by simpa using List.all_eq_true.1 h2.2 i hi
        obtain ⟨oi, hoi, hst'⟩ := step i him
        obtain ⟨hw, hrun⟩ := hst' l t w (fun a' w' => S w' ∧ wpAnyH P md ops Q S n (l.setIfInBounds i true) a' w') hi hm
        unfold wpOp
        simp only [hoi, hw, if_true]
        refine Or.inl (hrun fun v w' hg hA => ?_)
        have hun := (mem_ready.1 hi).1
        refine ⟨hS _ (hgr _ _ _ hm.gr hg), ih _ hc.2 _ ?_ _ _ ?_⟩
        · rw [List.mem_eraseDups, List.mem_flatMap]
          exact ⟨l, List.mem_filter.2 ⟨hl, by simp [hs]⟩, List.mem_map.2 ⟨i, hi, rfl⟩⟩
        · refine ⟨by rw [List.length_set]; exact hm.len, fun s hs' => ?_, hgr _ _ _ hm.gr hg, fun j hj hlj k hk => ?_, fun j hj hlj => ?_⟩
          · have hne : slot i ≠ s := fun e => hs' i him (by rw [getD_setI hun]; simp) e.symm
            rw [List.getElem?_set_ne hne]
            exact hm.old s (fun j hj hlj => hs' j hj (by rw [getD_setI hun, hlj]; rfl))
          · rw [getD_setI hun, Bool.or_eq_true]
            by_cases e : j = i
            · subst e
              have h5 := List.all_eq_true.1 (List.all_eq_true.1 hdep j hj) k hk
              rw [hoi, Option.map_some, Option.getD_some] at h5
              exact Or.inl (ready_dep hi hoi k h5)
            · rw [getD_setI hun, Bool.or_eq_true] at hlj
              exact Or.inl (hm.cl j hj (hlj.resolve_right (by simp [Ne.symm e])) k hk)
          · by_cases e : j = i
            · subst e
              exact ⟨⟨v, List.getElem?_set_self (by rw [hm.len]; exact hlt j hj)⟩, hA⟩
            · rw [getD_setI hun, Bool.or_eq_true] at hlj
              have hjl := hlj.resolve_right (by simp [Ne.symm e])
              obtain ⟨⟨u, g1⟩, g2⟩ := hm.made j hj hjl
              refine ⟨⟨u, by rw [List.getElem?_set_ne (fun h => e (hinj i him j hj h).symm)]; exact g1⟩, hst j hj t w i v w' g2 him (Ne.symm e) (fun hd => ?_) hg⟩
              have h6 := hm.cl j hj hjl i hd
              have hi : i < l.size := by
                rcases Nat.lt_or_ge i l.size with h' | h'
                · exact h'
                · simp [Nat.not_lt.2 h'] at hun
              simp [Array.getD_eq_getD_getElem?, hi] at h6 hun
              rw [h6] at hun
              cases hun
/-- The beginning. -/
theorem startM {Gr : World → World → Prop} {slot : Nat → Nat} {A : Nat → List Value → World → Prop} {dep : Nat → List Nat} {t0 : List Value} {w0 : World} {n : Nat} {l : Array Bool} (ms : List Nat) (es : List MEnd) (hes : ∀ e ∈ es, ∀ i ∈ e.2.2, i ∈ ms)
    (hgr0 : Gr w0 w0) (hl : (ms.all fun i => !l.getD i false) = true) (hck : mChk md ops es ms n [l] = true)
    (hgr : ∀ a b c, Gr a b → Gr b c → Gr a c) (hS : ∀ w, Gr w0 w → S w) (hinj : ∀ i ∈ ms, ∀ j ∈ ms, slot i = slot j → i = j) (hlt : ∀ i ∈ ms, slot i < t0.length)
    (hdep : (ms.all fun i => (dep i).all fun j => ((ops[i]?).map fun o => o.after.any fun e => Region.binds md e && e.on == j).getD false) = true)
    (hst : ∀ i ∈ ms, ∀ t w j v w', A i t w → j ∈ ms → j ≠ i → j ∉ dep i → Gr w w' → A i (t.set (slot j) v) w')
    (step : ∀ i ∈ ms, ∃ oi, ops[i]? = some oi ∧ ∀ l t w (K : Act → World → Prop), i ∈ Region.ready md ops l → MAt Gr ms dep slot A t0 w0 l t w → Region.wanted oi (yielded ops t.toArray) = true ∧ ((∀ v w', Gr w w' → A i (t.set (slot i) v) w' → K ⟨(t.set (slot i) v).toArray, d⟩ w') → Oper.wp P oi ⟨t.toArray, d⟩ w K Q))
    (fin : ∀ e ∈ es, ∀ (vs : Nat → Value) (w : World), Gr w0 w → (∀ i ∈ e.2.2, A i (e.2.2.foldl (fun t i => t.set (slot i) (vs i)) t0) w) → wpAnyH P md ops Q S e.1 e.2.1 ⟨(e.2.2.foldl (fun t i => t.set (slot i) (vs i)) t0).toArray, d⟩ w) :
    wpAnyH P md ops Q S n l ⟨t0.toArray, d⟩ w0 :=
  anyM es hes hgr hS hinj hlt hdep hst step fin n [l] hck l (by simp) t0 w0 ⟨rfl, fun _ _ => rfl, hgr0, fun i hi h => absurd h (by simpa using List.all_eq_true.1 hl i hi), fun i hi h => absurd h (by simpa using List.all_eq_true.1 hl i hi)⟩
theorem foldl_set_congr (slot : Nat → Nat) {vs us : Nat → Value} : ∀ (ds : List Nat) (t : List Value), (∀ i ∈ ds, vs i = us i) → ds.foldl (fun t i => t.set (slot i) (vs i)) t = ds.foldl (fun t i => t.set (slot i) (us i)) t
  | [], _, _ => rfl
  | k :: ds, t, h => by
    rw [List.foldl_cons, List.foldl_cons, h k List.mem_cons_self]
    exact foldl_set_congr slot ds _ (fun i hi => h i (List.mem_cons_of_mem _ hi))
/-- The beginning, where one operation more (number q) only reads what they made, and may come up before the last of them or behind it. -/
theorem startMq {Gr : World → World → Prop} {slot : Nat → Nat} {A : Nat → List Value → World → Prop} {dep : Nat → List Nat} {t0 : List Value} {w0 : World} {n : Nat} {l : Array Bool} (ds : List Nat) (q : Nat) (nE : Nat) (lE : Array Bool) {oq : Oper} (hq : ops[q]? = some oq) (hqd : oq.dst = some (slot q)) (hqg : oq.guard = none) (hqn : q ∉ ds)
    (hns : Region.noSelect ops = true) (hfr : Region.free md ops lE q = true) (hrq : (Region.ready md ops lE).contains q = true) (hQ : ∀ v c a w, Q (.panic c) (a.put oq.dst v) w → Q (.panic c) a w) (hdq : ∀ i ∈ ds, q ∉ dep i)
    (hgr0 : Gr w0 w0) (hl : ((ds ++ [q]).all fun i => !l.getD i false) = true) (hck : mChk md ops [(nE + 1, lE, ds), (nE, lE.setIfInBounds q true, ds ++ [q])] (ds ++ [q]) n [l] = true)
    (hgr : ∀ a b c, Gr a b → Gr b c → Gr a c) (hgrr : ∀ a, Gr a a) (hS : ∀ w, Gr w0 w → S w) (hinj : ∀ i ∈ ds ++ [q], ∀ j ∈ ds ++ [q], slot i = slot j → i = j) (hlt : ∀ i ∈ ds ++ [q], slot i < t0.length)
    (hdep : ((ds ++ [q]).all fun i => (dep i).all fun j => ((ops[i]?).map fun o => o.after.any fun e => Region.binds md e && e.on == j).getD false) = true)
    (hst : ∀ i ∈ ds ++ [q], ∀ t w j v w', A i t w → j ∈ ds ++ [q] → j ≠ i → j ∉ dep i → Gr w w' → A i (t.set (slot j) v) w')
    (step : ∀ i ∈ ds ++ [q], ∃ oi, ops[i]? = some oi ∧ ∀ l t w (K : Act → World → Prop), i ∈ Region.ready md ops l → MAt Gr (ds ++ [q]) dep slot A t0 w0 l t w → Region.wanted oi (yielded ops t.toArray) = true ∧ ((∀ v w', Gr w w' → A i (t.set (slot i) v) w' → K ⟨(t.set (slot i) v).toArray, d⟩ w') → Oper.wp P oi ⟨t.toArray, d⟩ w K Q))
    (quiet : ∀ (vs : Nat → Value) (w : World), Gr w0 w → (∀ i ∈ ds, A i (ds.foldl (fun t i => t.set (slot i) (vs i)) t0) w) → ∃ v, (∀ w', S w' → (execOp (Act.eval ⟨(ds.foldl (fun t i => t.set (slot i) (vs i)) t0).toArray, d⟩) oq).run P w' = .ok (.value v) w') ∧ A q ((ds.foldl (fun t i => t.set (slot i) (vs i)) t0).set (slot q) v) w)
    (fin : ∀ (vs : Nat → Value) (w : World), Gr w0 w → (∀ i ∈ ds ++ [q], A i ((ds ++ [q]).foldl (fun t i => t.set (slot i) (vs i)) t0) w) → wpAnyH P md ops Q S nE (lE.setIfInBounds q true) ⟨((ds ++ [q]).foldl (fun t i => t.set (slot i) (vs i)) t0).toArray, d⟩ w) :
    wpAnyH P md ops Q S n l ⟨t0.toArray, d⟩ w0 := by
  refine startM (ds ++ [q]) [(nE + 1, lE, ds), (nE, lE.setIfInBounds q true, ds ++ [q])] ?_ hgr0 hl hck hgr hS hinj hlt hdep hst step ?_
  · intro e he i hi
    simp only [List.mem_cons, List.not_mem_nil, or_false] at he
    rcases he with rfl | rfl
    · exact List.mem_append_left _ hi
    · exact hi
  · intro e he vs w hg hA
    simp only [List.mem_cons, List.not_mem_nil, or_false] at he
    rcases he with rfl | rfl
    · obtain ⟨v, hy, hAq⟩ := quiet vs w hg hA
      refine takeL q (slot q) hq hqd hns hfr hrq (hQ v) (by simp [Region.wanted, hqg]) (hS w hg) hy ?_
      have hvs : ∀ i ∈ ds, vs i = (fun i => if i = q then v else vs i) i := fun i hi => by
        have : i ≠ q := fun e => hqn (e ▸ hi)
        simp [this]
      have ht : (ds.foldl (fun t i => t.set (slot i) (vs i)) t0).set (slot q) v = (ds ++ [q]).foldl (fun t i => t.set (slot i) ((fun i => if i = q then v else vs i) i)) t0 := by
        rw [List.foldl_append, List.foldl_cons, List.foldl_nil, foldl_set_congr slot ds t0 hvs]
        simp
      have h2 := fin (fun i => if i = q then v else vs i) w hg
      rw [← ht] at h2
      refine h2 (fun i hi => ?_)
      rcases List.mem_append.1 hi with hi' | hi'
      · exact hst i hi _ w q v w (hA i hi') (by simp) (fun e => hqn (e ▸ hi')) (hdq i hi') (hgrr w)
      · obtain rfl : i = q := by simpa using hi'
        exact hAq
    · exact fin vs w hg hA
end
end Go.Proofs.Ytkkehbebaokdmaa
