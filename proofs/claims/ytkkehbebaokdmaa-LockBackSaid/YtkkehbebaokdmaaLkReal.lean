/- LockReal's walk. -/
import Derived.Test.YtkkehbebaokdmaaLkNone
import Derived.Test.YtkkehbebaokdmaaRefSeal
import Derived.Test.YtkkehbebaokdmaaRefSame
namespace Go.Proofs.Ytkkehbebaokdmaa
open Go.RowKit
set_option maxRecDepth 20000
variable {Inv : (Nat → Prop) → World → Value → LSt → Prop}

theorem LSt.sealT_real {st : LSt} (hi : st.ideal = false) (key : BitVec 64 × BitVec 64) (nn : Nn) (xs ys : List Int) : st.sealT key nn xs ys = tagP (subP key nn) xs (mixL (subP key nn) ys) := by rw [LSt.sealT, if_neg (by rw [hi]; decide)]
theorem LSt.sealB_real {st : LSt} (hi : st.ideal = false) (key : BitVec 64 × BitVec 64) (nn : Nn) (ys : List Int) : st.sealB key nn ys = mixL (subP key nn) ys := by rw [LSt.sealB, if_neg (by rw [hi]; decide)]
theorem LSt.sealS_real {st : LSt} (hi : st.ideal = false) (e : Iss) : st.sealS e = st := by rw [LSt.sealS, if_neg (by rw [hi]; decide)]
theorem rsame_self (t : BitVec 64 × BitVec 64) (xs : List Int) (z y : Option Addr) (m c d : Nat) (bx : Bytes xs) (w : World) (sz : SAt w z m xs) (sy : SAt w y m xs) : Calls Try.prog 12 #[.agg #[.slice z m c, .int .u64 (nv t.1), .int .u64 (nv t.2)], .agg #[.slice y m d, .int .u64 (nv t.1), .int .u64 (nv t.2)]] w fun e w' => e = .returned (.bool true) ∧ Below w.heap.size w w' := by
  refine (rsame_any t t xs xs z y m m c d bx bx w sz sy).mono ?_
  rintro e w' ⟨rfl, h⟩
  exact ⟨by simp, h⟩
set_option maxRecDepth 20000 in
set_option maxHeartbeats 2000000 in
theorem lreal (hO : LockIs Inv) (key : BitVec 64 × BitVec 64) (nn : Nn) (xs ys : List Int) (x y : Option Addr) (nx ny c d : Nat) (tm : Int) (bx : Bytes xs) (by_ : Bytes ys) (fx : Fit x nx c) (fy : Fit y ny d) (w : World) (sx : SAt w x nx xs) (sy : SAt w y ny ys) :
    Calls Try.prog 7 #[.agg #[.int .u64 (nv key.1), .int .u64 (nv key.2)], .agg #[.int .u32 (nv32 nn.1), .int .u32 (nv32 nn.2.1), .int .u64 (nv nn.2.2)], .slice x nx c, .slice y ny d, .int .i64 tm] w fun e w' => e = .returned (.bool true) ∧ Below w.heap.size w w' := by
  have bK := (Box.new w (nv key.1) (nv key.2)).alloc (.cells #[.int .u32 (nv32 nn.1), .int .u32 (nv32 nn.2.1), .int .u64 (nv nn.2.2)] 35)
  have bN := NBox.new (w.alloc (.cells #[.int .u64 (nv key.1), .int .u64 (nv key.2)] 30)) nn
  have hB : Below w.heap.size w ((w.alloc (.cells #[.int .u64 (nv key.1), .int .u64 (nv key.2)] 30)).alloc (.cells #[.int .u32 (nv32 nn.1), .int .u32 (nv32 nn.2.1), .int .u64 (nv nn.2.2)] 35)) := by go_grown
  simp only [World.size_alloc] at bN
  by_cases hx : 100 < nx
  · have hn' : (100 : Int) < nx := by omega
    go_enter Try.func7, Try.ntmps7
    go_wp2
    go_ret
    exact ⟨rfl, hB⟩
  by_cases hy : 100 < ny
  · have hn' : (100 : Int) < ny := by omega
    go_enter Try.func7, Try.ntmps7
    go_wp2
    go_ret
    exact ⟨rfl, hB⟩
  by_cases ht0 : tm < 0
  · go_enter Try.func7, Try.ntmps7
    go_wp2
    go_ret
    exact ⟨rfl, hB⟩
  by_cases ht5 : 5 < tm
  · go_enter Try.func7, Try.ntmps7
    go_wp2
    go_ret
    exact ⟨rfl, hB⟩
  go_enter Try.func7, Try.ntmps7
  go_wp2_with fail
  generalize (w.alloc (.cells #[.int .u64 (nv key.1), .int .u64 (nv key.2)] 30)).alloc (.cells #[.int .u32 (nv32 nn.1), .int .u32 (nv32 nn.2.1), .int .u64 (nv nn.2.2)] 35) = W0 at *
  have hbk := bK.lt
  have hbn := bN.lt
  refine (hO.real _).mono ?_
  rintro e w1 ⟨v, F, rfl, hI, hF, hb⟩
  obtain ⟨a, rfl⟩ := hO.ptr hI
  go_wp2_with fail
  replace sx := sx.below hB
  replace sy := sy.below hB
  have cx : ∀ (F : Nat → Prop) (w' : World), (∀ k, F k → W0.heap.size ≤ k) → Below W0.heap.size W0 w' → SIn (fun k => ¬ F k) w' x nx xs := fun F w' h1 h2 => (sx.inn.off (Off.of_below (F := fun _ => False) h2) (fun _ _ _ h => h)).mono (fun k _ h h' => by have := h1 k h'; omega)
  have cy : ∀ (F : Nat → Prop) (w' : World), (∀ k, F k → W0.heap.size ≤ k) → Below W0.heap.size W0 w' → SIn (fun k => ¬ F k) w' y ny ys := fun F w' h1 h2 => (sy.inn.off (Off.of_below (F := fun _ => False) h2) (fun _ _ _ h => h)).mono (fun k _ h h' => by have := h1 k h'; omega)
  go_loopw [12] (fun i wr => ∃ (k : Nat) (F : Nat → Prop), (k : Int) ≤ tm ∧ i = .int .i64 (k : Int) ∧ Inv F wr (.pointer (some a)) ⟨false, [], []⟩ ∧ (∀ k, F k → W0.heap.size ≤ k) ∧ Below W0.heap.size W0 wr) (fun i _ => tm.toNat - (intOf i).toNat)
  case atStart => exact ⟨0, F, by omega, rfl, hI, hF, hb⟩
  case round =>
    clear hI hF hb F
    obtain ⟨k, F, hk, rfl, hI, hF, hb⟩ := hrel
    have bK' := bK.below hb hbk
    have bN' : NBox wr (w.heap.size + 1) nn := (hb.block _ hbn).trans bN
    have k0 := bK'.c0
    have k1 := bK'.c1
    have n0 := bN'.c0
    have n1 := bN'.c1
    have n2 := bN'.c2
    by_cases hlt : (k : Int) < tm
    · go_wp2_with fail
      clear k0 k1 n0 n1 n2
      refine (lseal_at hO F _ ⟨false, [], []⟩ key nn rfl rfl rfl rfl rfl xs [] x none nx 0 c 0 (by omega) (by decide) (by decide) bx bytes_none fx fit_none _ hI (cx F _ hF hb) (SIn.none _ _ _)).mono ?_
      rintro e w2 ⟨z, cz, F2, rfl, hK, -, -⟩
      rw [LSt.sealS_real rfl] at hK
      go_wp2
      go_roundw
      case rel => exact ⟨k + 1, F2, by omega, by go_num, hK.inv, fun k hk => (hK.sub k hk).elim (hF k) (fun h => Nat.le_trans hb.size h), hb.trans (hK.off.below hF hb.size)⟩
      case measure => simp [intOf]; omega
    · obtain ⟨t, HT⟩ : ∃ t, Hid (tagP (subP key nn) xs (mixL (subP key nn) ys) = t) := ⟨_, rfl⟩
      go_wp2_with fail
      clear k0 k1 n0 n1 n2
      refine (lseal_at hO F _ ⟨false, [], []⟩ key nn rfl rfl rfl rfl rfl xs ys x y nx ny c d (by omega) (by omega) (by decide) bx by_ fx fy _ hI (cx F _ hF hb) (cy F _ hF hb)).mono ?_
      rw [LSt.sealT_real rfl, LSt.sealB_real rfl, LSt.sealS_real rfl, HT.out]
      rintro e w2 ⟨z, cz, F2, rfl, hK, sz, -⟩
      replace hb := hb.trans (hK.off.below hF hb.size)
      replace sz := sz.sat
      clear hK hI hF bK' bN'
      have bS := SBox.new w2 (.slice z ny cz) (nv t.1) (nv t.2)
      have hc : Below w2.heap.size w2 (w2.alloc (.cells #[.slice z ny cz, .int .u64 (nv t.1), .int .u64 (nv t.2)] 32)) := (Below.refl _ _).alloc (Nat.le_refl _) _
      replace sz := sz.below hc
      replace hb := hb.trans (hc.mono hb.size)
      have bK' := bK.below hb hbk
      have bN' : NBox (w2.alloc (.cells #[.slice z ny cz, .int .u64 (nv t.1), .int .u64 (nv t.2)] 32)) (w.heap.size + 1) nn := (hb.block _ hbn).trans bN
      have k0 := bK'.c0
      have k1 := bK'.c1
      have n0 := bN'.c0
      have n1 := bN'.c1
      have n2 := bN'.c2
      clear hc
      go_wp2_with fail
      clear k0 k1 n0 n1 n2 bK' bN'
      generalize w2.alloc (.cells #[.slice z ny cz, .int .u64 (nv t.1), .int .u64 (nv t.2)] 32) = w3 at *
      generalize w2.heap.size = B2 at *
      have hC := rseal_in key nn xs ys x y nx ny c d (by omega) (by omega) bx by_ fx.1 fy.1 fx.2.2 fy.2.2 _ (sx.below hb) (sy.below hb)
      rw [HT.out] at hC
      refine hC.mono ?_
      clear hC
      rintro e w4 ⟨z4, cz4, rfl, s4, -, -, -, hc⟩
      replace sz := sz.below hc
      replace bS := bS.grown hc
      replace hb := hb.trans (hc.mono hb.size)
      clear hc
      have bT := SBox.new w4 (.slice z4 ny cz4) (nv t.1) (nv t.2)
      have hc : Below w4.heap.size w4 (w4.alloc (.cells #[.slice z4 ny cz4, .int .u64 (nv t.1), .int .u64 (nv t.2)] 32)) := (Below.refl _ _).alloc (Nat.le_refl _) _
      replace sz := sz.below hc
      replace s4 := s4.below hc
      replace bS := bS.grown hc
      replace hb := hb.trans (hc.mono hb.size)
      clear hc
      have q0 := bS.c0
      have q1 := bS.c1
      have q2 := bS.c2
      have q3 := bT.c0
      have q4 := bT.c1
      have q5 := bT.c2
      go_wp2_with fail
      clear q0 q1 q2 q3 q4 q5
      refine (rsame_self t _ z z4 ny cz cz4 (mixL_bytes _ by_) _ sz s4).mono ?_
      rintro e w5 ⟨rfl, hc⟩
      replace hb := hb.trans (hc.mono hb.size)
      clear hc
      go_wp2_with fail
      refine (lknown hO _).mono ?_
      rintro e w6 ⟨rfl, hc⟩
      replace hb := hb.trans (hc.mono hb.size)
      go_wp2
      go_ret
      exact ⟨rfl, hB.trans (hb.mono hB.size)⟩
end Go.Proofs.Ytkkehbebaokdmaa
