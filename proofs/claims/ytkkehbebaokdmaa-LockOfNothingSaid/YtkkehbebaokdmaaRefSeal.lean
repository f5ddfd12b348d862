/- What lockboxref5.Seal comes to. -/
import Derived.Test.YtkkehbebaokdmaaGcmSaid
namespace Go.Proofs.Ytkkehbebaokdmaa
open Go.RowKit
set_option maxRecDepth 20000

theorem rtag_is : TagIs 42 := fun sub xs ys x y n m c d hn hm _ _ => rtag sub xs ys x y n m c d hn hm
theorem rsub_of (key : BitVec 64 × BitVec 64) (n : Nn) {q : BitVec 64 × BitVec 64} (h : subP key n = q) (w : World) : Calls Try.prog 39 #[.agg #[.int .u64 (nv key.1), .int .u64 (nv key.2)], .agg #[.int .u32 (nv32 n.1), .int .u32 (nv32 n.2.1), .int .u64 (nv n.2.2)]] w fun e w' => e = .returned (.agg #[.int .u64 (nv q.1), .int .u64 (nv q.2)]) ∧ Below w.heap.size w w' := h ▸ rsub key n w

set_option maxRecDepth 10000 in
set_option maxHeartbeats 1000000 in
theorem rseal_own (key : BitVec 64 × BitVec 64) (n : Nn) (xs ys : List Int) (x y : Option Addr) (nx ny c d : Nat) (hnx : nx ≤ 4000) (hny : ny ≤ 4000) (bx : Bytes xs) (by_ : Bytes ys) (_hc : nx ≤ c) (_hd : ny ≤ d) (xnil : x = none → nx = 0 ∧ c = 0) (_ynil : y = none → ny = 0 ∧ d = 0) (w : World) (sx : SAt w x nx xs) (sy : SAt w y ny ys) :
  Calls Try.prog 24 #[.agg #[.int .u64 (nv key.1), .int .u64 (nv key.2)], .agg #[.int .u32 (nv32 n.1), .int .u32 (nv32 n.2.1), .int .u64 (nv n.2.2)], .slice x nx c, .slice y ny d] w fun e w' => ∃ v, e = .returned (.tuple #[.agg #[v, .int .u64 (nv (tagP (subP key n) xs (mixL (subP key n) ys)).1), .int .u64 (nv (tagP (subP key n) xs (mixL (subP key n) ys)).2)], .bool true]) ∧ w'.ownsRow w.heap.size 5 1 v ny ((mixL (subP key n) ys).map (Value.int .u8)) ∧ Below w.heap.size w w' := by
  obtain ⟨sub, HS⟩ : ∃ sub, Hid (subP key n = sub) := ⟨_, rfl⟩
  obtain ⟨ms, HM⟩ : ∃ ms, Hid (mixL sub ys = ms) := ⟨_, rfl⟩
  obtain ⟨t, HT⟩ : ∃ t, Hid (tagP sub xs ms = t) := ⟨_, rfl⟩
  have hml : ms.length = ny := by rw [← HM.out, mixL_length, sy.1]
  have hmb : Bytes ms := by rw [← HM.out]; exact mixL_bytes sub by_
  have HX : Hid (xorL ys (flowL sub ny) = ms) := by rw [← HM.out, mixL, sy.1]; exact hide' rfl
  rw [HS.out, HM.out, HT.out]
  go_enter Try.func24, Try.ntmps24
  go_wp2_with fail
  have b0 := ((Box.new w (nv key.1) (nv key.2)).alloc (.cells #[.int .u32 (nv32 n.1), .int .u32 (nv32 n.2.1), .int .u64 (nv n.2.2)] 35)).alloc (.cells #[.slice none 0 0, .int .u64 0, .int .u64 0] 32)
  have bR := SBox.new ((w.alloc (.cells #[.int .u64 (nv key.1), .int .u64 (nv key.2)] 30)).alloc (.cells #[.int .u32 (nv32 n.1), .int .u32 (nv32 n.2.1), .int .u64 (nv n.2.2)] 35)) (.slice none 0 0) 0 0
  have hB : Below w.heap.size w (((w.alloc (.cells #[.int .u64 (nv key.1), .int .u64 (nv key.2)] 30)).alloc (.cells #[.int .u32 (nv32 n.1), .int .u32 (nv32 n.2.1), .int .u64 (nv n.2.2)] 35)).alloc (.cells #[.slice none 0 0, .int .u64 0, .int .u64 0] 32)) := by go_grown
  simp only [World.size_alloc] at bR
  generalize ((w.alloc (.cells #[.int .u64 (nv key.1), .int .u64 (nv key.2)] 30)).alloc (.cells #[.int .u32 (nv32 n.1), .int .u32 (nv32 n.2.1), .int .u64 (nv n.2.2)] 35)).alloc (.cells #[.slice none 0 0, .int .u64 0, .int .u64 0] 32) = W1 at *
  replace sx := sx.below hB
  replace sy := sy.below hB
  refine (rsub_of key n HS.out _).mono ?_
  rintro e w1 ⟨rfl, hb⟩
  replace bR := bR.grown hb
  replace sx := sx.below hb
  replace sy := sy.below hb
  replace hB := hB.trans (hb.mono hB.size)
  clear hb b0
  go_wp2_with fail
  have hb : Below w1.heap.size w1 (w1.alloc (.cells #[.int .u64 (nv sub.1), .int .u64 (nv sub.2)] 30)) := (Below.refl _ _).alloc (Nat.le_refl _) _
  have b2 := Box.new w1 (nv sub.1) (nv sub.2)
  replace bR := bR.grown hb
  replace sx := sx.below hb
  replace sy := sy.below hb
  replace hB := hB.trans (hb.mono hB.size)
  clear hb
  generalize w1.alloc (.cells #[.int .u64 (nv sub.1), .int .u64 (nv sub.2)] 30) = w2 at *
  generalize w1.heap.size = A at *
  refine (rflow_at sub ny hny rfl rfl rfl _).mono ?_
  rintro e w3 ⟨⟨xf, cf, rfl, sf, hcf, -, -⟩, hb⟩
  replace bR := bR.grown hb
  replace b2 := b2.grown hb
  replace sx := sx.below hb
  replace sy := sy.below hb
  replace hB := hB.trans (hb.mono hB.size)
  clear hb
  go_wp2_with fail
  refine (rxor_own ys (flowL sub ny) y xf ny ny d cf (by omega) (by omega) _ sy sf).mono ?_
  rintro e w4 ⟨v, rfl, own, hb⟩
  have hz3 : w.heap.size + 1 + 1 + 1 ≤ w3.heap.size := bR.lt
  replace bR := bR.grown hb
  replace b2 := b2.grown hb
  replace sx := sx.below hb
  replace hB := hB.trans (hb.mono hB.size)
  clear hb sy sf
  rw [HX.out, Nat.min_self] at own
  replace own := own_low own hz3
  obtain ⟨z, l, cz, hv, sz, hcz, hcm, znil⟩ := own_gives hml own
  obtain rfl : v = .slice z l cz := by simpa using hv
  clear hv
  obtain rfl : ny = l := by rw [← sz.1, hml]
  have q0 := b2.c0
  have q1 := b2.c1
  go_wp2_with fail
  clear q0 q1
  refine (rtag sub xs ms x z nx ny c cz (by omega) (by omega) bx hmb xnil znil _ sx sz).mono ?_
  rintro e w5 ⟨rfl, hb⟩
  replace bR := bR.grown hb
  replace own := own_grown own hb
  replace sz := sz.below hb
  replace hB := hB.trans (hb.mono hB.size)
  clear hb sx b2
  rw [HT.out]
  have k0 := bR.c0
  have k1 := bR.c1
  have k2 := bR.c2
  have k3 := bR.frozen 0
  have k4 := bR.frozen 1
  have k5 := bR.frozen 2
  go_wp2
  have HNE : Hid ((Value.slice z ny cz).ownBlock ≠ some (w.heap.size + 1 + 1)) := fun e => by
    have := (own.lt _ e).1
    omega
  have hB2 := (((hB.setCell (p := ⟨w.heap.size + 1 + 1, 0, none⟩) (by simp only; omega) (.slice z ny cz)).setCell (p := ⟨w.heap.size + 1 + 1, 1, none⟩) (by simp only; omega) (.int .u64 (nv t.1))).setCell (p := ⟨w.heap.size + 1 + 1, 2, none⟩) (by simp only; omega) (.int .u64 (nv t.2)))
  refine bodyPost_ret (v := .tuple #[.agg #[.slice z ny cz, .int .u64 (nv t.1), .int .u64 (nv t.2)], .bool true]) (by simp [results, Try.results24, go_sem, k0, k1, k2]) rfl ⟨_, rfl, ?_, hB2⟩
  exact own_low (ownsRow_setCell_other (ownsRow_setCell_other (ownsRow_setCell_other own (a := ⟨w.heap.size + 1 + 1, 0, none⟩) HNE.out (.slice z ny cz)) (a := ⟨w.heap.size + 1 + 1, 1, none⟩) HNE.out (.int .u64 (nv t.1))) (a := ⟨w.heap.size + 1 + 1, 2, none⟩) HNE.out (.int .u64 (nv t.2))) (by omega)

theorem rseal_in : SealIn 24 := by
  intro key n xs ys x y nx ny c d hnx hny bx by_ hc hd xnil ynil w sx sy
  refine (rseal_own key n xs ys x y nx ny c d hnx hny bx by_ hc hd xnil ynil w sx sy).mono fun e w' ⟨v, he, own, hb⟩ => ?_
  obtain ⟨z, l, cz, hv, sz, hcz, hcm, znil⟩ := own_gives (by rw [mixL_length, sy.1]) own
  obtain rfl : v = .slice z l cz := by simpa using hv
  obtain rfl : ny = l := by rw [← sz.1, mixL_length, sy.1]
  exact ⟨z, cz, he, sz, hcz, hcm, znil, hb⟩
set_option maxHeartbeats 400000 in
theorem rseal_out : SealOut 24 := by
  intro key n x y nx ny c d h w
  by_cases h1 : 4000 < nx
  · clear h
    go_enter Try.func24, Try.ntmps24
    go_wp2
    refine bodyPost_ret (v := .tuple #[.agg #[.slice none 0 0, .int .u64 0, .int .u64 0], .bool false]) (by simp [results, Try.results24, go_sem]) rfl ⟨rfl, by go_grown⟩
  · have h2 : 4000 < ny := by omega
    clear h
    go_enter Try.func24, Try.ntmps24
    go_wp2
    refine bodyPost_ret (v := .tuple #[.agg #[.slice none 0 0, .int .u64 0, .int .u64 0], .bool false]) (by simp [results, Try.results24, go_sem]) rfl ⟨rfl, by go_grown⟩
end Go.Proofs.Ytkkehbebaokdmaa
