/- Stage 5's walks. -/
import Derived.Test.YtafjhidkhboaiaaGcmLaws
namespace Go.Proofs.Ytafjhidkhboaiaa
open Go.RowKit

set_option maxRecDepth 10000 in
set_option maxHeartbeats 2000000 in
theorem back_in (hSi : SealIn 9) (hOy : OpenYes 15) (key : BitVec 64 × BitVec 64) (n : Nn) (xs ys : List Int) (x y : Option Addr) (nx ny c d : Nat) (hnx : nx ≤ 300) (hny : ny ≤ 300) (bx : Bytes xs) (by_ : Bytes ys) (hc : nx ≤ c) (hd : ny ≤ d) (xnil : x = none → nx = 0 ∧ c = 0) (ynil : y = none → ny = 0 ∧ d = 0) (w : World) (sx : SAt w x nx xs) (sy : SAt w y ny ys) : Calls Try.prog 4 #[.agg #[.int .u64 (nv key.1), .int .u64 (nv key.2)], .agg #[.int .u32 (nv32 n.1), .int .u32 (nv32 n.2.1), .int .u64 (nv n.2.2)], .slice x nx c, .slice y ny d] w fun e w' => e = .returned (.bool true) ∧ Below w.heap.size w w' := by
  obtain ⟨sub, HS⟩ : ∃ sub, Hid (subP key n = sub) := ⟨_, rfl⟩
  obtain ⟨ms, HM⟩ : ∃ ms, Hid (mixL sub ys = ms) := ⟨_, rfl⟩
  obtain ⟨t, HT⟩ : ∃ t, Hid (tagP sub xs ms = t) := ⟨_, rfl⟩
  have hml : ms.length = ny := by rw [← HM.out, mixL_length, sy.1]
  have hmb : Bytes ms := by rw [← HM.out]; exact mixL_bytes sub by_
  have heq := eq32
  go_enter Try.func4, Try.ntmps4
  go_wp2_with fail
  have b0 := (Box.new w (nv key.1) (nv key.2)).alloc (.cells #[.int .u32 (nv32 n.1), .int .u32 (nv32 n.2.1), .int .u64 (nv n.2.2)] 27)
  have b1 := NBox.new (w.alloc (.cells #[.int .u64 (nv key.1), .int .u64 (nv key.2)] 24)) n
  have hB : Below w.heap.size w ((w.alloc (.cells #[.int .u64 (nv key.1), .int .u64 (nv key.2)] 24)).alloc (.cells #[.int .u32 (nv32 n.1), .int .u32 (nv32 n.2.1), .int .u64 (nv n.2.2)] 27)) := by go_grown
  simp only [World.size_alloc] at b1
  generalize (w.alloc (.cells #[.int .u64 (nv key.1), .int .u64 (nv key.2)] 24)).alloc (.cells #[.int .u32 (nv32 n.1), .int .u32 (nv32 n.2.1), .int .u64 (nv n.2.2)] 27) = W1 at *
  replace sx := sx.below hB
  replace sy := sy.below hB
  refine (seal_at hSi key n rfl rfl rfl rfl rfl xs ys x y nx ny c d (by omega) (by omega) HS.out HM.out HT.out bx by_ hc hd xnil ynil _ sx sy).mono ?_
  rintro e w1 ⟨⟨z, cz, rfl, sz, hcz, -, znil⟩, hb⟩
  replace b0 := b0.grown hb
  replace b1 := b1.grown hb
  replace sx := sx.below hb
  replace sy := sy.below hb
  replace hB := hB.trans (hb.mono hB.size)
  clear hb
  have hb : Below w1.heap.size w1 (w1.alloc (.cells #[.slice z ny cz, .int .u64 (nv t.1), .int .u64 (nv t.2)] 30)) := (Below.refl _ _).alloc (Nat.le_refl _) _
  have bS := SBox.new w1 (.slice z ny cz) (nv t.1) (nv t.2)
  replace b0 := b0.grown hb
  replace b1 := b1.grown hb
  replace sx := sx.below hb
  replace sy := sy.below hb
  replace sz := sz.below hb
  replace hB := hB.trans (hb.mono hB.size)
  clear hb
  have ey0 := b0.c0
  have ey1 := b0.c1
  have ey2 := b1.c0
  have ey3 := b1.c1
  have ey4 := b1.c2
  have ey5 := bS.c0
  have ey6 := bS.c1
  have ey7 := bS.c2
  go_wp2_with fail
  clear ey0 ey1 ey2 ey3 ey4 ey5 ey6 ey7
  generalize w1.alloc (.cells #[.slice z ny cz, .int .u64 (nv t.1), .int .u64 (nv t.2)] 30) = w2 at *
  generalize w1.heap.size = A at *
  have HMB : Hid (mixL sub ms = ys) := by rw [← HM.out]; exact hide' (mixL_back sub by_)
  refine (open_at hOy key n rfl rfl rfl rfl rfl xs ms x z nx ny c cz t (by omega) (by omega) HS.out HT.out HMB.out bx hmb hc hcz xnil znil _ sx sz).mono ?_
  rintro e w3 ⟨⟨z2, cz2, rfl, sz2⟩, hb⟩
  replace b0 := b0.grown hb
  replace b1 := b1.grown hb
  replace sx := sx.below hb
  replace sy := sy.below hb
  replace sz := sz.below hb
  replace bS := bS.grown hb
  replace hB := hB.trans (hb.mono hB.size)
  clear hb
  have e1 := fun c => sz2.conv (c := c)
  have e2 := fun c => sy.conv (c := c)
  have k0 := bS.c0
  go_wp2_with fail
  refine (known_true hSi hOy _).mono ?_
  rintro e w4 ⟨rfl, hb⟩
  replace hB := hB.trans (hb.mono hB.size)
  go_wp2
  go_ret
  exact ⟨rfl, hB⟩

end Go.Proofs.Ytafjhidkhboaiaa
