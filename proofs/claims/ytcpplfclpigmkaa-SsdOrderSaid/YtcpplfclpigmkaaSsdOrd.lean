/- SsdOrder's walk. -/
import Derived.Test.YtcpplfclpigmkaaSsdSame
import Derived.Test.YtcpplfclpigmkaaSsdLaws
namespace Go.Proofs.Ytcpplfclpigmkaa
open Go.RowKit
set_option maxRecDepth 20000
variable {PI : (Nat → Prop) → World → Value → PSt → Prop} {SI : Option Addr → (Nat → Prop) → World → Value → SsdSt → Prop}

/-- What is on the device behind the crash. -/
def ordZ (a b : Int) (f s : Bool) : List Int := layW (List.replicate 9 0) (keptOf [(3, [a, a]), (4, [b])] [f, s])
def ordW (a b : Int) (f s : Bool) : List Int := [if f then a else 0, if s then b else if f then a else 0]
theorem ordZ_len (a b : Int) (f s : Bool) : (ordZ a b f s).length = 9 := by cases f <;> cases s <;> rfl
theorem ordZ_at (a b : Int) (f s : Bool) : ((ordZ a b f s).drop 3).take 2 = ordW a b f s := by cases f <;> cases s <;> rfl
/-- The last statement: all is compared. -/
theorem same_two (ys : List Int) : ((strOfNums ys).toList == (strOfNums ys).toList) = true := str_self ys
set_option maxHeartbeats 4000000 in
theorem sord (hP : PowIs PI) (hO : SsdIs PI SI) (a0 b0 : Int) (ha : 0 ≤ a0 ∧ a0 < 256) (hb0 : 0 ≤ b0 ∧ b0 < 256) (f s : Bool) (w : World) :
    Calls Try.prog 6 #[.int .u8 a0, .int .u8 b0, .bool f, .bool s] w fun e w' => e = .returned (.bool true) ∧ Below w.heap.size w w' := by
  have ba : Bytes [a0, a0] := by
    intro y hy
    simp at hy
    omega
  have bb : Bytes [b0] := by
    intro y hy
    simp at hy
    omega
  clear ha hb0
  go_enter Try.func6, Try.ntmps6
  go_wp2_with fail
  refine (hP.make _).mono ?_
  rintro e w1 ⟨u, G, rfl, hJ, hG, hb⟩
  obtain ⟨p, rfl⟩ := hP.base.ptr hJ
  have M0 : ObjIn PI w G (.pointer (some p)) (true, none, 0) w1 := ⟨hJ, hG, hb⟩
  clear hJ hG hb
  go_wp2_with fail
  refine (smake_at hO (some p) 9 rfl (by decide) _).mono ?_
  rintro e w2 ⟨v, F, rfl, hI, hF, hb⟩
  obtain ⟨a, rfl⟩ := (hO.base _).ptr hI
  have M : Dev PI SI (some p) w F (.pointer (some a)) ⟨List.replicate 9 0, [], []⟩ G 0 w2 := (M0.duo hP.base hI hF hb).swap
  clear hI hF hb M0
  have hx := M.row (hO.base _) hP.base [a0, a0] 2 rfl
  have hb : Below w2.heap.size w2 (w2.alloc (.cells (([a0, a0] : List Int).map (Value.int .u8)).toArray 5)) := (Below.refl _ _).alloc (Nat.le_refl _) _
  replace M := M.quiet (hO.base _) hP.base hb
  clear hb
  go_wp2_with fail
  refine (swrite_at hO (some p) F G _ (st' := ⟨List.replicate 9 0, [(3, [a0, a0])], [(3, [a0, a0])]⟩) 3 2 2 _ [a0, a0] rfl rfl (Nat.le_of_ble_eq_true rfl) (by decide) (by decide) ⟨by decide, by decide, fun e => by cases e⟩ ba _ M hx).mono ?_
  rintro e w3 ⟨F3, G3, rfl, hK⟩
  replace M := M.both hK
  clear hK hx
  have hx := M.row (hO.base _) hP.base [b0] 1 rfl
  have hb : Below w3.heap.size w3 (w3.alloc (.cells (([b0] : List Int).map (Value.int .u8)).toArray 5)) := (Below.refl _ _).alloc (Nat.le_refl _) _
  replace M := M.quiet (hO.base _) hP.base hb
  clear hb
  go_wp2_with fail
  refine (swrite_at hO (some p) F3 G3 _ (st' := ⟨List.replicate 9 0, [(3, [a0, a0]), (4, [b0])], [(3, [a0, a0]), (4, [b0])]⟩) 4 1 1 _ [b0] rfl rfl (Nat.le_of_ble_eq_true rfl) (by show 1 ≤ _; decide) (by decide) ⟨by decide, by decide, fun e => by cases e⟩ bb _ M hx).mono ?_
  rintro e w4 ⟨F4, G4, rfl, hK⟩
  replace M := M.both hK
  clear hK hx
  go_wp2_with fail
  refine (sread_at hO (some p) F4 G4 _ 3 2 (ys := [a0, b0]) rfl rfl rfl (Nat.le_of_ble_eq_true rfl) _ M).mono ?_
  rintro e w5 ⟨x, cx, F5, rfl, hK, sx, -, -⟩
  replace sx := sx.newD hP.base M
  replace M := M.o1 hP.base hK
  clear hK
  go_wp2_with fail
  have hb : Below w5.heap.size w5 (w5.alloc (.cells #[.bool f, .bool s] 4)) := (Below.refl _ _).alloc (Nat.le_refl _) _
  have hkp : KIn (fun k => ¬ F5 k) (w5.alloc (.cells #[.bool f, .bool s] 4)) (some ⟨w5.heap.size, 0, none⟩) 2 [f, s] := by
    refine ⟨rfl, fun _ => ⟨w5.heap.size, 0, rfl, by simp, (M.new (hO.base _) hP.base).1, fun i hi => ?_⟩⟩
    match i, hi with
    | 0, _ => simp
    | 1, _ => simp
  replace M := M.quiet (hO.base _) hP.base hb
  replace sx := sx.off (Off.of_below (F := fun _ => False) hb) (fun _ _ _ h => h)
  clear hb
  refine (scrash_at hO (some p) F5 _ (st' := ⟨ordZ a0 b0 f s, [], [(3, [a0, a0]), (4, [b0])]⟩) _ 2 2 [f, s] rfl ⟨by decide, by decide, fun e => by cases e⟩ _ M.one hkp).mono ?_
  rintro e w6 ⟨F6, rfl, hK⟩
  replace sx := hK.sin sx
  replace M := M.o1 hP.base hK
  clear hK hkp
  go_wp2_with fail
  refine (sread_at hO (some p) F6 G4 _ 3 2 (ys := ordW a0 b0 f s) rfl rfl (by exact ordZ_at a0 b0 f s) (by show 5 ≤ (ordZ a0 b0 f s).length; rw [ordZ_len]; decide) _ M).mono ?_
  rintro e w7 ⟨y, cy, F7, rfl, hK, sy, -, -⟩
  replace sx := hK.sin sx
  replace sy := sy.newD hP.base M
  replace M := M.o1 hP.base hK
  clear hK
  have lenZ := hide' (ordZ_len a0 b0 f s)
  rcases f with _ | _
  · rcases s with _ | _
    · have hr : Row (w7.alloc (.cells #[.int .u8 0, .int .u8 0] 5)) w7.heap.size [0, 0] := CBox.new 5 w7 _
      have hB7 : Below w7.heap.size w7 (w7.alloc (.cells #[.int .u8 0, .int .u8 0] 5)) := by go_grown
      have hBV : Below (w7.alloc (.cells #[.int .u8 0, .int .u8 0] 5)).heap.size (w7.alloc (.cells #[.int .u8 0, .int .u8 0] 5)) ((w7.alloc (.cells #[.int .u8 0, .int .u8 0] 5)).alloc (.cells #[.int .u8 a0, .int .u8 b0] 5)) := (Below.refl _ _).alloc (Nat.le_refl _) _
      have hBW := hB7.trans (hBV.mono hB7.size)
      have hv : Row ((w7.alloc (.cells #[.int .u8 0, .int .u8 0] 5)).alloc (.cells #[.int .u8 a0, .int .u8 b0] 5)) (w7.alloc (.cells #[.int .u8 0, .int .u8 0] 5)).heap.size [a0, b0] := CBox.new 5 (w7.alloc (.cells #[.int .u8 0, .int .u8 0] 5)) _
      rw [show (w7.alloc (.cells #[.int .u8 0, .int .u8 0] 5)).heap.size = w7.heap.size + 1 from by simp] at hv
      have e0_ := fun c => (sx.sat.below hB7).conv (c := c)
      have e1_ := fun c => (hv.sat (n := 2) rfl).conv (c := c)
      have e2_ := fun c => (sy.sat.below hBW).conv (c := c)
      have e3_ := fun c => ((hr.sat (n := 2) rfl).below hBV).conv (c := c)
      replace M := M.quiet (hO.base _) hP.base hBW
      rw [show ordW a0 b0 false false = [0, 0] from rfl] at e2_
      have hs0 := str_self [a0, b0]
      have hs1 := str_self [0, 0]
      clear hr hv hB7 hBV hBW sx sy
      go_wp2_with fail
      clear e0_ e1_ e2_ e3_ hs0 hs1
      refine (hO.trace (some p) F7 _ _ (by show 2 ≤ _; decide) _ M.one).mono ?_
      rintro e w8 ⟨z1, cz1, F8, rfl, hK, t1, -, -⟩
      replace M := M.o1 hP.base hK
      replace t1 := t1.mono (G' := fun k => ¬ F8 k) (fun _ _ h => h.2)
      clear hK
      go_wp2_with fail
      refine (hO.trace (some p) F8 _ _ (by show 2 ≤ _; decide) _ M.one).mono ?_
      rintro e w9 ⟨z2, cz2, F9, rfl, hK, t2, -, -⟩
      replace t1 := hK.tin t1
      replace t2 := t2.mono (G' := fun _ => True) (fun _ _ _ => trivial)
      replace M := M.o1 hP.base hK
      clear hK
      go_wp2_with fail
      refine (rsame [(3, [a0, a0]), (4, [b0])] z1 z2 2 cz1 cz2 (by decide) _ t1 t2).mono ?_
      rintro e w10 ⟨rfl, hb⟩
      replace M := M.quiet (hO.base _) hP.base hb
      clear hb t1 t2
      go_wp2_with fail
      refine (hO.trace (some p) F9 _ _ (by show 2 ≤ _; decide) _ M.one).mono ?_
      rintro e w11 ⟨z3, cz3, F11, rfl, hK, -, -, -⟩
      replace M := M.o1 hP.base hK
      clear hK
      go_wp2_with fail
      refine (sknown hP hO _).mono ?_
      rintro e w12 ⟨rfl, hb⟩
      replace M := M.quiet (hO.base _) hP.base hb
      go_wp2
      go_ret
      exact ⟨rfl, M.hB⟩
    · have hr : Row (w7.alloc (.cells #[.int .u8 0, .int .u8 b0] 5)) w7.heap.size [0, b0] := CBox.new 5 w7 _
      have hB7 : Below w7.heap.size w7 (w7.alloc (.cells #[.int .u8 0, .int .u8 b0] 5)) := by go_grown
      have hBV : Below (w7.alloc (.cells #[.int .u8 0, .int .u8 b0] 5)).heap.size (w7.alloc (.cells #[.int .u8 0, .int .u8 b0] 5)) ((w7.alloc (.cells #[.int .u8 0, .int .u8 b0] 5)).alloc (.cells #[.int .u8 a0, .int .u8 b0] 5)) := (Below.refl _ _).alloc (Nat.le_refl _) _
      have hBW := hB7.trans (hBV.mono hB7.size)
      have hv : Row ((w7.alloc (.cells #[.int .u8 0, .int .u8 b0] 5)).alloc (.cells #[.int .u8 a0, .int .u8 b0] 5)) (w7.alloc (.cells #[.int .u8 0, .int .u8 b0] 5)).heap.size [a0, b0] := CBox.new 5 (w7.alloc (.cells #[.int .u8 0, .int .u8 b0] 5)) _
      rw [show (w7.alloc (.cells #[.int .u8 0, .int .u8 b0] 5)).heap.size = w7.heap.size + 1 from by simp] at hv
      have e0_ := fun c => (sx.sat.below hB7).conv (c := c)
      have e1_ := fun c => (hv.sat (n := 2) rfl).conv (c := c)
      have e2_ := fun c => (sy.sat.below hBW).conv (c := c)
      have e3_ := fun c => ((hr.sat (n := 2) rfl).below hBV).conv (c := c)
      replace M := M.quiet (hO.base _) hP.base hBW
      rw [show ordW a0 b0 false true = [0, b0] from rfl] at e2_
      have hs0 := str_self [a0, b0]
      have hs1 := str_self [0, b0]
      clear hr hv hB7 hBV hBW sx sy
      go_wp2_with fail
      clear e0_ e1_ e2_ e3_ hs0 hs1
      refine (hO.trace (some p) F7 _ _ (by show 2 ≤ _; decide) _ M.one).mono ?_
      rintro e w8 ⟨z1, cz1, F8, rfl, hK, t1, -, -⟩
      replace M := M.o1 hP.base hK
      replace t1 := t1.mono (G' := fun k => ¬ F8 k) (fun _ _ h => h.2)
      clear hK
      go_wp2_with fail
      refine (hO.trace (some p) F8 _ _ (by show 2 ≤ _; decide) _ M.one).mono ?_
      rintro e w9 ⟨z2, cz2, F9, rfl, hK, t2, -, -⟩
      replace t1 := hK.tin t1
      replace t2 := t2.mono (G' := fun _ => True) (fun _ _ _ => trivial)
      replace M := M.o1 hP.base hK
      clear hK
      go_wp2_with fail
      refine (rsame [(3, [a0, a0]), (4, [b0])] z1 z2 2 cz1 cz2 (by decide) _ t1 t2).mono ?_
      rintro e w10 ⟨rfl, hb⟩
      replace M := M.quiet (hO.base _) hP.base hb
      clear hb t1 t2
      go_wp2_with fail
      refine (hO.trace (some p) F9 _ _ (by show 2 ≤ _; decide) _ M.one).mono ?_
      rintro e w11 ⟨z3, cz3, F11, rfl, hK, -, -, -⟩
      replace M := M.o1 hP.base hK
      clear hK
      go_wp2_with fail
      refine (sknown hP hO _).mono ?_
      rintro e w12 ⟨rfl, hb⟩
      replace M := M.quiet (hO.base _) hP.base hb
      go_wp2
      go_ret
      exact ⟨rfl, M.hB⟩
  · rcases s with _ | _
    · have hr : Row ((w7.alloc (.cells #[.int .u8 0, .int .u8 0] 5)).alloc (.cells #[.int .u8 a0, .int .u8 a0] 5)) (w7.alloc (.cells #[.int .u8 0, .int .u8 0] 5)).heap.size [a0, a0] := CBox.new 5 (w7.alloc (.cells #[.int .u8 0, .int .u8 0] 5)) _
      rw [show (w7.alloc (.cells #[.int .u8 0, .int .u8 0] 5)).heap.size = w7.heap.size + 1 from by simp] at hr
      have hB7 : Below w7.heap.size w7 ((w7.alloc (.cells #[.int .u8 0, .int .u8 0] 5)).alloc (.cells #[.int .u8 a0, .int .u8 a0] 5)) := by go_grown
      have hBV : Below ((w7.alloc (.cells #[.int .u8 0, .int .u8 0] 5)).alloc (.cells #[.int .u8 a0, .int .u8 a0] 5)).heap.size ((w7.alloc (.cells #[.int .u8 0, .int .u8 0] 5)).alloc (.cells #[.int .u8 a0, .int .u8 a0] 5)) (((w7.alloc (.cells #[.int .u8 0, .int .u8 0] 5)).alloc (.cells #[.int .u8 a0, .int .u8 a0] 5)).alloc (.cells #[.int .u8 a0, .int .u8 b0] 5)) := (Below.refl _ _).alloc (Nat.le_refl _) _
      have hBW := hB7.trans (hBV.mono hB7.size)
      have hv : Row (((w7.alloc (.cells #[.int .u8 0, .int .u8 0] 5)).alloc (.cells #[.int .u8 a0, .int .u8 a0] 5)).alloc (.cells #[.int .u8 a0, .int .u8 b0] 5)) ((w7.alloc (.cells #[.int .u8 0, .int .u8 0] 5)).alloc (.cells #[.int .u8 a0, .int .u8 a0] 5)).heap.size [a0, b0] := CBox.new 5 ((w7.alloc (.cells #[.int .u8 0, .int .u8 0] 5)).alloc (.cells #[.int .u8 a0, .int .u8 a0] 5)) _
      rw [show ((w7.alloc (.cells #[.int .u8 0, .int .u8 0] 5)).alloc (.cells #[.int .u8 a0, .int .u8 a0] 5)).heap.size = w7.heap.size + 1 + 1 from by simp] at hv
      have e0_ := fun c => (sx.sat.below hB7).conv (c := c)
      have e1_ := fun c => (hv.sat (n := 2) rfl).conv (c := c)
      have e2_ := fun c => (sy.sat.below hBW).conv (c := c)
      have e3_ := fun c => ((hr.sat (n := 2) rfl).below hBV).conv (c := c)
      replace M := M.quiet (hO.base _) hP.base hBW
      rw [show ordW a0 b0 true false = [a0, a0] from rfl] at e2_
      have hs0 := str_self [a0, b0]
      have hs1 := str_self [a0, a0]
      clear hr hv hB7 hBV hBW sx sy
      go_wp2_with fail
      clear e0_ e1_ e2_ e3_ hs0 hs1
      refine (hO.trace (some p) F7 _ _ (by show 2 ≤ _; decide) _ M.one).mono ?_
      rintro e w8 ⟨z1, cz1, F8, rfl, hK, t1, -, -⟩
      replace M := M.o1 hP.base hK
      replace t1 := t1.mono (G' := fun k => ¬ F8 k) (fun _ _ h => h.2)
      clear hK
      go_wp2_with fail
      refine (hO.trace (some p) F8 _ _ (by show 2 ≤ _; decide) _ M.one).mono ?_
      rintro e w9 ⟨z2, cz2, F9, rfl, hK, t2, -, -⟩
      replace t1 := hK.tin t1
      replace t2 := t2.mono (G' := fun _ => True) (fun _ _ _ => trivial)
      replace M := M.o1 hP.base hK
      clear hK
      go_wp2_with fail
      refine (rsame [(3, [a0, a0]), (4, [b0])] z1 z2 2 cz1 cz2 (by decide) _ t1 t2).mono ?_
      rintro e w10 ⟨rfl, hb⟩
      replace M := M.quiet (hO.base _) hP.base hb
      clear hb t1 t2
      go_wp2_with fail
      refine (hO.trace (some p) F9 _ _ (by show 2 ≤ _; decide) _ M.one).mono ?_
      rintro e w11 ⟨z3, cz3, F11, rfl, hK, -, -, -⟩
      replace M := M.o1 hP.base hK
      clear hK
      go_wp2_with fail
      refine (sknown hP hO _).mono ?_
      rintro e w12 ⟨rfl, hb⟩
      replace M := M.quiet (hO.base _) hP.base hb
      go_wp2
      go_ret
      exact ⟨rfl, M.hB⟩
    · have hr : Row ((w7.alloc (.cells #[.int .u8 0, .int .u8 0] 5)).alloc (.cells #[.int .u8 a0, .int .u8 b0] 5)) (w7.alloc (.cells #[.int .u8 0, .int .u8 0] 5)).heap.size [a0, b0] := CBox.new 5 (w7.alloc (.cells #[.int .u8 0, .int .u8 0] 5)) _
      rw [show (w7.alloc (.cells #[.int .u8 0, .int .u8 0] 5)).heap.size = w7.heap.size + 1 from by simp] at hr
      have hB7 : Below w7.heap.size w7 ((w7.alloc (.cells #[.int .u8 0, .int .u8 0] 5)).alloc (.cells #[.int .u8 a0, .int .u8 b0] 5)) := by go_grown
      have hBV : Below ((w7.alloc (.cells #[.int .u8 0, .int .u8 0] 5)).alloc (.cells #[.int .u8 a0, .int .u8 b0] 5)).heap.size ((w7.alloc (.cells #[.int .u8 0, .int .u8 0] 5)).alloc (.cells #[.int .u8 a0, .int .u8 b0] 5)) (((w7.alloc (.cells #[.int .u8 0, .int .u8 0] 5)).alloc (.cells #[.int .u8 a0, .int .u8 b0] 5)).alloc (.cells #[.int .u8 a0, .int .u8 b0] 5)) := (Below.refl _ _).alloc (Nat.le_refl _) _
      have hBW := hB7.trans (hBV.mono hB7.size)
      have hv : Row (((w7.alloc (.cells #[.int .u8 0, .int .u8 0] 5)).alloc (.cells #[.int .u8 a0, .int .u8 b0] 5)).alloc (.cells #[.int .u8 a0, .int .u8 b0] 5)) ((w7.alloc (.cells #[.int .u8 0, .int .u8 0] 5)).alloc (.cells #[.int .u8 a0, .int .u8 b0] 5)).heap.size [a0, b0] := CBox.new 5 ((w7.alloc (.cells #[.int .u8 0, .int .u8 0] 5)).alloc (.cells #[.int .u8 a0, .int .u8 b0] 5)) _
      rw [show ((w7.alloc (.cells #[.int .u8 0, .int .u8 0] 5)).alloc (.cells #[.int .u8 a0, .int .u8 b0] 5)).heap.size = w7.heap.size + 1 + 1 from by simp] at hv
      have e0_ := fun c => (sx.sat.below hB7).conv (c := c)
      have e1_ := fun c => (hv.sat (n := 2) rfl).conv (c := c)
      have e2_ := fun c => (sy.sat.below hBW).conv (c := c)
      have e3_ := fun c => ((hr.sat (n := 2) rfl).below hBV).conv (c := c)
      replace M := M.quiet (hO.base _) hP.base hBW
      rw [show ordW a0 b0 true true = [a0, b0] from rfl] at e2_
      have hs0 := str_self [a0, b0]
      clear hr hv hB7 hBV hBW sx sy
      go_wp2_with fail
      clear e0_ e1_ e2_ e3_ hs0
      refine (hO.trace (some p) F7 _ _ (by show 2 ≤ _; decide) _ M.one).mono ?_
      rintro e w8 ⟨z1, cz1, F8, rfl, hK, t1, -, -⟩
      replace M := M.o1 hP.base hK
      replace t1 := t1.mono (G' := fun k => ¬ F8 k) (fun _ _ h => h.2)
      clear hK
      go_wp2_with fail
      refine (hO.trace (some p) F8 _ _ (by show 2 ≤ _; decide) _ M.one).mono ?_
      rintro e w9 ⟨z2, cz2, F9, rfl, hK, t2, -, -⟩
      replace t1 := hK.tin t1
      replace t2 := t2.mono (G' := fun _ => True) (fun _ _ _ => trivial)
      replace M := M.o1 hP.base hK
      clear hK
      go_wp2_with fail
      refine (rsame [(3, [a0, a0]), (4, [b0])] z1 z2 2 cz1 cz2 (by decide) _ t1 t2).mono ?_
      rintro e w10 ⟨rfl, hb⟩
      replace M := M.quiet (hO.base _) hP.base hb
      clear hb t1 t2
      go_wp2_with fail
      refine (hO.trace (some p) F9 _ _ (by show 2 ≤ _; decide) _ M.one).mono ?_
      rintro e w11 ⟨z3, cz3, F11, rfl, hK, -, -, -⟩
      replace M := M.o1 hP.base hK
      clear hK
      go_wp2_with fail
      refine (sknown hP hO _).mono ?_
      rintro e w12 ⟨rfl, hb⟩
      replace M := M.quiet (hO.base _) hP.base hb
      go_wp2
      go_ret
      exact ⟨rfl, M.hB⟩
end Go.Proofs.Ytcpplfclpigmkaa
