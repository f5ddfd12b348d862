/- OracleSums' walk. -/
import Derived.Test.YtfgigbecmhmidaaOrcRow
namespace Go.Proofs.Ytfgigbecmhmidaa
open Go.RowKit

variable {Inv : (Nat → Prop) → World → Value → OSt → Prop}
theorem and_low16 (n : Int) : bits .and .i64 n 65535 = n % 65536 := by
  have h1 : (BitVec.ofInt 64 65535).toNat = 2 ^ 16 - 1 := by decide
  have h2 : (BitVec.ofInt 64 n &&& BitVec.ofInt 64 65535).toNat = (n % ((2 ^ 64 : Nat) : Int)).toNat % 2 ^ 16 := by
    rw [BitVec.toNat_and, BitVec.toNat_ofInt, h1, Nat.and_two_pow_sub_one_eq_mod]
  show IntKind.i64.wrap ((BitVec.ofInt 64 n &&& BitVec.ofInt 64 65535).toNat : Nat) = n % 65536
  rw [h2, IntKind.wrap_i64]
  omega
set_option maxRecDepth 10000 in
set_option maxHeartbeats 4000000 in
theorem sums_in (hO : OrcIs Inv) (xs ys : List Int) (x y : Option Addr) (na nb ca cb : Nat) (cut : Int) (B : Bool) (i2 : Nat) (S2 : List (List Int)) (hse : ((strOfNums xs).toList == (strOfNums ys).toList) = B) (hd1 : ((1 : Int) == (i2 : Int)) = B) (hd2 : decide ((1 : Int) = (i2 : Int)) = B) (hi2 : sumIx [xs] ys = i2) (hs2 : sumSt [xs] ys = S2) (hi3 : sumIx S2 xs = 1) (hs3 : sumSt S2 xs = S2) (hl2 : S2.length ≤ 10000) (hna : na ≤ 200) (hnb : nb ≤ 200) (bx : Bytes xs) (by_ : Bytes ys) (fx : Fit x na ca) (fy : Fit y nb cb) (w : World) (sx : SAt w x na xs) (sy : SAt w y nb ys) :
    Calls Try.prog 6 #[.slice x na ca, .slice y nb cb, .int .i64 cut] w fun e w' => e = .returned (.bool true) ∧ Below w.heap.size w w' := by
  have heq := eq32
  have hxl := sx.1
  have hyl := sy.1
  have hand := and_low16 cut
  go_enter Try.func6, Try.ntmps6
  go_wp2_with fail
  refine (hO.make _).mono ?_
  rintro e w1 ⟨o1, F1, rfl, hI, hF1, hB⟩
  obtain ⟨a1, rfl⟩ := hO.ptr hI
  obtain ⟨ka, hk⟩ : ∃ ka : Nat, cut % 65536 % ((na : Int) + 1) = (ka : Int) := ⟨(cut % 65536 % ((na : Int) + 1)).toNat, (Int.toNat_of_nonneg (Int.emod_nonneg _ (by omega))).symm⟩
  have hka : ka ≤ na := by
    have : cut % 65536 % ((na : Int) + 1) < (na : Int) + 1 := Int.emod_lt_of_pos _ (by omega)
    omega
  have hfx := fx.1
  have hnt : nextA x ca ka = none → na - ka = 0 ∧ ca - ka = 0 := fun e => by
    have : x = none := by
      rw [nextA] at e
      split at e
      · exact e
      · simpa using e
    have := fx.2.2 this
    omega
  go_wp2_with fail
  simp only [hk]
  clear hk hand
  refine wp_region_held_drew (S := fun w' => Below w.heap.size w w') (by kernel_rfl) hB.drew (fun hHeld => ?_)
  refine takeM 0 26 7 rfl rfl rfl (by kernel_rfl) (by kernel_rfl) (by kernel_rfl) (fun _ _ _ h => h) (by rfl) hHeld rfl ?_
  simp only [List.set_cons_succ, List.set_cons_zero]
  refine takeM 1 27 0 rfl rfl rfl (by kernel_rfl) (by kernel_rfl) (by kernel_rfl) (fun _ _ _ h => h) (by rfl) hHeld rfl ?_
  simp only [List.set_cons_succ, List.set_cons_zero]
  refine takeM 4 30 7 rfl rfl rfl (by kernel_rfl) (by kernel_rfl) (by kernel_rfl) (fun _ _ _ h => h) (by rfl) hHeld rfl ?_
  simp only [List.set_cons_succ, List.set_cons_zero]
  refine takeM 5 31 1 rfl rfl rfl (by kernel_rfl) (by kernel_rfl) (by kernel_rfl) (fun _ _ _ h => h) (by rfl) hHeld rfl ?_
  simp only [List.set_cons_succ, List.set_cons_zero]
  refine takeM 9 35 0 rfl rfl rfl (by kernel_rfl) (by kernel_rfl) (by kernel_rfl) (fun _ _ _ h => h) (by rfl) hHeld rfl ?_
  simp only [List.set_cons_succ, List.set_cons_zero]
  refine takeL 10 36 (v := ?_) rfl rfl (by kernel_rfl) (by kernel_rfl) (by kernel_rfl) (fun _ _ _ h => h) (by rfl) hHeld (fun w hSw => ?_) ?_
  rotate_left 1
  · (try dsimp only at hSw)
    have e0_ := fun c => (sx.below hSw).conv (c := c)
    clear hSw
    go_simp
    try with_reducible rfl
  simp only [List.set_cons_succ, List.set_cons_zero]
  refine takeM 11 37 1 rfl rfl rfl (by kernel_rfl) (by kernel_rfl) (by kernel_rfl) (fun _ _ _ h => h) (by rfl) hHeld rfl ?_
  simp only [List.set_cons_succ, List.set_cons_zero]
  refine takeL 12 38 (v := ?_) rfl rfl (by kernel_rfl) (by kernel_rfl) (by kernel_rfl) (fun _ _ _ h => h) (by rfl) hHeld (fun w hSw => ?_) ?_
  rotate_left 1
  · (try dsimp only at hSw)
    have e0_ := fun c => (sy.below hSw).conv (c := c)
    clear hSw
    go_simp
    try with_reducible rfl
  simp only [List.set_cons_succ, List.set_cons_zero]
  refine takeL 13 39 (v := ?_) rfl rfl (by kernel_rfl) (by kernel_rfl) (by kernel_rfl) (fun _ _ _ h => h) (by rfl) hHeld (fun w hSw => ?_) ?_
  rotate_left 1
  · (try dsimp only at hSw)
    have e0_ := hse
    clear hSw
    go_simp
    try with_reducible rfl
  simp only [List.set_cons_succ, List.set_cons_zero]
  have hI : Inv F1 w1.drew (.pointer (some a1)) ([], []) := hO.below hI (Below.refl _ _).drew
  have hB : Below w.heap.size w w1.drew := hB.drew
  have hF := hF1
  refine gridE 2 3 6 7 28 29 32 33 rfl rfl rfl rfl (fun t' _ => wanted_plain rfl _) (fun t' _ => wanted_plain rfl _) (fun t' _ => wanted_plain rfl _) (fun t' _ => wanted_plain rfl _) (by kernel_rfl) (by kernel_rfl) (by kernel_rfl) (by kernel_rfl) (by kernel_rfl) (by kernel_rfl) (by decide) (by decide) (by constructor <;> simp)
    (fun G w' => Inv G w' (.pointer (some a1)) ([], []) ∧ (∀ k, G k → w.heap.size ≤ k) ∧ Below w.heap.size w w') (fun G w' => Inv G w' (.pointer (some a1)) ([], [xs]) ∧ (∀ k, G k → w.heap.size ≤ k) ∧ Below w.heap.size w w') (fun G w' => Inv G w' (.pointer (some a1)) ([], S2) ∧ (∀ k, G k → w.heap.size ≤ k) ∧ Below w.heap.size w w')
    (fun G v w' => ∃ b, v = .slice (some ⟨b, 0, none⟩) 1 1 ∧ LIn (fun k => ¬ G k) w' (some ⟨b, 0, none⟩) 1 [xs]) (fun G v w' => ∃ b, v = .slice (some ⟨b, 0, none⟩) 1 1 ∧ LIn (fun k => ¬ G k) w' (some ⟨b, 0, none⟩) 1 [ys])
    (fun v => v = .agg #[.int .u64 17216961135462248174, .int .u64 ((1 : Nat) : Int)]) (fun v => v = .agg #[.int .u64 17216961135462248174, .int .u64 ((i2 : Nat) : Int)]) F1 ⟨hI, hF, hB⟩ (fun _ _ h => h.2.2) (fun _ _ h => h.2.2) (fun _ _ h => h.2.2) ?_ ?_ ?_ ?_ ?_ ?_
  · rintro t' w' K hbut ⟨hI', hF', hB'⟩ hK
    have hnew : ¬ F1 w'.heap.size := fun h => Nat.lt_irrefl _ (hO.lt hI' _ h)
    have hbl : Below w'.heap.size w' (w'.alloc (.cells #[.slice x na ca] 37)) := (Below.refl _ _).alloc (Nat.le_refl _) _
    refine wp_row1L (k := 28) rfl rfl ((hbut.2 27 (by decide) (by decide) (by decide) (by decide)).trans rfl) ?_
    exact hK _ _ ⟨hO.below hI' hbl, hF', hB'.trans (hbl.mono hB'.size)⟩ ⟨_, rfl, lin_one w' hnew ((show ∀ (G : Nat → Prop) (w' : World), (∀ k, G k → w.heap.size ≤ k) → Below w.heap.size w w' → SIn (fun k => ¬ G k) w' _ _ _ from fun G w' hF' hB' => (sx.inn.off (Off.of_below (F := fun _ => False) hB') (fun _ _ _ h => h)).mono (fun k _ h h1 => by have := hF' k h1; omega)) F1 w' hF' hB') fx.1 fx.2.1 fx.2.2 bx⟩ (fun u hu => by obtain ⟨b, e, hl⟩ := hu; exact ⟨b, e, hl.off (Off.of_below (F := fun _ => False) hbl) (fun _ _ _ h => h)⟩)
  · rintro t' w' K hbut ⟨hI', hF', hB'⟩ hK
    have hnew : ¬ F1 w'.heap.size := fun h => Nat.lt_irrefl _ (hO.lt hI' _ h)
    have hbl : Below w'.heap.size w' (w'.alloc (.cells #[.slice y nb cb] 37)) := (Below.refl _ _).alloc (Nat.le_refl _) _
    refine wp_row1L (k := 32) rfl rfl ((hbut.2 31 (by decide) (by decide) (by decide) (by decide)).trans rfl) ?_
    exact hK _ _ ⟨hO.below hI' hbl, hF', hB'.trans (hbl.mono hB'.size)⟩ ⟨_, rfl, lin_one w' hnew ((show ∀ (G : Nat → Prop) (w' : World), (∀ k, G k → w.heap.size ≤ k) → Below w.heap.size w w' → SIn (fun k => ¬ G k) w' _ _ _ from fun G w' hF' hB' => (sy.inn.off (Off.of_below (F := fun _ => False) hB') (fun _ _ _ h => h)).mono (fun k _ h h1 => by have := hF' k h1; omega)) F1 w' hF' hB') fy.1 fy.2.1 fy.2.2 by_⟩ (fun u hu => by obtain ⟨b, e, hl⟩ := hu; exact ⟨b, e, hl.off (Off.of_below (F := fun _ => False) hbl) (fun _ _ _ h => h)⟩)
  · rintro t' G w' K hbut ⟨hI', hF', hB'⟩ hK
    have hnew : ¬ G w'.heap.size := fun h => Nat.lt_irrefl _ (hO.lt hI' _ h)
    have hbl : Below w'.heap.size w' (w'.alloc (.cells #[.slice y nb cb] 37)) := (Below.refl _ _).alloc (Nat.le_refl _) _
    refine wp_row1L (k := 32) rfl rfl ((hbut.2 31 (by decide) (by decide) (by decide) (by decide)).trans rfl) ?_
    exact hK _ _ ⟨hO.below hI' hbl, hF', hB'.trans (hbl.mono hB'.size)⟩ ⟨_, rfl, lin_one w' hnew ((show ∀ (G : Nat → Prop) (w' : World), (∀ k, G k → w.heap.size ≤ k) → Below w.heap.size w w' → SIn (fun k => ¬ G k) w' _ _ _ from fun G w' hF' hB' => (sy.inn.off (Off.of_below (F := fun _ => False) hB') (fun _ _ _ h => h)).mono (fun k _ h h1 => by have := hF' k h1; omega)) G w' hF' hB') fy.1 fy.2.1 fy.2.2 by_⟩
  · rintro t' w' v K hbut ⟨hI', hF', hB'⟩ hv ⟨b, rfl, hl⟩ hK
    refine wp_sumL (k := 29) rfl rfl ((hbut.2 26 (by decide) (by decide) (by decide) (by decide)).trans rfl) hv ?_
    refine (osum_at hO F1 _ [] [xs] _ 1 (by decide) (zs := xs) (by simp) (by omega) (by simp) (by simp) w' hI' hl (ix := 1) (by simp [sumIx]) (S' := [xs]) (by simp [sumSt])).mono ?_
    rintro e w2 ⟨G, rfl, hK2⟩
    refine ⟨_, rfl, hK G _ _ ⟨hK2.inv, fun k hk => (hK2.sub k hk).elim (hF' k) (fun h => Nat.le_trans hB'.size h), hB'.trans (hK2.off.below hF' hB'.size)⟩ rfl (fun u hu => ?_)⟩
    obtain ⟨b2, e, hl2⟩ := hu
    exact ⟨b2, e, ((hl2.mono (G' := fun k => ¬ F1 k ∧ k < w'.heap.size) (fun k h1 h2 => ⟨h2, h1⟩)).off hK2.off (fun _ _ h => h.1)).mono (fun k _ h h3 => (hK2.sub k h3).elim h.1 (fun h4 => by have := h.2; omega))⟩
  · rintro t' G w' v K hbut ⟨hI', hF', hB'⟩ hv ⟨b, rfl, hl⟩ hK
    refine wp_sumL (k := 33) rfl rfl ((hbut.2 30 (by decide) (by decide) (by decide) (by decide)).trans rfl) hv ?_
    refine (osum_at hO G _ [xs] [ys] _ 1 (by decide) (zs := ys) (by simp) (by omega) (by simp) (by simp) w' hI' hl (ix := i2) hi2 (S' := S2) hs2).mono ?_
    rintro e w2 ⟨G2, rfl, hK2⟩
    exact ⟨_, rfl, hK G2 _ _ ⟨hK2.inv, fun k hk => (hK2.sub k hk).elim (hF' k) (fun h => Nat.le_trans hB'.size h), hB'.trans (hK2.off.below hF' hB'.size)⟩ rfl⟩
  rintro G2 v1 _ u1 _ w2 ⟨hI, hF, hB⟩ rfl rfl
  simp only [List.set_cons_succ, List.set_cons_zero]
  replace hHeld := hB
  refine takeL 8 34 (v := ?_) rfl rfl (by kernel_rfl) (by kernel_rfl) (by kernel_rfl) (fun _ _ _ h => h) (by rfl) hHeld (fun w hSw => ?_) ?_
  rotate_left 1
  · (try dsimp only at hSw)
    have e0_ := hd1
    have e1_ := hd2
    clear hSw
    go_simp
    try with_reducible rfl
  simp only [List.set_cons_succ, List.set_cons_zero]
  refine takeL 14 40 (v := ?_) rfl rfl (by kernel_rfl) (by kernel_rfl) (by kernel_rfl) (fun _ _ _ h => h) (by rfl) hHeld (fun w hSw => ?_) ?_
  rotate_left 1
  · (try dsimp only at hSw)
    clear hSw
    go_simp
    try with_reducible rfl
  simp only [List.set_cons_succ, List.set_cons_zero]
  refine takeM 15 41 40 rfl rfl rfl (by kernel_rfl) (by kernel_rfl) (by kernel_rfl) (fun _ _ _ h => h) (by rfl) hHeld rfl ?_
  simp only [List.set_cons_succ, List.set_cons_zero]
  refine takeM 16 42 7 rfl rfl rfl (by kernel_rfl) (by kernel_rfl) (by kernel_rfl) (fun _ _ _ h => h) (by rfl) hHeld rfl ?_
  simp only [List.set_cons_succ, List.set_cons_zero]
  refine takeM 17 43 0 rfl rfl rfl (by kernel_rfl) (by kernel_rfl) (by kernel_rfl) (fun _ _ _ h => h) (by rfl) hHeld rfl ?_
  simp only [List.set_cons_succ, List.set_cons_zero]
  refine takeM 18 44 8 rfl rfl rfl (by kernel_rfl) (by kernel_rfl) (by kernel_rfl) (fun _ _ _ h => h) (by rfl) hHeld rfl ?_
  simp only [List.set_cons_succ, List.set_cons_zero]
  refine takeL 19 45 (v := ?_) rfl rfl (by kernel_rfl) (by kernel_rfl) (by kernel_rfl) (fun _ _ _ h => h) (by rfl) hHeld (fun w hSw => ?_) ?_
  rotate_left 1
  · (try dsimp only at hSw)
    have e0_ := sl_head x na ca ka (by omega)
    clear hSw
    go_simp
    try with_reducible rfl
  simp only [List.set_cons_succ, List.set_cons_zero]
  refine takeM 20 46 0 rfl rfl rfl (by kernel_rfl) (by kernel_rfl) (by kernel_rfl) (fun _ _ _ h => h) (by rfl) hHeld rfl ?_
  simp only [List.set_cons_succ, List.set_cons_zero]
  refine takeM 21 47 8 rfl rfl rfl (by kernel_rfl) (by kernel_rfl) (by kernel_rfl) (fun _ _ _ h => h) (by rfl) hHeld rfl ?_
  simp only [List.set_cons_succ, List.set_cons_zero]
  refine takeL 22 48 (v := ?_) rfl rfl (by kernel_rfl) (by kernel_rfl) (by kernel_rfl) (fun _ _ _ h => h) (by rfl) hHeld (fun w hSw => ?_) ?_
  rotate_left 1
  · (try dsimp only at hSw)
    have e0_ := sl_tail x na ca ka (by omega)
    clear hSw
    go_simp
    try with_reducible rfl
  simp only [List.set_cons_succ, List.set_cons_zero]
  refine takeM 25 51 7 rfl rfl rfl (by kernel_rfl) (by kernel_rfl) (by kernel_rfl) (fun _ _ _ h => h) (by rfl) hHeld rfl ?_
  simp only [List.set_cons_succ, List.set_cons_zero]
  refine takeM 26 52 0 rfl rfl rfl (by kernel_rfl) (by kernel_rfl) (by kernel_rfl) (fun _ _ _ h => h) (by rfl) hHeld rfl ?_
  simp only [List.set_cons_succ, List.set_cons_zero]
  refine gridE 23 24 27 28 49 50 53 54 rfl rfl rfl rfl (fun t' hb => wanted_but hb 15 41 rfl rfl (by decide) (by decide) (by decide) (by decide) (by rfl)) (fun t' hb => wanted_but hb 15 41 rfl rfl (by decide) (by decide) (by decide) (by decide) (by rfl)) (fun t' hb => wanted_but hb 15 41 rfl rfl (by decide) (by decide) (by decide) (by decide) (by rfl)) (fun t' hb => wanted_but hb 15 41 rfl rfl (by decide) (by decide) (by decide) (by decide) (by rfl)) (by kernel_rfl) (by kernel_rfl) (by kernel_rfl) (by kernel_rfl) (by kernel_rfl) (by kernel_rfl) (by decide) (by decide) (by constructor <;> simp)
    (fun G w' => Inv G w' (.pointer (some a1)) ([], S2) ∧ (∀ k, G k → w.heap.size ≤ k) ∧ Below w.heap.size w w') (fun G w' => Inv G w' (.pointer (some a1)) ([], S2) ∧ (∀ k, G k → w.heap.size ≤ k) ∧ Below w.heap.size w w') (fun G w' => Inv G w' (.pointer (some a1)) ([], S2) ∧ (∀ k, G k → w.heap.size ≤ k) ∧ Below w.heap.size w w')
    (fun G v w' => ∃ b, v = .slice (some ⟨b, 0, none⟩) 2 2 ∧ LIn (fun k => ¬ G k) w' (some ⟨b, 0, none⟩) 2 [xs.take ka, xs.drop ka]) (fun G v w' => ∃ b, v = .slice (some ⟨b, 0, none⟩) 1 1 ∧ LIn (fun k => ¬ G k) w' (some ⟨b, 0, none⟩) 1 [xs])
    (fun v => v = .agg #[.int .u64 17216961135462248174, .int .u64 ((1 : Nat) : Int)]) (fun v => v = .agg #[.int .u64 17216961135462248174, .int .u64 ((1 : Nat) : Int)]) G2 ⟨hI, hF, hB⟩ (fun _ _ h => h.2.2) (fun _ _ h => h.2.2) (fun _ _ h => h.2.2) ?_ ?_ ?_ ?_ ?_ ?_
  · rintro t' w' K hbut ⟨hI', hF', hB'⟩ hK
    have hnew : ¬ G2 w'.heap.size := fun h => Nat.lt_irrefl _ (hO.lt hI' _ h)
    have hbl : Below w'.heap.size w' (w'.alloc (.cells #[.slice x ka ca, .slice (nextA x ca ka) (na - ka) (ca - ka)] 37)) := (Below.refl _ _).alloc (Nat.le_refl _) _
    refine wp_row2L (k := 49) rfl rfl ((hbut.2 45 (by decide) (by decide) (by decide) (by decide)).trans rfl) ((hbut.2 48 (by decide) (by decide) (by decide) (by decide)).trans rfl) ?_
    exact hK _ _ ⟨hO.below hI' hbl, hF', hB'.trans (hbl.mono hB'.size)⟩ ⟨_, rfl, lin_two w' hnew ((show ∀ (G : Nat → Prop) (w' : World), (∀ k, G k → w.heap.size ≤ k) → Below w.heap.size w w' → SIn (fun k => ¬ G k) w' _ _ _ from fun G w' hF' hB' => ((sx.head hka).inn.off (Off.of_below (F := fun _ => False) hB') (fun _ _ _ h => h)).mono (fun k _ h h1 => by have := hF' k h1; omega)) G2 w' hF' hB') (Nat.le_trans hka fx.1) fx.2.1 (fun e => ⟨by have := fx.2.2 e; omega, (fx.2.2 e).2⟩) (bx.take ka) ((show ∀ (G : Nat → Prop) (w' : World), (∀ k, G k → w.heap.size ≤ k) → Below w.heap.size w w' → SIn (fun k => ¬ G k) w' _ _ _ from fun G w' hF' hB' => ((sx.tail fx.1).inn.off (Off.of_below (F := fun _ => False) hB') (fun _ _ _ h => h)).mono (fun k _ h h1 => by have := hF' k h1; omega)) G2 w' hF' hB') (Nat.sub_le_sub_right fx.1 _) (Nat.le_trans (Nat.sub_le _ _) fx.2.1) hnt (bx.drop ka)⟩ (fun u hu => by obtain ⟨b, e, hl⟩ := hu; exact ⟨b, e, hl.off (Off.of_below (F := fun _ => False) hbl) (fun _ _ _ h => h)⟩)
  · rintro t' w' K hbut ⟨hI', hF', hB'⟩ hK
    have hnew : ¬ G2 w'.heap.size := fun h => Nat.lt_irrefl _ (hO.lt hI' _ h)
    have hbl : Below w'.heap.size w' (w'.alloc (.cells #[.slice x na ca] 37)) := (Below.refl _ _).alloc (Nat.le_refl _) _
    refine wp_row1L (k := 53) rfl rfl ((hbut.2 52 (by decide) (by decide) (by decide) (by decide)).trans rfl) ?_
    exact hK _ _ ⟨hO.below hI' hbl, hF', hB'.trans (hbl.mono hB'.size)⟩ ⟨_, rfl, lin_one w' hnew ((show ∀ (G : Nat → Prop) (w' : World), (∀ k, G k → w.heap.size ≤ k) → Below w.heap.size w w' → SIn (fun k => ¬ G k) w' _ _ _ from fun G w' hF' hB' => (sx.inn.off (Off.of_below (F := fun _ => False) hB') (fun _ _ _ h => h)).mono (fun k _ h h1 => by have := hF' k h1; omega)) G2 w' hF' hB') fx.1 fx.2.1 fx.2.2 bx⟩ (fun u hu => by obtain ⟨b, e, hl⟩ := hu; exact ⟨b, e, hl.off (Off.of_below (F := fun _ => False) hbl) (fun _ _ _ h => h)⟩)
  · rintro t' G w' K hbut ⟨hI', hF', hB'⟩ hK
    have hnew : ¬ G w'.heap.size := fun h => Nat.lt_irrefl _ (hO.lt hI' _ h)
    have hbl : Below w'.heap.size w' (w'.alloc (.cells #[.slice x na ca] 37)) := (Below.refl _ _).alloc (Nat.le_refl _) _
    refine wp_row1L (k := 53) rfl rfl ((hbut.2 52 (by decide) (by decide) (by decide) (by decide)).trans rfl) ?_
    exact hK _ _ ⟨hO.below hI' hbl, hF', hB'.trans (hbl.mono hB'.size)⟩ ⟨_, rfl, lin_one w' hnew ((show ∀ (G : Nat → Prop) (w' : World), (∀ k, G k → w.heap.size ≤ k) → Below w.heap.size w w' → SIn (fun k => ¬ G k) w' _ _ _ from fun G w' hF' hB' => (sx.inn.off (Off.of_below (F := fun _ => False) hB') (fun _ _ _ h => h)).mono (fun k _ h h1 => by have := hF' k h1; omega)) G w' hF' hB') fx.1 fx.2.1 fx.2.2 bx⟩
  · rintro t' w' v K hbut ⟨hI', hF', hB'⟩ hv ⟨b, rfl, hl⟩ hK
    refine wp_sumL (k := 50) rfl rfl ((hbut.2 42 (by decide) (by decide) (by decide) (by decide)).trans rfl) hv ?_
    refine (osum_at hO G2 _ S2 [xs.take ka, xs.drop ka] _ 2 (by decide) (zs := xs) (by simp) (by omega) hl2 (by simp) w' hI' hl (ix := 1) hi3 (S' := S2) hs3).mono ?_
    rintro e w2 ⟨G, rfl, hK2⟩
    refine ⟨_, rfl, hK G _ _ ⟨hK2.inv, fun k hk => (hK2.sub k hk).elim (hF' k) (fun h => Nat.le_trans hB'.size h), hB'.trans (hK2.off.below hF' hB'.size)⟩ rfl (fun u hu => ?_)⟩
    obtain ⟨b2, e, hl2⟩ := hu
    exact ⟨b2, e, ((hl2.mono (G' := fun k => ¬ G2 k ∧ k < w'.heap.size) (fun k h1 h2 => ⟨h2, h1⟩)).off hK2.off (fun _ _ h => h.1)).mono (fun k _ h h3 => (hK2.sub k h3).elim h.1 (fun h4 => by have := h.2; omega))⟩
  · rintro t' G w' v K hbut ⟨hI', hF', hB'⟩ hv ⟨b, rfl, hl⟩ hK
    refine wp_sumL (k := 54) rfl rfl ((hbut.2 51 (by decide) (by decide) (by decide) (by decide)).trans rfl) hv ?_
    refine (osum_at hO G _ S2 [xs] _ 1 (by decide) (zs := xs) (by simp) (by omega) hl2 (by simp) w' hI' hl (ix := 1) hi3 (S' := S2) hs3).mono ?_
    rintro e w2 ⟨G2, rfl, hK2⟩
    exact ⟨_, rfl, hK G2 _ _ ⟨hK2.inv, fun k hk => (hK2.sub k hk).elim (hF' k) (fun h => Nat.le_trans hB'.size h), hB'.trans (hK2.off.below hF' hB'.size)⟩ rfl⟩
  rintro G3 v2 _ u2 _ w3 ⟨hI, hF, hB⟩ rfl rfl
  simp only [List.set_cons_succ, List.set_cons_zero]
  replace hHeld := hB
  refine takeL 29 55 (v := ?_) rfl rfl (by kernel_rfl) (by kernel_rfl) (by kernel_rfl) (fun _ _ _ h => h) (by rfl) hHeld (fun w hSw => ?_) ?_
  rotate_left 1
  · (try dsimp only at hSw)
    clear hSw
    go_simp
    try with_reducible rfl
  simp only [List.set_cons_succ, List.set_cons_zero]
  refine takeL 30 56 (v := ?_) rfl rfl (by kernel_rfl) (by kernel_rfl) (by kernel_rfl) (fun _ _ _ h => h) (by rfl) hHeld (fun w hSw => ?_) ?_
  rotate_left 1
  · (try dsimp only at hSw)
    clear hSw
    go_simp
    try with_reducible rfl
  simp only [List.set_cons_succ, List.set_cons_zero]
  refine takeM 31 57 56 rfl rfl rfl (by kernel_rfl) (by kernel_rfl) (by kernel_rfl) (fun _ _ _ h => h) (by rfl) hHeld rfl ?_
  simp only [List.set_cons_succ, List.set_cons_zero]
  refine onlyL 32 rfl (by kernel_rfl) (by rfl) (fun K hK => ?_)
  go_wp2_with fail
  refine (oknown hO _).mono ?_
  rintro e w4 ⟨rfl, hb⟩
  replace hB := hB.trans (hb.mono hB.size)
  refine hK.out _ _ hB (fun hHeld => ?_)
  clear hK K
  refine takeL 33 59 (v := ?_) rfl rfl (by kernel_rfl) (by kernel_rfl) (by kernel_rfl) (fun _ _ _ h => h) (by rfl) hHeld (fun w hSw => ?_) ?_
  rotate_left 1
  · (try dsimp only at hSw)
    clear hSw
    go_simp
    try with_reducible rfl
  simp only [List.set_cons_succ, List.set_cons_zero]
  refine takeA 34 6 59 rfl rfl rfl (by kernel_rfl) (by kernel_rfl) (by kernel_rfl) (fun _ _ _ h => h) (by rfl) hHeld rfl ?_
  simp only [List.set_cons_succ, List.set_cons_zero]
  refine wpAnyH_done (by kernel_rfl) ?_ _
  go_wp2
  go_ret
  exact ⟨rfl, hB⟩

set_option maxHeartbeats 400000 in
theorem sums_any (hO : OrcIs Inv) (xs ys : List Int) (x y : Option Addr) (na nb ca cb : Nat) (cut : Int) (bx : Bytes xs) (by_ : Bytes ys) (fx : Fit x na ca) (fy : Fit y nb cb) (w : World) (sx : SAt w x na xs) (sy : SAt w y nb ys) :
    Calls Try.prog 6 #[.slice x na ca, .slice y nb cb, .int .i64 cut] w fun e w' => e = .returned (.bool true) ∧ Below w.heap.size w w' := by
  by_cases h1 : 200 < na
  · go_enter Try.func6, Try.ntmps6
    go_wp2
    go_ret
    exact ⟨rfl, Below.refl _ _⟩
  · by_cases h2 : 200 < nb
    · go_enter Try.func6, Try.ntmps6
      go_wp2
      go_ret
      exact ⟨rfl, Below.refl _ _⟩
    · have hse := str_eq xs ys bx by_
      by_cases h : xs = ys
      · rw [decide_eq_true h] at hse
        exact sums_in hO xs ys x y na nb ca cb cut true 1 [xs] hse rfl rfl (by simp [sumIx, h]) (by simp [sumSt, h]) (by simp [sumIx]) (by simp [sumSt]) (by simp) (by omega) (by omega) bx by_ fx fy w sx sy
      · rw [decide_eq_false h] at hse
        have h' : ys ∉ [xs] := fun e => h (by simpa using e : ys = xs).symm
        exact sums_in hO xs ys x y na nb ca cb cut false 2 [xs, ys] hse rfl rfl (sumIx_new h') (if_neg h') (by simp [sumIx]) (by simp [sumSt]) (by simp) (by omega) (by omega) bx by_ fx fy w sx sy
end Go.Proofs.Ytfgigbecmhmidaa
