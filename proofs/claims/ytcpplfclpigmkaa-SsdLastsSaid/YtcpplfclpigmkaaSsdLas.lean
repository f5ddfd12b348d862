/- SsdLasts' walk. -/
import Derived.Test.YtcpplfclpigmkaaSsdLaws
namespace Go.Proofs.Ytcpplfclpigmkaa
open Go.RowKit
set_option maxRecDepth 20000
variable {PI : (Nat → Prop) → World → Value → PSt → Prop} {SI : Option Addr → (Nat → Prop) → World → Value → SsdSt → Prop}

set_option maxHeartbeats 4000000 in
theorem slast_in (hP : PowIs PI) (hO : SsdIs PI SI) (off n1 c1 n2 c2 m c : Nat) (x1 x2 x3 : Option Addr) (xs1 xs2 : List Int) (K : List Bool) (h0 : off ≤ 50) (h1 : n1 ≤ 50) (h2 : n2 ≤ 50) (h3 : m ≤ 20) (b1 : Bytes xs1) (b2 : Bytes xs2) (f1 : Fit x1 n1 c1) (f2 : Fit x2 n2 c2) (f3 : Fit x3 m c) (w : World) (s1 : SAt w x1 n1 xs1) (s2 : SAt w x2 n2 xs2) (s3 : KIn (fun k => k < w.heap.size) w x3 m K) :
    Calls Try.prog 3 #[.int .i64 (off : Int), .slice x1 n1 c1, .slice x2 n2 c2, .slice x3 m c] w fun e w' => e = .returned (.bool true) ∧ Below w.heap.size w w' := by
  have H1 := hide' f1
  have H2 := hide' f2
  have H3 := hide' f3
  clear f1 f2 f3
  go_enter Try.func3, Try.ntmps3
  go_wp2_with fail
  refine (hP.make _).mono ?_
  rintro e w1 ⟨u, G, rfl, hJ, hG, hb⟩
  obtain ⟨p, rfl⟩ := hP.base.ptr hJ
  have M0 : ObjIn PI w G (.pointer (some p)) (true, none, 0) w1 := ⟨hJ, hG, hb⟩
  clear hJ hG hb
  go_wp2_with fail
  refine (smake_at hO (some p) 100 rfl (by decide) _).mono ?_
  rintro e w2 ⟨v, F, rfl, hI, hF, hb⟩
  obtain ⟨a, rfl⟩ := (hO.base _).ptr hI
  have M : Dev PI SI (some p) w F (.pointer (some a)) ⟨List.replicate 100 0, [], []⟩ G 0 w2 := (M0.duo hP.base hI hF hb).swap
  clear hI hF hb M0
  have hR : (List.replicate 100 (0 : Int)).length = 100 := by simp
  generalize List.replicate 100 (0 : Int) = R at *
  have l1 : (splice R off xs1).length = 100 := by rw [splice_len _ _ _ (by rw [s1.1]; omega), hR]
  have l2 : (splice (splice R off xs1) off xs2).length = 100 := by rw [splice_len _ _ _ (by rw [s2.1]; omega), l1]
  replace hR := hide' hR
  replace l1 := hide' l1
  replace l2 := hide' l2
  go_wp2_with fail
  refine (swrite_at hO (some p) F G _ (st' := ⟨R, [(off, xs1)], [((off : Int), xs1)]⟩) off n1 c1 x1 xs1 rfl rfl (by show off + n1 ≤ R.length; have := hR.out; omega) (Nat.zero_le _) (by decide) H1.out b1 _ M (M.arg s1)).mono ?_
  rintro e w3 ⟨F3, G3, rfl, hK⟩
  replace M := M.both hK
  clear hK
  go_wp2_with fail
  refine (sbarrier_at hO (some p) F3 G3 _ (st' := ⟨splice R off xs1, [], [((off : Int), xs1), (-1, [])]⟩) rfl (by show 1 ≤ _; decide) (by decide) _ M).mono ?_
  rintro e w4 ⟨F4, G4, rfl, hK⟩
  replace M := M.both hK
  clear hK
  go_wp2_with fail
  refine (ssnap_at hO (some p) F4 _ 100 (ys := splice R off xs1) l1.out rfl _ M.one).mono ?_
  rintro e w5 ⟨z, cz, F5, rfl, hK, sz, -, -⟩
  replace M := M.o1 hP.base hK
  clear hK
  have e0_ := fun c => sz.sat.conv (c := c)
  go_wp2_with fail
  clear e0_ sz
  refine (swrite_at hO (some p) F5 G4 _ (st' := ⟨splice R off xs1, [(off, xs2)], [((off : Int), xs1), (-1, []), ((off : Int), xs2)]⟩) off n2 c2 x2 xs2 rfl rfl (by show off + n2 ≤ (splice R off xs1).length; have := l1.out; omega) (by show 2 ≤ _; decide) (by decide) H2.out b2 _ M (M.arg s2)).mono ?_
  rintro e w6 ⟨F6, G6, rfl, hK⟩
  replace M := M.both hK
  clear hK
  go_wp2_with fail
  refine (ssnap_at hO (some p) F6 _ 100 (ys := splice (splice R off xs1) off xs2) l1.out rfl _ M.one).mono ?_
  rintro e w7 ⟨z, cz, F7, rfl, hK, sz, -, -⟩
  replace M := M.o1 hP.base hK
  clear hK
  have e0_ := fun c => sz.sat.conv (c := c)
  go_wp2_with fail
  clear e0_ sz
  obtain ⟨Z, hZ⟩ : ∃ Z, layW (splice R off xs1) (keptOf [(off, xs2)] K) = Z := ⟨_, rfl⟩
  refine (scrash_at hO (some p) F7 _ (st' := ⟨Z, [], [((off : Int), xs1), (-1, []), ((off : Int), xs2)]⟩) x3 m c K (by rw [← hZ]; rfl) H3.out _ M.one (KIn.arg M s3)).mono ?_
  rintro e w8 ⟨F8, rfl, hK⟩
  replace M := M.o1 hP.base hK
  clear hK
  have hZl : Z = splice R off xs1 ∨ Z = splice (splice R off xs1) off xs2 := by
    subst hZ
    match K with
    | [] => exact Or.inl rfl
    | true :: K => exact Or.inr rfl
    | false :: K => exact Or.inl rfl
  have lZ : Hid (Z.length = 100) := hide' (by rcases hZl with rfl | rfl; exact l1.out; exact l2.out)
  clear hZl
  go_wp2_with fail
  refine (ssnap_at hO (some p) F8 _ 100 (ys := Z) lZ.out rfl _ M.one).mono ?_
  rintro e w9 ⟨z, cz, F9, rfl, hK, sz, -, -⟩
  replace M := M.o1 hP.base hK
  clear hK
  have e0_ := fun c => sz.sat.conv (c := c)
  have hss := str_self
  by_cases hm : m = 0
  · subst hm
    obtain rfl : K = [] := List.eq_nil_of_length_eq_zero s3.1
    obtain rfl : splice R off xs1 = Z := hZ
    go_wp2_with fail
    clear e0_ sz
    refine (sknown hP hO _).mono ?_
    rintro e w10 ⟨rfl, hb⟩
    replace M := M.quiet (hO.base _) hP.base hb
    go_wp2
    go_ret
    exact ⟨rfl, M.hB⟩
  · have hm1 : (0 : Int) < m := by omega
    obtain ⟨b, o, rfl, hbl, _, hc⟩ := s3.2 (by omega)
    have hc0 := (M.hB.cell (p := ⟨b, o + 0, none⟩) hbl).trans (hc 0 (by omega))
    rw [Nat.add_zero] at hc0
    have hKl := s3.1
    match K, hKl with
    | [], hKl => simp at hKl; omega
    | true :: K, hKl =>
      obtain rfl : splice (splice R off xs1) off xs2 = Z := hZ
      rw [show (true :: K).getD 0 false = true from rfl] at hc0
      clear hc hKl
      go_wp2_with fail
      clear e0_ sz
      refine (sknown hP hO _).mono ?_
      rintro e w10 ⟨rfl, hb⟩
      replace M := M.quiet (hO.base _) hP.base hb
      go_wp2
      go_ret
      exact ⟨rfl, M.hB⟩
    | false :: K, hKl =>
      obtain rfl : splice R off xs1 = Z := hZ
      rw [show (false :: K).getD 0 false = false from rfl] at hc0
      clear hc hKl
      go_wp2_with fail
      clear e0_ sz
      refine (sknown hP hO _).mono ?_
      rintro e w10 ⟨rfl, hb⟩
      replace M := M.quiet (hO.base _) hP.base hb
      go_wp2
      go_ret
      exact ⟨rfl, M.hB⟩
theorem slast_any (hP : PowIs PI) (hO : SsdIs PI SI) (off : Int) (n1 c1 n2 c2 m c : Nat) (x1 x2 x3 : Option Addr) (xs1 xs2 : List Int) (K : List Bool) (b1 : Bytes xs1) (b2 : Bytes xs2) (f1 : Fit x1 n1 c1) (f2 : Fit x2 n2 c2) (f3 : Fit x3 m c) (w : World) (s1 : SAt w x1 n1 xs1) (s2 : SAt w x2 n2 xs2) (s3 : KIn (fun k => k < w.heap.size) w x3 m K) :
    Calls Try.prog 3 #[.int .i64 off, .slice x1 n1 c1, .slice x2 n2 c2, .slice x3 m c] w fun e w' => e = .returned (.bool true) ∧ Below w.heap.size w w' := by
  by_cases hok : (0 ≤ off ∧ off ≤ 50) ∧ n1 ≤ 50 ∧ n2 ≤ 50 ∧ m ≤ 20
  · obtain ⟨⟨h0, h1⟩, h2, h3, h4⟩ := hok
    obtain ⟨off, rfl⟩ : ∃ k : Nat, off = k := ⟨off.toNat, by omega⟩
    exact slast_in hP hO off n1 c1 n2 c2 m c x1 x2 x3 xs1 xs2 K (by omega) h2 h3 h4 b1 b2 f1 f2 f3 w s1 s2 s3
  have H1 := hide' hok
  clear hok f1 f2 f3 s1 s2 s3 b1 b2
  by_cases h0 : off < 0
  · go_enter Try.func3, Try.ntmps3
    go_wp2
    go_ret
    exact ⟨rfl, Below.refl _ _⟩
  by_cases h1 : 50 < off
  · go_enter Try.func3, Try.ntmps3
    go_wp2
    go_ret
    exact ⟨rfl, Below.refl _ _⟩
  by_cases h2 : (50 : Int) < n1
  · go_enter Try.func3, Try.ntmps3
    go_wp2
    go_ret
    exact ⟨rfl, Below.refl _ _⟩
  by_cases h3 : (50 : Int) < n2
  · go_enter Try.func3, Try.ntmps3
    go_wp2
    go_ret
    exact ⟨rfl, Below.refl _ _⟩
  by_cases h4 : (20 : Int) < m
  · go_enter Try.func3, Try.ntmps3
    go_wp2
    go_ret
    exact ⟨rfl, Below.refl _ _⟩
  · exact absurd (show (0 ≤ off ∧ off ≤ 50) ∧ n1 ≤ 50 ∧ n2 ≤ 50 ∧ m ≤ 20 from by omega) H1.out
end Go.Proofs.Ytcpplfclpigmkaa
