/- SsdSame DskSide ViewB ViewG ViewBo ViewK ViewSat: texts laid together. -/
import Derived.Test.YtcjmmfgnnebgkaaM03
import Derived.Test.YtcjmmfgnnebgkaaM07
import Derived.Test.YtcjmmfgnnebgkaaM02
import Derived.Deep.Strs
import Derived.Deep.Slices

/- The document's comparison of two traces, where they are one. -/
namespace Go.Proofs.Ytcjmmfgnnebgkaa
open Go.RowKit
set_option maxRecDepth 20000

/-- A slice of writes, in whatever memory. -/
abbrev TAt (w : World) (x : Option Addr) (m : Nat) (L : List (Int × List Int)) : Prop := TIn (fun _ => True) w x m L
theorem TIn.mono {G G' : Nat → Prop} {w : World} {x : Option Addr} {m : Nat} {L : List (Int × List Int)} (h : TIn G w x m L) (hd : ∀ b, b < w.heap.size → G b → G' b) : TIn G' w x m L :=
  ⟨h.1, fun hm => by
    obtain ⟨b, o, e, hlt, hg, hr⟩ := h.2 hm
    refine ⟨b, o, e, hlt, hd b hlt hg, fun i hi => ⟨(hr i hi).1, ?_⟩⟩
    obtain ⟨y, c, h1, h2, h3⟩ := (hr i hi).2
    exact ⟨y, c, h1, h2.mono hd, h3⟩⟩
set_option maxHeartbeats 2000000 in
theorem rsame (L : List (Int × List Int)) (x y : Option Addr) (m c d : Nat) (hm : m ≤ 1000000) (w : World) (sx : TAt w x m L) (sy : TAt w y m L) :
    Calls Try.prog 26 #[.slice x m c, .slice y m d] w fun e w' => e = .returned (.bool true) ∧ Below w.heap.size w w' := by
  have HM := hide' hm
  clear hm
  go_enter Try.func26, Try.ntmps26
  go_wp2_with fail
  go_loopw [5] (fun i wr => ∃ k : Nat, k ≤ m ∧ i = .int .i64 (k : Int) ∧ Below w.heap.size w wr) (fun i _ => m - (intOf i).toNat)
  case atStart => exact ⟨0, Nat.zero_le _, rfl, Below.refl _ _⟩
  case round =>
    obtain ⟨k, hk, rfl, hB⟩ := hrel
    by_cases hlt : k < m
    · have hlt' : (k : Int) < m := by omega
      have hw : IntKind.i64.wrap ((k : Int) + 1) = (k : Int) + 1 := by
        have := HM.out
        rw [IntKind.wrap_i64]
        omega
      obtain ⟨b, o, rfl, hbl, _, hr⟩ := sx.2 (by omega)
      obtain ⟨b2, o2, rfl, hbl2, _, hr2⟩ := sy.2 (by omega)
      obtain ⟨ha0, za, ca, ha1, sa, -⟩ := hr k hlt
      obtain ⟨hd0, zd, cd, hd1, sd, -⟩ := hr2 k hlt
      replace sa := sa.sat
      replace sd := sd.sat
      clear hr hr2
      generalize (L.getD k (0, [])).1 = n0 at *
      generalize (L.getD k (0, [])).2 = ys at *
      generalize ys.length = l at *
      go_wp2_with fail
      refine wp_region_held_drew (S := fun w' => Below w.heap.size w w') (by kernel_rfl) (hB.drew) (fun hHeld => ?_)
      refine takeM 0 17 0 rfl rfl rfl (by kernel_rfl) (by kernel_rfl) (by kernel_rfl) (fun _ _ _ h => h) (by rfl) hHeld rfl ?_
      simp only [List.set_cons_succ, List.set_cons_zero]
      refine takeM 1 18 5 rfl rfl rfl (by kernel_rfl) (by kernel_rfl) (by kernel_rfl) (fun _ _ _ h => h) (by rfl) hHeld rfl ?_
      simp only [List.set_cons_succ, List.set_cons_zero]
      refine takeL 2 19 (v := ?_) rfl rfl (by kernel_rfl) (by kernel_rfl) (by kernel_rfl) (fun _ _ _ h => h) (by rfl) hHeld (fun w hSw => ?_) ?_
      rotate_left 1
      · (try dsimp only at hSw)
        clear hSw
        go_simp
        try with_reducible rfl
      simp only [List.set_cons_succ, List.set_cons_zero]
      refine takeL 3 20 (v := ?_) rfl rfl (by kernel_rfl) (by kernel_rfl) (by kernel_rfl) (fun _ _ _ h => h) (by rfl) hHeld (fun w hSw => ?_) ?_
      rotate_left 1
      · (try dsimp only at hSw)
        clear hSw
        go_simp
        try with_reducible rfl
      simp only [List.set_cons_succ, List.set_cons_zero]
      refine takeL 4 21 (v := ?_) rfl rfl (by kernel_rfl) (by kernel_rfl) (by kernel_rfl) (fun _ _ _ h => h) (by rfl) hHeld (fun w hSw => ?_) ?_
      rotate_left 1
      · (try dsimp only at hSw)
        have e0_ := (hSw.cell (p := ⟨b, o + k * 2, none⟩) hbl).trans ha0
        clear hSw
        go_simp
        try with_reducible rfl
      simp only [List.set_cons_succ, List.set_cons_zero]
      refine takeM 5 22 1 rfl rfl rfl (by kernel_rfl) (by kernel_rfl) (by kernel_rfl) (fun _ _ _ h => h) (by rfl) hHeld rfl ?_
      simp only [List.set_cons_succ, List.set_cons_zero]
      refine takeM 6 23 5 rfl rfl rfl (by kernel_rfl) (by kernel_rfl) (by kernel_rfl) (fun _ _ _ h => h) (by rfl) hHeld rfl ?_
      simp only [List.set_cons_succ, List.set_cons_zero]
      refine takeL 7 24 (v := ?_) rfl rfl (by kernel_rfl) (by kernel_rfl) (by kernel_rfl) (fun _ _ _ h => h) (by rfl) hHeld (fun w hSw => ?_) ?_
      rotate_left 1
      · (try dsimp only at hSw)
        clear hSw
        go_simp
        try with_reducible rfl
      simp only [List.set_cons_succ, List.set_cons_zero]
      refine takeL 8 25 (v := ?_) rfl rfl (by kernel_rfl) (by kernel_rfl) (by kernel_rfl) (fun _ _ _ h => h) (by rfl) hHeld (fun w hSw => ?_) ?_
      rotate_left 1
      · (try dsimp only at hSw)
        clear hSw
        go_simp
        try with_reducible rfl
      simp only [List.set_cons_succ, List.set_cons_zero]
      refine takeL 9 26 (v := ?_) rfl rfl (by kernel_rfl) (by kernel_rfl) (by kernel_rfl) (fun _ _ _ h => h) (by rfl) hHeld (fun w hSw => ?_) ?_
      rotate_left 1
      · (try dsimp only at hSw)
        have e0_ := (hSw.cell (p := ⟨b2, o2 + k * 2, none⟩) hbl2).trans hd0
        clear hSw
        go_simp
        try with_reducible rfl
      simp only [List.set_cons_succ, List.set_cons_zero]
      refine takeL 10 27 (v := ?_) rfl rfl (by kernel_rfl) (by kernel_rfl) (by kernel_rfl) (fun _ _ _ h => h) (by rfl) hHeld (fun w hSw => ?_) ?_
      rotate_left 1
      · (try dsimp only at hSw)
        clear hSw
        go_simp
        try with_reducible rfl
      simp only [List.set_cons_succ, List.set_cons_zero]
      refine takeM 11 28 27 rfl rfl rfl (by kernel_rfl) (by kernel_rfl) (by kernel_rfl) (fun _ _ _ h => h) (by rfl) hHeld rfl ?_
      simp only [List.set_cons_succ, List.set_cons_zero]
      refine takeM 12 29 0 rfl rfl rfl (by kernel_rfl) (by kernel_rfl) (by kernel_rfl) (fun _ _ _ h => h) (by rfl) hHeld rfl ?_
      simp only [List.set_cons_succ, List.set_cons_zero]
      refine takeM 13 30 5 rfl rfl rfl (by kernel_rfl) (by kernel_rfl) (by kernel_rfl) (fun _ _ _ h => h) (by rfl) hHeld rfl ?_
      simp only [List.set_cons_succ, List.set_cons_zero]
      refine takeL 14 31 (v := ?_) rfl rfl (by kernel_rfl) (by kernel_rfl) (by kernel_rfl) (fun _ _ _ h => h) (by rfl) hHeld (fun w hSw => ?_) ?_
      rotate_left 1
      · (try dsimp only at hSw)
        clear hSw
        go_simp
        try with_reducible rfl
      simp only [List.set_cons_succ, List.set_cons_zero]
      refine takeL 15 32 (v := ?_) rfl rfl (by kernel_rfl) (by kernel_rfl) (by kernel_rfl) (fun _ _ _ h => h) (by rfl) hHeld (fun w hSw => ?_) ?_
      rotate_left 1
      · (try dsimp only at hSw)
        clear hSw
        go_simp
        try with_reducible rfl
      simp only [List.set_cons_succ, List.set_cons_zero]
      refine takeL 16 33 (v := ?_) rfl rfl (by kernel_rfl) (by kernel_rfl) (by kernel_rfl) (fun _ _ _ h => h) (by rfl) hHeld (fun w hSw => ?_) ?_
      rotate_left 1
      · (try dsimp only at hSw)
        have e0_ := (hSw.cell (p := ⟨b, o + k * 2 + 1, none⟩) hbl).trans ha1
        clear hSw
        go_simp
        try with_reducible rfl
      simp only [List.set_cons_succ, List.set_cons_zero]
      refine takeL 17 34 (v := ?_) rfl rfl (by kernel_rfl) (by kernel_rfl) (by kernel_rfl) (fun _ _ _ h => h) (by rfl) hHeld (fun w hSw => ?_) ?_
      rotate_left 1
      · (try dsimp only at hSw)
        have e0_ := fun c => (sa.below hSw).conv (c := c)
        clear hSw
        go_simp
        try with_reducible rfl
      simp only [List.set_cons_succ, List.set_cons_zero]
      refine takeM 18 35 1 rfl rfl rfl (by kernel_rfl) (by kernel_rfl) (by kernel_rfl) (fun _ _ _ h => h) (by rfl) hHeld rfl ?_
      simp only [List.set_cons_succ, List.set_cons_zero]
      refine takeM 19 36 5 rfl rfl rfl (by kernel_rfl) (by kernel_rfl) (by kernel_rfl) (fun _ _ _ h => h) (by rfl) hHeld rfl ?_
      simp only [List.set_cons_succ, List.set_cons_zero]
      refine takeL 20 37 (v := ?_) rfl rfl (by kernel_rfl) (by kernel_rfl) (by kernel_rfl) (fun _ _ _ h => h) (by rfl) hHeld (fun w hSw => ?_) ?_
      rotate_left 1
      · (try dsimp only at hSw)
        clear hSw
        go_simp
        try with_reducible rfl
      simp only [List.set_cons_succ, List.set_cons_zero]
      refine takeL 21 38 (v := ?_) rfl rfl (by kernel_rfl) (by kernel_rfl) (by kernel_rfl) (fun _ _ _ h => h) (by rfl) hHeld (fun w hSw => ?_) ?_
      rotate_left 1
      · (try dsimp only at hSw)
        clear hSw
        go_simp
        try with_reducible rfl
      simp only [List.set_cons_succ, List.set_cons_zero]
      refine takeL 22 39 (v := ?_) rfl rfl (by kernel_rfl) (by kernel_rfl) (by kernel_rfl) (fun _ _ _ h => h) (by rfl) hHeld (fun w hSw => ?_) ?_
      rotate_left 1
      · (try dsimp only at hSw)
        have e0_ := (hSw.cell (p := ⟨b2, o2 + k * 2 + 1, none⟩) hbl2).trans hd1
        clear hSw
        go_simp
        try with_reducible rfl
      simp only [List.set_cons_succ, List.set_cons_zero]
      refine takeL 23 40 (v := ?_) rfl rfl (by kernel_rfl) (by kernel_rfl) (by kernel_rfl) (fun _ _ _ h => h) (by rfl) hHeld (fun w hSw => ?_) ?_
      rotate_left 1
      · (try dsimp only at hSw)
        have e0_ := fun c => (sd.below hSw).conv (c := c)
        clear hSw
        go_simp
        try with_reducible rfl
      simp only [List.set_cons_succ, List.set_cons_zero]
      refine takeL 24 41 (v := .bool false) rfl rfl (by kernel_rfl) (by kernel_rfl) (by kernel_rfl) (fun _ _ _ h => h) (by rfl) hHeld (fun w hSw => ?_) ?_
      · clear hSw
        have hss := str_self ys
        go_simp
      simp only [List.set_cons_succ, List.set_cons_zero]
      refine takeL 25 42 (v := ?_) rfl rfl (by kernel_rfl) (by kernel_rfl) (by kernel_rfl) (fun _ _ _ h => h) (by rfl) hHeld (fun w hSw => ?_) ?_
      rotate_left 1
      · (try dsimp only at hSw)
        clear hSw
        go_simp
        try with_reducible rfl
      simp only [List.set_cons_succ, List.set_cons_zero]
      refine wpAnyH_done (by kernel_rfl) ?_ _
      go_wp2
      go_roundw
      case rel => exact ⟨k + 1, by omega, by go_num, hB.drew⟩
      case measure => simp [intOf]; omega
    · have hlt' : ¬ (k : Int) < m := by omega
      go_wp2
      go_ret
      exact ⟨rfl, hB⟩
end Go.Proofs.Ytcjmmfgnnebgkaa


/- The calls of a disk with its power: the program's, the document's. -/
namespace Go.Proofs.Ytcjmmfgnnebgkaa
open Go.RowKit
set_option maxRecDepth 20000

theorem pd_write {PI : (Nat → Prop) → World → Value → PSt → Prop} {DI : Option Addr → (Nat → Prop) → World → Value → DskSt → Prop} (hP : PowIs PI) (hO : DskIs PI DI) (p : Option Addr) (H : Nat → Prop) (v : Value) (s : DP) (lba : Int) (x : Option Addr) (n c : Nat) (xs : List Int) (hb : DBd 100000 s) (fx : Fit x n c) (bx : Bytes xs) (w : World) (hI : DPI (DI p) PI p H w v s) (hx : SIn (fun k => ¬ H k) w x n xs) :
    Calls Try.prog 12 #[v, .int .i64 lba, .slice x n c] w fun e w' => ∃ H', e = .returned (.bool (dWrite s lba xs).1) ∧ KeptG (DPI (DI p) PI p) H w v H' w' (dWrite s lba xs).2 := by
  obtain ⟨F, G, h1, h2, hd, hH⟩ := hI
  have h100 := hb.1
  have hq : s.2.2.2 ≤ 1000000 := by have := hb.2.2; omega
  by_cases hc : (0 ≤ lba ∧ lba < 32) ∧ xs.length = 32 ∧ s.1.no = false
  · have e : dWrite s lba xs = ((pSpend s.2).1, (if (pSpend s.2).1 = true then s.1.write lba.toNat xs else s.1, (pSpend s.2).2)) := if_pos hc
    rw [e]
    obtain ⟨⟨h0, h32⟩, hxl, hno⟩ := hc
    obtain ⟨lb, rfl⟩ : ∃ k : Nat, lba = k := ⟨lba.toNat, by omega⟩
    have hl : lb < 32 := by omega
    obtain rfl : n = 32 := by rw [← hx.1, hxl]
    replace hx := hx.mono (G' := fun k => ¬ F k ∧ ¬ G k) (fun k _ h => ⟨fun h' => h ((hH k).2 (Or.inl h')), fun h' => h ((hH k).2 (Or.inr h'))⟩)
    refine (hO.write p F G v s.1 s.2 lb c x xs hl hno h100 hq fx bx w h1 h2 hd hx).mono ?_
    rintro e w' ⟨F', G', rfl, hK⟩
    exact ⟨_, rfl, hK.dp hH⟩
  · have e : dWrite s lba xs = (false, s) := if_neg hc
    rw [e]
    refine (hO.writeNo p F v s.1 lba x n c ?_ w h1).mono ?_
    · by_cases h0 : 0 ≤ lba ∧ lba < 32
      · refine Or.inr ?_
        by_cases hn : n = 32
        · refine Or.inr ?_
          cases hno : s.1.no
          · exact absurd ⟨h0, by rw [hx.1, hn], hno⟩ hc
          · rfl
        · exact Or.inl hn
      · exact Or.inl (by omega)
    · rintro e w' ⟨F', rfl, hK⟩
      exact ⟨_, rfl, hK.dp1 hP.base h2 hd hH⟩
theorem pd_barrier {PI : (Nat → Prop) → World → Value → PSt → Prop} {DI : Option Addr → (Nat → Prop) → World → Value → DskSt → Prop} (_hP : PowIs PI) (hO : DskIs PI DI) (p : Option Addr) (H : Nat → Prop) (v : Value) (s : DP) (hb : DBd 100000 s) (w : World) (hI : DPI (DI p) PI p H w v s) :
    Calls Try.prog 14 #[v] w fun e w' => ∃ H', e = .returned (.bool (dBarrier s).1) ∧ KeptG (DPI (DI p) PI p) H w v H' w' (dBarrier s).2 := by
  obtain ⟨F, G, h1, h2, hd, hH⟩ := hI
  have h100 := hb.1
  have hq : s.2.2.2 ≤ 1000000 := by have := hb.2.2; omega
  refine (hO.barrier p F G v s.1 s.2 h100 hq w h1 h2 hd).mono ?_
  rintro e w' ⟨F', G', rfl, hK⟩
  exact ⟨_, rfl, hK.dp hH⟩
theorem pd_crash {PI : (Nat → Prop) → World → Value → PSt → Prop} {DI : Option Addr → (Nat → Prop) → World → Value → DskSt → Prop} (hP : PowIs PI) (hO : DskIs PI DI) (p : Option Addr) (H : Nat → Prop) (v : Value) (s : DP) (x : Option Addr) (m c : Nat) (K : List Bool) (_hb : DBd 100000 s) (fx : Fit x m c) (w : World) (hI : DPI (DI p) PI p H w v s) (hk : KIn (fun k => ¬ H k) w x m K) :
    Calls Try.prog 18 #[v, .slice x m c] w fun e w' => ∃ H', e = .returned (.tuple #[]) ∧ KeptG (DPI (DI p) PI p) H w v H' w' (s.1.crash K, s.2) := by
  obtain ⟨F, G, h1, h2, hd, hH⟩ := hI
  have hk2 : KIn (fun k => ¬ F k) w x m K := hk.mono (fun k _ h h' => h ((hH k).2 (Or.inl h')))
  refine (hO.crash p F v s.1 x m c K fx w h1 hk2).mono ?_
  rintro e w' ⟨F', rfl, hK⟩
  exact ⟨_, rfl, hK.dp1 hP.base h2 hd hH⟩
theorem pd_fuse {PI : (Nat → Prop) → World → Value → PSt → Prop} {DI : Option Addr → (Nat → Prop) → World → Value → DskSt → Prop} (hP : PowIs PI) (hO : DskIs PI DI) (p : Option Addr) (H : Nat → Prop) (v : Value) (s : DP) (n : Int) (hn : n ≤ 9223372036854775807) (w : World) (hI : DPI (DI p) PI p H w v s) :
    Calls Try.prog 21 #[.pointer p, .int .i64 n] w fun e w' => ∃ H', e = .returned (.tuple #[]) ∧ KeptG (DPI (DI p) PI p) H w v H' w' (s.1, pFuse s.2 n) := by
  obtain ⟨F, G, h1, h2, hd, hH⟩ := hI
  refine (hP.fuse G (.pointer p) s.2 n hn w h2).mono ?_
  rintro e w' ⟨G', rfl, hK⟩
  exact ⟨_, rfl, hK.dp2 (hO.base p) h1 hd hH⟩
theorem pd_back {PI : (Nat → Prop) → World → Value → PSt → Prop} {DI : Option Addr → (Nat → Prop) → World → Value → DskSt → Prop} (hP : PowIs PI) (hO : DskIs PI DI) (p : Option Addr) (H : Nat → Prop) (v : Value) (s : DP) (w : World) (hI : DPI (DI p) PI p H w v s) :
    Calls Try.prog 23 #[.pointer p] w fun e w' => ∃ H', e = .returned (.tuple #[]) ∧ KeptG (DPI (DI p) PI p) H w v H' w' (s.1, pBack s.2) := by
  obtain ⟨F, G, h1, h2, hd, hH⟩ := hI
  refine (hP.back G (.pointer p) s.2 w h2).mono ?_
  rintro e w' ⟨G', rfl, hK⟩
  exact ⟨_, rfl, hK.dp2 (hO.base p) h1 hd hH⟩
theorem pd_refuse {PI : (Nat → Prop) → World → Value → PSt → Prop} {DI : Option Addr → (Nat → Prop) → World → Value → DskSt → Prop} (hP : PowIs PI) (hO : DskIs PI DI) (p : Option Addr) (H : Nat → Prop) (v : Value) (s : DP) (b : Bool) (w : World) (hI : DPI (DI p) PI p H w v s) :
    Calls Try.prog 20 #[v, .bool b] w fun e w' => ∃ H', e = .returned (.tuple #[]) ∧ KeptG (DPI (DI p) PI p) H w v H' w' (s.1.refuse b, s.2) := by
  obtain ⟨F, G, h1, h2, hd, hH⟩ := hI
  refine (hO.refuse p F v s.1 b w h1).mono ?_
  rintro e w' ⟨F', rfl, hK⟩
  exact ⟨_, rfl, hK.dp1 hP.base h2 hd hH⟩
theorem pd_steps {PI : (Nat → Prop) → World → Value → PSt → Prop} {DI : Option Addr → (Nat → Prop) → World → Value → DskSt → Prop} (hP : PowIs PI) (_hO : DskIs PI DI) (p : Option Addr) (H : Nat → Prop) (v : Value) (s : DP) (w : World) (hI : DPI (DI p) PI p H w v s) :
    Calls Try.prog 25 #[.pointer p] w fun e w' => e = .returned (.int .i64 (s.2.2.2 : Int)) ∧ Below w.heap.size w w' := by
  obtain ⟨F, G, h1, h2, hd, hH⟩ := hI
  exact hP.steps G (.pointer p) s.2 w h2
theorem pd_trace {PI : (Nat → Prop) → World → Value → PSt → Prop} {DI : Option Addr → (Nat → Prop) → World → Value → DskSt → Prop} (hP : PowIs PI) (hO : DskIs PI DI) (p : Option Addr) (H : Nat → Prop) (v : Value) (s : DP) (hb : DBd 100000 s) (w : World) (hI : DPI (DI p) PI p H w v s) :
    Calls Try.prog 27 #[v] w fun e w' => ∃ z cz H', e = .returned (.slice z s.1.T.length cz) ∧ KeptG (DPI (DI p) PI p) H w v H' w' s ∧ TAt w' z s.1.T.length s.1.T := by
  obtain ⟨F, G, h1, h2, hd, hH⟩ := hI
  refine (hO.trace p F v s.1 hb.1 w h1).mono ?_
  rintro e w' ⟨z, cz, F', rfl, hK, ht, -, -⟩
  exact ⟨z, cz, _, rfl, hK.dp1 hP.base h2 hd hH, ht.mono (fun _ _ _ => trivial)⟩
theorem pd_read {PI : (Nat → Prop) → World → Value → PSt → Prop} {DI : Option Addr → (Nat → Prop) → World → Value → DskSt → Prop} (hP : PowIs PI) (hO : DskIs PI DI) (p : Option Addr) (H : Nat → Prop) (v : Value) (s : DP) (lba : Int) (w : World) (hI : DPI (DI p) PI p H w v s) :
    Calls Try.prog 16 #[v, .int .i64 lba] w fun e w' => ∃ z n cz H', e = .returned (.tuple #[.slice z n cz, .bool (dRead s lba).1]) ∧ KeptG (DPI (DI p) PI p) H w v H' w' s ∧ SIn (NewOf w H') w' z n (dRead s lba).2 := by
  obtain ⟨F, G, h1, h2, hd, hH⟩ := hI
  by_cases hc : (0 ≤ lba ∧ lba < 32) ∧ s.2.1 = true
  · have e : dRead s lba = (true, s.1.cur lba.toNat) := if_pos hc
    rw [e]
    obtain ⟨⟨h0, h32⟩, ho⟩ := hc
    obtain ⟨lb, rfl⟩ : ∃ k : Nat, lba = k := ⟨lba.toNat, by omega⟩
    refine (hO.read p F G v s.1 s.2 lb (by omega) ho w h1 h2 hd).mono ?_
    rintro e w' ⟨z, cz, F', rfl, hK, hs, -, -⟩
    exact ⟨z, 32, cz, _, rfl, hK.dp1 hP.base h2 hd hH, hs.mono (fun k _ h => ⟨h.1, fun h' => h'.elim h.2 (fun hg => by have := hP.base.lt h2 k hg; have := h.1; omega)⟩)⟩
  · have e : dRead s lba = (false, []) := if_neg hc
    rw [e]
    refine (hO.readNo p F G v s.1 s.2 lba ?_ w h1 h2 hd).mono ?_
    · cases ho : s.2.1
      · exact Or.inr rfl
      · exact Or.inl (by have h' : ¬ (0 ≤ lba ∧ lba < 32) := fun h => hc ⟨h, ho⟩; omega)
    · rintro e w' ⟨z, cz, F', rfl, hK⟩
      exact ⟨z, 0, cz, _, rfl, hK.dp1 hP.base h2 hd hH, SIn.none _ _ _⟩
theorem rd_write (p : Option Addr) (H : Nat → Prop) (v : Value) (s : DP) (lba : Int) (x : Option Addr) (n c : Nat) (xs : List Int) (hb : DBd 100000 s) (fx : Fit x n c) (bx : Bytes xs) (w : World) (hI : DPI (RDInv p) RPInv p H w v s) (hx : SIn (fun k => ¬ H k) w x n xs) :
    Calls Try.prog 13 #[v, .int .i64 lba, .slice x n c] w fun e w' => ∃ H', e = .returned (.bool (dWrite s lba xs).1) ∧ KeptG (DPI (RDInv p) RPInv p) H w v H' w' (dWrite s lba xs).2 := by
  obtain ⟨F, G, h1, h2, hd, hH⟩ := hI
  have h100 := hb.1
  have hq : s.2.2.2 ≤ 1000000 := by have := hb.2.2; omega
  have hWt : s.1.Wt.length ≤ 1000000 := by have := hb.2.1; omega
  by_cases hc : (0 ≤ lba ∧ lba < 32) ∧ xs.length = 32 ∧ s.1.no = false
  · have e : dWrite s lba xs = ((pSpend s.2).1, (if (pSpend s.2).1 = true then s.1.write lba.toNat xs else s.1, (pSpend s.2).2)) := if_pos hc
    rw [e]
    obtain ⟨⟨h0, h32⟩, hxl, hno⟩ := hc
    obtain ⟨lb, rfl⟩ : ∃ k : Nat, lba = k := ⟨lba.toNat, by omega⟩
    have hl : lb < 32 := by omega
    obtain rfl : n = 32 := by rw [← hx.1, hxl]
    replace hx := hx.mono (G' := fun k => ¬ F k ∧ ¬ G k) (fun k _ h => ⟨fun h' => h ((hH k).2 (Or.inl h')), fun h' => h ((hH k).2 (Or.inr h'))⟩)
    refine (rdwrite p F G v s.1 s.2 lb c x xs hl hno h100 hWt hq fx bx w h1 h2 hd hx).mono ?_
    rintro e w' ⟨F', G', rfl, hK⟩
    exact ⟨_, rfl, hK.dp hH⟩
  · have e : dWrite s lba xs = (false, s) := if_neg hc
    rw [e]
    refine (rdwriteNo p F v s.1 lba x n c ?_ w h1).mono ?_
    · by_cases h0 : 0 ≤ lba ∧ lba < 32
      · refine Or.inr ?_
        by_cases hn : n = 32
        · refine Or.inr ?_
          cases hno : s.1.no
          · exact absurd ⟨h0, by rw [hx.1, hn], hno⟩ hc
          · rfl
        · exact Or.inl hn
      · exact Or.inl (by omega)
    · rintro e w' ⟨F', rfl, hK⟩
      exact ⟨_, rfl, hK.dp1 rpbase h2 hd hH⟩
theorem rd_barrier (p : Option Addr) (H : Nat → Prop) (v : Value) (s : DP) (hb : DBd 100000 s) (w : World) (hI : DPI (RDInv p) RPInv p H w v s) :
    Calls Try.prog 15 #[v] w fun e w' => ∃ H', e = .returned (.bool (dBarrier s).1) ∧ KeptG (DPI (RDInv p) RPInv p) H w v H' w' (dBarrier s).2 := by
  obtain ⟨F, G, h1, h2, hd, hH⟩ := hI
  have h100 := hb.1
  have hq : s.2.2.2 ≤ 1000000 := by have := hb.2.2; omega
  have hWt : s.1.Wt.length ≤ 1000000 := by have := hb.2.1; omega
  refine (rdbarrier p F G v s.1 s.2 h100 hq hWt w h1 h2 hd).mono ?_
  rintro e w' ⟨F', G', rfl, hK⟩
  exact ⟨_, rfl, hK.dp hH⟩
theorem rd_crash (p : Option Addr) (H : Nat → Prop) (v : Value) (s : DP) (x : Option Addr) (m c : Nat) (K : List Bool) (hb : DBd 100000 s) (_fx : Fit x m c) (w : World) (hI : DPI (RDInv p) RPInv p H w v s) (hk : KIn (fun k => ¬ H k) w x m K) :
    Calls Try.prog 19 #[v, .slice x m c] w fun e w' => ∃ H', e = .returned (.tuple #[]) ∧ KeptG (DPI (RDInv p) RPInv p) H w v H' w' (s.1.crash K, s.2) := by
  obtain ⟨F, G, h1, h2, hd, hH⟩ := hI
  have hWt : s.1.Wt.length ≤ 1000000 := by have := hb.2.1; omega
  have hk2 : KIn (fun k => ¬ F k) w x m K := hk.mono (fun k _ h h' => h ((hH k).2 (Or.inl h')))
  refine (rdcrash p F v s.1 x m c K hWt w h1 hk2).mono ?_
  rintro e w' ⟨F', rfl, hK⟩
  exact ⟨_, rfl, hK.dp1 rpbase h2 hd hH⟩
theorem rd_fuse (p : Option Addr) (H : Nat → Prop) (v : Value) (s : DP) (n : Int) (hn : n ≤ 9223372036854775807) (w : World) (hI : DPI (RDInv p) RPInv p H w v s) :
    Calls Try.prog 22 #[.pointer p, .int .i64 n] w fun e w' => ∃ H', e = .returned (.tuple #[]) ∧ KeptG (DPI (RDInv p) RPInv p) H w v H' w' (s.1, pFuse s.2 n) := by
  obtain ⟨F, G, h1, h2, hd, hH⟩ := hI
  refine (rfuse G (.pointer p) s.2 n hn w h2).mono ?_
  rintro e w' ⟨G', rfl, hK⟩
  exact ⟨_, rfl, hK.dp2 (rdbase p) h1 hd hH⟩
theorem rd_back (p : Option Addr) (H : Nat → Prop) (v : Value) (s : DP) (w : World) (hI : DPI (RDInv p) RPInv p H w v s) :
    Calls Try.prog 24 #[.pointer p] w fun e w' => ∃ H', e = .returned (.tuple #[]) ∧ KeptG (DPI (RDInv p) RPInv p) H w v H' w' (s.1, pBack s.2) := by
  obtain ⟨F, G, h1, h2, hd, hH⟩ := hI
  refine (rback G (.pointer p) s.2 w h2).mono ?_
  rintro e w' ⟨G', rfl, hK⟩
  exact ⟨_, rfl, hK.dp2 (rdbase p) h1 hd hH⟩
theorem rd_read (p : Option Addr) (H : Nat → Prop) (v : Value) (s : DP) (lba : Int) (hb : DBd 100000 s) (w : World) (hI : DPI (RDInv p) RPInv p H w v s) :
    Calls Try.prog 17 #[v, .int .i64 lba] w fun e w' => ∃ z n cz H', e = .returned (.tuple #[.slice z n cz, .bool (dRead s lba).1]) ∧ KeptG (DPI (RDInv p) RPInv p) H w v H' w' s ∧ SIn (NewOf w H') w' z n (dRead s lba).2 := by
  obtain ⟨F, G, h1, h2, hd, hH⟩ := hI
  have hWt : s.1.Wt.length ≤ 1000000 := by have := hb.2.1; omega
  by_cases h0 : 0 ≤ lba ∧ lba < 32
  · obtain ⟨lb, rfl⟩ : ∃ k : Nat, lba = k := ⟨lba.toNat, by omega⟩
    cases ho : s.2.1
    · have e : dRead s (lb : Int) = (false, []) := if_neg (fun h => by rw [ho] at h; cases h.2)
      rw [e]
      refine (rdreadGone p F G v s.1 s.2 lb (by omega) ho w h1 h2).mono ?_
      rintro e w' ⟨F', rfl, hK⟩
      exact ⟨none, 0, 0, _, rfl, hK.dp1 rpbase h2 hd hH, SIn.none _ _ _⟩
    · have e : dRead s (lb : Int) = (true, s.1.cur lb) := if_pos ⟨h0, ho⟩
      rw [e]
      refine (rdread p F G v s.1 s.2 lb (by omega) ho hWt w h1 h2).mono ?_
      rintro e w' ⟨z, cz, F', rfl, hK, hs⟩
      exact ⟨z, 32, cz, _, rfl, hK.dp1 rpbase h2 hd hH, hs.mono (fun k _ h => ⟨h.1, fun h' => h'.elim h.2 (fun hg => by have := rpbase.lt h2 k hg; have := h.1; omega)⟩)⟩
  · have e : dRead s lba = (false, []) := if_neg (fun h => h0 h.1)
    rw [e]
    refine (rdreadOut p F v s.1 lba (by omega) w h1).mono ?_
    rintro e w' ⟨F', rfl, hK⟩
    exact ⟨none, 0, 0, _, rfl, hK.dp1 rpbase h2 hd hH, SIn.none _ _ _⟩
end Go.Proofs.Ytcjmmfgnnebgkaa


/- A slice of bytes that came in, as SAt. -/
namespace Go.Proofs.Ytcjmmfgnnebgkaa
open Go.ChangeShapes Go.WideShapes Go.ChangeAt Go.RowKit
set_option maxRecDepth 20000

theorem view_sat {H : Type} {enc : TypeId × Value → H} {W : World} {base : Nat} {v : Value} {d : DataW H} {p : List MemPlace}
    (hok : Value.okWide Try.prog W .any base 33 v) (h : DataW.Trod enc Try.prog W 0 (fun _ => true) true 33 v d p) (hlt : ∀ x ∈ p, x.block < W.heap.size) :
    ∃ (x : Option Addr) (n c : Nat) (xs : List Int), v = .slice x n c ∧ n ≤ c ∧ c ≤ maxLen ∧ Bytes xs ∧ SAt W x n xs ∧ (x = none → n = 0 ∧ c = 0) := by
  have hv := view_bytes hok h hlt
  obtain ⟨a, n, cap, xs, rfl, hn, hnc, hcm, hx, hat⟩ := hv
  refine ⟨a, n, cap, xs, rfl, hnc, hcm, hx, ⟨hn, fun hl => ?_⟩, fun e => ?_⟩
  · rcases hat with h | ⟨b, off, e, hb, ha⟩
    · omega
    · exact ⟨b, off, e, hb, ha⟩
  · subst e
    obtain ⟨fuel, hf⟩ := h
    rcases open_ints Try.underlying33 Try.underlying5 Try.cells5 hf with ⟨hcs, _⟩ | ⟨a, len', cap', zs, hcs, _⟩
    · simp [Value.cells] at hcs
      exact hcs
    · simp [Value.cells] at hcs
end Go.Proofs.Ytcjmmfgnnebgkaa


/- A slice of structs that came in. -/
namespace Go.Proofs.Ytcjmmfgnnebgkaa
open Go.ChangeShapes Go.WideShapes Go.ChangeAt Go.RowKit Go.Deep
set_option maxRecDepth 20000

theorem view_each {α : Type} [Inhabited α] {T E size : Nat} (hT : Try.prog.underlying T = some (.slice E)) (hE : Try.prog.cellsOf E = size) (h0 : 0 < size) {R : World → List Value → α → Prop} {H : Type} {enc : TypeId × Value → H} {W : World} {base : Nat} {v : Value} {d : DataW H} {p : List MemPlace}
    (each : ∀ (fuel : Nat) (cs : List Value) (e : DataW H × List MemPlace), cs.length = size → DataW.trod enc Try.prog W 0 (fun _ => true) true fuel E cs = some e → (∀ q ∈ e.2, q.block < W.heap.size) → ∃ a, R W cs a)
    (hok : Value.okWide Try.prog W .any base T v) (h : DataW.Trod enc Try.prog W 0 (fun _ => true) true T v d p) (hlt : ∀ x ∈ p, x.block < W.heap.size) :
    ∃ (x : Option Addr) (m c : Nat) (L : List α), v = .slice x m c ∧ (m ≤ c ∧ c ≤ maxLen ∧ (x = none → m = 0 ∧ c = 0)) ∧ RowsAt size R W x m L := by
  obtain ⟨a0, len, cap, rfl⟩ := okWide_slice hT hok
  obtain ⟨fuel, hf⟩ := h
  rcases open_slice hT hf with ⟨hcs, _⟩ | ⟨a, len', cap', m, n, D, Pl, hcs, _, hl, hm, hmm, hx, hel⟩
  · simp [Value.cells] at hcs
    obtain ⟨rfl, rfl, rfl⟩ := hcs
    exact ⟨none, 0, 0, [], rfl, ⟨Nat.le_refl _, Nat.zero_le _, fun _ => ⟨rfl, rfl⟩⟩, rfl, fun h => absurd h (by omega)⟩
  · simp [Value.cells] at hcs
    obtain ⟨rfl, rfl, rfl⟩ := hcs
    simp only [Prod.mk.injEq] at hx
    rw [hE] at hel
    have hlm : len ≤ m := by rw [hmm]; split <;> omega
    have each' : ∀ i, ∃ A : α, i < len → ∃ cs, cs.length = size ∧ (∀ j u, cs[j]? = some u → W.cell? ((a.add (i * size)).add j) = some u) ∧ R W cs A := by
      intro i
      by_cases hi : i < len
      · obtain ⟨cs, hc, ht⟩ := hel i (by omega)
        have hs := World.cells?_some hc
        obtain ⟨A, r⟩ := each _ _ _ hs.2.1 ht (fun q hq => hlt q (by rw [hx.2]; exact List.mem_append_right _ (List.mem_flatMap.2 ⟨i, List.mem_range.2 (by omega), hq⟩)))
        refine ⟨A, fun _ => ⟨cs, hs.2.1, fun j u hj => ?_, r⟩⟩
        have hj10 : j < size := by
          rcases Nat.lt_or_ge j cs.length with h' | h'
          · rw [hs.2.1] at h'; exact h'
          · rw [List.getElem?_eq_none h'] at hj
            cases hj
        have := hs.2.2 j hj10
        rw [this]
        exact hj
      · exact ⟨default, fun h => absurd h hi⟩
    obtain ⟨f, hf2⟩ := Classical.axiomOfChoice each'
    refine ⟨some a, len, cap, (List.range len).map f, rfl, ⟨hl, hm, fun e => by cases e⟩, by simp, fun hn => ?_⟩
    obtain ⟨b, off, spot⟩ := a
    obtain ⟨cs, hcl, hc0, _⟩ := hf2 0 hn
    have hcell0 := hc0 0 cs[0] (List.getElem?_eq_getElem (by omega))
    have hspot : spot = none := by simpa [Addr.add] using World.cell?_spot hcell0
    subst hspot
    refine ⟨b, off, rfl, World.block_lt_of_cell? W _ (by simpa [add_plain'] using hcell0), fun i hi => ?_⟩
    rw [show ((List.range len).map f).getD i default = f i from by simp [hi]]
    obtain ⟨cs, hcl, hc1, r⟩ := hf2 i hi
    refine ⟨cs, hcl, fun j u hj => ?_, r⟩
    have := hc1 j u hj
    rw [add_plain', add_plain'] at this
    exact this
end Go.Proofs.Ytcjmmfgnnebgkaa


/- Slices of bools that came in, row by row. -/
namespace Go.Proofs.Ytcjmmfgnnebgkaa
open Go.ChangeShapes Go.WideShapes Go.ChangeAt Go.RowKit Go.Deep
set_option maxRecDepth 20000

theorem Try.cells4 : Try.prog.cellsOf 4 = 1 := by kernel_rfl
def BoolR (_w : World) (cs : List Value) (a : Bool) : Prop := cs = [.bool a]
theorem bool_cells {H : Type} {enc : TypeId × Value → H} {W : World} (fuel : Nat) (cs : List Value) (e : DataW H × List MemPlace) (hl : cs.length = 1) (h : DataW.trod enc Try.prog W 0 (fun _ => true) true fuel 4 cs = some e) (_hlt : ∀ q ∈ e.2, q.block < W.heap.size) : ∃ a, BoolR W cs a := by
  match cs, hl with
  | [c], _ =>
    obtain ⟨a, e0, _⟩ := DataW.trod_bool Try.underlying4 h
    exact ⟨a, e0⟩
/-- The bool at a place. -/
theorem bool_at {w : World} {x : Option Addr} {m : Nat} {L : List Bool} (h : RowsAt 1 BoolR w x m L) {i : Nat} (hi : i < m) : ∃ b o, x = some ⟨b, o, none⟩ ∧ b < w.heap.size ∧ ∃ k : Bool, w.cell? ⟨b, o + i, none⟩ = some (.bool k) := by
  obtain ⟨_, h⟩ := h
  obtain ⟨b, o, rfl, hb, he⟩ := h (by omega)
  obtain ⟨cs, _, hc, hR⟩ := he i hi
  have := hc 0 _ (by rw [hR]; rfl)
  rw [Nat.mul_one, Nat.add_zero] at this
  exact ⟨b, o, rfl, hb, _, this⟩
end Go.Proofs.Ytcjmmfgnnebgkaa


/- Slices of bools that came in. -/
namespace Go.Proofs.Ytcjmmfgnnebgkaa
open Go.ChangeShapes Go.WideShapes Go.ChangeAt Go.RowKit Go.Deep
set_option maxRecDepth 20000

theorem view_bools {H : Type} {enc : TypeId × Value → H} {W : World} {base : Nat} {v : Value} {d : DataW H} {p : List MemPlace}
    (hok : Value.okWide Try.prog W .any base 34 v) (h : DataW.Trod enc Try.prog W 0 (fun _ => true) true 34 v d p) (hlt : ∀ x ∈ p, x.block < W.heap.size) :
    ∃ (x : Option Addr) (m c : Nat) (K : List Bool), v = .slice x m c ∧ Fit x m c ∧ KIn (fun k => k < W.heap.size) W x m K := by
  obtain ⟨x, m, c, L, e, hf, hl, hr⟩ := view_each (R := BoolR) Try.underlying34 Try.cells4 (by decide) bool_cells hok h hlt
  refine ⟨x, m, c, L, e, hf, hl, fun hm => ?_⟩
  obtain ⟨b, o, ex, hb, hi⟩ := hr hm
  refine ⟨b, o, ex, hb, hb, fun i him => ?_⟩
  obtain ⟨cs, _, hc, hR⟩ := hi i him
  have := hc 0 (.bool (L.getD i default)) (by rw [hR]; rfl)
  rw [Nat.mul_one, Nat.add_zero] at this
  exact this
end Go.Proofs.Ytcjmmfgnnebgkaa


/- A slice of bytes, and one of bools, that came in within a struct. -/
namespace Go.Proofs.Ytcjmmfgnnebgkaa
open Go.ChangeShapes Go.WideShapes Go.ChangeAt Go.RowKit Go.Deep
set_option maxRecDepth 20000

theorem Try.cells33 : Try.prog.cellsOf 33 = 1 := by kernel_rfl
theorem Try.cells34 : Try.prog.cellsOf 34 = 1 := by kernel_rfl
theorem sat_cells {H : Type} {enc : TypeId × Value → H} {W : World} {fuel : Nat} {v : Value} {e : DataW H × List MemPlace} (h : DataW.trod enc Try.prog W 0 (fun _ => true) true fuel 33 [v] = some e) (hlt : ∀ q ∈ e.2, q.block < W.heap.size) :
    ∃ (x : Option Addr) (n c : Nat) (xs : List Int), v = .slice x n c ∧ n ≤ c ∧ c ≤ maxLen ∧ Bytes xs ∧ SAt W x n xs ∧ (x = none → n = 0 ∧ c = 0) := by
  rcases open_ints Try.underlying33 Try.underlying5 Try.cells5 h with ⟨hcs, hx⟩ | ⟨a, len, cap, zs, hcs, _, hl, hm, hz, hx, hcell, hwz⟩
  · simp at hcs
    subst hcs
    exact ⟨none, 0, 0, [], rfl, Nat.le_refl _, Nat.zero_le _, (fun x hx => by cases hx), SAt.none _ _, fun _ => ⟨rfl, rfl⟩⟩
  · simp at hcs
    subst hcs
    subst hx
    simp only [if_true] at hz
    have hlen : (zs.take len).length = len := by rw [List.length_take]; omega
    refine ⟨some a, len, cap, zs.take len, rfl, hl, hm, fun x hx => u8_range (hwz x (List.mem_of_mem_take hx)), ⟨hlen, fun hl0 => ?_⟩, fun e => by cases e⟩
    obtain ⟨b, off, spot⟩ := a
    have hspot : spot = none := by simpa [Addr.add] using World.cell?_spot (hcell 0 (by omega))
    subst hspot
    refine ⟨b, off, rfl, hlt (.cell b off) (MemPlace.mem_row.2 ⟨0, by omega, by simp⟩), fun i hi => ?_⟩
    rw [hlen] at hi
    rw [← add_plain', hcell i (by omega)]
    simp [hi]
theorem kin_cells {H : Type} {enc : TypeId × Value → H} {W : World} {fuel : Nat} {v : Value} {e : DataW H × List MemPlace} (h : DataW.trod enc Try.prog W 0 (fun _ => true) true fuel 34 [v] = some e) (hlt : ∀ q ∈ e.2, q.block < W.heap.size) :
    ∃ (x : Option Addr) (m c : Nat) (K : List Bool), v = .slice x m c ∧ Fit x m c ∧ KIn (fun k => k < W.heap.size) W x m K := by
  rcases open_slice Try.underlying34 h with ⟨hcs, _⟩ | ⟨a, len, cap, m, n, D, Pl, hcs, _, hl, hm, hmm, hx, hel⟩
  · simp at hcs
    subst hcs
    exact ⟨none, 0, 0, [], rfl, ⟨Nat.le_refl _, Nat.zero_le _, fun _ => ⟨rfl, rfl⟩⟩, KIn.none _ _ _⟩
  · simp at hcs
    subst hcs
    subst hx
    rw [Try.cells4] at hel
    have hlm : len ≤ m := by rw [hmm]; split <;> omega
    have each' : ∀ i, ∃ A : Bool, i < len → W.cell? ((a.add i).add 0) = some (.bool A) := by
      intro i
      by_cases hi : i < len
      · obtain ⟨cs, hc, ht⟩ := hel i (by omega)
        have hs := World.cells?_some hc
        obtain ⟨A, hA⟩ := bool_cells _ cs _ hs.2.1 ht (fun q hq => hlt q (List.mem_append_right _ (List.mem_flatMap.2 ⟨i, List.mem_range.2 (by omega), hq⟩)))
        refine ⟨A, fun _ => ?_⟩
        have := hs.2.2 0 (by decide)
        rw [hA] at this
        simpa [Nat.mul_one] using this
      · exact ⟨false, fun h => absurd h hi⟩
    obtain ⟨f, hf2⟩ := Classical.axiomOfChoice each'
    refine ⟨some a, len, cap, (List.range len).map f, rfl, ⟨hl, hm, fun e => by cases e⟩, by simp, fun hn => ?_⟩
    obtain ⟨b, off, spot⟩ := a
    have hcell0 := hf2 0 hn
    have hspot : spot = none := by simpa [Addr.add] using World.cell?_spot hcell0
    subst hspot
    have hb : b < W.heap.size := World.block_lt_of_cell? W _ (by simpa [add_plain'] using hcell0)
    refine ⟨b, off, rfl, hb, hb, fun i hi => ?_⟩
    have := hf2 i hi
    rw [add_plain', add_plain', Nat.add_zero] at this
    rw [this]
    simp [hi]
end Go.Proofs.Ytcjmmfgnnebgkaa
