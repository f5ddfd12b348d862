/- DiskPlays' walk. -/
import Derived.Test.YtcjmmfgnnebgkaaM08
import Derived.Test.YtcjmmfgnnebgkaaDskActs
namespace Go.Proofs.Ytcjmmfgnnebgkaa
open Go.RowKit
set_option maxRecDepth 20000
variable {PI : (Nat → Prop) → World → Value → PSt → Prop} {DI : Option Addr → (Nat → Prop) → World → Value → DskSt → Prop}

theorem DBd.wide {k : Nat} {s : DP} (h : DBd k s) (hk : k < 120) : DBd 100000 s := ⟨by have := h.1; omega, by have := h.2.1; omega, by have := h.2.2; omega⟩
theorem stayA {σ : Type} {I : (Nat → Prop) → World → Value → σ → Prop} {H H' : Nat → Prop} {w w' : World} {v : Value} {s' : σ} (hK : KeptG I H w v H' w' s') {T A : Nat} {cs : Array Value} (aB : CBox T w A cs) (hA : ¬ H A) : CBox T w' A cs ∧ ¬ H' A :=
  ⟨aB.off hK.off hA, fun h => (hK.sub A h).elim hA (fun e => by have := aB.lt; omega)⟩
theorem stepsN {p : Option Addr} {bq : Nat} {H : Nat → Prop} {w : World} {v : Value} {s : DP} (h : DPI (RDInv p) RPInv (some ⟨bq, 0, none⟩) H w v s) : ∃ u : Int, u = (s.2.2.2 : Int) ∧ w.cell? ⟨bq, 3, none⟩ = some (.int .i64 u) ∧ bq < w.heap.size := by
  obtain ⟨F, G, _, ⟨b, e, ⟨f, l, hb, _⟩, _⟩, _, _⟩ := h
  obtain rfl : bq = b := by simpa using e
  exact ⟨_, rfl, CBox.cell hb 3, CBox.lt hb⟩
theorem boxN {p q : Option Addr} {bx : Nat} {H : Nat → Prop} {w : World} {s : DP} (h : DPI (RDInv p) RPInv q H w (.pointer (some ⟨bx, 0, none⟩)) s) : ∃ vW vT, DBox w bx p s.1.B vW vT s.1.no := by
  obtain ⟨F, G, ⟨b, FB, vW, vT, e, h, _⟩, _⟩ := h
  obtain rfl : bx = b := by simpa using e
  exact ⟨vW, vT, h.box⟩
theorem rd_refuse {p q : Option Addr} {bx : Nat} {H : Nat → Prop} {w : World} {s : DP} (u : Bool) (h : DPI (RDInv p) RPInv q H w (.pointer (some ⟨bx, 0, none⟩)) s) : KeptG (DPI (RDInv p) RPInv q) H w (.pointer (some ⟨bx, 0, none⟩)) H (w.setCell ⟨bx, 35, none⟩ (.bool u)) (s.1.refuse u, s.2) := by
  obtain ⟨F, G, ⟨b, FB, vW, vT, e, h, hF⟩, hP, hd, hH⟩ := h
  obtain rfl : bx = b := by simpa using e
  have ho : Off (fun k => k = bx) w (w.setCell ⟨bx, 35, none⟩ (.bool u)) := Off.one _ _ _ _
  have hFb : F bx := (hF bx).2 (Or.inl rfl)
  refine ⟨⟨F, G, ⟨bx, FB, vW, vT, rfl, ⟨h.box.putN u, h.wt.off ho (fun k hk => (h.oW k hk).1) (fun k _ hf e => h.nb (e ▸ hf)), h.tr.off ho (fun k hk => (h.oT k hk).1) (fun k _ hf e => h.nb (e ▸ hf)), ⟨h.wf.n, h.wf.b, h.wf.w⟩, h.bB, h.nb, fun k hk => by simpa using h.lt k hk, h.oW, h.oT, h.oo⟩, hF⟩, rpbase.keep hP ho (fun k hg e => hd k (e ▸ hFb) hg), hd, hH⟩, fun _ h => Or.inl h, ho.mono (fun k hk => Or.inl ((hH k).2 (Or.inl (hk ▸ hFb))))⟩
/-- All that was done, where it stands. -/
theorem traceN {p q : Option Addr} {bx : Nat} {H : Nat → Prop} {w : World} {s : DP} (h : DPI (RDInv p) RPInv q H w (.pointer (some ⟨bx, 0, none⟩)) s) : ∃ y c, w.cell? ⟨bx, 34, none⟩ = some (.slice y s.1.T.length c) ∧ TIn H w y s.1.T.length s.1.T ∧ H bx ∧ bx < w.heap.size := by
  obtain ⟨F, G, ⟨b, FB, vW, vT, e, h, hF⟩, hP, hd, hH⟩ := h
  obtain rfl : bx = b := by simpa using e
  have h34 := h.box.c34
  have hin : ∀ k, ROwn FB bx vW vT k → H k := fun k hk => (hH k).2 (Or.inl ((hF k).2 hk))
  have hoT : ∀ k, vT.ownBlock = some k → H k := fun k hk => hin k (Or.inr (Or.inr (Or.inl hk)))
  have hrow := h.tr
  obtain ⟨y, c, rfl, -, -, -⟩ := hrow.is
  refine ⟨y, c, h34, ⟨rfl, fun hm => ?_⟩, hin bx (Or.inl rfl), h.box.lt⟩
  obtain ⟨g, cap, c0, hv, hgl, -, -, -⟩ := op_cells hrow 0 hm
  simp only [Value.slice.injEq] at hv
  obtain ⟨rfl, -, rfl⟩ := hv
  refine ⟨g, 0, rfl, hgl, hoT g rfl, fun i hi => ?_⟩
  obtain ⟨g', cap', c1, hv', _, hat, hc0, hc1⟩ := op_cells hrow i hi
  simp only [Value.slice.injEq, Option.some.injEq, Addr.mk.injEq] at hv'
  rw [← hv'.1.1] at hc0 hc1
  rw [Nat.zero_add]
  exact ⟨hc0, c1.1, c1.2, hc1, hat.s.mono (fun k _ hk => hin k (Or.inr (Or.inr (Or.inr hk)))), hat.f.1, hat.f.2.1, hat.f.2.2, hat.b⟩
/-- block, as a slice of bytes. -/
theorem bblockA (odd : Bool) (xs : List Int) (x : Option Addr) (n c : Nat) (w : World) (sx : SAt w x n xs) :
    Calls Try.prog 11 #[.slice x n c, .bool odd] w fun e w' => ∃ y l ys, e = .returned (.slice (some ⟨w.heap.size, y, none⟩) l l) ∧ l ≤ 32 ∧ (0 < l) ∧ (Bytes xs → Bytes ys) ∧ ys.length = l ∧ At w' w.heap.size y ys ∧ w.heap.size < w'.heap.size ∧ Below w.heap.size w w' := by
  refine (bblock odd xs x n c w sx).mono ?_
  rintro e w' ⟨rfl, hr, hb⟩
  have hl : (blk (xs.take 32)).length = 32 := blk_len (by rw [List.length_take]; omega)
  cases odd
  · exact ⟨0, 32, _, rfl, by decide, by decide, fun h => blk_bytes (h.take 32), hl, hr.at, hr.lt, hb⟩
  · refine ⟨1, 31, (blk (xs.take 32)).drop 1, rfl, by decide, by decide, fun h => (blk_bytes (h.take 32)).drop 1, by rw [List.length_drop, hl], ?_, hr.lt, hb⟩
    have := hr.at.cut2 1
    rw [Nat.zero_add] at this
    exact this
set_option maxRecDepth 20000 in
set_option maxHeartbeats 8000000 in
theorem dplays (hP : PowIs PI) (hO : DskIs PI DI) (x : Option Addr) (m c : Nat) (L : List DAct) (w : World) (f1 : m ≤ c ∧ c ≤ maxLen ∧ (x = none → m = 0 ∧ c = 0)) (s1 : RowsAt 5 DActR w x m L) :
    Calls Try.prog 3 #[.slice x m c] w fun e w' => e = .returned (.bool true) ∧ Below w.heap.size w w' := by
  go_enter Try.func3, Try.ntmps3
  go_wp2_with fail
  refine (dlong x m c L w s1).mono ?_
  rintro e w0 ⟨he, hb0⟩
  rcases he with rfl | ⟨rfl, hm⟩
  · go_wp2
    go_ret
    exact ⟨rfl, hb0⟩
  have HM := hide' hm
  clear hm
  go_wp2_with fail
  refine (hP.make _).mono ?_
  rintro e w1 ⟨u, G, rfl, hJ, hG, hb⟩
  obtain ⟨p, rfl⟩ := hP.base.ptr hJ
  have hB1 := hb0.trans (hb.mono hb0.size)
  have hGlt := hP.base.lt hJ
  have hz0 := hb0.size
  clear hb hb0
  have hN := CBox.new 28 w1 #[.bool false, .bool false, .int .i64 0, .int .i64 0]
  have hb2 : Below w1.heap.size w1 (w1.alloc (.cells #[.bool false, .bool false, .int .i64 0, .int .i64 0] 28)) := (Below.refl _ _).alloc (Nat.le_refl _) _
  have hQ : RPInv (fun k => k = w1.heap.size) (w1.alloc (.cells #[.bool false, .bool false, .int .i64 0, .int .i64 0] 28)) (.pointer (some ⟨w1.heap.size, 0, none⟩)) (true, none, 0) := ⟨_, rfl, ⟨false, 0, hN, hide' rfl⟩, fun _ => Iff.rfl⟩
  have hs2 : (w1.alloc (.cells #[.bool false, .bool false, .int .i64 0, .int .i64 0] 28)).heap.size = w1.heap.size + 1 := by simp
  replace hJ := hP.base.below hJ hb2
  have hz1 := hB1.size
  replace hB1 := hB1.trans (hb2.mono hB1.size)
  clear hN hb2
  go_wp2_with fail
  generalize w1.heap.size = bq at *
  generalize w1.alloc (.cells #[.bool false, .bool false, .int .i64 0, .int .i64 0] 28) = w2 at *
  refine (hO.make (some p) _).mono ?_
  rintro e w3 ⟨v, F, rfl, hI, hF, hb⟩
  obtain ⟨a, rfl⟩ := (hO.base _).ptr hI
  have hFlt := (hO.base _).lt hI
  replace hJ := hP.base.below hJ hb
  replace hQ := rpbase.below hQ hb
  replace hB1 := hB1.trans (hb.mono hB1.size)
  have hz3 := hb.size
  clear hb
  go_wp2_with fail
  refine (rdmake (some ⟨bq, 0, none⟩) _).mono ?_
  rintro e w4 ⟨v2, F2, rfl, hX, hF2, hb⟩
  obtain ⟨bx, rfl⟩ : ∃ bx, v2 = .pointer (some ⟨bx, 0, none⟩) := by
    obtain ⟨bx, _, _, _, e, _⟩ := hX
    exact ⟨bx, e⟩
  replace hJ := hP.base.below hJ hb
  replace hQ := rpbase.below hQ hb
  replace hI := (hO.base _).below hI hb
  replace hB1 := hB1.trans (hb.mono hB1.size)
  have hIb := dpbase (hO.base (some p)) hP.base (some p)
  have hJb := dpbase (rdbase (some ⟨bq, 0, none⟩)) rpbase (some ⟨bq, 0, none⟩)
  have M : Duo (DPI (DI (some p)) PI (some p)) (DPI (RDInv (some ⟨bq, 0, none⟩)) RPInv (some ⟨bq, 0, none⟩)) w (fun k => F k ∨ G k) (.pointer (some a)) (DskSt.new, (true, none, 0)) (fun k => F2 k ∨ k = bq) (.pointer (some ⟨bx, 0, none⟩)) (DskSt.new, (true, none, 0)) w4 := by
    refine ⟨⟨F, G, hI, hJ, fun k hf hg => by have := hF k hf; have := hGlt k hg; omega, fun _ => Iff.rfl⟩, ⟨F2, fun k => k = bq, hX, hQ, fun k hf hg => by have := hF2 k hf; omega, fun _ => Iff.rfl⟩, ?_, ?_, ?_, hB1⟩
    · rintro k (h | h) (h' | h')
      · have := hFlt k h; have := hF2 k h'; omega
      · have := hF k h; omega
      · have := hGlt k h; have := hF2 k h'; omega
      · have := hGlt k h; omega
    · rintro k (h | h)
      · have := hF k h; omega
      · have := hG k h; omega
    · rintro k (h | h)
      · have := hF2 k h; omega
      · omega
  clear hJ hQ hI hX hF hF2 hFlt hGlt hG hb hB1 hz0 hz1 hz3 hs2
  generalize (fun k => F k ∨ G k) = HP at *
  generalize (fun k => F2 k ∨ k = bq) = HX at *
  go_wp2_with fail
  go_loopw [7] (fun i wr => ∃ (k : Nat) (HP HX : Nat → Prop) (s : DP), k ≤ m ∧ i = .int .i64 (k : Int) ∧ DBd k s ∧ Duo (DPI (DI (some p)) PI (some p)) (DPI (RDInv (some ⟨bq, 0, none⟩)) RPInv (some ⟨bq, 0, none⟩)) w HP (.pointer (some a)) s HX (.pointer (some ⟨bx, 0, none⟩)) s wr) (fun i _ => m - (intOf i).toNat)
  case atStart => exact ⟨0, HP, HX, (DskSt.new, (true, none, 0)), Nat.zero_le _, rfl, ⟨Nat.le_refl _, Nat.le_refl _, Nat.le_refl _⟩, M⟩
  case round =>
    clear M HP HX
    obtain ⟨k, HP, HX, s, hk, rfl, hbd, M⟩ := hrel
    by_cases hlt : k < m
    · have hlt' : (k : Int) < m := by omega
      have h120 : k < 120 := by have := HM.out; omega
      have hw : IntKind.i64.wrap ((k : Int) + 1) = (k : Int) + 1 := by
        rw [IntKind.wrap_i64]
        omega
      obtain ⟨b, o, d, n, dc, kk, mk, kc, ac, rfl, hbl, c0, c1, c2, c3, c4, sd, fd, bd, sk, fk, hnu0⟩ := dact_at s1 hlt
      obtain ⟨kd, of, nu, dat, keep⟩ := ac
      have hnu := hide' hnu0
      clear hnu0
      replace c0 : wr.cell? ⟨b, o + k * 5, none⟩ = some (.int .i64 kd) := (M.hB.cell (p := ⟨b, o + k * 5, none⟩) hbl).trans c0
      replace c1 : wr.cell? ⟨b, o + k * 5 + 1, none⟩ = some (.int .i64 of) := (M.hB.cell (p := ⟨b, o + k * 5 + 1, none⟩) hbl).trans c1
      replace c2 : wr.cell? ⟨b, o + k * 5 + 2, none⟩ = some (.int .i64 nu) := (M.hB.cell (p := ⟨b, o + k * 5 + 2, none⟩) hbl).trans c2
      replace c3 : wr.cell? ⟨b, o + k * 5 + 3, none⟩ = some (.slice d n dc) := (M.hB.cell (p := ⟨b, o + k * 5 + 3, none⟩) hbl).trans c3
      replace c4 : wr.cell? ⟨b, o + k * 5 + 4, none⟩ = some (.slice kk mk kc) := (M.hB.cell (p := ⟨b, o + k * 5 + 4, none⟩) hbl).trans c4
      replace sd : SAt w d n dat := sd
      replace bd : Bytes dat := bd
      replace sk : KIn (fun k => k < w.heap.size) w kk mk keep := sk
      have hnw := M.new hIb hJb
      have hA1 := hnw.1
      have hA2 := hnw.2.1
      have aB := CBox.new 36 wr #[.int .i64 kd, .int .i64 of, .int .i64 nu, .slice d n dc, .slice kk mk kc]
      have hb : Below wr.heap.size wr (wr.alloc (.cells #[.int .i64 kd, .int .i64 of, .int .i64 nu, .slice d n dc, .slice kk mk kc] 36)) := (Below.refl _ _).alloc (Nat.le_refl _) _
      replace M := M.quiet hIb hJb hb
      clear hb hnw
      by_cases hk1 : kd = 1
      · subst hk1
        go_wp2_with fail
        generalize wr.alloc (.cells #[.int .i64 1, .int .i64 of, .int .i64 nu, .slice d n dc, .slice kk mk kc] 36) = wA at *
        generalize wr.heap.size = A at *
        refine (bblockA _ dat d n dc _ (sd.below M.hB)).mono ?_
        rintro e wr ⟨y, l, ys, rfl, hl, hl0, bys0, hyl, hat, hlt9, hb⟩
        have bys := bys0 bd
        clear bys0
        have hnw := M.new hIb hJb
        have sy : SIn (fun k => ¬ HP k ∧ ¬ HX k) wr (some ⟨_, y, none⟩) l ys := ⟨hyl, fun _ => ⟨_, y, rfl, hlt9, ⟨hnw.1, hnw.2.1⟩, hat⟩⟩
        replace M := M.quiet hIb hJb hb
        replace aB := aB.grown hb
        clear hb hat hlt9 hnw
        skip
        go_wp2_with fail
        have hAn : ¬ (HP A ∨ HX A) := fun h => h.elim hA1 hA2
        refine wp_region_held_drew (S := fun w' => Off (fun k => HP k ∨ HX k) wr.drew w') (by kernel_rfl) (Off.refl _ _) (fun hHeld => ?_)
        replace aB : CBox 36 wr.drew A _ := aB
        replace M := M.quiet hIb hJb (Below.refl _ wr).drew
        replace sy := sy.off (F := fun _ => False) (Off.refl _ wr).drew (fun _ _ _ h => h)
        refine takeM 0 57 5 rfl rfl rfl (by kernel_rfl) (by kernel_rfl) (by kernel_rfl) (fun _ _ _ h => h) (by rfl) hHeld rfl ?_
        simp only [List.set_cons_succ, List.set_cons_zero]
        refine takeL 1 58 (v := ?_) rfl rfl (by kernel_rfl) (by kernel_rfl) (by kernel_rfl) (fun _ _ _ h => h) (by rfl) hHeld (fun w hSw => ?_) ?_
        rotate_left 1
        · (try dsimp only at hSw)
          clear hSw
          go_simp
          try with_reducible rfl
        simp only [List.set_cons_succ, List.set_cons_zero]
        refine takeL 2 59 (v := ?_) rfl rfl (by kernel_rfl) (by kernel_rfl) (by kernel_rfl) (fun _ _ _ h => h) (by rfl) hHeld (fun w hSw => ?_) ?_
        rotate_left 1
        · (try dsimp only at hSw)
          have e0_ : _ = some _ := CBox.cell (CBox.off (F := fun k => HP k ∨ HX k) aB hSw hAn) 1
          clear hSw
          go_simp
          try with_reducible rfl
        simp only [List.set_cons_succ, List.set_cons_zero]
        refine takeM 3 60 9 rfl rfl rfl (by kernel_rfl) (by kernel_rfl) (by kernel_rfl) (fun _ _ _ h => h) (by rfl) hHeld rfl ?_
        simp only [List.set_cons_succ, List.set_cons_zero]
        refine takeM 5 62 6 rfl rfl rfl (by kernel_rfl) (by kernel_rfl) (by kernel_rfl) (fun _ _ _ h => h) (by rfl) hHeld rfl ?_
        simp only [List.set_cons_succ, List.set_cons_zero]
        refine takeL 6 63 (v := ?_) rfl rfl (by kernel_rfl) (by kernel_rfl) (by kernel_rfl) (fun _ _ _ h => h) (by rfl) hHeld (fun w hSw => ?_) ?_
        rotate_left 1
        · (try dsimp only at hSw)
          clear hSw
          go_simp
          try with_reducible rfl
        simp only [List.set_cons_succ, List.set_cons_zero]
        refine takeL 7 64 (v := ?_) rfl rfl (by kernel_rfl) (by kernel_rfl) (by kernel_rfl) (fun _ _ _ h => h) (by rfl) hHeld (fun w hSw => ?_) ?_
        rotate_left 1
        · (try dsimp only at hSw)
          have e0_ : _ = some _ := CBox.cell (CBox.off (F := fun k => HP k ∨ HX k) aB hSw hAn) 1
          clear hSw
          go_simp
          try with_reducible rfl
        simp only [List.set_cons_succ, List.set_cons_zero]
        refine takeM 8 65 9 rfl rfl rfl (by kernel_rfl) (by kernel_rfl) (by kernel_rfl) (fun _ _ _ h => h) (by rfl) hHeld rfl ?_
        simp only [List.set_cons_succ, List.set_cons_zero]
        refine onlyL 4 rfl (by kernel_rfl) (by rfl) (fun K hK0 => ?_)
        go_wp2_with fail
        refine (pd_write hP hO (some p) HP _ s of _ l l ys (hbd.wide h120) ⟨Nat.le_refl _, by unfold maxLen; omega, fun e => by cases e⟩ bys _ M.one (sy.mono (fun _ _ h => h.1))).mono ?_
        rintro e w5 ⟨HP2, rfl, hK⟩
        have sy2 := hK.sin sy
        have hoff := hK.off
        have hK9 := hK
        replace M := M.o1 hJb hK
        clear hK sy
        refine hK0.out _ _ (hoff.mono (fun _ h => Or.inl (Or.inl h))) (fun hHeld => ?_)
        clear hK0 K
        refine onlyL 9 rfl (by kernel_rfl) (by rfl) (fun K hK0 => ?_)
        go_wp2_with fail
        refine (rd_write (some ⟨bq, 0, none⟩) HX _ s of _ l l ys (hbd.wide h120) ⟨Nat.le_refl _, by unfold maxLen; omega, fun e => by cases e⟩ bys _ M.two (sy2.mono (fun _ _ h => h.2))).mono ?_
        rintro e wr ⟨HX2, rfl, hK⟩
        have hoff2 := hoff.mono (G := fun k => HP k ∨ HX k) (fun _ h => Or.inl (Or.inl h))
        have hh := hHeld.trans hK.off (fun _ h => Or.inl (Or.inr h))
        replace M := M.o2 hIb hK
        clear hK hHeld hoff hoff2 sy2 hK9
        refine hK0.out _ _ hh (fun hHeld => ?_)
        clear hK0 K hh
        refine takeL 10 67 (v := .bool false) rfl rfl (by kernel_rfl) (by kernel_rfl) (by kernel_rfl) (fun _ _ _ h => h) (by rfl) hHeld (fun w hSw => ?_) ?_
        · clear hSw
          go_simp
        simp only [List.set_cons_succ, List.set_cons_zero]
        refine wpAnyH_done (by kernel_rfl) ?_ _
        clear hHeld aB hA1 hA2 hAn
        have hbd2 : DBd (k + 1) (dWrite s of ys).2 := dWrite_bd hbd of ys
        obtain ⟨s2, hs2⟩ : ∃ t : DP, (dWrite s of ys).2 = t := ⟨_, rfl⟩
        rw [hs2] at M hbd2
        clear hs2 hbd
        obtain ⟨_, rfl, hcq, hcl⟩ := stepsN M.two
        go_wp2_with fail
        refine wp_region_held_drew (S := fun w' => Below wr.heap.size wr w') (by kernel_rfl) (Below.refl _ _).drew (fun hHeld => ?_)
        refine takeM 0 136 3 rfl rfl rfl (by kernel_rfl) (by kernel_rfl) (by kernel_rfl) (fun _ _ _ h => h) (by rfl) hHeld rfl ?_
        simp only [List.set_cons_succ, List.set_cons_zero]
        refine takeM 2 138 4 rfl rfl rfl (by kernel_rfl) (by kernel_rfl) (by kernel_rfl) (fun _ _ _ h => h) (by rfl) hHeld rfl ?_
        simp only [List.set_cons_succ, List.set_cons_zero]
        refine takeL 3 139 (v := ?_) rfl rfl (by kernel_rfl) (by kernel_rfl) (by kernel_rfl) (fun _ _ _ h => h) (by rfl) hHeld (fun w hSw => ?_) ?_
        rotate_left 1
        · (try dsimp only at hSw)
          clear hSw
          go_simp
          try with_reducible rfl
        simp only [List.set_cons_succ, List.set_cons_zero]
        refine takeL 4 140 (v := ?_) rfl rfl (by kernel_rfl) (by kernel_rfl) (by kernel_rfl) (fun _ _ _ h => h) (by rfl) hHeld (fun w hSw => ?_) ?_
        rotate_left 1
        · (try dsimp only at hSw)
          clear hSw
          go_simp
          try with_reducible rfl
        simp only [List.set_cons_succ, List.set_cons_zero]
        refine takeL 5 141 (v := ?_) rfl rfl (by kernel_rfl) (by kernel_rfl) (by kernel_rfl) (fun _ _ _ h => h) (by rfl) hHeld (fun w hSw => ?_) ?_
        rotate_left 1
        · (try dsimp only at hSw)
          have e0_ := (hSw.cell (p := ⟨bq, 3, none⟩) hcl).trans hcq
          clear hSw
          go_simp
          try with_reducible rfl
        simp only [List.set_cons_succ, List.set_cons_zero]
        refine onlyL 1 rfl (by kernel_rfl) (by rfl) (fun K hK => ?_)
        go_wp2_with fail
        refine (pd_steps hP hO (some p) _ _ s2 _ (M.quiet hIb hJb (Below.refl _ _).drew).one).mono ?_
        rintro e wq ⟨rfl, hb⟩
        have hb2 := hHeld.trans (hb.mono hHeld.size)
        replace M := M.quiet hIb hJb hb2
        clear hHeld hb
        refine hK.out _ _ hb2 (fun hHeld => ?_)
        clear hK K hb2
        refine takeL 6 142 (v := .bool false) rfl rfl (by kernel_rfl) (by kernel_rfl) (by kernel_rfl) (fun _ _ _ h => h) (by rfl) hHeld (fun w hSw => ?_) ?_
        · clear hSw
          go_simp
        simp only [List.set_cons_succ, List.set_cons_zero]
        refine wpAnyH_done (by kernel_rfl) ?_ _
        go_wp2
        go_roundw
        case rel => exact ⟨k + 1, _, _, s2, by omega, by go_num, hbd2, M⟩
        case measure => simp [intOf]; omega
      by_cases hk2 : kd = 2
      · subst hk2
        go_wp2_with fail
        generalize wr.alloc (.cells #[.int .i64 2, .int .i64 of, .int .i64 nu, .slice d n dc, .slice kk mk kc] 36) = wA at *
        generalize wr.heap.size = A at *
        refine (pd_barrier hP hO (some p) HP _ s (hbd.wide h120) _ M.one).mono ?_
        rintro e w5 ⟨HP2, rfl, hK⟩
        clear aB hA1 hA2
        replace M := M.o1 hJb hK
        clear hK
        go_wp2_with fail
        refine (rd_barrier (some ⟨bq, 0, none⟩) HX _ s (hbd.wide h120) _ M.two).mono ?_
        rintro e wr ⟨HX2, rfl, hK⟩
        replace M := M.o2 hIb hK
        clear hK
        generalize (dBarrier s).1 = r at *
        have hbd2 : DBd (k + 1) (dBarrier s).2 := dBarrier_bd hbd
        obtain ⟨s2, hs2⟩ : ∃ t : DP, (dBarrier s).2 = t := ⟨_, rfl⟩
        rw [hs2] at M hbd2
        clear hs2 hbd
        obtain ⟨_, rfl, hcq, hcl⟩ := stepsN M.two
        go_wp2_with fail
        refine wp_region_held_drew (S := fun w' => Below wr.heap.size wr w') (by kernel_rfl) (Below.refl _ _).drew (fun hHeld => ?_)
        refine takeM 0 136 3 rfl rfl rfl (by kernel_rfl) (by kernel_rfl) (by kernel_rfl) (fun _ _ _ h => h) (by rfl) hHeld rfl ?_
        simp only [List.set_cons_succ, List.set_cons_zero]
        refine takeM 2 138 4 rfl rfl rfl (by kernel_rfl) (by kernel_rfl) (by kernel_rfl) (fun _ _ _ h => h) (by rfl) hHeld rfl ?_
        simp only [List.set_cons_succ, List.set_cons_zero]
        refine takeL 3 139 (v := ?_) rfl rfl (by kernel_rfl) (by kernel_rfl) (by kernel_rfl) (fun _ _ _ h => h) (by rfl) hHeld (fun w hSw => ?_) ?_
        rotate_left 1
        · (try dsimp only at hSw)
          clear hSw
          go_simp
          try with_reducible rfl
        simp only [List.set_cons_succ, List.set_cons_zero]
        refine takeL 4 140 (v := ?_) rfl rfl (by kernel_rfl) (by kernel_rfl) (by kernel_rfl) (fun _ _ _ h => h) (by rfl) hHeld (fun w hSw => ?_) ?_
        rotate_left 1
        · (try dsimp only at hSw)
          clear hSw
          go_simp
          try with_reducible rfl
        simp only [List.set_cons_succ, List.set_cons_zero]
        refine takeL 5 141 (v := ?_) rfl rfl (by kernel_rfl) (by kernel_rfl) (by kernel_rfl) (fun _ _ _ h => h) (by rfl) hHeld (fun w hSw => ?_) ?_
        rotate_left 1
        · (try dsimp only at hSw)
          have e0_ := (hSw.cell (p := ⟨bq, 3, none⟩) hcl).trans hcq
          clear hSw
          go_simp
          try with_reducible rfl
        simp only [List.set_cons_succ, List.set_cons_zero]
        refine onlyL 1 rfl (by kernel_rfl) (by rfl) (fun K hK => ?_)
        go_wp2_with fail
        refine (pd_steps hP hO (some p) _ _ s2 _ (M.quiet hIb hJb (Below.refl _ _).drew).one).mono ?_
        rintro e wq ⟨rfl, hb⟩
        have hb2 := hHeld.trans (hb.mono hHeld.size)
        replace M := M.quiet hIb hJb hb2
        clear hHeld hb
        refine hK.out _ _ hb2 (fun hHeld => ?_)
        clear hK K hb2
        refine takeL 6 142 (v := .bool false) rfl rfl (by kernel_rfl) (by kernel_rfl) (by kernel_rfl) (fun _ _ _ h => h) (by rfl) hHeld (fun w hSw => ?_) ?_
        · clear hSw
          go_simp
        simp only [List.set_cons_succ, List.set_cons_zero]
        refine wpAnyH_done (by kernel_rfl) ?_ _
        go_wp2
        go_roundw
        case rel => exact ⟨k + 1, _, _, s2, by omega, by go_num, hbd2, M⟩
        case measure => simp [intOf]; omega
      by_cases hk3 : kd = 3
      · subst hk3
        go_wp2_with fail
        generalize wr.alloc (.cells #[.int .i64 3, .int .i64 of, .int .i64 nu, .slice d n dc, .slice kk mk kc] 36) = wA at *
        generalize wr.heap.size = A at *
        refine (pd_read hP hO (some p) HP _ s of _ M.one).mono ?_
        rintro e w5 ⟨z, n1, cz, HP2, rfl, hK, sz⟩
        replace sz : SIn (fun k => ¬ HP2 k ∧ ¬ HX k) w5 z n1 (dRead s of).2 := sz.mono (fun k _ h => ⟨h.2, fun hx => by have := hJb.lt M.two k hx; have := h.1; omega⟩)
        obtain ⟨aB, hA1⟩ := stayA hK aB hA1
        replace M := M.o1 hJb hK
        clear hK
        have q1 : _ = some _ := aB.cell 1
        go_wp2_with fail
        refine (rd_read (some ⟨bq, 0, none⟩) HX _ s of (hbd.wide h120) _ M.two).mono ?_
        rintro e wr ⟨y, n2, cy, HX2, rfl, hK, sy⟩
        clear q1
        replace sz := sz.off hK.off (fun _ _ h => h.2)
        replace M := M.o2 hIb hK
        clear hK aB hA1 hA2
        have e0_ := fun c => sz.sat.conv (c := c)
        have e1_ := fun c => sy.sat.conv (c := c)
        have hss := str_self (dRead s of).2
        generalize (dRead s of).1 = r at *
        generalize (dRead s of).2 = xs at *
        go_wp2_with fail
        clear e0_ e1_ sz sy hss
        have hbd2 : DBd (k + 1) s := hbd.more
        obtain ⟨s2, hs2⟩ : ∃ t : DP, s = t := ⟨_, rfl⟩
        rw [hs2] at M hbd2
        clear hs2 hbd
        obtain ⟨_, rfl, hcq, hcl⟩ := stepsN M.two
        go_wp2_with fail
        refine wp_region_held_drew (S := fun w' => Below wr.heap.size wr w') (by kernel_rfl) (Below.refl _ _).drew (fun hHeld => ?_)
        refine takeM 0 136 3 rfl rfl rfl (by kernel_rfl) (by kernel_rfl) (by kernel_rfl) (fun _ _ _ h => h) (by rfl) hHeld rfl ?_
        simp only [List.set_cons_succ, List.set_cons_zero]
        refine takeM 2 138 4 rfl rfl rfl (by kernel_rfl) (by kernel_rfl) (by kernel_rfl) (fun _ _ _ h => h) (by rfl) hHeld rfl ?_
        simp only [List.set_cons_succ, List.set_cons_zero]
        refine takeL 3 139 (v := ?_) rfl rfl (by kernel_rfl) (by kernel_rfl) (by kernel_rfl) (fun _ _ _ h => h) (by rfl) hHeld (fun w hSw => ?_) ?_
        rotate_left 1
        · (try dsimp only at hSw)
          clear hSw
          go_simp
          try with_reducible rfl
        simp only [List.set_cons_succ, List.set_cons_zero]
        refine takeL 4 140 (v := ?_) rfl rfl (by kernel_rfl) (by kernel_rfl) (by kernel_rfl) (fun _ _ _ h => h) (by rfl) hHeld (fun w hSw => ?_) ?_
        rotate_left 1
        · (try dsimp only at hSw)
          clear hSw
          go_simp
          try with_reducible rfl
        simp only [List.set_cons_succ, List.set_cons_zero]
        refine takeL 5 141 (v := ?_) rfl rfl (by kernel_rfl) (by kernel_rfl) (by kernel_rfl) (fun _ _ _ h => h) (by rfl) hHeld (fun w hSw => ?_) ?_
        rotate_left 1
        · (try dsimp only at hSw)
          have e0_ := (hSw.cell (p := ⟨bq, 3, none⟩) hcl).trans hcq
          clear hSw
          go_simp
          try with_reducible rfl
        simp only [List.set_cons_succ, List.set_cons_zero]
        refine onlyL 1 rfl (by kernel_rfl) (by rfl) (fun K hK => ?_)
        go_wp2_with fail
        refine (pd_steps hP hO (some p) _ _ s2 _ (M.quiet hIb hJb (Below.refl _ _).drew).one).mono ?_
        rintro e wq ⟨rfl, hb⟩
        have hb2 := hHeld.trans (hb.mono hHeld.size)
        replace M := M.quiet hIb hJb hb2
        clear hHeld hb
        refine hK.out _ _ hb2 (fun hHeld => ?_)
        clear hK K hb2
        refine takeL 6 142 (v := .bool false) rfl rfl (by kernel_rfl) (by kernel_rfl) (by kernel_rfl) (fun _ _ _ h => h) (by rfl) hHeld (fun w hSw => ?_) ?_
        · clear hSw
          go_simp
        simp only [List.set_cons_succ, List.set_cons_zero]
        refine wpAnyH_done (by kernel_rfl) ?_ _
        go_wp2
        go_roundw
        case rel => exact ⟨k + 1, _, _, s2, by omega, by go_num, hbd2, M⟩
        case measure => simp [intOf]; omega
      by_cases hk4 : kd = 4
      · subst hk4
        go_wp2_with fail
        generalize wr.alloc (.cells #[.int .i64 4, .int .i64 of, .int .i64 nu, .slice d n dc, .slice kk mk kc] 36) = wA at *
        generalize wr.heap.size = A at *
        refine (pd_crash hP hO (some p) HP _ s kk mk kc keep (hbd.wide h120) fk _ M.one (KIn.arg M sk)).mono ?_
        rintro e w5 ⟨HP2, rfl, hK⟩
        obtain ⟨aB, hA1⟩ := stayA hK aB hA1
        replace M := M.o1 hJb hK
        clear hK
        have q4 : _ = some _ := aB.cell 4
        go_wp2_with fail
        refine (rd_crash (some ⟨bq, 0, none⟩) HX _ s kk mk kc keep (hbd.wide h120) fk _ M.two (KIn.arg M.swap sk)).mono ?_
        rintro e wr ⟨HX2, rfl, hK⟩
        clear q4
        replace M := M.o2 hIb hK
        clear hK aB hA1 hA2
        have hbd2 : DBd (k + 1) (s.1.crash keep, s.2) := hbd.crash keep
        obtain ⟨s2, hs2⟩ : ∃ t : DP, (s.1.crash keep, s.2) = t := ⟨_, rfl⟩
        rw [hs2] at M hbd2
        clear hs2 hbd
        obtain ⟨_, rfl, hcq, hcl⟩ := stepsN M.two
        go_wp2_with fail
        refine wp_region_held_drew (S := fun w' => Below wr.heap.size wr w') (by kernel_rfl) (Below.refl _ _).drew (fun hHeld => ?_)
        refine takeM 0 136 3 rfl rfl rfl (by kernel_rfl) (by kernel_rfl) (by kernel_rfl) (fun _ _ _ h => h) (by rfl) hHeld rfl ?_
        simp only [List.set_cons_succ, List.set_cons_zero]
        refine takeM 2 138 4 rfl rfl rfl (by kernel_rfl) (by kernel_rfl) (by kernel_rfl) (fun _ _ _ h => h) (by rfl) hHeld rfl ?_
        simp only [List.set_cons_succ, List.set_cons_zero]
        refine takeL 3 139 (v := ?_) rfl rfl (by kernel_rfl) (by kernel_rfl) (by kernel_rfl) (fun _ _ _ h => h) (by rfl) hHeld (fun w hSw => ?_) ?_
        rotate_left 1
        · (try dsimp only at hSw)
          clear hSw
          go_simp
          try with_reducible rfl
        simp only [List.set_cons_succ, List.set_cons_zero]
        refine takeL 4 140 (v := ?_) rfl rfl (by kernel_rfl) (by kernel_rfl) (by kernel_rfl) (fun _ _ _ h => h) (by rfl) hHeld (fun w hSw => ?_) ?_
        rotate_left 1
        · (try dsimp only at hSw)
          clear hSw
          go_simp
          try with_reducible rfl
        simp only [List.set_cons_succ, List.set_cons_zero]
        refine takeL 5 141 (v := ?_) rfl rfl (by kernel_rfl) (by kernel_rfl) (by kernel_rfl) (fun _ _ _ h => h) (by rfl) hHeld (fun w hSw => ?_) ?_
        rotate_left 1
        · (try dsimp only at hSw)
          have e0_ := (hSw.cell (p := ⟨bq, 3, none⟩) hcl).trans hcq
          clear hSw
          go_simp
          try with_reducible rfl
        simp only [List.set_cons_succ, List.set_cons_zero]
        refine onlyL 1 rfl (by kernel_rfl) (by rfl) (fun K hK => ?_)
        go_wp2_with fail
        refine (pd_steps hP hO (some p) _ _ s2 _ (M.quiet hIb hJb (Below.refl _ _).drew).one).mono ?_
        rintro e wq ⟨rfl, hb⟩
        have hb2 := hHeld.trans (hb.mono hHeld.size)
        replace M := M.quiet hIb hJb hb2
        clear hHeld hb
        refine hK.out _ _ hb2 (fun hHeld => ?_)
        clear hK K hb2
        refine takeL 6 142 (v := .bool false) rfl rfl (by kernel_rfl) (by kernel_rfl) (by kernel_rfl) (fun _ _ _ h => h) (by rfl) hHeld (fun w hSw => ?_) ?_
        · clear hSw
          go_simp
        simp only [List.set_cons_succ, List.set_cons_zero]
        refine wpAnyH_done (by kernel_rfl) ?_ _
        go_wp2
        go_roundw
        case rel => exact ⟨k + 1, _, _, s2, by omega, by go_num, hbd2, M⟩
        case measure => simp [intOf]; omega
      by_cases hk5 : kd = 5
      · subst hk5
        go_wp2_with fail
        generalize wr.alloc (.cells #[.int .i64 5, .int .i64 of, .int .i64 nu, .slice d n dc, .slice kk mk kc] 36) = wA at *
        generalize wr.heap.size = A at *
        refine (pd_refuse hP hO (some p) HP _ s _ _ M.one).mono ?_
        rintro e wr ⟨HP2, rfl, hK⟩
        obtain ⟨aB, hA1⟩ := stayA hK aB hA1
        replace M := M.o1 hJb hK
        clear hK
        obtain ⟨vW, vT, hx⟩ := boxN M.two
        have q2 : _ = some _ := aB.cell 2
        have f35 := hx.frozen 35
        have g35 := hx.c35
        go_wp2_with fail
        clear q2 f35 g35 hx aB hA1 hA2
        generalize hX9 : (Int.tmod nu 3 == 0) = X at *
        have hK := rd_refuse X M.two
        replace M := M.o2 hIb hK
        clear hK hX9
        generalize wr.setCell ⟨bx, 35, none⟩ (.bool X) = wr at *
        have hbd2 : DBd (k + 1) (s.1.refuse X, s.2) := hbd.more
        obtain ⟨s2, hs2⟩ : ∃ t : DP, (s.1.refuse X, s.2) = t := ⟨_, rfl⟩
        rw [hs2] at M hbd2
        clear hs2 hbd
        obtain ⟨_, rfl, hcq, hcl⟩ := stepsN M.two
        go_wp2_with fail
        refine wp_region_held_drew (S := fun w' => Below wr.heap.size wr w') (by kernel_rfl) (Below.refl _ _).drew (fun hHeld => ?_)
        refine takeM 0 136 3 rfl rfl rfl (by kernel_rfl) (by kernel_rfl) (by kernel_rfl) (fun _ _ _ h => h) (by rfl) hHeld rfl ?_
        simp only [List.set_cons_succ, List.set_cons_zero]
        refine takeM 2 138 4 rfl rfl rfl (by kernel_rfl) (by kernel_rfl) (by kernel_rfl) (fun _ _ _ h => h) (by rfl) hHeld rfl ?_
        simp only [List.set_cons_succ, List.set_cons_zero]
        refine takeL 3 139 (v := ?_) rfl rfl (by kernel_rfl) (by kernel_rfl) (by kernel_rfl) (fun _ _ _ h => h) (by rfl) hHeld (fun w hSw => ?_) ?_
        rotate_left 1
        · (try dsimp only at hSw)
          clear hSw
          go_simp
          try with_reducible rfl
        simp only [List.set_cons_succ, List.set_cons_zero]
        refine takeL 4 140 (v := ?_) rfl rfl (by kernel_rfl) (by kernel_rfl) (by kernel_rfl) (fun _ _ _ h => h) (by rfl) hHeld (fun w hSw => ?_) ?_
        rotate_left 1
        · (try dsimp only at hSw)
          clear hSw
          go_simp
          try with_reducible rfl
        simp only [List.set_cons_succ, List.set_cons_zero]
        refine takeL 5 141 (v := ?_) rfl rfl (by kernel_rfl) (by kernel_rfl) (by kernel_rfl) (fun _ _ _ h => h) (by rfl) hHeld (fun w hSw => ?_) ?_
        rotate_left 1
        · (try dsimp only at hSw)
          have e0_ := (hSw.cell (p := ⟨bq, 3, none⟩) hcl).trans hcq
          clear hSw
          go_simp
          try with_reducible rfl
        simp only [List.set_cons_succ, List.set_cons_zero]
        refine onlyL 1 rfl (by kernel_rfl) (by rfl) (fun K hK => ?_)
        go_wp2_with fail
        refine (pd_steps hP hO (some p) _ _ s2 _ (M.quiet hIb hJb (Below.refl _ _).drew).one).mono ?_
        rintro e wq ⟨rfl, hb⟩
        have hb2 := hHeld.trans (hb.mono hHeld.size)
        replace M := M.quiet hIb hJb hb2
        clear hHeld hb
        refine hK.out _ _ hb2 (fun hHeld => ?_)
        clear hK K hb2
        refine takeL 6 142 (v := .bool false) rfl rfl (by kernel_rfl) (by kernel_rfl) (by kernel_rfl) (fun _ _ _ h => h) (by rfl) hHeld (fun w hSw => ?_) ?_
        · clear hSw
          go_simp
        simp only [List.set_cons_succ, List.set_cons_zero]
        refine wpAnyH_done (by kernel_rfl) ?_ _
        go_wp2
        go_roundw
        case rel => exact ⟨k + 1, _, _, s2, by omega, by go_num, hbd2, M⟩
        case measure => simp [intOf]; omega
      by_cases hk6 : kd = 6
      · subst hk6
        go_wp2_with fail
        generalize wr.alloc (.cells #[.int .i64 6, .int .i64 of, .int .i64 nu, .slice d n dc, .slice kk mk kc] 36) = wA at *
        generalize wr.heap.size = A at *
        refine (pd_fuse hP hO (some p) HP _ s nu hnu.out _ M.one).mono ?_
        rintro e w5 ⟨HP2, rfl, hK⟩
        obtain ⟨aB, hA1⟩ := stayA hK aB hA1
        replace M := M.o1 hJb hK
        clear hK
        have q2 : _ = some _ := aB.cell 2
        go_wp2_with fail
        refine (rd_fuse (some ⟨bq, 0, none⟩) HX _ s nu hnu.out _ M.two).mono ?_
        rintro e wr ⟨HX2, rfl, hK⟩
        clear q2
        replace M := M.o2 hIb hK
        clear hK aB hA1 hA2
        have hbd2 : DBd (k + 1) (s.1, pFuse s.2 nu) := hbd.more
        obtain ⟨s2, hs2⟩ : ∃ t : DP, (s.1, pFuse s.2 nu) = t := ⟨_, rfl⟩
        rw [hs2] at M hbd2
        clear hs2 hbd
        obtain ⟨_, rfl, hcq, hcl⟩ := stepsN M.two
        go_wp2_with fail
        refine wp_region_held_drew (S := fun w' => Below wr.heap.size wr w') (by kernel_rfl) (Below.refl _ _).drew (fun hHeld => ?_)
        refine takeM 0 136 3 rfl rfl rfl (by kernel_rfl) (by kernel_rfl) (by kernel_rfl) (fun _ _ _ h => h) (by rfl) hHeld rfl ?_
        simp only [List.set_cons_succ, List.set_cons_zero]
        refine takeM 2 138 4 rfl rfl rfl (by kernel_rfl) (by kernel_rfl) (by kernel_rfl) (fun _ _ _ h => h) (by rfl) hHeld rfl ?_
        simp only [List.set_cons_succ, List.set_cons_zero]
        refine takeL 3 139 (v := ?_) rfl rfl (by kernel_rfl) (by kernel_rfl) (by kernel_rfl) (fun _ _ _ h => h) (by rfl) hHeld (fun w hSw => ?_) ?_
        rotate_left 1
        · (try dsimp only at hSw)
          clear hSw
          go_simp
          try with_reducible rfl
        simp only [List.set_cons_succ, List.set_cons_zero]
        refine takeL 4 140 (v := ?_) rfl rfl (by kernel_rfl) (by kernel_rfl) (by kernel_rfl) (fun _ _ _ h => h) (by rfl) hHeld (fun w hSw => ?_) ?_
        rotate_left 1
        · (try dsimp only at hSw)
          clear hSw
          go_simp
          try with_reducible rfl
        simp only [List.set_cons_succ, List.set_cons_zero]
        refine takeL 5 141 (v := ?_) rfl rfl (by kernel_rfl) (by kernel_rfl) (by kernel_rfl) (fun _ _ _ h => h) (by rfl) hHeld (fun w hSw => ?_) ?_
        rotate_left 1
        · (try dsimp only at hSw)
          have e0_ := (hSw.cell (p := ⟨bq, 3, none⟩) hcl).trans hcq
          clear hSw
          go_simp
          try with_reducible rfl
        simp only [List.set_cons_succ, List.set_cons_zero]
        refine onlyL 1 rfl (by kernel_rfl) (by rfl) (fun K hK => ?_)
        go_wp2_with fail
        refine (pd_steps hP hO (some p) _ _ s2 _ (M.quiet hIb hJb (Below.refl _ _).drew).one).mono ?_
        rintro e wq ⟨rfl, hb⟩
        have hb2 := hHeld.trans (hb.mono hHeld.size)
        replace M := M.quiet hIb hJb hb2
        clear hHeld hb
        refine hK.out _ _ hb2 (fun hHeld => ?_)
        clear hK K hb2
        refine takeL 6 142 (v := .bool false) rfl rfl (by kernel_rfl) (by kernel_rfl) (by kernel_rfl) (fun _ _ _ h => h) (by rfl) hHeld (fun w hSw => ?_) ?_
        · clear hSw
          go_simp
        simp only [List.set_cons_succ, List.set_cons_zero]
        refine wpAnyH_done (by kernel_rfl) ?_ _
        go_wp2
        go_roundw
        case rel => exact ⟨k + 1, _, _, s2, by omega, by go_num, hbd2, M⟩
        case measure => simp [intOf]; omega
      go_wp2_with fail
      generalize wr.alloc (.cells #[.int .i64 kd, .int .i64 of, .int .i64 nu, .slice d n dc, .slice kk mk kc] 36) = wA at *
      generalize wr.heap.size = A at *
      refine (pd_back hP hO (some p) HP _ s _ M.one).mono ?_
      rintro e w5 ⟨HP2, rfl, hK⟩
      clear aB hA1 hA2
      replace M := M.o1 hJb hK
      clear hK
      go_wp2_with fail
      refine (rd_back (some ⟨bq, 0, none⟩) HX _ s _ M.two).mono ?_
      rintro e wr ⟨HX2, rfl, hK⟩
      replace M := M.o2 hIb hK
      clear hK
      have hbd2 : DBd (k + 1) (s.1, pBack s.2) := hbd.more
      obtain ⟨s2, hs2⟩ : ∃ t : DP, (s.1, pBack s.2) = t := ⟨_, rfl⟩
      rw [hs2] at M hbd2
      clear hs2 hbd
      obtain ⟨_, rfl, hcq, hcl⟩ := stepsN M.two
      go_wp2_with fail
      refine wp_region_held_drew (S := fun w' => Below wr.heap.size wr w') (by kernel_rfl) (Below.refl _ _).drew (fun hHeld => ?_)
      refine takeM 0 136 3 rfl rfl rfl (by kernel_rfl) (by kernel_rfl) (by kernel_rfl) (fun _ _ _ h => h) (by rfl) hHeld rfl ?_
      simp only [List.set_cons_succ, List.set_cons_zero]
      refine takeM 2 138 4 rfl rfl rfl (by kernel_rfl) (by kernel_rfl) (by kernel_rfl) (fun _ _ _ h => h) (by rfl) hHeld rfl ?_
      simp only [List.set_cons_succ, List.set_cons_zero]
      refine takeL 3 139 (v := ?_) rfl rfl (by kernel_rfl) (by kernel_rfl) (by kernel_rfl) (fun _ _ _ h => h) (by rfl) hHeld (fun w hSw => ?_) ?_
      rotate_left 1
      · (try dsimp only at hSw)
        clear hSw
        go_simp
        try with_reducible rfl
      simp only [List.set_cons_succ, List.set_cons_zero]
      refine takeL 4 140 (v := ?_) rfl rfl (by kernel_rfl) (by kernel_rfl) (by kernel_rfl) (fun _ _ _ h => h) (by rfl) hHeld (fun w hSw => ?_) ?_
      rotate_left 1
      · (try dsimp only at hSw)
        clear hSw
        go_simp
        try with_reducible rfl
      simp only [List.set_cons_succ, List.set_cons_zero]
      refine takeL 5 141 (v := ?_) rfl rfl (by kernel_rfl) (by kernel_rfl) (by kernel_rfl) (fun _ _ _ h => h) (by rfl) hHeld (fun w hSw => ?_) ?_
      rotate_left 1
      · (try dsimp only at hSw)
        have e0_ := (hSw.cell (p := ⟨bq, 3, none⟩) hcl).trans hcq
        clear hSw
        go_simp
        try with_reducible rfl
      simp only [List.set_cons_succ, List.set_cons_zero]
      refine onlyL 1 rfl (by kernel_rfl) (by rfl) (fun K hK => ?_)
      go_wp2_with fail
      refine (pd_steps hP hO (some p) _ _ s2 _ (M.quiet hIb hJb (Below.refl _ _).drew).one).mono ?_
      rintro e wq ⟨rfl, hb⟩
      have hb2 := hHeld.trans (hb.mono hHeld.size)
      replace M := M.quiet hIb hJb hb2
      clear hHeld hb
      refine hK.out _ _ hb2 (fun hHeld => ?_)
      clear hK K hb2
      refine takeL 6 142 (v := .bool false) rfl rfl (by kernel_rfl) (by kernel_rfl) (by kernel_rfl) (fun _ _ _ h => h) (by rfl) hHeld (fun w hSw => ?_) ?_
      · clear hSw
        go_simp
      simp only [List.set_cons_succ, List.set_cons_zero]
      refine wpAnyH_done (by kernel_rfl) ?_ _
      go_wp2
      go_roundw
      case rel => exact ⟨k + 1, _, _, s2, by omega, by go_num, hbd2, M⟩
      case measure => simp [intOf]; omega
    · have hlt' : ¬ (k : Int) < m := by omega
      have hkm : k < 120 := by have := HM.out; omega
      go_wp2_with fail
      refine (pd_back hP hO (some p) HP _ s _ M.one).mono ?_
      rintro e w5 ⟨HP2, rfl, hK⟩
      replace M := M.o1 hJb hK
      clear hK
      go_wp2_with fail
      refine (rd_back (some ⟨bq, 0, none⟩) HX _ s _ M.two).mono ?_
      rintro e w6 ⟨HX2, rfl, hK⟩
      replace M := M.o2 hIb hK
      clear hK
      have hbd2 : DBd k (s.1, pBack s.2) := ⟨hbd.1, hbd.2.1, hbd.2.2⟩
      obtain ⟨s2, hs2⟩ : ∃ t : DP, (s.1, pBack s.2) = t := ⟨_, rfl⟩
      rw [hs2] at M hbd2
      clear hs2 hbd
      replace hbd2 := hbd2.wide hkm
      clear hlt hlt' hk hkm
      generalize (k : Int) = k0 at *
      go_wp2_with fail
      go_loopw [14] (fun i wr => ∃ (j : Nat) (HP HX : Nat → Prop), j ≤ 32 ∧ i = .int .i64 (j : Int) ∧ Duo (DPI (DI (some p)) PI (some p)) (DPI (RDInv (some ⟨bq, 0, none⟩)) RPInv (some ⟨bq, 0, none⟩)) w HP (.pointer (some a)) s2 HX (.pointer (some ⟨bx, 0, none⟩)) s2 wr) (fun i _ => 32 - (intOf i).toNat)
      case atStart => exact ⟨0, HP2, HX2, by omega, rfl, M⟩
      case round =>
        clear M HP HX HP2 HX2
        obtain ⟨j, HP, HX, hj, rfl, M⟩ := hrel
        by_cases hlt : j < 32
        · have hlt' : (j : Int) < 32 := by omega
          have hw : IntKind.i64.wrap ((j : Int) + 1) = (j : Int) + 1 := by
            rw [IntKind.wrap_i64]
            omega
          go_wp2_with fail
          refine (pd_read hP hO (some p) HP _ s2 j _ M.one).mono ?_
          rintro e w5 ⟨z, n1, cz, HP2, rfl, hK, sz⟩
          replace sz : SIn (fun k => ¬ HP2 k ∧ ¬ HX k) w5 z n1 (dRead s2 j).2 := sz.mono (fun k _ h => ⟨h.2, fun hx => by have := hJb.lt M.two k hx; have := h.1; omega⟩)
          replace M := M.o1 hJb hK
          clear hK
          go_wp2_with fail
          refine (rd_read (some ⟨bq, 0, none⟩) HX _ s2 j hbd2 _ M.two).mono ?_
          rintro e w6 ⟨y, n2, cy, HX2, rfl, hK, sy⟩
          replace sz := sz.off hK.off (fun _ _ h => h.2)
          replace M := M.o2 hIb hK
          clear hK
          have e0_ := fun c => sz.sat.conv (c := c)
          have e1_ := fun c => sy.sat.conv (c := c)
          have hss := str_self (dRead s2 j).2
          generalize (dRead s2 j).1 = r at *
          generalize (dRead s2 j).2 = xs at *
          go_wp2
          clear e0_ e1_ sz sy hss
          go_roundw
          case rel => exact ⟨j + 1, HP2, HX2, by omega, by go_num, M⟩
          case measure => simp [intOf]; omega
        · have hlt' : ¬ (j : Int) < 32 := by omega
          obtain ⟨yT, cT, h34, hT, hbxH, hbxl⟩ := traceN M.two
          have hnb : ¬ HP bx := fun h => M.dis bx h hbxH
          have hdis := M.dis
          have hL : s2.1.T.length ≤ 1000000 := by have := hbd2.1; omega
          go_wp2_with fail
          refine wp_region_held_drew (S := fun w' => Off (fun k => HP k) wr.drew w') (by kernel_rfl) (Off.refl _ _) (fun hHeld => ?_)
          replace M := M.quiet hIb hJb (Below.refl _ wr).drew
          replace hT := hT.off (F := fun _ => False) (Off.refl _ wr).drew (fun _ _ _ h => h)
          replace h34 : wr.drew.cell? ⟨bx, 34, none⟩ = some (.slice yT s2.1.T.length cT) := h34
          replace hbxl : bx < wr.drew.heap.size := hbxl
          refine takeM 0 172 5 rfl rfl rfl (by kernel_rfl) (by kernel_rfl) (by kernel_rfl) (fun _ _ _ h => h) (by rfl) hHeld rfl ?_
          simp only [List.set_cons_succ, List.set_cons_zero]
          refine takeL 1 173 (v := ?_) rfl rfl (by kernel_rfl) (by kernel_rfl) (by kernel_rfl) (fun _ _ _ h => h) (by rfl) hHeld (fun w hSw => ?_) ?_
          rotate_left 1
          · (try dsimp only at hSw)
            clear hSw
            go_simp
            try with_reducible rfl
          simp only [List.set_cons_succ, List.set_cons_zero]
          refine takeM 2 174 173 rfl rfl rfl (by kernel_rfl) (by kernel_rfl) (by kernel_rfl) (fun _ _ _ h => h) (by rfl) hHeld rfl ?_
          simp only [List.set_cons_succ, List.set_cons_zero]
          refine takeM 3 175 5 rfl rfl rfl (by kernel_rfl) (by kernel_rfl) (by kernel_rfl) (fun _ _ _ h => h) (by rfl) hHeld rfl ?_
          simp only [List.set_cons_succ, List.set_cons_zero]
          refine takeM 5 177 6 rfl rfl rfl (by kernel_rfl) (by kernel_rfl) (by kernel_rfl) (fun _ _ _ h => h) (by rfl) hHeld rfl ?_
          simp only [List.set_cons_succ, List.set_cons_zero]
          refine takeL 6 178 (v := ?_) rfl rfl (by kernel_rfl) (by kernel_rfl) (by kernel_rfl) (fun _ _ _ h => h) (by rfl) hHeld (fun w hSw => ?_) ?_
          rotate_left 1
          · (try dsimp only at hSw)
            clear hSw
            go_simp
            try with_reducible rfl
          simp only [List.set_cons_succ, List.set_cons_zero]
          refine takeL 7 179 (v := ?_) rfl rfl (by kernel_rfl) (by kernel_rfl) (by kernel_rfl) (fun _ _ _ h => h) (by rfl) hHeld (fun w hSw => ?_) ?_
          rotate_left 1
          · (try dsimp only at hSw)
            clear hSw
            go_simp
            try with_reducible rfl
          simp only [List.set_cons_succ, List.set_cons_zero]
          refine takeL 8 180 (v := ?_) rfl rfl (by kernel_rfl) (by kernel_rfl) (by kernel_rfl) (fun _ _ _ h => h) (by rfl) hHeld (fun w hSw => ?_) ?_
          rotate_left 1
          · (try dsimp only at hSw)
            have e0_ := (hSw.cell (p := ⟨bx, 34, none⟩) hbxl hnb).trans h34
            clear hSw
            go_simp
            try with_reducible rfl
          simp only [List.set_cons_succ, List.set_cons_zero]
          refine onlyL 4 rfl (by kernel_rfl) (by rfl) (fun K hK0 => ?_)
          go_wp2_with fail
          refine (pd_trace hP hO (some p) HP _ s2 hbd2 _ M.one).mono ?_
          rintro e w5 ⟨z, cz, HP2, rfl, hK, t1⟩
          have hoff := hK.off
          replace hT := (hT.off hK.off (fun k _ hx hp => hdis k hp hx)).mono (G' := fun _ => True) (fun _ _ _ => trivial)
          replace M := M.o1 hJb hK
          clear hK h34 hHeld
          refine hK0.out _ _ hoff (fun hHeld => ?_)
          clear hK0 K hoff
          refine onlyL 9 rfl (by kernel_rfl) (by rfl) (fun K hK0 => ?_)
          go_wp2_with fail
          refine (rsame s2.1.T z yT s2.1.T.length cz cT hL _ t1 hT).mono ?_
          rintro e w6 ⟨rfl, hb⟩
          replace M := M.quiet hIb hJb hb
          have hh := hHeld.more hb
          clear hHeld hT t1 hb
          refine hK0.out _ _ hh (fun hHeld => ?_)
          clear hK0 K hh
          refine takeL 10 182 (v := ?_) rfl rfl (by kernel_rfl) (by kernel_rfl) (by kernel_rfl) (fun _ _ _ h => h) (by rfl) hHeld (fun w hSw => ?_) ?_
          rotate_left 1
          · (try dsimp only at hSw)
            clear hSw
            go_simp
            try with_reducible rfl
          simp only [List.set_cons_succ, List.set_cons_zero]
          refine takeM 11 183 182 rfl rfl rfl (by kernel_rfl) (by kernel_rfl) (by kernel_rfl) (fun _ _ _ h => h) (by rfl) hHeld rfl ?_
          simp only [List.set_cons_succ, List.set_cons_zero]
          refine onlyL 12 rfl (by kernel_rfl) (by rfl) (fun K hK0 => ?_)
          go_wp2_with fail
          refine (dknown hP hO _).mono ?_
          rintro e w7 ⟨rfl, hb⟩
          replace M := M.quiet hIb hJb hb
          have hh := hHeld.more hb
          clear hHeld hb
          refine hK0.out _ _ hh (fun hHeld => ?_)
          clear hK0 K hh
          refine takeL 13 185 (v := ?_) rfl rfl (by kernel_rfl) (by kernel_rfl) (by kernel_rfl) (fun _ _ _ h => h) (by rfl) hHeld (fun w hSw => ?_) ?_
          rotate_left 1
          · (try dsimp only at hSw)
            clear hSw
            go_simp
            try with_reducible rfl
          simp only [List.set_cons_succ, List.set_cons_zero]
          refine takeA 14 2 185 rfl rfl rfl (by kernel_rfl) (by kernel_rfl) (by kernel_rfl) (fun _ _ _ h => h) (by rfl) hHeld rfl ?_
          simp only [List.set_cons_succ, List.set_cons_zero]
          refine wpAnyH_done (by kernel_rfl) ?_ _
          go_wp2
          go_ret
          exact ⟨rfl, M.hB⟩
end Go.Proofs.Ytcjmmfgnnebgkaa
