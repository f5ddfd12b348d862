/- LockTwice's walk. -/
import Derived.Test.YtkkehbebaokdmaaM12
import Derived.Test.YtkkehbebaokdmaaM02
namespace Go.Proofs.Ytkkehbebaokdmaa
open Go.RowKit
set_option maxRecDepth 20000
variable {Inv : (Nat → Prop) → World → Value → LSt → Prop}

/-- Two locks, apart. -/
structure Duo (Inv : (Nat → Prop) → World → Value → LSt → Prop) (B : Nat) (F G : Nat → Prop) (w : World) (x y : Value) (sx sy : LSt) : Prop where
  ix : Inv F w x sx
  iy : Inv G w y sy
  fx : ∀ k, F k → B ≤ k
  gy : ∀ k, G k → B ≤ k
  dis : ∀ k, F k → ¬ G k
  size : B ≤ w.heap.size
theorem Duo.callX {B : Nat} {F G F' : Nat → Prop} {w w' : World} {x y : Value} {sx sy sx' : LSt} (hO : LockIs Inv) (h : Duo Inv B F G w x y sx sy) (hK : KeptL Inv F w x F' w' sx') : Duo Inv B F' G w' x y sx' sy :=
  ⟨hK.inv, hO.keep h.iy hK.off (fun k hg hf => h.dis k hf hg), fun k hk => (hK.sub k hk).elim (h.fx k) (fun e => Nat.le_trans h.size e), h.gy, fun k hk hg => (hK.sub k hk).elim (fun hf => h.dis k hf hg) (fun e => absurd (hO.lt h.iy k hg) (Nat.not_lt.2 e)), Nat.le_trans h.size hK.off.size⟩
theorem Duo.callY {B : Nat} {F G G' : Nat → Prop} {w w' : World} {x y : Value} {sx sy sy' : LSt} (hO : LockIs Inv) (h : Duo Inv B F G w x y sx sy) (hK : KeptL Inv G w y G' w' sy') : Duo Inv B F G' w' x y sx sy' :=
  ⟨hO.keep h.ix hK.off (fun k hf hg => h.dis k hf hg), hK.inv, h.fx, fun k hk => (hK.sub k hk).elim (h.gy k) (fun e => Nat.le_trans h.size e), fun k hf hk => (hK.sub k hk).elim (h.dis k hf) (fun e => absurd (hO.lt h.ix k hf) (Nat.not_lt.2 e)), Nat.le_trans h.size hK.off.size⟩
theorem Duo.below {B : Nat} {F G : Nat → Prop} {w w' : World} {x y : Value} {sx sy : LSt} (hO : LockIs Inv) (h : Duo Inv B F G w x y sx sy) (hb : Below w.heap.size w w') : Duo Inv B F G w' x y sx sy :=
  ⟨hO.below h.ix hb, hO.below h.iy hb, h.fx, h.gy, h.dis, Nat.le_trans h.size hb.size⟩
theorem two_iff (a b : BitVec 64 × BitVec 64) (n m : Nn) (xs ys zs us : List Int) : Two [⟨a, n, xs, ys⟩, ⟨b, m, zs, us⟩] ↔ a = b ∧ n = m := by
  constructor
  · rintro ⟨i, k, h1, h2, h3, h4⟩
    simp only [List.length_cons, List.length_nil] at h2
    obtain rfl : i = 1 := by omega
    obtain rfl : k = 0 := by omega
    exact ⟨h3.symm, h4.symm⟩
  · rintro ⟨rfl, rfl⟩
    exact ⟨1, 0, by decide, by simp, rfl, rfl⟩
theorem lissued_at (hO : LockIs Inv) (F : Nat → Prop) (v : Value) (st : LSt) {l : Nat} (hl : st.iss.length = l) (hL : l ≤ 10000) (w : World) (hI : Inv F w v st) :
    Calls Try.prog 18 #[v] w fun e w' => ∃ z cz F', e = .returned (.slice z l cz) ∧ KeptL Inv F w v F' w' st := by
  subst hl
  exact (hO.issued F v st hL w hI).mono (fun _ _ ⟨z, cz, F', h1, h2, _⟩ => ⟨z, cz, F', h1, h2⟩)
set_option maxRecDepth 20000 in
set_option maxHeartbeats 8000000 in
theorem ltwice (hO : LockIs Inv) (a b : BitVec 64 × BitVec 64) (n m : Nn) (w : World) :
    Calls Try.prog 5 #[.agg #[.int .u64 (nv a.1), .int .u64 (nv a.2)], .agg #[.int .u64 (nv b.1), .int .u64 (nv b.2)], .agg #[.int .u32 (nv32 n.1), .int .u32 (nv32 n.2.1), .int .u64 (nv n.2.2)], .agg #[.int .u32 (nv32 m.1), .int .u32 (nv32 m.2.1), .int .u64 (nv m.2.2)]] w fun e w' => e = .returned (.bool true) ∧ Below w.heap.size w w' := by
  have bA := (((Box.new w (nv a.1) (nv a.2)).alloc (.cells #[.int .u64 (nv b.1), .int .u64 (nv b.2)] 30)).alloc (.cells #[.int .u32 (nv32 n.1), .int .u32 (nv32 n.2.1), .int .u64 (nv n.2.2)] 35)).alloc (.cells #[.int .u32 (nv32 m.1), .int .u32 (nv32 m.2.1), .int .u64 (nv m.2.2)] 35)
  have bB := ((Box.new (w.alloc (.cells #[.int .u64 (nv a.1), .int .u64 (nv a.2)] 30)) (nv b.1) (nv b.2)).alloc (.cells #[.int .u32 (nv32 n.1), .int .u32 (nv32 n.2.1), .int .u64 (nv n.2.2)] 35)).alloc (.cells #[.int .u32 (nv32 m.1), .int .u32 (nv32 m.2.1), .int .u64 (nv m.2.2)] 35)
  have bN := (NBox.new ((w.alloc (.cells #[.int .u64 (nv a.1), .int .u64 (nv a.2)] 30)).alloc (.cells #[.int .u64 (nv b.1), .int .u64 (nv b.2)] 30)) n).alloc (.cells #[.int .u32 (nv32 m.1), .int .u32 (nv32 m.2.1), .int .u64 (nv m.2.2)] 35)
  have bM := NBox.new (((w.alloc (.cells #[.int .u64 (nv a.1), .int .u64 (nv a.2)] 30)).alloc (.cells #[.int .u64 (nv b.1), .int .u64 (nv b.2)] 30)).alloc (.cells #[.int .u32 (nv32 n.1), .int .u32 (nv32 n.2.1), .int .u64 (nv n.2.2)] 35)) m
  have hB : Below w.heap.size w ((((w.alloc (.cells #[.int .u64 (nv a.1), .int .u64 (nv a.2)] 30)).alloc (.cells #[.int .u64 (nv b.1), .int .u64 (nv b.2)] 30)).alloc (.cells #[.int .u32 (nv32 n.1), .int .u32 (nv32 n.2.1), .int .u64 (nv n.2.2)] 35)).alloc (.cells #[.int .u32 (nv32 m.1), .int .u32 (nv32 m.2.1), .int .u64 (nv m.2.2)] 35)) := by go_grown
  have kc := fun (w : World) (C : Array Value) (n c : Nat) => Lib.run_convert_bytes_const (P := Try.prog) w 27 5 C n c Try.underlying27 Try.underlying5
  simp only [World.size_alloc] at bB bN bM
  go_enter Try.func5, Try.ntmps5
  go_wp2_with fail
  generalize ((((w.alloc (.cells #[.int .u64 (nv a.1), .int .u64 (nv a.2)] 30)).alloc (.cells #[.int .u64 (nv b.1), .int .u64 (nv b.2)] 30)).alloc (.cells #[.int .u32 (nv32 n.1), .int .u32 (nv32 n.2.1), .int .u64 (nv n.2.2)] 35)).alloc (.cells #[.int .u32 (nv32 m.1), .int .u32 (nv32 m.2.1), .int .u64 (nv m.2.2)] 35)) = W0 at *
  have hbm := bM.lt
  refine (hO.ideal _).mono ?_
  rintro e w1 ⟨x, F, rfl, hIx, hF, hb⟩
  go_wp2_with fail
  refine (hO.real _).mono ?_
  rintro e w2 ⟨y, G, rfl, hIy, hG, hc⟩
  have hlt := hO.lt hIx
  have D : Duo Inv W0.heap.size F G w2 x y ⟨true, [], []⟩ ⟨false, [], []⟩ := ⟨hO.below hIx hc, hIy, hF, fun k hk => Nat.le_trans hb.size (hG k hk), fun k h1 h2 => by have := hlt k h1; have := hG k h2; omega, Nat.le_trans hb.size hc.size⟩
  replace hb := hb.trans (hc.mono hb.size)
  obtain ⟨ax, rfl⟩ := hO.ptr D.ix
  obtain ⟨ay, rfl⟩ := hO.ptr D.iy
  clear hIx hIy hF hG hc hlt
  have hc : Below w2.heap.size w2 (w2.alloc (.cells #[.int .u8 112] 5 (1, 2))) := (Below.refl _ _).alloc (Nat.le_refl _) _
  have sl := lit1 w2 (hO.lt D.ix) 112
  replace D := D.below hO hc
  have bA' : Box w2 w.heap.size (nv a.1) (nv a.2) := (hb.block _ bA.lt).trans bA
  have bN' : NBox w2 (w.heap.size + 1 + 1) n := (hb.block _ bN.lt).trans bN
  replace hb := hb.trans (hc.mono hb.size)
  clear hc
  have k0 := bA'.c0
  have k1 := bA'.c1
  have k2 := bN'.c0
  have k3 := bN'.c1
  have k4 := bN'.c2
  go_wp2_with fail
  clear k0 k1 k2 k3 k4 bA' bN'
  refine (lseal_at hO _ _ ⟨true, [], []⟩ a n rfl rfl rfl rfl rfl [] [112] none (some ⟨w2.heap.size, 0, none⟩) 0 1 0 1 (by decide) (by decide) (by simp) bytes_none (bytes_one 112 (by decide)) fit_none (fit1 _) _ D.ix (SIn.none _ _ _) sl).mono ?_
  rintro e w3 ⟨z, cz, F', rfl, hK, -, -⟩
  have hb0 := hb.size
  replace hb := hb.trans (hK.off.below D.fx hb.size)
  replace D := D.callX hO hK
  clear hK hb0 sl
  have e1 : LSt.sealS ⟨true, [], []⟩ ⟨a, n, [], [112]⟩ = ⟨true, [⟨a, n, [], [112]⟩], []⟩ := rfl
  rw [e1] at D
  clear e1
  have hc : Below w3.heap.size w3 (w3.alloc (.cells #[.int .u8 113] 5 (1, 2))) := (Below.refl _ _).alloc (Nat.le_refl _) _
  have sl := lit1 w3 (hO.lt D.ix) 113
  replace D := D.below hO hc
  have bB' : Box w3 (w.heap.size + 1) (nv b.1) (nv b.2) := (hb.block _ bB.lt).trans bB
  have bM' : NBox w3 (w.heap.size + 1 + 1 + 1) m := (hb.block _ bM.lt).trans bM
  replace hb := hb.trans (hc.mono hb.size)
  clear hc
  have k0 := bB'.c0
  have k1 := bB'.c1
  have k2 := bM'.c0
  have k3 := bM'.c1
  have k4 := bM'.c2
  go_wp2_with fail
  clear k0 k1 k2 k3 k4 bB' bM'
  refine (lseal_at hO _ _ ⟨true, [⟨a, n, [], [112]⟩], []⟩ b m rfl rfl rfl rfl rfl [] [113] none (some ⟨w3.heap.size, 0, none⟩) 0 1 0 1 (by decide) (by decide) (by simp) bytes_none (bytes_one 113 (by decide)) fit_none (fit1 _) _ D.ix (SIn.none _ _ _) sl).mono ?_
  rintro e w4 ⟨z, cz, F', rfl, hK, -, -⟩
  have hb0 := hb.size
  replace hb := hb.trans (hK.off.below D.fx hb.size)
  replace D := D.callX hO hK
  clear hK hb0 sl
  have e1 : LSt.sealS ⟨true, [⟨a, n, [], [112]⟩], []⟩ ⟨b, m, [], [113]⟩ = ⟨true, [⟨a, n, [], [112]⟩, ⟨b, m, [], [113]⟩], []⟩ := rfl
  rw [e1] at D
  clear e1
  have hc : Below w4.heap.size w4 (w4.alloc (.cells #[.int .u8 112] 5 (1, 2))) := (Below.refl _ _).alloc (Nat.le_refl _) _
  have sl := lit1 w4 (hO.lt D.iy) 112
  replace D := D.below hO hc
  have bA' : Box w4 w.heap.size (nv a.1) (nv a.2) := (hb.block _ bA.lt).trans bA
  have bN' : NBox w4 (w.heap.size + 1 + 1) n := (hb.block _ bN.lt).trans bN
  replace hb := hb.trans (hc.mono hb.size)
  clear hc
  have k0 := bA'.c0
  have k1 := bA'.c1
  have k2 := bN'.c0
  have k3 := bN'.c1
  have k4 := bN'.c2
  go_wp2_with fail
  clear k0 k1 k2 k3 k4 bA' bN'
  refine (lseal_at hO _ _ ⟨false, [], []⟩ a n rfl rfl rfl rfl rfl [] [112] none (some ⟨w4.heap.size, 0, none⟩) 0 1 0 1 (by decide) (by decide) (by simp) bytes_none (bytes_one 112 (by decide)) fit_none (fit1 _) _ D.iy (SIn.none _ _ _) sl).mono ?_
  rintro e w5 ⟨z, cz, G', rfl, hK, -, -⟩
  have hb0 := hb.size
  replace hb := hb.trans (hK.off.below D.gy hb.size)
  replace D := D.callY hO hK
  clear hK hb0 sl
  rw [LSt.sealS_real rfl] at D
  have hc : Below w5.heap.size w5 (w5.alloc (.cells #[.int .u8 113] 5 (1, 2))) := (Below.refl _ _).alloc (Nat.le_refl _) _
  have sl := lit1 w5 (hO.lt D.iy) 113
  replace D := D.below hO hc
  have bA' : Box w5 w.heap.size (nv a.1) (nv a.2) := (hb.block _ bA.lt).trans bA
  have bN' : NBox w5 (w.heap.size + 1 + 1) n := (hb.block _ bN.lt).trans bN
  replace hb := hb.trans (hc.mono hb.size)
  clear hc
  have k0 := bA'.c0
  have k1 := bA'.c1
  have k2 := bN'.c0
  have k3 := bN'.c1
  have k4 := bN'.c2
  go_wp2_with fail
  clear k0 k1 k2 k3 k4 bA' bN'
  refine (lseal_at hO _ _ ⟨false, [], []⟩ a n rfl rfl rfl rfl rfl [] [113] none (some ⟨w5.heap.size, 0, none⟩) 0 1 0 1 (by decide) (by decide) (by simp) bytes_none (bytes_one 113 (by decide)) fit_none (fit1 _) _ D.iy (SIn.none _ _ _) sl).mono ?_
  rintro e w6 ⟨z, cz, G', rfl, hK, -, -⟩
  have hb0 := hb.size
  replace hb := hb.trans (hK.off.below D.gy hb.size)
  replace D := D.callY hO hK
  clear hK hb0 sl
  rw [LSt.sealS_real rfl] at D
  have bA' : Box w6 w.heap.size (nv a.1) (nv a.2) := (hb.block _ bA.lt).trans bA
  have bB' : Box w6 (w.heap.size + 1) (nv b.1) (nv b.2) := (hb.block _ bB.lt).trans bB
  have bN' : NBox w6 (w.heap.size + 1 + 1) n := (hb.block _ bN.lt).trans bN
  have bM' : NBox w6 (w.heap.size + 1 + 1 + 1) m := (hb.block _ bM.lt).trans bM
  clear kc
  obtain ⟨FX, GY, D⟩ : ∃ FX GY, Duo Inv W0.heap.size FX GY w6 (.pointer (some ax)) (.pointer (some ay)) ⟨true, [⟨a, n, [], [112]⟩, ⟨b, m, [], [113]⟩], []⟩ ⟨false, [], []⟩ := ⟨_, _, D⟩
  have D0 := D
  have hFc : ∀ k, FX k → FX k ∨ w6.heap.size ≤ k := fun _ h => Or.inl h
  have hGc : ∀ k, GY k → GY k ∨ w6.heap.size ≤ k := fun _ h => Or.inl h
  go_wp2_with fail
  by_cases hab : a = b
  · have heqp : ∀ w, (Op.equalIn 10000 30 (.agg #[.int .u64 (nv a.1), .int .u64 (nv a.2)]) (.agg #[.int .u64 (nv b.1), .int .u64 (nv b.2)])).run Try.prog w = .ok true w := fun w => by rw [eq32, pair_eq_of]; simp [hab]
    have HAB := hide' hab
    clear hab
    by_cases hnm : n = m
    · have heqn : ∀ w, (Op.equalIn 10000 35 (.agg #[.int .u32 (nv32 n.1), .int .u32 (nv32 n.2.1), .int .u64 (nv n.2.2)]) (.agg #[.int .u32 (nv32 m.1), .int .u32 (nv32 m.2.1), .int .u64 (nv m.2.2)])).run Try.prog w = .ok true w := fun w => by rw [eqN, non_eq_of]; simp [hnm]
      have HNM := hide' hnm
      clear hnm
      refine wp_region_held_drew (S := fun w' => Off (fun k => FX k ∨ GY k) w6 w') (by kernel_rfl) (Off.refl _ _).drew (fun hHeld => ?_)
      refine takeM 0 43 9 rfl rfl rfl (by kernel_rfl) (by kernel_rfl) (by kernel_rfl) (fun _ _ _ h => h) (by rfl) hHeld rfl ?_
      simp only [List.set_cons_succ, List.set_cons_zero]
      refine takeL 2 45 (v := ?_) rfl rfl (by kernel_rfl) (by kernel_rfl) (by kernel_rfl) (fun _ _ _ h => h) (by rfl) hHeld (fun wz hSw => ?_) ?_
      rotate_left 1
      · (try dsimp only at hSw)
        have hx_ : Box wz w.heap.size (nv a.1) (nv a.2) := off_block bA' hSw (fun h => h.elim (fun h => by have := D0.fx _ h; omega) (fun h => by have := D0.gy _ h; omega))
        have e0_ := hx_.c0
        have e1_ := hx_.c1
        clear hx_
        clear hSw
        go_simp
        try with_reducible rfl
      simp only [List.set_cons_succ, List.set_cons_zero]
      refine takeL 3 46 (v := ?_) rfl rfl (by kernel_rfl) (by kernel_rfl) (by kernel_rfl) (fun _ _ _ h => h) (by rfl) hHeld (fun wz hSw => ?_) ?_
      rotate_left 1
      · (try dsimp only at hSw)
        have hx_ : Box wz (w.heap.size + 1) (nv b.1) (nv b.2) := off_block bB' hSw (fun h => h.elim (fun h => by have := D0.fx _ h; omega) (fun h => by have := D0.gy _ h; omega))
        have e0_ := hx_.c0
        have e1_ := hx_.c1
        clear hx_
        clear hSw
        go_simp
        try with_reducible rfl
      simp only [List.set_cons_succ, List.set_cons_zero]
      refine takeL 4 47 (v := ?_) rfl rfl (by kernel_rfl) (by kernel_rfl) (by kernel_rfl) (fun _ _ _ h => h) (by rfl) hHeld (fun wz hSw => ?_) ?_
      rotate_left 1
      · (try dsimp only at hSw)
        clear hSw
        go_simp
        try with_reducible rfl
      simp only [List.set_cons_succ, List.set_cons_zero]
      have hof := hHeld
      replace D := D.below hO (Below.refl _ _).drew
      refine onlyL 1 rfl (by kernel_rfl) (by rfl) (fun K hK => ?_)
      go_wp2_with fail
      refine (hO.twice FX _ ⟨true, [⟨a, n, [], [112]⟩, ⟨b, m, [], [113]⟩], []⟩ true (by simp) ⟨fun _ => (two_iff _ _ _ _ _ _ _ _).2 ⟨HAB.out, HNM.out⟩, fun _ => rfl⟩ _ D.ix).mono ?_
      rintro e w7 ⟨F1, rfl, hKc⟩
      have hof2 := hof.trans hKc.off (fun k h => (hFc k h).imp Or.inl id)
      replace hFc := fun k h => (hKc.sub k h).elim (hFc k) (fun e => Or.inr (Nat.le_trans hof.size e))
      replace D := D.callX hO hKc
      refine hK.out _ _ hof2 (fun _ => ?_)
      clear hK K hHeld hKc hof
      have hof := hof2
      have hHeld := hof
      clear hof2
      refine takeM 5 48 47 rfl rfl rfl (by kernel_rfl) (by kernel_rfl) (by kernel_rfl) (fun _ _ _ h => h) (by rfl) hHeld rfl ?_
      simp only [List.set_cons_succ, List.set_cons_zero]
      refine takeL 6 49 (v := ?_) rfl rfl (by kernel_rfl) (by kernel_rfl) (by kernel_rfl) (fun _ _ _ h => h) (by rfl) hHeld (fun wz hSw => ?_) ?_
      rotate_left 1
      · (try dsimp only at hSw)
        have hx_ : NBox wz (w.heap.size + 1 + 1) n := off_block bN' hSw (fun h => h.elim (fun h => by have := D0.fx _ h; omega) (fun h => by have := D0.gy _ h; omega))
        have e0_ := hx_.c0
        have e1_ := hx_.c1
        have e2_ := hx_.c2
        clear hx_
        clear hSw
        go_simp
        try with_reducible rfl
      simp only [List.set_cons_succ, List.set_cons_zero]
      refine takeL 7 50 (v := ?_) rfl rfl (by kernel_rfl) (by kernel_rfl) (by kernel_rfl) (fun _ _ _ h => h) (by rfl) hHeld (fun wz hSw => ?_) ?_
      rotate_left 1
      · (try dsimp only at hSw)
        have hx_ : NBox wz (w.heap.size + 1 + 1 + 1) m := off_block bM' hSw (fun h => h.elim (fun h => by have := D0.fx _ h; omega) (fun h => by have := D0.gy _ h; omega))
        have e0_ := hx_.c0
        have e1_ := hx_.c1
        have e2_ := hx_.c2
        clear hx_
        clear hSw
        go_simp
        try with_reducible rfl
      simp only [List.set_cons_succ, List.set_cons_zero]
      refine takeL 8 51 (v := ?_) rfl rfl (by kernel_rfl) (by kernel_rfl) (by kernel_rfl) (fun _ _ _ h => h) (by rfl) hHeld (fun wz hSw => ?_) ?_
      rotate_left 1
      · (try dsimp only at hSw)
        clear hSw
        go_simp
        try with_reducible rfl
      simp only [List.set_cons_succ, List.set_cons_zero]
      refine takeL 9 52 (v := ?_) rfl rfl (by kernel_rfl) (by kernel_rfl) (by kernel_rfl) (fun _ _ _ h => h) (by rfl) hHeld (fun wz hSw => ?_) ?_
      rotate_left 1
      · (try dsimp only at hSw)
        clear hSw
        go_simp
        try with_reducible rfl
      simp only [List.set_cons_succ, List.set_cons_zero]
      refine takeL 10 53 (v := ?_) rfl rfl (by kernel_rfl) (by kernel_rfl) (by kernel_rfl) (fun _ _ _ h => h) (by rfl) hHeld (fun wz hSw => ?_) ?_
      rotate_left 1
      · (try dsimp only at hSw)
        clear hSw
        go_simp
        try with_reducible rfl
      simp only [List.set_cons_succ, List.set_cons_zero]
      refine takeM 11 54 53 rfl rfl rfl (by kernel_rfl) (by kernel_rfl) (by kernel_rfl) (fun _ _ _ h => h) (by rfl) hHeld rfl ?_
      simp only [List.set_cons_succ, List.set_cons_zero]
      refine takeM 12 55 10 rfl rfl rfl (by kernel_rfl) (by kernel_rfl) (by kernel_rfl) (fun _ _ _ h => h) (by rfl) hHeld rfl ?_
      simp only [List.set_cons_succ, List.set_cons_zero]
      refine onlyL 13 rfl (by kernel_rfl) (by rfl) (fun K hK => ?_)
      go_wp2_with fail
      refine (hO.twice GY _ ⟨false, [], []⟩ false (by simp) ⟨fun h => absurd h (by decide), fun ⟨_, _, _, h, _⟩ => absurd h (Nat.not_lt_zero _)⟩ _ D.iy).mono ?_
      rintro e w8 ⟨G1, rfl, hKc⟩
      have hof2 := hof.trans hKc.off (fun k h => (hGc k h).imp Or.inr id)
      replace hGc := fun k h => (hKc.sub k h).elim (hGc k) (fun e => Or.inr (Nat.le_trans hof.size e))
      replace D := D.callY hO hKc
      refine hK.out _ _ hof2 (fun _ => ?_)
      clear hK K hHeld hKc hof
      have hof := hof2
      have hHeld := hof
      clear hof2
      refine takeL 14 57 (v := ?_) rfl rfl (by kernel_rfl) (by kernel_rfl) (by kernel_rfl) (fun _ _ _ h => h) (by rfl) hHeld (fun wz hSw => ?_) ?_
      rotate_left 1
      · (try dsimp only at hSw)
        clear hSw
        go_simp
        try with_reducible rfl
      simp only [List.set_cons_succ, List.set_cons_zero]
      refine takeL 15 58 (v := ?_) rfl rfl (by kernel_rfl) (by kernel_rfl) (by kernel_rfl) (fun _ _ _ h => h) (by rfl) hHeld (fun wz hSw => ?_) ?_
      rotate_left 1
      · (try dsimp only at hSw)
        clear hSw
        go_simp
        try with_reducible rfl
      simp only [List.set_cons_succ, List.set_cons_zero]
      refine takeM 16 59 58 rfl rfl rfl (by kernel_rfl) (by kernel_rfl) (by kernel_rfl) (fun _ _ _ h => h) (by rfl) hHeld rfl ?_
      simp only [List.set_cons_succ, List.set_cons_zero]
      refine takeM 17 60 10 rfl rfl rfl (by kernel_rfl) (by kernel_rfl) (by kernel_rfl) (fun _ _ _ h => h) (by rfl) hHeld rfl ?_
      simp only [List.set_cons_succ, List.set_cons_zero]
      refine onlyL 18 rfl (by kernel_rfl) (by rfl) (fun K hK => ?_)
      go_wp2_with fail
      refine (lissued_at hO G1 _ ⟨false, [], []⟩ (l := 0) rfl (by decide) _ D.iy).mono ?_
      rintro e w9 ⟨z1, c1, G2, rfl, hKc⟩
      have hof2 := hof.trans hKc.off (fun k h => (hGc k h).imp Or.inr id)
      replace hGc := fun k h => (hKc.sub k h).elim (hGc k) (fun e => Or.inr (Nat.le_trans hof.size e))
      replace D := D.callY hO hKc
      refine hK.out _ _ hof2 (fun _ => ?_)
      clear hK K hHeld hKc hof
      have hof := hof2
      have hHeld := hof
      clear hof2
      refine takeL 19 62 (v := ?_) rfl rfl (by kernel_rfl) (by kernel_rfl) (by kernel_rfl) (fun _ _ _ h => h) (by rfl) hHeld (fun wz hSw => ?_) ?_
      rotate_left 1
      · (try dsimp only at hSw)
        clear hSw
        go_simp
        try with_reducible rfl
      simp only [List.set_cons_succ, List.set_cons_zero]
      refine takeL 20 63 (v := ?_) rfl rfl (by kernel_rfl) (by kernel_rfl) (by kernel_rfl) (fun _ _ _ h => h) (by rfl) hHeld (fun wz hSw => ?_) ?_
      rotate_left 1
      · (try dsimp only at hSw)
        clear hSw
        go_simp
        try with_reducible rfl
      simp only [List.set_cons_succ, List.set_cons_zero]
      refine takeL 21 64 (v := ?_) rfl rfl (by kernel_rfl) (by kernel_rfl) (by kernel_rfl) (fun _ _ _ h => h) (by rfl) hHeld (fun wz hSw => ?_) ?_
      rotate_left 1
      · (try dsimp only at hSw)
        clear hSw
        go_simp
        try with_reducible rfl
      simp only [List.set_cons_succ, List.set_cons_zero]
      refine takeM 22 65 64 rfl rfl rfl (by kernel_rfl) (by kernel_rfl) (by kernel_rfl) (fun _ _ _ h => h) (by rfl) hHeld rfl ?_
      simp only [List.set_cons_succ, List.set_cons_zero]
      refine takeM 23 66 9 rfl rfl rfl (by kernel_rfl) (by kernel_rfl) (by kernel_rfl) (fun _ _ _ h => h) (by rfl) hHeld rfl ?_
      simp only [List.set_cons_succ, List.set_cons_zero]
      refine onlyL 24 rfl (by kernel_rfl) (by rfl) (fun K hK => ?_)
      go_wp2_with fail
      refine (lissued_at hO F1 _ ⟨true, [⟨a, n, [], [112]⟩, ⟨b, m, [], [113]⟩], []⟩ (l := 2) rfl (by decide) _ D.ix).mono ?_
      rintro e w10 ⟨z2, c2, F2, rfl, hKc⟩
      have hof2 := hof.trans hKc.off (fun k h => (hFc k h).imp Or.inl id)
      replace hFc := fun k h => (hKc.sub k h).elim (hFc k) (fun e => Or.inr (Nat.le_trans hof.size e))
      replace D := D.callX hO hKc
      refine hK.out _ _ hof2 (fun _ => ?_)
      clear hK K hHeld hKc hof
      have hof := hof2
      have hHeld := hof
      clear hof2
      refine takeL 25 68 (v := ?_) rfl rfl (by kernel_rfl) (by kernel_rfl) (by kernel_rfl) (fun _ _ _ h => h) (by rfl) hHeld (fun wz hSw => ?_) ?_
      rotate_left 1
      · (try dsimp only at hSw)
        clear hSw
        go_simp
        try with_reducible rfl
      simp only [List.set_cons_succ, List.set_cons_zero]
      refine takeL 26 69 (v := ?_) rfl rfl (by kernel_rfl) (by kernel_rfl) (by kernel_rfl) (fun _ _ _ h => h) (by rfl) hHeld (fun wz hSw => ?_) ?_
      rotate_left 1
      · (try dsimp only at hSw)
        clear hSw
        go_simp
        try with_reducible rfl
      simp only [List.set_cons_succ, List.set_cons_zero]
      refine takeL 27 70 (v := ?_) rfl rfl (by kernel_rfl) (by kernel_rfl) (by kernel_rfl) (fun _ _ _ h => h) (by rfl) hHeld (fun wz hSw => ?_) ?_
      rotate_left 1
      · (try dsimp only at hSw)
        clear hSw
        go_simp
        try with_reducible rfl
      simp only [List.set_cons_succ, List.set_cons_zero]
      refine takeM 28 71 70 rfl rfl rfl (by kernel_rfl) (by kernel_rfl) (by kernel_rfl) (fun _ _ _ h => h) (by rfl) hHeld rfl ?_
      simp only [List.set_cons_succ, List.set_cons_zero]
      refine onlyL 29 rfl (by kernel_rfl) (by rfl) (fun K hK => ?_)
      go_wp2_with fail
      refine (lknown hO _).mono ?_
      rintro e w11 ⟨rfl, hc⟩
      have hof2 := hof.more hc
      refine hK.out _ _ hof2 (fun _ => ?_)
      clear hK K hHeld
      have hHeld := hof2
      refine takeL 30 73 (v := ?_) rfl rfl (by kernel_rfl) (by kernel_rfl) (by kernel_rfl) (fun _ _ _ h => h) (by rfl) hHeld (fun wz hSw => ?_) ?_
      rotate_left 1
      · (try dsimp only at hSw)
        clear hSw
        go_simp
        try with_reducible rfl
      simp only [List.set_cons_succ, List.set_cons_zero]
      refine takeA 31 8 73 rfl rfl rfl (by kernel_rfl) (by kernel_rfl) (by kernel_rfl) (fun _ _ _ h => h) (by rfl) hHeld rfl ?_
      simp only [List.set_cons_succ, List.set_cons_zero]
      refine wpAnyH_done (by kernel_rfl) ?_ _
      go_wp2
      go_ret
      refine ⟨rfl, hB.trans ((hb.trans (hof2.below (fun k h => h.elim (D0.fx k) (D0.gy k)) D0.size)).mono hB.size)⟩
    · have heqn : ∀ w, (Op.equalIn 10000 35 (.agg #[.int .u32 (nv32 n.1), .int .u32 (nv32 n.2.1), .int .u64 (nv n.2.2)]) (.agg #[.int .u32 (nv32 m.1), .int .u32 (nv32 m.2.1), .int .u64 (nv m.2.2)])).run Try.prog w = .ok false w := fun w => by rw [eqN, non_eq_of]; simp [hnm]
      have HNM := hide' hnm
      clear hnm
      refine wp_region_held_drew (S := fun w' => Off (fun k => FX k ∨ GY k) w6 w') (by kernel_rfl) (Off.refl _ _).drew (fun hHeld => ?_)
      refine takeM 0 43 9 rfl rfl rfl (by kernel_rfl) (by kernel_rfl) (by kernel_rfl) (fun _ _ _ h => h) (by rfl) hHeld rfl ?_
      simp only [List.set_cons_succ, List.set_cons_zero]
      refine takeL 2 45 (v := ?_) rfl rfl (by kernel_rfl) (by kernel_rfl) (by kernel_rfl) (fun _ _ _ h => h) (by rfl) hHeld (fun wz hSw => ?_) ?_
      rotate_left 1
      · (try dsimp only at hSw)
        have hx_ : Box wz w.heap.size (nv a.1) (nv a.2) := off_block bA' hSw (fun h => h.elim (fun h => by have := D0.fx _ h; omega) (fun h => by have := D0.gy _ h; omega))
        have e0_ := hx_.c0
        have e1_ := hx_.c1
        clear hx_
        clear hSw
        go_simp
        try with_reducible rfl
      simp only [List.set_cons_succ, List.set_cons_zero]
      refine takeL 3 46 (v := ?_) rfl rfl (by kernel_rfl) (by kernel_rfl) (by kernel_rfl) (fun _ _ _ h => h) (by rfl) hHeld (fun wz hSw => ?_) ?_
      rotate_left 1
      · (try dsimp only at hSw)
        have hx_ : Box wz (w.heap.size + 1) (nv b.1) (nv b.2) := off_block bB' hSw (fun h => h.elim (fun h => by have := D0.fx _ h; omega) (fun h => by have := D0.gy _ h; omega))
        have e0_ := hx_.c0
        have e1_ := hx_.c1
        clear hx_
        clear hSw
        go_simp
        try with_reducible rfl
      simp only [List.set_cons_succ, List.set_cons_zero]
      refine takeL 4 47 (v := ?_) rfl rfl (by kernel_rfl) (by kernel_rfl) (by kernel_rfl) (fun _ _ _ h => h) (by rfl) hHeld (fun wz hSw => ?_) ?_
      rotate_left 1
      · (try dsimp only at hSw)
        clear hSw
        go_simp
        try with_reducible rfl
      simp only [List.set_cons_succ, List.set_cons_zero]
      have hof := hHeld
      replace D := D.below hO (Below.refl _ _).drew
      refine onlyL 1 rfl (by kernel_rfl) (by rfl) (fun K hK => ?_)
      go_wp2_with fail
      refine (hO.twice FX _ ⟨true, [⟨a, n, [], [112]⟩, ⟨b, m, [], [113]⟩], []⟩ false (by simp) ⟨fun h => absurd h (by decide), fun h => absurd ((two_iff _ _ _ _ _ _ _ _).1 h).2 HNM.out⟩ _ D.ix).mono ?_
      rintro e w7 ⟨F1, rfl, hKc⟩
      have hof2 := hof.trans hKc.off (fun k h => (hFc k h).imp Or.inl id)
      replace hFc := fun k h => (hKc.sub k h).elim (hFc k) (fun e => Or.inr (Nat.le_trans hof.size e))
      replace D := D.callX hO hKc
      refine hK.out _ _ hof2 (fun _ => ?_)
      clear hK K hHeld hKc hof
      have hof := hof2
      have hHeld := hof
      clear hof2
      refine takeM 5 48 47 rfl rfl rfl (by kernel_rfl) (by kernel_rfl) (by kernel_rfl) (fun _ _ _ h => h) (by rfl) hHeld rfl ?_
      simp only [List.set_cons_succ, List.set_cons_zero]
      refine takeL 6 49 (v := ?_) rfl rfl (by kernel_rfl) (by kernel_rfl) (by kernel_rfl) (fun _ _ _ h => h) (by rfl) hHeld (fun wz hSw => ?_) ?_
      rotate_left 1
      · (try dsimp only at hSw)
        have hx_ : NBox wz (w.heap.size + 1 + 1) n := off_block bN' hSw (fun h => h.elim (fun h => by have := D0.fx _ h; omega) (fun h => by have := D0.gy _ h; omega))
        have e0_ := hx_.c0
        have e1_ := hx_.c1
        have e2_ := hx_.c2
        clear hx_
        clear hSw
        go_simp
        try with_reducible rfl
      simp only [List.set_cons_succ, List.set_cons_zero]
      refine takeL 7 50 (v := ?_) rfl rfl (by kernel_rfl) (by kernel_rfl) (by kernel_rfl) (fun _ _ _ h => h) (by rfl) hHeld (fun wz hSw => ?_) ?_
      rotate_left 1
      · (try dsimp only at hSw)
        have hx_ : NBox wz (w.heap.size + 1 + 1 + 1) m := off_block bM' hSw (fun h => h.elim (fun h => by have := D0.fx _ h; omega) (fun h => by have := D0.gy _ h; omega))
        have e0_ := hx_.c0
        have e1_ := hx_.c1
        have e2_ := hx_.c2
        clear hx_
        clear hSw
        go_simp
        try with_reducible rfl
      simp only [List.set_cons_succ, List.set_cons_zero]
      refine takeL 8 51 (v := ?_) rfl rfl (by kernel_rfl) (by kernel_rfl) (by kernel_rfl) (fun _ _ _ h => h) (by rfl) hHeld (fun wz hSw => ?_) ?_
      rotate_left 1
      · (try dsimp only at hSw)
        clear hSw
        go_simp
        try with_reducible rfl
      simp only [List.set_cons_succ, List.set_cons_zero]
      refine takeL 9 52 (v := ?_) rfl rfl (by kernel_rfl) (by kernel_rfl) (by kernel_rfl) (fun _ _ _ h => h) (by rfl) hHeld (fun wz hSw => ?_) ?_
      rotate_left 1
      · (try dsimp only at hSw)
        clear hSw
        go_simp
        try with_reducible rfl
      simp only [List.set_cons_succ, List.set_cons_zero]
      refine takeL 10 53 (v := ?_) rfl rfl (by kernel_rfl) (by kernel_rfl) (by kernel_rfl) (fun _ _ _ h => h) (by rfl) hHeld (fun wz hSw => ?_) ?_
      rotate_left 1
      · (try dsimp only at hSw)
        clear hSw
        go_simp
        try with_reducible rfl
      simp only [List.set_cons_succ, List.set_cons_zero]
      refine takeM 11 54 53 rfl rfl rfl (by kernel_rfl) (by kernel_rfl) (by kernel_rfl) (fun _ _ _ h => h) (by rfl) hHeld rfl ?_
      simp only [List.set_cons_succ, List.set_cons_zero]
      refine takeM 12 55 10 rfl rfl rfl (by kernel_rfl) (by kernel_rfl) (by kernel_rfl) (fun _ _ _ h => h) (by rfl) hHeld rfl ?_
      simp only [List.set_cons_succ, List.set_cons_zero]
      refine onlyL 13 rfl (by kernel_rfl) (by rfl) (fun K hK => ?_)
      go_wp2_with fail
      refine (hO.twice GY _ ⟨false, [], []⟩ false (by simp) ⟨fun h => absurd h (by decide), fun ⟨_, _, _, h, _⟩ => absurd h (Nat.not_lt_zero _)⟩ _ D.iy).mono ?_
      rintro e w8 ⟨G1, rfl, hKc⟩
      have hof2 := hof.trans hKc.off (fun k h => (hGc k h).imp Or.inr id)
      replace hGc := fun k h => (hKc.sub k h).elim (hGc k) (fun e => Or.inr (Nat.le_trans hof.size e))
      replace D := D.callY hO hKc
      refine hK.out _ _ hof2 (fun _ => ?_)
      clear hK K hHeld hKc hof
      have hof := hof2
      have hHeld := hof
      clear hof2
      refine takeL 14 57 (v := ?_) rfl rfl (by kernel_rfl) (by kernel_rfl) (by kernel_rfl) (fun _ _ _ h => h) (by rfl) hHeld (fun wz hSw => ?_) ?_
      rotate_left 1
      · (try dsimp only at hSw)
        clear hSw
        go_simp
        try with_reducible rfl
      simp only [List.set_cons_succ, List.set_cons_zero]
      refine takeL 15 58 (v := ?_) rfl rfl (by kernel_rfl) (by kernel_rfl) (by kernel_rfl) (fun _ _ _ h => h) (by rfl) hHeld (fun wz hSw => ?_) ?_
      rotate_left 1
      · (try dsimp only at hSw)
        clear hSw
        go_simp
        try with_reducible rfl
      simp only [List.set_cons_succ, List.set_cons_zero]
      refine takeM 16 59 58 rfl rfl rfl (by kernel_rfl) (by kernel_rfl) (by kernel_rfl) (fun _ _ _ h => h) (by rfl) hHeld rfl ?_
      simp only [List.set_cons_succ, List.set_cons_zero]
      refine takeM 17 60 10 rfl rfl rfl (by kernel_rfl) (by kernel_rfl) (by kernel_rfl) (fun _ _ _ h => h) (by rfl) hHeld rfl ?_
      simp only [List.set_cons_succ, List.set_cons_zero]
      refine onlyL 18 rfl (by kernel_rfl) (by rfl) (fun K hK => ?_)
      go_wp2_with fail
      refine (lissued_at hO G1 _ ⟨false, [], []⟩ (l := 0) rfl (by decide) _ D.iy).mono ?_
      rintro e w9 ⟨z1, c1, G2, rfl, hKc⟩
      have hof2 := hof.trans hKc.off (fun k h => (hGc k h).imp Or.inr id)
      replace hGc := fun k h => (hKc.sub k h).elim (hGc k) (fun e => Or.inr (Nat.le_trans hof.size e))
      replace D := D.callY hO hKc
      refine hK.out _ _ hof2 (fun _ => ?_)
      clear hK K hHeld hKc hof
      have hof := hof2
      have hHeld := hof
      clear hof2
      refine takeL 19 62 (v := ?_) rfl rfl (by kernel_rfl) (by kernel_rfl) (by kernel_rfl) (fun _ _ _ h => h) (by rfl) hHeld (fun wz hSw => ?_) ?_
      rotate_left 1
      · (try dsimp only at hSw)
        clear hSw
        go_simp
        try with_reducible rfl
      simp only [List.set_cons_succ, List.set_cons_zero]
      refine takeL 20 63 (v := ?_) rfl rfl (by kernel_rfl) (by kernel_rfl) (by kernel_rfl) (fun _ _ _ h => h) (by rfl) hHeld (fun wz hSw => ?_) ?_
      rotate_left 1
      · (try dsimp only at hSw)
        clear hSw
        go_simp
        try with_reducible rfl
      simp only [List.set_cons_succ, List.set_cons_zero]
      refine takeL 21 64 (v := ?_) rfl rfl (by kernel_rfl) (by kernel_rfl) (by kernel_rfl) (fun _ _ _ h => h) (by rfl) hHeld (fun wz hSw => ?_) ?_
      rotate_left 1
      · (try dsimp only at hSw)
        clear hSw
        go_simp
        try with_reducible rfl
      simp only [List.set_cons_succ, List.set_cons_zero]
      refine takeM 22 65 64 rfl rfl rfl (by kernel_rfl) (by kernel_rfl) (by kernel_rfl) (fun _ _ _ h => h) (by rfl) hHeld rfl ?_
      simp only [List.set_cons_succ, List.set_cons_zero]
      refine takeM 23 66 9 rfl rfl rfl (by kernel_rfl) (by kernel_rfl) (by kernel_rfl) (fun _ _ _ h => h) (by rfl) hHeld rfl ?_
      simp only [List.set_cons_succ, List.set_cons_zero]
      refine onlyL 24 rfl (by kernel_rfl) (by rfl) (fun K hK => ?_)
      go_wp2_with fail
      refine (lissued_at hO F1 _ ⟨true, [⟨a, n, [], [112]⟩, ⟨b, m, [], [113]⟩], []⟩ (l := 2) rfl (by decide) _ D.ix).mono ?_
      rintro e w10 ⟨z2, c2, F2, rfl, hKc⟩
      have hof2 := hof.trans hKc.off (fun k h => (hFc k h).imp Or.inl id)
      replace hFc := fun k h => (hKc.sub k h).elim (hFc k) (fun e => Or.inr (Nat.le_trans hof.size e))
      replace D := D.callX hO hKc
      refine hK.out _ _ hof2 (fun _ => ?_)
      clear hK K hHeld hKc hof
      have hof := hof2
      have hHeld := hof
      clear hof2
      refine takeL 25 68 (v := ?_) rfl rfl (by kernel_rfl) (by kernel_rfl) (by kernel_rfl) (fun _ _ _ h => h) (by rfl) hHeld (fun wz hSw => ?_) ?_
      rotate_left 1
      · (try dsimp only at hSw)
        clear hSw
        go_simp
        try with_reducible rfl
      simp only [List.set_cons_succ, List.set_cons_zero]
      refine takeL 26 69 (v := ?_) rfl rfl (by kernel_rfl) (by kernel_rfl) (by kernel_rfl) (fun _ _ _ h => h) (by rfl) hHeld (fun wz hSw => ?_) ?_
      rotate_left 1
      · (try dsimp only at hSw)
        clear hSw
        go_simp
        try with_reducible rfl
      simp only [List.set_cons_succ, List.set_cons_zero]
      refine takeL 27 70 (v := ?_) rfl rfl (by kernel_rfl) (by kernel_rfl) (by kernel_rfl) (fun _ _ _ h => h) (by rfl) hHeld (fun wz hSw => ?_) ?_
      rotate_left 1
      · (try dsimp only at hSw)
        clear hSw
        go_simp
        try with_reducible rfl
      simp only [List.set_cons_succ, List.set_cons_zero]
      refine takeM 28 71 70 rfl rfl rfl (by kernel_rfl) (by kernel_rfl) (by kernel_rfl) (fun _ _ _ h => h) (by rfl) hHeld rfl ?_
      simp only [List.set_cons_succ, List.set_cons_zero]
      refine onlyL 29 rfl (by kernel_rfl) (by rfl) (fun K hK => ?_)
      go_wp2_with fail
      refine (lknown hO _).mono ?_
      rintro e w11 ⟨rfl, hc⟩
      have hof2 := hof.more hc
      refine hK.out _ _ hof2 (fun _ => ?_)
      clear hK K hHeld
      have hHeld := hof2
      refine takeL 30 73 (v := ?_) rfl rfl (by kernel_rfl) (by kernel_rfl) (by kernel_rfl) (fun _ _ _ h => h) (by rfl) hHeld (fun wz hSw => ?_) ?_
      rotate_left 1
      · (try dsimp only at hSw)
        clear hSw
        go_simp
        try with_reducible rfl
      simp only [List.set_cons_succ, List.set_cons_zero]
      refine takeA 31 8 73 rfl rfl rfl (by kernel_rfl) (by kernel_rfl) (by kernel_rfl) (fun _ _ _ h => h) (by rfl) hHeld rfl ?_
      simp only [List.set_cons_succ, List.set_cons_zero]
      refine wpAnyH_done (by kernel_rfl) ?_ _
      go_wp2
      go_ret
      refine ⟨rfl, hB.trans ((hb.trans (hof2.below (fun k h => h.elim (D0.fx k) (D0.gy k)) D0.size)).mono hB.size)⟩
  · have heqp : ∀ w, (Op.equalIn 10000 30 (.agg #[.int .u64 (nv a.1), .int .u64 (nv a.2)]) (.agg #[.int .u64 (nv b.1), .int .u64 (nv b.2)])).run Try.prog w = .ok false w := fun w => by rw [eq32, pair_eq_of]; simp [hab]
    have HAB := hide' hab
    clear hab
    refine wp_region_held_drew (S := fun w' => Off (fun k => FX k ∨ GY k) w6 w') (by kernel_rfl) (Off.refl _ _).drew (fun hHeld => ?_)
    refine takeM 0 43 9 rfl rfl rfl (by kernel_rfl) (by kernel_rfl) (by kernel_rfl) (fun _ _ _ h => h) (by rfl) hHeld rfl ?_
    simp only [List.set_cons_succ, List.set_cons_zero]
    refine takeL 2 45 (v := ?_) rfl rfl (by kernel_rfl) (by kernel_rfl) (by kernel_rfl) (fun _ _ _ h => h) (by rfl) hHeld (fun wz hSw => ?_) ?_
    rotate_left 1
    · (try dsimp only at hSw)
      have hx_ : Box wz w.heap.size (nv a.1) (nv a.2) := off_block bA' hSw (fun h => h.elim (fun h => by have := D0.fx _ h; omega) (fun h => by have := D0.gy _ h; omega))
      have e0_ := hx_.c0
      have e1_ := hx_.c1
      clear hx_
      clear hSw
      go_simp
      try with_reducible rfl
    simp only [List.set_cons_succ, List.set_cons_zero]
    refine takeL 3 46 (v := ?_) rfl rfl (by kernel_rfl) (by kernel_rfl) (by kernel_rfl) (fun _ _ _ h => h) (by rfl) hHeld (fun wz hSw => ?_) ?_
    rotate_left 1
    · (try dsimp only at hSw)
      have hx_ : Box wz (w.heap.size + 1) (nv b.1) (nv b.2) := off_block bB' hSw (fun h => h.elim (fun h => by have := D0.fx _ h; omega) (fun h => by have := D0.gy _ h; omega))
      have e0_ := hx_.c0
      have e1_ := hx_.c1
      clear hx_
      clear hSw
      go_simp
      try with_reducible rfl
    simp only [List.set_cons_succ, List.set_cons_zero]
    refine takeL 4 47 (v := ?_) rfl rfl (by kernel_rfl) (by kernel_rfl) (by kernel_rfl) (fun _ _ _ h => h) (by rfl) hHeld (fun wz hSw => ?_) ?_
    rotate_left 1
    · (try dsimp only at hSw)
      clear hSw
      go_simp
      try with_reducible rfl
    simp only [List.set_cons_succ, List.set_cons_zero]
    have hof := hHeld
    replace D := D.below hO (Below.refl _ _).drew
    refine onlyL 1 rfl (by kernel_rfl) (by rfl) (fun K hK => ?_)
    go_wp2_with fail
    refine (hO.twice FX _ ⟨true, [⟨a, n, [], [112]⟩, ⟨b, m, [], [113]⟩], []⟩ false (by simp) ⟨fun h => absurd h (by decide), fun h => absurd ((two_iff _ _ _ _ _ _ _ _).1 h).1 HAB.out⟩ _ D.ix).mono ?_
    rintro e w7 ⟨F1, rfl, hKc⟩
    have hof2 := hof.trans hKc.off (fun k h => (hFc k h).imp Or.inl id)
    replace hFc := fun k h => (hKc.sub k h).elim (hFc k) (fun e => Or.inr (Nat.le_trans hof.size e))
    replace D := D.callX hO hKc
    refine hK.out _ _ hof2 (fun _ => ?_)
    clear hK K hHeld hKc hof
    have hof := hof2
    have hHeld := hof
    clear hof2
    refine takeM 5 48 47 rfl rfl rfl (by kernel_rfl) (by kernel_rfl) (by kernel_rfl) (fun _ _ _ h => h) (by rfl) hHeld rfl ?_
    simp only [List.set_cons_succ, List.set_cons_zero]
    refine takeN 6 49 rfl rfl (by kernel_rfl) (by kernel_rfl) (by kernel_rfl) (fun _ _ _ h => h) (by rfl) hHeld ?_
    simp only [List.set_cons_succ, List.set_cons_zero]
    refine takeN 7 50 rfl rfl (by kernel_rfl) (by kernel_rfl) (by kernel_rfl) (fun _ _ _ h => h) (by rfl) hHeld ?_
    simp only [List.set_cons_succ, List.set_cons_zero]
    refine takeN 8 51 rfl rfl (by kernel_rfl) (by kernel_rfl) (by kernel_rfl) (fun _ _ _ h => h) (by rfl) hHeld ?_
    simp only [List.set_cons_succ, List.set_cons_zero]
    refine takeL 9 52 (v := ?_) rfl rfl (by kernel_rfl) (by kernel_rfl) (by kernel_rfl) (fun _ _ _ h => h) (by rfl) hHeld (fun wz hSw => ?_) ?_
    rotate_left 1
    · (try dsimp only at hSw)
      clear hSw
      go_simp
      try with_reducible rfl
    simp only [List.set_cons_succ, List.set_cons_zero]
    refine takeL 10 53 (v := ?_) rfl rfl (by kernel_rfl) (by kernel_rfl) (by kernel_rfl) (fun _ _ _ h => h) (by rfl) hHeld (fun wz hSw => ?_) ?_
    rotate_left 1
    · (try dsimp only at hSw)
      clear hSw
      go_simp
      try with_reducible rfl
    simp only [List.set_cons_succ, List.set_cons_zero]
    refine takeM 11 54 53 rfl rfl rfl (by kernel_rfl) (by kernel_rfl) (by kernel_rfl) (fun _ _ _ h => h) (by rfl) hHeld rfl ?_
    simp only [List.set_cons_succ, List.set_cons_zero]
    refine takeM 12 55 10 rfl rfl rfl (by kernel_rfl) (by kernel_rfl) (by kernel_rfl) (fun _ _ _ h => h) (by rfl) hHeld rfl ?_
    simp only [List.set_cons_succ, List.set_cons_zero]
    refine onlyL 13 rfl (by kernel_rfl) (by rfl) (fun K hK => ?_)
    go_wp2_with fail
    refine (hO.twice GY _ ⟨false, [], []⟩ false (by simp) ⟨fun h => absurd h (by decide), fun ⟨_, _, _, h, _⟩ => absurd h (Nat.not_lt_zero _)⟩ _ D.iy).mono ?_
    rintro e w8 ⟨G1, rfl, hKc⟩
    have hof2 := hof.trans hKc.off (fun k h => (hGc k h).imp Or.inr id)
    replace hGc := fun k h => (hKc.sub k h).elim (hGc k) (fun e => Or.inr (Nat.le_trans hof.size e))
    replace D := D.callY hO hKc
    refine hK.out _ _ hof2 (fun _ => ?_)
    clear hK K hHeld hKc hof
    have hof := hof2
    have hHeld := hof
    clear hof2
    refine takeL 14 57 (v := ?_) rfl rfl (by kernel_rfl) (by kernel_rfl) (by kernel_rfl) (fun _ _ _ h => h) (by rfl) hHeld (fun wz hSw => ?_) ?_
    rotate_left 1
    · (try dsimp only at hSw)
      clear hSw
      go_simp
      try with_reducible rfl
    simp only [List.set_cons_succ, List.set_cons_zero]
    refine takeL 15 58 (v := ?_) rfl rfl (by kernel_rfl) (by kernel_rfl) (by kernel_rfl) (fun _ _ _ h => h) (by rfl) hHeld (fun wz hSw => ?_) ?_
    rotate_left 1
    · (try dsimp only at hSw)
      clear hSw
      go_simp
      try with_reducible rfl
    simp only [List.set_cons_succ, List.set_cons_zero]
    refine takeM 16 59 58 rfl rfl rfl (by kernel_rfl) (by kernel_rfl) (by kernel_rfl) (fun _ _ _ h => h) (by rfl) hHeld rfl ?_
    simp only [List.set_cons_succ, List.set_cons_zero]
    refine takeM 17 60 10 rfl rfl rfl (by kernel_rfl) (by kernel_rfl) (by kernel_rfl) (fun _ _ _ h => h) (by rfl) hHeld rfl ?_
    simp only [List.set_cons_succ, List.set_cons_zero]
    refine onlyL 18 rfl (by kernel_rfl) (by rfl) (fun K hK => ?_)
    go_wp2_with fail
    refine (lissued_at hO G1 _ ⟨false, [], []⟩ (l := 0) rfl (by decide) _ D.iy).mono ?_
    rintro e w9 ⟨z1, c1, G2, rfl, hKc⟩
    have hof2 := hof.trans hKc.off (fun k h => (hGc k h).imp Or.inr id)
    replace hGc := fun k h => (hKc.sub k h).elim (hGc k) (fun e => Or.inr (Nat.le_trans hof.size e))
    replace D := D.callY hO hKc
    refine hK.out _ _ hof2 (fun _ => ?_)
    clear hK K hHeld hKc hof
    have hof := hof2
    have hHeld := hof
    clear hof2
    refine takeL 19 62 (v := ?_) rfl rfl (by kernel_rfl) (by kernel_rfl) (by kernel_rfl) (fun _ _ _ h => h) (by rfl) hHeld (fun wz hSw => ?_) ?_
    rotate_left 1
    · (try dsimp only at hSw)
      clear hSw
      go_simp
      try with_reducible rfl
    simp only [List.set_cons_succ, List.set_cons_zero]
    refine takeL 20 63 (v := ?_) rfl rfl (by kernel_rfl) (by kernel_rfl) (by kernel_rfl) (fun _ _ _ h => h) (by rfl) hHeld (fun wz hSw => ?_) ?_
    rotate_left 1
    · (try dsimp only at hSw)
      clear hSw
      go_simp
      try with_reducible rfl
    simp only [List.set_cons_succ, List.set_cons_zero]
    refine takeL 21 64 (v := ?_) rfl rfl (by kernel_rfl) (by kernel_rfl) (by kernel_rfl) (fun _ _ _ h => h) (by rfl) hHeld (fun wz hSw => ?_) ?_
    rotate_left 1
    · (try dsimp only at hSw)
      clear hSw
      go_simp
      try with_reducible rfl
    simp only [List.set_cons_succ, List.set_cons_zero]
    refine takeM 22 65 64 rfl rfl rfl (by kernel_rfl) (by kernel_rfl) (by kernel_rfl) (fun _ _ _ h => h) (by rfl) hHeld rfl ?_
    simp only [List.set_cons_succ, List.set_cons_zero]
    refine takeM 23 66 9 rfl rfl rfl (by kernel_rfl) (by kernel_rfl) (by kernel_rfl) (fun _ _ _ h => h) (by rfl) hHeld rfl ?_
    simp only [List.set_cons_succ, List.set_cons_zero]
    refine onlyL 24 rfl (by kernel_rfl) (by rfl) (fun K hK => ?_)
    go_wp2_with fail
    refine (lissued_at hO F1 _ ⟨true, [⟨a, n, [], [112]⟩, ⟨b, m, [], [113]⟩], []⟩ (l := 2) rfl (by decide) _ D.ix).mono ?_
    rintro e w10 ⟨z2, c2, F2, rfl, hKc⟩
    have hof2 := hof.trans hKc.off (fun k h => (hFc k h).imp Or.inl id)
    replace hFc := fun k h => (hKc.sub k h).elim (hFc k) (fun e => Or.inr (Nat.le_trans hof.size e))
    replace D := D.callX hO hKc
    refine hK.out _ _ hof2 (fun _ => ?_)
    clear hK K hHeld hKc hof
    have hof := hof2
    have hHeld := hof
    clear hof2
    refine takeL 25 68 (v := ?_) rfl rfl (by kernel_rfl) (by kernel_rfl) (by kernel_rfl) (fun _ _ _ h => h) (by rfl) hHeld (fun wz hSw => ?_) ?_
    rotate_left 1
    · (try dsimp only at hSw)
      clear hSw
      go_simp
      try with_reducible rfl
    simp only [List.set_cons_succ, List.set_cons_zero]
    refine takeL 26 69 (v := ?_) rfl rfl (by kernel_rfl) (by kernel_rfl) (by kernel_rfl) (fun _ _ _ h => h) (by rfl) hHeld (fun wz hSw => ?_) ?_
    rotate_left 1
    · (try dsimp only at hSw)
      clear hSw
      go_simp
      try with_reducible rfl
    simp only [List.set_cons_succ, List.set_cons_zero]
    refine takeL 27 70 (v := ?_) rfl rfl (by kernel_rfl) (by kernel_rfl) (by kernel_rfl) (fun _ _ _ h => h) (by rfl) hHeld (fun wz hSw => ?_) ?_
    rotate_left 1
    · (try dsimp only at hSw)
      clear hSw
      go_simp
      try with_reducible rfl
    simp only [List.set_cons_succ, List.set_cons_zero]
    refine takeM 28 71 70 rfl rfl rfl (by kernel_rfl) (by kernel_rfl) (by kernel_rfl) (fun _ _ _ h => h) (by rfl) hHeld rfl ?_
    simp only [List.set_cons_succ, List.set_cons_zero]
    refine onlyL 29 rfl (by kernel_rfl) (by rfl) (fun K hK => ?_)
    go_wp2_with fail
    refine (lknown hO _).mono ?_
    rintro e w11 ⟨rfl, hc⟩
    have hof2 := hof.more hc
    refine hK.out _ _ hof2 (fun _ => ?_)
    clear hK K hHeld
    have hHeld := hof2
    refine takeL 30 73 (v := ?_) rfl rfl (by kernel_rfl) (by kernel_rfl) (by kernel_rfl) (fun _ _ _ h => h) (by rfl) hHeld (fun wz hSw => ?_) ?_
    rotate_left 1
    · (try dsimp only at hSw)
      clear hSw
      go_simp
      try with_reducible rfl
    simp only [List.set_cons_succ, List.set_cons_zero]
    refine takeA 31 8 73 rfl rfl rfl (by kernel_rfl) (by kernel_rfl) (by kernel_rfl) (fun _ _ _ h => h) (by rfl) hHeld rfl ?_
    simp only [List.set_cons_succ, List.set_cons_zero]
    refine wpAnyH_done (by kernel_rfl) ?_ _
    go_wp2
    go_ret
    refine ⟨rfl, hB.trans ((hb.trans (hof2.below (fun k h => h.elim (D0.fx k) (D0.gy k)) D0.size)).mono hB.size)⟩
end Go.Proofs.Ytkkehbebaokdmaa
