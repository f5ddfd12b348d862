/- RefDskC RefDskR RegionI RefDskW: texts laid together. -/
import Derived.Test.YtcjmmfgnnebgkaaM05

/- What the document's disk comes to: Crash. -/
namespace Go.Proofs.Ytcjmmfgnnebgkaa
open Go.RowKit
set_option maxRecDepth 20000

theorem layD_app (B : List (List Int)) (L : List (Nat × List Int)) (o : Nat × List Int) : layD B (L ++ [o]) = (layD B L).set o.1 o.2 := by simp [layD]
set_option maxRecDepth 10000 in
set_option maxHeartbeats 4000000 in
theorem rdcrash (p : Option Addr) (F : Nat → Prop) (v : Value) (st : DskSt) (x : Option Addr) (n c : Nat) (K : List Bool) (hWl : st.Wt.length ≤ 1000000) (w : World) (hD : RDInv p F w v st) (hKI : KIn (fun k => ¬ F k) w x n K) :
    Calls Try.prog 19 #[v, .slice x n c] w fun e w' => ∃ F', e = .returned (.tuple #[]) ∧ KeptG (RDInv p) F w v F' w' (st.crash K) := by
  obtain ⟨b, FB, vW, vT, rfl, hA, hF⟩ := hD
  have hKl := hKI.1
  have hbox := hA.box
  have hown := hA.own
  obtain ⟨yW, cW, rfl, -, -, -⟩ := hA.wt.is
  obtain ⟨m, hm⟩ : ∃ m, (wOps st.Wt).length = m := ⟨_, rfl⟩
  rw [hm] at hA hbox hown hF
  have HF2 := hide' hF
  have hmn : Hid (m = st.Wt.length) := hide' (by rw [← hm, wOps_len])
  have hmb : Hid (m ≤ 1000000) := hide' (by have := hmn.out; omega)
  clear hm hF
  go_enter Try.func19, Try.ntmps19
  go_wp2_with fail
  go_loopw [4] (fun i wr => ∃ k : Nat, k ≤ m ∧ i = .int .i64 (k : Int) ∧ DBox wr b p (layD st.B (keptOf (st.Wt.take k) K)) (.slice yW m cW) vT st.no ∧ Off (fun j => j = b) w wr) (fun i _ => m - (intOf i).toNat)
  case atStart => exact ⟨0, Nat.zero_le _, rfl, hbox, Off.refl _ _⟩
  case round =>
    obtain ⟨k, hk, rfl, hx, ho⟩ := hrel
    have k33 := hx.c33
    by_cases hlt : k < m
    · have hlt' : (k : Int) < m := by omega
      have hw : IntKind.i64.wrap ((k : Int) + 1) = (k : Int) + 1 := by
        have := hmb.out
        rw [IntKind.wrap_i64]
        omega
      have hwt := hA.wt.off ho (fun k hk => (hA.oW k hk).1) (fun k _ hf e => hA.nb (e ▸ hf))
      obtain ⟨g, lb, ys, z, cz, rfl, hgl, hob, hlb, hys, bys, hs, -, hc0, hc1⟩ := wt_at hwt hmn.out hA.wf.w hlt
      have hlbi : (lb : Int) < 32 := by omega
      have hks := hide' (kept_step st.Wt K k (lb, ys) (by have := hmn.out; omega) hob)
      clear hwt hob
      have hno : ∀ cs, K.getD k false = cs → (if cs = true then [(lb, ys)] else []) = (if K.getD k false = true then [(lb, ys)] else []) := fun cs e => by rw [e]
      by_cases hkn : k < n
      · have hkn' : (k : Int) < n := by omega
        obtain ⟨bk, ok, rfl, hbk, hnk, hck⟩ := hKI.2 (by omega)
        have hck0 := (ho.cell (p := ⟨bk, ok + k, none⟩) hbk (fun e => hnk ((HF2.out bk).2 (Or.inl e)))).trans (hck k hkn)
        cases hv : K.getD k false
        · rw [hv] at hck0
          have hst : Hid (keptOf (st.Wt.take (k + 1)) K = keptOf (st.Wt.take k) K) := hide' (by rw [hks.out, hv]; simp)
          clear hks hno hv hck
          go_wp2
          go_roundw
          case rel => exact ⟨k + 1, by omega, by go_num, by rw [hst.out]; exact hx, ho⟩
          case measure => simp [intOf]; omega
        · rw [hv] at hck0
          have hst : Hid (layD st.B (keptOf (st.Wt.take (k + 1)) K) = (layD st.B (keptOf (st.Wt.take k) K)).set lb ys) := hide' (by rw [hks.out, hv, if_pos rfl, layD_app])
          clear hks hno hv hck
          go_wp2_with fail
          refine startX (S := fun w' => Below wr.heap.size wr w') 21 (by kernel_rfl) (Below.refl _ _).drew (fun hHeld => ?_)
          refine moveY 0 24 0 rfl rfl rfl (by kernel_rfl) (by kernel_rfl) (by kernel_rfl) (fun _ _ _ h => h) (by rfl) (by kernel_rfl) (by kernel_rfl) (by decide) hHeld rfl ?_
          simp only [List.set_cons_succ, List.set_cons_zero]
          refine moveY 1 25 0 rfl rfl rfl (by kernel_rfl) (by kernel_rfl) (by kernel_rfl) (fun _ _ _ h => h) (by rfl) (by kernel_rfl) (by kernel_rfl) (by decide) hHeld rfl ?_
          simp only [List.set_cons_succ, List.set_cons_zero]
          refine takeY 2 26 (v := ?_) rfl rfl (by kernel_rfl) (by kernel_rfl) (by kernel_rfl) (fun _ _ _ h => h) (by rfl) (by kernel_rfl) (by kernel_rfl) (by decide) hHeld (fun w hSw => ?_) ?_
          rotate_left 1
          · (try dsimp only at hSw)
            clear hSw
            go_simp
            try with_reducible rfl
          simp only [List.set_cons_succ, List.set_cons_zero]
          refine takeY 3 27 (v := ?_) rfl rfl (by kernel_rfl) (by kernel_rfl) (by kernel_rfl) (fun _ _ _ h => h) (by rfl) (by kernel_rfl) (by kernel_rfl) (by decide) hHeld (fun w hSw => ?_) ?_
          rotate_left 1
          · (try dsimp only at hSw)
            clear hSw
            go_simp
            try with_reducible rfl
          simp only [List.set_cons_succ, List.set_cons_zero]
          refine takeY 4 28 (v := ?_) rfl rfl (by kernel_rfl) (by kernel_rfl) (by kernel_rfl) (fun _ _ _ h => h) (by rfl) (by kernel_rfl) (by kernel_rfl) (by decide) hHeld (fun w hSw => ?_) ?_
          rotate_left 1
          · (try dsimp only at hSw)
            have e0_ := (hx.grown hSw).c33
            clear hSw
            go_simp
            try with_reducible rfl
          simp only [List.set_cons_succ, List.set_cons_zero]
          refine moveY 5 29 4 rfl rfl rfl (by kernel_rfl) (by kernel_rfl) (by kernel_rfl) (fun _ _ _ h => h) (by rfl) (by kernel_rfl) (by kernel_rfl) (by decide) hHeld rfl ?_
          simp only [List.set_cons_succ, List.set_cons_zero]
          refine takeY 6 30 (v := ?_) rfl rfl (by kernel_rfl) (by kernel_rfl) (by kernel_rfl) (fun _ _ _ h => h) (by rfl) (by kernel_rfl) (by kernel_rfl) (by decide) hHeld (fun w hSw => ?_) ?_
          rotate_left 1
          · (try dsimp only at hSw)
            clear hSw
            go_simp
            try with_reducible rfl
          simp only [List.set_cons_succ, List.set_cons_zero]
          refine takeY 7 31 (v := ?_) rfl rfl (by kernel_rfl) (by kernel_rfl) (by kernel_rfl) (fun _ _ _ h => h) (by rfl) (by kernel_rfl) (by kernel_rfl) (by decide) hHeld (fun w hSw => ?_) ?_
          rotate_left 1
          · (try dsimp only at hSw)
            clear hSw
            go_simp
            try with_reducible rfl
          simp only [List.set_cons_succ, List.set_cons_zero]
          refine takeY 8 32 (v := ?_) rfl rfl (by kernel_rfl) (by kernel_rfl) (by kernel_rfl) (fun _ _ _ h => h) (by rfl) (by kernel_rfl) (by kernel_rfl) (by decide) hHeld (fun w hSw => ?_) ?_
          rotate_left 1
          · (try dsimp only at hSw)
            have e0_ := (hSw.cell (p := ⟨g, k * 2, none⟩) hgl).trans hc0
            clear hSw
            go_simp
            try with_reducible rfl
          simp only [List.set_cons_succ, List.set_cons_zero]
          refine moveY 9 33 0 rfl rfl rfl (by kernel_rfl) (by kernel_rfl) (by kernel_rfl) (fun _ _ _ h => h) (by rfl) (by kernel_rfl) (by kernel_rfl) (by decide) hHeld rfl ?_
          simp only [List.set_cons_succ, List.set_cons_zero]
          refine takeY 10 34 (v := ?_) rfl rfl (by kernel_rfl) (by kernel_rfl) (by kernel_rfl) (fun _ _ _ h => h) (by rfl) (by kernel_rfl) (by kernel_rfl) (by decide) hHeld (fun w hSw => ?_) ?_
          rotate_left 1
          · (try dsimp only at hSw)
            clear hSw
            go_simp
            try with_reducible rfl
          simp only [List.set_cons_succ, List.set_cons_zero]
          refine takeY 11 35 (v := ?_) rfl rfl (by kernel_rfl) (by kernel_rfl) (by kernel_rfl) (fun _ _ _ h => h) (by rfl) (by kernel_rfl) (by kernel_rfl) (by decide) hHeld (fun w hSw => ?_) ?_
          rotate_left 1
          · (try dsimp only at hSw)
            clear hSw
            go_simp
            try with_reducible rfl
          simp only [List.set_cons_succ, List.set_cons_zero]
          refine takeY 12 36 (v := ?_) rfl rfl (by kernel_rfl) (by kernel_rfl) (by kernel_rfl) (fun _ _ _ h => h) (by rfl) (by kernel_rfl) (by kernel_rfl) (by decide) hHeld (fun w hSw => ?_) ?_
          rotate_left 1
          · (try dsimp only at hSw)
            have e0_ := (hx.grown hSw).c33
            clear hSw
            go_simp
            try with_reducible rfl
          simp only [List.set_cons_succ, List.set_cons_zero]
          refine moveY 13 37 4 rfl rfl rfl (by kernel_rfl) (by kernel_rfl) (by kernel_rfl) (fun _ _ _ h => h) (by rfl) (by kernel_rfl) (by kernel_rfl) (by decide) hHeld rfl ?_
          simp only [List.set_cons_succ, List.set_cons_zero]
          refine takeY 14 38 (v := ?_) rfl rfl (by kernel_rfl) (by kernel_rfl) (by kernel_rfl) (fun _ _ _ h => h) (by rfl) (by kernel_rfl) (by kernel_rfl) (by decide) hHeld (fun w hSw => ?_) ?_
          rotate_left 1
          · (try dsimp only at hSw)
            clear hSw
            go_simp
            try with_reducible rfl
          simp only [List.set_cons_succ, List.set_cons_zero]
          refine takeY 15 39 (v := ?_) rfl rfl (by kernel_rfl) (by kernel_rfl) (by kernel_rfl) (fun _ _ _ h => h) (by rfl) (by kernel_rfl) (by kernel_rfl) (by decide) hHeld (fun w hSw => ?_) ?_
          rotate_left 1
          · (try dsimp only at hSw)
            clear hSw
            go_simp
            try with_reducible rfl
          simp only [List.set_cons_succ, List.set_cons_zero]
          refine takeY 16 40 (v := ?_) rfl rfl (by kernel_rfl) (by kernel_rfl) (by kernel_rfl) (fun _ _ _ h => h) (by rfl) (by kernel_rfl) (by kernel_rfl) (by decide) hHeld (fun w hSw => ?_) ?_
          rotate_left 1
          · (try dsimp only at hSw)
            have e0_ := (hSw.cell (p := ⟨g, k * 2 + 1, none⟩) hgl).trans hc1
            clear hSw
            go_simp
            try with_reducible rfl
          simp only [List.set_cons_succ, List.set_cons_zero]
          refine takeY 17 41 (v := ?_) rfl rfl (by kernel_rfl) (by kernel_rfl) (by kernel_rfl) (fun _ _ _ h => h) (by rfl) (by kernel_rfl) (by kernel_rfl) (by decide) hHeld (fun w hSw => ?_) ?_
          rotate_left 1
          · (try dsimp only at hSw)
            have e0_ := fun c => (hs.below hSw).conv (c := c)
            clear hSw
            go_simp
            try with_reducible rfl
          simp only [List.set_cons_succ, List.set_cons_zero]
          refine takeY 18 42 (v := ?_) rfl rfl (by kernel_rfl) (by kernel_rfl) (by kernel_rfl) (fun _ _ _ h => h) (by rfl) (by kernel_rfl) (by kernel_rfl) (by decide) hHeld (fun w hSw => ?_) ?_
          rotate_left 1
          · (try dsimp only at hSw)
            clear hSw
            go_simp
            try with_reducible rfl
          simp only [List.set_cons_succ, List.set_cons_zero]
          refine takeY 19 43 (v := ?_) rfl rfl (by kernel_rfl) (by kernel_rfl) (by kernel_rfl) (fun _ _ _ h => h) (by rfl) (by kernel_rfl) (by kernel_rfl) (by decide) hHeld (fun w hSw => ?_) ?_
          rotate_left 1
          · (try dsimp only at hSw)
            clear hSw
            go_simp
            try with_reducible rfl
          simp only [List.set_cons_succ, List.set_cons_zero]
          refine takeY 20 44 (v := ?_) rfl rfl (by kernel_rfl) (by kernel_rfl) (by kernel_rfl) (fun _ _ _ h => h) (by rfl) (by kernel_rfl) (by kernel_rfl) (by decide) hHeld (fun w hSw => ?_) ?_
          rotate_left 1
          · (try dsimp only at hSw)
            clear hSw
            go_simp
            try with_reducible rfl
          simp only [List.set_cons_succ, List.set_cons_zero]
          have hxd := hx.grown (Below.refl _ wr).drew
          have f0 := hxd.frozen (1 + lb)
          have g0 := hxd.cS lb hlb
          refine onlyX 21 rfl (by kernel_rfl) (by rfl) (fun K hK => ?_)
          go_wp2_with fail
          refine hK.out _ _ (fun h => absurd rfl h) (fun _ => ?_)
          clear hK K f0 g0
          refine doneX (by kernel_rfl) ?_ _
          go_wp2
          go_roundw
          case rel => exact ⟨k + 1, by omega, by go_num, by rw [hst.out]; exact hx.putS lb hlb ys, (ho.setCell (p := ⟨b, 1 + lb, none⟩) (Or.inl rfl) _).drew⟩
          case measure => simp [intOf]; omega
      · have hkn' : ¬ (k : Int) < n := by omega
        have hv : K.getD k false = false := by rw [List.getD_eq_getElem?_getD, List.getElem?_eq_none (by omega)]; rfl
        have hst : Hid (keptOf (st.Wt.take (k + 1)) K = keptOf (st.Wt.take k) K) := hide' (by rw [hks.out, hv]; simp)
        clear hks hno hv
        go_wp2
        go_roundw
        case rel => exact ⟨k + 1, by omega, by go_num, by rw [hst.out]; exact hx, ho⟩
        case measure => simp [intOf]; omega
    · have hlt' : ¬ (k : Int) < m := by omega
      have hkm : st.Wt.take k = st.Wt := List.take_of_length_le (by have := hmn.out; omega)
      rw [hkm] at hx
      clear hbox
      have f33 := hx.frozen 33
      have hxW := hx.putW (.slice none 0 0)
      have hoW := ho.setCell (p := ⟨b, 33, none⟩) (Or.inl rfl) (.slice none 0 0)
      go_wp2
      go_end0
      have hpost : KeptG (RDInv p) F w (.pointer (some ⟨b, 0, none⟩)) (ROwn FB b (.slice none 0 0) vT) (wr.setCell ⟨b, 33, none⟩ (.slice none 0 0)) (st.crash K) := by
        have hlw := layD_wf (keptOf st.Wt K) st.B hA.wf.n hA.wf.b (fun o ho => hA.wf.w o (kept_mem ho))
        refine ⟨⟨b, FB, .slice none 0 0, vT, rfl, ⟨hxW, opRow_nil _ _, hA.tr.off hoW (fun k hk => (hA.oT k hk).1) (fun k _ hf e => hA.nb (e ▸ hf)), ⟨hlw.1, hlw.2, fun o ho => by cases ho⟩, layD_bytes _ _ hA.bB (fun o ho => hA.wbytes o (kept_mem ho)), hA.nb, fun k hk => Nat.lt_of_lt_of_le (hA.lt k hk) hoW.size, fun k hk => by simp [Value.ownBlock] at hk, hA.oT, fun k hk => by simp [Value.ownBlock] at hk⟩, fun _ => Iff.rfl⟩, ?_, ?_⟩
        · rintro k (hk | hk | hk | hk)
          · exact Or.inl ((HF2.out k).2 (Or.inl hk))
          · simp [Value.ownBlock] at hk
          · exact Or.inl ((HF2.out k).2 (Or.inr (Or.inr (Or.inl hk))))
          · exact Or.inl ((HF2.out k).2 (Or.inr (Or.inr (Or.inr hk))))
        · exact hoW.mono (fun k hk => Or.inl ((HF2.out k).2 (Or.inl hk)))
      first | exact ⟨rfl, _, hpost⟩ | exact ⟨_, rfl, hpost⟩
end Go.Proofs.Ytcjmmfgnnebgkaa


/- What the document's disk comes to: Read. -/
namespace Go.Proofs.Ytcjmmfgnnebgkaa
open Go.RowKit
set_option maxRecDepth 20000

theorem goneP {G : Nat → Prop} {w : World} {a : Addr} {q : PSt} (h : RPInv G w (.pointer (some a)) q) : ∃ bq, a = ⟨bq, 0, none⟩ ∧ w.cell? ⟨bq, 0, none⟩ = some (.bool (!q.1)) ∧ G bq := by
  obtain ⟨b, e, ⟨f, l, hb, _⟩, hF⟩ := h
  obtain rfl : a = ⟨b, 0, none⟩ := by simpa using e
  exact ⟨b, rfl, CBox.cell hb 0, (hF b).2 rfl⟩
theorem rdreadOut (p : Option Addr) (F : Nat → Prop) (v : Value) (st : DskSt) (lba : Int) (hl : lba < 0 ∨ 32 ≤ lba) (w : World) (hD : RDInv p F w v st) :
    Calls Try.prog 17 #[v, .int .i64 lba] w fun e w' => ∃ F', e = .returned (.tuple #[.slice none 0 0, .bool false]) ∧ KeptG (RDInv p) F w v F' w' st := by
  have hb0 := (rdbase p)
  have hD0 := hide' hD
  obtain ⟨b, FB, vW, vT, rfl, hA, hF⟩ := hD
  have hi := is_no lba hl
  clear hl hA hF
  go_enter Try.func17, Try.ntmps17
  go_wp2_with fail
  refine (hi _).mono ?_
  rintro e w1 ⟨rfl, hb⟩
  go_wp2
  go_ret2
  have hpost := (rdbase p).kept hD0.out hb
  first | exact ⟨rfl, _, hpost⟩ | exact ⟨_, rfl, hpost⟩
theorem rdreadGone (p : Option Addr) (F G : Nat → Prop) (v : Value) (st : DskSt) (q : PSt) (lba : Nat) (hl : lba < 32) (hq : q.1 = false) (w : World) (hD : RDInv p F w v st) (hP : RPInv G w (.pointer p) q) :
    Calls Try.prog 17 #[v, .int .i64 (lba : Int)] w fun e w' => ∃ F', e = .returned (.tuple #[.slice none 0 0, .bool false]) ∧ KeptG (RDInv p) F w v F' w' st := by
  have hD0 := hide' hD
  obtain ⟨b, FB, vW, vT, rfl, hA, hF⟩ := hD
  obtain ⟨pa, rfl⟩ : ∃ pa, p = some pa := by
    obtain ⟨b', e, _⟩ := hP
    exact ⟨_, by simpa using e⟩
  obtain ⟨bq, rfl, hg, -⟩ := goneP hP
  rw [hq] at hg
  have hi := is_yes lba hl
  have hbl := hA.box.lt
  have hql := World.block_lt_of_cell? w _ hg
  have k0 := hA.box.c0
  go_enter Try.func17, Try.ntmps17
  go_wp2_with fail
  refine (hi _).mono ?_
  rintro e w1 ⟨rfl, hb⟩
  replace hg := (hb.cell (p := ⟨bq, 0, none⟩) hql).trans hg
  replace k0 := (hb.cell (p := ⟨b, 0, none⟩) hbl).trans k0
  clear hP
  go_wp2
  go_ret2
  have hpost := (rdbase (some ⟨bq, 0, none⟩)).kept hD0.out hb
  first | exact ⟨rfl, _, hpost⟩ | exact ⟨_, rfl, hpost⟩
set_option maxRecDepth 10000 in
set_option maxHeartbeats 2000000 in
theorem rdread (p : Option Addr) (F G : Nat → Prop) (v : Value) (st : DskSt) (q : PSt) (lba : Nat) (hl : lba < 32) (hq : q.1 = true) (hWl : st.Wt.length ≤ 1000000) (w : World) (hD : RDInv p F w v st) (hP : RPInv G w (.pointer p) q) :
    Calls Try.prog 17 #[v, .int .i64 (lba : Int)] w fun e w' => ∃ z cz F', e = .returned (.tuple #[.slice z 32 cz, .bool true]) ∧ KeptG (RDInv p) F w v F' w' st ∧ SIn (NewOf w F') w' z 32 (st.cur lba) := by
  have hD0 := hide' hD
  obtain ⟨b, FB, vW, vT, rfl, hA, hF⟩ := hD
  obtain ⟨pa, rfl⟩ : ∃ pa, p = some pa := by
    obtain ⟨b', e, _⟩ := hP
    exact ⟨_, by simpa using e⟩
  obtain ⟨bq, rfl, hg, -⟩ := goneP hP
  rw [hq] at hg
  have hi := is_yes lba hl
  have hql := World.block_lt_of_cell? w _ hg
  have hlbi : (lba : Int) < 32 := by omega
  have hown := hA.own
  go_enter Try.func17, Try.ntmps17
  go_wp2_with fail
  refine (hi _).mono ?_
  rintro e w1 ⟨rfl, hb⟩
  replace hg := (hb.cell (p := ⟨bq, 0, none⟩) hql).trans hg
  replace hA := hA.below hb
  clear hP hi
  have k0 := hA.box.c0
  have kS := hA.box.cS lba hl
  have k33 := hA.box.c33
  obtain ⟨yW, cW, rfl, -, -, -⟩ := hA.wt.is
  obtain ⟨m, hm⟩ : ∃ m, (wOps st.Wt).length = m := ⟨_, rfl⟩
  rw [hm] at hA hown hF k33
  have HF2 := hide' hF
  have hmn : Hid (m = st.Wt.length) := hide' (by rw [← hm, wOps_len])
  have hmb : Hid (m ≤ 1000000) := hide' (by have := hmn.out; omega)
  clear hm hF
  go_wp2_with fail
  go_loop [6, 7] (fun s i => ∃ k : Nat, k ≤ m ∧ i = .int .i64 (k : Int) ∧ s = .string (strOfNums ((layD st.B (st.Wt.take k)).getD lba []))) (fun _ i => m - (intOf i).toNat)
  case atStart => exact ⟨0, Nat.zero_le _, rfl, rfl⟩
  case round =>
    obtain ⟨k, hk, rfl, rfl⟩ := hrel
    by_cases hlt : k < m
    · have hlt' : (k : Int) < m := by omega
      have hw : IntKind.i64.wrap ((k : Int) + 1) = (k : Int) + 1 := by
        have := hmb.out
        rw [IntKind.wrap_i64]
        omega
      obtain ⟨g, lb, ys, z, cz, rfl, hgl, hob, hlb, hys, bys, hs, -, hc0, hc1⟩ := wt_at hA.wt hmn.out hA.wf.w hlt
      have hst := hide' (layD_take st.B st.Wt k (by have := hmn.out; omega) hob)
      have e0_ := fun c => hs.conv (c := c)
      clear hob
      by_cases he : lb = lba
      · subst he
        have hv := hide' (show ((layD st.B (st.Wt.take (k + 1))).getD lb []) = ys from by rw [hst.out, List.getD_eq_getElem?_getD, List.getElem?_set, if_pos rfl, layD_len, if_pos (by rw [hA.wf.n]; exact hlb)]; rfl)
        go_wp2
        go_round
        case rel => exact ⟨k + 1, by omega, by go_num, by rw [hv.out]⟩
        case measure => simp [intOf]; omega
      · have he' : ¬ (lb : Int) = lba := by omega
        have hv := hide' (show ((layD st.B (st.Wt.take (k + 1))).getD lba []) = (layD st.B (st.Wt.take k)).getD lba [] from by rw [hst.out, List.getD_eq_getElem?_getD, List.getElem?_set, if_neg he, ← List.getD_eq_getElem?_getD])
        go_wp2
        go_round
        case rel => exact ⟨k + 1, by omega, by go_num, by rw [hv.out]⟩
        case measure => simp [intOf]; omega
    · have hlt' : ¬ (k : Int) < m := by omega
      rw [show st.Wt.take k = st.Wt from List.take_of_length_le (by have := hmn.out; omega)]
      obtain ⟨xs, hxs⟩ : ∃ xs, (layD st.B st.Wt).getD lba [] = xs := ⟨_, rfl⟩
      have hlw := layD_wf st.Wt st.B hA.wf.n hA.wf.b hA.wf.w
      have hxl : xs.length = 32 := by rw [← hxs]; exact getD_len hlw.1 hlw.2 lba hl
      have bxs : Bytes xs := by
        have hlt2 : lba < (layD st.B st.Wt).length := by rw [hlw.1]; exact hl
        rw [← hxs, List.getD_eq_getElem?_getD, List.getElem?_eq_getElem hlt2, Option.getD_some]
        exact layD_bytes _ _ hA.bB hA.wbytes _ (List.getElem_mem hlt2)
      rw [hxs]
      obtain ⟨cap, w2, hconv, hat, hsz, hb2, -⟩ := conv_back xs bxs 32 hxl w1
      go_wp2
      go_ret2
      have hB := hb.trans (hb2.mono hb.size)
      have hpost := (rdbase (some ⟨bq, 0, none⟩)).kept hD0.out hB
      have hs2 : SIn (NewOf w F) w2 (some ⟨w1.heap.size, 0, none⟩) 32 (st.cur lba) := by
        show SIn _ _ _ _ ((layD st.B st.Wt).getD lba [])
        rw [hxs]
        exact ⟨hxl, fun _ => ⟨w1.heap.size, 0, rfl, hsz, ⟨hb.size, fun hf => by have := hown _ ((HF2.out _).1 hf); have := hb.size; omega⟩, hat⟩⟩
      first | exact ⟨_, _, rfl, _, hpost, hs2⟩ | exact ⟨_, _, _, rfl, hpost, hs2⟩ | exact ⟨_, ⟨_, rfl⟩, _, hpost, hs2⟩
end Go.Proofs.Ytcjmmfgnnebgkaa


/- Regions whose order Go leaves open and that store into two cells which they load: what is asked of a world till the one store, and till the other one, is done. -/
namespace Go.Proofs.Ytcjmmfgnnebgkaa
open Go.RowKit
set_option maxRecDepth 20000
section
theorem share4 {Cond T : Nat → Nat → Value → World → Prop} {X : Prop} (h1 : (∀ a b c d, Cond a b c d → T a b c d) → X) (h2 : ∀ a b c d, Cond a b c d → T a b c d) : X := h1 h2
variable {P : Program} {ops : Array Oper} {Q : Exit → Act → World → Prop} {md : Region.Mode}

/-- Com holds of every world; A1 till number k1 is done, A2 till number k2 is. -/
structure Till (Com A1 A2 : World → Prop) (k1 k2 : Nat) (l : Array Bool) (w : World) : Prop where
  com : Com w
  one : l.getD k1 false = false → A1 w
  two : l.getD k2 false = false → A2 w
variable {Com A1 A2 : World → Prop} {k1 k2 : Nat}
def wpAnyI (P : Program) (md : Region.Mode) (ops : Array Oper) (Q : Exit → Act → World → Prop) (S : Array Bool → World → Prop) : Nat → Array Bool → Act → World → Prop
  | 0, listed, a, w => Region.ready md ops listed = [] ∧ Q .normal a w
  | fuel + 1, listed, a, w => (Region.ready md ops listed = [] → Q .normal a w) ∧
    ∀ i ∈ Region.ready md ops listed, wpOp P ops Q i (fun a' w' => S (listed.setIfInBounds i true) w' ∧ wpAnyI P md ops Q S fuel (listed.setIfInBounds i true) a' w') a w
theorem wpAny_of_I {S : Array Bool → World → Prop} : ∀ (fuel : Nat) (listed : Array Bool) (a : Act) (w : World), wpAnyI P md ops Q S fuel listed a w → wpAny P md ops Q fuel listed a w
  | 0, _, _, _, h => h
  | fuel + 1, _, _, _, h => ⟨h.1, fun i hi => wpOp_mono (fun a' w' h' => wpAny_of_I fuel _ a' w' h'.2) (h.2 i hi)⟩
theorem getD_other {l : Array Bool} {i j : Nat} (h : i ≠ j) (b : Bool) : (l.setIfInBounds i true).getD j b = l.getD j b := by
  simp [Array.getD_eq_getD_getElem?, Array.getElem?_setIfInBounds_ne h]
theorem Till.set {l : Array Bool} {w : World} {i : Nat} (h1 : i ≠ k1) (h2 : i ≠ k2) (h : Till Com A1 A2 k1 k2 l w) : Till Com A1 A2 k1 k2 (l.setIfInBounds i true) w :=
  ⟨h.com, fun e => h.one (by rw [getD_other h1] at e; exact e), fun e => h.two (by rw [getD_other h2] at e; exact e)⟩
theorem Till.drop {l : Array Bool} {w : World} {i : Nat} (h1 : i ≠ k1) (h2 : i ≠ k2) (h : Till Com A1 A2 k1 k2 (l.setIfInBounds i true) w) : Till Com A1 A2 k1 k2 l w :=
  ⟨h.com, fun e => h.one (by rw [getD_other h1]; exact e), fun e => h.two (by rw [getD_other h2]; exact e)⟩
/-- What holds while number i isn't done. -/
def Yet (md : Region.Mode) (ops : Array Oper) (Com A1 A2 : World → Prop) (k1 k2 i : Nat) (w : World) : Prop := Com w ∧ (waitsN md ops ops.size k1 i = true → A1 w) ∧ (waitsN md ops ops.size k2 i = true → A2 w)
theorem ready_un {l : Array Bool} {i : Nat} (hr : i ∈ Region.ready md ops l) : l.getD i false = false := by
  have h0 := (mem_ready.1 hr).1
  rcases Nat.lt_or_ge i l.size with h' | h'
  · simp [h'] at h0 ⊢
    exact h0
  · simp [Array.getElem?_eq_none h']
theorem yet_of {l : Array Bool} {w : World} {i : Nat} (hc : Clo md ops l) (hi : l.getD i false = false) (h : Till Com A1 A2 k1 k2 l w) : Yet md ops Com A1 A2 k1 k2 i w := by
  have key : ∀ k, waitsN md ops ops.size k i = true → l.getD k false = false := fun k hw => by
    cases hk : l.getD k false with
    | false => rfl
    | true =>
      exfalso
      cases ho : ops[k]? with
      | none =>
        cases hs : ops.size with
        | zero => rw [hs] at hw; simp [waitsN] at hw
        | succ n => rw [hs] at hw; simp [waitsN, ho] at hw
      | some o =>
        have := clo_waits hc _ k i o ho (fun e he hb => hc k o ho hk e he hb) hw
        rw [hi] at this
        cases this
  exact ⟨h.com, fun hw => h.one (key k1 hw), fun hw => h.two (key k2 hw)⟩
/-- An operation that yields its value wherever it may come up, comes up first. -/
theorem firstI {i : Nat} {oi : Oper} {v : Value} (hi : ops[i]? = some oi) (hsel : ∀ (j : Nat) (o : Oper) cs b, ops[j]? = some o → o.op ≠ .select cs b)
    (hQ : ∀ c a w, Q (.panic c) (a.put oi.dst v) w → Q (.panic c) a w) (h1 : i ≠ k1) (h2 : i ≠ k2) :
    ∀ (fuel : Nat) (listed : Array Bool) (a : Act) (w : World), Clo md ops listed →
      (∀ j oj, ops[j]? = some oj → j ≠ i → listed.getD j true = false → (∀ e ∈ oj.after, Region.binds md e = true → e.on ≠ i) → oi.apart ops oj = true) →
      i ∈ Region.ready md ops listed → YieldsIf P ops (Yet md ops Com A1 A2 k1 k2 i) oi v a → Till Com A1 A2 k1 k2 listed w →
      wpAnyI P md ops Q (Till Com A1 A2 k1 k2) fuel (listed.setIfInBounds i true) (a.put oi.dst v) w → wpAnyI P md ops Q (Till Com A1 A2 k1 k2) (fuel + 1) listed a w := by
  intro fuel
  induction fuel with
  | zero =>
    intro listed a w hclo _ hr hy hS H
    refine ⟨fun h => (by rw [h] at hr; cases hr), fun j hj => ?_⟩
    by_cases hji : j = i
    · subst hji
      exact hy.wpOp hi (yet_of hclo (ready_un hr) hS) ⟨hS.set h1 h2, H⟩
    · have := ready_mono hj hji
      rw [H.1] at this
      cases this
  | succ fuel ih =>
    intro listed a w hclo hfree hr hy hS H
    refine ⟨fun h => (by rw [h] at hr; cases hr), fun j hj => ?_⟩
    by_cases hji : j = i
    · subst hji
      exact hy.wpOp hi (yet_of hclo (ready_un hr) hS) ⟨hS.set h1 h2, H⟩
    · have h3 := H.2 j (ready_mono hj hji)
      obtain ⟨hjun, oj, hoj, hall⟩ := mem_ready.1 hj
      have hiun := ready_un hr
      have hnot : ∀ e ∈ oj.after, Region.binds md e = true → e.on ≠ i := fun e he hb heq => by
        have h1 := ready_deps hj hoj e he hb
        rw [heq, hiun] at h1
        cases h1
      have h4 := wpOp_putIf hoj (hfree j oj hoj hji hjun hnot) (fun cs b => hsel i oi cs b hi) (fun cs b => hsel j oj cs b hoj) hQ hy h3
      have hfree' : ∀ k ok, ops[k]? = some ok → k ≠ i → (listed.setIfInBounds j true).getD k true = false →
          (∀ e ∈ ok.after, Region.binds md e = true → e.on ≠ i) → oi.apart ops ok = true := fun k ok hk hki hun hno => by
        refine hfree k ok hk hki ?_ hno
        by_cases hjk : j = k
        · subst hjk
          exact hjun
        · rw [getD_set_ne true hjk] at hun
          exact hun
      refine wpOp_mono (fun a' w' h5 => ?_) h4
      obtain ⟨h6, h7, h8⟩ := h5
      rw [Array.setIfInBounds_comm _ _ (Ne.symm hji)] at h7
      have hS' := h7.drop h1 h2
      refine ⟨hS', ih (listed.setIfInBounds j true) a' w' (clo_set hclo hj) hfree' (ready_mono hr (Ne.symm hji)) h6 hS' ?_⟩
      rw [Array.setIfInBounds_comm _ _ hji]
      exact h8
theorem startI {id : Nat} {a : Act} {w : World} (hm : P.follows .mixedOrders = true) (hS : Till Com A1 A2 k1 k2 (Array.replicate ops.size false) w.drew) (h : Till Com A1 A2 k1 k2 (Array.replicate ops.size false) w.drew → wpAnyI P .any ops Q (Till Com A1 A2 k1 k2) ops.size (Array.replicate ops.size false) a w.drew) : (Code.region id ops true).wp P Q a w :=
  wp_region_any hm (wpAny_of_I _ _ _ _ (h hS))
variable {fuel : Nat} {listed : Array Bool} {t : List Value} {d : List Deferred} {w : World}
theorem doneI {S : Array Bool → World → Prop} {a : Act} (hr : Region.ready md ops listed = []) (h : Q .normal a w) : ∀ fuel, wpAnyI P md ops Q S fuel listed a w
  | 0 => ⟨hr, h⟩
  | _ + 1 => ⟨fun _ => h, by rw [hr]; simp⟩
theorem takeI (i k : Nat) {oi : Oper} {v : Value} (hi : ops[i]? = some oi) (hd : oi.dst = some k)
    (hs : Region.noSelect ops = true) (hf : Region.free md ops listed i = true) (hr : (Region.ready md ops listed).contains i = true)
    (hQ : ∀ c a w, Q (.panic c) (a.put oi.dst v) w → Q (.panic c) a w) (hw : Region.wanted oi (yielded ops t.toArray) = true) (hc : cloB md ops listed = true) (h12 : i ≠ k1 ∧ i ≠ k2) (hS : Till Com A1 A2 k1 k2 listed w)
    (hy : ∀ w, Yet md ops Com A1 A2 k1 k2 i w → (execOp (Act.eval ⟨t.toArray, d⟩) oi).run P w = .ok (.value v) w)
    (h : Till Com A1 A2 k1 k2 (listed.setIfInBounds i true) w → wpAnyI P md ops Q (Till Com A1 A2 k1 k2) fuel (listed.setIfInBounds i true) ⟨(t.set k v).toArray, d⟩ w) : wpAnyI P md ops Q (Till Com A1 A2 k1 k2) (fuel + 1) listed ⟨t.toArray, d⟩ w := by
  refine firstI hi (Region.noSelect_spec hs) hQ h12.1 h12.2 fuel listed _ w (clo_of hc) (Region.free_spec hi hf) (by simpa using hr) (Or.inl ⟨hw, hy⟩) hS ?_
  have e : Act.put ⟨t.toArray, d⟩ oi.dst v = ⟨(t.set k v).toArray, d⟩ := by simp [hd, Act.put]
  rw [e]
  exact h (hS.set h12.1 h12.2)
theorem moveI (i k x : Nat) {oi : Oper} {v : Value} (hi : ops[i]? = some oi) (hd : oi.dst = some k) (ho : oi.op = .move (.tmp x))
    (hs : Region.noSelect ops = true) (hf : Region.free md ops listed i = true) (hr : (Region.ready md ops listed).contains i = true)
    (hQ : ∀ c a w, Q (.panic c) (a.put oi.dst v) w → Q (.panic c) a w) (hw : Region.wanted oi (yielded ops t.toArray) = true) (hc : cloB md ops listed = true) (h12 : i ≠ k1 ∧ i ≠ k2) (hS : Till Com A1 A2 k1 k2 listed w)
    (hv : t[x]? = some v)
    (h : Till Com A1 A2 k1 k2 (listed.setIfInBounds i true) w → wpAnyI P md ops Q (Till Com A1 A2 k1 k2) fuel (listed.setIfInBounds i true) ⟨(t.set k v).toArray, d⟩ w) : wpAnyI P md ops Q (Till Com A1 A2 k1 k2) (fuel + 1) listed ⟨t.toArray, d⟩ w :=
  takeI i k hi hd hs hf hr hQ hw hc h12 hS (fun w _ => by rw [BigFrame.run_move _ ho w, eval_slot hv]) h
/-- The one operation that may come up now. -/
theorem onlyI {S : Array Bool → World → Prop} (i : Nat) {oi : Oper} {a : Act} (hi : ops[i]? = some oi) (hg : oi.guard = none) (hr : Region.ready md ops listed = [i])
    (h : Oper.wp P oi a w (fun a' w' => S (listed.setIfInBounds i true) w' ∧ wpAnyI P md ops Q S fuel (listed.setIfInBounds i true) a' w') Q) : wpAnyI P md ops Q S (fuel + 1) listed a w := by
  refine ⟨fun h0 => (by rw [hr] at h0; cases h0), fun j hj => ?_⟩
  rw [hr] at hj
  obtain rfl : j = i := by simpa using hj
  have hw : Region.wanted oi (yielded ops a.tmps) = true := by simp [Region.wanted, hg]
  unfold wpOp
  simp only [hi, hw, if_true]
  exact Or.inl h
theorem onlyK {S : Array Bool → World → Prop} (i : Nat) {oi : Oper} {a : Act} (hi : ops[i]? = some oi) (hg : oi.guard = none) (hr : Region.ready md ops listed = [i])
    (h : ∀ K : Act → World → Prop, Shut (∀ a' w', S (listed.setIfInBounds i true) w' → (S (listed.setIfInBounds i true) w' → wpAnyI P md ops Q S fuel (listed.setIfInBounds i true) a' w') → K a' w') → Oper.wp P oi a w K Q) : wpAnyI P md ops Q S (fuel + 1) listed a w :=
  onlyI i hi hg hr (h _ (fun _ _ hS hn => ⟨hS, hn hS⟩))
/-- Two may. -/
theorem twoI {S : Array Bool → World → Prop} (i j : Nat) {oi oj : Oper} {a : Act} (hi : ops[i]? = some oi) (hgi : oi.guard = none) (hj : ops[j]? = some oj) (hgj : oj.guard = none) (hr : Region.ready md ops listed = [i, j])
    (h1 : Oper.wp P oi a w (fun a' w' => S (listed.setIfInBounds i true) w' ∧ wpAnyI P md ops Q S fuel (listed.setIfInBounds i true) a' w') Q)
    (h2 : Oper.wp P oj a w (fun a' w' => S (listed.setIfInBounds j true) w' ∧ wpAnyI P md ops Q S fuel (listed.setIfInBounds j true) a' w') Q) : wpAnyI P md ops Q S (fuel + 1) listed a w := by
  refine ⟨fun h0 => (by rw [hr] at h0; cases h0), fun k hk => ?_⟩
  rw [hr] at hk
  simp only [List.mem_cons, List.not_mem_nil, or_false] at hk
  have hwi : Region.wanted oi (yielded ops a.tmps) = true := by simp [Region.wanted, hgi]
  have hwj : Region.wanted oj (yielded ops a.tmps) = true := by simp [Region.wanted, hgj]
  unfold wpOp
  rcases hk with rfl | rfl
  · simp only [hi, hwi, if_true]
    exact Or.inl h1
  · simp only [hj, hwj, if_true]
    exact Or.inl h2
end
end Go.Proofs.Ytcjmmfgnnebgkaa


/- What the document's disk comes to: Write: two rows that grow by one write, in whatever order. -/
namespace Go.Proofs.Ytcjmmfgnnebgkaa
open Go.RowKit
set_option maxRecDepth 20000

theorem putS_slot {t : List Value} {d : List Deferred} {k : Nat} {v : Value} {o : Oper} (h : o.dst = some k) : Act.put ⟨t.toArray, d⟩ o.dst v = ⟨(t.set k v).toArray, d⟩ := by simp [h, Act.put]
/-- A row of one write that is laid for append. -/
theorem wp_op1 {o : Oper} {t : List Value} {d : List Deferred} {w : World} {K : Act → World → Prop} {Q : Exit → Act → World → Prop} {k s : Nat} {n : Int} {z : Option Addr} {l cz : Nat} (hd : o.dst = some k) (ho : o.op = .buildSlice 45 1 #[(0, .tmp s)]) (hs : t[s]? = some (.agg #[.int .i64 n, .slice z l cz]))
    (h : K ⟨(t.set k (.slice (some ⟨w.heap.size, 0, none⟩) 1 1)).toArray, d⟩ (w.alloc (.cells #[.int .i64 n, .slice z l cz] 62))) : o.wp Try.prog ⟨t.toArray, d⟩ w K Q := by
  have he := eval_slot (d := d) hs
  have hrun : (Instr.buildSlice 45 1 #[(0, .agg #[.int .i64 n, .slice z l cz])]).run Try.prog w = .ok (.slice (some ⟨w.heap.size, 0, none⟩) 1 1) (w.alloc (.cells #[.int .i64 n, .slice z l cz] 62)) := by go_simp
  rw [← putS_slot hd] at h
  generalize (⟨t.toArray, d⟩ : Act) = a at *
  unfold Oper.wp execOp
  simp only [ho, List.map_toArray, List.map_cons, List.map_nil, he, Sem.run_bind, hrun, Result.andThen_ok, Sem.run_pure]
  exact h
theorem wp_opA {o : Oper} {t : List Value} {d : List Deferred} {w : World} {K : Act → World → Prop} {Q : Exit → Act → World → Prop} {k s x : Nat} (hd : o.dst = some k)
    (ho : o.op = .call { callee := .builtin .append, args := #[.tmp s, .tmp x], argTypes := #[45, 45] }) (G : Nat → Prop) (v : Value) (L : List (Int × List Int)) (hs : t[s]? = some v) (hrow : OpRow G w v L) (hG : ∀ k, v.ownBlock = some k → ¬ G k)
    (g : Nat) (p : Int × List Int) (c : Option Addr × Nat) (hx : t[x]? = some (.slice (some ⟨g, 0, none⟩) 1 1)) (h0 : w.cell? ⟨g, 0, none⟩ = some (.int .i64 p.1)) (h1 : w.cell? ⟨g, 1, none⟩ = some (.slice c.1 p.2.length c.2)) (hp : OpAt G w p c) (hL : L.length ≤ 1000000)
    (h : ∀ v' w', OpRow G w' v' (L ++ [p]) → w.grownBy w' v.ownBlock → (∀ k, v'.ownBlock = some k → v.ownBlock = some k ∨ w.heap.size ≤ k) → K ⟨(t.set k v').toArray, d⟩ w') : o.wp Try.prog ⟨t.toArray, d⟩ w K Q := by
  refine wp_op_app (.tmp s) (.tmp x) ho G v L (eval_slot hs) hrow hG g p c (eval_slot hx) h0 h1 hp hL fun v' w' h2 h3 h4 => ?_
  rw [putS_slot hd]
  exact h v' w' h2 h3 h4
/-- On the way: the row laid for the one (g7), the row of the one that has grown (v8), the row laid for the other one (g14). -/
structure JW (w0 : World) (G : Nat → Prop) (vW vT : Value) (LW LT : List (Int × List Int)) (p : Int × List Int) (c : Option Addr × Nat) (d7 d8 d14 : Bool) (g7 g14 : Nat) (v8 : Value) (w : World) : Prop where
  off : Off (fun k => vW.ownBlock = some k) w0 w
  rW : d8 = false → OpRow G w vW LW
  rT : OpRow G w vT LT
  c7 : d7 = true → d8 = false → w.cell? ⟨g7, 0, none⟩ = some (.int .i64 p.1) ∧ w.cell? ⟨g7, 1, none⟩ = some (.slice c.1 p.2.length c.2)
  c14 : d14 = true → (w.cell? ⟨g14, 0, none⟩ = some (.int .i64 p.1) ∧ w.cell? ⟨g14, 1, none⟩ = some (.slice c.1 p.2.length c.2)) ∧ w0.heap.size ≤ g14
  r8 : d8 = true → OpRow G w v8 (LW ++ [p]) ∧ ∀ k, v8.ownBlock = some k → vW.ownBlock = some k ∨ w0.heap.size ≤ k
  at_ : OpAt G w p c
section
variable {w0 w : World} {G : Nat → Prop} {vW vT v8 : Value} {LW LT : List (Int × List Int)} {p : Int × List Int} {c : Option Addr × Nat} {d7 d8 d14 : Bool} {g7 g14 : Nat}
theorem JW.grow (h : JW w0 G vW vT LW LT p c d7 d8 d14 g7 g14 v8 w) {w' : World} (hb : Below w.heap.size w w') : JW w0 G vW vT LW LT p c d7 d8 d14 g7 g14 v8 w' := by
  have ho : Off (fun _ => False) w w' := Off.of_below hb
  have hc : ∀ {g i : Nat} {u : Value}, w.cell? ⟨g, i, none⟩ = some u → w'.cell? ⟨g, i, none⟩ = some u := fun {g i u} hu => (hb.cell (p := ⟨g, i, none⟩) (World.block_lt_of_cell? w _ hu)).trans hu
  exact ⟨h.off.more hb, fun e => (h.rW e).off ho (fun _ _ h => h) (fun _ _ _ h => h), h.rT.off ho (fun _ _ h => h) (fun _ _ _ h => h), fun e1 e2 => ⟨hc (h.c7 e1 e2).1, hc (h.c7 e1 e2).2⟩, fun e => ⟨⟨hc (h.c14 e).1.1, hc (h.c14 e).1.2⟩, (h.c14 e).2⟩, fun e => ⟨(h.r8 e).1.off ho (fun _ _ h => h) (fun _ _ _ h => h), (h.r8 e).2⟩, h.at_.off ho (fun _ _ _ h => h)⟩
theorem JW.lay7 (h : JW w0 G vW vT LW LT p c false false d14 g7 g14 v8 w) : JW w0 G vW vT LW LT p c true false d14 w.heap.size g14 v8 (w.alloc (.cells #[.int .i64 p.1, .slice c.1 p.2.length c.2] 62)) := by
  have h' := h.grow ((Below.refl w.heap.size w).alloc (Nat.le_refl _) (.cells #[.int .i64 p.1, .slice c.1 p.2.length c.2] 62))
  exact ⟨h'.off, h'.rW, h'.rT, fun _ _ => ⟨by simp, by simp⟩, h'.c14, h'.r8, h'.at_⟩
theorem JW.lay14 (h : JW w0 G vW vT LW LT p c d7 d8 false g7 g14 v8 w) : JW w0 G vW vT LW LT p c d7 d8 true g7 w.heap.size v8 (w.alloc (.cells #[.int .i64 p.1, .slice c.1 p.2.length c.2] 62)) := by
  have h' := h.grow ((Below.refl w.heap.size w).alloc (Nat.le_refl _) (.cells #[.int .i64 p.1, .slice c.1 p.2.length c.2] 62))
  exact ⟨h'.off, h'.rW, h'.rT, h'.c7, fun _ => ⟨⟨by simp, by simp⟩, h.off.size⟩, h'.r8, h'.at_⟩
theorem JW.app8 (h : JW w0 G vW vT LW LT p c true false d14 g7 g14 v8 w) (hWl : ∀ k, vW.ownBlock = some k → k < w0.heap.size) (hWG : ∀ k, vW.ownBlock = some k → ¬ G k) (hoo : ∀ k, vW.ownBlock = some k → vT.ownBlock ≠ some k) {v' : Value} {w' : World}
    (h2 : OpRow G w' v' (LW ++ [p])) (h3 : w.grownBy w' vW.ownBlock) (h4 : ∀ k, v'.ownBlock = some k → vW.ownBlock = some k ∨ w.heap.size ≤ k) : JW w0 G vW vT LW LT p c true true d14 g7 g14 v' w' := by
  have ho : Off (fun k => vW.ownBlock = some k) w w' := (Off.refl _ w).grown h3 (fun k hk => Or.inl hk)
  refine ⟨h.off.trans ho (fun _ hk => Or.inl hk), fun e => (by cases e), h.rT.off ho (fun k hk e => hoo k e hk) (fun k _ hg e => hWG k e hg), fun _ e => (by cases e), fun e => ?_, fun _ => ⟨h2, fun k hk => (h4 k hk).imp id (fun e => Nat.le_trans h.off.size e)⟩, h.at_.off ho (fun k _ hg e => hWG k e hg)⟩
  obtain ⟨⟨c0, c1⟩, hg⟩ := h.c14 e
  have hn : ¬ vW.ownBlock = some g14 := fun e => by have := hWl g14 e; omega
  exact ⟨⟨(ho.cell (p := ⟨g14, 0, none⟩) (World.block_lt_of_cell? w _ c0) hn).trans c0, (ho.cell (p := ⟨g14, 1, none⟩) (World.block_lt_of_cell? w _ c1) hn).trans c1⟩, hg⟩
end
end Go.Proofs.Ytcjmmfgnnebgkaa
