/- OImW OrcImpl RefSeal RefOpen: texts laid together. -/
import Derived.Test.YtkbhkgfchiacbaaM16
import Derived.DeepKeys4
import Derived.Test.YtkbhkgfchiacbaaM15
import Derived.Test.YtkbhkgfchiacbaaM06

/- What the program's Twice comes to. -/
namespace Go.Proofs.Ytkbhkgfchiacbaa
open Go.RowKit Go.Maps
set_option maxRecDepth 20000
open Go.WideMaps (KeyLaw)

theorem Try.rowUse : (90 : TypeId) < Try.prog.types.size := of_decide_eq_true (by kernel_rfl)
theorem Try.wideUse : (match Try.prog.underlying 90 with | some (.array _ _) | some (.struct _) => true | _ => false) = true := by kernel_rfl
theorem klawU : KeyLaw Try.prog 90 := deep_law_laid Try.laidOut (m := 4) (by omega) Try.rowUse (by kernel_rfl) Try.wideUse
theorem lawU : Keyed Try.prog 90 := Keyed.of_law klawU
theorem Try.underlyingUses : Try.prog.underlying 99 = some (.map 90 3) := by kernel_rfl
theorem Try.underlyingInt : Try.prog.underlying 3 = some (.int .i64) := by kernel_rfl
theorem zeroI (w : World) : (zeroValue 3).run Try.prog w = .ok (.int .i64 0) w := by kernel_rfl
theorem Try.cellsUse : Try.prog.cellsOf 90 = 5 := by kernel_rfl
theorem Try.cellsPair : Try.prog.cellsOf 34 = 2 := by kernel_rfl
theorem Try.cellsNon : Try.prog.cellsOf 74 = 3 := by kernel_rfl
theorem Try.cellsU64 : Try.prog.cellsOf 32 = 1 := by kernel_rfl
theorem Try.cellsU32 : Try.prog.cellsOf 72 = 1 := by kernel_rfl
theorem Try.keyUse : Try.prog.keyType 90 = true := by kernel_rfl
theorem Try.underlyingU32 : Try.prog.underlying 72 = some (.int .u32) := by kernel_rfl
theorem Try.some3 : 2 ≤ Try.prog.types.size := of_decide_eq_true (by kernel_rfl)
def uV (zk : BitVec 64 × BitVec 64) (zn : Nn) : Value := (.agg #[.int .u64 (nv zk.1), .int .u64 (nv zk.2), .int .u32 (nv32 zn.1), .int .u32 (nv32 zn.2.1), .int .u64 (nv zn.2.2)])
theorem keyU (zk : BitVec 64 × BitVec 64) (zn : Nn) : ∃ l, keyOf Try.prog 90 (uV zk zn) = some l := by
  have w1 : (Lit.int .u64 (nv zk.1)).wf = true := WalkArith.wf_u64 (by have := nv_range zk.1; omega)
  have w2 : (Lit.int .u64 (nv zk.2)).wf = true := WalkArith.wf_u64 (by have := nv_range zk.2; omega)
  have w3 : (Lit.int .u32 (nv32 zn.1)).wf = true := WalkArith.wf_u32 (by have := nv32_range zn.1; omega)
  have w4 : (Lit.int .u32 (nv32 zn.2.1)).wf = true := WalkArith.wf_u32 (by have := nv32_range zn.2.1; omega)
  have w5 : (Lit.int .u64 (nv zn.2.2)).wf = true := WalkArith.wf_u64 (by have := nv_range zn.2.2; omega)
  obtain ⟨m, hm⟩ : ∃ m, Try.prog.types.size + 1 = m + 1 + 1 + 1 := ⟨Try.prog.types.size - 2, by have := Try.some3; omega⟩
  unfold keyOf
  simp only [Try.underlying90]
  rw [if_pos (by simp [Try.keyUse, Value.formed, uV, Try.underlying90, Try.cellsUse]), hm]
  simp [Program.keyLits, Try.underlying90, Try.underlying34, Try.underlying74, Try.cellsUse, Try.cellsPair, Try.cellsNon, Try.cellsU64, Try.cellsU32, uV, Value.cells, List.range_succ, w1, w2, w3, w4, w5]
  rw [if_pos (by
    intro i hi
    match i, hi with
    | 0, _ => simp
    | 1, _ => simp
    | 2, _ => simp)]
  exact ⟨_, rfl⟩
noncomputable def kU (zk : BitVec 64 × BitVec 64) (zn : Nn) : Lit := (keyU zk zn).choose
theorem kU_mk (zk : BitVec 64 × BitVec 64) (zn : Nn) : keyOf Try.prog 90 (uV zk zn) = some (kU zk zn) := (keyU zk zn).choose_spec
theorem kU_inj {zk zk' : BitVec 64 × BitVec 64} {zn zn' : Nn} (h : kU zk zn = kU zk' zn') : zk = zk' ∧ zn = zn' := by
  have e := lawU.inj (kU_mk zk zn) (h ▸ kU_mk zk' zn')
  simp only [uV, Value.agg.injEq, Array.mk.injEq, List.cons.injEq, Value.int.injEq, true_and, and_true] at e
  obtain ⟨e1, e2, e3, e4, e5⟩ := e
  have h1 := use_eq_of zk zk' zn zn'
  rw [e1, e2, e3, e4, e5] at h1
  simpa using h1.symm
/-- How often each use has come, of the first k. -/
structure Cnt (L : List Iss) (k : Nat) (D : DataW Unit) : Prop where
  one : ∀ i, i < k → D.atKey (kU (L.getD i default).key (L.getD i default).non) (.lit (.int .i64 0)) = .lit (.int .i64 1)
  non : ∀ zk zn, (∀ i, i < k → ¬ (zk = (L.getD i default).key ∧ zn = (L.getD i default).non)) → D.atKey (kU zk zn) (.lit (.int .i64 0)) = .lit (.int .i64 0)
theorem Cnt.start (L : List Iss) : Cnt L 0 (.map []) := ⟨fun i hi => absurd hi (by omega), fun _ _ _ => rfl⟩
theorem Cnt.step {L : List Iss} {k : Nat} {D : DataW Unit} (h : Cnt L k D) (hD : IsMap D) (hn : ∀ i, i < k → ¬ Mate L k i) : Cnt L (k + 1) (D.put (kU (L.getD k default).key (L.getD k default).non) (.lit (.int .i64 1))) := by
  have hk := lawU.key (kU_mk (L.getD k default).key (L.getD k default).non)
  refine ⟨fun i hi => ?_, fun zk zn hz => ?_⟩
  · by_cases e : i = k
    · subst e
      exact atKey_put_same hD hk _ _
    · rw [atKey_put_other (fun e' => hn i (by omega) ⟨(kU_inj e').1.symm, (kU_inj e').2.symm⟩)]
      exact h.one i (by omega)
  · rw [atKey_put_other (fun e' => hz k (by omega) (kU_inj e'))]
    exact h.non zk zn (fun i hi => hz i (by omega))
theorem make_uses (n : Nat) (w : World) : (Instr.makeMap 99 (some (.int .i64 (n : Int)))).run Try.prog w = .ok (.map (some w.heap.size)) (w.alloc (.map #[] 0)) := by
  simp [Instr.makeMap, run_underlying Try.underlyingUses, asInt, asIntOf, Result.andThen]

set_option maxRecDepth 10000 in
set_option maxHeartbeats 4000000 in
theorem itwice (F : Nat → Prop) (v : Value) (st : OSt) (t : Bool) (hL : st.1.length ≤ 10000) (ht : t = true ↔ Two st.1) (w : World) (hI : PInv F w v st) :
    Calls Try.prog 38 #[v] w fun e w' => ∃ F', e = .returned (.bool t) ∧ Kept PInv F w v F' w' st := by
  have HT := hide' ht
  have HK := hide' (fun w' => hI.kept (w' := w'))
  clear ht
  obtain ⟨b, FL, FS, vL, vS, rfl, hA, -, -⟩ := hI
  obtain ⟨n, HN⟩ : ∃ n, Hid (st.1.length = n) := ⟨_, rfl⟩
  rw [HN.out] at hL
  obtain ⟨yl, cl, rfl, hcl, -, -⟩ := own_is hA.iss.choose_spec.1
  rw [HN.out] at hA hcl
  have hmk := make_uses n
  have k0 := hA.box.c0
  have hb : Below w.heap.size w (w.alloc (.map #[] 0)) := (Below.refl _ _).alloc (Nat.le_refl _) _
  have k1 := (hA.box.grown hb).c0
  have own0 := World.ownsMap_made w Try.prog 90 (plainElem (H := Unit) Try.prog 3)
  go_enter Try.func38, Try.ntmps38
  go_wp2_with fail
  clear hmk k0 k1
  generalize hMB : w.heap.size = mb at *
  generalize w.alloc (.map #[] 0) = w0 at *
  go_loopw [19] (fun i wr => ∃ (k : Nat) (D : DataW Unit), k ≤ n ∧ i = .int .i64 (k : Int) ∧ wr.ownsMap Try.prog 90 (plainElem (H := Unit) Try.prog 3) mb k D ∧ Hid (Cnt st.1 k D) ∧ Hid (∀ a, a < k → ∀ c, c < a → ¬ Mate st.1 a c) ∧ Below mb w wr) (fun i _ => n - (intOf i).toNat)
  case atStart => exact ⟨0, _, Nat.zero_le _, rfl, own0, Cnt.start _, hide' (fun a ha => absurd ha (by omega)), hb⟩
  case round =>
    clear own0 hb
    obtain ⟨k, D, hk, rfl, own, HC, HM, hB⟩ := hrel
    have hA' := hA.below (hMB.symm ▸ hB)
    by_cases hlt : k < n
    · obtain ⟨g, cap, cc, e, hcap, hgl, hGg, hin, hcs⟩ := rec_cells hA'.iss k (by rw [HN.out]; exact hlt)
      simp only [Value.slice.injEq] at e
      obtain ⟨rfl, -, rfl⟩ := e
      have HX : Hid (∀ i, i < k → ¬ Mate st.1 k i → ¬ ((st.1.getD k default).key = (st.1.getD i default).key ∧ (st.1.getD k default).non = (st.1.getD i default).non)) := hide' (fun i _ h e => h e)
      have HS := hide' (HC.out.step own.isMap)
      obtain ⟨z, HZ⟩ : ∃ z, Hid (st.1.getD k default = z) := ⟨_, rfl⟩
      rw [HZ.out] at hin hcs HX
      obtain ⟨zk, zn, zh, zd⟩ := z
      obtain ⟨nhz, HH⟩ : ∃ nhz, Hid (zh.length = nhz) := ⟨_, rfl⟩
      obtain ⟨ndz, HD⟩ : ∃ ndz, Hid (zd.length = ndz) := ⟨_, rfl⟩
      have c0 : wr.cell? ⟨g, k * 7, none⟩ = some (.int .u64 (nv zk.1)) := hcs 0 _ rfl
      have c1 : wr.cell? ⟨g, k * 7 + 1, none⟩ = some (.int .u64 (nv zk.2)) := hcs 1 _ rfl
      have c2 : wr.cell? ⟨g, k * 7 + 2, none⟩ = some (.int .u32 (nv32 zn.1)) := hcs 2 _ rfl
      have c3 : wr.cell? ⟨g, k * 7 + 3, none⟩ = some (.int .u32 (nv32 zn.2.1)) := hcs 3 _ rfl
      have c4 : wr.cell? ⟨g, k * 7 + 4, none⟩ = some (.int .u64 (nv zn.2.2)) := hcs 4 _ rfl
      have c5 : wr.cell? ⟨g, k * 7 + 5, none⟩ = some (.slice cc.h nhz cc.hc) := by rw [← HH.out]; exact hcs 5 _ rfl
      have c6 : wr.cell? ⟨g, k * 7 + 6, none⟩ = some (.slice cc.d ndz cc.dc) := by rw [← HD.out]; exact hcs 6 _ rfl
      clear hcs hin
      have rB := RcBox.new wr zk zn (.slice cc.h nhz cc.hc) (.slice cc.d ndz cc.dc)
      have hmbw := own.lt
      go_wp2_with fail
      clear c0 c1 c2 c3 c4 c5 c6 hA'
      replace own := own.alloc (.cells #[.int .u64 (nv zk.1), .int .u64 (nv zk.2), .int .u32 (nv32 zn.1), .int .u32 (nv32 zn.2.1), .int .u64 (nv zn.2.2), .slice cc.h nhz cc.hc, .slice cc.d ndz cc.dc] 92)
      replace hB := hB.alloc (Nat.le_of_lt hmbw) (.cells #[.int .u64 (nv zk.1), .int .u64 (nv zk.2), .int .u32 (nv32 zn.1), .int .u32 (nv32 zn.2.1), .int .u64 (nv zn.2.2), .slice cc.h nhz cc.hc, .slice cc.d ndz cc.dc] 92)
      generalize hAW : wr.heap.size = A at *
      generalize wr.alloc (.cells #[.int .u64 (nv zk.1), .int .u64 (nv zk.2), .int .u32 (nv32 zn.1), .int .u32 (nv32 zn.2.1), .int .u64 (nv zn.2.2), .slice cc.h nhz cc.hc, .slice cc.d ndz cc.dc] 92) = wq at *
      replace own : wq.drew.ownsMap Try.prog 90 (plainElem (H := Unit) Try.prog 3) mb k D := own.drew
      replace hB : Below mb w wq.drew := hB.drew
      replace rB : RcBox wq.drew A zk zn (.slice cc.h nhz cc.hc) (.slice cc.d ndz cc.dc) := rB
      have hkey := kU_mk zk zn
      unfold uV at hkey
      obtain ⟨v0, stm, w1, hrunE, ⟨D1, own1, hD1⟩, hg1, hst⟩ := entry_own own klawU Try.underlyingUses Try.underlyingInt zeroI (by unfold maxLen; omega) hkey
      replace hrunE : (Instr.mapEntry 99 (.map (some mb)) (.agg #[.int .u64 (nv zk.1), .int .u64 (nv zk.2), .int .u32 (nv32 zn.1), .int .u32 (nv32 zn.2.1), .int .u64 (nv zn.2.2)])).run Try.prog wq.drew = .ok (.tuple #[v0, .int .i64 (stm : Int)]) w1 := hrunE
      by_cases hex : ∃ i, i < k ∧ Mate st.1 k i
      · obtain ⟨i, hik, hmate⟩ := hex
        have hc1 : D.atKey (kU zk zn) (.lit (.int .i64 0)) = .lit (.int .i64 1) := by
          have := HC.out.one i hik
          rw [← hmate.1, ← hmate.2, HZ.out] at this
          exact this
        obtain rfl : t = true := HT.out.2 ⟨k, i, hik, by rw [HN.out]; exact hlt, hmate⟩
        obtain ⟨c1, hl, hat, _⟩ := own.lookup_int lawU Try.underlyingUses Try.underlyingInt (zeroI _) hkey
        obtain rfl : c1 = 1 := by rw [hc1] at hat; injection hat with hat; injection hat with _ hat; exact hat.symm
        obtain ⟨c2, hl1, hat2, _⟩ := own1.lookup_int lawU Try.underlyingUses Try.underlyingInt (zeroI _) hkey
        obtain rfl : c2 = 1 := by rw [hD1, hc1] at hat2; injection hat2 with hat2; injection hat2 with _ hat2; exact hat2.symm
        obtain ⟨w2, hrunS, own2, hg2⟩ := hst 2 (by decide)
        replace hrunS : (Instr.entryStore 99 (.map (some mb)) (.int .i64 (stm : Int)) (.int .i64 2)).run Try.prog w1 = .ok () w2 := hrunS
        obtain ⟨c3, hl2, hat3, _⟩ := own2.lookup_int lawU Try.underlyingUses Try.underlyingInt (zeroI _) hkey
        obtain rfl : c3 = 2 := by rw [Maps.atKey_put_same own.isMap (lawU.key hkey)] at hat3; injection hat3 with hat3; injection hat3 with _ hat3; exact hat3.symm
        have rB1 : RcBox w1 A zk zn (.slice cc.h nhz cc.hc) (.slice cc.d ndz cc.dc) := (hg1.block A rB.lt (fun e => by cases e; omega)).trans rB
        have rB2 : RcBox w2 A zk zn (.slice cc.h nhz cc.hc) (.slice cc.d ndz cc.dc) := (hg2.block A rB.lt (fun e => by cases e; omega)).trans rB
        have hB2 : Below mb w w2 := ⟨hg2.os.trans hB.os, hg2.tape.trans hB.tape, hg2.output.trans hB.output, Nat.le_trans hB.size hg2.size, fun k hk => (hg2.block k (by have := hB.size; omega) (fun e => by cases e; omega)).trans (hB.block k hk)⟩
        clear hst hat hat2 hat3 hc1 hD1 hmate
        refine startX (S := fun w' => RcBox w' A zk zn (.slice cc.h nhz cc.hc) (.slice cc.d ndz cc.dc) ∧ (Instr.lookup 99 (.map (some mb)) (.agg #[.int .u64 (nv zk.1), .int .u64 (nv zk.2), .int .u32 (nv32 zn.1), .int .u32 (nv32 zn.2.1), .int .u64 (nv zn.2.2)]) false).run Try.prog w' = .ok (.int .i64 1) w') 7 (by kernel_rfl) ⟨rB, hl⟩ (fun hHeld => ?_)
        refine moveX 0 23 3 rfl rfl rfl (by kernel_rfl) (by kernel_rfl) (by kernel_rfl) (fun _ _ _ h => h) (by rfl) (by kernel_rfl) (by decide) hHeld rfl ?_
        simp only [List.set_cons_succ, List.set_cons_zero]
        refine takeX 1 24 (v := ?_) rfl rfl (by kernel_rfl) (by kernel_rfl) (by kernel_rfl) (fun _ _ _ h => h) (by rfl) (by kernel_rfl) (by decide) hHeld (fun w hSw => ?_) ?_
        rotate_left 1
        · (try dsimp only at hSw)
          clear hSw
          go_simp
          try with_reducible rfl
        simp only [List.set_cons_succ, List.set_cons_zero]
        refine takeX 2 25 (v := ?_) rfl rfl (by kernel_rfl) (by kernel_rfl) (by kernel_rfl) (fun _ _ _ h => h) (by rfl) (by kernel_rfl) (by decide) hHeld (fun w hSw => ?_) ?_
        rotate_left 1
        · (try dsimp only at hSw)
          have hx_ := hSw.1
          have e0_ := hx_.c0
          have e1_ := hx_.c1
          have e2_ := hx_.c2
          have e3_ := hx_.c3
          have e4_ := hx_.c4
          clear hx_
          clear hSw
          go_simp
          try with_reducible rfl
        simp only [List.set_cons_succ, List.set_cons_zero]
        refine takeX 3 26 (v := ?_) rfl rfl (by kernel_rfl) (by kernel_rfl) (by kernel_rfl) (fun _ _ _ h => h) (by rfl) (by kernel_rfl) (by decide) hHeld (fun w hSw => ?_) ?_
        rotate_left 1
        · (try dsimp only at hSw)
          have e0_ := hSw.2
          clear hSw
          go_simp
          try with_reducible rfl
        simp only [List.set_cons_succ, List.set_cons_zero]
        refine takeX 4 27 (v := ?_) rfl rfl (by kernel_rfl) (by kernel_rfl) (by kernel_rfl) (fun _ _ _ h => h) (by rfl) (by kernel_rfl) (by decide) hHeld (fun w hSw => ?_) ?_
        rotate_left 1
        · (try dsimp only at hSw)
          clear hSw
          go_simp
          try with_reducible rfl
        simp only [List.set_cons_succ, List.set_cons_zero]
        refine onlyX 5 rfl (by kernel_rfl) (by rfl) (fun K hK => ?_)
        go_wp2
        refine hK.out _ _ (fun _ => ⟨rB1, hl1⟩) (fun _ => ?_)
        clear hK K hHeld
        refine onlyX 6 rfl (by kernel_rfl) (by rfl) (fun K hK => ?_)
        go_wp2
        refine hK.out _ _ (fun _ => ⟨rB1, hl1⟩) (fun _ => ?_)
        clear hK K
        refine onlyX 7 rfl (by kernel_rfl) (by rfl) (fun K hK => ?_)
        go_wp2
        refine hK.out _ _ (fun h => absurd rfl h) (fun _ => ?_)
        clear hK K
        refine doneX (by kernel_rfl) ?_ _
        have r0 := rB2.c0
        have r1 := rB2.c1
        have r2 := rB2.c2
        have r3 := rB2.c3
        have r4 := rB2.c4
        go_wp2
        go_ret
        exact ⟨F, rfl, HK.out _ (hMB ▸ hB2)⟩
      · have hno : ∀ i, i < k → ¬ Mate st.1 k i := fun i hi h => hex ⟨i, hi, h⟩
        have hc1 : D.atKey (kU zk zn) (.lit (.int .i64 0)) = .lit (.int .i64 0) := HC.out.non zk zn (fun i hi => HX.out i hi (hno i hi))
        have HS2 := hide' (HS.out hno)
        rw [HZ.out] at HS2
        clear hex
        obtain ⟨c1, hl, hat, _⟩ := own.lookup_int lawU Try.underlyingUses Try.underlyingInt (zeroI _) hkey
        obtain rfl : c1 = 0 := by rw [hc1] at hat; injection hat with hat; injection hat with _ hat; exact hat.symm
        obtain ⟨c2, hl1, hat2, _⟩ := own1.lookup_int lawU Try.underlyingUses Try.underlyingInt (zeroI _) hkey
        obtain rfl : c2 = 0 := by rw [hD1, hc1] at hat2; injection hat2 with hat2; injection hat2 with _ hat2; exact hat2.symm
        obtain ⟨w2, hrunS, own2, hg2⟩ := hst 1 (by decide)
        replace hrunS : (Instr.entryStore 99 (.map (some mb)) (.int .i64 (stm : Int)) (.int .i64 1)).run Try.prog w1 = .ok () w2 := hrunS
        obtain ⟨c3, hl2, hat3, _⟩ := own2.lookup_int lawU Try.underlyingUses Try.underlyingInt (zeroI _) hkey
        obtain rfl : c3 = 1 := by rw [Maps.atKey_put_same own.isMap (lawU.key hkey)] at hat3; injection hat3 with hat3; injection hat3 with _ hat3; exact hat3.symm
        have rB1 : RcBox w1 A zk zn (.slice cc.h nhz cc.hc) (.slice cc.d ndz cc.dc) := (hg1.block A rB.lt (fun e => by cases e; omega)).trans rB
        have rB2 : RcBox w2 A zk zn (.slice cc.h nhz cc.hc) (.slice cc.d ndz cc.dc) := (hg2.block A rB.lt (fun e => by cases e; omega)).trans rB
        have hB2 : Below mb w w2 := ⟨hg2.os.trans hB.os, hg2.tape.trans hB.tape, hg2.output.trans hB.output, Nat.le_trans hB.size hg2.size, fun k hk => (hg2.block k (by have := hB.size; omega) (fun e => by cases e; omega)).trans (hB.block k hk)⟩
        have HN2 := hide' hno
        clear hst hat hat2 hat3 hc1 hD1 hno
        refine startX (S := fun w' => RcBox w' A zk zn (.slice cc.h nhz cc.hc) (.slice cc.d ndz cc.dc) ∧ (Instr.lookup 99 (.map (some mb)) (.agg #[.int .u64 (nv zk.1), .int .u64 (nv zk.2), .int .u32 (nv32 zn.1), .int .u32 (nv32 zn.2.1), .int .u64 (nv zn.2.2)]) false).run Try.prog w' = .ok (.int .i64 0) w') 7 (by kernel_rfl) ⟨rB, hl⟩ (fun hHeld => ?_)
        refine moveX 0 23 3 rfl rfl rfl (by kernel_rfl) (by kernel_rfl) (by kernel_rfl) (fun _ _ _ h => h) (by rfl) (by kernel_rfl) (by decide) hHeld rfl ?_
        simp only [List.set_cons_succ, List.set_cons_zero]
        refine takeX 1 24 (v := ?_) rfl rfl (by kernel_rfl) (by kernel_rfl) (by kernel_rfl) (fun _ _ _ h => h) (by rfl) (by kernel_rfl) (by decide) hHeld (fun w hSw => ?_) ?_
        rotate_left 1
        · (try dsimp only at hSw)
          clear hSw
          go_simp
          try with_reducible rfl
        simp only [List.set_cons_succ, List.set_cons_zero]
        refine takeX 2 25 (v := ?_) rfl rfl (by kernel_rfl) (by kernel_rfl) (by kernel_rfl) (fun _ _ _ h => h) (by rfl) (by kernel_rfl) (by decide) hHeld (fun w hSw => ?_) ?_
        rotate_left 1
        · (try dsimp only at hSw)
          have hx_ := hSw.1
          have e0_ := hx_.c0
          have e1_ := hx_.c1
          have e2_ := hx_.c2
          have e3_ := hx_.c3
          have e4_ := hx_.c4
          clear hx_
          clear hSw
          go_simp
          try with_reducible rfl
        simp only [List.set_cons_succ, List.set_cons_zero]
        refine takeX 3 26 (v := ?_) rfl rfl (by kernel_rfl) (by kernel_rfl) (by kernel_rfl) (fun _ _ _ h => h) (by rfl) (by kernel_rfl) (by decide) hHeld (fun w hSw => ?_) ?_
        rotate_left 1
        · (try dsimp only at hSw)
          have e0_ := hSw.2
          clear hSw
          go_simp
          try with_reducible rfl
        simp only [List.set_cons_succ, List.set_cons_zero]
        refine takeX 4 27 (v := ?_) rfl rfl (by kernel_rfl) (by kernel_rfl) (by kernel_rfl) (fun _ _ _ h => h) (by rfl) (by kernel_rfl) (by decide) hHeld (fun w hSw => ?_) ?_
        rotate_left 1
        · (try dsimp only at hSw)
          clear hSw
          go_simp
          try with_reducible rfl
        simp only [List.set_cons_succ, List.set_cons_zero]
        refine onlyX 5 rfl (by kernel_rfl) (by rfl) (fun K hK => ?_)
        go_wp2
        refine hK.out _ _ (fun _ => ⟨rB1, hl1⟩) (fun _ => ?_)
        clear hK K hHeld
        refine onlyX 6 rfl (by kernel_rfl) (by rfl) (fun K hK => ?_)
        go_wp2
        refine hK.out _ _ (fun _ => ⟨rB1, hl1⟩) (fun _ => ?_)
        clear hK K
        refine onlyX 7 rfl (by kernel_rfl) (by rfl) (fun K hK => ?_)
        go_wp2
        refine hK.out _ _ (fun h => absurd rfl h) (fun _ => ?_)
        clear hK K
        refine doneX (by kernel_rfl) ?_ _
        have r0 := rB2.c0
        have r1 := rB2.c1
        have r2 := rB2.c2
        have r3 := rB2.c3
        have r4 := rB2.c4
        go_wp2
        go_roundw
        case rel =>
          refine ⟨k + 1, _, by omega, by go_num, own2, HS2, hide' (fun a ha c hc => ?_), hB2⟩
          by_cases e : a = k
          · subst e
            exact HN2.out c hc
          · exact HM.out a (by omega) c hc
        case measure => simp [intOf]; omega
    · obtain rfl : k = n := by omega
      have htt : t = false := by
        cases t with
        | false => rfl
        | true =>
          obtain ⟨a, c, h1, h2, h3⟩ := HT.out.1 rfl
          exact absurd h3 (HM.out a (by rw [HN.out] at h2; exact h2) c h1)
      subst htt
      go_wp2
      go_ret
      exact ⟨F, rfl, HK.out _ (hMB ▸ hB)⟩
end Go.Proofs.Ytkbhkgfchiacbaa


/- The program's ideal sealer keeps what is asked of one. -/
namespace Go.Proofs.Ytkbhkgfchiacbaa
open Go.RowKit
set_option maxRecDepth 20000

theorem orc_is : OrcIs PInv where
  stay := fun h hs hb => h.stay hs hb
  lt := fun h => h.lt
  ptr := fun h => by
    obtain ⟨b, _, _, _, _, e, _⟩ := h
    exact ⟨_, e⟩
  make := inew
  sealIn := fun F v L S key nn xs ys x y nx ny c d hnx hny hL bx by_ fx fy w hI sx sy => iseal F v L S key nn xs ys x y nx ny c d hnx hny hL bx by_ fx fy w hI sx sy
  openYes := fun F v st q x y n m c d i hL bx by_ _ _ hit w hI sx sy => (iopen F v st q x y n m c d hL bx by_ w hI sx.sat sy.sat).mono (fun e w' h => by
    rcases h with ⟨j, z, cz, hj, rfl, sz, hb⟩ | ⟨hno, _, _⟩
    · obtain rfl := hit.one hj (by omega)
      have hlt := hI.lt
      exact ⟨z, cz, F, rfl, hI.kept hb, sz.mono (fun k _ hk => ⟨hk, fun hf => absurd (hlt k hf) (Nat.not_lt.2 hk)⟩)⟩
    · exact absurd hit (hno i))
  openNo := fun F v st q x y n m c d hL bx by_ _ _ hno w hI sx sy => (iopen F v st q x y n m c d hL bx by_ w hI sx.sat sy.sat).mono (fun e w' h => by
    rcases h with ⟨j, z, cz, hj, _⟩ | ⟨_, rfl, hb⟩
    · exact absurd hj (hno j)
    · exact ⟨none, 0, F, rfl, hI.kept hb⟩)
  sum := fun F v L S P x m c hm hP hS hf w hI hl => isumm F v L S P x m c hm hP hS hf w hI hl
  issued := fun F v st hL w hI => iissued F v st hL w hI
  twice := fun F v st t hL ht w hI => itwice F v st t hL ht w hI
  sealNil := isealNil
  openNil := iopenNil
  sumNil := isumNil
  issuedNil := iissuedNil
  twiceNil := itwiceNil
end Go.Proofs.Ytkbhkgfchiacbaa


/- What lockboxref5.Seal comes to. -/
namespace Go.Proofs.Ytkbhkgfchiacbaa
open Go.RowKit
set_option maxRecDepth 20000

end Go.Proofs.Ytkbhkgfchiacbaa


/- What lockboxref5.Open and Same come to. -/
namespace Go.Proofs.Ytkbhkgfchiacbaa
open Go.RowKit
set_option maxRecDepth 20000

end Go.Proofs.Ytkbhkgfchiacbaa
