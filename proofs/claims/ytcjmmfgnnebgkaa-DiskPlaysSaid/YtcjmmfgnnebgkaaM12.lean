/- DskImD MkOps DskImT DskImpl DskLas: texts laid together. -/
import Derived.Test.YtcjmmfgnnebgkaaM11
import Derived.Test.YtcjmmfgnnebgkaaM04
import Derived.Deep.Matrix
import Derived.Test.YtcjmmfgnnebgkaaM03

/- The landed disk: Read. -/
namespace Go.Proofs.Ytcjmmfgnnebgkaa
open Go.RowKit
set_option maxRecDepth 20000

theorem flat_cells {w : World} {b : Nat} {B : List (List Int)} {p : Option Addr} {no : Bool} {vD : Value} {f : Nat} (hB : Blks B) (h : DkBox w b B p no vD f) (i : Nat) (hi : i < 32) : At w b (i * 32) (B.getD i []) := by
  have h1 := (RowK.at h).cut2 (i * 32)
  have h2 := h1.cut1' 32
  rw [flat_at B i hB.b (by rw [hB.n]; exact hi)] at h2
  simpa using h2
theorem Try.blkInfo : (Try.prog.info? 55).map (·.size) = some 32 := by kernel_rfl
/-- A block is loaded. -/
theorem wpList_loadK {o : Oper} {a : Act} {w : World} {ops : Array Oper} {rest : List Oper} {Q : Exit → Act → World → Prop} (hgd : o.guard = none) (x : Operand) (ho : o.op = .load 55 x) (b off : Nat) (hx : a.eval x = .pointer (some ⟨b, off, none⟩))
    (xs : List Int) (hl : xs.length = 32) (hat : At w b off xs) (h : wpList Try.prog ops Q rest (a.put o.dst (.agg (xs.map (Value.int .u8)).toArray)) w) : wpList Try.prog ops Q (o :: rest) a w := by
  refine wpList_plain hgd fun _ hK => ?_
  have hc := run_loadCells_list (P := Try.prog) w ⟨b, off, none⟩ (xs.map (Value.int .u8)) hat.news
  rw [List.length_map, hl] at hc
  have hagg : (isAgg 55).run Try.prog w = .ok true w := by
    unfold isAgg
    rw [Sem.run_bind, run_underlying Try.underlying55 w]
    rfl
  have hrun : (loadVar 55 ⟨b, off, none⟩).run Try.prog w = .ok (.agg (xs.map (Value.int .u8)).toArray) w := by
    cases hq : Try.prog.info? 55 with
    | none =>
      have := Try.blkInfo
      simp [hq] at this
    | some i =>
      have hs : i.size = 32 := by
        have := Try.blkInfo
        simpa [hq] using this
      simp [loadVar, Sem.run_bind, hagg, sizeOf, typeInfo, hq, hs, hc]
  unfold Oper.wp execOp
  simp only [ho, hx, Instr.loadAt, Instr.sureAddr, Sem.run_bind, Sem.run_pure, Result.andThen_ok, hrun]
  exact hK _ _ h
theorem Clean.row {w a b : World} {A : Nat} (h : Clean w a) (ho : Off (fun k => k = A) a b) (hA : w.heap.size ≤ A) (hf : ∀ k i, b.frozen? ⟨k, i, none⟩ = a.frozen? ⟨k, i, none⟩) : Clean w b :=
  ⟨h.b.trans (ho.below (fun k e => by omega) h.b.size), fun k i hk => (hf k i).trans (h.f k i hk)⟩
theorem spl_all (X ys : List Int) (hX : X.length = 32) (hy : ys.length = 32) : splice X 0 ys = ys := by
  unfold splice
  rw [List.drop_of_length_le (by omega)]
  simp
theorem getD_setD (B : List (List Int)) (i j : Nat) (y : List Int) (hi : i < B.length) : (B.set i y).getD j [] = if i = j then y else B.getD j [] := by
  rw [List.getD_eq_getElem?_getD, List.getD_eq_getElem?_getD, List.getElem?_set]
  by_cases e : i = j
  · subst e
    simp [hi]
  · simp [e]
set_option maxHeartbeats 2000000 in
theorem kread (p : Option Addr) (F G : Nat → Prop) (v : Value) (st : DskSt) (q : PSt) (lba : Nat) (hlba : lba < 32) (hq : q.1 = true) (w : World) (hD : DkInv p F w v st) (hP : PwInv G w (.pointer p) q) :
    Calls Try.prog 16 #[v, .int .i64 (lba : Int)] w fun e w' => ∃ z cz F', e = .returned (.tuple #[.slice z 32 cz, .bool true]) ∧ KeptG (DkInv p) F w v F' w' st ∧ SIn (NewOf w F') w' z 32 (st.cur lba) ∧ Fit z 32 cz ∧ Soft w w' := by
  have hb0 := dkbase p
  have HD := hide' hD
  have HF := hide' (hb0.lt hD)
  obtain ⟨b, FB, vD, f, rfl, h, -⟩ := hD
  obtain ⟨bq, hp, hbq, -, -⟩ := hP
  obtain rfl : p = some ⟨bq, 0, none⟩ := by simpa using hp
  clear hp
  have hi := khas b lba hlba w
  go_enter Try.func16, Try.ntmps16
  go_wp2_with fail
  refine hi.mono ?_
  clear hi
  rintro e w0 ⟨rfl, hc0⟩
  have hA0 := h.below hc0.b
  have k1 := DkBox.c1024 h.blk hA0.box
  have hon := ponC bq q w0 (CBox.grown hbq hc0.b)
  rw [hq] at hon
  go_wp2_with fail
  refine hon.mono ?_
  clear hon k1
  rintro e w1 ⟨rfl, hc1⟩
  have hA1 := hA0.below hc1.b
  have hc01 := hc0.trans hc1
  have hld := flat_cells hA1.blk hA1.box lba hlba
  have hbl : (st.B.getD lba []).length = 32 := getD_len hA1.blk.n hA1.blk.b lba hlba
  have hlt : (lba : Int) < 32 := by omega
  clear hc0 hc1 hA0
  obtain ⟨X0, HX0⟩ : ∃ X0, Hid (st.B.getD lba [] = X0) := ⟨_, rfl⟩
  rw [HX0.out] at hld hbl
  obtain ⟨c0, HC0⟩ : ∃ c0, Hid ((X0.map (Value.int .u8)).toArray = c0) := ⟨_, rfl⟩
  have hc0s : c0.size = 32 := by rw [← HC0.out]; simp [hbl]
  have hc01' : c0.all (·.oneCell') = true := by
    rw [← HC0.out, Array.all_eq_true_iff_forall_mem]
    intro u hu
    rw [List.mem_toArray] at hu
    exact one_cells X0 u hu
  have hci : (Try.prog.info? 55).map (·.size) = some c0.size := by rw [hc0s]; exact Try.blkInfo
  have hsc := run_storeCells_new (P := Try.prog) w1 55 #[.int .u8 0, .int .u8 0, .int .u8 0, .int .u8 0, .int .u8 0, .int .u8 0, .int .u8 0, .int .u8 0, .int .u8 0, .int .u8 0, .int .u8 0, .int .u8 0, .int .u8 0, .int .u8 0, .int .u8 0, .int .u8 0, .int .u8 0, .int .u8 0, .int .u8 0, .int .u8 0, .int .u8 0, .int .u8 0, .int .u8 0, .int .u8 0, .int .u8 0, .int .u8 0, .int .u8 0, .int .u8 0, .int .u8 0, .int .u8 0, .int .u8 0, .int .u8 0] c0 hci (by rw [hc0s]; rfl) hc01'
  clear hci hc01'
  go_wp2_with (with_reducible show wpList _ _ _ (Oper.mk (some 26) _ _ _ _ _ :: _) _ _; refine wpList_loadK rfl (.tmp 25) rfl b (lba * 32) rfl X0 hbl hld ?_; rw [HC0.out])
  have hA1q : Clean w (w1.alloc (.cells c0 55)) := hc01.alloc _ _
  have hrow : RowK 55 (w1.alloc (.cells c0 55)) w1.heap.size X0 [] := by
    unfold RowK
    rw [List.append_nil, HC0.out]
    exact heap_alloc_new _ _
  have hAq := hA1.below ((Below.refl w1.heap.size w1).alloc (Nat.le_refl _) (.cells c0 55))
  have hwA : w.heap.size ≤ w1.heap.size := hc01.b.size
  have hKlt : ∀ k, KOwn FB b vD k → k < w1.heap.size := hA1.olt
  have HWF := hide' hA1.wf
  have HBK := hide' hA1.blk
  clear hsc hld hc01 hA1 hbl hc0s hlt
  generalize w1.heap.size = A at *
  generalize w1.alloc (.cells c0 55) = wa at *
  have hwt := kwait FB b _ vD f st wa hAq
  obtain ⟨m, hm⟩ : ∃ m, st.Wt.length = m := ⟨_, rfl⟩
  rw [hm] at hwt
  have HMl := hide' hm
  clear hm
  refine hwt.mono ?_
  clear hwt
  rintro e w2 ⟨zw, cw, rfl, fw, ht, hc1⟩
  have HMx : Hid (m ≤ maxLen) := hide' (by have := fw.1; have := fw.2.1; omega)
  have HG : Hid (∀ k, (vD.ownBlock = some k ∨ FB k) → k ≠ A) := hide' (fun k hk e => by have := hKlt k (Or.inr hk); omega)
  have hrow2 : RowK 55 w2 A X0 [] := hrow.off (Off.of_below (F := fun _ => False) hc1.b) (fun h => h)
  have hcl2 : Clean w w2 := hA1q.trans hc1
  clear fw hrow hA1q
  go_wp2_with fail
  go_loopw [30] (fun i wr => ∃ k : Nat, k ≤ m ∧ i = .int .i64 (k : Int) ∧ RowK 55 wr A ((layD st.B (st.Wt.take k)).getD lba []) [] ∧ Off (fun k => k = A) w2 wr ∧ Clean w wr) (fun i _ => m - (intOf i).toNat)
  case atStart => exact ⟨0, Nat.zero_le _, rfl, by rw [show layD st.B (st.Wt.take 0) = st.B from rfl, HX0.out]; exact hrow2, Off.refl _ _, hcl2⟩
  case round =>
    obtain ⟨k, hk, rfl, hr, ho, hcw⟩ := hrel
    by_cases hlt : k < m
    · have hlt' : (k : Int) < m := by omega
      have hw : IntKind.i64.wrap ((k : Int) + 1) = (k : Int) + 1 := by
        have := HMx.out
        unfold maxLen at this
        rw [IntKind.wrap_i64]
        omega
      obtain ⟨ba, o, off, ys, z, cz, rfl, hbl, hbg', hkL, hob, hmem, bys, hs, fz, hc0, hc1'⟩ := tin_at (ht.off ho (fun k _ h => HG.out k h)) hlt
      have hwo := HWF.out _ hmem
      have hoff : off < 32 := hwo.1
      have hy : ys.length = 32 := hwo.2
      rw [hy] at hs hc1'
      have hbk : Blks (layD st.B (st.Wt.take k)) := HBK.out.lay _ (fun o ho => HWF.out o (List.mem_of_mem_take ho))
      have hst : Hid ((layD st.B (st.Wt.take (k + 1))).getD lba [] = if off = lba then ys else (layD st.B (st.Wt.take k)).getD lba []) := hide' (by rw [layD_taK st.B st.Wt k hkL hob, getD_setD _ _ _ _ (by rw [hbk.n]; exact hoff)])
      have hX := getD_len hbk.n hbk.b lba hlba
      have hA2 : Clean wr (wr.alloc (.cells #[.int .i64 (off : Int), .slice z 32 cz] 62)) := (Clean.refl wr).alloc _ _
      have hB : CBox 62 (wr.alloc (.cells #[.int .i64 (off : Int), .slice z 32 cz] 62)) wr.heap.size #[.int .i64 (off : Int), .slice z 32 cz] := CBox.new _ _ _
      have hrq := hr.off (Off.of_below (F := fun _ => False) hA2.b) (fun h => h)
      have hsq : SAt (wr.alloc (.cells #[.int .i64 (off : Int), .slice z 32 cz] 62)) z 32 ys := hs.sat.below hA2.b
      have hoq := ho.more hA2.b
      have hcq := hcw.trans hA2
      have hm1 : wr.heap.size < (wr.alloc (.cells #[.int .i64 (off : Int), .slice z 32 cz] 62)).heap.size := hB.lt
      clear hob hmem hs hwo fz hy hbk hr ho hcw hA2
      obtain ⟨X, HX⟩ : ∃ X, Hid ((layD st.B (st.Wt.take k)).getD lba [] = X) := ⟨_, rfl⟩
      rw [HX.out] at hX hrq hst
      by_cases he : off = lba
      · subst he
        rw [if_pos rfl] at hst
        go_wp2_with fail
        clear hc0 hc1'
        generalize wr.alloc (.cells #[.int .i64 (off : Int), .slice z 32 cz] 62) = wq at *
        refine startX (S := fun w' => Below wq.heap.size wq w') 3 (by kernel_rfl) (Below.refl _ _).drew (fun hHeld => ?_)
        refine takeY 0 38 (v := ?_) rfl rfl (by kernel_rfl) (by kernel_rfl) (by kernel_rfl) (fun _ _ _ h => h) (by rfl) (by kernel_rfl) (by kernel_rfl) (by decide) hHeld (fun w hSw => ?_) ?_
        rotate_left 1
        · (try dsimp only at hSw)
          clear hSw
          go_simp
          try with_reducible rfl
        simp only [List.set_cons_succ, List.set_cons_zero]
        refine takeY 1 39 (v := ?_) rfl rfl (by kernel_rfl) (by kernel_rfl) (by kernel_rfl) (fun _ _ _ h => h) (by rfl) (by kernel_rfl) (by kernel_rfl) (by decide) hHeld (fun w hSw => ?_) ?_
        rotate_left 1
        · (try dsimp only at hSw)
          clear hSw
          go_simp
          try with_reducible rfl
        simp only [List.set_cons_succ, List.set_cons_zero]
        refine takeY 2 40 (v := ?_) rfl rfl (by kernel_rfl) (by kernel_rfl) (by kernel_rfl) (fun _ _ _ h => h) (by rfl) (by kernel_rfl) (by kernel_rfl) (by decide) hHeld (fun w hSw => ?_) ?_
        rotate_left 1
        · (try dsimp only at hSw)
          have hx_ := CBox.grown hB hSw
          have e0_ : w.cell? ⟨wr.heap.size, 1, none⟩ = _ := CBox.cell hx_ 1
          clear hx_
          clear hSw
          go_simp
          try with_reducible rfl
        simp only [List.set_cons_succ, List.set_cons_zero]
        refine onlyX 3 rfl (by kernel_rfl) (by rfl) (fun K hK => ?_)
        refine wp_copyK (.tmp 38) (.tmp 40) rfl 55 A 0 32 32 32 cz _ z rfl rfl rfl X ys _ (RowK.drew' hrq) hsq.drew (Nat.le_refl _) (by rw [hX]; omega) ?_
        intro w5 hr5 ho5 hz5 hf5
        refine hK.out _ _ (fun h => absurd rfl h) (fun _ => ?_)
        clear hK K hHeld
        refine doneX (by kernel_rfl) ?_ _
        go_wp2
        go_roundw
        rw [spl_all X ys hX hsq.1] at hr5
        case rel => exact ⟨k + 1, by omega, by go_num, by rw [hst.out]; exact hr5, (hoq.more (Below.refl _ _).drew).trans ho5 (fun _ h => Or.inl h), hcq.drew.row ho5 hwA hf5⟩
        case measure => simp [intOf]; omega
      · have he' : ¬ (off : Int) = lba := by omega
        rw [if_neg he] at hst
        go_wp2
        go_roundw
        case rel => exact ⟨k + 1, by omega, by go_num, by rw [hst.out]; exact hrq, hoq, hcq⟩
        case measure => simp [intOf]; omega
    · have hlt' : ¬ (k : Int) < m := by omega
      have hkm : st.Wt.take k = st.Wt := List.take_of_length_le (by have := HMl.out; omega)
      rw [hkm] at hr
      have hcl : (st.cur lba).length = 32 := DskWf.cur ⟨HBK.out.n, HBK.out.b, HWF.out⟩ lba hlba
      go_wp2
      go_ret2
      have hpost : KeptG (DkInv (some ⟨bq, 0, none⟩)) F w (.pointer (some ⟨b, 0, none⟩)) F wr st := hb0.kept HD.out hcw.b
      have hs1 : SIn (NewOf w F) wr (some ⟨A, 0, none⟩) 32 (st.cur lba) := ⟨hcl, fun _ => ⟨A, 0, rfl, hr.lt, ⟨hwA, fun hf => by have := HF.out A hf; omega⟩, hr.at⟩⟩
      have hf1 : Fit (some ⟨A, 0, none⟩) 32 32 := ⟨Nat.le_refl _, by decide, fun e => by cases e⟩
      have hs2 : Soft w wr := fun k i hk => hcw.f k i hk
      first | exact ⟨_, _, F, rfl, hpost, hs1, hf1, hs2⟩ | exact ⟨_, _, rfl, F, hpost, hs1, hf1, hs2⟩
theorem kreadNo (p : Option Addr) (F G : Nat → Prop) (v : Value) (st : DskSt) (q : PSt) (lba : Int) (hn : (lba < 0 ∨ 32 ≤ lba) ∨ q.1 = false) (w : World) (hD : DkInv p F w v st) (hP : PwInv G w (.pointer p) q) :
    Calls Try.prog 16 #[v, .int .i64 lba] w fun e w' => ∃ z cz F', e = .returned (.tuple #[.slice z 0 cz, .bool false]) ∧ KeptG (DkInv p) F w v F' w' st := by
  have hk := hide' (fun w' => (dkbase p).kept (w' := w') hD)
  obtain ⟨b, FB, vD, f, rfl, h, -⟩ := hD
  obtain ⟨bq, hp, hbq, -, -⟩ := hP
  obtain rfl : p = some ⟨bq, 0, none⟩ := by simpa using hp
  clear hp
  by_cases h0 : lba < 0 ∨ 32 ≤ lba
  · have hi := khasNo (some ⟨b, 0, none⟩) lba (Or.inr h0) w
    clear h hn h0
    go_enter Try.func16, Try.ntmps16
    go_wp2_with fail
    refine hi.mono ?_
    clear hi
    rintro e w0 ⟨rfl, hb0⟩
    go_wp2
    go_ret2
    exact ⟨_, _, _, rfl, hk.out _ hb0.b⟩
  · obtain ⟨i, rfl⟩ : ∃ i : Nat, lba = (i : Int) := ⟨lba.toNat, by omega⟩
    have hq : q.1 = false := hn.resolve_left h0
    have hi := khas b i (by omega) w
    clear hn h0
    go_enter Try.func16, Try.ntmps16
    go_wp2_with fail
    refine hi.mono ?_
    clear hi
    rintro e w0 ⟨rfl, hc0⟩
    have k1 := DkBox.c1024 h.blk (DkBox.grown h.box hc0.b)
    have hon := ponC bq q w0 (CBox.grown hbq hc0.b)
    rw [hq] at hon
    clear h
    go_wp2_with fail
    refine hon.mono ?_
    clear hon k1
    rintro e w1 ⟨rfl, hc1⟩
    go_wp2
    go_ret2
    exact ⟨_, _, _, rfl, hk.out _ (hc0.trans hc1).b⟩
theorem kreadNil (lba : Int) (w : World) : Calls Try.prog 16 #[.pointer none, .int .i64 lba] w fun e w' => (∃ z cz, e = .returned (.tuple #[.slice z 0 cz, .bool false])) ∧ Below w.heap.size w w' := by
  go_enter Try.func16, Try.ntmps16
  go_wp2_with fail
  refine (khasNo none _ (Or.inl rfl) _).mono ?_
  rintro e w1 ⟨rfl, hb⟩
  replace hb := hb.b
  go_wp2
  go_ret2
  exact ⟨⟨_, _, rfl⟩, hb⟩
end Go.Proofs.Ytcjmmfgnnebgkaa


/- make of a row of writes. -/
namespace Go.Proofs.Ytcjmmfgnnebgkaa
open Go.RowKit
set_option maxRecDepth 20000

theorem make_ops (n : Nat) (hn : n ≤ 100000) : ∃ M : Array Value, M.size = n * 2 ∧ ∀ w : World, (Instr.makeSlice 45 (.int .i64 (n : Int)) (.int .i64 (n : Int))).run Try.prog w = .ok (.slice (some ⟨w.heap.size, 0, none⟩) n n) (w.alloc (.cells M 62)) := by
  obtain ⟨i0, hi, hz0, hz1, hz2⟩ := info_parts Try.opInfo
  obtain ⟨z, hz⟩ : ∃ z, i0.zero = some z := ⟨_, hz0⟩
  refine ⟨madeCells z.cells (n * 2), size_madeCells _ _, fun w => ?_⟩
  have hr := run_make (P := Try.prog) w 45 62 i0 z Try.underlyingOps hi hz .i64 .i64 n n (by omega) (Int.le_refl _) (by rw [hz2]; omega) (by omega)
  rw [hz1] at hr
  exact hr
end Go.Proofs.Ytcjmmfgnnebgkaa


/- The landed disk: Trace. -/
namespace Go.Proofs.Ytcjmmfgnnebgkaa
open Go.RowKit
set_option maxRecDepth 20000

set_option maxRecDepth 10000 in
set_option maxHeartbeats 4000000 in
theorem ktrace (p : Option Addr) (F : Nat → Prop) (v : Value) (st : DskSt) (hT : st.T.length ≤ 100000) (w : World) (hD : DkInv p F w v st) :
    Calls Try.prog 27 #[v] w fun e w' => ∃ z cz F', e = .returned (.slice z st.T.length cz) ∧ KeptG (DkInv p) F w v F' w' st ∧ TIn (NewOf w F') w' z st.T.length st.T ∧ Fit z st.T.length cz ∧ Soft w w' := by
  have HLT := hide' ((dkbase p).lt hD)
  have HK := hide' (fun w' => (dkbase p).kept (w' := w') hD)
  obtain ⟨b, FB, vD, f, rfl, hX, -⟩ := hD
  have hA := hX.ops
  obtain ⟨L, HLL⟩ : ∃ L, Hid (st.T = L) := ⟨_, rfl⟩
  have HB : Hid (∀ o ∈ L, o.2.length ≤ 100000) := hide' (fun o ho => by have := hX.ob o (HLL.out ▸ ho); omega)
  rw [HLL.out] at hA hT ⊢
  obtain ⟨n, HN⟩ : ∃ n, Hid (L.length = n) := ⟨_, rfl⟩
  rw [HN.out] at hT ⊢
  have HNL := hide' hT
  obtain ⟨M, hM, hmk⟩ := make_ops n hT
  clear hT
  obtain ⟨y, c, hvD, -⟩ : ∃ y c, vD = .slice y L.length c ∧ Fit y L.length c := hA.is
  rw [HN.out] at hvD
  subst hvD
  have k2 : w.cell? ⟨b, 1026, none⟩ = some (.slice y n c) := DkBox.c1026 hX.blk hX.box
  have hb : Below w.heap.size w (w.alloc (.cells M 62)) := (Below.refl _ _).alloc (Nat.le_refl _) _
  have k3 : (w.alloc (.cells M 62)).cell? ⟨b, 1026, none⟩ = some (.slice y n c) := DkBox.c1026 hX.blk (DkBox.grown hX.box hb)
  have row0 := World.rowIs_alloc w M 62 (fun i => M[i]?.getD undef) (fun i hi => by simp [hi])
  rw [hM] at row0
  have hc0 : Clean w (w.alloc (.cells M 62)) := (Clean.refl w).alloc _ _
  clear hX
  go_enter Try.func27, Try.ntmps27
  go_wp2_with fail
  clear hmk hb k2 k3
  generalize hAA : w.heap.size = A at *
  have hAw : w.heap.size ≤ A := by omega
  generalize w.alloc (.cells M 62) = w1 at *
  go_loopw [19] (fun i wr => ∃ (k : Nat) (f : Nat → Value), k ≤ n ∧ i = .int .i64 (k : Int) ∧ wr.rowIs A 62 (n * 2) f ∧ Hid (∀ i, i < k → ∃ c, OpAt (fun q => A ≤ q ∧ q ≠ A) wr (L.getD i (0, [])) c ∧ f (i * 2) = .int .i64 (L.getD i (0, [])).1 ∧ f (i * 2 + 1) = .slice c.1 (L.getD i (0, [])).2.length c.2) ∧ Clean w wr) (fun i _ => n - (intOf i).toNat)
  case atStart => exact ⟨0, _, Nat.zero_le _, rfl, row0, hide' (fun i hi => absurd hi (by omega)), hc0⟩
  case round =>
    clear row0 hc0
    obtain ⟨k, f, hk, rfl, row, HI, hC⟩ := hrel
    by_cases hlt : k < n
    · have hops := hA.off (Off.of_below (F := fun _ => False) hC.b) (fun _ _ h => h) (fun _ _ _ h => h)
      obtain ⟨g, cap, c0, e, hgl, hat, hd0, hd1⟩ := op_cells hops k (by rw [HN.out]; exact hlt)
      simp only [Value.slice.injEq] at e
      obtain ⟨rfl, -, rfl⟩ := e
      obtain ⟨⟨off, ys⟩, HZ⟩ : ∃ z, Hid (L.getD k (0, []) = z) := ⟨_, rfl⟩
      rw [HZ.out] at hat hd0 hd1
      obtain ⟨z, cz⟩ := c0
      obtain ⟨yn, HY⟩ : ∃ yn, Hid (ys.length = yn) := ⟨_, rfl⟩
      have hs : SIn FB wr z yn ys := HY.out ▸ hat.s
      have fz : Fit z yn cz := HY.out ▸ hat.f
      have bys : Bytes ys := hat.b
      have HYL : Hid (yn ≤ 100000) := hide' (by
        have := HB.out (off, ys) (by
          rw [← HZ.out, List.getD_eq_getElem?_getD, List.getElem?_eq_getElem (by rw [HN.out]; exact hlt), Option.getD_some]
          exact List.getElem_mem _)
        have h2 : ys.length ≤ 100000 := this
        rw [HY.out] at h2
        exact h2)
      have c0 : wr.cell? ⟨g, k * 2, none⟩ = some (.int .i64 off) := hd0
      have c1 : wr.cell? ⟨g, k * 2 + 1, none⟩ = some (.slice z yn cz) := HY.out ▸ hd1
      clear hd0 hd1 hat hops
      have hw : IntKind.i64.wrap ((k : Int) + 1) = (k : Int) + 1 := by
        have := HNL.out
        rw [IntKind.wrap_i64]
        omega
      have hB : CBox 62 (wr.alloc (.cells #[.int .i64 off, .slice z yn cz] 62)) wr.heap.size #[.int .i64 off, .slice z yn cz] := CBox.new _ _ _
      have hb : Below wr.heap.size wr (wr.alloc (.cells #[.int .i64 off, .slice z yn cz] 62)) := (Below.refl _ _).alloc (Nat.le_refl _) _
      have hAr := row.lt
      go_wp2_with fail
      clear c0 c1
      replace hs := hs.off (Off.of_below (F := fun _ => False) hb) (fun _ _ _ h => h)
      replace row := row.of_block (hb.block _ hAr)
      replace HI : Hid (∀ i, i < k → ∃ c, OpAt (fun q => A ≤ q ∧ q ≠ A) (wr.alloc (.cells #[.int .i64 off, .slice z yn cz] 62)) (L.getD i (0, [])) c ∧ f (i * 2) = .int .i64 (L.getD i (0, [])).1 ∧ f (i * 2 + 1) = .slice c.1 (L.getD i (0, [])).2.length c.2) := hide' (fun i hi => by
        obtain ⟨c, h1, h2⟩ := HI.out i hi
        exact ⟨c, h1.off (Off.of_below (F := fun _ => False) hb) (fun _ _ _ h => h), h2⟩)
      replace hC := hC.alloc #[.int .i64 off, .slice z yn cz] 62
      clear hb
      generalize wr.alloc (.cells #[.int .i64 off, .slice z yn cz] 62) = wq at *
      have hAq : A < wq.heap.size := row.lt
      refine startX (S := fun w' => Below wq.heap.size wq w') 9 (by kernel_rfl) (Below.refl _ _).drew (fun hHeld => ?_)
      refine moveY 0 24 3 rfl rfl rfl (by kernel_rfl) (by kernel_rfl) (by kernel_rfl) (fun _ _ _ h => h) (by rfl) (by kernel_rfl) (by kernel_rfl) (by decide) hHeld rfl ?_
      simp only [List.set_cons_succ, List.set_cons_zero]
      refine moveY 1 25 4 rfl rfl rfl (by kernel_rfl) (by kernel_rfl) (by kernel_rfl) (fun _ _ _ h => h) (by rfl) (by kernel_rfl) (by kernel_rfl) (by decide) hHeld rfl ?_
      simp only [List.set_cons_succ, List.set_cons_zero]
      refine takeY 2 26 (v := ?_) rfl rfl (by kernel_rfl) (by kernel_rfl) (by kernel_rfl) (fun _ _ _ h => h) (by rfl) (by kernel_rfl) (by kernel_rfl) (by decide) hHeld (fun w hSw => ?_) ?_
      rotate_left 1
      · (try dsimp only at hSw)
        clear hSw
        go_simp
        try with_reducible rfl
      simp only [List.set_cons_succ, List.set_cons_zero]
      refine takeY 3 27 (v := ?_) rfl rfl (by kernel_rfl) (by kernel_rfl) (by kernel_rfl) (fun _ _ _ h => h) (by rfl) (by kernel_rfl) (by kernel_rfl) (by decide) hHeld (fun w hSw => ?_) ?_
      rotate_left 1
      · (try dsimp only at hSw)
        have hx_ := CBox.grown hB hSw
        have e0_ : w.cell? ⟨wr.heap.size, 0, none⟩ = _ := CBox.cell hx_ 0
        clear hx_
        clear hSw
        go_simp
        try with_reducible rfl
      simp only [List.set_cons_succ, List.set_cons_zero]
      refine takeY 4 28 (v := ?_) rfl rfl (by kernel_rfl) (by kernel_rfl) (by kernel_rfl) (fun _ _ _ h => h) (by rfl) (by kernel_rfl) (by kernel_rfl) (by decide) hHeld (fun w hSw => ?_) ?_
      rotate_left 1
      · (try dsimp only at hSw)
        clear hSw
        go_simp
        try with_reducible rfl
      simp only [List.set_cons_succ, List.set_cons_zero]
      refine takeY 5 29 (v := ?_) rfl rfl (by kernel_rfl) (by kernel_rfl) (by kernel_rfl) (fun _ _ _ h => h) (by rfl) (by kernel_rfl) (by kernel_rfl) (by decide) hHeld (fun w hSw => ?_) ?_
      rotate_left 1
      · (try dsimp only at hSw)
        have hx_ := CBox.grown hB hSw
        have e0_ : w.cell? ⟨wr.heap.size, 1, none⟩ = _ := CBox.cell hx_ 1
        clear hx_
        clear hSw
        go_simp
        try with_reducible rfl
      simp only [List.set_cons_succ, List.set_cons_zero]
      refine onlyX 6 rfl (by kernel_rfl) (by rfl) (fun K hK => ?_)
      go_wp2_with fail
      refine (iclone z yn cz ys HYL.out fz.2.2 _ hs.sat.drew).mono ?_
      rintro e w3 ⟨v3, rfl, own3, hc3⟩
      have hc : Clean wq w3 := (Clean.refl wq).drew.trans hc3
      replace own3 : w3.ownsRow wq.heap.size 5 1 v3 yn (ys.map (Value.int .u8)) := own3
      refine hK.out _ _ (fun _ => hc.b) (fun hHeld => ?_)
      replace hHeld := hHeld (by decide)
      clear hK K hc3
      obtain ⟨z3, c3, rfl, sz, hn3, hm3, hz3⟩ := own_sin HY.out own3
      have oz := own_block own3
      refine onlyX 7 rfl (by kernel_rfl) (by rfl) (fun K hK => ?_)
      go_wp2
      refine hK.out _ _ (fun _ => hc.b) (fun hHeld => ?_)
      replace hHeld := hHeld (by decide)
      clear hK K
      refine takeY 8 32 (v := ?_) rfl rfl (by kernel_rfl) (by kernel_rfl) (by kernel_rfl) (fun _ _ _ h => h) (by rfl) (by kernel_rfl) (by kernel_rfl) (by decide) hHeld (fun w hSw => ?_) ?_
      rotate_left 1
      · (try dsimp only at hSw)
        clear hSw
        go_simp
        try with_reducible rfl
      simp only [List.set_cons_succ, List.set_cons_zero]
      clear hHeld
      replace row := row.of_block (hc.b.block _ row.lt)
      have l0 := row.cell (i := k * 2) (by omega)
      have l1 := row.cell (i := k * 2 + 1) (by omega)
      have q0 := row.frozen (k * 2)
      have q1 := row.frozen (k * 2 + 1)
      refine onlyX 9 rfl (by kernel_rfl) (by rfl) (fun K hK => ?_)
      go_wp2_with fail
      clear l0 l1 q0 q1
      refine hK.out _ _ (fun h => absurd rfl h) (fun _ => ?_)
      clear hK K
      refine doneX (by kernel_rfl) ?_ _
      have row9 := (row.set (k * 2) (.int .i64 off)).set (k * 2 + 1) (.slice z3 yn c3)
      have hof : Off (fun k => k = A) w3 ((w3.setCell ⟨A, k * 2, none⟩ (.int .i64 off)).setCell ⟨A, k * 2 + 1, none⟩ (.slice z3 yn c3)) := Off.setCell (F := fun k => k = A) (p := ⟨A, k * 2 + 1, none⟩) (Off.setCell (F := fun k => k = A) (p := ⟨A, k * 2, none⟩) (Off.refl _ w3) (Or.inl rfl) _) (Or.inl rfl) _
      have hc0 : Clean w w3 := hC.trans hc
      have hc9 : Clean w ((w3.setCell ⟨A, k * 2, none⟩ (.int .i64 off)).setCell ⟨A, k * 2 + 1, none⟩ (.slice z3 yn c3)) := (hc0.setCell (p := ⟨A, k * 2, none⟩) hAw _).setCell (p := ⟨A, k * 2 + 1, none⟩) hAw _
      generalize ((w3.setCell ⟨A, k * 2, none⟩ (.int .i64 off)).setCell ⟨A, k * 2 + 1, none⟩ (.slice z3 yn c3)) = w9 at *
      go_wp2
      go_roundw
      case rel =>
        refine ⟨k + 1, _, by omega, by go_num, row9, hide' (fun i hi => ?_), hc9⟩
        by_cases e : i = k
        · subst e
          rw [HZ.out]
          refine ⟨(z3, c3), ⟨?_, ?_, bys⟩, ?_, ?_⟩
          · show SIn _ _ z3 ys.length ys
            rw [HY.out]
            exact (sz.off hof (fun q _ hq e => by have := oz q hq; omega)).mono (fun q _ hq => by have := oz q hq; omega)
          · show Fit z3 ys.length c3
            rw [HY.out]
            exact ⟨hn3, hm3, hz3⟩
          · (try dsimp only)
            rw [if_neg (by omega), if_pos rfl]
          · show _ = Value.slice z3 ys.length c3
            rw [HY.out]
            (try dsimp only)
            rw [if_pos rfl]
        · obtain ⟨c0, h1, h2, h3⟩ := HI.out i (by omega)
          refine ⟨c0, (h1.off (Off.of_below (F := fun _ => False) hc.b) (fun _ _ _ h => h)).off hof (fun q _ hq e => hq.2 e), ?_, ?_⟩
          · rw [← h2]
            (try dsimp only)
            rw [if_neg (by omega), if_neg (by omega)]
          · rw [← h3]
            (try dsimp only)
            rw [if_neg (by omega), if_neg (by omega)]
      case measure => simp [intOf]; omega
    · obtain rfl : k = n := by omega
      go_wp2
      go_ret
      have hAF : ¬ F A := fun h => by have := HLT.out A h; omega
      have hFA : ∀ q, A ≤ q → ¬ F q := fun q hq h => by have := HLT.out q h; omega
      have hti : TIn (NewOf w F) wr (some ⟨A, 0, none⟩) k L := by
        refine ⟨HN.out, fun _ => ⟨A, 0, rfl, row.lt, ⟨by omega, hAF⟩, fun i hi => ?_⟩⟩
        obtain ⟨c, h1, h2, h3⟩ := HI.out i hi
        rw [Nat.zero_add]
        refine ⟨?_, c.1, c.2, ?_, h1.s.mono (fun q _ hq => ⟨by omega, hFA q hq.1⟩), h1.f.1, h1.f.2.1, h1.f.2.2, h1.b⟩
        · rw [row.cell (by omega), h2]
        · rw [row.cell (by omega), h3]
      refine ⟨_, _, F, rfl, HK.out _ (hAA ▸ hC.b), hti, ⟨Nat.le_refl _, (show k ≤ maxLen from by have := HNL.out; unfold maxLen; omega), fun e => by cases e⟩, fun q i hq => hC.f q i (by omega)⟩
end Go.Proofs.Ytcjmmfgnnebgkaa


/- The landed disk is what the statements ask of it. -/
namespace Go.Proofs.Ytcjmmfgnnebgkaa
open Go.RowKit
set_option maxRecDepth 20000

theorem dsk_is : DskIs PwInv DkInv where
  base := dkbase
  wf := fun h => by
    obtain ⟨b, FB, vD, f, -, hA, -⟩ := h
    exact hA.isWf
  make := kmake
  write := kwrite
  writeNo := kwriteNo
  barrier := kbarrier
  read := fun p F G v st q lba h1 h2 w hD hP _ => kread p F G v st q lba h1 h2 w hD hP
  readNo := fun p F G v st q lba h1 w hD hP _ => kreadNo p F G v st q lba h1 w hD hP
  crash := fun p F v st x m c K _ w hD hK => kcrash p F v st x m c K w hD hK
  refuse := krefuse
  trace := ktrace
  writeNil := kwriteNil
  barrierNil := kbarrierNil
  readNil := kreadNil
  crashNil := kcrashNil
  refuseNil := krefuseNil
  traceNil := ktraceNil
end Go.Proofs.Ytcjmmfgnnebgkaa


/- DiskLasts' walk. -/
namespace Go.Proofs.Ytcjmmfgnnebgkaa
open Go.RowKit
set_option maxRecDepth 20000
variable {PI : (Nat → Prop) → World → Value → PSt → Prop} {DI : Option Addr → (Nat → Prop) → World → Value → DskSt → Prop}

set_option maxHeartbeats 4000000 in
theorem dlast_in (hP : PowIs PI) (hO : DskIs PI DI) (lba n1 c1 n2 c2 : Nat) (keep : Bool) (x1 x2 : Option Addr) (xs1 xs2 : List Int) (h0 : lba < 32) (h1 : n1 ≤ 32) (h2 : n2 ≤ 32) (b1 : Bytes xs1) (b2 : Bytes xs2) (w : World) (s1 : SAt w x1 n1 xs1) (s2 : SAt w x2 n2 xs2) :
    Calls Try.prog 4 #[.int .i64 (lba : Int), .slice x1 n1 c1, .slice x2 n2 c2, .bool keep] w fun e w' => e = .returned (.bool true) ∧ Below w.heap.size w w' := by
  obtain ⟨A, hAe⟩ : ∃ A, blk (xs1.take 32) = A := ⟨_, rfl⟩
  obtain ⟨B, hBe⟩ : ∃ B, blk (xs2.take 32) = B := ⟨_, rfl⟩
  have bA := hide' (blk_bytes (b1.take 32))
  have bB := hide' (blk_bytes (b2.take 32))
  rw [hAe] at bA
  rw [hBe] at bB
  go_enter Try.func4, Try.ntmps4
  go_wp2_with fail
  refine (hP.make _).mono ?_
  rintro e w1 ⟨u, G, rfl, hJ, hG, hb⟩
  obtain ⟨p, rfl⟩ := hP.base.ptr hJ
  have M0 : ObjIn PI w G (.pointer (some p)) (true, none, 0) w1 := ⟨hJ, hG, hb⟩
  clear hJ hG hb
  go_wp2_with fail
  refine (hO.make (some p) _).mono ?_
  rintro e w2 ⟨v, F, rfl, hI, hF, hb⟩
  obtain ⟨a, rfl⟩ := (hO.base _).ptr hI
  have M : DDev PI DI (some p) w F (.pointer (some a)) DskSt.new G 0 w2 := (M0.duo hP.base hI hF hb).swap
  clear hI hF hb M0
  have hZ : (List.replicate 32 zblk).length = 32 := by simp
  replace M : DDev PI DI (some p) w F (.pointer (some a)) ⟨List.replicate 32 zblk, [], [], false⟩ G 0 w2 := M
  generalize List.replicate 32 zblk = Z at *
  replace hZ := hide' hZ
  go_wp2_with fail
  refine (bblock false xs1 x1 n1 c1 _ (s1.below M.hB)).mono ?_
  rintro e w3 ⟨rfl, hr, hb⟩
  have sA := row_sin hO hP M (Nat.le_refl _) hr (blk_len (by rw [List.length_take]; omega))
  replace M := M.quiet (hO.base _) hP.base hb
  clear hr hb
  rw [hAe] at sA
  go_wp2_with fail
  refine (dwrite_at hO (some p) F G _ (st' := ⟨Z, [(lba, A)], [((lba : Int), A)], false⟩) lba 32 _ A rfl rfl h0 rfl (Nat.zero_le _) (by decide) ⟨by decide, by decide, fun e => by cases e⟩ bA.out _ M sA).mono ?_
  rintro e w4 ⟨F4, G4, rfl, hK⟩
  replace M := M.both hK
  clear hK sA
  go_wp2_with fail
  refine (dbarrier_at hO (some p) F4 G4 _ (st' := ⟨Z.set lba A, [], [((lba : Int), A), (-1, [])], false⟩) rfl (by show 1 ≤ _; decide) (by decide) _ M).mono ?_
  rintro e w5 ⟨F5, G5, rfl, hK⟩
  replace M := M.both hK
  clear hK
  go_wp2_with fail
  refine (bblock false xs2 x2 n2 c2 _ (s2.below M.hB)).mono ?_
  rintro e w6 ⟨rfl, hr, hb⟩
  have sB := row_sin hO hP M (Nat.le_refl _) hr (blk_len (by rw [List.length_take]; omega))
  replace M := M.quiet (hO.base _) hP.base hb
  clear hr hb
  rw [hBe] at sB
  go_wp2_with fail
  refine (dwrite_at hO (some p) F5 G5 _ (st' := ⟨Z.set lba A, [(lba, B)], [((lba : Int), A), (-1, []), ((lba : Int), B)], false⟩) lba 32 _ B rfl rfl h0 rfl (by show 2 ≤ _; decide) (by decide) ⟨by decide, by decide, fun e => by cases e⟩ bB.out _ M sB).mono ?_
  rintro e w7 ⟨F7, G7, rfl, hK⟩
  replace M := M.both hK
  clear hK sB
  have hB := True.intro
  cases keep
  · have hb : Below w7.heap.size w7 (w7.alloc (.cells #[.bool false] 4)) := (Below.refl _ _).alloc (Nat.le_refl _) _
    have hkp : KIn (fun k => ¬ F7 k) (w7.alloc (.cells #[.bool false] 4)) (some ⟨w7.heap.size, 0, none⟩) 1 [false] := by
      refine ⟨rfl, fun _ => ⟨w7.heap.size, 0, rfl, by simp, (M.new (hO.base _) hP.base).1, fun i hi => ?_⟩⟩
      obtain rfl : i = 0 := by omega
      simp
    replace M := M.quiet (hO.base _) hP.base hb
    clear hb
    go_wp2_with fail
    refine (dcrash_at hO (some p) F7 _ (st' := ⟨(Z.set lba A), [], [((lba : Int), A), (-1, []), ((lba : Int), B)], false⟩) _ 1 1 [false] rfl ⟨by decide, by decide, fun e => by cases e⟩ _ M.one hkp).mono ?_
    rintro e w8 ⟨F8, rfl, hK⟩
    replace M := M.o1 hP.base hK
    clear hK hkp
    go_wp2_with fail
    refine (dread_at hO (some p) F8 G7 _ lba (ys := A) rfl (by show (Z.set lba A).getD lba [] = A; simp [hZ.out, h0]) h0 _ M).mono ?_
    rintro e wq ⟨z, cz, F9, rfl, hK, sx, -, -⟩
    replace sx := sx.newD hP.base M
    replace M := M.o1 hP.base hK
    clear hK hB
    subst hAe
    clear hBe
    go_wp2_with fail
    refine (bblock false xs1 x1 n1 c1 _ (s1.below M.hB)).mono ?_
    rintro e w9 ⟨rfl, hr, hb⟩
    have sA := row_sin hO hP M (Nat.le_refl _) hr (blk_len (by rw [List.length_take]; omega))
    replace M := M.quiet (hO.base _) hP.base hb
    have hbk := hb
    clear hr hb
    replace sx := sx.off (Off.of_below (F := fun _ => False) hbk) (fun _ _ _ h => h)
    clear hbk
    have e0_ := fun c => sx.sat.conv (c := c)
    have e1_ := fun c => sA.sat.conv (c := c)
    have hss := str_self (blk (xs1.take 32))
    go_wp2_with fail
    clear e0_ e1_ sx sA
    refine (dknown hP hO _).mono ?_
    rintro e w20 ⟨rfl, hb⟩
    replace M := M.quiet (hO.base _) hP.base hb
    go_wp2
    go_ret
    exact ⟨rfl, M.hB⟩
  · have hb : Below w7.heap.size w7 (w7.alloc (.cells #[.bool true] 4)) := (Below.refl _ _).alloc (Nat.le_refl _) _
    have hkp : KIn (fun k => ¬ F7 k) (w7.alloc (.cells #[.bool true] 4)) (some ⟨w7.heap.size, 0, none⟩) 1 [true] := by
      refine ⟨rfl, fun _ => ⟨w7.heap.size, 0, rfl, by simp, (M.new (hO.base _) hP.base).1, fun i hi => ?_⟩⟩
      obtain rfl : i = 0 := by omega
      simp
    replace M := M.quiet (hO.base _) hP.base hb
    clear hb
    go_wp2_with fail
    refine (dcrash_at hO (some p) F7 _ (st' := ⟨((Z.set lba A).set lba B), [], [((lba : Int), A), (-1, []), ((lba : Int), B)], false⟩) _ 1 1 [true] rfl ⟨by decide, by decide, fun e => by cases e⟩ _ M.one hkp).mono ?_
    rintro e w8 ⟨F8, rfl, hK⟩
    replace M := M.o1 hP.base hK
    clear hK hkp
    go_wp2_with fail
    refine (dread_at hO (some p) F8 G7 _ lba (ys := B) rfl (by show ((Z.set lba A).set lba B).getD lba [] = B; simp [hZ.out, h0]) h0 _ M).mono ?_
    rintro e wq ⟨z, cz, F9, rfl, hK, sx, -, -⟩
    replace sx := sx.newD hP.base M
    replace M := M.o1 hP.base hK
    clear hK hB
    subst hAe hBe
    go_wp2_with fail
    refine (bblock false xs1 x1 n1 c1 _ (s1.below M.hB)).mono ?_
    rintro e w9 ⟨rfl, hr, hb⟩
    have sA := row_sin hO hP M (Nat.le_refl _) hr (blk_len (by rw [List.length_take]; omega))
    replace M := M.quiet (hO.base _) hP.base hb
    have hbk := hb
    clear hr hb
    replace sx := sx.off (Off.of_below (F := fun _ => False) hbk) (fun _ _ _ h => h)
    clear hbk
    go_wp2_with fail
    refine (bblock false xs2 x2 n2 c2 _ (s2.below M.hB)).mono ?_
    rintro e w10 ⟨rfl, hr, hb⟩
    have sB := row_sin hO hP M (Nat.le_refl _) hr (blk_len (by rw [List.length_take]; omega))
    replace M := M.quiet (hO.base _) hP.base hb
    replace sx := sx.off (Off.of_below (F := fun _ => False) hb) (fun _ _ _ h => h)
    clear hr hb
    have e0_ := fun c => sx.sat.conv (c := c)
    have e1_ := fun c => sB.sat.conv (c := c)
    have hss := str_self (blk (xs2.take 32))
    go_wp2_with fail
    clear e0_ e1_ sx sA sB
    refine (dknown hP hO _).mono ?_
    rintro e w20 ⟨rfl, hb⟩
    replace M := M.quiet (hO.base _) hP.base hb
    go_wp2
    go_ret
    exact ⟨rfl, M.hB⟩
theorem dlast_any (hP : PowIs PI) (hO : DskIs PI DI) (lba : Int) (n1 c1 n2 c2 : Nat) (keep : Bool) (x1 x2 : Option Addr) (xs1 xs2 : List Int) (b1 : Bytes xs1) (b2 : Bytes xs2) (w : World) (s1 : SAt w x1 n1 xs1) (s2 : SAt w x2 n2 xs2) :
    Calls Try.prog 4 #[.int .i64 lba, .slice x1 n1 c1, .slice x2 n2 c2, .bool keep] w fun e w' => e = .returned (.bool true) ∧ Below w.heap.size w w' := by
  by_cases hok : (0 ≤ lba ∧ lba < 32) ∧ n1 ≤ 32 ∧ n2 ≤ 32
  · obtain ⟨⟨h0, h1⟩, h2, h3⟩ := hok
    obtain ⟨lba, rfl⟩ : ∃ k : Nat, lba = k := ⟨lba.toNat, by omega⟩
    exact dlast_in hP hO lba n1 c1 n2 c2 keep x1 x2 xs1 xs2 (by omega) h2 h3 b1 b2 w s1 s2
  have H1 := hide' hok
  clear hok s1 s2 b1 b2
  by_cases h0 : lba < 0
  · go_enter Try.func4, Try.ntmps4
    go_wp2
    go_ret
    exact ⟨rfl, Below.refl _ _⟩
  by_cases h1 : 32 ≤ lba
  · go_enter Try.func4, Try.ntmps4
    go_wp2
    go_ret
    exact ⟨rfl, Below.refl _ _⟩
  by_cases h2 : (32 : Int) < n1
  · go_enter Try.func4, Try.ntmps4
    go_wp2
    go_ret
    exact ⟨rfl, Below.refl _ _⟩
  by_cases h3 : (32 : Int) < n2
  · go_enter Try.func4, Try.ntmps4
    go_wp2
    go_ret
    exact ⟨rfl, Below.refl _ _⟩
  exact absurd (show (0 ≤ lba ∧ lba < 32) ∧ n1 ≤ 32 ∧ n2 ≤ 32 from by omega) H1.out
end Go.Proofs.Ytcjmmfgnnebgkaa
