/- Clone BEq OImA OImM Cat OImS: texts laid together. -/
import Derived.Test.YtkbhkgfchiacbaaBAt
import Derived.Test.YtkbhkgfchiacbaaM13
import Derived.Test.YtkbhkgfchiacbaaM01
import Derived.Test.YtkbhkgfchiacbaaM04
import Derived.Test.YtkbhkgfchiacbaaM08
import Derived.Test.YtkbhkgfchiacbaaM03
import Derived.Maps.OwnSet
import Derived.Test.YtkbhkgfchiacbaaM07
import Derived.Lib.AppendZeros
import Derived.WalkSpells

/- bytes.Clone, as the library has it; append to an empty slice literal. -/
namespace Go.Proofs.Ytkbhkgfchiacbaa
open Go.RowKit
set_option maxRecDepth 20000

/-- append of bytes to an empty slice literal: new memory, none of it frozen. -/
theorem wpList_app0C {o : Oper} {a : Act} {w : World} {ops : Array Oper} {rest : List Oper} {Q : Exit → Act → World → Prop} (hgd : o.guard = none) (s x : Operand)
    (ho : o.op = .call { callee := .builtin .append, args := #[s, x], argTypes := #[40, 40] }) (g : Nat) (hs : a.eval s = .slice (some ⟨g, 0, none⟩) 0 0) (base : Nat) (hown : w.ownsRow base 5 1 (.slice (some ⟨g, 0, none⟩) 0 0) 0 [])
    (y : Option Addr) (m c : Nat) (xs : List Int) (hx : a.eval x = .slice y m c) (hrow : SAt w y m xs) (hb : m ≤ 100000) (hbase : base ≤ w.heap.size)
    (h : ∀ v w', w'.ownsRow base 5 1 v m (xs.map (Value.int .u8)) → Clean w w' → v ≠ .slice none 0 0 → wpList Try.prog ops Q rest (a.put o.dst v) w') : wpList Try.prog ops Q (o :: rest) a w := by
  refine wpList_plain hgd fun _ hK => ?_
  obtain ⟨i0, hi, hz0, hz1, hz2⟩ := info_parts Try.info5
  by_cases hm : m = 0
  · subst hm
    obtain rfl : xs = [] := List.eq_nil_of_length_eq_zero hrow.1
    have hr : (Builtin.append_ #[40, 40] o.type #[.slice (some ⟨g, 0, none⟩) 0 0, .slice y 0 c]).run Try.prog w = .ok (.slice (some ⟨g, 0, none⟩) 0 0) w := by
      cases y with
      | none => simp [Builtin.append_, run_underlying Try.underlying40, sizeOf, typeInfo, hi, Builtin.lenOf, Builtin.firstCells, storeCells]
      | some ad =>
        have hf := run_firstCells_some (P := Try.prog) w i0.size 0 ad 0 c [] (by simp) (fun j u hj => by simp at hj)
        simp [Builtin.append_, run_underlying Try.underlying40, sizeOf, typeInfo, hi, Builtin.lenOf, hf, storeCells]
    unfold Oper.wp execOp
    simp only [ho, resolve, invoke, builtin, Sem.run_bind, Sem.run_pure, Result.andThen_ok, List.map_toArray, List.map_cons, List.map_nil, hs, hx, hr]
    exact hK _ _ (h _ w hown (Clean.refl _) (fun e => by cases e))
  · obtain ⟨b, off, rfl, _, hc⟩ := hrow.2 (by omega)
    have hl : (xs.map (Value.int .u8)).length = m := by rw [List.length_map]; exact hrow.1
    have hr := run_append_grow (P := Try.prog) w 40 o.type 5 i0 _ Try.underlying40 hi hz0 ⟨g, 0, none⟩ 0 0 [] (by simp) (fun j u hj => by simp at hj) ⟨b, off, none⟩ m c (xs.map (Value.int .u8)) (by rw [hz1, hl, Nat.mul_one]) hc.news (by omega) (by omega)
      (by rw [hz2]; exact growslice_fits (by omega) (by omega))
    simp only [Nat.zero_add] at hr
    have hge := grownCap_ge w m 0 5
    unfold Oper.wp execOp
    simp only [ho, resolve, invoke, builtin, Sem.run_bind, Sem.run_pure, Result.andThen_ok, List.map_toArray, List.map_cons, List.map_nil, hs, hx, hr]
    refine hK _ _ (h _ _ ⟨by rw [hl, Nat.mul_one], .inr ⟨w.heap.size, _, _, rfl, hbase, heap_alloc_new w.drew _, hge, grownCap_le_maxLen w m 0 5 (by unfold maxLen; omega), ?_, ?_⟩⟩ ((Clean.refl w).drew.alloc _ _) (fun e => by cases e))
    · simp [size_zeroCells, hl, Value.cells]
      omega
    · rw [Nat.mul_one, ← hl]
      simp

theorem nil_eq (a : Option Addr) (l c : Nat) (w : World) : (binOp .eql 40 (.slice a l c) (.slice none 0 0)).run Try.prog w = .ok (.bool a.isNone) w := by
  simp [binOp, run_equal_slice_nil (P := Try.prog) (w := w) 40 5 a l c Try.underlying40, Result.andThen]
set_option maxHeartbeats 1000000 in
/-- Of what is not nil: not nil. -/
theorem icloneN (ad : Addr) (n c : Nat) (xs : List Int) (hn : n ≤ 100000) (w : World) (sx : SAt w (some ad) n xs) : Calls Try.prog 51 #[.slice (some ad) n c] w fun e w' => ∃ v, e = .returned v ∧ w'.ownsRow w.heap.size 5 1 v n (xs.map (Value.int .u8)) ∧ Clean w w' ∧ v ≠ .slice none 0 0 := by
  have hne := nil_eq
  have hb : Below w.heap.size w (w.alloc (.cells #[] 5)) := (Below.refl _ _).alloc (Nat.le_refl _) _
  go_enter Try.func51, Try.ntmps51
  go_wp2_with (at_builtin; refine wpList_app0C rfl _ _ rfl w.heap.size rfl w.heap.size (World.ownsRow_lit (base := w.heap.size) (e := 5) (size := 1) w #[] 0 (Nat.le_refl _) (by decide) rfl) (some ad) n c xs rfl (sx.below hb) hn (by simp) ?_)
  intro v w' own hc hv
  replace hc := ((Clean.refl w).alloc #[] 5).trans hc
  have HV := hide' hv
  clear hv
  go_wp2
  go_ret
  exact ⟨_, rfl, own, hc, HV.out⟩
theorem iclone (x : Option Addr) (n c : Nat) (xs : List Int) (hn : n ≤ 100000) (hnil : x = none → n = 0 ∧ c = 0) (w : World) (sx : SAt w x n xs) : Calls Try.prog 51 #[.slice x n c] w fun e w' => ∃ v, e = .returned v ∧ w'.ownsRow w.heap.size 5 1 v n (xs.map (Value.int .u8)) ∧ Clean w w' := by
  cases x with
  | none =>
    have hne := nil_eq
    obtain ⟨rfl, rfl⟩ := hnil rfl
    obtain rfl : xs = [] := List.eq_nil_of_length_eq_zero sx.1
    go_enter Try.func51, Try.ntmps51
    go_wp2
    go_ret
    exact ⟨_, rfl, World.ownsRow_nil _ _ _ _, Clean.refl _⟩
  | some ad =>
    exact (icloneN ad n c xs hn w sx).mono (by
      rintro e w' ⟨v, h1, h2, h3, -⟩
      exact ⟨v, h1, h2, h3⟩)
end Go.Proofs.Ytkbhkgfchiacbaa


/- bytes.Equal, as the library has it. -/
namespace Go.Proofs.Ytkbhkgfchiacbaa
open Go.RowKit
set_option maxRecDepth 20000

theorem iequal (x y : Option Addr) (n m c d : Nat) (xs ys : List Int) (bx : Bytes xs) (by_ : Bytes ys) (w : World) (sx : SAt w x n xs) (sy : SAt w y m ys) : Calls Try.prog 53 #[.slice x n c, .slice y m d] w fun e w' => e = .returned (.bool (decide (xs = ys))) ∧ w' = w := by
  have e1 := fun c => sx.conv (c := c)
  have e2 := fun c => sy.conv (c := c)
  rw [← str_eq xs ys bx by_]
  go_enter Try.func53, Try.ntmps53
  go_wp2
  go_ret
  exact ⟨rfl, rfl⟩
end Go.Proofs.Ytkbhkgfchiacbaa


/- What the program's oracle calls: bytes.Clone, bytes.Equal, sealed, same. -/
namespace Go.Proofs.Ytkbhkgfchiacbaa
open Go.RowKit
set_option maxRecDepth 20000

set_option maxHeartbeats 400000 in
theorem iput8 (V : Nat) (w : World) : Calls Try.prog 56 #[.int .u64 V, .int .i64 8] w fun e w' => e = .returned (.slice (some ⟨w.heap.size, 0, none⟩) 8 8) ∧ At w' w.heap.size 0 (putL V 8) ∧ Clean w w' ∧ w.heap.size < w'.heap.size := by
  obtain ⟨n, hn⟩ : ∃ n : Nat, n = 8 := ⟨_, rfl⟩
  have e8 : (8 : Int) = (n : Int) := by omega
  rw [← hn]
  rw [show ((.int .i64 8 : Value)) = .int .i64 (n : Int) from by rw [e8]]
  have h1 : 1 ≤ n := by omega
  have h2 : n ≤ 8 := by omega
  clear e8 hn
  have hmk := run_make_row' (P := Try.prog) 40 5 (.int .u8 0) 1 Try.underlying40 Try.info5 rfl .i64 .i64 n (by omega) (by omega)
  go_enter Try.func56, Try.ntmps56
  go_wp2
  go_loopw [0, 6] (fun v i wr => ∃ k : Nat, k ≤ n ∧ i = .int .i64 ((k : Int) - 1) ∧ v = .int .u64 ((V / 256 ^ (n - k) : Nat) : Int) ∧ wr.rowIs w.heap.size 5 n (fun j => if j < k then .int .u8 0 else .int .u8 (byteAt V (n - 1 - j))) ∧ Clean w wr)
    (fun _ i _ => (intOf i + 1).toNat)
  case atStart =>
    exact ⟨n, Nat.le_refl _, rfl, by simp, (World.rowIs_made _ _ _ _).congr (fun i hi => by simp [hi]), (Clean.refl _).alloc _ _⟩
  case round =>
    obtain ⟨k, hk, rfl, rfl, hrow, hb⟩ := hrel
    by_cases hlt : 1 ≤ k
    · have hce := hrow.cell (i := k - 1) (by omega)
      have hfr := hrow.frozen (k - 1)
      go_wp2
      go_roundw
      case rel =>
        refine ⟨k - 1, by omega, by rw [show (k : Int) - 1 - 1 = ((k - 1 : Nat) : Int) - 1 from by omega], by rw [shr_step V n k hlt hk], (hrow.set (k - 1) _).congr (fun i hi => ?_), hb.setCell (Nat.le_refl _) _⟩
        by_cases e : i = k - 1
        · subst e; simp [byte_step V n k hlt hk]
        · by_cases e' : i < k - 1
          · have e2 : i < k := by omega
            simp [e, e', e2]
          · have e2 : ¬ i < k := by omega
            simp [e, e', e2]
      case measure => simp [intOf]; omega
    · go_wp2
      go_ret
      refine ⟨rfl, At.put (hrow.congr (fun i hi => ?_)), hb, hrow.lt⟩
      have e : ¬ i < k := by omega
      simp [e]

set_option maxHeartbeats 1000000 in
theorem isame (t t' : BitVec 64 × BitVec 64) (xs ys : List Int) (z y : Option Addr) (m n c d : Nat) (bx : Bytes xs) (by_ : Bytes ys) (w : World) (sz : SAt w z m xs) (sy : SAt w y n ys) : Calls Try.prog 54 #[.agg #[.slice z m c, .int .u64 (nv t.1), .int .u64 (nv t.2)], .agg #[.slice y n d, .int .u64 (nv t'.1), .int .u64 (nv t'.2)]] w fun e w' => e = .returned (.bool (decide (t = t' ∧ xs = ys))) ∧ Below w.heap.size w w' := by
  have heq := eq32
  have hb : Below w.heap.size w ((w.alloc (.cells #[.slice z m c, .int .u64 (nv t.1), .int .u64 (nv t.2)] 76)).alloc (.cells #[.slice y n d, .int .u64 (nv t'.1), .int .u64 (nv t'.2)] 76)) := by go_grown
  have hpe := pair_eq_of t t'
  by_cases h : t = t'
  · have hpe2 : (nv t.1 == nv t'.1 && nv t.2 == nv t'.2) = true := by rw [hpe]; exact decide_eq_true h
    have hd : decide (t = t' ∧ xs = ys) = decide (xs = ys) := by simp [h]
    rw [hd]
    clear hpe h hd
    go_enter Try.func54, Try.ntmps54
    go_wp2_with fail
    refine (iequal z y m n c d xs ys bx by_ _ (sz.below hb) (sy.below hb)).mono ?_
    rintro e w2 ⟨rfl, rfl⟩
    go_wp2
    go_ret
    exact ⟨rfl, hb⟩
  · have hpe2 : (nv t.1 == nv t'.1 && nv t.2 == nv t'.2) = false := by rw [hpe]; exact decide_eq_false h
    have hd : decide (t = t' ∧ xs = ys) = false := by simp [h]
    rw [hd]
    clear hpe h hd
    go_enter Try.func54, Try.ntmps54
    go_wp2
    go_ret
    exact ⟨rfl, hb⟩

set_option maxRecDepth 10000 in
set_option maxHeartbeats 1000000 in
theorem isealed (i n : Nat) (hn : n ≤ 100000) (w : World) : Calls Try.prog 52 #[.int .u64 (i : Int), .int .i64 (n : Int)] w fun e w' => ∃ g, e = .returned (.agg #[.slice (some ⟨g, 0, none⟩) n n, .int .u64 18446744073709551615, .int .u64 (i : Int)]) ∧ w.heap.size ≤ g ∧ w'.rowIs g 5 n (fun j => .int .u8 ((outB i n).getD j 0)) ∧ Clean w w' := by
  have bR := SBox.new w (.slice none 0 0) 0 0
  have hC : Clean w (w.alloc (.cells #[.slice none 0 0, .int .u64 0, .int .u64 0] 76)) := (Clean.refl w).alloc _ _
  have hmk := run_make_row' (P := Try.prog) 40 5 (.int .u8 0) 1 Try.underlying40 Try.info5 rfl .i64 .i64 n (by omega) (by omega)
  go_enter Try.func52, Try.ntmps52
  go_wp2_with fail
  generalize w.alloc (.cells #[.slice none 0 0, .int .u64 0, .int .u64 0] 76) = W1 at *
  refine (iput8 i _).mono ?_
  rintro e w1 ⟨rfl, at1, hc, hlt1⟩
  have hq1 := bR.lt
  replace bR := bR.grown hc.b
  replace hC := hC.trans hc
  have hA1 : w.heap.size < W1.heap.size := hq1
  clear hc hq1
  generalize W1.heap.size = A at *
  have hO : ∀ k, k < n → (outB i n).getD k 0 = (putL i 8).getD (k % 8) 0 := fun k hk => by simp [outB, hk, List.getD]
  have HO := hide' hO
  clear hO
  go_wp2
  clear hmk
  have hAw : A < (w1.alloc (.cells (madeCells #[.int .u8 0] n) 5)).heap.size := by simp; omega
  have hrow0 := World.rowIs_made w1 (.int .u8 0) n 5
  have hC2 := hC.alloc (madeCells #[.int .u8 0] n) 5
  have hb2 : Below w1.heap.size w1 (w1.alloc (.cells (madeCells #[.int .u8 0] n) 5)) := (Below.refl _ _).alloc (Nat.le_refl _) _
  generalize hw2 : w1.alloc (.cells (madeCells #[.int .u8 0] n) 5) = w2 at *
  clear hw2 hC
  go_loopw [14] (fun q wr => ∃ k : Nat, k ≤ n ∧ q = .int .i64 (k : Int) ∧ wr.rowIs w1.heap.size 5 n (fun j => if j < k then .int .u8 ((outB i n).getD j 0) else .int .u8 0) ∧ Below w1.heap.size w1 wr ∧ Clean w wr) (fun q _ => n - (intOf q).toNat)
  case atStart => exact ⟨0, Nat.zero_le _, rfl, hrow0.congr (fun i hi => by simp), hb2, hC2⟩
  case round =>
    clear hb2 hrow0 hC2
    obtain ⟨k, hk, rfl, hrow, hB, hC⟩ := hrel
    by_cases hlt : k < n
    · have hk8 : k % 8 < 8 := Nat.mod_lt _ (by decide)
      have hce := (at1.below hB hlt1) (k % 8) (by rw [putL_length]; exact hk8)
      rw [Nat.zero_add] at hce
      have hi1 : (k : Int) % 8 = ((k % 8 : Nat) : Int) := by omega
      have HK := hide' (HO.out k hlt)
      obtain ⟨u, HU⟩ : ∃ u, Hid ((putL i 8).getD (k % 8) 0 = u) := ⟨_, rfl⟩
      rw [HU.out] at hce HK
      have hc2 := hrow.cell (i := k) hlt
      have hfr := hrow.frozen k
      generalize hr8 : k % 8 = r8 at *
      go_wp2
      go_roundw
      case rel =>
        refine ⟨k + 1, by omega, by go_num, (hrow.set k _).congr (fun j hj => ?_), hB.setCell (Nat.le_refl _) _, hC.setCell (by simp only; omega) _⟩
        by_cases e : j = k
        · subst e
          rw [if_pos rfl, if_pos (Nat.lt_succ_self _), HK.out]
        · by_cases e' : j < k
          · have e2 : j < k + 1 := by omega
            simp [e, e', e2]
          · have e2 : ¬ j < k + 1 := by omega
            simp [e, e', e2]
      case measure => simp [intOf]; omega
    · obtain rfl : k = n := by omega
      have hrow2 := hrow.congr (g := fun j => .int .u8 ((outB i k).getD j 0)) (fun j hj => by simp [hj])
      clear hrow HO
      have bR' := bR.grown hB
      have k0 := bR'.c0
      have k1 := bR'.c1
      have k2 := bR'.c2
      have k3 := bR'.frozen 0
      have k4 := bR'.frozen 1
      have k5 := bR'.frozen 2
      go_wp2
      have bR2 := bR'.put3 (.slice (some ⟨w1.heap.size, 0, none⟩) k k) 18446744073709551615 (i : Int)
      have q0 := bR2.c0
      have q1 := bR2.c1
      have q2 := bR2.c2
      have hne : w1.heap.size ≠ w.heap.size := by omega
      refine bodyPost_ret (v := .agg #[.slice (some ⟨w1.heap.size, 0, none⟩) k k, .int .u64 18446744073709551615, .int .u64 (i : Int)]) (by simp [results, Try.results52, go_sem, q0, q1, q2]) rfl ⟨w1.heap.size, rfl, by omega, ?_, ?_⟩
      · exact ((hrow2.setOther hne _).setOther hne _).setOther hne _
      · exact ((hC.setCell (Nat.le_refl _) _).setCell (Nat.le_refl _) _).setCell (Nat.le_refl _) _
end Go.Proofs.Ytkbhkgfchiacbaa


/- The program's ideal sealer in memory: its records, its sums. -/
namespace Go.Proofs.Ytkbhkgfchiacbaa
open Go.RowKit Go.Maps
set_option maxRecDepth 20000

/-- These blocks are as they were. -/
structure Eqs (G : Nat → Prop) (w w' : World) : Prop where
  size : w.heap.size ≤ w'.heap.size
  block : ∀ k, k < w.heap.size → G k → w'.heap[k]? = w.heap[k]?
theorem Eqs.of_off {F G : Nat → Prop} {w w' : World} (h : Off F w w') (hd : ∀ k, k < w.heap.size → G k → ¬ F k) : Eqs G w w' := ⟨h.size, fun k hk hg => h.block k hk (hd k hk hg)⟩
theorem Eqs.mono {G G' : Nat → Prop} {w w' : World} (h : Eqs G w w') (hd : ∀ k, G' k → G k) : Eqs G' w w' := ⟨h.size, fun k hk hg => h.block k hk (hd k hg)⟩
theorem SIn.eqs {G : Nat → Prop} {w w' : World} {x : Option Addr} {l : Nat} {ys : List Int} (h : SIn G w x l ys) (hb : Eqs G w w') : SIn G w' x l ys :=
  ⟨h.1, fun hl => by
    obtain ⟨b, o, e, hlt, hg, ha⟩ := h.2 hl
    exact ⟨b, o, e, Nat.lt_of_lt_of_le hlt hb.size, hg, fun i hi => (World.cell?_of_block (w := w) (hb.block b hlt hg)).trans (ha i hi)⟩⟩
theorem own_eqs {G : Nat → Prop} {w w' : World} {base e size n : Nat} {v : Value} {xs : List Value} (h : w.ownsRow base e size v n xs) (hb : Eqs G w w') (hn : ∀ k, v.ownBlock = some k → G k) : w'.ownsRow base e size v n xs := by
  obtain ⟨h1, h2 | ⟨g, cap, cur, rfl, hg, hh, rest⟩⟩ := h
  · exact ⟨h1, Or.inl h2⟩
  · have hlt := (Array.getElem?_eq_some_iff.1 hh).1
    exact ⟨h1, Or.inr ⟨g, cap, cur, rfl, hg, (hb.block g hlt (hn g rfl)).trans hh, rest⟩⟩

/-- A record, cell by cell. -/
def recC (x : Iss) (c : SlC) : List Value := [.int .u64 (nv x.key.1), .int .u64 (nv x.key.2), .int .u32 (nv32 x.non.1), .int .u32 (nv32 x.non.2.1), .int .u64 (nv x.non.2.2), .slice c.h x.head.length c.hc, .slice c.d x.data.length c.dc]
theorem recC_length (x : Iss) (c : SlC) : (recC x c).length = 7 := rfl
structure RecIn (G : Nat → Prop) (w : World) (x : Iss) (c : SlC) : Prop where
  hs : SIn G w c.h x.head.length x.head
  hl : x.head.length ≤ c.hc ∧ c.hc ≤ maxLen ∧ (c.h = none → x.head.length = 0 ∧ c.hc = 0)
  hb : Bytes x.head
  hm : x.head.length ≤ 4000
  ds : SIn G w c.d x.data.length x.data
  dl : x.data.length ≤ c.dc ∧ c.dc ≤ maxLen ∧ (c.d = none → x.data.length = 0 ∧ c.dc = 0)
  db : Bytes x.data
  dm : x.data.length ≤ 4000
theorem RecIn.eqs {G : Nat → Prop} {w w' : World} {x : Iss} {c : SlC} (h : RecIn G w x c) (hb : Eqs G w w') : RecIn G w' x c :=
  ⟨h.hs.eqs hb, h.hl, h.hb, h.hm, h.ds.eqs hb, h.dl, h.db, h.dm⟩
theorem RecIn.mono {G G' : Nat → Prop} {w : World} {x : Iss} {c : SlC} (h : RecIn G w x c) (hd : ∀ b, b < w.heap.size → G b → G' b) : RecIn G' w x c :=
  ⟨h.hs.mono hd, h.hl, h.hb, h.hm, h.ds.mono hd, h.dl, h.db, h.dm⟩
/-- A row of records: its block, and others, in which its slices stand. -/
def RcRow (G : Nat → Prop) (w : World) (v : Value) (L : List Iss) : Prop := ∃ C : Nat → SlC, w.ownsRow 0 92 7 v L.length (flatG (fun i => recC (L.getD i default) (C i)) L.length) ∧ (∀ k, v.ownBlock = some k → G k) ∧ ∀ i, i < L.length → RecIn (fun k => G k ∧ v.ownBlock ≠ some k) w (L.getD i default) (C i)
theorem RcRow.eqs {G : Nat → Prop} {w w' : World} {v : Value} {L : List Iss} (h : RcRow G w v L) (hb : Eqs G w w') : RcRow G w' v L := by
  obtain ⟨C, h1, h2, h3⟩ := h
  exact ⟨C, own_eqs h1 hb h2, h2, fun i hi => (h3 i hi).eqs (hb.mono (fun k hk => hk.1))⟩
theorem rec_cells {G : Nat → Prop} {w : World} {v : Value} {L : List Iss} (h : RcRow G w v L) (i : Nat) (hi : i < L.length) : ∃ g cap c, v = .slice (some ⟨g, 0, none⟩) L.length cap ∧ L.length ≤ cap ∧ g < w.heap.size ∧ G g ∧ RecIn (fun k => G k ∧ v.ownBlock ≠ some k) w (L.getD i default) c ∧ ∀ j u, (recC (L.getD i default) c)[j]? = some u → w.cell? ⟨g, i * 7 + j, none⟩ = some u := by
  obtain ⟨C, h1, h2, h3⟩ := h
  have hget : ∀ j, j < 7 → (flatG (fun i => recC (L.getD i default) (C i)) L.length)[i * 7 + j]? = (recC (L.getD i default) (C i))[j]? := fun j hj => flatG_get (s := 7) (fun i => recC_length _ _) L.length i j hi hj
  obtain ⟨g, cap, rfl, hnc, hgl, _⟩ := own_cell h1 ((hget 0 (by decide)).trans rfl)
  refine ⟨g, cap, C i, rfl, hnc, hgl, h2 g rfl, h3 i hi, fun j u hj => ?_⟩
  have hj7 : j < 7 := by
    rcases Nat.lt_or_ge j 7 with h | h
    · exact h
    · rw [List.getElem?_eq_none (by rw [recC_length]; exact h)] at hj
      cases hj
  obtain ⟨g', cap', e, _, _, hc⟩ := own_cell h1 ((hget j hj7).trans hj)
  simp only [Value.slice.injEq, Option.some.injEq, Addr.mk.injEq] at e
  rw [e.1.1]
  exact hc

/-- What bytes are as a key. -/
def keyS (p : List Int) : Lit := .string (strOfNums p).data.toList
theorem keyS_inj {p q : List Int} (hp : Bytes p) (hq : Bytes q) (h : keyS p = keyS q) : p = q := by
  unfold keyS at h
  injection h with h
  exact map_byt_inj p q hp hq h
theorem Try.underlyingStr : Try.prog.underlying 9 = some .string := by kernel_rfl
theorem Try.underlyingU64 : Try.prog.underlying 32 = some (.int .u64) := by kernel_rfl
theorem Try.underlyingSums : Try.prog.underlying 86 = some (.map 9 32) := by kernel_rfl
theorem lawS : Keyed Try.prog 9 := string_keyed Try.underlyingStr
theorem zeroU (w : World) : (zeroValue 32).run Try.prog w = .ok (.int .u64 0) w := by kernel_rfl
theorem keyS_mk {p : List Int} (h : p.length ≤ 50000) : keyOf Try.prog 9 (.string (strOfNums p)) = some (keyS p) :=
  WideMaps.keyOf_string_mk Try.underlyingStr (by rw [strOfNums_size]; unfold maxLen; omega)
/-- The map of sums, plain. -/
structure SumD (S : List (List Int)) (D : DataW Unit) : Prop where
  has : ∀ p, Bytes p → Maps.has D (keyS p) = decide (p ∈ S)
  val : ∀ p, p ∈ S → D.atKey (keyS p) (.lit (.int .u64 0)) = .lit (.int .u64 (sumIx S p : Nat))
  len : Maps.size D = S.length
  byt : ∀ p, p ∈ S → Bytes p
theorem SumD.nil : SumD [] (.map []) := ⟨fun p _ => by simp [Maps.has_eq], fun p hp => by simp at hp, rfl, fun p hp => by simp at hp⟩
theorem SumD.put {S : List (List Int)} {D : DataW Unit} (h : SumD S D) (hT : Tidy D) {p : List Int} (hp : p ∉ S) (bp : Bytes p) : SumD (S ++ [p]) (D.put (keyS p) (.lit (.int .u64 ((S.length : Int) + 1)))) := by
  have hnew : sumIx (S ++ [p]) p = S.length + 1 := by
    unfold sumIx
    rw [List.idxOf_append, if_neg hp]
    simp
  have hold : ∀ q, q ∈ S → sumIx (S ++ [p]) q = sumIx S q := fun q hq => by
    unfold sumIx
    rw [List.idxOf_append, if_pos hq]
  refine ⟨fun q bq => ?_, fun q hq => ?_, ?_, fun q hq => ?_⟩
  · by_cases e : q = p
    · subst e
      rw [has_put_same hT.isMap (show WideAt.IsKeyLit (keyS q) from trivial)]
      simp
    · rw [has_put_other (fun h' => e (keyS_inj bq bp h')), h.has q bq]
      simp [e]
  · by_cases e : q = p
    · subst e
      rw [atKey_put_same hT.isMap (show WideAt.IsKeyLit (keyS q) from trivial), hnew]
      rfl
    · have hq' : q ∈ S := by simpa [e] using hq
      rw [atKey_put_other (fun h' => e (keyS_inj (h.byt q hq') bp h')), h.val q hq', hold q hq']
  · rw [size_put hT, h.has p bp]
    simp [hp, h.len]
  · by_cases e : q = p
    · exact e ▸ bp
    · exact h.byt q (by simpa [e] using hq)
/-- The field sums. -/
def MRow (G : Nat → Prop) (w : World) (v : Value) (S : List (List Int)) : Prop := (v = .map none ∧ S = []) ∨ ∃ mb D, v = .map (some mb) ∧ G mb ∧ w.ownsMap Try.prog 9 (plainElem (H := Unit) Try.prog 32) mb S.length D ∧ SumD S D
theorem map_eqs {G : Nat → Prop} {w w' : World} {k b n : Nat} {R : Value → Option (DataW Unit × List MemPlace)} {D : DataW Unit} (h : w.ownsMap Try.prog k R b n D) (hb : Eqs G w w') (hG : G b) : w'.ownsMap Try.prog k R b n D := by
  have hlt := h.lt
  obtain ⟨es, clock, hh, rest⟩ := h
  exact ⟨es, clock, (hb.block b hlt hG).trans hh, rest⟩
theorem MRow.eqs {G : Nat → Prop} {w w' : World} {v : Value} {S : List (List Int)} (h : MRow G w v S) (hb : Eqs G w w') : MRow G w' v S := by
  rcases h with h | ⟨mb, D, h1, h2, h3, h4⟩
  · exact Or.inl h
  · exact Or.inr ⟨mb, D, h1, h2, map_eqs h3 hb h2, h4⟩

def PBox (w : World) (b : Nat) (u v : Value) : Prop := w.heap[b]? = some (.cells #[u, v] 88 (0, 0))
theorem PBox.c0 {w : World} {b : Nat} {u v : Value} (h : PBox w b u v) : w.cell? ⟨b, 0, none⟩ = some u := by unfold PBox at h; simp [World.cell?, h]
theorem PBox.c1 {w : World} {b : Nat} {u v : Value} (h : PBox w b u v) : w.cell? ⟨b, 1, none⟩ = some v := by unfold PBox at h; simp [World.cell?, h]
theorem PBox.frozen {w : World} {b : Nat} {u v : Value} (h : PBox w b u v) (i : Nat) : w.frozen? ⟨b, i, none⟩ = false := by unfold PBox at h; simp [World.frozen?, h]
theorem PBox.lt {w : World} {b : Nat} {u v : Value} (h : PBox w b u v) : b < w.heap.size := (Array.getElem?_eq_some_iff.1 h).1
theorem PBox.grown {w w' : World} {b : Nat} {u v : Value} (h : PBox w b u v) (hb : Below w.heap.size w w') : PBox w' b u v := (hb.block b h.lt).trans h
theorem PBox.put0 {w : World} {b : Nat} {u v : Value} (h : PBox w b u v) (u' : Value) : PBox (w.setCell ⟨b, 0, none⟩ u') b u' v := by
  unfold PBox at h ⊢
  simp [World.setCell, Array.getElem?_modify, h]
theorem PBox.put1 {w : World} {b : Nat} {u v : Value} (h : PBox w b u v) (v' : Value) : PBox (w.setCell ⟨b, 1, none⟩ v') b u v' := by
  unfold PBox at h ⊢
  simp [World.setCell, Array.getElem?_modify, h]
structure PAt (FL FS : Nat → Prop) (w : World) (b : Nat) (vL vS : Value) (st : OSt) : Prop where
  box : PBox w b vL vS
  iss : RcRow FL w vL st.1
  sum : MRow FS w vS st.2
  nl : ¬ FL b
  ns : ¬ FS b
  ls : ∀ k, FL k → ¬ FS k
theorem PAt.eqs {FL FS : Nat → Prop} {w w' : World} {b : Nat} {vL vS : Value} {st : OSt} (h : PAt FL FS w b vL vS st) (hb : Eqs (fun k => k = b ∨ FL k ∨ FS k) w w') : PAt FL FS w' b vL vS st :=
  ⟨(hb.block b h.box.lt (Or.inl rfl)).trans h.box, h.iss.eqs (hb.mono (fun _ h => Or.inr (Or.inl h))), h.sum.eqs (hb.mono (fun _ h => Or.inr (Or.inr h))), h.nl, h.ns, h.ls⟩
theorem PAt.below {FL FS : Nat → Prop} {w w' : World} {b : Nat} {vL vS : Value} {st : OSt} (h : PAt FL FS w b vL vS st) (hb : Below w.heap.size w w') : PAt FL FS w' b vL vS st := h.eqs ⟨hb.size, fun k hk _ => hb.block k hk⟩
/-- The program's ideal sealer. -/
def PInv (F : Nat → Prop) (w : World) (v : Value) (st : OSt) : Prop := ∃ b FL FS vL vS, v = .pointer (some ⟨b, 0, none⟩) ∧ PAt FL FS w b vL vS st ∧ (∀ k, F k ↔ k = b ∨ FL k ∨ FS k) ∧ ∀ k, F k → k < w.heap.size
theorem PInv.stay {F : Nat → Prop} {w w' : World} {v : Value} {st : OSt} (h : PInv F w v st) (hs : w.heap.size ≤ w'.heap.size) (hb : ∀ k, F k → w'.heap[k]? = w.heap[k]?) : PInv F w' v st := by
  obtain ⟨b, FL, FS, vL, vS, e, hA, hF, hlt⟩ := h
  exact ⟨b, FL, FS, vL, vS, e, hA.eqs ⟨hs, fun k _ hk => hb k ((hF k).2 hk)⟩, hF, fun k hk => Nat.lt_of_lt_of_le (hlt k hk) hs⟩
theorem PInv.below {F : Nat → Prop} {w w' : World} {v : Value} {st : OSt} (h : PInv F w v st) (hb : Below w.heap.size w w') : PInv F w' v st := by
  have hlt : ∀ k, F k → k < w.heap.size := by
    obtain ⟨_, _, _, _, _, _, _, _, h⟩ := h
    exact h
  exact h.stay hb.size (fun k hk => hb.block k (hlt k hk))
theorem PInv.lt {F : Nat → Prop} {w : World} {v : Value} {st : OSt} (h : PInv F w v st) : ∀ k, F k → k < w.heap.size := by
  obtain ⟨_, _, _, _, _, _, _, _, h⟩ := h
  exact h
theorem PInv.kept {F : Nat → Prop} {w w' : World} {v : Value} {st : OSt} (h : PInv F w v st) (hb : Below w.heap.size w w') : Kept PInv F w v F w' st := ⟨h.below hb, fun _ h => Or.inl h, Off.of_below hb⟩

theorem inew (w : World) : Calls Try.prog 33 #[] w fun e w' => ∃ v F, e = .returned v ∧ PInv F w' v ([], []) ∧ (∀ k, F k → w.heap.size ≤ k) ∧ Below w.heap.size w w' := by
  go_enter Try.func33, Try.ntmps33
  go_wp2
  go_ret
  refine ⟨_, fun k => k = w.heap.size, rfl, ⟨w.heap.size, fun _ => False, fun _ => False, .slice none 0 0, .map none, rfl, ⟨?_, ⟨fun _ => ⟨none, 0, none, 0, none, 0⟩, World.ownsRow_nil _ _ _ _, fun k hk => by simp [Value.ownBlock] at hk, fun i hi => absurd hi (by simp)⟩, Or.inl ⟨rfl, rfl⟩, fun h => h, fun h => h, fun _ h => h.elim⟩, fun k => by simp, fun k hk => ?_⟩, fun k hk => by omega, (Below.refl _ _).alloc (Nat.le_refl _) _⟩
  · exact heap_alloc_new _ _
  · subst hk
    simp
set_option maxHeartbeats 400000 in
theorem isealNil (key : BitVec 64 × BitVec 64) (nn : Nn) (x y : Option Addr) (nx ny c d : Nat) (w : World) : Calls Try.prog 34 #[.pointer none, kv key, nvv nn, .slice x nx c, .slice y ny d] w fun e w' => (∃ z cz t1 t2, e = .returned (.tuple #[.agg #[.slice z 0 cz, .int .u64 t1, .int .u64 t2], .bool false])) ∧ Below w.heap.size w w' := by
  unfold kv nvv
  go_enter Try.func34, Try.ntmps34
  go_wp2
  refine bodyPost_ret (v := .tuple #[.agg #[.slice none 0 0, .int .u64 0, .int .u64 0], .bool false]) (by simp [results, Try.results34, go_sem]) rfl ⟨⟨_, _, _, _, rfl⟩, by go_grown⟩
set_option maxHeartbeats 400000 in
theorem iopenNil (key : BitVec 64 × BitVec 64) (nn : Nn) (x y : Option Addr) (nx ny c d : Nat) (t1 t2 : Int) (w : World) : Calls Try.prog 35 #[.pointer none, kv key, nvv nn, .slice x nx c, .agg #[.slice y ny d, .int .u64 t1, .int .u64 t2]] w fun e w' => (∃ z cz, e = .returned (.tuple #[.slice z 0 cz, .bool false])) ∧ Below w.heap.size w w' := by
  unfold kv nvv
  go_enter Try.func35, Try.ntmps35
  go_wp2
  go_ret2
  exact ⟨⟨_, _, rfl⟩, by go_grown⟩
theorem isumNil (x : Option Addr) (m c : Nat) (w : World) : Calls Try.prog 36 #[.pointer none, .slice x m c] w fun e w' => e = .returned (.agg #[.int .u64 0, .int .u64 0]) ∧ Below w.heap.size w w' := by
  go_enter Try.func36, Try.ntmps36
  go_wp2
  refine bodyPost_ret (v := .agg #[.int .u64 0, .int .u64 0]) (by simp [results, Try.results36, go_sem]) rfl ⟨rfl, by go_grown⟩
theorem iissuedNil (w : World) : Calls Try.prog 37 #[.pointer none] w fun e w' => (∃ z cz, e = .returned (.slice z 0 cz)) ∧ Below w.heap.size w w' := by
  go_enter Try.func37, Try.ntmps37
  go_wp2
  go_ret
  exact ⟨⟨_, _, rfl⟩, Below.refl _ _⟩
theorem itwiceNil (w : World) : Calls Try.prog 38 #[.pointer none] w fun e w' => e = .returned (.bool false) ∧ Below w.heap.size w w' := by
  go_enter Try.func38, Try.ntmps38
  go_wp2
  go_ret
  exact ⟨rfl, Below.refl _ _⟩
end Go.Proofs.Ytkbhkgfchiacbaa


/- slices.Grow of nil and slices.Concat, as the library has them: rows of bytes. -/
namespace Go.Proofs.Ytkbhkgfchiacbaa
open Go.RowKit
set_option maxRecDepth 20000

set_option maxHeartbeats 1000000 in
theorem igrow (n : Nat) (hn : n ≤ 50000) (w : World) : Calls Try.prog 66 #[.slice none 0 0, .int .i64 n] w fun e w' => ∃ v, e = .returned v ∧ w'.ownsRow w.heap.size 5 1 v 0 [] ∧ Below w.heap.size w w' := by
  obtain ⟨i0, hi, hz0, hz1, hz2⟩ := info_parts Try.info5
  by_cases h0 : n = 0
  · subst h0
    go_enter Try.func66, Try.ntmps66
    go_wp2
    go_ret
    exact ⟨_, rfl, World.ownsRow_nil _ _ _ _, Below.refl _ _⟩
  · have happ := Lib.run_append_nil_zeros (P := Try.prog) w 40 3 40 5 i0 (.int .u8 0) .i64 .i64 Try.underlying40 (by kernel_rfl) hi hz0 n (by omega) (by rw [hz1]; decide) (by omega) (by rw [hz2]; omega)
    generalize hcap : grownCap w n 0 5 = cap2 at happ
    have hcapge : n ≤ cap2 := by rw [← hcap]; exact grownCap_ge w _ 0 _
    have hcaple : cap2 ≤ maxLen := by rw [← hcap]; exact grownCap_le_maxLen w _ 0 _ (by unfold maxLen; omega)
    generalize hZ : (Builtin.zeroCells (Value.int .u8 0).cells n ++ Builtin.zeroCells (Value.int .u8 0).cells (cap2 - n)) = Z at happ
    have hZs : Z.size = cap2 := by rw [← hZ]; simp [size_zeroCells, Value.cells]; omega
    clear hcap hZ
    have hs0 := sl_head none 0 0 0 (Nat.le_refl _)
    have hs1 := sl_head (some ⟨w.heap.size, 0, none⟩) n cap2 0 (Nat.zero_le _)
    go_enter Try.func66, Try.ntmps66
    go_wp2_with (at_builtin; refine Lib.wpList_append_run _ rfl _ _ _ _ rfl _ _ rfl rfl _ _ happ ?_)
    go_ret
    refine ⟨_, rfl, ⟨rfl, .inr ⟨w.heap.size, cap2, Z, rfl, Nat.le_refl _, ?_, Nat.zero_le _, hcaple, by rw [hZs, Nat.mul_one], by simp⟩⟩, ?_⟩
    · exact heap_alloc_new _ _
    · exact (Below.refl _ _).drew.alloc (Nat.le_refl _) _

set_option maxRecDepth 10000 in
set_option maxHeartbeats 2000000 in
theorem iconcat (P : List (List Int)) (x : Option Addr) (m c : Nat) (hm : m ≤ 1000) (hP : P.flatten.length ≤ 50000) (hc : m ≤ c) (hnil : x = none → m = 0 ∧ c = 0) (w : World) (hl : LAt w x m P) :
    Calls Try.prog 48 #[.slice x m c] w fun e w' => ∃ v, e = .returned v ∧ w'.ownsRow w.heap.size 5 1 v P.flatten.length (P.flatten.map (Value.int .u8)) ∧ Below w.heap.size w w' := by
  have hPl := hl.1
  have HF := hide' (flat_take P)
  have HX : Hid (∀ k, (P.take k).flatten.length ≤ P.flatten.length) := hide' (fun k => by
    conv => rhs; rw [← List.take_append_drop k P, List.flatten_append, List.length_append]
    omega)
  obtain ⟨Z, HZ⟩ : ∃ Z, Hid (P.flatten = Z) := ⟨_, rfl⟩
  rw [HZ.out] at hP ⊢
  rw [HZ.out] at HX
  obtain ⟨z, HN⟩ : ∃ z, Hid (Z.length = z) := ⟨_, rfl⟩
  rw [HN.out] at hP ⊢
  rw [HN.out] at HX
  go_enter Try.func48, Try.ntmps48
  go_wp2_with fail
  go_loop [3, 11] (fun sz i => ∃ k L : Nat, k ≤ m ∧ i = .int .i64 (k : Int) ∧ sz = .int .i64 (L : Int) ∧ L ≤ 50000 ∧ Hid ((P.take k).flatten.length = L)) (fun _ i => m - (intOf i).toNat)
  case atStart => exact ⟨0, 0, Nat.zero_le _, rfl, rfl, by decide, rfl⟩
  case round =>
    obtain ⟨k, L, hk, rfl, rfl, hL, HL⟩ := hrel
    by_cases hlt : k < m
    · obtain ⟨b, o, rfl, hbl, hrow⟩ := hl.2 (by omega)
      have hr := hrow k hlt
      have HK := hide' (HF.out k (by omega))
      have HB := hide' (HX.out (k + 1))
      generalize P.getD k [] = ys at *
      obtain ⟨y, cy, hcell, sy, hcy, hcmy, nily, by_⟩ := hr
      obtain ⟨n, HY⟩ : ∃ n, Hid (ys.length = n) := ⟨_, rfl⟩
      rw [HY.out] at hcell sy hcy nily
      have hLn : L + n ≤ 50000 := by
        have := HB.out
        rw [HK.out, List.length_append, HL.out, HY.out] at this
        omega
      go_wp2
      go_round
      case rel =>
        refine ⟨k + 1, L + n, by omega, by go_num, by go_num, hLn, ?_⟩
        rw [HK.out, List.length_append, HL.out, HY.out]
        exact rfl
      case measure => simp [intOf]; omega
    · obtain rfl : k = m := by omega
      have hall : P.take k = P := List.take_of_length_le (by omega)
      have hLz : L = z := by
        have := HL.out
        rw [hall, HZ.out, HN.out] at this
        exact this.symm
      subst hLz
      clear HL
      go_wp2_with fail
      refine (igrow L hL _).mono ?_
      rintro e w1 ⟨v1, rfl, own1, hb⟩
      have hz1 := hb.size
      clear hlt hall
      go_wp2_with fail
      go_loopw [6, 27] (fun v i wr => ∃ j L' : Nat, j ≤ k ∧ i = .int .i64 (j : Int) ∧ L' ≤ 50000 ∧ Hid ((P.take j).flatten.length = L') ∧ wr.ownsRow w.heap.size 5 1 v L' ((P.take j).flatten.map (Value.int .u8)) ∧ Below w.heap.size w wr) (fun _ i _ => k - (intOf i).toNat)
      case atStart => exact ⟨0, 0, Nat.zero_le _, rfl, by decide, rfl, by simpa using own1, hb⟩
      case round =>
        clear own1 hb
        obtain ⟨j, L', hj, rfl, hL', HL', own, hB⟩ := hrel
        obtain ⟨xa, ca, rfl, sa, hca, hcma, nila⟩ := own_slice HL'.out own
        by_cases hlt : j < k
        · obtain ⟨b, o, rfl, hbl, hrow⟩ := hl.2 (by omega)
          have hr := (hrow j hlt).below hB
          have HK := hide' (HF.out j (by omega))
          have HB := hide' (HX.out (j + 1))
          generalize P.getD j [] = ys at *
          obtain ⟨y, cy, hcell, sy, hcy, hcmy, nily, by_⟩ := hr
          obtain ⟨n, HY⟩ : ∃ n, Hid (ys.length = n) := ⟨_, rfl⟩
          rw [HY.out] at hcell sy hcy nily
          have hLn : L' + n ≤ 50000 := by
            have := HB.out
            rw [HK.out, List.length_append, HL'.out, HY.out] at this
            omega
          have hz := hB.size
          obtain ⟨A, HA⟩ : ∃ A, Hid ((P.take j).flatten = A) := ⟨_, rfl⟩
          rw [HA.out] at own sa HL'
          go_wp2_with (at_builtin; refine wpList_app rfl _ _ rfl w.heap.size _ L' _ rfl own y n cy ys rfl sy nily (by omega) hz ?_)
          intro v2 w2 own2 hb2 hv2
          replace hB := hB.trans hb2
          clear hb2 own sa
          go_wp2
          go_roundw
          case rel =>
            refine ⟨j + 1, L' + n, by omega, by go_num, by omega, ?_, ?_, hB⟩
            · have := HL'.out
              have := HY.out
              rw [HK.out, HA.out, List.length_append]
              exact hide' (by omega)
            · rw [HK.out, HA.out, List.map_append]
              simpa using own2
          case measure => simp [intOf]; omega
        · obtain rfl : j = k := by omega
          have hall : P.take j = P := List.take_of_length_le (by omega)
          rw [hall, HZ.out] at own HL'
          have hLL : L' = L := HL'.out.symm.trans HN.out
          rw [hLL] at own
          go_wp2
          go_ret
          rw [hLL]
          exact ⟨_, rfl, own, hB⟩
end Go.Proofs.Ytkbhkgfchiacbaa


/- What the program's remember and Sum come to. -/
namespace Go.Proofs.Ytkbhkgfchiacbaa
open Go.RowKit Go.Maps
set_option maxRecDepth 20000

theorem RowInG.row {G : Nat → Prop} {w : World} {b o : Nat} {ys : List Int} (h : RowInG G w b o ys) : RowIn w b o ys := by
  obtain ⟨y, c, h1, h2, h3⟩ := h
  exact ⟨y, c, h1, h2.sat, h3⟩
theorem LIn.lat {G : Nat → Prop} {w : World} {x : Option Addr} {m : Nat} {P : List (List Int)} (h : LIn G w x m P) : LAt w x m P :=
  ⟨h.1, fun hm => by
    obtain ⟨b, o, e, hlt, _, hr⟩ := h.2 hm
    exact ⟨b, o, e, hlt, fun i hi => (hr i hi).row⟩⟩
theorem wfU (n : Nat) (h : n ≤ 10000) : (Lit.int .u64 ((n : Int) + 1)).wf = true := WalkArith.wf_u64 (by omega)

set_option maxHeartbeats 1000000 in
theorem iremember (FL FS : Nat → Prop) (b : Nat) (vL vS : Value) (L : List Iss) (S : List (List Int)) (p : List Int) (hp : p ∉ S) (bp : Bytes p) (hl : p.length ≤ 50000) (hS : S.length ≤ 10000) (w : World) (hA : PAt FL FS w b vL vS (L, S)) (hF : ∀ k, k = b ∨ FL k ∨ FS k → k < w.heap.size) :
    Calls Try.prog 55 #[.pointer (some ⟨b, 0, none⟩), .string (strOfNums p), .int .u64 ((S.length : Int) + 1)] w fun e w' => ∃ FS' vS', e = .returned (.tuple #[]) ∧ PAt FL FS' w' b vL vS' (L, S ++ [p]) ∧ (∀ k, FS' k → FS k ∨ w.heap.size ≤ k) ∧ Off (fun k => k = b ∨ FS k) w w' ∧ ∀ k, FS' k → k < w'.heap.size := by
  have hwf := wfU S.length hS
  have hbl := hA.box.lt
  rcases hA.sum with ⟨rfl, e⟩ | ⟨mb, D, rfl, hG, hown, hD⟩
  · dsimp only at e
    subst e
    have hmm := @run_makeMap Try.prog
    have hnm := fun w => run_eql_map_nil (P := Try.prog) w 86 9 32 none Try.underlyingSums
    have k0 := hA.box.c1
    have k2 := hA.box.frozen 1
    have bx2 := hA.box.put1 (.map (some w.heap.size))
    have hof : Off (fun k => k = b) w (w.setCell ⟨b, 1, none⟩ (.map (some w.heap.size))) := Off.one w b 1 _
    have hb : Below (w.setCell ⟨b, 1, none⟩ (.map (some w.heap.size))).heap.size (w.setCell ⟨b, 1, none⟩ (.map (some w.heap.size))) ((w.setCell ⟨b, 1, none⟩ (.map (some w.heap.size))).alloc (.map #[] 0)) := (Below.refl _ _).alloc (Nat.le_refl _) _
    have bx3 := bx2.grown hb
    have k3 := bx3.c1
    have hown := World.ownsMap_made (w.setCell ⟨b, 1, none⟩ (.map (some w.heap.size))) Try.prog 9 (plainElem (H := Unit) Try.prog 32)
    rw [World.size_setCell] at hown
    go_enter Try.func55, Try.ntmps55
    go_wp2_with (at_mapUpdate; refine wpList_mapUpdate_own _ rfl _ _ _ 86 rfl 9 32 lawS Try.underlyingSums _ w.heap.size 0 _ rfl hown (by unfold maxLen; omega) _ _ _ rfl rfl (keyS_mk hl) _ [] (plainElem_int Try.underlyingU64 hwf) ?_)
    intro w1 hown1 hgrow1
    clear k0 k2 k3 hmm hnm
    go_wp2
    have hofA : Off (fun k => k = b) w w1 := (hof.more hb).grown hgrow1 (fun k hk => Or.inr (by cases hk; exact Nat.le_refl _))
    refine bodyPost_end (v := .tuple #[]) (by simp [results, Try.results55, go_sem]) rfl ⟨fun k => k = w.heap.size, .map (some w.heap.size), rfl, ⟨?_, hA.iss.eqs (Eqs.of_off hofA (fun k _ hk e => hA.nl (e ▸ hk))), Or.inr ⟨w.heap.size, _, rfl, rfl, hown1, SumD.nil.put tidy_empty (by simp) bp⟩, hA.nl, fun e => by omega, fun k hk e => ?_⟩, fun k hk => Or.inr (by omega), hofA.mono (fun k hk => Or.inl (Or.inl hk)), fun k hk => ?_⟩
    · exact (hgrow1.block b bx3.lt (fun e => by cases e; omega)).trans bx3
    · have := hF k (Or.inr (Or.inl hk))
      omega
    · subst hk
      exact hown1.lt
  · have hnm := fun w => run_eql_map_nil (P := Try.prog) w 86 9 32 (some mb) Try.underlyingSums
    have k0 := hA.box.c1
    have hT := hown.tidy lawS
    dsimp only at hown hD
    go_enter Try.func55, Try.ntmps55
    go_wp2_with (at_mapUpdate; refine wpList_mapUpdate_own _ rfl _ _ _ 86 rfl 9 32 lawS Try.underlyingSums _ mb S.length D rfl hown (by unfold maxLen; omega) _ _ _ rfl rfl (keyS_mk hl) _ [] (plainElem_int Try.underlyingU64 hwf) ?_)
    intro w1 hown1 hgrow1
    clear k0 hnm
    go_wp2
    have hofA : Off (fun k => FS k) w w1 := (Off.refl _ _).grown hgrow1 (fun k hk => Or.inl (by cases hk; exact hG))
    refine bodyPost_end (v := .tuple #[]) (by simp [results, Try.results55, go_sem]) rfl ⟨FS, .map (some mb), rfl, ⟨off_block hA.box hofA hA.ns, hA.iss.eqs (Eqs.of_off hofA (fun k _ hk e => hA.ls k hk e)), Or.inr ⟨mb, _, rfl, hG, by rw [List.length_append]; exact hown1, hD.put hT hp bp⟩, hA.nl, hA.ns, hA.ls⟩, fun k hk => Or.inl hk, hofA.mono (fun k hk => Or.inl (Or.inr hk)), fun k hk => Nat.lt_of_lt_of_le (hF k (Or.inr (Or.inr hk))) hofA.size⟩
end Go.Proofs.Ytkbhkgfchiacbaa
