/- What the program's oracle calls: bytes.Clone, bytes.Equal, sealed, same. -/
import Derived.Test.YtkkehbebaokdmaaOrcSaid
import Derived.Test.YtkkehbebaokdmaaRefOSealA
import Derived.Test.YtkkehbebaokdmaaBWire
namespace Go.Proofs.Ytkkehbebaokdmaa
open Go.RowKit
set_option maxRecDepth 20000

/-- New blocks alone, none of them frozen. -/
structure Clean (w w' : World) : Prop where
  b : Below w.heap.size w w'
  f : ∀ k i, w.heap.size ≤ k → w'.frozen? ⟨k, i, none⟩ = false
theorem Clean.refl (w : World) : Clean w w := ⟨Below.refl _ _, fun k i h => by
  have : w.heap[k]? = none := Array.getElem?_eq_none h
  simp [World.frozen?, this]⟩
theorem Clean.drew {a w : World} (h : Clean a w) : Clean a w.drew := ⟨h.b.drew, h.f⟩
theorem Clean.alloc {a w : World} (h : Clean a w) (c : Array Value) (t : TypeId) : Clean a (w.alloc (.cells c t)) := ⟨h.b.alloc h.b.size _, fun k i hk => by
  by_cases e : k = w.heap.size
  · subst e
    simp
  · rw [World.frozen?_alloc_old _ _ _ (show (⟨k, i, none⟩ : Addr).block ≠ w.heap.size from e)]
    exact h.f k i hk⟩
theorem Clean.setCell {a w : World} (h : Clean a w) {p : Addr} (hp : a.heap.size ≤ p.block) (u : Value) : Clean a (w.setCell p u) := ⟨h.b.setCell hp u, fun k i hk => by
  rw [World.frozen?_setCell]
  exact h.f k i hk⟩
theorem Clean.trans {a b c : World} (h : Clean a b) (k : Clean b c) : Clean a c := ⟨h.b.trans (k.b.mono h.b.size), fun n i hn => by
  rcases Nat.lt_or_ge n b.heap.size with hl | hl
  · rw [World.frozen?_of_block (w := b) (a := ⟨n, i, none⟩) (k.b.block n hl)]
    exact h.f n i hn
  · exact k.f n i hl⟩

set_option maxHeartbeats 400000 in
theorem iput8 (V : Nat) (w : World) : Calls Try.prog 65 #[.int .u64 V, .int .i64 8] w fun e w' => e = .returned (.slice (some ⟨w.heap.size, 0, none⟩) 8 8) ∧ At w' w.heap.size 0 (putL V 8) ∧ Clean w w' ∧ w.heap.size < w'.heap.size := by
  obtain ⟨n, hn⟩ : ∃ n : Nat, n = 8 := ⟨_, rfl⟩
  have e8 : (8 : Int) = (n : Int) := by omega
  rw [← hn]
  rw [show ((.int .i64 8 : Value)) = .int .i64 (n : Int) from by rw [e8]]
  have h1 : 1 ≤ n := by omega
  have h2 : n ≤ 8 := by omega
  clear e8 hn
  have hmk := run_make_row' (P := Try.prog) 27 5 (.int .u8 0) 1 Try.underlying27 Try.info5 rfl .i64 .i64 n (by omega) (by omega)
  go_enter Try.func65, Try.ntmps65
  go_wp2
  go_loopw [0, 6] (fun v i wr => ∃ k : Nat, k ≤ n ∧ i = .int .i64 ((k : Int) - 1) ∧ v = .int .u64 ((V / 256 ^ (n - k) : Nat) : Int) ∧ wr.rowIs w.heap.size 5 n (fun j => if j < k then .int .u8 0 else .int .u8 (byteAt V (n - 1 - j))) ∧ Clean w wr)
    (fun _ i _ => (intOf i + 1).toNat)
  case atStart =>
    exact ⟨n, Nat.le_refl _, rfl, by simp, (World.rowIs_made _ _ _ _).congr (fun i hi => by simp [hi]), (Clean.refl _).alloc _ _⟩
  case round =>
    obtain ⟨k, hk, rfl, rfl, hrow, hb⟩ := hrel
    by_cases hlt : 1 ≤ k
    · have hce := hrow.cell (i := k - 1) (by omega)
      have hfr := hrow.frozen (k - 1)
      go_wp2
      go_roundw
      case rel =>
        refine ⟨k - 1, by omega, by rw [show (k : Int) - 1 - 1 = ((k - 1 : Nat) : Int) - 1 from by omega], by rw [shr_step V n k hlt hk], (hrow.set (k - 1) _).congr (fun i hi => ?_), hb.setCell (Nat.le_refl _) _⟩
        by_cases e : i = k - 1
        · subst e; simp [byte_step V n k hlt hk]
        · by_cases e' : i < k - 1
          · have e2 : i < k := by omega
            simp [e, e', e2]
          · have e2 : ¬ i < k := by omega
            simp [e, e', e2]
      case measure => simp [intOf]; omega
    · go_wp2
      go_ret
      refine ⟨rfl, At.put (hrow.congr (fun i hi => ?_)), hb, hrow.lt⟩
      have e : ¬ i < k := by omega
      simp [e]

/-- append of bytes to an empty slice literal: new memory, none of it frozen. -/
theorem wpList_app0C {o : Oper} {a : Act} {w : World} {ops : Array Oper} {rest : List Oper} {Q : Exit → Act → World → Prop} (hgd : o.guard = none) (s x : Operand)
    (ho : o.op = .call { callee := .builtin .append, args := #[s, x], argTypes := #[27, 27] }) (g : Nat) (hs : a.eval s = .slice (some ⟨g, 0, none⟩) 0 0) (base : Nat) (hown : w.ownsRow base 5 1 (.slice (some ⟨g, 0, none⟩) 0 0) 0 [])
    (y : Option Addr) (m c : Nat) (xs : List Int) (hx : a.eval x = .slice y m c) (hrow : SAt w y m xs) (hb : m ≤ 100000) (hbase : base ≤ w.heap.size)
    (h : ∀ v w', w'.ownsRow base 5 1 v m (xs.map (Value.int .u8)) → Clean w w' → wpList Try.prog ops Q rest (a.put o.dst v) w') : wpList Try.prog ops Q (o :: rest) a w := by
  refine wpList_plain hgd fun _ hK => ?_
  obtain ⟨i0, hi, hz0, hz1, hz2⟩ := info_parts Try.info5
  by_cases hm : m = 0
  · subst hm
    obtain rfl : xs = [] := List.eq_nil_of_length_eq_zero hrow.1
    have hr : (Builtin.append_ #[27, 27] o.type #[.slice (some ⟨g, 0, none⟩) 0 0, .slice y 0 c]).run Try.prog w = .ok (.slice (some ⟨g, 0, none⟩) 0 0) w := by
      cases y with
      | none => simp [Builtin.append_, run_underlying Try.underlying27, sizeOf, typeInfo, hi, Builtin.lenOf, Builtin.firstCells, storeCells]
      | some ad =>
        have hf := run_firstCells_some (P := Try.prog) w i0.size 0 ad 0 c [] (by simp) (fun j u hj => by simp at hj)
        simp [Builtin.append_, run_underlying Try.underlying27, sizeOf, typeInfo, hi, Builtin.lenOf, hf, storeCells]
    unfold Oper.wp execOp
    simp only [ho, resolve, invoke, builtin, Sem.run_bind, Sem.run_pure, Result.andThen_ok, List.map_toArray, List.map_cons, List.map_nil, hs, hx, hr]
    exact hK _ _ (h _ w hown (Clean.refl _))
  · obtain ⟨b, off, rfl, _, hc⟩ := hrow.2 (by omega)
    have hl : (xs.map (Value.int .u8)).length = m := by rw [List.length_map]; exact hrow.1
    have hr := run_append_grow (P := Try.prog) w 27 o.type 5 i0 _ Try.underlying27 hi hz0 ⟨g, 0, none⟩ 0 0 [] (by simp) (fun j u hj => by simp at hj) ⟨b, off, none⟩ m c (xs.map (Value.int .u8)) (by rw [hz1, hl, Nat.mul_one]) hc.news (by omega) (by omega)
      (by rw [hz2]; exact growslice_fits (by omega) (by omega))
    simp only [Nat.zero_add] at hr
    have hge := grownCap_ge w m 0 5
    unfold Oper.wp execOp
    simp only [ho, resolve, invoke, builtin, Sem.run_bind, Sem.run_pure, Result.andThen_ok, List.map_toArray, List.map_cons, List.map_nil, hs, hx, hr]
    refine hK _ _ (h _ _ ⟨by rw [hl, Nat.mul_one], .inr ⟨w.heap.size, _, _, rfl, hbase, heap_alloc_new w.drew _, hge, grownCap_le_maxLen w m 0 5 (by unfold maxLen; omega), ?_, ?_⟩⟩ ((Clean.refl w).drew.alloc _ _))
    · simp [size_zeroCells, hl, Value.cells]
      omega
    · rw [Nat.mul_one, ← hl]
      simp

theorem nil_eq (a : Option Addr) (l c : Nat) (w : World) : (binOp .eql 27 (.slice a l c) (.slice none 0 0)).run Try.prog w = .ok (.bool a.isNone) w := by
  simp [binOp, run_equal_slice_nil (P := Try.prog) (w := w) 27 5 a l c Try.underlying27, Result.andThen]
set_option maxHeartbeats 1000000 in
theorem iclone (x : Option Addr) (n c : Nat) (xs : List Int) (hn : n ≤ 100000) (hnil : x = none → n = 0 ∧ c = 0) (w : World) (sx : SAt w x n xs) : Calls Try.prog 46 #[.slice x n c] w fun e w' => ∃ v, e = .returned v ∧ w'.ownsRow w.heap.size 5 1 v n (xs.map (Value.int .u8)) ∧ Clean w w' := by
  have hne := nil_eq
  cases x with
  | none =>
    obtain ⟨rfl, rfl⟩ := hnil rfl
    obtain rfl : xs = [] := List.eq_nil_of_length_eq_zero sx.1
    go_enter Try.func46, Try.ntmps46
    go_wp2
    go_ret
    exact ⟨_, rfl, World.ownsRow_nil _ _ _ _, Clean.refl _⟩
  | some ad =>
    have hb : Below w.heap.size w (w.alloc (.cells #[] 5)) := (Below.refl _ _).alloc (Nat.le_refl _) _
    go_enter Try.func46, Try.ntmps46
    go_wp2_with (at_builtin; refine wpList_app0C rfl _ _ rfl w.heap.size rfl w.heap.size (World.ownsRow_lit (base := w.heap.size) (e := 5) (size := 1) w #[] 0 (Nat.le_refl _) (by decide) rfl) (some ad) n c xs rfl (sx.below hb) hn (by simp) ?_)
    intro v w' own hc
    replace hc := ((Clean.refl w).alloc #[] 5).trans hc
    go_wp2
    go_ret
    exact ⟨_, rfl, own, hc⟩

theorem iequal (x y : Option Addr) (n m c d : Nat) (xs ys : List Int) (bx : Bytes xs) (by_ : Bytes ys) (w : World) (sx : SAt w x n xs) (sy : SAt w y m ys) : Calls Try.prog 48 #[.slice x n c, .slice y m d] w fun e w' => e = .returned (.bool (decide (xs = ys))) ∧ w' = w := by
  have e1 := fun c => sx.conv (c := c)
  have e2 := fun c => sy.conv (c := c)
  rw [← str_eq xs ys bx by_]
  go_enter Try.func48, Try.ntmps48
  go_wp2
  go_ret
  exact ⟨rfl, rfl⟩

set_option maxHeartbeats 1000000 in
theorem isame (t t' : BitVec 64 × BitVec 64) (xs ys : List Int) (z y : Option Addr) (m n c d : Nat) (bx : Bytes xs) (by_ : Bytes ys) (w : World) (sz : SAt w z m xs) (sy : SAt w y n ys) : Calls Try.prog 49 #[.agg #[.slice z m c, .int .u64 (nv t.1), .int .u64 (nv t.2)], .agg #[.slice y n d, .int .u64 (nv t'.1), .int .u64 (nv t'.2)]] w fun e w' => e = .returned (.bool (decide (t = t' ∧ xs = ys))) ∧ Below w.heap.size w w' := by
  have heq := eq32
  have hb : Below w.heap.size w ((w.alloc (.cells #[.slice z m c, .int .u64 (nv t.1), .int .u64 (nv t.2)] 32)).alloc (.cells #[.slice y n d, .int .u64 (nv t'.1), .int .u64 (nv t'.2)] 32)) := by go_grown
  have hpe := pair_eq_of t t'
  by_cases h : t = t'
  · have hpe2 : (nv t.1 == nv t'.1 && nv t.2 == nv t'.2) = true := by rw [hpe]; exact decide_eq_true h
    have hd : decide (t = t' ∧ xs = ys) = decide (xs = ys) := by simp [h]
    rw [hd]
    clear hpe h hd
    go_enter Try.func49, Try.ntmps49
    go_wp2_with fail
    refine (iequal z y m n c d xs ys bx by_ _ (sz.below hb) (sy.below hb)).mono ?_
    rintro e w2 ⟨rfl, rfl⟩
    go_wp2
    go_ret
    exact ⟨rfl, hb⟩
  · have hpe2 : (nv t.1 == nv t'.1 && nv t.2 == nv t'.2) = false := by rw [hpe]; exact decide_eq_false h
    have hd : decide (t = t' ∧ xs = ys) = false := by simp [h]
    rw [hd]
    clear hpe h hd
    go_enter Try.func49, Try.ntmps49
    go_wp2
    go_ret
    exact ⟨rfl, hb⟩

set_option maxRecDepth 10000 in
set_option maxHeartbeats 1000000 in
theorem isealed (i n : Nat) (hn : n ≤ 100000) (w : World) : Calls Try.prog 47 #[.int .u64 (i : Int), .int .i64 (n : Int)] w fun e w' => ∃ g, e = .returned (.agg #[.slice (some ⟨g, 0, none⟩) n n, .int .u64 18446744073709551615, .int .u64 (i : Int)]) ∧ w.heap.size ≤ g ∧ w'.rowIs g 5 n (fun j => .int .u8 ((outB i n).getD j 0)) ∧ Clean w w' := by
  have bR := SBox.new w (.slice none 0 0) 0 0
  have hC : Clean w (w.alloc (.cells #[.slice none 0 0, .int .u64 0, .int .u64 0] 32)) := (Clean.refl w).alloc _ _
  have hmk := run_make_row' (P := Try.prog) 27 5 (.int .u8 0) 1 Try.underlying27 Try.info5 rfl .i64 .i64 n (by omega) (by omega)
  go_enter Try.func47, Try.ntmps47
  go_wp2_with fail
  generalize w.alloc (.cells #[.slice none 0 0, .int .u64 0, .int .u64 0] 32) = W1 at *
  refine (iput8 i _).mono ?_
  rintro e w1 ⟨rfl, at1, hc, hlt1⟩
  have hq1 := bR.lt
  replace bR := bR.grown hc.b
  replace hC := hC.trans hc
  have hA1 : w.heap.size < W1.heap.size := hq1
  clear hc hq1
  generalize W1.heap.size = A at *
  have hO : ∀ k, k < n → (outB i n).getD k 0 = (putL i 8).getD (k % 8) 0 := fun k hk => by simp [outB, hk, List.getD]
  have HO := hide' hO
  clear hO
  go_wp2
  clear hmk
  have hAw : A < (w1.alloc (.cells (madeCells #[.int .u8 0] n) 5)).heap.size := by simp; omega
  have hrow0 := World.rowIs_made w1 (.int .u8 0) n 5
  have hC2 := hC.alloc (madeCells #[.int .u8 0] n) 5
  have hb2 : Below w1.heap.size w1 (w1.alloc (.cells (madeCells #[.int .u8 0] n) 5)) := (Below.refl _ _).alloc (Nat.le_refl _) _
  generalize hw2 : w1.alloc (.cells (madeCells #[.int .u8 0] n) 5) = w2 at *
  clear hw2 hC
  go_loopw [14] (fun q wr => ∃ k : Nat, k ≤ n ∧ q = .int .i64 (k : Int) ∧ wr.rowIs w1.heap.size 5 n (fun j => if j < k then .int .u8 ((outB i n).getD j 0) else .int .u8 0) ∧ Below w1.heap.size w1 wr ∧ Clean w wr) (fun q _ => n - (intOf q).toNat)
  case atStart => exact ⟨0, Nat.zero_le _, rfl, hrow0.congr (fun i hi => by simp), hb2, hC2⟩
  case round =>
    clear hb2 hrow0 hC2
    obtain ⟨k, hk, rfl, hrow, hB, hC⟩ := hrel
    by_cases hlt : k < n
    · have hk8 : k % 8 < 8 := Nat.mod_lt _ (by decide)
      have hce := (at1.below hB hlt1) (k % 8) (by rw [putL_length]; exact hk8)
      rw [Nat.zero_add] at hce
      have hi1 : (k : Int) % 8 = ((k % 8 : Nat) : Int) := by omega
      have HK := hide' (HO.out k hlt)
      obtain ⟨u, HU⟩ : ∃ u, Hid ((putL i 8).getD (k % 8) 0 = u) := ⟨_, rfl⟩
      rw [HU.out] at hce HK
      have hc2 := hrow.cell (i := k) hlt
      have hfr := hrow.frozen k
      generalize hr8 : k % 8 = r8 at *
      go_wp2
      go_roundw
      case rel =>
        refine ⟨k + 1, by omega, by go_num, (hrow.set k _).congr (fun j hj => ?_), hB.setCell (Nat.le_refl _) _, hC.setCell (by simp only; omega) _⟩
        by_cases e : j = k
        · subst e
          rw [if_pos rfl, if_pos (Nat.lt_succ_self _), HK.out]
        · by_cases e' : j < k
          · have e2 : j < k + 1 := by omega
            simp [e, e', e2]
          · have e2 : ¬ j < k + 1 := by omega
            simp [e, e', e2]
      case measure => simp [intOf]; omega
    · obtain rfl : k = n := by omega
      have hrow2 := hrow.congr (g := fun j => .int .u8 ((outB i k).getD j 0)) (fun j hj => by simp [hj])
      clear hrow HO
      have bR' := bR.grown hB
      have k0 := bR'.c0
      have k1 := bR'.c1
      have k2 := bR'.c2
      have k3 := bR'.frozen 0
      have k4 := bR'.frozen 1
      have k5 := bR'.frozen 2
      go_wp2
      have bR2 := bR'.put3 (.slice (some ⟨w1.heap.size, 0, none⟩) k k) 18446744073709551615 (i : Int)
      have q0 := bR2.c0
      have q1 := bR2.c1
      have q2 := bR2.c2
      have hne : w1.heap.size ≠ w.heap.size := by omega
      refine bodyPost_ret (v := .agg #[.slice (some ⟨w1.heap.size, 0, none⟩) k k, .int .u64 18446744073709551615, .int .u64 (i : Int)]) (by simp [results, Try.results47, go_sem, q0, q1, q2]) rfl ⟨w1.heap.size, rfl, by omega, ?_, ?_⟩
      · exact ((hrow2.setOther hne _).setOther hne _).setOther hne _
      · exact ((hC.setCell (Nat.le_refl _) _).setCell (Nat.le_refl _) _).setCell (Nat.le_refl _) _
end Go.Proofs.Ytkkehbebaokdmaa
