/- GcmPrsI FldImpl FldEvI GcmTagI LkImB LkImpl: texts laid together. -/
import Derived.Test.YtkbhkgfchiacbaaM06
import Derived.Test.YtkbhkgfchiacbaaM03
import Derived.Test.YtkbhkgfchiacbaaM05
import Derived.Test.YtkbhkgfchiacbaaM19

/- What the program's gcm.pairs comes to. -/
namespace Go.Proofs.Ytkbhkgfchiacbaa
open Go.RowKit
set_option maxRecDepth 20000

/-- Block g is an array of these bytes, none frozen. -/
def RowT (w : World) (g t : Nat) (cur : List Int) : Prop := w.heap[g]? = some (.cells (cur.map (Value.int .u8)).toArray t (0, 0))
theorem RowT.at {w : World} {g t : Nat} {cur : List Int} (h : RowT w g t cur) : At w g 0 cur := by
  intro i hi
  unfold RowT at h
  simp [World.cell?, h, hi]
theorem RowT.lt {w : World} {g t : Nat} {cur : List Int} (h : RowT w g t cur) : g < w.heap.size := by
  obtain ⟨hlt, _⟩ := Array.getElem?_eq_some_iff.1 h
  exact hlt
theorem RowT.below {w w' : World} {B g t : Nat} {cur : List Int} (h : RowT w g t cur) (hb : Below B w w') (hB : g < B) : RowT w' g t cur := (hb.block g hB).trans h
/-- copy of bytes into an array of the call's own: as many as fit. -/
theorem wp_copyT {o : Oper} {a : Act} {w : World} {K : Act → World → Prop} {Q : Exit → Act → World → Prop} (hgd : o.guard = none) (d s : Operand)
    (ho : o.op = .call { callee := .builtin .copy, args := #[d, s], argTypes := #[40, 40] }) (g t off dl dCap n b so sCap : Nat)
    (hd : a.eval d = .slice (some ⟨g, off, none⟩) dl dCap) (hs : a.eval s = .slice (some ⟨b, so, none⟩) n sCap) (cur xs : List Int)
    (hg : RowT w g t cur) (hn : xs.length = n) (hat : At w b so xs) (hfit : off + min n dl ≤ cur.length) (B : Nat) (w0 : World) (hb : Below B w0 w) (hBg : B ≤ g)
    (h : ∀ w', RowT w' g t (splice cur off (xs.take dl)) → Below B w0 w' → K (a.put o.dst (goInt (min n dl : Nat))) w') : Oper.wp Try.prog o a w K Q := by
  have hw : Region.wanted o (yielded #[] a.tmps) = true := by simp [Region.wanted, hgd]
  have e : ((xs.take dl).map (Value.int .u8)).length = min n dl := by simp [hn, Nat.min_comm]
  have := step_copy_splice (P := Try.prog) (ops := #[]) (o := o) (a := a) (w := w) (K := K) (Q := Q) (E := False) hgd d s 40 40 ho 5 Try.underlying40 (by kernel_rfl) (some ⟨g, off, none⟩) (some ⟨b, so, none⟩) dl dCap n sCap hd hs g off
    (cur.map (Value.int .u8)) t hg ((xs.take dl).map (Value.int .u8)) (by rw [e]) (fun _ => ⟨rfl, _, rfl, (hat.cut1' dl).news⟩) (by rw [e]; simpa using hfit) (one_cells _) B w0 hb hBg (fun w' hr hb' => by
      rw [e]
      refine h w' ?_ hb'
      have := hr.out
      rw [splice_map] at this
      exact this)
  rw [if_pos hw] at this
  exact this

theorem six_pad (xs : List Int) (q k : Nat) (hq : q = 16 * k) (hk : q < xs.length) : splice (List.replicate 16 (0 : Int)) 0 ((xs.drop q).take 16) = six (padL xs) k := by
  subst hq
  unfold splice six padL padN
  apply List.ext_getElem?
  intro i
  simp only [List.getElem?_append, List.getElem?_take, List.getElem?_drop, List.getElem?_replicate, List.length_take, List.length_drop, List.length_nil, List.take_zero]
  repeat' split
  all_goals first | rfl | omega | (congr 1; omega) | (simp; omega)

set_option maxRecDepth 10000 in
set_option maxHeartbeats 4000000 in
theorem ipairs (xs : List Int) (x : Option Addr) (n c : Nat) (hn : n ≤ 5000) (hc : n ≤ c) (bx : Bytes xs) (w : World) (sx : SAt w x n xs) : Calls Try.prog 63 #[.slice x n c] w fun e w' => ∃ v, e = .returned v ∧ w'.ownsRow w.heap.size 34 2 v ((n + 15) / 16) (fl (prs xs)) ∧ Below w.heap.size w w' := by
  have hxl := sx.1
  have HT := hide' (prs_take xs)
  go_enter Try.func63, Try.ntmps63
  go_wp2_with fail
  go_loopw [3, 4] (fun l i wr => ∃ k q : Nat, Hid (q = 16 * k) ∧ q < n + 16 ∧ i = .int .i64 (q : Int) ∧ wr.ownsRow w.heap.size 34 2 l k (fl ((prs xs).take k)) ∧ Below w.heap.size w wr) (fun _ i _ => 6000 - (intOf i).toNat)
  case atStart => exact ⟨0, 0, rfl, by omega, rfl, World.ownsRow_nil _ _ _ _, Below.refl _ _⟩
  case round =>
    obtain ⟨k, q, HQ, hq, rfl, own3, hb3⟩ := hrel
    by_cases hlt : q < n
    · have hk : k < (xs.length + 15) / 16 := by
        have := HQ.out
        omega
      have hk2 := HT.out k hk
      have c1 : (q : Int) ≤ (n : Int) := by omega
      have c2 : ¬ c = q := by omega
      obtain ⟨b, o, rfl, hbl, hat⟩ := sx.2 (by omega)
      have HX := hide' (six_pad xs q k HQ.out (by omega))
      go_wp2_with fail
      have hR : RowT (wr.alloc (.cells #[.int .u8 0, .int .u8 0, .int .u8 0, .int .u8 0, .int .u8 0, .int .u8 0, .int .u8 0, .int .u8 0, .int .u8 0, .int .u8 0, .int .u8 0, .int .u8 0, .int .u8 0, .int .u8 0, .int .u8 0, .int .u8 0] 112)) wr.heap.size 112 (List.replicate 16 0) := by
        unfold RowT
        show (wr.heap.push _)[wr.heap.size]? = _
        simp [List.replicate]
      have hA : Below wr.heap.size wr (wr.alloc (.cells #[.int .u8 0, .int .u8 0, .int .u8 0, .int .u8 0, .int .u8 0, .int .u8 0, .int .u8 0, .int .u8 0, .int .u8 0, .int .u8 0, .int .u8 0, .int .u8 0, .int .u8 0, .int .u8 0, .int .u8 0, .int .u8 0] 112)) := (Below.refl _ _).alloc (Nat.le_refl _) _
      have hlt1 := hR.lt
      generalize wr.alloc (.cells #[.int .u8 0, .int .u8 0, .int .u8 0, .int .u8 0, .int .u8 0, .int .u8 0, .int .u8 0, .int .u8 0, .int .u8 0, .int .u8 0, .int .u8 0, .int .u8 0, .int .u8 0, .int .u8 0, .int .u8 0, .int .u8 0] 112) = w1 at *
      have hsz := hb3.size
      replace hb3 := hb3.trans (hA.mono hsz)
      replace hat := hat.below hb3 hbl
      refine wp_region_held_drew (S := fun w' => Below wr.heap.size w1 w') (by kernel_rfl) (Below.refl _ _).drew (fun hHeld => ?_)
      refine takeL 0 14 (v := ?_) rfl rfl (by kernel_rfl) (by kernel_rfl) (by kernel_rfl) (fun _ _ _ h => h) (by rfl) hHeld (fun w hSw => ?_) ?_
      rotate_left 1
      · (try dsimp only at hSw)
        clear hSw
        go_simp
        try with_reducible rfl
      simp only [List.set_cons_succ, List.set_cons_zero]
      refine takeM 1 15 0 rfl rfl rfl (by kernel_rfl) (by kernel_rfl) (by kernel_rfl) (fun _ _ _ h => h) (by rfl) hHeld rfl ?_
      simp only [List.set_cons_succ, List.set_cons_zero]
      refine takeM 2 16 4 rfl rfl rfl (by kernel_rfl) (by kernel_rfl) (by kernel_rfl) (fun _ _ _ h => h) (by rfl) hHeld rfl ?_
      simp only [List.set_cons_succ, List.set_cons_zero]
      refine takeL 3 17 (v := ?_) rfl rfl (by kernel_rfl) (by kernel_rfl) (by kernel_rfl) (fun _ _ _ h => h) (by rfl) hHeld (fun w hSw => ?_) ?_
      rotate_left 1
      · (try dsimp only at hSw)
        clear hSw
        go_simp
        try with_reducible rfl
      simp only [List.set_cons_succ, List.set_cons_zero]
      refine onlyL 4 rfl (by kernel_rfl) (by rfl) (fun K hK => ?_)
      refine wp_copyT rfl (.tmp 14) (.tmp 17) rfl wr.heap.size 112 0 16 16 (n - q) b (o + q) (c - q) rfl rfl (List.replicate 16 0) (xs.drop q) hR (by rw [List.length_drop, hxl]) (hat.cut2 q) (by rw [List.length_replicate]; omega) wr.heap.size w1 (Below.refl _ _).drew (Nat.le_refl _) (fun w2 hR2 hb2 => ?_)
      rw [HX.out] at hR2
      have hg2 := hR2.lt
      refine hK.out _ _ hb2 (fun hHeld => ?_)
      clear hK K hR hHeld
      replace own3 := own_grown own3 (hA.trans hb2)
      replace hb3 := hb3.trans (hb2.mono hsz)
      clear hb2 hat hA
      refine wpAnyH_done (by kernel_rfl) ?_ _
      have hl16 := six_length (padL xs) k (by rw [padL_length]; omega)
      go_wp2_with fail
      refine (wpair wr.heap.size 0 16 _ _ hl16 (by omega) (by decide) (six_bytes (padL_bytes bx) k) hg2 hR2.at).mono ?_
      rintro e w4 ⟨rfl, hb4⟩
      replace own3 := own_grown own3 hb4
      replace hb3 := hb3.trans (hb4.mono hb3.size)
      clear hb4 hl16 hg2 hR2
      generalize pairOf (six (padL xs) k) = pq at *
      have hS4 := hb3.size
      have hprow : PRow ((w4.alloc (.cells #[.int .u64 (nv pq.1), .int .u64 (nv pq.2)] 34)).alloc (.cells #[.int .u64 (nv pq.1), .int .u64 (nv pq.2)] 34)) (some ⟨w4.heap.size + 1, 0, none⟩) 1 (fun _ => pq) := by
        have := (Box.new (w4.alloc (.cells #[.int .u64 (nv pq.1), .int .u64 (nv pq.2)] 34)) (nv pq.1) (nv pq.2)).prow
        rw [World.size_alloc] at this
        exact this
      have hk3 : k ≤ 5000 := by
        have := HQ.out
        omega
      go_wp2_with (at_builtin; refine wpList_appP rfl _ _ rfl w.heap.size _ k _ rfl ((own3.alloc _).alloc _) (some ⟨w4.heap.size + 1, 0, none⟩) 1 1 (fun _ => pq) rfl hprow (fun e => by cases e) (by omega) (by rw [World.size_alloc, World.size_alloc]; omega) ?_)
      intro v5 w5 own5 hb5
      replace hb3 := ((hb3.alloc hS4 _).alloc (by rw [World.size_alloc]; omega) _).trans hb5
      clear hb5 own3 hprow
      go_wp2
      go_roundw
      case rel =>
        refine ⟨k + 1, q + 16, ?_, by omega, by go_num, ?_, hb3⟩
        · have := HQ.out
          exact hide' (by omega)
        · rw [hk2, fl_append]
          exact own5
      case measure => simp [intOf]; omega
    · have hk : k = (n + 15) / 16 := by
        have := HQ.out
        omega
      have hall : (prs xs).take k = prs xs := List.take_of_length_le (by rw [prs_length, hxl]; omega)
      rw [hall, hk] at own3
      go_wp2
      go_ret
      exact ⟨_, rfl, own3, hb3⟩
end Go.Proofs.Ytkbhkgfchiacbaa


/- What the program's field comes to: Add and Mul are the document's, for all Pairs. -/
namespace Go.Proofs.Ytkbhkgfchiacbaa
open Go.RowKit
set_option maxRecDepth 20000

set_option maxHeartbeats 400000 in
theorem add_said : AddSaid := by
  intro p q w
  have h1 := nv_xor p.1 q.1
  have h2 := nv_xor p.2 q.2
  go_enter Try.func64, Try.ntmps64
  go_wp2
  refine bodyPost_ret (v := .agg #[.int .u64 (nv (addP p q).1), .int .u64 (nv (addP p q).2)]) (by simp [results, Try.results64, go_sem, addP]) rfl ⟨rfl, by go_grown⟩

theorem top_mul (x : BitVec 64) : IntKind.u64.wrap (nv x / 9223372036854775808 * 135) = nv (if x >>> 63 = 1#64 then 135#64 else 0#64) := by
  rw [nv_shr63]
  have h : x >>> 63 = 0#64 ∨ x >>> 63 = 1#64 := by
    by_cases h : x >>> 63 = 1#64
    · exact Or.inr h
    · left
      have hx := x.isLt
      apply BitVec.eq_of_toNat_eq
      have h' : (x >>> 63).toNat ≠ 1 := fun e => h (BitVec.eq_of_toNat_eq e)
      rw [BitVec.toNat_ushiftRight, Nat.shiftRight_eq_div_pow] at h' ⊢
      show x.toNat / 2 ^ 63 = 0
      omega
  rcases h with h | h
  · rw [h]; decide
  · rw [h]; decide
theorem raise2 (p : BitVec 64 × BitVec 64) : bits .xor .u64 (IntKind.u64.wrap (nv p.2 * 2)) (IntKind.u64.wrap (nv p.1 / 9223372036854775808 * 135)) = nv (twiceP p).2 := by
  rw [top_mul, nv_shl1, nv_xor, twiceP]
  by_cases h : p.1 >>> 63 = 1#64
  · simp only [h, if_true]
  · simp only [h, if_false, BitVec.xor_zero]

set_option maxHeartbeats 400000 in
theorem raise_said (p : BitVec 64 × BitVec 64) (w : World) : Calls Try.prog 77 #[.agg #[.int .u64 (nv p.1), .int .u64 (nv p.2)]] w fun e w' => e = .returned (.agg #[.int .u64 (nv (twiceP p).1), .int .u64 (nv (twiceP p).2)]) ∧ Below w.heap.size w w' := by
  have h1 := tw1 p
  have h2 := raise2 p
  go_enter Try.func77, Try.ntmps77
  go_wp2
  refine bodyPost_ret (v := .agg #[.int .u64 (nv (twiceP p).1), .int .u64 (nv (twiceP p).2)]) (by simp [results, Try.results77, go_sem]) rfl ⟨rfl, by go_grown⟩




theorem dig_hi (b : BitVec 64 × BitVec 64) (n : Nat) (h : n < 64) : (bits .and .u64 (nv b.1 / 2 ^ (63 - n)) 1 == 1) = (cat b).getLsbD (127 - n) := by
  rw [digit, cat_bit, if_neg (by omega), show 63 - n = 127 - n - 64 from by omega]
theorem dig_lo (b : BitVec 64 × BitVec 64) (n : Nat) (h : n < 64) : (bits .and .u64 (nv b.2 / 2 ^ (63 - n)) 1 == 1) = (cat b).getLsbD (127 - (64 + n)) := by
  rw [digit, cat_bit, if_pos (by omega), show 63 - n = 127 - (64 + n) from by omega]

set_option maxHeartbeats 2000000 in
theorem mul_said : MulSaid := by
  intro a b w
  have i0 : ∀ w, (Instr.index 34 (.agg #[.int .u64 (nv b.1), .int .u64 (nv b.2)]) (.int .i64 0)).run Try.prog w = .ok (.int .u64 (nv b.1)) w := fun _ => by kernel_rfl
  have i1 : ∀ w, (Instr.index 34 (.agg #[.int .u64 (nv b.1), .int .u64 (nv b.2)]) (.int .i64 1)).run Try.prog w = .ok (.int .u64 (nv b.2)) w := fun _ => by kernel_rfl
  go_enter Try.func73, Try.ntmps73
  go_wp2
  have bA := (((Box.new w (nv a.1) (nv a.2)).alloc (.cells #[.int .u64 (nv b.1), .int .u64 (nv b.2)] 34)).alloc (.cells #[.int .u64 0, .int .u64 0] 34)).alloc (.cells #[.int .u64 0, .int .u64 0] 34)
  have bR := (Box.new ((w.alloc (.cells #[.int .u64 (nv a.1), .int .u64 (nv a.2)] 34)).alloc (.cells #[.int .u64 (nv b.1), .int .u64 (nv b.2)] 34)) 0 0).alloc (.cells #[.int .u64 0, .int .u64 0] 34)
  have bO := Box.new (((w.alloc (.cells #[.int .u64 (nv a.1), .int .u64 (nv a.2)] 34)).alloc (.cells #[.int .u64 (nv b.1), .int .u64 (nv b.2)] 34)).alloc (.cells #[.int .u64 0, .int .u64 0] 34)) 0 0
  have hB : Below w.heap.size w ((((w.alloc (.cells #[.int .u64 (nv a.1), .int .u64 (nv a.2)] 34)).alloc (.cells #[.int .u64 (nv b.1), .int .u64 (nv b.2)] 34)).alloc (.cells #[.int .u64 0, .int .u64 0] 34)).alloc (.cells #[.int .u64 0, .int .u64 0] 34)) := by go_grown
  simp only [World.size_alloc] at bA bR bO
  generalize (((w.alloc (.cells #[.int .u64 (nv a.1), .int .u64 (nv a.2)] 34)).alloc (.cells #[.int .u64 (nv b.1), .int .u64 (nv b.2)] 34)).alloc (.cells #[.int .u64 0, .int .u64 0] 34)).alloc (.cells #[.int .u64 0, .int .u64 0] 34) = W at *
  go_loopw [10] (fun i wr => ∃ (k : Nat) (m : Int), k ≤ 2 ∧ m = k ∧ i = .int .i64 m ∧ Box wr w.heap.size (nv a.1) (nv a.2) ∧ Box wr (w.heap.size + 1 + 1) 0 0 ∧ Box wr (w.heap.size + 1 + 1 + 1) (nv (mulP a b (64 * k)).1) (nv (mulP a b (64 * k)).2) ∧ Below w.heap.size w wr) (fun i _ => 2 - (intOf i).toNat)
  case atStart => exact ⟨0, 0, by decide, rfl, rfl, bA, bR, bO, hB⟩
  case round =>
    clear bA bR bO hB
    obtain ⟨k, m, hk, hm, rfl, bA, bR, bO, hB⟩ := hrel
    obtain rfl | rfl | rfl : k = 0 ∨ k = 1 ∨ k = 2 := by omega
    · obtain rfl : m = 0 := hm
      obtain ⟨wo, rfl⟩ : ∃ wo : World, wo = wr := ⟨_, rfl⟩
      go_wp2
      go_loopw [8] (fun i wr => ∃ n : Nat, n ≤ 64 ∧ i = .int .i64 (63 - (n : Int)) ∧ Box wr w.heap.size (nv a.1) (nv a.2) ∧ Box wr (w.heap.size + 1 + 1) 0 0 ∧ Box wr (w.heap.size + 1 + 1 + 1) (nv (mulP a b (n)).1) (nv (mulP a b (n)).2) ∧ Below w.heap.size w wr) (fun i _ => (intOf i + 1).toNat)
      case atStart => exact ⟨0, by decide, rfl, bA, bR, bO, hB⟩
      case round =>
        clear bA bR bO hB
        obtain ⟨n, hn, rfl, bA, bR, bO, hB⟩ := hrel
        by_cases hlt : n < 64
        · have HM := hide' (mulP_succ a b (n))
          generalize mulP a b (n) = q at *
          have o0 := bO.c0
          have o1 := bO.c1
          go_wp2_with fail
          refine (raise_said q _).mono ?_
          rintro e w1 ⟨rfl, hb1⟩
          have bA1 := bA.grown hb1
          have bR1 := bR.grown hb1
          have bO1 := bO.grown hb1
          have hB1 := hB.trans (hb1.mono hB.size)
          clear o0 o1 hb1 bA bR bO hB
          have g0 := bO1.c0
          have g1 := bO1.c1
          have g2 := bO1.frozen 0
          have g3 := bO1.frozen 1
          have k2 := bA1.c0
          have k3 := bA1.c1
          go_wp2_with fail
          · have hd : (bits .and .u64 (nv b.1 / 2 ^ (63 - n)) 1 == 1) = true := by assumption
            rw [dig_hi b n hlt] at hd
            have bA2 := bA1.set2 (o := w.heap.size + 1 + 1 + 1) (by omega) (.int .u64 (nv (twiceP q).1)) (.int .u64 (nv (twiceP q).2))
            have bR2 := bR1.set2 (o := w.heap.size + 1 + 1 + 1) (by omega) (.int .u64 (nv (twiceP q).1)) (.int .u64 (nv (twiceP q).2))
            have bO2 := bO1.put2 (nv (twiceP q).1) (nv (twiceP q).2)
            have hB2 := (hB1.setCell (p := ⟨w.heap.size + 1 + 1 + 1, 0, none⟩) (by simp only; omega) (.int .u64 (nv (twiceP q).1))).setCell (p := ⟨w.heap.size + 1 + 1 + 1, 1, none⟩) (by simp only; omega) (.int .u64 (nv (twiceP q).2))
            refine (add_said (twiceP q) a _).mono ?_
            rintro e w3 ⟨rfl, hb3⟩
            have bA3 := bA2.grown hb3
            have bR3 := bR2.grown hb3
            have bO3 := bO2.grown hb3
            have hB3 := hB2.trans (hb3.mono hB2.size)
            clear g0 g1 g2 g3 k2 k3 bA1 bR1 bO1 hB1 bA2 bR2 bO2 hB2 hb3
            have g0 := bO3.c0
            have g1 := bO3.c1
            have g2 := bO3.frozen 0
            have g3 := bO3.frozen 1
            go_wp2
            go_roundw
            case rel =>
              refine ⟨n + 1, hlt, by rw [show (63 : Int) - n - 1 = 63 - ((n + 1 : Nat) : Int) from by omega], bA3.set2 (by omega) _ _, bR3.set2 (by omega) _ _, ?_, (hB3.setCell (by simp only; omega) _).setCell (by simp only; omega) _⟩
              rw [show (n + 1) = (n) + 1 from by omega, HM.out, if_pos hd]
              exact bO3.put2 _ _
            case measure => simp [intOf]; omega
          · have hd : (bits .and .u64 (nv b.1 / 2 ^ (63 - n)) 1 == 1) = false := by assumption
            rw [dig_hi b n hlt] at hd
            go_roundw
            case rel =>
              refine ⟨n + 1, hlt, by rw [show (63 : Int) - n - 1 = 63 - ((n + 1 : Nat) : Int) from by omega], bA1.set2 (by omega) _ _, bR1.set2 (by omega) _ _, ?_, (hB1.setCell (by simp only; omega) _).setCell (by simp only; omega) _⟩
              rw [show (n + 1) = (n) + 1 from by omega, HM.out, if_neg (by rw [hd]; decide)]
              exact bO1.put2 _ _
            case measure => simp [intOf]; omega
        · obtain rfl : n = 64 := by omega
          go_wp2
          go_roundw
          case rel => exact ⟨1, 1, by decide, rfl, rfl, bA, bR, bO, hB⟩
          case measure => simp [intOf]
    · obtain rfl : m = 1 := hm
      obtain ⟨wo, rfl⟩ : ∃ wo : World, wo = wr := ⟨_, rfl⟩
      go_wp2
      go_loopw [8] (fun i wr => ∃ n : Nat, n ≤ 64 ∧ i = .int .i64 (63 - (n : Int)) ∧ Box wr w.heap.size (nv a.1) (nv a.2) ∧ Box wr (w.heap.size + 1 + 1) 0 0 ∧ Box wr (w.heap.size + 1 + 1 + 1) (nv (mulP a b (64 + n)).1) (nv (mulP a b (64 + n)).2) ∧ Below w.heap.size w wr) (fun i _ => (intOf i + 1).toNat)
      case atStart => exact ⟨0, by decide, rfl, bA, bR, bO, hB⟩
      case round =>
        clear bA bR bO hB
        obtain ⟨n, hn, rfl, bA, bR, bO, hB⟩ := hrel
        by_cases hlt : n < 64
        · have HM := hide' (mulP_succ a b (64 + n))
          generalize mulP a b (64 + n) = q at *
          have o0 := bO.c0
          have o1 := bO.c1
          go_wp2_with fail
          refine (raise_said q _).mono ?_
          rintro e w1 ⟨rfl, hb1⟩
          have bA1 := bA.grown hb1
          have bR1 := bR.grown hb1
          have bO1 := bO.grown hb1
          have hB1 := hB.trans (hb1.mono hB.size)
          clear o0 o1 hb1 bA bR bO hB
          have g0 := bO1.c0
          have g1 := bO1.c1
          have g2 := bO1.frozen 0
          have g3 := bO1.frozen 1
          have k2 := bA1.c0
          have k3 := bA1.c1
          go_wp2_with fail
          · have hd : (bits .and .u64 (nv b.2 / 2 ^ (63 - n)) 1 == 1) = true := by assumption
            rw [dig_lo b n hlt] at hd
            have bA2 := bA1.set2 (o := w.heap.size + 1 + 1 + 1) (by omega) (.int .u64 (nv (twiceP q).1)) (.int .u64 (nv (twiceP q).2))
            have bR2 := bR1.set2 (o := w.heap.size + 1 + 1 + 1) (by omega) (.int .u64 (nv (twiceP q).1)) (.int .u64 (nv (twiceP q).2))
            have bO2 := bO1.put2 (nv (twiceP q).1) (nv (twiceP q).2)
            have hB2 := (hB1.setCell (p := ⟨w.heap.size + 1 + 1 + 1, 0, none⟩) (by simp only; omega) (.int .u64 (nv (twiceP q).1))).setCell (p := ⟨w.heap.size + 1 + 1 + 1, 1, none⟩) (by simp only; omega) (.int .u64 (nv (twiceP q).2))
            refine (add_said (twiceP q) a _).mono ?_
            rintro e w3 ⟨rfl, hb3⟩
            have bA3 := bA2.grown hb3
            have bR3 := bR2.grown hb3
            have bO3 := bO2.grown hb3
            have hB3 := hB2.trans (hb3.mono hB2.size)
            clear g0 g1 g2 g3 k2 k3 bA1 bR1 bO1 hB1 bA2 bR2 bO2 hB2 hb3
            have g0 := bO3.c0
            have g1 := bO3.c1
            have g2 := bO3.frozen 0
            have g3 := bO3.frozen 1
            go_wp2
            go_roundw
            case rel =>
              refine ⟨n + 1, hlt, by rw [show (63 : Int) - n - 1 = 63 - ((n + 1 : Nat) : Int) from by omega], bA3.set2 (by omega) _ _, bR3.set2 (by omega) _ _, ?_, (hB3.setCell (by simp only; omega) _).setCell (by simp only; omega) _⟩
              rw [show 64 + (n + 1) = (64 + n) + 1 from by omega, HM.out, if_pos hd]
              exact bO3.put2 _ _
            case measure => simp [intOf]; omega
          · have hd : (bits .and .u64 (nv b.2 / 2 ^ (63 - n)) 1 == 1) = false := by assumption
            rw [dig_lo b n hlt] at hd
            go_roundw
            case rel =>
              refine ⟨n + 1, hlt, by rw [show (63 : Int) - n - 1 = 63 - ((n + 1 : Nat) : Int) from by omega], bA1.set2 (by omega) _ _, bR1.set2 (by omega) _ _, ?_, (hB1.setCell (by simp only; omega) _).setCell (by simp only; omega) _⟩
              rw [show 64 + (n + 1) = (64 + n) + 1 from by omega, HM.out, if_neg (by rw [hd]; decide)]
              exact bO1.put2 _ _
            case measure => simp [intOf]; omega
        · obtain rfl : n = 64 := by omega
          go_wp2
          go_roundw
          case rel => exact ⟨2, 2, by decide, rfl, rfl, bA, bR, bO, hB⟩
          case measure => simp [intOf]
    · obtain rfl : m = 2 := hm
      have g0 := bO.c0
      have g1 := bO.c1
      have g2 := bR.frozen 0
      have g3 := bR.frozen 1
      have g4 := bR.c0
      have g5 := bR.c1
      go_wp2
      refine bodyPost_ret (v := .agg #[.int .u64 (nv (mulP a b 128).1), .int .u64 (nv (mulP a b 128).2)]) (by simp [results, Try.results73, go_sem, g4, g5]) rfl ⟨rfl, ?_⟩
      exact (hB.setCell (by simp only; omega) _).setCell (by simp only; omega) _
end Go.Proofs.Ytkbhkgfchiacbaa


/- The program's own field.Eval. -/
namespace Go.Proofs.Ytkbhkgfchiacbaa
open Go.RowKit
set_option maxRecDepth 20000

theorem addP_comm (a b : BitVec 64 × BitVec 64) : addP a b = addP b a := by
  unfold addP
  rw [BitVec.xor_comm a.1, BitVec.xor_comm a.2]

set_option maxRecDepth 10000 in
set_option maxHeartbeats 2000000 in
theorem eval_said : EvalSaid := by
  intro h f x n cap hn w hx
  go_enter Try.func65, Try.ntmps65
  go_wp2
  have b0 := ((Box.new w (nv h.1) (nv h.2)).alloc (.cells #[.int .u64 0, .int .u64 0] 34)).alloc (.cells #[.int .u64 0, .int .u64 0] 34)
  have b1 := (Box.new (w.alloc (.cells #[.int .u64 (nv h.1), .int .u64 (nv h.2)] 34)) 0 0).alloc (.cells #[.int .u64 0, .int .u64 0] 34)
  have b2 := Box.new ((w.alloc (.cells #[.int .u64 (nv h.1), .int .u64 (nv h.2)] 34)).alloc (.cells #[.int .u64 0, .int .u64 0] 34)) 0 0
  simp only [World.size_alloc] at b1 b2
  have hB : Below w.heap.size w (((w.alloc (.cells #[.int .u64 (nv h.1), .int .u64 (nv h.2)] 34)).alloc (.cells #[.int .u64 0, .int .u64 0] 34)).alloc (.cells #[.int .u64 0, .int .u64 0] 34)) := by go_grown
  generalize (((w.alloc (.cells #[.int .u64 (nv h.1), .int .u64 (nv h.2)] 34)).alloc (.cells #[.int .u64 0, .int .u64 0] 34)).alloc (.cells #[.int .u64 0, .int .u64 0] 34)) = W at *

  go_loopw [10] (fun iv wr => ∃ i : Nat, i ≤ n ∧ iv = .int .i64 i ∧ Box wr w.heap.size (nv h.1) (nv h.2) ∧ Box wr (w.heap.size + 1) 0 0 ∧ Box wr (w.heap.size + 1 + 1) (nv (evalP h f i).1) (nv (evalP h f i).2) ∧ Below w.heap.size w wr) (fun iv _ => n - (intOf iv).toNat)
  case atStart => exact ⟨0, Nat.zero_le _, rfl, b0, b1, b2, hB⟩
  case round =>
    clear b0 b1 b2 hB
    obtain ⟨i, hi, rfl, b0, b1, b2, hB⟩ := hrel
    by_cases hlt : i < n
    · obtain ⟨g, o, rfl, hg, hc⟩ := hx (by omega)
      obtain ⟨c0, c1⟩ := hc i hlt
      have c0 := (hB.cell (p := ⟨g, o + i * 2, none⟩) hg).trans c0
      have c1 := (hB.cell (p := ⟨g, o + i * 2 + 1, none⟩) hg).trans c1
      have b2_ := b2
      have HE := hide' (evalP_succ h f i)
      generalize evalP h f i = q at *
      generalize f i = r at *
      clear hc hx
      go_wp2_with fail
      clear c0 c1
      have b3 := Box.new wr (nv r.1) (nv r.2)
      have b0 := b0.alloc (.cells #[.int .u64 (nv r.1), .int .u64 (nv r.2)] 34)
      have b1 := b1.alloc (.cells #[.int .u64 (nv r.1), .int .u64 (nv r.2)] 34)
      have b2 := b2.alloc (.cells #[.int .u64 (nv r.1), .int .u64 (nv r.2)] 34)
      have hG : w.heap.size + 1 + 1 < wr.heap.size := b2_.lt
      have hB := hB.alloc hB.size (.cells #[.int .u64 (nv r.1), .int .u64 (nv r.2)] 34)
      generalize wr.alloc (.cells #[.int .u64 (nv r.1), .int .u64 (nv r.2)] 34) = W1 at *
      generalize wr.heap.size = G at *
      refine wp_region_held_drew (S := fun w' => w'.cell? ⟨w.heap.size, 0, none⟩ = some (.int .u64 (nv h.1)) ∧ w'.cell? ⟨w.heap.size, 1, none⟩ = some (.int .u64 (nv h.2)) ∧ w'.cell? ⟨G, 0, none⟩ = some (.int .u64 (nv r.1)) ∧ w'.cell? ⟨G, 1, none⟩ = some (.int .u64 (nv r.2))) (by kernel_rfl) ⟨b0.c0, b0.c1, b3.c0, b3.c1⟩ (fun hHeld => ?_)
      refine takeL 0 14 (v := ?_) rfl rfl (by kernel_rfl) (by kernel_rfl) (by kernel_rfl) (fun _ _ _ h => h) (by rfl) hHeld (fun w hSw => ?_) ?_
      rotate_left 1
      · (try dsimp only at hSw); go_simp; try with_reducible rfl
      simp only [List.set_cons_succ, List.set_cons_zero]
      refine takeL 3 17 (v := ?_) rfl rfl (by kernel_rfl) (by kernel_rfl) (by kernel_rfl) (fun _ _ _ h => h) (by rfl) hHeld (fun w hSw => ?_) ?_
      rotate_left 1
      · (try dsimp only at hSw); go_simp; try with_reducible rfl
      simp only [List.set_cons_succ, List.set_cons_zero]
      have g0 := b2.c0
      have g1 := b2.c1
      refine onlyL 1 rfl (by kernel_rfl) (by rfl) (fun K hK => ?_)
      go_wp2_with fail
      refine hK.out _ _ ⟨b0.c0, b0.c1, b3.c0, b3.c1⟩ (fun hHeld => ?_)
      clear hK K
      clear g0 g1
      refine onlyL 2 rfl (by kernel_rfl) (by rfl) (fun K hK => ?_)
      go_wp2_with fail
      refine (add_said r q _).mono ?_
      rintro e wn ⟨rfl, hbn⟩
      have hbn := (Below.refl _ _).drew.trans hbn
      have b0 := b0.grown hbn
      have b1 := b1.grown hbn
      have b2 := b2.grown hbn
      have b3 := b3.grown hbn
      have hB := hB.trans (hbn.mono hB.size)
      refine hK.out _ _ ⟨b0.c0, b0.c1, b3.c0, b3.c1⟩ (fun hHeld => ?_)
      clear hK K hbn
      refine onlyL 4 rfl (by kernel_rfl) (by rfl) (fun K hK => ?_)
      go_wp2_with fail
      refine (mul_said (addP r q) h _).mono ?_
      rintro e wn ⟨rfl, hbn⟩
      have b0 := b0.grown hbn
      have b1 := b1.grown hbn
      have b2 := b2.grown hbn
      have b3 := b3.grown hbn
      have hB := hB.trans (hbn.mono hB.size)
      refine hK.out _ _ ⟨b0.c0, b0.c1, b3.c0, b3.c1⟩ (fun hHeld => ?_)
      clear hK K hbn
      have g0 := b2.frozen 0
      have g1 := b2.frozen 1
      have g2 := b2.c0
      have g3 := b2.c1
      refine onlyL 5 rfl (by kernel_rfl) (by rfl) (fun K hK => ?_)
      go_wp2_with fail
      clear g0 g1 g2 g3
      have b0 := b0.set2 (o := w.heap.size + 1 + 1) (by omega) (.int .u64 (nv (fmul (addP r q) h).1)) (.int .u64 (nv (fmul (addP r q) h).2))
      have b1 := b1.set2 (o := w.heap.size + 1 + 1) (by omega) (.int .u64 (nv (fmul (addP r q) h).1)) (.int .u64 (nv (fmul (addP r q) h).2))
      have b3 := b3.set2 (o := w.heap.size + 1 + 1) (by omega) (.int .u64 (nv (fmul (addP r q) h).1)) (.int .u64 (nv (fmul (addP r q) h).2))
      have b2 := b2.put2 (nv (fmul (addP r q) h).1) (nv (fmul (addP r q) h).2)
      have hB := (hB.setCell (p := ⟨w.heap.size + 1 + 1, 0, none⟩) (by simp only; omega) (.int .u64 (nv (fmul (addP r q) h).1))).setCell (p := ⟨w.heap.size + 1 + 1, 1, none⟩) (by simp only; omega) (.int .u64 (nv (fmul (addP r q) h).2))
      refine hK.out _ _ ⟨b0.c0, b0.c1, b3.c0, b3.c1⟩ (fun hHeld => ?_)
      clear hK K
      refine wpAnyH_done (by kernel_rfl) ?_ _
      go_wp2
      go_roundw
      case rel =>
        refine ⟨i + 1, hlt, by go_num, b0, b1, ?_, hB⟩
        rw [HE.out, addP_comm q r]
        exact b2
      case measure => simp [intOf]; omega

    · have g0 := b2.c0
      have g1 := b2.c1
      have g2 := b1.frozen 0
      have g3 := b1.frozen 1
      have g4 := b1.c0
      have g5 := b1.c1
      obtain rfl : i = n := by omega
      go_wp2
      refine bodyPost_ret (v := .agg #[.int .u64 (nv (evalP h f i).1), .int .u64 (nv (evalP h f i).2)]) (by simp [results, Try.results65, go_sem, g4, g5]) rfl ⟨rfl, ?_⟩
      exact (hB.setCell (by simp only; omega) _).setCell (by simp only; omega) _
end Go.Proofs.Ytkbhkgfchiacbaa


/- What the program's gcm.Tag comes to. -/
namespace Go.Proofs.Ytkbhkgfchiacbaa
open Go.RowKit
set_option maxRecDepth 20000

theorem eval_of (h : BitVec 64 × BitVec 64) (f : Nat → BitVec 64 × BitVec 64) (x : Option Addr) (n cap : Nat) (hn : n ≤ 1000000) (w : World) (hx : PRow w x n f) {q : BitVec 64 × BitVec 64} (hq : evalP h f n = q) :
    Calls Try.prog 65 #[.agg #[.int .u64 (nv h.1), .int .u64 (nv h.2)], .slice x n cap] w fun e w' => e = .returned (.agg #[.int .u64 (nv q.1), .int .u64 (nv q.2)]) ∧ Below w.heap.size w w' := hq ▸ eval_said h f x n cap hn w hx
theorem add_of (a b : BitVec 64 × BitVec 64) {c : BitVec 64 × BitVec 64} (h : addP a b = c) (w : World) : Calls Try.prog 64 #[.agg #[.int .u64 (nv a.1), .int .u64 (nv a.2)], .agg #[.int .u64 (nv b.1), .int .u64 (nv b.2)]] w fun e w' => e = .returned (.agg #[.int .u64 (nv c.1), .int .u64 (nv c.2)]) ∧ Below w.heap.size w w' := h ▸ add_said a b w

set_option maxRecDepth 10000 in
set_option maxHeartbeats 1000000 in
theorem tag_said : TagIs 46 := by
  intro sub xs ys x y n m c d hn hm hc hd bx by_ _ _ w sx sy
  obtain ⟨h, HH⟩ : ∃ h, Hid (enc sub (0#64, 1#64) = h) := ⟨_, rfl⟩
  obtain ⟨q0, HE⟩ : ∃ q0, Hid (evalP h (fun i => (prs xs ++ prs ys ++ [lenP n m]).getD i (0#64, 0#64)) (prs xs ++ prs ys ++ [lenP n m]).length = q0) := ⟨_, rfl⟩
  obtain ⟨t, HT, HG⟩ : ∃ t, Hid (addP q0 (enc sub (0#64, 0#64)) = t) ∧ Hid (tagP sub xs ys = t) := by
    refine ⟨_, rfl, ?_⟩
    rw [← HE.out, ← HH.out, tagP, sx.1, sy.1]
    exact hide' rfl
  have HL1 : Hid (nv (lenP n m).1 = n) := nv_len n (by omega)
  have HL2 : Hid (nv (lenP n m).2 = m) := nv_len m (by omega)
  have hl1 : (prs xs).length = (n + 15) / 16 := by rw [prs_length, sx.1]
  have hl2 : (prs ys).length = (m + 15) / 16 := by rw [prs_length, sy.1]
  rw [HG.out]
  go_enter Try.func46, Try.ntmps46
  go_wp2_with fail
  have b0 := (Box.new w (nv sub.1) (nv sub.2)).alloc (.cells #[.int .u64 0, .int .u64 0] 34)
  have bR := Box.new (w.alloc (.cells #[.int .u64 (nv sub.1), .int .u64 (nv sub.2)] 34)) 0 0
  have hB : Below w.heap.size w ((w.alloc (.cells #[.int .u64 (nv sub.1), .int .u64 (nv sub.2)] 34)).alloc (.cells #[.int .u64 0, .int .u64 0] 34)) := by go_grown
  simp only [World.size_alloc] at bR
  generalize (w.alloc (.cells #[.int .u64 (nv sub.1), .int .u64 (nv sub.2)] 34)).alloc (.cells #[.int .u64 0, .int .u64 0] 34) = W1 at *
  replace sx := sx.below hB
  replace sy := sy.below hB
  refine (enc_p sub (0#64, 1#64) _ _ nv_zero nv_one _).mono ?_
  rintro e w1 ⟨rfl, hb⟩
  replace b0 := b0.grown hb
  replace bR := bR.grown hb
  replace sx := sx.below hb
  replace sy := sy.below hb
  replace hB := hB.trans (hb.mono hB.size)
  clear hb
  rw [HH.out]
  go_wp2_with fail
  have hb : Below w1.heap.size w1 (w1.alloc (.cells #[.int .u64 (nv h.1), .int .u64 (nv h.2)] 34)) := (Below.refl _ _).alloc (Nat.le_refl _) _
  have b2 := Box.new w1 (nv h.1) (nv h.2)
  replace b0 := b0.grown hb
  replace bR := bR.grown hb
  replace sx := sx.below hb
  replace sy := sy.below hb
  replace hB := hB.trans (hb.mono hB.size)
  clear hb
  generalize w1.alloc (.cells #[.int .u64 (nv h.1), .int .u64 (nv h.2)] 34) = w2 at *
  generalize w1.heap.size = A at *
  refine (ipairs xs x n c hn hc bx _ sx).mono ?_
  rintro e w3 ⟨v1, rfl, own1, hb⟩
  have lR := bR.lt
  have lA := b2.lt
  replace b0 := b0.grown hb
  replace bR := bR.grown hb
  replace b2 := b2.grown hb
  replace sy := sy.below hb
  have hS2 : Below w2.heap.size w2 w3 := hb
  replace hB := hB.trans (hb.mono hB.size)
  clear hb sx
  go_wp2_with fail
  refine (ipairs ys y m d hm hd by_ _ sy).mono ?_
  rintro e w4 ⟨v2, rfl, own2, hb⟩
  replace b0 := b0.grown hb
  replace bR := bR.grown hb
  replace b2 := b2.grown hb
  replace own1 := own_grown own1 hb
  replace hS2 := hS2.trans (hb.mono hS2.size)
  replace hB := hB.trans (hb.mono hB.size)
  clear hb sy
  obtain ⟨x2, c2, rfl, row2, -, -, nil2⟩ := own_pair_row hl2 own2
  obtain ⟨F2, HF2⟩ : ∃ F2, Hid ((fun i => (prs ys).getD i (0#64, 0#64)) = F2) := ⟨_, rfl⟩
  rw [HF2.out] at row2
  have hz4 := hS2.size
  go_wp2_with (at_builtin; refine wpList_appP rfl _ _ rfl w2.heap.size _ ((n + 15) / 16) _ rfl own1 x2 ((m + 15) / 16) c2 _ rfl row2 nil2 (by omega) hz4 ?_)
  intro v3 w5 own3 hb
  replace b0 := b0.below hb (by omega)
  replace bR := bR.below hb (by omega)
  replace b2 := b2.below hb lA
  replace hB := hB.trans (hb.mono (by omega))
  replace hz4 := Nat.le_trans hz4 hb.size
  clear hb own1 own2 row2 nil2 hS2
  rw [show flatP F2 ((m + 15) / 16) = fl (prs ys) from by rw [← HF2.out, fl, hl2], ← fl_append] at own3
  have hprow : PRow (w5.alloc (.cells #[.int .u64 n, .int .u64 m] 34)) (some ⟨w5.heap.size, 0, none⟩) 1 (fun _ => lenP n m) := by
    have := (Box.new w5 (nv (lenP n m).1) (nv (lenP n m).2)).prow
    rw [HL1.out, HL2.out] at this
    exact this
  go_wp2_with (at_builtin; refine wpList_appP rfl _ _ rfl w2.heap.size _ ((n + 15) / 16 + (m + 15) / 16) _ rfl (own3.alloc _) (some ⟨w5.heap.size, 0, none⟩) 1 1 (fun _ => lenP n m) rfl hprow (fun e => by cases e) (by omega) (by rw [World.size_alloc]; omega) ?_)
  intro v4 W3 own4 hb
  replace hb := ((Below.refl w2.heap.size w5).alloc hz4 (.cells #[.int .u64 n, .int .u64 m] 34)).trans hb
  replace b0 := b0.below hb (by omega)
  replace bR := bR.below hb (by omega)
  replace b2 := b2.below hb lA
  replace hB := hB.trans (hb.mono (by omega))
  clear hb own3 hprow hz4
  have hl4 : (prs xs ++ prs ys ++ [lenP n m]).length = (n + 15) / 16 + (m + 15) / 16 + 1 := by
    simp [hl1, hl2]
    omega
  have own5 : W3.ownsRow w2.heap.size 34 2 v4 ((n + 15) / 16 + (m + 15) / 16 + 1) (fl (prs xs ++ prs ys ++ [lenP n m])) := by
    rw [fl_append]
    exact own4
  clear own4
  obtain ⟨x4, c4, rfl, row, -, -, -⟩ := own_pair_row hl4 own5
  rw [hl4] at HE
  clear own5 HL1 HL2 hl1 hl2
  generalize (fun i => (prs xs ++ prs ys ++ [lenP n m]).getD i (0#64, 0#64)) = F at *
  go_wp2_with fail
  have b0_ := b0
  refine wp_region_held_drew (S := fun w' => Below (w.heap.size + 1) W3 w') (by kernel_rfl) (Below.refl _ _).drew (fun hHeld => ?_)
  refine takeM 1 28 8 rfl rfl rfl (by kernel_rfl) (by kernel_rfl) (by kernel_rfl) (fun _ _ _ h => h) (by rfl) hHeld rfl ?_
  simp only [List.set_cons_succ, List.set_cons_zero]
  refine takeL 3 30 (v := ?_) rfl rfl (by kernel_rfl) (by kernel_rfl) (by kernel_rfl) (fun _ _ _ h => h) (by rfl) hHeld (fun w hSw => ?_) ?_
  rotate_left 1
  · (try dsimp only at hSw)
    have e0_ := (b0_.below hSw (Nat.lt_succ_self _)).c0
    have e1_ := (b0_.below hSw (Nat.lt_succ_self _)).c1
    clear hSw
    go_simp
    try with_reducible rfl
  simp only [List.set_cons_succ, List.set_cons_zero]
  refine takeL 4 31 (v := ?_) rfl rfl (by kernel_rfl) (by kernel_rfl) (by kernel_rfl) (fun _ _ _ h => h) (by rfl) hHeld (fun w hSw => ?_) ?_
  rotate_left 1
  · (try dsimp only at hSw)
    clear hSw
    go_simp
    try with_reducible rfl
  simp only [List.set_cons_succ, List.set_cons_zero]
  have hS : Below (w.heap.size + 1) W3 W3.drew := (Below.refl _ _).drew
  have hSz : w.heap.size + 1 ≤ W3.drew.heap.size := by
    have := bR.lt
    simp only [World.size_drew]
    omega
  replace bR := bR.drew
  replace b2 := b2.drew
  replace hB := hB.drew
  replace row := (show PRow W3.drew _ _ _ from row)
  have k0 := b2.c0
  have k1 := b2.c1
  refine onlyL 0 rfl (by kernel_rfl) (by rfl) (fun K hK => ?_)
  go_wp2_with fail
  refine hK.out _ _ hS (fun hHeld => ?_)
  clear hK K k0 k1 b2
  refine onlyL 2 rfl (by kernel_rfl) (by rfl) (fun K hK => ?_)
  go_wp2_with fail
  refine (eval_of h _ x4 _ c4 (by omega) _ row HE.out).mono ?_
  rintro e w7 ⟨rfl, hb⟩
  replace bR := bR.grown hb
  replace hB := hB.trans (hb.mono hB.size)
  replace hS := hS.trans (hb.mono hSz)
  replace hSz := Nat.le_trans hSz hb.size
  clear hb
  refine hK.out _ _ hS (fun hHeld => ?_)
  clear hK K
  clear row
  refine onlyL 5 rfl (by kernel_rfl) (by rfl) (fun K hK => ?_)
  go_wp2_with fail
  refine (enc_p sub (0#64, 0#64) _ _ nv_zero nv_zero _).mono ?_
  rintro e w8 ⟨rfl, hb⟩
  replace bR := bR.grown hb
  replace hB := hB.trans (hb.mono hB.size)
  replace hS := hS.trans (hb.mono hSz)
  replace hSz := Nat.le_trans hSz hb.size
  clear hb
  refine hK.out _ _ hS (fun hHeld => ?_)
  clear hK K
  refine onlyL 6 rfl (by kernel_rfl) (by rfl) (fun K hK => ?_)
  go_wp2_with fail
  refine (add_of q0 (enc sub (0#64, 0#64)) HT.out _).mono ?_
  rintro e w9 ⟨rfl, hb⟩
  replace bR := bR.grown hb
  replace hB := hB.trans (hb.mono hB.size)
  replace hS := hS.trans (hb.mono hSz)
  replace hSz := Nat.le_trans hSz hb.size
  clear hb
  refine hK.out _ _ hS (fun hHeld => ?_)
  clear hK K
  have k0 := bR.c0
  have k1 := bR.c1
  have k2 := bR.frozen 0
  have k3 := bR.frozen 1
  refine onlyL 7 rfl (by kernel_rfl) (by rfl) (fun K hK => ?_)
  go_wp2_with fail
  clear k0 k1 k2 k3
  replace hS := (hS.setCell (p := ⟨w.heap.size + 1, 0, none⟩) (Nat.le_refl _) (.int .u64 (nv t.1))).setCell (p := ⟨w.heap.size + 1, 1, none⟩) (Nat.le_refl _) (.int .u64 (nv t.2))
  replace hB := (hB.setCell (p := ⟨w.heap.size + 1, 0, none⟩) (Nat.le_succ _) (.int .u64 (nv t.1))).setCell (p := ⟨w.heap.size + 1, 1, none⟩) (Nat.le_succ _) (.int .u64 (nv t.2))
  replace bR := bR.put2 (nv t.1) (nv t.2)
  refine hK.out _ _ hS (fun hHeld => ?_)
  clear hK K
  refine wpAnyH_done (by kernel_rfl) ?_ _
  have k0 := bR.c0
  have k1 := bR.c1
  go_wp2
  refine bodyPost_ret (v := .agg #[.int .u64 (nv t.1), .int .u64 (nv t.2)]) (by simp [results, Try.results46, go_sem, k0, k1]) rfl ⟨rfl, hB⟩
end Go.Proofs.Ytkbhkgfchiacbaa


/- The landed lock: Seal and Open. -/
namespace Go.Proofs.Ytkbhkgfchiacbaa
open Go.RowKit
set_option maxRecDepth 20000

end Go.Proofs.Ytkbhkgfchiacbaa


/- The landed lock is what the statements ask. -/
namespace Go.Proofs.Ytkbhkgfchiacbaa
open Go.RowKit
set_option maxRecDepth 20000

theorem lock_is : LockIs LInv where
  stay := fun h => h.stay
  lt := fun h => h.lt
  ptr := fun h => by
    obtain ⟨b, e, _⟩ := h
    exact ⟨_, e⟩
  none_ := fun h hi => by
    obtain ⟨b, e, ⟨rfl, _⟩ | ⟨h1, _⟩⟩ := h
    · exact ⟨rfl, rfl⟩
    · rw [hi] at h1
      cases h1
  plain := fun {F w v st} h hi {x n xs} hs => by
    obtain ⟨b, e, ⟨rfl, hb, hF⟩ | ⟨h1, _⟩⟩ := h
    · exact (sat_not hb.not8 hs).mono (fun k _ h hf => h ((hF k).1 hf))
    · rw [hi] at h1
      cases h1
  real := ireal
  ideal := iideal orc_is
  sum := isum8 orc_is
  sumNil := isumNil8
end Go.Proofs.Ytkbhkgfchiacbaa
