/- What lockboxref7's Open comes to. -/
import Derived.Test.YtkkehbebaokdmaaOrc
import Derived.Test.YtkkehbebaokdmaaEqP
import Derived.Test.YtkkehbebaokdmaaRefSame
namespace Go.Proofs.Ytkkehbebaokdmaa
open Go.RowKit
set_option maxRecDepth 20000

theorem Try.iss10 : Try.prog.cellsOf 65 = 10 := by kernel_rfl
/-- The cells of the i-th issue of a row. -/
theorem iss_cells {G : Nat → Prop} {w : World} {v : Value} {L : List Iss} (h : IRow G w v L) (i : Nat) (hi : i < L.length) : ∃ g cap c, v = .slice (some ⟨g, 0, none⟩) L.length cap ∧ L.length ≤ cap ∧ g < w.heap.size ∧ IssIn (fun k => G k ∧ v.ownBlock ≠ some k) w (L.getD i default) c i ∧ ∀ j u, (issC (L.getD i default) c i)[j]? = some u → w.cell? ⟨g, i * 10 + j, none⟩ = some u := by
  obtain ⟨C, h1, h2, h3⟩ := h
  have hget : ∀ j, j < 10 → (flatG (fun i => issC (L.getD i default) (C i) i) L.length)[i * 10 + j]? = (issC (L.getD i default) (C i) i)[j]? := fun j hj => flatG_get (s := 10) (fun i => issC_length _ _ i) L.length i j hi hj
  obtain ⟨g, cap, rfl, hnc, hgl, _⟩ := own_cell h1 ((hget 0 (by decide)).trans rfl)
  refine ⟨g, cap, C i, rfl, hnc, hgl, h3 i hi, fun j u hj => ?_⟩
  have hj10 : j < 10 := by
    rcases Nat.lt_or_ge j 10 with h | h
    · exact h
    · rw [List.getElem?_eq_none (by rw [issC_length]; exact h)] at hj
      cases hj
  obtain ⟨g', cap', e, _, _, hc⟩ := own_cell h1 ((hget j hj10).trans hj)
  simp only [Value.slice.injEq, Option.some.injEq, Addr.mk.injEq] at e
  rw [e.1.1]
  exact hc

theorem same_at (i : Nat) (hi : i < 1000000) (t' : BitVec 64 × BitVec 64) (xs ys : List Int) (z y : Option Addr) (m n c d : Nat) (bx : Bytes xs) (by_ : Bytes ys) (w : World) (sz : SAt w z m xs) (sy : SAt w y n ys) : Calls Try.prog 12 #[.agg #[.slice z m c, .int .u64 18446744073709551615, .int .u64 (i : Nat)], .agg #[.slice y n d, .int .u64 (nv t'.1), .int .u64 (nv t'.2)]] w fun e w' => e = .returned (.bool (decide (xs = ys ∧ tagI i = t'))) ∧ Below w.heap.size w w' := by
  have := rsame_any (tagI i) t' xs ys z y m n c d bx by_ w sz sy
  rw [tagI_2 i (by omega)] at this
  exact this
set_option maxRecDepth 10000 in
set_option maxHeartbeats 4000000 in
theorem oropen_no (F : Nat → Prop) (b : Nat) (st : OSt) (q : Ask) (x y : Option Addr) (n m c d : Nat) (hL : st.1.length ≤ 50000) (bx : Bytes q.head) (by_ : Bytes q.bytes) (hno : ∀ i, ¬ Hit st.1 q i) (w : World) (hI : RInv F w b st) (sx : SAt w x n q.head) (sy : SAt w y m q.bytes) :
    Calls Try.prog 26 #[.pointer (some ⟨b, 0, none⟩), .agg #[.int .u64 (nv q.key.1), .int .u64 (nv q.key.2)], .agg #[.int .u32 (nv32 q.non.1), .int .u32 (nv32 q.non.2.1), .int .u64 (nv q.non.2.2)], .slice x n c, .agg #[.slice y m d, .int .u64 (nv q.tag.1), .int .u64 (nv q.tag.2)]] w fun e w' => e = .returned (.tuple #[.slice none 0 0, .bool false]) ∧ Below w.heap.size w w' := by
  have heq := eq32
  have heqN := eqN
  have HH := hide' hno
  clear hno
  go_enter Try.func26, Try.ntmps26
  go_wp2_with fail
  have hB : Below w.heap.size w (((w.alloc (.cells #[.int .u64 (nv q.key.1), .int .u64 (nv q.key.2)] 30)).alloc (.cells #[.int .u32 (nv32 q.non.1), .int .u32 (nv32 q.non.2.1), .int .u64 (nv q.non.2.2)] 35)).alloc (.cells #[.slice y m d, .int .u64 (nv q.tag.1), .int .u64 (nv q.tag.2)] 32)) := by go_grown
  have b0 := ((Box.new w (nv q.key.1) (nv q.key.2)).alloc (.cells #[.int .u32 (nv32 q.non.1), .int .u32 (nv32 q.non.2.1), .int .u64 (nv q.non.2.2)] 35)).alloc (.cells #[.slice y m d, .int .u64 (nv q.tag.1), .int .u64 (nv q.tag.2)] 32)
  have bN := (NBox.new (w.alloc (.cells #[.int .u64 (nv q.key.1), .int .u64 (nv q.key.2)] 30)) q.non).alloc (.cells #[.slice y m d, .int .u64 (nv q.tag.1), .int .u64 (nv q.tag.2)] 32)
  have bS := SBox.new ((w.alloc (.cells #[.int .u64 (nv q.key.1), .int .u64 (nv q.key.2)] 30)).alloc (.cells #[.int .u32 (nv32 q.non.1), .int .u32 (nv32 q.non.2.1), .int .u64 (nv q.non.2.2)] 35)) (.slice y m d) (nv q.tag.1) (nv q.tag.2)
  simp only [World.size_alloc] at bN bS
  generalize ((w.alloc (.cells #[.int .u64 (nv q.key.1), .int .u64 (nv q.key.2)] 30)).alloc (.cells #[.int .u32 (nv32 q.non.1), .int .u32 (nv32 q.non.2.1), .int .u64 (nv q.non.2.2)] 35)).alloc (.cells #[.slice y m d, .int .u64 (nv q.tag.1), .int .u64 (nv q.tag.2)] 32) = W1 at *
  go_loopw [12] (fun i wr => ∃ k : Nat, k ≤ st.1.length ∧ i = .int .i64 (k : Int) ∧ Box wr w.heap.size (nv q.key.1) (nv q.key.2) ∧ NBox wr (w.heap.size + 1) q.non ∧ SBox wr (w.heap.size + 1 + 1) (.slice y m d) (nv q.tag.1) (nv q.tag.2) ∧ Below w.heap.size w wr) (fun i _ => st.1.length - (intOf i).toNat)
  case atStart => exact ⟨0, Nat.zero_le _, rfl, b0, bN, bS, hB⟩
  case round =>
    clear b0 bN bS hB
    obtain ⟨k, hk, rfl, b0, bN, bS, hB⟩ := hrel
    obtain ⟨FL, FS, vL, vS, hA, hF0, -⟩ := hI.below hB
    have HF := hide' hF0
    clear hF0
    by_cases hlt : k < st.1.length
    · obtain ⟨g, cap, cc, rfl, hcap, hgl, hin, hcs⟩ := iss_cells hA.iss k hlt
      obtain ⟨z, HZ⟩ : ∃ z, Hid (st.1.getD k default = z) := ⟨_, rfl⟩
      rw [HZ.out] at hin hcs
      obtain ⟨zk, zn, zh, zd⟩ := z
      have k1 := hA.box.c0
      have c0 : wr.cell? ⟨g, k * 10, none⟩ = some (.int .u64 (nv zk.1)) := hcs 0 _ rfl
      have c1 : wr.cell? ⟨g, k * 10 + 1, none⟩ = some (.int .u64 (nv zk.2)) := hcs 1 _ rfl
      have c2 : wr.cell? ⟨g, k * 10 + 2, none⟩ = some (.int .u32 (nv32 zn.1)) := hcs 2 _ rfl
      have c3 : wr.cell? ⟨g, k * 10 + 3, none⟩ = some (.int .u32 (nv32 zn.2.1)) := hcs 3 _ rfl
      have c4 : wr.cell? ⟨g, k * 10 + 4, none⟩ = some (.int .u64 (nv zn.2.2)) := hcs 4 _ rfl
      have c5 : wr.cell? ⟨g, k * 10 + 5, none⟩ = some (.slice cc.h zh.length cc.hc) := hcs 5 _ rfl
      have c6 : wr.cell? ⟨g, k * 10 + 6, none⟩ = some (.slice cc.d zd.length cc.dc) := hcs 6 _ rfl
      have c7 : wr.cell? ⟨g, k * 10 + 7, none⟩ = some (.slice cc.o zd.length cc.oc) := hcs 7 _ rfl
      have c8 : wr.cell? ⟨g, k * 10 + 8, none⟩ = some (.int .u64 18446744073709551615) := hcs 8 _ rfl
      have c9 : wr.cell? ⟨g, k * 10 + 9, none⟩ = some (.int .u64 ((k : Int) + 1)) := hcs 9 _ rfl
      have hb : Below wr.heap.size wr (wr.alloc (.cells #[.int .u64 (nv zk.1), .int .u64 (nv zk.2), .int .u32 (nv32 zn.1), .int .u32 (nv32 zn.2.1), .int .u64 (nv zn.2.2), .slice cc.h zh.length cc.hc, .slice cc.d zd.length cc.dc, .slice cc.o zd.length cc.oc, .int .u64 18446744073709551615, .int .u64 ((k : Int) + 1)] 65)) := (Below.refl _ _).alloc (Nat.le_refl _) _
      have hhb : Bytes zh := hin.hb
      have hos : SIn _ wr cc.o zd.length (outB (k + 1) zd.length) := hin.os
      have hds : SIn _ wr cc.d zd.length zd := hin.ds
      have hhs : SIn _ wr cc.h zh.length zh := hin.hs
      have r0 := (b0.grown hb).c0
      have r1 := (b0.grown hb).c1
      have n0 := (bN.grown hb).c0
      have n1 := (bN.grown hb).c1
      have n2 := (bN.grown hb).c2
      have s0 := (bS.grown hb).c0
      have s1 := (bS.grown hb).c1
      have s2 := (bS.grown hb).c2
      have v1 := fun c => (hhs.sat.below hb).conv (c := c)
      have v2 := fun c => ((sx.below hB).below hb).conv (c := c)
      replace sy := sy.below hB
      clear hcs hin hhs
      have hmiss : ¬ (zk = q.key ∧ zn = q.non ∧ zh = q.head ∧ outB (k + 1) zd.length = q.bytes ∧ tagI (k + 1) = q.tag) := fun e => HH.out k ⟨hlt, by rw [HZ.out]; exact e⟩
      by_cases h1 : zk = q.key
      · subst h1
        by_cases h2 : zn = q.non
        · subst h2
          by_cases h3 : zh = q.head
          · subst h3
            have g4 : decide (outB (k + 1) zd.length = q.bytes ∧ tagI (k + 1) = q.tag) = false := decide_eq_false (fun e => hmiss ⟨rfl, rfl, rfl, e.1, e.2⟩)
            clear hmiss
            go_wp2_with fail
            refine (same_at (k + 1) (by omega) q.tag _ q.bytes _ y zd.length m _ d (outB_bytes _ _) by_ _ (hos.sat.below hb) (sy.below hb)).mono ?_
            rintro e w2 ⟨rfl, hb2⟩
            replace hb := hb.trans (hb2.mono hb.size)
            clear hb2
            rw [g4]
            go_wp2
            go_roundw
            case rel => exact ⟨k + 1, hlt, by go_num, b0.grown hb, bN.grown hb, bS.grown hb, hB.trans (hb.mono hB.size)⟩
            case measure => simp [intOf]; omega
          · have g3 : ((strOfNums zh).toList == (strOfNums q.head).toList) = false := by rw [str_eq _ _ hhb bx]; exact decide_eq_false h3
            clear hmiss h3
            go_wp2
            go_roundw
            case rel => exact ⟨k + 1, hlt, by go_num, b0.grown hb, bN.grown hb, bS.grown hb, hB.trans (hb.mono hB.size)⟩
            case measure => simp [intOf]; omega
        · have g2 : (nv32 zn.1 == nv32 q.non.1 && nv32 zn.2.1 == nv32 q.non.2.1 && nv zn.2.2 == nv q.non.2.2) = false := by rw [non_eq_of]; exact decide_eq_false h2
          clear hmiss h2
          go_wp2
          go_roundw
          case rel => exact ⟨k + 1, hlt, by go_num, b0.grown hb, bN.grown hb, bS.grown hb, hB.trans (hb.mono hB.size)⟩
          case measure => simp [intOf]; omega
      · have g1 : (nv zk.1 == nv q.key.1 && nv zk.2 == nv q.key.2) = false := by rw [pair_eq_of]; exact decide_eq_false h1
        clear hmiss h1
        go_wp2
        go_roundw
        case rel => exact ⟨k + 1, hlt, by go_num, b0.grown hb, bN.grown hb, bS.grown hb, hB.trans (hb.mono hB.size)⟩
        case measure => simp [intOf]; omega
    · obtain rfl : k = st.1.length := by omega
      obtain ⟨yl, cl, rfl, -, -, -⟩ := own_is hA.iss.choose_spec.1
      have k1 := hA.box.c0
      go_wp2
      go_ret2
      exact ⟨rfl, hB⟩

set_option maxRecDepth 10000 in
set_option maxHeartbeats 4000000 in
theorem oropen_yes (F : Nat → Prop) (b : Nat) (st : OSt) (q : Ask) (x y : Option Addr) (n m c d : Nat) (hL : st.1.length ≤ 50000) (bx : Bytes q.head) (by_ : Bytes q.bytes) (i0 : Nat) (hit : Hit st.1 q i0) (w : World) (hI : RInv F w b st) (sx : SAt w x n q.head) (sy : SAt w y m q.bytes) :
    Calls Try.prog 26 #[.pointer (some ⟨b, 0, none⟩), .agg #[.int .u64 (nv q.key.1), .int .u64 (nv q.key.2)], .agg #[.int .u32 (nv32 q.non.1), .int .u32 (nv32 q.non.2.1), .int .u64 (nv q.non.2.2)], .slice x n c, .agg #[.slice y m d, .int .u64 (nv q.tag.1), .int .u64 (nv q.tag.2)]] w fun e w' => ∃ u cu, e = .returned (.tuple #[.slice u (st.1.getD i0 default).data.length cu, .bool true]) ∧ SIn F w' u (st.1.getD i0 default).data.length (st.1.getD i0 default).data ∧ Below w.heap.size w w' := by
  have heq := eq32
  have heqN := eqN
  have HH := hide' hit
  clear hit
  go_enter Try.func26, Try.ntmps26
  go_wp2_with fail
  have hB : Below w.heap.size w (((w.alloc (.cells #[.int .u64 (nv q.key.1), .int .u64 (nv q.key.2)] 30)).alloc (.cells #[.int .u32 (nv32 q.non.1), .int .u32 (nv32 q.non.2.1), .int .u64 (nv q.non.2.2)] 35)).alloc (.cells #[.slice y m d, .int .u64 (nv q.tag.1), .int .u64 (nv q.tag.2)] 32)) := by go_grown
  have b0 := ((Box.new w (nv q.key.1) (nv q.key.2)).alloc (.cells #[.int .u32 (nv32 q.non.1), .int .u32 (nv32 q.non.2.1), .int .u64 (nv q.non.2.2)] 35)).alloc (.cells #[.slice y m d, .int .u64 (nv q.tag.1), .int .u64 (nv q.tag.2)] 32)
  have bN := (NBox.new (w.alloc (.cells #[.int .u64 (nv q.key.1), .int .u64 (nv q.key.2)] 30)) q.non).alloc (.cells #[.slice y m d, .int .u64 (nv q.tag.1), .int .u64 (nv q.tag.2)] 32)
  have bS := SBox.new ((w.alloc (.cells #[.int .u64 (nv q.key.1), .int .u64 (nv q.key.2)] 30)).alloc (.cells #[.int .u32 (nv32 q.non.1), .int .u32 (nv32 q.non.2.1), .int .u64 (nv q.non.2.2)] 35)) (.slice y m d) (nv q.tag.1) (nv q.tag.2)
  simp only [World.size_alloc] at bN bS
  generalize ((w.alloc (.cells #[.int .u64 (nv q.key.1), .int .u64 (nv q.key.2)] 30)).alloc (.cells #[.int .u32 (nv32 q.non.1), .int .u32 (nv32 q.non.2.1), .int .u64 (nv q.non.2.2)] 35)).alloc (.cells #[.slice y m d, .int .u64 (nv q.tag.1), .int .u64 (nv q.tag.2)] 32) = W1 at *
  go_loopw [12] (fun i wr => ∃ k : Nat, k ≤ i0 ∧ i = .int .i64 (k : Int) ∧ Box wr w.heap.size (nv q.key.1) (nv q.key.2) ∧ NBox wr (w.heap.size + 1) q.non ∧ SBox wr (w.heap.size + 1 + 1) (.slice y m d) (nv q.tag.1) (nv q.tag.2) ∧ Below w.heap.size w wr) (fun i _ => st.1.length - (intOf i).toNat)
  case atStart => exact ⟨0, Nat.zero_le _, rfl, b0, bN, bS, hB⟩
  case round =>
    clear b0 bN bS hB
    obtain ⟨k, hk, rfl, b0, bN, bS, hB⟩ := hrel
    obtain ⟨FL, FS, vL, vS, hA, hF0, -⟩ := hI.below hB
    have HF := hide' hF0
    clear hF0
    have hi0 := HH.out.1
    have hlt : k < st.1.length := by omega
    obtain ⟨g, cap, cc, rfl, hcap, hgl, hin, hcs⟩ := iss_cells hA.iss k hlt
    obtain ⟨z, HZ⟩ : ∃ z, Hid (st.1.getD k default = z) := ⟨_, rfl⟩
    rw [HZ.out] at hin hcs
    obtain ⟨zk, zn, zh, zd⟩ := z
    have k1 := hA.box.c0
    have c0 : wr.cell? ⟨g, k * 10, none⟩ = some (.int .u64 (nv zk.1)) := hcs 0 _ rfl
    have c1 : wr.cell? ⟨g, k * 10 + 1, none⟩ = some (.int .u64 (nv zk.2)) := hcs 1 _ rfl
    have c2 : wr.cell? ⟨g, k * 10 + 2, none⟩ = some (.int .u32 (nv32 zn.1)) := hcs 2 _ rfl
    have c3 : wr.cell? ⟨g, k * 10 + 3, none⟩ = some (.int .u32 (nv32 zn.2.1)) := hcs 3 _ rfl
    have c4 : wr.cell? ⟨g, k * 10 + 4, none⟩ = some (.int .u64 (nv zn.2.2)) := hcs 4 _ rfl
    have c5 : wr.cell? ⟨g, k * 10 + 5, none⟩ = some (.slice cc.h zh.length cc.hc) := hcs 5 _ rfl
    have c6 : wr.cell? ⟨g, k * 10 + 6, none⟩ = some (.slice cc.d zd.length cc.dc) := hcs 6 _ rfl
    have c7 : wr.cell? ⟨g, k * 10 + 7, none⟩ = some (.slice cc.o zd.length cc.oc) := hcs 7 _ rfl
    have c8 : wr.cell? ⟨g, k * 10 + 8, none⟩ = some (.int .u64 18446744073709551615) := hcs 8 _ rfl
    have c9 : wr.cell? ⟨g, k * 10 + 9, none⟩ = some (.int .u64 ((k : Int) + 1)) := hcs 9 _ rfl
    have hb : Below wr.heap.size wr (wr.alloc (.cells #[.int .u64 (nv zk.1), .int .u64 (nv zk.2), .int .u32 (nv32 zn.1), .int .u32 (nv32 zn.2.1), .int .u64 (nv zn.2.2), .slice cc.h zh.length cc.hc, .slice cc.d zd.length cc.dc, .slice cc.o zd.length cc.oc, .int .u64 18446744073709551615, .int .u64 ((k : Int) + 1)] 65)) := (Below.refl _ _).alloc (Nat.le_refl _) _
    have hhb : Bytes zh := hin.hb
    have hos : SIn _ wr cc.o zd.length (outB (k + 1) zd.length) := hin.os
    have hds : SIn _ wr cc.d zd.length zd := hin.ds
    have hhs : SIn _ wr cc.h zh.length zh := hin.hs
    have r0 := (b0.grown hb).c0
    have r1 := (b0.grown hb).c1
    have n0 := (bN.grown hb).c0
    have n1 := (bN.grown hb).c1
    have n2 := (bN.grown hb).c2
    have s0 := (bS.grown hb).c0
    have s1 := (bS.grown hb).c1
    have s2 := (bS.grown hb).c2
    have v1 := fun c => (hhs.sat.below hb).conv (c := c)
    have v2 := fun c => ((sx.below hB).below hb).conv (c := c)
    replace sy := sy.below hB
    clear hcs hin hhs
    by_cases hki : k = i0
    · subst hki
      obtain ⟨-, h1, h2, h3, h4, h5⟩ := HH.out
      rw [HZ.out] at h1 h2 h3 h4
      simp only at h1 h2 h3 h4
      subst h1 h2 h3
      have g4 : decide (outB (k + 1) zd.length = q.bytes ∧ tagI (k + 1) = q.tag) = true := decide_eq_true ⟨h4, h5⟩
      clear h4 h5
      go_wp2_with fail
      refine (same_at (k + 1) (by omega) q.tag _ q.bytes _ y zd.length m _ d (outB_bytes _ _) by_ _ (hos.sat.below hb) (sy.below hb)).mono ?_
      rintro e w2 ⟨rfl, hb2⟩
      rw [g4]
      have bI : w2.heap[wr.heap.size]? = some (.cells #[.int .u64 (nv q.key.1), .int .u64 (nv q.key.2), .int .u32 (nv32 q.non.1), .int .u32 (nv32 q.non.2.1), .int .u64 (nv q.non.2.2), .slice cc.h q.head.length cc.hc, .slice cc.d zd.length cc.dc, .slice cc.o zd.length cc.oc, .int .u64 18446744073709551615, .int .u64 ((k : Int) + 1)] 65 (0, 0)) := (hb2.block _ (by rw [World.size_alloc]; omega)).trans (by show (wr.heap.push _)[wr.heap.size]? = _; simp)
      have d6 : w2.cell? ⟨wr.heap.size, 6, none⟩ = some (.slice cc.d zd.length cc.dc) := by simp [World.cell?, bI]
      replace hb := hb.trans (hb2.mono hb.size)
      clear hb2
      go_wp2
      go_ret2
      rw [HZ.out]
      exact ⟨cc.d, cc.dc, rfl, (hds.off (Off.of_below (F := fun _ => False) hb) (fun _ _ _ h => h)).mono (fun k _ h => (HF.out k).2 (Or.inr (Or.inl h.1))), hB.trans (hb.mono hB.size)⟩
    · have hmiss : ¬ (zk = q.key ∧ zn = q.non ∧ zh = q.head ∧ outB (k + 1) zd.length = q.bytes ∧ tagI (k + 1) = q.tag) := fun e => hki (Hit.one (q := q) ⟨hlt, by rw [HZ.out]; exact e⟩ HH.out (by omega))
      by_cases h1 : zk = q.key
      · subst h1
        by_cases h2 : zn = q.non
        · subst h2
          by_cases h3 : zh = q.head
          · subst h3
            have g4 : decide (outB (k + 1) zd.length = q.bytes ∧ tagI (k + 1) = q.tag) = false := decide_eq_false (fun e => hmiss ⟨rfl, rfl, rfl, e.1, e.2⟩)
            clear hmiss
            go_wp2_with fail
            refine (same_at (k + 1) (by omega) q.tag _ q.bytes _ y zd.length m _ d (outB_bytes _ _) by_ _ (hos.sat.below hb) (sy.below hb)).mono ?_
            rintro e w2 ⟨rfl, hb2⟩
            replace hb := hb.trans (hb2.mono hb.size)
            clear hb2
            rw [g4]
            go_wp2
            go_roundw
            case rel => exact ⟨k + 1, by omega, by go_num, b0.grown hb, bN.grown hb, bS.grown hb, hB.trans (hb.mono hB.size)⟩
            case measure => simp [intOf]; omega
          · have g3 : ((strOfNums zh).toList == (strOfNums q.head).toList) = false := by rw [str_eq _ _ hhb bx]; exact decide_eq_false h3
            clear hmiss h3
            go_wp2
            go_roundw
            case rel => exact ⟨k + 1, by omega, by go_num, b0.grown hb, bN.grown hb, bS.grown hb, hB.trans (hb.mono hB.size)⟩
            case measure => simp [intOf]; omega
        · have g2 : (nv32 zn.1 == nv32 q.non.1 && nv32 zn.2.1 == nv32 q.non.2.1 && nv zn.2.2 == nv q.non.2.2) = false := by rw [non_eq_of]; exact decide_eq_false h2
          clear hmiss h2
          go_wp2
          go_roundw
          case rel => exact ⟨k + 1, by omega, by go_num, b0.grown hb, bN.grown hb, bS.grown hb, hB.trans (hb.mono hB.size)⟩
          case measure => simp [intOf]; omega
      · have g1 : (nv zk.1 == nv q.key.1 && nv zk.2 == nv q.key.2) = false := by rw [pair_eq_of]; exact decide_eq_false h1
        clear hmiss h1
        go_wp2
        go_roundw
        case rel => exact ⟨k + 1, by omega, by go_num, b0.grown hb, bN.grown hb, bS.grown hb, hB.trans (hb.mono hB.size)⟩
        case measure => simp [intOf]; omega

end Go.Proofs.Ytkkehbebaokdmaa
