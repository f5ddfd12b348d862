/- BoxN RefSame RefOOpen OTwo: texts laid together. -/
import Derived.Test.YtkkehbebaokdmaaM03
import Derived.WalkKit

/- Numbers and sealed bytes in blocks of their own; when two are one. -/
namespace Go.Proofs.Ytkkehbebaokdmaa
open Go.RowKit
set_option maxRecDepth 20000

theorem non_eq (a b : Nn) : (nv32 a.1 = nv32 b.1 ∧ nv32 a.2.1 = nv32 b.2.1 ∧ nv a.2.2 = nv b.2.2) ↔ a = b := by
  constructor
  · rintro ⟨h1, h2, h3⟩
    exact Prod.ext (nv32_inj h1) (Prod.ext (nv32_inj h2) (nv_inj h3))
  · rintro rfl
    exact ⟨rfl, rfl, rfl⟩
theorem pair_eq_of (p q : BitVec 64 × BitVec 64) : (nv p.1 == nv q.1 && nv p.2 == nv q.2) = decide (p = q) := by
  rw [nv_eq, nv_eq, Bool.eq_iff_iff]
  simp [Prod.ext_iff]
/-- A number in a block of its own. -/
def NBox (w : World) (b : Nat) (n : Nn) : Prop := w.heap[b]? = some (.cells #[.int .u32 (nv32 n.1), .int .u32 (nv32 n.2.1), .int .u64 (nv n.2.2)] 35 (0, 0))
theorem NBox.c0 {w : World} {b : Nat} {n : Nn} (h : NBox w b n) : w.cell? ⟨b, 0, none⟩ = some (.int .u32 (nv32 n.1)) := by unfold NBox at h; simp [World.cell?, h]
theorem NBox.c1 {w : World} {b : Nat} {n : Nn} (h : NBox w b n) : w.cell? ⟨b, 1, none⟩ = some (.int .u32 (nv32 n.2.1)) := by unfold NBox at h; simp [World.cell?, h]
theorem NBox.c2 {w : World} {b : Nat} {n : Nn} (h : NBox w b n) : w.cell? ⟨b, 2, none⟩ = some (.int .u64 (nv n.2.2)) := by unfold NBox at h; simp [World.cell?, h]
theorem NBox.lt {w : World} {b : Nat} {n : Nn} (h : NBox w b n) : b < w.heap.size := by
  obtain ⟨hlt, _⟩ := Array.getElem?_eq_some_iff.1 h
  exact hlt
theorem NBox.grown {w w' : World} {b : Nat} {n : Nn} (h : NBox w b n) (hb : Below w.heap.size w w') : NBox w' b n := (hb.block b h.lt).trans h
theorem NBox.alloc {w : World} {b : Nat} {n : Nn} (h : NBox w b n) (o : Obj) : NBox (w.alloc o) b n := h.grown ((Below.refl w.heap.size w).alloc (Nat.le_refl _) o)
theorem NBox.new (w : World) (n : Nn) : NBox (w.alloc (.cells #[.int .u32 (nv32 n.1), .int .u32 (nv32 n.2.1), .int .u64 (nv n.2.2)] 35)) w.heap.size n := by
  show (w.heap.push _)[w.heap.size]? = _
  simp
theorem eqN (a b c a' b' c' : Int) (w : World) : (Op.equalIn 10000 35 (.agg #[.int .u32 a, .int .u32 b, .int .u64 c]) (.agg #[.int .u32 a', .int .u32 b', .int .u64 c'])).run Try.prog w = .ok (a == a' && b == b' && c == c') w := by
  go_simp
  by_cases h1 : a = a' <;> by_cases h2 : b = b' <;> by_cases h3 : c = c' <;> simp [h1, h2, h3]
theorem non_eq_of (a b : Nn) : (nv32 a.1 == nv32 b.1 && nv32 a.2.1 == nv32 b.2.1 && nv a.2.2 == nv b.2.2) = decide (a = b) := by
  rw [Bool.eq_iff_iff, decide_eq_true_eq, ← non_eq a b]
  simp [and_assoc]
theorem NBox.frozen {w : World} {b : Nat} {n : Nn} (h : NBox w b n) (i : Nat) : w.frozen? ⟨b, i, none⟩ = false := by unfold NBox at h; simp [World.frozen?, h]
theorem NBox.drew {w : World} {b : Nat} {n : Nn} (h : NBox w b n) : NBox w.drew b n := h
/-- Sealed bytes in a block of their own. -/
def SBox (w : World) (b : Nat) (v : Value) (t1 t2 : Int) : Prop := w.heap[b]? = some (.cells #[v, .int .u64 t1, .int .u64 t2] 32 (0, 0))
theorem SBox.c0 {w : World} {b : Nat} {v : Value} {t1 t2 : Int} (h : SBox w b v t1 t2) : w.cell? ⟨b, 0, none⟩ = some v := by unfold SBox at h; simp [World.cell?, h]
theorem SBox.c1 {w : World} {b : Nat} {v : Value} {t1 t2 : Int} (h : SBox w b v t1 t2) : w.cell? ⟨b, 1, none⟩ = some (.int .u64 t1) := by unfold SBox at h; simp [World.cell?, h]
theorem SBox.c2 {w : World} {b : Nat} {v : Value} {t1 t2 : Int} (h : SBox w b v t1 t2) : w.cell? ⟨b, 2, none⟩ = some (.int .u64 t2) := by unfold SBox at h; simp [World.cell?, h]
theorem SBox.frozen {w : World} {b : Nat} {v : Value} {t1 t2 : Int} (h : SBox w b v t1 t2) (i : Nat) : w.frozen? ⟨b, i, none⟩ = false := by unfold SBox at h; simp [World.frozen?, h]
theorem SBox.lt {w : World} {b : Nat} {v : Value} {t1 t2 : Int} (h : SBox w b v t1 t2) : b < w.heap.size := by
  obtain ⟨hlt, _⟩ := Array.getElem?_eq_some_iff.1 h
  exact hlt
theorem SBox.below {w w' : World} {B b : Nat} {v : Value} {t1 t2 : Int} (h : SBox w b v t1 t2) (hb : Below B w w') (hB : b < B) : SBox w' b v t1 t2 := (hb.block b hB).trans h
theorem SBox.grown {w w' : World} {b : Nat} {v : Value} {t1 t2 : Int} (h : SBox w b v t1 t2) (hb : Below w.heap.size w w') : SBox w' b v t1 t2 := h.below hb h.lt
theorem SBox.alloc {w : World} {b : Nat} {v : Value} {t1 t2 : Int} (h : SBox w b v t1 t2) (o : Obj) : SBox (w.alloc o) b v t1 t2 := h.grown ((Below.refl w.heap.size w).alloc (Nat.le_refl _) o)
theorem SBox.new (w : World) (v : Value) (t1 t2 : Int) : SBox (w.alloc (.cells #[v, .int .u64 t1, .int .u64 t2] 32)) w.heap.size v t1 t2 := by
  show (w.heap.push _)[w.heap.size]? = _
  simp
theorem SBox.drew {w : World} {b : Nat} {v : Value} {t1 t2 : Int} (h : SBox w b v t1 t2) : SBox w.drew b v t1 t2 := h

theorem sat_other {w : World} {g : Nat} {z u : Option Addr} {n l c : Nat} {fs : List Int} {t1 t2 : Int} (h : SAt w z n fs) (hb : SBox w g (.slice u l c) t1 t2) (a b d : Value) : SAt (((w.setCell ⟨g, 0, none⟩ a).setCell ⟨g, 1, none⟩ b).setCell ⟨g, 2, none⟩ d) z n fs := by
  refine ⟨h.1, fun hn => ?_⟩
  obtain ⟨q, o, e, hq, hat⟩ := h.2 hn
  have hne : q ≠ g := by
    rintro rfl
    have h0 := hat 0 (by rw [h.1]; exact hn)
    unfold SBox at hb
    simp only [World.cell?, hb, Nat.add_zero] at h0
    match o, h0 with
    | 0, h0 => simp at h0
    | 1, h0 => simp at h0
    | 2, h0 => simp at h0
    | o + 3, h0 => simp at h0
  exact ⟨q, o, e, by simpa using hq, ((hat.setOther hne a).setOther hne b).setOther hne d⟩
theorem SBox.put3 {w : World} {b : Nat} {v : Value} {t1 t2 : Int} (h : SBox w b v t1 t2) (v' : Value) (t1' t2' : Int) : SBox (((w.setCell ⟨b, 0, none⟩ v').setCell ⟨b, 1, none⟩ (.int .u64 t1')).setCell ⟨b, 2, none⟩ (.int .u64 t2')) b v' t1' t2' := by
  unfold SBox at h ⊢
  simp [World.setCell, Array.getElem?_modify, h]
end Go.Proofs.Ytkkehbebaokdmaa


/- What lockboxref5.Same comes to, of any two. -/
namespace Go.Proofs.Ytkkehbebaokdmaa
open Go.RowKit
set_option maxRecDepth 20000

set_option maxHeartbeats 1000000 in
theorem rsame_any (t t' : BitVec 64 × BitVec 64) (xs ys : List Int) (z y : Option Addr) (m n c d : Nat) (bx : Bytes xs) (by_ : Bytes ys) (w : World) (sz : SAt w z m xs) (sy : SAt w y n ys) : Calls Try.prog 12 #[.agg #[.slice z m c, .int .u64 (nv t.1), .int .u64 (nv t.2)], .agg #[.slice y n d, .int .u64 (nv t'.1), .int .u64 (nv t'.2)]] w fun e w' => e = .returned (.bool (decide (xs = ys ∧ t = t'))) ∧ Below w.heap.size w w' := by
  have heq := eq32
  have hb : Below w.heap.size w ((w.alloc (.cells #[.slice z m c, .int .u64 (nv t.1), .int .u64 (nv t.2)] 32)).alloc (.cells #[.slice y n d, .int .u64 (nv t'.1), .int .u64 (nv t'.2)] 32)) := by go_grown
  have e1 := fun c => (sz.below hb).conv (c := c)
  have e2 := fun c => (sy.below hb).conv (c := c)
  have hse := str_eq xs ys bx by_
  have hpe := pair_eq_of t t'
  by_cases h : xs = ys
  · have hse2 : ((strOfNums xs).toList == (strOfNums ys).toList) = true := by rw [hse]; exact decide_eq_true h
    have hd : decide (xs = ys ∧ t = t') = decide (t = t') := by simp [h]
    rw [hd, ← hpe]
    clear hse h hd hpe
    go_enter Try.func12, Try.ntmps12
    go_wp2
    go_ret
    exact ⟨rfl, hb⟩
  · have hse2 : ((strOfNums xs).toList == (strOfNums ys).toList) = false := by rw [hse]; exact decide_eq_false h
    have hd : decide (xs = ys ∧ t = t') = false := by simp [h]
    rw [hd]
    clear hse h hd hpe
    go_enter Try.func12, Try.ntmps12
    go_wp2
    go_ret
    exact ⟨rfl, hb⟩
end Go.Proofs.Ytkkehbebaokdmaa


/- What lockboxref7's Open comes to. -/
namespace Go.Proofs.Ytkkehbebaokdmaa
open Go.RowKit
set_option maxRecDepth 20000

theorem Try.iss10 : Try.prog.cellsOf 65 = 10 := by kernel_rfl
/-- The cells of the i-th issue of a row. -/
theorem iss_cells {G : Nat → Prop} {w : World} {v : Value} {L : List Iss} (h : IRow G w v L) (i : Nat) (hi : i < L.length) : ∃ g cap c, v = .slice (some ⟨g, 0, none⟩) L.length cap ∧ L.length ≤ cap ∧ g < w.heap.size ∧ IssIn (fun k => G k ∧ v.ownBlock ≠ some k) w (L.getD i default) c i ∧ ∀ j u, (issC (L.getD i default) c i)[j]? = some u → w.cell? ⟨g, i * 10 + j, none⟩ = some u := by
  obtain ⟨C, h1, h2, h3⟩ := h
  have hget : ∀ j, j < 10 → (flatG (fun i => issC (L.getD i default) (C i) i) L.length)[i * 10 + j]? = (issC (L.getD i default) (C i) i)[j]? := fun j hj => flatG_get (s := 10) (fun i => issC_length _ _ i) L.length i j hi hj
  obtain ⟨g, cap, rfl, hnc, hgl, _⟩ := own_cell h1 ((hget 0 (by decide)).trans rfl)
  refine ⟨g, cap, C i, rfl, hnc, hgl, h3 i hi, fun j u hj => ?_⟩
  have hj10 : j < 10 := by
    rcases Nat.lt_or_ge j 10 with h | h
    · exact h
    · rw [List.getElem?_eq_none (by rw [issC_length]; exact h)] at hj
      cases hj
  obtain ⟨g', cap', e, _, _, hc⟩ := own_cell h1 ((hget j hj10).trans hj)
  simp only [Value.slice.injEq, Option.some.injEq, Addr.mk.injEq] at e
  rw [e.1.1]
  exact hc

theorem same_at (i : Nat) (hi : i < 1000000) (t' : BitVec 64 × BitVec 64) (xs ys : List Int) (z y : Option Addr) (m n c d : Nat) (bx : Bytes xs) (by_ : Bytes ys) (w : World) (sz : SAt w z m xs) (sy : SAt w y n ys) : Calls Try.prog 12 #[.agg #[.slice z m c, .int .u64 18446744073709551615, .int .u64 (i : Nat)], .agg #[.slice y n d, .int .u64 (nv t'.1), .int .u64 (nv t'.2)]] w fun e w' => e = .returned (.bool (decide (xs = ys ∧ tagI i = t'))) ∧ Below w.heap.size w w' := by
  have := rsame_any (tagI i) t' xs ys z y m n c d bx by_ w sz sy
  rw [tagI_2 i (by omega)] at this
  exact this
set_option maxRecDepth 10000 in
set_option maxHeartbeats 4000000 in
theorem oropen_no (F : Nat → Prop) (b : Nat) (st : OSt) (q : Ask) (x y : Option Addr) (n m c d : Nat) (hL : st.1.length ≤ 50000) (bx : Bytes q.head) (by_ : Bytes q.bytes) (hno : ∀ i, ¬ Hit st.1 q i) (w : World) (hI : RInv F w b st) (sx : SAt w x n q.head) (sy : SAt w y m q.bytes) :
    Calls Try.prog 26 #[.pointer (some ⟨b, 0, none⟩), .agg #[.int .u64 (nv q.key.1), .int .u64 (nv q.key.2)], .agg #[.int .u32 (nv32 q.non.1), .int .u32 (nv32 q.non.2.1), .int .u64 (nv q.non.2.2)], .slice x n c, .agg #[.slice y m d, .int .u64 (nv q.tag.1), .int .u64 (nv q.tag.2)]] w fun e w' => e = .returned (.tuple #[.slice none 0 0, .bool false]) ∧ Below w.heap.size w w' := by
  have heq := eq32
  have heqN := eqN
  have HH := hide' hno
  clear hno
  go_enter Try.func26, Try.ntmps26
  go_wp2_with fail
  have hB : Below w.heap.size w (((w.alloc (.cells #[.int .u64 (nv q.key.1), .int .u64 (nv q.key.2)] 30)).alloc (.cells #[.int .u32 (nv32 q.non.1), .int .u32 (nv32 q.non.2.1), .int .u64 (nv q.non.2.2)] 35)).alloc (.cells #[.slice y m d, .int .u64 (nv q.tag.1), .int .u64 (nv q.tag.2)] 32)) := by go_grown
  have b0 := ((Box.new w (nv q.key.1) (nv q.key.2)).alloc (.cells #[.int .u32 (nv32 q.non.1), .int .u32 (nv32 q.non.2.1), .int .u64 (nv q.non.2.2)] 35)).alloc (.cells #[.slice y m d, .int .u64 (nv q.tag.1), .int .u64 (nv q.tag.2)] 32)
  have bN := (NBox.new (w.alloc (.cells #[.int .u64 (nv q.key.1), .int .u64 (nv q.key.2)] 30)) q.non).alloc (.cells #[.slice y m d, .int .u64 (nv q.tag.1), .int .u64 (nv q.tag.2)] 32)
  have bS := SBox.new ((w.alloc (.cells #[.int .u64 (nv q.key.1), .int .u64 (nv q.key.2)] 30)).alloc (.cells #[.int .u32 (nv32 q.non.1), .int .u32 (nv32 q.non.2.1), .int .u64 (nv q.non.2.2)] 35)) (.slice y m d) (nv q.tag.1) (nv q.tag.2)
  simp only [World.size_alloc] at bN bS
  generalize ((w.alloc (.cells #[.int .u64 (nv q.key.1), .int .u64 (nv q.key.2)] 30)).alloc (.cells #[.int .u32 (nv32 q.non.1), .int .u32 (nv32 q.non.2.1), .int .u64 (nv q.non.2.2)] 35)).alloc (.cells #[.slice y m d, .int .u64 (nv q.tag.1), .int .u64 (nv q.tag.2)] 32) = W1 at *
  go_loopw [12] (fun i wr => ∃ k : Nat, k ≤ st.1.length ∧ i = .int .i64 (k : Int) ∧ Box wr w.heap.size (nv q.key.1) (nv q.key.2) ∧ NBox wr (w.heap.size + 1) q.non ∧ SBox wr (w.heap.size + 1 + 1) (.slice y m d) (nv q.tag.1) (nv q.tag.2) ∧ Below w.heap.size w wr) (fun i _ => st.1.length - (intOf i).toNat)
  case atStart => exact ⟨0, Nat.zero_le _, rfl, b0, bN, bS, hB⟩
  case round =>
    clear b0 bN bS hB
    obtain ⟨k, hk, rfl, b0, bN, bS, hB⟩ := hrel
    obtain ⟨FL, FS, vL, vS, hA, hF0, -⟩ := hI.below hB
    have HF := hide' hF0
    clear hF0
    by_cases hlt : k < st.1.length
    · obtain ⟨g, cap, cc, rfl, hcap, hgl, hin, hcs⟩ := iss_cells hA.iss k hlt
      obtain ⟨z, HZ⟩ : ∃ z, Hid (st.1.getD k default = z) := ⟨_, rfl⟩
      rw [HZ.out] at hin hcs
      obtain ⟨zk, zn, zh, zd⟩ := z
      have k1 := hA.box.c0
      have c0 : wr.cell? ⟨g, k * 10, none⟩ = some (.int .u64 (nv zk.1)) := hcs 0 _ rfl
      have c1 : wr.cell? ⟨g, k * 10 + 1, none⟩ = some (.int .u64 (nv zk.2)) := hcs 1 _ rfl
      have c2 : wr.cell? ⟨g, k * 10 + 2, none⟩ = some (.int .u32 (nv32 zn.1)) := hcs 2 _ rfl
      have c3 : wr.cell? ⟨g, k * 10 + 3, none⟩ = some (.int .u32 (nv32 zn.2.1)) := hcs 3 _ rfl
      have c4 : wr.cell? ⟨g, k * 10 + 4, none⟩ = some (.int .u64 (nv zn.2.2)) := hcs 4 _ rfl
      have c5 : wr.cell? ⟨g, k * 10 + 5, none⟩ = some (.slice cc.h zh.length cc.hc) := hcs 5 _ rfl
      have c6 : wr.cell? ⟨g, k * 10 + 6, none⟩ = some (.slice cc.d zd.length cc.dc) := hcs 6 _ rfl
      have c7 : wr.cell? ⟨g, k * 10 + 7, none⟩ = some (.slice cc.o zd.length cc.oc) := hcs 7 _ rfl
      have c8 : wr.cell? ⟨g, k * 10 + 8, none⟩ = some (.int .u64 18446744073709551615) := hcs 8 _ rfl
      have c9 : wr.cell? ⟨g, k * 10 + 9, none⟩ = some (.int .u64 ((k : Int) + 1)) := hcs 9 _ rfl
      have hb : Below wr.heap.size wr (wr.alloc (.cells #[.int .u64 (nv zk.1), .int .u64 (nv zk.2), .int .u32 (nv32 zn.1), .int .u32 (nv32 zn.2.1), .int .u64 (nv zn.2.2), .slice cc.h zh.length cc.hc, .slice cc.d zd.length cc.dc, .slice cc.o zd.length cc.oc, .int .u64 18446744073709551615, .int .u64 ((k : Int) + 1)] 65)) := (Below.refl _ _).alloc (Nat.le_refl _) _
      have hhb : Bytes zh := hin.hb
      have hos : SIn _ wr cc.o zd.length (outB (k + 1) zd.length) := hin.os
      have hds : SIn _ wr cc.d zd.length zd := hin.ds
      have hhs : SIn _ wr cc.h zh.length zh := hin.hs
      have r0 := (b0.grown hb).c0
      have r1 := (b0.grown hb).c1
      have n0 := (bN.grown hb).c0
      have n1 := (bN.grown hb).c1
      have n2 := (bN.grown hb).c2
      have s0 := (bS.grown hb).c0
      have s1 := (bS.grown hb).c1
      have s2 := (bS.grown hb).c2
      have v1 := fun c => (hhs.sat.below hb).conv (c := c)
      have v2 := fun c => ((sx.below hB).below hb).conv (c := c)
      replace sy := sy.below hB
      clear hcs hin hhs
      have hmiss : ¬ (zk = q.key ∧ zn = q.non ∧ zh = q.head ∧ outB (k + 1) zd.length = q.bytes ∧ tagI (k + 1) = q.tag) := fun e => HH.out k ⟨hlt, by rw [HZ.out]; exact e⟩
      by_cases h1 : zk = q.key
      · subst h1
        by_cases h2 : zn = q.non
        · subst h2
          by_cases h3 : zh = q.head
          · subst h3
            have g4 : decide (outB (k + 1) zd.length = q.bytes ∧ tagI (k + 1) = q.tag) = false := decide_eq_false (fun e => hmiss ⟨rfl, rfl, rfl, e.1, e.2⟩)
            clear hmiss
            go_wp2_with fail
            refine (same_at (k + 1) (by omega) q.tag _ q.bytes _ y zd.length m _ d (outB_bytes _ _) by_ _ (hos.sat.below hb) (sy.below hb)).mono ?_
            rintro e w2 ⟨rfl, hb2⟩
            replace hb := hb.trans (hb2.mono hb.size)
            clear hb2
            rw [g4]
            go_wp2
            go_roundw
            case rel => exact ⟨k + 1, hlt, by go_num, b0.grown hb, bN.grown hb, bS.grown hb, hB.trans (hb.mono hB.size)⟩
            case measure => simp [intOf]; omega
          · have g3 : ((strOfNums zh).toList == (strOfNums q.head).toList) = false := by rw [str_eq _ _ hhb bx]; exact decide_eq_false h3
            clear hmiss h3
            go_wp2
            go_roundw
            case rel => exact ⟨k + 1, hlt, by go_num, b0.grown hb, bN.grown hb, bS.grown hb, hB.trans (hb.mono hB.size)⟩
            case measure => simp [intOf]; omega
        · have g2 : (nv32 zn.1 == nv32 q.non.1 && nv32 zn.2.1 == nv32 q.non.2.1 && nv zn.2.2 == nv q.non.2.2) = false := by rw [non_eq_of]; exact decide_eq_false h2
          clear hmiss h2
          go_wp2
          go_roundw
          case rel => exact ⟨k + 1, hlt, by go_num, b0.grown hb, bN.grown hb, bS.grown hb, hB.trans (hb.mono hB.size)⟩
          case measure => simp [intOf]; omega
      · have g1 : (nv zk.1 == nv q.key.1 && nv zk.2 == nv q.key.2) = false := by rw [pair_eq_of]; exact decide_eq_false h1
        clear hmiss h1
        go_wp2
        go_roundw
        case rel => exact ⟨k + 1, hlt, by go_num, b0.grown hb, bN.grown hb, bS.grown hb, hB.trans (hb.mono hB.size)⟩
        case measure => simp [intOf]; omega
    · obtain rfl : k = st.1.length := by omega
      obtain ⟨yl, cl, rfl, -, -, -⟩ := own_is hA.iss.choose_spec.1
      have k1 := hA.box.c0
      go_wp2
      go_ret2
      exact ⟨rfl, hB⟩

set_option maxRecDepth 10000 in
set_option maxHeartbeats 4000000 in
theorem oropen_yes (F : Nat → Prop) (b : Nat) (st : OSt) (q : Ask) (x y : Option Addr) (n m c d : Nat) (hL : st.1.length ≤ 50000) (bx : Bytes q.head) (by_ : Bytes q.bytes) (i0 : Nat) (hit : Hit st.1 q i0) (w : World) (hI : RInv F w b st) (sx : SAt w x n q.head) (sy : SAt w y m q.bytes) :
    Calls Try.prog 26 #[.pointer (some ⟨b, 0, none⟩), .agg #[.int .u64 (nv q.key.1), .int .u64 (nv q.key.2)], .agg #[.int .u32 (nv32 q.non.1), .int .u32 (nv32 q.non.2.1), .int .u64 (nv q.non.2.2)], .slice x n c, .agg #[.slice y m d, .int .u64 (nv q.tag.1), .int .u64 (nv q.tag.2)]] w fun e w' => ∃ u cu, e = .returned (.tuple #[.slice u (st.1.getD i0 default).data.length cu, .bool true]) ∧ SIn F w' u (st.1.getD i0 default).data.length (st.1.getD i0 default).data ∧ Below w.heap.size w w' := by
  have heq := eq32
  have heqN := eqN
  have HH := hide' hit
  clear hit
  go_enter Try.func26, Try.ntmps26
  go_wp2_with fail
  have hB : Below w.heap.size w (((w.alloc (.cells #[.int .u64 (nv q.key.1), .int .u64 (nv q.key.2)] 30)).alloc (.cells #[.int .u32 (nv32 q.non.1), .int .u32 (nv32 q.non.2.1), .int .u64 (nv q.non.2.2)] 35)).alloc (.cells #[.slice y m d, .int .u64 (nv q.tag.1), .int .u64 (nv q.tag.2)] 32)) := by go_grown
  have b0 := ((Box.new w (nv q.key.1) (nv q.key.2)).alloc (.cells #[.int .u32 (nv32 q.non.1), .int .u32 (nv32 q.non.2.1), .int .u64 (nv q.non.2.2)] 35)).alloc (.cells #[.slice y m d, .int .u64 (nv q.tag.1), .int .u64 (nv q.tag.2)] 32)
  have bN := (NBox.new (w.alloc (.cells #[.int .u64 (nv q.key.1), .int .u64 (nv q.key.2)] 30)) q.non).alloc (.cells #[.slice y m d, .int .u64 (nv q.tag.1), .int .u64 (nv q.tag.2)] 32)
  have bS := SBox.new ((w.alloc (.cells #[.int .u64 (nv q.key.1), .int .u64 (nv q.key.2)] 30)).alloc (.cells #[.int .u32 (nv32 q.non.1), .int .u32 (nv32 q.non.2.1), .int .u64 (nv q.non.2.2)] 35)) (.slice y m d) (nv q.tag.1) (nv q.tag.2)
  simp only [World.size_alloc] at bN bS
  generalize ((w.alloc (.cells #[.int .u64 (nv q.key.1), .int .u64 (nv q.key.2)] 30)).alloc (.cells #[.int .u32 (nv32 q.non.1), .int .u32 (nv32 q.non.2.1), .int .u64 (nv q.non.2.2)] 35)).alloc (.cells #[.slice y m d, .int .u64 (nv q.tag.1), .int .u64 (nv q.tag.2)] 32) = W1 at *
  go_loopw [12] (fun i wr => ∃ k : Nat, k ≤ i0 ∧ i = .int .i64 (k : Int) ∧ Box wr w.heap.size (nv q.key.1) (nv q.key.2) ∧ NBox wr (w.heap.size + 1) q.non ∧ SBox wr (w.heap.size + 1 + 1) (.slice y m d) (nv q.tag.1) (nv q.tag.2) ∧ Below w.heap.size w wr) (fun i _ => st.1.length - (intOf i).toNat)
  case atStart => exact ⟨0, Nat.zero_le _, rfl, b0, bN, bS, hB⟩
  case round =>
    clear b0 bN bS hB
    obtain ⟨k, hk, rfl, b0, bN, bS, hB⟩ := hrel
    obtain ⟨FL, FS, vL, vS, hA, hF0, -⟩ := hI.below hB
    have HF := hide' hF0
    clear hF0
    have hi0 := HH.out.1
    have hlt : k < st.1.length := by omega
    obtain ⟨g, cap, cc, rfl, hcap, hgl, hin, hcs⟩ := iss_cells hA.iss k hlt
    obtain ⟨z, HZ⟩ : ∃ z, Hid (st.1.getD k default = z) := ⟨_, rfl⟩
    rw [HZ.out] at hin hcs
    obtain ⟨zk, zn, zh, zd⟩ := z
    have k1 := hA.box.c0
    have c0 : wr.cell? ⟨g, k * 10, none⟩ = some (.int .u64 (nv zk.1)) := hcs 0 _ rfl
    have c1 : wr.cell? ⟨g, k * 10 + 1, none⟩ = some (.int .u64 (nv zk.2)) := hcs 1 _ rfl
    have c2 : wr.cell? ⟨g, k * 10 + 2, none⟩ = some (.int .u32 (nv32 zn.1)) := hcs 2 _ rfl
    have c3 : wr.cell? ⟨g, k * 10 + 3, none⟩ = some (.int .u32 (nv32 zn.2.1)) := hcs 3 _ rfl
    have c4 : wr.cell? ⟨g, k * 10 + 4, none⟩ = some (.int .u64 (nv zn.2.2)) := hcs 4 _ rfl
    have c5 : wr.cell? ⟨g, k * 10 + 5, none⟩ = some (.slice cc.h zh.length cc.hc) := hcs 5 _ rfl
    have c6 : wr.cell? ⟨g, k * 10 + 6, none⟩ = some (.slice cc.d zd.length cc.dc) := hcs 6 _ rfl
    have c7 : wr.cell? ⟨g, k * 10 + 7, none⟩ = some (.slice cc.o zd.length cc.oc) := hcs 7 _ rfl
    have c8 : wr.cell? ⟨g, k * 10 + 8, none⟩ = some (.int .u64 18446744073709551615) := hcs 8 _ rfl
    have c9 : wr.cell? ⟨g, k * 10 + 9, none⟩ = some (.int .u64 ((k : Int) + 1)) := hcs 9 _ rfl
    have hb : Below wr.heap.size wr (wr.alloc (.cells #[.int .u64 (nv zk.1), .int .u64 (nv zk.2), .int .u32 (nv32 zn.1), .int .u32 (nv32 zn.2.1), .int .u64 (nv zn.2.2), .slice cc.h zh.length cc.hc, .slice cc.d zd.length cc.dc, .slice cc.o zd.length cc.oc, .int .u64 18446744073709551615, .int .u64 ((k : Int) + 1)] 65)) := (Below.refl _ _).alloc (Nat.le_refl _) _
    have hhb : Bytes zh := hin.hb
    have hos : SIn _ wr cc.o zd.length (outB (k + 1) zd.length) := hin.os
    have hds : SIn _ wr cc.d zd.length zd := hin.ds
    have hhs : SIn _ wr cc.h zh.length zh := hin.hs
    have r0 := (b0.grown hb).c0
    have r1 := (b0.grown hb).c1
    have n0 := (bN.grown hb).c0
    have n1 := (bN.grown hb).c1
    have n2 := (bN.grown hb).c2
    have s0 := (bS.grown hb).c0
    have s1 := (bS.grown hb).c1
    have s2 := (bS.grown hb).c2
    have v1 := fun c => (hhs.sat.below hb).conv (c := c)
    have v2 := fun c => ((sx.below hB).below hb).conv (c := c)
    replace sy := sy.below hB
    clear hcs hin hhs
    by_cases hki : k = i0
    · subst hki
      obtain ⟨-, h1, h2, h3, h4, h5⟩ := HH.out
      rw [HZ.out] at h1 h2 h3 h4
      simp only at h1 h2 h3 h4
      subst h1 h2 h3
      have g4 : decide (outB (k + 1) zd.length = q.bytes ∧ tagI (k + 1) = q.tag) = true := decide_eq_true ⟨h4, h5⟩
      clear h4 h5
      go_wp2_with fail
      refine (same_at (k + 1) (by omega) q.tag _ q.bytes _ y zd.length m _ d (outB_bytes _ _) by_ _ (hos.sat.below hb) (sy.below hb)).mono ?_
      rintro e w2 ⟨rfl, hb2⟩
      rw [g4]
      have bI : w2.heap[wr.heap.size]? = some (.cells #[.int .u64 (nv q.key.1), .int .u64 (nv q.key.2), .int .u32 (nv32 q.non.1), .int .u32 (nv32 q.non.2.1), .int .u64 (nv q.non.2.2), .slice cc.h q.head.length cc.hc, .slice cc.d zd.length cc.dc, .slice cc.o zd.length cc.oc, .int .u64 18446744073709551615, .int .u64 ((k : Int) + 1)] 65 (0, 0)) := (hb2.block _ (by rw [World.size_alloc]; omega)).trans (by show (wr.heap.push _)[wr.heap.size]? = _; simp)
      have d6 : w2.cell? ⟨wr.heap.size, 6, none⟩ = some (.slice cc.d zd.length cc.dc) := by simp [World.cell?, bI]
      replace hb := hb.trans (hb2.mono hb.size)
      clear hb2
      go_wp2
      go_ret2
      rw [HZ.out]
      exact ⟨cc.d, cc.dc, rfl, (hds.off (Off.of_below (F := fun _ => False) hb) (fun _ _ _ h => h)).mono (fun k _ h => (HF.out k).2 (Or.inr (Or.inl h.1))), hB.trans (hb.mono hB.size)⟩
    · have hmiss : ¬ (zk = q.key ∧ zn = q.non ∧ zh = q.head ∧ outB (k + 1) zd.length = q.bytes ∧ tagI (k + 1) = q.tag) := fun e => hki (Hit.one (q := q) ⟨hlt, by rw [HZ.out]; exact e⟩ HH.out (by omega))
      by_cases h1 : zk = q.key
      · subst h1
        by_cases h2 : zn = q.non
        · subst h2
          by_cases h3 : zh = q.head
          · subst h3
            have g4 : decide (outB (k + 1) zd.length = q.bytes ∧ tagI (k + 1) = q.tag) = false := decide_eq_false (fun e => hmiss ⟨rfl, rfl, rfl, e.1, e.2⟩)
            clear hmiss
            go_wp2_with fail
            refine (same_at (k + 1) (by omega) q.tag _ q.bytes _ y zd.length m _ d (outB_bytes _ _) by_ _ (hos.sat.below hb) (sy.below hb)).mono ?_
            rintro e w2 ⟨rfl, hb2⟩
            replace hb := hb.trans (hb2.mono hb.size)
            clear hb2
            rw [g4]
            go_wp2
            go_roundw
            case rel => exact ⟨k + 1, by omega, by go_num, b0.grown hb, bN.grown hb, bS.grown hb, hB.trans (hb.mono hB.size)⟩
            case measure => simp [intOf]; omega
          · have g3 : ((strOfNums zh).toList == (strOfNums q.head).toList) = false := by rw [str_eq _ _ hhb bx]; exact decide_eq_false h3
            clear hmiss h3
            go_wp2
            go_roundw
            case rel => exact ⟨k + 1, by omega, by go_num, b0.grown hb, bN.grown hb, bS.grown hb, hB.trans (hb.mono hB.size)⟩
            case measure => simp [intOf]; omega
        · have g2 : (nv32 zn.1 == nv32 q.non.1 && nv32 zn.2.1 == nv32 q.non.2.1 && nv zn.2.2 == nv q.non.2.2) = false := by rw [non_eq_of]; exact decide_eq_false h2
          clear hmiss h2
          go_wp2
          go_roundw
          case rel => exact ⟨k + 1, by omega, by go_num, b0.grown hb, bN.grown hb, bS.grown hb, hB.trans (hb.mono hB.size)⟩
          case measure => simp [intOf]; omega
      · have g1 : (nv zk.1 == nv q.key.1 && nv zk.2 == nv q.key.2) = false := by rw [pair_eq_of]; exact decide_eq_false h1
        clear hmiss h1
        go_wp2
        go_roundw
        case rel => exact ⟨k + 1, by omega, by go_num, b0.grown hb, bN.grown hb, bS.grown hb, hB.trans (hb.mono hB.size)⟩
        case measure => simp [intOf]; omega

end Go.Proofs.Ytkkehbebaokdmaa


/- Two issues of one key and one number. -/
namespace Go.Proofs.Ytkkehbebaokdmaa
open Go.RowKit
set_option maxRecDepth 20000

/-- Two of these have one key and one number. -/
def Mate (L : List Iss) (i k : Nat) : Prop := (L.getD i default).key = (L.getD k default).key ∧ (L.getD i default).non = (L.getD k default).non
def Two (L : List Iss) : Prop := ∃ i k, k < i ∧ i < L.length ∧ Mate L i k
theorem iss_rows {G : Nat → Prop} {w : World} {v : Value} {L : List Iss} (h : IRow G w v L) (hp : 0 < L.length) : ∃ g cap, v = .slice (some ⟨g, 0, none⟩) L.length cap ∧ L.length ≤ cap ∧ g < w.heap.size ∧ ∀ i, i < L.length → ∃ c, IssIn (fun k => G k ∧ v.ownBlock ≠ some k) w (L.getD i default) c i ∧ ∀ j u, (issC (L.getD i default) c i)[j]? = some u → w.cell? ⟨g, i * 10 + j, none⟩ = some u := by
  obtain ⟨g, cap, _, hv, hcap, hgl, _, _⟩ := iss_cells h 0 hp
  refine ⟨g, cap, hv, hcap, hgl, fun i hi => ?_⟩
  obtain ⟨g', cap', c, hv', _, _, h1, h2⟩ := iss_cells h i hi
  rw [hv'] at hv
  simp only [Value.slice.injEq, Option.some.injEq, Addr.mk.injEq] at hv
  rw [hv.1.1] at h2
  exact ⟨c, h1, h2⟩

end Go.Proofs.Ytkkehbebaokdmaa
