/- DigImpl LkImA FloImpl: texts laid together. -/
import Derived.Test.YtkbhkgfchiacbaaM18
import Derived.Test.YtkbhkgfchiacbaaM14
import Derived.Test.YtkbhkgfchiacbaaM07
import Derived.Test.YtkbhkgfchiacbaaM17
import Derived.Test.YtkbhkgfchiacbaaM08
import Derived.Laws.EntriesVeiled
import Derived.Test.YtkbhkgfchiacbaaM05

/- What the program's digest.Sum comes to: slices.Grow, slices.Concat, filled, Sum. -/
namespace Go.Proofs.Ytkbhkgfchiacbaa
open Go.RowKit
set_option maxRecDepth 20000

set_option maxRecDepth 10000 in
set_option maxHeartbeats 2000000 in
theorem ifilled (xs : List Int) (n : Nat) (hn : n ≤ 50000) (hxl : xs.length = n) (B : Nat) (v : Value) (w : World) (own : w.ownsRow B 5 1 v n (xs.map (Value.int .u8))) (hBw : B ≤ w.heap.size) :
    Calls Try.prog 47 #[v] w fun e w' => ∃ v', e = .returned v' ∧ v' ≠ .slice none 0 0 ∧ w'.ownsRow B 5 1 v' (16 * msgN n) ((msgL xs).map (Value.int .u8)) ∧ Below B w w' := by
  have HD := hide' (dig_end n)
  obtain ⟨x0, c0, rfl, s0, hc0, hcm0, nil0⟩ := own_slice hxl own
  go_enter Try.func47, Try.ntmps47
  go_wp2_with (at_builtin; refine wpList_app rfl _ _ rfl B _ n xs rfl (own.alloc _) (some ⟨w.heap.size, 0, none⟩) 1 1 [128] rfl ((At.one w 128).sat (by rw [World.size_alloc]; omega) rfl) (fun e => by cases e) (by omega) (by rw [World.size_alloc]; omega) ?_)
  intro v2 w2 own2 hb _
  have hv2 := own_not_nil own2 (by omega)
  have hB : Below B w w2 := ((Below.refl B w).alloc hBw _).trans hb
  have hz : B ≤ w2.heap.size := Nat.le_trans hBw hB.size
  clear hb own s0
  go_wp2_with fail
  go_loopw [0] (fun v wr => ∃ j : Nat, j ≤ digN n ∧ v ≠ .slice none 0 0 ∧ wr.ownsRow B 5 1 v (n + 1 + j) ((xs ++ [128] ++ List.replicate j 0).map (Value.int .u8)) ∧ B ≤ wr.heap.size ∧ Below B w wr) (fun v _ => 60000 - slLen v)
  case atStart => exact ⟨0, Nat.zero_le _, hv2, by simpa using own2, hz, hB⟩
  case round =>
    clear own2 hB hv2 hz
    obtain ⟨j, hj, hv, hown, hz, hB⟩ := hrel
    have hpn : digN n < 16 := Nat.mod_lt _ (by decide)
    have hlen : (xs ++ [128] ++ List.replicate j (0 : Int)).length = n + 1 + j := by simp [hxl]; omega
    obtain ⟨g, cap, rfl, hg, hgl, hgc, hcm, hat⟩ := own_bytes hlen hown hv
    by_cases hlt : j = digN n
    · have h0 : (((n + 1 + j) % 16 : Nat) = 8) := (HD.out j hj).2 hlt
      have h1 : ((n : Int) + 1 + (j : Int)) % 16 = 8 := by omega
      have HJ := hide' hlt
      clear hlt
      go_wp2_with fail
      clear h0 h1
      refine (put_row n 8 _ (by decide) (by decide)).mono ?_
      rintro e w4 ⟨rfl, row4, hb⟩
      have s4 := (At.put row4).sat row4.lt (putL_length _ _)
      replace hown := own_grown hown hb
      replace hB := hB.trans (hb.mono hz)
      replace hz := Nat.le_trans hz hb.size
      clear hb hat
      go_wp2_with (at_builtin; refine wpList_app rfl _ _ rfl B _ (n + 1 + j) _ rfl hown _ 8 8 _ rfl s4 (fun e => by cases e) (by omega) hz ?_)
      intro v5 w5 own5 hb _
      have hv5 := own_not_nil own5 (by omega)
      replace hB := hB.trans hb
      have own6 : w5.ownsRow B 5 1 v5 (16 * msgN n) ((msgL xs).map (Value.int .u8)) := by
        have e1 : n + 1 + j + 8 = 16 * msgN n := by rw [HJ.out]; exact msg_sixteen n
        rw [← e1, msgL, hxl, ← HJ.out]
        simpa using own5
      clear own5
      go_wp2
      go_ret
      exact ⟨_, rfl, hv5, own6, hB⟩
    · have h0 : ¬ (((n + 1 + j) % 16 : Nat) = 8) := fun e => hlt ((HD.out j hj).1 e)
      have h1 : ¬ ((n : Int) + 1 + (j : Int)) % 16 = 8 := by omega
      go_wp2_with (at_builtin; refine wpList_app rfl _ _ rfl B _ (n + 1 + j) _ rfl (hown.alloc _) (some ⟨wr.heap.size, 0, none⟩) 1 1 [0] rfl ((At.one wr 0).sat (by rw [World.size_alloc]; omega) rfl) (fun e => by cases e) (by omega) (by rw [World.size_alloc]; omega) ?_)
      intro v3 w3 own3 hb hv3'
      have hv3 := own_not_nil own3 (by omega)
      replace hb := ((Below.refl B wr).alloc hz _).trans hb
      replace hB := hB.trans hb
      replace hz := Nat.le_trans hz hb.size
      clear hb hown hv3'
      go_wp2
      go_roundw
      case rel =>
        refine ⟨j + 1, by omega, hv3, ?_, hz, hB⟩
        rw [← Nat.add_assoc]
        simpa [List.replicate_succ'] using own3
      case measure =>
        obtain ⟨_, ⟨e, _⟩ | ⟨g2, cap2, _, e, _⟩⟩ := own3
        · exact absurd e hv3
        · subst e
          simp [slLen]
          omega
set_option maxRecDepth 10000 in
set_option maxHeartbeats 2000000 in
theorem isum (P : List (List Int)) (x : Option Addr) (m c : Nat) (hm : m ≤ 1000) (hP : P.flatten.length ≤ 50000) (hc : m ≤ c) (hnil : x = none → m = 0 ∧ c = 0) (w : World) (hl : LAt w x m P) :
    Calls Try.prog 32 #[.slice x m c] w fun e w' => e = .returned (.agg #[.int .u64 (nv (sumP P.flatten).1), .int .u64 (nv (sumP P.flatten).2)]) ∧ Below w.heap.size w w' := by
  obtain ⟨t, HG⟩ : ∃ t, Hid (sumP P.flatten = t) := ⟨_, rfl⟩
  rw [HG.out]
  have hxb := hl.bytes
  have bR := (Box.new w 0 0).alloc (.cells #[.int .u64 7640891576956012808, .int .u64 13503953896175478587] 34)
  have b4 := Box.new (w.alloc (.cells #[.int .u64 0, .int .u64 0] 34)) 7640891576956012808 13503953896175478587
  have hB : Below w.heap.size w ((w.alloc (.cells #[.int .u64 0, .int .u64 0] 34)).alloc (.cells #[.int .u64 7640891576956012808, .int .u64 13503953896175478587] 34)) := by go_grown
  simp only [World.size_alloc] at b4
  go_enter Try.func32, Try.ntmps32
  go_wp2_with fail
  replace hl := hl.below hB
  generalize (w.alloc (.cells #[.int .u64 0, .int .u64 0] 34)).alloc (.cells #[.int .u64 7640891576956012808, .int .u64 13503953896175478587] 34) = W1 at *
  have hA1 := b4.lt
  refine (iconcat P x m c hm hP hc hnil _ hl).mono ?_
  rintro e w1 ⟨v1, rfl, own1, hb⟩
  replace bR := bR.grown hb
  replace b4 := b4.grown hb
  replace hB := hB.trans (hb.mono hB.size)
  have hz1 := hb.size
  clear hb hl
  obtain ⟨xs, HX⟩ : ∃ xs, Hid (P.flatten = xs) := ⟨_, rfl⟩
  rw [HX.out] at own1 hP HG hxb
  obtain ⟨n, HN⟩ : ∃ n, Hid (xs.length = n) := ⟨_, rfl⟩
  rw [HN.out] at own1 hP
  have hbw : Below w1.heap.size w1 w1 := Below.refl _ _
  obtain ⟨x1, c1, rfl, s1, _, _, _⟩ := own_slice HN.out own1
  go_wp2_with fail
  refine (ifilled xs n hP HN.out _ _ _ own1 hz1).mono ?_
  rintro e w2 ⟨v2, rfl, hv2, own2, hb⟩
  replace bR := bR.below hb (by omega)
  replace b4 := b4.below hb (by omega)
  replace hB := hB.trans (hb.mono (by omega))
  have hz2 := hb.size
  clear hb own1 s1
  have hlm := msgL_length xs
  rw [HN.out] at hlm
  obtain ⟨g, cap, rfl, hg, hgl, hgc, hcm, hat⟩ := own_bytes hlm own2 hv2
  obtain ⟨ys, HY⟩ : ∃ ys, Hid (msgL xs = ys) := ⟨_, rfl⟩
  have hyb : Bytes ys := by rw [← HY.out]; exact msgL_bytes hxb
  obtain ⟨L, HL⟩ : ∃ L, Hid (L = 16 * msgN n) := ⟨_, rfl⟩
  have hL5 : L ≤ 51000 := by
    have := HL.out
    have := msg_sixteen n
    unfold digN at this
    omega
  rw [HY.out] at hat hlm
  rw [← HL.out] at hlm hgc ⊢
  have HT : Hid (sumN iv ys (msgN n) = t) := by rw [← HG.out, sumP, HY.out, HN.out]; exact hide' rfl
  have hAg : g ≠ w.heap.size + 1 := by omega
  have hAR : w.heap.size ≠ w.heap.size + 1 := by omega
  clear own2 hv2 HG hz2 hz1 hA1 hg HX hxb hP
  go_wp2_with fail
  have hAz : w.heap.size ≤ w.heap.size + 1 := Nat.le_succ _
  generalize w.heap.size + 1 = A at *
  go_loopw [4] (fun v wr => ∃ (k q : Nat) (y : Option Addr), Hid (q = 16 * k) ∧ q ≤ L ∧ v = .slice y (L - q) (cap - q) ∧ Hid (q < L → y = some ⟨g, q, none⟩) ∧ Box wr A (nv (sumN iv ys k).1) (nv (sumN iv ys k).2) ∧ Box wr w.heap.size 0 0 ∧ At wr g 0 ys ∧ g < wr.heap.size ∧ Below w.heap.size w wr) (fun v _ => slLen v)
  case atStart => exact ⟨0, 0, _, rfl, Nat.zero_le _, rfl, fun _ => rfl, b4, bR, hat, hgl, hB⟩
  case round =>
    clear b4 bR hat hgl hB
    obtain ⟨k, q, y, HQ, hq, rfl, HYA, b4, bR, hat, hgl, hB⟩ := hrel
    by_cases hlt : q < L
    · obtain rfl := HYA.out hlt
      have hq16 : q + 16 ≤ L := by
        have := HQ.out
        have := HL.out
        omega
      have hat7 : At wr g q (six ys k) := by
        rw [HQ.out]
        exact six_at hat k (by have := HQ.out; omega)
      have hl16 := six_length ys k (by have := HQ.out; omega)
      have HS := hide' (sumN_succ iv ys k)
      obtain ⟨l, HLl⟩ : ∃ l, Hid (L - q = l) := ⟨_, rfl⟩
      obtain ⟨cc, HC⟩ : ∃ cc, Hid (cap - q = cc) := ⟨_, rfl⟩
      have hl1 : 16 ≤ l := by have := HLl.out; omega
      have hl2 : l ≤ 51000 := by have := HLl.out; omega
      have hcc : l ≤ cc := by have := HLl.out; have := HC.out; omega
      have hcm2 : cc ≤ maxLen := by have := HC.out; omega
      rw [HLl.out, HC.out]
      have hs1 := sl_head (some ⟨g, q, none⟩) l cc 16 (by omega)
      have hs2 := sl_tail (some ⟨g, q, none⟩) l cc 16 (by omega)
      go_wp2_with fail
      refine (wpair g q cc _ _ hl16 (by omega) hcm2 (six_bytes hyb k) hgl hat7).mono ?_
      rintro e w7 ⟨rfl, hb⟩
      replace b4 := b4.grown hb
      replace bR := bR.grown hb
      replace hat := hat.below hb hgl
      replace hgl := Nat.lt_of_lt_of_le hgl hb.size
      replace hB := hB.trans (hb.mono hB.size)
      clear hb hs1 hat7 hl16
      generalize pairOf (six ys k) = pm at *
      generalize sumN iv ys k = sk at *
      have hb : Below w7.heap.size w7 (w7.alloc (.cells #[.int .u64 (nv pm.1), .int .u64 (nv pm.2)] 34)) := (Below.refl _ _).alloc (Nat.le_refl _) _
      replace b4 := b4.grown hb
      replace bR := bR.grown hb
      replace hat := hat.below hb hgl
      replace hgl := Nat.lt_of_lt_of_le hgl hb.size
      replace hB := hB.trans (hb.mono hB.size)
      clear hb
      have k0 := b4.c0
      have k1 := b4.c1
      go_wp2_with fail
      refine (istep sk pm _).mono ?_
      rintro e w8 ⟨rfl, hb⟩
      replace b4 := b4.grown hb
      replace bR := bR.grown hb
      replace hat := hat.below hb hgl
      replace hgl := Nat.lt_of_lt_of_le hgl hb.size
      replace hB := hB.trans (hb.mono hB.size)
      clear hb k0 k1
      have k0 := b4.c0
      have k1 := b4.c1
      have k2 := b4.frozen 0
      have k3 := b4.frozen 1
      go_wp2
      go_roundw
      case rel =>
        refine ⟨k + 1, q + 16, (if cc = 16 then some ⟨g, q, none⟩ else some ⟨g, q + 16, none⟩), ?_, hq16, ?_, ?_, ?_, bR.set2 hAR _ _, (hat.setOther hAg _).setOther hAg _, by simpa using hgl, (hB.setCell hAz _).setCell hAz _⟩
        · have := HQ.out
          exact hide' (by omega)
        · rw [show L - (q + 16) = l - 16 from by have := HLl.out; omega, show cap - (q + 16) = cc - 16 from by have := HC.out; omega]
        · intro hlt'
          rw [if_neg (by have := HLl.out; omega)]
        · rw [HS.out]
          exact b4.put2 _ _
      case measure => simp [slLen]; omega
    · obtain rfl : q = L := by omega
      have hk : k = msgN n := by
        have := HQ.out
        have := HL.out
        omega
      rw [hk, HT.out] at b4
      rw [Nat.sub_self]
      have k0 := b4.c0
      have k1 := b4.c1
      have k2 := bR.frozen 0
      have k3 := bR.frozen 1
      have k4 := bR.c0
      have k5 := bR.c1
      go_wp2
      refine bodyPost_ret (v := .agg #[.int .u64 (nv t.1), .int .u64 (nv t.2)]) (by simp [results, Try.results32, go_sem, k4, k5]) rfl ⟨rfl, ?_⟩
      exact (hB.setCell (Nat.le_refl _) _).setCell (Nat.le_refl _) _
theorem sum_said : SumSaid := fun P x m c hm hP hc hnil w hl => isum P x m c hm hP hc hnil w hl
end Go.Proofs.Ytkbhkgfchiacbaa


/- The landed lock: its five calls, in a block of its own; the nil ones. -/
namespace Go.Proofs.Ytkbhkgfchiacbaa
open Go.RowKit
set_option maxRecDepth 20000

/-- Five calls in block b. -/
def FBox (w : World) (b : Nat) (a : Array Value) : Prop := w.heap[b]? = some (.cells a 67 (0, 0))
/-- The calls of a real lock, and of an ideal one on v. -/
def realC : Array Value := #[.func (.func 30) #[] #[], .func (.func 31) #[] #[], .func (.func 32) #[] #[], .nilFunc, .nilFunc]
def idealC (v : Value) : Array Value := #[.func (.func 34) #[v] #[], .func (.func 35) #[v] #[], .func (.func 36) #[v] #[], .func (.func 37) #[v] #[], .func (.func 38) #[v] #[]]
theorem FBox.lt {w : World} {b : Nat} {a : Array Value} (h : FBox w b a) : b < w.heap.size := by
  obtain ⟨hlt, _⟩ := Array.getElem?_eq_some_iff.1 h
  exact hlt
theorem FBox.cell {w : World} {b : Nat} {a : Array Value} (h : FBox w b a) (i : Nat) : w.cell? ⟨b, i, none⟩ = a[i]? := by unfold FBox at h; simp [World.cell?, h]
/-- A lock that was made. -/
def LInv (F : Nat → Prop) (w : World) (v : Value) (st : LSt) : Prop := ∃ b, v = .pointer (some ⟨b, 0, none⟩) ∧ ((st = ⟨false, [], []⟩ ∧ FBox w b realC ∧ ∀ k, F k ↔ k = b) ∨ (st.ideal = true ∧ ∃ u G, FBox w b (idealC u) ∧ PInv G w u (st.iss, st.sums) ∧ ¬ G b ∧ ∀ k, F k ↔ k = b ∨ G k))
theorem nilf_eq (T : TypeId) (h : (T = 38 ∨ T = 65) ∨ T = 64 ∨ T = 63 ∨ T = 62) (w : World) : Sem.run Try.prog (binOp .eql T .nilFunc .nilFunc) w = .ok (.bool true) w := by
  rcases h with (rfl | rfl) | rfl | rfl | rfl <;> rfl
theorem func_eq (T : TypeId) (f : Fn) (a : Array Value) (h : (T = 38 ∨ T = 65) ∨ T = 64 ∨ T = 63 ∨ T = 62) (w : World) : Sem.run Try.prog (binOp .eql T (.func f a #[]) .nilFunc) w = .ok (.bool false) w := by
  rcases h with (rfl | rfl) | rfl | rfl | rfl <;> rfl
theorem LInv.stay {F : Nat → Prop} {w w' : World} {v : Value} {st : LSt} (h : LInv F w v st) (hs : w.heap.size ≤ w'.heap.size) (hb : ∀ k, F k → w'.heap[k]? = w.heap[k]?) : LInv F w' v st := by
  obtain ⟨b, e, ⟨h1, h2, h3⟩ | ⟨h1, u, G, h2, h3, h4, h5⟩⟩ := h
  · exact ⟨b, e, Or.inl ⟨h1, (hb b ((h3 b).2 rfl)).trans h2, h3⟩⟩
  · exact ⟨b, e, Or.inr ⟨h1, u, G, (hb b ((h5 b).2 (Or.inl rfl))).trans h2, h3.stay hs (fun k hk => hb k ((h5 k).2 (Or.inr hk))), h4, h5⟩⟩
theorem LInv.lt {F : Nat → Prop} {w : World} {v : Value} {st : LSt} (h : LInv F w v st) : ∀ k, F k → k < w.heap.size := by
  obtain ⟨b, e, ⟨h1, h2, h3⟩ | ⟨h1, u, G, h2, h3, h4, h5⟩⟩ := h
  · intro k hk
    obtain rfl := (h3 k).1 hk
    exact h2.lt
  · intro k hk
    rcases (h5 k).1 hk with rfl | hk
    · exact h2.lt
    · exact h3.lt k hk
theorem FBox.not8 {w : World} {b : Nat} (h : FBox w b realC) (o : Nat) (u : Int) : w.cell? ⟨b, o, none⟩ ≠ some (.int .u8 u) := by
  rw [h.cell o]
  match o with
  | 0 | 1 | 2 | 3 | 4 => simp [realC]
  | o + 5 => simp [realC]
/-- A call on the oracle that stands behind an ideal lock. -/
theorem liftL {F G G' : Nat → Prop} {w W1 w2 w3 : World} {b : Nat} {u : Value} {st' : LSt} (hb : FBox W1 b (idealC u)) (hbl : b < w.heap.size) (hn : ¬ G b) (hG : ∀ k, G k → k < w.heap.size) (hF : ∀ k, F k ↔ k = b ∨ G k) (hi : st'.ideal = true) (hB : Below w.heap.size w W1) (hK : Kept PInv G W1 u G' w2 (st'.iss, st'.sums)) (hp : Off (fun k => w.heap.size ≤ k ∧ k < W1.heap.size) w2 w3) : KeptL LInv F w (.pointer (some ⟨b, 0, none⟩)) (fun k => k = b ∨ G' k) w3 st' := by
  have hz := hB.size
  have hnp : ∀ k, k = b ∨ G' k → ¬ (w.heap.size ≤ k ∧ k < W1.heap.size) := by
    rintro k (rfl | h) h2
    · omega
    · rcases hK.sub k h with h | h
      · have := hG k h
        omega
      · omega
  refine ⟨⟨b, rfl, Or.inr ⟨hi, u, G', off_block (off_block hb hK.off hn) hp (hnp b (Or.inl rfl)), hK.inv.stay hp.size (fun k hk => hp.block k (hK.inv.lt k hk) (hnp k (Or.inr hk))), fun h => (hK.sub b h).elim hn (fun h => by omega), fun _ => Iff.rfl⟩⟩, ?_, ?_⟩
  · rintro k (rfl | h)
    · exact Or.inl ((hF _).2 (Or.inl rfl))
    · exact (hK.sub k h).imp (fun h => (hF k).2 (Or.inr h)) (fun h => by omega)
  · exact ((Off.of_below hB).trans hK.off (fun k h => Or.inl ((hF k).2 (Or.inr h)))).trans hp (fun k h => Or.inr h.1)
theorem LInv.kept {F : Nat → Prop} {w w' : World} {v : Value} {st : LSt} (h : LInv F w v st) (hb : Below w.heap.size w w') : KeptL LInv F w v F w' st := ⟨h.stay hb.size (fun k hk => hb.block k (h.lt k hk)), fun _ h => Or.inl h, Off.of_below hb⟩
theorem ireal (w : World) : Calls Try.prog 21 #[] w fun e w' => ∃ v F, e = .returned v ∧ LInv F w' v ⟨false, [], []⟩ ∧ (∀ k, F k → w.heap.size ≤ k) ∧ Below w.heap.size w w' := by
  have hB : Below w.heap.size w (w.alloc (.cells realC 67)) := (Below.refl _ _).alloc (Nat.le_refl _) _
  have hN : FBox (w.alloc (.cells realC 67)) w.heap.size realC := heap_alloc_new _ _
  go_enter Try.func21, Try.ntmps21
  go_wp2
  go_ret
  exact ⟨_, fun k => k = w.heap.size, rfl, ⟨w.heap.size, rfl, Or.inl ⟨rfl, hN, fun _ => Iff.rfl⟩⟩, fun k hk => hk ▸ Nat.le_refl _, hB⟩
theorem iideal (hO : OrcIs PInv) (w : World) : Calls Try.prog 22 #[] w fun e w' => ∃ v F, e = .returned v ∧ LInv F w' v ⟨true, [], []⟩ ∧ (∀ k, F k → w.heap.size ≤ k) ∧ Below w.heap.size w w' := by
  have hmf : ∀ (fn : Fn) (first cap : Array Value) (w : World), (Instr.makeFunc fn first cap).run Try.prog w = .ok (.func fn first cap) w := fun _ _ _ _ => rfl
  go_enter Try.func22, Try.ntmps22
  go_wp2_with fail
  refine (hO.make _).mono ?_
  rintro e w1 ⟨u, G, rfl, hP, hG, hB⟩
  have hb1 : Below w1.heap.size w1 (w1.alloc (.cells (idealC u) 67)) := (Below.refl _ _).alloc (Nat.le_refl _) _
  have hN : FBox (w1.alloc (.cells (idealC u) 67)) w1.heap.size (idealC u) := heap_alloc_new _ _
  obtain ⟨a, rfl⟩ := hO.ptr hP
  go_wp2
  go_ret
  refine ⟨_, fun k => k = w1.heap.size ∨ G k, rfl, ⟨w1.heap.size, rfl, Or.inr ⟨rfl, _, G, hN, hP.stay hb1.size (fun k hk => hb1.block k (hP.lt k hk)), fun h => absurd (hP.lt _ h) (Nat.lt_irrefl _), fun _ => Iff.rfl⟩⟩, ?_, hB.trans (hb1.mono hB.size)⟩
  rintro k (rfl | h)
  · exact hB.size
  · exact hG k h
set_option maxHeartbeats 1000000 in
theorem isum8 (hO : OrcIs PInv) (F : Nat → Prop) (v : Value) (st : LSt) (P : List (List Int)) (x : Option Addr) (m c : Nat) (hm : m ≤ 1000) (hp : P.flatten.length ≤ 50000) (hS : st.sums.length ≤ 10000) (fx : Fit x m c) (w : World) (hI : LInv F w v st) (hl : LIn (fun k => ¬ F k) w x m P) :
    Calls Try.prog 39 #[v, .slice x m c] w fun e w' => ∃ F', e = .returned (.agg #[.int .u64 (st.sumV P.flatten).1, .int .u64 (st.sumV P.flatten).2]) ∧ KeptL LInv F w v F' w' (st.sumS P.flatten) := by
  have hI' := hI
  have bR := Box.new w 0 0
  have hB : Below w.heap.size w (w.alloc (.cells #[.int .u64 0, .int .u64 0] 34)) := by go_grown
  obtain ⟨b, rfl, ⟨rfl, hb, hF⟩ | ⟨hi, u, G, hb, hP, hn, hF⟩⟩ := hI
  · have hbl := hb.lt
    have hbW : FBox (w.alloc (.cells #[.int .u64 0, .int .u64 0] 34)) b realC := off_block hb (Off.of_below (F := fun _ => False) hB) (fun h => h)
    have k0 : (w.alloc (.cells #[.int .u64 0, .int .u64 0] 34)).cell? ⟨b, 2, none⟩ = some (.func (.func 32) #[] #[]) := hbW.cell 2
    have hq := func_eq 64 (.func 32) #[] (Or.inr (Or.inl rfl))
    have hv : LSt.sumV ⟨false, [], []⟩ P.flatten = (nv (sumP P.flatten).1, nv (sumP P.flatten).2) := rfl
    have hs : LSt.sumS ⟨false, [], []⟩ P.flatten = ⟨false, [], []⟩ := rfl
    rw [hv, hs]
    clear hv hs
    replace hl := hl.off (Off.of_below (F := fun _ => False) hB) (fun _ _ _ h => h)
    go_enter Try.func39, Try.ntmps39
    go_wp2_with fail
    generalize w.alloc (.cells #[.int .u64 0, .int .u64 0] 34) = W1 at *
    refine (sum_said P x m c hm hp fx.1 fx.2.2 _ hl.lat).mono ?_
    rintro e w2 ⟨rfl, hb2⟩
    replace bR := bR.grown hb2
    replace hB := hB.trans (hb2.mono hB.size)
    have q0 := bR.c0
    have q1 := bR.c1
    have q2 := bR.frozen 0
    have q3 := bR.frozen 1
    go_wp2
    clear q0 q1 q2 q3
    replace bR := bR.put2 (nv (sumP P.flatten).1) (nv (sumP P.flatten).2)
    have r0 := bR.c0
    have r1 := bR.c1
    refine bodyPost_ret (v := .agg #[.int .u64 (nv (sumP P.flatten).1), .int .u64 (nv (sumP P.flatten).2)]) (by simp [results, Try.results39, go_sem, r0, r1]) rfl ⟨F, rfl, hI'.kept ?_⟩
    exact (((Off.of_below (F := fun _ => False) hB).setCell (p := ⟨w.heap.size, 0, none⟩) (Or.inr (Nat.le_refl _)) _).setCell (p := ⟨w.heap.size, 1, none⟩) (Or.inr (Nat.le_refl _)) _).none (fun _ h => h.elim)
  · have hbl := hb.lt
    have hbW : FBox (w.alloc (.cells #[.int .u64 0, .int .u64 0] 34)) b (idealC u) := off_block hb (Off.of_below (F := fun _ => False) hB) (fun h => h)
    have k0 : (w.alloc (.cells #[.int .u64 0, .int .u64 0] 34)).cell? ⟨b, 2, none⟩ = some (.func (.func 36) #[u] #[]) := hbW.cell 2
    have hq := func_eq 64 (.func 36) #[u] (Or.inr (Or.inl rfl))
    have hv : st.sumV P.flatten = (17216961135462248174, ((sumIx st.sums P.flatten : Nat) : Int)) := by rw [LSt.sumV, if_pos hi]
    have hs : st.sumS P.flatten = ⟨st.ideal, st.iss, sumSt st.sums P.flatten⟩ := by rw [LSt.sumS, if_pos hi]
    rw [hv, hs]
    clear hv hs
    have hGl := hP.lt
    replace hl := (hl.off (Off.of_below (F := fun _ => False) hB) (fun _ _ _ h => h)).mono (G' := fun k => ¬ G k) (fun k _ h hg => h ((hF k).2 (Or.inr hg)))
    replace hP := hP.below hB
    go_enter Try.func39, Try.ntmps39
    go_wp2_with fail
    have hWz : w.heap.size < (w.alloc (.cells #[.int .u64 0, .int .u64 0] 34)).heap.size := by simp
    generalize w.alloc (.cells #[.int .u64 0, .int .u64 0] 34) = W1 at *
    refine (hO.sum G u st.iss st.sums P x m c hm hp hS fx _ hP hl).mono ?_
    rintro e w2 ⟨G2, rfl, hK⟩
    replace bR : Box w2 w.heap.size 0 0 := off_block bR hK.off (fun h => by have := hGl _ h; omega)
    have q0 := bR.c0
    have q1 := bR.c1
    have q2 := bR.frozen 0
    have q3 := bR.frozen 1
    go_wp2
    clear q0 q1 q2 q3
    replace bR := bR.put2 17216961135462248174 ((sumIx st.sums P.flatten : Nat) : Int)
    have r0 := bR.c0
    have r1 := bR.c1
    refine bodyPost_ret (v := .agg #[.int .u64 17216961135462248174, .int .u64 ((sumIx st.sums P.flatten : Nat) : Int)]) (by simp [results, Try.results39, go_sem, r0, r1]) rfl ⟨_, rfl, liftL (st' := ⟨st.ideal, st.iss, sumSt st.sums P.flatten⟩) hbW hbl hn hGl hF hi hB hK ?_⟩
    exact ((Off.refl _ _).setCell (p := ⟨w.heap.size, 0, none⟩) (Or.inl ⟨Nat.le_refl _, hWz⟩) _).setCell (p := ⟨w.heap.size, 1, none⟩) (Or.inl ⟨Nat.le_refl _, hWz⟩) _
theorem isumNil8 (x : Option Addr) (m c : Nat) (w : World) : Calls Try.prog 39 #[.pointer none, .slice x m c] w fun e w' => e = .returned (.agg #[.int .u64 0, .int .u64 0]) ∧ Below w.heap.size w w' := by
  go_enter Try.func39, Try.ntmps39
  go_wp2
  refine bodyPost_ret (v := .agg #[.int .u64 0, .int .u64 0]) (by simp [results, Try.results39, go_sem]) rfl ⟨rfl, by go_grown⟩
end Go.Proofs.Ytkbhkgfchiacbaa


/- What the program's flow comes to. -/
namespace Go.Proofs.Ytkbhkgfchiacbaa
open Go.RowKit
set_option maxRecDepth 20000

theorem enc_p (k p : BitVec 64 × BitVec 64) (p1 p2 : Int) (hp1 : nv p.1 = p1) (hp2 : nv p.2 = p2) (w : World) :
    Calls Try.prog 60 #[.agg #[.int .u64 (nv k.1), .int .u64 (nv k.2)], .agg #[.int .u64 p1, .int .u64 p2]] w fun e w' => e = .returned (.agg #[.int .u64 (nv (enc k p).1), .int .u64 (nv (enc k p).2)]) ∧ Below w.heap.size w w' := by
  subst hp1 hp2
  exact enc_said k p w

set_option maxHeartbeats 1000000 in
theorem sub_said : SubSaid := by
  intro key n w
  have h1 := nv32_range n.1
  have h2 := nv32_range n.2.1
  go_enter Try.func44, Try.ntmps44
  go_wp2_with fail
  rw [nonP_or2 n]
  have bR := Box.new ((w.alloc (.cells #[.int .u64 (nv key.1), .int .u64 (nv key.2)] 34)).alloc (.cells #[.int .u32 (nv32 n.1), .int .u32 (nv32 n.2.1), .int .u64 (nv n.2.2)] 74)) 0 0
  have hB : Below w.heap.size w (((w.alloc (.cells #[.int .u64 (nv key.1), .int .u64 (nv key.2)] 34)).alloc (.cells #[.int .u32 (nv32 n.1), .int .u32 (nv32 n.2.1), .int .u64 (nv n.2.2)] 74)).alloc (.cells #[.int .u64 0, .int .u64 0] 34)) := by go_grown
  simp only [World.size_alloc] at bR
  refine (enc_said key (nonP n) _).mono ?_
  rintro e w1 ⟨rfl, hb1⟩
  replace bR := bR.grown hb1
  replace hB := hB.trans (hb1.mono hB.size)
  clear hb1 h1 h2
  have g0 := bR.c0
  have g1 := bR.c1
  have g2 := bR.frozen 0
  have g3 := bR.frozen 1
  go_wp2
  refine bodyPost_ret (v := .agg #[.int .u64 (nv (subP key n).1), .int .u64 (nv (subP key n).2)]) (by simp [results, Try.results44, go_sem, g0, g1, subP]) rfl ⟨rfl, ?_⟩
  exact (hB.setCell (by simp only; omega) _).setCell (by simp only; omega) _

set_option maxHeartbeats 400000 in
theorem iflow_out (sub : BitVec 64 × BitVec 64) (n : Int) (h : n < 0 ∨ 4000 < n) (w : World) : Calls Try.prog 62 #[.agg #[.int .u64 (nv sub.1), .int .u64 (nv sub.2)], .int .i64 n] w fun e w' => e = .returned (.slice none 0 0) ∧ Below w.heap.size w w' := by
  by_cases h1 : n < 0
  · clear h
    go_enter Try.func62, Try.ntmps62
    go_wp2
    go_ret
    exact ⟨rfl, by go_grown⟩
  · have h2 : 4000 < n := by omega
    clear h
    go_enter Try.func62, Try.ntmps62
    go_wp2
    go_ret
    exact ⟨rfl, by go_grown⟩

/-- A row of n bytes whose first k sixteens are filled. -/
def fillL (sub : BitVec 64 × BitVec 64) (n k : Nat) : List Int := (blk sub k ++ List.replicate n 0).take n
theorem fillL_length (sub : BitVec 64 × BitVec 64) (n k : Nat) : (fillL sub n k).length = n := by simp [fillL]
theorem fillL_zero (sub : BitVec 64 × BitVec 64) (n : Nat) : fillL sub n 0 = List.replicate n 0 := by simp [fillL, blk]
theorem fillL_done (sub : BitVec 64 × BitVec 64) (n k : Nat) (h : n ≤ 16 * k) : fillL sub n k = flowL sub n := by
  rw [fillL, List.take_append_of_le_length (by rw [blk_length]; exact h), flowL_of sub n k h]
theorem fillL_step (sub : BitVec 64 × BitVec 64) (n k : Nat) (h : 16 * k < n) : splice (fillL sub n k) (16 * k) ((blk1 sub (k + 1)).take (n - 16 * k)) = fillL sub n (k + 1) := by
  have hA := blk_length sub k
  have hB := blk1_length sub (k + 1)
  rw [splice, fillL, fillL, blk_succ]
  generalize blk sub k = A at *
  generalize blk1 sub (k + 1) = B at *
  apply List.ext_getElem?
  intro i
  simp only [List.getElem?_append, List.getElem?_take, List.getElem?_drop, List.getElem?_replicate, List.length_take, List.length_append, List.length_replicate, hA, hB]
  repeat' split
  all_goals first | rfl | omega | (congr 1; omega) | (simp; omega)
set_option maxHeartbeats 400000 in
theorem ipiece (sub : BitVec 64 × BitVec 64) (k : Nat) (hk : k < 900) (i : Int) (hi : i = k) (w : World) : Calls Try.prog 72 #[.agg #[.int .u64 (nv sub.1), .int .u64 (nv sub.2)], .int .i64 i] w fun e w' => ∃ g, e = .returned (.slice (some ⟨g, 0, none⟩) 16 16) ∧ w.heap.size ≤ g ∧ Row w' g (blk1 sub (k + 1)) ∧ Below w.heap.size w w' := by
  subst hi
  go_enter Try.func72, Try.ntmps72
  go_wp2_with fail
  have hB : Below w.heap.size w (w.alloc (.cells #[.int .u64 (nv sub.1), .int .u64 (nv sub.2)] 34)) := by go_grown
  refine (enc_p sub (BitVec.ofNat 64 (k + 1), 0#64) _ _ (nv_small (k + 1) (by omega)) rfl _).mono ?_
  rintro e w1 ⟨rfl, hb1⟩
  replace hB := hB.trans (hb1.mono hB.size)
  clear hb1
  go_wp2_with fail
  refine (wbytes _ _).mono ?_
  rintro e w2 ⟨g2, rfl, hg2, row2, hb2⟩
  have hle := hB.size
  replace hB := hB.trans (hb2.mono hB.size)
  clear hb2
  go_wp2
  go_ret
  exact ⟨g2, rfl, by omega, row2, hB⟩

set_option maxRecDepth 10000 in
set_option maxHeartbeats 1000000 in
theorem iflow_in (sub : BitVec 64 × BitVec 64) (n : Nat) (hn : n ≤ 4000) (w : World) : Calls Try.prog 62 #[.agg #[.int .u64 (nv sub.1), .int .u64 (nv sub.2)], .int .i64 n] w fun e w' => ∃ x c, e = .returned (.slice x n c) ∧ SAt w' x n (flowL sub n) ∧ n ≤ c ∧ c ≤ maxLen ∧ (x = none → n = 0 ∧ c = 0) ∧ Below w.heap.size w w' := by
  have hmk := run_make_row' (P := Try.prog) 40 5 (.int .u8 0) 1 Try.underlying40 Try.info5 rfl .i64 .i64 n (by omega) (by omega)
  go_enter Try.func62, Try.ntmps62
  go_wp2
  clear hmk
  have b0 := (Box.new w (nv sub.1) (nv sub.2)).alloc (.cells (madeCells #[.int .u8 0] n) 5)
  have hR := Row.made (w.alloc (.cells #[.int .u64 (nv sub.1), .int .u64 (nv sub.2)] 34)) n
  have hB : Below w.heap.size w ((w.alloc (.cells #[.int .u64 (nv sub.1), .int .u64 (nv sub.2)] 34)).alloc (.cells (madeCells #[.int .u8 0] n) 5)) := by go_grown
  simp only [World.size_alloc] at hR
  go_loopw [6] (fun i wr => ∃ k m : Nat, m = 16 * k ∧ m < n + 16 ∧ i = .int .i64 (m : Int) ∧ Row wr (w.heap.size + 1) (fillL sub n k) ∧ Box wr w.heap.size (nv sub.1) (nv sub.2) ∧ Below w.heap.size w wr) (fun i _ => 5000 - (intOf i).toNat)
  case atStart => exact ⟨0, 0, rfl, by omega, rfl, by rw [fillL_zero]; exact hR, b0, hB⟩
  case round =>
    clear b0 hB hR
    obtain ⟨k, m, hm, hk, rfl, hR, b0, hB⟩ := hrel
    by_cases hlt : m < n
    · have hS := fillL_step sub n k (by omega)
      rw [← hm] at hS
      replace hS := hide' hS
      have c1 : (m : Int) ≤ (n : Int) := by omega
      have c2 : ¬ n = m := by omega
      replace hm := hide' hm
      go_wp2_with fail
      have hsz := hR.lt
      refine wp_region_held_drew (S := fun w' => Below (w.heap.size + 1) wr w') (by kernel_rfl) (Below.refl _ _).drew (fun hHeld => ?_)
      refine takeM 0 20 5 rfl rfl rfl (by kernel_rfl) (by kernel_rfl) (by kernel_rfl) (fun _ _ _ h => h) (by rfl) hHeld rfl ?_
      simp only [List.set_cons_succ, List.set_cons_zero]
      refine takeM 1 21 6 rfl rfl rfl (by kernel_rfl) (by kernel_rfl) (by kernel_rfl) (fun _ _ _ h => h) (by rfl) hHeld rfl ?_
      simp only [List.set_cons_succ, List.set_cons_zero]
      refine takeL 2 22 (v := ?_) rfl rfl (by kernel_rfl) (by kernel_rfl) (by kernel_rfl) (fun _ _ _ h => h) (by rfl) hHeld (fun w hSw => ?_) ?_
      rotate_left 1
      · (try dsimp only at hSw)
        clear hSw
        go_simp
        try with_reducible rfl
      simp only [List.set_cons_succ, List.set_cons_zero]
      refine takeL 3 23 (v := ?_) rfl rfl (by kernel_rfl) (by kernel_rfl) (by kernel_rfl) (fun _ _ _ h => h) (by rfl) hHeld (fun w hSw => ?_) ?_
      rotate_left 1
      · (try dsimp only at hSw)
        have e0_ := (b0.below hSw (Nat.lt_succ_self _)).c0
        have e1_ := (b0.below hSw (Nat.lt_succ_self _)).c1
        clear hSw
        go_simp
        try with_reducible rfl
      simp only [List.set_cons_succ, List.set_cons_zero]
      refine takeM 4 24 6 rfl rfl rfl (by kernel_rfl) (by kernel_rfl) (by kernel_rfl) (fun _ _ _ h => h) (by rfl) hHeld rfl ?_
      simp only [List.set_cons_succ, List.set_cons_zero]
      refine takeL 5 25 (v := ?_) rfl rfl (by kernel_rfl) (by kernel_rfl) (by kernel_rfl) (fun _ _ _ h => h) (by rfl) hHeld (fun w hSw => ?_) ?_
      rotate_left 1
      · (try dsimp only at hSw)
        clear hSw
        go_simp
        try with_reducible rfl
      simp only [List.set_cons_succ, List.set_cons_zero]
      refine onlyL 6 rfl (by kernel_rfl) (by rfl) (fun K hK => ?_)
      go_wp2_with fail
      refine (ipiece sub k (by have := hm.out; omega) _ (by have := hm.out; go_num <;> omega) _).mono ?_
      rintro e w1 ⟨g2, rfl, hg2, row2, hb⟩
      replace hb := (Below.refl _ _).drew.trans hb
      replace hR := hR.below hb hsz
      have hb2 : Below (w.heap.size + 1) wr w1 := hb.mono (Nat.le_of_lt hsz)
      refine hK.out _ _ hb2 (fun hHeld => ?_)
      clear hK K
      refine onlyL 7 rfl (by kernel_rfl) (by rfl) (fun K hK => ?_)
      refine wp_copy2 rfl (.tmp 22) (.tmp 26) rfl (w.heap.size + 1) m (n - m) _ 16 g2 0 16 rfl rfl _ _ hR (blk1_length _ _) row2.at (by rw [fillL_length]; omega) (w.heap.size + 1) wr hb2 (Nat.le_refl _) (fun w2 hR3 hb3 => ?_)
      rw [hS.out] at hR3
      refine hK.out _ _ hb3 (fun hHeld => ?_)
      clear hK K hb2 hb row2 hR
      refine wpAnyH_done (by kernel_rfl) ?_ _
      go_wp2
      go_roundw
      case rel => exact ⟨k + 1, m + 16, by have := hm.out; omega, by omega, by go_num, hR3, b0.below hb3 (Nat.lt_succ_self _), hB.trans (hb3.mono (Nat.le_succ _))⟩
      case measure => simp [intOf]; omega
    · go_wp2
      go_ret
      refine ⟨_, n, rfl, ?_, Nat.le_refl _, by unfold maxLen; omega, (fun h => by cases h), hB⟩
      rw [← fillL_done sub n k (by omega)]
      exact hR.sat (fillL_length _ _ _)

theorem flow_said : FlowSaid := by
  intro sub n w
  by_cases h : n < 0 ∨ 4000 < n
  · exact (iflow_out sub n h w).mono fun _ _ ⟨he, hb⟩ => ⟨⟨none, 0, 0, he, by rw [flowI_out sub n h]; exact SAt.none _ _, Nat.le_refl _, Nat.zero_le _, fun _ => ⟨rfl, rfl⟩⟩, hb⟩
  · obtain ⟨m, rfl⟩ : ∃ m : Nat, n = m := ⟨n.toNat, by omega⟩
    rw [flowI_in sub m (by omega)]
    exact (iflow_in sub m (by omega) w).mono fun _ _ ⟨x, c, he, hs, hc, hm, hn, hb⟩ => ⟨⟨x, m, c, he, hs, hc, hm, hn⟩, hb⟩


set_option maxRecDepth 10000 in
set_option maxHeartbeats 2000000 in
theorem xor_said : XorSaid := by
  intro xs ys x y n m c d hn hm _ _ bx by_ w hx hy
  obtain ⟨l, hl⟩ : ∃ l, l = min n m := ⟨_, rfl⟩
  have hlx : (xorL xs ys).length = l := by rw [xorL_length, hx.1, hy.1, hl]
  have hmk := run_make_row' (P := Try.prog) 40 5 (.int .u8 0) 1 Try.underlying40 Try.info5 rfl .i64 .i64 l (by omega) (by omega)
  have hmin : (if m < n then (m : Int) else (n : Int)) = (l : Int) := by split <;> omega
  have hl2 : l ≤ 50000 := by omega
  have hln : l ≤ n := by omega
  have hlm : l ≤ m := by omega
  have HX := hide' hlx
  clear hl hlx
  go_enter Try.func61, Try.ntmps61
  go_wp2
  clear hmk
  go_loopw [15] (fun i wr => ∃ k : Nat, k ≤ l ∧ i = .int .i64 (k : Int) ∧ wr.rowIs w.heap.size 5 l (fun j => if j < k then .int .u8 ((xorL xs ys).getD j 0) else .int .u8 0) ∧ Below w.heap.size w wr) (fun i _ => l - (intOf i).toNat)
  case atStart => exact ⟨0, Nat.zero_le _, rfl, (World.rowIs_made _ _ _ _).congr (fun i hi => by simp), (Below.refl _ _).alloc (Nat.le_refl _) _⟩
  case round =>
    obtain ⟨k, hk, rfl, hrow, hB⟩ := hrel
    by_cases hlt : k < l
    · obtain ⟨ba, oa, rfl, hba, ata⟩ := hx.2 (by omega)
      obtain ⟨bb, ob, rfl, hbb, atb⟩ := hy.2 (by omega)
      have h1 : k < n := by omega
      have h2 : k < m := by omega
      have HS := hide' (xorL_get xs ys k (by rw [hx.1]; exact h1) (by rw [hy.1]; exact h2))
      have ca := (hB.cell (p := ⟨ba, oa + k, none⟩) hba).trans (ata k (by rw [hx.1]; exact h1))
      have cb := (hB.cell (p := ⟨bb, ob + k, none⟩) hbb).trans (atb k (by rw [hy.1]; exact h2))
      clear ata atb hx hy
      generalize xs.getD k 0 = u at *
      generalize ys.getD k 0 = v0 at *
      go_wp2_with fail
      refine wp_region_held_drew (S := fun w' => Below w.heap.size wr w') (by kernel_rfl) (Below.refl _ _).drew (fun hHeld => ?_)
      refine takeM 0 18 5 rfl rfl rfl (by kernel_rfl) (by kernel_rfl) (by kernel_rfl) (fun _ _ _ h => h) (by rfl) hHeld rfl ?_
      simp only [List.set_cons_succ, List.set_cons_zero]
      refine takeM 1 19 6 rfl rfl rfl (by kernel_rfl) (by kernel_rfl) (by kernel_rfl) (fun _ _ _ h => h) (by rfl) hHeld rfl ?_
      simp only [List.set_cons_succ, List.set_cons_zero]
      refine takeM 2 20 0 rfl rfl rfl (by kernel_rfl) (by kernel_rfl) (by kernel_rfl) (fun _ _ _ h => h) (by rfl) hHeld rfl ?_
      simp only [List.set_cons_succ, List.set_cons_zero]
      refine takeM 3 21 6 rfl rfl rfl (by kernel_rfl) (by kernel_rfl) (by kernel_rfl) (fun _ _ _ h => h) (by rfl) hHeld rfl ?_
      simp only [List.set_cons_succ, List.set_cons_zero]
      refine takeL 4 22 (v := ?_) rfl rfl (by kernel_rfl) (by kernel_rfl) (by kernel_rfl) (fun _ _ _ h => h) (by rfl) hHeld (fun w hSw => ?_) ?_
      rotate_left 1
      · (try dsimp only at hSw)
        clear hSw
        go_simp
        try with_reducible rfl
      simp only [List.set_cons_succ, List.set_cons_zero]
      refine takeL 5 23 (v := ?_) rfl rfl (by kernel_rfl) (by kernel_rfl) (by kernel_rfl) (fun _ _ _ h => h) (by rfl) hHeld (fun w hSw => ?_) ?_
      rotate_left 1
      · (try dsimp only at hSw)
        have e0_ := (hSw.cell (p := ⟨ba, oa + k, none⟩) hba).trans ca
        clear hSw
        go_simp
        try with_reducible rfl
      simp only [List.set_cons_succ, List.set_cons_zero]
      refine takeM 6 24 1 rfl rfl rfl (by kernel_rfl) (by kernel_rfl) (by kernel_rfl) (fun _ _ _ h => h) (by rfl) hHeld rfl ?_
      simp only [List.set_cons_succ, List.set_cons_zero]
      refine takeM 7 25 6 rfl rfl rfl (by kernel_rfl) (by kernel_rfl) (by kernel_rfl) (fun _ _ _ h => h) (by rfl) hHeld rfl ?_
      simp only [List.set_cons_succ, List.set_cons_zero]
      refine takeL 8 26 (v := ?_) rfl rfl (by kernel_rfl) (by kernel_rfl) (by kernel_rfl) (fun _ _ _ h => h) (by rfl) hHeld (fun w hSw => ?_) ?_
      rotate_left 1
      · (try dsimp only at hSw)
        clear hSw
        go_simp
        try with_reducible rfl
      simp only [List.set_cons_succ, List.set_cons_zero]
      refine takeL 9 27 (v := ?_) rfl rfl (by kernel_rfl) (by kernel_rfl) (by kernel_rfl) (fun _ _ _ h => h) (by rfl) hHeld (fun w hSw => ?_) ?_
      rotate_left 1
      · (try dsimp only at hSw)
        have e0_ := (hSw.cell (p := ⟨bb, ob + k, none⟩) hbb).trans cb
        clear hSw
        go_simp
        try with_reducible rfl
      simp only [List.set_cons_succ, List.set_cons_zero]
      refine takeL 10 28 (v := ?_) rfl rfl (by kernel_rfl) (by kernel_rfl) (by kernel_rfl) (fun _ _ _ h => h) (by rfl) hHeld (fun w hSw => ?_) ?_
      rotate_left 1
      · (try dsimp only at hSw)
        clear hSw
        go_simp
        try with_reducible rfl
      simp only [List.set_cons_succ, List.set_cons_zero]
      refine takeL 11 29 (v := ?_) rfl rfl (by kernel_rfl) (by kernel_rfl) (by kernel_rfl) (fun _ _ _ h => h) (by rfl) hHeld (fun w hSw => ?_) ?_
      rotate_left 1
      · (try dsimp only at hSw)
        clear hSw
        go_simp
        try with_reducible rfl
      simp only [List.set_cons_succ, List.set_cons_zero]
      refine onlyL 12 rfl (by kernel_rfl) (by rfl) (fun K hK => ?_)
      have f0 : wr.drew.frozen? ⟨w.heap.size, k, none⟩ = false := hrow.frozen k
      have f1 : wr.drew.cell? ⟨w.heap.size, k, none⟩ = some (.int .u8 0) := (hrow.cell (i := k) (by omega)).trans (by simp)
      go_wp2_with fail
      have hBn := (Below.refl w.heap.size wr).drew.setCell (p := ⟨w.heap.size, k, none⟩) (Nat.le_refl _) (.int .u8 (xor8 u v0))
      refine hK.out _ _ hBn (fun hHeld => ?_)
      clear hK K f0 f1
      refine wpAnyH_done (by kernel_rfl) ?_ _
      go_wp2
      go_roundw
      case rel =>
        refine ⟨k + 1, hlt, by go_num, (hrow.drew.set k _).congr (fun j hj => ?_), hB.trans hBn⟩
        by_cases e : j = k
        · subst e
          have e2 := HS.out
          rw [List.getElem?_eq_some_iff] at e2
          obtain ⟨h, e2⟩ := e2
          simp [h, e2, xor8]
        · by_cases e' : j < k
          · have e2 : j < k + 1 := by omega
            simp [e, e', e2]
          · have e2 : ¬ j < k + 1 := by omega
            simp [e, e', e2]
      case measure => simp [intOf]; omega
    · obtain rfl : k = l := by omega
      go_wp2
      go_ret
      refine ⟨⟨_, k, k, rfl, ⟨HX.out, fun _ => ⟨w.heap.size, 0, rfl, hrow.lt, fun i hi => ?_⟩⟩, Nat.le_refl _, by unfold maxLen; omega, fun h => by cases h⟩, hB⟩
      rw [Nat.zero_add, hrow.cell (i := i) (by rw [← HX.out]; exact hi)]
      have hik : i < k := by rw [← HX.out]; exact hi
      simp [hik]
end Go.Proofs.Ytkbhkgfchiacbaa
