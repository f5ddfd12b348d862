/- DigImpl LkImA: texts laid together. -/
import Derived.Test.YtkkehbebaokdmaaM19
import Derived.Test.YtkkehbebaokdmaaM15
import Derived.Test.YtkkehbebaokdmaaM10
import Derived.Test.YtkkehbebaokdmaaM18
import Derived.Test.YtkkehbebaokdmaaM11
import Derived.Laws.EntriesVeiled

/- What the program's digest.Sum comes to: slices.Grow, slices.Concat, filled, Sum. -/
namespace Go.Proofs.Ytkkehbebaokdmaa
open Go.RowKit
set_option maxRecDepth 20000

set_option maxRecDepth 10000 in
set_option maxHeartbeats 2000000 in
theorem ifilled (xs : List Int) (n : Nat) (hn : n ≤ 50000) (hxl : xs.length = n) (B : Nat) (v : Value) (w : World) (own : w.ownsRow B 5 1 v n (xs.map (Value.int .u8))) (hBw : B ≤ w.heap.size) :
    Calls Try.prog 56 #[v] w fun e w' => ∃ v', e = .returned v' ∧ v' ≠ .slice none 0 0 ∧ w'.ownsRow B 5 1 v' (16 * msgN n) ((msgL xs).map (Value.int .u8)) ∧ Below B w w' := by
  have HD := hide' (dig_end n)
  obtain ⟨x0, c0, rfl, s0, hc0, hcm0, nil0⟩ := own_slice hxl own
  go_enter Try.func56, Try.ntmps56
  go_wp2_with (at_builtin; refine wpList_app rfl _ _ rfl B _ n xs rfl (own.alloc _) (some ⟨w.heap.size, 0, none⟩) 1 1 [128] rfl ((At.one w 128).sat (by rw [World.size_alloc]; omega) rfl) (fun e => by cases e) (by omega) (by rw [World.size_alloc]; omega) ?_)
  intro v2 w2 own2 hb _
  have hv2 := own_not_nil own2 (by omega)
  have hB : Below B w w2 := ((Below.refl B w).alloc hBw _).trans hb
  have hz : B ≤ w2.heap.size := Nat.le_trans hBw hB.size
  clear hb own s0
  go_wp2_with fail
  go_loopw [0] (fun v wr => ∃ j : Nat, j ≤ digN n ∧ v ≠ .slice none 0 0 ∧ wr.ownsRow B 5 1 v (n + 1 + j) ((xs ++ [128] ++ List.replicate j 0).map (Value.int .u8)) ∧ B ≤ wr.heap.size ∧ Below B w wr) (fun v _ => 60000 - slLen v)
  case atStart => exact ⟨0, Nat.zero_le _, hv2, by simpa using own2, hz, hB⟩
  case round =>
    clear own2 hB hv2 hz
    obtain ⟨j, hj, hv, hown, hz, hB⟩ := hrel
    have hpn : digN n < 16 := Nat.mod_lt _ (by decide)
    have hlen : (xs ++ [128] ++ List.replicate j (0 : Int)).length = n + 1 + j := by simp [hxl]; omega
    obtain ⟨g, cap, rfl, hg, hgl, hgc, hcm, hat⟩ := own_bytes hlen hown hv
    by_cases hlt : j = digN n
    · have h0 : (((n + 1 + j) % 16 : Nat) = 8) := (HD.out j hj).2 hlt
      have h1 : ((n : Int) + 1 + (j : Int)) % 16 = 8 := by omega
      have HJ := hide' hlt
      clear hlt
      go_wp2_with fail
      clear h0 h1
      refine (put_row n 8 _ (by decide) (by decide)).mono ?_
      rintro e w4 ⟨rfl, row4, hb⟩
      have s4 := (At.put row4).sat row4.lt (putL_length _ _)
      replace hown := own_grown hown hb
      replace hB := hB.trans (hb.mono hz)
      replace hz := Nat.le_trans hz hb.size
      clear hb hat
      go_wp2_with (at_builtin; refine wpList_app rfl _ _ rfl B _ (n + 1 + j) _ rfl hown _ 8 8 _ rfl s4 (fun e => by cases e) (by omega) hz ?_)
      intro v5 w5 own5 hb _
      have hv5 := own_not_nil own5 (by omega)
      replace hB := hB.trans hb
      have own6 : w5.ownsRow B 5 1 v5 (16 * msgN n) ((msgL xs).map (Value.int .u8)) := by
        have e1 : n + 1 + j + 8 = 16 * msgN n := by rw [HJ.out]; exact msg_sixteen n
        rw [← e1, msgL, hxl, ← HJ.out]
        simpa using own5
      clear own5
      go_wp2
      go_ret
      exact ⟨_, rfl, hv5, own6, hB⟩
    · have h0 : ¬ (((n + 1 + j) % 16 : Nat) = 8) := fun e => hlt ((HD.out j hj).1 e)
      have h1 : ¬ ((n : Int) + 1 + (j : Int)) % 16 = 8 := by omega
      go_wp2_with (at_builtin; refine wpList_app rfl _ _ rfl B _ (n + 1 + j) _ rfl (hown.alloc _) (some ⟨wr.heap.size, 0, none⟩) 1 1 [0] rfl ((At.one wr 0).sat (by rw [World.size_alloc]; omega) rfl) (fun e => by cases e) (by omega) (by rw [World.size_alloc]; omega) ?_)
      intro v3 w3 own3 hb hv3'
      have hv3 := own_not_nil own3 (by omega)
      replace hb := ((Below.refl B wr).alloc hz _).trans hb
      replace hB := hB.trans hb
      replace hz := Nat.le_trans hz hb.size
      clear hb hown hv3'
      go_wp2
      go_roundw
      case rel =>
        refine ⟨j + 1, by omega, hv3, ?_, hz, hB⟩
        rw [← Nat.add_assoc]
        simpa [List.replicate_succ'] using own3
      case measure =>
        obtain ⟨_, ⟨e, _⟩ | ⟨g2, cap2, _, e, _⟩⟩ := own3
        · exact absurd e hv3
        · subst e
          simp [slLen]
          omega
set_option maxRecDepth 10000 in
set_option maxHeartbeats 2000000 in
theorem isum (P : List (List Int)) (x : Option Addr) (m c : Nat) (hm : m ≤ 1000) (hP : P.flatten.length ≤ 50000) (hc : m ≤ c) (hnil : x = none → m = 0 ∧ c = 0) (w : World) (hl : LAt w x m P) :
    Calls Try.prog 38 #[.slice x m c] w fun e w' => e = .returned (.agg #[.int .u64 (nv (sumP P.flatten).1), .int .u64 (nv (sumP P.flatten).2)]) ∧ Below w.heap.size w w' := by
  obtain ⟨t, HG⟩ : ∃ t, Hid (sumP P.flatten = t) := ⟨_, rfl⟩
  rw [HG.out]
  have hxb := hl.bytes
  have bR := (Box.new w 0 0).alloc (.cells #[.int .u64 7640891576956012808, .int .u64 13503953896175478587] 30)
  have b4 := Box.new (w.alloc (.cells #[.int .u64 0, .int .u64 0] 30)) 7640891576956012808 13503953896175478587
  have hB : Below w.heap.size w ((w.alloc (.cells #[.int .u64 0, .int .u64 0] 30)).alloc (.cells #[.int .u64 7640891576956012808, .int .u64 13503953896175478587] 30)) := by go_grown
  simp only [World.size_alloc] at b4
  go_enter Try.func38, Try.ntmps38
  go_wp2_with fail
  replace hl := hl.below hB
  generalize (w.alloc (.cells #[.int .u64 0, .int .u64 0] 30)).alloc (.cells #[.int .u64 7640891576956012808, .int .u64 13503953896175478587] 30) = W1 at *
  have hA1 := b4.lt
  refine (iconcat P x m c hm hP hc hnil _ hl).mono ?_
  rintro e w1 ⟨v1, rfl, own1, hb⟩
  replace bR := bR.grown hb
  replace b4 := b4.grown hb
  replace hB := hB.trans (hb.mono hB.size)
  have hz1 := hb.size
  clear hb hl
  obtain ⟨xs, HX⟩ : ∃ xs, Hid (P.flatten = xs) := ⟨_, rfl⟩
  rw [HX.out] at own1 hP HG hxb
  obtain ⟨n, HN⟩ : ∃ n, Hid (xs.length = n) := ⟨_, rfl⟩
  rw [HN.out] at own1 hP
  have hbw : Below w1.heap.size w1 w1 := Below.refl _ _
  obtain ⟨x1, c1, rfl, s1, _, _, _⟩ := own_slice HN.out own1
  go_wp2_with fail
  refine (ifilled xs n hP HN.out _ _ _ own1 hz1).mono ?_
  rintro e w2 ⟨v2, rfl, hv2, own2, hb⟩
  replace bR := bR.below hb (by omega)
  replace b4 := b4.below hb (by omega)
  replace hB := hB.trans (hb.mono (by omega))
  have hz2 := hb.size
  clear hb own1 s1
  have hlm := msgL_length xs
  rw [HN.out] at hlm
  obtain ⟨g, cap, rfl, hg, hgl, hgc, hcm, hat⟩ := own_bytes hlm own2 hv2
  obtain ⟨ys, HY⟩ : ∃ ys, Hid (msgL xs = ys) := ⟨_, rfl⟩
  have hyb : Bytes ys := by rw [← HY.out]; exact msgL_bytes hxb
  obtain ⟨L, HL⟩ : ∃ L, Hid (L = 16 * msgN n) := ⟨_, rfl⟩
  have hL5 : L ≤ 51000 := by
    have := HL.out
    have := msg_sixteen n
    unfold digN at this
    omega
  rw [HY.out] at hat hlm
  rw [← HL.out] at hlm hgc ⊢
  have HT : Hid (sumN iv ys (msgN n) = t) := by rw [← HG.out, sumP, HY.out, HN.out]; exact hide' rfl
  have hAg : g ≠ w.heap.size + 1 := by omega
  have hAR : w.heap.size ≠ w.heap.size + 1 := by omega
  clear own2 hv2 HG hz2 hz1 hA1 hg HX hxb hP
  go_wp2_with fail
  have hAz : w.heap.size ≤ w.heap.size + 1 := Nat.le_succ _
  generalize w.heap.size + 1 = A at *
  go_loopw [4] (fun v wr => ∃ (k q : Nat) (y : Option Addr), Hid (q = 16 * k) ∧ q ≤ L ∧ v = .slice y (L - q) (cap - q) ∧ Hid (q < L → y = some ⟨g, q, none⟩) ∧ Box wr A (nv (sumN iv ys k).1) (nv (sumN iv ys k).2) ∧ Box wr w.heap.size 0 0 ∧ At wr g 0 ys ∧ g < wr.heap.size ∧ Below w.heap.size w wr) (fun v _ => slLen v)
  case atStart => exact ⟨0, 0, _, rfl, Nat.zero_le _, rfl, fun _ => rfl, b4, bR, hat, hgl, hB⟩
  case round =>
    clear b4 bR hat hgl hB
    obtain ⟨k, q, y, HQ, hq, rfl, HYA, b4, bR, hat, hgl, hB⟩ := hrel
    by_cases hlt : q < L
    · obtain rfl := HYA.out hlt
      have hq16 : q + 16 ≤ L := by
        have := HQ.out
        have := HL.out
        omega
      have hat7 : At wr g q (six ys k) := by
        rw [HQ.out]
        exact six_at hat k (by have := HQ.out; omega)
      have hl16 := six_length ys k (by have := HQ.out; omega)
      have HS := hide' (sumN_succ iv ys k)
      obtain ⟨l, HLl⟩ : ∃ l, Hid (L - q = l) := ⟨_, rfl⟩
      obtain ⟨cc, HC⟩ : ∃ cc, Hid (cap - q = cc) := ⟨_, rfl⟩
      have hl1 : 16 ≤ l := by have := HLl.out; omega
      have hl2 : l ≤ 51000 := by have := HLl.out; omega
      have hcc : l ≤ cc := by have := HLl.out; have := HC.out; omega
      have hcm2 : cc ≤ maxLen := by have := HC.out; omega
      rw [HLl.out, HC.out]
      have hs1 := sl_head (some ⟨g, q, none⟩) l cc 16 (by omega)
      have hs2 := sl_tail (some ⟨g, q, none⟩) l cc 16 (by omega)
      go_wp2_with fail
      refine (wpair g q cc _ _ hl16 (by omega) hcm2 (six_bytes hyb k) hgl hat7).mono ?_
      rintro e w7 ⟨rfl, hb⟩
      replace b4 := b4.grown hb
      replace bR := bR.grown hb
      replace hat := hat.below hb hgl
      replace hgl := Nat.lt_of_lt_of_le hgl hb.size
      replace hB := hB.trans (hb.mono hB.size)
      clear hb hs1 hat7 hl16
      generalize pairOf (six ys k) = pm at *
      generalize sumN iv ys k = sk at *
      have hb : Below w7.heap.size w7 (w7.alloc (.cells #[.int .u64 (nv pm.1), .int .u64 (nv pm.2)] 30)) := (Below.refl _ _).alloc (Nat.le_refl _) _
      replace b4 := b4.grown hb
      replace bR := bR.grown hb
      replace hat := hat.below hb hgl
      replace hgl := Nat.lt_of_lt_of_le hgl hb.size
      replace hB := hB.trans (hb.mono hB.size)
      clear hb
      have k0 := b4.c0
      have k1 := b4.c1
      go_wp2_with fail
      refine (istep sk pm _).mono ?_
      rintro e w8 ⟨rfl, hb⟩
      replace b4 := b4.grown hb
      replace bR := bR.grown hb
      replace hat := hat.below hb hgl
      replace hgl := Nat.lt_of_lt_of_le hgl hb.size
      replace hB := hB.trans (hb.mono hB.size)
      clear hb k0 k1
      have k0 := b4.c0
      have k1 := b4.c1
      have k2 := b4.frozen 0
      have k3 := b4.frozen 1
      go_wp2
      go_roundw
      case rel =>
        refine ⟨k + 1, q + 16, (if cc = 16 then some ⟨g, q, none⟩ else some ⟨g, q + 16, none⟩), ?_, hq16, ?_, ?_, ?_, bR.set2 hAR _ _, (hat.setOther hAg _).setOther hAg _, by simpa using hgl, (hB.setCell hAz _).setCell hAz _⟩
        · have := HQ.out
          exact hide' (by omega)
        · rw [show L - (q + 16) = l - 16 from by have := HLl.out; omega, show cap - (q + 16) = cc - 16 from by have := HC.out; omega]
        · intro hlt'
          rw [if_neg (by have := HLl.out; omega)]
        · rw [HS.out]
          exact b4.put2 _ _
      case measure => simp [slLen]; omega
    · obtain rfl : q = L := by omega
      have hk : k = msgN n := by
        have := HQ.out
        have := HL.out
        omega
      rw [hk, HT.out] at b4
      rw [Nat.sub_self]
      have k0 := b4.c0
      have k1 := b4.c1
      have k2 := bR.frozen 0
      have k3 := bR.frozen 1
      have k4 := bR.c0
      have k5 := bR.c1
      go_wp2
      refine bodyPost_ret (v := .agg #[.int .u64 (nv t.1), .int .u64 (nv t.2)]) (by simp [results, Try.results38, go_sem, k4, k5]) rfl ⟨rfl, ?_⟩
      exact (hB.setCell (Nat.le_refl _) _).setCell (Nat.le_refl _) _
theorem sum_said : SumSaid := fun P x m c hm hP hc hnil w hl => isum P x m c hm hP hc hnil w hl
end Go.Proofs.Ytkkehbebaokdmaa


/- The landed lock: its five calls, in a block of its own; the nil ones. -/
namespace Go.Proofs.Ytkkehbebaokdmaa
open Go.RowKit
set_option maxRecDepth 20000

/-- Five calls in block b. -/
def FBox (w : World) (b : Nat) (a : Array Value) : Prop := w.heap[b]? = some (.cells a 62 (0, 0))
/-- The calls of a real lock, and of an ideal one on v. -/
def realC : Array Value := #[.func (.func 36) #[] #[], .func (.func 37) #[] #[], .func (.func 38) #[] #[], .nilFunc, .nilFunc]
def idealC (v : Value) : Array Value := #[.func (.func 31) #[v] #[], .func (.func 32) #[v] #[], .func (.func 33) #[v] #[], .func (.func 34) #[v] #[], .func (.func 35) #[v] #[]]
theorem FBox.lt {w : World} {b : Nat} {a : Array Value} (h : FBox w b a) : b < w.heap.size := by
  obtain ⟨hlt, _⟩ := Array.getElem?_eq_some_iff.1 h
  exact hlt
theorem FBox.cell {w : World} {b : Nat} {a : Array Value} (h : FBox w b a) (i : Nat) : w.cell? ⟨b, i, none⟩ = a[i]? := by unfold FBox at h; simp [World.cell?, h]
/-- A lock that was made. -/
def LInv (F : Nat → Prop) (w : World) (v : Value) (st : LSt) : Prop := ∃ b, v = .pointer (some ⟨b, 0, none⟩) ∧ ((st = ⟨false, [], []⟩ ∧ FBox w b realC ∧ ∀ k, F k ↔ k = b) ∨ (st.ideal = true ∧ ∃ u G, FBox w b (idealC u) ∧ PInv G w u (st.iss, st.sums) ∧ ¬ G b ∧ ∀ k, F k ↔ k = b ∨ G k))
theorem nilf_eq (T : TypeId) (h : (T = 48 ∨ T = 47) ∨ T = 43 ∨ T = 42 ∨ T = 39) (w : World) : Sem.run Try.prog (binOp .eql T .nilFunc .nilFunc) w = .ok (.bool true) w := by
  rcases h with (rfl | rfl) | rfl | rfl | rfl <;> rfl
theorem func_eq (T : TypeId) (f : Fn) (a : Array Value) (h : (T = 48 ∨ T = 47) ∨ T = 43 ∨ T = 42 ∨ T = 39) (w : World) : Sem.run Try.prog (binOp .eql T (.func f a #[]) .nilFunc) w = .ok (.bool false) w := by
  rcases h with (rfl | rfl) | rfl | rfl | rfl <;> rfl
theorem LInv.stay {F : Nat → Prop} {w w' : World} {v : Value} {st : LSt} (h : LInv F w v st) (hs : w.heap.size ≤ w'.heap.size) (hb : ∀ k, F k → w'.heap[k]? = w.heap[k]?) : LInv F w' v st := by
  obtain ⟨b, e, ⟨h1, h2, h3⟩ | ⟨h1, u, G, h2, h3, h4, h5⟩⟩ := h
  · exact ⟨b, e, Or.inl ⟨h1, (hb b ((h3 b).2 rfl)).trans h2, h3⟩⟩
  · exact ⟨b, e, Or.inr ⟨h1, u, G, (hb b ((h5 b).2 (Or.inl rfl))).trans h2, h3.stay hs (fun k hk => hb k ((h5 k).2 (Or.inr hk))), h4, h5⟩⟩
theorem LInv.lt {F : Nat → Prop} {w : World} {v : Value} {st : LSt} (h : LInv F w v st) : ∀ k, F k → k < w.heap.size := by
  obtain ⟨b, e, ⟨h1, h2, h3⟩ | ⟨h1, u, G, h2, h3, h4, h5⟩⟩ := h
  · intro k hk
    obtain rfl := (h3 k).1 hk
    exact h2.lt
  · intro k hk
    rcases (h5 k).1 hk with rfl | hk
    · exact h2.lt
    · exact h3.lt k hk
theorem FBox.not8 {w : World} {b : Nat} (h : FBox w b realC) (o : Nat) (u : Int) : w.cell? ⟨b, o, none⟩ ≠ some (.int .u8 u) := by
  rw [h.cell o]
  match o with
  | 0 | 1 | 2 | 3 | 4 => simp [realC]
  | o + 5 => simp [realC]
/-- A call on the oracle that stands behind an ideal lock. -/
theorem liftL {F G G' : Nat → Prop} {w W1 w2 w3 : World} {b : Nat} {u : Value} {st' : LSt} (hb : FBox W1 b (idealC u)) (hbl : b < w.heap.size) (hn : ¬ G b) (hG : ∀ k, G k → k < w.heap.size) (hF : ∀ k, F k ↔ k = b ∨ G k) (hi : st'.ideal = true) (hB : Below w.heap.size w W1) (hK : Kept PInv G W1 u G' w2 (st'.iss, st'.sums)) (hp : Off (fun k => w.heap.size ≤ k ∧ k < W1.heap.size) w2 w3) : KeptL LInv F w (.pointer (some ⟨b, 0, none⟩)) (fun k => k = b ∨ G' k) w3 st' := by
  have hz := hB.size
  have hnp : ∀ k, k = b ∨ G' k → ¬ (w.heap.size ≤ k ∧ k < W1.heap.size) := by
    rintro k (rfl | h) h2
    · omega
    · rcases hK.sub k h with h | h
      · have := hG k h
        omega
      · omega
  refine ⟨⟨b, rfl, Or.inr ⟨hi, u, G', off_block (off_block hb hK.off hn) hp (hnp b (Or.inl rfl)), hK.inv.stay hp.size (fun k hk => hp.block k (hK.inv.lt k hk) (hnp k (Or.inr hk))), fun h => (hK.sub b h).elim hn (fun h => by omega), fun _ => Iff.rfl⟩⟩, ?_, ?_⟩
  · rintro k (rfl | h)
    · exact Or.inl ((hF _).2 (Or.inl rfl))
    · exact (hK.sub k h).imp (fun h => (hF k).2 (Or.inr h)) (fun h => by omega)
  · exact ((Off.of_below hB).trans hK.off (fun k h => Or.inl ((hF k).2 (Or.inr h)))).trans hp (fun k h => Or.inr h.1)
theorem LInv.kept {F : Nat → Prop} {w w' : World} {v : Value} {st : LSt} (h : LInv F w v st) (hb : Below w.heap.size w w') : KeptL LInv F w v F w' st := ⟨h.stay hb.size (fun k hk => hb.block k (h.lt k hk)), fun _ h => Or.inl h, Off.of_below hb⟩
theorem ireal (w : World) : Calls Try.prog 23 #[] w fun e w' => ∃ v F, e = .returned v ∧ LInv F w' v ⟨false, [], []⟩ ∧ (∀ k, F k → w.heap.size ≤ k) ∧ Below w.heap.size w w' := by
  have hB : Below w.heap.size w (w.alloc (.cells realC 62)) := (Below.refl _ _).alloc (Nat.le_refl _) _
  have hN : FBox (w.alloc (.cells realC 62)) w.heap.size realC := heap_alloc_new _ _
  go_enter Try.func23, Try.ntmps23
  go_wp2
  go_ret
  exact ⟨_, fun k => k = w.heap.size, rfl, ⟨w.heap.size, rfl, Or.inl ⟨rfl, hN, fun _ => Iff.rfl⟩⟩, fun k hk => hk ▸ Nat.le_refl _, hB⟩
theorem iideal (hO : OrcIs PInv) (w : World) : Calls Try.prog 22 #[] w fun e w' => ∃ v F, e = .returned v ∧ LInv F w' v ⟨true, [], []⟩ ∧ (∀ k, F k → w.heap.size ≤ k) ∧ Below w.heap.size w w' := by
  have hmf : ∀ (fn : Fn) (first cap : Array Value) (w : World), (Instr.makeFunc fn first cap).run Try.prog w = .ok (.func fn first cap) w := fun _ _ _ _ => rfl
  go_enter Try.func22, Try.ntmps22
  go_wp2_with fail
  refine (hO.make _).mono ?_
  rintro e w1 ⟨u, G, rfl, hP, hG, hB⟩
  have hb1 : Below w1.heap.size w1 (w1.alloc (.cells (idealC u) 62)) := (Below.refl _ _).alloc (Nat.le_refl _) _
  have hN : FBox (w1.alloc (.cells (idealC u) 62)) w1.heap.size (idealC u) := heap_alloc_new _ _
  obtain ⟨a, rfl⟩ := hO.ptr hP
  go_wp2
  go_ret
  refine ⟨_, fun k => k = w1.heap.size ∨ G k, rfl, ⟨w1.heap.size, rfl, Or.inr ⟨rfl, _, G, hN, hP.stay hb1.size (fun k hk => hb1.block k (hP.lt k hk)), fun h => absurd (hP.lt _ h) (Nat.lt_irrefl _), fun _ => Iff.rfl⟩⟩, ?_, hB.trans (hb1.mono hB.size)⟩
  rintro k (rfl | h)
  · exact hB.size
  · exact hG k h
theorem itwice8 (hO : OrcIs PInv) (F : Nat → Prop) (v : Value) (st : LSt) (t : Bool) (hL : st.iss.length ≤ 10000) (ht : t = true ↔ Two st.iss) (w : World) (hI : LInv F w v st) :
    Calls Try.prog 21 #[v] w fun e w' => ∃ F', e = .returned (.bool t) ∧ KeptL LInv F w v F' w' st := by
  have hI' := hI
  obtain ⟨b, rfl, ⟨rfl, hb, hF⟩ | ⟨hi, u, G, hb, hP, hn, hF⟩⟩ := hI
  · have k0 : w.cell? ⟨b, 4, none⟩ = some .nilFunc := hb.cell 4
    have hq := nilf_eq 48 (Or.inl (Or.inl rfl))
    obtain rfl : t = false := by
      cases t
      · rfl
      · obtain ⟨i, k, _, h, _⟩ := ht.1 rfl
        exact absurd h (Nat.not_lt_zero _)
    go_enter Try.func21, Try.ntmps21
    go_wp2
    go_ret
    exact ⟨rfl, F, hI'.kept (Below.refl _ _)⟩
  · have k0 : w.cell? ⟨b, 4, none⟩ = some (.func (.func 35) #[u] #[]) := hb.cell 4
    have hq := func_eq 48 (.func 35) #[u] (Or.inl (Or.inl rfl))
    have hbl := hb.lt
    go_enter Try.func21, Try.ntmps21
    go_wp2_with fail
    refine (hO.twice G u (st.iss, st.sums) t hL ht _ hP).mono ?_
    rintro e w2 ⟨G2, rfl, hK⟩
    go_wp2
    go_ret
    exact ⟨_, rfl, liftL hb hbl hn hP.lt hF hi (Below.refl _ _) hK (Off.refl _ _)⟩
theorem iissued8 (hO : OrcIs PInv) (F : Nat → Prop) (v : Value) (st : LSt) (hL : st.iss.length ≤ 10000) (w : World) (hI : LInv F w v st) :
    Calls Try.prog 18 #[v] w fun e w' => ∃ z cz F', e = .returned (.slice z st.iss.length cz) ∧ KeptL LInv F w v F' w' st ∧ IRd w' z st.iss.length st.iss := by
  have hI' := hI
  obtain ⟨b, rfl, ⟨rfl, hb, hF⟩ | ⟨hi, u, G, hb, hP, hn, hF⟩⟩ := hI
  · have k0 : w.cell? ⟨b, 3, none⟩ = some .nilFunc := hb.cell 3
    have hq := nilf_eq 47 (Or.inl (Or.inr rfl))
    go_enter Try.func18, Try.ntmps18
    go_wp2
    go_ret
    exact ⟨none, ⟨0, rfl⟩, ⟨F, hI'.kept (Below.refl _ _)⟩, rfl, fun h => absurd h (Nat.lt_irrefl _)⟩
  · have k0 : w.cell? ⟨b, 3, none⟩ = some (.func (.func 34) #[u] #[]) := hb.cell 3
    have hq := func_eq 47 (.func 34) #[u] (Or.inl (Or.inr rfl))
    have hbl := hb.lt
    go_enter Try.func18, Try.ntmps18
    go_wp2_with fail
    refine (hO.issued G u (st.iss, st.sums) hL _ hP).mono ?_
    rintro e w2 ⟨z, cz, G2, rfl, hK, hR, _⟩
    go_wp2
    go_ret
    exact ⟨z, cz, _, rfl, liftL hb hbl hn hP.lt hF hi (Below.refl _ _) hK (Off.refl _ _), hR.rd⟩
set_option maxHeartbeats 1000000 in
theorem isum8 (hO : OrcIs PInv) (F : Nat → Prop) (v : Value) (st : LSt) (P : List (List Int)) (x : Option Addr) (m c : Nat) (hm : m ≤ 1000) (hp : P.flatten.length ≤ 50000) (hS : st.sums.length ≤ 10000) (fx : Fit x m c) (w : World) (hI : LInv F w v st) (hl : LIn (fun k => ¬ F k) w x m P) :
    Calls Try.prog 15 #[v, .slice x m c] w fun e w' => ∃ F', e = .returned (.agg #[.int .u64 (st.sumV P.flatten).1, .int .u64 (st.sumV P.flatten).2]) ∧ KeptL LInv F w v F' w' (st.sumS P.flatten) := by
  have hI' := hI
  have bR := Box.new w 0 0
  have hB : Below w.heap.size w (w.alloc (.cells #[.int .u64 0, .int .u64 0] 30)) := by go_grown
  obtain ⟨b, rfl, ⟨rfl, hb, hF⟩ | ⟨hi, u, G, hb, hP, hn, hF⟩⟩ := hI
  · have hbl := hb.lt
    have hbW : FBox (w.alloc (.cells #[.int .u64 0, .int .u64 0] 30)) b realC := off_block hb (Off.of_below (F := fun _ => False) hB) (fun h => h)
    have k0 : (w.alloc (.cells #[.int .u64 0, .int .u64 0] 30)).cell? ⟨b, 2, none⟩ = some (.func (.func 38) #[] #[]) := hbW.cell 2
    have hq := func_eq 43 (.func 38) #[] (Or.inr (Or.inl rfl))
    have hv : LSt.sumV ⟨false, [], []⟩ P.flatten = (nv (sumP P.flatten).1, nv (sumP P.flatten).2) := rfl
    have hs : LSt.sumS ⟨false, [], []⟩ P.flatten = ⟨false, [], []⟩ := rfl
    rw [hv, hs]
    clear hv hs
    replace hl := hl.off (Off.of_below (F := fun _ => False) hB) (fun _ _ _ h => h)
    go_enter Try.func15, Try.ntmps15
    go_wp2_with fail
    generalize w.alloc (.cells #[.int .u64 0, .int .u64 0] 30) = W1 at *
    refine (sum_said P x m c hm hp fx.1 fx.2.2 _ hl.lat).mono ?_
    rintro e w2 ⟨rfl, hb2⟩
    replace bR := bR.grown hb2
    replace hB := hB.trans (hb2.mono hB.size)
    have q0 := bR.c0
    have q1 := bR.c1
    have q2 := bR.frozen 0
    have q3 := bR.frozen 1
    go_wp2
    clear q0 q1 q2 q3
    replace bR := bR.put2 (nv (sumP P.flatten).1) (nv (sumP P.flatten).2)
    have r0 := bR.c0
    have r1 := bR.c1
    refine bodyPost_ret (v := .agg #[.int .u64 (nv (sumP P.flatten).1), .int .u64 (nv (sumP P.flatten).2)]) (by simp [results, Try.results15, go_sem, r0, r1]) rfl ⟨F, rfl, hI'.kept ?_⟩
    exact (((Off.of_below (F := fun _ => False) hB).setCell (p := ⟨w.heap.size, 0, none⟩) (Or.inr (Nat.le_refl _)) _).setCell (p := ⟨w.heap.size, 1, none⟩) (Or.inr (Nat.le_refl _)) _).none (fun _ h => h.elim)
  · have hbl := hb.lt
    have hbW : FBox (w.alloc (.cells #[.int .u64 0, .int .u64 0] 30)) b (idealC u) := off_block hb (Off.of_below (F := fun _ => False) hB) (fun h => h)
    have k0 : (w.alloc (.cells #[.int .u64 0, .int .u64 0] 30)).cell? ⟨b, 2, none⟩ = some (.func (.func 33) #[u] #[]) := hbW.cell 2
    have hq := func_eq 43 (.func 33) #[u] (Or.inr (Or.inl rfl))
    have hv : st.sumV P.flatten = (17216961135462248174, ((sumIx st.sums P.flatten : Nat) : Int)) := by rw [LSt.sumV, if_pos hi]
    have hs : st.sumS P.flatten = ⟨st.ideal, st.iss, sumSt st.sums P.flatten⟩ := by rw [LSt.sumS, if_pos hi]
    rw [hv, hs]
    clear hv hs
    have hGl := hP.lt
    replace hl := (hl.off (Off.of_below (F := fun _ => False) hB) (fun _ _ _ h => h)).mono (G' := fun k => ¬ G k) (fun k _ h hg => h ((hF k).2 (Or.inr hg)))
    replace hP := hP.below hB
    go_enter Try.func15, Try.ntmps15
    go_wp2_with fail
    have hWz : w.heap.size < (w.alloc (.cells #[.int .u64 0, .int .u64 0] 30)).heap.size := by simp
    generalize w.alloc (.cells #[.int .u64 0, .int .u64 0] 30) = W1 at *
    refine (hO.sum G u st.iss st.sums P x m c hm hp hS fx _ hP hl).mono ?_
    rintro e w2 ⟨G2, rfl, hK⟩
    replace bR : Box w2 w.heap.size 0 0 := off_block bR hK.off (fun h => by have := hGl _ h; omega)
    have q0 := bR.c0
    have q1 := bR.c1
    have q2 := bR.frozen 0
    have q3 := bR.frozen 1
    go_wp2
    clear q0 q1 q2 q3
    replace bR := bR.put2 17216961135462248174 ((sumIx st.sums P.flatten : Nat) : Int)
    have r0 := bR.c0
    have r1 := bR.c1
    refine bodyPost_ret (v := .agg #[.int .u64 17216961135462248174, .int .u64 ((sumIx st.sums P.flatten : Nat) : Int)]) (by simp [results, Try.results15, go_sem, r0, r1]) rfl ⟨_, rfl, liftL (st' := ⟨st.ideal, st.iss, sumSt st.sums P.flatten⟩) hbW hbl hn hGl hF hi hB hK ?_⟩
    exact ((Off.refl _ _).setCell (p := ⟨w.heap.size, 0, none⟩) (Or.inl ⟨Nat.le_refl _, hWz⟩) _).setCell (p := ⟨w.heap.size, 1, none⟩) (Or.inl ⟨Nat.le_refl _, hWz⟩) _
theorem isealNil8 (key : BitVec 64 × BitVec 64) (nn : Nn) (x y : Option Addr) (nx ny c d : Nat) (w : World) : Calls Try.prog 10 #[.pointer none, kv key, nvv nn, .slice x nx c, .slice y ny d] w fun e w' => (∃ z cz t1 t2, e = .returned (.tuple #[.agg #[.slice z 0 cz, .int .u64 t1, .int .u64 t2], .bool false])) ∧ Below w.heap.size w w' := by
  unfold kv nvv
  go_enter Try.func10, Try.ntmps10
  go_wp2
  refine bodyPost_ret (v := .tuple #[.agg #[.slice none 0 0, .int .u64 0, .int .u64 0], .bool false]) (by simp [results, Try.results10, go_sem]) rfl ⟨⟨_, _, _, _, rfl⟩, by go_grown⟩
theorem iopenNil8 (key : BitVec 64 × BitVec 64) (nn : Nn) (x y : Option Addr) (nx ny c d : Nat) (t1 t2 : Int) (w : World) : Calls Try.prog 13 #[.pointer none, kv key, nvv nn, .slice x nx c, .agg #[.slice y ny d, .int .u64 t1, .int .u64 t2]] w fun e w' => (∃ z cz, e = .returned (.tuple #[.slice z 0 cz, .bool false])) ∧ Below w.heap.size w w' := by
  unfold kv nvv
  go_enter Try.func13, Try.ntmps13
  go_wp2
  go_ret2
  exact ⟨⟨_, _, rfl⟩, by go_grown⟩
theorem isumNil8 (x : Option Addr) (m c : Nat) (w : World) : Calls Try.prog 15 #[.pointer none, .slice x m c] w fun e w' => e = .returned (.agg #[.int .u64 0, .int .u64 0]) ∧ Below w.heap.size w w' := by
  go_enter Try.func15, Try.ntmps15
  go_wp2
  refine bodyPost_ret (v := .agg #[.int .u64 0, .int .u64 0]) (by simp [results, Try.results15, go_sem]) rfl ⟨rfl, by go_grown⟩
theorem iissuedNil8 (w : World) : Calls Try.prog 18 #[.pointer none] w fun e w' => (∃ z cz, e = .returned (.slice z 0 cz)) ∧ Below w.heap.size w w' := by
  go_enter Try.func18, Try.ntmps18
  go_wp2
  go_ret
  exact ⟨⟨_, _, rfl⟩, Below.refl _ _⟩
theorem itwiceNil8 (w : World) : Calls Try.prog 21 #[.pointer none] w fun e w' => e = .returned (.bool false) ∧ Below w.heap.size w w' := by
  go_enter Try.func21, Try.ntmps21
  go_wp2
  go_ret
  exact ⟨rfl, Below.refl _ _⟩
end Go.Proofs.Ytkkehbebaokdmaa
