/- The landed keys: a seed, a power, the highest that is gone, the current one. -/
import Derived.Test.YtcfbdbjonmjplaaKeyOfI
import Derived.Test.YtcfbdbjonmjplaaPowImpl
namespace Go.Proofs.Ytcfbdbjonmjplaa
open Go.RowKit
set_option maxRecDepth 20000

/-- Keys at block b, of which g is the highest that is gone. -/
def KyBox (p : Option Addr) (w : World) (b : Nat) (s : BitVec 64) (g cur : Nat) : Prop := CBox 57 w b #[.int .u64 (nv s), .pointer p, .int .u32 (g : Int), .int .u32 (cur : Int)]
def KyInv (p : Option Addr) (F : Nat → Prop) (w : World) (v : Value) (st : KSt) : Prop := ∃ b g, Hid (g + 1 = st.2.1) ∧ v = .pointer (some ⟨b, 0, none⟩) ∧ KyBox p w b st.1 g st.2.2 ∧ ∀ k, F k ↔ k = b
theorem kybase (p : Option Addr) : ObjBase (KyInv p) := by
  refine ⟨?_, ?_, ?_⟩
  · rintro F w w' v _ ⟨b, g, hg, rfl, h, hF⟩ _ hb
    exact ⟨b, g, hg, rfl, (hb b ((hF b).2 rfl)).trans h, hF⟩
  · rintro F w v _ ⟨b, g, hg, rfl, h, hF⟩ k hk
    rw [(hF k).1 hk]
    exact CBox.lt h
  · rintro F w v _ ⟨b, g, _, rfl, _, _⟩
    exact ⟨_, rfl⟩
theorem kymake (p : Option Addr) (s : BitVec 64) (w : World) : Calls Try.prog 8 #[.int .u64 (nv s), .pointer p] w fun e w' => ∃ v F, e = .returned v ∧ KyInv p F w' v (s, 1, 1) ∧ (∀ k, F k → w.heap.size ≤ k) ∧ Below w.heap.size w w' := by
  have hN := CBox.new 57 w #[.int .u64 (nv s), .pointer p, .int .u32 0, .int .u32 1]
  have hA : Below w.heap.size w (w.alloc (.cells #[.int .u64 (nv s), .pointer p, .int .u32 0, .int .u32 1] 57)) := (Below.refl _ _).alloc (Nat.le_refl _) _
  go_enter Try.func8, Try.ntmps8
  go_wp2
  go_ret
  exact ⟨_, fun k => k = w.heap.size, rfl, ⟨w.heap.size, 0, hide' rfl, rfl, hN, fun _ => Iff.rfl⟩, fun k hk => hk ▸ Nat.le_refl _, hA⟩
set_option maxHeartbeats 1000000 in
/-- The inner function spend: a step of its power. -/
theorem kyspend (p : Option Addr) (G : Nat → Prop) (b : Nat) (s : BitVec 64) (g cur : Nat) (q : PSt) (hq : q.2.2 ≤ 1000000) (w : World) (h : KyBox p w b s g cur) (hP : PwInv G w (.pointer p) q) :
    Calls Try.prog 27 #[.pointer (some ⟨b, 0, none⟩)] w fun e w' => ∃ G', e = .returned (.bool (pSpend q).1) ∧ KeptG PwInv G w (.pointer p) G' w' (pSpend q).2 := by
  have hsp := pow_is.spend G (.pointer p) q hq w hP
  obtain ⟨r, q', hs⟩ : ∃ r q', pSpend q = (r, q') := ⟨_, _, rfl⟩
  rw [hs] at hsp ⊢
  dsimp only at hsp ⊢
  have c0 : w.cell? ⟨b, 1, none⟩ = some (.pointer p) := CBox.cell h 1
  clear hq hs h
  go_enter Try.func27, Try.ntmps27
  go_wp2_with fail
  refine hsp.mono ?_
  rintro e w1 ⟨G', rfl, hK⟩
  clear c0 hsp
  go_wp2
  go_ret
  first | exact ⟨rfl, G', hK⟩ | exact ⟨G', rfl, hK⟩
theorem kyspendNil (w : World) : Calls Try.prog 27 #[.pointer none] w fun e w' => e = .returned (.bool false) ∧ Below w.heap.size w w' := by
  go_enter Try.func27, Try.ntmps27
  go_wp2
  go_ret
  exact ⟨rfl, Below.refl _ _⟩
set_option maxHeartbeats 1000000 in
theorem kyadd (p : Option Addr) (F G : Nat → Prop) (v : Value) (st : KSt) (q : PSt) (hok : KOk st) (hq : q.2.2 ≤ 1000000) (w : World) (hI : KyInv p F w v st) (hP : PwInv G w (.pointer p) q) (hd : ∀ k, F k → ¬ G k) :
    Calls Try.prog 10 #[v] w fun e w' => ∃ F' G', e = .returned (.bool (pSpend q).1) ∧ KeptD (KyInv p) PwInv F G w v (.pointer p) F' G' w' (if (pSpend q).1 = true then kAdd st else st) (pSpend q).2 := by
  obtain ⟨s, lo, cur⟩ := st
  obtain ⟨b, g, hg, rfl, h, hF⟩ := hI
  dsimp only at h hg
  have hsp := kyspend p G b s g cur q hq w h hP
  obtain ⟨r, q', hs⟩ : ∃ r q', pSpend q = (r, q') := ⟨_, _, rfl⟩
  rw [hs] at hsp ⊢
  dsimp only at hsp ⊢
  have hw := u32_up hok.2.2
  dsimp only at hw
  have hlt : ∀ k, F k → k < w.heap.size := fun k hk => (hF k).1 hk ▸ CBox.lt h
  have hFb := hide' ((hF b).2 rfl)
  have hF' := hide' hF
  clear hok hq hs hF
  go_enter Try.func10, Try.ntmps10
  go_wp2_with fail
  refine hsp.mono ?_
  rintro e w1 ⟨G', rfl, hK⟩
  have h1 := CBox.off h hK.off (hd b hFb.out)
  clear h hsp
  cases r
  · go_wp2
    go_ret
    first | exact ⟨rfl, F, G', hK.thenOne pwbase hd hlt ⟨b, g, hg, rfl, h1, hF'.out⟩ (Off.refl _ _)⟩ | exact ⟨F, G', rfl, hK.thenOne pwbase hd hlt ⟨b, g, hg, rfl, h1, hF'.out⟩ (Off.refl _ _)⟩
  · have c1 : w1.cell? ⟨b, 3, none⟩ = some (.int .u32 (cur : Int)) := CBox.cell h1 3
    have f1 := CBox.frozen h1 3
    have h2 : CBox 57 (w1.setCell ⟨b, 3, none⟩ (.int .u32 ((cur + 1 : Nat) : Int))) b _ := CBox.put h1 3 (.int .u32 ((cur + 1 : Nat) : Int))
    have o2 : Off F w1 (w1.setCell ⟨b, 3, none⟩ (.int .u32 ((cur + 1 : Nat) : Int))) := Off.setCell (p := ⟨b, 3, none⟩) (Off.refl _ w1) (Or.inl hFb.out) _
    clear h1
    go_wp2
    go_ret
    first | exact ⟨rfl, F, G', hK.thenOne pwbase hd hlt ⟨b, g, hg, rfl, h2, hF'.out⟩ o2⟩ | exact ⟨F, G', rfl, hK.thenOne pwbase hd hlt ⟨b, g, hg, rfl, h2, hF'.out⟩ o2⟩
theorem kyaddNil (w : World) : Calls Try.prog 10 #[.pointer none] w fun e w' => e = .returned (.bool false) ∧ Below w.heap.size w w' := by
  go_enter Try.func10, Try.ntmps10
  go_wp2_with fail
  refine (kyspendNil w).mono ?_
  rintro e w1 ⟨rfl, hb⟩
  go_wp2
  go_ret
  exact ⟨rfl, hb⟩
set_option maxHeartbeats 2000000 in
theorem kyerase (p : Option Addr) (F G : Nat → Prop) (v : Value) (st : KSt) (q : PSt) (B : Nat) (_hB : U32 B) (hok : KOk st) (hq : q.2.2 ≤ 1000000) (w : World) (hI : KyInv p F w v st) (hP : PwInv G w (.pointer p) q) (hd : ∀ k, F k → ¬ G k) :
    Calls Try.prog 12 #[v, .int .u32 (B : Int)] w fun e w' => ∃ F' G', e = .returned (.bool (pSpend q).1) ∧ KeptD (KyInv p) PwInv F G w v (.pointer p) F' G' w' (if (pSpend q).1 = true then kErase st B else st) (pSpend q).2 := by
  obtain ⟨s, lo, cur⟩ := st
  obtain ⟨b, g, hg, rfl, h, hF⟩ := hI
  dsimp only at h hg
  have hsp := kyspend p G b s g cur q hq w h hP
  obtain ⟨r, q', hs⟩ : ∃ r q', pSpend q = (r, q') := ⟨_, _, rfl⟩
  rw [hs] at hsp ⊢
  dsimp only at hsp ⊢
  have hlt : ∀ k, F k → k < w.heap.size := fun k hk => (hF k).1 hk ▸ CBox.lt h
  have hFb := hide' ((hF b).2 rfl)
  have hF' := hide' hF
  have HOK := hide' hok
  clear hq hs hF hok
  go_enter Try.func12, Try.ntmps12
  go_wp2_with fail
  refine hsp.mono ?_
  rintro e w1 ⟨G', rfl, hK⟩
  have h1 := CBox.off h hK.off (hd b hFb.out)
  clear h hsp
  cases r
  · go_wp2
    go_ret
    first | exact ⟨rfl, F, G', hK.thenOne pwbase hd hlt ⟨b, g, hg, rfl, h1, hF'.out⟩ (Off.refl _ _)⟩ | exact ⟨F, G', rfl, hK.thenOne pwbase hd hlt ⟨b, g, hg, rfl, h1, hF'.out⟩ (Off.refl _ _)⟩
  · have c3 : w1.cell? ⟨b, 3, none⟩ = some (.int .u32 (cur : Int)) := CBox.cell h1 3
    have c2 : w1.cell? ⟨b, 2, none⟩ = some (.int .u32 (g : Int)) := CBox.cell h1 2
    have f1 := CBox.frozen h1 2
    -- what is the first that stays
    obtain ⟨m, hm⟩ : ∃ m, Hid (m = min B cur) := ⟨_, rfl⟩
    have fin : ∀ (W : World) (g' : Nat), g' + 1 = (kErase (s, lo, cur) B).2.1 → KyBox p W b s g' cur → Off F w1 W → ∃ F' G', KeptD (KyInv p) PwInv F G w (.pointer (some ⟨b, 0, none⟩)) (.pointer p) F' G' W (kErase (s, lo, cur) B) q' := fun W g' e hc ho => ⟨F, G', hK.thenOne pwbase hd hlt ⟨b, g', hide' e, rfl, hc, hF'.out⟩ ho⟩
    have HFin := hide' fin
    clear fin
    have hcase : (B ≤ cur ∧ m = B) ∨ (cur < B ∧ m = cur) := by
      have := hm.out
      omega
    rcases hcase with ⟨hle, rfl⟩ | ⟨hle, rfl⟩
    · have hle' : (m : Int) ≤ (cur : Int) := by omega
      by_cases hgt : g < m
      · have hgt' : (m : Int) > (g : Int) := by omega
        have hz : IntKind.u32.wrap ((m : Int) - 1) = ((m - 1 : Nat) : Int) := by
          have : cur ≤ 1000000 := HOK.out.2.2
          rw [IntKind.wrap_u32]
          omega
        have h2 : CBox 57 (w1.setCell ⟨b, 2, none⟩ (.int .u32 ((m - 1 : Nat) : Int))) b _ := CBox.put h1 2 (.int .u32 ((m - 1 : Nat) : Int))
        have o2 : Off F w1 (w1.setCell ⟨b, 2, none⟩ (.int .u32 ((m - 1 : Nat) : Int))) := Off.setCell (p := ⟨b, 2, none⟩) (Off.refl _ w1) (Or.inl hFb.out) _
        have he : (m - 1) + 1 = (kErase (s, lo, cur) m).2.1 := by
          have := hg.out
          have h1 : 1 ≤ lo := HOK.out.1
          simp only [kErase]
          omega
        have hpost := HFin.out _ _ he h2 o2
        clear h1 h2 he
        go_wp2
        go_ret
        obtain ⟨F2, G2, hpost⟩ := hpost
        first | exact ⟨rfl, F2, G2, hpost⟩ | exact ⟨F2, G2, rfl, hpost⟩
      · have hgt' : ¬ (m : Int) > (g : Int) := by omega
        have he : g + 1 = (kErase (s, lo, cur) m).2.1 := by
          have := hg.out
          have h2 : lo ≤ cur := HOK.out.2.1
          simp only [kErase]
          omega
        have hpost := HFin.out _ _ he h1 (Off.refl _ _)
        clear h1 he
        go_wp2
        go_ret
        obtain ⟨F2, G2, hpost⟩ := hpost
        first | exact ⟨rfl, F2, G2, hpost⟩ | exact ⟨F2, G2, rfl, hpost⟩
    · have hle' : ¬ (B : Int) ≤ (m : Int) := by omega
      have hgt : g < m := by
        have := hg.out
        have h2 : lo ≤ m := HOK.out.2.1
        omega
      have hgt' : (m : Int) > (g : Int) := by omega
      have hz : IntKind.u32.wrap ((m : Int) - 1) = ((m - 1 : Nat) : Int) := by
        have : m ≤ 1000000 := HOK.out.2.2
        rw [IntKind.wrap_u32]
        omega
      have h2 : CBox 57 (w1.setCell ⟨b, 2, none⟩ (.int .u32 ((m - 1 : Nat) : Int))) b _ := CBox.put h1 2 (.int .u32 ((m - 1 : Nat) : Int))
      have o2 : Off F w1 (w1.setCell ⟨b, 2, none⟩ (.int .u32 ((m - 1 : Nat) : Int))) := Off.setCell (p := ⟨b, 2, none⟩) (Off.refl _ w1) (Or.inl hFb.out) _
      have he : (m - 1) + 1 = (kErase (s, lo, m) B).2.1 := by
        have := hg.out
        have h1 : 1 ≤ lo := HOK.out.1
        simp only [kErase]
        omega
      have hpost := HFin.out _ _ he h2 o2
      clear h1 h2 he
      go_wp2
      go_ret
      obtain ⟨F2, G2, hpost⟩ := hpost
      first | exact ⟨rfl, F2, G2, hpost⟩ | exact ⟨F2, G2, rfl, hpost⟩
theorem kyeraseNil (B : Int) (w : World) : Calls Try.prog 12 #[.pointer none, .int .u32 B] w fun e w' => e = .returned (.bool false) ∧ Below w.heap.size w w' := by
  go_enter Try.func12, Try.ntmps12
  go_wp2_with fail
  refine (kyspendNil w).mono ?_
  rintro e w1 ⟨rfl, hb⟩
  go_wp2
  go_ret
  exact ⟨rfl, hb⟩
theorem kycurrent (p : Option Addr) (F : Nat → Prop) (v : Value) (st : KSt) (_ : KOk st) (w : World) (hI : KyInv p F w v st) : Calls Try.prog 18 #[v] w fun e w' => e = .returned (.int .u32 (st.2.2 : Int)) ∧ Below w.heap.size w w' := by
  obtain ⟨b, g, hg, rfl, h, hF⟩ := hI
  have c0 : w.cell? ⟨b, 3, none⟩ = some (.int .u32 (st.2.2 : Int)) := CBox.cell h 3
  clear h
  generalize (st.2.2 : Int) = o at *
  go_enter Try.func18, Try.ntmps18
  go_wp2
  go_ret
  exact ⟨rfl, Below.refl _ _⟩
theorem kycurrentNil (w : World) : Calls Try.prog 18 #[.pointer none] w fun e w' => e = .returned (.int .u32 0) ∧ Below w.heap.size w w' := by
  go_enter Try.func18, Try.ntmps18
  go_wp2
  go_ret
  exact ⟨rfl, Below.refl _ _⟩
set_option maxHeartbeats 2000000 in
theorem kykey (p : Option Addr) (F : Nat → Prop) (v : Value) (st : KSt) (n : Nat) (_ : KOk st) (hn : U32 n) (w : World) (hI : KyInv p F w v st) : Calls Try.prog 22 #[v, .int .u32 (n : Int)] w fun e w' => e = .returned (.tuple #[.agg #[.int .u64 (nv (kKey st n).1), .int .u64 (nv (kKey st n).2)], .bool (kHas st n)]) ∧ Below w.heap.size w w' := by
  obtain ⟨s, lo, cur⟩ := st
  obtain ⟨b, g, hg, rfl, h, hF⟩ := hI
  dsimp only at h hg
  have bR := Box.new w 0 0
  have hB : Below w.heap.size w (w.alloc (.cells #[.int .u64 0, .int .u64 0] 46)) := (Below.refl _ _).alloc (Nat.le_refl _) _
  have h1 := CBox.grown h hB
  have c0 : (w.alloc (.cells #[.int .u64 0, .int .u64 0] 46)).cell? ⟨b, 0, none⟩ = some (.int .u64 (nv s)) := CBox.cell h1 0
  have c2 : (w.alloc (.cells #[.int .u64 0, .int .u64 0] 46)).cell? ⟨b, 2, none⟩ = some (.int .u32 (g : Int)) := CBox.cell h1 2
  have c3 : (w.alloc (.cells #[.int .u64 0, .int .u64 0] 46)).cell? ⟨b, 3, none⟩ = some (.int .u32 (cur : Int)) := CBox.cell h1 3
  have hF' := hide' hF
  clear h h1 hF
  by_cases hh : kHas (s, lo, cur) n = true
  · have hk : kKey (s, lo, cur) n = keyOf s n := by
      unfold kKey
      rw [if_pos hh]
    have h2 : ¬ (n : Int) ≤ (g : Int) := by
      have := hg.out
      simp only [kHas, decide_eq_true_eq] at hh
      omega
    have h3 : ¬ (n : Int) > (cur : Int) := by
      simp only [kHas, decide_eq_true_eq] at hh
      omega
    rw [hh, hk]
    have hof := kof s n hn
    clear hh hk hg
    go_enter Try.func22, Try.ntmps22
    go_wp2_with fail
    generalize w.alloc (.cells #[.int .u64 0, .int .u64 0] 46) = W1 at *
    refine (hof _).mono ?_
    rintro x w2 ⟨rfl, hb⟩
    replace bR := bR.grown hb
    replace hB := hB.trans (hb.mono hB.size)
    have f0 := bR.c0
    have f1 := bR.c1
    have f2 := bR.frozen 0
    have f3 := bR.frozen 1
    clear hb c0 c2 c3 hof
    go_wp2
    refine bodyPost_ret (v := .tuple #[.agg #[.int .u64 (nv (keyOf s n).1), .int .u64 (nv (keyOf s n).2)], .bool true]) (by simp [results, Try.results22, go_sem, f0, f1]) rfl ⟨rfl, ?_⟩
    exact (hB.setCell (by simp only; omega) _).setCell (by simp only; omega) _
  · have hh' : kHas (s, lo, cur) n = false := by simpa using hh
    have hk : kKey (s, lo, cur) n = (0#64, 0#64) := by
      unfold kKey
      rw [if_neg hh]
    have hcase : n ≤ g ∨ (g < n ∧ cur < n) := by
      have := hg.out
      simp only [kHas, decide_eq_false_iff_not] at hh'
      omega
    rw [hh', hk]
    clear hh hh' hk hg
    have f0 := bR.c0
    have f1 := bR.c1
    have f2 := bR.frozen 0
    have f3 := bR.frozen 1
    rcases hcase with hc | ⟨hc, hd⟩
    · have h2 : (n : Int) ≤ (g : Int) := by omega
      clear hc
      go_enter Try.func22, Try.ntmps22
      go_wp2
      refine bodyPost_ret (v := .tuple #[.agg #[.int .u64 0, .int .u64 0], .bool false]) (by simp [results, Try.results22, go_sem, f0, f1]) rfl ⟨rfl, ?_⟩
      first | exact hB | exact (hB.setCell (by simp only; omega) _).setCell (by simp only; omega) _
    · have h2 : ¬ (n : Int) ≤ (g : Int) := by omega
      have h3 : (n : Int) > (cur : Int) := by omega
      clear hc hd
      go_enter Try.func22, Try.ntmps22
      go_wp2
      refine bodyPost_ret (v := .tuple #[.agg #[.int .u64 0, .int .u64 0], .bool false]) (by simp [results, Try.results22, go_sem, f0, f1]) rfl ⟨rfl, ?_⟩
      first | exact hB | exact (hB.setCell (by simp only; omega) _).setCell (by simp only; omega) _
theorem kykeyNil (n : Int) (w : World) : Calls Try.prog 22 #[.pointer none, .int .u32 n] w fun e w' => e = .returned (.tuple #[.agg #[.int .u64 0, .int .u64 0], .bool false]) ∧ Below w.heap.size w w' := by
  have bR := Box.new w 0 0
  have hB : Below w.heap.size w (w.alloc (.cells #[.int .u64 0, .int .u64 0] 46)) := (Below.refl _ _).alloc (Nat.le_refl _) _
  have f0 := bR.c0
  have f1 := bR.c1
  have f2 := bR.frozen 0
  have f3 := bR.frozen 1
  go_enter Try.func22, Try.ntmps22
  go_wp2
  refine bodyPost_ret (v := .tuple #[.agg #[.int .u64 0, .int .u64 0], .bool false]) (by simp [results, Try.results22, go_sem, f0, f1]) rfl ⟨rfl, ?_⟩
  first | exact hB | exact (hB.setCell (by simp only; omega) _).setCell (by simp only; omega) _
/-- The first k of n epochs laid into a row of zeros. -/
def uCell (lo n k : Nat) : Array Value := Array.ofFn (n := n) fun i => if i.1 < k then .int .u32 ((lo + i.1 : Nat) : Int) else .int .u32 0
theorem uCell_get (lo : Nat) {n k i : Nat} (hi : i < n) : (uCell lo n k)[i]? = some (if i < k then .int .u32 ((lo + i : Nat) : Int) else .int .u32 0) := by
  unfold uCell
  rw [Array.getElem?_ofFn, dif_pos hi]
theorem kyinfo : (Try.prog.info? 33).map (fun i => (i.zero, i.size, i.bytes)) = some (some (.int .u32 0), 1, 4) := by kernel_rfl
theorem uCell_len (lo n k : Nat) : (uCell lo n k).size = n := by simp [uCell]
theorem uCell_zero (lo n : Nat) : madeCells #[.int .u32 0] n = uCell lo n 0 := by
  apply Array.ext
  · simp [uCell, madeCells]
  · intro i h1 h2
    simp [uCell, madeCells]
    rw [show i % 1 = 0 from Nat.mod_one i]
    rfl
theorem uCell_put (lo n k : Nat) (hk : k < n) : (uCell lo n k).setIfInBounds k (.int .u32 ((lo + k : Nat) : Int)) = uCell lo n (k + 1) := by
  apply Array.ext_getElem?
  intro i
  rw [Array.getElem?_setIfInBounds, uCell_len]
  by_cases hi : i < n
  · by_cases e : k = i
    · subst e
      rw [if_pos rfl, if_pos hk, uCell_get lo hk, if_pos (Nat.lt_succ_self k)]
    · rw [if_neg e, uCell_get lo hi, uCell_get lo hi]
      have : (i < k + 1) ↔ i < k := by omega
      simp only [this]
  · rw [if_neg (by omega), Array.getElem?_eq_none (by rw [uCell_len]; omega), Array.getElem?_eq_none (by rw [uCell_len]; omega)]
set_option maxHeartbeats 2000000 in
theorem kyepochs (p : Option Addr) (F : Nat → Prop) (v : Value) (st : KSt) (hok : KOk st) (w : World) (hI : KyInv p F w v st) : Calls Try.prog 21 #[v] w fun e w' => ∃ z cz, e = .returned (.slice z (st.2.2 + 1 - st.2.1) cz) ∧ EIn w' z (st.2.2 + 1 - st.2.1) st.2.1 ∧ Below w.heap.size w w' := by
  obtain ⟨s, lo, cur⟩ := st
  obtain ⟨b, g, hg, rfl, h, hF⟩ := hI
  dsimp only at h hg ⊢
  have hpos : 1 ≤ lo := hok.1
  have hlo : lo ≤ cur := hok.2.1
  have hcur : cur ≤ 1000000 := hok.2.2
  obtain ⟨n, hn⟩ : ∃ n, Hid (cur + 1 - lo = n) := ⟨_, rfl⟩
  rw [hn.out]
  have hn1 : n ≤ 1000000 := by
    have := hn.out
    omega
  have hw : IntKind.u32.wrap ((cur : Int) - (g : Int)) = (n : Int) := by
    have := hn.out
    have := hg.out
    rw [IntKind.wrap_u32]
    omega
  have hw1 : IntKind.u32.wrap ((g : Int) + 1) = (lo : Int) := by
    have := hg.out
    rw [IntKind.wrap_u32]
    omega
  have hsum : lo + n ≤ 1000001 := by
    have := hn.out
    omega
  have c2 : w.cell? ⟨b, 2, none⟩ = some (.int .u32 (g : Int)) := CBox.cell h 2
  have c3 : w.cell? ⟨b, 3, none⟩ = some (.int .u32 (cur : Int)) := CBox.cell h 3
  have hmk : ∀ w : World, (Instr.makeSlice 41 (.int .u32 (n : Int)) (.int .u32 (n : Int))).run Try.prog w = .ok (.slice (some ⟨w.heap.size, 0, none⟩) n n) (w.alloc (.cells (madeCells #[.int .u32 0] n) 33)) := fun w =>
    run_make_row' (P := Try.prog) 41 33 (.int .u32 0) 4 Try.underlying41 kyinfo rfl .u32 .u32 n (by omega) (by omega) w
  have hR : CBox 33 (w.alloc (.cells (madeCells #[.int .u32 0] n) 33)) w.heap.size (uCell lo n 0) := by
    rw [← uCell_zero]
    exact CBox.new _ _ _
  have hB : Below w.heap.size w (w.alloc (.cells (madeCells #[.int .u32 0] n) 33)) := (Below.refl _ _).alloc (Nat.le_refl _) _
  have HN1 := hide' hn1
  have HS := hide' hsum
  have hbl := CBox.lt h
  clear hok hpos hlo hcur hn1 hsum hF hg hn
  go_enter Try.func21, Try.ntmps21
  go_wp2
  go_region
  have hRd : CBox 33 (w.alloc (.cells (madeCells #[.int .u32 0] n) 33)).drew w.heap.size (uCell lo n 0) := hR
  have hBd := hB.drew
  generalize (w.alloc (.cells (madeCells #[.int .u32 0] n) 33)).drew = w1 at *
  clear hR hB hmk hw c2 c3
  go_wp2_with fail
  go_loopw [19] (fun i wr => ∃ k : Nat, k ≤ n ∧ i = .int .i64 (k : Int) ∧ CBox 33 wr w.heap.size (uCell lo n k) ∧ Below w.heap.size w wr) (fun i _ => n - (intOf i).toNat)
  case atStart => exact ⟨0, Nat.zero_le _, rfl, hRd, hBd⟩
  case round =>
    clear hRd hBd
    obtain ⟨k, hk, rfl, hR, hB⟩ := hrel
    have hxw := CBox.grown h hB
    by_cases hlt : k < n
    · have hlt' : (k : Int) < n := by omega
      have hwi : IntKind.i64.wrap ((k : Int) + 1) = (k : Int) + 1 := by
        have := HN1.out
        rw [IntKind.wrap_i64]
        omega
      have hw2 : IntKind.u32.wrap (k : Int) = (k : Int) := by
        have := HN1.out
        rw [IntKind.wrap_u32]
        omega
      have hw3 : IntKind.u32.wrap ((lo : Int) + (k : Int)) = ((lo + k : Nat) : Int) := by
        have := HS.out
        rw [IntKind.wrap_u32]
        omega
      have c2 : wr.cell? ⟨b, 2, none⟩ = some (.int .u32 (g : Int)) := CBox.cell hxw 2
      have d0 := (CBox.cell hR k).trans (uCell_get lo hlt)
      have d1 := CBox.frozen hR k
      have hR2 := CBox.put hR k (.int .u32 ((lo + k : Nat) : Int))
      rw [uCell_put lo n k hlt] at hR2
      have hB2 := hB.setCell (p := ⟨w.heap.size, k, none⟩) (Nat.le_refl _) (.int .u32 ((lo + k : Nat) : Int))
      clear hxw hR hB h
      go_wp2
      go_roundw
      case rel => exact ⟨k + 1, by omega, by go_num, hR2, hB2⟩
      case measure => simp [intOf]; omega
    · obtain rfl : k = n := by omega
      have hlt' : ¬ (k : Int) < k := by omega
      have hE : EIn wr (some ⟨w.heap.size, 0, none⟩) k lo := fun _ => ⟨_, 0, rfl, CBox.lt hR, fun i hi => by
        rw [Nat.zero_add, CBox.cell hR i, uCell_get lo hi, if_pos hi]⟩
      clear hxw hR h
      go_wp2
      go_ret
      first | exact ⟨_, ⟨_, rfl⟩, hE, hB⟩ | exact ⟨_, _, rfl, hE, hB⟩
theorem kyepochsNil (w : World) : Calls Try.prog 21 #[.pointer none] w fun e w' => (∃ z cz, e = .returned (.slice z 0 cz)) ∧ Below w.heap.size w w' := by
  go_enter Try.func21, Try.ntmps21
  go_wp2
  go_ret
  exact ⟨⟨_, _, rfl⟩, Below.refl _ _⟩
theorem keys_is : KeysIs PwInv KyInv where
  base := kybase
  make := kymake
  add := kyadd
  erase := kyerase
  current := kycurrent
  key := kykey
  epochs := kyepochs
  of_ := kof
  addNil := kyaddNil
  eraseNil := kyeraseNil
  currentNil := kycurrentNil
  keyNil := kykeyNil
  epochsNil := kyepochsNil
end Go.Proofs.Ytcfbdbjonmjplaa
