/- The landed lock: its five calls, in a block of its own; the nil ones. -/
import Derived.Test.YtkkehbebaokdmaaLkSaid
import Derived.Test.YtkkehbebaokdmaaOrcImpl
import Derived.Test.YtkkehbebaokdmaaOrcRow
import Derived.Test.YtkkehbebaokdmaaGcmImpl
import Derived.Test.YtkkehbebaokdmaaDigImpl
import Derived.Laws.EntriesVeiled
namespace Go.Proofs.Ytkkehbebaokdmaa
open Go.RowKit
set_option maxRecDepth 20000

/-- Five calls in block b. -/
def FBox (w : World) (b : Nat) (a : Array Value) : Prop := w.heap[b]? = some (.cells a 62 (0, 0))
/-- The calls of a real lock, and of an ideal one on v. -/
def realC : Array Value := #[.func (.func 36) #[] #[], .func (.func 37) #[] #[], .func (.func 38) #[] #[], .nilFunc, .nilFunc]
def idealC (v : Value) : Array Value := #[.func (.func 31) #[v] #[], .func (.func 32) #[v] #[], .func (.func 33) #[v] #[], .func (.func 34) #[v] #[], .func (.func 35) #[v] #[]]
theorem FBox.lt {w : World} {b : Nat} {a : Array Value} (h : FBox w b a) : b < w.heap.size := by
  obtain ⟨hlt, _⟩ := Array.getElem?_eq_some_iff.1 h
  exact hlt
theorem FBox.cell {w : World} {b : Nat} {a : Array Value} (h : FBox w b a) (i : Nat) : w.cell? ⟨b, i, none⟩ = a[i]? := by unfold FBox at h; simp [World.cell?, h]
/-- A lock that was made. -/
def LInv (F : Nat → Prop) (w : World) (v : Value) (st : LSt) : Prop := ∃ b, v = .pointer (some ⟨b, 0, none⟩) ∧ ((st = ⟨false, [], []⟩ ∧ FBox w b realC ∧ ∀ k, F k ↔ k = b) ∨ (st.ideal = true ∧ ∃ u G, FBox w b (idealC u) ∧ PInv G w u (st.iss, st.sums) ∧ ¬ G b ∧ ∀ k, F k ↔ k = b ∨ G k))
theorem nilf_eq (T : TypeId) (h : (T = 48 ∨ T = 47) ∨ T = 43 ∨ T = 42 ∨ T = 39) (w : World) : Sem.run Try.prog (binOp .eql T .nilFunc .nilFunc) w = .ok (.bool true) w := by
  rcases h with (rfl | rfl) | rfl | rfl | rfl <;> rfl
theorem func_eq (T : TypeId) (f : Fn) (a : Array Value) (h : (T = 48 ∨ T = 47) ∨ T = 43 ∨ T = 42 ∨ T = 39) (w : World) : Sem.run Try.prog (binOp .eql T (.func f a #[]) .nilFunc) w = .ok (.bool false) w := by
  rcases h with (rfl | rfl) | rfl | rfl | rfl <;> rfl
theorem LInv.stay {F : Nat → Prop} {w w' : World} {v : Value} {st : LSt} (h : LInv F w v st) (hs : w.heap.size ≤ w'.heap.size) (hb : ∀ k, F k → w'.heap[k]? = w.heap[k]?) : LInv F w' v st := by
  obtain ⟨b, e, ⟨h1, h2, h3⟩ | ⟨h1, u, G, h2, h3, h4, h5⟩⟩ := h
  · exact ⟨b, e, Or.inl ⟨h1, (hb b ((h3 b).2 rfl)).trans h2, h3⟩⟩
  · exact ⟨b, e, Or.inr ⟨h1, u, G, (hb b ((h5 b).2 (Or.inl rfl))).trans h2, h3.stay hs (fun k hk => hb k ((h5 k).2 (Or.inr hk))), h4, h5⟩⟩
theorem LInv.lt {F : Nat → Prop} {w : World} {v : Value} {st : LSt} (h : LInv F w v st) : ∀ k, F k → k < w.heap.size := by
  obtain ⟨b, e, ⟨h1, h2, h3⟩ | ⟨h1, u, G, h2, h3, h4, h5⟩⟩ := h
  · intro k hk
    obtain rfl := (h3 k).1 hk
    exact h2.lt
  · intro k hk
    rcases (h5 k).1 hk with rfl | hk
    · exact h2.lt
    · exact h3.lt k hk
theorem FBox.not8 {w : World} {b : Nat} (h : FBox w b realC) (o : Nat) (u : Int) : w.cell? ⟨b, o, none⟩ ≠ some (.int .u8 u) := by
  rw [h.cell o]
  match o with
  | 0 | 1 | 2 | 3 | 4 => simp [realC]
  | o + 5 => simp [realC]
/-- A call on the oracle that stands behind an ideal lock. -/
theorem liftL {F G G' : Nat → Prop} {w W1 w2 w3 : World} {b : Nat} {u : Value} {st' : LSt} (hb : FBox W1 b (idealC u)) (hbl : b < w.heap.size) (hn : ¬ G b) (hG : ∀ k, G k → k < w.heap.size) (hF : ∀ k, F k ↔ k = b ∨ G k) (hi : st'.ideal = true) (hB : Below w.heap.size w W1) (hK : Kept PInv G W1 u G' w2 (st'.iss, st'.sums)) (hp : Off (fun k => w.heap.size ≤ k ∧ k < W1.heap.size) w2 w3) : KeptL LInv F w (.pointer (some ⟨b, 0, none⟩)) (fun k => k = b ∨ G' k) w3 st' := by
  have hz := hB.size
  have hnp : ∀ k, k = b ∨ G' k → ¬ (w.heap.size ≤ k ∧ k < W1.heap.size) := by
    rintro k (rfl | h) h2
    · omega
    · rcases hK.sub k h with h | h
      · have := hG k h
        omega
      · omega
  refine ⟨⟨b, rfl, Or.inr ⟨hi, u, G', off_block (off_block hb hK.off hn) hp (hnp b (Or.inl rfl)), hK.inv.stay hp.size (fun k hk => hp.block k (hK.inv.lt k hk) (hnp k (Or.inr hk))), fun h => (hK.sub b h).elim hn (fun h => by omega), fun _ => Iff.rfl⟩⟩, ?_, ?_⟩
  · rintro k (rfl | h)
    · exact Or.inl ((hF _).2 (Or.inl rfl))
    · exact (hK.sub k h).imp (fun h => (hF k).2 (Or.inr h)) (fun h => by omega)
  · exact ((Off.of_below hB).trans hK.off (fun k h => Or.inl ((hF k).2 (Or.inr h)))).trans hp (fun k h => Or.inr h.1)
theorem LInv.kept {F : Nat → Prop} {w w' : World} {v : Value} {st : LSt} (h : LInv F w v st) (hb : Below w.heap.size w w') : KeptL LInv F w v F w' st := ⟨h.stay hb.size (fun k hk => hb.block k (h.lt k hk)), fun _ h => Or.inl h, Off.of_below hb⟩
theorem ireal (w : World) : Calls Try.prog 23 #[] w fun e w' => ∃ v F, e = .returned v ∧ LInv F w' v ⟨false, [], []⟩ ∧ (∀ k, F k → w.heap.size ≤ k) ∧ Below w.heap.size w w' := by
  have hB : Below w.heap.size w (w.alloc (.cells realC 62)) := (Below.refl _ _).alloc (Nat.le_refl _) _
  have hN : FBox (w.alloc (.cells realC 62)) w.heap.size realC := heap_alloc_new _ _
  go_enter Try.func23, Try.ntmps23
  go_wp2
  go_ret
  exact ⟨_, fun k => k = w.heap.size, rfl, ⟨w.heap.size, rfl, Or.inl ⟨rfl, hN, fun _ => Iff.rfl⟩⟩, fun k hk => hk ▸ Nat.le_refl _, hB⟩
theorem iideal (hO : OrcIs PInv) (w : World) : Calls Try.prog 22 #[] w fun e w' => ∃ v F, e = .returned v ∧ LInv F w' v ⟨true, [], []⟩ ∧ (∀ k, F k → w.heap.size ≤ k) ∧ Below w.heap.size w w' := by
  have hmf : ∀ (fn : Fn) (first cap : Array Value) (w : World), (Instr.makeFunc fn first cap).run Try.prog w = .ok (.func fn first cap) w := fun _ _ _ _ => rfl
  go_enter Try.func22, Try.ntmps22
  go_wp2_with fail
  refine (hO.make _).mono ?_
  rintro e w1 ⟨u, G, rfl, hP, hG, hB⟩
  have hb1 : Below w1.heap.size w1 (w1.alloc (.cells (idealC u) 62)) := (Below.refl _ _).alloc (Nat.le_refl _) _
  have hN : FBox (w1.alloc (.cells (idealC u) 62)) w1.heap.size (idealC u) := heap_alloc_new _ _
  obtain ⟨a, rfl⟩ := hO.ptr hP
  go_wp2
  go_ret
  refine ⟨_, fun k => k = w1.heap.size ∨ G k, rfl, ⟨w1.heap.size, rfl, Or.inr ⟨rfl, _, G, hN, hP.stay hb1.size (fun k hk => hb1.block k (hP.lt k hk)), fun h => absurd (hP.lt _ h) (Nat.lt_irrefl _), fun _ => Iff.rfl⟩⟩, ?_, hB.trans (hb1.mono hB.size)⟩
  rintro k (rfl | h)
  · exact hB.size
  · exact hG k h
theorem itwice8 (hO : OrcIs PInv) (F : Nat → Prop) (v : Value) (st : LSt) (t : Bool) (hL : st.iss.length ≤ 10000) (ht : t = true ↔ Two st.iss) (w : World) (hI : LInv F w v st) :
    Calls Try.prog 21 #[v] w fun e w' => ∃ F', e = .returned (.bool t) ∧ KeptL LInv F w v F' w' st := by
  have hI' := hI
  obtain ⟨b, rfl, ⟨rfl, hb, hF⟩ | ⟨hi, u, G, hb, hP, hn, hF⟩⟩ := hI
  · have k0 : w.cell? ⟨b, 4, none⟩ = some .nilFunc := hb.cell 4
    have hq := nilf_eq 48 (Or.inl (Or.inl rfl))
    obtain rfl : t = false := by
      cases t
      · rfl
      · obtain ⟨i, k, _, h, _⟩ := ht.1 rfl
        exact absurd h (Nat.not_lt_zero _)
    go_enter Try.func21, Try.ntmps21
    go_wp2
    go_ret
    exact ⟨rfl, F, hI'.kept (Below.refl _ _)⟩
  · have k0 : w.cell? ⟨b, 4, none⟩ = some (.func (.func 35) #[u] #[]) := hb.cell 4
    have hq := func_eq 48 (.func 35) #[u] (Or.inl (Or.inl rfl))
    have hbl := hb.lt
    go_enter Try.func21, Try.ntmps21
    go_wp2_with fail
    refine (hO.twice G u (st.iss, st.sums) t hL ht _ hP).mono ?_
    rintro e w2 ⟨G2, rfl, hK⟩
    go_wp2
    go_ret
    exact ⟨_, rfl, liftL hb hbl hn hP.lt hF hi (Below.refl _ _) hK (Off.refl _ _)⟩
theorem iissued8 (hO : OrcIs PInv) (F : Nat → Prop) (v : Value) (st : LSt) (hL : st.iss.length ≤ 10000) (w : World) (hI : LInv F w v st) :
    Calls Try.prog 18 #[v] w fun e w' => ∃ z cz F', e = .returned (.slice z st.iss.length cz) ∧ KeptL LInv F w v F' w' st ∧ IRd w' z st.iss.length st.iss := by
  have hI' := hI
  obtain ⟨b, rfl, ⟨rfl, hb, hF⟩ | ⟨hi, u, G, hb, hP, hn, hF⟩⟩ := hI
  · have k0 : w.cell? ⟨b, 3, none⟩ = some .nilFunc := hb.cell 3
    have hq := nilf_eq 47 (Or.inl (Or.inr rfl))
    go_enter Try.func18, Try.ntmps18
    go_wp2
    go_ret
    exact ⟨none, ⟨0, rfl⟩, ⟨F, hI'.kept (Below.refl _ _)⟩, rfl, fun h => absurd h (Nat.lt_irrefl _)⟩
  · have k0 : w.cell? ⟨b, 3, none⟩ = some (.func (.func 34) #[u] #[]) := hb.cell 3
    have hq := func_eq 47 (.func 34) #[u] (Or.inl (Or.inr rfl))
    have hbl := hb.lt
    go_enter Try.func18, Try.ntmps18
    go_wp2_with fail
    refine (hO.issued G u (st.iss, st.sums) hL _ hP).mono ?_
    rintro e w2 ⟨z, cz, G2, rfl, hK, hR, _⟩
    go_wp2
    go_ret
    exact ⟨z, cz, _, rfl, liftL hb hbl hn hP.lt hF hi (Below.refl _ _) hK (Off.refl _ _), hR.rd⟩
set_option maxHeartbeats 1000000 in
theorem isum8 (hO : OrcIs PInv) (F : Nat → Prop) (v : Value) (st : LSt) (P : List (List Int)) (x : Option Addr) (m c : Nat) (hm : m ≤ 1000) (hp : P.flatten.length ≤ 50000) (hS : st.sums.length ≤ 10000) (fx : Fit x m c) (w : World) (hI : LInv F w v st) (hl : LIn (fun k => ¬ F k) w x m P) :
    Calls Try.prog 15 #[v, .slice x m c] w fun e w' => ∃ F', e = .returned (.agg #[.int .u64 (st.sumV P.flatten).1, .int .u64 (st.sumV P.flatten).2]) ∧ KeptL LInv F w v F' w' (st.sumS P.flatten) := by
  have hI' := hI
  have bR := Box.new w 0 0
  have hB : Below w.heap.size w (w.alloc (.cells #[.int .u64 0, .int .u64 0] 30)) := by go_grown
  obtain ⟨b, rfl, ⟨rfl, hb, hF⟩ | ⟨hi, u, G, hb, hP, hn, hF⟩⟩ := hI
  · have hbl := hb.lt
    have hbW : FBox (w.alloc (.cells #[.int .u64 0, .int .u64 0] 30)) b realC := off_block hb (Off.of_below (F := fun _ => False) hB) (fun h => h)
    have k0 : (w.alloc (.cells #[.int .u64 0, .int .u64 0] 30)).cell? ⟨b, 2, none⟩ = some (.func (.func 38) #[] #[]) := hbW.cell 2
    have hq := func_eq 43 (.func 38) #[] (Or.inr (Or.inl rfl))
    have hv : LSt.sumV ⟨false, [], []⟩ P.flatten = (nv (sumP P.flatten).1, nv (sumP P.flatten).2) := rfl
    have hs : LSt.sumS ⟨false, [], []⟩ P.flatten = ⟨false, [], []⟩ := rfl
    rw [hv, hs]
    clear hv hs
    replace hl := hl.off (Off.of_below (F := fun _ => False) hB) (fun _ _ _ h => h)
    go_enter Try.func15, Try.ntmps15
    go_wp2_with fail
    generalize w.alloc (.cells #[.int .u64 0, .int .u64 0] 30) = W1 at *
    refine (sum_said P x m c hm hp fx.1 fx.2.2 _ hl.lat).mono ?_
    rintro e w2 ⟨rfl, hb2⟩
    replace bR := bR.grown hb2
    replace hB := hB.trans (hb2.mono hB.size)
    have q0 := bR.c0
    have q1 := bR.c1
    have q2 := bR.frozen 0
    have q3 := bR.frozen 1
    go_wp2
    clear q0 q1 q2 q3
    replace bR := bR.put2 (nv (sumP P.flatten).1) (nv (sumP P.flatten).2)
    have r0 := bR.c0
    have r1 := bR.c1
    refine bodyPost_ret (v := .agg #[.int .u64 (nv (sumP P.flatten).1), .int .u64 (nv (sumP P.flatten).2)]) (by simp [results, Try.results15, go_sem, r0, r1]) rfl ⟨F, rfl, hI'.kept ?_⟩
    exact (((Off.of_below (F := fun _ => False) hB).setCell (p := ⟨w.heap.size, 0, none⟩) (Or.inr (Nat.le_refl _)) _).setCell (p := ⟨w.heap.size, 1, none⟩) (Or.inr (Nat.le_refl _)) _).none (fun _ h => h.elim)
  · have hbl := hb.lt
    have hbW : FBox (w.alloc (.cells #[.int .u64 0, .int .u64 0] 30)) b (idealC u) := off_block hb (Off.of_below (F := fun _ => False) hB) (fun h => h)
    have k0 : (w.alloc (.cells #[.int .u64 0, .int .u64 0] 30)).cell? ⟨b, 2, none⟩ = some (.func (.func 33) #[u] #[]) := hbW.cell 2
    have hq := func_eq 43 (.func 33) #[u] (Or.inr (Or.inl rfl))
    have hv : st.sumV P.flatten = (17216961135462248174, ((sumIx st.sums P.flatten : Nat) : Int)) := by rw [LSt.sumV, if_pos hi]
    have hs : st.sumS P.flatten = ⟨st.ideal, st.iss, sumSt st.sums P.flatten⟩ := by rw [LSt.sumS, if_pos hi]
    rw [hv, hs]
    clear hv hs
    have hGl := hP.lt
    replace hl := (hl.off (Off.of_below (F := fun _ => False) hB) (fun _ _ _ h => h)).mono (G' := fun k => ¬ G k) (fun k _ h hg => h ((hF k).2 (Or.inr hg)))
    replace hP := hP.below hB
    go_enter Try.func15, Try.ntmps15
    go_wp2_with fail
    have hWz : w.heap.size < (w.alloc (.cells #[.int .u64 0, .int .u64 0] 30)).heap.size := by simp
    generalize w.alloc (.cells #[.int .u64 0, .int .u64 0] 30) = W1 at *
    refine (hO.sum G u st.iss st.sums P x m c hm hp hS fx _ hP hl).mono ?_
    rintro e w2 ⟨G2, rfl, hK⟩
    replace bR : Box w2 w.heap.size 0 0 := off_block bR hK.off (fun h => by have := hGl _ h; omega)
    have q0 := bR.c0
    have q1 := bR.c1
    have q2 := bR.frozen 0
    have q3 := bR.frozen 1
    go_wp2
    clear q0 q1 q2 q3
    replace bR := bR.put2 17216961135462248174 ((sumIx st.sums P.flatten : Nat) : Int)
    have r0 := bR.c0
    have r1 := bR.c1
    refine bodyPost_ret (v := .agg #[.int .u64 17216961135462248174, .int .u64 ((sumIx st.sums P.flatten : Nat) : Int)]) (by simp [results, Try.results15, go_sem, r0, r1]) rfl ⟨_, rfl, liftL (st' := ⟨st.ideal, st.iss, sumSt st.sums P.flatten⟩) hbW hbl hn hGl hF hi hB hK ?_⟩
    exact ((Off.refl _ _).setCell (p := ⟨w.heap.size, 0, none⟩) (Or.inl ⟨Nat.le_refl _, hWz⟩) _).setCell (p := ⟨w.heap.size, 1, none⟩) (Or.inl ⟨Nat.le_refl _, hWz⟩) _
theorem isealNil8 (key : BitVec 64 × BitVec 64) (nn : Nn) (x y : Option Addr) (nx ny c d : Nat) (w : World) : Calls Try.prog 10 #[.pointer none, kv key, nvv nn, .slice x nx c, .slice y ny d] w fun e w' => (∃ z cz t1 t2, e = .returned (.tuple #[.agg #[.slice z 0 cz, .int .u64 t1, .int .u64 t2], .bool false])) ∧ Below w.heap.size w w' := by
  unfold kv nvv
  go_enter Try.func10, Try.ntmps10
  go_wp2
  refine bodyPost_ret (v := .tuple #[.agg #[.slice none 0 0, .int .u64 0, .int .u64 0], .bool false]) (by simp [results, Try.results10, go_sem]) rfl ⟨⟨_, _, _, _, rfl⟩, by go_grown⟩
theorem iopenNil8 (key : BitVec 64 × BitVec 64) (nn : Nn) (x y : Option Addr) (nx ny c d : Nat) (t1 t2 : Int) (w : World) : Calls Try.prog 13 #[.pointer none, kv key, nvv nn, .slice x nx c, .agg #[.slice y ny d, .int .u64 t1, .int .u64 t2]] w fun e w' => (∃ z cz, e = .returned (.tuple #[.slice z 0 cz, .bool false])) ∧ Below w.heap.size w w' := by
  unfold kv nvv
  go_enter Try.func13, Try.ntmps13
  go_wp2
  go_ret2
  exact ⟨⟨_, _, rfl⟩, by go_grown⟩
theorem isumNil8 (x : Option Addr) (m c : Nat) (w : World) : Calls Try.prog 15 #[.pointer none, .slice x m c] w fun e w' => e = .returned (.agg #[.int .u64 0, .int .u64 0]) ∧ Below w.heap.size w w' := by
  go_enter Try.func15, Try.ntmps15
  go_wp2
  refine bodyPost_ret (v := .agg #[.int .u64 0, .int .u64 0]) (by simp [results, Try.results15, go_sem]) rfl ⟨rfl, by go_grown⟩
theorem iissuedNil8 (w : World) : Calls Try.prog 18 #[.pointer none] w fun e w' => (∃ z cz, e = .returned (.slice z 0 cz)) ∧ Below w.heap.size w w' := by
  go_enter Try.func18, Try.ntmps18
  go_wp2
  go_ret
  exact ⟨⟨_, _, rfl⟩, Below.refl _ _⟩
theorem itwiceNil8 (w : World) : Calls Try.prog 21 #[.pointer none] w fun e w' => e = .returned (.bool false) ∧ Below w.heap.size w w' := by
  go_enter Try.func21, Try.ntmps21
  go_wp2
  go_ret
  exact ⟨rfl, Below.refl _ _⟩
end Go.Proofs.Ytkkehbebaokdmaa
