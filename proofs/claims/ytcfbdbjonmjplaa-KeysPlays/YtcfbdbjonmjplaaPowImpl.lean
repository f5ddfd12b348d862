/- The landed Power: on, the steps of its fuse, how many there were, in a block of its own. -/
import Derived.Test.YtcfbdbjonmjplaaPowSaid
namespace Go.Proofs.Ytcfbdbjonmjplaa
open Go.RowKit
set_option maxRecDepth 20000

/-- What its fuse has left, as a number. -/
def fuseI : Option Nat → Int
  | none => -1
  | some k => k
/-- Its fuse is an int. -/
def FuseOk (st : PSt) : Prop := Hid (match st.2.1 with | some k => k ≤ 9223372036854775807 | none => True)
theorem ok_fuse {st : PSt} {n : Int} (hn : n ≤ 9223372036854775807) : FuseOk (pFuse st n) := by
  unfold FuseOk pFuse
  apply hide'
  by_cases h : n < 0
  · simp [h]
  · simp only [if_neg h]
    omega
theorem ok_spend {st : PSt} (h : FuseOk st) : FuseOk (pSpend st).2 := by
  obtain ⟨o, f, n⟩ := st
  cases o
  · exact h
  · rcases f with _ | _ | k
    · exact h
    · exact h
    · exact hide' (Nat.le_of_succ_le (show k + 1 ≤ 9223372036854775807 from h.out))
/-- A Power at block b. -/
def PwBox (w : World) (b : Nat) (st : PSt) : Prop := CBox 55 w b #[.bool st.1, .int .i64 (fuseI st.2.1), .int .i64 (st.2.2 : Int)]
def PwInv (F : Nat → Prop) (w : World) (v : Value) (st : PSt) : Prop := ∃ b, v = .pointer (some ⟨b, 0, none⟩) ∧ PwBox w b st ∧ FuseOk st ∧ ∀ k, F k ↔ k = b
theorem pwbase : ObjBase PwInv := by
  refine ⟨?_, ?_, ?_⟩
  · rintro F w w' v _ ⟨b, rfl, h, ho, hF⟩ _ hb
    exact ⟨b, rfl, (hb b ((hF b).2 rfl)).trans h, ho, hF⟩
  · rintro F w v _ ⟨b, rfl, h, _, hF⟩ k hk
    rw [(hF k).1 hk]
    exact CBox.lt h
  · rintro F w v _ ⟨b, rfl, _, _, _⟩
    exact ⟨_, rfl⟩
theorem pwput {w w' : World} {b : Nat} {st' : PSt} {F : Nat → Prop} (hF : ∀ k, F k ↔ k = b) (h : PwBox w' b st') (hf : FuseOk st') (ho : Off (fun k => k = b) w w') : KeptG PwInv F w (.pointer (some ⟨b, 0, none⟩)) F w' st' :=
  ⟨⟨b, rfl, h, hf, hF⟩, fun _ h => Or.inl h, ho.mono (fun i hi => Or.inl ((hF i).2 hi))⟩
theorem pmake (w : World) : Calls Try.prog 7 #[] w fun e w' => ∃ v F, e = .returned v ∧ PwInv F w' v (true, none, 0) ∧ (∀ k, F k → w.heap.size ≤ k) ∧ Below w.heap.size w w' := by
  have hN := CBox.new 55 w #[.bool true, .int .i64 (-1), .int .i64 0]
  have hA : Below w.heap.size w (w.alloc (.cells #[.bool true, .int .i64 (-1), .int .i64 0] 55)) := (Below.refl _ _).alloc (Nat.le_refl _) _
  go_enter Try.func7, Try.ntmps7
  go_wp2
  go_ret
  exact ⟨_, fun k => k = w.heap.size, rfl, ⟨w.heap.size, rfl, hN, trivial, fun _ => Iff.rfl⟩, fun k hk => hk ▸ Nat.le_refl _, hA⟩
theorem ponB (b : Nat) (st : PSt) (w : World) (h : PwBox w b st) : Calls Try.prog 37 #[.pointer (some ⟨b, 0, none⟩)] w fun e w' => e = .returned (.bool st.1) ∧ Below w.heap.size w w' := by
  have c0 : w.cell? ⟨b, 0, none⟩ = some (.bool st.1) := CBox.cell h 0
  clear h
  generalize st.1 = o at *
  go_enter Try.func37, Try.ntmps37
  go_wp2
  go_ret
  exact ⟨rfl, Below.refl _ _⟩
theorem pfuseB (b : Nat) (st : PSt) (n : Int) (w : World) (h : PwBox w b st) : Calls Try.prog 14 #[.pointer (some ⟨b, 0, none⟩), .int .i64 n] w fun e w' => e = .returned (.tuple #[]) ∧ PwBox w' b (pFuse st n) ∧ Off (fun k => k = b) w w' := by
  have f1 := CBox.frozen h 1
  have c1 : w.cell? ⟨b, 1, none⟩ = some (.int .i64 (fuseI st.2.1)) := CBox.cell h 1
  have h2 : PwBox (w.setCell ⟨b, 1, none⟩ (.int .i64 (fuseI (pFuse st n).2.1))) b (pFuse st n) := CBox.put h 1 (.int .i64 (fuseI (pFuse st n).2.1))
  have o2 : Off (fun k => k = b) w (w.setCell ⟨b, 1, none⟩ (.int .i64 (fuseI (pFuse st n).2.1))) := Off.setCell (F := fun k => k = b) (p := ⟨b, 1, none⟩) (Off.refl _ w) (Or.inl rfl) _
  have hn : n < -1 ∨ n = -1 ∨ 0 ≤ n := by omega
  rcases hn with hn | rfl | hn
  · have e : fuseI (pFuse st n).2.1 = -1 := by
      have : n < 0 := by omega
      simp [pFuse, this, fuseI]
    rw [e] at h2 o2
    have h0 : ¬ -1 ≤ n := by omega
    go_enter Try.func14, Try.ntmps14
    go_wp2
    go_end0
    exact ⟨rfl, h2, o2⟩
  · rw [show fuseI (pFuse st (-1)).2.1 = -1 from rfl] at h2 o2
    go_enter Try.func14, Try.ntmps14
    go_wp2
    go_end0
    exact ⟨rfl, h2, o2⟩
  · have hn' : ¬ n < 0 := by omega
    have e : fuseI (pFuse st n).2.1 = n := by
      simp [pFuse, hn', fuseI]
      omega
    rw [e] at h2 o2
    have h0 : -1 ≤ n := by omega
    go_enter Try.func14, Try.ntmps14
    go_wp2
    go_end0
    exact ⟨rfl, h2, o2⟩
theorem pbackB (b : Nat) (st : PSt) (w : World) (h : PwBox w b st) : Calls Try.prog 16 #[.pointer (some ⟨b, 0, none⟩)] w fun e w' => e = .returned (.tuple #[]) ∧ PwBox w' b (pBack st) ∧ Off (fun k => k = b) w w' := by
  have f0 := CBox.frozen h 0
  have c0 : w.cell? ⟨b, 0, none⟩ = some (.bool st.1) := CBox.cell h 0
  have h1 : CBox 55 (w.setCell ⟨b, 0, none⟩ (.bool true)) b _ := CBox.put h 0 (.bool true)
  have f1 := CBox.frozen h1 1
  have c1 : (w.setCell ⟨b, 0, none⟩ (.bool true)).cell? ⟨b, 1, none⟩ = some (.int .i64 (fuseI st.2.1)) := CBox.cell h1 1
  have h2 : PwBox ((w.setCell ⟨b, 0, none⟩ (.bool true)).setCell ⟨b, 1, none⟩ (.int .i64 (-1))) b (pBack st) := CBox.put h1 1 (.int .i64 (-1))
  have o2 : Off (fun k => k = b) w ((w.setCell ⟨b, 0, none⟩ (.bool true)).setCell ⟨b, 1, none⟩ (.int .i64 (-1))) := Off.setCell (F := fun k => k = b) (p := ⟨b, 1, none⟩) (Off.setCell (F := fun k => k = b) (p := ⟨b, 0, none⟩) (Off.refl _ w) (Or.inl rfl) _) (Or.inl rfl) _
  go_enter Try.func16, Try.ntmps16
  go_wp2
  go_end0
  exact ⟨rfl, h2, o2⟩
theorem pspendB (b : Nat) (st : PSt) (hn : st.2.2 ≤ 1000000) (hf : FuseOk st) (w : World) (h : PwBox w b st) : Calls Try.prog 31 #[.pointer (some ⟨b, 0, none⟩)] w fun e w' => e = .returned (.bool (pSpend st).1) ∧ PwBox w' b (pSpend st).2 ∧ Off (fun k => k = b) w w' := by
  obtain ⟨o, f, n⟩ := st
  have hw1 : IntKind.i64.wrap ((n : Int) + 1) = ((n + 1 : Nat) : Int) := by
    rw [IntKind.wrap_i64]
    have : n ≤ 1000000 := hn
    omega
  clear hn
  cases o
  · rw [pSpend_gone]
    go_enter Try.func31, Try.ntmps31
    go_wp2_with fail
    refine (ponB b _ _ h).mono ?_
    rintro e w1 ⟨rfl, hb⟩
    replace h := CBox.grown h hb
    go_wp2
    go_ret
    exact ⟨rfl, h, Off.of_below hb⟩
  · rcases f with _ | _ | k
    · rw [pSpend_free]
      go_enter Try.func31, Try.ntmps31
      go_wp2_with fail
      refine (ponB b _ _ h).mono ?_
      rintro e w1 ⟨rfl, hb⟩
      replace h := CBox.grown h hb
      have c1 : w1.cell? ⟨b, 1, none⟩ = some (.int .i64 (-1)) := CBox.cell h 1
      have c2 : w1.cell? ⟨b, 2, none⟩ = some (.int .i64 (n : Int)) := CBox.cell h 2
      have f2 := CBox.frozen h 2
      have h2 : PwBox (w1.setCell ⟨b, 2, none⟩ (.int .i64 ((n + 1 : Nat) : Int))) b (true, none, n + 1) := CBox.put h 2 (.int .i64 ((n + 1 : Nat) : Int))
      have o2 : Off (fun k => k = b) w (w1.setCell ⟨b, 2, none⟩ (.int .i64 ((n + 1 : Nat) : Int))) := Off.setCell (F := fun k => k = b) (p := ⟨b, 2, none⟩) (Off.of_below hb) (Or.inl rfl) _
      clear h hb
      go_wp2
      go_ret
      exact ⟨rfl, h2, o2⟩
    · rw [pSpend_end]
      go_enter Try.func31, Try.ntmps31
      go_wp2_with fail
      refine (ponB b _ _ h).mono ?_
      rintro e w1 ⟨rfl, hb⟩
      replace h := CBox.grown h hb
      have c1 : w1.cell? ⟨b, 1, none⟩ = some (.int .i64 0) := CBox.cell h 1
      have f0 := CBox.frozen h 0
      have c0 : w1.cell? ⟨b, 0, none⟩ = some (.bool true) := CBox.cell h 0
      have h2 : PwBox (w1.setCell ⟨b, 0, none⟩ (.bool false)) b (false, some 0, n) := CBox.put h 0 (.bool false)
      have o2 : Off (fun k => k = b) w (w1.setCell ⟨b, 0, none⟩ (.bool false)) := Off.setCell (F := fun k => k = b) (p := ⟨b, 0, none⟩) (Off.of_below hb) (Or.inl rfl) _
      clear h hb
      go_wp2
      go_ret
      exact ⟨rfl, h2, o2⟩
    · rw [pSpend_some]
      go_enter Try.func31, Try.ntmps31
      go_wp2_with fail
      refine (ponB b _ _ h).mono ?_
      rintro e w1 ⟨rfl, hb⟩
      replace h := CBox.grown h hb
      obtain ⟨z, hz⟩ : ∃ z : Int, Hid (z = ((k + 1 : Nat) : Int)) := ⟨_, rfl⟩
      have hz0 : ¬ z = 0 := by have := hz.out; omega
      have hz1 : ¬ z = -1 := by have := hz.out; omega
      have hw0 : IntKind.i64.wrap (z - 1) = (k : Int) := by
        have := hz.out
        have : k + 1 ≤ 9223372036854775807 := hf.out
        rw [IntKind.wrap_i64]
        omega
      have c1 : w1.cell? ⟨b, 1, none⟩ = some (.int .i64 z) := by rw [hz.out]; exact CBox.cell h 1
      have c2 : w1.cell? ⟨b, 2, none⟩ = some (.int .i64 (n : Int)) := CBox.cell h 2
      have f1 := CBox.frozen h 1
      have h1 : CBox 55 (w1.setCell ⟨b, 1, none⟩ (.int .i64 (k : Int))) b _ := CBox.put h 1 (.int .i64 (k : Int))
      have d2 : (w1.setCell ⟨b, 1, none⟩ (.int .i64 (k : Int))).cell? ⟨b, 2, none⟩ = some (.int .i64 (n : Int)) := CBox.cell h1 2
      have f2 := CBox.frozen h1 2
      have h2 : PwBox ((w1.setCell ⟨b, 1, none⟩ (.int .i64 (k : Int))).setCell ⟨b, 2, none⟩ (.int .i64 ((n + 1 : Nat) : Int))) b (true, some k, n + 1) := CBox.put h1 2 (.int .i64 ((n + 1 : Nat) : Int))
      have o2 : Off (fun k => k = b) w ((w1.setCell ⟨b, 1, none⟩ (.int .i64 (k : Int))).setCell ⟨b, 2, none⟩ (.int .i64 ((n + 1 : Nat) : Int))) := Off.setCell (F := fun k => k = b) (p := ⟨b, 2, none⟩) (Off.setCell (F := fun k => k = b) (p := ⟨b, 1, none⟩) (Off.of_below hb) (Or.inl rfl) _) (Or.inl rfl) _
      clear h hb h1
      go_wp2
      go_ret
      exact ⟨rfl, h2, o2⟩
theorem pfuseNil (n : Int) (w : World) : Calls Try.prog 14 #[.pointer none, .int .i64 n] w fun e w' => e = .returned (.tuple #[]) ∧ Below w.heap.size w w' := by
  go_enter Try.func14, Try.ntmps14
  go_wp2
  (try simp only [Exit.inBlock, Exit.then])
  refine bodyPost_ret (results_none rfl _ _ _) rfl ?_
  exact ⟨rfl, Below.refl _ _⟩
theorem pbackNil (w : World) : Calls Try.prog 16 #[.pointer none] w fun e w' => e = .returned (.tuple #[]) ∧ Below w.heap.size w w' := by
  go_enter Try.func16, Try.ntmps16
  go_wp2
  (try simp only [Exit.inBlock, Exit.then])
  refine bodyPost_ret (results_none rfl _ _ _) rfl ?_
  exact ⟨rfl, Below.refl _ _⟩
theorem ponNil (w : World) : Calls Try.prog 37 #[.pointer none] w fun e w' => e = .returned (.bool false) ∧ Below w.heap.size w w' := by
  go_enter Try.func37, Try.ntmps37
  go_wp2
  go_ret
  exact ⟨rfl, Below.refl _ _⟩
theorem pspendNil (w : World) : Calls Try.prog 31 #[.pointer none] w fun e w' => e = .returned (.bool false) ∧ Below w.heap.size w w' := by
  go_enter Try.func31, Try.ntmps31
  go_wp2_with fail
  refine (ponNil _).mono ?_
  rintro e w1 ⟨rfl, hb⟩
  go_wp2
  go_ret
  exact ⟨rfl, hb⟩
theorem pow_is : PowIs PwInv where
  base := pwbase
  make := pmake
  fuse := by
    rintro F v st n hn w ⟨b, rfl, h, hf, hF⟩
    exact (pfuseB b st n w h).mono (by rintro e w' ⟨rfl, h2, o2⟩; exact ⟨F, rfl, pwput hF h2 (ok_fuse hn) o2⟩)
  spend := by
    rintro F v st hn w ⟨b, rfl, h, hf, hF⟩
    exact (pspendB b st hn hf w h).mono (by rintro e w' ⟨rfl, h2, o2⟩; exact ⟨F, rfl, pwput hF h2 (ok_spend hf) o2⟩)
  back := by
    rintro F v st w ⟨b, rfl, h, hf, hF⟩
    exact (pbackB b st w h).mono (by rintro e w' ⟨rfl, h2, o2⟩; exact ⟨F, rfl, pwput hF h2 trivial o2⟩)
  on := by
    rintro F v st w ⟨b, rfl, h, hf, hF⟩
    exact ponB b st w h
  fuseNil := pfuseNil
  spendNil := pspendNil
  backNil := pbackNil
  onNil := ponNil
end Go.Proofs.Ytcfbdbjonmjplaa
