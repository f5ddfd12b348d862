/- Steps, till it is gone: plain, and what the statements ask of the program's Power. -/
import Derived.Test.YtcfbdbjonmjplaaObjA
namespace Go.Proofs.Ytcfbdbjonmjplaa
open Go.RowKit
set_option maxRecDepth 20000

/-- On or not; how many steps its fuse has left, where it has one; how many steps there were. -/
abbrev PSt : Type := Bool × Option Nat × Nat
def pFuse (st : PSt) (n : Int) : PSt := (st.1, if n < 0 then none else some n.toNat, st.2.2)
def pBack (st : PSt) : PSt := (true, none, st.2.2)
def pSpend (st : PSt) : Bool × PSt :=
  if st.1 = false then (false, st) else
  match st.2.1 with
  | some 0 => (false, (false, some 0, st.2.2))
  | some (k + 1) => (true, (true, some k, st.2.2 + 1))
  | none => (true, (true, none, st.2.2 + 1))
theorem pSpend_gone (f : Option Nat) (n : Nat) : pSpend (false, f, n) = (false, (false, f, n)) := rfl
theorem pSpend_end (n : Nat) : pSpend (true, some 0, n) = (false, (false, some 0, n)) := rfl
theorem pSpend_some (k n : Nat) : pSpend (true, some (k + 1), n) = (true, (true, some k, n + 1)) := rfl
theorem pSpend_free (n : Nat) : pSpend (true, none, n) = (true, (true, none, n + 1)) := rfl
theorem pSpend_le (st : PSt) : (pSpend st).2.2.2 ≤ st.2.2 + 1 := by
  obtain ⟨o, f, n⟩ := st
  cases o
  · exact Nat.le_succ n
  · rcases f with _ | _ | k
    · exact Nat.le_refl _
    · exact Nat.le_succ n
    · exact Nat.le_refl _
/-- What is asked of it, whatever memory it has. -/
structure PowIs (Inv : (Nat → Prop) → World → Value → PSt → Prop) : Prop where
  base : ObjBase Inv
  make : ∀ w : World, Calls Try.prog 7 #[] w fun e w' => ∃ v F, e = .returned v ∧ Inv F w' v (true, none, 0) ∧ (∀ k, F k → w.heap.size ≤ k) ∧ Below w.heap.size w w'
  fuse : ∀ (F : Nat → Prop) (v : Value) (st : PSt) (n : Int), n ≤ 9223372036854775807 → ∀ w : World, Inv F w v st → Calls Try.prog 14 #[v, .int .i64 n] w fun e w' => ∃ F', e = .returned (.tuple #[]) ∧ KeptG Inv F w v F' w' (pFuse st n)
  spend : ∀ (F : Nat → Prop) (v : Value) (st : PSt), st.2.2 ≤ 1000000 → ∀ w : World, Inv F w v st → Calls Try.prog 31 #[v] w fun e w' => ∃ F', e = .returned (.bool (pSpend st).1) ∧ KeptG Inv F w v F' w' (pSpend st).2
  back : ∀ (F : Nat → Prop) (v : Value) (st : PSt), ∀ w : World, Inv F w v st → Calls Try.prog 16 #[v] w fun e w' => ∃ F', e = .returned (.tuple #[]) ∧ KeptG Inv F w v F' w' (pBack st)
  on : ∀ (F : Nat → Prop) (v : Value) (st : PSt), ∀ w : World, Inv F w v st → Calls Try.prog 37 #[v] w fun e w' => e = .returned (.bool st.1) ∧ Below w.heap.size w w'
  fuseNil : ∀ (n : Int) (w : World), Calls Try.prog 14 #[.pointer none, .int .i64 n] w fun e w' => e = .returned (.tuple #[]) ∧ Below w.heap.size w w'
  spendNil : ∀ w : World, Calls Try.prog 31 #[.pointer none] w fun e w' => e = .returned (.bool false) ∧ Below w.heap.size w w'
  backNil : ∀ w : World, Calls Try.prog 16 #[.pointer none] w fun e w' => e = .returned (.tuple #[]) ∧ Below w.heap.size w w'
  onNil : ∀ w : World, Calls Try.prog 37 #[.pointer none] w fun e w' => e = .returned (.bool false) ∧ Below w.heap.size w w'
variable {Inv : (Nat → Prop) → World → Value → PSt → Prop}
theorem spend_at (hO : PowIs Inv) (F : Nat → Prop) (v : Value) {st st' : PSt} {r : Bool} (h : pSpend st = (r, st')) (hn : st.2.2 ≤ 1000000) (w : World) (hI : Inv F w v st) : Calls Try.prog 31 #[v] w fun e w' => ∃ F', e = .returned (.bool r) ∧ KeptG Inv F w v F' w' st' := by
  have := hO.spend F v st hn w hI
  rw [h] at this
  exact this
theorem fuse_at (hO : PowIs Inv) (F : Nat → Prop) (v : Value) (st : PSt) {st' : PSt} {n : Int} (h : pFuse st n = st') (hn : n ≤ 1000000) (w : World) (hI : Inv F w v st) : Calls Try.prog 14 #[v, .int .i64 n] w fun e w' => ∃ F', e = .returned (.tuple #[]) ∧ KeptG Inv F w v F' w' st' := by
  subst h
  exact hO.fuse F v st n (by omega) w hI
end Go.Proofs.Ytcfbdbjonmjplaa
