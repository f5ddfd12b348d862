/- A counter that only rises: plain, and what the statements ask of the program's. -/
import Derived.Test.YtdehnfgepnnaiaaPowSaid
import Derived.Test.YtdehnfgepnnaiaaKept
namespace Go.Proofs.Ytdehnfgepnnaiaa
open Go.RowKit
set_option maxRecDepth 20000

/-- How many Bumps, how many Boots, what Boots was at the last Bump. -/
abbrev CSt : Type := Nat × Nat × Nat
def cBump (s : CSt) : CSt := (s.1 + 1, s.2.1, s.2.1)
def cBoot (s : CSt) : CSt := (s.1, s.2.1 + 1, s.2.2)
/-- What is asked of it, whatever memory it has: by a power of PI. -/
structure CntIs (PI : (Nat → Prop) → World → Value → PSt → Prop) (CI : Option Addr → (Nat → Prop) → World → Value → CSt → Prop) : Prop where
  base : ∀ p, ObjBase (CI p)
  make : ∀ (p : Option Addr) (w : World), Calls Try.prog 7 #[.pointer p] w fun e w' => ∃ v F, e = .returned v ∧ CI p F w' v (0, 0, 0) ∧ (∀ k, F k → w.heap.size ≤ k) ∧ Below w.heap.size w w'
  bump : ∀ (p : Option Addr) (F G : Nat → Prop) (v : Value) (st : CSt) (q : PSt), st.1 ≤ 1000000 → q.2.2 ≤ 1000000 → ∀ w : World, CI p F w v st → PI G w (.pointer p) q → (∀ k, F k → ¬ G k) →
    Calls Try.prog 8 #[v] w fun e w' => ∃ F' G', e = .returned (.bool (pSpend q).1) ∧ KeptD (CI p) PI F G w v (.pointer p) F' G' w' (if (pSpend q).1 = true then cBump st else st) (pSpend q).2
  boot : ∀ (p : Option Addr) (F G : Nat → Prop) (v : Value) (st : CSt) (q : PSt), st.2.1 ≤ 1000000 → q.2.2 ≤ 1000000 → ∀ w : World, CI p F w v st → PI G w (.pointer p) q → (∀ k, F k → ¬ G k) →
    Calls Try.prog 10 #[v] w fun e w' => ∃ F' G', e = .returned (.bool (pSpend q).1) ∧ KeptD (CI p) PI F G w v (.pointer p) F' G' w' (if (pSpend q).1 = true then cBoot st else st) (pSpend q).2
  value : ∀ (p : Option Addr) (F : Nat → Prop) (v : Value) (st : CSt) (w : World), CI p F w v st → Calls Try.prog 16 #[v] w fun e w' => e = .returned (.int .u64 (st.1 : Int)) ∧ Below w.heap.size w w'
  boots : ∀ (p : Option Addr) (F : Nat → Prop) (v : Value) (st : CSt) (w : World), CI p F w v st → Calls Try.prog 17 #[v] w fun e w' => e = .returned (.int .u64 (st.2.1 : Int)) ∧ Below w.heap.size w w'
  at_ : ∀ (p : Option Addr) (F : Nat → Prop) (v : Value) (st : CSt) (w : World), CI p F w v st → Calls Try.prog 18 #[v] w fun e w' => e = .returned (.int .u64 (st.2.2 : Int)) ∧ Below w.heap.size w w'
  bumpNil : ∀ w : World, Calls Try.prog 8 #[.pointer none] w fun e w' => e = .returned (.bool false) ∧ Below w.heap.size w w'
  bootNil : ∀ w : World, Calls Try.prog 10 #[.pointer none] w fun e w' => e = .returned (.bool false) ∧ Below w.heap.size w w'
  valueNil : ∀ w : World, Calls Try.prog 16 #[.pointer none] w fun e w' => e = .returned (.int .u64 0) ∧ Below w.heap.size w w'
  bootsNil : ∀ w : World, Calls Try.prog 17 #[.pointer none] w fun e w' => e = .returned (.int .u64 0) ∧ Below w.heap.size w w'
  atNil : ∀ w : World, Calls Try.prog 18 #[.pointer none] w fun e w' => e = .returned (.int .u64 0) ∧ Below w.heap.size w w'
/-- With its power: what the calls tell, and leave. -/
abbrev CP : Type := CSt × PSt
def dBump (s : CP) : Bool × CP := ((pSpend s.2).1, (if (pSpend s.2).1 = true then cBump s.1 else s.1, (pSpend s.2).2))
def dBoot (s : CP) : Bool × CP := ((pSpend s.2).1, (if (pSpend s.2).1 = true then cBoot s.1 else s.1, (pSpend s.2).2))
/-- So much there is of each. -/
def CBd (k : Nat) (s : CP) : Prop := s.1.1 ≤ k ∧ s.1.2.1 ≤ k ∧ s.2.2.2 ≤ k
theorem dBump_bd {k : Nat} {s : CP} (h : CBd k s) : CBd (k + 1) (dBump s).2 := by
  obtain ⟨h1, h2, h3⟩ := h
  have := pSpend_le s.2
  unfold dBump
  dsimp only
  split
  · exact ⟨by simp only [cBump]; omega, by simp only [cBump]; omega, by dsimp only; omega⟩
  · exact ⟨by dsimp only; omega, by dsimp only; omega, by dsimp only; omega⟩
theorem dBoot_bd {k : Nat} {s : CP} (h : CBd k s) : CBd (k + 1) (dBoot s).2 := by
  obtain ⟨h1, h2, h3⟩ := h
  have := pSpend_le s.2
  unfold dBoot
  dsimp only
  split
  · exact ⟨by simp only [cBoot]; omega, by simp only [cBoot]; omega, by dsimp only; omega⟩
  · exact ⟨by dsimp only; omega, by dsimp only; omega, by dsimp only; omega⟩
theorem CBd.more {k : Nat} {s : CP} (h : CBd k s) : CBd (k + 1) s := ⟨Nat.le_succ_of_le h.1, Nat.le_succ_of_le h.2.1, Nat.le_succ_of_le h.2.2⟩
end Go.Proofs.Ytdehnfgepnnaiaa
