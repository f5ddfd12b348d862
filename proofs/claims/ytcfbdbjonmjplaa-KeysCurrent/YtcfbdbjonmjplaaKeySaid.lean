/- Keys, and what is forgotten: plain, and what the statements ask of the program's. -/
import Derived.Test.YtcfbdbjonmjplaaPowSaid
import Derived.Test.YtcfbdbjonmjplaaKept
import Derived.Test.YtcfbdbjonmjplaaSpkSaid
namespace Go.Proofs.Ytcfbdbjonmjplaa
open Go.RowKit
set_option maxRecDepth 20000

/-- The seed, the lowest epoch that is there, the current one. -/
abbrev KSt : Type := BitVec 64 × Nat × Nat
/-- A number of four bytes. -/
def U32 (e : Nat) : Prop := Hid (e ≤ 4294967295)
/-- There is at least one epoch, and there are not too many. -/
def KOk (s : KSt) : Prop := 1 ≤ s.2.1 ∧ s.2.1 ≤ s.2.2 ∧ s.2.2 ≤ 1000000
def keyOf (s : BitVec 64) (e : Nat) : BitVec 64 × BitVec 64 := enc (s, s) (0#64, BitVec.ofNat 64 e)
def kAdd (st : KSt) : KSt := (st.1, st.2.1, st.2.2 + 1)
def kErase (st : KSt) (b : Nat) : KSt := (st.1, min (max st.2.1 b) st.2.2, st.2.2)
def kHas (st : KSt) (e : Nat) : Bool := decide (st.2.1 ≤ e ∧ e ≤ st.2.2)
def kKey (st : KSt) (e : Nat) : BitVec 64 × BitVec 64 := if kHas st e = true then keyOf st.1 e else (0#64, 0#64)
theorem u32_of {a : Int} (h : (Lit.int .u32 a).wf = true) : ∃ n : Nat, a = n ∧ U32 n := by
  have hx : 0 ≤ a ∧ a ≤ 4294967295 := by simpa [Lit.wf, IntKind.min, IntKind.max, IntKind.signed, IntKind.bits] using h
  exact ⟨a.toNat, by omega, hide' (by omega)⟩
theorem U32.small {e : Nat} (h : e ≤ 1000000) : U32 e := hide' (by omega)
theorem U32.nv {e : Nat} (h : U32 e) : nv (BitVec.ofNat 64 e) = (e : Int) := by
  have := h.out
  unfold Proofs.Ytcfbdbjonmjplaa.nv
  rw [BitVec.toNat_ofNat, Nat.mod_eq_of_lt (by omega)]
theorem U32.wrap64 {e : Nat} (h : U32 e) : IntKind.u64.wrap (e : Int) = (e : Int) := by
  have := h.out
  rw [IntKind.wrap_u64]
  omega
theorem u32_small {e : Nat} (h : e ≤ 1000000) : IntKind.u32.wrap (e : Int) = (e : Int) := by
  rw [IntKind.wrap_u32]
  omega
theorem u32_up {e : Nat} (h : e ≤ 1000000) : IntKind.u32.wrap ((e : Int) + 1) = ((e + 1 : Nat) : Int) := by
  rw [IntKind.wrap_u32]
  omega
theorem nv_zero64 : nv (0#64) = 0 := rfl
theorem keyOf_inj {s : BitVec 64} {a b : Nat} (ha : U32 a) (hb : U32 b) (h : keyOf s a = keyOf s b) : a = b := by
  have h2 := congrArg Prod.snd (enc_inj h)
  have h3 : nv (BitVec.ofNat 64 a) = nv (BitVec.ofNat 64 b) := congrArg nv h2
  rw [ha.nv, hb.nv] at h3
  exact Int.ofNat.inj h3
theorem KOk.add {st : KSt} (h : KOk st) (hn : st.2.2 + 1 ≤ 1000000) : KOk (kAdd st) := ⟨h.1, Nat.le_succ_of_le h.2.1, hn⟩
theorem KOk.erase {st : KSt} (h : KOk st) (b : Nat) : KOk (kErase st b) := by
  obtain ⟨h1, h2, h3⟩ := h
  refine ⟨?_, ?_, h3⟩ <;> simp only [kErase] <;> omega
/-- Epochs in a slice, from the lowest one. -/
def EIn (w : World) (x : Option Addr) (n lo : Nat) : Prop := 0 < n → ∃ b o, x = some ⟨b, o, none⟩ ∧ b < w.heap.size ∧ ∀ i, i < n → w.cell? ⟨b, o + i, none⟩ = some (.int .u32 ((lo + i : Nat) : Int))
/-- What is asked of them, whatever memory they have: by a power of PI. -/
structure KeysIs (PI : (Nat → Prop) → World → Value → PSt → Prop) (KI : Option Addr → (Nat → Prop) → World → Value → KSt → Prop) : Prop where
  base : ∀ p, ObjBase (KI p)
  make : ∀ (p : Option Addr) (s : BitVec 64) (w : World), Calls Try.prog 8 #[.int .u64 (nv s), .pointer p] w fun e w' => ∃ v F, e = .returned v ∧ KI p F w' v (s, 1, 1) ∧ (∀ k, F k → w.heap.size ≤ k) ∧ Below w.heap.size w w'
  add : ∀ (p : Option Addr) (F G : Nat → Prop) (v : Value) (st : KSt) (q : PSt), KOk st → q.2.2 ≤ 1000000 → ∀ w : World, KI p F w v st → PI G w (.pointer p) q → (∀ k, F k → ¬ G k) →
    Calls Try.prog 10 #[v] w fun e w' => ∃ F' G', e = .returned (.bool (pSpend q).1) ∧ KeptD (KI p) PI F G w v (.pointer p) F' G' w' (if (pSpend q).1 = true then kAdd st else st) (pSpend q).2
  erase : ∀ (p : Option Addr) (F G : Nat → Prop) (v : Value) (st : KSt) (q : PSt) (b : Nat), U32 b → KOk st → q.2.2 ≤ 1000000 → ∀ w : World, KI p F w v st → PI G w (.pointer p) q → (∀ k, F k → ¬ G k) →
    Calls Try.prog 12 #[v, .int .u32 (b : Int)] w fun e w' => ∃ F' G', e = .returned (.bool (pSpend q).1) ∧ KeptD (KI p) PI F G w v (.pointer p) F' G' w' (if (pSpend q).1 = true then kErase st b else st) (pSpend q).2
  current : ∀ (p : Option Addr) (F : Nat → Prop) (v : Value) (st : KSt), KOk st → ∀ w : World, KI p F w v st → Calls Try.prog 18 #[v] w fun e w' => e = .returned (.int .u32 (st.2.2 : Int)) ∧ Below w.heap.size w w'
  key : ∀ (p : Option Addr) (F : Nat → Prop) (v : Value) (st : KSt) (n : Nat), KOk st → U32 n → ∀ w : World, KI p F w v st → Calls Try.prog 22 #[v, .int .u32 (n : Int)] w fun e w' => e = .returned (.tuple #[.agg #[.int .u64 (nv (kKey st n).1), .int .u64 (nv (kKey st n).2)], .bool (kHas st n)]) ∧ Below w.heap.size w w'
  epochs : ∀ (p : Option Addr) (F : Nat → Prop) (v : Value) (st : KSt), KOk st → ∀ w : World, KI p F w v st → Calls Try.prog 21 #[v] w fun e w' => ∃ z cz, e = .returned (.slice z (st.2.2 + 1 - st.2.1) cz) ∧ EIn w' z (st.2.2 + 1 - st.2.1) st.2.1 ∧ Below w.heap.size w w'
  of_ : ∀ (s : BitVec 64) (n : Nat), U32 n → ∀ w : World, Calls Try.prog 25 #[.int .u64 (nv s), .int .u32 (n : Int)] w fun e w' => e = .returned (.agg #[.int .u64 (nv (keyOf s n).1), .int .u64 (nv (keyOf s n).2)]) ∧ Below w.heap.size w w'
  addNil : ∀ w : World, Calls Try.prog 10 #[.pointer none] w fun e w' => e = .returned (.bool false) ∧ Below w.heap.size w w'
  eraseNil : ∀ (b : Int) (w : World), Calls Try.prog 12 #[.pointer none, .int .u32 b] w fun e w' => e = .returned (.bool false) ∧ Below w.heap.size w w'
  currentNil : ∀ w : World, Calls Try.prog 18 #[.pointer none] w fun e w' => e = .returned (.int .u32 0) ∧ Below w.heap.size w w'
  keyNil : ∀ (b : Int) (w : World), Calls Try.prog 22 #[.pointer none, .int .u32 b] w fun e w' => e = .returned (.tuple #[.agg #[.int .u64 0, .int .u64 0], .bool false]) ∧ Below w.heap.size w w'
  epochsNil : ∀ w : World, Calls Try.prog 21 #[.pointer none] w fun e w' => (∃ z cz, e = .returned (.slice z 0 cz)) ∧ Below w.heap.size w w'
/-- With their power: what the calls tell, and leave. -/
abbrev KP : Type := KSt × PSt
def dAdd (s : KP) : Bool × KP := ((pSpend s.2).1, (if (pSpend s.2).1 = true then kAdd s.1 else s.1, (pSpend s.2).2))
def dErase (s : KP) (b : Nat) : Bool × KP := ((pSpend s.2).1, (if (pSpend s.2).1 = true then kErase s.1 b else s.1, (pSpend s.2).2))
/-- So much there is of each. -/
def KBd (k : Nat) (s : KP) : Prop := 1 ≤ s.1.2.1 ∧ s.1.2.1 ≤ s.1.2.2 ∧ s.1.2.2 ≤ k + 1 ∧ s.2.2.2 ≤ k
theorem KBd.ok {k : Nat} {s : KP} (h : KBd k s) (hk : k ≤ 1000) : KOk s.1 := ⟨h.1, h.2.1, by have := h.2.2.1; omega⟩
theorem KBd.pw {k : Nat} {s : KP} (h : KBd k s) (hk : k ≤ 1000) : s.2.2.2 ≤ 1000000 := by have := h.2.2.2; omega
theorem KBd.more {k : Nat} {s : KP} (h : KBd k s) : KBd (k + 1) s := ⟨h.1, h.2.1, Nat.le_succ_of_le h.2.2.1, Nat.le_succ_of_le h.2.2.2⟩
theorem dAdd_bd {k : Nat} {s : KP} (h : KBd k s) : KBd (k + 1) (dAdd s).2 := by
  obtain ⟨h1, h2, h3, h4⟩ := h
  have := pSpend_le s.2
  unfold dAdd
  dsimp only
  split
  · exact ⟨h1, by simp only [kAdd]; omega, by simp only [kAdd]; omega, by dsimp only; omega⟩
  · exact ⟨h1, h2, by dsimp only; omega, by dsimp only; omega⟩
theorem dErase_bd {k : Nat} {s : KP} (h : KBd k s) (b : Nat) : KBd (k + 1) (dErase s b).2 := by
  obtain ⟨h1, h2, h3, h4⟩ := h
  have := pSpend_le s.2
  unfold dErase
  dsimp only
  split
  · exact ⟨by simp only [kErase]; omega, by simp only [kErase]; omega, by simp only [kErase]; omega, by dsimp only; omega⟩
  · exact ⟨h1, h2, by dsimp only; omega, by dsimp only; omega⟩
section
variable {PI : (Nat → Prop) → World → Value → PSt → Prop} {KI : Option Addr → (Nat → Prop) → World → Value → KSt → Prop}
/-- Keys with their power. -/
abbrev KPI (PI : (Nat → Prop) → World → Value → PSt → Prop) (KI : Option Addr → (Nat → Prop) → World → Value → KSt → Prop) (p : Option Addr) : (Nat → Prop) → World → Value → KP → Prop := PairI (KI p) PI (.pointer p)
theorem kadd_at (hO : KeysIs PI KI) (p : Option Addr) (H : Nat → Prop) (v : Value) {s s' : KP} {r : Bool} (h : dAdd s = (r, s')) (h1 : KOk s.1) (h2 : s.2.2.2 ≤ 1000000) (w : World) (hI : KPI PI KI p H w v s) : Calls Try.prog 10 #[v] w fun e w' => ∃ H', e = .returned (.bool r) ∧ KeptG (KPI PI KI p) H w v H' w' s' := by
  obtain ⟨F, G, a, b, c, d⟩ := hI
  have e1 : r = (pSpend s.2).1 := congrArg Prod.fst h.symm
  have e2 : s' = (dAdd s).2 := congrArg Prod.snd h.symm
  subst e1 e2
  exact (hO.add p F G v s.1 s.2 h1 h2 w a b c).mono (by rintro e w' ⟨F', G', rfl, hK⟩; exact ⟨_, rfl, hK.pair d⟩)
theorem kerase_at (hO : KeysIs PI KI) (p : Option Addr) (H : Nat → Prop) (v : Value) {s s' : KP} {r : Bool} {n : Nat} {z : Int} (hz : (n : Int) = z) (hn : U32 n) (h : dErase s n = (r, s')) (h1 : KOk s.1) (h2 : s.2.2.2 ≤ 1000000) (w : World) (hI : KPI PI KI p H w v s) : Calls Try.prog 12 #[v, .int .u32 z] w fun e w' => ∃ H', e = .returned (.bool r) ∧ KeptG (KPI PI KI p) H w v H' w' s' := by
  obtain ⟨F, G, a, b, c, d⟩ := hI
  have e1 : r = (pSpend s.2).1 := congrArg Prod.fst h.symm
  have e2 : s' = (dErase s n).2 := congrArg Prod.snd h.symm
  subst e1 e2 hz
  exact (hO.erase p F G v s.1 s.2 n hn h1 h2 w a b c).mono (by rintro e w' ⟨F', G', rfl, hK⟩; exact ⟨_, rfl, hK.pair d⟩)
theorem kcurrent_at (hO : KeysIs PI KI) (p : Option Addr) (H : Nat → Prop) (v : Value) (s : KP) (h1 : KOk s.1) (w : World) (hI : KPI PI KI p H w v s) : Calls Try.prog 18 #[v] w fun e w' => e = .returned (.int .u32 (s.1.2.2 : Int)) ∧ Below w.heap.size w w' := by
  obtain ⟨F, G, a, b, c, d⟩ := hI
  exact hO.current p F v s.1 h1 w a
theorem kkey_at (hO : KeysIs PI KI) (p : Option Addr) (H : Nat → Prop) (v : Value) (s : KP) {n : Nat} {z : Int} (hz : (n : Int) = z) (hn : U32 n) (h1 : KOk s.1) (w : World) (hI : KPI PI KI p H w v s) : Calls Try.prog 22 #[v, .int .u32 z] w fun e w' => e = .returned (.tuple #[.agg #[.int .u64 (nv (kKey s.1 n).1), .int .u64 (nv (kKey s.1 n).2)], .bool (kHas s.1 n)]) ∧ Below w.heap.size w w' := by
  obtain ⟨F, G, a, b, c, d⟩ := hI
  subst hz
  exact hO.key p F v s.1 n h1 hn w a
theorem kepochs_at (hO : KeysIs PI KI) (p : Option Addr) (H : Nat → Prop) (v : Value) (s : KP) (h1 : KOk s.1) (w : World) (hI : KPI PI KI p H w v s) : Calls Try.prog 21 #[v] w fun e w' => ∃ z cz, e = .returned (.slice z (s.1.2.2 + 1 - s.1.2.1) cz) ∧ EIn w' z (s.1.2.2 + 1 - s.1.2.1) s.1.2.1 ∧ Below w.heap.size w w' := by
  obtain ⟨F, G, a, b, c, d⟩ := hI
  exact hO.epochs p F v s.1 h1 w a
end
end Go.Proofs.Ytcfbdbjonmjplaa
