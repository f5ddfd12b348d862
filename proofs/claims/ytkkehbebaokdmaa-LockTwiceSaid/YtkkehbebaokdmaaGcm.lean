/- Sealed bytes: plain facts, and rows of Pairs that grow. -/
import Derived.Test.YtkkehbebaokdmaaFloSaid
import Derived.Test.YtkkehbebaokdmaaFldApp
import Derived.Test.YtkkehbebaokdmaaBRef1
namespace Go.Proofs.Ytkkehbebaokdmaa
open Go.RowKit
set_option maxRecDepth 20000

/-- Bytes, filled up with noughts to sixteens. -/
def padN (n : Nat) : Nat := (16 - n % 16) % 16
def padL (xs : List Int) : List Int := xs ++ List.replicate (padN xs.length) 0
theorem padL_length (xs : List Int) : (padL xs).length = 16 * ((xs.length + 15) / 16) := by
  rw [padL, List.length_append, List.length_replicate, padN]
  omega
theorem padL_bytes {xs : List Int} (h : Bytes xs) : Bytes (padL xs) := h.append (fun x hx => by
  obtain ⟨_, rfl⟩ := List.mem_replicate.1 hx
  omega)
/-- Bytes as Pairs. -/
def prs (xs : List Int) : List (BitVec 64 × BitVec 64) := (List.range ((xs.length + 15) / 16)).map fun i => pairOf (six (padL xs) i)
theorem prs_length (xs : List Int) : (prs xs).length = (xs.length + 15) / 16 := by simp [prs]
theorem prs_get (xs : List Int) (i : Nat) (h : i < (xs.length + 15) / 16) : (prs xs).getD i (0#64, 0#64) = pairOf (six (padL xs) i) := by
  simp [prs, h]
/-- Pairs, cell by cell. -/
def fl (l : List (BitVec 64 × BitVec 64)) : List Value := flatP (fun i => l.getD i (0#64, 0#64)) l.length
theorem flatP_congr {f g : Nat → BitVec 64 × BitVec 64} : ∀ n, (∀ i, i < n → f i = g i) → flatP f n = flatP g n
  | 0, _ => rfl
  | n + 1, h => by rw [flatP, flatP, flatP_congr n (fun i hi => h i (by omega)), h n (by omega)]
theorem flatP_add (f : Nat → BitVec 64 × BitVec 64) (m : Nat) : ∀ n, flatP f (m + n) = flatP f m ++ flatP (fun i => f (m + i)) n
  | 0 => by simp [flatP]
  | n + 1 => by rw [← Nat.add_assoc, flatP, flatP_add f m n, flatP, List.append_assoc]
theorem fl_append (l m : List (BitVec 64 × BitVec 64)) : fl (l ++ m) = fl l ++ fl m := by
  unfold fl
  rw [List.length_append, flatP_add]
  congr 1
  · exact flatP_congr _ (fun i hi => by simp [List.getD, List.getElem?_append_left hi])
  · exact flatP_congr _ (fun i hi => by simp [List.getD, List.getElem?_append_right])
theorem fl_one (p : BitVec 64 × BitVec 64) : fl [p] = [.int .u64 (nv p.1), .int .u64 (nv p.2)] := rfl
/-- The sum of powers of a row. -/
def evalL (h : BitVec 64 × BitVec 64) (l : List (BitVec 64 × BitVec 64)) : BitVec 64 × BitVec 64 := evalP h (fun i => l.getD i (0#64, 0#64)) l.length
def lenP (a b : Nat) : BitVec 64 × BitVec 64 := (BitVec.ofNat 64 a, BitVec.ofNat 64 b)
/-- The tag of bytes. -/
def tagP (sub : BitVec 64 × BitVec 64) (hd bs : List Int) : BitVec 64 × BitVec 64 := addP (evalL (enc sub (0#64, 1#64)) (prs hd ++ prs bs ++ [lenP hd.length bs.length])) (enc sub (0#64, 0#64))
/-- Bytes by a key and a number. -/
def mixL (sub : BitVec 64 × BitVec 64) (xs : List Int) : List Int := xorL xs (flowL sub xs.length)
theorem mixL_length (sub : BitVec 64 × BitVec 64) (xs : List Int) : (mixL sub xs).length = xs.length := by rw [mixL, xorL_length, flowL_length, Nat.min_self]
theorem mixL_bytes (sub : BitVec 64 × BitVec 64) {xs : List Int} (h : Bytes xs) : Bytes (mixL sub xs) := xorL_bytes h (flowL_bytes _ _)
theorem mixL_back (sub : BitVec 64 × BitVec 64) {xs : List Int} (h : Bytes xs) : mixL sub (mixL sub xs) = xs := by
  have e := mixL_length sub xs
  unfold mixL at e ⊢
  rw [e, xorL_back h (flowL_bytes _ _), flowL_length, Nat.min_self, List.take_of_length_le (Nat.le_refl _)]

/-- append of Pairs to a row of the call's own. -/
theorem wpList_appP {w : World} {ops : Array Oper} {rest : List Oper} {o : Oper} {a : Act} {Q : Exit → Act → World → Prop} (hgd : o.guard = none) (s x : Operand)
    (ho : o.op = .call { callee := .builtin .append, args := #[s, x], argTypes := #[94, 94] }) (base : Nat) (v : Value) (n : Nat) (xs : List Value) (hs : a.eval s = v) (hown : w.ownsRow base 30 2 v n xs)
    (sx : Option Addr) (l c : Nat) (f : Nat → BitVec 64 × BitVec 64) (hx : a.eval x = .slice sx l c) (hz : PRow w sx l f) (hnil : sx = none → l = 0 ∧ c = 0) (hbound : n + l ≤ 100000) (hbase : base ≤ w.heap.size)
    (h : ∀ v' w', w'.ownsRow base 30 2 v' (n + l) (xs ++ flatP f l) → Below base w w' → wpList Try.prog ops Q rest (a.put o.dst v') w') : wpList Try.prog ops Q (o :: rest) a w := by
  obtain ⟨i0, hi, hz0, hz1, hz2⟩ := info_parts Try.pairInfo
  cases sx with
  | none =>
    obtain ⟨rfl, rfl⟩ := hnil rfl
    refine wpList_append_own_none hgd s x 94 ho base 30 i0 2 Try.underlying94 hi v n _ hs hown hx (h v w ?_ (Below.refl _ _))
    simpa [flatP] using hown
  | some ad =>
    refine wpList_append_own w hgd s x 94 ho base 30 i0 _ 2 16 Try.underlying94 hi hz0 hz1 hz2 rfl (by decide) v n _ hs hown ad l c (flatP f l) hx (flatP_len f l) ?_ (flatP_one f l) (by unfold maxLen; omega) (by omega) hbase ?_
    · by_cases hl : 0 < l
      · obtain ⟨b, o, e, _, hc⟩ := hz hl
        obtain rfl : ad = ⟨b, o, none⟩ := by simpa using e
        exact PRow.news hc
      · obtain rfl : l = 0 := by omega
        intro j u hj
        simp [flatP] at hj
    · intro v' w' h1 h2 _
      exact h v' w' h1 ((Below.refl _ _).grown h2 hbase (own_block hown))
/-- A row of the call's own, as a slice of Pairs. -/
theorem own_pair_row {w : World} {base : Nat} {v : Value} {l : List (BitVec 64 × BitVec 64)} {n : Nat} (hn : l.length = n) (h : w.ownsRow base 30 2 v n (fl l)) : ∃ x c, v = .slice x n c ∧ PRow w x n (fun i => l.getD i (0#64, 0#64)) ∧ n ≤ c ∧ c ≤ maxLen ∧ (x = none → n = 0 ∧ c = 0) := by
  subst hn
  have h' := h
  obtain ⟨x, c, rfl, hp⟩ := own_prow h
  obtain ⟨_, ⟨e, h0⟩ | ⟨g, cap, cur, e, hg, hh, hnc, hcm, _⟩⟩ := h'
  · simp only [Value.slice.injEq] at e
    obtain ⟨rfl, h1, rfl⟩ := e
    exact ⟨none, 0, rfl, hp, by omega, by decide, fun _ => ⟨h1, rfl⟩⟩
  · simp only [Value.slice.injEq] at e
    obtain ⟨rfl, _, hc⟩ := e
    subst hc
    exact ⟨_, c, rfl, hp, hnc, hcm, fun e => by cases e⟩
theorem Box.prow {w : World} {b : Nat} {p : BitVec 64 × BitVec 64} (h : Box w b (nv p.1) (nv p.2)) : PRow w (some ⟨b, 0, none⟩) 1 (fun _ => p) := by
  intro _
  refine ⟨b, 0, rfl, h.lt, fun i hi => ?_⟩
  obtain rfl : i = 0 := by omega
  exact ⟨h.c0, h.c1⟩
end Go.Proofs.Ytkkehbebaokdmaa
