/- A device that nobody trusts, plain; what its calls leave, in memory. -/
import Derived.Test.YtcpplfclpigmkaaPowSaid
import Derived.Test.YtcpplfclpigmkaaKept
import Derived.Test.YtcpplfclpigmkaaLIn
import Derived.Test.YtcpplfclpigmkaaRowsAt
import Derived.Test.YtcpplfclpigmkaaFit
namespace Go.Proofs.Ytcpplfclpigmkaa
open Go.RowKit
set_option maxRecDepth 20000

/-- What lasts, what waits, all that was done. -/
structure SsdSt where
  B : List Int
  Wt : List (Nat × List Int)
  T : List (Int × List Int)
/-- Bytes laid over others, in order. -/
def layW (b : List Int) (L : List (Nat × List Int)) : List Int := L.foldl (fun b o => splice b o.1 o.2) b
def SsdSt.cur (s : SsdSt) : List Int := layW s.B s.Wt
/-- Of what waits, that whose place in K is true. -/
def keptOf (L : List (Nat × List Int)) (K : List Bool) : List (Nat × List Int) := ((L.zip K).filter (·.2)).map (·.1)
def SsdSt.write (s : SsdSt) (off : Nat) (xs : List Int) : SsdSt := ⟨s.B, s.Wt ++ [(off, xs)], s.T ++ [((off : Int), xs)]⟩
def SsdSt.settle (s : SsdSt) : SsdSt := ⟨s.cur, [], s.T ++ [(-1, [])]⟩
def SsdSt.crash (s : SsdSt) (K : List Bool) : SsdSt := ⟨layW s.B (keptOf s.Wt K), [], s.T⟩
def SsdSt.smash (s : SsdSt) (off : Nat) (xs : List Int) : SsdSt := ⟨splice s.cur off xs, [], s.T⟩
def SsdSt.lay (s : SsdSt) (xs : List Int) : SsdSt := ⟨xs, [], s.T⟩
/-- Bools in memory. -/
def KIn (G : Nat → Prop) (w : World) (x : Option Addr) (m : Nat) (K : List Bool) : Prop := K.length = m ∧ (0 < m → ∃ b o, x = some ⟨b, o, none⟩ ∧ b < w.heap.size ∧ G b ∧ ∀ i, i < m → w.cell? ⟨b, o + i, none⟩ = some (.bool (K.getD i false)))
theorem KIn.none (G : Nat → Prop) (w : World) (x : Option Addr) : KIn G w x 0 [] := ⟨rfl, fun h => absurd h (by omega)⟩
theorem KIn.off {F G : Nat → Prop} {w w' : World} {x : Option Addr} {m : Nat} {K : List Bool} (h : KIn G w x m K) (hb : Off F w w') (hd : ∀ b, b < w.heap.size → G b → ¬ F b) : KIn G w' x m K :=
  ⟨h.1, fun hm => by
    obtain ⟨b, o, e, hlt, hg, hr⟩ := h.2 hm
    exact ⟨b, o, e, Nat.lt_of_lt_of_le hlt hb.size, hg, fun i hi => (hb.cell (p := ⟨b, o + i, Option.none⟩) hlt (hd b hlt hg)).trans (hr i hi)⟩⟩
theorem KIn.mono {G G' : Nat → Prop} {w : World} {x : Option Addr} {m : Nat} {K : List Bool} (h : KIn G w x m K) (hd : ∀ b, b < w.heap.size → G b → G' b) : KIn G' w x m K :=
  ⟨h.1, fun hm => by
    obtain ⟨b, o, e, hlt, hg, hr⟩ := h.2 hm
    exact ⟨b, o, e, hlt, hd b hlt hg, hr⟩⟩
/-- A write, or a barrier, in memory. -/
def OpIn (G : Nat → Prop) (w : World) (b o : Nat) (p : Int × List Int) : Prop := w.cell? ⟨b, o, none⟩ = some (.int .i64 p.1) ∧ RowInG G w b (o + 1) p.2
/-- A slice of these. -/
def TIn (G : Nat → Prop) (w : World) (x : Option Addr) (m : Nat) (L : List (Int × List Int)) : Prop := L.length = m ∧ (0 < m → ∃ b o, x = some ⟨b, o, none⟩ ∧ b < w.heap.size ∧ G b ∧ ∀ i, i < m → OpIn G w b (o + i * 2) (L.getD i (0, [])))
theorem RowInG.off {F G : Nat → Prop} {w w' : World} {b o : Nat} {ys : List Int} (h : RowInG G w b o ys) (hb : Off F w w') (hlt : b < w.heap.size) (hF : ¬ F b) (hd : ∀ b, b < w.heap.size → G b → ¬ F b) : RowInG G w' b o ys := by
  obtain ⟨y, c, h1, h2, h3⟩ := h
  exact ⟨y, c, (hb.cell (p := ⟨b, o, none⟩) hlt hF).trans h1, h2.off hb hd, h3⟩
theorem TIn.off {F G : Nat → Prop} {w w' : World} {x : Option Addr} {m : Nat} {L : List (Int × List Int)} (h : TIn G w x m L) (hb : Off F w w') (hd : ∀ b, b < w.heap.size → G b → ¬ F b) : TIn G w' x m L :=
  ⟨h.1, fun hm => by
    obtain ⟨b, o, e, hlt, hg, hr⟩ := h.2 hm
    exact ⟨b, o, e, Nat.lt_of_lt_of_le hlt hb.size, hg, fun i hi => ⟨(hb.cell (p := ⟨b, o + i * 2, none⟩) hlt (hd b hlt hg)).trans (hr i hi).1, (hr i hi).2.off hb hlt (hd b hlt hg) hd⟩⟩⟩
/-- New memory, none of it the object's. -/
abbrev NewOf (w : World) (F : Nat → Prop) : Nat → Prop := fun k => w.heap.size ≤ k ∧ ¬ F k
/-- None of the new memory is frozen. -/
abbrev Soft (w w' : World) : Prop := ∀ k i, w.heap.size ≤ k → w'.frozen? ⟨k, i, none⟩ = false
end Go.Proofs.Ytcpplfclpigmkaa
