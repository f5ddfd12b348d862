/- The same of slices of bytes. -/
import Derived.Test.YtnimhlkoikjomaaBAt
import Derived.Test.YtnimhlkoikjomaaOffA
namespace Go.Proofs.Ytnimhlkoikjomaa
open Go.RowKit
set_option maxRecDepth 20000

theorem At.off {F : Nat → Prop} {w w' : World} {b o : Nat} {xs : List Int} (h : At w b o xs) (hb : Off F w w') (hlt : b < w.heap.size) (hn : ¬ F b) : At w' b o xs :=
  fun i hi => (hb.cell (p := ⟨b, o + i, Option.none⟩) hlt hn).trans (h i hi)
/-- A slice of bytes that lies in a block of G. -/
def SIn (G : Nat → Prop) (w : World) (x : Option Addr) (l : Nat) (ys : List Int) : Prop := ys.length = l ∧ (0 < l → ∃ b o, x = some ⟨b, o, Option.none⟩ ∧ b < w.heap.size ∧ G b ∧ At w b o ys)
theorem SIn.sat {G : Nat → Prop} {w : World} {x : Option Addr} {l : Nat} {ys : List Int} (h : SIn G w x l ys) : SAt w x l ys :=
  ⟨h.1, fun hl => by
    obtain ⟨b, o, e, hlt, _, ha⟩ := h.2 hl
    exact ⟨b, o, e, hlt, ha⟩⟩
theorem SIn.off {F G : Nat → Prop} {w w' : World} {x : Option Addr} {l : Nat} {ys : List Int} (h : SIn G w x l ys) (hb : Off F w w') (hd : ∀ b, b < w.heap.size → G b → ¬ F b) : SIn G w' x l ys :=
  ⟨h.1, fun hl => by
    obtain ⟨b, o, e, hlt, hg, ha⟩ := h.2 hl
    exact ⟨b, o, e, Nat.lt_of_lt_of_le hlt hb.size, hg, ha.off hb hlt (hd b hlt hg)⟩⟩
theorem SIn.mono {G G' : Nat → Prop} {w : World} {x : Option Addr} {l : Nat} {ys : List Int} (h : SIn G w x l ys) (hd : ∀ b, b < w.heap.size → G b → G' b) : SIn G' w x l ys :=
  ⟨h.1, fun hl => by
    obtain ⟨b, o, e, hlt, hg, ha⟩ := h.2 hl
    exact ⟨b, o, e, hlt, hd b hlt hg, ha⟩⟩
theorem SIn.none (G : Nat → Prop) (w : World) (x : Option Addr) : SIn G w x 0 [] := ⟨rfl, fun h => absurd h (by omega)⟩
theorem SAt.inn {w : World} {x : Option Addr} {l : Nat} {ys : List Int} (h : SAt w x l ys) : SIn (· < w.heap.size) w x l ys :=
  ⟨h.1, fun hl => by
    obtain ⟨b, o, e, hlt, ha⟩ := h.2 hl
    exact ⟨b, o, e, hlt, hlt, ha⟩⟩
theorem own_sin {w : World} {base n : Nat} {v : Value} {xs : List Int} (hn : xs.length = n) (h : w.ownsRow base 5 1 v n (xs.map (Value.int .u8))) : ∃ x c, v = .slice x n c ∧ SIn (fun b => v.ownBlock = some b) w x n xs ∧ n ≤ c ∧ c ≤ maxLen ∧ (x = Option.none → n = 0 ∧ c = 0) := by
  have hb := own_block h
  obtain ⟨x, c, rfl, hs, h1, h2, h3⟩ := own_slice hn h
  refine ⟨x, c, rfl, ⟨hs.1, fun hl => ?_⟩, h1, h2, h3⟩
  obtain ⟨b, o, rfl, hlt, ha⟩ := hs.2 hl
  exact ⟨b, o, rfl, hlt, rfl, ha⟩

end Go.Proofs.Ytnimhlkoikjomaa
