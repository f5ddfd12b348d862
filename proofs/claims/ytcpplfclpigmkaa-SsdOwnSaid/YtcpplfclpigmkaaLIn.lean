/- Slices of rows of bytes, in blocks of G. -/
import Derived.Test.YtcpplfclpigmkaaOff
namespace Go.Proofs.Ytcpplfclpigmkaa
open Go.RowKit
set_option maxRecDepth 20000

theorem Off.one (w : World) (b i : Nat) (u : Value) : Off (fun k => k = b) w (w.setCell ⟨b, i, Option.none⟩ u) := (Off.refl (fun k => k = b) w).setCell (p := ⟨b, i, Option.none⟩) (Or.inl rfl) u
/-- The slice in this cell has these bytes. -/
def RowInG (G : Nat → Prop) (w : World) (b o : Nat) (ys : List Int) : Prop := ∃ y c, w.cell? ⟨b, o, none⟩ = some (.slice y ys.length c) ∧ SIn G w y ys.length ys ∧ ys.length ≤ c ∧ c ≤ maxLen ∧ (y = none → ys.length = 0 ∧ c = 0) ∧ Bytes ys
theorem RowInG.of {G : Nat → Prop} {w : World} {b o n c : Nat} {y : Option Addr} {ys : List Int} (h : w.cell? ⟨b, o, none⟩ = some (.slice y n c)) (hs : SIn G w y n ys) (hc : n ≤ c) (hm : c ≤ maxLen) (hnil : y = none → n = 0 ∧ c = 0) (hb : Bytes ys) : RowInG G w b o ys := by
  obtain rfl : ys.length = n := hs.1
  exact ⟨y, c, h, hs, hc, hm, hnil, hb⟩
/-- A slice of m rows. -/
def LIn (G : Nat → Prop) (w : World) (x : Option Addr) (m : Nat) (P : List (List Int)) : Prop := P.length = m ∧ (0 < m → ∃ b o, x = some ⟨b, o, none⟩ ∧ b < w.heap.size ∧ G b ∧ ∀ i, i < m → RowInG G w b (o + i) (P.getD i []))
theorem LIn.off {F G : Nat → Prop} {w w' : World} {x : Option Addr} {m : Nat} {P : List (List Int)} (h : LIn G w x m P) (hb : Off F w w') (hd : ∀ b, b < w.heap.size → G b → ¬ F b) : LIn G w' x m P :=
  ⟨h.1, fun hm => by
    obtain ⟨b, o, e, hlt, hg, hr⟩ := h.2 hm
    refine ⟨b, o, e, Nat.lt_of_lt_of_le hlt hb.size, hg, fun i hi => ?_⟩
    obtain ⟨y, c, h1, h2, h3⟩ := hr i hi
    exact ⟨y, c, (hb.cell (p := ⟨b, o + i, none⟩) hlt (hd b hlt hg)).trans h1, h2.off hb hd, h3⟩⟩
theorem LIn.drew {G : Nat → Prop} {w : World} {x : Option Addr} {m : Nat} {P : List (List Int)} (h : LIn G w x m P) : LIn G w.drew x m P := h.off (F := fun _ => False) (Off.refl _ _).drew (fun _ _ _ h => h)
theorem lin_none (G : Nat → Prop) (w : World) (x : Option Addr) : LIn G w x 0 [] := ⟨rfl, fun h => absurd h (by omega)⟩
theorem lin_one {G : Nat → Prop} (w : World) {y : Option Addr} {n c : Nat} {ys : List Int} (hG : G w.heap.size) (hs : SIn G w y n ys) (hc : n ≤ c) (hm : c ≤ maxLen) (hnil : y = none → n = 0 ∧ c = 0) (hb : Bytes ys) :
    LIn G (w.alloc (.cells #[.slice y n c] 22)) (some ⟨w.heap.size, 0, none⟩) 1 [ys] := by
  refine ⟨rfl, fun _ => ⟨w.heap.size, 0, rfl, by rw [World.size_alloc]; omega, hG, fun i hi => ?_⟩⟩
  obtain rfl : i = 0 := by omega
  exact RowInG.of (y := y) (n := n) (c := c) (by simp) (hs.off (F := fun _ => False) ((Off.refl _ _).alloc _) (fun _ _ _ h => h)) hc hm hnil hb
theorem lin_two {G : Nat → Prop} (w : World) {y z : Option Addr} {n c k d : Nat} {ys zs : List Int} (hG : G w.heap.size) (hs : SIn G w y n ys) (hc : n ≤ c) (hm : c ≤ maxLen) (hnil : y = none → n = 0 ∧ c = 0) (hb : Bytes ys)
    (hs2 : SIn G w z k zs) (hc2 : k ≤ d) (hm2 : d ≤ maxLen) (hnil2 : z = none → k = 0 ∧ d = 0) (hb2 : Bytes zs) :
    LIn G (w.alloc (.cells #[.slice y n c, .slice z k d] 22)) (some ⟨w.heap.size, 0, none⟩) 2 [ys, zs] := by
  refine ⟨rfl, fun _ => ⟨w.heap.size, 0, rfl, by rw [World.size_alloc]; omega, hG, fun i hi => ?_⟩⟩
  match i, hi with
  | 0, _ => exact RowInG.of (y := y) (n := n) (c := c) (by simp) (hs.off (F := fun _ => False) ((Off.refl _ _).alloc _) (fun _ _ _ h => h)) hc hm hnil hb
  | 1, _ => exact RowInG.of (y := z) (n := k) (c := d) (by simp) (hs2.off (F := fun _ => False) ((Off.refl _ _).alloc _) (fun _ _ _ h => h)) hc2 hm2 hnil2 hb2
end Go.Proofs.Ytcpplfclpigmkaa
