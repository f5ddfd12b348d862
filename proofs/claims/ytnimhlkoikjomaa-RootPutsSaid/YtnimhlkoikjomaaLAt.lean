/- Rows of bytes in memory. -/
import Derived.Test.YtnimhlkoikjomaaBAt
namespace Go.Proofs.Ytnimhlkoikjomaa
open Go.RowKit
set_option maxRecDepth 20000

/-- The slice in this cell has these bytes. -/
def RowIn (w : World) (b o : Nat) (ys : List Int) : Prop := ∃ y c, w.cell? ⟨b, o, none⟩ = some (.slice y ys.length c) ∧ SAt w y ys.length ys ∧ ys.length ≤ c ∧ c ≤ maxLen ∧ (y = none → ys.length = 0 ∧ c = 0) ∧ Bytes ys
theorem RowIn.below {w w' : World} {b o : Nat} {ys : List Int} (h : RowIn w b o ys) (hb : Below w.heap.size w w') : RowIn w' b o ys := by
  obtain ⟨y, c, h1, h2, h3⟩ := h
  exact ⟨y, c, (hb.cell (p := ⟨b, o, none⟩) (World.block_lt_of_cell? w _ h1)).trans h1, h2.below hb, h3⟩
/-- A slice of m rows. -/
def LAt (w : World) (x : Option Addr) (m : Nat) (P : List (List Int)) : Prop := P.length = m ∧ (0 < m → ∃ b o, x = some ⟨b, o, none⟩ ∧ b < w.heap.size ∧ ∀ i, i < m → RowIn w b (o + i) (P.getD i []))
theorem LAt.below {w w' : World} {x : Option Addr} {m : Nat} {P : List (List Int)} (h : LAt w x m P) (hb : Below w.heap.size w w') : LAt w' x m P :=
  ⟨h.1, fun hm => by
    obtain ⟨b, o, e, hlt, hr⟩ := h.2 hm
    exact ⟨b, o, e, Nat.lt_of_lt_of_le hlt hb.size, fun i hi => (hr i hi).below hb⟩⟩
theorem LAt.drew {w : World} {x : Option Addr} {m : Nat} {P : List (List Int)} (h : LAt w x m P) : LAt w.drew x m P := h.below (Below.refl _ _).drew
theorem lat_none (w : World) (x : Option Addr) : LAt w x 0 [] := ⟨rfl, fun h => absurd h (by omega)⟩
/-- A slice of bytes in a cell. -/
theorem RowIn.of {w : World} {b o n c : Nat} {y : Option Addr} {ys : List Int} (h : w.cell? ⟨b, o, none⟩ = some (.slice y n c)) (hs : SAt w y n ys) (hc : n ≤ c) (hm : c ≤ maxLen) (hnil : y = none → n = 0 ∧ c = 0) (hb : Bytes ys) : RowIn w b o ys := by
  obtain rfl : ys.length = n := hs.1
  exact ⟨y, c, h, hs, hc, hm, hnil, hb⟩
theorem lat_one (w : World) {y : Option Addr} {n c : Nat} {ys : List Int} (hs : SAt w y n ys) (hc : n ≤ c) (hm : c ≤ maxLen) (hnil : y = none → n = 0 ∧ c = 0) (hb : Bytes ys) :
    LAt (w.alloc (.cells #[.slice y n c] 28)) (some ⟨w.heap.size, 0, none⟩) 1 [ys] := by
  refine ⟨rfl, fun _ => ⟨w.heap.size, 0, rfl, by rw [World.size_alloc]; omega, fun i hi => ?_⟩⟩
  obtain rfl : i = 0 := by omega
  exact RowIn.of (y := y) (n := n) (c := c) (by simp) (hs.below ((Below.refl _ _).alloc (Nat.le_refl _) _)) hc hm hnil hb
theorem lat_two (w : World) {y z : Option Addr} {n c k d : Nat} {ys zs : List Int} (hs : SAt w y n ys) (hc : n ≤ c) (hm : c ≤ maxLen) (hnil : y = none → n = 0 ∧ c = 0) (hb : Bytes ys)
    (hs2 : SAt w z k zs) (hc2 : k ≤ d) (hm2 : d ≤ maxLen) (hnil2 : z = none → k = 0 ∧ d = 0) (hb2 : Bytes zs) :
    LAt (w.alloc (.cells #[.slice y n c, .slice z k d] 28)) (some ⟨w.heap.size, 0, none⟩) 2 [ys, zs] := by
  refine ⟨rfl, fun _ => ⟨w.heap.size, 0, rfl, by rw [World.size_alloc]; omega, fun i hi => ?_⟩⟩
  match i, hi with
  | 0, _ => exact RowIn.of (y := y) (n := n) (c := c) (by simp) (hs.below ((Below.refl _ _).alloc (Nat.le_refl _) _)) hc hm hnil hb
  | 1, _ => exact RowIn.of (y := z) (n := k) (c := d) (by simp) (hs2.below ((Below.refl _ _).alloc (Nat.le_refl _) _)) hc2 hm2 hnil2 hb2
theorem At.lit (w : World) (zs : List Int) (fr : Nat × Nat) : At (w.alloc (.cells (zs.map (Value.int .u8)).toArray 5 fr)) w.heap.size 0 zs := by
  intro i hi
  rw [Nat.zero_add, World.cell?_alloc_mark]
  simp [hi]
theorem sat_lit (w : World) (zs : List Int) (fr : Nat × Nat) (n : Nat) (hn : zs.length = n) : SAt (w.alloc (.cells (zs.map (Value.int .u8)).toArray 5 fr)) (some ⟨w.heap.size, 0, none⟩) n zs :=
  (At.lit w zs fr).sat (by simp) hn
theorem flat_take (P : List (List Int)) (k : Nat) (h : k < P.length) : (P.take (k + 1)).flatten = (P.take k).flatten ++ P.getD k [] := by
  rw [List.take_succ_eq_append_getElem h, List.flatten_append]
  simp [h]
theorem LAt.bytes {w : World} {x : Option Addr} {m : Nat} {P : List (List Int)} (h : LAt w x m P) : Bytes P.flatten := by
  intro z hz
  obtain ⟨ys, hy, hzy⟩ := List.mem_flatten.1 hz
  obtain ⟨i, hi, rfl⟩ := List.getElem_of_mem hy
  obtain ⟨b, o, _, _, hr⟩ := h.2 (by rw [← h.1]; omega)
  obtain ⟨_, _, _, _, _, _, _, hb⟩ := hr i (by rw [← h.1]; exact hi)
  simp only [List.getD, List.getElem?_eq_getElem hi, Option.getD_some] at hb
  exact hb z hzy
end Go.Proofs.Ytnimhlkoikjomaa
