/- NonceOnce: what stands in memory on the way. -/
import Derived.Test.YtcplekodbgmneaaObjB
import Derived.Test.YtcplekodbgmneaaNonLaws
namespace Go.Proofs.Ytcplekodbgmneaa
open Go.RowKit
set_option maxRecDepth 20000

variable {Inv : (Nat → Prop) → World → Value → Nat × Nat → Prop}
theorem Try.nonInfo : (Try.prog.info? 34).map (fun i => (i.zero, i.size, i.bytes)) = some (some (.agg #[.int .u32 0, .int .u32 0, .int .u64 0]), 3, 16) := by kernel_rfl
/-- The Version of the i-th of the row: by turns of either boot. -/
def verAt (A B i : Nat) : Nat := (if i % 2 = 0 then A else B) * 4294967296 + i / 2 + 1
def nonC (ep s : Int) (A B i : Nat) : List Value := [.int .u32 ep, .int .u32 s, .int .u64 (verAt A B i : Int)]
theorem ver_inj {A B i k : Nat} (hAB : A ≠ B) (hi : i < 200) (hk : k < i) : verAt A B i ≠ verAt A B k := by
  unfold verAt
  split <;> split <;> omega
theorem ver_even (A B k : Nat) : verAt A B (2 * k) = A * 4294967296 + k + 1 := by
  unfold verAt
  rw [if_pos (by omega)]
  omega
theorem ver_odd (A B k : Nat) : verAt A B (2 * k + 1) = B * 4294967296 + k + 1 := by
  unfold verAt
  rw [if_neg (by omega)]
  omega
structure OnSt (Inv : (Nat → Prop) → World → Value → Nat × Nat → Prop) (w : World) (a1 a2 : Addr) (ep s : Int) (A B : Nat) (F G : Nat → Prop) (i k m : Nat) (v : Value) (wr : World) : Prop where
  duo : Duo Inv Inv w F (.pointer (some a1)) (A, i) G (.pointer (some a2)) (B, k) wr
  own : wr.ownsRow w.heap.size 34 3 v m (flatG (nonC ep s A B) m)
  vF : ∀ q, v.ownBlock = some q → ¬ F q ∧ ¬ G q
section
variable {w wr wr' : World} {a1 a2 : Addr} {ep s : Int} {A B : Nat} {F G : Nat → Prop} {i k m : Nat} {v : Value}
theorem own_lt {base e size n : Nat} {xs : List Value} (h : wr.ownsRow base e size v n xs) {q : Nat} (hq : v.ownBlock = some q) : q < wr.heap.size := by
  obtain ⟨cur, hh⟩ := own_type h hq
  obtain ⟨hl, _⟩ := Array.getElem?_eq_some_iff.1 hh
  exact hl
theorem OnSt.o1 (hO : MkIs Inv) (h : OnSt Inv w a1 a2 ep s A B F G i k m v wr) {F' : Nat → Prop} {i' : Nat} (hK : KeptG Inv F wr (.pointer (some a1)) F' wr' (A, i')) : OnSt Inv w a1 a2 ep s A B F' G i' k m v wr' :=
  ⟨h.duo.o1 hO.base hK, own_off h.own hK.off (fun q hq => (h.vF q hq).1), fun q hq => ⟨fun hf => (hK.sub q hf).elim (h.vF q hq).1 (fun e => by have := own_lt h.own hq; omega), (h.vF q hq).2⟩⟩
theorem OnSt.o2 (hO : MkIs Inv) (h : OnSt Inv w a1 a2 ep s A B F G i k m v wr) {G' : Nat → Prop} {k' : Nat} (hK : KeptG Inv G wr (.pointer (some a2)) G' wr' (B, k')) : OnSt Inv w a1 a2 ep s A B F G' i k' m v wr' :=
  ⟨h.duo.o2 hO.base hK, own_off h.own hK.off (fun q hq => (h.vF q hq).2), fun q hq => ⟨(h.vF q hq).1, fun hf => (hK.sub q hf).elim (h.vF q hq).2 (fun e => by have := own_lt h.own hq; omega)⟩⟩
theorem OnSt.quiet (hO : MkIs Inv) (h : OnSt Inv w a1 a2 ep s A B F G i k m v wr) (hb : Below wr.heap.size wr wr') : OnSt Inv w a1 a2 ep s A B F G i k m v wr' :=
  ⟨h.duo.quiet hO.base hO.base hb, own_off h.own (Off.of_below (F := fun _ => False) hb) (fun _ _ h => h), h.vF⟩
/-- Behind append: one of either more. -/
theorem OnSt.app (hO : MkIs Inv) (h : OnSt Inv w a1 a2 ep s A B F G i k m v wr) {v' : Value} {m' : Nat} (ho : wr'.ownsRow w.heap.size 34 3 v' m' (flatG (nonC ep s A B) m')) (hg : wr.grownBy wr' v.ownBlock) (hv : ∀ q, v'.ownBlock = some q → v.ownBlock = some q ∨ wr.heap.size ≤ q) : OnSt Inv w a1 a2 ep s A B F G i k m' v' wr' := by
  have hoff : Off (fun q => v.ownBlock = some q) wr wr' := (Off.refl _ _).grown hg (fun q hq => Or.inl hq)
  refine ⟨h.duo.off hO.base hO.base hoff (fun q hf hq => (h.vF q hq).1 hf) (fun q hf hq => (h.vF q hq).2 hf) (fun q hq => own_block h.own q hq), ho, fun q hq => (hv q hq).elim (h.vF q) (fun e => ⟨fun hf => by have := hO.base.lt h.duo.one q hf; omega, fun hf => by have := hO.base.lt h.duo.two q hf; omega⟩)⟩
/-- The j-th stands in the row. -/
theorem OnSt.cells (h : OnSt Inv w a1 a2 ep s A B F G i k m v wr) {j : Nat} (hj : j < m) :
    ∃ g cap, v = .slice (some ⟨g, 0, none⟩) m cap ∧ m ≤ cap ∧ wr.cell? ⟨g, j * 3, none⟩ = some (.int .u32 ep) ∧ wr.cell? ⟨g, j * 3 + 1, none⟩ = some (.int .u32 s) ∧ wr.cell? ⟨g, j * 3 + 2, none⟩ = some (.int .u64 (verAt A B j : Int)) := by
  have hs : ∀ j, (nonC ep s A B j).length = 3 := fun _ => rfl
  have c0 := flatG_get hs m j 0 hj (by decide)
  have c1 := flatG_get hs m j 1 hj (by decide)
  have c2 := flatG_get hs m j 2 hj (by decide)
  obtain ⟨g, cap, e, hc, hl, d0⟩ := own_cell h.own c0
  obtain ⟨g1, cap1, e1, _, _, d1⟩ := own_cell h.own c1
  obtain ⟨g2, cap2, e2, _, _, d2⟩ := own_cell h.own c2
  obtain ⟨rfl, rfl⟩ : g1 = g ∧ cap1 = cap := by rw [e] at e1; simp at e1; exact ⟨e1.1.symm, e1.2.symm⟩
  obtain ⟨rfl, rfl⟩ : g2 = g1 ∧ cap2 = cap1 := by rw [e] at e2; simp at e2; exact ⟨e2.1.symm, e2.2.symm⟩
  exact ⟨_, _, e, hc, d0, d1, d2⟩
theorem OnSt.at_ {g cap : Nat} (h : OnSt Inv w a1 a2 ep s A B F G i k m (.slice (some ⟨g, 0, none⟩) m cap) wr) {j : Nat} (hj : j < m) :
    wr.cell? ⟨g, j * 3, none⟩ = some (.int .u32 ep) ∧ wr.cell? ⟨g, j * 3 + 1, none⟩ = some (.int .u32 s) ∧ wr.cell? ⟨g, j * 3 + 2, none⟩ = some (.int .u64 (verAt A B j : Int)) := by
  obtain ⟨g2, cap2, e, _, h⟩ := h.cells hj
  obtain ⟨rfl, -⟩ : g = g2 ∧ cap = cap2 := by simpa using e
  exact h
end
theorem news6 (T : TypeId) (w : World) (a b c d e f : Value) (j : Nat) (u : Value) (h : [a, b, c, d, e, f][j]? = some u) : (w.alloc (.cells #[a, b, c, d, e, f] T)).cell? ((⟨w.heap.size, 0, none⟩ : Addr).add j) = some u := by
  rw [add_plain', Nat.zero_add, World.cell?_alloc_new]
  simpa using h
end Go.Proofs.Ytcplekodbgmneaa
