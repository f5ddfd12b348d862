/- LkImpl ViewB ViewN ViewC ViewG ViewLk RegionM: texts laid together. -/
import Derived.Test.YtkkehbebaokdmaaLkImB
import Derived.Test.YtkkehbebaokdmaaM01
import Derived.Deep.Strs
import Derived.Test.YtkkehbebaokdmaaM03
import Derived.Test.YtkkehbebaokdmaaM08
import Derived.Deep.Slices
import Derived.Test.YtkkehbebaokdmaaM14
import Derived.Test.YtkkehbebaokdmaaLkPlaysA
import Derived.Test.YtkkehbebaokdmaaM02

/- The landed lock is what the statements ask. -/
namespace Go.Proofs.Ytkkehbebaokdmaa
open Go.RowKit
set_option maxRecDepth 20000

theorem lock_is : LockIs LInv where
  stay := fun h => h.stay
  lt := fun h => h.lt
  ptr := fun h => by
    obtain ⟨b, e, _⟩ := h
    exact ⟨_, e⟩
  none_ := fun h hi => by
    obtain ⟨b, e, ⟨rfl, _⟩ | ⟨h1, _⟩⟩ := h
    · exact ⟨rfl, rfl⟩
    · rw [hi] at h1
      cases h1
  plain := fun {F w v st} h hi {x n xs} hs => by
    obtain ⟨b, e, ⟨rfl, hb, hF⟩ | ⟨h1, _⟩⟩ := h
    · exact (sat_not hb.not8 hs).mono (fun k _ h hf => h ((hF k).1 hf))
    · rw [hi] at h1
      cases h1
  real := ireal
  ideal := iideal orc_is
  seal_ := iseal8 orc_is
  open_ := iopen8 orc_is
  sum := isum8 orc_is
  issued := iissued8 orc_is
  twice := itwice8 orc_is
  sealNil := isealNil8
  openNil := iopenNil8
  sumNil := isumNil8
  issuedNil := iissuedNil8
  twiceNil := itwiceNil8
end Go.Proofs.Ytkkehbebaokdmaa


/- A slice of bytes that came in, as SAt. -/
namespace Go.Proofs.Ytkkehbebaokdmaa
open Go.ChangeShapes Go.WideShapes Go.ChangeAt Go.RowKit
set_option maxRecDepth 20000

theorem view_sat {H : Type} {enc : TypeId × Value → H} {W : World} {base : Nat} {v : Value} {d : DataW H} {p : List MemPlace}
    (hok : Value.okWide Try.prog W .any base 27 v) (h : DataW.Trod enc Try.prog W 0 (fun _ => true) true 27 v d p) (hlt : ∀ x ∈ p, x.block < W.heap.size) :
    ∃ (x : Option Addr) (n c : Nat) (xs : List Int), v = .slice x n c ∧ n ≤ c ∧ c ≤ maxLen ∧ Bytes xs ∧ SAt W x n xs ∧ (x = none → n = 0 ∧ c = 0) := by
  have hv := view_bytes hok h hlt
  obtain ⟨a, n, cap, xs, rfl, hn, hnc, hcm, hx, hat⟩ := hv
  refine ⟨a, n, cap, xs, rfl, hnc, hcm, hx, ⟨hn, fun hl => ?_⟩, fun e => ?_⟩
  · rcases hat with h | ⟨b, off, e, hb, ha⟩
    · omega
    · exact ⟨b, off, e, hb, ha⟩
  · subst e
    obtain ⟨fuel, hf⟩ := h
    rcases open_ints Try.underlying27 Try.underlying5 Try.cells5 hf with ⟨hcs, _⟩ | ⟨a, len', cap', zs, hcs, _⟩
    · simp [Value.cells] at hcs
      exact hcs
    · simp [Value.cells] at hcs
end Go.Proofs.Ytkkehbebaokdmaa


/- A Nonce that came in by value. -/
namespace Go.Proofs.Ytkkehbebaokdmaa
open Go.ChangeShapes Go.WideShapes Go.ChangeAt Go.RowKit
set_option maxRecDepth 20000

theorem Try.cells33 : Try.prog.cellsOf 33 = 1 := by kernel_rfl
theorem Try.cells35 : Try.prog.cellsOf 35 = 3 := by kernel_rfl
theorem three_of {α : Type} (cs : Array α) (h : cs.size = 3) : ∃ a b c, cs = #[a, b, c] := by
  obtain ⟨l⟩ := cs
  match l, h with
  | [a, b, c], _ => exact ⟨a, b, c, rfl⟩
theorem word32_of {a : Int} (h : (Lit.int .u32 a).wf = true) : ∃ x : BitVec 32, a = nv32 x := by
  have hx : 0 ≤ a ∧ a ≤ 4294967295 := by simpa [Lit.wf, IntKind.min, IntKind.max, IntKind.signed, IntKind.bits] using h
  exact ⟨BitVec.ofInt 32 a, (nv32_of a hx.1 (by omega)).symm⟩
theorem view_nonce {H : Type} {enc : TypeId × Value → H} {W : World} {base : Nat} {v : Value} {d : DataW H} {p : List MemPlace}
    (hok : Value.okWide Try.prog W .any base 35 v) (h : DataW.Trod enc Try.prog W 0 (fun _ => true) true 35 v d p) :
    ∃ n : Nn, v = .agg #[.int .u32 (nv32 n.1), .int .u32 (nv32 n.2.1), .int .u64 (nv n.2.2)] := by
  simp only [Value.okWide, Try.underlying35] at hok
  obtain ⟨cs, rfl, hsz, _⟩ := hok
  rw [Try.cells35] at hsz
  obtain ⟨c0, c1, c2, rfl⟩ := three_of cs hsz
  obtain ⟨fuel, hf⟩ := h
  obtain ⟨y0, y1, y2, m, _, _, h0, h1, h2⟩ := Deep.trod_struct3 Try.underlying35 hf
  simp [Try.cells28, Try.cells33, Value.cells] at h0 h1 h2
  obtain ⟨a, e0, _, wa⟩ := DataW.trod_int Try.underlying33 h0
  obtain ⟨b, e1, _, wb⟩ := DataW.trod_int Try.underlying33 h1
  obtain ⟨c, e2, _, wc⟩ := DataW.trod_int Try.underlying28 h2
  simp at e0 e1 e2
  subst e0 e1 e2
  obtain ⟨x, rfl⟩ := word32_of wa
  obtain ⟨y, rfl⟩ := word32_of wb
  obtain ⟨z, rfl⟩ := word_of wc
  exact ⟨(x, y, z), rfl⟩
end Go.Proofs.Ytkkehbebaokdmaa


/- A Pair, a Nonce and a slice of bytes that came in, cell by cell. -/
namespace Go.Proofs.Ytkkehbebaokdmaa
open Go.ChangeShapes Go.WideShapes Go.ChangeAt Go.RowKit
set_option maxRecDepth 20000

theorem Try.cells27 : Try.prog.cellsOf 27 = 1 := by kernel_rfl
theorem pair_cells {H : Type} {enc : TypeId × Value → H} {W : World} {fuel : Nat} {cs : List Value} {e : DataW H × List MemPlace} (h : DataW.trod enc Try.prog W 0 (fun _ => true) true fuel 30 cs = some e) :
    ∃ q : BitVec 64 × BitVec 64, cs = [.int .u64 (nv q.1), .int .u64 (nv q.2)] := by
  obtain ⟨xs, m, _, _, hcl, hl, hx⟩ := DataW.trod_array Try.underlying30 h
  rw [Try.cells30] at hcl
  match cs, hcl with
  | [c0, c1], _ =>
    have h0 := hx 0 (by decide)
    have h1 := hx 1 (by decide)
    simp [Try.cells28] at h0 h1
    rw [List.getElem?_eq_getElem (show 0 < xs.length by omega)] at h0
    rw [List.getElem?_eq_getElem (show 1 < xs.length by omega)] at h1
    obtain ⟨a, e0, _, wa⟩ := DataW.trod_int Try.underlying28 h0
    obtain ⟨b, e1, _, wb⟩ := DataW.trod_int Try.underlying28 h1
    simp at e0 e1
    subst e0 e1
    obtain ⟨x, rfl⟩ := word_of wa
    obtain ⟨y, rfl⟩ := word_of wb
    exact ⟨(x, y), rfl⟩
theorem sat_cells {H : Type} {enc : TypeId × Value → H} {W : World} {fuel : Nat} {v : Value} {e : DataW H × List MemPlace} (h : DataW.trod enc Try.prog W 0 (fun _ => true) true fuel 27 [v] = some e) (hlt : ∀ q ∈ e.2, q.block < W.heap.size) :
    ∃ (x : Option Addr) (n c : Nat) (xs : List Int), v = .slice x n c ∧ n ≤ c ∧ c ≤ maxLen ∧ Bytes xs ∧ SAt W x n xs ∧ (x = none → n = 0 ∧ c = 0) := by
  rcases open_ints Try.underlying27 Try.underlying5 Try.cells5 h with ⟨hcs, hx⟩ | ⟨a, len, cap, zs, hcs, _, hl, hm, hz, hx, hcell, hwz⟩
  · simp at hcs
    subst hcs
    exact ⟨none, 0, 0, [], rfl, Nat.le_refl _, Nat.zero_le _, (fun x hx => by cases hx), SAt.none _ _, fun _ => ⟨rfl, rfl⟩⟩
  · simp at hcs
    subst hcs
    subst hx
    simp only [if_true] at hz
    have hlen : (zs.take len).length = len := by rw [List.length_take]; omega
    refine ⟨some a, len, cap, zs.take len, rfl, hl, hm, fun x hx => u8_range (hwz x (List.mem_of_mem_take hx)), ⟨hlen, fun hl0 => ?_⟩, fun e => by cases e⟩
    obtain ⟨b, off, spot⟩ := a
    have hspot : spot = none := by simpa [Addr.add] using World.cell?_spot (hcell 0 (by omega))
    subst hspot
    refine ⟨b, off, rfl, hlt (.cell b off) (MemPlace.mem_row.2 ⟨0, by omega, by simp⟩), fun i hi => ?_⟩
    rw [hlen] at hi
    rw [← add_plain', hcell i (by omega)]
    simp [hi]
theorem nonce_cells {H : Type} {enc : TypeId × Value → H} {W : World} {fuel : Nat} {c0 c1 c2 : Value} {e : DataW H × List MemPlace} (h : DataW.trod enc Try.prog W 0 (fun _ => true) true fuel 35 [c0, c1, c2] = some e) :
    ∃ n : Nn, c0 = .int .u32 (nv32 n.1) ∧ c1 = .int .u32 (nv32 n.2.1) ∧ c2 = .int .u64 (nv n.2.2) := by
  obtain ⟨y0, y1, y2, m, _, _, h0, h1, h2⟩ := Deep.trod_struct3 Try.underlying35 h
  simp [Try.cells28, Try.cells33] at h0 h1 h2
  obtain ⟨a, e0, _, wa⟩ := DataW.trod_int Try.underlying33 h0
  obtain ⟨b, e1, _, wb⟩ := DataW.trod_int Try.underlying33 h1
  obtain ⟨c, e2, _, wc⟩ := DataW.trod_int Try.underlying28 h2
  simp at e0 e1 e2
  subst e0 e1 e2
  obtain ⟨x, rfl⟩ := word32_of wa
  obtain ⟨y, rfl⟩ := word32_of wb
  obtain ⟨z, rfl⟩ := word_of wc
  exact ⟨(x, y, z), rfl, rfl, rfl⟩
end Go.Proofs.Ytkkehbebaokdmaa


/- A slice of structs that came in. -/
namespace Go.Proofs.Ytkkehbebaokdmaa
open Go.ChangeShapes Go.WideShapes Go.ChangeAt Go.RowKit Go.Deep
set_option maxRecDepth 20000

theorem view_each {α : Type} [Inhabited α] {T E size : Nat} (hT : Try.prog.underlying T = some (.slice E)) (hE : Try.prog.cellsOf E = size) (h0 : 0 < size) {R : World → List Value → α → Prop} {H : Type} {enc : TypeId × Value → H} {W : World} {base : Nat} {v : Value} {d : DataW H} {p : List MemPlace}
    (each : ∀ (fuel : Nat) (cs : List Value) (e : DataW H × List MemPlace), cs.length = size → DataW.trod enc Try.prog W 0 (fun _ => true) true fuel E cs = some e → (∀ q ∈ e.2, q.block < W.heap.size) → ∃ a, R W cs a)
    (hok : Value.okWide Try.prog W .any base T v) (h : DataW.Trod enc Try.prog W 0 (fun _ => true) true T v d p) (hlt : ∀ x ∈ p, x.block < W.heap.size) :
    ∃ (x : Option Addr) (m c : Nat) (L : List α), v = .slice x m c ∧ (m ≤ c ∧ c ≤ maxLen ∧ (x = none → m = 0 ∧ c = 0)) ∧ RowsAt size R W x m L := by
  obtain ⟨a0, len, cap, rfl⟩ := okWide_slice hT hok
  obtain ⟨fuel, hf⟩ := h
  rcases open_slice hT hf with ⟨hcs, _⟩ | ⟨a, len', cap', m, n, D, Pl, hcs, _, hl, hm, hmm, hx, hel⟩
  · simp [Value.cells] at hcs
    obtain ⟨rfl, rfl, rfl⟩ := hcs
    exact ⟨none, 0, 0, [], rfl, ⟨Nat.le_refl _, Nat.zero_le _, fun _ => ⟨rfl, rfl⟩⟩, rfl, fun h => absurd h (by omega)⟩
  · simp [Value.cells] at hcs
    obtain ⟨rfl, rfl, rfl⟩ := hcs
    simp only [Prod.mk.injEq] at hx
    rw [hE] at hel
    have hlm : len ≤ m := by rw [hmm]; split <;> omega
    have each' : ∀ i, ∃ A : α, i < len → ∃ cs, cs.length = size ∧ (∀ j u, cs[j]? = some u → W.cell? ((a.add (i * size)).add j) = some u) ∧ R W cs A := by
      intro i
      by_cases hi : i < len
      · obtain ⟨cs, hc, ht⟩ := hel i (by omega)
        have hs := World.cells?_some hc
        obtain ⟨A, r⟩ := each _ _ _ hs.2.1 ht (fun q hq => hlt q (by rw [hx.2]; exact List.mem_append_right _ (List.mem_flatMap.2 ⟨i, List.mem_range.2 (by omega), hq⟩)))
        refine ⟨A, fun _ => ⟨cs, hs.2.1, fun j u hj => ?_, r⟩⟩
        have hj10 : j < size := by
          rcases Nat.lt_or_ge j cs.length with h' | h'
          · rw [hs.2.1] at h'; exact h'
          · rw [List.getElem?_eq_none h'] at hj
            cases hj
        have := hs.2.2 j hj10
        rw [this]
        exact hj
      · exact ⟨default, fun h => absurd h hi⟩
    obtain ⟨f, hf2⟩ := Classical.axiomOfChoice each'
    refine ⟨some a, len, cap, (List.range len).map f, rfl, ⟨hl, hm, fun e => by cases e⟩, by simp, fun hn => ?_⟩
    obtain ⟨b, off, spot⟩ := a
    obtain ⟨cs, hcl, hc0, _⟩ := hf2 0 hn
    have hcell0 := hc0 0 cs[0] (List.getElem?_eq_getElem (by omega))
    have hspot : spot = none := by simpa [Addr.add] using World.cell?_spot hcell0
    subst hspot
    refine ⟨b, off, rfl, World.block_lt_of_cell? W _ (by simpa [add_plain'] using hcell0), fun i hi => ?_⟩
    rw [show ((List.range len).map f).getD i default = f i from by simp [hi]]
    obtain ⟨cs, hcl, hc1, r⟩ := hf2 i hi
    refine ⟨cs, hcl, fun j u hj => ?_, r⟩
    have := hc1 j u hj
    rw [add_plain', add_plain'] at this
    exact this
end Go.Proofs.Ytkkehbebaokdmaa


/- A slice of a lock's acts that came in. -/
namespace Go.Proofs.Ytkkehbebaokdmaa
open Go.ChangeShapes Go.WideShapes Go.ChangeAt Go.RowKit Go.Deep
set_option maxRecDepth 20000

theorem Try.cells37 : Try.prog.cellsOf 37 = 8 := by kernel_rfl
theorem Try.cells3 : Try.prog.cellsOf 3 = 1 := by kernel_rfl
theorem eight_of {α : Type} (cs : List α) (h : cs.length = 8) : ∃ a b c d e f g i, cs = [a, b, c, d, e, f, g, i] := by
  match cs, h with
  | [a, b, c, d, e, f, g, i], _ => exact ⟨a, b, c, d, e, f, g, i, rfl⟩
theorem lact_cells {H : Type} {enc : TypeId × Value → H} {W : World} (fuel : Nat) (cs : List Value) (e : DataW H × List MemPlace) (hl : cs.length = 8) (h : DataW.trod enc Try.prog W 0 (fun _ => true) true fuel 37 cs = some e) (hlt : ∀ q ∈ e.2, q.block < W.heap.size) : ∃ a, LActR W cs a := by
  obtain ⟨c0, c1, c2, c3, c4, c5, c6, c7, rfl⟩ := eight_of cs hl
  obtain ⟨ys, m, _, hx, _, hl2, hy⟩ := DataW.trod_struct Try.underlying37 h
  match ys, hl2 with
  | [y0, y1, y2, y3, y4], _ =>
    have h0 := hy 0 _ rfl
    have h1 := hy 1 _ rfl
    have h2 := hy 2 _ rfl
    have h3 := hy 3 _ rfl
    have h4 := hy 4 _ rfl
    simp [Try.cells27, Try.cells30, Try.cells35, Try.cells3, Try.cells28] at h0 h1 h2 h3 h4
    subst hx
    obtain ⟨k, e0, _, _⟩ := DataW.trod_int Try.underlying3 h0
    obtain ⟨q, hq⟩ := pair_cells h1
    obtain ⟨n, hn0, hn1, hn2⟩ := nonce_cells h2
    obtain ⟨x3, n3, d3, xs3, rfl, f31, f32, b3, s3, f33⟩ := sat_cells h3 (fun z hz => hlt z (by simp [hz]))
    obtain ⟨B, e6, _, wB⟩ := DataW.trod_int Try.underlying28 h4
    simp at e0 e6 hq
    obtain ⟨B', rfl⟩ := word_of wB
    obtain ⟨rfl, rfl⟩ := hq
    subst e0 e6 hn0 hn1 hn2
    obtain rfl : xs3.length = n3 := s3.1
    exact ⟨⟨k, q, n, xs3, B'⟩, x3, d3, rfl, b3, s3, ⟨f31, f32, f33⟩⟩
end Go.Proofs.Ytkkehbebaokdmaa


/- A statement whose order Go leaves open and of whose operations several make memory: each is shown once, whatever order they come up in. -/
namespace Go.Proofs.Ytkkehbebaokdmaa
open Go.RowKit
set_option maxRecDepth 20000
section
variable {P : Program} {ops : Array Oper} {Q : Exit → Act → World → Prop} {md : Region.Mode} {S : World → Prop}

/-- Where the walk of the makers ends: how much is left, what is done, and of that the makers. -/
abbrev MEnd : Type := Nat × Array Bool × List Nat
def mStop (es : List MEnd) (ms : List Nat) (n : Nat) (l : Array Bool) : Bool := es.any fun e => e.1 == n && e.2.1.toList == l.toList && ms.all fun i => l.getD i false == e.2.2.contains i
/-- From these states on nothing but makers comes up, till an end is reached. -/
def mChk (md : Region.Mode) (ops : Array Oper) (es : List MEnd) (ms : List Nat) : Nat → List (Array Bool) → Bool
  | 0, ls => ls.all fun l => mStop es ms 0 l
  | n + 1, ls => (ls.all fun l => mStop es ms (n + 1) l || (!(Region.ready md ops l).isEmpty && (Region.ready md ops l).all ms.contains)) &&
    mChk md ops es ms n ((ls.filter fun l => !mStop es ms (n + 1) l).flatMap fun l => (Region.ready md ops l).map fun i => l.setIfInBounds i true).eraseDups
variable {d : List Deferred}
/-- What holds on the way: of what is done, what it made; all else is as it was. -/
structure MAt (Gr : World → World → Prop) (ms : List Nat) (dep : Nat → List Nat) (slot : Nat → Nat) (A : Nat → List Value → World → Prop) (t0 : List Value) (w0 : World) (l : Array Bool) (t : List Value) (w : World) : Prop where
  len : t.length = t0.length
  old : ∀ s, (∀ i ∈ ms, l.getD i false = true → s ≠ slot i) → t[s]? = t0[s]?
  gr : Gr w0 w
  cl : ∀ i ∈ ms, l.getD i false = true → ∀ j ∈ dep i, l.getD j false = true
  made : ∀ i ∈ ms, l.getD i false = true → (∃ v, t[slot i]? = some v) ∧ A i t w
/-- Of what stands in this slot. -/
def Sl (k : Nat) (A : Value → World → Prop) (t : List Value) (w : World) : Prop := ∃ v, t[k]? = some v ∧ A v w
theorem Sl.put {k : Nat} {A : Value → World → Prop} {t : List Value} {w : World} {v : Value} (hk : k < t.length) (h : A v w) : Sl k A (t.set k v) w := ⟨v, List.getElem?_set_self hk, h⟩
theorem Sl.keep {k s : Nat} {A : Value → World → Prop} {t : List Value} {w w' : World} (h : Sl k A t w) (hs : s ≠ k) (v : Value) (hA : ∀ u, A u w → A u w') : Sl k A (t.set s v) w' := by
  obtain ⟨u, h1, h2⟩ := h
  exact ⟨u, by rw [List.getElem?_set_ne hs]; exact h1, hA u h2⟩
theorem getD_setI {l : Array Bool} {i j : Nat} (h : l.getD i true = false) : (l.setIfInBounds i true).getD j false = (l.getD j false || decide (i = j)) := by
  have hi : i < l.size := by
    rcases Nat.lt_or_ge i l.size with h' | h'
    · exact h'
    · simp [Nat.not_lt.2 h'] at h
  by_cases e : i = j
  · subst e
    simp [Array.getD_eq_getD_getElem?, hi]
  · simp [Array.getD_eq_getD_getElem?, Array.getElem?_setIfInBounds_ne e, e]
/-- What it waits for is done. -/
theorem ready_dep {l : Array Bool} {i : Nat} {oi : Oper} (hr : i ∈ Region.ready md ops l) (hi : ops[i]? = some oi) (j : Nat) (hj : (oi.after.any fun e => Region.binds md e && e.on == j) = true) : l.getD j false = true := by
  obtain ⟨_, o, ho, hall⟩ := mem_ready.1 hr
  obtain rfl : oi = o := by rw [hi] at ho; exact Option.some.inj ho
  obtain ⟨n, hn, hb⟩ := Array.any_eq_true.1 hj
  rw [Bool.and_eq_true, beq_iff_eq] at hb
  have := hall _ (Array.getElem_mem hn) hb.1
  rw [hb.2] at this
  exact this
theorem foldl_set_get (slot : Nat → Nat) (vs : Nat → Value) : ∀ (ds : List Nat) (t : List Value) (s : Nat), (∀ i ∈ ds, ∀ j ∈ ds, slot i = slot j → i = j) → (∀ i ∈ ds, slot i < t.length) →
    (ds.foldl (fun t i => t.set (slot i) (vs i)) t).length = t.length ∧ ((∀ i ∈ ds, s ≠ slot i) → (ds.foldl (fun t i => t.set (slot i) (vs i)) t)[s]? = t[s]?) ∧ ∀ i ∈ ds, (ds.foldl (fun t i => t.set (slot i) (vs i)) t)[slot i]? = some (vs i)
  | [], t, s, _, _ => ⟨rfl, fun _ => rfl, fun i hi => absurd hi (by simp)⟩
  | k :: ds, t, s, hinj, hlt => by
    have hlt' : ∀ i ∈ ds, slot i < (t.set (slot k) (vs k)).length := fun i hi => by rw [List.length_set]; exact hlt i (List.mem_cons_of_mem _ hi)
    have hinj' : ∀ i ∈ ds, ∀ j ∈ ds, slot i = slot j → i = j := fun i hi j hj => hinj i (List.mem_cons_of_mem _ hi) j (List.mem_cons_of_mem _ hj)
    obtain ⟨h1, h2, h3⟩ := foldl_set_get slot vs ds (t.set (slot k) (vs k)) s hinj' hlt'
    simp only [List.foldl_cons]
    refine ⟨h1.trans (List.length_set ..), fun hs => ?_, fun i hi => ?_⟩
    · rw [h2 (fun i hi => hs i (List.mem_cons_of_mem _ hi)), List.getElem?_set_ne (fun e => hs k List.mem_cons_self e.symm)]
    · by_cases hm : i ∈ ds
      · exact h3 i hm
      · obtain rfl : i = k := (List.mem_cons.1 hi).resolve_right hm
        obtain ⟨_, g2, _⟩ := foldl_set_get slot vs ds (t.set (slot i) (vs i)) (slot i) hinj' hlt'
        rw [g2 (fun j hj e => hm (hinj i List.mem_cons_self j (List.mem_cons_of_mem _ hj) e ▸ hj)), List.getElem?_set_self (hlt i List.mem_cons_self)]
theorem anyM {Gr : World → World → Prop} {ms : List Nat} {slot : Nat → Nat} {A : Nat → List Value → World → Prop} {dep : Nat → List Nat} {t0 : List Value} {w0 : World} (es : List MEnd) (hes : ∀ e ∈ es, ∀ i ∈ e.2.2, i ∈ ms)
    (hgr : ∀ a b c, Gr a b → Gr b c → Gr a c) (hS : ∀ w, Gr w0 w → S w) (hinj : ∀ i ∈ ms, ∀ j ∈ ms, slot i = slot j → i = j) (hlt : ∀ i ∈ ms, slot i < t0.length)
    (hdep : (ms.all fun i => (dep i).all fun j => ((ops[i]?).map fun o => o.after.any fun e => Region.binds md e && e.on == j).getD false) = true)
    (hst : ∀ i ∈ ms, ∀ t w j v w', A i t w → j ∈ ms → j ≠ i → j ∉ dep i → Gr w w' → A i (t.set (slot j) v) w')
    (step : ∀ i ∈ ms, ∃ oi, ops[i]? = some oi ∧ ∀ l t w (K : Act → World → Prop), i ∈ Region.ready md ops l → MAt Gr ms dep slot A t0 w0 l t w → Region.wanted oi (yielded ops t.toArray) = true ∧ ((∀ v w', Gr w w' → A i (t.set (slot i) v) w' → K ⟨(t.set (slot i) v).toArray, d⟩ w') → Oper.wp P oi ⟨t.toArray, d⟩ w K Q))
    (fin : ∀ e ∈ es, ∀ (vs : Nat → Value) (w : World), Gr w0 w → (∀ i ∈ e.2.2, A i (e.2.2.foldl (fun t i => t.set (slot i) (vs i)) t0) w) → wpAnyH P md ops Q S e.1 e.2.1 ⟨(e.2.2.foldl (fun t i => t.set (slot i) (vs i)) t0).toArray, d⟩ w) :
    ∀ (n : Nat) (ls : List (Array Bool)), mChk md ops es ms n ls = true → ∀ l ∈ ls, ∀ t w, MAt Gr ms dep slot A t0 w0 l t w → wpAnyH P md ops Q S n l ⟨t.toArray, d⟩ w := by
  have hend : ∀ n l t w, mStop es ms n l = true → MAt Gr ms dep slot A t0 w0 l t w → wpAnyH P md ops Q S n l ⟨t.toArray, d⟩ w := by
    intro n l t w hs hm
    obtain ⟨e, he, hb⟩ := List.any_eq_true.1 hs
    rw [Bool.and_eq_true, Bool.and_eq_true, beq_iff_eq, beq_iff_eq] at hb
    obtain ⟨⟨rfl, hl⟩, hall⟩ := hb
    obtain rfl : e.2.1 = l := Array.toList_inj.1 hl
    have hd : ∀ i ∈ ms, (e.2.1.getD i false = true ↔ i ∈ e.2.2) := fun i hi => by
      have := List.all_eq_true.1 hall i hi
      rw [beq_iff_eq] at this
      rw [this]
      simp
    have hex : ∀ i, ∃ v, i ∈ e.2.2 → t[slot i]? = some v ∧ A i t w := fun i => by
      by_cases hi : i ∈ e.2.2
      · obtain ⟨⟨v, h1⟩, h2⟩ := hm.made i (hes e he i hi) ((hd i (hes e he i hi)).2 hi)
        exact ⟨v, fun _ => ⟨h1, h2⟩⟩
      · exact ⟨undef, fun h => absurd h hi⟩
    obtain ⟨vs, hvs⟩ := Classical.axiomOfChoice hex
    have hft := fun s => foldl_set_get slot vs e.2.2 t0 s (fun i hi j hj => hinj i (hes e he i hi) j (hes e he j hj)) (fun i hi => hlt i (hes e he i hi))
    have ht : t = e.2.2.foldl (fun t i => t.set (slot i) (vs i)) t0 := by
      refine List.ext_getElem? fun s => ?_
      by_cases hx : ∃ i ∈ e.2.2, s = slot i
      · obtain ⟨i, hi, rfl⟩ := hx
        rw [(hft 0).2.2 i hi, (hvs i hi).1]
      · have hx' : ∀ i ∈ e.2.2, s ≠ slot i := fun i hi h => hx ⟨i, hi, h⟩
        rw [(hft s).2.1 hx']
        exact hm.old s (fun i hi hl => hx' i ((hd i hi).1 hl))
    have hA : ∀ i ∈ e.2.2, A i t w := fun i hi => (hvs i hi).2
    rw [ht] at hA ⊢
    exact fin e he vs w hm.gr hA
  intro n
  induction n with
  | zero =>
    intro ls hc l hl t w hm
    exact hend 0 l t w (List.all_eq_true.1 hc l hl) hm
  | succ n ih =>
    intro ls hc l hl t w hm
    rw [mChk, Bool.and_eq_true] at hc
    have h1 := List.all_eq_true.1 hc.1 l hl
    by_cases hs : mStop es ms (n + 1) l = true
    · exact hend _ l t w hs hm
    · rw [Bool.or_eq_true] at h1
      have h2 := h1.resolve_left hs
      rw [Bool.and_eq_true] at h2
      refine ⟨fun h0 => ?_, fun i hi => ?_⟩
      · have := h2.1
        rw [h0] at this
        simp at this
      · have him : i ∈ ms := by simpa using List.all_eq_true.1 h2.2 i hi
        obtain ⟨oi, hoi, hst'⟩ := step i him
        obtain ⟨hw, hrun⟩ := hst' l t w (fun a' w' => S w' ∧ wpAnyH P md ops Q S n (l.setIfInBounds i true) a' w') hi hm
        unfold wpOp
        simp only [hoi, hw, if_true]
        refine Or.inl (hrun fun v w' hg hA => ?_)
        have hun := (mem_ready.1 hi).1
        refine ⟨hS _ (hgr _ _ _ hm.gr hg), ih _ hc.2 _ ?_ _ _ ?_⟩
        · rw [List.mem_eraseDups, List.mem_flatMap]
          exact ⟨l, List.mem_filter.2 ⟨hl, by simp [hs]⟩, List.mem_map.2 ⟨i, hi, rfl⟩⟩
        · refine ⟨by rw [List.length_set]; exact hm.len, fun s hs' => ?_, hgr _ _ _ hm.gr hg, fun j hj hlj k hk => ?_, fun j hj hlj => ?_⟩
          · have hne : slot i ≠ s := fun e => hs' i him (by rw [getD_setI hun]; simp) e.symm
            rw [List.getElem?_set_ne hne]
            exact hm.old s (fun j hj hlj => hs' j hj (by rw [getD_setI hun, hlj]; rfl))
          · rw [getD_setI hun, Bool.or_eq_true]
            by_cases e : j = i
            · subst e
              have h5 := List.all_eq_true.1 (List.all_eq_true.1 hdep j hj) k hk
              rw [hoi, Option.map_some, Option.getD_some] at h5
              exact Or.inl (ready_dep hi hoi k h5)
            · rw [getD_setI hun, Bool.or_eq_true] at hlj
              exact Or.inl (hm.cl j hj (hlj.resolve_right (by simp [Ne.symm e])) k hk)
          · by_cases e : j = i
            · subst e
              exact ⟨⟨v, List.getElem?_set_self (by rw [hm.len]; exact hlt j hj)⟩, hA⟩
            · rw [getD_setI hun, Bool.or_eq_true] at hlj
              have hjl := hlj.resolve_right (by simp [Ne.symm e])
              obtain ⟨⟨u, g1⟩, g2⟩ := hm.made j hj hjl
              refine ⟨⟨u, by rw [List.getElem?_set_ne (fun h => e (hinj i him j hj h).symm)]; exact g1⟩, hst j hj t w i v w' g2 him (Ne.symm e) (fun hd => ?_) hg⟩
              have h6 := hm.cl j hj hjl i hd
              have hi : i < l.size := by
                rcases Nat.lt_or_ge i l.size with h' | h'
                · exact h'
                · simp [Nat.not_lt.2 h'] at hun
              simp [Array.getD_eq_getD_getElem?, hi] at h6 hun
              rw [h6] at hun
              cases hun
/-- The beginning. -/
theorem startM {Gr : World → World → Prop} {slot : Nat → Nat} {A : Nat → List Value → World → Prop} {dep : Nat → List Nat} {t0 : List Value} {w0 : World} {n : Nat} {l : Array Bool} (ms : List Nat) (es : List MEnd) (hes : ∀ e ∈ es, ∀ i ∈ e.2.2, i ∈ ms)
    (hgr0 : Gr w0 w0) (hl : (ms.all fun i => !l.getD i false) = true) (hck : mChk md ops es ms n [l] = true)
    (hgr : ∀ a b c, Gr a b → Gr b c → Gr a c) (hS : ∀ w, Gr w0 w → S w) (hinj : ∀ i ∈ ms, ∀ j ∈ ms, slot i = slot j → i = j) (hlt : ∀ i ∈ ms, slot i < t0.length)
    (hdep : (ms.all fun i => (dep i).all fun j => ((ops[i]?).map fun o => o.after.any fun e => Region.binds md e && e.on == j).getD false) = true)
    (hst : ∀ i ∈ ms, ∀ t w j v w', A i t w → j ∈ ms → j ≠ i → j ∉ dep i → Gr w w' → A i (t.set (slot j) v) w')
    (step : ∀ i ∈ ms, ∃ oi, ops[i]? = some oi ∧ ∀ l t w (K : Act → World → Prop), i ∈ Region.ready md ops l → MAt Gr ms dep slot A t0 w0 l t w → Region.wanted oi (yielded ops t.toArray) = true ∧ ((∀ v w', Gr w w' → A i (t.set (slot i) v) w' → K ⟨(t.set (slot i) v).toArray, d⟩ w') → Oper.wp P oi ⟨t.toArray, d⟩ w K Q))
    (fin : ∀ e ∈ es, ∀ (vs : Nat → Value) (w : World), Gr w0 w → (∀ i ∈ e.2.2, A i (e.2.2.foldl (fun t i => t.set (slot i) (vs i)) t0) w) → wpAnyH P md ops Q S e.1 e.2.1 ⟨(e.2.2.foldl (fun t i => t.set (slot i) (vs i)) t0).toArray, d⟩ w) :
    wpAnyH P md ops Q S n l ⟨t0.toArray, d⟩ w0 :=
  anyM es hes hgr hS hinj hlt hdep hst step fin n [l] hck l (by simp) t0 w0 ⟨rfl, fun _ _ => rfl, hgr0, fun i hi h => absurd h (by simpa using List.all_eq_true.1 hl i hi), fun i hi h => absurd h (by simpa using List.all_eq_true.1 hl i hi)⟩
theorem foldl_set_congr (slot : Nat → Nat) {vs us : Nat → Value} : ∀ (ds : List Nat) (t : List Value), (∀ i ∈ ds, vs i = us i) → ds.foldl (fun t i => t.set (slot i) (vs i)) t = ds.foldl (fun t i => t.set (slot i) (us i)) t
  | [], _, _ => rfl
  | k :: ds, t, h => by
    rw [List.foldl_cons, List.foldl_cons, h k List.mem_cons_self]
    exact foldl_set_congr slot ds _ (fun i hi => h i (List.mem_cons_of_mem _ hi))
/-- The beginning, where one operation more (number q) only reads what they made, and may come up before the last of them or behind it. -/
theorem startMq {Gr : World → World → Prop} {slot : Nat → Nat} {A : Nat → List Value → World → Prop} {dep : Nat → List Nat} {t0 : List Value} {w0 : World} {n : Nat} {l : Array Bool} (ds : List Nat) (q : Nat) (nE : Nat) (lE : Array Bool) {oq : Oper} (hq : ops[q]? = some oq) (hqd : oq.dst = some (slot q)) (hqg : oq.guard = none) (hqn : q ∉ ds)
    (hns : Region.noSelect ops = true) (hfr : Region.free md ops lE q = true) (hrq : (Region.ready md ops lE).contains q = true) (hQ : ∀ v c a w, Q (.panic c) (a.put oq.dst v) w → Q (.panic c) a w) (hdq : ∀ i ∈ ds, q ∉ dep i)
    (hgr0 : Gr w0 w0) (hl : ((ds ++ [q]).all fun i => !l.getD i false) = true) (hck : mChk md ops [(nE + 1, lE, ds), (nE, lE.setIfInBounds q true, ds ++ [q])] (ds ++ [q]) n [l] = true)
    (hgr : ∀ a b c, Gr a b → Gr b c → Gr a c) (hgrr : ∀ a, Gr a a) (hS : ∀ w, Gr w0 w → S w) (hinj : ∀ i ∈ ds ++ [q], ∀ j ∈ ds ++ [q], slot i = slot j → i = j) (hlt : ∀ i ∈ ds ++ [q], slot i < t0.length)
    (hdep : ((ds ++ [q]).all fun i => (dep i).all fun j => ((ops[i]?).map fun o => o.after.any fun e => Region.binds md e && e.on == j).getD false) = true)
    (hst : ∀ i ∈ ds ++ [q], ∀ t w j v w', A i t w → j ∈ ds ++ [q] → j ≠ i → j ∉ dep i → Gr w w' → A i (t.set (slot j) v) w')
    (step : ∀ i ∈ ds ++ [q], ∃ oi, ops[i]? = some oi ∧ ∀ l t w (K : Act → World → Prop), i ∈ Region.ready md ops l → MAt Gr (ds ++ [q]) dep slot A t0 w0 l t w → Region.wanted oi (yielded ops t.toArray) = true ∧ ((∀ v w', Gr w w' → A i (t.set (slot i) v) w' → K ⟨(t.set (slot i) v).toArray, d⟩ w') → Oper.wp P oi ⟨t.toArray, d⟩ w K Q))
    (quiet : ∀ (vs : Nat → Value) (w : World), Gr w0 w → (∀ i ∈ ds, A i (ds.foldl (fun t i => t.set (slot i) (vs i)) t0) w) → ∃ v, (∀ w', S w' → (execOp (Act.eval ⟨(ds.foldl (fun t i => t.set (slot i) (vs i)) t0).toArray, d⟩) oq).run P w' = .ok (.value v) w') ∧ A q ((ds.foldl (fun t i => t.set (slot i) (vs i)) t0).set (slot q) v) w)
    (fin : ∀ (vs : Nat → Value) (w : World), Gr w0 w → (∀ i ∈ ds ++ [q], A i ((ds ++ [q]).foldl (fun t i => t.set (slot i) (vs i)) t0) w) → wpAnyH P md ops Q S nE (lE.setIfInBounds q true) ⟨((ds ++ [q]).foldl (fun t i => t.set (slot i) (vs i)) t0).toArray, d⟩ w) :
    wpAnyH P md ops Q S n l ⟨t0.toArray, d⟩ w0 := by
  refine startM (ds ++ [q]) [(nE + 1, lE, ds), (nE, lE.setIfInBounds q true, ds ++ [q])] ?_ hgr0 hl hck hgr hS hinj hlt hdep hst step ?_
  · intro e he i hi
    simp only [List.mem_cons, List.not_mem_nil, or_false] at he
    rcases he with rfl | rfl
    · exact List.mem_append_left _ hi
    · exact hi
  · intro e he vs w hg hA
    simp only [List.mem_cons, List.not_mem_nil, or_false] at he
    rcases he with rfl | rfl
    · obtain ⟨v, hy, hAq⟩ := quiet vs w hg hA
      refine takeL q (slot q) hq hqd hns hfr hrq (hQ v) (by simp [Region.wanted, hqg]) (hS w hg) hy ?_
      have hvs : ∀ i ∈ ds, vs i = (fun i => if i = q then v else vs i) i := fun i hi => by
        have : i ≠ q := fun e => hqn (e ▸ hi)
        simp [this]
      have ht : (ds.foldl (fun t i => t.set (slot i) (vs i)) t0).set (slot q) v = (ds ++ [q]).foldl (fun t i => t.set (slot i) ((fun i => if i = q then v else vs i) i)) t0 := by
        rw [List.foldl_append, List.foldl_cons, List.foldl_nil, foldl_set_congr slot ds t0 hvs]
        simp
      have h2 := fin (fun i => if i = q then v else vs i) w hg
      rw [← ht] at h2
      refine h2 (fun i hi => ?_)
      rcases List.mem_append.1 hi with hi' | hi'
      · exact hst i hi _ w q v w (hA i hi') (by simp) (fun e => hqn (e ▸ hi')) (hdq i hi') (hgrr w)
      · obtain rfl : i = q := by simpa using hi'
        exact hAq
    · exact fin vs w hg hA
end
end Go.Proofs.Ytkkehbebaokdmaa
