/- LkImpl ViewB ViewN ViewC ViewG ViewLk: texts laid together. -/
import Derived.Test.YtkkehbebaokdmaaLkImB
import Derived.Test.YtkkehbebaokdmaaM01
import Derived.Deep.Strs
import Derived.Test.YtkkehbebaokdmaaM03
import Derived.Test.YtkkehbebaokdmaaM08
import Derived.Deep.Slices
import Derived.Test.YtkkehbebaokdmaaM14
import Derived.Test.YtkkehbebaokdmaaLkPlaysA

/- The landed lock is what the statements ask. -/
namespace Go.Proofs.Ytkkehbebaokdmaa
open Go.RowKit
set_option maxRecDepth 20000

theorem lock_is : LockIs LInv where
  stay := fun h => h.stay
  lt := fun h => h.lt
  ptr := fun h => by
    obtain ⟨b, e, _⟩ := h
    exact ⟨_, e⟩
  none_ := fun h hi => by
    obtain ⟨b, e, ⟨rfl, _⟩ | ⟨h1, _⟩⟩ := h
    · exact ⟨rfl, rfl⟩
    · rw [hi] at h1
      cases h1
  plain := fun {F w v st} h hi {x n xs} hs => by
    obtain ⟨b, e, ⟨rfl, hb, hF⟩ | ⟨h1, _⟩⟩ := h
    · exact (sat_not hb.not8 hs).mono (fun k _ h hf => h ((hF k).1 hf))
    · rw [hi] at h1
      cases h1
  real := ireal
  ideal := iideal orc_is
  seal_ := iseal8 orc_is
  open_ := iopen8 orc_is
  sum := isum8 orc_is
  issued := iissued8 orc_is
  twice := itwice8 orc_is
  sealNil := isealNil8
  openNil := iopenNil8
  sumNil := isumNil8
  issuedNil := iissuedNil8
  twiceNil := itwiceNil8
end Go.Proofs.Ytkkehbebaokdmaa


/- A slice of bytes that came in, as SAt. -/
namespace Go.Proofs.Ytkkehbebaokdmaa
open Go.ChangeShapes Go.WideShapes Go.ChangeAt Go.RowKit
set_option maxRecDepth 20000

theorem view_sat {H : Type} {enc : TypeId × Value → H} {W : World} {base : Nat} {v : Value} {d : DataW H} {p : List MemPlace}
    (hok : Value.okWide Try.prog W .any base 27 v) (h : DataW.Trod enc Try.prog W 0 (fun _ => true) true 27 v d p) (hlt : ∀ x ∈ p, x.block < W.heap.size) :
    ∃ (x : Option Addr) (n c : Nat) (xs : List Int), v = .slice x n c ∧ n ≤ c ∧ c ≤ maxLen ∧ Bytes xs ∧ SAt W x n xs ∧ (x = none → n = 0 ∧ c = 0) := by
  have hv := view_bytes hok h hlt
  obtain ⟨a, n, cap, xs, rfl, hn, hnc, hcm, hx, hat⟩ := hv
  refine ⟨a, n, cap, xs, rfl, hnc, hcm, hx, ⟨hn, fun hl => ?_⟩, fun e => ?_⟩
  · rcases hat with h | ⟨b, off, e, hb, ha⟩
    · omega
    · exact ⟨b, off, e, hb, ha⟩
  · subst e
    obtain ⟨fuel, hf⟩ := h
    rcases open_ints Try.underlying27 Try.underlying5 Try.cells5 hf with ⟨hcs, _⟩ | ⟨a, len', cap', zs, hcs, _⟩
    · simp [Value.cells] at hcs
      exact hcs
    · simp [Value.cells] at hcs
end Go.Proofs.Ytkkehbebaokdmaa


/- A Nonce that came in by value. -/
namespace Go.Proofs.Ytkkehbebaokdmaa
open Go.ChangeShapes Go.WideShapes Go.ChangeAt Go.RowKit
set_option maxRecDepth 20000

theorem Try.cells33 : Try.prog.cellsOf 33 = 1 := by kernel_rfl
theorem Try.cells35 : Try.prog.cellsOf 35 = 3 := by kernel_rfl
theorem three_of {α : Type} (cs : Array α) (h : cs.size = 3) : ∃ a b c, cs = #[a, b, c] := by
  obtain ⟨l⟩ := cs
  match l, h with
  | [a, b, c], _ => exact ⟨a, b, c, rfl⟩
theorem word32_of {a : Int} (h : (Lit.int .u32 a).wf = true) : ∃ x : BitVec 32, a = nv32 x := by
  have hx : 0 ≤ a ∧ a ≤ 4294967295 := by simpa [Lit.wf, IntKind.min, IntKind.max, IntKind.signed, IntKind.bits] using h
  exact ⟨BitVec.ofInt 32 a, (nv32_of a hx.1 (by omega)).symm⟩
theorem view_nonce {H : Type} {enc : TypeId × Value → H} {W : World} {base : Nat} {v : Value} {d : DataW H} {p : List MemPlace}
    (hok : Value.okWide Try.prog W .any base 35 v) (h : DataW.Trod enc Try.prog W 0 (fun _ => true) true 35 v d p) :
    ∃ n : Nn, v = .agg #[.int .u32 (nv32 n.1), .int .u32 (nv32 n.2.1), .int .u64 (nv n.2.2)] := by
  simp only [Value.okWide, Try.underlying35] at hok
  obtain ⟨cs, rfl, hsz, _⟩ := hok
  rw [Try.cells35] at hsz
  obtain ⟨c0, c1, c2, rfl⟩ := three_of cs hsz
  obtain ⟨fuel, hf⟩ := h
  obtain ⟨y0, y1, y2, m, _, _, h0, h1, h2⟩ := Deep.trod_struct3 Try.underlying35 hf
  simp [Try.cells28, Try.cells33, Value.cells] at h0 h1 h2
  obtain ⟨a, e0, _, wa⟩ := DataW.trod_int Try.underlying33 h0
  obtain ⟨b, e1, _, wb⟩ := DataW.trod_int Try.underlying33 h1
  obtain ⟨c, e2, _, wc⟩ := DataW.trod_int Try.underlying28 h2
  simp at e0 e1 e2
  subst e0 e1 e2
  obtain ⟨x, rfl⟩ := word32_of wa
  obtain ⟨y, rfl⟩ := word32_of wb
  obtain ⟨z, rfl⟩ := word_of wc
  exact ⟨(x, y, z), rfl⟩
end Go.Proofs.Ytkkehbebaokdmaa


/- A Pair, a Nonce and a slice of bytes that came in, cell by cell. -/
namespace Go.Proofs.Ytkkehbebaokdmaa
open Go.ChangeShapes Go.WideShapes Go.ChangeAt Go.RowKit
set_option maxRecDepth 20000

theorem Try.cells27 : Try.prog.cellsOf 27 = 1 := by kernel_rfl
theorem pair_cells {H : Type} {enc : TypeId × Value → H} {W : World} {fuel : Nat} {cs : List Value} {e : DataW H × List MemPlace} (h : DataW.trod enc Try.prog W 0 (fun _ => true) true fuel 30 cs = some e) :
    ∃ q : BitVec 64 × BitVec 64, cs = [.int .u64 (nv q.1), .int .u64 (nv q.2)] := by
  obtain ⟨xs, m, _, _, hcl, hl, hx⟩ := DataW.trod_array Try.underlying30 h
  rw [Try.cells30] at hcl
  match cs, hcl with
  | [c0, c1], _ =>
    have h0 := hx 0 (by decide)
    have h1 := hx 1 (by decide)
    simp [Try.cells28] at h0 h1
    rw [List.getElem?_eq_getElem (show 0 < xs.length by omega)] at h0
    rw [List.getElem?_eq_getElem (show 1 < xs.length by omega)] at h1
    obtain ⟨a, e0, _, wa⟩ := DataW.trod_int Try.underlying28 h0
    obtain ⟨b, e1, _, wb⟩ := DataW.trod_int Try.underlying28 h1
    simp at e0 e1
    subst e0 e1
    obtain ⟨x, rfl⟩ := word_of wa
    obtain ⟨y, rfl⟩ := word_of wb
    exact ⟨(x, y), rfl⟩
theorem sat_cells {H : Type} {enc : TypeId × Value → H} {W : World} {fuel : Nat} {v : Value} {e : DataW H × List MemPlace} (h : DataW.trod enc Try.prog W 0 (fun _ => true) true fuel 27 [v] = some e) (hlt : ∀ q ∈ e.2, q.block < W.heap.size) :
    ∃ (x : Option Addr) (n c : Nat) (xs : List Int), v = .slice x n c ∧ n ≤ c ∧ c ≤ maxLen ∧ Bytes xs ∧ SAt W x n xs ∧ (x = none → n = 0 ∧ c = 0) := by
  rcases open_ints Try.underlying27 Try.underlying5 Try.cells5 h with ⟨hcs, hx⟩ | ⟨a, len, cap, zs, hcs, _, hl, hm, hz, hx, hcell, hwz⟩
  · simp at hcs
    subst hcs
    exact ⟨none, 0, 0, [], rfl, Nat.le_refl _, Nat.zero_le _, (fun x hx => by cases hx), SAt.none _ _, fun _ => ⟨rfl, rfl⟩⟩
  · simp at hcs
    subst hcs
    subst hx
    simp only [if_true] at hz
    have hlen : (zs.take len).length = len := by rw [List.length_take]; omega
    refine ⟨some a, len, cap, zs.take len, rfl, hl, hm, fun x hx => u8_range (hwz x (List.mem_of_mem_take hx)), ⟨hlen, fun hl0 => ?_⟩, fun e => by cases e⟩
    obtain ⟨b, off, spot⟩ := a
    have hspot : spot = none := by simpa [Addr.add] using World.cell?_spot (hcell 0 (by omega))
    subst hspot
    refine ⟨b, off, rfl, hlt (.cell b off) (MemPlace.mem_row.2 ⟨0, by omega, by simp⟩), fun i hi => ?_⟩
    rw [hlen] at hi
    rw [← add_plain', hcell i (by omega)]
    simp [hi]
theorem nonce_cells {H : Type} {enc : TypeId × Value → H} {W : World} {fuel : Nat} {c0 c1 c2 : Value} {e : DataW H × List MemPlace} (h : DataW.trod enc Try.prog W 0 (fun _ => true) true fuel 35 [c0, c1, c2] = some e) :
    ∃ n : Nn, c0 = .int .u32 (nv32 n.1) ∧ c1 = .int .u32 (nv32 n.2.1) ∧ c2 = .int .u64 (nv n.2.2) := by
  obtain ⟨y0, y1, y2, m, _, _, h0, h1, h2⟩ := Deep.trod_struct3 Try.underlying35 h
  simp [Try.cells28, Try.cells33] at h0 h1 h2
  obtain ⟨a, e0, _, wa⟩ := DataW.trod_int Try.underlying33 h0
  obtain ⟨b, e1, _, wb⟩ := DataW.trod_int Try.underlying33 h1
  obtain ⟨c, e2, _, wc⟩ := DataW.trod_int Try.underlying28 h2
  simp at e0 e1 e2
  subst e0 e1 e2
  obtain ⟨x, rfl⟩ := word32_of wa
  obtain ⟨y, rfl⟩ := word32_of wb
  obtain ⟨z, rfl⟩ := word_of wc
  exact ⟨(x, y, z), rfl, rfl, rfl⟩
end Go.Proofs.Ytkkehbebaokdmaa


/- A slice of structs that came in. -/
namespace Go.Proofs.Ytkkehbebaokdmaa
open Go.ChangeShapes Go.WideShapes Go.ChangeAt Go.RowKit Go.Deep
set_option maxRecDepth 20000

theorem view_each {α : Type} [Inhabited α] {T E size : Nat} (hT : Try.prog.underlying T = some (.slice E)) (hE : Try.prog.cellsOf E = size) (h0 : 0 < size) {R : World → List Value → α → Prop} {H : Type} {enc : TypeId × Value → H} {W : World} {base : Nat} {v : Value} {d : DataW H} {p : List MemPlace}
    (each : ∀ (fuel : Nat) (cs : List Value) (e : DataW H × List MemPlace), cs.length = size → DataW.trod enc Try.prog W 0 (fun _ => true) true fuel E cs = some e → (∀ q ∈ e.2, q.block < W.heap.size) → ∃ a, R W cs a)
    (hok : Value.okWide Try.prog W .any base T v) (h : DataW.Trod enc Try.prog W 0 (fun _ => true) true T v d p) (hlt : ∀ x ∈ p, x.block < W.heap.size) :
    ∃ (x : Option Addr) (m c : Nat) (L : List α), v = .slice x m c ∧ (m ≤ c ∧ c ≤ maxLen ∧ (x = none → m = 0 ∧ c = 0)) ∧ RowsAt size R W x m L := by
  obtain ⟨a0, len, cap, rfl⟩ := okWide_slice hT hok
  obtain ⟨fuel, hf⟩ := h
  rcases open_slice hT hf with ⟨hcs, _⟩ | ⟨a, len', cap', m, n, D, Pl, hcs, _, hl, hm, hmm, hx, hel⟩
  · simp [Value.cells] at hcs
    obtain ⟨rfl, rfl, rfl⟩ := hcs
    exact ⟨none, 0, 0, [], rfl, ⟨Nat.le_refl _, Nat.zero_le _, fun _ => ⟨rfl, rfl⟩⟩, rfl, fun h => absurd h (by omega)⟩
  · simp [Value.cells] at hcs
    obtain ⟨rfl, rfl, rfl⟩ := hcs
    simp only [Prod.mk.injEq] at hx
    rw [hE] at hel
    have hlm : len ≤ m := by rw [hmm]; split <;> omega
    have each' : ∀ i, ∃ A : α, i < len → ∃ cs, cs.length = size ∧ (∀ j u, cs[j]? = some u → W.cell? ((a.add (i * size)).add j) = some u) ∧ R W cs A := by
      intro i
      by_cases hi : i < len
      · obtain ⟨cs, hc, ht⟩ := hel i (by omega)
        have hs := World.cells?_some hc
        obtain ⟨A, r⟩ := each _ _ _ hs.2.1 ht (fun q hq => hlt q (by rw [hx.2]; exact List.mem_append_right _ (List.mem_flatMap.2 ⟨i, List.mem_range.2 (by omega), hq⟩)))
        refine ⟨A, fun _ => ⟨cs, hs.2.1, fun j u hj => ?_, r⟩⟩
        have hj10 : j < size := by
          rcases Nat.lt_or_ge j cs.length with h' | h'
          · rw [hs.2.1] at h'; exact h'
          · rw [List.getElem?_eq_none h'] at hj
            cases hj
        have := hs.2.2 j hj10
        rw [this]
        exact hj
      · exact ⟨default, fun h => absurd h hi⟩
    obtain ⟨f, hf2⟩ := Classical.axiomOfChoice each'
    refine ⟨some a, len, cap, (List.range len).map f, rfl, ⟨hl, hm, fun e => by cases e⟩, by simp, fun hn => ?_⟩
    obtain ⟨b, off, spot⟩ := a
    obtain ⟨cs, hcl, hc0, _⟩ := hf2 0 hn
    have hcell0 := hc0 0 cs[0] (List.getElem?_eq_getElem (by omega))
    have hspot : spot = none := by simpa [Addr.add] using World.cell?_spot hcell0
    subst hspot
    refine ⟨b, off, rfl, World.block_lt_of_cell? W _ (by simpa [add_plain'] using hcell0), fun i hi => ?_⟩
    rw [show ((List.range len).map f).getD i default = f i from by simp [hi]]
    obtain ⟨cs, hcl, hc1, r⟩ := hf2 i hi
    refine ⟨cs, hcl, fun j u hj => ?_, r⟩
    have := hc1 j u hj
    rw [add_plain', add_plain'] at this
    exact this
end Go.Proofs.Ytkkehbebaokdmaa


/- A slice of a lock's acts that came in. -/
namespace Go.Proofs.Ytkkehbebaokdmaa
open Go.ChangeShapes Go.WideShapes Go.ChangeAt Go.RowKit Go.Deep
set_option maxRecDepth 20000

theorem Try.cells37 : Try.prog.cellsOf 37 = 8 := by kernel_rfl
theorem Try.cells3 : Try.prog.cellsOf 3 = 1 := by kernel_rfl
theorem eight_of {α : Type} (cs : List α) (h : cs.length = 8) : ∃ a b c d e f g i, cs = [a, b, c, d, e, f, g, i] := by
  match cs, h with
  | [a, b, c, d, e, f, g, i], _ => exact ⟨a, b, c, d, e, f, g, i, rfl⟩
theorem lact_cells {H : Type} {enc : TypeId × Value → H} {W : World} (fuel : Nat) (cs : List Value) (e : DataW H × List MemPlace) (hl : cs.length = 8) (h : DataW.trod enc Try.prog W 0 (fun _ => true) true fuel 37 cs = some e) (hlt : ∀ q ∈ e.2, q.block < W.heap.size) : ∃ a, LActR W cs a := by
  obtain ⟨c0, c1, c2, c3, c4, c5, c6, c7, rfl⟩ := eight_of cs hl
  obtain ⟨ys, m, _, hx, _, hl2, hy⟩ := DataW.trod_struct Try.underlying37 h
  match ys, hl2 with
  | [y0, y1, y2, y3, y4], _ =>
    have h0 := hy 0 _ rfl
    have h1 := hy 1 _ rfl
    have h2 := hy 2 _ rfl
    have h3 := hy 3 _ rfl
    have h4 := hy 4 _ rfl
    simp [Try.cells27, Try.cells30, Try.cells35, Try.cells3, Try.cells28] at h0 h1 h2 h3 h4
    subst hx
    obtain ⟨k, e0, _, _⟩ := DataW.trod_int Try.underlying3 h0
    obtain ⟨q, hq⟩ := pair_cells h1
    obtain ⟨n, hn0, hn1, hn2⟩ := nonce_cells h2
    obtain ⟨x3, n3, d3, xs3, rfl, f31, f32, b3, s3, f33⟩ := sat_cells h3 (fun z hz => hlt z (by simp [hz]))
    obtain ⟨B, e6, _, wB⟩ := DataW.trod_int Try.underlying28 h4
    simp at e0 e6 hq
    obtain ⟨B', rfl⟩ := word_of wB
    obtain ⟨rfl, rfl⟩ := hq
    subst e0 e6 hn0 hn1 hn2
    obtain rfl : xs3.length = n3 := s3.1
    exact ⟨⟨k, q, n, xs3, B'⟩, x3, d3, rfl, b3, s3, ⟨f31, f32, f33⟩⟩
end Go.Proofs.Ytkkehbebaokdmaa
