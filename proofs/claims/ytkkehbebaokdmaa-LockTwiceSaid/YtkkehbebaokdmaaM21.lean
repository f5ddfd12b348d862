/- LkImpl ViewB ViewN: texts laid together. -/
import Derived.Test.YtkkehbebaokdmaaLkImB
import Derived.Test.YtkkehbebaokdmaaM01
import Derived.Deep.Strs
import Derived.Test.YtkkehbebaokdmaaM03
import Derived.Test.YtkkehbebaokdmaaM08

/- The landed lock is what the statements ask. -/
namespace Go.Proofs.Ytkkehbebaokdmaa
open Go.RowKit
set_option maxRecDepth 20000

theorem lock_is : LockIs LInv where
  stay := fun h => h.stay
  lt := fun h => h.lt
  ptr := fun h => by
    obtain ⟨b, e, _⟩ := h
    exact ⟨_, e⟩
  none_ := fun h hi => by
    obtain ⟨b, e, ⟨rfl, _⟩ | ⟨h1, _⟩⟩ := h
    · exact ⟨rfl, rfl⟩
    · rw [hi] at h1
      cases h1
  plain := fun {F w v st} h hi {x n xs} hs => by
    obtain ⟨b, e, ⟨rfl, hb, hF⟩ | ⟨h1, _⟩⟩ := h
    · exact (sat_not hb.not8 hs).mono (fun k _ h hf => h ((hF k).1 hf))
    · rw [hi] at h1
      cases h1
  real := ireal
  ideal := iideal orc_is
  seal_ := iseal8 orc_is
  open_ := iopen8 orc_is
  sum := isum8 orc_is
  issued := iissued8 orc_is
  twice := itwice8 orc_is
  sealNil := isealNil8
  openNil := iopenNil8
  sumNil := isumNil8
  issuedNil := iissuedNil8
  twiceNil := itwiceNil8
end Go.Proofs.Ytkkehbebaokdmaa


/- A slice of bytes that came in, as SAt. -/
namespace Go.Proofs.Ytkkehbebaokdmaa
open Go.ChangeShapes Go.WideShapes Go.ChangeAt Go.RowKit
set_option maxRecDepth 20000

theorem view_sat {H : Type} {enc : TypeId × Value → H} {W : World} {base : Nat} {v : Value} {d : DataW H} {p : List MemPlace}
    (hok : Value.okWide Try.prog W .any base 27 v) (h : DataW.Trod enc Try.prog W 0 (fun _ => true) true 27 v d p) (hlt : ∀ x ∈ p, x.block < W.heap.size) :
    ∃ (x : Option Addr) (n c : Nat) (xs : List Int), v = .slice x n c ∧ n ≤ c ∧ c ≤ maxLen ∧ Bytes xs ∧ SAt W x n xs ∧ (x = none → n = 0 ∧ c = 0) := by
  have hv := view_bytes hok h hlt
  obtain ⟨a, n, cap, xs, rfl, hn, hnc, hcm, hx, hat⟩ := hv
  refine ⟨a, n, cap, xs, rfl, hnc, hcm, hx, ⟨hn, fun hl => ?_⟩, fun e => ?_⟩
  · rcases hat with h | ⟨b, off, e, hb, ha⟩
    · omega
    · exact ⟨b, off, e, hb, ha⟩
  · subst e
    obtain ⟨fuel, hf⟩ := h
    rcases open_ints Try.underlying27 Try.underlying5 Try.cells5 hf with ⟨hcs, _⟩ | ⟨a, len', cap', zs, hcs, _⟩
    · simp [Value.cells] at hcs
      exact hcs
    · simp [Value.cells] at hcs
end Go.Proofs.Ytkkehbebaokdmaa


/- A Nonce that came in by value. -/
namespace Go.Proofs.Ytkkehbebaokdmaa
open Go.ChangeShapes Go.WideShapes Go.ChangeAt Go.RowKit
set_option maxRecDepth 20000

theorem Try.cells33 : Try.prog.cellsOf 33 = 1 := by kernel_rfl
theorem Try.cells35 : Try.prog.cellsOf 35 = 3 := by kernel_rfl
theorem three_of {α : Type} (cs : Array α) (h : cs.size = 3) : ∃ a b c, cs = #[a, b, c] := by
  obtain ⟨l⟩ := cs
  match l, h with
  | [a, b, c], _ => exact ⟨a, b, c, rfl⟩
theorem word32_of {a : Int} (h : (Lit.int .u32 a).wf = true) : ∃ x : BitVec 32, a = nv32 x := by
  have hx : 0 ≤ a ∧ a ≤ 4294967295 := by simpa [Lit.wf, IntKind.min, IntKind.max, IntKind.signed, IntKind.bits] using h
  exact ⟨BitVec.ofInt 32 a, (nv32_of a hx.1 (by omega)).symm⟩
theorem view_nonce {H : Type} {enc : TypeId × Value → H} {W : World} {base : Nat} {v : Value} {d : DataW H} {p : List MemPlace}
    (hok : Value.okWide Try.prog W .any base 35 v) (h : DataW.Trod enc Try.prog W 0 (fun _ => true) true 35 v d p) :
    ∃ n : Nn, v = .agg #[.int .u32 (nv32 n.1), .int .u32 (nv32 n.2.1), .int .u64 (nv n.2.2)] := by
  simp only [Value.okWide, Try.underlying35] at hok
  obtain ⟨cs, rfl, hsz, _⟩ := hok
  rw [Try.cells35] at hsz
  obtain ⟨c0, c1, c2, rfl⟩ := three_of cs hsz
  obtain ⟨fuel, hf⟩ := h
  obtain ⟨y0, y1, y2, m, _, _, h0, h1, h2⟩ := Deep.trod_struct3 Try.underlying35 hf
  simp [Try.cells28, Try.cells33, Value.cells] at h0 h1 h2
  obtain ⟨a, e0, _, wa⟩ := DataW.trod_int Try.underlying33 h0
  obtain ⟨b, e1, _, wb⟩ := DataW.trod_int Try.underlying33 h1
  obtain ⟨c, e2, _, wc⟩ := DataW.trod_int Try.underlying28 h2
  simp at e0 e1 e2
  subst e0 e1 e2
  obtain ⟨x, rfl⟩ := word32_of wa
  obtain ⟨y, rfl⟩ := word32_of wb
  obtain ⟨z, rfl⟩ := word_of wc
  exact ⟨(x, y, z), rfl⟩
end Go.Proofs.Ytkkehbebaokdmaa
