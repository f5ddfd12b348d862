/- LkImpl ViewB: texts laid together. -/
import Derived.Test.YtkkehbebaokdmaaLkImB
import Derived.Test.YtkkehbebaokdmaaM01
import Derived.Deep.Strs

/- The landed lock is what the statements ask. -/
namespace Go.Proofs.Ytkkehbebaokdmaa
open Go.RowKit
set_option maxRecDepth 20000

theorem lock_is : LockIs LInv where
  stay := fun h => h.stay
  lt := fun h => h.lt
  ptr := fun h => by
    obtain ⟨b, e, _⟩ := h
    exact ⟨_, e⟩
  none_ := fun h hi => by
    obtain ⟨b, e, ⟨rfl, _⟩ | ⟨h1, _⟩⟩ := h
    · exact ⟨rfl, rfl⟩
    · rw [hi] at h1
      cases h1
  plain := fun {F w v st} h hi {x n xs} hs => by
    obtain ⟨b, e, ⟨rfl, hb, hF⟩ | ⟨h1, _⟩⟩ := h
    · exact (sat_not hb.not8 hs).mono (fun k _ h hf => h ((hF k).1 hf))
    · rw [hi] at h1
      cases h1
  real := ireal
  ideal := iideal orc_is
  seal_ := iseal8 orc_is
  open_ := iopen8 orc_is
  sum := isum8 orc_is
  issued := iissued8 orc_is
  twice := itwice8 orc_is
  sealNil := isealNil8
  openNil := iopenNil8
  sumNil := isumNil8
  issuedNil := iissuedNil8
  twiceNil := itwiceNil8
end Go.Proofs.Ytkkehbebaokdmaa


/- A slice of bytes that came in, as SAt. -/
namespace Go.Proofs.Ytkkehbebaokdmaa
open Go.ChangeShapes Go.WideShapes Go.ChangeAt Go.RowKit
set_option maxRecDepth 20000

theorem view_sat {H : Type} {enc : TypeId × Value → H} {W : World} {base : Nat} {v : Value} {d : DataW H} {p : List MemPlace}
    (hok : Value.okWide Try.prog W .any base 27 v) (h : DataW.Trod enc Try.prog W 0 (fun _ => true) true 27 v d p) (hlt : ∀ x ∈ p, x.block < W.heap.size) :
    ∃ (x : Option Addr) (n c : Nat) (xs : List Int), v = .slice x n c ∧ n ≤ c ∧ c ≤ maxLen ∧ Bytes xs ∧ SAt W x n xs ∧ (x = none → n = 0 ∧ c = 0) := by
  have hv := view_bytes hok h hlt
  obtain ⟨a, n, cap, xs, rfl, hn, hnc, hcm, hx, hat⟩ := hv
  refine ⟨a, n, cap, xs, rfl, hnc, hcm, hx, ⟨hn, fun hl => ?_⟩, fun e => ?_⟩
  · rcases hat with h | ⟨b, off, e, hb, ha⟩
    · omega
    · exact ⟨b, off, e, hb, ha⟩
  · subst e
    obtain ⟨fuel, hf⟩ := h
    rcases open_ints Try.underlying27 Try.underlying5 Try.cells5 hf with ⟨hcs, _⟩ | ⟨a, len', cap', zs, hcs, _⟩
    · simp [Value.cells] at hcs
      exact hcs
    · simp [Value.cells] at hcs
end Go.Proofs.Ytkkehbebaokdmaa
