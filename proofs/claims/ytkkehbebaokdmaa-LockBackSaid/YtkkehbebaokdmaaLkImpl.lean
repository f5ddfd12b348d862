/- The landed lock is what the statements ask. -/
import Derived.Test.YtkkehbebaokdmaaLkImB
namespace Go.Proofs.Ytkkehbebaokdmaa
open Go.RowKit
set_option maxRecDepth 20000

theorem lock_is : LockIs LInv where
  stay := fun h => h.stay
  lt := fun h => h.lt
  ptr := fun h => by
    obtain ⟨b, e, _⟩ := h
    exact ⟨_, e⟩
  none_ := fun h hi => by
    obtain ⟨b, e, ⟨rfl, _⟩ | ⟨h1, _⟩⟩ := h
    · exact ⟨rfl, rfl⟩
    · rw [hi] at h1
      cases h1
  plain := fun {F w v st} h hi {x n xs} hs => by
    obtain ⟨b, e, ⟨rfl, hb, hF⟩ | ⟨h1, _⟩⟩ := h
    · exact (sat_not hb.not8 hs).mono (fun k _ h hf => h ((hF k).1 hf))
    · rw [hi] at h1
      cases h1
  real := ireal
  ideal := iideal orc_is
  seal_ := iseal8 orc_is
  open_ := iopen8 orc_is
  sum := isum8 orc_is
  issued := iissued8 orc_is
  twice := itwice8 orc_is
  sealNil := isealNil8
  openNil := iopenNil8
  sumNil := isumNil8
  issuedNil := iissuedNil8
  twiceNil := itwiceNil8
end Go.Proofs.Ytkkehbebaokdmaa
