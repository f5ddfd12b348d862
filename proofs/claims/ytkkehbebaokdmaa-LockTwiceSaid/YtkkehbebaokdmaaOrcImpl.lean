/- The program's ideal sealer keeps what is asked of one. -/
import Derived.Test.YtkkehbebaokdmaaOImT
import Derived.Test.YtkkehbebaokdmaaOImW
namespace Go.Proofs.Ytkkehbebaokdmaa
open Go.RowKit
set_option maxRecDepth 20000

theorem orc_is : OrcIs PInv where
  stay := fun h hs hb => h.stay hs hb
  lt := fun h => h.lt
  ptr := fun h => by
    obtain ⟨b, _, _, _, _, e, _⟩ := h
    exact ⟨_, e⟩
  make := inew
  sealIn := fun F v L S key nn xs ys x y nx ny c d hnx hny hL bx by_ fx fy w hI sx sy => iseal F v L S key nn xs ys x y nx ny c d hnx hny hL bx by_ fx fy w hI sx sy
  openYes := fun F v st q x y n m c d i hL bx by_ _ _ hit w hI sx sy => (iopen F v st q x y n m c d hL bx by_ w hI sx.sat sy.sat).mono (fun e w' h => by
    rcases h with ⟨j, z, cz, hj, rfl, sz, hb⟩ | ⟨hno, _, _⟩
    · obtain rfl := hit.one hj (by omega)
      have hlt := hI.lt
      exact ⟨z, cz, F, rfl, hI.kept hb, sz.mono (fun k _ hk => ⟨hk, fun hf => absurd (hlt k hf) (Nat.not_lt.2 hk)⟩)⟩
    · exact absurd hit (hno i))
  openNo := fun F v st q x y n m c d hL bx by_ _ _ hno w hI sx sy => (iopen F v st q x y n m c d hL bx by_ w hI sx.sat sy.sat).mono (fun e w' h => by
    rcases h with ⟨j, z, cz, hj, _⟩ | ⟨_, rfl, hb⟩
    · exact absurd hj (hno j)
    · exact ⟨none, 0, F, rfl, hI.kept hb⟩)
  sum := fun F v L S P x m c hm hP hS hf w hI hl => isumm F v L S P x m c hm hP hS hf w hI hl
  issued := fun F v st hL w hI => iissued F v st hL w hI
  twice := fun F v st t hL ht w hI => itwice F v st t hL ht w hI
  sealNil := isealNil
  openNil := iopenNil
  sumNil := isumNil
  issuedNil := iissuedNil
  twiceNil := itwiceNil
end Go.Proofs.Ytkkehbebaokdmaa
