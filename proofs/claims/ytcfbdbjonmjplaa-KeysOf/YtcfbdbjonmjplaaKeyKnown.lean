/- What is known of keys. -/
import Derived.Test.YtcfbdbjonmjplaaKeySaid
namespace Go.Proofs.Ytcfbdbjonmjplaa
open Go.RowKit
set_option maxRecDepth 20000
variable {PI : (Nat → Prop) → World → Value → PSt → Prop} {KI : Option Addr → (Nat → Prop) → World → Value → KSt → Prop}
theorem kmake_at (hO : KeysIs PI KI) (p : Option Addr) (s : BitVec 64) {z : Int} (hz : nv s = z) (w : World) : Calls Try.prog 8 #[.int .u64 z, .pointer p] w fun e w' => ∃ v F, e = .returned v ∧ KI p F w' v (s, 1, 1) ∧ (∀ k, F k → w.heap.size ≤ k) ∧ Below w.heap.size w w' := by
  subst hz
  exact hO.make p s w
theorem kknown (hW : PowIs PI) (hO : KeysIs PI KI) (w : World) : Calls Try.prog 24 #[] w fun e w' => e = .returned (.bool true) ∧ Below w.heap.size w w' := by
  go_enter Try.func24, Try.ntmps24
  go_wp2_with fail
  refine (hW.make _).mono ?_
  rintro e w1 ⟨v, G, rfl, hI, hG, hB⟩
  obtain ⟨a, rfl⟩ := hW.base.ptr hI
  have M1 : ObjIn PI w G (.pointer (some a)) (true, none, 0) w1 := ⟨hI, hG, hB⟩
  clear hI hG hB
  go_wp2_with fail
  refine (kmake_at hO (some a) 5#64 rfl _).mono ?_
  rintro e w2 ⟨v, F, rfl, hI, hF, hB⟩
  obtain ⟨c, rfl⟩ := (hO.base _).ptr hI
  have M := M1.pair hW.base hI hF hB
  clear hI hF hB M1
  go_wp2_with fail
  refine (kadd_at hO (some a) _ _ (s' := ((5#64, 1, 2), (true, none, 1))) (r := true) rfl ⟨by decide, by decide, by decide⟩ (by decide) _ M.inv).mono ?_
  rintro e w3 ⟨H3, rfl, hK⟩
  replace M := M.o hK
  clear hK
  go_wp2_with fail
  refine (kerase_at hO (some a) _ _ (n := 2) (s' := ((5#64, 2, 2), (true, none, 2))) (r := true) rfl (U32.small (by decide)) rfl ⟨by decide, by decide, by decide⟩ (by decide) _ M.inv).mono ?_
  rintro e w4 ⟨H4, rfl, hK⟩
  replace M := M.o hK
  clear hK
  go_wp2_with fail
  refine (kepochs_at hO (some a) _ _ _ ⟨by decide, by decide, by decide⟩ _ M.inv).mono ?_
  rintro e w5 ⟨z, cz, rfl, hE, hb⟩
  replace M := M.quiet (pairbase (hO.base _) hW.base _) hb
  clear hb
  obtain ⟨b, o, rfl, hlt, hc⟩ := hE (by decide)
  replace hc := hc 0 (by decide)
  have hc : w5.cell? ⟨b, o, none⟩ = some (.int .u32 2) := hc
  go_wp2_with fail
  refine (kkey_at hO (some a) _ _ _ (n := 1) rfl (U32.small (by decide)) ⟨by decide, by decide, by decide⟩ _ M.inv).mono ?_
  rintro e w6 ⟨rfl, hb⟩
  replace M := M.quiet (pairbase (hO.base _) hW.base _) hb
  have hc6 := (hb.cell (p := ⟨b, o, none⟩) hlt).trans hc
  have hlt6 := Nat.lt_of_lt_of_le hlt hb.size
  clear hb hE hc hlt
  rw [show kHas (5#64, 2, 2) 1 = false from rfl]
  generalize nv (kKey ((5#64, 2, 2), (true, none, 2)).1 1).1 = k1
  generalize nv (kKey ((5#64, 2, 2), (true, none, 2)).1 1).2 = k2
  have hb : Below w6.heap.size w6 (w6.alloc (.cells #[.int .u64 k1, .int .u64 k2] 46)) := (Below.refl _ _).alloc (Nat.le_refl _) _
  have hc7 := (hb.cell (p := ⟨b, o, none⟩) hlt6).trans hc6
  replace M := M.quiet (pairbase (hO.base _) hW.base _) hb
  clear hb hc6 hlt6
  go_wp2_with fail
  generalize w6.alloc (.cells #[.int .u64 k1, .int .u64 k2] 46) = w7 at *
  refine (kcurrent_at hO (some a) _ _ _ ⟨by decide, by decide, by decide⟩ _ M.inv).mono ?_
  rintro e w8 ⟨rfl, hb⟩
  replace M := M.quiet (pairbase (hO.base _) hW.base _) hb
  clear hb
  go_wp2
  go_ret
  exact ⟨rfl, M.hB⟩
end Go.Proofs.Ytcfbdbjonmjplaa
