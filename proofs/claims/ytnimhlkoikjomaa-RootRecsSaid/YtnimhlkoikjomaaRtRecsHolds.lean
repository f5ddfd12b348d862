/- Proved: for any number, sealed bytes and bytes RootRecs returns true: root.PutRec answers the document's bytes or none, root.GetRec takes them back, and any bytes as the document does. No condition. -/
import Derived.Test.YtnimhlkoikjomaaRtRecs
import Derived.Test.YtnimhlkoikjomaaRtImpl
import Derived.Test.YtnimhlkoikjomaaViewSe
namespace Go.Proofs.Ytnimhlkoikjomaa
open Go.ChangeShapes Go.WideShapes Go.ChangeAt Go.RowKit
set_option maxRecDepth 20000

set_option maxRecDepth 100000 in
theorem rootRecs_lifted (os : Os) (started : os.Started) (H : Type) (enc : TypeId × Value → H) :
    ReturnsInHanded {} Try.checked os 5 .any (Rows.rootRecsSpec.pre6 enc Try.prog Try.f5 Rows.rootRecsRow.domain false) (Rows.rootRecsSpec.post enc Try.prog Try.f5 false true false false) := by
  refine returnsInHanded_of_change (C := Try.checked) Try.own started (by kernel_rfl) Try.func5
    (ChangeSpec.witness6 (enc := enc) (C := Try.checked) false ⟨#[], #[.agg #[.int .u32 0, .int .u32 0, .int .u64 0], .agg #[.slice none 0 0, .int .u64 0, .int .u64 0], .slice none 0 0], []⟩ 8 (by kernel_rfl) (by kernel_rfl) (by kernel_rfl) (by kernel_rfl)) ?_
  intro W base args ds gs before hval0 hW hcnd _
  have hval : ∀ (j : Nat) t v, Try.f5.params[j]? = some t → args[j]? = some v → Value.okWide Try.prog W .any base t v := hval0
  have hW' := hW
  obtain ⟨p, q, hA0, hV, rfl, hfz, hnd⟩ := hW
  have hA : DataW.TrodAll enc Try.prog W 0 (fun _ => true) true Try.f5.params.toList args.toList ds p := hA0
  rw [Try.params5] at hA hval
  obtain ⟨v0, v1, v2, d0, d1, d2, p0, p1, p2, rfl, rfl, rfl, h0, h1, h2⟩ := trodAll_three hA
  obtain ⟨rfl, rfl⟩ := trodVars_none hV
  obtain ⟨a0, rfl⟩ := view_nonce (hval 0 37 v0 rfl rfl) h0
  obtain ⟨t1, x1, n1, c1, xs1, rfl, hc1, hm1, bs1, st1, nil1⟩ := view_sealed (hval 1 39 v1 rfl rfl) h1 (fun x hx => hW'.lt x (by simp [hx]))
  obtain ⟨x2, n2, c2, xs2, rfl, hc2, hm2, bs2, st2, nil2⟩ := view_sat (hval 2 28 v2 rfl rfl) h2 (fun x hx => hW'.lt x (by simp [hx]))
  clear hA0 hval0
  refine (rtrecs rt_all rc_all a0 c1 c2 n1 n2 x1 x2 xs1 xs2 t1 bs1 bs2 ⟨hc1, hm1, nil1⟩ ⟨hc2, hm2, nil2⟩ W st1 st2).mono fun e W' ⟨he, hb⟩ => ?_
  subst he
  exact ⟨_, rfl, law_post Try.laidOut (of_decide_eq_true (by kernel_rfl)) (by kernel_rfl) Try.underlying4 rfl hW' rfl hb⟩

theorem rootRecs_holds : Rows.RootRecsSaid :=
  OpenClaim.holds_of_wide 5 Try.f5 rfl rfl rfl rfl rfl rfl rfl ⟨rfl, rfl, rfl, rfl, rfl⟩ rfl rfl rfl rfl rfl (by kernel_rfl) Try.func5 (by kernel_rfl)
    (of_decide_eq_true (by kernel_rfl)) (by unfold Func.isWrapper; first | (rw [if_pos (by decide +kernel)]; kernel_rfl) | (rw [if_neg (by decide +kernel)]; exact ⟨rfl, rfl⟩))
    (fun os started H enc _ => rootRecs_lifted os started H enc)

end Go.Proofs.Ytnimhlkoikjomaa
