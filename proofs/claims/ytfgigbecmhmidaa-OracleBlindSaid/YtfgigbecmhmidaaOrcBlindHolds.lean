/- Proved: for any key, number and two rows of bytes OracleBlind returns true: what oracle.Seal gives does not hang on the data, but on how many bytes they are. No condition. -/
import Derived.Test.YtfgigbecmhmidaaOrcBlind
import Derived.Test.YtfgigbecmhmidaaOrcImpl
import Derived.Test.YtfgigbecmhmidaaViewN
import Derived.Test.YtfgigbecmhmidaaViewB
import Derived.Test.YtfgigbecmhmidaaViewP
namespace Go.Proofs.Ytfgigbecmhmidaa
open Go.ChangeShapes Go.WideShapes Go.ChangeAt Go.RowKit

set_option maxRecDepth 100000 in
theorem oracleBlind_lifted (os : Os) (started : os.Started) (H : Type) (enc : TypeId × Value → H) :
    ReturnsInHanded {} Try.checked os 5 .any (Rows.oracleBlindSpec.pre6 enc Try.prog Try.f5 Rows.oracleBlindRow.domain false) (Rows.oracleBlindSpec.post enc Try.prog Try.f5 false true false false) := by
  refine returnsInHanded_of_change (C := Try.checked) Try.own started (by kernel_rfl) Try.func5
    (ChangeSpec.witness6 (enc := enc) (C := Try.checked) false ⟨#[], #[.agg #[.int .u64 0, .int .u64 0], .agg #[.int .u32 0, .int .u32 0, .int .u64 0], .slice none 0 0, .slice none 0 0], []⟩ 8 (by kernel_rfl) (by kernel_rfl) (by kernel_rfl) (by kernel_rfl)) ?_
  intro W base args ds gs before hval0 hW hcnd _
  have hval : ∀ (j : Nat) t v, Try.f5.params[j]? = some t → args[j]? = some v → Value.okWide Try.prog W .any base t v := hval0
  have hW' := hW
  obtain ⟨p, q, hA0, hV, rfl, hfz, hnd⟩ := hW
  have hA : DataW.TrodAll enc Try.prog W 0 (fun _ => true) true Try.f5.params.toList args.toList ds p := hA0
  rw [Try.params5] at hA hval
  obtain ⟨v0, v1, v2, v3, d0, d1, d2, d3, p0, p1, p2, p3, rfl, rfl, rfl, h0, h1, h2, h3⟩ := trodAll_four hA
  obtain ⟨rfl, rfl⟩ := trodVars_none hV
  obtain ⟨a0, rfl⟩ := view_pair (hval 0 33 v0 rfl rfl) h0
  obtain ⟨a1, rfl⟩ := view_nonce (hval 1 36 v1 rfl rfl) h1
  obtain ⟨x2, n2, c2, xs2, rfl, hc2, hm2, bs2, st2, nil2⟩ := view_sat (hval 2 37 v2 rfl rfl) h2 (fun x hx => hW'.lt x (by simp [hx]))
  obtain ⟨x3, n3, c3, xs3, rfl, hc3, hm3, bs3, st3, nil3⟩ := view_sat (hval 3 37 v3 rfl rfl) h3 (fun x hx => hW'.lt x (by simp [hx]))
  clear hA0 hval0
  refine (blind_any orc_is a0 a1 xs2 xs3 x2 x3 n2 n3 c2 c3 bs2 bs3 ⟨hc2, hm2, nil2⟩ ⟨hc3, hm3, nil3⟩ W st2 st3).mono fun e W' ⟨he, hb⟩ => ?_
  subst he
  exact ⟨_, rfl, law_post Try.laidOut (of_decide_eq_true (by kernel_rfl)) (by kernel_rfl) Try.underlying4 rfl hW' rfl hb⟩

theorem oracleBlind_holds : Rows.OracleBlindSaid :=
  OpenClaim.holds_of_wide 5 Try.f5 rfl rfl rfl rfl rfl rfl rfl ⟨rfl, rfl, rfl, rfl, rfl⟩ rfl rfl rfl rfl rfl (by kernel_rfl) Try.func5 (by kernel_rfl)
    (of_decide_eq_true (by kernel_rfl)) (by unfold Func.isWrapper; first | (rw [if_pos (by decide +kernel)]; kernel_rfl) | (rw [if_neg (by decide +kernel)]; exact ⟨rfl, rfl⟩))
    (fun os started H enc _ => oracleBlind_lifted os started H enc)

end Go.Proofs.Ytfgigbecmhmidaa
