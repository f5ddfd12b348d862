/- Proved: for any rows of bytes and any key OracleMany returns true: each that was sealed is opened by its own alone. No condition. -/
import Derived.Test.YtfgigbecmhmidaaOrcMany
import Derived.Test.YtfgigbecmhmidaaOrcImpl
import Derived.Test.YtfgigbecmhmidaaViewL
import Derived.Test.YtfgigbecmhmidaaViewP
namespace Go.Proofs.Ytfgigbecmhmidaa
open Go.ChangeShapes Go.WideShapes Go.ChangeAt Go.RowKit

theorem lat_in {w : World} {x : Option Addr} {m : Nat} {P : List (List Int)} (h : LAt w x m P) : LIn (· < w.heap.size) w x m P :=
  ⟨h.1, fun hm => by
    obtain ⟨b, o, e, hlt, hr⟩ := h.2 hm
    refine ⟨b, o, e, hlt, hlt, fun i hi => ?_⟩
    obtain ⟨y, c, h1, h2, h3⟩ := hr i hi
    exact ⟨y, c, h1, h2.inn, h3⟩⟩

set_option maxRecDepth 100000 in
theorem oracleMany_lifted (os : Os) (started : os.Started) (H : Type) (enc : TypeId × Value → H) :
    ReturnsInHanded {} Try.checked os 8 .any (Rows.oracleManySpec.pre6 enc Try.prog Try.f8 Rows.oracleManyRow.domain false) (Rows.oracleManySpec.post enc Try.prog Try.f8 false true false false) := by
  refine returnsInHanded_of_change_sized (C := Try.checked) Try.own started (by kernel_rfl) Try.func8
    (ChangeSpec.witness6 (enc := enc) (C := Try.checked) false ⟨#[], #[.slice none 0 0, .agg #[.int .u64 0, .int .u64 0]], []⟩ 8 (by kernel_rfl) (by kernel_rfl) (by kernel_rfl) (by kernel_rfl)) ?_
  intro W base args ds gs before hval0 hW hcnd hsz0 _
  have hsz : (DataW.weightsEach Try.prog (Try.f8.params.toList ++ Rows.oracleManySpec.plain.varTypes Try.prog) (ds ++ gs)).all (· ≤ reachBytes) = true := hsz0
  have hval : ∀ (j : Nat) t v, Try.f8.params[j]? = some t → args[j]? = some v → Value.okWide Try.prog W .any base t v := hval0
  have hW' := hW
  obtain ⟨p, q, hA0, hV, rfl, hfz, hnd⟩ := hW
  have hA : DataW.TrodAll enc Try.prog W 0 (fun _ => true) true Try.f8.params.toList args.toList ds p := hA0
  rw [Try.params8] at hA hval hsz
  obtain ⟨v0, v1, d0, d1, p0, p1, rfl, rfl, rfl, h0, h1⟩ := trodAll_two hA
  obtain ⟨rfl, rfl⟩ := trodVars_none hV
  obtain ⟨x0, m0, c0, P0, rfl, hc0, nil0, hP0, hl0⟩ := view_rows (hval 0 58 v0 rfl rfl) h0 (fun n hn => of_decide_eq_true (List.all_eq_true.1 hsz _ (DataW.weights_mem_each (j := 0) rfl rfl n hn)))
  obtain ⟨a1, rfl⟩ := view_pair (hval 1 33 v1 rfl rfl) h1
  clear hA0 hval0
  refine (many_any orc_is a1 P0 x0 m0 c0 hc0 W (lat_in hl0)).mono fun e W' ⟨he, hb⟩ => ?_
  subst he
  exact ⟨_, rfl, law_post Try.laidOut (of_decide_eq_true (by kernel_rfl)) (by kernel_rfl) Try.underlying4 rfl hW' rfl hb⟩

theorem oracleMany_holds : Rows.OracleManySaid :=
  OpenClaim.holds_of_wide 8 Try.f8 rfl rfl rfl rfl rfl rfl rfl ⟨rfl, rfl, rfl, rfl, rfl⟩ rfl rfl rfl rfl rfl (by kernel_rfl) Try.func8 (by kernel_rfl)
    (of_decide_eq_true (by kernel_rfl)) (by unfold Func.isWrapper; first | (rw [if_pos (by decide +kernel)]; kernel_rfl) | (rw [if_neg (by decide +kernel)]; exact ⟨rfl, rfl⟩))
    (fun os started H enc _ => oracleMany_lifted os started H enc)

end Go.Proofs.Ytfgigbecmhmidaa
