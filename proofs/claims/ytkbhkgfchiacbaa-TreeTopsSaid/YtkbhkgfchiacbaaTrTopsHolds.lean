/- Proved: for any two rows of leaves TreeTops returns true: by an ideal lock they have one top just if they are one. No condition. -/
import Derived.Test.YtkbhkgfchiacbaaTrTops
import Derived.Test.YtkbhkgfchiacbaaM20
import Derived.Test.YtkbhkgfchiacbaaM22
import Derived.Test.YtkbhkgfchiacbaaM01
namespace Go.Proofs.Ytkbhkgfchiacbaa
open Go.ChangeShapes Go.WideShapes Go.ChangeAt Go.RowKit
set_option maxRecDepth 20000

set_option maxRecDepth 100000 in
theorem treeTops_lifted (os : Os) (started : os.Started) (H : Type) (enc : TypeId × Value → H) :
    ReturnsInHanded {} Try.checked os 6 .any (Rows.treeTopsSpec.pre6 enc Try.prog Try.f6 Rows.treeTopsRow.domain false) (Rows.treeTopsSpec.post enc Try.prog Try.f6 false true false false) := by
  refine returnsInHanded_of_change (C := Try.checked) Try.own started (by kernel_rfl) Try.func6
    (ChangeSpec.witness6 (enc := enc) (C := Try.checked) false ⟨#[], #[.slice none 0 0, .slice none 0 0], []⟩ 8 (by kernel_rfl) (by kernel_rfl) (by kernel_rfl) (by kernel_rfl)) ?_
  intro W base args ds gs before hval0 hW hcnd _
  have hval : ∀ (j : Nat) t v, Try.f6.params[j]? = some t → args[j]? = some v → Value.okWide Try.prog W .any base t v := hval0
  have hW' := hW
  obtain ⟨p, q, hA0, hV, rfl, hfz, hnd⟩ := hW
  have hA : DataW.TrodAll enc Try.prog W 0 (fun _ => true) true Try.f6.params.toList args.toList ds p := hA0
  rw [Try.params6] at hA hval
  obtain ⟨v0, v1, d0, d1, p0, p1, rfl, rfl, rfl, h0, h1⟩ := trodAll_two hA
  obtain ⟨rfl, rfl⟩ := trodVars_none hV
  obtain ⟨x0, m0, c0, A0, rfl, f0, hl0⟩ := view_each Try.underlying22 Try.cells40 (by decide) row_cells (hval 0 22 v0 rfl rfl) h0 (fun x hx => hW'.lt x (by simp [hx]))
  obtain ⟨x1, m1, c1, A1, rfl, f1, hl1⟩ := view_each Try.underlying22 Try.cells40 (by decide) row_cells (hval 1 22 v1 rfl rfl) h1 (fun x hx => hW'.lt x (by simp [hx]))
  clear hA0 hval0
  refine (trtops lock_is (tree_all lock_is) x0 x1 m0 c0 m1 c1 A0 A1 (Nat.le_trans f0.1 f0.2.1) (Nat.le_trans f1.1 f1.2.1) f0 f1 W (rows_lin hl0) (rows_lin hl1)).mono fun e W' ⟨he, hb⟩ => ?_
  subst he
  exact ⟨_, rfl, law_post Try.laidOut (of_decide_eq_true (by kernel_rfl)) (by kernel_rfl) Try.underlying4 rfl hW' rfl hb⟩

theorem treeTops_holds : Rows.TreeTopsSaid :=
  OpenClaim.holds_of_wide 6 Try.f6 rfl rfl rfl rfl rfl rfl rfl ⟨rfl, rfl, rfl, rfl, rfl⟩ rfl rfl rfl rfl rfl (by kernel_rfl) Try.func6 (by kernel_rfl)
    (of_decide_eq_true (by kernel_rfl)) (by unfold Func.isWrapper; first | (rw [if_pos (by decide +kernel)]; kernel_rfl) | (rw [if_neg (by decide +kernel)]; exact ⟨rfl, rfl⟩))
    (fun os started H enc _ => treeTops_lifted os started H enc)

end Go.Proofs.Ytkbhkgfchiacbaa
