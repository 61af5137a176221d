/-
  FnExactSquareOf: for every argument the law returns true, and the arguments read as before. No condition.
-/
import Derived.Test.YtmeheinffdfbkaaRows
import Derived.Test.YtmeheinffdfbkaaOpenP
import Derived.Test.YtmeheinffdfbkaaSquareOf
namespace Go.Proofs.Ytmeheinffdfbkaa
open Go Go.RowKit Go.ChangeShapes Go.WideShapes Go.ChangeAt

set_option maxRecDepth 100000 in
theorem fnExactSquareOf_lifted (os : Os) (started : os.Started) (H : Type) (enc : TypeId × Value → H) :
    ReturnsInHanded {} Try.checked os 3 .any (Rows.fnExactSquareOfSpec.pre6 enc Try.prog Try.f3 Rows.fnExactSquareOfRow.domain false) (Rows.fnExactSquareOfSpec.post enc Try.prog Try.f3 false true false false) := by
  refine returnsInHanded_of_change (C := Try.checked) own started (by kernel_rfl) Try.func3
    (ChangeSpec.witness6 (enc := enc) (C := Try.checked) false ⟨#[], #[.agg (arr 2 (sp 0 0)), .agg (arr 2 (sp 0 0))], []⟩ 8 (by kernel_rfl) (by kernel_rfl) (by kernel_rfl) (by kernel_rfl)) ?_
  intro W base args ds gs before hval0 hW _ _
  have hval : ∀ (j : Nat) t v, Try.f3.params[j]? = some t → args[j]? = some v → Value.okWide Try.prog W .any base t v := hval0
  have hW' := hW
  obtain ⟨p, q, hA, hV, -, -, -⟩ := hW
  rw [Try.params3] at hA hval
  obtain ⟨v0, v1, d0, d1, q0, q1, rfl, rfl, -, h0, h1⟩ := trodAll_two hA
  obtain ⟨rfl, rfl⟩ := trodVars_none hV
  obtain ⟨x0, y0, bx0, by0, rfl⟩ := open_spot (hval 0 _ v0 rfl rfl)
  obtain ⟨x1, y1, bx1, by1, rfl⟩ := open_spot (hval 1 _ v1 rfl rfl)
  refine (lawSquareOf_any x0 y0 bx0 by0 x1 y1 bx1 by1 W).mono fun e W' ⟨he, hb⟩ => ?_
  subst he
  exact ⟨_, rfl, law_post (by kernel_rfl) (fun t ht => by
    rw [Try.params3] at ht
    have hall : ([24, 24].all fun u => Try.prog.readableRec u && decide (u < Try.prog.types.size)) = true := by kernel_rfl
    have hm := List.all_eq_true.1 hall t ht
    rw [Bool.and_eq_true] at hm
    exact ⟨hm.1, of_decide_eq_true hm.2⟩) (by kernel_rfl) rfl Try.underlying4 hW' rfl hb⟩

theorem fnExactSquareOf_holds : Rows.FnExactSquareOfSaid :=
  OpenClaim.holds_of_wide 3 Try.f3 rfl rfl rfl rfl rfl rfl rfl ⟨rfl, rfl, rfl, rfl, rfl⟩ rfl rfl rfl rfl rfl (by kernel_rfl) Try.func3 (by kernel_rfl)
    (of_decide_eq_true (by kernel_rfl)) (by unfold Func.isWrapper; first | (rw [if_pos (by decide +kernel)]; kernel_rfl) | (rw [if_neg (by decide +kernel)]; exact ⟨rfl, rfl⟩))
    (fun os started H enc _ => fnExactSquareOf_lifted os started H enc)
#print axioms fnExactSquareOf_holds
end Go.Proofs.Ytmeheinffdfbkaa
