/-
  FnExactValidSights: for every argument the law returns true, and the arguments read as before. No condition.
-/
import Derived.Test.YtfndjccfjpmbjaaRows
import Derived.Test.YtfndjccfjpmbjaaOpenP
import Derived.Test.YtfndjccfjpmbjaaValidSights
namespace Go.Proofs.Ytfndjccfjpmbjaa
open Go Go.RowKit Go.ChangeShapes Go.WideShapes Go.ChangeAt

set_option maxRecDepth 100000 in
theorem fnExactValidSights_lifted (os : Os) (started : os.Started) (H : Type) (enc : TypeId × Value → H) :
    ReturnsInHanded {} Try.checked os 4 .any (Rows.fnExactValidSightsSpec.pre6 enc Try.prog Try.f4 Rows.fnExactValidSightsRow.domain false) (Rows.fnExactValidSightsSpec.post enc Try.prog Try.f4 false true false false) := by
  refine returnsInHanded_of_change (C := Try.checked) own started (by kernel_rfl) Try.func4
    (ChangeSpec.witness6 (enc := enc) (C := Try.checked) false ⟨#[], #[.agg (arr 122 zP), .slice none 0 0], []⟩ 8 (by kernel_rfl) (by kernel_rfl) (by kernel_rfl) (by kernel_rfl)) ?_
  intro W base args ds gs before hval0 hW _ _
  have hval : ∀ (j : Nat) t v, Try.f4.params[j]? = some t → args[j]? = some v → Value.okWide Try.prog W .any base t v := hval0
  have hW' := hW
  obtain ⟨p, q, hA, hV, -, -, -⟩ := hW
  rw [Try.params4] at hA hval
  obtain ⟨v0, v1, d0, d1, q0, q1, rfl, rfl, -, h0, h1⟩ := trodAll_two hA
  obtain ⟨rfl, rfl⟩ := trodVars_none hV
  obtain ⟨a0, b0, rfl⟩ := open_pas (hval 0 _ v0 rfl rfl)
  obtain ⟨n1, hs1, hn1, hf1, hG1⟩ := open_sights Try.underlying36 (hval 1 _ v1 rfl rfl) h1
  refine (lawValidSights_any a0 b0 v1 n1 hs1 hn1 hf1 W hG1).mono fun e W' ⟨he, hb⟩ => ?_
  subst he
  exact ⟨_, rfl, law_post (by kernel_rfl) (fun t ht => by
    rw [Try.params4] at ht
    have hall : ([35, 36].all fun u => Try.prog.readableRec u && decide (u < Try.prog.types.size)) = true := by kernel_rfl
    have hm := List.all_eq_true.1 hall t ht
    rw [Bool.and_eq_true] at hm
    exact ⟨hm.1, of_decide_eq_true hm.2⟩) (by kernel_rfl) rfl Try.underlying4 hW' rfl hb⟩

theorem fnExactValidSights_holds : Rows.FnExactValidSightsSaid :=
  OpenClaim.holds_of_wide 4 Try.f4 rfl rfl rfl rfl rfl rfl rfl ⟨rfl, rfl, rfl, rfl, rfl⟩ rfl rfl rfl rfl rfl (by kernel_rfl) Try.func4 (by kernel_rfl)
    (of_decide_eq_true (by kernel_rfl)) (by unfold Func.isWrapper; first | (rw [if_pos (by decide +kernel)]; kernel_rfl) | (rw [if_neg (by decide +kernel)]; exact ⟨rfl, rfl⟩))
    (fun os started H enc _ => fnExactValidSights_lifted os started H enc)
#print axioms fnExactValidSights_holds
end Go.Proofs.Ytfndjccfjpmbjaa
