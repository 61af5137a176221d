/-
  FnExactSameMeadows: for every argument the law returns true, and the arguments read as before. No condition.
-/
import Derived.Test.YtfndjccfjpmbjaaRows
import Derived.Test.YtfndjccfjpmbjaaOpenP
import Derived.Test.YtfndjccfjpmbjaaSameMeadows
namespace Go.Proofs.Ytfndjccfjpmbjaa
open Go Go.RowKit Go.ChangeShapes Go.WideShapes Go.ChangeAt

set_option maxRecDepth 100000 in
theorem fnExactSameMeadows_lifted (os : Os) (started : os.Started) (H : Type) (enc : TypeId × Value → H) :
    ReturnsInHanded {} Try.checked os 3 .any (Rows.fnExactSameMeadowsSpec.pre6 enc Try.prog Try.f3 Rows.fnExactSameMeadowsRow.domain false) (Rows.fnExactSameMeadowsSpec.post enc Try.prog Try.f3 false true false false) := by
  refine returnsInHanded_of_change (C := Try.checked) own started (by kernel_rfl) Try.func3
    (ChangeSpec.witness6 (enc := enc) (C := Try.checked) false ⟨#[], #[.slice none 0 0, .slice none 0 0], []⟩ 8 (by kernel_rfl) (by kernel_rfl) (by kernel_rfl) (by kernel_rfl)) ?_
  intro W base args ds gs before hval0 hW _ _
  have hval : ∀ (j : Nat) t v, Try.f3.params[j]? = some t → args[j]? = some v → Value.okWide Try.prog W .any base t v := hval0
  have hW' := hW
  obtain ⟨p, q, hA, hV, -, -, -⟩ := hW
  rw [Try.params3] at hA hval
  obtain ⟨v0, v1, d0, d1, q0, q1, rfl, rfl, -, h0, h1⟩ := trodAll_two hA
  obtain ⟨rfl, rfl⟩ := trodVars_none hV
  obtain ⟨n0, hs0, hn0, hf0, hG0⟩ := open_meadows Try.underlying22 (hval 0 _ v0 rfl rfl) h0
  obtain ⟨n1, hs1, hn1, hf1, hG1⟩ := open_meadows Try.underlying22 (hval 1 _ v1 rfl rfl) h1
  refine (lawSameMeadows_any v0 v1 n0 n1 hs0 hs1 hn0 hn1 W hG0 hG1).mono fun e W' ⟨he, hb⟩ => ?_
  subst he
  exact ⟨_, rfl, law_post (by kernel_rfl) (fun t ht => by
    rw [Try.params3] at ht
    have hall : ([22, 22].all fun u => Try.prog.readableRec u && decide (u < Try.prog.types.size)) = true := by kernel_rfl
    have hm := List.all_eq_true.1 hall t ht
    rw [Bool.and_eq_true] at hm
    exact ⟨hm.1, of_decide_eq_true hm.2⟩) (by kernel_rfl) rfl Try.underlying4 hW' rfl hb⟩

theorem fnExactSameMeadows_holds : Rows.FnExactSameMeadowsSaid :=
  OpenClaim.holds_of_wide 3 Try.f3 rfl rfl rfl rfl rfl rfl rfl ⟨rfl, rfl, rfl, rfl, rfl⟩ rfl rfl rfl rfl rfl (by kernel_rfl) Try.func3 (by kernel_rfl)
    (of_decide_eq_true (by kernel_rfl)) (by unfold Func.isWrapper; first | (rw [if_pos (by decide +kernel)]; kernel_rfl) | (rw [if_neg (by decide +kernel)]; exact ⟨rfl, rfl⟩))
    (fun os started H enc _ => fnExactSameMeadows_lifted os started H enc)
#print axioms fnExactSameMeadows_holds
end Go.Proofs.Ytfndjccfjpmbjaa
