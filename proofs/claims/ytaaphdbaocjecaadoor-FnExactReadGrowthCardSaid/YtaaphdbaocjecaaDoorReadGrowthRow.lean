/-
  FnExactReadGrowth: for every argument the law returns true, and the arguments read as before; the package's errors are tied to the program's text (the card). No other condition.
-/
import Derived.Test.YtaaphdbaocjecaaDoorP2
import Derived.Test.YtaaphdbaocjecaaDoorP3
import Derived.Test.YtaaphdbaocjecaaDoorP11
import Derived.ChangeMaps5
import Derived.Test.YtaaphdbaocjecaaDoorP13
namespace Go.Proofs.YtaaphdbaocjecaaDoor
open Go Go.RowKit Go.ChangeShapes Go.WideShapes Go.ChangeAt

theorem met_fnExactReadGrowth (os : Os) (args : Array Value) : laidMetH Tryd.prog Rows.fnExactReadGrowthRow.laid ((World.laidAll Tryd.prog os Rows.fnExactReadGrowthRow.laid).forCall (fun _ _ => 0) ⟨#[], args, []⟩).memory := by
  rw [MakeChecks.laidMetH_plain _ _ _ (by kernel_rfl)]
  exact laidMet_laidAll _ (by kernel_rfl) (by kernel_rfl)

set_option maxRecDepth 100000 in
theorem fnExactReadGrowth_lifted (os : Os) (started : os.Started) (H : Type) (enc : TypeId × Value → H) :
    ReturnsInHanded {} Tryd.checked os 3 .any (fun w args => (Rows.fnExactReadGrowthSpec.pre enc Tryd.prog Tryd.f3 [] false w args ∧ laidMetH Tryd.prog Rows.fnExactReadGrowthRow.laid w) ∧ sizedMet enc Tryd.prog Tryd.f3 (OpenSpec.ofChange Rows.fnExactReadGrowthSpec) false w args)
      (Rows.fnExactReadGrowthSpec.post enc Tryd.prog Tryd.f3 false true false false) := by
  refine lifted_shaped (C := Tryd.checked) (X := fun w _ => laidMetH Tryd.prog Rows.fnExactReadGrowthRow.laid w) (fun _ _ _ hh h => h.of_heap hh) own started (by kernel_rfl) Tryd.func3
    (ChangeSpec.witness_shaped (enc := enc) (C := Tryd.checked) (os := os) (X := fun w _ => laidMetH Tryd.prog Rows.fnExactReadGrowthRow.laid w) false (World.laidAll Tryd.prog os Rows.fnExactReadGrowthRow.laid) #[.string ⟨#[]⟩] 8 (World.laidAll_os _ _ _) (World.shaped_of_ZipB (by kernel_rfl) (by kernel_rfl)) (by kernel_rfl) (by kernel_rfl) (by kernel_rfl) (met_fnExactReadGrowth os _)) ?_
  intro W base args ds gs before hval0 hW hL hsh
  have hval : ∀ (j : Nat) t v, Tryd.f3.params[j]? = some t → args[j]? = some v → Value.okWide Tryd.prog W .any base t v := hval0
  have hW' := hW
  obtain ⟨p, q, hA, hV, -, -, -⟩ := hW
  rw [Tryd.params3] at hA hval
  obtain ⟨v0, d0, rfl, rfl, h0⟩ := trodAll_one hA
  obtain ⟨g1, g2, g3, g4, g5, g6, g7, rfl⟩ := many_of (trodVars_length hV)
  obtain ⟨s0, rfl, -, -, hs0⟩ := Go.ChangeMaps.open_string Tryd.underlying9 (hval 0 9 v0 rfl rfl) h0
  obtain ⟨ea, hE⟩ := rdEnv_of_laid hL hsh
  refine (lawReadGrowth_any s0 hs0 W hE).mono fun e W' ⟨he, hb⟩ => ?_
  subst he
  exact ⟨_, rfl, law_post (by kernel_rfl) (fun t ht => by
    rw [Tryd.params3] at ht
    have hall : ([9].all fun u => Tryd.prog.readableRec u && decide (u < Tryd.prog.types.size)) = true := by kernel_rfl
    have hm := List.all_eq_true.1 hall t ht
    rw [Bool.and_eq_true] at hm
    exact ⟨hm.1, of_decide_eq_true hm.2⟩) (by kernel_rfl) rfl Tryd.underlying4 hW' rfl hb⟩

theorem fnExactReadGrowth_row : Rows.FnExactReadGrowthSaid :=
  OpenClaim.holds_of_wide 3 Tryd.f3 rfl rfl rfl rfl rfl rfl rfl ⟨rfl, rfl, rfl, rfl, rfl⟩ rfl rfl rfl rfl rfl (by kernel_rfl) Tryd.func3 readGrowth_closed
    (of_decide_eq_true (by kernel_rfl)) (by unfold Func.isWrapper; first | (rw [if_pos (by decide +kernel)]; kernel_rfl) | (rw [if_neg (by decide +kernel)]; exact ⟨rfl, rfl⟩))
    (fun os started H enc _ => fnExactReadGrowth_lifted os started H enc)

theorem fnExactReadGrowth_card : Rows.FnExactReadGrowthCardSaid :=
  Claim7.holds_tied_plain_at .later [] [.data, .data, .data, .data, .sentinel, .sentinel, .sentinel, .sentinel, .sentinel, .sentinel, .sentinel, .sentinel, .sentinel, .pinned] true Rows.fnExactReadGrowthCard.stood.harness Rows.fnExactReadGrowthCard.stood.looks
    fnExactReadGrowth_row (fun _ h => by cases h) (by kernel_rfl) (fun _ h => by cases h) fnExactReadGrowth_row_tie rfl ⟨rfl, rfl⟩ (by kernel_rfl) rfl
    (fun f fn hf hfn => by
      obtain rfl : f = 3 := Option.some.inj ((show Tryd.prog.funcNamed "loop.example/g01345/laws.FnExactReadGrowth" = some 3 by kernel_rfl).symm.trans hf) |>.symm
      obtain rfl : fn = Tryd.f3 := (Option.some.inj (Tryd.func3.symm.trans hfn)).symm
      exact ⟨by kernel_rfl, fun j t ht => by
        rw [Tryd.params3] at ht
        have hm : t ∈ [9] := by simpa using Array.mem_of_getElem? ht
        have hall : ([9].all fun u => !Tryd.prog.wantsStandIn u) = true := by kernel_rfl
        exact (show Tryd.prog.wantsStandIn t = false by simpa using List.all_eq_true.1 hall t hm)⟩)
    (by kernel_rfl)
#print axioms fnExactReadGrowth_card
end Go.Proofs.YtaaphdbaocjecaaDoor
