/-
  FnExactTakeHurdles: for every argument the law returns true, and the arguments read as before; the package's errors are tied to the program's text (the card). No other condition.
-/
import Derived.Test.YtofgkmoilncfpaaDoorP1
import Derived.Test.YtofgkmoilncfpaaDoorP2
import Derived.Test.YtofgkmoilncfpaaDoorP9
namespace Go.Proofs.YtofgkmoilncfpaaDoor
open Go Go.RowKit Go.ChangeShapes Go.WideShapes Go.ChangeAt

theorem door_met_fnExactTakeHurdles (os : Os) (args : Array Value) : laidMetH Tryd.prog Rows.fnExactTakeHurdlesRow.laid ((World.doorLaid Tryd.prog 400 os).forCall (fun _ _ => 0) ⟨#[], args, []⟩).memory :=
  laidMetH_of_parts3 (fuel := 8) (laidMet_of_run' 8 (by kernel_rfl) (by kernel_rfl)) (by kernel_rfl) (by kernel_rfl)

set_option maxRecDepth 100000 in
theorem fnExactTakeHurdles_lifted (os : Os) (started : os.Started) (H : Type) (enc : TypeId × Value → H) :
    ReturnsInHanded {} Tryd.checked os 4 .any (fun w args => (Rows.fnExactTakeHurdlesSpec.pre enc Tryd.prog Tryd.f4 [] false w args ∧ laidMetH Tryd.prog Rows.fnExactTakeHurdlesRow.laid w) ∧ sizedMet enc Tryd.prog Tryd.f4 (OpenSpec.ofChange Rows.fnExactTakeHurdlesSpec) false w args)
      (Rows.fnExactTakeHurdlesSpec.post enc Tryd.prog Tryd.f4 false true false false) := by
  refine returnsInHanded_of_change_and (C := Tryd.checked) (X := fun w _ => laidMetH Tryd.prog Rows.fnExactTakeHurdlesRow.laid w) (fun _ _ _ hh h => h.of_heap hh) own started (by kernel_rfl) Tryd.func4
    (ChangeSpec.witness_shaped (enc := enc) (C := Tryd.checked) (os := os) (X := fun w _ => laidMetH Tryd.prog Rows.fnExactTakeHurdlesRow.laid w) false (World.doorLaid Tryd.prog 400 os) #[.agg (arr 122 zP), .slice none 0 0] 8 rfl (World.shaped_of_RefB (by kernel_rfl) (by kernel_rfl)) (by kernel_rfl) (by kernel_rfl) (by kernel_rfl) (door_met_fnExactTakeHurdles os _)) ?_
  intro W base args ds gs before hval0 hW _ _ hL _
  have hval : ∀ (j : Nat) t v, Tryd.f4.params[j]? = some t → args[j]? = some v → Value.okWide Tryd.prog W .any base t v := hval0
  have hW' := hW
  obtain ⟨p, q, hA, hV, -, -, -⟩ := hW
  rw [Tryd.params4] at hA hval
  obtain ⟨v0, v1, d0, d1, q0, q1, rfl, rfl, -, h0, h1⟩ := trodAll_two hA
  obtain ⟨g1, g2, g3, g4, g5, g6, g7, rfl⟩ := many_of (trodVars_length hV)
  obtain ⟨a0, b0, rfl⟩ := open_pas (hval 0 _ v0 rfl rfl)
  obtain ⟨n1, hs1, hn1, hf1, hG1⟩ := open_hurdles Tryd.underlying30 (hval 1 _ v1 rfl rfl) h1
  obtain ⟨ea, hE⟩ := errs_of_laid hL
  refine (lawTakeHurdles_any a0 b0 v1 n1 hs1 hn1 hf1 W hE hG1).mono fun e W' ⟨he, hb⟩ => ?_
  subst he
  exact ⟨_, rfl, law_post (by kernel_rfl) (fun t ht => by
    rw [Tryd.params4] at ht
    have hall : ([29, 30].all fun u => Tryd.prog.readableRec u && decide (u < Tryd.prog.types.size)) = true := by kernel_rfl
    have hm := List.all_eq_true.1 hall t ht
    rw [Bool.and_eq_true] at hm
    exact ⟨hm.1, of_decide_eq_true hm.2⟩) (by kernel_rfl) rfl Tryd.underlying4 hW' rfl hb⟩

theorem fnExactTakeHurdles_row : Rows.FnExactTakeHurdlesSaid :=
  OpenClaim.holds_of_wide 4 Tryd.f4 rfl rfl rfl rfl rfl rfl rfl ⟨rfl, rfl, rfl, rfl, rfl⟩ rfl rfl rfl rfl rfl (by kernel_rfl) Tryd.func4 takeHurdles_closed
    (of_decide_eq_true (by kernel_rfl)) (by unfold Func.isWrapper; first | (rw [if_pos (by decide +kernel)]; kernel_rfl) | (rw [if_neg (by decide +kernel)]; exact ⟨rfl, rfl⟩))
    (fun os started H enc _ => fnExactTakeHurdles_lifted os started H enc)

theorem fnExactTakeHurdles_card : Rows.FnExactTakeHurdlesCardSaid :=
  Claim7.holds_tied_plain_at .later [] [.sentinel, .sentinel, .sentinel, .sentinel, .sentinel, .sentinel, .sentinel] true Rows.fnExactTakeHurdlesCard.stood.harness Rows.fnExactTakeHurdlesCard.stood.looks
    fnExactTakeHurdles_row (fun _ h => by cases h) (by kernel_rfl) (fun _ h => by cases h) fnExactTakeHurdles_row_tie rfl ⟨rfl, rfl⟩ (by kernel_rfl) rfl
    (fun f fn hf hfn => by
      obtain rfl : f = 4 := Option.some.inj ((show Tryd.prog.funcNamed "loop.example/g01345/laws.FnExactTakeHurdles" = some 4 by kernel_rfl).symm.trans hf) |>.symm
      obtain rfl : fn = Tryd.f4 := (Option.some.inj (Tryd.func4.symm.trans hfn)).symm
      exact ⟨by kernel_rfl, fun j t ht => by
        rw [Tryd.params4] at ht
        have hm : t ∈ [29, 30] := by simpa using Array.mem_of_getElem? ht
        have hall : ([29, 30].all fun u => !Tryd.prog.wantsStandIn u) = true := by kernel_rfl
        exact (show Tryd.prog.wantsStandIn t = false by simpa using List.all_eq_true.1 hall t hm)⟩)
    (by kernel_rfl)
#print axioms fnExactTakeHurdles_card
end Go.Proofs.YtofgkmoilncfpaaDoor
