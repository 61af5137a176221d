/-
  DERIVED. GIVEN WITH THE SEED: THE CARDS: each row of YtbbododeglkghaaDoorRows.lean that lists a variable, with what it lists TIED to the program's text (the seventh form; the later family's looks); each row that meets fmt, with fmt's text TOLD by the authors' own Lean function (tested against real Go, not proved from fmt's source: count such statements apart). THE CARD IS WHAT COUNTS. Prove the row's statement (the work); the ties are given (YtbbododeglkghaaDoorTie.lean); close each card by the builder's one call (the guide's Derived/Test/ToyasCard.lean, 'card_holds'). Laid BY PROGRAM, IN A SANDBOX (cutbox-door.mjs). By AI agents, Wed Nov 11 2026. No macro, syntax, notation, axiom, sorry.
-/
import Derived.Test.YtbbododeglkghaaDoorRows
import GoSem.ClaimSeven
namespace Go.Proofs.YtbbododeglkghaaDoor
namespace Rows

/-- THE TIED CARD OF 'laws.FnExactDayBehind'. -/
def fnExactDayBehindCard : Claim7 := { stood := { row := fnExactDayBehindRow, standIns := [], harness := (true, "3f768fdb6e3537ed924662af3c56e868774afeb8ae599fffbec2cc4a2fd2033c"), looks := true }, kinds := [], alts := [], laidByText := true, laidKinds := [.sentinel, .sentinel, .sentinel, .sentinel, .sentinel, .sentinel, .sentinel], laidTests := true, laidLooks := .later }
def FnExactDayBehindCardSaid : Prop := Claim7.holds Tryd.pinned (.plain (OpenSpec.ofChange fnExactDayBehindSpec)) fnExactDayBehindCard

/-- THE TIED CARD OF 'laws.FnExactCheckPlan'. -/
def fnExactCheckPlanCard : Claim7 := { stood := { row := fnExactCheckPlanRow, standIns := [], harness := (true, "3f768fdb6e3537ed924662af3c56e868774afeb8ae599fffbec2cc4a2fd2033c"), looks := true }, kinds := [], alts := [], laidByText := true, laidKinds := [.sentinel, .sentinel, .sentinel, .sentinel, .sentinel, .sentinel, .sentinel], laidTests := true, laidLooks := .later }
def FnExactCheckPlanCardSaid : Prop := Claim7.holds Tryd.pinned (.plain (OpenSpec.ofChange fnExactCheckPlanSpec)) fnExactCheckPlanCard

/-- THE TIED CARD OF 'laws.FnExactFirstHungry'. -/
def fnExactFirstHungryCard : Claim7 := { stood := { row := fnExactFirstHungryRow, standIns := [], harness := (true, "3f768fdb6e3537ed924662af3c56e868774afeb8ae599fffbec2cc4a2fd2033c"), looks := true }, kinds := [], alts := [], laidByText := true, laidKinds := [.sentinel, .sentinel, .sentinel, .sentinel, .sentinel, .sentinel, .sentinel], laidTests := true, laidLooks := .later }
def FnExactFirstHungryCardSaid : Prop := Claim7.holds Tryd.pinned (.plain (OpenSpec.ofChange fnExactFirstHungrySpec)) fnExactFirstHungryCard

/-- THE TIED CARD OF 'laws.FnExactGrassBehind'. -/
def fnExactGrassBehindCard : Claim7 := { stood := { row := fnExactGrassBehindRow, standIns := [], harness := (true, "3f768fdb6e3537ed924662af3c56e868774afeb8ae599fffbec2cc4a2fd2033c"), looks := true }, kinds := [], alts := [], laidByText := true, laidKinds := [.sentinel, .sentinel, .sentinel, .sentinel, .sentinel, .sentinel, .sentinel], laidTests := true, laidLooks := .later }
def FnExactGrassBehindCardSaid : Prop := Claim7.holds Tryd.pinned (.plain (OpenSpec.ofChange fnExactGrassBehindSpec)) fnExactGrassBehindCard

/-- THE TIED CARD OF 'laws.FnExactEnoughFor'. -/
def fnExactEnoughForCard : Claim7 := { stood := { row := fnExactEnoughForRow, standIns := [], harness := (true, "3f768fdb6e3537ed924662af3c56e868774afeb8ae599fffbec2cc4a2fd2033c"), looks := true }, kinds := [], alts := [], laidByText := true, laidKinds := [.sentinel, .sentinel, .sentinel, .sentinel, .sentinel, .sentinel, .sentinel], laidTests := true, laidLooks := .later }
def FnExactEnoughForCardSaid : Prop := Claim7.holds Tryd.pinned (.plain (OpenSpec.ofChange fnExactEnoughForSpec)) fnExactEnoughForCard

/-- THE TIED CARD OF 'laws.FnExactRestsOf'. -/
def fnExactRestsOfCard : Claim7 := { stood := { row := fnExactRestsOfRow, standIns := [], harness := (true, "3f768fdb6e3537ed924662af3c56e868774afeb8ae599fffbec2cc4a2fd2033c"), looks := true }, kinds := [], alts := [], laidByText := true, laidKinds := [.sentinel, .sentinel, .sentinel, .sentinel, .sentinel, .sentinel, .sentinel], laidTests := true, laidLooks := .later }
def FnExactRestsOfCardSaid : Prop := Claim7.holds Tryd.pinned (.plain (OpenSpec.ofChange fnExactRestsOfSpec)) fnExactRestsOfCard

/-- THE TIED CARD OF 'laws.FnExactGreedyPlan'. -/
def fnExactGreedyPlanCard : Claim7 := { stood := { row := fnExactGreedyPlanRow, standIns := [], harness := (true, "3f768fdb6e3537ed924662af3c56e868774afeb8ae599fffbec2cc4a2fd2033c"), looks := true }, kinds := [], alts := [], laidByText := true, laidKinds := [.sentinel, .sentinel, .sentinel, .sentinel, .sentinel, .sentinel, .sentinel], laidTests := true, laidLooks := .later }
def FnExactGreedyPlanCardSaid : Prop := Claim7.holds Tryd.pinned (.plain (OpenSpec.ofChange fnExactGreedyPlanSpec)) fnExactGreedyPlanCard

/-- THE TIED CARD OF 'laws.FnExactLongestGreedy'. -/
def fnExactLongestGreedyCard : Claim7 := { stood := { row := fnExactLongestGreedyRow, standIns := [], harness := (true, "3f768fdb6e3537ed924662af3c56e868774afeb8ae599fffbec2cc4a2fd2033c"), looks := true }, kinds := [], alts := [], laidByText := true, laidKinds := [.sentinel, .sentinel, .sentinel, .sentinel, .sentinel, .sentinel, .sentinel], laidTests := true, laidLooks := .later }
def FnExactLongestGreedyCardSaid : Prop := Claim7.holds Tryd.pinned (.plain (OpenSpec.ofChange fnExactLongestGreedySpec)) fnExactLongestGreedyCard

/-- THE TIED CARD OF 'laws.FnExactFirstPlan'. -/
def fnExactFirstPlanCard : Claim7 := { stood := { row := fnExactFirstPlanRow, standIns := [], harness := (true, "3f768fdb6e3537ed924662af3c56e868774afeb8ae599fffbec2cc4a2fd2033c"), looks := true }, kinds := [], alts := [], laidByText := true, laidKinds := [.sentinel, .sentinel, .sentinel, .sentinel, .sentinel, .sentinel, .sentinel], laidTests := true, laidLooks := .later }
def FnExactFirstPlanCardSaid : Prop := Claim7.holds Tryd.pinned (.plain (OpenSpec.ofChange fnExactFirstPlanSpec)) fnExactFirstPlanCard

/-- THE TIED CARD OF 'laws.FnExactGreatestNeed'. -/
def fnExactGreatestNeedCard : Claim7 := { stood := { row := fnExactGreatestNeedRow, standIns := [], harness := (true, "3f768fdb6e3537ed924662af3c56e868774afeb8ae599fffbec2cc4a2fd2033c"), looks := true }, kinds := [], alts := [], laidByText := true, laidKinds := [.sentinel, .sentinel, .sentinel, .sentinel, .sentinel, .sentinel, .sentinel], laidTests := true, laidLooks := .later }
def FnExactGreatestNeedCardSaid : Prop := Claim7.holds Tryd.pinned (.plain (OpenSpec.ofChange fnExactGreatestNeedSpec)) fnExactGreatestNeedCard

/-- THE SECOND FORM's CARD OF 'laws.FnExactDayBehind'. -/
def fnExactDayBehindUptoCard : Claim7 := { stood := { row := fnExactDayBehindUptoRow, standIns := [], harness := (true, "3f768fdb6e3537ed924662af3c56e868774afeb8ae599fffbec2cc4a2fd2033c"), looks := true }, kinds := [], alts := [], laidByText := true, laidKinds := [.sentinel, .sentinel, .sentinel, .sentinel, .sentinel, .sentinel, .sentinel], laidTests := true, laidLooks := .later }
def FnExactDayBehindUptoCardSaid : Prop := Claim7.holds Tryd.pinned (.plain (OpenSpec.upto fnExactDayBehindSpec)) fnExactDayBehindUptoCard

/-- THE SECOND FORM's CARD OF 'laws.FnExactCheckPlan'. -/
def fnExactCheckPlanUptoCard : Claim7 := { stood := { row := fnExactCheckPlanUptoRow, standIns := [], harness := (true, "3f768fdb6e3537ed924662af3c56e868774afeb8ae599fffbec2cc4a2fd2033c"), looks := true }, kinds := [], alts := [], laidByText := true, laidKinds := [.sentinel, .sentinel, .sentinel, .sentinel, .sentinel, .sentinel, .sentinel], laidTests := true, laidLooks := .later }
def FnExactCheckPlanUptoCardSaid : Prop := Claim7.holds Tryd.pinned (.plain (OpenSpec.upto fnExactCheckPlanSpec)) fnExactCheckPlanUptoCard

/-- THE SECOND FORM's CARD OF 'laws.FnExactFirstHungry'. -/
def fnExactFirstHungryUptoCard : Claim7 := { stood := { row := fnExactFirstHungryUptoRow, standIns := [], harness := (true, "3f768fdb6e3537ed924662af3c56e868774afeb8ae599fffbec2cc4a2fd2033c"), looks := true }, kinds := [], alts := [], laidByText := true, laidKinds := [.sentinel, .sentinel, .sentinel, .sentinel, .sentinel, .sentinel, .sentinel], laidTests := true, laidLooks := .later }
def FnExactFirstHungryUptoCardSaid : Prop := Claim7.holds Tryd.pinned (.plain (OpenSpec.upto fnExactFirstHungrySpec)) fnExactFirstHungryUptoCard

/-- THE SECOND FORM's CARD OF 'laws.FnExactGrassBehind'. -/
def fnExactGrassBehindUptoCard : Claim7 := { stood := { row := fnExactGrassBehindUptoRow, standIns := [], harness := (true, "3f768fdb6e3537ed924662af3c56e868774afeb8ae599fffbec2cc4a2fd2033c"), looks := true }, kinds := [], alts := [], laidByText := true, laidKinds := [.sentinel, .sentinel, .sentinel, .sentinel, .sentinel, .sentinel, .sentinel], laidTests := true, laidLooks := .later }
def FnExactGrassBehindUptoCardSaid : Prop := Claim7.holds Tryd.pinned (.plain (OpenSpec.upto fnExactGrassBehindSpec)) fnExactGrassBehindUptoCard

/-- THE SECOND FORM's CARD OF 'laws.FnExactEnoughFor'. -/
def fnExactEnoughForUptoCard : Claim7 := { stood := { row := fnExactEnoughForUptoRow, standIns := [], harness := (true, "3f768fdb6e3537ed924662af3c56e868774afeb8ae599fffbec2cc4a2fd2033c"), looks := true }, kinds := [], alts := [], laidByText := true, laidKinds := [.sentinel, .sentinel, .sentinel, .sentinel, .sentinel, .sentinel, .sentinel], laidTests := true, laidLooks := .later }
def FnExactEnoughForUptoCardSaid : Prop := Claim7.holds Tryd.pinned (.plain (OpenSpec.upto fnExactEnoughForSpec)) fnExactEnoughForUptoCard

/-- THE SECOND FORM's CARD OF 'laws.FnExactRestsOf'. -/
def fnExactRestsOfUptoCard : Claim7 := { stood := { row := fnExactRestsOfUptoRow, standIns := [], harness := (true, "3f768fdb6e3537ed924662af3c56e868774afeb8ae599fffbec2cc4a2fd2033c"), looks := true }, kinds := [], alts := [], laidByText := true, laidKinds := [.sentinel, .sentinel, .sentinel, .sentinel, .sentinel, .sentinel, .sentinel], laidTests := true, laidLooks := .later }
def FnExactRestsOfUptoCardSaid : Prop := Claim7.holds Tryd.pinned (.plain (OpenSpec.upto fnExactRestsOfSpec)) fnExactRestsOfUptoCard

/-- THE SECOND FORM's CARD OF 'laws.FnExactGreedyPlan'. -/
def fnExactGreedyPlanUptoCard : Claim7 := { stood := { row := fnExactGreedyPlanUptoRow, standIns := [], harness := (true, "3f768fdb6e3537ed924662af3c56e868774afeb8ae599fffbec2cc4a2fd2033c"), looks := true }, kinds := [], alts := [], laidByText := true, laidKinds := [.sentinel, .sentinel, .sentinel, .sentinel, .sentinel, .sentinel, .sentinel], laidTests := true, laidLooks := .later }
def FnExactGreedyPlanUptoCardSaid : Prop := Claim7.holds Tryd.pinned (.plain (OpenSpec.upto fnExactGreedyPlanSpec)) fnExactGreedyPlanUptoCard

/-- THE SECOND FORM's CARD OF 'laws.FnExactLongestGreedy'. -/
def fnExactLongestGreedyUptoCard : Claim7 := { stood := { row := fnExactLongestGreedyUptoRow, standIns := [], harness := (true, "3f768fdb6e3537ed924662af3c56e868774afeb8ae599fffbec2cc4a2fd2033c"), looks := true }, kinds := [], alts := [], laidByText := true, laidKinds := [.sentinel, .sentinel, .sentinel, .sentinel, .sentinel, .sentinel, .sentinel], laidTests := true, laidLooks := .later }
def FnExactLongestGreedyUptoCardSaid : Prop := Claim7.holds Tryd.pinned (.plain (OpenSpec.upto fnExactLongestGreedySpec)) fnExactLongestGreedyUptoCard

/-- THE SECOND FORM's CARD OF 'laws.FnExactFirstPlan'. -/
def fnExactFirstPlanUptoCard : Claim7 := { stood := { row := fnExactFirstPlanUptoRow, standIns := [], harness := (true, "3f768fdb6e3537ed924662af3c56e868774afeb8ae599fffbec2cc4a2fd2033c"), looks := true }, kinds := [], alts := [], laidByText := true, laidKinds := [.sentinel, .sentinel, .sentinel, .sentinel, .sentinel, .sentinel, .sentinel], laidTests := true, laidLooks := .later }
def FnExactFirstPlanUptoCardSaid : Prop := Claim7.holds Tryd.pinned (.plain (OpenSpec.upto fnExactFirstPlanSpec)) fnExactFirstPlanUptoCard

/-- THE SECOND FORM's CARD OF 'laws.FnExactGreatestNeed'. -/
def fnExactGreatestNeedUptoCard : Claim7 := { stood := { row := fnExactGreatestNeedUptoRow, standIns := [], harness := (true, "3f768fdb6e3537ed924662af3c56e868774afeb8ae599fffbec2cc4a2fd2033c"), looks := true }, kinds := [], alts := [], laidByText := true, laidKinds := [.sentinel, .sentinel, .sentinel, .sentinel, .sentinel, .sentinel, .sentinel], laidTests := true, laidLooks := .later }
def FnExactGreatestNeedUptoCardSaid : Prop := Claim7.holds Tryd.pinned (.plain (OpenSpec.upto fnExactGreatestNeedSpec)) fnExactGreatestNeedUptoCard
end Rows
end Go.Proofs.YtbbododeglkghaaDoor
