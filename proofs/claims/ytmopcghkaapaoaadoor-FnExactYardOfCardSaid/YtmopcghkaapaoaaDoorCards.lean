/-
  DERIVED. GIVEN WITH THE SEED: THE CARDS: each row of YtmopcghkaapaoaaDoorRows.lean that lists a variable, with what it lists TIED to the program's text (the seventh form; the later family's looks); each row that meets fmt, with fmt's text TOLD by the authors' own Lean function (tested against real Go, not proved from fmt's source: count such statements apart). THE CARD IS WHAT COUNTS. Prove the row's statement (the work); the ties are given (YtmopcghkaapaoaaDoorTie.lean); close each card by the builder's one call (the guide's Derived/Test/ToyasCard.lean, 'card_holds'). Laid BY PROGRAM, IN A SANDBOX (cutbox-door.mjs). By AI agents, Wed Nov 11 2026. No macro, syntax, notation, axiom, sorry.
-/
import Derived.Test.YtmopcghkaapaoaaDoorRows
import GoSem.ClaimSeven
namespace Go.Proofs.YtmopcghkaapaoaaDoor
namespace Rows

/-- THE TIED CARD OF 'laws.FnExactSameYard'. -/
def fnExactSameYardCard : Claim7 := { stood := { row := fnExactSameYardRow, standIns := [], harness := (true, "53234fda06ad69d93cb1ba390ace02fc409af24ff255f664789304ca38afbcc7"), looks := true }, kinds := [], alts := [], laidByText := true, laidKinds := [.sentinel, .sentinel, .sentinel, .sentinel, .sentinel, .sentinel, .sentinel], laidTests := true, laidLooks := .later }
def FnExactSameYardCardSaid : Prop := Claim7.holds Tryd.pinned (.plain (OpenSpec.ofChange fnExactSameYardSpec)) fnExactSameYardCard

/-- THE TIED CARD OF 'laws.FnExactStepsBetween'. -/
def fnExactStepsBetweenCard : Claim7 := { stood := { row := fnExactStepsBetweenRow, standIns := [], harness := (true, "53234fda06ad69d93cb1ba390ace02fc409af24ff255f664789304ca38afbcc7"), looks := true }, kinds := [], alts := [], laidByText := true, laidKinds := [.sentinel, .sentinel, .sentinel, .sentinel, .sentinel, .sentinel, .sentinel], laidTests := true, laidLooks := .later }
def FnExactStepsBetweenCardSaid : Prop := Claim7.holds Tryd.pinned (.plain (OpenSpec.ofChange fnExactStepsBetweenSpec)) fnExactStepsBetweenCard

/-- THE TIED CARD OF 'laws.FnExactYardOf'. -/
def fnExactYardOfCard : Claim7 := { stood := { row := fnExactYardOfRow, standIns := [], harness := (true, "53234fda06ad69d93cb1ba390ace02fc409af24ff255f664789304ca38afbcc7"), looks := true }, kinds := [], alts := [], laidByText := true, laidKinds := [.sentinel, .sentinel, .sentinel, .sentinel, .sentinel, .sentinel, .sentinel], laidTests := true, laidLooks := .later }
def FnExactYardOfCardSaid : Prop := Claim7.holds Tryd.pinned (.plain (OpenSpec.ofChange fnExactYardOfSpec)) fnExactYardOfCard

/-- THE TIED CARD OF 'laws.FnExactYardsOf'. -/
def fnExactYardsOfCard : Claim7 := { stood := { row := fnExactYardsOfRow, standIns := [], harness := (true, "53234fda06ad69d93cb1ba390ace02fc409af24ff255f664789304ca38afbcc7"), looks := true }, kinds := [], alts := [], laidByText := true, laidKinds := [.sentinel, .sentinel, .sentinel, .sentinel, .sentinel, .sentinel, .sentinel], laidTests := true, laidLooks := .later }
def FnExactYardsOfCardSaid : Prop := Claim7.holds Tryd.pinned (.plain (OpenSpec.ofChange fnExactYardsOfSpec)) fnExactYardsOfCard

/-- THE TIED CARD OF 'laws.FnExactIdleHurdles'. -/
def fnExactIdleHurdlesCard : Claim7 := { stood := { row := fnExactIdleHurdlesRow, standIns := [], harness := (true, "53234fda06ad69d93cb1ba390ace02fc409af24ff255f664789304ca38afbcc7"), looks := true }, kinds := [], alts := [], laidByText := true, laidKinds := [.sentinel, .sentinel, .sentinel, .sentinel, .sentinel, .sentinel, .sentinel], laidTests := true, laidLooks := .later }
def FnExactIdleHurdlesCardSaid : Prop := Claim7.holds Tryd.pinned (.plain (OpenSpec.ofChange fnExactIdleHurdlesSpec)) fnExactIdleHurdlesCard

/-- THE TIED CARD OF 'laws.FnExactDropIdle'. -/
def fnExactDropIdleCard : Claim7 := { stood := { row := fnExactDropIdleRow, standIns := [], harness := (true, "53234fda06ad69d93cb1ba390ace02fc409af24ff255f664789304ca38afbcc7"), looks := true }, kinds := [], alts := [], laidByText := true, laidKinds := [.sentinel, .sentinel, .sentinel, .sentinel, .sentinel, .sentinel, .sentinel], laidTests := true, laidLooks := .later }
def FnExactDropIdleCardSaid : Prop := Claim7.holds Tryd.pinned (.plain (OpenSpec.ofChange fnExactDropIdleSpec)) fnExactDropIdleCard

/-- THE TIED CARD OF 'laws.FnExactWayBetween'. -/
def fnExactWayBetweenCard : Claim7 := { stood := { row := fnExactWayBetweenRow, standIns := [], harness := (true, "53234fda06ad69d93cb1ba390ace02fc409af24ff255f664789304ca38afbcc7"), looks := true }, kinds := [], alts := [], laidByText := true, laidKinds := [.sentinel, .sentinel, .sentinel, .sentinel, .sentinel, .sentinel, .sentinel], laidTests := true, laidLooks := .later }
def FnExactWayBetweenCardSaid : Prop := Claim7.holds Tryd.pinned (.plain (OpenSpec.ofChange fnExactWayBetweenSpec)) fnExactWayBetweenCard

/-- THE TIED CARD OF 'laws.FnExactStepsReach'. -/
def fnExactStepsReachCard : Claim7 := { stood := { row := fnExactStepsReachRow, standIns := [], harness := (true, "53234fda06ad69d93cb1ba390ace02fc409af24ff255f664789304ca38afbcc7"), looks := true }, kinds := [], alts := [], laidByText := true, laidKinds := [.sentinel, .sentinel, .sentinel, .sentinel, .sentinel, .sentinel, .sentinel], laidTests := true, laidLooks := .later }
def FnExactStepsReachCardSaid : Prop := Claim7.holds Tryd.pinned (.plain (OpenSpec.ofChange fnExactStepsReachSpec)) fnExactStepsReachCard

/-- THE TIED CARD OF 'laws.FnExactSidesOf'. -/
def fnExactSidesOfCard : Claim7 := { stood := { row := fnExactSidesOfRow, standIns := [], harness := (true, "53234fda06ad69d93cb1ba390ace02fc409af24ff255f664789304ca38afbcc7"), looks := true }, kinds := [], alts := [], laidByText := true, laidKinds := [.sentinel, .sentinel, .sentinel, .sentinel, .sentinel, .sentinel, .sentinel], laidTests := true, laidLooks := .later }
def FnExactSidesOfCardSaid : Prop := Claim7.holds Tryd.pinned (.plain (OpenSpec.ofChange fnExactSidesOfSpec)) fnExactSidesOfCard

/-- THE TIED CARD OF 'laws.FnExactCellsFor'. -/
def fnExactCellsForCard : Claim7 := { stood := { row := fnExactCellsForRow, standIns := [], harness := (true, "53234fda06ad69d93cb1ba390ace02fc409af24ff255f664789304ca38afbcc7"), looks := true }, kinds := [], alts := [], laidByText := true, laidKinds := [.sentinel, .sentinel, .sentinel, .sentinel, .sentinel, .sentinel, .sentinel], laidTests := true, laidLooks := .later }
def FnExactCellsForCardSaid : Prop := Claim7.holds Tryd.pinned (.plain (OpenSpec.ofChange fnExactCellsForSpec)) fnExactCellsForCard

/-- THE SECOND FORM's CARD OF 'laws.FnExactSameYard'. -/
def fnExactSameYardUptoCard : Claim7 := { stood := { row := fnExactSameYardUptoRow, standIns := [], harness := (true, "53234fda06ad69d93cb1ba390ace02fc409af24ff255f664789304ca38afbcc7"), looks := true }, kinds := [], alts := [], laidByText := true, laidKinds := [.sentinel, .sentinel, .sentinel, .sentinel, .sentinel, .sentinel, .sentinel], laidTests := true, laidLooks := .later }
def FnExactSameYardUptoCardSaid : Prop := Claim7.holds Tryd.pinned (.plain (OpenSpec.upto fnExactSameYardSpec)) fnExactSameYardUptoCard

/-- THE SECOND FORM's CARD OF 'laws.FnExactStepsBetween'. -/
def fnExactStepsBetweenUptoCard : Claim7 := { stood := { row := fnExactStepsBetweenUptoRow, standIns := [], harness := (true, "53234fda06ad69d93cb1ba390ace02fc409af24ff255f664789304ca38afbcc7"), looks := true }, kinds := [], alts := [], laidByText := true, laidKinds := [.sentinel, .sentinel, .sentinel, .sentinel, .sentinel, .sentinel, .sentinel], laidTests := true, laidLooks := .later }
def FnExactStepsBetweenUptoCardSaid : Prop := Claim7.holds Tryd.pinned (.plain (OpenSpec.upto fnExactStepsBetweenSpec)) fnExactStepsBetweenUptoCard

/-- THE SECOND FORM's CARD OF 'laws.FnExactYardOf'. -/
def fnExactYardOfUptoCard : Claim7 := { stood := { row := fnExactYardOfUptoRow, standIns := [], harness := (true, "53234fda06ad69d93cb1ba390ace02fc409af24ff255f664789304ca38afbcc7"), looks := true }, kinds := [], alts := [], laidByText := true, laidKinds := [.sentinel, .sentinel, .sentinel, .sentinel, .sentinel, .sentinel, .sentinel], laidTests := true, laidLooks := .later }
def FnExactYardOfUptoCardSaid : Prop := Claim7.holds Tryd.pinned (.plain (OpenSpec.upto fnExactYardOfSpec)) fnExactYardOfUptoCard

/-- THE SECOND FORM's CARD OF 'laws.FnExactYardsOf'. -/
def fnExactYardsOfUptoCard : Claim7 := { stood := { row := fnExactYardsOfUptoRow, standIns := [], harness := (true, "53234fda06ad69d93cb1ba390ace02fc409af24ff255f664789304ca38afbcc7"), looks := true }, kinds := [], alts := [], laidByText := true, laidKinds := [.sentinel, .sentinel, .sentinel, .sentinel, .sentinel, .sentinel, .sentinel], laidTests := true, laidLooks := .later }
def FnExactYardsOfUptoCardSaid : Prop := Claim7.holds Tryd.pinned (.plain (OpenSpec.upto fnExactYardsOfSpec)) fnExactYardsOfUptoCard

/-- THE SECOND FORM's CARD OF 'laws.FnExactIdleHurdles'. -/
def fnExactIdleHurdlesUptoCard : Claim7 := { stood := { row := fnExactIdleHurdlesUptoRow, standIns := [], harness := (true, "53234fda06ad69d93cb1ba390ace02fc409af24ff255f664789304ca38afbcc7"), looks := true }, kinds := [], alts := [], laidByText := true, laidKinds := [.sentinel, .sentinel, .sentinel, .sentinel, .sentinel, .sentinel, .sentinel], laidTests := true, laidLooks := .later }
def FnExactIdleHurdlesUptoCardSaid : Prop := Claim7.holds Tryd.pinned (.plain (OpenSpec.upto fnExactIdleHurdlesSpec)) fnExactIdleHurdlesUptoCard

/-- THE SECOND FORM's CARD OF 'laws.FnExactDropIdle'. -/
def fnExactDropIdleUptoCard : Claim7 := { stood := { row := fnExactDropIdleUptoRow, standIns := [], harness := (true, "53234fda06ad69d93cb1ba390ace02fc409af24ff255f664789304ca38afbcc7"), looks := true }, kinds := [], alts := [], laidByText := true, laidKinds := [.sentinel, .sentinel, .sentinel, .sentinel, .sentinel, .sentinel, .sentinel], laidTests := true, laidLooks := .later }
def FnExactDropIdleUptoCardSaid : Prop := Claim7.holds Tryd.pinned (.plain (OpenSpec.upto fnExactDropIdleSpec)) fnExactDropIdleUptoCard

/-- THE SECOND FORM's CARD OF 'laws.FnExactWayBetween'. -/
def fnExactWayBetweenUptoCard : Claim7 := { stood := { row := fnExactWayBetweenUptoRow, standIns := [], harness := (true, "53234fda06ad69d93cb1ba390ace02fc409af24ff255f664789304ca38afbcc7"), looks := true }, kinds := [], alts := [], laidByText := true, laidKinds := [.sentinel, .sentinel, .sentinel, .sentinel, .sentinel, .sentinel, .sentinel], laidTests := true, laidLooks := .later }
def FnExactWayBetweenUptoCardSaid : Prop := Claim7.holds Tryd.pinned (.plain (OpenSpec.upto fnExactWayBetweenSpec)) fnExactWayBetweenUptoCard

/-- THE SECOND FORM's CARD OF 'laws.FnExactStepsReach'. -/
def fnExactStepsReachUptoCard : Claim7 := { stood := { row := fnExactStepsReachUptoRow, standIns := [], harness := (true, "53234fda06ad69d93cb1ba390ace02fc409af24ff255f664789304ca38afbcc7"), looks := true }, kinds := [], alts := [], laidByText := true, laidKinds := [.sentinel, .sentinel, .sentinel, .sentinel, .sentinel, .sentinel, .sentinel], laidTests := true, laidLooks := .later }
def FnExactStepsReachUptoCardSaid : Prop := Claim7.holds Tryd.pinned (.plain (OpenSpec.upto fnExactStepsReachSpec)) fnExactStepsReachUptoCard

/-- THE SECOND FORM's CARD OF 'laws.FnExactSidesOf'. -/
def fnExactSidesOfUptoCard : Claim7 := { stood := { row := fnExactSidesOfUptoRow, standIns := [], harness := (true, "53234fda06ad69d93cb1ba390ace02fc409af24ff255f664789304ca38afbcc7"), looks := true }, kinds := [], alts := [], laidByText := true, laidKinds := [.sentinel, .sentinel, .sentinel, .sentinel, .sentinel, .sentinel, .sentinel], laidTests := true, laidLooks := .later }
def FnExactSidesOfUptoCardSaid : Prop := Claim7.holds Tryd.pinned (.plain (OpenSpec.upto fnExactSidesOfSpec)) fnExactSidesOfUptoCard

/-- THE SECOND FORM's CARD OF 'laws.FnExactCellsFor'. -/
def fnExactCellsForUptoCard : Claim7 := { stood := { row := fnExactCellsForUptoRow, standIns := [], harness := (true, "53234fda06ad69d93cb1ba390ace02fc409af24ff255f664789304ca38afbcc7"), looks := true }, kinds := [], alts := [], laidByText := true, laidKinds := [.sentinel, .sentinel, .sentinel, .sentinel, .sentinel, .sentinel, .sentinel], laidTests := true, laidLooks := .later }
def FnExactCellsForUptoCardSaid : Prop := Claim7.holds Tryd.pinned (.plain (OpenSpec.upto fnExactCellsForSpec)) fnExactCellsForUptoCard
end Rows
end Go.Proofs.YtmopcghkaapaoaaDoor
