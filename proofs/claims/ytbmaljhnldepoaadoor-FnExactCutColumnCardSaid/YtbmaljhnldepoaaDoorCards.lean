/-
  DERIVED. GIVEN WITH THE SEED: THE CARDS: each row of YtbmaljhnldepoaaDoorRows.lean that lists a variable, with what it lists TIED to the program's text (the seventh form; the later family's looks); each row that meets fmt, with fmt's text TOLD by the authors' own Lean function (tested against real Go, not proved from fmt's source: count such statements apart). THE CARD IS WHAT COUNTS. Prove the row's statement (the work); the ties are given (YtbmaljhnldepoaaDoorTie.lean); close each card by the builder's one call (the guide's Derived/Test/ToyasCard.lean, 'card_holds'). Laid BY PROGRAM, IN A SANDBOX (cutbox-door.mjs). By AI agents, Wed Nov 11 2026. No macro, syntax, notation, axiom, sorry.
-/
import Derived.Test.YtbmaljhnldepoaaDoorRows
import GoSem.ClaimSeven
namespace Go.Proofs.YtbmaljhnldepoaaDoor
namespace Rows

/-- THE TIED CARD OF 'laws.FnExactYardOf'. -/
def fnExactYardOfCard : Claim7 := { stood := { row := fnExactYardOfRow, standIns := [], harness := (true, "3eaeed35b2b3456885b9044ac862d8a872da3415c3218b7ec87c9cf471eeb30e"), looks := true }, kinds := [], alts := [], laidByText := true, laidKinds := [.sentinel, .sentinel, .sentinel, .sentinel, .sentinel, .sentinel, .sentinel], laidTests := true, laidLooks := .later }
def FnExactYardOfCardSaid : Prop := Claim7.holds Tryd.pinned (.plain (OpenSpec.ofChange fnExactYardOfSpec)) fnExactYardOfCard

/-- THE TIED CARD OF 'laws.FnExactYardsOf'. -/
def fnExactYardsOfCard : Claim7 := { stood := { row := fnExactYardsOfRow, standIns := [], harness := (true, "3eaeed35b2b3456885b9044ac862d8a872da3415c3218b7ec87c9cf471eeb30e"), looks := true }, kinds := [], alts := [], laidByText := true, laidKinds := [.sentinel, .sentinel, .sentinel, .sentinel, .sentinel, .sentinel, .sentinel], laidTests := true, laidLooks := .later }
def FnExactYardsOfCardSaid : Prop := Claim7.holds Tryd.pinned (.plain (OpenSpec.ofChange fnExactYardsOfSpec)) fnExactYardsOfCard

/-- THE TIED CARD OF 'laws.FnExactIdleHurdles'. -/
def fnExactIdleHurdlesCard : Claim7 := { stood := { row := fnExactIdleHurdlesRow, standIns := [], harness := (true, "3eaeed35b2b3456885b9044ac862d8a872da3415c3218b7ec87c9cf471eeb30e"), looks := true }, kinds := [], alts := [], laidByText := true, laidKinds := [.sentinel, .sentinel, .sentinel, .sentinel, .sentinel, .sentinel, .sentinel], laidTests := true, laidLooks := .later }
def FnExactIdleHurdlesCardSaid : Prop := Claim7.holds Tryd.pinned (.plain (OpenSpec.ofChange fnExactIdleHurdlesSpec)) fnExactIdleHurdlesCard

/-- THE TIED CARD OF 'laws.FnExactDropIdle'. -/
def fnExactDropIdleCard : Claim7 := { stood := { row := fnExactDropIdleRow, standIns := [], harness := (true, "3eaeed35b2b3456885b9044ac862d8a872da3415c3218b7ec87c9cf471eeb30e"), looks := true }, kinds := [], alts := [], laidByText := true, laidKinds := [.sentinel, .sentinel, .sentinel, .sentinel, .sentinel, .sentinel, .sentinel], laidTests := true, laidLooks := .later }
def FnExactDropIdleCardSaid : Prop := Claim7.holds Tryd.pinned (.plain (OpenSpec.ofChange fnExactDropIdleSpec)) fnExactDropIdleCard

/-- THE TIED CARD OF 'laws.FnExactWayBetween'. -/
def fnExactWayBetweenCard : Claim7 := { stood := { row := fnExactWayBetweenRow, standIns := [], harness := (true, "3eaeed35b2b3456885b9044ac862d8a872da3415c3218b7ec87c9cf471eeb30e"), looks := true }, kinds := [], alts := [], laidByText := true, laidKinds := [.sentinel, .sentinel, .sentinel, .sentinel, .sentinel, .sentinel, .sentinel], laidTests := true, laidLooks := .later }
def FnExactWayBetweenCardSaid : Prop := Claim7.holds Tryd.pinned (.plain (OpenSpec.ofChange fnExactWayBetweenSpec)) fnExactWayBetweenCard

/-- THE TIED CARD OF 'laws.FnExactSidesOf'. -/
def fnExactSidesOfCard : Claim7 := { stood := { row := fnExactSidesOfRow, standIns := [], harness := (true, "3eaeed35b2b3456885b9044ac862d8a872da3415c3218b7ec87c9cf471eeb30e"), looks := true }, kinds := [], alts := [], laidByText := true, laidKinds := [.sentinel, .sentinel, .sentinel, .sentinel, .sentinel, .sentinel, .sentinel], laidTests := true, laidLooks := .later }
def FnExactSidesOfCardSaid : Prop := Claim7.holds Tryd.pinned (.plain (OpenSpec.ofChange fnExactSidesOfSpec)) fnExactSidesOfCard

/-- THE TIED CARD OF 'laws.FnExactLeastReach'. -/
def fnExactLeastReachCard : Claim7 := { stood := { row := fnExactLeastReachRow, standIns := [], harness := (true, "3eaeed35b2b3456885b9044ac862d8a872da3415c3218b7ec87c9cf471eeb30e"), looks := true }, kinds := [], alts := [], laidByText := true, laidKinds := [.sentinel, .sentinel, .sentinel, .sentinel, .sentinel, .sentinel, .sentinel], laidTests := true, laidLooks := .later }
def FnExactLeastReachCardSaid : Prop := Claim7.holds Tryd.pinned (.plain (OpenSpec.ofChange fnExactLeastReachSpec)) fnExactLeastReachCard

/-- THE TIED CARD OF 'laws.FnExactCellsFor'. -/
def fnExactCellsForCard : Claim7 := { stood := { row := fnExactCellsForRow, standIns := [], harness := (true, "3eaeed35b2b3456885b9044ac862d8a872da3415c3218b7ec87c9cf471eeb30e"), looks := true }, kinds := [], alts := [], laidByText := true, laidKinds := [.sentinel, .sentinel, .sentinel, .sentinel, .sentinel, .sentinel, .sentinel], laidTests := true, laidLooks := .later }
def FnExactCellsForCardSaid : Prop := Claim7.holds Tryd.pinned (.plain (OpenSpec.ofChange fnExactCellsForSpec)) fnExactCellsForCard

/-- THE TIED CARD OF 'laws.FnExactValidWalk'. -/
def fnExactValidWalkCard : Claim7 := { stood := { row := fnExactValidWalkRow, standIns := [], harness := (true, "3eaeed35b2b3456885b9044ac862d8a872da3415c3218b7ec87c9cf471eeb30e"), looks := true }, kinds := [], alts := [], laidByText := true, laidKinds := [.sentinel, .sentinel], laidTests := true, laidLooks := .later }
def FnExactValidWalkCardSaid : Prop := Claim7.holds Tryd.pinned (.plain (OpenSpec.ofChange fnExactValidWalkSpec)) fnExactValidWalkCard

/-- THE TIED CARD OF 'laws.FnExactWindsOf'. -/
def fnExactWindsOfCard : Claim7 := { stood := { row := fnExactWindsOfRow, standIns := [], harness := (true, "3eaeed35b2b3456885b9044ac862d8a872da3415c3218b7ec87c9cf471eeb30e"), looks := true }, kinds := [], alts := [], laidByText := true, laidKinds := [.sentinel, .sentinel, .sentinel, .sentinel, .sentinel, .sentinel, .sentinel], laidTests := true, laidLooks := .later }
def FnExactWindsOfCardSaid : Prop := Claim7.holds Tryd.pinned (.plain (OpenSpec.ofChange fnExactWindsOfSpec)) fnExactWindsOfCard

/-- THE TIED CARD OF 'laws.FnExactRopeLeft'. -/
def fnExactRopeLeftCard : Claim7 := { stood := { row := fnExactRopeLeftRow, standIns := [], harness := (true, "3eaeed35b2b3456885b9044ac862d8a872da3415c3218b7ec87c9cf471eeb30e"), looks := true }, kinds := [], alts := [], laidByText := true, laidKinds := [.sentinel, .sentinel, .sentinel, .sentinel, .sentinel, .sentinel, .sentinel], laidTests := true, laidLooks := .later }
def FnExactRopeLeftCardSaid : Prop := Claim7.holds Tryd.pinned (.plain (OpenSpec.ofChange fnExactRopeLeftSpec)) fnExactRopeLeftCard

/-- THE TIED CARD OF 'laws.FnExactCutColumn'. -/
def fnExactCutColumnCard : Claim7 := { stood := { row := fnExactCutColumnRow, standIns := [], harness := (true, "3eaeed35b2b3456885b9044ac862d8a872da3415c3218b7ec87c9cf471eeb30e"), looks := true }, kinds := [], alts := [], laidByText := true, laidKinds := [.sentinel, .sentinel, .sentinel, .sentinel, .sentinel, .sentinel, .sentinel], laidTests := true, laidLooks := .later }
def FnExactCutColumnCardSaid : Prop := Claim7.holds Tryd.pinned (.plain (OpenSpec.ofChange fnExactCutColumnSpec)) fnExactCutColumnCard

/-- THE SECOND FORM's CARD OF 'laws.FnExactYardOf'. -/
def fnExactYardOfUptoCard : Claim7 := { stood := { row := fnExactYardOfUptoRow, standIns := [], harness := (true, "3eaeed35b2b3456885b9044ac862d8a872da3415c3218b7ec87c9cf471eeb30e"), looks := true }, kinds := [], alts := [], laidByText := true, laidKinds := [.sentinel, .sentinel, .sentinel, .sentinel, .sentinel, .sentinel, .sentinel], laidTests := true, laidLooks := .later }
def FnExactYardOfUptoCardSaid : Prop := Claim7.holds Tryd.pinned (.plain (OpenSpec.upto fnExactYardOfSpec)) fnExactYardOfUptoCard

/-- THE SECOND FORM's CARD OF 'laws.FnExactYardsOf'. -/
def fnExactYardsOfUptoCard : Claim7 := { stood := { row := fnExactYardsOfUptoRow, standIns := [], harness := (true, "3eaeed35b2b3456885b9044ac862d8a872da3415c3218b7ec87c9cf471eeb30e"), looks := true }, kinds := [], alts := [], laidByText := true, laidKinds := [.sentinel, .sentinel, .sentinel, .sentinel, .sentinel, .sentinel, .sentinel], laidTests := true, laidLooks := .later }
def FnExactYardsOfUptoCardSaid : Prop := Claim7.holds Tryd.pinned (.plain (OpenSpec.upto fnExactYardsOfSpec)) fnExactYardsOfUptoCard

/-- THE SECOND FORM's CARD OF 'laws.FnExactIdleHurdles'. -/
def fnExactIdleHurdlesUptoCard : Claim7 := { stood := { row := fnExactIdleHurdlesUptoRow, standIns := [], harness := (true, "3eaeed35b2b3456885b9044ac862d8a872da3415c3218b7ec87c9cf471eeb30e"), looks := true }, kinds := [], alts := [], laidByText := true, laidKinds := [.sentinel, .sentinel, .sentinel, .sentinel, .sentinel, .sentinel, .sentinel], laidTests := true, laidLooks := .later }
def FnExactIdleHurdlesUptoCardSaid : Prop := Claim7.holds Tryd.pinned (.plain (OpenSpec.upto fnExactIdleHurdlesSpec)) fnExactIdleHurdlesUptoCard

/-- THE SECOND FORM's CARD OF 'laws.FnExactDropIdle'. -/
def fnExactDropIdleUptoCard : Claim7 := { stood := { row := fnExactDropIdleUptoRow, standIns := [], harness := (true, "3eaeed35b2b3456885b9044ac862d8a872da3415c3218b7ec87c9cf471eeb30e"), looks := true }, kinds := [], alts := [], laidByText := true, laidKinds := [.sentinel, .sentinel, .sentinel, .sentinel, .sentinel, .sentinel, .sentinel], laidTests := true, laidLooks := .later }
def FnExactDropIdleUptoCardSaid : Prop := Claim7.holds Tryd.pinned (.plain (OpenSpec.upto fnExactDropIdleSpec)) fnExactDropIdleUptoCard

/-- THE SECOND FORM's CARD OF 'laws.FnExactWayBetween'. -/
def fnExactWayBetweenUptoCard : Claim7 := { stood := { row := fnExactWayBetweenUptoRow, standIns := [], harness := (true, "3eaeed35b2b3456885b9044ac862d8a872da3415c3218b7ec87c9cf471eeb30e"), looks := true }, kinds := [], alts := [], laidByText := true, laidKinds := [.sentinel, .sentinel, .sentinel, .sentinel, .sentinel, .sentinel, .sentinel], laidTests := true, laidLooks := .later }
def FnExactWayBetweenUptoCardSaid : Prop := Claim7.holds Tryd.pinned (.plain (OpenSpec.upto fnExactWayBetweenSpec)) fnExactWayBetweenUptoCard

/-- THE SECOND FORM's CARD OF 'laws.FnExactSidesOf'. -/
def fnExactSidesOfUptoCard : Claim7 := { stood := { row := fnExactSidesOfUptoRow, standIns := [], harness := (true, "3eaeed35b2b3456885b9044ac862d8a872da3415c3218b7ec87c9cf471eeb30e"), looks := true }, kinds := [], alts := [], laidByText := true, laidKinds := [.sentinel, .sentinel, .sentinel, .sentinel, .sentinel, .sentinel, .sentinel], laidTests := true, laidLooks := .later }
def FnExactSidesOfUptoCardSaid : Prop := Claim7.holds Tryd.pinned (.plain (OpenSpec.upto fnExactSidesOfSpec)) fnExactSidesOfUptoCard

/-- THE SECOND FORM's CARD OF 'laws.FnExactLeastReach'. -/
def fnExactLeastReachUptoCard : Claim7 := { stood := { row := fnExactLeastReachUptoRow, standIns := [], harness := (true, "3eaeed35b2b3456885b9044ac862d8a872da3415c3218b7ec87c9cf471eeb30e"), looks := true }, kinds := [], alts := [], laidByText := true, laidKinds := [.sentinel, .sentinel, .sentinel, .sentinel, .sentinel, .sentinel, .sentinel], laidTests := true, laidLooks := .later }
def FnExactLeastReachUptoCardSaid : Prop := Claim7.holds Tryd.pinned (.plain (OpenSpec.upto fnExactLeastReachSpec)) fnExactLeastReachUptoCard

/-- THE SECOND FORM's CARD OF 'laws.FnExactCellsFor'. -/
def fnExactCellsForUptoCard : Claim7 := { stood := { row := fnExactCellsForUptoRow, standIns := [], harness := (true, "3eaeed35b2b3456885b9044ac862d8a872da3415c3218b7ec87c9cf471eeb30e"), looks := true }, kinds := [], alts := [], laidByText := true, laidKinds := [.sentinel, .sentinel, .sentinel, .sentinel, .sentinel, .sentinel, .sentinel], laidTests := true, laidLooks := .later }
def FnExactCellsForUptoCardSaid : Prop := Claim7.holds Tryd.pinned (.plain (OpenSpec.upto fnExactCellsForSpec)) fnExactCellsForUptoCard

/-- THE SECOND FORM's CARD OF 'laws.FnExactValidWalk'. -/
def fnExactValidWalkUptoCard : Claim7 := { stood := { row := fnExactValidWalkUptoRow, standIns := [], harness := (true, "3eaeed35b2b3456885b9044ac862d8a872da3415c3218b7ec87c9cf471eeb30e"), looks := true }, kinds := [], alts := [], laidByText := true, laidKinds := [.sentinel, .sentinel], laidTests := true, laidLooks := .later }
def FnExactValidWalkUptoCardSaid : Prop := Claim7.holds Tryd.pinned (.plain (OpenSpec.upto fnExactValidWalkSpec)) fnExactValidWalkUptoCard

/-- THE SECOND FORM's CARD OF 'laws.FnExactWindsOf'. -/
def fnExactWindsOfUptoCard : Claim7 := { stood := { row := fnExactWindsOfUptoRow, standIns := [], harness := (true, "3eaeed35b2b3456885b9044ac862d8a872da3415c3218b7ec87c9cf471eeb30e"), looks := true }, kinds := [], alts := [], laidByText := true, laidKinds := [.sentinel, .sentinel, .sentinel, .sentinel, .sentinel, .sentinel, .sentinel], laidTests := true, laidLooks := .later }
def FnExactWindsOfUptoCardSaid : Prop := Claim7.holds Tryd.pinned (.plain (OpenSpec.upto fnExactWindsOfSpec)) fnExactWindsOfUptoCard

/-- THE SECOND FORM's CARD OF 'laws.FnExactRopeLeft'. -/
def fnExactRopeLeftUptoCard : Claim7 := { stood := { row := fnExactRopeLeftUptoRow, standIns := [], harness := (true, "3eaeed35b2b3456885b9044ac862d8a872da3415c3218b7ec87c9cf471eeb30e"), looks := true }, kinds := [], alts := [], laidByText := true, laidKinds := [.sentinel, .sentinel, .sentinel, .sentinel, .sentinel, .sentinel, .sentinel], laidTests := true, laidLooks := .later }
def FnExactRopeLeftUptoCardSaid : Prop := Claim7.holds Tryd.pinned (.plain (OpenSpec.upto fnExactRopeLeftSpec)) fnExactRopeLeftUptoCard

/-- THE SECOND FORM's CARD OF 'laws.FnExactCutColumn'. -/
def fnExactCutColumnUptoCard : Claim7 := { stood := { row := fnExactCutColumnUptoRow, standIns := [], harness := (true, "3eaeed35b2b3456885b9044ac862d8a872da3415c3218b7ec87c9cf471eeb30e"), looks := true }, kinds := [], alts := [], laidByText := true, laidKinds := [.sentinel, .sentinel, .sentinel, .sentinel, .sentinel, .sentinel, .sentinel], laidTests := true, laidLooks := .later }
def FnExactCutColumnUptoCardSaid : Prop := Claim7.holds Tryd.pinned (.plain (OpenSpec.upto fnExactCutColumnSpec)) fnExactCutColumnUptoCard
end Rows
end Go.Proofs.YtbmaljhnldepoaaDoor
