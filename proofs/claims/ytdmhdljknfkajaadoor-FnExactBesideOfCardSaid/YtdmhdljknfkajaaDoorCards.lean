/-
  DERIVED. GIVEN WITH THE SEED: THE CARDS: each row of YtdmhdljknfkajaaDoorRows.lean that lists a variable, with what it lists TIED to the program's text (the seventh form; the later family's looks); each row that meets fmt, with fmt's text TOLD by the authors' own Lean function (tested against real Go, not proved from fmt's source: count such statements apart). THE CARD IS WHAT COUNTS. Prove the row's statement (the work); the ties are given (YtdmhdljknfkajaaDoorTie.lean); close each card by the builder's one call (the guide's Derived/Test/ToyasCard.lean, 'card_holds'). Laid BY PROGRAM, IN A SANDBOX (cutbox-door.mjs). By AI agents, Wed Nov 11 2026. No macro, syntax, notation, axiom, sorry.
-/
import Derived.Test.YtdmhdljknfkajaaDoorRows
import GoSem.ClaimSeven
namespace Go.Proofs.YtdmhdljknfkajaaDoor
namespace Rows

/-- THE TIED CARD OF 'laws.FnExactGrassOf'. -/
def fnExactGrassOfCard : Claim7 := { stood := { row := fnExactGrassOfRow, standIns := [], harness := (true, "0e0715a284ec4105e31e84806d46103bdd0e64df5641408950ccfae422048682"), looks := true }, kinds := [], alts := [], laidByText := true, laidKinds := [.sentinel, .sentinel, .sentinel, .sentinel, .sentinel, .sentinel], laidTests := true, laidLooks := .later }
def FnExactGrassOfCardSaid : Prop := Claim7.holds Tryd.pinned (.plain (OpenSpec.ofChange fnExactGrassOfSpec)) fnExactGrassOfCard

/-- THE TIED CARD OF 'laws.FnExactMirrorPasture'. -/
def fnExactMirrorPastureCard : Claim7 := { stood := { row := fnExactMirrorPastureRow, standIns := [], harness := (true, "0e0715a284ec4105e31e84806d46103bdd0e64df5641408950ccfae422048682"), looks := true }, kinds := [], alts := [], laidByText := true, laidKinds := [.sentinel, .sentinel, .sentinel, .sentinel, .sentinel, .sentinel], laidTests := true, laidLooks := .later }
def FnExactMirrorPastureCardSaid : Prop := Claim7.holds Tryd.pinned (.plain (OpenSpec.ofChange fnExactMirrorPastureSpec)) fnExactMirrorPastureCard

/-- THE TIED CARD OF 'laws.FnExactTurnPasture'. -/
def fnExactTurnPastureCard : Claim7 := { stood := { row := fnExactTurnPastureRow, standIns := [], harness := (true, "0e0715a284ec4105e31e84806d46103bdd0e64df5641408950ccfae422048682"), looks := true }, kinds := [], alts := [], laidByText := true, laidKinds := [.sentinel, .sentinel, .sentinel, .sentinel, .sentinel, .sentinel], laidTests := true, laidLooks := .later }
def FnExactTurnPastureCardSaid : Prop := Claim7.holds Tryd.pinned (.plain (OpenSpec.ofChange fnExactTurnPastureSpec)) fnExactTurnPastureCard

/-- THE TIED CARD OF 'laws.FnExactBareCells'. -/
def fnExactBareCellsCard : Claim7 := { stood := { row := fnExactBareCellsRow, standIns := [], harness := (true, "0e0715a284ec4105e31e84806d46103bdd0e64df5641408950ccfae422048682"), looks := true }, kinds := [], alts := [], laidByText := true, laidKinds := [.sentinel, .sentinel, .sentinel, .sentinel, .sentinel, .sentinel], laidTests := true, laidLooks := .later }
def FnExactBareCellsCardSaid : Prop := Claim7.holds Tryd.pinned (.plain (OpenSpec.ofChange fnExactBareCellsSpec)) fnExactBareCellsCard

/-- THE TIED CARD OF 'laws.FnExactNeedOf'. -/
def fnExactNeedOfCard : Claim7 := { stood := { row := fnExactNeedOfRow, standIns := [], harness := (true, "0e0715a284ec4105e31e84806d46103bdd0e64df5641408950ccfae422048682"), looks := true }, kinds := [], alts := [], laidByText := true, laidKinds := [.sentinel, .sentinel, .sentinel, .sentinel, .sentinel, .sentinel], laidTests := true, laidLooks := .later }
def FnExactNeedOfCardSaid : Prop := Claim7.holds Tryd.pinned (.plain (OpenSpec.ofChange fnExactNeedOfSpec)) fnExactNeedOfCard

/-- THE TIED CARD OF 'laws.FnExactTieGoat'. -/
def fnExactTieGoatCard : Claim7 := { stood := { row := fnExactTieGoatRow, standIns := [], harness := (true, "0e0715a284ec4105e31e84806d46103bdd0e64df5641408950ccfae422048682"), looks := true }, kinds := [], alts := [], laidByText := true, laidKinds := [.sentinel, .sentinel, .sentinel, .sentinel, .sentinel, .sentinel], laidTests := true, laidLooks := .later }
def FnExactTieGoatCardSaid : Prop := Claim7.holds Tryd.pinned (.plain (OpenSpec.ofChange fnExactTieGoatSpec)) fnExactTieGoatCard

/-- THE TIED CARD OF 'laws.FnExactBesideOf'. -/
def fnExactBesideOfCard : Claim7 := { stood := { row := fnExactBesideOfRow, standIns := [], harness := (true, "0e0715a284ec4105e31e84806d46103bdd0e64df5641408950ccfae422048682"), looks := true }, kinds := [], alts := [], laidByText := true, laidKinds := [.sentinel, .sentinel, .sentinel, .sentinel, .sentinel, .sentinel], laidTests := true, laidLooks := .later }
def FnExactBesideOfCardSaid : Prop := Claim7.holds Tryd.pinned (.plain (OpenSpec.ofChange fnExactBesideOfSpec)) fnExactBesideOfCard

/-- THE TIED CARD OF 'laws.FnExactHurdlesOf'. -/
def fnExactHurdlesOfCard : Claim7 := { stood := { row := fnExactHurdlesOfRow, standIns := [], harness := (true, "0e0715a284ec4105e31e84806d46103bdd0e64df5641408950ccfae422048682"), looks := true }, kinds := [], alts := [], laidByText := true, laidKinds := [.sentinel, .sentinel, .sentinel, .sentinel, .sentinel, .sentinel], laidTests := true, laidLooks := .later }
def FnExactHurdlesOfCardSaid : Prop := Claim7.holds Tryd.pinned (.plain (OpenSpec.ofChange fnExactHurdlesOfSpec)) fnExactHurdlesOfCard

/-- THE SECOND FORM's CARD OF 'laws.FnExactGrassOf'. -/
def fnExactGrassOfUptoCard : Claim7 := { stood := { row := fnExactGrassOfUptoRow, standIns := [], harness := (true, "0e0715a284ec4105e31e84806d46103bdd0e64df5641408950ccfae422048682"), looks := true }, kinds := [], alts := [], laidByText := true, laidKinds := [.sentinel, .sentinel, .sentinel, .sentinel, .sentinel, .sentinel], laidTests := true, laidLooks := .later }
def FnExactGrassOfUptoCardSaid : Prop := Claim7.holds Tryd.pinned (.plain (OpenSpec.upto fnExactGrassOfSpec)) fnExactGrassOfUptoCard

/-- THE SECOND FORM's CARD OF 'laws.FnExactMirrorPasture'. -/
def fnExactMirrorPastureUptoCard : Claim7 := { stood := { row := fnExactMirrorPastureUptoRow, standIns := [], harness := (true, "0e0715a284ec4105e31e84806d46103bdd0e64df5641408950ccfae422048682"), looks := true }, kinds := [], alts := [], laidByText := true, laidKinds := [.sentinel, .sentinel, .sentinel, .sentinel, .sentinel, .sentinel], laidTests := true, laidLooks := .later }
def FnExactMirrorPastureUptoCardSaid : Prop := Claim7.holds Tryd.pinned (.plain (OpenSpec.upto fnExactMirrorPastureSpec)) fnExactMirrorPastureUptoCard

/-- THE SECOND FORM's CARD OF 'laws.FnExactTurnPasture'. -/
def fnExactTurnPastureUptoCard : Claim7 := { stood := { row := fnExactTurnPastureUptoRow, standIns := [], harness := (true, "0e0715a284ec4105e31e84806d46103bdd0e64df5641408950ccfae422048682"), looks := true }, kinds := [], alts := [], laidByText := true, laidKinds := [.sentinel, .sentinel, .sentinel, .sentinel, .sentinel, .sentinel], laidTests := true, laidLooks := .later }
def FnExactTurnPastureUptoCardSaid : Prop := Claim7.holds Tryd.pinned (.plain (OpenSpec.upto fnExactTurnPastureSpec)) fnExactTurnPastureUptoCard

/-- THE SECOND FORM's CARD OF 'laws.FnExactBareCells'. -/
def fnExactBareCellsUptoCard : Claim7 := { stood := { row := fnExactBareCellsUptoRow, standIns := [], harness := (true, "0e0715a284ec4105e31e84806d46103bdd0e64df5641408950ccfae422048682"), looks := true }, kinds := [], alts := [], laidByText := true, laidKinds := [.sentinel, .sentinel, .sentinel, .sentinel, .sentinel, .sentinel], laidTests := true, laidLooks := .later }
def FnExactBareCellsUptoCardSaid : Prop := Claim7.holds Tryd.pinned (.plain (OpenSpec.upto fnExactBareCellsSpec)) fnExactBareCellsUptoCard

/-- THE SECOND FORM's CARD OF 'laws.FnExactNeedOf'. -/
def fnExactNeedOfUptoCard : Claim7 := { stood := { row := fnExactNeedOfUptoRow, standIns := [], harness := (true, "0e0715a284ec4105e31e84806d46103bdd0e64df5641408950ccfae422048682"), looks := true }, kinds := [], alts := [], laidByText := true, laidKinds := [.sentinel, .sentinel, .sentinel, .sentinel, .sentinel, .sentinel], laidTests := true, laidLooks := .later }
def FnExactNeedOfUptoCardSaid : Prop := Claim7.holds Tryd.pinned (.plain (OpenSpec.upto fnExactNeedOfSpec)) fnExactNeedOfUptoCard

/-- THE SECOND FORM's CARD OF 'laws.FnExactTieGoat'. -/
def fnExactTieGoatUptoCard : Claim7 := { stood := { row := fnExactTieGoatUptoRow, standIns := [], harness := (true, "0e0715a284ec4105e31e84806d46103bdd0e64df5641408950ccfae422048682"), looks := true }, kinds := [], alts := [], laidByText := true, laidKinds := [.sentinel, .sentinel, .sentinel, .sentinel, .sentinel, .sentinel], laidTests := true, laidLooks := .later }
def FnExactTieGoatUptoCardSaid : Prop := Claim7.holds Tryd.pinned (.plain (OpenSpec.upto fnExactTieGoatSpec)) fnExactTieGoatUptoCard

/-- THE SECOND FORM's CARD OF 'laws.FnExactBesideOf'. -/
def fnExactBesideOfUptoCard : Claim7 := { stood := { row := fnExactBesideOfUptoRow, standIns := [], harness := (true, "0e0715a284ec4105e31e84806d46103bdd0e64df5641408950ccfae422048682"), looks := true }, kinds := [], alts := [], laidByText := true, laidKinds := [.sentinel, .sentinel, .sentinel, .sentinel, .sentinel, .sentinel], laidTests := true, laidLooks := .later }
def FnExactBesideOfUptoCardSaid : Prop := Claim7.holds Tryd.pinned (.plain (OpenSpec.upto fnExactBesideOfSpec)) fnExactBesideOfUptoCard

/-- THE SECOND FORM's CARD OF 'laws.FnExactHurdlesOf'. -/
def fnExactHurdlesOfUptoCard : Claim7 := { stood := { row := fnExactHurdlesOfUptoRow, standIns := [], harness := (true, "0e0715a284ec4105e31e84806d46103bdd0e64df5641408950ccfae422048682"), looks := true }, kinds := [], alts := [], laidByText := true, laidKinds := [.sentinel, .sentinel, .sentinel, .sentinel, .sentinel, .sentinel], laidTests := true, laidLooks := .later }
def FnExactHurdlesOfUptoCardSaid : Prop := Claim7.holds Tryd.pinned (.plain (OpenSpec.upto fnExactHurdlesOfSpec)) fnExactHurdlesOfUptoCard
end Rows
end Go.Proofs.YtdmhdljknfkajaaDoor
