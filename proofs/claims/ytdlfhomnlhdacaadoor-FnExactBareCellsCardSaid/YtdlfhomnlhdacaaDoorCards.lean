/-
  DERIVED. GIVEN WITH THE SEED: THE CARDS: each row of YtdlfhomnlhdacaaDoorRows.lean that lists a variable, with what it lists TIED to the program's text (the seventh form; the later family's looks); each row that meets fmt, with fmt's text TOLD by the authors' own Lean function (tested against real Go, not proved from fmt's source: count such statements apart). THE CARD IS WHAT COUNTS. Prove the row's statement (the work); the ties are given (YtdlfhomnlhdacaaDoorTie.lean); close each card by the builder's one call (the guide's Derived/Test/ToyasCard.lean, 'card_holds'). Laid BY PROGRAM, IN A SANDBOX (cutbox-door.mjs). By AI agents, Wed Nov 11 2026. No macro, syntax, notation, axiom, sorry.
-/
import Derived.Test.YtdlfhomnlhdacaaDoorRows
import GoSem.ClaimSeven
namespace Go.Proofs.YtdlfhomnlhdacaaDoor
namespace Rows

/-- THE TIED CARD OF 'laws.FnExactPlainPasture'. -/
def fnExactPlainPastureCard : Claim7 := { stood := { row := fnExactPlainPastureRow, standIns := [], harness := (true, "ad17763c1e266aa506b5fb04b67224356b46a23c74021463a190ef60b7f49d22"), looks := true }, kinds := [], alts := [], laidByText := true, laidKinds := [.sentinel, .sentinel, .sentinel, .sentinel, .sentinel, .sentinel, .sentinel], laidTests := true, laidLooks := .later }
def FnExactPlainPastureCardSaid : Prop := Claim7.holds Tryd.pinned (.plain (OpenSpec.ofChange fnExactPlainPastureSpec)) fnExactPlainPastureCard

/-- THE TIED CARD OF 'laws.FnExactGrassAt'. -/
def fnExactGrassAtCard : Claim7 := { stood := { row := fnExactGrassAtRow, standIns := [], harness := (true, "ad17763c1e266aa506b5fb04b67224356b46a23c74021463a190ef60b7f49d22"), looks := true }, kinds := [], alts := [], laidByText := true, laidKinds := [.sentinel, .sentinel, .sentinel, .sentinel, .sentinel, .sentinel, .sentinel], laidTests := true, laidLooks := .later }
def FnExactGrassAtCardSaid : Prop := Claim7.holds Tryd.pinned (.plain (OpenSpec.ofChange fnExactGrassAtSpec)) fnExactGrassAtCard

/-- THE TIED CARD OF 'laws.FnExactWithGrass'. -/
def fnExactWithGrassCard : Claim7 := { stood := { row := fnExactWithGrassRow, standIns := [], harness := (true, "ad17763c1e266aa506b5fb04b67224356b46a23c74021463a190ef60b7f49d22"), looks := true }, kinds := [], alts := [], laidByText := true, laidKinds := [.sentinel, .sentinel, .sentinel, .sentinel, .sentinel, .sentinel, .sentinel], laidTests := true, laidLooks := .later }
def FnExactWithGrassCardSaid : Prop := Claim7.holds Tryd.pinned (.plain (OpenSpec.ofChange fnExactWithGrassSpec)) fnExactWithGrassCard

/-- THE TIED CARD OF 'laws.FnExactHasHurdle'. -/
def fnExactHasHurdleCard : Claim7 := { stood := { row := fnExactHasHurdleRow, standIns := [], harness := (true, "ad17763c1e266aa506b5fb04b67224356b46a23c74021463a190ef60b7f49d22"), looks := true }, kinds := [], alts := [], laidByText := true, laidKinds := [.sentinel, .sentinel, .sentinel, .sentinel, .sentinel, .sentinel, .sentinel], laidTests := true, laidLooks := .later }
def FnExactHasHurdleCardSaid : Prop := Claim7.holds Tryd.pinned (.plain (OpenSpec.ofChange fnExactHasHurdleSpec)) fnExactHasHurdleCard

/-- THE TIED CARD OF 'laws.FnExactSetHurdle'. -/
def fnExactSetHurdleCard : Claim7 := { stood := { row := fnExactSetHurdleRow, standIns := [], harness := (true, "ad17763c1e266aa506b5fb04b67224356b46a23c74021463a190ef60b7f49d22"), looks := true }, kinds := [], alts := [], laidByText := true, laidKinds := [.sentinel, .sentinel, .sentinel, .sentinel, .sentinel, .sentinel, .sentinel], laidTests := true, laidLooks := .later }
def FnExactSetHurdleCardSaid : Prop := Claim7.holds Tryd.pinned (.plain (OpenSpec.ofChange fnExactSetHurdleSpec)) fnExactSetHurdleCard

/-- THE TIED CARD OF 'laws.FnExactCountHurdles'. -/
def fnExactCountHurdlesCard : Claim7 := { stood := { row := fnExactCountHurdlesRow, standIns := [], harness := (true, "ad17763c1e266aa506b5fb04b67224356b46a23c74021463a190ef60b7f49d22"), looks := true }, kinds := [], alts := [], laidByText := true, laidKinds := [.sentinel, .sentinel, .sentinel, .sentinel, .sentinel, .sentinel, .sentinel], laidTests := true, laidLooks := .later }
def FnExactCountHurdlesCardSaid : Prop := Claim7.holds Tryd.pinned (.plain (OpenSpec.ofChange fnExactCountHurdlesSpec)) fnExactCountHurdlesCard

/-- THE TIED CARD OF 'laws.FnExactGrassIn'. -/
def fnExactGrassInCard : Claim7 := { stood := { row := fnExactGrassInRow, standIns := [], harness := (true, "ad17763c1e266aa506b5fb04b67224356b46a23c74021463a190ef60b7f49d22"), looks := true }, kinds := [], alts := [], laidByText := true, laidKinds := [.sentinel, .sentinel, .sentinel, .sentinel, .sentinel, .sentinel, .sentinel], laidTests := true, laidLooks := .later }
def FnExactGrassInCardSaid : Prop := Claim7.holds Tryd.pinned (.plain (OpenSpec.ofChange fnExactGrassInSpec)) fnExactGrassInCard

/-- THE TIED CARD OF 'laws.FnExactGrassOf'. -/
def fnExactGrassOfCard : Claim7 := { stood := { row := fnExactGrassOfRow, standIns := [], harness := (true, "ad17763c1e266aa506b5fb04b67224356b46a23c74021463a190ef60b7f49d22"), looks := true }, kinds := [], alts := [], laidByText := true, laidKinds := [.sentinel, .sentinel, .sentinel, .sentinel, .sentinel, .sentinel, .sentinel], laidTests := true, laidLooks := .later }
def FnExactGrassOfCardSaid : Prop := Claim7.holds Tryd.pinned (.plain (OpenSpec.ofChange fnExactGrassOfSpec)) fnExactGrassOfCard

/-- THE TIED CARD OF 'laws.FnExactMirrorPasture'. -/
def fnExactMirrorPastureCard : Claim7 := { stood := { row := fnExactMirrorPastureRow, standIns := [], harness := (true, "ad17763c1e266aa506b5fb04b67224356b46a23c74021463a190ef60b7f49d22"), looks := true }, kinds := [], alts := [], laidByText := true, laidKinds := [.sentinel, .sentinel, .sentinel, .sentinel, .sentinel, .sentinel, .sentinel], laidTests := true, laidLooks := .later }
def FnExactMirrorPastureCardSaid : Prop := Claim7.holds Tryd.pinned (.plain (OpenSpec.ofChange fnExactMirrorPastureSpec)) fnExactMirrorPastureCard

/-- THE TIED CARD OF 'laws.FnExactTurnPasture'. -/
def fnExactTurnPastureCard : Claim7 := { stood := { row := fnExactTurnPastureRow, standIns := [], harness := (true, "ad17763c1e266aa506b5fb04b67224356b46a23c74021463a190ef60b7f49d22"), looks := true }, kinds := [], alts := [], laidByText := true, laidKinds := [.sentinel, .sentinel, .sentinel, .sentinel, .sentinel, .sentinel, .sentinel], laidTests := true, laidLooks := .later }
def FnExactTurnPastureCardSaid : Prop := Claim7.holds Tryd.pinned (.plain (OpenSpec.ofChange fnExactTurnPastureSpec)) fnExactTurnPastureCard

/-- THE TIED CARD OF 'laws.FnExactBareCells'. -/
def fnExactBareCellsCard : Claim7 := { stood := { row := fnExactBareCellsRow, standIns := [], harness := (true, "ad17763c1e266aa506b5fb04b67224356b46a23c74021463a190ef60b7f49d22"), looks := true }, kinds := [], alts := [], laidByText := true, laidKinds := [.sentinel, .sentinel, .sentinel, .sentinel, .sentinel, .sentinel, .sentinel], laidTests := true, laidLooks := .later }
def FnExactBareCellsCardSaid : Prop := Claim7.holds Tryd.pinned (.plain (OpenSpec.ofChange fnExactBareCellsSpec)) fnExactBareCellsCard

/-- THE TIED CARD OF 'laws.FnExactNeedOf'. -/
def fnExactNeedOfCard : Claim7 := { stood := { row := fnExactNeedOfRow, standIns := [], harness := (true, "ad17763c1e266aa506b5fb04b67224356b46a23c74021463a190ef60b7f49d22"), looks := true }, kinds := [], alts := [], laidByText := true, laidKinds := [.sentinel, .sentinel, .sentinel, .sentinel, .sentinel, .sentinel, .sentinel], laidTests := true, laidLooks := .later }
def FnExactNeedOfCardSaid : Prop := Claim7.holds Tryd.pinned (.plain (OpenSpec.ofChange fnExactNeedOfSpec)) fnExactNeedOfCard

/-- THE SECOND FORM's CARD OF 'laws.FnExactPlainPasture'. -/
def fnExactPlainPastureUptoCard : Claim7 := { stood := { row := fnExactPlainPastureUptoRow, standIns := [], harness := (true, "ad17763c1e266aa506b5fb04b67224356b46a23c74021463a190ef60b7f49d22"), looks := true }, kinds := [], alts := [], laidByText := true, laidKinds := [.sentinel, .sentinel, .sentinel, .sentinel, .sentinel, .sentinel, .sentinel], laidTests := true, laidLooks := .later }
def FnExactPlainPastureUptoCardSaid : Prop := Claim7.holds Tryd.pinned (.plain (OpenSpec.upto fnExactPlainPastureSpec)) fnExactPlainPastureUptoCard

/-- THE SECOND FORM's CARD OF 'laws.FnExactGrassAt'. -/
def fnExactGrassAtUptoCard : Claim7 := { stood := { row := fnExactGrassAtUptoRow, standIns := [], harness := (true, "ad17763c1e266aa506b5fb04b67224356b46a23c74021463a190ef60b7f49d22"), looks := true }, kinds := [], alts := [], laidByText := true, laidKinds := [.sentinel, .sentinel, .sentinel, .sentinel, .sentinel, .sentinel, .sentinel], laidTests := true, laidLooks := .later }
def FnExactGrassAtUptoCardSaid : Prop := Claim7.holds Tryd.pinned (.plain (OpenSpec.upto fnExactGrassAtSpec)) fnExactGrassAtUptoCard

/-- THE SECOND FORM's CARD OF 'laws.FnExactWithGrass'. -/
def fnExactWithGrassUptoCard : Claim7 := { stood := { row := fnExactWithGrassUptoRow, standIns := [], harness := (true, "ad17763c1e266aa506b5fb04b67224356b46a23c74021463a190ef60b7f49d22"), looks := true }, kinds := [], alts := [], laidByText := true, laidKinds := [.sentinel, .sentinel, .sentinel, .sentinel, .sentinel, .sentinel, .sentinel], laidTests := true, laidLooks := .later }
def FnExactWithGrassUptoCardSaid : Prop := Claim7.holds Tryd.pinned (.plain (OpenSpec.upto fnExactWithGrassSpec)) fnExactWithGrassUptoCard

/-- THE SECOND FORM's CARD OF 'laws.FnExactHasHurdle'. -/
def fnExactHasHurdleUptoCard : Claim7 := { stood := { row := fnExactHasHurdleUptoRow, standIns := [], harness := (true, "ad17763c1e266aa506b5fb04b67224356b46a23c74021463a190ef60b7f49d22"), looks := true }, kinds := [], alts := [], laidByText := true, laidKinds := [.sentinel, .sentinel, .sentinel, .sentinel, .sentinel, .sentinel, .sentinel], laidTests := true, laidLooks := .later }
def FnExactHasHurdleUptoCardSaid : Prop := Claim7.holds Tryd.pinned (.plain (OpenSpec.upto fnExactHasHurdleSpec)) fnExactHasHurdleUptoCard

/-- THE SECOND FORM's CARD OF 'laws.FnExactSetHurdle'. -/
def fnExactSetHurdleUptoCard : Claim7 := { stood := { row := fnExactSetHurdleUptoRow, standIns := [], harness := (true, "ad17763c1e266aa506b5fb04b67224356b46a23c74021463a190ef60b7f49d22"), looks := true }, kinds := [], alts := [], laidByText := true, laidKinds := [.sentinel, .sentinel, .sentinel, .sentinel, .sentinel, .sentinel, .sentinel], laidTests := true, laidLooks := .later }
def FnExactSetHurdleUptoCardSaid : Prop := Claim7.holds Tryd.pinned (.plain (OpenSpec.upto fnExactSetHurdleSpec)) fnExactSetHurdleUptoCard

/-- THE SECOND FORM's CARD OF 'laws.FnExactCountHurdles'. -/
def fnExactCountHurdlesUptoCard : Claim7 := { stood := { row := fnExactCountHurdlesUptoRow, standIns := [], harness := (true, "ad17763c1e266aa506b5fb04b67224356b46a23c74021463a190ef60b7f49d22"), looks := true }, kinds := [], alts := [], laidByText := true, laidKinds := [.sentinel, .sentinel, .sentinel, .sentinel, .sentinel, .sentinel, .sentinel], laidTests := true, laidLooks := .later }
def FnExactCountHurdlesUptoCardSaid : Prop := Claim7.holds Tryd.pinned (.plain (OpenSpec.upto fnExactCountHurdlesSpec)) fnExactCountHurdlesUptoCard

/-- THE SECOND FORM's CARD OF 'laws.FnExactGrassIn'. -/
def fnExactGrassInUptoCard : Claim7 := { stood := { row := fnExactGrassInUptoRow, standIns := [], harness := (true, "ad17763c1e266aa506b5fb04b67224356b46a23c74021463a190ef60b7f49d22"), looks := true }, kinds := [], alts := [], laidByText := true, laidKinds := [.sentinel, .sentinel, .sentinel, .sentinel, .sentinel, .sentinel, .sentinel], laidTests := true, laidLooks := .later }
def FnExactGrassInUptoCardSaid : Prop := Claim7.holds Tryd.pinned (.plain (OpenSpec.upto fnExactGrassInSpec)) fnExactGrassInUptoCard

/-- THE SECOND FORM's CARD OF 'laws.FnExactGrassOf'. -/
def fnExactGrassOfUptoCard : Claim7 := { stood := { row := fnExactGrassOfUptoRow, standIns := [], harness := (true, "ad17763c1e266aa506b5fb04b67224356b46a23c74021463a190ef60b7f49d22"), looks := true }, kinds := [], alts := [], laidByText := true, laidKinds := [.sentinel, .sentinel, .sentinel, .sentinel, .sentinel, .sentinel, .sentinel], laidTests := true, laidLooks := .later }
def FnExactGrassOfUptoCardSaid : Prop := Claim7.holds Tryd.pinned (.plain (OpenSpec.upto fnExactGrassOfSpec)) fnExactGrassOfUptoCard

/-- THE SECOND FORM's CARD OF 'laws.FnExactMirrorPasture'. -/
def fnExactMirrorPastureUptoCard : Claim7 := { stood := { row := fnExactMirrorPastureUptoRow, standIns := [], harness := (true, "ad17763c1e266aa506b5fb04b67224356b46a23c74021463a190ef60b7f49d22"), looks := true }, kinds := [], alts := [], laidByText := true, laidKinds := [.sentinel, .sentinel, .sentinel, .sentinel, .sentinel, .sentinel, .sentinel], laidTests := true, laidLooks := .later }
def FnExactMirrorPastureUptoCardSaid : Prop := Claim7.holds Tryd.pinned (.plain (OpenSpec.upto fnExactMirrorPastureSpec)) fnExactMirrorPastureUptoCard

/-- THE SECOND FORM's CARD OF 'laws.FnExactTurnPasture'. -/
def fnExactTurnPastureUptoCard : Claim7 := { stood := { row := fnExactTurnPastureUptoRow, standIns := [], harness := (true, "ad17763c1e266aa506b5fb04b67224356b46a23c74021463a190ef60b7f49d22"), looks := true }, kinds := [], alts := [], laidByText := true, laidKinds := [.sentinel, .sentinel, .sentinel, .sentinel, .sentinel, .sentinel, .sentinel], laidTests := true, laidLooks := .later }
def FnExactTurnPastureUptoCardSaid : Prop := Claim7.holds Tryd.pinned (.plain (OpenSpec.upto fnExactTurnPastureSpec)) fnExactTurnPastureUptoCard

/-- THE SECOND FORM's CARD OF 'laws.FnExactBareCells'. -/
def fnExactBareCellsUptoCard : Claim7 := { stood := { row := fnExactBareCellsUptoRow, standIns := [], harness := (true, "ad17763c1e266aa506b5fb04b67224356b46a23c74021463a190ef60b7f49d22"), looks := true }, kinds := [], alts := [], laidByText := true, laidKinds := [.sentinel, .sentinel, .sentinel, .sentinel, .sentinel, .sentinel, .sentinel], laidTests := true, laidLooks := .later }
def FnExactBareCellsUptoCardSaid : Prop := Claim7.holds Tryd.pinned (.plain (OpenSpec.upto fnExactBareCellsSpec)) fnExactBareCellsUptoCard

/-- THE SECOND FORM's CARD OF 'laws.FnExactNeedOf'. -/
def fnExactNeedOfUptoCard : Claim7 := { stood := { row := fnExactNeedOfUptoRow, standIns := [], harness := (true, "ad17763c1e266aa506b5fb04b67224356b46a23c74021463a190ef60b7f49d22"), looks := true }, kinds := [], alts := [], laidByText := true, laidKinds := [.sentinel, .sentinel, .sentinel, .sentinel, .sentinel, .sentinel, .sentinel], laidTests := true, laidLooks := .later }
def FnExactNeedOfUptoCardSaid : Prop := Claim7.holds Tryd.pinned (.plain (OpenSpec.upto fnExactNeedOfSpec)) fnExactNeedOfUptoCard
end Rows
end Go.Proofs.YtdlfhomnlhdacaaDoor
