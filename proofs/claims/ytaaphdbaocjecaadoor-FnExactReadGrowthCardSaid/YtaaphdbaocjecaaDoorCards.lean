/-
  DERIVED. GIVEN WITH THE SEED: THE CARDS: each row of YtaaphdbaocjecaaDoorRows.lean that lists a variable, with what it lists TIED to the program's text (the seventh form; the later family's looks); each row that meets fmt, with fmt's text TOLD by the authors' own Lean function (tested against real Go, not proved from fmt's source: count such statements apart). THE CARD IS WHAT COUNTS. Prove the row's statement (the work); the ties are given (YtaaphdbaocjecaaDoorTie.lean); close each card by the builder's one call (the guide's Derived/Test/ToyasCard.lean, 'card_holds'). Laid BY PROGRAM, IN A SANDBOX (cutbox-door.mjs). By AI agents, Wed Nov 11 2026. No macro, syntax, notation, axiom, sorry.
-/
import Derived.Test.YtaaphdbaocjecaaDoorRows
import GoSem.ClaimSeven
namespace Go.Proofs.YtaaphdbaocjecaaDoor
namespace Rows

/-- THE TIED CARD OF 'laws.FnExactReadGrowth'. -/
def fnExactReadGrowthCard : Claim7 := { stood := { row := fnExactReadGrowthRow, standIns := [], harness := (true, "fa6ff10257f9329ce7c09250fae53c71d44bb60b20db8090dd187182dda1ab02"), looks := true }, kinds := [], alts := [], laidByText := true, laidKinds := [.data, .data, .data, .data, .sentinel, .sentinel, .sentinel, .sentinel, .sentinel, .sentinel, .sentinel, .sentinel, .sentinel, .pinned], laidTests := true, laidLooks := .later }
def FnExactReadGrowthCardSaid : Prop := Claim7.holds Tryd.pinned (.plain (OpenSpec.ofChange fnExactReadGrowthSpec)) fnExactReadGrowthCard

/-- THE TIED CARD OF 'laws.FnExactReadStakes'. -/
def fnExactReadStakesCard : Claim7 := { stood := { row := fnExactReadStakesRow, standIns := [], harness := (true, "fa6ff10257f9329ce7c09250fae53c71d44bb60b20db8090dd187182dda1ab02"), looks := true }, kinds := [], alts := [], laidByText := true, laidKinds := [.data, .data, .data, .data, .sentinel, .sentinel, .sentinel, .sentinel, .sentinel, .sentinel, .sentinel, .sentinel, .sentinel, .pinned], laidTests := true, laidLooks := .later }
def FnExactReadStakesCardSaid : Prop := Claim7.holds Tryd.pinned (.plain (OpenSpec.ofChange fnExactReadStakesSpec)) fnExactReadStakesCard

/-- THE SECOND FORM's CARD OF 'laws.FnExactReadGrowth'. -/
def fnExactReadGrowthUptoCard : Claim7 := { stood := { row := fnExactReadGrowthUptoRow, standIns := [], harness := (true, "fa6ff10257f9329ce7c09250fae53c71d44bb60b20db8090dd187182dda1ab02"), looks := true }, kinds := [], alts := [], laidByText := true, laidKinds := [.data, .data, .data, .data, .sentinel, .sentinel, .sentinel, .sentinel, .sentinel, .sentinel, .sentinel, .sentinel, .sentinel, .pinned], laidTests := true, laidLooks := .later }
def FnExactReadGrowthUptoCardSaid : Prop := Claim7.holds Tryd.pinned (.plain (OpenSpec.upto fnExactReadGrowthSpec)) fnExactReadGrowthUptoCard

/-- THE SECOND FORM's CARD OF 'laws.FnExactReadStakes'. -/
def fnExactReadStakesUptoCard : Claim7 := { stood := { row := fnExactReadStakesUptoRow, standIns := [], harness := (true, "fa6ff10257f9329ce7c09250fae53c71d44bb60b20db8090dd187182dda1ab02"), looks := true }, kinds := [], alts := [], laidByText := true, laidKinds := [.data, .data, .data, .data, .sentinel, .sentinel, .sentinel, .sentinel, .sentinel, .sentinel, .sentinel, .sentinel, .sentinel, .pinned], laidTests := true, laidLooks := .later }
def FnExactReadStakesUptoCardSaid : Prop := Claim7.holds Tryd.pinned (.plain (OpenSpec.upto fnExactReadStakesSpec)) fnExactReadStakesUptoCard
end Rows
end Go.Proofs.YtaaphdbaocjecaaDoor
