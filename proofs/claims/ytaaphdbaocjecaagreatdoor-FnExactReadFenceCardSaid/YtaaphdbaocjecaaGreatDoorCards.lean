/-
  DERIVED. GIVEN WITH THE SEED: THE CARDS: each row of YtaaphdbaocjecaaGreatDoorRows.lean that lists a variable, with what it lists TIED to the program's text (the seventh form; the later family's looks); each row that meets fmt, with fmt's text TOLD by the authors' own Lean function (tested against real Go, not proved from fmt's source: count such statements apart). THE CARD IS WHAT COUNTS. Prove the row's statement (the work); the ties are given (YtaaphdbaocjecaaGreatDoorTie.lean); close each card by the builder's one call (the guide's Derived/Test/ToyasCard.lean, 'card_holds'). Laid BY PROGRAM, IN A SANDBOX (cutbox-door.mjs). By AI agents, Wed Nov 11 2026. No macro, syntax, notation, axiom, sorry.
-/
import Derived.Test.YtaaphdbaocjecaaGreatDoorRows
import GoSem.ClaimSeven
namespace Go.Proofs.YtaaphdbaocjecaaGreatDoor
namespace Rows

/-- THE TIED CARD OF 'laws.FnExactReadFence'. -/
def fnExactReadFenceCard : Claim7 := { stood := { row := fnExactReadFenceRow, standIns := [], harness := (true, "e563e5c0fc614905de5f93f3ffdf52dda33d5315de7ace741165fc187b24ae4c"), looks := true }, kinds := [], alts := [], laidByText := true, laidKinds := [.data, .data, .data, .data, .sentinel, .sentinel, .sentinel, .sentinel, .sentinel, .sentinel, .sentinel, .sentinel, .sentinel, .pinned], laidTests := true, laidLooks := .later }
def FnExactReadFenceCardSaid : Prop := Claim7.holds Tryz.pinned (.plain (OpenSpec.ofChange fnExactReadFenceSpec)) fnExactReadFenceCard

/-- THE TIED CARD OF 'laws.FnExactReadSights'. -/
def fnExactReadSightsCard : Claim7 := { stood := { row := fnExactReadSightsRow, standIns := [], harness := (true, "e563e5c0fc614905de5f93f3ffdf52dda33d5315de7ace741165fc187b24ae4c"), looks := true }, kinds := [], alts := [], laidByText := true, laidKinds := [.data, .data, .data, .data, .sentinel, .sentinel, .sentinel, .sentinel, .sentinel, .sentinel, .sentinel, .sentinel, .sentinel, .pinned], laidTests := true, laidLooks := .later }
def FnExactReadSightsCardSaid : Prop := Claim7.holds Tryz.pinned (.plain (OpenSpec.ofChange fnExactReadSightsSpec)) fnExactReadSightsCard

/-- THE SECOND FORM's CARD OF 'laws.FnExactReadFence'. -/
def fnExactReadFenceUptoCard : Claim7 := { stood := { row := fnExactReadFenceUptoRow, standIns := [], harness := (true, "e563e5c0fc614905de5f93f3ffdf52dda33d5315de7ace741165fc187b24ae4c"), looks := true }, kinds := [], alts := [], laidByText := true, laidKinds := [.data, .data, .data, .data, .sentinel, .sentinel, .sentinel, .sentinel, .sentinel, .sentinel, .sentinel, .sentinel, .sentinel, .pinned], laidTests := true, laidLooks := .later }
def FnExactReadFenceUptoCardSaid : Prop := Claim7.holds Tryz.pinned (.plain (OpenSpec.upto fnExactReadFenceSpec)) fnExactReadFenceUptoCard

/-- THE SECOND FORM's CARD OF 'laws.FnExactReadSights'. -/
def fnExactReadSightsUptoCard : Claim7 := { stood := { row := fnExactReadSightsUptoRow, standIns := [], harness := (true, "e563e5c0fc614905de5f93f3ffdf52dda33d5315de7ace741165fc187b24ae4c"), looks := true }, kinds := [], alts := [], laidByText := true, laidKinds := [.data, .data, .data, .data, .sentinel, .sentinel, .sentinel, .sentinel, .sentinel, .sentinel, .sentinel, .sentinel, .sentinel, .pinned], laidTests := true, laidLooks := .later }
def FnExactReadSightsUptoCardSaid : Prop := Claim7.holds Tryz.pinned (.plain (OpenSpec.upto fnExactReadSightsSpec)) fnExactReadSightsUptoCard
end Rows
end Go.Proofs.YtaaphdbaocjecaaGreatDoor
