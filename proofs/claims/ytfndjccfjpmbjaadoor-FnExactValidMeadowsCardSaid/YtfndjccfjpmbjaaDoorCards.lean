/-
  DERIVED. GIVEN WITH THE SEED: THE CARDS: each row of YtfndjccfjpmbjaaDoorRows.lean that lists a variable, with what it lists TIED to the program's text (the seventh form; the later family's looks); each row that meets fmt, with fmt's text TOLD by the authors' own Lean function (tested against real Go, not proved from fmt's source: count such statements apart). THE CARD IS WHAT COUNTS. Prove the row's statement (the work); the ties are given (YtfndjccfjpmbjaaDoorTie.lean); close each card by the builder's one call (the guide's Derived/Test/ToyasCard.lean, 'card_holds'). Laid BY PROGRAM, IN A SANDBOX (cutbox-door.mjs). By AI agents, Wed Nov 11 2026. No macro, syntax, notation, axiom, sorry.
-/
import Derived.Test.YtfndjccfjpmbjaaDoorRows
import GoSem.ClaimSeven
namespace Go.Proofs.YtfndjccfjpmbjaaDoor
namespace Rows

/-- THE TIED CARD OF 'laws.FnExactValidMeadows'. -/
def fnExactValidMeadowsCard : Claim7 := { stood := { row := fnExactValidMeadowsRow, standIns := [], harness := (true, "e25bb9f618a71ae84f06f4b7a96347b0ba97e65329087c4bf291a17e3160795b"), looks := false }, kinds := [], alts := [], laidByText := true, laidKinds := [.sentinel], laidTests := true, laidLooks := .later }
def FnExactValidMeadowsCardSaid : Prop := Claim7.holds Tryd.pinned (.plain (OpenSpec.ofChange fnExactValidMeadowsSpec)) fnExactValidMeadowsCard

/-- THE SECOND FORM's CARD OF 'laws.FnExactValidMeadows'. -/
def fnExactValidMeadowsUptoCard : Claim7 := { stood := { row := fnExactValidMeadowsUptoRow, standIns := [], harness := (true, "e25bb9f618a71ae84f06f4b7a96347b0ba97e65329087c4bf291a17e3160795b"), looks := false }, kinds := [], alts := [], laidByText := true, laidKinds := [.sentinel], laidTests := true, laidLooks := .later }
def FnExactValidMeadowsUptoCardSaid : Prop := Claim7.holds Tryd.pinned (.plain (OpenSpec.upto fnExactValidMeadowsSpec)) fnExactValidMeadowsUptoCard
end Rows
end Go.Proofs.YtfndjccfjpmbjaaDoor
