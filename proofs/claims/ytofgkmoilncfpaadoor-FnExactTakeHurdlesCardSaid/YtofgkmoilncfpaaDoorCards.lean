/-
  DERIVED. GIVEN WITH THE SEED: THE CARDS: each row of YtofgkmoilncfpaaDoorRows.lean that lists a variable, with what it lists TIED to the program's text (the seventh form; the later family's looks); each row that meets fmt, with fmt's text TOLD by the authors' own Lean function (tested against real Go, not proved from fmt's source: count such statements apart). THE CARD IS WHAT COUNTS. Prove the row's statement (the work); the ties are given (YtofgkmoilncfpaaDoorTie.lean); close each card by the builder's one call (the guide's Derived/Test/ToyasCard.lean, 'card_holds'). Laid BY PROGRAM, IN A SANDBOX (cutbox-door.mjs). By AI agents, Wed Nov 11 2026. No macro, syntax, notation, axiom, sorry.
-/
import Derived.Test.YtofgkmoilncfpaaDoorRows
import GoSem.ClaimSeven
namespace Go.Proofs.YtofgkmoilncfpaaDoor
namespace Rows

/-- THE TIED CARD OF 'laws.FnExactAddHurdles'. -/
def fnExactAddHurdlesCard : Claim7 := { stood := { row := fnExactAddHurdlesRow, standIns := [], harness := (true, "810f493a2f97b07f2aad69e70fe2a3a93b259e831fa0ad82b4e408568d8eeaf8"), looks := true }, kinds := [], alts := [], laidByText := true, laidKinds := [.sentinel, .sentinel, .sentinel, .sentinel, .sentinel, .sentinel, .sentinel], laidTests := true, laidLooks := .later }
def FnExactAddHurdlesCardSaid : Prop := Claim7.holds Tryd.pinned (.plain (OpenSpec.ofChange fnExactAddHurdlesSpec)) fnExactAddHurdlesCard

/-- THE TIED CARD OF 'laws.FnExactTakeHurdles'. -/
def fnExactTakeHurdlesCard : Claim7 := { stood := { row := fnExactTakeHurdlesRow, standIns := [], harness := (true, "810f493a2f97b07f2aad69e70fe2a3a93b259e831fa0ad82b4e408568d8eeaf8"), looks := true }, kinds := [], alts := [], laidByText := true, laidKinds := [.sentinel, .sentinel, .sentinel, .sentinel, .sentinel, .sentinel, .sentinel], laidTests := true, laidLooks := .later }
def FnExactTakeHurdlesCardSaid : Prop := Claim7.holds Tryd.pinned (.plain (OpenSpec.ofChange fnExactTakeHurdlesSpec)) fnExactTakeHurdlesCard

/-- THE SECOND FORM's CARD OF 'laws.FnExactAddHurdles'. -/
def fnExactAddHurdlesUptoCard : Claim7 := { stood := { row := fnExactAddHurdlesUptoRow, standIns := [], harness := (true, "810f493a2f97b07f2aad69e70fe2a3a93b259e831fa0ad82b4e408568d8eeaf8"), looks := true }, kinds := [], alts := [], laidByText := true, laidKinds := [.sentinel, .sentinel, .sentinel, .sentinel, .sentinel, .sentinel, .sentinel], laidTests := true, laidLooks := .later }
def FnExactAddHurdlesUptoCardSaid : Prop := Claim7.holds Tryd.pinned (.plain (OpenSpec.upto fnExactAddHurdlesSpec)) fnExactAddHurdlesUptoCard

/-- THE SECOND FORM's CARD OF 'laws.FnExactTakeHurdles'. -/
def fnExactTakeHurdlesUptoCard : Claim7 := { stood := { row := fnExactTakeHurdlesUptoRow, standIns := [], harness := (true, "810f493a2f97b07f2aad69e70fe2a3a93b259e831fa0ad82b4e408568d8eeaf8"), looks := true }, kinds := [], alts := [], laidByText := true, laidKinds := [.sentinel, .sentinel, .sentinel, .sentinel, .sentinel, .sentinel, .sentinel], laidTests := true, laidLooks := .later }
def FnExactTakeHurdlesUptoCardSaid : Prop := Claim7.holds Tryd.pinned (.plain (OpenSpec.upto fnExactTakeHurdlesSpec)) fnExactTakeHurdlesUptoCard
end Rows
end Go.Proofs.YtofgkmoilncfpaaDoor
