/-
  DERIVED. GIVEN WITH THE SEED: THE CARDS: each row of YtjfmhnbbdkejeaaDoorRows.lean that lists a variable, with what it lists TIED to the program's text (the seventh form; the later family's looks); each row that meets fmt, with fmt's text TOLD by the authors' own Lean function (tested against real Go, not proved from fmt's source: count such statements apart). THE CARD IS WHAT COUNTS. Prove the row's statement (the work); the ties are given (YtjfmhnbbdkejeaaDoorTie.lean); close each card by the builder's one call (the guide's Derived/Test/ToyasCard.lean, 'card_holds'). Laid BY PROGRAM, IN A SANDBOX (cutbox-door.mjs). By AI agents, Wed Nov 11 2026. No macro, syntax, notation, axiom, sorry.
-/
import Derived.Test.YtjfmhnbbdkejeaaDoorRows
import GoSem.ClaimSeven
namespace Go.Proofs.YtjfmhnbbdkejeaaDoor
namespace Rows

/-- THE TIED CARD OF 'laws.FnExactTieGoat'. -/
def fnExactTieGoatCard : Claim7 := { stood := { row := fnExactTieGoatRow, standIns := [], harness := (true, "c8d25693eba52dca3f4e14210d5fa47f7d41a923cadd5e80662dd240bcf84d71"), looks := true }, kinds := [], alts := [], laidByText := true, laidKinds := [.sentinel, .sentinel, .sentinel, .sentinel, .sentinel, .sentinel, .sentinel], laidTests := true, laidLooks := .later }
def FnExactTieGoatCardSaid : Prop := Claim7.holds Tryd.pinned (.plain (OpenSpec.ofChange fnExactTieGoatSpec)) fnExactTieGoatCard

/-- THE TIED CARD OF 'laws.FnExactBesideOf'. -/
def fnExactBesideOfCard : Claim7 := { stood := { row := fnExactBesideOfRow, standIns := [], harness := (true, "c8d25693eba52dca3f4e14210d5fa47f7d41a923cadd5e80662dd240bcf84d71"), looks := true }, kinds := [], alts := [], laidByText := true, laidKinds := [.sentinel, .sentinel, .sentinel, .sentinel, .sentinel, .sentinel, .sentinel], laidTests := true, laidLooks := .later }
def FnExactBesideOfCardSaid : Prop := Claim7.holds Tryd.pinned (.plain (OpenSpec.ofChange fnExactBesideOfSpec)) fnExactBesideOfCard

/-- THE TIED CARD OF 'laws.FnExactGrowCell'. -/
def fnExactGrowCellCard : Claim7 := { stood := { row := fnExactGrowCellRow, standIns := [], harness := (true, "c8d25693eba52dca3f4e14210d5fa47f7d41a923cadd5e80662dd240bcf84d71"), looks := true }, kinds := [], alts := [], laidByText := true, laidKinds := [.sentinel, .sentinel, .sentinel, .sentinel, .sentinel, .sentinel, .sentinel], laidTests := true, laidLooks := .later }
def FnExactGrowCellCardSaid : Prop := Claim7.holds Tryd.pinned (.plain (OpenSpec.ofChange fnExactGrowCellSpec)) fnExactGrowCellCard

/-- THE TIED CARD OF 'laws.FnExactDaysTo'. -/
def fnExactDaysToCard : Claim7 := { stood := { row := fnExactDaysToRow, standIns := [], harness := (true, "c8d25693eba52dca3f4e14210d5fa47f7d41a923cadd5e80662dd240bcf84d71"), looks := true }, kinds := [], alts := [], laidByText := true, laidKinds := [.sentinel, .sentinel, .sentinel, .sentinel, .sentinel, .sentinel, .sentinel], laidTests := true, laidLooks := .later }
def FnExactDaysToCardSaid : Prop := Claim7.holds Tryd.pinned (.plain (OpenSpec.ofChange fnExactDaysToSpec)) fnExactDaysToCard

/-- THE TIED CARD OF 'laws.FnExactBestBand'. -/
def fnExactBestBandCard : Claim7 := { stood := { row := fnExactBestBandRow, standIns := [], harness := (true, "c8d25693eba52dca3f4e14210d5fa47f7d41a923cadd5e80662dd240bcf84d71"), looks := true }, kinds := [], alts := [], laidByText := true, laidKinds := [.sentinel, .sentinel, .sentinel, .sentinel, .sentinel, .sentinel, .sentinel], laidTests := true, laidLooks := .later }
def FnExactBestBandCardSaid : Prop := Claim7.holds Tryd.pinned (.plain (OpenSpec.ofChange fnExactBestBandSpec)) fnExactBestBandCard

/-- THE TIED CARD OF 'laws.FnExactFeedHay'. -/
def fnExactFeedHayCard : Claim7 := { stood := { row := fnExactFeedHayRow, standIns := [], harness := (true, "c8d25693eba52dca3f4e14210d5fa47f7d41a923cadd5e80662dd240bcf84d71"), looks := true }, kinds := [], alts := [], laidByText := true, laidKinds := [.sentinel, .sentinel, .sentinel, .sentinel, .sentinel, .sentinel, .sentinel], laidTests := true, laidLooks := .later }
def FnExactFeedHayCardSaid : Prop := Claim7.holds Tryd.pinned (.plain (OpenSpec.ofChange fnExactFeedHaySpec)) fnExactFeedHayCard

/-- THE TIED CARD OF 'laws.FnExactBalanceOf'. -/
def fnExactBalanceOfCard : Claim7 := { stood := { row := fnExactBalanceOfRow, standIns := [], harness := (true, "c8d25693eba52dca3f4e14210d5fa47f7d41a923cadd5e80662dd240bcf84d71"), looks := true }, kinds := [], alts := [], laidByText := true, laidKinds := [.sentinel, .sentinel, .sentinel, .sentinel, .sentinel, .sentinel, .sentinel], laidTests := true, laidLooks := .later }
def FnExactBalanceOfCardSaid : Prop := Claim7.holds Tryd.pinned (.plain (OpenSpec.ofChange fnExactBalanceOfSpec)) fnExactBalanceOfCard

/-- THE TIED CARD OF 'laws.FnExactGrowOnce'. -/
def fnExactGrowOnceCard : Claim7 := { stood := { row := fnExactGrowOnceRow, standIns := [], harness := (true, "c8d25693eba52dca3f4e14210d5fa47f7d41a923cadd5e80662dd240bcf84d71"), looks := true }, kinds := [], alts := [], laidByText := true, laidKinds := [.sentinel, .sentinel, .sentinel, .sentinel, .sentinel, .sentinel, .sentinel], laidTests := true, laidLooks := .later }
def FnExactGrowOnceCardSaid : Prop := Claim7.holds Tryd.pinned (.plain (OpenSpec.ofChange fnExactGrowOnceSpec)) fnExactGrowOnceCard

/-- THE TIED CARD OF 'laws.FnExactGrowDays'. -/
def fnExactGrowDaysCard : Claim7 := { stood := { row := fnExactGrowDaysRow, standIns := [], harness := (true, "c8d25693eba52dca3f4e14210d5fa47f7d41a923cadd5e80662dd240bcf84d71"), looks := true }, kinds := [], alts := [], laidByText := true, laidKinds := [.sentinel, .sentinel, .sentinel, .sentinel, .sentinel, .sentinel, .sentinel], laidTests := true, laidLooks := .later }
def FnExactGrowDaysCardSaid : Prop := Claim7.holds Tryd.pinned (.plain (OpenSpec.ofChange fnExactGrowDaysSpec)) fnExactGrowDaysCard

/-- THE TIED CARD OF 'laws.FnExactHurdlesOf'. -/
def fnExactHurdlesOfCard : Claim7 := { stood := { row := fnExactHurdlesOfRow, standIns := [], harness := (true, "c8d25693eba52dca3f4e14210d5fa47f7d41a923cadd5e80662dd240bcf84d71"), looks := true }, kinds := [], alts := [], laidByText := true, laidKinds := [.sentinel, .sentinel, .sentinel, .sentinel, .sentinel, .sentinel, .sentinel], laidTests := true, laidLooks := .later }
def FnExactHurdlesOfCardSaid : Prop := Claim7.holds Tryd.pinned (.plain (OpenSpec.ofChange fnExactHurdlesOfSpec)) fnExactHurdlesOfCard

/-- THE SECOND FORM's CARD OF 'laws.FnExactTieGoat'. -/
def fnExactTieGoatUptoCard : Claim7 := { stood := { row := fnExactTieGoatUptoRow, standIns := [], harness := (true, "c8d25693eba52dca3f4e14210d5fa47f7d41a923cadd5e80662dd240bcf84d71"), looks := true }, kinds := [], alts := [], laidByText := true, laidKinds := [.sentinel, .sentinel, .sentinel, .sentinel, .sentinel, .sentinel, .sentinel], laidTests := true, laidLooks := .later }
def FnExactTieGoatUptoCardSaid : Prop := Claim7.holds Tryd.pinned (.plain (OpenSpec.upto fnExactTieGoatSpec)) fnExactTieGoatUptoCard

/-- THE SECOND FORM's CARD OF 'laws.FnExactBesideOf'. -/
def fnExactBesideOfUptoCard : Claim7 := { stood := { row := fnExactBesideOfUptoRow, standIns := [], harness := (true, "c8d25693eba52dca3f4e14210d5fa47f7d41a923cadd5e80662dd240bcf84d71"), looks := true }, kinds := [], alts := [], laidByText := true, laidKinds := [.sentinel, .sentinel, .sentinel, .sentinel, .sentinel, .sentinel, .sentinel], laidTests := true, laidLooks := .later }
def FnExactBesideOfUptoCardSaid : Prop := Claim7.holds Tryd.pinned (.plain (OpenSpec.upto fnExactBesideOfSpec)) fnExactBesideOfUptoCard

/-- THE SECOND FORM's CARD OF 'laws.FnExactGrowCell'. -/
def fnExactGrowCellUptoCard : Claim7 := { stood := { row := fnExactGrowCellUptoRow, standIns := [], harness := (true, "c8d25693eba52dca3f4e14210d5fa47f7d41a923cadd5e80662dd240bcf84d71"), looks := true }, kinds := [], alts := [], laidByText := true, laidKinds := [.sentinel, .sentinel, .sentinel, .sentinel, .sentinel, .sentinel, .sentinel], laidTests := true, laidLooks := .later }
def FnExactGrowCellUptoCardSaid : Prop := Claim7.holds Tryd.pinned (.plain (OpenSpec.upto fnExactGrowCellSpec)) fnExactGrowCellUptoCard

/-- THE SECOND FORM's CARD OF 'laws.FnExactDaysTo'. -/
def fnExactDaysToUptoCard : Claim7 := { stood := { row := fnExactDaysToUptoRow, standIns := [], harness := (true, "c8d25693eba52dca3f4e14210d5fa47f7d41a923cadd5e80662dd240bcf84d71"), looks := true }, kinds := [], alts := [], laidByText := true, laidKinds := [.sentinel, .sentinel, .sentinel, .sentinel, .sentinel, .sentinel, .sentinel], laidTests := true, laidLooks := .later }
def FnExactDaysToUptoCardSaid : Prop := Claim7.holds Tryd.pinned (.plain (OpenSpec.upto fnExactDaysToSpec)) fnExactDaysToUptoCard

/-- THE SECOND FORM's CARD OF 'laws.FnExactBestBand'. -/
def fnExactBestBandUptoCard : Claim7 := { stood := { row := fnExactBestBandUptoRow, standIns := [], harness := (true, "c8d25693eba52dca3f4e14210d5fa47f7d41a923cadd5e80662dd240bcf84d71"), looks := true }, kinds := [], alts := [], laidByText := true, laidKinds := [.sentinel, .sentinel, .sentinel, .sentinel, .sentinel, .sentinel, .sentinel], laidTests := true, laidLooks := .later }
def FnExactBestBandUptoCardSaid : Prop := Claim7.holds Tryd.pinned (.plain (OpenSpec.upto fnExactBestBandSpec)) fnExactBestBandUptoCard

/-- THE SECOND FORM's CARD OF 'laws.FnExactFeedHay'. -/
def fnExactFeedHayUptoCard : Claim7 := { stood := { row := fnExactFeedHayUptoRow, standIns := [], harness := (true, "c8d25693eba52dca3f4e14210d5fa47f7d41a923cadd5e80662dd240bcf84d71"), looks := true }, kinds := [], alts := [], laidByText := true, laidKinds := [.sentinel, .sentinel, .sentinel, .sentinel, .sentinel, .sentinel, .sentinel], laidTests := true, laidLooks := .later }
def FnExactFeedHayUptoCardSaid : Prop := Claim7.holds Tryd.pinned (.plain (OpenSpec.upto fnExactFeedHaySpec)) fnExactFeedHayUptoCard

/-- THE SECOND FORM's CARD OF 'laws.FnExactBalanceOf'. -/
def fnExactBalanceOfUptoCard : Claim7 := { stood := { row := fnExactBalanceOfUptoRow, standIns := [], harness := (true, "c8d25693eba52dca3f4e14210d5fa47f7d41a923cadd5e80662dd240bcf84d71"), looks := true }, kinds := [], alts := [], laidByText := true, laidKinds := [.sentinel, .sentinel, .sentinel, .sentinel, .sentinel, .sentinel, .sentinel], laidTests := true, laidLooks := .later }
def FnExactBalanceOfUptoCardSaid : Prop := Claim7.holds Tryd.pinned (.plain (OpenSpec.upto fnExactBalanceOfSpec)) fnExactBalanceOfUptoCard

/-- THE SECOND FORM's CARD OF 'laws.FnExactGrowOnce'. -/
def fnExactGrowOnceUptoCard : Claim7 := { stood := { row := fnExactGrowOnceUptoRow, standIns := [], harness := (true, "c8d25693eba52dca3f4e14210d5fa47f7d41a923cadd5e80662dd240bcf84d71"), looks := true }, kinds := [], alts := [], laidByText := true, laidKinds := [.sentinel, .sentinel, .sentinel, .sentinel, .sentinel, .sentinel, .sentinel], laidTests := true, laidLooks := .later }
def FnExactGrowOnceUptoCardSaid : Prop := Claim7.holds Tryd.pinned (.plain (OpenSpec.upto fnExactGrowOnceSpec)) fnExactGrowOnceUptoCard

/-- THE SECOND FORM's CARD OF 'laws.FnExactGrowDays'. -/
def fnExactGrowDaysUptoCard : Claim7 := { stood := { row := fnExactGrowDaysUptoRow, standIns := [], harness := (true, "c8d25693eba52dca3f4e14210d5fa47f7d41a923cadd5e80662dd240bcf84d71"), looks := true }, kinds := [], alts := [], laidByText := true, laidKinds := [.sentinel, .sentinel, .sentinel, .sentinel, .sentinel, .sentinel, .sentinel], laidTests := true, laidLooks := .later }
def FnExactGrowDaysUptoCardSaid : Prop := Claim7.holds Tryd.pinned (.plain (OpenSpec.upto fnExactGrowDaysSpec)) fnExactGrowDaysUptoCard

/-- THE SECOND FORM's CARD OF 'laws.FnExactHurdlesOf'. -/
def fnExactHurdlesOfUptoCard : Claim7 := { stood := { row := fnExactHurdlesOfUptoRow, standIns := [], harness := (true, "c8d25693eba52dca3f4e14210d5fa47f7d41a923cadd5e80662dd240bcf84d71"), looks := true }, kinds := [], alts := [], laidByText := true, laidKinds := [.sentinel, .sentinel, .sentinel, .sentinel, .sentinel, .sentinel, .sentinel], laidTests := true, laidLooks := .later }
def FnExactHurdlesOfUptoCardSaid : Prop := Claim7.holds Tryd.pinned (.plain (OpenSpec.upto fnExactHurdlesOfSpec)) fnExactHurdlesOfUptoCard
end Rows
end Go.Proofs.YtjfmhnbbdkejeaaDoor
