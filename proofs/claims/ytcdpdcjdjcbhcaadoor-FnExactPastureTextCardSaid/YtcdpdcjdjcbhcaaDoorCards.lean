/-
  DERIVED. GIVEN WITH THE SEED: THE CARDS: each row of YtcdpdcjdjcbhcaaDoorRows.lean that lists a variable, with what it lists TIED to the program's text (the seventh form; the later family's looks); each row that meets fmt, with fmt's text TOLD by the authors' own Lean function (tested against real Go, not proved from fmt's source: count such statements apart). THE CARD IS WHAT COUNTS. Prove the row's statement (the work); the ties are given (YtcdpdcjdjcbhcaaDoorTie.lean); close each card by the builder's one call (the guide's Derived/Test/ToyasCard.lean, 'card_holds'). Laid BY PROGRAM, IN A SANDBOX (cutbox-door.mjs). By AI agents, Wed Nov 11 2026. No macro, syntax, notation, axiom, sorry.
-/
import Derived.Test.YtcdpdcjdjcbhcaaDoorRows
import GoSem.ClaimSeven
namespace Go.Proofs.YtcdpdcjdjcbhcaaDoor
namespace Rows

/-- THE TIED CARD OF 'laws.FnExactFenceText'. -/
def fnExactFenceTextCard : Claim7 := { stood := { row := fnExactFenceTextRow, standIns := [], harness := (true, "7d0def64c829f32540f5fc0a2d933312f2cbbaa64660a9417d748c513ec0abc1"), looks := true }, kinds := [], alts := [], laidByText := true, laidKinds := [.data, .data, .data], laidTests := true, laidLooks := .later }
def FnExactFenceTextCardSaid : Prop := Claim7.holds Tryd.pinned (.plain (OpenSpec.ofChange fnExactFenceTextSpec)) fnExactFenceTextCard

/-- THE TIED CARD OF 'laws.FnExactGrowthText'. -/
def fnExactGrowthTextCard : Claim7 := { stood := { row := fnExactGrowthTextRow, standIns := [], harness := (true, "7d0def64c829f32540f5fc0a2d933312f2cbbaa64660a9417d748c513ec0abc1"), looks := true }, kinds := [], alts := [], laidByText := true, laidKinds := [.data, .data, .data], laidTests := true, laidLooks := .later }
def FnExactGrowthTextCardSaid : Prop := Claim7.holds Tryd.pinned (.plain (OpenSpec.ofChange fnExactGrowthTextSpec)) fnExactGrowthTextCard

/-- THE TIED CARD OF 'laws.FnExactStakesText'. -/
def fnExactStakesTextCard : Claim7 := { stood := { row := fnExactStakesTextRow, standIns := [], harness := (true, "7d0def64c829f32540f5fc0a2d933312f2cbbaa64660a9417d748c513ec0abc1"), looks := true }, kinds := [], alts := [], laidByText := true, laidKinds := [.data, .data, .data], laidTests := true, laidLooks := .later }
def FnExactStakesTextCardSaid : Prop := Claim7.holds Tryd.pinned (.plain (OpenSpec.ofChange fnExactStakesTextSpec)) fnExactStakesTextCard

/-- THE TIED CARD OF 'laws.FnExactSightsText'. -/
def fnExactSightsTextCard : Claim7 := { stood := { row := fnExactSightsTextRow, standIns := [], harness := (true, "7d0def64c829f32540f5fc0a2d933312f2cbbaa64660a9417d748c513ec0abc1"), looks := true }, kinds := [], alts := [], laidByText := true, laidKinds := [.data, .data, .data], laidTests := true, laidLooks := .later }
def FnExactSightsTextCardSaid : Prop := Claim7.holds Tryd.pinned (.plain (OpenSpec.ofChange fnExactSightsTextSpec)) fnExactSightsTextCard

/-- THE TIED CARD OF 'laws.FnExactPastureText'. -/
def fnExactPastureTextCard : Claim7 := { stood := { row := fnExactPastureTextRow, standIns := [], harness := (true, "7d0def64c829f32540f5fc0a2d933312f2cbbaa64660a9417d748c513ec0abc1"), looks := true }, kinds := [], alts := [], laidByText := true, laidKinds := [.data, .data, .data], laidTests := true, laidLooks := .later }
def FnExactPastureTextCardSaid : Prop := Claim7.holds Tryd.pinned (.plain (OpenSpec.ofChange fnExactPastureTextSpec)) fnExactPastureTextCard

/-- THE TIED CARD OF 'laws.FnExactGoatsText'. -/
def fnExactGoatsTextCard : Claim7 := { stood := { row := fnExactGoatsTextRow, standIns := [], harness := (true, "7d0def64c829f32540f5fc0a2d933312f2cbbaa64660a9417d748c513ec0abc1"), looks := true }, kinds := [], alts := [], laidByText := true, laidKinds := [.data, .data, .data, .data], laidTests := true, laidLooks := .later }
def FnExactGoatsTextCardSaid : Prop := Claim7.holds Tryd.pinned (.plain (OpenSpec.ofChange fnExactGoatsTextSpec)) fnExactGoatsTextCard

/-- THE TIED CARD OF 'laws.FnExactHerdText'. -/
def fnExactHerdTextCard : Claim7 := { stood := { row := fnExactHerdTextRow, standIns := [], harness := (true, "7d0def64c829f32540f5fc0a2d933312f2cbbaa64660a9417d748c513ec0abc1"), looks := true }, kinds := [], alts := [], laidByText := true, laidKinds := [.data, .data, .data, .sentinel, .sentinel], laidTests := true, laidLooks := .later }
def FnExactHerdTextCardSaid : Prop := Claim7.holds Tryd.pinned (.plain (OpenSpec.ofChange fnExactHerdTextSpec)) fnExactHerdTextCard

/-- THE SECOND FORM's CARD OF 'laws.FnExactFenceText'. -/
def fnExactFenceTextUptoCard : Claim7 := { stood := { row := fnExactFenceTextUptoRow, standIns := [], harness := (true, "7d0def64c829f32540f5fc0a2d933312f2cbbaa64660a9417d748c513ec0abc1"), looks := true }, kinds := [], alts := [], laidByText := true, laidKinds := [.data, .data, .data], laidTests := true, laidLooks := .later }
def FnExactFenceTextUptoCardSaid : Prop := Claim7.holds Tryd.pinned (.plain (OpenSpec.upto fnExactFenceTextSpec)) fnExactFenceTextUptoCard

/-- THE SECOND FORM's CARD OF 'laws.FnExactGrowthText'. -/
def fnExactGrowthTextUptoCard : Claim7 := { stood := { row := fnExactGrowthTextUptoRow, standIns := [], harness := (true, "7d0def64c829f32540f5fc0a2d933312f2cbbaa64660a9417d748c513ec0abc1"), looks := true }, kinds := [], alts := [], laidByText := true, laidKinds := [.data, .data, .data], laidTests := true, laidLooks := .later }
def FnExactGrowthTextUptoCardSaid : Prop := Claim7.holds Tryd.pinned (.plain (OpenSpec.upto fnExactGrowthTextSpec)) fnExactGrowthTextUptoCard

/-- THE SECOND FORM's CARD OF 'laws.FnExactStakesText'. -/
def fnExactStakesTextUptoCard : Claim7 := { stood := { row := fnExactStakesTextUptoRow, standIns := [], harness := (true, "7d0def64c829f32540f5fc0a2d933312f2cbbaa64660a9417d748c513ec0abc1"), looks := true }, kinds := [], alts := [], laidByText := true, laidKinds := [.data, .data, .data], laidTests := true, laidLooks := .later }
def FnExactStakesTextUptoCardSaid : Prop := Claim7.holds Tryd.pinned (.plain (OpenSpec.upto fnExactStakesTextSpec)) fnExactStakesTextUptoCard

/-- THE SECOND FORM's CARD OF 'laws.FnExactSightsText'. -/
def fnExactSightsTextUptoCard : Claim7 := { stood := { row := fnExactSightsTextUptoRow, standIns := [], harness := (true, "7d0def64c829f32540f5fc0a2d933312f2cbbaa64660a9417d748c513ec0abc1"), looks := true }, kinds := [], alts := [], laidByText := true, laidKinds := [.data, .data, .data], laidTests := true, laidLooks := .later }
def FnExactSightsTextUptoCardSaid : Prop := Claim7.holds Tryd.pinned (.plain (OpenSpec.upto fnExactSightsTextSpec)) fnExactSightsTextUptoCard

/-- THE SECOND FORM's CARD OF 'laws.FnExactPastureText'. -/
def fnExactPastureTextUptoCard : Claim7 := { stood := { row := fnExactPastureTextUptoRow, standIns := [], harness := (true, "7d0def64c829f32540f5fc0a2d933312f2cbbaa64660a9417d748c513ec0abc1"), looks := true }, kinds := [], alts := [], laidByText := true, laidKinds := [.data, .data, .data], laidTests := true, laidLooks := .later }
def FnExactPastureTextUptoCardSaid : Prop := Claim7.holds Tryd.pinned (.plain (OpenSpec.upto fnExactPastureTextSpec)) fnExactPastureTextUptoCard

/-- THE SECOND FORM's CARD OF 'laws.FnExactGoatsText'. -/
def fnExactGoatsTextUptoCard : Claim7 := { stood := { row := fnExactGoatsTextUptoRow, standIns := [], harness := (true, "7d0def64c829f32540f5fc0a2d933312f2cbbaa64660a9417d748c513ec0abc1"), looks := true }, kinds := [], alts := [], laidByText := true, laidKinds := [.data, .data, .data, .data], laidTests := true, laidLooks := .later }
def FnExactGoatsTextUptoCardSaid : Prop := Claim7.holds Tryd.pinned (.plain (OpenSpec.upto fnExactGoatsTextSpec)) fnExactGoatsTextUptoCard

/-- THE SECOND FORM's CARD OF 'laws.FnExactHerdText'. -/
def fnExactHerdTextUptoCard : Claim7 := { stood := { row := fnExactHerdTextUptoRow, standIns := [], harness := (true, "7d0def64c829f32540f5fc0a2d933312f2cbbaa64660a9417d748c513ec0abc1"), looks := true }, kinds := [], alts := [], laidByText := true, laidKinds := [.data, .data, .data, .sentinel, .sentinel], laidTests := true, laidLooks := .later }
def FnExactHerdTextUptoCardSaid : Prop := Claim7.holds Tryd.pinned (.plain (OpenSpec.upto fnExactHerdTextSpec)) fnExactHerdTextUptoCard
end Rows
end Go.Proofs.YtcdpdcjdjcbhcaaDoor
