/-
  NARROWER THAN 'FOR EVERY INPUT', by the rows' own cells (each row's printed sentence says how): FnExactGrowCell: ifaces, laid · FnExactDaysTo: ifaces, laid · FnExactBestBand: ifaces, laid · FnExactFeedHay: ifaces, laid · FnExactBalanceOf: ifaces, laid · FnExactGrowOnce: ifaces, laid · FnExactGrowDays: ifaces, laid · FnExactHurdlesOf: ifaces, laid.
  DERIVED. THE GIVEN ROWS OF THIS SEAT. 8 by the template 'for every input the law returns true; each argument reads behind the call as it read before'; 0 by the template 'total and deterministic' (their statements: YtflobpbfpkoghaaDoorTotals.lean).
  GIVEN WITH THE SEED: the statements are not yours to turn. If you find one false, say at which input.
  Laid BY PROGRAM, IN A SANDBOX (cutbox-rows.mjs): the forced cells as the released guide's own fill.sh prints them over the translation ef582e76a89f6421… (all of the seat's roots in one cut). By AI agents, Wed Nov 11 2026. No macro, syntax, notation, axiom, sorry.
-/
import Derived.Test.YtflobpbfpkoghaaDoorChecked
import GoSem.Claim
import GoSem.ClaimJoined
import GoSem.ClaimMapViews
import Derived.JoinedTies
import Derived.KernelRfl
namespace Go.Proofs.YtflobpbfpkoghaaDoor
/- THE CELL 'sum', in the pinned program and in every row, IS THE sha256 OF THE DUMP (.gsa) THAT YtflobpbfpkoghaaDoorProg.lean LOADS. Nothing in Lean hashes anything: it is a label: what it is worth is what the hold of that sum in a sandbox is worth. -/
noncomputable def Tryd.pinned : Pinned := { name := "ytflobpbfpkoghaadoor", sum := "ef582e76a89f64213782fafea9c794aefac76460399c9a0321ddf6e4ce2d36a4", checked := Tryd.checked }
namespace Rows
def none {H : Type} : Left H := { results := [], args := [] }

/- WHAT THE LISTED PACKAGE-LEVEL VARIABLES READ AS WHEN THE CALL BEGINS. Each datum BY PROGRAM (the guide's laid-datum.mjs) off the statement by which the dump's own 'gosem.cut.vars' lays the variable. In a bare row this is a premise. The card (YtflobpbfpkoghaaDoorCards.lean) ties it to the program's text. -/
def laid_loop_example_g01345_impl_errInvalid {H : Type} : DataW H := .iface "*errors.errorString" (.ptr (.agg [.lit (.string [105, 110, 118, 97, 108, 105, 100])]))
def laid_loop_example_g01345_impl_errRange {H : Type} : DataW H := .iface "*errors.errorString" (.ptr (.agg [.lit (.string [114, 97, 110, 103, 101])]))
def laid_loop_example_g01345_impl_errLimit {H : Type} : DataW H := .iface "*errors.errorString" (.ptr (.agg [.lit (.string [108, 105, 109, 105, 116])]))
def laid_loop_example_g01345_impl_errState {H : Type} : DataW H := .iface "*errors.errorString" (.ptr (.agg [.lit (.string [115, 116, 97, 116, 101])]))
def laid_loop_example_g01345_impl_errSyntax {H : Type} : DataW H := .iface "*errors.errorString" (.ptr (.agg [.lit (.string [115, 121, 110, 116, 97, 120])]))
def laid_loop_example_g01345_impl_errNotFound {H : Type} : DataW H := .iface "*errors.errorString" (.ptr (.agg [.lit (.string [110, 111, 116, 32, 102, 111, 117, 110, 100])]))

/-- 'laws.FnExactGrowCell': WHATEVER THE INPUT: true; the input reads as it did. -/
def fnExactGrowCellSpec : ChangeSpec := { name := "fnExactGrowCell", vars := ["loop.example/g01345/impl.errInvalid", "loop.example/g01345/impl.errRange", "loop.example/g01345/impl.errLimit", "loop.example/g01345/impl.errState", "loop.example/g01345/impl.errSyntax", "loop.example/g01345/impl.errNotFound"], fn := fun _ => fun
  | [d1, d2, g1, g2, g3, g4, g5, g6] => { results := [.lit (.bool true)], args := [d1, d2], vars := [g1, g2, g3, g4, g5, g6] }
  | _ => none }
def fnExactGrowCellRow : OpenClaim := { program := "ytflobpbfpkoghaadoor", sum := "ef582e76a89f64213782fafea9c794aefac76460399c9a0321ddf6e4ce2d36a4", func := "loop.example/g01345/laws.FnExactGrowCell", spec := "fnExactGrowCell", inPlace := ["internal/reflectlite.TypeOf"], unfollowed := true, recurses := true, named := ["loop.example/g01345/impl.errInvalid", "loop.example/g01345/impl.errRange", "loop.example/g01345/impl.errLimit", "loop.example/g01345/impl.errState", "loop.example/g01345/impl.errSyntax", "loop.example/g01345/impl.errNotFound"], ifaces := true, apart := false, laid := [("loop.example/g01345/impl.errInvalid", laid_loop_example_g01345_impl_errInvalid), ("loop.example/g01345/impl.errRange", laid_loop_example_g01345_impl_errRange), ("loop.example/g01345/impl.errLimit", laid_loop_example_g01345_impl_errLimit), ("loop.example/g01345/impl.errState", laid_loop_example_g01345_impl_errState), ("loop.example/g01345/impl.errSyntax", laid_loop_example_g01345_impl_errSyntax), ("loop.example/g01345/impl.errNotFound", laid_loop_example_g01345_impl_errNotFound)] }
def FnExactGrowCellSaid : Prop := fnExactGrowCellRow.holds Tryd.pinned (OpenSpec.ofChange fnExactGrowCellSpec)

/-- ITS FALSE NEIGHBOUR: 'it returns false'. Refute it at one input. -/
def fnExactGrowCellWrong : ChangeSpec := { name := "fnExactGrowCell", vars := ["loop.example/g01345/impl.errInvalid", "loop.example/g01345/impl.errRange", "loop.example/g01345/impl.errLimit", "loop.example/g01345/impl.errState", "loop.example/g01345/impl.errSyntax", "loop.example/g01345/impl.errNotFound"], fn := fun _ => fun
  | [d1, d2, g1, g2, g3, g4, g5, g6] => { results := [.lit (.bool false)], args := [d1, d2], vars := [g1, g2, g3, g4, g5, g6] }
  | _ => none }
def FnExactGrowCellWrongFalsely : Prop := fnExactGrowCellRow.holds Tryd.pinned (OpenSpec.ofChange fnExactGrowCellWrong)

/-- 'laws.FnExactDaysTo': WHATEVER THE INPUT: true; the input reads as it did. -/
def fnExactDaysToSpec : ChangeSpec := { name := "fnExactDaysTo", vars := ["loop.example/g01345/impl.errInvalid", "loop.example/g01345/impl.errRange", "loop.example/g01345/impl.errLimit", "loop.example/g01345/impl.errState", "loop.example/g01345/impl.errSyntax", "loop.example/g01345/impl.errNotFound"], fn := fun _ => fun
  | [d1, d2, d3, g1, g2, g3, g4, g5, g6] => { results := [.lit (.bool true)], args := [d1, d2, d3], vars := [g1, g2, g3, g4, g5, g6] }
  | _ => none }
def fnExactDaysToRow : OpenClaim := { program := "ytflobpbfpkoghaadoor", sum := "ef582e76a89f64213782fafea9c794aefac76460399c9a0321ddf6e4ce2d36a4", func := "loop.example/g01345/laws.FnExactDaysTo", spec := "fnExactDaysTo", inPlace := ["internal/reflectlite.TypeOf"], unfollowed := true, recurses := true, named := ["loop.example/g01345/impl.errInvalid", "loop.example/g01345/impl.errRange", "loop.example/g01345/impl.errLimit", "loop.example/g01345/impl.errState", "loop.example/g01345/impl.errSyntax", "loop.example/g01345/impl.errNotFound"], ifaces := true, apart := false, laid := [("loop.example/g01345/impl.errInvalid", laid_loop_example_g01345_impl_errInvalid), ("loop.example/g01345/impl.errRange", laid_loop_example_g01345_impl_errRange), ("loop.example/g01345/impl.errLimit", laid_loop_example_g01345_impl_errLimit), ("loop.example/g01345/impl.errState", laid_loop_example_g01345_impl_errState), ("loop.example/g01345/impl.errSyntax", laid_loop_example_g01345_impl_errSyntax), ("loop.example/g01345/impl.errNotFound", laid_loop_example_g01345_impl_errNotFound)] }
def FnExactDaysToSaid : Prop := fnExactDaysToRow.holds Tryd.pinned (OpenSpec.ofChange fnExactDaysToSpec)

/-- ITS FALSE NEIGHBOUR: 'it returns false'. Refute it at one input. -/
def fnExactDaysToWrong : ChangeSpec := { name := "fnExactDaysTo", vars := ["loop.example/g01345/impl.errInvalid", "loop.example/g01345/impl.errRange", "loop.example/g01345/impl.errLimit", "loop.example/g01345/impl.errState", "loop.example/g01345/impl.errSyntax", "loop.example/g01345/impl.errNotFound"], fn := fun _ => fun
  | [d1, d2, d3, g1, g2, g3, g4, g5, g6] => { results := [.lit (.bool false)], args := [d1, d2, d3], vars := [g1, g2, g3, g4, g5, g6] }
  | _ => none }
def FnExactDaysToWrongFalsely : Prop := fnExactDaysToRow.holds Tryd.pinned (OpenSpec.ofChange fnExactDaysToWrong)

/-- 'laws.FnExactBestBand': WHATEVER THE INPUT: true; the input reads as it did. -/
def fnExactBestBandSpec : ChangeSpec := { name := "fnExactBestBand", vars := ["loop.example/g01345/impl.errInvalid", "loop.example/g01345/impl.errRange", "loop.example/g01345/impl.errLimit", "loop.example/g01345/impl.errState", "loop.example/g01345/impl.errSyntax", "loop.example/g01345/impl.errNotFound"], fn := fun _ => fun
  | [d, g1, g2, g3, g4, g5, g6] => { results := [.lit (.bool true)], args := [d], vars := [g1, g2, g3, g4, g5, g6] }
  | _ => none }
def fnExactBestBandRow : OpenClaim := { program := "ytflobpbfpkoghaadoor", sum := "ef582e76a89f64213782fafea9c794aefac76460399c9a0321ddf6e4ce2d36a4", func := "loop.example/g01345/laws.FnExactBestBand", spec := "fnExactBestBand", inPlace := ["internal/reflectlite.TypeOf"], unfollowed := true, recurses := true, named := ["loop.example/g01345/impl.errInvalid", "loop.example/g01345/impl.errRange", "loop.example/g01345/impl.errLimit", "loop.example/g01345/impl.errState", "loop.example/g01345/impl.errSyntax", "loop.example/g01345/impl.errNotFound"], ifaces := true, apart := false, laid := [("loop.example/g01345/impl.errInvalid", laid_loop_example_g01345_impl_errInvalid), ("loop.example/g01345/impl.errRange", laid_loop_example_g01345_impl_errRange), ("loop.example/g01345/impl.errLimit", laid_loop_example_g01345_impl_errLimit), ("loop.example/g01345/impl.errState", laid_loop_example_g01345_impl_errState), ("loop.example/g01345/impl.errSyntax", laid_loop_example_g01345_impl_errSyntax), ("loop.example/g01345/impl.errNotFound", laid_loop_example_g01345_impl_errNotFound)] }
def FnExactBestBandSaid : Prop := fnExactBestBandRow.holds Tryd.pinned (OpenSpec.ofChange fnExactBestBandSpec)

/-- ITS FALSE NEIGHBOUR: 'it returns false'. Refute it at one input. -/
def fnExactBestBandWrong : ChangeSpec := { name := "fnExactBestBand", vars := ["loop.example/g01345/impl.errInvalid", "loop.example/g01345/impl.errRange", "loop.example/g01345/impl.errLimit", "loop.example/g01345/impl.errState", "loop.example/g01345/impl.errSyntax", "loop.example/g01345/impl.errNotFound"], fn := fun _ => fun
  | [d, g1, g2, g3, g4, g5, g6] => { results := [.lit (.bool false)], args := [d], vars := [g1, g2, g3, g4, g5, g6] }
  | _ => none }
def FnExactBestBandWrongFalsely : Prop := fnExactBestBandRow.holds Tryd.pinned (OpenSpec.ofChange fnExactBestBandWrong)

/-- 'laws.FnExactFeedHay': WHATEVER THE INPUT: true; the input reads as it did. -/
def fnExactFeedHaySpec : ChangeSpec := { name := "fnExactFeedHay", vars := ["loop.example/g01345/impl.errRange", "loop.example/g01345/impl.errInvalid", "loop.example/g01345/impl.errLimit", "loop.example/g01345/impl.errState", "loop.example/g01345/impl.errSyntax", "loop.example/g01345/impl.errNotFound"], fn := fun _ => fun
  | [d1, d2, d3, g1, g2, g3, g4, g5, g6] => { results := [.lit (.bool true)], args := [d1, d2, d3], vars := [g1, g2, g3, g4, g5, g6] }
  | _ => none }
def fnExactFeedHayRow : OpenClaim := { program := "ytflobpbfpkoghaadoor", sum := "ef582e76a89f64213782fafea9c794aefac76460399c9a0321ddf6e4ce2d36a4", func := "loop.example/g01345/laws.FnExactFeedHay", spec := "fnExactFeedHay", inPlace := ["internal/reflectlite.TypeOf"], unfollowed := true, recurses := true, named := ["loop.example/g01345/impl.errRange", "loop.example/g01345/impl.errInvalid", "loop.example/g01345/impl.errLimit", "loop.example/g01345/impl.errState", "loop.example/g01345/impl.errSyntax", "loop.example/g01345/impl.errNotFound"], ifaces := true, apart := false, laid := [("loop.example/g01345/impl.errInvalid", laid_loop_example_g01345_impl_errInvalid), ("loop.example/g01345/impl.errRange", laid_loop_example_g01345_impl_errRange), ("loop.example/g01345/impl.errLimit", laid_loop_example_g01345_impl_errLimit), ("loop.example/g01345/impl.errState", laid_loop_example_g01345_impl_errState), ("loop.example/g01345/impl.errSyntax", laid_loop_example_g01345_impl_errSyntax), ("loop.example/g01345/impl.errNotFound", laid_loop_example_g01345_impl_errNotFound)] }
def FnExactFeedHaySaid : Prop := fnExactFeedHayRow.holds Tryd.pinned (OpenSpec.ofChange fnExactFeedHaySpec)

/-- ITS FALSE NEIGHBOUR: 'it returns false'. Refute it at one input. -/
def fnExactFeedHayWrong : ChangeSpec := { name := "fnExactFeedHay", vars := ["loop.example/g01345/impl.errRange", "loop.example/g01345/impl.errInvalid", "loop.example/g01345/impl.errLimit", "loop.example/g01345/impl.errState", "loop.example/g01345/impl.errSyntax", "loop.example/g01345/impl.errNotFound"], fn := fun _ => fun
  | [d1, d2, d3, g1, g2, g3, g4, g5, g6] => { results := [.lit (.bool false)], args := [d1, d2, d3], vars := [g1, g2, g3, g4, g5, g6] }
  | _ => none }
def FnExactFeedHayWrongFalsely : Prop := fnExactFeedHayRow.holds Tryd.pinned (OpenSpec.ofChange fnExactFeedHayWrong)

/-- 'laws.FnExactBalanceOf': WHATEVER THE INPUT: true; the input reads as it did. -/
def fnExactBalanceOfSpec : ChangeSpec := { name := "fnExactBalanceOf", vars := ["loop.example/g01345/impl.errInvalid", "loop.example/g01345/impl.errRange", "loop.example/g01345/impl.errLimit", "loop.example/g01345/impl.errState", "loop.example/g01345/impl.errSyntax", "loop.example/g01345/impl.errNotFound"], fn := fun _ => fun
  | [d1, d2, d3, d4, d5, g1, g2, g3, g4, g5, g6] => { results := [.lit (.bool true)], args := [d1, d2, d3, d4, d5], vars := [g1, g2, g3, g4, g5, g6] }
  | _ => none }
def fnExactBalanceOfRow : OpenClaim := { program := "ytflobpbfpkoghaadoor", sum := "ef582e76a89f64213782fafea9c794aefac76460399c9a0321ddf6e4ce2d36a4", func := "loop.example/g01345/laws.FnExactBalanceOf", spec := "fnExactBalanceOf", inPlace := ["internal/reflectlite.TypeOf"], unfollowed := true, recurses := true, named := ["loop.example/g01345/impl.errInvalid", "loop.example/g01345/impl.errRange", "loop.example/g01345/impl.errLimit", "loop.example/g01345/impl.errState", "loop.example/g01345/impl.errSyntax", "loop.example/g01345/impl.errNotFound"], ifaces := true, apart := false, laid := [("loop.example/g01345/impl.errInvalid", laid_loop_example_g01345_impl_errInvalid), ("loop.example/g01345/impl.errRange", laid_loop_example_g01345_impl_errRange), ("loop.example/g01345/impl.errLimit", laid_loop_example_g01345_impl_errLimit), ("loop.example/g01345/impl.errState", laid_loop_example_g01345_impl_errState), ("loop.example/g01345/impl.errSyntax", laid_loop_example_g01345_impl_errSyntax), ("loop.example/g01345/impl.errNotFound", laid_loop_example_g01345_impl_errNotFound)] }
def FnExactBalanceOfSaid : Prop := fnExactBalanceOfRow.holds Tryd.pinned (OpenSpec.ofChange fnExactBalanceOfSpec)

/-- ITS FALSE NEIGHBOUR: 'it returns false'. Refute it at one input. -/
def fnExactBalanceOfWrong : ChangeSpec := { name := "fnExactBalanceOf", vars := ["loop.example/g01345/impl.errInvalid", "loop.example/g01345/impl.errRange", "loop.example/g01345/impl.errLimit", "loop.example/g01345/impl.errState", "loop.example/g01345/impl.errSyntax", "loop.example/g01345/impl.errNotFound"], fn := fun _ => fun
  | [d1, d2, d3, d4, d5, g1, g2, g3, g4, g5, g6] => { results := [.lit (.bool false)], args := [d1, d2, d3, d4, d5], vars := [g1, g2, g3, g4, g5, g6] }
  | _ => none }
def FnExactBalanceOfWrongFalsely : Prop := fnExactBalanceOfRow.holds Tryd.pinned (OpenSpec.ofChange fnExactBalanceOfWrong)

/-- 'laws.FnExactGrowOnce': WHATEVER THE INPUT: true; the input reads as it did. -/
def fnExactGrowOnceSpec : ChangeSpec := { name := "fnExactGrowOnce", vars := ["loop.example/g01345/impl.errInvalid", "loop.example/g01345/impl.errRange", "loop.example/g01345/impl.errLimit", "loop.example/g01345/impl.errState", "loop.example/g01345/impl.errSyntax", "loop.example/g01345/impl.errNotFound"], fn := fun _ => fun
  | [d1, d2, g1, g2, g3, g4, g5, g6] => { results := [.lit (.bool true)], args := [d1, d2], vars := [g1, g2, g3, g4, g5, g6] }
  | _ => none }
def fnExactGrowOnceRow : OpenClaim := { program := "ytflobpbfpkoghaadoor", sum := "ef582e76a89f64213782fafea9c794aefac76460399c9a0321ddf6e4ce2d36a4", func := "loop.example/g01345/laws.FnExactGrowOnce", spec := "fnExactGrowOnce", inPlace := ["internal/reflectlite.TypeOf"], unfollowed := true, recurses := true, named := ["loop.example/g01345/impl.errInvalid", "loop.example/g01345/impl.errRange", "loop.example/g01345/impl.errLimit", "loop.example/g01345/impl.errState", "loop.example/g01345/impl.errSyntax", "loop.example/g01345/impl.errNotFound"], ifaces := true, apart := false, laid := [("loop.example/g01345/impl.errInvalid", laid_loop_example_g01345_impl_errInvalid), ("loop.example/g01345/impl.errRange", laid_loop_example_g01345_impl_errRange), ("loop.example/g01345/impl.errLimit", laid_loop_example_g01345_impl_errLimit), ("loop.example/g01345/impl.errState", laid_loop_example_g01345_impl_errState), ("loop.example/g01345/impl.errSyntax", laid_loop_example_g01345_impl_errSyntax), ("loop.example/g01345/impl.errNotFound", laid_loop_example_g01345_impl_errNotFound)] }
def FnExactGrowOnceSaid : Prop := fnExactGrowOnceRow.holds Tryd.pinned (OpenSpec.ofChange fnExactGrowOnceSpec)

/-- ITS FALSE NEIGHBOUR: 'it returns false'. Refute it at one input. -/
def fnExactGrowOnceWrong : ChangeSpec := { name := "fnExactGrowOnce", vars := ["loop.example/g01345/impl.errInvalid", "loop.example/g01345/impl.errRange", "loop.example/g01345/impl.errLimit", "loop.example/g01345/impl.errState", "loop.example/g01345/impl.errSyntax", "loop.example/g01345/impl.errNotFound"], fn := fun _ => fun
  | [d1, d2, g1, g2, g3, g4, g5, g6] => { results := [.lit (.bool false)], args := [d1, d2], vars := [g1, g2, g3, g4, g5, g6] }
  | _ => none }
def FnExactGrowOnceWrongFalsely : Prop := fnExactGrowOnceRow.holds Tryd.pinned (OpenSpec.ofChange fnExactGrowOnceWrong)

/-- 'laws.FnExactGrowDays': WHATEVER THE INPUT: true; the input reads as it did. -/
def fnExactGrowDaysSpec : ChangeSpec := { name := "fnExactGrowDays", vars := ["loop.example/g01345/impl.errInvalid", "loop.example/g01345/impl.errRange", "loop.example/g01345/impl.errLimit", "loop.example/g01345/impl.errState", "loop.example/g01345/impl.errSyntax", "loop.example/g01345/impl.errNotFound"], fn := fun _ => fun
  | [d1, d2, d3, g1, g2, g3, g4, g5, g6] => { results := [.lit (.bool true)], args := [d1, d2, d3], vars := [g1, g2, g3, g4, g5, g6] }
  | _ => none }
def fnExactGrowDaysRow : OpenClaim := { program := "ytflobpbfpkoghaadoor", sum := "ef582e76a89f64213782fafea9c794aefac76460399c9a0321ddf6e4ce2d36a4", func := "loop.example/g01345/laws.FnExactGrowDays", spec := "fnExactGrowDays", inPlace := ["internal/reflectlite.TypeOf"], unfollowed := true, recurses := true, named := ["loop.example/g01345/impl.errInvalid", "loop.example/g01345/impl.errRange", "loop.example/g01345/impl.errLimit", "loop.example/g01345/impl.errState", "loop.example/g01345/impl.errSyntax", "loop.example/g01345/impl.errNotFound"], ifaces := true, apart := false, laid := [("loop.example/g01345/impl.errInvalid", laid_loop_example_g01345_impl_errInvalid), ("loop.example/g01345/impl.errRange", laid_loop_example_g01345_impl_errRange), ("loop.example/g01345/impl.errLimit", laid_loop_example_g01345_impl_errLimit), ("loop.example/g01345/impl.errState", laid_loop_example_g01345_impl_errState), ("loop.example/g01345/impl.errSyntax", laid_loop_example_g01345_impl_errSyntax), ("loop.example/g01345/impl.errNotFound", laid_loop_example_g01345_impl_errNotFound)] }
def FnExactGrowDaysSaid : Prop := fnExactGrowDaysRow.holds Tryd.pinned (OpenSpec.ofChange fnExactGrowDaysSpec)

/-- ITS FALSE NEIGHBOUR: 'it returns false'. Refute it at one input. -/
def fnExactGrowDaysWrong : ChangeSpec := { name := "fnExactGrowDays", vars := ["loop.example/g01345/impl.errInvalid", "loop.example/g01345/impl.errRange", "loop.example/g01345/impl.errLimit", "loop.example/g01345/impl.errState", "loop.example/g01345/impl.errSyntax", "loop.example/g01345/impl.errNotFound"], fn := fun _ => fun
  | [d1, d2, d3, g1, g2, g3, g4, g5, g6] => { results := [.lit (.bool false)], args := [d1, d2, d3], vars := [g1, g2, g3, g4, g5, g6] }
  | _ => none }
def FnExactGrowDaysWrongFalsely : Prop := fnExactGrowDaysRow.holds Tryd.pinned (OpenSpec.ofChange fnExactGrowDaysWrong)

/-- 'laws.FnExactHurdlesOf': WHATEVER THE INPUT: true; the input reads as it did. -/
def fnExactHurdlesOfSpec : ChangeSpec := { name := "fnExactHurdlesOf", vars := ["loop.example/g01345/impl.errInvalid", "loop.example/g01345/impl.errRange", "loop.example/g01345/impl.errLimit", "loop.example/g01345/impl.errState", "loop.example/g01345/impl.errSyntax", "loop.example/g01345/impl.errNotFound"], fn := fun _ => fun
  | [d, g1, g2, g3, g4, g5, g6] => { results := [.lit (.bool true)], args := [d], vars := [g1, g2, g3, g4, g5, g6] }
  | _ => none }
def fnExactHurdlesOfRow : OpenClaim := { program := "ytflobpbfpkoghaadoor", sum := "ef582e76a89f64213782fafea9c794aefac76460399c9a0321ddf6e4ce2d36a4", func := "loop.example/g01345/laws.FnExactHurdlesOf", spec := "fnExactHurdlesOf", inPlace := ["internal/reflectlite.TypeOf"], unfollowed := true, recurses := true, named := ["loop.example/g01345/impl.errInvalid", "loop.example/g01345/impl.errRange", "loop.example/g01345/impl.errLimit", "loop.example/g01345/impl.errState", "loop.example/g01345/impl.errSyntax", "loop.example/g01345/impl.errNotFound"], ifaces := true, apart := false, laid := [("loop.example/g01345/impl.errInvalid", laid_loop_example_g01345_impl_errInvalid), ("loop.example/g01345/impl.errRange", laid_loop_example_g01345_impl_errRange), ("loop.example/g01345/impl.errLimit", laid_loop_example_g01345_impl_errLimit), ("loop.example/g01345/impl.errState", laid_loop_example_g01345_impl_errState), ("loop.example/g01345/impl.errSyntax", laid_loop_example_g01345_impl_errSyntax), ("loop.example/g01345/impl.errNotFound", laid_loop_example_g01345_impl_errNotFound)] }
def FnExactHurdlesOfSaid : Prop := fnExactHurdlesOfRow.holds Tryd.pinned (OpenSpec.ofChange fnExactHurdlesOfSpec)

/-- ITS FALSE NEIGHBOUR: 'it returns false'. Refute it at one input. -/
def fnExactHurdlesOfWrong : ChangeSpec := { name := "fnExactHurdlesOf", vars := ["loop.example/g01345/impl.errInvalid", "loop.example/g01345/impl.errRange", "loop.example/g01345/impl.errLimit", "loop.example/g01345/impl.errState", "loop.example/g01345/impl.errSyntax", "loop.example/g01345/impl.errNotFound"], fn := fun _ => fun
  | [d, g1, g2, g3, g4, g5, g6] => { results := [.lit (.bool false)], args := [d], vars := [g1, g2, g3, g4, g5, g6] }
  | _ => none }
def FnExactHurdlesOfWrongFalsely : Prop := fnExactHurdlesOfRow.holds Tryd.pinned (OpenSpec.ofChange fnExactHurdlesOfWrong)

/- THE SECOND FORM. 'bulk': how many values and letters a reading holds, each counted each time it is reached (what is shared counts as often as it is met; a slice's spare places count too). A statement '..UptoSaid' is the law's where the arguments, and the package variables that the reading takes, are together of bulk at most 1048576: NARROWER than '..Said'. Prove '..Said' where nothing that the law and all that it calls make is longer than what came in: it says more and counts as full. Else prove '..UptoSaid'. A law counts once. -/
mutual
def uptoBulk {H : Type} : DataW H → Nat
  | .lit (.string bytes) => bytes.length + 1
  | .lit _ => 1
  | .nil => 1
  | .ptr d => uptoBulk d + 1
  | .slice elems spare => uptoBulkAll elems + uptoBulkAll spare + 1
  | .agg parts => uptoBulkAll parts + 1
  | .iface _ d => uptoBulk d + 1
  | .map entries => uptoBulkEntries entries + 1
  | .held _ => 1
def uptoBulkAll {H : Type} : List (DataW H) → Nat
  | [] => 0
  | d :: r => uptoBulk d + uptoBulkAll r
def uptoBulkEntries {H : Type} : List (Lit × DataW H) → Nat
  | [] => 0
  | x :: r => uptoBulkEntry x + uptoBulkEntries r
def uptoBulkEntry {H : Type} : Lit × DataW H → Nat
  | (.string bytes, d) => bytes.length + uptoBulk d + 1
  | (_, d) => uptoBulk d + 1
 end
def uptoSmall : (H : Type) → List (DataW H) → Bool := fun _ ds => decide (uptoBulkAll ds ≤ 1048576)
def OpenSpec.upto (s : _root_.Go.ChangeSpec) : _root_.Go.OpenSpec := { _root_.Go.OpenSpec.ofChange s with cond := some uptoSmall }

/-- 'laws.FnExactGrowCell', WHERE WHAT IT READS IS OF BULK AT MOST 1048576: true; the input reads as it did. -/
def fnExactGrowCellUptoRow : OpenClaim := { program := "ytflobpbfpkoghaadoor", sum := "ef582e76a89f64213782fafea9c794aefac76460399c9a0321ddf6e4ce2d36a4", func := "loop.example/g01345/laws.FnExactGrowCell", spec := "fnExactGrowCell", inPlace := ["internal/reflectlite.TypeOf"], unfollowed := true, recurses := true, named := ["loop.example/g01345/impl.errInvalid", "loop.example/g01345/impl.errRange", "loop.example/g01345/impl.errLimit", "loop.example/g01345/impl.errState", "loop.example/g01345/impl.errSyntax", "loop.example/g01345/impl.errNotFound"], ifaces := true, apart := false, laid := [("loop.example/g01345/impl.errInvalid", laid_loop_example_g01345_impl_errInvalid), ("loop.example/g01345/impl.errRange", laid_loop_example_g01345_impl_errRange), ("loop.example/g01345/impl.errLimit", laid_loop_example_g01345_impl_errLimit), ("loop.example/g01345/impl.errState", laid_loop_example_g01345_impl_errState), ("loop.example/g01345/impl.errSyntax", laid_loop_example_g01345_impl_errSyntax), ("loop.example/g01345/impl.errNotFound", laid_loop_example_g01345_impl_errNotFound)], narrowed := true }
def FnExactGrowCellUptoSaid : Prop := fnExactGrowCellUptoRow.holds Tryd.pinned (OpenSpec.upto fnExactGrowCellSpec)

/-- 'laws.FnExactDaysTo', WHERE WHAT IT READS IS OF BULK AT MOST 1048576: true; the input reads as it did. -/
def fnExactDaysToUptoRow : OpenClaim := { program := "ytflobpbfpkoghaadoor", sum := "ef582e76a89f64213782fafea9c794aefac76460399c9a0321ddf6e4ce2d36a4", func := "loop.example/g01345/laws.FnExactDaysTo", spec := "fnExactDaysTo", inPlace := ["internal/reflectlite.TypeOf"], unfollowed := true, recurses := true, named := ["loop.example/g01345/impl.errInvalid", "loop.example/g01345/impl.errRange", "loop.example/g01345/impl.errLimit", "loop.example/g01345/impl.errState", "loop.example/g01345/impl.errSyntax", "loop.example/g01345/impl.errNotFound"], ifaces := true, apart := false, laid := [("loop.example/g01345/impl.errInvalid", laid_loop_example_g01345_impl_errInvalid), ("loop.example/g01345/impl.errRange", laid_loop_example_g01345_impl_errRange), ("loop.example/g01345/impl.errLimit", laid_loop_example_g01345_impl_errLimit), ("loop.example/g01345/impl.errState", laid_loop_example_g01345_impl_errState), ("loop.example/g01345/impl.errSyntax", laid_loop_example_g01345_impl_errSyntax), ("loop.example/g01345/impl.errNotFound", laid_loop_example_g01345_impl_errNotFound)], narrowed := true }
def FnExactDaysToUptoSaid : Prop := fnExactDaysToUptoRow.holds Tryd.pinned (OpenSpec.upto fnExactDaysToSpec)

/-- 'laws.FnExactBestBand', WHERE WHAT IT READS IS OF BULK AT MOST 1048576: true; the input reads as it did. -/
def fnExactBestBandUptoRow : OpenClaim := { program := "ytflobpbfpkoghaadoor", sum := "ef582e76a89f64213782fafea9c794aefac76460399c9a0321ddf6e4ce2d36a4", func := "loop.example/g01345/laws.FnExactBestBand", spec := "fnExactBestBand", inPlace := ["internal/reflectlite.TypeOf"], unfollowed := true, recurses := true, named := ["loop.example/g01345/impl.errInvalid", "loop.example/g01345/impl.errRange", "loop.example/g01345/impl.errLimit", "loop.example/g01345/impl.errState", "loop.example/g01345/impl.errSyntax", "loop.example/g01345/impl.errNotFound"], ifaces := true, apart := false, laid := [("loop.example/g01345/impl.errInvalid", laid_loop_example_g01345_impl_errInvalid), ("loop.example/g01345/impl.errRange", laid_loop_example_g01345_impl_errRange), ("loop.example/g01345/impl.errLimit", laid_loop_example_g01345_impl_errLimit), ("loop.example/g01345/impl.errState", laid_loop_example_g01345_impl_errState), ("loop.example/g01345/impl.errSyntax", laid_loop_example_g01345_impl_errSyntax), ("loop.example/g01345/impl.errNotFound", laid_loop_example_g01345_impl_errNotFound)], narrowed := true }
def FnExactBestBandUptoSaid : Prop := fnExactBestBandUptoRow.holds Tryd.pinned (OpenSpec.upto fnExactBestBandSpec)

/-- 'laws.FnExactFeedHay', WHERE WHAT IT READS IS OF BULK AT MOST 1048576: true; the input reads as it did. -/
def fnExactFeedHayUptoRow : OpenClaim := { program := "ytflobpbfpkoghaadoor", sum := "ef582e76a89f64213782fafea9c794aefac76460399c9a0321ddf6e4ce2d36a4", func := "loop.example/g01345/laws.FnExactFeedHay", spec := "fnExactFeedHay", inPlace := ["internal/reflectlite.TypeOf"], unfollowed := true, recurses := true, named := ["loop.example/g01345/impl.errRange", "loop.example/g01345/impl.errInvalid", "loop.example/g01345/impl.errLimit", "loop.example/g01345/impl.errState", "loop.example/g01345/impl.errSyntax", "loop.example/g01345/impl.errNotFound"], ifaces := true, apart := false, laid := [("loop.example/g01345/impl.errInvalid", laid_loop_example_g01345_impl_errInvalid), ("loop.example/g01345/impl.errRange", laid_loop_example_g01345_impl_errRange), ("loop.example/g01345/impl.errLimit", laid_loop_example_g01345_impl_errLimit), ("loop.example/g01345/impl.errState", laid_loop_example_g01345_impl_errState), ("loop.example/g01345/impl.errSyntax", laid_loop_example_g01345_impl_errSyntax), ("loop.example/g01345/impl.errNotFound", laid_loop_example_g01345_impl_errNotFound)], narrowed := true }
def FnExactFeedHayUptoSaid : Prop := fnExactFeedHayUptoRow.holds Tryd.pinned (OpenSpec.upto fnExactFeedHaySpec)

/-- 'laws.FnExactBalanceOf', WHERE WHAT IT READS IS OF BULK AT MOST 1048576: true; the input reads as it did. -/
def fnExactBalanceOfUptoRow : OpenClaim := { program := "ytflobpbfpkoghaadoor", sum := "ef582e76a89f64213782fafea9c794aefac76460399c9a0321ddf6e4ce2d36a4", func := "loop.example/g01345/laws.FnExactBalanceOf", spec := "fnExactBalanceOf", inPlace := ["internal/reflectlite.TypeOf"], unfollowed := true, recurses := true, named := ["loop.example/g01345/impl.errInvalid", "loop.example/g01345/impl.errRange", "loop.example/g01345/impl.errLimit", "loop.example/g01345/impl.errState", "loop.example/g01345/impl.errSyntax", "loop.example/g01345/impl.errNotFound"], ifaces := true, apart := false, laid := [("loop.example/g01345/impl.errInvalid", laid_loop_example_g01345_impl_errInvalid), ("loop.example/g01345/impl.errRange", laid_loop_example_g01345_impl_errRange), ("loop.example/g01345/impl.errLimit", laid_loop_example_g01345_impl_errLimit), ("loop.example/g01345/impl.errState", laid_loop_example_g01345_impl_errState), ("loop.example/g01345/impl.errSyntax", laid_loop_example_g01345_impl_errSyntax), ("loop.example/g01345/impl.errNotFound", laid_loop_example_g01345_impl_errNotFound)], narrowed := true }
def FnExactBalanceOfUptoSaid : Prop := fnExactBalanceOfUptoRow.holds Tryd.pinned (OpenSpec.upto fnExactBalanceOfSpec)

/-- 'laws.FnExactGrowOnce', WHERE WHAT IT READS IS OF BULK AT MOST 1048576: true; the input reads as it did. -/
def fnExactGrowOnceUptoRow : OpenClaim := { program := "ytflobpbfpkoghaadoor", sum := "ef582e76a89f64213782fafea9c794aefac76460399c9a0321ddf6e4ce2d36a4", func := "loop.example/g01345/laws.FnExactGrowOnce", spec := "fnExactGrowOnce", inPlace := ["internal/reflectlite.TypeOf"], unfollowed := true, recurses := true, named := ["loop.example/g01345/impl.errInvalid", "loop.example/g01345/impl.errRange", "loop.example/g01345/impl.errLimit", "loop.example/g01345/impl.errState", "loop.example/g01345/impl.errSyntax", "loop.example/g01345/impl.errNotFound"], ifaces := true, apart := false, laid := [("loop.example/g01345/impl.errInvalid", laid_loop_example_g01345_impl_errInvalid), ("loop.example/g01345/impl.errRange", laid_loop_example_g01345_impl_errRange), ("loop.example/g01345/impl.errLimit", laid_loop_example_g01345_impl_errLimit), ("loop.example/g01345/impl.errState", laid_loop_example_g01345_impl_errState), ("loop.example/g01345/impl.errSyntax", laid_loop_example_g01345_impl_errSyntax), ("loop.example/g01345/impl.errNotFound", laid_loop_example_g01345_impl_errNotFound)], narrowed := true }
def FnExactGrowOnceUptoSaid : Prop := fnExactGrowOnceUptoRow.holds Tryd.pinned (OpenSpec.upto fnExactGrowOnceSpec)

/-- 'laws.FnExactGrowDays', WHERE WHAT IT READS IS OF BULK AT MOST 1048576: true; the input reads as it did. -/
def fnExactGrowDaysUptoRow : OpenClaim := { program := "ytflobpbfpkoghaadoor", sum := "ef582e76a89f64213782fafea9c794aefac76460399c9a0321ddf6e4ce2d36a4", func := "loop.example/g01345/laws.FnExactGrowDays", spec := "fnExactGrowDays", inPlace := ["internal/reflectlite.TypeOf"], unfollowed := true, recurses := true, named := ["loop.example/g01345/impl.errInvalid", "loop.example/g01345/impl.errRange", "loop.example/g01345/impl.errLimit", "loop.example/g01345/impl.errState", "loop.example/g01345/impl.errSyntax", "loop.example/g01345/impl.errNotFound"], ifaces := true, apart := false, laid := [("loop.example/g01345/impl.errInvalid", laid_loop_example_g01345_impl_errInvalid), ("loop.example/g01345/impl.errRange", laid_loop_example_g01345_impl_errRange), ("loop.example/g01345/impl.errLimit", laid_loop_example_g01345_impl_errLimit), ("loop.example/g01345/impl.errState", laid_loop_example_g01345_impl_errState), ("loop.example/g01345/impl.errSyntax", laid_loop_example_g01345_impl_errSyntax), ("loop.example/g01345/impl.errNotFound", laid_loop_example_g01345_impl_errNotFound)], narrowed := true }
def FnExactGrowDaysUptoSaid : Prop := fnExactGrowDaysUptoRow.holds Tryd.pinned (OpenSpec.upto fnExactGrowDaysSpec)

/-- 'laws.FnExactHurdlesOf', WHERE WHAT IT READS IS OF BULK AT MOST 1048576: true; the input reads as it did. -/
def fnExactHurdlesOfUptoRow : OpenClaim := { program := "ytflobpbfpkoghaadoor", sum := "ef582e76a89f64213782fafea9c794aefac76460399c9a0321ddf6e4ce2d36a4", func := "loop.example/g01345/laws.FnExactHurdlesOf", spec := "fnExactHurdlesOf", inPlace := ["internal/reflectlite.TypeOf"], unfollowed := true, recurses := true, named := ["loop.example/g01345/impl.errInvalid", "loop.example/g01345/impl.errRange", "loop.example/g01345/impl.errLimit", "loop.example/g01345/impl.errState", "loop.example/g01345/impl.errSyntax", "loop.example/g01345/impl.errNotFound"], ifaces := true, apart := false, laid := [("loop.example/g01345/impl.errInvalid", laid_loop_example_g01345_impl_errInvalid), ("loop.example/g01345/impl.errRange", laid_loop_example_g01345_impl_errRange), ("loop.example/g01345/impl.errLimit", laid_loop_example_g01345_impl_errLimit), ("loop.example/g01345/impl.errState", laid_loop_example_g01345_impl_errState), ("loop.example/g01345/impl.errSyntax", laid_loop_example_g01345_impl_errSyntax), ("loop.example/g01345/impl.errNotFound", laid_loop_example_g01345_impl_errNotFound)], narrowed := true }
def FnExactHurdlesOfUptoSaid : Prop := fnExactHurdlesOfUptoRow.holds Tryd.pinned (OpenSpec.upto fnExactHurdlesOfSpec)

end Rows
end Go.Proofs.YtflobpbfpkoghaaDoor
