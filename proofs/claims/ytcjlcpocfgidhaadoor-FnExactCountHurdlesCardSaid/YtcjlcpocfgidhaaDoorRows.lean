/-
  NARROWER THAN 'FOR EVERY INPUT', by the rows' own cells (each row's printed sentence says how): FnExactPlainPasture: ifaces, laid · FnExactGrassAt: ifaces, laid · FnExactWithGrass: ifaces, laid · FnExactHasHurdle: ifaces, laid · FnExactSetHurdle: ifaces, laid · FnExactCountHurdles: ifaces, laid · FnExactGrassIn: ifaces, laid · FnExactGrassOf: ifaces, laid · FnExactMirrorPasture: ifaces, laid · FnExactTurnPasture: ifaces, laid · FnExactBareCells: ifaces, laid · FnExactNeedOf: ifaces, laid.
  DERIVED. THE GIVEN ROWS OF THIS SEAT. 12 by the template 'for every input the law returns true; each argument reads behind the call as it read before'; 0 by the template 'total and deterministic' (their statements: YtcjlcpocfgidhaaDoorTotals.lean).
  GIVEN WITH THE SEED: the statements are not yours to turn. If you find one false, say at which input.
  Laid BY PROGRAM, IN A SANDBOX (cutbox-rows.mjs): the forced cells as the released guide's own fill.sh prints them over the translation 640ab4fec77e1b01… (all of the seat's roots in one cut). By AI agents, Wed Nov 11 2026. No macro, syntax, notation, axiom, sorry.
-/
import Derived.Test.YtcjlcpocfgidhaaDoorChecked
import GoSem.Claim
import GoSem.ClaimJoined
import GoSem.ClaimMapViews
import Derived.JoinedTies
import Derived.KernelRfl
namespace Go.Proofs.YtcjlcpocfgidhaaDoor
/- THE CELL 'sum', in the pinned program and in every row, IS THE sha256 OF THE DUMP (.gsa) THAT YtcjlcpocfgidhaaDoorProg.lean LOADS. Nothing in Lean hashes anything: it is a label: what it is worth is what the hold of that sum in a sandbox is worth. -/
noncomputable def Tryd.pinned : Pinned := { name := "ytcjlcpocfgidhaadoor", sum := "640ab4fec77e1b019038e29b18efd268586eafcf42d397e94927efeb2c83191d", checked := Tryd.checked }
namespace Rows
def none {H : Type} : Left H := { results := [], args := [] }

/- WHAT THE LISTED PACKAGE-LEVEL VARIABLES READ AS WHEN THE CALL BEGINS. Each datum BY PROGRAM (the guide's laid-datum.mjs) off the statement by which the dump's own 'gosem.cut.vars' lays the variable. In a bare row this is a premise. The card (YtcjlcpocfgidhaaDoorCards.lean) ties it to the program's text. -/
def laid_loop_example_g01345_impl_errInvalid {H : Type} : DataW H := .iface "*errors.errorString" (.ptr (.agg [.lit (.string [105, 110, 118, 97, 108, 105, 100])]))
def laid_loop_example_g01345_impl_errRange {H : Type} : DataW H := .iface "*errors.errorString" (.ptr (.agg [.lit (.string [114, 97, 110, 103, 101])]))
def laid_loop_example_g01345_impl_errState {H : Type} : DataW H := .iface "*errors.errorString" (.ptr (.agg [.lit (.string [115, 116, 97, 116, 101])]))
def laid_loop_example_g01345_impl_errSyntax {H : Type} : DataW H := .iface "*errors.errorString" (.ptr (.agg [.lit (.string [115, 121, 110, 116, 97, 120])]))
def laid_loop_example_g01345_impl_errNotFound {H : Type} : DataW H := .iface "*errors.errorString" (.ptr (.agg [.lit (.string [110, 111, 116, 32, 102, 111, 117, 110, 100])]))

/-- 'laws.FnExactPlainPasture': WHATEVER THE INPUT: true; the input reads as it did. -/
def fnExactPlainPastureSpec : ChangeSpec := { name := "fnExactPlainPasture", vars := ["loop.example/g01345/impl.errRange", "loop.example/g01345/impl.errInvalid", "loop.example/g01345/impl.errState", "loop.example/g01345/impl.errSyntax", "loop.example/g01345/impl.errNotFound"], fn := fun _ => fun
  | [d1, d2, d3, g1, g2, g3, g4, g5] => { results := [.lit (.bool true)], args := [d1, d2, d3], vars := [g1, g2, g3, g4, g5] }
  | _ => none }
def fnExactPlainPastureRow : OpenClaim := { program := "ytcjlcpocfgidhaadoor", sum := "640ab4fec77e1b019038e29b18efd268586eafcf42d397e94927efeb2c83191d", func := "loop.example/g01345/laws.FnExactPlainPasture", spec := "fnExactPlainPasture", inPlace := ["internal/reflectlite.TypeOf"], unfollowed := true, recurses := true, named := ["loop.example/g01345/impl.errRange", "loop.example/g01345/impl.errInvalid", "loop.example/g01345/impl.errState", "loop.example/g01345/impl.errSyntax", "loop.example/g01345/impl.errNotFound"], ifaces := true, apart := false, laid := [("loop.example/g01345/impl.errInvalid", laid_loop_example_g01345_impl_errInvalid), ("loop.example/g01345/impl.errRange", laid_loop_example_g01345_impl_errRange), ("loop.example/g01345/impl.errState", laid_loop_example_g01345_impl_errState), ("loop.example/g01345/impl.errSyntax", laid_loop_example_g01345_impl_errSyntax), ("loop.example/g01345/impl.errNotFound", laid_loop_example_g01345_impl_errNotFound)] }
def FnExactPlainPastureSaid : Prop := fnExactPlainPastureRow.holds Tryd.pinned (OpenSpec.ofChange fnExactPlainPastureSpec)

/-- ITS FALSE NEIGHBOUR: 'it returns false'. Refute it at one input. -/
def fnExactPlainPastureWrong : ChangeSpec := { name := "fnExactPlainPasture", vars := ["loop.example/g01345/impl.errRange", "loop.example/g01345/impl.errInvalid", "loop.example/g01345/impl.errState", "loop.example/g01345/impl.errSyntax", "loop.example/g01345/impl.errNotFound"], fn := fun _ => fun
  | [d1, d2, d3, g1, g2, g3, g4, g5] => { results := [.lit (.bool false)], args := [d1, d2, d3], vars := [g1, g2, g3, g4, g5] }
  | _ => none }
def FnExactPlainPastureWrongFalsely : Prop := fnExactPlainPastureRow.holds Tryd.pinned (OpenSpec.ofChange fnExactPlainPastureWrong)

/-- 'laws.FnExactGrassAt': WHATEVER THE INPUT: true; the input reads as it did. -/
def fnExactGrassAtSpec : ChangeSpec := { name := "fnExactGrassAt", vars := ["loop.example/g01345/impl.errInvalid", "loop.example/g01345/impl.errRange", "loop.example/g01345/impl.errState", "loop.example/g01345/impl.errSyntax", "loop.example/g01345/impl.errNotFound"], fn := fun _ => fun
  | [d1, d2, g1, g2, g3, g4, g5] => { results := [.lit (.bool true)], args := [d1, d2], vars := [g1, g2, g3, g4, g5] }
  | _ => none }
def fnExactGrassAtRow : OpenClaim := { program := "ytcjlcpocfgidhaadoor", sum := "640ab4fec77e1b019038e29b18efd268586eafcf42d397e94927efeb2c83191d", func := "loop.example/g01345/laws.FnExactGrassAt", spec := "fnExactGrassAt", inPlace := ["internal/reflectlite.TypeOf"], unfollowed := true, recurses := true, named := ["loop.example/g01345/impl.errInvalid", "loop.example/g01345/impl.errRange", "loop.example/g01345/impl.errState", "loop.example/g01345/impl.errSyntax", "loop.example/g01345/impl.errNotFound"], ifaces := true, apart := false, laid := [("loop.example/g01345/impl.errInvalid", laid_loop_example_g01345_impl_errInvalid), ("loop.example/g01345/impl.errRange", laid_loop_example_g01345_impl_errRange), ("loop.example/g01345/impl.errState", laid_loop_example_g01345_impl_errState), ("loop.example/g01345/impl.errSyntax", laid_loop_example_g01345_impl_errSyntax), ("loop.example/g01345/impl.errNotFound", laid_loop_example_g01345_impl_errNotFound)] }
def FnExactGrassAtSaid : Prop := fnExactGrassAtRow.holds Tryd.pinned (OpenSpec.ofChange fnExactGrassAtSpec)

/-- ITS FALSE NEIGHBOUR: 'it returns false'. Refute it at one input. -/
def fnExactGrassAtWrong : ChangeSpec := { name := "fnExactGrassAt", vars := ["loop.example/g01345/impl.errInvalid", "loop.example/g01345/impl.errRange", "loop.example/g01345/impl.errState", "loop.example/g01345/impl.errSyntax", "loop.example/g01345/impl.errNotFound"], fn := fun _ => fun
  | [d1, d2, g1, g2, g3, g4, g5] => { results := [.lit (.bool false)], args := [d1, d2], vars := [g1, g2, g3, g4, g5] }
  | _ => none }
def FnExactGrassAtWrongFalsely : Prop := fnExactGrassAtRow.holds Tryd.pinned (OpenSpec.ofChange fnExactGrassAtWrong)

/-- 'laws.FnExactWithGrass': WHATEVER THE INPUT: true; the input reads as it did. -/
def fnExactWithGrassSpec : ChangeSpec := { name := "fnExactWithGrass", vars := ["loop.example/g01345/impl.errInvalid", "loop.example/g01345/impl.errRange", "loop.example/g01345/impl.errState", "loop.example/g01345/impl.errSyntax", "loop.example/g01345/impl.errNotFound"], fn := fun _ => fun
  | [d1, d2, d3, g1, g2, g3, g4, g5] => { results := [.lit (.bool true)], args := [d1, d2, d3], vars := [g1, g2, g3, g4, g5] }
  | _ => none }
def fnExactWithGrassRow : OpenClaim := { program := "ytcjlcpocfgidhaadoor", sum := "640ab4fec77e1b019038e29b18efd268586eafcf42d397e94927efeb2c83191d", func := "loop.example/g01345/laws.FnExactWithGrass", spec := "fnExactWithGrass", inPlace := ["internal/reflectlite.TypeOf"], unfollowed := true, recurses := true, named := ["loop.example/g01345/impl.errInvalid", "loop.example/g01345/impl.errRange", "loop.example/g01345/impl.errState", "loop.example/g01345/impl.errSyntax", "loop.example/g01345/impl.errNotFound"], ifaces := true, apart := false, laid := [("loop.example/g01345/impl.errInvalid", laid_loop_example_g01345_impl_errInvalid), ("loop.example/g01345/impl.errRange", laid_loop_example_g01345_impl_errRange), ("loop.example/g01345/impl.errState", laid_loop_example_g01345_impl_errState), ("loop.example/g01345/impl.errSyntax", laid_loop_example_g01345_impl_errSyntax), ("loop.example/g01345/impl.errNotFound", laid_loop_example_g01345_impl_errNotFound)] }
def FnExactWithGrassSaid : Prop := fnExactWithGrassRow.holds Tryd.pinned (OpenSpec.ofChange fnExactWithGrassSpec)

/-- ITS FALSE NEIGHBOUR: 'it returns false'. Refute it at one input. -/
def fnExactWithGrassWrong : ChangeSpec := { name := "fnExactWithGrass", vars := ["loop.example/g01345/impl.errInvalid", "loop.example/g01345/impl.errRange", "loop.example/g01345/impl.errState", "loop.example/g01345/impl.errSyntax", "loop.example/g01345/impl.errNotFound"], fn := fun _ => fun
  | [d1, d2, d3, g1, g2, g3, g4, g5] => { results := [.lit (.bool false)], args := [d1, d2, d3], vars := [g1, g2, g3, g4, g5] }
  | _ => none }
def FnExactWithGrassWrongFalsely : Prop := fnExactWithGrassRow.holds Tryd.pinned (OpenSpec.ofChange fnExactWithGrassWrong)

/-- 'laws.FnExactHasHurdle': WHATEVER THE INPUT: true; the input reads as it did. -/
def fnExactHasHurdleSpec : ChangeSpec := { name := "fnExactHasHurdle", vars := ["loop.example/g01345/impl.errRange", "loop.example/g01345/impl.errInvalid", "loop.example/g01345/impl.errState", "loop.example/g01345/impl.errSyntax", "loop.example/g01345/impl.errNotFound"], fn := fun _ => fun
  | [d1, d2, d3, g1, g2, g3, g4, g5] => { results := [.lit (.bool true)], args := [d1, d2, d3], vars := [g1, g2, g3, g4, g5] }
  | _ => none }
def fnExactHasHurdleRow : OpenClaim := { program := "ytcjlcpocfgidhaadoor", sum := "640ab4fec77e1b019038e29b18efd268586eafcf42d397e94927efeb2c83191d", func := "loop.example/g01345/laws.FnExactHasHurdle", spec := "fnExactHasHurdle", inPlace := ["internal/reflectlite.TypeOf"], unfollowed := true, recurses := true, named := ["loop.example/g01345/impl.errRange", "loop.example/g01345/impl.errInvalid", "loop.example/g01345/impl.errState", "loop.example/g01345/impl.errSyntax", "loop.example/g01345/impl.errNotFound"], ifaces := true, apart := false, laid := [("loop.example/g01345/impl.errInvalid", laid_loop_example_g01345_impl_errInvalid), ("loop.example/g01345/impl.errRange", laid_loop_example_g01345_impl_errRange), ("loop.example/g01345/impl.errState", laid_loop_example_g01345_impl_errState), ("loop.example/g01345/impl.errSyntax", laid_loop_example_g01345_impl_errSyntax), ("loop.example/g01345/impl.errNotFound", laid_loop_example_g01345_impl_errNotFound)] }
def FnExactHasHurdleSaid : Prop := fnExactHasHurdleRow.holds Tryd.pinned (OpenSpec.ofChange fnExactHasHurdleSpec)

/-- ITS FALSE NEIGHBOUR: 'it returns false'. Refute it at one input. -/
def fnExactHasHurdleWrong : ChangeSpec := { name := "fnExactHasHurdle", vars := ["loop.example/g01345/impl.errRange", "loop.example/g01345/impl.errInvalid", "loop.example/g01345/impl.errState", "loop.example/g01345/impl.errSyntax", "loop.example/g01345/impl.errNotFound"], fn := fun _ => fun
  | [d1, d2, d3, g1, g2, g3, g4, g5] => { results := [.lit (.bool false)], args := [d1, d2, d3], vars := [g1, g2, g3, g4, g5] }
  | _ => none }
def FnExactHasHurdleWrongFalsely : Prop := fnExactHasHurdleRow.holds Tryd.pinned (OpenSpec.ofChange fnExactHasHurdleWrong)

/-- 'laws.FnExactSetHurdle': WHATEVER THE INPUT: true; the input reads as it did. -/
def fnExactSetHurdleSpec : ChangeSpec := { name := "fnExactSetHurdle", vars := ["loop.example/g01345/impl.errState", "loop.example/g01345/impl.errRange", "loop.example/g01345/impl.errInvalid", "loop.example/g01345/impl.errSyntax", "loop.example/g01345/impl.errNotFound"], fn := fun _ => fun
  | [d1, d2, d3, d4, g1, g2, g3, g4, g5] => { results := [.lit (.bool true)], args := [d1, d2, d3, d4], vars := [g1, g2, g3, g4, g5] }
  | _ => none }
def fnExactSetHurdleRow : OpenClaim := { program := "ytcjlcpocfgidhaadoor", sum := "640ab4fec77e1b019038e29b18efd268586eafcf42d397e94927efeb2c83191d", func := "loop.example/g01345/laws.FnExactSetHurdle", spec := "fnExactSetHurdle", inPlace := ["internal/reflectlite.TypeOf"], unfollowed := true, recurses := true, named := ["loop.example/g01345/impl.errState", "loop.example/g01345/impl.errRange", "loop.example/g01345/impl.errInvalid", "loop.example/g01345/impl.errSyntax", "loop.example/g01345/impl.errNotFound"], ifaces := true, apart := false, laid := [("loop.example/g01345/impl.errInvalid", laid_loop_example_g01345_impl_errInvalid), ("loop.example/g01345/impl.errRange", laid_loop_example_g01345_impl_errRange), ("loop.example/g01345/impl.errState", laid_loop_example_g01345_impl_errState), ("loop.example/g01345/impl.errSyntax", laid_loop_example_g01345_impl_errSyntax), ("loop.example/g01345/impl.errNotFound", laid_loop_example_g01345_impl_errNotFound)] }
def FnExactSetHurdleSaid : Prop := fnExactSetHurdleRow.holds Tryd.pinned (OpenSpec.ofChange fnExactSetHurdleSpec)

/-- ITS FALSE NEIGHBOUR: 'it returns false'. Refute it at one input. -/
def fnExactSetHurdleWrong : ChangeSpec := { name := "fnExactSetHurdle", vars := ["loop.example/g01345/impl.errState", "loop.example/g01345/impl.errRange", "loop.example/g01345/impl.errInvalid", "loop.example/g01345/impl.errSyntax", "loop.example/g01345/impl.errNotFound"], fn := fun _ => fun
  | [d1, d2, d3, d4, g1, g2, g3, g4, g5] => { results := [.lit (.bool false)], args := [d1, d2, d3, d4], vars := [g1, g2, g3, g4, g5] }
  | _ => none }
def FnExactSetHurdleWrongFalsely : Prop := fnExactSetHurdleRow.holds Tryd.pinned (OpenSpec.ofChange fnExactSetHurdleWrong)

/-- 'laws.FnExactCountHurdles': WHATEVER THE INPUT: true; the input reads as it did. -/
def fnExactCountHurdlesSpec : ChangeSpec := { name := "fnExactCountHurdles", vars := ["loop.example/g01345/impl.errInvalid", "loop.example/g01345/impl.errRange", "loop.example/g01345/impl.errState", "loop.example/g01345/impl.errSyntax", "loop.example/g01345/impl.errNotFound"], fn := fun _ => fun
  | [d, g1, g2, g3, g4, g5] => { results := [.lit (.bool true)], args := [d], vars := [g1, g2, g3, g4, g5] }
  | _ => none }
def fnExactCountHurdlesRow : OpenClaim := { program := "ytcjlcpocfgidhaadoor", sum := "640ab4fec77e1b019038e29b18efd268586eafcf42d397e94927efeb2c83191d", func := "loop.example/g01345/laws.FnExactCountHurdles", spec := "fnExactCountHurdles", inPlace := ["internal/reflectlite.TypeOf"], unfollowed := true, recurses := true, named := ["loop.example/g01345/impl.errInvalid", "loop.example/g01345/impl.errRange", "loop.example/g01345/impl.errState", "loop.example/g01345/impl.errSyntax", "loop.example/g01345/impl.errNotFound"], ifaces := true, apart := false, laid := [("loop.example/g01345/impl.errInvalid", laid_loop_example_g01345_impl_errInvalid), ("loop.example/g01345/impl.errRange", laid_loop_example_g01345_impl_errRange), ("loop.example/g01345/impl.errState", laid_loop_example_g01345_impl_errState), ("loop.example/g01345/impl.errSyntax", laid_loop_example_g01345_impl_errSyntax), ("loop.example/g01345/impl.errNotFound", laid_loop_example_g01345_impl_errNotFound)] }
def FnExactCountHurdlesSaid : Prop := fnExactCountHurdlesRow.holds Tryd.pinned (OpenSpec.ofChange fnExactCountHurdlesSpec)

/-- ITS FALSE NEIGHBOUR: 'it returns false'. Refute it at one input. -/
def fnExactCountHurdlesWrong : ChangeSpec := { name := "fnExactCountHurdles", vars := ["loop.example/g01345/impl.errInvalid", "loop.example/g01345/impl.errRange", "loop.example/g01345/impl.errState", "loop.example/g01345/impl.errSyntax", "loop.example/g01345/impl.errNotFound"], fn := fun _ => fun
  | [d, g1, g2, g3, g4, g5] => { results := [.lit (.bool false)], args := [d], vars := [g1, g2, g3, g4, g5] }
  | _ => none }
def FnExactCountHurdlesWrongFalsely : Prop := fnExactCountHurdlesRow.holds Tryd.pinned (OpenSpec.ofChange fnExactCountHurdlesWrong)

/-- 'laws.FnExactGrassIn': WHATEVER THE INPUT: true; the input reads as it did. -/
def fnExactGrassInSpec : ChangeSpec := { name := "fnExactGrassIn", vars := ["loop.example/g01345/impl.errInvalid", "loop.example/g01345/impl.errRange", "loop.example/g01345/impl.errState", "loop.example/g01345/impl.errSyntax", "loop.example/g01345/impl.errNotFound"], fn := fun _ => fun
  | [d, g1, g2, g3, g4, g5] => { results := [.lit (.bool true)], args := [d], vars := [g1, g2, g3, g4, g5] }
  | _ => none }
def fnExactGrassInRow : OpenClaim := { program := "ytcjlcpocfgidhaadoor", sum := "640ab4fec77e1b019038e29b18efd268586eafcf42d397e94927efeb2c83191d", func := "loop.example/g01345/laws.FnExactGrassIn", spec := "fnExactGrassIn", inPlace := ["internal/reflectlite.TypeOf"], unfollowed := true, recurses := true, named := ["loop.example/g01345/impl.errInvalid", "loop.example/g01345/impl.errRange", "loop.example/g01345/impl.errState", "loop.example/g01345/impl.errSyntax", "loop.example/g01345/impl.errNotFound"], ifaces := true, apart := false, laid := [("loop.example/g01345/impl.errInvalid", laid_loop_example_g01345_impl_errInvalid), ("loop.example/g01345/impl.errRange", laid_loop_example_g01345_impl_errRange), ("loop.example/g01345/impl.errState", laid_loop_example_g01345_impl_errState), ("loop.example/g01345/impl.errSyntax", laid_loop_example_g01345_impl_errSyntax), ("loop.example/g01345/impl.errNotFound", laid_loop_example_g01345_impl_errNotFound)] }
def FnExactGrassInSaid : Prop := fnExactGrassInRow.holds Tryd.pinned (OpenSpec.ofChange fnExactGrassInSpec)

/-- ITS FALSE NEIGHBOUR: 'it returns false'. Refute it at one input. -/
def fnExactGrassInWrong : ChangeSpec := { name := "fnExactGrassIn", vars := ["loop.example/g01345/impl.errInvalid", "loop.example/g01345/impl.errRange", "loop.example/g01345/impl.errState", "loop.example/g01345/impl.errSyntax", "loop.example/g01345/impl.errNotFound"], fn := fun _ => fun
  | [d, g1, g2, g3, g4, g5] => { results := [.lit (.bool false)], args := [d], vars := [g1, g2, g3, g4, g5] }
  | _ => none }
def FnExactGrassInWrongFalsely : Prop := fnExactGrassInRow.holds Tryd.pinned (OpenSpec.ofChange fnExactGrassInWrong)

/-- 'laws.FnExactGrassOf': WHATEVER THE INPUT: true; the input reads as it did. -/
def fnExactGrassOfSpec : ChangeSpec := { name := "fnExactGrassOf", vars := ["loop.example/g01345/impl.errInvalid", "loop.example/g01345/impl.errRange", "loop.example/g01345/impl.errState", "loop.example/g01345/impl.errSyntax", "loop.example/g01345/impl.errNotFound"], fn := fun _ => fun
  | [d1, d2, g1, g2, g3, g4, g5] => { results := [.lit (.bool true)], args := [d1, d2], vars := [g1, g2, g3, g4, g5] }
  | _ => none }
def fnExactGrassOfRow : OpenClaim := { program := "ytcjlcpocfgidhaadoor", sum := "640ab4fec77e1b019038e29b18efd268586eafcf42d397e94927efeb2c83191d", func := "loop.example/g01345/laws.FnExactGrassOf", spec := "fnExactGrassOf", inPlace := ["internal/reflectlite.TypeOf"], unfollowed := true, recurses := true, named := ["loop.example/g01345/impl.errInvalid", "loop.example/g01345/impl.errRange", "loop.example/g01345/impl.errState", "loop.example/g01345/impl.errSyntax", "loop.example/g01345/impl.errNotFound"], ifaces := true, apart := false, laid := [("loop.example/g01345/impl.errInvalid", laid_loop_example_g01345_impl_errInvalid), ("loop.example/g01345/impl.errRange", laid_loop_example_g01345_impl_errRange), ("loop.example/g01345/impl.errState", laid_loop_example_g01345_impl_errState), ("loop.example/g01345/impl.errSyntax", laid_loop_example_g01345_impl_errSyntax), ("loop.example/g01345/impl.errNotFound", laid_loop_example_g01345_impl_errNotFound)] }
def FnExactGrassOfSaid : Prop := fnExactGrassOfRow.holds Tryd.pinned (OpenSpec.ofChange fnExactGrassOfSpec)

/-- ITS FALSE NEIGHBOUR: 'it returns false'. Refute it at one input. -/
def fnExactGrassOfWrong : ChangeSpec := { name := "fnExactGrassOf", vars := ["loop.example/g01345/impl.errInvalid", "loop.example/g01345/impl.errRange", "loop.example/g01345/impl.errState", "loop.example/g01345/impl.errSyntax", "loop.example/g01345/impl.errNotFound"], fn := fun _ => fun
  | [d1, d2, g1, g2, g3, g4, g5] => { results := [.lit (.bool false)], args := [d1, d2], vars := [g1, g2, g3, g4, g5] }
  | _ => none }
def FnExactGrassOfWrongFalsely : Prop := fnExactGrassOfRow.holds Tryd.pinned (OpenSpec.ofChange fnExactGrassOfWrong)

/-- 'laws.FnExactMirrorPasture': WHATEVER THE INPUT: true; the input reads as it did. -/
def fnExactMirrorPastureSpec : ChangeSpec := { name := "fnExactMirrorPasture", vars := ["loop.example/g01345/impl.errInvalid", "loop.example/g01345/impl.errRange", "loop.example/g01345/impl.errState", "loop.example/g01345/impl.errSyntax", "loop.example/g01345/impl.errNotFound"], fn := fun _ => fun
  | [d, g1, g2, g3, g4, g5] => { results := [.lit (.bool true)], args := [d], vars := [g1, g2, g3, g4, g5] }
  | _ => none }
def fnExactMirrorPastureRow : OpenClaim := { program := "ytcjlcpocfgidhaadoor", sum := "640ab4fec77e1b019038e29b18efd268586eafcf42d397e94927efeb2c83191d", func := "loop.example/g01345/laws.FnExactMirrorPasture", spec := "fnExactMirrorPasture", inPlace := ["internal/reflectlite.TypeOf"], unfollowed := true, recurses := true, named := ["loop.example/g01345/impl.errInvalid", "loop.example/g01345/impl.errRange", "loop.example/g01345/impl.errState", "loop.example/g01345/impl.errSyntax", "loop.example/g01345/impl.errNotFound"], ifaces := true, apart := false, laid := [("loop.example/g01345/impl.errInvalid", laid_loop_example_g01345_impl_errInvalid), ("loop.example/g01345/impl.errRange", laid_loop_example_g01345_impl_errRange), ("loop.example/g01345/impl.errState", laid_loop_example_g01345_impl_errState), ("loop.example/g01345/impl.errSyntax", laid_loop_example_g01345_impl_errSyntax), ("loop.example/g01345/impl.errNotFound", laid_loop_example_g01345_impl_errNotFound)] }
def FnExactMirrorPastureSaid : Prop := fnExactMirrorPastureRow.holds Tryd.pinned (OpenSpec.ofChange fnExactMirrorPastureSpec)

/-- ITS FALSE NEIGHBOUR: 'it returns false'. Refute it at one input. -/
def fnExactMirrorPastureWrong : ChangeSpec := { name := "fnExactMirrorPasture", vars := ["loop.example/g01345/impl.errInvalid", "loop.example/g01345/impl.errRange", "loop.example/g01345/impl.errState", "loop.example/g01345/impl.errSyntax", "loop.example/g01345/impl.errNotFound"], fn := fun _ => fun
  | [d, g1, g2, g3, g4, g5] => { results := [.lit (.bool false)], args := [d], vars := [g1, g2, g3, g4, g5] }
  | _ => none }
def FnExactMirrorPastureWrongFalsely : Prop := fnExactMirrorPastureRow.holds Tryd.pinned (OpenSpec.ofChange fnExactMirrorPastureWrong)

/-- 'laws.FnExactTurnPasture': WHATEVER THE INPUT: true; the input reads as it did. -/
def fnExactTurnPastureSpec : ChangeSpec := { name := "fnExactTurnPasture", vars := ["loop.example/g01345/impl.errInvalid", "loop.example/g01345/impl.errRange", "loop.example/g01345/impl.errState", "loop.example/g01345/impl.errSyntax", "loop.example/g01345/impl.errNotFound"], fn := fun _ => fun
  | [d, g1, g2, g3, g4, g5] => { results := [.lit (.bool true)], args := [d], vars := [g1, g2, g3, g4, g5] }
  | _ => none }
def fnExactTurnPastureRow : OpenClaim := { program := "ytcjlcpocfgidhaadoor", sum := "640ab4fec77e1b019038e29b18efd268586eafcf42d397e94927efeb2c83191d", func := "loop.example/g01345/laws.FnExactTurnPasture", spec := "fnExactTurnPasture", inPlace := ["internal/reflectlite.TypeOf"], unfollowed := true, recurses := true, named := ["loop.example/g01345/impl.errInvalid", "loop.example/g01345/impl.errRange", "loop.example/g01345/impl.errState", "loop.example/g01345/impl.errSyntax", "loop.example/g01345/impl.errNotFound"], ifaces := true, apart := false, laid := [("loop.example/g01345/impl.errInvalid", laid_loop_example_g01345_impl_errInvalid), ("loop.example/g01345/impl.errRange", laid_loop_example_g01345_impl_errRange), ("loop.example/g01345/impl.errState", laid_loop_example_g01345_impl_errState), ("loop.example/g01345/impl.errSyntax", laid_loop_example_g01345_impl_errSyntax), ("loop.example/g01345/impl.errNotFound", laid_loop_example_g01345_impl_errNotFound)] }
def FnExactTurnPastureSaid : Prop := fnExactTurnPastureRow.holds Tryd.pinned (OpenSpec.ofChange fnExactTurnPastureSpec)

/-- ITS FALSE NEIGHBOUR: 'it returns false'. Refute it at one input. -/
def fnExactTurnPastureWrong : ChangeSpec := { name := "fnExactTurnPasture", vars := ["loop.example/g01345/impl.errInvalid", "loop.example/g01345/impl.errRange", "loop.example/g01345/impl.errState", "loop.example/g01345/impl.errSyntax", "loop.example/g01345/impl.errNotFound"], fn := fun _ => fun
  | [d, g1, g2, g3, g4, g5] => { results := [.lit (.bool false)], args := [d], vars := [g1, g2, g3, g4, g5] }
  | _ => none }
def FnExactTurnPastureWrongFalsely : Prop := fnExactTurnPastureRow.holds Tryd.pinned (OpenSpec.ofChange fnExactTurnPastureWrong)

/-- 'laws.FnExactBareCells': WHATEVER THE INPUT: true; the input reads as it did. -/
def fnExactBareCellsSpec : ChangeSpec := { name := "fnExactBareCells", vars := ["loop.example/g01345/impl.errInvalid", "loop.example/g01345/impl.errRange", "loop.example/g01345/impl.errState", "loop.example/g01345/impl.errSyntax", "loop.example/g01345/impl.errNotFound"], fn := fun _ => fun
  | [d, g1, g2, g3, g4, g5] => { results := [.lit (.bool true)], args := [d], vars := [g1, g2, g3, g4, g5] }
  | _ => none }
def fnExactBareCellsRow : OpenClaim := { program := "ytcjlcpocfgidhaadoor", sum := "640ab4fec77e1b019038e29b18efd268586eafcf42d397e94927efeb2c83191d", func := "loop.example/g01345/laws.FnExactBareCells", spec := "fnExactBareCells", inPlace := ["internal/reflectlite.TypeOf"], unfollowed := true, recurses := true, named := ["loop.example/g01345/impl.errInvalid", "loop.example/g01345/impl.errRange", "loop.example/g01345/impl.errState", "loop.example/g01345/impl.errSyntax", "loop.example/g01345/impl.errNotFound"], ifaces := true, apart := false, laid := [("loop.example/g01345/impl.errInvalid", laid_loop_example_g01345_impl_errInvalid), ("loop.example/g01345/impl.errRange", laid_loop_example_g01345_impl_errRange), ("loop.example/g01345/impl.errState", laid_loop_example_g01345_impl_errState), ("loop.example/g01345/impl.errSyntax", laid_loop_example_g01345_impl_errSyntax), ("loop.example/g01345/impl.errNotFound", laid_loop_example_g01345_impl_errNotFound)] }
def FnExactBareCellsSaid : Prop := fnExactBareCellsRow.holds Tryd.pinned (OpenSpec.ofChange fnExactBareCellsSpec)

/-- ITS FALSE NEIGHBOUR: 'it returns false'. Refute it at one input. -/
def fnExactBareCellsWrong : ChangeSpec := { name := "fnExactBareCells", vars := ["loop.example/g01345/impl.errInvalid", "loop.example/g01345/impl.errRange", "loop.example/g01345/impl.errState", "loop.example/g01345/impl.errSyntax", "loop.example/g01345/impl.errNotFound"], fn := fun _ => fun
  | [d, g1, g2, g3, g4, g5] => { results := [.lit (.bool false)], args := [d], vars := [g1, g2, g3, g4, g5] }
  | _ => none }
def FnExactBareCellsWrongFalsely : Prop := fnExactBareCellsRow.holds Tryd.pinned (OpenSpec.ofChange fnExactBareCellsWrong)

/-- 'laws.FnExactNeedOf': WHATEVER THE INPUT: true; the input reads as it did. -/
def fnExactNeedOfSpec : ChangeSpec := { name := "fnExactNeedOf", vars := ["loop.example/g01345/impl.errInvalid", "loop.example/g01345/impl.errRange", "loop.example/g01345/impl.errState", "loop.example/g01345/impl.errSyntax", "loop.example/g01345/impl.errNotFound"], fn := fun _ => fun
  | [d1, d2, g1, g2, g3, g4, g5] => { results := [.lit (.bool true)], args := [d1, d2], vars := [g1, g2, g3, g4, g5] }
  | _ => none }
def fnExactNeedOfRow : OpenClaim := { program := "ytcjlcpocfgidhaadoor", sum := "640ab4fec77e1b019038e29b18efd268586eafcf42d397e94927efeb2c83191d", func := "loop.example/g01345/laws.FnExactNeedOf", spec := "fnExactNeedOf", inPlace := ["internal/reflectlite.TypeOf"], unfollowed := true, recurses := true, named := ["loop.example/g01345/impl.errInvalid", "loop.example/g01345/impl.errRange", "loop.example/g01345/impl.errState", "loop.example/g01345/impl.errSyntax", "loop.example/g01345/impl.errNotFound"], ifaces := true, apart := false, laid := [("loop.example/g01345/impl.errInvalid", laid_loop_example_g01345_impl_errInvalid), ("loop.example/g01345/impl.errRange", laid_loop_example_g01345_impl_errRange), ("loop.example/g01345/impl.errState", laid_loop_example_g01345_impl_errState), ("loop.example/g01345/impl.errSyntax", laid_loop_example_g01345_impl_errSyntax), ("loop.example/g01345/impl.errNotFound", laid_loop_example_g01345_impl_errNotFound)] }
def FnExactNeedOfSaid : Prop := fnExactNeedOfRow.holds Tryd.pinned (OpenSpec.ofChange fnExactNeedOfSpec)

/-- ITS FALSE NEIGHBOUR: 'it returns false'. Refute it at one input. -/
def fnExactNeedOfWrong : ChangeSpec := { name := "fnExactNeedOf", vars := ["loop.example/g01345/impl.errInvalid", "loop.example/g01345/impl.errRange", "loop.example/g01345/impl.errState", "loop.example/g01345/impl.errSyntax", "loop.example/g01345/impl.errNotFound"], fn := fun _ => fun
  | [d1, d2, g1, g2, g3, g4, g5] => { results := [.lit (.bool false)], args := [d1, d2], vars := [g1, g2, g3, g4, g5] }
  | _ => none }
def FnExactNeedOfWrongFalsely : Prop := fnExactNeedOfRow.holds Tryd.pinned (OpenSpec.ofChange fnExactNeedOfWrong)

/- THE SECOND FORM. 'bulk': how many values and letters a reading holds, each counted each time it is reached (what is shared counts as often as it is met; a slice's spare places count too). A statement '..UptoSaid' is the law's where the arguments, and the package variables that the reading takes, are together of bulk at most 1048576: NARROWER than '..Said'. Prove '..Said' where nothing that the law and all that it calls make is longer than what came in: it says more and counts as full. Else prove '..UptoSaid'. A law counts once. -/
mutual
def uptoBulk {H : Type} : DataW H → Nat
  | .lit (.string bytes) => bytes.length + 1
  | .lit _ => 1
  | .nil => 1
  | .ptr d => uptoBulk d + 1
  | .slice elems spare => uptoBulkAll elems + uptoBulkAll spare + 1
  | .agg parts => uptoBulkAll parts + 1
  | .iface _ d => uptoBulk d + 1
  | .map entries => uptoBulkEntries entries + 1
  | .held _ => 1
def uptoBulkAll {H : Type} : List (DataW H) → Nat
  | [] => 0
  | d :: r => uptoBulk d + uptoBulkAll r
def uptoBulkEntries {H : Type} : List (Lit × DataW H) → Nat
  | [] => 0
  | x :: r => uptoBulkEntry x + uptoBulkEntries r
def uptoBulkEntry {H : Type} : Lit × DataW H → Nat
  | (.string bytes, d) => bytes.length + uptoBulk d + 1
  | (_, d) => uptoBulk d + 1
 end
def uptoSmall : (H : Type) → List (DataW H) → Bool := fun _ ds => decide (uptoBulkAll ds ≤ 1048576)
def OpenSpec.upto (s : _root_.Go.ChangeSpec) : _root_.Go.OpenSpec := { _root_.Go.OpenSpec.ofChange s with cond := some uptoSmall }

/-- 'laws.FnExactPlainPasture', WHERE WHAT IT READS IS OF BULK AT MOST 1048576: true; the input reads as it did. -/
def fnExactPlainPastureUptoRow : OpenClaim := { program := "ytcjlcpocfgidhaadoor", sum := "640ab4fec77e1b019038e29b18efd268586eafcf42d397e94927efeb2c83191d", func := "loop.example/g01345/laws.FnExactPlainPasture", spec := "fnExactPlainPasture", inPlace := ["internal/reflectlite.TypeOf"], unfollowed := true, recurses := true, named := ["loop.example/g01345/impl.errRange", "loop.example/g01345/impl.errInvalid", "loop.example/g01345/impl.errState", "loop.example/g01345/impl.errSyntax", "loop.example/g01345/impl.errNotFound"], ifaces := true, apart := false, laid := [("loop.example/g01345/impl.errInvalid", laid_loop_example_g01345_impl_errInvalid), ("loop.example/g01345/impl.errRange", laid_loop_example_g01345_impl_errRange), ("loop.example/g01345/impl.errState", laid_loop_example_g01345_impl_errState), ("loop.example/g01345/impl.errSyntax", laid_loop_example_g01345_impl_errSyntax), ("loop.example/g01345/impl.errNotFound", laid_loop_example_g01345_impl_errNotFound)], narrowed := true }
def FnExactPlainPastureUptoSaid : Prop := fnExactPlainPastureUptoRow.holds Tryd.pinned (OpenSpec.upto fnExactPlainPastureSpec)

/-- 'laws.FnExactGrassAt', WHERE WHAT IT READS IS OF BULK AT MOST 1048576: true; the input reads as it did. -/
def fnExactGrassAtUptoRow : OpenClaim := { program := "ytcjlcpocfgidhaadoor", sum := "640ab4fec77e1b019038e29b18efd268586eafcf42d397e94927efeb2c83191d", func := "loop.example/g01345/laws.FnExactGrassAt", spec := "fnExactGrassAt", inPlace := ["internal/reflectlite.TypeOf"], unfollowed := true, recurses := true, named := ["loop.example/g01345/impl.errInvalid", "loop.example/g01345/impl.errRange", "loop.example/g01345/impl.errState", "loop.example/g01345/impl.errSyntax", "loop.example/g01345/impl.errNotFound"], ifaces := true, apart := false, laid := [("loop.example/g01345/impl.errInvalid", laid_loop_example_g01345_impl_errInvalid), ("loop.example/g01345/impl.errRange", laid_loop_example_g01345_impl_errRange), ("loop.example/g01345/impl.errState", laid_loop_example_g01345_impl_errState), ("loop.example/g01345/impl.errSyntax", laid_loop_example_g01345_impl_errSyntax), ("loop.example/g01345/impl.errNotFound", laid_loop_example_g01345_impl_errNotFound)], narrowed := true }
def FnExactGrassAtUptoSaid : Prop := fnExactGrassAtUptoRow.holds Tryd.pinned (OpenSpec.upto fnExactGrassAtSpec)

/-- 'laws.FnExactWithGrass', WHERE WHAT IT READS IS OF BULK AT MOST 1048576: true; the input reads as it did. -/
def fnExactWithGrassUptoRow : OpenClaim := { program := "ytcjlcpocfgidhaadoor", sum := "640ab4fec77e1b019038e29b18efd268586eafcf42d397e94927efeb2c83191d", func := "loop.example/g01345/laws.FnExactWithGrass", spec := "fnExactWithGrass", inPlace := ["internal/reflectlite.TypeOf"], unfollowed := true, recurses := true, named := ["loop.example/g01345/impl.errInvalid", "loop.example/g01345/impl.errRange", "loop.example/g01345/impl.errState", "loop.example/g01345/impl.errSyntax", "loop.example/g01345/impl.errNotFound"], ifaces := true, apart := false, laid := [("loop.example/g01345/impl.errInvalid", laid_loop_example_g01345_impl_errInvalid), ("loop.example/g01345/impl.errRange", laid_loop_example_g01345_impl_errRange), ("loop.example/g01345/impl.errState", laid_loop_example_g01345_impl_errState), ("loop.example/g01345/impl.errSyntax", laid_loop_example_g01345_impl_errSyntax), ("loop.example/g01345/impl.errNotFound", laid_loop_example_g01345_impl_errNotFound)], narrowed := true }
def FnExactWithGrassUptoSaid : Prop := fnExactWithGrassUptoRow.holds Tryd.pinned (OpenSpec.upto fnExactWithGrassSpec)

/-- 'laws.FnExactHasHurdle', WHERE WHAT IT READS IS OF BULK AT MOST 1048576: true; the input reads as it did. -/
def fnExactHasHurdleUptoRow : OpenClaim := { program := "ytcjlcpocfgidhaadoor", sum := "640ab4fec77e1b019038e29b18efd268586eafcf42d397e94927efeb2c83191d", func := "loop.example/g01345/laws.FnExactHasHurdle", spec := "fnExactHasHurdle", inPlace := ["internal/reflectlite.TypeOf"], unfollowed := true, recurses := true, named := ["loop.example/g01345/impl.errRange", "loop.example/g01345/impl.errInvalid", "loop.example/g01345/impl.errState", "loop.example/g01345/impl.errSyntax", "loop.example/g01345/impl.errNotFound"], ifaces := true, apart := false, laid := [("loop.example/g01345/impl.errInvalid", laid_loop_example_g01345_impl_errInvalid), ("loop.example/g01345/impl.errRange", laid_loop_example_g01345_impl_errRange), ("loop.example/g01345/impl.errState", laid_loop_example_g01345_impl_errState), ("loop.example/g01345/impl.errSyntax", laid_loop_example_g01345_impl_errSyntax), ("loop.example/g01345/impl.errNotFound", laid_loop_example_g01345_impl_errNotFound)], narrowed := true }
def FnExactHasHurdleUptoSaid : Prop := fnExactHasHurdleUptoRow.holds Tryd.pinned (OpenSpec.upto fnExactHasHurdleSpec)

/-- 'laws.FnExactSetHurdle', WHERE WHAT IT READS IS OF BULK AT MOST 1048576: true; the input reads as it did. -/
def fnExactSetHurdleUptoRow : OpenClaim := { program := "ytcjlcpocfgidhaadoor", sum := "640ab4fec77e1b019038e29b18efd268586eafcf42d397e94927efeb2c83191d", func := "loop.example/g01345/laws.FnExactSetHurdle", spec := "fnExactSetHurdle", inPlace := ["internal/reflectlite.TypeOf"], unfollowed := true, recurses := true, named := ["loop.example/g01345/impl.errState", "loop.example/g01345/impl.errRange", "loop.example/g01345/impl.errInvalid", "loop.example/g01345/impl.errSyntax", "loop.example/g01345/impl.errNotFound"], ifaces := true, apart := false, laid := [("loop.example/g01345/impl.errInvalid", laid_loop_example_g01345_impl_errInvalid), ("loop.example/g01345/impl.errRange", laid_loop_example_g01345_impl_errRange), ("loop.example/g01345/impl.errState", laid_loop_example_g01345_impl_errState), ("loop.example/g01345/impl.errSyntax", laid_loop_example_g01345_impl_errSyntax), ("loop.example/g01345/impl.errNotFound", laid_loop_example_g01345_impl_errNotFound)], narrowed := true }
def FnExactSetHurdleUptoSaid : Prop := fnExactSetHurdleUptoRow.holds Tryd.pinned (OpenSpec.upto fnExactSetHurdleSpec)

/-- 'laws.FnExactCountHurdles', WHERE WHAT IT READS IS OF BULK AT MOST 1048576: true; the input reads as it did. -/
def fnExactCountHurdlesUptoRow : OpenClaim := { program := "ytcjlcpocfgidhaadoor", sum := "640ab4fec77e1b019038e29b18efd268586eafcf42d397e94927efeb2c83191d", func := "loop.example/g01345/laws.FnExactCountHurdles", spec := "fnExactCountHurdles", inPlace := ["internal/reflectlite.TypeOf"], unfollowed := true, recurses := true, named := ["loop.example/g01345/impl.errInvalid", "loop.example/g01345/impl.errRange", "loop.example/g01345/impl.errState", "loop.example/g01345/impl.errSyntax", "loop.example/g01345/impl.errNotFound"], ifaces := true, apart := false, laid := [("loop.example/g01345/impl.errInvalid", laid_loop_example_g01345_impl_errInvalid), ("loop.example/g01345/impl.errRange", laid_loop_example_g01345_impl_errRange), ("loop.example/g01345/impl.errState", laid_loop_example_g01345_impl_errState), ("loop.example/g01345/impl.errSyntax", laid_loop_example_g01345_impl_errSyntax), ("loop.example/g01345/impl.errNotFound", laid_loop_example_g01345_impl_errNotFound)], narrowed := true }
def FnExactCountHurdlesUptoSaid : Prop := fnExactCountHurdlesUptoRow.holds Tryd.pinned (OpenSpec.upto fnExactCountHurdlesSpec)

/-- 'laws.FnExactGrassIn', WHERE WHAT IT READS IS OF BULK AT MOST 1048576: true; the input reads as it did. -/
def fnExactGrassInUptoRow : OpenClaim := { program := "ytcjlcpocfgidhaadoor", sum := "640ab4fec77e1b019038e29b18efd268586eafcf42d397e94927efeb2c83191d", func := "loop.example/g01345/laws.FnExactGrassIn", spec := "fnExactGrassIn", inPlace := ["internal/reflectlite.TypeOf"], unfollowed := true, recurses := true, named := ["loop.example/g01345/impl.errInvalid", "loop.example/g01345/impl.errRange", "loop.example/g01345/impl.errState", "loop.example/g01345/impl.errSyntax", "loop.example/g01345/impl.errNotFound"], ifaces := true, apart := false, laid := [("loop.example/g01345/impl.errInvalid", laid_loop_example_g01345_impl_errInvalid), ("loop.example/g01345/impl.errRange", laid_loop_example_g01345_impl_errRange), ("loop.example/g01345/impl.errState", laid_loop_example_g01345_impl_errState), ("loop.example/g01345/impl.errSyntax", laid_loop_example_g01345_impl_errSyntax), ("loop.example/g01345/impl.errNotFound", laid_loop_example_g01345_impl_errNotFound)], narrowed := true }
def FnExactGrassInUptoSaid : Prop := fnExactGrassInUptoRow.holds Tryd.pinned (OpenSpec.upto fnExactGrassInSpec)

/-- 'laws.FnExactGrassOf', WHERE WHAT IT READS IS OF BULK AT MOST 1048576: true; the input reads as it did. -/
def fnExactGrassOfUptoRow : OpenClaim := { program := "ytcjlcpocfgidhaadoor", sum := "640ab4fec77e1b019038e29b18efd268586eafcf42d397e94927efeb2c83191d", func := "loop.example/g01345/laws.FnExactGrassOf", spec := "fnExactGrassOf", inPlace := ["internal/reflectlite.TypeOf"], unfollowed := true, recurses := true, named := ["loop.example/g01345/impl.errInvalid", "loop.example/g01345/impl.errRange", "loop.example/g01345/impl.errState", "loop.example/g01345/impl.errSyntax", "loop.example/g01345/impl.errNotFound"], ifaces := true, apart := false, laid := [("loop.example/g01345/impl.errInvalid", laid_loop_example_g01345_impl_errInvalid), ("loop.example/g01345/impl.errRange", laid_loop_example_g01345_impl_errRange), ("loop.example/g01345/impl.errState", laid_loop_example_g01345_impl_errState), ("loop.example/g01345/impl.errSyntax", laid_loop_example_g01345_impl_errSyntax), ("loop.example/g01345/impl.errNotFound", laid_loop_example_g01345_impl_errNotFound)], narrowed := true }
def FnExactGrassOfUptoSaid : Prop := fnExactGrassOfUptoRow.holds Tryd.pinned (OpenSpec.upto fnExactGrassOfSpec)

/-- 'laws.FnExactMirrorPasture', WHERE WHAT IT READS IS OF BULK AT MOST 1048576: true; the input reads as it did. -/
def fnExactMirrorPastureUptoRow : OpenClaim := { program := "ytcjlcpocfgidhaadoor", sum := "640ab4fec77e1b019038e29b18efd268586eafcf42d397e94927efeb2c83191d", func := "loop.example/g01345/laws.FnExactMirrorPasture", spec := "fnExactMirrorPasture", inPlace := ["internal/reflectlite.TypeOf"], unfollowed := true, recurses := true, named := ["loop.example/g01345/impl.errInvalid", "loop.example/g01345/impl.errRange", "loop.example/g01345/impl.errState", "loop.example/g01345/impl.errSyntax", "loop.example/g01345/impl.errNotFound"], ifaces := true, apart := false, laid := [("loop.example/g01345/impl.errInvalid", laid_loop_example_g01345_impl_errInvalid), ("loop.example/g01345/impl.errRange", laid_loop_example_g01345_impl_errRange), ("loop.example/g01345/impl.errState", laid_loop_example_g01345_impl_errState), ("loop.example/g01345/impl.errSyntax", laid_loop_example_g01345_impl_errSyntax), ("loop.example/g01345/impl.errNotFound", laid_loop_example_g01345_impl_errNotFound)], narrowed := true }
def FnExactMirrorPastureUptoSaid : Prop := fnExactMirrorPastureUptoRow.holds Tryd.pinned (OpenSpec.upto fnExactMirrorPastureSpec)

/-- 'laws.FnExactTurnPasture', WHERE WHAT IT READS IS OF BULK AT MOST 1048576: true; the input reads as it did. -/
def fnExactTurnPastureUptoRow : OpenClaim := { program := "ytcjlcpocfgidhaadoor", sum := "640ab4fec77e1b019038e29b18efd268586eafcf42d397e94927efeb2c83191d", func := "loop.example/g01345/laws.FnExactTurnPasture", spec := "fnExactTurnPasture", inPlace := ["internal/reflectlite.TypeOf"], unfollowed := true, recurses := true, named := ["loop.example/g01345/impl.errInvalid", "loop.example/g01345/impl.errRange", "loop.example/g01345/impl.errState", "loop.example/g01345/impl.errSyntax", "loop.example/g01345/impl.errNotFound"], ifaces := true, apart := false, laid := [("loop.example/g01345/impl.errInvalid", laid_loop_example_g01345_impl_errInvalid), ("loop.example/g01345/impl.errRange", laid_loop_example_g01345_impl_errRange), ("loop.example/g01345/impl.errState", laid_loop_example_g01345_impl_errState), ("loop.example/g01345/impl.errSyntax", laid_loop_example_g01345_impl_errSyntax), ("loop.example/g01345/impl.errNotFound", laid_loop_example_g01345_impl_errNotFound)], narrowed := true }
def FnExactTurnPastureUptoSaid : Prop := fnExactTurnPastureUptoRow.holds Tryd.pinned (OpenSpec.upto fnExactTurnPastureSpec)

/-- 'laws.FnExactBareCells', WHERE WHAT IT READS IS OF BULK AT MOST 1048576: true; the input reads as it did. -/
def fnExactBareCellsUptoRow : OpenClaim := { program := "ytcjlcpocfgidhaadoor", sum := "640ab4fec77e1b019038e29b18efd268586eafcf42d397e94927efeb2c83191d", func := "loop.example/g01345/laws.FnExactBareCells", spec := "fnExactBareCells", inPlace := ["internal/reflectlite.TypeOf"], unfollowed := true, recurses := true, named := ["loop.example/g01345/impl.errInvalid", "loop.example/g01345/impl.errRange", "loop.example/g01345/impl.errState", "loop.example/g01345/impl.errSyntax", "loop.example/g01345/impl.errNotFound"], ifaces := true, apart := false, laid := [("loop.example/g01345/impl.errInvalid", laid_loop_example_g01345_impl_errInvalid), ("loop.example/g01345/impl.errRange", laid_loop_example_g01345_impl_errRange), ("loop.example/g01345/impl.errState", laid_loop_example_g01345_impl_errState), ("loop.example/g01345/impl.errSyntax", laid_loop_example_g01345_impl_errSyntax), ("loop.example/g01345/impl.errNotFound", laid_loop_example_g01345_impl_errNotFound)], narrowed := true }
def FnExactBareCellsUptoSaid : Prop := fnExactBareCellsUptoRow.holds Tryd.pinned (OpenSpec.upto fnExactBareCellsSpec)

/-- 'laws.FnExactNeedOf', WHERE WHAT IT READS IS OF BULK AT MOST 1048576: true; the input reads as it did. -/
def fnExactNeedOfUptoRow : OpenClaim := { program := "ytcjlcpocfgidhaadoor", sum := "640ab4fec77e1b019038e29b18efd268586eafcf42d397e94927efeb2c83191d", func := "loop.example/g01345/laws.FnExactNeedOf", spec := "fnExactNeedOf", inPlace := ["internal/reflectlite.TypeOf"], unfollowed := true, recurses := true, named := ["loop.example/g01345/impl.errInvalid", "loop.example/g01345/impl.errRange", "loop.example/g01345/impl.errState", "loop.example/g01345/impl.errSyntax", "loop.example/g01345/impl.errNotFound"], ifaces := true, apart := false, laid := [("loop.example/g01345/impl.errInvalid", laid_loop_example_g01345_impl_errInvalid), ("loop.example/g01345/impl.errRange", laid_loop_example_g01345_impl_errRange), ("loop.example/g01345/impl.errState", laid_loop_example_g01345_impl_errState), ("loop.example/g01345/impl.errSyntax", laid_loop_example_g01345_impl_errSyntax), ("loop.example/g01345/impl.errNotFound", laid_loop_example_g01345_impl_errNotFound)], narrowed := true }
def FnExactNeedOfUptoSaid : Prop := fnExactNeedOfUptoRow.holds Tryd.pinned (OpenSpec.upto fnExactNeedOfSpec)

end Rows
end Go.Proofs.YtcjlcpocfgidhaaDoor
