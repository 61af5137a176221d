/-
  NARROWER THAN 'FOR EVERY INPUT', by the rows' own cells (each row's printed sentence says how): FnExactGrassOf: ifaces, laid · FnExactMirrorPasture: ifaces, laid · FnExactTurnPasture: ifaces, laid · FnExactBareCells: ifaces, laid · FnExactNeedOf: ifaces, laid · FnExactTieGoat: ifaces, laid · FnExactBesideOf: ifaces, laid · FnExactHurdlesOf: ifaces, laid.
  DERIVED. THE GIVEN ROWS OF THIS SEAT. 8 by the template 'for every input the law returns true; each argument reads behind the call as it read before'; 0 by the template 'total and deterministic' (their statements: YtdmhdljknfkajaaDoorTotals.lean).
  GIVEN WITH THE SEED: the statements are not yours to turn. If you find one false, say at which input.
  Laid BY PROGRAM, IN A SANDBOX (cutbox-rows.mjs): the forced cells as the released guide's own fill.sh prints them over the translation b67d7c67fdebfcdc… (all of the seat's roots in one cut). By AI agents, Wed Nov 11 2026. No macro, syntax, notation, axiom, sorry.
-/
import Derived.Test.YtdmhdljknfkajaaDoorChecked
import GoSem.Claim
import GoSem.ClaimJoined
import GoSem.ClaimMapViews
import Derived.JoinedTies
import Derived.KernelRfl
namespace Go.Proofs.YtdmhdljknfkajaaDoor
/- THE CELL 'sum', in the pinned program and in every row, IS THE sha256 OF THE DUMP (.gsa) THAT YtdmhdljknfkajaaDoorProg.lean LOADS. Nothing in Lean hashes anything: it is a label: what it is worth is what the hold of that sum in a sandbox is worth. -/
noncomputable def Tryd.pinned : Pinned := { name := "ytdmhdljknfkajaadoor", sum := "b67d7c67fdebfcdc6682f40aedc48b8bd60b68d6afd5580c3a0c246705b2df03", checked := Tryd.checked }
namespace Rows
def none {H : Type} : Left H := { results := [], args := [] }

/- WHAT THE LISTED PACKAGE-LEVEL VARIABLES READ AS WHEN THE CALL BEGINS. Each datum BY PROGRAM (the guide's laid-datum.mjs) off the statement by which the dump's own 'gosem.cut.vars' lays the variable. In a bare row this is a premise. The card (YtdmhdljknfkajaaDoorCards.lean) ties it to the program's text. -/
def laid_loop_example_g01345_impl_errInvalid {H : Type} : DataW H := .iface "*errors.errorString" (.ptr (.agg [.lit (.string [105, 110, 118, 97, 108, 105, 100])]))
def laid_loop_example_g01345_impl_errRange {H : Type} : DataW H := .iface "*errors.errorString" (.ptr (.agg [.lit (.string [114, 97, 110, 103, 101])]))
def laid_loop_example_g01345_impl_errLimit {H : Type} : DataW H := .iface "*errors.errorString" (.ptr (.agg [.lit (.string [108, 105, 109, 105, 116])]))
def laid_loop_example_g01345_impl_errState {H : Type} : DataW H := .iface "*errors.errorString" (.ptr (.agg [.lit (.string [115, 116, 97, 116, 101])]))
def laid_loop_example_g01345_impl_errSyntax {H : Type} : DataW H := .iface "*errors.errorString" (.ptr (.agg [.lit (.string [115, 121, 110, 116, 97, 120])]))
def laid_loop_example_g01345_impl_errNotFound {H : Type} : DataW H := .iface "*errors.errorString" (.ptr (.agg [.lit (.string [110, 111, 116, 32, 102, 111, 117, 110, 100])]))

/-- 'laws.FnExactGrassOf': WHATEVER THE INPUT: true; the input reads as it did. -/
def fnExactGrassOfSpec : ChangeSpec := { name := "fnExactGrassOf", vars := ["loop.example/g01345/impl.errInvalid", "loop.example/g01345/impl.errRange", "loop.example/g01345/impl.errLimit", "loop.example/g01345/impl.errState", "loop.example/g01345/impl.errSyntax", "loop.example/g01345/impl.errNotFound"], fn := fun _ => fun
  | [d1, d2, g1, g2, g3, g4, g5, g6] => { results := [.lit (.bool true)], args := [d1, d2], vars := [g1, g2, g3, g4, g5, g6] }
  | _ => none }
def fnExactGrassOfRow : OpenClaim := { program := "ytdmhdljknfkajaadoor", sum := "b67d7c67fdebfcdc6682f40aedc48b8bd60b68d6afd5580c3a0c246705b2df03", func := "loop.example/g01345/laws.FnExactGrassOf", spec := "fnExactGrassOf", inPlace := ["internal/reflectlite.TypeOf"], unfollowed := true, recurses := true, named := ["loop.example/g01345/impl.errInvalid", "loop.example/g01345/impl.errRange", "loop.example/g01345/impl.errLimit", "loop.example/g01345/impl.errState", "loop.example/g01345/impl.errSyntax", "loop.example/g01345/impl.errNotFound"], ifaces := true, apart := false, laid := [("loop.example/g01345/impl.errInvalid", laid_loop_example_g01345_impl_errInvalid), ("loop.example/g01345/impl.errRange", laid_loop_example_g01345_impl_errRange), ("loop.example/g01345/impl.errLimit", laid_loop_example_g01345_impl_errLimit), ("loop.example/g01345/impl.errState", laid_loop_example_g01345_impl_errState), ("loop.example/g01345/impl.errSyntax", laid_loop_example_g01345_impl_errSyntax), ("loop.example/g01345/impl.errNotFound", laid_loop_example_g01345_impl_errNotFound)] }
def FnExactGrassOfSaid : Prop := fnExactGrassOfRow.holds Tryd.pinned (OpenSpec.ofChange fnExactGrassOfSpec)

/-- ITS FALSE NEIGHBOUR: 'it returns false'. Refute it at one input. -/
def fnExactGrassOfWrong : ChangeSpec := { name := "fnExactGrassOf", vars := ["loop.example/g01345/impl.errInvalid", "loop.example/g01345/impl.errRange", "loop.example/g01345/impl.errLimit", "loop.example/g01345/impl.errState", "loop.example/g01345/impl.errSyntax", "loop.example/g01345/impl.errNotFound"], fn := fun _ => fun
  | [d1, d2, g1, g2, g3, g4, g5, g6] => { results := [.lit (.bool false)], args := [d1, d2], vars := [g1, g2, g3, g4, g5, g6] }
  | _ => none }
def FnExactGrassOfWrongFalsely : Prop := fnExactGrassOfRow.holds Tryd.pinned (OpenSpec.ofChange fnExactGrassOfWrong)

/-- 'laws.FnExactMirrorPasture': WHATEVER THE INPUT: true; the input reads as it did. -/
def fnExactMirrorPastureSpec : ChangeSpec := { name := "fnExactMirrorPasture", vars := ["loop.example/g01345/impl.errInvalid", "loop.example/g01345/impl.errRange", "loop.example/g01345/impl.errLimit", "loop.example/g01345/impl.errState", "loop.example/g01345/impl.errSyntax", "loop.example/g01345/impl.errNotFound"], fn := fun _ => fun
  | [d, g1, g2, g3, g4, g5, g6] => { results := [.lit (.bool true)], args := [d], vars := [g1, g2, g3, g4, g5, g6] }
  | _ => none }
def fnExactMirrorPastureRow : OpenClaim := { program := "ytdmhdljknfkajaadoor", sum := "b67d7c67fdebfcdc6682f40aedc48b8bd60b68d6afd5580c3a0c246705b2df03", func := "loop.example/g01345/laws.FnExactMirrorPasture", spec := "fnExactMirrorPasture", inPlace := ["internal/reflectlite.TypeOf"], unfollowed := true, recurses := true, named := ["loop.example/g01345/impl.errInvalid", "loop.example/g01345/impl.errRange", "loop.example/g01345/impl.errLimit", "loop.example/g01345/impl.errState", "loop.example/g01345/impl.errSyntax", "loop.example/g01345/impl.errNotFound"], ifaces := true, apart := false, laid := [("loop.example/g01345/impl.errInvalid", laid_loop_example_g01345_impl_errInvalid), ("loop.example/g01345/impl.errRange", laid_loop_example_g01345_impl_errRange), ("loop.example/g01345/impl.errLimit", laid_loop_example_g01345_impl_errLimit), ("loop.example/g01345/impl.errState", laid_loop_example_g01345_impl_errState), ("loop.example/g01345/impl.errSyntax", laid_loop_example_g01345_impl_errSyntax), ("loop.example/g01345/impl.errNotFound", laid_loop_example_g01345_impl_errNotFound)] }
def FnExactMirrorPastureSaid : Prop := fnExactMirrorPastureRow.holds Tryd.pinned (OpenSpec.ofChange fnExactMirrorPastureSpec)

/-- ITS FALSE NEIGHBOUR: 'it returns false'. Refute it at one input. -/
def fnExactMirrorPastureWrong : ChangeSpec := { name := "fnExactMirrorPasture", vars := ["loop.example/g01345/impl.errInvalid", "loop.example/g01345/impl.errRange", "loop.example/g01345/impl.errLimit", "loop.example/g01345/impl.errState", "loop.example/g01345/impl.errSyntax", "loop.example/g01345/impl.errNotFound"], fn := fun _ => fun
  | [d, g1, g2, g3, g4, g5, g6] => { results := [.lit (.bool false)], args := [d], vars := [g1, g2, g3, g4, g5, g6] }
  | _ => none }
def FnExactMirrorPastureWrongFalsely : Prop := fnExactMirrorPastureRow.holds Tryd.pinned (OpenSpec.ofChange fnExactMirrorPastureWrong)

/-- 'laws.FnExactTurnPasture': WHATEVER THE INPUT: true; the input reads as it did. -/
def fnExactTurnPastureSpec : ChangeSpec := { name := "fnExactTurnPasture", vars := ["loop.example/g01345/impl.errInvalid", "loop.example/g01345/impl.errRange", "loop.example/g01345/impl.errLimit", "loop.example/g01345/impl.errState", "loop.example/g01345/impl.errSyntax", "loop.example/g01345/impl.errNotFound"], fn := fun _ => fun
  | [d, g1, g2, g3, g4, g5, g6] => { results := [.lit (.bool true)], args := [d], vars := [g1, g2, g3, g4, g5, g6] }
  | _ => none }
def fnExactTurnPastureRow : OpenClaim := { program := "ytdmhdljknfkajaadoor", sum := "b67d7c67fdebfcdc6682f40aedc48b8bd60b68d6afd5580c3a0c246705b2df03", func := "loop.example/g01345/laws.FnExactTurnPasture", spec := "fnExactTurnPasture", inPlace := ["internal/reflectlite.TypeOf"], unfollowed := true, recurses := true, named := ["loop.example/g01345/impl.errInvalid", "loop.example/g01345/impl.errRange", "loop.example/g01345/impl.errLimit", "loop.example/g01345/impl.errState", "loop.example/g01345/impl.errSyntax", "loop.example/g01345/impl.errNotFound"], ifaces := true, apart := false, laid := [("loop.example/g01345/impl.errInvalid", laid_loop_example_g01345_impl_errInvalid), ("loop.example/g01345/impl.errRange", laid_loop_example_g01345_impl_errRange), ("loop.example/g01345/impl.errLimit", laid_loop_example_g01345_impl_errLimit), ("loop.example/g01345/impl.errState", laid_loop_example_g01345_impl_errState), ("loop.example/g01345/impl.errSyntax", laid_loop_example_g01345_impl_errSyntax), ("loop.example/g01345/impl.errNotFound", laid_loop_example_g01345_impl_errNotFound)] }
def FnExactTurnPastureSaid : Prop := fnExactTurnPastureRow.holds Tryd.pinned (OpenSpec.ofChange fnExactTurnPastureSpec)

/-- ITS FALSE NEIGHBOUR: 'it returns false'. Refute it at one input. -/
def fnExactTurnPastureWrong : ChangeSpec := { name := "fnExactTurnPasture", vars := ["loop.example/g01345/impl.errInvalid", "loop.example/g01345/impl.errRange", "loop.example/g01345/impl.errLimit", "loop.example/g01345/impl.errState", "loop.example/g01345/impl.errSyntax", "loop.example/g01345/impl.errNotFound"], fn := fun _ => fun
  | [d, g1, g2, g3, g4, g5, g6] => { results := [.lit (.bool false)], args := [d], vars := [g1, g2, g3, g4, g5, g6] }
  | _ => none }
def FnExactTurnPastureWrongFalsely : Prop := fnExactTurnPastureRow.holds Tryd.pinned (OpenSpec.ofChange fnExactTurnPastureWrong)

/-- 'laws.FnExactBareCells': WHATEVER THE INPUT: true; the input reads as it did. -/
def fnExactBareCellsSpec : ChangeSpec := { name := "fnExactBareCells", vars := ["loop.example/g01345/impl.errInvalid", "loop.example/g01345/impl.errRange", "loop.example/g01345/impl.errLimit", "loop.example/g01345/impl.errState", "loop.example/g01345/impl.errSyntax", "loop.example/g01345/impl.errNotFound"], fn := fun _ => fun
  | [d, g1, g2, g3, g4, g5, g6] => { results := [.lit (.bool true)], args := [d], vars := [g1, g2, g3, g4, g5, g6] }
  | _ => none }
def fnExactBareCellsRow : OpenClaim := { program := "ytdmhdljknfkajaadoor", sum := "b67d7c67fdebfcdc6682f40aedc48b8bd60b68d6afd5580c3a0c246705b2df03", func := "loop.example/g01345/laws.FnExactBareCells", spec := "fnExactBareCells", inPlace := ["internal/reflectlite.TypeOf"], unfollowed := true, recurses := true, named := ["loop.example/g01345/impl.errInvalid", "loop.example/g01345/impl.errRange", "loop.example/g01345/impl.errLimit", "loop.example/g01345/impl.errState", "loop.example/g01345/impl.errSyntax", "loop.example/g01345/impl.errNotFound"], ifaces := true, apart := false, laid := [("loop.example/g01345/impl.errInvalid", laid_loop_example_g01345_impl_errInvalid), ("loop.example/g01345/impl.errRange", laid_loop_example_g01345_impl_errRange), ("loop.example/g01345/impl.errLimit", laid_loop_example_g01345_impl_errLimit), ("loop.example/g01345/impl.errState", laid_loop_example_g01345_impl_errState), ("loop.example/g01345/impl.errSyntax", laid_loop_example_g01345_impl_errSyntax), ("loop.example/g01345/impl.errNotFound", laid_loop_example_g01345_impl_errNotFound)] }
def FnExactBareCellsSaid : Prop := fnExactBareCellsRow.holds Tryd.pinned (OpenSpec.ofChange fnExactBareCellsSpec)

/-- ITS FALSE NEIGHBOUR: 'it returns false'. Refute it at one input. -/
def fnExactBareCellsWrong : ChangeSpec := { name := "fnExactBareCells", vars := ["loop.example/g01345/impl.errInvalid", "loop.example/g01345/impl.errRange", "loop.example/g01345/impl.errLimit", "loop.example/g01345/impl.errState", "loop.example/g01345/impl.errSyntax", "loop.example/g01345/impl.errNotFound"], fn := fun _ => fun
  | [d, g1, g2, g3, g4, g5, g6] => { results := [.lit (.bool false)], args := [d], vars := [g1, g2, g3, g4, g5, g6] }
  | _ => none }
def FnExactBareCellsWrongFalsely : Prop := fnExactBareCellsRow.holds Tryd.pinned (OpenSpec.ofChange fnExactBareCellsWrong)

/-- 'laws.FnExactNeedOf': WHATEVER THE INPUT: true; the input reads as it did. -/
def fnExactNeedOfSpec : ChangeSpec := { name := "fnExactNeedOf", vars := ["loop.example/g01345/impl.errInvalid", "loop.example/g01345/impl.errRange", "loop.example/g01345/impl.errLimit", "loop.example/g01345/impl.errState", "loop.example/g01345/impl.errSyntax", "loop.example/g01345/impl.errNotFound"], fn := fun _ => fun
  | [d1, d2, g1, g2, g3, g4, g5, g6] => { results := [.lit (.bool true)], args := [d1, d2], vars := [g1, g2, g3, g4, g5, g6] }
  | _ => none }
def fnExactNeedOfRow : OpenClaim := { program := "ytdmhdljknfkajaadoor", sum := "b67d7c67fdebfcdc6682f40aedc48b8bd60b68d6afd5580c3a0c246705b2df03", func := "loop.example/g01345/laws.FnExactNeedOf", spec := "fnExactNeedOf", inPlace := ["internal/reflectlite.TypeOf"], unfollowed := true, recurses := true, named := ["loop.example/g01345/impl.errInvalid", "loop.example/g01345/impl.errRange", "loop.example/g01345/impl.errLimit", "loop.example/g01345/impl.errState", "loop.example/g01345/impl.errSyntax", "loop.example/g01345/impl.errNotFound"], ifaces := true, apart := false, laid := [("loop.example/g01345/impl.errInvalid", laid_loop_example_g01345_impl_errInvalid), ("loop.example/g01345/impl.errRange", laid_loop_example_g01345_impl_errRange), ("loop.example/g01345/impl.errLimit", laid_loop_example_g01345_impl_errLimit), ("loop.example/g01345/impl.errState", laid_loop_example_g01345_impl_errState), ("loop.example/g01345/impl.errSyntax", laid_loop_example_g01345_impl_errSyntax), ("loop.example/g01345/impl.errNotFound", laid_loop_example_g01345_impl_errNotFound)] }
def FnExactNeedOfSaid : Prop := fnExactNeedOfRow.holds Tryd.pinned (OpenSpec.ofChange fnExactNeedOfSpec)

/-- ITS FALSE NEIGHBOUR: 'it returns false'. Refute it at one input. -/
def fnExactNeedOfWrong : ChangeSpec := { name := "fnExactNeedOf", vars := ["loop.example/g01345/impl.errInvalid", "loop.example/g01345/impl.errRange", "loop.example/g01345/impl.errLimit", "loop.example/g01345/impl.errState", "loop.example/g01345/impl.errSyntax", "loop.example/g01345/impl.errNotFound"], fn := fun _ => fun
  | [d1, d2, g1, g2, g3, g4, g5, g6] => { results := [.lit (.bool false)], args := [d1, d2], vars := [g1, g2, g3, g4, g5, g6] }
  | _ => none }
def FnExactNeedOfWrongFalsely : Prop := fnExactNeedOfRow.holds Tryd.pinned (OpenSpec.ofChange fnExactNeedOfWrong)

/-- 'laws.FnExactTieGoat': WHATEVER THE INPUT: true; the input reads as it did. -/
def fnExactTieGoatSpec : ChangeSpec := { name := "fnExactTieGoat", vars := ["loop.example/g01345/impl.errInvalid", "loop.example/g01345/impl.errRange", "loop.example/g01345/impl.errLimit", "loop.example/g01345/impl.errState", "loop.example/g01345/impl.errSyntax", "loop.example/g01345/impl.errNotFound"], fn := fun _ => fun
  | [d1, d2, d3, g1, g2, g3, g4, g5, g6] => { results := [.lit (.bool true)], args := [d1, d2, d3], vars := [g1, g2, g3, g4, g5, g6] }
  | _ => none }
def fnExactTieGoatRow : OpenClaim := { program := "ytdmhdljknfkajaadoor", sum := "b67d7c67fdebfcdc6682f40aedc48b8bd60b68d6afd5580c3a0c246705b2df03", func := "loop.example/g01345/laws.FnExactTieGoat", spec := "fnExactTieGoat", inPlace := ["internal/reflectlite.TypeOf"], unfollowed := true, recurses := true, named := ["loop.example/g01345/impl.errInvalid", "loop.example/g01345/impl.errRange", "loop.example/g01345/impl.errLimit", "loop.example/g01345/impl.errState", "loop.example/g01345/impl.errSyntax", "loop.example/g01345/impl.errNotFound"], ifaces := true, apart := false, laid := [("loop.example/g01345/impl.errInvalid", laid_loop_example_g01345_impl_errInvalid), ("loop.example/g01345/impl.errRange", laid_loop_example_g01345_impl_errRange), ("loop.example/g01345/impl.errLimit", laid_loop_example_g01345_impl_errLimit), ("loop.example/g01345/impl.errState", laid_loop_example_g01345_impl_errState), ("loop.example/g01345/impl.errSyntax", laid_loop_example_g01345_impl_errSyntax), ("loop.example/g01345/impl.errNotFound", laid_loop_example_g01345_impl_errNotFound)] }
def FnExactTieGoatSaid : Prop := fnExactTieGoatRow.holds Tryd.pinned (OpenSpec.ofChange fnExactTieGoatSpec)

/-- ITS FALSE NEIGHBOUR: 'it returns false'. Refute it at one input. -/
def fnExactTieGoatWrong : ChangeSpec := { name := "fnExactTieGoat", vars := ["loop.example/g01345/impl.errInvalid", "loop.example/g01345/impl.errRange", "loop.example/g01345/impl.errLimit", "loop.example/g01345/impl.errState", "loop.example/g01345/impl.errSyntax", "loop.example/g01345/impl.errNotFound"], fn := fun _ => fun
  | [d1, d2, d3, g1, g2, g3, g4, g5, g6] => { results := [.lit (.bool false)], args := [d1, d2, d3], vars := [g1, g2, g3, g4, g5, g6] }
  | _ => none }
def FnExactTieGoatWrongFalsely : Prop := fnExactTieGoatRow.holds Tryd.pinned (OpenSpec.ofChange fnExactTieGoatWrong)

/-- 'laws.FnExactBesideOf': WHATEVER THE INPUT: true; the input reads as it did. -/
def fnExactBesideOfSpec : ChangeSpec := { name := "fnExactBesideOf", vars := ["loop.example/g01345/impl.errInvalid", "loop.example/g01345/impl.errRange", "loop.example/g01345/impl.errLimit", "loop.example/g01345/impl.errState", "loop.example/g01345/impl.errSyntax", "loop.example/g01345/impl.errNotFound"], fn := fun _ => fun
  | [d1, d2, g1, g2, g3, g4, g5, g6] => { results := [.lit (.bool true)], args := [d1, d2], vars := [g1, g2, g3, g4, g5, g6] }
  | _ => none }
def fnExactBesideOfRow : OpenClaim := { program := "ytdmhdljknfkajaadoor", sum := "b67d7c67fdebfcdc6682f40aedc48b8bd60b68d6afd5580c3a0c246705b2df03", func := "loop.example/g01345/laws.FnExactBesideOf", spec := "fnExactBesideOf", inPlace := ["internal/reflectlite.TypeOf"], unfollowed := true, recurses := true, named := ["loop.example/g01345/impl.errInvalid", "loop.example/g01345/impl.errRange", "loop.example/g01345/impl.errLimit", "loop.example/g01345/impl.errState", "loop.example/g01345/impl.errSyntax", "loop.example/g01345/impl.errNotFound"], ifaces := true, apart := false, laid := [("loop.example/g01345/impl.errInvalid", laid_loop_example_g01345_impl_errInvalid), ("loop.example/g01345/impl.errRange", laid_loop_example_g01345_impl_errRange), ("loop.example/g01345/impl.errLimit", laid_loop_example_g01345_impl_errLimit), ("loop.example/g01345/impl.errState", laid_loop_example_g01345_impl_errState), ("loop.example/g01345/impl.errSyntax", laid_loop_example_g01345_impl_errSyntax), ("loop.example/g01345/impl.errNotFound", laid_loop_example_g01345_impl_errNotFound)] }
def FnExactBesideOfSaid : Prop := fnExactBesideOfRow.holds Tryd.pinned (OpenSpec.ofChange fnExactBesideOfSpec)

/-- ITS FALSE NEIGHBOUR: 'it returns false'. Refute it at one input. -/
def fnExactBesideOfWrong : ChangeSpec := { name := "fnExactBesideOf", vars := ["loop.example/g01345/impl.errInvalid", "loop.example/g01345/impl.errRange", "loop.example/g01345/impl.errLimit", "loop.example/g01345/impl.errState", "loop.example/g01345/impl.errSyntax", "loop.example/g01345/impl.errNotFound"], fn := fun _ => fun
  | [d1, d2, g1, g2, g3, g4, g5, g6] => { results := [.lit (.bool false)], args := [d1, d2], vars := [g1, g2, g3, g4, g5, g6] }
  | _ => none }
def FnExactBesideOfWrongFalsely : Prop := fnExactBesideOfRow.holds Tryd.pinned (OpenSpec.ofChange fnExactBesideOfWrong)

/-- 'laws.FnExactHurdlesOf': WHATEVER THE INPUT: true; the input reads as it did. -/
def fnExactHurdlesOfSpec : ChangeSpec := { name := "fnExactHurdlesOf", vars := ["loop.example/g01345/impl.errInvalid", "loop.example/g01345/impl.errRange", "loop.example/g01345/impl.errLimit", "loop.example/g01345/impl.errState", "loop.example/g01345/impl.errSyntax", "loop.example/g01345/impl.errNotFound"], fn := fun _ => fun
  | [d, g1, g2, g3, g4, g5, g6] => { results := [.lit (.bool true)], args := [d], vars := [g1, g2, g3, g4, g5, g6] }
  | _ => none }
def fnExactHurdlesOfRow : OpenClaim := { program := "ytdmhdljknfkajaadoor", sum := "b67d7c67fdebfcdc6682f40aedc48b8bd60b68d6afd5580c3a0c246705b2df03", func := "loop.example/g01345/laws.FnExactHurdlesOf", spec := "fnExactHurdlesOf", inPlace := ["internal/reflectlite.TypeOf"], unfollowed := true, recurses := true, named := ["loop.example/g01345/impl.errInvalid", "loop.example/g01345/impl.errRange", "loop.example/g01345/impl.errLimit", "loop.example/g01345/impl.errState", "loop.example/g01345/impl.errSyntax", "loop.example/g01345/impl.errNotFound"], ifaces := true, apart := false, laid := [("loop.example/g01345/impl.errInvalid", laid_loop_example_g01345_impl_errInvalid), ("loop.example/g01345/impl.errRange", laid_loop_example_g01345_impl_errRange), ("loop.example/g01345/impl.errLimit", laid_loop_example_g01345_impl_errLimit), ("loop.example/g01345/impl.errState", laid_loop_example_g01345_impl_errState), ("loop.example/g01345/impl.errSyntax", laid_loop_example_g01345_impl_errSyntax), ("loop.example/g01345/impl.errNotFound", laid_loop_example_g01345_impl_errNotFound)] }
def FnExactHurdlesOfSaid : Prop := fnExactHurdlesOfRow.holds Tryd.pinned (OpenSpec.ofChange fnExactHurdlesOfSpec)

/-- ITS FALSE NEIGHBOUR: 'it returns false'. Refute it at one input. -/
def fnExactHurdlesOfWrong : ChangeSpec := { name := "fnExactHurdlesOf", vars := ["loop.example/g01345/impl.errInvalid", "loop.example/g01345/impl.errRange", "loop.example/g01345/impl.errLimit", "loop.example/g01345/impl.errState", "loop.example/g01345/impl.errSyntax", "loop.example/g01345/impl.errNotFound"], fn := fun _ => fun
  | [d, g1, g2, g3, g4, g5, g6] => { results := [.lit (.bool false)], args := [d], vars := [g1, g2, g3, g4, g5, g6] }
  | _ => none }
def FnExactHurdlesOfWrongFalsely : Prop := fnExactHurdlesOfRow.holds Tryd.pinned (OpenSpec.ofChange fnExactHurdlesOfWrong)

/- THE SECOND FORM. 'bulk': how many values and letters a reading holds, each counted each time it is reached (what is shared counts as often as it is met; a slice's spare places count too). A statement '..UptoSaid' is the law's where the arguments, and the package variables that the reading takes, are together of bulk at most 1048576: NARROWER than '..Said'. Prove '..Said' where nothing that the law and all that it calls make is longer than what came in: it says more and counts as full. Else prove '..UptoSaid'. A law counts once. -/
mutual
def uptoBulk {H : Type} : DataW H → Nat
  | .lit (.string bytes) => bytes.length + 1
  | .lit _ => 1
  | .nil => 1
  | .ptr d => uptoBulk d + 1
  | .slice elems spare => uptoBulkAll elems + uptoBulkAll spare + 1
  | .agg parts => uptoBulkAll parts + 1
  | .iface _ d => uptoBulk d + 1
  | .map entries => uptoBulkEntries entries + 1
  | .held _ => 1
def uptoBulkAll {H : Type} : List (DataW H) → Nat
  | [] => 0
  | d :: r => uptoBulk d + uptoBulkAll r
def uptoBulkEntries {H : Type} : List (Lit × DataW H) → Nat
  | [] => 0
  | x :: r => uptoBulkEntry x + uptoBulkEntries r
def uptoBulkEntry {H : Type} : Lit × DataW H → Nat
  | (.string bytes, d) => bytes.length + uptoBulk d + 1
  | (_, d) => uptoBulk d + 1
 end
def uptoSmall : (H : Type) → List (DataW H) → Bool := fun _ ds => decide (uptoBulkAll ds ≤ 1048576)
def OpenSpec.upto (s : _root_.Go.ChangeSpec) : _root_.Go.OpenSpec := { _root_.Go.OpenSpec.ofChange s with cond := some uptoSmall }

/-- 'laws.FnExactGrassOf', WHERE WHAT IT READS IS OF BULK AT MOST 1048576: true; the input reads as it did. -/
def fnExactGrassOfUptoRow : OpenClaim := { program := "ytdmhdljknfkajaadoor", sum := "b67d7c67fdebfcdc6682f40aedc48b8bd60b68d6afd5580c3a0c246705b2df03", func := "loop.example/g01345/laws.FnExactGrassOf", spec := "fnExactGrassOf", inPlace := ["internal/reflectlite.TypeOf"], unfollowed := true, recurses := true, named := ["loop.example/g01345/impl.errInvalid", "loop.example/g01345/impl.errRange", "loop.example/g01345/impl.errLimit", "loop.example/g01345/impl.errState", "loop.example/g01345/impl.errSyntax", "loop.example/g01345/impl.errNotFound"], ifaces := true, apart := false, laid := [("loop.example/g01345/impl.errInvalid", laid_loop_example_g01345_impl_errInvalid), ("loop.example/g01345/impl.errRange", laid_loop_example_g01345_impl_errRange), ("loop.example/g01345/impl.errLimit", laid_loop_example_g01345_impl_errLimit), ("loop.example/g01345/impl.errState", laid_loop_example_g01345_impl_errState), ("loop.example/g01345/impl.errSyntax", laid_loop_example_g01345_impl_errSyntax), ("loop.example/g01345/impl.errNotFound", laid_loop_example_g01345_impl_errNotFound)], narrowed := true }
def FnExactGrassOfUptoSaid : Prop := fnExactGrassOfUptoRow.holds Tryd.pinned (OpenSpec.upto fnExactGrassOfSpec)

/-- 'laws.FnExactMirrorPasture', WHERE WHAT IT READS IS OF BULK AT MOST 1048576: true; the input reads as it did. -/
def fnExactMirrorPastureUptoRow : OpenClaim := { program := "ytdmhdljknfkajaadoor", sum := "b67d7c67fdebfcdc6682f40aedc48b8bd60b68d6afd5580c3a0c246705b2df03", func := "loop.example/g01345/laws.FnExactMirrorPasture", spec := "fnExactMirrorPasture", inPlace := ["internal/reflectlite.TypeOf"], unfollowed := true, recurses := true, named := ["loop.example/g01345/impl.errInvalid", "loop.example/g01345/impl.errRange", "loop.example/g01345/impl.errLimit", "loop.example/g01345/impl.errState", "loop.example/g01345/impl.errSyntax", "loop.example/g01345/impl.errNotFound"], ifaces := true, apart := false, laid := [("loop.example/g01345/impl.errInvalid", laid_loop_example_g01345_impl_errInvalid), ("loop.example/g01345/impl.errRange", laid_loop_example_g01345_impl_errRange), ("loop.example/g01345/impl.errLimit", laid_loop_example_g01345_impl_errLimit), ("loop.example/g01345/impl.errState", laid_loop_example_g01345_impl_errState), ("loop.example/g01345/impl.errSyntax", laid_loop_example_g01345_impl_errSyntax), ("loop.example/g01345/impl.errNotFound", laid_loop_example_g01345_impl_errNotFound)], narrowed := true }
def FnExactMirrorPastureUptoSaid : Prop := fnExactMirrorPastureUptoRow.holds Tryd.pinned (OpenSpec.upto fnExactMirrorPastureSpec)

/-- 'laws.FnExactTurnPasture', WHERE WHAT IT READS IS OF BULK AT MOST 1048576: true; the input reads as it did. -/
def fnExactTurnPastureUptoRow : OpenClaim := { program := "ytdmhdljknfkajaadoor", sum := "b67d7c67fdebfcdc6682f40aedc48b8bd60b68d6afd5580c3a0c246705b2df03", func := "loop.example/g01345/laws.FnExactTurnPasture", spec := "fnExactTurnPasture", inPlace := ["internal/reflectlite.TypeOf"], unfollowed := true, recurses := true, named := ["loop.example/g01345/impl.errInvalid", "loop.example/g01345/impl.errRange", "loop.example/g01345/impl.errLimit", "loop.example/g01345/impl.errState", "loop.example/g01345/impl.errSyntax", "loop.example/g01345/impl.errNotFound"], ifaces := true, apart := false, laid := [("loop.example/g01345/impl.errInvalid", laid_loop_example_g01345_impl_errInvalid), ("loop.example/g01345/impl.errRange", laid_loop_example_g01345_impl_errRange), ("loop.example/g01345/impl.errLimit", laid_loop_example_g01345_impl_errLimit), ("loop.example/g01345/impl.errState", laid_loop_example_g01345_impl_errState), ("loop.example/g01345/impl.errSyntax", laid_loop_example_g01345_impl_errSyntax), ("loop.example/g01345/impl.errNotFound", laid_loop_example_g01345_impl_errNotFound)], narrowed := true }
def FnExactTurnPastureUptoSaid : Prop := fnExactTurnPastureUptoRow.holds Tryd.pinned (OpenSpec.upto fnExactTurnPastureSpec)

/-- 'laws.FnExactBareCells', WHERE WHAT IT READS IS OF BULK AT MOST 1048576: true; the input reads as it did. -/
def fnExactBareCellsUptoRow : OpenClaim := { program := "ytdmhdljknfkajaadoor", sum := "b67d7c67fdebfcdc6682f40aedc48b8bd60b68d6afd5580c3a0c246705b2df03", func := "loop.example/g01345/laws.FnExactBareCells", spec := "fnExactBareCells", inPlace := ["internal/reflectlite.TypeOf"], unfollowed := true, recurses := true, named := ["loop.example/g01345/impl.errInvalid", "loop.example/g01345/impl.errRange", "loop.example/g01345/impl.errLimit", "loop.example/g01345/impl.errState", "loop.example/g01345/impl.errSyntax", "loop.example/g01345/impl.errNotFound"], ifaces := true, apart := false, laid := [("loop.example/g01345/impl.errInvalid", laid_loop_example_g01345_impl_errInvalid), ("loop.example/g01345/impl.errRange", laid_loop_example_g01345_impl_errRange), ("loop.example/g01345/impl.errLimit", laid_loop_example_g01345_impl_errLimit), ("loop.example/g01345/impl.errState", laid_loop_example_g01345_impl_errState), ("loop.example/g01345/impl.errSyntax", laid_loop_example_g01345_impl_errSyntax), ("loop.example/g01345/impl.errNotFound", laid_loop_example_g01345_impl_errNotFound)], narrowed := true }
def FnExactBareCellsUptoSaid : Prop := fnExactBareCellsUptoRow.holds Tryd.pinned (OpenSpec.upto fnExactBareCellsSpec)

/-- 'laws.FnExactNeedOf', WHERE WHAT IT READS IS OF BULK AT MOST 1048576: true; the input reads as it did. -/
def fnExactNeedOfUptoRow : OpenClaim := { program := "ytdmhdljknfkajaadoor", sum := "b67d7c67fdebfcdc6682f40aedc48b8bd60b68d6afd5580c3a0c246705b2df03", func := "loop.example/g01345/laws.FnExactNeedOf", spec := "fnExactNeedOf", inPlace := ["internal/reflectlite.TypeOf"], unfollowed := true, recurses := true, named := ["loop.example/g01345/impl.errInvalid", "loop.example/g01345/impl.errRange", "loop.example/g01345/impl.errLimit", "loop.example/g01345/impl.errState", "loop.example/g01345/impl.errSyntax", "loop.example/g01345/impl.errNotFound"], ifaces := true, apart := false, laid := [("loop.example/g01345/impl.errInvalid", laid_loop_example_g01345_impl_errInvalid), ("loop.example/g01345/impl.errRange", laid_loop_example_g01345_impl_errRange), ("loop.example/g01345/impl.errLimit", laid_loop_example_g01345_impl_errLimit), ("loop.example/g01345/impl.errState", laid_loop_example_g01345_impl_errState), ("loop.example/g01345/impl.errSyntax", laid_loop_example_g01345_impl_errSyntax), ("loop.example/g01345/impl.errNotFound", laid_loop_example_g01345_impl_errNotFound)], narrowed := true }
def FnExactNeedOfUptoSaid : Prop := fnExactNeedOfUptoRow.holds Tryd.pinned (OpenSpec.upto fnExactNeedOfSpec)

/-- 'laws.FnExactTieGoat', WHERE WHAT IT READS IS OF BULK AT MOST 1048576: true; the input reads as it did. -/
def fnExactTieGoatUptoRow : OpenClaim := { program := "ytdmhdljknfkajaadoor", sum := "b67d7c67fdebfcdc6682f40aedc48b8bd60b68d6afd5580c3a0c246705b2df03", func := "loop.example/g01345/laws.FnExactTieGoat", spec := "fnExactTieGoat", inPlace := ["internal/reflectlite.TypeOf"], unfollowed := true, recurses := true, named := ["loop.example/g01345/impl.errInvalid", "loop.example/g01345/impl.errRange", "loop.example/g01345/impl.errLimit", "loop.example/g01345/impl.errState", "loop.example/g01345/impl.errSyntax", "loop.example/g01345/impl.errNotFound"], ifaces := true, apart := false, laid := [("loop.example/g01345/impl.errInvalid", laid_loop_example_g01345_impl_errInvalid), ("loop.example/g01345/impl.errRange", laid_loop_example_g01345_impl_errRange), ("loop.example/g01345/impl.errLimit", laid_loop_example_g01345_impl_errLimit), ("loop.example/g01345/impl.errState", laid_loop_example_g01345_impl_errState), ("loop.example/g01345/impl.errSyntax", laid_loop_example_g01345_impl_errSyntax), ("loop.example/g01345/impl.errNotFound", laid_loop_example_g01345_impl_errNotFound)], narrowed := true }
def FnExactTieGoatUptoSaid : Prop := fnExactTieGoatUptoRow.holds Tryd.pinned (OpenSpec.upto fnExactTieGoatSpec)

/-- 'laws.FnExactBesideOf', WHERE WHAT IT READS IS OF BULK AT MOST 1048576: true; the input reads as it did. -/
def fnExactBesideOfUptoRow : OpenClaim := { program := "ytdmhdljknfkajaadoor", sum := "b67d7c67fdebfcdc6682f40aedc48b8bd60b68d6afd5580c3a0c246705b2df03", func := "loop.example/g01345/laws.FnExactBesideOf", spec := "fnExactBesideOf", inPlace := ["internal/reflectlite.TypeOf"], unfollowed := true, recurses := true, named := ["loop.example/g01345/impl.errInvalid", "loop.example/g01345/impl.errRange", "loop.example/g01345/impl.errLimit", "loop.example/g01345/impl.errState", "loop.example/g01345/impl.errSyntax", "loop.example/g01345/impl.errNotFound"], ifaces := true, apart := false, laid := [("loop.example/g01345/impl.errInvalid", laid_loop_example_g01345_impl_errInvalid), ("loop.example/g01345/impl.errRange", laid_loop_example_g01345_impl_errRange), ("loop.example/g01345/impl.errLimit", laid_loop_example_g01345_impl_errLimit), ("loop.example/g01345/impl.errState", laid_loop_example_g01345_impl_errState), ("loop.example/g01345/impl.errSyntax", laid_loop_example_g01345_impl_errSyntax), ("loop.example/g01345/impl.errNotFound", laid_loop_example_g01345_impl_errNotFound)], narrowed := true }
def FnExactBesideOfUptoSaid : Prop := fnExactBesideOfUptoRow.holds Tryd.pinned (OpenSpec.upto fnExactBesideOfSpec)

/-- 'laws.FnExactHurdlesOf', WHERE WHAT IT READS IS OF BULK AT MOST 1048576: true; the input reads as it did. -/
def fnExactHurdlesOfUptoRow : OpenClaim := { program := "ytdmhdljknfkajaadoor", sum := "b67d7c67fdebfcdc6682f40aedc48b8bd60b68d6afd5580c3a0c246705b2df03", func := "loop.example/g01345/laws.FnExactHurdlesOf", spec := "fnExactHurdlesOf", inPlace := ["internal/reflectlite.TypeOf"], unfollowed := true, recurses := true, named := ["loop.example/g01345/impl.errInvalid", "loop.example/g01345/impl.errRange", "loop.example/g01345/impl.errLimit", "loop.example/g01345/impl.errState", "loop.example/g01345/impl.errSyntax", "loop.example/g01345/impl.errNotFound"], ifaces := true, apart := false, laid := [("loop.example/g01345/impl.errInvalid", laid_loop_example_g01345_impl_errInvalid), ("loop.example/g01345/impl.errRange", laid_loop_example_g01345_impl_errRange), ("loop.example/g01345/impl.errLimit", laid_loop_example_g01345_impl_errLimit), ("loop.example/g01345/impl.errState", laid_loop_example_g01345_impl_errState), ("loop.example/g01345/impl.errSyntax", laid_loop_example_g01345_impl_errSyntax), ("loop.example/g01345/impl.errNotFound", laid_loop_example_g01345_impl_errNotFound)], narrowed := true }
def FnExactHurdlesOfUptoSaid : Prop := fnExactHurdlesOfUptoRow.holds Tryd.pinned (OpenSpec.upto fnExactHurdlesOfSpec)

end Rows
end Go.Proofs.YtdmhdljknfkajaaDoor
