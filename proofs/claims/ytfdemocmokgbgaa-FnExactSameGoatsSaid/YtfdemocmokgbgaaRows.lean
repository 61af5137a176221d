/-
  No cell of these rows narrows 'for every input' (looked for: loops, veiled, ifaces, maps, wideKeys, modest, calm, conditions, laid).
  DERIVED. THE GIVEN ROWS OF THIS SEAT. 3 by the template 'for every input the law returns true; each argument reads behind the call as it read before'; 0 by the template 'total and deterministic' (their statements: YtfdemocmokgbgaaTotals.lean).
  GIVEN WITH THE SEED: the statements are not yours to turn. If you find one false, say at which input.
  Laid BY PROGRAM, IN A SANDBOX (cutbox-rows.mjs): the forced cells as the released guide's own fill.sh prints them over the translation 786a90e84c8a15b9… (all of the seat's roots in one cut). By AI agents, Wed Nov 11 2026. No macro, syntax, notation, axiom, sorry.
-/
import Derived.Test.YtfdemocmokgbgaaChecked
import GoSem.Claim
import GoSem.ClaimJoined
import GoSem.ClaimMapViews
import Derived.JoinedTies
import Derived.KernelRfl
namespace Go.Proofs.Ytfdemocmokgbgaa
/- THE CELL 'sum', in the pinned program and in every row, IS THE sha256 OF THE DUMP (.gsa) THAT YtfdemocmokgbgaaProg.lean LOADS. Nothing in Lean hashes anything: it is a label: what it is worth is what the hold of that sum in a sandbox is worth. -/
noncomputable def Try.pinned : Pinned := { name := "ytfdemocmokgbgaa", sum := "786a90e84c8a15b99cb2767760bfc1cb9aaf71ab90531a34856b9dafc1426296", checked := Try.checked }
namespace Rows
def none {H : Type} : Left H := { results := [], args := [] }

/-- 'laws.FnExactFreeGoat': WHATEVER THE INPUT: true; the input reads as it did. -/
def fnExactFreeGoatSpec : ChangeSpec := { name := "fnExactFreeGoat", fn := fun _ => fun
  | [d1, d2, d3] => { results := [.lit (.bool true)], args := [d1, d2, d3] }
  | _ => none }
def fnExactFreeGoatRow : OpenClaim := { program := "ytfdemocmokgbgaa", sum := "786a90e84c8a15b99cb2767760bfc1cb9aaf71ab90531a34856b9dafc1426296", func := "loop.example/g01345/laws.FnExactFreeGoat", spec := "fnExactFreeGoat", apart := false }
def FnExactFreeGoatSaid : Prop := fnExactFreeGoatRow.holds Try.pinned (OpenSpec.ofChange fnExactFreeGoatSpec)

/-- ITS FALSE NEIGHBOUR: 'it returns false'. Refute it at one input. -/
def fnExactFreeGoatWrong : ChangeSpec := { name := "fnExactFreeGoat", fn := fun _ => fun
  | [d1, d2, d3] => { results := [.lit (.bool false)], args := [d1, d2, d3] }
  | _ => none }
def FnExactFreeGoatWrongFalsely : Prop := fnExactFreeGoatRow.holds Try.pinned (OpenSpec.ofChange fnExactFreeGoatWrong)

/-- 'laws.FnExactSameGoats': WHATEVER THE INPUT: true; the input reads as it did. -/
def fnExactSameGoatsSpec : ChangeSpec := { name := "fnExactSameGoats", fn := fun _ => fun
  | [d1, d2] => { results := [.lit (.bool true)], args := [d1, d2] }
  | _ => none }
def fnExactSameGoatsRow : OpenClaim := { program := "ytfdemocmokgbgaa", sum := "786a90e84c8a15b99cb2767760bfc1cb9aaf71ab90531a34856b9dafc1426296", func := "loop.example/g01345/laws.FnExactSameGoats", spec := "fnExactSameGoats", apart := false }
def FnExactSameGoatsSaid : Prop := fnExactSameGoatsRow.holds Try.pinned (OpenSpec.ofChange fnExactSameGoatsSpec)

/-- ITS FALSE NEIGHBOUR: 'it returns false'. Refute it at one input. -/
def fnExactSameGoatsWrong : ChangeSpec := { name := "fnExactSameGoats", fn := fun _ => fun
  | [d1, d2] => { results := [.lit (.bool false)], args := [d1, d2] }
  | _ => none }
def FnExactSameGoatsWrongFalsely : Prop := fnExactSameGoatsRow.holds Try.pinned (OpenSpec.ofChange fnExactSameGoatsWrong)

/-- 'laws.FnExactValidGoats': WHATEVER THE INPUT: true; the input reads as it did. -/
def fnExactValidGoatsSpec : ChangeSpec := { name := "fnExactValidGoats", fn := fun _ => fun
  | [d1, d2] => { results := [.lit (.bool true)], args := [d1, d2] }
  | _ => none }
def fnExactValidGoatsRow : OpenClaim := { program := "ytfdemocmokgbgaa", sum := "786a90e84c8a15b99cb2767760bfc1cb9aaf71ab90531a34856b9dafc1426296", func := "loop.example/g01345/laws.FnExactValidGoats", spec := "fnExactValidGoats", unfollowed := true, recurses := true, apart := false }
def FnExactValidGoatsSaid : Prop := fnExactValidGoatsRow.holds Try.pinned (OpenSpec.ofChange fnExactValidGoatsSpec)

/-- ITS FALSE NEIGHBOUR: 'it returns false'. Refute it at one input. -/
def fnExactValidGoatsWrong : ChangeSpec := { name := "fnExactValidGoats", fn := fun _ => fun
  | [d1, d2] => { results := [.lit (.bool false)], args := [d1, d2] }
  | _ => none }
def FnExactValidGoatsWrongFalsely : Prop := fnExactValidGoatsRow.holds Try.pinned (OpenSpec.ofChange fnExactValidGoatsWrong)

/- THE SECOND FORM. 'bulk': how many values and letters a reading holds, each counted each time it is reached (what is shared counts as often as it is met; a slice's spare places count too). A statement '..UptoSaid' is the law's where the arguments, and the package variables that the reading takes, are together of bulk at most 1048576: NARROWER than '..Said'. Prove '..Said' where nothing that the law and all that it calls make is longer than what came in: it says more and counts as full. Else prove '..UptoSaid'. A law counts once. -/
mutual
def uptoBulk {H : Type} : DataW H → Nat
  | .lit (.string bytes) => bytes.length + 1
  | .lit _ => 1
  | .nil => 1
  | .ptr d => uptoBulk d + 1
  | .slice elems spare => uptoBulkAll elems + uptoBulkAll spare + 1
  | .agg parts => uptoBulkAll parts + 1
  | .iface _ d => uptoBulk d + 1
  | .map entries => uptoBulkEntries entries + 1
  | .held _ => 1
def uptoBulkAll {H : Type} : List (DataW H) → Nat
  | [] => 0
  | d :: r => uptoBulk d + uptoBulkAll r
def uptoBulkEntries {H : Type} : List (Lit × DataW H) → Nat
  | [] => 0
  | x :: r => uptoBulkEntry x + uptoBulkEntries r
def uptoBulkEntry {H : Type} : Lit × DataW H → Nat
  | (.string bytes, d) => bytes.length + uptoBulk d + 1
  | (_, d) => uptoBulk d + 1
 end
def uptoSmall : (H : Type) → List (DataW H) → Bool := fun _ ds => decide (uptoBulkAll ds ≤ 1048576)
def OpenSpec.upto (s : _root_.Go.ChangeSpec) : _root_.Go.OpenSpec := { _root_.Go.OpenSpec.ofChange s with cond := some uptoSmall }

/-- 'laws.FnExactFreeGoat', WHERE WHAT IT READS IS OF BULK AT MOST 1048576: true; the input reads as it did. -/
def fnExactFreeGoatUptoRow : OpenClaim := { program := "ytfdemocmokgbgaa", sum := "786a90e84c8a15b99cb2767760bfc1cb9aaf71ab90531a34856b9dafc1426296", func := "loop.example/g01345/laws.FnExactFreeGoat", spec := "fnExactFreeGoat", apart := false, narrowed := true }
def FnExactFreeGoatUptoSaid : Prop := fnExactFreeGoatUptoRow.holds Try.pinned (OpenSpec.upto fnExactFreeGoatSpec)

/-- 'laws.FnExactSameGoats', WHERE WHAT IT READS IS OF BULK AT MOST 1048576: true; the input reads as it did. -/
def fnExactSameGoatsUptoRow : OpenClaim := { program := "ytfdemocmokgbgaa", sum := "786a90e84c8a15b99cb2767760bfc1cb9aaf71ab90531a34856b9dafc1426296", func := "loop.example/g01345/laws.FnExactSameGoats", spec := "fnExactSameGoats", apart := false, narrowed := true }
def FnExactSameGoatsUptoSaid : Prop := fnExactSameGoatsUptoRow.holds Try.pinned (OpenSpec.upto fnExactSameGoatsSpec)

/-- 'laws.FnExactValidGoats', WHERE WHAT IT READS IS OF BULK AT MOST 1048576: true; the input reads as it did. -/
def fnExactValidGoatsUptoRow : OpenClaim := { program := "ytfdemocmokgbgaa", sum := "786a90e84c8a15b99cb2767760bfc1cb9aaf71ab90531a34856b9dafc1426296", func := "loop.example/g01345/laws.FnExactValidGoats", spec := "fnExactValidGoats", unfollowed := true, recurses := true, apart := false, narrowed := true }
def FnExactValidGoatsUptoSaid : Prop := fnExactValidGoatsUptoRow.holds Try.pinned (OpenSpec.upto fnExactValidGoatsSpec)

end Rows
end Go.Proofs.Ytfdemocmokgbgaa
