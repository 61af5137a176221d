/-
  No cell of these rows narrows 'for every input' (looked for: loops, veiled, ifaces, maps, wideKeys, modest, calm, conditions, laid).
  DERIVED. THE GIVEN ROWS OF THIS SEAT. 2 by the template 'for every input the law returns true; each argument reads behind the call as it read before'; 0 by the template 'total and deterministic' (their statements: YtckilfkallmamaaTotals.lean).
  GIVEN WITH THE SEED: the statements are not yours to turn. If you find one false, say at which input.
  Laid BY PROGRAM, IN A SANDBOX (cutbox-rows.mjs): the forced cells as the released guide's own fill.sh prints them over the translation 8088340dd5db9385… (all of the seat's roots in one cut). By AI agents, Wed Nov 11 2026. No macro, syntax, notation, axiom, sorry.
-/
import Derived.Test.YtckilfkallmamaaChecked
import GoSem.Claim
import GoSem.ClaimJoined
import GoSem.ClaimMapViews
import Derived.JoinedTies
import Derived.KernelRfl
namespace Go.Proofs.Ytckilfkallmamaa
/- THE CELL 'sum', in the pinned program and in every row, IS THE sha256 OF THE DUMP (.gsa) THAT YtckilfkallmamaaProg.lean LOADS. Nothing in Lean hashes anything: it is a label: what it is worth is what the hold of that sum in a sandbox is worth. -/
noncomputable def Try.pinned : Pinned := { name := "ytckilfkallmamaa", sum := "8088340dd5db93856f901875dbc01eb9f8a6acf51d60c999ce1f019ff981a527", checked := Try.checked }
namespace Rows
def none {H : Type} : Left H := { results := [], args := [] }

/-- 'laws.FnExactValidPasture': WHATEVER THE INPUT: true; the input reads as it did. -/
def fnExactValidPastureSpec : ChangeSpec := { name := "fnExactValidPasture", fn := fun _ => fun
  | [d] => { results := [.lit (.bool true)], args := [d] }
  | _ => none }
def fnExactValidPastureRow : OpenClaim := { program := "ytckilfkallmamaa", sum := "8088340dd5db93856f901875dbc01eb9f8a6acf51d60c999ce1f019ff981a527", func := "loop.example/g01345/laws.FnExactValidPasture", spec := "fnExactValidPasture", unfollowed := true, recurses := true, apart := false }
def FnExactValidPastureSaid : Prop := fnExactValidPastureRow.holds Try.pinned (OpenSpec.ofChange fnExactValidPastureSpec)

/-- ITS FALSE NEIGHBOUR: 'it returns false'. Refute it at one input. -/
def fnExactValidPastureWrong : ChangeSpec := { name := "fnExactValidPasture", fn := fun _ => fun
  | [d] => { results := [.lit (.bool false)], args := [d] }
  | _ => none }
def FnExactValidPastureWrongFalsely : Prop := fnExactValidPastureRow.holds Try.pinned (OpenSpec.ofChange fnExactValidPastureWrong)

/-- 'laws.FnExactSamePasture': WHATEVER THE INPUT: true; the input reads as it did. -/
def fnExactSamePastureSpec : ChangeSpec := { name := "fnExactSamePasture", fn := fun _ => fun
  | [d1, d2] => { results := [.lit (.bool true)], args := [d1, d2] }
  | _ => none }
def fnExactSamePastureRow : OpenClaim := { program := "ytckilfkallmamaa", sum := "8088340dd5db93856f901875dbc01eb9f8a6acf51d60c999ce1f019ff981a527", func := "loop.example/g01345/laws.FnExactSamePasture", spec := "fnExactSamePasture", apart := false }
def FnExactSamePastureSaid : Prop := fnExactSamePastureRow.holds Try.pinned (OpenSpec.ofChange fnExactSamePastureSpec)

/-- ITS FALSE NEIGHBOUR: 'it returns false'. Refute it at one input. -/
def fnExactSamePastureWrong : ChangeSpec := { name := "fnExactSamePasture", fn := fun _ => fun
  | [d1, d2] => { results := [.lit (.bool false)], args := [d1, d2] }
  | _ => none }
def FnExactSamePastureWrongFalsely : Prop := fnExactSamePastureRow.holds Try.pinned (OpenSpec.ofChange fnExactSamePastureWrong)

/- THE SECOND FORM. 'bulk': how many values and letters a reading holds, each counted each time it is reached (what is shared counts as often as it is met; a slice's spare places count too). A statement '..UptoSaid' is the law's where the arguments, and the package variables that the reading takes, are together of bulk at most 1048576: NARROWER than '..Said'. Prove '..Said' where nothing that the law and all that it calls make is longer than what came in: it says more and counts as full. Else prove '..UptoSaid'. A law counts once. -/
mutual
def uptoBulk {H : Type} : DataW H → Nat
  | .lit (.string bytes) => bytes.length + 1
  | .lit _ => 1
  | .nil => 1
  | .ptr d => uptoBulk d + 1
  | .slice elems spare => uptoBulkAll elems + uptoBulkAll spare + 1
  | .agg parts => uptoBulkAll parts + 1
  | .iface _ d => uptoBulk d + 1
  | .map entries => uptoBulkEntries entries + 1
  | .held _ => 1
def uptoBulkAll {H : Type} : List (DataW H) → Nat
  | [] => 0
  | d :: r => uptoBulk d + uptoBulkAll r
def uptoBulkEntries {H : Type} : List (Lit × DataW H) → Nat
  | [] => 0
  | x :: r => uptoBulkEntry x + uptoBulkEntries r
def uptoBulkEntry {H : Type} : Lit × DataW H → Nat
  | (.string bytes, d) => bytes.length + uptoBulk d + 1
  | (_, d) => uptoBulk d + 1
 end
def uptoSmall : (H : Type) → List (DataW H) → Bool := fun _ ds => decide (uptoBulkAll ds ≤ 1048576)
def OpenSpec.upto (s : _root_.Go.ChangeSpec) : _root_.Go.OpenSpec := { _root_.Go.OpenSpec.ofChange s with cond := some uptoSmall }

/-- 'laws.FnExactValidPasture', WHERE WHAT IT READS IS OF BULK AT MOST 1048576: true; the input reads as it did. -/
def fnExactValidPastureUptoRow : OpenClaim := { program := "ytckilfkallmamaa", sum := "8088340dd5db93856f901875dbc01eb9f8a6acf51d60c999ce1f019ff981a527", func := "loop.example/g01345/laws.FnExactValidPasture", spec := "fnExactValidPasture", unfollowed := true, recurses := true, apart := false, narrowed := true }
def FnExactValidPastureUptoSaid : Prop := fnExactValidPastureUptoRow.holds Try.pinned (OpenSpec.upto fnExactValidPastureSpec)

/-- 'laws.FnExactSamePasture', WHERE WHAT IT READS IS OF BULK AT MOST 1048576: true; the input reads as it did. -/
def fnExactSamePastureUptoRow : OpenClaim := { program := "ytckilfkallmamaa", sum := "8088340dd5db93856f901875dbc01eb9f8a6acf51d60c999ce1f019ff981a527", func := "loop.example/g01345/laws.FnExactSamePasture", spec := "fnExactSamePasture", apart := false, narrowed := true }
def FnExactSamePastureUptoSaid : Prop := fnExactSamePastureUptoRow.holds Try.pinned (OpenSpec.upto fnExactSamePastureSpec)

end Rows
end Go.Proofs.Ytckilfkallmamaa
