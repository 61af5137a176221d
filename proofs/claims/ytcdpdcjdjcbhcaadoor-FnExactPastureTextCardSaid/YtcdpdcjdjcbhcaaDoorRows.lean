/-
  NARROWER THAN 'FOR EVERY INPUT', by the rows' own cells (each row's printed sentence says how): FnExactFenceText: laid · FnExactGrowthText: laid · FnExactStakesText: laid · FnExactSightsText: laid · FnExactPastureText: laid · FnExactGoatsText: laid · FnExactHerdText: ifaces, laid.
  DERIVED. THE GIVEN ROWS OF THIS SEAT. 7 by the template 'for every input the law returns true; each argument reads behind the call as it read before'; 0 by the template 'total and deterministic' (their statements: YtcdpdcjdjcbhcaaDoorTotals.lean).
  GIVEN WITH THE SEED: the statements are not yours to turn. If you find one false, say at which input.
  Laid BY PROGRAM, IN A SANDBOX (cutbox-rows.mjs): the forced cells as the released guide's own fill.sh prints them over the translation 0095ba276d839f82… (all of the seat's roots in one cut). By AI agents, Wed Nov 11 2026. No macro, syntax, notation, axiom, sorry.
-/
import Derived.Test.YtcdpdcjdjcbhcaaDoorChecked
import GoSem.Claim
import GoSem.ClaimJoined
import GoSem.ClaimMapViews
import Derived.JoinedTies
import Derived.KernelRfl
namespace Go.Proofs.YtcdpdcjdjcbhcaaDoor
/- THE CELL 'sum', in the pinned program and in every row, IS THE sha256 OF THE DUMP (.gsa) THAT YtcdpdcjdjcbhcaaDoorProg.lean LOADS. Nothing in Lean hashes anything: it is a label: what it is worth is what the hold of that sum in a sandbox is worth. -/
noncomputable def Tryd.pinned : Pinned := { name := "ytcdpdcjdjcbhcaadoor", sum := "0095ba276d839f8285bf04bd9dcf3dd556c762e6db1b32be4ce05d87dd1d54de", checked := Tryd.checked }
namespace Rows
def none {H : Type} : Left H := { results := [], args := [] }

/- WHAT THE LISTED PACKAGE-LEVEL VARIABLES READ AS WHEN THE CALL BEGINS. Each datum BY PROGRAM (the guide's laid-datum.mjs) off the statement by which the dump's own 'gosem.cut.vars' lays the variable. In a bare row this is a premise. The card (YtcdpdcjdjcbhcaaDoorCards.lean) ties it to the program's text. -/
def laid_math_bits_deBruijn32tab {H : Type} : DataW H := .agg [.lit (.int .u8 0), .lit (.int .u8 1), .lit (.int .u8 28), .lit (.int .u8 2), .lit (.int .u8 29), .lit (.int .u8 14), .lit (.int .u8 24), .lit (.int .u8 3), .lit (.int .u8 30), .lit (.int .u8 22), .lit (.int .u8 20), .lit (.int .u8 15), .lit (.int .u8 25), .lit (.int .u8 17), .lit (.int .u8 4), .lit (.int .u8 8), .lit (.int .u8 31), .lit (.int .u8 27), .lit (.int .u8 13), .lit (.int .u8 23), .lit (.int .u8 21), .lit (.int .u8 19), .lit (.int .u8 16), .lit (.int .u8 7), .lit (.int .u8 26), .lit (.int .u8 12), .lit (.int .u8 18), .lit (.int .u8 6), .lit (.int .u8 11), .lit (.int .u8 5), .lit (.int .u8 10), .lit (.int .u8 9)]
def laid_math_bits_deBruijn64tab {H : Type} : DataW H := .agg [.lit (.int .u8 0), .lit (.int .u8 1), .lit (.int .u8 56), .lit (.int .u8 2), .lit (.int .u8 57), .lit (.int .u8 49), .lit (.int .u8 28), .lit (.int .u8 3), .lit (.int .u8 61), .lit (.int .u8 58), .lit (.int .u8 42), .lit (.int .u8 50), .lit (.int .u8 38), .lit (.int .u8 29), .lit (.int .u8 17), .lit (.int .u8 4), .lit (.int .u8 62), .lit (.int .u8 47), .lit (.int .u8 59), .lit (.int .u8 36), .lit (.int .u8 45), .lit (.int .u8 43), .lit (.int .u8 51), .lit (.int .u8 22), .lit (.int .u8 53), .lit (.int .u8 39), .lit (.int .u8 33), .lit (.int .u8 30), .lit (.int .u8 24), .lit (.int .u8 18), .lit (.int .u8 12), .lit (.int .u8 5), .lit (.int .u8 63), .lit (.int .u8 55), .lit (.int .u8 48), .lit (.int .u8 27), .lit (.int .u8 60), .lit (.int .u8 41), .lit (.int .u8 37), .lit (.int .u8 16), .lit (.int .u8 46), .lit (.int .u8 35), .lit (.int .u8 44), .lit (.int .u8 21), .lit (.int .u8 52), .lit (.int .u8 32), .lit (.int .u8 23), .lit (.int .u8 11), .lit (.int .u8 54), .lit (.int .u8 26), .lit (.int .u8 40), .lit (.int .u8 15), .lit (.int .u8 34), .lit (.int .u8 20), .lit (.int .u8 31), .lit (.int .u8 10), .lit (.int .u8 25), .lit (.int .u8 14), .lit (.int .u8 19), .lit (.int .u8 9), .lit (.int .u8 13), .lit (.int .u8 8), .lit (.int .u8 7), .lit (.int .u8 6)]
def laid_internal_strconv_uint64pow10 {H : Type} : DataW H := .agg [.lit (.int .u64 1), .lit (.int .u64 10), .lit (.int .u64 100), .lit (.int .u64 1000), .lit (.int .u64 10000), .lit (.int .u64 100000), .lit (.int .u64 1000000), .lit (.int .u64 10000000), .lit (.int .u64 100000000), .lit (.int .u64 1000000000), .lit (.int .u64 10000000000), .lit (.int .u64 100000000000), .lit (.int .u64 1000000000000), .lit (.int .u64 10000000000000), .lit (.int .u64 100000000000000), .lit (.int .u64 1000000000000000), .lit (.int .u64 10000000000000000), .lit (.int .u64 100000000000000000), .lit (.int .u64 1000000000000000000), .lit (.int .u64 10000000000000000000)]
def laid_loop_example_g01345_impl_likeNames {H : Type} : DataW H := .agg [.lit (.string [114, 105, 99, 104]), .lit (.string [110, 101, 97, 114])]
def laid_loop_example_g01345_impl_errInvalid {H : Type} : DataW H := .iface "*errors.errorString" (.ptr (.agg [.lit (.string [105, 110, 118, 97, 108, 105, 100])]))
def laid_loop_example_g01345_impl_errRange {H : Type} : DataW H := .iface "*errors.errorString" (.ptr (.agg [.lit (.string [114, 97, 110, 103, 101])]))

/-- 'laws.FnExactFenceText': WHATEVER THE INPUT: true; the input reads as it did. -/
def fnExactFenceTextSpec : ChangeSpec := { name := "fnExactFenceText", fn := fun _ => fun
  | [d] => { results := [.lit (.bool true)], args := [d] }
  | _ => none }
def fnExactFenceTextRow : OpenClaim := { program := "ytcdpdcjdjcbhcaadoor", sum := "0095ba276d839f8285bf04bd9dcf3dd556c762e6db1b32be4ce05d87dd1d54de", func := "loop.example/g01345/laws.FnExactFenceText", spec := "fnExactFenceText", inPlace := ["internal/abi.NoEscape", "internal/bytealg.MakeNoZero"], recurses := true, named := ["internal/strconv.uint64pow10", "math/bits.deBruijn32tab", "math/bits.deBruijn64tab"], apart := false, laid := [("math/bits.deBruijn32tab", laid_math_bits_deBruijn32tab), ("math/bits.deBruijn64tab", laid_math_bits_deBruijn64tab), ("internal/strconv.uint64pow10", laid_internal_strconv_uint64pow10)] }
def FnExactFenceTextSaid : Prop := fnExactFenceTextRow.holds Tryd.pinned (OpenSpec.ofChange fnExactFenceTextSpec)

/-- ITS FALSE NEIGHBOUR: 'it returns false'. Refute it at one input. -/
def fnExactFenceTextWrong : ChangeSpec := { name := "fnExactFenceText", fn := fun _ => fun
  | [d] => { results := [.lit (.bool false)], args := [d] }
  | _ => none }
def FnExactFenceTextWrongFalsely : Prop := fnExactFenceTextRow.holds Tryd.pinned (OpenSpec.ofChange fnExactFenceTextWrong)

/-- 'laws.FnExactGrowthText': WHATEVER THE INPUT: true; the input reads as it did. -/
def fnExactGrowthTextSpec : ChangeSpec := { name := "fnExactGrowthText", fn := fun _ => fun
  | [d] => { results := [.lit (.bool true)], args := [d] }
  | _ => none }
def fnExactGrowthTextRow : OpenClaim := { program := "ytcdpdcjdjcbhcaadoor", sum := "0095ba276d839f8285bf04bd9dcf3dd556c762e6db1b32be4ce05d87dd1d54de", func := "loop.example/g01345/laws.FnExactGrowthText", spec := "fnExactGrowthText", inPlace := ["internal/abi.NoEscape", "internal/bytealg.MakeNoZero"], recurses := true, named := ["internal/strconv.uint64pow10", "math/bits.deBruijn32tab", "math/bits.deBruijn64tab"], apart := false, laid := [("math/bits.deBruijn32tab", laid_math_bits_deBruijn32tab), ("math/bits.deBruijn64tab", laid_math_bits_deBruijn64tab), ("internal/strconv.uint64pow10", laid_internal_strconv_uint64pow10)] }
def FnExactGrowthTextSaid : Prop := fnExactGrowthTextRow.holds Tryd.pinned (OpenSpec.ofChange fnExactGrowthTextSpec)

/-- ITS FALSE NEIGHBOUR: 'it returns false'. Refute it at one input. -/
def fnExactGrowthTextWrong : ChangeSpec := { name := "fnExactGrowthText", fn := fun _ => fun
  | [d] => { results := [.lit (.bool false)], args := [d] }
  | _ => none }
def FnExactGrowthTextWrongFalsely : Prop := fnExactGrowthTextRow.holds Tryd.pinned (OpenSpec.ofChange fnExactGrowthTextWrong)

/-- 'laws.FnExactStakesText': WHATEVER THE INPUT: true; the input reads as it did. -/
def fnExactStakesTextSpec : ChangeSpec := { name := "fnExactStakesText", fn := fun _ => fun
  | [d] => { results := [.lit (.bool true)], args := [d] }
  | _ => none }
def fnExactStakesTextRow : OpenClaim := { program := "ytcdpdcjdjcbhcaadoor", sum := "0095ba276d839f8285bf04bd9dcf3dd556c762e6db1b32be4ce05d87dd1d54de", func := "loop.example/g01345/laws.FnExactStakesText", spec := "fnExactStakesText", inPlace := ["internal/abi.NoEscape", "internal/bytealg.MakeNoZero"], recurses := true, named := ["internal/strconv.uint64pow10", "math/bits.deBruijn32tab", "math/bits.deBruijn64tab"], apart := false, laid := [("math/bits.deBruijn32tab", laid_math_bits_deBruijn32tab), ("math/bits.deBruijn64tab", laid_math_bits_deBruijn64tab), ("internal/strconv.uint64pow10", laid_internal_strconv_uint64pow10)] }
def FnExactStakesTextSaid : Prop := fnExactStakesTextRow.holds Tryd.pinned (OpenSpec.ofChange fnExactStakesTextSpec)

/-- ITS FALSE NEIGHBOUR: 'it returns false'. Refute it at one input. -/
def fnExactStakesTextWrong : ChangeSpec := { name := "fnExactStakesText", fn := fun _ => fun
  | [d] => { results := [.lit (.bool false)], args := [d] }
  | _ => none }
def FnExactStakesTextWrongFalsely : Prop := fnExactStakesTextRow.holds Tryd.pinned (OpenSpec.ofChange fnExactStakesTextWrong)

/-- 'laws.FnExactSightsText': WHATEVER THE INPUT: true; the input reads as it did. -/
def fnExactSightsTextSpec : ChangeSpec := { name := "fnExactSightsText", fn := fun _ => fun
  | [d] => { results := [.lit (.bool true)], args := [d] }
  | _ => none }
def fnExactSightsTextRow : OpenClaim := { program := "ytcdpdcjdjcbhcaadoor", sum := "0095ba276d839f8285bf04bd9dcf3dd556c762e6db1b32be4ce05d87dd1d54de", func := "loop.example/g01345/laws.FnExactSightsText", spec := "fnExactSightsText", inPlace := ["internal/abi.NoEscape", "internal/bytealg.MakeNoZero"], unfollowed := true, recurses := true, named := ["internal/strconv.uint64pow10", "math/bits.deBruijn32tab", "math/bits.deBruijn64tab"], apart := false, laid := [("math/bits.deBruijn32tab", laid_math_bits_deBruijn32tab), ("math/bits.deBruijn64tab", laid_math_bits_deBruijn64tab), ("internal/strconv.uint64pow10", laid_internal_strconv_uint64pow10)] }
def FnExactSightsTextSaid : Prop := fnExactSightsTextRow.holds Tryd.pinned (OpenSpec.ofChange fnExactSightsTextSpec)

/-- ITS FALSE NEIGHBOUR: 'it returns false'. Refute it at one input. -/
def fnExactSightsTextWrong : ChangeSpec := { name := "fnExactSightsText", fn := fun _ => fun
  | [d] => { results := [.lit (.bool false)], args := [d] }
  | _ => none }
def FnExactSightsTextWrongFalsely : Prop := fnExactSightsTextRow.holds Tryd.pinned (OpenSpec.ofChange fnExactSightsTextWrong)

/-- 'laws.FnExactPastureText': WHATEVER THE INPUT: true; the input reads as it did. -/
def fnExactPastureTextSpec : ChangeSpec := { name := "fnExactPastureText", fn := fun _ => fun
  | [d] => { results := [.lit (.bool true)], args := [d] }
  | _ => none }
def fnExactPastureTextRow : OpenClaim := { program := "ytcdpdcjdjcbhcaadoor", sum := "0095ba276d839f8285bf04bd9dcf3dd556c762e6db1b32be4ce05d87dd1d54de", func := "loop.example/g01345/laws.FnExactPastureText", spec := "fnExactPastureText", inPlace := ["internal/abi.NoEscape"], unfollowed := true, recurses := true, named := ["internal/strconv.uint64pow10", "math/bits.deBruijn32tab", "math/bits.deBruijn64tab"], apart := false, laid := [("math/bits.deBruijn32tab", laid_math_bits_deBruijn32tab), ("math/bits.deBruijn64tab", laid_math_bits_deBruijn64tab), ("internal/strconv.uint64pow10", laid_internal_strconv_uint64pow10)] }
def FnExactPastureTextSaid : Prop := fnExactPastureTextRow.holds Tryd.pinned (OpenSpec.ofChange fnExactPastureTextSpec)

/-- ITS FALSE NEIGHBOUR: 'it returns false'. Refute it at one input. -/
def fnExactPastureTextWrong : ChangeSpec := { name := "fnExactPastureText", fn := fun _ => fun
  | [d] => { results := [.lit (.bool false)], args := [d] }
  | _ => none }
def FnExactPastureTextWrongFalsely : Prop := fnExactPastureTextRow.holds Tryd.pinned (OpenSpec.ofChange fnExactPastureTextWrong)

/-- 'laws.FnExactGoatsText': WHATEVER THE INPUT: true; the input reads as it did. -/
def fnExactGoatsTextSpec : ChangeSpec := { name := "fnExactGoatsText", vars := ["loop.example/g01345/impl.likeNames"], fn := fun _ => fun
  | [d, g1] => { results := [.lit (.bool true)], args := [d], vars := [g1] }
  | _ => none }
def fnExactGoatsTextRow : OpenClaim := { program := "ytcdpdcjdjcbhcaadoor", sum := "0095ba276d839f8285bf04bd9dcf3dd556c762e6db1b32be4ce05d87dd1d54de", func := "loop.example/g01345/laws.FnExactGoatsText", spec := "fnExactGoatsText", inPlace := ["internal/abi.NoEscape"], recurses := true, named := ["loop.example/g01345/impl.likeNames", "internal/strconv.uint64pow10", "math/bits.deBruijn32tab", "math/bits.deBruijn64tab"], apart := false, laid := [("math/bits.deBruijn32tab", laid_math_bits_deBruijn32tab), ("math/bits.deBruijn64tab", laid_math_bits_deBruijn64tab), ("internal/strconv.uint64pow10", laid_internal_strconv_uint64pow10), ("loop.example/g01345/impl.likeNames", laid_loop_example_g01345_impl_likeNames)] }
def FnExactGoatsTextSaid : Prop := fnExactGoatsTextRow.holds Tryd.pinned (OpenSpec.ofChange fnExactGoatsTextSpec)

/-- ITS FALSE NEIGHBOUR: 'it returns false'. Refute it at one input. -/
def fnExactGoatsTextWrong : ChangeSpec := { name := "fnExactGoatsText", vars := ["loop.example/g01345/impl.likeNames"], fn := fun _ => fun
  | [d, g1] => { results := [.lit (.bool false)], args := [d], vars := [g1] }
  | _ => none }
def FnExactGoatsTextWrongFalsely : Prop := fnExactGoatsTextRow.holds Tryd.pinned (OpenSpec.ofChange fnExactGoatsTextWrong)

/-- 'laws.FnExactHerdText': WHATEVER THE INPUT: true; the input reads as it did. -/
def fnExactHerdTextSpec : ChangeSpec := { name := "fnExactHerdText", vars := ["loop.example/g01345/impl.errInvalid", "loop.example/g01345/impl.errRange"], fn := fun _ => fun
  | [d, g1, g2] => { results := [.lit (.bool true)], args := [d], vars := [g1, g2] }
  | _ => none }
def fnExactHerdTextRow : OpenClaim := { program := "ytcdpdcjdjcbhcaadoor", sum := "0095ba276d839f8285bf04bd9dcf3dd556c762e6db1b32be4ce05d87dd1d54de", func := "loop.example/g01345/laws.FnExactHerdText", spec := "fnExactHerdText", inPlace := ["internal/abi.NoEscape", "internal/bytealg.MakeNoZero"], unfollowed := true, recurses := true, named := ["loop.example/g01345/impl.errInvalid", "loop.example/g01345/impl.errRange", "math/bits.deBruijn32tab", "internal/strconv.uint64pow10", "math/bits.deBruijn64tab"], ifaces := true, apart := false, laid := [("math/bits.deBruijn32tab", laid_math_bits_deBruijn32tab), ("math/bits.deBruijn64tab", laid_math_bits_deBruijn64tab), ("internal/strconv.uint64pow10", laid_internal_strconv_uint64pow10), ("loop.example/g01345/impl.errInvalid", laid_loop_example_g01345_impl_errInvalid), ("loop.example/g01345/impl.errRange", laid_loop_example_g01345_impl_errRange)] }
def FnExactHerdTextSaid : Prop := fnExactHerdTextRow.holds Tryd.pinned (OpenSpec.ofChange fnExactHerdTextSpec)

/-- ITS FALSE NEIGHBOUR: 'it returns false'. Refute it at one input. -/
def fnExactHerdTextWrong : ChangeSpec := { name := "fnExactHerdText", vars := ["loop.example/g01345/impl.errInvalid", "loop.example/g01345/impl.errRange"], fn := fun _ => fun
  | [d, g1, g2] => { results := [.lit (.bool false)], args := [d], vars := [g1, g2] }
  | _ => none }
def FnExactHerdTextWrongFalsely : Prop := fnExactHerdTextRow.holds Tryd.pinned (OpenSpec.ofChange fnExactHerdTextWrong)

/- THE SECOND FORM. 'bulk': how many values and letters a reading holds, each counted each time it is reached (what is shared counts as often as it is met; a slice's spare places count too). A statement '..UptoSaid' is the law's where the arguments, and the package variables that the reading takes, are together of bulk at most 1048576: NARROWER than '..Said'. Prove '..Said' where nothing that the law and all that it calls make is longer than what came in: it says more and counts as full. Else prove '..UptoSaid'. A law counts once. -/
mutual
def uptoBulk {H : Type} : DataW H → Nat
  | .lit (.string bytes) => bytes.length + 1
  | .lit _ => 1
  | .nil => 1
  | .ptr d => uptoBulk d + 1
  | .slice elems spare => uptoBulkAll elems + uptoBulkAll spare + 1
  | .agg parts => uptoBulkAll parts + 1
  | .iface _ d => uptoBulk d + 1
  | .map entries => uptoBulkEntries entries + 1
  | .held _ => 1
def uptoBulkAll {H : Type} : List (DataW H) → Nat
  | [] => 0
  | d :: r => uptoBulk d + uptoBulkAll r
def uptoBulkEntries {H : Type} : List (Lit × DataW H) → Nat
  | [] => 0
  | x :: r => uptoBulkEntry x + uptoBulkEntries r
def uptoBulkEntry {H : Type} : Lit × DataW H → Nat
  | (.string bytes, d) => bytes.length + uptoBulk d + 1
  | (_, d) => uptoBulk d + 1
 end
def uptoSmall : (H : Type) → List (DataW H) → Bool := fun _ ds => decide (uptoBulkAll ds ≤ 1048576)
def OpenSpec.upto (s : _root_.Go.ChangeSpec) : _root_.Go.OpenSpec := { _root_.Go.OpenSpec.ofChange s with cond := some uptoSmall }

/-- 'laws.FnExactFenceText', WHERE WHAT IT READS IS OF BULK AT MOST 1048576: true; the input reads as it did. -/
def fnExactFenceTextUptoRow : OpenClaim := { program := "ytcdpdcjdjcbhcaadoor", sum := "0095ba276d839f8285bf04bd9dcf3dd556c762e6db1b32be4ce05d87dd1d54de", func := "loop.example/g01345/laws.FnExactFenceText", spec := "fnExactFenceText", inPlace := ["internal/abi.NoEscape", "internal/bytealg.MakeNoZero"], recurses := true, named := ["internal/strconv.uint64pow10", "math/bits.deBruijn32tab", "math/bits.deBruijn64tab"], apart := false, laid := [("math/bits.deBruijn32tab", laid_math_bits_deBruijn32tab), ("math/bits.deBruijn64tab", laid_math_bits_deBruijn64tab), ("internal/strconv.uint64pow10", laid_internal_strconv_uint64pow10)], narrowed := true }
def FnExactFenceTextUptoSaid : Prop := fnExactFenceTextUptoRow.holds Tryd.pinned (OpenSpec.upto fnExactFenceTextSpec)

/-- 'laws.FnExactGrowthText', WHERE WHAT IT READS IS OF BULK AT MOST 1048576: true; the input reads as it did. -/
def fnExactGrowthTextUptoRow : OpenClaim := { program := "ytcdpdcjdjcbhcaadoor", sum := "0095ba276d839f8285bf04bd9dcf3dd556c762e6db1b32be4ce05d87dd1d54de", func := "loop.example/g01345/laws.FnExactGrowthText", spec := "fnExactGrowthText", inPlace := ["internal/abi.NoEscape", "internal/bytealg.MakeNoZero"], recurses := true, named := ["internal/strconv.uint64pow10", "math/bits.deBruijn32tab", "math/bits.deBruijn64tab"], apart := false, laid := [("math/bits.deBruijn32tab", laid_math_bits_deBruijn32tab), ("math/bits.deBruijn64tab", laid_math_bits_deBruijn64tab), ("internal/strconv.uint64pow10", laid_internal_strconv_uint64pow10)], narrowed := true }
def FnExactGrowthTextUptoSaid : Prop := fnExactGrowthTextUptoRow.holds Tryd.pinned (OpenSpec.upto fnExactGrowthTextSpec)

/-- 'laws.FnExactStakesText', WHERE WHAT IT READS IS OF BULK AT MOST 1048576: true; the input reads as it did. -/
def fnExactStakesTextUptoRow : OpenClaim := { program := "ytcdpdcjdjcbhcaadoor", sum := "0095ba276d839f8285bf04bd9dcf3dd556c762e6db1b32be4ce05d87dd1d54de", func := "loop.example/g01345/laws.FnExactStakesText", spec := "fnExactStakesText", inPlace := ["internal/abi.NoEscape", "internal/bytealg.MakeNoZero"], recurses := true, named := ["internal/strconv.uint64pow10", "math/bits.deBruijn32tab", "math/bits.deBruijn64tab"], apart := false, laid := [("math/bits.deBruijn32tab", laid_math_bits_deBruijn32tab), ("math/bits.deBruijn64tab", laid_math_bits_deBruijn64tab), ("internal/strconv.uint64pow10", laid_internal_strconv_uint64pow10)], narrowed := true }
def FnExactStakesTextUptoSaid : Prop := fnExactStakesTextUptoRow.holds Tryd.pinned (OpenSpec.upto fnExactStakesTextSpec)

/-- 'laws.FnExactSightsText', WHERE WHAT IT READS IS OF BULK AT MOST 1048576: true; the input reads as it did. -/
def fnExactSightsTextUptoRow : OpenClaim := { program := "ytcdpdcjdjcbhcaadoor", sum := "0095ba276d839f8285bf04bd9dcf3dd556c762e6db1b32be4ce05d87dd1d54de", func := "loop.example/g01345/laws.FnExactSightsText", spec := "fnExactSightsText", inPlace := ["internal/abi.NoEscape", "internal/bytealg.MakeNoZero"], unfollowed := true, recurses := true, named := ["internal/strconv.uint64pow10", "math/bits.deBruijn32tab", "math/bits.deBruijn64tab"], apart := false, laid := [("math/bits.deBruijn32tab", laid_math_bits_deBruijn32tab), ("math/bits.deBruijn64tab", laid_math_bits_deBruijn64tab), ("internal/strconv.uint64pow10", laid_internal_strconv_uint64pow10)], narrowed := true }
def FnExactSightsTextUptoSaid : Prop := fnExactSightsTextUptoRow.holds Tryd.pinned (OpenSpec.upto fnExactSightsTextSpec)

/-- 'laws.FnExactPastureText', WHERE WHAT IT READS IS OF BULK AT MOST 1048576: true; the input reads as it did. -/
def fnExactPastureTextUptoRow : OpenClaim := { program := "ytcdpdcjdjcbhcaadoor", sum := "0095ba276d839f8285bf04bd9dcf3dd556c762e6db1b32be4ce05d87dd1d54de", func := "loop.example/g01345/laws.FnExactPastureText", spec := "fnExactPastureText", inPlace := ["internal/abi.NoEscape"], unfollowed := true, recurses := true, named := ["internal/strconv.uint64pow10", "math/bits.deBruijn32tab", "math/bits.deBruijn64tab"], apart := false, laid := [("math/bits.deBruijn32tab", laid_math_bits_deBruijn32tab), ("math/bits.deBruijn64tab", laid_math_bits_deBruijn64tab), ("internal/strconv.uint64pow10", laid_internal_strconv_uint64pow10)], narrowed := true }
def FnExactPastureTextUptoSaid : Prop := fnExactPastureTextUptoRow.holds Tryd.pinned (OpenSpec.upto fnExactPastureTextSpec)

/-- 'laws.FnExactGoatsText', WHERE WHAT IT READS IS OF BULK AT MOST 1048576: true; the input reads as it did. -/
def fnExactGoatsTextUptoRow : OpenClaim := { program := "ytcdpdcjdjcbhcaadoor", sum := "0095ba276d839f8285bf04bd9dcf3dd556c762e6db1b32be4ce05d87dd1d54de", func := "loop.example/g01345/laws.FnExactGoatsText", spec := "fnExactGoatsText", inPlace := ["internal/abi.NoEscape"], recurses := true, named := ["loop.example/g01345/impl.likeNames", "internal/strconv.uint64pow10", "math/bits.deBruijn32tab", "math/bits.deBruijn64tab"], apart := false, laid := [("math/bits.deBruijn32tab", laid_math_bits_deBruijn32tab), ("math/bits.deBruijn64tab", laid_math_bits_deBruijn64tab), ("internal/strconv.uint64pow10", laid_internal_strconv_uint64pow10), ("loop.example/g01345/impl.likeNames", laid_loop_example_g01345_impl_likeNames)], narrowed := true }
def FnExactGoatsTextUptoSaid : Prop := fnExactGoatsTextUptoRow.holds Tryd.pinned (OpenSpec.upto fnExactGoatsTextSpec)

/-- 'laws.FnExactHerdText', WHERE WHAT IT READS IS OF BULK AT MOST 1048576: true; the input reads as it did. -/
def fnExactHerdTextUptoRow : OpenClaim := { program := "ytcdpdcjdjcbhcaadoor", sum := "0095ba276d839f8285bf04bd9dcf3dd556c762e6db1b32be4ce05d87dd1d54de", func := "loop.example/g01345/laws.FnExactHerdText", spec := "fnExactHerdText", inPlace := ["internal/abi.NoEscape", "internal/bytealg.MakeNoZero"], unfollowed := true, recurses := true, named := ["loop.example/g01345/impl.errInvalid", "loop.example/g01345/impl.errRange", "math/bits.deBruijn32tab", "internal/strconv.uint64pow10", "math/bits.deBruijn64tab"], ifaces := true, apart := false, laid := [("math/bits.deBruijn32tab", laid_math_bits_deBruijn32tab), ("math/bits.deBruijn64tab", laid_math_bits_deBruijn64tab), ("internal/strconv.uint64pow10", laid_internal_strconv_uint64pow10), ("loop.example/g01345/impl.errInvalid", laid_loop_example_g01345_impl_errInvalid), ("loop.example/g01345/impl.errRange", laid_loop_example_g01345_impl_errRange)], narrowed := true }
def FnExactHerdTextUptoSaid : Prop := fnExactHerdTextUptoRow.holds Tryd.pinned (OpenSpec.upto fnExactHerdTextSpec)

end Rows
end Go.Proofs.YtcdpdcjdjcbhcaaDoor
