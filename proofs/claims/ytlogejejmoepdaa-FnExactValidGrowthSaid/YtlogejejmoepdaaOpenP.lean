/-
  What is common to the rows that reach no variable: a spot out of its type.
-/
import Derived.Test.YtlogejejmoepdaaFrame
import Derived.Test.YtlogejejmoepdaaRows
namespace Go.Proofs.Ytlogejejmoepdaa
open Go Go.RowKit Go.ChangeShapes Go.WideShapes Go.ChangeAt

theorem own : ownKnob Try.prog.godebug = none := by kernel_rfl

end Go.Proofs.Ytlogejejmoepdaa
