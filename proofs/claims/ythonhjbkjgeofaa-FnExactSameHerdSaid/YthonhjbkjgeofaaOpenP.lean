/-
  What is common to the rows that reach no variable: a spot out of its type.
-/
import Derived.Test.YthonhjbkjgeofaaFrame
import Derived.Test.YthonhjbkjgeofaaRows
namespace Go.Proofs.Ythonhjbkjgeofaa
open Go Go.RowKit Go.ChangeShapes Go.WideShapes Go.ChangeAt

theorem own : ownKnob Try.prog.godebug = none := by kernel_rfl

end Go.Proofs.Ythonhjbkjgeofaa
