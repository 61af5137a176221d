/-
  A spot out of a reading.
-/
import Derived.Test.YtfndjccfjpmbjaaDoorToSpot
import Derived.Test.YtfndjccfjpmbjaaDoorListC
namespace Go.Proofs.YtfndjccfjpmbjaaDoor
open Go Go.RowKit Go.BigFrame Go.ChangeShapes Go.WideShapes Go.Deep

section
variable {H : Type} {enc : TypeId × Value → H} {w : World} {base : Nat} {spare : Nat → Bool} {held : Bool}
end
end Go.Proofs.YtfndjccfjpmbjaaDoor
