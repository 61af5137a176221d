/-
  laws.eqSpot on what is equal.
-/
import Derived.Test.YtfndjccfjpmbjaaDoorConv
namespace Go.Proofs.YtfndjccfjpmbjaaDoor
open Go Go.RowKit Go.BigFrame

end Go.Proofs.YtfndjccfjpmbjaaDoor
