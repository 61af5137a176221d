/-
  laws.toSpot by contract.
-/
import Derived.Test.YtfndjccfjpmbjaaDoorConv
namespace Go.Proofs.YtfndjccfjpmbjaaDoor
open Go Go.RowKit Go.BigFrame

end Go.Proofs.YtfndjccfjpmbjaaDoor
