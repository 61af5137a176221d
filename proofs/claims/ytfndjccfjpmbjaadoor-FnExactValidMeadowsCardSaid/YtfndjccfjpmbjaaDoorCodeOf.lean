/-
  The errors alone.
-/
import Derived.Test.YtfndjccfjpmbjaaDoorErr
import Derived.Lib.Hide
namespace Go.Proofs.YtfndjccfjpmbjaaDoor
end Go.Proofs.YtfndjccfjpmbjaaDoor
