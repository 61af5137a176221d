/-
  laws.toSpot by contract.
-/
import Derived.Test.YtbbododeglkghaaDoorConv
namespace Go.Proofs.YtbbododeglkghaaDoor
open Go Go.RowKit Go.BigFrame

end Go.Proofs.YtbbododeglkghaaDoor
