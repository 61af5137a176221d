/-
  What SetHurdle asks and puts.
-/
import Derived.Test.YtdlfhomnlhdacaaDoorCheckSide
import Derived.Test.YtdlfhomnlhdacaaDoorPutHurdle
namespace Go.Proofs.YtdlfhomnlhdacaaDoor
end Go.Proofs.YtdlfhomnlhdacaaDoor
