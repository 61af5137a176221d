/-
  An error is not nil: beside the checks.
-/
import Derived.Test.YtdlfhomnlhdacaaDoorCheck
import Derived.Test.YtdlfhomnlhdacaaDoorNeq0
