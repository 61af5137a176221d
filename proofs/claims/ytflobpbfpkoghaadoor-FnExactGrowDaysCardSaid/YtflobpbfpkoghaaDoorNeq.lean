/-
  An error is not nil: beside the checks.
-/
import Derived.Test.YtflobpbfpkoghaaDoorCheck
import Derived.Test.YtflobpbfpkoghaaDoorNeq0
