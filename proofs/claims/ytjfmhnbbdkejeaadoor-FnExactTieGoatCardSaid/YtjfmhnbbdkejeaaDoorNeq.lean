/-
  An error is not nil: beside the checks.
-/
import Derived.Test.YtjfmhnbbdkejeaaDoorCheck
import Derived.Test.YtjfmhnbbdkejeaaDoorNeq0
