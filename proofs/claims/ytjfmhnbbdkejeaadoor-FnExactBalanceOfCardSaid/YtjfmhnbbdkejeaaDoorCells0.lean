/-
  impl.checkCells of no spots: an error or none, as a value.
-/
import Derived.Test.YtjfmhnbbdkejeaaDoorErrO
import Derived.Test.YtjfmhnbbdkejeaaDoorCheck
import Derived.Test.YtjfmhnbbdkejeaaDoorValidB
namespace Go.Proofs.YtjfmhnbbdkejeaaDoor
open Go Go.RowKit Go.BigFrame

theorem checkCells0_any {a : Nat → Addr} (g : Nat → Int) (hg : Fits g) (w : World) (hE : Errs a w) :
    Calls Tryd.prog 55 #[.agg (arr 122 (pas g)), .slice none 0 0] w fun e w' => e = .returned (errO (a 0) (!okB g)) ∧ Below w.heap.size w w' := by
  cases h : okB g
  · exact checkCells_bad g hg _ w hE (by rw [← okB_eq]; exact h)
  · exact checkCells_nil g hg w (by rw [← okB_eq]; exact h)
end Go.Proofs.YtjfmhnbbdkejeaaDoor
