/-
  Closed facts of FnExactBareCells's row, the heavy ones each apart.
-/
import Derived.Test.YtdlfhomnlhdacaaDoorRows
import Derived.Test.YtdlfhomnlhdacaaDoorChecked
import Derived.KernelRfl
import Derived.JoinedOf
namespace Go.Proofs.YtdlfhomnlhdacaaDoor
open Go

theorem bareCells_k1 : (Rows.fnExactBareCellsRow.inPlace == Tryd.prog.inPlace 13) = true := by kernel_rfl
theorem bareCells_k2 : (Rows.fnExactBareCellsRow.unfollowed == Tryd.prog.unfollowed 13) = true := by kernel_rfl
theorem bareCells_k3 : (Rows.fnExactBareCellsRow.recurses == Tryd.prog.recurses 13) = true := by kernel_rfl
theorem bareCells_k4 : (Rows.fnExactBareCellsRow.named == Tryd.prog.varsNamed 13) = true := by kernel_rfl
set_option maxRecDepth 100000 in
theorem bareCells_closed : joinedFacts Tryd.prog 13 Tryd.f13 Rows.fnExactBareCellsSpec Rows.fnExactBareCellsRow = true := by
  unfold joinedFacts
  simp only [Bool.and_eq_true]
  repeat' apply And.intro
  all_goals first | (with_reducible exact bareCells_k1) | (with_reducible exact bareCells_k2) | (with_reducible exact bareCells_k3) | (with_reducible exact bareCells_k4) | kernel_rfl
end Go.Proofs.YtdlfhomnlhdacaaDoor
