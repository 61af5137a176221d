/-
  Closed facts of FnExactGrowthText's row, the heavy ones each apart.
-/
import Derived.Test.YtcdpdcjdjcbhcaaDoorRows
import Derived.Test.YtcdpdcjdjcbhcaaDoorChecked
import Derived.KernelRfl
import Derived.JoinedOf
namespace Go.Proofs.YtcdpdcjdjcbhcaaDoor
open Go

theorem growthText_k1 : (Rows.fnExactGrowthTextRow.inPlace == Tryd.prog.inPlace 4) = true := by kernel_rfl
theorem growthText_k2 : (Rows.fnExactGrowthTextRow.unfollowed == Tryd.prog.unfollowed 4) = true := by kernel_rfl
theorem growthText_k3 : (Rows.fnExactGrowthTextRow.recurses == Tryd.prog.recurses 4) = true := by kernel_rfl
theorem growthText_k4 : (Rows.fnExactGrowthTextRow.named == Tryd.prog.varsNamed 4) = true := by kernel_rfl
set_option maxRecDepth 100000 in
theorem growthText_closed : joinedFacts Tryd.prog 4 Tryd.f4 Rows.fnExactGrowthTextSpec Rows.fnExactGrowthTextRow = true := by
  unfold joinedFacts
  simp only [Bool.and_eq_true]
  repeat' apply And.intro
  all_goals first | (with_reducible exact growthText_k1) | (with_reducible exact growthText_k2) | (with_reducible exact growthText_k3) | (with_reducible exact growthText_k4) | kernel_rfl
end Go.Proofs.YtcdpdcjdjcbhcaaDoor
