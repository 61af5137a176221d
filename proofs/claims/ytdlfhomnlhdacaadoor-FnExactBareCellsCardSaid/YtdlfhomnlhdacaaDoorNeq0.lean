/-
  An error is not nil.
-/
import Derived.Test.YtdlfhomnlhdacaaDoorCodeOf
namespace Go.Proofs.YtdlfhomnlhdacaaDoor
open Go Go.RowKit Go.BigFrame
@[go_sem] theorem guard_err (x : Operand) (a : Addr) (W : World) : (eqGuard .neq 71 x (.const .nilIface) (errV a) .nilIface).run Tryd.prog W = .ok () W := by
  unfold errV; go_simp
@[go_sem] theorem neq_err (a : Addr) (W : World) : (binOp .neq 71 (errV a) .nilIface).run Tryd.prog W = .ok (.bool true) W := by
  unfold errV; go_simp
end Go.Proofs.YtdlfhomnlhdacaaDoor
