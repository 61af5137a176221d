/-
  An error is not nil: for '=='.
-/
import Derived.Test.YtfndjccfjpmbjaaDoorNeq0
namespace Go.Proofs.YtfndjccfjpmbjaaDoor
open Go Go.RowKit Go.BigFrame
@[go_sem] theorem guardq_err (x : Operand) (a : Addr) (W : World) : (eqGuard .eql 39 x (.const .nilIface) (errV a) .nilIface).run Tryd.prog W = .ok () W := by
  unfold errV; go_simp
@[go_sem] theorem eql_err (a : Addr) (W : World) : (binOp .eql 39 (errV a) .nilIface).run Tryd.prog W = .ok (.bool false) W := by
  unfold errV; go_simp
end Go.Proofs.YtfndjccfjpmbjaaDoor
