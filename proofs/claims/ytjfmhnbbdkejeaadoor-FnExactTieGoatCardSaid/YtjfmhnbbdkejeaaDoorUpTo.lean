/-
  impl.checkUpTo and impl.checkGrass by contracts.
-/
import Derived.Test.YtjfmhnbbdkejeaaDoorCodeOf
import Derived.Test.YtjfmhnbbdkejeaaDoorSpec1
namespace Go.Proofs.YtjfmhnbbdkejeaaDoor
open Go Go.RowKit Go.BigFrame

set_option maxHeartbeats 400000 in
theorem checkUpTo_no {a : Nat → Addr} (n m : Int) (w : World) (hE : Errs a w) (h : inB 0 m n = false) :
    Calls Tryd.prog 51 #[.int .i64 n, .int .i64 m] w fun e w' => e = .returned (errV (a 1)) ∧ Below w.heap.size w w' := by
  have v1 : w.cell? ⟨1, 0, none⟩ = some (errV (a 1)) := hE.vars 1 (by omega)
  have h' : ¬ (0 ≤ n ∧ n ≤ m) := of_decide_eq_false h
  clear hE h
  by_cases h0 : n < 0
  · clear h'
    go_enter Tryd.func51, Tryd.ntmps51
    go_wp2
    go_ret
    exact ⟨rfl, Below.refl _ _⟩
  · have h1 : m < n := by omega
    have d1 : decide (m < n) = true := decide_eq_true h1
    clear h'
    go_enter Tryd.func51, Tryd.ntmps51
    go_wp2
    go_ret
    exact ⟨rfl, Below.refl _ _⟩
set_option maxHeartbeats 400000 in
theorem checkUpTo_yes (n m : Int) (w : World) (h : inB 0 m n = true) :
    Calls Tryd.prog 51 #[.int .i64 n, .int .i64 m] w fun e w' => e = .returned .nilIface ∧ Below w.heap.size w w' := by
  obtain ⟨h0, h1⟩ := inB_true h
  have d0 : decide (n < 0) = false := decide_eq_false (by omega)
  have d1 : decide (m < n) = false := decide_eq_false (by omega)
  clear h h0 h1
  go_enter Tryd.func51, Tryd.ntmps51
  go_wp2
  go_ret
  exact ⟨rfl, Below.refl _ _⟩
end Go.Proofs.YtjfmhnbbdkejeaaDoor
