/-
  impl.isDiet by contract.
-/
import Derived.Test.YtdlfhomnlhdacaaDoorSpec1
import Derived.Lib.Hide
namespace Go.Proofs.YtdlfhomnlhdacaaDoor
open Go Go.RowKit Go.BigFrame

def dietB (e l : Int) : Bool := inB 0 100 e && inB 0 1 l
theorem dietB_cases (e l : Int) : (inB 0 100 e = false ∧ dietB e l = false) ∨ (inB 0 100 e = true ∧ inB 0 1 l = false ∧ dietB e l = false) ∨ (inB 0 100 e = true ∧ inB 0 1 l = true ∧ dietB e l = true) := by
  cases h1 : inB 0 100 e <;> cases h2 : inB 0 1 l <;> simp [dietB, h1, h2]

set_option maxHeartbeats 400000 in
theorem isDiet_any (e l : Int) (w : World) :
    Calls Tryd.prog 114 #[.int .i64 e, .int .i64 l] w fun r w' => r = .returned (.bool (dietB e l)) ∧ Below w.heap.size w w' := by
  rcases (show e < 0 ∨ (0 ≤ e ∧ 100 < e) ∨ (0 ≤ e ∧ e ≤ 100) by omega) with r0 | ⟨r0, r1⟩ | ⟨r0, r1⟩
  · have hf : Hid (dietB e l = false) := Lib.hid (by simp [dietB, inB_no (show ¬ (0 ≤ e ∧ e ≤ 100) by omega)])
    have d0 : decide (0 ≤ e) = false := decide_eq_false (by omega)
    clear r0
    go_enter Tryd.func114, Tryd.ntmps114
    go_wp2
    go_ret
    exact ⟨ret_bool hf.out.symm, Below.refl _ _⟩
  · have hf : Hid (dietB e l = false) := Lib.hid (by simp [dietB, inB_no (show ¬ (0 ≤ e ∧ e ≤ 100) by omega)])
    have d0 : decide (0 ≤ e) = true := decide_eq_true (by omega)
    have d1 : decide (e ≤ 100) = false := decide_eq_false (by omega)
    clear r0 r1
    go_enter Tryd.func114, Tryd.ntmps114
    go_wp2
    go_ret
    exact ⟨ret_bool hf.out.symm, Below.refl _ _⟩
  have d0 : decide (0 ≤ e) = true := decide_eq_true (by omega)
  have d1 : decide (e ≤ 100) = true := decide_eq_true (by omega)
  have q0 := inB_yes (show 0 ≤ e ∧ e ≤ 100 by omega)
  clear r0 r1
  rcases (show l < 0 ∨ (0 ≤ l ∧ 1 < l) ∨ (0 ≤ l ∧ l ≤ 1) by omega) with r0 | ⟨r0, r1⟩ | ⟨r0, r1⟩
  · have hf : Hid (dietB e l = false) := Lib.hid (by simp [dietB, inB_no (show ¬ (0 ≤ l ∧ l ≤ 1) by omega)])
    have d2 : decide (0 ≤ l) = false := decide_eq_false (by omega)
    clear r0 q0
    go_enter Tryd.func114, Tryd.ntmps114
    go_wp2
    go_ret
    exact ⟨ret_bool hf.out.symm, Below.refl _ _⟩
  · have hf : Hid (dietB e l = false) := Lib.hid (by simp [dietB, inB_no (show ¬ (0 ≤ l ∧ l ≤ 1) by omega)])
    have d2 : decide (0 ≤ l) = true := decide_eq_true (by omega)
    have d3 : decide (l ≤ 1) = false := decide_eq_false (by omega)
    clear r0 r1 q0
    go_enter Tryd.func114, Tryd.ntmps114
    go_wp2
    go_ret
    exact ⟨ret_bool hf.out.symm, Below.refl _ _⟩
  · have hf : Hid (dietB e l = true) := Lib.hid (by simp [dietB, q0, inB_yes (show 0 ≤ l ∧ l ≤ 1 by omega)])
    have d2 : decide (0 ≤ l) = true := decide_eq_true (by omega)
    have d3 : decide (l ≤ 1) = true := decide_eq_true (by omega)
    clear r0 r1 q0
    go_enter Tryd.func114, Tryd.ntmps114
    go_wp2
    go_ret
    exact ⟨ret_bool hf.out.symm, Below.refl _ _⟩

end Go.Proofs.YtdlfhomnlhdacaaDoor
