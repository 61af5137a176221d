/-
  spec.l00Min, l00Max by contracts.
-/
import Derived.Test.YtbbododeglkghaaDoorSpec1
namespace Go.Proofs.YtbbododeglkghaaDoor
open Go Go.RowKit Go.BigFrame

def minQ (a b : Int) : Int := if a < b then a else b
def maxQ (a b : Int) : Int := if b < a then a else b
theorem minQ_lt {a b : Int} (h : a < b) : minQ a b = a := by simp [minQ, h]
theorem minQ_ge {a b : Int} (h : ¬ a < b) : minQ a b = b := by simp [minQ, h]
theorem maxQ_gt {a b : Int} (h : b < a) : maxQ a b = a := by simp [maxQ, h]
theorem maxQ_le {a b : Int} (h : ¬ b < a) : maxQ a b = b := by simp [maxQ, h]
theorem minQ_min (a b : Int) : minQ a b = min a b := by unfold minQ; omega
theorem maxQ_max (a b : Int) : maxQ a b = max a b := by unfold maxQ; omega
theorem l00MinQ_any (a b : Int) (w : World) : Calls Tryd.prog 70 #[.int .i64 a, .int .i64 b] w fun e w' => e = .returned (.int .i64 (minQ a b)) ∧ Below w.heap.size w w' := by
  by_cases h : a < b
  · rw [minQ_lt h]
    go_enter Tryd.func70, Tryd.ntmps70
    go_wp2
    go_ret
    exact ⟨rfl, Below.refl _ _⟩
  · rw [minQ_ge h]
    go_enter Tryd.func70, Tryd.ntmps70
    go_wp2
    go_ret
    exact ⟨rfl, Below.refl _ _⟩
theorem l00MaxQ_any (a b : Int) (w : World) : Calls Tryd.prog 52 #[.int .i64 a, .int .i64 b] w fun e w' => e = .returned (.int .i64 (maxQ a b)) ∧ Below w.heap.size w w' := by
  by_cases h : b < a
  · rw [maxQ_gt h]
    go_enter Tryd.func52, Tryd.ntmps52
    go_wp2
    go_ret
    exact ⟨rfl, Below.refl _ _⟩
  · rw [maxQ_le h]
    go_enter Tryd.func52, Tryd.ntmps52
    go_wp2
    go_ret
    exact ⟨rfl, Below.refl _ _⟩
end Go.Proofs.YtbbododeglkghaaDoor
