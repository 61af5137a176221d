/-
  spec.l02Ok, spec.ValidGoats, impl.ValidGoats by contracts.
-/
import Derived.Test.YtjfmhnbbdkejeaaDoorGoatTold
import Derived.Test.YtjfmhnbbdkejeaaDoorValidB
namespace Go.Proofs.YtjfmhnbbdkejeaaDoor
open Go Go.RowKit Go.BigFrame

/-- Are goats valid for a pasture? -/
def goatsB (g : Nat → Int) (n : Nat) (hs : Nat → Nat → Int) : Bool := okB g && ((List.range n).all fun i => goatB g (hs i)) && decide (n ≤ 20)
theorem goatsB_ok {g : Nat → Int} {n : Nat} {hs : Nat → Nat → Int} (h : okB g = false) : goatsB g n hs = false := by simp [goatsB, h]
theorem goatsB_no {g : Nat → Int} {n i : Nat} {hs : Nat → Nat → Int} (hi : i < n) (h : goatB g (hs i) = false) : goatsB g n hs = false := by
  have : ((List.range n).all fun i => goatB g (hs i)) = false := by rw [List.all_eq_false]; exact ⟨i, by simpa using hi, by rw [h]; decide⟩
  simp [goatsB, this]
theorem goatsB_yes {g : Nat → Int} {n : Nat} {hs : Nat → Nat → Int} (ho : okB g = true) (h : ∀ i, i < n → goatB g (hs i) = true) : goatsB g n hs = decide (n ≤ 20) := by
  have : ((List.range n).all fun i => goatB g (hs i)) = true := by rw [List.all_eq_true]; intro i hi; exact h i (by simpa using hi)
  simp [goatsB, this, ho]
theorem goatsB_many {g : Nat → Int} {n : Nat} {hs : Nat → Nat → Int} (h : 20 < n) : goatsB g n hs = false := by
  have : decide (n ≤ 20) = false := decide_eq_false (by omega)
  simp [goatsB, this]

end Go.Proofs.YtjfmhnbbdkejeaaDoor
