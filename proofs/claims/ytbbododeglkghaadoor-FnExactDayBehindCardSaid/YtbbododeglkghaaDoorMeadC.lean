/-
  The cases of the code of meadows, a need and numbers; a Boolean and a code.
-/
import Derived.Test.YtbbododeglkghaaDoorMeadowOk
namespace Go.Proofs.YtbbododeglkghaaDoor
open Go Go.RowKit Go.BigFrame

def boolR (b : Bool) (c : Int) : Value := .tuple #[.bool b, .int .i64 c]
theorem ret_boolR {b b' : Bool} {c c' : Int} (h : b = b') (h2 : c = c') : Ending.returned (.tuple #[.bool b, .int .i64 c]) = .returned (boolR b' c') := by rw [h, h2]; rfl
theorem meadC_0 {n : Nat} {hs : Nat → Nat → Int} {need : Int} {f : Bool} (h : meadC n hs need f = 0) : meadsB n hs = true ∧ inB 1 1000 need = true ∧ f = true := by
  unfold meadC at h
  cases h1 : meadsB n hs
  · rw [h1] at h; simp at h
  · rw [h1] at h
    cases h2 : (inB 1 1000 need && f)
    · rw [h2] at h; simp at h
    · rw [Bool.and_eq_true] at h2; exact ⟨rfl, h2.1, h2.2⟩
/-- What may be said of the code. -/
theorem meadC_cases (n : Nat) (hs : Nat → Nat → Int) (need : Int) (f : Bool) :
    (meadsB n hs = false ∧ meadC n hs need f = 1) ∨ (meadsB n hs = true ∧ inB 1 1000 need = false ∧ meadC n hs need f = 2) ∨ (meadsB n hs = true ∧ inB 1 1000 need = true ∧ f = false ∧ meadC n hs need f = 2) ∨ (meadsB n hs = true ∧ inB 1 1000 need = true ∧ f = true ∧ meadC n hs need f = 0) := by
  cases h1 : meadsB n hs <;> cases h2 : inB 1 1000 need <;> cases f <;> simp [meadC, h1, h2]

end Go.Proofs.YtbbododeglkghaaDoor
