/-
  Lists of spots as results: their numbers, and what a function that returns such a list and a code answers.
-/
import Derived.Test.YtflobpbfpkoghaaDoorLists
namespace Go.Proofs.YtflobpbfpkoghaaDoor
open Go Go.RowKit Go.BigFrame

/-- Spots of a list. -/
def sI (l : List (Int × Int)) : Nat → Int × Int := fun k => l.getD k (0, 0)
theorem spsI_old {l : List (Int × Int)} (x : Int × Int) {j : Nat} (h : j < l.length * 2) : sps (sI l) j = sps (sI (l ++ [x])) j := by
  have e : sI (l ++ [x]) (j / 2) = sI l (j / 2) := by simp [sI, List.getElem?_append, show j / 2 < l.length by omega]
  simp [sps, e]
theorem spsI_new (l : List (Int × Int)) (u v : Int) {j : Nat} (h : j < 2) : sp u v j = sps (sI (l ++ [(u, v)])) (l.length * 2 + j) := by
  rw [sps_row _ _ _ h]
  simp [sI]

/-- A list and a code. -/
def GivesI (w : World) (l : List (Int × Int)) (c : Int) (e : Ending) (w' : World) : Prop := ∃ v, e = .returned (.tuple #[v, .int .i64 c]) ∧ Lst w [] 2 v l.length (sps (sI l)) w'
def GivesL (w : World) (l : List (Int × Int)) (e : Ending) (w' : World) : Prop := ∃ v, e = .returned v ∧ Lst w [] 2 v l.length (sps (sI l)) w'
end Go.Proofs.YtflobpbfpkoghaaDoor
