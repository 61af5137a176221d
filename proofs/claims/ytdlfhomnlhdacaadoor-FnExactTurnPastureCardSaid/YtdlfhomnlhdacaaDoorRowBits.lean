/-
  PLAIN LAWS: a row of ten bits by what its bits are; a bit put into it.
-/
import Derived.Test.YtdlfhomnlhdacaaDoorPutHurdle
namespace Go.Proofs.YtdlfhomnlhdacaaDoor
open Go Go.RowKit Go.BigFrame

/-- The row whose bits are those of l, from bit c on. -/
def rowL : List Bool → Nat → Int
  | [], _ => 0
  | b :: l, c => (if b then (2 : Int) ^ c else 0) + rowL l (c + 1)
/-- The row whose bits are P 0 .. P 9. -/
def rowV (P : Nat → Bool) : Int := rowL ((List.range 10).map P) 0
theorem rowV_congr {P R : Nat → Bool} (h : ∀ i, i < 10 → P i = R i) : rowV P = rowV R := by
  unfold rowV
  rw [List.map_congr_left (fun i hi => h i (List.mem_range.1 hi))]
theorem rowV_none : rowV (fun _ => false) = 0 := by decide
def boolsOf : Nat → List (List Bool)
  | 0 => [[]]
  | n + 1 => (boolsOf n).flatMap fun l => [l ++ [false], l ++ [true]]
theorem mem_boolsOf (P : Nat → Bool) : ∀ n, (List.range n).map P ∈ boolsOf n
  | 0 => by simp [boolsOf]
  | n + 1 => by
    rw [List.range_succ, List.map_append, boolsOf, List.mem_flatMap]
    refine ⟨_, mem_boolsOf P n, ?_⟩
    cases h : P n <;> simp [h]
def putChk (l : List Bool) (u : Nat) (b : Bool) : Bool := putR (rowL l 0) u b == rowL ((List.range 10).map fun i => if i = u then b else l.getD i false) 0
theorem putChk_all : ((boolsOf 10).all fun l => (List.range 10).all fun u => putChk l u true && putChk l u false) = true := by kernel_rfl
/-- A bit put into a row. -/
theorem putR_row (P : Nat → Bool) (u : Nat) (hu : u < 10) (b : Bool) : putR (rowV P) u b = rowV (fun i => if i = u then b else P i) := by
  have h := List.all_eq_true.1 putChk_all _ (mem_boolsOf P 10)
  have h2 := List.all_eq_true.1 h u (List.mem_range.2 hu)
  rw [Bool.and_eq_true] at h2
  have h3 : putChk ((List.range 10).map P) u b = true := by cases b; exact h2.2; exact h2.1
  unfold putChk at h3
  have h4 := eq_of_beq h3
  unfold rowV
  rw [h4]
  refine congrArg (fun l => rowL l 0) (List.map_congr_left fun i hi => ?_)
  have hi' := List.mem_range.1 hi
  by_cases e : i = u
  · simp [e]
  · simp [e, List.getD, hi']
end Go.Proofs.YtdlfhomnlhdacaaDoor
