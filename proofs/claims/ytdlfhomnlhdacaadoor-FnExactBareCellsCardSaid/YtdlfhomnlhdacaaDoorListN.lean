/-
  Lists of cells as spots, and what functions that return such lists answer; cells of which something holds.
-/
import Derived.Test.YtdlfhomnlhdacaaDoorLists
import Derived.Test.YtdlfhomnlhdacaaDoorCells
namespace Go.Proofs.YtdlfhomnlhdacaaDoor
open Go Go.RowKit Go.BigFrame

/-- Cells as spots. -/
def sL (l : List (Nat × Nat)) : Nat → Int × Int := fun k => (((l.getD k (0, 0)).1 : Int), ((l.getD k (0, 0)).2 : Int))
theorem sL_old (l : List (Nat × Nat)) (x : Nat × Nat) {k : Nat} (h : k < l.length) : sL (l ++ [x]) k = sL l k := by simp [sL, List.getElem?_append, h]
theorem sL_new (l : List (Nat × Nat)) (x : Nat × Nat) : sL (l ++ [x]) l.length = ((x.1 : Int), (x.2 : Int)) := by simp [sL]
theorem sps_old {l : List (Nat × Nat)} (x : Nat × Nat) {j : Nat} (h : j < l.length * 2) : sps (sL l) j = sps (sL (l ++ [x])) j := by
  have e : sL (l ++ [x]) (j / 2) = sL l (j / 2) := sL_old l x (by omega)
  simp [sps, e]
theorem sps_new (l : List (Nat × Nat)) (u v : Nat) {j : Nat} (h : j < 2) : sp (u : Int) (v : Int) j = sps (sL (l ++ [(u, v)])) (l.length * 2 + j) := by
  rw [sps_row _ _ _ h, sL_new]
/-- A list; a list and a code. -/
def Gives1 (w : World) (l : List (Nat × Nat)) (e : Ending) (w' : World) : Prop := ∃ v, e = .returned v ∧ Lst w [] 2 v l.length (sps (sL l)) w'
def GivesS (w : World) (l : List (Nat × Nat)) (c : Int) (e : Ending) (w' : World) : Prop := ∃ v, e = .returned (.tuple #[v, .int .i64 c]) ∧ Lst w [] 2 v l.length (sps (sL l)) w'

/-- The cells of which p holds. -/
def thatF (p : Nat → Nat → Bool) (l : List (Nat × Nat)) : List (Nat × Nat) := l.filter fun s => p s.1 s.2
theorem thatF_len {p : Nat → Nat → Bool} {l : List (Nat × Nat)} : (thatF p l).length ≤ l.length := List.length_filter_le _ _
theorem thatU_yes {p : Nat → Nat → Bool} {W k j : Nat} (h : j < W) (hz : p j k = true) : thatF p (upto W (k * W + (j + 1))) = thatF p (upto W (k * W + j)) ++ [(j, k)] := by
  unfold thatF
  rw [← Nat.add_assoc, upto_succ, List.filter_append, cellAt_row h]
  simp [hz]
theorem thatU_no {p : Nat → Nat → Bool} {W k j : Nat} (h : j < W) (hz : p j k = false) : thatF p (upto W (k * W + (j + 1))) = thatF p (upto W (k * W + j)) := by
  unfold thatF
  rw [← Nat.add_assoc, upto_succ, List.filter_append, cellAt_row h]
  simp [hz]
/-- The cells of one row. -/
def rowF (p : Nat → Nat → Bool) (k : Nat) : Nat → List (Nat × Nat)
  | 0 => []
  | j + 1 => rowF p k j ++ if p j k then [(j, k)] else []
theorem thatU_row {p : Nat → Nat → Bool} {W k : Nat} : ∀ j, j ≤ W → thatF p (upto W (k * W + j)) = thatF p (upto W (k * W)) ++ rowF p k j
  | 0, _ => by simp [rowF]
  | j + 1, h => by
    have ih := thatU_row (p := p) (W := W) (k := k) j (by omega)
    cases hz : p j k
    · rw [thatU_no (show j < W by omega) hz, ih]; simp [rowF, hz]
    · rw [thatU_yes (show j < W by omega) hz, ih]; simp [rowF, hz]
theorem rowF_more {p : Nat → Nat → Bool} {k W : Nat} (h : ∀ u, W ≤ u → p u k = false) : ∀ i, rowF p k (W + i) = rowF p k W
  | 0 => rfl
  | i + 1 => by
    show rowF p k (W + i) ++ (if p (W + i) k then [(W + i, k)] else []) = _
    rw [rowF_more h i, h (W + i) (by omega)]
    simp
/-- Cells beyond the pasture's own are none. -/
theorem thatU_rows {p : Nat → Nat → Bool} {W V : Nat} (hV : W ≤ V) (h : ∀ u v, W ≤ u → p u v = false) : ∀ k, thatF p (upto V (k * V)) = thatF p (upto W (k * W))
  | 0 => by simp [upto]
  | k + 1 => by
    have e1 : (k + 1) * V = k * V + V := by rw [Nat.add_mul, Nat.one_mul]
    have e2 : (k + 1) * W = k * W + W := by rw [Nat.add_mul, Nat.one_mul]
    rw [e1, e2, thatU_row V (Nat.le_refl _), thatU_row W (Nat.le_refl _), thatU_rows hV h k]
    have := rowF_more (p := p) (k := k) (W := W) (fun u hu => h u k hu) (V - W)
    rw [show W + (V - W) = V by omega] at this
    rw [this]
theorem rowF_none {p : Nat → Nat → Bool} {k : Nat} (h : ∀ u, p u k = false) : ∀ j, rowF p k j = []
  | 0 => rfl
  | j + 1 => by
    show rowF p k j ++ (if p j k then [(j, k)] else []) = []
    rw [rowF_none h j, h j]; rfl
theorem thatU_high {p : Nat → Nat → Bool} {W H : Nat} (h : ∀ u v, H ≤ v → p u v = false) : ∀ i, thatF p (upto W ((H + i) * W)) = thatF p (upto W (H * W))
  | 0 => rfl
  | i + 1 => by
    have e1 : (H + (i + 1)) * W = (H + i) * W + W := by rw [← Nat.add_assoc, Nat.add_mul, Nat.one_mul]
    rw [e1, thatU_row W (Nat.le_refl _), thatU_high h i, rowF_none (fun u => h u (H + i) (by omega)), List.append_nil]
theorem that_all {p : Nat → Nat → Bool} {W H : Nat} (hW : W ≤ 10) (hH : H ≤ 10) (h : ∀ u v, (W ≤ u ∨ H ≤ v) → p u v = false) : thatF p (upto 10 (10 * 10)) = thatF p (upto W (W * H)) := by
  rw [thatU_rows hW (fun u v hu => h u v (.inl hu)) 10]
  have := thatU_high (p := p) (W := W) (H := H) (fun u v hv => h u v (.inr hv)) (10 - H)
  rw [show H + (10 - H) = 10 by omega] at this
  rw [this, Nat.mul_comm]
end Go.Proofs.YtdlfhomnlhdacaaDoor
