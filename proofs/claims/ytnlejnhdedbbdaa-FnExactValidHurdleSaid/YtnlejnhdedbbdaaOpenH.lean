/-
  A hurdle out of its type.
-/
import Derived.Test.YtnlejnhdedbbdaaFrame
namespace Go.Proofs.Ytnlejnhdedbbdaa
open Go Go.RowKit Go.ChangeShapes Go.WideShapes Go.ChangeAt

theorem cell_bool {P : Program} {W : World} {base : Nat} {t : TypeId} {v : Value} (ht : P.underlying t = some .bool) (h : Cell.okWide P W .any base t v) : ∃ b, v = .bool b := by
  unfold Cell.okWide at h
  rw [ht] at h
  cases v <;> simp [Cell.ok, ht] at h
  case bool b => exact ⟨b, rfl⟩
set_option maxRecDepth 100000 in
theorem open_hurdle {W : World} {base : Nat} {v : Value} (h : Value.okWide Try.prog W .any base 33 v) : ∃ (x y : Int) (s : Bool), (-128 ≤ x ∧ x ≤ 127) ∧ (-128 ≤ y ∧ y ≤ 127) ∧ v = .agg (arr 3 (hd x y s)) := by
  unfold Value.okWide at h
  rw [Try.underlying33] at h
  obtain ⟨cs, rfl, hsz, ts, hts, -, hcell⟩ := h
  have e1 : Try.prog.cellsOf 33 = 3 := by kernel_rfl
  have e2 : Try.prog.cellTypes Try.prog.depth 33 = some [22, 22, 4] := by kernel_rfl
  rw [e1] at hsz
  obtain rfl : [22, 22, 4] = ts := Option.some.inj (e2.symm.trans hts)
  have hv : ∀ k (hk : k < 3), cs[k]? = some (cs[k]'(by omega)) := fun k hk => Array.getElem?_eq_getElem (by omega)
  obtain ⟨u0, q0, c0⟩ := hcell 0 _ (hv 0 (by omega))
  obtain ⟨u1, q1, c1⟩ := hcell 1 _ (hv 1 (by omega))
  obtain ⟨u2, q2, c2⟩ := hcell 2 _ (hv 2 (by omega))
  obtain rfl : 22 = u0 := by simpa using q0
  obtain rfl : 22 = u1 := by simpa using q1
  obtain rfl : 4 = u2 := by simpa using q2
  obtain ⟨x, hx, bx⟩ := cell_int Try.underlying22 c0
  obtain ⟨y, hy, by'⟩ := cell_int Try.underlying22 c1
  obtain ⟨s, hs⟩ := cell_bool Try.underlying4 c2
  refine ⟨x, y, s, has_i8 bx, has_i8 by', congrArg Value.agg (arr_ext hsz fun k hk => ?_)⟩
  rcases (show k = 0 ∨ k = 1 ∨ k = 2 by omega) with rfl | rfl | rfl
  · rw [hv 0 (by omega), hx]; rfl
  · rw [hv 1 (by omega), hy]; rfl
  · rw [hv 2 (by omega), hs]; rfl
end Go.Proofs.Ytnlejnhdedbbdaa
