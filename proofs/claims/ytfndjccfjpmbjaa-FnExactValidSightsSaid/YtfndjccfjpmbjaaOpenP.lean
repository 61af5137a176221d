/-
  What is common to the rows that reach no variable: a spot out of its type.
-/
import Derived.Test.YtfndjccfjpmbjaaFrame
import Derived.Test.YtfndjccfjpmbjaaRows
namespace Go.Proofs.Ytfndjccfjpmbjaa
open Go Go.RowKit Go.ChangeShapes Go.WideShapes Go.ChangeAt

theorem own : ownKnob Try.prog.godebug = none := by kernel_rfl

set_option maxRecDepth 100000 in
theorem open_spot {W : World} {base : Nat} {v : Value} (h : Value.okWide Try.prog W .any base 59 v) : ∃ x y : Int, (-128 ≤ x ∧ x ≤ 127) ∧ (-128 ≤ y ∧ y ≤ 127) ∧ v = .agg (arr 2 (sp x y)) := by
  unfold Value.okWide at h
  rw [Try.underlying59] at h
  obtain ⟨cs, rfl, hsz, ts, hts, -, hcell⟩ := h
  have e1 : Try.prog.cellsOf 59 = 2 := by kernel_rfl
  have e2 : Try.prog.cellTypes Try.prog.depth 59 = some [28, 28] := by kernel_rfl
  rw [e1] at hsz
  obtain rfl : [28, 28] = ts := Option.some.inj (e2.symm.trans hts)
  have key : ∀ k, k < 2 → ∃ n, cs[k]? = some (.int .i8 n) ∧ -128 ≤ n ∧ n ≤ 127 := fun k hk => by
    have hv : cs[k]? = some cs[k] := Array.getElem?_eq_getElem (by omega)
    obtain ⟨u, hu, hc⟩ := hcell k _ hv
    have : u = 28 := by
      rcases (show k = 0 ∨ k = 1 by omega) with rfl | rfl <;> (simp at hu; exact hu.symm)
    subst this
    obtain ⟨n, hn, hb⟩ := cell_int Try.underlying28 hc
    exact ⟨n, by rw [hv, hn], has_i8 hb⟩
  obtain ⟨x, hx, bx⟩ := key 0 (by omega)
  obtain ⟨y, hy, by'⟩ := key 1 (by omega)
  refine ⟨x, y, bx, by', congrArg Value.agg (arr_ext hsz fun k hk => ?_)⟩
  rcases (show k = 0 ∨ k = 1 by omega) with rfl | rfl
  · rw [hx]; rfl
  · rw [hy]; rfl

end Go.Proofs.Ytfndjccfjpmbjaa
