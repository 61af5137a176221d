/-
  What is common to the rows that reach the five errors: a spot out of its type; the variables' data are five.
-/
import Derived.Test.YtdmhdljknfkajaaDoorFrame
import Derived.Test.YtdmhdljknfkajaaDoorErr
import Derived.Test.YtdmhdljknfkajaaDoorRows
import Derived.Test.YtdmhdljknfkajaaDoorTie
import Derived.Test.YtdmhdljknfkajaaDoorCards
import Derived.LaidMore
import Derived.MakeChecks
import Derived.Stop.Joined
import Derived.SevenTiedAt
namespace Go.Proofs.YtdmhdljknfkajaaDoor
open Go Go.RowKit Go.ChangeShapes Go.WideShapes Go.ChangeAt

theorem own : ownKnob Tryd.prog.godebug = none := by kernel_rfl

set_option maxRecDepth 100000 in
theorem open_spot {W : World} {base : Nat} {v : Value} (h : Value.okWide Tryd.prog W .any base 55 v) : ∃ x y : Int, (-128 ≤ x ∧ x ≤ 127) ∧ (-128 ≤ y ∧ y ≤ 127) ∧ v = .agg (arr 2 (sp x y)) := by
  unfold Value.okWide at h
  rw [Tryd.underlying55] at h
  obtain ⟨cs, rfl, hsz, ts, hts, -, hcell⟩ := h
  have e1 : Tryd.prog.cellsOf 55 = 2 := by kernel_rfl
  have e2 : Tryd.prog.cellTypes Tryd.prog.depth 55 = some [22, 22] := by kernel_rfl
  rw [e1] at hsz
  obtain rfl : [22, 22] = ts := Option.some.inj (e2.symm.trans hts)
  have key : ∀ k, k < 2 → ∃ n, cs[k]? = some (.int .i8 n) ∧ -128 ≤ n ∧ n ≤ 127 := fun k hk => by
    have hv : cs[k]? = some cs[k] := Array.getElem?_eq_getElem (by omega)
    obtain ⟨u, hu, hc⟩ := hcell k _ hv
    have : u = 22 := by
      rcases (show k = 0 ∨ k = 1 by omega) with rfl | rfl <;> (simp at hu; exact hu.symm)
    subst this
    obtain ⟨n, hn, hb⟩ := cell_int Tryd.underlying22 hc
    exact ⟨n, by rw [hv, hn], has_i8 hb⟩
  obtain ⟨x, hx, bx⟩ := key 0 (by omega)
  obtain ⟨y, hy, by'⟩ := key 1 (by omega)
  refine ⟨x, y, bx, by', congrArg Value.agg (arr_ext hsz fun k hk => ?_)⟩
  rcases (show k = 0 ∨ k = 1 by omega) with rfl | rfl
  · rw [hx]; rfl
  · rw [hy]; rfl

theorem trodVars_length {H : Type} {enc : TypeId × Value → H} {P : Program} {w : World} {sp : Nat → Bool} : ∀ {ns : List String} {gs : List (DataW H)} {p : List MemPlace}, DataW.TrodVars enc P w sp ns gs p → gs.length = ns.length
  | [], [], _, _ => rfl
  | [], _ :: _, _, h => h.elim
  | _ :: _, [], _, h => h.elim
  | _ :: _, _ :: _, _, ⟨_, _, _, _, _, _, _, _, _, _, hs, _⟩ => congrArg (· + 1) (trodVars_length hs)
theorem many_of {α : Type} {l : List α} (h : l.length = 6) : ∃ x0 x1 x2 x3 x4 x5, l = [x0, x1, x2, x3, x4, x5] := by
  match l, h with
  | [x0, x1, x2, x3, x4, x5], _ => exact ⟨x0, x1, x2, x3, x4, x5, rfl⟩
end Go.Proofs.YtdmhdljknfkajaaDoor
