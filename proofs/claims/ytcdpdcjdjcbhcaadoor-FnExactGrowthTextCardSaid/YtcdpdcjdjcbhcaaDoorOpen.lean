/-
  What is common to the rows that reach the five errors: a spot out of its type; the variables' data are five.
-/
import Derived.Test.YtcdpdcjdjcbhcaaDoorFrame
import Derived.Test.YtcdpdcjdjcbhcaaDoorErr
import Derived.Test.YtcdpdcjdjcbhcaaDoorRows
import Derived.Test.YtcdpdcjdjcbhcaaDoorTie
import Derived.Test.YtcdpdcjdjcbhcaaDoorCards
import Derived.LaidMore
import Derived.MakeChecks
import Derived.Stop.Joined
import Derived.SevenTiedAt
namespace Go.Proofs.YtcdpdcjdjcbhcaaDoor
open Go Go.RowKit Go.ChangeShapes Go.WideShapes Go.ChangeAt

theorem own : ownKnob Tryd.prog.godebug = none := by kernel_rfl

set_option maxRecDepth 100000 in
theorem open_spot {W : World} {base : Nat} {v : Value} (h : Value.okWide Tryd.prog W .any base 86 v) : ∃ x y : Int, (-128 ≤ x ∧ x ≤ 127) ∧ (-128 ≤ y ∧ y ≤ 127) ∧ v = .agg (arr 2 (sp x y)) := by
  unfold Value.okWide at h
  rw [Tryd.underlying86] at h
  obtain ⟨cs, rfl, hsz, ts, hts, -, hcell⟩ := h
  have e1 : Tryd.prog.cellsOf 86 = 2 := by kernel_rfl
  have e2 : Tryd.prog.cellTypes Tryd.prog.depth 86 = some [29, 29] := by kernel_rfl
  rw [e1] at hsz
  obtain rfl : [29, 29] = ts := Option.some.inj (e2.symm.trans hts)
  have key : ∀ k, k < 2 → ∃ n, cs[k]? = some (.int .i8 n) ∧ -128 ≤ n ∧ n ≤ 127 := fun k hk => by
    have hv : cs[k]? = some cs[k] := Array.getElem?_eq_getElem (by omega)
    obtain ⟨u, hu, hc⟩ := hcell k _ hv
    have : u = 29 := by
      rcases (show k = 0 ∨ k = 1 by omega) with rfl | rfl <;> (simp at hu; exact hu.symm)
    subst this
    obtain ⟨n, hn, hb⟩ := cell_int Tryd.underlying29 hc
    exact ⟨n, by rw [hv, hn], has_i8 hb⟩
  obtain ⟨x, hx, bx⟩ := key 0 (by omega)
  obtain ⟨y, hy, by'⟩ := key 1 (by omega)
  refine ⟨x, y, bx, by', congrArg Value.agg (arr_ext hsz fun k hk => ?_)⟩
  rcases (show k = 0 ∨ k = 1 by omega) with rfl | rfl
  · rw [hx]; rfl
  · rw [hy]; rfl

theorem trodAll_five {H : Type} {enc : TypeId × Value → H} {P : Program} {w : World} {base : Nat} {spare : Nat → Bool} {held : Bool} {t t1 t2 t3 t4 : TypeId} {args : Array Value} {ds : List (DataW H)} {ps : List MemPlace} (h : DataW.TrodAll enc P w base spare held [t, t1, t2, t3, t4] args.toList ds ps) :
    ∃ v v1 v2 v3 v4 d d1 d2 d3 d4 p p1 p2 p3 p4, args = #[v, v1, v2, v3, v4] ∧ ds = [d, d1, d2, d3, d4] ∧ DataW.Trod enc P w base spare held t v d p ∧ DataW.Trod enc P w base spare held t1 v1 d1 p1 ∧ DataW.Trod enc P w base spare held t2 v2 d2 p2 ∧ DataW.Trod enc P w base spare held t3 v3 d3 p3 ∧ DataW.Trod enc P w base spare held t4 v4 d4 p4 := by
  obtain ⟨v, vs, d, ds0, p, q, hargs, rfl, rfl, hd, hrest⟩ := trodAll_cons h
  obtain ⟨v1, vs1, d1, ds1, p1, q1, rfl, rfl, rfl, hd1, hrest1⟩ := trodAll_cons hrest
  obtain ⟨v2, vs2, d2, ds2, p2, q2, rfl, rfl, rfl, hd2, hrest2⟩ := trodAll_cons hrest1
  obtain ⟨v3, vs3, d3, ds3, p3, q3, rfl, rfl, rfl, hd3, hrest3⟩ := trodAll_cons hrest2
  obtain ⟨v4, vs4, d4, ds4, p4, q4, rfl, rfl, rfl, hd4, hrest4⟩ := trodAll_cons hrest3
  obtain ⟨rfl, rfl, rfl⟩ := trodAll_nil hrest4
  exact ⟨v, v1, v2, v3, v4, d, d1, d2, d3, d4, p, p1, p2, p3, p4, by cases args; simp_all, rfl, hd, hd1, hd2, hd3, hd4⟩
theorem trodVars_length {H : Type} {enc : TypeId × Value → H} {P : Program} {w : World} {sp : Nat → Bool} : ∀ {ns : List String} {gs : List (DataW H)} {p : List MemPlace}, DataW.TrodVars enc P w sp ns gs p → gs.length = ns.length
  | [], [], _, _ => rfl
  | [], _ :: _, _, h => h.elim
  | _ :: _, [], _, h => h.elim
  | _ :: _, _ :: _, _, ⟨_, _, _, _, _, _, _, _, _, _, hs, _⟩ => congrArg (· + 1) (trodVars_length hs)
theorem many_of {α : Type} {l : List α} (h : l.length = 2) : ∃ x0 x1, l = [x0, x1] := by
  match l, h with
  | [x0, x1], _ => exact ⟨x0, x1, rfl⟩
end Go.Proofs.YtcdpdcjdjcbhcaaDoor
