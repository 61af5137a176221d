/-
  spec.ValidGrowth by contract; laws.FnExactValidGrowth returns true.
-/
import Derived.Test.YtlogejejmoepdaaGrow
import Derived.Test.YtlogejejmoepdaaGrowConv
namespace Go.Proofs.Ytlogejejmoepdaa
open Go Go.RowKit Go.BigFrame

theorem specValidGrowth_any (h : Nat → Int) (hF : FitsW h) (w : World) :
    Calls Try.prog 4 #[.agg (arr 12 (gro h))] w fun e w' => e = .returned (.bool (growB h)) ∧ Below w.heap.size w w' := by
  have hM := Mem.nil w
  have tk_b1 : True := trivial
  go_enter Try.func4, Try.ntmps4
  go_wp2_with (first | (have _t := tk_b1; refine wpList_box rfl _ _ rfl _ _ rfl hM ?_; intro b1 W' hb1 hM'; clear hM tk_b1; have hM := hM'; clear hM') | (go_at_call 7; (with_reducible refine (l04Ok_any h hF b1 _ (hM.ats 0 _ _ _ rfl)).mono ?_); rintro e W' ⟨rfl, hb'⟩; have hM' := hM.call hb'; clear hM hb'; have hM := hM'; clear hM'))
  go_ret
  exact ⟨ret_bool (a := growB h) rfl, hM.below⟩

theorem lawValidGrowth_any (h : Nat → Int) (hF : FitsW h) (w : World) :
    Calls Try.prog 3 #[.agg (arr 12 (gro h))] w fun e w' => e = .returned (.bool true) ∧ Below w.heap.size w w' := by
  have hM := Mem.nil w
  cases hz : growB h
  all_goals
    have Hz := Lib.hid hz
    clear hz
    have tk_b1 : True := trivial
    go_enter Try.func3, Try.ntmps3
    go_wp2_with (first | (have _t := tk_b1; refine wpList_box rfl _ _ rfl _ _ rfl hM ?_; intro b1 W' hb1 hM'; clear hM tk_b1; have hM := hM'; clear hM') | (refine wpList_get rfl _ _ rfl _ _ rfl hM 0 rfl (rowTab _ _ rfl) (by omega) ?_) | (go_at_call 5; (with_reducible refine (toGrowth_gro h _).mono ?_); rintro e W' ⟨rfl, hb'⟩; have hM' := hM.call hb'; clear hM hb'; have hM := hM'; clear hM') | (go_at_call 4; (with_reducible refine (specValidGrowth_any h hF _).mono ?_); rintro e W' ⟨rfl, hb'⟩; rw [Hz.out]; have hM' := hM.call hb'; clear hM hb'; have hM := hM'; clear hM') | (go_at_call 6; (with_reducible refine (implValidGrowth_any h hF _).mono ?_); rintro e W' ⟨rfl, hb'⟩; rw [Hz.out]; have hM' := hM.call hb'; clear hM hb'; have hM := hM'; clear hM'))
    go_ret
    exact ⟨rfl, hM.below⟩
end Go.Proofs.Ytlogejejmoepdaa
