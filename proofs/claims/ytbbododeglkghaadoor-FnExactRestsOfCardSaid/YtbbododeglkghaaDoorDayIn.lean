/-
  impl.dayOf, resting's and grazed's leaves, (impl.hunger).dayIn by contracts.
-/
import Derived.Test.YtbbododeglkghaaDoorMeadowD
import Derived.Test.YtbbododeglkghaaDoorMeadowI
import Derived.Test.YtbbododeglkghaaDoorQuietOld
namespace Go.Proofs.YtbbododeglkghaaDoor
open Go Go.RowKit Go.BigFrame

def restV : Value := .iface 85 (.agg #[])
def grazeV (need : Int) : Value := .iface 86 (.int .i64 need)
theorem dayOf_same (i m need : Int) (h : i = m) (w : World) : Calls Tryd.prog 58 #[.int .i64 i, .int .i64 m, .int .i64 need] w fun e w' => e = .returned (grazeV need) ∧ Below w.heap.size w w' := by
  have d0 : decide (i = m) = true := decide_eq_true h
  subst h
  go_enter Tryd.func58, Tryd.ntmps58
  go_wp2
  go_ret
  exact ⟨rfl, Below.refl _ _⟩
theorem dayOf_other (i m need : Int) (h : i ≠ m) (w : World) : Calls Tryd.prog 58 #[.int .i64 i, .int .i64 m, .int .i64 need] w fun e w' => e = .returned restV ∧ Below w.heap.size w w' := by
  have d0 : decide (i = m) = false := decide_eq_false h
  go_enter Tryd.func58, Tryd.ntmps58
  go_wp2
  go_ret
  exact ⟨rfl, Below.refl _ _⟩

theorem restRow : RowT Tryd.prog 85 0 := ⟨⟨_, Tryd.underlying85, rfl⟩, by kernel_rfl⟩
theorem restAgg : (Value.agg #[]) = .agg (arr 0 fun _ => undef) := rfl
set_option maxRecDepth 100000 in
theorem restLeaves (h : Nat → Int) (hb : meadB h = true) (w : World) : Calls Tryd.prog 104 #[.agg #[], .agg (arr 3 (vMeadow h))] w fun e w' => e = .returned (.int .i64 (minQ (h 2) (h 0 + h 1))) ∧ Below w.heap.size w w' := by
  have hM := Mem.nil w
  rw [restAgg]
  obtain ⟨h2, h0, h1⟩ := meadB_iff hb
  have c0 : IntKind.i64.wrap (h 0) = h 0 := IntWalk.i64_in _ (by omega)
  have c1 : IntKind.i64.wrap (h 1) = h 1 := IntWalk.i64_in _ (by omega)
  have c2 : IntKind.i64.wrap (h 2) = h 2 := IntWalk.i64_in _ (by omega)
  have c3 : IntKind.i64.wrap (h 0 + h 1) = h 0 + h 1 := IntWalk.i64_in _ (by omega)
  have e0 : vMeadow h 0 = .int .i16 (h 0) := rfl
  have e1 : vMeadow h 1 = .int .i16 (h 1) := rfl
  have e2 : vMeadow h 2 = .int .i16 (h 2) := rfl
  rcases (show h 2 < h 0 + h 1 ∨ ¬ h 2 < h 0 + h 1 by omega) with hq | hq
  all_goals
    first | have Hp : Hid (minQ (h 2) (h 0 + h 1) = h 2) := Lib.hid (minQ_lt hq)
          | have Hp : Hid (minQ (h 2) (h 0 + h 1) = h 0 + h 1) := Lib.hid (minQ_ge hq)
    first | have d0 : decide (h 2 < h 0 + h 1) = true := decide_eq_true hq
          | have d0 : decide (h 2 < h 0 + h 1) = false := decide_eq_false hq
    have tk_b1 : True := trivial; have tk_b2 : True := trivial; have tk_r0 : True := trivial; have tk_r1 : True := trivial
    go_enter Tryd.func104, Tryd.ntmps104
    go_wp2_with (first | (have _t := tk_b1; refine wpList_box rfl _ _ rfl _ _ rfl hM ?_; intro b1 W' hb1 hM'; clear hM tk_b1; have hM := hM'; clear hM') | (have _t := tk_b2; refine wpList_box rfl _ _ rfl _ _ rfl hM ?_; intro b2 W' hb2 hM'; clear hM tk_b2; have hM := hM'; clear hM') | (have _t := tk_r0; (refine wpList_get1 rfl _ _ rfl _ _ rfl hM 0 rfl (cellTab _ rfl) (by omega) _ e0 ?_); clear tk_r0) | (have _t := tk_r1; (refine wpList_get1 rfl _ _ rfl _ _ rfl hM 0 rfl (cellTab _ rfl) (by omega) _ e1 ?_); clear tk_r1) | (refine wpList_get1 rfl _ _ rfl _ _ rfl hM 0 rfl (cellTab _ rfl) (by omega) _ e2 ?_))
    go_ret
    exact ⟨ret_i Hp.out.symm, hM.below⟩

set_option maxRecDepth 100000 in
theorem grazeLeaves (h : Nat → Int) (need : Int) (hb : meadB h = true) (hd : 1 ≤ need ∧ need ≤ 1000) (he : need ≤ h 0) (w : World) : Calls Tryd.prog 105 #[.int .i64 need, .agg (arr 3 (vMeadow h))] w fun e w' => e = .returned (.int .i64 (minQ (h 2) (h 0 - need + h 1))) ∧ Below w.heap.size w w' := by
  have hM := Mem.nil w
  obtain ⟨h2, h0, h1⟩ := meadB_iff hb
  have c0 : IntKind.i64.wrap (h 0) = h 0 := IntWalk.i64_in _ (by omega)
  have c1 : IntKind.i64.wrap (h 1) = h 1 := IntWalk.i64_in _ (by omega)
  have c2 : IntKind.i64.wrap (h 2) = h 2 := IntWalk.i64_in _ (by omega)
  have c3 : IntKind.i64.wrap (h 0 - need + h 1) = h 0 - need + h 1 := IntWalk.i64_in _ (by omega)
  have c4 : IntKind.i64.wrap (h 0 - need) = h 0 - need := IntWalk.i64_in _ (by omega)
  have e0 : vMeadow h 0 = .int .i16 (h 0) := rfl
  have e1 : vMeadow h 1 = .int .i16 (h 1) := rfl
  have e2 : vMeadow h 2 = .int .i16 (h 2) := rfl
  rcases (show h 2 < h 0 - need + h 1 ∨ ¬ h 2 < h 0 - need + h 1 by omega) with hq | hq
  all_goals
    first | have Hp : Hid (minQ (h 2) (h 0 - need + h 1) = h 2) := Lib.hid (minQ_lt hq)
          | have Hp : Hid (minQ (h 2) (h 0 - need + h 1) = h 0 - need + h 1) := Lib.hid (minQ_ge hq)
    first | have d0 : decide (h 2 < h 0 - need + h 1) = true := decide_eq_true hq
          | have d0 : decide (h 2 < h 0 - need + h 1) = false := decide_eq_false hq
    have tk_b2 : True := trivial; have tk_r0 : True := trivial; have tk_r1 : True := trivial
    go_enter Tryd.func105, Tryd.ntmps105
    go_wp2_with (first | (have _t := tk_b2; refine wpList_box rfl _ _ rfl _ _ rfl hM ?_; intro b2 W' hb2 hM'; clear hM tk_b2; have hM := hM'; clear hM') | (have _t := tk_r0; (refine wpList_get1 rfl _ _ rfl _ _ rfl hM 0 rfl (cellTab _ rfl) (by omega) _ e0 ?_); clear tk_r0) | (have _t := tk_r1; (refine wpList_get1 rfl _ _ rfl _ _ rfl hM 0 rfl (cellTab _ rfl) (by omega) _ e1 ?_); clear tk_r1) | (refine wpList_get1 rfl _ _ rfl _ _ rfl hM 0 rfl (cellTab _ rfl) (by omega) _ e2 ?_))
    go_ret
    exact ⟨ret_i Hp.out.symm, hM.below⟩
end Go.Proofs.YtbbododeglkghaaDoor
