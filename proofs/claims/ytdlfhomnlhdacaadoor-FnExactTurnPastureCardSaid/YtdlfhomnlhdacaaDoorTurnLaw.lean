/-
  laws.FnExactTurnPasture returns true.
-/
import Derived.Test.YtdlfhomnlhdacaaDoorTurnSpec
namespace Go.Proofs.YtdlfhomnlhdacaaDoor
open Go Go.RowKit Go.Shelf Go.BigFrame

set_option maxRecDepth 100000 in
set_option maxHeartbeats 1000000 in
theorem lawTurnPasture_any {a : Nat → Addr} (g : Nat → Int) (hg : Fits g) (w : World) (hE : Errs a w) :
    Calls Tryd.prog 12 #[.agg (arr 122 (pas g))] w fun e w' => e = .returned (.bool true) ∧ Below w.heap.size w w' := by
  have hM := Mem.nil w
  have HE := Lib.hid hE
  have Hp := Lib.hid (pasR_eq (turG g) (turC g))
  clear hE
  have tk_b1 : True := trivial; have tk_b2 : True := trivial; have tk_b3 : True := trivial; have tk_q1 : True := trivial; have tk_q2 : True := trivial; have tk_q3 : True := trivial; have tk_q4 : True := trivial; have tk_q5 : True := trivial; have tk_q6 : True := trivial
  go_enter Tryd.func12, Tryd.ntmps12
  go_wp2_with (first | (go_at_call 19; (with_reducible refine (toPasture_pas g _).mono ?_); rintro e W' ⟨rfl, hb'⟩; have hM' := hM.call hb'; clear hM hb'; have hM := hM'; clear hM') | (go_at_call 39; (with_reducible refine (specTurn_any g hg _).mono ?_); rintro e W' ⟨rfl, hb'⟩; rw [Hp.out]; have hM' := hM.call hb'; clear hM hb'; have hM := hM'; clear hM') | (go_at_call 40; (with_reducible refine (implTurn_any g hg _ (HE.out.below hM.below)).mono ?_); rintro e W' ⟨rfl, hb'⟩; rw [Hp.out]; have hM' := hM.call hb'; clear hM hb'; have hM := hM'; clear hM') | (go_at_call 17; refine (eqP_lay _ _ _ _).mono ?_; rintro e W' ⟨rfl, hb'⟩; have hM' := hM.call hb'; clear hM hb'; have hM := hM'; clear hM') | (have _t := tk_b1; refine wpList_box rfl _ _ rfl _ _ rfl hM ?_; intro b1 W' hb1 hM'; clear hM tk_b1; have hM := hM'; clear hM') | (have _t := tk_q1; (refine wpList_get rfl _ _ rfl _ _ rfl hM 0 rfl (rowTab _ _ rfl) (by omega) ?_); clear tk_q1) | (have _t := tk_b2; refine wpList_zero rfl _ rfl (zeroTab _ _ _ rfl) hM ?_; intro b2 W' hb2 hM'; clear hM tk_b2; have hM := hM'; clear hM') | (have _t := tk_q2; (refine wpList_lay rfl _ _ _ rfl _ _ rfl _ _ rfl hM 0 rfl (by assumption) (rowTab _ _ rfl) (by omega) ?_ ?_; (first | (intro _ _; rfl) | (intro k _; exact h1 _) | (intro k _; simp only [lay, upd]; (repeat' split) <;> first | exact h1 _ | rfl)); intro W' hM'; clear hM; have hM := hM'; clear hM'; simp only [List.set] at hM); clear tk_q2) | (have _t := tk_q3; (refine wpList_get rfl _ _ rfl _ _ rfl hM 1 rfl (rowTab _ _ rfl) (by omega) ?_); clear tk_q3) | (have _t := tk_b3; refine wpList_zero rfl _ rfl (zeroTab _ _ _ rfl) hM ?_; intro b3 W' hb3 hM'; clear hM tk_b3; have hM := hM'; clear hM') | (have _t := tk_q4; (refine wpList_lay rfl _ _ _ rfl _ _ rfl _ _ rfl hM 0 rfl (by assumption) (rowTab _ _ rfl) (by omega) ?_ ?_; (first | (intro _ _; rfl) | (intro k _; exact h1 _) | (intro k _; simp only [lay, upd]; (repeat' split) <;> first | exact h1 _ | rfl)); intro W' hM'; clear hM; have hM := hM'; clear hM'; simp only [List.set] at hM); clear tk_q4) | (have _t := tk_q5; (refine wpList_get rfl _ _ rfl _ _ rfl hM 0 rfl (rowTab _ _ rfl) (by omega) ?_); clear tk_q5) | (have _t := tk_q6; (refine wpList_get rfl _ _ rfl _ _ rfl hM 1 rfl (rowTab _ _ rfl) (by omega) ?_); clear tk_q6))
  go_ret
  exact ⟨rfl, hM.below⟩
end Go.Proofs.YtdlfhomnlhdacaaDoor
