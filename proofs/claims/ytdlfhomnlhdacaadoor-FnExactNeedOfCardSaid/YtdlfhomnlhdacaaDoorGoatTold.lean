/-
  (impl.Goat).isToldFor by contract.
-/
import Derived.Test.YtdlfhomnlhdacaaDoorGoatR
namespace Go.Proofs.YtdlfhomnlhdacaaDoor
open Go Go.RowKit Go.BigFrame

set_option maxRecDepth 100000 in
set_option maxHeartbeats 400000 in
theorem isToldFor_any (g h : Nat → Int) (hF : FitsG h) (w : World) :
    Calls Tryd.prog 110 #[.agg (arr 7 (gt h)), .agg (arr 122 (pas g))] w fun e w' => e = .returned (.bool (toldB g h)) ∧ Below w.heap.size w w' := by
  have hM := Mem.nil w
  have e0 : arr 2 (fun j => gt h (0 + j)) = arr 2 (sp (h 0) (h 1)) := gt_sp (by omega)
  have e2 : arr 2 (fun j => gt h (2 + j)) = arr 2 (sp (h 2) (h 3)) := gt_sp (by omega)
  have e4 : gt h 4 = .int .i16 (h 4) := rfl
  have e5 : gt h 5 = .int .i16 (h 5) := rfl
  have e6 : gt h 6 = .int .i8 (h 6) := rfl
  have m5 := hF.mid 5 (by omega) (by omega)
  have m6 := hF.hi
  have c5 : IntKind.i64.wrap (h 5) = h 5 := IntWalk.i64_in _ (by omega)
  have c6 : IntKind.i64.wrap (h 6) = h 6 := IntWalk.i64_in _ (by omega)
  have qe1 : ∀ W, (binOp .neq 40 (.agg (arr 2 (sp (h 2) (h 3)))) (.agg #[.int .i8 0, .int .i8 0])).run Tryd.prog W = .ok (.bool (!told0 h)) W := fun W => neq_spot (h 2) (h 3) 0 0 W
  have qe2 : ∀ W, (Op.equalIn 10000 40 (.agg (arr 2 (sp (h 2) (h 3)))) (.agg #[.int .i8 0, .int .i8 0])).run Tryd.prog W = .ok (told0 h) W := fun W => run_equal_spot (h 2) (h 3) 0 0 9998 W
  clear hF
  have tk_b1 : True := trivial; have tk_b2 : True := trivial; have tk_q1 : True := trivial; have tk_q2 : True := trivial; have tk_q3 : True := trivial; have tk_q4 : True := trivial; have tk_q5 : True := trivial; have tk_q6 : True := trivial; have tk_q7 : True := trivial; have tk_q8 : True := trivial; have tk_q9 : True := trivial; have tk_q10 : True := trivial
  rcases toldB_cases g h with ⟨h1, hp⟩ | ⟨h1, h2, hp⟩ | ⟨h1, h2, h3, h4, hp⟩ | ⟨h1, h2, -, h5, hp⟩ | ⟨h1, h2, -, h5, hp⟩ | ⟨h1, h2, h34, ⟨h5, h6⟩, hp⟩
  · have Hp := Lib.hid hp
    have H1 := Lib.hid h1
    clear hp h1
    go_enter Tryd.func110, Tryd.ntmps110
    go_wp2_with (first | (go_at_call 92; (with_reducible refine (hasCell_any g (h 0) (h 1) _).mono ?_); rintro e W' ⟨rfl, hb'⟩; rw [H1.out]; have hM' := hM.call hb'; clear hM hb'; have hM := hM'; clear hM') | (have _t := tk_b1; refine wpList_box rfl _ _ rfl _ _ rfl hM ?_; intro b1 W' hb1 hM'; clear hM tk_b1; have hM := hM'; clear hM') | (have _t := tk_b2; refine wpList_box rfl _ _ rfl _ _ rfl hM ?_; intro b2 W' hb2 hM'; clear hM tk_b2; have hM := hM'; clear hM') | (have _t := tk_q1; (refine wpList_get rfl _ _ rfl _ _ rfl hM 0 rfl (rowTab _ _ rfl) (by omega) ?_); clear tk_q1) | (have _t := tk_q2; (refine wpList_get rfl _ _ rfl _ _ rfl hM 1 rfl (rowTab _ _ rfl) (by omega) ?_); rw [e0]; clear tk_q2))
    go_ret
    exact ⟨ret_bool Hp.out.symm, hM.below⟩
  · have Hp := Lib.hid hp
    have H1 := Lib.hid h1
    have H2 := Lib.hid h2
    clear hp h1 h2
    go_enter Tryd.func110, Tryd.ntmps110
    go_wp2_with (first | (go_at_call 92; (with_reducible refine (hasCell_any g (h 0) (h 1) _).mono ?_); rintro e W' ⟨rfl, hb'⟩; rw [H1.out]; have hM' := hM.call hb'; clear hM hb'; have hM := hM'; clear hM') | (go_at_call 92; (with_reducible refine (hasCell_any g (h 2) (h 3) _).mono ?_); rintro e W' ⟨rfl, hb'⟩; rw [H2.out]; have hM' := hM.call hb'; clear hM hb'; have hM := hM'; clear hM') | (have _t := tk_b1; refine wpList_box rfl _ _ rfl _ _ rfl hM ?_; intro b1 W' hb1 hM'; clear hM tk_b1; have hM := hM'; clear hM') | (have _t := tk_b2; refine wpList_box rfl _ _ rfl _ _ rfl hM ?_; intro b2 W' hb2 hM'; clear hM tk_b2; have hM := hM'; clear hM') | (have _t := tk_q1; (refine wpList_get rfl _ _ rfl _ _ rfl hM 0 rfl (rowTab _ _ rfl) (by omega) ?_); clear tk_q1) | (have _t := tk_q2; (refine wpList_get rfl _ _ rfl _ _ rfl hM 1 rfl (rowTab _ _ rfl) (by omega) ?_); rw [e0]; clear tk_q2) | (have _t := tk_q3; (refine wpList_gget ?_ _ _ rfl _ _ rfl hM 0 rfl (rowTab _ _ rfl) (by omega) ?_; kernel_rfl); clear tk_q3) | (have _t := tk_q4; (refine wpList_gget ?_ _ _ rfl _ _ rfl hM 1 rfl (rowTab _ _ rfl) (by omega) ?_; (kernel_rfl); (rw [e2])); clear tk_q4))
    go_ret
    exact ⟨ret_bool Hp.out.symm, hM.below⟩
  · have Hp := Lib.hid hp
    have H1 := Lib.hid h1
    have H2 := Lib.hid h2
    have H3 := Lib.hid h3
    simp only [h4, Bool.not_false] at qe1 qe2
    clear hp h1 h2 h3 h4
    go_enter Tryd.func110, Tryd.ntmps110
    go_wp2_with (first | (go_at_call 92; (with_reducible refine (hasCell_any g (h 0) (h 1) _).mono ?_); rintro e W' ⟨rfl, hb'⟩; rw [H1.out]; have hM' := hM.call hb'; clear hM hb'; have hM := hM'; clear hM') | (go_at_call 92; (with_reducible refine (hasCell_any g (h 2) (h 3) _).mono ?_); rintro e W' ⟨rfl, hb'⟩; rw [H2.out]; have hM' := hM.call hb'; clear hM hb'; have hM := hM'; clear hM') | (go_at_call 113; (with_reducible refine (isFree_any h _).mono ?_); rintro e W' ⟨rfl, hb'⟩; rw [H3.out]; have hM' := hM.call hb'; clear hM hb'; have hM := hM'; clear hM') | (have _t := tk_b1; refine wpList_box rfl _ _ rfl _ _ rfl hM ?_; intro b1 W' hb1 hM'; clear hM tk_b1; have hM := hM'; clear hM') | (have _t := tk_b2; refine wpList_box rfl _ _ rfl _ _ rfl hM ?_; intro b2 W' hb2 hM'; clear hM tk_b2; have hM := hM'; clear hM') | (have _t := tk_q1; (refine wpList_get rfl _ _ rfl _ _ rfl hM 0 rfl (rowTab _ _ rfl) (by omega) ?_); clear tk_q1) | (have _t := tk_q2; (refine wpList_get rfl _ _ rfl _ _ rfl hM 1 rfl (rowTab _ _ rfl) (by omega) ?_); rw [e0]; clear tk_q2) | (have _t := tk_q3; (refine wpList_gget ?_ _ _ rfl _ _ rfl hM 0 rfl (rowTab _ _ rfl) (by omega) ?_; kernel_rfl); clear tk_q3) | (have _t := tk_q4; (refine wpList_gget ?_ _ _ rfl _ _ rfl hM 1 rfl (rowTab _ _ rfl) (by omega) ?_; (kernel_rfl); (rw [e2])); clear tk_q4) | (have _t := tk_q5; (refine wpList_gget ?_ _ _ rfl _ _ rfl hM 1 rfl (rowTab _ _ rfl) (by omega) ?_; kernel_rfl); clear tk_q5) | (have _t := tk_q6; (refine wpList_gget ?_ _ _ rfl _ _ rfl hM 1 rfl (rowTab _ _ rfl) (by omega) ?_; (kernel_rfl); (rw [e2])); clear tk_q6))
    go_ret
    exact ⟨ret_bool Hp.out.symm, hM.below⟩
  · have Hp := Lib.hid hp
    have H1 := Lib.hid h1
    have H2 := Lib.hid h2
    have h3 : (h 4 == -1) = false := by simp; omega
    have H3 := Lib.hid h3
    have d1 : decide (-1 ≤ h 4) = false := decide_eq_false (by omega)
    have d1' : decide (h 4 < -1) = true := decide_eq_true (by omega)
    clear hp h1 h2 h3 h5
    go_enter Tryd.func110, Tryd.ntmps110
    go_wp2_with (first | (go_at_call 92; (with_reducible refine (hasCell_any g (h 0) (h 1) _).mono ?_); rintro e W' ⟨rfl, hb'⟩; rw [H1.out]; have hM' := hM.call hb'; clear hM hb'; have hM := hM'; clear hM') | (go_at_call 92; (with_reducible refine (hasCell_any g (h 2) (h 3) _).mono ?_); rintro e W' ⟨rfl, hb'⟩; rw [H2.out]; have hM' := hM.call hb'; clear hM hb'; have hM := hM'; clear hM') | (go_at_call 113; (with_reducible refine (isFree_any h _).mono ?_); rintro e W' ⟨rfl, hb'⟩; rw [H3.out]; have hM' := hM.call hb'; clear hM hb'; have hM := hM'; clear hM') | (have _t := tk_b1; refine wpList_box rfl _ _ rfl _ _ rfl hM ?_; intro b1 W' hb1 hM'; clear hM tk_b1; have hM := hM'; clear hM') | (have _t := tk_b2; refine wpList_box rfl _ _ rfl _ _ rfl hM ?_; intro b2 W' hb2 hM'; clear hM tk_b2; have hM := hM'; clear hM') | (have _t := tk_q1; (refine wpList_get rfl _ _ rfl _ _ rfl hM 0 rfl (rowTab _ _ rfl) (by omega) ?_); clear tk_q1) | (have _t := tk_q2; (refine wpList_get rfl _ _ rfl _ _ rfl hM 1 rfl (rowTab _ _ rfl) (by omega) ?_); rw [e0]; clear tk_q2) | (have _t := tk_q3; (refine wpList_gget ?_ _ _ rfl _ _ rfl hM 0 rfl (rowTab _ _ rfl) (by omega) ?_; kernel_rfl); clear tk_q3) | (have _t := tk_q4; (refine wpList_gget ?_ _ _ rfl _ _ rfl hM 1 rfl (rowTab _ _ rfl) (by omega) ?_; (kernel_rfl); (rw [e2])); clear tk_q4) | (have _t := tk_q5; (refine wpList_gget ?_ _ _ rfl _ _ rfl hM 1 rfl (rowTab _ _ rfl) (by omega) ?_; kernel_rfl); clear tk_q5) | (have _t := tk_q7; (refine wpList_get1 rfl _ _ rfl _ _ rfl hM 1 rfl (cellTab _ rfl) (by omega) _ e4 ?_); clear tk_q7))
    go_ret
    exact ⟨ret_bool Hp.out.symm, hM.below⟩
  · have Hp := Lib.hid hp
    have H1 := Lib.hid h1
    have H2 := Lib.hid h2
    have h3 : (h 4 == -1) = false := by simp; omega
    have H3 := Lib.hid h3
    have d1 : decide (-1 ≤ h 4) = true := decide_eq_true (by omega)
    have d2 : decide (h 4 ≤ 200) = false := decide_eq_false (by omega)
    clear hp h1 h2 h3 h5
    go_enter Tryd.func110, Tryd.ntmps110
    go_wp2_with (first | (go_at_call 92; (with_reducible refine (hasCell_any g (h 0) (h 1) _).mono ?_); rintro e W' ⟨rfl, hb'⟩; rw [H1.out]; have hM' := hM.call hb'; clear hM hb'; have hM := hM'; clear hM') | (go_at_call 92; (with_reducible refine (hasCell_any g (h 2) (h 3) _).mono ?_); rintro e W' ⟨rfl, hb'⟩; rw [H2.out]; have hM' := hM.call hb'; clear hM hb'; have hM := hM'; clear hM') | (go_at_call 113; (with_reducible refine (isFree_any h _).mono ?_); rintro e W' ⟨rfl, hb'⟩; rw [H3.out]; have hM' := hM.call hb'; clear hM hb'; have hM := hM'; clear hM') | (have _t := tk_b1; refine wpList_box rfl _ _ rfl _ _ rfl hM ?_; intro b1 W' hb1 hM'; clear hM tk_b1; have hM := hM'; clear hM') | (have _t := tk_b2; refine wpList_box rfl _ _ rfl _ _ rfl hM ?_; intro b2 W' hb2 hM'; clear hM tk_b2; have hM := hM'; clear hM') | (have _t := tk_q1; (refine wpList_get rfl _ _ rfl _ _ rfl hM 0 rfl (rowTab _ _ rfl) (by omega) ?_); clear tk_q1) | (have _t := tk_q2; (refine wpList_get rfl _ _ rfl _ _ rfl hM 1 rfl (rowTab _ _ rfl) (by omega) ?_); rw [e0]; clear tk_q2) | (have _t := tk_q3; (refine wpList_gget ?_ _ _ rfl _ _ rfl hM 0 rfl (rowTab _ _ rfl) (by omega) ?_; kernel_rfl); clear tk_q3) | (have _t := tk_q4; (refine wpList_gget ?_ _ _ rfl _ _ rfl hM 1 rfl (rowTab _ _ rfl) (by omega) ?_; (kernel_rfl); (rw [e2])); clear tk_q4) | (have _t := tk_q5; (refine wpList_gget ?_ _ _ rfl _ _ rfl hM 1 rfl (rowTab _ _ rfl) (by omega) ?_; kernel_rfl); clear tk_q5) | (have _t := tk_q7; (refine wpList_get1 rfl _ _ rfl _ _ rfl hM 1 rfl (cellTab _ rfl) (by omega) _ e4 ?_); clear tk_q7) | (have _t := tk_q8; (refine wpList_gget1 ?_ _ _ rfl _ _ rfl hM 1 rfl (cellTab _ rfl) (by omega) _ e4 ?_; kernel_rfl); clear tk_q8))
    go_ret
    exact ⟨ret_bool Hp.out.symm, hM.below⟩
  · have Hp := Lib.hid hp
    have H1 := Lib.hid h1
    have H2 := Lib.hid h2
    have d1 : decide (-1 ≤ h 4) = true := decide_eq_true (by omega)
    have d2 : decide (h 4 ≤ 200) = true := decide_eq_true (by omega)
    cases h3 : (h 4 == -1)
    · have H3 := Lib.hid h3
      clear hp h1 h2 h3 h34 h5 h6
      go_enter Tryd.func110, Tryd.ntmps110
      go_wp2_with (first | (go_at_call 92; (with_reducible refine (hasCell_any g (h 0) (h 1) _).mono ?_); rintro e W' ⟨rfl, hb'⟩; rw [H1.out]; have hM' := hM.call hb'; clear hM hb'; have hM := hM'; clear hM') | (go_at_call 92; (with_reducible refine (hasCell_any g (h 2) (h 3) _).mono ?_); rintro e W' ⟨rfl, hb'⟩; rw [H2.out]; have hM' := hM.call hb'; clear hM hb'; have hM := hM'; clear hM') | (go_at_call 113; (with_reducible refine (isFree_any h _).mono ?_); rintro e W' ⟨rfl, hb'⟩; rw [H3.out]; have hM' := hM.call hb'; clear hM hb'; have hM := hM'; clear hM') | (go_at_call 114; (with_reducible refine (isDiet_any (h 5) (h 6) _).mono ?_); rintro e W' ⟨rfl, hb'⟩; have hM' := hM.call hb'; clear hM hb'; have hM := hM'; clear hM') | (have _t := tk_b1; refine wpList_box rfl _ _ rfl _ _ rfl hM ?_; intro b1 W' hb1 hM'; clear hM tk_b1; have hM := hM'; clear hM') | (have _t := tk_b2; refine wpList_box rfl _ _ rfl _ _ rfl hM ?_; intro b2 W' hb2 hM'; clear hM tk_b2; have hM := hM'; clear hM') | (have _t := tk_q1; (refine wpList_get rfl _ _ rfl _ _ rfl hM 0 rfl (rowTab _ _ rfl) (by omega) ?_); clear tk_q1) | (have _t := tk_q2; (refine wpList_get rfl _ _ rfl _ _ rfl hM 1 rfl (rowTab _ _ rfl) (by omega) ?_); rw [e0]; clear tk_q2) | (have _t := tk_q3; (refine wpList_gget ?_ _ _ rfl _ _ rfl hM 0 rfl (rowTab _ _ rfl) (by omega) ?_; kernel_rfl); clear tk_q3) | (have _t := tk_q4; (refine wpList_gget ?_ _ _ rfl _ _ rfl hM 1 rfl (rowTab _ _ rfl) (by omega) ?_; (kernel_rfl); (rw [e2])); clear tk_q4) | (have _t := tk_q5; (refine wpList_gget ?_ _ _ rfl _ _ rfl hM 1 rfl (rowTab _ _ rfl) (by omega) ?_; kernel_rfl); clear tk_q5) | (have _t := tk_q7; (refine wpList_get1 rfl _ _ rfl _ _ rfl hM 1 rfl (cellTab _ rfl) (by omega) _ e4 ?_); clear tk_q7) | (have _t := tk_q8; (refine wpList_gget1 ?_ _ _ rfl _ _ rfl hM 1 rfl (cellTab _ rfl) (by omega) _ e4 ?_; kernel_rfl); clear tk_q8) | (have _t := tk_q9; (refine wpList_gget1 ?_ _ _ rfl _ _ rfl hM 1 rfl (cellTab _ rfl) (by omega) _ e5 ?_; kernel_rfl); clear tk_q9) | (have _t := tk_q10; (refine wpList_gget1 ?_ _ _ rfl _ _ rfl hM 1 rfl (cellTab _ rfl) (by omega) _ e6 ?_; kernel_rfl); clear tk_q10))
      go_ret
      exact ⟨ret_bool Hp.out.symm, hM.below⟩
    · have h4 : told0 h = true := by
        rcases h34 with h | h
        · rw [h3] at h; cases h
        · exact h
      simp only [h4, Bool.not_true] at qe1 qe2
      have H3 := Lib.hid h3
      clear hp h1 h2 h3 h34 h4 h5 h6
      go_enter Tryd.func110, Tryd.ntmps110
      go_wp2_with (first | (go_at_call 92; (with_reducible refine (hasCell_any g (h 0) (h 1) _).mono ?_); rintro e W' ⟨rfl, hb'⟩; rw [H1.out]; have hM' := hM.call hb'; clear hM hb'; have hM := hM'; clear hM') | (go_at_call 92; (with_reducible refine (hasCell_any g (h 2) (h 3) _).mono ?_); rintro e W' ⟨rfl, hb'⟩; rw [H2.out]; have hM' := hM.call hb'; clear hM hb'; have hM := hM'; clear hM') | (go_at_call 113; (with_reducible refine (isFree_any h _).mono ?_); rintro e W' ⟨rfl, hb'⟩; rw [H3.out]; have hM' := hM.call hb'; clear hM hb'; have hM := hM'; clear hM') | (go_at_call 114; (with_reducible refine (isDiet_any (h 5) (h 6) _).mono ?_); rintro e W' ⟨rfl, hb'⟩; have hM' := hM.call hb'; clear hM hb'; have hM := hM'; clear hM') | (have _t := tk_b1; refine wpList_box rfl _ _ rfl _ _ rfl hM ?_; intro b1 W' hb1 hM'; clear hM tk_b1; have hM := hM'; clear hM') | (have _t := tk_b2; refine wpList_box rfl _ _ rfl _ _ rfl hM ?_; intro b2 W' hb2 hM'; clear hM tk_b2; have hM := hM'; clear hM') | (have _t := tk_q1; (refine wpList_get rfl _ _ rfl _ _ rfl hM 0 rfl (rowTab _ _ rfl) (by omega) ?_); clear tk_q1) | (have _t := tk_q2; (refine wpList_get rfl _ _ rfl _ _ rfl hM 1 rfl (rowTab _ _ rfl) (by omega) ?_); rw [e0]; clear tk_q2) | (have _t := tk_q3; (refine wpList_gget ?_ _ _ rfl _ _ rfl hM 0 rfl (rowTab _ _ rfl) (by omega) ?_; kernel_rfl); clear tk_q3) | (have _t := tk_q4; (refine wpList_gget ?_ _ _ rfl _ _ rfl hM 1 rfl (rowTab _ _ rfl) (by omega) ?_; (kernel_rfl); (rw [e2])); clear tk_q4) | (have _t := tk_q5; (refine wpList_gget ?_ _ _ rfl _ _ rfl hM 1 rfl (rowTab _ _ rfl) (by omega) ?_; kernel_rfl); clear tk_q5) | (have _t := tk_q6; (refine wpList_gget ?_ _ _ rfl _ _ rfl hM 1 rfl (rowTab _ _ rfl) (by omega) ?_; (kernel_rfl); (rw [e2])); clear tk_q6) | (have _t := tk_q7; (refine wpList_get1 rfl _ _ rfl _ _ rfl hM 1 rfl (cellTab _ rfl) (by omega) _ e4 ?_); clear tk_q7) | (have _t := tk_q8; (refine wpList_gget1 ?_ _ _ rfl _ _ rfl hM 1 rfl (cellTab _ rfl) (by omega) _ e4 ?_; kernel_rfl); clear tk_q8) | (have _t := tk_q9; (refine wpList_gget1 ?_ _ _ rfl _ _ rfl hM 1 rfl (cellTab _ rfl) (by omega) _ e5 ?_; kernel_rfl); clear tk_q9) | (have _t := tk_q10; (refine wpList_gget1 ?_ _ _ rfl _ _ rfl hM 1 rfl (cellTab _ rfl) (by omega) _ e6 ?_; kernel_rfl); clear tk_q10))
      go_ret
      exact ⟨ret_bool Hp.out.symm, hM.below⟩

end Go.Proofs.YtdlfhomnlhdacaaDoor
