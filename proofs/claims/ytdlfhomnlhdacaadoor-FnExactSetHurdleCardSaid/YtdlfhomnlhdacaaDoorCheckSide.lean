/-
  impl.checkSide by contracts.
-/
import Derived.Test.YtdlfhomnlhdacaaDoorFenced
import Derived.Test.YtdlfhomnlhdacaaDoorUpTo
namespace Go.Proofs.YtdlfhomnlhdacaaDoor
open Go Go.RowKit Go.BigFrame

set_option maxRecDepth 100000 in
set_option maxHeartbeats 1000000 in
theorem checkSide_bad {a : Nat → Addr} (g : Nat → Int) (hg : Fits g) (x y n : Int) (w : World) (hE : Errs a w) (hv : validB g = false) :
    Calls Tryd.prog 64 #[.agg (arr 122 (pas g)), .agg (arr 2 (sp x y)), .int .i64 n] w fun e w' => e = .returned (errV (a 0)) ∧ Below w.heap.size w w' := by
  have hM := Mem.nil w
  have HE := Lib.hid hE
  have Ho := Lib.hid hv
  clear hE hv
  have tk_b1 : True := trivial; have tk_b2 : True := trivial; have tk_b3 : True := trivial
  go_enter Tryd.func64, Tryd.ntmps64
  go_wp2_with (first | (have _t := tk_b1; refine wpList_box rfl _ _ rfl _ _ rfl hM ?_; intro b1 W' hb1 hM'; clear hM tk_b1; have hM := hM'; clear hM') | (have _t := tk_b2; refine wpList_box rfl _ _ rfl _ _ rfl hM ?_; intro b2 W' hb2 hM'; clear hM tk_b2; have hM := hM'; clear hM') | (refine wpList_get rfl _ _ rfl _ _ rfl hM 1 rfl (rowTab _ _ rfl) (by omega) ?_) | (refine wpList_get rfl _ _ rfl _ _ rfl hM 0 rfl (rowTab _ _ rfl) (by omega) ?_) | (have _t := tk_b3; refine wpList_slice1 rfl _ _ _ rfl _ _ rfl _ spot_under spot_info (by omega) (by omega) hM ?_; intro b3 W' hb3 hM'; clear hM tk_b3; have hM := hM'; clear hM') | (go_at_call 60; refine (checkCells_bad g hg _ _ (HE.out.below hM.below) Ho.out).mono ?_; rintro e W' ⟨rfl, hb'⟩; have hM' := hM.call hb'; clear hM hb'; have hM := hM'; clear hM'))
  go_ret
  exact ⟨rfl, hM.below⟩
set_option maxRecDepth 100000 in
set_option maxHeartbeats 1000000 in
theorem checkSide_out {a : Nat → Addr} (g : Nat → Int) (hg : Fits g) (x y n : Int) (w : World) (hE : Errs a w) (hv : validB g = true) (hi : isB g x y = false) :
    Calls Tryd.prog 64 #[.agg (arr 122 (pas g)), .agg (arr 2 (sp x y)), .int .i64 n] w fun e w' => e = .returned (errV (a 1)) ∧ Below w.heap.size w w' := by
  have hM := Mem.nil w
  have HE := Lib.hid hE
  have Ho := Lib.hid hv
  have Hi : Hid (chkS a g (fun _ => (x, y)) 1 = errV (a 1)) := Lib.hid (chkS_no (by rw [allB_one]; exact hi))
  clear hE hv hi
  have tk_b1 : True := trivial; have tk_b2 : True := trivial; have tk_b3 : True := trivial
  go_enter Tryd.func64, Tryd.ntmps64
  go_wp2_with (first | (have _t := tk_b1; refine wpList_box rfl _ _ rfl _ _ rfl hM ?_; intro b1 W' hb1 hM'; clear hM tk_b1; have hM := hM'; clear hM') | (have _t := tk_b2; refine wpList_box rfl _ _ rfl _ _ rfl hM ?_; intro b2 W' hb2 hM'; clear hM tk_b2; have hM := hM'; clear hM') | (refine wpList_get rfl _ _ rfl _ _ rfl hM 1 rfl (rowTab _ _ rfl) (by omega) ?_) | (refine wpList_get rfl _ _ rfl _ _ rfl hM 0 rfl (rowTab _ _ rfl) (by omega) ?_) | (have _t := tk_b3; refine wpList_slice1 rfl _ _ _ rfl _ _ rfl _ spot_under spot_info (by omega) (by omega) hM ?_; intro b3 W' hb3 hM'; clear hM tk_b3; have hM := hM'; clear hM') | (go_at_call 60; refine (checkCells_some g hg _ 1 1 2 (fun _ => (x, y)) (by omega) (by decide) _ ((hM.ats 0 _ _ _ rfl).congr (sp_sps0 _ _)) (HE.out.below hM.below) Ho.out).mono ?_; rintro e W' ⟨rfl, hb'⟩; rw [Hi.out]; have hM' := hM.call hb'; clear hM hb'; have hM := hM'; clear hM'))
  go_ret
  exact ⟨rfl, hM.below⟩
set_option maxRecDepth 100000 in
set_option maxHeartbeats 1000000 in
theorem checkSide_no {a : Nat → Addr} (g : Nat → Int) (hg : Fits g) (x y n : Int) (w : World) (hE : Errs a w) (hv : validB g = true) (hi : isB g x y = true) (hn : inB 0 3 n = false) :
    Calls Tryd.prog 64 #[.agg (arr 122 (pas g)), .agg (arr 2 (sp x y)), .int .i64 n] w fun e w' => e = .returned (errV (a 1)) ∧ Below w.heap.size w w' := by
  have hM := Mem.nil w
  have HE := Lib.hid hE
  have Ho := Lib.hid hv
  have Hi : Hid (chkS a g (fun _ => (x, y)) 1 = .nilIface) := Lib.hid (chkS_yes (by rw [allB_one]; exact hi))
  have h' : ¬ (0 ≤ n ∧ n ≤ 3) := of_decide_eq_false hn
  clear hE hv hi hn
  by_cases h0 : n < 0
  · clear h'
    have tk_b1 : True := trivial; have tk_b2 : True := trivial; have tk_b3 : True := trivial
    go_enter Tryd.func64, Tryd.ntmps64
    go_wp2_with (first | (have _t := tk_b1; refine wpList_box rfl _ _ rfl _ _ rfl hM ?_; intro b1 W' hb1 hM'; clear hM tk_b1; have hM := hM'; clear hM') | (have _t := tk_b2; refine wpList_box rfl _ _ rfl _ _ rfl hM ?_; intro b2 W' hb2 hM'; clear hM tk_b2; have hM := hM'; clear hM') | (refine wpList_get rfl _ _ rfl _ _ rfl hM 1 rfl (rowTab _ _ rfl) (by omega) ?_) | (refine wpList_get rfl _ _ rfl _ _ rfl hM 0 rfl (rowTab _ _ rfl) (by omega) ?_) | (have _t := tk_b3; refine wpList_slice1 rfl _ _ _ rfl _ _ rfl _ spot_under spot_info (by omega) (by omega) hM ?_; intro b3 W' hb3 hM'; clear hM tk_b3; have hM := hM'; clear hM') | (go_at_call 60; refine (checkCells_some g hg _ 1 1 2 (fun _ => (x, y)) (by omega) (by decide) _ ((hM.ats 0 _ _ _ rfl).congr (sp_sps0 _ _)) (HE.out.below hM.below) Ho.out).mono ?_; rintro e W' ⟨rfl, hb'⟩; rw [Hi.out]; have hM' := hM.call hb'; have hE' := HE.out.below hM'.below; have v1 : W'.cell? ⟨1, 0, none⟩ = some (errV (a 1)) := hE'.vars 1 (by omega); clear hM hb' hE'; have hM := hM'; clear hM'))
    go_ret
    exact ⟨rfl, hM.below⟩
  · have h1 : 3 < n := by omega
    clear h'
    have tk_b1 : True := trivial; have tk_b2 : True := trivial; have tk_b3 : True := trivial
    go_enter Tryd.func64, Tryd.ntmps64
    go_wp2_with (first | (have _t := tk_b1; refine wpList_box rfl _ _ rfl _ _ rfl hM ?_; intro b1 W' hb1 hM'; clear hM tk_b1; have hM := hM'; clear hM') | (have _t := tk_b2; refine wpList_box rfl _ _ rfl _ _ rfl hM ?_; intro b2 W' hb2 hM'; clear hM tk_b2; have hM := hM'; clear hM') | (refine wpList_get rfl _ _ rfl _ _ rfl hM 1 rfl (rowTab _ _ rfl) (by omega) ?_) | (refine wpList_get rfl _ _ rfl _ _ rfl hM 0 rfl (rowTab _ _ rfl) (by omega) ?_) | (have _t := tk_b3; refine wpList_slice1 rfl _ _ _ rfl _ _ rfl _ spot_under spot_info (by omega) (by omega) hM ?_; intro b3 W' hb3 hM'; clear hM tk_b3; have hM := hM'; clear hM') | (go_at_call 60; refine (checkCells_some g hg _ 1 1 2 (fun _ => (x, y)) (by omega) (by decide) _ ((hM.ats 0 _ _ _ rfl).congr (sp_sps0 _ _)) (HE.out.below hM.below) Ho.out).mono ?_; rintro e W' ⟨rfl, hb'⟩; rw [Hi.out]; have hM' := hM.call hb'; have hE' := HE.out.below hM'.below; have v1 : W'.cell? ⟨1, 0, none⟩ = some (errV (a 1)) := hE'.vars 1 (by omega); clear hM hb' hE'; have hM := hM'; clear hM'))
    go_ret
    exact ⟨rfl, hM.below⟩
set_option maxRecDepth 100000 in
set_option maxHeartbeats 1000000 in
theorem checkSide_yes {a : Nat → Addr} (g : Nat → Int) (hg : Fits g) (x y n : Int) (w : World) (hE : Errs a w) (hv : validB g = true) (hi : isB g x y = true) (hn : inB 0 3 n = true) :
    Calls Tryd.prog 64 #[.agg (arr 122 (pas g)), .agg (arr 2 (sp x y)), .int .i64 n] w fun e w' => e = .returned .nilIface ∧ Below w.heap.size w w' := by
  have hM := Mem.nil w
  have HE := Lib.hid hE
  have Ho := Lib.hid hv
  have Hi : Hid (chkS a g (fun _ => (x, y)) 1 = .nilIface) := Lib.hid (chkS_yes (by rw [allB_one]; exact hi))
  obtain ⟨h0, h1⟩ := inB_true hn
  have d0 : decide (n < 0) = false := decide_eq_false (by omega)
  have d1 : decide (3 < n) = false := decide_eq_false (by omega)
  clear hE hv hi hn h0 h1
  have tk_b1 : True := trivial; have tk_b2 : True := trivial; have tk_b3 : True := trivial
  go_enter Tryd.func64, Tryd.ntmps64
  go_wp2_with (first | (have _t := tk_b1; refine wpList_box rfl _ _ rfl _ _ rfl hM ?_; intro b1 W' hb1 hM'; clear hM tk_b1; have hM := hM'; clear hM') | (have _t := tk_b2; refine wpList_box rfl _ _ rfl _ _ rfl hM ?_; intro b2 W' hb2 hM'; clear hM tk_b2; have hM := hM'; clear hM') | (refine wpList_get rfl _ _ rfl _ _ rfl hM 1 rfl (rowTab _ _ rfl) (by omega) ?_) | (refine wpList_get rfl _ _ rfl _ _ rfl hM 0 rfl (rowTab _ _ rfl) (by omega) ?_) | (have _t := tk_b3; refine wpList_slice1 rfl _ _ _ rfl _ _ rfl _ spot_under spot_info (by omega) (by omega) hM ?_; intro b3 W' hb3 hM'; clear hM tk_b3; have hM := hM'; clear hM') | (go_at_call 60; refine (checkCells_some g hg _ 1 1 2 (fun _ => (x, y)) (by omega) (by decide) _ ((hM.ats 0 _ _ _ rfl).congr (sp_sps0 _ _)) (HE.out.below hM.below) Ho.out).mono ?_; rintro e W' ⟨rfl, hb'⟩; rw [Hi.out]; have hM' := hM.call hb'; clear hM hb'; have hM := hM'; clear hM'))
  go_ret
  exact ⟨rfl, hM.below⟩
end Go.Proofs.YtdlfhomnlhdacaaDoor
