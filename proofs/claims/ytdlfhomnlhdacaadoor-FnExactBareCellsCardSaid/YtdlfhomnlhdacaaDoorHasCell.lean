/-
  (impl.Pasture).hasCell by contract.
-/
import Derived.Lib.Hide
import Derived.Test.YtdlfhomnlhdacaaDoorSpec1
namespace Go.Proofs.YtdlfhomnlhdacaaDoor
open Go Go.RowKit Go.BigFrame

set_option maxHeartbeats 4000000 in
theorem hasCell_any (g : Nat → Int) (x y : Int) (w : World) :
    Calls Tryd.prog 92 #[.agg (arr 122 (pas g)), .agg (arr 2 (sp x y))] w fun e w' => e = .returned (.bool (isB g x y)) ∧ Below w.heap.size w w' := by
  have hM := Mem.nil w
  have e0 : pas g 0 = .int .i8 (g 0) := rfl
  have e1 : pas g 1 = .int .i8 (g 1) := rfl
  have e2 : sp x y 0 = .int .i8 x := rfl
  have e3 : sp x y 1 = .int .i8 y := rfl
  have tk_b1 : True := trivial; have tk_b2 : True := trivial
  rcases (show x < 0 ∨ (0 ≤ x ∧ g 0 ≤ x) ∨ (0 ≤ x ∧ x < g 0) by omega) with r0 | ⟨r0, r1⟩ | ⟨r0, r1⟩
  · have hf : Hid (isB g x y = false) := Lib.hid (by simp [isB, inB_no (show ¬ (0 ≤ x ∧ x ≤ g 0 - 1) by omega)])
    have d0 : decide (0 ≤ x) = false := decide_eq_false (by omega)
    clear r0
    go_enter Tryd.func92, Tryd.ntmps92
    go_wp2_with (first | (have _t := tk_b1; refine wpList_box rfl _ _ rfl _ _ rfl hM ?_; intro b1 W' hb1 hM'; clear hM tk_b1; have hM := hM'; clear hM') | (have _t := tk_b2; refine wpList_box rfl _ _ rfl _ _ rfl hM ?_; intro b2 W' hb2 hM'; clear hM tk_b2; have hM := hM'; clear hM') | (refine wpList_get1 rfl _ _ rfl _ _ rfl hM 0 rfl (cellTab _ rfl) (by omega) _ rfl ?_) | (refine wpList_get1 rfl _ _ rfl _ _ rfl hM 1 rfl (cellTab _ rfl) (by omega) _ rfl ?_) | (refine wpList_gget1 ?_ _ _ rfl _ _ rfl hM 0 rfl (cellTab _ rfl) (by omega) _ rfl ?_; kernel_rfl) | (refine wpList_gget1 ?_ _ _ rfl _ _ rfl hM 1 rfl (cellTab _ rfl) (by omega) _ rfl ?_; kernel_rfl))
    go_ret
    exact ⟨ret_bool hf.out.symm, hM.below⟩
  · have hf : Hid (isB g x y = false) := Lib.hid (by simp [isB, inB_no (show ¬ (0 ≤ x ∧ x ≤ g 0 - 1) by omega)])
    have d0 : decide (0 ≤ x) = true := decide_eq_true (by omega)
    have d1 : decide (x < g 0) = false := decide_eq_false (by omega)
    clear r0 r1
    go_enter Tryd.func92, Tryd.ntmps92
    go_wp2_with (first | (have _t := tk_b1; refine wpList_box rfl _ _ rfl _ _ rfl hM ?_; intro b1 W' hb1 hM'; clear hM tk_b1; have hM := hM'; clear hM') | (have _t := tk_b2; refine wpList_box rfl _ _ rfl _ _ rfl hM ?_; intro b2 W' hb2 hM'; clear hM tk_b2; have hM := hM'; clear hM') | (refine wpList_get1 rfl _ _ rfl _ _ rfl hM 0 rfl (cellTab _ rfl) (by omega) _ rfl ?_) | (refine wpList_get1 rfl _ _ rfl _ _ rfl hM 1 rfl (cellTab _ rfl) (by omega) _ rfl ?_) | (refine wpList_gget1 ?_ _ _ rfl _ _ rfl hM 0 rfl (cellTab _ rfl) (by omega) _ rfl ?_; kernel_rfl) | (refine wpList_gget1 ?_ _ _ rfl _ _ rfl hM 1 rfl (cellTab _ rfl) (by omega) _ rfl ?_; kernel_rfl))
    go_ret
    exact ⟨ret_bool hf.out.symm, hM.below⟩
  have d0 : decide (0 ≤ x) = true := decide_eq_true (by omega)
  have d1 : decide (x < g 0) = true := decide_eq_true (by omega)
  have q0 := inB_yes (show 0 ≤ x ∧ x ≤ g 0 - 1 by omega)
  clear r0 r1
  rcases (show y < 0 ∨ (0 ≤ y ∧ g 1 ≤ y) ∨ (0 ≤ y ∧ y < g 1) by omega) with r0 | ⟨r0, r1⟩ | ⟨r0, r1⟩
  · have hf : Hid (isB g x y = false) := Lib.hid (by simp [isB, inB_no (show ¬ (0 ≤ y ∧ y ≤ g 1 - 1) by omega)])
    have d2 : decide (0 ≤ y) = false := decide_eq_false (by omega)
    clear r0 q0
    go_enter Tryd.func92, Tryd.ntmps92
    go_wp2_with (first | (have _t := tk_b1; refine wpList_box rfl _ _ rfl _ _ rfl hM ?_; intro b1 W' hb1 hM'; clear hM tk_b1; have hM := hM'; clear hM') | (have _t := tk_b2; refine wpList_box rfl _ _ rfl _ _ rfl hM ?_; intro b2 W' hb2 hM'; clear hM tk_b2; have hM := hM'; clear hM') | (refine wpList_get1 rfl _ _ rfl _ _ rfl hM 0 rfl (cellTab _ rfl) (by omega) _ rfl ?_) | (refine wpList_get1 rfl _ _ rfl _ _ rfl hM 1 rfl (cellTab _ rfl) (by omega) _ rfl ?_) | (refine wpList_gget1 ?_ _ _ rfl _ _ rfl hM 0 rfl (cellTab _ rfl) (by omega) _ rfl ?_; kernel_rfl) | (refine wpList_gget1 ?_ _ _ rfl _ _ rfl hM 1 rfl (cellTab _ rfl) (by omega) _ rfl ?_; kernel_rfl))
    go_ret
    exact ⟨ret_bool hf.out.symm, hM.below⟩
  · have hf : Hid (isB g x y = false) := Lib.hid (by simp [isB, inB_no (show ¬ (0 ≤ y ∧ y ≤ g 1 - 1) by omega)])
    have d2 : decide (0 ≤ y) = true := decide_eq_true (by omega)
    have d3 : decide (y < g 1) = false := decide_eq_false (by omega)
    clear r0 r1 q0
    go_enter Tryd.func92, Tryd.ntmps92
    go_wp2_with (first | (have _t := tk_b1; refine wpList_box rfl _ _ rfl _ _ rfl hM ?_; intro b1 W' hb1 hM'; clear hM tk_b1; have hM := hM'; clear hM') | (have _t := tk_b2; refine wpList_box rfl _ _ rfl _ _ rfl hM ?_; intro b2 W' hb2 hM'; clear hM tk_b2; have hM := hM'; clear hM') | (refine wpList_get1 rfl _ _ rfl _ _ rfl hM 0 rfl (cellTab _ rfl) (by omega) _ rfl ?_) | (refine wpList_get1 rfl _ _ rfl _ _ rfl hM 1 rfl (cellTab _ rfl) (by omega) _ rfl ?_) | (refine wpList_gget1 ?_ _ _ rfl _ _ rfl hM 0 rfl (cellTab _ rfl) (by omega) _ rfl ?_; kernel_rfl) | (refine wpList_gget1 ?_ _ _ rfl _ _ rfl hM 1 rfl (cellTab _ rfl) (by omega) _ rfl ?_; kernel_rfl))
    go_ret
    exact ⟨ret_bool hf.out.symm, hM.below⟩
  · have hf : Hid (isB g x y = true) := Lib.hid (by simp [isB, q0, inB_yes (show 0 ≤ y ∧ y ≤ g 1 - 1 by omega)])
    have d2 : decide (0 ≤ y) = true := decide_eq_true (by omega)
    have d3 : decide (y < g 1) = true := decide_eq_true (by omega)
    clear r0 r1 q0
    go_enter Tryd.func92, Tryd.ntmps92
    go_wp2_with (first | (have _t := tk_b1; refine wpList_box rfl _ _ rfl _ _ rfl hM ?_; intro b1 W' hb1 hM'; clear hM tk_b1; have hM := hM'; clear hM') | (have _t := tk_b2; refine wpList_box rfl _ _ rfl _ _ rfl hM ?_; intro b2 W' hb2 hM'; clear hM tk_b2; have hM := hM'; clear hM') | (refine wpList_get1 rfl _ _ rfl _ _ rfl hM 0 rfl (cellTab _ rfl) (by omega) _ rfl ?_) | (refine wpList_get1 rfl _ _ rfl _ _ rfl hM 1 rfl (cellTab _ rfl) (by omega) _ rfl ?_) | (refine wpList_gget1 ?_ _ _ rfl _ _ rfl hM 0 rfl (cellTab _ rfl) (by omega) _ rfl ?_; kernel_rfl) | (refine wpList_gget1 ?_ _ _ rfl _ _ rfl hM 1 rfl (cellTab _ rfl) (by omega) _ rfl ?_; kernel_rfl))
    go_ret
    exact ⟨ret_bool hf.out.symm, hM.below⟩

theorem sp_of {f : Nat → Value} {x y : Int} (h0 : f 0 = .int .i8 x) (h1 : f 1 = .int .i8 y) : arr 2 f = arr 2 (sp x y) := arr_congr fun k hk => by
  rcases (show k = 0 ∨ k = 1 by omega) with rfl | rfl
  · exact h0
  · exact h1
/-- The same over any two cells that hold the spot. -/
theorem hasCell_of (g : Nat → Int) (f : Nat → Value) (x y : Int) (h0 : f 0 = .int .i8 x) (h1 : f 1 = .int .i8 y) (w : World) :
    Calls Tryd.prog 92 #[.agg (arr 122 (pas g)), .agg (arr 2 f)] w fun e w' => e = .returned (.bool (isB g x y)) ∧ Below w.heap.size w w' := by
  rw [sp_of h0 h1]
  exact hasCell_any g x y w
end Go.Proofs.YtdlfhomnlhdacaaDoor
