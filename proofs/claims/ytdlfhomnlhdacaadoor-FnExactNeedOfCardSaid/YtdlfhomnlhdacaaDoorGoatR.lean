/-
  (impl.Goat).isToldFor, reaches by contracts.
-/
import Derived.Test.YtdlfhomnlhdacaaDoorGoatW
namespace Go.Proofs.YtdlfhomnlhdacaaDoor
open Go Go.RowKit Go.BigFrame

set_option maxRecDepth 100000 in
set_option maxHeartbeats 2000000 in
theorem reaches_any (h : Nat → Int) (hF : FitsG h) (x y : Int) (hx : -128 ≤ x ∧ x ≤ 127) (hy : -128 ≤ y ∧ y ≤ 127) (w : World) :
    Calls Tryd.prog 111 #[.agg (arr 7 (gt h)), .agg (arr 2 (sp x y))] w fun e w' => e = .returned (.bool (reachB h x y)) ∧ Below w.heap.size w w' := by
  have hM := Mem.nil w
  have e2 : arr 2 (fun j => gt h (2 + j)) = arr 2 (sp (h 2) (h 3)) := gt_sp (by omega)
  have e4 : gt h 4 = .int .i16 (h 4) := rfl
  have m2 := hF.lo 2 (by omega)
  have m3 := hF.lo 3 (by omega)
  have m4 := hF.mid 4 (by omega) (by omega)
  have c4 : IntKind.i64.wrap (h 4) = h 4 := IntWalk.i64_in _ (by omega)
  clear hF
  have tk_b1 : True := trivial; have tk_b2 : True := trivial
  cases hq : (h 4 == -1)
  · have hf : Hid (reachB h x y = decide (sqI x y (h 2) (h 3) ≤ h 4)) := Lib.hid (by simp [reachB, hq])
    have Hq := Lib.hid hq
    clear hq
    go_enter Tryd.func111, Tryd.ntmps111
    go_wp2_with (first | (have _t := tk_b1; refine wpList_box rfl _ _ rfl _ _ rfl hM ?_; intro b1 W' hb1 hM'; clear hM tk_b1; have hM := hM'; clear hM') | (have _t := tk_b2; refine wpList_box rfl _ _ rfl _ _ rfl hM ?_; intro b2 W' hb2 hM'; clear hM tk_b2; have hM := hM'; clear hM'))
    ((try simp only [Act.put, List.setIfInBounds_toArray, List.set_cons_succ, List.set_cons_zero]); refine wp_region_mem (by kernel_rfl) (by kernel_rfl) hM ?_; clear hM; (repeat (first | go_big_quiet_skip | (go_big_quiet_want; first | (refine quiet_get _ _ rfl _ _ rfl 1 rfl (rowTab _ 2 rfl) (by omega) ?_; (simp only [e2]); (simp only [Act.put, List.setIfInBounds_toArray, List.set_cons_succ, List.set_cons_zero]); go_big_quiet_on) | (refine quiet_get _ _ rfl _ _ rfl 0 rfl (rowTab _ _ rfl) (by omega) ?_; (simp only [Act.put, List.setIfInBounds_toArray, List.set_cons_succ, List.set_cons_zero]); go_big_quiet_on) | (refine quiet_get _ _ rfl _ _ rfl 1 rfl (rowTab _ _ rfl) (by omega) ?_; (simp only [Act.put, List.setIfInBounds_toArray, List.set_cons_succ, List.set_cons_zero]); go_big_quiet_on) | (refine quiet_get1 _ _ rfl _ _ rfl 1 rfl (cellTab _ rfl) (by omega) _ (e4) ?_; (simp only [Act.put, List.setIfInBounds_toArray, List.set_cons_succ, List.set_cons_zero]); go_big_quiet_on) | (refine quiet_call ?_; apply Exists.intro; apply Exists.intro; apply Exists.intro; refine ⟨fun W => ?_, fun W hM => ?_, ?_⟩; (go_simp; exact ⟨rfl, rfl⟩); (exact isFree_any h W); (simp only [Hq.out]); (simp only [Act.put, List.setIfInBounds_toArray, List.set_cons_succ, List.set_cons_zero]); go_big_quiet_on) | (refine quiet_call ?_; apply Exists.intro; apply Exists.intro; apply Exists.intro; refine ⟨fun W => ?_, fun W hM => ?_, ?_⟩; (go_simp; exact ⟨rfl, rfl⟩); (exact squareTo_any x y (h 2) (h 3) hx hy m2 m3 W); (simp only [Act.put, List.setIfInBounds_toArray, List.set_cons_succ, List.set_cons_zero]); go_big_quiet_on) | (refine quiet_val ?_; apply Exists.intro; refine ⟨fun W => ?_, ?_⟩; (go_simp; (try simp only [c4, if_true, Bool.false_eq_true, if_false]); rfl); (simp only [Act.put, List.setIfInBounds_toArray, List.set_cons_succ, List.set_cons_zero]); go_big_quiet_on)))); (with_reducible refine wpQuiet_nil ?_); intro W' hM)
    go_wp2
    go_ret
    exact ⟨ret_bool hf.out.symm, hM.below⟩
  · have hf : Hid (reachB h x y = true) := Lib.hid (by simp [reachB, hq])
    have Hq := Lib.hid hq
    clear hq
    go_enter Tryd.func111, Tryd.ntmps111
    go_wp2_with (first | (have _t := tk_b1; refine wpList_box rfl _ _ rfl _ _ rfl hM ?_; intro b1 W' hb1 hM'; clear hM tk_b1; have hM := hM'; clear hM') | (have _t := tk_b2; refine wpList_box rfl _ _ rfl _ _ rfl hM ?_; intro b2 W' hb2 hM'; clear hM tk_b2; have hM := hM'; clear hM'))
    ((try simp only [Act.put, List.setIfInBounds_toArray, List.set_cons_succ, List.set_cons_zero]); refine wp_region_mem (by kernel_rfl) (by kernel_rfl) hM ?_; clear hM; (repeat (first | go_big_quiet_skip | (go_big_quiet_want; first | (refine quiet_get _ _ rfl _ _ rfl 0 rfl (rowTab _ _ rfl) (by omega) ?_; (simp only [Act.put, List.setIfInBounds_toArray, List.set_cons_succ, List.set_cons_zero]); go_big_quiet_on) | (refine quiet_get _ _ rfl _ _ rfl 1 rfl (rowTab _ _ rfl) (by omega) ?_; (simp only [Act.put, List.setIfInBounds_toArray, List.set_cons_succ, List.set_cons_zero]); go_big_quiet_on) | (refine quiet_call ?_; apply Exists.intro; apply Exists.intro; apply Exists.intro; refine ⟨fun W => ?_, fun W hM => ?_, ?_⟩; (go_simp; exact ⟨rfl, rfl⟩); (exact isFree_any h W); (simp only [Hq.out]); (simp only [Act.put, List.setIfInBounds_toArray, List.set_cons_succ, List.set_cons_zero]); go_big_quiet_on) | (refine quiet_val ?_; apply Exists.intro; refine ⟨fun W => ?_, ?_⟩; (go_simp; rfl); (simp only [Act.put, List.setIfInBounds_toArray, List.set_cons_succ, List.set_cons_zero]); go_big_quiet_on)))); (with_reducible refine wpQuiet_nil ?_); intro W' hM)
    go_wp2
    go_ret
    exact ⟨ret_bool hf.out.symm, hM.below⟩

theorem told0_eq (h : Nat → Int) : (h 2 == 0 && h 3 == 0) = told0 h := rfl
theorem toldB_cases (g h : Nat → Int) : (isB g (h 0) (h 1) = false ∧ toldB g h = false) ∨ (isB g (h 0) (h 1) = true ∧ isB g (h 2) (h 3) = false ∧ toldB g h = false) ∨
    (isB g (h 0) (h 1) = true ∧ isB g (h 2) (h 3) = true ∧ (h 4 == -1) = true ∧ told0 h = false ∧ toldB g h = false) ∨
    (isB g (h 0) (h 1) = true ∧ isB g (h 2) (h 3) = true ∧ ((h 4 == -1) = false ∨ told0 h = true) ∧ h 4 < -1 ∧ toldB g h = false) ∨
    (isB g (h 0) (h 1) = true ∧ isB g (h 2) (h 3) = true ∧ ((h 4 == -1) = false ∨ told0 h = true) ∧ 200 < h 4 ∧ toldB g h = false) ∨
    (isB g (h 0) (h 1) = true ∧ isB g (h 2) (h 3) = true ∧ ((h 4 == -1) = false ∨ told0 h = true) ∧ (-1 ≤ h 4 ∧ h 4 ≤ 200) ∧ toldB g h = dietB (h 5) (h 6)) := by
  unfold toldB
  cases h1 : isB g (h 0) (h 1)
  · simp
  cases h2 : isB g (h 2) (h 3)
  · simp
  cases h4 : (h 4 == -1) <;> cases h5 : told0 h <;> simp <;> (simp at h4) <;> (by_cases h6 : h 4 < -1) <;> (by_cases h7 : 200 < h 4) <;> (try simp [h6, h7]) <;> (try omega)
end Go.Proofs.YtdlfhomnlhdacaaDoor
