/-
  spec.SquareOf, impl.SquareOf by contracts; laws.FnExactSquareOf returns true.
-/
import Derived.Test.YtmeheinffdfbkaaSquare
import Derived.Test.YtmeheinffdfbkaaToSpot
namespace Go.Proofs.Ytmeheinffdfbkaa
open Go Go.RowKit Go.BigFrame

set_option maxHeartbeats 400000 in
theorem specSquareOf_any (x y u v : Int) (hx : -128 ≤ x ∧ x ≤ 127) (hy : -128 ≤ y ∧ y ≤ 127) (hu : -128 ≤ u ∧ u ≤ 127) (hv : -128 ≤ v ∧ v ≤ 127) (w : World) :
    Calls Try.prog 6 #[.agg (arr 2 (sp x y)), .agg (arr 2 (sp u v))] w fun e w' => e = .returned (.int .i64 (sqI x y u v)) ∧ Below w.heap.size w w' := by
  have hM := Mem.nil w
  have e0 : ∀ c d : Int, sp c d 0 = .int .i8 c := fun _ _ => rfl
  have e1 : ∀ c d : Int, sp c d 1 = .int .i8 d := fun _ _ => rfl
  have c1 : IntKind.i64.wrap x = x := IntWalk.i64_in _ (by omega)
  have c2 : IntKind.i64.wrap y = y := IntWalk.i64_in _ (by omega)
  have c3 : IntKind.i64.wrap u = u := IntWalk.i64_in _ (by omega)
  have c4 : IntKind.i64.wrap v = v := IntWalk.i64_in _ (by omega)
  obtain ⟨d, hd⟩ : ∃ d, d = x - u := ⟨_, rfl⟩
  obtain ⟨e, he⟩ : ∃ e, e = y - v := ⟨_, rfl⟩
  have c5 : IntKind.i64.wrap (x - u) = d := by rw [hd]; exact IntWalk.i64_in _ (by omega)
  have c6 : IntKind.i64.wrap (y - v) = e := by rw [he]; exact IntWalk.i64_in _ (by omega)
  have q1 := sq_in (show -255 ≤ d ∧ d ≤ 255 by omega)
  have q2 := sq_in (show -255 ≤ e ∧ e ≤ 255 by omega)
  have c7 : IntKind.i64.wrap (d * d) = d * d := IntWalk.i64_in _ (by omega)
  have c8 : IntKind.i64.wrap (e * e) = e * e := IntWalk.i64_in _ (by omega)
  have c9 : IntKind.i64.wrap (d * d + e * e) = d * d + e * e := IntWalk.i64_in _ (by omega)
  have hf : Hid (sqI x y u v = d * d + e * e) := Lib.hid (by rw [hd, he]; rfl)
  clear hd he
  have tk_b1 : True := trivial; have tk_b2 : True := trivial
  go_enter Try.func6, Try.ntmps6
  go_wp2_with (first | (have _t := tk_b1; refine wpList_box rfl _ _ rfl _ _ rfl hM ?_; intro b1 W' hb1 hM'; clear hM tk_b1; have hM := hM'; clear hM') | (have _t := tk_b2; refine wpList_box rfl _ _ rfl _ _ rfl hM ?_; intro b2 W' hb2 hM'; clear hM tk_b2; have hM := hM'; clear hM') | (refine wpList_get1 rfl _ _ rfl _ _ rfl hM 1 rfl (cellTab _ rfl) (by omega) _ rfl ?_) | (refine wpList_get1 rfl _ _ rfl _ _ rfl hM 0 rfl (cellTab _ rfl) (by omega) _ rfl ?_))
  go_ret
  exact ⟨ret_int hf.out.symm, hM.below⟩


theorem sqI_swap (x y u v : Int) : sqI u v x y = sqI x y u v := by
  unfold sqI
  rw [show (u - x) = -(x - u) by omega, show (v - y) = -(y - v) by omega, Int.neg_mul_neg, Int.neg_mul_neg]
theorem implSquareOf_any (x y u v : Int) (hx : -128 ≤ x ∧ x ≤ 127) (hy : -128 ≤ y ∧ y ≤ 127) (hu : -128 ≤ u ∧ u ≤ 127) (hv : -128 ≤ v ∧ v ≤ 127) (w : World) :
    Calls Try.prog 8 #[.agg (arr 2 (sp x y)), .agg (arr 2 (sp u v))] w fun e w' => e = .returned (.int .i64 (sqI x y u v)) ∧ Below w.heap.size w w' := by
  have hM := Mem.nil w
  have hf := Lib.hid (sqI_swap x y u v)
  have tk_b1 : True := trivial; have tk_b2 : True := trivial
  go_enter Try.func8, Try.ntmps8
  go_wp2_with (first | (have _t := tk_b1; refine wpList_box rfl _ _ rfl _ _ rfl hM ?_; intro b1 W' hb1 hM'; clear hM tk_b1; have hM := hM'; clear hM') | (have _t := tk_b2; refine wpList_box rfl _ _ rfl _ _ rfl hM ?_; intro b2 W' hb2 hM'; clear hM tk_b2; have hM := hM'; clear hM') | (refine wpList_get rfl _ _ rfl _ _ rfl hM 0 rfl (rowTab _ _ rfl) (by omega) ?_) | (refine wpList_get rfl _ _ rfl _ _ rfl hM 1 rfl (rowTab _ _ rfl) (by omega) ?_) | (go_at_call 17; refine (squareTo_any u v x y hu hv hx hy _).mono ?_; rintro e W' ⟨rfl, hb'⟩; rw [hf.out]; have hM' := hM.call hb'; clear hM hb'; have hM := hM'; clear hM'))
  go_ret
  exact ⟨rfl, hM.below⟩

theorem toSpot_sp (x y : Int) (w : World) : Calls Try.prog 7 #[.agg (arr 2 (sp x y))] w fun e w' => e = .returned (.agg (arr 2 (sp x y))) ∧ Below w.heap.size w w' := toSpot_any _ (fun _ => rfl) w
set_option maxHeartbeats 1000000 in
theorem lawSquareOf_any (x y : Int) (hx : -128 ≤ x ∧ x ≤ 127) (hy : -128 ≤ y ∧ y ≤ 127) (u v : Int) (hu : -128 ≤ u ∧ u ≤ 127) (hv : -128 ≤ v ∧ v ≤ 127) (w : World) :
    Calls Try.prog 3 #[.agg (arr 2 (sp x y)), .agg (arr 2 (sp u v))] w fun e w' => e = .returned (.bool true) ∧ Below w.heap.size w w' := by
  have hM := Mem.nil w
  obtain ⟨q, hq⟩ : ∃ q, sqI x y u v = q := ⟨_, rfl⟩
  have Hq := Lib.hid hq
  clear hq
  have tk_b1 : True := trivial; have tk_b2 : True := trivial
  go_enter Try.func3, Try.ntmps3
  go_wp2_with (first | (have _t := tk_b1; refine wpList_box rfl _ _ rfl _ _ rfl hM ?_; intro b1 W' hb1 hM'; clear hM tk_b1; have hM := hM'; clear hM') | (have _t := tk_b2; refine wpList_box rfl _ _ rfl _ _ rfl hM ?_; intro b2 W' hb2 hM'; clear hM tk_b2; have hM := hM'; clear hM'))
  ((try simp only [Act.put, List.setIfInBounds_toArray, List.set_cons_succ, List.set_cons_zero]); refine wp_region_mem (by kernel_rfl) (by kernel_rfl) hM ?_; clear hM; (repeat (first | go_big_quiet_skip | (go_big_quiet_want; first | (refine quiet_get _ _ rfl _ _ rfl 0 rfl (rowTab _ _ rfl) (by omega) ?_; (simp only [Act.put, List.setIfInBounds_toArray, List.set_cons_succ, List.set_cons_zero]); go_big_quiet_on) | (refine quiet_get _ _ rfl _ _ rfl 1 rfl (rowTab _ _ rfl) (by omega) ?_; (simp only [Act.put, List.setIfInBounds_toArray, List.set_cons_succ, List.set_cons_zero]); go_big_quiet_on) | (refine quiet_call ?_; apply Exists.intro; apply Exists.intro; apply Exists.intro; refine ⟨fun W => ?_, fun W hM => ?_, ?_⟩; (go_simp; exact ⟨rfl, rfl⟩); (with_reducible exact toSpot_sp x y W); (simp only [Act.put, List.setIfInBounds_toArray, List.set_cons_succ, List.set_cons_zero]); go_big_quiet_on) | (refine quiet_call ?_; apply Exists.intro; apply Exists.intro; apply Exists.intro; refine ⟨fun W => ?_, fun W hM => ?_, ?_⟩; (go_simp; exact ⟨rfl, rfl⟩); (with_reducible exact toSpot_sp u v W); (simp only [Act.put, List.setIfInBounds_toArray, List.set_cons_succ, List.set_cons_zero]); go_big_quiet_on) | (refine quiet_call ?_; apply Exists.intro; apply Exists.intro; apply Exists.intro; refine ⟨fun W => ?_, fun W hM => ?_, ?_⟩; (go_simp; exact ⟨rfl, rfl⟩); (with_reducible exact specSquareOf_any x y u v hx hy hu hv W); (simp only [Hq.out]); (simp only [Act.put, List.setIfInBounds_toArray, List.set_cons_succ, List.set_cons_zero]); go_big_quiet_on) | (refine quiet_val ?_; apply Exists.intro; refine ⟨fun W => ?_, ?_⟩; (go_simp; rfl); (simp only [Act.put, List.setIfInBounds_toArray, List.set_cons_succ, List.set_cons_zero]); go_big_quiet_on)))); (with_reducible refine wpQuiet_nil ?_); intro W' hM)
  go_wp2
  ((try simp only [Act.put, List.setIfInBounds_toArray, List.set_cons_succ, List.set_cons_zero]); refine wp_region_mem (by kernel_rfl) (by kernel_rfl) hM ?_; clear hM; (repeat (first | go_big_quiet_skip | (go_big_quiet_want; first | (refine quiet_get _ _ rfl _ _ rfl 0 rfl (rowTab _ _ rfl) (by omega) ?_; (simp only [Act.put, List.setIfInBounds_toArray, List.set_cons_succ, List.set_cons_zero]); go_big_quiet_on) | (refine quiet_get _ _ rfl _ _ rfl 1 rfl (rowTab _ _ rfl) (by omega) ?_; (simp only [Act.put, List.setIfInBounds_toArray, List.set_cons_succ, List.set_cons_zero]); go_big_quiet_on) | (refine quiet_call ?_; apply Exists.intro; apply Exists.intro; apply Exists.intro; refine ⟨fun W => ?_, fun W hM => ?_, ?_⟩; (go_simp; exact ⟨rfl, rfl⟩); (with_reducible exact toSpot_sp x y W); (simp only [Act.put, List.setIfInBounds_toArray, List.set_cons_succ, List.set_cons_zero]); go_big_quiet_on) | (refine quiet_call ?_; apply Exists.intro; apply Exists.intro; apply Exists.intro; refine ⟨fun W => ?_, fun W hM => ?_, ?_⟩; (go_simp; exact ⟨rfl, rfl⟩); (with_reducible exact toSpot_sp u v W); (simp only [Act.put, List.setIfInBounds_toArray, List.set_cons_succ, List.set_cons_zero]); go_big_quiet_on) | (refine quiet_call ?_; apply Exists.intro; apply Exists.intro; apply Exists.intro; refine ⟨fun W => ?_, fun W hM => ?_, ?_⟩; (go_simp; exact ⟨rfl, rfl⟩); (with_reducible exact implSquareOf_any x y u v hx hy hu hv W); (simp only [Hq.out]); (simp only [Act.put, List.setIfInBounds_toArray, List.set_cons_succ, List.set_cons_zero]); go_big_quiet_on) | (refine quiet_val ?_; apply Exists.intro; refine ⟨fun W => ?_, ?_⟩; (go_simp; rfl); (simp only [Act.put, List.setIfInBounds_toArray, List.set_cons_succ, List.set_cons_zero]); go_big_quiet_on)))); (with_reducible refine wpQuiet_nil ?_); intro W' hM)
  go_wp2
  go_ret
  exact ⟨rfl, hM.below⟩
end Go.Proofs.Ytmeheinffdfbkaa
