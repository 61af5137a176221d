/-
  The square of two spots; (impl.Spot).squareTo by contract.
-/
import Derived.Test.YtdlfhomnlhdacaaDoorConv
import Derived.Test.YtdlfhomnlhdacaaDoorFrame
import Derived.Lib.Hide
namespace Go.Proofs.YtdlfhomnlhdacaaDoor
open Go Go.RowKit Go.BigFrame

theorem ret_int {a b : Int} (h : a = b) : Ending.returned (.int .i64 a) = .returned (.int .i64 b) := by rw [h]
/-- The square of two spots. -/
def sqI (x y u v : Int) : Int := (x - u) * (x - u) + (y - v) * (y - v)
theorem sq_in {d : Int} (h : -255 ≤ d ∧ d ≤ 255) : 0 ≤ d * d ∧ d * d ≤ 65025 := by
  rw [← Int.natAbs_mul_self]
  have h1 : d.natAbs ≤ 255 := by omega
  have h2 := Nat.mul_le_mul h1 h1
  omega

set_option maxHeartbeats 400000 in
theorem squareTo_any (x y u v : Int) (hx : -128 ≤ x ∧ x ≤ 127) (hy : -128 ≤ y ∧ y ≤ 127) (hu : -128 ≤ u ∧ u ≤ 127) (hv : -128 ≤ v ∧ v ≤ 127) (w : World) :
    Calls Tryd.prog 115 #[.agg (arr 2 (sp u v)), .agg (arr 2 (sp x y))] w fun e w' => e = .returned (.int .i64 (sqI x y u v)) ∧ Below w.heap.size w w' := by
  have hM := Mem.nil w
  have e0 : ∀ c d : Int, sp c d 0 = .int .i8 c := fun _ _ => rfl
  have e1 : ∀ c d : Int, sp c d 1 = .int .i8 d := fun _ _ => rfl
  have c1 : IntKind.i64.wrap x = x := IntWalk.i64_in _ (by omega)
  have c2 : IntKind.i64.wrap y = y := IntWalk.i64_in _ (by omega)
  have c3 : IntKind.i64.wrap u = u := IntWalk.i64_in _ (by omega)
  have c4 : IntKind.i64.wrap v = v := IntWalk.i64_in _ (by omega)
  obtain ⟨d, hd⟩ : ∃ d, d = x - u := ⟨_, rfl⟩
  obtain ⟨e, he⟩ : ∃ e, e = y - v := ⟨_, rfl⟩
  have c5 : IntKind.i64.wrap (x - u) = d := by rw [hd]; exact IntWalk.i64_in _ (by omega)
  have c6 : IntKind.i64.wrap (y - v) = e := by rw [he]; exact IntWalk.i64_in _ (by omega)
  have q1 := sq_in (show -255 ≤ d ∧ d ≤ 255 by omega)
  have q2 := sq_in (show -255 ≤ e ∧ e ≤ 255 by omega)
  have c7 : IntKind.i64.wrap (d * d) = d * d := IntWalk.i64_in _ (by omega)
  have c8 : IntKind.i64.wrap (e * e) = e * e := IntWalk.i64_in _ (by omega)
  have c9 : IntKind.i64.wrap (d * d + e * e) = d * d + e * e := IntWalk.i64_in _ (by omega)
  have hf : Hid (sqI x y u v = d * d + e * e) := Lib.hid (by rw [hd, he]; rfl)
  clear hd he
  have tk_b1 : True := trivial; have tk_b2 : True := trivial
  go_enter Tryd.func115, Tryd.ntmps115
  go_wp2_with (first | (have _t := tk_b1; refine wpList_box rfl _ _ rfl _ _ rfl hM ?_; intro b1 W' hb1 hM'; clear hM tk_b1; have hM := hM'; clear hM') | (have _t := tk_b2; refine wpList_box rfl _ _ rfl _ _ rfl hM ?_; intro b2 W' hb2 hM'; clear hM tk_b2; have hM := hM'; clear hM'))
  ((try simp only [Act.put, List.setIfInBounds_toArray, List.set_cons_succ, List.set_cons_zero]); refine wp_region_mem (by kernel_rfl) (by kernel_rfl) hM ?_; clear hM; (repeat (first | go_big_quiet_skip | (go_big_quiet_want; first | (refine quiet_get1 _ _ rfl _ _ rfl 0 rfl (cellTab _ rfl) (by omega) (.int .i8 x) rfl ?_; (simp only [Act.put, List.setIfInBounds_toArray, List.set_cons_succ, List.set_cons_zero]); go_big_quiet_on) | (refine quiet_get1 _ _ rfl _ _ rfl 0 rfl (cellTab _ rfl) (by omega) (.int .i8 y) rfl ?_; (simp only [Act.put, List.setIfInBounds_toArray, List.set_cons_succ, List.set_cons_zero]); go_big_quiet_on) | (refine quiet_get1 _ _ rfl _ _ rfl 1 rfl (cellTab _ rfl) (by omega) (.int .i8 u) rfl ?_; (simp only [Act.put, List.setIfInBounds_toArray, List.set_cons_succ, List.set_cons_zero]); go_big_quiet_on) | (refine quiet_get1 _ _ rfl _ _ rfl 1 rfl (cellTab _ rfl) (by omega) (.int .i8 v) rfl ?_; (simp only [Act.put, List.setIfInBounds_toArray, List.set_cons_succ, List.set_cons_zero]); go_big_quiet_on) | (refine quiet_val ?_; apply Exists.intro; refine ⟨fun W => ?_, ?_⟩; (go_simp; (try simp only [c1, c2, c3, c4, c5, c6, if_true, Bool.false_eq_true, if_false]); rfl); (simp only [Act.put, List.setIfInBounds_toArray, List.set_cons_succ, List.set_cons_zero]); go_big_quiet_on)))); (with_reducible refine wpQuiet_nil ?_); intro W' hM)
  go_wp2
  go_ret
  exact ⟨ret_int hf.out.symm, hM.below⟩

end Go.Proofs.YtdlfhomnlhdacaaDoor
