/-
  spec.ValidHurdle and impl.ValidHurdle by contracts; laws.FnExactValidHurdle returns true.
-/
import Derived.Test.YtnlejnhdedbbdaaHurdle
import Derived.Test.YtnlejnhdedbbdaaValidB
namespace Go.Proofs.Ytnlejnhdedbbdaa
open Go Go.RowKit Go.BigFrame

theorem okB_le {g : Nat → Int} (ho : okB g = true) : (1 ≤ g 0 ∧ g 0 ≤ 10) ∧ (1 ≤ g 1 ∧ g 1 ≤ 10) := by
  unfold okB at ho
  rw [Bool.and_eq_true, Bool.and_eq_true] at ho
  exact ⟨inB_true ho.1.1, inB_true ho.1.2⟩
def hurOk (g : Nat → Int) (x y : Int) (s : Bool) : Bool := okB g && hurIs g x y s
theorem hurOk_no {g : Nat → Int} {x y : Int} {s : Bool} (h : okB g = false) : hurOk g x y s = false := by simp [hurOk, h]
theorem hurOk_yes {g : Nat → Int} {x y : Int} {s : Bool} (h : okB g = true) : hurOk g x y s = hurIs g x y s := by simp [hurOk, h]

set_option maxRecDepth 100000 in
set_option maxHeartbeats 1000000 in
theorem specValidHurdle_any (g : Nat → Int) (hg : Fits g) (x y : Int) (s : Bool) (hx : -128 ≤ x ∧ x ≤ 127) (hy : -128 ≤ y ∧ y ≤ 127) (w : World) :
    Calls Try.prog 5 #[.agg (arr 122 (pas g)), .agg (arr 3 (hd x y s))] w fun e w' => e = .returned (.bool (hurOk g x y s)) ∧ Below w.heap.size w w' := by
  have hM := Mem.nil w
  have tk_b1 : True := trivial; have tk_b2 : True := trivial
  cases ho : okB g
  · have hf := Lib.hid (hurOk_no (x := x) (y := y) (s := s) ho)
    have Ho := Lib.hid ho
    clear ho
    go_enter Try.func5, Try.ntmps5
    go_wp2_with (first | (have _t := tk_b1; refine wpList_box rfl _ _ rfl _ _ rfl hM ?_; intro b1 W' hb1 hM'; clear hM tk_b1; have hM := hM'; clear hM') | (have _t := tk_b2; refine wpList_box rfl _ _ rfl _ _ rfl hM ?_; intro b2 W' hb2 hM'; clear hM tk_b2; have hM := hM'; clear hM') | (go_at_call 14; refine (l01Ok_any g hg _ _ (hM.ats 1 _ _ _ rfl)).mono ?_; rintro e W' ⟨rfl, hb'⟩; rw [Ho.out]; have hM' := hM.call hb'; clear hM hb'; have hM := hM'; clear hM'))
    go_ret
    exact ⟨ret_bool hf.out.symm, hM.below⟩
  · have hb := okB_le ho
    have hf := Lib.hid (hurOk_yes (x := x) (y := y) (s := s) ho)
    have Ho := Lib.hid ho
    cases hi : hurIs g x y s
    all_goals
      have Hi := Lib.hid hi
      clear hi
      go_enter Try.func5, Try.ntmps5
      go_wp2_with (first | (have _t := tk_b1; refine wpList_box rfl _ _ rfl _ _ rfl hM ?_; intro b1 W' hb1 hM'; clear hM tk_b1; have hM := hM'; clear hM') | (have _t := tk_b2; refine wpList_box rfl _ _ rfl _ _ rfl hM ?_; intro b2 W' hb2 hM'; clear hM tk_b2; have hM := hM'; clear hM') | (refine wpList_gget ?_ _ _ rfl _ _ rfl hM 0 rfl (rowTab _ _ rfl) (by omega) ?_; kernel_rfl) | (go_at_call 14; refine (l01Ok_any g hg _ _ (hM.ats 1 _ _ _ rfl)).mono ?_; rintro e W' ⟨rfl, hb'⟩; rw [Ho.out]; have hM' := hM.call hb'; clear hM hb'; have hM := hM'; clear hM') | (go_at_call 15; refine (l03Is_any g hg hb.1.2 hb.2.2 _ x y s hx hy _ (hM.ats 1 _ _ _ rfl)).mono ?_; rintro e W' ⟨rfl, hb'⟩; rw [Hi.out]; have hM' := hM.call hb'; clear hM hb'; have hM := hM'; clear hM'))
      go_ret
      exact ⟨ret_bool (by rw [hf.out, Hi.out]), hM.below⟩

set_option maxRecDepth 100000 in
set_option maxHeartbeats 1000000 in
theorem implValidHurdle_any (g : Nat → Int) (hg : Fits g) (x y : Int) (s : Bool) (w : World) :
    Calls Try.prog 8 #[.agg (arr 122 (pas g)), .agg (arr 3 (hd x y s))] w fun e w' => e = .returned (.bool (hurOk g x y s)) ∧ Below w.heap.size w w' := by
  have hM := Mem.nil w
  have hv : ∀ W, Calls Try.prog 19 #[.agg (arr 122 (pas g))] W fun e w' => e = .returned (.bool (okB g)) ∧ Below W.heap.size W w' := fun W => by
    rw [okB_eq]; exact implValid_any g hg W
  have Hv := Lib.hid hv
  clear hv
  have tk_b1 : True := trivial; have tk_b2 : True := trivial
  cases ho : okB g
  · have hf := Lib.hid (hurOk_no (x := x) (y := y) (s := s) ho)
    have Ho := Lib.hid ho
    clear ho
    go_enter Try.func8, Try.ntmps8
    go_wp2_with (first | (have _t := tk_b1; refine wpList_box rfl _ _ rfl _ _ rfl hM ?_; intro b1 W' hb1 hM'; clear hM tk_b1; have hM := hM'; clear hM') | (have _t := tk_b2; refine wpList_box rfl _ _ rfl _ _ rfl hM ?_; intro b2 W' hb2 hM'; clear hM tk_b2; have hM := hM'; clear hM') | (refine wpList_get rfl _ _ rfl _ _ rfl hM 1 rfl (rowTab _ _ rfl) (by omega) ?_) | (go_at_call 19; refine (Hv.out _).mono ?_; rintro e W' ⟨rfl, hb'⟩; rw [Ho.out]; have hM' := hM.call hb'; clear hM hb'; have hM := hM'; clear hM'))
    go_ret
    exact ⟨ret_bool hf.out.symm, hM.below⟩
  · have hb := okB_le ho
    have hf := Lib.hid (hurOk_yes (x := x) (y := y) (s := s) ho)
    have Ho := Lib.hid ho
    clear ho
    go_enter Try.func8, Try.ntmps8
    go_wp2_with (first | (have _t := tk_b1; refine wpList_box rfl _ _ rfl _ _ rfl hM ?_; intro b1 W' hb1 hM'; clear hM tk_b1; have hM := hM'; clear hM') | (have _t := tk_b2; refine wpList_box rfl _ _ rfl _ _ rfl hM ?_; intro b2 W' hb2 hM'; clear hM tk_b2; have hM := hM'; clear hM') | (refine wpList_get rfl _ _ rfl _ _ rfl hM 1 rfl (rowTab _ _ rfl) (by omega) ?_) | (refine wpList_gget ?_ _ _ rfl _ _ rfl hM 1 rfl (rowTab _ _ rfl) (by omega) ?_; kernel_rfl) | (refine wpList_gget ?_ _ _ rfl _ _ rfl hM 0 rfl (rowTab _ _ rfl) (by omega) ?_; kernel_rfl) | (go_at_call 19; refine (Hv.out _).mono ?_; rintro e W' ⟨rfl, hb'⟩; rw [Ho.out]; have hM' := hM.call hb'; clear hM hb'; have hM := hM'; clear hM') | (go_at_call 20; refine (canHave_any g hb.1.2 hb.2.2 x y s _).mono ?_; rintro e W' ⟨rfl, hb'⟩; have hM' := hM.call hb'; clear hM hb'; have hM := hM'; clear hM'))
    go_ret
    exact ⟨ret_bool (by rw [hf.out]), hM.below⟩

set_option maxRecDepth 100000 in
set_option maxHeartbeats 1000000 in
theorem lawValidHurdle_any (g : Nat → Int) (hg : Fits g) (x y : Int) (s : Bool) (hx : -128 ≤ x ∧ x ≤ 127) (hy : -128 ≤ y ∧ y ≤ 127) (w : World) :
    Calls Try.prog 3 #[.agg (arr 122 (pas g)), .agg (arr 3 (hd x y s))] w fun e w' => e = .returned (.bool true) ∧ Below w.heap.size w w' := by
  have hM := Mem.nil w
  have tk_b1 : True := trivial; have tk_b2 : True := trivial
  cases hi : hurOk g x y s
  all_goals
    have Hi := Lib.hid hi
    clear hi
    go_enter Try.func3, Try.ntmps3
    go_wp2_with (first | (have _t := tk_b1; refine wpList_box rfl _ _ rfl _ _ rfl hM ?_; intro b1 W' hb1 hM'; clear hM tk_b1; have hM := hM'; clear hM') | (have _t := tk_b2; refine wpList_box rfl _ _ rfl _ _ rfl hM ?_; intro b2 W' hb2 hM'; clear hM tk_b2; have hM := hM'; clear hM'))
    ((try simp only [Act.put, List.setIfInBounds_toArray, List.set_cons_succ, List.set_cons_zero]); refine wp_region_mem (by kernel_rfl) (by kernel_rfl) hM ?_; clear hM; (repeat (first | go_big_quiet_skip | (go_big_quiet_want; first | (refine quiet_get _ _ rfl _ _ rfl 1 rfl (rowTab _ _ rfl) (by omega) ?_; (simp only [Act.put, List.setIfInBounds_toArray, List.set_cons_succ, List.set_cons_zero]); go_big_quiet_on) | (refine quiet_get _ _ rfl _ _ rfl 0 rfl (rowTab _ _ rfl) (by omega) ?_; (simp only [Act.put, List.setIfInBounds_toArray, List.set_cons_succ, List.set_cons_zero]); go_big_quiet_on) | (refine quiet_call ?_; apply Exists.intro; apply Exists.intro; apply Exists.intro; refine ⟨fun W => ?_, fun W hM => ?_, ?_⟩; (go_simp; exact ⟨rfl, rfl⟩); (exact toPasture_any _ (fun _ => rfl) W); (simp only [Act.put, List.setIfInBounds_toArray, List.set_cons_succ, List.set_cons_zero]); go_big_quiet_on) | (refine quiet_call ?_; apply Exists.intro; apply Exists.intro; apply Exists.intro; refine ⟨fun W => ?_, fun W hM => ?_, ?_⟩; (go_simp; exact ⟨rfl, rfl⟩); (exact toHurdle_any x y s W); (simp only [Act.put, List.setIfInBounds_toArray, List.set_cons_succ, List.set_cons_zero]); go_big_quiet_on) | (refine quiet_call ?_; apply Exists.intro; apply Exists.intro; apply Exists.intro; refine ⟨fun W => ?_, fun W hM => ?_, ?_⟩; (go_simp; exact ⟨rfl, rfl⟩); (exact specValidHurdle_any g hg x y s hx hy W); (simp only [Hi.out]); (simp only [Act.put, List.setIfInBounds_toArray, List.set_cons_succ, List.set_cons_zero]); go_big_quiet_on) | (refine quiet_val ?_; apply Exists.intro; refine ⟨fun W => ?_, ?_⟩; (go_simp; rfl); (simp only [Act.put, List.setIfInBounds_toArray, List.set_cons_succ, List.set_cons_zero]); go_big_quiet_on)))); (with_reducible refine wpQuiet_nil ?_); intro W' hM)
    go_wp2
    ((try simp only [Act.put, List.setIfInBounds_toArray, List.set_cons_succ, List.set_cons_zero]); refine wp_region_mem (by kernel_rfl) (by kernel_rfl) hM ?_; clear hM; (repeat (first | go_big_quiet_skip | (go_big_quiet_want; first | (refine quiet_get _ _ rfl _ _ rfl 1 rfl (rowTab _ _ rfl) (by omega) ?_; (simp only [Act.put, List.setIfInBounds_toArray, List.set_cons_succ, List.set_cons_zero]); go_big_quiet_on) | (refine quiet_get _ _ rfl _ _ rfl 0 rfl (rowTab _ _ rfl) (by omega) ?_; (simp only [Act.put, List.setIfInBounds_toArray, List.set_cons_succ, List.set_cons_zero]); go_big_quiet_on) | (refine quiet_call ?_; apply Exists.intro; apply Exists.intro; apply Exists.intro; refine ⟨fun W => ?_, fun W hM => ?_, ?_⟩; (go_simp; exact ⟨rfl, rfl⟩); (exact toPasture_any _ (fun _ => rfl) W); (simp only [Act.put, List.setIfInBounds_toArray, List.set_cons_succ, List.set_cons_zero]); go_big_quiet_on) | (refine quiet_call ?_; apply Exists.intro; apply Exists.intro; apply Exists.intro; refine ⟨fun W => ?_, fun W hM => ?_, ?_⟩; (go_simp; exact ⟨rfl, rfl⟩); (exact toHurdle_any x y s W); (simp only [Act.put, List.setIfInBounds_toArray, List.set_cons_succ, List.set_cons_zero]); go_big_quiet_on) | (refine quiet_call ?_; apply Exists.intro; apply Exists.intro; apply Exists.intro; refine ⟨fun W => ?_, fun W hM => ?_, ?_⟩; (go_simp; exact ⟨rfl, rfl⟩); (exact implValidHurdle_any g hg x y s W); (simp only [Hi.out]); (simp only [Act.put, List.setIfInBounds_toArray, List.set_cons_succ, List.set_cons_zero]); go_big_quiet_on) | (refine quiet_val ?_; apply Exists.intro; refine ⟨fun W => ?_, ?_⟩; (go_simp; rfl); (simp only [Act.put, List.setIfInBounds_toArray, List.set_cons_succ, List.set_cons_zero]); go_big_quiet_on)))); (with_reducible refine wpQuiet_nil ?_); intro W' hM)
    go_wp2
    go_ret
    exact ⟨rfl, hM.below⟩
end Go.Proofs.Ytnlejnhdedbbdaa
