/-
  Several texts in one: Fenced, GivesL, BesideL.
-/
import Derived.Test.YtbmaljhnldepoaaDoorP6
import Derived.Test.YtbmaljhnldepoaaDoorP4
import Derived.Test.YtbmaljhnldepoaaDoorP5
/-
  (impl.Pasture).isWall, isFenced, isOpen, keptAt by contracts.
-/
namespace Go.Proofs.YtbmaljhnldepoaaDoor
open Go Go.RowKit Go.BigFrame

/-- A spot and a number. -/
theorem ret_sp {a b : Nat → Value} {c c' : Int} (h : arr 2 a = arr 2 b) (h' : c = c') : Ending.returned (.tuple #[.agg (arr 2 a), .int .i64 c]) = .returned (.tuple #[.agg (arr 2 b), .int .i64 c']) := by rw [h, h']
set_option maxHeartbeats 400000 in
theorem keptAt_0 (x y : Int) (hx : 0 ≤ x ∧ x ≤ 9) (hy : 0 ≤ y ∧ y ≤ 9) (w : World) :
    Calls Tryd.prog 150 #[.agg (arr 2 (sp x y)), .int .i64 0] w fun e w' => e = .returned (.tuple #[.agg (arr 2 (sp (x) (y - 1))), .int .i64 2]) ∧ Below w.heap.size w w' := by
  have hM := Mem.nil w
  have tk_b1 : True := trivial; have tk_b2 : True := trivial
  go_enter Tryd.func150, Tryd.ntmps150
  go_wp2_with (first | (have _t := tk_b1; refine wpList_box rfl _ _ rfl _ _ rfl hM ?_; intro b1 W' hb1 hM'; clear hM tk_b1; have hM := hM'; clear hM') | (have _t := tk_b2; refine wpList_zero rfl _ rfl (zeroTab _ _ _ rfl) hM ?_; intro b2 W' hb2 hM'; clear hM tk_b2; have hM := hM'; clear hM') | (refine wpList_get rfl _ _ rfl _ _ rfl hM 1 rfl (rowTab _ _ rfl) (by omega) ?_) | (refine wpList_lay rfl _ _ _ rfl _ _ rfl _ _ rfl hM 0 rfl (by assumption) (rowTab _ _ rfl) (by omega) ?_ ?_; (first | (intro _ _; rfl) | (intro k _; exact h1 _) | (intro k _; simp only [lay, upd]; (repeat' split) <;> first | exact h1 _ | rfl)); intro W' hM'; clear hM; have hM := hM'; clear hM'; simp only [List.set] at hM) | (go_at_call 122; refine (north_any x y hx hy _).mono ?_; rintro e W' ⟨rfl, hb'⟩; have hM' := hM.call hb'; clear hM hb'; have hM := hM'; clear hM'))
  exact bodyPost_ret (results_at2 rfl _ rfl ((hM.ats 0 _ _ _ rfl).congr (g := sp (x) (y - 1)) (fun k hk => by simp [lay, hk])) (rowTab _ _ rfl) _ rfl) rfl ⟨rfl, hM.below⟩
set_option maxHeartbeats 400000 in
theorem keptAt_1 (x y : Int) (hx : 0 ≤ x ∧ x ≤ 9) (hy : 0 ≤ y ∧ y ≤ 9) (w : World) :
    Calls Tryd.prog 150 #[.agg (arr 2 (sp x y)), .int .i64 1] w fun e w' => e = .returned (.tuple #[.agg (arr 2 (sp (x) (y))), .int .i64 1]) ∧ Below w.heap.size w w' := by
  have hM := Mem.nil w
  have tk_b1 : True := trivial; have tk_b2 : True := trivial
  go_enter Tryd.func150, Tryd.ntmps150
  go_wp2_with (first | (have _t := tk_b1; refine wpList_box rfl _ _ rfl _ _ rfl hM ?_; intro b1 W' hb1 hM'; clear hM tk_b1; have hM := hM'; clear hM') | (have _t := tk_b2; refine wpList_zero rfl _ rfl (zeroTab _ _ _ rfl) hM ?_; intro b2 W' hb2 hM'; clear hM tk_b2; have hM := hM'; clear hM') | (refine wpList_get rfl _ _ rfl _ _ rfl hM 1 rfl (rowTab _ _ rfl) (by omega) ?_) | (refine wpList_lay rfl _ _ _ rfl _ _ rfl _ _ rfl hM 0 rfl (by assumption) (rowTab _ _ rfl) (by omega) ?_ ?_; (first | (intro _ _; rfl) | (intro k _; exact h1 _) | (intro k _; simp only [lay, upd]; (repeat' split) <;> first | exact h1 _ | rfl)); intro W' hM'; clear hM; have hM := hM'; clear hM'; simp only [List.set] at hM))
  exact bodyPost_ret (results_at2 rfl _ rfl ((hM.ats 0 _ _ _ rfl).congr (g := sp (x) (y)) (fun k hk => by simp [lay, hk])) (rowTab _ _ rfl) _ rfl) rfl ⟨rfl, hM.below⟩
set_option maxHeartbeats 400000 in
theorem keptAt_2 (x y : Int) (hx : 0 ≤ x ∧ x ≤ 9) (hy : 0 ≤ y ∧ y ≤ 9) (w : World) :
    Calls Tryd.prog 150 #[.agg (arr 2 (sp x y)), .int .i64 2] w fun e w' => e = .returned (.tuple #[.agg (arr 2 (sp (x) (y))), .int .i64 2]) ∧ Below w.heap.size w w' := by
  have hM := Mem.nil w
  have tk_b1 : True := trivial; have tk_b2 : True := trivial
  go_enter Tryd.func150, Tryd.ntmps150
  go_wp2_with (first | (have _t := tk_b1; refine wpList_box rfl _ _ rfl _ _ rfl hM ?_; intro b1 W' hb1 hM'; clear hM tk_b1; have hM := hM'; clear hM') | (have _t := tk_b2; refine wpList_zero rfl _ rfl (zeroTab _ _ _ rfl) hM ?_; intro b2 W' hb2 hM'; clear hM tk_b2; have hM := hM'; clear hM') | (refine wpList_get rfl _ _ rfl _ _ rfl hM 1 rfl (rowTab _ _ rfl) (by omega) ?_) | (refine wpList_lay rfl _ _ _ rfl _ _ rfl _ _ rfl hM 0 rfl (by assumption) (rowTab _ _ rfl) (by omega) ?_ ?_; (first | (intro _ _; rfl) | (intro k _; exact h1 _) | (intro k _; simp only [lay, upd]; (repeat' split) <;> first | exact h1 _ | rfl)); intro W' hM'; clear hM; have hM := hM'; clear hM'; simp only [List.set] at hM))
  exact bodyPost_ret (results_at2 rfl _ rfl ((hM.ats 0 _ _ _ rfl).congr (g := sp (x) (y)) (fun k hk => by simp [lay, hk])) (rowTab _ _ rfl) _ rfl) rfl ⟨rfl, hM.below⟩
set_option maxHeartbeats 400000 in
theorem keptAt_3 (x y : Int) (hx : 0 ≤ x ∧ x ≤ 9) (hy : 0 ≤ y ∧ y ≤ 9) (w : World) :
    Calls Tryd.prog 150 #[.agg (arr 2 (sp x y)), .int .i64 3] w fun e w' => e = .returned (.tuple #[.agg (arr 2 (sp (x - 1) (y))), .int .i64 1]) ∧ Below w.heap.size w w' := by
  have hM := Mem.nil w
  have tk_b1 : True := trivial; have tk_b2 : True := trivial
  go_enter Tryd.func150, Tryd.ntmps150
  go_wp2_with (first | (have _t := tk_b1; refine wpList_box rfl _ _ rfl _ _ rfl hM ?_; intro b1 W' hb1 hM'; clear hM tk_b1; have hM := hM'; clear hM') | (have _t := tk_b2; refine wpList_zero rfl _ rfl (zeroTab _ _ _ rfl) hM ?_; intro b2 W' hb2 hM'; clear hM tk_b2; have hM := hM'; clear hM') | (refine wpList_get rfl _ _ rfl _ _ rfl hM 1 rfl (rowTab _ _ rfl) (by omega) ?_) | (refine wpList_lay rfl _ _ _ rfl _ _ rfl _ _ rfl hM 0 rfl (by assumption) (rowTab _ _ rfl) (by omega) ?_ ?_; (first | (intro _ _; rfl) | (intro k _; exact h1 _) | (intro k _; simp only [lay, upd]; (repeat' split) <;> first | exact h1 _ | rfl)); intro W' hM'; clear hM; have hM := hM'; clear hM'; simp only [List.set] at hM) | (go_at_call 125; refine (west_any x y hx hy _).mono ?_; rintro e W' ⟨rfl, hb'⟩; have hM' := hM.call hb'; clear hM hb'; have hM := hM'; clear hM'))
  exact bodyPost_ret (results_at2 rfl _ rfl ((hM.ats 0 _ _ _ rfl).congr (g := sp (x - 1) (y)) (fun k hk => by simp [lay, hk])) (rowTab _ _ rfl) _ rfl) rfl ⟨rfl, hM.below⟩
set_option maxRecDepth 100000 in
set_option maxHeartbeats 400000 in
theorem isWall_0 (g : Nat → Int) (x y : Int) (hx : 0 ≤ x ∧ x ≤ 9) (hy : 0 ≤ y ∧ y ≤ 9) (w : World) :
    Calls Tryd.prog 149 #[.agg (arr 122 (pas g)), .agg (arr 2 (sp x y)), .int .i64 0] w fun e w' => e = .returned (.bool (!isB g (x) (y - 1))) ∧ Below w.heap.size w w' := by
  have hM := Mem.nil w
  have tk_b1 : True := trivial; have tk_b2 : True := trivial
  go_enter Tryd.func149, Tryd.ntmps149
  go_wp2_with (first | (have _t := tk_b1; refine wpList_box rfl _ _ rfl _ _ rfl hM ?_; intro b1 W' hb1 hM'; clear hM tk_b1; have hM := hM'; clear hM') | (have _t := tk_b2; refine wpList_box rfl _ _ rfl _ _ rfl hM ?_; intro b2 W' hb2 hM'; clear hM tk_b2; have hM := hM'; clear hM'))
  cases hi : isB g (x) (y - 1)
  all_goals
    have Hi := Lib.hid hi
    clear hi
    ((try simp only [Act.put, List.setIfInBounds_toArray, List.set_cons_succ, List.set_cons_zero]); refine wp_region_mem (by kernel_rfl) (by kernel_rfl) hM ?_; clear hM; (repeat (first | go_big_quiet_skip | (go_big_quiet_want; first | (refine quiet_get _ _ rfl _ _ rfl 1 rfl (rowTab _ _ rfl) (by omega) ?_; (simp only [Act.put, List.setIfInBounds_toArray, List.set_cons_succ, List.set_cons_zero]); go_big_quiet_on) | (refine quiet_get _ _ rfl _ _ rfl 0 rfl (rowTab _ _ rfl) (by omega) ?_; (simp only [Act.put, List.setIfInBounds_toArray, List.set_cons_succ, List.set_cons_zero]); go_big_quiet_on) | (refine quiet_call ?_; apply Exists.intro; apply Exists.intro; apply Exists.intro; refine ⟨fun W => ?_, fun W hM => ?_, ?_⟩; (go_simp; exact ⟨rfl, rfl⟩); (exact over_0 x y hx hy W); (simp only [Act.put, List.setIfInBounds_toArray, List.set_cons_succ, List.set_cons_zero]); go_big_quiet_on) | (refine quiet_call ?_; apply Exists.intro; apply Exists.intro; apply Exists.intro; refine ⟨fun W => ?_, fun W hM => ?_, ?_⟩; (go_simp; exact ⟨rfl, rfl⟩); (exact hasCell_any g (x) (y - 1) W); (simp only [Hi.out]); (simp only [Act.put, List.setIfInBounds_toArray, List.set_cons_succ, List.set_cons_zero]); go_big_quiet_on) | (refine quiet_val ?_; apply Exists.intro; refine ⟨fun W => ?_, ?_⟩; (go_simp; rfl); (simp only [Act.put, List.setIfInBounds_toArray, List.set_cons_succ, List.set_cons_zero]); go_big_quiet_on)))); (with_reducible refine wpQuiet_nil ?_); intro W' hM)
    go_wp2
    go_ret
    exact ⟨ret_bool (by rw [Hi.out]; rfl), hM.below⟩
set_option maxRecDepth 100000 in
set_option maxHeartbeats 400000 in
theorem isWall_1 (g : Nat → Int) (x y : Int) (hx : 0 ≤ x ∧ x ≤ 9) (hy : 0 ≤ y ∧ y ≤ 9) (w : World) :
    Calls Tryd.prog 149 #[.agg (arr 122 (pas g)), .agg (arr 2 (sp x y)), .int .i64 1] w fun e w' => e = .returned (.bool (!isB g (x + 1) (y))) ∧ Below w.heap.size w w' := by
  have hM := Mem.nil w
  have tk_b1 : True := trivial; have tk_b2 : True := trivial
  go_enter Tryd.func149, Tryd.ntmps149
  go_wp2_with (first | (have _t := tk_b1; refine wpList_box rfl _ _ rfl _ _ rfl hM ?_; intro b1 W' hb1 hM'; clear hM tk_b1; have hM := hM'; clear hM') | (have _t := tk_b2; refine wpList_box rfl _ _ rfl _ _ rfl hM ?_; intro b2 W' hb2 hM'; clear hM tk_b2; have hM := hM'; clear hM'))
  cases hi : isB g (x + 1) (y)
  all_goals
    have Hi := Lib.hid hi
    clear hi
    ((try simp only [Act.put, List.setIfInBounds_toArray, List.set_cons_succ, List.set_cons_zero]); refine wp_region_mem (by kernel_rfl) (by kernel_rfl) hM ?_; clear hM; (repeat (first | go_big_quiet_skip | (go_big_quiet_want; first | (refine quiet_get _ _ rfl _ _ rfl 1 rfl (rowTab _ _ rfl) (by omega) ?_; (simp only [Act.put, List.setIfInBounds_toArray, List.set_cons_succ, List.set_cons_zero]); go_big_quiet_on) | (refine quiet_get _ _ rfl _ _ rfl 0 rfl (rowTab _ _ rfl) (by omega) ?_; (simp only [Act.put, List.setIfInBounds_toArray, List.set_cons_succ, List.set_cons_zero]); go_big_quiet_on) | (refine quiet_call ?_; apply Exists.intro; apply Exists.intro; apply Exists.intro; refine ⟨fun W => ?_, fun W hM => ?_, ?_⟩; (go_simp; exact ⟨rfl, rfl⟩); (exact over_1 x y hx hy W); (simp only [Act.put, List.setIfInBounds_toArray, List.set_cons_succ, List.set_cons_zero]); go_big_quiet_on) | (refine quiet_call ?_; apply Exists.intro; apply Exists.intro; apply Exists.intro; refine ⟨fun W => ?_, fun W hM => ?_, ?_⟩; (go_simp; exact ⟨rfl, rfl⟩); (exact hasCell_any g (x + 1) (y) W); (simp only [Hi.out]); (simp only [Act.put, List.setIfInBounds_toArray, List.set_cons_succ, List.set_cons_zero]); go_big_quiet_on) | (refine quiet_val ?_; apply Exists.intro; refine ⟨fun W => ?_, ?_⟩; (go_simp; rfl); (simp only [Act.put, List.setIfInBounds_toArray, List.set_cons_succ, List.set_cons_zero]); go_big_quiet_on)))); (with_reducible refine wpQuiet_nil ?_); intro W' hM)
    go_wp2
    go_ret
    exact ⟨ret_bool (by rw [Hi.out]; rfl), hM.below⟩
set_option maxRecDepth 100000 in
set_option maxHeartbeats 400000 in
theorem isWall_2 (g : Nat → Int) (x y : Int) (hx : 0 ≤ x ∧ x ≤ 9) (hy : 0 ≤ y ∧ y ≤ 9) (w : World) :
    Calls Tryd.prog 149 #[.agg (arr 122 (pas g)), .agg (arr 2 (sp x y)), .int .i64 2] w fun e w' => e = .returned (.bool (!isB g (x) (y + 1))) ∧ Below w.heap.size w w' := by
  have hM := Mem.nil w
  have tk_b1 : True := trivial; have tk_b2 : True := trivial
  go_enter Tryd.func149, Tryd.ntmps149
  go_wp2_with (first | (have _t := tk_b1; refine wpList_box rfl _ _ rfl _ _ rfl hM ?_; intro b1 W' hb1 hM'; clear hM tk_b1; have hM := hM'; clear hM') | (have _t := tk_b2; refine wpList_box rfl _ _ rfl _ _ rfl hM ?_; intro b2 W' hb2 hM'; clear hM tk_b2; have hM := hM'; clear hM'))
  cases hi : isB g (x) (y + 1)
  all_goals
    have Hi := Lib.hid hi
    clear hi
    ((try simp only [Act.put, List.setIfInBounds_toArray, List.set_cons_succ, List.set_cons_zero]); refine wp_region_mem (by kernel_rfl) (by kernel_rfl) hM ?_; clear hM; (repeat (first | go_big_quiet_skip | (go_big_quiet_want; first | (refine quiet_get _ _ rfl _ _ rfl 1 rfl (rowTab _ _ rfl) (by omega) ?_; (simp only [Act.put, List.setIfInBounds_toArray, List.set_cons_succ, List.set_cons_zero]); go_big_quiet_on) | (refine quiet_get _ _ rfl _ _ rfl 0 rfl (rowTab _ _ rfl) (by omega) ?_; (simp only [Act.put, List.setIfInBounds_toArray, List.set_cons_succ, List.set_cons_zero]); go_big_quiet_on) | (refine quiet_call ?_; apply Exists.intro; apply Exists.intro; apply Exists.intro; refine ⟨fun W => ?_, fun W hM => ?_, ?_⟩; (go_simp; exact ⟨rfl, rfl⟩); (exact over_2 x y hx hy W); (simp only [Act.put, List.setIfInBounds_toArray, List.set_cons_succ, List.set_cons_zero]); go_big_quiet_on) | (refine quiet_call ?_; apply Exists.intro; apply Exists.intro; apply Exists.intro; refine ⟨fun W => ?_, fun W hM => ?_, ?_⟩; (go_simp; exact ⟨rfl, rfl⟩); (exact hasCell_any g (x) (y + 1) W); (simp only [Hi.out]); (simp only [Act.put, List.setIfInBounds_toArray, List.set_cons_succ, List.set_cons_zero]); go_big_quiet_on) | (refine quiet_val ?_; apply Exists.intro; refine ⟨fun W => ?_, ?_⟩; (go_simp; rfl); (simp only [Act.put, List.setIfInBounds_toArray, List.set_cons_succ, List.set_cons_zero]); go_big_quiet_on)))); (with_reducible refine wpQuiet_nil ?_); intro W' hM)
    go_wp2
    go_ret
    exact ⟨ret_bool (by rw [Hi.out]; rfl), hM.below⟩
set_option maxRecDepth 100000 in
set_option maxHeartbeats 400000 in
theorem isWall_3 (g : Nat → Int) (x y : Int) (hx : 0 ≤ x ∧ x ≤ 9) (hy : 0 ≤ y ∧ y ≤ 9) (w : World) :
    Calls Tryd.prog 149 #[.agg (arr 122 (pas g)), .agg (arr 2 (sp x y)), .int .i64 3] w fun e w' => e = .returned (.bool (!isB g (x - 1) (y))) ∧ Below w.heap.size w w' := by
  have hM := Mem.nil w
  have tk_b1 : True := trivial; have tk_b2 : True := trivial
  go_enter Tryd.func149, Tryd.ntmps149
  go_wp2_with (first | (have _t := tk_b1; refine wpList_box rfl _ _ rfl _ _ rfl hM ?_; intro b1 W' hb1 hM'; clear hM tk_b1; have hM := hM'; clear hM') | (have _t := tk_b2; refine wpList_box rfl _ _ rfl _ _ rfl hM ?_; intro b2 W' hb2 hM'; clear hM tk_b2; have hM := hM'; clear hM'))
  cases hi : isB g (x - 1) (y)
  all_goals
    have Hi := Lib.hid hi
    clear hi
    ((try simp only [Act.put, List.setIfInBounds_toArray, List.set_cons_succ, List.set_cons_zero]); refine wp_region_mem (by kernel_rfl) (by kernel_rfl) hM ?_; clear hM; (repeat (first | go_big_quiet_skip | (go_big_quiet_want; first | (refine quiet_get _ _ rfl _ _ rfl 1 rfl (rowTab _ _ rfl) (by omega) ?_; (simp only [Act.put, List.setIfInBounds_toArray, List.set_cons_succ, List.set_cons_zero]); go_big_quiet_on) | (refine quiet_get _ _ rfl _ _ rfl 0 rfl (rowTab _ _ rfl) (by omega) ?_; (simp only [Act.put, List.setIfInBounds_toArray, List.set_cons_succ, List.set_cons_zero]); go_big_quiet_on) | (refine quiet_call ?_; apply Exists.intro; apply Exists.intro; apply Exists.intro; refine ⟨fun W => ?_, fun W hM => ?_, ?_⟩; (go_simp; exact ⟨rfl, rfl⟩); (exact over_3 x y hx hy W); (simp only [Act.put, List.setIfInBounds_toArray, List.set_cons_succ, List.set_cons_zero]); go_big_quiet_on) | (refine quiet_call ?_; apply Exists.intro; apply Exists.intro; apply Exists.intro; refine ⟨fun W => ?_, fun W hM => ?_, ?_⟩; (go_simp; exact ⟨rfl, rfl⟩); (exact hasCell_any g (x - 1) (y) W); (simp only [Hi.out]); (simp only [Act.put, List.setIfInBounds_toArray, List.set_cons_succ, List.set_cons_zero]); go_big_quiet_on) | (refine quiet_val ?_; apply Exists.intro; refine ⟨fun W => ?_, ?_⟩; (go_simp; rfl); (simp only [Act.put, List.setIfInBounds_toArray, List.set_cons_succ, List.set_cons_zero]); go_big_quiet_on)))); (with_reducible refine wpQuiet_nil ?_); intro W' hM)
    go_wp2
    go_ret
    exact ⟨ret_bool (by rw [Hi.out]; rfl), hM.below⟩
set_option maxRecDepth 100000 in
set_option maxHeartbeats 1000000 in
theorem isFenced_wall0 (g : Nat → Int) (x y : Int) (hx : 0 ≤ x ∧ x ≤ 9) (hy : 0 ≤ y ∧ y ≤ 9) (hi : isB g (x) (y - 1) = false) (w : World) :
    Calls Tryd.prog 116 #[.agg (arr 122 (pas g)), .agg (arr 2 (sp x y)), .int .i64 0] w fun e w' => e = .returned (.bool false) ∧ Below w.heap.size w w' := by
  have hM := Mem.nil w
  have hw := fun W => isWall_0 g x y hx hy W
  rw [hi] at hw
  have Hw := Lib.hid hw
  clear hw hi
  have tk_b1 : True := trivial; have tk_b2 : True := trivial
  go_enter Tryd.func116, Tryd.ntmps116
  go_wp2_with (first | (have _t := tk_b1; refine wpList_box rfl _ _ rfl _ _ rfl hM ?_; intro b1 W' hb1 hM'; clear hM tk_b1; have hM := hM'; clear hM') | (have _t := tk_b2; refine wpList_box rfl _ _ rfl _ _ rfl hM ?_; intro b2 W' hb2 hM'; clear hM tk_b2; have hM := hM'; clear hM') | (refine wpList_get rfl _ _ rfl _ _ rfl hM 1 rfl (rowTab _ _ rfl) (by omega) ?_) | (refine wpList_get rfl _ _ rfl _ _ rfl hM 0 rfl (rowTab _ _ rfl) (by omega) ?_) | (go_at_call 149; refine (Hw.out _).mono ?_; rintro e W' ⟨rfl, hb'⟩; have hM' := hM.call hb'; clear hM hb'; have hM := hM'; clear hM'))
  go_ret
  exact ⟨rfl, hM.below⟩
set_option maxRecDepth 100000 in
set_option maxHeartbeats 1000000 in
theorem isFenced_in0 (g : Nat → Int) (hg : Fits g) (x y : Nat) (hx : x ≤ 9) (hy : y ≤ 8) (hi : isB g (x) (y) = true) (w : World) :
    Calls Tryd.prog 116 #[.agg (arr 122 (pas g)), .agg (arr 2 (sp (x) (y + 1))), .int .i64 0] w fun e w' => e = .returned (.bool (bitB (g (112 + y)) x)) ∧ Below w.heap.size w w' := by
  have hM := Mem.nil w
  have hw := fun W => isWall_0 g (x) (y + 1) (by omega) (by omega) W
  have hk := fun W => keptAt_0 (x) (y + 1) (by omega) (by omega) W
  simp only [show (y : Int) + 1 - 1 = y by omega] at hw hk
  rw [hi] at hw
  have Hw := Lib.hid hw
  have Hk := Lib.hid hk
  have e0 : pas g (102 + y) = .int .u16 (g (102 + y)) := pas_u16 g (by omega)
  have e1 : pas g (112 + y) = .int .u16 (g (112 + y)) := pas_u16 g (by omega)
  have hr := hg.bits (112 + y) (by omega) (by omega)
  have l0 : lay (fun _ => Value.int IntKind.i8 0) 0 2 (sp (x : Int) (y : Int)) 0 = .int .i8 (x : Int) := rfl
  have l1 : lay (fun _ => Value.int IntKind.i8 0) 0 2 (sp (x : Int) (y : Int)) 1 = .int .i8 (y : Int) := rfl
  have lx : (x : Int) < 10 := by omega
  have ly : (y : Int) < 10 := by omega
  have mx : min x 16 = x := by omega
  have hb := bitB_eq (g (112 + y)) x
  clear hw hk hi
  have tk_b1 : True := trivial; have tk_b2 : True := trivial; have tk_b3 : True := trivial
  go_enter Tryd.func116, Tryd.ntmps116
  go_wp2_with (first | (have _t := tk_b1; refine wpList_box rfl _ _ rfl _ _ rfl hM ?_; intro b1 W' hb1 hM'; clear hM tk_b1; have hM := hM'; clear hM') | (have _t := tk_b2; refine wpList_box rfl _ _ rfl _ _ rfl hM ?_; intro b2 W' hb2 hM'; clear hM tk_b2; have hM := hM'; clear hM') | (refine wpList_get rfl _ _ rfl _ _ rfl hM 1 rfl (rowTab _ _ rfl) (by omega) ?_) | (refine wpList_get rfl _ _ rfl _ _ rfl hM 0 rfl (rowTab _ _ rfl) (by omega) ?_) | (go_at_call 149; refine (Hw.out _).mono ?_; rintro e W' ⟨rfl, hb'⟩; have hM' := hM.call hb'; clear hM hb'; have hM := hM'; clear hM') | (go_at_call 150; refine (Hk.out _).mono ?_; rintro e W' ⟨rfl, hb'⟩; have hM' := hM.call hb'; clear hM hb'; have hM := hM'; clear hM') | (have _t := tk_b3; refine wpList_zero rfl _ rfl (zeroTab _ _ _ rfl) hM ?_; intro b3 W' hb3 hM'; clear hM tk_b3; have hM := hM'; clear hM') | (refine wpList_lay rfl _ _ _ rfl _ _ rfl _ _ rfl hM 0 rfl (by assumption) (rowTab _ _ rfl) (by omega) ?_ ?_; (first | (intro _ _; rfl) | (intro k _; exact h1 _) | (intro k _; simp only [lay, upd]; (repeat' split) <;> first | exact h1 _ | rfl)); intro W' hM'; clear hM; have hM := hM'; clear hM'; simp only [List.set] at hM) | (refine wpList_get1 rfl _ _ rfl _ _ rfl hM 0 rfl (cellTab _ rfl) (by omega) _ l0 ?_) | (refine wpList_get1 rfl _ _ rfl _ _ rfl hM 0 rfl (cellTab _ rfl) (by omega) _ l1 ?_) | (refine wpList_get1 rfl _ _ rfl _ _ rfl hM 2 rfl (cellTab _ rfl) (by omega) _ e0 ?_) | (refine wpList_get1 rfl _ _ rfl _ _ rfl hM 2 rfl (cellTab _ rfl) (by omega) _ e1 ?_))
  go_ret
  exact ⟨rfl, hM.below⟩
set_option maxRecDepth 100000 in
set_option maxHeartbeats 1000000 in
theorem isFenced_wall1 (g : Nat → Int) (x y : Int) (hx : 0 ≤ x ∧ x ≤ 9) (hy : 0 ≤ y ∧ y ≤ 9) (hi : isB g (x + 1) (y) = false) (w : World) :
    Calls Tryd.prog 116 #[.agg (arr 122 (pas g)), .agg (arr 2 (sp x y)), .int .i64 1] w fun e w' => e = .returned (.bool false) ∧ Below w.heap.size w w' := by
  have hM := Mem.nil w
  have hw := fun W => isWall_1 g x y hx hy W
  rw [hi] at hw
  have Hw := Lib.hid hw
  clear hw hi
  have tk_b1 : True := trivial; have tk_b2 : True := trivial
  go_enter Tryd.func116, Tryd.ntmps116
  go_wp2_with (first | (have _t := tk_b1; refine wpList_box rfl _ _ rfl _ _ rfl hM ?_; intro b1 W' hb1 hM'; clear hM tk_b1; have hM := hM'; clear hM') | (have _t := tk_b2; refine wpList_box rfl _ _ rfl _ _ rfl hM ?_; intro b2 W' hb2 hM'; clear hM tk_b2; have hM := hM'; clear hM') | (refine wpList_get rfl _ _ rfl _ _ rfl hM 1 rfl (rowTab _ _ rfl) (by omega) ?_) | (refine wpList_get rfl _ _ rfl _ _ rfl hM 0 rfl (rowTab _ _ rfl) (by omega) ?_) | (go_at_call 149; refine (Hw.out _).mono ?_; rintro e W' ⟨rfl, hb'⟩; have hM' := hM.call hb'; clear hM hb'; have hM := hM'; clear hM'))
  go_ret
  exact ⟨rfl, hM.below⟩
set_option maxRecDepth 100000 in
set_option maxHeartbeats 1000000 in
theorem isFenced_in1 (g : Nat → Int) (hg : Fits g) (x y : Nat) (hx : x ≤ 8) (hy : y ≤ 9) (hi : isB g (x + 1) (y) = true) (w : World) :
    Calls Tryd.prog 116 #[.agg (arr 122 (pas g)), .agg (arr 2 (sp (x) (y))), .int .i64 1] w fun e w' => e = .returned (.bool (bitB (g (102 + y)) x)) ∧ Below w.heap.size w w' := by
  have hM := Mem.nil w
  have hw := fun W => isWall_1 g (x) (y) (by omega) (by omega) W
  have hk := fun W => keptAt_1 (x) (y) (by omega) (by omega) W
  skip
  rw [hi] at hw
  have Hw := Lib.hid hw
  have Hk := Lib.hid hk
  have e0 : pas g (102 + y) = .int .u16 (g (102 + y)) := pas_u16 g (by omega)
  have e1 : pas g (112 + y) = .int .u16 (g (112 + y)) := pas_u16 g (by omega)
  have hr := hg.bits (102 + y) (by omega) (by omega)
  have l0 : lay (fun _ => Value.int IntKind.i8 0) 0 2 (sp (x : Int) (y : Int)) 0 = .int .i8 (x : Int) := rfl
  have l1 : lay (fun _ => Value.int IntKind.i8 0) 0 2 (sp (x : Int) (y : Int)) 1 = .int .i8 (y : Int) := rfl
  have lx : (x : Int) < 10 := by omega
  have ly : (y : Int) < 10 := by omega
  have mx : min x 16 = x := by omega
  have hb := bitB_eq (g (102 + y)) x
  clear hw hk hi
  have tk_b1 : True := trivial; have tk_b2 : True := trivial; have tk_b3 : True := trivial
  go_enter Tryd.func116, Tryd.ntmps116
  go_wp2_with (first | (have _t := tk_b1; refine wpList_box rfl _ _ rfl _ _ rfl hM ?_; intro b1 W' hb1 hM'; clear hM tk_b1; have hM := hM'; clear hM') | (have _t := tk_b2; refine wpList_box rfl _ _ rfl _ _ rfl hM ?_; intro b2 W' hb2 hM'; clear hM tk_b2; have hM := hM'; clear hM') | (refine wpList_get rfl _ _ rfl _ _ rfl hM 1 rfl (rowTab _ _ rfl) (by omega) ?_) | (refine wpList_get rfl _ _ rfl _ _ rfl hM 0 rfl (rowTab _ _ rfl) (by omega) ?_) | (go_at_call 149; refine (Hw.out _).mono ?_; rintro e W' ⟨rfl, hb'⟩; have hM' := hM.call hb'; clear hM hb'; have hM := hM'; clear hM') | (go_at_call 150; refine (Hk.out _).mono ?_; rintro e W' ⟨rfl, hb'⟩; have hM' := hM.call hb'; clear hM hb'; have hM := hM'; clear hM') | (have _t := tk_b3; refine wpList_zero rfl _ rfl (zeroTab _ _ _ rfl) hM ?_; intro b3 W' hb3 hM'; clear hM tk_b3; have hM := hM'; clear hM') | (refine wpList_lay rfl _ _ _ rfl _ _ rfl _ _ rfl hM 0 rfl (by assumption) (rowTab _ _ rfl) (by omega) ?_ ?_; (first | (intro _ _; rfl) | (intro k _; exact h1 _) | (intro k _; simp only [lay, upd]; (repeat' split) <;> first | exact h1 _ | rfl)); intro W' hM'; clear hM; have hM := hM'; clear hM'; simp only [List.set] at hM) | (refine wpList_get1 rfl _ _ rfl _ _ rfl hM 0 rfl (cellTab _ rfl) (by omega) _ l0 ?_) | (refine wpList_get1 rfl _ _ rfl _ _ rfl hM 0 rfl (cellTab _ rfl) (by omega) _ l1 ?_) | (refine wpList_get1 rfl _ _ rfl _ _ rfl hM 2 rfl (cellTab _ rfl) (by omega) _ e0 ?_) | (refine wpList_get1 rfl _ _ rfl _ _ rfl hM 2 rfl (cellTab _ rfl) (by omega) _ e1 ?_))
  go_ret
  exact ⟨rfl, hM.below⟩
set_option maxRecDepth 100000 in
set_option maxHeartbeats 1000000 in
theorem isFenced_wall2 (g : Nat → Int) (x y : Int) (hx : 0 ≤ x ∧ x ≤ 9) (hy : 0 ≤ y ∧ y ≤ 9) (hi : isB g (x) (y + 1) = false) (w : World) :
    Calls Tryd.prog 116 #[.agg (arr 122 (pas g)), .agg (arr 2 (sp x y)), .int .i64 2] w fun e w' => e = .returned (.bool false) ∧ Below w.heap.size w w' := by
  have hM := Mem.nil w
  have hw := fun W => isWall_2 g x y hx hy W
  rw [hi] at hw
  have Hw := Lib.hid hw
  clear hw hi
  have tk_b1 : True := trivial; have tk_b2 : True := trivial
  go_enter Tryd.func116, Tryd.ntmps116
  go_wp2_with (first | (have _t := tk_b1; refine wpList_box rfl _ _ rfl _ _ rfl hM ?_; intro b1 W' hb1 hM'; clear hM tk_b1; have hM := hM'; clear hM') | (have _t := tk_b2; refine wpList_box rfl _ _ rfl _ _ rfl hM ?_; intro b2 W' hb2 hM'; clear hM tk_b2; have hM := hM'; clear hM') | (refine wpList_get rfl _ _ rfl _ _ rfl hM 1 rfl (rowTab _ _ rfl) (by omega) ?_) | (refine wpList_get rfl _ _ rfl _ _ rfl hM 0 rfl (rowTab _ _ rfl) (by omega) ?_) | (go_at_call 149; refine (Hw.out _).mono ?_; rintro e W' ⟨rfl, hb'⟩; have hM' := hM.call hb'; clear hM hb'; have hM := hM'; clear hM'))
  go_ret
  exact ⟨rfl, hM.below⟩
set_option maxRecDepth 100000 in
set_option maxHeartbeats 1000000 in
theorem isFenced_in2 (g : Nat → Int) (hg : Fits g) (x y : Nat) (hx : x ≤ 9) (hy : y ≤ 8) (hi : isB g (x) (y + 1) = true) (w : World) :
    Calls Tryd.prog 116 #[.agg (arr 122 (pas g)), .agg (arr 2 (sp (x) (y))), .int .i64 2] w fun e w' => e = .returned (.bool (bitB (g (112 + y)) x)) ∧ Below w.heap.size w w' := by
  have hM := Mem.nil w
  have hw := fun W => isWall_2 g (x) (y) (by omega) (by omega) W
  have hk := fun W => keptAt_2 (x) (y) (by omega) (by omega) W
  skip
  rw [hi] at hw
  have Hw := Lib.hid hw
  have Hk := Lib.hid hk
  have e0 : pas g (102 + y) = .int .u16 (g (102 + y)) := pas_u16 g (by omega)
  have e1 : pas g (112 + y) = .int .u16 (g (112 + y)) := pas_u16 g (by omega)
  have hr := hg.bits (112 + y) (by omega) (by omega)
  have l0 : lay (fun _ => Value.int IntKind.i8 0) 0 2 (sp (x : Int) (y : Int)) 0 = .int .i8 (x : Int) := rfl
  have l1 : lay (fun _ => Value.int IntKind.i8 0) 0 2 (sp (x : Int) (y : Int)) 1 = .int .i8 (y : Int) := rfl
  have lx : (x : Int) < 10 := by omega
  have ly : (y : Int) < 10 := by omega
  have mx : min x 16 = x := by omega
  have hb := bitB_eq (g (112 + y)) x
  clear hw hk hi
  have tk_b1 : True := trivial; have tk_b2 : True := trivial; have tk_b3 : True := trivial
  go_enter Tryd.func116, Tryd.ntmps116
  go_wp2_with (first | (have _t := tk_b1; refine wpList_box rfl _ _ rfl _ _ rfl hM ?_; intro b1 W' hb1 hM'; clear hM tk_b1; have hM := hM'; clear hM') | (have _t := tk_b2; refine wpList_box rfl _ _ rfl _ _ rfl hM ?_; intro b2 W' hb2 hM'; clear hM tk_b2; have hM := hM'; clear hM') | (refine wpList_get rfl _ _ rfl _ _ rfl hM 1 rfl (rowTab _ _ rfl) (by omega) ?_) | (refine wpList_get rfl _ _ rfl _ _ rfl hM 0 rfl (rowTab _ _ rfl) (by omega) ?_) | (go_at_call 149; refine (Hw.out _).mono ?_; rintro e W' ⟨rfl, hb'⟩; have hM' := hM.call hb'; clear hM hb'; have hM := hM'; clear hM') | (go_at_call 150; refine (Hk.out _).mono ?_; rintro e W' ⟨rfl, hb'⟩; have hM' := hM.call hb'; clear hM hb'; have hM := hM'; clear hM') | (have _t := tk_b3; refine wpList_zero rfl _ rfl (zeroTab _ _ _ rfl) hM ?_; intro b3 W' hb3 hM'; clear hM tk_b3; have hM := hM'; clear hM') | (refine wpList_lay rfl _ _ _ rfl _ _ rfl _ _ rfl hM 0 rfl (by assumption) (rowTab _ _ rfl) (by omega) ?_ ?_; (first | (intro _ _; rfl) | (intro k _; exact h1 _) | (intro k _; simp only [lay, upd]; (repeat' split) <;> first | exact h1 _ | rfl)); intro W' hM'; clear hM; have hM := hM'; clear hM'; simp only [List.set] at hM) | (refine wpList_get1 rfl _ _ rfl _ _ rfl hM 0 rfl (cellTab _ rfl) (by omega) _ l0 ?_) | (refine wpList_get1 rfl _ _ rfl _ _ rfl hM 0 rfl (cellTab _ rfl) (by omega) _ l1 ?_) | (refine wpList_get1 rfl _ _ rfl _ _ rfl hM 2 rfl (cellTab _ rfl) (by omega) _ e0 ?_) | (refine wpList_get1 rfl _ _ rfl _ _ rfl hM 2 rfl (cellTab _ rfl) (by omega) _ e1 ?_))
  go_ret
  exact ⟨rfl, hM.below⟩
set_option maxRecDepth 100000 in
set_option maxHeartbeats 1000000 in
theorem isFenced_wall3 (g : Nat → Int) (x y : Int) (hx : 0 ≤ x ∧ x ≤ 9) (hy : 0 ≤ y ∧ y ≤ 9) (hi : isB g (x - 1) (y) = false) (w : World) :
    Calls Tryd.prog 116 #[.agg (arr 122 (pas g)), .agg (arr 2 (sp x y)), .int .i64 3] w fun e w' => e = .returned (.bool false) ∧ Below w.heap.size w w' := by
  have hM := Mem.nil w
  have hw := fun W => isWall_3 g x y hx hy W
  rw [hi] at hw
  have Hw := Lib.hid hw
  clear hw hi
  have tk_b1 : True := trivial; have tk_b2 : True := trivial
  go_enter Tryd.func116, Tryd.ntmps116
  go_wp2_with (first | (have _t := tk_b1; refine wpList_box rfl _ _ rfl _ _ rfl hM ?_; intro b1 W' hb1 hM'; clear hM tk_b1; have hM := hM'; clear hM') | (have _t := tk_b2; refine wpList_box rfl _ _ rfl _ _ rfl hM ?_; intro b2 W' hb2 hM'; clear hM tk_b2; have hM := hM'; clear hM') | (refine wpList_get rfl _ _ rfl _ _ rfl hM 1 rfl (rowTab _ _ rfl) (by omega) ?_) | (refine wpList_get rfl _ _ rfl _ _ rfl hM 0 rfl (rowTab _ _ rfl) (by omega) ?_) | (go_at_call 149; refine (Hw.out _).mono ?_; rintro e W' ⟨rfl, hb'⟩; have hM' := hM.call hb'; clear hM hb'; have hM := hM'; clear hM'))
  go_ret
  exact ⟨rfl, hM.below⟩
set_option maxRecDepth 100000 in
set_option maxHeartbeats 1000000 in
theorem isFenced_in3 (g : Nat → Int) (hg : Fits g) (x y : Nat) (hx : x ≤ 8) (hy : y ≤ 9) (hi : isB g (x) (y) = true) (w : World) :
    Calls Tryd.prog 116 #[.agg (arr 122 (pas g)), .agg (arr 2 (sp (x + 1) (y))), .int .i64 3] w fun e w' => e = .returned (.bool (bitB (g (102 + y)) x)) ∧ Below w.heap.size w w' := by
  have hM := Mem.nil w
  have hw := fun W => isWall_3 g (x + 1) (y) (by omega) (by omega) W
  have hk := fun W => keptAt_3 (x + 1) (y) (by omega) (by omega) W
  simp only [show (x : Int) + 1 - 1 = x by omega] at hw hk
  rw [hi] at hw
  have Hw := Lib.hid hw
  have Hk := Lib.hid hk
  have e0 : pas g (102 + y) = .int .u16 (g (102 + y)) := pas_u16 g (by omega)
  have e1 : pas g (112 + y) = .int .u16 (g (112 + y)) := pas_u16 g (by omega)
  have hr := hg.bits (102 + y) (by omega) (by omega)
  have l0 : lay (fun _ => Value.int IntKind.i8 0) 0 2 (sp (x : Int) (y : Int)) 0 = .int .i8 (x : Int) := rfl
  have l1 : lay (fun _ => Value.int IntKind.i8 0) 0 2 (sp (x : Int) (y : Int)) 1 = .int .i8 (y : Int) := rfl
  have lx : (x : Int) < 10 := by omega
  have ly : (y : Int) < 10 := by omega
  have mx : min x 16 = x := by omega
  have hb := bitB_eq (g (102 + y)) x
  clear hw hk hi
  have tk_b1 : True := trivial; have tk_b2 : True := trivial; have tk_b3 : True := trivial
  go_enter Tryd.func116, Tryd.ntmps116
  go_wp2_with (first | (have _t := tk_b1; refine wpList_box rfl _ _ rfl _ _ rfl hM ?_; intro b1 W' hb1 hM'; clear hM tk_b1; have hM := hM'; clear hM') | (have _t := tk_b2; refine wpList_box rfl _ _ rfl _ _ rfl hM ?_; intro b2 W' hb2 hM'; clear hM tk_b2; have hM := hM'; clear hM') | (refine wpList_get rfl _ _ rfl _ _ rfl hM 1 rfl (rowTab _ _ rfl) (by omega) ?_) | (refine wpList_get rfl _ _ rfl _ _ rfl hM 0 rfl (rowTab _ _ rfl) (by omega) ?_) | (go_at_call 149; refine (Hw.out _).mono ?_; rintro e W' ⟨rfl, hb'⟩; have hM' := hM.call hb'; clear hM hb'; have hM := hM'; clear hM') | (go_at_call 150; refine (Hk.out _).mono ?_; rintro e W' ⟨rfl, hb'⟩; have hM' := hM.call hb'; clear hM hb'; have hM := hM'; clear hM') | (have _t := tk_b3; refine wpList_zero rfl _ rfl (zeroTab _ _ _ rfl) hM ?_; intro b3 W' hb3 hM'; clear hM tk_b3; have hM := hM'; clear hM') | (refine wpList_lay rfl _ _ _ rfl _ _ rfl _ _ rfl hM 0 rfl (by assumption) (rowTab _ _ rfl) (by omega) ?_ ?_; (first | (intro _ _; rfl) | (intro k _; exact h1 _) | (intro k _; simp only [lay, upd]; (repeat' split) <;> first | exact h1 _ | rfl)); intro W' hM'; clear hM; have hM := hM'; clear hM'; simp only [List.set] at hM) | (refine wpList_get1 rfl _ _ rfl _ _ rfl hM 0 rfl (cellTab _ rfl) (by omega) _ l0 ?_) | (refine wpList_get1 rfl _ _ rfl _ _ rfl hM 0 rfl (cellTab _ rfl) (by omega) _ l1 ?_) | (refine wpList_get1 rfl _ _ rfl _ _ rfl hM 2 rfl (cellTab _ rfl) (by omega) _ e0 ?_) | (refine wpList_get1 rfl _ _ rfl _ _ rfl hM 2 rfl (cellTab _ rfl) (by omega) _ e1 ?_))
  go_ret
  exact ⟨rfl, hM.below⟩
theorem isWall_any (g : Nat → Int) (k : Nat) (hk : k < 4) (x y : Int) (hx : 0 ≤ x ∧ x ≤ 9) (hy : 0 ≤ y ∧ y ≤ 9) (w : World) :
    Calls Tryd.prog 149 #[.agg (arr 122 (pas g)), .agg (arr 2 (sp x y)), .int .i64 k] w fun e w' => e = .returned (.bool (!isB g (nxX k x) (nxY k y))) ∧ Below w.heap.size w w' := by
  rcases (show k = 0 ∨ k = 1 ∨ k = 2 ∨ k = 3 by omega) with rfl | rfl | rfl | rfl
  · exact isWall_0 g x y hx hy w
  · exact isWall_1 g x y hx hy w
  · exact isWall_2 g x y hx hy w
  · exact isWall_3 g x y hx hy w
/-- Does a hurdle stand on a side? -/
def fencedB (g : Nat → Int) (k : Nat) (x y : Int) : Bool := isB g (nxX k x) (nxY k y) && fenceB g k x y
theorem isFenced_any (g : Nat → Int) (hg : Fits g) (ho : okB g = true) (k : Nat) (hk : k < 4) (x y : Int) (hx : 0 ≤ x ∧ x ≤ 9) (hy : 0 ≤ y ∧ y ≤ 9) (w : World) :
    Calls Tryd.prog 116 #[.agg (arr 122 (pas g)), .agg (arr 2 (sp x y)), .int .i64 k] w fun e w' => e = .returned (.bool (fencedB g k x y)) ∧ Below w.heap.size w w' := by
  rcases (show k = 0 ∨ k = 1 ∨ k = 2 ∨ k = 3 by omega) with rfl | rfl | rfl | rfl
  · cases hi : isB g x (y - 1)
    · have he : fencedB g 0 x y = false := by unfold fencedB; rw [show isB g (nxX 0 x) (nxY 0 y) = false from hi]; rfl
      rw [he]
      exact isFenced_wall0 g x y hx hy hi w
    · have he : fencedB g 0 x y = fenceB g 0 x y := by unfold fencedB; rw [show isB g (nxX 0 x) (nxY 0 y) = true from hi]; rfl
      rw [he]
      clear he
      have hb := isB_bounds ho hi
      obtain ⟨y, rfl⟩ : ∃ n : Nat, y = n + 1 := ⟨(y - 1).toNat, by omega⟩
      obtain ⟨x, rfl⟩ : ∃ n : Nat, x = n := ⟨x.toNat, by omega⟩
      simp only [show (y : Int) + 1 - 1 = y by omega] at hi hb
      have he : fenceB g 0 (x) (y + 1) = bitB (g (112 + y)) x := by simp [fenceB, sideRow, sideBit]
      rw [he]
      exact isFenced_in0 g hg x y (by omega) (by omega) hi w
  · cases hi : isB g (x + 1) y
    · have he : fencedB g 1 x y = false := by unfold fencedB; rw [show isB g (nxX 1 x) (nxY 1 y) = false from hi]; rfl
      rw [he]
      exact isFenced_wall1 g x y hx hy hi w
    · have he : fencedB g 1 x y = fenceB g 1 x y := by unfold fencedB; rw [show isB g (nxX 1 x) (nxY 1 y) = true from hi]; rfl
      rw [he]
      clear he
      have hb := isB_bounds ho hi
      obtain ⟨y, rfl⟩ : ∃ n : Nat, y = n := ⟨y.toNat, by omega⟩
      obtain ⟨x, rfl⟩ : ∃ n : Nat, x = n := ⟨x.toNat, by omega⟩
      skip
      have he : fenceB g 1 (x) (y) = bitB (g (102 + y)) x := by simp [fenceB, sideRow, sideBit]
      rw [he]
      exact isFenced_in1 g hg x y (by omega) (by omega) hi w
  · cases hi : isB g x (y + 1)
    · have he : fencedB g 2 x y = false := by unfold fencedB; rw [show isB g (nxX 2 x) (nxY 2 y) = false from hi]; rfl
      rw [he]
      exact isFenced_wall2 g x y hx hy hi w
    · have he : fencedB g 2 x y = fenceB g 2 x y := by unfold fencedB; rw [show isB g (nxX 2 x) (nxY 2 y) = true from hi]; rfl
      rw [he]
      clear he
      have hb := isB_bounds ho hi
      obtain ⟨y, rfl⟩ : ∃ n : Nat, y = n := ⟨y.toNat, by omega⟩
      obtain ⟨x, rfl⟩ : ∃ n : Nat, x = n := ⟨x.toNat, by omega⟩
      skip
      have he : fenceB g 2 (x) (y) = bitB (g (112 + y)) x := by simp [fenceB, sideRow, sideBit]
      rw [he]
      exact isFenced_in2 g hg x y (by omega) (by omega) hi w
  · cases hi : isB g (x - 1) y
    · have he : fencedB g 3 x y = false := by unfold fencedB; rw [show isB g (nxX 3 x) (nxY 3 y) = false from hi]; rfl
      rw [he]
      exact isFenced_wall3 g x y hx hy hi w
    · have he : fencedB g 3 x y = fenceB g 3 x y := by unfold fencedB; rw [show isB g (nxX 3 x) (nxY 3 y) = true from hi]; rfl
      rw [he]
      clear he
      have hb := isB_bounds ho hi
      obtain ⟨y, rfl⟩ : ∃ n : Nat, y = n := ⟨y.toNat, by omega⟩
      obtain ⟨x, rfl⟩ : ∃ n : Nat, x = n + 1 := ⟨(x - 1).toNat, by omega⟩
      simp only [show (x : Int) + 1 - 1 = x by omega] at hi hb
      have he : fenceB g 3 (x + 1) (y) = bitB (g (102 + y)) x := by simp [fenceB, sideRow, sideBit]
      rw [he]
      exact isFenced_in3 g hg x y (by omega) (by omega) hi w

set_option maxRecDepth 100000 in
set_option maxHeartbeats 1000000 in
theorem isOpen_any (g : Nat → Int) (hg : Fits g) (ho : okB g = true) (k : Nat) (hk : k < 4) (x y : Int) (hx : 0 ≤ x ∧ x ≤ 9) (hy : 0 ≤ y ∧ y ≤ 9) (w : World) :
    Calls Tryd.prog 161 #[.agg (arr 122 (pas g)), .agg (arr 2 (sp x y)), .int .i64 k] w fun e w' => e = .returned (.bool (!closedB g k x y)) ∧ Below w.heap.size w w' := by
  have hM := Mem.nil w
  have hw := fun W => isWall_any g k hk x y hx hy W
  have hf := fun W => isFenced_any g hg ho k hk x y hx hy W
  cases hi : isB g (nxX k x) (nxY k y)
  · have he : closedB g k x y = true := closedB_wall hi
    rw [hi] at hw
    have Hw := Lib.hid hw
    clear hw hf hi
    rw [he]
    have tk_b1 : True := trivial; have tk_b2 : True := trivial
    go_enter Tryd.func161, Tryd.ntmps161
    go_wp2_with (first | (have _t := tk_b1; refine wpList_box rfl _ _ rfl _ _ rfl hM ?_; intro b1 W' hb1 hM'; clear hM tk_b1; have hM := hM'; clear hM') | (have _t := tk_b2; refine wpList_box rfl _ _ rfl _ _ rfl hM ?_; intro b2 W' hb2 hM'; clear hM tk_b2; have hM := hM'; clear hM') | (refine wpList_get rfl _ _ rfl _ _ rfl hM 1 rfl (rowTab _ _ rfl) (by omega) ?_) | (refine wpList_get rfl _ _ rfl _ _ rfl hM 0 rfl (rowTab _ _ rfl) (by omega) ?_) | (go_at_call 149; refine (Hw.out _).mono ?_; rintro e W' ⟨rfl, hb'⟩; have hM' := hM.call hb'; clear hM hb'; have hM := hM'; clear hM'))
    go_ret
    exact ⟨rfl, hM.below⟩
  · have he : closedB g k x y = fenceB g k x y := closedB_in hi
    have hf2 : fencedB g k x y = fenceB g k x y := by unfold fencedB; rw [hi]; rfl
    rw [hf2] at hf
    rw [hi] at hw
    have Hw := Lib.hid hw
    have Hf := Lib.hid hf
    clear hw hf hi hf2
    rw [he]
    have tk_b1 : True := trivial; have tk_b2 : True := trivial
    go_enter Tryd.func161, Tryd.ntmps161
    go_wp2_with (first | (have _t := tk_b1; refine wpList_box rfl _ _ rfl _ _ rfl hM ?_; intro b1 W' hb1 hM'; clear hM tk_b1; have hM := hM'; clear hM') | (have _t := tk_b2; refine wpList_box rfl _ _ rfl _ _ rfl hM ?_; intro b2 W' hb2 hM'; clear hM tk_b2; have hM := hM'; clear hM') | (refine wpList_get rfl _ _ rfl _ _ rfl hM 1 rfl (rowTab _ _ rfl) (by omega) ?_) | (refine wpList_get rfl _ _ rfl _ _ rfl hM 0 rfl (rowTab _ _ rfl) (by omega) ?_) | (refine wpList_gget ?_ _ _ rfl _ _ rfl hM 1 rfl (rowTab _ _ rfl) (by omega) ?_; kernel_rfl) | (refine wpList_gget ?_ _ _ rfl _ _ rfl hM 0 rfl (rowTab _ _ rfl) (by omega) ?_; kernel_rfl) | (go_at_call 149; refine (Hw.out _).mono ?_; rintro e W' ⟨rfl, hb'⟩; have hM' := hM.call hb'; clear hM hb'; have hM := hM'; clear hM') | (go_at_call 116; refine (Hf.out _).mono ?_; rintro e W' ⟨rfl, hb'⟩; have hM' := hM.call hb'; clear hM hb'; have hM := hM'; clear hM'))
    go_ret
    exact ⟨rfl, hM.below⟩
end Go.Proofs.YtbmaljhnldepoaaDoor

/-
  Lists of spots as results: their numbers, and what a function that returns such a list and a code answers.
-/
namespace Go.Proofs.YtbmaljhnldepoaaDoor
open Go Go.RowKit Go.BigFrame

/-- Spots of a list. -/
def sI (l : List (Int × Int)) : Nat → Int × Int := fun k => l.getD k (0, 0)
theorem spsI_old {l : List (Int × Int)} (x : Int × Int) {j : Nat} (h : j < l.length * 2) : sps (sI l) j = sps (sI (l ++ [x])) j := by
  have e : sI (l ++ [x]) (j / 2) = sI l (j / 2) := by simp [sI, List.getElem?_append, show j / 2 < l.length by omega]
  simp [sps, e]
theorem spsI_new (l : List (Int × Int)) (u v : Int) {j : Nat} (h : j < 2) : sp u v j = sps (sI (l ++ [(u, v)])) (l.length * 2 + j) := by
  rw [sps_row _ _ _ h]
  simp [sI]

/-- A list and a code. -/
def GivesI (w : World) (l : List (Int × Int)) (c : Int) (e : Ending) (w' : World) : Prop := ∃ v, e = .returned (.tuple #[v, .int .i64 c]) ∧ Lst w [] 2 v l.length (sps (sI l)) w'
def GivesL (w : World) (l : List (Int × Int)) (e : Ending) (w' : World) : Prop := ∃ v, e = .returned v ∧ Lst w [] 2 v l.length (sps (sI l)) w'
end Go.Proofs.YtbmaljhnldepoaaDoor

/-
  spec.l01Beside by contract.
-/
namespace Go.Proofs.YtbmaljhnldepoaaDoor
open Go Go.RowKit Go.BigFrame

theorem over_any (k : Nat) (hk : k < 4) (x y : Int) (hx : 0 ≤ x ∧ x ≤ 9) (hy : 0 ≤ y ∧ y ≤ 9) (w : World) :
    Calls Tryd.prog 117 #[.agg (arr 2 (sp x y)), .int .i64 k] w fun e w' => e = .returned (.agg (arr 2 (sp (nxX k x) (nxY k y)))) ∧ Below w.heap.size w w' := by
  rcases (show k = 0 ∨ k = 1 ∨ k = 2 ∨ k = 3 by omega) with rfl | rfl | rfl | rfl
  · exact over_0 x y hx hy w
  · exact over_1 x y hx hy w
  · exact over_2 x y hx hy w
  · exact over_3 x y hx hy w
theorem l01Next_any (k : Nat) (hk : k < 4) (x y : Int) (hx : 0 ≤ x ∧ x ≤ 9) (hy : 0 ≤ y ∧ y ≤ 9) (w : World) :
    Calls Tryd.prog 76 #[.agg (arr 2 (sp x y)), .int .i64 k] w fun e w' => e = .returned (.agg (arr 2 (sp (nxX k x) (nxY k y)))) ∧ Below w.heap.size w w' := by
  rcases (show k = 0 ∨ k = 1 ∨ k = 2 ∨ k = 3 by omega) with rfl | rfl | rfl | rfl
  · exact l01Next_0 x y hx hy w
  · exact l01Next_1 x y hx hy w
  · exact l01Next_2 x y hx hy w
  · exact l01Next_3 x y hx hy w

/-- The spots behind the open ones of the first i sides. -/
def besL (g : Nat → Int) (x y : Int) (i : Nat) : List (Int × Int) := ((List.range i).filter fun k => !closedB g k x y).map fun k => (nxX k x, nxY k y)
theorem besL_yes {g : Nat → Int} {x y : Int} {k : Nat} (h : closedB g k x y = false) : besL g x y (k + 1) = besL g x y k ++ [(nxX k x, nxY k y)] := by
  simp [besL, List.range_succ, List.filter_append, h]
theorem besL_no {g : Nat → Int} {x y : Int} {k : Nat} (h : closedB g k x y = true) : besL g x y (k + 1) = besL g x y k := by
  simp [besL, List.range_succ, List.filter_append, h]
theorem besL_len {g : Nat → Int} {x y : Int} {i : Nat} : (besL g x y i).length ≤ i := by
  unfold besL
  rw [List.length_map]
  exact Nat.le_trans (List.length_filter_le _ _) (by simp)

def BesIn (w : Base) (K : Blocks) (g : Nat → Int) (x y : Int) (i : Nat) (v : Value) (wr : World) : Prop := Lst w K 2 v (besL g x y i).length (sps (sI (besL g x y i))) wr

set_option maxRecDepth 100000 in
set_option maxHeartbeats 1000000 in
theorem l01Beside_any (g : Nat → Int) (hg : Fits g) (ho : okB g = true) (bp : Nat) (x y : Int) (hx : 0 ≤ x ∧ x ≤ 9) (hy : 0 ≤ y ∧ y ≤ 9) (w : World) (hA : At w bp 122 (pas g)) :
    Calls Tryd.prog 70 #[.pointer (some ⟨bp, 0, none⟩), .agg (arr 2 (sp x y))] w (GivesL w (besL g x y 4)) := by
  have hM : Mem w [(bp, 122, pas g)] w := (Mem.nil w).old hA (fun i p h => by simp at h)
  have Hx := Lib.hid hx
  have Hy := Lib.hid hy
  have Ho := Lib.hid ho
  clear hA hx hy ho
  have tk_b1 : True := trivial; have tk_b2 : True := trivial
  go_enter Tryd.func70, Tryd.ntmps70
  go_wp2_with (first | (have _t := tk_b1; refine wpList_box rfl _ _ rfl _ _ rfl hM ?_; intro b1 W' hb1 hM'; clear hM tk_b1; have hM := hM'; clear hM') | (have _t := tk_b2; refine wpList_slice0 rfl _ _ rfl _ spot_under rfl hM ?_; intro b2 W' hb2 hM'; clear hM tk_b2; have hM := hM'; clear hM'))
  go_loopw [5, 6] (fun v i wr => ∃ k : Nat, k ≤ 4 ∧ i = .int .i64 k ∧ BesIn w [(b1, 2, sp x y), (bp, 122, pas g)] g x y k v wr) (fun _ i _ => 4 - (intOf i).toNat)
  case atStart => exact ⟨0, by omega, rfl, .inr ⟨b2, 0, fun _ => undef, rfl, hb2, Nat.le_refl _, fun j hj => absurd hj (by simp [besL]), hM⟩⟩
  case round =>
    clear hM
    obtain ⟨k, hk, rfl, hL⟩ := hrel
    by_cases hlt : k < 4
    · have l2 : (k : Int) < 4 := by omega
      have hl := besL_len (g := g) (x := x) (y := y) (i := k)
      cases hc : closedB g k x y
      · have Hc := Lib.hid hc
        have Hy2 := Lib.hid (besL_yes hc)
        have hnew := fun q hq => spsI_new (besL g x y k) (nxX k x) (nxY k y) (j := q) hq
        have hold := fun q hq => spsI_old (l := besL g x y k) (nxX k x, nxY k y) (j := q) hq
        have Hn := Lib.hid hnew
        clear hc hnew
        rcases hL with ⟨rfl, hn0, hM⟩ | ⟨b, c, F, rfl, hb, hnc, hF, hM⟩
        · have Hq : Hid (∀ q, q < 2 → sp (nxX k x) (nxY k y) q = sps (sI (besL g x y k ++ [(nxX k x, nxY k y)])) q) := Lib.hid (fun q hq => by have := Hn.out q hq; rwa [hn0, Nat.zero_mul, Nat.zero_add] at this)
          clear hold hl
          have tk_b3 : True := trivial; have tk_p1 : True := trivial; have tk_r1 : True := trivial; have tk_r2 : True := trivial
          go_wp2_with (first | (go_at_call 120; (with_reducible refine (l01Closed_any g hg Ho.out bp k hlt x y Hx.out Hy.out _ (hM.ats 1 _ _ _ rfl)).mono ?_); rintro e W' ⟨rfl, hb'⟩; rw [Hc.out]; have hM' := hM.call hb'; clear hM hb'; have hM := hM'; clear hM') | (go_at_call 76; (with_reducible refine (l01Next_any k hlt x y Hx.out Hy.out _).mono ?_); rintro e W' ⟨rfl, hb'⟩; have hM' := hM.call hb'; clear hM hb'; have hM := hM'; clear hM') | (have _t := tk_r1; (refine wpList_get rfl _ _ rfl _ _ rfl hM 0 rfl (rowTab _ _ rfl) (by omega) ?_); clear tk_r1) | (have _t := tk_r2; (refine wpList_get rfl _ _ rfl _ _ rfl hM 0 rfl (rowTab _ _ rfl) (by omega) ?_); clear tk_r2) | (have _t := tk_b3; refine wpList_slice1 rfl _ _ _ rfl _ _ rfl _ spot_under spot_info (by omega) (by omega) hM ?_; intro b3 W' hb3 hM'; clear hM tk_b3; have hM := hM'; clear hM') | (have _t := tk_p1; refine wpList_push0 rfl _ _ _ rfl _ 2 _ _ spot_under spot_infoB rfl (by omega) rfl _ _ rfl hM (sps (sI (besL g x y k ++ [(nxX k x, nxY k y)]))) Hq.out ?_; intro bL cL FL W' hbL hcL hFL hM'; clear hM tk_p1; have hM := hM'; clear hM'))
          go_roundw
          case rel => exact ⟨k + 1, by omega, by go_num, by
            unfold BesIn
            rw [Hy2.out, List.length_append, hn0]
            exact .inr ⟨bL, cL, FL, rfl, hbL, hcL, hFL, hM⟩⟩
          case measure => simp [intOf]; omega
        · have Hf : Hid (∀ q, q < (besL g x y k).length * 2 → F q = sps (sI (besL g x y k ++ [(nxX k x, nxY k y)])) q) := Lib.hid (fun q hq => by rw [hF q hq]; exact hold q hq)
          have hn : (besL g x y k).length ≤ 1048576 := by omega
          clear hold hl hF
          have tk_b3 : True := trivial; have tk_p1 : True := trivial; have tk_r1 : True := trivial; have tk_r2 : True := trivial
          go_wp2_with (first | (go_at_call 120; (with_reducible refine (l01Closed_any g hg Ho.out bp k hlt x y Hx.out Hy.out _ (hM.ats 2 _ _ _ rfl)).mono ?_); rintro e W' ⟨rfl, hb'⟩; rw [Hc.out]; have hM' := hM.call hb'; clear hM hb'; have hM := hM'; clear hM') | (go_at_call 76; (with_reducible refine (l01Next_any k hlt x y Hx.out Hy.out _).mono ?_); rintro e W' ⟨rfl, hb'⟩; have hM' := hM.call hb'; clear hM hb'; have hM := hM'; clear hM') | (have _t := tk_r1; (refine wpList_get rfl _ _ rfl _ _ rfl hM 1 rfl (rowTab _ _ rfl) (by omega) ?_); clear tk_r1) | (have _t := tk_r2; (refine wpList_get rfl _ _ rfl _ _ rfl hM 1 rfl (rowTab _ _ rfl) (by omega) ?_); clear tk_r2) | (have _t := tk_b3; refine wpList_slice1 rfl _ _ _ rfl _ _ rfl _ spot_under spot_info (by omega) (by omega) hM ?_; intro b3 W' hb3 hM'; clear hM tk_b3; have hM := hM'; clear hM') | (have _t := tk_p1; refine wpList_push1 rfl _ _ _ rfl _ 2 _ _ spot_under spot_infoB rfl (by omega) _ _ _ _ rfl hb hnc hn _ _ rfl sp_one hM (sps (sI (besL g x y k ++ [(nxX k x, nxY k y)]))) Hf.out Hn.out ?_; intro bL cL FL W' hbL hcL hFL hM'; clear hM tk_p1; have hM := hM'; clear hM'))
          go_roundw
          case rel => exact ⟨k + 1, by omega, by go_num, by
            unfold BesIn
            rw [Hy2.out, List.length_append]
            exact .inr ⟨bL, cL, FL, rfl, hbL, hcL, hFL, hM⟩⟩
          case measure => simp [intOf]; omega
      · have Hc := Lib.hid hc
        have Hy2 := Lib.hid (besL_no hc)
        clear hc
        rcases hL with ⟨rfl, hn0, hM⟩ | ⟨b, c, F, rfl, hb, hnc, hF, hM⟩
        · have tk_r1 : True := trivial
          go_wp2_with (first | (go_at_call 120; (with_reducible refine (l01Closed_any g hg Ho.out bp k hlt x y Hx.out Hy.out _ (hM.ats 1 _ _ _ rfl)).mono ?_); rintro e W' ⟨rfl, hb'⟩; rw [Hc.out]; have hM' := hM.call hb'; clear hM hb'; have hM := hM'; clear hM') | (have _t := tk_r1; (refine wpList_get rfl _ _ rfl _ _ rfl hM 0 rfl (rowTab _ _ rfl) (by omega) ?_); clear tk_r1))
          go_roundw
          case rel => exact ⟨k + 1, by omega, by go_num, by
            unfold BesIn
            rw [Hy2.out]
            exact .inl ⟨rfl, hn0, hM⟩⟩
          case measure => simp [intOf]; omega
        · have Hf := Lib.hid hF
          clear hF
          have tk_r1 : True := trivial
          go_wp2_with (first | (go_at_call 120; (with_reducible refine (l01Closed_any g hg Ho.out bp k hlt x y Hx.out Hy.out _ (hM.ats 2 _ _ _ rfl)).mono ?_); rintro e W' ⟨rfl, hb'⟩; rw [Hc.out]; have hM' := hM.call hb'; clear hM hb'; have hM := hM'; clear hM') | (have _t := tk_r1; (refine wpList_get rfl _ _ rfl _ _ rfl hM 1 rfl (rowTab _ _ rfl) (by omega) ?_); clear tk_r1))
          go_roundw
          case rel => exact ⟨k + 1, by omega, by go_num, by
            unfold BesIn
            rw [Hy2.out]
            exact .inr ⟨b, c, F, rfl, hb, hnc, Hf.out, hM⟩⟩
          case measure => simp [intOf]; omega
    · obtain rfl : k = 4 := by omega
      go_wp2
      go_ret
      exact ⟨_, rfl, hL.only⟩

end Go.Proofs.YtbmaljhnldepoaaDoor

