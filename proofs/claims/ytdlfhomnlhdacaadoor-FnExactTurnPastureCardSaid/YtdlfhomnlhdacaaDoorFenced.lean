/-
  (impl.Pasture).isWall, isFenced, isOpen, keptAt by contracts.
-/
import Derived.Test.YtdlfhomnlhdacaaDoorClosed
namespace Go.Proofs.YtdlfhomnlhdacaaDoor
open Go Go.RowKit Go.BigFrame

/-- A spot and a number. -/
theorem ret_sp {a b : Nat → Value} {c c' : Int} (h : arr 2 a = arr 2 b) (h' : c = c') : Ending.returned (.tuple #[.agg (arr 2 a), .int .i64 c]) = .returned (.tuple #[.agg (arr 2 b), .int .i64 c']) := by rw [h, h']
set_option maxHeartbeats 400000 in
theorem keptAt_0 (x y : Int) (hx : 0 ≤ x ∧ x ≤ 9) (hy : 0 ≤ y ∧ y ≤ 9) (w : World) :
    Calls Tryd.prog 95 #[.agg (arr 2 (sp x y)), .int .i64 0] w fun e w' => e = .returned (.tuple #[.agg (arr 2 (sp (x) (y - 1))), .int .i64 2]) ∧ Below w.heap.size w w' := by
  have hM := Mem.nil w
  have tk_b1 : True := trivial; have tk_b2 : True := trivial
  go_enter Tryd.func95, Tryd.ntmps95
  go_wp2_with (first | (have _t := tk_b1; refine wpList_box rfl _ _ rfl _ _ rfl hM ?_; intro b1 W' hb1 hM'; clear hM tk_b1; have hM := hM'; clear hM') | (have _t := tk_b2; refine wpList_zero rfl _ rfl (zeroTab _ _ _ rfl) hM ?_; intro b2 W' hb2 hM'; clear hM tk_b2; have hM := hM'; clear hM') | (refine wpList_get rfl _ _ rfl _ _ rfl hM 1 rfl (rowTab _ _ rfl) (by omega) ?_) | (refine wpList_lay rfl _ _ _ rfl _ _ rfl _ _ rfl hM 0 rfl (by assumption) (rowTab _ _ rfl) (by omega) ?_ ?_; (first | (intro _ _; rfl) | (intro k _; exact h1 _) | (intro k _; simp only [lay, upd]; (repeat' split) <;> first | exact h1 _ | rfl)); intro W' hM'; clear hM; have hM := hM'; clear hM'; simp only [List.set] at hM) | (go_at_call 106; refine (north_any x y hx hy _).mono ?_; rintro e W' ⟨rfl, hb'⟩; have hM' := hM.call hb'; clear hM hb'; have hM := hM'; clear hM'))
  exact bodyPost_ret (results_at2 rfl _ rfl ((hM.ats 0 _ _ _ rfl).congr (g := sp (x) (y - 1)) (fun k hk => by simp [lay, hk])) (rowTab _ _ rfl) _ rfl) rfl ⟨rfl, hM.below⟩
set_option maxHeartbeats 400000 in
theorem keptAt_1 (x y : Int) (hx : 0 ≤ x ∧ x ≤ 9) (hy : 0 ≤ y ∧ y ≤ 9) (w : World) :
    Calls Tryd.prog 95 #[.agg (arr 2 (sp x y)), .int .i64 1] w fun e w' => e = .returned (.tuple #[.agg (arr 2 (sp (x) (y))), .int .i64 1]) ∧ Below w.heap.size w w' := by
  have hM := Mem.nil w
  have tk_b1 : True := trivial; have tk_b2 : True := trivial
  go_enter Tryd.func95, Tryd.ntmps95
  go_wp2_with (first | (have _t := tk_b1; refine wpList_box rfl _ _ rfl _ _ rfl hM ?_; intro b1 W' hb1 hM'; clear hM tk_b1; have hM := hM'; clear hM') | (have _t := tk_b2; refine wpList_zero rfl _ rfl (zeroTab _ _ _ rfl) hM ?_; intro b2 W' hb2 hM'; clear hM tk_b2; have hM := hM'; clear hM') | (refine wpList_get rfl _ _ rfl _ _ rfl hM 1 rfl (rowTab _ _ rfl) (by omega) ?_) | (refine wpList_lay rfl _ _ _ rfl _ _ rfl _ _ rfl hM 0 rfl (by assumption) (rowTab _ _ rfl) (by omega) ?_ ?_; (first | (intro _ _; rfl) | (intro k _; exact h1 _) | (intro k _; simp only [lay, upd]; (repeat' split) <;> first | exact h1 _ | rfl)); intro W' hM'; clear hM; have hM := hM'; clear hM'; simp only [List.set] at hM))
  exact bodyPost_ret (results_at2 rfl _ rfl ((hM.ats 0 _ _ _ rfl).congr (g := sp (x) (y)) (fun k hk => by simp [lay, hk])) (rowTab _ _ rfl) _ rfl) rfl ⟨rfl, hM.below⟩
set_option maxHeartbeats 400000 in
theorem keptAt_2 (x y : Int) (hx : 0 ≤ x ∧ x ≤ 9) (hy : 0 ≤ y ∧ y ≤ 9) (w : World) :
    Calls Tryd.prog 95 #[.agg (arr 2 (sp x y)), .int .i64 2] w fun e w' => e = .returned (.tuple #[.agg (arr 2 (sp (x) (y))), .int .i64 2]) ∧ Below w.heap.size w w' := by
  have hM := Mem.nil w
  have tk_b1 : True := trivial; have tk_b2 : True := trivial
  go_enter Tryd.func95, Tryd.ntmps95
  go_wp2_with (first | (have _t := tk_b1; refine wpList_box rfl _ _ rfl _ _ rfl hM ?_; intro b1 W' hb1 hM'; clear hM tk_b1; have hM := hM'; clear hM') | (have _t := tk_b2; refine wpList_zero rfl _ rfl (zeroTab _ _ _ rfl) hM ?_; intro b2 W' hb2 hM'; clear hM tk_b2; have hM := hM'; clear hM') | (refine wpList_get rfl _ _ rfl _ _ rfl hM 1 rfl (rowTab _ _ rfl) (by omega) ?_) | (refine wpList_lay rfl _ _ _ rfl _ _ rfl _ _ rfl hM 0 rfl (by assumption) (rowTab _ _ rfl) (by omega) ?_ ?_; (first | (intro _ _; rfl) | (intro k _; exact h1 _) | (intro k _; simp only [lay, upd]; (repeat' split) <;> first | exact h1 _ | rfl)); intro W' hM'; clear hM; have hM := hM'; clear hM'; simp only [List.set] at hM))
  exact bodyPost_ret (results_at2 rfl _ rfl ((hM.ats 0 _ _ _ rfl).congr (g := sp (x) (y)) (fun k hk => by simp [lay, hk])) (rowTab _ _ rfl) _ rfl) rfl ⟨rfl, hM.below⟩
set_option maxHeartbeats 400000 in
theorem keptAt_3 (x y : Int) (hx : 0 ≤ x ∧ x ≤ 9) (hy : 0 ≤ y ∧ y ≤ 9) (w : World) :
    Calls Tryd.prog 95 #[.agg (arr 2 (sp x y)), .int .i64 3] w fun e w' => e = .returned (.tuple #[.agg (arr 2 (sp (x - 1) (y))), .int .i64 1]) ∧ Below w.heap.size w w' := by
  have hM := Mem.nil w
  have tk_b1 : True := trivial; have tk_b2 : True := trivial
  go_enter Tryd.func95, Tryd.ntmps95
  go_wp2_with (first | (have _t := tk_b1; refine wpList_box rfl _ _ rfl _ _ rfl hM ?_; intro b1 W' hb1 hM'; clear hM tk_b1; have hM := hM'; clear hM') | (have _t := tk_b2; refine wpList_zero rfl _ rfl (zeroTab _ _ _ rfl) hM ?_; intro b2 W' hb2 hM'; clear hM tk_b2; have hM := hM'; clear hM') | (refine wpList_get rfl _ _ rfl _ _ rfl hM 1 rfl (rowTab _ _ rfl) (by omega) ?_) | (refine wpList_lay rfl _ _ _ rfl _ _ rfl _ _ rfl hM 0 rfl (by assumption) (rowTab _ _ rfl) (by omega) ?_ ?_; (first | (intro _ _; rfl) | (intro k _; exact h1 _) | (intro k _; simp only [lay, upd]; (repeat' split) <;> first | exact h1 _ | rfl)); intro W' hM'; clear hM; have hM := hM'; clear hM'; simp only [List.set] at hM) | (go_at_call 107; refine (west_any x y hx hy _).mono ?_; rintro e W' ⟨rfl, hb'⟩; have hM' := hM.call hb'; clear hM hb'; have hM := hM'; clear hM'))
  exact bodyPost_ret (results_at2 rfl _ rfl ((hM.ats 0 _ _ _ rfl).congr (g := sp (x - 1) (y)) (fun k hk => by simp [lay, hk])) (rowTab _ _ rfl) _ rfl) rfl ⟨rfl, hM.below⟩
set_option maxRecDepth 100000 in
set_option maxHeartbeats 400000 in
theorem isWall_0 (g : Nat → Int) (x y : Int) (hx : 0 ≤ x ∧ x ≤ 9) (hy : 0 ≤ y ∧ y ≤ 9) (w : World) :
    Calls Tryd.prog 93 #[.agg (arr 122 (pas g)), .agg (arr 2 (sp x y)), .int .i64 0] w fun e w' => e = .returned (.bool (!isB g (x) (y - 1))) ∧ Below w.heap.size w w' := by
  have hM := Mem.nil w
  have tk_b1 : True := trivial; have tk_b2 : True := trivial
  go_enter Tryd.func93, Tryd.ntmps93
  go_wp2_with (first | (have _t := tk_b1; refine wpList_box rfl _ _ rfl _ _ rfl hM ?_; intro b1 W' hb1 hM'; clear hM tk_b1; have hM := hM'; clear hM') | (have _t := tk_b2; refine wpList_box rfl _ _ rfl _ _ rfl hM ?_; intro b2 W' hb2 hM'; clear hM tk_b2; have hM := hM'; clear hM'))
  cases hi : isB g (x) (y - 1)
  all_goals
    have Hi := Lib.hid hi
    clear hi
    ((try simp only [Act.put, List.setIfInBounds_toArray, List.set_cons_succ, List.set_cons_zero]); refine wp_region_mem (by kernel_rfl) (by kernel_rfl) hM ?_; clear hM; (repeat (first | go_big_quiet_skip | (go_big_quiet_want; first | (refine quiet_get _ _ rfl _ _ rfl 1 rfl (rowTab _ _ rfl) (by omega) ?_; (simp only [Act.put, List.setIfInBounds_toArray, List.set_cons_succ, List.set_cons_zero]); go_big_quiet_on) | (refine quiet_get _ _ rfl _ _ rfl 0 rfl (rowTab _ _ rfl) (by omega) ?_; (simp only [Act.put, List.setIfInBounds_toArray, List.set_cons_succ, List.set_cons_zero]); go_big_quiet_on) | (refine quiet_call ?_; apply Exists.intro; apply Exists.intro; apply Exists.intro; refine ⟨fun W => ?_, fun W hM => ?_, ?_⟩; (go_simp; exact ⟨rfl, rfl⟩); (exact over_0 x y hx hy W); (simp only [Act.put, List.setIfInBounds_toArray, List.set_cons_succ, List.set_cons_zero]); go_big_quiet_on) | (refine quiet_call ?_; apply Exists.intro; apply Exists.intro; apply Exists.intro; refine ⟨fun W => ?_, fun W hM => ?_, ?_⟩; (go_simp; exact ⟨rfl, rfl⟩); (exact hasCell_any g (x) (y - 1) W); (simp only [Hi.out]); (simp only [Act.put, List.setIfInBounds_toArray, List.set_cons_succ, List.set_cons_zero]); go_big_quiet_on) | (refine quiet_val ?_; apply Exists.intro; refine ⟨fun W => ?_, ?_⟩; (go_simp; rfl); (simp only [Act.put, List.setIfInBounds_toArray, List.set_cons_succ, List.set_cons_zero]); go_big_quiet_on)))); (with_reducible refine wpQuiet_nil ?_); intro W' hM)
    go_wp2
    go_ret
    exact ⟨ret_bool (by rw [Hi.out]; rfl), hM.below⟩
set_option maxRecDepth 100000 in
set_option maxHeartbeats 400000 in
theorem isWall_1 (g : Nat → Int) (x y : Int) (hx : 0 ≤ x ∧ x ≤ 9) (hy : 0 ≤ y ∧ y ≤ 9) (w : World) :
    Calls Tryd.prog 93 #[.agg (arr 122 (pas g)), .agg (arr 2 (sp x y)), .int .i64 1] w fun e w' => e = .returned (.bool (!isB g (x + 1) (y))) ∧ Below w.heap.size w w' := by
  have hM := Mem.nil w
  have tk_b1 : True := trivial; have tk_b2 : True := trivial
  go_enter Tryd.func93, Tryd.ntmps93
  go_wp2_with (first | (have _t := tk_b1; refine wpList_box rfl _ _ rfl _ _ rfl hM ?_; intro b1 W' hb1 hM'; clear hM tk_b1; have hM := hM'; clear hM') | (have _t := tk_b2; refine wpList_box rfl _ _ rfl _ _ rfl hM ?_; intro b2 W' hb2 hM'; clear hM tk_b2; have hM := hM'; clear hM'))
  cases hi : isB g (x + 1) (y)
  all_goals
    have Hi := Lib.hid hi
    clear hi
    ((try simp only [Act.put, List.setIfInBounds_toArray, List.set_cons_succ, List.set_cons_zero]); refine wp_region_mem (by kernel_rfl) (by kernel_rfl) hM ?_; clear hM; (repeat (first | go_big_quiet_skip | (go_big_quiet_want; first | (refine quiet_get _ _ rfl _ _ rfl 1 rfl (rowTab _ _ rfl) (by omega) ?_; (simp only [Act.put, List.setIfInBounds_toArray, List.set_cons_succ, List.set_cons_zero]); go_big_quiet_on) | (refine quiet_get _ _ rfl _ _ rfl 0 rfl (rowTab _ _ rfl) (by omega) ?_; (simp only [Act.put, List.setIfInBounds_toArray, List.set_cons_succ, List.set_cons_zero]); go_big_quiet_on) | (refine quiet_call ?_; apply Exists.intro; apply Exists.intro; apply Exists.intro; refine ⟨fun W => ?_, fun W hM => ?_, ?_⟩; (go_simp; exact ⟨rfl, rfl⟩); (exact over_1 x y hx hy W); (simp only [Act.put, List.setIfInBounds_toArray, List.set_cons_succ, List.set_cons_zero]); go_big_quiet_on) | (refine quiet_call ?_; apply Exists.intro; apply Exists.intro; apply Exists.intro; refine ⟨fun W => ?_, fun W hM => ?_, ?_⟩; (go_simp; exact ⟨rfl, rfl⟩); (exact hasCell_any g (x + 1) (y) W); (simp only [Hi.out]); (simp only [Act.put, List.setIfInBounds_toArray, List.set_cons_succ, List.set_cons_zero]); go_big_quiet_on) | (refine quiet_val ?_; apply Exists.intro; refine ⟨fun W => ?_, ?_⟩; (go_simp; rfl); (simp only [Act.put, List.setIfInBounds_toArray, List.set_cons_succ, List.set_cons_zero]); go_big_quiet_on)))); (with_reducible refine wpQuiet_nil ?_); intro W' hM)
    go_wp2
    go_ret
    exact ⟨ret_bool (by rw [Hi.out]; rfl), hM.below⟩
set_option maxRecDepth 100000 in
set_option maxHeartbeats 400000 in
theorem isWall_2 (g : Nat → Int) (x y : Int) (hx : 0 ≤ x ∧ x ≤ 9) (hy : 0 ≤ y ∧ y ≤ 9) (w : World) :
    Calls Tryd.prog 93 #[.agg (arr 122 (pas g)), .agg (arr 2 (sp x y)), .int .i64 2] w fun e w' => e = .returned (.bool (!isB g (x) (y + 1))) ∧ Below w.heap.size w w' := by
  have hM := Mem.nil w
  have tk_b1 : True := trivial; have tk_b2 : True := trivial
  go_enter Tryd.func93, Tryd.ntmps93
  go_wp2_with (first | (have _t := tk_b1; refine wpList_box rfl _ _ rfl _ _ rfl hM ?_; intro b1 W' hb1 hM'; clear hM tk_b1; have hM := hM'; clear hM') | (have _t := tk_b2; refine wpList_box rfl _ _ rfl _ _ rfl hM ?_; intro b2 W' hb2 hM'; clear hM tk_b2; have hM := hM'; clear hM'))
  cases hi : isB g (x) (y + 1)
  all_goals
    have Hi := Lib.hid hi
    clear hi
    ((try simp only [Act.put, List.setIfInBounds_toArray, List.set_cons_succ, List.set_cons_zero]); refine wp_region_mem (by kernel_rfl) (by kernel_rfl) hM ?_; clear hM; (repeat (first | go_big_quiet_skip | (go_big_quiet_want; first | (refine quiet_get _ _ rfl _ _ rfl 1 rfl (rowTab _ _ rfl) (by omega) ?_; (simp only [Act.put, List.setIfInBounds_toArray, List.set_cons_succ, List.set_cons_zero]); go_big_quiet_on) | (refine quiet_get _ _ rfl _ _ rfl 0 rfl (rowTab _ _ rfl) (by omega) ?_; (simp only [Act.put, List.setIfInBounds_toArray, List.set_cons_succ, List.set_cons_zero]); go_big_quiet_on) | (refine quiet_call ?_; apply Exists.intro; apply Exists.intro; apply Exists.intro; refine ⟨fun W => ?_, fun W hM => ?_, ?_⟩; (go_simp; exact ⟨rfl, rfl⟩); (exact over_2 x y hx hy W); (simp only [Act.put, List.setIfInBounds_toArray, List.set_cons_succ, List.set_cons_zero]); go_big_quiet_on) | (refine quiet_call ?_; apply Exists.intro; apply Exists.intro; apply Exists.intro; refine ⟨fun W => ?_, fun W hM => ?_, ?_⟩; (go_simp; exact ⟨rfl, rfl⟩); (exact hasCell_any g (x) (y + 1) W); (simp only [Hi.out]); (simp only [Act.put, List.setIfInBounds_toArray, List.set_cons_succ, List.set_cons_zero]); go_big_quiet_on) | (refine quiet_val ?_; apply Exists.intro; refine ⟨fun W => ?_, ?_⟩; (go_simp; rfl); (simp only [Act.put, List.setIfInBounds_toArray, List.set_cons_succ, List.set_cons_zero]); go_big_quiet_on)))); (with_reducible refine wpQuiet_nil ?_); intro W' hM)
    go_wp2
    go_ret
    exact ⟨ret_bool (by rw [Hi.out]; rfl), hM.below⟩
set_option maxRecDepth 100000 in
set_option maxHeartbeats 400000 in
theorem isWall_3 (g : Nat → Int) (x y : Int) (hx : 0 ≤ x ∧ x ≤ 9) (hy : 0 ≤ y ∧ y ≤ 9) (w : World) :
    Calls Tryd.prog 93 #[.agg (arr 122 (pas g)), .agg (arr 2 (sp x y)), .int .i64 3] w fun e w' => e = .returned (.bool (!isB g (x - 1) (y))) ∧ Below w.heap.size w w' := by
  have hM := Mem.nil w
  have tk_b1 : True := trivial; have tk_b2 : True := trivial
  go_enter Tryd.func93, Tryd.ntmps93
  go_wp2_with (first | (have _t := tk_b1; refine wpList_box rfl _ _ rfl _ _ rfl hM ?_; intro b1 W' hb1 hM'; clear hM tk_b1; have hM := hM'; clear hM') | (have _t := tk_b2; refine wpList_box rfl _ _ rfl _ _ rfl hM ?_; intro b2 W' hb2 hM'; clear hM tk_b2; have hM := hM'; clear hM'))
  cases hi : isB g (x - 1) (y)
  all_goals
    have Hi := Lib.hid hi
    clear hi
    ((try simp only [Act.put, List.setIfInBounds_toArray, List.set_cons_succ, List.set_cons_zero]); refine wp_region_mem (by kernel_rfl) (by kernel_rfl) hM ?_; clear hM; (repeat (first | go_big_quiet_skip | (go_big_quiet_want; first | (refine quiet_get _ _ rfl _ _ rfl 1 rfl (rowTab _ _ rfl) (by omega) ?_; (simp only [Act.put, List.setIfInBounds_toArray, List.set_cons_succ, List.set_cons_zero]); go_big_quiet_on) | (refine quiet_get _ _ rfl _ _ rfl 0 rfl (rowTab _ _ rfl) (by omega) ?_; (simp only [Act.put, List.setIfInBounds_toArray, List.set_cons_succ, List.set_cons_zero]); go_big_quiet_on) | (refine quiet_call ?_; apply Exists.intro; apply Exists.intro; apply Exists.intro; refine ⟨fun W => ?_, fun W hM => ?_, ?_⟩; (go_simp; exact ⟨rfl, rfl⟩); (exact over_3 x y hx hy W); (simp only [Act.put, List.setIfInBounds_toArray, List.set_cons_succ, List.set_cons_zero]); go_big_quiet_on) | (refine quiet_call ?_; apply Exists.intro; apply Exists.intro; apply Exists.intro; refine ⟨fun W => ?_, fun W hM => ?_, ?_⟩; (go_simp; exact ⟨rfl, rfl⟩); (exact hasCell_any g (x - 1) (y) W); (simp only [Hi.out]); (simp only [Act.put, List.setIfInBounds_toArray, List.set_cons_succ, List.set_cons_zero]); go_big_quiet_on) | (refine quiet_val ?_; apply Exists.intro; refine ⟨fun W => ?_, ?_⟩; (go_simp; rfl); (simp only [Act.put, List.setIfInBounds_toArray, List.set_cons_succ, List.set_cons_zero]); go_big_quiet_on)))); (with_reducible refine wpQuiet_nil ?_); intro W' hM)
    go_wp2
    go_ret
    exact ⟨ret_bool (by rw [Hi.out]; rfl), hM.below⟩
set_option maxRecDepth 100000 in
set_option maxHeartbeats 1000000 in
theorem isFenced_wall0 (g : Nat → Int) (x y : Int) (hx : 0 ≤ x ∧ x ≤ 9) (hy : 0 ≤ y ∧ y ≤ 9) (hi : isB g (x) (y - 1) = false) (w : World) :
    Calls Tryd.prog 94 #[.agg (arr 122 (pas g)), .agg (arr 2 (sp x y)), .int .i64 0] w fun e w' => e = .returned (.bool false) ∧ Below w.heap.size w w' := by
  have hM := Mem.nil w
  have hw := fun W => isWall_0 g x y hx hy W
  rw [hi] at hw
  have Hw := Lib.hid hw
  clear hw hi
  have tk_b1 : True := trivial; have tk_b2 : True := trivial
  go_enter Tryd.func94, Tryd.ntmps94
  go_wp2_with (first | (have _t := tk_b1; refine wpList_box rfl _ _ rfl _ _ rfl hM ?_; intro b1 W' hb1 hM'; clear hM tk_b1; have hM := hM'; clear hM') | (have _t := tk_b2; refine wpList_box rfl _ _ rfl _ _ rfl hM ?_; intro b2 W' hb2 hM'; clear hM tk_b2; have hM := hM'; clear hM') | (refine wpList_get rfl _ _ rfl _ _ rfl hM 1 rfl (rowTab _ _ rfl) (by omega) ?_) | (refine wpList_get rfl _ _ rfl _ _ rfl hM 0 rfl (rowTab _ _ rfl) (by omega) ?_) | (go_at_call 93; refine (Hw.out _).mono ?_; rintro e W' ⟨rfl, hb'⟩; have hM' := hM.call hb'; clear hM hb'; have hM := hM'; clear hM'))
  go_ret
  exact ⟨rfl, hM.below⟩
set_option maxRecDepth 100000 in
set_option maxHeartbeats 1000000 in
theorem isFenced_in0 (g : Nat → Int) (hg : Fits g) (x y : Nat) (hx : x ≤ 9) (hy : y ≤ 8) (hi : isB g (x) (y) = true) (w : World) :
    Calls Tryd.prog 94 #[.agg (arr 122 (pas g)), .agg (arr 2 (sp (x) (y + 1))), .int .i64 0] w fun e w' => e = .returned (.bool (bitB (g (112 + y)) x)) ∧ Below w.heap.size w w' := by
  have hM := Mem.nil w
  have hw := fun W => isWall_0 g (x) (y + 1) (by omega) (by omega) W
  have hk := fun W => keptAt_0 (x) (y + 1) (by omega) (by omega) W
  simp only [show (y : Int) + 1 - 1 = y by omega] at hw hk
  rw [hi] at hw
  have Hw := Lib.hid hw
  have Hk := Lib.hid hk
  have e0 : pas g (102 + y) = .int .u16 (g (102 + y)) := pas_u16 g (by omega)
  have e1 : pas g (112 + y) = .int .u16 (g (112 + y)) := pas_u16 g (by omega)
  have hr := hg.bits (112 + y) (by omega) (by omega)
  have l0 : lay (fun _ => Value.int IntKind.i8 0) 0 2 (sp (x : Int) (y : Int)) 0 = .int .i8 (x : Int) := rfl
  have l1 : lay (fun _ => Value.int IntKind.i8 0) 0 2 (sp (x : Int) (y : Int)) 1 = .int .i8 (y : Int) := rfl
  have lx : (x : Int) < 10 := by omega
  have ly : (y : Int) < 10 := by omega
  have mx : min x 16 = x := by omega
  have hb := bitB_eq (g (112 + y)) x
  clear hw hk hi
  have tk_b1 : True := trivial; have tk_b2 : True := trivial; have tk_b3 : True := trivial
  go_enter Tryd.func94, Tryd.ntmps94
  go_wp2_with (first | (have _t := tk_b1; refine wpList_box rfl _ _ rfl _ _ rfl hM ?_; intro b1 W' hb1 hM'; clear hM tk_b1; have hM := hM'; clear hM') | (have _t := tk_b2; refine wpList_box rfl _ _ rfl _ _ rfl hM ?_; intro b2 W' hb2 hM'; clear hM tk_b2; have hM := hM'; clear hM') | (refine wpList_get rfl _ _ rfl _ _ rfl hM 1 rfl (rowTab _ _ rfl) (by omega) ?_) | (refine wpList_get rfl _ _ rfl _ _ rfl hM 0 rfl (rowTab _ _ rfl) (by omega) ?_) | (go_at_call 93; refine (Hw.out _).mono ?_; rintro e W' ⟨rfl, hb'⟩; have hM' := hM.call hb'; clear hM hb'; have hM := hM'; clear hM') | (go_at_call 95; refine (Hk.out _).mono ?_; rintro e W' ⟨rfl, hb'⟩; have hM' := hM.call hb'; clear hM hb'; have hM := hM'; clear hM') | (have _t := tk_b3; refine wpList_zero rfl _ rfl (zeroTab _ _ _ rfl) hM ?_; intro b3 W' hb3 hM'; clear hM tk_b3; have hM := hM'; clear hM') | (refine wpList_lay rfl _ _ _ rfl _ _ rfl _ _ rfl hM 0 rfl (by assumption) (rowTab _ _ rfl) (by omega) ?_ ?_; (first | (intro _ _; rfl) | (intro k _; exact h1 _) | (intro k _; simp only [lay, upd]; (repeat' split) <;> first | exact h1 _ | rfl)); intro W' hM'; clear hM; have hM := hM'; clear hM'; simp only [List.set] at hM) | (refine wpList_get1 rfl _ _ rfl _ _ rfl hM 0 rfl (cellTab _ rfl) (by omega) _ l0 ?_) | (refine wpList_get1 rfl _ _ rfl _ _ rfl hM 0 rfl (cellTab _ rfl) (by omega) _ l1 ?_) | (refine wpList_get1 rfl _ _ rfl _ _ rfl hM 2 rfl (cellTab _ rfl) (by omega) _ e0 ?_) | (refine wpList_get1 rfl _ _ rfl _ _ rfl hM 2 rfl (cellTab _ rfl) (by omega) _ e1 ?_))
  go_ret
  exact ⟨rfl, hM.below⟩
set_option maxRecDepth 100000 in
set_option maxHeartbeats 1000000 in
theorem isFenced_wall1 (g : Nat → Int) (x y : Int) (hx : 0 ≤ x ∧ x ≤ 9) (hy : 0 ≤ y ∧ y ≤ 9) (hi : isB g (x + 1) (y) = false) (w : World) :
    Calls Tryd.prog 94 #[.agg (arr 122 (pas g)), .agg (arr 2 (sp x y)), .int .i64 1] w fun e w' => e = .returned (.bool false) ∧ Below w.heap.size w w' := by
  have hM := Mem.nil w
  have hw := fun W => isWall_1 g x y hx hy W
  rw [hi] at hw
  have Hw := Lib.hid hw
  clear hw hi
  have tk_b1 : True := trivial; have tk_b2 : True := trivial
  go_enter Tryd.func94, Tryd.ntmps94
  go_wp2_with (first | (have _t := tk_b1; refine wpList_box rfl _ _ rfl _ _ rfl hM ?_; intro b1 W' hb1 hM'; clear hM tk_b1; have hM := hM'; clear hM') | (have _t := tk_b2; refine wpList_box rfl _ _ rfl _ _ rfl hM ?_; intro b2 W' hb2 hM'; clear hM tk_b2; have hM := hM'; clear hM') | (refine wpList_get rfl _ _ rfl _ _ rfl hM 1 rfl (rowTab _ _ rfl) (by omega) ?_) | (refine wpList_get rfl _ _ rfl _ _ rfl hM 0 rfl (rowTab _ _ rfl) (by omega) ?_) | (go_at_call 93; refine (Hw.out _).mono ?_; rintro e W' ⟨rfl, hb'⟩; have hM' := hM.call hb'; clear hM hb'; have hM := hM'; clear hM'))
  go_ret
  exact ⟨rfl, hM.below⟩
set_option maxRecDepth 100000 in
set_option maxHeartbeats 1000000 in
theorem isFenced_in1 (g : Nat → Int) (hg : Fits g) (x y : Nat) (hx : x ≤ 8) (hy : y ≤ 9) (hi : isB g (x + 1) (y) = true) (w : World) :
    Calls Tryd.prog 94 #[.agg (arr 122 (pas g)), .agg (arr 2 (sp (x) (y))), .int .i64 1] w fun e w' => e = .returned (.bool (bitB (g (102 + y)) x)) ∧ Below w.heap.size w w' := by
  have hM := Mem.nil w
  have hw := fun W => isWall_1 g (x) (y) (by omega) (by omega) W
  have hk := fun W => keptAt_1 (x) (y) (by omega) (by omega) W
  skip
  rw [hi] at hw
  have Hw := Lib.hid hw
  have Hk := Lib.hid hk
  have e0 : pas g (102 + y) = .int .u16 (g (102 + y)) := pas_u16 g (by omega)
  have e1 : pas g (112 + y) = .int .u16 (g (112 + y)) := pas_u16 g (by omega)
  have hr := hg.bits (102 + y) (by omega) (by omega)
  have l0 : lay (fun _ => Value.int IntKind.i8 0) 0 2 (sp (x : Int) (y : Int)) 0 = .int .i8 (x : Int) := rfl
  have l1 : lay (fun _ => Value.int IntKind.i8 0) 0 2 (sp (x : Int) (y : Int)) 1 = .int .i8 (y : Int) := rfl
  have lx : (x : Int) < 10 := by omega
  have ly : (y : Int) < 10 := by omega
  have mx : min x 16 = x := by omega
  have hb := bitB_eq (g (102 + y)) x
  clear hw hk hi
  have tk_b1 : True := trivial; have tk_b2 : True := trivial; have tk_b3 : True := trivial
  go_enter Tryd.func94, Tryd.ntmps94
  go_wp2_with (first | (have _t := tk_b1; refine wpList_box rfl _ _ rfl _ _ rfl hM ?_; intro b1 W' hb1 hM'; clear hM tk_b1; have hM := hM'; clear hM') | (have _t := tk_b2; refine wpList_box rfl _ _ rfl _ _ rfl hM ?_; intro b2 W' hb2 hM'; clear hM tk_b2; have hM := hM'; clear hM') | (refine wpList_get rfl _ _ rfl _ _ rfl hM 1 rfl (rowTab _ _ rfl) (by omega) ?_) | (refine wpList_get rfl _ _ rfl _ _ rfl hM 0 rfl (rowTab _ _ rfl) (by omega) ?_) | (go_at_call 93; refine (Hw.out _).mono ?_; rintro e W' ⟨rfl, hb'⟩; have hM' := hM.call hb'; clear hM hb'; have hM := hM'; clear hM') | (go_at_call 95; refine (Hk.out _).mono ?_; rintro e W' ⟨rfl, hb'⟩; have hM' := hM.call hb'; clear hM hb'; have hM := hM'; clear hM') | (have _t := tk_b3; refine wpList_zero rfl _ rfl (zeroTab _ _ _ rfl) hM ?_; intro b3 W' hb3 hM'; clear hM tk_b3; have hM := hM'; clear hM') | (refine wpList_lay rfl _ _ _ rfl _ _ rfl _ _ rfl hM 0 rfl (by assumption) (rowTab _ _ rfl) (by omega) ?_ ?_; (first | (intro _ _; rfl) | (intro k _; exact h1 _) | (intro k _; simp only [lay, upd]; (repeat' split) <;> first | exact h1 _ | rfl)); intro W' hM'; clear hM; have hM := hM'; clear hM'; simp only [List.set] at hM) | (refine wpList_get1 rfl _ _ rfl _ _ rfl hM 0 rfl (cellTab _ rfl) (by omega) _ l0 ?_) | (refine wpList_get1 rfl _ _ rfl _ _ rfl hM 0 rfl (cellTab _ rfl) (by omega) _ l1 ?_) | (refine wpList_get1 rfl _ _ rfl _ _ rfl hM 2 rfl (cellTab _ rfl) (by omega) _ e0 ?_) | (refine wpList_get1 rfl _ _ rfl _ _ rfl hM 2 rfl (cellTab _ rfl) (by omega) _ e1 ?_))
  go_ret
  exact ⟨rfl, hM.below⟩
set_option maxRecDepth 100000 in
set_option maxHeartbeats 1000000 in
theorem isFenced_wall2 (g : Nat → Int) (x y : Int) (hx : 0 ≤ x ∧ x ≤ 9) (hy : 0 ≤ y ∧ y ≤ 9) (hi : isB g (x) (y + 1) = false) (w : World) :
    Calls Tryd.prog 94 #[.agg (arr 122 (pas g)), .agg (arr 2 (sp x y)), .int .i64 2] w fun e w' => e = .returned (.bool false) ∧ Below w.heap.size w w' := by
  have hM := Mem.nil w
  have hw := fun W => isWall_2 g x y hx hy W
  rw [hi] at hw
  have Hw := Lib.hid hw
  clear hw hi
  have tk_b1 : True := trivial; have tk_b2 : True := trivial
  go_enter Tryd.func94, Tryd.ntmps94
  go_wp2_with (first | (have _t := tk_b1; refine wpList_box rfl _ _ rfl _ _ rfl hM ?_; intro b1 W' hb1 hM'; clear hM tk_b1; have hM := hM'; clear hM') | (have _t := tk_b2; refine wpList_box rfl _ _ rfl _ _ rfl hM ?_; intro b2 W' hb2 hM'; clear hM tk_b2; have hM := hM'; clear hM') | (refine wpList_get rfl _ _ rfl _ _ rfl hM 1 rfl (rowTab _ _ rfl) (by omega) ?_) | (refine wpList_get rfl _ _ rfl _ _ rfl hM 0 rfl (rowTab _ _ rfl) (by omega) ?_) | (go_at_call 93; refine (Hw.out _).mono ?_; rintro e W' ⟨rfl, hb'⟩; have hM' := hM.call hb'; clear hM hb'; have hM := hM'; clear hM'))
  go_ret
  exact ⟨rfl, hM.below⟩
set_option maxRecDepth 100000 in
set_option maxHeartbeats 1000000 in
theorem isFenced_in2 (g : Nat → Int) (hg : Fits g) (x y : Nat) (hx : x ≤ 9) (hy : y ≤ 8) (hi : isB g (x) (y + 1) = true) (w : World) :
    Calls Tryd.prog 94 #[.agg (arr 122 (pas g)), .agg (arr 2 (sp (x) (y))), .int .i64 2] w fun e w' => e = .returned (.bool (bitB (g (112 + y)) x)) ∧ Below w.heap.size w w' := by
  have hM := Mem.nil w
  have hw := fun W => isWall_2 g (x) (y) (by omega) (by omega) W
  have hk := fun W => keptAt_2 (x) (y) (by omega) (by omega) W
  skip
  rw [hi] at hw
  have Hw := Lib.hid hw
  have Hk := Lib.hid hk
  have e0 : pas g (102 + y) = .int .u16 (g (102 + y)) := pas_u16 g (by omega)
  have e1 : pas g (112 + y) = .int .u16 (g (112 + y)) := pas_u16 g (by omega)
  have hr := hg.bits (112 + y) (by omega) (by omega)
  have l0 : lay (fun _ => Value.int IntKind.i8 0) 0 2 (sp (x : Int) (y : Int)) 0 = .int .i8 (x : Int) := rfl
  have l1 : lay (fun _ => Value.int IntKind.i8 0) 0 2 (sp (x : Int) (y : Int)) 1 = .int .i8 (y : Int) := rfl
  have lx : (x : Int) < 10 := by omega
  have ly : (y : Int) < 10 := by omega
  have mx : min x 16 = x := by omega
  have hb := bitB_eq (g (112 + y)) x
  clear hw hk hi
  have tk_b1 : True := trivial; have tk_b2 : True := trivial; have tk_b3 : True := trivial
  go_enter Tryd.func94, Tryd.ntmps94
  go_wp2_with (first | (have _t := tk_b1; refine wpList_box rfl _ _ rfl _ _ rfl hM ?_; intro b1 W' hb1 hM'; clear hM tk_b1; have hM := hM'; clear hM') | (have _t := tk_b2; refine wpList_box rfl _ _ rfl _ _ rfl hM ?_; intro b2 W' hb2 hM'; clear hM tk_b2; have hM := hM'; clear hM') | (refine wpList_get rfl _ _ rfl _ _ rfl hM 1 rfl (rowTab _ _ rfl) (by omega) ?_) | (refine wpList_get rfl _ _ rfl _ _ rfl hM 0 rfl (rowTab _ _ rfl) (by omega) ?_) | (go_at_call 93; refine (Hw.out _).mono ?_; rintro e W' ⟨rfl, hb'⟩; have hM' := hM.call hb'; clear hM hb'; have hM := hM'; clear hM') | (go_at_call 95; refine (Hk.out _).mono ?_; rintro e W' ⟨rfl, hb'⟩; have hM' := hM.call hb'; clear hM hb'; have hM := hM'; clear hM') | (have _t := tk_b3; refine wpList_zero rfl _ rfl (zeroTab _ _ _ rfl) hM ?_; intro b3 W' hb3 hM'; clear hM tk_b3; have hM := hM'; clear hM') | (refine wpList_lay rfl _ _ _ rfl _ _ rfl _ _ rfl hM 0 rfl (by assumption) (rowTab _ _ rfl) (by omega) ?_ ?_; (first | (intro _ _; rfl) | (intro k _; exact h1 _) | (intro k _; simp only [lay, upd]; (repeat' split) <;> first | exact h1 _ | rfl)); intro W' hM'; clear hM; have hM := hM'; clear hM'; simp only [List.set] at hM) | (refine wpList_get1 rfl _ _ rfl _ _ rfl hM 0 rfl (cellTab _ rfl) (by omega) _ l0 ?_) | (refine wpList_get1 rfl _ _ rfl _ _ rfl hM 0 rfl (cellTab _ rfl) (by omega) _ l1 ?_) | (refine wpList_get1 rfl _ _ rfl _ _ rfl hM 2 rfl (cellTab _ rfl) (by omega) _ e0 ?_) | (refine wpList_get1 rfl _ _ rfl _ _ rfl hM 2 rfl (cellTab _ rfl) (by omega) _ e1 ?_))
  go_ret
  exact ⟨rfl, hM.below⟩
set_option maxRecDepth 100000 in
set_option maxHeartbeats 1000000 in
theorem isFenced_wall3 (g : Nat → Int) (x y : Int) (hx : 0 ≤ x ∧ x ≤ 9) (hy : 0 ≤ y ∧ y ≤ 9) (hi : isB g (x - 1) (y) = false) (w : World) :
    Calls Tryd.prog 94 #[.agg (arr 122 (pas g)), .agg (arr 2 (sp x y)), .int .i64 3] w fun e w' => e = .returned (.bool false) ∧ Below w.heap.size w w' := by
  have hM := Mem.nil w
  have hw := fun W => isWall_3 g x y hx hy W
  rw [hi] at hw
  have Hw := Lib.hid hw
  clear hw hi
  have tk_b1 : True := trivial; have tk_b2 : True := trivial
  go_enter Tryd.func94, Tryd.ntmps94
  go_wp2_with (first | (have _t := tk_b1; refine wpList_box rfl _ _ rfl _ _ rfl hM ?_; intro b1 W' hb1 hM'; clear hM tk_b1; have hM := hM'; clear hM') | (have _t := tk_b2; refine wpList_box rfl _ _ rfl _ _ rfl hM ?_; intro b2 W' hb2 hM'; clear hM tk_b2; have hM := hM'; clear hM') | (refine wpList_get rfl _ _ rfl _ _ rfl hM 1 rfl (rowTab _ _ rfl) (by omega) ?_) | (refine wpList_get rfl _ _ rfl _ _ rfl hM 0 rfl (rowTab _ _ rfl) (by omega) ?_) | (go_at_call 93; refine (Hw.out _).mono ?_; rintro e W' ⟨rfl, hb'⟩; have hM' := hM.call hb'; clear hM hb'; have hM := hM'; clear hM'))
  go_ret
  exact ⟨rfl, hM.below⟩
set_option maxRecDepth 100000 in
set_option maxHeartbeats 1000000 in
theorem isFenced_in3 (g : Nat → Int) (hg : Fits g) (x y : Nat) (hx : x ≤ 8) (hy : y ≤ 9) (hi : isB g (x) (y) = true) (w : World) :
    Calls Tryd.prog 94 #[.agg (arr 122 (pas g)), .agg (arr 2 (sp (x + 1) (y))), .int .i64 3] w fun e w' => e = .returned (.bool (bitB (g (102 + y)) x)) ∧ Below w.heap.size w w' := by
  have hM := Mem.nil w
  have hw := fun W => isWall_3 g (x + 1) (y) (by omega) (by omega) W
  have hk := fun W => keptAt_3 (x + 1) (y) (by omega) (by omega) W
  simp only [show (x : Int) + 1 - 1 = x by omega] at hw hk
  rw [hi] at hw
  have Hw := Lib.hid hw
  have Hk := Lib.hid hk
  have e0 : pas g (102 + y) = .int .u16 (g (102 + y)) := pas_u16 g (by omega)
  have e1 : pas g (112 + y) = .int .u16 (g (112 + y)) := pas_u16 g (by omega)
  have hr := hg.bits (102 + y) (by omega) (by omega)
  have l0 : lay (fun _ => Value.int IntKind.i8 0) 0 2 (sp (x : Int) (y : Int)) 0 = .int .i8 (x : Int) := rfl
  have l1 : lay (fun _ => Value.int IntKind.i8 0) 0 2 (sp (x : Int) (y : Int)) 1 = .int .i8 (y : Int) := rfl
  have lx : (x : Int) < 10 := by omega
  have ly : (y : Int) < 10 := by omega
  have mx : min x 16 = x := by omega
  have hb := bitB_eq (g (102 + y)) x
  clear hw hk hi
  have tk_b1 : True := trivial; have tk_b2 : True := trivial; have tk_b3 : True := trivial
  go_enter Tryd.func94, Tryd.ntmps94
  go_wp2_with (first | (have _t := tk_b1; refine wpList_box rfl _ _ rfl _ _ rfl hM ?_; intro b1 W' hb1 hM'; clear hM tk_b1; have hM := hM'; clear hM') | (have _t := tk_b2; refine wpList_box rfl _ _ rfl _ _ rfl hM ?_; intro b2 W' hb2 hM'; clear hM tk_b2; have hM := hM'; clear hM') | (refine wpList_get rfl _ _ rfl _ _ rfl hM 1 rfl (rowTab _ _ rfl) (by omega) ?_) | (refine wpList_get rfl _ _ rfl _ _ rfl hM 0 rfl (rowTab _ _ rfl) (by omega) ?_) | (go_at_call 93; refine (Hw.out _).mono ?_; rintro e W' ⟨rfl, hb'⟩; have hM' := hM.call hb'; clear hM hb'; have hM := hM'; clear hM') | (go_at_call 95; refine (Hk.out _).mono ?_; rintro e W' ⟨rfl, hb'⟩; have hM' := hM.call hb'; clear hM hb'; have hM := hM'; clear hM') | (have _t := tk_b3; refine wpList_zero rfl _ rfl (zeroTab _ _ _ rfl) hM ?_; intro b3 W' hb3 hM'; clear hM tk_b3; have hM := hM'; clear hM') | (refine wpList_lay rfl _ _ _ rfl _ _ rfl _ _ rfl hM 0 rfl (by assumption) (rowTab _ _ rfl) (by omega) ?_ ?_; (first | (intro _ _; rfl) | (intro k _; exact h1 _) | (intro k _; simp only [lay, upd]; (repeat' split) <;> first | exact h1 _ | rfl)); intro W' hM'; clear hM; have hM := hM'; clear hM'; simp only [List.set] at hM) | (refine wpList_get1 rfl _ _ rfl _ _ rfl hM 0 rfl (cellTab _ rfl) (by omega) _ l0 ?_) | (refine wpList_get1 rfl _ _ rfl _ _ rfl hM 0 rfl (cellTab _ rfl) (by omega) _ l1 ?_) | (refine wpList_get1 rfl _ _ rfl _ _ rfl hM 2 rfl (cellTab _ rfl) (by omega) _ e0 ?_) | (refine wpList_get1 rfl _ _ rfl _ _ rfl hM 2 rfl (cellTab _ rfl) (by omega) _ e1 ?_))
  go_ret
  exact ⟨rfl, hM.below⟩
theorem isWall_any (g : Nat → Int) (k : Nat) (hk : k < 4) (x y : Int) (hx : 0 ≤ x ∧ x ≤ 9) (hy : 0 ≤ y ∧ y ≤ 9) (w : World) :
    Calls Tryd.prog 93 #[.agg (arr 122 (pas g)), .agg (arr 2 (sp x y)), .int .i64 k] w fun e w' => e = .returned (.bool (!isB g (nxX k x) (nxY k y))) ∧ Below w.heap.size w w' := by
  rcases (show k = 0 ∨ k = 1 ∨ k = 2 ∨ k = 3 by omega) with rfl | rfl | rfl | rfl
  · exact isWall_0 g x y hx hy w
  · exact isWall_1 g x y hx hy w
  · exact isWall_2 g x y hx hy w
  · exact isWall_3 g x y hx hy w
/-- Does a hurdle stand on a side? -/
def fencedB (g : Nat → Int) (k : Nat) (x y : Int) : Bool := isB g (nxX k x) (nxY k y) && fenceB g k x y
theorem isFenced_any (g : Nat → Int) (hg : Fits g) (ho : okB g = true) (k : Nat) (hk : k < 4) (x y : Int) (hx : 0 ≤ x ∧ x ≤ 9) (hy : 0 ≤ y ∧ y ≤ 9) (w : World) :
    Calls Tryd.prog 94 #[.agg (arr 122 (pas g)), .agg (arr 2 (sp x y)), .int .i64 k] w fun e w' => e = .returned (.bool (fencedB g k x y)) ∧ Below w.heap.size w w' := by
  rcases (show k = 0 ∨ k = 1 ∨ k = 2 ∨ k = 3 by omega) with rfl | rfl | rfl | rfl
  · cases hi : isB g x (y - 1)
    · have he : fencedB g 0 x y = false := by unfold fencedB; rw [show isB g (nxX 0 x) (nxY 0 y) = false from hi]; rfl
      rw [he]
      exact isFenced_wall0 g x y hx hy hi w
    · have he : fencedB g 0 x y = fenceB g 0 x y := by unfold fencedB; rw [show isB g (nxX 0 x) (nxY 0 y) = true from hi]; rfl
      rw [he]
      clear he
      have hb := isB_bounds ho hi
      obtain ⟨y, rfl⟩ : ∃ n : Nat, y = n + 1 := ⟨(y - 1).toNat, by omega⟩
      obtain ⟨x, rfl⟩ : ∃ n : Nat, x = n := ⟨x.toNat, by omega⟩
      simp only [show (y : Int) + 1 - 1 = y by omega] at hi hb
      have he : fenceB g 0 (x) (y + 1) = bitB (g (112 + y)) x := by simp [fenceB, sideRow, sideBit]
      rw [he]
      exact isFenced_in0 g hg x y (by omega) (by omega) hi w
  · cases hi : isB g (x + 1) y
    · have he : fencedB g 1 x y = false := by unfold fencedB; rw [show isB g (nxX 1 x) (nxY 1 y) = false from hi]; rfl
      rw [he]
      exact isFenced_wall1 g x y hx hy hi w
    · have he : fencedB g 1 x y = fenceB g 1 x y := by unfold fencedB; rw [show isB g (nxX 1 x) (nxY 1 y) = true from hi]; rfl
      rw [he]
      clear he
      have hb := isB_bounds ho hi
      obtain ⟨y, rfl⟩ : ∃ n : Nat, y = n := ⟨y.toNat, by omega⟩
      obtain ⟨x, rfl⟩ : ∃ n : Nat, x = n := ⟨x.toNat, by omega⟩
      skip
      have he : fenceB g 1 (x) (y) = bitB (g (102 + y)) x := by simp [fenceB, sideRow, sideBit]
      rw [he]
      exact isFenced_in1 g hg x y (by omega) (by omega) hi w
  · cases hi : isB g x (y + 1)
    · have he : fencedB g 2 x y = false := by unfold fencedB; rw [show isB g (nxX 2 x) (nxY 2 y) = false from hi]; rfl
      rw [he]
      exact isFenced_wall2 g x y hx hy hi w
    · have he : fencedB g 2 x y = fenceB g 2 x y := by unfold fencedB; rw [show isB g (nxX 2 x) (nxY 2 y) = true from hi]; rfl
      rw [he]
      clear he
      have hb := isB_bounds ho hi
      obtain ⟨y, rfl⟩ : ∃ n : Nat, y = n := ⟨y.toNat, by omega⟩
      obtain ⟨x, rfl⟩ : ∃ n : Nat, x = n := ⟨x.toNat, by omega⟩
      skip
      have he : fenceB g 2 (x) (y) = bitB (g (112 + y)) x := by simp [fenceB, sideRow, sideBit]
      rw [he]
      exact isFenced_in2 g hg x y (by omega) (by omega) hi w
  · cases hi : isB g (x - 1) y
    · have he : fencedB g 3 x y = false := by unfold fencedB; rw [show isB g (nxX 3 x) (nxY 3 y) = false from hi]; rfl
      rw [he]
      exact isFenced_wall3 g x y hx hy hi w
    · have he : fencedB g 3 x y = fenceB g 3 x y := by unfold fencedB; rw [show isB g (nxX 3 x) (nxY 3 y) = true from hi]; rfl
      rw [he]
      clear he
      have hb := isB_bounds ho hi
      obtain ⟨y, rfl⟩ : ∃ n : Nat, y = n := ⟨y.toNat, by omega⟩
      obtain ⟨x, rfl⟩ : ∃ n : Nat, x = n + 1 := ⟨(x - 1).toNat, by omega⟩
      simp only [show (x : Int) + 1 - 1 = x by omega] at hi hb
      have he : fenceB g 3 (x + 1) (y) = bitB (g (102 + y)) x := by simp [fenceB, sideRow, sideBit]
      rw [he]
      exact isFenced_in3 g hg x y (by omega) (by omega) hi w

set_option maxRecDepth 100000 in
set_option maxHeartbeats 1000000 in
theorem isOpen_any (g : Nat → Int) (hg : Fits g) (ho : okB g = true) (k : Nat) (hk : k < 4) (x y : Int) (hx : 0 ≤ x ∧ x ≤ 9) (hy : 0 ≤ y ∧ y ≤ 9) (w : World) :
    Calls Tryd.prog 65 #[.agg (arr 122 (pas g)), .agg (arr 2 (sp x y)), .int .i64 k] w fun e w' => e = .returned (.bool (!closedB g k x y)) ∧ Below w.heap.size w w' := by
  have hM := Mem.nil w
  have hw := fun W => isWall_any g k hk x y hx hy W
  have hf := fun W => isFenced_any g hg ho k hk x y hx hy W
  cases hi : isB g (nxX k x) (nxY k y)
  · have he : closedB g k x y = true := closedB_wall hi
    rw [hi] at hw
    have Hw := Lib.hid hw
    clear hw hf hi
    rw [he]
    have tk_b1 : True := trivial; have tk_b2 : True := trivial
    go_enter Tryd.func65, Tryd.ntmps65
    go_wp2_with (first | (have _t := tk_b1; refine wpList_box rfl _ _ rfl _ _ rfl hM ?_; intro b1 W' hb1 hM'; clear hM tk_b1; have hM := hM'; clear hM') | (have _t := tk_b2; refine wpList_box rfl _ _ rfl _ _ rfl hM ?_; intro b2 W' hb2 hM'; clear hM tk_b2; have hM := hM'; clear hM') | (refine wpList_get rfl _ _ rfl _ _ rfl hM 1 rfl (rowTab _ _ rfl) (by omega) ?_) | (refine wpList_get rfl _ _ rfl _ _ rfl hM 0 rfl (rowTab _ _ rfl) (by omega) ?_) | (go_at_call 93; refine (Hw.out _).mono ?_; rintro e W' ⟨rfl, hb'⟩; have hM' := hM.call hb'; clear hM hb'; have hM := hM'; clear hM'))
    go_ret
    exact ⟨rfl, hM.below⟩
  · have he : closedB g k x y = fenceB g k x y := closedB_in hi
    have hf2 : fencedB g k x y = fenceB g k x y := by unfold fencedB; rw [hi]; rfl
    rw [hf2] at hf
    rw [hi] at hw
    have Hw := Lib.hid hw
    have Hf := Lib.hid hf
    clear hw hf hi hf2
    rw [he]
    have tk_b1 : True := trivial; have tk_b2 : True := trivial
    go_enter Tryd.func65, Tryd.ntmps65
    go_wp2_with (first | (have _t := tk_b1; refine wpList_box rfl _ _ rfl _ _ rfl hM ?_; intro b1 W' hb1 hM'; clear hM tk_b1; have hM := hM'; clear hM') | (have _t := tk_b2; refine wpList_box rfl _ _ rfl _ _ rfl hM ?_; intro b2 W' hb2 hM'; clear hM tk_b2; have hM := hM'; clear hM') | (refine wpList_get rfl _ _ rfl _ _ rfl hM 1 rfl (rowTab _ _ rfl) (by omega) ?_) | (refine wpList_get rfl _ _ rfl _ _ rfl hM 0 rfl (rowTab _ _ rfl) (by omega) ?_) | (refine wpList_gget ?_ _ _ rfl _ _ rfl hM 1 rfl (rowTab _ _ rfl) (by omega) ?_; kernel_rfl) | (refine wpList_gget ?_ _ _ rfl _ _ rfl hM 0 rfl (rowTab _ _ rfl) (by omega) ?_; kernel_rfl) | (go_at_call 93; refine (Hw.out _).mono ?_; rintro e W' ⟨rfl, hb'⟩; have hM' := hM.call hb'; clear hM hb'; have hM := hM'; clear hM') | (go_at_call 94; refine (Hf.out _).mono ?_; rintro e W' ⟨rfl, hb'⟩; have hM' := hM.call hb'; clear hM hb'; have hM := hM'; clear hM'))
    go_ret
    exact ⟨rfl, hM.below⟩
end Go.Proofs.YtdlfhomnlhdacaaDoor
