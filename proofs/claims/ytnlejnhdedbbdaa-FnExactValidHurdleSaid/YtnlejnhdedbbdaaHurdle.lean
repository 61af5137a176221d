/-
  A hurdle's cells; laws.toHurdle, (impl.Hurdle).side, beyond, (impl.Pasture).canHave, spec.l03Side, l03Is by contracts.
-/
import Derived.Test.YtnlejnhdedbbdaaNext
import Derived.Test.YtnlejnhdedbbdaaToSpot
namespace Go.Proofs.Ytnlejnhdedbbdaa
open Go Go.RowKit Go.BigFrame

theorem hd_one (x y : Int) (s : Bool) (k : Nat) : (hd x y s k).oneCell' = true := by
  unfold hd
  split
  · rfl
  · split <;> rfl
theorem hd_sp (x y : Int) (s : Bool) : arr 2 (fun k => hd x y s (0 + k)) = arr 2 (sp x y) := arr_congr fun k hk => by
  rcases (show k = 0 ∨ k = 1 by omega) with rfl | rfl <;> rfl
theorem toHurdle_any (x y : Int) (s : Bool) (w : World) :
    Calls Try.prog 7 #[.agg (arr 3 (hd x y s))] w fun e w' => e = .returned (.agg (arr 3 (hd x y s))) ∧ Below w.heap.size w w' := by
  have hM := Mem.nil w
  have e2 : hd x y s 2 = .bool s := rfl
  have tk_b1 : True := trivial; have tk_b2 : True := trivial; have tk_b3 : True := trivial
  go_enter Try.func7, Try.ntmps7
  go_wp2_with (first | (have _t := tk_b1; refine wpList_box rfl _ _ rfl _ _ rfl hM ?_; intro b1 W' hb1 hM'; clear hM tk_b1; have hM := hM'; clear hM') | (have _t := tk_b2; refine wpList_zero rfl _ rfl (zeroTab _ _ _ rfl) hM ?_; intro b2 W' hb2 hM'; clear hM tk_b2; have hM := hM'; clear hM') | (have _t := tk_b3; refine wpList_zero rfl _ rfl (zeroTab _ _ _ rfl) hM ?_; intro b3 W' hb3 hM'; clear hM tk_b3; have hM := hM'; clear hM') | (refine wpList_get1 rfl _ _ rfl _ _ rfl hM 2 rfl (cellTab _ rfl) (by omega) _ rfl ?_) | (refine wpList_get rfl _ _ rfl _ _ rfl hM 2 rfl (rowTab _ _ rfl) (by omega) ?_) | (go_at_call 18; refine (toSpot_any _ (fun _ => hd_one _ _ _ _) _).mono ?_; rintro e W' ⟨rfl, hb'⟩; have hM' := hM.call hb'; clear hM hb'; have hM := hM'; clear hM') | (refine wpList_set1 rfl _ _ _ rfl _ _ rfl _ rfl ?_ hM 0 rfl (by assumption) (cellTab _ rfl) (by omega) ?_; (first | rfl | exact h1 _); intro W' hM'; clear hM; have hM := hM'; clear hM'; simp [List.set, Act.eval] at hM) | (refine wpList_lay rfl _ _ _ rfl _ _ rfl _ _ rfl hM 0 rfl (by assumption) (rowTab _ _ rfl) (by omega) (fun k _ => hd_one _ _ _ _) ?_; intro W' hM'; clear hM; have hM := hM'; clear hM'; simp only [List.set] at hM) | (refine wpList_get rfl _ _ rfl _ _ rfl hM 0 rfl (rowTab _ _ rfl) (by omega) ?_) | (refine wpList_lay rfl _ _ _ rfl _ _ rfl _ _ rfl hM 1 rfl (by assumption) (rowTab _ _ rfl) (by omega) ?_ ?_))
  · intro k hk
    rcases (show k = 0 ∨ k = 1 ∨ k = 2 by omega) with rfl | rfl | rfl <;> rfl
  intro W' hM'; clear hM; have hM := hM'; clear hM'; try simp only [List.set] at hM
  go_wp2
  have hA := (hM.ats 1 _ _ _ rfl).congr (g := hd x y s) (fun k hk => by
    rcases (show k = 0 ∨ k = 1 ∨ k = 2 by omega) with rfl | rfl | rfl <;> rfl)
  exact bodyPost_ret (results_at rfl _ rfl hA (rowTab _ _ rfl)) rfl ⟨rfl, hM.below⟩

def sideN (s : Bool) : Int := if s then 2 else 1
theorem l03Side_any (x y : Int) (s : Bool) (w : World) :
    Calls Try.prog 30 #[.agg (arr 3 (hd x y s))] w fun e w' => e = .returned (.int .i64 (sideN s)) ∧ Below w.heap.size w w' := by
  have hM := Mem.nil w
  cases s
  all_goals
    have tk_b1 : True := trivial
    go_enter Try.func30, Try.ntmps30
    go_wp2_with (first | (have _t := tk_b1; refine wpList_box rfl _ _ rfl _ _ rfl hM ?_; intro b1 W' hb1 hM'; clear hM tk_b1; have hM := hM'; clear hM') | (refine wpList_get1 rfl _ _ rfl _ _ rfl hM 0 rfl (cellTab _ rfl) (by omega) _ rfl ?_))
    go_ret
    exact ⟨rfl, hM.below⟩
theorem side_any (x y : Int) (s : Bool) (w : World) :
    Calls Try.prog 43 #[.agg (arr 3 (hd x y s))] w fun e w' => e = .returned (.int .i64 (sideN s)) ∧ Below w.heap.size w w' := by
  have hM := Mem.nil w
  cases s
  all_goals
    have tk_b1 : True := trivial
    go_enter Try.func43, Try.ntmps43
    go_wp2_with (first | (have _t := tk_b1; refine wpList_box rfl _ _ rfl _ _ rfl hM ?_; intro b1 W' hb1 hM'; clear hM tk_b1; have hM := hM'; clear hM') | (refine wpList_get1 rfl _ _ rfl _ _ rfl hM 0 rfl (cellTab _ rfl) (by omega) _ rfl ?_))
    go_ret
    exact ⟨rfl, hM.below⟩

/-- Where a hurdle's other cell lies. -/
def bx (x : Int) (s : Bool) : Int := if s then x else x + 1
def by' (y : Int) (s : Bool) : Int := if s then y + 1 else y
theorem over_side (x y : Int) (s : Bool) (hx : 0 ≤ x ∧ x ≤ 9) (hy : 0 ≤ y ∧ y ≤ 9) (w : World) :
    Calls Try.prog 42 #[.agg (arr 2 (sp x y)), .int .i64 (sideN s)] w fun e w' => e = .returned (.agg (arr 2 (sp (bx x s) (by' y s)))) ∧ Below w.heap.size w w' := by
  cases s
  · exact over_1 x y hx hy w
  · exact over_2 x y hx hy w
theorem next_side (x y : Int) (s : Bool) (hx : 0 ≤ x ∧ x ≤ 9) (hy : 0 ≤ y ∧ y ≤ 9) (w : World) :
    Calls Try.prog 29 #[.agg (arr 2 (sp x y)), .int .i64 (sideN s)] w fun e w' => e = .returned (.agg (arr 2 (sp (bx x s) (by' y s)))) ∧ Below w.heap.size w w' := by
  cases s
  · exact l01Next_1 x y hx hy w
  · exact l01Next_2 x y hx hy w

theorem beyond_any (x y : Int) (s : Bool) (hx : 0 ≤ x ∧ x ≤ 9) (hy : 0 ≤ y ∧ y ≤ 9) (w : World) :
    Calls Try.prog 35 #[.agg (arr 3 (hd x y s))] w fun e w' => e = .returned (.agg (arr 2 (sp (bx x s) (by' y s)))) ∧ Below w.heap.size w w' := by
  have hM := Mem.nil w
  have tk_b1 : True := trivial; have tk_b2 : True := trivial
  go_enter Try.func35, Try.ntmps35
  go_wp2_with (first | (have _t := tk_b1; refine wpList_box rfl _ _ rfl _ _ rfl hM ?_; intro b1 W' hb1 hM'; clear hM tk_b1; have hM := hM'; clear hM') | (have _t := tk_b2; refine wpList_zero rfl _ rfl (zeroTab _ _ _ rfl) hM ?_; intro b2 W' hb2 hM'; clear hM tk_b2; have hM := hM'; clear hM'))
  have hs := hd_sp x y s
  ((try simp only [Act.put, List.setIfInBounds_toArray, List.set_cons_succ, List.set_cons_zero]); refine region_head_mem (m := 5) (by kernel_rfl) (by kernel_rfl) hM ?_; clear hM; simp only [List.take_succ_cons, List.take_zero, List.drop_succ_cons, List.drop_zero]; (repeat (first | go_big_quiet_skip | (go_big_quiet_want; first | (refine quiet_get _ _ rfl _ _ rfl 1 rfl (rowTab _ 2 rfl) (by omega) ?_; (simp only [hs]); (simp only [Act.put, List.setIfInBounds_toArray, List.set_cons_succ, List.set_cons_zero]); go_big_quiet_on) | (refine quiet_get _ _ rfl _ _ rfl 1 rfl (rowTab _ _ rfl) (by omega) ?_; (simp only [Act.put, List.setIfInBounds_toArray, List.set_cons_succ, List.set_cons_zero]); go_big_quiet_on) | (refine quiet_call ?_; apply Exists.intro; apply Exists.intro; apply Exists.intro; refine ⟨fun W => ?_, fun W hM => ?_, ?_⟩; (go_simp; exact ⟨rfl, rfl⟩); (exact side_any x y s W); (simp only [Act.put, List.setIfInBounds_toArray, List.set_cons_succ, List.set_cons_zero]); go_big_quiet_on) | (refine quiet_call ?_; apply Exists.intro; apply Exists.intro; apply Exists.intro; refine ⟨fun W => ?_, fun W hM => ?_, ?_⟩; (go_simp; exact ⟨rfl, rfl⟩); (exact over_side x y s hx hy W); (simp only [Act.put, List.setIfInBounds_toArray, List.set_cons_succ, List.set_cons_zero]); go_big_quiet_on) | (refine quiet_val ?_; apply Exists.intro; refine ⟨fun W => ?_, ?_⟩; (go_simp; rfl); (simp only [Act.put, List.setIfInBounds_toArray, List.set_cons_succ, List.set_cons_zero]); go_big_quiet_on)))); (with_reducible refine wpQuiet_nil ?_); intro W' hM)
  go_wp2_with (first | (refine wpList_lay rfl _ _ _ rfl _ _ rfl _ _ rfl hM 0 rfl (by assumption) (rowTab _ _ rfl) (by omega) ?_ ?_; (first | (intro _ _; rfl) | (intro k _; exact h1 _) | (intro k _; simp only [lay, upd]; (repeat' split) <;> first | exact h1 _ | rfl)); intro W' hM'; clear hM; have hM := hM'; clear hM'; simp only [List.set] at hM))
  exact bodyPost_ret (results_at rfl _ rfl ((hM.ats 0 _ _ _ rfl).congr (lay_sp _ _ _)) (rowTab _ _ rfl)) rfl ⟨rfl, hM.below⟩

/-- Has a hurdle cells on both sides? -/
def hurIs (g : Nat → Int) (x y : Int) (s : Bool) : Bool := isB g x y && isB g (bx x s) (by' y s)
theorem isB_in {g : Nat → Int} {x y : Int} (h0 : g 0 ≤ 10) (h1 : g 1 ≤ 10) (hi : isB g x y = true) : (0 ≤ x ∧ x ≤ 9) ∧ (0 ≤ y ∧ y ≤ 9) := by
  unfold isB at hi
  rw [Bool.and_eq_true] at hi
  have a3 := inB_true hi.1
  have a4 := inB_true hi.2
  omega
theorem b_in {x : Int} {s : Bool} (h : 0 ≤ x ∧ x ≤ 9) : -128 ≤ bx x s ∧ bx x s ≤ 127 := by unfold bx; split <;> omega
theorem by_in {x : Int} {s : Bool} (h : 0 ≤ x ∧ x ≤ 9) : -128 ≤ by' x s ∧ by' x s ≤ 127 := by unfold by'; split <;> omega

set_option maxRecDepth 100000 in
set_option maxHeartbeats 1000000 in
theorem canHave_any (g : Nat → Int) (h0 : g 0 ≤ 10) (h1 : g 1 ≤ 10) (x y : Int) (s : Bool) (w : World) :
    Calls Try.prog 20 #[.agg (arr 122 (pas g)), .agg (arr 3 (hd x y s))] w fun e w' => e = .returned (.bool (hurIs g x y s)) ∧ Below w.heap.size w w' := by
  have hM := Mem.nil w
  have hs := hd_sp x y s
  have tk_b1 : True := trivial; have tk_b2 : True := trivial
  cases hi : isB g x y
  · have hf : Hid (hurIs g x y s = false) := Lib.hid (by simp [hurIs, hi])
    have Hi := Lib.hid hi
    clear hi
    go_enter Try.func20, Try.ntmps20
    go_wp2_with (first | (have _t := tk_b1; refine wpList_box rfl _ _ rfl _ _ rfl hM ?_; intro b1 W' hb1 hM'; clear hM tk_b1; have hM := hM'; clear hM') | (have _t := tk_b2; refine wpList_box rfl _ _ rfl _ _ rfl hM ?_; intro b2 W' hb2 hM'; clear hM tk_b2; have hM := hM'; clear hM'))
    ((try simp only [Act.put, List.setIfInBounds_toArray, List.set_cons_succ, List.set_cons_zero]); refine wp_region_mem (by kernel_rfl) (by kernel_rfl) hM ?_; clear hM; (repeat (first | go_big_quiet_skip | (go_big_quiet_want; first | (refine quiet_get _ _ rfl _ _ rfl 0 rfl (rowTab _ 2 rfl) (by omega) ?_; (simp only [hs]); (simp only [Act.put, List.setIfInBounds_toArray, List.set_cons_succ, List.set_cons_zero]); go_big_quiet_on) | (refine quiet_get _ _ rfl _ _ rfl 1 rfl (rowTab _ _ rfl) (by omega) ?_; (simp only [Act.put, List.setIfInBounds_toArray, List.set_cons_succ, List.set_cons_zero]); go_big_quiet_on) | (refine quiet_get _ _ rfl _ _ rfl 0 rfl (rowTab _ _ rfl) (by omega) ?_; (simp only [Act.put, List.setIfInBounds_toArray, List.set_cons_succ, List.set_cons_zero]); go_big_quiet_on) | (refine quiet_call ?_; apply Exists.intro; apply Exists.intro; apply Exists.intro; refine ⟨fun W => ?_, fun W hM => ?_, ?_⟩; (go_simp; exact ⟨rfl, rfl⟩); (exact hasCell_any g x y W); (simp only [Hi.out]); (simp only [Act.put, List.setIfInBounds_toArray, List.set_cons_succ, List.set_cons_zero]); go_big_quiet_on) | (refine quiet_val ?_; apply Exists.intro; refine ⟨fun W => ?_, ?_⟩; (go_simp; rfl); (simp only [Act.put, List.setIfInBounds_toArray, List.set_cons_succ, List.set_cons_zero]); go_big_quiet_on)))); (with_reducible refine wpQuiet_nil ?_); intro W' hM)
    go_wp2
    go_ret
    exact ⟨ret_bool hf.out.symm, hM.below⟩
  · have hb := isB_in h0 h1 hi
    have Hi := Lib.hid hi
    cases hj : isB g (bx x s) (by' y s)
    all_goals
      have hf : Hid (hurIs g x y s = isB g (bx x s) (by' y s)) := Lib.hid (by simp [hurIs, hi])
      have Hj := Lib.hid hj
      clear hj
      go_enter Try.func20, Try.ntmps20
      go_wp2_with (first | (have _t := tk_b1; refine wpList_box rfl _ _ rfl _ _ rfl hM ?_; intro b1 W' hb1 hM'; clear hM tk_b1; have hM := hM'; clear hM') | (have _t := tk_b2; refine wpList_box rfl _ _ rfl _ _ rfl hM ?_; intro b2 W' hb2 hM'; clear hM tk_b2; have hM := hM'; clear hM'))
      ((try simp only [Act.put, List.setIfInBounds_toArray, List.set_cons_succ, List.set_cons_zero]); refine wp_region_mem (by kernel_rfl) (by kernel_rfl) hM ?_; clear hM; (repeat (first | go_big_quiet_skip | (go_big_quiet_want; first | (refine quiet_get _ _ rfl _ _ rfl 0 rfl (rowTab _ 2 rfl) (by omega) ?_; (simp only [hs]); (simp only [Act.put, List.setIfInBounds_toArray, List.set_cons_succ, List.set_cons_zero]); go_big_quiet_on) | (refine quiet_get _ _ rfl _ _ rfl 1 rfl (rowTab _ _ rfl) (by omega) ?_; (simp only [Act.put, List.setIfInBounds_toArray, List.set_cons_succ, List.set_cons_zero]); go_big_quiet_on) | (refine quiet_get _ _ rfl _ _ rfl 0 rfl (rowTab _ _ rfl) (by omega) ?_; (simp only [Act.put, List.setIfInBounds_toArray, List.set_cons_succ, List.set_cons_zero]); go_big_quiet_on) | (refine quiet_call ?_; apply Exists.intro; apply Exists.intro; apply Exists.intro; refine ⟨fun W => ?_, fun W hM => ?_, ?_⟩; (go_simp; exact ⟨rfl, rfl⟩); (exact beyond_any x y s hb.1 hb.2 W); (simp only [Act.put, List.setIfInBounds_toArray, List.set_cons_succ, List.set_cons_zero]); go_big_quiet_on) | (refine quiet_call ?_; apply Exists.intro; apply Exists.intro; apply Exists.intro; refine ⟨fun W => ?_, fun W hM => ?_, ?_⟩; (go_simp; exact ⟨rfl, rfl⟩); (with_reducible exact hasCell_any g x y W); (simp only [Hi.out]); (simp only [Act.put, List.setIfInBounds_toArray, List.set_cons_succ, List.set_cons_zero]); go_big_quiet_on) | (refine quiet_call ?_; apply Exists.intro; apply Exists.intro; apply Exists.intro; refine ⟨fun W => ?_, fun W hM => ?_, ?_⟩; (go_simp; exact ⟨rfl, rfl⟩); (with_reducible exact hasCell_any g (bx x s) (by' y s) W); (simp only [Hj.out]); (simp only [Act.put, List.setIfInBounds_toArray, List.set_cons_succ, List.set_cons_zero]); go_big_quiet_on) | (refine quiet_val ?_; apply Exists.intro; refine ⟨fun W => ?_, ?_⟩; (go_simp; rfl); (simp only [Act.put, List.setIfInBounds_toArray, List.set_cons_succ, List.set_cons_zero]); go_big_quiet_on)))); (with_reducible refine wpQuiet_nil ?_); intro W' hM)
      go_wp2
      go_ret
      exact ⟨ret_bool (by rw [hf.out, Hj.out]), hM.below⟩

set_option maxRecDepth 100000 in
set_option maxHeartbeats 1000000 in
theorem l03Is_any (g : Nat → Int) (hg : Fits g) (h0 : g 0 ≤ 10) (h1 : g 1 ≤ 10) (bp : Nat) (x y : Int) (s : Bool) (hx : -128 ≤ x ∧ x ≤ 127) (hy : -128 ≤ y ∧ y ≤ 127) (w : World) (hA : At w bp 122 (pas g)) :
    Calls Try.prog 15 #[.pointer (some ⟨bp, 0, none⟩), .agg (arr 3 (hd x y s))] w fun e w' => e = .returned (.bool (hurIs g x y s)) ∧ Below w.heap.size w w' := by
  have hM : Mem w [(bp, 122, pas g)] w := (Mem.nil w).old hA (fun i p h => by simp at h)
  have hs := hd_sp x y s
  clear hA
  have tk_b1 : True := trivial
  cases hi : isB g x y
  · have hf : Hid (hurIs g x y s = false) := Lib.hid (by simp [hurIs, hi])
    have Hi := Lib.hid hi
    clear hi
    go_enter Try.func15, Try.ntmps15
    go_wp2_with (first | (have _t := tk_b1; refine wpList_box rfl _ _ rfl _ _ rfl hM ?_; intro b1 W' hb1 hM'; clear hM tk_b1; have hM := hM'; clear hM'))
    ((try simp only [Act.put, List.setIfInBounds_toArray, List.set_cons_succ, List.set_cons_zero]); refine wp_region_mem (by kernel_rfl) (by kernel_rfl) hM ?_; clear hM; (repeat (first | go_big_quiet_skip | (go_big_quiet_want; first | (refine quiet_get _ _ rfl _ _ rfl 0 rfl (rowTab _ 2 rfl) (by omega) ?_; (simp only [hs]); (simp only [Act.put, List.setIfInBounds_toArray, List.set_cons_succ, List.set_cons_zero]); go_big_quiet_on) | (refine quiet_call ?_; apply Exists.intro; apply Exists.intro; apply Exists.intro; refine ⟨fun W => ?_, fun W hM => ?_, ?_⟩; (go_simp; exact ⟨rfl, rfl⟩); (exact l01Is_any g hg bp x y hx hy W (hM.ats 1 _ _ _ rfl)); (simp only [Hi.out]); (simp only [Act.put, List.setIfInBounds_toArray, List.set_cons_succ, List.set_cons_zero]); go_big_quiet_on) | (refine quiet_val ?_; apply Exists.intro; refine ⟨fun W => ?_, ?_⟩; (go_simp; rfl); (simp only [Act.put, List.setIfInBounds_toArray, List.set_cons_succ, List.set_cons_zero]); go_big_quiet_on)))); (with_reducible refine wpQuiet_nil ?_); intro W' hM)
    go_wp2
    go_ret
    exact ⟨ret_bool hf.out.symm, hM.below⟩
  · have hb := isB_in h0 h1 hi
    have Hi := Lib.hid hi
    cases hj : isB g (bx x s) (by' y s)
    all_goals
      have hf : Hid (hurIs g x y s = isB g (bx x s) (by' y s)) := Lib.hid (by simp [hurIs, hi])
      have Hj := Lib.hid hj
      clear hj
      go_enter Try.func15, Try.ntmps15
      go_wp2_with (first | (have _t := tk_b1; refine wpList_box rfl _ _ rfl _ _ rfl hM ?_; intro b1 W' hb1 hM'; clear hM tk_b1; have hM := hM'; clear hM'))
      ((try simp only [Act.put, List.setIfInBounds_toArray, List.set_cons_succ, List.set_cons_zero]); refine wp_region_mem (by kernel_rfl) (by kernel_rfl) hM ?_; clear hM; (repeat (first | go_big_quiet_skip | (go_big_quiet_want; first | (refine quiet_get _ _ rfl _ _ rfl 0 rfl (rowTab _ 2 rfl) (by omega) ?_; (simp only [hs]); (simp only [Act.put, List.setIfInBounds_toArray, List.set_cons_succ, List.set_cons_zero]); go_big_quiet_on) | (refine quiet_get _ _ rfl _ _ rfl 0 rfl (rowTab _ _ rfl) (by omega) ?_; (simp only [Act.put, List.setIfInBounds_toArray, List.set_cons_succ, List.set_cons_zero]); go_big_quiet_on) | (refine quiet_call ?_; apply Exists.intro; apply Exists.intro; apply Exists.intro; refine ⟨fun W => ?_, fun W hM => ?_, ?_⟩; (go_simp; exact ⟨rfl, rfl⟩); (exact l03Side_any x y s W); (simp only [Act.put, List.setIfInBounds_toArray, List.set_cons_succ, List.set_cons_zero]); go_big_quiet_on) | (refine quiet_call ?_; apply Exists.intro; apply Exists.intro; apply Exists.intro; refine ⟨fun W => ?_, fun W hM => ?_, ?_⟩; (go_simp; exact ⟨rfl, rfl⟩); (exact next_side x y s hb.1 hb.2 W); (simp only [Act.put, List.setIfInBounds_toArray, List.set_cons_succ, List.set_cons_zero]); go_big_quiet_on) | (refine quiet_call ?_; apply Exists.intro; apply Exists.intro; apply Exists.intro; refine ⟨fun W => ?_, fun W hM => ?_, ?_⟩; (go_simp; exact ⟨rfl, rfl⟩); (with_reducible exact l01Is_any g hg bp x y hx hy W (hM.ats 1 _ _ _ rfl)); (simp only [Hi.out]); (simp only [Act.put, List.setIfInBounds_toArray, List.set_cons_succ, List.set_cons_zero]); go_big_quiet_on) | (refine quiet_call ?_; apply Exists.intro; apply Exists.intro; apply Exists.intro; refine ⟨fun W => ?_, fun W hM => ?_, ?_⟩; (go_simp; exact ⟨rfl, rfl⟩); (with_reducible exact l01Is_any g hg bp (bx x s) (by' y s) (b_in hb.1) (by_in hb.2) W (hM.ats 1 _ _ _ rfl)); (simp only [Hj.out]); (simp only [Act.put, List.setIfInBounds_toArray, List.set_cons_succ, List.set_cons_zero]); go_big_quiet_on) | (refine quiet_val ?_; apply Exists.intro; refine ⟨fun W => ?_, ?_⟩; (go_simp; rfl); (simp only [Act.put, List.setIfInBounds_toArray, List.set_cons_succ, List.set_cons_zero]); go_big_quiet_on)))); (with_reducible refine wpQuiet_nil ?_); intro W' hM)
      go_wp2
      go_ret
      exact ⟨ret_bool (by rw [hf.out, Hj.out]), hM.below⟩
end Go.Proofs.Ytnlejnhdedbbdaa
