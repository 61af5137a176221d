/-
  (impl.Pasture).withHurdle by contract.
-/
import Derived.Test.YtdlfhomnlhdacaaDoorFenced
import Derived.Test.YtdlfhomnlhdacaaDoorMix
namespace Go.Proofs.YtdlfhomnlhdacaaDoor
open Go Go.RowKit Go.BigFrame

/-- A row without bit c; a row with bit c as told. -/
def clrR (r : Int) (c : Nat) : Int := bits .andNot .u16 r (IntKind.u16.wrap (2 ^ c))
def putR (r : Int) (c : Nat) (on : Bool) : Int := if on then bits .or .u16 (clrR r c) (IntKind.u16.wrap (2 ^ c)) else clrR r c
theorem clrR_eq (r : Int) (c : Nat) : bits .andNot .u16 r (IntKind.u16.wrap (2 ^ c)) = clrR r c := rfl
theorem putR_on (r : Int) (c : Nat) : bits .or .u16 (clrR r c) (IntKind.u16.wrap (2 ^ c)) = putR r c true := rfl
theorem putR_off (r : Int) (c : Nat) : clrR r c = putR r c false := rfl
theorem lay_updB (f : Nat → Value) (g : Nat → Int) (i : Nat) (n : Int) (h : 102 ≤ i) : ∀ k, k < 122 → lay f 0 122 (fun j => upd (pas g) i (.int .u16 n) (0 + j)) k = pas (setG g i n) k := fun k hk => by
  simp only [lay, hk, Nat.zero_le, Nat.zero_add, and_self, if_true, Nat.sub_zero]
  unfold upd pas setG
  by_cases e : k = i
  · subst e; simp [kd_u16 h]
  · simp [e]
theorem lay_updB2 (f : Nat → Value) (g : Nat → Int) (i : Nat) (n : Int) (v : Value) (h : 102 ≤ i) : ∀ k, k < 122 → lay f 0 122 (fun j => upd (upd (pas g) i v) i (.int .u16 n) (0 + j)) k = pas (setG g i n) k := fun k hk => by
  simp only [lay, hk, Nat.zero_le, Nat.zero_add, and_self, if_true, Nat.sub_zero]
  unfold upd pas setG
  by_cases e : k = i
  · subst e; simp [kd_u16 h]
  · simp [e]
theorem upd_upd (f : Nat → Value) (i : Nat) (a b : Value) : upd (upd f i a) i b = upd f i b := by
  funext k; unfold upd; by_cases e : k = i <;> simp [e]
theorem upd_at (f : Nat → Value) (i : Nat) (a : Value) : upd f i a i = a := by simp [upd]
set_option maxRecDepth 100000 in
set_option maxHeartbeats 1000000 in
theorem withHurdle_0on (g : Nat → Int) (x y : Nat) (hx : x ≤ 9) (hy : y ≤ 8) (w : World) :
    Calls Tryd.prog 70 #[.agg (arr 122 (pas g)), .agg (arr 2 (sp (x) (y + 1))), .int .i64 0, .bool true] w fun e w' => e = .returned (.agg (arr 122 (pas (setG g (112 + y) (putR (g (112 + y)) x true))))) ∧ Below w.heap.size w w' := by
  have hM := Mem.nil w
  have hk := fun W => keptAt_0 (x) (y + 1) (by omega) (by omega) W
  simp only [show (y : Int) + 1 - 1 = y by omega] at hk
  have Hk := Lib.hid hk
  have e0 : pas g (112 + y) = .int .u16 (g (112 + y)) := pas_u16 g (by omega)
  have lx : (x : Int) < 10 := by omega
  have ly : (y : Int) < 10 := by omega
  have mx : min x 16 = x := by omega
  have q1 := clrR_eq (g (112 + y)) x
  clear hk
  have tk_b1 : True := trivial; have tk_b2 : True := trivial; have tk_b3 : True := trivial; have tk_b4 : True := trivial
  go_enter Tryd.func70, Tryd.ntmps70
  go_wp2_with (first | (have _t := tk_b1; refine wpList_box rfl _ _ rfl _ _ rfl hM ?_; intro b1 W' hb1 hM'; clear hM tk_b1; have hM := hM'; clear hM') | (have _t := tk_b2; refine wpList_box rfl _ _ rfl _ _ rfl hM ?_; intro b2 W' hb2 hM'; clear hM tk_b2; have hM := hM'; clear hM') | (have _t := tk_b3; refine wpList_zero rfl _ rfl (zeroTab _ _ _ rfl) hM ?_; intro b3 W' hb3 hM'; clear hM tk_b3; have hM := hM'; clear hM') | (have _t := tk_b4; refine wpList_zero rfl _ rfl (zeroTab _ _ _ rfl) hM ?_; intro b4 W' hb4 hM'; clear hM tk_b4; have hM := hM'; clear hM') | (refine wpList_get rfl _ _ rfl _ _ rfl hM 1 rfl (rowTab _ _ rfl) (by omega) ?_) | (refine wpList_lay rfl _ _ _ rfl _ _ rfl _ _ rfl hM 0 rfl (by assumption) (rowTab _ _ rfl) (by omega) ?_ ?_; (first | (intro _ _; rfl) | (intro k _; exact h1 _) | (intro k _; simp only [lay, upd]; (repeat' split) <;> first | exact h1 _ | rfl)); intro W' hM'; clear hM; have hM := hM'; clear hM'; simp only [List.set] at hM) | (go_at_call 95; refine (Hk.out _).mono ?_; rintro e W' ⟨rfl, hb'⟩; have hM' := hM.call hb'; clear hM hb'; have hM := hM'; clear hM'))
  ((try simp only [Act.put, List.setIfInBounds_toArray, List.set_cons_succ, List.set_cons_zero]); refine region_tail_mem (m := 12) (by kernel_rfl) (by kernel_rfl) ?_; (have hM' := hM.drew); clear hM; have hM := hM'; clear hM'; simp only [List.take_succ_cons, List.take_zero, List.drop_succ_cons, List.drop_zero]; (repeat (refine wps_plain rfl ?_; (first | (refine still_get1 hM _ _ rfl _ _ rfl 0 rfl (cellTab _ rfl) (by omega) (.int .i8 (y : Int)) rfl ?_) | (refine still_get1 hM _ _ rfl _ _ rfl 0 rfl (cellTab _ rfl) (by omega) (.int .i8 (x : Int)) rfl ?_) | (refine still_get1 hM _ _ rfl _ _ rfl 3 rfl (cellTab _ rfl) (by omega) _ (e0) ?_) | (refine still_val ?_; apply Exists.intro; refine ⟨fun W => ?_, ?_⟩; (go_simp; (try simp only [lx, ly, q1, if_true]); rfl))); (simp only [Act.put, List.setIfInBounds_toArray, List.set_cons_succ, List.set_cons_zero]))); unfold wpStill)
  go_wp2_with (first | (refine wpList_set1 rfl _ _ _ rfl _ _ rfl _ rfl ?_ hM 3 rfl (by assumption) (cellTab _ rfl) (by omega) ?_; (first | rfl | exact h1 _); intro W' hM'; clear hM; have hM := hM'; clear hM'; simp [List.set, Act.eval] at hM))
  have e1 := upd_at (pas g) (112 + y) (.int .u16 (clrR (g (112 + y)) x))
  have q2 := putR_on (g (112 + y)) x
  ((try simp only [Act.put, List.setIfInBounds_toArray, List.set_cons_succ, List.set_cons_zero]); refine region_tail_mem (m := 12) (by kernel_rfl) (by kernel_rfl) ?_; (have hM' := hM.drew); clear hM; have hM := hM'; clear hM'; simp only [List.take_succ_cons, List.take_zero, List.drop_succ_cons, List.drop_zero]; (repeat (refine wps_plain rfl ?_; (first | (refine still_get1 hM _ _ rfl _ _ rfl 0 rfl (cellTab _ rfl) (by omega) (.int .i8 (y : Int)) rfl ?_) | (refine still_get1 hM _ _ rfl _ _ rfl 0 rfl (cellTab _ rfl) (by omega) (.int .i8 (x : Int)) rfl ?_) | (refine still_get1 hM _ _ rfl _ _ rfl 3 rfl (cellTab _ rfl) (by omega) _ (e1) ?_) | (refine still_val ?_; apply Exists.intro; refine ⟨fun W => ?_, ?_⟩; (go_simp; (try simp only [lx, ly, q2, if_true]); rfl))); (simp only [Act.put, List.setIfInBounds_toArray, List.set_cons_succ, List.set_cons_zero]))); unfold wpStill)
  clear e1
  go_wp2_with (first | (refine wpList_set1 rfl _ _ _ rfl _ _ rfl _ rfl ?_ hM 3 rfl (by assumption) (cellTab _ rfl) (by omega) ?_; (first | rfl | exact h1 _); intro W' hM'; clear hM; have hM := hM'; clear hM'; simp [List.set, Act.eval] at hM) | (refine wpList_get rfl _ _ rfl _ _ rfl hM 3 rfl (rowTab _ _ rfl) (by omega) ?_) | (refine wpList_lay rfl _ _ _ rfl _ _ rfl _ _ rfl hM 1 rfl (by assumption) (rowTab _ _ rfl) (by omega) ?_ ?_; (first | (intro _ _; rfl) | (intro k _; exact h1 _) | (intro k _; simp only [lay, upd]; (repeat' split) <;> first | exact h1 _ | rfl)); intro W' hM'; clear hM; have hM := hM'; clear hM'; simp only [List.set] at hM))
  exact bodyPost_ret (results_at rfl _ rfl ((hM.ats 1 _ _ _ rfl).congr (lay_updB2 _ _ _ _ _ (by omega))) (rowTab _ _ rfl)) rfl ⟨rfl, hM.below⟩
set_option maxRecDepth 100000 in
set_option maxHeartbeats 1000000 in
theorem withHurdle_0off (g : Nat → Int) (x y : Nat) (hx : x ≤ 9) (hy : y ≤ 8) (w : World) :
    Calls Tryd.prog 70 #[.agg (arr 122 (pas g)), .agg (arr 2 (sp (x) (y + 1))), .int .i64 0, .bool false] w fun e w' => e = .returned (.agg (arr 122 (pas (setG g (112 + y) (putR (g (112 + y)) x false))))) ∧ Below w.heap.size w w' := by
  have hM := Mem.nil w
  have hk := fun W => keptAt_0 (x) (y + 1) (by omega) (by omega) W
  simp only [show (y : Int) + 1 - 1 = y by omega] at hk
  have Hk := Lib.hid hk
  have e0 : pas g (112 + y) = .int .u16 (g (112 + y)) := pas_u16 g (by omega)
  have lx : (x : Int) < 10 := by omega
  have ly : (y : Int) < 10 := by omega
  have mx : min x 16 = x := by omega
  have q1 := clrR_eq (g (112 + y)) x
  clear hk
  have tk_b1 : True := trivial; have tk_b2 : True := trivial; have tk_b3 : True := trivial; have tk_b4 : True := trivial
  go_enter Tryd.func70, Tryd.ntmps70
  go_wp2_with (first | (have _t := tk_b1; refine wpList_box rfl _ _ rfl _ _ rfl hM ?_; intro b1 W' hb1 hM'; clear hM tk_b1; have hM := hM'; clear hM') | (have _t := tk_b2; refine wpList_box rfl _ _ rfl _ _ rfl hM ?_; intro b2 W' hb2 hM'; clear hM tk_b2; have hM := hM'; clear hM') | (have _t := tk_b3; refine wpList_zero rfl _ rfl (zeroTab _ _ _ rfl) hM ?_; intro b3 W' hb3 hM'; clear hM tk_b3; have hM := hM'; clear hM') | (have _t := tk_b4; refine wpList_zero rfl _ rfl (zeroTab _ _ _ rfl) hM ?_; intro b4 W' hb4 hM'; clear hM tk_b4; have hM := hM'; clear hM') | (refine wpList_get rfl _ _ rfl _ _ rfl hM 1 rfl (rowTab _ _ rfl) (by omega) ?_) | (refine wpList_lay rfl _ _ _ rfl _ _ rfl _ _ rfl hM 0 rfl (by assumption) (rowTab _ _ rfl) (by omega) ?_ ?_; (first | (intro _ _; rfl) | (intro k _; exact h1 _) | (intro k _; simp only [lay, upd]; (repeat' split) <;> first | exact h1 _ | rfl)); intro W' hM'; clear hM; have hM := hM'; clear hM'; simp only [List.set] at hM) | (go_at_call 95; refine (Hk.out _).mono ?_; rintro e W' ⟨rfl, hb'⟩; have hM' := hM.call hb'; clear hM hb'; have hM := hM'; clear hM'))
  ((try simp only [Act.put, List.setIfInBounds_toArray, List.set_cons_succ, List.set_cons_zero]); refine region_tail_mem (m := 12) (by kernel_rfl) (by kernel_rfl) ?_; (have hM' := hM.drew); clear hM; have hM := hM'; clear hM'; simp only [List.take_succ_cons, List.take_zero, List.drop_succ_cons, List.drop_zero]; (repeat (refine wps_plain rfl ?_; (first | (refine still_get1 hM _ _ rfl _ _ rfl 0 rfl (cellTab _ rfl) (by omega) (.int .i8 (y : Int)) rfl ?_) | (refine still_get1 hM _ _ rfl _ _ rfl 0 rfl (cellTab _ rfl) (by omega) (.int .i8 (x : Int)) rfl ?_) | (refine still_get1 hM _ _ rfl _ _ rfl 3 rfl (cellTab _ rfl) (by omega) _ (e0) ?_) | (refine still_val ?_; apply Exists.intro; refine ⟨fun W => ?_, ?_⟩; (go_simp; (try simp only [lx, ly, q1, if_true]); rfl))); (simp only [Act.put, List.setIfInBounds_toArray, List.set_cons_succ, List.set_cons_zero]))); unfold wpStill)
  go_wp2_with (first | (refine wpList_set1 rfl _ _ _ rfl _ _ rfl _ rfl ?_ hM 3 rfl (by assumption) (cellTab _ rfl) (by omega) ?_; (first | rfl | exact h1 _); intro W' hM'; clear hM; have hM := hM'; clear hM'; simp [List.set, Act.eval] at hM) | (refine wpList_get rfl _ _ rfl _ _ rfl hM 3 rfl (rowTab _ _ rfl) (by omega) ?_) | (refine wpList_lay rfl _ _ _ rfl _ _ rfl _ _ rfl hM 1 rfl (by assumption) (rowTab _ _ rfl) (by omega) ?_ ?_; (first | (intro _ _; rfl) | (intro k _; exact h1 _) | (intro k _; simp only [lay, upd]; (repeat' split) <;> first | exact h1 _ | rfl)); intro W' hM'; clear hM; have hM := hM'; clear hM'; simp only [List.set] at hM))
  exact bodyPost_ret (results_at rfl _ rfl ((hM.ats 1 _ _ _ rfl).congr (lay_updB _ _ _ _ (by omega))) (rowTab _ _ rfl)) rfl ⟨rfl, hM.below⟩
set_option maxRecDepth 100000 in
set_option maxHeartbeats 1000000 in
theorem withHurdle_1on (g : Nat → Int) (x y : Nat) (hx : x ≤ 9) (hy : y ≤ 9) (w : World) :
    Calls Tryd.prog 70 #[.agg (arr 122 (pas g)), .agg (arr 2 (sp (x) (y))), .int .i64 1, .bool true] w fun e w' => e = .returned (.agg (arr 122 (pas (setG g (102 + y) (putR (g (102 + y)) x true))))) ∧ Below w.heap.size w w' := by
  have hM := Mem.nil w
  have hk := fun W => keptAt_1 (x) (y) (by omega) (by omega) W
  skip
  have Hk := Lib.hid hk
  have e0 : pas g (102 + y) = .int .u16 (g (102 + y)) := pas_u16 g (by omega)
  have lx : (x : Int) < 10 := by omega
  have ly : (y : Int) < 10 := by omega
  have mx : min x 16 = x := by omega
  have q1 := clrR_eq (g (102 + y)) x
  clear hk
  have tk_b1 : True := trivial; have tk_b2 : True := trivial; have tk_b3 : True := trivial; have tk_b4 : True := trivial
  go_enter Tryd.func70, Tryd.ntmps70
  go_wp2_with (first | (have _t := tk_b1; refine wpList_box rfl _ _ rfl _ _ rfl hM ?_; intro b1 W' hb1 hM'; clear hM tk_b1; have hM := hM'; clear hM') | (have _t := tk_b2; refine wpList_box rfl _ _ rfl _ _ rfl hM ?_; intro b2 W' hb2 hM'; clear hM tk_b2; have hM := hM'; clear hM') | (have _t := tk_b3; refine wpList_zero rfl _ rfl (zeroTab _ _ _ rfl) hM ?_; intro b3 W' hb3 hM'; clear hM tk_b3; have hM := hM'; clear hM') | (have _t := tk_b4; refine wpList_zero rfl _ rfl (zeroTab _ _ _ rfl) hM ?_; intro b4 W' hb4 hM'; clear hM tk_b4; have hM := hM'; clear hM') | (refine wpList_get rfl _ _ rfl _ _ rfl hM 1 rfl (rowTab _ _ rfl) (by omega) ?_) | (refine wpList_lay rfl _ _ _ rfl _ _ rfl _ _ rfl hM 0 rfl (by assumption) (rowTab _ _ rfl) (by omega) ?_ ?_; (first | (intro _ _; rfl) | (intro k _; exact h1 _) | (intro k _; simp only [lay, upd]; (repeat' split) <;> first | exact h1 _ | rfl)); intro W' hM'; clear hM; have hM := hM'; clear hM'; simp only [List.set] at hM) | (go_at_call 95; refine (Hk.out _).mono ?_; rintro e W' ⟨rfl, hb'⟩; have hM' := hM.call hb'; clear hM hb'; have hM := hM'; clear hM'))
  ((try simp only [Act.put, List.setIfInBounds_toArray, List.set_cons_succ, List.set_cons_zero]); refine region_tail_mem (m := 12) (by kernel_rfl) (by kernel_rfl) ?_; (have hM' := hM.drew); clear hM; have hM := hM'; clear hM'; simp only [List.take_succ_cons, List.take_zero, List.drop_succ_cons, List.drop_zero]; (repeat (refine wps_plain rfl ?_; (first | (refine still_get1 hM _ _ rfl _ _ rfl 0 rfl (cellTab _ rfl) (by omega) (.int .i8 (y : Int)) rfl ?_) | (refine still_get1 hM _ _ rfl _ _ rfl 0 rfl (cellTab _ rfl) (by omega) (.int .i8 (x : Int)) rfl ?_) | (refine still_get1 hM _ _ rfl _ _ rfl 3 rfl (cellTab _ rfl) (by omega) _ (e0) ?_) | (refine still_val ?_; apply Exists.intro; refine ⟨fun W => ?_, ?_⟩; (go_simp; (try simp only [lx, ly, q1, if_true]); rfl))); (simp only [Act.put, List.setIfInBounds_toArray, List.set_cons_succ, List.set_cons_zero]))); unfold wpStill)
  go_wp2_with (first | (refine wpList_set1 rfl _ _ _ rfl _ _ rfl _ rfl ?_ hM 3 rfl (by assumption) (cellTab _ rfl) (by omega) ?_; (first | rfl | exact h1 _); intro W' hM'; clear hM; have hM := hM'; clear hM'; simp [List.set, Act.eval] at hM))
  have e1 := upd_at (pas g) (102 + y) (.int .u16 (clrR (g (102 + y)) x))
  have q2 := putR_on (g (102 + y)) x
  ((try simp only [Act.put, List.setIfInBounds_toArray, List.set_cons_succ, List.set_cons_zero]); refine region_tail_mem (m := 12) (by kernel_rfl) (by kernel_rfl) ?_; (have hM' := hM.drew); clear hM; have hM := hM'; clear hM'; simp only [List.take_succ_cons, List.take_zero, List.drop_succ_cons, List.drop_zero]; (repeat (refine wps_plain rfl ?_; (first | (refine still_get1 hM _ _ rfl _ _ rfl 0 rfl (cellTab _ rfl) (by omega) (.int .i8 (y : Int)) rfl ?_) | (refine still_get1 hM _ _ rfl _ _ rfl 0 rfl (cellTab _ rfl) (by omega) (.int .i8 (x : Int)) rfl ?_) | (refine still_get1 hM _ _ rfl _ _ rfl 3 rfl (cellTab _ rfl) (by omega) _ (e1) ?_) | (refine still_val ?_; apply Exists.intro; refine ⟨fun W => ?_, ?_⟩; (go_simp; (try simp only [lx, ly, q2, if_true]); rfl))); (simp only [Act.put, List.setIfInBounds_toArray, List.set_cons_succ, List.set_cons_zero]))); unfold wpStill)
  clear e1
  go_wp2_with (first | (refine wpList_set1 rfl _ _ _ rfl _ _ rfl _ rfl ?_ hM 3 rfl (by assumption) (cellTab _ rfl) (by omega) ?_; (first | rfl | exact h1 _); intro W' hM'; clear hM; have hM := hM'; clear hM'; simp [List.set, Act.eval] at hM) | (refine wpList_get rfl _ _ rfl _ _ rfl hM 3 rfl (rowTab _ _ rfl) (by omega) ?_) | (refine wpList_lay rfl _ _ _ rfl _ _ rfl _ _ rfl hM 1 rfl (by assumption) (rowTab _ _ rfl) (by omega) ?_ ?_; (first | (intro _ _; rfl) | (intro k _; exact h1 _) | (intro k _; simp only [lay, upd]; (repeat' split) <;> first | exact h1 _ | rfl)); intro W' hM'; clear hM; have hM := hM'; clear hM'; simp only [List.set] at hM))
  exact bodyPost_ret (results_at rfl _ rfl ((hM.ats 1 _ _ _ rfl).congr (lay_updB2 _ _ _ _ _ (by omega))) (rowTab _ _ rfl)) rfl ⟨rfl, hM.below⟩
set_option maxRecDepth 100000 in
set_option maxHeartbeats 1000000 in
theorem withHurdle_1off (g : Nat → Int) (x y : Nat) (hx : x ≤ 9) (hy : y ≤ 9) (w : World) :
    Calls Tryd.prog 70 #[.agg (arr 122 (pas g)), .agg (arr 2 (sp (x) (y))), .int .i64 1, .bool false] w fun e w' => e = .returned (.agg (arr 122 (pas (setG g (102 + y) (putR (g (102 + y)) x false))))) ∧ Below w.heap.size w w' := by
  have hM := Mem.nil w
  have hk := fun W => keptAt_1 (x) (y) (by omega) (by omega) W
  skip
  have Hk := Lib.hid hk
  have e0 : pas g (102 + y) = .int .u16 (g (102 + y)) := pas_u16 g (by omega)
  have lx : (x : Int) < 10 := by omega
  have ly : (y : Int) < 10 := by omega
  have mx : min x 16 = x := by omega
  have q1 := clrR_eq (g (102 + y)) x
  clear hk
  have tk_b1 : True := trivial; have tk_b2 : True := trivial; have tk_b3 : True := trivial; have tk_b4 : True := trivial
  go_enter Tryd.func70, Tryd.ntmps70
  go_wp2_with (first | (have _t := tk_b1; refine wpList_box rfl _ _ rfl _ _ rfl hM ?_; intro b1 W' hb1 hM'; clear hM tk_b1; have hM := hM'; clear hM') | (have _t := tk_b2; refine wpList_box rfl _ _ rfl _ _ rfl hM ?_; intro b2 W' hb2 hM'; clear hM tk_b2; have hM := hM'; clear hM') | (have _t := tk_b3; refine wpList_zero rfl _ rfl (zeroTab _ _ _ rfl) hM ?_; intro b3 W' hb3 hM'; clear hM tk_b3; have hM := hM'; clear hM') | (have _t := tk_b4; refine wpList_zero rfl _ rfl (zeroTab _ _ _ rfl) hM ?_; intro b4 W' hb4 hM'; clear hM tk_b4; have hM := hM'; clear hM') | (refine wpList_get rfl _ _ rfl _ _ rfl hM 1 rfl (rowTab _ _ rfl) (by omega) ?_) | (refine wpList_lay rfl _ _ _ rfl _ _ rfl _ _ rfl hM 0 rfl (by assumption) (rowTab _ _ rfl) (by omega) ?_ ?_; (first | (intro _ _; rfl) | (intro k _; exact h1 _) | (intro k _; simp only [lay, upd]; (repeat' split) <;> first | exact h1 _ | rfl)); intro W' hM'; clear hM; have hM := hM'; clear hM'; simp only [List.set] at hM) | (go_at_call 95; refine (Hk.out _).mono ?_; rintro e W' ⟨rfl, hb'⟩; have hM' := hM.call hb'; clear hM hb'; have hM := hM'; clear hM'))
  ((try simp only [Act.put, List.setIfInBounds_toArray, List.set_cons_succ, List.set_cons_zero]); refine region_tail_mem (m := 12) (by kernel_rfl) (by kernel_rfl) ?_; (have hM' := hM.drew); clear hM; have hM := hM'; clear hM'; simp only [List.take_succ_cons, List.take_zero, List.drop_succ_cons, List.drop_zero]; (repeat (refine wps_plain rfl ?_; (first | (refine still_get1 hM _ _ rfl _ _ rfl 0 rfl (cellTab _ rfl) (by omega) (.int .i8 (y : Int)) rfl ?_) | (refine still_get1 hM _ _ rfl _ _ rfl 0 rfl (cellTab _ rfl) (by omega) (.int .i8 (x : Int)) rfl ?_) | (refine still_get1 hM _ _ rfl _ _ rfl 3 rfl (cellTab _ rfl) (by omega) _ (e0) ?_) | (refine still_val ?_; apply Exists.intro; refine ⟨fun W => ?_, ?_⟩; (go_simp; (try simp only [lx, ly, q1, if_true]); rfl))); (simp only [Act.put, List.setIfInBounds_toArray, List.set_cons_succ, List.set_cons_zero]))); unfold wpStill)
  go_wp2_with (first | (refine wpList_set1 rfl _ _ _ rfl _ _ rfl _ rfl ?_ hM 3 rfl (by assumption) (cellTab _ rfl) (by omega) ?_; (first | rfl | exact h1 _); intro W' hM'; clear hM; have hM := hM'; clear hM'; simp [List.set, Act.eval] at hM) | (refine wpList_get rfl _ _ rfl _ _ rfl hM 3 rfl (rowTab _ _ rfl) (by omega) ?_) | (refine wpList_lay rfl _ _ _ rfl _ _ rfl _ _ rfl hM 1 rfl (by assumption) (rowTab _ _ rfl) (by omega) ?_ ?_; (first | (intro _ _; rfl) | (intro k _; exact h1 _) | (intro k _; simp only [lay, upd]; (repeat' split) <;> first | exact h1 _ | rfl)); intro W' hM'; clear hM; have hM := hM'; clear hM'; simp only [List.set] at hM))
  exact bodyPost_ret (results_at rfl _ rfl ((hM.ats 1 _ _ _ rfl).congr (lay_updB _ _ _ _ (by omega))) (rowTab _ _ rfl)) rfl ⟨rfl, hM.below⟩
set_option maxRecDepth 100000 in
set_option maxHeartbeats 1000000 in
theorem withHurdle_2on (g : Nat → Int) (x y : Nat) (hx : x ≤ 9) (hy : y ≤ 9) (w : World) :
    Calls Tryd.prog 70 #[.agg (arr 122 (pas g)), .agg (arr 2 (sp (x) (y))), .int .i64 2, .bool true] w fun e w' => e = .returned (.agg (arr 122 (pas (setG g (112 + y) (putR (g (112 + y)) x true))))) ∧ Below w.heap.size w w' := by
  have hM := Mem.nil w
  have hk := fun W => keptAt_2 (x) (y) (by omega) (by omega) W
  skip
  have Hk := Lib.hid hk
  have e0 : pas g (112 + y) = .int .u16 (g (112 + y)) := pas_u16 g (by omega)
  have lx : (x : Int) < 10 := by omega
  have ly : (y : Int) < 10 := by omega
  have mx : min x 16 = x := by omega
  have q1 := clrR_eq (g (112 + y)) x
  clear hk
  have tk_b1 : True := trivial; have tk_b2 : True := trivial; have tk_b3 : True := trivial; have tk_b4 : True := trivial
  go_enter Tryd.func70, Tryd.ntmps70
  go_wp2_with (first | (have _t := tk_b1; refine wpList_box rfl _ _ rfl _ _ rfl hM ?_; intro b1 W' hb1 hM'; clear hM tk_b1; have hM := hM'; clear hM') | (have _t := tk_b2; refine wpList_box rfl _ _ rfl _ _ rfl hM ?_; intro b2 W' hb2 hM'; clear hM tk_b2; have hM := hM'; clear hM') | (have _t := tk_b3; refine wpList_zero rfl _ rfl (zeroTab _ _ _ rfl) hM ?_; intro b3 W' hb3 hM'; clear hM tk_b3; have hM := hM'; clear hM') | (have _t := tk_b4; refine wpList_zero rfl _ rfl (zeroTab _ _ _ rfl) hM ?_; intro b4 W' hb4 hM'; clear hM tk_b4; have hM := hM'; clear hM') | (refine wpList_get rfl _ _ rfl _ _ rfl hM 1 rfl (rowTab _ _ rfl) (by omega) ?_) | (refine wpList_lay rfl _ _ _ rfl _ _ rfl _ _ rfl hM 0 rfl (by assumption) (rowTab _ _ rfl) (by omega) ?_ ?_; (first | (intro _ _; rfl) | (intro k _; exact h1 _) | (intro k _; simp only [lay, upd]; (repeat' split) <;> first | exact h1 _ | rfl)); intro W' hM'; clear hM; have hM := hM'; clear hM'; simp only [List.set] at hM) | (go_at_call 95; refine (Hk.out _).mono ?_; rintro e W' ⟨rfl, hb'⟩; have hM' := hM.call hb'; clear hM hb'; have hM := hM'; clear hM'))
  ((try simp only [Act.put, List.setIfInBounds_toArray, List.set_cons_succ, List.set_cons_zero]); refine region_tail_mem (m := 12) (by kernel_rfl) (by kernel_rfl) ?_; (have hM' := hM.drew); clear hM; have hM := hM'; clear hM'; simp only [List.take_succ_cons, List.take_zero, List.drop_succ_cons, List.drop_zero]; (repeat (refine wps_plain rfl ?_; (first | (refine still_get1 hM _ _ rfl _ _ rfl 0 rfl (cellTab _ rfl) (by omega) (.int .i8 (y : Int)) rfl ?_) | (refine still_get1 hM _ _ rfl _ _ rfl 0 rfl (cellTab _ rfl) (by omega) (.int .i8 (x : Int)) rfl ?_) | (refine still_get1 hM _ _ rfl _ _ rfl 3 rfl (cellTab _ rfl) (by omega) _ (e0) ?_) | (refine still_val ?_; apply Exists.intro; refine ⟨fun W => ?_, ?_⟩; (go_simp; (try simp only [lx, ly, q1, if_true]); rfl))); (simp only [Act.put, List.setIfInBounds_toArray, List.set_cons_succ, List.set_cons_zero]))); unfold wpStill)
  go_wp2_with (first | (refine wpList_set1 rfl _ _ _ rfl _ _ rfl _ rfl ?_ hM 3 rfl (by assumption) (cellTab _ rfl) (by omega) ?_; (first | rfl | exact h1 _); intro W' hM'; clear hM; have hM := hM'; clear hM'; simp [List.set, Act.eval] at hM))
  have e1 := upd_at (pas g) (112 + y) (.int .u16 (clrR (g (112 + y)) x))
  have q2 := putR_on (g (112 + y)) x
  ((try simp only [Act.put, List.setIfInBounds_toArray, List.set_cons_succ, List.set_cons_zero]); refine region_tail_mem (m := 12) (by kernel_rfl) (by kernel_rfl) ?_; (have hM' := hM.drew); clear hM; have hM := hM'; clear hM'; simp only [List.take_succ_cons, List.take_zero, List.drop_succ_cons, List.drop_zero]; (repeat (refine wps_plain rfl ?_; (first | (refine still_get1 hM _ _ rfl _ _ rfl 0 rfl (cellTab _ rfl) (by omega) (.int .i8 (y : Int)) rfl ?_) | (refine still_get1 hM _ _ rfl _ _ rfl 0 rfl (cellTab _ rfl) (by omega) (.int .i8 (x : Int)) rfl ?_) | (refine still_get1 hM _ _ rfl _ _ rfl 3 rfl (cellTab _ rfl) (by omega) _ (e1) ?_) | (refine still_val ?_; apply Exists.intro; refine ⟨fun W => ?_, ?_⟩; (go_simp; (try simp only [lx, ly, q2, if_true]); rfl))); (simp only [Act.put, List.setIfInBounds_toArray, List.set_cons_succ, List.set_cons_zero]))); unfold wpStill)
  clear e1
  go_wp2_with (first | (refine wpList_set1 rfl _ _ _ rfl _ _ rfl _ rfl ?_ hM 3 rfl (by assumption) (cellTab _ rfl) (by omega) ?_; (first | rfl | exact h1 _); intro W' hM'; clear hM; have hM := hM'; clear hM'; simp [List.set, Act.eval] at hM) | (refine wpList_get rfl _ _ rfl _ _ rfl hM 3 rfl (rowTab _ _ rfl) (by omega) ?_) | (refine wpList_lay rfl _ _ _ rfl _ _ rfl _ _ rfl hM 1 rfl (by assumption) (rowTab _ _ rfl) (by omega) ?_ ?_; (first | (intro _ _; rfl) | (intro k _; exact h1 _) | (intro k _; simp only [lay, upd]; (repeat' split) <;> first | exact h1 _ | rfl)); intro W' hM'; clear hM; have hM := hM'; clear hM'; simp only [List.set] at hM))
  exact bodyPost_ret (results_at rfl _ rfl ((hM.ats 1 _ _ _ rfl).congr (lay_updB2 _ _ _ _ _ (by omega))) (rowTab _ _ rfl)) rfl ⟨rfl, hM.below⟩
set_option maxRecDepth 100000 in
set_option maxHeartbeats 1000000 in
theorem withHurdle_2off (g : Nat → Int) (x y : Nat) (hx : x ≤ 9) (hy : y ≤ 9) (w : World) :
    Calls Tryd.prog 70 #[.agg (arr 122 (pas g)), .agg (arr 2 (sp (x) (y))), .int .i64 2, .bool false] w fun e w' => e = .returned (.agg (arr 122 (pas (setG g (112 + y) (putR (g (112 + y)) x false))))) ∧ Below w.heap.size w w' := by
  have hM := Mem.nil w
  have hk := fun W => keptAt_2 (x) (y) (by omega) (by omega) W
  skip
  have Hk := Lib.hid hk
  have e0 : pas g (112 + y) = .int .u16 (g (112 + y)) := pas_u16 g (by omega)
  have lx : (x : Int) < 10 := by omega
  have ly : (y : Int) < 10 := by omega
  have mx : min x 16 = x := by omega
  have q1 := clrR_eq (g (112 + y)) x
  clear hk
  have tk_b1 : True := trivial; have tk_b2 : True := trivial; have tk_b3 : True := trivial; have tk_b4 : True := trivial
  go_enter Tryd.func70, Tryd.ntmps70
  go_wp2_with (first | (have _t := tk_b1; refine wpList_box rfl _ _ rfl _ _ rfl hM ?_; intro b1 W' hb1 hM'; clear hM tk_b1; have hM := hM'; clear hM') | (have _t := tk_b2; refine wpList_box rfl _ _ rfl _ _ rfl hM ?_; intro b2 W' hb2 hM'; clear hM tk_b2; have hM := hM'; clear hM') | (have _t := tk_b3; refine wpList_zero rfl _ rfl (zeroTab _ _ _ rfl) hM ?_; intro b3 W' hb3 hM'; clear hM tk_b3; have hM := hM'; clear hM') | (have _t := tk_b4; refine wpList_zero rfl _ rfl (zeroTab _ _ _ rfl) hM ?_; intro b4 W' hb4 hM'; clear hM tk_b4; have hM := hM'; clear hM') | (refine wpList_get rfl _ _ rfl _ _ rfl hM 1 rfl (rowTab _ _ rfl) (by omega) ?_) | (refine wpList_lay rfl _ _ _ rfl _ _ rfl _ _ rfl hM 0 rfl (by assumption) (rowTab _ _ rfl) (by omega) ?_ ?_; (first | (intro _ _; rfl) | (intro k _; exact h1 _) | (intro k _; simp only [lay, upd]; (repeat' split) <;> first | exact h1 _ | rfl)); intro W' hM'; clear hM; have hM := hM'; clear hM'; simp only [List.set] at hM) | (go_at_call 95; refine (Hk.out _).mono ?_; rintro e W' ⟨rfl, hb'⟩; have hM' := hM.call hb'; clear hM hb'; have hM := hM'; clear hM'))
  ((try simp only [Act.put, List.setIfInBounds_toArray, List.set_cons_succ, List.set_cons_zero]); refine region_tail_mem (m := 12) (by kernel_rfl) (by kernel_rfl) ?_; (have hM' := hM.drew); clear hM; have hM := hM'; clear hM'; simp only [List.take_succ_cons, List.take_zero, List.drop_succ_cons, List.drop_zero]; (repeat (refine wps_plain rfl ?_; (first | (refine still_get1 hM _ _ rfl _ _ rfl 0 rfl (cellTab _ rfl) (by omega) (.int .i8 (y : Int)) rfl ?_) | (refine still_get1 hM _ _ rfl _ _ rfl 0 rfl (cellTab _ rfl) (by omega) (.int .i8 (x : Int)) rfl ?_) | (refine still_get1 hM _ _ rfl _ _ rfl 3 rfl (cellTab _ rfl) (by omega) _ (e0) ?_) | (refine still_val ?_; apply Exists.intro; refine ⟨fun W => ?_, ?_⟩; (go_simp; (try simp only [lx, ly, q1, if_true]); rfl))); (simp only [Act.put, List.setIfInBounds_toArray, List.set_cons_succ, List.set_cons_zero]))); unfold wpStill)
  go_wp2_with (first | (refine wpList_set1 rfl _ _ _ rfl _ _ rfl _ rfl ?_ hM 3 rfl (by assumption) (cellTab _ rfl) (by omega) ?_; (first | rfl | exact h1 _); intro W' hM'; clear hM; have hM := hM'; clear hM'; simp [List.set, Act.eval] at hM) | (refine wpList_get rfl _ _ rfl _ _ rfl hM 3 rfl (rowTab _ _ rfl) (by omega) ?_) | (refine wpList_lay rfl _ _ _ rfl _ _ rfl _ _ rfl hM 1 rfl (by assumption) (rowTab _ _ rfl) (by omega) ?_ ?_; (first | (intro _ _; rfl) | (intro k _; exact h1 _) | (intro k _; simp only [lay, upd]; (repeat' split) <;> first | exact h1 _ | rfl)); intro W' hM'; clear hM; have hM := hM'; clear hM'; simp only [List.set] at hM))
  exact bodyPost_ret (results_at rfl _ rfl ((hM.ats 1 _ _ _ rfl).congr (lay_updB _ _ _ _ (by omega))) (rowTab _ _ rfl)) rfl ⟨rfl, hM.below⟩
set_option maxRecDepth 100000 in
set_option maxHeartbeats 1000000 in
theorem withHurdle_3on (g : Nat → Int) (x y : Nat) (hx : x ≤ 8) (hy : y ≤ 9) (w : World) :
    Calls Tryd.prog 70 #[.agg (arr 122 (pas g)), .agg (arr 2 (sp (x + 1) (y))), .int .i64 3, .bool true] w fun e w' => e = .returned (.agg (arr 122 (pas (setG g (102 + y) (putR (g (102 + y)) x true))))) ∧ Below w.heap.size w w' := by
  have hM := Mem.nil w
  have hk := fun W => keptAt_3 (x + 1) (y) (by omega) (by omega) W
  simp only [show (x : Int) + 1 - 1 = x by omega] at hk
  have Hk := Lib.hid hk
  have e0 : pas g (102 + y) = .int .u16 (g (102 + y)) := pas_u16 g (by omega)
  have lx : (x : Int) < 10 := by omega
  have ly : (y : Int) < 10 := by omega
  have mx : min x 16 = x := by omega
  have q1 := clrR_eq (g (102 + y)) x
  clear hk
  have tk_b1 : True := trivial; have tk_b2 : True := trivial; have tk_b3 : True := trivial; have tk_b4 : True := trivial
  go_enter Tryd.func70, Tryd.ntmps70
  go_wp2_with (first | (have _t := tk_b1; refine wpList_box rfl _ _ rfl _ _ rfl hM ?_; intro b1 W' hb1 hM'; clear hM tk_b1; have hM := hM'; clear hM') | (have _t := tk_b2; refine wpList_box rfl _ _ rfl _ _ rfl hM ?_; intro b2 W' hb2 hM'; clear hM tk_b2; have hM := hM'; clear hM') | (have _t := tk_b3; refine wpList_zero rfl _ rfl (zeroTab _ _ _ rfl) hM ?_; intro b3 W' hb3 hM'; clear hM tk_b3; have hM := hM'; clear hM') | (have _t := tk_b4; refine wpList_zero rfl _ rfl (zeroTab _ _ _ rfl) hM ?_; intro b4 W' hb4 hM'; clear hM tk_b4; have hM := hM'; clear hM') | (refine wpList_get rfl _ _ rfl _ _ rfl hM 1 rfl (rowTab _ _ rfl) (by omega) ?_) | (refine wpList_lay rfl _ _ _ rfl _ _ rfl _ _ rfl hM 0 rfl (by assumption) (rowTab _ _ rfl) (by omega) ?_ ?_; (first | (intro _ _; rfl) | (intro k _; exact h1 _) | (intro k _; simp only [lay, upd]; (repeat' split) <;> first | exact h1 _ | rfl)); intro W' hM'; clear hM; have hM := hM'; clear hM'; simp only [List.set] at hM) | (go_at_call 95; refine (Hk.out _).mono ?_; rintro e W' ⟨rfl, hb'⟩; have hM' := hM.call hb'; clear hM hb'; have hM := hM'; clear hM'))
  ((try simp only [Act.put, List.setIfInBounds_toArray, List.set_cons_succ, List.set_cons_zero]); refine region_tail_mem (m := 12) (by kernel_rfl) (by kernel_rfl) ?_; (have hM' := hM.drew); clear hM; have hM := hM'; clear hM'; simp only [List.take_succ_cons, List.take_zero, List.drop_succ_cons, List.drop_zero]; (repeat (refine wps_plain rfl ?_; (first | (refine still_get1 hM _ _ rfl _ _ rfl 0 rfl (cellTab _ rfl) (by omega) (.int .i8 (y : Int)) rfl ?_) | (refine still_get1 hM _ _ rfl _ _ rfl 0 rfl (cellTab _ rfl) (by omega) (.int .i8 (x : Int)) rfl ?_) | (refine still_get1 hM _ _ rfl _ _ rfl 3 rfl (cellTab _ rfl) (by omega) _ (e0) ?_) | (refine still_val ?_; apply Exists.intro; refine ⟨fun W => ?_, ?_⟩; (go_simp; (try simp only [lx, ly, q1, if_true]); rfl))); (simp only [Act.put, List.setIfInBounds_toArray, List.set_cons_succ, List.set_cons_zero]))); unfold wpStill)
  go_wp2_with (first | (refine wpList_set1 rfl _ _ _ rfl _ _ rfl _ rfl ?_ hM 3 rfl (by assumption) (cellTab _ rfl) (by omega) ?_; (first | rfl | exact h1 _); intro W' hM'; clear hM; have hM := hM'; clear hM'; simp [List.set, Act.eval] at hM))
  have e1 := upd_at (pas g) (102 + y) (.int .u16 (clrR (g (102 + y)) x))
  have q2 := putR_on (g (102 + y)) x
  ((try simp only [Act.put, List.setIfInBounds_toArray, List.set_cons_succ, List.set_cons_zero]); refine region_tail_mem (m := 12) (by kernel_rfl) (by kernel_rfl) ?_; (have hM' := hM.drew); clear hM; have hM := hM'; clear hM'; simp only [List.take_succ_cons, List.take_zero, List.drop_succ_cons, List.drop_zero]; (repeat (refine wps_plain rfl ?_; (first | (refine still_get1 hM _ _ rfl _ _ rfl 0 rfl (cellTab _ rfl) (by omega) (.int .i8 (y : Int)) rfl ?_) | (refine still_get1 hM _ _ rfl _ _ rfl 0 rfl (cellTab _ rfl) (by omega) (.int .i8 (x : Int)) rfl ?_) | (refine still_get1 hM _ _ rfl _ _ rfl 3 rfl (cellTab _ rfl) (by omega) _ (e1) ?_) | (refine still_val ?_; apply Exists.intro; refine ⟨fun W => ?_, ?_⟩; (go_simp; (try simp only [lx, ly, q2, if_true]); rfl))); (simp only [Act.put, List.setIfInBounds_toArray, List.set_cons_succ, List.set_cons_zero]))); unfold wpStill)
  clear e1
  go_wp2_with (first | (refine wpList_set1 rfl _ _ _ rfl _ _ rfl _ rfl ?_ hM 3 rfl (by assumption) (cellTab _ rfl) (by omega) ?_; (first | rfl | exact h1 _); intro W' hM'; clear hM; have hM := hM'; clear hM'; simp [List.set, Act.eval] at hM) | (refine wpList_get rfl _ _ rfl _ _ rfl hM 3 rfl (rowTab _ _ rfl) (by omega) ?_) | (refine wpList_lay rfl _ _ _ rfl _ _ rfl _ _ rfl hM 1 rfl (by assumption) (rowTab _ _ rfl) (by omega) ?_ ?_; (first | (intro _ _; rfl) | (intro k _; exact h1 _) | (intro k _; simp only [lay, upd]; (repeat' split) <;> first | exact h1 _ | rfl)); intro W' hM'; clear hM; have hM := hM'; clear hM'; simp only [List.set] at hM))
  exact bodyPost_ret (results_at rfl _ rfl ((hM.ats 1 _ _ _ rfl).congr (lay_updB2 _ _ _ _ _ (by omega))) (rowTab _ _ rfl)) rfl ⟨rfl, hM.below⟩
set_option maxRecDepth 100000 in
set_option maxHeartbeats 1000000 in
theorem withHurdle_3off (g : Nat → Int) (x y : Nat) (hx : x ≤ 8) (hy : y ≤ 9) (w : World) :
    Calls Tryd.prog 70 #[.agg (arr 122 (pas g)), .agg (arr 2 (sp (x + 1) (y))), .int .i64 3, .bool false] w fun e w' => e = .returned (.agg (arr 122 (pas (setG g (102 + y) (putR (g (102 + y)) x false))))) ∧ Below w.heap.size w w' := by
  have hM := Mem.nil w
  have hk := fun W => keptAt_3 (x + 1) (y) (by omega) (by omega) W
  simp only [show (x : Int) + 1 - 1 = x by omega] at hk
  have Hk := Lib.hid hk
  have e0 : pas g (102 + y) = .int .u16 (g (102 + y)) := pas_u16 g (by omega)
  have lx : (x : Int) < 10 := by omega
  have ly : (y : Int) < 10 := by omega
  have mx : min x 16 = x := by omega
  have q1 := clrR_eq (g (102 + y)) x
  clear hk
  have tk_b1 : True := trivial; have tk_b2 : True := trivial; have tk_b3 : True := trivial; have tk_b4 : True := trivial
  go_enter Tryd.func70, Tryd.ntmps70
  go_wp2_with (first | (have _t := tk_b1; refine wpList_box rfl _ _ rfl _ _ rfl hM ?_; intro b1 W' hb1 hM'; clear hM tk_b1; have hM := hM'; clear hM') | (have _t := tk_b2; refine wpList_box rfl _ _ rfl _ _ rfl hM ?_; intro b2 W' hb2 hM'; clear hM tk_b2; have hM := hM'; clear hM') | (have _t := tk_b3; refine wpList_zero rfl _ rfl (zeroTab _ _ _ rfl) hM ?_; intro b3 W' hb3 hM'; clear hM tk_b3; have hM := hM'; clear hM') | (have _t := tk_b4; refine wpList_zero rfl _ rfl (zeroTab _ _ _ rfl) hM ?_; intro b4 W' hb4 hM'; clear hM tk_b4; have hM := hM'; clear hM') | (refine wpList_get rfl _ _ rfl _ _ rfl hM 1 rfl (rowTab _ _ rfl) (by omega) ?_) | (refine wpList_lay rfl _ _ _ rfl _ _ rfl _ _ rfl hM 0 rfl (by assumption) (rowTab _ _ rfl) (by omega) ?_ ?_; (first | (intro _ _; rfl) | (intro k _; exact h1 _) | (intro k _; simp only [lay, upd]; (repeat' split) <;> first | exact h1 _ | rfl)); intro W' hM'; clear hM; have hM := hM'; clear hM'; simp only [List.set] at hM) | (go_at_call 95; refine (Hk.out _).mono ?_; rintro e W' ⟨rfl, hb'⟩; have hM' := hM.call hb'; clear hM hb'; have hM := hM'; clear hM'))
  ((try simp only [Act.put, List.setIfInBounds_toArray, List.set_cons_succ, List.set_cons_zero]); refine region_tail_mem (m := 12) (by kernel_rfl) (by kernel_rfl) ?_; (have hM' := hM.drew); clear hM; have hM := hM'; clear hM'; simp only [List.take_succ_cons, List.take_zero, List.drop_succ_cons, List.drop_zero]; (repeat (refine wps_plain rfl ?_; (first | (refine still_get1 hM _ _ rfl _ _ rfl 0 rfl (cellTab _ rfl) (by omega) (.int .i8 (y : Int)) rfl ?_) | (refine still_get1 hM _ _ rfl _ _ rfl 0 rfl (cellTab _ rfl) (by omega) (.int .i8 (x : Int)) rfl ?_) | (refine still_get1 hM _ _ rfl _ _ rfl 3 rfl (cellTab _ rfl) (by omega) _ (e0) ?_) | (refine still_val ?_; apply Exists.intro; refine ⟨fun W => ?_, ?_⟩; (go_simp; (try simp only [lx, ly, q1, if_true]); rfl))); (simp only [Act.put, List.setIfInBounds_toArray, List.set_cons_succ, List.set_cons_zero]))); unfold wpStill)
  go_wp2_with (first | (refine wpList_set1 rfl _ _ _ rfl _ _ rfl _ rfl ?_ hM 3 rfl (by assumption) (cellTab _ rfl) (by omega) ?_; (first | rfl | exact h1 _); intro W' hM'; clear hM; have hM := hM'; clear hM'; simp [List.set, Act.eval] at hM) | (refine wpList_get rfl _ _ rfl _ _ rfl hM 3 rfl (rowTab _ _ rfl) (by omega) ?_) | (refine wpList_lay rfl _ _ _ rfl _ _ rfl _ _ rfl hM 1 rfl (by assumption) (rowTab _ _ rfl) (by omega) ?_ ?_; (first | (intro _ _; rfl) | (intro k _; exact h1 _) | (intro k _; simp only [lay, upd]; (repeat' split) <;> first | exact h1 _ | rfl)); intro W' hM'; clear hM; have hM := hM'; clear hM'; simp only [List.set] at hM))
  exact bodyPost_ret (results_at rfl _ rfl ((hM.ats 1 _ _ _ rfl).congr (lay_updB _ _ _ _ (by omega))) (rowTab _ _ rfl)) rfl ⟨rfl, hM.below⟩
theorem withHurdle_any (g : Nat → Int) (x y : Int) (k : Nat) (hk : k < 4) (hx : 0 ≤ x ∧ x ≤ 9) (hy : 0 ≤ y ∧ y ≤ 9) (h0 : k = 0 → 1 ≤ y) (h3 : k = 3 → 1 ≤ x) (on : Bool) (w : World) :
    Calls Tryd.prog 70 #[.agg (arr 122 (pas g)), .agg (arr 2 (sp x y)), .int .i64 k, .bool on] w fun e w' => e = .returned (.agg (arr 122 (pas (setG g (sideRow k y) (putR (g (sideRow k y)) (sideBit k x) on))))) ∧ Below w.heap.size w w' := by
  rcases (show k = 0 ∨ k = 1 ∨ k = 2 ∨ k = 3 by omega) with rfl | rfl | rfl | rfl
  · have hy1 := h0 rfl
    obtain ⟨y, rfl⟩ : ∃ n : Nat, y = n + 1 := ⟨(y - 1).toNat, by omega⟩
    obtain ⟨x, rfl⟩ : ∃ n : Nat, x = n := ⟨x.toNat, by omega⟩
    rw [show sideRow 0 ((y : Int) + 1) = 112 + y by simp [sideRow], show sideBit 0 ((x : Int)) = x by simp [sideBit]]
    cases on
    · exact withHurdle_0off g x y (by omega) (by omega) w
    · exact withHurdle_0on g x y (by omega) (by omega) w
  · obtain ⟨y, rfl⟩ : ∃ n : Nat, y = n := ⟨y.toNat, by omega⟩
    obtain ⟨x, rfl⟩ : ∃ n : Nat, x = n := ⟨x.toNat, by omega⟩
    rw [show sideRow 1 ((y : Int)) = 102 + y by simp [sideRow], show sideBit 1 ((x : Int)) = x by simp [sideBit]]
    cases on
    · exact withHurdle_1off g x y (by omega) (by omega) w
    · exact withHurdle_1on g x y (by omega) (by omega) w
  · obtain ⟨y, rfl⟩ : ∃ n : Nat, y = n := ⟨y.toNat, by omega⟩
    obtain ⟨x, rfl⟩ : ∃ n : Nat, x = n := ⟨x.toNat, by omega⟩
    rw [show sideRow 2 ((y : Int)) = 112 + y by simp [sideRow], show sideBit 2 ((x : Int)) = x by simp [sideBit]]
    cases on
    · exact withHurdle_2off g x y (by omega) (by omega) w
    · exact withHurdle_2on g x y (by omega) (by omega) w
  · have hx1 := h3 rfl
    obtain ⟨y, rfl⟩ : ∃ n : Nat, y = n := ⟨y.toNat, by omega⟩
    obtain ⟨x, rfl⟩ : ∃ n : Nat, x = n + 1 := ⟨(x - 1).toNat, by omega⟩
    rw [show sideRow 3 ((y : Int)) = 102 + y by simp [sideRow], show sideBit 3 ((x : Int) + 1) = x by simp [sideBit]]
    cases on
    · exact withHurdle_3off g x y (by omega) (by omega) w
    · exact withHurdle_3on g x y (by omega) (by omega) w
end Go.Proofs.YtdlfhomnlhdacaaDoor
