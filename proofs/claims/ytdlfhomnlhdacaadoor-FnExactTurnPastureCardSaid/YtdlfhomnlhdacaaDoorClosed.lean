/-
  spec.l01Side, l01Next, l01Closed by contracts.
-/
import Derived.Test.YtdlfhomnlhdacaaDoorNext
import Derived.Test.YtdlfhomnlhdacaaDoorPasture
namespace Go.Proofs.YtdlfhomnlhdacaaDoor
open Go Go.RowKit Go.BigFrame

/-- Bit c of a row. -/
def bitB (row : Int) (c : Nat) : Bool := bits .and .u16 (row / 2 ^ c) 1 == 1
theorem bitB_eq (row : Int) (c : Nat) : (bits .and .u16 (row / 2 ^ c) 1 == 1) = bitB row c := rfl
/-- The row in which a side is kept, and its bit. -/
def sideRow (k : Nat) (y : Int) : Nat := match k with | 0 => 112 + (y - 1).toNat | 2 => 112 + y.toNat | _ => 102 + y.toNat
def sideBit (k : Nat) (x : Int) : Nat := match k with | 3 => (x - 1).toNat | _ => x.toNat
/-- A hurdle on a side that is no wall. -/
def fenceB (g : Nat → Int) (k : Nat) (x y : Int) : Bool := bitB (g (sideRow k y)) (sideBit k x)
/-- Can one not go over a side? -/
def closedB (g : Nat → Int) (k : Nat) (x y : Int) : Bool := !isB g (nxX k x) (nxY k y) || fenceB g k x y
theorem closedB_wall {g : Nat → Int} {k : Nat} {x y : Int} (h : isB g (nxX k x) (nxY k y) = false) : closedB g k x y = true := by simp [closedB, h]
theorem closedB_in {g : Nat → Int} {k : Nat} {x y : Int} (h : isB g (nxX k x) (nxY k y) = true) : closedB g k x y = fenceB g k x y := by simp [closedB, h]

set_option maxRecDepth 100000 in
set_option maxHeartbeats 1000000 in
theorem l01Closed_wall0 (g : Nat → Int) (hg : Fits g) (bp : Nat) (x y : Int) (hx : 0 ≤ x ∧ x ≤ 9) (hy : 0 ≤ y ∧ y ≤ 9) (hi : isB g (x) (y - 1) = false) (w : World) (hA : At w bp 122 (pas g)) :
    Calls Tryd.prog 63 #[.pointer (some ⟨bp, 0, none⟩), .agg (arr 2 (sp x y)), .int .i64 0] w fun e w' => e = .returned (.bool true) ∧ Below w.heap.size w w' := by
  have hM : Mem w [(bp, 122, pas g)] w := (Mem.nil w).old hA (fun i p h => by simp at h)
  have Hi := Lib.hid hi
  clear hA hi
  have tk_b1 : True := trivial; have tk_b2 : True := trivial
  go_enter Tryd.func63, Tryd.ntmps63
  go_wp2_with (first | (have _t := tk_b1; refine wpList_box rfl _ _ rfl _ _ rfl hM ?_; intro b1 W' hb1 hM'; clear hM tk_b1; have hM := hM'; clear hM') | (refine wpList_get rfl _ _ rfl _ _ rfl hM 0 rfl (rowTab _ _ rfl) (by omega) ?_) | (have _t := tk_b2; refine wpList_zero rfl _ rfl (zeroTab _ _ _ rfl) hM ?_; intro b2 W' hb2 hM'; clear hM tk_b2; have hM := hM'; clear hM') | (refine wpList_lay rfl _ _ _ rfl _ _ rfl _ _ rfl hM 0 rfl (by assumption) (rowTab _ _ rfl) (by omega) ?_ ?_; (first | (intro _ _; rfl) | (intro k _; exact h1 _) | (intro k _; simp only [lay, upd]; (repeat' split) <;> first | exact h1 _ | rfl)); intro W' hM'; clear hM; have hM := hM'; clear hM'; simp only [List.set] at hM) | (go_at_call 67; refine (l01Next_0 x y (by omega) (by omega) _).mono ?_; rintro e W' ⟨rfl, hb'⟩; have hM' := hM.call hb'; clear hM hb'; have hM := hM'; clear hM') | (go_at_call 66; refine (l01Is_any g hg _ (x) (y - 1) (by omega) (by omega) _ (hM.ats 2 _ _ _ rfl)).mono ?_; rintro e W' ⟨rfl, hb'⟩; rw [Hi.out]; have hM' := hM.call hb'; clear hM hb'; have hM := hM'; clear hM'))
  go_ret
  exact ⟨rfl, hM.below⟩
set_option maxRecDepth 100000 in
set_option maxHeartbeats 1000000 in
theorem l01Closed_in0 (g : Nat → Int) (hg : Fits g) (bp : Nat) (x y : Nat) (hx : x ≤ 9) (hy : y ≤ 8) (hi : isB g (x) (y) = true) (w : World) (hA : At w bp 122 (pas g)) :
    Calls Tryd.prog 63 #[.pointer (some ⟨bp, 0, none⟩), .agg (arr 2 (sp (x) (y + 1))), .int .i64 0] w fun e w' => e = .returned (.bool (bitB (g (112 + y)) x)) ∧ Below w.heap.size w w' := by
  have hM : Mem w [(bp, 122, pas g)] w := (Mem.nil w).old hA (fun i p h => by simp at h)
  have Hi := Lib.hid hi
  have e0 : pas g (112 + y) = .int .u16 (g (112 + y)) := pas_u16 g (by omega)
  have hr := hg.bits (112 + y) (by omega) (by omega)
  have lx : (x : Int) < 10 := by omega
  have ly : (y : Int) < 10 := by omega
  have cx : IntKind.u64.wrap (x : Int) = x := IntWalk.u64_in _ (by omega)
  have mx : min x 16 = x := by omega
  have hb := bitB_eq (g (112 + y)) x
  clear hA hi
  have tk_b1 : True := trivial; have tk_b2 : True := trivial
  go_enter Tryd.func63, Tryd.ntmps63
  go_wp2_with (first | (have _t := tk_b1; refine wpList_box rfl _ _ rfl _ _ rfl hM ?_; intro b1 W' hb1 hM'; clear hM tk_b1; have hM := hM'; clear hM') | (refine wpList_get rfl _ _ rfl _ _ rfl hM 0 rfl (rowTab _ _ rfl) (by omega) ?_) | (have _t := tk_b2; refine wpList_zero rfl _ rfl (zeroTab _ _ _ rfl) hM ?_; intro b2 W' hb2 hM'; clear hM tk_b2; have hM := hM'; clear hM') | (refine wpList_lay rfl _ _ _ rfl _ _ rfl _ _ rfl hM 0 rfl (by assumption) (rowTab _ _ rfl) (by omega) ?_ ?_; (first | (intro _ _; rfl) | (intro k _; exact h1 _) | (intro k _; simp only [lay, upd]; (repeat' split) <;> first | exact h1 _ | rfl)); intro W' hM'; clear hM; have hM := hM'; clear hM'; simp only [List.set] at hM) | (go_at_call 67; refine (l01Next_0' x y (by omega) (by omega) _).mono ?_; rintro e W' ⟨rfl, hb'⟩; have hM' := hM.call hb'; clear hM hb'; have hM := hM'; clear hM') | (go_at_call 66; refine (l01Is_any g hg _ (x) (y) (by omega) (by omega) _ (hM.ats 2 _ _ _ rfl)).mono ?_; rintro e W' ⟨rfl, hb'⟩; rw [Hi.out]; have hM' := hM.call hb'; clear hM hb'; have hM := hM'; clear hM'))
  ((try simp only [Act.put, List.setIfInBounds_toArray, List.set_cons_succ, List.set_cons_zero]); refine wp_region_mem (by kernel_rfl) (by kernel_rfl) hM ?_; clear hM; (repeat (first | go_big_quiet_skip | (go_big_quiet_want; first | (refine quiet_get1 _ _ rfl _ _ rfl 0 rfl (cellTab _ rfl) (by omega) (.int .i8 (x : Int)) rfl ?_; (simp only [Act.put, List.setIfInBounds_toArray, List.set_cons_succ, List.set_cons_zero]); go_big_quiet_on) | (refine quiet_get1 _ _ rfl _ _ rfl 0 rfl (cellTab _ rfl) (by omega) (.int .i8 (y : Int)) rfl ?_; (simp only [Act.put, List.setIfInBounds_toArray, List.set_cons_succ, List.set_cons_zero]); go_big_quiet_on) | (refine quiet_get1 _ _ rfl _ _ rfl 1 rfl (cellTab _ rfl) (by omega) (.int .i8 (x : Int)) rfl ?_; (simp only [Act.put, List.setIfInBounds_toArray, List.set_cons_succ, List.set_cons_zero]); go_big_quiet_on) | (refine quiet_get1 _ _ rfl _ _ rfl 1 rfl (cellTab _ rfl) (by omega) (.int .i8 (y : Int)) rfl ?_; (simp only [Act.put, List.setIfInBounds_toArray, List.set_cons_succ, List.set_cons_zero]); go_big_quiet_on) | (refine quiet_get1 _ _ rfl _ _ rfl 2 rfl (cellTab _ rfl) (by omega) _ (e0) ?_; (simp only [Act.put, List.setIfInBounds_toArray, List.set_cons_succ, List.set_cons_zero]); go_big_quiet_on) | (refine quiet_val ?_; apply Exists.intro; refine ⟨fun W => ?_, ?_⟩; (go_simp; (try simp only [lx, ly, cx, mx, Int.toNat_natCast, if_true, Bool.false_eq_true, if_false]); rfl); (simp only [Act.put, List.setIfInBounds_toArray, List.set_cons_succ, List.set_cons_zero]); go_big_quiet_on)))); (with_reducible refine wpQuiet_nil ?_); intro W' hM)
  go_wp2
  go_ret
  exact ⟨rfl, hM.below⟩
set_option maxRecDepth 100000 in
set_option maxHeartbeats 1000000 in
theorem l01Closed_wall1 (g : Nat → Int) (hg : Fits g) (bp : Nat) (x y : Int) (hx : 0 ≤ x ∧ x ≤ 9) (hy : 0 ≤ y ∧ y ≤ 9) (hi : isB g (x + 1) (y) = false) (w : World) (hA : At w bp 122 (pas g)) :
    Calls Tryd.prog 63 #[.pointer (some ⟨bp, 0, none⟩), .agg (arr 2 (sp x y)), .int .i64 1] w fun e w' => e = .returned (.bool true) ∧ Below w.heap.size w w' := by
  have hM : Mem w [(bp, 122, pas g)] w := (Mem.nil w).old hA (fun i p h => by simp at h)
  have Hi := Lib.hid hi
  clear hA hi
  have tk_b1 : True := trivial; have tk_b2 : True := trivial
  go_enter Tryd.func63, Tryd.ntmps63
  go_wp2_with (first | (have _t := tk_b1; refine wpList_box rfl _ _ rfl _ _ rfl hM ?_; intro b1 W' hb1 hM'; clear hM tk_b1; have hM := hM'; clear hM') | (refine wpList_get rfl _ _ rfl _ _ rfl hM 0 rfl (rowTab _ _ rfl) (by omega) ?_) | (have _t := tk_b2; refine wpList_zero rfl _ rfl (zeroTab _ _ _ rfl) hM ?_; intro b2 W' hb2 hM'; clear hM tk_b2; have hM := hM'; clear hM') | (refine wpList_lay rfl _ _ _ rfl _ _ rfl _ _ rfl hM 0 rfl (by assumption) (rowTab _ _ rfl) (by omega) ?_ ?_; (first | (intro _ _; rfl) | (intro k _; exact h1 _) | (intro k _; simp only [lay, upd]; (repeat' split) <;> first | exact h1 _ | rfl)); intro W' hM'; clear hM; have hM := hM'; clear hM'; simp only [List.set] at hM) | (go_at_call 67; refine (l01Next_1 x y (by omega) (by omega) _).mono ?_; rintro e W' ⟨rfl, hb'⟩; have hM' := hM.call hb'; clear hM hb'; have hM := hM'; clear hM') | (go_at_call 66; refine (l01Is_any g hg _ (x + 1) (y) (by omega) (by omega) _ (hM.ats 2 _ _ _ rfl)).mono ?_; rintro e W' ⟨rfl, hb'⟩; rw [Hi.out]; have hM' := hM.call hb'; clear hM hb'; have hM := hM'; clear hM'))
  go_ret
  exact ⟨rfl, hM.below⟩
set_option maxRecDepth 100000 in
set_option maxHeartbeats 1000000 in
theorem l01Closed_in1 (g : Nat → Int) (hg : Fits g) (bp : Nat) (x y : Nat) (hx : x ≤ 8) (hy : y ≤ 9) (hi : isB g (x + 1) (y) = true) (w : World) (hA : At w bp 122 (pas g)) :
    Calls Tryd.prog 63 #[.pointer (some ⟨bp, 0, none⟩), .agg (arr 2 (sp (x) (y))), .int .i64 1] w fun e w' => e = .returned (.bool (bitB (g (102 + y)) x)) ∧ Below w.heap.size w w' := by
  have hM : Mem w [(bp, 122, pas g)] w := (Mem.nil w).old hA (fun i p h => by simp at h)
  have Hi := Lib.hid hi
  have e0 : pas g (102 + y) = .int .u16 (g (102 + y)) := pas_u16 g (by omega)
  have hr := hg.bits (102 + y) (by omega) (by omega)
  have lx : (x : Int) < 10 := by omega
  have ly : (y : Int) < 10 := by omega
  have cx : IntKind.u64.wrap (x : Int) = x := IntWalk.u64_in _ (by omega)
  have mx : min x 16 = x := by omega
  have hb := bitB_eq (g (102 + y)) x
  clear hA hi
  have tk_b1 : True := trivial; have tk_b2 : True := trivial
  go_enter Tryd.func63, Tryd.ntmps63
  go_wp2_with (first | (have _t := tk_b1; refine wpList_box rfl _ _ rfl _ _ rfl hM ?_; intro b1 W' hb1 hM'; clear hM tk_b1; have hM := hM'; clear hM') | (refine wpList_get rfl _ _ rfl _ _ rfl hM 0 rfl (rowTab _ _ rfl) (by omega) ?_) | (have _t := tk_b2; refine wpList_zero rfl _ rfl (zeroTab _ _ _ rfl) hM ?_; intro b2 W' hb2 hM'; clear hM tk_b2; have hM := hM'; clear hM') | (refine wpList_lay rfl _ _ _ rfl _ _ rfl _ _ rfl hM 0 rfl (by assumption) (rowTab _ _ rfl) (by omega) ?_ ?_; (first | (intro _ _; rfl) | (intro k _; exact h1 _) | (intro k _; simp only [lay, upd]; (repeat' split) <;> first | exact h1 _ | rfl)); intro W' hM'; clear hM; have hM := hM'; clear hM'; simp only [List.set] at hM) | (go_at_call 67; refine (l01Next_1 x y (by omega) (by omega) _).mono ?_; rintro e W' ⟨rfl, hb'⟩; have hM' := hM.call hb'; clear hM hb'; have hM := hM'; clear hM') | (go_at_call 66; refine (l01Is_any g hg _ (x + 1) (y) (by omega) (by omega) _ (hM.ats 2 _ _ _ rfl)).mono ?_; rintro e W' ⟨rfl, hb'⟩; rw [Hi.out]; have hM' := hM.call hb'; clear hM hb'; have hM := hM'; clear hM'))
  ((try simp only [Act.put, List.setIfInBounds_toArray, List.set_cons_succ, List.set_cons_zero]); refine wp_region_mem (by kernel_rfl) (by kernel_rfl) hM ?_; clear hM; (repeat (first | go_big_quiet_skip | (go_big_quiet_want; first | (refine quiet_get1 _ _ rfl _ _ rfl 0 rfl (cellTab _ rfl) (by omega) (.int .i8 (x : Int)) rfl ?_; (simp only [Act.put, List.setIfInBounds_toArray, List.set_cons_succ, List.set_cons_zero]); go_big_quiet_on) | (refine quiet_get1 _ _ rfl _ _ rfl 0 rfl (cellTab _ rfl) (by omega) (.int .i8 (y : Int)) rfl ?_; (simp only [Act.put, List.setIfInBounds_toArray, List.set_cons_succ, List.set_cons_zero]); go_big_quiet_on) | (refine quiet_get1 _ _ rfl _ _ rfl 1 rfl (cellTab _ rfl) (by omega) (.int .i8 (x : Int)) rfl ?_; (simp only [Act.put, List.setIfInBounds_toArray, List.set_cons_succ, List.set_cons_zero]); go_big_quiet_on) | (refine quiet_get1 _ _ rfl _ _ rfl 1 rfl (cellTab _ rfl) (by omega) (.int .i8 (y : Int)) rfl ?_; (simp only [Act.put, List.setIfInBounds_toArray, List.set_cons_succ, List.set_cons_zero]); go_big_quiet_on) | (refine quiet_get1 _ _ rfl _ _ rfl 2 rfl (cellTab _ rfl) (by omega) _ (e0) ?_; (simp only [Act.put, List.setIfInBounds_toArray, List.set_cons_succ, List.set_cons_zero]); go_big_quiet_on) | (refine quiet_val ?_; apply Exists.intro; refine ⟨fun W => ?_, ?_⟩; (go_simp; (try simp only [lx, ly, cx, mx, Int.toNat_natCast, if_true, Bool.false_eq_true, if_false]); rfl); (simp only [Act.put, List.setIfInBounds_toArray, List.set_cons_succ, List.set_cons_zero]); go_big_quiet_on)))); (with_reducible refine wpQuiet_nil ?_); intro W' hM)
  go_wp2
  go_ret
  exact ⟨rfl, hM.below⟩
set_option maxRecDepth 100000 in
set_option maxHeartbeats 1000000 in
theorem l01Closed_wall2 (g : Nat → Int) (hg : Fits g) (bp : Nat) (x y : Int) (hx : 0 ≤ x ∧ x ≤ 9) (hy : 0 ≤ y ∧ y ≤ 9) (hi : isB g (x) (y + 1) = false) (w : World) (hA : At w bp 122 (pas g)) :
    Calls Tryd.prog 63 #[.pointer (some ⟨bp, 0, none⟩), .agg (arr 2 (sp x y)), .int .i64 2] w fun e w' => e = .returned (.bool true) ∧ Below w.heap.size w w' := by
  have hM : Mem w [(bp, 122, pas g)] w := (Mem.nil w).old hA (fun i p h => by simp at h)
  have Hi := Lib.hid hi
  clear hA hi
  have tk_b1 : True := trivial; have tk_b2 : True := trivial
  go_enter Tryd.func63, Tryd.ntmps63
  go_wp2_with (first | (have _t := tk_b1; refine wpList_box rfl _ _ rfl _ _ rfl hM ?_; intro b1 W' hb1 hM'; clear hM tk_b1; have hM := hM'; clear hM') | (refine wpList_get rfl _ _ rfl _ _ rfl hM 0 rfl (rowTab _ _ rfl) (by omega) ?_) | (have _t := tk_b2; refine wpList_zero rfl _ rfl (zeroTab _ _ _ rfl) hM ?_; intro b2 W' hb2 hM'; clear hM tk_b2; have hM := hM'; clear hM') | (refine wpList_lay rfl _ _ _ rfl _ _ rfl _ _ rfl hM 0 rfl (by assumption) (rowTab _ _ rfl) (by omega) ?_ ?_; (first | (intro _ _; rfl) | (intro k _; exact h1 _) | (intro k _; simp only [lay, upd]; (repeat' split) <;> first | exact h1 _ | rfl)); intro W' hM'; clear hM; have hM := hM'; clear hM'; simp only [List.set] at hM) | (go_at_call 67; refine (l01Next_2 x y (by omega) (by omega) _).mono ?_; rintro e W' ⟨rfl, hb'⟩; have hM' := hM.call hb'; clear hM hb'; have hM := hM'; clear hM') | (go_at_call 66; refine (l01Is_any g hg _ (x) (y + 1) (by omega) (by omega) _ (hM.ats 2 _ _ _ rfl)).mono ?_; rintro e W' ⟨rfl, hb'⟩; rw [Hi.out]; have hM' := hM.call hb'; clear hM hb'; have hM := hM'; clear hM'))
  go_ret
  exact ⟨rfl, hM.below⟩
set_option maxRecDepth 100000 in
set_option maxHeartbeats 1000000 in
theorem l01Closed_in2 (g : Nat → Int) (hg : Fits g) (bp : Nat) (x y : Nat) (hx : x ≤ 9) (hy : y ≤ 8) (hi : isB g (x) (y + 1) = true) (w : World) (hA : At w bp 122 (pas g)) :
    Calls Tryd.prog 63 #[.pointer (some ⟨bp, 0, none⟩), .agg (arr 2 (sp (x) (y))), .int .i64 2] w fun e w' => e = .returned (.bool (bitB (g (112 + y)) x)) ∧ Below w.heap.size w w' := by
  have hM : Mem w [(bp, 122, pas g)] w := (Mem.nil w).old hA (fun i p h => by simp at h)
  have Hi := Lib.hid hi
  have e0 : pas g (112 + y) = .int .u16 (g (112 + y)) := pas_u16 g (by omega)
  have hr := hg.bits (112 + y) (by omega) (by omega)
  have lx : (x : Int) < 10 := by omega
  have ly : (y : Int) < 10 := by omega
  have cx : IntKind.u64.wrap (x : Int) = x := IntWalk.u64_in _ (by omega)
  have mx : min x 16 = x := by omega
  have hb := bitB_eq (g (112 + y)) x
  clear hA hi
  have tk_b1 : True := trivial; have tk_b2 : True := trivial
  go_enter Tryd.func63, Tryd.ntmps63
  go_wp2_with (first | (have _t := tk_b1; refine wpList_box rfl _ _ rfl _ _ rfl hM ?_; intro b1 W' hb1 hM'; clear hM tk_b1; have hM := hM'; clear hM') | (refine wpList_get rfl _ _ rfl _ _ rfl hM 0 rfl (rowTab _ _ rfl) (by omega) ?_) | (have _t := tk_b2; refine wpList_zero rfl _ rfl (zeroTab _ _ _ rfl) hM ?_; intro b2 W' hb2 hM'; clear hM tk_b2; have hM := hM'; clear hM') | (refine wpList_lay rfl _ _ _ rfl _ _ rfl _ _ rfl hM 0 rfl (by assumption) (rowTab _ _ rfl) (by omega) ?_ ?_; (first | (intro _ _; rfl) | (intro k _; exact h1 _) | (intro k _; simp only [lay, upd]; (repeat' split) <;> first | exact h1 _ | rfl)); intro W' hM'; clear hM; have hM := hM'; clear hM'; simp only [List.set] at hM) | (go_at_call 67; refine (l01Next_2 x y (by omega) (by omega) _).mono ?_; rintro e W' ⟨rfl, hb'⟩; have hM' := hM.call hb'; clear hM hb'; have hM := hM'; clear hM') | (go_at_call 66; refine (l01Is_any g hg _ (x) (y + 1) (by omega) (by omega) _ (hM.ats 2 _ _ _ rfl)).mono ?_; rintro e W' ⟨rfl, hb'⟩; rw [Hi.out]; have hM' := hM.call hb'; clear hM hb'; have hM := hM'; clear hM'))
  ((try simp only [Act.put, List.setIfInBounds_toArray, List.set_cons_succ, List.set_cons_zero]); refine wp_region_mem (by kernel_rfl) (by kernel_rfl) hM ?_; clear hM; (repeat (first | go_big_quiet_skip | (go_big_quiet_want; first | (refine quiet_get1 _ _ rfl _ _ rfl 0 rfl (cellTab _ rfl) (by omega) (.int .i8 (x : Int)) rfl ?_; (simp only [Act.put, List.setIfInBounds_toArray, List.set_cons_succ, List.set_cons_zero]); go_big_quiet_on) | (refine quiet_get1 _ _ rfl _ _ rfl 0 rfl (cellTab _ rfl) (by omega) (.int .i8 (y : Int)) rfl ?_; (simp only [Act.put, List.setIfInBounds_toArray, List.set_cons_succ, List.set_cons_zero]); go_big_quiet_on) | (refine quiet_get1 _ _ rfl _ _ rfl 1 rfl (cellTab _ rfl) (by omega) (.int .i8 (x : Int)) rfl ?_; (simp only [Act.put, List.setIfInBounds_toArray, List.set_cons_succ, List.set_cons_zero]); go_big_quiet_on) | (refine quiet_get1 _ _ rfl _ _ rfl 1 rfl (cellTab _ rfl) (by omega) (.int .i8 (y : Int)) rfl ?_; (simp only [Act.put, List.setIfInBounds_toArray, List.set_cons_succ, List.set_cons_zero]); go_big_quiet_on) | (refine quiet_get1 _ _ rfl _ _ rfl 2 rfl (cellTab _ rfl) (by omega) _ (e0) ?_; (simp only [Act.put, List.setIfInBounds_toArray, List.set_cons_succ, List.set_cons_zero]); go_big_quiet_on) | (refine quiet_val ?_; apply Exists.intro; refine ⟨fun W => ?_, ?_⟩; (go_simp; (try simp only [lx, ly, cx, mx, Int.toNat_natCast, if_true, Bool.false_eq_true, if_false]); rfl); (simp only [Act.put, List.setIfInBounds_toArray, List.set_cons_succ, List.set_cons_zero]); go_big_quiet_on)))); (with_reducible refine wpQuiet_nil ?_); intro W' hM)
  go_wp2
  go_ret
  exact ⟨rfl, hM.below⟩
set_option maxRecDepth 100000 in
set_option maxHeartbeats 1000000 in
theorem l01Closed_wall3 (g : Nat → Int) (hg : Fits g) (bp : Nat) (x y : Int) (hx : 0 ≤ x ∧ x ≤ 9) (hy : 0 ≤ y ∧ y ≤ 9) (hi : isB g (x - 1) (y) = false) (w : World) (hA : At w bp 122 (pas g)) :
    Calls Tryd.prog 63 #[.pointer (some ⟨bp, 0, none⟩), .agg (arr 2 (sp x y)), .int .i64 3] w fun e w' => e = .returned (.bool true) ∧ Below w.heap.size w w' := by
  have hM : Mem w [(bp, 122, pas g)] w := (Mem.nil w).old hA (fun i p h => by simp at h)
  have Hi := Lib.hid hi
  clear hA hi
  have tk_b1 : True := trivial; have tk_b2 : True := trivial
  go_enter Tryd.func63, Tryd.ntmps63
  go_wp2_with (first | (have _t := tk_b1; refine wpList_box rfl _ _ rfl _ _ rfl hM ?_; intro b1 W' hb1 hM'; clear hM tk_b1; have hM := hM'; clear hM') | (refine wpList_get rfl _ _ rfl _ _ rfl hM 0 rfl (rowTab _ _ rfl) (by omega) ?_) | (have _t := tk_b2; refine wpList_zero rfl _ rfl (zeroTab _ _ _ rfl) hM ?_; intro b2 W' hb2 hM'; clear hM tk_b2; have hM := hM'; clear hM') | (refine wpList_lay rfl _ _ _ rfl _ _ rfl _ _ rfl hM 0 rfl (by assumption) (rowTab _ _ rfl) (by omega) ?_ ?_; (first | (intro _ _; rfl) | (intro k _; exact h1 _) | (intro k _; simp only [lay, upd]; (repeat' split) <;> first | exact h1 _ | rfl)); intro W' hM'; clear hM; have hM := hM'; clear hM'; simp only [List.set] at hM) | (go_at_call 67; refine (l01Next_3 x y (by omega) (by omega) _).mono ?_; rintro e W' ⟨rfl, hb'⟩; have hM' := hM.call hb'; clear hM hb'; have hM := hM'; clear hM') | (go_at_call 66; refine (l01Is_any g hg _ (x - 1) (y) (by omega) (by omega) _ (hM.ats 2 _ _ _ rfl)).mono ?_; rintro e W' ⟨rfl, hb'⟩; rw [Hi.out]; have hM' := hM.call hb'; clear hM hb'; have hM := hM'; clear hM'))
  go_ret
  exact ⟨rfl, hM.below⟩
set_option maxRecDepth 100000 in
set_option maxHeartbeats 1000000 in
theorem l01Closed_in3 (g : Nat → Int) (hg : Fits g) (bp : Nat) (x y : Nat) (hx : x ≤ 8) (hy : y ≤ 9) (hi : isB g (x) (y) = true) (w : World) (hA : At w bp 122 (pas g)) :
    Calls Tryd.prog 63 #[.pointer (some ⟨bp, 0, none⟩), .agg (arr 2 (sp (x + 1) (y))), .int .i64 3] w fun e w' => e = .returned (.bool (bitB (g (102 + y)) x)) ∧ Below w.heap.size w w' := by
  have hM : Mem w [(bp, 122, pas g)] w := (Mem.nil w).old hA (fun i p h => by simp at h)
  have Hi := Lib.hid hi
  have e0 : pas g (102 + y) = .int .u16 (g (102 + y)) := pas_u16 g (by omega)
  have hr := hg.bits (102 + y) (by omega) (by omega)
  have lx : (x : Int) < 10 := by omega
  have ly : (y : Int) < 10 := by omega
  have cx : IntKind.u64.wrap (x : Int) = x := IntWalk.u64_in _ (by omega)
  have mx : min x 16 = x := by omega
  have hb := bitB_eq (g (102 + y)) x
  clear hA hi
  have tk_b1 : True := trivial; have tk_b2 : True := trivial
  go_enter Tryd.func63, Tryd.ntmps63
  go_wp2_with (first | (have _t := tk_b1; refine wpList_box rfl _ _ rfl _ _ rfl hM ?_; intro b1 W' hb1 hM'; clear hM tk_b1; have hM := hM'; clear hM') | (refine wpList_get rfl _ _ rfl _ _ rfl hM 0 rfl (rowTab _ _ rfl) (by omega) ?_) | (have _t := tk_b2; refine wpList_zero rfl _ rfl (zeroTab _ _ _ rfl) hM ?_; intro b2 W' hb2 hM'; clear hM tk_b2; have hM := hM'; clear hM') | (refine wpList_lay rfl _ _ _ rfl _ _ rfl _ _ rfl hM 0 rfl (by assumption) (rowTab _ _ rfl) (by omega) ?_ ?_; (first | (intro _ _; rfl) | (intro k _; exact h1 _) | (intro k _; simp only [lay, upd]; (repeat' split) <;> first | exact h1 _ | rfl)); intro W' hM'; clear hM; have hM := hM'; clear hM'; simp only [List.set] at hM) | (go_at_call 67; refine (l01Next_3' x y (by omega) (by omega) _).mono ?_; rintro e W' ⟨rfl, hb'⟩; have hM' := hM.call hb'; clear hM hb'; have hM := hM'; clear hM') | (go_at_call 66; refine (l01Is_any g hg _ (x) (y) (by omega) (by omega) _ (hM.ats 2 _ _ _ rfl)).mono ?_; rintro e W' ⟨rfl, hb'⟩; rw [Hi.out]; have hM' := hM.call hb'; clear hM hb'; have hM := hM'; clear hM'))
  ((try simp only [Act.put, List.setIfInBounds_toArray, List.set_cons_succ, List.set_cons_zero]); refine wp_region_mem (by kernel_rfl) (by kernel_rfl) hM ?_; clear hM; (repeat (first | go_big_quiet_skip | (go_big_quiet_want; first | (refine quiet_get1 _ _ rfl _ _ rfl 0 rfl (cellTab _ rfl) (by omega) (.int .i8 (x : Int)) rfl ?_; (simp only [Act.put, List.setIfInBounds_toArray, List.set_cons_succ, List.set_cons_zero]); go_big_quiet_on) | (refine quiet_get1 _ _ rfl _ _ rfl 0 rfl (cellTab _ rfl) (by omega) (.int .i8 (y : Int)) rfl ?_; (simp only [Act.put, List.setIfInBounds_toArray, List.set_cons_succ, List.set_cons_zero]); go_big_quiet_on) | (refine quiet_get1 _ _ rfl _ _ rfl 1 rfl (cellTab _ rfl) (by omega) (.int .i8 (x : Int)) rfl ?_; (simp only [Act.put, List.setIfInBounds_toArray, List.set_cons_succ, List.set_cons_zero]); go_big_quiet_on) | (refine quiet_get1 _ _ rfl _ _ rfl 1 rfl (cellTab _ rfl) (by omega) (.int .i8 (y : Int)) rfl ?_; (simp only [Act.put, List.setIfInBounds_toArray, List.set_cons_succ, List.set_cons_zero]); go_big_quiet_on) | (refine quiet_get1 _ _ rfl _ _ rfl 2 rfl (cellTab _ rfl) (by omega) _ (e0) ?_; (simp only [Act.put, List.setIfInBounds_toArray, List.set_cons_succ, List.set_cons_zero]); go_big_quiet_on) | (refine quiet_val ?_; apply Exists.intro; refine ⟨fun W => ?_, ?_⟩; (go_simp; (try simp only [lx, ly, cx, mx, Int.toNat_natCast, if_true, Bool.false_eq_true, if_false]); rfl); (simp only [Act.put, List.setIfInBounds_toArray, List.set_cons_succ, List.set_cons_zero]); go_big_quiet_on)))); (with_reducible refine wpQuiet_nil ?_); intro W' hM)
  go_wp2
  go_ret
  exact ⟨rfl, hM.below⟩

theorem l01Closed_any (g : Nat → Int) (hg : Fits g) (ho : okB g = true) (bp : Nat) (k : Nat) (hk : k < 4) (x y : Int) (hx : 0 ≤ x ∧ x ≤ 9) (hy : 0 ≤ y ∧ y ≤ 9) (w : World) (hA : At w bp 122 (pas g)) :
    Calls Tryd.prog 63 #[.pointer (some ⟨bp, 0, none⟩), .agg (arr 2 (sp x y)), .int .i64 k] w fun e w' => e = .returned (.bool (closedB g k x y)) ∧ Below w.heap.size w w' := by
  rcases (show k = 0 ∨ k = 1 ∨ k = 2 ∨ k = 3 by omega) with rfl | rfl | rfl | rfl
  · cases hi : isB g x (y - 1)
    · rw [closedB_wall (k := 0) hi]
      exact l01Closed_wall0 g hg bp x y hx hy hi w hA
    · rw [closedB_in (k := 0) hi]
      have hb := isB_bounds ho hi
      obtain ⟨y, rfl⟩ : ∃ n : Nat, y = n + 1 := ⟨(y - 1).toNat, by omega⟩
      obtain ⟨x, rfl⟩ : ∃ n : Nat, x = n := ⟨x.toNat, by omega⟩
      simp only [show (y : Int) + 1 - 1 = y by omega] at hi hb
      have he : fenceB g 0 (x) (y + 1) = bitB (g (112 + y)) x := by simp [fenceB, sideRow, sideBit]
      rw [he]
      exact l01Closed_in0 g hg bp x y (by omega) (by omega) hi w hA
  · cases hi : isB g (x + 1) y
    · rw [closedB_wall (k := 1) hi]
      exact l01Closed_wall1 g hg bp x y hx hy hi w hA
    · rw [closedB_in (k := 1) hi]
      have hb := isB_bounds ho hi
      obtain ⟨y, rfl⟩ : ∃ n : Nat, y = n := ⟨y.toNat, by omega⟩
      obtain ⟨x, rfl⟩ : ∃ n : Nat, x = n := ⟨x.toNat, by omega⟩
      skip
      have he : fenceB g 1 (x) (y) = bitB (g (102 + y)) x := by simp [fenceB, sideRow, sideBit]
      rw [he]
      exact l01Closed_in1 g hg bp x y (by omega) (by omega) hi w hA
  · cases hi : isB g x (y + 1)
    · rw [closedB_wall (k := 2) hi]
      exact l01Closed_wall2 g hg bp x y hx hy hi w hA
    · rw [closedB_in (k := 2) hi]
      have hb := isB_bounds ho hi
      obtain ⟨y, rfl⟩ : ∃ n : Nat, y = n := ⟨y.toNat, by omega⟩
      obtain ⟨x, rfl⟩ : ∃ n : Nat, x = n := ⟨x.toNat, by omega⟩
      skip
      have he : fenceB g 2 (x) (y) = bitB (g (112 + y)) x := by simp [fenceB, sideRow, sideBit]
      rw [he]
      exact l01Closed_in2 g hg bp x y (by omega) (by omega) hi w hA
  · cases hi : isB g (x - 1) y
    · rw [closedB_wall (k := 3) hi]
      exact l01Closed_wall3 g hg bp x y hx hy hi w hA
    · rw [closedB_in (k := 3) hi]
      have hb := isB_bounds ho hi
      obtain ⟨y, rfl⟩ : ∃ n : Nat, y = n := ⟨y.toNat, by omega⟩
      obtain ⟨x, rfl⟩ : ∃ n : Nat, x = n + 1 := ⟨(x - 1).toNat, by omega⟩
      simp only [show (x : Int) + 1 - 1 = x by omega] at hi hb
      have he : fenceB g 3 (x + 1) (y) = bitB (g (102 + y)) x := by simp [fenceB, sideRow, sideBit]
      rw [he]
      exact l01Closed_in3 g hg bp x y (by omega) (by omega) hi w hA
end Go.Proofs.YtdlfhomnlhdacaaDoor
