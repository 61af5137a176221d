/-
  Several texts in one: Sides, Next, Cells, OkI1, Equal.
-/
import Derived.Test.YtcdpdcjdjcbhcaaDoorP5
import Derived.Laws.ResultCell
import Derived.RangeFuncNested
import Derived.RangeFuncBound
import Derived.RangeFuncCalls
import Derived.RangeFuncLeaves
import Derived.Shelf.Abstract
import Derived.Shelf.RegionOpen
import Derived.WalkKit
import Derived.OwnWalkIn
import Derived.TacticsInMore
import Derived.LoopNIn
import Derived.LoopIn
import Derived.Lib.Hide
import Derived.Test.YtcdpdcjdjcbhcaaDoorP1
import Derived.Test.YtcdpdcjdjcbhcaaDoorP4
import Derived.ChangeKeysEq
import Derived.Laws.StructEq
/-
  Steps over the sides: (impl.Spot).north, east, south, west, overSides, over; spec.l01Next.
-/
namespace Go.Proofs.YtcdpdcjdjcbhcaaDoor
open Go Go.RowKit Go.BigFrame

def nxX (k : Nat) (x : Int) : Int := match k with | 1 => x + 1 | 3 => x - 1 | _ => x
def nxY (k : Nat) (y : Int) : Int := match k with | 0 => y - 1 | 2 => y + 1 | _ => y
theorem lay_sp (z : Nat → Value) (x y : Int) : ∀ k, k < 2 → lay z 0 2 (sp x y) k = sp x y k := fun k hk => by simp [lay, hk]

set_option maxHeartbeats 400000 in
theorem north_any (x y : Int) (hx : 0 ≤ x ∧ x ≤ 9) (hy : 0 ≤ y ∧ y ≤ 9) (w : World) :
    Calls Tryd.prog 143 #[.agg (arr 2 (sp x y))] w fun e w' => e = .returned (.agg (arr 2 (sp (x) (y - 1)))) ∧ Below w.heap.size w w' := by
  have hM := Mem.nil w
  have e0 : sp x y 0 = .int .i8 x := rfl
  have e1 : sp x y 1 = .int .i8 y := rfl
  have c1 : IntKind.i8.wrap (y - 1) = y - 1 := IntWalk.i8_in _ (by omega)
  have hsp : #[Value.int .i8 (x), Value.int .i8 (y - 1)] = arr 2 (sp (x) (y - 1)) := rfl
  have tk_b1 : True := trivial; have tk_b2 : True := trivial
  go_enter Tryd.func143, Tryd.ntmps143
  go_wp2_with (first | (have _t := tk_b1; refine wpList_box rfl _ _ rfl _ _ rfl hM ?_; intro b1 W' hb1 hM'; clear hM tk_b1; have hM := hM'; clear hM') | (have _t := tk_b2; refine wpList_zero rfl _ rfl (zeroTab _ _ _ rfl) hM ?_; intro b2 W' hb2 hM'; clear hM tk_b2; have hM := hM'; clear hM') | (refine wpList_get1 rfl _ _ rfl _ _ rfl hM 1 rfl (cellTab _ rfl) (by omega) _ rfl ?_) | (refine wpList_lay rfl _ _ _ rfl _ _ rfl _ _ rfl hM 0 rfl (by assumption) (rowTab _ _ rfl) (by omega) ?_ ?_; (first | (intro _ _; rfl) | (intro k _; exact h1 _) | (intro k _; simp only [lay, upd]; (repeat' split) <;> first | exact h1 _ | rfl)); intro W' hM'; clear hM; have hM := hM'; clear hM'; simp only [List.set] at hM))
  exact bodyPost_ret (results_at rfl _ rfl ((hM.ats 0 _ _ _ rfl).congr (lay_sp _ _ _)) (rowTab _ _ rfl)) rfl ⟨rfl, hM.below⟩
set_option maxHeartbeats 400000 in
theorem east_any (x y : Int) (hx : 0 ≤ x ∧ x ≤ 9) (hy : 0 ≤ y ∧ y ≤ 9) (w : World) :
    Calls Tryd.prog 154 #[.agg (arr 2 (sp x y))] w fun e w' => e = .returned (.agg (arr 2 (sp (x + 1) (y)))) ∧ Below w.heap.size w w' := by
  have hM := Mem.nil w
  have e0 : sp x y 0 = .int .i8 x := rfl
  have e1 : sp x y 1 = .int .i8 y := rfl
  have c1 : IntKind.i8.wrap (x + 1) = x + 1 := IntWalk.i8_in _ (by omega)
  have hsp : #[Value.int .i8 (x + 1), Value.int .i8 (y)] = arr 2 (sp (x + 1) (y)) := rfl
  have tk_b1 : True := trivial; have tk_b2 : True := trivial
  go_enter Tryd.func154, Tryd.ntmps154
  go_wp2_with (first | (have _t := tk_b1; refine wpList_box rfl _ _ rfl _ _ rfl hM ?_; intro b1 W' hb1 hM'; clear hM tk_b1; have hM := hM'; clear hM') | (have _t := tk_b2; refine wpList_zero rfl _ rfl (zeroTab _ _ _ rfl) hM ?_; intro b2 W' hb2 hM'; clear hM tk_b2; have hM := hM'; clear hM') | (refine wpList_get1 rfl _ _ rfl _ _ rfl hM 1 rfl (cellTab _ rfl) (by omega) _ rfl ?_) | (refine wpList_lay rfl _ _ _ rfl _ _ rfl _ _ rfl hM 0 rfl (by assumption) (rowTab _ _ rfl) (by omega) ?_ ?_; (first | (intro _ _; rfl) | (intro k _; exact h1 _) | (intro k _; simp only [lay, upd]; (repeat' split) <;> first | exact h1 _ | rfl)); intro W' hM'; clear hM; have hM := hM'; clear hM'; simp only [List.set] at hM))
  exact bodyPost_ret (results_at rfl _ rfl ((hM.ats 0 _ _ _ rfl).congr (lay_sp _ _ _)) (rowTab _ _ rfl)) rfl ⟨rfl, hM.below⟩
set_option maxHeartbeats 400000 in
theorem south_any (x y : Int) (hx : 0 ≤ x ∧ x ≤ 9) (hy : 0 ≤ y ∧ y ≤ 9) (w : World) :
    Calls Tryd.prog 155 #[.agg (arr 2 (sp x y))] w fun e w' => e = .returned (.agg (arr 2 (sp (x) (y + 1)))) ∧ Below w.heap.size w w' := by
  have hM := Mem.nil w
  have e0 : sp x y 0 = .int .i8 x := rfl
  have e1 : sp x y 1 = .int .i8 y := rfl
  have c1 : IntKind.i8.wrap (y + 1) = y + 1 := IntWalk.i8_in _ (by omega)
  have hsp : #[Value.int .i8 (x), Value.int .i8 (y + 1)] = arr 2 (sp (x) (y + 1)) := rfl
  have tk_b1 : True := trivial; have tk_b2 : True := trivial
  go_enter Tryd.func155, Tryd.ntmps155
  go_wp2_with (first | (have _t := tk_b1; refine wpList_box rfl _ _ rfl _ _ rfl hM ?_; intro b1 W' hb1 hM'; clear hM tk_b1; have hM := hM'; clear hM') | (have _t := tk_b2; refine wpList_zero rfl _ rfl (zeroTab _ _ _ rfl) hM ?_; intro b2 W' hb2 hM'; clear hM tk_b2; have hM := hM'; clear hM') | (refine wpList_get1 rfl _ _ rfl _ _ rfl hM 1 rfl (cellTab _ rfl) (by omega) _ rfl ?_) | (refine wpList_lay rfl _ _ _ rfl _ _ rfl _ _ rfl hM 0 rfl (by assumption) (rowTab _ _ rfl) (by omega) ?_ ?_; (first | (intro _ _; rfl) | (intro k _; exact h1 _) | (intro k _; simp only [lay, upd]; (repeat' split) <;> first | exact h1 _ | rfl)); intro W' hM'; clear hM; have hM := hM'; clear hM'; simp only [List.set] at hM))
  exact bodyPost_ret (results_at rfl _ rfl ((hM.ats 0 _ _ _ rfl).congr (lay_sp _ _ _)) (rowTab _ _ rfl)) rfl ⟨rfl, hM.below⟩
set_option maxHeartbeats 400000 in
theorem west_any (x y : Int) (hx : 0 ≤ x ∧ x ≤ 9) (hy : 0 ≤ y ∧ y ≤ 9) (w : World) :
    Calls Tryd.prog 144 #[.agg (arr 2 (sp x y))] w fun e w' => e = .returned (.agg (arr 2 (sp (x - 1) (y)))) ∧ Below w.heap.size w w' := by
  have hM := Mem.nil w
  have e0 : sp x y 0 = .int .i8 x := rfl
  have e1 : sp x y 1 = .int .i8 y := rfl
  have c1 : IntKind.i8.wrap (x - 1) = x - 1 := IntWalk.i8_in _ (by omega)
  have hsp : #[Value.int .i8 (x - 1), Value.int .i8 (y)] = arr 2 (sp (x - 1) (y)) := rfl
  have tk_b1 : True := trivial; have tk_b2 : True := trivial
  go_enter Tryd.func144, Tryd.ntmps144
  go_wp2_with (first | (have _t := tk_b1; refine wpList_box rfl _ _ rfl _ _ rfl hM ?_; intro b1 W' hb1 hM'; clear hM tk_b1; have hM := hM'; clear hM') | (have _t := tk_b2; refine wpList_zero rfl _ rfl (zeroTab _ _ _ rfl) hM ?_; intro b2 W' hb2 hM'; clear hM tk_b2; have hM := hM'; clear hM') | (refine wpList_get1 rfl _ _ rfl _ _ rfl hM 1 rfl (cellTab _ rfl) (by omega) _ rfl ?_) | (refine wpList_lay rfl _ _ _ rfl _ _ rfl _ _ rfl hM 0 rfl (by assumption) (rowTab _ _ rfl) (by omega) ?_ ?_; (first | (intro _ _; rfl) | (intro k _; exact h1 _) | (intro k _; simp only [lay, upd]; (repeat' split) <;> first | exact h1 _ | rfl)); intro W' hM'; clear hM; have hM := hM'; clear hM'; simp only [List.set] at hM))
  exact bodyPost_ret (results_at rfl _ rfl ((hM.ats 0 _ _ _ rfl).congr (lay_sp _ _ _)) (rowTab _ _ rfl)) rfl ⟨rfl, hM.below⟩

/-- The four steps as values. -/
def sideV (k : Nat) : Value :=
  match k with
  | 0 => .func (.func 143) #[] #[]
  | 1 => .func (.func 154) #[] #[]
  | 2 => .func (.func 155) #[] #[]
  | _ => .func (.func 144) #[] #[]
theorem sideV_one : ∀ k, k < 4 → (sideV k).oneCell' = true := fun k hk => by
  rcases (show k = 0 ∨ k = 1 ∨ k = 2 ∨ k = 3 by omega) with rfl | rfl | rfl | rfl <;> rfl
theorem sides_row : RowT Tryd.prog 221 4 := ⟨⟨_, Tryd.underlying221, rfl⟩, by kernel_rfl⟩
theorem sides_zero : (Tryd.prog.info? 221).map (·.zero) = some (some (.agg (arr 4 fun _ => .nilFunc))) := by kernel_rfl
theorem overSides_any (w : World) :
    Calls Tryd.prog 153 #[] w fun e w' => e = .returned (.agg (arr 4 sideV)) ∧ Below w.heap.size w w' := by
  have hM := Mem.nil w
  have hs : #[Value.func (.func 143) #[] #[], Value.func (.func 154) #[] #[], Value.func (.func 155) #[] #[], Value.func (.func 144) #[] #[]] = arr 4 sideV := rfl
  have tk_b2 : True := trivial
  go_enter Tryd.func153, Tryd.ntmps153
  go_wp2_with (first | (have _t := tk_b2; refine wpList_zero rfl _ rfl sides_zero hM ?_; intro b2 W' hb2 hM'; clear hM tk_b2; have hM := hM'; clear hM') | (refine wpList_lay rfl _ _ _ rfl _ _ rfl _ _ rfl hM 0 rfl (by assumption) sides_row (by omega) sideV_one ?_; intro W' hM'; clear hM; have hM := hM'; clear hM'; simp only [List.set] at hM))
  exact bodyPost_ret (results_at rfl _ rfl ((hM.ats 0 _ _ _ rfl).congr (g := sideV) (fun k hk => by simp [lay, hk])) sides_row) rfl ⟨rfl, hM.below⟩

theorem overSides_lit (w : World) :
    Calls Tryd.prog 153 #[] w fun e w' => e = .returned (.agg #[.func (.func 143) #[] #[], .func (.func 154) #[] #[], .func (.func 155) #[] #[], .func (.func 144) #[] #[]]) ∧ Below w.heap.size w w' := overSides_any w

@[local go_sem] theorem idx_0 (W : World) : (Instr.index 221 (.agg #[.func (.func 143) #[] #[], .func (.func 154) #[] #[], .func (.func 155) #[] #[], .func (.func 144) #[] #[]]) (.int .i64 0)).run Tryd.prog W = .ok (.func (.func 143) #[] #[]) W := by kernel_rfl
@[local go_sem] theorem idx_1 (W : World) : (Instr.index 221 (.agg #[.func (.func 143) #[] #[], .func (.func 154) #[] #[], .func (.func 155) #[] #[], .func (.func 144) #[] #[]]) (.int .i64 1)).run Tryd.prog W = .ok (.func (.func 154) #[] #[]) W := by kernel_rfl
@[local go_sem] theorem idx_2 (W : World) : (Instr.index 221 (.agg #[.func (.func 143) #[] #[], .func (.func 154) #[] #[], .func (.func 155) #[] #[], .func (.func 144) #[] #[]]) (.int .i64 2)).run Tryd.prog W = .ok (.func (.func 155) #[] #[]) W := by kernel_rfl
@[local go_sem] theorem idx_3 (W : World) : (Instr.index 221 (.agg #[.func (.func 143) #[] #[], .func (.func 154) #[] #[], .func (.func 155) #[] #[], .func (.func 144) #[] #[]]) (.int .i64 3)).run Tryd.prog W = .ok (.func (.func 144) #[] #[]) W := by kernel_rfl

set_option maxRecDepth 100000 in
set_option maxHeartbeats 400000 in
theorem over_0 (x y : Int) (hx : 0 ≤ x ∧ x ≤ 9) (hy : 0 ≤ y ∧ y ≤ 9) (w : World) :
    Calls Tryd.prog 142 #[.agg (arr 2 (sp x y)), .int .i64 0] w fun e w' => e = .returned (.agg (arr 2 (sp (x) (y - 1)))) ∧ Below w.heap.size w w' := by
  have hM := Mem.nil w
  have tk_b1 : True := trivial; have tk_b2 : True := trivial
  go_enter Tryd.func142, Tryd.ntmps142
  go_wp2_with (first | (have _t := tk_b1; refine wpList_box rfl _ _ rfl _ _ rfl hM ?_; intro b1 W' hb1 hM'; clear hM tk_b1; have hM := hM'; clear hM') | (have _t := tk_b2; refine wpList_zero rfl _ rfl (zeroTab _ _ _ rfl) hM ?_; intro b2 W' hb2 hM'; clear hM tk_b2; have hM := hM'; clear hM'))
  ((try simp only [Act.put, List.setIfInBounds_toArray, List.set_cons_succ, List.set_cons_zero]); refine region_head_mem (m := 5) (by kernel_rfl) (by kernel_rfl) hM ?_; clear hM; simp only [List.take_succ_cons, List.take_zero, List.drop_succ_cons, List.drop_zero]; (repeat (first | go_big_quiet_skip | (go_big_quiet_want; first | (refine quiet_get _ _ rfl _ _ rfl 1 rfl (rowTab _ _ rfl) (by omega) ?_; (simp only [Act.put, List.setIfInBounds_toArray, List.set_cons_succ, List.set_cons_zero]); go_big_quiet_on) | (refine quiet_call ?_; apply Exists.intro; apply Exists.intro; apply Exists.intro; refine ⟨fun W => ?_, fun W hM => ?_, ?_⟩; (go_simp; exact ⟨rfl, rfl⟩); (exact overSides_lit W); (simp only [Act.put, List.setIfInBounds_toArray, List.set_cons_succ, List.set_cons_zero]); go_big_quiet_on) | (refine quiet_call ?_; apply Exists.intro; apply Exists.intro; apply Exists.intro; refine ⟨fun W => ?_, fun W hM => ?_, ?_⟩; (go_simp; exact ⟨rfl, rfl⟩); (exact north_any x y hx hy W); (simp only [Act.put, List.setIfInBounds_toArray, List.set_cons_succ, List.set_cons_zero]); go_big_quiet_on) | (refine quiet_val ?_; apply Exists.intro; refine ⟨fun W => ?_, ?_⟩; (go_simp; rfl); (simp only [Act.put, List.setIfInBounds_toArray, List.set_cons_succ, List.set_cons_zero]); go_big_quiet_on)))); (with_reducible refine wpQuiet_nil ?_); intro W' hM)
  go_wp2_with (first | (refine wpList_lay rfl _ _ _ rfl _ _ rfl _ _ rfl hM 0 rfl (by assumption) (rowTab _ _ rfl) (by omega) ?_ ?_; (first | (intro _ _; rfl) | (intro k _; exact h1 _) | (intro k _; simp only [lay, upd]; (repeat' split) <;> first | exact h1 _ | rfl)); intro W' hM'; clear hM; have hM := hM'; clear hM'; simp only [List.set] at hM))
  exact bodyPost_ret (results_at rfl _ rfl ((hM.ats 0 _ _ _ rfl).congr (lay_sp _ _ _)) (rowTab _ _ rfl)) rfl ⟨rfl, hM.below⟩
set_option maxRecDepth 100000 in
set_option maxHeartbeats 400000 in
theorem over_1 (x y : Int) (hx : 0 ≤ x ∧ x ≤ 9) (hy : 0 ≤ y ∧ y ≤ 9) (w : World) :
    Calls Tryd.prog 142 #[.agg (arr 2 (sp x y)), .int .i64 1] w fun e w' => e = .returned (.agg (arr 2 (sp (x + 1) (y)))) ∧ Below w.heap.size w w' := by
  have hM := Mem.nil w
  have tk_b1 : True := trivial; have tk_b2 : True := trivial
  go_enter Tryd.func142, Tryd.ntmps142
  go_wp2_with (first | (have _t := tk_b1; refine wpList_box rfl _ _ rfl _ _ rfl hM ?_; intro b1 W' hb1 hM'; clear hM tk_b1; have hM := hM'; clear hM') | (have _t := tk_b2; refine wpList_zero rfl _ rfl (zeroTab _ _ _ rfl) hM ?_; intro b2 W' hb2 hM'; clear hM tk_b2; have hM := hM'; clear hM'))
  ((try simp only [Act.put, List.setIfInBounds_toArray, List.set_cons_succ, List.set_cons_zero]); refine region_head_mem (m := 5) (by kernel_rfl) (by kernel_rfl) hM ?_; clear hM; simp only [List.take_succ_cons, List.take_zero, List.drop_succ_cons, List.drop_zero]; (repeat (first | go_big_quiet_skip | (go_big_quiet_want; first | (refine quiet_get _ _ rfl _ _ rfl 1 rfl (rowTab _ _ rfl) (by omega) ?_; (simp only [Act.put, List.setIfInBounds_toArray, List.set_cons_succ, List.set_cons_zero]); go_big_quiet_on) | (refine quiet_call ?_; apply Exists.intro; apply Exists.intro; apply Exists.intro; refine ⟨fun W => ?_, fun W hM => ?_, ?_⟩; (go_simp; exact ⟨rfl, rfl⟩); (exact overSides_lit W); (simp only [Act.put, List.setIfInBounds_toArray, List.set_cons_succ, List.set_cons_zero]); go_big_quiet_on) | (refine quiet_call ?_; apply Exists.intro; apply Exists.intro; apply Exists.intro; refine ⟨fun W => ?_, fun W hM => ?_, ?_⟩; (go_simp; exact ⟨rfl, rfl⟩); (exact east_any x y hx hy W); (simp only [Act.put, List.setIfInBounds_toArray, List.set_cons_succ, List.set_cons_zero]); go_big_quiet_on) | (refine quiet_val ?_; apply Exists.intro; refine ⟨fun W => ?_, ?_⟩; (go_simp; rfl); (simp only [Act.put, List.setIfInBounds_toArray, List.set_cons_succ, List.set_cons_zero]); go_big_quiet_on)))); (with_reducible refine wpQuiet_nil ?_); intro W' hM)
  go_wp2_with (first | (refine wpList_lay rfl _ _ _ rfl _ _ rfl _ _ rfl hM 0 rfl (by assumption) (rowTab _ _ rfl) (by omega) ?_ ?_; (first | (intro _ _; rfl) | (intro k _; exact h1 _) | (intro k _; simp only [lay, upd]; (repeat' split) <;> first | exact h1 _ | rfl)); intro W' hM'; clear hM; have hM := hM'; clear hM'; simp only [List.set] at hM))
  exact bodyPost_ret (results_at rfl _ rfl ((hM.ats 0 _ _ _ rfl).congr (lay_sp _ _ _)) (rowTab _ _ rfl)) rfl ⟨rfl, hM.below⟩
set_option maxRecDepth 100000 in
set_option maxHeartbeats 400000 in
theorem over_2 (x y : Int) (hx : 0 ≤ x ∧ x ≤ 9) (hy : 0 ≤ y ∧ y ≤ 9) (w : World) :
    Calls Tryd.prog 142 #[.agg (arr 2 (sp x y)), .int .i64 2] w fun e w' => e = .returned (.agg (arr 2 (sp (x) (y + 1)))) ∧ Below w.heap.size w w' := by
  have hM := Mem.nil w
  have tk_b1 : True := trivial; have tk_b2 : True := trivial
  go_enter Tryd.func142, Tryd.ntmps142
  go_wp2_with (first | (have _t := tk_b1; refine wpList_box rfl _ _ rfl _ _ rfl hM ?_; intro b1 W' hb1 hM'; clear hM tk_b1; have hM := hM'; clear hM') | (have _t := tk_b2; refine wpList_zero rfl _ rfl (zeroTab _ _ _ rfl) hM ?_; intro b2 W' hb2 hM'; clear hM tk_b2; have hM := hM'; clear hM'))
  ((try simp only [Act.put, List.setIfInBounds_toArray, List.set_cons_succ, List.set_cons_zero]); refine region_head_mem (m := 5) (by kernel_rfl) (by kernel_rfl) hM ?_; clear hM; simp only [List.take_succ_cons, List.take_zero, List.drop_succ_cons, List.drop_zero]; (repeat (first | go_big_quiet_skip | (go_big_quiet_want; first | (refine quiet_get _ _ rfl _ _ rfl 1 rfl (rowTab _ _ rfl) (by omega) ?_; (simp only [Act.put, List.setIfInBounds_toArray, List.set_cons_succ, List.set_cons_zero]); go_big_quiet_on) | (refine quiet_call ?_; apply Exists.intro; apply Exists.intro; apply Exists.intro; refine ⟨fun W => ?_, fun W hM => ?_, ?_⟩; (go_simp; exact ⟨rfl, rfl⟩); (exact overSides_lit W); (simp only [Act.put, List.setIfInBounds_toArray, List.set_cons_succ, List.set_cons_zero]); go_big_quiet_on) | (refine quiet_call ?_; apply Exists.intro; apply Exists.intro; apply Exists.intro; refine ⟨fun W => ?_, fun W hM => ?_, ?_⟩; (go_simp; exact ⟨rfl, rfl⟩); (exact south_any x y hx hy W); (simp only [Act.put, List.setIfInBounds_toArray, List.set_cons_succ, List.set_cons_zero]); go_big_quiet_on) | (refine quiet_val ?_; apply Exists.intro; refine ⟨fun W => ?_, ?_⟩; (go_simp; rfl); (simp only [Act.put, List.setIfInBounds_toArray, List.set_cons_succ, List.set_cons_zero]); go_big_quiet_on)))); (with_reducible refine wpQuiet_nil ?_); intro W' hM)
  go_wp2_with (first | (refine wpList_lay rfl _ _ _ rfl _ _ rfl _ _ rfl hM 0 rfl (by assumption) (rowTab _ _ rfl) (by omega) ?_ ?_; (first | (intro _ _; rfl) | (intro k _; exact h1 _) | (intro k _; simp only [lay, upd]; (repeat' split) <;> first | exact h1 _ | rfl)); intro W' hM'; clear hM; have hM := hM'; clear hM'; simp only [List.set] at hM))
  exact bodyPost_ret (results_at rfl _ rfl ((hM.ats 0 _ _ _ rfl).congr (lay_sp _ _ _)) (rowTab _ _ rfl)) rfl ⟨rfl, hM.below⟩
set_option maxRecDepth 100000 in
set_option maxHeartbeats 400000 in
theorem over_3 (x y : Int) (hx : 0 ≤ x ∧ x ≤ 9) (hy : 0 ≤ y ∧ y ≤ 9) (w : World) :
    Calls Tryd.prog 142 #[.agg (arr 2 (sp x y)), .int .i64 3] w fun e w' => e = .returned (.agg (arr 2 (sp (x - 1) (y)))) ∧ Below w.heap.size w w' := by
  have hM := Mem.nil w
  have tk_b1 : True := trivial; have tk_b2 : True := trivial
  go_enter Tryd.func142, Tryd.ntmps142
  go_wp2_with (first | (have _t := tk_b1; refine wpList_box rfl _ _ rfl _ _ rfl hM ?_; intro b1 W' hb1 hM'; clear hM tk_b1; have hM := hM'; clear hM') | (have _t := tk_b2; refine wpList_zero rfl _ rfl (zeroTab _ _ _ rfl) hM ?_; intro b2 W' hb2 hM'; clear hM tk_b2; have hM := hM'; clear hM'))
  ((try simp only [Act.put, List.setIfInBounds_toArray, List.set_cons_succ, List.set_cons_zero]); refine region_head_mem (m := 5) (by kernel_rfl) (by kernel_rfl) hM ?_; clear hM; simp only [List.take_succ_cons, List.take_zero, List.drop_succ_cons, List.drop_zero]; (repeat (first | go_big_quiet_skip | (go_big_quiet_want; first | (refine quiet_get _ _ rfl _ _ rfl 1 rfl (rowTab _ _ rfl) (by omega) ?_; (simp only [Act.put, List.setIfInBounds_toArray, List.set_cons_succ, List.set_cons_zero]); go_big_quiet_on) | (refine quiet_call ?_; apply Exists.intro; apply Exists.intro; apply Exists.intro; refine ⟨fun W => ?_, fun W hM => ?_, ?_⟩; (go_simp; exact ⟨rfl, rfl⟩); (exact overSides_lit W); (simp only [Act.put, List.setIfInBounds_toArray, List.set_cons_succ, List.set_cons_zero]); go_big_quiet_on) | (refine quiet_call ?_; apply Exists.intro; apply Exists.intro; apply Exists.intro; refine ⟨fun W => ?_, fun W hM => ?_, ?_⟩; (go_simp; exact ⟨rfl, rfl⟩); (exact west_any x y hx hy W); (simp only [Act.put, List.setIfInBounds_toArray, List.set_cons_succ, List.set_cons_zero]); go_big_quiet_on) | (refine quiet_val ?_; apply Exists.intro; refine ⟨fun W => ?_, ?_⟩; (go_simp; rfl); (simp only [Act.put, List.setIfInBounds_toArray, List.set_cons_succ, List.set_cons_zero]); go_big_quiet_on)))); (with_reducible refine wpQuiet_nil ?_); intro W' hM)
  go_wp2_with (first | (refine wpList_lay rfl _ _ _ rfl _ _ rfl _ _ rfl hM 0 rfl (by assumption) (rowTab _ _ rfl) (by omega) ?_ ?_; (first | (intro _ _; rfl) | (intro k _; exact h1 _) | (intro k _; simp only [lay, upd]; (repeat' split) <;> first | exact h1 _ | rfl)); intro W' hM'; clear hM; have hM := hM'; clear hM'; simp only [List.set] at hM))
  exact bodyPost_ret (results_at rfl _ rfl ((hM.ats 0 _ _ _ rfl).congr (lay_sp _ _ _)) (rowTab _ _ rfl)) rfl ⟨rfl, hM.below⟩
end Go.Proofs.YtcdpdcjdjcbhcaaDoor

/-
  spec.l01Next by contracts.
-/
namespace Go.Proofs.YtcdpdcjdjcbhcaaDoor
open Go Go.RowKit Go.BigFrame

end Go.Proofs.YtcdpdcjdjcbhcaaDoor

/-
  (impl.Pasture).cells and its iterator, by contract: all cells come in their order, unless a round says 'no more'.
-/
namespace Go.Proofs.YtcdpdcjdjcbhcaaDoor
open Go Go.RowKit Go.Shelf Go.BigFrame
attribute [local go_sem] Oper.semAt_some

/-- A cell of a pasture that is W wide and H high. -/
abbrev Cell (W H : Nat) := { s : Nat × Nat // s.1 < W ∧ s.2 < H }
def encC {W H : Nat} (c : Cell W H) : Array Value := #[.agg (arr 2 (sp c.1.1 c.1.2))]
/-- The i-th cell in their order. -/
def cellAt (W i : Nat) : Nat × Nat := (i % W, i / W)
def upto (W i : Nat) : List (Nat × Nat) := (List.range i).map (cellAt W)
theorem upto_succ (W i : Nat) : upto W (i + 1) = upto W i ++ [cellAt W i] := by simp [upto, List.range_succ]
theorem cellAt_row {W k j : Nat} (h : j < W) : cellAt W (k * W + j) = (j, k) := by
  unfold cellAt
  rw [Nat.mul_comm k W, Nat.mul_add_mod, Nat.mod_eq_of_lt h, Nat.mul_add_div (by omega), Nat.div_eq_of_lt h]; simp

/-- What a round that goes on keeps: the pasture itself. -/
def KpP (bp : Nat) (g : Nat → Int) (A B : World) : Prop := At A bp 122 (pas g) → At B bp 122 (pas g)

def CellsIn {W H : Nat} (J : List (Cell W H) → World → Prop) (bp : Nat) (g : Nat → Int) (i : Nat) (wr : World) : Prop :=
  ∃ pre : List (Cell W H), pre.map (·.1) = upto W i ∧ J pre wr ∧ At wr bp 122 (pas g)
def CellsOut {W H : Nat} (J : List (Cell W H) → World → Prop) (bp : Nat) (g : Nat → Int) (y : Value) (wr : World) : Prop := ∃ k : Nat, k ≤ H ∧ y = .int .i8 k ∧ CellsIn J bp g (k * W) wr
def CellsRow {W H : Nat} (J : List (Cell W H) → World → Prop) (bp : Nat) (g : Nat → Int) (k : Nat) (x : Value) (wr : World) : Prop := ∃ j : Nat, j ≤ W ∧ x = .int .i8 j ∧ CellsIn J bp g (k * W + j) wr

set_option maxHeartbeats 1000000 in
theorem cells1_in (F : Fence) (n : Nat) (hf : F.fn 105) (hro : F.round = none) (hn : 1 ≤ n) (l bp : Nat) (W H : Nat) (hW10 : W ≤ 10) (hH10 : H ≤ 10) (g : Nat → Int) (hg0 : g 0 = W) (hg1 : g 1 = H)
    (J Jx : List (Cell W H) → World → Prop)
    (hY : ∀ pre x W1, J pre W1 → pre.length < W * H → YieldAt F (n - 1) Tryd.prog l (encC x) W1 fun e W' =>
      (e = .returned (.bool true) ∧ J (pre ++ [x]) W' ∧ KpP bp g W1 W') ∨ (e = .returned (.bool false) ∧ Jx (pre ++ [x]) W'))
    (w : World) (hA : At w bp 122 (pas g)) (h0 : J [] w) :
    CallsIn F n Tryd.prog 105 #[.func (.yield l) #[] #[], .pointer (some ⟨bp, 0, none⟩)] w fun e W' => (∃ v, e = .returned v) ∧
      ((∃ xs : List (Cell W H), xs.map (·.1) = upto W (W * H) ∧ J xs W') ∨ (∃ pre : List (Cell W H), (∃ i, i ≤ W * H ∧ pre.map (·.1) = upto W i) ∧ Jx pre W')) := by
  refine callsIn_of_wp Tryd.func105 rfl hf ?_ hro
  simp only [Tryd.ntmps105, List.size_toArray, List.length_cons, List.length_nil, Nat.reduceAdd, Nat.reduceSub, Array.replicate_succ, Array.replicate_zero, List.push_toArray, List.append_toArray, List.nil_append, List.cons_append]
  have c1 : w.cell? ⟨bp, 1, none⟩ = some (.int .i8 (H : Int)) := by rw [← hg1]; exact hA.cell (by omega)
  gi_wp2
  gi_loopw [7] (fun y wr => CellsOut J bp g y wr) (fun y _ => H - (intOf y).toNat)
  case atStart => exact ⟨0, by omega, rfl, [], by simp [upto], h0, hA⟩
  case round =>
    clear c1
    obtain ⟨k, hk, rfl, pre, hpre, hJ, hAr⟩ := hrel
    by_cases hlt : k < H
    · have hkd : decide ((k : Int) < H) = true := decide_eq_true (by omega)
      have c0 : wr.cell? ⟨bp, 0, none⟩ = some (.int .i8 (W : Int)) := by rw [← hg0]; exact hAr.cell (by omega)
      gi_wp2
      gi_loopw [12] (fun x wr => CellsRow J bp g k x wr) (fun x _ => W - (intOf x).toNat)
      case atStart => exact ⟨0, by omega, rfl, pre, hpre, hJ, hAr⟩
      case round =>
        clear c0
        obtain ⟨j, hj, rfl, pre2, hpre2, hJ2, hA2⟩ := hrel
        by_cases hjl : j < W
        · have hjd : decide ((j : Int) < W) = true := decide_eq_true (by omega)
          have hsp : #[Value.int .i8 (j : Int), Value.int .i8 (k : Int)] = arr 2 (sp j k) := rfl
          have hlen : pre2.length = k * W + j := by have := congrArg List.length hpre2; simpa [upto] using this
          have hbd : k * W + j < W * H := by
            have := Nat.mul_le_mul_right W (show k + 1 ≤ H by omega)
            rw [Nat.add_mul, Nat.one_mul, Nat.mul_comm H W] at this; omega
          have hnext : (pre2 ++ [(⟨(j, k), hjl, hlt⟩ : Cell W H)]).map (·.1) = upto W (k * W + j + 1) := by
            rw [List.map_append, hpre2, upto_succ, cellAt_row hjl]; rfl
          obtain ⟨fn, tmps, assign, body, hy, hR⟩ := hY pre2 ⟨(j, k), hjl, hlt⟩ _ hJ2 (by omega)
          dsimp only [encC] at hy
          have Hb := Lib.hid hbd
          have Hn := Lib.hid hnext
          have Hl := Lib.hid hlen
          clear hbd hnext hlen
          gi_wp2
          refine hR.mono ?_
          rintro e W3 (⟨rfl, hJ3, hk3⟩ | ⟨rfl, hJx3⟩)
          · gi_wp2
            go_roundw
            case rel => exact (⟨j + 1, by omega, by go_num, _, Hn.out, hJ3, hk3 hA2⟩ : CellsRow J bp g k _ _)
            case measure => simp [intOf]; omega
          · gi_wp2
            refine bodyPost_ret (results_none rfl _ _ _) rfl ?_
            exact ⟨⟨_, rfl⟩, .inr ⟨_, ⟨_, Hb.out, Hn.out⟩, hJx3⟩⟩
        · obtain rfl : j = W := by omega
          gi_wp2
          go_roundw
          case rel => exact (⟨k + 1, by omega, by go_num, pre2, by rw [hpre2, Nat.add_mul, Nat.one_mul], hJ2, hA2⟩ : CellsOut J bp g _ _)
          case measure => simp [intOf]; omega
    · obtain rfl : k = H := by omega
      gi_wp2
      go_end0
      exact ⟨⟨_, rfl⟩, .inl ⟨pre, by rw [hpre, Nat.mul_comm], hJ⟩⟩

def CellsGiven (g : Nat → Int) (w : World) (e : Ending) (w' : World) : Prop := ∃ b, e = .returned (.func (.func 105) #[] #[.pointer (some ⟨b, 0, none⟩)]) ∧ w.heap.size ≤ b ∧ At w' b 122 (pas g) ∧ Below w.heap.size w w'
theorem cells_any (g : Nat → Int) (w : World) : Calls Tryd.prog 69 #[.agg (arr 122 (pas g))] w (CellsGiven g w) := by
  have hM := Mem.nil w
  have tk_b1 : True := trivial
  go_enter Tryd.func69, Tryd.ntmps69
  go_wp2_with (first | (have _t := tk_b1; refine wpList_box rfl _ _ rfl _ _ rfl hM ?_; intro b1 W' hb1 hM'; clear hM tk_b1; have hM := hM'; clear hM'))
  go_ret
  exact ⟨b1, rfl, hb1, hM.at0, hM.below⟩

theorem cells_stops (F : Fence) (n : Nat) (hf : F.fn 105) (hro : F.round = none) (hn : 1 ≤ n) (bp W H : Nat) (hW10 : W ≤ 10) (hH10 : H ≤ 10) (g : Nat → Int) (hg0 : g 0 = W) (hg1 : g 1 = H) (w : World) (hA : At w bp 122 (pas g)) :
    SeqStopsK F n Tryd.prog 105 #[.pointer (some ⟨bp, 0, none⟩)] (encC (W := W) (H := H)) (KpP bp g) (fun xs => xs.map (·.1) = upto W (W * H)) (fun pre => ∃ i, i ≤ W * H ∧ pre.map (·.1) = upto W i) (W * H) w :=
  fun l J Jx W' hb _ _ hY h0 => cells1_in F n hf hro hn l bp W H hW10 hH10 g hg0 hg1 J Jx hY W' (hA.below hb hA.lt) h0

theorem kpP_t {bp : Nat} {g : Nat → Int} {A B C : World} (h : KpP bp g A B) (k : KpP bp g B C) : KpP bp g A C := fun x => k (h x)
theorem kpP_b {bp : Nat} {g : Nat → Int} (W : World) (l : Nat) (o o' : Obj) (h : W.heap[l]? = some o) (ho : o.isCells = false) : KpP bp g W (W.putObj l o') := fun hA =>
  hA.grown (grownBy_putObj' W l o') (fun r e => by cases e; exact ⟨o, h, ho⟩)
end Go.Proofs.YtcdpdcjdjcbhcaaDoor

/-
  impl.hasValidHurdles by contract.
-/
namespace Go.Proofs.YtcdpdcjdjcbhcaaDoor
open Go Go.RowKit Go.BigFrame

/-- Are bits set only where they may be? -/
def hurB (g : Nat → Int) : Bool := (List.range 10).all fun y => !badE g y && !badS g y
theorem hurB_no {g : Nat → Int} {y : Nat} (hy : y < 10) (h : badE g y = true ∨ badS g y = true) : hurB g = false := by
  unfold hurB; rw [List.all_eq_false]; exact ⟨y, by simpa using hy, by rcases h with h | h <;> simp [h]⟩
theorem hurB_yes {g : Nat → Int} (h : ∀ y, y < 10 → badE g y = false ∧ badS g y = false) : hurB g = true := by
  unfold hurB; rw [List.all_eq_true]; intro y hy; have := h y (by simpa using hy); simp [this.1, this.2]
theorem badE_in' {g : Nat → Int} {k : Nat} (h : (k : Int) < g 1) : badE g k = (bits .andNot .u16 (g (102 + k)) (mask g / 2) != 0) := by simp [badE, h]
theorem badS_in' {g : Nat → Int} {k : Nat} (h : (k : Int) < g 1 - 1) : badS g k = (bits .andNot .u16 (g (112 + k)) (mask g) != 0) := by simp [badS, h]
theorem mask_half {g : Nat → Int} (h : 1 ≤ g 0 ∧ g 0 ≤ 10) : IntKind.u16.wrap (IntKind.u16.wrap (2 ^ ((g 0).toNat - 1)) - 1) = mask g / 2 := by
  unfold mask
  have : g 0 = 1 ∨ g 0 = 2 ∨ g 0 = 3 ∨ g 0 = 4 ∨ g 0 = 5 ∨ g 0 = 6 ∨ g 0 = 7 ∨ g 0 = 8 ∨ g 0 = 9 ∨ g 0 = 10 := by omega
  rcases this with e | e | e | e | e | e | e | e | e | e <;> rw [e] <;> decide
theorem mask_whole (g : Nat → Int) : IntKind.u16.wrap (IntKind.u16.wrap (2 ^ (g 0).toNat) - 1) = mask g := rfl

theorem badE_f {g : Nat → Int} {k : Nat} (h : ((k : Int) < g 1 ∧ bits .andNot .u16 (g (102 + k)) (mask g / 2) = 0) ∨ (g 1 ≤ (k : Int) ∧ bits .andNot .u16 (g (102 + k)) 0 = 0)) : badE g k = false := by
  rcases h with ⟨h, e⟩ | ⟨h, e⟩
  · rw [badE_in' h, e]; rfl
  · rw [badE_out h, e]; rfl
theorem badE_t {g : Nat → Int} {k : Nat} (h : ((k : Int) < g 1 ∧ ¬ bits .andNot .u16 (g (102 + k)) (mask g / 2) = 0) ∨ (g 1 ≤ (k : Int) ∧ ¬ bits .andNot .u16 (g (102 + k)) 0 = 0)) : badE g k = true := by
  rcases h with ⟨h, e⟩ | ⟨h, e⟩
  · rw [badE_in' h]; simpa using e
  · rw [badE_out h]; simpa using e

def HurIn (w : World) (g : Nat → Int) (b1 : Nat) (x : Value) (wr : World) : Prop := ∃ k : Nat, k ≤ 10 ∧ x = .int .i8 k ∧ (∀ i, i < k → badE g i = false ∧ badS g i = false) ∧ Mem w [(b1, 122, pas g)] wr
theorem HurIn.step {w : World} {g : Nat → Int} {b1 k : Nat} {W : World} (hk : k < 10) (h : ∀ i, i < k → badE g i = false ∧ badS g i = false) (hE : badE g k = false) (hS : badS g k = false) (hM : Mem w [(b1, 122, pas g)] W) : HurIn w g b1 (.int .i8 ((k : Int) + 1)) W :=
  ⟨k + 1, by omega, by go_num, fun i hi => by
    by_cases e : i = k
    · rw [e]; exact ⟨hE, hS⟩
    · exact h i (by omega), hM⟩

set_option maxRecDepth 100000 in
set_option maxHeartbeats 2000000 in
theorem hasValidHurdles_any (g : Nat → Int) (hg : Fits g) (h0 : 1 ≤ g 0 ∧ g 0 ≤ 10) (h1 : 1 ≤ g 1 ∧ g 1 ≤ 10) (w : World) :
    Calls Tryd.prog 104 #[.agg (arr 122 (pas g))] w fun e w' => e = .returned (.bool (hurB g)) ∧ Below w.heap.size w w' := by
  have hM := Mem.nil w
  obtain ⟨hw, hh, hgr, hbt⟩ := hg
  have Hbt := Lib.hid hbt
  clear hgr hbt
  have e0 : pas g 0 = .int .i8 (g 0) := rfl
  have e1 : pas g 1 = .int .i8 (g 1) := rfl
  have m1 := mask_half h0
  have m2 := mask_whole g
  have tk_b1 : True := trivial
  go_enter Tryd.func104, Tryd.ntmps104
  go_wp2_with (first | (have _t := tk_b1; refine wpList_box rfl _ _ rfl _ _ rfl hM ?_; intro b1 W' hb1 hM'; clear hM tk_b1; have hM := hM'; clear hM'))
  go_loopw [6] (fun y wr => HurIn w g b1 y wr) (fun y _ => 10 - (intOf y).toNat)
  case atStart => exact ⟨0, by omega, rfl, fun i hi => absurd hi (by omega), hM⟩
  case round =>
    clear hM
    obtain ⟨k, hk, rfl, hrows0, hM⟩ := hrel
    have hrows := Lib.hid hrows0
    clear hrows0
    by_cases hlt : k < 10
    · have hkd : decide ((k : Int) < 10) = true := decide_eq_true (by omega)
      have eE : pas g (102 + k) = .int .u16 (g (102 + k)) := pas_u16 g (by omega)
      have eS : pas g (112 + k) = .int .u16 (g (112 + k)) := pas_u16 g (by omega)
      have hE := Hbt.out (102 + k) (by omega) (by omega)
      have hS := Hbt.out (112 + k) (by omega) (by omega)
      go_wp2_with (first | (refine wpList_get1 rfl _ _ rfl _ _ rfl hM 0 rfl (cellTab _ rfl) (by omega) _ rfl ?_) | (refine wpList_gget1 ?_ _ _ rfl _ _ rfl hM 0 rfl (cellTab _ rfl) (by omega) _ rfl ?_; kernel_rfl))
      all_goals first
        | (go_ret; exact ⟨ret_bool (hurB_no hlt (.inr (by first | (rw [badS_in' (by assumption)]; assumption) | (rw [badS_out (by assumption)]; assumption)))).symm, hM.below⟩)
        | (go_ret; exact ⟨ret_bool (hurB_no hlt (.inl (badE_t (by first | exact .inl ⟨by assumption, by assumption⟩ | exact .inr ⟨by assumption, by assumption⟩)))).symm, hM.below⟩)
        | skip
      all_goals
        have fE : badE g k = false := badE_f (by first | exact .inl ⟨by assumption, by assumption⟩ | exact .inr ⟨by assumption, by assumption⟩)
        have fS : badS g k = false := by first | (rw [badS_in' (by assumption)]; assumption) | (rw [badS_out (by assumption)]; assumption)
        go_roundw
        case rel => first | exact HurIn.step hlt hrows.out fE fS hM | ((repeat apply Exists.intro); exact ⟨HurIn.step hlt hrows.out fE fS hM, rfl⟩)
        case measure => simp [intOf]; omega
    · obtain rfl : k = 10 := by omega
      have hf : Hid (hurB g = true) := Lib.hid (hurB_yes hrows.out)
      go_wp2
      go_ret
      exact ⟨ret_bool hf.out.symm, hM.below⟩
end Go.Proofs.YtcdpdcjdjcbhcaaDoor

/-
  '==' on rows of integers, rows of such rows, and pastures.
-/
namespace Go.Proofs.YtcdpdcjdjcbhcaaDoor
open Go Go.RowKit
variable {P : Program}

theorem run_part_cell {e : TypeId} {κ : IntKind} (hu : P.underlying e = some (.int κ)) {n i : Nat} {f : Nat → Value} (hi : i < n) (W : World) : (part e (arr n f) i).run P W = .ok (f i) W := by
  have hagg : (isAgg e).run P W = .ok false W := by
    unfold isAgg; rw [Sem.run_bind, run_underlying hu W]; rfl
  simp only [part, Sem.run_bind, hagg, Result.andThen_ok, Bool.false_eq_true, if_false, arr_at hi, Sem.run_pure]
theorem run_part_row {e : TypeId} {m : Nat} (hT : RowT P e m) {n i : Nat} {f : Nat → Value} (hi : i + m ≤ n) (W : World) : (part e (arr n f) i).run P W = .ok (.agg (arr m (fun k => f (i + k)))) W := by
  obtain ⟨⟨d, hu, hd⟩, hm⟩ := hT
  have hagg : (isAgg e).run P W = .ok true W := by
    unfold isAgg; rw [Sem.run_bind, run_underlying hu W]; cases d <;> simp_all [TypeDesc.isRow]
  have hsz : (sizeOf e).run P W = .ok m W := by
    cases hq : P.info? e with
    | none => simp [hq] at hm
    | some i => simp [hq] at hm; simp [sizeOf, typeInfo, hq, hm]
  simp only [part, Sem.run_bind, hagg, Result.andThen_ok, if_true, hsz, Sem.run_pure, arr_extract hi]

theorem run_eqItems_ints (d : Nat) {e : TypeId} {κ : IntKind} (hu : P.underlying e = some (.int κ)) (hc : P.cellsOf e = 1) {n : Nat} (f g : Nat → Value) (a b : Nat → Int)
    (hf : ∀ k, k < n → f k = .int κ (a k)) (hg : ∀ k, k < n → g k = .int κ (b k)) (W : World) : ∀ is : List Nat, (∀ i ∈ is, i < n) →
    (Op.eqItems (d + 1) e (P.cellsOf e) (arr n f) (arr n g) is).run P W = .ok (is.all fun i => a i == b i) W
  | [], _ => by simp [Op.eqItems]
  | i :: is, h => by
    have hi := h i (by simp)
    simp only [Op.eqItems, Sem.run_bind, hc, Nat.mul_one, run_part_cell hu hi, Result.andThen_ok, hf i hi, hg i hi, run_equalIn_int W d e κ κ _ _ hu]
    cases hab : (a i == b i)
    · simp [hab]
    · have := run_eqItems_ints d hu hc f g a b hf hg W is (fun j hj => h j (by simp [hj]))
      rw [hc] at this
      simp [this, hab]

/-- Are the first n the same? -/
def eqTo (n : Nat) (a b : Nat → Int) : Bool := (List.range n).all fun i => a i == b i
theorem eqTo_iff {n : Nat} {a b : Nat → Int} : eqTo n a b = true ↔ ∀ k, k < n → a k = b k := by simp [eqTo]
theorem eqTo_congr {n : Nat} {a b a' b' : Nat → Int} (h : ∀ k, k < n → a k = a' k) (h' : ∀ k, k < n → b k = b' k) : eqTo n a b = eqTo n a' b' := by
  rw [Bool.eq_iff_iff, eqTo_iff, eqTo_iff]
  constructor
  · intro hh k hk; rw [← h k hk, ← h' k hk]; exact hh k hk
  · intro hh k hk; rw [h k hk, h' k hk]; exact hh k hk

theorem run_equalIn_row (d : Nat) {t e : TypeId} {κ : IntKind} {n : Nat} (ht : P.underlying t = some (.array n e)) (hu : P.underlying e = some (.int κ)) (hc : P.cellsOf e = 1) (f g : Nat → Value) (a b : Nat → Int)
    (hf : ∀ k, k < n → f k = .int κ (a k)) (hg : ∀ k, k < n → g k = .int κ (b k)) (W : World) : (Op.equalIn (d + 2) t (.agg (arr n f)) (.agg (arr n g))).run P W = .ok (eqTo n a b) W := by
  obtain ⟨i, hi⟩ := info_of_underlying hu
  rw [run_equalIn_array W (d + 1) _ _ ht hi, run_eqItems_ints d hu hc f g a b hf hg W _ (by simp)]
  rfl

theorem run_eqItems_rows (d : Nat) {t e : TypeId} {κ : IntKind} {m : Nat} (ht : P.underlying t = some (.array m e)) (hT : RowT P t m) (hcm : P.cellsOf t = m) (hu : P.underlying e = some (.int κ)) (hc : P.cellsOf e = 1) {n : Nat} (f g : Nat → Value) (a b : Nat → Int)
    (hf : ∀ k, k < n * m → f k = .int κ (a k)) (hg : ∀ k, k < n * m → g k = .int κ (b k)) (W : World) : ∀ is : List Nat, (∀ i ∈ is, i < n) →
    (Op.eqItems (d + 2) t (P.cellsOf t) (arr (n * m) f) (arr (n * m) g) is).run P W = .ok (is.all fun i => eqTo m (fun k => a (i * m + k)) (fun k => b (i * m + k))) W
  | [], _ => by simp [Op.eqItems]
  | i :: is, h => by
    have hi := h i (by simp)
    have hle : i * m + m ≤ n * m := by
      have := Nat.mul_le_mul_right m (show i + 1 ≤ n by omega)
      rw [Nat.add_mul, Nat.one_mul] at this; exact this
    have hrow := run_equalIn_row d ht hu hc (fun k => f (i * m + k)) (fun k => g (i * m + k)) (fun k => a (i * m + k)) (fun k => b (i * m + k)) (fun k hk => hf _ (by omega)) (fun k hk => hg _ (by omega)) W
    simp only [Op.eqItems, Sem.run_bind, hcm, run_part_row hT hle, Result.andThen_ok, hrow]
    cases hab : eqTo m (fun k => a (i * m + k)) (fun k => b (i * m + k))
    · simp [hab]
    · have := run_eqItems_rows d ht hT hcm hu hc f g a b hf hg W is (fun j hj => h j (by simp [hj]))
      rw [hcm] at this
      simp [this, hab]

theorem all_rows {n m : Nat} (a b : Nat → Int) (hm : 0 < m) : ((List.range n).all fun i => eqTo m (fun k => a (i * m + k)) (fun k => b (i * m + k))) = eqTo (n * m) a b := by
  rw [Bool.eq_iff_iff, eqTo_iff, List.all_eq_true]
  constructor
  · intro h k hk
    have hi : k / m < n := Nat.div_lt_of_lt_mul (by rw [Nat.mul_comm]; exact hk)
    have := (eqTo_iff.1 (h (k / m) (by simpa using hi))) (k % m) (Nat.mod_lt _ hm)
    have e : k / m * m + k % m = k := by rw [Nat.mul_comm]; exact Nat.div_add_mod k m
    rwa [e] at this
  · intro h i hi
    rw [eqTo_iff]
    intro k hk
    apply h
    have hi : i < n := by simpa using hi
    have := Nat.mul_le_mul_right m (show i + 1 ≤ n by omega)
    rw [Nat.add_mul, Nat.one_mul] at this; omega

theorem run_equalIn_rows (d : Nat) {u t e : TypeId} {κ : IntKind} {n m : Nat} (hu' : P.underlying u = some (.array n t)) (ht : P.underlying t = some (.array m e)) (hT : RowT P t m) (hcm : P.cellsOf t = m) (hu : P.underlying e = some (.int κ)) (hc : P.cellsOf e = 1) (hm : 0 < m) (f g : Nat → Value) (a b : Nat → Int)
    (hf : ∀ k, k < n * m → f k = .int κ (a k)) (hg : ∀ k, k < n * m → g k = .int κ (b k)) (W : World) : (Op.equalIn (d + 3) u (.agg (arr (n * m) f)) (.agg (arr (n * m) g))).run P W = .ok (eqTo (n * m) a b) W := by
  obtain ⟨i, hi⟩ := info_of_underlying ht
  rw [run_equalIn_array W (d + 2) _ _ hu' hi, run_eqItems_rows d ht hT hcm hu hc f g a b hf hg W _ (by simp), all_rows a b hm]

theorem cells_i16 : Tryd.prog.cellsOf 31 = 1 := by kernel_rfl
theorem cells_u16 : Tryd.prog.cellsOf 54 = 1 := by kernel_rfl
theorem cells_row : Tryd.prog.cellsOf 52 = 10 := by kernel_rfl

/-- '==' on [10][10]int16. -/
theorem run_equal_grass (f g : Nat → Value) (a b : Nat → Int) (hf : ∀ k, k < 100 → f k = .int .i16 (a k)) (hg : ∀ k, k < 100 → g k = .int .i16 (b k)) (W : World) (d : Nat) :
    (Op.equalIn (d + 3) 53 (.agg (arr 100 f)) (.agg (arr 100 g))).run Tryd.prog W = .ok (eqTo 100 a b) W :=
  run_equalIn_rows (n := 10) (m := 10) d Tryd.underlying53 Tryd.underlying52 (rowTab _ _ rfl) cells_row Tryd.underlying31 cells_i16 (by omega) f g a b hf hg W

/-- '==' on pastures. -/
theorem run_equal_pas (a b : Nat → Int) (W : World) :
    (Op.equalIn 10000 59 (.agg (arr 122 (pas a))) (.agg (arr 122 (pas b)))).run Tryd.prog W = .ok (eqTo 122 a b) W := by
  have hs := run_equalIn_struct (P := Tryd.prog) W 9999 59 (arr 122 (pas a)) (arr 122 (pas b)) (by rw [Program.fieldsOf, Tryd.underlying59]) (by kernel_rfl)
  rw [hs]
  have hf : (Tryd.prog.fieldsOf 59).toList = [
    { name := "Wide", type := 29, offset := 0, embedded := false, tag := "", pkgPath := "", byteOffset := 0 },
    { name := "High", type := 29, offset := 1, embedded := false, tag := "", pkgPath := "", byteOffset := 1 },
    { name := "Grass", type := 53, offset := 2, embedded := false, tag := "", pkgPath := "", byteOffset := 2 },
    { name := "East", type := 55, offset := 102, embedded := false, tag := "", pkgPath := "", byteOffset := 202 },
    { name := "South", type := 55, offset := 112, embedded := false, tag := "", pkgPath := "", byteOffset := 222 }] := by
    rw [Program.fieldsOf, Tryd.underlying59]
  rw [hf]
  have p0 := fun c => run_part_cell (P := Tryd.prog) Tryd.underlying29 (n := 122) (i := 0) (f := pas c) (by omega) W
  have p1 := fun c => run_part_cell (P := Tryd.prog) Tryd.underlying29 (n := 122) (i := 1) (f := pas c) (by omega) W
  have p2 := fun c => run_part_row (P := Tryd.prog) (rowTab 53 100 rfl) (n := 122) (i := 2) (f := pas c) (by omega) W
  have p3 := fun c => run_part_row (P := Tryd.prog) (rowTab 55 10 rfl) (n := 122) (i := 102) (f := pas c) (by omega) W
  have p4 := fun c => run_part_row (P := Tryd.prog) (rowTab 55 10 rfl) (n := 122) (i := 112) (f := pas c) (by omega) W
  have q0 := run_equalIn_int (P := Tryd.prog) W 9998 29 .i8 .i8 (a 0) (b 0) Tryd.underlying29
  have q1 := run_equalIn_int (P := Tryd.prog) W 9998 29 .i8 .i8 (a 1) (b 1) Tryd.underlying29
  have q2 := run_equal_grass (fun k => pas a (2 + k)) (fun k => pas b (2 + k)) (fun k => a (2 + k)) (fun k => b (2 + k)) (fun k hk => pas_i16 a (by omega) (by omega)) (fun k hk => pas_i16 b (by omega) (by omega)) W 9996
  have q3 := run_equalIn_row (P := Tryd.prog) (n := 10) 9997 Tryd.underlying55 Tryd.underlying54 cells_u16 (fun k => pas a (102 + k)) (fun k => pas b (102 + k)) (fun k => a (102 + k)) (fun k => b (102 + k)) (fun k hk => pas_u16 a (by omega)) (fun k hk => pas_u16 b (by omega)) W
  have q4 := run_equalIn_row (P := Tryd.prog) (n := 10) 9997 Tryd.underlying55 Tryd.underlying54 cells_u16 (fun k => pas a (112 + k)) (fun k => pas b (112 + k)) (fun k => a (112 + k)) (fun k => b (112 + k)) (fun k hk => pas_u16 a (by omega)) (fun k hk => pas_u16 b (by omega)) W
  have e0 : ∀ c : Nat → Int, pas c 0 = .int .i8 (c 0) := fun _ => rfl
  have e1 : ∀ c : Nat → Int, pas c 1 = .int .i8 (c 1) := fun _ => rfl
  simp only [Op.eqFields, ne_eq, Sem.run_bind, p0, p1, p2, p3, p4, Result.andThen_ok, e0, e1, q0, q1, q2, q3, q4, Sem.run_pure, Sem.run_ite]
  have key : eqTo 122 a b = ((a 0 == b 0) && (a 1 == b 1) && eqTo 100 (fun k => a (2 + k)) (fun k => b (2 + k)) && eqTo 10 (fun k => a (102 + k)) (fun k => b (102 + k)) && eqTo 10 (fun k => a (112 + k)) (fun k => b (112 + k))) := by
    rw [Bool.eq_iff_iff]
    simp only [Bool.and_eq_true, eqTo_iff, beq_iff_eq]
    constructor
    · intro h
      exact ⟨⟨⟨⟨h 0 (by omega), h 1 (by omega)⟩, fun k hk => h _ (by omega)⟩, fun k hk => h _ (by omega)⟩, fun k hk => h _ (by omega)⟩
    · rintro ⟨⟨⟨⟨h0, h1⟩, h2⟩, h3⟩, h4⟩ k hk
      by_cases k0 : k = 0
      · rw [k0]; exact h0
      by_cases k1 : k = 1
      · rw [k1]; exact h1
      by_cases k2 : k < 102
      · have := h2 (k - 2) (by omega); rwa [show 2 + (k - 2) = k by omega] at this
      by_cases k3 : k < 112
      · have := h3 (k - 102) (by omega); rwa [show 102 + (k - 102) = k by omega] at this
      · have := h4 (k - 112) (by omega); rwa [show 112 + (k - 112) = k by omega] at this
  rw [key]
  cases (a 0 == b 0) <;> cases (a 1 == b 1) <;> cases eqTo 100 (fun k => a (2 + k)) (fun k => b (2 + k)) <;> cases eqTo 10 (fun k => a (102 + k)) (fun k => b (102 + k)) <;> cases eqTo 10 (fun k => a (112 + k)) (fun k => b (112 + k)) <;> simp
end Go.Proofs.YtcdpdcjdjcbhcaaDoor

