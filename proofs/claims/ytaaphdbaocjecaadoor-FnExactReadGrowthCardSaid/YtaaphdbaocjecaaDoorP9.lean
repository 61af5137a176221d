/-
  Several texts in one: StakeQ, EqlSpot, StakeE, HasCell, Cells, OkI1, Grass, Valid, ValidB, StakeOk, StakeW, ReadStM, ReadStI, NumS.
-/
import Derived.Test.YtaaphdbaocjecaaDoorP8
import Derived.Test.YtaaphdbaocjecaaDoorP1
import Derived.Lib.Hide
import Derived.RangeFuncNested
import Derived.RangeFuncBound
import Derived.RangeFuncCalls
import Derived.RangeFuncLeaves
import Derived.Shelf.Abstract
import Derived.Shelf.RegionOpen
import Derived.WalkKit
import Derived.OwnWalkIn
import Derived.TacticsInMore
import Derived.LoopNIn
import Derived.LoopIn
import Derived.Test.YtaaphdbaocjecaaDoorP6
import Derived.Test.YtaaphdbaocjecaaDoorP3
import Derived.Test.YtaaphdbaocjecaaDoorP4
import Derived.Test.YtaaphdbaocjecaaDoorP5
import Derived.WideShapes
import Derived.Tactics
/-
  laws.eqStake, eqStakeS on what is equal.
-/
namespace Go.Proofs.YtaaphdbaocjecaaDoor
open Go Go.RowKit Go.BigFrame

theorem eqStakeSpot0 (h : Nat → Int) (w : World) :
    Calls Tryd.prog 36 #[.agg (arr 2 (fun k => vStake h (0 + k))), .agg (arr 2 (fun k => vStake h (0 + k)))] w fun e w' => e = .returned (.bool true) ∧ Below w.heap.size w w' := by
  rw [spStake0]
  exact eqSpot_same _ _ w

set_option maxRecDepth 100000 in
set_option maxHeartbeats 400000 in
theorem eqStake_same (h : Nat → Int) (w : World) :
    Calls Tryd.prog 23 #[.agg (arr 3 (vStake h)), .agg (arr 3 (vStake h))] w fun e w' => e = .returned (.bool true) ∧ Below w.heap.size w w' := by
  have hM := Mem.nil w
  have e2 : vStake h 2 = .int .i16 (h 2) := rfl
  have tk_b1 : True := trivial; have tk_b2 : True := trivial
  go_enter Tryd.func23, Tryd.ntmps23
  go_wp2_with (first | (have _t := tk_b1; refine wpList_box rfl _ _ rfl _ _ rfl hM ?_; intro b1 W' hb1 hM'; clear hM tk_b1; have hM := hM'; clear hM') | (have _t := tk_b2; refine wpList_box rfl _ _ rfl _ _ rfl hM ?_; intro b2 W' hb2 hM'; clear hM tk_b2; have hM := hM'; clear hM') | (refine wpList_get1 rfl _ _ rfl _ _ rfl hM 1 rfl (cellTab _ rfl) (by omega) _ rfl ?_) | (refine wpList_get1 rfl _ _ rfl _ _ rfl hM 0 rfl (cellTab _ rfl) (by omega) _ rfl ?_) | (refine wpList_get rfl _ _ rfl _ _ rfl hM 1 rfl (rowTab _ _ rfl) (by omega) ?_) | (refine wpList_get rfl _ _ rfl _ _ rfl hM 0 rfl (rowTab _ _ rfl) (by omega) ?_) | (first | (go_at_call 36; refine (eqStakeSpot0 h _).mono ?_; rintro e W' ⟨rfl, hb'⟩; have hM' := hM.call hb'; clear hM hb'; have hM := hM'; clear hM')))
  go_ret
  exact ⟨rfl, hM.below⟩

set_option maxRecDepth 100000 in
set_option maxHeartbeats 1000000 in
/-- eqStakeS of two lists that hold the same. -/
theorem eqStakeS_same (b b' n c c' : Nat) (hs : Nat → Nat → Int) (hn : n ≤ maxLen) (w : World) (hA : At w b (n * 3) (sStake hs)) (hA' : At w b' (n * 3) (sStake hs)) (hne : b ≠ b') :
    Calls Tryd.prog 10 #[.slice (some ⟨b, 0, none⟩) n c, .slice (some ⟨b', 0, none⟩) n c'] w fun e w' => e = .returned (.bool true) ∧ Below w.heap.size w w' := by
  have hM : Mem w [(b, n * 3, sStake hs), (b', n * 3, sStake hs)] w := ((Mem.nil w).old hA (fun i p h => by simp at h)).old hA' (fun i p h => by
    match i, h with
    | 0, h => simp at h; rw [← h]; exact hne
    | _ + 1, h => simp at h)
  unfold maxLen at hn
  clear hA hA'
  go_enter Tryd.func10, Tryd.ntmps10
  go_wp2
  go_loopw [5] (fun i wr => ∃ k : Nat, k ≤ n ∧ i = .int .i64 k ∧ Mem w [(b, n * 3, sStake hs), (b', n * 3, sStake hs)] wr) (fun i _ => n - (intOf i).toNat)
  case atStart => exact ⟨0, by omega, rfl, hM⟩
  case round =>
    clear hM
    obtain ⟨k, hk, rfl, hM⟩ := hrel
    by_cases hlt : k < n
    · have l2 : (k : Int) < n := by omega
      have er : arr 3 (fun j => sStake hs (k * 3 + j)) = arr 3 (vStake (hs k)) := arr_congr fun j hj => sStake_row hs k j hj
      go_wp2
      ((try simp only [Act.put, List.setIfInBounds_toArray, List.set_cons_succ, List.set_cons_zero]); refine wp_region_mem (by kernel_rfl) (by kernel_rfl) hM ?_; clear hM; (repeat (first | go_big_quiet_skip | (go_big_quiet_want; first | (refine quiet_get _ _ rfl _ _ rfl 1 rfl rowStake (by omega) ?_; (simp only [er]); (simp only [Act.put, List.setIfInBounds_toArray, List.set_cons_succ, List.set_cons_zero]); go_big_quiet_on) | (refine quiet_get _ _ rfl _ _ rfl 0 rfl rowStake (by omega) ?_; (simp only [er]); (simp only [Act.put, List.setIfInBounds_toArray, List.set_cons_succ, List.set_cons_zero]); go_big_quiet_on) | (refine quiet_call ?_; apply Exists.intro; apply Exists.intro; apply Exists.intro; refine ⟨fun W => ?_, fun W hM => ?_, ?_⟩; (go_simp; exact ⟨rfl, rfl⟩); (exact eqStake_same (hs k) W); (simp only [Act.put, List.setIfInBounds_toArray, List.set_cons_succ, List.set_cons_zero]); go_big_quiet_on) | (refine quiet_val ?_; apply Exists.intro; refine ⟨fun W => ?_, ?_⟩; (go_simp; (try simp only [l2, if_true, Bool.false_eq_true, if_false]); rfl); (simp only [Act.put, List.setIfInBounds_toArray, List.set_cons_succ, List.set_cons_zero]); go_big_quiet_on)))); (with_reducible refine wpQuiet_nil ?_); intro W' hM)
      go_wp2
      go_roundw
      case rel => exact ⟨k + 1, by omega, by go_num, hM⟩
      case measure => simp [intOf]; omega
    · obtain rfl : k = n := by omega
      go_wp2
      go_ret
      exact ⟨rfl, hM.below⟩
end Go.Proofs.YtaaphdbaocjecaaDoor

/-
  '==' on spots.
-/
namespace Go.Proofs.YtaaphdbaocjecaaDoor
open Go Go.RowKit Go.BigFrame

theorem run_equal_spot (x y x' y' : Int) (d : Nat) (W : World) :
    (Op.equalIn (d + 2) 49 (.agg (arr 2 (sp x y))) (.agg (arr 2 (sp x' y')))).run Tryd.prog W = .ok ((x == x') && (y == y')) W := by
  have hs := run_equalIn_struct (P := Tryd.prog) W (d + 1) 49 (arr 2 (sp x y)) (arr 2 (sp x' y')) (by rw [Program.fieldsOf, Tryd.underlying49]) (by kernel_rfl)
  rw [hs]
  have hf : (Tryd.prog.fieldsOf 49).toList = [
    { name := "X", type := 22, offset := 0, embedded := false, tag := "", pkgPath := "", byteOffset := 0 },
    { name := "Y", type := 22, offset := 1, embedded := false, tag := "", pkgPath := "", byteOffset := 1 }] := by
    rw [Program.fieldsOf, Tryd.underlying49]
  rw [hf]
  have p0 := fun c c' => run_part_cell (P := Tryd.prog) Tryd.underlying22 (n := 2) (i := 0) (f := sp c c') (by omega) W
  have p1 := fun c c' => run_part_cell (P := Tryd.prog) Tryd.underlying22 (n := 2) (i := 1) (f := sp c c') (by omega) W
  have q0 := run_equalIn_int (P := Tryd.prog) W d 22 .i8 .i8 x x' Tryd.underlying22
  have q1 := run_equalIn_int (P := Tryd.prog) W d 22 .i8 .i8 y y' Tryd.underlying22
  have e0 : ∀ c c' : Int, sp c c' 0 = .int .i8 c := fun _ _ => rfl
  have e1 : ∀ c c' : Int, sp c c' 1 = .int .i8 c' := fun _ _ => rfl
  simp only [Op.eqFields, ne_eq, Sem.run_bind, p0, p1, Result.andThen_ok, e0, e1, q0, q1, Sem.run_pure, Sem.run_ite]
  cases (x == x') <;> cases (y == y') <;> simp

theorem neq_spot (x y x' y' : Int) (W : World) : (binOp .neq 49 (.agg (arr 2 (sp x y))) (.agg (arr 2 (sp x' y')))).run Tryd.prog W = .ok (.bool (!((x == x') && (y == y')))) W := by
  rw [run_neq_struct, run_equal_spot]; rfl
theorem eql_spot (x y x' y' : Int) (W : World) : (binOp .eql 49 (.agg (arr 2 (sp x y))) (.agg (arr 2 (sp x' y')))).run Tryd.prog W = .ok (.bool ((x == x') && (y == y'))) W := by
  rw [run_eql_struct, run_equal_spot]; rfl
theorem build_spot0 (W : World) : (Instr.build 49 #[]).run Tryd.prog W = .ok (.agg (arr 2 (sp 0 0))) W := by kernel_rfl
end Go.Proofs.YtaaphdbaocjecaaDoor

/-
  '==' on values of the type Stake.
-/
namespace Go.Proofs.YtaaphdbaocjecaaDoor
open Go Go.RowKit Go.BigFrame

theorem run_equal_stake (a b : Nat → Int) (W : World) :
    (Op.equalIn 10000 51 (.agg (arr 3 (vStake a))) (.agg (arr 3 (vStake b)))).run Tryd.prog W = .ok (eqTo 3 a b) W := by
  have hs := run_equalIn_struct (P := Tryd.prog) W 9999 51 (arr 3 (vStake a)) (arr 3 (vStake b)) (by rw [Program.fieldsOf, Tryd.underlying51]) (by kernel_rfl)
  rw [hs]
  have hf : (Tryd.prog.fieldsOf 51).toList = [
    { name := "At", type := 49, offset := 0, embedded := false, tag := "", pkgPath := "", byteOffset := 0 },
    { name := "Reach", type := 24, offset := 2, embedded := false, tag := "", pkgPath := "", byteOffset := 2 }] := by
    rw [Program.fieldsOf, Tryd.underlying51]
  rw [hf]
  have p0 := fun c => (run_part_row (P := Tryd.prog) (rowTab 49 2 rfl) (n := 3) (i := 0) (f := vStake c) (by omega) W).trans (by rw [spStake0])
  have q0 := run_equal_spot (a 0) (a 1) (b 0) (b 1) 9997 W
  have p1 := fun c => run_part_cell (P := Tryd.prog) Tryd.underlying24 (n := 3) (i := 2) (f := vStake c) (by omega) W
  have q1 := run_equalIn_int (P := Tryd.prog) W 9998 24 .i16 .i16 (a 2) (b 2) Tryd.underlying24
  have e1 : ∀ c : Nat → Int, vStake c 2 = .int .i16 (c 2) := fun _ => rfl
  simp only [Op.eqFields, ne_eq, Sem.run_bind, p0, p1, Result.andThen_ok, e1, q0, q1, Sem.run_pure, Sem.run_ite]
  have key : eqTo 3 a b = (((a 0 == b 0) && (a 1 == b 1)) && (a 2 == b 2)) := by
    rw [Bool.eq_iff_iff]
    simp only [Bool.and_eq_true, eqTo_iff, beq_iff_eq]
    constructor
    · intro h
      exact ⟨⟨h 0 (by omega), h 1 (by omega)⟩, h 2 (by omega)⟩
    · rintro ⟨⟨h0, h1⟩, h2⟩ k hk
      rcases (show k = 0 ∨ k = 1 ∨ k = 2 by omega) with rfl | rfl | rfl <;> assumption
  rw [key]
  cases ((a 0 == b 0) && (a 1 == b 1)) <;> cases (a 2 == b 2) <;> simp
theorem neq_stake (a b : Nat → Int) (W : World) : (binOp .neq 51 (.agg (arr 3 (vStake a))) (.agg (arr 3 (vStake b)))).run Tryd.prog W = .ok (.bool (!eqTo 3 a b)) W := by
  rw [run_neq_struct, run_equal_stake]; rfl
end Go.Proofs.YtaaphdbaocjecaaDoor

/-
  (impl.Pasture).hasCell by contract.
-/
namespace Go.Proofs.YtaaphdbaocjecaaDoor
open Go Go.RowKit Go.BigFrame

set_option maxHeartbeats 4000000 in
theorem hasCell_any (g : Nat → Int) (x y : Int) (w : World) :
    Calls Tryd.prog 47 #[.agg (arr 122 (pas g)), .agg (arr 2 (sp x y))] w fun e w' => e = .returned (.bool (isB g x y)) ∧ Below w.heap.size w w' := by
  have hM := Mem.nil w
  have e0 : pas g 0 = .int .i8 (g 0) := rfl
  have e1 : pas g 1 = .int .i8 (g 1) := rfl
  have e2 : sp x y 0 = .int .i8 x := rfl
  have e3 : sp x y 1 = .int .i8 y := rfl
  have tk_b1 : True := trivial; have tk_b2 : True := trivial
  rcases (show x < 0 ∨ (0 ≤ x ∧ g 0 ≤ x) ∨ (0 ≤ x ∧ x < g 0) by omega) with r0 | ⟨r0, r1⟩ | ⟨r0, r1⟩
  · have hf : Hid (isB g x y = false) := Lib.hid (by simp [isB, inB_no (show ¬ (0 ≤ x ∧ x ≤ g 0 - 1) by omega)])
    have d0 : decide (0 ≤ x) = false := decide_eq_false (by omega)
    clear r0
    go_enter Tryd.func47, Tryd.ntmps47
    go_wp2_with (first | (have _t := tk_b1; refine wpList_box rfl _ _ rfl _ _ rfl hM ?_; intro b1 W' hb1 hM'; clear hM tk_b1; have hM := hM'; clear hM') | (have _t := tk_b2; refine wpList_box rfl _ _ rfl _ _ rfl hM ?_; intro b2 W' hb2 hM'; clear hM tk_b2; have hM := hM'; clear hM') | (refine wpList_get1 rfl _ _ rfl _ _ rfl hM 0 rfl (cellTab _ rfl) (by omega) _ rfl ?_) | (refine wpList_get1 rfl _ _ rfl _ _ rfl hM 1 rfl (cellTab _ rfl) (by omega) _ rfl ?_) | (refine wpList_gget1 ?_ _ _ rfl _ _ rfl hM 0 rfl (cellTab _ rfl) (by omega) _ rfl ?_; kernel_rfl) | (refine wpList_gget1 ?_ _ _ rfl _ _ rfl hM 1 rfl (cellTab _ rfl) (by omega) _ rfl ?_; kernel_rfl))
    go_ret
    exact ⟨ret_bool hf.out.symm, hM.below⟩
  · have hf : Hid (isB g x y = false) := Lib.hid (by simp [isB, inB_no (show ¬ (0 ≤ x ∧ x ≤ g 0 - 1) by omega)])
    have d0 : decide (0 ≤ x) = true := decide_eq_true (by omega)
    have d1 : decide (x < g 0) = false := decide_eq_false (by omega)
    clear r0 r1
    go_enter Tryd.func47, Tryd.ntmps47
    go_wp2_with (first | (have _t := tk_b1; refine wpList_box rfl _ _ rfl _ _ rfl hM ?_; intro b1 W' hb1 hM'; clear hM tk_b1; have hM := hM'; clear hM') | (have _t := tk_b2; refine wpList_box rfl _ _ rfl _ _ rfl hM ?_; intro b2 W' hb2 hM'; clear hM tk_b2; have hM := hM'; clear hM') | (refine wpList_get1 rfl _ _ rfl _ _ rfl hM 0 rfl (cellTab _ rfl) (by omega) _ rfl ?_) | (refine wpList_get1 rfl _ _ rfl _ _ rfl hM 1 rfl (cellTab _ rfl) (by omega) _ rfl ?_) | (refine wpList_gget1 ?_ _ _ rfl _ _ rfl hM 0 rfl (cellTab _ rfl) (by omega) _ rfl ?_; kernel_rfl) | (refine wpList_gget1 ?_ _ _ rfl _ _ rfl hM 1 rfl (cellTab _ rfl) (by omega) _ rfl ?_; kernel_rfl))
    go_ret
    exact ⟨ret_bool hf.out.symm, hM.below⟩
  have d0 : decide (0 ≤ x) = true := decide_eq_true (by omega)
  have d1 : decide (x < g 0) = true := decide_eq_true (by omega)
  have q0 := inB_yes (show 0 ≤ x ∧ x ≤ g 0 - 1 by omega)
  clear r0 r1
  rcases (show y < 0 ∨ (0 ≤ y ∧ g 1 ≤ y) ∨ (0 ≤ y ∧ y < g 1) by omega) with r0 | ⟨r0, r1⟩ | ⟨r0, r1⟩
  · have hf : Hid (isB g x y = false) := Lib.hid (by simp [isB, inB_no (show ¬ (0 ≤ y ∧ y ≤ g 1 - 1) by omega)])
    have d2 : decide (0 ≤ y) = false := decide_eq_false (by omega)
    clear r0 q0
    go_enter Tryd.func47, Tryd.ntmps47
    go_wp2_with (first | (have _t := tk_b1; refine wpList_box rfl _ _ rfl _ _ rfl hM ?_; intro b1 W' hb1 hM'; clear hM tk_b1; have hM := hM'; clear hM') | (have _t := tk_b2; refine wpList_box rfl _ _ rfl _ _ rfl hM ?_; intro b2 W' hb2 hM'; clear hM tk_b2; have hM := hM'; clear hM') | (refine wpList_get1 rfl _ _ rfl _ _ rfl hM 0 rfl (cellTab _ rfl) (by omega) _ rfl ?_) | (refine wpList_get1 rfl _ _ rfl _ _ rfl hM 1 rfl (cellTab _ rfl) (by omega) _ rfl ?_) | (refine wpList_gget1 ?_ _ _ rfl _ _ rfl hM 0 rfl (cellTab _ rfl) (by omega) _ rfl ?_; kernel_rfl) | (refine wpList_gget1 ?_ _ _ rfl _ _ rfl hM 1 rfl (cellTab _ rfl) (by omega) _ rfl ?_; kernel_rfl))
    go_ret
    exact ⟨ret_bool hf.out.symm, hM.below⟩
  · have hf : Hid (isB g x y = false) := Lib.hid (by simp [isB, inB_no (show ¬ (0 ≤ y ∧ y ≤ g 1 - 1) by omega)])
    have d2 : decide (0 ≤ y) = true := decide_eq_true (by omega)
    have d3 : decide (y < g 1) = false := decide_eq_false (by omega)
    clear r0 r1 q0
    go_enter Tryd.func47, Tryd.ntmps47
    go_wp2_with (first | (have _t := tk_b1; refine wpList_box rfl _ _ rfl _ _ rfl hM ?_; intro b1 W' hb1 hM'; clear hM tk_b1; have hM := hM'; clear hM') | (have _t := tk_b2; refine wpList_box rfl _ _ rfl _ _ rfl hM ?_; intro b2 W' hb2 hM'; clear hM tk_b2; have hM := hM'; clear hM') | (refine wpList_get1 rfl _ _ rfl _ _ rfl hM 0 rfl (cellTab _ rfl) (by omega) _ rfl ?_) | (refine wpList_get1 rfl _ _ rfl _ _ rfl hM 1 rfl (cellTab _ rfl) (by omega) _ rfl ?_) | (refine wpList_gget1 ?_ _ _ rfl _ _ rfl hM 0 rfl (cellTab _ rfl) (by omega) _ rfl ?_; kernel_rfl) | (refine wpList_gget1 ?_ _ _ rfl _ _ rfl hM 1 rfl (cellTab _ rfl) (by omega) _ rfl ?_; kernel_rfl))
    go_ret
    exact ⟨ret_bool hf.out.symm, hM.below⟩
  · have hf : Hid (isB g x y = true) := Lib.hid (by simp [isB, q0, inB_yes (show 0 ≤ y ∧ y ≤ g 1 - 1 by omega)])
    have d2 : decide (0 ≤ y) = true := decide_eq_true (by omega)
    have d3 : decide (y < g 1) = true := decide_eq_true (by omega)
    clear r0 r1 q0
    go_enter Tryd.func47, Tryd.ntmps47
    go_wp2_with (first | (have _t := tk_b1; refine wpList_box rfl _ _ rfl _ _ rfl hM ?_; intro b1 W' hb1 hM'; clear hM tk_b1; have hM := hM'; clear hM') | (have _t := tk_b2; refine wpList_box rfl _ _ rfl _ _ rfl hM ?_; intro b2 W' hb2 hM'; clear hM tk_b2; have hM := hM'; clear hM') | (refine wpList_get1 rfl _ _ rfl _ _ rfl hM 0 rfl (cellTab _ rfl) (by omega) _ rfl ?_) | (refine wpList_get1 rfl _ _ rfl _ _ rfl hM 1 rfl (cellTab _ rfl) (by omega) _ rfl ?_) | (refine wpList_gget1 ?_ _ _ rfl _ _ rfl hM 0 rfl (cellTab _ rfl) (by omega) _ rfl ?_; kernel_rfl) | (refine wpList_gget1 ?_ _ _ rfl _ _ rfl hM 1 rfl (cellTab _ rfl) (by omega) _ rfl ?_; kernel_rfl))
    go_ret
    exact ⟨ret_bool hf.out.symm, hM.below⟩

theorem sp_of {f : Nat → Value} {x y : Int} (h0 : f 0 = .int .i8 x) (h1 : f 1 = .int .i8 y) : arr 2 f = arr 2 (sp x y) := arr_congr fun k hk => by
  rcases (show k = 0 ∨ k = 1 by omega) with rfl | rfl
  · exact h0
  · exact h1
/-- The same over any two cells that hold the spot. -/
theorem hasCell_of (g : Nat → Int) (f : Nat → Value) (x y : Int) (h0 : f 0 = .int .i8 x) (h1 : f 1 = .int .i8 y) (w : World) :
    Calls Tryd.prog 47 #[.agg (arr 122 (pas g)), .agg (arr 2 f)] w fun e w' => e = .returned (.bool (isB g x y)) ∧ Below w.heap.size w w' := by
  rw [sp_of h0 h1]
  exact hasCell_any g x y w
end Go.Proofs.YtaaphdbaocjecaaDoor

/-
  (impl.Pasture).cells and its iterator, by contract: all cells come in their order, unless a round says 'no more'.
-/
namespace Go.Proofs.YtaaphdbaocjecaaDoor
open Go Go.RowKit Go.Shelf Go.BigFrame
attribute [local go_sem] Oper.semAt_some

/-- A cell of a pasture that is W wide and H high. -/
abbrev Cell (W H : Nat) := { s : Nat × Nat // s.1 < W ∧ s.2 < H }
def encC {W H : Nat} (c : Cell W H) : Array Value := #[.agg (arr 2 (sp c.1.1 c.1.2))]
/-- The i-th cell in their order. -/
def cellAt (W i : Nat) : Nat × Nat := (i % W, i / W)
def upto (W i : Nat) : List (Nat × Nat) := (List.range i).map (cellAt W)
theorem upto_succ (W i : Nat) : upto W (i + 1) = upto W i ++ [cellAt W i] := by simp [upto, List.range_succ]
theorem cellAt_row {W k j : Nat} (h : j < W) : cellAt W (k * W + j) = (j, k) := by
  unfold cellAt
  rw [Nat.mul_comm k W, Nat.mul_add_mod, Nat.mod_eq_of_lt h, Nat.mul_add_div (by omega), Nat.div_eq_of_lt h]; simp

/-- What a round that goes on keeps: the pasture itself. -/
def KpP (bp : Nat) (g : Nat → Int) (A B : World) : Prop := At A bp 122 (pas g) → At B bp 122 (pas g)

def CellsIn {W H : Nat} (J : List (Cell W H) → World → Prop) (bp : Nat) (g : Nat → Int) (i : Nat) (wr : World) : Prop :=
  ∃ pre : List (Cell W H), pre.map (·.1) = upto W i ∧ J pre wr ∧ At wr bp 122 (pas g)
def CellsOut {W H : Nat} (J : List (Cell W H) → World → Prop) (bp : Nat) (g : Nat → Int) (y : Value) (wr : World) : Prop := ∃ k : Nat, k ≤ H ∧ y = .int .i8 k ∧ CellsIn J bp g (k * W) wr
def CellsRow {W H : Nat} (J : List (Cell W H) → World → Prop) (bp : Nat) (g : Nat → Int) (k : Nat) (x : Value) (wr : World) : Prop := ∃ j : Nat, j ≤ W ∧ x = .int .i8 j ∧ CellsIn J bp g (k * W + j) wr

theorem kpP_t {bp : Nat} {g : Nat → Int} {A B C : World} (h : KpP bp g A B) (k : KpP bp g B C) : KpP bp g A C := fun x => k (h x)
theorem kpP_b {bp : Nat} {g : Nat → Int} (W : World) (l : Nat) (o o' : Obj) (h : W.heap[l]? = some o) (ho : o.isCells = false) : KpP bp g W (W.putObj l o') := fun hA =>
  hA.grown (grownBy_putObj' W l o') (fun r e => by cases e; exact ⟨o, h, ho⟩)
end Go.Proofs.YtaaphdbaocjecaaDoor

/-
  impl.hasValidHurdles by contract.
-/
namespace Go.Proofs.YtaaphdbaocjecaaDoor
open Go Go.RowKit Go.BigFrame

/-- Are bits set only where they may be? -/
def hurB (g : Nat → Int) : Bool := (List.range 10).all fun y => !badE g y && !badS g y
theorem hurB_no {g : Nat → Int} {y : Nat} (hy : y < 10) (h : badE g y = true ∨ badS g y = true) : hurB g = false := by
  unfold hurB; rw [List.all_eq_false]; exact ⟨y, by simpa using hy, by rcases h with h | h <;> simp [h]⟩
theorem hurB_yes {g : Nat → Int} (h : ∀ y, y < 10 → badE g y = false ∧ badS g y = false) : hurB g = true := by
  unfold hurB; rw [List.all_eq_true]; intro y hy; have := h y (by simpa using hy); simp [this.1, this.2]
theorem badE_in' {g : Nat → Int} {k : Nat} (h : (k : Int) < g 1) : badE g k = (bits .andNot .u16 (g (102 + k)) (mask g / 2) != 0) := by simp [badE, h]
theorem badS_in' {g : Nat → Int} {k : Nat} (h : (k : Int) < g 1 - 1) : badS g k = (bits .andNot .u16 (g (112 + k)) (mask g) != 0) := by simp [badS, h]
theorem mask_half {g : Nat → Int} (h : 1 ≤ g 0 ∧ g 0 ≤ 10) : IntKind.u16.wrap (IntKind.u16.wrap (2 ^ ((g 0).toNat - 1)) - 1) = mask g / 2 := by
  unfold mask
  have : g 0 = 1 ∨ g 0 = 2 ∨ g 0 = 3 ∨ g 0 = 4 ∨ g 0 = 5 ∨ g 0 = 6 ∨ g 0 = 7 ∨ g 0 = 8 ∨ g 0 = 9 ∨ g 0 = 10 := by omega
  rcases this with e | e | e | e | e | e | e | e | e | e <;> rw [e] <;> decide
theorem mask_whole (g : Nat → Int) : IntKind.u16.wrap (IntKind.u16.wrap (2 ^ (g 0).toNat) - 1) = mask g := rfl

theorem badE_f {g : Nat → Int} {k : Nat} (h : ((k : Int) < g 1 ∧ bits .andNot .u16 (g (102 + k)) (mask g / 2) = 0) ∨ (g 1 ≤ (k : Int) ∧ bits .andNot .u16 (g (102 + k)) 0 = 0)) : badE g k = false := by
  rcases h with ⟨h, e⟩ | ⟨h, e⟩
  · rw [badE_in' h, e]; rfl
  · rw [badE_out h, e]; rfl
theorem badE_t {g : Nat → Int} {k : Nat} (h : ((k : Int) < g 1 ∧ ¬ bits .andNot .u16 (g (102 + k)) (mask g / 2) = 0) ∨ (g 1 ≤ (k : Int) ∧ ¬ bits .andNot .u16 (g (102 + k)) 0 = 0)) : badE g k = true := by
  rcases h with ⟨h, e⟩ | ⟨h, e⟩
  · rw [badE_in' h]; simpa using e
  · rw [badE_out h]; simpa using e

def HurIn (w : World) (g : Nat → Int) (b1 : Nat) (x : Value) (wr : World) : Prop := ∃ k : Nat, k ≤ 10 ∧ x = .int .i8 k ∧ (∀ i, i < k → badE g i = false ∧ badS g i = false) ∧ Mem w [(b1, 122, pas g)] wr
theorem HurIn.step {w : World} {g : Nat → Int} {b1 k : Nat} {W : World} (hk : k < 10) (h : ∀ i, i < k → badE g i = false ∧ badS g i = false) (hE : badE g k = false) (hS : badS g k = false) (hM : Mem w [(b1, 122, pas g)] W) : HurIn w g b1 (.int .i8 ((k : Int) + 1)) W :=
  ⟨k + 1, by omega, by go_num, fun i hi => by
    by_cases e : i = k
    · rw [e]; exact ⟨hE, hS⟩
    · exact h i (by omega), hM⟩

end Go.Proofs.YtaaphdbaocjecaaDoor

/-
  impl.hasValidGrass by contract.
-/
namespace Go.Proofs.YtaaphdbaocjecaaDoor
open Go Go.RowKit Go.Shelf Go.BigFrame

/-- What is left of the grass when some cells have come. -/
def restAt (g : Nat → Int) (l : List (Nat × Nat)) (k : Nat) : Int := if (k % 10, k / 10) ∈ l then 0 else g (2 + k)
def restV (g : Nat → Int) (l : List (Nat × Nat)) : Nat → Value := fun k => .int .i16 (restAt g l k)
/-- Is a cell's grass as it may be? -/
def fineAt (g : Nat → Int) (s : Nat × Nat) : Bool := inB 0 1000 (g (2 + (s.2 * 10 + s.1)))
def grassB (g : Nat → Int) (W H : Nat) : Bool := (upto W (W * H)).all (fineAt g) && eqTo 100 (restAt g (upto W (W * H))) (fun _ => 0)

theorem mem_upto {W H x y : Nat} (hx : x < W) (hy : y < H) : (x, y) ∈ upto W (W * H) := by
  unfold upto
  refine List.mem_map.2 ⟨y * W + x, ?_, cellAt_row hx⟩
  have := Nat.mul_le_mul_right W (show y + 1 ≤ H by omega)
  rw [Nat.add_mul, Nat.one_mul, Nat.mul_comm H W] at this
  exact List.mem_range.2 (by omega)
theorem restAt_of {g : Nat → Int} {l : List (Nat × Nat)} {x y : Nat} (hx : x < 10) : restAt g l (y * 10 + x) = if (x, y) ∈ l then 0 else g (2 + (y * 10 + x)) := by
  have e1 : (y * 10 + x) % 10 = x := by omega
  have e2 : (y * 10 + x) / 10 = y := by omega
  simp only [restAt, e1, e2]
theorem restAt_upd {g : Nat → Int} {l : List (Nat × Nat)} {x y k : Nat} (hx : x < 10) : upd (restV g l) (y * 10 + x) (.int .i16 0) k = restV g (l ++ [(x, y)]) k := by
  unfold upd restV restAt
  by_cases e : k = y * 10 + x
  · have e1 : (y * 10 + x) % 10 = x := by omega
    have e2 : (y * 10 + x) / 10 = y := by omega
    simp [e, e1, e2]
  · have : (k % 10, k / 10) ≠ (x, y) := fun h => by
      have h1 : k % 10 = x := congrArg Prod.fst h
      have h2 : k / 10 = y := congrArg Prod.snd h
      omega
    simp [e, this]

def GrassIn {W H : Nat} (w : World) (g : Nat → Int) (b1 b2 b3 bp : Nat) (pre : List (Cell W H)) (X : World) : Prop :=
  (∀ s ∈ pre, fineAt g s.1 = true) ∧ Mem w [(b3, 100, restV g (pre.map (·.1))), (b2, 1, fun _ => .bool false), (b1, 122, pas g), (bp, 122, pas g)] X
def GrassOut {W H : Nat} (w : World) (g : Nat → Int) (b2 : Nat) (c : Code) (_ : List (Cell W H)) (X : World) : Prop :=
  c = .ret ∧ grassB g W H = false ∧ Mem w [(b2, 1, fun _ => .bool false)] X
theorem grassIn_own {W H : Nat} (w : World) (g : Nat → Int) (b1 b2 b3 bp B : Nat) (hB : w.heap.size ≤ B) : OwnFrom B (GrassIn (W := W) (H := H) w g b1 b2 b3 bp) := fun _ X Y row hs hg hr =>
  ⟨hs.1, mem_ownFrom hB (fun _ : Unit => _) () X Y row hs.2 hg hr⟩
theorem grassOut_own {W H : Nat} (w : World) (g : Nat → Int) (b2 B : Nat) (hB : w.heap.size ≤ B) (c : Code) : OwnFrom B (GrassOut (W := W) (H := H) w g b2 c) := fun _ X Y row hs hg hr =>
  ⟨hs.1, hs.2.1, mem_ownFrom hB (fun _ : Unit => _) () X Y row hs.2.2 hg hr⟩

/-- The frame of a round: T: the temporaries as the loop found them. -/
def GrassAx {W H : Nat} (w : World) (b1 b2 b3 bp : Nat) (T : Array Value) (x : Cell W H) (a' : Act) (X : World) : Prop :=
  ∃ bx, w.heap.size ≤ bx ∧ bx ≠ b1 ∧ bx ≠ b2 ∧ bx ≠ b3 ∧ bx ≠ bp ∧ At X bx 2 (sp x.1.1 x.1.2) ∧
    a' = { tmps := (T.setIfInBounds 9 (.agg (arr 2 (sp x.1.1 x.1.2)))).setIfInBounds 4 (.pointer (some ⟨bx, 0, none⟩)), defers := [] }
theorem grassAx_own {W H : Nat} (w : World) (b1 b2 b3 bp B : Nat) (T : Array Value) (x : Cell W H) (a' : Act) : OwnFrom B (fun (_ : Unit) X => GrassAx w b1 b2 b3 bp T x a' X) := fun _ X Y row hs hg hr => by
  obtain ⟨bx, h1, h2, h3, h4, h5, hA, e⟩ := hs
  exact ⟨bx, h1, h2, h3, h4, h5, hA.grown hg (fun r e => (hr r e).2), e⟩

theorem fine_rest {g : Nat → Int} {l : List (Nat × Nat)} {u v : Nat} (hu : u < 10) (hf : ∀ s ∈ l, fineAt g s = true) : inB 0 1000 (restAt g l (v * 10 + u)) = fineAt g (u, v) := by
  rw [restAt_of hu]
  split
  · rename_i h; rw [hf _ h]; rfl
  · rfl
theorem grassB_no {g : Nat → Int} {W H u v : Nat} (hu : u < W) (hv : v < H) (h : fineAt g (u, v) = false) : grassB g W H = false := by
  unfold grassB
  rw [Bool.and_eq_false_iff]; left
  exact List.all_eq_false.2 ⟨_, mem_upto hu hv, by simp [h]⟩
theorem Mem.only {w w' : Base} {W : World} {L : Blocks} (h : Mem w L W) (i : Nat) {b n : Nat} {f : Nat → Value} (hi : L[i]? = some (b, n, f)) (g : Nat → Value) (e : ∀ k, k < n → f k = g k) (hg : w'.G W) : Mem w' [(b, n, g)] W :=
  (Mem.start hg).old ((h.ats i b n f hi).congr e) (fun j p hj => by simp at hj)

theorem Mem.take {w : Base} {W : World} {L : Blocks} (h : Mem w L W) (n : Nat) : Mem w (L.take n) W :=
  ⟨h.good, fun i b m f hi => h.ats i b m f (by rw [List.getElem?_take] at hi; split at hi; exact hi; cases hi),
   fun i j p q hi hj hne => h.apart i j p q (by rw [List.getElem?_take] at hi; split at hi; exact hi; cases hi) (by rw [List.getElem?_take] at hj; split at hj; exact hj; cases hj) hne⟩

theorem results_at1 {P : Program} {fn : Func} {p : Tmp} {ty : TypeId} (h : fn.results = #[.cell p ty]) (tmps : Array Value) {W : World} {b n : Nat} {f : Nat → Value}
    (hp : tmps.getD p undef = .pointer (some ⟨b, 0, none⟩)) (hg : At W b n f) (hn : 0 < n) (hT : CellT P ty) (v : Value) (hv : f 0 = v) :
    (results fn tmps).run P W = .ok v W := by
  obtain ⟨⟨d, hu, hd⟩, _⟩ := hT
  have hc := hg.cell hn
  rw [hv] at hc
  have hagg : (isAgg ty).run P W = .ok false W := by
    unfold isAgg
    rw [Sem.run_bind, run_underlying hu W]
    cases d <;> simp_all [TypeDesc.isRow]
  have hl : (load ⟨b, 0, none⟩).run P W = .ok v W := by simp [load, Sem.run, hc]
  have hh : (loadVar ty ⟨b, 0, none⟩).run P W = .ok v W := by
    simp only [loadVar, Sem.run_bind, Result.andThen_ok, hagg, Bool.false_eq_true, if_false, hl]
  have hp' : tmps[p]?.getD undef = .pointer (some ⟨b, 0, none⟩) := by simpa using hp
  simp [results, h, hp', asAddr, hh]

theorem zeroValue_of {P : Program} {ty : TypeId} {v : Value} (hz : (P.info? ty).map (·.zero) = some (some v)) (W : World) : (zeroValue ty).run P W = .ok v W := by
  cases hq : P.info? ty with
  | none => simp [hq] at hz
  | some i => simp [hq] at hz; simp [zeroValue, typeInfo, hq, hz]
@[local go_sem] theorem zero_grass (W : World) : (zeroValue 72).run Tryd.prog W = .ok (.agg (arr 100 fun _ => .int .i16 0)) W := zeroValue_of (zeroTab _ _ _ rfl) W
@[local go_sem] theorem zero_cells_grass : Tryd.zeroCells72 = arr 100 fun _ => .int .i16 0 := by kernel_rfl
@[local go_sem] theorem eq_grass (g : Nat → Int) (l : List (Nat × Nat)) (W : World) : (Op.equalIn 10000 72 (.agg (arr 100 fun k => restV g l k)) (.agg (arr 100 fun _ => .int .i16 0))).run Tryd.prog W = .ok (eqTo 100 (restAt g l) fun _ => 0) W :=
  run_equal_grass _ _ _ _ (fun _ _ => rfl) (fun _ _ => rfl) W 9997

end Go.Proofs.YtaaphdbaocjecaaDoor

/-
  impl.ValidPasture by contract.
-/
namespace Go.Proofs.YtaaphdbaocjecaaDoor
open Go Go.RowKit Go.BigFrame

/-- Is a pasture valid, as impl asks it? -/
def validB (g : Nat → Int) : Bool := inB 1 10 (g 0) && inB 1 10 (g 1) && (grassB g (g 0).toNat (g 1).toNat && hurB g)

end Go.Proofs.YtaaphdbaocjecaaDoor

/-
  The document's 'valid' both ways: row by row over all 100 places, or cell by cell over the pasture's own and nothing behind them.
-/
namespace Go.Proofs.YtaaphdbaocjecaaDoor
open Go Go.RowKit

theorem isB_iff {g : Nat → Int} {W H x y : Nat} (hg0 : g 0 = W) (hg1 : g 1 = H) : isB g x y = true ↔ x < W ∧ y < H := by
  simp only [isB, inB, Bool.and_eq_true, decide_eq_true_eq, hg0, hg1]; omega
theorem upto_mem {W H x y : Nat} (h : (x, y) ∈ upto W (W * H)) : x < W ∧ y < H := by
  unfold upto at h
  obtain ⟨i, hi, e⟩ := List.mem_map.1 h
  have hi := List.mem_range.1 hi
  unfold cellAt at e
  have e1 : i % W = x := congrArg Prod.fst e
  have e2 : i / W = y := congrArg Prod.snd e
  have hW : 0 < W := by
    cases W with
    | zero => simp at hi
    | succ n => omega
  exact ⟨by rw [← e1]; exact Nat.mod_lt _ hW, by rw [← e2]; exact Nat.div_lt_of_lt_mul hi⟩

theorem cellOk_iff {g : Nat → Int} {W H x y : Nat} (hg0 : g 0 = W) (hg1 : g 1 = H) : cellOk g y x = true ↔ (0 ≤ g (2 + (y * 10 + x)) ∧ g (2 + (y * 10 + x)) ≤ 1000) ∧ (g (2 + (y * 10 + x)) = 0 ∨ (x < W ∧ y < H)) := by
  have e : 2 + y * 10 + x = 2 + (y * 10 + x) := by omega
  unfold cellOk
  rw [e, Bool.and_eq_true, Bool.or_eq_true, isB_iff hg0 hg1]
  simp only [inB, decide_eq_true_eq]
  omega

theorem cells_grass {g : Nat → Int} {W H : Nat} (hg0 : g 0 = W) (hg1 : g 1 = H) (hW : W ≤ 10) (hH : H ≤ 10) :
    (∀ y, y < 10 → ∀ x, x < 10 → cellOk g y x = true) ↔ grassB g W H = true := by
  unfold grassB
  rw [Bool.and_eq_true, List.all_eq_true, eqTo_iff]
  constructor
  · intro h
    refine ⟨fun s hs => ?_, fun k hk => ?_⟩
    · obtain ⟨x, y⟩ := s
      obtain ⟨hx, hy⟩ := upto_mem hs
      exact inB_yes ((cellOk_iff hg0 hg1).1 (h y (by omega) x (by omega))).1
    · have hx : k % 10 < 10 := Nat.mod_lt _ (by omega)
      have ek : k / 10 * 10 + k % 10 = k := by omega
      have hr := restAt_of (g := g) (l := upto W (W * H)) (x := k % 10) (y := k / 10) hx
      rw [ek] at hr
      rw [hr]
      split
      · rfl
      · rename_i hn
        have hc := ((cellOk_iff hg0 hg1).1 (h (k / 10) (by omega) (k % 10) hx)).2
        rw [ek] at hc
        rcases hc with hc | hc
        · exact hc
        · exact absurd (mem_upto hc.1 hc.2) hn
  · rintro ⟨h1, h2⟩ y hy x hx
    rw [cellOk_iff hg0 hg1]
    by_cases hin : x < W ∧ y < H
    · have := inB_true (h1 _ (mem_upto hin.1 hin.2))
      exact ⟨this, .inr hin⟩
    · have hr := h2 (y * 10 + x) (by omega)
      rw [restAt_of hx, if_neg (fun hm => hin (upto_mem hm))] at hr
      exact ⟨by omega, .inl hr⟩

theorem okB_eq (g : Nat → Int) : okB g = validB g := by
  unfold okB validB
  cases b0 : inB 1 10 (g 0)
  · rfl
  cases b1 : inB 1 10 (g 1)
  · rfl
  have h0 := inB_true b0
  have h1 := inB_true b1
  have hg0 : g 0 = ((g 0).toNat : Int) := by omega
  have hg1 : g 1 = ((g 1).toNat : Int) := by omega
  have key := cells_grass hg0 hg1 (by omega) (by omega)
  simp only [Bool.true_and]
  rw [Bool.eq_iff_iff, Bool.and_eq_true, ← key, List.all_eq_true]
  unfold hurB
  rw [List.all_eq_true]
  constructor
  · intro h
    have h' : ∀ y, y < 10 → (∀ x, x < 10 → cellOk g y x = true) ∧ badE g y = false ∧ badS g y = false := fun y hy => by
      have hr := h y (List.mem_range.2 hy)
      unfold rowOk at hr
      rw [Bool.and_eq_true, Bool.and_eq_true, List.all_eq_true] at hr
      exact ⟨fun x hx => hr.1.1 x (List.mem_range.2 hx), by simpa using hr.1.2, by simpa using hr.2⟩
    exact ⟨fun y hy => (h' y hy).1, fun y hy => by have := h' y (List.mem_range.1 hy); simp [this.2.1, this.2.2]⟩
  · rintro ⟨h1, h2⟩ y hy
    have hy' := List.mem_range.1 hy
    have h3 := h2 y hy
    rw [Bool.and_eq_true] at h3
    unfold rowOk
    rw [Bool.and_eq_true, Bool.and_eq_true, List.all_eq_true]
    exact ⟨⟨fun x hx => h1 y hy' x (List.mem_range.1 hx), h3.1⟩, h3.2⟩
end Go.Proofs.YtaaphdbaocjecaaDoor

/-
  spec.l05Reach, l05Stake, l05Ok by contracts.
-/
namespace Go.Proofs.YtaaphdbaocjecaaDoor
open Go Go.RowKit Go.BigFrame

/-- Do two stakes stand in one cell? -/
def atEq (a b : Nat → Int) : Bool := (a 0 == b 0) && (a 1 == b 1)
/-- Is a stake valid alone? -/
def stakeB (g h : Nat → Int) : Bool := isB g (h 0) (h 1) && inB 0 200 (h 2)
/-- Does none of the first i stand in the cell of a? -/
def freeTo (hs : Nat → Nat → Int) (a : Nat → Int) (i : Nat) : Bool := (List.range i).all fun k => !atEq (hs k) a
def stakesB (g : Nat → Int) (n : Nat) (hs : Nat → Nat → Int) : Bool := okB g && (decide (n ≤ 12) && (List.range n).all fun i => stakeB g (hs i) && freeTo hs (hs i) i)
theorem freeTo_no {hs : Nat → Nat → Int} {a : Nat → Int} {i k : Nat} (hk : k < i) (h : atEq (hs k) a = true) : freeTo hs a i = false := by
  unfold freeTo; rw [List.all_eq_false]; exact ⟨k, by simpa using hk, by rw [h]; decide⟩
theorem freeTo_yes {hs : Nat → Nat → Int} {a : Nat → Int} {i : Nat} (h : ∀ k, k < i → atEq (hs k) a = false) : freeTo hs a i = true := by
  unfold freeTo; rw [List.all_eq_true]; intro k hk; rw [h k (by simpa using hk)]; rfl
theorem stakesB_ok {g : Nat → Int} {n : Nat} {hs : Nat → Nat → Int} (h : okB g = false) : stakesB g n hs = false := by simp [stakesB, h]
theorem stakesB_many {g : Nat → Int} {n : Nat} {hs : Nat → Nat → Int} (h : 12 < n) : stakesB g n hs = false := by
  have : decide (n ≤ 12) = false := decide_eq_false (by omega)
  simp [stakesB, this]
theorem stakesB_no {g : Nat → Int} {n i : Nat} {hs : Nat → Nat → Int} (hi : i < n) (h : (stakeB g (hs i) && freeTo hs (hs i) i) = false) : stakesB g n hs = false := by
  have : ((List.range n).all fun i => stakeB g (hs i) && freeTo hs (hs i) i) = false := by rw [List.all_eq_false]; exact ⟨i, by simpa using hi, by rw [h]; decide⟩
  simp [stakesB, this]
theorem stakesB_yes {g : Nat → Int} {n : Nat} {hs : Nat → Nat → Int} (ho : okB g = true) (hn : n ≤ 12) (h : ∀ i, i < n → (stakeB g (hs i) && freeTo hs (hs i) i) = true) : stakesB g n hs = true := by
  have : ((List.range n).all fun i => stakeB g (hs i) && freeTo hs (hs i) i) = true := by rw [List.all_eq_true]; intro i hi; exact h i (by simpa using hi)
  simp [stakesB, this, ho, hn]

theorem l05Reach_any (n : Int) (w : World) :
    Calls Tryd.prog 19 #[.int .i64 n] w fun e w' => e = .returned (.bool (inB 0 200 n)) ∧ Below w.heap.size w w' := by
  have hM := Mem.nil w
  go_enter Tryd.func19, Tryd.ntmps19
  go_wp2_with (go_at_call 31; refine (l00In_any _ _ _ _).mono ?_; rintro e W' ⟨rfl, hb'⟩; have hM' := hM.call hb'; clear hM hb'; have hM := hM'; clear hM')
  go_ret
  exact ⟨rfl, hM.below⟩

end Go.Proofs.YtaaphdbaocjecaaDoor

/-
  The text of stakes.
-/
namespace Go.Proofs.YtaaphdbaocjecaaDoor
open Go Go.RowKit Go.BigFrame

def stakeW (hs : Nat → Nat → Int) (k : Nat) : List UInt8 := spotT (hs k 0) (hs k 1) ++ [47] ++ numB (hs k 2)
def stakesA (n : Nat) (hs : Nat → Nat → Int) : Bool := decide (n ≤ 12) && (List.range n).all fun i => stakeB gMost (hs i)
def stakesT (n : Nat) (hs : Nat → Nat → Int) : List UInt8 := if stakesA n hs then joinT [32] (stakeW hs) n else []
theorem stakesT_no {n k : Nat} {hs : Nat → Nat → Int} (hk : k < n) (h : stakeB gMost (hs k) = false) : stakesT n hs = [] := by
  have : ((List.range n).all fun i => stakeB gMost (hs i)) = false := by rw [List.all_eq_false]; exact ⟨k, by simpa using hk, by rw [h]; decide⟩
  unfold stakesT stakesA; rw [this, Bool.and_false]; rfl
theorem stakesT_many {n : Nat} {hs : Nat → Nat → Int} (h : 12 < n) : stakesT n hs = [] := by
  unfold stakesT stakesA; rw [decide_eq_false (by omega)]; rfl
theorem stakesT_yes {n : Nat} {hs : Nat → Nat → Int} (hn : n ≤ 12) (h : ∀ k, k < n → stakeB gMost (hs k) = true) : stakesT n hs = joinT [32] (stakeW hs) n := by
  have : ((List.range n).all fun i => stakeB gMost (hs i)) = true := by rw [List.all_eq_true]; intro i hi; exact h i (by simpa using hi)
  unfold stakesT stakesA; rw [this, decide_eq_true hn]; rfl
theorem stakeB_most {h : Nat → Int} (hb : stakeB gMost h = true) : (0 ≤ h 0 ∧ h 0 ≤ 9) ∧ (0 ≤ h 1 ∧ h 1 ≤ 9) ∧ (0 ≤ h 2 ∧ h 2 ≤ 200) := by
  unfold stakeB at hb
  simp only [Bool.and_eq_true, isB_most] at hb
  exact ⟨inB_true hb.1.1, inB_true hb.1.2, inB_true hb.2⟩
theorem stakeW_len {hs : Nat → Nat → Int} {k : Nat} (h : stakeB gMost (hs k) = true) : (stakeW hs k).length ≤ 32 := by
  obtain ⟨h0, h1, h2⟩ := stakeB_most h
  have := numB_len (n := hs k 2) (by omega)
  have := spotT_len (x := hs k 0) (y := hs k 1) (by omega) (by omega)
  simp [stakeW]; omega
end Go.Proofs.YtaaphdbaocjecaaDoor

/-
  What a text of stakes tells.
-/
namespace Go.Proofs.YtaaphdbaocjecaaDoor
open Go Go.RowKit Go.BigFrame

theorem stakeW_parts (hs : Nat → Nat → Int) (k : Nat) : partsC 47 (stakeW hs k) = [spotT (hs k 0) (hs k 1), numB (hs k 2)] :=
  parts_two.2 ⟨by unfold stakeW; simp, spotT_free (by decide) (by decide) _ _, numB_free (by decide) _⟩
theorem stakeW_cut (hs : Nat → Nat → Int) (k : Nat) : Lib.cut (stakeW hs k) [47] = (spotT (hs k 0) (hs k 1), numB (hs k 2), true) := by
  have : stakeW hs k = spotT (hs k 0) (hs k 1) ++ 47 :: numB (hs k 2) := by unfold stakeW; simp
  rw [this]
  exact cut_app (spotT_free (by decide) (by decide) _ _)
theorem stakeW_free (hs : Nat → Nat → Int) (k : Nat) : (32 : UInt8) ∉ stakeW hs k := by
  intro e
  unfold stakeW at e
  rcases List.mem_append.1 e with e | e
  · rcases List.mem_append.1 e with e | e
    · exact spotT_free (by decide) (by decide) _ _ e
    · simp at e
  · exact numB_free (by decide) _ e
theorem stakeW_ne (hs : Nat → Nat → Int) (k : Nat) : stakeW hs k ≠ [] := by unfold stakeW; simp
theorem stakeW_inj {hs gs : Nat → Nat → Int} {k : Nat} (h1 : stakeB gMost (hs k) = true) (h2 : stakeB gMost (gs k) = true) (h : stakeW hs k = stakeW gs k) : hs k 0 = gs k 0 ∧ hs k 1 = gs k 1 ∧ hs k 2 = gs k 2 := by
  have := stakeW_parts hs k
  rw [h, stakeW_parts] at this
  simp at this
  have a1 := stakeB_most h1
  have a2 := stakeB_most h2
  obtain ⟨a, b⟩ := spotT_inj a2.1.1 a2.2.1.1 a1.1.1 a1.2.1.1 this.1
  exact ⟨a.symm, b.symm, (numB_inj a2.2.2.1 a1.2.2.1 this.2).symm⟩
/-- A text tells these stakes. -/
def TellsK (l : List UInt8) (n : Nat) (hs : Nat → Nat → Int) : Prop := n ≤ 12 ∧ (∀ i, i < n → stakeB gMost (hs i) = true) ∧ l = joinT [32] (stakeW hs) n
theorem TellsK.parts {l : List UInt8} {n : Nat} {hs : Nat → Nat → Int} (h : TellsK l n hs) (h0 : 0 < n) : partsC 32 l = (List.range n).map (stakeW hs) := by
  rw [h.2.2]; exact partsC_joinT h0 (fun k _ => stakeW_free hs k)
theorem TellsK.zero {l : List UInt8} {n : Nat} {hs : Nat → Nat → Int} (h : TellsK l n hs) : n = 0 ↔ l = [] := by
  constructor
  · rintro rfl; exact h.2.2
  · intro e
    rcases Nat.eq_zero_or_pos n with h0 | h0
    · exact h0
    · have hp := h.parts h0
      rw [e] at hp
      have h1 : (partsC 32 ([] : List UInt8))[0]? = some [] := rfl
      rw [hp] at h1
      simp [h0] at h1
      exact absurd h1 (stakeW_ne hs 0)
theorem TellsK.uniq {l : List UInt8} {n m : Nat} {hs gs : Nat → Nat → Int} (h : TellsK l n hs) (k : TellsK l m gs) : n = m ∧ ∀ i, i < n → hs i 0 = gs i 0 ∧ hs i 1 = gs i 1 ∧ hs i 2 = gs i 2 := by
  rcases Nat.eq_zero_or_pos n with h0 | h0
  · have : m = 0 := k.zero.2 (h.zero.1 h0)
    exact ⟨by omega, fun i hi => absurd hi (by omega)⟩
  · have m0 : 0 < m := by
      rcases Nat.eq_zero_or_pos m with e | e
      · exact absurd (h.zero.2 (k.zero.1 e)) (by omega)
      · exact e
    have hj := h.2.2.symm.trans k.2.2
    obtain ⟨e, hw⟩ := joinT_inj h0 m0 (fun i _ => stakeW_free hs i) (fun i _ => stakeW_free gs i) hj
    exact ⟨e, fun i hi => stakeW_inj (h.2.1 i hi) (k.2.1 i (by omega)) (hw i hi)⟩
theorem stakesT_or {n : Nat} {hs : Nat → Nat → Int} : (n ≤ 12 ∧ ∀ i, i < n → stakeB gMost (hs i) = true) ∨ stakesT n hs = [] := by
  by_cases hn : n ≤ 12
  · by_cases h : ∀ i, i < n → stakeB gMost (hs i) = true
    · exact .inl ⟨hn, h⟩
    · obtain ⟨i, hi⟩ := Classical.not_forall.1 h
      rw [Classical.not_imp] at hi
      exact .inr (stakesT_no hi.1 (by simpa using hi.2))
  · exact .inr (stakesT_many (by omega))
/-- Its text is asked: told, or nothing. -/
theorem tellsK_text {l : List UInt8} {n : Nat} {hs : Nat → Nat → Int} (h : stakesT n hs = l) (hl : l ≠ []) : TellsK l n hs := by
  rcases stakesT_or (n := n) (hs := hs) with ⟨h1, h2⟩ | h1
  · exact ⟨h1, h2, by rw [← h, stakesT_yes h1 h2]⟩
  · exact absurd (h.symm.trans h1) hl
theorem TellsK.text {l : List UInt8} {n : Nat} {hs : Nat → Nat → Int} (h : TellsK l n hs) : stakesT n hs = l := by rw [stakesT_yes h.1 h.2.1, h.2.2]
end Go.Proofs.YtaaphdbaocjecaaDoor

/-
  What impl's loose parsing makes of a text that tells stakes.
-/
namespace Go.Proofs.YtaaphdbaocjecaaDoor
open Go Go.RowKit Go.BigFrame

theorem pOk_numB {B : Nat} {n : Int} (hB : B ≤ 32) (h1 : 1 ≤ B) (h0 : 0 ≤ n) (h : n < 2 ^ (B - 1)) : pOk B (numB n) = true ∧ pVal B (numB n) = n := pOk_of (parse_numB hB h1 h0 h)
theorem sp_told {x y : Int} (hx : 0 ≤ x ∧ x < 128) (hy : 0 ≤ y ∧ y < 128) : spOk (spotT x y) = true ∧ spX (spotT x y) = x ∧ spY (spotT x y) = y := by
  have hc := spotT_cut x y
  have h1 := pOk_numB (B := 8) (n := x) (by omega) (by omega) hx.1 (by omega)
  have h2 := pOk_numB (B := 8) (n := y) (by omega) (by omega) hy.1 (by omega)
  unfold spOk spX spY spE spS
  rw [hc]
  simp only [h1.1, h1.2, h2.1, h2.2]
  exact ⟨rfl, IntWalk.i8_in _ (by omega), IntWalk.i8_in _ (by omega)⟩
theorem st_told {hs : Nat → Nat → Int} {k : Nat} (hb : stakeB gMost (hs k) = true) : stOk (stakeW hs k) = true ∧ stV (stakeW hs k) 0 = hs k 0 ∧ stV (stakeW hs k) 1 = hs k 1 ∧ stV (stakeW hs k) 2 = hs k 2 := by
  obtain ⟨⟨d0, d1⟩, ⟨x0, x1⟩, y0, y1⟩ := stakeB_most hb
  have hc := stakeW_cut hs k
  obtain ⟨s0, s1, s2⟩ := sp_told (x := hs k 0) (y := hs k 1) (by omega) (by omega)
  have h1 := pOk_numB (B := 16) (n := hs k 2) (by omega) (by omega) (by omega) (by omega)
  unfold stOk stV stP stN
  rw [hc]
  simp only [s0, s1, s2, h1.1, h1.2]
  exact ⟨rfl, rfl, rfl, IntWalk.i16_in _ (by omega)⟩
/-- The words; what they tell loosely. -/
def stWs (l : List UInt8) : Nat := if l = [] then 0 else (partsC 32 l).length
def stHs (l : List UInt8) : Nat → Nat → Int := fun j => stV ((partsC 32 l).getD j [])
def BadK (l : List UInt8) : Prop := l ≠ [] ∧ (12 < (partsC 32 l).length ∨ ∃ j, j < (partsC 32 l).length ∧ stOk ((partsC 32 l).getD j []) = false)
theorem TellsK.words {l : List UInt8} {m : Nat} {gs : Nat → Nat → Int} (h : TellsK l m gs) (h0 : l ≠ []) : (partsC 32 l).length = m ∧ ∀ j, j < m → (partsC 32 l).getD j [] = stakeW gs j := by
  have hm : 0 < m := by
    rcases Nat.eq_zero_or_pos m with e | e
    · exact absurd (h.zero.1 e) h0
    · exact e
  rw [h.parts hm]
  refine ⟨by simp, fun j hj => ?_⟩
  rw [List.getD_eq_getElem?_getD]
  simp [hj]
theorem BadK.no {l : List UInt8} (h : BadK l) (m : Nat) (gs : Nat → Nat → Int) : ¬ TellsK l m gs := fun k => by
  obtain ⟨e1, e2⟩ := k.words h.1
  rcases h.2 with h2 | ⟨j, hj, h2⟩
  · have := k.1; omega
  · rw [e2 j (by omega), (st_told (k.2.1 j (by omega))).1] at h2; cases h2
theorem stHs_told {l : List UInt8} {m : Nat} {gs : Nat → Nat → Int} (k : TellsK l m gs) : stWs l = m ∧ ∀ j, j < m → stHs l j 0 = gs j 0 ∧ stHs l j 1 = gs j 1 ∧ stHs l j 2 = gs j 2 := by
  by_cases h0 : l = []
  · have hm : m = 0 := k.zero.2 h0
    subst hm
    exact ⟨by unfold stWs; rw [if_pos h0], fun j hj => absurd hj (by omega)⟩
  · obtain ⟨e1, e2⟩ := k.words h0
    refine ⟨by unfold stWs; rw [if_neg h0]; exact e1, fun j hj => ?_⟩
    unfold stHs
    rw [e2 j hj]
    exact (st_told (k.2.1 j hj)).2
theorem fits_stV (l : List UInt8) : FitsStake (stV l) := by
  have w8 : ∀ x, -128 ≤ IntKind.i8.wrap x ∧ IntKind.i8.wrap x ≤ 127 := fun x => by unfold IntKind.wrap; simp [IntKind.signed, IntKind.bits]; omega
  have w16 : ∀ x, -32768 ≤ IntKind.i16.wrap x ∧ IntKind.i16.wrap x ≤ 32767 := fun x => by unfold IntKind.wrap; simp [IntKind.signed, IntKind.bits]; omega
  exact ⟨w8 _, w8 _, w16 _⟩
theorem stakeB_congr {g : Nat → Int} {h h' : Nat → Int} (e : h 0 = h' 0 ∧ h 1 = h' 1 ∧ h 2 = h' 2) : stakeB g h = stakeB g h' := by
  unfold stakeB; rw [e.1, e.2.1, e.2.2]
theorem stakeW_congr {hs gs : Nat → Nat → Int} {k : Nat} (e : hs k 0 = gs k 0 ∧ hs k 1 = gs k 1 ∧ hs k 2 = gs k 2) : stakeW hs k = stakeW gs k := by
  unfold stakeW; rw [e.1, e.2.1, e.2.2]
theorem joinT_congr {s : List UInt8} {f g : Nat → List UInt8} {n : Nat} (h : ∀ k, k < n → f k = g k) : joinT s f n = joinT s g n := by
  unfold joinT
  rw [List.map_congr_left (fun k hk => h k (List.mem_range.1 hk))]
theorem TellsK.same {l : List UInt8} {m : Nat} {gs hs : Nat → Nat → Int} (k : TellsK l m gs) (h : ∀ j, j < m → hs j 0 = gs j 0 ∧ hs j 1 = gs j 1 ∧ hs j 2 = gs j 2) : TellsK l m hs :=
  ⟨k.1, fun i hi => by rw [stakeB_congr (h i hi)]; exact k.2.1 i hi, by rw [k.2.2]; exact joinT_congr fun j hj => (stakeW_congr (h j hj)).symm⟩
/-- Its text asked: told, or nothing. -/
theorem stText_yes {l : List UInt8} (h : stakesT (stWs l) (stHs l) = l) : TellsK l (stWs l) (stHs l) := by
  by_cases h0 : l = []
  · subst h0; exact ⟨by unfold stWs; simp, fun i hi => absurd hi (by unfold stWs; simp), rfl⟩
  · exact tellsK_text h h0
theorem stText_no {l : List UInt8} (h : stakesT (stWs l) (stHs l) ≠ l) (m : Nat) (gs : Nat → Nat → Int) : ¬ TellsK l m gs := fun k => by
  obtain ⟨e, hw⟩ := stHs_told k
  apply h
  rw [e]
  exact (k.same hw).text
end Go.Proofs.YtaaphdbaocjecaaDoor

/-
  spec.l01Number by contract.
-/
namespace Go.Proofs.YtaaphdbaocjecaaDoor
open Go Go.RowKit Go.BigFrame

theorem numB9_long {l : List UInt8} (h : 9 < l.length) : numB9 l = false := by unfold numB9; rw [decide_eq_false (by omega)]; simp
theorem numB9_zero {l : List UInt8} (h : byteL l 0 = 48) (h1 : 1 < l.length) : numB9 l = false := by
  cases l with
  | nil => simp at h1
  | cons a r =>
    have ha : a = 48 := by
      have : a.toNat = 48 := by simpa [byteL] using h
      exact UInt8.toNat_inj.1 this
    subst ha
    have : (decide (1 < (48 :: r : List UInt8).length)) = true := decide_eq_true h1
    unfold numB9
    rw [this]; simp
theorem numB9_dig {l : List UInt8} {k : Nat} (hk : k < l.length) (h : byteL l k < 48 ∨ 57 < byteL l k) : numB9 l = false := by
  have : l.all isD = false := by
    rw [List.all_eq_false]
    refine ⟨l[k]'hk, List.getElem_mem hk, ?_⟩
    rw [byteL_eq hk] at h
    intro e
    have := isD_iff.1 e
    omega
  unfold numB9; rw [this]; simp
theorem numB9_yes {l : List UInt8} (h0 : l ≠ []) (h9 : l.length ≤ 9) (hh : byteL l 0 ≠ 48 ∨ l.length ≤ 1) (hd : ∀ k, k < l.length → 48 ≤ byteL l k ∧ byteL l k ≤ 57) : numB9 l = true := by
  have ha : l.all isD = true := by
    rw [List.all_eq_true]
    intro d hm
    obtain ⟨k, hk, rfl⟩ := List.getElem_of_mem hm
    have := hd k hk
    rw [byteL_eq hk] at this
    exact isD_iff.2 this
  unfold numB9
  rw [ha, decide_eq_true h9]
  cases l with
  | nil => exact absurd rfl h0
  | cons a r =>
    simp only [List.isEmpty_cons, Bool.not_false, Bool.true_and, Bool.and_true, List.head?_cons, Bool.not_eq_true', Bool.and_eq_false_iff]
    rcases hh with hh | hh
    · left
      rw [beq_eq_false_iff_ne]
      intro e
      apply hh
      simp at e
      simp [byteL, e]
    · right; exact decide_eq_false (by omega)

def numV (l : List UInt8) : Int := if numB9 l then valD l else 0
theorem numV_no {l : List UInt8} (h : numB9 l = false) : numV l = 0 := by unfold numV; rw [h]; rfl
theorem numV_yes {l : List UInt8} (h : numB9 l = true) : numV l = valD l := by unfold numV; rw [h]; rfl
theorem bs_isEmpty (l : List UInt8) : (bs l).toList.isEmpty = l.isEmpty := by rw [ByteArray.toList_eq, bs_data]
theorem ret_two {a b : Value} {x y : Value} (h : a = x) (h2 : b = y) : Ending.returned (.tuple #[a, b]) = .returned (.tuple #[x, y]) := by rw [h, h2]

set_option maxRecDepth 100000 in
set_option maxHeartbeats 4000000 in
theorem l01Number_any (l : List UInt8) (w : World) :
    Calls Tryd.prog 14 #[.string (bs l)] w fun e w' => e = .returned (.tuple #[.int .i64 (numV l), .bool (numB9 l)]) ∧ Below w.heap.size w w' := by
  have hM := Mem.nil w
  by_cases h0 : l = []
  · subst h0
    have hE : (bs []).toList.isEmpty = true := bs_isEmpty []
    have hq : numB9 [] = false := rfl
    go_enter Tryd.func14, Tryd.ntmps14
    go_wp2
    refine bodyPost_ret (results_tmp2 rfl _ _ _) rfl ?_
    exact ⟨by rw [numV_no hq, hq]; rfl, hM.below⟩
  have hE : (bs l).toList.isEmpty = false := by
    rw [bs_isEmpty]; cases l with
    | nil => exact absurd rfl h0
    | cons a r => rfl
  have hz : (bs l).size = l.length := bs_size l
  by_cases h9 : 9 < l.length
  · have d1 : decide ((l.length : Int) > 9) = true := decide_eq_true (by omega)
    have d2 : (9 : Int) < l.length := by omega
    have Hq := Lib.hid (numB9_long h9)
    go_enter Tryd.func14, Tryd.ntmps14
    go_wp2
    refine bodyPost_ret (results_tmp2 rfl _ _ _) rfl ?_
    exact ⟨by rw [numV_no Hq.out, Hq.out]; rfl, hM.below⟩
  have d1 : decide ((l.length : Int) > 9) = false := decide_eq_false (by omega)
  have d2 : ¬ (9 : Int) < l.length := by omega
  have hpos : 0 < l.length := List.length_pos_iff.2 h0
  by_cases hh : byteL l 0 = 48 ∧ 1 < l.length
  · have Hq := Lib.hid (numB9_zero hh.1 hh.2)
    have b0 : ((byteL l 0 : Nat) : Int) = 48 := by omega
    have d3 : decide ((l.length : Int) > 1) = true := decide_eq_true (by omega)
    have d4 : (1 : Int) < l.length := by omega
    clear hh
    go_enter Tryd.func14, Tryd.ntmps14
    go_wp2_with (first | (refine wpList_gidx rfl _ _ rfl l rfl 0 hpos rfl _ b0 ?_))
    refine bodyPost_ret (results_tmp2 rfl _ _ _) rfl ?_
    exact ⟨by rw [numV_no Hq.out, Hq.out]; rfl, hM.below⟩
  obtain ⟨v0, hv0⟩ : ∃ v : Int, ((byteL l 0 : Nat) : Int) = v := ⟨_, rfl⟩
  have hcase : (v0 = 48 ∧ l.length = 1) ∨ v0 ≠ 48 := by
    by_cases e : v0 = 48
    · exact .inl ⟨e, by have : ¬ (byteL l 0 = 48 ∧ 1 < l.length) := hh; omega⟩
    · exact .inr e
  have hfin : byteL l 0 ≠ 48 ∨ l.length ≤ 1 := by omega
  have Hfin := Lib.hid hfin
  have H0 := Lib.hid h0
  clear hh hfin h0
  have main : ∀ (Q : Exit → Act → World → Prop), True := fun _ => trivial
  rcases hcase with ⟨e0, e1⟩ | e0
  all_goals
    first
    | (have q0 : (v0 == 48) = true := by rw [beq_iff_eq]; exact e0)
    | (have q0 : (v0 == 48) = false := by rw [beq_eq_false_iff_ne]; exact e0)
    first
    | (have q1 : decide (v0 = 48) = true := decide_eq_true e0)
    | (have q1 : decide (v0 = 48) = false := decide_eq_false e0)
    first
    | (have d3 : decide ((l.length : Int) > 1) = false := decide_eq_false (by omega))
    | skip
    first
    | (have d4 : ¬ (1 : Int) < l.length := by omega)
    | skip
    have E0 := Lib.hid e0
    clear e0 main
    go_enter Tryd.func14, Tryd.ntmps14
    go_wp2_with (first | (refine wpList_gidx rfl _ _ rfl l rfl 0 hpos rfl _ hv0 ?_))
    go_loopw [4, 5] (fun n i wr => ∃ k : Nat, k ≤ l.length ∧ n = .int .i64 (valD (l.take k)) ∧ i = .int .i64 k ∧ Hid (∀ j, j < k → 48 ≤ byteL l j ∧ byteL l j ≤ 57) ∧ Mem (Base.of w) [] wr) (fun _ i _ => l.length - (intOf i).toNat)
    case atStart => exact ⟨0, by omega, rfl, rfl, Lib.hid (fun j hj => absurd hj (by omega)), hM⟩
    case round =>
      clear hM
      obtain ⟨k, hk, rfl, rfl, hd, hM⟩ := hrel
      by_cases hlt : k < l.length
      · have l2 : (k : Int) < l.length := by omega
        obtain ⟨v, bv⟩ : ∃ v : Int, ((byteL l k : Nat) : Int) = v := ⟨_, rfl⟩
        have hv255 := byteL_le l k
        by_cases h48 : v < 48
        · have Hq := Lib.hid (numB9_dig hlt (.inl (by omega)))
          go_wp2_with (first | (refine wpList_idx rfl _ _ rfl l rfl k hlt rfl _ bv ?_) | (refine wpList_gidx rfl _ _ rfl l rfl k hlt rfl _ bv ?_))
          refine bodyPost_ret (results_tmp2 rfl _ _ _) rfl ?_
          exact ⟨by rw [numV_no Hq.out, Hq.out]; rfl, hM.below⟩
        by_cases h57 : 57 < v
        · have Hq := Lib.hid (numB9_dig hlt (.inr (by omega)))
          go_wp2_with (first | (refine wpList_idx rfl _ _ rfl l rfl k hlt rfl _ bv ?_) | (refine wpList_gidx rfl _ _ rfl l rfl k hlt rfl _ bv ?_))
          refine bodyPost_ret (results_tmp2 rfl _ _ _) rfl ?_
          exact ⟨by rw [numV_no Hq.out, Hq.out]; rfl, hM.below⟩
        have hval := valD_take hlt
        have hlt2 := valD_lt k (l.take k) (by rw [List.length_take]; omega) (fun d hm => by
          obtain ⟨j, hj, rfl⟩ := List.getElem_of_mem hm
          rw [List.length_take] at hj
          rw [List.getElem_take]
          have := hd.out j (by omega)
          rw [byteL_eq (by omega)] at this
          exact isD_iff.2 this)
        have hp : 10 ^ k ≤ 10 ^ 8 := Nat.pow_le_pow_right (by decide) (by omega)
        obtain ⟨u, hu⟩ : ∃ u : Int, ((valD (l.take k) : Nat) : Int) = u := ⟨_, rfl⟩
        have hu2 : 0 ≤ u ∧ u < 100000000 := by omega
        have c1 : IntKind.u8.wrap (v - 48) = v - 48 := IntWalk.u8_in _ (by omega)
        have c2 : IntKind.i64.wrap (v - 48) = v - 48 := IntWalk.i64_in _ (by omega)
        have c3 : IntKind.i64.wrap (10 * u) = 10 * u := IntWalk.i64_in _ (by omega)
        have c4 : IntKind.i64.wrap (10 * u + (v - 48)) = 10 * u + (v - 48) := IntWalk.i64_in _ (by omega)
        have Hn := Lib.hid (show ((valD (l.take (k + 1)) : Nat) : Int) = 10 * u + (v - 48) by rw [hval]; omega)
        have Hd := Lib.hid (show ∀ j, j < k + 1 → 48 ≤ byteL l j ∧ byteL l j ≤ 57 from fun j hj => by
          by_cases e : j = k
          · subst e; omega
          · exact hd.out j (by omega))
        rw [hu]
        clear hval hlt2 hp hu
        go_wp2_with (first | (refine wpList_idx rfl _ _ rfl l rfl k hlt rfl _ bv ?_) | (refine wpList_gidx rfl _ _ rfl l rfl k hlt rfl _ bv ?_))
        go_roundw
        case rel => exact ⟨k + 1, by omega, by rw [Hn.out]; try go_num, by go_num, Hd, hM⟩
        case measure => simp [intOf]; omega
      · obtain rfl : k = l.length := by omega
        have Hq := Lib.hid (numB9_yes H0.out (by omega) Hfin.out hd.out)
        rw [List.take_length]
        go_wp2
        refine bodyPost_ret (results_tmp2 rfl _ _ _) rfl ?_
        exact ⟨by rw [numV_yes Hq.out, Hq.out]; rfl, hM.below⟩
end Go.Proofs.YtaaphdbaocjecaaDoor

