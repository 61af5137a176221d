/-
  laws.toInt16A10, toInt16A10A10, toUint16A10, toPasture: each hands back what it is handed.
-/
import Derived.Test.YtdlfhomnlhdacaaDoorTypes
import Derived.WalkKit
import Derived.OwnWalk
import Derived.BigQuiet
namespace Go.Proofs.YtdlfhomnlhdacaaDoor
open Go Go.RowKit Go.BigFrame

set_option maxHeartbeats 400000 in
theorem toInt16A10_any (f : Nat → Value) (h1 : ∀ k, (f k).oneCell' = true) (w : World) :
    Calls Tryd.prog 90 #[.agg (arr 10 f)] w fun e w' => e = .returned (.agg (arr 10 f)) ∧ Below w.heap.size w w' := by
  have hM := Mem.nil w
  have tk_b1 : True := trivial; have tk_b2 : True := trivial; have tk_b3 : True := trivial
  go_enter Tryd.func90, Tryd.ntmps90
  go_wp2_with (first | (have _t := tk_b1; refine wpList_box rfl _ _ rfl _ _ rfl hM ?_; intro b1 W' hb1 hM'; clear hM tk_b1; have hM := hM'; clear hM') | (have _t := tk_b2; refine wpList_zero rfl _ rfl (zeroTab _ _ _ rfl) hM ?_; intro b2 W' hb2 hM'; clear hM tk_b2; have hM := hM'; clear hM') | (have _t := tk_b3; refine wpList_zero rfl _ rfl (zeroTab _ _ _ rfl) hM ?_; intro b3 W' hb3 hM'; clear hM tk_b3; have hM := hM'; clear hM'))
  go_loopw [4] (fun i wr => ∃ k : Nat, k ≤ 10 ∧ i = .int .i64 k ∧ ∃ g, (∀ j, j < k → g j = f j) ∧ Mem w [(b3, 10, g), (b2, 10, fun _ => .int .i16 0), (b1, 10, f)] wr) (fun i _ => 10 - (intOf i).toNat)
  case atStart => exact ⟨0, by omega, rfl, _, fun j hj => absurd hj (by omega), hM⟩
  case round =>
    obtain ⟨k, hk, rfl, g, hg, hM⟩ := hrel
    by_cases hlt : k < 10
    · go_wp2_with (first | (refine wpList_get1 rfl _ _ rfl _ _ rfl hM 2 rfl (cellTab _ rfl) (by omega) _ rfl ?_) | (refine wpList_set1 rfl _ _ _ rfl _ _ rfl _ rfl ?_ hM 0 rfl (by assumption) (cellTab _ rfl) (by omega) ?_; (first | rfl | exact h1 _); intro W' hM'; clear hM; have hM := hM'; clear hM'; simp [List.set, Act.eval] at hM))
      go_roundw
      case rel => exact ⟨k + 1, by omega, by go_num, _, fun j hj => by
        by_cases e : j = k
        · subst e; simp [upd]
        · simp [upd, e, hg j (by omega)], hM⟩
      case measure => simp [intOf]; omega
    · obtain rfl : k = 10 := by omega
      have hM := hM.re 0 rfl f hg
      clear hg
      simp only [List.set] at hM
      go_wp2_with (first | (refine wpList_get rfl _ _ rfl _ _ rfl hM 0 rfl (rowTab _ _ rfl) (by omega) ?_) | (refine wpList_lay rfl _ _ _ rfl _ _ rfl _ _ rfl hM 1 rfl (by assumption) (rowTab _ _ rfl) (by omega) ?_ ?_; (first | (intro _ _; rfl) | (intro k _; exact h1 _) | (intro k _; simp only [lay, upd]; (repeat' split) <;> first | exact h1 _ | rfl)); intro W' hM'; clear hM; have hM := hM'; clear hM'; simp only [List.set] at hM))
      have hA := (hM.ats 1 _ _ _ rfl).congr (g := f) (fun k hk => by simp [lay, hk])
      exact bodyPost_ret (results_at rfl _ rfl hA (rowTab _ _ rfl)) rfl ⟨rfl, hM.below⟩
set_option maxHeartbeats 400000 in
theorem toUint16A10_any (f : Nat → Value) (h1 : ∀ k, (f k).oneCell' = true) (w : World) :
    Calls Tryd.prog 59 #[.agg (arr 10 f)] w fun e w' => e = .returned (.agg (arr 10 f)) ∧ Below w.heap.size w w' := by
  have hM := Mem.nil w
  have tk_b1 : True := trivial; have tk_b2 : True := trivial; have tk_b3 : True := trivial
  go_enter Tryd.func59, Tryd.ntmps59
  go_wp2_with (first | (have _t := tk_b1; refine wpList_box rfl _ _ rfl _ _ rfl hM ?_; intro b1 W' hb1 hM'; clear hM tk_b1; have hM := hM'; clear hM') | (have _t := tk_b2; refine wpList_zero rfl _ rfl (zeroTab _ _ _ rfl) hM ?_; intro b2 W' hb2 hM'; clear hM tk_b2; have hM := hM'; clear hM') | (have _t := tk_b3; refine wpList_zero rfl _ rfl (zeroTab _ _ _ rfl) hM ?_; intro b3 W' hb3 hM'; clear hM tk_b3; have hM := hM'; clear hM'))
  go_loopw [4] (fun i wr => ∃ k : Nat, k ≤ 10 ∧ i = .int .i64 k ∧ ∃ g, (∀ j, j < k → g j = f j) ∧ Mem w [(b3, 10, g), (b2, 10, fun _ => .int .u16 0), (b1, 10, f)] wr) (fun i _ => 10 - (intOf i).toNat)
  case atStart => exact ⟨0, by omega, rfl, _, fun j hj => absurd hj (by omega), hM⟩
  case round =>
    obtain ⟨k, hk, rfl, g, hg, hM⟩ := hrel
    by_cases hlt : k < 10
    · go_wp2_with (first | (refine wpList_get1 rfl _ _ rfl _ _ rfl hM 2 rfl (cellTab _ rfl) (by omega) _ rfl ?_) | (refine wpList_set1 rfl _ _ _ rfl _ _ rfl _ rfl ?_ hM 0 rfl (by assumption) (cellTab _ rfl) (by omega) ?_; (first | rfl | exact h1 _); intro W' hM'; clear hM; have hM := hM'; clear hM'; simp [List.set, Act.eval] at hM))
      go_roundw
      case rel => exact ⟨k + 1, by omega, by go_num, _, fun j hj => by
        by_cases e : j = k
        · subst e; simp [upd]
        · simp [upd, e, hg j (by omega)], hM⟩
      case measure => simp [intOf]; omega
    · obtain rfl : k = 10 := by omega
      have hM := hM.re 0 rfl f hg
      clear hg
      simp only [List.set] at hM
      go_wp2_with (first | (refine wpList_get rfl _ _ rfl _ _ rfl hM 0 rfl (rowTab _ _ rfl) (by omega) ?_) | (refine wpList_lay rfl _ _ _ rfl _ _ rfl _ _ rfl hM 1 rfl (by assumption) (rowTab _ _ rfl) (by omega) ?_ ?_; (first | (intro _ _; rfl) | (intro k _; exact h1 _) | (intro k _; simp only [lay, upd]; (repeat' split) <;> first | exact h1 _ | rfl)); intro W' hM'; clear hM; have hM := hM'; clear hM'; simp only [List.set] at hM))
      have hA := (hM.ats 1 _ _ _ rfl).congr (g := f) (fun k hk => by simp [lay, hk])
      exact bodyPost_ret (results_at rfl _ rfl hA (rowTab _ _ rfl)) rfl ⟨rfl, hM.below⟩
set_option maxHeartbeats 400000 in
theorem toInt16A10A10_any (f : Nat → Value) (h1 : ∀ k, (f k).oneCell' = true) (w : World) :
    Calls Tryd.prog 58 #[.agg (arr 100 f)] w fun e w' => e = .returned (.agg (arr 100 f)) ∧ Below w.heap.size w w' := by
  have hM := Mem.nil w
  have tk_b1 : True := trivial; have tk_b2 : True := trivial; have tk_b3 : True := trivial
  go_enter Tryd.func58, Tryd.ntmps58
  go_wp2_with (first | (have _t := tk_b1; refine wpList_box rfl _ _ rfl _ _ rfl hM ?_; intro b1 W' hb1 hM'; clear hM tk_b1; have hM := hM'; clear hM') | (have _t := tk_b2; refine wpList_zero rfl _ rfl (zeroTab _ _ _ rfl) hM ?_; intro b2 W' hb2 hM'; clear hM tk_b2; have hM := hM'; clear hM') | (have _t := tk_b3; refine wpList_zero rfl _ rfl (zeroTab _ _ _ rfl) hM ?_; intro b3 W' hb3 hM'; clear hM tk_b3; have hM := hM'; clear hM'))
  go_loopw [4] (fun i wr => ∃ k : Nat, k ≤ 10 ∧ i = .int .i64 k ∧ ∃ g, (∀ j, j < k * 10 → g j = f j) ∧ Mem w [(b3, 100, g), (b2, 100, fun _ => .int .i16 0), (b1, 100, f)] wr) (fun i _ => 10 - (intOf i).toNat)
  case atStart => exact ⟨0, by omega, rfl, _, fun j hj => absurd hj (by omega), hM⟩
  case round =>
    obtain ⟨k, hk, rfl, g, hg, hM⟩ := hrel
    by_cases hlt : k < 10
    · go_wp2_with (first | (refine wpList_get rfl _ _ rfl _ _ rfl hM 2 rfl (rowTab _ _ rfl) (by omega) ?_) | (go_at_call 90; refine (toInt16A10_any _ (fun _ => h1 _) _).mono ?_; rintro e W' ⟨rfl, hb'⟩; have hM' := hM.call hb'; clear hM hb'; have hM := hM'; clear hM') | (refine wpList_lay rfl _ _ _ rfl _ _ rfl _ _ rfl hM 0 rfl (by assumption) (rowTab _ _ rfl) (by omega) ?_ ?_; (first | (intro _ _; rfl) | (intro k _; exact h1 _) | (intro k _; simp only [lay, upd]; (repeat' split) <;> first | exact h1 _ | rfl)); intro W' hM'; clear hM; have hM := hM'; clear hM'; simp only [List.set] at hM))
      go_roundw
      case rel => exact ⟨k + 1, by omega, by go_num, _, fun j hj => by
        by_cases e : k * 10 ≤ j
        · have : j - k * 10 < 10 := by omega
          have e2 : k * 10 + (j - k * 10) = j := by omega
          have e3 : j < k * 10 + 10 := by omega
          simp [lay, e, e2, e3]
        · simp [lay, e, hg j (by omega)], hM⟩
      case measure => simp [intOf]; omega
    · obtain rfl : k = 10 := by omega
      have hM := hM.re 0 rfl f hg
      clear hg
      simp only [List.set] at hM
      go_wp2_with (first | (refine wpList_get rfl _ _ rfl _ _ rfl hM 0 rfl (rowTab _ _ rfl) (by omega) ?_) | (refine wpList_lay rfl _ _ _ rfl _ _ rfl _ _ rfl hM 1 rfl (by assumption) (rowTab _ _ rfl) (by omega) ?_ ?_; (first | (intro _ _; rfl) | (intro k _; exact h1 _) | (intro k _; simp only [lay, upd]; (repeat' split) <;> first | exact h1 _ | rfl)); intro W' hM'; clear hM; have hM := hM'; clear hM'; simp only [List.set] at hM))
      have hA := (hM.ats 1 _ _ _ rfl).congr (g := f) (fun k hk => by simp [lay, hk])
      exact bodyPost_ret (results_at rfl _ rfl hA (rowTab _ _ rfl)) rfl ⟨rfl, hM.below⟩
set_option maxHeartbeats 400000 in
theorem toPasture_any (f : Nat → Value) (h1 : ∀ k, (f k).oneCell' = true) (w : World) :
    Calls Tryd.prog 19 #[.agg (arr 122 f)] w fun e w' => e = .returned (.agg (arr 122 f)) ∧ Below w.heap.size w w' := by
  have hM := Mem.nil w
  have tk_b1 : True := trivial; have tk_b2 : True := trivial; have tk_b3 : True := trivial
  go_enter Tryd.func19, Tryd.ntmps19
  go_wp2_with (first | (have _t := tk_b1; refine wpList_box rfl _ _ rfl _ _ rfl hM ?_; intro b1 W' hb1 hM'; clear hM tk_b1; have hM := hM'; clear hM') | (have _t := tk_b2; refine wpList_zero rfl _ rfl (zeroTab _ _ _ rfl) hM ?_; intro b2 W' hb2 hM'; clear hM tk_b2; have hM := hM'; clear hM') | (have _t := tk_b3; refine wpList_zero rfl _ rfl (zeroTab _ _ _ rfl) hM ?_; intro b3 W' hb3 hM'; clear hM tk_b3; have hM := hM'; clear hM') | (refine wpList_get1 rfl _ _ rfl _ _ rfl hM 2 rfl (cellTab _ rfl) (by omega) _ rfl ?_) | (refine wpList_set1 rfl _ _ _ rfl _ _ rfl _ rfl ?_ hM 0 rfl (by assumption) (cellTab _ rfl) (by omega) ?_; (first | rfl | exact h1 _); intro W' hM'; clear hM; have hM := hM'; clear hM'; simp [List.set, Act.eval] at hM) | (refine wpList_get rfl _ _ rfl _ _ rfl hM 2 rfl (rowTab _ _ rfl) (by omega) ?_) | (go_at_call 58; refine (toInt16A10A10_any _ (fun _ => h1 _) _).mono ?_; rintro e W' ⟨rfl, hb'⟩; have hM' := hM.call hb'; clear hM hb'; have hM := hM'; clear hM') | (go_at_call 59; refine (toUint16A10_any _ (fun _ => h1 _) _).mono ?_; rintro e W' ⟨rfl, hb'⟩; have hM' := hM.call hb'; clear hM hb'; have hM := hM'; clear hM') | (refine wpList_lay rfl _ _ _ rfl _ _ rfl _ _ rfl hM 0 rfl (by assumption) (rowTab _ _ rfl) (by omega) ?_ ?_; (first | (intro _ _; rfl) | (intro k _; exact h1 _) | (intro k _; simp only [lay, upd]; (repeat' split) <;> first | exact h1 _ | rfl)); intro W' hM'; clear hM; have hM := hM'; clear hM'; simp only [List.set] at hM) | (refine wpList_get rfl _ _ rfl _ _ rfl hM 0 rfl (rowTab _ _ rfl) (by omega) ?_) | (refine wpList_lay rfl _ _ _ rfl _ _ rfl _ _ rfl hM 1 rfl (by assumption) (rowTab _ _ rfl) (by omega) ?_ ?_; (first | (intro _ _; rfl) | (intro k _; exact h1 _) | (intro k _; simp only [lay, upd]; (repeat' split) <;> first | exact h1 _ | rfl)); intro W' hM'; clear hM; have hM := hM'; clear hM'; simp only [List.set] at hM))
  have hA := (hM.ats 1 _ _ _ rfl).congr (g := f) (fun k hk => by
    simp only [lay, upd]
    (repeat' split) <;> first | (congr 1; omega) | (exfalso; omega))
  exact bodyPost_ret (results_at rfl _ rfl hA (rowTab _ _ rfl)) rfl ⟨rfl, hM.below⟩
theorem toPasture_pas (g : Nat → Int) (w : World) :
    Calls Tryd.prog 19 #[.agg (arr 122 (pas g))] w fun e w' => e = .returned (.agg (arr 122 (pas g))) ∧ Below w.heap.size w w' := toPasture_any _ (fun _ => rfl) w
end Go.Proofs.YtdlfhomnlhdacaaDoor
