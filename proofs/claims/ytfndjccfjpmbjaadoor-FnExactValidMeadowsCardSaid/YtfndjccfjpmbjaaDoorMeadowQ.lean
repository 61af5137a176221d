/-
  laws.eqMeadow, eqMeadowS on what is equal.
-/
import Derived.Test.YtfndjccfjpmbjaaDoorEqSpot
import Derived.Test.YtfndjccfjpmbjaaDoorMeadowV
namespace Go.Proofs.YtfndjccfjpmbjaaDoor
open Go Go.RowKit Go.BigFrame


set_option maxRecDepth 100000 in
set_option maxHeartbeats 400000 in
theorem eqMeadow_same (h : Nat → Int) (w : World) :
    Calls Tryd.prog 12 #[.agg (arr 3 (vMeadow h)), .agg (arr 3 (vMeadow h))] w fun e w' => e = .returned (.bool true) ∧ Below w.heap.size w w' := by
  have hM := Mem.nil w
  have e0 : vMeadow h 0 = .int .i16 (h 0) := rfl
  have e1 : vMeadow h 1 = .int .i16 (h 1) := rfl
  have e2 : vMeadow h 2 = .int .i16 (h 2) := rfl
  have tk_b1 : True := trivial; have tk_b2 : True := trivial
  go_enter Tryd.func12, Tryd.ntmps12
  go_wp2_with (first | (have _t := tk_b1; refine wpList_box rfl _ _ rfl _ _ rfl hM ?_; intro b1 W' hb1 hM'; clear hM tk_b1; have hM := hM'; clear hM') | (have _t := tk_b2; refine wpList_box rfl _ _ rfl _ _ rfl hM ?_; intro b2 W' hb2 hM'; clear hM tk_b2; have hM := hM'; clear hM') | (refine wpList_get1 rfl _ _ rfl _ _ rfl hM 1 rfl (cellTab _ rfl) (by omega) _ rfl ?_) | (refine wpList_get1 rfl _ _ rfl _ _ rfl hM 0 rfl (cellTab _ rfl) (by omega) _ rfl ?_) | (refine wpList_get rfl _ _ rfl _ _ rfl hM 1 rfl (rowTab _ _ rfl) (by omega) ?_) | (refine wpList_get rfl _ _ rfl _ _ rfl hM 0 rfl (rowTab _ _ rfl) (by omega) ?_))
  go_ret
  exact ⟨rfl, hM.below⟩

set_option maxRecDepth 100000 in
set_option maxHeartbeats 1000000 in
/-- eqMeadowS of two lists that hold the same. -/
theorem eqMeadowS_same (b b' n c c' : Nat) (hs : Nat → Nat → Int) (hn : n ≤ maxLen) (w : World) (hA : At w b (n * 3) (sMeadow hs)) (hA' : At w b' (n * 3) (sMeadow hs)) (hne : b ≠ b') :
    Calls Tryd.prog 8 #[.slice (some ⟨b, 0, none⟩) n c, .slice (some ⟨b', 0, none⟩) n c'] w fun e w' => e = .returned (.bool true) ∧ Below w.heap.size w w' := by
  have hM : Mem w [(b, n * 3, sMeadow hs), (b', n * 3, sMeadow hs)] w := ((Mem.nil w).old hA (fun i p h => by simp at h)).old hA' (fun i p h => by
    match i, h with
    | 0, h => simp at h; rw [← h]; exact hne
    | _ + 1, h => simp at h)
  unfold maxLen at hn
  clear hA hA'
  go_enter Tryd.func8, Tryd.ntmps8
  go_wp2
  go_loopw [5] (fun i wr => ∃ k : Nat, k ≤ n ∧ i = .int .i64 k ∧ Mem w [(b, n * 3, sMeadow hs), (b', n * 3, sMeadow hs)] wr) (fun i _ => n - (intOf i).toNat)
  case atStart => exact ⟨0, by omega, rfl, hM⟩
  case round =>
    clear hM
    obtain ⟨k, hk, rfl, hM⟩ := hrel
    by_cases hlt : k < n
    · have l2 : (k : Int) < n := by omega
      have er : arr 3 (fun j => sMeadow hs (k * 3 + j)) = arr 3 (vMeadow (hs k)) := arr_congr fun j hj => sMeadow_row hs k j hj
      go_wp2
      ((try simp only [Act.put, List.setIfInBounds_toArray, List.set_cons_succ, List.set_cons_zero]); refine wp_region_mem (by kernel_rfl) (by kernel_rfl) hM ?_; clear hM; (repeat (first | go_big_quiet_skip | (go_big_quiet_want; first | (refine quiet_get _ _ rfl _ _ rfl 1 rfl rowMeadow (by omega) ?_; (simp only [er]); (simp only [Act.put, List.setIfInBounds_toArray, List.set_cons_succ, List.set_cons_zero]); go_big_quiet_on) | (refine quiet_get _ _ rfl _ _ rfl 0 rfl rowMeadow (by omega) ?_; (simp only [er]); (simp only [Act.put, List.setIfInBounds_toArray, List.set_cons_succ, List.set_cons_zero]); go_big_quiet_on) | (refine quiet_call ?_; apply Exists.intro; apply Exists.intro; apply Exists.intro; refine ⟨fun W => ?_, fun W hM => ?_, ?_⟩; (go_simp; exact ⟨rfl, rfl⟩); (exact eqMeadow_same (hs k) W); (simp only [Act.put, List.setIfInBounds_toArray, List.set_cons_succ, List.set_cons_zero]); go_big_quiet_on) | (refine quiet_val ?_; apply Exists.intro; refine ⟨fun W => ?_, ?_⟩; (go_simp; (try simp only [l2, if_true, Bool.false_eq_true, if_false]); rfl); (simp only [Act.put, List.setIfInBounds_toArray, List.set_cons_succ, List.set_cons_zero]); go_big_quiet_on)))); (with_reducible refine wpQuiet_nil ?_); intro W' hM)
      go_wp2
      go_roundw
      case rel => exact ⟨k + 1, by omega, by go_num, hM⟩
      case measure => simp [intOf]; omega
    · obtain rfl : k = n := by omega
      go_wp2
      go_ret
      exact ⟨rfl, hM.below⟩
end Go.Proofs.YtfndjccfjpmbjaaDoor
