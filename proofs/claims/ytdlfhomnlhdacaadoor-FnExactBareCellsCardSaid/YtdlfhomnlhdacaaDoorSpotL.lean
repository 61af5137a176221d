/-
  laws.eqSpotS, laws.markSpotS, laws.heldSpotS over lists that hold room behind their end.
-/
import Derived.Test.YtdlfhomnlhdacaaDoorSpotS
import Derived.Test.YtdlfhomnlhdacaaDoorOwn
namespace Go.Proofs.YtdlfhomnlhdacaaDoor
open Go Go.RowKit Go.BigFrame Go.ChangeShapes Go.WideShapes Go.Deep

theorem eqSpotS_zero (a a' : Option Addr) (c c' : Nat) (w : World) : Calls Tryd.prog 36 #[.slice a 0 c, .slice a' 0 c'] w fun e w' => e = .returned (.bool true) ∧ Below w.heap.size w w' := by
  go_enter Tryd.func36, Tryd.ntmps36
  go_wp2
  refine wp_loop_rounds 1 ?_
  rw [rounds_succ]
  go_wp2
  go_ret
  exact ⟨rfl, Below.refl _ _⟩
theorem markSpotS_zero (a : Option Addr) (c : Nat) (k : Int) (w : World) : Calls Tryd.prog 43 #[.slice a 0 c, .int .i64 k] w fun e w' => e = .returned (.int .i64 k) ∧ Below w.heap.size w w' := by
  go_enter Tryd.func43, Tryd.ntmps43
  go_wp2
  refine wp_loop_rounds 1 ?_
  rw [rounds_succ]
  go_wp2
  go_ret
  exact ⟨rfl, Below.refl _ _⟩
theorem heldSpotS_zero (a : Option Addr) (c : Nat) (k : Int) (w : World) : Calls Tryd.prog 44 #[.slice a 0 c, .int .i64 k] w fun e w' => e = .returned (.int .i64 k) ∧ Below w.heap.size w w' := by
  go_enter Tryd.func44, Tryd.ntmps44
  go_wp2
  refine wp_loop_rounds 1 ?_
  rw [rounds_succ]
  go_wp2
  go_ret
  exact ⟨rfl, Below.refl _ _⟩

set_option maxRecDepth 100000 in
set_option maxHeartbeats 1000000 in
/-- eqSpotS of two lists that hold the same. -/
theorem eqSpotS_list (b b' n c c' N N' : Nat) (F F' : Nat → Value) (s : Nat → Int × Int) (hF : ∀ j, j < n * 2 → F j = sps s j) (hF' : ∀ j, j < n * 2 → F' j = sps s j) (hN : n * 2 ≤ N) (hN' : n * 2 ≤ N') (hn : n ≤ 1048576) (w : World) (hA : At w b N F) (hA' : At w b' N' F') (hne : b ≠ b') :
    Calls Tryd.prog 36 #[.slice (some ⟨b, 0, none⟩) n c, .slice (some ⟨b', 0, none⟩) n c'] w fun e w' => e = .returned (.bool true) ∧ Below w.heap.size w w' := by
  have hM : Mem w [(b, N, F), (b', N', F')] w := ((Mem.nil w).old hA (fun i p h => by simp at h)).old hA' (fun i p h => by
    match i, h with
    | 0, h => simp at h; rw [← h]; exact hne
    | _ + 1, h => simp at h)
  have Hf := Lib.hid hF
  have Hf' := Lib.hid hF'
  clear hA hA' hF hF'
  go_enter Tryd.func36, Tryd.ntmps36
  go_wp2
  go_loopw [5] (fun i wr => ∃ k : Nat, k ≤ n ∧ i = .int .i64 k ∧ Mem w [(b, N, F), (b', N', F')] wr) (fun i _ => n - (intOf i).toNat)
  case atStart => exact ⟨0, by omega, rfl, hM⟩
  case round =>
    clear hM
    obtain ⟨k, hk, rfl, hM⟩ := hrel
    by_cases hlt : k < n
    · have l2 : (k : Int) < n := by omega
      have er : arr 2 (fun j => F (k * 2 + j)) = arr 2 (sp (s k).1 (s k).2) := arr_congr fun j hj => by rw [Hf.out _ (by omega)]; exact sps_row s k j hj
      have er' : arr 2 (fun j => F' (k * 2 + j)) = arr 2 (sp (s k).1 (s k).2) := arr_congr fun j hj => by rw [Hf'.out _ (by omega)]; exact sps_row s k j hj
      go_wp2
      ((try simp only [Act.put, List.setIfInBounds_toArray, List.set_cons_succ, List.set_cons_zero]); refine wp_region_mem (by kernel_rfl) (by kernel_rfl) hM ?_; clear hM; (repeat (first | go_big_quiet_skip | (go_big_quiet_want; first | (refine quiet_get _ _ rfl _ _ rfl 1 rfl (rowTab _ _ rfl) (by omega) ?_; (simp only [er, er']); (simp only [Act.put, List.setIfInBounds_toArray, List.set_cons_succ, List.set_cons_zero]); go_big_quiet_on) | (refine quiet_get _ _ rfl _ _ rfl 0 rfl (rowTab _ _ rfl) (by omega) ?_; (simp only [er, er']); (simp only [Act.put, List.setIfInBounds_toArray, List.set_cons_succ, List.set_cons_zero]); go_big_quiet_on) | (refine quiet_call ?_; apply Exists.intro; apply Exists.intro; apply Exists.intro; refine ⟨fun W => ?_, fun W hM => ?_, ?_⟩; (go_simp; exact ⟨rfl, rfl⟩); (exact eqSpot_same (s k).1 (s k).2 W); (simp only [Act.put, List.setIfInBounds_toArray, List.set_cons_succ, List.set_cons_zero]); go_big_quiet_on) | (refine quiet_val ?_; apply Exists.intro; refine ⟨fun W => ?_, ?_⟩; (go_simp; (try simp only [l2, if_true, Bool.false_eq_true, if_false]); rfl); (simp only [Act.put, List.setIfInBounds_toArray, List.set_cons_succ, List.set_cons_zero]); go_big_quiet_on)))); (with_reducible refine wpQuiet_nil ?_); intro W' hM)
      go_wp2
      go_roundw
      case rel => exact ⟨k + 1, by omega, by go_num, hM⟩
      case measure => simp [intOf]; omega
    · obtain rfl : k = n := by omega
      go_wp2
      go_ret
      exact ⟨rfl, hM.below⟩

/-- The mark m, as a cell. -/
def mkV (m : Nat) : Value := .int .i8 (IntKind.i8.wrap (m : Int))

set_option maxRecDepth 100000 in
set_option maxHeartbeats 1000000 in
/-- markSpotS writes its marks into the list. -/
theorem markSpotS_list (b0 : Base) (K : Blocks) (b n c N k0 : Nat) (F : Nat → Value) (hN : n * 2 ≤ N) (hn : n ≤ 1048576) (hk0 : k0 ≤ 1048576) (hb : b0.B ≤ b) (w : World) (hM0 : Mem b0 ((b, N, F) :: K) w) :
    Calls Tryd.prog 43 #[.slice (some ⟨b, 0, none⟩) n c, .int .i64 k0] w fun e w' => e = .returned (.int .i64 ((k0 + n * 2 : Nat) : Int)) ∧ ∃ G, (∀ j, j < n * 2 → G j = mkV (k0 + j)) ∧ Mem b0 ((b, N, G) :: K) w' := by
  have hM := hM0
  clear hM0
  go_enter Tryd.func43, Tryd.ntmps43
  go_wp2
  go_loopw [1, 5] (fun t i wr => ∃ k : Nat, k ≤ n ∧ t = .int .i64 ((k0 + k * 2 : Nat) : Int) ∧ i = .int .i64 k ∧ ∃ G, Hid (∀ j, j < k * 2 → G j = mkV (k0 + j)) ∧ Mem b0 ((b, N, G) :: K) wr) (fun _ i _ => n - (intOf i).toNat)
  case atStart => exact ⟨0, by omega, rfl, rfl, F, Lib.hid (fun j hj => absurd hj (by omega)), hM⟩
  case round =>
    clear hM
    obtain ⟨k, hk, rfl, rfl, G, hG, hM⟩ := hrel
    by_cases hlt : k < n
    · have l2 : (k : Int) < n := by omega
      obtain ⟨m, hm⟩ : ∃ m : Nat, m = k0 + k * 2 := ⟨_, rfl⟩
      rw [← hm]
      have c1 : IntKind.i64.wrap ((m : Int) + 1) = ((m + 1 : Nat) : Int) := IntWalk.i64_in _ (by omega)
      have c2 : IntKind.i64.wrap (((m + 1 : Nat) : Int) + 1) = ((k0 + (k + 1) * 2 : Nat) : Int) := by
        rw [show ((m + 1 : Nat) : Int) + 1 = ((k0 + (k + 1) * 2 : Nat) : Int) by omega]; exact IntWalk.i64_in _ (by omega)
      have c3 : wrap64 ((m : Int) + 1 + 1) = ((k0 + (k + 1) * 2 : Nat) : Int) := by unfold wrap64; omega
      have Hm := Lib.hid hm
      clear hm
      have tk_s1 : True := trivial; have tk_s2 : True := trivial
      go_wp2_with (first | (have _t := tk_s1; (refine wpList_set1 rfl _ _ _ rfl _ _ rfl _ rfl ?_ hM 0 rfl (by assumption) (cellTab _ rfl) (by omega) ?_; (first | rfl | exact h1 _); intro W' hM'; clear hM; have hM := hM'; clear hM'; simp [List.set, Act.eval] at hM); clear tk_s1) | (have _t := tk_s2; (refine wpList_set1 rfl _ _ _ rfl _ _ rfl _ rfl ?_ hM 0 rfl (by assumption) (cellTab _ rfl) (by omega) ?_; (first | rfl | exact h1 _); intro W' hM'; clear hM; have hM := hM'; clear hM'; simp [List.set, Act.eval] at hM); clear tk_s2))
      go_roundw
      case rel => exact ⟨k + 1, by omega, by first | exact congrArg (Value.int .i64) c3 | rfl, by go_num, _, Lib.hid (fun j hj => by
        simp only [upd]
        by_cases e1 : j = k * 2 + 1
        · rw [if_pos e1, e1]; simp only [mkV, Hm.out]; congr 2
        · by_cases e2 : j = k * 2
          · rw [if_neg e1, if_pos e2, e2]; simp only [mkV, Hm.out]
          · rw [if_neg e1, if_neg e2]; exact hG.out j (by omega)), hM⟩
      case measure => simp [intOf]; omega
    · obtain rfl : k = n := by omega
      go_wp2
      go_ret
      exact ⟨rfl, G, hG.out, hM⟩

set_option maxRecDepth 100000 in
set_option maxHeartbeats 1000000 in
/-- heldSpotS finds the marks. -/
theorem heldSpotS_list (b n c N k0 : Nat) (G : Nat → Value) (hN : n * 2 ≤ N) (hn : n ≤ 1048576) (hk0 : k0 ≤ 1048576) (hG : ∀ j, j < n * 2 → G j = mkV (k0 + j)) (w : World) (hA : At w b N G) :
    Calls Tryd.prog 44 #[.slice (some ⟨b, 0, none⟩) n c, .int .i64 k0] w fun e w' => e = .returned (.int .i64 ((k0 + n * 2 : Nat) : Int)) ∧ Below w.heap.size w w' := by
  have hM : Mem w [(b, N, G)] w := (Mem.nil w).old hA (fun i p h => by simp at h)
  have Hg := Lib.hid hG
  clear hA hG
  go_enter Tryd.func44, Tryd.ntmps44
  go_wp2
  go_loopw [1, 5] (fun t i wr => ∃ k : Nat, k ≤ n ∧ t = .int .i64 ((k0 + k * 2 : Nat) : Int) ∧ i = .int .i64 k ∧ Mem w [(b, N, G)] wr) (fun _ i _ => n - (intOf i).toNat)
  case atStart => exact ⟨0, by omega, rfl, rfl, hM⟩
  case round =>
    clear hM
    obtain ⟨k, hk, rfl, rfl, hM⟩ := hrel
    by_cases hlt : k < n
    · have l2 : (k : Int) < n := by omega
      obtain ⟨m, hm⟩ : ∃ m : Nat, m = k0 + k * 2 := ⟨_, rfl⟩
      have e0 : G (k * 2) = .int .i8 (IntKind.i8.wrap (m : Int)) := by rw [Hg.out _ (by omega), hm]; rfl
      have e1 : G (k * 2 + 1) = .int .i8 (IntKind.i8.wrap ((m + 1 : Nat) : Int)) := by rw [Hg.out _ (by omega), hm]; rfl
      rw [← hm]
      have c1 : IntKind.i64.wrap ((m : Int) + 1) = ((m + 1 : Nat) : Int) := IntWalk.i64_in _ (by omega)
      have c2 : IntKind.i64.wrap (((m + 1 : Nat) : Int) + 1) = ((k0 + (k + 1) * 2 : Nat) : Int) := by
        rw [show ((m + 1 : Nat) : Int) + 1 = ((k0 + (k + 1) * 2 : Nat) : Int) by omega]; exact IntWalk.i64_in _ (by omega)
      have c3 : wrap64 ((m : Int) + 1 + 1) = ((k0 + (k + 1) * 2 : Nat) : Int) := by unfold wrap64; omega
      have Hm := Lib.hid hm
      clear hm
      have tk_s1 : True := trivial; have tk_s2 : True := trivial
      go_wp2_with (first | (have _t := tk_s1; (refine wpList_get1 rfl _ _ rfl _ _ rfl hM 0 rfl (cellTab _ rfl) (by omega) _ e0 ?_); clear tk_s1) | (have _t := tk_s2; (refine wpList_get1 rfl _ _ rfl _ _ rfl hM 0 rfl (cellTab _ rfl) (by omega) _ e1 ?_); clear tk_s2))
      go_roundw
      case rel => exact ⟨k + 1, by omega, by first | exact congrArg (Value.int .i64) c3 | rfl, by go_num, hM⟩
      case measure => simp [intOf]; omega
    · obtain rfl : k = n := by omega
      go_wp2
      go_ret
      exact ⟨rfl, hM.below⟩
end Go.Proofs.YtdlfhomnlhdacaaDoor
