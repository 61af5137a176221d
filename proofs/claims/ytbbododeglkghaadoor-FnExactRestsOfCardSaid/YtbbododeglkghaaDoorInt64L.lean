/-
  laws.eqInt64S, markInt64S, heldInt64S over lists that hold room behind their end.
-/
import Derived.Test.YtbbododeglkghaaDoorInt64SC
import Derived.Test.YtbbododeglkghaaDoorOwn
namespace Go.Proofs.YtbbododeglkghaaDoor
open Go Go.RowKit Go.BigFrame Go.ChangeShapes Go.WideShapes Go.Deep

theorem eqInt64S_zero (a a' : Option Addr) (c c' : Nat) (w : World) : Calls Tryd.prog 23 #[.slice a 0 c, .slice a' 0 c'] w fun e w' => e = .returned (.bool true) ∧ Below w.heap.size w w' := by
  go_enter Tryd.func23, Tryd.ntmps23
  go_wp2
  refine wp_loop_rounds 1 ?_
  rw [rounds_succ]
  go_wp2
  go_ret
  exact ⟨rfl, Below.refl _ _⟩
theorem markInt64S_zero (a : Option Addr) (c : Nat) (k : Int) (w : World) : Calls Tryd.prog 28 #[.slice a 0 c, .int .i64 k] w fun e w' => e = .returned (.int .i64 k) ∧ Below w.heap.size w w' := by
  go_enter Tryd.func28, Tryd.ntmps28
  go_wp2
  refine wp_loop_rounds 1 ?_
  rw [rounds_succ]
  go_wp2
  go_ret
  exact ⟨rfl, Below.refl _ _⟩
theorem heldInt64S_zero (a : Option Addr) (c : Nat) (k : Int) (w : World) : Calls Tryd.prog 33 #[.slice a 0 c, .int .i64 k] w fun e w' => e = .returned (.int .i64 k) ∧ Below w.heap.size w w' := by
  go_enter Tryd.func33, Tryd.ntmps33
  go_wp2
  refine wp_loop_rounds 1 ?_
  rw [rounds_succ]
  go_wp2
  go_ret
  exact ⟨rfl, Below.refl _ _⟩

set_option maxRecDepth 100000 in
set_option maxHeartbeats 1000000 in
/-- eqInt64S of two lists that hold the same. -/
theorem eqInt64S_list (b b' n c c' N N' : Nat) (F F' : Nat → Value) (ys : Nat → Int) (hF : ∀ j, j < n → F j = vInt64S ys j) (hF' : ∀ j, j < n → F' j = vInt64S ys j) (hN : n ≤ N) (hN' : n ≤ N') (hn : n ≤ 1048576) (w : World) (hA : At w b N F) (hA' : At w b' N' F') (hne : b ≠ b') :
    Calls Tryd.prog 23 #[.slice (some ⟨b, 0, none⟩) n c, .slice (some ⟨b', 0, none⟩) n c'] w fun e w' => e = .returned (.bool true) ∧ Below w.heap.size w w' := by
  have hM : Mem w [(b, N, F), (b', N', F')] w := ((Mem.nil w).old hA (fun i p h => by simp at h)).old hA' (fun i p h => by
    match i, h with
    | 0, h => simp at h; rw [← h]; exact hne
    | _ + 1, h => simp at h)
  have Hf := Lib.hid hF
  have Hf' := Lib.hid hF'
  clear hA hA' hF hF'
  go_enter Tryd.func23, Tryd.ntmps23
  go_wp2
  go_loopw [5] (fun i wr => ∃ k : Nat, k ≤ n ∧ i = .int .i64 k ∧ Mem w [(b, N, F), (b', N', F')] wr) (fun i _ => n - (intOf i).toNat)
  case atStart => exact ⟨0, by omega, rfl, hM⟩
  case round =>
    clear hM
    obtain ⟨k, hk, rfl, hM⟩ := hrel
    by_cases hlt : k < n
    · have l2 : (k : Int) < n := by omega
      have c1 : F k = .int .i64 (ys k) := Hf.out k hlt
      have c2 : F' k = .int .i64 (ys k) := Hf'.out k hlt
      have hb : (ys k != ys k) = false := by simp
      go_wp2
      ((try simp only [Act.put, List.setIfInBounds_toArray, List.set_cons_succ, List.set_cons_zero]); refine wp_region_mem (by kernel_rfl) (by kernel_rfl) hM ?_; clear hM; (repeat (first | go_big_quiet_skip | (go_big_quiet_want; first | (refine quiet_get1 _ _ rfl _ _ rfl 1 rfl cellInt64S (by omega) _ c2 ?_; (simp only [Act.put, List.setIfInBounds_toArray, List.set_cons_succ, List.set_cons_zero]); go_big_quiet_on) | (refine quiet_get1 _ _ rfl _ _ rfl 0 rfl cellInt64S (by omega) _ c1 ?_; (simp only [Act.put, List.setIfInBounds_toArray, List.set_cons_succ, List.set_cons_zero]); go_big_quiet_on) | (refine quiet_val ?_; apply Exists.intro; refine ⟨fun W => ?_, ?_⟩; (go_simp; (try simp only [l2, hb, if_true, Bool.false_eq_true, if_false]); rfl); (simp only [Act.put, List.setIfInBounds_toArray, List.set_cons_succ, List.set_cons_zero]); go_big_quiet_on)))); (with_reducible refine wpQuiet_nil ?_); intro W' hM)
      go_wp2
      go_roundw
      case rel => exact ⟨k + 1, by omega, by go_num, hM⟩
      case measure => simp [intOf]; omega
    · obtain rfl : k = n := by omega
      go_wp2
      go_ret
      exact ⟨rfl, hM.below⟩

/-- The mark j, as a cell. -/
def mkInt64 (j : Nat) : Value := .int .i64 (j : Int)
set_option maxRecDepth 100000 in
set_option maxHeartbeats 1000000 in
/-- markInt64S writes its marks into the list. -/
theorem markInt64S_list (b0 : Base) (K : Blocks) (b n c N k0 : Nat) (F : Nat → Value) (hN : n ≤ N) (hn : n ≤ 1048576) (hk0 : k0 ≤ 100000000) (hb : b0.B ≤ b) (w : World) (hM0 : Mem b0 ((b, N, F) :: K) w) :
    Calls Tryd.prog 28 #[.slice (some ⟨b, 0, none⟩) n c, .int .i64 k0] w fun e w' => e = .returned (.int .i64 ((k0 + n : Nat) : Int)) ∧ ∃ G, (∀ j, j < n → G j = mkInt64 (k0 + j)) ∧ Mem b0 ((b, N, G) :: K) w' := by
  have hM := hM0
  clear hM0
  go_enter Tryd.func28, Tryd.ntmps28
  go_wp2
  go_loopw [1, 5] (fun t i wr => ∃ k : Nat, k ≤ n ∧ t = .int .i64 ((k0 + k : Nat) : Int) ∧ i = .int .i64 k ∧ ∃ G, Hid (∀ j, j < k → G j = mkInt64 (k0 + j)) ∧ Mem b0 ((b, N, G) :: K) wr) (fun _ i _ => n - (intOf i).toNat)
  case atStart => exact ⟨0, by omega, by simp, rfl, F, Lib.hid (fun j hj => absurd hj (by omega)), hM⟩
  case round =>
    clear hM
    obtain ⟨k, hk, rfl, rfl, G, hG, hM⟩ := hrel
    by_cases hlt : k < n
    · have l2 : (k : Int) < n := by omega
      obtain ⟨mm, hm⟩ : ∃ m : Nat, m = k0 + k := ⟨_, rfl⟩
      rw [← hm]
      have n1 : IntKind.i64.wrap ((mm : Int) + 1) = (mm : Int) + 1 := IntWalk.i64_in _ (by omega)
      have n2 : IntKind.i64.wrap (mm : Int) = (mm : Int) := IntWalk.i64_in _ (by omega)
      have hl : (mm : Int) + 1 = ((k0 + (k + 1) : Nat) : Int) := by omega
      have Hl := Lib.hid hl
      have Hm := Lib.hid hm
      clear hm hl
      go_wp2_with (first | (refine wpList_set1 rfl _ _ _ rfl _ _ rfl _ rfl ?_ hM 0 rfl (by assumption) (cellTab _ rfl) (by omega) ?_; (first | rfl | exact h1 _); intro W' hM'; clear hM; have hM := hM'; clear hM'; simp [List.set, Act.eval] at hM))
      go_roundw
      case rel => exact ⟨k + 1, by omega, by first | exact congrArg (Value.int .i64) Hl.out | rfl, by go_num, _, Lib.hid (fun j hj => by
        simp only [upd]
        by_cases e0 : j = k
        · rw [if_pos e0, e0, ← Hm.out]; rfl
        · rw [if_neg e0]; exact hG.out j (by omega)), hM⟩
      case measure => simp [intOf]; omega
    · obtain rfl : k = n := by omega
      go_wp2
      go_ret
      exact ⟨rfl, G, hG.out, hM⟩

set_option maxRecDepth 100000 in
set_option maxHeartbeats 1000000 in
/-- heldInt64S finds the marks. -/
theorem heldInt64S_list (b n c N k0 : Nat) (G : Nat → Value) (hN : n ≤ N) (hn : n ≤ 1048576) (hk0 : k0 ≤ 100000000) (hG : ∀ j, j < n → G j = mkInt64 (k0 + j)) (w : World) (hA : At w b N G) :
    Calls Tryd.prog 33 #[.slice (some ⟨b, 0, none⟩) n c, .int .i64 k0] w fun e w' => e = .returned (.int .i64 ((k0 + n : Nat) : Int)) ∧ Below w.heap.size w w' := by
  have hM : Mem w [(b, N, G)] w := (Mem.nil w).old hA (fun i p h => by simp at h)
  have Hg := Lib.hid hG
  clear hA hG
  go_enter Tryd.func33, Tryd.ntmps33
  go_wp2
  go_loopw [1, 5] (fun t i wr => ∃ k : Nat, k ≤ n ∧ t = .int .i64 ((k0 + k : Nat) : Int) ∧ i = .int .i64 k ∧ Mem w [(b, N, G)] wr) (fun _ i _ => n - (intOf i).toNat)
  case atStart => exact ⟨0, by omega, by simp, rfl, hM⟩
  case round =>
    clear hM
    obtain ⟨k, hk, rfl, rfl, hM⟩ := hrel
    by_cases hlt : k < n
    · have l2 : (k : Int) < n := by omega
      obtain ⟨mm, hm⟩ : ∃ m : Nat, m = k0 + k := ⟨_, rfl⟩
      have g0 : G k = .int .i64 (mm : Int) := by rw [Hg.out k hlt, hm]; rfl
      rw [← hm]
      have n1 : IntKind.i64.wrap ((mm : Int) + 1) = (mm : Int) + 1 := IntWalk.i64_in _ (by omega)
      have n2 : IntKind.i64.wrap (mm : Int) = (mm : Int) := IntWalk.i64_in _ (by omega)
      have hl : (mm : Int) + 1 = ((k0 + (k + 1) : Nat) : Int) := by omega
      have Hl := Lib.hid hl
      clear hm hl
      go_wp2_with (first | (refine wpList_get1 rfl _ _ rfl _ _ rfl hM 0 rfl (cellTab _ rfl) (by omega) _ g0 ?_))
      go_roundw
      case rel => exact ⟨k + 1, by omega, by first | exact congrArg (Value.int .i64) Hl.out | rfl, by go_num, hM⟩
      case measure => simp [intOf]; omega
    · obtain rfl : k = n := by omega
      go_wp2
      go_ret
      exact ⟨rfl, hM.below⟩
end Go.Proofs.YtbbododeglkghaaDoor
