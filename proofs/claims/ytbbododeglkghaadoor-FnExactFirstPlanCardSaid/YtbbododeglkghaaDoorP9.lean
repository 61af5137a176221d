/-
  Several texts in one: MeadowL, FirstPlan.
-/
import Derived.Test.YtbbododeglkghaaDoorP2
import Derived.Test.YtbbododeglkghaaDoorP3
import Derived.Test.YtbbododeglkghaaDoorP8
/-
  laws.eqMeadowS, laws.markMeadowS, laws.heldMeadowS over lists that hold room behind their end.
-/
namespace Go.Proofs.YtbbododeglkghaaDoor
open Go Go.RowKit Go.BigFrame Go.ChangeShapes Go.WideShapes Go.Deep

theorem eqMeadowS_zero (a a' : Option Addr) (c c' : Nat) (w : World) : Calls Tryd.prog 17 #[.slice a 0 c, .slice a' 0 c'] w fun e w' => e = .returned (.bool true) ∧ Below w.heap.size w w' := by
  go_enter Tryd.func17, Tryd.ntmps17
  go_wp2
  refine wp_loop_rounds 1 ?_
  rw [rounds_succ]
  go_wp2
  go_ret
  exact ⟨rfl, Below.refl _ _⟩
theorem markMeadowS_zero (a : Option Addr) (c : Nat) (k : Int) (w : World) : Calls Tryd.prog 18 #[.slice a 0 c, .int .i64 k] w fun e w' => e = .returned (.int .i64 k) ∧ Below w.heap.size w w' := by
  go_enter Tryd.func18, Tryd.ntmps18
  go_wp2
  refine wp_loop_rounds 1 ?_
  rw [rounds_succ]
  go_wp2
  go_ret
  exact ⟨rfl, Below.refl _ _⟩
theorem heldMeadowS_zero (a : Option Addr) (c : Nat) (k : Int) (w : World) : Calls Tryd.prog 19 #[.slice a 0 c, .int .i64 k] w fun e w' => e = .returned (.int .i64 k) ∧ Below w.heap.size w w' := by
  go_enter Tryd.func19, Tryd.ntmps19
  go_wp2
  refine wp_loop_rounds 1 ?_
  rw [rounds_succ]
  go_wp2
  go_ret
  exact ⟨rfl, Below.refl _ _⟩

set_option maxRecDepth 100000 in
set_option maxHeartbeats 1000000 in
/-- eqMeadowS of two lists that hold the same. -/
theorem eqMeadowS_list (b b' n c c' N N' : Nat) (F F' : Nat → Value) (hs : Nat → Nat → Int) (hF : ∀ j, j < n * 3 → F j = sMeadow hs j) (hF' : ∀ j, j < n * 3 → F' j = sMeadow hs j) (hN : n * 3 ≤ N) (hN' : n * 3 ≤ N') (hn : n ≤ 1048576) (w : World) (hA : At w b N F) (hA' : At w b' N' F') (hne : b ≠ b') :
    Calls Tryd.prog 17 #[.slice (some ⟨b, 0, none⟩) n c, .slice (some ⟨b', 0, none⟩) n c'] w fun e w' => e = .returned (.bool true) ∧ Below w.heap.size w w' := by
  have hM : Mem w [(b, N, F), (b', N', F')] w := ((Mem.nil w).old hA (fun i p h => by simp at h)).old hA' (fun i p h => by
    match i, h with
    | 0, h => simp at h; rw [← h]; exact hne
    | _ + 1, h => simp at h)
  have Hf := Lib.hid hF
  have Hf' := Lib.hid hF'
  clear hA hA' hF hF'
  go_enter Tryd.func17, Tryd.ntmps17
  go_wp2
  go_loopw [5] (fun i wr => ∃ k : Nat, k ≤ n ∧ i = .int .i64 k ∧ Mem w [(b, N, F), (b', N', F')] wr) (fun i _ => n - (intOf i).toNat)
  case atStart => exact ⟨0, by omega, rfl, hM⟩
  case round =>
    clear hM
    obtain ⟨k, hk, rfl, hM⟩ := hrel
    by_cases hlt : k < n
    · have l2 : (k : Int) < n := by omega
      have er : arr 3 (fun j => F (k * 3 + j)) = arr 3 (vMeadow (hs k)) := arr_congr fun j hj => by rw [Hf.out _ (by omega)]; exact sMeadow_row hs k j hj
      have er' : arr 3 (fun j => F' (k * 3 + j)) = arr 3 (vMeadow (hs k)) := arr_congr fun j hj => by rw [Hf'.out _ (by omega)]; exact sMeadow_row hs k j hj
      go_wp2
      ((try simp only [Act.put, List.setIfInBounds_toArray, List.set_cons_succ, List.set_cons_zero]); refine wp_region_mem (by kernel_rfl) (by kernel_rfl) hM ?_; clear hM; (repeat (first | go_big_quiet_skip | (go_big_quiet_want; first | (refine quiet_get _ _ rfl _ _ rfl 1 rfl rowMeadow (by omega) ?_; (simp only [er, er']); (simp only [Act.put, List.setIfInBounds_toArray, List.set_cons_succ, List.set_cons_zero]); go_big_quiet_on) | (refine quiet_get _ _ rfl _ _ rfl 0 rfl rowMeadow (by omega) ?_; (simp only [er, er']); (simp only [Act.put, List.setIfInBounds_toArray, List.set_cons_succ, List.set_cons_zero]); go_big_quiet_on) | (refine quiet_call ?_; apply Exists.intro; apply Exists.intro; apply Exists.intro; refine ⟨fun W => ?_, fun W hM => ?_, ?_⟩; (go_simp; exact ⟨rfl, rfl⟩); (exact eqMeadow_same (hs k) W); (simp only [Act.put, List.setIfInBounds_toArray, List.set_cons_succ, List.set_cons_zero]); go_big_quiet_on) | (refine quiet_val ?_; apply Exists.intro; refine ⟨fun W => ?_, ?_⟩; (go_simp; (try simp only [l2, if_true, Bool.false_eq_true, if_false]); rfl); (simp only [Act.put, List.setIfInBounds_toArray, List.set_cons_succ, List.set_cons_zero]); go_big_quiet_on)))); (with_reducible refine wpQuiet_nil ?_); intro W' hM)
      go_wp2
      go_roundw
      case rel => exact ⟨k + 1, by omega, by go_num, hM⟩
      case measure => simp [intOf]; omega
    · obtain rfl : k = n := by omega
      go_wp2
      go_ret
      exact ⟨rfl, hM.below⟩

/-- The kind of a mark; the mark j, as a cell. -/
def mkindMeadow (i : Nat) : IntKind := .i16
def mkMeadow (i j : Nat) : Value := .int (mkindMeadow i) ((mkindMeadow i).wrap (j : Int))
theorem mkMeadow_eq {i j : Nat} {κ : IntKind} {x : Int} (hκ : mkindMeadow i = κ := by rfl) (hx : x = (j : Int)) : mkMeadow i j = .int κ (κ.wrap x) := by
  unfold mkMeadow; rw [hκ, hx]
theorem mkindMeadow_0 (k : Nat) : mkindMeadow (k * 3) = .i16 := by rfl
theorem mkindMeadow_1 (k : Nat) : mkindMeadow (k * 3 + 1) = .i16 := by rfl
theorem mkindMeadow_2 (k : Nat) : mkindMeadow (k * 3 + 2) = .i16 := by rfl

set_option maxRecDepth 100000 in
set_option maxHeartbeats 1000000 in
/-- markMeadowS writes its marks into the list. -/
theorem markMeadowS_list (b0 : Base) (K : Blocks) (b n c N k0 : Nat) (F : Nat → Value) (hN : n * 3 ≤ N) (hn : n ≤ 1048576) (hk0 : k0 ≤ 100000000) (hb : b0.B ≤ b) (w : World) (hM0 : Mem b0 ((b, N, F) :: K) w) :
    Calls Tryd.prog 18 #[.slice (some ⟨b, 0, none⟩) n c, .int .i64 k0] w fun e w' => e = .returned (.int .i64 ((k0 + n * 3 : Nat) : Int)) ∧ ∃ G, (∀ j, j < n * 3 → G j = mkMeadow j (k0 + j)) ∧ Mem b0 ((b, N, G) :: K) w' := by
  have hM := hM0
  clear hM0
  go_enter Tryd.func18, Tryd.ntmps18
  go_wp2
  go_loopw [1, 5] (fun t i wr => ∃ k : Nat, k ≤ n ∧ t = .int .i64 ((k0 + k * 3 : Nat) : Int) ∧ i = .int .i64 k ∧ ∃ G, Hid (∀ j, j < k * 3 → G j = mkMeadow j (k0 + j)) ∧ Mem b0 ((b, N, G) :: K) wr) (fun _ i _ => n - (intOf i).toNat)
  case atStart => exact ⟨0, by omega, by simp, rfl, F, Lib.hid (fun j hj => absurd hj (by omega)), hM⟩
  case round =>
    clear hM
    obtain ⟨k, hk, rfl, rfl, G, hG, hM⟩ := hrel
    by_cases hlt : k < n
    · have l2 : (k : Int) < n := by omega
      obtain ⟨mm, hm⟩ : ∃ m : Nat, m = k0 + k * 3 := ⟨_, rfl⟩
      rw [← hm]
      have n1 : IntKind.i64.wrap ((mm : Int) + 1) = (mm : Int) + 1 := IntWalk.i64_in _ (by omega)
      have n2 : IntKind.i64.wrap ((mm : Int) + 1 + 1) = (mm : Int) + 1 + 1 := IntWalk.i64_in _ (by omega)
      have n3 : IntKind.i64.wrap ((mm : Int) + 1 + 1 + 1) = (mm : Int) + 1 + 1 + 1 := IntWalk.i64_in _ (by omega)
      have hl : (mm : Int) + 1 + 1 + 1 = ((k0 + (k + 1) * 3 : Nat) : Int) := by omega
      have Hl := Lib.hid hl
      have Hm := Lib.hid hm
      clear hm hl
      have tk_s0 : True := trivial; have tk_s1 : True := trivial; have tk_s2 : True := trivial
      go_wp2_with (first | (have _t := tk_s0; (refine wpList_set1 rfl _ _ _ rfl _ _ rfl _ rfl ?_ hM 0 rfl (by assumption) (cellTab _ rfl) (by omega) ?_; (first | rfl | exact h1 _); intro W' hM'; clear hM; have hM := hM'; clear hM'; simp [List.set, Act.eval] at hM); clear tk_s0) | (have _t := tk_s1; (refine wpList_set1 rfl _ _ _ rfl _ _ rfl _ rfl ?_ hM 0 rfl (by assumption) (cellTab _ rfl) (by omega) ?_; (first | rfl | exact h1 _); intro W' hM'; clear hM; have hM := hM'; clear hM'; simp [List.set, Act.eval] at hM); clear tk_s1) | (have _t := tk_s2; (refine wpList_set1 rfl _ _ _ rfl _ _ rfl _ rfl ?_ hM 0 rfl (by assumption) (cellTab _ rfl) (by omega) ?_; (first | rfl | exact h1 _); intro W' hM'; clear hM; have hM := hM'; clear hM'; simp [List.set, Act.eval] at hM); clear tk_s2))
      go_roundw
      case rel => exact ⟨k + 1, by omega, by first | exact congrArg (Value.int .i64) Hl.out | rfl, by go_num, _, Lib.hid (fun j hj => by
        simp only [upd]
        by_cases e2 : j = k * 3 + 2
        · rw [if_pos e2, e2]; exact (mkMeadow_eq (mkindMeadow_2 k) (by have := Hm.out; omega)).symm
        · skip
          by_cases e1 : j = k * 3 + 1
          · rw [if_neg e2, if_pos e1, e1]; exact (mkMeadow_eq (mkindMeadow_1 k) (by have := Hm.out; omega)).symm
          · skip
            by_cases e0 : j = k * 3
            · rw [if_neg e2, if_neg e1, if_pos e0, e0]; exact (mkMeadow_eq (mkindMeadow_0 k) (by have := Hm.out; omega)).symm
            · skip
              rw [if_neg e2, if_neg e1, if_neg e0]; exact hG.out j (by omega)
      ), hM⟩
      case measure => simp [intOf]; omega
    · obtain rfl : k = n := by omega
      go_wp2
      go_ret
      exact ⟨rfl, G, hG.out, hM⟩

set_option maxRecDepth 100000 in
set_option maxHeartbeats 1000000 in
/-- heldMeadowS finds the marks. -/
theorem heldMeadowS_list (b n c N k0 : Nat) (G : Nat → Value) (hN : n * 3 ≤ N) (hn : n ≤ 1048576) (hk0 : k0 ≤ 100000000) (hG : ∀ j, j < n * 3 → G j = mkMeadow j (k0 + j)) (w : World) (hA : At w b N G) :
    Calls Tryd.prog 19 #[.slice (some ⟨b, 0, none⟩) n c, .int .i64 k0] w fun e w' => e = .returned (.int .i64 ((k0 + n * 3 : Nat) : Int)) ∧ Below w.heap.size w w' := by
  have hM : Mem w [(b, N, G)] w := (Mem.nil w).old hA (fun i p h => by simp at h)
  have Hg := Lib.hid hG
  clear hA hG
  go_enter Tryd.func19, Tryd.ntmps19
  go_wp2
  go_loopw [1, 5] (fun t i wr => ∃ k : Nat, k ≤ n ∧ t = .int .i64 ((k0 + k * 3 : Nat) : Int) ∧ i = .int .i64 k ∧ Mem w [(b, N, G)] wr) (fun _ i _ => n - (intOf i).toNat)
  case atStart => exact ⟨0, by omega, by simp, rfl, hM⟩
  case round =>
    clear hM
    obtain ⟨k, hk, rfl, rfl, hM⟩ := hrel
    by_cases hlt : k < n
    · have l2 : (k : Int) < n := by omega
      obtain ⟨mm, hm⟩ : ∃ m : Nat, m = k0 + k * 3 := ⟨_, rfl⟩
      have g0 : G (k * 3) = .int .i16 (IntKind.i16.wrap ((mm : Int))) := by rw [Hg.out _ (by omega)]; exact mkMeadow_eq (mkindMeadow_0 k) (by omega)
      have g1 : G (k * 3 + 1) = .int .i16 (IntKind.i16.wrap ((mm : Int) + 1)) := by rw [Hg.out _ (by omega)]; exact mkMeadow_eq (mkindMeadow_1 k) (by omega)
      have g2 : G (k * 3 + 2) = .int .i16 (IntKind.i16.wrap ((mm : Int) + 1 + 1)) := by rw [Hg.out _ (by omega)]; exact mkMeadow_eq (mkindMeadow_2 k) (by omega)
      rw [← hm]
      have n1 : IntKind.i64.wrap ((mm : Int) + 1) = (mm : Int) + 1 := IntWalk.i64_in _ (by omega)
      have n2 : IntKind.i64.wrap ((mm : Int) + 1 + 1) = (mm : Int) + 1 + 1 := IntWalk.i64_in _ (by omega)
      have n3 : IntKind.i64.wrap ((mm : Int) + 1 + 1 + 1) = (mm : Int) + 1 + 1 + 1 := IntWalk.i64_in _ (by omega)
      have hl : (mm : Int) + 1 + 1 + 1 = ((k0 + (k + 1) * 3 : Nat) : Int) := by omega
      have Hl := Lib.hid hl
      clear hm hl
      have tk_s0 : True := trivial; have tk_s1 : True := trivial; have tk_s2 : True := trivial
      go_wp2_with (first | (have _t := tk_s0; (refine wpList_get1 rfl _ _ rfl _ _ rfl hM 0 rfl (cellTab _ rfl) (by omega) _ g0 ?_); clear tk_s0) | (have _t := tk_s1; (refine wpList_get1 rfl _ _ rfl _ _ rfl hM 0 rfl (cellTab _ rfl) (by omega) _ g1 ?_); clear tk_s1) | (have _t := tk_s2; (refine wpList_get1 rfl _ _ rfl _ _ rfl hM 0 rfl (cellTab _ rfl) (by omega) _ g2 ?_); clear tk_s2))
      go_roundw
      case rel => exact ⟨k + 1, by omega, by first | exact congrArg (Value.int .i64) Hl.out | rfl, by go_num, hM⟩
      case measure => simp [intOf]; omega
    · obtain rfl : k = n := by omega
      go_wp2
      go_ret
      exact ⟨rfl, hM.below⟩
end Go.Proofs.YtbbododeglkghaaDoor

/-
  laws.FnExactFirstPlan returns true.
-/
namespace Go.Proofs.YtbbododeglkghaaDoor
open Go Go.RowKit Go.BigFrame

set_option maxRecDepth 100000 in
set_option maxHeartbeats 4000000 in
theorem lawFirstPlan_any {a : Nat → Addr} (v0 : Value) (n0 : Nat) (hs0 : Nat → Nat → Int) (hn0 : n0 ≤ maxLen) (hF0 : ∀ i, i < n0 → FitsMeadow (hs0 i))  (i1 : Int)  (i2 : Int)  (i3 : Int) (w : World) (hE : Errs a w) (hG0 : MeadowArg w v0 n0 hs0) :
    Calls Tryd.prog 11 #[v0, .int .i64 i1, .int .i64 i2, .int .i64 i3] w fun e w' => e = .returned (.bool true) ∧ Below w.heap.size w w' := by
  have hM := Mem.nil w
  have HE := Lib.hid hE
  have HG0 := Lib.hid hG0
  have Hn0 := Lib.hid hn0
  have HF0 := Lib.hid hF0
  clear hE hG0 hn0 hF0
  by_cases hO0 : 1048576 < n0
  · go_enter Tryd.func11, Tryd.ntmps11
    go_wp2_with (first | (go_at_call 13; (with_reducible refine (szMeadowS_no v0 n0 hs0 1048576 Hn0.out (by omega) (by omega) (by omega) _ (HG0.out.below hM.below)).mono ?_); rintro e W' ⟨rfl, hb'⟩; have hM' := hM.call hb'; clear hM hb'; have hM := hM'; clear hM'))
    go_ret
    exact ⟨rfl, hM.below⟩
  have e0 : decide ((1048576 : Int) - n0 < 0) = false := decide_eq_false (by omega)
  have f0 : decide ((1048576 : Int) < n0) = false := decide_eq_false (by omega)
  have hb0 : n0 ≤ 1048576 := by omega
  have hS := fun (B0 : Nat) (W : World) (hB0 : At W B0 (n0 * 3) (sMeadow hs0))  => specFirstPlan_any B0 n0 n0 hs0 HF0.out hb0 i1 i2 i3 W hB0
  have hI := fun (B0 : Nat) (W : World) (hB0 : At W B0 (n0 * 3) (sMeadow hs0))  (hE : Errs a W) => implFirstPlan_any (a := a) B0 n0 n0 hs0 HF0.out hb0 i1 i2 i3 W hB0 hE
  have hLen : (fplL n0 hs0 i1 i2 i3).length ≤ 1048576 := fplL_len _ _ _ _ _
  generalize (fplL n0 hs0 i1 i2 i3).length = LN at hS hI hLen
  generalize numsF (fplL n0 hs0 i1 i2 i3) = HS0 at hS hI
  generalize fplT n0 hs0 i1 i2 i3 = XX at hS hI
  generalize fplC n0 hs0 i1 i2 i3 = CC at hS hI
  have HS := Lib.hid hS
  have HI := Lib.hid hI
  have HLn := Lib.hid hLen
  clear hS hI hLen
  rcases Nat.eq_zero_or_pos LN with hn | hn
  · have Hn := Lib.hid hn
    clear hn
    obtain ⟨KK0, hK0⟩ : ∃ q : Nat, q = 1 + n0 * 3 := ⟨_, rfl⟩
    have hKb0 : KK0 ≤ 50000000 := by omega
    have hKd0 : decide ((KK0 : Int) < 0) = false := decide_eq_false (by omega)
    have hKn0 : ¬ (KK0 : Int) < 0 := by omega
    have HK0 := Lib.hid hK0
    clear hK0
    have tk_q1 : True := trivial; have tk_t2 : True := trivial; have tk_q3 : True := trivial; have tk_t4 : True := trivial; have tk_t5 : True := trivial; have tk_q6 : True := trivial; have tk_t7 : True := trivial; have tk_t8 : True := trivial; have tk_t9 : True := trivial; have tk_t10 : True := trivial; have tk_q11 : True := trivial; have tk_t12 : True := trivial; have tk_t13 : True := trivial; have tk_t14 : True := trivial
    go_enter Tryd.func11, Tryd.ntmps11
    go_wp2_with (first | (go_at_call 13; (with_reducible refine (szMeadowS_yes v0 n0 hs0 1048576 (by omega) (by omega) _ (HG0.out.below hM.below)).mono ?_); rintro e W' ⟨rfl, hb'⟩; have hM' := hM.call hb'; clear hM hb'; have hM := hM'; clear hM') | (have _t := tk_q1; go_at_call 15; (with_reducible refine (toMeadowS_any v0 n0 hs0 hb0 _ (HG0.out.below hM.below)).mono ?_); rintro e W' ⟨q1, rfl, hq1, hA', hcb⟩; have h2q1 := Nat.le_trans hM.size hq1; have hM' := hM.fresh' hcb hA' hq1; simp only [List.cons_append, List.nil_append] at hM'; clear hM hcb hA' tk_q1; have hM := hM'; clear hM') | (have _t := tk_t2; go_at_call 38; refine (HS.out _ _ (hM.ats 0 _ _ _ rfl)).mono ?_; rintro e W' ⟨vr, rfl, hL0⟩; obtain ⟨aA, cA, rfl, hbl⟩ := hL0.zero Hn.out; have hM' := hM.call hbl; clear hM hbl hL0; have hM := hM'; clear hM'; clear tk_t2) | (have _t := tk_q3; go_at_call 15; (with_reducible refine (toMeadowS_any v0 n0 hs0 hb0 _ (HG0.out.below hM.below)).mono ?_); rintro e W' ⟨q3, rfl, hq3, hA', hcb⟩; have h2q3 := Nat.le_trans hM.size hq3; have hM' := hM.fresh' hcb hA' hq3; simp only [List.cons_append, List.nil_append] at hM'; clear hM hcb hA' tk_q3; have hM := hM'; clear hM') | (have _t := tk_t4; go_at_call 39; refine (HI.out _ _ (hM.ats 1 _ _ _ rfl) (HE.out.below hM.below)).mono ?_; rintro e W' ⟨vr, rfl, hL0⟩; obtain ⟨aB, cB, rfl, hbl⟩ := hL0.zero Hn.out; have hM' := hM.call hbl; clear hM hbl hL0; have hM := hM'; clear hM'; clear tk_t4) | (have _t := tk_t5; (go_at_call 23; (with_reducible refine (eqInt64S_zero aB aA cB cA _).mono ?_); rintro e W' ⟨rfl, hb'⟩; have hM' := hM.call hb'; clear hM hb'; have hM := hM'; clear hM'); clear tk_t5) | (have _t := tk_q6; go_at_call 15; (with_reducible refine (toMeadowS_any v0 n0 hs0 hb0 _ (HG0.out.below hM.below)).mono ?_); rintro e W' ⟨q6, rfl, hq6, hA', hcb⟩; have h2q6 := Nat.le_trans hM.size hq6; have hM' := hM.fresh' hcb hA' hq6; simp only [List.cons_append, List.nil_append] at hM'; clear hM hcb hA' tk_q6; have hM := hM'; clear hM') | (go_at_call 17; (with_reducible refine (eqMeadowS_same _ _ n0 n0 n0 hs0 Hn0.out _ (hM.ats 1 _ _ _ rfl) (hM.ats 2 _ _ _ rfl) (hM.apart 1 2 _ _ rfl rfl (by omega))).mono ?_); rintro e W' ⟨rfl, hb'⟩; have hM' := hM.call hb'; clear hM hb'; have hM := hM'; clear hM') | (have _t := tk_t7; go_at_call 18; have hMf := hM.toFront 1 rfl; simp only [List.eraseIdx_cons_succ, List.eraseIdx_cons_zero] at hMf; refine (markMeadowS_list _ _ q3 n0 n0 (n0 * 3) 1 _ (by omega) hb0 (by omega) h2q3 _ hMf).mono ?_; clear hMf; rintro e W' ⟨rfl, G0, -, hM'⟩; rw [← HK0.out]; clear hM; have hM := hM'; clear hM'; clear tk_t7) | (have _t := tk_t8; (go_at_call 23; (with_reducible refine (eqInt64S_zero aB aA cB cA _).mono ?_); rintro e W' ⟨rfl, hb'⟩; have hM' := hM.call hb'; clear hM hb'; have hM := hM'; clear hM'); clear tk_t8) | (have _t := tk_t9; (go_at_call 28; (with_reducible refine (markInt64S_zero _ _ _ _).mono ?_); rintro e W' ⟨rfl, hb'⟩; have hM' := hM.call hb'; clear hM hb'; have hM := hM'; clear hM'); clear tk_t9) | (have _t := tk_t10; (go_at_call 33; (with_reducible refine (heldInt64S_zero _ _ _ _).mono ?_); rintro e W' ⟨rfl, hb'⟩; have hM' := hM.call hb'; clear hM hb'; have hM := hM'; clear hM'); clear tk_t10) | (have _t := tk_q11; go_at_call 15; (with_reducible refine (toMeadowS_any v0 n0 hs0 hb0 _ (HG0.out.below hM.below)).mono ?_); rintro e W' ⟨q11, rfl, hq11, hA', hcb⟩; have h2q11 := Nat.le_trans hM.size hq11; have hM' := hM.fresh' hcb hA' hq11; simp only [List.cons_append, List.nil_append] at hM'; clear hM hcb hA' tk_q11; have hM := hM'; clear hM') | (have _t := tk_t12; go_at_call 39; refine (HI.out _ _ (hM.ats 3 _ _ _ rfl) (HE.out.below hM.below)).mono ?_; rintro e W' ⟨vr, rfl, hL0⟩; obtain ⟨aC, cC, rfl, hbl⟩ := hL0.zero Hn.out; have hM' := hM.call hbl; clear hM hbl hL0; have hM := hM'; clear hM'; clear tk_t12) | (have _t := tk_t13; (go_at_call 23; (with_reducible refine (eqInt64S_zero aC aA cC cA _).mono ?_); rintro e W' ⟨rfl, hb'⟩; have hM' := hM.call hb'; clear hM hb'; have hM := hM'; clear hM'); clear tk_t13) | (have _t := tk_t14; (go_at_call 33; (with_reducible refine (heldInt64S_zero _ _ _ _).mono ?_); rintro e W' ⟨rfl, hb'⟩; have hM' := hM.call hb'; clear hM hb'; have hM := hM'; clear hM'); clear tk_t14))
    go_ret
    exact ⟨rfl, hM.below⟩
  have Hn := Lib.hid hn
  clear hn
  obtain ⟨KK0, hK0⟩ : ∃ q : Nat, q = 1 + n0 * 3 := ⟨_, rfl⟩
  have hKb0 : KK0 ≤ 50000000 := by omega
  have hKd0 : decide ((KK0 : Int) < 0) = false := decide_eq_false (by omega)
  have hKn0 : ¬ (KK0 : Int) < 0 := by omega
  have HK0 := Lib.hid hK0
  clear hK0
  obtain ⟨MM, hMM⟩ : ∃ q : Nat, q = 1 + LN := ⟨_, rfl⟩
  have hMd : decide ((MM : Int) < 0) = false := decide_eq_false (by omega)
  have hMn : ¬ (MM : Int) < 0 := by omega
  have HMM := Lib.hid hMM
  clear hMM
  have tk_q1 : True := trivial; have tk_t2 : True := trivial; have tk_q3 : True := trivial; have tk_t4 : True := trivial; have tk_t5 : True := trivial; have tk_q6 : True := trivial; have tk_t7 : True := trivial; have tk_t8 : True := trivial; have tk_t9 : True := trivial; have tk_t10 : True := trivial; have tk_q11 : True := trivial; have tk_t12 : True := trivial; have tk_t13 : True := trivial; have tk_t14 : True := trivial
  go_enter Tryd.func11, Tryd.ntmps11
  go_wp2_with (first | (go_at_call 13; (with_reducible refine (szMeadowS_yes v0 n0 hs0 1048576 (by omega) (by omega) _ (HG0.out.below hM.below)).mono ?_); rintro e W' ⟨rfl, hb'⟩; have hM' := hM.call hb'; clear hM hb'; have hM := hM'; clear hM') | (have _t := tk_q1; go_at_call 15; (with_reducible refine (toMeadowS_any v0 n0 hs0 hb0 _ (HG0.out.below hM.below)).mono ?_); rintro e W' ⟨q1, rfl, hq1, hA', hcb⟩; have h2q1 := Nat.le_trans hM.size hq1; have hM' := hM.fresh' hcb hA' hq1; simp only [List.cons_append, List.nil_append] at hM'; clear hM hcb hA' tk_q1; have hM := hM'; clear hM') | (have _t := tk_t2; go_at_call 38; refine (HS.out _ _ (hM.ats 0 _ _ _ rfl)).mono ?_; rintro e W' ⟨vr, rfl, hL0⟩; obtain ⟨bA, cA, NA, FA, rfl, hbA, hNA, hFA, hAA, hbl⟩ := hL0.some Hn.out; simp only [Nat.mul_one] at hNA hFA; have hb2A := Nat.le_trans hM.size hbA; have hM' := hM.freshQ hbl hAA hbA; clear hM hAA hbl hL0; have hM := hM'; clear hM'; clear tk_t2) | (have _t := tk_q3; go_at_call 15; (with_reducible refine (toMeadowS_any v0 n0 hs0 hb0 _ (HG0.out.below hM.below)).mono ?_); rintro e W' ⟨q3, rfl, hq3, hA', hcb⟩; have h2q3 := Nat.le_trans hM.size hq3; have hM' := hM.fresh' hcb hA' hq3; simp only [List.cons_append, List.nil_append] at hM'; clear hM hcb hA' tk_q3; have hM := hM'; clear hM') | (have _t := tk_t4; go_at_call 39; refine (HI.out _ _ (hM.ats 2 _ _ _ rfl) (HE.out.below hM.below)).mono ?_; rintro e W' ⟨vr, rfl, hL0⟩; obtain ⟨bB, cB, NB, FB, rfl, hbB, hNB, hFB, hAA, hbl⟩ := hL0.some Hn.out; simp only [Nat.mul_one] at hNB hFB; have hb2B := Nat.le_trans hM.size hbB; have hM' := hM.freshQ hbl hAA hbB; clear hM hAA hbl hL0; have hM := hM'; clear hM'; clear tk_t4) | (have _t := tk_t5; (go_at_call 23; (with_reducible refine (eqInt64S_list bB bA LN cB cA NB NA FB FA HS0 hFB hFA hNB hNA HLn.out _ (hM.ats 0 _ _ _ rfl) (hM.ats 1 _ _ _ rfl) (hM.apart 0 1 _ _ rfl rfl (by omega))).mono ?_); rintro e W' ⟨rfl, hb'⟩; have hM' := hM.call hb'; clear hM hb'; have hM := hM'; clear hM'); clear tk_t5) | (have _t := tk_q6; go_at_call 15; (with_reducible refine (toMeadowS_any v0 n0 hs0 hb0 _ (HG0.out.below hM.below)).mono ?_); rintro e W' ⟨q6, rfl, hq6, hA', hcb⟩; have h2q6 := Nat.le_trans hM.size hq6; have hM' := hM.fresh' hcb hA' hq6; simp only [List.cons_append, List.nil_append] at hM'; clear hM hcb hA' tk_q6; have hM := hM'; clear hM') | (go_at_call 17; (with_reducible refine (eqMeadowS_same _ _ n0 n0 n0 hs0 Hn0.out _ (hM.ats 3 _ _ _ rfl) (hM.ats 4 _ _ _ rfl) (hM.apart 3 4 _ _ rfl rfl (by omega))).mono ?_); rintro e W' ⟨rfl, hb'⟩; have hM' := hM.call hb'; clear hM hb'; have hM := hM'; clear hM') | (have _t := tk_t7; go_at_call 18; have hMf := hM.toFront 3 rfl; simp only [List.eraseIdx_cons_succ, List.eraseIdx_cons_zero] at hMf; refine (markMeadowS_list _ _ q3 n0 n0 (n0 * 3) 1 _ (by omega) hb0 (by omega) h2q3 _ hMf).mono ?_; clear hMf; rintro e W' ⟨rfl, G0, -, hM'⟩; rw [← HK0.out]; clear hM; have hM := hM'; clear hM'; clear tk_t7) | (have _t := tk_t8; (go_at_call 23; (with_reducible refine (eqInt64S_list bB bA LN cB cA NB NA FB FA HS0 hFB hFA hNB hNA HLn.out _ (hM.ats 1 _ _ _ rfl) (hM.ats 2 _ _ _ rfl) (hM.apart 1 2 _ _ rfl rfl (by omega))).mono ?_); rintro e W' ⟨rfl, hb'⟩; have hM' := hM.call hb'; clear hM hb'; have hM := hM'; clear hM'); clear tk_t8) | (have _t := tk_t9; go_at_call 28; have hMf := hM.toFront 1 rfl; simp only [List.eraseIdx_cons_succ, List.eraseIdx_cons_zero] at hMf; refine (markInt64S_list _ _ bB LN cB NB 1 FB hNB HLn.out (by omega) hb2B _ hMf).mono ?_; clear hMf; rintro e W' ⟨rfl, GB, hGB, hM'⟩; rw [← HMM.out]; clear hM; have hM := hM'; clear hM'; clear tk_t9) | (have _t := tk_t10; go_at_call 33; refine (heldInt64S_list bB LN cB NB 1 GB hNB HLn.out (by omega) hGB _ (hM.ats 0 _ _ _ rfl)).mono ?_; rintro e W' ⟨rfl, hb'⟩; rw [← HMM.out]; have hM' := hM.call hb'; clear hM hb'; have hM := hM'; clear hM'; clear tk_t10) | (have _t := tk_q11; go_at_call 15; (with_reducible refine (toMeadowS_any v0 n0 hs0 hb0 _ (HG0.out.below hM.below)).mono ?_); rintro e W' ⟨q11, rfl, hq11, hA', hcb⟩; have h2q11 := Nat.le_trans hM.size hq11; have hM' := hM.fresh' hcb hA' hq11; simp only [List.cons_append, List.nil_append] at hM'; clear hM hcb hA' tk_q11; have hM := hM'; clear hM') | (have _t := tk_t12; go_at_call 39; refine (HI.out _ _ (hM.ats 5 _ _ _ rfl) (HE.out.below hM.below)).mono ?_; rintro e W' ⟨vr, rfl, hL0⟩; obtain ⟨bC, cC, NC, FC, rfl, hbC, hNC, hFC, hAA, hbl⟩ := hL0.some Hn.out; simp only [Nat.mul_one] at hNC hFC; have hb2C := Nat.le_trans hM.size hbC; have hM' := hM.freshQ hbl hAA hbC; clear hM hAA hbl hL0; have hM := hM'; clear hM'; clear tk_t12) | (have _t := tk_t13; (go_at_call 23; (with_reducible refine (eqInt64S_list bC bA LN cC cA NC NA FC FA HS0 hFC hFA hNC hNA HLn.out _ (hM.ats 0 _ _ _ rfl) (hM.ats 3 _ _ _ rfl) (hM.apart 0 3 _ _ rfl rfl (by omega))).mono ?_); rintro e W' ⟨rfl, hb'⟩; have hM' := hM.call hb'; clear hM hb'; have hM := hM'; clear hM'); clear tk_t13) | (have _t := tk_t14; go_at_call 33; refine (heldInt64S_list bB LN cB NB 1 GB hNB HLn.out (by omega) hGB _ (hM.ats 1 _ _ _ rfl)).mono ?_; rintro e W' ⟨rfl, hb'⟩; rw [← HMM.out]; have hM' := hM.call hb'; clear hM hb'; have hM := hM'; clear hM'; clear tk_t14))
  go_ret
  exact ⟨rfl, hM.below⟩
end Go.Proofs.YtbbododeglkghaaDoor

