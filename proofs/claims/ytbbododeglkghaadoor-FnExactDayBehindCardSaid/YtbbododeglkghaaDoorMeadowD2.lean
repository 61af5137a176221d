/-
  spec.l07Day by contract.
-/
import Derived.Test.YtbbododeglkghaaDoorMeadowD
namespace Go.Proofs.YtbbododeglkghaaDoor
open Go Go.RowKit Go.BigFrame

set_option maxRecDepth 100000 in
set_option maxHeartbeats 4000000 in
theorem l07Day_any (b n c N : Nat) (F : Nat → Value) (hs : Nat → Nat → Int) (hn1 : 1 ≤ n) (hn : n ≤ 6) (hN : n * 3 ≤ N) (hF : ∀ j, j < n * 3 → F j = sMeadow hs j) (hb : ∀ i, i < n → meadB (hs i) = true) (need : Int) (hd : 1 ≤ need ∧ need ≤ 1000) (m : Nat) (hm : m < n) (he : need ≤ hs m 0) (w : World) (hA : At w b N F) :
    Calls Tryd.prog 44 #[.slice (some ⟨b, 0, none⟩) n c, .int .i64 need, .int .i64 m] w (GivesM n (dayM hs need m) w) := by
  have hM : Mem w [(b, N, F)] w := (Mem.nil w).old hA (fun i p h => by simp at h)
  have Hf := Lib.hid hF
  have Hb := Lib.hid hb
  obtain ⟨h2, h0, h1⟩ := meadB_iff (hb m hm)
  have lm : (m : Int) < n := by omega
  have em : sMeadow hs (m * 3) = .int .i16 (hs m 0) := sMeadow_row hs m 0 (by omega)
  have c0 : IntKind.i16.wrap need = need := IntWalk.i16_in _ (by omega)
  have c1 : IntKind.i16.wrap (hs m 0 - need) = hs m 0 - need := IntWalk.i16_in _ (by omega)
  clear hA hF hb
  have tk_b1 : True := trivial
  go_enter Tryd.func44, Tryd.ntmps44
  go_wp2_with (first | (have _t := tk_b1; refine wpList_slice0 rfl _ _ rfl _ meadow_under meadow_info0 hM ?_; intro b1 W' hb1 hM'; clear hM tk_b1; have hM := hM'; clear hM') | (refine wpList_cat0 rfl _ _ _ rfl _ 3 _ _ meadow_under infoMeadow rfl (by omega) b1 rfl b n c rfl hn1 (by omega) hM 1 rfl hN ?_; intro bL cL FL W' hbL hcL hFL hM'; clear hM; have hM := hM'; clear hM'; have Hl : Hid (∀ j, j < n * 3 → FL j = sMeadow hs j) := Lib.hid (fun j hj => by rw [hFL j hj, Hf.out j hj]); have el : FL (m * 3) = .int .i16 (hs m 0) := by rw [Hl.out _ (by omega), em]) | (refine wpList_get1 rfl _ _ rfl _ _ rfl hM 0 rfl (cellTab _ rfl) (by omega) _ el ?_) | (refine wpList_set1 rfl _ _ _ rfl _ _ rfl _ rfl ?_ hM 0 rfl (by assumption) (cellTab _ rfl) (by omega) ?_; (first | rfl | exact h1 _); intro W' hM'; clear hM; have hM := hM'; clear hM'; simp [List.set, Act.eval] at hM))
  go_loopw [8] (fun i wr => ∃ k : Nat, k ≤ n ∧ i = .int .i64 k ∧ ∃ G, Hid (∀ j, j < n * 3 → G j = sMeadow (mixM hs need m k) j) ∧ Mem w [(bL, cL * 3, G), (b1, 0, fun _ => undef), (b, N, F)] wr) (fun i _ => n - (intOf i).toNat)
  case atStart => exact ⟨0, by omega, rfl, _, Lib.hid (cut_cells need Hl.out), hM⟩
  case round =>
    clear hM el Hl hFL
    obtain ⟨k, hk, rfl, G, hG, hM⟩ := hrel
    by_cases hlt : k < n
    · have l2 : (k : Int) < n := by omega
      obtain ⟨k2, k0, k1⟩ := meadB_iff (Hb.out k hlt)
      have hc := cutM_in Hb.out hd he hlt
      have hr0 := sMeadow_row (mixM hs need m k) k 0 (by omega)
      have hr1 := sMeadow_row (mixM hs need m k) k 1 (by omega)
      have hr2 := sMeadow_row (mixM hs need m k) k 2 (by omega)
      have e0 : G (k * 3) = .int .i16 (cutM hs need m k 0) := by
        rw [hG.out _ (by omega)]; refine hr0.trans ?_; simp [vMeadow, mixM, kMeadow]
      have e1 : G (k * 3 + 1) = .int .i16 (hs k 1) := by
        rw [hG.out _ (by omega)]; refine hr1.trans ?_; simp [vMeadow, mixM, kMeadow, cutM_1]
      have e2 : G (k * 3 + 2) = .int .i16 (hs k 2) := by
        rw [hG.out _ (by omega)]; refine hr2.trans ?_; simp [vMeadow, mixM, kMeadow, cutM_2]
      clear hr0 hr1 hr2
      obtain ⟨q, hq⟩ : ∃ q : Int, q = cutM hs need m k 0 := ⟨_, rfl⟩
      rw [← hq] at e0 hc
      have hv : minQ (hs k 2) (q + hs k 1) = dayM hs need m k 0 := by simp [dayM, hq]
      have hvb : 0 ≤ minQ (hs k 2) (q + hs k 1) ∧ minQ (hs k 2) (q + hs k 1) ≤ 1000 := by unfold minQ; split <;> omega
      have d0 : IntKind.i64.wrap q = q := IntWalk.i64_in _ (by omega)
      have d1 : IntKind.i64.wrap (hs k 1) = hs k 1 := IntWalk.i64_in _ (by omega)
      have d2 : IntKind.i64.wrap (hs k 2) = hs k 2 := IntWalk.i64_in _ (by omega)
      have d3 : IntKind.i64.wrap (q + hs k 1) = q + hs k 1 := IntWalk.i64_in _ (by omega)
      have d4 : IntKind.i16.wrap (minQ (hs k 2) (q + hs k 1)) = minQ (hs k 2) (q + hs k 1) := IntWalk.i16_in _ (by omega)
      have Hv := Lib.hid hv
      have Hmin := Lib.hid (fun W => l00MinQ_any (hs k 2) (q + hs k 1) W)
      clear hv hvb hq c0 c1 em
      generalize minQ (hs k 2) (q + hs k 1) = v at *
      have lc : (k : Int) < cL := by omega
      go_wp2
      have tk_r0 : True := trivial; have tk_r2 : True := trivial
      ((try simp only [Act.put, List.setIfInBounds_toArray, List.set_cons_succ, List.set_cons_zero]); refine region_head_mem (m := 25) (by kernel_rfl) (by kernel_rfl) hM ?_; clear hM; simp only [List.take_succ_cons, List.take_zero, List.drop_succ_cons, List.drop_zero]; (repeat (first | go_big_quiet_skip | (go_big_quiet_want; first | (have _t := tk_r2; (refine quiet_get1 _ _ rfl _ _ rfl 0 rfl (cellTab _ rfl) (by omega) _ (e2) ?_; (simp only [Act.put, List.setIfInBounds_toArray, List.set_cons_succ, List.set_cons_zero]); go_big_quiet_on); clear tk_r2) | (have _t := tk_r0; (refine quiet_get1 _ _ rfl _ _ rfl 0 rfl (cellTab _ rfl) (by omega) _ (e0) ?_; (simp only [Act.put, List.setIfInBounds_toArray, List.set_cons_succ, List.set_cons_zero]); go_big_quiet_on); clear tk_r0) | (refine quiet_get1 _ _ rfl _ _ rfl 0 rfl (cellTab _ rfl) (by omega) _ (e1) ?_; (simp only [Act.put, List.setIfInBounds_toArray, List.set_cons_succ, List.set_cons_zero]); go_big_quiet_on) | (refine quiet_call ?_; apply Exists.intro; apply Exists.intro; apply Exists.intro; refine ⟨fun W => ?_, fun W hM => ?_, ?_⟩; (go_simp; exact ⟨rfl, rfl⟩); (with_reducible exact Hmin.out W); (simp only [Act.put, List.setIfInBounds_toArray, List.set_cons_succ, List.set_cons_zero]); go_big_quiet_on) | (refine quiet_val ?_; apply Exists.intro; refine ⟨fun W => ?_, ?_⟩; (go_simp; (try simp only [l2, d0, d1, d2, d3, d4, if_true, Bool.false_eq_true, if_false]); rfl); (simp only [Act.put, List.setIfInBounds_toArray, List.set_cons_succ, List.set_cons_zero]); go_big_quiet_on)))); (with_reducible refine wpQuiet_nil ?_); intro W' hM)
      go_wp2_with (first | (refine wpList_set1 rfl _ _ _ rfl _ _ rfl _ rfl ?_ hM 0 rfl (by assumption) (cellTab _ rfl) (by omega) ?_; (first | rfl | exact h1 _); intro W' hM'; clear hM; have hM := hM'; clear hM'; simp [List.set, Act.eval] at hM))
      go_roundw
      case rel => exact ⟨k + 1, by omega, by go_num, _, Lib.hid (mix_cells hG.out Hv.out), hM⟩
      case measure => simp [intOf]; omega
    · obtain rfl : k = n := by omega
      go_wp2
      go_ret
      exact ⟨bL, cL, G, rfl, hbL, hcL, mix_all hG.out, hM.at0, hM.below⟩
end Go.Proofs.YtbbododeglkghaaDoor
