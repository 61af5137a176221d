/-
  spec.l07Made by contract.
-/
import Derived.Test.YtbbododeglkghaaDoorPlan
import Derived.Test.YtbbododeglkghaaDoorMeadowD2
namespace Go.Proofs.YtbbododeglkghaaDoor
open Go Go.RowKit Go.BigFrame

/-- The first day that cannot be made, -1 if there is none. -/
def dayNo (hs : Nat → Nat → Int) (need : Int) (ys : Nat → Int) (p : Nat) : Int := if upM hs need ys p = p then -1 else (upM hs need ys p : Nat)
/-- A number, and the meadows. -/
def GivesNM (r : Int) (n : Nat) (hs : Nat → Nat → Int) (w : World) (e : Ending) (w' : World) : Prop := ∃ b c F, e = .returned (.tuple #[.int .i64 r, .slice (some ⟨b, 0, none⟩) n c]) ∧ w.heap.size ≤ b ∧ n ≤ c ∧ (∀ j, j < n * 3 → F j = sMeadow hs j) ∧ At w' b (c * 3) F ∧ Below w.heap.size w w'
theorem givesNM_r {r r' : Int} {n : Nat} {hs hs' : Nat → Nat → Int} {w : World} {e : Ending} {w' : World} (h : GivesNM r n hs w e w') (hr : r = r') (hh : hs = hs') : GivesNM r' n hs' w e w' := by rw [← hr, ← hh]; exact h

set_option maxRecDepth 100000 in
set_option maxHeartbeats 4000000 in
theorem l07Made_any (b n c bp p cp : Nat) (hs : Nat → Nat → Int) (ys : Nat → Int) (hv : meadsB n hs = true) (need : Int) (hd : 1 ≤ need ∧ need ≤ 1000) (hpl : planB n p ys = true) (w : World) (hB : At w b (n * 3) (sMeadow hs)) (hP : At w bp p (vInt64S ys)) (hne : b ≠ bp) :
    Calls Tryd.prog 48 #[.slice (some ⟨b, 0, none⟩) n c, .int .i64 need, .slice (some ⟨bp, 0, none⟩) p cp] w (GivesNM (dayNo hs need ys p) n (stM hs need ys (upM hs need ys p)) w) := by
  have hM : Mem w [(b, n * 3, sMeadow hs), (bp, p, vInt64S ys)] w := ((Mem.nil w).old hB (fun i p h => by simp at h)).old hP (fun i p h => by
    match i, h with
    | 0, h => simp at h; rw [← h]; exact hne
    | _ + 1, h => simp at h)
  obtain ⟨hn, hb⟩ := meadsB_iff hv
  obtain ⟨hp, hpi⟩ := planB_iff hpl
  have Hb := Lib.hid hb
  have Hpi := Lib.hid hpi
  clear hB hP hb hpi
  have tk_b1 : True := trivial
  go_enter Tryd.func48, Tryd.ntmps48
  go_wp2_with (first | (have _t := tk_b1; refine wpList_slice0 rfl _ _ rfl _ meadow_under meadow_info0 hM ?_; intro b1 W' hb1 hM'; clear hM tk_b1; have hM := hM'; clear hM') | (refine wpList_cat0 rfl _ _ _ rfl _ 3 _ _ meadow_under infoMeadow rfl (by omega) b1 rfl b n c rfl hn.1 (by omega) hM 1 rfl (Nat.le_refl _) ?_; intro bL cL FL W' hbL hcL hFL hM'; clear hM; have hM := hM'; clear hM'))
  have hM1 := hM.skip
  clear hM
  have hM := hM1
  clear hM1
  go_loopw [8, 9] (fun v i wr => ∃ k : Nat, k ≤ p ∧ i = .int .i64 k ∧ ∃ bL cL FL, v = .slice (some ⟨bL, 0, none⟩) n cL ∧ w.heap.size ≤ bL ∧ n ≤ cL ∧ Hid (upM hs need ys k = k) ∧ Hid (∀ j, j < n * 3 → FL j = sMeadow (stM hs need ys k) j) ∧ Mem w [(bL, cL * 3, FL), (b, n * 3, sMeadow hs), (bp, p, vInt64S ys)] wr) (fun _ i _ => p - (intOf i).toNat)
  case atStart => exact ⟨0, by omega, rfl, bL, cL, FL, rfl, hbL, hcL, Lib.hid rfl, Lib.hid hFL, hM⟩
  case round =>
    clear hM hbL hcL hFL
    obtain ⟨k, hk, rfl, bL, cL, FL, rfl, hbL, hcL, hU, hFL, hM⟩ := hrel
    by_cases hlt : k < p
    · have l2 : (k : Int) < p := by omega
      have ek : vInt64S ys k = .int .i64 (ys k) := rfl
      have hy := Hpi.out k hlt
      obtain ⟨m, hm⟩ : ∃ m : Nat, m = (ys k).toNat := ⟨_, rfl⟩
      have hym : ys k = (m : Int) := by omega
      have hmn : m < n := by omega
      rw [hym] at ek
      have lm : (m : Int) < n := by omega
      have Hst := Lib.hid (stM_ok Hb.out hd Hpi.out k hk hU.out)
      have em : FL (m * 3) = .int .i16 (stM hs need ys k m 0) := by rw [hFL.out _ (by omega)]; exact sMeadow_row _ m 0 (by omega)
      have hmb := meadB_iff (Hst.out m hmn)
      have cm : IntKind.i64.wrap (stM hs need ys k m 0) = stM hs need ys k m 0 := IntWalk.i64_in _ (by omega)
      by_cases hc : need ≤ stM hs need ys k m 0
      · have d0 : decide (stM hs need ys k m 0 < need) = false := decide_eq_false (by omega)
        have hcan : canM hs need ys k := by unfold canM; rw [← hm]; exact hc
        have Hu := Lib.hid (upM_step hU.out hcan)
        have Hs : Hid (stM hs need ys (k + 1) = dayM (stM hs need ys k) need m) := Lib.hid (by rw [hm]; rfl)
        clear hy hm hym hcan hmb
        go_wp2_with (first | (refine wpList_get1 rfl _ _ rfl _ _ rfl hM 2 rfl (cellTab _ rfl) (by omega) _ ek ?_) | (refine wpList_get1 rfl _ _ rfl _ _ rfl hM 0 rfl (cellTab _ rfl) (by omega) _ em ?_) | (go_at_call 44; (with_reducible refine (l07Day_any bL n cL (cL * 3) FL (stM hs need ys k) hn.1 hn.2 (by omega) hFL.out Hst.out need hd m hmn hc _ (hM.ats 0 _ _ _ rfl)).mono ?_); rintro e W' ⟨bN, cN, FN, rfl, hbN, hcN, hFN, hAN, hbl⟩; have hbN2 := Nat.le_trans hM.size hbN; have hM' := hM.freshQ hbl hAN hbN; clear hM hbl hAN; have hM := hM'; clear hM'))
        go_roundw
        case rel => exact ⟨k + 1, by omega, by go_num, bN, cN, FN, rfl, hbN2, hcN, Hu, Lib.hid (fun j hj => by rw [hFN j hj, Hs.out]), hM.skip⟩
        case measure => simp [intOf]; omega
      · have d0 : decide (stM hs need ys k m 0 < need) = true := decide_eq_true (by omega)
        have hcan : ¬ canM hs need ys k := by unfold canM; rw [← hm]; exact hc
        have Hu := Lib.hid (upM_first hU.out hcan hk)
        clear hy hm hym hcan hmb
        go_wp2_with (first | (refine wpList_get1 rfl _ _ rfl _ _ rfl hM 2 rfl (cellTab _ rfl) (by omega) _ ek ?_) | (refine wpList_get1 rfl _ _ rfl _ _ rfl hM 0 rfl (cellTab _ rfl) (by omega) _ em ?_))
        go_ret2
        exact givesNM_r ⟨bL, cL, FL, rfl, hbL, hcL, hFL.out, hM.at0, hM.below⟩ (by unfold dayNo; rw [Hu.out, if_neg (by omega)]) (by rw [Hu.out])
    · obtain rfl : k = p := by omega
      go_wp2
      go_ret2
      exact givesNM_r ⟨bL, cL, FL, rfl, hbL, hcL, hFL.out, hM.at0, hM.below⟩ (by unfold dayNo; rw [hU.out, if_pos rfl]) (by rw [hU.out])
end Go.Proofs.YtbbododeglkghaaDoor
