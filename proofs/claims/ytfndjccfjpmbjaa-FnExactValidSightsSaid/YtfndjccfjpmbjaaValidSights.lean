/-
  impl.ValidSights, spec.ValidSights by contracts; laws.FnExactValidSights returns true.
-/
import Derived.Test.YtfndjccfjpmbjaaSightOk
import Derived.Test.YtfndjccfjpmbjaaCut
namespace Go.Proofs.Ytfndjccfjpmbjaa
open Go Go.RowKit Go.BigFrame

/-- The day of the sight before the k-th one, 0 at the first. -/
def lastD (hs : Nat → Nat → Int) (k : Nat) : Int := if k = 0 then 0 else hs (k - 1) 0
theorem lastD_succ (hs : Nat → Nat → Int) (k : Nat) : lastD hs (k + 1) = hs k 0 := by simp [lastD]
theorem dayB_last {hs : Nat → Nat → Int} {k : Nat} (hall : ∀ j, j < k → dayB hs j = true) (h1 : ¬ hs k 0 < lastD hs k) (h2 : ¬ 1000 < hs k 0) : dayB hs k = true := by
  unfold lastD at h1
  by_cases h0 : k = 0
  · subst h0; simp at h1; exact dayB_first (inB_yes ⟨by omega, by omega⟩)
  · rw [if_neg h0] at h1
    have := hall (k - 1) (by omega)
    unfold dayB at this
    rw [Bool.and_eq_true] at this
    have := inB_true this.1
    exact dayB_up (inB_yes ⟨by omega, by omega⟩) h1
theorem dayB_less {hs : Nat → Nat → Int} {k : Nat} (h1 : hs k 0 < lastD hs k) : dayB hs k = false := by
  unfold lastD at h1
  by_cases h0 : k = 0
  · subst h0; simp at h1; exact dayB_range (inB_no (by omega))
  · rw [if_neg h0] at h1; exact dayB_down h0 h1
theorem dayB_more {hs : Nat → Nat → Int} {k : Nat} (h1 : 1000 < hs k 0) : dayB hs k = false := dayB_range (inB_no (by omega))
theorem lay_sight (z : Nat → Value) (hs : Nat → Nat → Int) (k : Nat) : ∀ j, j < 3 → lay z 0 3 (fun i => sSight hs (k * 3 + i)) j = vSight (hs k) j := fun j hj => by
  simp only [lay, Nat.zero_add, Nat.sub_zero]
  rw [if_pos ⟨by omega, hj⟩]
  exact sSight_row hs k j hj

set_option maxRecDepth 100000 in
set_option maxHeartbeats 4000000 in
theorem implValidSights_any (g : Nat → Int) (hg : Fits g) (b n c : Nat) (hs : Nat → Nat → Int) (hF : ∀ i, i < n → FitsSight (hs i)) (hn : n ≤ 1048576) (w : World) (hB : At w b (n * 3) (sSight hs)) :
    Calls Try.prog 14 #[.agg (arr 122 (pas g)), .slice (some ⟨b, 0, none⟩) n c] w fun e w' => e = .returned (.bool (sightsB g n hs)) ∧ Below w.heap.size w w' := by
  have hM : Mem w [(b, n * 3, sSight hs)] w := (Mem.nil w).old hB (fun i p h => by simp at h)
  have hv : ∀ W, Calls Try.prog 23 #[.agg (arr 122 (pas g))] W fun e w' => e = .returned (.bool (okB g)) ∧ Below W.heap.size W w' := fun W => by
    rw [okB_eq]; exact implValid_any g hg W
  have Hv := Lib.hid hv
  have HF := Lib.hid hF
  clear hv hB hF
  have tk_b1 : True := trivial; have tk_q1 : True := trivial
  cases ho : okB g
  · have Hp := Lib.hid (sightsB_ok (n := n) (hs := hs) ho)
    have Ho := Lib.hid ho
    clear ho
    go_enter Try.func14, Try.ntmps14
    go_wp2_with (first | (go_at_call 23; (with_reducible refine (Hv.out _).mono ?_); rintro e W' ⟨rfl, hb'⟩; rw [Ho.out]; have hM' := hM.call hb'; clear hM hb'; have hM := hM'; clear hM') | (have _t := tk_b1; refine wpList_box rfl _ _ rfl _ _ rfl hM ?_; intro b1 W' hb1 hM'; clear hM tk_b1; have hM := hM'; clear hM') | (have _t := tk_q1; (refine wpList_get rfl _ _ rfl _ _ rfl hM 0 rfl (rowTab _ _ rfl) (by omega) ?_); clear tk_q1))
    go_ret
    exact ⟨ret_bool Hp.out.symm, hM.below⟩
  have Ho := Lib.hid ho
  clear ho
  by_cases h40 : 40 < n
  · have Hp : Hid (sightsB g n hs = false) := Lib.hid (sightsB_seen (by unfold seenB; rw [decide_eq_false (show ¬ n ≤ 40 by omega), Bool.and_false]))
    have hz : 40 < (n : Int) := by omega
    go_enter Try.func14, Try.ntmps14
    go_wp2_with (first | (go_at_call 23; (with_reducible refine (Hv.out _).mono ?_); rintro e W' ⟨rfl, hb'⟩; rw [Ho.out]; have hM' := hM.call hb'; clear hM hb'; have hM := hM'; clear hM') | (have _t := tk_b1; refine wpList_box rfl _ _ rfl _ _ rfl hM ?_; intro b1 W' hb1 hM'; clear hM tk_b1; have hM := hM'; clear hM') | (have _t := tk_q1; (refine wpList_get rfl _ _ rfl _ _ rfl hM 0 rfl (rowTab _ _ rfl) (by omega) ?_); clear tk_q1))
    go_ret
    exact ⟨ret_bool Hp.out.symm, hM.below⟩
  have hz : ¬ 40 < (n : Int) := by omega
  go_enter Try.func14, Try.ntmps14
  go_wp2_with (first | (go_at_call 23; (with_reducible refine (Hv.out _).mono ?_); rintro e W' ⟨rfl, hb'⟩; rw [Ho.out]; have hM' := hM.call hb'; clear hM hb'; have hM := hM'; clear hM') | (have _t := tk_b1; refine wpList_box rfl _ _ rfl _ _ rfl hM ?_; intro b1 W' hb1 hM'; clear hM tk_b1; have hM := hM'; clear hM') | (have _t := tk_q1; (refine wpList_get rfl _ _ rfl _ _ rfl hM 0 rfl (rowTab _ _ rfl) (by omega) ?_); clear tk_q1))
  go_loopw [5, 18] (fun l i wr => ∃ k : Nat, k ≤ n ∧ l = .int .i16 (lastD hs k) ∧ i = .int .i64 k ∧ Hid (∀ j, j < k → dayB hs j = true) ∧ Hid (∀ j, j < k → isB g (hs j 1) (hs j 2) = true) ∧ Mem w [(b1, 122, pas g), (b, n * 3, sSight hs)] wr) (fun _ i _ => n - (intOf i).toNat)
  case atStart => exact ⟨0, by omega, rfl, rfl, Lib.hid (fun j hj => absurd hj (by omega)), Lib.hid (fun j hj => absurd hj (by omega)), hM⟩
  case round =>
    clear hM
    obtain ⟨k, hk, rfl, rfl, hday, hcell, hM⟩ := hrel
    by_cases hlt : k < n
    · have l2 : (k : Int) < n := by omega
      generalize hL : lastD hs k = L
      have tk_b3 : True := trivial; have tk_r1 : True := trivial; have tk_r2 : True := trivial
      have e0 : vSight (hs k) 0 = .int .i16 (hs k 0) := rfl
      have e2 : arr 2 (fun j => vSight (hs k) (1 + j)) = arr 2 (sp (hs k 1) (hs k 2)) := spSight1 (hs k)
      by_cases h1 : hs k 0 < L
      · have Hx := Lib.hid (dayB_less (hs := hs) (k := k) (by rw [hL]; exact h1))
        have d1 : decide (hs k 0 < L) = true := decide_eq_true h1
        go_wp2_with (first | (have _t := tk_r1; (refine wpList_get rfl _ _ rfl _ _ rfl hM 1 rfl rowSight (by omega) ?_); clear tk_r1) | (have _t := tk_b3; refine wpList_zero rfl _ rfl zeroSight hM ?_; intro b3 W' hb3 hM'; clear hM tk_b3; have hM := hM'; clear hM') | (have _t := tk_r2; (refine wpList_lay rfl _ _ _ rfl _ _ rfl _ _ rfl hM 0 rfl (by assumption) rowSight (by omega) (fun _ _ => rfl) ?_; intro W' hM'; clear hM; have hM := hM'; clear hM'; simp only [List.set] at hM; have hM1 := hM.re 0 rfl (vSight (hs k)) (fun j hj => lay_sight _ hs k j hj); simp only [List.set_cons_zero] at hM1; clear hM; have hM := hM1; clear hM1); clear tk_r2) | (refine wpList_get1 rfl _ _ rfl _ _ rfl hM 0 rfl (cellTab _ rfl) (by omega) _ e0 ?_))
        go_ret
        exact ⟨ret_bool (sightsB_seen (seenB_no hlt Hx.out)).symm, hM.below⟩
      have d1 : decide (hs k 0 < L) = false := decide_eq_false h1
      by_cases h2 : 1000 < hs k 0
      · have Hx := Lib.hid (dayB_more (hs := hs) (k := k) h2)
        have d2 : decide (1000 < hs k 0) = true := decide_eq_true h2
        go_wp2_with (first | (have _t := tk_r1; (refine wpList_get rfl _ _ rfl _ _ rfl hM 1 rfl rowSight (by omega) ?_); clear tk_r1) | (have _t := tk_b3; refine wpList_zero rfl _ rfl zeroSight hM ?_; intro b3 W' hb3 hM'; clear hM tk_b3; have hM := hM'; clear hM') | (have _t := tk_r2; (refine wpList_lay rfl _ _ _ rfl _ _ rfl _ _ rfl hM 0 rfl (by assumption) rowSight (by omega) (fun _ _ => rfl) ?_; intro W' hM'; clear hM; have hM := hM'; clear hM'; simp only [List.set] at hM; have hM1 := hM.re 0 rfl (vSight (hs k)) (fun j hj => lay_sight _ hs k j hj); simp only [List.set_cons_zero] at hM1; clear hM; have hM := hM1; clear hM1); clear tk_r2) | (refine wpList_get1 rfl _ _ rfl _ _ rfl hM 0 rfl (cellTab _ rfl) (by omega) _ e0 ?_) | (refine wpList_gget1 ?_ _ _ rfl _ _ rfl hM 0 rfl (cellTab _ rfl) (by omega) _ e0 ?_; kernel_rfl))
        go_ret
        exact ⟨ret_bool (sightsB_seen (seenB_no hlt Hx.out)).symm, hM.below⟩
      have d2 : decide (1000 < hs k 0) = false := decide_eq_false h2
      have Hx := Lib.hid (dayB_last hday.out (by rw [hL]; exact h1) h2)
      cases he : isB g (hs k 1) (hs k 2)
      all_goals
        have He := Lib.hid he
        clear he
        go_wp2_with (first | (have _t := tk_r1; (refine wpList_get rfl _ _ rfl _ _ rfl hM 1 rfl rowSight (by omega) ?_); clear tk_r1) | (have _t := tk_b3; refine wpList_zero rfl _ rfl zeroSight hM ?_; intro b3 W' hb3 hM'; clear hM tk_b3; have hM := hM'; clear hM') | (have _t := tk_r2; (refine wpList_lay rfl _ _ _ rfl _ _ rfl _ _ rfl hM 0 rfl (by assumption) rowSight (by omega) (fun _ _ => rfl) ?_; intro W' hM'; clear hM; have hM := hM'; clear hM'; simp only [List.set] at hM; have hM1 := hM.re 0 rfl (vSight (hs k)) (fun j hj => lay_sight _ hs k j hj); simp only [List.set_cons_zero] at hM1; clear hM; have hM := hM1; clear hM1); clear tk_r2) | (refine wpList_get1 rfl _ _ rfl _ _ rfl hM 0 rfl (cellTab _ rfl) (by omega) _ e0 ?_) | (refine wpList_gget1 ?_ _ _ rfl _ _ rfl hM 0 rfl (cellTab _ rfl) (by omega) _ e0 ?_; kernel_rfl) | (refine wpList_gget ?_ _ _ rfl _ _ rfl hM 1 rfl (rowTab _ _ rfl) (by omega) ?_; kernel_rfl) | ((refine wpList_gget ?_ _ _ rfl _ _ rfl hM 0 rfl (rowTab _ 2 rfl) (by omega) ?_; kernel_rfl); rw [e2]) | (go_at_call 24; (with_reducible refine (hasCell_any g (hs k 1) (hs k 2) _).mono ?_); rintro e W' ⟨rfl, hb'⟩; rw [He.out]; have hM' := hM.call hb'; clear hM hb'; have hM := hM'; clear hM'))
      · go_ret
        exact ⟨ret_bool (sightsB_no hlt He.out).symm, hM.below⟩
      · go_roundw
        case rel => exact ⟨k + 1, by omega, by rw [lastD_succ], by go_num, Lib.hid (fun j hj => by
          by_cases e : j = k
          · rw [e]; exact Hx.out
          · exact hday.out j (by omega)), Lib.hid (fun j hj => by
          by_cases e : j = k
          · rw [e]; exact He.out
          · exact hcell.out j (by omega)), hM.drop⟩
        case measure => simp [intOf]; omega
    · obtain rfl : k = n := by omega
      go_wp2
      go_ret
      exact ⟨ret_bool (sightsB_yes Ho.out (by rw [seenB_all hday.out]; exact decide_eq_true (by omega)) hcell.out).symm, hM.below⟩

set_option maxRecDepth 100000 in
set_option maxHeartbeats 1000000 in
theorem specValidSights_any (g : Nat → Int) (hg : Fits g) (b n c : Nat) (hs : Nat → Nat → Int) (hF : ∀ i, i < n → FitsSight (hs i)) (hn : n ≤ 1048576) (w : World) (hB : At w b (n * 3) (sSight hs)) :
    Calls Try.prog 11 #[.agg (arr 122 (pas g)), .slice (some ⟨b, 0, none⟩) n c] w fun e w' => e = .returned (.bool (sightsB g n hs)) ∧ Below w.heap.size w w' := by
  have hM : Mem w [(b, n * 3, sSight hs)] w := (Mem.nil w).old hB (fun i p h => by simp at h)
  have HF := Lib.hid hF
  clear hF hB
  have tk_b1 : True := trivial
  go_enter Try.func11, Try.ntmps11
  go_wp2_with (first | (go_at_call 19; (with_reducible refine (l07Sights_any g hg b1 b n c hs HF.out hn _ (hM.ats 0 _ _ _ rfl) (hM.ats 1 _ _ _ rfl) (hM.apart 0 1 _ _ rfl rfl (by omega))).mono ?_); rintro e W' ⟨rfl, hb'⟩; have hM' := hM.call hb'; clear hM hb'; have hM := hM'; clear hM') | (have _t := tk_b1; refine wpList_box rfl _ _ rfl _ _ rfl hM ?_; intro b1 W' hb1 hM'; clear hM tk_b1; have hM := hM'; clear hM'))
  go_ret
  exact ⟨ret_bool (a := sightsB g n hs) rfl, hM.below⟩

set_option maxRecDepth 100000 in
set_option maxHeartbeats 2000000 in
theorem lawValidSights_any (g : Nat → Int) (hg : Fits g) (v : Value) (n : Nat) (hs : Nat → Nat → Int) (hn : n ≤ maxLen) (hF : ∀ i, i < n → FitsSight (hs i)) (w : World) (h : SightArg w v n hs) :
    Calls Try.prog 4 #[.agg (arr 122 (pas g)), v] w fun e w' => e = .returned (.bool true) ∧ Below w.heap.size w w' := by
  have hM := Mem.nil w
  have HG := Lib.hid h
  have Hn := Lib.hid hn
  have HF := Lib.hid hF
  clear h hn hF
  by_cases h1 : 1048576 < n
  · have tk_c1 : True := trivial
    go_enter Try.func4, Try.ntmps4
    go_wp2_with (first | (go_at_call 10; (with_reducible refine (szSightS_no v n hs 1048576 Hn.out (by omega) (by omega) (by omega) _ (HG.out.below hM.below)).mono ?_); rintro e W' ⟨rfl, hb'⟩; have hM' := hM.call hb'; clear hM hb'; have hM := hM'; clear hM') | (have _t := tk_c1; refine wpList_box rfl _ _ rfl _ _ rfl hM ?_; intro c1 W' hc1 hM'; clear hM tk_c1; have hM := hM'; clear hM'))
    go_ret
    exact ⟨rfl, hM.below⟩
  have d0 : decide ((1048576 : Int) - n < 0) = false := decide_eq_false (by omega)
  have d0' : decide ((1048576 : Int) < n) = false := decide_eq_false (by omega)
  have hn1 : n ≤ 1048576 := by omega
  cases hz : sightsB g n hs
  all_goals
    have Hz := Lib.hid hz
    clear hz
    have tk_c1 : True := trivial; have tk_b1 : True := trivial; have tk_b2 : True := trivial; have tk_b3 : True := trivial; have tk_q1 : True := trivial; have tk_q2 : True := trivial
    go_enter Try.func4, Try.ntmps4
    go_wp2_with (first | (go_at_call 10; (with_reducible refine (szSightS_yes v n hs 1048576 (by omega) (by omega) _ (HG.out.below hM.below)).mono ?_); rintro e W' ⟨rfl, hb'⟩; have hM' := hM.call hb'; clear hM hb'; have hM := hM'; clear hM') | (go_at_call 12; (with_reducible refine (toPasture_pas g _).mono ?_); rintro e W' ⟨rfl, hb'⟩; have hM' := hM.call hb'; clear hM hb'; have hM := hM'; clear hM') | (have _t := tk_b1; go_at_call 13; (with_reducible refine (toSightS_any v n hs hn1 _ (HG.out.below hM.below)).mono ?_); rintro e W' ⟨b1, rfl, hb1, hA', hcb⟩; have hM' := hM.fresh' hcb hA' hb1; simp only [List.cons_append, List.nil_append] at hM'; clear hM hcb hA' tk_b1; have hM := hM'; clear hM') | (have _t := tk_b2; go_at_call 13; (with_reducible refine (toSightS_any v n hs hn1 _ (HG.out.below hM.below)).mono ?_); rintro e W' ⟨b2, rfl, hb2, hA', hcb⟩; have hM' := hM.fresh' hcb hA' hb2; simp only [List.cons_append, List.nil_append] at hM'; clear hM hcb hA' tk_b2; have hM := hM'; clear hM') | (have _t := tk_b3; go_at_call 13; (with_reducible refine (toSightS_any v n hs hn1 _ (HG.out.below hM.below)).mono ?_); rintro e W' ⟨b3, rfl, hb3, hA', hcb⟩; have hM' := hM.fresh' hcb hA' hb3; simp only [List.cons_append, List.nil_append] at hM'; clear hM hcb hA' tk_b3; have hM := hM'; clear hM') | (go_at_call 11; (with_reducible refine (specValidSights_any g hg _ n n hs HF.out hn1 _ (hM.ats 1 _ _ _ rfl)).mono ?_); rintro e W' ⟨rfl, hb'⟩; rw [Hz.out]; have hM' := hM.call hb'; clear hM hb'; have hM := hM'; clear hM') | (go_at_call 14; (with_reducible refine (implValidSights_any g hg _ n n hs HF.out hn1 _ (hM.ats 2 _ _ _ rfl)).mono ?_); rintro e W' ⟨rfl, hb'⟩; rw [Hz.out]; have hM' := hM.call hb'; clear hM hb'; have hM := hM'; clear hM') | (go_at_call 15; (with_reducible refine (eqSightS_same _ _ n n n hs Hn.out _ (hM.ats 2 _ _ _ rfl) (hM.ats 3 _ _ _ rfl) (hM.apart 2 3 _ _ rfl rfl (by omega))).mono ?_); rintro e W' ⟨rfl, hb'⟩; have hM' := hM.call hb'; clear hM hb'; have hM := hM'; clear hM') | (have _t := tk_c1; refine wpList_box rfl _ _ rfl _ _ rfl hM ?_; intro c1 W' hc1 hM'; clear hM tk_c1; have hM := hM'; clear hM') | (have _t := tk_q1; (refine wpList_get rfl _ _ rfl _ _ rfl hM 0 rfl (rowTab _ _ rfl) (by omega) ?_); clear tk_q1) | (have _t := tk_q2; (refine wpList_get rfl _ _ rfl _ _ rfl hM 0 rfl (rowTab _ _ rfl) (by omega) ?_); clear tk_q2))
    go_ret
    exact ⟨rfl, hM.below⟩
end Go.Proofs.Ytfndjccfjpmbjaa
