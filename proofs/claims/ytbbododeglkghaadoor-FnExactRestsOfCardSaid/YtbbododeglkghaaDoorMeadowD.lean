/-
  Meadows behind a day: spec.l07Day by contract; slices.Clone of meadows.
-/
import Derived.Test.YtbbododeglkghaaDoorMeadowOk
import Derived.Test.YtbbododeglkghaaDoorMinMax
import Derived.Test.YtbbododeglkghaaDoorCat
import Derived.Test.YtbbododeglkghaaDoorHead
namespace Go.Proofs.YtbbododeglkghaaDoor
open Go Go.RowKit Go.BigFrame

theorem meadow_under : Tryd.prog.underlying 24 = some (.slice 56) := Tryd.underlying24
theorem meadow_info0 : (Tryd.prog.info? 56).map (fun i => i.size) = some 3 := by kernel_rfl

/-- The meadows when so much has been eaten in the m-th one. -/
def cutM (hs : Nat → Nat → Int) (need : Int) (m i j : Nat) : Int := if i = m ∧ j = 0 then hs i 0 - need else hs i j
/-- The meadows behind a day. -/
def dayM (hs : Nat → Nat → Int) (need : Int) (m i j : Nat) : Int := if j = 0 then minQ (hs i 2) (cutM hs need m i 0 + hs i 1) else hs i j
/-- On the way: the first k have grown. -/
def mixM (hs : Nat → Nat → Int) (need : Int) (m k i j : Nat) : Int := if i < k then dayM hs need m i j else cutM hs need m i j
theorem cutM_1 (hs : Nat → Nat → Int) (need : Int) (m i : Nat) : cutM hs need m i 1 = hs i 1 := by simp [cutM]
theorem cutM_2 (hs : Nat → Nat → Int) (need : Int) (m i : Nat) : cutM hs need m i 2 = hs i 2 := by simp [cutM]
theorem cutM_same (hs : Nat → Nat → Int) (need : Int) (m : Nat) : cutM hs need m m 0 = hs m 0 - need := by simp [cutM]
theorem cutM_other {hs : Nat → Nat → Int} {need : Int} {m i : Nat} (h : i ≠ m) (j : Nat) : cutM hs need m i j = hs i j := by simp [cutM, h]
theorem cutM_in {n : Nat} {hs : Nat → Nat → Int} {need : Int} {m : Nat} (hb : ∀ i, i < n → meadB (hs i) = true) (hd : 1 ≤ need ∧ need ≤ 1000) (he : need ≤ hs m 0) {i : Nat} (hi : i < n) : 0 ≤ cutM hs need m i 0 ∧ cutM hs need m i 0 ≤ hs i 2 := by
  obtain ⟨h2, h0, h1⟩ := meadB_iff (hb i hi)
  by_cases e : i = m
  · subst e; rw [cutM_same]; omega
  · rw [cutM_other e]; omega
theorem dayM_ok {n : Nat} {hs : Nat → Nat → Int} {need : Int} {m : Nat} (hb : ∀ i, i < n → meadB (hs i) = true) (hd : 1 ≤ need ∧ need ≤ 1000) (he : need ≤ hs m 0) {i : Nat} (hi : i < n) : meadB (dayM hs need m i) = true := by
  obtain ⟨h2, h0, h1⟩ := meadB_iff (hb i hi)
  have hc := cutM_in hb hd he hi
  have e0 : dayM hs need m i 0 = minQ (hs i 2) (cutM hs need m i 0 + hs i 1) := by simp [dayM]
  have e1 : dayM hs need m i 1 = hs i 1 := by simp [dayM]
  have e2 : dayM hs need m i 2 = hs i 2 := by simp [dayM]
  unfold meadB
  rw [e0, e1, e2, inB_yes h2, inB_yes h1, inB_yes (show 0 ≤ minQ (hs i 2) (cutM hs need m i 0 + hs i 1) ∧ minQ (hs i 2) (cutM hs need m i 0 + hs i 1) ≤ hs i 2 by unfold minQ; split <;> omega)]
  rfl
theorem meadB_fits {h : Nat → Int} (hb : meadB h = true) : FitsMeadow h := by
  obtain ⟨h2, h0, h1⟩ := meadB_iff hb
  exact ⟨by omega, by omega, by omega⟩
theorem meadsB_day {n : Nat} {hs : Nat → Nat → Int} {need : Int} {m : Nat} (hv : meadsB n hs = true) (hd : 1 ≤ need ∧ need ≤ 1000) (he : need ≤ hs m 0) : meadsB n (dayM hs need m) = true := by
  obtain ⟨hn, hb⟩ := meadsB_iff hv
  rw [meadsB_all (fun i hi => dayM_ok hb hd he hi)]
  exact inB_yes (by omega)
/-- The m-th one is eaten from. -/
theorem cut_cells {n : Nat} {F : Nat → Value} {hs : Nat → Nat → Int} (need : Int) {m : Nat} (hF : ∀ j, j < n * 3 → F j = sMeadow hs j) : ∀ j, j < n * 3 → upd F (m * 3) (.int .i16 (hs m 0 - need)) j = sMeadow (mixM hs need m 0) j := fun j hj => by
  simp only [upd]
  have hr := sMeadow_row (mixM hs need m 0) (j / 3) (j % 3) (by omega)
  rw [show j / 3 * 3 + j % 3 = j by omega] at hr
  rw [hr]
  simp only [mixM, if_neg (Nat.not_lt_zero _), vMeadow]
  by_cases e : j = m * 3
  · have e1 : j / 3 = m := by omega
    have e2 : j % 3 = 0 := by omega
    rw [if_pos e, e1, e2, cutM_same]
    rfl
  · have hr := sMeadow_row hs (j / 3) (j % 3) (by omega)
    rw [show j / 3 * 3 + j % 3 = j by omega] at hr
    rw [if_neg e, hF j hj, hr]
    have : ¬ (j / 3 = m ∧ j % 3 = 0) := by omega
    simp only [vMeadow, cutM, if_neg this]
/-- One more has grown. -/
theorem mix_cells {n : Nat} {F : Nat → Value} {hs : Nat → Nat → Int} {need : Int} {m k : Nat} (hF : ∀ j, j < n * 3 → F j = sMeadow (mixM hs need m k) j) {v : Int} (hv : v = dayM hs need m k 0) : ∀ j, j < n * 3 → upd F (k * 3) (.int .i16 v) j = sMeadow (mixM hs need m (k + 1)) j := fun j hj => by
  simp only [upd]
  have hr := sMeadow_row (mixM hs need m (k + 1)) (j / 3) (j % 3) (by omega)
  rw [show j / 3 * 3 + j % 3 = j by omega] at hr
  rw [hr]
  by_cases e : j = k * 3
  · have e1 : j / 3 = k := by omega
    have e2 : j % 3 = 0 := by omega
    rw [if_pos e, e1, e2, hv]
    simp [vMeadow, mixM, kMeadow]
  · have hr := sMeadow_row (mixM hs need m k) (j / 3) (j % 3) (by omega)
    rw [show j / 3 * 3 + j % 3 = j by omega] at hr
    rw [if_neg e, hF j hj, hr]
    simp only [vMeadow, mixM]
    by_cases e1 : j / 3 < k
    · rw [if_pos e1, if_pos (by omega)]
    · rw [if_neg e1]
      by_cases e2 : j / 3 = k
      · have e3 : j % 3 ≠ 0 := by omega
        rw [if_pos (by omega)]
        simp only [dayM, if_neg e3, cutM]
        rw [if_neg (by omega)]
      · rw [if_neg (by omega)]
theorem mix_all {n : Nat} {F : Nat → Value} {hs : Nat → Nat → Int} {need : Int} {m : Nat} (hF : ∀ j, j < n * 3 → F j = sMeadow (mixM hs need m n) j) : ∀ j, j < n * 3 → F j = sMeadow (dayM hs need m) j := fun j hj => by
  rw [hF j hj]
  have hr := sMeadow_row (mixM hs need m n) (j / 3) (j % 3) (by omega)
  have hr' := sMeadow_row (dayM hs need m) (j / 3) (j % 3) (by omega)
  rw [show j / 3 * 3 + j % 3 = j by omega] at hr hr'
  rw [hr, hr']
  simp only [vMeadow, mixM]
  rw [if_pos (by omega)]

/-- A new list of n meadows. -/
def GivesM (n : Nat) (hs : Nat → Nat → Int) (w : World) (e : Ending) (w' : World) : Prop := ∃ b c F, e = .returned (.slice (some ⟨b, 0, none⟩) n c) ∧ w.heap.size ≤ b ∧ n ≤ c ∧ (∀ j, j < n * 3 → F j = sMeadow hs j) ∧ At w' b (c * 3) F ∧ Below w.heap.size w w'
@[go_sem] theorem meads_not_nil (p : Addr) (n c : Nat) (w : World) : (binOp BinOp.eql 24 (.slice (some p) n c) (.slice none 0 0)).run Tryd.prog w = .ok (.bool false) w := by kernel_rfl

theorem clone_meads (b n c N : Nat) (F : Nat → Value) (hs : Nat → Nat → Int) (hn1 : 1 ≤ n) (hn : n ≤ 1048576) (hN : n * 3 ≤ N) (hF : ∀ j, j < n * 3 → F j = sMeadow hs j) (w : World) (hA : At w b N F) :
    Calls Tryd.prog 71 #[.slice (some ⟨b, 0, none⟩) n c] w (GivesM n hs w) := by
  have hM : Mem w [(b, N, F)] w := (Mem.nil w).old hA (fun i p h => by simp at h)
  have Hf := Lib.hid hF
  clear hA hF
  have tk_b1 : True := trivial
  go_enter Tryd.func71, Tryd.ntmps71
  go_wp2_with (first | (have _t := tk_b1; refine wpList_slice0 rfl _ _ rfl _ meadow_under meadow_info0 hM ?_; intro b1 W' hb1 hM'; clear hM tk_b1; have hM := hM'; clear hM') | (refine wpList_cat0 rfl _ _ _ rfl _ 3 _ _ meadow_under infoMeadow rfl (by omega) b1 rfl b n c rfl hn1 hn hM 1 rfl hN ?_; intro bL cL FL W' hbL hcL hFL hM'; clear hM; have hM := hM'; clear hM'))
  go_ret
  exact ⟨bL, cL, FL, rfl, hbL, hcL, fun j hj => by rw [hFL j hj, Hf.out j hj], hM.at0, hM.below⟩

end Go.Proofs.YtbbododeglkghaaDoor
