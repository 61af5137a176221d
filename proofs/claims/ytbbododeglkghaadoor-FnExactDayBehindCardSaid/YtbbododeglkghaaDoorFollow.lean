/-
  impl.follow by contract.
-/
import Derived.Test.YtbbododeglkghaaDoorPlan
import Derived.Test.YtbbododeglkghaaDoorSeason
import Derived.Test.YtbbododeglkghaaDoorDayIn2
import Derived.Test.YtbbododeglkghaaDoorResults
namespace Go.Proofs.YtbbododeglkghaaDoor
open Go Go.RowKit Go.BigFrame

theorem Mem.skip2 {w : Base} {W : World} {p q r : Nat × Nat × (Nat → Value)} {L : Blocks} (h : Mem w (p :: q :: r :: L) W) : Mem w (p :: q :: L) W :=
  ⟨h.good, fun i b n f hi => by
    match i, hi with
    | 0, hi => exact h.ats 0 b n f (by simpa using hi)
    | 1, hi => exact h.ats 1 b n f (by simpa using hi)
    | i + 2, hi => exact h.ats (i + 3) b n f (by simpa using hi),
   fun i j x y hi hj hne => by
    match i, j, hi, hj with
    | 0, 0, _, _ => exact absurd rfl hne
    | 1, 1, _, _ => exact absurd rfl hne
    | 0, 1, hi, hj => exact h.apart 0 1 x y (by simpa using hi) (by simpa using hj) (by omega)
    | 1, 0, hi, hj => exact h.apart 1 0 x y (by simpa using hi) (by simpa using hj) (by omega)
    | 0, j + 2, hi, hj => exact h.apart 0 (j + 3) x y (by simpa using hi) (by simpa using hj) (by omega)
    | 1, j + 2, hi, hj => exact h.apart 1 (j + 3) x y (by simpa using hi) (by simpa using hj) (by omega)
    | i + 2, 0, hi, hj => exact h.apart (i + 3) 0 x y (by simpa using hi) (by simpa using hj) (by omega)
    | i + 2, 1, hi, hj => exact h.apart (i + 3) 1 x y (by simpa using hi) (by simpa using hj) (by omega)
    | i + 2, j + 2, hi, hj => exact h.apart (i + 3) (j + 3) x y (by simpa using hi) (by simpa using hj) (by omega)⟩

/-- What comes of a plan: the meadows, the days. -/
def fol (v : Value) (d : Int) : Nat → Value := fun k => if k = 0 then v else .int .i64 d
def zFol : Nat → Value := fol (.slice none 0 0) 0
theorem meads_cell : CellT Tryd.prog 24 := ⟨⟨_, meadow_under, rfl⟩, by kernel_rfl⟩
theorem rowFol : RowT Tryd.prog 65 2 := ⟨⟨_, Tryd.underlying65, rfl⟩, by kernel_rfl⟩
theorem zeroFol : (Tryd.prog.info? 65).map (·.zero) = some (some (.agg (arr 2 zFol))) := by kernel_rfl
theorem fol_one {a : Option Addr} {n c : Nat} {d : Int} : ∀ k, k < 2 → (fol (.slice a n c) d k).oneCell' = true := fun k hk => by
  rcases (show k = 0 ∨ k = 1 by omega) with rfl | rfl <;> rfl
theorem lay_fol (z : Nat → Value) (v : Value) (d : Int) : ∀ j, j < 2 → lay z 0 2 (fol v d) j = fol v d j := fun j hj => by
  simp only [lay, Nat.zero_add, Nat.sub_zero]
  rw [if_pos ⟨by omega, hj⟩]

/-- A plan that is not followed: the error. -/
def NoFol (x : Addr) (w : World) (e : Ending) (w' : World) : Prop := e = .returned (.tuple #[.agg (arr 2 zFol), errV x]) ∧ Below w.heap.size w w'
set_option maxRecDepth 100000 in
set_option maxHeartbeats 1000000 in
theorem follow_0 {a : Nat → Addr} (b n c : Nat) (hs : Nat → Nat → Int) (hF : ∀ i, i < n → FitsMeadow (hs i)) (hn : n ≤ 1048576) (need : Int) (pv : Value) (w : World) (hB : At w b (n * 3) (sMeadow hs)) (hE : Errs a w) (hm : meadsB n hs = false) :
    Calls Tryd.prog 49 #[.slice (some ⟨b, 0, none⟩) n c, .int .i64 need, pv] w (NoFol (a 0) w) := by
  have hM : Mem w [(b, n * 3, sMeadow hs)] w := (Mem.nil w).old hB (fun i p h => by simp at h)
  have HF := Lib.hid hF
  have HE := Lib.hid hE
  have Hm := Lib.hid hm
  clear hF hB hE hm
  have tk_b1 : True := trivial
  go_enter Tryd.func49, Tryd.ntmps49
  go_wp2_with (first | (have _t := tk_b1; refine wpList_zero rfl _ rfl zeroFol hM ?_; intro b1 W' hb1 hM'; clear hM tk_b1; have hM := hM'; clear hM') | (go_at_call 53; (with_reducible refine (seasonOf_0 b (n * 3) n c (sMeadow hs) hs (Nat.le_refl _) (fun _ _ => rfl) HF.out hn need _ (hM.ats 1 _ _ _ rfl) (HE.out.below hM.below) Hm.out).mono ?_); rintro e W' ⟨rfl, hb'⟩; have hM' := hM.call hb'; clear hM hb'; have hM := hM'; clear hM') | (refine wpList_lay rfl _ _ _ rfl _ _ rfl 2 zFol rfl hM 0 rfl (by assumption) rowFol (by omega) fol_one ?_; intro W' hM'; clear hM; have hM := hM'; clear hM'; simp only [List.set] at hM))
  exact bodyPost_ret (results_at2 rfl _ rfl ((hM.ats 0 _ _ _ rfl).congr (lay_fol _ _ _)) rowFol _ rfl) rfl ⟨rfl, hM.below⟩
set_option maxRecDepth 100000 in
set_option maxHeartbeats 1000000 in
theorem follow_1 {a : Nat → Addr} (b n c : Nat) (hs : Nat → Nat → Int) (hF : ∀ i, i < n → FitsMeadow (hs i)) (hn : n ≤ 1048576) (need : Int) (pv : Value) (w : World) (hB : At w b (n * 3) (sMeadow hs)) (hE : Errs a w) (hm : meadsB n hs = true) (hd : inB 1 1000 need = false) :
    Calls Tryd.prog 49 #[.slice (some ⟨b, 0, none⟩) n c, .int .i64 need, pv] w (NoFol (a 1) w) := by
  have hM : Mem w [(b, n * 3, sMeadow hs)] w := (Mem.nil w).old hB (fun i p h => by simp at h)
  have HF := Lib.hid hF
  have HE := Lib.hid hE
  have Hm := Lib.hid hm
  have Hd := Lib.hid hd
  clear hF hB hE hm hd
  have tk_b1 : True := trivial
  go_enter Tryd.func49, Tryd.ntmps49
  go_wp2_with (first | (have _t := tk_b1; refine wpList_zero rfl _ rfl zeroFol hM ?_; intro b1 W' hb1 hM'; clear hM tk_b1; have hM := hM'; clear hM') | (go_at_call 53; (with_reducible refine (seasonOf_1 b (n * 3) n c (sMeadow hs) hs (Nat.le_refl _) (fun _ _ => rfl) HF.out hn need _ (hM.ats 1 _ _ _ rfl) (HE.out.below hM.below) Hm.out Hd.out).mono ?_); rintro e W' ⟨rfl, hb'⟩; have hM' := hM.call hb'; clear hM hb'; have hM := hM'; clear hM') | (refine wpList_lay rfl _ _ _ rfl _ _ rfl 2 zFol rfl hM 0 rfl (by assumption) rowFol (by omega) fol_one ?_; intro W' hM'; clear hM; have hM := hM'; clear hM'; simp only [List.set] at hM))
  exact bodyPost_ret (results_at2 rfl _ rfl ((hM.ats 0 _ _ _ rfl).congr (lay_fol _ _ _)) rowFol _ rfl) rfl ⟨rfl, hM.below⟩
set_option maxRecDepth 100000 in
set_option maxHeartbeats 1000000 in
theorem follow_2 {a : Nat → Addr} (b n c bp p cp : Nat) (hs : Nat → Nat → Int) (ys : Nat → Int) (hF : ∀ i, i < n → FitsMeadow (hs i)) (hn : n ≤ 1048576) (hp : p ≤ 1048576) (need : Int) (w : World) (hB : At w b (n * 3) (sMeadow hs)) (hP : At w bp p (vInt64S ys)) (hne : b ≠ bp) (hE : Errs a w) (hm : meadsB n hs = true) (hd : inB 1 1000 need = true) (hpl : planB n p ys = false) :
    Calls Tryd.prog 49 #[.slice (some ⟨b, 0, none⟩) n c, .int .i64 need, .slice (some ⟨bp, 0, none⟩) p cp] w (NoFol (a 1) w) := by
  have hM : Mem w [(b, n * 3, sMeadow hs), (bp, p, vInt64S ys)] w := ((Mem.nil w).old hB (fun i p h => by simp at h)).old hP (fun i p h => by
    match i, h with
    | 0, h => simp at h; rw [← h]; exact hne
    | _ + 1, h => simp at h)
  have HF := Lib.hid hF
  have HE := Lib.hid hE
  have Hm := Lib.hid hm
  have Hd := Lib.hid hd
  have Hp : Hid (errO (a 1) (!planB n p ys) = errV (a 1)) := Lib.hid (by rw [hpl]; rfl)
  clear hF hB hE hm hd hP hpl
  have tk_b1 : True := trivial
  go_enter Tryd.func49, Tryd.ntmps49
  go_wp2_with (first | (have _t := tk_b1; refine wpList_zero rfl _ rfl zeroFol hM ?_; intro b1 W' hb1 hM'; clear hM tk_b1; have hM := hM'; clear hM') | (go_at_call 53; (with_reducible refine (seasonOf_ok b (n * 3) n c (sMeadow hs) hs (Nat.le_refl _) (fun _ _ => rfl) HF.out hn need _ (hM.ats 1 _ _ _ rfl) (HE.out.below hM.below) Hm.out Hd.out).mono ?_); rintro e W' ⟨rfl, hb'⟩; have hM' := hM.call hb'; clear hM hb'; have hM := hM'; clear hM') | (go_at_call 57; (with_reducible refine (checkPlan_any n bp p cp ys hn hp _ (hM.ats 2 _ _ _ rfl) (HE.out.below hM.below)).mono ?_); rintro e W' ⟨rfl, hb'⟩; rw [Hp.out]; have hM' := hM.call hb'; clear hM hb'; have hM := hM'; clear hM') | (refine wpList_lay rfl _ _ _ rfl _ _ rfl 2 zFol rfl hM 0 rfl (by assumption) rowFol (by omega) fol_one ?_; intro W' hM'; clear hM; have hM := hM'; clear hM'; simp only [List.set] at hM))
  exact bodyPost_ret (results_at2 rfl _ rfl ((hM.ats 0 _ _ _ rfl).congr (lay_fol _ _ _)) rowFol _ rfl) rfl ⟨rfl, hM.below⟩

/-- What comes of a plan. -/
def GivesF (d n : Nat) (hs : Nat → Nat → Int) (w : World) (e : Ending) (w' : World) : Prop := ∃ b c F, e = .returned (.tuple #[.agg (arr 2 (fol (.slice (some ⟨b, 0, none⟩) n c) (d : Int))), .nilIface]) ∧ w.heap.size ≤ b ∧ n ≤ c ∧ (∀ j, j < n * 3 → F j = sMeadow hs j) ∧ At w' b (c * 3) F ∧ Below w.heap.size w w'
theorem givesF_r {d d' n : Nat} {hs hs' : Nat → Nat → Int} {w : World} {e : Ending} {w' : World} (h : GivesF d n hs w e w') (hr : d = d') (hh : hs = hs') : GivesF d' n hs' w e w' := by rw [← hr, ← hh]; exact h

set_option maxRecDepth 100000 in
set_option maxHeartbeats 4000000 in
theorem follow_ok {a : Nat → Addr} (b n c bp p cp : Nat) (hs : Nat → Nat → Int) (ys : Nat → Int) (hv : meadsB n hs = true) (need : Int) (w : World) (hB : At w b (n * 3) (sMeadow hs)) (hP : At w bp p (vInt64S ys)) (hne : b ≠ bp) (hE : Errs a w) (hdd : inB 1 1000 need = true) (hpl : planB n p ys = true) :
    Calls Tryd.prog 49 #[.slice (some ⟨b, 0, none⟩) n c, .int .i64 need, .slice (some ⟨bp, 0, none⟩) p cp] w (GivesF (upM hs need ys p) n (stM hs need ys (upM hs need ys p)) w) := by
  have hM : Mem w [(b, n * 3, sMeadow hs), (bp, p, vInt64S ys)] w := ((Mem.nil w).old hB (fun i p h => by simp at h)).old hP (fun i p h => by
    match i, h with
    | 0, h => simp at h; rw [← h]; exact hne
    | _ + 1, h => simp at h)
  obtain ⟨hn, hb⟩ := meadsB_iff hv
  obtain ⟨hp, hpi⟩ := planB_iff hpl
  have hd := inB_true hdd
  have HF := Lib.hid (fun i hi => meadB_fits (hb i hi))
  have Hb := Lib.hid hb
  have Hpi := Lib.hid hpi
  have HE := Lib.hid hE
  have Hm := Lib.hid hv
  have Hd := Lib.hid hdd
  have Hp : Hid (errO (a 1) (!planB n p ys) = .nilIface) := Lib.hid (by rw [hpl]; rfl)
  clear hB hP hb hpi hE hv hdd hpl
  have tk_b1 : True := trivial; have tk_b2 : True := trivial; have tk_l1 : True := trivial
  go_enter Tryd.func49, Tryd.ntmps49
  go_wp2_with (first | (have _t := tk_b1; refine wpList_zero rfl _ rfl zeroFol hM ?_; intro b1 W' hb1 hM'; clear hM tk_b1; have hM := hM'; clear hM') | (go_at_call 53; (with_reducible refine (seasonOf_ok b (n * 3) n c (sMeadow hs) hs (Nat.le_refl _) (fun _ _ => rfl) HF.out (by omega) need _ (hM.ats 1 _ _ _ rfl) (HE.out.below hM.below) Hm.out Hd.out).mono ?_); rintro e W' ⟨rfl, hb'⟩; have hM' := hM.call hb'; clear hM hb'; have hM := hM'; clear hM') | (go_at_call 57; (with_reducible refine (checkPlan_any n bp p cp ys (by omega) (by omega) _ (hM.ats 2 _ _ _ rfl) (HE.out.below hM.below)).mono ?_); rintro e W' ⟨rfl, hb'⟩; rw [Hp.out]; have hM' := hM.call hb'; clear hM hb'; have hM := hM'; clear hM') | (go_at_call 71; (with_reducible refine (clone_meads b n c (n * 3) (sMeadow hs) hs hn.1 (by omega) (Nat.le_refl _) (fun _ _ => rfl) _ (hM.ats 1 _ _ _ rfl)).mono ?_); rintro e W' ⟨bL, cL, FL, rfl, hbL, hcL, hFL, hAL, hbl⟩; have hbL2 := Nat.le_trans hM.size hbL; have hM' := hM.freshQ hbl hAL hbL; clear hM hbl hAL; have hM := hM'; clear hM') | (have _t := tk_b2; refine wpList_zero rfl _ rfl zeroFol hM ?_; intro b2 W' hb2 hM'; clear hM tk_b2; have hM := hM'; clear hM') | (have _t := tk_l1; refine wpList_lay rfl _ _ _ rfl _ _ rfl 2 (fol (.slice (some ⟨bL, 0, none⟩) n cL) 0) rfl hM 0 rfl (by assumption) rowFol (by omega) fol_one ?_; intro W' hM'; clear hM tk_l1; have hM := hM'.re 0 rfl (fol (.slice (some ⟨bL, 0, none⟩) n cL) 0) (lay_fol _ _ _); clear hM'; simp only [List.set] at hM))
  go_loopw [39] (fun i wr => ∃ k : Nat, k ≤ p ∧ i = .int .i64 k ∧ ∃ bL cL FL, w.heap.size ≤ bL ∧ n ≤ cL ∧ Hid (upM hs need ys k = k) ∧ Hid (∀ j, j < n * 3 → FL j = sMeadow (stM hs need ys k) j) ∧ Mem w [(b2, 2, fol (.slice (some ⟨bL, 0, none⟩) n cL) (k : Int)), (bL, cL * 3, FL), (b1, 2, zFol), (b, n * 3, sMeadow hs), (bp, p, vInt64S ys)] wr) (fun i _ => p - (intOf i).toNat)
  case atStart => exact ⟨0, by omega, rfl, bL, cL, FL, hbL2, hcL, Lib.hid rfl, Lib.hid hFL, hM⟩
  case round =>
    clear hM hbL hbL2 hcL hFL
    obtain ⟨k, hk, rfl, bL, cL, FL, hbL, hcL, hU, hFL, hM⟩ := hrel
    by_cases hlt : k < p
    · have l2 : (k : Int) < p := by omega
      have ek : vInt64S ys k = .int .i64 (ys k) := rfl
      have hy := Hpi.out k hlt
      obtain ⟨m, hm⟩ : ∃ m : Nat, m = (ys k).toNat := ⟨_, rfl⟩
      have hym : ys k = (m : Int) := by omega
      have hmn : m < n := by omega
      rw [hym] at ek
      have Hst := Lib.hid (stM_ok Hb.out hd Hpi.out k hk hU.out)
      have e0 : fol (.slice (some ⟨bL, 0, none⟩) n cL) (k : Int) 0 = .slice (some ⟨bL, 0, none⟩) n cL := rfl
      have e1 : fol (.slice (some ⟨bL, 0, none⟩) n cL) (k : Int) 1 = .int .i64 (k : Int) := rfl
      have Hk := Lib.hid hk
      clear hk
      by_cases hc : need ≤ stM hs need ys k m 0
      · have hcan : canM hs need ys k := by unfold canM; rw [← hm]; exact hc
        have Hu := Lib.hid (upM_step hU.out hcan)
        have Hs : Hid (stM hs need ys (k + 1) = dayM (stM hs need ys k) need m) := Lib.hid (by rw [hm]; rfl)
        clear hy hm hym hcan
        have tk_r0 : True := trivial; have tk_l1 : True := trivial
        go_wp2_with (first | (refine wpList_get1 rfl _ _ rfl _ _ rfl hM 4 rfl (cellTab _ rfl) (by omega) _ ek ?_) | (have _t := tk_r0; (refine wpList_get1 rfl _ _ rfl _ _ rfl hM 0 rfl meads_cell (by omega) _ e0 ?_); clear tk_r0) | (go_at_call 73; (with_reducible refine (dayIn_yes bL n cL (cL * 3) FL (stM hs need ys k) hn.1 hn.2 (by omega) hFL.out Hst.out need hd m hmn hc _ (hM.ats 1 _ _ _ rfl)).mono ?_); rintro e W' ⟨bN, cN, FN, rfl, hbN, hcN, hFN, hAN, hbl⟩; have hbN2 := Nat.le_trans hM.size hbN; have hM' := hM.freshQ hbl hAN hbN; clear hM hbl hAN; have hM := hM'; clear hM') | (refine wpList_get1 rfl _ _ rfl _ _ rfl hM 1 rfl (cellTab _ rfl) (by omega) _ e1 ?_) | (have _t := tk_l1; refine wpList_lay rfl _ _ _ rfl _ _ rfl 2 (fol (.slice (some ⟨bN, 0, none⟩) n cN) _) rfl hM 1 rfl (by assumption) rowFol (by omega) fol_one ?_; intro W' hM'; clear hM tk_l1; have hM := hM'; clear hM'; simp only [List.set] at hM))
        go_roundw
        case rel => exact ⟨k + 1, by omega, by go_num, bN, cN, FN, hbN2, hcN, Hu, Lib.hid (fun j hj => by rw [hFN j hj, Hs.out]), hM.swap.skip2.re 0 rfl (fol (.slice (some ⟨bN, 0, none⟩) n cN) ((k + 1 : Nat) : Int)) (fun j hj => by rw [lay_fol _ _ _ j hj]; rfl)⟩
        case measure => simp [intOf]; omega
      · have hcan : ¬ canM hs need ys k := by unfold canM; rw [← hm]; exact hc
        have Hu := Lib.hid (upM_first hU.out hcan Hk.out)
        clear hy hm hym hcan
        have hc' : stM hs need ys k m 0 < need := by omega
        clear hc
        have tk_r0 : True := trivial; have tk_q1 : True := trivial
        go_wp2_with (first | (refine wpList_get1 rfl _ _ rfl _ _ rfl hM 4 rfl (cellTab _ rfl) (by omega) _ ek ?_) | (have _t := tk_r0; (refine wpList_get1 rfl _ _ rfl _ _ rfl hM 0 rfl meads_cell (by omega) _ e0 ?_); clear tk_r0) | (go_at_call 73; (with_reducible refine (dayIn_no bL n cL (cL * 3) FL (stM hs need ys k) (by omega) hFL.out Hst.out need m hmn hc' _ (hM.ats 1 _ _ _ rfl) (HE.out.below hM.below)).mono ?_); rintro e W' ⟨rfl, hb'⟩; have hM' := hM.call hb'; clear hM hb'; have hM := hM'; clear hM') | ((refine wpList_get rfl _ _ rfl _ _ rfl hM 0 rfl rowFol (by omega) ?_); rw [show arr 2 (fun j => fol (.slice (some ⟨bL, 0, none⟩) n cL) (k : Int) (0 + j)) = arr 2 (fol (.slice (some ⟨bL, 0, none⟩) n cL) (k : Int)) from arr_congr fun j _ => by rw [Nat.zero_add]]) | (have _t := tk_q1; refine wpList_lay rfl _ _ _ rfl _ _ rfl 2 (fol (.slice (some ⟨bL, 0, none⟩) n cL) (k : Int)) rfl hM 2 rfl (by assumption) rowFol (by omega) fol_one ?_; intro W' hM'; clear hM tk_q1; have hM := hM'; clear hM'; simp only [List.set] at hM))
        exact bodyPost_ret (results_at2 rfl _ rfl ((hM.ats 2 _ _ _ rfl).congr (lay_fol _ _ _)) rowFol _ rfl) rfl (givesF_r ⟨bL, cL, FL, rfl, hbL, hcL, hFL.out, hM.ats 1 _ _ _ rfl, hM.below⟩ Hu.out.symm (by rw [Hu.out]))
    · obtain rfl : k = p := by omega
      have tk_q1 : True := trivial
      go_wp2_with (first | ((refine wpList_get rfl _ _ rfl _ _ rfl hM 0 rfl rowFol (by omega) ?_); rw [show arr 2 (fun j => fol (.slice (some ⟨bL, 0, none⟩) n cL) (k : Int) (0 + j)) = arr 2 (fol (.slice (some ⟨bL, 0, none⟩) n cL) (k : Int)) from arr_congr fun j _ => by rw [Nat.zero_add]]) | (have _t := tk_q1; refine wpList_lay rfl _ _ _ rfl _ _ rfl 2 (fol (.slice (some ⟨bL, 0, none⟩) n cL) (k : Int)) rfl hM 2 rfl (by assumption) rowFol (by omega) fol_one ?_; intro W' hM'; clear hM tk_q1; have hM := hM'; clear hM'; simp only [List.set] at hM))
      exact bodyPost_ret (results_at2 rfl _ rfl ((hM.ats 2 _ _ _ rfl).congr (lay_fol _ _ _)) rowFol _ rfl) rfl (givesF_r ⟨bL, cL, FL, rfl, hbL, hcL, hFL.out, hM.ats 1 _ _ _ rfl, hM.below⟩ hU.out.symm (by rw [hU.out]))
end Go.Proofs.YtbbododeglkghaaDoor
