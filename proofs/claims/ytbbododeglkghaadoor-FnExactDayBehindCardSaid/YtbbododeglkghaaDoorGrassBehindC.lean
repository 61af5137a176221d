/-
  spec.GrassBehind and impl.GrassBehind by contracts.
-/
import Derived.Test.YtbbododeglkghaaDoorMade
import Derived.Test.YtbbododeglkghaaDoorFollow
import Derived.Test.YtbbododeglkghaaDoorMeadC
import Derived.Test.YtbbododeglkghaaDoorNum
import Derived.Test.YtbbododeglkghaaDoorGivesR
namespace Go.Proofs.YtbbododeglkghaaDoor
open Go Go.RowKit Go.BigFrame

def behC (n p : Nat) (hs : Nat → Nat → Int) (ys : Nat → Int) (need : Int) : Int := if meadC n hs need (planB n p ys) = 0 then (if upM hs need ys p = p then 0 else 4) else meadC n hs need (planB n p ys)
def behN (n p : Nat) (hs : Nat → Nat → Int) (ys : Nat → Int) (need : Int) : Nat := if behC n p hs ys need = 0 then n else 0
def behV (p : Nat) (hs : Nat → Nat → Int) (ys : Nat → Int) (need : Int) : Nat → Nat → Int := stM hs need ys (upM hs need ys p)
theorem beh_code {n p : Nat} {hs : Nat → Nat → Int} {ys : Nat → Int} {need c : Int} (h : meadC n hs need (planB n p ys) = c) (hc : c ≠ 0) : behC n p hs ys need = c ∧ behN n p hs ys need = 0 := by
  have e : behC n p hs ys need = c := by unfold behC; rw [h, if_neg hc]
  exact ⟨e, by unfold behN; rw [e, if_neg hc]⟩
theorem beh_yes {n p : Nat} {hs : Nat → Nat → Int} {ys : Nat → Int} {need : Int} (h : meadC n hs need (planB n p ys) = 0) (hu : upM hs need ys p = p) : behC n p hs ys need = 0 ∧ behN n p hs ys need = n := by
  have e : behC n p hs ys need = 0 := by unfold behC; rw [h, if_pos rfl, if_pos hu]
  exact ⟨e, by unfold behN; rw [e, if_pos rfl]⟩
theorem beh_give {n p : Nat} {hs : Nat → Nat → Int} {ys : Nat → Int} {need : Int} (h : meadC n hs need (planB n p ys) = 0) (hu : upM hs need ys p = p) {w w' : World} {b c : Nat} {F : Nat → Value} (hb : w.heap.size ≤ b) (hc : n ≤ c)
    (hF : ∀ j, j < n * 3 → F j = sMeadow (stM hs need ys (upM hs need ys p)) j) (hA : At w' b (c * 3) F) (hbl : Below w.heap.size w w') : GivesR 3 (behN n p hs ys need) (sMeadow (behV p hs ys need)) (behC n p hs ys need) w (.returned (.tuple #[.slice (some ⟨b, 0, none⟩) n c, .int .i64 0])) w' := by
  rw [(beh_yes h hu).1, (beh_yes h hu).2]
  exact ⟨_, rfl, .inr ⟨b, c, _, F, rfl, hb, by omega, hF, hA, hbl⟩⟩
theorem beh_no {n p : Nat} {hs : Nat → Nat → Int} {ys : Nat → Int} {need : Int} (h : meadC n hs need (planB n p ys) = 0) (hu : ¬ upM hs need ys p = p) : behC n p hs ys need = 4 ∧ behN n p hs ys need = 0 := by
  have e : behC n p hs ys need = 4 := by unfold behC; rw [h, if_pos rfl, if_neg hu]
  exact ⟨e, by unfold behN; rw [e, if_neg (by decide)]⟩

set_option maxRecDepth 100000 in
set_option maxHeartbeats 2000000 in
theorem specGrassBehind_any (b n c bp p cp : Nat) (hs : Nat → Nat → Int) (ys : Nat → Int) (hF : ∀ i, i < n → FitsMeadow (hs i)) (hn : n ≤ 1048576) (hp : p ≤ 1048576) (need : Int) (w : World) (hB : At w b (n * 3) (sMeadow hs)) (hP : At w bp p (vInt64S ys)) (hne : b ≠ bp) :
    Calls Tryd.prog 26 #[.slice (some ⟨b, 0, none⟩) n c, .int .i64 need, .slice (some ⟨bp, 0, none⟩) p cp] w (GivesR 3 (behN n p hs ys need) (sMeadow (behV p hs ys need)) (behC n p hs ys need) w) := by
  have hM : Mem w [(b, n * 3, sMeadow hs), (bp, p, vInt64S ys)] w := ((Mem.nil w).old hB (fun i p h => by simp at h)).old hP (fun i p h => by
    match i, h with
    | 0, h => simp at h; rw [← h]; exact hne
    | _ + 1, h => simp at h)
  have HF := Lib.hid hF
  clear hF hB hP
  rcases meadC_cases n hs need (planB n p ys) with ⟨hm, hc⟩ | ⟨hm, hd, hc⟩ | ⟨hm, hd, hr, hc⟩ | ⟨hm, hd, hr, hc⟩
  · have Hc := Lib.hid hc
    clear hm hc
    have tk_s1 : True := trivial
    go_enter Tryd.func26, Tryd.ntmps26
    go_wp2_with (first | (go_at_call 47; (with_reducible refine (l07Plan_any b n c bp p cp hs ys HF.out hn hp need _ (hM.ats 0 _ _ _ rfl) (hM.ats 1 _ _ _ rfl) (hM.apart 0 1 _ _ rfl rfl (by omega))).mono ?_); rintro e W' ⟨rfl, hb'⟩; rw [Hc.out]; have hM' := hM.call hb'; clear hM hb'; have hM := hM'; clear hM') | (have _t := tk_s1; refine wpList_slice0 rfl _ _ rfl _ meadow_under meadow_info0 hM ?_; intro s1 W' hs1 hM'; clear hM tk_s1; have hM := hM'; clear hM'))
    go_ret2
    exact GivesR.none hM.below (beh_code Hc.out (by decide)).2 (beh_code Hc.out (by decide)).1.symm
  · have Hc := Lib.hid hc
    clear hm hc hd
    have tk_s1 : True := trivial
    go_enter Tryd.func26, Tryd.ntmps26
    go_wp2_with (first | (go_at_call 47; (with_reducible refine (l07Plan_any b n c bp p cp hs ys HF.out hn hp need _ (hM.ats 0 _ _ _ rfl) (hM.ats 1 _ _ _ rfl) (hM.apart 0 1 _ _ rfl rfl (by omega))).mono ?_); rintro e W' ⟨rfl, hb'⟩; rw [Hc.out]; have hM' := hM.call hb'; clear hM hb'; have hM := hM'; clear hM') | (have _t := tk_s1; refine wpList_slice0 rfl _ _ rfl _ meadow_under meadow_info0 hM ?_; intro s1 W' hs1 hM'; clear hM tk_s1; have hM := hM'; clear hM'))
    go_ret2
    exact GivesR.none hM.below (beh_code Hc.out (by decide)).2 (beh_code Hc.out (by decide)).1.symm
  · have Hc := Lib.hid hc
    clear hm hc hd hr
    have tk_s1 : True := trivial
    go_enter Tryd.func26, Tryd.ntmps26
    go_wp2_with (first | (go_at_call 47; (with_reducible refine (l07Plan_any b n c bp p cp hs ys HF.out hn hp need _ (hM.ats 0 _ _ _ rfl) (hM.ats 1 _ _ _ rfl) (hM.apart 0 1 _ _ rfl rfl (by omega))).mono ?_); rintro e W' ⟨rfl, hb'⟩; rw [Hc.out]; have hM' := hM.call hb'; clear hM hb'; have hM := hM'; clear hM') | (have _t := tk_s1; refine wpList_slice0 rfl _ _ rfl _ meadow_under meadow_info0 hM ?_; intro s1 W' hs1 hM'; clear hM tk_s1; have hM := hM'; clear hM'))
    go_ret2
    exact GivesR.none hM.below (beh_code Hc.out (by decide)).2 (beh_code Hc.out (by decide)).1.symm
  have Hc := Lib.hid hc
  have Hm := Lib.hid hm
  have Hd := Lib.hid hd
  have Hr := Lib.hid hr
  have hle := upM_le hs need ys p
  have hdn : dayNo hs need ys p = if upM hs need ys p = p then (-1 : Int) else ((upM hs need ys p : Nat) : Int) := rfl
  clear hc hm hd hr
  by_cases hu : upM hs need ys p = p
  · have hdd : dayNo hs need ys p = -1 := by rw [hdn, if_pos hu]
    have Hu := Lib.hid hu
    have HDN : Hid (∀ e w', GivesNM (dayNo hs need ys p) n (stM hs need ys (upM hs need ys p)) w e w' → True) := Lib.hid (fun _ _ _ => trivial)
    clear HDN
    have tk_s1 : True := trivial
    go_enter Tryd.func26, Tryd.ntmps26
    have Hmade := Lib.hid (fun (W : World) (hB : At W b (n * 3) (sMeadow hs)) (hP : At W bp p (vInt64S ys)) => (l07Made_any b n c bp p cp hs ys Hm.out need (inB_true Hd.out) Hr.out W hB hP hne).mono (fun e w' h => givesNM_r h hdd rfl))
    clear hdd hdn hu hle
    go_wp2_with (first | (go_at_call 47; (with_reducible refine (l07Plan_any b n c bp p cp hs ys HF.out hn hp need _ (hM.ats 0 _ _ _ rfl) (hM.ats 1 _ _ _ rfl) (hM.apart 0 1 _ _ rfl rfl (by omega))).mono ?_); rintro e W' ⟨rfl, hb'⟩; rw [Hc.out]; have hM' := hM.call hb'; clear hM hb'; have hM := hM'; clear hM') | (go_at_call 48; (with_reducible refine (Hmade.out _ (hM.ats 0 _ _ _ rfl) (hM.ats 1 _ _ _ rfl)).mono ?_); rintro e W' ⟨bL, cL, FL, rfl, hbL, hcL, hFL, hAL, hbl⟩; have hbL2 := Nat.le_trans hM.size hbL; have hM' := hM.freshQ hbl hAL hbL; clear hM hbl hAL; have hM := hM'; clear hM') | (have _t := tk_s1; refine wpList_slice0 rfl _ _ rfl _ meadow_under meadow_info0 hM ?_; intro s1 W' hs1 hM'; clear hM tk_s1; have hM := hM'; clear hM'))
    go_ret2
    exact beh_give Hc.out Hu.out hbL2 hcL (fun j hj => hFL j hj) (hM.ats 0 _ _ _ rfl) hM.below
  · have hdd : dayNo hs need ys p = ((upM hs need ys p : Nat) : Int) := by rw [hdn, if_neg hu]
    have Hu := Lib.hid hu
    have tk_s1 : True := trivial
    go_enter Tryd.func26, Tryd.ntmps26
    have Hmade := Lib.hid (fun (W : World) (hB : At W b (n * 3) (sMeadow hs)) (hP : At W bp p (vInt64S ys)) => (l07Made_any b n c bp p cp hs ys Hm.out need (inB_true Hd.out) Hr.out W hB hP hne).mono (fun e w' h => givesNM_r h hdd rfl))
    clear hdd hdn hu hle
    go_wp2_with (first | (go_at_call 47; (with_reducible refine (l07Plan_any b n c bp p cp hs ys HF.out hn hp need _ (hM.ats 0 _ _ _ rfl) (hM.ats 1 _ _ _ rfl) (hM.apart 0 1 _ _ rfl rfl (by omega))).mono ?_); rintro e W' ⟨rfl, hb'⟩; rw [Hc.out]; have hM' := hM.call hb'; clear hM hb'; have hM := hM'; clear hM') | (go_at_call 48; (with_reducible refine (Hmade.out _ (hM.ats 0 _ _ _ rfl) (hM.ats 1 _ _ _ rfl)).mono ?_); rintro e W' ⟨bL, cL, FL, rfl, hbL, hcL, hFL, hAL, hbl⟩; have hbL2 := Nat.le_trans hM.size hbL; have hM' := hM.freshQ hbl hAL hbL; clear hM hbl hAL; have hM := hM'; clear hM') | (have _t := tk_s1; refine wpList_slice0 rfl _ _ rfl _ meadow_under meadow_info0 hM ?_; intro s1 W' hs1 hM'; clear hM tk_s1; have hM := hM'; clear hM'))
    go_ret2
    exact GivesR.none hM.below (beh_no Hc.out Hu.out).2 (beh_no Hc.out Hu.out).1.symm

set_option maxRecDepth 100000 in
set_option maxHeartbeats 2000000 in
theorem implGrassBehind_any {a : Nat → Addr} (b n c bp p cp : Nat) (hs : Nat → Nat → Int) (ys : Nat → Int) (hF : ∀ i, i < n → FitsMeadow (hs i)) (hn : n ≤ 1048576) (hp : p ≤ 1048576) (need : Int) (w : World) (hB : At w b (n * 3) (sMeadow hs)) (hP : At w bp p (vInt64S ys)) (hne : b ≠ bp) (hE : Errs a w) :
    Calls Tryd.prog 27 #[.slice (some ⟨b, 0, none⟩) n c, .int .i64 need, .slice (some ⟨bp, 0, none⟩) p cp] w (GivesR 3 (behN n p hs ys need) (sMeadow (behV p hs ys need)) (behC n p hs ys need) w) := by
  have hM : Mem w [(b, n * 3, sMeadow hs), (bp, p, vInt64S ys)] w := ((Mem.nil w).old hB (fun i p h => by simp at h)).old hP (fun i p h => by
    match i, h with
    | 0, h => simp at h; rw [← h]; exact hne
    | _ + 1, h => simp at h)
  have HF := Lib.hid hF
  have HE := Lib.hid hE
  clear hF hB hP hE
  rcases meadC_cases n hs need (planB n p ys) with ⟨hm, hc⟩ | ⟨hm, hd, hc⟩ | ⟨hm, hd, hr, hc⟩ | ⟨hm, hd, hr, hc⟩
  · have Hc := Lib.hid hc
    have Hm := Lib.hid hm
    clear hm hc
    have tk_b1 : True := trivial; have tk_l1 : True := trivial
    go_enter Tryd.func27, Tryd.ntmps27
    go_wp2_with (first | (go_at_call 49; (with_reducible refine (follow_0 b n c hs HF.out hn need _ _ (hM.ats 0 _ _ _ rfl) (HE.out.below hM.below) Hm.out).mono ?_); rintro e W' ⟨rfl, hb'⟩; have hM' := hM.call hb'; clear hM hb'; have hM := hM'; clear hM') | (have _t := tk_b1; refine wpList_zero rfl _ rfl zeroFol hM ?_; intro b1 W' hb1 hM'; clear hM tk_b1; have hM := hM'; clear hM') | (have _t := tk_l1; refine wpList_lay rfl _ _ _ rfl _ _ rfl 2 (zFol) rfl hM 0 rfl (by assumption) rowFol (by omega) fol_one ?_; intro W' hM'; clear hM tk_l1; have hM := hM'.re 0 rfl (zFol) (lay_fol _ _ _); clear hM'; simp only [List.set] at hM) | (go_at_call 50; (with_reducible refine (codeOf_0 (HE.out.below hM.below)).mono ?_); rintro e W' ⟨rfl, rfl⟩))
    go_ret2
    exact GivesR.none hM.below (beh_code Hc.out (by decide)).2 (beh_code Hc.out (by decide)).1.symm
  · have Hc := Lib.hid hc
    have Hm := Lib.hid hm
    have Hd := Lib.hid hd
    clear hm hc hd
    have tk_b1 : True := trivial; have tk_l1 : True := trivial
    go_enter Tryd.func27, Tryd.ntmps27
    go_wp2_with (first | (go_at_call 49; (with_reducible refine (follow_1 b n c hs HF.out hn need _ _ (hM.ats 0 _ _ _ rfl) (HE.out.below hM.below) Hm.out Hd.out).mono ?_); rintro e W' ⟨rfl, hb'⟩; have hM' := hM.call hb'; clear hM hb'; have hM := hM'; clear hM') | (have _t := tk_b1; refine wpList_zero rfl _ rfl zeroFol hM ?_; intro b1 W' hb1 hM'; clear hM tk_b1; have hM := hM'; clear hM') | (have _t := tk_l1; refine wpList_lay rfl _ _ _ rfl _ _ rfl 2 (zFol) rfl hM 0 rfl (by assumption) rowFol (by omega) fol_one ?_; intro W' hM'; clear hM tk_l1; have hM := hM'.re 0 rfl (zFol) (lay_fol _ _ _); clear hM'; simp only [List.set] at hM) | (go_at_call 50; (with_reducible refine (codeOf_1 (HE.out.below hM.below)).mono ?_); rintro e W' ⟨rfl, rfl⟩))
    go_ret2
    exact GivesR.none hM.below (beh_code Hc.out (by decide)).2 (beh_code Hc.out (by decide)).1.symm
  · have Hc := Lib.hid hc
    have Hm := Lib.hid hm
    have Hd := Lib.hid hd
    have Hr := Lib.hid hr
    clear hm hc hd hr
    have tk_b1 : True := trivial; have tk_l1 : True := trivial
    go_enter Tryd.func27, Tryd.ntmps27
    go_wp2_with (first | (go_at_call 49; (with_reducible refine (follow_2 b n c bp p cp hs ys HF.out hn hp need _ (hM.ats 0 _ _ _ rfl) (hM.ats 1 _ _ _ rfl) (hM.apart 0 1 _ _ rfl rfl (by omega)) (HE.out.below hM.below) Hm.out Hd.out Hr.out).mono ?_); rintro e W' ⟨rfl, hb'⟩; have hM' := hM.call hb'; clear hM hb'; have hM := hM'; clear hM') | (have _t := tk_b1; refine wpList_zero rfl _ rfl zeroFol hM ?_; intro b1 W' hb1 hM'; clear hM tk_b1; have hM := hM'; clear hM') | (have _t := tk_l1; refine wpList_lay rfl _ _ _ rfl _ _ rfl 2 (zFol) rfl hM 0 rfl (by assumption) rowFol (by omega) fol_one ?_; intro W' hM'; clear hM tk_l1; have hM := hM'.re 0 rfl (zFol) (lay_fol _ _ _); clear hM'; simp only [List.set] at hM) | (go_at_call 50; (with_reducible refine (codeOf_1 (HE.out.below hM.below)).mono ?_); rintro e W' ⟨rfl, rfl⟩))
    go_ret2
    exact GivesR.none hM.below (beh_code Hc.out (by decide)).2 (beh_code Hc.out (by decide)).1.symm
  have Hc := Lib.hid hc
  have Hm := Lib.hid hm
  have Hd := Lib.hid hd
  have Hr := Lib.hid hr
  have hle := upM_le hs need ys p
  clear hc hm hd hr
  by_cases hu : upM hs need ys p = p
  all_goals
    have Hu := Lib.hid hu
    have HFo := Lib.hid (fun (W : World) (hB : At W b (n * 3) (sMeadow hs)) (hP : At W bp p (vInt64S ys)) (hE : Errs a W) => follow_ok b n c bp p cp hs ys Hm.out need W hB hP hne hE Hd.out Hr.out)
    generalize hU : upM hs need ys p = U at *
    generalize hS : stM hs need ys U = S at *
    have HSS := Lib.hid hS
    clear hS
    first | have dq : decide ((U : Int) = p) = true := decide_eq_true (by omega)
          | have dq : decide ((U : Int) = p) = false := decide_eq_false (by omega)
    first | have db : ((U : Int) == (p : Int)) = true := beq_iff_eq.2 (by omega)
          | have db : ((U : Int) == (p : Int)) = false := by rw [beq_eq_false_iff_ne]; omega
    first | have dl : decide ((U : Int) < p) = true := decide_eq_true (by omega)
          | have dl : decide ((U : Int) < p) = false := decide_eq_false (by omega)
    first | have dn : decide (U < p) = true := decide_eq_true (by omega)
          | have dn : decide (U < p) = false := decide_eq_false (by omega)
    first | have dm : U < p := by omega
          | have dm : ¬ U < p := by omega
    have HU := Lib.hid hU
    clear hu hU hle
    have tk_b1 : True := trivial; have tk_l1 : True := trivial
    go_enter Tryd.func27, Tryd.ntmps27
    go_wp2_with (first | (go_at_call 49; (with_reducible refine (HFo.out _ (hM.ats 0 _ _ _ rfl) (hM.ats 1 _ _ _ rfl) (HE.out.below hM.below)).mono ?_); rintro e W' ⟨bL, cL, FL, rfl, hbL, hcL, hFL, hAL, hbl⟩; have hbL2 := Nat.le_trans hM.size hbL; have hM' := hM.freshQ hbl hAL hbL; clear hM hbl hAL; have hM := hM'; clear hM'; have e1 : fol (.slice (some ⟨bL, 0, none⟩) n cL) (U : Int) 1 = .int .i64 (U : Int) := rfl; have e0 : fol (.slice (some ⟨bL, 0, none⟩) n cL) (U : Int) 0 = .slice (some ⟨bL, 0, none⟩) n cL := rfl) | (have _t := tk_b1; refine wpList_zero rfl _ rfl zeroFol hM ?_; intro b1 W' hb1 hM'; clear hM tk_b1; have hM := hM'; clear hM') | (have _t := tk_l1; refine wpList_lay rfl _ _ _ rfl _ _ rfl 2 (fol (.slice (some ⟨bL, 0, none⟩) n cL) (U : Int)) rfl hM 0 rfl (by assumption) rowFol (by omega) fol_one ?_; intro W' hM'; clear hM tk_l1; have hM := hM'.re 0 rfl (fol (.slice (some ⟨bL, 0, none⟩) n cL) (U : Int)) (lay_fol _ _ _); clear hM'; simp only [List.set] at hM) | (refine wpList_get1 rfl _ _ rfl _ _ rfl hM 0 rfl (cellTab _ rfl) (by omega) _ e1 ?_) | (refine wpList_get1 rfl _ _ rfl _ _ rfl hM 0 rfl meads_cell (by omega) _ e0 ?_))
    go_ret2
  · exact beh_give Hc.out (HU.out.trans Hu.out) hbL2 hcL (fun j hj => by rw [hFL j hj, HU.out, HSS.out]) (hM.ats 1 _ _ _ rfl) hM.below
  · exact GivesR.none hM.below (beh_no Hc.out (by rw [HU.out]; exact Hu.out)).2 (beh_no Hc.out (by rw [HU.out]; exact Hu.out)).1.symm
end Go.Proofs.YtbbododeglkghaaDoor
