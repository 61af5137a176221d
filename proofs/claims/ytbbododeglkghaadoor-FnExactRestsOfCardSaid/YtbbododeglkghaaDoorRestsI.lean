/-
  impl.RestsOf by contract.
-/
import Derived.Test.YtbbododeglkghaaDoorRests
import Derived.Test.YtbbododeglkghaaDoorIsJoin
namespace Go.Proofs.YtbbododeglkghaaDoor
open Go Go.RowKit Go.BigFrame

theorem ta_rr (w : World) : (Instr.typeAssert restV 82 85 true).run Tryd.prog w = .ok (.tuple #[.agg #[], .bool true]) w := by kernel_rfl
theorem ta_gr (n : Int) (w : World) : (Instr.typeAssert (grazeV n) 82 85 true).run Tryd.prog w = .ok (.tuple #[.agg #[], .bool false]) w := by kernel_rfl
theorem ta_gg (n : Int) (w : World) : (Instr.typeAssert (grazeV n) 82 86 true).run Tryd.prog w = .ok (.tuple #[.int .i64 n, .bool true]) w := by kernel_rfl
theorem checkPlan_6 {a : Nat → Addr} (bp p cp : Nat) (ys : Nat → Int) (hp : p ≤ 1048576) (w : World) (hP : At w bp p (vInt64S ys)) (hE : Errs a w) :
    Calls Tryd.prog 57 #[.slice (some ⟨bp, 0, none⟩) p cp, .int .i64 6] w fun e w' => e = .returned (errO (a 1) (!planB 6 p ys)) ∧ Below w.heap.size w w' :=
  checkPlan_any 6 bp p cp ys (by omega) hp w hP hE

/-- How many days there have been since the last one (or from the start on). -/
def sinceR (ys : Nat → Int) (m : Int) : Nat → Int
  | 0 => 0
  | i + 1 => if ys i = m then 0 else sinceR ys m i + 1
theorem sinceR_in (ys : Nat → Int) (m : Int) : ∀ i, 0 ≤ sinceR ys m i ∧ sinceR ys m i ≤ i
  | 0 => by simp [sinceR]
  | i + 1 => by
    have := sinceR_in ys m i
    simp only [sinceR]
    split <;> omega
theorem sinceR_last (ys : Nat → Int) (m : Int) : ∀ i, 0 ≤ lastR ys m i → sinceR ys m i = i - lastR ys m i - 1
  | 0, h => by simp [lastR] at h
  | i + 1, h => by
    by_cases e : ys i = m
    · simp only [sinceR, lastR, if_pos e]; omega
    · simp only [sinceR, lastR, if_neg e] at h ⊢
      have := sinceR_last ys m i h
      omega

set_option maxRecDepth 100000 in
set_option maxHeartbeats 8000000 in
theorem implRestsOf_l {a : Nat → Addr} (bp p cp : Nat) (ys : Nat → Int) (hp : p ≤ 1048576) (m : Int) (w : World) (hP : At w bp p (vInt64S ys)) (hE : Errs a w) :
    Calls Tryd.prog 32 #[.slice (some ⟨bp, 0, none⟩) p cp, .int .i64 m] w (GivesI64 (restL p ys m) (restC p ys m) w) := by
  have hM : Mem w [(bp, p, vInt64S ys)] w := (Mem.nil w).old hP (fun i p h => by simp at h)
  have HE := Lib.hid hE
  clear hP hE
  cases hr : restB p ys m
  · have hor : ((!planB 6 p ys) || (!inB 0 5 m)) = true := by unfold restB at hr; rw [← Bool.not_and, hr]; rfl
    have Hr := Lib.hid hr
    have Hc := Lib.hid (cnt2_yes hor)
    have Hl := Lib.hid (Nat.le_trans (cntE_le (es2 (!planB 6 p ys) (!inB 0 5 m)) 2) (show 2 ≤ 1000 by omega))
    have HC := Lib.hid (fun W hP hE => checkPlan_6 (a := a) bp p cp ys hp W hP hE)
    have HU := Lib.hid (fun W hE => checkUpTo_any (a := a) m 5 W hE)
    clear hor hr
    generalize (!planB 6 p ys) = q1 at *
    generalize (!inB 0 5 m) = q2 at *
    go_enter Tryd.func32, Tryd.ntmps32
    go_wp2_with (first | (go_at_call 57; (with_reducible refine (HC.out _ (hM.ats 0 _ _ _ rfl) (HE.out.below hM.below)).mono ?_); rintro e W' ⟨rfl, hb'⟩; have hM' := hM.call hb'; clear hM hb'; have hM := hM'; clear hM') | (go_at_call 54; (with_reducible refine (HU.out _ (HE.out.below hM.below)).mono ?_); rintro e W' ⟨rfl, hb'⟩; have hM' := hM.call hb'; clear hM hb'; have hM := hM'; clear hM') | (refine wpList_lit2 rfl _ _ _ _ rfl (errO (a 1) q1) (errO (a 1) q2) rfl rfl (errO_one _ _) (errO_one _ _) _ errs_under err_info2 hM ?_; intro bn W' hbn hM'; clear hM; have hM := hM'; clear hM') | (go_at_call 56; refine (join_some (a 1) (es2 q1 q2) _ 2 2 (by omega) Hc.out _ ((hM.ats 0 _ _ _ rfl).congr (lit2_errE _ _ _))).mono ?_; rintro e W' ⟨jb, rfl, hJ, hb'⟩; have hM' := hM.call hb'; clear hM hb'; have hM := hM'; clear hM') | (go_at_call 50; (refine (codeJ_1 jb _ Hc.out Hl.out (HE.out.below hM.below) hJ).mono ?_); rintro e W' ⟨rfl, rfl⟩))
    go_ret2
    exact givesI_none Hr.out hM.below
  have hab : planB 6 p ys = true ∧ inB 0 5 m = true := by unfold restB at hr; rwa [Bool.and_eq_true] at hr
  have hp30 := (planB_iff hab.1).1
  have HC := Lib.hid (fun W hP hE => (checkPlan_6 (a := a) bp p cp ys hp W hP hE).mono (fun e w' h => by rw [hab.1] at h; exact h))
  have HU := Lib.hid (fun W => checkUpTo_yes m 5 W hab.2)
  have Hr := Lib.hid hr
  clear hab hr
  go_enter Tryd.func32, Tryd.ntmps32
  go_wp2_with (first | (go_at_call 57; (with_reducible refine (HC.out _ (hM.ats 0 _ _ _ rfl) (HE.out.below hM.below)).mono ?_); rintro e W' ⟨rfl, hb'⟩; have hM' := hM.call hb'; clear hM hb'; have hM := hM'; clear hM') | (go_at_call 54; (with_reducible refine (HU.out _).mono ?_); rintro e W' ⟨rfl, hb'⟩; have hM' := hM.call hb'; clear hM hb'; have hM := hM'; clear hM') | (refine wpList_lit2 rfl _ _ _ _ rfl (errO (a 1) false) (errO (a 1) false) rfl rfl (errO_one _ _) (errO_one _ _) _ errs_under err_info2 hM ?_; intro bn W' hbn hM'; clear hM; have hM := hM'; clear hM') | (go_at_call 56; refine (join_none (a 1) (es2 false false) _ 2 2 (by omega) cnt2_no _ ((hM.ats 0 _ _ _ rfl).congr (lit2_errE _ _ _))).mono ?_; rintro e W' ⟨rfl, hb'⟩; have hM' := hM.call hb'; clear hM hb'; have hM := hM'.drop; clear hM'))
  go_loopw [7, 8, 9, 24] (fun v h r i wr => ∃ q : Nat, q ≤ p ∧ h = .bool (decide (0 ≤ lastR ys m q)) ∧ r = .int .i64 (sinceR ys m q) ∧ i = .int .i64 q ∧ Lst w [(bp, p, vInt64S ys)] 1 v (restR ys m q).length (vI (restR ys m q)) wr) (fun _ _ _ i _ => p - (intOf i).toNat)
  case atStart => exact ⟨0, by omega, rfl, rfl, rfl, .inl ⟨rfl, rfl, hM⟩⟩
  case round =>
    clear hM hp
    obtain ⟨q, hq, rfl, rfl, rfl, hL⟩ := hrel
    by_cases hlt : q < p
    · have l2 : (q : Int) < p := by omega
      have hli := lastR_in ys m q
      have hll := restR_len ys m q
      have hsi := sinceR_in ys m q
      have hsl := sinceR_last ys m q
      have eqc : wr.cell? ⟨bp, q, none⟩ = some (.int .i64 (ys q)) := (hL.mem.ats 0 _ _ _ rfl).cell (by omega)
      have t1 := ta_rr
      have t2 := ta_gr 0
      have t3 := ta_gg 0
      by_cases hm : m = ys q
      · have hm' := hm.symm
        have Hla : Hid (lastR ys m (q + 1) = q) := Lib.hid (by simp [lastR, hm'])
        have Hsi : Hid (sinceR ys m (q + 1) = 0) := Lib.hid (by simp [sinceR, hm'])
        have HD := Lib.hid (fun W => dayOf_same m (ys q) 0 hm W)
        have Hdn : Hid (decide (0 ≤ lastR ys m (q + 1)) = true) := Lib.hid (by rw [Hla.out]; exact decide_eq_true (by omega))
        by_cases h0 : 0 ≤ lastR ys m q
        · have Hre : Hid (restR ys m (q + 1) = restR ys m q ++ [sinceR ys m q]) := Lib.hid (by simp only [restR]; rw [if_pos ⟨hm', h0⟩, hsl h0])
          have d0 : decide (0 ≤ lastR ys m q) = true := decide_eq_true h0
          have hn : (restR ys m q).length ≤ 1048576 := by omega
          rw [d0]
          clear hm hm' h0 hli hll hsl hsi d0
          generalize sinceR ys m q = x at *
          generalize restR ys m q = rl at *
          have Hnew := Lib.hid (fun j (hj : j < 1) => vI_new rl x hj)
          rcases hL with ⟨rfl, hn0, hM⟩ | ⟨b, c, F, rfl, hbb, hnc, hF, hM⟩
          · have Hq : Hid (∀ j, j < 1 → (fun _ => Value.int .i64 x) j = vI (rl ++ [x]) j) := Lib.hid (fun j hj => by have := Hnew.out j hj; rwa [hn0, Nat.zero_mul, Nat.zero_add] at this)
            have e1 : vInt64S ys q = .int .i64 (ys q) := rfl
            clear eqc
            have tk_l1 : True := trivial; have tk_p1 : True := trivial
            go_wp2_with (first | (refine wpList_get1 rfl _ _ rfl _ _ rfl hM 0 rfl (cellTab _ rfl) (by omega) _ e1 ?_) | (go_at_call 58; (with_reducible refine (HD.out _).mono ?_); rintro e W' ⟨rfl, hb'⟩; have hM' := hM.call hb'; clear hM hb'; have hM := hM'; clear hM') | (have _t := tk_l1; refine wpList_lit1 rfl _ _ _ rfl (.int .i64 x) rfl rfl _ int64s_underR int64_infoR hM ?_; intro l1 W' hl1 hM'; clear hM tk_l1; have hM := hM'; clear hM') | (have _t := tk_p1; refine wpList_push0 rfl _ _ _ rfl _ 1 _ _ int64s_underR infoInt64S rfl (by omega) rfl _ _ rfl hM (vI (rl ++ [x])) Hq.out ?_; intro bL cL FL W' hbL hcL hFL hM'; clear hM tk_p1; have hM := hM'; clear hM'))
            go_roundw
            case rel => exact ⟨q + 1, by omega, congrArg Value.bool Hdn.out.symm, by rw [Hsi.out], by go_num, by
              rw [Hre.out, List.length_append, hn0]
              exact .inr ⟨bL, cL, FL, rfl, hbL, hcL, hFL, hM⟩⟩
            case measure => simp [intOf]; omega
          · have Hf : Hid (∀ j, j < rl.length * 1 → F j = vI (rl ++ [x]) j) := Lib.hid (fun j hj => by rw [hF j hj]; exact vI_old rl x hj)
            have e1 : vInt64S ys q = .int .i64 (ys q) := rfl
            clear hF eqc
            have tk_l1 : True := trivial; have tk_p1 : True := trivial
            go_wp2_with (first | (refine wpList_get1 rfl _ _ rfl _ _ rfl hM 1 rfl (cellTab _ rfl) (by omega) _ e1 ?_) | (go_at_call 58; (with_reducible refine (HD.out _).mono ?_); rintro e W' ⟨rfl, hb'⟩; have hM' := hM.call hb'; clear hM hb'; have hM := hM'; clear hM') | (have _t := tk_l1; refine wpList_lit1 rfl _ _ _ rfl (.int .i64 x) rfl rfl _ int64s_underR int64_infoR hM ?_; intro l1 W' hl1 hM'; clear hM tk_l1; have hM := hM'; clear hM') | (have _t := tk_p1; refine wpList_push1 rfl _ _ _ rfl _ 1 _ _ int64s_underR infoInt64S rfl (by omega) _ _ _ _ rfl hbb hnc hn _ _ rfl i64_one hM (vI (rl ++ [x])) Hf.out Hnew.out ?_; intro bL cL FL W' hbL hcL hFL hM'; clear hM tk_p1; have hM := hM'; clear hM'))
            go_roundw
            case rel => exact ⟨q + 1, by omega, congrArg Value.bool Hdn.out.symm, by rw [Hsi.out], by go_num, by
              rw [Hre.out, List.length_append]
              exact .inr ⟨bL, cL, FL, rfl, hbL, hcL, hFL, hM⟩⟩
            case measure => simp [intOf]; omega
        · have Hre : Hid (restR ys m (q + 1) = restR ys m q) := Lib.hid (by simp only [restR]; rw [if_neg (fun h => h0 h.2)])
          have d0 : decide (0 ≤ lastR ys m q) = false := decide_eq_false h0
          rw [d0]
          clear hm hm' h0 hli hsl d0
          rcases hL with ⟨rfl, hn0, hM⟩ | ⟨b, c, F, rfl, hbb, hnc, hF, hM⟩
          · have e1 : vInt64S ys q = .int .i64 (ys q) := rfl
            clear eqc
            go_wp2_with (first | (refine wpList_get1 rfl _ _ rfl _ _ rfl hM 0 rfl (cellTab _ rfl) (by omega) _ e1 ?_) | (go_at_call 58; (with_reducible refine (HD.out _).mono ?_); rintro e W' ⟨rfl, hb'⟩; have hM' := hM.call hb'; clear hM hb'; have hM := hM'; clear hM'))
            go_roundw
            case rel => exact ⟨q + 1, by omega, congrArg Value.bool Hdn.out.symm, by rw [Hsi.out], by go_num, by rw [Hre.out]; exact .inl ⟨rfl, hn0, hM⟩⟩
            case measure => simp [intOf]; omega
          · have e1 : vInt64S ys q = .int .i64 (ys q) := rfl
            clear eqc
            go_wp2_with (first | (refine wpList_get1 rfl _ _ rfl _ _ rfl hM 1 rfl (cellTab _ rfl) (by omega) _ e1 ?_) | (go_at_call 58; (with_reducible refine (HD.out _).mono ?_); rintro e W' ⟨rfl, hb'⟩; have hM' := hM.call hb'; clear hM hb'; have hM := hM'; clear hM'))
            go_roundw
            case rel => exact ⟨q + 1, by omega, congrArg Value.bool Hdn.out.symm, by rw [Hsi.out], by go_num, by rw [Hre.out]; exact .inr ⟨b, c, F, rfl, hbb, hnc, hF, hM⟩⟩
            case measure => simp [intOf]; omega
      · have hm' : ¬ ys q = m := fun h => hm h.symm
        have Hla : Hid (lastR ys m (q + 1) = lastR ys m q) := Lib.hid (by simp [lastR, hm'])
        have Hsi : Hid (sinceR ys m (q + 1) = sinceR ys m q + 1) := Lib.hid (by simp [sinceR, hm'])
        have Hre : Hid (restR ys m (q + 1) = restR ys m q) := Lib.hid (by simp only [restR]; rw [if_neg (fun h => hm' h.1)])
        have HD := Lib.hid (fun W => dayOf_other m (ys q) 0 hm W)
        have n1 : IntKind.i64.wrap (sinceR ys m q + 1) = sinceR ys m q + 1 := IntWalk.i64_in _ (by omega)
        clear hm hm' hli hsl
        rcases hL with ⟨rfl, hn0, hM⟩ | ⟨b, c, F, rfl, hbb, hnc, hF, hM⟩
        · have e1 : vInt64S ys q = .int .i64 (ys q) := rfl
          clear eqc
          go_wp2_with (first | (refine wpList_get1 rfl _ _ rfl _ _ rfl hM 0 rfl (cellTab _ rfl) (by omega) _ e1 ?_) | (go_at_call 58; (with_reducible refine (HD.out _).mono ?_); rintro e W' ⟨rfl, hb'⟩; have hM' := hM.call hb'; clear hM hb'; have hM := hM'; clear hM'))
          go_roundw
          case rel => exact ⟨q + 1, by omega, by rw [Hla.out], by rw [Hsi.out], by go_num, by rw [Hre.out]; exact .inl ⟨rfl, hn0, hM⟩⟩
          case measure => simp [intOf]; omega
        · have e1 : vInt64S ys q = .int .i64 (ys q) := rfl
          clear eqc
          go_wp2_with (first | (refine wpList_get1 rfl _ _ rfl _ _ rfl hM 1 rfl (cellTab _ rfl) (by omega) _ e1 ?_) | (go_at_call 58; (with_reducible refine (HD.out _).mono ?_); rintro e W' ⟨rfl, hb'⟩; have hM' := hM.call hb'; clear hM hb'; have hM := hM'; clear hM'))
          go_roundw
          case rel => exact ⟨q + 1, by omega, by rw [Hla.out], by rw [Hsi.out], by go_num, by rw [Hre.out]; exact .inr ⟨b, c, F, rfl, hbb, hnc, hF, hM⟩⟩
          case measure => simp [intOf]; omega
    · obtain rfl : q = p := by omega
      go_wp2
      go_ret2
      exact givesI_some Hr.out hL.only

theorem specRestsOf_any (bp p cp : Nat) (ys : Nat → Int) (hp : p ≤ 1048576) (m : Int) (w : World) (hP : At w bp p (vInt64S ys)) :
    Calls Tryd.prog 31 #[.slice (some ⟨bp, 0, none⟩) p cp, .int .i64 m] w (GivesR 1 (restL p ys m).length (vInt64S (numsF (restL p ys m))) (restC p ys m) w) := specRestsOf_l bp p cp ys hp m w hP
theorem implRestsOf_any {a : Nat → Addr} (bp p cp : Nat) (ys : Nat → Int) (hp : p ≤ 1048576) (m : Int) (w : World) (hP : At w bp p (vInt64S ys)) (hE : Errs a w) :
    Calls Tryd.prog 32 #[.slice (some ⟨bp, 0, none⟩) p cp, .int .i64 m] w (GivesR 1 (restL p ys m).length (vInt64S (numsF (restL p ys m))) (restC p ys m) w) := implRestsOf_l bp p cp ys hp m w hP hE
theorem restL_len (p : Nat) (ys : Nat → Int) (m : Int) : (restL p ys m).length ≤ p := by
  unfold restL
  split
  · exact restR_len ys m p
  · simp
end Go.Proofs.YtbbododeglkghaaDoor
