/-
  Several texts in one: GreedyPlan.
-/
import Derived.Test.YtbbododeglkghaaDoorP7
/-
  laws.FnExactGreedyPlan returns true.
-/
namespace Go.Proofs.YtbbododeglkghaaDoor
open Go Go.RowKit Go.BigFrame

set_option maxRecDepth 100000 in
set_option maxHeartbeats 4000000 in
theorem lawGreedyPlan_any {a : Nat → Addr} (v0 : Value) (n0 : Nat) (hs0 : Nat → Nat → Int) (hn0 : n0 ≤ maxLen) (hF0 : ∀ i, i < n0 → FitsMeadow (hs0 i))  (i1 : Int)  (i2 : Int) (w : World) (hE : Errs a w) (hG0 : MeadowArg w v0 n0 hs0) :
    Calls Tryd.prog 9 #[v0, .int .i64 i1, .int .i64 i2] w fun e w' => e = .returned (.bool true) ∧ Below w.heap.size w w' := by
  have hM := Mem.nil w
  have HE := Lib.hid hE
  have HG0 := Lib.hid hG0
  have Hn0 := Lib.hid hn0
  have HF0 := Lib.hid hF0
  clear hE hG0 hn0 hF0
  by_cases hO0 : 1048576 < n0
  · go_enter Tryd.func9, Tryd.ntmps9
    go_wp2_with (first | (go_at_call 13; (with_reducible refine (szMeadowS_no v0 n0 hs0 1048576 Hn0.out (by omega) (by omega) (by omega) _ (HG0.out.below hM.below)).mono ?_); rintro e W' ⟨rfl, hb'⟩; have hM' := hM.call hb'; clear hM hb'; have hM := hM'; clear hM'))
    go_ret
    exact ⟨rfl, hM.below⟩
  have e0 : decide ((1048576 : Int) - n0 < 0) = false := decide_eq_false (by omega)
  have f0 : decide ((1048576 : Int) < n0) = false := decide_eq_false (by omega)
  have hb0 : n0 ≤ 1048576 := by omega
  have hS := fun (B0 : Nat) (W : World) (hB0 : At W B0 (n0 * 3) (sMeadow hs0))  => specGreedyPlan_any B0 n0 n0 hs0 HF0.out hb0 i1 i2 W hB0
  have hI := fun (B0 : Nat) (W : World) (hB0 : At W B0 (n0 * 3) (sMeadow hs0))  (hE : Errs a W) => implGreedyPlan_any (a := a) B0 n0 n0 hs0 HF0.out hb0 i1 i2 W hB0 hE
  have hLen : (grdL n0 hs0 i1 i2).length ≤ 1048576 := grdL_len _ _ _ _
  generalize (grdL n0 hs0 i1 i2).length = LN at hS hI hLen
  generalize numsF (grdL n0 hs0 i1 i2) = HS0 at hS hI
  generalize grdC n0 hs0 i1 i2 = CC at hS hI
  have HS := Lib.hid hS
  have HI := Lib.hid hI
  have HLn := Lib.hid hLen
  clear hS hI hLen
  rcases Nat.eq_zero_or_pos LN with hn | hn
  · have Hn := Lib.hid hn
    clear hn
    obtain ⟨KK0, hK0⟩ : ∃ q : Nat, q = 1 + n0 * 3 := ⟨_, rfl⟩
    have hKb0 : KK0 ≤ 50000000 := by omega
    have hKd0 : decide ((KK0 : Int) < 0) = false := decide_eq_false (by omega)
    have hKn0 : ¬ (KK0 : Int) < 0 := by omega
    have HK0 := Lib.hid hK0
    clear hK0
    have tk_q1 : True := trivial; have tk_t2 : True := trivial; have tk_q3 : True := trivial; have tk_t4 : True := trivial; have tk_t5 : True := trivial; have tk_q6 : True := trivial; have tk_t7 : True := trivial; have tk_t8 : True := trivial; have tk_t9 : True := trivial; have tk_t10 : True := trivial; have tk_q11 : True := trivial; have tk_t12 : True := trivial; have tk_t13 : True := trivial; have tk_t14 : True := trivial
    go_enter Tryd.func9, Tryd.ntmps9
    go_wp2_with (first | (go_at_call 13; (with_reducible refine (szMeadowS_yes v0 n0 hs0 1048576 (by omega) (by omega) _ (HG0.out.below hM.below)).mono ?_); rintro e W' ⟨rfl, hb'⟩; have hM' := hM.call hb'; clear hM hb'; have hM := hM'; clear hM') | (have _t := tk_q1; go_at_call 15; (with_reducible refine (toMeadowS_any v0 n0 hs0 hb0 _ (HG0.out.below hM.below)).mono ?_); rintro e W' ⟨q1, rfl, hq1, hA', hcb⟩; have h2q1 := Nat.le_trans hM.size hq1; have hM' := hM.fresh' hcb hA' hq1; simp only [List.cons_append, List.nil_append] at hM'; clear hM hcb hA' tk_q1; have hM := hM'; clear hM') | (have _t := tk_t2; go_at_call 34; refine (HS.out _ _ (hM.ats 0 _ _ _ rfl)).mono ?_; rintro e W' ⟨vr, rfl, hL0⟩; obtain ⟨aA, cA, rfl, hbl⟩ := hL0.zero Hn.out; have hM' := hM.call hbl; clear hM hbl hL0; have hM := hM'; clear hM'; clear tk_t2) | (have _t := tk_q3; go_at_call 15; (with_reducible refine (toMeadowS_any v0 n0 hs0 hb0 _ (HG0.out.below hM.below)).mono ?_); rintro e W' ⟨q3, rfl, hq3, hA', hcb⟩; have h2q3 := Nat.le_trans hM.size hq3; have hM' := hM.fresh' hcb hA' hq3; simp only [List.cons_append, List.nil_append] at hM'; clear hM hcb hA' tk_q3; have hM := hM'; clear hM') | (have _t := tk_t4; go_at_call 35; refine (HI.out _ _ (hM.ats 1 _ _ _ rfl) (HE.out.below hM.below)).mono ?_; rintro e W' ⟨vr, rfl, hL0⟩; obtain ⟨aB, cB, rfl, hbl⟩ := hL0.zero Hn.out; have hM' := hM.call hbl; clear hM hbl hL0; have hM := hM'; clear hM'; clear tk_t4) | (have _t := tk_t5; (go_at_call 23; (with_reducible refine (eqInt64S_zero aB aA cB cA _).mono ?_); rintro e W' ⟨rfl, hb'⟩; have hM' := hM.call hb'; clear hM hb'; have hM := hM'; clear hM'); clear tk_t5) | (have _t := tk_q6; go_at_call 15; (with_reducible refine (toMeadowS_any v0 n0 hs0 hb0 _ (HG0.out.below hM.below)).mono ?_); rintro e W' ⟨q6, rfl, hq6, hA', hcb⟩; have h2q6 := Nat.le_trans hM.size hq6; have hM' := hM.fresh' hcb hA' hq6; simp only [List.cons_append, List.nil_append] at hM'; clear hM hcb hA' tk_q6; have hM := hM'; clear hM') | (go_at_call 17; (with_reducible refine (eqMeadowS_same _ _ n0 n0 n0 hs0 Hn0.out _ (hM.ats 1 _ _ _ rfl) (hM.ats 2 _ _ _ rfl) (hM.apart 1 2 _ _ rfl rfl (by omega))).mono ?_); rintro e W' ⟨rfl, hb'⟩; have hM' := hM.call hb'; clear hM hb'; have hM := hM'; clear hM') | (have _t := tk_t7; go_at_call 18; have hMf := hM.toFront 1 rfl; simp only [List.eraseIdx_cons_succ, List.eraseIdx_cons_zero] at hMf; refine (markMeadowS_list _ _ q3 n0 n0 (n0 * 3) 1 _ (by omega) hb0 (by omega) h2q3 _ hMf).mono ?_; clear hMf; rintro e W' ⟨rfl, G0, -, hM'⟩; rw [← HK0.out]; clear hM; have hM := hM'; clear hM'; clear tk_t7) | (have _t := tk_t8; (go_at_call 23; (with_reducible refine (eqInt64S_zero aB aA cB cA _).mono ?_); rintro e W' ⟨rfl, hb'⟩; have hM' := hM.call hb'; clear hM hb'; have hM := hM'; clear hM'); clear tk_t8) | (have _t := tk_t9; (go_at_call 28; (with_reducible refine (markInt64S_zero _ _ _ _).mono ?_); rintro e W' ⟨rfl, hb'⟩; have hM' := hM.call hb'; clear hM hb'; have hM := hM'; clear hM'); clear tk_t9) | (have _t := tk_t10; (go_at_call 33; (with_reducible refine (heldInt64S_zero _ _ _ _).mono ?_); rintro e W' ⟨rfl, hb'⟩; have hM' := hM.call hb'; clear hM hb'; have hM := hM'; clear hM'); clear tk_t10) | (have _t := tk_q11; go_at_call 15; (with_reducible refine (toMeadowS_any v0 n0 hs0 hb0 _ (HG0.out.below hM.below)).mono ?_); rintro e W' ⟨q11, rfl, hq11, hA', hcb⟩; have h2q11 := Nat.le_trans hM.size hq11; have hM' := hM.fresh' hcb hA' hq11; simp only [List.cons_append, List.nil_append] at hM'; clear hM hcb hA' tk_q11; have hM := hM'; clear hM') | (have _t := tk_t12; go_at_call 35; refine (HI.out _ _ (hM.ats 3 _ _ _ rfl) (HE.out.below hM.below)).mono ?_; rintro e W' ⟨vr, rfl, hL0⟩; obtain ⟨aC, cC, rfl, hbl⟩ := hL0.zero Hn.out; have hM' := hM.call hbl; clear hM hbl hL0; have hM := hM'; clear hM'; clear tk_t12) | (have _t := tk_t13; (go_at_call 23; (with_reducible refine (eqInt64S_zero aC aA cC cA _).mono ?_); rintro e W' ⟨rfl, hb'⟩; have hM' := hM.call hb'; clear hM hb'; have hM := hM'; clear hM'); clear tk_t13) | (have _t := tk_t14; (go_at_call 33; (with_reducible refine (heldInt64S_zero _ _ _ _).mono ?_); rintro e W' ⟨rfl, hb'⟩; have hM' := hM.call hb'; clear hM hb'; have hM := hM'; clear hM'); clear tk_t14))
    go_ret
    exact ⟨rfl, hM.below⟩
  have Hn := Lib.hid hn
  clear hn
  obtain ⟨KK0, hK0⟩ : ∃ q : Nat, q = 1 + n0 * 3 := ⟨_, rfl⟩
  have hKb0 : KK0 ≤ 50000000 := by omega
  have hKd0 : decide ((KK0 : Int) < 0) = false := decide_eq_false (by omega)
  have hKn0 : ¬ (KK0 : Int) < 0 := by omega
  have HK0 := Lib.hid hK0
  clear hK0
  obtain ⟨MM, hMM⟩ : ∃ q : Nat, q = 1 + LN := ⟨_, rfl⟩
  have hMd : decide ((MM : Int) < 0) = false := decide_eq_false (by omega)
  have hMn : ¬ (MM : Int) < 0 := by omega
  have HMM := Lib.hid hMM
  clear hMM
  have tk_q1 : True := trivial; have tk_t2 : True := trivial; have tk_q3 : True := trivial; have tk_t4 : True := trivial; have tk_t5 : True := trivial; have tk_q6 : True := trivial; have tk_t7 : True := trivial; have tk_t8 : True := trivial; have tk_t9 : True := trivial; have tk_t10 : True := trivial; have tk_q11 : True := trivial; have tk_t12 : True := trivial; have tk_t13 : True := trivial; have tk_t14 : True := trivial
  go_enter Tryd.func9, Tryd.ntmps9
  go_wp2_with (first | (go_at_call 13; (with_reducible refine (szMeadowS_yes v0 n0 hs0 1048576 (by omega) (by omega) _ (HG0.out.below hM.below)).mono ?_); rintro e W' ⟨rfl, hb'⟩; have hM' := hM.call hb'; clear hM hb'; have hM := hM'; clear hM') | (have _t := tk_q1; go_at_call 15; (with_reducible refine (toMeadowS_any v0 n0 hs0 hb0 _ (HG0.out.below hM.below)).mono ?_); rintro e W' ⟨q1, rfl, hq1, hA', hcb⟩; have h2q1 := Nat.le_trans hM.size hq1; have hM' := hM.fresh' hcb hA' hq1; simp only [List.cons_append, List.nil_append] at hM'; clear hM hcb hA' tk_q1; have hM := hM'; clear hM') | (have _t := tk_t2; go_at_call 34; refine (HS.out _ _ (hM.ats 0 _ _ _ rfl)).mono ?_; rintro e W' ⟨vr, rfl, hL0⟩; obtain ⟨bA, cA, NA, FA, rfl, hbA, hNA, hFA, hAA, hbl⟩ := hL0.some Hn.out; simp only [Nat.mul_one] at hNA hFA; have hb2A := Nat.le_trans hM.size hbA; have hM' := hM.freshQ hbl hAA hbA; clear hM hAA hbl hL0; have hM := hM'; clear hM'; clear tk_t2) | (have _t := tk_q3; go_at_call 15; (with_reducible refine (toMeadowS_any v0 n0 hs0 hb0 _ (HG0.out.below hM.below)).mono ?_); rintro e W' ⟨q3, rfl, hq3, hA', hcb⟩; have h2q3 := Nat.le_trans hM.size hq3; have hM' := hM.fresh' hcb hA' hq3; simp only [List.cons_append, List.nil_append] at hM'; clear hM hcb hA' tk_q3; have hM := hM'; clear hM') | (have _t := tk_t4; go_at_call 35; refine (HI.out _ _ (hM.ats 2 _ _ _ rfl) (HE.out.below hM.below)).mono ?_; rintro e W' ⟨vr, rfl, hL0⟩; obtain ⟨bB, cB, NB, FB, rfl, hbB, hNB, hFB, hAA, hbl⟩ := hL0.some Hn.out; simp only [Nat.mul_one] at hNB hFB; have hb2B := Nat.le_trans hM.size hbB; have hM' := hM.freshQ hbl hAA hbB; clear hM hAA hbl hL0; have hM := hM'; clear hM'; clear tk_t4) | (have _t := tk_t5; (go_at_call 23; (with_reducible refine (eqInt64S_list bB bA LN cB cA NB NA FB FA HS0 hFB hFA hNB hNA HLn.out _ (hM.ats 0 _ _ _ rfl) (hM.ats 1 _ _ _ rfl) (hM.apart 0 1 _ _ rfl rfl (by omega))).mono ?_); rintro e W' ⟨rfl, hb'⟩; have hM' := hM.call hb'; clear hM hb'; have hM := hM'; clear hM'); clear tk_t5) | (have _t := tk_q6; go_at_call 15; (with_reducible refine (toMeadowS_any v0 n0 hs0 hb0 _ (HG0.out.below hM.below)).mono ?_); rintro e W' ⟨q6, rfl, hq6, hA', hcb⟩; have h2q6 := Nat.le_trans hM.size hq6; have hM' := hM.fresh' hcb hA' hq6; simp only [List.cons_append, List.nil_append] at hM'; clear hM hcb hA' tk_q6; have hM := hM'; clear hM') | (go_at_call 17; (with_reducible refine (eqMeadowS_same _ _ n0 n0 n0 hs0 Hn0.out _ (hM.ats 3 _ _ _ rfl) (hM.ats 4 _ _ _ rfl) (hM.apart 3 4 _ _ rfl rfl (by omega))).mono ?_); rintro e W' ⟨rfl, hb'⟩; have hM' := hM.call hb'; clear hM hb'; have hM := hM'; clear hM') | (have _t := tk_t7; go_at_call 18; have hMf := hM.toFront 3 rfl; simp only [List.eraseIdx_cons_succ, List.eraseIdx_cons_zero] at hMf; refine (markMeadowS_list _ _ q3 n0 n0 (n0 * 3) 1 _ (by omega) hb0 (by omega) h2q3 _ hMf).mono ?_; clear hMf; rintro e W' ⟨rfl, G0, -, hM'⟩; rw [← HK0.out]; clear hM; have hM := hM'; clear hM'; clear tk_t7) | (have _t := tk_t8; (go_at_call 23; (with_reducible refine (eqInt64S_list bB bA LN cB cA NB NA FB FA HS0 hFB hFA hNB hNA HLn.out _ (hM.ats 1 _ _ _ rfl) (hM.ats 2 _ _ _ rfl) (hM.apart 1 2 _ _ rfl rfl (by omega))).mono ?_); rintro e W' ⟨rfl, hb'⟩; have hM' := hM.call hb'; clear hM hb'; have hM := hM'; clear hM'); clear tk_t8) | (have _t := tk_t9; go_at_call 28; have hMf := hM.toFront 1 rfl; simp only [List.eraseIdx_cons_succ, List.eraseIdx_cons_zero] at hMf; refine (markInt64S_list _ _ bB LN cB NB 1 FB hNB HLn.out (by omega) hb2B _ hMf).mono ?_; clear hMf; rintro e W' ⟨rfl, GB, hGB, hM'⟩; rw [← HMM.out]; clear hM; have hM := hM'; clear hM'; clear tk_t9) | (have _t := tk_t10; go_at_call 33; refine (heldInt64S_list bB LN cB NB 1 GB hNB HLn.out (by omega) hGB _ (hM.ats 0 _ _ _ rfl)).mono ?_; rintro e W' ⟨rfl, hb'⟩; rw [← HMM.out]; have hM' := hM.call hb'; clear hM hb'; have hM := hM'; clear hM'; clear tk_t10) | (have _t := tk_q11; go_at_call 15; (with_reducible refine (toMeadowS_any v0 n0 hs0 hb0 _ (HG0.out.below hM.below)).mono ?_); rintro e W' ⟨q11, rfl, hq11, hA', hcb⟩; have h2q11 := Nat.le_trans hM.size hq11; have hM' := hM.fresh' hcb hA' hq11; simp only [List.cons_append, List.nil_append] at hM'; clear hM hcb hA' tk_q11; have hM := hM'; clear hM') | (have _t := tk_t12; go_at_call 35; refine (HI.out _ _ (hM.ats 5 _ _ _ rfl) (HE.out.below hM.below)).mono ?_; rintro e W' ⟨vr, rfl, hL0⟩; obtain ⟨bC, cC, NC, FC, rfl, hbC, hNC, hFC, hAA, hbl⟩ := hL0.some Hn.out; simp only [Nat.mul_one] at hNC hFC; have hb2C := Nat.le_trans hM.size hbC; have hM' := hM.freshQ hbl hAA hbC; clear hM hAA hbl hL0; have hM := hM'; clear hM'; clear tk_t12) | (have _t := tk_t13; (go_at_call 23; (with_reducible refine (eqInt64S_list bC bA LN cC cA NC NA FC FA HS0 hFC hFA hNC hNA HLn.out _ (hM.ats 0 _ _ _ rfl) (hM.ats 3 _ _ _ rfl) (hM.apart 0 3 _ _ rfl rfl (by omega))).mono ?_); rintro e W' ⟨rfl, hb'⟩; have hM' := hM.call hb'; clear hM hb'; have hM := hM'; clear hM'); clear tk_t13) | (have _t := tk_t14; go_at_call 33; refine (heldInt64S_list bB LN cB NB 1 GB hNB HLn.out (by omega) hGB _ (hM.ats 1 _ _ _ rfl)).mono ?_; rintro e W' ⟨rfl, hb'⟩; rw [← HMM.out]; have hM' := hM.call hb'; clear hM hb'; have hM := hM'; clear hM'; clear tk_t14))
  go_ret
  exact ⟨rfl, hM.below⟩
end Go.Proofs.YtbbododeglkghaaDoor

