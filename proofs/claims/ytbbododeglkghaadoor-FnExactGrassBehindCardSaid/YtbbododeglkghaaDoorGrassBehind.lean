/-
  laws.FnExactGrassBehind returns true.
-/
import Derived.Test.YtbbododeglkghaaDoorGrassBehindC
import Derived.Test.YtbbododeglkghaaDoorMeadowL
import Derived.Test.YtbbododeglkghaaDoorInt64L
namespace Go.Proofs.YtbbododeglkghaaDoor
open Go Go.RowKit Go.BigFrame

set_option maxRecDepth 100000 in
set_option maxHeartbeats 4000000 in
theorem lawGrassBehind_any {a : Nat → Addr} (v0 : Value) (n0 : Nat) (hs0 : Nat → Nat → Int) (hn0 : n0 ≤ maxLen) (hF0 : ∀ i, i < n0 → FitsMeadow (hs0 i))  (i1 : Int)  (v2 : Value) (n2 : Nat) (hs2 : Nat → Int) (hn2 : n2 ≤ maxLen) (w : World) (hE : Errs a w) (hG0 : MeadowArg w v0 n0 hs0) (hG2 : Arg1 w v2 n2 (vInt64S hs2)) :
    Calls Tryd.prog 6 #[v0, .int .i64 i1, v2] w fun e w' => e = .returned (.bool true) ∧ Below w.heap.size w w' := by
  have hM := Mem.nil w
  have HE := Lib.hid hE
  obtain ⟨a2, c2, hv2⟩ : ∃ a c, v2 = .slice a n2 c := by
    rcases hG2 with ⟨h1, h2⟩ | ⟨b, o, c, h, _⟩
    · exact ⟨none, 0, by rw [h2, h1]⟩
    · exact ⟨_, c, h⟩
  subst hv2
  have HG0 := Lib.hid hG0
  have Hn0 := Lib.hid hn0
  have HF0 := Lib.hid hF0
  have HG2 := Lib.hid hG2
  have Hn2 := Lib.hid hn2
  clear hE hG0 hn0 hF0 hG2 hn2
  by_cases hI2 : 1048576 < n2
  · have d2 : decide ((1048576 : Int) < n2) = true := decide_eq_true (by omega)
    go_enter Tryd.func6, Tryd.ntmps6
    go_wp2
    go_ret
    exact ⟨rfl, hM.below⟩
  have d2 : decide ((1048576 : Int) < n2) = false := decide_eq_false (by omega)
  have hb2 : n2 ≤ 1048576 := by omega
  by_cases hO0 : 1048576 < n0
  · go_enter Tryd.func6, Tryd.ntmps6
    go_wp2_with (first | (go_at_call 13; (with_reducible refine (szMeadowS_no v0 n0 hs0 1048576 Hn0.out (by omega) (by omega) (by omega) _ (HG0.out.below hM.below)).mono ?_); rintro e W' ⟨rfl, hb'⟩; have hM' := hM.call hb'; clear hM hb'; have hM := hM'; clear hM'))
    go_ret
    exact ⟨rfl, hM.below⟩
  have e0 : decide ((1048576 : Int) - n0 < 0) = false := decide_eq_false (by omega)
  have f0 : decide ((1048576 : Int) < n0) = false := decide_eq_false (by omega)
  have hb0 : n0 ≤ 1048576 := by omega
  have hS := fun (B0 : Nat) (B2 : Nat) (W : World) (hB0 : At W B0 (n0 * 3) (sMeadow hs0)) (hB2 : At W B2 (n2) (vInt64S hs2)) (hne02 : B0 ≠ B2) => specGrassBehind_any B0 n0 n0 B2 n2 n2 hs0 hs2 HF0.out hb0 hb2 i1 W hB0 hB2 hne02
  have hI := fun (B0 : Nat) (B2 : Nat) (W : World) (hB0 : At W B0 (n0 * 3) (sMeadow hs0)) (hB2 : At W B2 (n2) (vInt64S hs2)) (hne02 : B0 ≠ B2) (hE : Errs a W) => implGrassBehind_any (a := a) B0 n0 n0 B2 n2 n2 hs0 hs2 HF0.out hb0 hb2 i1 W hB0 hB2 hne02 hE
  have hLen : behN n0 n2 hs0 hs2 i1 ≤ 1048576 := by unfold behN; split <;> omega
  generalize behN n0 n2 hs0 hs2 i1 = LN at hS hI hLen
  generalize behV n2 hs0 hs2 i1 = HS0 at hS hI
  generalize behC n0 n2 hs0 hs2 i1 = CC at hS hI
  have HS := Lib.hid hS
  have HI := Lib.hid hI
  have HLn := Lib.hid hLen
  clear hS hI hLen
  rcases Nat.eq_zero_or_pos LN with hn | hn
  · have Hn := Lib.hid hn
    clear hn
    obtain ⟨KK0, hK0⟩ : ∃ q : Nat, q = 1 + n0 * 3 := ⟨_, rfl⟩
    have hKb0 : KK0 ≤ 50000000 := by omega
    have hKd0 : decide ((KK0 : Int) < 0) = false := decide_eq_false (by omega)
    have hKn0 : ¬ (KK0 : Int) < 0 := by omega
    obtain ⟨KK2, hK2⟩ : ∃ q : Nat, q = KK0 + n2 := ⟨_, rfl⟩
    have hKb2 : KK2 ≤ 50000000 := by omega
    have hKd2 : decide ((KK2 : Int) < 0) = false := decide_eq_false (by omega)
    have hKn2 : ¬ (KK2 : Int) < 0 := by omega
    have HK0 := Lib.hid hK0
    have HK2 := Lib.hid hK2
    clear hK0
    clear hK2
    have tk_q1 : True := trivial; have tk_q2 : True := trivial; have tk_t3 : True := trivial; have tk_q4 : True := trivial; have tk_q5 : True := trivial; have tk_t6 : True := trivial; have tk_t7 : True := trivial; have tk_q8 : True := trivial; have tk_q9 : True := trivial; have tk_t10 : True := trivial; have tk_t11 : True := trivial; have tk_t12 : True := trivial; have tk_t13 : True := trivial; have tk_t14 : True := trivial; have tk_q15 : True := trivial; have tk_q16 : True := trivial; have tk_t17 : True := trivial; have tk_t18 : True := trivial; have tk_t19 : True := trivial
    go_enter Tryd.func6, Tryd.ntmps6
    go_wp2_with (first | (go_at_call 13; (with_reducible refine (szMeadowS_yes v0 n0 hs0 1048576 (by omega) (by omega) _ (HG0.out.below hM.below)).mono ?_); rintro e W' ⟨rfl, hb'⟩; have hM' := hM.call hb'; clear hM hb'; have hM := hM'; clear hM') | (have _t := tk_q1; go_at_call 15; (with_reducible refine (toMeadowS_any v0 n0 hs0 hb0 _ (HG0.out.below hM.below)).mono ?_); rintro e W' ⟨q1, rfl, hq1, hA', hcb⟩; have h2q1 := Nat.le_trans hM.size hq1; have hM' := hM.fresh' hcb hA' hq1; simp only [List.cons_append, List.nil_append] at hM'; clear hM hcb hA' tk_q1; have hM := hM'; clear hM') | (have _t := tk_q2; go_at_call 21; (with_reducible refine (toInt64S_any (.slice a2 n2 c2) n2 hs2 hb2 _ (HG2.out.below hM.below)).mono ?_); rintro e W' ⟨q2, rfl, hq2, hA', hcb⟩; have h2q2 := Nat.le_trans hM.size hq2; have hM' := hM.fresh' hcb hA' hq2; simp only [List.cons_append, List.nil_append] at hM'; clear hM hcb hA' tk_q2; have hM := hM'; clear hM') | (have _t := tk_t3; go_at_call 26; refine (HS.out _ _ _ (hM.ats 0 _ _ _ rfl) (hM.ats 1 _ _ _ rfl) (hM.apart 0 1 _ _ rfl rfl (by omega))).mono ?_; rintro e W' ⟨v0, rfl, hL0⟩; obtain ⟨aA, cA, rfl, hbl⟩ := hL0.zero Hn.out; have hM' := hM.call hbl; clear hM hbl hL0; have hM := hM'; clear hM'; clear tk_t3) | (have _t := tk_q4; go_at_call 15; (with_reducible refine (toMeadowS_any v0 n0 hs0 hb0 _ (HG0.out.below hM.below)).mono ?_); rintro e W' ⟨q4, rfl, hq4, hA', hcb⟩; have h2q4 := Nat.le_trans hM.size hq4; have hM' := hM.fresh' hcb hA' hq4; simp only [List.cons_append, List.nil_append] at hM'; clear hM hcb hA' tk_q4; have hM := hM'; clear hM') | (have _t := tk_q5; go_at_call 21; (with_reducible refine (toInt64S_any (.slice a2 n2 c2) n2 hs2 hb2 _ (HG2.out.below hM.below)).mono ?_); rintro e W' ⟨q5, rfl, hq5, hA', hcb⟩; have h2q5 := Nat.le_trans hM.size hq5; have hM' := hM.fresh' hcb hA' hq5; simp only [List.cons_append, List.nil_append] at hM'; clear hM hcb hA' tk_q5; have hM := hM'; clear hM') | (have _t := tk_t6; go_at_call 27; refine (HI.out _ _ _ (hM.ats 2 _ _ _ rfl) (hM.ats 3 _ _ _ rfl) (hM.apart 2 3 _ _ rfl rfl (by omega)) (HE.out.below hM.below)).mono ?_; rintro e W' ⟨v0, rfl, hL0⟩; obtain ⟨aB, cB, rfl, hbl⟩ := hL0.zero Hn.out; have hM' := hM.call hbl; clear hM hbl hL0; have hM := hM'; clear hM'; clear tk_t6) | (have _t := tk_t7; (go_at_call 17; (with_reducible refine (eqMeadowS_zero aB aA cB cA _).mono ?_); rintro e W' ⟨rfl, hb'⟩; have hM' := hM.call hb'; clear hM hb'; have hM := hM'; clear hM'); clear tk_t7) | (have _t := tk_q8; go_at_call 15; (with_reducible refine (toMeadowS_any v0 n0 hs0 hb0 _ (HG0.out.below hM.below)).mono ?_); rintro e W' ⟨q8, rfl, hq8, hA', hcb⟩; have h2q8 := Nat.le_trans hM.size hq8; have hM' := hM.fresh' hcb hA' hq8; simp only [List.cons_append, List.nil_append] at hM'; clear hM hcb hA' tk_q8; have hM := hM'; clear hM') | (go_at_call 17; (with_reducible refine (eqMeadowS_same _ _ n0 n0 n0 hs0 Hn0.out _ (hM.ats 2 _ _ _ rfl) (hM.ats 4 _ _ _ rfl) (hM.apart 2 4 _ _ rfl rfl (by omega))).mono ?_); rintro e W' ⟨rfl, hb'⟩; have hM' := hM.call hb'; clear hM hb'; have hM := hM'; clear hM') | (have _t := tk_q9; go_at_call 21; (with_reducible refine (toInt64S_any (.slice a2 n2 c2) n2 hs2 hb2 _ (HG2.out.below hM.below)).mono ?_); rintro e W' ⟨q9, rfl, hq9, hA', hcb⟩; have h2q9 := Nat.le_trans hM.size hq9; have hM' := hM.fresh' hcb hA' hq9; simp only [List.cons_append, List.nil_append] at hM'; clear hM hcb hA' tk_q9; have hM := hM'; clear hM') | (go_at_call 23; (with_reducible refine (eqInt64S_same _ _ n2 n2 n2 hs2 Hn2.out _ (hM.ats 3 _ _ _ rfl) (hM.ats 5 _ _ _ rfl) (hM.apart 3 5 _ _ rfl rfl (by omega))).mono ?_); rintro e W' ⟨rfl, hb'⟩; have hM' := hM.call hb'; clear hM hb'; have hM := hM'; clear hM') | (have _t := tk_t10; go_at_call 18; have hMf := hM.toFront 2 rfl; simp only [List.eraseIdx_cons_succ, List.eraseIdx_cons_zero] at hMf; refine (markMeadowS_list _ _ q4 n0 n0 (n0 * 3) 1 _ (by omega) hb0 (by omega) h2q4 _ hMf).mono ?_; clear hMf; rintro e W' ⟨rfl, G0, -, hM'⟩; rw [← HK0.out]; clear hM; have hM := hM'; clear hM'; clear tk_t10) | (have _t := tk_t11; go_at_call 28; have hMf := hM.toFront 3 rfl; simp only [List.eraseIdx_cons_succ, List.eraseIdx_cons_zero] at hMf; refine (markInt64S_list _ _ q5 n2 n2 (n2) KK0 _ (by omega) hb2 (by omega) h2q5 _ hMf).mono ?_; clear hMf; rintro e W' ⟨rfl, G2, -, hM'⟩; rw [← HK2.out]; clear hM; have hM := hM'; clear hM'; clear tk_t11) | (have _t := tk_t12; (go_at_call 17; (with_reducible refine (eqMeadowS_zero aB aA cB cA _).mono ?_); rintro e W' ⟨rfl, hb'⟩; have hM' := hM.call hb'; clear hM hb'; have hM := hM'; clear hM'); clear tk_t12) | (have _t := tk_t13; (go_at_call 18; (with_reducible refine (markMeadowS_zero _ _ _ _).mono ?_); rintro e W' ⟨rfl, hb'⟩; have hM' := hM.call hb'; clear hM hb'; have hM := hM'; clear hM'); clear tk_t13) | (have _t := tk_t14; (go_at_call 19; (with_reducible refine (heldMeadowS_zero _ _ _ _).mono ?_); rintro e W' ⟨rfl, hb'⟩; have hM' := hM.call hb'; clear hM hb'; have hM := hM'; clear hM'); clear tk_t14) | (have _t := tk_q15; go_at_call 15; (with_reducible refine (toMeadowS_any v0 n0 hs0 hb0 _ (HG0.out.below hM.below)).mono ?_); rintro e W' ⟨q15, rfl, hq15, hA', hcb⟩; have h2q15 := Nat.le_trans hM.size hq15; have hM' := hM.fresh' hcb hA' hq15; simp only [List.cons_append, List.nil_append] at hM'; clear hM hcb hA' tk_q15; have hM := hM'; clear hM') | (have _t := tk_q16; go_at_call 21; (with_reducible refine (toInt64S_any (.slice a2 n2 c2) n2 hs2 hb2 _ (HG2.out.below hM.below)).mono ?_); rintro e W' ⟨q16, rfl, hq16, hA', hcb⟩; have h2q16 := Nat.le_trans hM.size hq16; have hM' := hM.fresh' hcb hA' hq16; simp only [List.cons_append, List.nil_append] at hM'; clear hM hcb hA' tk_q16; have hM := hM'; clear hM') | (have _t := tk_t17; go_at_call 27; refine (HI.out _ _ _ (hM.ats 6 _ _ _ rfl) (hM.ats 7 _ _ _ rfl) (hM.apart 6 7 _ _ rfl rfl (by omega)) (HE.out.below hM.below)).mono ?_; rintro e W' ⟨v0, rfl, hL0⟩; obtain ⟨aC, cC, rfl, hbl⟩ := hL0.zero Hn.out; have hM' := hM.call hbl; clear hM hbl hL0; have hM := hM'; clear hM'; clear tk_t17) | (have _t := tk_t18; (go_at_call 17; (with_reducible refine (eqMeadowS_zero aC aA cC cA _).mono ?_); rintro e W' ⟨rfl, hb'⟩; have hM' := hM.call hb'; clear hM hb'; have hM := hM'; clear hM'); clear tk_t18) | (have _t := tk_t19; (go_at_call 19; (with_reducible refine (heldMeadowS_zero _ _ _ _).mono ?_); rintro e W' ⟨rfl, hb'⟩; have hM' := hM.call hb'; clear hM hb'; have hM := hM'; clear hM'); clear tk_t19))
    go_ret
    exact ⟨rfl, hM.below⟩
  have Hn := Lib.hid hn
  clear hn
  obtain ⟨KK0, hK0⟩ : ∃ q : Nat, q = 1 + n0 * 3 := ⟨_, rfl⟩
  have hKb0 : KK0 ≤ 50000000 := by omega
  have hKd0 : decide ((KK0 : Int) < 0) = false := decide_eq_false (by omega)
  have hKn0 : ¬ (KK0 : Int) < 0 := by omega
  obtain ⟨KK2, hK2⟩ : ∃ q : Nat, q = KK0 + n2 := ⟨_, rfl⟩
  have hKb2 : KK2 ≤ 50000000 := by omega
  have hKd2 : decide ((KK2 : Int) < 0) = false := decide_eq_false (by omega)
  have hKn2 : ¬ (KK2 : Int) < 0 := by omega
  have HK0 := Lib.hid hK0
  have HK2 := Lib.hid hK2
  clear hK0
  clear hK2
  obtain ⟨MM, hMM⟩ : ∃ q : Nat, q = 1 + LN * 3 := ⟨_, rfl⟩
  have hMd : decide ((MM : Int) < 0) = false := decide_eq_false (by omega)
  have hMn : ¬ (MM : Int) < 0 := by omega
  have HMM := Lib.hid hMM
  clear hMM
  have tk_q1 : True := trivial; have tk_q2 : True := trivial; have tk_t3 : True := trivial; have tk_q4 : True := trivial; have tk_q5 : True := trivial; have tk_t6 : True := trivial; have tk_t7 : True := trivial; have tk_q8 : True := trivial; have tk_q9 : True := trivial; have tk_t10 : True := trivial; have tk_t11 : True := trivial; have tk_t12 : True := trivial; have tk_t13 : True := trivial; have tk_t14 : True := trivial; have tk_q15 : True := trivial; have tk_q16 : True := trivial; have tk_t17 : True := trivial; have tk_t18 : True := trivial; have tk_t19 : True := trivial
  go_enter Tryd.func6, Tryd.ntmps6
  go_wp2_with (first | (go_at_call 13; (with_reducible refine (szMeadowS_yes v0 n0 hs0 1048576 (by omega) (by omega) _ (HG0.out.below hM.below)).mono ?_); rintro e W' ⟨rfl, hb'⟩; have hM' := hM.call hb'; clear hM hb'; have hM := hM'; clear hM') | (have _t := tk_q1; go_at_call 15; (with_reducible refine (toMeadowS_any v0 n0 hs0 hb0 _ (HG0.out.below hM.below)).mono ?_); rintro e W' ⟨q1, rfl, hq1, hA', hcb⟩; have h2q1 := Nat.le_trans hM.size hq1; have hM' := hM.fresh' hcb hA' hq1; simp only [List.cons_append, List.nil_append] at hM'; clear hM hcb hA' tk_q1; have hM := hM'; clear hM') | (have _t := tk_q2; go_at_call 21; (with_reducible refine (toInt64S_any (.slice a2 n2 c2) n2 hs2 hb2 _ (HG2.out.below hM.below)).mono ?_); rintro e W' ⟨q2, rfl, hq2, hA', hcb⟩; have h2q2 := Nat.le_trans hM.size hq2; have hM' := hM.fresh' hcb hA' hq2; simp only [List.cons_append, List.nil_append] at hM'; clear hM hcb hA' tk_q2; have hM := hM'; clear hM') | (have _t := tk_t3; go_at_call 26; refine (HS.out _ _ _ (hM.ats 0 _ _ _ rfl) (hM.ats 1 _ _ _ rfl) (hM.apart 0 1 _ _ rfl rfl (by omega))).mono ?_; rintro e W' ⟨v0, rfl, hL0⟩; obtain ⟨bA, cA, NA, FA, rfl, hbA, hNA, hFA, hAA, hbl⟩ := hL0.some Hn.out; have hb2A := Nat.le_trans hM.size hbA; have hM' := hM.freshQ hbl hAA hbA; clear hM hAA hbl hL0; have hM := hM'; clear hM'; clear tk_t3) | (have _t := tk_q4; go_at_call 15; (with_reducible refine (toMeadowS_any v0 n0 hs0 hb0 _ (HG0.out.below hM.below)).mono ?_); rintro e W' ⟨q4, rfl, hq4, hA', hcb⟩; have h2q4 := Nat.le_trans hM.size hq4; have hM' := hM.fresh' hcb hA' hq4; simp only [List.cons_append, List.nil_append] at hM'; clear hM hcb hA' tk_q4; have hM := hM'; clear hM') | (have _t := tk_q5; go_at_call 21; (with_reducible refine (toInt64S_any (.slice a2 n2 c2) n2 hs2 hb2 _ (HG2.out.below hM.below)).mono ?_); rintro e W' ⟨q5, rfl, hq5, hA', hcb⟩; have h2q5 := Nat.le_trans hM.size hq5; have hM' := hM.fresh' hcb hA' hq5; simp only [List.cons_append, List.nil_append] at hM'; clear hM hcb hA' tk_q5; have hM := hM'; clear hM') | (have _t := tk_t6; go_at_call 27; refine (HI.out _ _ _ (hM.ats 3 _ _ _ rfl) (hM.ats 4 _ _ _ rfl) (hM.apart 3 4 _ _ rfl rfl (by omega)) (HE.out.below hM.below)).mono ?_; rintro e W' ⟨v0, rfl, hL0⟩; obtain ⟨bB, cB, NB, FB, rfl, hbB, hNB, hFB, hAA, hbl⟩ := hL0.some Hn.out; have hb2B := Nat.le_trans hM.size hbB; have hM' := hM.freshQ hbl hAA hbB; clear hM hAA hbl hL0; have hM := hM'; clear hM'; clear tk_t6) | (have _t := tk_t7; (go_at_call 17; (with_reducible refine (eqMeadowS_list bB bA LN cB cA NB NA FB FA HS0 hFB hFA hNB hNA HLn.out _ (hM.ats 0 _ _ _ rfl) (hM.ats 1 _ _ _ rfl) (hM.apart 0 1 _ _ rfl rfl (by omega))).mono ?_); rintro e W' ⟨rfl, hb'⟩; have hM' := hM.call hb'; clear hM hb'; have hM := hM'; clear hM'); clear tk_t7) | (have _t := tk_q8; go_at_call 15; (with_reducible refine (toMeadowS_any v0 n0 hs0 hb0 _ (HG0.out.below hM.below)).mono ?_); rintro e W' ⟨q8, rfl, hq8, hA', hcb⟩; have h2q8 := Nat.le_trans hM.size hq8; have hM' := hM.fresh' hcb hA' hq8; simp only [List.cons_append, List.nil_append] at hM'; clear hM hcb hA' tk_q8; have hM := hM'; clear hM') | (go_at_call 17; (with_reducible refine (eqMeadowS_same _ _ n0 n0 n0 hs0 Hn0.out _ (hM.ats 4 _ _ _ rfl) (hM.ats 6 _ _ _ rfl) (hM.apart 4 6 _ _ rfl rfl (by omega))).mono ?_); rintro e W' ⟨rfl, hb'⟩; have hM' := hM.call hb'; clear hM hb'; have hM := hM'; clear hM') | (have _t := tk_q9; go_at_call 21; (with_reducible refine (toInt64S_any (.slice a2 n2 c2) n2 hs2 hb2 _ (HG2.out.below hM.below)).mono ?_); rintro e W' ⟨q9, rfl, hq9, hA', hcb⟩; have h2q9 := Nat.le_trans hM.size hq9; have hM' := hM.fresh' hcb hA' hq9; simp only [List.cons_append, List.nil_append] at hM'; clear hM hcb hA' tk_q9; have hM := hM'; clear hM') | (go_at_call 23; (with_reducible refine (eqInt64S_same _ _ n2 n2 n2 hs2 Hn2.out _ (hM.ats 5 _ _ _ rfl) (hM.ats 7 _ _ _ rfl) (hM.apart 5 7 _ _ rfl rfl (by omega))).mono ?_); rintro e W' ⟨rfl, hb'⟩; have hM' := hM.call hb'; clear hM hb'; have hM := hM'; clear hM') | (have _t := tk_t10; go_at_call 18; have hMf := hM.toFront 4 rfl; simp only [List.eraseIdx_cons_succ, List.eraseIdx_cons_zero] at hMf; refine (markMeadowS_list _ _ q4 n0 n0 (n0 * 3) 1 _ (by omega) hb0 (by omega) h2q4 _ hMf).mono ?_; clear hMf; rintro e W' ⟨rfl, G0, -, hM'⟩; rw [← HK0.out]; clear hM; have hM := hM'; clear hM'; clear tk_t10) | (have _t := tk_t11; go_at_call 28; have hMf := hM.toFront 5 rfl; simp only [List.eraseIdx_cons_succ, List.eraseIdx_cons_zero] at hMf; refine (markInt64S_list _ _ q5 n2 n2 (n2) KK0 _ (by omega) hb2 (by omega) h2q5 _ hMf).mono ?_; clear hMf; rintro e W' ⟨rfl, G2, -, hM'⟩; rw [← HK2.out]; clear hM; have hM := hM'; clear hM'; clear tk_t11) | (have _t := tk_t12; (go_at_call 17; (with_reducible refine (eqMeadowS_list bB bA LN cB cA NB NA FB FA HS0 hFB hFA hNB hNA HLn.out _ (hM.ats 2 _ _ _ rfl) (hM.ats 3 _ _ _ rfl) (hM.apart 2 3 _ _ rfl rfl (by omega))).mono ?_); rintro e W' ⟨rfl, hb'⟩; have hM' := hM.call hb'; clear hM hb'; have hM := hM'; clear hM'); clear tk_t12) | (have _t := tk_t13; go_at_call 18; have hMf := hM.toFront 2 rfl; simp only [List.eraseIdx_cons_succ, List.eraseIdx_cons_zero] at hMf; refine (markMeadowS_list _ _ bB LN cB NB 1 FB hNB HLn.out (by omega) hb2B _ hMf).mono ?_; clear hMf; rintro e W' ⟨rfl, GB, hGB, hM'⟩; rw [← HMM.out]; clear hM; have hM := hM'; clear hM'; clear tk_t13) | (have _t := tk_t14; go_at_call 19; refine (heldMeadowS_list bB LN cB NB 1 GB hNB HLn.out (by omega) hGB _ (hM.ats 0 _ _ _ rfl)).mono ?_; rintro e W' ⟨rfl, hb'⟩; rw [← HMM.out]; have hM' := hM.call hb'; clear hM hb'; have hM := hM'; clear hM'; clear tk_t14) | (have _t := tk_q15; go_at_call 15; (with_reducible refine (toMeadowS_any v0 n0 hs0 hb0 _ (HG0.out.below hM.below)).mono ?_); rintro e W' ⟨q15, rfl, hq15, hA', hcb⟩; have h2q15 := Nat.le_trans hM.size hq15; have hM' := hM.fresh' hcb hA' hq15; simp only [List.cons_append, List.nil_append] at hM'; clear hM hcb hA' tk_q15; have hM := hM'; clear hM') | (have _t := tk_q16; go_at_call 21; (with_reducible refine (toInt64S_any (.slice a2 n2 c2) n2 hs2 hb2 _ (HG2.out.below hM.below)).mono ?_); rintro e W' ⟨q16, rfl, hq16, hA', hcb⟩; have h2q16 := Nat.le_trans hM.size hq16; have hM' := hM.fresh' hcb hA' hq16; simp only [List.cons_append, List.nil_append] at hM'; clear hM hcb hA' tk_q16; have hM := hM'; clear hM') | (have _t := tk_t17; go_at_call 27; refine (HI.out _ _ _ (hM.ats 8 _ _ _ rfl) (hM.ats 9 _ _ _ rfl) (hM.apart 8 9 _ _ rfl rfl (by omega)) (HE.out.below hM.below)).mono ?_; rintro e W' ⟨v0, rfl, hL0⟩; obtain ⟨bC, cC, NC, FC, rfl, hbC, hNC, hFC, hAA, hbl⟩ := hL0.some Hn.out; have hb2C := Nat.le_trans hM.size hbC; have hM' := hM.freshQ hbl hAA hbC; clear hM hAA hbl hL0; have hM := hM'; clear hM'; clear tk_t17) | (have _t := tk_t18; (go_at_call 17; (with_reducible refine (eqMeadowS_list bC bA LN cC cA NC NA FC FA HS0 hFC hFA hNC hNA HLn.out _ (hM.ats 0 _ _ _ rfl) (hM.ats 4 _ _ _ rfl) (hM.apart 0 4 _ _ rfl rfl (by omega))).mono ?_); rintro e W' ⟨rfl, hb'⟩; have hM' := hM.call hb'; clear hM hb'; have hM := hM'; clear hM'); clear tk_t18) | (have _t := tk_t19; go_at_call 19; refine (heldMeadowS_list bB LN cB NB 1 GB hNB HLn.out (by omega) hGB _ (hM.ats 1 _ _ _ rfl)).mono ?_; rintro e W' ⟨rfl, hb'⟩; rw [← HMM.out]; have hM' := hM.call hb'; clear hM hb'; have hM := hM'; clear hM'; clear tk_t19))
  go_ret
  exact ⟨rfl, hM.below⟩
end Go.Proofs.YtbbododeglkghaaDoor
