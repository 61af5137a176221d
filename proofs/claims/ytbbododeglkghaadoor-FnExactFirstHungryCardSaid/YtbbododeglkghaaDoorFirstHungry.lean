/-
  laws.FnExactFirstHungry returns true.
-/
import Derived.Test.YtbbododeglkghaaDoorFirstHungryC
namespace Go.Proofs.YtbbododeglkghaaDoor
open Go Go.RowKit Go.BigFrame

set_option maxRecDepth 100000 in
set_option maxHeartbeats 4000000 in
theorem lawFirstHungry_any {a : Nat → Addr} (v0 : Value) (n0 : Nat) (hs0 : Nat → Nat → Int) (hn0 : n0 ≤ maxLen) (hF0 : ∀ i, i < n0 → FitsMeadow (hs0 i))  (i1 : Int)  (v2 : Value) (n2 : Nat) (hs2 : Nat → Int) (hn2 : n2 ≤ maxLen) (w : World) (hE : Errs a w) (hG0 : MeadowArg w v0 n0 hs0) (hG2 : Arg1 w v2 n2 (vInt64S hs2)) :
    Calls Tryd.prog 5 #[v0, .int .i64 i1, v2] w fun e w' => e = .returned (.bool true) ∧ Below w.heap.size w w' := by
  have hM := Mem.nil w
  have HE := Lib.hid hE
  obtain ⟨a2, c2, hv2⟩ : ∃ a c, v2 = .slice a n2 c := by
    rcases hG2 with ⟨h1, h2⟩ | ⟨b, o, c, h, _⟩
    · exact ⟨none, 0, by rw [h2, h1]⟩
    · exact ⟨_, c, h⟩
  subst hv2
  have HG0 := Lib.hid hG0
  have Hn0 := Lib.hid hn0
  have HF0 := Lib.hid hF0
  have HG2 := Lib.hid hG2
  have Hn2 := Lib.hid hn2
  clear hE hG0 hn0 hF0 hG2 hn2
  by_cases hI2 : 1048576 < n2
  · have d2 : decide ((1048576 : Int) < n2) = true := decide_eq_true (by omega)
    go_enter Tryd.func5, Tryd.ntmps5
    go_wp2
    go_ret
    exact ⟨rfl, hM.below⟩
  have d2 : decide ((1048576 : Int) < n2) = false := decide_eq_false (by omega)
  have hb2 : n2 ≤ 1048576 := by omega
  by_cases hO0 : 1048576 < n0
  · go_enter Tryd.func5, Tryd.ntmps5
    go_wp2_with (first | (go_at_call 13; (with_reducible refine (szMeadowS_no v0 n0 hs0 1048576 Hn0.out (by omega) (by omega) (by omega) _ (HG0.out.below hM.below)).mono ?_); rintro e W' ⟨rfl, hb'⟩; have hM' := hM.call hb'; clear hM hb'; have hM := hM'; clear hM'))
    go_ret
    exact ⟨rfl, hM.below⟩
  have e0 : decide ((1048576 : Int) - n0 < 0) = false := decide_eq_false (by omega)
  have f0 : decide ((1048576 : Int) < n0) = false := decide_eq_false (by omega)
  have hb0 : n0 ≤ 1048576 := by omega
  have hS := fun (B0 : Nat) (B2 : Nat) (W : World) (hB0 : At W B0 (n0 * 3) (sMeadow hs0)) (hB2 : At W B2 (n2) (vInt64S hs2)) (hne02 : B0 ≠ B2) => specFirstHungry_any B0 n0 n0 B2 n2 n2 hs0 hs2 HF0.out hb0 hb2 i1 W hB0 hB2 hne02
  have hI := fun (B0 : Nat) (B2 : Nat) (W : World) (hB0 : At W B0 (n0 * 3) (sMeadow hs0)) (hB2 : At W B2 (n2) (vInt64S hs2)) (hne02 : B0 ≠ B2) (hE : Errs a W) => implFirstHungry_any (a := a) B0 n0 n0 B2 n2 n2 hs0 hs2 HF0.out hb0 hb2 i1 W hB0 hB2 hne02 hE
  generalize hunV n0 n2 hs0 hs2 i1 = R at hS hI
  generalize hunC n0 n2 hs0 hs2 i1 = C at hS hI
  have Hz : Hid (numR R C = .tuple #[.int .i64 R, .int .i64 C]) := Lib.hid rfl
  have HS := Lib.hid hS
  have HI := Lib.hid hI
  clear hS hI
  have tk_q0 : True := trivial; have tk_q1 : True := trivial; have tk_q2 : True := trivial; have tk_q3 : True := trivial; have tk_q4 : True := trivial; have tk_q5 : True := trivial
  go_enter Tryd.func5, Tryd.ntmps5
  go_wp2_with (first | (go_at_call 13; (with_reducible refine (szMeadowS_yes v0 n0 hs0 1048576 (by omega) (by omega) _ (HG0.out.below hM.below)).mono ?_); rintro e W' ⟨rfl, hb'⟩; have hM' := hM.call hb'; clear hM hb'; have hM := hM'; clear hM') | (have _t := tk_q0; go_at_call 15; (with_reducible refine (toMeadowS_any v0 n0 hs0 hb0 _ (HG0.out.below hM.below)).mono ?_); rintro e W' ⟨q0, rfl, hq0, hA', hcb⟩; have hM' := hM.fresh' hcb hA' hq0; simp only [List.cons_append, List.nil_append] at hM'; clear hM hcb hA' tk_q0; have hM := hM'; clear hM') | (have _t := tk_q1; go_at_call 21; (with_reducible refine (toInt64S_any (.slice a2 n2 c2) n2 hs2 hb2 _ (HG2.out.below hM.below)).mono ?_); rintro e W' ⟨q1, rfl, hq1, hA', hcb⟩; have hM' := hM.fresh' hcb hA' hq1; simp only [List.cons_append, List.nil_append] at hM'; clear hM hcb hA' tk_q1; have hM := hM'; clear hM') | (go_at_call 24; (with_reducible refine (HS.out _ _ _ (hM.ats 0 _ _ _ rfl) (hM.ats 1 _ _ _ rfl) (hM.apart 0 1 _ _ rfl rfl (by omega))).mono ?_); rintro e W' ⟨rfl, hb'⟩; rw [Hz.out]; have hM' := hM.call hb'; clear hM hb'; have hM := hM'; clear hM') | (have _t := tk_q2; go_at_call 15; (with_reducible refine (toMeadowS_any v0 n0 hs0 hb0 _ (HG0.out.below hM.below)).mono ?_); rintro e W' ⟨q2, rfl, hq2, hA', hcb⟩; have hM' := hM.fresh' hcb hA' hq2; simp only [List.cons_append, List.nil_append] at hM'; clear hM hcb hA' tk_q2; have hM := hM'; clear hM') | (have _t := tk_q3; go_at_call 21; (with_reducible refine (toInt64S_any (.slice a2 n2 c2) n2 hs2 hb2 _ (HG2.out.below hM.below)).mono ?_); rintro e W' ⟨q3, rfl, hq3, hA', hcb⟩; have hM' := hM.fresh' hcb hA' hq3; simp only [List.cons_append, List.nil_append] at hM'; clear hM hcb hA' tk_q3; have hM := hM'; clear hM') | (go_at_call 25; (with_reducible refine (HI.out _ _ _ (hM.ats 2 _ _ _ rfl) (hM.ats 3 _ _ _ rfl) (hM.apart 2 3 _ _ rfl rfl (by omega)) (HE.out.below hM.below)).mono ?_); rintro e W' ⟨rfl, hb'⟩; rw [Hz.out]; have hM' := hM.call hb'; clear hM hb'; have hM := hM'; clear hM') | (have _t := tk_q4; go_at_call 15; (with_reducible refine (toMeadowS_any v0 n0 hs0 hb0 _ (HG0.out.below hM.below)).mono ?_); rintro e W' ⟨q4, rfl, hq4, hA', hcb⟩; have hM' := hM.fresh' hcb hA' hq4; simp only [List.cons_append, List.nil_append] at hM'; clear hM hcb hA' tk_q4; have hM := hM'; clear hM') | (go_at_call 17; (with_reducible refine (eqMeadowS_same _ _ n0 n0 n0 hs0 Hn0.out _ (hM.ats 2 _ _ _ rfl) (hM.ats 4 _ _ _ rfl) (hM.apart 2 4 _ _ rfl rfl (by omega))).mono ?_); rintro e W' ⟨rfl, hb'⟩; have hM' := hM.call hb'; clear hM hb'; have hM := hM'; clear hM') | (have _t := tk_q5; go_at_call 21; (with_reducible refine (toInt64S_any (.slice a2 n2 c2) n2 hs2 hb2 _ (HG2.out.below hM.below)).mono ?_); rintro e W' ⟨q5, rfl, hq5, hA', hcb⟩; have hM' := hM.fresh' hcb hA' hq5; simp only [List.cons_append, List.nil_append] at hM'; clear hM hcb hA' tk_q5; have hM := hM'; clear hM') | (go_at_call 23; (with_reducible refine (eqInt64S_same _ _ n2 n2 n2 hs2 Hn2.out _ (hM.ats 3 _ _ _ rfl) (hM.ats 5 _ _ _ rfl) (hM.apart 3 5 _ _ rfl rfl (by omega))).mono ?_); rintro e W' ⟨rfl, hb'⟩; have hM' := hM.call hb'; clear hM hb'; have hM := hM'; clear hM'))
  go_ret
  exact ⟨rfl, hM.below⟩
end Go.Proofs.YtbbododeglkghaaDoor
