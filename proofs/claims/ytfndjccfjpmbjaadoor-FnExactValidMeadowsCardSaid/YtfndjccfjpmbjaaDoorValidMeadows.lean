/-
  spec.ValidMeadows by contract; laws.FnExactValidMeadows returns true.
-/
import Derived.Test.YtfndjccfjpmbjaaDoorMeadowI
namespace Go.Proofs.YtfndjccfjpmbjaaDoor
open Go Go.RowKit Go.BigFrame

set_option maxRecDepth 100000 in
set_option maxHeartbeats 1000000 in
theorem specValidMeadows_any (b n c : Nat) (hs : Nat → Nat → Int) (hF : ∀ i, i < n → FitsMeadow (hs i)) (hn : n ≤ 1048576) (w : World) (hB : At w b (n * 3) (sMeadow hs)) :
    Calls Tryd.prog 5 #[.slice (some ⟨b, 0, none⟩) n c] w fun e w' => e = .returned (.bool (meadsB n hs)) ∧ Below w.heap.size w w' := by
  have hM : Mem w [(b, n * 3, sMeadow hs)] w := (Mem.nil w).old hB (fun i p h => by simp at h)
  have HF := Lib.hid hF
  clear hF hB
  go_enter Tryd.func5, Tryd.ntmps5
  go_wp2_with (first | (go_at_call 9; (with_reducible refine (l07Ok_any b n c hs HF.out hn _ (hM.ats 0 _ _ _ rfl)).mono ?_); rintro e W' ⟨rfl, hb'⟩; have hM' := hM.call hb'; clear hM hb'; have hM := hM'; clear hM'))
  go_ret
  exact ⟨ret_bool (a := meadsB n hs) rfl, hM.below⟩

set_option maxRecDepth 100000 in
set_option maxHeartbeats 2000000 in
theorem lawValidMeadows_any {a : Nat → Addr} (v : Value) (n : Nat) (hs : Nat → Nat → Int) (hn : n ≤ maxLen) (hF : ∀ i, i < n → FitsMeadow (hs i)) (w : World) (hE : Errs a w) (h : MeadowArg w v n hs) :
    Calls Tryd.prog 3 #[v] w fun e w' => e = .returned (.bool true) ∧ Below w.heap.size w w' := by
  have hM := Mem.nil w
  have HG := Lib.hid h
  have Hn := Lib.hid hn
  have HF := Lib.hid hF
  have HE := Lib.hid hE
  clear h hn hF hE
  by_cases h1 : 1048576 < n
  · go_enter Tryd.func3, Tryd.ntmps3
    go_wp2_with (first | (go_at_call 4; (with_reducible refine (szMeadowS_no v n hs 1048576 Hn.out (by omega) (by omega) (by omega) _ (HG.out.below hM.below)).mono ?_); rintro e W' ⟨rfl, hb'⟩; have hM' := hM.call hb'; clear hM hb'; have hM := hM'; clear hM'))
    go_ret
    exact ⟨rfl, hM.below⟩
  have d0 : decide ((1048576 : Int) - n < 0) = false := decide_eq_false (by omega)
  have d0' : decide ((1048576 : Int) < n) = false := decide_eq_false (by omega)
  have hn1 : n ≤ 1048576 := by omega
  cases hz : meadsB n hs
  all_goals
    have Hz := Lib.hid hz
    clear hz
    have tk_b1 : True := trivial; have tk_b2 : True := trivial; have tk_b3 : True := trivial
    go_enter Tryd.func3, Tryd.ntmps3
    go_wp2_with (first | (go_at_call 4; (with_reducible refine (szMeadowS_yes v n hs 1048576 (by omega) (by omega) _ (HG.out.below hM.below)).mono ?_); rintro e W' ⟨rfl, hb'⟩; have hM' := hM.call hb'; clear hM hb'; have hM := hM'; clear hM') | (have _t := tk_b1; go_at_call 6; (with_reducible refine (toMeadowS_any v n hs hn1 _ (HG.out.below hM.below)).mono ?_); rintro e W' ⟨b1, rfl, hb1, hA', hcb⟩; have hM' := hM.fresh' hcb hA' hb1; simp only [List.cons_append, List.nil_append] at hM'; clear hM hcb hA' tk_b1; have hM := hM'; clear hM') | (have _t := tk_b2; go_at_call 6; (with_reducible refine (toMeadowS_any v n hs hn1 _ (HG.out.below hM.below)).mono ?_); rintro e W' ⟨b2, rfl, hb2, hA', hcb⟩; have hM' := hM.fresh' hcb hA' hb2; simp only [List.cons_append, List.nil_append] at hM'; clear hM hcb hA' tk_b2; have hM := hM'; clear hM') | (have _t := tk_b3; go_at_call 6; (with_reducible refine (toMeadowS_any v n hs hn1 _ (HG.out.below hM.below)).mono ?_); rintro e W' ⟨b3, rfl, hb3, hA', hcb⟩; have hM' := hM.fresh' hcb hA' hb3; simp only [List.cons_append, List.nil_append] at hM'; clear hM hcb hA' tk_b3; have hM := hM'; clear hM') | (go_at_call 5; (with_reducible refine (specValidMeadows_any _ n n hs HF.out hn1 _ (hM.ats 0 _ _ _ rfl)).mono ?_); rintro e W' ⟨rfl, hb'⟩; rw [Hz.out]; have hM' := hM.call hb'; clear hM hb'; have hM := hM'; clear hM') | (go_at_call 7; (with_reducible refine (implValidMeadows_any _ (n * 3) n n (sMeadow hs) hs (Nat.le_refl _) (fun _ _ => rfl) HF.out hn1 _ (hM.ats 1 _ _ _ rfl) (HE.out.below hM.below)).mono ?_); rintro e W' ⟨rfl, hb'⟩; rw [Hz.out]; have hM' := hM.call hb'; clear hM hb'; have hM := hM'; clear hM') | (go_at_call 8; (with_reducible refine (eqMeadowS_same _ _ n n n hs Hn.out _ (hM.ats 1 _ _ _ rfl) (hM.ats 2 _ _ _ rfl) (hM.apart 1 2 _ _ rfl rfl (by omega))).mono ?_); rintro e W' ⟨rfl, hb'⟩; have hM' := hM.call hb'; clear hM hb'; have hM := hM'; clear hM'))
    go_ret
    exact ⟨rfl, hM.below⟩
end Go.Proofs.YtfndjccfjpmbjaaDoor
