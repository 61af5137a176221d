/-
  laws.FnExactBareCells returns true.
-/
import Derived.Test.YtdlfhomnlhdacaaDoorBare
import Derived.Test.YtdlfhomnlhdacaaDoorSpotL
import Derived.Test.YtdlfhomnlhdacaaDoorAsked
namespace Go.Proofs.YtdlfhomnlhdacaaDoor
open Go Go.RowKit Go.BigFrame

theorem bareOf_len (g : Nat → Int) : (bareOf g).length ≤ 1048576 := by
  unfold bareOf
  cases ho : okB g
  · simp
  · have ho' := ho
    unfold okB at ho'
    rw [Bool.and_eq_true, Bool.and_eq_true] at ho'
    have i0 := inB_true ho'.1.1
    have i1 := inB_true ho'.1.2
    have h1 := bareL_len (g := g) (W := (g 0).toNat) (i := (g 0).toNat * (g 1).toNat)
    have h2 := Nat.mul_le_mul (show (g 0).toNat ≤ 10 by omega) (show (g 1).toNat ≤ 10 by omega)
    simp only [if_true]
    omega

set_option maxRecDepth 100000 in
set_option maxHeartbeats 4000000 in
theorem lawBareCells_any {a : Nat → Addr} (g : Nat → Int) (hg : Fits g) (w : World) (hE : Errs a w) :
    Calls Tryd.prog 13 #[.agg (arr 122 (pas g))] w fun e w' => e = .returned (.bool true) ∧ Below w.heap.size w w' := by
  have hM := Mem.nil w
  have HE := Lib.hid hE
  have hS := fun W => specBareCells_any g hg W
  have hI := fun W hE => implBareCells_any (a := a) g hg W hE
  have hl := bareOf_len g
  clear hE
  generalize bareOf g = l at hS hI hl
  generalize bareC g = cc at hS hI
  have HS := Lib.hid hS
  have HI := Lib.hid hI
  have Hl := Lib.hid hl
  clear hS hI hl
  rcases Nat.eq_zero_or_pos l.length with hn | hn
  · have Hn := Lib.hid hn
    clear hn
    have tk_c1 : True := trivial; have tk_q1 : True := trivial; have tk_q2 : True := trivial; have tk_q3 : True := trivial
    go_enter Tryd.func13, Tryd.ntmps13
    go_wp2_with (first | (have _t := tk_c1; refine wpList_box rfl _ _ rfl _ _ rfl hM ?_; intro c1 W' hc1 hM'; clear hM tk_c1; have hM := hM'; clear hM') | (go_at_call 19; (with_reducible refine (toPasture_pas g _).mono ?_); rintro e W' ⟨rfl, hb'⟩; have hM' := hM.call hb'; clear hM hb'; have hM := hM'; clear hM') | (go_at_call 41; refine (HS.out _).mono ?_; rintro e W' ⟨v0, rfl, hL0⟩; obtain ⟨aA, cA, rfl, hbl⟩ := hL0.zero Hn.out; have hM' := hM.call hbl; clear hM hbl hL0; have hM := hM'; clear hM') | (go_at_call 42; refine (HI.out _ (HE.out.below hM.below)).mono ?_; rintro e W' ⟨v0, rfl, hL0⟩; obtain ⟨aA, cA, rfl, hbl⟩ := hL0.zero Hn.out; have hM' := hM.call hbl; clear hM hbl hL0; have hM := hM'; clear hM') | (go_at_call 36; (with_reducible refine (eqSpotS_zero _ _ _ _ _).mono ?_); rintro e W' ⟨rfl, hb'⟩; have hM' := hM.call hb'; clear hM hb'; have hM := hM'; clear hM') | (go_at_call 43; (with_reducible refine (markSpotS_zero _ _ _ _).mono ?_); rintro e W' ⟨rfl, hb'⟩; have hM' := hM.call hb'; clear hM hb'; have hM := hM'; clear hM') | (go_at_call 44; (with_reducible refine (heldSpotS_zero _ _ _ _).mono ?_); rintro e W' ⟨rfl, hb'⟩; have hM' := hM.call hb'; clear hM hb'; have hM := hM'; clear hM') | (have _t := tk_q1; (refine wpList_get rfl _ _ rfl _ _ rfl hM 0 rfl (rowTab _ _ rfl) (by omega) ?_); clear tk_q1) | (have _t := tk_q2; (refine wpList_get rfl _ _ rfl _ _ rfl hM 0 rfl (rowTab _ _ rfl) (by omega) ?_); clear tk_q2) | (have _t := tk_q3; (refine wpList_get rfl _ _ rfl _ _ rfl hM 0 rfl (rowTab _ _ rfl) (by omega) ?_); clear tk_q3))
    go_ret
    exact ⟨rfl, hM.below⟩
  obtain ⟨mm, hmm⟩ : ∃ mm : Int, mm = ((1 + l.length * 2 : Nat) : Int) := ⟨_, rfl⟩
  have hng : ¬ mm < 0 := by omega
  have hnd : decide (mm < 0) = false := decide_eq_false hng
  have Hm := Lib.hid hmm
  have Hn := Lib.hid hn
  clear hn hmm hng
  have tk_c1 : True := trivial; have tk_a1 : True := trivial; have tk_a2 : True := trivial; have tk_a3 : True := trivial; have tk_e1 : True := trivial; have tk_e2 : True := trivial; have tk_m1 : True := trivial; have tk_h1 : True := trivial; have tk_h2 : True := trivial; have tk_q1 : True := trivial; have tk_q2 : True := trivial; have tk_q3 : True := trivial
  go_enter Tryd.func13, Tryd.ntmps13
  go_wp2_with (first | (have _t := tk_c1; refine wpList_box rfl _ _ rfl _ _ rfl hM ?_; intro c1 W' hc1 hM'; clear hM tk_c1; have hM := hM'; clear hM') | (go_at_call 19; (with_reducible refine (toPasture_pas g _).mono ?_); rintro e W' ⟨rfl, hb'⟩; have hM' := hM.call hb'; clear hM hb'; have hM := hM'; clear hM') | (have _t := tk_a1; go_at_call 41; refine (HS.out _).mono ?_; rintro e W' ⟨v0, rfl, hL0⟩; obtain ⟨bA, cA, FA, rfl, hbA, hcA, hFA, hAA, hbl⟩ := hL0.some Hn.out; have hM' := hM.freshH hbl hAA hbA; clear hM hAA hbl hL0 tk_a1; have hM := hM'; clear hM') | (have _t := tk_a2; go_at_call 42; refine (HI.out _ (HE.out.below hM.below)).mono ?_; rintro e W' ⟨v0, rfl, hL0⟩; obtain ⟨bB, cB, FB, rfl, hbB, hcB, hFB, hAA, hbl⟩ := hL0.some Hn.out; have hbB2 := Nat.le_trans hM.size hbB; have hM' := hM.freshH hbl hAA hbB; clear hM hAA hbl hL0 tk_a2; have hM := hM'; clear hM') | (have _t := tk_e1; (go_at_call 36; (with_reducible refine (eqSpotS_list bB bA l.length cB cA _ _ FB FA (sL l) hFB hFA (by omega) (by omega) Hl.out _ (hM.ats 0 _ _ _ rfl) (hM.ats 1 _ _ _ rfl) (hM.apart 0 1 _ _ rfl rfl (by omega))).mono ?_); rintro e W' ⟨rfl, hb'⟩; have hM' := hM.call hb'; clear hM hb'; have hM := hM'; clear hM'); clear tk_e1) | (have _t := tk_m1; go_at_call 43; refine (markSpotS_list _ _ bB l.length cB (cB * 2) 1 FB (by omega) Hl.out (by omega) hbB2 _ hM).mono ?_; rintro e W' ⟨rfl, G, hG, hM'⟩; rw [← Hm.out]; clear hM tk_m1; have hM := hM'; clear hM') | (have _t := tk_h1; go_at_call 44; refine (heldSpotS_list bB l.length cB (cB * 2) 1 G (by omega) Hl.out (by omega) hG _ (hM.ats 0 _ _ _ rfl)).mono ?_; rintro e W' ⟨rfl, hb'⟩; rw [← Hm.out]; have hM' := hM.call hb'; clear hM hb' tk_h1; have hM := hM'; clear hM') | (have _t := tk_a3; go_at_call 42; refine (HI.out _ (HE.out.below hM.below)).mono ?_; rintro e W' ⟨v0, rfl, hL0⟩; obtain ⟨bC, cC, FC, rfl, hbC, hcC, hFC, hAA, hbl⟩ := hL0.some Hn.out; have hM' := hM.freshH hbl hAA hbC; clear hM hAA hbl hL0 tk_a3; have hM := hM'; clear hM') | (have _t := tk_e2; (go_at_call 36; (with_reducible refine (eqSpotS_list bC bA l.length cC cA _ _ FC FA (sL l) hFC hFA (by omega) (by omega) Hl.out _ (hM.ats 0 _ _ _ rfl) (hM.ats 2 _ _ _ rfl) (hM.apart 0 2 _ _ rfl rfl (by omega))).mono ?_); rintro e W' ⟨rfl, hb'⟩; have hM' := hM.call hb'; clear hM hb'; have hM := hM'; clear hM'); clear tk_e2) | (have _t := tk_h2; go_at_call 44; refine (heldSpotS_list bB l.length cB (cB * 2) 1 G (by omega) Hl.out (by omega) hG _ (hM.ats 1 _ _ _ rfl)).mono ?_; rintro e W' ⟨rfl, hb'⟩; rw [← Hm.out]; have hM' := hM.call hb'; clear hM hb' tk_h2; have hM := hM'; clear hM') | (have _t := tk_q1; (refine wpList_get rfl _ _ rfl _ _ rfl hM 0 rfl (rowTab _ _ rfl) (by omega) ?_); clear tk_q1) | (have _t := tk_q2; (refine wpList_get rfl _ _ rfl _ _ rfl hM 1 rfl (rowTab _ _ rfl) (by omega) ?_); clear tk_q2) | (have _t := tk_q3; (refine wpList_get rfl _ _ rfl _ _ rfl hM 2 rfl (rowTab _ _ rfl) (by omega) ?_); clear tk_q3))
  go_ret
  exact ⟨rfl, hM.below⟩
end Go.Proofs.YtdlfhomnlhdacaaDoor
