/-
  impl.GrassOf by contract; laws.FnExactGrassOf returns true.
-/
import Derived.Test.YtdlfhomnlhdacaaDoorGrassSpec
import Derived.Test.YtdlfhomnlhdacaaDoorValues
import Derived.Test.YtdlfhomnlhdacaaDoorNeq
import Derived.Test.YtdlfhomnlhdacaaDoorResults
namespace Go.Proofs.YtdlfhomnlhdacaaDoor
open Go Go.RowKit Go.Shelf Go.BigFrame

set_option maxRecDepth 100000 in
set_option maxHeartbeats 1000000 in
theorem implGrassOf_any {a : Nat → Addr} (g : Nat → Int) (hg : Fits g) (b n c : Nat) (s : Nat → Int × Int) (hn : n ≤ 1048576) (w : World) (hB : At w b (n * 2) (sps s)) (hE : Errs a w) :
    Calls Tryd.prog 35 #[.agg (arr 122 (pas g)), .slice (some ⟨b, 0, none⟩) n c] w fun e w' => e = .returned (numR (allN g s n) (allC g s n)) ∧ Below w.heap.size w w' := by
  have hM : Mem w [(b, n * 2, sps s)] w := (Mem.nil w).old hB (fun i p h => by simp at h)
  have HE := Lib.hid hE
  have hn' : n ≤ maxLen := by unfold maxLen; omega
  clear hB hE
  rcases allC_cases g s n with h | h | h
  · have Hc := Lib.hid h.2
    have Hb := Lib.hid (allN_bad (s := s) (n := n) h.1)
    have Ho : Hid (validB g = false) := Lib.hid (by rw [← okB_eq]; exact h.1)
    clear h
    have tk_b1 : True := trivial
    go_enter Tryd.func35, Tryd.ntmps35
    go_wp2_with (first | (have _t := tk_b1; refine wpList_box rfl _ _ rfl _ _ rfl hM ?_; intro b1 W' hb1 hM'; clear hM tk_b1; have hM := hM'; clear hM') | (refine wpList_get rfl _ _ rfl _ _ rfl hM 0 rfl (rowTab _ _ rfl) (by omega) ?_) | (go_at_call 60; (with_reducible refine (checkCells_bad g hg _ _ (HE.out.below hM.below) Ho.out).mono ?_); rintro e W' ⟨rfl, hb'⟩; have hM' := hM.call hb'; clear hM hb'; have hM := hM'; clear hM') | (go_at_call 53; (with_reducible refine (codeOf_0 (HE.out.below hM.below)).mono ?_); rintro e W' ⟨rfl, rfl⟩))
    go_ret2
    exact ⟨ret_num Hb.out.symm Hc.out.symm, hM.below⟩
  · have Hc := Lib.hid h.2.2
    have Hb := Lib.hid (allN_out (g := g) h.2.1)
    have Ho : Hid (validB g = true) := Lib.hid (by rw [← okB_eq]; exact h.1)
    have Hi := Lib.hid (chkS_no (a := a) h.2.1)
    clear h
    have tk_b1 : True := trivial
    go_enter Tryd.func35, Tryd.ntmps35
    go_wp2_with (first | (have _t := tk_b1; refine wpList_box rfl _ _ rfl _ _ rfl hM ?_; intro b1 W' hb1 hM'; clear hM tk_b1; have hM := hM'; clear hM') | (refine wpList_get rfl _ _ rfl _ _ rfl hM 0 rfl (rowTab _ _ rfl) (by omega) ?_) | (go_at_call 60; (with_reducible refine (checkCells_some g hg b n c (n * 2) s (by omega) hn' _ (hM.ats 1 _ _ _ rfl) (HE.out.below hM.below) Ho.out).mono ?_); rintro e W' ⟨rfl, hb'⟩; rw [Hi.out]; have hM' := hM.call hb'; clear hM hb'; have hM := hM'; clear hM') | (go_at_call 53; (with_reducible refine (codeOf_1 (HE.out.below hM.below)).mono ?_); rintro e W' ⟨rfl, rfl⟩))
    go_ret2
    exact ⟨ret_num Hb.out.symm Hc.out.symm, hM.below⟩
  · have Hc := Lib.hid h.2.2
    have Hb := Lib.hid (allN_ok h.1 h.2.1)
    have Ho : Hid (validB g = true) := Lib.hid (by rw [← okB_eq]; exact h.1)
    have Hi := Lib.hid (chkS_yes (a := a) h.2.1)
    have Hl := Lib.hid (all_cell h.1 h.2.1)
    have Hg := Lib.hid (fun k hk => (ok_grass h.1 k hk).1)
    clear h
    have tk_b1 : True := trivial
    go_enter Tryd.func35, Tryd.ntmps35
    go_wp2_with (first | (have _t := tk_b1; refine wpList_box rfl _ _ rfl _ _ rfl hM ?_; intro b1 W' hb1 hM'; clear hM tk_b1; have hM := hM'; clear hM') | (refine wpList_get rfl _ _ rfl _ _ rfl hM 0 rfl (rowTab _ _ rfl) (by omega) ?_) | (go_at_call 60; (with_reducible refine (checkCells_some g hg b n c (n * 2) s (by omega) hn' _ (hM.ats 1 _ _ _ rfl) (HE.out.below hM.below) Ho.out).mono ?_); rintro e W' ⟨rfl, hb'⟩; rw [Hi.out]; have hM' := hM.call hb'; clear hM hb'; have hM := hM'; clear hM'))
    ((try simp only [Act.put, List.setIfInBounds_toArray, List.set_cons_succ, List.set_cons_zero]); refine region_mix (n := 2) (by kernel_rfl) (by kernel_rfl) hM ?_; clear hM; simp only [List.take_succ_cons, List.take_zero, List.drop_succ_cons, List.drop_zero]; (repeat (refine wpB_plain rfl ?_; first | (refine b_get _ _ rfl _ _ rfl 0 rfl (rowTab _ _ rfl) (by omega) ?_; (simp only [Act.put, List.setIfInBounds_toArray, List.set_cons_succ, List.set_cons_zero])) | (refine b_val ?_; apply Exists.intro; refine ⟨fun W => ?_, ?_⟩; (go_simp; rfl); (simp only [Act.put, List.setIfInBounds_toArray, List.set_cons_succ, List.set_cons_zero])))); (with_reducible refine wpB_nil ?_))
    (refine thr_call_new rfl (n := 1) (f := fun _ => .slice (some ⟨b, 0, none⟩) n c) (fun b => .func (.func 98) #[] #[.pointer (some ⟨b, 0, none⟩)]) ?_; apply Exists.intro; apply Exists.intro; refine ⟨fun W => ?_, fun W hM => ?_, ?_⟩; (go_simp; exact ⟨rfl, rfl⟩); (exact values_any b n c W); (intro bh hbh); (simp only [Act.put, List.setIfInBounds_toArray, List.set_cons_succ, List.set_cons_zero]))
    (refine thr_call rfl ?_; apply Exists.intro; apply Exists.intro; apply Exists.intro; refine ⟨fun W => ?_, fun W hM => ?_, ?_⟩; (go_simp; exact ⟨rfl, rfl⟩); (exact sumGrass_list g hg Hg.out bh b (n * 2) n c s (Nat.le_refl _) hn Hl.out W (hM.ats 0 _ _ _ rfl) (hM.ats 2 _ _ _ rfl) (hM.apart 0 2 _ _ rfl rfl (by omega))); (simp only [Act.put, List.setIfInBounds_toArray, List.set_cons_succ, List.set_cons_zero]))
    (refine thr_val rfl ?_; apply Exists.intro; refine ⟨fun W => ?_, ?_⟩; (go_simp; rfl); (simp only [Act.put, List.setIfInBounds_toArray, List.set_cons_succ, List.set_cons_zero]))
    (refine thr_val rfl ?_; apply Exists.intro; refine ⟨fun W => ?_, ?_⟩; (go_simp; rfl); (simp only [Act.put, List.setIfInBounds_toArray, List.set_cons_succ, List.set_cons_zero]))
    (refine thr_nil ?_; intro W' hM; simp only [List.cons_append, List.nil_append] at hM)
    go_wp2
    go_ret2
    exact ⟨ret_num Hb.out.symm Hc.out.symm, hM.below⟩

set_option maxRecDepth 100000 in
set_option maxHeartbeats 2000000 in
theorem lawGrassOf_any {a : Nat → Addr} (g : Nat → Int) (hg : Fits g) (v : Value) (n : Nat) (s : Nat → Int × Int) (hn : n ≤ maxLen) (hF : ∀ i, i < n → FitsS (s i)) (w : World) (hE : Errs a w) (h : SpotArg w v n s) :
    Calls Tryd.prog 10 #[.agg (arr 122 (pas g)), v] w fun e w' => e = .returned (.bool true) ∧ Below w.heap.size w w' := by
  have hM := Mem.nil w
  have HG := Lib.hid h
  have Hn := Lib.hid hn
  have HF := Lib.hid hF
  have HE := Lib.hid hE
  have Hz := Lib.hid (numR_eq (allN g s n) (allC g s n))
  clear h hn hF hE
  by_cases h1 : 1048576 < n
  · have tk_c1 : True := trivial
    go_enter Tryd.func10, Tryd.ntmps10
    go_wp2_with (first | (go_at_call 32; (with_reducible refine (szSpotS_no v n s 1048576 Hn.out (by omega) (by omega) (by omega) _ (HG.out.below hM.below)).mono ?_); rintro e W' ⟨rfl, hb'⟩; have hM' := hM.call hb'; clear hM hb'; have hM := hM'; clear hM') | (have _t := tk_c1; refine wpList_box rfl _ _ rfl _ _ rfl hM ?_; intro c1 W' hc1 hM'; clear hM tk_c1; have hM := hM'; clear hM'))
    go_ret
    exact ⟨rfl, hM.below⟩
  have d0 : decide ((1048576 : Int) - n < 0) = false := decide_eq_false (by omega)
  have d0' : decide ((1048576 : Int) < n) = false := decide_eq_false (by omega)
  have hn1 : n ≤ 1048576 := by omega
  have tk_c1 : True := trivial; have tk_b1 : True := trivial; have tk_b2 : True := trivial; have tk_b3 : True := trivial; have tk_q1 : True := trivial; have tk_q2 : True := trivial
  go_enter Tryd.func10, Tryd.ntmps10
  go_wp2_with (first | (go_at_call 32; (with_reducible refine (szSpotS_yes v n s 1048576 (by omega) (by omega) _ (HG.out.below hM.below)).mono ?_); rintro e W' ⟨rfl, hb'⟩; have hM' := hM.call hb'; clear hM hb'; have hM := hM'; clear hM') | (go_at_call 19; (with_reducible refine (toPasture_pas g _).mono ?_); rintro e W' ⟨rfl, hb'⟩; have hM' := hM.call hb'; clear hM hb'; have hM := hM'; clear hM') | (have _t := tk_b1; go_at_call 34; (with_reducible refine (toSpotS_any v n s hn1 _ (HG.out.below hM.below)).mono ?_); rintro e W' ⟨b1, rfl, hb1, hA', hcb⟩; have hM' := hM.fresh' hcb hA' hb1; simp only [List.cons_append, List.nil_append] at hM'; clear hM hcb hA' tk_b1; have hM := hM'; clear hM') | (have _t := tk_b2; go_at_call 34; (with_reducible refine (toSpotS_any v n s hn1 _ (HG.out.below hM.below)).mono ?_); rintro e W' ⟨b2, rfl, hb2, hA', hcb⟩; have hM' := hM.fresh' hcb hA' hb2; simp only [List.cons_append, List.nil_append] at hM'; clear hM hcb hA' tk_b2; have hM := hM'; clear hM') | (have _t := tk_b3; go_at_call 34; (with_reducible refine (toSpotS_any v n s hn1 _ (HG.out.below hM.below)).mono ?_); rintro e W' ⟨b3, rfl, hb3, hA', hcb⟩; have hM' := hM.fresh' hcb hA' hb3; simp only [List.cons_append, List.nil_append] at hM'; clear hM hcb hA' tk_b3; have hM := hM'; clear hM') | (go_at_call 33; (with_reducible refine (specGrassOf_any g hg _ n n s HF.out hn1 _ (hM.ats 1 _ _ _ rfl)).mono ?_); rintro e W' ⟨rfl, hb'⟩; rw [Hz.out]; have hM' := hM.call hb'; clear hM hb'; have hM := hM'; clear hM') | (go_at_call 35; (with_reducible refine (implGrassOf_any g hg _ n n s hn1 _ (hM.ats 2 _ _ _ rfl) (HE.out.below hM.below)).mono ?_); rintro e W' ⟨rfl, hb'⟩; rw [Hz.out]; have hM' := hM.call hb'; clear hM hb'; have hM := hM'; clear hM') | (go_at_call 36; (with_reducible refine (eqSpotS_same _ _ n n n s Hn.out _ (hM.ats 2 _ _ _ rfl) (hM.ats 3 _ _ _ rfl) (hM.apart 2 3 _ _ rfl rfl (by omega))).mono ?_); rintro e W' ⟨rfl, hb'⟩; have hM' := hM.call hb'; clear hM hb'; have hM := hM'; clear hM') | (have _t := tk_c1; refine wpList_box rfl _ _ rfl _ _ rfl hM ?_; intro c1 W' hc1 hM'; clear hM tk_c1; have hM := hM'; clear hM') | (have _t := tk_q1; (refine wpList_get rfl _ _ rfl _ _ rfl hM 0 rfl (rowTab _ _ rfl) (by omega) ?_); clear tk_q1) | (have _t := tk_q2; (refine wpList_get rfl _ _ rfl _ _ rfl hM 0 rfl (rowTab _ _ rfl) (by omega) ?_); clear tk_q2))
  go_ret
  exact ⟨rfl, hM.below⟩
end Go.Proofs.YtdlfhomnlhdacaaDoor
