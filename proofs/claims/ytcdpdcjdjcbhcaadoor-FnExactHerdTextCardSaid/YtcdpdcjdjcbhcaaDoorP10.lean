/-
  Several texts in one: HerdText.
-/
import Derived.Test.YtcdpdcjdjcbhcaaDoorP7
import Derived.Test.YtcdpdcjdjcbhcaaDoorP8
import Derived.Test.YtcdpdcjdjcbhcaaDoorP9
/-
  laws.FnExactHerdText returns true.
-/
namespace Go.Proofs.YtcdpdcjdjcbhcaaDoor
open Go Go.RowKit Go.BigFrame Go.ChangeShapes Go.WideShapes Go.Deep

set_option maxRecDepth 100000 in
set_option maxHeartbeats 4000000 in
theorem lawHerdText_any {a : Nat → Addr} (v : Value) (d : Hd) (hd : FitsH d) (w : World) (hE : Errs a w ∧ Tab w ∧ TabP w) (h : HerdArg w v d) :
    Calls Tryd.prog 9 #[v] w fun e w' => e = .returned (.bool true) ∧ Below w.heap.size w w' := by
  have hM := Mem.nil w
  have hv : ∃ f, v = .agg (arr 3 f) := by obtain ⟨v1, v2, v3, e, -⟩ := h; exact ⟨_, e⟩
  obtain ⟨f1, rfl⟩ := hv
  have HG := Lib.hid h
  have HE := Lib.hid hE
  clear h hE
  have tk_b1 : True := trivial; have tk_q1 : True := trivial
  go_enter Tryd.func9, Tryd.ntmps9
  go_wp2_with (first | (have _t := tk_b1; refine wpList_box rfl _ _ rfl _ _ rfl hM ?_; intro b1 W' hb1 hM'; clear hM tk_b1; have hM := hM'; clear hM') | (have _t := tk_q1; refine wpList_get rfl _ _ rfl _ _ rfl hM 0 rfl (rowTab _ _ rfl) (by omega) ?_; simp only [Nat.zero_add]; clear tk_q1))
  go_at_call 36
  refine (szHerd_any _ d 1048576 hd (by omega) (by omega) _ (HG.out.below hM.below)).mono ?_
  rintro e W' ⟨⟨r1, rfl, rfl | ⟨p0, p1, l1, l2, l3⟩⟩, hb⟩
  · have hM' := hM.call hb
    clear hM hb
    go_wp2
    go_ret
    exact ⟨rfl, hM'.below⟩
  have hM' := hM.call hb
  clear hM hb
  have hM := hM'
  clear hM'
  have z1 : decide (r1 < 0) = false := decide_eq_false (by omega)
  have HG1 : d.n1 ≤ 1048576 := by omega
  have HG2 : d.n2 ≤ 1048576 := by omega
  have HG3 : d.n3 ≤ 1048576 := by omega
  have HS := Lib.hid (fun (a1 a2 a3 : Nat) W hB => specHerdText_any d a1 a2 a3 hd W hB)
  have HI := Lib.hid (fun (a1 a2 a3 : Nat) W hB hE hT hP => implHerdText_any (a := a) d a1 a2 a3 hd W hB hE hT hP)
  generalize bs (herdT d) = R at HS HI
  · have tk_r1 : True := trivial; have tk_h1 : True := trivial; have tk_sc : True := trivial; have tk_r2 : True := trivial; have tk_h2 : True := trivial; have tk_x0 : True := trivial; have tk_s0 : True := trivial; have tk_r3 : True := trivial
    go_wp2_with (first | (have _t := tk_r1; refine wpList_get rfl _ _ rfl _ _ rfl hM 0 rfl (rowTab _ _ rfl) (by omega) ?_; simp only [Nat.zero_add]; clear tk_r1) | (have _t := tk_h1; go_at_call 38; refine (toHerd_any _ d HG1 HG2 HG3 _ (HG.out.below hM.below)).mono ?_; rintro e W' ⟨a1, a2, a3, rfl, g1, g2, g3, hK⟩; have hM' := hM.front hK.below hK (hdB_ge g1 g2 g3); clear hM hK g1 g2 g3 tk_h1; have hM := hM'; clear hM') | (have _t := tk_sc; go_at_call 37; refine (HS.out a1 a2 a3 _ (three_of hM 0 rfl)).mono ?_; rintro e W' ⟨rfl, hb'⟩; have hM' := (hM.call hb').drop.drop.drop; clear hM hb' tk_sc; have hM := hM'; clear hM') | (have _t := tk_r2; refine wpList_get rfl _ _ rfl _ _ rfl hM 0 rfl (rowTab _ _ rfl) (by omega) ?_; simp only [Nat.zero_add]; clear tk_r2) | (have _t := tk_h2; go_at_call 38; refine (toHerd_any _ d HG1 HG2 HG3 _ (HG.out.below hM.below)).mono ?_; rintro e W' ⟨e1, e2, e3, rfl, g1, g2, g3, hK⟩; have hM' := hM.front hK.below hK (hdB_ge g1 g2 g3); clear hM hK g1 g2 g3 tk_h2; have hM := hM'; clear hM') | (have _t := tk_x0; refine wpList_zero rfl _ rfl (zeroTab _ _ _ rfl) hM ?_; intro x0 W' hx0 hM'; clear hM tk_x0; have hM := hM'; clear hM') | (have _t := tk_s0; refine wpList_lay rfl _ _ _ rfl _ _ rfl _ _ rfl hM 0 rfl (by assumption) (rowTab _ _ rfl) (by omega) ?_ ?_; (intro k _; exact hdV_one _ _ _ _ _); intro W' hM'; have hM2 := hM'.re 0 rfl (hdV d e1 e2 e3) (fun k hk => by simp [lay, hk]); simp only [List.set_cons_zero] at hM2; clear hM hM' tk_s0; have hM := hM2; clear hM2) | (have _t := tk_r3; refine wpList_get rfl _ _ rfl _ _ rfl hM 0 rfl (rowTab _ _ rfl) (by omega) ?_; simp only [Nat.zero_add]; clear tk_r3) | (go_at_call 39; refine (HI.out e1 e2 e3 _ (three_of hM 1 rfl) (HE.out.1.below hM.below) (HE.out.2.1.below hM.below) (HE.out.2.2.below hM.below)).mono ?_; rintro e W' ⟨rfl, hb'⟩; have hM' := hM.call hb'; clear hM hb'; have hM := hM'; clear hM'))
    simp only [hdB, List.cons_append, List.nil_append] at hM
    ((try simp only [Act.put, List.setIfInBounds_toArray, List.set_cons_succ, List.set_cons_zero]); refine region_reads [0, 1] #[true, true, false, false, false] 3 (by kernel_rfl) (by kernel_rfl) (by kernel_rfl) hM ?_; clear hM; (repeat (refine qs_plain rfl rfl ?_; first | (refine b_get _ _ rfl _ _ rfl 0 rfl (rowTab _ _ rfl) (by omega) ?_; (try simp only [Nat.zero_add, Act.put, List.setIfInBounds_toArray, List.set_cons_succ, List.set_cons_zero])) | (refine b_get _ _ rfl _ _ rfl 4 rfl (rowTab _ _ rfl) (by omega) ?_; (try simp only [Nat.zero_add, Act.put, List.setIfInBounds_toArray, List.set_cons_succ, List.set_cons_zero])))); (with_reducible refine qs_nil ?_))
    (refine mix_one (i := 2) (by kernel_rfl) rfl (by kernel_rfl) rfl ?_)
    (refine step_call_more (β := Nat × Nat × Nat) (fun y => .agg (arr 3 (hdV d y.1 y.2.1 y.2.2))) (fun y => hdB d y.1 y.2.1 y.2.2) (fun _ => True) ?_; apply Exists.intro; apply Exists.intro; refine ⟨fun W => ?_, fun W hM => ?_, ?_⟩; (go_simp; exact ⟨rfl, rfl⟩); (exact (toHerd_any _ d HG1 HG2 HG3 W (HG.out.below hM.below)).mono fun e w' ⟨y1, y2, y3, he, g1, g2, g3, hK⟩ => ⟨(y1, y2, y3), he, trivial, hM.front hK.below hK (hdB_ge g1 g2 g3)⟩); rintro ⟨j1, j2, j3⟩ -; (try simp only [Nat.zero_add, Act.put, List.setIfInBounds_toArray, List.set_cons_succ, List.set_cons_zero]))
    (refine mix_one (i := 3) (by kernel_rfl) rfl (by kernel_rfl) rfl ?_)
    (refine step_call ?_; apply Exists.intro; apply Exists.intro; apply Exists.intro; refine ⟨fun W => ?_, fun W hM => ?_, ?_⟩; (go_simp; exact ⟨rfl, rfl⟩); (exact eqHerd_same d e1 e2 e3 j1 j2 j3 hd.l1 hd.l2 hd.l3 W (hM.ats 4 _ _ _ rfl) (hM.ats 5 _ _ _ rfl) (hM.ats 6 _ _ _ rfl) (hM.ats 0 _ _ _ rfl) (hM.ats 1 _ _ _ rfl) (hM.ats 2 _ _ _ rfl) (hM.apart 4 0 _ _ rfl rfl (by omega)) (hM.apart 5 1 _ _ rfl rfl (by omega)) (hM.apart 6 2 _ _ rfl rfl (by omega))); (try simp only [Nat.zero_add, Act.put, List.setIfInBounds_toArray, List.set_cons_succ, List.set_cons_zero]))
    (refine mix_one (i := 4) (by kernel_rfl) rfl (by kernel_rfl) rfl ?_)
    (refine step_val ?_; apply Exists.intro; refine ⟨fun W => ?_, ?_⟩; (go_simp; rfl); (simp only [Act.put, List.setIfInBounds_toArray, List.set_cons_succ, List.set_cons_zero]))
    (refine mix_end (by kernel_rfl) ?_; intro W' hM)
    go_wp2
    go_ret
    exact ⟨rfl, hM.below⟩
end Go.Proofs.YtcdpdcjdjcbhcaaDoor

