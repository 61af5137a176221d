/-
  Several texts in one: MostPeaceful.
-/
import Derived.Test.YthodkbmenndnoaaDoorP7
import Derived.Test.YthodkbmenndnoaaDoorP12
import Derived.Test.YthodkbmenndnoaaDoorP13
import Derived.Test.YthodkbmenndnoaaDoorP5
/-
  laws.FnExactMostPeaceful returns true.
-/
namespace Go.Proofs.YthodkbmenndnoaaDoor
open Go Go.RowKit Go.BigFrame Go.ChangeShapes Go.WideShapes Go.Deep

set_option maxRecDepth 100000 in
set_option maxHeartbeats 8000000 in
theorem lawMostPeaceful_any {a : Nat → Addr} (v0 : Value) (d0 : Hd) (hd0 : FitsH d0) (w : World) (hE : Errs a w ∧ Tab w) (hG0 : HerdArg w v0 d0) :
    Calls Tryd.prog 14 #[v0] w fun e w' => e = .returned (.bool true) ∧ Below w.heap.size w w' := by
  have hM := Mem.nil w
  have hv0 : ∃ f, v0 = .agg (arr 3 f) := by obtain ⟨v1, v2, v3, e, -⟩ := hG0; exact ⟨_, e⟩
  obtain ⟨f0, rfl⟩ := hv0
  have HG0 := Lib.hid hG0
  have HE := Lib.hid hE.1
  have HT := Lib.hid hE.2
  clear hE hG0
  have tk_b0 : True := trivial; have tk_q0 : True := trivial
  go_enter Tryd.func14, Tryd.ntmps14
  go_wp2_with (first | (have _t := tk_b0; refine wpList_box rfl _ _ rfl _ _ rfl hM ?_; intro b0 W' hb0 hM'; clear hM tk_b0; have hM := hM'; clear hM') | (have _t := tk_q0; refine wpList_get rfl _ _ rfl _ _ rfl hM 0 rfl (rowTab _ _ rfl) (by omega) ?_; simp only [Nat.zero_add]; clear tk_q0))
  go_at_call 15
  refine (szHerd_any _ d0 1048576 hd0 (by omega) (by omega) _ (HG0.out.below hM.below)).mono ?_
  rintro e W' ⟨⟨r0, rfl, rfl | ⟨p0, m0, la0, lb0, lc0⟩⟩, hb⟩
  · have hM' := hM.call hb
    clear hM hb
    go_wp2
    go_ret
    exact ⟨rfl, hM'.below⟩
  have hM' := hM.call hb
  clear hM hb
  have hM := hM'
  clear hM'
  have zz0 : decide (r0 < 0) = false := decide_eq_false (by omega)
  have HA0 : d0.n1 ≤ 1048576 := by omega
  have HB0 : d0.n2 ≤ 1048576 := by omega
  have HC0 : d0.n3 ≤ 1048576 := by omega
  have hS := fun (x0 y0 z0 : Nat) (W : World) (hB0 : Mem W (hdB d0 x0 y0 z0) W) => specMostPeaceful_any d0 x0 y0 z0 hd0 W hB0
  have hI := fun (x0 y0 z0 : Nat) (W : World) (hB0 : Mem W (hdB d0 x0 y0 z0) W) (hE : Errs a W) (hT : Tab W) => implMostPeaceful_any (a := a) d0 x0 y0 z0 hd0 W hB0 hE hT
  unfold GivesF2 at hS hI
  have hLen : (mostR d0 false).length ≤ 1048576 := by unfold mostR; split; have := (mostL_best (mostP d0 false) d0.n1 (List.range d0.n1) (by simp) List.pairwise_lt_range).1.length_le; simp at this; omega; simp
  generalize (mostR d0 false).length = LN at hS hI hLen
  generalize numsF (natI (mostR d0 false)) = HS0 at hS hI
  generalize chkC d0 = CC at hS hI
  have HLn := Lib.hid hLen
  clear hLen
  have HS := Lib.hid hS
  have HI := Lib.hid hI
  clear hS hI
  rcases Nat.eq_zero_or_pos LN with hn | hn
  · have Hn := Lib.hid hn
    clear hn
    obtain ⟨KK0, hKK0⟩ : ∃ q : Nat, q = 1 + d0.n1 + d0.n2 + d0.n3 := ⟨_, rfl⟩
    have hbKK0 : KK0 ≤ 10000000 := by omega
    have hdKK0 : decide ((KK0 : Int) < 0) = false := decide_eq_false (by omega)
    have hnKK0 : ¬ (KK0 : Int) < 0 := by omega
    have HKK0 := Lib.hid (show KK0 = 1 + d0.n1 + d0.n2 + d0.n3 from by omega)
    clear hKK0
    have tk_t2 : True := trivial; have tk_t3 : True := trivial; have tk_t4 : True := trivial; have tk_t6 : True := trivial; have tk_t7 : True := trivial; have tk_x8 : True := trivial; have tk_t9 : True := trivial; have tk_t10 : True := trivial; have tk_t11 : True := trivial; have tk_t12 : True := trivial
    go_wp2_with (first | (have _t := tk_t2; refine wpList_get rfl _ _ rfl _ _ rfl hM 0 rfl (rowTab _ _ rfl) (by omega) ?_; simp only [Nat.zero_add]; clear tk_t2) | (have _t := tk_t3; go_at_call 17; refine (toHerd_any _ d0 HA0 HB0 HC0 _ (HG0.out.below hM.below)).mono ?_; rintro e W' ⟨h1a, h1b, h1c, rfl, g1, g2, g3, hK⟩; have h1ga := Nat.le_trans hM.size g1; have h1gb := Nat.le_trans hM.size g2; have h1gc := Nat.le_trans hM.size g3; have hM' := hM.front hK.below hK (hdB_ge g1 g2 g3); simp only [hdB, List.cons_append, List.nil_append] at hM'; clear hM hK g1 g2 g3; have hM := hM'; clear hM'; clear tk_t3) | (have _t := tk_t4; go_at_call 46; refine (HS.out h1a h1b h1c _ (three_of hM 0 rfl)).mono ?_; rintro e W' ⟨vr, rfl, hL0⟩; obtain ⟨aA, cA, rfl, hbl⟩ := hL0.zero Hn.out; have hM' := hM.call hbl; clear hM hbl hL0; have hM := hM'; clear hM'; clear tk_t4) | (have _t := tk_t6; refine wpList_get rfl _ _ rfl _ _ rfl hM 3 rfl (rowTab _ _ rfl) (by omega) ?_; simp only [Nat.zero_add]; clear tk_t6) | (have _t := tk_t7; go_at_call 17; refine (toHerd_any _ d0 HA0 HB0 HC0 _ (HG0.out.below hM.below)).mono ?_; rintro e W' ⟨h5a, h5b, h5c, rfl, g1, g2, g3, hK⟩; have h5ga := Nat.le_trans hM.size g1; have h5gb := Nat.le_trans hM.size g2; have h5gc := Nat.le_trans hM.size g3; have hM' := hM.front hK.below hK (hdB_ge g1 g2 g3); simp only [hdB, List.cons_append, List.nil_append] at hM'; clear hM hK g1 g2 g3; have hM := hM'; clear hM'; clear tk_t7) | (have _t := tk_x8; refine wpList_zero rfl _ rfl (zeroTab _ _ _ rfl) hM ?_; intro x8 W' hx8 hM'; clear hM tk_x8; have hM := hM'; clear hM') | (have _t := tk_t9; refine wpList_lay rfl _ _ _ rfl _ _ rfl _ _ rfl hM 0 rfl (by assumption) (rowTab _ _ rfl) (by omega) (fun k _ => hdV_one _ _ _ _ _) ?_; intro W' hM'; have hM2 := hM'.re 0 rfl (hdV d0 h5a h5b h5c) (fun k hk => by simp [lay, hk]); simp only [List.set] at hM2; clear hM hM'; have hM := hM2; clear hM2; clear tk_t9) | (have _t := tk_t10; refine wpList_get rfl _ _ rfl _ _ rfl hM 0 rfl (rowTab _ _ rfl) (by omega) ?_; simp only [Nat.zero_add]; clear tk_t10) | (have _t := tk_t11; go_at_call 47; refine (HI.out h5a h5b h5c _ (three_of hM 1 rfl) (HE.out.below hM.below) (HT.out.below hM.below)).mono ?_; rintro e W' ⟨vr, rfl, hL0⟩; obtain ⟨aB, cB, rfl, hbl⟩ := hL0.zero Hn.out; have hM' := hM.call hbl; clear hM hbl hL0; have hM := hM'; clear hM'; clear tk_t11) | (have _t := tk_t12; go_at_call 22; (with_reducible refine (eqInt64S_zero aB aA cB cA _).mono ?_); rintro e W' ⟨rfl, hb'⟩; have hM' := hM.call hb'; clear hM hb'; have hM := hM'; clear hM'; clear tk_t12))
    ((try simp only [Act.put, List.setIfInBounds_toArray, List.set_cons_succ, List.set_cons_zero]); refine region_reads [0, 1] #[true, true, false, false, false] 3 (by kernel_rfl) (by kernel_rfl) (by kernel_rfl) hM ?_; clear hM; (repeat (refine qs_plain rfl rfl ?_; first | (refine b_get _ _ rfl _ _ rfl 0 rfl (rowTab _ _ rfl) (by omega) ?_; (try simp only [Act.put, List.setIfInBounds_toArray, List.set_cons_succ, List.set_cons_zero])) | (refine b_get _ _ rfl _ _ rfl 7 rfl (rowTab _ _ rfl) (by omega) ?_; (try simp only [Act.put, List.setIfInBounds_toArray, List.set_cons_succ, List.set_cons_zero])))); (with_reducible refine qs_nil ?_))
    (refine mix_one (i := 2) (by kernel_rfl) rfl (by kernel_rfl) rfl ?_)
    (refine step_call_more (β := Nat × Nat × Nat) (fun y => .agg (arr 3 (hdV d0 y.1 y.2.1 y.2.2))) (fun y => hdB d0 y.1 y.2.1 y.2.2) (fun _ => True) ?_; apply Exists.intro; apply Exists.intro; refine ⟨fun W => ?_, fun W hM => ?_, ?_⟩; (go_simp; exact ⟨rfl, rfl⟩); (exact (toHerd_any _ d0 HA0 HB0 HC0 W (HG0.out.below hM.below)).mono fun e w' ⟨y1, y2, y3, he, g1, g2, g3, hK⟩ => ⟨(y1, y2, y3), he, trivial, hM.front hK.below hK (hdB_ge g1 g2 g3)⟩); rintro ⟨j13a, j13b, j13c⟩ -; (try simp only [Act.put, List.setIfInBounds_toArray, List.set_cons_succ, List.set_cons_zero]))
    (refine mix_one (i := 3) (by kernel_rfl) rfl (by kernel_rfl) rfl ?_)
    (refine step_call ?_; apply Exists.intro; apply Exists.intro; apply Exists.intro; refine ⟨fun W => ?_, fun W hM => ?_, ?_⟩; (go_simp; exact ⟨rfl, rfl⟩); (exact eqHerd_same d0 h5a h5b h5c j13a j13b j13c hd0.l1 hd0.l2 hd0.l3 W (hM.ats 4 _ _ _ rfl) (hM.ats 5 _ _ _ rfl) (hM.ats 6 _ _ _ rfl) (hM.ats 0 _ _ _ rfl) (hM.ats 1 _ _ _ rfl) (hM.ats 2 _ _ _ rfl) (hM.apart 4 0 _ _ rfl rfl (by omega)) (hM.apart 5 1 _ _ rfl rfl (by omega)) (hM.apart 6 2 _ _ rfl rfl (by omega))); (try simp only [Act.put, List.setIfInBounds_toArray, List.set_cons_succ, List.set_cons_zero]))
    (refine mix_one (i := 4) (by kernel_rfl) rfl (by kernel_rfl) rfl ?_)
    (refine step_val ?_; apply Exists.intro; refine ⟨fun W => ?_, ?_⟩; (go_simp; rfl); (simp only [Act.put, List.setIfInBounds_toArray, List.set_cons_succ, List.set_cons_zero]))
    (refine mix_end (by kernel_rfl) ?_; intro W' hM)
    simp only [hdB, List.cons_append, List.nil_append] at hM
    have tk_t14 : True := trivial; have tk_t15 : True := trivial; have tk_t16 : True := trivial; have tk_t17 : True := trivial; have tk_t18 : True := trivial; have tk_t20 : True := trivial; have tk_t21 : True := trivial; have tk_t22 : True := trivial; have tk_t23 : True := trivial; have tk_t24 : True := trivial
    go_wp2_with (first | (have _t := tk_t14; refine wpList_get rfl _ _ rfl _ _ rfl hM 3 rfl (rowTab _ _ rfl) (by omega) ?_; simp only [Nat.zero_add]; clear tk_t14) | (have _t := tk_t15; go_at_call 23; have hMf := hM; have hMf := hMf.toFront 6 rfl; simp only [List.eraseIdx_cons_succ, List.eraseIdx_cons_zero] at hMf; have hMf := hMf.toFront 6 rfl; simp only [List.eraseIdx_cons_succ, List.eraseIdx_cons_zero] at hMf; have hMf := hMf.toFront 6 rfl; simp only [List.eraseIdx_cons_succ, List.eraseIdx_cons_zero] at hMf; refine (markHerd_any _ _ h5a h5b h5c d0.n1 d0.n2 d0.n3 d0.n1 d0.n2 d0.n3 d0.n1 d0.n2 d0.n3 1 _ _ _ (hdV d0 h5a h5b h5c) rfl rfl rfl (Nat.le_refl _) (Nat.le_refl _) (Nat.le_refl _) HA0 HB0 HC0 (by omega) h5ga h5gb h5gc _ hMf).mono ?_; clear hMf; rintro e W' ⟨rfl, G1, G2, G3, -, -, -, hM'⟩; rw [← HKK0.out]; clear hM; have hM := hM'; clear hM'; clear tk_t15) | (have _t := tk_t16; go_at_call 22; (with_reducible refine (eqInt64S_zero aB aA cB cA _).mono ?_); rintro e W' ⟨rfl, hb'⟩; have hM' := hM.call hb'; clear hM hb'; have hM := hM'; clear hM'; clear tk_t16) | (have _t := tk_t17; go_at_call 24; (with_reducible refine (markInt64S_zero _ _ _ _).mono ?_); rintro e W' ⟨rfl, hb'⟩; have hM' := hM.call hb'; clear hM hb'; have hM := hM'; clear hM'; clear tk_t17) | (have _t := tk_t18; go_at_call 25; (with_reducible refine (heldInt64S_zero _ _ _ _).mono ?_); rintro e W' ⟨rfl, hb'⟩; have hM' := hM.call hb'; clear hM hb'; have hM := hM'; clear hM'; clear tk_t18) | (have _t := tk_t20; refine wpList_get rfl _ _ rfl _ _ rfl hM 10 rfl (rowTab _ _ rfl) (by omega) ?_; simp only [Nat.zero_add]; clear tk_t20) | (have _t := tk_t21; go_at_call 17; refine (toHerd_any _ d0 HA0 HB0 HC0 _ (HG0.out.below hM.below)).mono ?_; rintro e W' ⟨h19a, h19b, h19c, rfl, g1, g2, g3, hK⟩; have h19ga := Nat.le_trans hM.size g1; have h19gb := Nat.le_trans hM.size g2; have h19gc := Nat.le_trans hM.size g3; have hM' := hM.front hK.below hK (hdB_ge g1 g2 g3); simp only [hdB, List.cons_append, List.nil_append] at hM'; clear hM hK g1 g2 g3; have hM := hM'; clear hM'; clear tk_t21) | (have _t := tk_t22; go_at_call 47; refine (HI.out h19a h19b h19c _ (three_of hM 0 rfl) (HE.out.below hM.below) (HT.out.below hM.below)).mono ?_; rintro e W' ⟨vr, rfl, hL0⟩; obtain ⟨aC, cC, rfl, hbl⟩ := hL0.zero Hn.out; have hM' := hM.call hbl; clear hM hbl hL0; have hM := hM'; clear hM'; clear tk_t22) | (have _t := tk_t23; go_at_call 22; (with_reducible refine (eqInt64S_zero aC aA cC cA _).mono ?_); rintro e W' ⟨rfl, hb'⟩; have hM' := hM.call hb'; clear hM hb'; have hM := hM'; clear hM'; clear tk_t23) | (have _t := tk_t24; go_at_call 25; (with_reducible refine (heldInt64S_zero _ _ _ _).mono ?_); rintro e W' ⟨rfl, hb'⟩; have hM' := hM.call hb'; clear hM hb'; have hM := hM'; clear hM'; clear tk_t24))
    go_ret
    exact ⟨rfl, hM.below⟩
  have Hn := Lib.hid hn
  clear hn
  obtain ⟨KK0, hKK0⟩ : ∃ q : Nat, q = 1 + d0.n1 + d0.n2 + d0.n3 := ⟨_, rfl⟩
  have hbKK0 : KK0 ≤ 10000000 := by omega
  have hdKK0 : decide ((KK0 : Int) < 0) = false := decide_eq_false (by omega)
  have hnKK0 : ¬ (KK0 : Int) < 0 := by omega
  have HKK0 := Lib.hid (show KK0 = 1 + d0.n1 + d0.n2 + d0.n3 from by omega)
  clear hKK0
  obtain ⟨MM, hMM⟩ : ∃ q : Nat, q = 1 + LN := ⟨_, rfl⟩
  have hMd : decide ((MM : Int) < 0) = false := decide_eq_false (by omega)
  have hMn : ¬ (MM : Int) < 0 := by omega
  have HMM := Lib.hid hMM
  clear hMM
  have tk_t2 : True := trivial; have tk_t3 : True := trivial; have tk_t4 : True := trivial; have tk_t6 : True := trivial; have tk_t7 : True := trivial; have tk_x8 : True := trivial; have tk_t9 : True := trivial; have tk_t10 : True := trivial; have tk_t11 : True := trivial; have tk_t12 : True := trivial
  go_wp2_with (first | (have _t := tk_t2; refine wpList_get rfl _ _ rfl _ _ rfl hM 0 rfl (rowTab _ _ rfl) (by omega) ?_; simp only [Nat.zero_add]; clear tk_t2) | (have _t := tk_t3; go_at_call 17; refine (toHerd_any _ d0 HA0 HB0 HC0 _ (HG0.out.below hM.below)).mono ?_; rintro e W' ⟨h1a, h1b, h1c, rfl, g1, g2, g3, hK⟩; have h1ga := Nat.le_trans hM.size g1; have h1gb := Nat.le_trans hM.size g2; have h1gc := Nat.le_trans hM.size g3; have hM' := hM.front hK.below hK (hdB_ge g1 g2 g3); simp only [hdB, List.cons_append, List.nil_append] at hM'; clear hM hK g1 g2 g3; have hM := hM'; clear hM'; clear tk_t3) | (have _t := tk_t4; go_at_call 46; refine (HS.out h1a h1b h1c _ (three_of hM 0 rfl)).mono ?_; rintro e W' ⟨vr, rfl, hL0⟩; obtain ⟨bA, cA, NA, FA, rfl, hbA, hNA, hFA, hAA, hbl⟩ := hL0.some Hn.out; simp only [Nat.mul_one] at hNA hFA; have hb2A := Nat.le_trans hM.size hbA; have hM' := hM.freshQ hbl hAA hbA; clear hM hAA hbl hL0; have hM := hM'; clear hM'; clear tk_t4) | (have _t := tk_t6; refine wpList_get rfl _ _ rfl _ _ rfl hM 4 rfl (rowTab _ _ rfl) (by omega) ?_; simp only [Nat.zero_add]; clear tk_t6) | (have _t := tk_t7; go_at_call 17; refine (toHerd_any _ d0 HA0 HB0 HC0 _ (HG0.out.below hM.below)).mono ?_; rintro e W' ⟨h5a, h5b, h5c, rfl, g1, g2, g3, hK⟩; have h5ga := Nat.le_trans hM.size g1; have h5gb := Nat.le_trans hM.size g2; have h5gc := Nat.le_trans hM.size g3; have hM' := hM.front hK.below hK (hdB_ge g1 g2 g3); simp only [hdB, List.cons_append, List.nil_append] at hM'; clear hM hK g1 g2 g3; have hM := hM'; clear hM'; clear tk_t7) | (have _t := tk_x8; refine wpList_zero rfl _ rfl (zeroTab _ _ _ rfl) hM ?_; intro x8 W' hx8 hM'; clear hM tk_x8; have hM := hM'; clear hM') | (have _t := tk_t9; refine wpList_lay rfl _ _ _ rfl _ _ rfl _ _ rfl hM 0 rfl (by assumption) (rowTab _ _ rfl) (by omega) (fun k _ => hdV_one _ _ _ _ _) ?_; intro W' hM'; have hM2 := hM'.re 0 rfl (hdV d0 h5a h5b h5c) (fun k hk => by simp [lay, hk]); simp only [List.set] at hM2; clear hM hM'; have hM := hM2; clear hM2; clear tk_t9) | (have _t := tk_t10; refine wpList_get rfl _ _ rfl _ _ rfl hM 0 rfl (rowTab _ _ rfl) (by omega) ?_; simp only [Nat.zero_add]; clear tk_t10) | (have _t := tk_t11; go_at_call 47; refine (HI.out h5a h5b h5c _ (three_of hM 1 rfl) (HE.out.below hM.below) (HT.out.below hM.below)).mono ?_; rintro e W' ⟨vr, rfl, hL0⟩; obtain ⟨bB, cB, NB, FB, rfl, hbB, hNB, hFB, hAA, hbl⟩ := hL0.some Hn.out; simp only [Nat.mul_one] at hNB hFB; have hb2B := Nat.le_trans hM.size hbB; have hM' := hM.freshQ hbl hAA hbB; clear hM hAA hbl hL0; have hM := hM'; clear hM'; clear tk_t11) | (have _t := tk_t12; go_at_call 22; (with_reducible refine (eqInt64S_list bB bA LN cB cA NB NA FB FA HS0 hFB hFA hNB hNA HLn.out _ (hM.ats 0 _ _ _ rfl) (hM.ats 5 _ _ _ rfl) (hM.apart 0 5 _ _ rfl rfl (by omega))).mono ?_); rintro e W' ⟨rfl, hb'⟩; have hM' := hM.call hb'; clear hM hb'; have hM := hM'; clear hM'; clear tk_t12))
  ((try simp only [Act.put, List.setIfInBounds_toArray, List.set_cons_succ, List.set_cons_zero]); refine region_reads [0, 1] #[true, true, false, false, false] 3 (by kernel_rfl) (by kernel_rfl) (by kernel_rfl) hM ?_; clear hM; (repeat (refine qs_plain rfl rfl ?_; first | (refine b_get _ _ rfl _ _ rfl 1 rfl (rowTab _ _ rfl) (by omega) ?_; (try simp only [Act.put, List.setIfInBounds_toArray, List.set_cons_succ, List.set_cons_zero])) | (refine b_get _ _ rfl _ _ rfl 9 rfl (rowTab _ _ rfl) (by omega) ?_; (try simp only [Act.put, List.setIfInBounds_toArray, List.set_cons_succ, List.set_cons_zero])))); (with_reducible refine qs_nil ?_))
  (refine mix_one (i := 2) (by kernel_rfl) rfl (by kernel_rfl) rfl ?_)
  (refine step_call_more (β := Nat × Nat × Nat) (fun y => .agg (arr 3 (hdV d0 y.1 y.2.1 y.2.2))) (fun y => hdB d0 y.1 y.2.1 y.2.2) (fun _ => True) ?_; apply Exists.intro; apply Exists.intro; refine ⟨fun W => ?_, fun W hM => ?_, ?_⟩; (go_simp; exact ⟨rfl, rfl⟩); (exact (toHerd_any _ d0 HA0 HB0 HC0 W (HG0.out.below hM.below)).mono fun e w' ⟨y1, y2, y3, he, g1, g2, g3, hK⟩ => ⟨(y1, y2, y3), he, trivial, hM.front hK.below hK (hdB_ge g1 g2 g3)⟩); rintro ⟨j13a, j13b, j13c⟩ -; (try simp only [Act.put, List.setIfInBounds_toArray, List.set_cons_succ, List.set_cons_zero]))
  (refine mix_one (i := 3) (by kernel_rfl) rfl (by kernel_rfl) rfl ?_)
  (refine step_call ?_; apply Exists.intro; apply Exists.intro; apply Exists.intro; refine ⟨fun W => ?_, fun W hM => ?_, ?_⟩; (go_simp; exact ⟨rfl, rfl⟩); (exact eqHerd_same d0 h5a h5b h5c j13a j13b j13c hd0.l1 hd0.l2 hd0.l3 W (hM.ats 5 _ _ _ rfl) (hM.ats 6 _ _ _ rfl) (hM.ats 7 _ _ _ rfl) (hM.ats 0 _ _ _ rfl) (hM.ats 1 _ _ _ rfl) (hM.ats 2 _ _ _ rfl) (hM.apart 5 0 _ _ rfl rfl (by omega)) (hM.apart 6 1 _ _ rfl rfl (by omega)) (hM.apart 7 2 _ _ rfl rfl (by omega))); (try simp only [Act.put, List.setIfInBounds_toArray, List.set_cons_succ, List.set_cons_zero]))
  (refine mix_one (i := 4) (by kernel_rfl) rfl (by kernel_rfl) rfl ?_)
  (refine step_val ?_; apply Exists.intro; refine ⟨fun W => ?_, ?_⟩; (go_simp; rfl); (simp only [Act.put, List.setIfInBounds_toArray, List.set_cons_succ, List.set_cons_zero]))
  (refine mix_end (by kernel_rfl) ?_; intro W' hM)
  simp only [hdB, List.cons_append, List.nil_append] at hM
  have tk_t14 : True := trivial; have tk_t15 : True := trivial; have tk_t16 : True := trivial; have tk_t17 : True := trivial; have tk_t18 : True := trivial; have tk_t20 : True := trivial; have tk_t21 : True := trivial; have tk_t22 : True := trivial; have tk_t23 : True := trivial; have tk_t24 : True := trivial
  go_wp2_with (first | (have _t := tk_t14; refine wpList_get rfl _ _ rfl _ _ rfl hM 4 rfl (rowTab _ _ rfl) (by omega) ?_; simp only [Nat.zero_add]; clear tk_t14) | (have _t := tk_t15; go_at_call 23; have hMf := hM; have hMf := hMf.toFront 7 rfl; simp only [List.eraseIdx_cons_succ, List.eraseIdx_cons_zero] at hMf; have hMf := hMf.toFront 7 rfl; simp only [List.eraseIdx_cons_succ, List.eraseIdx_cons_zero] at hMf; have hMf := hMf.toFront 7 rfl; simp only [List.eraseIdx_cons_succ, List.eraseIdx_cons_zero] at hMf; refine (markHerd_any _ _ h5a h5b h5c d0.n1 d0.n2 d0.n3 d0.n1 d0.n2 d0.n3 d0.n1 d0.n2 d0.n3 1 _ _ _ (hdV d0 h5a h5b h5c) rfl rfl rfl (Nat.le_refl _) (Nat.le_refl _) (Nat.le_refl _) HA0 HB0 HC0 (by omega) h5ga h5gb h5gc _ hMf).mono ?_; clear hMf; rintro e W' ⟨rfl, G1, G2, G3, -, -, -, hM'⟩; rw [← HKK0.out]; clear hM; have hM := hM'; clear hM'; clear tk_t15) | (have _t := tk_t16; go_at_call 22; (with_reducible refine (eqInt64S_list bB bA LN cB cA NB NA FB FA HS0 hFB hFA hNB hNA HLn.out _ (hM.ats 6 _ _ _ rfl) (hM.ats 8 _ _ _ rfl) (hM.apart 6 8 _ _ rfl rfl (by omega))).mono ?_); rintro e W' ⟨rfl, hb'⟩; have hM' := hM.call hb'; clear hM hb'; have hM := hM'; clear hM'; clear tk_t16) | (have _t := tk_t17; go_at_call 24; have hMf := hM; have hMf := hMf.toFront 6 rfl; simp only [List.eraseIdx_cons_succ, List.eraseIdx_cons_zero] at hMf; refine (markInt64S_list _ _ bB LN cB NB 1 FB hNB HLn.out (by omega) hb2B _ hMf).mono ?_; clear hMf; rintro e W' ⟨rfl, GB, hGB, hM'⟩; rw [← HMM.out]; clear hM; have hM := hM'; clear hM'; clear tk_t17) | (have _t := tk_t18; go_at_call 25; refine (heldInt64S_list bB LN cB NB 1 GB hNB HLn.out (by omega) hGB _ (hM.ats 0 _ _ _ rfl)).mono ?_; rintro e W' ⟨rfl, hb'⟩; rw [← HMM.out]; have hM' := hM.call hb'; clear hM hb'; have hM := hM'; clear hM'; clear tk_t18) | (have _t := tk_t20; refine wpList_get rfl _ _ rfl _ _ rfl hM 12 rfl (rowTab _ _ rfl) (by omega) ?_; simp only [Nat.zero_add]; clear tk_t20) | (have _t := tk_t21; go_at_call 17; refine (toHerd_any _ d0 HA0 HB0 HC0 _ (HG0.out.below hM.below)).mono ?_; rintro e W' ⟨h19a, h19b, h19c, rfl, g1, g2, g3, hK⟩; have h19ga := Nat.le_trans hM.size g1; have h19gb := Nat.le_trans hM.size g2; have h19gc := Nat.le_trans hM.size g3; have hM' := hM.front hK.below hK (hdB_ge g1 g2 g3); simp only [hdB, List.cons_append, List.nil_append] at hM'; clear hM hK g1 g2 g3; have hM := hM'; clear hM'; clear tk_t21) | (have _t := tk_t22; go_at_call 47; refine (HI.out h19a h19b h19c _ (three_of hM 0 rfl) (HE.out.below hM.below) (HT.out.below hM.below)).mono ?_; rintro e W' ⟨vr, rfl, hL0⟩; obtain ⟨bC, cC, NC, FC, rfl, hbC, hNC, hFC, hAA, hbl⟩ := hL0.some Hn.out; simp only [Nat.mul_one] at hNC hFC; have hb2C := Nat.le_trans hM.size hbC; have hM' := hM.freshQ hbl hAA hbC; clear hM hAA hbl hL0; have hM := hM'; clear hM'; clear tk_t22) | (have _t := tk_t23; go_at_call 22; (with_reducible refine (eqInt64S_list bC bA LN cC cA NC NA FC FA HS0 hFC hFA hNC hNA HLn.out _ (hM.ats 0 _ _ _ rfl) (hM.ats 12 _ _ _ rfl) (hM.apart 0 12 _ _ rfl rfl (by omega))).mono ?_); rintro e W' ⟨rfl, hb'⟩; have hM' := hM.call hb'; clear hM hb'; have hM := hM'; clear hM'; clear tk_t23) | (have _t := tk_t24; go_at_call 25; refine (heldInt64S_list bB LN cB NB 1 GB hNB HLn.out (by omega) hGB _ (hM.ats 4 _ _ _ rfl)).mono ?_; rintro e W' ⟨rfl, hb'⟩; rw [← HMM.out]; have hM' := hM.call hb'; clear hM hb'; have hM := hM'; clear hM'; clear tk_t24))
  go_ret
  exact ⟨rfl, hM.below⟩
end Go.Proofs.YthodkbmenndnoaaDoor

