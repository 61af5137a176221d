/-
  Several texts in one: JoinHerds.
-/
import Derived.Test.YthodkbmenndnoaaDoorP7
import Derived.Test.YthodkbmenndnoaaDoorP18
import Derived.Test.YthodkbmenndnoaaDoorP19
/-
  laws.FnExactJoinHerds returns true.
-/
namespace Go.Proofs.YthodkbmenndnoaaDoor
open Go Go.RowKit Go.BigFrame Go.ChangeShapes Go.WideShapes Go.Deep

set_option maxRecDepth 100000 in
set_option maxHeartbeats 8000000 in
theorem lawJoinHerds_any {a : Nat → Addr} (v0 : Value) (d0 : Hd) (hd0 : FitsH d0) (v1 : Value) (d1 : Hd) (hd1 : FitsH d1) (w : World) (hE : Errs a w ∧ Tab w) (hG0 : HerdArg w v0 d0)  (hG1 : HerdArg w v1 d1) :
    Calls Tryd.prog 9 #[v0, v1] w fun e w' => e = .returned (.bool true) ∧ Below w.heap.size w w' := by
  have hM := Mem.nil w
  have hv0 : ∃ f, v0 = .agg (arr 3 f) := by obtain ⟨v1, v2, v3, e, -⟩ := hG0; exact ⟨_, e⟩
  obtain ⟨f0, rfl⟩ := hv0
  have hv1 : ∃ f, v1 = .agg (arr 3 f) := by obtain ⟨v1, v2, v3, e, -⟩ := hG1; exact ⟨_, e⟩
  obtain ⟨f1, rfl⟩ := hv1
  have HG0 := Lib.hid hG0
  have HG1 := Lib.hid hG1
  have HE := Lib.hid hE.1
  have HT := Lib.hid hE.2
  clear hE hG0 hG1
  have tk_b0 : True := trivial; have tk_b1 : True := trivial; have tk_q0 : True := trivial; have tk_q1 : True := trivial
  go_enter Tryd.func9, Tryd.ntmps9
  go_wp2_with (first | (have _t := tk_b0; refine wpList_box rfl _ _ rfl _ _ rfl hM ?_; intro b0 W' hb0 hM'; clear hM tk_b0; have hM := hM'; clear hM') | (have _t := tk_b1; refine wpList_box rfl _ _ rfl _ _ rfl hM ?_; intro b1 W' hb1 hM'; clear hM tk_b1; have hM := hM'; clear hM') | (have _t := tk_q0; refine wpList_get rfl _ _ rfl _ _ rfl hM 1 rfl (rowTab _ _ rfl) (by omega) ?_; simp only [Nat.zero_add]; clear tk_q0))
  go_at_call 15
  refine (szHerd_any _ d0 1048576 hd0 (by omega) (by omega) _ (HG0.out.below hM.below)).mono ?_
  rintro e W' ⟨⟨r0, rfl, rfl | ⟨p0, m0, la0, lb0, lc0⟩⟩, hb⟩
  · have hM' := hM.call hb
    clear hM hb
    go_wp2
    go_ret
    exact ⟨rfl, hM'.below⟩
  have hM' := hM.call hb
  clear hM hb
  have hM := hM'
  clear hM'
  have zz0 : decide (r0 < 0) = false := decide_eq_false (by omega)
  go_wp2_with (first | (have _t := tk_q1; refine wpList_get rfl _ _ rfl _ _ rfl hM 0 rfl (rowTab _ _ rfl) (by omega) ?_; simp only [Nat.zero_add]; clear tk_q1))
  go_at_call 15
  refine (szHerd_any _ d1 r0 hd1 p0 m0 _ (HG1.out.below hM.below)).mono ?_
  rintro e W' ⟨⟨r1, rfl, rfl | ⟨p1, m1, la1, lb1, lc1⟩⟩, hb⟩
  · have hM' := hM.call hb
    clear hM hb
    go_wp2
    go_ret
    exact ⟨rfl, hM'.below⟩
  have hM' := hM.call hb
  clear hM hb
  have hM := hM'
  clear hM'
  have zz1 : decide (r1 < 0) = false := decide_eq_false (by omega)
  have HA0 : d0.n1 ≤ 1048576 := by omega
  have HB0 : d0.n2 ≤ 1048576 := by omega
  have HC0 : d0.n3 ≤ 1048576 := by omega
  have HA1 : d1.n1 ≤ 1048576 := by omega
  have HB1 : d1.n2 ≤ 1048576 := by omega
  have HC1 : d1.n3 ≤ 1048576 := by omega
  have hS := fun (x0 y0 z0 : Nat) (x1 y1 z1 : Nat) (W : World) (hB0 : Mem W (hdB d0 x0 y0 z0) W) (hB1 : Mem W (hdB d1 x1 y1 z1) W) => specJoinHerds_any d0 x0 y0 z0 hd0 d1 x1 y1 z1 hd1 W hB0 hB1
  have hI := fun (x0 y0 z0 : Nat) (x1 y1 z1 : Nat) (W : World) (hB0 : Mem W (hdB d0 x0 y0 z0) W) (hB1 : Mem W (hdB d1 x1 y1 z1) W) (hE : Errs a W) (hT : Tab W) => implJoinHerds_any (a := a) d0 x0 y0 z0 hd0 d1 x1 y1 z1 hd1 W hB0 hB1 hE hT
  have hLen : jnN d0 d1 ≤ 1048576 := by have hy : jnC d0 d1 = 0 → d0.n1 + d1.n1 ≤ 14 := (fun h => (jn_0 h).2.2.2); unfold jnN; split; have := hy ‹_›; omega; omega
  generalize jnN d0 d1 = LN at hS hI hLen
  generalize (jnD d0 d1).ss = SX at hS hI
  generalize (jnD d0 d1).es = EX at hS hI
  generalize (jnD d0 d1).fs = FX at hS hI
  generalize jnC d0 d1 = CC at hS hI
  have HLn := Lib.hid hLen
  clear hLen
  have HS := Lib.hid hS
  have HI := Lib.hid hI
  clear hS hI
  rcases Nat.eq_zero_or_pos LN with hn | hn
  · have Hn := Lib.hid hn
    clear hn
    obtain ⟨KK0, hKK0⟩ : ∃ q : Nat, q = 1 + d0.n1 + d0.n2 + d0.n3 := ⟨_, rfl⟩
    have hbKK0 : KK0 ≤ 10000000 := by omega
    have hdKK0 : decide ((KK0 : Int) < 0) = false := decide_eq_false (by omega)
    have hnKK0 : ¬ (KK0 : Int) < 0 := by omega
    obtain ⟨KK1, hKK1⟩ : ∃ q : Nat, q = KK0 + d1.n1 + d1.n2 + d1.n3 := ⟨_, rfl⟩
    have hbKK1 : KK1 ≤ 10000000 := by omega
    have hdKK1 : decide ((KK1 : Int) < 0) = false := decide_eq_false (by omega)
    have hnKK1 : ¬ (KK1 : Int) < 0 := by omega
    have HKK0 := Lib.hid (show KK0 = 1 + d0.n1 + d0.n2 + d0.n3 from by omega)
    have HKK1 := Lib.hid (show KK1 = KK0 + d1.n1 + d1.n2 + d1.n3 from by omega)
    clear hKK0
    clear hKK1
    go_wp2
    refine Code.wp_mono ?_ (lawJoinHerds_r8 LN SX EX FX CC d0 HA0 HB0 HC0 _ d1 HA1 HB1 HC1 _ w HG0.out HG1.out (fun x0 y0 z0 x1 y1 z1 W _ m0 m1 => HS.out x0 y0 z0 x1 y1 z1 W m0 m1) _ b0 b1 1 0 rfl rfl _ _ _ _ _ _ _ _ _ _ _ _ _ _ _ _ _ _ _ _ _ _ _ _ _ _ _ _ _ _ _ _ _ _ _ _ _ _ _ _ _ _ _ _ _ _ _ _ _ _ _ _ _ _ _ _ _ _ _ _ _ _ _ _ _ _ _ _ _ _ _ _ _ _ _ _ _ _ _ _ _ _ _ _ _ _ _ _ _ _ _ _ _ _ _ _ _ _ _ _ _ _ _ _ _ _ _ _ _ _ _ _ _ _ _ _ _ _ hM)
    clear hM
    rintro e a' w' ⟨rfl, v0, v1, v2, v3, v4, v5, v6, v7, rA, fA, rfl, hrA, hR⟩
    obtain ⟨aA, caA, bA, cbA, cA, ccA, rfl, hM⟩ := hR.zero Hn.out
    clear hR
    have tk_t2 : True := trivial; have tk_t3 : True := trivial; have tk_x4 : True := trivial; have tk_t5 : True := trivial; have tk_t7 : True := trivial; have tk_t8 : True := trivial; have tk_x9 : True := trivial; have tk_t10 : True := trivial; have tk_t11 : True := trivial; have tk_t12 : True := trivial; have tk_z13 : True := trivial; have tk_t14 : True := trivial; have tk_t15 : True := trivial; have tk_t16 : True := trivial; have tk_t17 : True := trivial; have tk_t18 : True := trivial
    go_wp2_with (first | (have _t := tk_t2; refine wpList_get rfl _ _ rfl _ _ rfl hM 2 rfl (rowTab _ _ rfl) (by omega) ?_; simp only [Nat.zero_add]; clear tk_t2) | (have _t := tk_t3; go_at_call 17; refine (toHerd_any _ d0 HA0 HB0 HC0 _ (HG0.out.below hM.below)).mono ?_; rintro e W' ⟨h1a, h1b, h1c, rfl, g1, g2, g3, hK⟩; have h1ga := Nat.le_trans hM.size g1; have h1gb := Nat.le_trans hM.size g2; have h1gc := Nat.le_trans hM.size g3; have hM' := hM.front hK.below hK (hdB_ge g1 g2 g3); simp only [hdB, List.cons_append, List.nil_append] at hM'; clear hM hK g1 g2 g3; have hM := hM'; clear hM'; clear tk_t3) | (have _t := tk_x4; refine wpList_zero rfl _ rfl (zeroTab _ _ _ rfl) hM ?_; intro x4 W' hx4 hM'; clear hM tk_x4; have hM := hM'; clear hM') | (have _t := tk_t5; refine wpList_lay rfl _ _ _ rfl _ _ rfl _ _ rfl hM 0 rfl (by assumption) (rowTab _ _ rfl) (by omega) (fun k _ => hdV_one _ _ _ _ _) ?_; intro W' hM'; have hM2 := hM'.re 0 rfl (hdV d0 h1a h1b h1c) (fun k hk => by simp [lay, hk]); simp only [List.set] at hM2; clear hM hM'; have hM := hM2; clear hM2; clear tk_t5) | (have _t := tk_t7; refine wpList_get rfl _ _ rfl _ _ rfl hM 5 rfl (rowTab _ _ rfl) (by omega) ?_; simp only [Nat.zero_add]; clear tk_t7) | (have _t := tk_t8; go_at_call 17; refine (toHerd_any _ d1 HA1 HB1 HC1 _ (HG1.out.below hM.below)).mono ?_; rintro e W' ⟨h6a, h6b, h6c, rfl, g1, g2, g3, hK⟩; have h6ga := Nat.le_trans hM.size g1; have h6gb := Nat.le_trans hM.size g2; have h6gc := Nat.le_trans hM.size g3; have hM' := hM.front hK.below hK (hdB_ge g1 g2 g3); simp only [hdB, List.cons_append, List.nil_append] at hM'; clear hM hK g1 g2 g3; have hM := hM'; clear hM'; clear tk_t8) | (have _t := tk_x9; refine wpList_zero rfl _ rfl (zeroTab _ _ _ rfl) hM ?_; intro x9 W' hx9 hM'; clear hM tk_x9; have hM := hM'; clear hM') | (have _t := tk_t10; refine wpList_lay rfl _ _ _ rfl _ _ rfl _ _ rfl hM 0 rfl (by assumption) (rowTab _ _ rfl) (by omega) (fun k _ => hdV_one _ _ _ _ _) ?_; intro W' hM'; have hM2 := hM'.re 0 rfl (hdV d1 h6a h6b h6c) (fun k hk => by simp [lay, hk]); simp only [List.set] at hM2; clear hM hM'; have hM := hM2; clear hM2; clear tk_t10) | (have _t := tk_t11; refine wpList_get rfl _ _ rfl _ _ rfl hM 4 rfl (rowTab _ _ rfl) (by omega) ?_; simp only [Nat.zero_add]; clear tk_t11) | (have _t := tk_t12; refine wpList_get rfl _ _ rfl _ _ rfl hM 0 rfl (rowTab _ _ rfl) (by omega) ?_; simp only [Nat.zero_add]; clear tk_t12) | (have _t := tk_t14; go_at_call 37; refine (HI.out h1a h1b h1c h6a h6b h6c _ (three_of hM 5 rfl) (three_of hM 1 rfl) (HE.out.below hM.below) (HT.out.below hM.below)).mono ?_; rintro e W' ⟨fB, rfl, hL0⟩; obtain ⟨aB, caB, bB, cbB, cB, ccB, rfl, hbl⟩ := hL0.zero Hn.out; have hM' := hM.call hbl; clear hM hbl hL0; have hM := hM'; clear hM'; clear tk_t14) | (have _t := tk_z13; refine wpList_zero rfl _ rfl zeroHerd hM ?_; intro rB W' hrB hM'; clear hM tk_z13; have hM := hM'; clear hM') | (have _t := tk_t15; refine wpList_lay rfl _ _ _ rfl _ _ rfl _ _ rfl hM 0 rfl (by assumption) (rowTab _ _ rfl) (by omega) (fun k _ => h3_one rfl rfl rfl k) ?_; intro W' hM'; have hM2 := hM'.re 0 rfl (h3 (.slice aB 0 caB) (.slice bB 0 cbB) (.slice cB 0 ccB)) (fun k hk => by simp [lay, hk]); simp only [List.set_cons_zero] at hM2; clear hM hM'; have hM := hM2; clear hM2; clear tk_t15) | (have _t := tk_t16; refine wpList_get rfl _ _ rfl _ _ rfl hM 0 rfl (rowTab _ _ rfl) (by omega) ?_; simp only [Nat.zero_add]; clear tk_t16) | (have _t := tk_t17; refine wpList_get rfl _ _ rfl _ _ rfl hM 9 rfl (rowTab _ _ rfl) (by omega) ?_; simp only [Nat.zero_add]; clear tk_t17) | (have _t := tk_t18; go_at_call 19; (with_reducible refine (eqHerd_zero aB bB cB aA bA cA caB cbB ccB caA cbA ccA _).mono ?_); rintro e W' ⟨rfl, hb'⟩; have hM' := hM.call hb'; clear hM hb'; have hM := hM'; clear hM'; clear tk_t18))
    ((try simp only [Act.put, List.setIfInBounds_toArray, List.set_cons_succ, List.set_cons_zero]); refine region_reads [0, 1] #[true, true, false, false, false] 3 (by kernel_rfl) (by kernel_rfl) (by kernel_rfl) hM ?_; clear hM; (repeat (refine qs_plain rfl rfl ?_; first | (refine b_get _ _ rfl _ _ rfl 5 rfl (rowTab _ _ rfl) (by omega) ?_; (try simp only [Act.put, List.setIfInBounds_toArray, List.set_cons_succ, List.set_cons_zero])) | (refine b_get _ _ rfl _ _ rfl 11 rfl (rowTab _ _ rfl) (by omega) ?_; (try simp only [Act.put, List.setIfInBounds_toArray, List.set_cons_succ, List.set_cons_zero])))); (with_reducible refine qs_nil ?_))
    (refine mix_one (i := 2) (by kernel_rfl) rfl (by kernel_rfl) rfl ?_)
    (refine step_call_more (β := Nat × Nat × Nat) (fun y => .agg (arr 3 (hdV d0 y.1 y.2.1 y.2.2))) (fun y => hdB d0 y.1 y.2.1 y.2.2) (fun _ => True) ?_; apply Exists.intro; apply Exists.intro; refine ⟨fun W => ?_, fun W hM => ?_, ?_⟩; (go_simp; exact ⟨rfl, rfl⟩); (exact (toHerd_any _ d0 HA0 HB0 HC0 W (HG0.out.below hM.below)).mono fun e w' ⟨y1, y2, y3, he, g1, g2, g3, hK⟩ => ⟨(y1, y2, y3), he, trivial, hM.front hK.below hK (hdB_ge g1 g2 g3)⟩); rintro ⟨j19a, j19b, j19c⟩ -; (try simp only [Act.put, List.setIfInBounds_toArray, List.set_cons_succ, List.set_cons_zero]))
    (refine mix_one (i := 3) (by kernel_rfl) rfl (by kernel_rfl) rfl ?_)
    (refine step_call ?_; apply Exists.intro; apply Exists.intro; apply Exists.intro; refine ⟨fun W => ?_, fun W hM => ?_, ?_⟩; (go_simp; exact ⟨rfl, rfl⟩); (exact eqHerd_same d0 h1a h1b h1c j19a j19b j19c hd0.l1 hd0.l2 hd0.l3 W (hM.ats 9 _ _ _ rfl) (hM.ats 10 _ _ _ rfl) (hM.ats 11 _ _ _ rfl) (hM.ats 0 _ _ _ rfl) (hM.ats 1 _ _ _ rfl) (hM.ats 2 _ _ _ rfl) (hM.apart 9 0 _ _ rfl rfl (by omega)) (hM.apart 10 1 _ _ rfl rfl (by omega)) (hM.apart 11 2 _ _ rfl rfl (by omega))); (try simp only [Act.put, List.setIfInBounds_toArray, List.set_cons_succ, List.set_cons_zero]))
    (refine mix_one (i := 4) (by kernel_rfl) rfl (by kernel_rfl) rfl ?_)
    (refine step_val ?_; apply Exists.intro; refine ⟨fun W => ?_, ?_⟩; (go_simp; rfl); (simp only [Act.put, List.setIfInBounds_toArray, List.set_cons_succ, List.set_cons_zero]))
    (refine mix_end (by kernel_rfl) ?_; intro W' hM)
    simp only [hdB, List.cons_append, List.nil_append] at hM
    go_wp2
    ((try simp only [Act.put, List.setIfInBounds_toArray, List.set_cons_succ, List.set_cons_zero]); refine region_reads [0, 1] #[true, true, false, false, false] 3 (by kernel_rfl) (by kernel_rfl) (by kernel_rfl) hM ?_; clear hM; (repeat (refine qs_plain rfl rfl ?_; first | (refine b_get _ _ rfl _ _ rfl 4 rfl (rowTab _ _ rfl) (by omega) ?_; (try simp only [Act.put, List.setIfInBounds_toArray, List.set_cons_succ, List.set_cons_zero])) | (refine b_get _ _ rfl _ _ rfl 13 rfl (rowTab _ _ rfl) (by omega) ?_; (try simp only [Act.put, List.setIfInBounds_toArray, List.set_cons_succ, List.set_cons_zero])))); (with_reducible refine qs_nil ?_))
    (refine mix_one (i := 2) (by kernel_rfl) rfl (by kernel_rfl) rfl ?_)
    (refine step_call_more (β := Nat × Nat × Nat) (fun y => .agg (arr 3 (hdV d1 y.1 y.2.1 y.2.2))) (fun y => hdB d1 y.1 y.2.1 y.2.2) (fun _ => True) ?_; apply Exists.intro; apply Exists.intro; refine ⟨fun W => ?_, fun W hM => ?_, ?_⟩; (go_simp; exact ⟨rfl, rfl⟩); (exact (toHerd_any _ d1 HA1 HB1 HC1 W (HG1.out.below hM.below)).mono fun e w' ⟨y1, y2, y3, he, g1, g2, g3, hK⟩ => ⟨(y1, y2, y3), he, trivial, hM.front hK.below hK (hdB_ge g1 g2 g3)⟩); rintro ⟨j20a, j20b, j20c⟩ -; (try simp only [Act.put, List.setIfInBounds_toArray, List.set_cons_succ, List.set_cons_zero]))
    (refine mix_one (i := 3) (by kernel_rfl) rfl (by kernel_rfl) rfl ?_)
    (refine step_call ?_; apply Exists.intro; apply Exists.intro; apply Exists.intro; refine ⟨fun W => ?_, fun W hM => ?_, ?_⟩; (go_simp; exact ⟨rfl, rfl⟩); (exact eqHerd_same d1 h6a h6b h6c j20a j20b j20c hd1.l1 hd1.l2 hd1.l3 W (hM.ats 8 _ _ _ rfl) (hM.ats 9 _ _ _ rfl) (hM.ats 10 _ _ _ rfl) (hM.ats 0 _ _ _ rfl) (hM.ats 1 _ _ _ rfl) (hM.ats 2 _ _ _ rfl) (hM.apart 8 0 _ _ rfl rfl (by omega)) (hM.apart 9 1 _ _ rfl rfl (by omega)) (hM.apart 10 2 _ _ rfl rfl (by omega))); (try simp only [Act.put, List.setIfInBounds_toArray, List.set_cons_succ, List.set_cons_zero]))
    (refine mix_one (i := 4) (by kernel_rfl) rfl (by kernel_rfl) rfl ?_)
    (refine step_val ?_; apply Exists.intro; refine ⟨fun W => ?_, ?_⟩; (go_simp; rfl); (simp only [Act.put, List.setIfInBounds_toArray, List.set_cons_succ, List.set_cons_zero]))
    (refine mix_end (by kernel_rfl) ?_; intro W' hM)
    simp only [hdB, List.cons_append, List.nil_append] at hM
    have tk_t21 : True := trivial; have tk_t22 : True := trivial; have tk_t23 : True := trivial; have tk_t24 : True := trivial; have tk_t25 : True := trivial; have tk_t26 : True := trivial; have tk_t27 : True := trivial; have tk_t28 : True := trivial; have tk_t29 : True := trivial; have tk_t30 : True := trivial; have tk_t31 : True := trivial
    go_wp2_with (first | (have _t := tk_t21; refine wpList_get rfl _ _ rfl _ _ rfl hM 11 rfl (rowTab _ _ rfl) (by omega) ?_; simp only [Nat.zero_add]; clear tk_t21) | (have _t := tk_t22; go_at_call 23; have hMf := hM; have hMf := hMf.toFront 14 rfl; simp only [List.eraseIdx_cons_succ, List.eraseIdx_cons_zero] at hMf; have hMf := hMf.toFront 14 rfl; simp only [List.eraseIdx_cons_succ, List.eraseIdx_cons_zero] at hMf; have hMf := hMf.toFront 14 rfl; simp only [List.eraseIdx_cons_succ, List.eraseIdx_cons_zero] at hMf; refine (markHerd_any _ _ h1a h1b h1c d0.n1 d0.n2 d0.n3 d0.n1 d0.n2 d0.n3 d0.n1 d0.n2 d0.n3 1 _ _ _ (hdV d0 h1a h1b h1c) rfl rfl rfl (Nat.le_refl _) (Nat.le_refl _) (Nat.le_refl _) HA0 HB0 HC0 (by omega) h1ga h1gb h1gc _ hMf).mono ?_; clear hMf; rintro e W' ⟨rfl, G1, G2, G3, -, -, -, hM'⟩; rw [← HKK0.out]; clear hM; have hM := hM'; clear hM'; clear tk_t22) | (have _t := tk_t23; refine wpList_get rfl _ _ rfl _ _ rfl hM 10 rfl (rowTab _ _ rfl) (by omega) ?_; simp only [Nat.zero_add]; clear tk_t23) | (have _t := tk_t24; go_at_call 23; have hMf := hM; have hMf := hMf.toFront 13 rfl; simp only [List.eraseIdx_cons_succ, List.eraseIdx_cons_zero] at hMf; have hMf := hMf.toFront 13 rfl; simp only [List.eraseIdx_cons_succ, List.eraseIdx_cons_zero] at hMf; have hMf := hMf.toFront 13 rfl; simp only [List.eraseIdx_cons_succ, List.eraseIdx_cons_zero] at hMf; refine (markHerd_any _ _ h6a h6b h6c d1.n1 d1.n2 d1.n3 d1.n1 d1.n2 d1.n3 d1.n1 d1.n2 d1.n3 KK0 _ _ _ (hdV d1 h6a h6b h6c) rfl rfl rfl (Nat.le_refl _) (Nat.le_refl _) (Nat.le_refl _) HA1 HB1 HC1 (by omega) h6ga h6gb h6gc _ hMf).mono ?_; clear hMf; rintro e W' ⟨rfl, G1, G2, G3, -, -, -, hM'⟩; rw [← HKK1.out]; clear hM; have hM := hM'; clear hM'; clear tk_t24) | (have _t := tk_t25; refine wpList_gget ?_ _ _ rfl _ _ rfl hM 12 rfl (rowTab _ _ rfl) (by omega) ?_; kernel_rfl; simp only [Nat.zero_add]; clear tk_t25) | (have _t := tk_t26; refine wpList_gget ?_ _ _ rfl _ _ rfl hM 15 rfl (rowTab _ _ rfl) (by omega) ?_; kernel_rfl; simp only [Nat.zero_add]; clear tk_t26) | (have _t := tk_t27; go_at_call 19; (with_reducible refine (eqHerd_zero aB bB cB aA bA cA caB cbB ccB caA cbA ccA _).mono ?_); rintro e W' ⟨rfl, hb'⟩; have hM' := hM.call hb'; clear hM hb'; have hM := hM'; clear hM'; clear tk_t27) | (have _t := tk_t28; refine wpList_get rfl _ _ rfl _ _ rfl hM 12 rfl (rowTab _ _ rfl) (by omega) ?_; simp only [Nat.zero_add]; clear tk_t28) | (have _t := tk_t29; go_at_call 23; (with_reducible refine (markHerd_zero _ _ _ _ _ _ _).mono ?_); rintro e W' ⟨rfl, hb'⟩; have hM' := hM.call hb'; clear hM hb'; have hM := hM'; clear hM'; clear tk_t29) | (have _t := tk_t30; refine wpList_get rfl _ _ rfl _ _ rfl hM 12 rfl (rowTab _ _ rfl) (by omega) ?_; simp only [Nat.zero_add]; clear tk_t30) | (have _t := tk_t31; go_at_call 30; (with_reducible refine (heldHerd_zero _ _ _ _ _ _ _).mono ?_); rintro e W' ⟨rfl, hb'⟩; have hM' := hM.call hb'; clear hM hb'; have hM := hM'; clear hM'; clear tk_t31))
    refine Code.wp_mono ?_ (lawJoinHerds_r31 LN SX EX FX CC d0 HA0 HB0 HC0 _ d1 HA1 HB1 HC1 _ w HG0.out HG1.out (fun x0 y0 z0 x1 y1 z1 W hb m0 m1 => HI.out x0 y0 z0 x1 y1 z1 W m0 m1 (HE.out.below hb) (HT.out.below hb)) _ b0 b1 17 16 rfl rfl _ _ _ _ _ _ _ _ _ _ _ _ _ _ _ _ _ _ _ _ _ _ _ _ _ _ _ _ _ _ _ _ _ _ _ _ _ _ _ _ _ _ _ _ _ _ _ _ _ _ _ _ _ _ _ _ _ _ _ _ _ _ _ _ _ _ _ _ _ _ _ _ _ _ _ _ _ _ _ _ _ _ _ _ _ _ _ _ _ _ _ _ _ _ _ _ _ _ _ _ _ _ _ _ _ _ _ _ _ _ _ _ _ _ _ _ _ _ hM)
    clear hM
    rintro e a' w' ⟨rfl, v0, v1, v2, v3, v4, v5, v6, v7, rC, fC, rfl, hrC, hR⟩
    obtain ⟨aC, caC, bC, cbC, cC, ccC, rfl, hM⟩ := hR.zero Hn.out
    clear hR
    have tk_t32 : True := trivial; have tk_t33 : True := trivial; have tk_t34 : True := trivial; have tk_t35 : True := trivial; have tk_t36 : True := trivial
    go_wp2_with (first | (have _t := tk_t32; refine wpList_get rfl _ _ rfl _ _ rfl hM 0 rfl (rowTab _ _ rfl) (by omega) ?_; simp only [Nat.zero_add]; clear tk_t32) | (have _t := tk_t33; refine wpList_get rfl _ _ rfl _ _ rfl hM 16 rfl (rowTab _ _ rfl) (by omega) ?_; simp only [Nat.zero_add]; clear tk_t33) | (have _t := tk_t34; go_at_call 19; (with_reducible refine (eqHerd_zero aC bC cC aA bA cA caC cbC ccC caA cbA ccA _).mono ?_); rintro e W' ⟨rfl, hb'⟩; have hM' := hM.call hb'; clear hM hb'; have hM := hM'; clear hM'; clear tk_t34) | (have _t := tk_t35; refine wpList_get rfl _ _ rfl _ _ rfl hM 13 rfl (rowTab _ _ rfl) (by omega) ?_; simp only [Nat.zero_add]; clear tk_t35) | (have _t := tk_t36; go_at_call 30; (with_reducible refine (heldHerd_zero _ _ _ _ _ _ _).mono ?_); rintro e W' ⟨rfl, hb'⟩; have hM' := hM.call hb'; clear hM hb'; have hM := hM'; clear hM'; clear tk_t36))
    go_ret
    exact ⟨rfl, hM.below⟩
  have Hn := Lib.hid hn
  clear hn
  obtain ⟨KK0, hKK0⟩ : ∃ q : Nat, q = 1 + d0.n1 + d0.n2 + d0.n3 := ⟨_, rfl⟩
  have hbKK0 : KK0 ≤ 10000000 := by omega
  have hdKK0 : decide ((KK0 : Int) < 0) = false := decide_eq_false (by omega)
  have hnKK0 : ¬ (KK0 : Int) < 0 := by omega
  obtain ⟨KK1, hKK1⟩ : ∃ q : Nat, q = KK0 + d1.n1 + d1.n2 + d1.n3 := ⟨_, rfl⟩
  have hbKK1 : KK1 ≤ 10000000 := by omega
  have hdKK1 : decide ((KK1 : Int) < 0) = false := decide_eq_false (by omega)
  have hnKK1 : ¬ (KK1 : Int) < 0 := by omega
  have HKK0 := Lib.hid (show KK0 = 1 + d0.n1 + d0.n2 + d0.n3 from by omega)
  have HKK1 := Lib.hid (show KK1 = KK0 + d1.n1 + d1.n2 + d1.n3 from by omega)
  clear hKK0
  clear hKK1
  obtain ⟨MM, hMM⟩ : ∃ q : Nat, q = 1 + LN + LN + LN := ⟨_, rfl⟩
  have hMd : decide ((MM : Int) < 0) = false := decide_eq_false (by omega)
  have hMn : ¬ (MM : Int) < 0 := by omega
  have HMM := Lib.hid hMM
  clear hMM
  go_wp2
  refine Code.wp_mono ?_ (lawJoinHerds_r8 LN SX EX FX CC d0 HA0 HB0 HC0 _ d1 HA1 HB1 HC1 _ w HG0.out HG1.out (fun x0 y0 z0 x1 y1 z1 W _ m0 m1 => HS.out x0 y0 z0 x1 y1 z1 W m0 m1) _ b0 b1 1 0 rfl rfl _ _ _ _ _ _ _ _ _ _ _ _ _ _ _ _ _ _ _ _ _ _ _ _ _ _ _ _ _ _ _ _ _ _ _ _ _ _ _ _ _ _ _ _ _ _ _ _ _ _ _ _ _ _ _ _ _ _ _ _ _ _ _ _ _ _ _ _ _ _ _ _ _ _ _ _ _ _ _ _ _ _ _ _ _ _ _ _ _ _ _ _ _ _ _ _ _ _ _ _ _ _ _ _ _ _ _ _ _ _ _ _ _ _ _ _ _ _ hM)
  clear hM
  rintro e a' w' ⟨rfl, v0, v1, v2, v3, v4, v5, v6, v7, rA, fA, rfl, hrA, hR⟩
  obtain ⟨aA, caA, NaA, FaA, bA, cbA, NbA, FbA, cA, ccA, NcA, FcA, rfl, hgA, hNA, hFA, hM⟩ := hR.some Hn.out
  have hGA := Lib.hid hgA
  have HNA := Lib.hid hNA
  have HFA := Lib.hid hFA
  clear hgA hNA hFA hR
  have tk_t2 : True := trivial; have tk_t3 : True := trivial; have tk_x4 : True := trivial; have tk_t5 : True := trivial; have tk_t7 : True := trivial; have tk_t8 : True := trivial; have tk_x9 : True := trivial; have tk_t10 : True := trivial; have tk_t11 : True := trivial; have tk_t12 : True := trivial; have tk_z13 : True := trivial; have tk_t14 : True := trivial; have tk_t15 : True := trivial; have tk_t16 : True := trivial; have tk_t17 : True := trivial; have tk_t18 : True := trivial
  go_wp2_with (first | (have _t := tk_t2; refine wpList_get rfl _ _ rfl _ _ rfl hM 5 rfl (rowTab _ _ rfl) (by omega) ?_; simp only [Nat.zero_add]; clear tk_t2) | (have _t := tk_t3; go_at_call 17; refine (toHerd_any _ d0 HA0 HB0 HC0 _ (HG0.out.below hM.below)).mono ?_; rintro e W' ⟨h1a, h1b, h1c, rfl, g1, g2, g3, hK⟩; have h1ga := Nat.le_trans hM.size g1; have h1gb := Nat.le_trans hM.size g2; have h1gc := Nat.le_trans hM.size g3; have hM' := hM.front hK.below hK (hdB_ge g1 g2 g3); simp only [hdB, List.cons_append, List.nil_append] at hM'; clear hM hK g1 g2 g3; have hM := hM'; clear hM'; clear tk_t3) | (have _t := tk_x4; refine wpList_zero rfl _ rfl (zeroTab _ _ _ rfl) hM ?_; intro x4 W' hx4 hM'; clear hM tk_x4; have hM := hM'; clear hM') | (have _t := tk_t5; refine wpList_lay rfl _ _ _ rfl _ _ rfl _ _ rfl hM 0 rfl (by assumption) (rowTab _ _ rfl) (by omega) (fun k _ => hdV_one _ _ _ _ _) ?_; intro W' hM'; have hM2 := hM'.re 0 rfl (hdV d0 h1a h1b h1c) (fun k hk => by simp [lay, hk]); simp only [List.set] at hM2; clear hM hM'; have hM := hM2; clear hM2; clear tk_t5) | (have _t := tk_t7; refine wpList_get rfl _ _ rfl _ _ rfl hM 8 rfl (rowTab _ _ rfl) (by omega) ?_; simp only [Nat.zero_add]; clear tk_t7) | (have _t := tk_t8; go_at_call 17; refine (toHerd_any _ d1 HA1 HB1 HC1 _ (HG1.out.below hM.below)).mono ?_; rintro e W' ⟨h6a, h6b, h6c, rfl, g1, g2, g3, hK⟩; have h6ga := Nat.le_trans hM.size g1; have h6gb := Nat.le_trans hM.size g2; have h6gc := Nat.le_trans hM.size g3; have hM' := hM.front hK.below hK (hdB_ge g1 g2 g3); simp only [hdB, List.cons_append, List.nil_append] at hM'; clear hM hK g1 g2 g3; have hM := hM'; clear hM'; clear tk_t8) | (have _t := tk_x9; refine wpList_zero rfl _ rfl (zeroTab _ _ _ rfl) hM ?_; intro x9 W' hx9 hM'; clear hM tk_x9; have hM := hM'; clear hM') | (have _t := tk_t10; refine wpList_lay rfl _ _ _ rfl _ _ rfl _ _ rfl hM 0 rfl (by assumption) (rowTab _ _ rfl) (by omega) (fun k _ => hdV_one _ _ _ _ _) ?_; intro W' hM'; have hM2 := hM'.re 0 rfl (hdV d1 h6a h6b h6c) (fun k hk => by simp [lay, hk]); simp only [List.set] at hM2; clear hM hM'; have hM := hM2; clear hM2; clear tk_t10) | (have _t := tk_t11; refine wpList_get rfl _ _ rfl _ _ rfl hM 4 rfl (rowTab _ _ rfl) (by omega) ?_; simp only [Nat.zero_add]; clear tk_t11) | (have _t := tk_t12; refine wpList_get rfl _ _ rfl _ _ rfl hM 0 rfl (rowTab _ _ rfl) (by omega) ?_; simp only [Nat.zero_add]; clear tk_t12) | (have _t := tk_t14; go_at_call 37; refine (HI.out h1a h1b h1c h6a h6b h6c _ (three_of hM 5 rfl) (three_of hM 1 rfl) (HE.out.below hM.below) (HT.out.below hM.below)).mono ?_; rintro e W' ⟨fB, rfl, hL0⟩; obtain ⟨aB, caB, NaB, FaB, bB, cbB, NbB, FbB, cB, ccB, NcB, FcB, rfl, hbB, hNB, hFB, hK⟩ := hL0.some Hn.out; have hGB := Lib.hid (And.intro (Nat.le_trans hM.size hbB.1) (And.intro (Nat.le_trans hM.size hbB.2.1) (Nat.le_trans hM.size hbB.2.2))); have HNB := Lib.hid hNB; have HFB := Lib.hid hFB; have hM' := hM.front hK.below hK (fun i p h => by rcases i with _ | _ | _ | i <;> simp at h <;> (rw [← h]; first | exact hbB.1 | exact hbB.2.1 | exact hbB.2.2)); clear hM hK hL0 hbB hNB hFB; have hM := hM'; clear hM'; simp only [List.cons_append, List.nil_append] at hM; clear tk_t14) | (have _t := tk_z13; refine wpList_zero rfl _ rfl zeroHerd hM ?_; intro rB W' hrB hM'; clear hM tk_z13; have hM := hM'; clear hM') | (have _t := tk_t15; refine wpList_lay rfl _ _ _ rfl _ _ rfl _ _ rfl hM 0 rfl (by assumption) (rowTab _ _ rfl) (by omega) (fun k _ => h3_one rfl rfl rfl k) ?_; intro W' hM'; have hM2 := hM'.re 0 rfl (h3 (.slice (some ⟨aB, 0, none⟩) LN caB) (.slice (some ⟨bB, 0, none⟩) LN cbB) (.slice (some ⟨cB, 0, none⟩) LN ccB)) (fun k hk => by simp [lay, hk]); simp only [List.set_cons_zero] at hM2; clear hM hM'; have hM := hM2; clear hM2; clear tk_t15) | (have _t := tk_t16; refine wpList_get rfl _ _ rfl _ _ rfl hM 0 rfl (rowTab _ _ rfl) (by omega) ?_; simp only [Nat.zero_add]; clear tk_t16) | (have _t := tk_t17; refine wpList_get rfl _ _ rfl _ _ rfl hM 12 rfl (rowTab _ _ rfl) (by omega) ?_; simp only [Nat.zero_add]; clear tk_t17) | (have _t := tk_t18; go_at_call 19; (with_reducible refine (eqHerd_list LN SX EX FX HLn.out aB caB NaB bB cbB NbB cB ccB NcB aA caA NaA bA cbA NbA cA ccA NcA FaB FbB FcB FaA FbA FcA (h3 (.slice (some ⟨aB, 0, none⟩) LN caB) (.slice (some ⟨bB, 0, none⟩) LN cbB) (.slice (some ⟨cB, 0, none⟩) LN ccB)) (h3 (.slice (some ⟨aA, 0, none⟩) LN caA) (.slice (some ⟨bA, 0, none⟩) LN cbA) (.slice (some ⟨cA, 0, none⟩) LN ccA)) rfl rfl rfl rfl rfl rfl HNB.out HNA.out HFB.out HFA.out _ (hM.ats 1 _ _ _ rfl) (hM.ats 2 _ _ _ rfl) (hM.ats 3 _ _ _ rfl) (hM.ats 13 _ _ _ rfl) (hM.ats 14 _ _ _ rfl) (hM.ats 15 _ _ _ rfl) (hM.apart 1 13 _ _ rfl rfl (by omega)) (hM.apart 2 14 _ _ rfl rfl (by omega)) (hM.apart 3 15 _ _ rfl rfl (by omega))).mono ?_); rintro e W' ⟨rfl, hb'⟩; have hM' := hM.call hb'; clear hM hb'; have hM := hM'; clear hM'; clear tk_t18))
  ((try simp only [Act.put, List.setIfInBounds_toArray, List.set_cons_succ, List.set_cons_zero]); refine region_reads [0, 1] #[true, true, false, false, false] 3 (by kernel_rfl) (by kernel_rfl) (by kernel_rfl) hM ?_; clear hM; (repeat (refine qs_plain rfl rfl ?_; first | (refine b_get _ _ rfl _ _ rfl 8 rfl (rowTab _ _ rfl) (by omega) ?_; (try simp only [Act.put, List.setIfInBounds_toArray, List.set_cons_succ, List.set_cons_zero])) | (refine b_get _ _ rfl _ _ rfl 17 rfl (rowTab _ _ rfl) (by omega) ?_; (try simp only [Act.put, List.setIfInBounds_toArray, List.set_cons_succ, List.set_cons_zero])))); (with_reducible refine qs_nil ?_))
  (refine mix_one (i := 2) (by kernel_rfl) rfl (by kernel_rfl) rfl ?_)
  (refine step_call_more (β := Nat × Nat × Nat) (fun y => .agg (arr 3 (hdV d0 y.1 y.2.1 y.2.2))) (fun y => hdB d0 y.1 y.2.1 y.2.2) (fun _ => True) ?_; apply Exists.intro; apply Exists.intro; refine ⟨fun W => ?_, fun W hM => ?_, ?_⟩; (go_simp; exact ⟨rfl, rfl⟩); (exact (toHerd_any _ d0 HA0 HB0 HC0 W (HG0.out.below hM.below)).mono fun e w' ⟨y1, y2, y3, he, g1, g2, g3, hK⟩ => ⟨(y1, y2, y3), he, trivial, hM.front hK.below hK (hdB_ge g1 g2 g3)⟩); rintro ⟨j19a, j19b, j19c⟩ -; (try simp only [Act.put, List.setIfInBounds_toArray, List.set_cons_succ, List.set_cons_zero]))
  (refine mix_one (i := 3) (by kernel_rfl) rfl (by kernel_rfl) rfl ?_)
  (refine step_call ?_; apply Exists.intro; apply Exists.intro; apply Exists.intro; refine ⟨fun W => ?_, fun W hM => ?_, ?_⟩; (go_simp; exact ⟨rfl, rfl⟩); (exact eqHerd_same d0 h1a h1b h1c j19a j19b j19c hd0.l1 hd0.l2 hd0.l3 W (hM.ats 12 _ _ _ rfl) (hM.ats 13 _ _ _ rfl) (hM.ats 14 _ _ _ rfl) (hM.ats 0 _ _ _ rfl) (hM.ats 1 _ _ _ rfl) (hM.ats 2 _ _ _ rfl) (hM.apart 12 0 _ _ rfl rfl (by omega)) (hM.apart 13 1 _ _ rfl rfl (by omega)) (hM.apart 14 2 _ _ rfl rfl (by omega))); (try simp only [Act.put, List.setIfInBounds_toArray, List.set_cons_succ, List.set_cons_zero]))
  (refine mix_one (i := 4) (by kernel_rfl) rfl (by kernel_rfl) rfl ?_)
  (refine step_val ?_; apply Exists.intro; refine ⟨fun W => ?_, ?_⟩; (go_simp; rfl); (simp only [Act.put, List.setIfInBounds_toArray, List.set_cons_succ, List.set_cons_zero]))
  (refine mix_end (by kernel_rfl) ?_; intro W' hM)
  simp only [hdB, List.cons_append, List.nil_append] at hM
  go_wp2
  ((try simp only [Act.put, List.setIfInBounds_toArray, List.set_cons_succ, List.set_cons_zero]); refine region_reads [0, 1] #[true, true, false, false, false] 3 (by kernel_rfl) (by kernel_rfl) (by kernel_rfl) hM ?_; clear hM; (repeat (refine qs_plain rfl rfl ?_; first | (refine b_get _ _ rfl _ _ rfl 7 rfl (rowTab _ _ rfl) (by omega) ?_; (try simp only [Act.put, List.setIfInBounds_toArray, List.set_cons_succ, List.set_cons_zero])) | (refine b_get _ _ rfl _ _ rfl 19 rfl (rowTab _ _ rfl) (by omega) ?_; (try simp only [Act.put, List.setIfInBounds_toArray, List.set_cons_succ, List.set_cons_zero])))); (with_reducible refine qs_nil ?_))
  (refine mix_one (i := 2) (by kernel_rfl) rfl (by kernel_rfl) rfl ?_)
  (refine step_call_more (β := Nat × Nat × Nat) (fun y => .agg (arr 3 (hdV d1 y.1 y.2.1 y.2.2))) (fun y => hdB d1 y.1 y.2.1 y.2.2) (fun _ => True) ?_; apply Exists.intro; apply Exists.intro; refine ⟨fun W => ?_, fun W hM => ?_, ?_⟩; (go_simp; exact ⟨rfl, rfl⟩); (exact (toHerd_any _ d1 HA1 HB1 HC1 W (HG1.out.below hM.below)).mono fun e w' ⟨y1, y2, y3, he, g1, g2, g3, hK⟩ => ⟨(y1, y2, y3), he, trivial, hM.front hK.below hK (hdB_ge g1 g2 g3)⟩); rintro ⟨j20a, j20b, j20c⟩ -; (try simp only [Act.put, List.setIfInBounds_toArray, List.set_cons_succ, List.set_cons_zero]))
  (refine mix_one (i := 3) (by kernel_rfl) rfl (by kernel_rfl) rfl ?_)
  (refine step_call ?_; apply Exists.intro; apply Exists.intro; apply Exists.intro; refine ⟨fun W => ?_, fun W hM => ?_, ?_⟩; (go_simp; exact ⟨rfl, rfl⟩); (exact eqHerd_same d1 h6a h6b h6c j20a j20b j20c hd1.l1 hd1.l2 hd1.l3 W (hM.ats 11 _ _ _ rfl) (hM.ats 12 _ _ _ rfl) (hM.ats 13 _ _ _ rfl) (hM.ats 0 _ _ _ rfl) (hM.ats 1 _ _ _ rfl) (hM.ats 2 _ _ _ rfl) (hM.apart 11 0 _ _ rfl rfl (by omega)) (hM.apart 12 1 _ _ rfl rfl (by omega)) (hM.apart 13 2 _ _ rfl rfl (by omega))); (try simp only [Act.put, List.setIfInBounds_toArray, List.set_cons_succ, List.set_cons_zero]))
  (refine mix_one (i := 4) (by kernel_rfl) rfl (by kernel_rfl) rfl ?_)
  (refine step_val ?_; apply Exists.intro; refine ⟨fun W => ?_, ?_⟩; (go_simp; rfl); (simp only [Act.put, List.setIfInBounds_toArray, List.set_cons_succ, List.set_cons_zero]))
  (refine mix_end (by kernel_rfl) ?_; intro W' hM)
  simp only [hdB, List.cons_append, List.nil_append] at hM
  have tk_t21 : True := trivial; have tk_t22 : True := trivial; have tk_t23 : True := trivial; have tk_t24 : True := trivial; have tk_t25 : True := trivial; have tk_t26 : True := trivial; have tk_t27 : True := trivial; have tk_t28 : True := trivial; have tk_t29 : True := trivial; have tk_t30 : True := trivial; have tk_t31 : True := trivial
  go_wp2_with (first | (have _t := tk_t21; refine wpList_get rfl _ _ rfl _ _ rfl hM 14 rfl (rowTab _ _ rfl) (by omega) ?_; simp only [Nat.zero_add]; clear tk_t21) | (have _t := tk_t22; go_at_call 23; have hMf := hM; have hMf := hMf.toFront 17 rfl; simp only [List.eraseIdx_cons_succ, List.eraseIdx_cons_zero] at hMf; have hMf := hMf.toFront 17 rfl; simp only [List.eraseIdx_cons_succ, List.eraseIdx_cons_zero] at hMf; have hMf := hMf.toFront 17 rfl; simp only [List.eraseIdx_cons_succ, List.eraseIdx_cons_zero] at hMf; refine (markHerd_any _ _ h1a h1b h1c d0.n1 d0.n2 d0.n3 d0.n1 d0.n2 d0.n3 d0.n1 d0.n2 d0.n3 1 _ _ _ (hdV d0 h1a h1b h1c) rfl rfl rfl (Nat.le_refl _) (Nat.le_refl _) (Nat.le_refl _) HA0 HB0 HC0 (by omega) h1ga h1gb h1gc _ hMf).mono ?_; clear hMf; rintro e W' ⟨rfl, G1, G2, G3, -, -, -, hM'⟩; rw [← HKK0.out]; clear hM; have hM := hM'; clear hM'; clear tk_t22) | (have _t := tk_t23; refine wpList_get rfl _ _ rfl _ _ rfl hM 13 rfl (rowTab _ _ rfl) (by omega) ?_; simp only [Nat.zero_add]; clear tk_t23) | (have _t := tk_t24; go_at_call 23; have hMf := hM; have hMf := hMf.toFront 16 rfl; simp only [List.eraseIdx_cons_succ, List.eraseIdx_cons_zero] at hMf; have hMf := hMf.toFront 16 rfl; simp only [List.eraseIdx_cons_succ, List.eraseIdx_cons_zero] at hMf; have hMf := hMf.toFront 16 rfl; simp only [List.eraseIdx_cons_succ, List.eraseIdx_cons_zero] at hMf; refine (markHerd_any _ _ h6a h6b h6c d1.n1 d1.n2 d1.n3 d1.n1 d1.n2 d1.n3 d1.n1 d1.n2 d1.n3 KK0 _ _ _ (hdV d1 h6a h6b h6c) rfl rfl rfl (Nat.le_refl _) (Nat.le_refl _) (Nat.le_refl _) HA1 HB1 HC1 (by omega) h6ga h6gb h6gc _ hMf).mono ?_; clear hMf; rintro e W' ⟨rfl, G1, G2, G3, -, -, -, hM'⟩; rw [← HKK1.out]; clear hM; have hM := hM'; clear hM'; clear tk_t24) | (have _t := tk_t25; refine wpList_gget ?_ _ _ rfl _ _ rfl hM 12 rfl (rowTab _ _ rfl) (by omega) ?_; kernel_rfl; simp only [Nat.zero_add]; clear tk_t25) | (have _t := tk_t26; refine wpList_gget ?_ _ _ rfl _ _ rfl hM 18 rfl (rowTab _ _ rfl) (by omega) ?_; kernel_rfl; simp only [Nat.zero_add]; clear tk_t26) | (have _t := tk_t27; go_at_call 19; (with_reducible refine (eqHerd_list LN SX EX FX HLn.out aB caB NaB bB cbB NbB cB ccB NcB aA caA NaA bA cbA NbA cA ccA NcA FaB FbB FcB FaA FbA FcA (h3 (.slice (some ⟨aB, 0, none⟩) LN caB) (.slice (some ⟨bB, 0, none⟩) LN cbB) (.slice (some ⟨cB, 0, none⟩) LN ccB)) (h3 (.slice (some ⟨aA, 0, none⟩) LN caA) (.slice (some ⟨bA, 0, none⟩) LN cbA) (.slice (some ⟨cA, 0, none⟩) LN ccA)) rfl rfl rfl rfl rfl rfl HNB.out HNA.out HFB.out HFA.out _ (hM.ats 13 _ _ _ rfl) (hM.ats 14 _ _ _ rfl) (hM.ats 15 _ _ _ rfl) (hM.ats 19 _ _ _ rfl) (hM.ats 20 _ _ _ rfl) (hM.ats 21 _ _ _ rfl) (hM.apart 13 19 _ _ rfl rfl (by omega)) (hM.apart 14 20 _ _ rfl rfl (by omega)) (hM.apart 15 21 _ _ rfl rfl (by omega))).mono ?_); rintro e W' ⟨rfl, hb'⟩; have hM' := hM.call hb'; clear hM hb'; have hM := hM'; clear hM'; clear tk_t27) | (have _t := tk_t28; refine wpList_get rfl _ _ rfl _ _ rfl hM 12 rfl (rowTab _ _ rfl) (by omega) ?_; simp only [Nat.zero_add]; clear tk_t28) | (have _t := tk_t29; go_at_call 23; have hMf := hM; have hMf := hMf.toFront 15 rfl; simp only [List.eraseIdx_cons_succ, List.eraseIdx_cons_zero] at hMf; have hMf := hMf.toFront 15 rfl; simp only [List.eraseIdx_cons_succ, List.eraseIdx_cons_zero] at hMf; have hMf := hMf.toFront 15 rfl; simp only [List.eraseIdx_cons_succ, List.eraseIdx_cons_zero] at hMf; refine (markHerd_any _ _ aB bB cB LN LN LN caB cbB ccB NaB NbB NcB 1 _ _ _ (h3 (.slice (some ⟨aB, 0, none⟩) LN caB) (.slice (some ⟨bB, 0, none⟩) LN cbB) (.slice (some ⟨cB, 0, none⟩) LN ccB)) rfl rfl rfl HNB.out.1 HNB.out.2.1 HNB.out.2.2 HLn.out HLn.out HLn.out (by omega) hGB.out.1 hGB.out.2.1 hGB.out.2.2 _ hMf).mono ?_; clear hMf; rintro e W' ⟨rfl, M1, M2, M3, hm1, hm2, hm3, hM'⟩; have HM1 := Lib.hid hm1; have HM2 := Lib.hid hm2; have HM3 := Lib.hid hm3; rw [← HMM.out]; clear hM hm1 hm2 hm3; have hM := hM'; clear hM'; clear tk_t29) | (have _t := tk_t30; refine wpList_get rfl _ _ rfl _ _ rfl hM 15 rfl (rowTab _ _ rfl) (by omega) ?_; simp only [Nat.zero_add]; clear tk_t30) | (have _t := tk_t31; go_at_call 30; refine (heldHerd_any aB bB cB LN LN LN caB cbB ccB NaB NbB NcB 1 M1 M2 M3 (h3 (.slice (some ⟨aB, 0, none⟩) LN caB) (.slice (some ⟨bB, 0, none⟩) LN cbB) (.slice (some ⟨cB, 0, none⟩) LN ccB)) rfl rfl rfl HNB.out.1 HNB.out.2.1 HNB.out.2.2 HLn.out HLn.out HLn.out (by omega) HM1.out HM2.out HM3.out _ (hM.ats 0 _ _ _ rfl) (hM.ats 1 _ _ _ rfl) (hM.ats 2 _ _ _ rfl)).mono ?_; rintro e W' ⟨rfl, hb'⟩; rw [← HMM.out]; have hM' := hM.call hb'; clear hM hb'; have hM := hM'; clear hM'; clear tk_t31))
  refine Code.wp_mono ?_ (lawJoinHerds_r31 LN SX EX FX CC d0 HA0 HB0 HC0 _ d1 HA1 HB1 HC1 _ w HG0.out HG1.out (fun x0 y0 z0 x1 y1 z1 W hb m0 m1 => HI.out x0 y0 z0 x1 y1 z1 W m0 m1 (HE.out.below hb) (HT.out.below hb)) _ b0 b1 23 22 rfl rfl _ _ _ _ _ _ _ _ _ _ _ _ _ _ _ _ _ _ _ _ _ _ _ _ _ _ _ _ _ _ _ _ _ _ _ _ _ _ _ _ _ _ _ _ _ _ _ _ _ _ _ _ _ _ _ _ _ _ _ _ _ _ _ _ _ _ _ _ _ _ _ _ _ _ _ _ _ _ _ _ _ _ _ _ _ _ _ _ _ _ _ _ _ _ _ _ _ _ _ _ _ _ _ _ _ _ _ _ _ _ _ _ _ _ _ _ _ _ hM)
  clear hM
  rintro e a' w' ⟨rfl, v0, v1, v2, v3, v4, v5, v6, v7, rC, fC, rfl, hrC, hR⟩
  obtain ⟨aC, caC, NaC, FaC, bC, cbC, NbC, FbC, cC, ccC, NcC, FcC, rfl, hgC, hNC, hFC, hM⟩ := hR.some Hn.out
  have hGC := Lib.hid hgC
  have HNC := Lib.hid hNC
  have HFC := Lib.hid hFC
  clear hgC hNC hFC hR
  have tk_t32 : True := trivial; have tk_t33 : True := trivial; have tk_t34 : True := trivial; have tk_t35 : True := trivial; have tk_t36 : True := trivial
  go_wp2_with (first | (have _t := tk_t32; refine wpList_get rfl _ _ rfl _ _ rfl hM 0 rfl (rowTab _ _ rfl) (by omega) ?_; simp only [Nat.zero_add]; clear tk_t32) | (have _t := tk_t33; refine wpList_get rfl _ _ rfl _ _ rfl hM 22 rfl (rowTab _ _ rfl) (by omega) ?_; simp only [Nat.zero_add]; clear tk_t33) | (have _t := tk_t34; go_at_call 19; (with_reducible refine (eqHerd_list LN SX EX FX HLn.out aC caC NaC bC cbC NbC cC ccC NcC aA caA NaA bA cbA NbA cA ccA NcA FaC FbC FcC FaA FbA FcA (h3 (.slice (some ⟨aC, 0, none⟩) LN caC) (.slice (some ⟨bC, 0, none⟩) LN cbC) (.slice (some ⟨cC, 0, none⟩) LN ccC)) (h3 (.slice (some ⟨aA, 0, none⟩) LN caA) (.slice (some ⟨bA, 0, none⟩) LN cbA) (.slice (some ⟨cA, 0, none⟩) LN ccA)) rfl rfl rfl rfl rfl rfl HNC.out HNA.out HFC.out HFA.out _ (hM.ats 1 _ _ _ rfl) (hM.ats 2 _ _ _ rfl) (hM.ats 3 _ _ _ rfl) (hM.ats 23 _ _ _ rfl) (hM.ats 24 _ _ _ rfl) (hM.ats 25 _ _ _ rfl) (hM.apart 1 23 _ _ rfl rfl (by omega)) (hM.apart 2 24 _ _ rfl rfl (by omega)) (hM.apart 3 25 _ _ rfl rfl (by omega))).mono ?_); rintro e W' ⟨rfl, hb'⟩; have hM' := hM.call hb'; clear hM hb'; have hM := hM'; clear hM'; clear tk_t34) | (have _t := tk_t35; refine wpList_get rfl _ _ rfl _ _ rfl hM 19 rfl (rowTab _ _ rfl) (by omega) ?_; simp only [Nat.zero_add]; clear tk_t35) | (have _t := tk_t36; go_at_call 30; refine (heldHerd_any aB bB cB LN LN LN caB cbB ccB NaB NbB NcB 1 M1 M2 M3 (h3 (.slice (some ⟨aB, 0, none⟩) LN caB) (.slice (some ⟨bB, 0, none⟩) LN cbB) (.slice (some ⟨cB, 0, none⟩) LN ccB)) rfl rfl rfl HNB.out.1 HNB.out.2.1 HNB.out.2.2 HLn.out HLn.out HLn.out (by omega) HM1.out HM2.out HM3.out _ (hM.ats 4 _ _ _ rfl) (hM.ats 5 _ _ _ rfl) (hM.ats 6 _ _ _ rfl)).mono ?_; rintro e W' ⟨rfl, hb'⟩; rw [← HMM.out]; have hM' := hM.call hb'; clear hM hb'; have hM := hM'; clear hM'; clear tk_t36))
  go_ret
  exact ⟨rfl, hM.below⟩
end Go.Proofs.YthodkbmenndnoaaDoor

