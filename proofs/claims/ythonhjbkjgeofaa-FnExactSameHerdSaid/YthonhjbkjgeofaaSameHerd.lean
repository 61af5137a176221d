/-
  laws.FnExactSameHerd returns true.
-/
import Derived.Test.YthonhjbkjgeofaaSameHI
import Derived.Test.YthonhjbkjgeofaaReads
namespace Go.Proofs.Ythonhjbkjgeofaa
open Go Go.RowKit Go.BigFrame Go.ChangeShapes Go.WideShapes Go.Deep

theorem hdB_ge {d : Hd} {b1 b2 b3 s : Nat} (h1 : s ≤ b1) (h2 : s ≤ b2) (h3 : s ≤ b3) : ∀ (i : Nat) (p : Nat × Nat × (Nat → Value)), (hdB d b1 b2 b3)[i]? = some p → s ≤ p.1 := fun i p h => by
  rcases i with _ | _ | _ | i <;> simp [hdB] at h <;> (rw [← h]; assumption)
theorem hdV_one (d : Hd) (b1 b2 b3 k : Nat) : (hdV d b1 b2 b3 k).oneCell' = true := by
  unfold hdV h3
  (repeat' split) <;> rfl
/-- The blocks of two herds out of more. -/
theorem two_of {b0 : Base} {L : Blocks} {X : World} {d d' : Hd} {b1 b2 b3 c1 c2 c3 : Nat} (h : Mem b0 L X) (i j : Nat) (hi : (L.drop i).take 3 = hdB d b1 b2 b3) (hj : (L.drop j).take 3 = hdB d' c1 c2 c3) (hij : i + 3 ≤ j ∨ j + 3 ≤ i) : Mem X (hdB d b1 b2 b3 ++ hdB d' c1 c2 c3) X := by
  have at' : ∀ (L : Blocks) (i k : Nat) (M : Blocks), (L.drop i).take 3 = M → k < 3 → L[i + k]? = M[k]? := fun L i k M e hk => by
    rw [← e, List.getElem?_take, if_pos hk, List.getElem?_drop]
  have e0 := at' L i 0 _ hi (by omega)
  have e1 := at' L i 1 _ hi (by omega)
  have e2 := at' L i 2 _ hi (by omega)
  have f0 := at' L j 0 _ hj (by omega)
  have f1 := at' L j 1 _ hj (by omega)
  have f2 := at' L j 2 _ hj (by omega)
  have hM := h.base (w' := Base.of X) (Below.refl _ _)
  have key : ∀ (q : Nat) (p : Nat × Nat × (Nat → Value)), (hdB d b1 b2 b3 ++ hdB d' c1 c2 c3)[q]? = some p → L[if q < 3 then i + q else j + (q - 3)]? = some p ∧ q < 6 := fun q p hq => by
    rcases q with _ | _ | _ | _ | _ | _ | q
    · exact ⟨by simpa using e0.trans hq, by omega⟩
    · exact ⟨by simpa using e1.trans hq, by omega⟩
    · exact ⟨by simpa using e2.trans hq, by omega⟩
    · exact ⟨by simpa using f0.trans hq, by omega⟩
    · exact ⟨by simpa using f1.trans hq, by omega⟩
    · exact ⟨by simpa using f2.trans hq, by omega⟩
    · simp [hdB] at hq
  exact ⟨hM.good, fun q b n f hq => hM.ats _ b n f (key q _ hq).1, fun q r p s hq hr hne => hM.apart _ _ p s (key q _ hq).1 (key r _ hr).1 (by
    have := (key q _ hq).2
    have := (key r _ hr).2
    split <;> split <;> omega)⟩

set_option maxRecDepth 100000 in
set_option maxHeartbeats 4000000 in
theorem lawSameHerd_any (v v' : Value) (d d' : Hd) (hd : FitsH d) (hd' : FitsH d') (w : World) (h : HerdArg w v d) (h' : HerdArg w v' d') :
    Calls Try.prog 3 #[v, v'] w fun e w' => e = .returned (.bool true) ∧ Below w.heap.size w w' := by
  have hM := Mem.nil w
  have hv : ∃ f, v = .agg (arr 3 f) := by obtain ⟨v1, v2, v3, e, -⟩ := h; exact ⟨_, e⟩
  have hv' : ∃ f, v' = .agg (arr 3 f) := by obtain ⟨v1, v2, v3, e, -⟩ := h'; exact ⟨_, e⟩
  obtain ⟨f1, rfl⟩ := hv
  obtain ⟨f2, rfl⟩ := hv'
  have HG := Lib.hid h
  have HH := Lib.hid h'
  clear h h'
  have tk_b1 : True := trivial; have tk_b2 : True := trivial; have tk_q1 : True := trivial; have tk_q2 : True := trivial
  go_enter Try.func3, Try.ntmps3
  go_wp2_with (first | (have _t := tk_b1; refine wpList_box rfl _ _ rfl _ _ rfl hM ?_; intro b1 W' hb1 hM'; clear hM tk_b1; have hM := hM'; clear hM') | (have _t := tk_b2; refine wpList_box rfl _ _ rfl _ _ rfl hM ?_; intro b2 W' hb2 hM'; clear hM tk_b2; have hM := hM'; clear hM') | (have _t := tk_q1; refine wpList_get rfl _ _ rfl _ _ rfl hM 1 rfl rowLHerd (by omega) ?_; simp only [Nat.zero_add]; clear tk_q1))
  go_at_call 4
  refine (szHerd_any _ d 1048576 hd (by omega) (by omega) _ (HG.out.below hM.below)).mono ?_
  rintro e W' ⟨⟨r1, rfl, rfl | ⟨p0, p1, l1, l2, l3⟩⟩, hb⟩
  · have hM' := hM.call hb
    clear hM hb
    go_wp2
    go_ret
    exact ⟨rfl, hM'.below⟩
  have hM' := hM.call hb
  clear hM hb
  have hM := hM'
  clear hM'
  have z1 : decide (r1 < 0) = false := decide_eq_false (by omega)
  go_wp2_with (first | (have _t := tk_q2; refine wpList_get rfl _ _ rfl _ _ rfl hM 0 rfl rowLHerd (by omega) ?_; simp only [Nat.zero_add]; clear tk_q2))
  go_at_call 4
  refine (szHerd_any _ d' r1 hd' p0 p1 _ (HH.out.below hM.below)).mono ?_
  rintro e W' ⟨⟨r2, rfl, rfl | ⟨s0, s1, m1, m2, m3⟩⟩, hb⟩
  · have hM' := hM.call hb
    clear hM hb
    go_wp2
    go_ret
    exact ⟨rfl, hM'.below⟩
  have hM' := hM.call hb
  clear hM hb
  have hM := hM'
  clear hM'
  have z2 : decide (r2 < 0) = false := decide_eq_false (by omega)
  have HG1 : d.n1 ≤ 1048576 := by omega
  have HG2 : d.n2 ≤ 1048576 := by omega
  have HG3 : d.n3 ≤ 1048576 := by omega
  have HH1 : d'.n1 ≤ 1048576 := by omega
  have HH2 : d'.n2 ≤ 1048576 := by omega
  have HH3 : d'.n3 ≤ 1048576 := by omega
  go_wp2
  ((try simp only [Act.put, List.setIfInBounds_toArray, List.set_cons_succ, List.set_cons_zero]); refine region_reads [0, 2] #[true, false, true, false, false, false] 4 (by kernel_rfl) (by kernel_rfl) (by kernel_rfl) hM ?_; clear hM; (repeat (refine qs_plain rfl rfl ?_; first | (refine b_get _ _ rfl _ _ rfl 1 rfl rowLHerd (by omega) ?_; (try simp only [Nat.zero_add, Act.put, List.setIfInBounds_toArray, List.set_cons_succ, List.set_cons_zero])) | (refine b_get _ _ rfl _ _ rfl 0 rfl rowLHerd (by omega) ?_; (try simp only [Nat.zero_add, Act.put, List.setIfInBounds_toArray, List.set_cons_succ, List.set_cons_zero])))); (with_reducible refine qs_nil ?_))
  (refine mix_one (i := 1) (by kernel_rfl) rfl (by kernel_rfl) rfl ?_)
  (refine step_call_more (β := Nat × Nat × Nat) (fun y => .agg (arr 3 (hdV d y.1 y.2.1 y.2.2))) (fun y => hdB d y.1 y.2.1 y.2.2) (fun _ => True) ?_; apply Exists.intro; apply Exists.intro; refine ⟨fun W => ?_, fun W hM => ?_, ?_⟩; (go_simp; exact ⟨rfl, rfl⟩); (exact (toHerd_any _ d HG1 HG2 HG3 W (HG.out.below hM.below)).mono fun e w' ⟨y1, y2, y3, he, g1, g2, g3, hK⟩ => ⟨(y1, y2, y3), he, trivial, hM.front hK.below hK (hdB_ge g1 g2 g3)⟩); rintro ⟨a1, a2, a3⟩ -; (try simp only [Nat.zero_add, Act.put, List.setIfInBounds_toArray, List.set_cons_succ, List.set_cons_zero]))
  (refine mix_one (i := 3) (by kernel_rfl) rfl (by kernel_rfl) rfl ?_)
  (refine step_call_more (β := Nat × Nat × Nat) (fun y => .agg (arr 3 (hdV d' y.1 y.2.1 y.2.2))) (fun y => hdB d' y.1 y.2.1 y.2.2) (fun _ => True) ?_; apply Exists.intro; apply Exists.intro; refine ⟨fun W => ?_, fun W hM => ?_, ?_⟩; (go_simp; exact ⟨rfl, rfl⟩); (exact (toHerd_any _ d' HH1 HH2 HH3 W (HH.out.below hM.below)).mono fun e w' ⟨y1, y2, y3, he, g1, g2, g3, hK⟩ => ⟨(y1, y2, y3), he, trivial, hM.front hK.below hK (hdB_ge g1 g2 g3)⟩); rintro ⟨c1, c2, c3⟩ -; (try simp only [Nat.zero_add, Act.put, List.setIfInBounds_toArray, List.set_cons_succ, List.set_cons_zero]))
  (refine mix_one (i := 4) (by kernel_rfl) rfl (by kernel_rfl) rfl ?_)
  (refine step_call ?_; apply Exists.intro; apply Exists.intro; apply Exists.intro; refine ⟨fun W => ?_, fun W hM => ?_, ?_⟩; (go_simp; exact ⟨rfl, rfl⟩); (exact specSameHerd_any d d' a1 a2 a3 c1 c2 c3 hd hd' W (two_of hM 3 0 rfl rfl (by omega))); (try simp only [Nat.zero_add, Act.put, List.setIfInBounds_toArray, List.set_cons_succ, List.set_cons_zero]))
  (refine mix_one (i := 5) (by kernel_rfl) rfl (by kernel_rfl) rfl ?_)
  (refine step_val ?_; apply Exists.intro; refine ⟨fun W => ?_, ?_⟩; (go_simp; rfl); (simp only [Act.put, List.setIfInBounds_toArray, List.set_cons_succ, List.set_cons_zero]))
  (refine mix_end (by kernel_rfl) ?_; intro W' hM)
  simp only [hdB, List.cons_append, List.nil_append] at hM
  have hM' := hM.drop.drop.drop.drop.drop.drop
  clear hM
  have hM := hM'
  clear hM'
  have tk_r1 : True := trivial; have tk_h1 : True := trivial; have tk_x0 : True := trivial; have tk_s1 : True := trivial; have tk_r2 : True := trivial; have tk_h2 : True := trivial; have tk_x1 : True := trivial; have tk_s2 : True := trivial; have tk_r3 : True := trivial; have tk_r4 : True := trivial
  go_wp2_with (first | (have _t := tk_r1; refine wpList_get rfl _ _ rfl _ _ rfl hM 1 rfl rowLHerd (by omega) ?_; simp only [Nat.zero_add]; clear tk_r1) | (have _t := tk_h1; go_at_call 6; refine (toHerd_any _ d HG1 HG2 HG3 _ (HG.out.below hM.below)).mono ?_; rintro e W' ⟨e1, e2, e3, rfl, g1, g2, g3, hK⟩; have hM' := hM.front hK.below hK (hdB_ge g1 g2 g3); simp only [hdB, List.cons_append, List.nil_append] at hM'; clear hM hK g1 g2 g3 tk_h1; have hM := hM'; clear hM') | (have _t := tk_x0; refine wpList_zero rfl _ rfl zeroHerd hM ?_; intro x0 W' hx0 hM'; clear hM tk_x0; have hM := hM'; clear hM') | (have _t := tk_s1; refine wpList_lay rfl _ _ _ rfl _ _ rfl _ _ rfl hM 0 rfl (by assumption) rowHerd (by omega) ?_ ?_; (intro k _; exact hdV_one _ _ _ _ _); intro W' hM'; have hM2 := hM'.re 0 rfl (hdV d e1 e2 e3) (fun k hk => by simp [lay, hk]); simp only [List.set_cons_zero] at hM2; clear hM hM' tk_s1; have hM := hM2; clear hM2) | (have _t := tk_r2; refine wpList_get rfl _ _ rfl _ _ rfl hM 4 rfl rowLHerd (by omega) ?_; simp only [Nat.zero_add]; clear tk_r2) | (have _t := tk_h2; go_at_call 6; refine (toHerd_any _ d' HH1 HH2 HH3 _ (HH.out.below hM.below)).mono ?_; rintro e W' ⟨i1, i2, i3, rfl, g1, g2, g3, hK⟩; have hM' := hM.front hK.below hK (hdB_ge g1 g2 g3); simp only [hdB, List.cons_append, List.nil_append] at hM'; clear hM hK g1 g2 g3 tk_h2; have hM := hM'; clear hM') | (have _t := tk_x1; refine wpList_zero rfl _ rfl zeroHerd hM ?_; intro x1 W' hx1 hM'; clear hM tk_x1; have hM := hM'; clear hM') | (have _t := tk_s2; refine wpList_lay rfl _ _ _ rfl _ _ rfl _ _ rfl hM 0 rfl (by assumption) rowHerd (by omega) ?_ ?_; (intro k _; exact hdV_one _ _ _ _ _); intro W' hM'; have hM2 := hM'.re 0 rfl (hdV d' i1 i2 i3) (fun k hk => by simp [lay, hk]); simp only [List.set_cons_zero] at hM2; clear hM hM' tk_s2; have hM := hM2; clear hM2) | (have _t := tk_r3; refine wpList_get rfl _ _ rfl _ _ rfl hM 4 rfl rowHerd (by omega) ?_; simp only [Nat.zero_add]; clear tk_r3) | (have _t := tk_r4; refine wpList_get rfl _ _ rfl _ _ rfl hM 0 rfl rowHerd (by omega) ?_; simp only [Nat.zero_add]; clear tk_r4) | (go_at_call 7; refine (implSameHerd_any d d' e1 e2 e3 i1 i2 i3 hd hd' _ (two_of hM 5 1 rfl rfl (by omega))).mono ?_; rintro e W' ⟨rfl, hb'⟩; have hM' := hM.call hb'; clear hM hb'; have hM := hM'; clear hM'))
  cases hz : sameH d d'
  all_goals
    clear hz
    go_wp2
    ((try simp only [Act.put, List.setIfInBounds_toArray, List.set_cons_succ, List.set_cons_zero]); refine region_reads [0, 1] #[true, true, false, false, false] 3 (by kernel_rfl) (by kernel_rfl) (by kernel_rfl) hM ?_; clear hM; (repeat (refine qs_plain rfl rfl ?_; first | (refine b_get _ _ rfl _ _ rfl 4 rfl rowHerd (by omega) ?_; (try simp only [Nat.zero_add, Act.put, List.setIfInBounds_toArray, List.set_cons_succ, List.set_cons_zero])) | (refine b_get _ _ rfl _ _ rfl 9 rfl rowLHerd (by omega) ?_; (try simp only [Nat.zero_add, Act.put, List.setIfInBounds_toArray, List.set_cons_succ, List.set_cons_zero])))); (with_reducible refine qs_nil ?_))
    (refine mix_one (i := 2) (by kernel_rfl) rfl (by kernel_rfl) rfl ?_)
    (refine step_call_more (β := Nat × Nat × Nat) (fun y => .agg (arr 3 (hdV d y.1 y.2.1 y.2.2))) (fun y => hdB d y.1 y.2.1 y.2.2) (fun _ => True) ?_; apply Exists.intro; apply Exists.intro; refine ⟨fun W => ?_, fun W hM => ?_, ?_⟩; (go_simp; exact ⟨rfl, rfl⟩); (exact (toHerd_any _ d HG1 HG2 HG3 W (HG.out.below hM.below)).mono fun e w' ⟨y1, y2, y3, he, g1, g2, g3, hK⟩ => ⟨(y1, y2, y3), he, trivial, hM.front hK.below hK (hdB_ge g1 g2 g3)⟩); rintro ⟨j1, j2, j3⟩ -; (try simp only [Nat.zero_add, Act.put, List.setIfInBounds_toArray, List.set_cons_succ, List.set_cons_zero]))
    (refine mix_one (i := 3) (by kernel_rfl) rfl (by kernel_rfl) rfl ?_)
    (refine step_call ?_; apply Exists.intro; apply Exists.intro; apply Exists.intro; refine ⟨fun W => ?_, fun W hM => ?_, ?_⟩; (go_simp; exact ⟨rfl, rfl⟩); (exact eqHerd_same d e1 e2 e3 j1 j2 j3 hd.l1 hd.l2 hd.l3 W (hM.ats 8 _ _ _ rfl) (hM.ats 9 _ _ _ rfl) (hM.ats 10 _ _ _ rfl) (hM.ats 0 _ _ _ rfl) (hM.ats 1 _ _ _ rfl) (hM.ats 2 _ _ _ rfl) (hM.apart 8 0 _ _ rfl rfl (by omega)) (hM.apart 9 1 _ _ rfl rfl (by omega)) (hM.apart 10 2 _ _ rfl rfl (by omega))); (try simp only [Nat.zero_add, Act.put, List.setIfInBounds_toArray, List.set_cons_succ, List.set_cons_zero]))
    (refine mix_one (i := 4) (by kernel_rfl) rfl (by kernel_rfl) rfl ?_)
    (refine step_val ?_; apply Exists.intro; refine ⟨fun W => ?_, ?_⟩; (go_simp; rfl); (simp only [Act.put, List.setIfInBounds_toArray, List.set_cons_succ, List.set_cons_zero]))
    (refine mix_end (by kernel_rfl) ?_; intro W' hM)
    simp only [hdB, List.cons_append, List.nil_append] at hM
    go_wp2
    ((try simp only [Act.put, List.setIfInBounds_toArray, List.set_cons_succ, List.set_cons_zero]); refine region_reads [0, 1] #[true, true, false, false, false] 3 (by kernel_rfl) (by kernel_rfl) (by kernel_rfl) hM ?_; clear hM; (repeat (refine qs_plain rfl rfl ?_; first | (refine b_get _ _ rfl _ _ rfl 3 rfl rowHerd (by omega) ?_; (try simp only [Nat.zero_add, Act.put, List.setIfInBounds_toArray, List.set_cons_succ, List.set_cons_zero])) | (refine b_get _ _ rfl _ _ rfl 11 rfl rowLHerd (by omega) ?_; (try simp only [Nat.zero_add, Act.put, List.setIfInBounds_toArray, List.set_cons_succ, List.set_cons_zero])))); (with_reducible refine qs_nil ?_))
    (refine mix_one (i := 2) (by kernel_rfl) rfl (by kernel_rfl) rfl ?_)
    (refine step_call_more (β := Nat × Nat × Nat) (fun y => .agg (arr 3 (hdV d' y.1 y.2.1 y.2.2))) (fun y => hdB d' y.1 y.2.1 y.2.2) (fun _ => True) ?_; apply Exists.intro; apply Exists.intro; refine ⟨fun W => ?_, fun W hM => ?_, ?_⟩; (go_simp; exact ⟨rfl, rfl⟩); (exact (toHerd_any _ d' HH1 HH2 HH3 W (HH.out.below hM.below)).mono fun e w' ⟨y1, y2, y3, he, g1, g2, g3, hK⟩ => ⟨(y1, y2, y3), he, trivial, hM.front hK.below hK (hdB_ge g1 g2 g3)⟩); rintro ⟨o1, o2, o3⟩ -; (try simp only [Nat.zero_add, Act.put, List.setIfInBounds_toArray, List.set_cons_succ, List.set_cons_zero]))
    (refine mix_one (i := 3) (by kernel_rfl) rfl (by kernel_rfl) rfl ?_)
    (refine step_call ?_; apply Exists.intro; apply Exists.intro; apply Exists.intro; refine ⟨fun W => ?_, fun W hM => ?_, ?_⟩; (go_simp; exact ⟨rfl, rfl⟩); (exact eqHerd_same d' i1 i2 i3 o1 o2 o3 hd'.l1 hd'.l2 hd'.l3 W (hM.ats 7 _ _ _ rfl) (hM.ats 8 _ _ _ rfl) (hM.ats 9 _ _ _ rfl) (hM.ats 0 _ _ _ rfl) (hM.ats 1 _ _ _ rfl) (hM.ats 2 _ _ _ rfl) (hM.apart 7 0 _ _ rfl rfl (by omega)) (hM.apart 8 1 _ _ rfl rfl (by omega)) (hM.apart 9 2 _ _ rfl rfl (by omega))); (try simp only [Nat.zero_add, Act.put, List.setIfInBounds_toArray, List.set_cons_succ, List.set_cons_zero]))
    (refine mix_one (i := 4) (by kernel_rfl) rfl (by kernel_rfl) rfl ?_)
    (refine step_val ?_; apply Exists.intro; refine ⟨fun W => ?_, ?_⟩; (go_simp; rfl); (simp only [Act.put, List.setIfInBounds_toArray, List.set_cons_succ, List.set_cons_zero]))
    (refine mix_end (by kernel_rfl) ?_; intro W' hM)
    go_wp2
    go_ret
    exact ⟨rfl, hM.below⟩
end Go.Proofs.Ythonhjbkjgeofaa
