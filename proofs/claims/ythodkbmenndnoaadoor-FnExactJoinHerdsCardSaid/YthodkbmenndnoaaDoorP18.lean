/-
  Several texts in one: JoinI, HerdEq, ResH.
-/
import Derived.Test.YthodkbmenndnoaaDoorP17
import Derived.Test.YthodkbmenndnoaaDoorP11
import Derived.Test.YthodkbmenndnoaaDoorP9
/-
  impl.JoinHerds by contract.
-/
namespace Go.Proofs.YthodkbmenndnoaaDoor
open Go Go.RowKit Go.BigFrame

theorem MemsOwn.lower {B B' : Nat} {W : World} {a : Option Addr} {n c : Nat} {d : Hd} (h : MemsOwn B W a n c d) (hB : B' ≤ B) : MemsOwn B' W a n c d := by
  rcases h with h | ⟨h, b, F, h1, h2, h3⟩
  · exact .inl h
  · exact .inr ⟨h, b, F, h1, Nat.le_trans hB h2, h3⟩
theorem MemsOwn.below {B : Nat} {W W' : World} {a : Option Addr} {n c : Nat} {d : Hd} (h : MemsOwn B W a n c d) (hb : Below W.heap.size W W') : MemsOwn B W' a n c d := by
  rcases h with h | ⟨h, b, F, h1, h2, h3, h4, h5⟩
  · exact .inl h
  · exact .inr ⟨h, b, F, h1, h2, h3, h4, h5.below hb h5.lt⟩
theorem Lst.goats {w W : World} {d : Hd} {v : Value} {n : Nat} (h : Lst w [] 3 v n (sMem d) W) : ∃ a c, v = .slice a n c ∧ MemsAt W a n d := by
  rcases h with ⟨h1, h2, -⟩ | ⟨b, c, F, h1, -, h3, h4, h5⟩
  · exact ⟨none, 0, by rw [h1, h2], .inl h2⟩
  · exact ⟨_, c, h1, .inr ⟨b, c * 3, F, rfl, Nat.mul_le_mul_right _ h3, h4, h5.at0⟩⟩
theorem MemsOwn.keep {b0 : Base} {L : Blocks} {X X' : World} {a : Option Addr} {n c : Nat} {d : Hd} (h : MemsOwn X.heap.size X' a n c d) (hM : Mem b0 L X) (hb : Below X.heap.size X X') :
    ∃ K, Mem b0 (L ++ K) X' ∧ ∀ (b1 : Base) (L1 L2 : Blocks) (W : World), Mem b1 (L1 ++ (K ++ L2)) W → MemsOwn 0 W a n c d := by
  rcases h with h | ⟨h, b, F, h1, h2, h3, h4, h5⟩
  · exact ⟨[], by rw [List.append_nil]; exact hM.call hb, fun _ _ _ _ _ => .inl h⟩
  · exact ⟨[(b, c * 3, F)], hM.fresh' hb h5 h2, fun b1 L1 L2 W hW => .inr ⟨h, b, F, h1, Nat.zero_le _, h3, h4, hW.ats L1.length b (c * 3) F (by simp)⟩⟩
/-- impl.flockWith of a herd and no goats, in all. -/
theorem flockWith_nil {a : Nat → Addr} (d : Hd) (b1 b2 b3 : Nat) (hd : FitsH d) (w : World) (hM0 : Mem w (hdB d b1 b2 b3) w) (hE : Errs a w) (hT : Tab w) :
    Calls Tryd.prog 64 #[.agg (arr 3 (hdV d b1 b2 b3)), .slice none 0 0] w fun e w' => ∃ f, e = .returned (.tuple #[.agg (arr 2 f), errO (a 0) (!herdB d)]) ∧ (∀ k, k < 2 → (f k).oneCell' = true) ∧ Below w.heap.size w w' := by
  cases hv : herdB d
  · refine (flockWith_no (a := a) (r := a 1) d b1 b2 b3 hd (.slice none 0 0) w hM0 ⟨hE.vars 1 (by omega), hT⟩ (hE.vars 0 (by omega)) hv).mono ?_
    rintro e w' ⟨f, h1, h2, h3⟩
    exact ⟨f, h1, h2, h3⟩
  · refine (flockWith_ok (r := a 1) d b1 b2 b3 hd none 0 0 (fun _ => 0) (by omega) w hM0 ⟨hE.vars 1 (by omega), hT⟩ (.inl rfl) (herdB_iff.1 hv) (fun j h => absurd h (by omega))).mono ?_
    rintro e w' ⟨ma, mc, m, h1, -, -, -, h2⟩
    exact ⟨_, h1, fun k _ => flkV_one _ _ _ _ k, h2⟩

set_option maxRecDepth 100000 in
set_option maxHeartbeats 8000000 in
theorem implJoinHerds_any {a : Nat → Addr} (d : Hd) (b1 b2 b3 : Nat) (hd : FitsH d) (e : Hd) (f1 f2 f3 : Nat) (he : FitsH e) (w : World) (hM0 : Mem w (hdB d b1 b2 b3) w) (hM1 : Mem w (hdB e f1 f2 f3) w) (hE : Errs a w) (hT : Tab w) :
    Calls Tryd.prog 37 #[.agg (arr 3 (hdV d b1 b2 b3)), .agg (arr 3 (hdV e f1 f2 f3))] w (GivesH (jnN d e) (vStringS (jnD d e).ss) (vInt16S (jnD d e).es) (vUint16S (jnD d e).fs) (jnC d e) w) := by
  have hM := Mem.nil w
  have H1 := Lib.hid hM0
  have H2 := Lib.hid hM1
  have HN1 := Lib.hid (hM1.ats 0 _ _ _ rfl)
  have HE := Lib.hid hE
  have HT := Lib.hid hT
  have hmf := make_closure
  have q1 : hdV e f1 f2 f3 0 = .slice (some ⟨f1, 0, none⟩) e.n1 e.n1 := rfl
  clear hM0 hM1 hE hT
  cases hB : (herdB d && herdB e)
  · have HR := Lib.hid (show jnN d e = 0 ∧ jnC d e = 1 from by
      have h : jnC d e = 1 := by unfold jnC; rw [hB]; rfl
      exact ⟨by unfold jnN; rw [h]; rfl, h⟩)
    have Hc := Lib.hid (cnt2_yes (show (!herdB d || !herdB e) = true by rw [← Bool.not_and, hB]; rfl))
    have HFW1 := Lib.hid (fun (W : World) hB hE hT => flockWith_nil (a := a) d b1 b2 b3 hd W hB hE hT)
    have HFW2 := Lib.hid (fun (W : World) hB hE hT => flockWith_nil (a := a) e f1 f2 f3 he W hB hE hT)
    rw [HR.out.1, HR.out.2]
    clear hB HR
    have tk_x1 : True := trivial; have tk_x2 : True := trivial; have tk_r : True := trivial; have tk_r1 : True := trivial; have tk_w1 : True := trivial; have tk_f6 : True := trivial; have tk_sf6 : True := trivial; have tk_r2 : True := trivial; have tk_w2 : True := trivial; have tk_f8 : True := trivial; have tk_sf8 : True := trivial; have tk_l : True := trivial; have tk_s2 : True := trivial
    go_enter Tryd.func37, Tryd.ntmps37
    go_wp2_with (first | (have _t := tk_x1; refine wpList_box rfl _ _ rfl _ _ rfl hM ?_; intro x1 W' hx1 hM'; clear hM tk_x1; have hM := hM'; clear hM') | (have _t := tk_x2; refine wpList_box rfl _ _ rfl _ _ rfl hM ?_; intro x2 W' hx2 hM'; clear hM tk_x2; have hM := hM'; clear hM') | (have _t := tk_r; refine wpList_zero rfl _ rfl zeroHerd hM ?_; intro r W' hr hM'; clear hM tk_r; have hM := hM'; clear hM') | (have _t := tk_r1; refine wpList_get rfl _ _ rfl _ _ rfl hM 2 rfl (rowTab _ _ rfl) (by omega) ?_; simp only [Nat.zero_add]; clear tk_r1) | (have _t := tk_w1; go_at_call 64; refine (HFW1.out _ ((H1.out.call hM.below).base (Below.refl _ _)) (HE.out.below hM.below) (HT.out.below hM.below)).mono ?_; rintro e' Wf ⟨ff1, rfl, hone1, hb'⟩; have HOne1 := Lib.hid hone1; have hM' := hM.call hb'; clear hM hb' hone1 tk_w1; have hM := hM'; clear hM') | (have _t := tk_w2; go_at_call 64; refine (HFW2.out _ ((H2.out.call hM.below).base (Below.refl _ _)) (HE.out.below hM.below) (HT.out.below hM.below)).mono ?_; rintro e' Wf ⟨ff2, rfl, hone2, hb'⟩; have HOne2 := Lib.hid hone2; have hM' := hM.call hb'; clear hM hb' hone2 tk_w2; have hM := hM'; clear hM') | (have _t := tk_f6; refine wpList_zero rfl _ rfl (zeroTab _ _ _ rfl) hM ?_; intro f6 W' hf6 hM'; clear hM tk_f6; have hM := hM'; clear hM') | (have _t := tk_sf6; refine wpList_lay rfl _ _ _ rfl _ _ rfl _ _ rfl hM 0 rfl hf6 (rowTab _ _ rfl) (by omega) HOne1.out ?_; intro W' hM'; have hM2 := hM'; simp only [List.set_cons_zero] at hM2; clear hM hM' tk_sf6; have hM := hM2; clear hM2) | (have _t := tk_r2; refine wpList_get rfl _ _ rfl _ _ rfl hM 2 rfl (rowTab _ _ rfl) (by omega) ?_; simp only [Nat.zero_add]; clear tk_r2) | (have _t := tk_f8; refine wpList_zero rfl _ rfl (zeroTab _ _ _ rfl) hM ?_; intro f8 W' hf8 hM'; clear hM tk_f8; have hM := hM'; clear hM') | (have _t := tk_sf8; refine wpList_lay rfl _ _ _ rfl _ _ rfl _ _ rfl hM 0 rfl hf8 (rowTab _ _ rfl) (by omega) HOne2.out ?_; intro W' hM'; have hM2 := hM'; simp only [List.set_cons_zero] at hM2; clear hM hM' tk_sf8; have hM := hM2; clear hM2) | (have _t := tk_l; refine wpList_lit2 rfl _ _ _ _ rfl (errO (a 0) (!herdB d)) (errO (a 0) (!herdB e)) rfl rfl (errO_one _ _) (errO_one _ _) _ errs_under err_info2 hM ?_; intro l W' hl hM'; clear hM tk_l; have hM := hM'; clear hM') | (go_at_call 87; refine (join_some (a 0) (es2 (!herdB d) (!herdB e)) _ 2 2 (by omega) Hc.out _ ((hM.ats 0 _ _ _ rfl).congr (lit2_errE _ _ _))).mono ?_; rintro e' W' ⟨jb, rfl, hJ, hb'⟩; have hM' := hM.call hb'; clear hM hb'; have hM := hM'; clear hM') | (go_at_call 65; (refine (codeJ_0 jb _ Hc.out (HE.out.below hM.below) hJ).mono ?_); rintro e' W' ⟨rfl, rfl⟩) | (refine wpList_herd0 rfl rfl ?_) | (have _t := tk_s2; refine wpList_lay rfl _ _ _ rfl _ _ rfl _ _ rfl hM 3 rfl (by assumption) (rowTab _ _ rfl) (by omega) (fun k _ => nil3_one k) ?_; intro W' hM'; clear hM tk_s2; have hM := hM'; clear hM'; simp only [List.set] at hM))
    have hA1 := (hM.ats 3 _ _ _ rfl).congr (g := nil3) (fun j hj => by simp [lay, hj, nil3])
    exact bodyPost_ret (results_at2 rfl _ rfl hA1 rowHerd _ rfl) rfl (GivesH.none hM.below rfl rfl)
  have hB' := hB
  rw [Bool.and_eq_true] at hB'
  have hOk := herdB_iff.1 hB'.1
  have hOe := herdB_iff.1 hB'.2
  have h141 := hOk.n
  have h142 := hOe.n
  have HFW1 := Lib.hid (fun (W : World) hB hE hG => flockWith_own (r := a 1) d b1 b2 b3 hd none 0 0 (fun _ => 0) (by omega) W hB hE hG hOk (fun j h => absurd h (by omega)))
  have HFW2 := Lib.hid (fun (W : World) hB hE hG => flockWith_own (r := a 1) e f1 f2 f3 he none 0 0 (fun _ => 0) (by omega) W hB hE hG hOe (fun j h => absurd h (by omega)))
  have HCF := Lib.hid (fun (ma : Option Addr) (c m : Nat) (W : World) hA hO => containsNamed d hd ma d.n1 c m e e.n1 (fun j hj => he.s j hj) f1 e.n1 e.n1 (Nat.le_refl _) (by omega) W hA hO)
  unfold namedF at HCF
  obtain ⟨hv1, hhv1⟩ : ∃ f, hdV d b1 b2 b3 = f := ⟨_, rfl⟩
  obtain ⟨hv2, hhv2⟩ : ∃ f, hdV e f1 f2 f3 = f := ⟨_, rfl⟩
  rw [hhv1] at HFW1 ⊢
  rw [hhv2] at HFW2 q1 ⊢
  clear hB' hhv1 hhv2
  have w14 : wrap64 ((d.n1 : Int) + e.n1) = (d.n1 : Int) + e.n1 := IntWalk.wrap64_in _ (by omega)
  by_cases hc : jnC d e = 0
  · obtain ⟨-, -, hno, h14⟩ := jn_0 hc
    have HR := Lib.hid (show jnN d e = d.n1 + e.n1 ∧ jnC d e = 0 from ⟨by unfold jnN; rw [if_pos hc], hc⟩)
    have HAN := Lib.hid (anyU_no hno)
    have HJB := Lib.hid (fun (ma : Option Addr) (c : Nat) (ma2 : Option Addr) (c2 : Nat) (W : World) hA hE => joinedBy_any d e 0 ma ma2 c c2 e.n1 h14 (fun j hj => ⟨(he.f j (by rw [hOe.l3]; exact hj)).1, hOe.foes j hj⟩) W hA hE)
    have d14 : decide ((14 : Int) < (d.n1 : Int) + e.n1) = false := decide_eq_false (by omega)
    clear hc hno hB hOk hOe
    have tk_x1 : True := trivial; have tk_x2 : True := trivial; have tk_r : True := trivial; have tk_r1 : True := trivial; have tk_w1 : True := trivial; have tk_f6 : True := trivial; have tk_sf6 : True := trivial; have tk_r2 : True := trivial; have tk_w2 : True := trivial; have tk_f8 : True := trivial; have tk_sf8 : True := trivial; have tk_l : True := trivial; have tk_c1 : True := trivial; have tk_fl : True := trivial; have tk_c2 : True := trivial; have tk_c3 : True := trivial; have tk_c4 : True := trivial; have tk_c5 : True := trivial; have tk_h1 : True := trivial; have tk_s2 : True := trivial
    go_enter Tryd.func37, Tryd.ntmps37
    go_wp2_with (first | (have _t := tk_x1; refine wpList_box rfl _ _ rfl _ _ rfl hM ?_; intro x1 W' hx1 hM'; clear hM tk_x1; have hM := hM'; clear hM') | (have _t := tk_x2; refine wpList_box rfl _ _ rfl _ _ rfl hM ?_; intro x2 W' hx2 hM'; clear hM tk_x2; have hM := hM'; clear hM') | (have _t := tk_r; refine wpList_zero rfl _ rfl zeroHerd hM ?_; intro r W' hr hM'; clear hM tk_r; have hM := hM'; clear hM') | (have _t := tk_r1; refine wpList_get rfl _ _ rfl _ _ rfl hM 2 rfl (rowTab _ _ rfl) (by omega) ?_; simp only [Nat.zero_add]; clear tk_r1) | (have _t := tk_w1; go_at_call 64; refine (HFW1.out _ ((H1.out.call hM.below).base (Below.refl _ _)) ⟨(HE.out.below hM.below).vars 1 (by omega), HT.out.below hM.below⟩ (.inl rfl)).mono ?_; rintro e' Wf ⟨ma1, mc1, m1, rfl, hmc1, hMA1, hO, hb'⟩; obtain ⟨K1, hM', hK1⟩ := hMA1.keep hM hb'; have HK1 := Lib.hid hK1; have hM2 := hM'.withO (o := mapO kvS (keysU d d.n1) (putsU d d.n1)) rfl hO; clear hM'; have hM' := hM2; clear hM2; clear hM hb' hO hMA1 hmc1 hK1 tk_w1; have hM := hM'; clear hM'; simp only [List.cons_append, List.nil_append] at hM) | (have _t := tk_f6; refine wpList_zero rfl _ rfl (zeroTab _ _ _ rfl) hM ?_; intro f6 W' hf6 hM'; clear hM tk_f6; have hM := hM'; clear hM') | (have _t := tk_sf6; refine wpList_lay rfl _ _ _ rfl _ _ rfl _ _ rfl hM 0 rfl hf6 (rowTab _ _ rfl) (by omega) (fun k _ => flkV_one _ _ _ _ k) ?_; intro W' hM'; have hM2 := hM'.re 0 rfl (flkV ma1 d.n1 mc1 m1) (fun k hk => by simp [lay, hk]); simp only [List.set_cons_zero] at hM2; clear hM hM' tk_sf6; have hM := hM2; clear hM2) | (have _t := tk_r2; refine wpList_get rfl _ _ rfl _ _ rfl hM 2 rfl (rowTab _ _ rfl) (by omega) ?_; simp only [Nat.zero_add]; clear tk_r2) | (have _t := tk_w2; go_at_call 64; refine (HFW2.out _ ((H2.out.call hM.good.1).base (Below.refl _ _)) ⟨(HE.out.below hM.good.1).vars 1 (by omega), HT.out.below hM.good.1⟩ (.inl rfl)).mono ?_; rintro e' Wf ⟨ma2, mc2, m2, rfl, hmc2, hMA2, hO, hb'⟩; obtain ⟨K2, hM', hK2⟩ := hMA2.keep hM hb'; have HK2 := Lib.hid hK2; clear hM hb' hO hMA2 hmc2 hK2 tk_w2; have hM := hM'; clear hM'; simp only [List.cons_append, List.nil_append] at hM) | (have _t := tk_f8; refine wpList_zero rfl _ rfl (zeroTab _ _ _ rfl) hM ?_; intro f8 W' hf8 hM'; clear hM tk_f8; have hM := hM'; clear hM') | (have _t := tk_sf8; refine wpList_lay rfl _ _ _ rfl _ _ rfl _ _ rfl hM 0 rfl hf8 (rowTab _ _ rfl) (by omega) (fun k _ => flkV_one _ _ _ _ k) ?_; intro W' hM'; have hM2 := hM'.re 0 rfl (flkV ma2 e.n1 mc2 m2) (fun k hk => by simp [lay, hk]); simp only [List.set_cons_zero] at hM2; clear hM hM' tk_sf8; have hM := hM2; clear hM2) | (have _t := tk_l; refine wpList_lit2 rfl _ _ _ _ rfl (errO (a 0) false) (errO (a 0) false) rfl rfl (errO_one _ _) (errO_one _ _) _ errs_under err_info2 hM ?_; intro l W' hl hM'; clear hM tk_l; have hM := hM'; clear hM') | (go_at_call 87; refine (join_none (a 0) (es2 false false) _ 2 2 (by omega) cnt2_no _ ((hM.ats 0 _ _ _ rfl).congr (lit2_errE _ _ _))).mono ?_; rintro e' W' ⟨rfl, hb'⟩; have hM' := hM.call hb'; clear hM hb'; have hM := hM'; clear hM') | (have _t := tk_c1; refine wpList_get1 rfl _ _ rfl _ _ rfl hM 4 rfl (cellTab _ rfl) (by omega) _ q1 ?_; clear tk_c1) | (have _t := tk_fl; refine wpList_get rfl _ _ rfl _ _ rfl hM 2 rfl (rowTab _ _ rfl) (by omega) ?_; simp only [Nat.zero_add]; clear tk_fl) | (go_at_call 88; refine (HCF.out ma1 mc1 m1 _ (HN1.out.below hM.good.1 HN1.out.lt) hM.good.2).mono ?_; rintro e' W' ⟨rfl, hb'⟩; rw [HAN.out]; have hM' := hM.call hb'; clear hM hb'; have hM := hM'; clear hM') | (have _t := tk_c2; refine wpList_get1 rfl _ _ rfl _ _ rfl hM 2 rfl (cellTab _ rfl) (by omega) (.slice ma1 d.n1 mc1) rfl ?_; clear tk_c2) | (have _t := tk_c3; refine wpList_get1 rfl _ _ rfl _ _ rfl hM 1 rfl (cellTab _ rfl) (by omega) (.slice ma2 e.n1 mc2) rfl ?_; clear tk_c3) | (have _t := tk_c4; refine wpList_get1 rfl _ _ rfl _ _ rfl hM 2 rfl (cellTab _ rfl) (by omega) (.slice ma1 d.n1 mc1) rfl ?_; clear tk_c4) | (have _t := tk_c5; refine wpList_get1 rfl _ _ rfl _ _ rfl hM 1 rfl (cellTab _ rfl) (by omega) (.slice ma2 e.n1 mc2) rfl ?_; clear tk_c5) | (go_at_call 89; refine (HJB.out ma1 mc1 ma2 mc2 _ (HK1.out _ [_, _, _, _, _, _] K2 _ hM) (HK2.out _ ([_, _, _, _, _, _] ++ K1) [] _ (by simpa using hM)).at).mono ?_; rintro e' W' ⟨v, rfl, hL⟩; obtain ⟨ja, jc, rfl, hJA⟩ := hL.goats; have HJA := Lib.hid hJA; have hM' := hM.call hL.mem.below; clear hM hL hJA; have hM := hM'; clear hM') | (have _t := tk_h1; go_at_call 74; refine (herd_any (jnD d e) ja (d.n1 + e.n1) jc (by omega) _ HJA.out).mono ?_; rintro e' W2 ⟨f, rfl, hN⟩; have HO := Lib.hid hN.one; obtain ⟨K, hM', hK⟩ := hN.keep hM; have HK := Lib.hid (And.intro hM.size hK); clear hK hM hN tk_h1; have hM := hM'; clear hM'; simp only [List.cons_append, List.nil_append] at hM) | (have _t := tk_s2; refine wpList_lay rfl _ _ _ rfl _ _ rfl _ _ rfl hM 3 rfl (by assumption) (rowTab _ _ rfl) (by omega) (fun k _ => HO.out k) ?_; intro W' hM'; clear hM tk_s2; have hM := hM'; clear hM'; simp only [List.set, List.cons_append, List.nil_append] at hM))
    have hA1 := (hM.ats 3 _ _ _ rfl).congr (g := f) (fun j hj => by simp [lay, hj])
    refine bodyPost_ret (results_at2 rfl _ rfl hA1 rowHerd _ rfl) rfl ?_
    rw [HR.out.1, HR.out.2]
    exact ⟨_, rfl, HK.out.2 w ([_, _, _, _, _, _] ++ (K1 ++ K2)) _ HK.out.1 (by have := hM.base (w' := Base.of w) hM.good.1; simpa using this)⟩
  · have HR := Lib.hid (show jnN d e = 0 from by unfold jnN; rw [if_neg hc])
    rw [HR.out]
    unfold jnC at hc ⊢
    rw [if_pos hB] at hc ⊢
    cases hA : anyU d e e.n1
    · have HAN := Lib.hid hA
      rw [hA] at hc
      simp only [Bool.false_eq_true, if_false] at hc ⊢
      by_cases h14 : 14 < d.n1 + e.n1
      · rw [if_pos h14]
        have d14 : decide ((14 : Int) < (d.n1 : Int) + e.n1) = true := decide_eq_true (by omega)
        clear hc hA hB hOk hOe h14
        have tk_x1 : True := trivial; have tk_x2 : True := trivial; have tk_r : True := trivial; have tk_r1 : True := trivial; have tk_w1 : True := trivial; have tk_f6 : True := trivial; have tk_sf6 : True := trivial; have tk_r2 : True := trivial; have tk_w2 : True := trivial; have tk_f8 : True := trivial; have tk_sf8 : True := trivial; have tk_l : True := trivial; have tk_c1 : True := trivial; have tk_fl : True := trivial; have tk_c2 : True := trivial; have tk_c3 : True := trivial; have tk_s2 : True := trivial
        go_enter Tryd.func37, Tryd.ntmps37
        go_wp2_with (first | (have _t := tk_x1; refine wpList_box rfl _ _ rfl _ _ rfl hM ?_; intro x1 W' hx1 hM'; clear hM tk_x1; have hM := hM'; clear hM') | (have _t := tk_x2; refine wpList_box rfl _ _ rfl _ _ rfl hM ?_; intro x2 W' hx2 hM'; clear hM tk_x2; have hM := hM'; clear hM') | (have _t := tk_r; refine wpList_zero rfl _ rfl zeroHerd hM ?_; intro r W' hr hM'; clear hM tk_r; have hM := hM'; clear hM') | (have _t := tk_r1; refine wpList_get rfl _ _ rfl _ _ rfl hM 2 rfl (rowTab _ _ rfl) (by omega) ?_; simp only [Nat.zero_add]; clear tk_r1) | (have _t := tk_w1; go_at_call 64; refine (HFW1.out _ ((H1.out.call hM.below).base (Below.refl _ _)) ⟨(HE.out.below hM.below).vars 1 (by omega), HT.out.below hM.below⟩ (.inl rfl)).mono ?_; rintro e' Wf ⟨ma1, mc1, m1, rfl, hmc1, hMA1, hO, hb'⟩; obtain ⟨K1, hM', hK1⟩ := hMA1.keep hM hb'; have HK1 := Lib.hid hK1; have hM2 := hM'.withO (o := mapO kvS (keysU d d.n1) (putsU d d.n1)) rfl hO; clear hM'; have hM' := hM2; clear hM2; clear hM hb' hO hMA1 hmc1 hK1 tk_w1; have hM := hM'; clear hM'; simp only [List.cons_append, List.nil_append] at hM) | (have _t := tk_f6; refine wpList_zero rfl _ rfl (zeroTab _ _ _ rfl) hM ?_; intro f6 W' hf6 hM'; clear hM tk_f6; have hM := hM'; clear hM') | (have _t := tk_sf6; refine wpList_lay rfl _ _ _ rfl _ _ rfl _ _ rfl hM 0 rfl hf6 (rowTab _ _ rfl) (by omega) (fun k _ => flkV_one _ _ _ _ k) ?_; intro W' hM'; have hM2 := hM'.re 0 rfl (flkV ma1 d.n1 mc1 m1) (fun k hk => by simp [lay, hk]); simp only [List.set_cons_zero] at hM2; clear hM hM' tk_sf6; have hM := hM2; clear hM2) | (have _t := tk_r2; refine wpList_get rfl _ _ rfl _ _ rfl hM 2 rfl (rowTab _ _ rfl) (by omega) ?_; simp only [Nat.zero_add]; clear tk_r2) | (have _t := tk_w2; go_at_call 64; refine (HFW2.out _ ((H2.out.call hM.good.1).base (Below.refl _ _)) ⟨(HE.out.below hM.good.1).vars 1 (by omega), HT.out.below hM.good.1⟩ (.inl rfl)).mono ?_; rintro e' Wf ⟨ma2, mc2, m2, rfl, hmc2, hMA2, hO, hb'⟩; obtain ⟨K2, hM', hK2⟩ := hMA2.keep hM hb'; have HK2 := Lib.hid hK2; clear hM hb' hO hMA2 hmc2 hK2 tk_w2; have hM := hM'; clear hM'; simp only [List.cons_append, List.nil_append] at hM) | (have _t := tk_f8; refine wpList_zero rfl _ rfl (zeroTab _ _ _ rfl) hM ?_; intro f8 W' hf8 hM'; clear hM tk_f8; have hM := hM'; clear hM') | (have _t := tk_sf8; refine wpList_lay rfl _ _ _ rfl _ _ rfl _ _ rfl hM 0 rfl hf8 (rowTab _ _ rfl) (by omega) (fun k _ => flkV_one _ _ _ _ k) ?_; intro W' hM'; have hM2 := hM'.re 0 rfl (flkV ma2 e.n1 mc2 m2) (fun k hk => by simp [lay, hk]); simp only [List.set_cons_zero] at hM2; clear hM hM' tk_sf8; have hM := hM2; clear hM2) | (have _t := tk_l; refine wpList_lit2 rfl _ _ _ _ rfl (errO (a 0) false) (errO (a 0) false) rfl rfl (errO_one _ _) (errO_one _ _) _ errs_under err_info2 hM ?_; intro l W' hl hM'; clear hM tk_l; have hM := hM'; clear hM') | (go_at_call 87; refine (join_none (a 0) (es2 false false) _ 2 2 (by omega) cnt2_no _ ((hM.ats 0 _ _ _ rfl).congr (lit2_errE _ _ _))).mono ?_; rintro e' W' ⟨rfl, hb'⟩; have hM' := hM.call hb'; clear hM hb'; have hM := hM'; clear hM') | (have _t := tk_c1; refine wpList_get1 rfl _ _ rfl _ _ rfl hM 4 rfl (cellTab _ rfl) (by omega) _ q1 ?_; clear tk_c1) | (have _t := tk_fl; refine wpList_get rfl _ _ rfl _ _ rfl hM 2 rfl (rowTab _ _ rfl) (by omega) ?_; simp only [Nat.zero_add]; clear tk_fl) | (go_at_call 88; refine (HCF.out ma1 mc1 m1 _ (HN1.out.below hM.good.1 HN1.out.lt) hM.good.2).mono ?_; rintro e' W' ⟨rfl, hb'⟩; rw [HAN.out]; have hM' := hM.call hb'; clear hM hb'; have hM := hM'; clear hM') | (have _t := tk_c2; refine wpList_get1 rfl _ _ rfl _ _ rfl hM 2 rfl (cellTab _ rfl) (by omega) (.slice ma1 d.n1 mc1) rfl ?_; clear tk_c2) | (have _t := tk_c3; refine wpList_get1 rfl _ _ rfl _ _ rfl hM 1 rfl (cellTab _ rfl) (by omega) (.slice ma2 e.n1 mc2) rfl ?_; clear tk_c3) | (refine wpList_herd0 rfl rfl ?_) | (have _t := tk_s2; refine wpList_lay rfl _ _ _ rfl _ _ rfl _ _ rfl hM 3 rfl (by assumption) (rowTab _ _ rfl) (by omega) (fun k _ => nil3_one k) ?_; intro W' hM'; clear hM tk_s2; have hM := hM'; clear hM'; simp only [List.set] at hM))
        have hA1 := (hM.ats 3 _ _ _ rfl).congr (g := nil3) (fun j hj => by simp [lay, hj, nil3])
        exact bodyPost_ret (results_at2 rfl _ rfl hA1 rowHerd _ rfl) rfl (GivesH.none hM.good.1 rfl rfl)
      · rw [if_neg h14] at hc
        exact absurd rfl hc
    · have HAN := Lib.hid hA
      clear hc hA hB hOk hOe
      rw [if_pos rfl]
      have tk_x1 : True := trivial; have tk_x2 : True := trivial; have tk_r : True := trivial; have tk_r1 : True := trivial; have tk_w1 : True := trivial; have tk_f6 : True := trivial; have tk_sf6 : True := trivial; have tk_r2 : True := trivial; have tk_w2 : True := trivial; have tk_f8 : True := trivial; have tk_sf8 : True := trivial; have tk_l : True := trivial; have tk_c1 : True := trivial; have tk_fl : True := trivial; have tk_s2 : True := trivial
      go_enter Tryd.func37, Tryd.ntmps37
      go_wp2_with (first | (have _t := tk_x1; refine wpList_box rfl _ _ rfl _ _ rfl hM ?_; intro x1 W' hx1 hM'; clear hM tk_x1; have hM := hM'; clear hM') | (have _t := tk_x2; refine wpList_box rfl _ _ rfl _ _ rfl hM ?_; intro x2 W' hx2 hM'; clear hM tk_x2; have hM := hM'; clear hM') | (have _t := tk_r; refine wpList_zero rfl _ rfl zeroHerd hM ?_; intro r W' hr hM'; clear hM tk_r; have hM := hM'; clear hM') | (have _t := tk_r1; refine wpList_get rfl _ _ rfl _ _ rfl hM 2 rfl (rowTab _ _ rfl) (by omega) ?_; simp only [Nat.zero_add]; clear tk_r1) | (have _t := tk_w1; go_at_call 64; refine (HFW1.out _ ((H1.out.call hM.below).base (Below.refl _ _)) ⟨(HE.out.below hM.below).vars 1 (by omega), HT.out.below hM.below⟩ (.inl rfl)).mono ?_; rintro e' Wf ⟨ma1, mc1, m1, rfl, hmc1, hMA1, hO, hb'⟩; obtain ⟨K1, hM', hK1⟩ := hMA1.keep hM hb'; have HK1 := Lib.hid hK1; have hM2 := hM'.withO (o := mapO kvS (keysU d d.n1) (putsU d d.n1)) rfl hO; clear hM'; have hM' := hM2; clear hM2; clear hM hb' hO hMA1 hmc1 hK1 tk_w1; have hM := hM'; clear hM'; simp only [List.cons_append, List.nil_append] at hM) | (have _t := tk_f6; refine wpList_zero rfl _ rfl (zeroTab _ _ _ rfl) hM ?_; intro f6 W' hf6 hM'; clear hM tk_f6; have hM := hM'; clear hM') | (have _t := tk_sf6; refine wpList_lay rfl _ _ _ rfl _ _ rfl _ _ rfl hM 0 rfl hf6 (rowTab _ _ rfl) (by omega) (fun k _ => flkV_one _ _ _ _ k) ?_; intro W' hM'; have hM2 := hM'.re 0 rfl (flkV ma1 d.n1 mc1 m1) (fun k hk => by simp [lay, hk]); simp only [List.set_cons_zero] at hM2; clear hM hM' tk_sf6; have hM := hM2; clear hM2) | (have _t := tk_r2; refine wpList_get rfl _ _ rfl _ _ rfl hM 2 rfl (rowTab _ _ rfl) (by omega) ?_; simp only [Nat.zero_add]; clear tk_r2) | (have _t := tk_w2; go_at_call 64; refine (HFW2.out _ ((H2.out.call hM.good.1).base (Below.refl _ _)) ⟨(HE.out.below hM.good.1).vars 1 (by omega), HT.out.below hM.good.1⟩ (.inl rfl)).mono ?_; rintro e' Wf ⟨ma2, mc2, m2, rfl, hmc2, hMA2, hO, hb'⟩; obtain ⟨K2, hM', hK2⟩ := hMA2.keep hM hb'; have HK2 := Lib.hid hK2; clear hM hb' hO hMA2 hmc2 hK2 tk_w2; have hM := hM'; clear hM'; simp only [List.cons_append, List.nil_append] at hM) | (have _t := tk_f8; refine wpList_zero rfl _ rfl (zeroTab _ _ _ rfl) hM ?_; intro f8 W' hf8 hM'; clear hM tk_f8; have hM := hM'; clear hM') | (have _t := tk_sf8; refine wpList_lay rfl _ _ _ rfl _ _ rfl _ _ rfl hM 0 rfl hf8 (rowTab _ _ rfl) (by omega) (fun k _ => flkV_one _ _ _ _ k) ?_; intro W' hM'; have hM2 := hM'.re 0 rfl (flkV ma2 e.n1 mc2 m2) (fun k hk => by simp [lay, hk]); simp only [List.set_cons_zero] at hM2; clear hM hM' tk_sf8; have hM := hM2; clear hM2) | (have _t := tk_l; refine wpList_lit2 rfl _ _ _ _ rfl (errO (a 0) false) (errO (a 0) false) rfl rfl (errO_one _ _) (errO_one _ _) _ errs_under err_info2 hM ?_; intro l W' hl hM'; clear hM tk_l; have hM := hM'; clear hM') | (go_at_call 87; refine (join_none (a 0) (es2 false false) _ 2 2 (by omega) cnt2_no _ ((hM.ats 0 _ _ _ rfl).congr (lit2_errE _ _ _))).mono ?_; rintro e' W' ⟨rfl, hb'⟩; have hM' := hM.call hb'; clear hM hb'; have hM := hM'; clear hM') | (have _t := tk_c1; refine wpList_get1 rfl _ _ rfl _ _ rfl hM 4 rfl (cellTab _ rfl) (by omega) _ q1 ?_; clear tk_c1) | (have _t := tk_fl; refine wpList_get rfl _ _ rfl _ _ rfl hM 2 rfl (rowTab _ _ rfl) (by omega) ?_; simp only [Nat.zero_add]; clear tk_fl) | (go_at_call 88; refine (HCF.out ma1 mc1 m1 _ (HN1.out.below hM.good.1 HN1.out.lt) hM.good.2).mono ?_; rintro e' W' ⟨rfl, hb'⟩; rw [HAN.out]; have hM' := hM.call hb'; clear hM hb'; have hM := hM'; clear hM') | (refine wpList_herd0 rfl rfl ?_) | (have _t := tk_s2; refine wpList_lay rfl _ _ _ rfl _ _ rfl _ _ rfl hM 3 rfl (by assumption) (rowTab _ _ rfl) (by omega) (fun k _ => nil3_one k) ?_; intro W' hM'; clear hM tk_s2; have hM := hM'; clear hM'; simp only [List.set] at hM))
      have hA1 := (hM.ats 3 _ _ _ rfl).congr (g := nil3) (fun j hj => by simp [lay, hj, nil3])
      exact bodyPost_ret (results_at2 rfl _ rfl hA1 rowHerd _ rfl) rfl (GivesH.none hM.good.1 rfl rfl)
end Go.Proofs.YthodkbmenndnoaaDoor

/-
  laws.eqHerd, markHerd, heldHerd over herds that calls gave.
-/
namespace Go.Proofs.YthodkbmenndnoaaDoor
open Go Go.RowKit Go.BigFrame

set_option maxRecDepth 100000 in
set_option maxHeartbeats 1000000 in
theorem eqHerd_list (n : Nat) (ss : Nat → ByteArray) (es fs : Nat → Int) (hn : n ≤ 1048576) (b1 c1 N1 b2 c2 N2 b3 c3 N3 e1 d1 M1 e2 d2 M2 e3 d3 M3 : Nat) (F1 F2 F3 G1 G2 G3 hv gv : Nat → Value)
    (a1 : hv 0 = .slice (some ⟨b1, 0, none⟩) n c1) (a2 : hv 1 = .slice (some ⟨b2, 0, none⟩) n c2) (a3 : hv 2 = .slice (some ⟨b3, 0, none⟩) n c3) (x1 : gv 0 = .slice (some ⟨e1, 0, none⟩) n d1) (x2 : gv 1 = .slice (some ⟨e2, 0, none⟩) n d2) (x3 : gv 2 = .slice (some ⟨e3, 0, none⟩) n d3)
    (hN : n ≤ N1 ∧ n ≤ N2 ∧ n ≤ N3) (hM' : n ≤ M1 ∧ n ≤ M2 ∧ n ≤ M3) (hF : (∀ j, j < n → F1 j = vStringS ss j) ∧ (∀ j, j < n → F2 j = vInt16S es j) ∧ ∀ j, j < n → F3 j = vUint16S fs j) (hG : (∀ j, j < n → G1 j = vStringS ss j) ∧ (∀ j, j < n → G2 j = vInt16S es j) ∧ ∀ j, j < n → G3 j = vUint16S fs j)
    (w : World) (A1 : At w b1 N1 F1) (A2 : At w b2 N2 F2) (A3 : At w b3 N3 F3) (C1 : At w e1 M1 G1) (C2 : At w e2 M2 G2) (C3 : At w e3 M3 G3) (n1 : b1 ≠ e1) (n2 : b2 ≠ e2) (n3 : b3 ≠ e3) :
    Calls Tryd.prog 19 #[.agg (arr 3 hv), .agg (arr 3 gv)] w fun e w' => e = .returned (.bool true) ∧ Below w.heap.size w w' := by
  have hM := Mem.nil w
  have HA1 := Lib.hid A1
  have HA2 := Lib.hid A2
  have HA3 := Lib.hid A3
  have HC1 := Lib.hid C1
  have HC2 := Lib.hid C2
  have HC3 := Lib.hid C3
  have HF := Lib.hid hF
  have HG := Lib.hid hG
  have HN := Lib.hid hN
  have HM := Lib.hid hM'
  have HNE := Lib.hid (And.intro n1 (And.intro n2 n3))
  clear A1 A2 A3 C1 C2 C3 hF hG hN hM' n1 n2 n3
  have tk_y1 : True := trivial; have tk_y2 : True := trivial
  go_enter Tryd.func19, Tryd.ntmps19
  go_wp2_with (first | (have _t := tk_y1; refine wpList_box rfl _ _ rfl _ _ rfl hM ?_; intro y1 W' hy1 hM'; clear hM tk_y1; have hM := hM'; clear hM') | (have _t := tk_y2; refine wpList_box rfl _ _ rfl _ _ rfl hM ?_; intro y2 W' hy2 hM'; clear hM tk_y2; have hM := hM'; clear hM') | (refine wpList_get1 rfl _ _ rfl _ _ rfl hM 1 rfl (by first | exact cellSS | exact cellES | exact cellFS) (by omega) _ a1 ?_) | (refine wpList_get1 rfl _ _ rfl _ _ rfl hM 1 rfl (by first | exact cellSS | exact cellES | exact cellFS) (by omega) _ a2 ?_) | (refine wpList_get1 rfl _ _ rfl _ _ rfl hM 1 rfl (by first | exact cellSS | exact cellES | exact cellFS) (by omega) _ a3 ?_) | (refine wpList_get1 rfl _ _ rfl _ _ rfl hM 0 rfl (by first | exact cellSS | exact cellES | exact cellFS) (by omega) _ x1 ?_) | (refine wpList_get1 rfl _ _ rfl _ _ rfl hM 0 rfl (by first | exact cellSS | exact cellES | exact cellFS) (by omega) _ x2 ?_) | (refine wpList_get1 rfl _ _ rfl _ _ rfl hM 0 rfl (by first | exact cellSS | exact cellES | exact cellFS) (by omega) _ x3 ?_) | (go_at_call 59; refine (eqStringS_list b1 e1 n c1 d1 N1 M1 F1 G1 ss HF.out.1 HG.out.1 HN.out.1 HM.out.1 hn _ (HA1.out.below hM.below HA1.out.lt) (HC1.out.below hM.below HC1.out.lt) HNE.out.1).mono ?_; rintro e W' ⟨rfl, hb'⟩; have hM' := hM.call hb'; clear hM hb'; have hM := hM'; clear hM') | (go_at_call 60; refine (eqInt16S_list b2 e2 n c2 d2 N2 M2 F2 G2 es HF.out.2.1 HG.out.2.1 HN.out.2.1 HM.out.2.1 hn _ (HA2.out.below hM.below HA2.out.lt) (HC2.out.below hM.below HC2.out.lt) HNE.out.2.1).mono ?_; rintro e W' ⟨rfl, hb'⟩; have hM' := hM.call hb'; clear hM hb'; have hM := hM'; clear hM') | (go_at_call 61; refine (eqUint16S_list b3 e3 n c3 d3 N3 M3 F3 G3 fs HF.out.2.2 HG.out.2.2 HN.out.2.2 HM.out.2.2 hn _ (HA3.out.below hM.below HA3.out.lt) (HC3.out.below hM.below HC3.out.lt) HNE.out.2.2).mono ?_; rintro e W' ⟨rfl, hb'⟩; have hM' := hM.call hb'; clear hM hb'; have hM := hM'; clear hM'))
  go_ret
  exact ⟨rfl, hM.below⟩
set_option maxRecDepth 100000 in
set_option maxHeartbeats 1000000 in
theorem eqHerd_zero (a1 a2 a3 x1 x2 x3 : Option Addr) (c1 c2 c3 d1 d2 d3 : Nat) (w : World) :
    Calls Tryd.prog 19 #[.agg (arr 3 (h3 (.slice a1 0 c1) (.slice a2 0 c2) (.slice a3 0 c3))), .agg (arr 3 (h3 (.slice x1 0 d1) (.slice x2 0 d2) (.slice x3 0 d3)))] w fun e w' => e = .returned (.bool true) ∧ Below w.heap.size w w' := by
  have hM := Mem.nil w
  have tk_y1 : True := trivial; have tk_y2 : True := trivial
  go_enter Tryd.func19, Tryd.ntmps19
  go_wp2_with (first | (have _t := tk_y1; refine wpList_box rfl _ _ rfl _ _ rfl hM ?_; intro y1 W' hy1 hM'; clear hM tk_y1; have hM := hM'; clear hM') | (have _t := tk_y2; refine wpList_box rfl _ _ rfl _ _ rfl hM ?_; intro y2 W' hy2 hM'; clear hM tk_y2; have hM := hM'; clear hM') | (refine wpList_get1 rfl _ _ rfl _ _ rfl hM 1 rfl (by first | exact cellSS | exact cellES | exact cellFS) (by omega) (.slice a1 0 c1) rfl ?_) | (refine wpList_get1 rfl _ _ rfl _ _ rfl hM 1 rfl (by first | exact cellSS | exact cellES | exact cellFS) (by omega) (.slice a2 0 c2) rfl ?_) | (refine wpList_get1 rfl _ _ rfl _ _ rfl hM 1 rfl (by first | exact cellSS | exact cellES | exact cellFS) (by omega) (.slice a3 0 c3) rfl ?_) | (refine wpList_get1 rfl _ _ rfl _ _ rfl hM 0 rfl (by first | exact cellSS | exact cellES | exact cellFS) (by omega) (.slice x1 0 d1) rfl ?_) | (refine wpList_get1 rfl _ _ rfl _ _ rfl hM 0 rfl (by first | exact cellSS | exact cellES | exact cellFS) (by omega) (.slice x2 0 d2) rfl ?_) | (refine wpList_get1 rfl _ _ rfl _ _ rfl hM 0 rfl (by first | exact cellSS | exact cellES | exact cellFS) (by omega) (.slice x3 0 d3) rfl ?_) | (go_at_call 59; refine (eqStringS_zero a1 x1 c1 d1 _).mono ?_; rintro e W' ⟨rfl, hb'⟩; have hM' := hM.call hb'; clear hM hb'; have hM := hM'; clear hM') | (go_at_call 60; refine (eqInt16S_zero a2 x2 c2 d2 _).mono ?_; rintro e W' ⟨rfl, hb'⟩; have hM' := hM.call hb'; clear hM hb'; have hM := hM'; clear hM') | (go_at_call 61; refine (eqUint16S_zero a3 x3 c3 d3 _).mono ?_; rintro e W' ⟨rfl, hb'⟩; have hM' := hM.call hb'; clear hM hb'; have hM := hM'; clear hM'))
  go_ret
  exact ⟨rfl, hM.below⟩
set_option maxRecDepth 100000 in
set_option maxHeartbeats 1000000 in
theorem markHerd_zero (a1 a2 a3 : Option Addr) (c1 c2 c3 : Nat) (w : World) :
    Calls Tryd.prog 23 #[.agg (arr 3 (h3 (.slice a1 0 c1) (.slice a2 0 c2) (.slice a3 0 c3))), .int .i64 1] w fun e w' => e = .returned (.int .i64 1) ∧ Below w.heap.size w w' := by
  have hM := Mem.nil w
  have tk_y1 : True := trivial
  go_enter Tryd.func23, Tryd.ntmps23
  go_wp2_with (first | (have _t := tk_y1; refine wpList_box rfl _ _ rfl _ _ rfl hM ?_; intro y1 W' hy1 hM'; clear hM tk_y1; have hM := hM'; clear hM') | (refine wpList_get1 rfl _ _ rfl _ _ rfl hM 0 rfl (by first | exact cellSS | exact cellES | exact cellFS) (by omega) (.slice a1 0 c1) rfl ?_) | (refine wpList_get1 rfl _ _ rfl _ _ rfl hM 0 rfl (by first | exact cellSS | exact cellES | exact cellFS) (by omega) (.slice a2 0 c2) rfl ?_) | (refine wpList_get1 rfl _ _ rfl _ _ rfl hM 0 rfl (by first | exact cellSS | exact cellES | exact cellFS) (by omega) (.slice a3 0 c3) rfl ?_) | (go_at_call 67; refine (markStringS_zero a1 c1 1 _).mono ?_; rintro e W' ⟨rfl, hb'⟩; have hM' := hM.call hb'; clear hM hb'; have hM := hM'; clear hM') | (go_at_call 68; refine (markInt16S_zero a2 c2 1 _).mono ?_; rintro e W' ⟨rfl, hb'⟩; have hM' := hM.call hb'; clear hM hb'; have hM := hM'; clear hM') | (go_at_call 69; refine (markUint16S_zero a3 c3 1 _).mono ?_; rintro e W' ⟨rfl, hb'⟩; have hM' := hM.call hb'; clear hM hb'; have hM := hM'; clear hM'))
  go_ret
  exact ⟨rfl, hM.below⟩
set_option maxRecDepth 100000 in
set_option maxHeartbeats 1000000 in
theorem heldHerd_zero (a1 a2 a3 : Option Addr) (c1 c2 c3 : Nat) (w : World) :
    Calls Tryd.prog 30 #[.agg (arr 3 (h3 (.slice a1 0 c1) (.slice a2 0 c2) (.slice a3 0 c3))), .int .i64 1] w fun e w' => e = .returned (.int .i64 1) ∧ Below w.heap.size w w' := by
  have hM := Mem.nil w
  have tk_y1 : True := trivial
  go_enter Tryd.func30, Tryd.ntmps30
  go_wp2_with (first | (have _t := tk_y1; refine wpList_box rfl _ _ rfl _ _ rfl hM ?_; intro y1 W' hy1 hM'; clear hM tk_y1; have hM := hM'; clear hM') | (refine wpList_get1 rfl _ _ rfl _ _ rfl hM 0 rfl (by first | exact cellSS | exact cellES | exact cellFS) (by omega) (.slice a1 0 c1) rfl ?_) | (refine wpList_get1 rfl _ _ rfl _ _ rfl hM 0 rfl (by first | exact cellSS | exact cellES | exact cellFS) (by omega) (.slice a2 0 c2) rfl ?_) | (refine wpList_get1 rfl _ _ rfl _ _ rfl hM 0 rfl (by first | exact cellSS | exact cellES | exact cellFS) (by omega) (.slice a3 0 c3) rfl ?_) | (go_at_call 75; refine (heldStringS_zero a1 c1 1 _).mono ?_; rintro e W' ⟨rfl, hb'⟩; have hM' := hM.call hb'; clear hM hb'; have hM := hM'; clear hM') | (go_at_call 76; refine (heldInt16S_zero a2 c2 1 _).mono ?_; rintro e W' ⟨rfl, hb'⟩; have hM' := hM.call hb'; clear hM hb'; have hM := hM'; clear hM') | (go_at_call 77; refine (heldUint16S_zero a3 c3 1 _).mono ?_; rintro e W' ⟨rfl, hb'⟩; have hM' := hM.call hb'; clear hM hb'; have hM := hM'; clear hM'))
  go_ret
  exact ⟨rfl, hM.below⟩
end Go.Proofs.YthodkbmenndnoaaDoor

/-
  PLAIN: fewer blocks of a memory; a herd that a region gave, beside other blocks.
-/
namespace Go.Proofs.YthodkbmenndnoaaDoor
open Go Go.RowKit

theorem Mem.pair {b0 : Base} {L : Blocks} {W : World} (h : Mem b0 L W) : L.Pairwise (fun p q => p.1 ≠ q.1) := by
  rw [List.pairwise_iff_getElem]
  intro i j hi hj hij
  exact h.apart i j _ _ (List.getElem?_eq_getElem hi) (List.getElem?_eq_getElem hj) (by omega)
theorem Mem.of_pair {b0 : Base} {L : Blocks} {W : World} (hg : b0.G W) (ha : ∀ p ∈ L, At W p.1 p.2.1 p.2.2) (hp : L.Pairwise (fun p q => p.1 ≠ q.1)) : Mem b0 L W := by
  rw [List.pairwise_iff_getElem] at hp
  refine ⟨hg, fun i b n f hi => ha _ (List.mem_of_getElem? hi), fun i j p q hi hj hne => ?_⟩
  obtain ⟨hi', rfl⟩ := List.getElem?_eq_some_iff.1 hi
  obtain ⟨hj', rfl⟩ := List.getElem?_eq_some_iff.1 hj
  rcases Nat.lt_or_gt_of_ne hne with h | h
  · exact hp i j hi' hj' h
  · exact (hp j i hj' hi' h).symm
/-- Fewer blocks, in their order. -/
theorem Mem.subl {b0 : Base} {L L' : Blocks} {W : World} (h : Mem b0 L W) (hs : L'.Sublist L) : Mem b0 L' W :=
  Mem.of_pair h.good (fun p hp => by
    obtain ⟨i, hi⟩ := List.mem_iff_getElem?.1 (hs.subset hp)
    exact h.ats i _ _ _ hi) (h.pair.sublist hs)
/-- A herd that a region gave: in the variable r, its lists in blocks behind it. -/
def ResH (LN : Nat) (R1 R2 R3 : Nat → Value) (w : Base) (L : Blocks) (r : Nat) (f : Nat → Value) (W : World) : Prop :=
  (LN = 0 ∧ (∃ a1 c1 a2 c2 a3 c3, f = h3 (.slice a1 0 c1) (.slice a2 0 c2) (.slice a3 0 c3)) ∧ Mem w ((r, 3, f) :: L) W) ∨
  ∃ b1 c1 N1 F1 b2 c2 N2 F2 b3 c3 N3 F3, f = h3 (.slice (some ⟨b1, 0, none⟩) LN c1) (.slice (some ⟨b2, 0, none⟩) LN c2) (.slice (some ⟨b3, 0, none⟩) LN c3) ∧ (w.B ≤ b1 ∧ w.B ≤ b2 ∧ w.B ≤ b3) ∧ (LN ≤ N1 ∧ LN ≤ N2 ∧ LN ≤ N3) ∧ ((∀ j, j < LN → F1 j = R1 j) ∧ (∀ j, j < LN → F2 j = R2 j) ∧ ∀ j, j < LN → F3 j = R3 j) ∧ Mem w ((r, 3, f) :: (b1, N1, F1) :: (b2, N2, F2) :: (b3, N3, F3) :: L) W
theorem ResH.zero {LN : Nat} {R1 R2 R3 : Nat → Value} {w : Base} {L : Blocks} {r : Nat} {f : Nat → Value} {W : World} (h : ResH LN R1 R2 R3 w L r f W) (hn : LN = 0) : ∃ a1 c1 a2 c2 a3 c3, f = h3 (.slice a1 0 c1) (.slice a2 0 c2) (.slice a3 0 c3) ∧ Mem w ((r, 3, f) :: L) W := by
  rcases h with ⟨-, ⟨a1, c1, a2, c2, a3, c3, h⟩, hM⟩ | ⟨b1, c1, N1, F1, b2, c2, N2, F2, b3, c3, N3, F3, h, -, -, -, hM⟩
  · exact ⟨a1, c1, a2, c2, a3, c3, h, hM⟩
  · exact ⟨_, c1, _, c2, _, c3, by rw [h, hn], hM.subl (.cons_cons _ (.cons _ (.cons _ (.cons _ (.refl _)))))⟩
theorem ResH.some {LN : Nat} {R1 R2 R3 : Nat → Value} {w : Base} {L : Blocks} {r : Nat} {f : Nat → Value} {W : World} (h : ResH LN R1 R2 R3 w L r f W) (hn : 0 < LN) : ∃ b1 c1 N1 F1 b2 c2 N2 F2 b3 c3 N3 F3, f = h3 (.slice (some ⟨b1, 0, none⟩) LN c1) (.slice (some ⟨b2, 0, none⟩) LN c2) (.slice (some ⟨b3, 0, none⟩) LN c3) ∧ (w.B ≤ b1 ∧ w.B ≤ b2 ∧ w.B ≤ b3) ∧ (LN ≤ N1 ∧ LN ≤ N2 ∧ LN ≤ N3) ∧ ((∀ j, j < LN → F1 j = R1 j) ∧ (∀ j, j < LN → F2 j = R2 j) ∧ ∀ j, j < LN → F3 j = R3 j) ∧ Mem w ((r, 3, f) :: (b1, N1, F1) :: (b2, N2, F2) :: (b3, N3, F3) :: L) W := by
  rcases h with ⟨h, -⟩ | h
  · omega
  · exact h
/-- What a call gave, as blocks. -/
def GoodH (LN : Nat) (R1 R2 R3 : Nat → Value) (w : Base) (y : (Nat → Value) × Blocks) : Prop :=
  (LN = 0 ∧ (∃ a1 c1 a2 c2 a3 c3, y.1 = h3 (.slice a1 0 c1) (.slice a2 0 c2) (.slice a3 0 c3)) ∧ y.2 = []) ∨
  ∃ b1 c1 N1 F1 b2 c2 N2 F2 b3 c3 N3 F3, y.1 = h3 (.slice (some ⟨b1, 0, none⟩) LN c1) (.slice (some ⟨b2, 0, none⟩) LN c2) (.slice (some ⟨b3, 0, none⟩) LN c3) ∧ (w.B ≤ b1 ∧ w.B ≤ b2 ∧ w.B ≤ b3) ∧ (LN ≤ N1 ∧ LN ≤ N2 ∧ LN ≤ N3) ∧ ((∀ j, j < LN → F1 j = R1 j) ∧ (∀ j, j < LN → F2 j = R2 j) ∧ ∀ j, j < LN → F3 j = R3 j) ∧ y.2 = [(b1, N1, F1), (b2, N2, F2), (b3, N3, F3)]
theorem GivesH.more {LN : Nat} {R1 R2 R3 : Nat → Value} {cc : Int} {w : Base} {L : Blocks} {W : World} {e : Ending} {W' : World} (hM : Mem w L W) (h : GivesH LN R1 R2 R3 cc W e W') : ∃ y : (Nat → Value) × Blocks, e = .returned (.tuple #[.agg (arr 3 y.1), .int .i64 cc]) ∧ GoodH LN R1 R2 R3 w y ∧ Mem w (y.2 ++ L) W' := by
  obtain ⟨f, rfl, h⟩ := h
  rcases h with ⟨h1, h2, h3⟩ | ⟨b1, c1, N1, F1, b2, c2, N2, F2, b3, c3, N3, F3, h, ⟨g1, g2, g3⟩, hN, hF, hK⟩
  · exact ⟨(f, []), rfl, .inl ⟨h1, h2, rfl⟩, hM.call h3⟩
  · exact ⟨(f, _), rfl, .inr ⟨b1, c1, N1, F1, b2, c2, N2, F2, b3, c3, N3, F3, h, ⟨Nat.le_trans hM.size g1, Nat.le_trans hM.size g2, Nat.le_trans hM.size g3⟩, hN, hF, rfl⟩, hM.front hK.below hK (fun i p h => by rcases i with _ | _ | _ | i <;> simp at h <;> (rw [← h]; assumption))⟩
end Go.Proofs.YthodkbmenndnoaaDoor

