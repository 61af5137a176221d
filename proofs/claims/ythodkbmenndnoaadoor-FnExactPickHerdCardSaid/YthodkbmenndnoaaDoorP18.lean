/-
  Several texts in one: JoinI, Count, PickI.
-/
import Derived.Test.YthodkbmenndnoaaDoorP17
import Derived.Test.YthodkbmenndnoaaDoorP11
import Derived.Test.YthodkbmenndnoaaDoorP15
import Derived.Lib.BitFns
/-
  impl.JoinHerds by contract.
-/
namespace Go.Proofs.YthodkbmenndnoaaDoor
open Go Go.RowKit Go.BigFrame

theorem MemsOwn.lower {B B' : Nat} {W : World} {a : Option Addr} {n c : Nat} {d : Hd} (h : MemsOwn B W a n c d) (hB : B' ≤ B) : MemsOwn B' W a n c d := by
  rcases h with h | ⟨h, b, F, h1, h2, h3⟩
  · exact .inl h
  · exact .inr ⟨h, b, F, h1, Nat.le_trans hB h2, h3⟩
theorem MemsOwn.below {B : Nat} {W W' : World} {a : Option Addr} {n c : Nat} {d : Hd} (h : MemsOwn B W a n c d) (hb : Below W.heap.size W W') : MemsOwn B W' a n c d := by
  rcases h with h | ⟨h, b, F, h1, h2, h3, h4, h5⟩
  · exact .inl h
  · exact .inr ⟨h, b, F, h1, h2, h3, h4, h5.below hb h5.lt⟩
theorem Lst.goats {w W : World} {d : Hd} {v : Value} {n : Nat} (h : Lst w [] 3 v n (sMem d) W) : ∃ a c, v = .slice a n c ∧ MemsAt W a n d := by
  rcases h with ⟨h1, h2, -⟩ | ⟨b, c, F, h1, -, h3, h4, h5⟩
  · exact ⟨none, 0, by rw [h1, h2], .inl h2⟩
  · exact ⟨_, c, h1, .inr ⟨b, c * 3, F, rfl, Nat.mul_le_mul_right _ h3, h4, h5.at0⟩⟩
theorem MemsOwn.keep {b0 : Base} {L : Blocks} {X X' : World} {a : Option Addr} {n c : Nat} {d : Hd} (h : MemsOwn X.heap.size X' a n c d) (hM : Mem b0 L X) (hb : Below X.heap.size X X') :
    ∃ K, Mem b0 (L ++ K) X' ∧ ∀ (b1 : Base) (L1 L2 : Blocks) (W : World), Mem b1 (L1 ++ (K ++ L2)) W → MemsOwn 0 W a n c d := by
  rcases h with h | ⟨h, b, F, h1, h2, h3, h4, h5⟩
  · exact ⟨[], by rw [List.append_nil]; exact hM.call hb, fun _ _ _ _ _ => .inl h⟩
  · exact ⟨[(b, c * 3, F)], hM.fresh' hb h5 h2, fun b1 L1 L2 W hW => .inr ⟨h, b, F, h1, Nat.zero_le _, h3, h4, hW.ats L1.length b (c * 3) F (by simp)⟩⟩
/-- impl.flockWith of a herd and no goats, in all. -/
theorem flockWith_nil {a : Nat → Addr} (d : Hd) (b1 b2 b3 : Nat) (hd : FitsH d) (w : World) (hM0 : Mem w (hdB d b1 b2 b3) w) (hE : Errs a w) (hT : Tab w) :
    Calls Tryd.prog 64 #[.agg (arr 3 (hdV d b1 b2 b3)), .slice none 0 0] w fun e w' => ∃ f, e = .returned (.tuple #[.agg (arr 2 f), errO (a 0) (!herdB d)]) ∧ (∀ k, k < 2 → (f k).oneCell' = true) ∧ Below w.heap.size w w' := by
  cases hv : herdB d
  · refine (flockWith_no (a := a) (r := a 1) d b1 b2 b3 hd (.slice none 0 0) w hM0 ⟨hE.vars 1 (by omega), hT⟩ (hE.vars 0 (by omega)) hv).mono ?_
    rintro e w' ⟨f, h1, h2, h3⟩
    exact ⟨f, h1, h2, h3⟩
  · refine (flockWith_ok (r := a 1) d b1 b2 b3 hd none 0 0 (fun _ => 0) (by omega) w hM0 ⟨hE.vars 1 (by omega), hT⟩ (.inl rfl) (herdB_iff.1 hv) (fun j h => absurd h (by omega))).mono ?_
    rintro e w' ⟨ma, mc, m, h1, -, -, -, h2⟩
    exact ⟨_, h1, fun k _ => flkV_one _ _ _ _ k, h2⟩

set_option maxRecDepth 100000 in
set_option maxHeartbeats 8000000 in
theorem implJoinHerds_any {a : Nat → Addr} (d : Hd) (b1 b2 b3 : Nat) (hd : FitsH d) (e : Hd) (f1 f2 f3 : Nat) (he : FitsH e) (w : World) (hM0 : Mem w (hdB d b1 b2 b3) w) (hM1 : Mem w (hdB e f1 f2 f3) w) (hE : Errs a w) (hT : Tab w) :
    Calls Tryd.prog 37 #[.agg (arr 3 (hdV d b1 b2 b3)), .agg (arr 3 (hdV e f1 f2 f3))] w (GivesH (jnN d e) (vStringS (jnD d e).ss) (vInt16S (jnD d e).es) (vUint16S (jnD d e).fs) (jnC d e) w) := by
  have hM := Mem.nil w
  have H1 := Lib.hid hM0
  have H2 := Lib.hid hM1
  have HN1 := Lib.hid (hM1.ats 0 _ _ _ rfl)
  have HE := Lib.hid hE
  have HT := Lib.hid hT
  have hmf := make_closure
  have q1 : hdV e f1 f2 f3 0 = .slice (some ⟨f1, 0, none⟩) e.n1 e.n1 := rfl
  clear hM0 hM1 hE hT
  cases hB : (herdB d && herdB e)
  · have HR := Lib.hid (show jnN d e = 0 ∧ jnC d e = 1 from by
      have h : jnC d e = 1 := by unfold jnC; rw [hB]; rfl
      exact ⟨by unfold jnN; rw [h]; rfl, h⟩)
    have Hc := Lib.hid (cnt2_yes (show (!herdB d || !herdB e) = true by rw [← Bool.not_and, hB]; rfl))
    have HFW1 := Lib.hid (fun (W : World) hB hE hT => flockWith_nil (a := a) d b1 b2 b3 hd W hB hE hT)
    have HFW2 := Lib.hid (fun (W : World) hB hE hT => flockWith_nil (a := a) e f1 f2 f3 he W hB hE hT)
    rw [HR.out.1, HR.out.2]
    clear hB HR
    have tk_x1 : True := trivial; have tk_x2 : True := trivial; have tk_r : True := trivial; have tk_r1 : True := trivial; have tk_w1 : True := trivial; have tk_f6 : True := trivial; have tk_sf6 : True := trivial; have tk_r2 : True := trivial; have tk_w2 : True := trivial; have tk_f8 : True := trivial; have tk_sf8 : True := trivial; have tk_l : True := trivial; have tk_s2 : True := trivial
    go_enter Tryd.func37, Tryd.ntmps37
    go_wp2_with (first | (have _t := tk_x1; refine wpList_box rfl _ _ rfl _ _ rfl hM ?_; intro x1 W' hx1 hM'; clear hM tk_x1; have hM := hM'; clear hM') | (have _t := tk_x2; refine wpList_box rfl _ _ rfl _ _ rfl hM ?_; intro x2 W' hx2 hM'; clear hM tk_x2; have hM := hM'; clear hM') | (have _t := tk_r; refine wpList_zero rfl _ rfl zeroHerd hM ?_; intro r W' hr hM'; clear hM tk_r; have hM := hM'; clear hM') | (have _t := tk_r1; refine wpList_get rfl _ _ rfl _ _ rfl hM 2 rfl (rowTab _ _ rfl) (by omega) ?_; simp only [Nat.zero_add]; clear tk_r1) | (have _t := tk_w1; go_at_call 64; refine (HFW1.out _ ((H1.out.call hM.below).base (Below.refl _ _)) (HE.out.below hM.below) (HT.out.below hM.below)).mono ?_; rintro e' Wf ⟨ff1, rfl, hone1, hb'⟩; have HOne1 := Lib.hid hone1; have hM' := hM.call hb'; clear hM hb' hone1 tk_w1; have hM := hM'; clear hM') | (have _t := tk_w2; go_at_call 64; refine (HFW2.out _ ((H2.out.call hM.below).base (Below.refl _ _)) (HE.out.below hM.below) (HT.out.below hM.below)).mono ?_; rintro e' Wf ⟨ff2, rfl, hone2, hb'⟩; have HOne2 := Lib.hid hone2; have hM' := hM.call hb'; clear hM hb' hone2 tk_w2; have hM := hM'; clear hM') | (have _t := tk_f6; refine wpList_zero rfl _ rfl (zeroTab _ _ _ rfl) hM ?_; intro f6 W' hf6 hM'; clear hM tk_f6; have hM := hM'; clear hM') | (have _t := tk_sf6; refine wpList_lay rfl _ _ _ rfl _ _ rfl _ _ rfl hM 0 rfl hf6 (rowTab _ _ rfl) (by omega) HOne1.out ?_; intro W' hM'; have hM2 := hM'; simp only [List.set_cons_zero] at hM2; clear hM hM' tk_sf6; have hM := hM2; clear hM2) | (have _t := tk_r2; refine wpList_get rfl _ _ rfl _ _ rfl hM 2 rfl (rowTab _ _ rfl) (by omega) ?_; simp only [Nat.zero_add]; clear tk_r2) | (have _t := tk_f8; refine wpList_zero rfl _ rfl (zeroTab _ _ _ rfl) hM ?_; intro f8 W' hf8 hM'; clear hM tk_f8; have hM := hM'; clear hM') | (have _t := tk_sf8; refine wpList_lay rfl _ _ _ rfl _ _ rfl _ _ rfl hM 0 rfl hf8 (rowTab _ _ rfl) (by omega) HOne2.out ?_; intro W' hM'; have hM2 := hM'; simp only [List.set_cons_zero] at hM2; clear hM hM' tk_sf8; have hM := hM2; clear hM2) | (have _t := tk_l; refine wpList_lit2 rfl _ _ _ _ rfl (errO (a 0) (!herdB d)) (errO (a 0) (!herdB e)) rfl rfl (errO_one _ _) (errO_one _ _) _ errs_under err_info2 hM ?_; intro l W' hl hM'; clear hM tk_l; have hM := hM'; clear hM') | (go_at_call 87; refine (join_some (a 0) (es2 (!herdB d) (!herdB e)) _ 2 2 (by omega) Hc.out _ ((hM.ats 0 _ _ _ rfl).congr (lit2_errE _ _ _))).mono ?_; rintro e' W' ⟨jb, rfl, hJ, hb'⟩; have hM' := hM.call hb'; clear hM hb'; have hM := hM'; clear hM') | (go_at_call 65; (refine (codeJ_0 jb _ Hc.out (HE.out.below hM.below) hJ).mono ?_); rintro e' W' ⟨rfl, rfl⟩) | (refine wpList_herd0 rfl rfl ?_) | (have _t := tk_s2; refine wpList_lay rfl _ _ _ rfl _ _ rfl _ _ rfl hM 3 rfl (by assumption) (rowTab _ _ rfl) (by omega) (fun k _ => nil3_one k) ?_; intro W' hM'; clear hM tk_s2; have hM := hM'; clear hM'; simp only [List.set] at hM))
    have hA1 := (hM.ats 3 _ _ _ rfl).congr (g := nil3) (fun j hj => by simp [lay, hj, nil3])
    exact bodyPost_ret (results_at2 rfl _ rfl hA1 rowHerd _ rfl) rfl (GivesH.none hM.below rfl rfl)
  have hB' := hB
  rw [Bool.and_eq_true] at hB'
  have hOk := herdB_iff.1 hB'.1
  have hOe := herdB_iff.1 hB'.2
  have h141 := hOk.n
  have h142 := hOe.n
  have HFW1 := Lib.hid (fun (W : World) hB hE hG => flockWith_own (r := a 1) d b1 b2 b3 hd none 0 0 (fun _ => 0) (by omega) W hB hE hG hOk (fun j h => absurd h (by omega)))
  have HFW2 := Lib.hid (fun (W : World) hB hE hG => flockWith_own (r := a 1) e f1 f2 f3 he none 0 0 (fun _ => 0) (by omega) W hB hE hG hOe (fun j h => absurd h (by omega)))
  have HCF := Lib.hid (fun (ma : Option Addr) (c m : Nat) (W : World) hA hO => containsNamed d hd ma d.n1 c m e e.n1 (fun j hj => he.s j hj) f1 e.n1 e.n1 (Nat.le_refl _) (by omega) W hA hO)
  unfold namedF at HCF
  obtain ⟨hv1, hhv1⟩ : ∃ f, hdV d b1 b2 b3 = f := ⟨_, rfl⟩
  obtain ⟨hv2, hhv2⟩ : ∃ f, hdV e f1 f2 f3 = f := ⟨_, rfl⟩
  rw [hhv1] at HFW1 ⊢
  rw [hhv2] at HFW2 q1 ⊢
  clear hB' hhv1 hhv2
  have w14 : wrap64 ((d.n1 : Int) + e.n1) = (d.n1 : Int) + e.n1 := IntWalk.wrap64_in _ (by omega)
  by_cases hc : jnC d e = 0
  · obtain ⟨-, -, hno, h14⟩ := jn_0 hc
    have HR := Lib.hid (show jnN d e = d.n1 + e.n1 ∧ jnC d e = 0 from ⟨by unfold jnN; rw [if_pos hc], hc⟩)
    have HAN := Lib.hid (anyU_no hno)
    have HJB := Lib.hid (fun (ma : Option Addr) (c : Nat) (ma2 : Option Addr) (c2 : Nat) (W : World) hA hE => joinedBy_any d e 0 ma ma2 c c2 e.n1 h14 (fun j hj => ⟨(he.f j (by rw [hOe.l3]; exact hj)).1, hOe.foes j hj⟩) W hA hE)
    have d14 : decide ((14 : Int) < (d.n1 : Int) + e.n1) = false := decide_eq_false (by omega)
    clear hc hno hB hOk hOe
    have tk_x1 : True := trivial; have tk_x2 : True := trivial; have tk_r : True := trivial; have tk_r1 : True := trivial; have tk_w1 : True := trivial; have tk_f6 : True := trivial; have tk_sf6 : True := trivial; have tk_r2 : True := trivial; have tk_w2 : True := trivial; have tk_f8 : True := trivial; have tk_sf8 : True := trivial; have tk_l : True := trivial; have tk_c1 : True := trivial; have tk_fl : True := trivial; have tk_c2 : True := trivial; have tk_c3 : True := trivial; have tk_c4 : True := trivial; have tk_c5 : True := trivial; have tk_h1 : True := trivial; have tk_s2 : True := trivial
    go_enter Tryd.func37, Tryd.ntmps37
    go_wp2_with (first | (have _t := tk_x1; refine wpList_box rfl _ _ rfl _ _ rfl hM ?_; intro x1 W' hx1 hM'; clear hM tk_x1; have hM := hM'; clear hM') | (have _t := tk_x2; refine wpList_box rfl _ _ rfl _ _ rfl hM ?_; intro x2 W' hx2 hM'; clear hM tk_x2; have hM := hM'; clear hM') | (have _t := tk_r; refine wpList_zero rfl _ rfl zeroHerd hM ?_; intro r W' hr hM'; clear hM tk_r; have hM := hM'; clear hM') | (have _t := tk_r1; refine wpList_get rfl _ _ rfl _ _ rfl hM 2 rfl (rowTab _ _ rfl) (by omega) ?_; simp only [Nat.zero_add]; clear tk_r1) | (have _t := tk_w1; go_at_call 64; refine (HFW1.out _ ((H1.out.call hM.below).base (Below.refl _ _)) ⟨(HE.out.below hM.below).vars 1 (by omega), HT.out.below hM.below⟩ (.inl rfl)).mono ?_; rintro e' Wf ⟨ma1, mc1, m1, rfl, hmc1, hMA1, hO, hb'⟩; obtain ⟨K1, hM', hK1⟩ := hMA1.keep hM hb'; have HK1 := Lib.hid hK1; have hM2 := hM'.withO (o := mapO kvS (keysU d d.n1) (putsU d d.n1)) rfl hO; clear hM'; have hM' := hM2; clear hM2; clear hM hb' hO hMA1 hmc1 hK1 tk_w1; have hM := hM'; clear hM'; simp only [List.cons_append, List.nil_append] at hM) | (have _t := tk_f6; refine wpList_zero rfl _ rfl (zeroTab _ _ _ rfl) hM ?_; intro f6 W' hf6 hM'; clear hM tk_f6; have hM := hM'; clear hM') | (have _t := tk_sf6; refine wpList_lay rfl _ _ _ rfl _ _ rfl _ _ rfl hM 0 rfl hf6 (rowTab _ _ rfl) (by omega) (fun k _ => flkV_one _ _ _ _ k) ?_; intro W' hM'; have hM2 := hM'.re 0 rfl (flkV ma1 d.n1 mc1 m1) (fun k hk => by simp [lay, hk]); simp only [List.set_cons_zero] at hM2; clear hM hM' tk_sf6; have hM := hM2; clear hM2) | (have _t := tk_r2; refine wpList_get rfl _ _ rfl _ _ rfl hM 2 rfl (rowTab _ _ rfl) (by omega) ?_; simp only [Nat.zero_add]; clear tk_r2) | (have _t := tk_w2; go_at_call 64; refine (HFW2.out _ ((H2.out.call hM.good.1).base (Below.refl _ _)) ⟨(HE.out.below hM.good.1).vars 1 (by omega), HT.out.below hM.good.1⟩ (.inl rfl)).mono ?_; rintro e' Wf ⟨ma2, mc2, m2, rfl, hmc2, hMA2, hO, hb'⟩; obtain ⟨K2, hM', hK2⟩ := hMA2.keep hM hb'; have HK2 := Lib.hid hK2; clear hM hb' hO hMA2 hmc2 hK2 tk_w2; have hM := hM'; clear hM'; simp only [List.cons_append, List.nil_append] at hM) | (have _t := tk_f8; refine wpList_zero rfl _ rfl (zeroTab _ _ _ rfl) hM ?_; intro f8 W' hf8 hM'; clear hM tk_f8; have hM := hM'; clear hM') | (have _t := tk_sf8; refine wpList_lay rfl _ _ _ rfl _ _ rfl _ _ rfl hM 0 rfl hf8 (rowTab _ _ rfl) (by omega) (fun k _ => flkV_one _ _ _ _ k) ?_; intro W' hM'; have hM2 := hM'.re 0 rfl (flkV ma2 e.n1 mc2 m2) (fun k hk => by simp [lay, hk]); simp only [List.set_cons_zero] at hM2; clear hM hM' tk_sf8; have hM := hM2; clear hM2) | (have _t := tk_l; refine wpList_lit2 rfl _ _ _ _ rfl (errO (a 0) false) (errO (a 0) false) rfl rfl (errO_one _ _) (errO_one _ _) _ errs_under err_info2 hM ?_; intro l W' hl hM'; clear hM tk_l; have hM := hM'; clear hM') | (go_at_call 87; refine (join_none (a 0) (es2 false false) _ 2 2 (by omega) cnt2_no _ ((hM.ats 0 _ _ _ rfl).congr (lit2_errE _ _ _))).mono ?_; rintro e' W' ⟨rfl, hb'⟩; have hM' := hM.call hb'; clear hM hb'; have hM := hM'; clear hM') | (have _t := tk_c1; refine wpList_get1 rfl _ _ rfl _ _ rfl hM 4 rfl (cellTab _ rfl) (by omega) _ q1 ?_; clear tk_c1) | (have _t := tk_fl; refine wpList_get rfl _ _ rfl _ _ rfl hM 2 rfl (rowTab _ _ rfl) (by omega) ?_; simp only [Nat.zero_add]; clear tk_fl) | (go_at_call 88; refine (HCF.out ma1 mc1 m1 _ (HN1.out.below hM.good.1 HN1.out.lt) hM.good.2).mono ?_; rintro e' W' ⟨rfl, hb'⟩; rw [HAN.out]; have hM' := hM.call hb'; clear hM hb'; have hM := hM'; clear hM') | (have _t := tk_c2; refine wpList_get1 rfl _ _ rfl _ _ rfl hM 2 rfl (cellTab _ rfl) (by omega) (.slice ma1 d.n1 mc1) rfl ?_; clear tk_c2) | (have _t := tk_c3; refine wpList_get1 rfl _ _ rfl _ _ rfl hM 1 rfl (cellTab _ rfl) (by omega) (.slice ma2 e.n1 mc2) rfl ?_; clear tk_c3) | (have _t := tk_c4; refine wpList_get1 rfl _ _ rfl _ _ rfl hM 2 rfl (cellTab _ rfl) (by omega) (.slice ma1 d.n1 mc1) rfl ?_; clear tk_c4) | (have _t := tk_c5; refine wpList_get1 rfl _ _ rfl _ _ rfl hM 1 rfl (cellTab _ rfl) (by omega) (.slice ma2 e.n1 mc2) rfl ?_; clear tk_c5) | (go_at_call 89; refine (HJB.out ma1 mc1 ma2 mc2 _ (HK1.out _ [_, _, _, _, _, _] K2 _ hM) (HK2.out _ ([_, _, _, _, _, _] ++ K1) [] _ (by simpa using hM)).at).mono ?_; rintro e' W' ⟨v, rfl, hL⟩; obtain ⟨ja, jc, rfl, hJA⟩ := hL.goats; have HJA := Lib.hid hJA; have hM' := hM.call hL.mem.below; clear hM hL hJA; have hM := hM'; clear hM') | (have _t := tk_h1; go_at_call 74; refine (herd_any (jnD d e) ja (d.n1 + e.n1) jc (by omega) _ HJA.out).mono ?_; rintro e' W2 ⟨f, rfl, hN⟩; have HO := Lib.hid hN.one; obtain ⟨K, hM', hK⟩ := hN.keep hM; have HK := Lib.hid (And.intro hM.size hK); clear hK hM hN tk_h1; have hM := hM'; clear hM'; simp only [List.cons_append, List.nil_append] at hM) | (have _t := tk_s2; refine wpList_lay rfl _ _ _ rfl _ _ rfl _ _ rfl hM 3 rfl (by assumption) (rowTab _ _ rfl) (by omega) (fun k _ => HO.out k) ?_; intro W' hM'; clear hM tk_s2; have hM := hM'; clear hM'; simp only [List.set, List.cons_append, List.nil_append] at hM))
    have hA1 := (hM.ats 3 _ _ _ rfl).congr (g := f) (fun j hj => by simp [lay, hj])
    refine bodyPost_ret (results_at2 rfl _ rfl hA1 rowHerd _ rfl) rfl ?_
    rw [HR.out.1, HR.out.2]
    exact ⟨_, rfl, HK.out.2 w ([_, _, _, _, _, _] ++ (K1 ++ K2)) _ HK.out.1 (by have := hM.base (w' := Base.of w) hM.good.1; simpa using this)⟩
  · have HR := Lib.hid (show jnN d e = 0 from by unfold jnN; rw [if_neg hc])
    rw [HR.out]
    unfold jnC at hc ⊢
    rw [if_pos hB] at hc ⊢
    cases hA : anyU d e e.n1
    · have HAN := Lib.hid hA
      rw [hA] at hc
      simp only [Bool.false_eq_true, if_false] at hc ⊢
      by_cases h14 : 14 < d.n1 + e.n1
      · rw [if_pos h14]
        have d14 : decide ((14 : Int) < (d.n1 : Int) + e.n1) = true := decide_eq_true (by omega)
        clear hc hA hB hOk hOe h14
        have tk_x1 : True := trivial; have tk_x2 : True := trivial; have tk_r : True := trivial; have tk_r1 : True := trivial; have tk_w1 : True := trivial; have tk_f6 : True := trivial; have tk_sf6 : True := trivial; have tk_r2 : True := trivial; have tk_w2 : True := trivial; have tk_f8 : True := trivial; have tk_sf8 : True := trivial; have tk_l : True := trivial; have tk_c1 : True := trivial; have tk_fl : True := trivial; have tk_c2 : True := trivial; have tk_c3 : True := trivial; have tk_s2 : True := trivial
        go_enter Tryd.func37, Tryd.ntmps37
        go_wp2_with (first | (have _t := tk_x1; refine wpList_box rfl _ _ rfl _ _ rfl hM ?_; intro x1 W' hx1 hM'; clear hM tk_x1; have hM := hM'; clear hM') | (have _t := tk_x2; refine wpList_box rfl _ _ rfl _ _ rfl hM ?_; intro x2 W' hx2 hM'; clear hM tk_x2; have hM := hM'; clear hM') | (have _t := tk_r; refine wpList_zero rfl _ rfl zeroHerd hM ?_; intro r W' hr hM'; clear hM tk_r; have hM := hM'; clear hM') | (have _t := tk_r1; refine wpList_get rfl _ _ rfl _ _ rfl hM 2 rfl (rowTab _ _ rfl) (by omega) ?_; simp only [Nat.zero_add]; clear tk_r1) | (have _t := tk_w1; go_at_call 64; refine (HFW1.out _ ((H1.out.call hM.below).base (Below.refl _ _)) ⟨(HE.out.below hM.below).vars 1 (by omega), HT.out.below hM.below⟩ (.inl rfl)).mono ?_; rintro e' Wf ⟨ma1, mc1, m1, rfl, hmc1, hMA1, hO, hb'⟩; obtain ⟨K1, hM', hK1⟩ := hMA1.keep hM hb'; have HK1 := Lib.hid hK1; have hM2 := hM'.withO (o := mapO kvS (keysU d d.n1) (putsU d d.n1)) rfl hO; clear hM'; have hM' := hM2; clear hM2; clear hM hb' hO hMA1 hmc1 hK1 tk_w1; have hM := hM'; clear hM'; simp only [List.cons_append, List.nil_append] at hM) | (have _t := tk_f6; refine wpList_zero rfl _ rfl (zeroTab _ _ _ rfl) hM ?_; intro f6 W' hf6 hM'; clear hM tk_f6; have hM := hM'; clear hM') | (have _t := tk_sf6; refine wpList_lay rfl _ _ _ rfl _ _ rfl _ _ rfl hM 0 rfl hf6 (rowTab _ _ rfl) (by omega) (fun k _ => flkV_one _ _ _ _ k) ?_; intro W' hM'; have hM2 := hM'.re 0 rfl (flkV ma1 d.n1 mc1 m1) (fun k hk => by simp [lay, hk]); simp only [List.set_cons_zero] at hM2; clear hM hM' tk_sf6; have hM := hM2; clear hM2) | (have _t := tk_r2; refine wpList_get rfl _ _ rfl _ _ rfl hM 2 rfl (rowTab _ _ rfl) (by omega) ?_; simp only [Nat.zero_add]; clear tk_r2) | (have _t := tk_w2; go_at_call 64; refine (HFW2.out _ ((H2.out.call hM.good.1).base (Below.refl _ _)) ⟨(HE.out.below hM.good.1).vars 1 (by omega), HT.out.below hM.good.1⟩ (.inl rfl)).mono ?_; rintro e' Wf ⟨ma2, mc2, m2, rfl, hmc2, hMA2, hO, hb'⟩; obtain ⟨K2, hM', hK2⟩ := hMA2.keep hM hb'; have HK2 := Lib.hid hK2; clear hM hb' hO hMA2 hmc2 hK2 tk_w2; have hM := hM'; clear hM'; simp only [List.cons_append, List.nil_append] at hM) | (have _t := tk_f8; refine wpList_zero rfl _ rfl (zeroTab _ _ _ rfl) hM ?_; intro f8 W' hf8 hM'; clear hM tk_f8; have hM := hM'; clear hM') | (have _t := tk_sf8; refine wpList_lay rfl _ _ _ rfl _ _ rfl _ _ rfl hM 0 rfl hf8 (rowTab _ _ rfl) (by omega) (fun k _ => flkV_one _ _ _ _ k) ?_; intro W' hM'; have hM2 := hM'.re 0 rfl (flkV ma2 e.n1 mc2 m2) (fun k hk => by simp [lay, hk]); simp only [List.set_cons_zero] at hM2; clear hM hM' tk_sf8; have hM := hM2; clear hM2) | (have _t := tk_l; refine wpList_lit2 rfl _ _ _ _ rfl (errO (a 0) false) (errO (a 0) false) rfl rfl (errO_one _ _) (errO_one _ _) _ errs_under err_info2 hM ?_; intro l W' hl hM'; clear hM tk_l; have hM := hM'; clear hM') | (go_at_call 87; refine (join_none (a 0) (es2 false false) _ 2 2 (by omega) cnt2_no _ ((hM.ats 0 _ _ _ rfl).congr (lit2_errE _ _ _))).mono ?_; rintro e' W' ⟨rfl, hb'⟩; have hM' := hM.call hb'; clear hM hb'; have hM := hM'; clear hM') | (have _t := tk_c1; refine wpList_get1 rfl _ _ rfl _ _ rfl hM 4 rfl (cellTab _ rfl) (by omega) _ q1 ?_; clear tk_c1) | (have _t := tk_fl; refine wpList_get rfl _ _ rfl _ _ rfl hM 2 rfl (rowTab _ _ rfl) (by omega) ?_; simp only [Nat.zero_add]; clear tk_fl) | (go_at_call 88; refine (HCF.out ma1 mc1 m1 _ (HN1.out.below hM.good.1 HN1.out.lt) hM.good.2).mono ?_; rintro e' W' ⟨rfl, hb'⟩; rw [HAN.out]; have hM' := hM.call hb'; clear hM hb'; have hM := hM'; clear hM') | (have _t := tk_c2; refine wpList_get1 rfl _ _ rfl _ _ rfl hM 2 rfl (cellTab _ rfl) (by omega) (.slice ma1 d.n1 mc1) rfl ?_; clear tk_c2) | (have _t := tk_c3; refine wpList_get1 rfl _ _ rfl _ _ rfl hM 1 rfl (cellTab _ rfl) (by omega) (.slice ma2 e.n1 mc2) rfl ?_; clear tk_c3) | (refine wpList_herd0 rfl rfl ?_) | (have _t := tk_s2; refine wpList_lay rfl _ _ _ rfl _ _ rfl _ _ rfl hM 3 rfl (by assumption) (rowTab _ _ rfl) (by omega) (fun k _ => nil3_one k) ?_; intro W' hM'; clear hM tk_s2; have hM := hM'; clear hM'; simp only [List.set] at hM))
        have hA1 := (hM.ats 3 _ _ _ rfl).congr (g := nil3) (fun j hj => by simp [lay, hj, nil3])
        exact bodyPost_ret (results_at2 rfl _ rfl hA1 rowHerd _ rfl) rfl (GivesH.none hM.good.1 rfl rfl)
      · rw [if_neg h14] at hc
        exact absurd rfl hc
    · have HAN := Lib.hid hA
      clear hc hA hB hOk hOe
      rw [if_pos rfl]
      have tk_x1 : True := trivial; have tk_x2 : True := trivial; have tk_r : True := trivial; have tk_r1 : True := trivial; have tk_w1 : True := trivial; have tk_f6 : True := trivial; have tk_sf6 : True := trivial; have tk_r2 : True := trivial; have tk_w2 : True := trivial; have tk_f8 : True := trivial; have tk_sf8 : True := trivial; have tk_l : True := trivial; have tk_c1 : True := trivial; have tk_fl : True := trivial; have tk_s2 : True := trivial
      go_enter Tryd.func37, Tryd.ntmps37
      go_wp2_with (first | (have _t := tk_x1; refine wpList_box rfl _ _ rfl _ _ rfl hM ?_; intro x1 W' hx1 hM'; clear hM tk_x1; have hM := hM'; clear hM') | (have _t := tk_x2; refine wpList_box rfl _ _ rfl _ _ rfl hM ?_; intro x2 W' hx2 hM'; clear hM tk_x2; have hM := hM'; clear hM') | (have _t := tk_r; refine wpList_zero rfl _ rfl zeroHerd hM ?_; intro r W' hr hM'; clear hM tk_r; have hM := hM'; clear hM') | (have _t := tk_r1; refine wpList_get rfl _ _ rfl _ _ rfl hM 2 rfl (rowTab _ _ rfl) (by omega) ?_; simp only [Nat.zero_add]; clear tk_r1) | (have _t := tk_w1; go_at_call 64; refine (HFW1.out _ ((H1.out.call hM.below).base (Below.refl _ _)) ⟨(HE.out.below hM.below).vars 1 (by omega), HT.out.below hM.below⟩ (.inl rfl)).mono ?_; rintro e' Wf ⟨ma1, mc1, m1, rfl, hmc1, hMA1, hO, hb'⟩; obtain ⟨K1, hM', hK1⟩ := hMA1.keep hM hb'; have HK1 := Lib.hid hK1; have hM2 := hM'.withO (o := mapO kvS (keysU d d.n1) (putsU d d.n1)) rfl hO; clear hM'; have hM' := hM2; clear hM2; clear hM hb' hO hMA1 hmc1 hK1 tk_w1; have hM := hM'; clear hM'; simp only [List.cons_append, List.nil_append] at hM) | (have _t := tk_f6; refine wpList_zero rfl _ rfl (zeroTab _ _ _ rfl) hM ?_; intro f6 W' hf6 hM'; clear hM tk_f6; have hM := hM'; clear hM') | (have _t := tk_sf6; refine wpList_lay rfl _ _ _ rfl _ _ rfl _ _ rfl hM 0 rfl hf6 (rowTab _ _ rfl) (by omega) (fun k _ => flkV_one _ _ _ _ k) ?_; intro W' hM'; have hM2 := hM'.re 0 rfl (flkV ma1 d.n1 mc1 m1) (fun k hk => by simp [lay, hk]); simp only [List.set_cons_zero] at hM2; clear hM hM' tk_sf6; have hM := hM2; clear hM2) | (have _t := tk_r2; refine wpList_get rfl _ _ rfl _ _ rfl hM 2 rfl (rowTab _ _ rfl) (by omega) ?_; simp only [Nat.zero_add]; clear tk_r2) | (have _t := tk_w2; go_at_call 64; refine (HFW2.out _ ((H2.out.call hM.good.1).base (Below.refl _ _)) ⟨(HE.out.below hM.good.1).vars 1 (by omega), HT.out.below hM.good.1⟩ (.inl rfl)).mono ?_; rintro e' Wf ⟨ma2, mc2, m2, rfl, hmc2, hMA2, hO, hb'⟩; obtain ⟨K2, hM', hK2⟩ := hMA2.keep hM hb'; have HK2 := Lib.hid hK2; clear hM hb' hO hMA2 hmc2 hK2 tk_w2; have hM := hM'; clear hM'; simp only [List.cons_append, List.nil_append] at hM) | (have _t := tk_f8; refine wpList_zero rfl _ rfl (zeroTab _ _ _ rfl) hM ?_; intro f8 W' hf8 hM'; clear hM tk_f8; have hM := hM'; clear hM') | (have _t := tk_sf8; refine wpList_lay rfl _ _ _ rfl _ _ rfl _ _ rfl hM 0 rfl hf8 (rowTab _ _ rfl) (by omega) (fun k _ => flkV_one _ _ _ _ k) ?_; intro W' hM'; have hM2 := hM'.re 0 rfl (flkV ma2 e.n1 mc2 m2) (fun k hk => by simp [lay, hk]); simp only [List.set_cons_zero] at hM2; clear hM hM' tk_sf8; have hM := hM2; clear hM2) | (have _t := tk_l; refine wpList_lit2 rfl _ _ _ _ rfl (errO (a 0) false) (errO (a 0) false) rfl rfl (errO_one _ _) (errO_one _ _) _ errs_under err_info2 hM ?_; intro l W' hl hM'; clear hM tk_l; have hM := hM'; clear hM') | (go_at_call 87; refine (join_none (a 0) (es2 false false) _ 2 2 (by omega) cnt2_no _ ((hM.ats 0 _ _ _ rfl).congr (lit2_errE _ _ _))).mono ?_; rintro e' W' ⟨rfl, hb'⟩; have hM' := hM.call hb'; clear hM hb'; have hM := hM'; clear hM') | (have _t := tk_c1; refine wpList_get1 rfl _ _ rfl _ _ rfl hM 4 rfl (cellTab _ rfl) (by omega) _ q1 ?_; clear tk_c1) | (have _t := tk_fl; refine wpList_get rfl _ _ rfl _ _ rfl hM 2 rfl (rowTab _ _ rfl) (by omega) ?_; simp only [Nat.zero_add]; clear tk_fl) | (go_at_call 88; refine (HCF.out ma1 mc1 m1 _ (HN1.out.below hM.good.1 HN1.out.lt) hM.good.2).mono ?_; rintro e' W' ⟨rfl, hb'⟩; rw [HAN.out]; have hM' := hM.call hb'; clear hM hb'; have hM := hM'; clear hM') | (refine wpList_herd0 rfl rfl ?_) | (have _t := tk_s2; refine wpList_lay rfl _ _ _ rfl _ _ rfl _ _ rfl hM 3 rfl (by assumption) (rowTab _ _ rfl) (by omega) (fun k _ => nil3_one k) ?_; intro W' hM'; clear hM tk_s2; have hM := hM'; clear hM'; simp only [List.set] at hM))
      have hA1 := (hM.ats 3 _ _ _ rfl).congr (g := nil3) (fun j hj => by simp [lay, hj, nil3])
      exact bodyPost_ret (results_at2 rfl _ rfl hA1 rowHerd _ rfl) rfl (GivesH.none hM.good.1 rfl rfl)
end Go.Proofs.YthodkbmenndnoaaDoor

/-
  bits.OnesCount16, (goatSet).count by contracts.
-/
namespace Go.Proofs.YthodkbmenndnoaaDoor
open Go Go.RowKit Go.BigFrame

theorem pop_run {o : Oper} {a : Act} (x y : Operand) (ho : o.op = .index 9 x y) (s : ByteArray) (hs : s = Lib.pop8tab) (hx : a.eval x = .string s) (kk : IntKind) (k : Nat) (hk : k < 256) (hy : a.eval y = .int kk k) (p : Nat) (hp : Lib.pop8 k = p) (W : World) :
    (execOp a.eval o).run Tryd.prog W = .ok (.value (.int .u8 p)) W := by
  unfold execOp
  simp only [ho, hx, hy, hs, Sem.run_bind, Sem.run_pure, Lib.run_index_pop8tab W 9 kk (k : Int) Tryd.underlying9 (by omega) (by omega), Result.andThen_ok, hp]
def cnt8 (a : Nat) : Nat := ((List.range 8).filter fun k => a.testBit k).length
theorem cnt8_pop : ∀ a : Fin 256, Lib.pop8 (a.val : Int) = (cnt8 a.val : Int) := by decide +kernel
theorem cnt8_le (a : Nat) : cnt8 a ≤ 8 := by
  have := List.length_filter_le (fun k => a.testBit k) (List.range 8)
  simpa [cnt8] using this
theorem bits_cnt (s : Nat) : (bitsL s).length = cnt8 (s / 256) + cnt8 (s % 256) := by
  unfold bitsL cnt8
  have e : List.range 16 = List.range 8 ++ (List.range 8).map (8 + ·) := by decide
  rw [e, List.filter_append, List.length_append, List.filter_map, List.length_map, Nat.add_comm]
  congr 2
  · apply List.filter_congr
    intro k hk
    have : k < 8 := by simpa using hk
    simp only [Function.comp]
    rw [show (256 : Nat) = 2 ^ 8 from rfl, Nat.testBit_div_two_pow, Nat.add_comm]
  · apply List.filter_congr
    intro k hk
    have : k < 8 := by simpa using hk
    rw [show (256 : Nat) = 2 ^ 8 from rfl, Nat.testBit_mod_two_pow]
    simp [this]

set_option maxRecDepth 100000 in
set_option maxHeartbeats 1000000 in
theorem ones_any (s : Nat) (h : s < 65536) (w : World) :
    Calls Tryd.prog 111 #[.int .u16 s] w fun e w' => e = .returned (.int .i64 (bitsL s).length) ∧ Below w.heap.size w w' := by
  have hM := Mem.nil w
  obtain ⟨q, hq⟩ : ∃ q, s / 256 = q := ⟨_, rfl⟩
  obtain ⟨r, hr⟩ : ∃ r, s % 256 = r := ⟨_, rfl⟩
  have hq2 : q < 256 := by omega
  have hr2 : r < 256 := by omega
  obtain ⟨x, hx⟩ : ∃ x, cnt8 q = x := ⟨_, rfl⟩
  obtain ⟨y, hy⟩ : ∃ y, cnt8 r = y := ⟨_, rfl⟩
  have hpq : Lib.pop8 q = x := by rw [← hx]; exact cnt8_pop ⟨q, hq2⟩
  have hpr : Lib.pop8 r = y := by rw [← hy]; exact cnt8_pop ⟨r, hr2⟩
  have hx8 : x ≤ 8 := by rw [← hx]; exact cnt8_le q
  have hy8 : y ≤ 8 := by rw [← hy]; exact cnt8_le r
  have HZ := Lib.hid (show (bitsL s).length = x + y from by rw [bits_cnt, hq, hr, hx, hy])
  have eq : (s : Int) / 256 = q := by omega
  have er : (s : Int) % 256 = r := by omega
  have ea : bits .and .u16 (s : Int) 255 = r := by
    have : bits .and .u16 (s : Int) ((255 : Nat) : Int) = ((s &&& 255 : Nat) : Int) := and_u16 h (by decide)
    rw [show ((255 : Nat) : Int) = 255 from rfl] at this
    rw [this, show 255 = 2 ^ 8 - 1 from rfl, Nat.and_two_pow_sub_one_eq_mod]
    omega
  clear hx hy hq
  go_enter Tryd.func111, Tryd.ntmps111
  go_wp2
  ((try simp only [Act.put, List.setIfInBounds_toArray, List.set_cons_succ, List.set_cons_zero]); refine wp_region_mem (by kernel_rfl) (by kernel_rfl) hM ?_; clear hM; (repeat (first | go_big_quiet_skip | (go_big_quiet_want; first | (refine quiet_val ⟨_, fun W => pop_run _ _ rfl _ (by kernel_rfl) rfl .u16 q hq2 rfl x hpq W, ?_⟩; (simp only [Act.put, List.setIfInBounds_toArray, List.set_cons_succ, List.set_cons_zero]); go_big_quiet_on) | (refine quiet_val ⟨_, fun W => pop_run _ _ rfl _ (by kernel_rfl) rfl .u16 r hr2 rfl y hpr W, ?_⟩; (simp only [Act.put, List.setIfInBounds_toArray, List.set_cons_succ, List.set_cons_zero]); go_big_quiet_on) | (refine quiet_val ?_; apply Exists.intro; refine ⟨fun W => ?_, ?_⟩; (go_simp; (try simp only [eq, ea, if_true, Bool.false_eq_true, if_false]); rfl); (simp only [Act.put, List.setIfInBounds_toArray, List.set_cons_succ, List.set_cons_zero]); go_big_quiet_on)))); (with_reducible refine wpQuiet_nil ?_); intro W' hM)
  go_wp2
  go_ret
  rw [HZ.out]
  have c1 : IntKind.u8.wrap ((x : Int) + (y : Int)) = (x : Int) + y := by show ((x : Int) + y) % 256 = _; omega
  have c2 : IntKind.i64.wrap ((x : Int) + (y : Int)) = (x : Int) + y := IntWalk.i64_in _ (by omega)
  exact ⟨by rw [c1, c2]; rfl, hM.below⟩
theorem count_any (s : Nat) (h : s < 65536) (w : World) :
    Calls Tryd.prog 85 #[.int .u16 s] w fun e w' => e = .returned (.int .i64 (bitsL s).length) ∧ Below w.heap.size w w' := by
  have hM := Mem.nil w
  have HO := Lib.hid (fun (W : World) => ones_any s h W)
  obtain ⟨n, hn⟩ : ∃ n, (bitsL s).length = n := ⟨_, rfl⟩
  rw [hn] at HO ⊢
  go_enter Tryd.func85, Tryd.ntmps85
  go_wp2_with (first | (go_at_call 111; refine (HO.out _).mono ?_; rintro e W' ⟨rfl, hb'⟩; have hM' := hM.call hb'; clear hM hb'; have hM := hM'; clear hM'))
  go_ret
  exact ⟨rfl, hM.below⟩
end Go.Proofs.YthodkbmenndnoaaDoor

/-
  impl.goatsIn, picked, PickHerd by contracts.
-/
namespace Go.Proofs.YthodkbmenndnoaaDoor
open Go Go.RowKit Go.BigFrame

set_option maxRecDepth 100000 in
set_option maxHeartbeats 2000000 in
theorem goatsIn_any (a : Option Addr) (n c : Nat) (ys : Nat → Int) (hn : n ≤ 1048576) (hy : ∀ j, j < n → 0 ≤ ys j ∧ ys j < 14) (w : World) (hA : IntsAt w a n ys) :
    Calls Tryd.prog 84 #[.slice a n c] w fun e w' => e = .returned (.int .u16 ((usedU ys n : Nat) : Int)) ∧ Below w.heap.size w w' := by
  have hM := Mem.nil w
  have HA := Lib.hid hA
  have HY := Lib.hid hy
  clear hA hy
  go_enter Tryd.func84, Tryd.ntmps84
  go_wp2
  go_loopw [3, 8] (fun sv i wr => ∃ k : Nat, k ≤ n ∧ i = .int .i64 k ∧ sv = .int .u16 ((usedU ys k : Nat) : Int) ∧ Mem w [] wr) (fun _ i _ => n - (intOf i).toNat)
  case atStart => exact ⟨0, by omega, rfl, rfl, hM⟩
  case round =>
    clear hM
    obtain ⟨k, hk, rfl, rfl, hM⟩ := hrel
    by_cases hlt : k < n
    · have l2 : (k : Int) < n := by omega
      obtain ⟨b, N, F, rfl, hN, hF, hAt⟩ := (HA.out.below hM.below).at hlt
      have hyk := HY.out k hlt
      obtain ⟨y, hy⟩ : ∃ y : Nat, ys k = y := ⟨(ys k).toNat, by omega⟩
      have HU := Lib.hid (show usedU ys k < 2 ^ 14 from used_lt fun i hi => by have := HY.out i (by omega); omega)
      have HN := Lib.hid (show usedU ys (k + 1) = usedU ys k ||| 2 ^ y from by simp only [usedU]; rw [hy, Int.toNat_natCast])
      rw [hy] at hF hyk
      have hy16 : y < 16 := by omega
      obtain ⟨p, hp⟩ : ∃ p, 2 ^ y = p := ⟨_, rfl⟩
      have hp2 : p < 65536 := by rw [← hp]; exact u16_two y hy16
      rw [hp] at HN
      have HP := Lib.hid hp
      have HT := Lib.hid hAt
      clear hAt hy hp hyk
      obtain ⟨u, hu⟩ : ∃ u, usedU ys k = u := ⟨_, rfl⟩
      rw [hu] at HU HN ⊢
      have hu2 : u < 65536 := Nat.lt_trans HU.out (by decide)
      clear hu HU
      go_wp2_with (first | (refine wpList_getAt1 rfl _ _ rfl _ _ rfl HT.out (cellTab _ rfl) (by omega) _ hF ?_) | (go_at_call 103; (with_reducible refine (alone_any y hy16 p HP.out _).mono ?_); rintro e W' ⟨rfl, hb'⟩; have hM' := hM.call hb'; clear hM hb'; have hM := hM'; clear hM') | (go_at_call 104; (with_reducible refine (joined_any u p hu2 hp2 (u ||| p) rfl _).mono ?_); rintro e W' ⟨rfl, hb'⟩; have hM' := hM.call hb'; clear hM hb'; have hM := hM'; clear hM'))
      go_roundw
      case rel => exact ⟨k + 1, by omega, by go_num, by rw [HN.out], hM⟩
      case measure => simp [intOf]; omega
    · obtain rfl : k = n := by omega
      go_wp2
      go_ret
      exact ⟨rfl, hM.below⟩

theorem sMem_pk (d : Hd) (n : Nat) (ys : Nat → Int) (i : Nat) : ∀ j, j < 3 → mem3 (d.ss (ys i).toNat) (d.es (ys i).toNat) ((pkU d ys i n : Nat) : Int) j = sMem (pkD d n ys) (i * 3 + j) := fun j hj => by
  rw [sMem_row (pkD d n ys) i j hj]
  rfl
set_option maxRecDepth 100000 in
set_option maxHeartbeats 4000000 in
theorem picked_any {m : Nat} (d : Hd) (hf : ∀ i, i < m → 0 ≤ d.fs i ∧ d.fs i ≤ 65535) (ma a : Option Addr) (mc n c : Nat) (ys : Nat → Int) (hm : m ≤ 14) (hn : n ≤ 14) (hy : ∀ j, j < n → 0 ≤ ys j ∧ ys j < m) (w : World) (hMA : MemsAt w ma m d) (hA : IntsAt w a n ys) :
    Calls Tryd.prog 86 #[.slice ma m mc, .slice a n c] w fun r w' => ∃ v, r = .returned v ∧ Lst w [] 3 v n (sMem (pkD d n ys)) w' := by
  have hM := Mem.nil w
  have HA := Lib.hid hA
  have HM := Lib.hid hMA
  have HY := Lib.hid hy
  have HAF := Lib.hid (fun (i k : Nat) (hi : i < m) (hk : k < m) (W : World) hA => areFoes_any d ma m mc i k hi (by omega) (hf i hi) W hA)
  have HV := Lib.hid (sMem_pk d n ys)
  obtain ⟨R, hR⟩ : ∃ R, sMem (pkD d n ys) = R := ⟨_, rfl⟩
  rw [hR] at HV ⊢
  clear hA hMA hy hR
  go_enter Tryd.func86, Tryd.ntmps86
  go_wp2
  go_loopw [5, 13] (fun v i wr => ∃ k : Nat, k ≤ n ∧ i = .int .i64 k ∧ Lst w [] 3 v k R wr) (fun _ i _ => n - (intOf i).toNat)
  case atStart => exact ⟨0, by omega, rfl, .inl ⟨rfl, rfl, hM⟩⟩
  case round =>
    clear hM
    obtain ⟨i, hi, rfl, hL⟩ := hrel
    by_cases hlt : i < n
    · have l2 : (i : Int) < n := by omega
      have hbw := hL.mem.below
      obtain ⟨b, N, F, rfl, hN, hF, hAt⟩ := (HA.out.below hbw).at hlt
      have hyi := HY.out i hlt
      obtain ⟨y, hyy⟩ : ∃ y : Nat, ys i = y := ⟨(ys i).toNat, by omega⟩
      have hym : y < m := by omega
      have hti : (ys i).toNat = y := by omega
      have lym : (y : Int) < m := by omega
      obtain ⟨bm, Nm, Fm, rfl, hNm, -, hFm, hAm⟩ := (HM.out.below hbw).row hym
      have hV := HV.out i
      rw [hti] at hV
      have HT := Lib.hid hAt
      have HTm := Lib.hid hAm
      have HFm := Lib.hid hFm
      rw [hyy] at hF
      have HTI := Lib.hid hti
      have HR3 : Hid (∀ j, j < 3 → lay zMem 0 3 (gMem d y) j = mem3 (d.ss y) (d.es y) (d.fs y) j) := Lib.hid (fun j hj => by simp [lay, hj, gMem])
      have HV2 := Lib.hid hV
      clear hAt hAm hFm hyi hyy hti hV hbw
      have HP0 : Hid (pkU d ys i 0 = 0) := Lib.hid rfl
      have HPL : Hid (∀ k, k ≤ n → pkU d ys i k < 65536) := Lib.hid (fun k hk => Nat.lt_of_lt_of_le (pkU_lt d ys i k) (Nat.pow_le_pow_right (by decide) (show k ≤ 16 by omega)))
      have HPS : Hid (∀ k, k < n → pkU d ys i (k + 1) = if foe d y (ys k).toNat = true then pkU d ys i k ||| 2 ^ k else pkU d ys i k) := Lib.hid (fun k _ => by rw [← HTI.out]; rfl)
      generalize pkU d ys i = PU at HP0 HPL HPS HV2
      generalize d.ss y = sk at HR3 HV2
      generalize d.es y = ek at HR3 HV2
      generalize d.fs y = fk at HR3
      rcases hL with ⟨rfl, h00, hM⟩ | ⟨bl, cc, Fl, rfl, hbb, hnc, hFl, hM⟩
      · obtain rfl : i = 0 := by omega
        have HV3 := Lib.hid (fun j (hj : j < 3) => (HV2.out j hj).trans (show R (0 * 3 + j) = R j from by rw [Nat.zero_mul, Nat.zero_add]))
        have tk_b3 : True := trivial; have tk_g1 : True := trivial; have tk_g3 : True := trivial; have tk_s1 : True := trivial; have tk_s2 : True := trivial
        go_wp2_with (first | (have _t := tk_g1; refine wpList_getAt1 rfl _ _ rfl _ _ rfl HT.out (cellTab _ rfl) (by omega) _ hF ?_; clear tk_g1) | (have _t := tk_g3; refine wpList_getAt rfl _ _ rfl _ _ rfl HTm.out (rowTab _ _ rfl) (by omega) (gMem d y) HFm.out ?_; clear tk_g3) | (have _t := tk_b3; refine wpList_zero rfl _ rfl (zeroTab _ _ _ rfl) hM ?_; intro b3 W' hb3 hM'; clear hM tk_b3; have hM := hM'; clear hM') | (have _t := tk_s1; refine wpList_lay rfl _ _ _ rfl _ _ rfl _ _ rfl hM 0 rfl (by assumption) (rowTab _ _ rfl) (by omega) (fun j _ => gMem_one d y j) ?_; intro W' hM'; have hM2 := hM'.re 0 rfl (mem3 sk ek fk) HR3.out; simp only [List.set_cons_zero] at hM2; clear hM hM' tk_s1; have hM := hM2; clear hM2) | (have _t := tk_s2; refine wpList_set1 rfl _ _ _ rfl _ _ rfl (.int .u16 0) rfl rfl hM 0 rfl hb3 (cellTab _ rfl) (by omega) ?_; intro W' hM'; have hM2 := hM'.re 0 rfl (mem3 sk ek ((PU 0 : Nat) : Int)) (fun k hk => by rw [HP0.out]; exact mem3_upd k hk); simp only [List.set_cons_zero] at hM2; clear hM hM' tk_s2; have hM := hM2; clear hM2))
        go_loopw [24] (fun i2 wr2 => ∃ k : Nat, k ≤ n ∧ i2 = .int .i64 k ∧ Mem (Base.of w) ((b3, 3, mem3 sk ek ((PU k : Nat) : Int)) :: []) wr2) (fun i2 _ => n - (intOf i2).toNat)
        case atStart => exact ⟨0, by omega, rfl, hM⟩
        case round =>
          clear hM
          obtain ⟨k, hk, rfl, hM⟩ := hrel
          by_cases hkt : k < n
          · have l3 : (k : Int) < n := by omega
            obtain ⟨bk, Nk, Fk, hek, hNk, hFk, hAk⟩ := (HA.out.below hM.below).at hkt
            cases hek
            obtain ⟨z, hz⟩ : ∃ z : Nat, ys k = z := ⟨(ys k).toNat, by have := HY.out k hkt; omega⟩
            have hzm : z < m := by have := HY.out k hkt; omega
            have HS := HPS.out k hkt
            rw [hz, Int.toNat_natCast] at HS
            rw [hz] at hFk
            have HTk := Lib.hid hAk
            have hu2 := HPL.out k (by omega)
            clear hAk hz
            cases hb : foe d y z
            · rw [hb] at HS
              have HS0 := Lib.hid (show PU (k + 1) = PU k from HS)
              have Hb := Lib.hid hb
              clear HS hb
              go_wp2_with (first | (refine wpList_getAt1 rfl _ _ rfl _ _ rfl HTk.out (cellTab _ rfl) (by omega) _ hFk ?_) | (go_at_call 70; refine (HAF.out y z hym hzm _ (HM.out.below hM.below)).mono ?_; rintro e W' ⟨rfl, hb'⟩; rw [Hb.out]; have hM' := hM.call hb'; clear hM hb'; have hM := hM'; clear hM'))
              go_roundw
              case rel => exact ⟨k + 1, by omega, by go_num, by rw [HS0.out]; exact hM⟩
              case measure => simp [intOf]; omega
            · rw [hb] at HS
              have Hb := Lib.hid hb
              obtain ⟨p, hp⟩ : ∃ p, 2 ^ k = p := ⟨_, rfl⟩
              have hp2 : p < 65536 := by rw [← hp]; exact u16_two k (by omega)
              obtain ⟨u, hu⟩ : ∃ u, PU k = u := ⟨_, rfl⟩
              obtain ⟨q, hq⟩ : ∃ q, u ||| p = q := ⟨_, rfl⟩
              have HS1 := Lib.hid (show PU (k + 1) = q from by rw [← hq, ← hu, ← hp]; exact HS)
              rw [hu] at hM hu2
              have eor : bits .or .u16 (u : Int) (p : Int) = (q : Int) := by rw [or_u16 hu2 hp2, hq]
              have HP := Lib.hid hp
              clear HS hb hu hq hp
              go_wp2_with (first | (refine wpList_getAt1 rfl _ _ rfl _ _ rfl HTk.out (cellTab _ rfl) (by omega) _ hFk ?_) | (go_at_call 70; refine (HAF.out y z hym hzm _ (HM.out.below hM.below)).mono ?_; rintro e W' ⟨rfl, hb'⟩; rw [Hb.out]; have hM' := hM.call hb'; clear hM hb'; have hM := hM'; clear hM'))
              ((try simp only [Act.put, List.setIfInBounds_toArray, List.set_cons_succ, List.set_cons_zero]); refine region_head_mem (m := 6) (by kernel_rfl) (by kernel_rfl) hM ?_; clear hM; simp only [List.take_succ_cons, List.take_zero, List.drop_succ_cons, List.drop_zero]; (repeat (first | go_big_quiet_skip | (go_big_quiet_want; first | (refine quiet_get1 _ _ rfl _ _ rfl 0 rfl (cellTab _ rfl) (by omega) _ ((show mem3 sk ek (u : Int) 2 = .int .u16 (u : Int) from rfl)) ?_; (simp only [Act.put, List.setIfInBounds_toArray, List.set_cons_succ, List.set_cons_zero]); go_big_quiet_on) | (refine quiet_call ?_; apply Exists.intro; apply Exists.intro; apply Exists.intro; refine ⟨fun W => ?_, fun W hM => ?_, ?_⟩; (go_simp; exact ⟨rfl, rfl⟩); (exact alone_any k (by omega) p HP.out W); (simp only [Act.put, List.setIfInBounds_toArray, List.set_cons_succ, List.set_cons_zero]); go_big_quiet_on) | (refine quiet_val ?_; apply Exists.intro; refine ⟨fun W => ?_, ?_⟩; (go_simp; (try simp only [eor, if_true, Bool.false_eq_true, if_false]); rfl); (simp only [Act.put, List.setIfInBounds_toArray, List.set_cons_succ, List.set_cons_zero]); go_big_quiet_on)))); (with_reducible refine wpQuiet_nil ?_); intro W' hM)
              go_wp2_with (first | (refine wpList_set1 rfl _ _ _ rfl _ _ rfl (.int .u16 (q : Int)) rfl rfl hM 0 rfl hb3 (cellTab _ rfl) (by omega) ?_; intro W' hM'; have hM2 := hM'.re 0 rfl (mem3 sk ek (q : Int)) mem3_upd; simp only [List.set_cons_zero] at hM2; clear hM hM'; have hM := hM2; clear hM2))
              go_roundw
              case rel => exact ⟨k + 1, by omega, by go_num, by rw [HS1.out]; exact hM⟩
              case measure => simp [intOf]; omega
          · obtain rfl : k = n := by omega
            have tk_g2 : True := trivial; have tk_sl : True := trivial; have tk_ps : True := trivial
            go_wp2_with (first | (have _t := tk_g2; refine wpList_get rfl _ _ rfl _ _ rfl hM 0 rfl (rowTab _ _ rfl) (by omega) ?_; simp only [Nat.zero_add]; clear tk_g2) | (have _t := tk_sl; refine wpList_slice1 rfl _ _ _ rfl 3 (mem3 sk ek ((PU k : Nat) : Int)) rfl _ member_under member_info (by omega) (by omega) hM ?_; intro sl W' hsl hM'; clear hM tk_sl; have hM := hM'; clear hM') | (have _t := tk_ps; refine wpList_push0 rfl _ _ _ rfl _ 3 _ _ member_under member_infoB rfl (by omega) rfl _ _ rfl hM R HV3.out ?_; intro g i G W' hg hi hG hM'; have HG := Lib.hid hG; clear hM tk_ps hG; have hM := hM'; clear hM'))
            exact ⟨⟨1, by omega, by go_num, (show Lst w _ 3 _ (0 + 1) R _ from .inr ⟨g, i, G, rfl, hg, hi, HG.out, hM⟩).only⟩, by simp [intOf]; omega⟩
      · have hi1 : i ≤ 1048576 := by omega
        have HFl := Lib.hid hFl
        clear hFl
        have tk_b3 : True := trivial; have tk_g1 : True := trivial; have tk_g3 : True := trivial; have tk_s1 : True := trivial; have tk_s2 : True := trivial
        go_wp2_with (first | (have _t := tk_g1; refine wpList_getAt1 rfl _ _ rfl _ _ rfl HT.out (cellTab _ rfl) (by omega) _ hF ?_; clear tk_g1) | (have _t := tk_g3; refine wpList_getAt rfl _ _ rfl _ _ rfl HTm.out (rowTab _ _ rfl) (by omega) (gMem d y) HFm.out ?_; clear tk_g3) | (have _t := tk_b3; refine wpList_zero rfl _ rfl (zeroTab _ _ _ rfl) hM ?_; intro b3 W' hb3 hM'; clear hM tk_b3; have hM := hM'; clear hM') | (have _t := tk_s1; refine wpList_lay rfl _ _ _ rfl _ _ rfl _ _ rfl hM 0 rfl (by assumption) (rowTab _ _ rfl) (by omega) (fun j _ => gMem_one d y j) ?_; intro W' hM'; have hM2 := hM'.re 0 rfl (mem3 sk ek fk) HR3.out; simp only [List.set_cons_zero] at hM2; clear hM hM' tk_s1; have hM := hM2; clear hM2) | (have _t := tk_s2; refine wpList_set1 rfl _ _ _ rfl _ _ rfl (.int .u16 0) rfl rfl hM 0 rfl hb3 (cellTab _ rfl) (by omega) ?_; intro W' hM'; have hM2 := hM'.re 0 rfl (mem3 sk ek ((PU 0 : Nat) : Int)) (fun k hk => by rw [HP0.out]; exact mem3_upd k hk); simp only [List.set_cons_zero] at hM2; clear hM hM' tk_s2; have hM := hM2; clear hM2))
        go_loopw [24] (fun i2 wr2 => ∃ k : Nat, k ≤ n ∧ i2 = .int .i64 k ∧ Mem (Base.of w) ((b3, 3, mem3 sk ek ((PU k : Nat) : Int)) :: [(bl, cc * 3, Fl)]) wr2) (fun i2 _ => n - (intOf i2).toNat)
        case atStart => exact ⟨0, by omega, rfl, hM⟩
        case round =>
          clear hM
          obtain ⟨k, hk, rfl, hM⟩ := hrel
          by_cases hkt : k < n
          · have l3 : (k : Int) < n := by omega
            obtain ⟨bk, Nk, Fk, hek, hNk, hFk, hAk⟩ := (HA.out.below hM.below).at hkt
            cases hek
            obtain ⟨z, hz⟩ : ∃ z : Nat, ys k = z := ⟨(ys k).toNat, by have := HY.out k hkt; omega⟩
            have hzm : z < m := by have := HY.out k hkt; omega
            have HS := HPS.out k hkt
            rw [hz, Int.toNat_natCast] at HS
            rw [hz] at hFk
            have HTk := Lib.hid hAk
            have hu2 := HPL.out k (by omega)
            clear hAk hz
            cases hb : foe d y z
            · rw [hb] at HS
              have HS0 := Lib.hid (show PU (k + 1) = PU k from HS)
              have Hb := Lib.hid hb
              clear HS hb
              go_wp2_with (first | (refine wpList_getAt1 rfl _ _ rfl _ _ rfl HTk.out (cellTab _ rfl) (by omega) _ hFk ?_) | (go_at_call 70; refine (HAF.out y z hym hzm _ (HM.out.below hM.below)).mono ?_; rintro e W' ⟨rfl, hb'⟩; rw [Hb.out]; have hM' := hM.call hb'; clear hM hb'; have hM := hM'; clear hM'))
              go_roundw
              case rel => exact ⟨k + 1, by omega, by go_num, by rw [HS0.out]; exact hM⟩
              case measure => simp [intOf]; omega
            · rw [hb] at HS
              have Hb := Lib.hid hb
              obtain ⟨p, hp⟩ : ∃ p, 2 ^ k = p := ⟨_, rfl⟩
              have hp2 : p < 65536 := by rw [← hp]; exact u16_two k (by omega)
              obtain ⟨u, hu⟩ : ∃ u, PU k = u := ⟨_, rfl⟩
              obtain ⟨q, hq⟩ : ∃ q, u ||| p = q := ⟨_, rfl⟩
              have HS1 := Lib.hid (show PU (k + 1) = q from by rw [← hq, ← hu, ← hp]; exact HS)
              rw [hu] at hM hu2
              have eor : bits .or .u16 (u : Int) (p : Int) = (q : Int) := by rw [or_u16 hu2 hp2, hq]
              have HP := Lib.hid hp
              clear HS hb hu hq hp
              go_wp2_with (first | (refine wpList_getAt1 rfl _ _ rfl _ _ rfl HTk.out (cellTab _ rfl) (by omega) _ hFk ?_) | (go_at_call 70; refine (HAF.out y z hym hzm _ (HM.out.below hM.below)).mono ?_; rintro e W' ⟨rfl, hb'⟩; rw [Hb.out]; have hM' := hM.call hb'; clear hM hb'; have hM := hM'; clear hM'))
              ((try simp only [Act.put, List.setIfInBounds_toArray, List.set_cons_succ, List.set_cons_zero]); refine region_head_mem (m := 6) (by kernel_rfl) (by kernel_rfl) hM ?_; clear hM; simp only [List.take_succ_cons, List.take_zero, List.drop_succ_cons, List.drop_zero]; (repeat (first | go_big_quiet_skip | (go_big_quiet_want; first | (refine quiet_get1 _ _ rfl _ _ rfl 0 rfl (cellTab _ rfl) (by omega) _ ((show mem3 sk ek (u : Int) 2 = .int .u16 (u : Int) from rfl)) ?_; (simp only [Act.put, List.setIfInBounds_toArray, List.set_cons_succ, List.set_cons_zero]); go_big_quiet_on) | (refine quiet_call ?_; apply Exists.intro; apply Exists.intro; apply Exists.intro; refine ⟨fun W => ?_, fun W hM => ?_, ?_⟩; (go_simp; exact ⟨rfl, rfl⟩); (exact alone_any k (by omega) p HP.out W); (simp only [Act.put, List.setIfInBounds_toArray, List.set_cons_succ, List.set_cons_zero]); go_big_quiet_on) | (refine quiet_val ?_; apply Exists.intro; refine ⟨fun W => ?_, ?_⟩; (go_simp; (try simp only [eor, if_true, Bool.false_eq_true, if_false]); rfl); (simp only [Act.put, List.setIfInBounds_toArray, List.set_cons_succ, List.set_cons_zero]); go_big_quiet_on)))); (with_reducible refine wpQuiet_nil ?_); intro W' hM)
              go_wp2_with (first | (refine wpList_set1 rfl _ _ _ rfl _ _ rfl (.int .u16 (q : Int)) rfl rfl hM 0 rfl hb3 (cellTab _ rfl) (by omega) ?_; intro W' hM'; have hM2 := hM'.re 0 rfl (mem3 sk ek (q : Int)) mem3_upd; simp only [List.set_cons_zero] at hM2; clear hM hM'; have hM := hM2; clear hM2))
              go_roundw
              case rel => exact ⟨k + 1, by omega, by go_num, by rw [HS1.out]; exact hM⟩
              case measure => simp [intOf]; omega
          · obtain rfl : k = n := by omega
            have tk_g2 : True := trivial; have tk_sl : True := trivial; have tk_ps : True := trivial
            go_wp2_with (first | (have _t := tk_g2; refine wpList_get rfl _ _ rfl _ _ rfl hM 0 rfl (rowTab _ _ rfl) (by omega) ?_; simp only [Nat.zero_add]; clear tk_g2) | (have _t := tk_sl; have hM2 := hM.swap; clear hM; have hM := hM2; clear hM2; refine wpList_slice1 rfl _ _ _ rfl 3 (mem3 sk ek ((PU k : Nat) : Int)) rfl _ member_under member_info (by omega) (by omega) hM ?_; intro sl W' hsl hM'; clear hM tk_sl; have hM := hM'; clear hM') | (have _t := tk_ps; refine wpList_push1 rfl _ _ _ rfl _ 3 _ _ member_under member_infoB rfl (by omega) _ _ _ _ rfl hbb hnc hi1 _ _ rfl mem3_ones hM R HFl.out HV2.out ?_; intro g i2 G W' hg hi2 hG hM'; have HG := Lib.hid hG; clear hM tk_ps hG; have hM := hM'; clear hM'))
            exact ⟨⟨i + 1, by omega, by go_num, (show Lst w _ 3 _ (i + 1) R _ from .inr ⟨g, i2, G, rfl, hg, hi2, HG.out, hM⟩).only⟩, by simp [intOf]; omega⟩
    · obtain rfl : i = n := by omega
      go_wp2
      go_ret
      exact ⟨_, rfl, hL⟩
end Go.Proofs.YthodkbmenndnoaaDoor

