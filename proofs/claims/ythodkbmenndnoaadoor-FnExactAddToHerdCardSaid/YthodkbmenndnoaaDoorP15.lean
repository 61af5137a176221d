/-
  Several texts in one: AddI, HerdEq.
-/
import Derived.Test.YthodkbmenndnoaaDoorP13
import Derived.Test.YthodkbmenndnoaaDoorP14
import Derived.Test.YthodkbmenndnoaaDoorP7
import Derived.Test.YthodkbmenndnoaaDoorP9
/-
  impl.AddToHerd by contract.
-/
namespace Go.Proofs.YthodkbmenndnoaaDoor
open Go Go.RowKit Go.BigFrame

theorem run_memb2 (s : ByteArray) (e : Int) (W : World) : (Instr.build 77 #[(0, .string s), (1, .int .i16 e)]).run Tryd.prog W = .ok (.agg (arr 3 (mem3 s e 0))) W := by kernel_rfl
theorem wpList_memb2 {ops : Array Oper} {rest : List Oper} {o : Oper} {a : Act} {W : World} {Q : Exit → Act → World → Prop} (hgd : o.guard = none) (x y : Operand) (ho : o.op = .build 77 #[(0, x), (1, y)]) (s : ByteArray) (e : Int)
    (hx : a.eval x = .string s) (hy : a.eval y = .int .i16 e)
    (h : wpList Tryd.prog ops Q rest (a.put o.dst (.agg (arr 3 (mem3 s e 0)))) W) : wpList Tryd.prog ops Q (o :: rest) a W := by
  refine wpList_plain hgd fun K hK => ?_
  have hr := run_memb2 s e W
  rw [← hx, ← hy] at hr
  unfold Oper.wp execOp
  simp only [ho, List.map_toArray, List.map_cons, List.map_nil, Sem.run_bind, Sem.run_pure, hr, Result.andThen_ok]
  exact hK _ _ h
theorem sMem_add {d : Hd} {s : ByteArray} {e : Int} {F : Nat → Value} (hF : ∀ j, j < d.n1 * 3 → F j = sMem d j) : ∀ j, j < d.n1 * 3 → F j = sMem (adD d s e) j := fun j hj => by
  rw [hF j hj]
  have h : ¬ j / 3 = d.n1 := by omega
  unfold sMem gMem adD
  simp only [h, if_false]
theorem sMem_new (d : Hd) (s : ByteArray) (e : Int) : ∀ j, j < 3 → mem3 s e 0 j = sMem (adD d s e) (d.n1 * 3 + j) := fun j hj => by
  rw [sMem_row (adD d s e) d.n1 j hj]
  unfold gMem adD
  simp

set_option maxRecDepth 100000 in
set_option maxHeartbeats 4000000 in
theorem implAddToHerd_any {a : Nat → Addr} (d : Hd) (b1 b2 b3 : Nat) (hd : FitsH d) (s : ByteArray) (hs : s.size ≤ maxLen) (e : Int) (w : World) (hM0 : Mem w (hdB d b1 b2 b3) w) (hE : Errs a w) (hT : Tab w) :
    Calls Tryd.prog 32 #[.agg (arr 3 (hdV d b1 b2 b3)), .string s, .int .i64 e] w (GivesH (adN d s e) (vStringS (adD d s e).ss) (vInt16S (adD d s e).es) (vUint16S (adD d s e).fs) (adC d s e) w) := by
  have hM := Mem.nil w
  have H0 := Lib.hid hM0
  have HE := Lib.hid hE
  have HT := Lib.hid hT
  clear hM0 hE hT
  by_cases hc : adC d s e = 0
  · obtain ⟨hOk, hin, hnm, hnd, h14⟩ := ad_0 hc
    have h14' := hOk.n
    have HR := Lib.hid (show adN d s e = d.n1 + 1 ∧ adC d s e = 0 from ⟨by unfold adN; rw [if_pos hc], hc⟩)
    have HI := Lib.hid hin
    have HNm := Lib.hid hnm
    have HNd := Lib.hid hnd
    have HND := Lib.hid (fun (ma : Option Addr) (n c m : Nat) (W : World) hO => isNamed_any d hd ma n c m s hs W hO)
    have hFW := fun (W : World) hB hE hG => flockWith_own (r := a 1) d b1 b2 b3 hd none 0 0 (fun _ => 0) (by omega) W hB hE hG hOk (fun j h => absurd h (by omega))
    have HA := Lib.hid (fun (F : Nat → Value) hF => sMem_add (d := d) (s := s) (e := e) (F := F) hF)
    have hV := sMem_new d s e
    have ew := in_i16 hin
    obtain ⟨hv, hhv⟩ : ∃ f, hdV d b1 b2 b3 = f := ⟨_, rfl⟩
    rw [hhv] at hFW ⊢
    have HFW := Lib.hid hFW
    clear hc hOk hin hnm hnd hhv hFW
    by_cases hpos : d.n1 = 0
    · have hV0 : ∀ j, j < 3 → mem3 s e 0 j = sMem (adD d s e) j := fun j hj => by have := hV j hj; rwa [hpos, Nat.zero_mul, Nat.zero_add] at this
      have HV := Lib.hid hV0
      have HR2 := Lib.hid (show d.n1 + 1 = 1 from by omega)
      rw [HR2.out] at HR
      have HP0 := Lib.hid hpos
      clear hV hV0 h14 h14' hpos
      have tk_x1 : True := trivial; have tk_r : True := trivial; have tk_r1 : True := trivial; have tk_f8 : True := trivial; have tk_s1 : True := trivial; have tk_gl : True := trivial; have tk_m1 : True := trivial; have tk_m2 : True := trivial; have tk_sl : True := trivial; have tk_ps : True := trivial; have tk_h1 : True := trivial; have tk_s2 : True := trivial
      go_enter Tryd.func32, Tryd.ntmps32
      go_wp2_with (first | (have _t := tk_x1; refine wpList_box rfl _ _ rfl _ _ rfl hM ?_; intro x1 W' hx1 hM'; clear hM tk_x1; have hM := hM'; clear hM') | (have _t := tk_r; refine wpList_zero rfl _ rfl zeroHerd hM ?_; intro r W' hr hM'; clear hM tk_r; have hM := hM'; clear hM') | (have _t := tk_r1; refine wpList_get rfl _ _ rfl _ _ rfl hM 1 rfl (rowTab _ _ rfl) (by omega) ?_; simp only [Nat.zero_add]; clear tk_r1) | (go_at_call 64; refine (HFW.out _ ((H0.out.call hM.below).base (Below.refl _ _)) ⟨(HE.out.below hM.below).vars 1 (by omega), HT.out.below hM.below⟩ (.inl rfl)).mono ?_; rintro e' Wf ⟨ma, mc, m, he, hmc0, hMA, hO, hb'⟩; obtain ⟨rfl, rfl⟩ := hMA.no HP0.out; rw [HP0.out] at he; subst he; have hM' := (hM.call hb').withO (o := mapO kvS (keysU d d.n1) (putsU d d.n1)) rfl hO; clear hM hb' hO hMA hmc0; have hM := hM'; clear hM') | (have _t := tk_f8; refine wpList_zero rfl _ rfl (zeroTab _ _ _ rfl) hM ?_; intro f8 W' hf8 hM'; clear hM tk_f8; have hM := hM'; clear hM') | (have _t := tk_s1; refine wpList_lay rfl _ _ _ rfl _ _ rfl _ _ rfl hM 0 rfl (by assumption) (rowTab _ _ rfl) (by omega) (fun k _ => flkV_one _ _ _ _ k) ?_; intro W' hM'; have hM2 := hM'.re 0 rfl (flkV none 0 0 m) (fun k hk => by simp [lay, hk]); simp only [List.set_cons_zero] at hM2; clear hM hM' tk_s1; have hM := hM2; clear hM2) | (go_at_call 81; (with_reducible refine (checkUpTo_yes e 100 _ HI.out).mono ?_); rintro e W' ⟨rfl, hb'⟩; have hM' := hM.call hb'; clear hM hb'; have hM := hM'; clear hM') | (go_at_call 82; refine (isName_any s _).mono ?_; rintro e W' ⟨rfl, hb'⟩; rw [HNm.out]; have hM' := hM.call hb'; clear hM hb'; have hM := hM'; clear hM') | (have _t := tk_gl; refine wpList_gget ?_ _ _ rfl _ _ rfl hM 0 rfl (rowTab _ _ rfl) (by omega) ?_; kernel_rfl; simp only [Nat.zero_add]; clear tk_gl) | (go_at_call 83; refine (HND.out _ 0 0 m _ hM.good.2).mono ?_; rintro e W' ⟨rfl, hb'⟩; rw [HNd.out]; have hM' := hM.call hb'; clear hM hb'; have hM := hM'; clear hM') | (have _t := tk_m1; refine wpList_get1 rfl _ _ rfl _ _ rfl hM 0 rfl (cellTab _ rfl) (by omega) (.slice none 0 0) rfl ?_; clear tk_m1) | (have _t := tk_m2; refine wpList_get1 rfl _ _ rfl _ _ rfl hM 0 rfl (cellTab _ rfl) (by omega) (.slice none 0 0) rfl ?_; clear tk_m2) | (refine wpList_memb2 rfl _ _ rfl s e rfl rfl ?_) | (have _t := tk_sl; refine wpList_slice1 rfl _ _ _ rfl 3 (mem3 s e 0) rfl _ member_under member_info (by omega) (by omega) hM ?_; intro sl W' hsl hM'; clear hM tk_sl; have hM := hM'; clear hM') | (have _t := tk_ps; refine wpList_push0 rfl _ _ _ rfl _ 3 _ _ member_under member_infoB rfl (by omega) rfl _ _ rfl hM (sMem (adD d s e)) HV.out ?_; intro g i G W' hg hi hG hM'; have HG := Lib.hid hG; clear hM tk_ps hG; have hM := hM'; clear hM') | (have _t := tk_h1; go_at_call 74; refine (herd_any (adD d s e) (some ⟨g, 0, none⟩) 1 i (by omega) _ (.inr ⟨g, i * 3, G, rfl, by omega, HG.out, hM.ats 0 _ _ _ rfl⟩)).mono ?_; rintro e' W2 ⟨f, rfl, hN⟩; have HO := Lib.hid hN.one; obtain ⟨K, hM', hK⟩ := hN.keep hM; have HK := Lib.hid (And.intro hM.size hK); clear hK hM hN tk_h1; have hM := hM'; clear hM'; simp only [List.cons_append, List.nil_append] at hM) | (have _t := tk_s2; refine wpList_lay rfl _ _ _ rfl _ _ rfl _ _ rfl hM 2 rfl (by assumption) (rowTab _ _ rfl) (by omega) (fun k _ => HO.out k) ?_; intro W' hM'; clear hM tk_s2; have hM := hM'; clear hM'; simp only [List.set, List.cons_append, List.nil_append] at hM))
      have hA1 := (hM.ats 2 _ _ _ rfl).congr (g := f) (fun j hj => by simp [lay, hj])
      refine bodyPost_ret (results_at2 rfl _ rfl hA1 rowHerd _ rfl) rfl ?_
      rw [HR.out.1, HR.out.2]
      exact ⟨_, rfl, HK.out.2 w [_, _, _, _] _ HK.out.1 (hM.base hM.good.1)⟩
    · have HV := Lib.hid hV
      have hpos : 0 < d.n1 := by omega
      have hn1 : d.n1 ≤ 1048576 := by omega
      have z14 : ((d.n1 : Int) == 14) = false := beq_eq_false_iff_ne.2 (by omega)
      have y14 : ¬ (d.n1 : Int) = 14 := by omega
      clear hV h14
      have tk_x1 : True := trivial; have tk_r : True := trivial; have tk_r1 : True := trivial; have tk_f8 : True := trivial; have tk_s1 : True := trivial; have tk_gl : True := trivial; have tk_m1 : True := trivial; have tk_m2 : True := trivial; have tk_sl : True := trivial; have tk_ps : True := trivial; have tk_h1 : True := trivial; have tk_s2 : True := trivial
      go_enter Tryd.func32, Tryd.ntmps32
      go_wp2_with (first | (have _t := tk_x1; refine wpList_box rfl _ _ rfl _ _ rfl hM ?_; intro x1 W' hx1 hM'; clear hM tk_x1; have hM := hM'; clear hM') | (have _t := tk_r; refine wpList_zero rfl _ rfl zeroHerd hM ?_; intro r W' hr hM'; clear hM tk_r; have hM := hM'; clear hM') | (have _t := tk_r1; refine wpList_get rfl _ _ rfl _ _ rfl hM 1 rfl (rowTab _ _ rfl) (by omega) ?_; simp only [Nat.zero_add]; clear tk_r1) | (go_at_call 64; refine (HFW.out _ ((H0.out.call hM.below).base (Below.refl _ _)) ⟨(HE.out.below hM.below).vars 1 (by omega), HT.out.below hM.below⟩ (.inl rfl)).mono ?_; rintro e' Wf ⟨ma, mc, m, he, hmc0, hMA, hO, hb'⟩; subst he; obtain ⟨bm, F, rfl, hbm, hmc, hF, hAm⟩ := hMA.some hpos; have HBM := Lib.hid (Nat.le_trans hM.size hbm); have HF := Lib.hid (HA.out F hF); have hM2 := hM.freshQ hb' hAm hbm; have hM' := hM2.withO (o := mapO kvS (keysU d d.n1) (putsU d d.n1)) rfl hO; clear hM hM2 hb' hO hMA hmc0 hF hAm hbm; have hM := hM'; clear hM') | (have _t := tk_f8; refine wpList_zero rfl _ rfl (zeroTab _ _ _ rfl) hM ?_; intro f8 W' hf8 hM'; clear hM tk_f8; have hM := hM'; clear hM') | (have _t := tk_s1; refine wpList_lay rfl _ _ _ rfl _ _ rfl _ _ rfl hM 0 rfl (by assumption) (rowTab _ _ rfl) (by omega) (fun k _ => flkV_one _ _ _ _ k) ?_; intro W' hM'; have hM2 := hM'.re 0 rfl (flkV (some ⟨bm, 0, none⟩) d.n1 mc m) (fun k hk => by simp [lay, hk]); simp only [List.set_cons_zero] at hM2; clear hM hM' tk_s1; have hM := hM2; clear hM2) | (go_at_call 81; (with_reducible refine (checkUpTo_yes e 100 _ HI.out).mono ?_); rintro e W' ⟨rfl, hb'⟩; have hM' := hM.call hb'; clear hM hb'; have hM := hM'; clear hM') | (go_at_call 82; refine (isName_any s _).mono ?_; rintro e W' ⟨rfl, hb'⟩; rw [HNm.out]; have hM' := hM.call hb'; clear hM hb'; have hM := hM'; clear hM') | (have _t := tk_gl; refine wpList_gget ?_ _ _ rfl _ _ rfl hM 0 rfl (rowTab _ _ rfl) (by omega) ?_; kernel_rfl; simp only [Nat.zero_add]; clear tk_gl) | (go_at_call 83; refine (HND.out _ d.n1 mc m _ hM.good.2).mono ?_; rintro e W' ⟨rfl, hb'⟩; rw [HNd.out]; have hM' := hM.call hb'; clear hM hb'; have hM := hM'; clear hM') | (have _t := tk_m1; refine wpList_get1 rfl _ _ rfl _ _ rfl hM 0 rfl (cellTab _ rfl) (by omega) (.slice (some ⟨bm, 0, none⟩) d.n1 mc) rfl ?_; clear tk_m1) | (have _t := tk_m2; refine wpList_get1 rfl _ _ rfl _ _ rfl hM 0 rfl (cellTab _ rfl) (by omega) (.slice (some ⟨bm, 0, none⟩) d.n1 mc) rfl ?_; clear tk_m2) | (refine wpList_memb2 rfl _ _ rfl s e rfl rfl ?_) | (have _t := tk_sl; have hM2 := hM.swap; clear hM; have hM := hM2; clear hM2; refine wpList_slice1 rfl _ _ _ rfl 3 (mem3 s e 0) rfl _ member_under member_info (by omega) (by omega) hM ?_; intro sl W' hsl hM'; clear hM tk_sl; have hM := hM'; clear hM') | (have _t := tk_ps; refine wpList_push1 rfl _ _ _ rfl _ 3 _ _ member_under member_infoB rfl (by omega) _ _ _ _ rfl (by exact HBM.out) hmc hn1 _ _ rfl mem3_ones hM (sMem (adD d s e)) HF.out HV.out ?_; intro g i G W' hg hi hG hM'; have HG := Lib.hid hG; clear hM tk_ps hG; have hM := hM'; clear hM') | (have _t := tk_h1; go_at_call 74; refine (herd_any (adD d s e) (some ⟨g, 0, none⟩) (d.n1 + 1) i (by omega) _ (.inr ⟨g, i * 3, G, rfl, by omega, HG.out, hM.ats 0 _ _ _ rfl⟩)).mono ?_; rintro e' W2 ⟨f, rfl, hN⟩; have HO := Lib.hid hN.one; obtain ⟨K, hM', hK⟩ := hN.keep hM; have HK := Lib.hid (And.intro hM.size hK); clear hK hM hN tk_h1; have hM := hM'; clear hM'; simp only [List.cons_append, List.nil_append] at hM) | (have _t := tk_s2; refine wpList_lay rfl _ _ _ rfl _ _ rfl _ _ rfl hM 2 rfl (by assumption) (rowTab _ _ rfl) (by omega) (fun k _ => HO.out k) ?_; intro W' hM'; clear hM tk_s2; have hM := hM'; clear hM'; simp only [List.set, List.cons_append, List.nil_append] at hM))
      have hA1 := (hM.ats 2 _ _ _ rfl).congr (g := f) (fun j hj => by simp [lay, hj])
      refine bodyPost_ret (results_at2 rfl _ rfl hA1 rowHerd _ rfl) rfl ?_
      rw [HR.out.1, HR.out.2]
      exact ⟨_, rfl, HK.out.2 w [_, _, _, _] _ HK.out.1 (hM.base hM.good.1)⟩
  · have HR := Lib.hid (show adN d s e = 0 from by unfold adN; rw [if_neg hc])
    rw [HR.out]
    unfold adC at hc ⊢
    cases hB : herdB d
    · have hC : askC d 0 (fun _ => 0) = 1 := chk_1 hB
      have hz : askC d 0 (fun _ => 0) ≠ 0 := by rw [hC]; decide
      have hFW := fun (W : World) hB hE hT => flockWith_bad (a := a) d b1 b2 b3 hd none 0 0 (fun _ => 0) (by omega) W hB hE hT (.inl rfl) hz
      obtain ⟨hv, hhv⟩ : ∃ f, hdV d b1 b2 b3 = f := ⟨_, rfl⟩
      rw [hhv] at hFW ⊢
      generalize askC d 0 (fun _ => 0) = C at *
      have HFW := Lib.hid hFW
      have HC := Lib.hid hC
      clear hc hB hC hz hhv hFW
      rw [if_neg (by decide)]
      have tk_x1 : True := trivial; have tk_r : True := trivial; have tk_r1 : True := trivial; have tk_s2 : True := trivial; have tk_f8 : True := trivial; have tk_s1 : True := trivial
      go_enter Tryd.func32, Tryd.ntmps32
      go_wp2_with (first | (have _t := tk_x1; refine wpList_box rfl _ _ rfl _ _ rfl hM ?_; intro x1 W' hx1 hM'; clear hM tk_x1; have hM := hM'; clear hM') | (have _t := tk_r; refine wpList_zero rfl _ rfl zeroHerd hM ?_; intro r W' hr hM'; clear hM tk_r; have hM := hM'; clear hM') | (have _t := tk_r1; refine wpList_get rfl _ _ rfl _ _ rfl hM 1 rfl (rowTab _ _ rfl) (by omega) ?_; simp only [Nat.zero_add]; clear tk_r1) | (go_at_call 64; refine (HFW.out _ ((H0.out.call hM.below).base (Below.refl _ _)) (HE.out.below hM.below) (HT.out.below hM.below)).mono ?_; rintro e' Wf ⟨ff, ev, rfl, hone, hEv, hb'⟩; have hM' := hM.call hb'; have hN := hEv.neq; have hGd := hEv.guard; have HEv := Lib.hid hEv; have HOne := Lib.hid hone; clear hM hb' hEv hone; have hM := hM'; clear hM') | (have _t := tk_f8; refine wpList_zero rfl _ rfl (zeroTab _ _ _ rfl) hM ?_; intro f8 W' hf8 hM'; clear hM tk_f8; have hM := hM'; clear hM') | (have _t := tk_s1; refine wpList_lay rfl _ _ _ rfl _ _ rfl _ _ rfl hM 0 rfl (by assumption) (rowTab _ _ rfl) (by omega) HOne.out ?_; intro W' hM'; clear hM tk_s1; have hM := hM'; clear hM'; simp only [List.set_cons_zero] at hM) | (go_at_call 65; refine (HEv.out.code (HE.out.below hM.below)).mono ?_; rintro e' W' ⟨rfl, rfl⟩) | (refine wpList_herd0 rfl rfl ?_) | (have _t := tk_s2; refine wpList_lay rfl _ _ _ rfl _ _ rfl _ _ rfl hM 1 rfl (by assumption) (rowTab _ _ rfl) (by omega) (fun k _ => nil3_one k) ?_; intro W' hM'; clear hM tk_s2; have hM := hM'; clear hM'; simp only [List.set] at hM))
      have hA1 := (hM.ats 1 _ _ _ rfl).congr (g := nil3) (fun j hj => by simp [lay, hj, nil3])
      exact bodyPost_ret (results_at2 rfl _ rfl hA1 rowHerd _ rfl) rfl (GivesH.none hM.below rfl HC.out)
    have hOk := herdB_iff.1 hB
    have h14' := hOk.n
    have HND := Lib.hid (fun (ma : Option Addr) (n c m : Nat) (W : World) hO => isNamed_any d hd ma n c m s hs W hO)
    have hFW := fun (W : World) hB hE hG => flockWith_own (r := a 1) d b1 b2 b3 hd none 0 0 (fun _ => 0) (by omega) W hB hE hG hOk (fun j h => absurd h (by omega))
    obtain ⟨hv, hhv⟩ : ∃ f, hdV d b1 b2 b3 = f := ⟨_, rfl⟩
    rw [hhv] at hFW ⊢
    have HFW := Lib.hid hFW
    clear hhv hFW
    rw [hB] at hc
    rw [if_pos rfl] at hc ⊢
    cases hI : inB 0 100 e
    · have HI := Lib.hid hI
      clear hc hB hOk hI
      rw [if_neg (by decide)]
      have tk_x1 : True := trivial; have tk_r : True := trivial; have tk_r1 : True := trivial; have tk_s2 : True := trivial; have tk_f8 : True := trivial; have tk_s1 : True := trivial
      go_enter Tryd.func32, Tryd.ntmps32
      go_wp2_with (first | (have _t := tk_x1; refine wpList_box rfl _ _ rfl _ _ rfl hM ?_; intro x1 W' hx1 hM'; clear hM tk_x1; have hM := hM'; clear hM') | (have _t := tk_r; refine wpList_zero rfl _ rfl zeroHerd hM ?_; intro r W' hr hM'; clear hM tk_r; have hM := hM'; clear hM') | (have _t := tk_r1; refine wpList_get rfl _ _ rfl _ _ rfl hM 1 rfl (rowTab _ _ rfl) (by omega) ?_; simp only [Nat.zero_add]; clear tk_r1) | (go_at_call 64; refine (HFW.out _ ((H0.out.call hM.below).base (Below.refl _ _)) ⟨(HE.out.below hM.below).vars 1 (by omega), HT.out.below hM.below⟩ (.inl rfl)).mono ?_; rintro e' Wf ⟨ma, mc, m, he, hmc0, hMA, hO, hb'⟩; subst he; have hM' := (hM.call hb').withO (o := mapO kvS (keysU d d.n1) (putsU d d.n1)) rfl hO; clear hM hb' hO hMA hmc0; have hM := hM'; clear hM') | (have _t := tk_f8; refine wpList_zero rfl _ rfl (zeroTab _ _ _ rfl) hM ?_; intro f8 W' hf8 hM'; clear hM tk_f8; have hM := hM'; clear hM') | (have _t := tk_s1; refine wpList_lay rfl _ _ _ rfl _ _ rfl _ _ rfl hM 0 rfl (by assumption) (rowTab _ _ rfl) (by omega) (fun k _ => flkV_one _ _ _ _ k) ?_; intro W' hM'; have hM2 := hM'.re 0 rfl (flkV ma d.n1 mc m) (fun k hk => by simp [lay, hk]); simp only [List.set_cons_zero] at hM2; clear hM hM' tk_s1; have hM := hM2; clear hM2) | (go_at_call 81; refine (checkUpTo_no e 100 _ (HE.out.below hM.good.1) HI.out).mono ?_; rintro e W' ⟨rfl, hb'⟩; have hM' := hM.call hb'; clear hM hb'; have hM := hM'; clear hM') | (go_at_call 65; refine (codeOf_1 (HE.out.below hM.good.1)).mono ?_; rintro e' W' ⟨rfl, rfl⟩) | (refine wpList_herd0 rfl rfl ?_) | (have _t := tk_s2; refine wpList_lay rfl _ _ _ rfl _ _ rfl _ _ rfl hM 1 rfl (by assumption) (rowTab _ _ rfl) (by omega) (fun k _ => nil3_one k) ?_; intro W' hM'; clear hM tk_s2; have hM := hM'; clear hM'; simp only [List.set] at hM))
      have hA1 := (hM.ats 1 _ _ _ rfl).congr (g := nil3) (fun j hj => by simp [lay, hj, nil3])
      exact bodyPost_ret (results_at2 rfl _ rfl hA1 rowHerd _ rfl) rfl (GivesH.none hM.good.1 rfl rfl)
    have HI := Lib.hid hI
    rw [hI] at hc
    rw [if_pos rfl] at hc ⊢
    cases hN : nameB s
    · have HNm := Lib.hid hN
      clear hc hB hOk hI hN
      rw [if_pos (by simp)]
      have tk_x1 : True := trivial; have tk_r : True := trivial; have tk_r1 : True := trivial; have tk_s2 : True := trivial; have tk_f8 : True := trivial; have tk_s1 : True := trivial
      go_enter Tryd.func32, Tryd.ntmps32
      go_wp2_with (first | (have _t := tk_x1; refine wpList_box rfl _ _ rfl _ _ rfl hM ?_; intro x1 W' hx1 hM'; clear hM tk_x1; have hM := hM'; clear hM') | (have _t := tk_r; refine wpList_zero rfl _ rfl zeroHerd hM ?_; intro r W' hr hM'; clear hM tk_r; have hM := hM'; clear hM') | (have _t := tk_r1; refine wpList_get rfl _ _ rfl _ _ rfl hM 1 rfl (rowTab _ _ rfl) (by omega) ?_; simp only [Nat.zero_add]; clear tk_r1) | (go_at_call 64; refine (HFW.out _ ((H0.out.call hM.below).base (Below.refl _ _)) ⟨(HE.out.below hM.below).vars 1 (by omega), HT.out.below hM.below⟩ (.inl rfl)).mono ?_; rintro e' Wf ⟨ma, mc, m, he, hmc0, hMA, hO, hb'⟩; subst he; have hM' := (hM.call hb').withO (o := mapO kvS (keysU d d.n1) (putsU d d.n1)) rfl hO; clear hM hb' hO hMA hmc0; have hM := hM'; clear hM') | (have _t := tk_f8; refine wpList_zero rfl _ rfl (zeroTab _ _ _ rfl) hM ?_; intro f8 W' hf8 hM'; clear hM tk_f8; have hM := hM'; clear hM') | (have _t := tk_s1; refine wpList_lay rfl _ _ _ rfl _ _ rfl _ _ rfl hM 0 rfl (by assumption) (rowTab _ _ rfl) (by omega) (fun k _ => flkV_one _ _ _ _ k) ?_; intro W' hM'; have hM2 := hM'.re 0 rfl (flkV ma d.n1 mc m) (fun k hk => by simp [lay, hk]); simp only [List.set_cons_zero] at hM2; clear hM hM' tk_s1; have hM := hM2; clear hM2) | (go_at_call 81; (with_reducible refine (checkUpTo_yes e 100 _ HI.out).mono ?_); rintro e W' ⟨rfl, hb'⟩; have hM' := hM.call hb'; clear hM hb'; have hM := hM'; clear hM') | (go_at_call 82; refine (isName_any s _).mono ?_; rintro e W' ⟨rfl, hb'⟩; rw [HNm.out]; have hM' := hM.call hb'; clear hM hb'; have hM := hM'; clear hM') | (refine wpList_herd0 rfl rfl ?_) | (have _t := tk_s2; refine wpList_lay rfl _ _ _ rfl _ _ rfl _ _ rfl hM 1 rfl (by assumption) (rowTab _ _ rfl) (by omega) (fun k _ => nil3_one k) ?_; intro W' hM'; clear hM tk_s2; have hM := hM'; clear hM'; simp only [List.set] at hM))
      have hA1 := (hM.ats 1 _ _ _ rfl).congr (g := nil3) (fun j hj => by simp [lay, hj, nil3])
      exact bodyPost_ret (results_at2 rfl _ rfl hA1 rowHerd _ rfl) rfl (GivesH.none hM.good.1 rfl rfl)
    have HNm := Lib.hid hN
    rw [hN] at hc
    cases hD : nmdB d s
    · rw [hD] at hc
      simp only [Bool.not_true, Bool.false_or, Bool.false_eq_true, if_false] at hc ⊢
      have HNd := Lib.hid hD
      by_cases h14 : d.n1 = 14
      · rw [if_pos h14]
        have z14 : ((d.n1 : Int) == 14) = true := by rw [h14]; rfl
        have y14 : (d.n1 : Int) = 14 := by omega
        clear hc hB hOk hI hN hD h14
        have tk_x1 : True := trivial; have tk_r : True := trivial; have tk_r1 : True := trivial; have tk_s2 : True := trivial; have tk_f8 : True := trivial; have tk_s1 : True := trivial; have tk_gl : True := trivial; have tk_m1 : True := trivial
        go_enter Tryd.func32, Tryd.ntmps32
        go_wp2_with (first | (have _t := tk_x1; refine wpList_box rfl _ _ rfl _ _ rfl hM ?_; intro x1 W' hx1 hM'; clear hM tk_x1; have hM := hM'; clear hM') | (have _t := tk_r; refine wpList_zero rfl _ rfl zeroHerd hM ?_; intro r W' hr hM'; clear hM tk_r; have hM := hM'; clear hM') | (have _t := tk_r1; refine wpList_get rfl _ _ rfl _ _ rfl hM 1 rfl (rowTab _ _ rfl) (by omega) ?_; simp only [Nat.zero_add]; clear tk_r1) | (go_at_call 64; refine (HFW.out _ ((H0.out.call hM.below).base (Below.refl _ _)) ⟨(HE.out.below hM.below).vars 1 (by omega), HT.out.below hM.below⟩ (.inl rfl)).mono ?_; rintro e' Wf ⟨ma, mc, m, he, hmc0, hMA, hO, hb'⟩; subst he; have hM' := (hM.call hb').withO (o := mapO kvS (keysU d d.n1) (putsU d d.n1)) rfl hO; clear hM hb' hO hMA hmc0; have hM := hM'; clear hM') | (have _t := tk_f8; refine wpList_zero rfl _ rfl (zeroTab _ _ _ rfl) hM ?_; intro f8 W' hf8 hM'; clear hM tk_f8; have hM := hM'; clear hM') | (have _t := tk_s1; refine wpList_lay rfl _ _ _ rfl _ _ rfl _ _ rfl hM 0 rfl (by assumption) (rowTab _ _ rfl) (by omega) (fun k _ => flkV_one _ _ _ _ k) ?_; intro W' hM'; have hM2 := hM'.re 0 rfl (flkV ma d.n1 mc m) (fun k hk => by simp [lay, hk]); simp only [List.set_cons_zero] at hM2; clear hM hM' tk_s1; have hM := hM2; clear hM2) | (go_at_call 81; (with_reducible refine (checkUpTo_yes e 100 _ HI.out).mono ?_); rintro e W' ⟨rfl, hb'⟩; have hM' := hM.call hb'; clear hM hb'; have hM := hM'; clear hM') | (go_at_call 82; refine (isName_any s _).mono ?_; rintro e W' ⟨rfl, hb'⟩; rw [HNm.out]; have hM' := hM.call hb'; clear hM hb'; have hM := hM'; clear hM') | (have _t := tk_gl; refine wpList_gget ?_ _ _ rfl _ _ rfl hM 0 rfl (rowTab _ _ rfl) (by omega) ?_; kernel_rfl; simp only [Nat.zero_add]; clear tk_gl) | (go_at_call 83; refine (HND.out _ d.n1 mc m _ hM.good.2).mono ?_; rintro e W' ⟨rfl, hb'⟩; rw [HNd.out]; have hM' := hM.call hb'; clear hM hb'; have hM := hM'; clear hM') | (have _t := tk_m1; refine wpList_get1 rfl _ _ rfl _ _ rfl hM 0 rfl (cellTab _ rfl) (by omega) (.slice ma d.n1 mc) rfl ?_; clear tk_m1) | (refine wpList_herd0 rfl rfl ?_) | (have _t := tk_s2; refine wpList_lay rfl _ _ _ rfl _ _ rfl _ _ rfl hM 1 rfl (by assumption) (rowTab _ _ rfl) (by omega) (fun k _ => nil3_one k) ?_; intro W' hM'; clear hM tk_s2; have hM := hM'; clear hM'; simp only [List.set] at hM))
        have hA1 := (hM.ats 1 _ _ _ rfl).congr (g := nil3) (fun j hj => by simp [lay, hj, nil3])
        exact bodyPost_ret (results_at2 rfl _ rfl hA1 rowHerd _ rfl) rfl (GivesH.none hM.good.1 rfl rfl)
      · rw [if_neg h14] at hc
        exact absurd rfl hc
    · have HNd := Lib.hid hD
      clear hc hB hOk hI hN hD
      rw [if_pos (by simp)]
      have tk_x1 : True := trivial; have tk_r : True := trivial; have tk_r1 : True := trivial; have tk_s2 : True := trivial; have tk_f8 : True := trivial; have tk_s1 : True := trivial; have tk_gl : True := trivial
      go_enter Tryd.func32, Tryd.ntmps32
      go_wp2_with (first | (have _t := tk_x1; refine wpList_box rfl _ _ rfl _ _ rfl hM ?_; intro x1 W' hx1 hM'; clear hM tk_x1; have hM := hM'; clear hM') | (have _t := tk_r; refine wpList_zero rfl _ rfl zeroHerd hM ?_; intro r W' hr hM'; clear hM tk_r; have hM := hM'; clear hM') | (have _t := tk_r1; refine wpList_get rfl _ _ rfl _ _ rfl hM 1 rfl (rowTab _ _ rfl) (by omega) ?_; simp only [Nat.zero_add]; clear tk_r1) | (go_at_call 64; refine (HFW.out _ ((H0.out.call hM.below).base (Below.refl _ _)) ⟨(HE.out.below hM.below).vars 1 (by omega), HT.out.below hM.below⟩ (.inl rfl)).mono ?_; rintro e' Wf ⟨ma, mc, m, he, hmc0, hMA, hO, hb'⟩; subst he; have hM' := (hM.call hb').withO (o := mapO kvS (keysU d d.n1) (putsU d d.n1)) rfl hO; clear hM hb' hO hMA hmc0; have hM := hM'; clear hM') | (have _t := tk_f8; refine wpList_zero rfl _ rfl (zeroTab _ _ _ rfl) hM ?_; intro f8 W' hf8 hM'; clear hM tk_f8; have hM := hM'; clear hM') | (have _t := tk_s1; refine wpList_lay rfl _ _ _ rfl _ _ rfl _ _ rfl hM 0 rfl (by assumption) (rowTab _ _ rfl) (by omega) (fun k _ => flkV_one _ _ _ _ k) ?_; intro W' hM'; have hM2 := hM'.re 0 rfl (flkV ma d.n1 mc m) (fun k hk => by simp [lay, hk]); simp only [List.set_cons_zero] at hM2; clear hM hM' tk_s1; have hM := hM2; clear hM2) | (go_at_call 81; (with_reducible refine (checkUpTo_yes e 100 _ HI.out).mono ?_); rintro e W' ⟨rfl, hb'⟩; have hM' := hM.call hb'; clear hM hb'; have hM := hM'; clear hM') | (go_at_call 82; refine (isName_any s _).mono ?_; rintro e W' ⟨rfl, hb'⟩; rw [HNm.out]; have hM' := hM.call hb'; clear hM hb'; have hM := hM'; clear hM') | (have _t := tk_gl; refine wpList_gget ?_ _ _ rfl _ _ rfl hM 0 rfl (rowTab _ _ rfl) (by omega) ?_; kernel_rfl; simp only [Nat.zero_add]; clear tk_gl) | (go_at_call 83; refine (HND.out _ d.n1 mc m _ hM.good.2).mono ?_; rintro e W' ⟨rfl, hb'⟩; rw [HNd.out]; have hM' := hM.call hb'; clear hM hb'; have hM := hM'; clear hM') | (refine wpList_herd0 rfl rfl ?_) | (have _t := tk_s2; refine wpList_lay rfl _ _ _ rfl _ _ rfl _ _ rfl hM 1 rfl (by assumption) (rowTab _ _ rfl) (by omega) (fun k _ => nil3_one k) ?_; intro W' hM'; clear hM tk_s2; have hM := hM'; clear hM'; simp only [List.set] at hM))
      have hA1 := (hM.ats 1 _ _ _ rfl).congr (g := nil3) (fun j hj => by simp [lay, hj, nil3])
      exact bodyPost_ret (results_at2 rfl _ rfl hA1 rowHerd _ rfl) rfl (GivesH.none hM.good.1 rfl rfl)
end Go.Proofs.YthodkbmenndnoaaDoor

/-
  laws.eqHerd, markHerd, heldHerd over herds that calls gave.
-/
namespace Go.Proofs.YthodkbmenndnoaaDoor
open Go Go.RowKit Go.BigFrame

set_option maxRecDepth 100000 in
set_option maxHeartbeats 1000000 in
theorem eqHerd_list (n : Nat) (ss : Nat → ByteArray) (es fs : Nat → Int) (hn : n ≤ 1048576) (b1 c1 N1 b2 c2 N2 b3 c3 N3 e1 d1 M1 e2 d2 M2 e3 d3 M3 : Nat) (F1 F2 F3 G1 G2 G3 hv gv : Nat → Value)
    (a1 : hv 0 = .slice (some ⟨b1, 0, none⟩) n c1) (a2 : hv 1 = .slice (some ⟨b2, 0, none⟩) n c2) (a3 : hv 2 = .slice (some ⟨b3, 0, none⟩) n c3) (x1 : gv 0 = .slice (some ⟨e1, 0, none⟩) n d1) (x2 : gv 1 = .slice (some ⟨e2, 0, none⟩) n d2) (x3 : gv 2 = .slice (some ⟨e3, 0, none⟩) n d3)
    (hN : n ≤ N1 ∧ n ≤ N2 ∧ n ≤ N3) (hM' : n ≤ M1 ∧ n ≤ M2 ∧ n ≤ M3) (hF : (∀ j, j < n → F1 j = vStringS ss j) ∧ (∀ j, j < n → F2 j = vInt16S es j) ∧ ∀ j, j < n → F3 j = vUint16S fs j) (hG : (∀ j, j < n → G1 j = vStringS ss j) ∧ (∀ j, j < n → G2 j = vInt16S es j) ∧ ∀ j, j < n → G3 j = vUint16S fs j)
    (w : World) (A1 : At w b1 N1 F1) (A2 : At w b2 N2 F2) (A3 : At w b3 N3 F3) (C1 : At w e1 M1 G1) (C2 : At w e2 M2 G2) (C3 : At w e3 M3 G3) (n1 : b1 ≠ e1) (n2 : b2 ≠ e2) (n3 : b3 ≠ e3) :
    Calls Tryd.prog 19 #[.agg (arr 3 hv), .agg (arr 3 gv)] w fun e w' => e = .returned (.bool true) ∧ Below w.heap.size w w' := by
  have hM := Mem.nil w
  have HA1 := Lib.hid A1
  have HA2 := Lib.hid A2
  have HA3 := Lib.hid A3
  have HC1 := Lib.hid C1
  have HC2 := Lib.hid C2
  have HC3 := Lib.hid C3
  have HF := Lib.hid hF
  have HG := Lib.hid hG
  have HN := Lib.hid hN
  have HM := Lib.hid hM'
  have HNE := Lib.hid (And.intro n1 (And.intro n2 n3))
  clear A1 A2 A3 C1 C2 C3 hF hG hN hM' n1 n2 n3
  have tk_y1 : True := trivial; have tk_y2 : True := trivial
  go_enter Tryd.func19, Tryd.ntmps19
  go_wp2_with (first | (have _t := tk_y1; refine wpList_box rfl _ _ rfl _ _ rfl hM ?_; intro y1 W' hy1 hM'; clear hM tk_y1; have hM := hM'; clear hM') | (have _t := tk_y2; refine wpList_box rfl _ _ rfl _ _ rfl hM ?_; intro y2 W' hy2 hM'; clear hM tk_y2; have hM := hM'; clear hM') | (refine wpList_get1 rfl _ _ rfl _ _ rfl hM 1 rfl (by first | exact cellSS | exact cellES | exact cellFS) (by omega) _ a1 ?_) | (refine wpList_get1 rfl _ _ rfl _ _ rfl hM 1 rfl (by first | exact cellSS | exact cellES | exact cellFS) (by omega) _ a2 ?_) | (refine wpList_get1 rfl _ _ rfl _ _ rfl hM 1 rfl (by first | exact cellSS | exact cellES | exact cellFS) (by omega) _ a3 ?_) | (refine wpList_get1 rfl _ _ rfl _ _ rfl hM 0 rfl (by first | exact cellSS | exact cellES | exact cellFS) (by omega) _ x1 ?_) | (refine wpList_get1 rfl _ _ rfl _ _ rfl hM 0 rfl (by first | exact cellSS | exact cellES | exact cellFS) (by omega) _ x2 ?_) | (refine wpList_get1 rfl _ _ rfl _ _ rfl hM 0 rfl (by first | exact cellSS | exact cellES | exact cellFS) (by omega) _ x3 ?_) | (go_at_call 59; refine (eqStringS_list b1 e1 n c1 d1 N1 M1 F1 G1 ss HF.out.1 HG.out.1 HN.out.1 HM.out.1 hn _ (HA1.out.below hM.below HA1.out.lt) (HC1.out.below hM.below HC1.out.lt) HNE.out.1).mono ?_; rintro e W' ⟨rfl, hb'⟩; have hM' := hM.call hb'; clear hM hb'; have hM := hM'; clear hM') | (go_at_call 60; refine (eqInt16S_list b2 e2 n c2 d2 N2 M2 F2 G2 es HF.out.2.1 HG.out.2.1 HN.out.2.1 HM.out.2.1 hn _ (HA2.out.below hM.below HA2.out.lt) (HC2.out.below hM.below HC2.out.lt) HNE.out.2.1).mono ?_; rintro e W' ⟨rfl, hb'⟩; have hM' := hM.call hb'; clear hM hb'; have hM := hM'; clear hM') | (go_at_call 61; refine (eqUint16S_list b3 e3 n c3 d3 N3 M3 F3 G3 fs HF.out.2.2 HG.out.2.2 HN.out.2.2 HM.out.2.2 hn _ (HA3.out.below hM.below HA3.out.lt) (HC3.out.below hM.below HC3.out.lt) HNE.out.2.2).mono ?_; rintro e W' ⟨rfl, hb'⟩; have hM' := hM.call hb'; clear hM hb'; have hM := hM'; clear hM'))
  go_ret
  exact ⟨rfl, hM.below⟩
set_option maxRecDepth 100000 in
set_option maxHeartbeats 1000000 in
theorem eqHerd_zero (a1 a2 a3 x1 x2 x3 : Option Addr) (c1 c2 c3 d1 d2 d3 : Nat) (w : World) :
    Calls Tryd.prog 19 #[.agg (arr 3 (h3 (.slice a1 0 c1) (.slice a2 0 c2) (.slice a3 0 c3))), .agg (arr 3 (h3 (.slice x1 0 d1) (.slice x2 0 d2) (.slice x3 0 d3)))] w fun e w' => e = .returned (.bool true) ∧ Below w.heap.size w w' := by
  have hM := Mem.nil w
  have tk_y1 : True := trivial; have tk_y2 : True := trivial
  go_enter Tryd.func19, Tryd.ntmps19
  go_wp2_with (first | (have _t := tk_y1; refine wpList_box rfl _ _ rfl _ _ rfl hM ?_; intro y1 W' hy1 hM'; clear hM tk_y1; have hM := hM'; clear hM') | (have _t := tk_y2; refine wpList_box rfl _ _ rfl _ _ rfl hM ?_; intro y2 W' hy2 hM'; clear hM tk_y2; have hM := hM'; clear hM') | (refine wpList_get1 rfl _ _ rfl _ _ rfl hM 1 rfl (by first | exact cellSS | exact cellES | exact cellFS) (by omega) (.slice a1 0 c1) rfl ?_) | (refine wpList_get1 rfl _ _ rfl _ _ rfl hM 1 rfl (by first | exact cellSS | exact cellES | exact cellFS) (by omega) (.slice a2 0 c2) rfl ?_) | (refine wpList_get1 rfl _ _ rfl _ _ rfl hM 1 rfl (by first | exact cellSS | exact cellES | exact cellFS) (by omega) (.slice a3 0 c3) rfl ?_) | (refine wpList_get1 rfl _ _ rfl _ _ rfl hM 0 rfl (by first | exact cellSS | exact cellES | exact cellFS) (by omega) (.slice x1 0 d1) rfl ?_) | (refine wpList_get1 rfl _ _ rfl _ _ rfl hM 0 rfl (by first | exact cellSS | exact cellES | exact cellFS) (by omega) (.slice x2 0 d2) rfl ?_) | (refine wpList_get1 rfl _ _ rfl _ _ rfl hM 0 rfl (by first | exact cellSS | exact cellES | exact cellFS) (by omega) (.slice x3 0 d3) rfl ?_) | (go_at_call 59; refine (eqStringS_zero a1 x1 c1 d1 _).mono ?_; rintro e W' ⟨rfl, hb'⟩; have hM' := hM.call hb'; clear hM hb'; have hM := hM'; clear hM') | (go_at_call 60; refine (eqInt16S_zero a2 x2 c2 d2 _).mono ?_; rintro e W' ⟨rfl, hb'⟩; have hM' := hM.call hb'; clear hM hb'; have hM := hM'; clear hM') | (go_at_call 61; refine (eqUint16S_zero a3 x3 c3 d3 _).mono ?_; rintro e W' ⟨rfl, hb'⟩; have hM' := hM.call hb'; clear hM hb'; have hM := hM'; clear hM'))
  go_ret
  exact ⟨rfl, hM.below⟩
set_option maxRecDepth 100000 in
set_option maxHeartbeats 1000000 in
theorem markHerd_zero (a1 a2 a3 : Option Addr) (c1 c2 c3 : Nat) (w : World) :
    Calls Tryd.prog 23 #[.agg (arr 3 (h3 (.slice a1 0 c1) (.slice a2 0 c2) (.slice a3 0 c3))), .int .i64 1] w fun e w' => e = .returned (.int .i64 1) ∧ Below w.heap.size w w' := by
  have hM := Mem.nil w
  have tk_y1 : True := trivial
  go_enter Tryd.func23, Tryd.ntmps23
  go_wp2_with (first | (have _t := tk_y1; refine wpList_box rfl _ _ rfl _ _ rfl hM ?_; intro y1 W' hy1 hM'; clear hM tk_y1; have hM := hM'; clear hM') | (refine wpList_get1 rfl _ _ rfl _ _ rfl hM 0 rfl (by first | exact cellSS | exact cellES | exact cellFS) (by omega) (.slice a1 0 c1) rfl ?_) | (refine wpList_get1 rfl _ _ rfl _ _ rfl hM 0 rfl (by first | exact cellSS | exact cellES | exact cellFS) (by omega) (.slice a2 0 c2) rfl ?_) | (refine wpList_get1 rfl _ _ rfl _ _ rfl hM 0 rfl (by first | exact cellSS | exact cellES | exact cellFS) (by omega) (.slice a3 0 c3) rfl ?_) | (go_at_call 67; refine (markStringS_zero a1 c1 1 _).mono ?_; rintro e W' ⟨rfl, hb'⟩; have hM' := hM.call hb'; clear hM hb'; have hM := hM'; clear hM') | (go_at_call 68; refine (markInt16S_zero a2 c2 1 _).mono ?_; rintro e W' ⟨rfl, hb'⟩; have hM' := hM.call hb'; clear hM hb'; have hM := hM'; clear hM') | (go_at_call 69; refine (markUint16S_zero a3 c3 1 _).mono ?_; rintro e W' ⟨rfl, hb'⟩; have hM' := hM.call hb'; clear hM hb'; have hM := hM'; clear hM'))
  go_ret
  exact ⟨rfl, hM.below⟩
set_option maxRecDepth 100000 in
set_option maxHeartbeats 1000000 in
theorem heldHerd_zero (a1 a2 a3 : Option Addr) (c1 c2 c3 : Nat) (w : World) :
    Calls Tryd.prog 30 #[.agg (arr 3 (h3 (.slice a1 0 c1) (.slice a2 0 c2) (.slice a3 0 c3))), .int .i64 1] w fun e w' => e = .returned (.int .i64 1) ∧ Below w.heap.size w w' := by
  have hM := Mem.nil w
  have tk_y1 : True := trivial
  go_enter Tryd.func30, Tryd.ntmps30
  go_wp2_with (first | (have _t := tk_y1; refine wpList_box rfl _ _ rfl _ _ rfl hM ?_; intro y1 W' hy1 hM'; clear hM tk_y1; have hM := hM'; clear hM') | (refine wpList_get1 rfl _ _ rfl _ _ rfl hM 0 rfl (by first | exact cellSS | exact cellES | exact cellFS) (by omega) (.slice a1 0 c1) rfl ?_) | (refine wpList_get1 rfl _ _ rfl _ _ rfl hM 0 rfl (by first | exact cellSS | exact cellES | exact cellFS) (by omega) (.slice a2 0 c2) rfl ?_) | (refine wpList_get1 rfl _ _ rfl _ _ rfl hM 0 rfl (by first | exact cellSS | exact cellES | exact cellFS) (by omega) (.slice a3 0 c3) rfl ?_) | (go_at_call 75; refine (heldStringS_zero a1 c1 1 _).mono ?_; rintro e W' ⟨rfl, hb'⟩; have hM' := hM.call hb'; clear hM hb'; have hM := hM'; clear hM') | (go_at_call 76; refine (heldInt16S_zero a2 c2 1 _).mono ?_; rintro e W' ⟨rfl, hb'⟩; have hM' := hM.call hb'; clear hM hb'; have hM := hM'; clear hM') | (go_at_call 77; refine (heldUint16S_zero a3 c3 1 _).mono ?_; rintro e W' ⟨rfl, hb'⟩; have hM' := hM.call hb'; clear hM hb'; have hM := hM'; clear hM'))
  go_ret
  exact ⟨rfl, hM.below⟩
end Go.Proofs.YthodkbmenndnoaaDoor

