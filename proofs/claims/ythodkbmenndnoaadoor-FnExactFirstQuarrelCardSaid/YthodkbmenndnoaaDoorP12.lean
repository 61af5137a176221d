/-
  Several texts in one: FQC, OpenHq, MarkText, StringSL, Int16SL, Uint16SL, MarkHerd.
-/
import Derived.Test.YthodkbmenndnoaaDoorP11
import Derived.Test.YthodkbmenndnoaaDoorP7
import Derived.Test.YthodkbmenndnoaaDoorP2
import Derived.Test.YthodkbmenndnoaaDoorP4
import Derived.Laws.IdiomStrings
import Derived.Test.YthodkbmenndnoaaDoorP3
/-
  FirstQuarrel by contracts, both sides.
-/
namespace Go.Proofs.YthodkbmenndnoaaDoor
open Go Go.RowKit Go.BigFrame

def fqT (d : Hd) (n : Nat) (ys : Nat → Int) : Int × Int × Int := if needC d n ys = 0 then (match quarI d ys n n with | some (i, k) => ((i : Int), (k : Int), 0) | none => (0, 0, 6)) else (0, 0, needC d n ys)
def fqX (d : Hd) (n : Nat) (ys : Nat → Int) : Int := (fqT d n ys).1
def fqY (d : Hd) (n : Nat) (ys : Nat → Int) : Int := (fqT d n ys).2.1
def fqC (d : Hd) (n : Nat) (ys : Nat → Int) : Int := (fqT d n ys).2.2
def trip3 (x y z : Int) : Value := .tuple #[.int .i64 x, .int .i64 y, .int .i64 z]
theorem fq_is {d : Hd} {n : Nat} {ys : Nat → Int} {x y z : Int} (h : fqT d n ys = (x, y, z)) : trip3 (fqX d n ys) (fqY d n ys) (fqC d n ys) = .tuple #[.int .i64 x, .int .i64 y, .int .i64 z] := by unfold fqX fqY fqC; rw [h]; rfl
/-- The table, and the type of errors. -/
def TabQ (w : World) : Prop := Tab w ∧ w.cell? ⟨7, 0, none⟩ = some (.iface 155 (.agg #[.pointer (some ⟨9, 85, none⟩)]))
theorem TabQ.below {W W' : World} (h : TabQ W) (hb : Below W.heap.size W W') : TabQ W' := ⟨h.1.below hb, (hb.cell (block_lt_of_cell h.2)).trans h.2⟩

set_option maxRecDepth 100000 in
set_option maxHeartbeats 4000000 in
theorem specFirstQuarrel_any (d : Hd) (b1 b2 b3 : Nat) (hd : FitsH d) (bg n : Nat) (ys : Nat → Int) (hn : n ≤ 1048576) (w : World) (hM0 : Mem w (hdB d b1 b2 b3) w) (hG : At w bg n (vInt64S ys)) :
    Calls Tryd.prog 40 #[.agg (arr 3 (hdV d b1 b2 b3)), .slice (some ⟨bg, 0, none⟩) n n] w fun e w' => e = .returned (trip3 (fqX d n ys) (fqY d n ys) (fqC d n ys)) ∧ Below w.heap.size w w' := by
  have hM : Mem w (hdB d b1 b2 b3 ++ []) w := by rw [List.append_nil]; exact hM0
  have HG := Lib.hid (vInt64S_ints hG)
  have HTO := Lib.hid (fun (bh : Nat) (W : World) hB hI => l06Told_any d bh b1 b2 b3 hd (some ⟨bg, 0, none⟩) n n ys hn W hB hI)
  clear hM0 hG
  by_cases hc : needC d n ys = 0
  · obtain ⟨hv, hb⟩ := need_0 hc
    have hOk := herdB_iff.1 hv
    obtain ⟨hnn, hys⟩ := numsB_iff.1 hb
    subst hnn
    have HC := Lib.hid hc
    have HQU := Lib.hid (fun (bh : Nat) (W : World) hB hI => l06Quarrel_any d bh b1 b2 b3 hd hOk.n hOk.l3 (some ⟨bg, 0, none⟩) d.n1 ys W hB hI)
    have HF := Lib.hid (show fqT d d.n1 ys = (match quarI d ys d.n1 d.n1 with | some (i, k) => ((i : Int), (k : Int), 0) | none => (0, 0, 6)) from by unfold fqT; rw [if_pos hc])
    clear hc hv hb hOk hys hn
    obtain ⟨n, hn'⟩ : ∃ n, d.n1 = n := ⟨_, rfl⟩
    rw [hn'] at HC HQU HF HG HTO ⊢
    rcases hq : quarI d ys n n with - | ⟨i, k⟩
    · have HP := Lib.hid (show qPair (quarI d ys n n) = .tuple #[.int .i64 (-1), .int .i64 (-1)] from by rw [hq]; rfl)
      have HR := Lib.hid (fq_is (HF.out.trans (by rw [hq])))
      clear hq
      have tk_x1 : True := trivial
      go_enter Tryd.func40, Tryd.ntmps40
      go_wp2_with (first | (have _t := tk_x1; refine wpList_box rfl _ _ rfl _ _ rfl hM ?_; intro x1 W' hx1 hM'; clear hM tk_x1; have hM := hM'; clear hM') | (go_at_call 93; refine (HTO.out x1 _ (hM.boxed) (HG.out.below hM.below)).mono ?_; rintro e W' ⟨rfl, hb'⟩; rw [HC.out]; have hM' := hM.call hb'; clear hM hb'; have hM := hM'; clear hM') | (go_at_call 91; refine (HQU.out x1 _ (hM.boxed) (HG.out.below hM.below)).mono ?_; rintro e W' ⟨rfl, hb'⟩; rw [HP.out]; have hM' := hM.call hb'; clear hM hb'; have hM := hM'; clear hM'))
      go_ret3
      rw [HR.out]
      exact ⟨rfl, hM.below⟩
    · have HP := Lib.hid (show qPair (quarI d ys n n) = .tuple #[.int .i64 (i : Int), .int .i64 (k : Int)] from by rw [hq]; rfl)
      have HR := Lib.hid (fq_is (HF.out.trans (by rw [hq])))
      have z1 : decide ((i : Int) < 0) = false := decide_eq_false (by omega)
      have z2 : ¬ (i : Int) < 0 := by omega
      clear hq
      have tk_x1 : True := trivial
      go_enter Tryd.func40, Tryd.ntmps40
      go_wp2_with (first | (have _t := tk_x1; refine wpList_box rfl _ _ rfl _ _ rfl hM ?_; intro x1 W' hx1 hM'; clear hM tk_x1; have hM := hM'; clear hM') | (go_at_call 93; refine (HTO.out x1 _ (hM.boxed) (HG.out.below hM.below)).mono ?_; rintro e W' ⟨rfl, hb'⟩; rw [HC.out]; have hM' := hM.call hb'; clear hM hb'; have hM := hM'; clear hM') | (go_at_call 91; refine (HQU.out x1 _ (hM.boxed) (HG.out.below hM.below)).mono ?_; rintro e W' ⟨rfl, hb'⟩; rw [HP.out]; have hM' := hM.call hb'; clear hM hb'; have hM := hM'; clear hM'))
      go_ret3
      rw [HR.out]
      exact ⟨rfl, hM.below⟩
  · obtain ⟨C, hC⟩ : ∃ C, needC d n ys = C := ⟨_, rfl⟩
    have HR := Lib.hid (fq_is (show fqT d n ys = (0, 0, C) from by unfold fqT; rw [if_neg hc, hC]))
    have HC := Lib.hid hC
    rw [hC] at hc
    have z1 : (C != 0) = true := bne_iff_ne.2 hc
    have z2 : (C == 0) = false := beq_eq_false_iff_ne.2 hc
    clear hC
    have tk_x1 : True := trivial
    go_enter Tryd.func40, Tryd.ntmps40
    go_wp2_with (first | (have _t := tk_x1; refine wpList_box rfl _ _ rfl _ _ rfl hM ?_; intro x1 W' hx1 hM'; clear hM tk_x1; have hM := hM'; clear hM') | (go_at_call 93; refine (HTO.out x1 _ (hM.boxed) (HG.out.below hM.below)).mono ?_; rintro e W' ⟨rfl, hb'⟩; rw [HC.out]; have hM' := hM.call hb'; clear hM hb'; have hM := hM'; clear hM'))
    go_ret3
    rw [HR.out]
    exact ⟨rfl, hM.below⟩

set_option maxRecDepth 100000 in
set_option maxHeartbeats 4000000 in
theorem implFirstQuarrel_any {a : Nat → Addr} (d : Hd) (b1 b2 b3 : Nat) (hd : FitsH d) (bg n : Nat) (ys : Nat → Int) (hn : n ≤ 1048576) (w : World) (hM0 : Mem w (hdB d b1 b2 b3) w) (hG : At w bg n (vInt64S ys)) (hE : Errs a w) (hT : TabQ w) :
    Calls Tryd.prog 41 #[.agg (arr 3 (hdV d b1 b2 b3)), .slice (some ⟨bg, 0, none⟩) n n] w fun e w' => e = .returned (trip3 (fqX d n ys) (fqY d n ys) (fqC d n ys)) ∧ Below w.heap.size w w' := by
  have hM := Mem.nil w
  have H0 := Lib.hid hM0
  have HG := Lib.hid (vInt64S_ints hG)
  have HE := Lib.hid hE
  have HT := Lib.hid hT.1
  have HQ := Lib.hid hT.2
  clear hM0 hE hT hG
  cases hv : herdB d
  · have hcc : needC d n ys = chkC d := by unfold needC; rw [chk_1 hv, hv]; rfl
    have hz : askC d 0 (fun _ => 0) ≠ 0 := show chkC d ≠ 0 from by rw [chk_1 hv]; decide
    have HR := Lib.hid (fq_is (show fqT d n ys = (0, 0, askC d 0 (fun _ => 0)) from by unfold fqT; rw [if_neg (by rw [hcc]; exact hz), hcc]; rfl))
    have hFW := fun (W : World) hB hE hT => flockWith_bad (a := a) d b1 b2 b3 hd none 0 0 (fun _ => 0) (by omega) W hB hE hT (.inl rfl) hz
    rw [HR.out]
    clear hv HR hcc
    obtain ⟨hv, hhv⟩ : ∃ f, hdV d b1 b2 b3 = f := ⟨_, rfl⟩
    rw [hhv] at hFW ⊢
    generalize askC d 0 (fun _ => 0) = C at *
    have HFW := Lib.hid hFW
    clear hhv hFW
    have tk_x1 : True := trivial; have tk_r1 : True := trivial; have tk_f8 : True := trivial; have tk_s1 : True := trivial
    go_enter Tryd.func41, Tryd.ntmps41
    go_wp2_with (first | (have _t := tk_x1; refine wpList_box rfl _ _ rfl _ _ rfl hM ?_; intro x1 W' hx1 hM'; clear hM tk_x1; have hM := hM'; clear hM') | (have _t := tk_r1; refine wpList_get rfl _ _ rfl _ _ rfl hM 0 rfl (rowTab _ _ rfl) (by omega) ?_; simp only [Nat.zero_add]; clear tk_r1) | (go_at_call 64; refine (HFW.out _ ((H0.out.call hM.below).base (Below.refl _ _)) (HE.out.below hM.below) (HT.out.below hM.below)).mono ?_; rintro e Wf ⟨ff, ev, rfl, hone, hEv, hb'⟩; have hM' := hM.call hb'; have hN := hEv.neq; have hGd := hEv.guard; have HEv := Lib.hid hEv; have HOne := Lib.hid hone; clear hM hb' hEv hone; have hM := hM'; clear hM') | (have _t := tk_f8; refine wpList_zero rfl _ rfl (zeroTab _ _ _ rfl) hM ?_; intro f8 W' hf8 hM'; clear hM tk_f8; have hM := hM'; clear hM') | (have _t := tk_s1; refine wpList_lay rfl _ _ _ rfl _ _ rfl _ _ rfl hM 0 rfl (by assumption) (rowTab _ _ rfl) (by omega) HOne.out ?_; intro W' hM'; clear hM tk_s1; have hM := hM'; clear hM'; simp only [List.set] at hM) | (go_at_call 65; refine (HEv.out.code (HE.out.below hM.below)).mono ?_; rintro e W' ⟨rfl, rfl⟩))
    go_ret3
    exact ⟨rfl, hM.below⟩
  have hOk := herdB_iff.1 hv
  have h14 := hOk.n
  have hFW := fun (W : World) hB hE => flockWith_ok (r := a 1) d b1 b2 b3 hd none 0 0 (fun _ => 0) (by omega) W hB hE (.inl rfl) hOk (fun j h => absurd h (by omega))
  have hPE := fun (ma : Option Addr) (mc : Nat) (W : World) hA hI hE hT => checkPeace_any (a := a) d ma mc hOk (fun i hi => hd.f i (by rw [hOk.l3]; exact hi)) (some ⟨bg, 0, none⟩) n n ys hn W hA hI hE hT
  have hPI : (peaceV a d n ys = errV (a 2) ∧ fqT d n ys = (0, 0, 4)) ∨ (peaceV a d n ys = .nilIface ∧ fqT d n ys = (0, 0, 6)) ∨ ∃ x y : Int, peaceV a d n ys = .iface 111 (.agg #[.int .i64 x, .int .i64 y]) ∧ fqT d n ys = (x, y, 0) := by
    unfold peaceV fqT needC
    rw [hv]
    cases h : numsB d n ys
    · exact .inl ⟨rfl, rfl⟩
    · rcases h2 : quarI d ys n n with - | ⟨i, k⟩
      · exact .inr (.inl ⟨rfl, rfl⟩)
      · exact .inr (.inr ⟨_, _, rfl, rfl⟩)
  obtain ⟨hv0, hhv⟩ : ∃ f, hdV d b1 b2 b3 = f := ⟨_, rfl⟩
  rw [hhv] at hFW ⊢
  generalize peaceV a d n ys = PV at hPE hPI
  have HFW := Lib.hid hFW
  have HPE := Lib.hid hPE
  obtain ⟨nn, hnn⟩ : ∃ nn, d.n1 = nn := ⟨_, rfl⟩
  rw [hnn] at HFW HPE
  clear hhv hFW hPE hOk hv hnn h14
  have hz : (Tryd.prog.info? 111).map (·.zero) = some (some (.agg (arr 2 (qF 0 0)))) := by kernel_rfl
  rcases hPI with ⟨rfl, hF⟩ | ⟨rfl, hF⟩ | ⟨x, y, rfl, hF⟩
  · rw [fq_is hF]
    clear hF
    have tk_x1 : True := trivial; have tk_r1 : True := trivial; have tk_f8 : True := trivial; have tk_s1 : True := trivial; have tk_q1 : True := trivial
    go_enter Tryd.func41, Tryd.ntmps41
    go_wp2_with (first | (have _t := tk_x1; refine wpList_box rfl _ _ rfl _ _ rfl hM ?_; intro x1 W' hx1 hM'; clear hM tk_x1; have hM := hM'; clear hM') | (have _t := tk_r1; refine wpList_get rfl _ _ rfl _ _ rfl hM 0 rfl (rowTab _ _ rfl) (by omega) ?_; simp only [Nat.zero_add]; clear tk_r1) | (go_at_call 64; refine (HFW.out _ ((H0.out.call hM.below).base (Below.refl _ _)) ⟨(HE.out.below hM.below).vars 1 (by omega), HT.out.below hM.below⟩).mono ?_; rintro e Wf ⟨ma, mc, m, rfl, hmc, hMA, hO, hb'⟩; have hM' := hM.call hb'; have HB0 := Lib.hid hM'.below; have hM2 := hM'.base (w' := Base.of Wf) (Below.refl _ _); have HMA := Lib.hid hMA; clear hM hb' hO hMA hM'; have hM := hM2; clear hM2) | (have _t := tk_f8; refine wpList_zero rfl _ rfl (zeroTab _ _ _ rfl) hM ?_; intro f8 W' hf8 hM'; clear hM tk_f8; have hM := hM'; clear hM') | (have _t := tk_s1; refine wpList_lay rfl _ _ _ rfl _ _ rfl _ _ rfl hM 0 rfl (by assumption) (rowTab _ _ rfl) (by omega) (fun k _ => flkV_one _ _ _ _ k) ?_; intro W' hM'; have hM2 := hM'.re 0 rfl (flkV ma nn mc m) (fun k hk => by simp [lay, hk]); simp only [List.set] at hM2; clear hM hM' tk_s1; have hM := hM2; clear hM2) | (refine wpList_get1 rfl _ _ rfl _ _ rfl hM 0 rfl (cellTab _ rfl) (by omega) (.slice ma nn mc) rfl ?_) | (go_at_call 92; (with_reducible refine (HPE.out ma mc _ (HMA.out.below hM.below) ((HG.out.below HB0.out).below hM.below) ((HE.out.below HB0.out).below hM.below) ((HT.out.below HB0.out).below hM.below)).mono ?_); rintro e W' ⟨rfl, hb'⟩; have hM' := hM.call hb'; clear hM hb'; have hM := hM'; clear hM') | (have _t := tk_q1; refine wpList_zero rfl _ rfl hz hM ?_; intro q1 W' hq1 hM'; clear hM tk_q1; have hM := hM'; clear hM') | (go_at_call 94; refine (as_miss Wf _ q1 (a 2) _ _ hM ((HB0.out.cell (block_lt_of_cell HQ.out)).trans HQ.out)).mono ?_; rintro e W' ⟨rfl, hM'⟩; clear hM; have hM := hM'; clear hM') | (go_at_call 65; refine (codeOf_2 ((HE.out.below HB0.out).below hM.below)).mono ?_; rintro e W' ⟨rfl, rfl⟩))
    go_ret3
    exact ⟨rfl, HB0.out.trans (hM.below.mono HB0.out.size)⟩
  · rw [fq_is hF]
    clear hF
    have tk_x1 : True := trivial; have tk_r1 : True := trivial; have tk_f8 : True := trivial; have tk_s1 : True := trivial; have tk_q1 : True := trivial
    go_enter Tryd.func41, Tryd.ntmps41
    go_wp2_with (first | (have _t := tk_x1; refine wpList_box rfl _ _ rfl _ _ rfl hM ?_; intro x1 W' hx1 hM'; clear hM tk_x1; have hM := hM'; clear hM') | (have _t := tk_r1; refine wpList_get rfl _ _ rfl _ _ rfl hM 0 rfl (rowTab _ _ rfl) (by omega) ?_; simp only [Nat.zero_add]; clear tk_r1) | (go_at_call 64; refine (HFW.out _ ((H0.out.call hM.below).base (Below.refl _ _)) ⟨(HE.out.below hM.below).vars 1 (by omega), HT.out.below hM.below⟩).mono ?_; rintro e Wf ⟨ma, mc, m, rfl, hmc, hMA, hO, hb'⟩; have hM' := hM.call hb'; have HB0 := Lib.hid hM'.below; have hM2 := hM'.base (w' := Base.of Wf) (Below.refl _ _); have HMA := Lib.hid hMA; clear hM hb' hO hMA hM'; have hM := hM2; clear hM2) | (have _t := tk_f8; refine wpList_zero rfl _ rfl (zeroTab _ _ _ rfl) hM ?_; intro f8 W' hf8 hM'; clear hM tk_f8; have hM := hM'; clear hM') | (have _t := tk_s1; refine wpList_lay rfl _ _ _ rfl _ _ rfl _ _ rfl hM 0 rfl (by assumption) (rowTab _ _ rfl) (by omega) (fun k _ => flkV_one _ _ _ _ k) ?_; intro W' hM'; have hM2 := hM'.re 0 rfl (flkV ma nn mc m) (fun k hk => by simp [lay, hk]); simp only [List.set] at hM2; clear hM hM' tk_s1; have hM := hM2; clear hM2) | (refine wpList_get1 rfl _ _ rfl _ _ rfl hM 0 rfl (cellTab _ rfl) (by omega) (.slice ma nn mc) rfl ?_) | (go_at_call 92; (with_reducible refine (HPE.out ma mc _ (HMA.out.below hM.below) ((HG.out.below HB0.out).below hM.below) ((HE.out.below HB0.out).below hM.below) ((HT.out.below HB0.out).below hM.below)).mono ?_); rintro e W' ⟨rfl, hb'⟩; have hM' := hM.call hb'; clear hM hb'; have hM := hM'; clear hM'))
    go_ret3
    exact ⟨rfl, HB0.out.trans (hM.below.mono HB0.out.size)⟩
  · rw [fq_is hF]
    clear hF
    have tk_x1 : True := trivial; have tk_r1 : True := trivial; have tk_f8 : True := trivial; have tk_s1 : True := trivial; have tk_q1 : True := trivial; have tk_k1 : True := trivial
    go_enter Tryd.func41, Tryd.ntmps41
    go_wp2_with (first | (have _t := tk_x1; refine wpList_box rfl _ _ rfl _ _ rfl hM ?_; intro x1 W' hx1 hM'; clear hM tk_x1; have hM := hM'; clear hM') | (have _t := tk_r1; refine wpList_get rfl _ _ rfl _ _ rfl hM 0 rfl (rowTab _ _ rfl) (by omega) ?_; simp only [Nat.zero_add]; clear tk_r1) | (go_at_call 64; refine (HFW.out _ ((H0.out.call hM.below).base (Below.refl _ _)) ⟨(HE.out.below hM.below).vars 1 (by omega), HT.out.below hM.below⟩).mono ?_; rintro e Wf ⟨ma, mc, m, rfl, hmc, hMA, hO, hb'⟩; have hM' := hM.call hb'; have HB0 := Lib.hid hM'.below; have hM2 := hM'.base (w' := Base.of Wf) (Below.refl _ _); have HMA := Lib.hid hMA; clear hM hb' hO hMA hM'; have hM := hM2; clear hM2) | (have _t := tk_f8; refine wpList_zero rfl _ rfl (zeroTab _ _ _ rfl) hM ?_; intro f8 W' hf8 hM'; clear hM tk_f8; have hM := hM'; clear hM') | (have _t := tk_s1; refine wpList_lay rfl _ _ _ rfl _ _ rfl _ _ rfl hM 0 rfl (by assumption) (rowTab _ _ rfl) (by omega) (fun k _ => flkV_one _ _ _ _ k) ?_; intro W' hM'; have hM2 := hM'.re 0 rfl (flkV ma nn mc m) (fun k hk => by simp [lay, hk]); simp only [List.set] at hM2; clear hM hM' tk_s1; have hM := hM2; clear hM2) | (have _t := tk_k1; refine wpList_get1 rfl _ _ rfl _ _ rfl hM 0 rfl (cellTab _ rfl) (by omega) (.slice ma nn mc) rfl ?_; clear tk_k1) | (go_at_call 92; (with_reducible refine (HPE.out ma mc _ (HMA.out.below hM.below) ((HG.out.below HB0.out).below hM.below) ((HE.out.below HB0.out).below hM.below) ((HT.out.below HB0.out).below hM.below)).mono ?_); rintro e W' ⟨rfl, hb'⟩; have hM' := hM.call hb'; clear hM hb'; have hM := hM'; clear hM') | (have _t := tk_q1; refine wpList_zero rfl _ rfl hz hM ?_; intro q1 W' hq1 hM'; clear hM tk_q1; have hM := hM'; clear hM') | (go_at_call 94; refine (as_hit Wf _ q1 x y _ _ hM hq1 ((HB0.out.cell (block_lt_of_cell HQ.out)).trans HQ.out)).mono ?_; rintro e W' ⟨rfl, hM'⟩; clear hM; have hM := hM'; clear hM') | (refine wpList_get1 rfl _ _ rfl _ _ rfl hM 0 rfl (cellTab _ rfl) (by omega) (.int .i64 x) rfl ?_) | (refine wpList_get1 rfl _ _ rfl _ _ rfl hM 0 rfl (cellTab _ rfl) (by omega) (.int .i64 y) rfl ?_))
    ((try simp only [Act.put, List.setIfInBounds_toArray, List.set_cons_succ, List.set_cons_zero]); refine wp_region_mem (by kernel_rfl) (by kernel_rfl) hM ?_; clear hM; (repeat (first | go_big_quiet_skip | (go_big_quiet_want; first | (refine quiet_get1 _ _ rfl _ _ rfl 0 rfl (cellTab _ rfl) (by omega) (.int .i64 x) rfl ?_; (simp only [Act.put, List.setIfInBounds_toArray, List.set_cons_succ, List.set_cons_zero]); go_big_quiet_on) | (refine quiet_get1 _ _ rfl _ _ rfl 0 rfl (cellTab _ rfl) (by omega) (.int .i64 y) rfl ?_; (simp only [Act.put, List.setIfInBounds_toArray, List.set_cons_succ, List.set_cons_zero]); go_big_quiet_on) | (refine quiet_val ?_; apply Exists.intro; refine ⟨fun W => ?_, ?_⟩; (go_simp; rfl); (simp only [Act.put, List.setIfInBounds_toArray, List.set_cons_succ, List.set_cons_zero]); go_big_quiet_on)))); (with_reducible refine wpQuiet_nil ?_); intro W' hM)
    go_wp2
    go_ret3
    exact ⟨rfl, HB0.out.trans (hM.below.mono HB0.out.size)⟩
end Go.Proofs.YthodkbmenndnoaaDoor

/-
  What the row of FirstQuarrel gives: the errors, the table, the type of errors.
-/
namespace Go.Proofs.YthodkbmenndnoaaDoor
open Go Go.RowKit

theorem hq_et : Tryd.prog.globalNamed "errors.errorType" = some 7 := by kernel_rfl
theorem hq_rt : (Tryd.prog.cutTypes.find? (·.1 == "internal/reflectlite.rtype")).map (·.2) = some 155 := by kernel_rfl
theorem hq_oneRow : ((List.range Tryd.prog.types.size).filter fun t => Tryd.prog.rowNamed t [101, 114, 114, 111, 114]) = [85] := by kernel_rfl
theorem hq_handle : typeHandle Tryd.prog 85 = .pointer (some ⟨9, 85, none⟩) := by kernel_rfl
theorem hq_name : (Rows.laid_errors_errorType (H := Unit)).handleName? = some [101, 114, 114, 111, 114] := by rfl
theorem henvq_of_laid {W : World} (h : laidMetH Tryd.prog Rows.fnExactFirstQuarrelRow.laid W) : ∃ a, Errs a W ∧ TabQ W := by
  have h' : laidMet Tryd.prog errsLaid W ∧ handlesMet Tryd.prog [("errors.errorType", Rows.laid_errors_errorType)] W := h
  obtain ⟨a, hE⟩ := henvs_of_laid (W := W) (by rw [MakeChecks.laidMetH_plain _ _ _ (by kernel_rfl)]; exact h'.1)
  obtain ⟨name, u, ty, e1, e2, e3, e4, e5⟩ := h'.2 _ (List.mem_singleton.2 rfl)
  have en : name = [101, 114, 114, 111, 114] := (Option.some.inj (hq_name.symm.trans e1)).symm
  subst en
  obtain rfl := Option.some.inj (hq_rt.symm.trans e2)
  have hm : ty ∈ (List.range Tryd.prog.types.size).filter fun t => Tryd.prog.rowNamed t [101, 114, 114, 111, 114] := List.mem_filter.2 ⟨List.mem_range.2 e3, e4⟩
  rw [hq_oneRow] at hm
  obtain rfl := List.mem_singleton.1 hm
  rw [hq_handle] at e5
  exact ⟨a, hE.1, hE.2, by simpa using World.var?_cell hq_et e5 0⟩
end Go.Proofs.YthodkbmenndnoaaDoor

/-
  laws.markText by contract: the same text for the same number.
-/
namespace Go.Proofs.YthodkbmenndnoaaDoor
open Go Go.RowKit Go.BigFrame

def digB (k : Nat) : ByteArray := ⟨#[UInt8.ofNat (48 + k % 10)]⟩
def digs : Nat → Nat → ByteArray → ByteArray
  | 0, _, acc => acc
  | f + 1, k, acc => if k = 0 then acc else digs f (k / 10) (digB k ++ acc)
def mtxt (k : Nat) : ByteArray := if k = 0 then ⟨#[109, 48]⟩ else ⟨#[109]⟩ ++ digs 20 k ⟨#[]⟩
theorem wpList_byte {ops : Array Oper} {rest : List Oper} {o : Oper} {a : Act} {w : Base} {L : Blocks} {W : World} {Q : Exit → Act → World → Prop} (hgd : o.guard = none) (x : Operand) (ho : o.op = .convert 153 9 x) (b : Nat) (hx : a.eval x = .slice (some ⟨b, 0, none⟩) 1 1)
    (hM : Mem w L W) (i : Nat) {f : Nat → Value} (hi : L[i]? = some (b, 1, f)) (d : Nat) (hd : d < 10) (hf : f 0 = .int .u8 ((48 + d : Nat) : Int)) (u : UInt8) (hu : UInt8.ofNat (48 + d) = u)
    (h : wpList Tryd.prog ops Q rest (a.put o.dst (.string ⟨#[u]⟩)) W) : wpList Tryd.prog ops Q (o :: rest) a W := by
  subst hu
  refine wpList_plain hgd fun K hK => ?_
  have hc := (hM.ats i b 1 f hi).cell (k := 0) (by omega)
  have hr := run_convert_bytes_back (P := Tryd.prog) W 153 9 5 ⟨b, 0, none⟩ 1 [UInt8.ofNat (48 + d)] Tryd.underlying153 Tryd.underlying5 Tryd.underlying9 (fun j hj => by
    have hj0 : j = 0 := by simpa using hj
    subst hj0
    have e : (⟨b, 0, none⟩ : Addr).add 0 = ⟨b, 0, none⟩ := by simp [Addr.add]
    rw [e, hc, hf]
    have : (UInt8.ofNat (48 + d)).toNat = 48 + d := by simp; omega
    rw [List.getElem_cons_zero, this])
  unfold Oper.wp execOp
  simp only [ho, hx, Sem.run_bind, Sem.run_pure, Result.andThen_ok]
  simp only [List.length_cons, List.length_nil, Nat.zero_add] at hr
  rw [hr]
  exact hK _ _ h
theorem bytes_under : Tryd.prog.underlying 153 = some (.slice 5) := Tryd.underlying153
theorem byte_info : (Tryd.prog.info? 5).map (fun i => (i.size, i.zero)) = some (1, some (.int .u8 0)) := by kernel_rfl
theorem digs_step {f r : Nat} {acc : ByteArray} (hr : r ≠ 0) : digs (f + 1) r acc = digs f (r / 10) (digB r ++ acc) := by simp [digs, hr]
theorem digs_zero {f : Nat} {acc : ByteArray} : digs f 0 acc = acc := by cases f <;> simp [digs]
set_option maxRecDepth 100000 in
set_option maxHeartbeats 1000000 in
theorem markText_any (k : Nat) (hk : k ≤ 1000000000) (w : World) :
    Calls Tryd.prog 110 #[.int .i64 k] w fun e w' => e = .returned (.string (mtxt k)) ∧ Below w.heap.size w w' := by
  have hM := Mem.nil w
  by_cases h0 : k = 0
  · subst h0
    go_enter Tryd.func110, Tryd.ntmps110
    go_wp2
    go_ret
    exact ⟨rfl, hM.below⟩
  have hpos : 0 < (k : Int) := by omega
  have d0 : decide ((k : Int) ≤ 0) = false := decide_eq_false (by omega)
  go_enter Tryd.func110, Tryd.ntmps110
  go_wp2
  go_loopw [0, 3] (fun x s wr => ∃ (f r : Nat) (acc : ByteArray), x = .int .i64 r ∧ s = .string acc ∧ r ≤ 1000000000 ∧ r < 10 ^ f ∧ acc.size + f ≤ 20 ∧ Hid (digs f r acc = digs 20 k ⟨#[]⟩) ∧ Mem w [] wr) (fun x _ _ => (intOf x).toNat)
  case atStart => exact ⟨20, k, ⟨#[]⟩, rfl, rfl, hk, by omega, by decide, Lib.hid rfl, hM⟩
  case round =>
    clear hM
    obtain ⟨f, r, acc, rfl, rfl, hr, hrf, hf, hd, hM⟩ := hrel
    have hs1 : ({ data := #[109] } : ByteArray).size = 1 := rfl
    by_cases hz : r = 0
    · subst hz
      have HZ := Lib.hid (show (⟨#[109]⟩ ++ acc : ByteArray) = mtxt k from by unfold mtxt; rw [if_neg h0, ← hd.out, digs_zero])
      go_wp2
      try (any_goals (exfalso; omega))
      go_ret
      rw [← HZ.out]
      exact ⟨rfl, hM.below⟩
    · have l1 : (0 : Int) < r := by omega
      obtain ⟨f, rfl⟩ : ∃ f', f = f' + 1 := ⟨f - 1, by
        rcases f with _ | f
        · simp at hrf; omega
        · rfl⟩
      have hdiv : r / 10 < 10 ^ f := by rw [Nat.pow_succ] at hrf; omega
      obtain ⟨d, hdd⟩ : ∃ d, r % 10 = d := ⟨_, rfl⟩
      have hd10 : d < 10 := by omega
      have c1 : (r : Int) % 10 = (d : Int) := by omega
      have cm : Int.tmod (r : Int) 10 = (d : Int) := by rw [Int.tmod_eq_emod_of_nonneg (by omega)]; exact c1
      have c2 : IntKind.u8.wrap (48 + (d : Int)) = ((48 + d : Nat) : Int) := by rw [IntWalk.u8_in _ (by omega)]; omega
      have HD := Lib.hid (show digs f (r / 10) (⟨#[UInt8.ofNat (48 + d)]⟩ ++ acc) = digs 20 k ⟨#[]⟩ from by rw [← hd.out, digs_step hz, digB, hdd])
      obtain ⟨u, hu⟩ : ∃ u : UInt8, UInt8.ofNat (48 + d) = u := ⟨_, rfl⟩
      rw [hu] at HD
      have HU := Lib.hid hu
      have hs2 : ({ data := #[u] } : ByteArray).size = 1 := rfl
      have HS := Lib.hid (show ((⟨#[u]⟩ : ByteArray) ++ acc).size + f ≤ 20 from by rw [ByteArray.size_append, hs2]; omega)
      clear hd hdd hrf hu
      have tk_l1b : True := trivial
      go_wp2_with (first | (have _t := tk_l1b; refine wpList_lit1 rfl _ _ _ rfl (.int .u8 ((48 + d : Nat) : Int)) (by first | rfl | exact congrArg (Value.int .u8) c2) rfl _ bytes_under byte_info hM ?_; intro lb W' hlb hM'; clear hM tk_l1b; have hM := hM'; clear hM') | (refine wpList_byte rfl _ rfl _ rfl hM 0 rfl d hd10 rfl u HU.out ?_))
      go_roundw
      case rel => exact ⟨f, r / 10, _, by go_num, rfl, by omega, hdiv, HS.out, HD, hM.drop⟩
      case measure => simp [intOf]; omega
end Go.Proofs.YthodkbmenndnoaaDoor

/-
  laws.eqStringS, markStringS, heldStringS over lists that hold room behind their end.
-/
namespace Go.Proofs.YthodkbmenndnoaaDoor
open Go Go.RowKit Go.BigFrame Go.ChangeShapes Go.WideShapes Go.Deep

theorem eqStringS_zero (a a' : Option Addr) (c c' : Nat) (w : World) : Calls Tryd.prog 59 #[.slice a 0 c, .slice a' 0 c'] w fun e w' => e = .returned (.bool true) ∧ Below w.heap.size w w' := by
  go_enter Tryd.func59, Tryd.ntmps59
  go_wp2
  refine wp_loop_rounds 1 ?_
  rw [rounds_succ]
  go_wp2
  go_ret
  exact ⟨rfl, Below.refl _ _⟩
theorem markStringS_zero (a : Option Addr) (c : Nat) (k : Int) (w : World) : Calls Tryd.prog 67 #[.slice a 0 c, .int .i64 k] w fun e w' => e = .returned (.int .i64 k) ∧ Below w.heap.size w w' := by
  go_enter Tryd.func67, Tryd.ntmps67
  go_wp2
  refine wp_loop_rounds 1 ?_
  rw [rounds_succ]
  go_wp2
  go_ret
  exact ⟨rfl, Below.refl _ _⟩
theorem heldStringS_zero (a : Option Addr) (c : Nat) (k : Int) (w : World) : Calls Tryd.prog 75 #[.slice a 0 c, .int .i64 k] w fun e w' => e = .returned (.int .i64 k) ∧ Below w.heap.size w w' := by
  go_enter Tryd.func75, Tryd.ntmps75
  go_wp2
  refine wp_loop_rounds 1 ?_
  rw [rounds_succ]
  go_wp2
  go_ret
  exact ⟨rfl, Below.refl _ _⟩

set_option maxRecDepth 100000 in
set_option maxHeartbeats 1000000 in
/-- eqStringS of two lists that hold the same. -/
theorem eqStringS_list (b b' n c c' N N' : Nat) (F F' : Nat → Value) (ys : Nat → ByteArray) (hF : ∀ j, j < n → F j = vStringS ys j) (hF' : ∀ j, j < n → F' j = vStringS ys j) (hN : n ≤ N) (hN' : n ≤ N') (hn : n ≤ 1048576) (w : World) (hA : At w b N F) (hA' : At w b' N' F') (hne : b ≠ b') :
    Calls Tryd.prog 59 #[.slice (some ⟨b, 0, none⟩) n c, .slice (some ⟨b', 0, none⟩) n c'] w fun e w' => e = .returned (.bool true) ∧ Below w.heap.size w w' := by
  have hM : Mem w [(b, N, F), (b', N', F')] w := ((Mem.nil w).old hA (fun i p h => by simp at h)).old hA' (fun i p h => by
    match i, h with
    | 0, h => simp at h; rw [← h]; exact hne
    | _ + 1, h => simp at h)
  have Hf := Lib.hid hF
  have Hf' := Lib.hid hF'
  clear hA hA' hF hF'
  go_enter Tryd.func59, Tryd.ntmps59
  go_wp2
  go_loopw [5] (fun i wr => ∃ k : Nat, k ≤ n ∧ i = .int .i64 k ∧ Mem w [(b, N, F), (b', N', F')] wr) (fun i _ => n - (intOf i).toNat)
  case atStart => exact ⟨0, by omega, rfl, hM⟩
  case round =>
    clear hM
    obtain ⟨k, hk, rfl, hM⟩ := hrel
    by_cases hlt : k < n
    · have l2 : (k : Int) < n := by omega
      have c1 : F k = .string (ys k) := Hf.out k hlt
      have c2 : F' k = .string (ys k) := Hf'.out k hlt
      generalize ys k = yk at c1 c2
      have hb : (yk.toList == yk.toList) = true := BEq.rfl
      go_wp2
      ((try simp only [Act.put, List.setIfInBounds_toArray, List.set_cons_succ, List.set_cons_zero]); refine wp_region_mem (by kernel_rfl) (by kernel_rfl) hM ?_; clear hM; (repeat (first | go_big_quiet_skip | (go_big_quiet_want; first | (refine quiet_get1 _ _ rfl _ _ rfl 1 rfl cellStringS (by omega) _ c2 ?_; (simp only [Act.put, List.setIfInBounds_toArray, List.set_cons_succ, List.set_cons_zero]); go_big_quiet_on) | (refine quiet_get1 _ _ rfl _ _ rfl 0 rfl cellStringS (by omega) _ c1 ?_; (simp only [Act.put, List.setIfInBounds_toArray, List.set_cons_succ, List.set_cons_zero]); go_big_quiet_on) | (refine quiet_val ?_; apply Exists.intro; refine ⟨fun W => ?_, ?_⟩; (go_simp; (try simp only [l2, hb, if_true, Bool.false_eq_true, if_false]); rfl); (simp only [Act.put, List.setIfInBounds_toArray, List.set_cons_succ, List.set_cons_zero]); go_big_quiet_on)))); (with_reducible refine wpQuiet_nil ?_); intro W' hM)
      go_wp2
      go_roundw
      case rel => exact ⟨k + 1, by omega, by go_num, hM⟩
      case measure => simp [intOf]; omega
    · obtain rfl : k = n := by omega
      go_wp2
      go_ret
      exact ⟨rfl, hM.below⟩

/-- The mark j, as a cell. -/
def mkString (j : Nat) : Value := .string (mtxt j)
set_option maxRecDepth 100000 in
set_option maxHeartbeats 1000000 in
/-- markStringS writes its marks into the list. -/
theorem markStringS_list (b0 : Base) (K : Blocks) (b n c N k0 : Nat) (F : Nat → Value) (hN : n ≤ N) (hn : n ≤ 1048576) (hk0 : k0 ≤ 100000000) (hb : b0.B ≤ b) (w : World) (hM0 : Mem b0 ((b, N, F) :: K) w) :
    Calls Tryd.prog 67 #[.slice (some ⟨b, 0, none⟩) n c, .int .i64 k0] w fun e w' => e = .returned (.int .i64 ((k0 + n : Nat) : Int)) ∧ ∃ G, (∀ j, j < n → G j = mkString (k0 + j)) ∧ Mem b0 ((b, N, G) :: K) w' := by
  have hM := hM0
  clear hM0
  go_enter Tryd.func67, Tryd.ntmps67
  go_wp2
  go_loopw [1, 5] (fun t i wr => ∃ k : Nat, k ≤ n ∧ t = .int .i64 ((k0 + k : Nat) : Int) ∧ i = .int .i64 k ∧ ∃ G, Hid (∀ j, j < k → G j = mkString (k0 + j)) ∧ Mem b0 ((b, N, G) :: K) wr) (fun _ i _ => n - (intOf i).toNat)
  case atStart => exact ⟨0, by omega, by simp, rfl, F, Lib.hid (fun j hj => absurd hj (by omega)), hM⟩
  case round =>
    clear hM
    obtain ⟨k, hk, rfl, rfl, G, hG, hM⟩ := hrel
    by_cases hlt : k < n
    · have l2 : (k : Int) < n := by omega
      obtain ⟨mm, hm⟩ : ∃ m : Nat, m = k0 + k := ⟨_, rfl⟩
      rw [← hm]
      have n1 : IntKind.i64.wrap ((mm : Int) + 1) = (mm : Int) + 1 := IntWalk.i64_in _ (by omega)
      have n2 : IntKind.i64.wrap (mm : Int) = (mm : Int) := IntWalk.i64_in _ (by omega)
      have hl : (mm : Int) + 1 = ((k0 + (k + 1) : Nat) : Int) := by omega
      have Hl := Lib.hid hl
      have Hm := Lib.hid hm
      clear hm hl
      have hm3 : mm ≤ 1000000000 := by have := Hm.out; omega
      obtain ⟨xx, hxx⟩ : ∃ x, mtxt mm = x := ⟨_, rfl⟩
      have Hxx := Lib.hid hxx
      clear hxx
      go_wp2_with (first | (go_at_call 110; refine (markText_any mm hm3 _).mono ?_; rintro e W' ⟨rfl, hb'⟩; rw [Hxx.out]; have hM' := hM.call hb'; clear hM hb'; have hM := hM'; clear hM') | (refine wpList_set1 rfl _ _ _ rfl _ _ rfl _ rfl ?_ hM 0 rfl (by assumption) (cellTab _ rfl) (by omega) ?_; (first | rfl | exact h1 _); intro W' hM'; clear hM; have hM := hM'; clear hM'; simp [List.set, Act.eval] at hM))
      go_roundw
      case rel => exact ⟨k + 1, by omega, by first | exact congrArg (Value.int .i64) Hl.out | rfl, by go_num, _, Lib.hid (fun j hj => by
        simp only [upd]
        by_cases e0 : j = k
        · rw [if_pos e0, e0, ← Hm.out]; exact congrArg Value.string Hxx.out.symm
        · rw [if_neg e0]; exact hG.out j (by omega)), hM⟩
      case measure => simp [intOf]; omega
    · obtain rfl : k = n := by omega
      go_wp2
      go_ret
      exact ⟨rfl, G, hG.out, hM⟩

set_option maxRecDepth 100000 in
set_option maxHeartbeats 1000000 in
/-- heldStringS finds the marks. -/
theorem heldStringS_list (b n c N k0 : Nat) (G : Nat → Value) (hN : n ≤ N) (hn : n ≤ 1048576) (hk0 : k0 ≤ 100000000) (hG : ∀ j, j < n → G j = mkString (k0 + j)) (w : World) (hA : At w b N G) :
    Calls Tryd.prog 75 #[.slice (some ⟨b, 0, none⟩) n c, .int .i64 k0] w fun e w' => e = .returned (.int .i64 ((k0 + n : Nat) : Int)) ∧ Below w.heap.size w w' := by
  have hM : Mem w [(b, N, G)] w := (Mem.nil w).old hA (fun i p h => by simp at h)
  have Hg := Lib.hid hG
  clear hA hG
  go_enter Tryd.func75, Tryd.ntmps75
  go_wp2
  go_loopw [1, 5] (fun t i wr => ∃ k : Nat, k ≤ n ∧ t = .int .i64 ((k0 + k : Nat) : Int) ∧ i = .int .i64 k ∧ Mem w [(b, N, G)] wr) (fun _ i _ => n - (intOf i).toNat)
  case atStart => exact ⟨0, by omega, by simp, rfl, hM⟩
  case round =>
    clear hM
    obtain ⟨k, hk, rfl, rfl, hM⟩ := hrel
    by_cases hlt : k < n
    · have l2 : (k : Int) < n := by omega
      obtain ⟨mm, hm⟩ : ∃ m : Nat, m = k0 + k := ⟨_, rfl⟩
      obtain ⟨xx, hxx⟩ : ∃ x, mtxt mm = x := ⟨_, rfl⟩
      have g0 : G k = .string xx := by rw [Hg.out k hlt, ← hxx, hm]; rfl
      have nx : (xx.toList == xx.toList) = true := BEq.rfl
      have hm3 : mm ≤ 1000000000 := by omega
      have Hxx := Lib.hid hxx
      rw [← hm]
      have n1 : IntKind.i64.wrap ((mm : Int) + 1) = (mm : Int) + 1 := IntWalk.i64_in _ (by omega)
      have n2 : IntKind.i64.wrap (mm : Int) = (mm : Int) := IntWalk.i64_in _ (by omega)
      have hl : (mm : Int) + 1 = ((k0 + (k + 1) : Nat) : Int) := by omega
      have Hl := Lib.hid hl
      clear hm hl
      go_wp2
      ((try simp only [Act.put, List.setIfInBounds_toArray, List.set_cons_succ, List.set_cons_zero]); refine wp_region_mem (by kernel_rfl) (by kernel_rfl) hM ?_; clear hM; (repeat (first | go_big_quiet_skip | (go_big_quiet_want; first | (refine quiet_get1 _ _ rfl _ _ rfl 0 rfl (cellTab _ rfl) (by omega) _ (g0) ?_; (simp only [Act.put, List.setIfInBounds_toArray, List.set_cons_succ, List.set_cons_zero]); go_big_quiet_on) | (refine quiet_call ?_; apply Exists.intro; apply Exists.intro; apply Exists.intro; refine ⟨fun W => ?_, fun W hM => ?_, ?_⟩; (go_simp; exact ⟨rfl, rfl⟩); (with_reducible exact markText_any mm hm3 W); (simp only [Hxx.out]); (simp only [Act.put, List.setIfInBounds_toArray, List.set_cons_succ, List.set_cons_zero]); go_big_quiet_on) | (refine quiet_val ?_; apply Exists.intro; refine ⟨fun W => ?_, ?_⟩; (go_simp; (try simp only [nx, if_true, Bool.false_eq_true, if_false]); rfl); (simp only [Act.put, List.setIfInBounds_toArray, List.set_cons_succ, List.set_cons_zero]); go_big_quiet_on)))); (with_reducible refine wpQuiet_nil ?_); intro W' hM)
      go_wp2
      go_roundw
      case rel => exact ⟨k + 1, by omega, by first | exact congrArg (Value.int .i64) Hl.out | rfl, by go_num, hM⟩
      case measure => simp [intOf]; omega
    · obtain rfl : k = n := by omega
      go_wp2
      go_ret
      exact ⟨rfl, hM.below⟩
end Go.Proofs.YthodkbmenndnoaaDoor

/-
  laws.eqInt16S, markInt16S, heldInt16S over lists that hold room behind their end.
-/
namespace Go.Proofs.YthodkbmenndnoaaDoor
open Go Go.RowKit Go.BigFrame Go.ChangeShapes Go.WideShapes Go.Deep

theorem eqInt16S_zero (a a' : Option Addr) (c c' : Nat) (w : World) : Calls Tryd.prog 60 #[.slice a 0 c, .slice a' 0 c'] w fun e w' => e = .returned (.bool true) ∧ Below w.heap.size w w' := by
  go_enter Tryd.func60, Tryd.ntmps60
  go_wp2
  refine wp_loop_rounds 1 ?_
  rw [rounds_succ]
  go_wp2
  go_ret
  exact ⟨rfl, Below.refl _ _⟩
theorem markInt16S_zero (a : Option Addr) (c : Nat) (k : Int) (w : World) : Calls Tryd.prog 68 #[.slice a 0 c, .int .i64 k] w fun e w' => e = .returned (.int .i64 k) ∧ Below w.heap.size w w' := by
  go_enter Tryd.func68, Tryd.ntmps68
  go_wp2
  refine wp_loop_rounds 1 ?_
  rw [rounds_succ]
  go_wp2
  go_ret
  exact ⟨rfl, Below.refl _ _⟩
theorem heldInt16S_zero (a : Option Addr) (c : Nat) (k : Int) (w : World) : Calls Tryd.prog 76 #[.slice a 0 c, .int .i64 k] w fun e w' => e = .returned (.int .i64 k) ∧ Below w.heap.size w w' := by
  go_enter Tryd.func76, Tryd.ntmps76
  go_wp2
  refine wp_loop_rounds 1 ?_
  rw [rounds_succ]
  go_wp2
  go_ret
  exact ⟨rfl, Below.refl _ _⟩

set_option maxRecDepth 100000 in
set_option maxHeartbeats 1000000 in
/-- eqInt16S of two lists that hold the same. -/
theorem eqInt16S_list (b b' n c c' N N' : Nat) (F F' : Nat → Value) (ys : Nat → Int) (hF : ∀ j, j < n → F j = vInt16S ys j) (hF' : ∀ j, j < n → F' j = vInt16S ys j) (hN : n ≤ N) (hN' : n ≤ N') (hn : n ≤ 1048576) (w : World) (hA : At w b N F) (hA' : At w b' N' F') (hne : b ≠ b') :
    Calls Tryd.prog 60 #[.slice (some ⟨b, 0, none⟩) n c, .slice (some ⟨b', 0, none⟩) n c'] w fun e w' => e = .returned (.bool true) ∧ Below w.heap.size w w' := by
  have hM : Mem w [(b, N, F), (b', N', F')] w := ((Mem.nil w).old hA (fun i p h => by simp at h)).old hA' (fun i p h => by
    match i, h with
    | 0, h => simp at h; rw [← h]; exact hne
    | _ + 1, h => simp at h)
  have Hf := Lib.hid hF
  have Hf' := Lib.hid hF'
  clear hA hA' hF hF'
  go_enter Tryd.func60, Tryd.ntmps60
  go_wp2
  go_loopw [5] (fun i wr => ∃ k : Nat, k ≤ n ∧ i = .int .i64 k ∧ Mem w [(b, N, F), (b', N', F')] wr) (fun i _ => n - (intOf i).toNat)
  case atStart => exact ⟨0, by omega, rfl, hM⟩
  case round =>
    clear hM
    obtain ⟨k, hk, rfl, hM⟩ := hrel
    by_cases hlt : k < n
    · have l2 : (k : Int) < n := by omega
      have c1 : F k = .int .i16 (ys k) := Hf.out k hlt
      have c2 : F' k = .int .i16 (ys k) := Hf'.out k hlt
      have hb : (ys k != ys k) = false := by simp
      go_wp2
      ((try simp only [Act.put, List.setIfInBounds_toArray, List.set_cons_succ, List.set_cons_zero]); refine wp_region_mem (by kernel_rfl) (by kernel_rfl) hM ?_; clear hM; (repeat (first | go_big_quiet_skip | (go_big_quiet_want; first | (refine quiet_get1 _ _ rfl _ _ rfl 1 rfl cellInt16S (by omega) _ c2 ?_; (simp only [Act.put, List.setIfInBounds_toArray, List.set_cons_succ, List.set_cons_zero]); go_big_quiet_on) | (refine quiet_get1 _ _ rfl _ _ rfl 0 rfl cellInt16S (by omega) _ c1 ?_; (simp only [Act.put, List.setIfInBounds_toArray, List.set_cons_succ, List.set_cons_zero]); go_big_quiet_on) | (refine quiet_val ?_; apply Exists.intro; refine ⟨fun W => ?_, ?_⟩; (go_simp; (try simp only [l2, hb, if_true, Bool.false_eq_true, if_false]); rfl); (simp only [Act.put, List.setIfInBounds_toArray, List.set_cons_succ, List.set_cons_zero]); go_big_quiet_on)))); (with_reducible refine wpQuiet_nil ?_); intro W' hM)
      go_wp2
      go_roundw
      case rel => exact ⟨k + 1, by omega, by go_num, hM⟩
      case measure => simp [intOf]; omega
    · obtain rfl : k = n := by omega
      go_wp2
      go_ret
      exact ⟨rfl, hM.below⟩

/-- The mark j, as a cell. -/
def mkInt16 (j : Nat) : Value := .int .i16 (IntKind.i16.wrap (j : Int))
set_option maxRecDepth 100000 in
set_option maxHeartbeats 1000000 in
/-- markInt16S writes its marks into the list. -/
theorem markInt16S_list (b0 : Base) (K : Blocks) (b n c N k0 : Nat) (F : Nat → Value) (hN : n ≤ N) (hn : n ≤ 1048576) (hk0 : k0 ≤ 100000000) (hb : b0.B ≤ b) (w : World) (hM0 : Mem b0 ((b, N, F) :: K) w) :
    Calls Tryd.prog 68 #[.slice (some ⟨b, 0, none⟩) n c, .int .i64 k0] w fun e w' => e = .returned (.int .i64 ((k0 + n : Nat) : Int)) ∧ ∃ G, (∀ j, j < n → G j = mkInt16 (k0 + j)) ∧ Mem b0 ((b, N, G) :: K) w' := by
  have hM := hM0
  clear hM0
  go_enter Tryd.func68, Tryd.ntmps68
  go_wp2
  go_loopw [1, 5] (fun t i wr => ∃ k : Nat, k ≤ n ∧ t = .int .i64 ((k0 + k : Nat) : Int) ∧ i = .int .i64 k ∧ ∃ G, Hid (∀ j, j < k → G j = mkInt16 (k0 + j)) ∧ Mem b0 ((b, N, G) :: K) wr) (fun _ i _ => n - (intOf i).toNat)
  case atStart => exact ⟨0, by omega, by simp, rfl, F, Lib.hid (fun j hj => absurd hj (by omega)), hM⟩
  case round =>
    clear hM
    obtain ⟨k, hk, rfl, rfl, G, hG, hM⟩ := hrel
    by_cases hlt : k < n
    · have l2 : (k : Int) < n := by omega
      obtain ⟨mm, hm⟩ : ∃ m : Nat, m = k0 + k := ⟨_, rfl⟩
      rw [← hm]
      have n1 : IntKind.i64.wrap ((mm : Int) + 1) = (mm : Int) + 1 := IntWalk.i64_in _ (by omega)
      have n2 : IntKind.i64.wrap (mm : Int) = (mm : Int) := IntWalk.i64_in _ (by omega)
      have hl : (mm : Int) + 1 = ((k0 + (k + 1) : Nat) : Int) := by omega
      obtain ⟨xx, hxx⟩ : ∃ x, IntKind.i16.wrap (mm : Int) = x := ⟨_, rfl⟩
      have Hxx := Lib.hid hxx
      have Hl := Lib.hid hl
      have Hm := Lib.hid hm
      clear hm hl
      go_wp2_with (first | (refine wpList_set1 rfl _ _ _ rfl _ _ rfl _ rfl ?_ hM 0 rfl (by assumption) (cellTab _ rfl) (by omega) ?_; (first | rfl | exact h1 _); intro W' hM'; clear hM; have hM := hM'; clear hM'; simp [List.set, Act.eval] at hM))
      go_roundw
      case rel => exact ⟨k + 1, by omega, by first | exact congrArg (Value.int .i64) Hl.out | rfl, by go_num, _, Lib.hid (fun j hj => by
        simp only [upd]
        by_cases e0 : j = k
        · rw [if_pos e0, e0, ← Hm.out]; exact congrArg (Value.int .i16) Hxx.out.symm
        · rw [if_neg e0]; exact hG.out j (by omega)), hM⟩
      case measure => simp [intOf]; omega
    · obtain rfl : k = n := by omega
      go_wp2
      go_ret
      exact ⟨rfl, G, hG.out, hM⟩

set_option maxRecDepth 100000 in
set_option maxHeartbeats 1000000 in
/-- heldInt16S finds the marks. -/
theorem heldInt16S_list (b n c N k0 : Nat) (G : Nat → Value) (hN : n ≤ N) (hn : n ≤ 1048576) (hk0 : k0 ≤ 100000000) (hG : ∀ j, j < n → G j = mkInt16 (k0 + j)) (w : World) (hA : At w b N G) :
    Calls Tryd.prog 76 #[.slice (some ⟨b, 0, none⟩) n c, .int .i64 k0] w fun e w' => e = .returned (.int .i64 ((k0 + n : Nat) : Int)) ∧ Below w.heap.size w w' := by
  have hM : Mem w [(b, N, G)] w := (Mem.nil w).old hA (fun i p h => by simp at h)
  have Hg := Lib.hid hG
  clear hA hG
  go_enter Tryd.func76, Tryd.ntmps76
  go_wp2
  go_loopw [1, 5] (fun t i wr => ∃ k : Nat, k ≤ n ∧ t = .int .i64 ((k0 + k : Nat) : Int) ∧ i = .int .i64 k ∧ Mem w [(b, N, G)] wr) (fun _ i _ => n - (intOf i).toNat)
  case atStart => exact ⟨0, by omega, by simp, rfl, hM⟩
  case round =>
    clear hM
    obtain ⟨k, hk, rfl, rfl, hM⟩ := hrel
    by_cases hlt : k < n
    · have l2 : (k : Int) < n := by omega
      obtain ⟨mm, hm⟩ : ∃ m : Nat, m = k0 + k := ⟨_, rfl⟩
      obtain ⟨xx, hxx⟩ : ∃ x, IntKind.i16.wrap (mm : Int) = x := ⟨_, rfl⟩
      have g0 : G k = .int .i16 xx := by rw [Hg.out k hlt, ← hxx, hm]; rfl
      have nx : (xx != xx) = false := by simp
      rw [← hm]
      have n1 : IntKind.i64.wrap ((mm : Int) + 1) = (mm : Int) + 1 := IntWalk.i64_in _ (by omega)
      have n2 : IntKind.i64.wrap (mm : Int) = (mm : Int) := IntWalk.i64_in _ (by omega)
      have hl : (mm : Int) + 1 = ((k0 + (k + 1) : Nat) : Int) := by omega
      have Hl := Lib.hid hl
      clear hm hl
      go_wp2_with (first | (refine wpList_get1 rfl _ _ rfl _ _ rfl hM 0 rfl (cellTab _ rfl) (by omega) _ g0 ?_))
      go_roundw
      case rel => exact ⟨k + 1, by omega, by first | exact congrArg (Value.int .i64) Hl.out | rfl, by go_num, hM⟩
      case measure => simp [intOf]; omega
    · obtain rfl : k = n := by omega
      go_wp2
      go_ret
      exact ⟨rfl, hM.below⟩
end Go.Proofs.YthodkbmenndnoaaDoor

/-
  laws.eqUint16S, markUint16S, heldUint16S over lists that hold room behind their end.
-/
namespace Go.Proofs.YthodkbmenndnoaaDoor
open Go Go.RowKit Go.BigFrame Go.ChangeShapes Go.WideShapes Go.Deep

theorem eqUint16S_zero (a a' : Option Addr) (c c' : Nat) (w : World) : Calls Tryd.prog 61 #[.slice a 0 c, .slice a' 0 c'] w fun e w' => e = .returned (.bool true) ∧ Below w.heap.size w w' := by
  go_enter Tryd.func61, Tryd.ntmps61
  go_wp2
  refine wp_loop_rounds 1 ?_
  rw [rounds_succ]
  go_wp2
  go_ret
  exact ⟨rfl, Below.refl _ _⟩
theorem markUint16S_zero (a : Option Addr) (c : Nat) (k : Int) (w : World) : Calls Tryd.prog 69 #[.slice a 0 c, .int .i64 k] w fun e w' => e = .returned (.int .i64 k) ∧ Below w.heap.size w w' := by
  go_enter Tryd.func69, Tryd.ntmps69
  go_wp2
  refine wp_loop_rounds 1 ?_
  rw [rounds_succ]
  go_wp2
  go_ret
  exact ⟨rfl, Below.refl _ _⟩
theorem heldUint16S_zero (a : Option Addr) (c : Nat) (k : Int) (w : World) : Calls Tryd.prog 77 #[.slice a 0 c, .int .i64 k] w fun e w' => e = .returned (.int .i64 k) ∧ Below w.heap.size w w' := by
  go_enter Tryd.func77, Tryd.ntmps77
  go_wp2
  refine wp_loop_rounds 1 ?_
  rw [rounds_succ]
  go_wp2
  go_ret
  exact ⟨rfl, Below.refl _ _⟩

set_option maxRecDepth 100000 in
set_option maxHeartbeats 1000000 in
/-- eqUint16S of two lists that hold the same. -/
theorem eqUint16S_list (b b' n c c' N N' : Nat) (F F' : Nat → Value) (ys : Nat → Int) (hF : ∀ j, j < n → F j = vUint16S ys j) (hF' : ∀ j, j < n → F' j = vUint16S ys j) (hN : n ≤ N) (hN' : n ≤ N') (hn : n ≤ 1048576) (w : World) (hA : At w b N F) (hA' : At w b' N' F') (hne : b ≠ b') :
    Calls Tryd.prog 61 #[.slice (some ⟨b, 0, none⟩) n c, .slice (some ⟨b', 0, none⟩) n c'] w fun e w' => e = .returned (.bool true) ∧ Below w.heap.size w w' := by
  have hM : Mem w [(b, N, F), (b', N', F')] w := ((Mem.nil w).old hA (fun i p h => by simp at h)).old hA' (fun i p h => by
    match i, h with
    | 0, h => simp at h; rw [← h]; exact hne
    | _ + 1, h => simp at h)
  have Hf := Lib.hid hF
  have Hf' := Lib.hid hF'
  clear hA hA' hF hF'
  go_enter Tryd.func61, Tryd.ntmps61
  go_wp2
  go_loopw [5] (fun i wr => ∃ k : Nat, k ≤ n ∧ i = .int .i64 k ∧ Mem w [(b, N, F), (b', N', F')] wr) (fun i _ => n - (intOf i).toNat)
  case atStart => exact ⟨0, by omega, rfl, hM⟩
  case round =>
    clear hM
    obtain ⟨k, hk, rfl, hM⟩ := hrel
    by_cases hlt : k < n
    · have l2 : (k : Int) < n := by omega
      have c1 : F k = .int .u16 (ys k) := Hf.out k hlt
      have c2 : F' k = .int .u16 (ys k) := Hf'.out k hlt
      have hb : (ys k != ys k) = false := by simp
      go_wp2
      ((try simp only [Act.put, List.setIfInBounds_toArray, List.set_cons_succ, List.set_cons_zero]); refine wp_region_mem (by kernel_rfl) (by kernel_rfl) hM ?_; clear hM; (repeat (first | go_big_quiet_skip | (go_big_quiet_want; first | (refine quiet_get1 _ _ rfl _ _ rfl 1 rfl cellUint16S (by omega) _ c2 ?_; (simp only [Act.put, List.setIfInBounds_toArray, List.set_cons_succ, List.set_cons_zero]); go_big_quiet_on) | (refine quiet_get1 _ _ rfl _ _ rfl 0 rfl cellUint16S (by omega) _ c1 ?_; (simp only [Act.put, List.setIfInBounds_toArray, List.set_cons_succ, List.set_cons_zero]); go_big_quiet_on) | (refine quiet_val ?_; apply Exists.intro; refine ⟨fun W => ?_, ?_⟩; (go_simp; (try simp only [l2, hb, if_true, Bool.false_eq_true, if_false]); rfl); (simp only [Act.put, List.setIfInBounds_toArray, List.set_cons_succ, List.set_cons_zero]); go_big_quiet_on)))); (with_reducible refine wpQuiet_nil ?_); intro W' hM)
      go_wp2
      go_roundw
      case rel => exact ⟨k + 1, by omega, by go_num, hM⟩
      case measure => simp [intOf]; omega
    · obtain rfl : k = n := by omega
      go_wp2
      go_ret
      exact ⟨rfl, hM.below⟩

/-- The mark j, as a cell. -/
def mkUint16 (j : Nat) : Value := .int .u16 (IntKind.u16.wrap (j : Int))
set_option maxRecDepth 100000 in
set_option maxHeartbeats 1000000 in
/-- markUint16S writes its marks into the list. -/
theorem markUint16S_list (b0 : Base) (K : Blocks) (b n c N k0 : Nat) (F : Nat → Value) (hN : n ≤ N) (hn : n ≤ 1048576) (hk0 : k0 ≤ 100000000) (hb : b0.B ≤ b) (w : World) (hM0 : Mem b0 ((b, N, F) :: K) w) :
    Calls Tryd.prog 69 #[.slice (some ⟨b, 0, none⟩) n c, .int .i64 k0] w fun e w' => e = .returned (.int .i64 ((k0 + n : Nat) : Int)) ∧ ∃ G, (∀ j, j < n → G j = mkUint16 (k0 + j)) ∧ Mem b0 ((b, N, G) :: K) w' := by
  have hM := hM0
  clear hM0
  go_enter Tryd.func69, Tryd.ntmps69
  go_wp2
  go_loopw [1, 5] (fun t i wr => ∃ k : Nat, k ≤ n ∧ t = .int .i64 ((k0 + k : Nat) : Int) ∧ i = .int .i64 k ∧ ∃ G, Hid (∀ j, j < k → G j = mkUint16 (k0 + j)) ∧ Mem b0 ((b, N, G) :: K) wr) (fun _ i _ => n - (intOf i).toNat)
  case atStart => exact ⟨0, by omega, by simp, rfl, F, Lib.hid (fun j hj => absurd hj (by omega)), hM⟩
  case round =>
    clear hM
    obtain ⟨k, hk, rfl, rfl, G, hG, hM⟩ := hrel
    by_cases hlt : k < n
    · have l2 : (k : Int) < n := by omega
      obtain ⟨mm, hm⟩ : ∃ m : Nat, m = k0 + k := ⟨_, rfl⟩
      rw [← hm]
      have n1 : IntKind.i64.wrap ((mm : Int) + 1) = (mm : Int) + 1 := IntWalk.i64_in _ (by omega)
      have n2 : IntKind.i64.wrap (mm : Int) = (mm : Int) := IntWalk.i64_in _ (by omega)
      have hl : (mm : Int) + 1 = ((k0 + (k + 1) : Nat) : Int) := by omega
      obtain ⟨xx, hxx⟩ : ∃ x, IntKind.u16.wrap (mm : Int) = x := ⟨_, rfl⟩
      have Hxx := Lib.hid hxx
      have Hl := Lib.hid hl
      have Hm := Lib.hid hm
      clear hm hl
      go_wp2_with (first | (refine wpList_set1 rfl _ _ _ rfl _ _ rfl _ rfl ?_ hM 0 rfl (by assumption) (cellTab _ rfl) (by omega) ?_; (first | rfl | exact h1 _); intro W' hM'; clear hM; have hM := hM'; clear hM'; simp [List.set, Act.eval] at hM))
      go_roundw
      case rel => exact ⟨k + 1, by omega, by first | exact congrArg (Value.int .i64) Hl.out | rfl, by go_num, _, Lib.hid (fun j hj => by
        simp only [upd]
        by_cases e0 : j = k
        · rw [if_pos e0, e0, ← Hm.out]; exact congrArg (Value.int .u16) Hxx.out.symm
        · rw [if_neg e0]; exact hG.out j (by omega)), hM⟩
      case measure => simp [intOf]; omega
    · obtain rfl : k = n := by omega
      go_wp2
      go_ret
      exact ⟨rfl, G, hG.out, hM⟩

set_option maxRecDepth 100000 in
set_option maxHeartbeats 1000000 in
/-- heldUint16S finds the marks. -/
theorem heldUint16S_list (b n c N k0 : Nat) (G : Nat → Value) (hN : n ≤ N) (hn : n ≤ 1048576) (hk0 : k0 ≤ 100000000) (hG : ∀ j, j < n → G j = mkUint16 (k0 + j)) (w : World) (hA : At w b N G) :
    Calls Tryd.prog 77 #[.slice (some ⟨b, 0, none⟩) n c, .int .i64 k0] w fun e w' => e = .returned (.int .i64 ((k0 + n : Nat) : Int)) ∧ Below w.heap.size w w' := by
  have hM : Mem w [(b, N, G)] w := (Mem.nil w).old hA (fun i p h => by simp at h)
  have Hg := Lib.hid hG
  clear hA hG
  go_enter Tryd.func77, Tryd.ntmps77
  go_wp2
  go_loopw [1, 5] (fun t i wr => ∃ k : Nat, k ≤ n ∧ t = .int .i64 ((k0 + k : Nat) : Int) ∧ i = .int .i64 k ∧ Mem w [(b, N, G)] wr) (fun _ i _ => n - (intOf i).toNat)
  case atStart => exact ⟨0, by omega, by simp, rfl, hM⟩
  case round =>
    clear hM
    obtain ⟨k, hk, rfl, rfl, hM⟩ := hrel
    by_cases hlt : k < n
    · have l2 : (k : Int) < n := by omega
      obtain ⟨mm, hm⟩ : ∃ m : Nat, m = k0 + k := ⟨_, rfl⟩
      obtain ⟨xx, hxx⟩ : ∃ x, IntKind.u16.wrap (mm : Int) = x := ⟨_, rfl⟩
      have g0 : G k = .int .u16 xx := by rw [Hg.out k hlt, ← hxx, hm]; rfl
      have nx : (xx != xx) = false := by simp
      rw [← hm]
      have n1 : IntKind.i64.wrap ((mm : Int) + 1) = (mm : Int) + 1 := IntWalk.i64_in _ (by omega)
      have n2 : IntKind.i64.wrap (mm : Int) = (mm : Int) := IntWalk.i64_in _ (by omega)
      have hl : (mm : Int) + 1 = ((k0 + (k + 1) : Nat) : Int) := by omega
      have Hl := Lib.hid hl
      clear hm hl
      go_wp2_with (first | (refine wpList_get1 rfl _ _ rfl _ _ rfl hM 0 rfl (cellTab _ rfl) (by omega) _ g0 ?_))
      go_roundw
      case rel => exact ⟨k + 1, by omega, by first | exact congrArg (Value.int .i64) Hl.out | rfl, by go_num, hM⟩
      case measure => simp [intOf]; omega
    · obtain rfl : k = n := by omega
      go_wp2
      go_ret
      exact ⟨rfl, hM.below⟩
end Go.Proofs.YthodkbmenndnoaaDoor

/-
  laws.markHerd, heldHerd over herds whose lists hold room.
-/
namespace Go.Proofs.YthodkbmenndnoaaDoor
open Go Go.RowKit Go.BigFrame

set_option maxRecDepth 100000 in
set_option maxHeartbeats 1000000 in
theorem markHerd_any (b0 : Base) (K : Blocks) (e1 e2 e3 n1 n2 n3 c1 c2 c3 N1 N2 N3 k0 : Nat) (F1 F2 F3 hv : Nat → Value) (a1 : hv 0 = .slice (some ⟨e1, 0, none⟩) n1 c1) (a2 : hv 1 = .slice (some ⟨e2, 0, none⟩) n2 c2) (a3 : hv 2 = .slice (some ⟨e3, 0, none⟩) n3 c3)
    (hN1 : n1 ≤ N1) (hN2 : n2 ≤ N2) (hN3 : n3 ≤ N3) (hn1 : n1 ≤ 1048576) (hn2 : n2 ≤ 1048576) (hn3 : n3 ≤ 1048576) (hk0 : k0 ≤ 50000000) (h1 : b0.B ≤ e1) (h2 : b0.B ≤ e2) (h3 : b0.B ≤ e3) (w : World) (hM0 : Mem b0 ((e1, N1, F1) :: (e2, N2, F2) :: (e3, N3, F3) :: K) w) :
    Calls Tryd.prog 23 #[.agg (arr 3 hv), .int .i64 k0] w fun e w' => e = .returned (.int .i64 ((k0 + n1 + n2 + n3 : Nat) : Int)) ∧ ∃ G1 G2 G3, (∀ j, j < n1 → G1 j = mkString (k0 + j)) ∧ (∀ j, j < n2 → G2 j = mkInt16 (k0 + n1 + j)) ∧ (∀ j, j < n3 → G3 j = mkUint16 (k0 + n1 + n2 + j)) ∧ Mem b0 ((e1, N1, G1) :: (e2, N2, G2) :: (e3, N3, G3) :: K) w' := by
  have hM := hM0
  clear hM0
  obtain ⟨k1, hk1⟩ : ∃ q : Nat, q = k0 + n1 := ⟨_, rfl⟩
  obtain ⟨k2, hk2⟩ : ∃ q : Nat, q = k1 + n2 := ⟨_, rfl⟩
  obtain ⟨k3, hk3⟩ : ∃ q : Nat, q = k2 + n3 := ⟨_, rfl⟩
  rw [← hk1, ← hk2, ← hk3]
  have b1 : k1 ≤ 100000000 := by omega
  have b2 : k2 ≤ 100000000 := by omega
  have b00 : k0 ≤ 100000000 := by omega
  have HK1 := Lib.hid hk1
  have HK2 := Lib.hid hk2
  have HK3 := Lib.hid hk3
  clear hk1 hk2 hk3
  have tk_x1 : True := trivial; have tk_m1 : True := trivial; have tk_m2 : True := trivial; have tk_m3 : True := trivial
  go_enter Tryd.func23, Tryd.ntmps23
  go_wp2_with (first | (have _t := tk_x1; refine wpList_box rfl _ _ rfl _ _ rfl hM ?_; intro x1 W' hx1 hM'; clear hM tk_x1; have hM := hM'; clear hM') | (refine wpList_get1 rfl _ _ rfl _ _ rfl hM 0 rfl (cellTab _ rfl) (by omega) _ a1 ?_) | (refine wpList_get1 rfl _ _ rfl _ _ rfl hM 1 rfl (cellTab _ rfl) (by omega) _ a2 ?_) | (refine wpList_get1 rfl _ _ rfl _ _ rfl hM 2 rfl (cellTab _ rfl) (by omega) _ a3 ?_) | (have _t := tk_m1; go_at_call 67; have hMf := hM.toFront 1 rfl; simp only [List.eraseIdx_cons_succ, List.eraseIdx_cons_zero] at hMf; refine (markStringS_list b0 _ e1 n1 c1 N1 k0 F1 hN1 hn1 b00 h1 _ hMf).mono ?_; clear hMf; rintro e W' ⟨rfl, G1, hG1, hM'⟩; rw [← HK1.out]; have HG1 := Lib.hid hG1; clear hM hG1 tk_m1; have hM := hM'; clear hM') | (have _t := tk_m2; go_at_call 68; have hMf := hM.toFront 2 rfl; simp only [List.eraseIdx_cons_succ, List.eraseIdx_cons_zero] at hMf; refine (markInt16S_list b0 _ e2 n2 c2 N2 k1 F2 hN2 hn2 b1 h2 _ hMf).mono ?_; clear hMf; rintro e W' ⟨rfl, G2, hG2, hM'⟩; rw [← HK2.out]; have HG2 := Lib.hid hG2; clear hM hG2 tk_m2; have hM := hM'; clear hM') | (have _t := tk_m3; go_at_call 69; have hMf := hM.toFront 3 rfl; simp only [List.eraseIdx_cons_succ, List.eraseIdx_cons_zero] at hMf; refine (markUint16S_list b0 _ e3 n3 c3 N3 k2 F3 hN3 hn3 b2 h3 _ hMf).mono ?_; clear hMf; rintro e W' ⟨rfl, G3, hG3, hM'⟩; rw [← HK3.out]; have HG3 := Lib.hid hG3; clear hM hG3 tk_m3; have hM := hM'; clear hM'))
  have hA := hM.toFront 3 rfl
  simp only [List.eraseIdx_cons_succ, List.eraseIdx_cons_zero] at hA
  have hB := hA.drop.toFront 1 rfl
  simp only [List.eraseIdx_cons_succ, List.eraseIdx_cons_zero] at hB
  have hC := hB.toFront 2 rfl
  simp only [List.eraseIdx_cons_succ, List.eraseIdx_cons_zero] at hC
  go_ret
  exact ⟨rfl, G1, G2, G3, HG1.out, HG2.out, HG3.out, hC⟩

set_option maxRecDepth 100000 in
set_option maxHeartbeats 1000000 in
theorem heldHerd_any (e1 e2 e3 n1 n2 n3 c1 c2 c3 N1 N2 N3 k0 : Nat) (G1 G2 G3 hv : Nat → Value) (a1 : hv 0 = .slice (some ⟨e1, 0, none⟩) n1 c1) (a2 : hv 1 = .slice (some ⟨e2, 0, none⟩) n2 c2) (a3 : hv 2 = .slice (some ⟨e3, 0, none⟩) n3 c3)
    (hN1 : n1 ≤ N1) (hN2 : n2 ≤ N2) (hN3 : n3 ≤ N3) (hn1 : n1 ≤ 1048576) (hn2 : n2 ≤ 1048576) (hn3 : n3 ≤ 1048576) (hk0 : k0 ≤ 50000000)
    (g1 : ∀ j, j < n1 → G1 j = mkString (k0 + j)) (g2 : ∀ j, j < n2 → G2 j = mkInt16 (k0 + n1 + j)) (g3 : ∀ j, j < n3 → G3 j = mkUint16 (k0 + n1 + n2 + j)) (w : World) (A1 : At w e1 N1 G1) (A2 : At w e2 N2 G2) (A3 : At w e3 N3 G3) :
    Calls Tryd.prog 30 #[.agg (arr 3 hv), .int .i64 k0] w fun e w' => e = .returned (.int .i64 ((k0 + n1 + n2 + n3 : Nat) : Int)) ∧ Below w.heap.size w w' := by
  have hM := Mem.nil w
  obtain ⟨k1, hk1⟩ : ∃ q : Nat, q = k0 + n1 := ⟨_, rfl⟩
  obtain ⟨k2, hk2⟩ : ∃ q : Nat, q = k1 + n2 := ⟨_, rfl⟩
  obtain ⟨k3, hk3⟩ : ∃ q : Nat, q = k2 + n3 := ⟨_, rfl⟩
  rw [← hk1] at g2 g3
  rw [← hk2] at g3
  rw [← hk1, ← hk2, ← hk3]
  have b1 : k1 ≤ 100000000 := by omega
  have b2 : k2 ≤ 100000000 := by omega
  have b00 : k0 ≤ 100000000 := by omega
  have hd1 : decide ((k1 : Int) < 0) = false := decide_eq_false (by omega)
  have hn1' : ¬ (k1 : Int) < 0 := by omega
  have hd2 : decide ((k2 : Int) < 0) = false := decide_eq_false (by omega)
  have hn2' : ¬ (k2 : Int) < 0 := by omega
  have hd3 : decide ((k3 : Int) < 0) = false := decide_eq_false (by omega)
  have hn3' : ¬ (k3 : Int) < 0 := by omega
  have HK1 := Lib.hid hk1
  have HK2 := Lib.hid hk2
  have HK3 := Lib.hid hk3
  have HG1 := Lib.hid g1
  have HG2 := Lib.hid g2
  have HG3 := Lib.hid g3
  have HA1 := Lib.hid A1
  have HA2 := Lib.hid A2
  have HA3 := Lib.hid A3
  clear hk1 hk2 hk3 g1 g2 g3 A1 A2 A3
  have tk_x1 : True := trivial; have tk_m1 : True := trivial; have tk_m2 : True := trivial; have tk_m3 : True := trivial
  go_enter Tryd.func30, Tryd.ntmps30
  go_wp2_with (first | (have _t := tk_x1; refine wpList_box rfl _ _ rfl _ _ rfl hM ?_; intro x1 W' hx1 hM'; clear hM tk_x1; have hM := hM'; clear hM') | (refine wpList_get1 rfl _ _ rfl _ _ rfl hM 0 rfl (cellTab _ rfl) (by omega) _ a1 ?_) | (refine wpList_get1 rfl _ _ rfl _ _ rfl hM 0 rfl (cellTab _ rfl) (by omega) _ a2 ?_) | (refine wpList_get1 rfl _ _ rfl _ _ rfl hM 0 rfl (cellTab _ rfl) (by omega) _ a3 ?_) | (have _t := tk_m1; go_at_call 75; refine (heldStringS_list e1 n1 c1 N1 k0 G1 hN1 hn1 b00 HG1.out _ (HA1.out.below hM.below HA1.out.lt)).mono ?_; rintro e W' ⟨rfl, hb'⟩; rw [← HK1.out]; have hM' := hM.call hb'; clear hM hb' tk_m1; have hM := hM'; clear hM') | (have _t := tk_m2; go_at_call 76; refine (heldInt16S_list e2 n2 c2 N2 k1 G2 hN2 hn2 b1 HG2.out _ (HA2.out.below hM.below HA2.out.lt)).mono ?_; rintro e W' ⟨rfl, hb'⟩; rw [← HK2.out]; have hM' := hM.call hb'; clear hM hb' tk_m2; have hM := hM'; clear hM') | (have _t := tk_m3; go_at_call 77; refine (heldUint16S_list e3 n3 c3 N3 k2 G3 hN3 hn3 b2 HG3.out _ (HA3.out.below hM.below HA3.out.lt)).mono ?_; rintro e W' ⟨rfl, hb'⟩; rw [← HK3.out]; have hM' := hM.call hb'; clear hM hb' tk_m3; have hM := hM'; clear hM'))
  go_ret
  exact ⟨rfl, hM.below⟩
end Go.Proofs.YthodkbmenndnoaaDoor

