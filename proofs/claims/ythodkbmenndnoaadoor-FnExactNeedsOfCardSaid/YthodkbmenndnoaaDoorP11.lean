/-
  Several texts in one: ChkC, NeedsI, MarkText, StringSL, Int16SL.
-/
import Derived.Test.YthodkbmenndnoaaDoorP10
import Derived.Test.YthodkbmenndnoaaDoorP2
import Derived.Test.YthodkbmenndnoaaDoorP4
import Derived.Laws.IdiomStrings
/-
  CheckGroups by contracts, both sides.
-/
namespace Go.Proofs.YthodkbmenndnoaaDoor
open Go Go.RowKit Go.BigFrame

/-- Are groups peaceful? -/
def chkB (d : Hd) (n : Nat) (ys : Nat → Int) : Bool := herdB d && (numsB d n ys && (quarI d ys n n).isNone)
def chkC (d : Hd) : Int := askC d 0 (fun _ => 0)
theorem vInt64S_ints {W : World} {b n : Nat} {ys : Nat → Int} (h : At W b n (vInt64S ys)) : IntsAt W (some ⟨b, 0, none⟩) n ys :=
  .inr ⟨b, n, _, rfl, Nat.le_refl _, fun _ _ => rfl, h⟩
theorem chk_0 {d : Hd} (h : herdB d = true) : chkC d = 0 := by unfold chkC askC; rw [h]; rfl
theorem chk_1 {d : Hd} (h : herdB d = false) : chkC d = 1 := by unfold chkC askC; rw [h]; rfl

set_option maxRecDepth 100000 in
set_option maxHeartbeats 4000000 in
theorem specCheckGroups_any (d : Hd) (b1 b2 b3 : Nat) (hd : FitsH d) (bg n : Nat) (ys : Nat → Int) (hn : n ≤ 1048576) (w : World) (hM0 : Mem w (hdB d b1 b2 b3) w) (hG : At w bg n (vInt64S ys)) :
    Calls Tryd.prog 38 #[.agg (arr 3 (hdV d b1 b2 b3)), .slice (some ⟨bg, 0, none⟩) n n] w fun e w' => e = .returned (boolCode (chkB d n ys) (chkC d)) ∧ Below w.heap.size w w' := by
  have hM : Mem w (hdB d b1 b2 b3 ++ []) w := by rw [List.append_nil]; exact hM0
  have HG := Lib.hid (vInt64S_ints hG)
  have HOK := Lib.hid (fun (bh : Nat) (W : World) hB => l06Ok_any d bh b1 b2 b3 hd W hB)
  have a1 : hdV d b1 b2 b3 0 = .slice (some ⟨b1, 0, none⟩) d.n1 d.n1 := rfl
  have HNU := Lib.hid (fun (bh : Nat) (W : World) hH hI => l06Numbers_any d bh (hdV d b1 b2 b3) b1 d.n1 a1 (some ⟨bg, 0, none⟩) n n ys hn W hH hI)
  clear hM0 hG
  cases hv : herdB d
  · have HV := Lib.hid hv
    have HR := Lib.hid (show boolCode (chkB d n ys) (chkC d) = .tuple #[.bool false, .int .i64 1] from by unfold chkB; rw [chk_1 hv, hv]; rfl)
    clear hv
    have tk_x1 : True := trivial
    go_enter Tryd.func38, Tryd.ntmps38
    go_wp2_with (first | (have _t := tk_x1; refine wpList_box rfl _ _ rfl _ _ rfl hM ?_; intro x1 W' hx1 hM'; clear hM tk_x1; have hM := hM'; clear hM') | (go_at_call 51; refine (HOK.out x1 _ (hM.boxed)).mono ?_; rintro e W' ⟨rfl, hb'⟩; rw [HV.out]; have hM' := hM.call hb'; clear hM hb'; have hM := hM'; clear hM'))
    go_ret2
    rw [HR.out]
    exact ⟨rfl, hM.below⟩
  have HV := Lib.hid hv
  have hOk := herdB_iff.1 hv
  cases hb : numsB d n ys
  · have HB := Lib.hid hb
    have HR := Lib.hid (show boolCode (chkB d n ys) (chkC d) = .tuple #[.bool false, .int .i64 0] from by unfold chkB; rw [chk_0 hv, hb, hv]; rfl)
    clear hv hb
    have tk_x1 : True := trivial
    go_enter Tryd.func38, Tryd.ntmps38
    go_wp2_with (first | (have _t := tk_x1; refine wpList_box rfl _ _ rfl _ _ rfl hM ?_; intro x1 W' hx1 hM'; clear hM tk_x1; have hM := hM'; clear hM') | (go_at_call 51; refine (HOK.out x1 _ (hM.boxed)).mono ?_; rintro e W' ⟨rfl, hb'⟩; rw [HV.out]; have hM' := hM.call hb'; clear hM hb'; have hM := hM'; clear hM') | (go_at_call 90; refine (HNU.out x1 _ (hM.ats 0 _ _ _ rfl) (HG.out.below hM.below)).mono ?_; rintro e W' ⟨rfl, hb'⟩; rw [HB.out]; have hM' := hM.call hb'; clear hM hb'; have hM := hM'; clear hM'))
    go_ret2
    rw [HR.out]
    exact ⟨rfl, hM.below⟩
  have HB := Lib.hid hb
  obtain ⟨hnn, -⟩ := numsB_iff.1 hb
  subst hnn
  have HQU := Lib.hid (fun (bh : Nat) (W : World) hB hI => l06Quarrel_any d bh b1 b2 b3 hd hOk.n hOk.l3 (some ⟨bg, 0, none⟩) d.n1 ys W hB hI)
  have HR := Lib.hid (show boolCode (chkB d d.n1 ys) (chkC d) = .tuple #[.bool (quarI d ys d.n1 d.n1).isNone, .int .i64 0] from by unfold chkB; rw [chk_0 hv, hb, hv]; rfl)
  clear hv hb hOk
  obtain ⟨n, hn'⟩ : ∃ n, d.n1 = n := ⟨_, rfl⟩
  rw [hn'] at HB HQU HR HG HNU ⊢
  rcases hq : quarI d ys n n with - | ⟨i, k⟩
  · have HP := Lib.hid (show qPair (quarI d ys n n) = .tuple #[.int .i64 (-1), .int .i64 (-1)] from by rw [hq]; rfl)
    have HS := Lib.hid (show (quarI d ys n n).isNone = true from by rw [hq]; rfl)
    clear hq
    have tk_x1 : True := trivial
    go_enter Tryd.func38, Tryd.ntmps38
    go_wp2_with (first | (have _t := tk_x1; refine wpList_box rfl _ _ rfl _ _ rfl hM ?_; intro x1 W' hx1 hM'; clear hM tk_x1; have hM := hM'; clear hM') | (go_at_call 51; refine (HOK.out x1 _ (hM.boxed)).mono ?_; rintro e W' ⟨rfl, hb'⟩; rw [HV.out]; have hM' := hM.call hb'; clear hM hb'; have hM := hM'; clear hM') | (go_at_call 90; refine (HNU.out x1 _ (hM.ats 0 _ _ _ rfl) (HG.out.below hM.below)).mono ?_; rintro e W' ⟨rfl, hb'⟩; rw [HB.out]; have hM' := hM.call hb'; clear hM hb'; have hM := hM'; clear hM') | (go_at_call 91; refine (HQU.out x1 _ (hM.boxed) (HG.out.below hM.below)).mono ?_; rintro e W' ⟨rfl, hb'⟩; rw [HP.out]; have hM' := hM.call hb'; clear hM hb'; have hM := hM'; clear hM'))
    go_ret2
    rw [HR.out, HS.out]
    exact ⟨rfl, hM.below⟩
  · have HP := Lib.hid (show qPair (quarI d ys n n) = .tuple #[.int .i64 (i : Int), .int .i64 (k : Int)] from by rw [hq]; rfl)
    have HS := Lib.hid (show (quarI d ys n n).isNone = false from by rw [hq]; rfl)
    have z1 : decide ((i : Int) < 0) = false := decide_eq_false (by omega)
    have z2 : ¬ (i : Int) < 0 := by omega
    clear hq
    have tk_x1 : True := trivial
    go_enter Tryd.func38, Tryd.ntmps38
    go_wp2_with (first | (have _t := tk_x1; refine wpList_box rfl _ _ rfl _ _ rfl hM ?_; intro x1 W' hx1 hM'; clear hM tk_x1; have hM := hM'; clear hM') | (go_at_call 51; refine (HOK.out x1 _ (hM.boxed)).mono ?_; rintro e W' ⟨rfl, hb'⟩; rw [HV.out]; have hM' := hM.call hb'; clear hM hb'; have hM := hM'; clear hM') | (go_at_call 90; refine (HNU.out x1 _ (hM.ats 0 _ _ _ rfl) (HG.out.below hM.below)).mono ?_; rintro e W' ⟨rfl, hb'⟩; rw [HB.out]; have hM' := hM.call hb'; clear hM hb'; have hM := hM'; clear hM') | (go_at_call 91; refine (HQU.out x1 _ (hM.boxed) (HG.out.below hM.below)).mono ?_; rintro e W' ⟨rfl, hb'⟩; rw [HP.out]; have hM' := hM.call hb'; clear hM hb'; have hM := hM'; clear hM'))
    go_ret2
    rw [HR.out, HS.out]
    exact ⟨rfl, hM.below⟩

/-- What the check of peace gives, one of three. -/
theorem peaceV_is (a : Nat → Addr) (d : Hd) (n : Nat) (ys : Nat → Int) : ((∃ x y : Int, peaceV a d n ys = .iface 111 (.agg #[.int .i64 x, .int .i64 y])) ∨ peaceV a d n ys = errV (a 2)) ∧ (numsB d n ys && (quarI d ys n n).isNone) = false ∨ peaceV a d n ys = .nilIface ∧ (numsB d n ys && (quarI d ys n n).isNone) = true := by
  unfold peaceV
  cases h : numsB d n ys
  · exact .inl ⟨.inr rfl, rfl⟩
  · rcases h2 : quarI d ys n n with - | ⟨i, k⟩
    · exact .inr ⟨rfl, rfl⟩
    · exact .inl ⟨.inl ⟨_, _, rfl⟩, rfl⟩

set_option maxRecDepth 100000 in
set_option maxHeartbeats 4000000 in
theorem implCheckGroups_any {a : Nat → Addr} (d : Hd) (b1 b2 b3 : Nat) (hd : FitsH d) (bg n : Nat) (ys : Nat → Int) (hn : n ≤ 1048576) (w : World) (hM0 : Mem w (hdB d b1 b2 b3) w) (hG : At w bg n (vInt64S ys)) (hE : Errs a w) (hT : Tab w) :
    Calls Tryd.prog 39 #[.agg (arr 3 (hdV d b1 b2 b3)), .slice (some ⟨bg, 0, none⟩) n n] w fun e w' => e = .returned (boolCode (chkB d n ys) (chkC d)) ∧ Below w.heap.size w w' := by
  have hM := Mem.nil w
  have H0 := Lib.hid hM0
  have HG := Lib.hid (vInt64S_ints hG)
  have HE := Lib.hid hE
  have HT := Lib.hid hT
  clear hM0 hE hT hG
  cases hv : herdB d
  · have HR := Lib.hid (show boolCode (chkB d n ys) (chkC d) = .tuple #[.bool false, .int .i64 (chkC d)] from by unfold chkB; rw [hv]; rfl)
    have hz : askC d 0 (fun _ => 0) ≠ 0 := show chkC d ≠ 0 from by rw [chk_1 hv]; decide
    have hFW := fun (W : World) hB hE hT => flockWith_bad (a := a) d b1 b2 b3 hd none 0 0 (fun _ => 0) (by omega) W hB hE hT (.inl rfl) hz
    rw [HR.out]
    unfold chkC
    clear hv HR
    obtain ⟨hv, hhv⟩ : ∃ f, hdV d b1 b2 b3 = f := ⟨_, rfl⟩
    rw [hhv] at hFW ⊢
    generalize askC d 0 (fun _ => 0) = C at *
    have HFW := Lib.hid hFW
    clear hhv hFW
    have tk_x1 : True := trivial; have tk_r1 : True := trivial; have tk_f8 : True := trivial; have tk_s1 : True := trivial
    go_enter Tryd.func39, Tryd.ntmps39
    go_wp2_with (first | (have _t := tk_x1; refine wpList_box rfl _ _ rfl _ _ rfl hM ?_; intro x1 W' hx1 hM'; clear hM tk_x1; have hM := hM'; clear hM') | (have _t := tk_r1; refine wpList_get rfl _ _ rfl _ _ rfl hM 0 rfl (rowTab _ _ rfl) (by omega) ?_; simp only [Nat.zero_add]; clear tk_r1) | (go_at_call 64; refine (HFW.out _ ((H0.out.call hM.below).base (Below.refl _ _)) (HE.out.below hM.below) (HT.out.below hM.below)).mono ?_; rintro e Wf ⟨ff, ev, rfl, hone, hEv, hb'⟩; have hM' := hM.call hb'; have hN := hEv.neq; have hGd := hEv.guard; have HEv := Lib.hid hEv; have HOne := Lib.hid hone; clear hM hb' hEv hone; have hM := hM'; clear hM') | (have _t := tk_f8; refine wpList_zero rfl _ rfl (zeroTab _ _ _ rfl) hM ?_; intro f8 W' hf8 hM'; clear hM tk_f8; have hM := hM'; clear hM') | (have _t := tk_s1; refine wpList_lay rfl _ _ _ rfl _ _ rfl _ _ rfl hM 0 rfl (by assumption) (rowTab _ _ rfl) (by omega) HOne.out ?_; intro W' hM'; clear hM tk_s1; have hM := hM'; clear hM'; simp only [List.set] at hM) | (go_at_call 65; refine (HEv.out.code (HE.out.below hM.below)).mono ?_; rintro e W' ⟨rfl, rfl⟩))
    go_ret2
    exact ⟨rfl, hM.below⟩
  have hOk := herdB_iff.1 hv
  have h14 := hOk.n
  have hB : chkB d n ys = (numsB d n ys && (quarI d ys n n).isNone) := by unfold chkB; rw [hv]; rfl
  rw [hB, chk_0 hv]
  have hFW := fun (W : World) hB hE => flockWith_ok (r := a 1) d b1 b2 b3 hd none 0 0 (fun _ => 0) (by omega) W hB hE (.inl rfl) hOk (fun j h => absurd h (by omega))
  have hPE := fun (ma : Option Addr) (mc : Nat) (W : World) hA hI hE hT => checkPeace_any (a := a) d ma mc hOk (fun i hi => hd.f i (by rw [hOk.l3]; exact hi)) (some ⟨bg, 0, none⟩) n n ys hn W hA hI hE hT
  have hPI := peaceV_is a d n ys
  obtain ⟨hv0, hhv⟩ : ∃ f, hdV d b1 b2 b3 = f := ⟨_, rfl⟩
  rw [hhv] at hFW ⊢
  generalize peaceV a d n ys = PV at hPE hPI
  generalize (numsB d n ys && (quarI d ys n n).isNone) = R at hPI ⊢
  have HFW := Lib.hid hFW
  have HPE := Lib.hid hPE
  obtain ⟨nn, hnn⟩ : ∃ nn, d.n1 = nn := ⟨_, rfl⟩
  rw [hnn] at HFW HPE
  clear hhv hFW hPE hOk hv hB hnn h14
  have fin : ∀ r : Bool, boolCode r 0 = .tuple #[.bool r, .int .i64 0] := fun r => rfl
  rcases hPI with ⟨⟨x, y, rfl⟩ | rfl, rfl⟩ | ⟨rfl, rfl⟩
  all_goals
    rw [fin]
    clear fin
    have tk_x1 : True := trivial; have tk_r1 : True := trivial; have tk_f8 : True := trivial; have tk_s1 : True := trivial
    go_enter Tryd.func39, Tryd.ntmps39
    go_wp2_with (first | (have _t := tk_x1; refine wpList_box rfl _ _ rfl _ _ rfl hM ?_; intro x1 W' hx1 hM'; clear hM tk_x1; have hM := hM'; clear hM') | (have _t := tk_r1; refine wpList_get rfl _ _ rfl _ _ rfl hM 0 rfl (rowTab _ _ rfl) (by omega) ?_; simp only [Nat.zero_add]; clear tk_r1) | (go_at_call 64; refine (HFW.out _ ((H0.out.call hM.below).base (Below.refl _ _)) ⟨(HE.out.below hM.below).vars 1 (by omega), HT.out.below hM.below⟩).mono ?_; rintro e Wf ⟨ma, mc, m, rfl, hmc, hMA, hO, hb'⟩; have hM' := hM.call hb'; have HB0 := Lib.hid hM'.below; have hM2 := hM'.base (w' := Base.of Wf) (Below.refl _ _); have HMA := Lib.hid hMA; clear hM hb' hO hMA hM'; have hM := hM2; clear hM2) | (have _t := tk_f8; refine wpList_zero rfl _ rfl (zeroTab _ _ _ rfl) hM ?_; intro f8 W' hf8 hM'; clear hM tk_f8; have hM := hM'; clear hM') | (have _t := tk_s1; refine wpList_lay rfl _ _ _ rfl _ _ rfl _ _ rfl hM 0 rfl (by assumption) (rowTab _ _ rfl) (by omega) (fun k _ => flkV_one _ _ _ _ k) ?_; intro W' hM'; have hM2 := hM'.re 0 rfl (flkV ma nn mc m) (fun k hk => by simp [lay, hk]); simp only [List.set] at hM2; clear hM hM' tk_s1; have hM := hM2; clear hM2) | (refine wpList_get1 rfl _ _ rfl _ _ rfl hM 0 rfl (cellTab _ rfl) (by omega) (.slice ma nn mc) rfl ?_) | (go_at_call 92; (with_reducible refine (HPE.out ma mc _ (HMA.out.below hM.below) ((HG.out.below HB0.out).below hM.below) ((HE.out.below HB0.out).below hM.below) ((HT.out.below HB0.out).below hM.below)).mono ?_); rintro e W' ⟨rfl, hb'⟩; have hM' := hM.call hb'; clear hM hb'; have hM := hM'; clear hM'))
    go_ret2
    exact ⟨rfl, HB0.out.trans (hM.below.mono HB0.out.size)⟩
end Go.Proofs.YthodkbmenndnoaaDoor

/-
  impl.countGroups by contract; impl.NeedsOf's heart.
-/
namespace Go.Proofs.YthodkbmenndnoaaDoor
open Go Go.RowKit Go.BigFrame

set_option maxRecDepth 100000 in
set_option maxHeartbeats 4000000 in
theorem countGroups_any (n : Nat) (hn : n ≤ 14) (ga : Option Addr) (gc : Nat) (ys : Nat → Int) (hys : ∀ j, j < n → 0 ≤ ys j ∧ ys j ≤ 13) (w : World) (hG : IntsAt w ga n ys) :
    Calls Tryd.prog 97 #[.slice ga n gc] w fun e w' => e = .returned (.int .i64 (cntG ys n)) ∧ Below w.heap.size w w' := by
  have hM := Mem.nil w
  have HG := Lib.hid hG
  have HYS := Lib.hid hys
  obtain ⟨G, hGG⟩ : ∃ G, cntG ys n = G := ⟨_, rfl⟩
  have HGG := Lib.hid hGG
  rw [hGG]
  clear hG hys hGG
  go_enter Tryd.func97, Tryd.ntmps97
  go_wp2
  go_loopw [3, 8] (fun m i wr => ∃ k : Nat, k ≤ n ∧ i = .int .i64 k ∧ m = .int .i64 (cntG ys k) ∧ Mem w [] wr) (fun _ i _ => n - (intOf i).toNat)
  case atStart => exact ⟨0, by omega, rfl, rfl, hM⟩
  case round =>
    clear hM
    obtain ⟨k, hk, rfl, rfl, hM⟩ := hrel
    by_cases hlt : k < n
    · have l2 : (k : Int) < n := by omega
      obtain ⟨bg, Ng, Fg, rfl, hNg, hFg, hAg⟩ := HG.out.at hlt
      have HAg := Lib.hid hAg
      obtain ⟨y, hy⟩ : ∃ y : Nat, ys k = y := ⟨(ys k).toNat, by have := HYS.out k hlt; omega⟩
      have hy14 : y ≤ 13 := by have := HYS.out k hlt; omega
      rw [hy] at hFg
      have HC := Lib.hid (show cntG ys (k + 1) = max (cntG ys k) (y + 1) from by show Nat.max (cntG ys k) ((ys k).toNat + 1) = _; rw [hy]; rfl)
      obtain ⟨c, hc⟩ : ∃ c, cntG ys k = c := ⟨_, rfl⟩
      rw [hc] at HC ⊢
      have cw : IntKind.i64.wrap ((y : Int) + 1) = (y : Int) + 1 := IntWalk.i64_in _ (by omega)
      clear hAg hy hc
      go_wp2_with (first | (refine wpList_getAt1 rfl _ _ rfl _ _ rfl (HAg.out.below hM.below HAg.out.lt) (cellTab _ rfl) (by omega) _ hFg ?_))
      go_roundw
      case rel => exact ⟨k + 1, by omega, by go_num, by rw [HC.out]; congr 1; split <;> omega, hM⟩
      case measure => simp [intOf]; omega
    · obtain rfl : k = n := by omega
      have h := HGG.out
      rw [h]
      go_wp2
      go_ret
      exact ⟨rfl, hM.below⟩
theorem need_0 {d : Hd} {n : Nat} {ys : Nat → Int} (h : needC d n ys = 0) : herdB d = true ∧ numsB d n ys = true := by
  unfold needC at h
  cases h1 : herdB d with
  | false => rw [h1] at h; simp at h
  | true =>
    cases h2 : numsB d n ys with
    | false => rw [h1, h2] at h; simp at h
    | true => exact ⟨rfl, rfl⟩
theorem need_no {d : Hd} {n : Nat} {ys : Nat → Int} (h : needC d n ys ≠ 0) : needL d n ys = 0 := by
  unfold needC at h
  unfold needL
  cases h1 : herdB d with
  | false => rfl
  | true =>
    cases h2 : numsB d n ys with
    | false => rfl
    | true => rw [h1, h2] at h; exact absurd rfl h

set_option maxRecDepth 100000 in
set_option maxHeartbeats 4000000 in
theorem l06Told_any (d : Hd) (bh b1 b2 b3 : Nat) (hd : FitsH d) (ga : Option Addr) (gn gc : Nat) (ys : Nat → Int) (hgn : gn ≤ 1048576) (w : World) (hM0 : Mem w ((bh, 3, hdV d b1 b2 b3) :: hdB d b1 b2 b3) w) (hG : IntsAt w ga gn ys) :
    Calls Tryd.prog 93 #[.pointer (some ⟨bh, 0, none⟩), .slice ga gn gc] w fun e w' => e = .returned (.int .i64 (needC d gn ys)) ∧ Below w.heap.size w w' := by
  have hM := hM0
  have HG := Lib.hid hG
  have HOK := Lib.hid (fun (W : World) hB => l06Ok_any d bh b1 b2 b3 hd W hB)
  have a1 : hdV d b1 b2 b3 0 = .slice (some ⟨b1, 0, none⟩) d.n1 d.n1 := rfl
  have HNU := Lib.hid (fun (W : World) hH hI => l06Numbers_any d bh (hdV d b1 b2 b3) b1 d.n1 a1 ga gn gc ys hgn W hH hI)
  have HH := Lib.hid (hM0.ats 0 _ _ _ rfl)
  have HB := Lib.hid (show ∀ W, Mem w ((bh, 3, hdV d b1 b2 b3) :: hdB d b1 b2 b3) W → Mem W ((bh, 3, hdV d b1 b2 b3) :: hdB d b1 b2 b3) W from fun W h => h.base (Below.refl _ _))
  clear hM0 hG
  cases hv : herdB d
  · have HV := Lib.hid hv
    have HC := Lib.hid (show needC d gn ys = 1 from by unfold needC; rw [hv]; rfl)
    clear hv
    go_enter Tryd.func93, Tryd.ntmps93
    go_wp2_with (first | (go_at_call 51; refine (HOK.out _ (HB.out _ hM)).mono ?_; rintro e W' ⟨rfl, hb'⟩; rw [HV.out]; have hM' := hM.call hb'; clear hM hb'; have hM := hM'; clear hM'))
    go_ret
    rw [HC.out]
    exact ⟨rfl, hM.below⟩
  cases hb : numsB d gn ys
  · have HV := Lib.hid hv
    have HBb := Lib.hid hb
    have HC := Lib.hid (show needC d gn ys = 4 from by unfold needC; rw [hv, hb]; rfl)
    clear hv hb
    go_enter Tryd.func93, Tryd.ntmps93
    go_wp2_with (first | (go_at_call 51; refine (HOK.out _ (HB.out _ hM)).mono ?_; rintro e W' ⟨rfl, hb'⟩; rw [HV.out]; have hM' := hM.call hb'; clear hM hb'; have hM := hM'; clear hM') | (go_at_call 90; refine (HNU.out _ (HH.out.below hM.below HH.out.lt) (HG.out.below hM.below)).mono ?_; rintro e W' ⟨rfl, hb'⟩; rw [HBb.out]; have hM' := hM.call hb'; clear hM hb'; have hM := hM'; clear hM'))
    go_ret
    rw [HC.out]
    exact ⟨rfl, hM.below⟩
  · have HV := Lib.hid hv
    have HBb := Lib.hid hb
    have HC := Lib.hid (show needC d gn ys = 0 from by unfold needC; rw [hv, hb]; rfl)
    clear hv hb
    go_enter Tryd.func93, Tryd.ntmps93
    go_wp2_with (first | (go_at_call 51; refine (HOK.out _ (HB.out _ hM)).mono ?_; rintro e W' ⟨rfl, hb'⟩; rw [HV.out]; have hM' := hM.call hb'; clear hM hb'; have hM := hM'; clear hM') | (go_at_call 90; refine (HNU.out _ (HH.out.below hM.below HH.out.lt) (HG.out.below hM.below)).mono ?_; rintro e W' ⟨rfl, hb'⟩; rw [HBb.out]; have hM' := hM.call hb'; clear hM hb'; have hM := hM'; clear hM'))
    go_ret
    rw [HC.out]
    exact ⟨rfl, hM.below⟩

set_option maxRecDepth 100000 in
set_option maxHeartbeats 4000000 in
theorem implNeedsOf_any {a : Nat → Addr} (d : Hd) (b1 b2 b3 : Nat) (hd : FitsH d) (bg n : Nat) (ys : Nat → Int) (hn : n ≤ 1048576) (w : World) (hM0 : Mem w (hdB d b1 b2 b3) w) (hG : At w bg n (vInt64S ys)) (hE : Errs a w) (hT : Tab w) :
    Calls Tryd.prog 43 #[.agg (arr 3 (hdV d b1 b2 b3)), .slice (some ⟨bg, 0, none⟩) n n] w (GivesR 1 (needL d n ys) (vInt64S (needF d ys n)) (needC d n ys) w) := by
  have hM := Mem.nil w
  have H0 := Lib.hid hM0
  have HG := Lib.hid (vInt64S_ints hG)
  have HE := Lib.hid hE
  have HT := Lib.hid hT
  clear hM0 hE hT hG
  cases hv : herdB d
  · have HR := Lib.hid (show needL d n ys = 0 ∧ needC d n ys = chkC d from ⟨by unfold needL; rw [hv]; rfl, by unfold needC; rw [chk_1 hv, hv]; rfl⟩)
    have hz : askC d 0 (fun _ => 0) ≠ 0 := show chkC d ≠ 0 from by rw [chk_1 hv]; decide
    have hFW := fun (W : World) hB hE hT => flockWith_bad (a := a) d b1 b2 b3 hd none 0 0 (fun _ => 0) (by omega) W hB hE hT (.inl rfl) hz
    rw [HR.out.2]
    unfold chkC
    clear hv
    obtain ⟨hv, hhv⟩ : ∃ f, hdV d b1 b2 b3 = f := ⟨_, rfl⟩
    rw [hhv] at hFW ⊢
    generalize askC d 0 (fun _ => 0) = C at *
    have HFW := Lib.hid hFW
    clear hhv hFW
    have tk_x1 : True := trivial; have tk_r1 : True := trivial; have tk_f8 : True := trivial; have tk_s1 : True := trivial
    go_enter Tryd.func43, Tryd.ntmps43
    go_wp2_with (first | (have _t := tk_x1; refine wpList_box rfl _ _ rfl _ _ rfl hM ?_; intro x1 W' hx1 hM'; clear hM tk_x1; have hM := hM'; clear hM') | (have _t := tk_r1; refine wpList_get rfl _ _ rfl _ _ rfl hM 0 rfl (rowTab _ _ rfl) (by omega) ?_; simp only [Nat.zero_add]; clear tk_r1) | (go_at_call 64; refine (HFW.out _ ((H0.out.call hM.below).base (Below.refl _ _)) (HE.out.below hM.below) (HT.out.below hM.below)).mono ?_; rintro e Wf ⟨ff, ev, rfl, hone, hEv, hb'⟩; have hM' := hM.call hb'; have hN := hEv.neq; have hGd := hEv.guard; have HEv := Lib.hid hEv; have HOne := Lib.hid hone; clear hM hb' hEv hone; have hM := hM'; clear hM') | (have _t := tk_f8; refine wpList_zero rfl _ rfl (zeroTab _ _ _ rfl) hM ?_; intro f8 W' hf8 hM'; clear hM tk_f8; have hM := hM'; clear hM') | (have _t := tk_s1; refine wpList_lay rfl _ _ _ rfl _ _ rfl _ _ rfl hM 0 rfl (by assumption) (rowTab _ _ rfl) (by omega) HOne.out ?_; intro W' hM'; clear hM tk_s1; have hM := hM'; clear hM'; simp only [List.set] at hM) | (go_at_call 65; refine (HEv.out.code (HE.out.below hM.below)).mono ?_; rintro e W' ⟨rfl, rfl⟩))
    go_ret2
    exact GivesR.none hM.below HR.out.1 rfl
  have hOk := herdB_iff.1 hv
  have h14 := hOk.n
  have hFW := fun (W : World) hB hE => flockWith_ok (r := a 1) d b1 b2 b3 hd none 0 0 (fun _ => 0) (by omega) W hB hE (.inl rfl) hOk (fun j h => absurd h (by omega))
  have hCN := fun (ma : Option Addr) (mc : Nat) (R : Value) hR (W : World) hI hE => checkNumbers_any (a := a) d ma mc h14 (some ⟨bg, 0, none⟩) n n ys hn R hR W hI hE
  obtain ⟨hv0, hhv⟩ : ∃ f, hdV d b1 b2 b3 = f := ⟨_, rfl⟩
  rw [hhv] at hFW ⊢
  cases hb : numsB d n ys
  · have HR := Lib.hid (show needL d n ys = 0 ∧ needC d n ys = 4 from ⟨by unfold needL; rw [hv, hb]; rfl, by unfold needC; rw [hv, hb]; rfl⟩)
    have hIf : (if numsB d n ys = true then Value.nilIface else errV (a 2)) = errV (a 2) := by rw [hb]; rfl
    rw [HR.out.2]
    obtain ⟨nn, hnn⟩ : ∃ nn, d.n1 = nn := ⟨_, rfl⟩
    rw [hnn] at hFW hCN
    have HFW := Lib.hid hFW
    have HCN := Lib.hid (fun ma mc W hI hE => hCN ma mc (errV (a 2)) hIf W hI hE)
    clear hhv hFW hOk hv hb hnn hCN hIf h14
    have tk_x1 : True := trivial; have tk_r1 : True := trivial; have tk_f8 : True := trivial; have tk_s1 : True := trivial
    go_enter Tryd.func43, Tryd.ntmps43
    go_wp2_with (first | (have _t := tk_x1; refine wpList_box rfl _ _ rfl _ _ rfl hM ?_; intro x1 W' hx1 hM'; clear hM tk_x1; have hM := hM'; clear hM') | (have _t := tk_r1; refine wpList_get rfl _ _ rfl _ _ rfl hM 0 rfl (rowTab _ _ rfl) (by omega) ?_; simp only [Nat.zero_add]; clear tk_r1) | (go_at_call 64; refine (HFW.out _ ((H0.out.call hM.below).base (Below.refl _ _)) ⟨(HE.out.below hM.below).vars 1 (by omega), HT.out.below hM.below⟩).mono ?_; rintro e Wf ⟨ma, mc, m, rfl, hmc, hMA, hO, hb'⟩; have hM' := hM.call hb'; have HB0 := Lib.hid hM'.below; have hM2 := hM'.base (w' := Base.of Wf) (Below.refl _ _); have HMA := Lib.hid hMA; clear hM hb' hO hMA hM'; have hM := hM2; clear hM2) | (have _t := tk_f8; refine wpList_zero rfl _ rfl (zeroTab _ _ _ rfl) hM ?_; intro f8 W' hf8 hM'; clear hM tk_f8; have hM := hM'; clear hM') | (have _t := tk_s1; refine wpList_lay rfl _ _ _ rfl _ _ rfl _ _ rfl hM 0 rfl (by assumption) (rowTab _ _ rfl) (by omega) (fun k _ => flkV_one _ _ _ _ k) ?_; intro W' hM'; have hM2 := hM'.re 0 rfl (flkV ma nn mc m) (fun k hk => by simp [lay, hk]); simp only [List.set] at hM2; clear hM hM' tk_s1; have hM := hM2; clear hM2) | (refine wpList_get1 rfl _ _ rfl _ _ rfl hM 0 rfl (cellTab _ rfl) (by omega) (.slice ma nn mc) rfl ?_) | (go_at_call 96; (with_reducible refine (HCN.out ma mc _ ((HG.out.below HB0.out).below hM.below) ((HE.out.below HB0.out).below hM.below)).mono ?_); rintro e W' ⟨rfl, hb'⟩; have hM' := hM.call hb'; clear hM hb'; have hM := hM'; clear hM') | (go_at_call 65; refine (codeOf_2 ((HE.out.below HB0.out).below hM.below)).mono ?_; rintro e W' ⟨rfl, rfl⟩))
    go_ret2
    exact GivesR.none (HB0.out.trans (hM.below.mono HB0.out.size)) HR.out.1 rfl
  obtain ⟨hnn, hys⟩ := numsB_iff.1 hb
  subst hnn
  have hIf : (if numsB d d.n1 ys = true then Value.nilIface else errV (a 2)) = .nilIface := by rw [hb]; rfl
  have HR := Lib.hid (show needL d d.n1 ys = cntG ys d.n1 ∧ needC d d.n1 ys = 0 from ⟨by unfold needL; rw [hv, hb]; rfl, by unfold needC; rw [hv, hb]; rfl⟩)
  rw [HR.out.1, HR.out.2]
  have hes : ∀ j, j < d.n1 → -32768 ≤ d.es j ∧ d.es j ≤ 32767 := fun j hj => hd.e j (by rw [hOk.l2]; exact hj)
  obtain ⟨nn, hnn⟩ : ∃ nn, d.n1 = nn := ⟨_, rfl⟩
  rw [hnn] at hFW hCN hys hes HG h14 ⊢
  have HFW := Lib.hid hFW
  have HCN := Lib.hid (fun ma mc W hI hE => hCN ma mc .nilIface (hnn ▸ hIf) W hI hE)
  have HES := Lib.hid hes
  have HYS := Lib.hid hys
  have HCG := Lib.hid (show ∀ j, j < nn → (ys j).toNat < cntG ys nn from fun j hj => cntG_mono hj)
  have HCO := Lib.hid (fun (W : World) hI => countGroups_any nn h14 (some ⟨bg, 0, none⟩) nn ys hys W hI)
  have hG14 := cntG_le hys nn (Nat.le_refl _)
  obtain ⟨G, hGG⟩ : ∃ G, cntG ys nn = G := ⟨_, rfl⟩
  rw [hGG] at hG14 HCG HCO ⊢
  clear hhv hFW hOk hv hb hnn hCN hIf hes hys HR hGG hn
  have tk_x1 : True := trivial; have tk_r1 : True := trivial; have tk_f8 : True := trivial; have tk_s1 : True := trivial; have tk_k1 : True := trivial; have tk_m1 : True := trivial
  go_enter Tryd.func43, Tryd.ntmps43
  go_wp2_with (first | (have _t := tk_x1; refine wpList_box rfl _ _ rfl _ _ rfl hM ?_; intro x1 W' hx1 hM'; clear hM tk_x1; have hM := hM'; clear hM') | (have _t := tk_r1; refine wpList_get rfl _ _ rfl _ _ rfl hM 0 rfl (rowTab _ _ rfl) (by omega) ?_; simp only [Nat.zero_add]; clear tk_r1) | (go_at_call 64; refine (HFW.out _ ((H0.out.call hM.below).base (Below.refl _ _)) ⟨(HE.out.below hM.below).vars 1 (by omega), HT.out.below hM.below⟩).mono ?_; rintro e Wf ⟨ma, mc, m, rfl, hmc, hMA, hO, hb'⟩; have hM' := hM.call hb'; have HB0 := Lib.hid hM'.below; have hM2 := hM'.base (w' := Base.of Wf) (Below.refl _ _); have HMA := Lib.hid hMA; clear hM hb' hO hMA hM'; have hM := hM2; clear hM2) | (have _t := tk_f8; refine wpList_zero rfl _ rfl (zeroTab _ _ _ rfl) hM ?_; intro f8 W' hf8 hM'; clear hM tk_f8; have hM := hM'; clear hM') | (have _t := tk_s1; refine wpList_lay rfl _ _ _ rfl _ _ rfl _ _ rfl hM 0 rfl (by assumption) (rowTab _ _ rfl) (by omega) (fun k _ => flkV_one _ _ _ _ k) ?_; intro W' hM'; have hM2 := hM'.re 0 rfl (flkV ma nn mc m) (fun k hk => by simp [lay, hk]); simp only [List.set] at hM2; clear hM hM' tk_s1; have hM := hM2; clear hM2) | (have _t := tk_k1; refine wpList_get1 rfl _ _ rfl _ _ rfl hM 0 rfl (cellTab _ rfl) (by omega) (.slice ma nn mc) rfl ?_; clear tk_k1) | (go_at_call 96; (with_reducible refine (HCN.out ma mc _ ((HG.out.below HB0.out).below hM.below) ((HE.out.below HB0.out).below hM.below)).mono ?_); rintro e W' ⟨rfl, hb'⟩; have hM' := hM.call hb'; clear hM hb'; have hM := hM'; clear hM') | (go_at_call 97; (with_reducible refine (HCO.out _ ((HG.out.below HB0.out).below hM.below)).mono ?_); rintro e W' ⟨rfl, hb'⟩; have hM' := hM.call hb'; clear hM hb'; have hM := hM'; clear hM') | (have _t := tk_m1; refine wpList_make1 rfl _ _ _ _ rfl G rfl rfl (.int .i64 0) 8 rfl Tryd.underlying33 infoInt64S (by omega) (by omega) hM ?_; intro b W' hb hM'; clear hM tk_m1; have hM := hM'; clear hM'))
  have HF0 : ∀ g, g < G → (fun _ : Nat => Value.int .i64 0) g = needV d ys 0 g := fun g _ => rfl
  have hM2 := hM.re 0 rfl (needV d ys 0) HF0
  simp only [List.set_cons_zero] at hM2
  clear hM HF0
  go_loopw [34] (fun v wr => ∃ j : Nat, j ≤ nn ∧ v = .int .i64 j ∧ Mem (Base.of Wf) ((b, G, needV d ys j) :: (f8, 2, flkV ma nn mc m) :: [(x1, 3, hv0)]) wr) (fun v _ => nn - (intOf v).toNat)
  case atStart => exact ⟨0, by omega, rfl, hM2⟩
  case round =>
    clear hM2
    obtain ⟨j, hj, rfl, hM⟩ := hrel
    by_cases hlt : j < nn
    · have l2 : (j : Int) < nn := by omega
      obtain ⟨bg, Ng, Fg, hge, hNg, hFg, hAg⟩ := (HG.out.below HB0.out).at hlt
      obtain rfl : _ = bg := by simpa using hge
      obtain ⟨bm, Nm, Fm, rfl, hNm, -, hFm, hAm⟩ := HMA.out.row hlt
      obtain ⟨y, hy⟩ : ∃ y : Nat, ys j = y := ⟨(ys j).toNat, by have := HYS.out j hlt; omega⟩
      have hyG : y < G := by have := HCG.out j hlt; omega
      have lyG : (y : Int) < G := by omega
      obtain ⟨e, he⟩ : ∃ e, d.es j = e := ⟨_, rfl⟩
      obtain ⟨v, hv⟩ : ∃ v, needG d ys y j = v := ⟨_, rfl⟩
      have hvb := needG_le HES.out (ys := ys) y j (by omega)
      have heb := HES.out j hlt
      rw [hv] at hvb
      rw [he] at heb
      have cw : IntKind.i64.wrap (v + e) = v + e := IntWalk.i64_in _ (by omega)
      have ew : IntKind.i64.wrap e = e := IntWalk.i64_in _ (by omega)
      rw [hy] at hFg
      have hcell : needV d ys j y = .int .i64 v := congrArg (Value.int .i64) hv
      have HST := Lib.hid (show ∀ g, upd (needV d ys j) y (.int .i64 (v + e)) g = needV d ys (j + 1) g from by rw [← hv]; exact needV_step hy he)
      have hve : Fm (j * 3 + 1) = .int .i16 e := (hFm 1 (by omega)).trans (by rw [← he]; rfl)
      have HAg := Lib.hid hAg
      have HAm := Lib.hid hAm
      clear hAg hAm hFm hy hv he hvb heb hge
      go_wp2_with (first | (refine wpList_getAt1 rfl _ _ rfl _ _ rfl (HAg.out.below hM.below HAg.out.lt) (cellTab _ rfl) (by omega) _ hFg ?_))
      ((try simp only [Act.put, List.setIfInBounds_toArray, List.set_cons_succ, List.set_cons_zero]); refine region_tail_mem (m := 13) (by kernel_rfl) (by kernel_rfl) ?_; (have hM' := hM.drew); clear hM; have hM := hM'; clear hM'; simp only [List.take_succ_cons, List.take_zero, List.drop_succ_cons, List.drop_zero]; (repeat (refine wps_plain rfl ?_; (first | (refine still_get1 hM _ _ rfl _ _ rfl 0 rfl (cellTab _ rfl) (by omega) _ (hcell) ?_) | (refine still_get1 hM _ _ rfl _ _ rfl 1 rfl (cellTab _ rfl) (by omega) (.slice (some ⟨bm, 0, none⟩) nn mc) rfl ?_) | (refine still_old _ _ rfl _ _ rfl (cellTab _ rfl) (.int .i16 e) (((HAm.out.below hM.below HAm.out.lt).cell (by omega)).trans (congrArg some hve)) ?_) | (refine still_val ?_; apply Exists.intro; refine ⟨fun W => ?_, ?_⟩; (go_simp; (try simp only [cw, ew, if_true]); rfl))); (simp only [Act.put, List.setIfInBounds_toArray, List.set_cons_succ, List.set_cons_zero]))); unfold wpStill)
      go_wp2_with (first | (refine wpList_set1 rfl _ _ _ rfl _ _ rfl (.int .i64 (v + e)) rfl rfl hM 0 rfl hb (cellTab _ rfl) hyG ?_; intro W' hM'; have hM2 := hM'.re 0 rfl (needV d ys (j + 1)) (fun g _ => HST.out g); simp only [List.set_cons_zero] at hM2; clear hM hM'; have hM := hM2; clear hM2))
      go_roundw
      case rel => exact ⟨j + 1, by omega, by go_num, hM⟩
      case measure => simp [intOf]; omega
    · obtain rfl : j = nn := by omega
      go_wp2
      go_ret2
      exact ⟨_, rfl, .inr ⟨b, G, G, needV d ys j, rfl, Nat.le_trans HB0.out.size hb, by omega, fun _ _ => rfl, hM.ats 0 _ _ _ rfl, HB0.out.trans (hM.below.mono HB0.out.size)⟩⟩

set_option maxRecDepth 100000 in
set_option maxHeartbeats 4000000 in
theorem specNeedsOf_any (d : Hd) (b1 b2 b3 : Nat) (hd : FitsH d) (bg n : Nat) (ys : Nat → Int) (hn : n ≤ 1048576) (w : World) (hM0 : Mem w (hdB d b1 b2 b3) w) (hG : At w bg n (vInt64S ys)) :
    Calls Tryd.prog 42 #[.agg (arr 3 (hdV d b1 b2 b3)), .slice (some ⟨bg, 0, none⟩) n n] w (GivesR 1 (needL d n ys) (vInt64S (needF d ys n)) (needC d n ys) w) := by
  have hM : Mem w (hdB d b1 b2 b3 ++ []) w := by rw [List.append_nil]; exact hM0
  have HG := Lib.hid (vInt64S_ints hG)
  have HTO := Lib.hid (fun (bh : Nat) (W : World) hB hI => l06Told_any d bh b1 b2 b3 hd (some ⟨bg, 0, none⟩) n n ys hn W hB hI)
  clear hM0 hG
  by_cases hc : needC d n ys = 0
  · obtain ⟨hv, hb⟩ := need_0 hc
    have hOk := herdB_iff.1 hv
    obtain ⟨hnn, hys⟩ := numsB_iff.1 hb
    subst hnn
    have HC := Lib.hid hc
    have HL := Lib.hid (show needL d d.n1 ys = cntG ys d.n1 from by unfold needL; rw [hv, hb]; rfl)
    have HNE := Lib.hid (fun (bh : Nat) (W : World) hB hI => l06Needs_any d bh b1 b2 b3 hd hOk.n hOk.l2 (some ⟨bg, 0, none⟩) d.n1 ys hys W hB hI)
    obtain ⟨nn, hnn⟩ : ∃ nn, d.n1 = nn := ⟨_, rfl⟩
    rw [hnn] at HC HL HNE HTO HG ⊢
    clear hc hv hb hOk hys hn
    have tk_x1 : True := trivial
    go_enter Tryd.func42, Tryd.ntmps42
    go_wp2_with (first | (have _t := tk_x1; refine wpList_box rfl _ _ rfl _ _ rfl hM ?_; intro x1 W' hx1 hM'; clear hM tk_x1; have hM := hM'; clear hM') | (go_at_call 93; refine (HTO.out x1 _ (hM.boxed) (HG.out.below hM.below)).mono ?_; rintro e W' ⟨rfl, hb'⟩; rw [HC.out]; have hM' := hM.call hb'; clear hM hb'; have hM := hM'; clear hM') | (go_at_call 95; refine (HNE.out x1 _ (hM.boxed) (HG.out.below hM.below)).mono ?_; rintro e W' ⟨b, rfl, hb, hN⟩; have HB0 := Lib.hid hM.below; have HN := Lib.hid hN; clear hM hN))
    go_ret2
    rw [HL.out, HC.out]
    exact ⟨_, rfl, .inr ⟨b, _, _, needV d ys nn, rfl, Nat.le_trans HB0.out.size hb, by omega, fun _ _ => rfl, HN.out.ats 0 _ _ _ rfl, HB0.out.trans (HN.out.below.mono HB0.out.size)⟩⟩
  · obtain ⟨C, hC⟩ : ∃ C, needC d n ys = C := ⟨_, rfl⟩
    have HL := Lib.hid (need_no hc)
    have HC := Lib.hid hC
    rw [hC] at hc ⊢
    have z1 : (C != 0) = true := bne_iff_ne.2 hc
    have z2 : (C == 0) = false := beq_eq_false_iff_ne.2 hc
    clear hC
    have tk_x1 : True := trivial; have tk_s0 : True := trivial
    go_enter Tryd.func42, Tryd.ntmps42
    go_wp2_with (first | (have _t := tk_x1; refine wpList_box rfl _ _ rfl _ _ rfl hM ?_; intro x1 W' hx1 hM'; clear hM tk_x1; have hM := hM'; clear hM') | (go_at_call 93; refine (HTO.out x1 _ (hM.boxed) (HG.out.below hM.below)).mono ?_; rintro e W' ⟨rfl, hb'⟩; rw [HC.out]; have hM' := hM.call hb'; clear hM hb'; have hM := hM'; clear hM') | (have _t := tk_s0; refine wpList_slice0 rfl _ _ rfl _ int64s_underR int64_info0 hM ?_; intro s0 W' hs0 hM'; clear hM tk_s0; have hM := hM'; clear hM'))
    go_ret2
    exact GivesR.none hM.below HL.out rfl
end Go.Proofs.YthodkbmenndnoaaDoor

/-
  laws.markText by contract: the same text for the same number.
-/
namespace Go.Proofs.YthodkbmenndnoaaDoor
open Go Go.RowKit Go.BigFrame

def digB (k : Nat) : ByteArray := ⟨#[UInt8.ofNat (48 + k % 10)]⟩
def digs : Nat → Nat → ByteArray → ByteArray
  | 0, _, acc => acc
  | f + 1, k, acc => if k = 0 then acc else digs f (k / 10) (digB k ++ acc)
def mtxt (k : Nat) : ByteArray := if k = 0 then ⟨#[109, 48]⟩ else ⟨#[109]⟩ ++ digs 20 k ⟨#[]⟩
theorem wpList_byte {ops : Array Oper} {rest : List Oper} {o : Oper} {a : Act} {w : Base} {L : Blocks} {W : World} {Q : Exit → Act → World → Prop} (hgd : o.guard = none) (x : Operand) (ho : o.op = .convert 153 9 x) (b : Nat) (hx : a.eval x = .slice (some ⟨b, 0, none⟩) 1 1)
    (hM : Mem w L W) (i : Nat) {f : Nat → Value} (hi : L[i]? = some (b, 1, f)) (d : Nat) (hd : d < 10) (hf : f 0 = .int .u8 ((48 + d : Nat) : Int)) (u : UInt8) (hu : UInt8.ofNat (48 + d) = u)
    (h : wpList Tryd.prog ops Q rest (a.put o.dst (.string ⟨#[u]⟩)) W) : wpList Tryd.prog ops Q (o :: rest) a W := by
  subst hu
  refine wpList_plain hgd fun K hK => ?_
  have hc := (hM.ats i b 1 f hi).cell (k := 0) (by omega)
  have hr := run_convert_bytes_back (P := Tryd.prog) W 153 9 5 ⟨b, 0, none⟩ 1 [UInt8.ofNat (48 + d)] Tryd.underlying153 Tryd.underlying5 Tryd.underlying9 (fun j hj => by
    have hj0 : j = 0 := by simpa using hj
    subst hj0
    have e : (⟨b, 0, none⟩ : Addr).add 0 = ⟨b, 0, none⟩ := by simp [Addr.add]
    rw [e, hc, hf]
    have : (UInt8.ofNat (48 + d)).toNat = 48 + d := by simp; omega
    rw [List.getElem_cons_zero, this])
  unfold Oper.wp execOp
  simp only [ho, hx, Sem.run_bind, Sem.run_pure, Result.andThen_ok]
  simp only [List.length_cons, List.length_nil, Nat.zero_add] at hr
  rw [hr]
  exact hK _ _ h
theorem bytes_under : Tryd.prog.underlying 153 = some (.slice 5) := Tryd.underlying153
theorem byte_info : (Tryd.prog.info? 5).map (fun i => (i.size, i.zero)) = some (1, some (.int .u8 0)) := by kernel_rfl
theorem digs_step {f r : Nat} {acc : ByteArray} (hr : r ≠ 0) : digs (f + 1) r acc = digs f (r / 10) (digB r ++ acc) := by simp [digs, hr]
theorem digs_zero {f : Nat} {acc : ByteArray} : digs f 0 acc = acc := by cases f <;> simp [digs]
set_option maxRecDepth 100000 in
set_option maxHeartbeats 1000000 in
theorem markText_any (k : Nat) (hk : k ≤ 1000000000) (w : World) :
    Calls Tryd.prog 110 #[.int .i64 k] w fun e w' => e = .returned (.string (mtxt k)) ∧ Below w.heap.size w w' := by
  have hM := Mem.nil w
  by_cases h0 : k = 0
  · subst h0
    go_enter Tryd.func110, Tryd.ntmps110
    go_wp2
    go_ret
    exact ⟨rfl, hM.below⟩
  have hpos : 0 < (k : Int) := by omega
  have d0 : decide ((k : Int) ≤ 0) = false := decide_eq_false (by omega)
  go_enter Tryd.func110, Tryd.ntmps110
  go_wp2
  go_loopw [0, 3] (fun x s wr => ∃ (f r : Nat) (acc : ByteArray), x = .int .i64 r ∧ s = .string acc ∧ r ≤ 1000000000 ∧ r < 10 ^ f ∧ acc.size + f ≤ 20 ∧ Hid (digs f r acc = digs 20 k ⟨#[]⟩) ∧ Mem w [] wr) (fun x _ _ => (intOf x).toNat)
  case atStart => exact ⟨20, k, ⟨#[]⟩, rfl, rfl, hk, by omega, by decide, Lib.hid rfl, hM⟩
  case round =>
    clear hM
    obtain ⟨f, r, acc, rfl, rfl, hr, hrf, hf, hd, hM⟩ := hrel
    have hs1 : ({ data := #[109] } : ByteArray).size = 1 := rfl
    by_cases hz : r = 0
    · subst hz
      have HZ := Lib.hid (show (⟨#[109]⟩ ++ acc : ByteArray) = mtxt k from by unfold mtxt; rw [if_neg h0, ← hd.out, digs_zero])
      go_wp2
      try (any_goals (exfalso; omega))
      go_ret
      rw [← HZ.out]
      exact ⟨rfl, hM.below⟩
    · have l1 : (0 : Int) < r := by omega
      obtain ⟨f, rfl⟩ : ∃ f', f = f' + 1 := ⟨f - 1, by
        rcases f with _ | f
        · simp at hrf; omega
        · rfl⟩
      have hdiv : r / 10 < 10 ^ f := by rw [Nat.pow_succ] at hrf; omega
      obtain ⟨d, hdd⟩ : ∃ d, r % 10 = d := ⟨_, rfl⟩
      have hd10 : d < 10 := by omega
      have c1 : (r : Int) % 10 = (d : Int) := by omega
      have cm : Int.tmod (r : Int) 10 = (d : Int) := by rw [Int.tmod_eq_emod_of_nonneg (by omega)]; exact c1
      have c2 : IntKind.u8.wrap (48 + (d : Int)) = ((48 + d : Nat) : Int) := by rw [IntWalk.u8_in _ (by omega)]; omega
      have HD := Lib.hid (show digs f (r / 10) (⟨#[UInt8.ofNat (48 + d)]⟩ ++ acc) = digs 20 k ⟨#[]⟩ from by rw [← hd.out, digs_step hz, digB, hdd])
      obtain ⟨u, hu⟩ : ∃ u : UInt8, UInt8.ofNat (48 + d) = u := ⟨_, rfl⟩
      rw [hu] at HD
      have HU := Lib.hid hu
      have hs2 : ({ data := #[u] } : ByteArray).size = 1 := rfl
      have HS := Lib.hid (show ((⟨#[u]⟩ : ByteArray) ++ acc).size + f ≤ 20 from by rw [ByteArray.size_append, hs2]; omega)
      clear hd hdd hrf hu
      have tk_l1b : True := trivial
      go_wp2_with (first | (have _t := tk_l1b; refine wpList_lit1 rfl _ _ _ rfl (.int .u8 ((48 + d : Nat) : Int)) (by first | rfl | exact congrArg (Value.int .u8) c2) rfl _ bytes_under byte_info hM ?_; intro lb W' hlb hM'; clear hM tk_l1b; have hM := hM'; clear hM') | (refine wpList_byte rfl _ rfl _ rfl hM 0 rfl d hd10 rfl u HU.out ?_))
      go_roundw
      case rel => exact ⟨f, r / 10, _, by go_num, rfl, by omega, hdiv, HS.out, HD, hM.drop⟩
      case measure => simp [intOf]; omega
end Go.Proofs.YthodkbmenndnoaaDoor

/-
  laws.eqStringS, markStringS, heldStringS over lists that hold room behind their end.
-/
namespace Go.Proofs.YthodkbmenndnoaaDoor
open Go Go.RowKit Go.BigFrame Go.ChangeShapes Go.WideShapes Go.Deep

theorem eqStringS_zero (a a' : Option Addr) (c c' : Nat) (w : World) : Calls Tryd.prog 59 #[.slice a 0 c, .slice a' 0 c'] w fun e w' => e = .returned (.bool true) ∧ Below w.heap.size w w' := by
  go_enter Tryd.func59, Tryd.ntmps59
  go_wp2
  refine wp_loop_rounds 1 ?_
  rw [rounds_succ]
  go_wp2
  go_ret
  exact ⟨rfl, Below.refl _ _⟩
theorem markStringS_zero (a : Option Addr) (c : Nat) (k : Int) (w : World) : Calls Tryd.prog 67 #[.slice a 0 c, .int .i64 k] w fun e w' => e = .returned (.int .i64 k) ∧ Below w.heap.size w w' := by
  go_enter Tryd.func67, Tryd.ntmps67
  go_wp2
  refine wp_loop_rounds 1 ?_
  rw [rounds_succ]
  go_wp2
  go_ret
  exact ⟨rfl, Below.refl _ _⟩
theorem heldStringS_zero (a : Option Addr) (c : Nat) (k : Int) (w : World) : Calls Tryd.prog 75 #[.slice a 0 c, .int .i64 k] w fun e w' => e = .returned (.int .i64 k) ∧ Below w.heap.size w w' := by
  go_enter Tryd.func75, Tryd.ntmps75
  go_wp2
  refine wp_loop_rounds 1 ?_
  rw [rounds_succ]
  go_wp2
  go_ret
  exact ⟨rfl, Below.refl _ _⟩

set_option maxRecDepth 100000 in
set_option maxHeartbeats 1000000 in
/-- eqStringS of two lists that hold the same. -/
theorem eqStringS_list (b b' n c c' N N' : Nat) (F F' : Nat → Value) (ys : Nat → ByteArray) (hF : ∀ j, j < n → F j = vStringS ys j) (hF' : ∀ j, j < n → F' j = vStringS ys j) (hN : n ≤ N) (hN' : n ≤ N') (hn : n ≤ 1048576) (w : World) (hA : At w b N F) (hA' : At w b' N' F') (hne : b ≠ b') :
    Calls Tryd.prog 59 #[.slice (some ⟨b, 0, none⟩) n c, .slice (some ⟨b', 0, none⟩) n c'] w fun e w' => e = .returned (.bool true) ∧ Below w.heap.size w w' := by
  have hM : Mem w [(b, N, F), (b', N', F')] w := ((Mem.nil w).old hA (fun i p h => by simp at h)).old hA' (fun i p h => by
    match i, h with
    | 0, h => simp at h; rw [← h]; exact hne
    | _ + 1, h => simp at h)
  have Hf := Lib.hid hF
  have Hf' := Lib.hid hF'
  clear hA hA' hF hF'
  go_enter Tryd.func59, Tryd.ntmps59
  go_wp2
  go_loopw [5] (fun i wr => ∃ k : Nat, k ≤ n ∧ i = .int .i64 k ∧ Mem w [(b, N, F), (b', N', F')] wr) (fun i _ => n - (intOf i).toNat)
  case atStart => exact ⟨0, by omega, rfl, hM⟩
  case round =>
    clear hM
    obtain ⟨k, hk, rfl, hM⟩ := hrel
    by_cases hlt : k < n
    · have l2 : (k : Int) < n := by omega
      have c1 : F k = .string (ys k) := Hf.out k hlt
      have c2 : F' k = .string (ys k) := Hf'.out k hlt
      generalize ys k = yk at c1 c2
      have hb : (yk.toList == yk.toList) = true := BEq.rfl
      go_wp2
      ((try simp only [Act.put, List.setIfInBounds_toArray, List.set_cons_succ, List.set_cons_zero]); refine wp_region_mem (by kernel_rfl) (by kernel_rfl) hM ?_; clear hM; (repeat (first | go_big_quiet_skip | (go_big_quiet_want; first | (refine quiet_get1 _ _ rfl _ _ rfl 1 rfl cellStringS (by omega) _ c2 ?_; (simp only [Act.put, List.setIfInBounds_toArray, List.set_cons_succ, List.set_cons_zero]); go_big_quiet_on) | (refine quiet_get1 _ _ rfl _ _ rfl 0 rfl cellStringS (by omega) _ c1 ?_; (simp only [Act.put, List.setIfInBounds_toArray, List.set_cons_succ, List.set_cons_zero]); go_big_quiet_on) | (refine quiet_val ?_; apply Exists.intro; refine ⟨fun W => ?_, ?_⟩; (go_simp; (try simp only [l2, hb, if_true, Bool.false_eq_true, if_false]); rfl); (simp only [Act.put, List.setIfInBounds_toArray, List.set_cons_succ, List.set_cons_zero]); go_big_quiet_on)))); (with_reducible refine wpQuiet_nil ?_); intro W' hM)
      go_wp2
      go_roundw
      case rel => exact ⟨k + 1, by omega, by go_num, hM⟩
      case measure => simp [intOf]; omega
    · obtain rfl : k = n := by omega
      go_wp2
      go_ret
      exact ⟨rfl, hM.below⟩

/-- The mark j, as a cell. -/
def mkString (j : Nat) : Value := .string (mtxt j)
set_option maxRecDepth 100000 in
set_option maxHeartbeats 1000000 in
/-- markStringS writes its marks into the list. -/
theorem markStringS_list (b0 : Base) (K : Blocks) (b n c N k0 : Nat) (F : Nat → Value) (hN : n ≤ N) (hn : n ≤ 1048576) (hk0 : k0 ≤ 100000000) (hb : b0.B ≤ b) (w : World) (hM0 : Mem b0 ((b, N, F) :: K) w) :
    Calls Tryd.prog 67 #[.slice (some ⟨b, 0, none⟩) n c, .int .i64 k0] w fun e w' => e = .returned (.int .i64 ((k0 + n : Nat) : Int)) ∧ ∃ G, (∀ j, j < n → G j = mkString (k0 + j)) ∧ Mem b0 ((b, N, G) :: K) w' := by
  have hM := hM0
  clear hM0
  go_enter Tryd.func67, Tryd.ntmps67
  go_wp2
  go_loopw [1, 5] (fun t i wr => ∃ k : Nat, k ≤ n ∧ t = .int .i64 ((k0 + k : Nat) : Int) ∧ i = .int .i64 k ∧ ∃ G, Hid (∀ j, j < k → G j = mkString (k0 + j)) ∧ Mem b0 ((b, N, G) :: K) wr) (fun _ i _ => n - (intOf i).toNat)
  case atStart => exact ⟨0, by omega, by simp, rfl, F, Lib.hid (fun j hj => absurd hj (by omega)), hM⟩
  case round =>
    clear hM
    obtain ⟨k, hk, rfl, rfl, G, hG, hM⟩ := hrel
    by_cases hlt : k < n
    · have l2 : (k : Int) < n := by omega
      obtain ⟨mm, hm⟩ : ∃ m : Nat, m = k0 + k := ⟨_, rfl⟩
      rw [← hm]
      have n1 : IntKind.i64.wrap ((mm : Int) + 1) = (mm : Int) + 1 := IntWalk.i64_in _ (by omega)
      have n2 : IntKind.i64.wrap (mm : Int) = (mm : Int) := IntWalk.i64_in _ (by omega)
      have hl : (mm : Int) + 1 = ((k0 + (k + 1) : Nat) : Int) := by omega
      have Hl := Lib.hid hl
      have Hm := Lib.hid hm
      clear hm hl
      have hm3 : mm ≤ 1000000000 := by have := Hm.out; omega
      obtain ⟨xx, hxx⟩ : ∃ x, mtxt mm = x := ⟨_, rfl⟩
      have Hxx := Lib.hid hxx
      clear hxx
      go_wp2_with (first | (go_at_call 110; refine (markText_any mm hm3 _).mono ?_; rintro e W' ⟨rfl, hb'⟩; rw [Hxx.out]; have hM' := hM.call hb'; clear hM hb'; have hM := hM'; clear hM') | (refine wpList_set1 rfl _ _ _ rfl _ _ rfl _ rfl ?_ hM 0 rfl (by assumption) (cellTab _ rfl) (by omega) ?_; (first | rfl | exact h1 _); intro W' hM'; clear hM; have hM := hM'; clear hM'; simp [List.set, Act.eval] at hM))
      go_roundw
      case rel => exact ⟨k + 1, by omega, by first | exact congrArg (Value.int .i64) Hl.out | rfl, by go_num, _, Lib.hid (fun j hj => by
        simp only [upd]
        by_cases e0 : j = k
        · rw [if_pos e0, e0, ← Hm.out]; exact congrArg Value.string Hxx.out.symm
        · rw [if_neg e0]; exact hG.out j (by omega)), hM⟩
      case measure => simp [intOf]; omega
    · obtain rfl : k = n := by omega
      go_wp2
      go_ret
      exact ⟨rfl, G, hG.out, hM⟩

set_option maxRecDepth 100000 in
set_option maxHeartbeats 1000000 in
/-- heldStringS finds the marks. -/
theorem heldStringS_list (b n c N k0 : Nat) (G : Nat → Value) (hN : n ≤ N) (hn : n ≤ 1048576) (hk0 : k0 ≤ 100000000) (hG : ∀ j, j < n → G j = mkString (k0 + j)) (w : World) (hA : At w b N G) :
    Calls Tryd.prog 75 #[.slice (some ⟨b, 0, none⟩) n c, .int .i64 k0] w fun e w' => e = .returned (.int .i64 ((k0 + n : Nat) : Int)) ∧ Below w.heap.size w w' := by
  have hM : Mem w [(b, N, G)] w := (Mem.nil w).old hA (fun i p h => by simp at h)
  have Hg := Lib.hid hG
  clear hA hG
  go_enter Tryd.func75, Tryd.ntmps75
  go_wp2
  go_loopw [1, 5] (fun t i wr => ∃ k : Nat, k ≤ n ∧ t = .int .i64 ((k0 + k : Nat) : Int) ∧ i = .int .i64 k ∧ Mem w [(b, N, G)] wr) (fun _ i _ => n - (intOf i).toNat)
  case atStart => exact ⟨0, by omega, by simp, rfl, hM⟩
  case round =>
    clear hM
    obtain ⟨k, hk, rfl, rfl, hM⟩ := hrel
    by_cases hlt : k < n
    · have l2 : (k : Int) < n := by omega
      obtain ⟨mm, hm⟩ : ∃ m : Nat, m = k0 + k := ⟨_, rfl⟩
      obtain ⟨xx, hxx⟩ : ∃ x, mtxt mm = x := ⟨_, rfl⟩
      have g0 : G k = .string xx := by rw [Hg.out k hlt, ← hxx, hm]; rfl
      have nx : (xx.toList == xx.toList) = true := BEq.rfl
      have hm3 : mm ≤ 1000000000 := by omega
      have Hxx := Lib.hid hxx
      rw [← hm]
      have n1 : IntKind.i64.wrap ((mm : Int) + 1) = (mm : Int) + 1 := IntWalk.i64_in _ (by omega)
      have n2 : IntKind.i64.wrap (mm : Int) = (mm : Int) := IntWalk.i64_in _ (by omega)
      have hl : (mm : Int) + 1 = ((k0 + (k + 1) : Nat) : Int) := by omega
      have Hl := Lib.hid hl
      clear hm hl
      go_wp2
      ((try simp only [Act.put, List.setIfInBounds_toArray, List.set_cons_succ, List.set_cons_zero]); refine wp_region_mem (by kernel_rfl) (by kernel_rfl) hM ?_; clear hM; (repeat (first | go_big_quiet_skip | (go_big_quiet_want; first | (refine quiet_get1 _ _ rfl _ _ rfl 0 rfl (cellTab _ rfl) (by omega) _ (g0) ?_; (simp only [Act.put, List.setIfInBounds_toArray, List.set_cons_succ, List.set_cons_zero]); go_big_quiet_on) | (refine quiet_call ?_; apply Exists.intro; apply Exists.intro; apply Exists.intro; refine ⟨fun W => ?_, fun W hM => ?_, ?_⟩; (go_simp; exact ⟨rfl, rfl⟩); (with_reducible exact markText_any mm hm3 W); (simp only [Hxx.out]); (simp only [Act.put, List.setIfInBounds_toArray, List.set_cons_succ, List.set_cons_zero]); go_big_quiet_on) | (refine quiet_val ?_; apply Exists.intro; refine ⟨fun W => ?_, ?_⟩; (go_simp; (try simp only [nx, if_true, Bool.false_eq_true, if_false]); rfl); (simp only [Act.put, List.setIfInBounds_toArray, List.set_cons_succ, List.set_cons_zero]); go_big_quiet_on)))); (with_reducible refine wpQuiet_nil ?_); intro W' hM)
      go_wp2
      go_roundw
      case rel => exact ⟨k + 1, by omega, by first | exact congrArg (Value.int .i64) Hl.out | rfl, by go_num, hM⟩
      case measure => simp [intOf]; omega
    · obtain rfl : k = n := by omega
      go_wp2
      go_ret
      exact ⟨rfl, hM.below⟩
end Go.Proofs.YthodkbmenndnoaaDoor

/-
  laws.eqInt16S, markInt16S, heldInt16S over lists that hold room behind their end.
-/
namespace Go.Proofs.YthodkbmenndnoaaDoor
open Go Go.RowKit Go.BigFrame Go.ChangeShapes Go.WideShapes Go.Deep

theorem eqInt16S_zero (a a' : Option Addr) (c c' : Nat) (w : World) : Calls Tryd.prog 60 #[.slice a 0 c, .slice a' 0 c'] w fun e w' => e = .returned (.bool true) ∧ Below w.heap.size w w' := by
  go_enter Tryd.func60, Tryd.ntmps60
  go_wp2
  refine wp_loop_rounds 1 ?_
  rw [rounds_succ]
  go_wp2
  go_ret
  exact ⟨rfl, Below.refl _ _⟩
theorem markInt16S_zero (a : Option Addr) (c : Nat) (k : Int) (w : World) : Calls Tryd.prog 68 #[.slice a 0 c, .int .i64 k] w fun e w' => e = .returned (.int .i64 k) ∧ Below w.heap.size w w' := by
  go_enter Tryd.func68, Tryd.ntmps68
  go_wp2
  refine wp_loop_rounds 1 ?_
  rw [rounds_succ]
  go_wp2
  go_ret
  exact ⟨rfl, Below.refl _ _⟩
theorem heldInt16S_zero (a : Option Addr) (c : Nat) (k : Int) (w : World) : Calls Tryd.prog 76 #[.slice a 0 c, .int .i64 k] w fun e w' => e = .returned (.int .i64 k) ∧ Below w.heap.size w w' := by
  go_enter Tryd.func76, Tryd.ntmps76
  go_wp2
  refine wp_loop_rounds 1 ?_
  rw [rounds_succ]
  go_wp2
  go_ret
  exact ⟨rfl, Below.refl _ _⟩

set_option maxRecDepth 100000 in
set_option maxHeartbeats 1000000 in
/-- eqInt16S of two lists that hold the same. -/
theorem eqInt16S_list (b b' n c c' N N' : Nat) (F F' : Nat → Value) (ys : Nat → Int) (hF : ∀ j, j < n → F j = vInt16S ys j) (hF' : ∀ j, j < n → F' j = vInt16S ys j) (hN : n ≤ N) (hN' : n ≤ N') (hn : n ≤ 1048576) (w : World) (hA : At w b N F) (hA' : At w b' N' F') (hne : b ≠ b') :
    Calls Tryd.prog 60 #[.slice (some ⟨b, 0, none⟩) n c, .slice (some ⟨b', 0, none⟩) n c'] w fun e w' => e = .returned (.bool true) ∧ Below w.heap.size w w' := by
  have hM : Mem w [(b, N, F), (b', N', F')] w := ((Mem.nil w).old hA (fun i p h => by simp at h)).old hA' (fun i p h => by
    match i, h with
    | 0, h => simp at h; rw [← h]; exact hne
    | _ + 1, h => simp at h)
  have Hf := Lib.hid hF
  have Hf' := Lib.hid hF'
  clear hA hA' hF hF'
  go_enter Tryd.func60, Tryd.ntmps60
  go_wp2
  go_loopw [5] (fun i wr => ∃ k : Nat, k ≤ n ∧ i = .int .i64 k ∧ Mem w [(b, N, F), (b', N', F')] wr) (fun i _ => n - (intOf i).toNat)
  case atStart => exact ⟨0, by omega, rfl, hM⟩
  case round =>
    clear hM
    obtain ⟨k, hk, rfl, hM⟩ := hrel
    by_cases hlt : k < n
    · have l2 : (k : Int) < n := by omega
      have c1 : F k = .int .i16 (ys k) := Hf.out k hlt
      have c2 : F' k = .int .i16 (ys k) := Hf'.out k hlt
      have hb : (ys k != ys k) = false := by simp
      go_wp2
      ((try simp only [Act.put, List.setIfInBounds_toArray, List.set_cons_succ, List.set_cons_zero]); refine wp_region_mem (by kernel_rfl) (by kernel_rfl) hM ?_; clear hM; (repeat (first | go_big_quiet_skip | (go_big_quiet_want; first | (refine quiet_get1 _ _ rfl _ _ rfl 1 rfl cellInt16S (by omega) _ c2 ?_; (simp only [Act.put, List.setIfInBounds_toArray, List.set_cons_succ, List.set_cons_zero]); go_big_quiet_on) | (refine quiet_get1 _ _ rfl _ _ rfl 0 rfl cellInt16S (by omega) _ c1 ?_; (simp only [Act.put, List.setIfInBounds_toArray, List.set_cons_succ, List.set_cons_zero]); go_big_quiet_on) | (refine quiet_val ?_; apply Exists.intro; refine ⟨fun W => ?_, ?_⟩; (go_simp; (try simp only [l2, hb, if_true, Bool.false_eq_true, if_false]); rfl); (simp only [Act.put, List.setIfInBounds_toArray, List.set_cons_succ, List.set_cons_zero]); go_big_quiet_on)))); (with_reducible refine wpQuiet_nil ?_); intro W' hM)
      go_wp2
      go_roundw
      case rel => exact ⟨k + 1, by omega, by go_num, hM⟩
      case measure => simp [intOf]; omega
    · obtain rfl : k = n := by omega
      go_wp2
      go_ret
      exact ⟨rfl, hM.below⟩

/-- The mark j, as a cell. -/
def mkInt16 (j : Nat) : Value := .int .i16 (IntKind.i16.wrap (j : Int))
set_option maxRecDepth 100000 in
set_option maxHeartbeats 1000000 in
/-- markInt16S writes its marks into the list. -/
theorem markInt16S_list (b0 : Base) (K : Blocks) (b n c N k0 : Nat) (F : Nat → Value) (hN : n ≤ N) (hn : n ≤ 1048576) (hk0 : k0 ≤ 100000000) (hb : b0.B ≤ b) (w : World) (hM0 : Mem b0 ((b, N, F) :: K) w) :
    Calls Tryd.prog 68 #[.slice (some ⟨b, 0, none⟩) n c, .int .i64 k0] w fun e w' => e = .returned (.int .i64 ((k0 + n : Nat) : Int)) ∧ ∃ G, (∀ j, j < n → G j = mkInt16 (k0 + j)) ∧ Mem b0 ((b, N, G) :: K) w' := by
  have hM := hM0
  clear hM0
  go_enter Tryd.func68, Tryd.ntmps68
  go_wp2
  go_loopw [1, 5] (fun t i wr => ∃ k : Nat, k ≤ n ∧ t = .int .i64 ((k0 + k : Nat) : Int) ∧ i = .int .i64 k ∧ ∃ G, Hid (∀ j, j < k → G j = mkInt16 (k0 + j)) ∧ Mem b0 ((b, N, G) :: K) wr) (fun _ i _ => n - (intOf i).toNat)
  case atStart => exact ⟨0, by omega, by simp, rfl, F, Lib.hid (fun j hj => absurd hj (by omega)), hM⟩
  case round =>
    clear hM
    obtain ⟨k, hk, rfl, rfl, G, hG, hM⟩ := hrel
    by_cases hlt : k < n
    · have l2 : (k : Int) < n := by omega
      obtain ⟨mm, hm⟩ : ∃ m : Nat, m = k0 + k := ⟨_, rfl⟩
      rw [← hm]
      have n1 : IntKind.i64.wrap ((mm : Int) + 1) = (mm : Int) + 1 := IntWalk.i64_in _ (by omega)
      have n2 : IntKind.i64.wrap (mm : Int) = (mm : Int) := IntWalk.i64_in _ (by omega)
      have hl : (mm : Int) + 1 = ((k0 + (k + 1) : Nat) : Int) := by omega
      obtain ⟨xx, hxx⟩ : ∃ x, IntKind.i16.wrap (mm : Int) = x := ⟨_, rfl⟩
      have Hxx := Lib.hid hxx
      have Hl := Lib.hid hl
      have Hm := Lib.hid hm
      clear hm hl
      go_wp2_with (first | (refine wpList_set1 rfl _ _ _ rfl _ _ rfl _ rfl ?_ hM 0 rfl (by assumption) (cellTab _ rfl) (by omega) ?_; (first | rfl | exact h1 _); intro W' hM'; clear hM; have hM := hM'; clear hM'; simp [List.set, Act.eval] at hM))
      go_roundw
      case rel => exact ⟨k + 1, by omega, by first | exact congrArg (Value.int .i64) Hl.out | rfl, by go_num, _, Lib.hid (fun j hj => by
        simp only [upd]
        by_cases e0 : j = k
        · rw [if_pos e0, e0, ← Hm.out]; exact congrArg (Value.int .i16) Hxx.out.symm
        · rw [if_neg e0]; exact hG.out j (by omega)), hM⟩
      case measure => simp [intOf]; omega
    · obtain rfl : k = n := by omega
      go_wp2
      go_ret
      exact ⟨rfl, G, hG.out, hM⟩

set_option maxRecDepth 100000 in
set_option maxHeartbeats 1000000 in
/-- heldInt16S finds the marks. -/
theorem heldInt16S_list (b n c N k0 : Nat) (G : Nat → Value) (hN : n ≤ N) (hn : n ≤ 1048576) (hk0 : k0 ≤ 100000000) (hG : ∀ j, j < n → G j = mkInt16 (k0 + j)) (w : World) (hA : At w b N G) :
    Calls Tryd.prog 76 #[.slice (some ⟨b, 0, none⟩) n c, .int .i64 k0] w fun e w' => e = .returned (.int .i64 ((k0 + n : Nat) : Int)) ∧ Below w.heap.size w w' := by
  have hM : Mem w [(b, N, G)] w := (Mem.nil w).old hA (fun i p h => by simp at h)
  have Hg := Lib.hid hG
  clear hA hG
  go_enter Tryd.func76, Tryd.ntmps76
  go_wp2
  go_loopw [1, 5] (fun t i wr => ∃ k : Nat, k ≤ n ∧ t = .int .i64 ((k0 + k : Nat) : Int) ∧ i = .int .i64 k ∧ Mem w [(b, N, G)] wr) (fun _ i _ => n - (intOf i).toNat)
  case atStart => exact ⟨0, by omega, by simp, rfl, hM⟩
  case round =>
    clear hM
    obtain ⟨k, hk, rfl, rfl, hM⟩ := hrel
    by_cases hlt : k < n
    · have l2 : (k : Int) < n := by omega
      obtain ⟨mm, hm⟩ : ∃ m : Nat, m = k0 + k := ⟨_, rfl⟩
      obtain ⟨xx, hxx⟩ : ∃ x, IntKind.i16.wrap (mm : Int) = x := ⟨_, rfl⟩
      have g0 : G k = .int .i16 xx := by rw [Hg.out k hlt, ← hxx, hm]; rfl
      have nx : (xx != xx) = false := by simp
      rw [← hm]
      have n1 : IntKind.i64.wrap ((mm : Int) + 1) = (mm : Int) + 1 := IntWalk.i64_in _ (by omega)
      have n2 : IntKind.i64.wrap (mm : Int) = (mm : Int) := IntWalk.i64_in _ (by omega)
      have hl : (mm : Int) + 1 = ((k0 + (k + 1) : Nat) : Int) := by omega
      have Hl := Lib.hid hl
      clear hm hl
      go_wp2_with (first | (refine wpList_get1 rfl _ _ rfl _ _ rfl hM 0 rfl (cellTab _ rfl) (by omega) _ g0 ?_))
      go_roundw
      case rel => exact ⟨k + 1, by omega, by first | exact congrArg (Value.int .i64) Hl.out | rfl, by go_num, hM⟩
      case measure => simp [intOf]; omega
    · obtain rfl : k = n := by omega
      go_wp2
      go_ret
      exact ⟨rfl, hM.below⟩
end Go.Proofs.YthodkbmenndnoaaDoor

