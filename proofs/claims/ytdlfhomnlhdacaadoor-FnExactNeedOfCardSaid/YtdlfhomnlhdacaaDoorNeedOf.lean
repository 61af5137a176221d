/-
  spec.NeedOf and impl.NeedOf by contracts; laws.FnExactNeedOf returns true.
-/
import Derived.Test.YtdlfhomnlhdacaaDoorCheckGoats
import Derived.Test.YtdlfhomnlhdacaaDoorNum
import Derived.Test.YtdlfhomnlhdacaaDoorNeq
import Derived.Test.YtdlfhomnlhdacaaDoorResults
namespace Go.Proofs.YtdlfhomnlhdacaaDoor
open Go Go.RowKit Go.BigFrame

/-- What the first k goats eat. -/
def eatsN (hs : Nat → Nat → Int) : Nat → Int
  | 0 => 0
  | k + 1 => eatsN hs k + hs k 5
theorem eatsN_in {hs : Nat → Nat → Int} {n : Nat} (h : ∀ i, i < n → 0 ≤ hs i 5 ∧ hs i 5 ≤ 100) : ∀ k, k ≤ n → 0 ≤ eatsN hs k ∧ eatsN hs k ≤ 100 * k
  | 0, _ => by simp [eatsN]
  | k + 1, hk => by
    have h1 := eatsN_in h k (by omega)
    have h2 := h k (by omega)
    simp only [eatsN]
    omega
theorem goats_eats {g : Nat → Int} {n : Nat} {hs : Nat → Nat → Int} (h : goatsB g n hs = true) : n ≤ 20 ∧ ∀ i, i < n → 0 ≤ hs i 5 ∧ hs i 5 ≤ 100 := by
  unfold goatsB at h
  rw [Bool.and_eq_true, Bool.and_eq_true, List.all_eq_true] at h
  refine ⟨of_decide_eq_true h.2, fun i hi => ?_⟩
  have h1 := h.1.2 i (List.mem_range.2 hi)
  unfold goatB plainG at h1
  rw [Bool.and_eq_true, Bool.and_eq_true, Bool.and_eq_true, Bool.and_eq_true, Bool.and_eq_true, Bool.and_eq_true] at h1
  exact inB_true h1.1.1.1.1.1.2
def needN (g : Nat → Int) (n : Nat) (hs : Nat → Nat → Int) : Int := if goatsB g n hs then eatsN hs n else 0
def needC (g : Nat → Int) (n : Nat) (hs : Nat → Nat → Int) : Int := if goatsB g n hs then 0 else 1
theorem need_no {g : Nat → Int} {n : Nat} {hs : Nat → Nat → Int} (h : goatsB g n hs = false) : needN g n hs = 0 ∧ needC g n hs = 1 := by simp [needN, needC, h]
theorem need_ok {g : Nat → Int} {n : Nat} {hs : Nat → Nat → Int} (h : goatsB g n hs = true) : needN g n hs = eatsN hs n ∧ needC g n hs = 0 := by simp [needN, needC, h]
theorem gts_5 (hs : Nat → Nat → Int) (k : Nat) : gts hs (k * 7 + 5) = .int .i16 (hs k 5) := gts_row hs k 5 (by omega)
theorem lay_5 (z : Nat → Value) (hs : Nat → Nat → Int) (k : Nat) : lay z 0 7 (fun i => gts hs (k * 7 + i)) 5 = .int .i16 (hs k 5) := lay_goat z hs k 5 (by omega)

set_option maxRecDepth 100000 in
set_option maxHeartbeats 1000000 in
theorem specNeedOf_any (g : Nat → Int) (hg : Fits g) (b n c : Nat) (hs : Nat → Nat → Int) (hF : ∀ i, i < n → FitsG (hs i)) (hn : n ≤ 1048576) (w : World) (hB : At w b (n * 7) (gts hs)) :
    Calls Tryd.prog 46 #[.agg (arr 122 (pas g)), .slice (some ⟨b, 0, none⟩) n c] w fun e w' => e = .returned (numR (needN g n hs) (needC g n hs)) ∧ Below w.heap.size w w' := by
  have hM : Mem w [(b, n * 7, gts hs)] w := (Mem.nil w).old hB (fun i p h => by simp at h)
  have HF := Lib.hid hF
  clear hF hB
  have tk_b1 : True := trivial
  cases hv : goatsB g n hs
  · have Hr := Lib.hid (need_no hv)
    have Hv := Lib.hid hv
    clear hv
    go_enter Tryd.func46, Tryd.ntmps46
    go_wp2_with (first | (go_at_call 82; (with_reducible refine (l02Ok_any g hg b1 b n c hs HF.out hn _ (hM.ats 0 _ _ _ rfl) (hM.ats 1 _ _ _ rfl) (hM.apart 0 1 _ _ rfl rfl (by omega))).mono ?_); rintro e W' ⟨rfl, hb'⟩; rw [Hv.out]; have hM' := hM.call hb'; clear hM hb'; have hM := hM'; clear hM') | (have _t := tk_b1; refine wpList_box rfl _ _ rfl _ _ rfl hM ?_; intro b1 W' hb1 hM'; clear hM tk_b1; have hM := hM'; clear hM'))
    go_ret2
    exact ⟨ret_num Hr.out.1.symm Hr.out.2.symm, hM.below⟩
  have Hr := Lib.hid (need_ok hv)
  have Hq := Lib.hid (goats_eats hv)
  have Hs := Lib.hid (eatsN_in (goats_eats hv).2)
  have hn20 := (goats_eats hv).1
  have Hv := Lib.hid hv
  clear hv
  go_enter Tryd.func46, Tryd.ntmps46
  go_wp2_with (first | (go_at_call 82; (with_reducible refine (l02Ok_any g hg b1 b n c hs HF.out hn _ (hM.ats 0 _ _ _ rfl) (hM.ats 1 _ _ _ rfl) (hM.apart 0 1 _ _ rfl rfl (by omega))).mono ?_); rintro e W' ⟨rfl, hb'⟩; rw [Hv.out]; have hM' := hM.call hb'; clear hM hb'; have hM := hM'; clear hM') | (have _t := tk_b1; refine wpList_box rfl _ _ rfl _ _ rfl hM ?_; intro b1 W' hb1 hM'; clear hM tk_b1; have hM := hM'; clear hM'))
  go_loopw [6, 7] (fun s i wr => ∃ k : Nat, k ≤ n ∧ s = .int .i64 (eatsN hs k) ∧ i = .int .i64 k ∧ Mem w [(b1, 122, pas g), (b, n * 7, gts hs)] wr) (fun _ i _ => n - (intOf i).toNat)
  case atStart => exact ⟨0, by omega, rfl, rfl, hM⟩
  case round =>
    clear hM
    obtain ⟨k, hk, rfl, rfl, hM⟩ := hrel
    by_cases hlt : k < n
    · have l2 : (k : Int) < n := by omega
      have e5 := gts_5 hs k
      have h5 := Hq.out.2 k hlt
      have hs5 := Hs.out k hk
      have c5 : IntKind.i64.wrap (hs k 5) = hs k 5 := IntWalk.i64_in _ (by omega)
      have c6 : IntKind.i64.wrap (eatsN hs k + hs k 5) = eatsN hs (k + 1) := IntWalk.i64_in _ (by omega)
      clear h5 hs5
      have tk_q1 : True := trivial
      go_wp2_with (first | (have _t := tk_q1; (refine wpList_get1 rfl _ _ rfl _ _ rfl hM 1 rfl (cellTab _ rfl) (by omega) _ e5 ?_); clear tk_q1))
      go_roundw
      case rel => exact ⟨k + 1, by omega, rfl, by go_num, hM⟩
      case measure => simp [intOf]; omega
    · obtain rfl : k = n := by omega
      go_wp2
      go_ret2
      exact ⟨ret_num Hr.out.1.symm Hr.out.2.symm, hM.below⟩

set_option maxRecDepth 100000 in
set_option maxHeartbeats 1000000 in
theorem implNeedOf_any {a : Nat → Addr} (g : Nat → Int) (hg : Fits g) (b n c : Nat) (hs : Nat → Nat → Int) (hF : ∀ i, i < n → FitsG (hs i)) (hn : n ≤ 1048576) (w : World) (hB : At w b (n * 7) (gts hs)) (hE : Errs a w) :
    Calls Tryd.prog 48 #[.agg (arr 122 (pas g)), .slice (some ⟨b, 0, none⟩) n c] w fun e w' => e = .returned (numR (needN g n hs) (needC g n hs)) ∧ Below w.heap.size w w' := by
  have hM : Mem w [(b, n * 7, gts hs)] w := (Mem.nil w).old hB (fun i p h => by simp at h)
  have HF := Lib.hid hF
  have HE := Lib.hid hE
  clear hF hB hE
  have tk_b1 : True := trivial; have tk_q0 : True := trivial
  cases hv : goatsB g n hs
  · have Hr := Lib.hid (need_no hv)
    have Hv := Lib.hid hv
    clear hv
    go_enter Tryd.func48, Tryd.ntmps48
    go_wp2_with (first | (go_at_call 84; (with_reducible refine (checkGoats_bad g hg b n c hs HF.out hn _ (hM.ats 1 _ _ _ rfl) (HE.out.below hM.below) Hv.out).mono ?_); rintro e W' ⟨rfl, hb'⟩; have hM' := hM.call hb'; clear hM hb'; have hM := hM'; clear hM') | (go_at_call 53; (with_reducible refine (codeOf_0 (HE.out.below hM.below)).mono ?_); rintro e W' ⟨rfl, rfl⟩) | (have _t := tk_b1; refine wpList_box rfl _ _ rfl _ _ rfl hM ?_; intro b1 W' hb1 hM'; clear hM tk_b1; have hM := hM'; clear hM') | (have _t := tk_q0; (refine wpList_get rfl _ _ rfl _ _ rfl hM 0 rfl (rowTab _ _ rfl) (by omega) ?_); clear tk_q0))
    go_ret2
    exact ⟨ret_num Hr.out.1.symm Hr.out.2.symm, hM.below⟩
  have Hr := Lib.hid (need_ok hv)
  have Hq := Lib.hid (goats_eats hv)
  have Hs := Lib.hid (eatsN_in (goats_eats hv).2)
  have hn20 := (goats_eats hv).1
  have Hv := Lib.hid hv
  clear hv
  go_enter Tryd.func48, Tryd.ntmps48
  go_wp2_with (first | (go_at_call 84; (with_reducible refine (checkGoats_ok g hg b n c hs HF.out hn _ (hM.ats 1 _ _ _ rfl) Hv.out).mono ?_); rintro e W' ⟨rfl, hb'⟩; have hM' := hM.call hb'; clear hM hb'; have hM := hM'; clear hM') | (have _t := tk_b1; refine wpList_box rfl _ _ rfl _ _ rfl hM ?_; intro b1 W' hb1 hM'; clear hM tk_b1; have hM := hM'; clear hM') | (have _t := tk_q0; (refine wpList_get rfl _ _ rfl _ _ rfl hM 0 rfl (rowTab _ _ rfl) (by omega) ?_); clear tk_q0))
  go_loopw [7, 19] (fun s i wr => ∃ k : Nat, k ≤ n ∧ s = .int .i64 (eatsN hs k) ∧ i = .int .i64 k ∧ Mem w [(b1, 122, pas g), (b, n * 7, gts hs)] wr) (fun _ i _ => n - (intOf i).toNat)
  case atStart => exact ⟨0, by omega, rfl, rfl, hM⟩
  case round =>
    clear hM
    obtain ⟨k, hk, rfl, rfl, hM⟩ := hrel
    by_cases hlt : k < n
    · have l2 : (k : Int) < n := by omega
      have e5 := fun z => lay_5 z hs k
      have h5 := Hq.out.2 k hlt
      have hs5 := Hs.out k hk
      have c5 : IntKind.i64.wrap (hs k 5) = hs k 5 := IntWalk.i64_in _ (by omega)
      have c6 : IntKind.i64.wrap (eatsN hs k + hs k 5) = eatsN hs (k + 1) := IntWalk.i64_in _ (by omega)
      clear h5 hs5
      have tk_q1 : True := trivial; have tk_q2 : True := trivial; have tk_q3 : True := trivial; have tk_b3 : True := trivial
      go_wp2_with (first | (have _t := tk_q1; (refine wpList_get rfl _ _ rfl _ _ rfl hM 1 rfl (rowTab _ _ rfl) (by omega) ?_); clear tk_q1) | (have _t := tk_b3; refine wpList_zero rfl _ rfl (zeroTab _ _ _ rfl) hM ?_; intro b3 W' hb3 hM'; clear hM tk_b3; have hM := hM'; clear hM') | (have _t := tk_q2; (refine wpList_lay rfl _ _ _ rfl _ _ rfl _ _ rfl hM 0 rfl (by assumption) (rowTab _ _ rfl) (by omega) ?_ ?_; (first | (intro _ _; rfl) | (intro k _; exact h1 _) | (intro k _; simp only [lay, upd]; (repeat' split) <;> first | exact h1 _ | rfl)); intro W' hM'; clear hM; have hM := hM'; clear hM'; simp only [List.set] at hM); clear tk_q2) | (have _t := tk_q3; (refine wpList_get1 rfl _ _ rfl _ _ rfl hM 0 rfl (cellTab _ rfl) (by omega) _ (e5 _) ?_); clear tk_q3))
      go_roundw
      case rel => exact ⟨k + 1, by omega, rfl, by go_num, hM.drop⟩
      case measure => simp [intOf]; omega
    · obtain rfl : k = n := by omega
      go_wp2
      go_ret2
      exact ⟨ret_num Hr.out.1.symm Hr.out.2.symm, hM.below⟩


set_option maxRecDepth 100000 in
set_option maxHeartbeats 2000000 in
theorem lawNeedOf_any {a : Nat → Addr} (g : Nat → Int) (hg : Fits g) (v : Value) (n : Nat) (hs : Nat → Nat → Int) (hn : n ≤ maxLen) (hF : ∀ i, i < n → FitsG (hs i)) (w : World) (hE : Errs a w) (h : GoatArg w v n hs) :
    Calls Tryd.prog 14 #[.agg (arr 122 (pas g)), v] w fun e w' => e = .returned (.bool true) ∧ Below w.heap.size w w' := by
  have hM := Mem.nil w
  have HG := Lib.hid h
  have Hn := Lib.hid hn
  have HF := Lib.hid hF
  have HE := Lib.hid hE
  have Hz := Lib.hid (numR_eq (needN g n hs) (needC g n hs))
  clear h hn hF hE
  by_cases h1 : 1048576 < n
  · have tk_c1 : True := trivial
    go_enter Tryd.func14, Tryd.ntmps14
    go_wp2_with (first | (go_at_call 45; (with_reducible refine (szGoatS_no v n hs 1048576 Hn.out (by omega) (by omega) (by omega) _ (HG.out.below hM.below)).mono ?_); rintro e W' ⟨rfl, hb'⟩; have hM' := hM.call hb'; clear hM hb'; have hM := hM'; clear hM') | (have _t := tk_c1; refine wpList_box rfl _ _ rfl _ _ rfl hM ?_; intro c1 W' hc1 hM'; clear hM tk_c1; have hM := hM'; clear hM'))
    go_ret
    exact ⟨rfl, hM.below⟩
  have d0 : decide ((1048576 : Int) - n < 0) = false := decide_eq_false (by omega)
  have d0' : decide ((1048576 : Int) < n) = false := decide_eq_false (by omega)
  have hn1 : n ≤ 1048576 := by omega
  have tk_c1 : True := trivial; have tk_b1 : True := trivial; have tk_b2 : True := trivial; have tk_b3 : True := trivial; have tk_q1 : True := trivial; have tk_q2 : True := trivial
  go_enter Tryd.func14, Tryd.ntmps14
  go_wp2_with (first | (go_at_call 45; (with_reducible refine (szGoatS_yes v n hs 1048576 (by omega) (by omega) _ (HG.out.below hM.below)).mono ?_); rintro e W' ⟨rfl, hb'⟩; have hM' := hM.call hb'; clear hM hb'; have hM := hM'; clear hM') | (go_at_call 19; (with_reducible refine (toPasture_pas g _).mono ?_); rintro e W' ⟨rfl, hb'⟩; have hM' := hM.call hb'; clear hM hb'; have hM := hM'; clear hM') | (have _t := tk_b1; go_at_call 47; (with_reducible refine (toGoatS_any v n hs hn1 _ (HG.out.below hM.below)).mono ?_); rintro e W' ⟨b1, rfl, hb1, hA', hcb⟩; have hM' := hM.fresh' hcb hA' hb1; simp only [List.cons_append, List.nil_append] at hM'; clear hM hcb hA' tk_b1; have hM := hM'; clear hM') | (have _t := tk_b2; go_at_call 47; (with_reducible refine (toGoatS_any v n hs hn1 _ (HG.out.below hM.below)).mono ?_); rintro e W' ⟨b2, rfl, hb2, hA', hcb⟩; have hM' := hM.fresh' hcb hA' hb2; simp only [List.cons_append, List.nil_append] at hM'; clear hM hcb hA' tk_b2; have hM := hM'; clear hM') | (have _t := tk_b3; go_at_call 47; (with_reducible refine (toGoatS_any v n hs hn1 _ (HG.out.below hM.below)).mono ?_); rintro e W' ⟨b3, rfl, hb3, hA', hcb⟩; have hM' := hM.fresh' hcb hA' hb3; simp only [List.cons_append, List.nil_append] at hM'; clear hM hcb hA' tk_b3; have hM := hM'; clear hM') | (go_at_call 46; (with_reducible refine (specNeedOf_any g hg _ n n hs HF.out hn1 _ (hM.ats 1 _ _ _ rfl)).mono ?_); rintro e W' ⟨rfl, hb'⟩; rw [Hz.out]; have hM' := hM.call hb'; clear hM hb'; have hM := hM'; clear hM') | (go_at_call 48; (with_reducible refine (implNeedOf_any g hg _ n n hs HF.out hn1 _ (hM.ats 2 _ _ _ rfl) (HE.out.below hM.below)).mono ?_); rintro e W' ⟨rfl, hb'⟩; rw [Hz.out]; have hM' := hM.call hb'; clear hM hb'; have hM := hM'; clear hM') | (go_at_call 49; (with_reducible refine (eqGoatS_same _ _ n n n hs Hn.out _ (hM.ats 2 _ _ _ rfl) (hM.ats 3 _ _ _ rfl) (hM.apart 2 3 _ _ rfl rfl (by omega))).mono ?_); rintro e W' ⟨rfl, hb'⟩; have hM' := hM.call hb'; clear hM hb'; have hM := hM'; clear hM') | (have _t := tk_c1; refine wpList_box rfl _ _ rfl _ _ rfl hM ?_; intro c1 W' hc1 hM'; clear hM tk_c1; have hM := hM'; clear hM') | (have _t := tk_q1; (refine wpList_get rfl _ _ rfl _ _ rfl hM 0 rfl (rowTab _ _ rfl) (by omega) ?_); clear tk_q1) | (have _t := tk_q2; (refine wpList_get rfl _ _ rfl _ _ rfl hM 0 rfl (rowTab _ _ rfl) (by omega) ?_); clear tk_q2))
  go_ret
  exact ⟨rfl, hM.below⟩
end Go.Proofs.YtdlfhomnlhdacaaDoor
