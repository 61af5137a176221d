/-
  spec.DaysTo and impl.DaysTo by contracts; laws.FnExactDaysTo returns true.
-/
import Derived.Test.YtjfmhnbbdkejeaaDoorGrowCell
import Derived.Test.YtjfmhnbbdkejeaaDoorErrO
namespace Go.Proofs.YtjfmhnbbdkejeaaDoor
open Go Go.RowKit Go.BigFrame

/-- How much a cell has a day later, as a natural number. -/
def stepN (h : Nat → Int) (n : Nat) : Nat := (laterN h n).toNat
theorem stepN_eq {h : Nat → Int} (e : growB h = true) {n : Nat} (hn : n ≤ 1000) : ((stepN h n : Nat) : Int) = laterN h n ∧ stepN h n ≤ 1000 := by
  have := later_in e hn
  unfold stepN
  omega
/-- The days until there is so much, of so many that are left. -/
def goD (h : Nat → Int) (to : Int) : Nat → Nat → Nat → Int × Int
  | 0, _, _ => (0, 6)
  | fuel + 1, d, n => if to ≤ (n : Int) then ((d : Int), 0) else goD h to fuel (d + 1) (stepN h n)
theorem goD_end (h : Nat → Int) (to : Int) (d n : Nat) : goD h to 0 d n = (0, 6) := rfl
theorem goD_yes {h : Nat → Int} {to : Int} {fuel d n : Nat} (hf : 0 < fuel) (e : to ≤ (n : Int)) : goD h to fuel d n = ((d : Int), 0) := by
  obtain ⟨f, rfl⟩ : ∃ f, fuel = f + 1 := ⟨fuel - 1, by omega⟩
  simp [goD, e]
theorem goD_no {h : Nat → Int} {to : Int} {fuel d n : Nat} (hf : 0 < fuel) (e : ¬ to ≤ (n : Int)) : goD h to fuel d n = goD h to (fuel - 1) (d + 1) (stepN h n) := by
  obtain ⟨f, rfl⟩ : ∃ f, fuel = f + 1 := ⟨fuel - 1, by omega⟩
  simp [goD, e]
/-- What DaysTo answers. -/
def dayR (h : Nat → Int) (f t : Int) : Int × Int := if growB h then (if inB 0 1000 f && inB 0 1000 t then goD h t 366 0 f.toNat else (0, 2)) else (0, 1)
theorem day_no {h : Nat → Int} {f t : Int} (e : growB h = false) : dayR h f t = (0, 1) := by simp [dayR, e]
theorem day_out {h : Nat → Int} {f t : Int} (e : growB h = true) (e' : (inB 0 1000 f && inB 0 1000 t) = false) : dayR h f t = (0, 2) := by simp [dayR, e, e']
theorem day_ok {h : Nat → Int} {f : Nat} {t : Int} (e : growB h = true) (e' : (inB 0 1000 (f : Int) && inB 0 1000 t) = true) : dayR h f t = goD h t 366 0 f := by simp [dayR, e, e']
def DayIn (h : Nat → Int) (t : Int) (R : Int × Int) (w : World) (L : Blocks) (from_ i : Value) (wr : World) : Prop :=
  ∃ d n : Nat, d ≤ 366 ∧ n ≤ 1000 ∧ from_ = .int .i64 n ∧ i = .int .i64 d ∧ goD h t (366 - d) d n = R ∧ Mem w L wr

set_option maxRecDepth 100000 in
set_option maxHeartbeats 2000000 in
theorem specDaysTo_any (h : Nat → Int) (hF : FitsW h) (f t : Int) (w : World) :
    Calls Tryd.prog 27 #[.agg (arr 12 (gro h)), .int .i64 f, .int .i64 t] w fun e w' => e = .returned (numR (dayR h f t).1 (dayR h f t).2) ∧ Below w.heap.size w w' := by
  have hM := Mem.nil w
  have HF := Lib.hid hF
  clear hF
  have tk_b1 : True := trivial
  cases hv : growB h
  · have Hr := Lib.hid (day_no (f := f) (t := t) hv)
    have Hv := Lib.hid hv
    clear hv
    go_enter Tryd.func27, Tryd.ntmps27
    go_wp2_with (first | (have _t := tk_b1; refine wpList_box rfl _ _ rfl _ _ rfl hM ?_; intro b1 W' hb1 hM'; clear hM tk_b1; have hM := hM'; clear hM') | (go_at_call 58; (with_reducible refine (l04Ok_any h HF.out b1 _ (hM.ats 0 _ _ _ rfl)).mono ?_); rintro e W' ⟨rfl, hb'⟩; rw [Hv.out]; have hM' := hM.call hb'; clear hM hb'; have hM := hM'; clear hM'))
    go_ret2
    exact ⟨ret_num (by rw [Hr.out]) (by rw [Hr.out]), hM.below⟩
  have Hv := Lib.hid hv
  cases hi : inB 0 1000 f
  · have Hr := Lib.hid (day_out (t := t) hv (by rw [hi]; rfl : (inB 0 1000 f && inB 0 1000 t) = false))
    have Hi := Lib.hid hi
    clear hv hi
    go_enter Tryd.func27, Tryd.ntmps27
    go_wp2_with (first | (have _t := tk_b1; refine wpList_box rfl _ _ rfl _ _ rfl hM ?_; intro b1 W' hb1 hM'; clear hM tk_b1; have hM := hM'; clear hM') | (go_at_call 58; (with_reducible refine (l04Ok_any h HF.out b1 _ (hM.ats 0 _ _ _ rfl)).mono ?_); rintro e W' ⟨rfl, hb'⟩; rw [Hv.out]; have hM' := hM.call hb'; clear hM hb'; have hM := hM'; clear hM') | (go_at_call 59; (with_reducible refine (l01Grass_any f _).mono ?_); rintro e W' ⟨rfl, hb'⟩; rw [Hi.out]; have hM' := hM.call hb'; clear hM hb'; have hM := hM'; clear hM'))
    go_ret2
    exact ⟨ret_num (by rw [Hr.out]) (by rw [Hr.out]), hM.below⟩
  cases hj : inB 0 1000 t
  · have Hr := Lib.hid (day_out (t := t) hv (by rw [hi, hj]; rfl : (inB 0 1000 f && inB 0 1000 t) = false))
    have Hi := Lib.hid hi
    have Hj := Lib.hid hj
    clear hv hi hj
    go_enter Tryd.func27, Tryd.ntmps27
    go_wp2_with (first | (have _t := tk_b1; refine wpList_box rfl _ _ rfl _ _ rfl hM ?_; intro b1 W' hb1 hM'; clear hM tk_b1; have hM := hM'; clear hM') | (go_at_call 58; (with_reducible refine (l04Ok_any h HF.out b1 _ (hM.ats 0 _ _ _ rfl)).mono ?_); rintro e W' ⟨rfl, hb'⟩; rw [Hv.out]; have hM' := hM.call hb'; clear hM hb'; have hM := hM'; clear hM') | (go_at_call 59; (with_reducible refine (l01Grass_any f _).mono ?_); rintro e W' ⟨rfl, hb'⟩; rw [Hi.out]; have hM' := hM.call hb'; clear hM hb'; have hM := hM'; clear hM') | (go_at_call 59; (with_reducible refine (l01Grass_any t _).mono ?_); rintro e W' ⟨rfl, hb'⟩; rw [Hj.out]; have hM' := hM.call hb'; clear hM hb'; have hM := hM'; clear hM'))
    go_ret2
    exact ⟨ret_num (by rw [Hr.out]) (by rw [Hr.out]), hM.below⟩
  have hb := inB_true hi
  obtain ⟨f, rfl⟩ : ∃ m : Nat, f = m := ⟨f.toNat, by omega⟩
  have Hr := Lib.hid (day_ok hv (by rw [hi, hj]; rfl : (inB 0 1000 (f : Int) && inB 0 1000 t) = true))
  have Hi := Lib.hid hi
  have Hj := Lib.hid hj
  clear hv hi hj
  go_enter Tryd.func27, Tryd.ntmps27
  go_wp2_with (first | (have _t := tk_b1; refine wpList_box rfl _ _ rfl _ _ rfl hM ?_; intro b1 W' hb1 hM'; clear hM tk_b1; have hM := hM'; clear hM') | (go_at_call 58; (with_reducible refine (l04Ok_any h HF.out b1 _ (hM.ats 0 _ _ _ rfl)).mono ?_); rintro e W' ⟨rfl, hb'⟩; rw [Hv.out]; have hM' := hM.call hb'; clear hM hb'; have hM := hM'; clear hM') | (go_at_call 59; (with_reducible refine (l01Grass_any _ _).mono ?_); rintro e W' ⟨rfl, hb'⟩; rw [Hi.out]; have hM' := hM.call hb'; clear hM hb'; have hM := hM'; clear hM') | (go_at_call 59; (with_reducible refine (l01Grass_any t _).mono ?_); rintro e W' ⟨rfl, hb'⟩; rw [Hj.out]; have hM' := hM.call hb'; clear hM hb'; have hM := hM'; clear hM'))
  go_loopw [1, 8] (fun n i wr => DayIn h t (goD h t 366 0 f) w [(b1, 12, gro h)] n i wr) (fun _ i _ => 366 - (intOf i).toNat)
  case atStart => exact ⟨0, f, by omega, by omega, rfl, rfl, rfl, hM⟩
  case round =>
    clear hM
    obtain ⟨d, n, hd, hn, rfl, rfl, hg, hM⟩ := hrel
    have Hg := Lib.hid hg
    clear hg
    by_cases hlt : d < 366
    · have ld : (d : Int) ≤ 365 := by omega
      by_cases ht : t ≤ (n : Int)
      · have Hq := Lib.hid (goD_yes (h := h) (d := d) (show 0 < 366 - d by omega) ht)
        go_wp2
        go_ret2
        exact ⟨ret_num (by rw [Hr.out, ← Hg.out, Hq.out]) (by rw [Hr.out, ← Hg.out, Hq.out]), hM.below⟩
      · have Hq := Lib.hid (goD_no (h := h) (d := d) (show 0 < 366 - d by omega) ht)
        have Hs := Lib.hid (stepN_eq Hv.out hn)
        go_wp2_with (first | (go_at_call 60; (with_reducible refine (l04Cell_any h Hv.out b1 n hn _ (hM.ats 0 _ _ _ rfl)).mono ?_); rintro e W' ⟨rfl, hb'⟩; have hM' := hM.call hb'; clear hM hb'; have hM := hM'; clear hM'))
        go_roundw
        case rel => exact (⟨d + 1, stepN h n, by omega, Hs.out.2, by rw [Hs.out.1], by go_num, (by rw [show 366 - (d + 1) = 366 - d - 1 by omega, ← Hq.out]; exact Hg.out), hM⟩ : DayIn h t (goD h t 366 0 f) w _ _ _ _)
        case measure => simp [intOf]; omega
    · obtain rfl : d = 366 := by omega
      go_wp2
      go_ret2
      exact ⟨ret_num (by rw [Hr.out, ← Hg.out, goD_end]) (by rw [Hr.out, ← Hg.out, goD_end]), hM.below⟩

set_option maxRecDepth 100000 in
set_option maxHeartbeats 2000000 in
theorem implDaysTo_any {a : Nat → Addr} (h : Nat → Int) (hF : FitsW h) (f t : Int) (w : World) (hE : Errs a w) :
    Calls Tryd.prog 28 #[.agg (arr 12 (gro h)), .int .i64 f, .int .i64 t] w fun e w' => e = .returned (numR (dayR h f t).1 (dayR h f t).2) ∧ Below w.heap.size w w' := by
  have hM := Mem.nil w
  have HF := Lib.hid hF
  have HE := Lib.hid hE
  clear hF hE
  have tk_b1 : True := trivial; have tk_g1 : True := trivial; have tk_g2 : True := trivial
  cases hv : growB h
  · have Hr := Lib.hid (day_no (f := f) (t := t) hv)
    have Hv := Lib.hid hv
    clear hv
    go_enter Tryd.func28, Tryd.ntmps28
    go_wp2_with (first | (have _t := tk_b1; refine wpList_box rfl _ _ rfl _ _ rfl hM ?_; intro b1 W' hb1 hM'; clear hM tk_b1; have hM := hM'; clear hM') | (refine wpList_get rfl _ _ rfl _ _ rfl hM 0 rfl (rowTab _ _ rfl) (by omega) ?_) | (go_at_call 62; (with_reducible refine (checkGrowth_no h HF.out _ (HE.out.below hM.below) Hv.out).mono ?_); rintro e W' ⟨rfl, hb'⟩; have hM' := hM.call hb'; clear hM hb'; have hM := hM'; clear hM') | (go_at_call 50; (with_reducible refine (codeOf_0 (HE.out.below hM.below)).mono ?_); rintro e W' ⟨rfl, rfl⟩))
    go_ret2
    exact ⟨ret_num (by rw [Hr.out]) (by rw [Hr.out]), hM.below⟩
  have Hv := Lib.hid hv
  cases hi : (inB 0 1000 f && inB 0 1000 t)
  · have Hr := Lib.hid (day_out (t := t) hv hi)
    have Hc := Lib.hid (cnt2_yes (show (!inB 0 1000 f || !inB 0 1000 t) = true by rw [← Bool.not_and, hi]; rfl))
    have Hl := Lib.hid (Nat.le_trans (cntE_le (es2 (!inB 0 1000 f) (!inB 0 1000 t)) 2) (show 2 ≤ 1000 by omega))
    clear hv hi
    go_enter Tryd.func28, Tryd.ntmps28
    go_wp2_with (first | (have _t := tk_b1; refine wpList_box rfl _ _ rfl _ _ rfl hM ?_; intro b1 W' hb1 hM'; clear hM tk_b1; have hM := hM'; clear hM') | (have _t := tk_g1; (refine wpList_get rfl _ _ rfl _ _ rfl hM 0 rfl (rowTab _ _ rfl) (by omega) ?_); clear tk_g1) | (go_at_call 62; (with_reducible refine (checkGrowth_yes h HF.out _ Hv.out).mono ?_); rintro e W' ⟨rfl, hb'⟩; have hM' := hM.call hb'; clear hM hb'; have hM := hM'; clear hM') | (go_at_call 63; (with_reducible refine (checkGrass_any _ _ (HE.out.below hM.below)).mono ?_); rintro e W' ⟨rfl, hb'⟩; have hM' := hM.call hb'; clear hM hb'; have hM := hM'; clear hM') | (refine wpList_lit2 rfl _ _ _ _ rfl (errO (a 1) (!inB 0 1000 f)) (errO (a 1) (!inB 0 1000 t)) rfl rfl (errO_one _ _) (errO_one _ _) _ errs_under err_info2 hM ?_; intro bn W' hbn hM'; clear hM; have hM := hM'; clear hM') | (go_at_call 65; refine (join_some (a 1) (es2 (!inB 0 1000 f) (!inB 0 1000 t)) _ 2 2 (by omega) Hc.out _ ((hM.ats 0 _ _ _ rfl).congr (lit2_errE _ _ _))).mono ?_; rintro e W' ⟨jb, rfl, hJ, hb'⟩; have hM' := hM.call hb'; clear hM hb'; have hM := hM'; clear hM') | (go_at_call 50; (refine (codeJ_1 jb _ Hc.out Hl.out (HE.out.below hM.below) hJ).mono ?_); rintro e W' ⟨rfl, rfl⟩))
    go_ret2
    exact ⟨ret_num (by rw [Hr.out]) (by rw [Hr.out]), hM.below⟩
  have hi' := hi
  rw [Bool.and_eq_true] at hi
  have hb := inB_true hi.1
  obtain ⟨f, rfl⟩ : ∃ m : Nat, f = m := ⟨f.toNat, by omega⟩
  have Hr := Lib.hid (day_ok hv hi')
  have Hi := Lib.hid hi.1
  have Hj := Lib.hid hi.2
  clear hv hi hi'
  go_enter Tryd.func28, Tryd.ntmps28
  go_wp2_with (first | (have _t := tk_b1; refine wpList_box rfl _ _ rfl _ _ rfl hM ?_; intro b1 W' hb1 hM'; clear hM tk_b1; have hM := hM'; clear hM') | (have _t := tk_g1; (refine wpList_get rfl _ _ rfl _ _ rfl hM 0 rfl (rowTab _ _ rfl) (by omega) ?_); clear tk_g1) | (go_at_call 62; (with_reducible refine (checkGrowth_yes h HF.out _ Hv.out).mono ?_); rintro e W' ⟨rfl, hb'⟩; have hM' := hM.call hb'; clear hM hb'; have hM := hM'; clear hM') | (go_at_call 63; (with_reducible refine (checkGrass_yes _ _ Hi.out).mono ?_); rintro e W' ⟨rfl, hb'⟩; have hM' := hM.call hb'; clear hM hb'; have hM := hM'; clear hM') | (go_at_call 63; (with_reducible refine (checkGrass_yes _ _ Hj.out).mono ?_); rintro e W' ⟨rfl, hb'⟩; have hM' := hM.call hb'; clear hM hb'; have hM := hM'; clear hM') | (refine wpList_lit2 rfl _ _ _ _ rfl (errO (a 1) false) (errO (a 1) false) rfl rfl (errO_one _ _) (errO_one _ _) _ errs_under err_info2 hM ?_; intro bn W' hbn hM'; clear hM; have hM := hM'; clear hM') | (go_at_call 65; refine (join_none (a 1) (es2 false false) _ 2 2 (by omega) cnt2_no _ ((hM.ats 0 _ _ _ rfl).congr (lit2_errE _ _ _))).mono ?_; rintro e W' ⟨rfl, hb'⟩; have hM' := hM.call hb'; clear hM hb'; have hM := hM'.drop; clear hM'))
  go_loopw [1, 27] (fun n i wr => DayIn h t (goD h t 366 0 f) w [(b1, 12, gro h)] n i wr) (fun _ i _ => 366 - (intOf i).toNat)
  case atStart => exact ⟨0, f, by omega, by omega, rfl, rfl, rfl, hM⟩
  case round =>
    clear hM
    obtain ⟨d, n, hd, hn, rfl, rfl, hg, hM⟩ := hrel
    have Hg := Lib.hid hg
    clear hg
    by_cases hlt : d < 366
    · have ld : (d : Int) < 366 := by omega
      by_cases ht : t ≤ (n : Int)
      · have Hq := Lib.hid (goD_yes (h := h) (d := d) (show 0 < 366 - d by omega) ht)
        go_wp2
        go_ret2
        exact ⟨ret_num (by rw [Hr.out, ← Hg.out, Hq.out]) (by rw [Hr.out, ← Hg.out, Hq.out]), hM.below⟩
      · have Hq := Lib.hid (goD_no (h := h) (d := d) (show 0 < 366 - d by omega) ht)
        have Hs := Lib.hid (stepN_eq Hv.out hn)
        go_wp2_with (first | (refine wpList_get rfl _ _ rfl _ _ rfl hM 0 rfl (rowTab _ _ rfl) (by omega) ?_) | (go_at_call 64; (with_reducible refine (later_any h Hv.out n hn _).mono ?_); rintro e W' ⟨rfl, hb'⟩; have hM' := hM.call hb'; clear hM hb'; have hM := hM'; clear hM'))
        go_roundw
        case rel => exact (⟨d + 1, stepN h n, by omega, Hs.out.2, by rw [Hs.out.1], by go_num, (by rw [show 366 - (d + 1) = 366 - d - 1 by omega, ← Hq.out]; exact Hg.out), hM⟩ : DayIn h t (goD h t 366 0 f) w _ _ _ _)
        case measure => simp [intOf]; omega
    · obtain rfl : d = 366 := by omega
      go_wp2
      go_ret2
      exact ⟨ret_num (by rw [Hr.out, ← Hg.out, goD_end]) (by rw [Hr.out, ← Hg.out, goD_end]), hM.below⟩

set_option maxRecDepth 100000 in
set_option maxHeartbeats 1000000 in
theorem lawDaysTo_any {a : Nat → Addr} (h : Nat → Int) (hF : FitsW h) (f t : Int) (w : World) (hE : Errs a w) :
    Calls Tryd.prog 6 #[.agg (arr 12 (gro h)), .int .i64 f, .int .i64 t] w fun e w' => e = .returned (.bool true) ∧ Below w.heap.size w w' := by
  have hM := Mem.nil w
  have HE := Lib.hid hE
  have hS := fun W => specDaysTo_any h hF f t W
  have hI := fun W hE => implDaysTo_any (a := a) h hF f t W hE
  generalize dayR h f t = R at hS hI
  obtain ⟨r, s⟩ := R
  have Hz := Lib.hid (numR_eq r s)
  have HS := Lib.hid hS
  have HI := Lib.hid hI
  clear hE hS hI
  have tk_b1 : True := trivial
  go_enter Tryd.func6, Tryd.ntmps6
  go_wp2_with (first | (have _t := tk_b1; refine wpList_box rfl _ _ rfl _ _ rfl hM ?_; intro b1 W' hb1 hM'; clear hM tk_b1; have hM := hM'; clear hM') | (refine wpList_get rfl _ _ rfl _ _ rfl hM 0 rfl (rowTab _ _ rfl) (by omega) ?_) | (go_at_call 25; (with_reducible refine (toGrowth_gro h _).mono ?_); rintro e W' ⟨rfl, hb'⟩; have hM' := hM.call hb'; clear hM hb'; have hM := hM'; clear hM') | (go_at_call 27; (with_reducible refine (HS.out _).mono ?_); rintro e W' ⟨rfl, hb'⟩; rw [Hz.out]; have hM' := hM.call hb'; clear hM hb'; have hM := hM'; clear hM') | (go_at_call 28; (with_reducible refine (HI.out _ (HE.out.below hM.below)).mono ?_); rintro e W' ⟨rfl, hb'⟩; rw [Hz.out]; have hM' := hM.call hb'; clear hM hb'; have hM := hM'; clear hM'))
  go_ret
  exact ⟨rfl, hM.below⟩
end Go.Proofs.YtjfmhnbbdkejeaaDoor
