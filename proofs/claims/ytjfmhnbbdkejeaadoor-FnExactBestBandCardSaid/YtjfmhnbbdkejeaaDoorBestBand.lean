/-
  spec.BestBand and impl.BestBand by contracts; laws.FnExactBestBand returns true.
-/
import Derived.Test.YtjfmhnbbdkejeaaDoorFeedHay
import Derived.Test.YtjfmhnbbdkejeaaDoorGrowCell
namespace Go.Proofs.YtjfmhnbbdkejeaaDoor
open Go Go.RowKit Go.BigFrame

/-- The first place of the greatest of the numbers up to k. -/
def bestK (h : Nat → Int) : Nat → Nat
  | 0 => 0
  | k + 1 => if h (bestK h k) < h (k + 1) then k + 1 else bestK h k
theorem bestK_le (h : Nat → Int) : ∀ k, bestK h k ≤ k
  | 0 => Nat.le_refl _
  | k + 1 => by
    have := bestK_le h k
    simp only [bestK]; split <;> omega
theorem bestK_max (h : Nat → Int) : ∀ k j, j ≤ k → h j ≤ h (bestK h k)
  | 0, j, hj => by obtain rfl : j = 0 := by omega
                   exact Int.le_refl _
  | k + 1, j, hj => by
    simp only [bestK]
    by_cases e : j = k + 1
    · subst e; split <;> omega
    · have := bestK_max h k j (by omega)
      split <;> omega
theorem bestK_first (h : Nat → Int) : ∀ k j, j < bestK h k → h j < h (bestK h k)
  | 0, j, hj => by simp [bestK] at hj
  | k + 1, j, hj => by
    simp only [bestK] at hj ⊢
    split at hj
    · rename_i hlt
      rw [if_pos hlt]
      have := bestK_max h k j (by omega)
      omega
    · rename_i hlt
      rw [if_neg hlt]
      exact bestK_first h k j hj
theorem bestK_yes {h : Nat → Int} {k : Nat} (e : h (bestK h k) < h (k + 1)) : bestK h (k + 1) = k + 1 := by simp [bestK, e]
theorem bestK_no {h : Nat → Int} {k : Nat} (e : ¬ h (bestK h k) < h (k + 1)) : bestK h (k + 1) = bestK h k := by simp [bestK, e]
/-- What BestBand answers. -/
def bandR (h : Nat → Int) : Value := if growB h then num3 (bestK h 10 : Nat) (h (bestK h 10)) 0 else num3 0 0 1
theorem band_no {h : Nat → Int} (e : growB h = false) : bandR h = num3 0 0 1 := by simp [bandR, e]
theorem band_ok {h : Nat → Int} (e : growB h = true) : bandR h = num3 (bestK h 10 : Nat) (h (bestK h 10)) 0 := by simp [bandR, e]
theorem bandR_num (h : Nat → Int) : ∃ r s c, bandR h = num3 r s c := by
  unfold bandR; split <;> exact ⟨_, _, _, rfl⟩

set_option maxRecDepth 100000 in
set_option maxHeartbeats 2000000 in
theorem specBestBand_any (h : Nat → Int) (hF : FitsW h) (w : World) :
    Calls Tryd.prog 29 #[.agg (arr 12 (gro h))] w fun e w' => e = .returned (bandR h) ∧ Below w.heap.size w w' := by
  have hM := Mem.nil w
  have HF := Lib.hid hF
  clear hF
  have tk_b1 : True := trivial
  cases hv : growB h
  · have Hr := Lib.hid (band_no hv)
    have Hv := Lib.hid hv
    clear hv
    go_enter Tryd.func29, Tryd.ntmps29
    go_wp2_with (first | (have _t := tk_b1; refine wpList_box rfl _ _ rfl _ _ rfl hM ?_; intro b1 W' hb1 hM'; clear hM tk_b1; have hM := hM'; clear hM') | (go_at_call 58; (with_reducible refine (l04Ok_any h HF.out b1 _ (hM.ats 0 _ _ _ rfl)).mono ?_); rintro e W' ⟨rfl, hb'⟩; rw [Hv.out]; have hM' := hM.call hb'; clear hM hb'; have hM := hM'; clear hM'))
    go_ret3
    exact ⟨by rw [Hr.out]; rfl, hM.below⟩
  have Hr := Lib.hid (band_ok hv)
  have Hv := Lib.hid hv
  clear hv
  go_enter Tryd.func29, Tryd.ntmps29
  go_wp2_with (first | (have _t := tk_b1; refine wpList_box rfl _ _ rfl _ _ rfl hM ?_; intro b1 W' hb1 hM'; clear hM tk_b1; have hM := hM'; clear hM') | (go_at_call 58; (with_reducible refine (l04Ok_any h HF.out b1 _ (hM.ats 0 _ _ _ rfl)).mono ?_); rintro e W' ⟨rfl, hb'⟩; rw [Hv.out]; have hM' := hM.call hb'; clear hM hb'; have hM := hM'; clear hM'))
  go_loopw [5, 6] (fun a i wr => ∃ k : Nat, k ≤ 10 ∧ a = .int .i64 (bestK h k : Nat) ∧ i = .int .i64 ((k + 1 : Nat) : Int) ∧ Mem w [(b1, 12, gro h)] wr) (fun _ i _ => 11 - (intOf i).toNat)
  case atStart => exact ⟨0, by omega, rfl, rfl, hM⟩
  case round =>
    clear hM
    obtain ⟨k, hk, rfl, rfl, hM⟩ := hrel
    have hbk := bestK_le h k
    by_cases hlt : k < 10
    · have lk : ((k + 1 : Nat) : Int) < 11 := by omega
      have lk' : ((k : Nat) : Int) + 1 < 11 := by omega
      have l2 : ((bestK h k : Nat) : Int) < 11 := by omega
      have e1 : gro h (k + 1) = .int .i8 (h (k + 1)) := gro_i8 h (by omega)
      have e2 : gro h (bestK h k) = .int .i8 (h (bestK h k)) := gro_i8 h (by omega)
      generalize hj : k + 1 = j at *
      go_wp2
      by_cases hc : h (bestK h k) < h j
      · have Hs := Lib.hid (bestK_yes (h := h) (k := k) (by rw [hj]; exact hc))
        ((try simp only [Act.put, List.setIfInBounds_toArray, List.set_cons_succ, List.set_cons_zero]); refine wp_region_mem (by kernel_rfl) (by kernel_rfl) hM ?_; clear hM; (repeat (first | go_big_quiet_skip | (go_big_quiet_want; first | (refine quiet_get1 _ _ rfl _ _ rfl 0 rfl (cellTab _ rfl) (by omega) _ (e1) ?_; (simp only [Act.put, List.setIfInBounds_toArray, List.set_cons_succ, List.set_cons_zero]); go_big_quiet_on) | (refine quiet_get1 _ _ rfl _ _ rfl 0 rfl (cellTab _ rfl) (by omega) _ (e2) ?_; (simp only [Act.put, List.setIfInBounds_toArray, List.set_cons_succ, List.set_cons_zero]); go_big_quiet_on) | (refine quiet_val ?_; apply Exists.intro; refine ⟨fun W => ?_, ?_⟩; (go_simp; (try simp only [lk, lk', l2, hc, if_true, Bool.false_eq_true, if_false]); rfl); (simp only [Act.put, List.setIfInBounds_toArray, List.set_cons_succ, List.set_cons_zero]); go_big_quiet_on)))); (with_reducible refine wpQuiet_nil ?_); intro W' hM)
        go_wp2
        go_roundw
        case rel => exact ⟨k + 1, by omega, by rw [Hs.out, hj], by rw [hj]; go_num, hM⟩
        case measure => simp [intOf]; omega
      · have Hs := Lib.hid (bestK_no (h := h) (k := k) (by rw [hj]; exact hc))
        ((try simp only [Act.put, List.setIfInBounds_toArray, List.set_cons_succ, List.set_cons_zero]); refine wp_region_mem (by kernel_rfl) (by kernel_rfl) hM ?_; clear hM; (repeat (first | go_big_quiet_skip | (go_big_quiet_want; first | (refine quiet_get1 _ _ rfl _ _ rfl 0 rfl (cellTab _ rfl) (by omega) _ (e1) ?_; (simp only [Act.put, List.setIfInBounds_toArray, List.set_cons_succ, List.set_cons_zero]); go_big_quiet_on) | (refine quiet_get1 _ _ rfl _ _ rfl 0 rfl (cellTab _ rfl) (by omega) _ (e2) ?_; (simp only [Act.put, List.setIfInBounds_toArray, List.set_cons_succ, List.set_cons_zero]); go_big_quiet_on) | (refine quiet_val ?_; apply Exists.intro; refine ⟨fun W => ?_, ?_⟩; (go_simp; (try simp only [lk, lk', l2, hc, if_true, Bool.false_eq_true, if_false]); rfl); (simp only [Act.put, List.setIfInBounds_toArray, List.set_cons_succ, List.set_cons_zero]); go_big_quiet_on)))); (with_reducible refine wpQuiet_nil ?_); intro W' hM)
        go_wp2
        go_roundw
        case rel => exact ⟨k + 1, by omega, by rw [Hs.out], by rw [hj]; go_num, hM⟩
        case measure => simp [intOf]; omega
    · obtain rfl : k = 10 := by omega
      have l2 : ((bestK h 10 : Nat) : Int) < 11 := by omega
      have e2 : gro h (bestK h 10) = .int .i8 (h (bestK h 10)) := gro_i8 h (by omega)
      have bk := HF.out.tab (bestK h 10) (by omega)
      have c0 : IntKind.i64.wrap (h (bestK h 10)) = h (bestK h 10) := IntWalk.i64_in _ (by omega)
      clear bk hbk
      generalize bestK h 10 = j at *
      go_wp2
      ((try simp only [Act.put, List.setIfInBounds_toArray, List.set_cons_succ, List.set_cons_zero]); refine wp_region_mem (by kernel_rfl) (by kernel_rfl) hM ?_; clear hM; (repeat (first | go_big_quiet_skip | (go_big_quiet_want; first | (refine quiet_get1 _ _ rfl _ _ rfl 0 rfl (cellTab _ rfl) (by omega) _ (e2) ?_; (simp only [Act.put, List.setIfInBounds_toArray, List.set_cons_succ, List.set_cons_zero]); go_big_quiet_on) | (refine quiet_val ?_; apply Exists.intro; refine ⟨fun W => ?_, ?_⟩; (go_simp; (try simp only [l2, c0, if_true, Bool.false_eq_true, if_false]); rfl); (simp only [Act.put, List.setIfInBounds_toArray, List.set_cons_succ, List.set_cons_zero]); go_big_quiet_on)))); (with_reducible refine wpQuiet_nil ?_); intro W' hM)
      go_wp2
      go_ret3
      exact ⟨by rw [Hr.out]; rfl, hM.below⟩

set_option maxRecDepth 100000 in
set_option maxHeartbeats 2000000 in
theorem maxI8_any (h : Nat → Int) (b : Nat) (w : World) (hA : At w b 12 (gro h)) :
    Calls Tryd.prog 101 #[.slice (some ⟨b, 0, none⟩) 11 11] w fun e w' => e = .returned (.int .i8 (h (bestK h 10))) ∧ Below w.heap.size w w' := by
  have hM : Mem w [(b, 12, gro h)] w := (Mem.nil w).old hA (fun i p h => by simp at h)
  have e0 : gro h 0 = .int .i8 (h 0) := gro_i8 h (by omega)
  clear hA
  go_enter Tryd.func101, Tryd.ntmps101
  go_wp2_with (first | (refine wpList_get1 rfl _ _ rfl _ _ rfl hM 0 rfl (cellTab _ rfl) (by omega) _ e0 ?_))
  go_loopw [3, 4] (fun a i wr => ∃ k : Nat, k ≤ 10 ∧ a = .int .i8 (h (bestK h k)) ∧ i = .int .i64 ((k + 1 : Nat) : Int) ∧ Mem w [(b, 12, gro h)] wr) (fun _ i _ => 11 - (intOf i).toNat)
  case atStart => exact ⟨0, by omega, rfl, rfl, hM⟩
  case round =>
    clear hM
    obtain ⟨k, hk, rfl, rfl, hM⟩ := hrel
    by_cases hlt : k < 10
    · have lk : ((k + 1 : Nat) : Int) < 11 := by omega
      have e1 : gro h (k + 1) = .int .i8 (h (k + 1)) := gro_i8 h (by omega)
      generalize hj : k + 1 = j at *
      by_cases hc : h (bestK h k) < h j
      · have Hs := Lib.hid (bestK_yes (h := h) (k := k) (by rw [hj]; exact hc))
        go_wp2_with (first | (refine wpList_get1 rfl _ _ rfl _ _ rfl hM 0 rfl (cellTab _ rfl) (by omega) _ e1 ?_))
        go_roundw
        case rel => exact ⟨k + 1, by omega, by rw [Hs.out, hj], by rw [hj]; go_num, hM⟩
        case measure => simp [intOf]; omega
      · have Hs := Lib.hid (bestK_no (h := h) (k := k) (by rw [hj]; exact hc))
        go_wp2_with (first | (refine wpList_get1 rfl _ _ rfl _ _ rfl hM 0 rfl (cellTab _ rfl) (by omega) _ e1 ?_))
        go_roundw
        case rel => exact ⟨k + 1, by omega, by rw [Hs.out], by rw [hj]; go_num, hM⟩
        case measure => simp [intOf]; omega
    · obtain rfl : k = 10 := by omega
      go_wp2
      go_ret
      exact ⟨rfl, hM.below⟩

set_option maxRecDepth 100000 in
set_option maxHeartbeats 2000000 in
theorem indexI8_any (h : Nat → Int) (b : Nat) (w : World) (hA : At w b 12 (gro h)) :
    Calls Tryd.prog 102 #[.slice (some ⟨b, 0, none⟩) 11 11, .int .i8 (h (bestK h 10))] w fun e w' => e = .returned (.int .i64 (bestK h 10 : Nat)) ∧ Below w.heap.size w w' := by
  have hM : Mem w [(b, 12, gro h)] w := (Mem.nil w).old hA (fun i p h => by simp at h)
  have hb := bestK_le h 10
  have hf := bestK_first h 10
  have Hf := Lib.hid hf
  generalize bestK h 10 = B at *
  clear hA hf
  go_enter Tryd.func102, Tryd.ntmps102
  go_wp2
  go_loopw [8] (fun i wr => ∃ k : Nat, k ≤ B ∧ i = .int .i64 k ∧ Mem w [(b, 12, gro h)] wr) (fun i _ => 11 - (intOf i).toNat)
  case atStart => exact ⟨0, by omega, rfl, hM⟩
  case round =>
    clear hM
    obtain ⟨k, hk, rfl, hM⟩ := hrel
    have lk : (k : Int) < 11 := by omega
    have e1 : gro h k = .int .i8 (h k) := gro_i8 h (by omega)
    by_cases he : k = B
    · subst he
      go_wp2_with (first | (refine wpList_get1 rfl _ _ rfl _ _ rfl hM 0 rfl (cellTab _ rfl) (by omega) _ e1 ?_))
      go_ret
      exact ⟨rfl, hM.below⟩
    · have hlt := Hf.out k (by omega)
      have hne : ¬ h B = h k := by omega
      clear hlt
      go_wp2_with (first | (refine wpList_get1 rfl _ _ rfl _ _ rfl hM 0 rfl (cellTab _ rfl) (by omega) _ e1 ?_))
      go_roundw
      case rel => exact ⟨k + 1, by omega, by go_num, hM⟩
      case measure => simp [intOf]; omega

theorem firstMost8_any (h : Nat → Int) (b : Nat) (w : World) (hA : At w b 12 (gro h)) :
    Calls Tryd.prog 66 #[.slice (some ⟨b, 0, none⟩) 11 11] w fun e w' => e = .returned (.tuple #[.int .i64 (bestK h 10 : Nat), .int .i8 (h (bestK h 10))]) ∧ Below w.heap.size w w' := by
  have hM : Mem w [(b, 12, gro h)] w := (Mem.nil w).old hA (fun i p h => by simp at h)
  go_enter Tryd.func66, Tryd.ntmps66
  go_wp2_with (first | (go_at_call 101; (with_reducible refine (maxI8_any h b _ (hM.ats 0 _ _ _ rfl)).mono ?_); rintro e W' ⟨rfl, hb'⟩; have hM' := hM.call hb'; clear hM hb'; have hM := hM'; clear hM') | (go_at_call 102; (with_reducible refine (indexI8_any h b _ (hM.ats 0 _ _ _ rfl)).mono ?_); rintro e W' ⟨rfl, hb'⟩; have hM' := hM.call hb'; clear hM hb'; have hM := hM'; clear hM'))
  go_ret2
  exact ⟨rfl, hM.below⟩

set_option maxRecDepth 100000 in
set_option maxHeartbeats 2000000 in
theorem implBestBand_any {a : Nat → Addr} (h : Nat → Int) (hF : FitsW h) (w : World) (hE : Errs a w) :
    Calls Tryd.prog 30 #[.agg (arr 12 (gro h))] w fun e w' => e = .returned (bandR h) ∧ Below w.heap.size w w' := by
  have hM := Mem.nil w
  have HF := Lib.hid hF
  have HE := Lib.hid hE
  clear hF hE
  have tk_b1 : True := trivial; have tk_g1 : True := trivial
  cases hv : growB h
  · have Hr := Lib.hid (band_no hv)
    have Hv := Lib.hid hv
    clear hv
    go_enter Tryd.func30, Tryd.ntmps30
    go_wp2_with (first | (have _t := tk_b1; refine wpList_box rfl _ _ rfl _ _ rfl hM ?_; intro b1 W' hb1 hM'; clear hM tk_b1; have hM := hM'; clear hM') | (refine wpList_get rfl _ _ rfl _ _ rfl hM 0 rfl (rowTab _ _ rfl) (by omega) ?_) | (go_at_call 62; (with_reducible refine (checkGrowth_no h HF.out _ (HE.out.below hM.below) Hv.out).mono ?_); rintro e W' ⟨rfl, hb'⟩; have hM' := hM.call hb'; clear hM hb'; have hM := hM'; clear hM') | (go_at_call 50; (with_reducible refine (codeOf_0 (HE.out.below hM.below)).mono ?_); rintro e W' ⟨rfl, rfl⟩))
    go_ret3
    exact ⟨by rw [Hr.out]; rfl, hM.below⟩
  have Hr := Lib.hid (band_ok hv)
  have Hv := Lib.hid hv
  have hbk := bestK_le h 10
  have bk := HF.out.tab (bestK h 10) (by omega)
  have c0 : IntKind.i64.wrap (h (bestK h 10)) = h (bestK h 10) := IntWalk.i64_in _ (by omega)
  have HQ := Lib.hid (firstMost8_any h)
  clear hv bk hbk
  generalize bestK h 10 = j at *
  go_enter Tryd.func30, Tryd.ntmps30
  go_wp2_with (first | (have _t := tk_b1; refine wpList_box rfl _ _ rfl _ _ rfl hM ?_; intro b1 W' hb1 hM'; clear hM tk_b1; have hM := hM'; clear hM') | (have _t := tk_g1; (refine wpList_get rfl _ _ rfl _ _ rfl hM 0 rfl (rowTab _ _ rfl) (by omega) ?_); clear tk_g1) | (go_at_call 62; (with_reducible refine (checkGrowth_yes h HF.out _ Hv.out).mono ?_); rintro e W' ⟨rfl, hb'⟩; have hM' := hM.call hb'; clear hM hb'; have hM := hM'; clear hM') | (go_at_call 66; refine (HQ.out b1 _ (hM.ats 0 _ _ _ rfl)).mono ?_; rintro e W' ⟨rfl, hb'⟩; have hM' := hM.call hb'; clear hM hb'; have hM := hM'; clear hM'))
  go_ret3
  exact ⟨by rw [Hr.out]; rfl, hM.below⟩

set_option maxRecDepth 100000 in
set_option maxHeartbeats 1000000 in
theorem lawBestBand_any {a : Nat → Addr} (h : Nat → Int) (hF : FitsW h) (w : World) (hE : Errs a w) :
    Calls Tryd.prog 7 #[.agg (arr 12 (gro h))] w fun e w' => e = .returned (.bool true) ∧ Below w.heap.size w w' := by
  have hM := Mem.nil w
  have HE := Lib.hid hE
  have hS := fun W => specBestBand_any h hF W
  have hI := fun W hE => implBestBand_any (a := a) h hF W hE
  obtain ⟨r, s, c, hq⟩ := bandR_num h
  rw [hq] at hS hI
  have Hz := Lib.hid (num3_eq r s c)
  have HS := Lib.hid hS
  have HI := Lib.hid hI
  clear hE hS hI hq
  have tk_b1 : True := trivial
  go_enter Tryd.func7, Tryd.ntmps7
  go_wp2_with (first | (have _t := tk_b1; refine wpList_box rfl _ _ rfl _ _ rfl hM ?_; intro b1 W' hb1 hM'; clear hM tk_b1; have hM := hM'; clear hM') | (refine wpList_get rfl _ _ rfl _ _ rfl hM 0 rfl (rowTab _ _ rfl) (by omega) ?_) | (go_at_call 25; (with_reducible refine (toGrowth_gro h _).mono ?_); rintro e W' ⟨rfl, hb'⟩; have hM' := hM.call hb'; clear hM hb'; have hM := hM'; clear hM') | (go_at_call 29; (with_reducible refine (HS.out _).mono ?_); rintro e W' ⟨rfl, hb'⟩; rw [Hz.out]; have hM' := hM.call hb'; clear hM hb'; have hM := hM'; clear hM') | (go_at_call 30; (with_reducible refine (HI.out _ (HE.out.below hM.below)).mono ?_); rintro e W' ⟨rfl, hb'⟩; rw [Hz.out]; have hM' := hM.call hb'; clear hM hb'; have hM := hM'; clear hM'))
  go_ret
  exact ⟨rfl, hM.below⟩
end Go.Proofs.YtjfmhnbbdkejeaaDoor
