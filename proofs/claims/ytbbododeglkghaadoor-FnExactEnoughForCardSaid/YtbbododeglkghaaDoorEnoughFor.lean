/-
  spec.EnoughFor and impl.EnoughFor by contracts; laws.FnExactEnoughFor returns true.
-/
import Derived.Test.YtbbododeglkghaaDoorSeason
import Derived.Test.YtbbododeglkghaaDoorMinMax
import Derived.Test.YtbbododeglkghaaDoorNum
namespace Go.Proofs.YtbbododeglkghaaDoor
open Go Go.RowKit Go.BigFrame

/-- All grass of the first i meadows, and what grows in d days. -/
def sumE (hs : Nat → Nat → Int) (d : Int) : Nat → Int
  | 0 => 0
  | i + 1 => sumE hs d i + (hs i 0 + hs i 1 * d)
theorem meadB_term {h : Nat → Int} (hb : meadB h = true) {d : Int} (hd : 0 ≤ d ∧ d ≤ 29) : (0 ≤ h 1 * d ∧ h 1 * d ≤ 29000) ∧ (0 ≤ h 0 + h 1 * d ∧ h 0 + h 1 * d ≤ 30000) := by
  obtain ⟨h2, h0, h1⟩ := meadB_iff hb
  have a : 0 ≤ h 1 * d := Int.mul_nonneg h1.1 hd.1
  have b : h 1 * d ≤ 1000 * 29 := Int.mul_le_mul (by omega) hd.2 hd.1 (by omega)
  omega
theorem sumE_in {hs : Nat → Nat → Int} {d : Int} {n : Nat} (hb : ∀ i, i < n → meadB (hs i) = true) (hd : 0 ≤ d ∧ d ≤ 29) : ∀ i, i ≤ n → 0 ≤ sumE hs d i ∧ sumE hs d i ≤ i * 30000
  | 0, _ => by simp [sumE]
  | i + 1, hi => by
    have := sumE_in hb hd i (by omega)
    have := meadB_term (hb i (by omega)) hd
    simp only [sumE]
    omega
def enoughC (n : Nat) (hs : Nat → Nat → Int) (need days : Int) : Int := meadC n hs need (inB 0 30 days)
def enoughB (n : Nat) (hs : Nat → Nat → Int) (need days : Int) : Bool := if enoughC n hs need days = 0 then decide (need * days ≤ sumE hs (maxQ 0 (days - 1)) n) else false
def boolR (b : Bool) (c : Int) : Value := .tuple #[.bool b, .int .i64 c]
theorem ret_boolR {b b' : Bool} {c c' : Int} (h : b = b') (h2 : c = c') : Ending.returned (.tuple #[.bool b, .int .i64 c]) = .returned (boolR b' c') := by rw [h, h2]; rfl
theorem meadC_0 {n : Nat} {hs : Nat → Nat → Int} {need : Int} {f : Bool} (h : meadC n hs need f = 0) : meadsB n hs = true ∧ inB 1 1000 need = true ∧ f = true := by
  unfold meadC at h
  cases h1 : meadsB n hs
  · rw [h1] at h; simp at h
  · rw [h1] at h
    cases h2 : (inB 1 1000 need && f)
    · rw [h2] at h; simp at h
    · rw [Bool.and_eq_true] at h2; exact ⟨rfl, h2.1, h2.2⟩
/-- What may be said of the code. -/
theorem meadC_cases (n : Nat) (hs : Nat → Nat → Int) (need : Int) (f : Bool) :
    (meadsB n hs = false ∧ meadC n hs need f = 1) ∨ (meadsB n hs = true ∧ inB 1 1000 need = false ∧ meadC n hs need f = 2) ∨ (meadsB n hs = true ∧ inB 1 1000 need = true ∧ f = false ∧ meadC n hs need f = 2) ∨ (meadsB n hs = true ∧ inB 1 1000 need = true ∧ f = true ∧ meadC n hs need f = 0) := by
  cases h1 : meadsB n hs <;> cases h2 : inB 1 1000 need <;> cases f <;> simp [meadC, h1, h2]

set_option maxRecDepth 100000 in
set_option maxHeartbeats 4000000 in
theorem specEnoughFor_any (b n c : Nat) (hs : Nat → Nat → Int) (hF : ∀ i, i < n → FitsMeadow (hs i)) (hn : n ≤ 1048576) (need days : Int) (w : World) (hB : At w b (n * 3) (sMeadow hs)) :
    Calls Tryd.prog 29 #[.slice (some ⟨b, 0, none⟩) n c, .int .i64 need, .int .i64 days] w fun e w' => e = .returned (boolR (enoughB n hs need days) (enoughC n hs need days)) ∧ Below w.heap.size w w' := by
  have hM : Mem w [(b, n * 3, sMeadow hs)] w := (Mem.nil w).old hB (fun i p h => by simp at h)
  have HF := Lib.hid hF
  clear hF hB
  have hB' : enoughB n hs need days = if enoughC n hs need days = 0 then decide (need * days ≤ sumE hs (maxQ 0 (days - 1)) n) else false := rfl
  have hda : ∀ W, Calls Tryd.prog 51 #[.int .i64 days] W fun e w' => e = .returned (.bool (inB 0 30 days)) ∧ Below W.heap.size W w' := fun W => by
    have hM := Mem.nil W
    go_enter Tryd.func51, Tryd.ntmps51
    go_wp2_with (first | (go_at_call 55; (with_reducible refine (l00In_any days 0 30 _).mono ?_); rintro e W' ⟨rfl, hb'⟩; have hM' := hM.call hb'; clear hM hb'; have hM := hM'; clear hM'))
    go_ret
    exact ⟨ret_bool (a := inB 0 30 days) rfl, hM.below⟩
  have Hda := Lib.hid hda
  clear hda
  by_cases hc : enoughC n hs need days = 0
  case neg =>
    have Hb : Hid (enoughB n hs need days = false) := Lib.hid (by rw [hB', if_neg hc])
    clear hB'
    have d0 : decide (enoughC n hs need days = 0) = false := decide_eq_false hc
    have hd : meadC n hs need (inB 0 30 days) = enoughC n hs need days := rfl
    have Hd := Lib.hid hd
    clear hd
    generalize enoughC n hs need days = C at *
    go_enter Tryd.func29, Tryd.ntmps29
    go_wp2_with (first | (go_at_call 51; (with_reducible refine (Hda.out _).mono ?_); rintro e W' ⟨rfl, hb'⟩; have hM' := hM.call hb'; clear hM hb'; have hM := hM'; clear hM') | (go_at_call 42; (with_reducible refine (l07Asked_any b n c hs HF.out hn need (inB 0 30 days) _ (hM.ats 0 _ _ _ rfl)).mono ?_); rintro e W' ⟨rfl, hb'⟩; rw [Hd.out]; have hM' := hM.call hb'; clear hM hb'; have hM := hM'; clear hM'))
    go_ret2
    exact ⟨ret_boolR Hb.out.symm rfl, hM.below⟩
  have hc' := meadC_0 hc
  rw [if_pos hc] at hB'
  rw [hB', hc]
  have hd' : meadC n hs need (inB 0 30 days) = 0 := hc
  have Hd := Lib.hid hd'
  have hdd := inB_true hc'.2.2
  have hne := inB_true hc'.2.1
  obtain ⟨hn6, hmb⟩ := meadsB_iff hc'.1
  have hdm : 0 ≤ maxQ 0 (days - 1) ∧ maxQ 0 (days - 1) ≤ 29 := by unfold maxQ; split <;> omega
  have cd : IntKind.i64.wrap (days - 1) = days - 1 := IntWalk.i64_in _ (by omega)
  have hpb : 0 ≤ need * days ∧ need * days ≤ 1000 * 30 := ⟨Int.mul_nonneg (by omega) hdd.1, Int.mul_le_mul (by omega) hdd.2 hdd.1 (by omega)⟩
  have cp : IntKind.i64.wrap (need * days) = need * days := IntWalk.i64_in _ (by omega)
  have hmax : ∀ W, Calls Tryd.prog 52 #[.int .i64 0, .int .i64 (days - 1)] W fun e w' => e = .returned (.int .i64 (maxQ 0 (days - 1))) ∧ Below W.heap.size W w' := fun W => l00MaxQ_any 0 (days - 1) W
  clear hB' hc hd' hc' hpb
  generalize maxQ 0 (days - 1) = D at *
  have Hmax := Lib.hid hmax
  have Hmb := Lib.hid hmb
  have Hsum := Lib.hid (sumE_in hmb hdm)
  clear hmax hmb
  go_enter Tryd.func29, Tryd.ntmps29
  go_wp2_with (first | (go_at_call 51; (with_reducible refine (Hda.out _).mono ?_); rintro e W' ⟨rfl, hb'⟩; have hM' := hM.call hb'; clear hM hb'; have hM := hM'; clear hM') | (go_at_call 42; (with_reducible refine (l07Asked_any b n c hs HF.out hn need (inB 0 30 days) _ (hM.ats 0 _ _ _ rfl)).mono ?_); rintro e W' ⟨rfl, hb'⟩; rw [Hd.out]; have hM' := hM.call hb'; clear hM hb'; have hM := hM'; clear hM'))
  go_loopw [9, 10] (fun s i wr => ∃ k : Nat, k ≤ n ∧ s = .int .i64 (sumE hs D k) ∧ i = .int .i64 k ∧ Mem w [(b, n * 3, sMeadow hs)] wr) (fun _ i _ => n - (intOf i).toNat)
  case atStart => exact ⟨0, by omega, rfl, rfl, hM⟩
  case round =>
    clear hM
    obtain ⟨k, hk, rfl, rfl, hM⟩ := hrel
    by_cases hlt : k < n
    · have l2 : (k : Int) < n := by omega
      have hs1 := Hsum.out k hk
      have ht := meadB_term (Hmb.out k hlt) hdm
      obtain ⟨f0, f1, f2⟩ := HF.out k hlt
      have c0 : IntKind.i64.wrap (hs k 0) = hs k 0 := IntWalk.i64_in _ (by omega)
      have c1 : IntKind.i64.wrap (hs k 1) = hs k 1 := IntWalk.i64_in _ (by omega)
      have c3 : IntKind.i64.wrap (hs k 1 * D) = hs k 1 * D := IntWalk.i64_in _ (by omega)
      have c4 : IntKind.i64.wrap (hs k 0 + hs k 1 * D) = hs k 0 + hs k 1 * D := IntWalk.i64_in _ (by omega)
      have c5 : IntKind.i64.wrap (sumE hs D k + (hs k 0 + hs k 1 * D)) = sumE hs D (k + 1) := by rw [IntWalk.i64_in _ (by omega)]; rfl
      have e0 : sMeadow hs (k * 3) = .int .i16 (hs k 0) := sMeadow_row hs k 0 (by omega)
      have e1 : sMeadow hs (k * 3 + 1) = .int .i16 (hs k 1) := sMeadow_row hs k 1 (by omega)
      go_wp2
      have tk_r0 : True := trivial
      ((try simp only [Act.put, List.setIfInBounds_toArray, List.set_cons_succ, List.set_cons_zero]); refine wp_region_mem (by kernel_rfl) (by kernel_rfl) hM ?_; clear hM; (repeat (first | go_big_quiet_skip | (go_big_quiet_want; first | (have _t := tk_r0; (refine quiet_get1 _ _ rfl _ _ rfl 0 rfl (cellTab _ rfl) (by omega) _ (e0) ?_; (simp only [Act.put, List.setIfInBounds_toArray, List.set_cons_succ, List.set_cons_zero]); go_big_quiet_on); clear tk_r0) | (refine quiet_get1 _ _ rfl _ _ rfl 0 rfl (cellTab _ rfl) (by omega) _ (e1) ?_; (simp only [Act.put, List.setIfInBounds_toArray, List.set_cons_succ, List.set_cons_zero]); go_big_quiet_on) | (refine quiet_call ?_; apply Exists.intro; apply Exists.intro; apply Exists.intro; refine ⟨fun W => ?_, fun W hM => ?_, ?_⟩; (go_simp; exact ⟨rfl, rfl⟩); (with_reducible exact Hmax.out W); (simp only [Act.put, List.setIfInBounds_toArray, List.set_cons_succ, List.set_cons_zero]); go_big_quiet_on) | (refine quiet_val ?_; apply Exists.intro; refine ⟨fun W => ?_, ?_⟩; (go_simp; (try simp only [l2, c0, c1, cd, c3, c4, c5, if_true, Bool.false_eq_true, if_false]); rfl); (simp only [Act.put, List.setIfInBounds_toArray, List.set_cons_succ, List.set_cons_zero]); go_big_quiet_on)))); (with_reducible refine wpQuiet_nil ?_); intro W' hM)
      go_wp2
      go_roundw
      case rel => exact ⟨k + 1, by omega, rfl, by go_num, hM⟩
      case measure => simp [intOf]; omega
    · obtain rfl : k = n := by omega
      cases hq : decide (need * days ≤ sumE hs D k)
      all_goals
        go_wp2
        go_ret2
        exact ⟨ret_boolR hq.symm rfl, hM.below⟩

set_option maxRecDepth 100000 in
set_option maxHeartbeats 4000000 in
theorem implEnoughFor_any {a : Nat → Addr} (b n c : Nat) (hs : Nat → Nat → Int) (hF : ∀ i, i < n → FitsMeadow (hs i)) (hn : n ≤ 1048576) (need days : Int) (w : World) (hB : At w b (n * 3) (sMeadow hs)) (hE : Errs a w) :
    Calls Tryd.prog 30 #[.slice (some ⟨b, 0, none⟩) n c, .int .i64 need, .int .i64 days] w fun e w' => e = .returned (boolR (enoughB n hs need days) (enoughC n hs need days)) ∧ Below w.heap.size w w' := by
  have hM : Mem w [(b, n * 3, sMeadow hs)] w := (Mem.nil w).old hB (fun i p h => by simp at h)
  have HF := Lib.hid hF
  have HE := Lib.hid hE
  clear hF hB hE
  have hB' : enoughB n hs need days = if enoughC n hs need days = 0 then decide (need * days ≤ sumE hs (maxQ 0 (days - 1)) n) else false := rfl
  have hC' : enoughC n hs need days = meadC n hs need (inB 0 30 days) := rfl
  rcases meadC_cases n hs need (inB 0 30 days) with ⟨hm, hc⟩ | ⟨hm, hd, hc⟩ | ⟨hm, hd, hr, hc⟩ | ⟨hm, hd, hr, hc⟩
  · rw [hc] at hC'
    rw [hC'] at hB'
    have Hb := Lib.hid hB'
    have Hm := Lib.hid hm
    rw [hC']
    clear hB' hm hc hC'
    go_enter Tryd.func30, Tryd.ntmps30
    go_wp2_with (first | (go_at_call 53; (with_reducible refine (seasonOf_0 b (n * 3) n c (sMeadow hs) hs (Nat.le_refl _) (fun _ _ => rfl) HF.out hn need _ (hM.ats 0 _ _ _ rfl) (HE.out.below hM.below) Hm.out).mono ?_); rintro e W' ⟨rfl, hb'⟩; have hM' := hM.call hb'; clear hM hb'; have hM := hM'; clear hM') | (go_at_call 50; (with_reducible refine (codeOf_0 (HE.out.below hM.below)).mono ?_); rintro e W' ⟨rfl, rfl⟩))
    go_ret2
    exact ⟨ret_boolR (by rw [Hb.out]; rfl) rfl, hM.below⟩
  · rw [hc] at hC'
    rw [hC'] at hB'
    have Hb := Lib.hid hB'
    have Hm := Lib.hid hm
    have Hd := Lib.hid hd
    rw [hC']
    clear hB' hm hc hC' hd
    go_enter Tryd.func30, Tryd.ntmps30
    go_wp2_with (first | (go_at_call 53; (with_reducible refine (seasonOf_1 b (n * 3) n c (sMeadow hs) hs (Nat.le_refl _) (fun _ _ => rfl) HF.out hn need _ (hM.ats 0 _ _ _ rfl) (HE.out.below hM.below) Hm.out Hd.out).mono ?_); rintro e W' ⟨rfl, hb'⟩; have hM' := hM.call hb'; clear hM hb'; have hM := hM'; clear hM') | (go_at_call 50; (with_reducible refine (codeOf_1 (HE.out.below hM.below)).mono ?_); rintro e W' ⟨rfl, rfl⟩))
    go_ret2
    exact ⟨ret_boolR (by rw [Hb.out]; rfl) rfl, hM.below⟩
  · rw [hc] at hC'
    rw [hC'] at hB'
    have Hb := Lib.hid hB'
    have Hm := Lib.hid hm
    have Hd := Lib.hid hd
    have Hr := Lib.hid hr
    rw [hC']
    clear hB' hm hc hC' hd hr
    go_enter Tryd.func30, Tryd.ntmps30
    go_wp2_with (first | (go_at_call 53; (with_reducible refine (seasonOf_ok b (n * 3) n c (sMeadow hs) hs (Nat.le_refl _) (fun _ _ => rfl) HF.out hn need _ (hM.ats 0 _ _ _ rfl) (HE.out.below hM.below) Hm.out Hd.out).mono ?_); rintro e W' ⟨rfl, hb'⟩; have hM' := hM.call hb'; clear hM hb'; have hM := hM'; clear hM') | (go_at_call 54; (with_reducible refine (checkUpTo_no days 30 _ (HE.out.below hM.below) Hr.out).mono ?_); rintro e W' ⟨rfl, hb'⟩; have hM' := hM.call hb'; clear hM hb'; have hM := hM'; clear hM') | (go_at_call 50; (with_reducible refine (codeOf_1 (HE.out.below hM.below)).mono ?_); rintro e W' ⟨rfl, rfl⟩))
    go_ret2
    exact ⟨ret_boolR (by rw [Hb.out]; rfl) rfl, hM.below⟩
  rw [hc] at hC'
  rw [if_pos hC'] at hB'
  rw [hB', hC']
  have hdd := inB_true hr
  have hne := inB_true hd
  obtain ⟨hn6, hmb⟩ := meadsB_iff hm
  have hdm : 0 ≤ maxQ 0 (days - 1) ∧ maxQ 0 (days - 1) ≤ 29 := by unfold maxQ; split <;> omega
  have cd : IntKind.i64.wrap (days - 1) = days - 1 := IntWalk.i64_in _ (by omega)
  have hpb : 0 ≤ need * days ∧ need * days ≤ 1000 * 30 := ⟨Int.mul_nonneg (by omega) hdd.1, Int.mul_le_mul (by omega) hdd.2 hdd.1 (by omega)⟩
  have cp : IntKind.i64.wrap (need * days) = need * days := IntWalk.i64_in _ (by omega)
  have hmx := maxQ_max 0 (days - 1)
  have Hm := Lib.hid hm
  have Hd := Lib.hid hd
  have Hr := Lib.hid hr
  clear hB' hC' hc hm hd hr hpb
  generalize maxQ 0 (days - 1) = D at *
  by_cases hq1 : 1 < days
  · have dq : decide (1 < days) = true := decide_eq_true hq1
    obtain rfl : D = days - 1 := by omega
    clear hmx
    have Hmb := Lib.hid hmb
    have Hsum := Lib.hid (sumE_in hmb hdm)
    clear hmb
    go_enter Tryd.func30, Tryd.ntmps30
    go_wp2_with (first | (go_at_call 53; (with_reducible refine (seasonOf_ok b (n * 3) n c (sMeadow hs) hs (Nat.le_refl _) (fun _ _ => rfl) HF.out hn need _ (hM.ats 0 _ _ _ rfl) (HE.out.below hM.below) Hm.out Hd.out).mono ?_); rintro e W' ⟨rfl, hb'⟩; have hM' := hM.call hb'; clear hM hb'; have hM := hM'; clear hM') | (go_at_call 54; (with_reducible refine (checkUpTo_yes days 30 _ Hr.out).mono ?_); rintro e W' ⟨rfl, hb'⟩; have hM' := hM.call hb'; clear hM hb'; have hM := hM'; clear hM'))
    go_loopw [12, 36] (fun s i wr => ∃ k : Nat, k ≤ n ∧ s = .int .i64 (sumE hs (days - 1) k) ∧ i = .int .i64 k ∧ Mem w [(b, n * 3, sMeadow hs)] wr) (fun _ i _ => n - (intOf i).toNat)
    case atStart => exact ⟨0, by omega, rfl, rfl, hM⟩
    case round =>
      clear hM
      obtain ⟨k, hk, rfl, rfl, hM⟩ := hrel
      by_cases hlt : k < n
      · have l2 : (k : Int) < n := by omega
        have hs1 := Hsum.out k hk
        have ht := meadB_term (Hmb.out k hlt) hdm
        obtain ⟨f0, f1, f2⟩ := HF.out k hlt
        have c0 : IntKind.i64.wrap (hs k 0) = hs k 0 := IntWalk.i64_in _ (by omega)
        have c1 : IntKind.i64.wrap (hs k 1) = hs k 1 := IntWalk.i64_in _ (by omega)
        have c3 : IntKind.i64.wrap (hs k 1 * (days - 1)) = hs k 1 * (days - 1) := IntWalk.i64_in _ (by omega)
        have c4 : IntKind.i64.wrap (hs k 0 + hs k 1 * (days - 1)) = hs k 0 + hs k 1 * (days - 1) := IntWalk.i64_in _ (by omega)
        have c5 : IntKind.i64.wrap (sumE hs (days - 1) k + (hs k 0 + hs k 1 * (days - 1))) = sumE hs (days - 1) (k + 1) := by rw [IntWalk.i64_in _ (by omega)]; rfl
        have er : arr 3 (fun j => sMeadow hs (k * 3 + j)) = arr 3 (vMeadow (hs k)) := arr_congr fun j hj => sMeadow_row hs k j hj
        have e0 : vMeadow (hs k) 0 = .int .i16 (hs k 0) := rfl
        have e1 : vMeadow (hs k) 1 = .int .i16 (hs k 1) := rfl
        have tk_b3 : True := trivial; have tk_r1 : True := trivial; have tk_r2 : True := trivial; have tk_r3 : True := trivial
        go_wp2_with (first | (have _t := tk_r1; (refine wpList_get rfl _ _ rfl _ _ rfl hM 0 rfl rowMeadow (by omega) ?_); rw [er]; clear tk_r1) | (have _t := tk_b3; refine wpList_zero rfl _ rfl zeroMeadow hM ?_; intro b3 W' hb3 hM'; clear hM tk_b3; have hM := hM'; clear hM') | (have _t := tk_r2; (refine wpList_lay rfl _ _ _ rfl _ _ rfl _ _ rfl hM 0 rfl (by assumption) rowMeadow (by omega) (fun _ _ => rfl) ?_; intro W' hM'; clear hM; have hM1 := hM'.re 0 rfl (vMeadow (hs k)) (fun j hj => by simp only [lay]; rw [if_pos ⟨by omega, by omega⟩, Nat.sub_zero]); simp only [List.set_cons_zero] at hM1; clear hM'; have hM := hM1; clear hM1); clear tk_r2) | (have _t := tk_r3; (refine wpList_get1 rfl _ _ rfl _ _ rfl hM 0 rfl (cellTab _ rfl) (by omega) _ e0 ?_); clear tk_r3) | (refine wpList_get1 rfl _ _ rfl _ _ rfl hM 0 rfl (cellTab _ rfl) (by omega) _ e1 ?_))
        go_roundw
        case rel => exact ⟨k + 1, by omega, by first | rfl | exact congrArg _ c5, by go_num, hM.drop⟩
        case measure => simp [intOf]; omega
      · obtain rfl : k = n := by omega
        cases hq : decide (need * days ≤ sumE hs (days - 1) k)
        all_goals
          go_wp2
          go_ret2
          exact ⟨ret_boolR hq.symm rfl, hM.below⟩
  · have dq : decide (1 < days) = false := decide_eq_false hq1
    obtain rfl : D = 0 := by omega
    clear hmx
    have Hmb := Lib.hid hmb
    have Hsum := Lib.hid (sumE_in hmb hdm)
    clear hmb
    go_enter Tryd.func30, Tryd.ntmps30
    go_wp2_with (first | (go_at_call 53; (with_reducible refine (seasonOf_ok b (n * 3) n c (sMeadow hs) hs (Nat.le_refl _) (fun _ _ => rfl) HF.out hn need _ (hM.ats 0 _ _ _ rfl) (HE.out.below hM.below) Hm.out Hd.out).mono ?_); rintro e W' ⟨rfl, hb'⟩; have hM' := hM.call hb'; clear hM hb'; have hM := hM'; clear hM') | (go_at_call 54; (with_reducible refine (checkUpTo_yes days 30 _ Hr.out).mono ?_); rintro e W' ⟨rfl, hb'⟩; have hM' := hM.call hb'; clear hM hb'; have hM := hM'; clear hM'))
    go_loopw [12, 36] (fun s i wr => ∃ k : Nat, k ≤ n ∧ s = .int .i64 (sumE hs 0 k) ∧ i = .int .i64 k ∧ Mem w [(b, n * 3, sMeadow hs)] wr) (fun _ i _ => n - (intOf i).toNat)
    case atStart => exact ⟨0, by omega, rfl, rfl, hM⟩
    case round =>
      clear hM
      obtain ⟨k, hk, rfl, rfl, hM⟩ := hrel
      by_cases hlt : k < n
      · have l2 : (k : Int) < n := by omega
        have hs1 := Hsum.out k hk
        have ht := meadB_term (Hmb.out k hlt) hdm
        obtain ⟨f0, f1, f2⟩ := HF.out k hlt
        have c0 : IntKind.i64.wrap (hs k 0) = hs k 0 := IntWalk.i64_in _ (by omega)
        have c1 : IntKind.i64.wrap (hs k 1) = hs k 1 := IntWalk.i64_in _ (by omega)
        have c5 : IntKind.i64.wrap (sumE hs 0 k + hs k 0) = sumE hs 0 (k + 1) := by rw [IntWalk.i64_in _ (by omega)]; simp only [sumE]; omega
        have er : arr 3 (fun j => sMeadow hs (k * 3 + j)) = arr 3 (vMeadow (hs k)) := arr_congr fun j hj => sMeadow_row hs k j hj
        have e0 : vMeadow (hs k) 0 = .int .i16 (hs k 0) := rfl
        have e1 : vMeadow (hs k) 1 = .int .i16 (hs k 1) := rfl
        have tk_b3 : True := trivial; have tk_r1 : True := trivial; have tk_r2 : True := trivial; have tk_r3 : True := trivial
        go_wp2_with (first | (have _t := tk_r1; (refine wpList_get rfl _ _ rfl _ _ rfl hM 0 rfl rowMeadow (by omega) ?_); rw [er]; clear tk_r1) | (have _t := tk_b3; refine wpList_zero rfl _ rfl zeroMeadow hM ?_; intro b3 W' hb3 hM'; clear hM tk_b3; have hM := hM'; clear hM') | (have _t := tk_r2; (refine wpList_lay rfl _ _ _ rfl _ _ rfl _ _ rfl hM 0 rfl (by assumption) rowMeadow (by omega) (fun _ _ => rfl) ?_; intro W' hM'; clear hM; have hM1 := hM'.re 0 rfl (vMeadow (hs k)) (fun j hj => by simp only [lay]; rw [if_pos ⟨by omega, by omega⟩, Nat.sub_zero]); simp only [List.set_cons_zero] at hM1; clear hM'; have hM := hM1; clear hM1); clear tk_r2) | (have _t := tk_r3; (refine wpList_get1 rfl _ _ rfl _ _ rfl hM 0 rfl (cellTab _ rfl) (by omega) _ e0 ?_); clear tk_r3) | (refine wpList_get1 rfl _ _ rfl _ _ rfl hM 0 rfl (cellTab _ rfl) (by omega) _ e1 ?_))
        go_roundw
        case rel => exact ⟨k + 1, by omega, by first | rfl | exact congrArg _ c5, by go_num, hM.drop⟩
        case measure => simp [intOf]; omega
      · obtain rfl : k = n := by omega
        cases hq : decide (need * days ≤ sumE hs 0 k)
        all_goals
          go_wp2
          go_ret2
          exact ⟨ret_boolR hq.symm rfl, hM.below⟩

set_option maxRecDepth 100000 in
set_option maxHeartbeats 2000000 in
theorem lawEnoughFor_any {a : Nat → Addr} (v : Value) (n : Nat) (hs : Nat → Nat → Int) (hn : n ≤ maxLen) (hF : ∀ i, i < n → FitsMeadow (hs i)) (need days : Int) (w : World) (hE : Errs a w) (h : MeadowArg w v n hs) :
    Calls Tryd.prog 7 #[v, .int .i64 need, .int .i64 days] w fun e w' => e = .returned (.bool true) ∧ Below w.heap.size w w' := by
  have hM := Mem.nil w
  have HG := Lib.hid h
  have Hn := Lib.hid hn
  have HF := Lib.hid hF
  have HE := Lib.hid hE
  clear h hn hF hE
  by_cases h1 : 1048576 < n
  · go_enter Tryd.func7, Tryd.ntmps7
    go_wp2_with (first | (go_at_call 13; (with_reducible refine (szMeadowS_no v n hs 1048576 Hn.out (by omega) (by omega) (by omega) _ (HG.out.below hM.below)).mono ?_); rintro e W' ⟨rfl, hb'⟩; have hM' := hM.call hb'; clear hM hb'; have hM := hM'; clear hM'))
    go_ret
    exact ⟨rfl, hM.below⟩
  have d0 : decide ((1048576 : Int) - n < 0) = false := decide_eq_false (by omega)
  have d0' : decide ((1048576 : Int) < n) = false := decide_eq_false (by omega)
  have hn1 : n ≤ 1048576 := by omega
  have hS := fun b W hB => specEnoughFor_any b n n hs HF.out hn1 need days W hB
  have hI := fun b W hB hE => implEnoughFor_any (a := a) b n n hs HF.out hn1 need days W hB hE
  generalize enoughB n hs need days = R at hS hI
  generalize enoughC n hs need days = C at hS hI
  have Hz : Hid (boolR R C = .tuple #[.bool R, .int .i64 C]) := Lib.hid rfl
  have HS := Lib.hid hS
  have HI := Lib.hid hI
  clear hS hI
  have tk_b1 : True := trivial; have tk_b2 : True := trivial; have tk_b3 : True := trivial
  go_enter Tryd.func7, Tryd.ntmps7
  go_wp2_with (first | (go_at_call 13; (with_reducible refine (szMeadowS_yes v n hs 1048576 (by omega) (by omega) _ (HG.out.below hM.below)).mono ?_); rintro e W' ⟨rfl, hb'⟩; have hM' := hM.call hb'; clear hM hb'; have hM := hM'; clear hM') | (have _t := tk_b1; go_at_call 15; (with_reducible refine (toMeadowS_any v n hs hn1 _ (HG.out.below hM.below)).mono ?_); rintro e W' ⟨b1, rfl, hb1, hA', hcb⟩; have hM' := hM.fresh' hcb hA' hb1; simp only [List.cons_append, List.nil_append] at hM'; clear hM hcb hA' tk_b1; have hM := hM'; clear hM') | (have _t := tk_b2; go_at_call 15; (with_reducible refine (toMeadowS_any v n hs hn1 _ (HG.out.below hM.below)).mono ?_); rintro e W' ⟨b2, rfl, hb2, hA', hcb⟩; have hM' := hM.fresh' hcb hA' hb2; simp only [List.cons_append, List.nil_append] at hM'; clear hM hcb hA' tk_b2; have hM := hM'; clear hM') | (have _t := tk_b3; go_at_call 15; (with_reducible refine (toMeadowS_any v n hs hn1 _ (HG.out.below hM.below)).mono ?_); rintro e W' ⟨b3, rfl, hb3, hA', hcb⟩; have hM' := hM.fresh' hcb hA' hb3; simp only [List.cons_append, List.nil_append] at hM'; clear hM hcb hA' tk_b3; have hM := hM'; clear hM') | (go_at_call 29; (with_reducible refine (HS.out _ _ (hM.ats 0 _ _ _ rfl)).mono ?_); rintro e W' ⟨rfl, hb'⟩; rw [Hz.out]; have hM' := hM.call hb'; clear hM hb'; have hM := hM'; clear hM') | (go_at_call 30; (with_reducible refine (HI.out _ _ (hM.ats 1 _ _ _ rfl) (HE.out.below hM.below)).mono ?_); rintro e W' ⟨rfl, hb'⟩; rw [Hz.out]; have hM' := hM.call hb'; clear hM hb'; have hM := hM'; clear hM') | (go_at_call 17; (with_reducible refine (eqMeadowS_same _ _ n n n hs Hn.out _ (hM.ats 1 _ _ _ rfl) (hM.ats 2 _ _ _ rfl) (hM.apart 1 2 _ _ rfl rfl (by omega))).mono ?_); rintro e W' ⟨rfl, hb'⟩; have hM' := hM.call hb'; clear hM hb'; have hM := hM'; clear hM'))
  go_ret
  exact ⟨rfl, hM.below⟩
end Go.Proofs.YtbbododeglkghaaDoor
