/-
  spec.SameMeadows and impl.SameMeadows by contracts; laws.FnExactSameMeadows returns true.
-/
import Derived.Test.YtfndjccfjpmbjaaSpec1
import Derived.Test.YtfndjccfjpmbjaaMeadowQ
import Derived.Test.YtfndjccfjpmbjaaMeadowE
namespace Go.Proofs.Ytfndjccfjpmbjaa
open Go Go.RowKit Go.BigFrame

/-- Are two lists the same? -/
def sameMeadow (n n' : Nat) (hs hs' : Nat → Nat → Int) : Bool := decide (n = n') && (List.range n).all fun i => eqTo 3 (hs i) (hs' i)
theorem sameMeadow_len {n n' : Nat} {hs hs' : Nat → Nat → Int} (h : n ≠ n') : sameMeadow n n' hs hs' = false := by simp [sameMeadow, h]
theorem sameMeadow_no {n i : Nat} {hs hs' : Nat → Nat → Int} (hi : i < n) (h : eqTo 3 (hs i) (hs' i) = false) : sameMeadow n n hs hs' = false := by
  have : ((List.range n).all fun i => eqTo 3 (hs i) (hs' i)) = false := by rw [List.all_eq_false]; exact ⟨i, by simpa using hi, by rw [h]; decide⟩
  simp [sameMeadow, this]
theorem sameMeadow_yes {n : Nat} {hs hs' : Nat → Nat → Int} (h : ∀ i, i < n → eqTo 3 (hs i) (hs' i) = true) : sameMeadow n n hs hs' = true := by
  have : ((List.range n).all fun i => eqTo 3 (hs i) (hs' i)) = true := by rw [List.all_eq_true]; intro i hi; exact h i (by simpa using hi)
  simp [sameMeadow, this]

set_option maxRecDepth 100000 in
set_option maxHeartbeats 1000000 in
theorem specSameMeadow (b b' n n' c c' : Nat) (hs hs' : Nat → Nat → Int) (hn : n ≤ maxLen) (hn' : n' ≤ maxLen) (w : World) (hA : At w b (n * 3) (sMeadow hs)) (hA' : At w b' (n' * 3) (sMeadow hs')) (hne : b ≠ b') :
    Calls Try.prog 6 #[.slice (some ⟨b, 0, none⟩) n c, .slice (some ⟨b', 0, none⟩) n' c'] w fun e w' => e = .returned (.bool (sameMeadow n n' hs hs')) ∧ Below w.heap.size w w' := by
  have hM : Mem w [(b, n * 3, sMeadow hs), (b', n' * 3, sMeadow hs')] w := ((Mem.nil w).old hA (fun i p h => by simp at h)).old hA' (fun i p h => by
    match i, h with
    | 0, h => simp at h; rw [← h]; exact hne
    | _ + 1, h => simp at h)
  unfold maxLen at hn hn'
  clear hA hA'
  by_cases hnn : n = n'
  · subst hnn
    go_enter Try.func6, Try.ntmps6
    go_wp2
    go_loopw [5] (fun i wr => ∃ k : Nat, k ≤ n ∧ i = .int .i64 k ∧ Hid (∀ j, j < k → eqTo 3 (hs j) (hs' j) = true) ∧ Mem w [(b, n * 3, sMeadow hs), (b', n * 3, sMeadow hs')] wr) (fun i _ => n - (intOf i).toNat)
    case atStart => exact ⟨0, by omega, rfl, Lib.hid (fun j hj => absurd hj (by omega)), hM⟩
    case round =>
      clear hM
      obtain ⟨k, hk, rfl, hall, hM⟩ := hrel
      by_cases hlt : k < n
      · have l2 : (k : Int) < n := by omega
        have l3 : decide ((k : Int) < n) = true := decide_eq_true l2
        have er : arr 3 (fun j => sMeadow hs (k * 3 + j)) = arr 3 (vMeadow (hs k)) := arr_congr fun j hj => sMeadow_row hs k j hj
        have er' : arr 3 (fun j => sMeadow hs' (k * 3 + j)) = arr 3 (vMeadow (hs' k)) := arr_congr fun j hj => sMeadow_row hs' k j hj
        have hq := neq_meadow (hs k) (hs' k)
        cases he : eqTo 3 (hs k) (hs' k)
        · have He := Lib.hid he
          rw [he] at hq
          go_wp2
          ((try simp only [Act.put, List.setIfInBounds_toArray, List.set_cons_succ, List.set_cons_zero]); refine wp_region_mem (by kernel_rfl) (by kernel_rfl) hM ?_; clear hM; (repeat (first | go_big_quiet_skip | (go_big_quiet_want; first | (refine quiet_get _ _ rfl _ _ rfl 1 rfl rowMeadow (by omega) ?_; (simp only [er']); (simp only [Act.put, List.setIfInBounds_toArray, List.set_cons_succ, List.set_cons_zero]); go_big_quiet_on) | (refine quiet_get _ _ rfl _ _ rfl 0 rfl rowMeadow (by omega) ?_; (simp only [er]); (simp only [Act.put, List.setIfInBounds_toArray, List.set_cons_succ, List.set_cons_zero]); go_big_quiet_on) | (refine quiet_val ?_; apply Exists.intro; refine ⟨fun W => ?_, ?_⟩; (go_simp; (try simp only [l2, l3, hq, he, if_true, Bool.false_eq_true, if_false]); rfl); (simp only [Act.put, List.setIfInBounds_toArray, List.set_cons_succ, List.set_cons_zero]); go_big_quiet_on)))); (with_reducible refine wpQuiet_nil ?_); intro W' hM)
          go_wp2
          go_ret
          exact ⟨ret_bool (sameMeadow_no hlt He.out).symm, hM.below⟩
        · have He := Lib.hid he
          rw [he] at hq
          go_wp2
          ((try simp only [Act.put, List.setIfInBounds_toArray, List.set_cons_succ, List.set_cons_zero]); refine wp_region_mem (by kernel_rfl) (by kernel_rfl) hM ?_; clear hM; (repeat (first | go_big_quiet_skip | (go_big_quiet_want; first | (refine quiet_get _ _ rfl _ _ rfl 1 rfl rowMeadow (by omega) ?_; (simp only [er']); (simp only [Act.put, List.setIfInBounds_toArray, List.set_cons_succ, List.set_cons_zero]); go_big_quiet_on) | (refine quiet_get _ _ rfl _ _ rfl 0 rfl rowMeadow (by omega) ?_; (simp only [er]); (simp only [Act.put, List.setIfInBounds_toArray, List.set_cons_succ, List.set_cons_zero]); go_big_quiet_on) | (refine quiet_val ?_; apply Exists.intro; refine ⟨fun W => ?_, ?_⟩; (go_simp; (try simp only [l2, l3, hq, he, if_true, Bool.false_eq_true, if_false]); rfl); (simp only [Act.put, List.setIfInBounds_toArray, List.set_cons_succ, List.set_cons_zero]); go_big_quiet_on)))); (with_reducible refine wpQuiet_nil ?_); intro W' hM)
          go_wp2
          go_roundw
          case rel => exact ⟨k + 1, by omega, by go_num, Lib.hid (fun j hj => by
            by_cases e : j = k
            · rw [e]; exact He.out
            · exact hall.out j (by omega)), hM⟩
          case measure => simp [intOf]; omega
      · obtain rfl : k = n := by omega
        go_wp2
        go_ret
        exact ⟨ret_bool (sameMeadow_yes hall.out).symm, hM.below⟩
  · have hz : ¬ (n : Int) = n' := by omega
    have d1 : decide ((n : Int) = n') = false := decide_eq_false hz
    have Hs := Lib.hid (sameMeadow_len (hs := hs) (hs' := hs') hnn)
    clear hnn
    go_enter Try.func6, Try.ntmps6
    go_wp2
    go_ret
    exact ⟨ret_bool Hs.out.symm, hM.below⟩

set_option maxRecDepth 100000 in
set_option maxHeartbeats 1000000 in
theorem equalMeadow (b b' n n' c c' : Nat) (hs hs' : Nat → Nat → Int) (hn : n ≤ maxLen) (hn' : n' ≤ maxLen) (w : World) (hA : At w b (n * 3) (sMeadow hs)) (hA' : At w b' (n' * 3) (sMeadow hs')) (hne : b ≠ b') :
    Calls Try.prog 17 #[.slice (some ⟨b, 0, none⟩) n c, .slice (some ⟨b', 0, none⟩) n' c'] w fun e w' => e = .returned (.bool (sameMeadow n n' hs hs')) ∧ Below w.heap.size w w' := by
  have hM : Mem w [(b, n * 3, sMeadow hs), (b', n' * 3, sMeadow hs')] w := ((Mem.nil w).old hA (fun i p h => by simp at h)).old hA' (fun i p h => by
    match i, h with
    | 0, h => simp at h; rw [← h]; exact hne
    | _ + 1, h => simp at h)
  unfold maxLen at hn hn'
  clear hA hA'
  by_cases hnn : n = n'
  · subst hnn
    go_enter Try.func17, Try.ntmps17
    go_wp2
    go_loopw [13] (fun i wr => ∃ k : Nat, k ≤ n ∧ i = .int .i64 k ∧ Hid (∀ j, j < k → eqTo 3 (hs j) (hs' j) = true) ∧ Mem w [(b, n * 3, sMeadow hs), (b', n * 3, sMeadow hs')] wr) (fun i _ => n - (intOf i).toNat)
    case atStart => exact ⟨0, by omega, rfl, Lib.hid (fun j hj => absurd hj (by omega)), hM⟩
    case round =>
      clear hM
      obtain ⟨k, hk, rfl, hall, hM⟩ := hrel
      by_cases hlt : k < n
      · have l2 : (k : Int) < n := by omega
        have l3 : decide ((k : Int) < n) = true := decide_eq_true l2
        have er : arr 3 (fun j => sMeadow hs (k * 3 + j)) = arr 3 (vMeadow (hs k)) := arr_congr fun j hj => sMeadow_row hs k j hj
        have er' : arr 3 (fun j => sMeadow hs' (k * 3 + j)) = arr 3 (vMeadow (hs' k)) := arr_congr fun j hj => sMeadow_row hs' k j hj
        have hq := neq_meadow (hs k) (hs' k)
        cases he : eqTo 3 (hs k) (hs' k)
        · have He := Lib.hid he
          rw [he] at hq
          go_wp2
          ((try simp only [Act.put, List.setIfInBounds_toArray, List.set_cons_succ, List.set_cons_zero]); refine wp_region_mem (by kernel_rfl) (by kernel_rfl) hM ?_; clear hM; (repeat (first | go_big_quiet_skip | (go_big_quiet_want; first | (refine quiet_get _ _ rfl _ _ rfl 1 rfl rowMeadow (by omega) ?_; (simp only [er']); (simp only [Act.put, List.setIfInBounds_toArray, List.set_cons_succ, List.set_cons_zero]); go_big_quiet_on) | (refine quiet_get _ _ rfl _ _ rfl 0 rfl rowMeadow (by omega) ?_; (simp only [er]); (simp only [Act.put, List.setIfInBounds_toArray, List.set_cons_succ, List.set_cons_zero]); go_big_quiet_on) | (refine quiet_val ?_; apply Exists.intro; refine ⟨fun W => ?_, ?_⟩; (go_simp; (try simp only [l2, l3, hq, he, if_true, Bool.false_eq_true, if_false]); rfl); (simp only [Act.put, List.setIfInBounds_toArray, List.set_cons_succ, List.set_cons_zero]); go_big_quiet_on)))); (with_reducible refine wpQuiet_nil ?_); intro W' hM)
          go_wp2
          go_ret
          exact ⟨ret_bool (sameMeadow_no hlt He.out).symm, hM.below⟩
        · have He := Lib.hid he
          rw [he] at hq
          go_wp2
          ((try simp only [Act.put, List.setIfInBounds_toArray, List.set_cons_succ, List.set_cons_zero]); refine wp_region_mem (by kernel_rfl) (by kernel_rfl) hM ?_; clear hM; (repeat (first | go_big_quiet_skip | (go_big_quiet_want; first | (refine quiet_get _ _ rfl _ _ rfl 1 rfl rowMeadow (by omega) ?_; (simp only [er']); (simp only [Act.put, List.setIfInBounds_toArray, List.set_cons_succ, List.set_cons_zero]); go_big_quiet_on) | (refine quiet_get _ _ rfl _ _ rfl 0 rfl rowMeadow (by omega) ?_; (simp only [er]); (simp only [Act.put, List.setIfInBounds_toArray, List.set_cons_succ, List.set_cons_zero]); go_big_quiet_on) | (refine quiet_val ?_; apply Exists.intro; refine ⟨fun W => ?_, ?_⟩; (go_simp; (try simp only [l2, l3, hq, he, if_true, Bool.false_eq_true, if_false]); rfl); (simp only [Act.put, List.setIfInBounds_toArray, List.set_cons_succ, List.set_cons_zero]); go_big_quiet_on)))); (with_reducible refine wpQuiet_nil ?_); intro W' hM)
          go_wp2
          go_roundw
          case rel => exact ⟨k + 1, by omega, by go_num, Lib.hid (fun j hj => by
            by_cases e : j = k
            · rw [e]; exact He.out
            · exact hall.out j (by omega)), hM⟩
          case measure => simp [intOf]; omega
      · obtain rfl : k = n := by omega
        go_wp2
        go_ret
        exact ⟨ret_bool (sameMeadow_yes hall.out).symm, hM.below⟩
  · have hz : ¬ (n : Int) = n' := by omega
    have d1 : decide ((n : Int) = n') = false := decide_eq_false hz
    have Hs := Lib.hid (sameMeadow_len (hs := hs) (hs' := hs') hnn)
    clear hnn
    go_enter Try.func17, Try.ntmps17
    go_wp2
    go_ret
    exact ⟨ret_bool Hs.out.symm, hM.below⟩

set_option maxHeartbeats 400000 in
theorem implSameMeadow (b b' n n' c c' : Nat) (hs hs' : Nat → Nat → Int) (hn : n ≤ maxLen) (hn' : n' ≤ maxLen) (w : World) (hA : At w b (n * 3) (sMeadow hs)) (hA' : At w b' (n' * 3) (sMeadow hs')) (hne : b ≠ b') :
    Calls Try.prog 8 #[.slice (some ⟨b, 0, none⟩) n c, .slice (some ⟨b', 0, none⟩) n' c'] w fun e w' => e = .returned (.bool (sameMeadow n n' hs hs')) ∧ Below w.heap.size w w' := by
  have hM := Mem.nil w
  have HA := Lib.hid hA
  have HA' := Lib.hid hA'
  have Hn := Lib.hid hn
  have Hn' := Lib.hid hn'
  clear hA hA' hn hn'
  go_enter Try.func8, Try.ntmps8
  go_wp2_with (go_at_call 17; refine (equalMeadow b b' n n' c c' hs hs' Hn.out Hn'.out _ HA.out HA'.out hne).mono ?_; rintro e W' ⟨rfl, hb'⟩; have hM' := hM.call hb'; clear hM hb'; have hM := hM'; clear hM')
  go_ret
  exact ⟨ret_bool (a := sameMeadow n n' hs hs') rfl, hM.below⟩


set_option maxRecDepth 100000 in
set_option maxHeartbeats 4000000 in
theorem lawSameMeadows_any (v v' : Value) (n n' : Nat) (hs hs' : Nat → Nat → Int) (hn : n ≤ maxLen) (hn' : n' ≤ maxLen) (w : World) (h : MeadowArg w v n hs) (h' : MeadowArg w v' n' hs') :
    Calls Try.prog 3 #[v, v'] w fun e w' => e = .returned (.bool true) ∧ Below w.heap.size w w' := by
  have hM := Mem.nil w
  have HG := Lib.hid h
  have HG' := Lib.hid h'
  have Hn := Lib.hid hn
  have Hn' := Lib.hid hn'
  clear h h' hn hn'
  by_cases h1 : 1048576 < n
  · go_enter Try.func3, Try.ntmps3
    go_wp2_with (first | (go_at_call 5; (with_reducible refine (szMeadowS_no v n hs 1048576 Hn.out (by omega) (by omega) (by omega) _ (HG.out.below hM.below)).mono ?_); rintro e W' ⟨rfl, hb'⟩; have hM' := hM.call hb'; clear hM hb'; have hM := hM'; clear hM'))
    go_ret
    exact ⟨rfl, hM.below⟩
  have d0 : decide ((1048576 : Int) - n < 0) = false := decide_eq_false (by omega)
  have d0' : decide ((1048576 : Int) < n) = false := decide_eq_false (by omega)
  by_cases h2 : 1048576 - n < n'
  · go_enter Try.func3, Try.ntmps3
    go_wp2_with (first | (go_at_call 5; (with_reducible refine (szMeadowS_yes v n hs 1048576 (by omega) (by omega) _ (HG.out.below hM.below)).mono ?_); rintro e W' ⟨rfl, hb'⟩; have hM' := hM.call hb'; clear hM hb'; have hM := hM'; clear hM') | (go_at_call 5; (with_reducible refine (szMeadowS_no v' n' hs' (1048576 - (n : Int)) Hn'.out (by omega) (by omega) (by omega) _ (HG'.out.below hM.below)).mono ?_); rintro e W' ⟨rfl, hb'⟩; have hM' := hM.call hb'; clear hM hb'; have hM := hM'; clear hM'))
    go_ret
    exact ⟨rfl, hM.below⟩
  have d1 : decide ((1048576 : Int) - n - n' < 0) = false := decide_eq_false (by omega)
  have d1' : decide ((1048576 : Int) - n < n') = false := decide_eq_false (by omega)
  have tk_b1 : True := trivial; have tk_b2 : True := trivial
  go_enter Try.func3, Try.ntmps3
  go_wp2_with (first | (go_at_call 5; (with_reducible refine (szMeadowS_yes v n hs 1048576 (by omega) (by omega) _ (HG.out.below hM.below)).mono ?_); rintro e W' ⟨rfl, hb'⟩; have hM' := hM.call hb'; clear hM hb'; have hM := hM'; clear hM') | (go_at_call 5; (with_reducible refine (szMeadowS_yes v' n' hs' (1048576 - (n : Int)) (by omega) (by omega) _ (HG'.out.below hM.below)).mono ?_); rintro e W' ⟨rfl, hb'⟩; have hM' := hM.call hb'; clear hM hb'; have hM := hM'; clear hM') | (have _t := tk_b1; go_at_call 7; (with_reducible refine (toMeadowS_any v n hs (by omega) _ (HG.out.below hM.below)).mono ?_); rintro e W' ⟨b1, rfl, hb1, hA', hcb⟩; have hM' := hM.fresh' hcb hA' hb1; simp only [List.cons_append, List.nil_append] at hM'; clear hM hcb hA' tk_b1; have hM := hM'; clear hM') | (have _t := tk_b2; go_at_call 7; (with_reducible refine (toMeadowS_any v' n' hs' (by omega) _ (HG'.out.below hM.below)).mono ?_); rintro e W' ⟨b2, rfl, hb2, hA', hcb⟩; have hM' := hM.fresh' hcb hA' hb2; simp only [List.cons_append, List.nil_append] at hM'; clear hM hcb hA' tk_b2; have hM := hM'; clear hM'))
  cases hz : sameMeadow n n' hs hs'
  all_goals
    have Hz := Lib.hid hz
    clear hz
    have tk_b3 : True := trivial; have tk_b4 : True := trivial; have tk_b5 : True := trivial; have tk_b6 : True := trivial
    refine Calls.mono (specSameMeadow b1 b2 n n' n n' hs hs' Hn.out Hn'.out _ (hM.ats 0 _ _ _ rfl) (hM.ats 1 _ _ _ rfl) (hM.apart 0 1 _ _ rfl rfl (by omega))) ?_
    rintro e W' ⟨rfl, hb'⟩
    rw [Hz.out]
    have hM' := hM.call hb'
    clear hM hb'
    have hM := hM'
    clear hM'
    go_wp2_with (first | (have _t := tk_b3; go_at_call 7; (with_reducible refine (toMeadowS_any v n hs (by omega) _ (HG.out.below hM.below)).mono ?_); rintro e W' ⟨b3, rfl, hb3, hA', hcb⟩; have hM' := hM.fresh' hcb hA' hb3; simp only [List.cons_append, List.nil_append] at hM'; clear hM hcb hA' tk_b3; have hM := hM'; clear hM') | (have _t := tk_b4; go_at_call 7; (with_reducible refine (toMeadowS_any v' n' hs' (by omega) _ (HG'.out.below hM.below)).mono ?_); rintro e W' ⟨b4, rfl, hb4, hA', hcb⟩; have hM' := hM.fresh' hcb hA' hb4; simp only [List.cons_append, List.nil_append] at hM'; clear hM hcb hA' tk_b4; have hM := hM'; clear hM'))
    refine Calls.mono (implSameMeadow b3 b4 n n' n n' hs hs' Hn.out Hn'.out _ (hM.ats 2 _ _ _ rfl) (hM.ats 3 _ _ _ rfl) (hM.apart 2 3 _ _ rfl rfl (by omega))) ?_
    rintro e W' ⟨rfl, hb'⟩
    rw [Hz.out]
    have hM' := hM.call hb'
    clear hM hb'
    have hM := hM'
    clear hM'
    go_wp2_with (first | (have _t := tk_b5; go_at_call 7; (with_reducible refine (toMeadowS_any v n hs (by omega) _ (HG.out.below hM.below)).mono ?_); rintro e W' ⟨b5, rfl, hb5, hA', hcb⟩; have hM' := hM.fresh' hcb hA' hb5; simp only [List.cons_append, List.nil_append] at hM'; clear hM hcb hA' tk_b5; have hM := hM'; clear hM'))
    refine Calls.mono (eqMeadowS_same b3 b5 n n n hs Hn.out _ (hM.ats 2 _ _ _ rfl) (hM.ats 4 _ _ _ rfl) (hM.apart 2 4 _ _ rfl rfl (by omega))) ?_
    rintro e W' ⟨rfl, hb'⟩
    have hM' := hM.call hb'
    clear hM hb'
    have hM := hM'
    clear hM'
    go_wp2_with (first | (have _t := tk_b6; go_at_call 7; (with_reducible refine (toMeadowS_any v' n' hs' (by omega) _ (HG'.out.below hM.below)).mono ?_); rintro e W' ⟨b6, rfl, hb6, hA', hcb⟩; have hM' := hM.fresh' hcb hA' hb6; simp only [List.cons_append, List.nil_append] at hM'; clear hM hcb hA' tk_b6; have hM := hM'; clear hM'))
    refine Calls.mono (eqMeadowS_same b4 b6 n' n' n' hs' Hn'.out _ (hM.ats 3 _ _ _ rfl) (hM.ats 5 _ _ _ rfl) (hM.apart 3 5 _ _ rfl rfl (by omega))) ?_
    rintro e W' ⟨rfl, hb'⟩
    have hM' := hM.call hb'
    clear hM hb'
    have hM := hM'
    clear hM'
    go_wp2
    go_ret
    exact ⟨rfl, hM.below⟩
end Go.Proofs.Ytfndjccfjpmbjaa
