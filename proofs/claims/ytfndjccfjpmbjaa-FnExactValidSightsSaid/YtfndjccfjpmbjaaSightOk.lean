/-
  spec.l07Seen, l07Sights by contracts: sights that are valid for a pasture.
-/
import Derived.Test.YtfndjccfjpmbjaaSightQ
import Derived.Test.YtfndjccfjpmbjaaHasCell
import Derived.Test.YtfndjccfjpmbjaaValidB
import Derived.Test.YtfndjccfjpmbjaaOkS
import Derived.Test.YtfndjccfjpmbjaaConv
namespace Go.Proofs.Ytfndjccfjpmbjaa
open Go Go.RowKit Go.BigFrame

/-- Does the i-th sight have a day as told? -/
def dayB (hs : Nat → Nat → Int) (i : Nat) : Bool := inB 0 1000 (hs i 0) && (decide (i = 0) || decide (hs (i - 1) 0 ≤ hs i 0))
def seenB (n : Nat) (hs : Nat → Nat → Int) : Bool := (List.range n).all (dayB hs) && decide (n ≤ 40)
def sightsB (g : Nat → Int) (n : Nat) (hs : Nat → Nat → Int) : Bool := okB g && (seenB n hs && (List.range n).all fun i => isB g (hs i 1) (hs i 2))
theorem dayB_range {hs : Nat → Nat → Int} {i : Nat} (h : inB 0 1000 (hs i 0) = false) : dayB hs i = false := by simp [dayB, h]
theorem dayB_down {hs : Nat → Nat → Int} {i : Nat} (h0 : i ≠ 0) (h : hs i 0 < hs (i - 1) 0) : dayB hs i = false := by
  have : decide (hs (i - 1) 0 ≤ hs i 0) = false := decide_eq_false (by omega)
  simp [dayB, h0, this]
theorem dayB_first {hs : Nat → Nat → Int} (h : inB 0 1000 (hs 0 0) = true) : dayB hs 0 = true := by simp [dayB, h]
theorem dayB_up {hs : Nat → Nat → Int} {i : Nat} (h : inB 0 1000 (hs i 0) = true) (h1 : ¬ hs i 0 < hs (i - 1) 0) : dayB hs i = true := by
  have : decide (hs (i - 1) 0 ≤ hs i 0) = true := decide_eq_true (by omega)
  simp [dayB, h, this]
theorem seenB_no {n i : Nat} {hs : Nat → Nat → Int} (hi : i < n) (h : dayB hs i = false) : seenB n hs = false := by
  have : (List.range n).all (dayB hs) = false := by rw [List.all_eq_false]; exact ⟨i, by simpa using hi, by rw [h]; decide⟩
  simp [seenB, this]
theorem seenB_all {n : Nat} {hs : Nat → Nat → Int} (h : ∀ i, i < n → dayB hs i = true) : seenB n hs = decide (n ≤ 40) := by
  have : (List.range n).all (dayB hs) = true := by rw [List.all_eq_true]; intro i hi; exact h i (by simpa using hi)
  simp [seenB, this]
theorem sightsB_ok {g : Nat → Int} {n : Nat} {hs : Nat → Nat → Int} (h : okB g = false) : sightsB g n hs = false := by simp [sightsB, h]
theorem sightsB_seen {g : Nat → Int} {n : Nat} {hs : Nat → Nat → Int} (h : seenB n hs = false) : sightsB g n hs = false := by simp [sightsB, h]
theorem sightsB_no {g : Nat → Int} {n i : Nat} {hs : Nat → Nat → Int} (hi : i < n) (h : isB g (hs i 1) (hs i 2) = false) : sightsB g n hs = false := by
  have : ((List.range n).all fun i => isB g (hs i 1) (hs i 2)) = false := by rw [List.all_eq_false]; exact ⟨i, by simpa using hi, by rw [h]; decide⟩
  simp [sightsB, this]
theorem sightsB_yes {g : Nat → Int} {n : Nat} {hs : Nat → Nat → Int} (ho : okB g = true) (hd : seenB n hs = true) (h : ∀ i, i < n → isB g (hs i 1) (hs i 2) = true) : sightsB g n hs = true := by
  have : ((List.range n).all fun i => isB g (hs i 1) (hs i 2)) = true := by rw [List.all_eq_true]; intro i hi; exact h i (by simpa using hi)
  simp [sightsB, this, ho, hd]

set_option maxRecDepth 100000 in
set_option maxHeartbeats 4000000 in
theorem l07Seen_any (b n c : Nat) (hs : Nat → Nat → Int) (hF : ∀ i, i < n → FitsSight (hs i)) (hn : n ≤ 1048576) (w : World) (hB : At w b (n * 3) (sSight hs)) :
    Calls Try.prog 27 #[.slice (some ⟨b, 0, none⟩) n c] w fun e w' => e = .returned (.bool (seenB n hs)) ∧ Below w.heap.size w w' := by
  have hM : Mem w [(b, n * 3, sSight hs)] w := (Mem.nil w).old hB (fun i p h => by simp at h)
  have HF := Lib.hid hF
  clear hF hB
  go_enter Try.func27, Try.ntmps27
  go_wp2
  go_loopw [3] (fun i wr => ∃ k : Nat, k ≤ n ∧ i = .int .i64 k ∧ Hid (∀ j, j < k → dayB hs j = true) ∧ Mem w [(b, n * 3, sSight hs)] wr) (fun i _ => n - (intOf i).toNat)
  case atStart => exact ⟨0, by omega, rfl, Lib.hid (fun j hj => absurd hj (by omega)), hM⟩
  case round =>
    clear hM
    obtain ⟨k, hk, rfl, hall, hM⟩ := hrel
    by_cases hlt : k < n
    · have l2 : (k : Int) < n := by omega
      have fk := (HF.out k hlt).c0
      have c1 : IntKind.i64.wrap (hs k 0) = hs k 0 := IntWalk.i64_in _ (by omega)
      have ek : sSight hs (k * 3) = .int .i16 (hs k 0) := sSight_row hs k 0 (by omega)
      cases hr : inB 0 1000 (hs k 0)
      · have Hx := Lib.hid (dayB_range hr)
        have Hr := Lib.hid hr
        clear hr
        go_wp2
        ((try simp only [Act.put, List.setIfInBounds_toArray, List.set_cons_succ, List.set_cons_zero]); refine wp_region_mem (by kernel_rfl) (by kernel_rfl) hM ?_; clear hM; (repeat (first | go_big_quiet_skip | (go_big_quiet_want; first | (refine quiet_get1 _ _ rfl _ _ rfl 0 rfl (cellTab _ rfl) (by omega) _ (ek) ?_; (simp only [Act.put, List.setIfInBounds_toArray, List.set_cons_succ, List.set_cons_zero]); go_big_quiet_on) | (refine quiet_call ?_; apply Exists.intro; apply Exists.intro; apply Exists.intro; refine ⟨fun W => ?_, fun W hM => ?_, ?_⟩; (go_simp; exact ⟨rfl, rfl⟩); (with_reducible exact l01Grass_any (hs k 0) W); (simp only [Hr.out]); (simp only [Act.put, List.setIfInBounds_toArray, List.set_cons_succ, List.set_cons_zero]); go_big_quiet_on) | (refine quiet_val ?_; apply Exists.intro; refine ⟨fun W => ?_, ?_⟩; (go_simp; (try simp only [l2, c1, if_true, Bool.false_eq_true, if_false]); rfl); (simp only [Act.put, List.setIfInBounds_toArray, List.set_cons_succ, List.set_cons_zero]); go_big_quiet_on)))); (with_reducible refine wpQuiet_nil ?_); intro W' hM)
        go_wp2
        go_ret
        exact ⟨ret_bool (seenB_no hlt Hx.out).symm, hM.below⟩
      · by_cases h0 : k = 0
        · have Hx : Hid (dayB hs k = true) := Lib.hid (by rw [h0] at hr ⊢; exact dayB_first hr)
          have Hr := Lib.hid hr
          have l0 : decide (0 < (k : Int)) = false := decide_eq_false (by omega)
          have l0' : ¬ 0 < k := by omega
          clear hr h0
          go_wp2
          ((try simp only [Act.put, List.setIfInBounds_toArray, List.set_cons_succ, List.set_cons_zero]); refine wp_region_mem (by kernel_rfl) (by kernel_rfl) hM ?_; clear hM; (repeat (first | go_big_quiet_skip | (go_big_quiet_want; first | (refine quiet_get1 _ _ rfl _ _ rfl 0 rfl (cellTab _ rfl) (by omega) _ (ek) ?_; (simp only [Act.put, List.setIfInBounds_toArray, List.set_cons_succ, List.set_cons_zero]); go_big_quiet_on) | (refine quiet_call ?_; apply Exists.intro; apply Exists.intro; apply Exists.intro; refine ⟨fun W => ?_, fun W hM => ?_, ?_⟩; (go_simp; exact ⟨rfl, rfl⟩); (with_reducible exact l01Grass_any (hs k 0) W); (simp only [Hr.out]); (simp only [Act.put, List.setIfInBounds_toArray, List.set_cons_succ, List.set_cons_zero]); go_big_quiet_on) | (refine quiet_val ?_; apply Exists.intro; refine ⟨fun W => ?_, ?_⟩; (go_simp; (try simp only [l2, c1, l0, l0', if_true, Bool.false_eq_true, if_false]); rfl); (simp only [Act.put, List.setIfInBounds_toArray, List.set_cons_succ, List.set_cons_zero]); go_big_quiet_on)))); (with_reducible refine wpQuiet_nil ?_); intro W' hM)
          go_wp2
          go_roundw
          case rel => exact ⟨k + 1, by omega, by go_num, Lib.hid (fun j hj => by
            by_cases e : j = k
            · rw [e]; exact Hx.out
            · exact hall.out j (by omega)), hM⟩
          case measure => simp [intOf]; omega
        · obtain ⟨q, hq⟩ : ∃ q : Nat, q = k - 1 := ⟨_, rfl⟩
          have eq : sSight hs (q * 3) = .int .i16 (hs q 0) := sSight_row hs q 0 (by omega)
          have l0 : decide (0 < (k : Int)) = true := decide_eq_true (by omega)
          have l0' : 0 < k := by omega
          have l3 : (q : Int) < n := by omega
          have c2 : IntKind.i64.wrap ((k : Int) - 1) = q := by rw [IntWalk.i64_in _ (by omega)]; omega
          by_cases hd : hs k 0 < hs q 0
          · have Hx := Lib.hid (dayB_down (hs := hs) h0 (by rw [← hq]; exact hd))
            have Hr := Lib.hid hr
            clear hr h0 hq
            go_wp2
            ((try simp only [Act.put, List.setIfInBounds_toArray, List.set_cons_succ, List.set_cons_zero]); refine wp_region_mem (by kernel_rfl) (by kernel_rfl) hM ?_; clear hM; (repeat (first | go_big_quiet_skip | (go_big_quiet_want; first | (refine quiet_get1 _ _ rfl _ _ rfl 0 rfl (cellTab _ rfl) (by omega) _ (ek) ?_; (simp only [Act.put, List.setIfInBounds_toArray, List.set_cons_succ, List.set_cons_zero]); go_big_quiet_on) | (refine quiet_get1 _ _ rfl _ _ rfl 0 rfl (cellTab _ rfl) (by omega) _ (eq) ?_; (simp only [Act.put, List.setIfInBounds_toArray, List.set_cons_succ, List.set_cons_zero]); go_big_quiet_on) | (refine quiet_call ?_; apply Exists.intro; apply Exists.intro; apply Exists.intro; refine ⟨fun W => ?_, fun W hM => ?_, ?_⟩; (go_simp; exact ⟨rfl, rfl⟩); (with_reducible exact l01Grass_any (hs k 0) W); (simp only [Hr.out]); (simp only [Act.put, List.setIfInBounds_toArray, List.set_cons_succ, List.set_cons_zero]); go_big_quiet_on) | (refine quiet_val ?_; apply Exists.intro; refine ⟨fun W => ?_, ?_⟩; (go_simp; (try simp only [l2, l3, c1, c2, l0, l0', hd, if_true, Bool.false_eq_true, if_false]); rfl); (simp only [Act.put, List.setIfInBounds_toArray, List.set_cons_succ, List.set_cons_zero]); go_big_quiet_on)))); (with_reducible refine wpQuiet_nil ?_); intro W' hM)
            go_wp2
            go_ret
            exact ⟨ret_bool (seenB_no hlt Hx.out).symm, hM.below⟩
          · have Hx := Lib.hid (dayB_up (hs := hs) hr (by rw [← hq]; exact hd))
            have Hr := Lib.hid hr
            clear hr h0 hq
            go_wp2
            ((try simp only [Act.put, List.setIfInBounds_toArray, List.set_cons_succ, List.set_cons_zero]); refine wp_region_mem (by kernel_rfl) (by kernel_rfl) hM ?_; clear hM; (repeat (first | go_big_quiet_skip | (go_big_quiet_want; first | (refine quiet_get1 _ _ rfl _ _ rfl 0 rfl (cellTab _ rfl) (by omega) _ (ek) ?_; (simp only [Act.put, List.setIfInBounds_toArray, List.set_cons_succ, List.set_cons_zero]); go_big_quiet_on) | (refine quiet_get1 _ _ rfl _ _ rfl 0 rfl (cellTab _ rfl) (by omega) _ (eq) ?_; (simp only [Act.put, List.setIfInBounds_toArray, List.set_cons_succ, List.set_cons_zero]); go_big_quiet_on) | (refine quiet_call ?_; apply Exists.intro; apply Exists.intro; apply Exists.intro; refine ⟨fun W => ?_, fun W hM => ?_, ?_⟩; (go_simp; exact ⟨rfl, rfl⟩); (with_reducible exact l01Grass_any (hs k 0) W); (simp only [Hr.out]); (simp only [Act.put, List.setIfInBounds_toArray, List.set_cons_succ, List.set_cons_zero]); go_big_quiet_on) | (refine quiet_val ?_; apply Exists.intro; refine ⟨fun W => ?_, ?_⟩; (go_simp; (try simp only [l2, l3, c1, c2, l0, l0', hd, if_true, Bool.false_eq_true, if_false]); rfl); (simp only [Act.put, List.setIfInBounds_toArray, List.set_cons_succ, List.set_cons_zero]); go_big_quiet_on)))); (with_reducible refine wpQuiet_nil ?_); intro W' hM)
            go_wp2
            go_roundw
            case rel => exact ⟨k + 1, by omega, by go_num, Lib.hid (fun j hj => by
              by_cases e : j = k
              · rw [e]; exact Hx.out
              · exact hall.out j (by omega)), hM⟩
            case measure => simp [intOf]; omega
    · obtain rfl : k = n := by omega
      have Hp := Lib.hid (seenB_all hall.out)
      by_cases h40 : k ≤ 40
      · have d1 : decide ((k : Int) ≤ 40) = true := decide_eq_true (by omega)
        have d2 : (k : Int) ≤ 40 := by omega
        go_wp2
        go_ret
        exact ⟨ret_bool (by rw [Hp.out]; exact (decide_eq_true h40).symm), hM.below⟩
      · have d1 : decide ((k : Int) ≤ 40) = false := decide_eq_false (by omega)
        have d2 : ¬ (k : Int) ≤ 40 := by omega
        go_wp2
        go_ret
        exact ⟨ret_bool (by rw [Hp.out]; exact (decide_eq_false h40).symm), hM.below⟩

set_option maxRecDepth 100000 in
set_option maxHeartbeats 4000000 in
theorem l07Sights_any (g : Nat → Int) (hg : Fits g) (bp b n c : Nat) (hs : Nat → Nat → Int) (hF : ∀ i, i < n → FitsSight (hs i)) (hn : n ≤ 1048576) (w : World) (hA : At w bp 122 (pas g)) (hB : At w b (n * 3) (sSight hs)) (hne : bp ≠ b) :
    Calls Try.prog 19 #[.pointer (some ⟨bp, 0, none⟩), .slice (some ⟨b, 0, none⟩) n c] w fun e w' => e = .returned (.bool (sightsB g n hs)) ∧ Below w.heap.size w w' := by
  have hM : Mem w [(bp, 122, pas g), (b, n * 3, sSight hs)] w := ((Mem.nil w).old hA (fun i p h => by simp at h)).old hB (fun i p h => by
    match i, h with
    | 0, h => simp at h; rw [← h]; exact hne
    | _ + 1, h => simp at h)
  have HF := Lib.hid hF
  clear hF hA hB
  cases ho : okB g
  · have Hp := Lib.hid (sightsB_ok (n := n) (hs := hs) ho)
    have Ho := Lib.hid ho
    clear ho
    go_enter Try.func19, Try.ntmps19
    go_wp2_with (first | (go_at_call 26; refine (l01Ok_any g hg _ _ (hM.ats 0 _ _ _ rfl)).mono ?_; rintro e W' ⟨rfl, hb'⟩; rw [Ho.out]; have hM' := hM.call hb'; clear hM hb'; have hM := hM'; clear hM'))
    go_ret
    exact ⟨ret_bool Hp.out.symm, hM.below⟩
  have Ho := Lib.hid ho
  clear ho
  cases hd : seenB n hs
  · have Hp := Lib.hid (sightsB_seen (g := g) hd)
    have Hd := Lib.hid hd
    clear hd
    go_enter Try.func19, Try.ntmps19
    go_wp2_with (first | (go_at_call 26; (with_reducible refine (l01Ok_any g hg _ _ (hM.ats 0 _ _ _ rfl)).mono ?_); rintro e W' ⟨rfl, hb'⟩; rw [Ho.out]; have hM' := hM.call hb'; clear hM hb'; have hM := hM'; clear hM') | (go_at_call 27; (with_reducible refine (l07Seen_any b n c hs HF.out hn _ (hM.ats 1 _ _ _ rfl)).mono ?_); rintro e W' ⟨rfl, hb'⟩; rw [Hd.out]; have hM' := hM.call hb'; clear hM hb'; have hM := hM'; clear hM'))
    go_ret
    exact ⟨ret_bool Hp.out.symm, hM.below⟩
  have Hd := Lib.hid hd
  clear hd
  go_enter Try.func19, Try.ntmps19
  go_wp2_with (first | (go_at_call 26; (with_reducible refine (l01Ok_any g hg _ _ (hM.ats 0 _ _ _ rfl)).mono ?_); rintro e W' ⟨rfl, hb'⟩; rw [Ho.out]; have hM' := hM.call hb'; clear hM hb'; have hM := hM'; clear hM') | (go_at_call 27; (with_reducible refine (l07Seen_any b n c hs HF.out hn _ (hM.ats 1 _ _ _ rfl)).mono ?_); rintro e W' ⟨rfl, hb'⟩; rw [Hd.out]; have hM' := hM.call hb'; clear hM hb'; have hM := hM'; clear hM'))
  go_loopw [5] (fun i wr => ∃ k : Nat, k ≤ n ∧ i = .int .i64 k ∧ Hid (∀ j, j < k → isB g (hs j 1) (hs j 2) = true) ∧ Mem w [(bp, 122, pas g), (b, n * 3, sSight hs)] wr) (fun i _ => n - (intOf i).toNat)
  case atStart => exact ⟨0, by omega, rfl, Lib.hid (fun j hj => absurd hj (by omega)), hM⟩
  case round =>
    clear hM
    obtain ⟨k, hk, rfl, hall, hM⟩ := hrel
    by_cases hlt : k < n
    · have l2 : (k : Int) < n := by omega
      have fk := HF.out k hlt
      have er : arr 2 (fun j => sSight hs (k * 3 + 1 + j)) = arr 2 (sp (hs k 1) (hs k 2)) := (arr_congr fun j hj => by rw [Nat.add_assoc, sSight_row hs k (1 + j) (by omega)]).trans (spSight1 (hs k))
      cases he : isB g (hs k 1) (hs k 2)
      all_goals
        have He := Lib.hid he
        clear he
        go_wp2_with (first | (go_at_call 28; (with_reducible refine (l01Is_any g hg bp (hs k 1) (hs k 2) fk.c1 fk.c2 _ (hM.ats 0 _ _ _ rfl)).mono ?_); rintro e W' ⟨rfl, hb'⟩; rw [He.out]; have hM' := hM.call hb'; clear hM hb'; have hM := hM'; clear hM') | ((refine wpList_get rfl _ _ rfl _ _ rfl hM 1 rfl (rowTab _ 2 rfl) (by omega) ?_); rw [er]))
      · go_ret
        exact ⟨ret_bool (sightsB_no hlt He.out).symm, hM.below⟩
      · go_roundw
        case rel => exact ⟨k + 1, by omega, by go_num, Lib.hid (fun j hj => by
          by_cases e : j = k
          · rw [e]; exact He.out
          · exact hall.out j (by omega)), hM⟩
        case measure => simp [intOf]; omega
    · obtain rfl : k = n := by omega
      go_wp2
      go_ret
      exact ⟨ret_bool (sightsB_yes Ho.out Hd.out hall.out).symm, hM.below⟩
end Go.Proofs.Ytfndjccfjpmbjaa
