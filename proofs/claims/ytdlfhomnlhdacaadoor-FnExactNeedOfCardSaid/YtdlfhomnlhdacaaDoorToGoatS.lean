/-
  laws.szGoatS, laws.toGoat, laws.toGoatS, laws.eqGoatS by contracts.
-/
import Derived.Test.YtdlfhomnlhdacaaDoorToSpot
import Derived.Test.YtdlfhomnlhdacaaDoorList
namespace Go.Proofs.YtdlfhomnlhdacaaDoor
open Go Go.RowKit Go.BigFrame

theorem szGoatS_no (v : Value) (n : Nat) (hs : Nat → Nat → Int) (left : Int) (hn : n ≤ maxLen) (hl : left < n) (h0 : 0 ≤ left) (hl2 : left ≤ 1048576) (w : World) (h : GoatArg w v n hs) :
    Calls Tryd.prog 45 #[v, .int .i64 left] w fun e w' => e = .returned (.int .i64 (-1)) ∧ Below w.heap.size w w' := by
  unfold maxLen at hn
  rcases h with ⟨rfl, rfl⟩ | ⟨b, o, c, rfl, h⟩
  · omega
  · have c1 : IntKind.i64.wrap (left - n) = left - n := IntWalk.i64_in _ (by omega)
    have d1 : decide (left - n < 0) = true := decide_eq_true (by omega)
    clear h
    go_enter Tryd.func45, Tryd.ntmps45
    go_wp2
    go_ret
    exact ⟨rfl, Below.refl _ _⟩
theorem szGoatS_yes (v : Value) (n : Nat) (hs : Nat → Nat → Int) (left : Int) (hl : (n : Int) ≤ left) (hl2 : left ≤ 1048576) (w : World) (h : GoatArg w v n hs) :
    Calls Tryd.prog 45 #[v, .int .i64 left] w fun e w' => e = .returned (.int .i64 (left - n)) ∧ Below w.heap.size w w' := by
  rcases h with ⟨rfl, rfl⟩ | ⟨b, o, c, rfl, h⟩
  · have c1 : IntKind.i64.wrap left = left := IntWalk.i64_in _ (by omega)
    have d1 : decide (left < 0) = false := decide_eq_false (by omega)
    go_enter Tryd.func45, Tryd.ntmps45
    go_wp2
    go_ret
    exact ⟨by simp, Below.refl _ _⟩
  · have c1 : IntKind.i64.wrap (left - n) = left - n := IntWalk.i64_in _ (by omega)
    have d1 : decide (left - n < 0) = false := decide_eq_false (by omega)
    clear h
    go_enter Tryd.func45, Tryd.ntmps45
    go_wp2
    go_ret
    exact ⟨rfl, Below.refl _ _⟩

theorem gt_arr2 (h : Nat → Int) (o : Nat) : ∀ k, (gt h (o + k)).oneCell' = true := fun _ => rfl
set_option maxRecDepth 100000 in
set_option maxHeartbeats 1000000 in
theorem toGoat_any (f : Nat → Value) (h : Nat → Int) (hf : ∀ k, k < 7 → f k = gt h k) (w : World) :
    Calls Tryd.prog 83 #[.agg (arr 7 f)] w fun e w' => e = .returned (.agg (arr 7 (gt h))) ∧ Below w.heap.size w w' := by
  rw [arr_congr hf]
  have hM := Mem.nil w
  have tk_b1 : True := trivial; have tk_b2 : True := trivial; have tk_b3 : True := trivial
  go_enter Tryd.func83, Tryd.ntmps83
  go_wp2_with (first | (have _t := tk_b1; refine wpList_box rfl _ _ rfl _ _ rfl hM ?_; intro b1 W' hb1 hM'; clear hM tk_b1; have hM := hM'; clear hM') | (have _t := tk_b2; refine wpList_zero rfl _ rfl (zeroTab _ _ _ rfl) hM ?_; intro b2 W' hb2 hM'; clear hM tk_b2; have hM := hM'; clear hM') | (have _t := tk_b3; refine wpList_zero rfl _ rfl (zeroTab _ _ _ rfl) hM ?_; intro b3 W' hb3 hM'; clear hM tk_b3; have hM := hM'; clear hM') | (refine wpList_get1 rfl _ _ rfl _ _ rfl hM 2 rfl (cellTab _ rfl) (by omega) _ rfl ?_) | (refine wpList_get rfl _ _ rfl _ _ rfl hM 2 rfl (rowTab _ _ rfl) (by omega) ?_) | (go_at_call 20; refine (toSpot_any _ (fun _ => rfl) _).mono ?_; rintro e W' ⟨rfl, hb'⟩; have hM' := hM.call hb'; clear hM hb'; have hM := hM'; clear hM') | (refine wpList_set1 rfl _ _ _ rfl _ _ rfl _ rfl ?_ hM 0 rfl (by assumption) (cellTab _ rfl) (by omega) ?_; (first | rfl | exact h1 _); intro W' hM'; clear hM; have hM := hM'; clear hM'; simp [List.set, Act.eval] at hM) | (refine wpList_lay rfl _ _ _ rfl _ _ rfl _ _ rfl hM 0 rfl (by assumption) (rowTab _ _ rfl) (by omega) ?_ ?_; (first | (intro _ _; rfl) | (intro k _; exact h1 _) | (intro k _; simp only [lay, upd]; (repeat' split) <;> first | exact h1 _ | rfl)); intro W' hM'; clear hM; have hM := hM'; clear hM'; simp only [List.set] at hM) | (refine wpList_get rfl _ _ rfl _ _ rfl hM 0 rfl (rowTab _ _ rfl) (by omega) ?_) | (refine wpList_lay rfl _ _ _ rfl _ _ rfl _ _ rfl hM 1 rfl (by assumption) (rowTab _ _ rfl) (by omega) ?_ ?_; (first | (intro _ _; rfl) | (intro k _; exact h1 _) | (intro k _; simp only [lay, upd]; (repeat' split) <;> first | exact h1 _ | rfl)); intro W' hM'; clear hM; have hM := hM'; clear hM'; simp only [List.set] at hM))
  have hA := (hM.ats 1 _ _ _ rfl).congr (g := gt h) (fun k hk => by
    rcases (show k = 0 ∨ k = 1 ∨ k = 2 ∨ k = 3 ∨ k = 4 ∨ k = 5 ∨ k = 6 by omega) with rfl | rfl | rfl | rfl | rfl | rfl | rfl <;> rfl)
  exact bodyPost_ret (results_at rfl _ rfl hA (rowTab _ _ rfl)) rfl ⟨rfl, hM.below⟩

theorem goat_info : (Tryd.prog.info? 104).map (fun i => (i.size, i.zero, i.bytes)) = some (7, some (.agg (arr 7 zG)), 10) := by kernel_rfl
/-- A new list of goats. -/
def GivenG (n : Nat) (hs : Nat → Nat → Int) (w : World) (e : Ending) (w' : World) : Prop := ∃ b, e = .returned (.slice (some ⟨b, 0, none⟩) n n) ∧ w.heap.size ≤ b ∧ At w' b (n * 7) (gts hs) ∧ Below w.heap.size w w'
theorem gts_row (hs : Nat → Nat → Int) (k j : Nat) (hj : j < 7) : gts hs (k * 7 + j) = gt (hs k) j := by
  unfold gts
  rw [show (k * 7 + j) / 7 = k by omega, show (k * 7 + j) % 7 = j by omega]

set_option maxRecDepth 100000 in
set_option maxHeartbeats 1000000 in
theorem toGoatS_any (v : Value) (n : Nat) (hs : Nat → Nat → Int) (hn : n ≤ 1048576) (w : World) (h : GoatArg w v n hs) : Calls Tryd.prog 47 #[v] w (GivenG n hs w) := by
  have hM := Mem.nil w
  rcases h with ⟨rfl, rfl⟩ | ⟨b, o, c, rfl, hL⟩
  · have tk_b1 : True := trivial
    go_enter Tryd.func47, Tryd.ntmps47
    go_wp2_with (first | (have _t := tk_b1; refine wpList_make rfl _ _ _ _ rfl 0 rfl rfl 7 zG 10 Tryd.underlying65 goat_info (by omega) (by omega) (by omega) hM ?_; intro b1 W' hb1 hM'; clear hM tk_b1; have hM := hM'; clear hM'))
    refine wp_loop_rounds 1 ?_
    rw [rounds_succ]
    go_wp2
    go_ret
    exact ⟨b1, rfl, hb1, (hM.ats 0 _ _ _ rfl).congr (fun k hk => by omega), hM.below⟩
  · have HL := Lib.hid hL
    clear hL
    have tk_b1 : True := trivial
    go_enter Tryd.func47, Tryd.ntmps47
    go_wp2_with (first | (have _t := tk_b1; refine wpList_make rfl _ _ _ _ rfl n rfl rfl 7 zG 10 Tryd.underlying65 goat_info (by omega) (by omega) hn hM ?_; intro b1 W' hb1 hM'; clear hM tk_b1; have hM := hM'; clear hM'))
    go_loopw [4] (fun i wr => ∃ k : Nat, k ≤ n ∧ i = .int .i64 k ∧ ∃ g, Hid (∀ j, j < k * 7 → g j = gts hs j) ∧ Mem w [(b1, n * 7, g)] wr) (fun i _ => n - (intOf i).toNat)
    case atStart => exact ⟨0, by omega, rfl, _, Lib.hid (fun j hj => absurd hj (by omega)), hM⟩
    case round =>
      clear hM
      obtain ⟨k, hk, rfl, g, hg, hM⟩ := hrel
      by_cases hlt : k < n
      · go_wp2_with (first | (refine wpList_getL rfl _ _ rfl _ _ rfl _ _ (HL.out.below hM.below) (rowTab _ _ rfl) (k * 7) rfl (by omega) ?_) | (go_at_call 83; refine (toGoat_any _ (hs k) (fun j hj => gts_row hs k j hj) _).mono ?_; rintro e W' ⟨rfl, hb'⟩; have hM' := hM.call hb'; clear hM hb'; have hM := hM'; clear hM') | (refine wpList_lay rfl _ _ _ rfl _ _ rfl _ _ rfl hM 0 rfl (by assumption) (rowTab _ _ rfl) (by omega) ?_ ?_; (first | (intro _ _; rfl) | (intro k _; exact h1 _) | (intro k _; simp only [lay, upd]; (repeat' split) <;> first | exact h1 _ | rfl)); intro W' hM'; clear hM; have hM := hM'; clear hM'; simp only [List.set] at hM))
        go_roundw
        case rel => exact ⟨k + 1, by omega, by go_num, _, Lib.hid (fun j hj => by
          by_cases e : k * 7 ≤ j
          · have := gts_row hs k (j - k * 7) (by omega)
            rw [show k * 7 + (j - k * 7) = j by omega] at this
            simp only [lay]
            rw [if_pos ⟨e, by omega⟩, this]
          · simp only [lay]
            rw [if_neg (by omega)]
            exact hg.out j (by omega)), hM⟩
        case measure => simp [intOf]; omega
      · obtain rfl : k = n := by omega
        go_wp2
        go_ret
        exact ⟨b1, rfl, hb1, (hM.ats 0 _ _ _ rfl).congr hg.out, hM.below⟩

set_option maxRecDepth 100000 in
set_option maxHeartbeats 1000000 in
/-- eqGoatS of two lists that hold the same. -/
theorem eqGoatS_same (b b' n c c' : Nat) (hs : Nat → Nat → Int) (hn : n ≤ maxLen) (w : World) (hA : At w b (n * 7) (gts hs)) (hA' : At w b' (n * 7) (gts hs)) (hne : b ≠ b') :
    Calls Tryd.prog 49 #[.slice (some ⟨b, 0, none⟩) n c, .slice (some ⟨b', 0, none⟩) n c'] w fun e w' => e = .returned (.bool true) ∧ Below w.heap.size w w' := by
  have hM : Mem w [(b, n * 7, gts hs), (b', n * 7, gts hs)] w := ((Mem.nil w).old hA (fun i p h => by simp at h)).old hA' (fun i p h => by
    match i, h with
    | 0, h => simp at h; rw [← h]; exact hne
    | _ + 1, h => simp at h)
  unfold maxLen at hn
  clear hA hA'
  go_enter Tryd.func49, Tryd.ntmps49
  go_wp2
  go_loopw [5] (fun i wr => ∃ k : Nat, k ≤ n ∧ i = .int .i64 k ∧ Mem w [(b, n * 7, gts hs), (b', n * 7, gts hs)] wr) (fun i _ => n - (intOf i).toNat)
  case atStart => exact ⟨0, by omega, rfl, hM⟩
  case round =>
    clear hM
    obtain ⟨k, hk, rfl, hM⟩ := hrel
    by_cases hlt : k < n
    · have l2 : (k : Int) < n := by omega
      have er : arr 7 (fun j => gts hs (k * 7 + j)) = arr 7 (gt (hs k)) := arr_congr fun j hj => gts_row hs k j hj
      go_wp2
      ((try simp only [Act.put, List.setIfInBounds_toArray, List.set_cons_succ, List.set_cons_zero]); refine wp_region_mem (by kernel_rfl) (by kernel_rfl) hM ?_; clear hM; (repeat (first | go_big_quiet_skip | (go_big_quiet_want; first | (refine quiet_get _ _ rfl _ _ rfl 1 rfl (rowTab _ _ rfl) (by omega) ?_; (simp only [er]); (simp only [Act.put, List.setIfInBounds_toArray, List.set_cons_succ, List.set_cons_zero]); go_big_quiet_on) | (refine quiet_get _ _ rfl _ _ rfl 0 rfl (rowTab _ _ rfl) (by omega) ?_; (simp only [er]); (simp only [Act.put, List.setIfInBounds_toArray, List.set_cons_succ, List.set_cons_zero]); go_big_quiet_on) | (refine quiet_call ?_; apply Exists.intro; apply Exists.intro; apply Exists.intro; refine ⟨fun W => ?_, fun W hM => ?_, ?_⟩; (go_simp; exact ⟨rfl, rfl⟩); (exact eqGoat_same (hs k) W); (simp only [Act.put, List.setIfInBounds_toArray, List.set_cons_succ, List.set_cons_zero]); go_big_quiet_on) | (refine quiet_val ?_; apply Exists.intro; refine ⟨fun W => ?_, ?_⟩; (go_simp; (try simp only [l2, if_true, Bool.false_eq_true, if_false]); rfl); (simp only [Act.put, List.setIfInBounds_toArray, List.set_cons_succ, List.set_cons_zero]); go_big_quiet_on)))); (with_reducible refine wpQuiet_nil ?_); intro W' hM)
      go_wp2
      go_roundw
      case rel => exact ⟨k + 1, by omega, by go_num, hM⟩
      case measure => simp [intOf]; omega
    · obtain rfl : k = n := by omega
      go_wp2
      go_ret
      exact ⟨rfl, hM.below⟩
end Go.Proofs.YtdlfhomnlhdacaaDoor
