/-
  Several texts in one: Richest, PlanForR, Made, MeadC, GreedyS.
-/
import Derived.Test.YtbbododeglkghaaDoorP5
import Derived.Test.YtbbododeglkghaaDoorP6
import Derived.Test.YtbbododeglkghaaDoorP4
import Derived.Test.YtbbododeglkghaaDoorP3
/-
  spec.l07Richest and impl.richestMeadow by contracts: slices.Max and Index of int16, firstMost.
-/
namespace Go.Proofs.YtbbododeglkghaaDoor
open Go Go.RowKit Go.BigFrame

/-- The first place of the greatest of the numbers up to k. -/
def topK (h : Nat → Int) : Nat → Nat
  | 0 => 0
  | k + 1 => if h (topK h k) < h (k + 1) then k + 1 else topK h k
theorem topK_le (h : Nat → Int) : ∀ k, topK h k ≤ k
  | 0 => Nat.le_refl _
  | k + 1 => by
    have := topK_le h k
    simp only [topK]; split <;> omega
theorem topK_max (h : Nat → Int) : ∀ k j, j ≤ k → h j ≤ h (topK h k)
  | 0, j, hj => by obtain rfl : j = 0 := by omega
                   exact Int.le_refl _
  | k + 1, j, hj => by
    simp only [topK]
    by_cases e : j = k + 1
    · subst e; split <;> omega
    · have := topK_max h k j (by omega)
      split <;> omega
theorem topK_first (h : Nat → Int) : ∀ k j, j < topK h k → h j < h (topK h k)
  | 0, j, hj => by simp [topK] at hj
  | k + 1, j, hj => by
    simp only [topK] at hj ⊢
    split at hj
    · rename_i hlt
      rw [if_pos hlt]
      have := topK_max h k j (by omega)
      omega
    · rename_i hlt
      rw [if_neg hlt]
      exact topK_first h k j hj
theorem topK_yes {h : Nat → Int} {k : Nat} (e : h (topK h k) < h (k + 1)) : topK h (k + 1) = k + 1 := by simp [topK, e]
theorem topK_no {h : Nat → Int} {k : Nat} (e : ¬ h (topK h k) < h (k + 1)) : topK h (k + 1) = topK h k := by simp [topK, e]
/-- The meadow with the most grass. -/
def richK (hs : Nat → Nat → Int) (n : Nat) : Nat := topK (fun i => hs i 0) (n - 1)
theorem richK_lt (hs : Nat → Nat → Int) {n : Nat} (hn : 1 ≤ n) : richK hs n < n := by
  have := topK_le (fun i => hs i 0) (n - 1)
  unfold richK; omega
def v16 (h : Nat → Int) : Nat → Value := fun k => .int .i16 (h k)

set_option maxRecDepth 100000 in
set_option maxHeartbeats 2000000 in
theorem l07Richest_any (b N n c : Nat) (F : Nat → Value) (hs : Nat → Nat → Int) (hn : 1 ≤ n) (hn6 : n ≤ 6) (hN : n * 3 ≤ N) (hf : ∀ j, j < n * 3 → F j = sMeadow hs j) (w : World) (hA : At w b N F) :
    Calls Tryd.prog 74 #[.slice (some ⟨b, 0, none⟩) n c] w fun e w' => e = .returned (.int .i64 (richK hs n : Nat)) ∧ Below w.heap.size w w' := by
  have hM : Mem w [(b, N, F)] w := (Mem.nil w).old hA (fun i p h => by simp at h)
  obtain ⟨m, rfl⟩ : ∃ m, n = m + 1 := ⟨n - 1, by omega⟩
  have hr : richK hs (m + 1) = topK (fun i => hs i 0) m := rfl
  rw [hr]
  have hv : ∀ i, i < m + 1 → F (i * 3) = .int .i16 (hs i 0) := fun i hi => by rw [hf _ (by omega)]; exact sMeadow_row hs i 0 (by omega)
  have Hv := Lib.hid hv
  clear hA hf hr hv hn
  obtain ⟨h, hh⟩ : ∃ h : Nat → Int, h = fun i => hs i 0 := ⟨_, rfl⟩
  have Hh : Hid (∀ i, i < m + 1 → F (i * 3) = .int .i16 (h i)) := Lib.hid (by rw [hh]; exact Hv.out)
  rw [← hh]
  clear Hv hh
  go_enter Tryd.func74, Tryd.ntmps74
  go_wp2
  go_loopw [3, 4] (fun a i wr => ∃ k : Nat, k ≤ m ∧ a = .int .i64 (topK h k : Nat) ∧ i = .int .i64 ((k + 1 : Nat) : Int) ∧ Mem w [(b, N, F)] wr) (fun _ i _ => m + 1 - (intOf i).toNat)
  case atStart => exact ⟨0, by omega, rfl, rfl, hM⟩
  case round =>
    clear hM
    obtain ⟨k, hk, rfl, rfl, hM⟩ := hrel
    have hbk := topK_le h k
    by_cases hlt : k < m
    · have lk : ((k + 1 : Nat) : Int) < ((m + 1 : Nat) : Int) := by omega
      have lk' : ((k : Nat) : Int) + 1 < (m : Int) + 1 := by omega
      have l2 : ((topK h k : Nat) : Int) < ((m + 1 : Nat) : Int) := by omega
      have l2' : ((topK h k : Nat) : Int) < (m : Int) + 1 := by omega
      have e1 : F ((k + 1) * 3) = .int .i16 (h (k + 1)) := Hh.out _ (by omega)
      have e2 : F (topK h k * 3) = .int .i16 (h (topK h k)) := Hh.out _ (by omega)
      generalize hj : k + 1 = j at *
      go_wp2
      by_cases hc : h (topK h k) < h j
      · have Hs := Lib.hid (topK_yes (h := h) (k := k) (by rw [hj]; exact hc))
        have tk_r0 : True := trivial
        ((try simp only [Act.put, List.setIfInBounds_toArray, List.set_cons_succ, List.set_cons_zero]); refine wp_region_mem (by kernel_rfl) (by kernel_rfl) hM ?_; clear hM; (repeat (first | go_big_quiet_skip | (go_big_quiet_want; first | (have _t := tk_r0; (refine quiet_get1 _ _ rfl _ _ rfl 0 rfl (cellTab _ rfl) (by omega) _ (e1) ?_; (simp only [Act.put, List.setIfInBounds_toArray, List.set_cons_succ, List.set_cons_zero]); go_big_quiet_on); clear tk_r0) | (refine quiet_get1 _ _ rfl _ _ rfl 0 rfl (cellTab _ rfl) (by omega) _ (e2) ?_; (simp only [Act.put, List.setIfInBounds_toArray, List.set_cons_succ, List.set_cons_zero]); go_big_quiet_on) | (refine quiet_val ?_; apply Exists.intro; refine ⟨fun W => ?_, ?_⟩; (go_simp; (try simp only [lk, lk', l2, l2', hc, if_true, Bool.false_eq_true, if_false]); rfl); (simp only [Act.put, List.setIfInBounds_toArray, List.set_cons_succ, List.set_cons_zero]); go_big_quiet_on)))); (with_reducible refine wpQuiet_nil ?_); intro W' hM)
        go_wp2
        go_roundw
        case rel => exact ⟨k + 1, by omega, by rw [Hs.out, hj], by rw [hj]; go_num, hM⟩
        case measure => simp [intOf]; omega
      · have Hs := Lib.hid (topK_no (h := h) (k := k) (by rw [hj]; exact hc))
        have tk_r0 : True := trivial
        ((try simp only [Act.put, List.setIfInBounds_toArray, List.set_cons_succ, List.set_cons_zero]); refine wp_region_mem (by kernel_rfl) (by kernel_rfl) hM ?_; clear hM; (repeat (first | go_big_quiet_skip | (go_big_quiet_want; first | (have _t := tk_r0; (refine quiet_get1 _ _ rfl _ _ rfl 0 rfl (cellTab _ rfl) (by omega) _ (e1) ?_; (simp only [Act.put, List.setIfInBounds_toArray, List.set_cons_succ, List.set_cons_zero]); go_big_quiet_on); clear tk_r0) | (refine quiet_get1 _ _ rfl _ _ rfl 0 rfl (cellTab _ rfl) (by omega) _ (e2) ?_; (simp only [Act.put, List.setIfInBounds_toArray, List.set_cons_succ, List.set_cons_zero]); go_big_quiet_on) | (refine quiet_val ?_; apply Exists.intro; refine ⟨fun W => ?_, ?_⟩; (go_simp; (try simp only [lk, lk', l2, l2', hc, if_true, Bool.false_eq_true, if_false]); rfl); (simp only [Act.put, List.setIfInBounds_toArray, List.set_cons_succ, List.set_cons_zero]); go_big_quiet_on)))); (with_reducible refine wpQuiet_nil ?_); intro W' hM)
        go_wp2
        go_roundw
        case rel => exact ⟨k + 1, by omega, by rw [Hs.out], by rw [hj]; go_num, hM⟩
        case measure => simp [intOf]; omega
    · obtain rfl : k = m := by omega
      go_wp2
      go_ret
      exact ⟨rfl, hM.below⟩

theorem int16s_under : Tryd.prog.underlying 105 = some (.slice 54) := Tryd.underlying105
theorem int16_info : (Tryd.prog.info? 54).map (fun i => (i.size, i.zero)) = some (1, some (.int .i16 0)) := by kernel_rfl
theorem int16_infoB : (Tryd.prog.info? 54).map (fun i => (i.size, i.zero, i.bytes)) = some (1, some (.int .i16 0), 2) := by kernel_rfl
theorem i16_one {x : Int} : ∀ k, k < 1 → ((fun _ => Value.int .i16 x) k).oneCell' = true := fun _ _ => rfl

set_option maxRecDepth 100000 in
set_option maxHeartbeats 2000000 in
theorem maxI16_any (h : Nat → Int) (b N m c : Nat) (F : Nat → Value) (hm : m < 100) (hN : m + 1 ≤ N) (hv : ∀ i, i < m + 1 → F i = .int .i16 (h i)) (w : World) (hA : At w b N F) :
    Calls Tryd.prog 82 #[.slice (some ⟨b, 0, none⟩) (m + 1) c] w fun e w' => e = .returned (.int .i16 (h (topK h m))) ∧ Below w.heap.size w w' := by
  have hM : Mem w [(b, N, F)] w := (Mem.nil w).old hA (fun i p h => by simp at h)
  have e0 : F 0 = .int .i16 (h 0) := hv 0 (by omega)
  have Hv := Lib.hid hv
  have d1 : decide (((m + 1 : Nat) : Int) < 1) = false := decide_eq_false (by omega)
  have d1' : decide ((m : Int) + 1 < 1) = false := decide_eq_false (by omega)
  clear hA hv
  go_enter Tryd.func82, Tryd.ntmps82
  go_wp2_with (first | (refine wpList_get1 rfl _ _ rfl _ _ rfl hM 0 rfl (cellTab _ rfl) (by omega) _ e0 ?_))
  go_loopw [3, 4] (fun a i wr => ∃ k : Nat, k ≤ m ∧ a = .int .i16 (h (topK h k)) ∧ i = .int .i64 ((k + 1 : Nat) : Int) ∧ Mem w [(b, N, F)] wr) (fun _ i _ => m + 1 - (intOf i).toNat)
  case atStart => exact ⟨0, by omega, rfl, rfl, hM⟩
  case round =>
    clear hM e0 d1 d1'
    obtain ⟨k, hk, rfl, rfl, hM⟩ := hrel
    by_cases hlt : k < m
    · have lk : ((k + 1 : Nat) : Int) < ((m + 1 : Nat) : Int) := by omega
      have e1 : F (k + 1) = .int .i16 (h (k + 1)) := Hv.out _ (by omega)
      generalize hj : k + 1 = j at *
      by_cases hc : h (topK h k) < h j
      · have Hs := Lib.hid (topK_yes (h := h) (k := k) (by rw [hj]; exact hc))
        go_wp2_with (first | (refine wpList_get1 rfl _ _ rfl _ _ rfl hM 0 rfl (cellTab _ rfl) (by omega) _ e1 ?_))
        go_roundw
        case rel => exact ⟨k + 1, by omega, by rw [Hs.out, hj], by rw [hj]; go_num, hM⟩
        case measure => simp [intOf]; omega
      · have Hs := Lib.hid (topK_no (h := h) (k := k) (by rw [hj]; exact hc))
        go_wp2_with (first | (refine wpList_get1 rfl _ _ rfl _ _ rfl hM 0 rfl (cellTab _ rfl) (by omega) _ e1 ?_))
        go_roundw
        case rel => exact ⟨k + 1, by omega, by rw [Hs.out], by rw [hj]; go_num, hM⟩
        case measure => simp [intOf]; omega
    · obtain rfl : k = m := by omega
      go_wp2
      go_ret
      exact ⟨rfl, hM.below⟩

set_option maxRecDepth 100000 in
set_option maxHeartbeats 2000000 in
theorem indexI16_any (h : Nat → Int) (b N m c : Nat) (F : Nat → Value) (hm : m < 100) (hN : m + 1 ≤ N) (hv : ∀ i, i < m + 1 → F i = .int .i16 (h i)) (w : World) (hA : At w b N F) :
    Calls Tryd.prog 83 #[.slice (some ⟨b, 0, none⟩) (m + 1) c, .int .i16 (h (topK h m))] w fun e w' => e = .returned (.int .i64 (topK h m : Nat)) ∧ Below w.heap.size w w' := by
  have hM : Mem w [(b, N, F)] w := (Mem.nil w).old hA (fun i p h => by simp at h)
  have hb := topK_le h m
  have hf := topK_first h m
  have Hf := Lib.hid hf
  have Hv := Lib.hid hv
  generalize topK h m = B at *
  clear hA hf hv
  go_enter Tryd.func83, Tryd.ntmps83
  go_wp2
  go_loopw [8] (fun i wr => ∃ k : Nat, k ≤ B ∧ i = .int .i64 k ∧ Mem w [(b, N, F)] wr) (fun i _ => m + 1 - (intOf i).toNat)
  case atStart => exact ⟨0, by omega, rfl, hM⟩
  case round =>
    clear hM
    obtain ⟨k, hk, rfl, hM⟩ := hrel
    have lk : (k : Int) < ((m + 1 : Nat) : Int) := by omega
    have lk' : (k : Int) < (m : Int) + 1 := by omega
    have e1 : F k = .int .i16 (h k) := Hv.out _ (by omega)
    by_cases he : k = B
    · subst he
      go_wp2_with (first | (refine wpList_get1 rfl _ _ rfl _ _ rfl hM 0 rfl (cellTab _ rfl) (by omega) _ e1 ?_))
      go_ret
      exact ⟨rfl, hM.below⟩
    · have hlt := Hf.out k (by omega)
      have hne : ¬ h B = h k := by omega
      have hne' : (h B == h k) = false := by rw [beq_eq_false_iff_ne]; omega
      clear hlt
      go_wp2_with (first | (refine wpList_get1 rfl _ _ rfl _ _ rfl hM 0 rfl (cellTab _ rfl) (by omega) _ e1 ?_))
      go_roundw
      case rel => exact ⟨k + 1, by omega, by go_num, hM⟩
      case measure => simp [intOf]; omega

theorem firstMost16_any (h : Nat → Int) (b N m c : Nat) (F : Nat → Value) (hm : m < 100) (hN : m + 1 ≤ N) (hv : ∀ i, i < m + 1 → F i = .int .i16 (h i)) (w : World) (hA : At w b N F) :
    Calls Tryd.prog 75 #[.slice (some ⟨b, 0, none⟩) (m + 1) c] w fun e w' => e = .returned (.tuple #[.int .i64 (topK h m : Nat), .int .i16 (h (topK h m))]) ∧ Below w.heap.size w w' := by
  have hM : Mem w [(b, N, F)] w := (Mem.nil w).old hA (fun i p h => by simp at h)
  have Hv := Lib.hid hv
  clear hv
  go_enter Tryd.func75, Tryd.ntmps75
  go_wp2_with (first | (go_at_call 82; (with_reducible refine (maxI16_any h b N m c F hm hN Hv.out _ (hM.ats 0 _ _ _ rfl)).mono ?_); rintro e W' ⟨rfl, hb'⟩; have hM' := hM.call hb'; clear hM hb'; have hM := hM'; clear hM') | (go_at_call 83; (with_reducible refine (indexI16_any h b N m c F hm hN Hv.out _ (hM.ats 0 _ _ _ rfl)).mono ?_); rintro e W' ⟨rfl, hb'⟩; have hM' := hM.call hb'; clear hM hb'; have hM := hM'; clear hM'))
  go_ret2
  exact ⟨rfl, hM.below⟩

set_option maxRecDepth 100000 in
set_option maxHeartbeats 4000000 in
theorem richestMeadow_any (bl N n c : Nat) (F : Nat → Value) (hs : Nat → Nat → Int) (hn : 1 ≤ n) (hn6 : n ≤ 6) (hN : n * 3 ≤ N) (hf : ∀ j, j < n * 3 → F j = sMeadow hs j) (w : World) (hA : At w bl N F) :
    Calls Tryd.prog 60 #[.slice (some ⟨bl, 0, none⟩) n c] w (GivesV [richK hs n] w) := by
  have hM : Mem w [(bl, N, F)] w := (Mem.nil w).old hA (fun i p h => by simp at h)
  obtain ⟨m, rfl⟩ : ∃ m, n = m + 1 := ⟨n - 1, by omega⟩
  have hr : richK hs (m + 1) = topK (fun i => hs i 0) m := rfl
  rw [hr]
  have Hf := Lib.hid hf
  clear hA hf hr
  go_enter Tryd.func60, Tryd.ntmps60
  go_wp2
  go_loopw [3, 10] (fun v i wr => ∃ k : Nat, k ≤ m + 1 ∧ i = .int .i64 k ∧ Lst w [(bl, N, F)] 1 v k (v16 (fun i => hs i 0)) wr) (fun _ i _ => m + 1 - (intOf i).toNat)
  case atStart => exact ⟨0, by omega, rfl, .inl ⟨rfl, rfl, hM⟩⟩
  case round =>
    clear hM
    obtain ⟨k, hk, rfl, hL⟩ := hrel
    by_cases hlt : k < m + 1
    · have l2 : (k : Int) < ((m + 1 : Nat) : Int) := by omega
      have l2' : (k : Int) < (m : Int) + 1 := by omega
      have er : arr 3 (fun j => F (k * 3 + j)) = arr 3 (vMeadow (hs k)) := arr_congr fun j hj => by rw [Hf.out _ (by omega)]; exact sMeadow_row hs k j hj
      have e0 : vMeadow (hs k) 0 = .int .i16 (hs k 0) := rfl
      have hk2 : k ≤ 1048576 := by omega
      rcases hL with ⟨rfl, hn0, hM⟩ | ⟨b, c1, F1, rfl, hbb, hnc, hF1, hM⟩
      · subst hn0
        have er0 : arr 3 (fun j => F (0 + j)) = arr 3 (vMeadow (hs 0)) := arr_congr fun j hj => by rw [Hf.out _ (by omega)]; exact sMeadow_row hs 0 j hj
        clear er
        have Hq : Hid (∀ j, j < 1 → (fun _ => Value.int .i16 (hs 0 0)) j = v16 (fun i => hs i 0) j) := Lib.hid (fun j hj => by
          obtain rfl : j = 0 := (by omega)
          rfl)
        have tk_l1 : True := trivial; have tk_p1 : True := trivial; have tk_r1 : True := trivial; have tk_b3 : True := trivial; have tk_r2 : True := trivial
        go_wp2_with (first | (have _t := tk_r1; (refine wpList_get rfl _ _ rfl _ _ rfl hM 0 rfl rowMeadow (by omega) ?_); rw [er0]; clear tk_r1) | (have _t := tk_b3; refine wpList_zero rfl _ rfl zeroMeadow hM ?_; intro b3 W' hb3 hM'; clear hM tk_b3; have hM := hM'; clear hM') | (have _t := tk_r2; (refine wpList_lay rfl _ _ _ rfl _ _ rfl _ _ rfl hM 0 rfl (by assumption) rowMeadow (by omega) (fun _ _ => rfl) ?_; intro W' hM'; clear hM; have hM1 := hM'.re 0 rfl (vMeadow (hs 0)) (fun j hj => by simp only [lay]; rw [if_pos ⟨by omega, by omega⟩, Nat.sub_zero]); simp only [List.set_cons_zero] at hM1; clear hM'; have hM := hM1; clear hM1); clear tk_r2) | (refine wpList_get1 rfl _ _ rfl _ _ rfl hM 0 rfl (cellTab _ rfl) (by omega) _ e0 ?_) | (have _t := tk_l1; refine wpList_lit1 rfl _ _ _ rfl (.int .i16 (hs 0 0)) rfl rfl _ int16s_under int16_info hM ?_; intro l1 W' hl1 hM'; clear hM tk_l1; have hM := hM'; clear hM') | (have _t := tk_p1; refine wpList_push0 rfl _ _ _ rfl _ 1 _ _ int16s_under int16_infoB rfl (by omega) rfl _ _ rfl hM (v16 (fun i => hs i 0)) Hq.out ?_; intro bL cL FL W' hbL hcL hFL hM'; clear hM tk_p1; have hM := hM'; clear hM'))
        go_roundw
        case rel => exact ⟨1, by omega, by first | rfl | go_num, by
          exact .inr ⟨bL, cL, FL, rfl, hbL, hcL, hFL, hM.skip⟩⟩
        case measure => simp [intOf]
      · have Hf1 : Hid (∀ j, j < k * 1 → F1 j = v16 (fun i => hs i 0) j) := Lib.hid hF1
        have Hnew : Hid (∀ j, j < 1 → (fun _ => Value.int .i16 (hs k 0)) j = v16 (fun i => hs i 0) (k * 1 + j)) := Lib.hid (fun j hj => by
          obtain rfl : j = 0 := (by omega)
          rw [Nat.mul_one]; rfl)
        clear hF1
        have tk_l1 : True := trivial; have tk_p1 : True := trivial; have tk_r1 : True := trivial; have tk_b3 : True := trivial; have tk_r2 : True := trivial; have tk_r3 : True := trivial
        go_wp2_with (first | (have _t := tk_r1; (refine wpList_get rfl _ _ rfl _ _ rfl hM 1 rfl rowMeadow (by omega) ?_); rw [er]; clear tk_r1) | (have _t := tk_b3; refine wpList_zero rfl _ rfl zeroMeadow hM ?_; intro b3 W' hb3 hM'; clear hM tk_b3; have hM := hM'.swap; clear hM') | (have _t := tk_r2; (refine wpList_lay rfl _ _ _ rfl _ _ rfl _ _ rfl hM 1 rfl (by assumption) rowMeadow (by omega) (fun _ _ => rfl) ?_; intro W' hM'; clear hM; have hM1 := hM'.re 1 rfl (vMeadow (hs k)) (fun j hj => by simp only [lay]; rw [if_pos ⟨by omega, by omega⟩, Nat.sub_zero]); simp only [List.set_cons_zero, List.set_cons_succ] at hM1; clear hM'; have hM := hM1; clear hM1); clear tk_r2) | (have _t := tk_r3; refine wpList_get1 rfl _ _ rfl _ _ rfl hM 1 rfl (cellTab _ rfl) (by omega) _ e0 ?_; clear tk_r3) | (have _t := tk_l1; refine wpList_lit1 rfl _ _ _ rfl (.int .i16 (hs k 0)) rfl rfl _ int16s_under int16_info hM ?_; intro l1 W' hl1 hM'; clear hM tk_l1; have hM := hM'; clear hM') | (have _t := tk_p1; refine wpList_push1 rfl _ _ _ rfl _ 1 _ _ int16s_under int16_infoB rfl (by omega) _ _ _ _ rfl hbb hnc hk2 _ _ rfl i16_one hM (v16 (fun i => hs i 0)) Hf1.out Hnew.out ?_; intro bL cL FL W' hbL hcL hFL hM'; clear hM tk_p1; have hM := hM'; clear hM'))
        go_roundw
        case rel => exact ⟨k + 1, by omega, by go_num, .inr ⟨bL, cL, FL, rfl, hbL, hcL, hFL, hM.skip⟩⟩
        case measure => simp [intOf]; omega
    · obtain rfl : k = m + 1 := by omega
      rcases hL with ⟨rfl, hn0, hM⟩ | ⟨b, c1, F1, rfl, hbb, hnc, hF1, hM⟩
      · omega
      have hm : m < 100 := by omega
      have hN1 : m + 1 ≤ c1 * 1 := by omega
      have Hv : Hid (∀ i, i < m + 1 → F1 i = .int .i16 ((fun i => hs i 0) i)) := Lib.hid (fun i hi => hF1 i (by omega))
      clear hF1
      generalize hh : (fun i => hs i 0) = h at *
      have Hh := Lib.hid hh
      clear hh
      have tk_l1 : True := trivial
      go_wp2_with (first | (go_at_call 75; (with_reducible refine (firstMost16_any h b (c1 * 1) m c1 F1 hm hN1 Hv.out _ (hM.ats 0 _ _ _ rfl)).mono ?_); rintro e W' ⟨rfl, hb'⟩; have hM' := hM.call hb'; clear hM hb'; have hM := hM'; clear hM') | (have _t := tk_l1; refine wpList_lit1 rfl _ _ _ rfl (.int .i64 (topK h m : Nat)) rfl rfl _ int64s_underR int64_infoR hM ?_; intro l1 W' hl1 hM'; clear hM tk_l1; have hM := hM'; clear hM'))
      go_ret
      exact ⟨_, rfl, .inr ⟨l1, 1, _, rfl, hl1, Nat.le_refl _, fun j hj => by
        obtain rfl : j = 0 := by simp at hj; omega
        rw [Hh.out]; rfl, hM.skip.skip⟩⟩
end Go.Proofs.YtbbododeglkghaaDoor

/-
  (*impl.search).planFor, with richestMeadow, by contract.
-/
namespace Go.Proofs.YtbbododeglkghaaDoor
open Go Go.RowKit Go.BigFrame

/-- A search's cells. -/
def srchVR (need : Int) (B t : Nat) : Nat → Value := fun k => if k = 0 then liveV need else if k = 1 then .func (.func 60) #[] #[] else if k = 2 then .int .i64 (B : Int) else .int .i64 (t : Int)
theorem season_cellR : CellT Tryd.prog 74 := ⟨⟨_, Tryd.underlying74, rfl⟩, by kernel_rfl⟩
theorem offer_cellR : CellT Tryd.prog 88 := ⟨⟨_, Tryd.underlying88, rfl⟩, by kernel_rfl⟩
theorem srch_tickR (need : Int) (B t : Nat) : ∀ k, k < 4 → upd (srchVR need B t) 3 (.int .i64 ((t : Int) + 1)) k = srchVR need B (t + 1) k := fun k hk => by
  rcases (show k = 0 ∨ k = 1 ∨ k = 2 ∨ k = 3 by omega) with rfl | rfl | rfl | rfl <;> rfl
theorem Mem.skip3R {w : Base} {W : World} {p q r : Nat × Nat × (Nat → Value)} {L : Blocks} (h : Mem w (p :: q :: r :: L) W) : Mem w (p :: q :: L) W :=
  ⟨h.good, fun i b n f hi => by
    match i, hi with
    | 0, hi => exact h.ats 0 b n f (by simpa using hi)
    | 1, hi => exact h.ats 1 b n f (by simpa using hi)
    | i + 2, hi => exact h.ats (i + 3) b n f (by simpa using hi),
   fun i j x y hi hj hne => by
    match i, j, hi, hj with
    | 0, 0, _, _ => exact absurd rfl hne
    | 1, 1, _, _ => exact absurd rfl hne
    | 0, 1, hi, hj => exact h.apart 0 1 x y (by simpa using hi) (by simpa using hj) (by omega)
    | 1, 0, hi, hj => exact h.apart 1 0 x y (by simpa using hi) (by simpa using hj) (by omega)
    | 0, j + 2, hi, hj => exact h.apart 0 (j + 3) x y (by simpa using hi) (by simpa using hj) (by omega)
    | 1, j + 2, hi, hj => exact h.apart 1 (j + 3) x y (by simpa using hi) (by simpa using hj) (by omega)
    | i + 2, 0, hi, hj => exact h.apart (i + 3) 0 x y (by simpa using hi) (by simpa using hj) (by omega)
    | i + 2, 1, hi, hj => exact h.apart (i + 3) 1 x y (by simpa using hi) (by simpa using hj) (by omega)
    | i + 2, j + 2, hi, hj => exact h.apart (i + 3) (j + 3) x y (by simpa using hi) (by simpa using hj) (by omega)⟩

def NotPoorR (a b : Int) : Prop := ¬ a < b
def NotSpentR (a b : Nat) : Prop := ¬ a = b
/-- What a search gives. -/
def PlanRR (a : Nat → Addr) (w : World) (K : Blocks) (bs : Nat) (need : Int) (B : Nat) (r : Fnd) (e : Ending) (W' : World) : Prop :=
  (∃ p t' b v, r = (some p, t', b) ∧ e = .returned (.tuple #[v, .nilIface]) ∧ (p.length = 0 → v = .slice none 0 0) ∧ Lst w ((bs, 4, srchVR need B t') :: K) 1 v p.length (vI (natI p)) W') ∨
  (∃ t', r = (none, t', true) ∧ e = .returned (.tuple #[.slice none 0 0, errV (a 6)]) ∧ Mem w ((bs, 4, srchVR need B t') :: K) W') ∨
  (∃ t', r = (none, t', false) ∧ e = .returned (.tuple #[.slice none 0 0, errV (a 4)]) ∧ Mem w ((bs, 4, srchVR need B t') :: K) W')

set_option maxRecDepth 100000 in
set_option maxHeartbeats 16000000 in
theorem planForR {a : Nat → Addr} (w : World) (hE : Errs a w) (need : Int) (hd : 1 ≤ need ∧ need ≤ 1000) (B : Nat) (hB : B ≤ 20000) (n : Nat) (hn1 : 1 ≤ n) (hn6 : n ≤ 6) (bs : Nat) (hbs : w.heap.size ≤ bs) :
    ∀ (d : Nat), d ≤ 30 → ∀ (hs : Nat → Nat → Int) (_ : ∀ i, i < n → meadB (hs i) = true) (t : Nat) (_ : t ≤ B) (bl N c : Nat) (F : Nat → Value) (_ : n * 3 ≤ N) (_ : ∀ j, j < n * 3 → F j = sMeadow hs j) (K : Blocks) (W : World) (_ : Mem w ((bs, 4, srchVR need B t) :: (bl, N, F) :: K) W),
      Calls Tryd.prog 61 #[.pointer (some ⟨bs, 0, none⟩), .slice (some ⟨bl, 0, none⟩) n c, .int .i64 (d : Int)] W (PlanRR a w ((bl, N, F) :: K) bs need B (goS need B (fun hs => [richK hs n]) d hs t)) := by
  intro d
  induction d with
  | zero =>
    intro _ hs _ t _ bl N c F _ _ K W hM
    go_enter Tryd.func61, Tryd.ntmps61
    go_wp2
    go_ret2
    exact .inl ⟨[], t, false, _, rfl, rfl, fun _ => rfl, .inl ⟨rfl, rfl, hM⟩⟩
  | succ d ih =>
    intro hd30 hs hb t ht bl N c F hN hF K W hM
    have HE := Lib.hid hE
    have Hb := Lib.hid hb
    have Hf := Lib.hid hF
    have IH := Lib.hid ih
    clear hE hb hF ih
    have dd : decide (((d + 1 : Nat) : Int) = 0) = false := decide_eq_false (by omega)
    have db : (((d + 1 : Nat) : Int) == 0) = false := by rw [beq_eq_false_iff_ne]; omega
    have dn : ¬ (((d + 1 : Nat) : Int) = 0) := by omega
    have dw : IntKind.i64.wrap (((d + 1 : Nat) : Int) - 1) = (d : Int) := by rw [IntWalk.i64_in _ (by omega)]; omega
    obtain ⟨ml, hml⟩ : ∃ ml : List Nat, ml = (fun hs => [richK hs n]) hs := ⟨_, rfl⟩
    have hR : goS need B (fun hs => [richK hs n]) (d + 1) hs t = tryL need B (goS need B (fun hs => [richK hs n]) d) hs ml t := by rw [hml]; rfl
    have hmn : ∀ i, (h : i < ml.length) → ml[i] < n := by
      rw [hml]; intro i h; have := richK_lt hs hn1; simpa using this
    have hm0 : 0 < ml.length := by rw [hml]; simp
    have hlen : ml.length ≤ 6 := by rw [hml]; simp
    rw [hR]
    have hoff : ∀ W, Mem w ((bs, 4, srchVR need B t) :: (bl, N, F) :: K) W → Calls Tryd.prog 60 #[.slice (some ⟨bl, 0, none⟩) n c] W (GivesV ml W) := fun W hM => by
      rw [hml]; exact richestMeadow_any bl N n c F hs hn1 hn6 hN Hf.out _ (hM.ats 1 _ _ _ rfl)
    have Hoff := Lib.hid hoff
    have Hmn := Lib.hid hmn
    generalize hr : tryL need B (goS need B (fun hs => [richK hs n]) d) hs ml t = r
    have e1 : srchVR need B t 1 = .func (.func 60) #[] #[] := rfl
    clear hoff hmn hml hR
    generalize hdI : ((d + 1 : Nat) : Int) = dI at *
    go_enter Tryd.func61, Tryd.ntmps61
    go_wp2_with (first | (refine wpList_get1 rfl _ _ rfl _ _ rfl hM 0 rfl offer_cellR (by omega) _ e1 ?_) | (go_at_call 60; refine (Hoff.out _ hM).mono ?_; rintro e W' ⟨vo, rfl, hL0⟩; obtain ⟨bo, co, Fo, rfl, hbo, hco, hFo, hAo, hbl⟩ := hL0.someQ hm0; have hbo2 := Nat.le_trans hM.size hbo; have hM' := hM.freshQ hbl hAo hbo; clear hM hbl hAo hL0; have hM := hM'; clear hM'))
    go_loopw [22] (fun i wr => ∃ k : Nat, k ≤ ml.length ∧ i = .int .i64 k ∧ ∃ t' : Nat, t' ≤ B ∧ Hid (tryL need B (goS need B (fun hs => [richK hs n]) d) hs (ml.drop k) t' = r) ∧ Mem w ((bs, 4, srchVR need B t') :: (bo, co * 1, Fo) :: (bl, N, F) :: K) wr) (fun i _ => ml.length - (intOf i).toNat)
    case atStart => exact ⟨0, by omega, rfl, t, ht, Lib.hid hr, hM.swap⟩
    case round =>
      clear hM hr Hoff e1 ht t
      obtain ⟨k, hk, rfl, t, ht, hr, hM⟩ := hrel
      by_cases hlt : k < ml.length
      · have l2 : (k : Int) < ml.length := by omega
        obtain ⟨m, hm⟩ : ∃ m : Nat, m = ml[k] := ⟨_, rfl⟩
        have hmn := Hmn.out k hlt
        rw [← hm] at hmn
        have hdrop : ml.drop k = m :: ml.drop (k + 1) := by rw [hm]; exact List.drop_eq_getElem_cons hlt
        have Hd := Lib.hid hdrop
        have ek : Fo k = .int .i64 (m : Int) := by rw [hFo k (by omega), natI_at hlt, hm]
        have e0 : srchVR need B t 0 = liveV need := rfl
        have e2 : srchVR need B t 2 = .int .i64 (B : Int) := rfl
        have e3 : srchVR need B t 3 = .int .i64 (t : Int) := rfl
        clear hm hdrop
        by_cases hp : hs m 0 < need
        · have Hr : Hid (tryL need B (goS need B (fun hs => [richK hs n]) d) hs (ml.drop (k + 1)) t = r) := Lib.hid (by rw [← hr.out, Hd.out, tryL_poor hp])
          go_wp2_with (first | (refine wpList_get1 rfl _ _ rfl _ _ rfl hM 1 rfl (cellTab _ rfl) (by omega) _ ek ?_) | (refine wpList_get1 rfl _ _ rfl _ _ rfl hM 0 rfl season_cellR (by omega) _ e0 ?_) | (go_at_call 73; (with_reducible refine (dayIn_no bl n c N F hs hN Hf.out Hb.out need m hmn hp _ (hM.ats 2 _ _ _ rfl) (HE.out.below hM.below)).mono ?_); rintro e W' ⟨rfl, hb'⟩; have hM' := hM.call hb'; clear hM hb'; have hM := hM'; clear hM'))
          go_roundw
          case rel => exact ⟨k + 1, by omega, by go_num, t, ht, Hr, hM⟩
          case measure => simp [intOf]; omega
        by_cases ht2 : t = B
        · have Hr : Hid (r = (none, t, true)) := Lib.hid (by rw [← hr.out, Hd.out, tryL_spent hp ht2])
          have tb : ((t : Int) == (B : Int)) = true := by rw [beq_iff_eq]; omega
          have hp' : need ≤ hs m 0 := by omega
          clear ht2
          go_wp2_with (first | (refine wpList_get1 rfl _ _ rfl _ _ rfl hM 1 rfl (cellTab _ rfl) (by omega) _ ek ?_) | (refine wpList_get1 rfl _ _ rfl _ _ rfl hM 0 rfl season_cellR (by omega) _ e0 ?_) | (go_at_call 73; (with_reducible refine (dayIn_yes bl n c N F hs hn1 hn6 hN Hf.out Hb.out need hd m hmn hp' _ (hM.ats 2 _ _ _ rfl)).mono ?_); rintro e W' ⟨bN, cN, FN, rfl, hbN, hcN, hFN, hAN, hbl⟩; have hbN2 := Nat.le_trans hM.size hbN; have hM' := (hM.freshQ hbl hAN hbN).swap; clear hM hbl hAN; have hM := hM'; clear hM'))
          ((try simp only [Act.put, List.setIfInBounds_toArray, List.set_cons_succ, List.set_cons_zero]); refine wp_region_mem (by kernel_rfl) (by kernel_rfl) hM ?_; clear hM; (repeat (first | go_big_quiet_skip | (go_big_quiet_want; first | (have _t := trivial; (refine quiet_get1 _ _ rfl _ _ rfl 0 rfl (cellTab _ rfl) (by omega) _ (e3) ?_; (simp only [Act.put, List.setIfInBounds_toArray, List.set_cons_succ, List.set_cons_zero]); go_big_quiet_on)) | (refine quiet_get1 _ _ rfl _ _ rfl 0 rfl (cellTab _ rfl) (by omega) _ (e2) ?_; (simp only [Act.put, List.setIfInBounds_toArray, List.set_cons_succ, List.set_cons_zero]); go_big_quiet_on) | (refine quiet_val ?_; apply Exists.intro; refine ⟨fun W => ?_, ?_⟩; (go_simp; (try simp only [tb, if_true, Bool.false_eq_true, if_false]); rfl); (simp only [Act.put, List.setIfInBounds_toArray, List.set_cons_succ, List.set_cons_zero]); go_big_quiet_on)))); (with_reducible refine wpQuiet_nil ?_); intro W' hM)
          go_wp2
          ((try simp only [Act.put, List.setIfInBounds_toArray, List.set_cons_succ, List.set_cons_zero]); refine wp_region_mem (by kernel_rfl) (by kernel_rfl) hM ?_; clear hM; (repeat (first | go_big_quiet_skip | (go_big_quiet_want; first | (refine quiet_old _ _ rfl _ _ rfl (cellTab _ rfl) (errV (a 6)) (fun W hM => (HE.out.below hM.below).vars 6 (by omega)) ?_; (simp only [Act.put, List.setIfInBounds_toArray, List.set_cons_succ, List.set_cons_zero]); go_big_quiet_on) | (refine quiet_val ?_; apply Exists.intro; refine ⟨fun W => ?_, ?_⟩; (go_simp; rfl); (simp only [Act.put, List.setIfInBounds_toArray, List.set_cons_succ, List.set_cons_zero]); go_big_quiet_on)))); (with_reducible refine wpQuiet_nil ?_); intro W' hM)
          go_wp2
          go_ret2
          exact .inr (.inl ⟨t, Hr.out, rfl, hM.skip.skip⟩)
        have tb : ((t : Int) == (B : Int)) = false := by rw [beq_eq_false_iff_ne]; omega
        have hp' : need ≤ hs m 0 := by omega
        have hw : IntKind.i64.wrap ((t : Int) + 1) = (t : Int) + 1 := IntWalk.i64_in _ (by omega)
        have ht1 : t + 1 ≤ B := by omega
        cases hgo : goS need B (fun hs => [richK hs n]) d (dayM hs need m) (t + 1) with
        | mk o q =>
          obtain ⟨t', b⟩ := q
          have ht' : t' ≤ B := by
            have := goS_le need B (fun hs => [richK hs n]) d (dayM hs need m) (t + 1) ht1
            rw [hgo] at this; exact this
          have Hgo := Lib.hid hgo
          have Hbd := Lib.hid (fun i hi => dayM_ok (i := i) Hb.out hd hp' hi)
          have Hp : NotPoorR (hs m 0) need := hp
          have Ht2 : NotSpentR t B := ht2
          have Htick := Lib.hid (srch_tickR need B t)
          clear hgo hp ht2
          go_wp2_with (first | (refine wpList_get1 rfl _ _ rfl _ _ rfl hM 1 rfl (cellTab _ rfl) (by omega) _ ek ?_) | (refine wpList_get1 rfl _ _ rfl _ _ rfl hM 0 rfl season_cellR (by omega) _ e0 ?_) | (go_at_call 73; (with_reducible refine (dayIn_yes bl n c N F hs hn1 hn6 hN Hf.out Hb.out need hd m hmn hp' _ (hM.ats 2 _ _ _ rfl)).mono ?_); rintro e W' ⟨bN, cN, FN, rfl, hbN, hcN, hFN, hAN, hbl⟩; have hbN2 := Nat.le_trans hM.size hbN; have hM' := (hM.freshQ hbl hAN hbN).swap; clear hM hbl hAN; have hM := hM'; clear hM'))
          ((try simp only [Act.put, List.setIfInBounds_toArray, List.set_cons_succ, List.set_cons_zero]); refine wp_region_mem (by kernel_rfl) (by kernel_rfl) hM ?_; clear hM; (repeat (first | go_big_quiet_skip | (go_big_quiet_want; first | (have _t := trivial; (refine quiet_get1 _ _ rfl _ _ rfl 0 rfl (cellTab _ rfl) (by omega) _ (e3) ?_; (simp only [Act.put, List.setIfInBounds_toArray, List.set_cons_succ, List.set_cons_zero]); go_big_quiet_on)) | (refine quiet_get1 _ _ rfl _ _ rfl 0 rfl (cellTab _ rfl) (by omega) _ (e2) ?_; (simp only [Act.put, List.setIfInBounds_toArray, List.set_cons_succ, List.set_cons_zero]); go_big_quiet_on) | (refine quiet_val ?_; apply Exists.intro; refine ⟨fun W => ?_, ?_⟩; (go_simp; (try simp only [tb, if_true, Bool.false_eq_true, if_false]); rfl); (simp only [Act.put, List.setIfInBounds_toArray, List.set_cons_succ, List.set_cons_zero]); go_big_quiet_on)))); (with_reducible refine wpQuiet_nil ?_); intro W' hM)
          have tk_s1 : True := trivial
          go_wp2_with (first | (refine wpList_get1 rfl _ _ rfl _ _ rfl hM 0 rfl (cellTab _ rfl) (by omega) _ e3 ?_) | (have _t := tk_s1; refine wpList_set1 rfl _ _ _ rfl _ _ rfl _ rfl rfl hM 0 rfl hbs (cellTab _ rfl) (by omega) ?_; intro W' hM'; clear hM tk_s1; have hM := hM'.re 0 rfl _ Htick.out; clear hM'; simp only [List.set] at hM))
          go_at_call 61
          refine (IH.out (by omega) (dayM hs need m) Hbd.out (t + 1) ht1 bN (cN * 3) cN FN (by omega) hFN ((bo, co * 1, Fo) :: (bl, N, F) :: K) _ hM).mono ?_
          rintro e W2 (⟨p, t2, b2, v, hq, rfl, hv0, hL⟩ | ⟨t2, hq, rfl, hM2⟩ | ⟨t2, hq, rfl, hM2⟩)
          · rw [Hgo.out] at hq
            simp only [Prod.mk.injEq] at hq
            obtain ⟨rfl, rfl, rfl⟩ := hq
            have Hr : Hid (r = (some (m :: p), t', false)) := Lib.hid (by rw [← hr.out, Hd.out, tryL_some Hp Ht2 Hgo.out])
            have hpl : p.length = d := goS_len need B (fun hs => [richK hs n]) d (dayM hs need m) (t + 1) p (by rw [Hgo.out])
            clear hM
            rcases hL with ⟨rfl, hn0, hM⟩ | ⟨b, c2, F2, rfl, hbb, hnc, hF2, hM⟩
            · clear hv0
              have tk_l1 : True := trivial
              go_wp2_with (first | (have _t := tk_l1; refine wpList_lit1 rfl _ _ _ rfl (.int .i64 (m : Int)) rfl rfl _ int64s_underR int64_infoR hM ?_; intro l1 W' hl1 hM'; clear hM tk_l1; have hM := hM'; clear hM') | (go_at_call 76; (with_reducible refine (insert_none (Base.of w) _ l1 (m : Int) (fun _ => undef) _ hM).mono ?_); rintro e W' ⟨b3, c3, F3, rfl, hb3, hc3, hF30, hF3, hM'⟩; clear hM; have hM := hM'; clear hM'))
              go_ret2
              have hp0 : p = [] := List.length_eq_zero_iff.1 hn0
              subst hp0
              exact .inl ⟨[m], t', false, _, Hr.out, rfl, fun h => by simp at h, .inr ⟨b3, c3, F3, rfl, hb3, hc3, fun j hj => by
                obtain rfl : j = 0 := by simp at hj; omega
                rw [hF30]; rfl, by rw [Nat.mul_one]; exact hM.skip3R.skip3R⟩⟩
            · rw [Nat.mul_one] at hM
              have hbb2 : (Base.of w).B ≤ b := hbb
              have h12 : ∀ j, j < p.length → (F2 j).oneCell' = true := fun j hj => by rw [hF2 j (by omega)]; rfl
              have H12 := Lib.hid h12
              clear h12
              by_cases hp0 : p.length = 0
              · exact absurd (hv0 hp0) (by simp)
              have hp1 : 1 ≤ p.length := by omega
              have hpn : p.length ≤ 100000 := by omega
              have hnc2 : p.length ≤ c2 := by omega
              clear hpl
              clear hv0
              have tk_l1 : True := trivial
              go_wp2_with (first | (have _t := tk_l1; refine wpList_lit1 rfl _ _ _ rfl (.int .i64 (m : Int)) rfl rfl _ int64s_underR int64_infoR hM ?_; intro l1 W' hl1 hM'; clear hM tk_l1; have hM := hM'; clear hM') | (go_at_call 76; (with_reducible refine (insert_some (Base.of w) _ l1 b p.length c2 (m : Int) F2 hp1 hnc2 hpn hbb2 H12.out _ hM).mono ?_); rintro e W' ⟨b3, c3, F3, rfl, hb3, hc3, hF30, hF3, hM'⟩; clear hM; have hM := hM'; clear hM'))
              go_ret2
              exact .inl ⟨m :: p, t', false, _, Hr.out, rfl, fun h => by simp at h, .inr ⟨b3, c3, F3, rfl, hb3, hc3, fun j hj => by
                rw [natI_cons]
                cases j with
                | zero => rw [hF30]; rfl
                | succ j => rw [hF3 j (by simp at hj; omega), hF2 j (by simp at hj; omega), vI_consS], by rw [Nat.mul_one]; exact hM.skip3R.skip3R⟩⟩
          · rw [Hgo.out] at hq
            simp only [Prod.mk.injEq] at hq
            obtain ⟨rfl, rfl, rfl⟩ := hq
            have Hr : Hid (r = (none, t', true)) := Lib.hid (by rw [← hr.out, Hd.out, tryL_over Hp Ht2 Hgo.out])
            clear hM
            have hM := hM2
            clear hM2
            have v6 : W2.cell? ⟨6, 0, none⟩ = some (errV (a 6)) := (HE.out.below hM.below).vars 6 (by omega)
            go_wp2_with (first | (go_at_call 72; (with_reducible refine (is_yes 6 _).mono ?_); rintro e W' ⟨rfl, rfl⟩))
            go_ret2
            exact .inr (.inl ⟨t', Hr.out, rfl, hM.skip.skip⟩)
          · rw [Hgo.out] at hq
            simp only [Prod.mk.injEq] at hq
            obtain ⟨rfl, rfl, rfl⟩ := hq
            have Hr : Hid (tryL need B (goS need B (fun hs => [richK hs n]) d) hs (ml.drop (k + 1)) t' = r) := Lib.hid (by rw [← hr.out, Hd.out, tryL_next Hp Ht2 Hgo.out])
            clear hM
            have hM := hM2
            clear hM2
            have v6 : W2.cell? ⟨6, 0, none⟩ = some (errV (a 6)) := (HE.out.below hM.below).vars 6 (by omega)
            go_wp2_with (first | (go_at_call 72; (with_reducible refine (is_no (HE.out.below hM.below) 4 6 (by omega) (by omega) (by omega)).mono ?_); rintro e W' ⟨rfl, rfl⟩))
            go_roundw
            case rel => exact ⟨k + 1, by omega, by go_num, t', ht', Hr, hM.skip⟩
            case measure => simp [intOf]; omega
      · obtain rfl : k = ml.length := by omega
        have Hr : Hid (r = (none, t, false)) := Lib.hid (by rw [← hr.out, List.drop_length]; rfl)
        go_wp2
        ((try simp only [Act.put, List.setIfInBounds_toArray, List.set_cons_succ, List.set_cons_zero]); refine wp_region_mem (by kernel_rfl) (by kernel_rfl) hM ?_; clear hM; (repeat (first | go_big_quiet_skip | (go_big_quiet_want; first | (refine quiet_old _ _ rfl _ _ rfl (cellTab _ rfl) (errV (a 4)) (fun W hM => (HE.out.below hM.below).vars 4 (by omega)) ?_; (simp only [Act.put, List.setIfInBounds_toArray, List.set_cons_succ, List.set_cons_zero]); go_big_quiet_on) | (refine quiet_val ?_; apply Exists.intro; refine ⟨fun W => ?_, ?_⟩; (go_simp; rfl); (simp only [Act.put, List.setIfInBounds_toArray, List.set_cons_succ, List.set_cons_zero]); go_big_quiet_on)))); (with_reducible refine wpQuiet_nil ?_); intro W' hM)
        go_wp2
        go_ret2
        exact .inr (.inr ⟨t, Hr.out, rfl, hM.skip⟩)
end Go.Proofs.YtbbododeglkghaaDoor

/-
  spec.l07Made by contract.
-/
namespace Go.Proofs.YtbbododeglkghaaDoor
open Go Go.RowKit Go.BigFrame

/-- The first day that cannot be made, -1 if there is none. -/
def dayNo (hs : Nat → Nat → Int) (need : Int) (ys : Nat → Int) (p : Nat) : Int := if upM hs need ys p = p then -1 else (upM hs need ys p : Nat)
/-- A number, and the meadows. -/
def GivesNM (r : Int) (n : Nat) (hs : Nat → Nat → Int) (w : World) (e : Ending) (w' : World) : Prop := ∃ b c F, e = .returned (.tuple #[.int .i64 r, .slice (some ⟨b, 0, none⟩) n c]) ∧ w.heap.size ≤ b ∧ n ≤ c ∧ (∀ j, j < n * 3 → F j = sMeadow hs j) ∧ At w' b (c * 3) F ∧ Below w.heap.size w w'
theorem givesNM_r {r r' : Int} {n : Nat} {hs hs' : Nat → Nat → Int} {w : World} {e : Ending} {w' : World} (h : GivesNM r n hs w e w') (hr : r = r') (hh : hs = hs') : GivesNM r' n hs' w e w' := by rw [← hr, ← hh]; exact h

set_option maxRecDepth 100000 in
set_option maxHeartbeats 4000000 in
theorem l07Made_any (b n c bp p cp : Nat) (hs : Nat → Nat → Int) (ys : Nat → Int) (hv : meadsB n hs = true) (need : Int) (hd : 1 ≤ need ∧ need ≤ 1000) (hpl : planB n p ys = true) (w : World) (hB : At w b (n * 3) (sMeadow hs)) (hP : At w bp p (vInt64S ys)) (hne : b ≠ bp) :
    Calls Tryd.prog 48 #[.slice (some ⟨b, 0, none⟩) n c, .int .i64 need, .slice (some ⟨bp, 0, none⟩) p cp] w (GivesNM (dayNo hs need ys p) n (stM hs need ys (upM hs need ys p)) w) := by
  have hM : Mem w [(b, n * 3, sMeadow hs), (bp, p, vInt64S ys)] w := ((Mem.nil w).old hB (fun i p h => by simp at h)).old hP (fun i p h => by
    match i, h with
    | 0, h => simp at h; rw [← h]; exact hne
    | _ + 1, h => simp at h)
  obtain ⟨hn, hb⟩ := meadsB_iff hv
  obtain ⟨hp, hpi⟩ := planB_iff hpl
  have Hb := Lib.hid hb
  have Hpi := Lib.hid hpi
  clear hB hP hb hpi
  have tk_b1 : True := trivial
  go_enter Tryd.func48, Tryd.ntmps48
  go_wp2_with (first | (have _t := tk_b1; refine wpList_slice0 rfl _ _ rfl _ meadow_under meadow_info0 hM ?_; intro b1 W' hb1 hM'; clear hM tk_b1; have hM := hM'; clear hM') | (refine wpList_cat0 rfl _ _ _ rfl _ 3 _ _ meadow_under infoMeadow rfl (by omega) b1 rfl b n c rfl hn.1 (by omega) hM 1 rfl (Nat.le_refl _) ?_; intro bL cL FL W' hbL hcL hFL hM'; clear hM; have hM := hM'; clear hM'))
  have hM1 := hM.skip
  clear hM
  have hM := hM1
  clear hM1
  go_loopw [8, 9] (fun v i wr => ∃ k : Nat, k ≤ p ∧ i = .int .i64 k ∧ ∃ bL cL FL, v = .slice (some ⟨bL, 0, none⟩) n cL ∧ w.heap.size ≤ bL ∧ n ≤ cL ∧ Hid (upM hs need ys k = k) ∧ Hid (∀ j, j < n * 3 → FL j = sMeadow (stM hs need ys k) j) ∧ Mem w [(bL, cL * 3, FL), (b, n * 3, sMeadow hs), (bp, p, vInt64S ys)] wr) (fun _ i _ => p - (intOf i).toNat)
  case atStart => exact ⟨0, by omega, rfl, bL, cL, FL, rfl, hbL, hcL, Lib.hid rfl, Lib.hid hFL, hM⟩
  case round =>
    clear hM hbL hcL hFL
    obtain ⟨k, hk, rfl, bL, cL, FL, rfl, hbL, hcL, hU, hFL, hM⟩ := hrel
    by_cases hlt : k < p
    · have l2 : (k : Int) < p := by omega
      have ek : vInt64S ys k = .int .i64 (ys k) := rfl
      have hy := Hpi.out k hlt
      obtain ⟨m, hm⟩ : ∃ m : Nat, m = (ys k).toNat := ⟨_, rfl⟩
      have hym : ys k = (m : Int) := by omega
      have hmn : m < n := by omega
      rw [hym] at ek
      have lm : (m : Int) < n := by omega
      have Hst := Lib.hid (stM_ok Hb.out hd Hpi.out k hk hU.out)
      have em : FL (m * 3) = .int .i16 (stM hs need ys k m 0) := by rw [hFL.out _ (by omega)]; exact sMeadow_row _ m 0 (by omega)
      have hmb := meadB_iff (Hst.out m hmn)
      have cm : IntKind.i64.wrap (stM hs need ys k m 0) = stM hs need ys k m 0 := IntWalk.i64_in _ (by omega)
      by_cases hc : need ≤ stM hs need ys k m 0
      · have d0 : decide (stM hs need ys k m 0 < need) = false := decide_eq_false (by omega)
        have hcan : canM hs need ys k := by unfold canM; rw [← hm]; exact hc
        have Hu := Lib.hid (upM_step hU.out hcan)
        have Hs : Hid (stM hs need ys (k + 1) = dayM (stM hs need ys k) need m) := Lib.hid (by rw [hm]; rfl)
        clear hy hm hym hcan hmb
        go_wp2_with (first | (refine wpList_get1 rfl _ _ rfl _ _ rfl hM 2 rfl (cellTab _ rfl) (by omega) _ ek ?_) | (refine wpList_get1 rfl _ _ rfl _ _ rfl hM 0 rfl (cellTab _ rfl) (by omega) _ em ?_) | (go_at_call 44; (with_reducible refine (l07Day_any bL n cL (cL * 3) FL (stM hs need ys k) hn.1 hn.2 (by omega) hFL.out Hst.out need hd m hmn hc _ (hM.ats 0 _ _ _ rfl)).mono ?_); rintro e W' ⟨bN, cN, FN, rfl, hbN, hcN, hFN, hAN, hbl⟩; have hbN2 := Nat.le_trans hM.size hbN; have hM' := hM.freshQ hbl hAN hbN; clear hM hbl hAN; have hM := hM'; clear hM'))
        go_roundw
        case rel => exact ⟨k + 1, by omega, by go_num, bN, cN, FN, rfl, hbN2, hcN, Hu, Lib.hid (fun j hj => by rw [hFN j hj, Hs.out]), hM.skip⟩
        case measure => simp [intOf]; omega
      · have d0 : decide (stM hs need ys k m 0 < need) = true := decide_eq_true (by omega)
        have hcan : ¬ canM hs need ys k := by unfold canM; rw [← hm]; exact hc
        have Hu := Lib.hid (upM_first hU.out hcan hk)
        clear hy hm hym hcan hmb
        go_wp2_with (first | (refine wpList_get1 rfl _ _ rfl _ _ rfl hM 2 rfl (cellTab _ rfl) (by omega) _ ek ?_) | (refine wpList_get1 rfl _ _ rfl _ _ rfl hM 0 rfl (cellTab _ rfl) (by omega) _ em ?_))
        go_ret2
        exact givesNM_r ⟨bL, cL, FL, rfl, hbL, hcL, hFL.out, hM.at0, hM.below⟩ (by unfold dayNo; rw [Hu.out, if_neg (by omega)]) (by rw [Hu.out])
    · obtain rfl : k = p := by omega
      go_wp2
      go_ret2
      exact givesNM_r ⟨bL, cL, FL, rfl, hbL, hcL, hFL.out, hM.at0, hM.below⟩ (by unfold dayNo; rw [hU.out, if_pos rfl]) (by rw [hU.out])
end Go.Proofs.YtbbododeglkghaaDoor

/-
  The cases of the code of meadows, a need and numbers; a Boolean and a code.
-/
namespace Go.Proofs.YtbbododeglkghaaDoor
open Go Go.RowKit Go.BigFrame

def boolR (b : Bool) (c : Int) : Value := .tuple #[.bool b, .int .i64 c]
theorem ret_boolR {b b' : Bool} {c c' : Int} (h : b = b') (h2 : c = c') : Ending.returned (.tuple #[.bool b, .int .i64 c]) = .returned (boolR b' c') := by rw [h, h2]; rfl
theorem meadC_0 {n : Nat} {hs : Nat → Nat → Int} {need : Int} {f : Bool} (h : meadC n hs need f = 0) : meadsB n hs = true ∧ inB 1 1000 need = true ∧ f = true := by
  unfold meadC at h
  cases h1 : meadsB n hs
  · rw [h1] at h; simp at h
  · rw [h1] at h
    cases h2 : (inB 1 1000 need && f)
    · rw [h2] at h; simp at h
    · rw [Bool.and_eq_true] at h2; exact ⟨rfl, h2.1, h2.2⟩
/-- What may be said of the code. -/
theorem meadC_cases (n : Nat) (hs : Nat → Nat → Int) (need : Int) (f : Bool) :
    (meadsB n hs = false ∧ meadC n hs need f = 1) ∨ (meadsB n hs = true ∧ inB 1 1000 need = false ∧ meadC n hs need f = 2) ∨ (meadsB n hs = true ∧ inB 1 1000 need = true ∧ f = false ∧ meadC n hs need f = 2) ∨ (meadsB n hs = true ∧ inB 1 1000 need = true ∧ f = true ∧ meadC n hs need f = 0) := by
  cases h1 : meadsB n hs <;> cases h2 : inB 1 1000 need <;> cases f <;> simp [meadC, h1, h2]

end Go.Proofs.YtbbododeglkghaaDoor

/-
  The greedy plan: its mathematics, spec.l07Greedy by contract.
-/
namespace Go.Proofs.YtbbododeglkghaaDoor
open Go Go.RowKit Go.BigFrame

/-- The greedy plan of at most d days. -/
def grL (need : Int) (n : Nat) : Nat → (Nat → Nat → Int) → List Nat
  | 0, _ => []
  | d + 1, hs => if hs (richK hs n) 0 < need then [] else richK hs n :: grL need n d (dayM hs need (richK hs n))
theorem grL_poor {need : Int} {n d : Nat} {hs : Nat → Nat → Int} (h : hs (richK hs n) 0 < need) : grL need n (d + 1) hs = [] := by simp [grL, h]
theorem grL_rich {need : Int} {n d : Nat} {hs : Nat → Nat → Int} (h : ¬ hs (richK hs n) 0 < need) : grL need n (d + 1) hs = richK hs n :: grL need n d (dayM hs need (richK hs n)) := by simp [grL, h]
theorem grL_len (need : Int) (n : Nat) : ∀ d hs, (grL need n d hs).length ≤ d
  | 0, _ => Nat.le_refl _
  | d + 1, hs => by
    simp only [grL]
    split
    · exact Nat.zero_le _
    · have := grL_len need n d (dayM hs need (richK hs n))
      simp only [List.length_cons]; omega
theorem goS_gr (need : Int) (B n : Nat) : ∀ d hs t, t + d ≤ B → ((grL need n d hs).length = d → goS need B (fun hs => [richK hs n]) d hs t = (some (grL need n d hs), t + d, false)) ∧ ((grL need n d hs).length ≠ d → ∃ t', goS need B (fun hs => [richK hs n]) d hs t = (none, t', false))
  | 0, hs, t, h => ⟨fun _ => rfl, fun h => absurd rfl h⟩
  | d + 1, hs, t, h => by
    have he : goS need B (fun hs => [richK hs n]) (d + 1) hs t = tryL need B (goS need B (fun hs => [richK hs n]) d) hs [richK hs n] t := rfl
    rw [he]
    by_cases hp : hs (richK hs n) 0 < need
    · rw [grL_poor hp, tryL_poor hp]
      exact ⟨fun h => by simp at h, fun _ => ⟨t, rfl⟩⟩
    · have hB : ¬ t = B := by omega
      obtain ⟨h1, h2⟩ := goS_gr need B n d (dayM hs need (richK hs n)) (t + 1) (by omega)
      rw [grL_rich hp]
      refine ⟨fun h => ?_, fun h => ?_⟩
      · rw [tryL_some hp hB (h1 (by simpa using h))]
        congr 2; omega
      · obtain ⟨t', ht⟩ := h2 (fun hh => h (by simp [hh]))
        rw [tryL_next hp hB ht]
        exact ⟨t', rfl⟩
/-- A new block with a list of numbers. -/
def GivesB (l : List Nat) (w : World) (e : Ending) (w' : World) : Prop := ∃ b c F, e = .returned (.slice (some ⟨b, 0, none⟩) l.length c) ∧ w.heap.size ≤ b ∧ l.length ≤ c ∧ (∀ j, j < l.length * 1 → F j = vI (natI l) j) ∧ At w' b (c * 1) F ∧ Below w.heap.size w w'
theorem GivesB.to {l l' : List Nat} {w : World} {e : Ending} {w' : World} (h : GivesB l w e w') (hl : l = l') : GivesB l' w e w' := by rw [← hl]; exact h
def lenV : Value → Nat
  | .slice _ n _ => n
  | _ => 0

set_option maxRecDepth 100000 in
set_option maxHeartbeats 4000000 in
theorem l07Greedy_any (b n c : Nat) (hs : Nat → Nat → Int) (hn1 : 1 ≤ n) (hn6 : n ≤ 6) (hb : ∀ i, i < n → meadB (hs i) = true) (need : Int) (hd : 1 ≤ need ∧ need ≤ 1000) (d : Nat) (hd30 : d ≤ 30) (w : World) (hB : At w b (n * 3) (sMeadow hs)) :
    Calls Tryd.prog 59 #[.slice (some ⟨b, 0, none⟩) n c, .int .i64 need, .int .i64 (d : Int)] w (GivesB (grL need n d hs) w) := by
  have hM : Mem w [(b, n * 3, sMeadow hs)] w := (Mem.nil w).old hB (fun i p h => by simp at h)
  have Hb := Lib.hid hb
  clear hB hb
  generalize hG : grL need n d hs = G
  have HG : Hid (grL need n d hs = G) := Lib.hid hG
  clear hG
  have tk_s1 : True := trivial
  go_enter Tryd.func59, Tryd.ntmps59
  go_wp2_with (first | (have _t := tk_s1; refine wpList_slice0 rfl _ _ rfl _ int64s_underR int64_info0 hM ?_; intro s1 W' hs1 hM'; clear hM tk_s1; have hM := hM'; clear hM'))
  go_loopw [0, 7] (fun v0 v7 wr => ∃ acc : List Nat, acc.length ≤ d ∧ ∃ hs' : Nat → Nat → Int, Hid (acc ++ grL need n (d - acc.length) hs' = G) ∧ Hid (∀ i, i < n → meadB (hs' i) = true) ∧ ∃ bY NY cY FY, v0 = .slice (some ⟨bY, 0, none⟩) n cY ∧ n * 3 ≤ NY ∧ Hid (∀ j, j < n * 3 → FY j = sMeadow hs' j) ∧ ∃ bD cD FD, v7 = .slice (some ⟨bD, 0, none⟩) (natI acc).length cD ∧ w.heap.size ≤ bD ∧ (natI acc).length ≤ cD ∧ Hid (∀ j, j < (natI acc).length * 1 → FD j = vI (natI acc) j) ∧ Mem w [(bD, cD * 1, FD), (bY, NY, FY)] wr) (fun _ v7 _ => d - lenV v7)
  case atStart => exact ⟨[], by simp, hs, HG, Hb, b, n * 3, c, sMeadow hs, rfl, Nat.le_refl _, Lib.hid (fun _ _ => rfl), s1, 0, _, rfl, by assumption, Nat.le_refl _, Lib.hid (fun j hj => by simp [natI] at hj), hM⟩
  case round =>
    clear hM
    obtain ⟨acc, hacc, hs', HG', Hst, bY, NY, cY, FY, rfl, hNL, hFY, bD, cD, FD, rfl, hbD, hcD, hFD, hM⟩ := hrel
    have hlen := natI_len acc
    by_cases hlt : acc.length < d
    · have l2 : (((natI acc).length : Nat) : Int) < (d : Int) := by rw [hlen]; omega
      obtain ⟨q, hq⟩ : ∃ q, d - acc.length = q + 1 := ⟨d - acc.length - 1, by omega⟩
      have hq2 : d - (acc.length + 1) = q := by omega
      obtain ⟨m, hm⟩ : ∃ m : Nat, m = richK hs' n := ⟨_, rfl⟩
      have hmn : m < n := by rw [hm]; exact richK_lt hs' hn1
      have lm : (m : Int) < n := by omega
      have em : FY (m * 3) = .int .i16 (hs' m 0) := by rw [hFY.out _ (by omega)]; exact sMeadow_row _ m 0 (by omega)
      have hmb := meadB_iff (Hst.out m hmn)
      have cm : IntKind.i64.wrap (hs' m 0) = hs' m 0 := IntWalk.i64_in _ (by omega)
      have HR : Hid (∀ W, At W bY NY FY → Calls Tryd.prog 74 #[.slice (some ⟨bY, 0, none⟩) n cY] W fun e w' => e = .returned (.int .i64 (m : Nat)) ∧ Below W.heap.size W w') := Lib.hid (fun W h => by rw [hm]; exact l07Richest_any bY NY n cY FY hs' hn1 hn6 hNL hFY.out W h)
      have hk2 : (natI acc).length ≤ 1048576 := by rw [hlen]; omega
      by_cases hc : need ≤ hs' m 0
      · have d0 : decide (hs' m 0 < need) = false := decide_eq_false (by omega)
        have Hs : Hid (acc ++ [m] ++ grL need n (d - (acc ++ [m]).length) (dayM hs' need m) = G) := Lib.hid (by
          rw [← HG'.out, hq, grL_rich (by rw [← hm]; omega), ← hm, List.length_append, List.length_singleton, hq2, List.append_assoc]; rfl)
        have Hsn : Hid (natI (acc ++ [m]) = natI acc ++ [(m : Int)]) := Lib.hid (natI_snoc acc m)
        have Hln : Hid ((acc ++ [m]).length ≤ d ∧ (natI (acc ++ [m])).length = (natI acc).length + 1) := Lib.hid (by rw [natI_len, natI_len, List.length_append, List.length_singleton]; omega)
        have Hday := Lib.hid (fun i hi => dayM_ok (i := i) (m := m) Hst.out hd hc hi)
        clear hm hmb HG' hq hq2
        generalize hrl : natI acc = rl at *
        have Hnew := Lib.hid (fun j (hj : j < 1) => vI_new rl (m : Int) hj)
        have Hold : Hid (∀ j, j < rl.length * 1 → FD j = vI (rl ++ [(m : Int)]) j) := Lib.hid (fun j hj => by rw [hFD.out j hj]; exact vI_old rl (m : Int) hj)
        have Hlt : Hid (acc.length = rl.length ∧ acc.length < d) := Lib.hid ⟨by omega, hlt⟩
        clear hFD hlen hlt hacc hrl
        have tk_l1 : True := trivial; have tk_p1 : True := trivial
        go_wp2_with (first | (go_at_call 74; (with_reducible refine (HR.out _ (hM.ats 1 _ _ _ rfl)).mono ?_); rintro e W' ⟨rfl, hb'⟩; have hM' := hM.call hb'; clear hM hb'; have hM := hM'; clear hM') | (refine wpList_get1 rfl _ _ rfl _ _ rfl hM 1 rfl (cellTab _ rfl) (by omega) _ em ?_) | (have _t := tk_l1; refine wpList_lit1 rfl _ _ _ rfl (.int .i64 (m : Int)) rfl rfl _ int64s_underR int64_infoR hM ?_; intro l1 W' hl1 hM'; clear hM tk_l1; have hM := hM'; clear hM') | (have _t := tk_p1; refine wpList_push1 rfl _ _ _ rfl _ 1 _ _ int64s_underR infoInt64S rfl (by omega) _ _ _ _ rfl hbD hcD hk2 _ _ rfl i64_one hM (vI (rl ++ [(m : Int)])) Hold.out Hnew.out ?_; intro bL cL FL W' hbL hcL hFL hM'; clear hM tk_p1; have hM := hM'; clear hM') | (go_at_call 44; (with_reducible refine (l07Day_any bY n cY NY FY hs' hn1 hn6 hNL hFY.out Hst.out need hd m hmn hc _ (hM.ats 1 _ _ _ rfl)).mono ?_); rintro e W' ⟨bN, cN, FN, rfl, hbN, hcN, hFN, hAN, hbl⟩; have hM' := (hM.freshQ hbl hAN hbN).swap; clear hM hbl hAN; have hM := hM'; clear hM'))
        go_roundw
        case rel => exact ⟨acc ++ [m], Hln.out.1, dayM hs' need m, Hs, Hday, bN, cN * 3, cN, FN, rfl, by omega, Lib.hid hFN, bL, cL, FL, by rw [Hln.out.2], hbL, by rw [Hln.out.2]; exact hcL, Lib.hid (by rw [Hsn.out, List.length_append]; exact hFL), hM.skip3R⟩
        case measure =>
          have := Hlt.out
          simp [lenV]; omega
      · have d0 : decide (hs' m 0 < need) = true := decide_eq_true (by omega)
        have Hs : Hid (G = acc) := Lib.hid (by rw [← HG'.out, hq, grL_poor (by rw [← hm]; omega), List.append_nil])
        have Hlen := Lib.hid hlen
        clear hm hmb HG' hq hq2 hlen
        go_wp2_with (first | (go_at_call 74; (with_reducible refine (HR.out _ (hM.ats 1 _ _ _ rfl)).mono ?_); rintro e W' ⟨rfl, hb'⟩; have hM' := hM.call hb'; clear hM hb'; have hM := hM'; clear hM') | (refine wpList_get1 rfl _ _ rfl _ _ rfl hM 1 rfl (cellTab _ rfl) (by omega) _ em ?_))
        go_ret
        exact GivesB.to (l := acc) ⟨bD, cD, FD, by rw [Hlen.out]; rfl, hbD, by rw [← Hlen.out]; exact hcD, by rw [← Hlen.out]; exact hFD.out, hM.at0, hM.below⟩ Hs.out.symm
    · have hld : acc.length = d := by omega
      have Hs : Hid (G = acc) := Lib.hid (by rw [← HG'.out, show d - acc.length = 0 by omega]; simp [grL])
      have l2 : (((natI acc).length : Nat) : Int) = (d : Int) := by rw [hlen]; omega
      have Hlen := Lib.hid hlen
      clear HG' hlen hld
      go_wp2
      go_ret
      exact GivesB.to (l := acc) ⟨bD, cD, FD, by rw [Hlen.out]; rfl, hbD, by rw [← Hlen.out]; exact hcD, by rw [← Hlen.out]; exact hFD.out, hM.at0, hM.below⟩ Hs.out.symm
end Go.Proofs.YtbbododeglkghaaDoor

