/-
  (impl.Stake).isToldFor, sharesCell, slices.IndexFunc and ContainsFunc over it, impl.ValidStakes, spec.ValidStakes by contracts; laws.FnExactValidStakes returns true.
-/
import Derived.Test.YtmeheinffdfbkaaStakeOk
import Derived.Test.YtmeheinffdfbkaaConv
import Derived.Test.YtmeheinffdfbkaaCut
namespace Go.Proofs.Ytmeheinffdfbkaa
open Go Go.RowKit Go.BigFrame

theorem atEq_comm (a b : Nat → Int) : atEq a b = atEq b a := by
  unfold atEq
  rw [Bool.eq_iff_iff]
  simp only [Bool.and_eq_true, beq_iff_eq]
  exact ⟨fun h => ⟨h.1.symm, h.2.symm⟩, fun h => ⟨h.1.symm, h.2.symm⟩⟩

set_option maxRecDepth 100000 in
set_option maxHeartbeats 1000000 in
theorem stakeTold_any (g h : Nat → Int) (w : World) :
    Calls Try.prog 25 #[.agg (arr 3 (vStake h)), .agg (arr 122 (pas g))] w fun e w' => e = .returned (.bool (stakeB g h)) ∧ Below w.heap.size w w' := by
  have hM := Mem.nil w
  have e0 : arr 2 (fun j => vStake h (0 + j)) = arr 2 (sp (h 0) (h 1)) := spStake0 h
  have e2 : vStake h 2 = .int .i16 (h 2) := rfl
  have tk_b1 : True := trivial; have tk_b2 : True := trivial; have tk_q1 : True := trivial; have tk_q2 : True := trivial
  cases h1 : isB g (h 0) (h 1)
  · have Hp : Hid (stakeB g h = false) := Lib.hid (by simp [stakeB, h1])
    have H1 := Lib.hid h1
    clear h1
    go_enter Try.func25, Try.ntmps25
    go_wp2_with (first | (go_at_call 34; (with_reducible refine (hasCell_any g (h 0) (h 1) _).mono ?_); rintro e W' ⟨rfl, hb'⟩; rw [H1.out]; have hM' := hM.call hb'; clear hM hb'; have hM := hM'; clear hM') | (have _t := tk_b1; refine wpList_box rfl _ _ rfl _ _ rfl hM ?_; intro b1 W' hb1 hM'; clear hM tk_b1; have hM := hM'; clear hM') | (have _t := tk_b2; refine wpList_box rfl _ _ rfl _ _ rfl hM ?_; intro b2 W' hb2 hM'; clear hM tk_b2; have hM := hM'; clear hM') | (have _t := tk_q1; (refine wpList_get rfl _ _ rfl _ _ rfl hM 0 rfl (rowTab _ _ rfl) (by omega) ?_); clear tk_q1) | (have _t := tk_q2; (refine wpList_get rfl _ _ rfl _ _ rfl hM 1 rfl (rowTab _ 2 rfl) (by omega) ?_); rw [e0]; clear tk_q2))
    go_ret
    exact ⟨ret_bool Hp.out.symm, hM.below⟩
  rcases (show h 2 < 0 ∨ (0 ≤ h 2 ∧ 200 < h 2) ∨ (0 ≤ h 2 ∧ h 2 ≤ 200) by omega) with r0 | ⟨r0, r1⟩ | ⟨r0, r1⟩
  · have Hp : Hid (stakeB g h = false) := Lib.hid (by unfold stakeB; rw [inB_no (by omega), Bool.and_false])
    have H1 := Lib.hid h1
    have d0 : decide (0 ≤ h 2) = false := decide_eq_false (by omega)
    clear h1
    go_enter Try.func25, Try.ntmps25
    go_wp2_with (first | (go_at_call 34; (with_reducible refine (hasCell_any g (h 0) (h 1) _).mono ?_); rintro e W' ⟨rfl, hb'⟩; rw [H1.out]; have hM' := hM.call hb'; clear hM hb'; have hM := hM'; clear hM') | (have _t := tk_b1; refine wpList_box rfl _ _ rfl _ _ rfl hM ?_; intro b1 W' hb1 hM'; clear hM tk_b1; have hM := hM'; clear hM') | (have _t := tk_b2; refine wpList_box rfl _ _ rfl _ _ rfl hM ?_; intro b2 W' hb2 hM'; clear hM tk_b2; have hM := hM'; clear hM') | (have _t := tk_q1; (refine wpList_get rfl _ _ rfl _ _ rfl hM 0 rfl (rowTab _ _ rfl) (by omega) ?_); clear tk_q1) | (have _t := tk_q2; (refine wpList_get rfl _ _ rfl _ _ rfl hM 1 rfl (rowTab _ 2 rfl) (by omega) ?_); rw [e0]; clear tk_q2) | (refine wpList_gget1 ?_ _ _ rfl _ _ rfl hM 1 rfl (cellTab _ rfl) (by omega) _ e2 ?_; kernel_rfl))
    go_ret
    exact ⟨ret_bool Hp.out.symm, hM.below⟩
  · have Hp : Hid (stakeB g h = false) := Lib.hid (by unfold stakeB; rw [inB_no (by omega), Bool.and_false])
    have H1 := Lib.hid h1
    have d0 : decide (0 ≤ h 2) = true := decide_eq_true (by omega)
    have d1 : decide (h 2 ≤ 200) = false := decide_eq_false (by omega)
    clear h1
    go_enter Try.func25, Try.ntmps25
    go_wp2_with (first | (go_at_call 34; (with_reducible refine (hasCell_any g (h 0) (h 1) _).mono ?_); rintro e W' ⟨rfl, hb'⟩; rw [H1.out]; have hM' := hM.call hb'; clear hM hb'; have hM := hM'; clear hM') | (have _t := tk_b1; refine wpList_box rfl _ _ rfl _ _ rfl hM ?_; intro b1 W' hb1 hM'; clear hM tk_b1; have hM := hM'; clear hM') | (have _t := tk_b2; refine wpList_box rfl _ _ rfl _ _ rfl hM ?_; intro b2 W' hb2 hM'; clear hM tk_b2; have hM := hM'; clear hM') | (have _t := tk_q1; (refine wpList_get rfl _ _ rfl _ _ rfl hM 0 rfl (rowTab _ _ rfl) (by omega) ?_); clear tk_q1) | (have _t := tk_q2; (refine wpList_get rfl _ _ rfl _ _ rfl hM 1 rfl (rowTab _ 2 rfl) (by omega) ?_); rw [e0]; clear tk_q2) | (refine wpList_gget1 ?_ _ _ rfl _ _ rfl hM 1 rfl (cellTab _ rfl) (by omega) _ e2 ?_; kernel_rfl))
    go_ret
    exact ⟨ret_bool Hp.out.symm, hM.below⟩
  · have Hp : Hid (stakeB g h = true) := Lib.hid (by unfold stakeB; rw [h1, inB_yes ⟨r0, r1⟩]; rfl)
    have H1 := Lib.hid h1
    have d0 : decide (0 ≤ h 2) = true := decide_eq_true (by omega)
    have d1 : decide (h 2 ≤ 200) = true := decide_eq_true (by omega)
    clear h1
    go_enter Try.func25, Try.ntmps25
    go_wp2_with (first | (go_at_call 34; (with_reducible refine (hasCell_any g (h 0) (h 1) _).mono ?_); rintro e W' ⟨rfl, hb'⟩; rw [H1.out]; have hM' := hM.call hb'; clear hM hb'; have hM := hM'; clear hM') | (have _t := tk_b1; refine wpList_box rfl _ _ rfl _ _ rfl hM ?_; intro b1 W' hb1 hM'; clear hM tk_b1; have hM := hM'; clear hM') | (have _t := tk_b2; refine wpList_box rfl _ _ rfl _ _ rfl hM ?_; intro b2 W' hb2 hM'; clear hM tk_b2; have hM := hM'; clear hM') | (have _t := tk_q1; (refine wpList_get rfl _ _ rfl _ _ rfl hM 0 rfl (rowTab _ _ rfl) (by omega) ?_); clear tk_q1) | (have _t := tk_q2; (refine wpList_get rfl _ _ rfl _ _ rfl hM 1 rfl (rowTab _ 2 rfl) (by omega) ?_); rw [e0]; clear tk_q2) | (refine wpList_gget1 ?_ _ _ rfl _ _ rfl hM 1 rfl (cellTab _ rfl) (by omega) _ e2 ?_; kernel_rfl))
    go_ret
    exact ⟨ret_bool Hp.out.symm, hM.below⟩

set_option maxRecDepth 100000 in
set_option maxHeartbeats 1000000 in
theorem sharesCell_any (a b : Nat → Int) (w : World) :
    Calls Try.prog 27 #[.agg (arr 3 (vStake a)), .agg (arr 3 (vStake b))] w fun e w' => e = .returned (.bool (atEq b a)) ∧ Below w.heap.size w w' := by
  have hM := Mem.nil w
  have ea : arr 2 (fun j => vStake a (0 + j)) = arr 2 (sp (a 0) (a 1)) := spStake0 a
  have eb : arr 2 (fun j => vStake b (0 + j)) = arr 2 (sp (b 0) (b 1)) := spStake0 b
  have qe1 : ∀ W, (binOp .eql 26 (.agg (arr 2 (sp (a 0) (a 1)))) (.agg (arr 2 (sp (b 0) (b 1))))).run Try.prog W = .ok (.bool (atEq b a)) W := fun W => by rw [atEq_comm]; exact eql_spot _ _ _ _ W
  have qe2 : ∀ W, (Op.equalIn 10000 26 (.agg (arr 2 (sp (a 0) (a 1)))) (.agg (arr 2 (sp (b 0) (b 1))))).run Try.prog W = .ok (atEq b a) W := fun W => by rw [atEq_comm]; exact run_equal_spot _ _ _ _ 9998 W
  have tk_b1 : True := trivial; have tk_b2 : True := trivial
  go_enter Try.func27, Try.ntmps27
  go_wp2_with (first | (have _t := tk_b1; refine wpList_box rfl _ _ rfl _ _ rfl hM ?_; intro b1 W' hb1 hM'; clear hM tk_b1; have hM := hM'; clear hM') | (have _t := tk_b2; refine wpList_box rfl _ _ rfl _ _ rfl hM ?_; intro b2 W' hb2 hM'; clear hM tk_b2; have hM := hM'; clear hM') | ((refine wpList_get rfl _ _ rfl _ _ rfl hM 1 rfl (rowTab _ 2 rfl) (by omega) ?_); rw [ea]) | ((refine wpList_get rfl _ _ rfl _ _ rfl hM 0 rfl (rowTab _ 2 rfl) (by omega) ?_); rw [eb]))
  go_ret
  exact ⟨rfl, hM.below⟩

/-- What the search for a stake in the cell of a gives. -/
def IdxOf (hs : Nat → Nat → Int) (a : Nat → Int) (k : Nat) (w : World) (e : Ending) (w' : World) : Prop :=
  (∃ j : Nat, e = .returned (.int .i64 j) ∧ freeTo hs a k = false ∧ Below w.heap.size w w') ∨ (e = .returned (.int .i64 (-1)) ∧ freeTo hs a k = true ∧ Below w.heap.size w w')
set_option maxRecDepth 100000 in
set_option maxHeartbeats 2000000 in
theorem indexStake (b c N k : Nat) (hs : Nat → Nat → Int) (a : Nat → Int) (hk : k * 3 ≤ N) (hkb : k ≤ 1048576) (w : World) (hB : At w b N (sStake hs)) :
    Calls Try.prog 35 #[.slice (some ⟨b, 0, none⟩) k c, .func (.func 27) #[.agg (arr 3 (vStake a))] #[]] w (IdxOf hs a k w) := by
  have hM : Mem w [(b, N, sStake hs)] w := (Mem.nil w).old hB (fun i p h => by simp at h)
  clear hB
  go_enter Try.func35, Try.ntmps35
  go_wp2
  go_loopw [8] (fun i wr => ∃ q : Nat, q ≤ k ∧ i = .int .i64 q ∧ Hid (∀ j, j < q → atEq (hs j) a = false) ∧ Mem w [(b, N, sStake hs)] wr) (fun i _ => k - (intOf i).toNat)
  case atStart => exact ⟨0, by omega, rfl, Lib.hid (fun j hj => absurd hj (by omega)), hM⟩
  case round =>
    clear hM
    obtain ⟨q, hq, rfl, hfr, hM⟩ := hrel
    by_cases hlt : q < k
    · have l2 : (q : Int) < k := by omega
      have er : arr 3 (fun j => sStake hs (q * 3 + j)) = arr 3 (vStake (hs q)) := arr_congr fun j hj => sStake_row hs q j hj
      cases ha : atEq (hs q) a
      · have Ha := Lib.hid ha
        clear ha
        go_wp2_with (first | (go_at_call 27; (with_reducible refine (sharesCell_any a (hs q) _).mono ?_); rintro e W' ⟨rfl, hb'⟩; rw [Ha.out]; have hM' := hM.call hb'; clear hM hb'; have hM := hM'; clear hM') | ((refine wpList_get rfl _ _ rfl _ _ rfl hM 0 rfl rowStake (by omega) ?_); rw [er]))
        go_roundw
        case rel => exact ⟨q + 1, by omega, by go_num, Lib.hid (fun j hj => by
          by_cases e : j = q
          · rw [e]; exact Ha.out
          · exact hfr.out j (by omega)), hM⟩
        case measure => simp [intOf]; omega
      · have Ha := Lib.hid ha
        clear ha
        go_wp2_with (first | (go_at_call 27; (with_reducible refine (sharesCell_any a (hs q) _).mono ?_); rintro e W' ⟨rfl, hb'⟩; rw [Ha.out]; have hM' := hM.call hb'; clear hM hb'; have hM := hM'; clear hM') | ((refine wpList_get rfl _ _ rfl _ _ rfl hM 0 rfl rowStake (by omega) ?_); rw [er]))
        go_ret
        exact .inl ⟨q, rfl, freeTo_no hlt Ha.out, hM.below⟩
    · obtain rfl : q = k := by omega
      go_wp2
      go_ret
      exact .inr ⟨rfl, freeTo_yes hfr.out, hM.below⟩

set_option maxHeartbeats 1000000 in
theorem containsStake (b c N k : Nat) (hs : Nat → Nat → Int) (a : Nat → Int) (hk : k * 3 ≤ N) (hkb : k ≤ 1048576) (w : World) (hB : At w b N (sStake hs)) :
    Calls Try.prog 26 #[.slice (some ⟨b, 0, none⟩) k c, .func (.func 27) #[.agg (arr 3 (vStake a))] #[]] w fun e w' => e = .returned (.bool (!freeTo hs a k)) ∧ Below w.heap.size w w' := by
  have hB' := Lib.hid hB
  clear hB
  go_enter Try.func26, Try.ntmps26
  go_wp2_with fail
  go_at_call 35
  refine (indexStake b c N k hs a hk hkb _ hB'.out).mono ?_
  rintro e w1 (⟨j, rfl, hf, hb⟩ | ⟨rfl, hf, hb⟩)
  · have Hf := Lib.hid hf
    clear hf
    have hj : 0 ≤ (j : Int) := by omega
    go_wp2
    go_ret
    exact ⟨ret_bool (by rw [Hf.out]; rfl), hb⟩
  · have Hf := Lib.hid hf
    clear hf
    go_wp2
    go_ret
    exact ⟨ret_bool (by rw [Hf.out]; rfl), hb⟩

theorem lay_stake (z : Nat → Value) (hs : Nat → Nat → Int) (k : Nat) : ∀ j, j < 3 → lay z 0 3 (fun i => sStake hs (k * 3 + i)) j = vStake (hs k) j := fun j hj => by
  simp only [lay, Nat.zero_add, Nat.sub_zero]
  rw [if_pos ⟨by omega, hj⟩]
  exact sStake_row hs k j hj

set_option maxRecDepth 100000 in
set_option maxHeartbeats 4000000 in
theorem implValidStakes_any (g : Nat → Int) (hg : Fits g) (b n c : Nat) (hs : Nat → Nat → Int) (hn : n ≤ 1048576) (hnc : n ≤ c) (w : World) (hB : At w b (n * 3) (sStake hs)) :
    Calls Try.prog 16 #[.agg (arr 122 (pas g)), .slice (some ⟨b, 0, none⟩) n c] w fun e w' => e = .returned (.bool (stakesB g n hs)) ∧ Below w.heap.size w w' := by
  have hM : Mem w [(b, n * 3, sStake hs)] w := (Mem.nil w).old hB (fun i p h => by simp at h)
  have hv : ∀ W, Calls Try.prog 24 #[.agg (arr 122 (pas g))] W fun e w' => e = .returned (.bool (okB g)) ∧ Below W.heap.size W w' := fun W => by
    rw [okB_eq]; exact implValid_any g hg W
  have Hv := Lib.hid hv
  clear hv hB
  have tk_b1 : True := trivial; have tk_q1 : True := trivial
  cases ho : okB g
  · have Hp := Lib.hid (stakesB_ok (n := n) (hs := hs) ho)
    have Ho := Lib.hid ho
    clear ho
    go_enter Try.func16, Try.ntmps16
    go_wp2_with (first | (go_at_call 24; (with_reducible refine (Hv.out _).mono ?_); rintro e W' ⟨rfl, hb'⟩; rw [Ho.out]; have hM' := hM.call hb'; clear hM hb'; have hM := hM'; clear hM') | (have _t := tk_b1; refine wpList_box rfl _ _ rfl _ _ rfl hM ?_; intro b1 W' hb1 hM'; clear hM tk_b1; have hM := hM'; clear hM') | (have _t := tk_q1; (refine wpList_get rfl _ _ rfl _ _ rfl hM 0 rfl (rowTab _ _ rfl) (by omega) ?_); clear tk_q1))
    go_ret
    exact ⟨ret_bool Hp.out.symm, hM.below⟩
  have Ho := Lib.hid ho
  clear ho
  by_cases h12 : 12 < n
  · have Hp := Lib.hid (stakesB_many (g := g) (hs := hs) h12)
    have hz : 12 < (n : Int) := by omega
    go_enter Try.func16, Try.ntmps16
    go_wp2_with (first | (go_at_call 24; (with_reducible refine (Hv.out _).mono ?_); rintro e W' ⟨rfl, hb'⟩; rw [Ho.out]; have hM' := hM.call hb'; clear hM hb'; have hM := hM'; clear hM') | (have _t := tk_b1; refine wpList_box rfl _ _ rfl _ _ rfl hM ?_; intro b1 W' hb1 hM'; clear hM tk_b1; have hM := hM'; clear hM') | (have _t := tk_q1; (refine wpList_get rfl _ _ rfl _ _ rfl hM 0 rfl (rowTab _ _ rfl) (by omega) ?_); clear tk_q1))
    go_ret
    exact ⟨ret_bool Hp.out.symm, hM.below⟩
  have hz : ¬ 12 < (n : Int) := by omega
  go_enter Try.func16, Try.ntmps16
  go_wp2_with (first | (go_at_call 24; (with_reducible refine (Hv.out _).mono ?_); rintro e W' ⟨rfl, hb'⟩; rw [Ho.out]; have hM' := hM.call hb'; clear hM hb'; have hM := hM'; clear hM') | (have _t := tk_b1; refine wpList_box rfl _ _ rfl _ _ rfl hM ?_; intro b1 W' hb1 hM'; clear hM tk_b1; have hM := hM'; clear hM') | (have _t := tk_q1; (refine wpList_get rfl _ _ rfl _ _ rfl hM 0 rfl (rowTab _ _ rfl) (by omega) ?_); clear tk_q1))
  go_loopw [17] (fun i wr => ∃ k : Nat, k ≤ n ∧ i = .int .i64 k ∧ Hid (∀ j, j < k → (stakeB g (hs j) && freeTo hs (hs j) j) = true) ∧ Mem w [(b1, 122, pas g), (b, n * 3, sStake hs)] wr) (fun i _ => n - (intOf i).toNat)
  case atStart => exact ⟨0, by omega, rfl, Lib.hid (fun j hj => absurd hj (by omega)), hM⟩
  case round =>
    clear hM
    obtain ⟨k, hk, rfl, hall, hM⟩ := hrel
    by_cases hlt : k < n
    · have l2 : (k : Int) < n := by omega
      have hsl : ∀ W, (Instr.sliceAt 32 (.slice (some ⟨b, 0, none⟩) n c) none (some (.int .i64 k)) none).run Try.prog W = .ok (.slice (some ⟨b, 0, none⟩) k c) W := fun W => run_cutTo (m := 3) Try.underlying32 (by kernel_rfl) b 0 n c k (by omega) W
      have tk_b3 : True := trivial; have tk_r1 : True := trivial; have tk_r2 : True := trivial
      go_wp2_with (first | (have _t := tk_r1; (refine wpList_get rfl _ _ rfl _ _ rfl hM 1 rfl rowStake (by omega) ?_); clear tk_r1) | (have _t := tk_b3; refine wpList_zero rfl _ rfl zeroStake hM ?_; intro b3 W' hb3 hM'; clear hM tk_b3; have hM := hM'; clear hM') | (have _t := tk_r2; (refine wpList_lay rfl _ _ _ rfl _ _ rfl _ _ rfl hM 0 rfl (by assumption) rowStake (by omega) (fun _ _ => rfl) ?_; intro W' hM'; clear hM; have hM := hM'; clear hM'; simp only [List.set] at hM); clear tk_r2))
      have hM1 := hM.re 0 rfl (vStake (hs k)) (fun j hj => lay_stake _ hs k j hj)
      simp only [List.set_cons_zero] at hM1
      clear hM
      have hM := hM1
      clear hM1
      have e3 : arr 3 (fun j => vStake (hs k) (0 + j)) = arr 3 (vStake (hs k)) := arr_congr fun j _ => by rw [Nat.zero_add]
      cases he : stakeB g (hs k)
      · have Hx : Hid ((stakeB g (hs k) && freeTo hs (hs k) k) = false) := Lib.hid (by rw [he]; rfl)
        have He := Lib.hid he
        clear he
        ((try simp only [Act.put, List.setIfInBounds_toArray, List.set_cons_succ, List.set_cons_zero]); refine wp_region_mem (by kernel_rfl) (by kernel_rfl) hM ?_; clear hM; (repeat (first | go_big_quiet_skip | (go_big_quiet_want; first | (refine quiet_get _ _ rfl _ _ rfl 0 rfl rowStake (by omega) ?_; (simp only [e3]); (simp only [Act.put, List.setIfInBounds_toArray, List.set_cons_succ, List.set_cons_zero]); go_big_quiet_on) | (refine quiet_get _ _ rfl _ _ rfl 1 rfl (rowTab _ _ rfl) (by omega) ?_; (simp only [Act.put, List.setIfInBounds_toArray, List.set_cons_succ, List.set_cons_zero]); go_big_quiet_on) | (refine quiet_call ?_; apply Exists.intro; apply Exists.intro; apply Exists.intro; refine ⟨fun W => ?_, fun W hM => ?_, ?_⟩; (go_simp; exact ⟨rfl, rfl⟩); (with_reducible exact stakeTold_any g (hs k) W); (simp only [He.out]); (simp only [Act.put, List.setIfInBounds_toArray, List.set_cons_succ, List.set_cons_zero]); go_big_quiet_on) | (refine quiet_val ?_; apply Exists.intro; refine ⟨fun W => ?_, ?_⟩; (go_simp; (try simp only [hsl, if_true, Bool.false_eq_true, if_false]); rfl); (simp only [Act.put, List.setIfInBounds_toArray, List.set_cons_succ, List.set_cons_zero]); go_big_quiet_on)))); (with_reducible refine wpQuiet_nil ?_); intro W' hM)
        go_wp2
        go_ret
        exact ⟨ret_bool (stakesB_no hlt Hx.out).symm, hM.below⟩
      · have He := Lib.hid he
        clear he
        cases hf : freeTo hs (hs k) k
        · have Hx : Hid ((stakeB g (hs k) && freeTo hs (hs k) k) = false) := Lib.hid (by rw [hf, Bool.and_false])
          have Hf := Lib.hid hf
          clear hf
          ((try simp only [Act.put, List.setIfInBounds_toArray, List.set_cons_succ, List.set_cons_zero]); refine wp_region_mem (by kernel_rfl) (by kernel_rfl) hM ?_; clear hM; (repeat (first | go_big_quiet_skip | (go_big_quiet_want; first | (refine quiet_get _ _ rfl _ _ rfl 0 rfl rowStake (by omega) ?_; (simp only [e3]); (simp only [Act.put, List.setIfInBounds_toArray, List.set_cons_succ, List.set_cons_zero]); go_big_quiet_on) | (refine quiet_get _ _ rfl _ _ rfl 1 rfl (rowTab _ _ rfl) (by omega) ?_; (simp only [Act.put, List.setIfInBounds_toArray, List.set_cons_succ, List.set_cons_zero]); go_big_quiet_on) | (refine quiet_call ?_; apply Exists.intro; apply Exists.intro; apply Exists.intro; refine ⟨fun W => ?_, fun W hM => ?_, ?_⟩; (go_simp; exact ⟨rfl, rfl⟩); (with_reducible exact stakeTold_any g (hs k) W); (simp only [He.out]); (simp only [Act.put, List.setIfInBounds_toArray, List.set_cons_succ, List.set_cons_zero]); go_big_quiet_on) | (refine quiet_call ?_; apply Exists.intro; apply Exists.intro; apply Exists.intro; refine ⟨fun W => ?_, fun W hM => ?_, ?_⟩; (go_simp; exact ⟨rfl, rfl⟩); (with_reducible exact containsStake b c (n * 3) k hs (hs k) (by omega) (by omega) W (hM.ats 2 _ _ _ rfl)); (simp only [Hf.out, Bool.not_true, Bool.not_false]); (simp only [Act.put, List.setIfInBounds_toArray, List.set_cons_succ, List.set_cons_zero]); go_big_quiet_on) | (refine quiet_val ?_; apply Exists.intro; refine ⟨fun W => ?_, ?_⟩; (go_simp; (try simp only [hsl, if_true, Bool.false_eq_true, if_false]); rfl); (simp only [Act.put, List.setIfInBounds_toArray, List.set_cons_succ, List.set_cons_zero]); go_big_quiet_on)))); (with_reducible refine wpQuiet_nil ?_); intro W' hM)
          go_wp2
          go_ret
          exact ⟨ret_bool (stakesB_no hlt Hx.out).symm, hM.below⟩
        · have Hx : Hid ((stakeB g (hs k) && freeTo hs (hs k) k) = true) := Lib.hid (by rw [hf, He.out]; rfl)
          have Hf := Lib.hid hf
          clear hf
          ((try simp only [Act.put, List.setIfInBounds_toArray, List.set_cons_succ, List.set_cons_zero]); refine wp_region_mem (by kernel_rfl) (by kernel_rfl) hM ?_; clear hM; (repeat (first | go_big_quiet_skip | (go_big_quiet_want; first | (refine quiet_get _ _ rfl _ _ rfl 0 rfl rowStake (by omega) ?_; (simp only [e3]); (simp only [Act.put, List.setIfInBounds_toArray, List.set_cons_succ, List.set_cons_zero]); go_big_quiet_on) | (refine quiet_get _ _ rfl _ _ rfl 1 rfl (rowTab _ _ rfl) (by omega) ?_; (simp only [Act.put, List.setIfInBounds_toArray, List.set_cons_succ, List.set_cons_zero]); go_big_quiet_on) | (refine quiet_call ?_; apply Exists.intro; apply Exists.intro; apply Exists.intro; refine ⟨fun W => ?_, fun W hM => ?_, ?_⟩; (go_simp; exact ⟨rfl, rfl⟩); (with_reducible exact stakeTold_any g (hs k) W); (simp only [He.out]); (simp only [Act.put, List.setIfInBounds_toArray, List.set_cons_succ, List.set_cons_zero]); go_big_quiet_on) | (refine quiet_call ?_; apply Exists.intro; apply Exists.intro; apply Exists.intro; refine ⟨fun W => ?_, fun W hM => ?_, ?_⟩; (go_simp; exact ⟨rfl, rfl⟩); (with_reducible exact containsStake b c (n * 3) k hs (hs k) (by omega) (by omega) W (hM.ats 2 _ _ _ rfl)); (simp only [Hf.out, Bool.not_true, Bool.not_false]); (simp only [Act.put, List.setIfInBounds_toArray, List.set_cons_succ, List.set_cons_zero]); go_big_quiet_on) | (refine quiet_val ?_; apply Exists.intro; refine ⟨fun W => ?_, ?_⟩; (go_simp; (try simp only [hsl, if_true, Bool.false_eq_true, if_false]); rfl); (simp only [Act.put, List.setIfInBounds_toArray, List.set_cons_succ, List.set_cons_zero]); go_big_quiet_on)))); (with_reducible refine wpQuiet_nil ?_); intro W' hM)
          go_wp2
          go_roundw
          case rel => exact ⟨k + 1, by omega, by go_num, Lib.hid (fun j hj => by
            by_cases e : j = k
            · rw [e]; exact Hx.out
            · exact hall.out j (by omega)), hM.drop⟩
          case measure => simp [intOf]; omega
    · obtain rfl : k = n := by omega
      go_wp2
      go_ret
      exact ⟨ret_bool (stakesB_yes Ho.out (by omega) hall.out).symm, hM.below⟩
set_option maxRecDepth 100000 in
set_option maxHeartbeats 1000000 in
theorem specValidStakes_any (g : Nat → Int) (hg : Fits g) (b n c : Nat) (hs : Nat → Nat → Int) (hF : ∀ i, i < n → FitsStake (hs i)) (hn : n ≤ 1048576) (w : World) (hB : At w b (n * 3) (sStake hs)) :
    Calls Try.prog 14 #[.agg (arr 122 (pas g)), .slice (some ⟨b, 0, none⟩) n c] w fun e w' => e = .returned (.bool (stakesB g n hs)) ∧ Below w.heap.size w w' := by
  have hM : Mem w [(b, n * 3, sStake hs)] w := (Mem.nil w).old hB (fun i p h => by simp at h)
  have HF := Lib.hid hF
  clear hF hB
  have tk_b1 : True := trivial
  go_enter Try.func14, Try.ntmps14
  go_wp2_with (first | (go_at_call 21; (with_reducible refine (l05Ok_any g hg b1 b n c hs HF.out hn _ (hM.ats 0 _ _ _ rfl) (hM.ats 1 _ _ _ rfl) (hM.apart 0 1 _ _ rfl rfl (by omega))).mono ?_); rintro e W' ⟨rfl, hb'⟩; have hM' := hM.call hb'; clear hM hb'; have hM := hM'; clear hM') | (have _t := tk_b1; refine wpList_box rfl _ _ rfl _ _ rfl hM ?_; intro b1 W' hb1 hM'; clear hM tk_b1; have hM := hM'; clear hM'))
  go_ret
  exact ⟨ret_bool (a := stakesB g n hs) rfl, hM.below⟩

set_option maxRecDepth 100000 in
set_option maxHeartbeats 2000000 in
theorem lawValidStakes_any (g : Nat → Int) (hg : Fits g) (v : Value) (n : Nat) (hs : Nat → Nat → Int) (hn : n ≤ maxLen) (hF : ∀ i, i < n → FitsStake (hs i)) (w : World) (h : StakeArg w v n hs) :
    Calls Try.prog 5 #[.agg (arr 122 (pas g)), v] w fun e w' => e = .returned (.bool true) ∧ Below w.heap.size w w' := by
  have hM := Mem.nil w
  have HG := Lib.hid h
  have Hn := Lib.hid hn
  have HF := Lib.hid hF
  clear h hn hF
  by_cases h1 : 1048576 < n
  · have tk_c1 : True := trivial
    go_enter Try.func5, Try.ntmps5
    go_wp2_with (first | (go_at_call 9; (with_reducible refine (szStakeS_no v n hs 1048576 Hn.out (by omega) (by omega) (by omega) _ (HG.out.below hM.below)).mono ?_); rintro e W' ⟨rfl, hb'⟩; have hM' := hM.call hb'; clear hM hb'; have hM := hM'; clear hM') | (have _t := tk_c1; refine wpList_box rfl _ _ rfl _ _ rfl hM ?_; intro c1 W' hc1 hM'; clear hM tk_c1; have hM := hM'; clear hM'))
    go_ret
    exact ⟨rfl, hM.below⟩
  have d0 : decide ((1048576 : Int) - n < 0) = false := decide_eq_false (by omega)
  have d0' : decide ((1048576 : Int) < n) = false := decide_eq_false (by omega)
  have hn1 : n ≤ 1048576 := by omega
  cases hz : stakesB g n hs
  all_goals
    have Hz := Lib.hid hz
    clear hz
    have tk_c1 : True := trivial; have tk_b1 : True := trivial; have tk_b2 : True := trivial; have tk_b3 : True := trivial; have tk_q1 : True := trivial; have tk_q2 : True := trivial
    go_enter Try.func5, Try.ntmps5
    go_wp2_with (first | (go_at_call 9; (with_reducible refine (szStakeS_yes v n hs 1048576 (by omega) (by omega) _ (HG.out.below hM.below)).mono ?_); rintro e W' ⟨rfl, hb'⟩; have hM' := hM.call hb'; clear hM hb'; have hM := hM'; clear hM') | (go_at_call 15; (with_reducible refine (toPasture_pas g _).mono ?_); rintro e W' ⟨rfl, hb'⟩; have hM' := hM.call hb'; clear hM hb'; have hM := hM'; clear hM') | (have _t := tk_b1; go_at_call 11; (with_reducible refine (toStakeS_any v n hs hn1 _ (HG.out.below hM.below)).mono ?_); rintro e W' ⟨b1, rfl, hb1, hA', hcb⟩; have hM' := hM.fresh' hcb hA' hb1; simp only [List.cons_append, List.nil_append] at hM'; clear hM hcb hA' tk_b1; have hM := hM'; clear hM') | (have _t := tk_b2; go_at_call 11; (with_reducible refine (toStakeS_any v n hs hn1 _ (HG.out.below hM.below)).mono ?_); rintro e W' ⟨b2, rfl, hb2, hA', hcb⟩; have hM' := hM.fresh' hcb hA' hb2; simp only [List.cons_append, List.nil_append] at hM'; clear hM hcb hA' tk_b2; have hM := hM'; clear hM') | (have _t := tk_b3; go_at_call 11; (with_reducible refine (toStakeS_any v n hs hn1 _ (HG.out.below hM.below)).mono ?_); rintro e W' ⟨b3, rfl, hb3, hA', hcb⟩; have hM' := hM.fresh' hcb hA' hb3; simp only [List.cons_append, List.nil_append] at hM'; clear hM hcb hA' tk_b3; have hM := hM'; clear hM') | (go_at_call 14; (with_reducible refine (specValidStakes_any g hg _ n n hs HF.out hn1 _ (hM.ats 1 _ _ _ rfl)).mono ?_); rintro e W' ⟨rfl, hb'⟩; rw [Hz.out]; have hM' := hM.call hb'; clear hM hb'; have hM := hM'; clear hM') | (go_at_call 16; (with_reducible refine (implValidStakes_any g hg _ n n hs hn1 (by omega) _ (hM.ats 2 _ _ _ rfl)).mono ?_); rintro e W' ⟨rfl, hb'⟩; rw [Hz.out]; have hM' := hM.call hb'; clear hM hb'; have hM := hM'; clear hM') | (go_at_call 13; (with_reducible refine (eqStakeS_same _ _ n n n hs Hn.out _ (hM.ats 2 _ _ _ rfl) (hM.ats 3 _ _ _ rfl) (hM.apart 2 3 _ _ rfl rfl (by omega))).mono ?_); rintro e W' ⟨rfl, hb'⟩; have hM' := hM.call hb'; clear hM hb'; have hM := hM'; clear hM') | (have _t := tk_c1; refine wpList_box rfl _ _ rfl _ _ rfl hM ?_; intro c1 W' hc1 hM'; clear hM tk_c1; have hM := hM'; clear hM') | (have _t := tk_q1; (refine wpList_get rfl _ _ rfl _ _ rfl hM 0 rfl (rowTab _ _ rfl) (by omega) ?_); clear tk_q1) | (have _t := tk_q2; (refine wpList_get rfl _ _ rfl _ _ rfl hM 0 rfl (rowTab _ _ rfl) (by omega) ?_); clear tk_q2))
    go_ret
    exact ⟨rfl, hM.below⟩
end Go.Proofs.Ytmeheinffdfbkaa
