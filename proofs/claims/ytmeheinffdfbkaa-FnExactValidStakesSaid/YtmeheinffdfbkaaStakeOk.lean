/-
  spec.l05Reach, l05Stake, l05Ok by contracts.
-/
import Derived.Test.YtmeheinffdfbkaaStakeQ
import Derived.Test.YtmeheinffdfbkaaStakeE
import Derived.Test.YtmeheinffdfbkaaHasCell
import Derived.Test.YtmeheinffdfbkaaValidB
import Derived.Test.YtmeheinffdfbkaaOkS
namespace Go.Proofs.Ytmeheinffdfbkaa
open Go Go.RowKit Go.BigFrame

/-- Do two stakes stand in one cell? -/
def atEq (a b : Nat → Int) : Bool := (a 0 == b 0) && (a 1 == b 1)
/-- Is a stake valid alone? -/
def stakeB (g h : Nat → Int) : Bool := isB g (h 0) (h 1) && inB 0 200 (h 2)
/-- Does none of the first i stand in the cell of a? -/
def freeTo (hs : Nat → Nat → Int) (a : Nat → Int) (i : Nat) : Bool := (List.range i).all fun k => !atEq (hs k) a
def stakesB (g : Nat → Int) (n : Nat) (hs : Nat → Nat → Int) : Bool := okB g && (decide (n ≤ 12) && (List.range n).all fun i => stakeB g (hs i) && freeTo hs (hs i) i)
theorem freeTo_no {hs : Nat → Nat → Int} {a : Nat → Int} {i k : Nat} (hk : k < i) (h : atEq (hs k) a = true) : freeTo hs a i = false := by
  unfold freeTo; rw [List.all_eq_false]; exact ⟨k, by simpa using hk, by rw [h]; decide⟩
theorem freeTo_yes {hs : Nat → Nat → Int} {a : Nat → Int} {i : Nat} (h : ∀ k, k < i → atEq (hs k) a = false) : freeTo hs a i = true := by
  unfold freeTo; rw [List.all_eq_true]; intro k hk; rw [h k (by simpa using hk)]; rfl
theorem stakesB_ok {g : Nat → Int} {n : Nat} {hs : Nat → Nat → Int} (h : okB g = false) : stakesB g n hs = false := by simp [stakesB, h]
theorem stakesB_many {g : Nat → Int} {n : Nat} {hs : Nat → Nat → Int} (h : 12 < n) : stakesB g n hs = false := by
  have : decide (n ≤ 12) = false := decide_eq_false (by omega)
  simp [stakesB, this]
theorem stakesB_no {g : Nat → Int} {n i : Nat} {hs : Nat → Nat → Int} (hi : i < n) (h : (stakeB g (hs i) && freeTo hs (hs i) i) = false) : stakesB g n hs = false := by
  have : ((List.range n).all fun i => stakeB g (hs i) && freeTo hs (hs i) i) = false := by rw [List.all_eq_false]; exact ⟨i, by simpa using hi, by rw [h]; decide⟩
  simp [stakesB, this]
theorem stakesB_yes {g : Nat → Int} {n : Nat} {hs : Nat → Nat → Int} (ho : okB g = true) (hn : n ≤ 12) (h : ∀ i, i < n → (stakeB g (hs i) && freeTo hs (hs i) i) = true) : stakesB g n hs = true := by
  have : ((List.range n).all fun i => stakeB g (hs i) && freeTo hs (hs i) i) = true := by rw [List.all_eq_true]; intro i hi; exact h i (by simpa using hi)
  simp [stakesB, this, ho, hn]

theorem l05Reach_any (n : Int) (w : World) :
    Calls Try.prog 39 #[.int .i64 n] w fun e w' => e = .returned (.bool (inB 0 200 n)) ∧ Below w.heap.size w w' := by
  have hM := Mem.nil w
  go_enter Try.func39, Try.ntmps39
  go_wp2_with (go_at_call 36; refine (l00In_any _ _ _ _).mono ?_; rintro e W' ⟨rfl, hb'⟩; have hM' := hM.call hb'; clear hM hb'; have hM := hM'; clear hM')
  go_ret
  exact ⟨rfl, hM.below⟩

set_option maxRecDepth 100000 in
set_option maxHeartbeats 1000000 in
theorem l05Stake_any (g : Nat → Int) (hg : Fits g) (bp : Nat) (h : Nat → Int) (hF : FitsStake h) (w : World) (hA : At w bp 122 (pas g)) :
    Calls Try.prog 30 #[.pointer (some ⟨bp, 0, none⟩), .agg (arr 3 (vStake h))] w fun e w' => e = .returned (.bool (stakeB g h)) ∧ Below w.heap.size w w' := by
  have hM : Mem w [(bp, 122, pas g)] w := (Mem.nil w).old hA (fun i p h => by simp at h)
  obtain ⟨f0, f1, f2⟩ := hF
  have e0 : arr 2 (fun j => vStake h (0 + j)) = arr 2 (sp (h 0) (h 1)) := spStake0 h
  have e2 : vStake h 2 = .int .i16 (h 2) := rfl
  have c2 : IntKind.i64.wrap (h 2) = h 2 := IntWalk.i64_in _ (by omega)
  have tk_b1 : True := trivial; have tk_q1 : True := trivial
  cases h1 : isB g (h 0) (h 1)
  · have Hp : Hid (stakeB g h = false) := Lib.hid (by simp [stakeB, h1])
    have H1 := Lib.hid h1
    clear h1
    go_enter Try.func30, Try.ntmps30
    go_wp2_with (first | (go_at_call 38; (with_reducible refine (l01Is_any g hg bp (h 0) (h 1) f0 f1 _ (hM.ats 1 _ _ _ rfl)).mono ?_); rintro e W' ⟨rfl, hb'⟩; rw [H1.out]; have hM' := hM.call hb'; clear hM hb'; have hM := hM'; clear hM') | (have _t := tk_b1; refine wpList_box rfl _ _ rfl _ _ rfl hM ?_; intro b1 W' hb1 hM'; clear hM tk_b1; have hM := hM'; clear hM') | (have _t := tk_q1; (refine wpList_get rfl _ _ rfl _ _ rfl hM 0 rfl (rowTab _ _ rfl) (by omega) ?_); rw [e0]; clear tk_q1))
    go_ret
    exact ⟨ret_bool Hp.out.symm, hM.below⟩
  · have Hp : Hid (stakeB g h = inB 0 200 (h 2)) := Lib.hid (by simp [stakeB, h1])
    have H1 := Lib.hid h1
    clear h1
    go_enter Try.func30, Try.ntmps30
    go_wp2_with (first | (go_at_call 38; (with_reducible refine (l01Is_any g hg bp (h 0) (h 1) f0 f1 _ (hM.ats 1 _ _ _ rfl)).mono ?_); rintro e W' ⟨rfl, hb'⟩; rw [H1.out]; have hM' := hM.call hb'; clear hM hb'; have hM := hM'; clear hM') | (go_at_call 39; (with_reducible refine (l05Reach_any (h 2) _).mono ?_); rintro e W' ⟨rfl, hb'⟩; have hM' := hM.call hb'; clear hM hb'; have hM := hM'; clear hM') | (have _t := tk_b1; refine wpList_box rfl _ _ rfl _ _ rfl hM ?_; intro b1 W' hb1 hM'; clear hM tk_b1; have hM := hM'; clear hM') | (have _t := tk_q1; (refine wpList_get rfl _ _ rfl _ _ rfl hM 0 rfl (rowTab _ _ rfl) (by omega) ?_); rw [e0]; clear tk_q1) | (refine wpList_gget1 ?_ _ _ rfl _ _ rfl hM 0 rfl (cellTab _ rfl) (by omega) _ e2 ?_; kernel_rfl))
    go_ret
    exact ⟨ret_bool Hp.out.symm, hM.below⟩

set_option maxRecDepth 100000 in
set_option maxHeartbeats 4000000 in
theorem l05Ok_any (g : Nat → Int) (hg : Fits g) (bp b n c : Nat) (hs : Nat → Nat → Int) (hF : ∀ i, i < n → FitsStake (hs i)) (hn : n ≤ 1048576) (w : World) (hA : At w bp 122 (pas g)) (hB : At w b (n * 3) (sStake hs)) (hne : bp ≠ b) :
    Calls Try.prog 21 #[.pointer (some ⟨bp, 0, none⟩), .slice (some ⟨b, 0, none⟩) n c] w fun e w' => e = .returned (.bool (stakesB g n hs)) ∧ Below w.heap.size w w' := by
  have hM : Mem w [(bp, 122, pas g), (b, n * 3, sStake hs)] w := ((Mem.nil w).old hA (fun i p h => by simp at h)).old hB (fun i p h => by
    match i, h with
    | 0, h => simp at h; rw [← h]; exact hne
    | _ + 1, h => simp at h)
  have HF := Lib.hid hF
  clear hF hA hB
  cases ho : okB g
  · have Hp := Lib.hid (stakesB_ok (n := n) (hs := hs) ho)
    have Ho := Lib.hid ho
    clear ho
    go_enter Try.func21, Try.ntmps21
    go_wp2_with (first | (go_at_call 29; refine (l01Ok_any g hg _ _ (hM.ats 0 _ _ _ rfl)).mono ?_; rintro e W' ⟨rfl, hb'⟩; rw [Ho.out]; have hM' := hM.call hb'; clear hM hb'; have hM := hM'; clear hM'))
    go_ret
    exact ⟨ret_bool Hp.out.symm, hM.below⟩
  have Ho := Lib.hid ho
  clear ho
  by_cases h12 : 12 < n
  · have Hp := Lib.hid (stakesB_many (g := g) (hs := hs) h12)
    have hz : 12 < (n : Int) := by omega
    go_enter Try.func21, Try.ntmps21
    go_wp2_with (first | (go_at_call 29; refine (l01Ok_any g hg _ _ (hM.ats 0 _ _ _ rfl)).mono ?_; rintro e W' ⟨rfl, hb'⟩; rw [Ho.out]; have hM' := hM.call hb'; clear hM hb'; have hM := hM'; clear hM'))
    go_ret
    exact ⟨ret_bool Hp.out.symm, hM.below⟩
  have hz : ¬ 12 < (n : Int) := by omega
  go_enter Try.func21, Try.ntmps21
  go_wp2_with (first | (go_at_call 29; refine (l01Ok_any g hg _ _ (hM.ats 0 _ _ _ rfl)).mono ?_; rintro e W' ⟨rfl, hb'⟩; rw [Ho.out]; have hM' := hM.call hb'; clear hM hb'; have hM := hM'; clear hM'))
  go_loopw [5] (fun i wr => ∃ k : Nat, k ≤ n ∧ i = .int .i64 k ∧ Hid (∀ j, j < k → (stakeB g (hs j) && freeTo hs (hs j) j) = true) ∧ Mem w [(bp, 122, pas g), (b, n * 3, sStake hs)] wr) (fun i _ => n - (intOf i).toNat)
  case atStart => exact ⟨0, by omega, rfl, Lib.hid (fun j hj => absurd hj (by omega)), hM⟩
  case round =>
    clear hM
    obtain ⟨k, hk, rfl, hall, hM⟩ := hrel
    by_cases hlt : k < n
    · have l2 : (k : Int) < n := by omega
      have fk := HF.out k hlt
      have er : arr 3 (fun j => sStake hs (k * 3 + j)) = arr 3 (vStake (hs k)) := arr_congr fun j hj => sStake_row hs k j hj
      cases he : stakeB g (hs k)
      · have Hx : Hid ((stakeB g (hs k) && freeTo hs (hs k) k) = false) := Lib.hid (by rw [he]; rfl)
        have He := Lib.hid he
        clear he
        go_wp2_with (first | (go_at_call 30; (with_reducible refine (l05Stake_any g hg bp (hs k) fk _ (hM.ats 0 _ _ _ rfl)).mono ?_); rintro e W' ⟨rfl, hb'⟩; rw [He.out]; have hM' := hM.call hb'; clear hM hb'; have hM := hM'; clear hM') | ((refine wpList_get rfl _ _ rfl _ _ rfl hM 1 rfl rowStake (by omega) ?_); rw [er]))
        go_ret
        exact ⟨ret_bool (stakesB_no hlt Hx.out).symm, hM.below⟩
      · have He := Lib.hid he
        clear he
        go_wp2_with (first | (go_at_call 30; (with_reducible refine (l05Stake_any g hg bp (hs k) fk _ (hM.ats 0 _ _ _ rfl)).mono ?_); rintro e W' ⟨rfl, hb'⟩; rw [He.out]; have hM' := hM.call hb'; clear hM hb'; have hM := hM'; clear hM') | ((refine wpList_get rfl _ _ rfl _ _ rfl hM 1 rfl rowStake (by omega) ?_); rw [er]))
        go_loopw [6] (fun i wr => ∃ q : Nat, q ≤ k ∧ i = .int .i64 q ∧ Hid (∀ j, j < q → atEq (hs j) (hs k) = false) ∧ Mem w [(bp, 122, pas g), (b, n * 3, sStake hs)] wr) (fun i _ => k - (intOf i).toNat)
        case atStart => exact ⟨0, by omega, rfl, Lib.hid (fun j hj => absurd hj (by omega)), hM⟩
        case round =>
          clear hM
          obtain ⟨q, hq, rfl, hfr, hM⟩ := hrel
          by_cases hlq : q < k
          · have l3 : (q : Int) < k := by omega
            have l4 : (q : Int) < n := by omega
            have eq1 : arr 2 (fun j => sStake hs (q * 3 + j)) = arr 2 (sp (hs q 0) (hs q 1)) := (arr_congr fun j hj => sStake_row hs q j (by omega)).trans ((arr_congr fun j hj => by rw [Nat.zero_add]).trans (spStake0 (hs q)))
            have eq2 : arr 2 (fun j => sStake hs (k * 3 + j)) = arr 2 (sp (hs k 0) (hs k 1)) := (arr_congr fun j hj => sStake_row hs k j (by omega)).trans ((arr_congr fun j hj => by rw [Nat.zero_add]).trans (spStake0 (hs k)))
            cases ha : atEq (hs q) (hs k)
            all_goals
              have hqe : ∀ W, (binOp .eql 26 (.agg (arr 2 (sp (hs q 0) (hs q 1)))) (.agg (arr 2 (sp (hs k 0) (hs k 1))))).run Try.prog W = .ok (.bool (atEq (hs q) (hs k))) W := fun W => eql_spot _ _ _ _ W
              rw [ha] at hqe
              have Ha := Lib.hid ha
              clear ha
              go_wp2
              ((try simp only [Act.put, List.setIfInBounds_toArray, List.set_cons_succ, List.set_cons_zero]); refine wp_region_mem (by kernel_rfl) (by kernel_rfl) hM ?_; clear hM; (repeat (first | go_big_quiet_skip | (go_big_quiet_want; first | (refine quiet_get _ _ rfl _ _ rfl 1 rfl (rowTab _ 2 rfl) (by omega) ?_; (first | simp only [eq1] | simp only [eq2]); (simp only [Act.put, List.setIfInBounds_toArray, List.set_cons_succ, List.set_cons_zero]); go_big_quiet_on) | (refine quiet_val ?_; apply Exists.intro; refine ⟨fun W => ?_, ?_⟩; (go_simp; (try simp only [l2, l3, l4, hqe, if_true, Bool.false_eq_true, if_false]); rfl); (simp only [Act.put, List.setIfInBounds_toArray, List.set_cons_succ, List.set_cons_zero]); go_big_quiet_on)))); (with_reducible refine wpQuiet_nil ?_); intro W' hM)
              go_wp2
            · go_roundw
              case rel => exact ⟨q + 1, by omega, by go_num, Lib.hid (fun j hj => by
                by_cases e : j = q
                · rw [e]; exact Ha.out
                · exact hfr.out j (by omega)), hM⟩
              case measure => simp [intOf]; omega
            · go_ret
              exact ⟨ret_bool (stakesB_no hlt (by rw [freeTo_no hlq Ha.out, Bool.and_false])).symm, hM.below⟩
          · obtain rfl : q = k := by omega
            have Hx : Hid ((stakeB g (hs q) && freeTo hs (hs q) q) = true) := Lib.hid (by rw [He.out, freeTo_yes hfr.out]; rfl)
            go_wp2
            go_roundw
            case rel => exact ⟨q + 1, by omega, by go_num, Lib.hid (fun j hj => by
              by_cases e : j = q
              · rw [e]; exact Hx.out
              · exact hall.out j (by omega)), hM⟩
            case measure => simp [intOf]; omega
    · obtain rfl : k = n := by omega
      go_wp2
      go_ret
      exact ⟨ret_bool (stakesB_yes Ho.out (by omega) hall.out).symm, hM.below⟩
end Go.Proofs.Ytmeheinffdfbkaa
