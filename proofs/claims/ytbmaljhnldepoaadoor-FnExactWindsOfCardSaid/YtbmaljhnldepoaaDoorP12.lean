/-
  Several texts in one: Check2, WalkI, WindsI, HeadC.
-/
import Derived.Test.YtbmaljhnldepoaaDoorP4
import Derived.Test.YtbmaljhnldepoaaDoorP11
/-
  impl.checkCells by contract, where no more is known than the two errors that it gives.
-/
namespace Go.Proofs.YtbmaljhnldepoaaDoor
open Go Go.RowKit Go.BigFrame

/-- What the variables of the two errors hold. -/
structure Errs2 (a : Nat → Addr) (W : World) : Prop where
  vars : ∀ k, k < 2 → W.cell? ⟨errG k, 0, none⟩ = some (errV (a k))
theorem Errs2.below {a : Nat → Addr} {W W' : World} (h : Errs2 a W) (hb : Below W.heap.size W W') : Errs2 a W' :=
  ⟨fun k hk => by
    have hc := h.vars k hk
    rw [cell_below hb (block_lt_of_cell hc)]; exact hc⟩
theorem Errs.two {a : Nat → Addr} {W : World} (h : Errs a W) : Errs2 a W := ⟨fun k hk => h.vars k (by omega)⟩

set_option maxRecDepth 100000 in
set_option maxHeartbeats 2000000 in
theorem checkCells_bad2 {a : Nat → Addr} (g : Nat → Int) (hg : Fits g) (v : Value) (w : World) (hE : Errs2 a w) (hv : validB g = false) :
    Calls Tryd.prog 55 #[.agg (arr 122 (pas g)), v] w fun e w' => e = .returned (errV (a 0)) ∧ Below w.heap.size w w' := by
  have hM := Mem.nil w
  have hi := fun W => implValid_any g hg W
  rw [hv] at hi
  have H := Lib.hid hE
  have Hi := Lib.hid hi
  clear hv hi hE
  have tk_b1 : True := trivial
  go_enter Tryd.func55, Tryd.ntmps55
  go_wp2_with (first | (have _t := tk_b1; refine wpList_box rfl _ _ rfl _ _ rfl hM ?_; intro b1 W' hb1 hM'; clear hM tk_b1; have hM := hM'; clear hM') | (refine wpList_get rfl _ _ rfl _ _ rfl hM 0 rfl (rowTab _ _ rfl) (by omega) ?_) | (go_at_call 106; refine (Hi.out _).mono ?_; rintro e W' ⟨rfl, hb'⟩; have hM' := hM.call hb'; have hE' := H.out.below hM'.below; have v0 : W'.cell? ⟨0, 0, none⟩ = some (errV (a 0)) := hE'.vars 0 (by omega); clear hM hb' hE'; have hM := hM'; clear hM'))
  go_ret
  exact ⟨rfl, hM.below⟩

set_option maxRecDepth 100000 in
set_option maxHeartbeats 2000000 in
/-- Spots in a block. -/
theorem checkCells_some2 {a : Nat → Addr} (g : Nat → Int) (hg : Fits g) (bl n c N : Nat) (s : Nat → Int × Int) (hN : 2 * n ≤ N) (hn : n ≤ maxLen) (w : World) (hA : At w bl N (sps s)) (hE : Errs2 a w) (hv : validB g = true) :
    Calls Tryd.prog 55 #[.agg (arr 122 (pas g)), .slice (some ⟨bl, 0, none⟩) n c] w fun e w' => e = .returned (chkS a g s n) ∧ Below w.heap.size w w' := by
  have hM := (Mem.nil w).old hA (fun i p h => by simp at h)
  simp only [List.nil_append] at hM
  have hi := fun W => implValid_any g hg W
  rw [hv] at hi
  have Hi := Lib.hid hi
  have HE := Lib.hid hE
  unfold maxLen at hn
  clear hv hi hA hE
  have tk_b1 : True := trivial
  go_enter Tryd.func55, Tryd.ntmps55
  go_wp2_with (first | (have _t := tk_b1; refine wpList_box rfl _ _ rfl _ _ rfl hM ?_; intro b1 W' hb1 hM'; clear hM tk_b1; have hM := hM'; clear hM') | (refine wpList_get rfl _ _ rfl _ _ rfl hM 0 rfl (rowTab _ _ rfl) (by omega) ?_) | (go_at_call 106; refine (Hi.out _).mono ?_; rintro e W' ⟨rfl, hb'⟩; have hM' := hM.call hb'; clear hM hb'; have hM := hM'; clear hM'))
  go_loopw [13] (fun i wr => ∃ k : Nat, k ≤ n ∧ i = .int .i64 k ∧ Hid (∀ j, j < k → isB g (s j).1 (s j).2 = true) ∧ Mem w [(b1, 122, pas g), (bl, N, sps s)] wr) (fun i _ => n - (intOf i).toNat)
  case atStart => exact ⟨0, by omega, rfl, Lib.hid (fun j hj => absurd hj (by omega)), hM⟩
  case round =>
    clear hM
    obtain ⟨k, hk, rfl, hall, hM⟩ := hrel
    by_cases hlt : k < n
    · cases hB : isB g (s k).1 (s k).2
      · have HB := Lib.hid hB
        clear hB
        have tk_b2 : True := trivial
        go_wp2_with (first | (refine wpList_get rfl _ _ rfl _ _ rfl hM 1 rfl (rowTab _ _ rfl) (by omega) ?_) | (have _t := tk_b2; refine wpList_zero rfl _ rfl (zeroTab _ _ _ rfl) hM ?_; intro b2 W' hb2 hM'; clear hM tk_b2; have hM := hM'; clear hM') | (refine wpList_lay rfl _ _ _ rfl _ _ rfl _ _ rfl hM 0 rfl (by assumption) (rowTab _ _ rfl) (by omega) ?_ ?_; (first | (intro _ _; rfl) | (intro k _; exact h1 _) | (intro k _; simp only [lay, upd]; (repeat' split) <;> first | exact h1 _ | rfl)); intro W' hM'; clear hM; have hM := hM'; clear hM'; simp only [List.set] at hM) | (refine wpList_get rfl _ _ rfl _ _ rfl hM 0 rfl (rowTab _ _ rfl) (by omega) ?_) | (go_at_call 79; refine (hasCell_of g _ (s k).1 (s k).2 (lay_sp0 _ s k) (lay_sp1 _ s k) _).mono ?_; rintro e W' ⟨rfl, hb'⟩; rw [HB.out]; have hM' := hM.call hb'; have hE' := HE.out.below hM'.below; have v1 : W'.cell? ⟨1, 0, none⟩ = some (errV (a 1)) := hE'.vars 1 (by omega); clear hE'; clear hM hb'; have hM := hM'; clear hM'))
        go_ret
        exact ⟨ret_v (chkS_no (allB_no hlt HB.out)).symm, hM.below⟩
      · have HB := Lib.hid hB
        clear hB
        have tk_b2 : True := trivial
        go_wp2_with (first | (refine wpList_get rfl _ _ rfl _ _ rfl hM 1 rfl (rowTab _ _ rfl) (by omega) ?_) | (have _t := tk_b2; refine wpList_zero rfl _ rfl (zeroTab _ _ _ rfl) hM ?_; intro b2 W' hb2 hM'; clear hM tk_b2; have hM := hM'; clear hM') | (refine wpList_lay rfl _ _ _ rfl _ _ rfl _ _ rfl hM 0 rfl (by assumption) (rowTab _ _ rfl) (by omega) ?_ ?_; (first | (intro _ _; rfl) | (intro k _; exact h1 _) | (intro k _; simp only [lay, upd]; (repeat' split) <;> first | exact h1 _ | rfl)); intro W' hM'; clear hM; have hM := hM'; clear hM'; simp only [List.set] at hM) | (refine wpList_get rfl _ _ rfl _ _ rfl hM 0 rfl (rowTab _ _ rfl) (by omega) ?_) | (go_at_call 79; refine (hasCell_of g _ (s k).1 (s k).2 (lay_sp0 _ s k) (lay_sp1 _ s k) _).mono ?_; rintro e W' ⟨rfl, hb'⟩; rw [HB.out]; have hM' := hM.call hb'; clear hM hb'; have hM := hM'; clear hM'))
        go_roundw
        case rel => exact ⟨k + 1, by omega, by go_num, Lib.hid (fun j hj => by
          by_cases e : j = k
          · rw [e]; exact HB.out
          · exact hall.out j (by omega)), hM.drop⟩
        case measure => simp [intOf]; omega
    · obtain rfl : k = n := by omega
      go_wp2
      go_ret
      exact ⟨ret_v (chkS_yes (allB_yes hall.out)).symm, hM.below⟩
end Go.Proofs.YtbmaljhnldepoaaDoor

/-
  impl.ValidWalk by contract.
-/
namespace Go.Proofs.YtbmaljhnldepoaaDoor
open Go Go.RowKit Go.BigFrame

set_option maxRecDepth 100000 in
set_option maxHeartbeats 4000000 in
theorem implValidWalk_any {a : Nat → Addr} (g : Nat → Int) (hg : Fits g) (bw n c : Nat) (x y : Int) (s : Nat → Int × Int) (hcn : n ≤ c) (hn : n ≤ 1048576) (w : World) (hB : At w bw (n * 2) (sps s)) (hE : Errs2 a w) :
    Calls Tryd.prog 44 #[.agg (arr 122 (pas g)), .agg (arr 2 (sp x y)), .slice (some ⟨bw, 0, none⟩) n c] w fun e w' => e = .returned (.bool (validW g s n x y)) ∧ Below w.heap.size w w' := by
  have hM : Mem w [(bw, n * 2, sps s)] w := (Mem.nil w).old hB (fun i p h => by simp at h)
  have HE := Lib.hid hE
  have Hn2 := Lib.hid hn
  have Hn : Hid (n ≤ maxLen) := Lib.hid (by unfold maxLen; omega)
  clear hB hE
  cases ho : okB g
  · have Ho : Hid (validB g = false) := Lib.hid (by rw [← okB_eq]; exact ho)
    have Hp := Lib.hid (validW_1 (s := s) (n := n) (x := x) (y := y) ho)
    clear ho
    have tk_b1 : True := trivial; have tk_b2 : True := trivial; have tk_b3 : True := trivial; have tk_q1 : True := trivial; have tk_q2 : True := trivial
    go_enter Tryd.func44, Tryd.ntmps44
    go_wp2_with (first | (have _t := tk_b1; refine wpList_box rfl _ _ rfl _ _ rfl hM ?_; intro b1 W' hb1 hM'; clear hM tk_b1; have hM := hM'; clear hM') | (have _t := tk_b2; refine wpList_box rfl _ _ rfl _ _ rfl hM ?_; intro b2 W' hb2 hM'; clear hM tk_b2; have hM := hM'; clear hM') | (have _t := tk_q1; (refine wpList_get rfl _ _ rfl _ _ rfl hM 1 rfl (rowTab _ _ rfl) (by omega) ?_); clear tk_q1) | (have _t := tk_q2; (refine wpList_get rfl _ _ rfl _ _ rfl hM 0 rfl (rowTab _ _ rfl) (by omega) ?_); clear tk_q2) | (have _t := tk_b3; refine wpList_slice1 rfl _ _ _ rfl _ _ rfl _ spot_under spot_info (by omega) (by omega) hM ?_; intro b3 W' hb3 hM'; clear hM tk_b3; have hM := hM'; clear hM') | (go_at_call 55; refine (checkCells_bad2 g hg _ _ (HE.out.below hM.below) Ho.out).mono ?_; rintro e W' ⟨rfl, hb'⟩; have hM' := hM.call hb'; clear hM hb'; have hM := hM'; clear hM'))
    go_ret
    exact ⟨ret_bool Hp.out.symm, hM.below⟩
  have Hk := Lib.hid ho
  have Ho : Hid (validB g = true) := Lib.hid (by rw [← okB_eq]; exact ho)
  cases hi : isB g x y
  · have Hi : Hid (chkS a g (fun _ => (x, y)) 1 = errV (a 1)) := Lib.hid (chkS_no (by rw [allB_one]; exact hi))
    have Hp := Lib.hid (validW_2 (s := s) (n := n) (x := x) (y := y) hi)
    clear ho hi
    have tk_b1 : True := trivial; have tk_b2 : True := trivial; have tk_b3 : True := trivial; have tk_q1 : True := trivial; have tk_q2 : True := trivial
    go_enter Tryd.func44, Tryd.ntmps44
    go_wp2_with (first | (have _t := tk_b1; refine wpList_box rfl _ _ rfl _ _ rfl hM ?_; intro b1 W' hb1 hM'; clear hM tk_b1; have hM := hM'; clear hM') | (have _t := tk_b2; refine wpList_box rfl _ _ rfl _ _ rfl hM ?_; intro b2 W' hb2 hM'; clear hM tk_b2; have hM := hM'; clear hM') | (have _t := tk_q1; (refine wpList_get rfl _ _ rfl _ _ rfl hM 1 rfl (rowTab _ _ rfl) (by omega) ?_); clear tk_q1) | (have _t := tk_q2; (refine wpList_get rfl _ _ rfl _ _ rfl hM 0 rfl (rowTab _ _ rfl) (by omega) ?_); clear tk_q2) | (have _t := tk_b3; refine wpList_slice1 rfl _ _ _ rfl _ _ rfl _ spot_under spot_info (by omega) (by omega) hM ?_; intro b3 W' hb3 hM'; clear hM tk_b3; have hM := hM'; clear hM') | (go_at_call 55; refine (checkCells_some2 g hg _ 1 1 2 (fun _ => (x, y)) (by omega) (by decide) _ ((hM.ats 0 _ _ _ rfl).congr (sp_sps0 _ _)) (HE.out.below hM.below) Ho.out).mono ?_; rintro e W' ⟨rfl, hb'⟩; rw [Hi.out]; have hM' := hM.call hb'; clear hM hb'; have hM := hM'; clear hM'))
    go_ret
    exact ⟨ret_bool Hp.out.symm, hM.below⟩
  have Hi : Hid (chkS a g (fun _ => (x, y)) 1 = .nilIface) := Lib.hid (chkS_yes (by rw [allB_one]; exact hi))
  have Hv := Lib.hid (validW_4 (s := s) (n := n) ho hi)
  clear ho hi
  rcases (show (n : Int) < 1 ∨ (1 ≤ (n : Int) ∧ 200 < (n : Int)) ∨ (1 ≤ (n : Int) ∧ (n : Int) ≤ 200) by omega) with r0 | ⟨r0, r1⟩ | ⟨r0, r1⟩
  · have Hp : Hid (walkB g s n x y = false) := Lib.hid (walkB_len (inB_no (by omega)))
    have d0 : decide ((n : Int) < 1) = true := decide_eq_true r0
    have tk_b1 : True := trivial; have tk_b2 : True := trivial; have tk_b3 : True := trivial; have tk_q1 : True := trivial; have tk_q2 : True := trivial
    go_enter Tryd.func44, Tryd.ntmps44
    go_wp2_with (first | (have _t := tk_b1; refine wpList_box rfl _ _ rfl _ _ rfl hM ?_; intro b1 W' hb1 hM'; clear hM tk_b1; have hM := hM'; clear hM') | (have _t := tk_b2; refine wpList_box rfl _ _ rfl _ _ rfl hM ?_; intro b2 W' hb2 hM'; clear hM tk_b2; have hM := hM'; clear hM') | (have _t := tk_q1; (refine wpList_get rfl _ _ rfl _ _ rfl hM 1 rfl (rowTab _ _ rfl) (by omega) ?_); clear tk_q1) | (have _t := tk_q2; (refine wpList_get rfl _ _ rfl _ _ rfl hM 0 rfl (rowTab _ _ rfl) (by omega) ?_); clear tk_q2) | (have _t := tk_b3; refine wpList_slice1 rfl _ _ _ rfl _ _ rfl _ spot_under spot_info (by omega) (by omega) hM ?_; intro b3 W' hb3 hM'; clear hM tk_b3; have hM := hM'; clear hM') | (go_at_call 55; refine (checkCells_some2 g hg _ 1 1 2 (fun _ => (x, y)) (by omega) (by decide) _ ((hM.ats 0 _ _ _ rfl).congr (sp_sps0 _ _)) (HE.out.below hM.below) Ho.out).mono ?_; rintro e W' ⟨rfl, hb'⟩; rw [Hi.out]; have hM' := hM.call hb'; clear hM hb'; have hM := hM'; clear hM'))
    go_ret
    exact ⟨ret_bool (by rw [Hv.out, Hp.out]), hM.below⟩
  · have Hp : Hid (walkB g s n x y = false) := Lib.hid (walkB_len (inB_no (by omega)))
    have d0 : decide ((n : Int) < 1) = false := decide_eq_false (by omega)
    have d1 : decide (200 < (n : Int)) = true := decide_eq_true r1
    have tk_b1 : True := trivial; have tk_b2 : True := trivial; have tk_b3 : True := trivial; have tk_q1 : True := trivial; have tk_q2 : True := trivial
    go_enter Tryd.func44, Tryd.ntmps44
    go_wp2_with (first | (have _t := tk_b1; refine wpList_box rfl _ _ rfl _ _ rfl hM ?_; intro b1 W' hb1 hM'; clear hM tk_b1; have hM := hM'; clear hM') | (have _t := tk_b2; refine wpList_box rfl _ _ rfl _ _ rfl hM ?_; intro b2 W' hb2 hM'; clear hM tk_b2; have hM := hM'; clear hM') | (have _t := tk_q1; (refine wpList_get rfl _ _ rfl _ _ rfl hM 1 rfl (rowTab _ _ rfl) (by omega) ?_); clear tk_q1) | (have _t := tk_q2; (refine wpList_get rfl _ _ rfl _ _ rfl hM 0 rfl (rowTab _ _ rfl) (by omega) ?_); clear tk_q2) | (have _t := tk_b3; refine wpList_slice1 rfl _ _ _ rfl _ _ rfl _ spot_under spot_info (by omega) (by omega) hM ?_; intro b3 W' hb3 hM'; clear hM tk_b3; have hM := hM'; clear hM') | (go_at_call 55; refine (checkCells_some2 g hg _ 1 1 2 (fun _ => (x, y)) (by omega) (by decide) _ ((hM.ats 0 _ _ _ rfl).congr (sp_sps0 _ _)) (HE.out.below hM.below) Ho.out).mono ?_; rintro e W' ⟨rfl, hb'⟩; rw [Hi.out]; have hM' := hM.call hb'; clear hM hb'; have hM := hM'; clear hM'))
    go_ret
    exact ⟨ret_bool (by rw [Hv.out, Hp.out]), hM.below⟩
  have hlen : inB 1 200 (n : Int) = true := inB_yes ⟨r0, r1⟩
  have d0 : decide ((n : Int) < 1) = false := decide_eq_false (by omega)
  have d1 : decide (200 < (n : Int)) = false := decide_eq_false (by omega)
  cases ha : allB g s n
  · have Ha : Hid (chkS a g s n = errV (a 1)) := Lib.hid (chkS_no ha)
    have Hp := Lib.hid (walkB_all (x := x) (y := y) ha)
    clear ha
    have tk_b1 : True := trivial; have tk_b2 : True := trivial; have tk_b3 : True := trivial; have tk_q1 : True := trivial; have tk_q2 : True := trivial; have tk_q3 : True := trivial; have tk_k1 : True := trivial
    go_enter Tryd.func44, Tryd.ntmps44
    go_wp2_with (first | (have _t := tk_b1; refine wpList_box rfl _ _ rfl _ _ rfl hM ?_; intro b1 W' hb1 hM'; clear hM tk_b1; have hM := hM'; clear hM') | (have _t := tk_b2; refine wpList_box rfl _ _ rfl _ _ rfl hM ?_; intro b2 W' hb2 hM'; clear hM tk_b2; have hM := hM'; clear hM') | (have _t := tk_q1; (refine wpList_get rfl _ _ rfl _ _ rfl hM 1 rfl (rowTab _ _ rfl) (by omega) ?_); clear tk_q1) | (have _t := tk_q2; (refine wpList_get rfl _ _ rfl _ _ rfl hM 0 rfl (rowTab _ _ rfl) (by omega) ?_); clear tk_q2) | (have _t := tk_b3; refine wpList_slice1 rfl _ _ _ rfl _ _ rfl _ spot_under spot_info (by omega) (by omega) hM ?_; intro b3 W' hb3 hM'; clear hM tk_b3; have hM := hM'; clear hM') | (have _t := tk_k1; (go_at_call 55; refine (checkCells_some2 g hg _ 1 1 2 (fun _ => (x, y)) (by omega) (by decide) _ ((hM.ats 0 _ _ _ rfl).congr (sp_sps0 _ _)) (HE.out.below hM.below) Ho.out).mono ?_; rintro e W' ⟨rfl, hb'⟩; rw [Hi.out]; have hM' := hM.call hb'; clear hM hb'; have hM := hM'; clear hM'); clear tk_k1) | (have _t := tk_q3; (refine wpList_get rfl _ _ rfl _ _ rfl hM 2 rfl (rowTab _ _ rfl) (by omega) ?_); clear tk_q3) | (go_at_call 55; refine (checkCells_some2 g hg bw n c (n * 2) s (by omega) Hn.out _ (hM.ats 3 _ _ _ rfl) (HE.out.below hM.below) Ho.out).mono ?_; rintro e W' ⟨rfl, hb'⟩; rw [Ha.out]; have hM' := hM.call hb'; clear hM hb'; have hM := hM'; clear hM'))
    go_ret
    exact ⟨ret_bool (by rw [Hv.out, Hp.out]), hM.below⟩
  have Ha : Hid (chkS a g s n = .nilIface) := Lib.hid (chkS_yes ha)
  cases hc : hasS s n x y
  case true =>
    have Hc := Lib.hid hc
    have Hp := Lib.hid (walkB_has (g := g) hc)
    clear ha hc
    have tk_b1 : True := trivial; have tk_b2 : True := trivial; have tk_b3 : True := trivial; have tk_q1 : True := trivial; have tk_q2 : True := trivial; have tk_q3 : True := trivial; have tk_q4 : True := trivial; have tk_k1 : True := trivial
    go_enter Tryd.func44, Tryd.ntmps44
    go_wp2_with (first | (have _t := tk_b1; refine wpList_box rfl _ _ rfl _ _ rfl hM ?_; intro b1 W' hb1 hM'; clear hM tk_b1; have hM := hM'; clear hM') | (have _t := tk_b2; refine wpList_box rfl _ _ rfl _ _ rfl hM ?_; intro b2 W' hb2 hM'; clear hM tk_b2; have hM := hM'; clear hM') | (have _t := tk_q1; (refine wpList_get rfl _ _ rfl _ _ rfl hM 1 rfl (rowTab _ _ rfl) (by omega) ?_); clear tk_q1) | (have _t := tk_q2; (refine wpList_get rfl _ _ rfl _ _ rfl hM 0 rfl (rowTab _ _ rfl) (by omega) ?_); clear tk_q2) | (have _t := tk_b3; refine wpList_slice1 rfl _ _ _ rfl _ _ rfl _ spot_under spot_info (by omega) (by omega) hM ?_; intro b3 W' hb3 hM'; clear hM tk_b3; have hM := hM'; clear hM') | (have _t := tk_k1; (go_at_call 55; refine (checkCells_some2 g hg _ 1 1 2 (fun _ => (x, y)) (by omega) (by decide) _ ((hM.ats 0 _ _ _ rfl).congr (sp_sps0 _ _)) (HE.out.below hM.below) Ho.out).mono ?_; rintro e W' ⟨rfl, hb'⟩; rw [Hi.out]; have hM' := hM.call hb'; clear hM hb'; have hM := hM'; clear hM'); clear tk_k1) | (have _t := tk_q3; (refine wpList_get rfl _ _ rfl _ _ rfl hM 2 rfl (rowTab _ _ rfl) (by omega) ?_); clear tk_q3) | (go_at_call 55; refine (checkCells_some2 g hg bw n c (n * 2) s (by omega) Hn.out _ (hM.ats 3 _ _ _ rfl) (HE.out.below hM.below) Ho.out).mono ?_; rintro e W' ⟨rfl, hb'⟩; rw [Ha.out]; have hM' := hM.call hb'; clear hM hb'; have hM := hM'; clear hM') | (have _t := tk_q4; (refine wpList_gget ?_ _ _ rfl _ _ rfl hM 1 rfl (rowTab _ _ rfl) (by omega) ?_; kernel_rfl); clear tk_q4) | (go_at_call 91; refine (containsSpot_any _ n s x y Hn2.out _ (.inr ⟨bw, c, n * 2, sps s, rfl, Nat.le_refl _, hM.ats 3 _ _ _ rfl, fun _ _ => rfl⟩)).mono ?_; rintro e W' ⟨rfl, hb'⟩; rw [Hc.out]; have hM' := hM.call hb'; clear hM hb'; have hM := hM'; clear hM'))
    go_ret
    exact ⟨ret_bool (by rw [Hv.out, Hp.out]), hM.below⟩
  have Hc := Lib.hid hc
  have Hat := Lib.hid (okAt_of ha hc)
  have Hall := Lib.hid ha
  have Hlen := Lib.hid hlen
  clear ha hc hlen
  have tk_b1 : True := trivial; have tk_b2 : True := trivial; have tk_b3 : True := trivial; have tk_q1 : True := trivial; have tk_q2 : True := trivial; have tk_q3 : True := trivial; have tk_q4 : True := trivial; have tk_k1 : True := trivial
  go_enter Tryd.func44, Tryd.ntmps44
  go_wp2_with (first | (have _t := tk_b1; refine wpList_box rfl _ _ rfl _ _ rfl hM ?_; intro b1 W' hb1 hM'; clear hM tk_b1; have hM := hM'; clear hM') | (have _t := tk_b2; refine wpList_box rfl _ _ rfl _ _ rfl hM ?_; intro b2 W' hb2 hM'; clear hM tk_b2; have hM := hM'; clear hM') | (have _t := tk_q1; (refine wpList_get rfl _ _ rfl _ _ rfl hM 1 rfl (rowTab _ _ rfl) (by omega) ?_); clear tk_q1) | (have _t := tk_q2; (refine wpList_get rfl _ _ rfl _ _ rfl hM 0 rfl (rowTab _ _ rfl) (by omega) ?_); clear tk_q2) | (have _t := tk_b3; refine wpList_slice1 rfl _ _ _ rfl _ _ rfl _ spot_under spot_info (by omega) (by omega) hM ?_; intro b3 W' hb3 hM'; clear hM tk_b3; have hM := hM'; clear hM') | (have _t := tk_k1; (go_at_call 55; refine (checkCells_some2 g hg _ 1 1 2 (fun _ => (x, y)) (by omega) (by decide) _ ((hM.ats 0 _ _ _ rfl).congr (sp_sps0 _ _)) (HE.out.below hM.below) Ho.out).mono ?_; rintro e W' ⟨rfl, hb'⟩; rw [Hi.out]; have hM' := hM.call hb'; clear hM hb'; have hM := hM'; clear hM'); clear tk_k1) | (have _t := tk_q3; (refine wpList_get rfl _ _ rfl _ _ rfl hM 2 rfl (rowTab _ _ rfl) (by omega) ?_); clear tk_q3) | (go_at_call 55; refine (checkCells_some2 g hg bw n c (n * 2) s (by omega) Hn.out _ (hM.ats 3 _ _ _ rfl) (HE.out.below hM.below) Ho.out).mono ?_; rintro e W' ⟨rfl, hb'⟩; rw [Ha.out]; have hM' := hM.call hb'; clear hM hb'; have hM := hM'; clear hM') | (have _t := tk_q4; (refine wpList_gget ?_ _ _ rfl _ _ rfl hM 1 rfl (rowTab _ _ rfl) (by omega) ?_; kernel_rfl); clear tk_q4) | (go_at_call 91; refine (containsSpot_any _ n s x y Hn2.out _ (.inr ⟨bw, c, n * 2, sps s, rfl, Nat.le_refl _, hM.ats 3 _ _ _ rfl, fun _ _ => rfl⟩)).mono ?_; rintro e W' ⟨rfl, hb'⟩; rw [Hc.out]; have hM' := hM.call hb'; clear hM hb'; have hM := hM'; clear hM'))
  go_at_call 92
  refine (stepsOf_any bw n c (by omega) hcn Hn2.out _).mono ?_
  rintro e W2 ⟨v0, rfl, hL⟩
  have LB : True := trivial
  rcases Nat.lt_or_ge 1 n with hn1 | hn1
  case inr =>
    obtain ⟨aa, ca, rfl, hbl⟩ := hL.zero (by omega)
    have hM' := hM.call hbl
    clear hM hbl hL
    have hM := hM'
    clear hM'
    have Hp : Hid (walkB g s n x y = true) := Lib.hid (walkB_yes Hlen.out Hat.out (fun k hk => absurd hk (by omega)))
    have e1 : n - 1 = 0 := by omega
    go_wp2
    refine wp_loop_rounds 1 ?_
    rw [rounds_succ]
    go_wp2
    go_ret
    exact ⟨ret_bool (by rw [Hv.out, Hp.out]), hM.below⟩
  obtain ⟨bA, cA, FA, rfl, hbA, hcA, hFA, hAA, hbl⟩ := hL.some (by omega)
  have hM' := hM.freshH hbl hAA hbA
  clear hM hAA hbl hL
  have hM := hM'
  clear hM'
  have HF := Lib.hid hFA
  clear hFA
  have hn1c : ((n - 1 : Nat) : Int) = (n : Int) - 1 := by omega
  go_wp2
  go_loopw [8, 36] (fun v i wr => ∃ q : Nat, q ≤ n - 1 ∧ i = .int .i64 q ∧ Hid (∀ j, j < q → joinB g (s j) (s (j + 1)) = true) ∧ Mem w [(bA, cA * 1, FA), (b3, 2, fun k => sp x y (0 + k)), (b2, 2, sp x y), (b1, 122, pas g), (bw, n * 2, sps s)] wr) (fun _ i _ => n - 1 - (intOf i).toNat)
  case atStart => exact ⟨0, by omega, rfl, Lib.hid (fun j hj => absurd hj (by omega)), hM⟩
  case round =>
    clear hM
    obtain ⟨q, hq, rfl, hjo, hM⟩ := hrel
    by_cases hlt : q < n - 1
    case neg =>
      obtain rfl : q = n - 1 := by omega
      have Hp : Hid (walkB g s n x y = true) := Lib.hid (walkB_yes Hlen.out Hat.out (fun k hk => hjo.out k (by omega)))
      go_wp2
      go_ret
      exact ⟨ret_bool (by rw [Hv.out, Hp.out]), hM.below⟩
    have l2 : (q : Int) < ((n - 1 : Nat) : Int) := by omega
    have l3 : decide ((q : Int) < ((n - 1 : Nat) : Int)) = true := decide_eq_true l2
    have eF : FA q = .slice (some ⟨bw, q * 2, none⟩) 2 2 := (HF.out q (by omega)).trans rfl
    have er : arr 2 (fun j => sps s (q * 2 + j)) = arr 2 (sp (s q).1 (s q).2) := arr_congr fun j hj => sps_row _ _ _ hj
    have er1 : arr 2 (fun j => sps s ((q + 1) * 2 + j)) = arr 2 (sp (s (q + 1)).1 (s (q + 1)).2) := arr_congr fun j hj => sps_row _ _ _ hj
    have eq1 : q * 2 + 2 = (q + 1) * 2 := by omega
    have hqe := neq_spot (s q).1 (s q).2 (s (q + 1)).1 (s (q + 1)).2
    have hiq : isB g (s q).1 (s q).2 = true := by
      have := Hat.out q (by omega)
      unfold okAt at this
      rw [Bool.and_eq_true] at this
      exact this.1
    have hbq := isB_bounds Hk.out hiq
    have Hx : Hid (0 ≤ (s q).1 ∧ (s q).1 ≤ 9) := Lib.hid (by omega)
    have Hy : Hid (0 ≤ (s q).2 ∧ (s q).2 ≤ 9) := Lib.hid (by omega)
    clear hiq hbq
    have hjq : joinB g (s q) (s (q + 1)) = (((s q).1 == (s (q + 1)).1) && ((s q).2 == (s (q + 1)).2) || stepB g (s q).1 (s q).2 (s (q + 1)).1 (s (q + 1)).2) := by
      unfold joinB
      rw [beq_swap (s (q + 1)).1, beq_swap (s (q + 1)).2]
    cases hs : (((s q).1 == (s (q + 1)).1) && ((s q).2 == (s (q + 1)).2))
    case true =>
      rw [hs] at hjq hqe
      have Hj : Hid (joinB g (s q) (s (q + 1)) = true) := Lib.hid (by rw [hjq]; rfl)
      clear hjq
      go_wp2_with (first | (refine wpList_get1 rfl _ _ rfl _ _ rfl hM 0 rfl spots_cell (by omega) _ eF ?_))
      ((try simp only [Act.put, List.setIfInBounds_toArray, List.set_cons_succ, List.set_cons_zero]); refine wp_region_mem (by kernel_rfl) (by kernel_rfl) hM ?_; clear hM; (repeat (first | go_big_quiet_skip | (go_big_quiet_want; first | (refine quiet_get _ _ rfl _ _ rfl 4 rfl (rowTab _ 2 rfl) (by omega) ?_; (simp only [er]); (simp only [Act.put, List.setIfInBounds_toArray, List.set_cons_succ, List.set_cons_zero]); go_big_quiet_on) | (refine quiet_get _ _ rfl _ _ rfl 4 rfl (rowTab _ 2 rfl) (by omega) ?_; ((try rw [eq1]); simp only [er1]); (simp only [Act.put, List.setIfInBounds_toArray, List.set_cons_succ, List.set_cons_zero]); go_big_quiet_on) | (refine quiet_val ?_; apply Exists.intro; refine ⟨fun W => ?_, ?_⟩; (go_simp; (try simp only [l2, l3, hqe, if_true, Bool.false_eq_true, if_false]); rfl); (simp only [Act.put, List.setIfInBounds_toArray, List.set_cons_succ, List.set_cons_zero]); go_big_quiet_on)))); (with_reducible refine wpQuiet_nil ?_); intro W' hM)
      go_wp2
      go_roundw
      case rel => exact ⟨q + 1, by omega, by go_num, Lib.hid (fun j hj => by
        by_cases e : j = q
        · rw [e]; exact Hj.out
        · exact hjo.out j (by omega)), hM⟩
      case measure => simp [intOf]; omega
    rw [hs] at hjq hqe
    cases hz : stepB g (s q).1 (s q).2 (s (q + 1)).1 (s (q + 1)).2
    all_goals
      rw [hz] at hjq
      have Hj := Lib.hid hjq
      clear hjq
      go_wp2_with (first | (refine wpList_get1 rfl _ _ rfl _ _ rfl hM 0 rfl spots_cell (by omega) _ eF ?_))
      ((try simp only [Act.put, List.setIfInBounds_toArray, List.set_cons_succ, List.set_cons_zero]); refine wp_region_mem (by kernel_rfl) (by kernel_rfl) hM ?_; clear hM; (repeat (first | go_big_quiet_skip | (go_big_quiet_want; first | (refine quiet_get _ _ rfl _ _ rfl 4 rfl (rowTab _ 2 rfl) (by omega) ?_; (simp only [er]); (simp only [Act.put, List.setIfInBounds_toArray, List.set_cons_succ, List.set_cons_zero]); go_big_quiet_on) | (refine quiet_get _ _ rfl _ _ rfl 4 rfl (rowTab _ 2 rfl) (by omega) ?_; ((try rw [eq1]); simp only [er1]); (simp only [Act.put, List.setIfInBounds_toArray, List.set_cons_succ, List.set_cons_zero]); go_big_quiet_on) | (refine quiet_get _ _ rfl _ _ rfl 3 rfl (rowTab _ _ rfl) (by omega) ?_; (simp only [Act.put, List.setIfInBounds_toArray, List.set_cons_succ, List.set_cons_zero]); go_big_quiet_on) | (refine quiet_call ?_; apply Exists.intro; apply Exists.intro; apply Exists.intro; refine ⟨fun W => ?_, fun W hM => ?_, ?_⟩; (go_simp; exact ⟨rfl, rfl⟩); (with_reducible exact canStep_any g hg Hk.out (s q).1 (s q).2 Hx.out Hy.out (s (q + 1)).1 (s (q + 1)).2 W); (simp only [hz]); (simp only [Act.put, List.setIfInBounds_toArray, List.set_cons_succ, List.set_cons_zero]); go_big_quiet_on) | (refine quiet_val ?_; apply Exists.intro; refine ⟨fun W => ?_, ?_⟩; (go_simp; (try simp only [l2, l3, hqe, if_true, Bool.false_eq_true, if_false]); rfl); (simp only [Act.put, List.setIfInBounds_toArray, List.set_cons_succ, List.set_cons_zero]); go_big_quiet_on)))); (with_reducible refine wpQuiet_nil ?_); intro W' hM)
      go_wp2
    · go_ret
      exact ⟨ret_bool (by rw [Hv.out, walkB_join (k := q) (by omega) (by rw [Hj.out]; rfl)]), hM.below⟩
    · go_roundw
      case rel => exact ⟨q + 1, by omega, by go_num, Lib.hid (fun j hj => by
        by_cases e : j = q
        · rw [e, Hj.out]; rfl
        · exact hjo.out j (by omega)), hM⟩
      case measure => simp [intOf]; omega
end Go.Proofs.YtbmaljhnldepoaaDoor

/-
  impl.WindsOf by contract.
-/
namespace Go.Proofs.YtbmaljhnldepoaaDoor
open Go Go.RowKit Go.BigFrame

theorem joins_of {g : Nat → Int} {s : Nat → Int × Int} {n : Nat} {x y : Int} (h : walkB g s n x y = true) : (1 ≤ (n : Int) ∧ (n : Int) ≤ 200) ∧ (∀ k, k < n → isB g (s k).1 (s k).2 = true) ∧ ∀ k, k + 1 < n → joinB g (s k) (s (k + 1)) = true := by
  unfold walkB at h
  rw [Bool.and_eq_true, Bool.and_eq_true] at h
  refine ⟨inB_true h.1.1, fun k hk => ?_, fun k hk => ?_⟩
  · have := List.all_eq_true.1 h.1.2 k (by simpa using hk)
    unfold okAt at this
    rw [Bool.and_eq_true] at this
    exact this.1
  · exact List.all_eq_true.1 h.2 k (by simp; omega)

set_option maxRecDepth 100000 in
set_option maxHeartbeats 4000000 in
theorem implWindsOf_any {a : Nat → Addr} (g : Nat → Int) (hg : Fits g) (bw n c : Nat) (x y : Int) (s : Nat → Int × Int) (hcn : n ≤ c) (hn : n ≤ 1048576) (w : World) (hB : At w bw (n * 2) (sps s)) (hE : Errs a w) :
    Calls Tryd.prog 46 #[.agg (arr 122 (pas g)), .agg (arr 2 (sp x y)), .slice (some ⟨bw, 0, none⟩) n c] w fun e w' => e = .returned (numR (windN g s n x y) (ropedC g s n x y 0)) ∧ Below w.heap.size w w' := by
  have hM : Mem w [(bw, n * 2, sps s)] w := (Mem.nil w).old hB (fun i p h => by simp at h)
  have HE := Lib.hid hE
  clear hB hE
  have e0 : inB 0 1000 0 = true := by decide
  have hR : ropedC g s n x y 0 = if askC g x y true = 0 then (if walkB g s n x y = true then 0 else 4) else askC g x y true := by unfold ropedC; rw [e0]
  have hW : windN g s n x y = if ropedC g s n x y 0 = 0 then sumW (dS x y) s (n - 1) else 0 := rfl
  rcases askC_cases g x y true with ⟨ho, hc⟩ | ⟨ho, hi, hc⟩ | ⟨ho, hi, -, hc⟩
  · rw [hc] at hR
    rw [hW, hR]
    have Ho : Hid (validB g = false) := Lib.hid (by rw [← okB_eq]; exact ho)
    clear ho hc hR hW
    have tk_b1 : True := trivial; have tk_b2 : True := trivial; have tk_b3 : True := trivial; have tk_q1 : True := trivial; have tk_q2 : True := trivial
    go_enter Tryd.func46, Tryd.ntmps46
    go_wp2_with (first | (have _t := tk_b1; refine wpList_box rfl _ _ rfl _ _ rfl hM ?_; intro b1 W' hb1 hM'; clear hM tk_b1; have hM := hM'; clear hM') | (have _t := tk_b2; refine wpList_box rfl _ _ rfl _ _ rfl hM ?_; intro b2 W' hb2 hM'; clear hM tk_b2; have hM := hM'; clear hM') | (have _t := tk_q1; (refine wpList_get rfl _ _ rfl _ _ rfl hM 1 rfl (rowTab _ _ rfl) (by omega) ?_); clear tk_q1) | (have _t := tk_q2; (refine wpList_get rfl _ _ rfl _ _ rfl hM 0 rfl (rowTab _ _ rfl) (by omega) ?_); clear tk_q2) | (have _t := tk_b3; refine wpList_slice1 rfl _ _ _ rfl _ _ rfl _ spot_under spot_info (by omega) (by omega) hM ?_; intro b3 W' hb3 hM'; clear hM tk_b3; have hM := hM'; clear hM') | (go_at_call 55; refine (checkCells_bad2 g hg _ _ (HE.out.two.below hM.below) Ho.out).mono ?_; rintro e W' ⟨rfl, hb'⟩; have hM' := hM.call hb'; clear hM hb'; have hM := hM'; clear hM') | (go_at_call 56; (with_reducible refine (codeOf_0 (HE.out.below hM.below)).mono ?_); rintro e W' ⟨rfl, rfl⟩))
    go_ret2
    exact ⟨ret_num rfl rfl, hM.below⟩
  · rw [hc] at hR
    rw [hW, hR]
    have Ho : Hid (validB g = true) := Lib.hid (by rw [← okB_eq]; exact ho)
    have Hi : Hid (chkS a g (fun _ => (x, y)) 1 = errV (a 1)) := Lib.hid (chkS_no (by rw [allB_one]; simpa using hi))
    clear ho hc hi hR hW
    have tk_b1 : True := trivial; have tk_b2 : True := trivial; have tk_b3 : True := trivial; have tk_q1 : True := trivial; have tk_q2 : True := trivial
    go_enter Tryd.func46, Tryd.ntmps46
    go_wp2_with (first | (have _t := tk_b1; refine wpList_box rfl _ _ rfl _ _ rfl hM ?_; intro b1 W' hb1 hM'; clear hM tk_b1; have hM := hM'; clear hM') | (have _t := tk_b2; refine wpList_box rfl _ _ rfl _ _ rfl hM ?_; intro b2 W' hb2 hM'; clear hM tk_b2; have hM := hM'; clear hM') | (have _t := tk_q1; (refine wpList_get rfl _ _ rfl _ _ rfl hM 1 rfl (rowTab _ _ rfl) (by omega) ?_); clear tk_q1) | (have _t := tk_q2; (refine wpList_get rfl _ _ rfl _ _ rfl hM 0 rfl (rowTab _ _ rfl) (by omega) ?_); clear tk_q2) | (have _t := tk_b3; refine wpList_slice1 rfl _ _ _ rfl _ _ rfl _ spot_under spot_info (by omega) (by omega) hM ?_; intro b3 W' hb3 hM'; clear hM tk_b3; have hM := hM'; clear hM') | (go_at_call 55; refine (checkCells_some2 g hg _ 1 1 2 (fun _ => (x, y)) (by omega) (by decide) _ ((hM.ats 0 _ _ _ rfl).congr (sp_sps0 _ _)) (HE.out.two.below hM.below) Ho.out).mono ?_; rintro e W' ⟨rfl, hb'⟩; rw [Hi.out]; have hM' := hM.call hb'; clear hM hb'; have hM := hM'; clear hM') | (go_at_call 56; (with_reducible refine (codeOf_1 (HE.out.below hM.below)).mono ?_); rintro e W' ⟨rfl, rfl⟩))
    go_ret2
    exact ⟨ret_num rfl rfl, hM.below⟩
  rw [hc] at hR
  have hb := isB_bounds ho hi
  have Hk := Lib.hid ho
  have Ho : Hid (validB g = true) := Lib.hid (by rw [← okB_eq]; exact ho)
  have Hi : Hid (chkS a g (fun _ => (x, y)) 1 = .nilIface) := Lib.hid (chkS_yes (by rw [allB_one]; simpa using hi))
  have hv := validW_4 (s := s) (n := n) ho hi
  have Hx : Hid (0 ≤ x ∧ x ≤ 9) := Lib.hid (by omega)
  have Hy : Hid (0 ≤ y ∧ y ≤ 9) := Lib.hid (by omega)
  clear ho hc hi hb
  cases hw : walkB g s n x y
  · rw [hw] at hR hv
    rw [hW, hR]
    have Hv := Lib.hid hv
    clear hW hR hw hv
    have tk_b1 : True := trivial; have tk_b2 : True := trivial; have tk_b3 : True := trivial; have tk_q1 : True := trivial; have tk_q2 : True := trivial; have tk_q3 : True := trivial; have tk_q4 : True := trivial
    go_enter Tryd.func46, Tryd.ntmps46
    go_wp2_with (first | (have _t := tk_b1; refine wpList_box rfl _ _ rfl _ _ rfl hM ?_; intro b1 W' hb1 hM'; clear hM tk_b1; have hM := hM'; clear hM') | (have _t := tk_b2; refine wpList_box rfl _ _ rfl _ _ rfl hM ?_; intro b2 W' hb2 hM'; clear hM tk_b2; have hM := hM'; clear hM') | (have _t := tk_q1; (refine wpList_get rfl _ _ rfl _ _ rfl hM 1 rfl (rowTab _ _ rfl) (by omega) ?_); clear tk_q1) | (have _t := tk_q2; (refine wpList_get rfl _ _ rfl _ _ rfl hM 0 rfl (rowTab _ _ rfl) (by omega) ?_); clear tk_q2) | (have _t := tk_b3; refine wpList_slice1 rfl _ _ _ rfl _ _ rfl _ spot_under spot_info (by omega) (by omega) hM ?_; intro b3 W' hb3 hM'; clear hM tk_b3; have hM := hM'; clear hM') | (go_at_call 55; refine (checkCells_some2 g hg _ 1 1 2 (fun _ => (x, y)) (by omega) (by decide) _ ((hM.ats 0 _ _ _ rfl).congr (sp_sps0 _ _)) (HE.out.two.below hM.below) Ho.out).mono ?_; rintro e W' ⟨rfl, hb'⟩; rw [Hi.out]; have hM' := hM.call hb'; clear hM hb'; have hM := hM'; clear hM') | (have _t := tk_q3; (refine wpList_get rfl _ _ rfl _ _ rfl hM 2 rfl (rowTab _ _ rfl) (by omega) ?_); clear tk_q3) | (have _t := tk_q4; (refine wpList_get rfl _ _ rfl _ _ rfl hM 1 rfl (rowTab _ _ rfl) (by omega) ?_); clear tk_q4) | (go_at_call 44; refine (implValidWalk_any g hg bw n c x y s hcn hn _ (hM.ats 3 _ _ _ rfl) (HE.out.two.below hM.below)).mono ?_; rintro e W' ⟨rfl, hb'⟩; rw [Hv.out]; have hM' := hM.call hb'; clear hM hb'; have hM := hM'; clear hM'))
    go_ret2
    exact ⟨ret_num rfl rfl, hM.below⟩
  rw [hw] at hR hv
  rw [hW, hR]
  have Hv := Lib.hid hv
  obtain ⟨hl, hat, hjo⟩ := joins_of hw
  have Hat := Lib.hid hat
  have hse : ∀ m, m ≤ n - 1 → sumW (dI x y) s m = sumW (dS x y) s m := fun m hm => sumW_eq m (fun k hk => dS_dI (hjo k (by omega)))
  have Hse := Lib.hid hse
  clear hW hR hw hv hat hjo hse
  have tk_b1 : True := trivial; have tk_b2 : True := trivial; have tk_b3 : True := trivial; have tk_q1 : True := trivial; have tk_q2 : True := trivial; have tk_q3 : True := trivial; have tk_q4 : True := trivial
  go_enter Tryd.func46, Tryd.ntmps46
  go_wp2_with (first | (have _t := tk_b1; refine wpList_box rfl _ _ rfl _ _ rfl hM ?_; intro b1 W' hb1 hM'; clear hM tk_b1; have hM := hM'; clear hM') | (have _t := tk_b2; refine wpList_box rfl _ _ rfl _ _ rfl hM ?_; intro b2 W' hb2 hM'; clear hM tk_b2; have hM := hM'; clear hM') | (have _t := tk_q1; (refine wpList_get rfl _ _ rfl _ _ rfl hM 1 rfl (rowTab _ _ rfl) (by omega) ?_); clear tk_q1) | (have _t := tk_q2; (refine wpList_get rfl _ _ rfl _ _ rfl hM 0 rfl (rowTab _ _ rfl) (by omega) ?_); clear tk_q2) | (have _t := tk_b3; refine wpList_slice1 rfl _ _ _ rfl _ _ rfl _ spot_under spot_info (by omega) (by omega) hM ?_; intro b3 W' hb3 hM'; clear hM tk_b3; have hM := hM'; clear hM') | (go_at_call 55; refine (checkCells_some2 g hg _ 1 1 2 (fun _ => (x, y)) (by omega) (by decide) _ ((hM.ats 0 _ _ _ rfl).congr (sp_sps0 _ _)) (HE.out.two.below hM.below) Ho.out).mono ?_; rintro e W' ⟨rfl, hb'⟩; rw [Hi.out]; have hM' := hM.call hb'; clear hM hb'; have hM := hM'; clear hM') | (have _t := tk_q3; (refine wpList_get rfl _ _ rfl _ _ rfl hM 2 rfl (rowTab _ _ rfl) (by omega) ?_); clear tk_q3) | (have _t := tk_q4; (refine wpList_get rfl _ _ rfl _ _ rfl hM 1 rfl (rowTab _ _ rfl) (by omega) ?_); clear tk_q4) | (go_at_call 44; refine (implValidWalk_any g hg bw n c x y s hcn hn _ (hM.ats 3 _ _ _ rfl) (HE.out.two.below hM.below)).mono ?_; rintro e W' ⟨rfl, hb'⟩; rw [Hv.out]; have hM' := hM.call hb'; clear hM hb'; have hM := hM'; clear hM'))
  go_at_call 92
  refine (stepsOf_any bw n c (by omega) hcn hn _).mono ?_
  rintro e W2 ⟨v0, rfl, hL⟩
  rcases Nat.lt_or_ge 1 n with hn1 | hn1
  case inr =>
    obtain ⟨aa, ca, rfl, hbl⟩ := hL.zero (by omega)
    have hM' := hM.call hbl
    clear hM hbl hL
    have hM := hM'
    clear hM'
    have e1 : n - 1 = 0 := by omega
    go_wp2
    refine wp_loop_rounds 1 ?_
    rw [rounds_succ]
    go_wp2
    go_ret2
    exact ⟨ret_num rfl rfl, hM.below⟩
  obtain ⟨bA, cA, FA, rfl, hbA, hcA, hFA, hAA, hbl⟩ := hL.some (by omega)
  have hM' := hM.freshH hbl hAA hbA
  clear hM hAA hbl hL
  have hM := hM'
  clear hM'
  have HF := Lib.hid hFA
  clear hFA
  go_wp2
  go_loopw [9, 11, 28] (fun v u i wr => ∃ q : Nat, q ≤ n - 1 ∧ i = .int .i64 q ∧ v = .int .i64 (sumW (dI x y) s q) ∧ Mem w [(bA, cA * 1, FA), (b3, 2, fun k => sp x y (0 + k)), (b2, 2, sp x y), (b1, 122, pas g), (bw, n * 2, sps s)] wr) (fun _ _ i _ => n - 1 - (intOf i).toNat)
  case atStart => exact ⟨0, by omega, rfl, rfl, hM⟩
  case round =>
    clear hM
    obtain ⟨q, hq, rfl, rfl, hM⟩ := hrel
    by_cases hlt : q < n - 1
    case neg =>
      obtain rfl : q = n - 1 := by omega
      go_wp2
      go_ret2
      exact ⟨ret_num (Hse.out _ (Nat.le_refl _)) rfl, hM.below⟩
    have l2 : (q : Int) < ((n - 1 : Nat) : Int) := by omega
    have l3 : decide ((q : Int) < ((n - 1 : Nat) : Int)) = true := decide_eq_true l2
    have eF : FA q = .slice (some ⟨bw, q * 2, none⟩) 2 2 := (HF.out q (by omega)).trans rfl
    have er : arr 2 (fun j => sps s (q * 2 + j)) = arr 2 (sp (s q).1 (s q).2) := arr_congr fun j hj => sps_row _ _ _ hj
    have er1 : arr 2 (fun j => sps s ((q + 1) * 2 + j)) = arr 2 (sp (s (q + 1)).1 (s (q + 1)).2) := arr_congr fun j hj => sps_row _ _ _ hj
    have eq1 : q * 2 + 2 = (q + 1) * 2 := by omega
    have hbq := isB_bounds Hk.out (Hat.out q (by omega))
    have Hx1 : Hid (0 ≤ (s q).1 ∧ (s q).1 ≤ 9) := Lib.hid (by omega)
    have Hy1 : Hid (0 ≤ (s q).2 ∧ (s q).2 ≤ 9) := Lib.hid (by omega)
    have hsm := sumW_small x y s (q + 1)
    rw [← Hse.out (q + 1) (by omega)] at hsm
    have hsu : sumW (dI x y) s (q + 1) = sumW (dI x y) s q + dI x y (s q) (s (q + 1)) := rfl
    have wp : IntKind.i64.wrap (sumW (dI x y) s q + dI x y (s q) (s (q + 1))) = sumW (dI x y) s q + dI x y (s q) (s (q + 1)) := IntWalk.i64_in _ (by rw [← hsu]; omega)
    have Hsu := Lib.hid hsu
    clear hbq hsm hsu
    go_wp2_with (first | (refine wpList_get1 rfl _ _ rfl _ _ rfl hM 0 rfl spots_cell (by omega) _ eF ?_))
    ((try simp only [Act.put, List.setIfInBounds_toArray, List.set_cons_succ, List.set_cons_zero]); refine wp_region_mem (by kernel_rfl) (by kernel_rfl) hM ?_; clear hM; (repeat (first | go_big_quiet_skip | (go_big_quiet_want; first | (refine quiet_get _ _ rfl _ _ rfl 2 rfl (rowTab _ _ rfl) (by omega) ?_; (simp only [Act.put, List.setIfInBounds_toArray, List.set_cons_succ, List.set_cons_zero]); go_big_quiet_on) | (refine quiet_get _ _ rfl _ _ rfl 4 rfl (rowTab _ 2 rfl) (by omega) ?_; (simp only [er]); (simp only [Act.put, List.setIfInBounds_toArray, List.set_cons_succ, List.set_cons_zero]); go_big_quiet_on) | (refine quiet_get _ _ rfl _ _ rfl 4 rfl (rowTab _ 2 rfl) (by omega) ?_; ((try rw [eq1]); simp only [er1]); (simp only [Act.put, List.setIfInBounds_toArray, List.set_cons_succ, List.set_cons_zero]); go_big_quiet_on) | (refine quiet_call ?_; apply Exists.intro; apply Exists.intro; apply Exists.intro; refine ⟨fun W => ?_, fun W hM => ?_, ?_⟩; (go_simp; exact ⟨rfl, rfl⟩); (with_reducible exact windOf_any x y Hx.out Hy.out (s q) (s (q + 1)) Hx1.out Hy1.out W); (simp only [Act.put, List.setIfInBounds_toArray, List.set_cons_succ, List.set_cons_zero]); go_big_quiet_on) | (refine quiet_val ?_; apply Exists.intro; refine ⟨fun W => ?_, ?_⟩; (go_simp; (try simp only [l2, l3, wp, if_true, Bool.false_eq_true, if_false]); rfl); (simp only [Act.put, List.setIfInBounds_toArray, List.set_cons_succ, List.set_cons_zero]); go_big_quiet_on)))); (with_reducible refine wpQuiet_nil ?_); intro W' hM)
    go_wp2
    go_roundw
    case rel => exact ⟨q + 1, by omega, by go_num, by rw [Hsu.out], hM⟩
    case measure => simp [intOf]; omega
end Go.Proofs.YtbmaljhnldepoaaDoor

/-
  PLAIN LAW: a region that draws its order: its first m operations read or make quiet calls; then comes one call of any kind; the others are quiet again, over another class of worlds.
-/
namespace Go.Proofs.YtbmaljhnldepoaaDoor
open Go
variable {P : Program} {ops : Array Oper} {C : World → Prop}

def tailsB (ops : Array Oper) (n : Nat) : Bool := (List.range ops.size).all fun t => decide (t ≤ n) || (List.range ops.size).any fun u => decide (n ≤ u) && Region.waitsFor .any ops t u

/-- While one of the first n is open, number n waits. -/
theorem waits_n {n : Nat} {s : Array Bool} (hs : Region.sinkB .any ops n = true) (hn : n < ops.size) (inv : HeadInv .any ops n s) (i : Nat) (hi : i < n) (ho : s.getD i true = false) (hr : n ∈ Region.ready .any ops s) : False := by
  obtain ⟨j, hj, hw⟩ := List.any_eq_true.1 (List.all_eq_true.1 hs i (List.mem_range.2 hi))
  rw [Bool.and_eq_true] at hw
  have hij : i < j := of_decide_eq_true hw.1
  have hjn : j < n + 1 := List.mem_range.1 hj
  obtain ⟨o, hoj, d, hd, hb, hon⟩ := Region.waitsFor_spec hw.2
  have no : s.getD d.on false = true → False := fun h => by
    rw [hon, getD_both ho] at h
    cases h
  rcases Nat.lt_or_ge j n with h | h
  · refine waits_n hs hn inv j h ?_ hr
    cases hl : s.getD j false with
    | true => exact (no (inv.closed j o hoj hl d hd hb)).elim
    | false => exact getD_in (by rw [inv.size]; omega) hl
  · obtain rfl : j = n := by omega
    obtain ⟨-, o', ho', ha⟩ := mem_ready.1 hr
    rw [hoj] at ho'
    cases ho'
    exact no (ha d hd hb)
termination_by n - i
/-- What lies behind number n waits for it or for what lies behind it. -/
theorem waits_tail {n : Nat} {s : Array Bool} (hc : tailsB ops n = true) (inv : HeadInv .any ops n s) {t : Nat} (ht : n < t) (hr : t ∈ Region.ready .any ops s) : False := by
  obtain ⟨-, o, ho, ha⟩ := mem_ready.1 hr
  have h1 := List.all_eq_true.1 hc t (List.mem_range.2 (Array.getElem?_eq_some_iff.1 ho).1)
  rw [Bool.or_eq_true] at h1
  rcases h1 with h1 | h1
  · have := of_decide_eq_true h1
    omega
  · obtain ⟨u, hu, h2⟩ := List.any_eq_true.1 h1
    rw [Bool.and_eq_true] at h2
    obtain ⟨o', ho', d, hd, hb, hon⟩ := Region.waitsFor_spec h2.2
    rw [ho] at ho'
    cases ho'
    have h3 := ha d hd hb
    rw [hon, getD_both (inv.tail u (of_decide_eq_true h2.1) (List.mem_range.1 hu))] at h3
    cases h3

theorem below_of_openT {n i j : Nat} {s : Array Bool} (hs : Region.sinkB .any ops n = true) (hc : tailsB ops n = true) (hn : n < ops.size) (inv : HeadInv .any ops n s) (hin : i < n)
    (hi : i ∈ Region.ready .any ops s) (hj : j ∈ Region.ready .any ops s) : j < n := by
  rcases Nat.lt_trichotomy j n with h | rfl | h
  · exact h
  · exact (waits_n hs hn inv i hin (mem_ready.1 hi).1 hj).elim
  · exact (waits_tail hc inv h hj).elim

theorem headQ_firstT {n i : Nat} {oi : Oper} {v : Value} {T : Array Bool → Act → Prop} (hoi : ops[i]? = some oi) (hsel : ∀ (j : Nat) (o : Oper) cs b, ops[j]? = some o → o.op ≠ .select cs b)
    (hs : Region.sinkB .any ops n = true) (hc : tailsB ops n = true) (hn : n < ops.size) (hin : i < n) (hT : ∀ s a, T s a → ∀ j ∈ Region.ready .any ops s, n ≤ j) (f : Nat) :
    ∀ s a, HeadInv .any ops n s →
      (∀ j oj, ops[j]? = some oj → j ≠ i → s.getD j true = false → (∀ e ∈ oj.after, Region.binds .any e = true → e.on ≠ i) → oi.apart ops oj = true) →
      i ∈ Region.ready .any ops s → YieldsIn P ops C oi v a → headQ P ops C n T f (s.setIfInBounds i true) (a.put oi.dst v) → headQ P ops C n T (f + 1) s a := by
  induction f with
  | zero =>
    intro s a inv _ hr hy H
    refine ⟨List.ne_nil_of_mem hr, fun j hj => ⟨below_of_openT hs hc hn inv hin hr hj, ?_⟩⟩
    by_cases e : j = i
    · subst e; exact hy.qOp hoi H
    · exact absurd (hT _ _ H j (ready_mono hj e)) (by have := below_of_openT hs hc hn inv hin hr hj; omega)
  | succ f ih =>
    intro s a inv hfree hr hy H
    refine ⟨List.ne_nil_of_mem hr, fun j hj => ?_⟩
    have hjn := below_of_openT hs hc hn inv hin hr hj
    refine ⟨hjn, ?_⟩
    by_cases e : j = i
    · subst e; exact hy.qOp hoi H
    obtain ⟨hju, oj, hoj, hdone⟩ := mem_ready.1 hj
    have hfj := hfree j oj hoj e hju fun d hd hb he => by
      have h1 := hdone d hd hb
      rw [he, getD_both (mem_ready.1 hr).1] at h1
      cases h1
    have step := qOp_put hoj hfj (fun cs b => hsel i oi cs b hoi) (fun cs b => hsel j oj cs b hoj) hy (H.2 j (ready_mono hj e)).2
    refine qOp_mono (fun a' h' => ih _ a' (inv.set hj hjn) (fun k ok hk hki hku hno => hfree k ok hk hki ?_ hno) (ready_mono hr (Ne.symm e)) h'.1 ?_) step
    · by_cases ejk : j = k
      · subst ejk; exact hju
      · rwa [getD_set_ne true ejk] at hku
    · rw [Array.setIfInBounds_comm _ _ e]; exact h'.2

/-- The same with all that is left as the head. -/
theorem headQ_firstA {i : Nat} {oi : Oper} {v : Value} {T : Array Bool → Act → Prop} (hoi : ops[i]? = some oi) (hsel : ∀ (j : Nat) (o : Oper) cs b, ops[j]? = some o → o.op ≠ .select cs b)
    (hT : ∀ s a, T s a → Region.ready .any ops s = []) (f : Nat) :
    ∀ s a, (∀ j oj, ops[j]? = some oj → j ≠ i → s.getD j true = false → (∀ e ∈ oj.after, Region.binds .any e = true → e.on ≠ i) → oi.apart ops oj = true) →
      i ∈ Region.ready .any ops s → YieldsIn P ops C oi v a → headQ P ops C ops.size T f (s.setIfInBounds i true) (a.put oi.dst v) → headQ P ops C ops.size T (f + 1) s a := by
  have lt : ∀ {j : Nat} {s : Array Bool}, j ∈ Region.ready .any ops s → j < ops.size := fun h => by
    obtain ⟨-, o, ho, -⟩ := mem_ready.1 h
    exact (Array.getElem?_eq_some_iff.1 ho).1
  induction f with
  | zero =>
    intro s a _ hr hy H
    refine ⟨List.ne_nil_of_mem hr, fun j hj => ⟨lt hj, ?_⟩⟩
    by_cases e : j = i
    · subst e; exact hy.qOp hoi H
    · have := ready_mono hj e
      rw [hT _ _ H] at this
      cases this
  | succ f ih =>
    intro s a hfree hr hy H
    refine ⟨List.ne_nil_of_mem hr, fun j hj => ⟨lt hj, ?_⟩⟩
    by_cases e : j = i
    · subst e; exact hy.qOp hoi H
    obtain ⟨hju, oj, hoj, hdone⟩ := mem_ready.1 hj
    have hfj := hfree j oj hoj e hju fun d hd hb he => by
      have h1 := hdone d hd hb
      rw [he, getD_both (mem_ready.1 hr).1] at h1
      cases h1
    have step := qOp_put hoj hfj (fun cs b => hsel i oi cs b hoi) (fun cs b => hsel j oj cs b hoj) hy (H.2 j (ready_mono hj e)).2
    refine qOp_mono (fun a' h' => ih _ a' (fun k ok hk hki hku hno => hfree k ok hk hki ?_ hno) (ready_mono hr (Ne.symm e)) h'.1 ?_) step
    · by_cases ejk : j = k
      · subst ejk; exact hju
      · rwa [getD_set_ne true ejk] at hku
    · rw [Array.setIfInBounds_comm _ _ e]; exact h'.2

def lexHeadS (ops : Array Oper) (s0 : Array Bool) : Nat → Nat → Array Bool → Bool
  | 0, _, s => decide (s = s0)
  | f + 1, k, s => (Region.ready .any ops s).contains k && Region.free .any ops s k && lexHeadS ops s0 f (k + 1) (s.setIfInBounds k true)

theorem headQ_lexS {n : Nat} {s0 : Array Bool} {R : Act → Prop} (hsel : Region.noSelect ops = true) (hs : Region.sinkB .any ops n = true) (hc : tailsB ops n = true) (hn : n < ops.size) (h0 : Region.ready .any ops s0 = [n]) (l : List Oper) :
    ∀ (k : Nat) (s : Array Bool) (a : Act), (∀ j, j < l.length → l[j]? = ops[k + j]?) → k + l.length = n → HeadInv .any ops n s → lexHeadS ops s0 l.length k s = true →
      wpQuiet P ops C R l a → headQ P ops C n (fun s' a' => s' = s0 ∧ R a') l.length s a := by
  induction l with
  | nil =>
    intro k s a _ hk _ hB h
    exact ⟨by simpa [lexHeadS] using hB, h⟩
  | cons o l ih =>
    intro k s a hl hk inv hB h
    have h1 : ops[k]? = some o := by simpa using (hl 0 (by simp)).symm
    simp only [List.length_cons, lexHeadS, Bool.and_eq_true] at hB hk
    have hr : k ∈ Region.ready .any ops s := by simpa using hB.1.1
    have hq : qOp P ops C k (wpQuiet P ops C R l) a := by unfold qOp; simp only [h1]; exact h
    obtain ⟨v, hy, hK⟩ := yieldsIn_of_qOp h1 hq
    refine headQ_firstT h1 (Region.noSelect_spec hsel) hs hc hn (by omega) (fun s' a' h' j hj => by rw [h'.1, h0] at hj; simp at hj; omega) l.length s a inv (Region.free_spec h1 hB.1.2) hr hy ?_
    refine ih (k + 1) _ _ (fun j hj => ?_) (by omega) (inv.set hr (by omega)) hB.2 hK
    have := hl (j + 1) (by simp; omega)
    simpa [Nat.add_assoc, Nat.add_comm 1 j] using this

theorem headQ_lexA {R : Act → Prop} (hsel : Region.noSelect ops = true) (l : List Oper) :
    ∀ (k : Nat) (s : Array Bool) (a : Act), (∀ j, j < l.length → l[j]? = ops[k + j]?) → Region.lexHead .any ops 0 l.length k s = true →
      wpQuiet P ops C R l a → headQ P ops C ops.size (fun s' a' => Region.ready .any ops s' = [] ∧ R a') l.length s a := by
  induction l with
  | nil =>
    intro k s a _ hB h
    exact ⟨by simpa [Region.lexHead, Region.seqB] using hB, h⟩
  | cons o l ih =>
    intro k s a hl hB h
    have h1 : ops[k]? = some o := by simpa using (hl 0 (by simp)).symm
    simp only [List.length_cons, Region.lexHead, Bool.and_eq_true] at hB
    have hr : k ∈ Region.ready .any ops s := by simpa using hB.1.1
    have hq : qOp P ops C k (wpQuiet P ops C R l) a := by unfold qOp; simp only [h1]; exact h
    obtain ⟨v, hy, hK⟩ := yieldsIn_of_qOp h1 hq
    refine headQ_firstA h1 (Region.noSelect_spec hsel) (fun s' a' h' => h'.1) l.length s a (Region.free_spec h1 hB.1.2) hr hy ?_
    refine ih (k + 1) _ _ (fun j hj => ?_) hB.2 hK
    have := hl (j + 1) (by simp; omega)
    simpa [Nat.add_assoc, Nat.add_comm 1 j] using this

/-- The first n are listed. -/
def heads (m n : Nat) : Array Bool := (List.range n).foldl (fun s i => s.setIfInBounds i true) (Array.replicate m false)
def callB (ops : Array Oper) (n : Nat) : Bool :=
  Region.noSelect ops && decide (n < ops.size) && Region.sinkB .any ops n && tailsB ops n && lexHeadS ops (heads ops.size n) n 0 (Array.replicate ops.size false) && decide (Region.ready .any ops (heads ops.size n) = [n]) &&
    Region.lexHead .any ops 0 (ops.size - (n + 1)) (n + 1) ((heads ops.size n).setIfInBounds n true)

/-- What is left behind the call: quiet over a class of worlds. -/
def ThenQuiet (P : Program) (ops : Array Oper) (Q : Exit → Act → World → Prop) (rest : List Oper) (a : Act) (w : World) : Prop := ∃ C2 : World → Prop, C2 w ∧ wpQuiet P ops C2 (fun a3 => ∀ w3, C2 w3 → Q .normal a3 w3) rest a

theorem any_call {Q : Exit → Act → World → Prop} {a : Act} {w : World} {l : List Oper} (n : Nat) {on : Oper} (hon : l[n]? = some on) (hgd : on.guard = none) (hB : callB l.toArray n = true) (hC : C w)
    (h : wpQuiet P l.toArray C (fun a' => ∀ w', C w' → on.wp P a' w' (ThenQuiet P l.toArray Q (l.drop (n + 1))) Q) (l.take n) a) : wpAny P .any l.toArray Q l.toArray.size (Array.replicate l.toArray.size false) a w := by
  simp only [callB, Bool.and_eq_true, decide_eq_true_eq] at hB
  obtain ⟨⟨⟨⟨⟨⟨b1, b2⟩, b3⟩, b4⟩, b5⟩, b6⟩, b7⟩ := hB
  have e0 : l.toArray.size = l.length := by simp
  have e1 : (l.take n).length = n := by rw [List.length_take]; omega
  have e2 : (l.drop (n + 1)).length = l.toArray.size - (n + 1) := by rw [List.length_drop, e0]
  have inv : HeadInv .any l.toArray n (Array.replicate l.toArray.size false) :=
    { size := by simp
      closed := fun j oj _ hl => by rw [getD_replicate_false] at hl; cases hl
      tail := fun t _ ht => getD_in (by simpa using ht) (getD_replicate_false _ _) }
  have H := headQ_lexS (P := P) (C := C) (s0 := heads l.toArray.size n) b1 b3 b4 b2 b6 (l.take n) 0 _ a (fun j hj => by rw [e1] at hj; simp [hj]) (by rw [e1]; omega) inv (by rw [e1]; exact b5) h
  have K := any_of_headQ (Q := Q) (g := (l.drop (n + 1)).length + 1) (fun s a' w' hw' ht => by
    obtain ⟨rfl, hq⟩ := ht
    refine ⟨fun h0 => (by rw [b6] at h0; cases h0), fun i hi => ?_⟩
    rw [b6] at hi
    obtain rfl : i = n := by simpa using hi
    unfold wpOp
    have ho : l.toArray[i]? = some on := by simpa using hon
    rw [ho]
    have hw : Region.wanted on (yielded l.toArray a'.tmps) = true := by simp [Region.wanted, hgd]
    simp only [hw, if_true]
    refine .inl (Oper.wp_mono (fun a2 w2 hh => ?_) (hq w' hw'))
    obtain ⟨C2, hc2, h2⟩ := hh
    have H2 := headQ_lexA (P := P) (C := C2) b1 (l.drop (i + 1)) (i + 1) _ a2 (fun j _ => by simp [List.getElem?_drop]) (by rw [e2]; exact b7) h2
    have := any_of_headQ (Q := Q) (g := 0) (fun s3 a3 w3 hw3 ht3 => ⟨ht3.1, ht3.2 w3 hw3⟩) _ _ _ w2 hc2 H2
    simpa using this) _ _ _ w hC H
  rwa [e1, e2, show n + (l.toArray.size - (n + 1) + 1) = l.toArray.size by omega] at K

/-- The region, over the memory of a call. -/
theorem region_call_mem {Q : Exit → Act → World → Prop} {a : Act} {w : Base} {W : World} {L : Blocks} {id : Nat} {l : List Oper} (m : Nat) {on : Oper} (hon : l[m]? = some on) (hgd : on.guard = none) (hm : P.follows .mixedOrders = true) (hB : callB l.toArray m = true) (hM : Mem w L W)
    (h : wpQuiet P l.toArray (Mem w L) (fun a' => ∀ W', Mem w L W' → on.wp P a' W' (ThenQuiet P l.toArray Q (l.drop (m + 1))) Q) (l.take m) a) : (Code.region id l.toArray true).wp P Q a W :=
  wp_region_any hm (any_call (C := Mem w L) m hon hgd hB hM.drew h)
end Go.Proofs.YtbmaljhnldepoaaDoor

