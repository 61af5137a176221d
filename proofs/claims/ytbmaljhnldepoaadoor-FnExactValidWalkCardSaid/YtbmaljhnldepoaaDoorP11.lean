/-
  Several texts in one: WalkV, WalkI, ValidWalk.
-/
import Derived.Test.YtbmaljhnldepoaaDoorP10
import Derived.Test.YtbmaljhnldepoaaDoorP3
import Derived.Test.YtbmaljhnldepoaaDoorP5
import Derived.Test.YtbmaljhnldepoaaDoorP4
import Derived.Test.YtbmaljhnldepoaaDoorP9
/-
  spec.ValidWalk and impl.ValidWalk by contracts.
-/
namespace Go.Proofs.YtbmaljhnldepoaaDoor
open Go Go.RowKit Go.BigFrame

def validW (g : Nat → Int) (s : Nat → Int × Int) (n : Nat) (x y : Int) : Bool := okB g && isB g x y && walkB g s n x y
theorem validW_1 {g : Nat → Int} {s : Nat → Int × Int} {n : Nat} {x y : Int} (h : okB g = false) : validW g s n x y = false := by simp [validW, h]
theorem validW_2 {g : Nat → Int} {s : Nat → Int × Int} {n : Nat} {x y : Int} (h : isB g x y = false) : validW g s n x y = false := by simp [validW, h]
theorem validW_3 {g : Nat → Int} {s : Nat → Int × Int} {n : Nat} {x y : Int} (h : walkB g s n x y = false) : validW g s n x y = false := by simp [validW, h]
theorem validW_4 {g : Nat → Int} {s : Nat → Int × Int} {n : Nat} {x y : Int} (h : okB g = true) (h2 : isB g x y = true) : validW g s n x y = walkB g s n x y := by simp [validW, h, h2]
theorem walkB_all {g : Nat → Int} {s : Nat → Int × Int} {n : Nat} {x y : Int} (h : allB g s n = false) : walkB g s n x y = false := by
  unfold allB at h
  rw [List.all_eq_false] at h
  obtain ⟨k, hk, h⟩ := h
  exact walkB_at (by simpa using hk) (by unfold okAt; rw [Bool.not_eq_true] at h; rw [h]; rfl)
theorem walkB_has {g : Nat → Int} {s : Nat → Int × Int} {n : Nat} {x y : Int} (h : hasS s n x y = true) : walkB g s n x y = false := by
  unfold hasS at h
  rw [List.any_eq_true] at h
  obtain ⟨k, hk, h⟩ := h
  refine walkB_at (by simpa using hk) ?_
  unfold okAt
  rw [beq_swap (s k).1, beq_swap (s k).2, h]
  simp
theorem okAt_of {g : Nat → Int} {s : Nat → Int × Int} {n : Nat} {x y : Int} (h : allB g s n = true) (h2 : hasS s n x y = false) : ∀ k, k < n → okAt g s x y k = true := fun k hk => by
  unfold allB at h
  unfold hasS at h2
  rw [List.all_eq_true] at h
  rw [List.any_eq_false] at h2
  have h1 := h k (by simpa using hk)
  have h3 := h2 k (by simpa using hk)
  unfold okAt
  rw [beq_swap (s k).1, beq_swap (s k).2]
  rw [Bool.not_eq_true] at h3
  rw [h1, h3]
  rfl

set_option maxRecDepth 100000 in
set_option maxHeartbeats 2000000 in
theorem specValidWalk_any (g : Nat → Int) (hg : Fits g) (bw n c : Nat) (x y : Int) (hx : -128 ≤ x ∧ x ≤ 127) (hy : -128 ≤ y ∧ y ≤ 127) (s : Nat → Int × Int) (hn : n ≤ 1048576) (hS : ∀ i, i < n → FitsS (s i)) (w : World) (hB : At w bw (n * 2) (sps s)) :
    Calls Tryd.prog 43 #[.agg (arr 122 (pas g)), .agg (arr 2 (sp x y)), .slice (some ⟨bw, 0, none⟩) n c] w fun e w' => e = .returned (.bool (validW g s n x y)) ∧ Below w.heap.size w w' := by
  have hM : Mem w [(bw, n * 2, sps s)] w := (Mem.nil w).old hB (fun i p h => by simp at h)
  clear hB
  cases ho : okB g
  · have Ho := Lib.hid ho
    have Hp := Lib.hid (validW_1 (s := s) (n := n) (x := x) (y := y) ho)
    clear ho
    have tk_b1 : True := trivial; have tk_b2 : True := trivial
    go_enter Tryd.func43, Tryd.ntmps43
    go_wp2_with (first | (have _t := tk_b1; refine wpList_box rfl _ _ rfl _ _ rfl hM ?_; intro b1 W' hb1 hM'; clear hM tk_b1; have hM := hM'; clear hM') | (have _t := tk_b2; refine wpList_box rfl _ _ rfl _ _ rfl hM ?_; intro b2 W' hb2 hM'; clear hM tk_b2; have hM := hM'; clear hM') | (go_at_call 59; (with_reducible refine (l01Ok_any g hg _ _ (hM.ats 1 _ _ _ rfl)).mono ?_); rintro e W' ⟨rfl, hb'⟩; rw [Ho.out]; have hM' := hM.call hb'; clear hM hb'; have hM := hM'; clear hM'))
    go_ret
    exact ⟨ret_bool Hp.out.symm, hM.below⟩
  cases hi : isB g x y
  · have Ho := Lib.hid ho
    have Hi := Lib.hid hi
    have Hp := Lib.hid (validW_2 (s := s) (n := n) (x := x) (y := y) hi)
    clear ho hi
    have tk_b1 : True := trivial; have tk_b2 : True := trivial; have tk_q1 : True := trivial
    go_enter Tryd.func43, Tryd.ntmps43
    go_wp2_with (first | (have _t := tk_b1; refine wpList_box rfl _ _ rfl _ _ rfl hM ?_; intro b1 W' hb1 hM'; clear hM tk_b1; have hM := hM'; clear hM') | (have _t := tk_b2; refine wpList_box rfl _ _ rfl _ _ rfl hM ?_; intro b2 W' hb2 hM'; clear hM tk_b2; have hM := hM'; clear hM') | (have _t := tk_q1; (refine wpList_gget ?_ _ _ rfl _ _ rfl hM 0 rfl (rowTab _ _ rfl) (by omega) ?_; kernel_rfl); clear tk_q1) | (go_at_call 59; (with_reducible refine (l01Ok_any g hg _ _ (hM.ats 1 _ _ _ rfl)).mono ?_); rintro e W' ⟨rfl, hb'⟩; rw [Ho.out]; have hM' := hM.call hb'; clear hM hb'; have hM := hM'; clear hM') | (go_at_call 68; (with_reducible refine (l01Is_any g hg _ x y hx hy _ (hM.ats 1 _ _ _ rfl)).mono ?_); rintro e W' ⟨rfl, hb'⟩; rw [Hi.out]; have hM' := hM.call hb'; clear hM hb'; have hM := hM'; clear hM'))
    go_ret
    exact ⟨ret_bool Hp.out.symm, hM.below⟩
  have Ho := Lib.hid ho
  have Hi := Lib.hid hi
  have Hp := Lib.hid (validW_4 (s := s) (n := n) ho hi)
  clear ho hi
  cases hw : walkB g s n x y
  all_goals
    have Hw := Lib.hid hw
    clear hw
    have tk_b1 : True := trivial; have tk_b2 : True := trivial
    go_enter Tryd.func43, Tryd.ntmps43
    go_wp2_with (first | (have _t := tk_b1; refine wpList_box rfl _ _ rfl _ _ rfl hM ?_; intro b1 W' hb1 hM'; clear hM tk_b1; have hM := hM'; clear hM') | (have _t := tk_b2; refine wpList_box rfl _ _ rfl _ _ rfl hM ?_; intro b2 W' hb2 hM'; clear hM tk_b2; have hM := hM'; clear hM') | (refine wpList_gget ?_ _ _ rfl _ _ rfl hM 0 rfl (rowTab _ _ rfl) (by omega) ?_; kernel_rfl) | (go_at_call 59; (with_reducible refine (l01Ok_any g hg _ _ (hM.ats 1 _ _ _ rfl)).mono ?_); rintro e W' ⟨rfl, hb'⟩; rw [Ho.out]; have hM' := hM.call hb'; clear hM hb'; have hM := hM'; clear hM') | (go_at_call 68; (with_reducible refine (l01Is_any g hg _ x y hx hy _ (hM.ats 1 _ _ _ rfl)).mono ?_); rintro e W' ⟨rfl, hb'⟩; rw [Hi.out]; have hM' := hM.call hb'; clear hM hb'; have hM := hM'; clear hM') | (go_at_call 90; refine (l05Walk_any g hg Ho.out _ bw n c x y s hn hS _ (hM.ats 1 _ _ _ rfl) (hM.ats 2 _ _ _ rfl) (hM.apart 1 2 _ _ rfl rfl (by omega))).mono ?_; rintro e W' ⟨rfl, hb'⟩; rw [Hw.out]; have hM' := hM.call hb'; clear hM hb'; have hM := hM'; clear hM'))
    go_ret
    exact ⟨ret_bool (by rw [Hp.out, Hw.out]), hM.below⟩
end Go.Proofs.YtbmaljhnldepoaaDoor

/-
  impl.ValidWalk by contract.
-/
namespace Go.Proofs.YtbmaljhnldepoaaDoor
open Go Go.RowKit Go.BigFrame

set_option maxRecDepth 100000 in
set_option maxHeartbeats 4000000 in
theorem implValidWalk_any {a : Nat → Addr} (g : Nat → Int) (hg : Fits g) (bw n c : Nat) (x y : Int) (s : Nat → Int × Int) (hcn : n ≤ c) (hn : n ≤ 1048576) (w : World) (hB : At w bw (n * 2) (sps s)) (hE : Errs2 a w) :
    Calls Tryd.prog 44 #[.agg (arr 122 (pas g)), .agg (arr 2 (sp x y)), .slice (some ⟨bw, 0, none⟩) n c] w fun e w' => e = .returned (.bool (validW g s n x y)) ∧ Below w.heap.size w w' := by
  have hM : Mem w [(bw, n * 2, sps s)] w := (Mem.nil w).old hB (fun i p h => by simp at h)
  have HE := Lib.hid hE
  have Hn2 := Lib.hid hn
  have Hn : Hid (n ≤ maxLen) := Lib.hid (by unfold maxLen; omega)
  clear hB hE
  cases ho : okB g
  · have Ho : Hid (validB g = false) := Lib.hid (by rw [← okB_eq]; exact ho)
    have Hp := Lib.hid (validW_1 (s := s) (n := n) (x := x) (y := y) ho)
    clear ho
    have tk_b1 : True := trivial; have tk_b2 : True := trivial; have tk_b3 : True := trivial; have tk_q1 : True := trivial; have tk_q2 : True := trivial
    go_enter Tryd.func44, Tryd.ntmps44
    go_wp2_with (first | (have _t := tk_b1; refine wpList_box rfl _ _ rfl _ _ rfl hM ?_; intro b1 W' hb1 hM'; clear hM tk_b1; have hM := hM'; clear hM') | (have _t := tk_b2; refine wpList_box rfl _ _ rfl _ _ rfl hM ?_; intro b2 W' hb2 hM'; clear hM tk_b2; have hM := hM'; clear hM') | (have _t := tk_q1; (refine wpList_get rfl _ _ rfl _ _ rfl hM 1 rfl (rowTab _ _ rfl) (by omega) ?_); clear tk_q1) | (have _t := tk_q2; (refine wpList_get rfl _ _ rfl _ _ rfl hM 0 rfl (rowTab _ _ rfl) (by omega) ?_); clear tk_q2) | (have _t := tk_b3; refine wpList_slice1 rfl _ _ _ rfl _ _ rfl _ spot_under spot_info (by omega) (by omega) hM ?_; intro b3 W' hb3 hM'; clear hM tk_b3; have hM := hM'; clear hM') | (go_at_call 55; refine (checkCells_bad2 g hg _ _ (HE.out.below hM.below) Ho.out).mono ?_; rintro e W' ⟨rfl, hb'⟩; have hM' := hM.call hb'; clear hM hb'; have hM := hM'; clear hM'))
    go_ret
    exact ⟨ret_bool Hp.out.symm, hM.below⟩
  have Hk := Lib.hid ho
  have Ho : Hid (validB g = true) := Lib.hid (by rw [← okB_eq]; exact ho)
  cases hi : isB g x y
  · have Hi : Hid (chkS a g (fun _ => (x, y)) 1 = errV (a 1)) := Lib.hid (chkS_no (by rw [allB_one]; exact hi))
    have Hp := Lib.hid (validW_2 (s := s) (n := n) (x := x) (y := y) hi)
    clear ho hi
    have tk_b1 : True := trivial; have tk_b2 : True := trivial; have tk_b3 : True := trivial; have tk_q1 : True := trivial; have tk_q2 : True := trivial
    go_enter Tryd.func44, Tryd.ntmps44
    go_wp2_with (first | (have _t := tk_b1; refine wpList_box rfl _ _ rfl _ _ rfl hM ?_; intro b1 W' hb1 hM'; clear hM tk_b1; have hM := hM'; clear hM') | (have _t := tk_b2; refine wpList_box rfl _ _ rfl _ _ rfl hM ?_; intro b2 W' hb2 hM'; clear hM tk_b2; have hM := hM'; clear hM') | (have _t := tk_q1; (refine wpList_get rfl _ _ rfl _ _ rfl hM 1 rfl (rowTab _ _ rfl) (by omega) ?_); clear tk_q1) | (have _t := tk_q2; (refine wpList_get rfl _ _ rfl _ _ rfl hM 0 rfl (rowTab _ _ rfl) (by omega) ?_); clear tk_q2) | (have _t := tk_b3; refine wpList_slice1 rfl _ _ _ rfl _ _ rfl _ spot_under spot_info (by omega) (by omega) hM ?_; intro b3 W' hb3 hM'; clear hM tk_b3; have hM := hM'; clear hM') | (go_at_call 55; refine (checkCells_some2 g hg _ 1 1 2 (fun _ => (x, y)) (by omega) (by decide) _ ((hM.ats 0 _ _ _ rfl).congr (sp_sps0 _ _)) (HE.out.below hM.below) Ho.out).mono ?_; rintro e W' ⟨rfl, hb'⟩; rw [Hi.out]; have hM' := hM.call hb'; clear hM hb'; have hM := hM'; clear hM'))
    go_ret
    exact ⟨ret_bool Hp.out.symm, hM.below⟩
  have Hi : Hid (chkS a g (fun _ => (x, y)) 1 = .nilIface) := Lib.hid (chkS_yes (by rw [allB_one]; exact hi))
  have Hv := Lib.hid (validW_4 (s := s) (n := n) ho hi)
  clear ho hi
  rcases (show (n : Int) < 1 ∨ (1 ≤ (n : Int) ∧ 200 < (n : Int)) ∨ (1 ≤ (n : Int) ∧ (n : Int) ≤ 200) by omega) with r0 | ⟨r0, r1⟩ | ⟨r0, r1⟩
  · have Hp : Hid (walkB g s n x y = false) := Lib.hid (walkB_len (inB_no (by omega)))
    have d0 : decide ((n : Int) < 1) = true := decide_eq_true r0
    have tk_b1 : True := trivial; have tk_b2 : True := trivial; have tk_b3 : True := trivial; have tk_q1 : True := trivial; have tk_q2 : True := trivial
    go_enter Tryd.func44, Tryd.ntmps44
    go_wp2_with (first | (have _t := tk_b1; refine wpList_box rfl _ _ rfl _ _ rfl hM ?_; intro b1 W' hb1 hM'; clear hM tk_b1; have hM := hM'; clear hM') | (have _t := tk_b2; refine wpList_box rfl _ _ rfl _ _ rfl hM ?_; intro b2 W' hb2 hM'; clear hM tk_b2; have hM := hM'; clear hM') | (have _t := tk_q1; (refine wpList_get rfl _ _ rfl _ _ rfl hM 1 rfl (rowTab _ _ rfl) (by omega) ?_); clear tk_q1) | (have _t := tk_q2; (refine wpList_get rfl _ _ rfl _ _ rfl hM 0 rfl (rowTab _ _ rfl) (by omega) ?_); clear tk_q2) | (have _t := tk_b3; refine wpList_slice1 rfl _ _ _ rfl _ _ rfl _ spot_under spot_info (by omega) (by omega) hM ?_; intro b3 W' hb3 hM'; clear hM tk_b3; have hM := hM'; clear hM') | (go_at_call 55; refine (checkCells_some2 g hg _ 1 1 2 (fun _ => (x, y)) (by omega) (by decide) _ ((hM.ats 0 _ _ _ rfl).congr (sp_sps0 _ _)) (HE.out.below hM.below) Ho.out).mono ?_; rintro e W' ⟨rfl, hb'⟩; rw [Hi.out]; have hM' := hM.call hb'; clear hM hb'; have hM := hM'; clear hM'))
    go_ret
    exact ⟨ret_bool (by rw [Hv.out, Hp.out]), hM.below⟩
  · have Hp : Hid (walkB g s n x y = false) := Lib.hid (walkB_len (inB_no (by omega)))
    have d0 : decide ((n : Int) < 1) = false := decide_eq_false (by omega)
    have d1 : decide (200 < (n : Int)) = true := decide_eq_true r1
    have tk_b1 : True := trivial; have tk_b2 : True := trivial; have tk_b3 : True := trivial; have tk_q1 : True := trivial; have tk_q2 : True := trivial
    go_enter Tryd.func44, Tryd.ntmps44
    go_wp2_with (first | (have _t := tk_b1; refine wpList_box rfl _ _ rfl _ _ rfl hM ?_; intro b1 W' hb1 hM'; clear hM tk_b1; have hM := hM'; clear hM') | (have _t := tk_b2; refine wpList_box rfl _ _ rfl _ _ rfl hM ?_; intro b2 W' hb2 hM'; clear hM tk_b2; have hM := hM'; clear hM') | (have _t := tk_q1; (refine wpList_get rfl _ _ rfl _ _ rfl hM 1 rfl (rowTab _ _ rfl) (by omega) ?_); clear tk_q1) | (have _t := tk_q2; (refine wpList_get rfl _ _ rfl _ _ rfl hM 0 rfl (rowTab _ _ rfl) (by omega) ?_); clear tk_q2) | (have _t := tk_b3; refine wpList_slice1 rfl _ _ _ rfl _ _ rfl _ spot_under spot_info (by omega) (by omega) hM ?_; intro b3 W' hb3 hM'; clear hM tk_b3; have hM := hM'; clear hM') | (go_at_call 55; refine (checkCells_some2 g hg _ 1 1 2 (fun _ => (x, y)) (by omega) (by decide) _ ((hM.ats 0 _ _ _ rfl).congr (sp_sps0 _ _)) (HE.out.below hM.below) Ho.out).mono ?_; rintro e W' ⟨rfl, hb'⟩; rw [Hi.out]; have hM' := hM.call hb'; clear hM hb'; have hM := hM'; clear hM'))
    go_ret
    exact ⟨ret_bool (by rw [Hv.out, Hp.out]), hM.below⟩
  have hlen : inB 1 200 (n : Int) = true := inB_yes ⟨r0, r1⟩
  have d0 : decide ((n : Int) < 1) = false := decide_eq_false (by omega)
  have d1 : decide (200 < (n : Int)) = false := decide_eq_false (by omega)
  cases ha : allB g s n
  · have Ha : Hid (chkS a g s n = errV (a 1)) := Lib.hid (chkS_no ha)
    have Hp := Lib.hid (walkB_all (x := x) (y := y) ha)
    clear ha
    have tk_b1 : True := trivial; have tk_b2 : True := trivial; have tk_b3 : True := trivial; have tk_q1 : True := trivial; have tk_q2 : True := trivial; have tk_q3 : True := trivial; have tk_k1 : True := trivial
    go_enter Tryd.func44, Tryd.ntmps44
    go_wp2_with (first | (have _t := tk_b1; refine wpList_box rfl _ _ rfl _ _ rfl hM ?_; intro b1 W' hb1 hM'; clear hM tk_b1; have hM := hM'; clear hM') | (have _t := tk_b2; refine wpList_box rfl _ _ rfl _ _ rfl hM ?_; intro b2 W' hb2 hM'; clear hM tk_b2; have hM := hM'; clear hM') | (have _t := tk_q1; (refine wpList_get rfl _ _ rfl _ _ rfl hM 1 rfl (rowTab _ _ rfl) (by omega) ?_); clear tk_q1) | (have _t := tk_q2; (refine wpList_get rfl _ _ rfl _ _ rfl hM 0 rfl (rowTab _ _ rfl) (by omega) ?_); clear tk_q2) | (have _t := tk_b3; refine wpList_slice1 rfl _ _ _ rfl _ _ rfl _ spot_under spot_info (by omega) (by omega) hM ?_; intro b3 W' hb3 hM'; clear hM tk_b3; have hM := hM'; clear hM') | (have _t := tk_k1; (go_at_call 55; refine (checkCells_some2 g hg _ 1 1 2 (fun _ => (x, y)) (by omega) (by decide) _ ((hM.ats 0 _ _ _ rfl).congr (sp_sps0 _ _)) (HE.out.below hM.below) Ho.out).mono ?_; rintro e W' ⟨rfl, hb'⟩; rw [Hi.out]; have hM' := hM.call hb'; clear hM hb'; have hM := hM'; clear hM'); clear tk_k1) | (have _t := tk_q3; (refine wpList_get rfl _ _ rfl _ _ rfl hM 2 rfl (rowTab _ _ rfl) (by omega) ?_); clear tk_q3) | (go_at_call 55; refine (checkCells_some2 g hg bw n c (n * 2) s (by omega) Hn.out _ (hM.ats 3 _ _ _ rfl) (HE.out.below hM.below) Ho.out).mono ?_; rintro e W' ⟨rfl, hb'⟩; rw [Ha.out]; have hM' := hM.call hb'; clear hM hb'; have hM := hM'; clear hM'))
    go_ret
    exact ⟨ret_bool (by rw [Hv.out, Hp.out]), hM.below⟩
  have Ha : Hid (chkS a g s n = .nilIface) := Lib.hid (chkS_yes ha)
  cases hc : hasS s n x y
  case true =>
    have Hc := Lib.hid hc
    have Hp := Lib.hid (walkB_has (g := g) hc)
    clear ha hc
    have tk_b1 : True := trivial; have tk_b2 : True := trivial; have tk_b3 : True := trivial; have tk_q1 : True := trivial; have tk_q2 : True := trivial; have tk_q3 : True := trivial; have tk_q4 : True := trivial; have tk_k1 : True := trivial
    go_enter Tryd.func44, Tryd.ntmps44
    go_wp2_with (first | (have _t := tk_b1; refine wpList_box rfl _ _ rfl _ _ rfl hM ?_; intro b1 W' hb1 hM'; clear hM tk_b1; have hM := hM'; clear hM') | (have _t := tk_b2; refine wpList_box rfl _ _ rfl _ _ rfl hM ?_; intro b2 W' hb2 hM'; clear hM tk_b2; have hM := hM'; clear hM') | (have _t := tk_q1; (refine wpList_get rfl _ _ rfl _ _ rfl hM 1 rfl (rowTab _ _ rfl) (by omega) ?_); clear tk_q1) | (have _t := tk_q2; (refine wpList_get rfl _ _ rfl _ _ rfl hM 0 rfl (rowTab _ _ rfl) (by omega) ?_); clear tk_q2) | (have _t := tk_b3; refine wpList_slice1 rfl _ _ _ rfl _ _ rfl _ spot_under spot_info (by omega) (by omega) hM ?_; intro b3 W' hb3 hM'; clear hM tk_b3; have hM := hM'; clear hM') | (have _t := tk_k1; (go_at_call 55; refine (checkCells_some2 g hg _ 1 1 2 (fun _ => (x, y)) (by omega) (by decide) _ ((hM.ats 0 _ _ _ rfl).congr (sp_sps0 _ _)) (HE.out.below hM.below) Ho.out).mono ?_; rintro e W' ⟨rfl, hb'⟩; rw [Hi.out]; have hM' := hM.call hb'; clear hM hb'; have hM := hM'; clear hM'); clear tk_k1) | (have _t := tk_q3; (refine wpList_get rfl _ _ rfl _ _ rfl hM 2 rfl (rowTab _ _ rfl) (by omega) ?_); clear tk_q3) | (go_at_call 55; refine (checkCells_some2 g hg bw n c (n * 2) s (by omega) Hn.out _ (hM.ats 3 _ _ _ rfl) (HE.out.below hM.below) Ho.out).mono ?_; rintro e W' ⟨rfl, hb'⟩; rw [Ha.out]; have hM' := hM.call hb'; clear hM hb'; have hM := hM'; clear hM') | (have _t := tk_q4; (refine wpList_gget ?_ _ _ rfl _ _ rfl hM 1 rfl (rowTab _ _ rfl) (by omega) ?_; kernel_rfl); clear tk_q4) | (go_at_call 91; refine (containsSpot_any _ n s x y Hn2.out _ (.inr ⟨bw, c, n * 2, sps s, rfl, Nat.le_refl _, hM.ats 3 _ _ _ rfl, fun _ _ => rfl⟩)).mono ?_; rintro e W' ⟨rfl, hb'⟩; rw [Hc.out]; have hM' := hM.call hb'; clear hM hb'; have hM := hM'; clear hM'))
    go_ret
    exact ⟨ret_bool (by rw [Hv.out, Hp.out]), hM.below⟩
  have Hc := Lib.hid hc
  have Hat := Lib.hid (okAt_of ha hc)
  have Hall := Lib.hid ha
  have Hlen := Lib.hid hlen
  clear ha hc hlen
  have tk_b1 : True := trivial; have tk_b2 : True := trivial; have tk_b3 : True := trivial; have tk_q1 : True := trivial; have tk_q2 : True := trivial; have tk_q3 : True := trivial; have tk_q4 : True := trivial; have tk_k1 : True := trivial
  go_enter Tryd.func44, Tryd.ntmps44
  go_wp2_with (first | (have _t := tk_b1; refine wpList_box rfl _ _ rfl _ _ rfl hM ?_; intro b1 W' hb1 hM'; clear hM tk_b1; have hM := hM'; clear hM') | (have _t := tk_b2; refine wpList_box rfl _ _ rfl _ _ rfl hM ?_; intro b2 W' hb2 hM'; clear hM tk_b2; have hM := hM'; clear hM') | (have _t := tk_q1; (refine wpList_get rfl _ _ rfl _ _ rfl hM 1 rfl (rowTab _ _ rfl) (by omega) ?_); clear tk_q1) | (have _t := tk_q2; (refine wpList_get rfl _ _ rfl _ _ rfl hM 0 rfl (rowTab _ _ rfl) (by omega) ?_); clear tk_q2) | (have _t := tk_b3; refine wpList_slice1 rfl _ _ _ rfl _ _ rfl _ spot_under spot_info (by omega) (by omega) hM ?_; intro b3 W' hb3 hM'; clear hM tk_b3; have hM := hM'; clear hM') | (have _t := tk_k1; (go_at_call 55; refine (checkCells_some2 g hg _ 1 1 2 (fun _ => (x, y)) (by omega) (by decide) _ ((hM.ats 0 _ _ _ rfl).congr (sp_sps0 _ _)) (HE.out.below hM.below) Ho.out).mono ?_; rintro e W' ⟨rfl, hb'⟩; rw [Hi.out]; have hM' := hM.call hb'; clear hM hb'; have hM := hM'; clear hM'); clear tk_k1) | (have _t := tk_q3; (refine wpList_get rfl _ _ rfl _ _ rfl hM 2 rfl (rowTab _ _ rfl) (by omega) ?_); clear tk_q3) | (go_at_call 55; refine (checkCells_some2 g hg bw n c (n * 2) s (by omega) Hn.out _ (hM.ats 3 _ _ _ rfl) (HE.out.below hM.below) Ho.out).mono ?_; rintro e W' ⟨rfl, hb'⟩; rw [Ha.out]; have hM' := hM.call hb'; clear hM hb'; have hM := hM'; clear hM') | (have _t := tk_q4; (refine wpList_gget ?_ _ _ rfl _ _ rfl hM 1 rfl (rowTab _ _ rfl) (by omega) ?_; kernel_rfl); clear tk_q4) | (go_at_call 91; refine (containsSpot_any _ n s x y Hn2.out _ (.inr ⟨bw, c, n * 2, sps s, rfl, Nat.le_refl _, hM.ats 3 _ _ _ rfl, fun _ _ => rfl⟩)).mono ?_; rintro e W' ⟨rfl, hb'⟩; rw [Hc.out]; have hM' := hM.call hb'; clear hM hb'; have hM := hM'; clear hM'))
  go_at_call 92
  refine (stepsOf_any bw n c (by omega) hcn Hn2.out _).mono ?_
  rintro e W2 ⟨v0, rfl, hL⟩
  have LB : True := trivial
  rcases Nat.lt_or_ge 1 n with hn1 | hn1
  case inr =>
    obtain ⟨aa, ca, rfl, hbl⟩ := hL.zero (by omega)
    have hM' := hM.call hbl
    clear hM hbl hL
    have hM := hM'
    clear hM'
    have Hp : Hid (walkB g s n x y = true) := Lib.hid (walkB_yes Hlen.out Hat.out (fun k hk => absurd hk (by omega)))
    have e1 : n - 1 = 0 := by omega
    go_wp2
    refine wp_loop_rounds 1 ?_
    rw [rounds_succ]
    go_wp2
    go_ret
    exact ⟨ret_bool (by rw [Hv.out, Hp.out]), hM.below⟩
  obtain ⟨bA, cA, FA, rfl, hbA, hcA, hFA, hAA, hbl⟩ := hL.some (by omega)
  have hM' := hM.freshH hbl hAA hbA
  clear hM hAA hbl hL
  have hM := hM'
  clear hM'
  have HF := Lib.hid hFA
  clear hFA
  have hn1c : ((n - 1 : Nat) : Int) = (n : Int) - 1 := by omega
  go_wp2
  go_loopw [8, 36] (fun v i wr => ∃ q : Nat, q ≤ n - 1 ∧ i = .int .i64 q ∧ Hid (∀ j, j < q → joinB g (s j) (s (j + 1)) = true) ∧ Mem w [(bA, cA * 1, FA), (b3, 2, fun k => sp x y (0 + k)), (b2, 2, sp x y), (b1, 122, pas g), (bw, n * 2, sps s)] wr) (fun _ i _ => n - 1 - (intOf i).toNat)
  case atStart => exact ⟨0, by omega, rfl, Lib.hid (fun j hj => absurd hj (by omega)), hM⟩
  case round =>
    clear hM
    obtain ⟨q, hq, rfl, hjo, hM⟩ := hrel
    by_cases hlt : q < n - 1
    case neg =>
      obtain rfl : q = n - 1 := by omega
      have Hp : Hid (walkB g s n x y = true) := Lib.hid (walkB_yes Hlen.out Hat.out (fun k hk => hjo.out k (by omega)))
      go_wp2
      go_ret
      exact ⟨ret_bool (by rw [Hv.out, Hp.out]), hM.below⟩
    have l2 : (q : Int) < ((n - 1 : Nat) : Int) := by omega
    have l3 : decide ((q : Int) < ((n - 1 : Nat) : Int)) = true := decide_eq_true l2
    have eF : FA q = .slice (some ⟨bw, q * 2, none⟩) 2 2 := (HF.out q (by omega)).trans rfl
    have er : arr 2 (fun j => sps s (q * 2 + j)) = arr 2 (sp (s q).1 (s q).2) := arr_congr fun j hj => sps_row _ _ _ hj
    have er1 : arr 2 (fun j => sps s ((q + 1) * 2 + j)) = arr 2 (sp (s (q + 1)).1 (s (q + 1)).2) := arr_congr fun j hj => sps_row _ _ _ hj
    have eq1 : q * 2 + 2 = (q + 1) * 2 := by omega
    have hqe := neq_spot (s q).1 (s q).2 (s (q + 1)).1 (s (q + 1)).2
    have hiq : isB g (s q).1 (s q).2 = true := by
      have := Hat.out q (by omega)
      unfold okAt at this
      rw [Bool.and_eq_true] at this
      exact this.1
    have hbq := isB_bounds Hk.out hiq
    have Hx : Hid (0 ≤ (s q).1 ∧ (s q).1 ≤ 9) := Lib.hid (by omega)
    have Hy : Hid (0 ≤ (s q).2 ∧ (s q).2 ≤ 9) := Lib.hid (by omega)
    clear hiq hbq
    have hjq : joinB g (s q) (s (q + 1)) = (((s q).1 == (s (q + 1)).1) && ((s q).2 == (s (q + 1)).2) || stepB g (s q).1 (s q).2 (s (q + 1)).1 (s (q + 1)).2) := by
      unfold joinB
      rw [beq_swap (s (q + 1)).1, beq_swap (s (q + 1)).2]
    cases hs : (((s q).1 == (s (q + 1)).1) && ((s q).2 == (s (q + 1)).2))
    case true =>
      rw [hs] at hjq hqe
      have Hj : Hid (joinB g (s q) (s (q + 1)) = true) := Lib.hid (by rw [hjq]; rfl)
      clear hjq
      go_wp2_with (first | (refine wpList_get1 rfl _ _ rfl _ _ rfl hM 0 rfl spots_cell (by omega) _ eF ?_))
      ((try simp only [Act.put, List.setIfInBounds_toArray, List.set_cons_succ, List.set_cons_zero]); refine wp_region_mem (by kernel_rfl) (by kernel_rfl) hM ?_; clear hM; (repeat (first | go_big_quiet_skip | (go_big_quiet_want; first | (refine quiet_get _ _ rfl _ _ rfl 4 rfl (rowTab _ 2 rfl) (by omega) ?_; (simp only [er]); (simp only [Act.put, List.setIfInBounds_toArray, List.set_cons_succ, List.set_cons_zero]); go_big_quiet_on) | (refine quiet_get _ _ rfl _ _ rfl 4 rfl (rowTab _ 2 rfl) (by omega) ?_; ((try rw [eq1]); simp only [er1]); (simp only [Act.put, List.setIfInBounds_toArray, List.set_cons_succ, List.set_cons_zero]); go_big_quiet_on) | (refine quiet_val ?_; apply Exists.intro; refine ⟨fun W => ?_, ?_⟩; (go_simp; (try simp only [l2, l3, hqe, if_true, Bool.false_eq_true, if_false]); rfl); (simp only [Act.put, List.setIfInBounds_toArray, List.set_cons_succ, List.set_cons_zero]); go_big_quiet_on)))); (with_reducible refine wpQuiet_nil ?_); intro W' hM)
      go_wp2
      go_roundw
      case rel => exact ⟨q + 1, by omega, by go_num, Lib.hid (fun j hj => by
        by_cases e : j = q
        · rw [e]; exact Hj.out
        · exact hjo.out j (by omega)), hM⟩
      case measure => simp [intOf]; omega
    rw [hs] at hjq hqe
    cases hz : stepB g (s q).1 (s q).2 (s (q + 1)).1 (s (q + 1)).2
    all_goals
      rw [hz] at hjq
      have Hj := Lib.hid hjq
      clear hjq
      go_wp2_with (first | (refine wpList_get1 rfl _ _ rfl _ _ rfl hM 0 rfl spots_cell (by omega) _ eF ?_))
      ((try simp only [Act.put, List.setIfInBounds_toArray, List.set_cons_succ, List.set_cons_zero]); refine wp_region_mem (by kernel_rfl) (by kernel_rfl) hM ?_; clear hM; (repeat (first | go_big_quiet_skip | (go_big_quiet_want; first | (refine quiet_get _ _ rfl _ _ rfl 4 rfl (rowTab _ 2 rfl) (by omega) ?_; (simp only [er]); (simp only [Act.put, List.setIfInBounds_toArray, List.set_cons_succ, List.set_cons_zero]); go_big_quiet_on) | (refine quiet_get _ _ rfl _ _ rfl 4 rfl (rowTab _ 2 rfl) (by omega) ?_; ((try rw [eq1]); simp only [er1]); (simp only [Act.put, List.setIfInBounds_toArray, List.set_cons_succ, List.set_cons_zero]); go_big_quiet_on) | (refine quiet_get _ _ rfl _ _ rfl 3 rfl (rowTab _ _ rfl) (by omega) ?_; (simp only [Act.put, List.setIfInBounds_toArray, List.set_cons_succ, List.set_cons_zero]); go_big_quiet_on) | (refine quiet_call ?_; apply Exists.intro; apply Exists.intro; apply Exists.intro; refine ⟨fun W => ?_, fun W hM => ?_, ?_⟩; (go_simp; exact ⟨rfl, rfl⟩); (with_reducible exact canStep_any g hg Hk.out (s q).1 (s q).2 Hx.out Hy.out (s (q + 1)).1 (s (q + 1)).2 W); (simp only [hz]); (simp only [Act.put, List.setIfInBounds_toArray, List.set_cons_succ, List.set_cons_zero]); go_big_quiet_on) | (refine quiet_val ?_; apply Exists.intro; refine ⟨fun W => ?_, ?_⟩; (go_simp; (try simp only [l2, l3, hqe, if_true, Bool.false_eq_true, if_false]); rfl); (simp only [Act.put, List.setIfInBounds_toArray, List.set_cons_succ, List.set_cons_zero]); go_big_quiet_on)))); (with_reducible refine wpQuiet_nil ?_); intro W' hM)
      go_wp2
    · go_ret
      exact ⟨ret_bool (by rw [Hv.out, walkB_join (k := q) (by omega) (by rw [Hj.out]; rfl)]), hM.below⟩
    · go_roundw
      case rel => exact ⟨q + 1, by omega, by go_num, Lib.hid (fun j hj => by
        by_cases e : j = q
        · rw [e, Hj.out]; rfl
        · exact hjo.out j (by omega)), hM⟩
      case measure => simp [intOf]; omega
end Go.Proofs.YtbmaljhnldepoaaDoor

/-
  laws.FnExactValidWalk returns true.
-/
namespace Go.Proofs.YtbmaljhnldepoaaDoor
open Go Go.RowKit Go.BigFrame

set_option maxRecDepth 100000 in
set_option maxHeartbeats 4000000 in
theorem lawValidWalk_any {a : Nat → Addr} (g : Nat → Int) (hg : Fits g) (x y : Int) (hx : -128 ≤ x ∧ x ≤ 127) (hy : -128 ≤ y ∧ y ≤ 127) (v : Value) (n : Nat) (s : Nat → Int × Int) (hn : n ≤ maxLen) (hF : ∀ i, i < n → FitsS (s i)) (w : World) (hE : Errs2 a w) (h : SpotArg w v n s) :
    Calls Tryd.prog 11 #[.agg (arr 122 (pas g)), .agg (arr 2 (sp x y)), v] w fun e w' => e = .returned (.bool true) ∧ Below w.heap.size w w' := by
  have hM := Mem.nil w
  have HG := Lib.hid h
  have Hn := Lib.hid hn
  have HF := Lib.hid hF
  have HE := Lib.hid hE
  clear h hn hF hE
  by_cases h1 : 1048576 < n
  · have tk_c1 : True := trivial; have tk_c2 : True := trivial
    go_enter Tryd.func11, Tryd.ntmps11
    go_wp2_with (first | (go_at_call 34; (with_reducible refine (szSpotS_no v n s 1048576 Hn.out (by omega) (by omega) (by omega) _ (HG.out.below hM.below)).mono ?_); rintro e W' ⟨rfl, hb'⟩; have hM' := hM.call hb'; clear hM hb'; have hM := hM'; clear hM') | (have _t := tk_c1; refine wpList_box rfl _ _ rfl _ _ rfl hM ?_; intro c1 W' hc1 hM'; clear hM tk_c1; have hM := hM'; clear hM') | (have _t := tk_c2; refine wpList_box rfl _ _ rfl _ _ rfl hM ?_; intro c2 W' hc2 hM'; clear hM tk_c2; have hM := hM'; clear hM'))
    go_ret
    exact ⟨rfl, hM.below⟩
  have d0 : decide ((1048576 : Int) - n < 0) = false := decide_eq_false (by omega)
  have d0' : decide ((1048576 : Int) < n) = false := decide_eq_false (by omega)
  have hn1 : n ≤ 1048576 := by omega
  obtain ⟨z, hz⟩ : ∃ z, validW g s n x y = z := ⟨_, rfl⟩
  have Hz := Lib.hid hz
  clear hz
  have tk_c1 : True := trivial; have tk_c2 : True := trivial
  go_enter Tryd.func11, Tryd.ntmps11
  go_wp2_with (first | (go_at_call 34; (with_reducible refine (szSpotS_yes v n s 1048576 (by omega) (by omega) _ (HG.out.below hM.below)).mono ?_); rintro e W' ⟨rfl, hb'⟩; have hM' := hM.call hb'; clear hM hb'; have hM := hM'; clear hM') | (have _t := tk_c1; refine wpList_box rfl _ _ rfl _ _ rfl hM ?_; intro c1 W' hc1 hM'; clear hM tk_c1; have hM := hM'; clear hM') | (have _t := tk_c2; refine wpList_box rfl _ _ rfl _ _ rfl hM ?_; intro c2 W' hc2 hM'; clear hM tk_c2; have hM := hM'; clear hM'))
  ((try simp only [Act.put, List.setIfInBounds_toArray, List.set_cons_succ, List.set_cons_zero]); refine region_reads [0, 1, 2, 3, 4] #[true, true, true, true, true, false, false, false] 3 (by kernel_rfl) (by kernel_rfl) (by kernel_rfl) hM ?_; clear hM; (repeat (refine qs_plain rfl rfl ?_; first | (refine b_get _ _ rfl _ _ rfl 1 rfl (rowTab _ _ rfl) (by omega) ?_; (simp only [Act.put, List.setIfInBounds_toArray, List.set_cons_succ, List.set_cons_zero])) | (refine b_get _ _ rfl _ _ rfl 0 rfl (rowTab _ _ rfl) (by omega) ?_; (simp only [Act.put, List.setIfInBounds_toArray, List.set_cons_succ, List.set_cons_zero])) | (refine b_call ?_; apply Exists.intro; apply Exists.intro; apply Exists.intro; refine ⟨fun W => ?_, fun W hM => ?_, ?_⟩; (go_simp; exact ⟨rfl, rfl⟩); (with_reducible exact toPasture_pas g W); (simp only [Act.put, List.setIfInBounds_toArray, List.set_cons_succ, List.set_cons_zero])) | (refine b_call ?_; apply Exists.intro; apply Exists.intro; apply Exists.intro; refine ⟨fun W => ?_, fun W hM => ?_, ?_⟩; (go_simp; exact ⟨rfl, rfl⟩); (with_reducible exact toSpot_sp x y W); (simp only [Act.put, List.setIfInBounds_toArray, List.set_cons_succ, List.set_cons_zero])) | (refine b_val ?_; apply Exists.intro; refine ⟨fun W => ?_, ?_⟩; (go_simp; rfl); (simp only [Act.put, List.setIfInBounds_toArray, List.set_cons_succ, List.set_cons_zero])))); (with_reducible refine qs_nil ?_))
  (refine mix_one (i := 5) (by kernel_rfl) rfl (by kernel_rfl) rfl ?_)
  (refine step_call_new (n := n * 2) (f := sps s) ((fun b => .slice (some ⟨b, 0, none⟩) n n)) ?_; apply Exists.intro; apply Exists.intro; refine ⟨fun W => ?_, fun W hM => ?_, ?_⟩; (go_simp; exact ⟨rfl, rfl⟩); (exact toSpotS_any v n s hn1 W (HG.out.below hM.below)); (intro b1 hb1); (simp only [Act.put, List.setIfInBounds_toArray, List.set_cons_succ, List.set_cons_zero]))
  (refine mix_one (i := 6) (by kernel_rfl) rfl (by kernel_rfl) rfl ?_)
  (refine step_call ?_; apply Exists.intro; apply Exists.intro; apply Exists.intro; refine ⟨fun W => ?_, fun W hM => ?_, ?_⟩; (go_simp; exact ⟨rfl, rfl⟩); (exact specValidWalk_any g hg b1 n n x y hx hy s hn1 HF.out W (hM.ats 0 _ _ _ rfl)); (simp only [Hz.out]); (simp only [Act.put, List.setIfInBounds_toArray, List.set_cons_succ, List.set_cons_zero]))
  (refine mix_one (i := 7) (by kernel_rfl) rfl (by kernel_rfl) rfl ?_)
  (refine step_val ?_; apply Exists.intro; refine ⟨fun W => ?_, ?_⟩; (go_simp; rfl); (simp only [Act.put, List.setIfInBounds_toArray, List.set_cons_succ, List.set_cons_zero]))
  (refine mix_end (by kernel_rfl) ?_; intro W' hM)
  simp only [List.cons_append, List.nil_append] at hM
  have tk_e1 : True := trivial
  go_wp2_with (first | (have _t := tk_e1; go_at_call 36; (with_reducible refine (toSpotS_any v n s hn1 _ (HG.out.below hM.below)).mono ?_); rintro e W' ⟨e1, rfl, he1, hA', hcb⟩; have hM' := hM.fresh' hcb hA' he1; simp only [List.cons_append, List.nil_append] at hM'; clear hM hcb hA' tk_e1; have hM := hM'; clear hM'))
  ((try simp only [Act.put, List.setIfInBounds_toArray, List.set_cons_succ, List.set_cons_zero]); refine wp_region_mem (by kernel_rfl) (by kernel_rfl) hM ?_; clear hM; (repeat (first | go_big_quiet_skip | (go_big_quiet_want; first | (refine quiet_get _ _ rfl _ _ rfl 2 rfl (rowTab _ _ rfl) (by omega) ?_; (simp only [Act.put, List.setIfInBounds_toArray, List.set_cons_succ, List.set_cons_zero]); go_big_quiet_on) | (refine quiet_get _ _ rfl _ _ rfl 1 rfl (rowTab _ _ rfl) (by omega) ?_; (simp only [Act.put, List.setIfInBounds_toArray, List.set_cons_succ, List.set_cons_zero]); go_big_quiet_on) | (refine quiet_call ?_; apply Exists.intro; apply Exists.intro; apply Exists.intro; refine ⟨fun W => ?_, fun W hM => ?_, ?_⟩; (go_simp; exact ⟨rfl, rfl⟩); (with_reducible exact toPasture_pas g W); (simp only [Act.put, List.setIfInBounds_toArray, List.set_cons_succ, List.set_cons_zero]); go_big_quiet_on) | (refine quiet_call ?_; apply Exists.intro; apply Exists.intro; apply Exists.intro; refine ⟨fun W => ?_, fun W hM => ?_, ?_⟩; (go_simp; exact ⟨rfl, rfl⟩); (with_reducible exact toSpot_sp x y W); (simp only [Act.put, List.setIfInBounds_toArray, List.set_cons_succ, List.set_cons_zero]); go_big_quiet_on) | (refine quiet_call ?_; apply Exists.intro; apply Exists.intro; apply Exists.intro; refine ⟨fun W => ?_, fun W hM => ?_, ?_⟩; (go_simp; exact ⟨rfl, rfl⟩); (exact implValidWalk_any g hg e1 n n x y s (Nat.le_refl _) hn1 W (hM.ats 3 _ _ _ rfl) (HE.out.below hM.below)); (simp only [Hz.out]); (simp only [Act.put, List.setIfInBounds_toArray, List.set_cons_succ, List.set_cons_zero]); go_big_quiet_on) | (refine quiet_val ?_; apply Exists.intro; refine ⟨fun W => ?_, ?_⟩; (go_simp; rfl); (simp only [Act.put, List.setIfInBounds_toArray, List.set_cons_succ, List.set_cons_zero]); go_big_quiet_on)))); (with_reducible refine wpQuiet_nil ?_); intro W' hM)
  have tk_d1 : True := trivial
  go_wp2_with (first | (have _t := tk_d1; go_at_call 36; (with_reducible refine (toSpotS_any v n s hn1 _ (HG.out.below hM.below)).mono ?_); rintro e W' ⟨d1, rfl, hd1, hA', hcb⟩; have hM' := hM.fresh' hcb hA' hd1; simp only [List.cons_append, List.nil_append] at hM'; clear hM hcb hA' tk_d1; have hM := hM'; clear hM') | (go_at_call 19; (with_reducible refine (eqSpotS_same e1 d1 n n n s Hn.out _ (hM.ats 3 _ _ _ rfl) (hM.ats 4 _ _ _ rfl) (hM.apart 3 4 _ _ rfl rfl (by omega))).mono ?_); rintro e W' ⟨rfl, hb'⟩; have hM' := hM.call hb'; clear hM hb'; have hM := hM'; clear hM'))
  go_ret
  exact ⟨rfl, hM.below⟩
end Go.Proofs.YtbmaljhnldepoaaDoor

