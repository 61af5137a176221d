/-
  Several texts in one: RopeS, Check2, WalkI, WindsI, Join.
-/
import Derived.Test.YtbmaljhnldepoaaDoorP11
import Derived.Test.YtbmaljhnldepoaaDoorP4
import Derived.Test.YtbmaljhnldepoaaDoorP5
/-
  spec.l00Max and spec.RopeLeft by contracts.
-/
namespace Go.Proofs.YtbmaljhnldepoaaDoor
open Go Go.RowKit Go.BigFrame

def mxI (a b : Int) : Int := if b > a then b else a
theorem l00Max_any (a b : Int) (w : World) : Calls Tryd.prog 97 #[.int .i64 a, .int .i64 b] w fun e w' => e = .returned (.int .i64 (mxI a b)) ∧ Below w.heap.size w w' := by
  rcases (show a < b ∨ a = b ∨ b < a by omega) with h | h | h
  · have hp : Hid (mxI a b = b) := Lib.hid (by simp [mxI]; omega)
    have d1 : decide (b < a) = false := decide_eq_false (by omega)
    have d2 : decide (a < b) = true := decide_eq_true h
    have d3 : decide (b ≤ a) = false := decide_eq_false (by omega)
    have d4 : decide (a ≤ b) = true := decide_eq_true (by omega)
    go_enter Tryd.func97, Tryd.ntmps97
    go_wp2
    go_ret
    exact ⟨ret_i hp.out.symm, Below.refl _ _⟩
  · subst h
    have hp : Hid (mxI a a = a) := Lib.hid (by simp [mxI])
    go_enter Tryd.func97, Tryd.ntmps97
    go_wp2
    go_ret
    exact ⟨ret_i hp.out.symm, Below.refl _ _⟩
  · have hp : Hid (mxI a b = a) := Lib.hid (by simp [mxI]; omega)
    have d1 : decide (b < a) = true := decide_eq_true h
    have d2 : decide (a < b) = false := decide_eq_false (by omega)
    have d3 : decide (b ≤ a) = true := decide_eq_true (by omega)
    have d4 : decide (a ≤ b) = false := decide_eq_false (by omega)
    go_enter Tryd.func97, Tryd.ntmps97
    go_wp2
    go_ret
    exact ⟨ret_i hp.out.symm, Below.refl _ _⟩

def ropeN (g : Nat → Int) (s : Nat → Int × Int) (n : Nat) (x y len : Int) : Int := if ropedC g s n x y len = 0 then mxI 0 (len - 4 * mxI (sumW (dS x y) s (n - 1)) (-(sumW (dS x y) s (n - 1)))) else 0
/-- What a code of 0 says. -/
theorem roped_0 {g : Nat → Int} {s : Nat → Int × Int} {n : Nat} {x y len : Int} (h : ropedC g s n x y len = 0) : (okB g = true ∧ isB g x y = true) ∧ inB 0 1000 len = true ∧ walkB g s n x y = true := by
  unfold ropedC at h
  rcases askC_cases g x y (inB 0 1000 len) with ⟨_, hc⟩ | ⟨_, _, hc⟩ | ⟨a, b, c, hc⟩
  · rw [hc, if_neg (by decide)] at h; exact absurd h (by decide)
  · rw [hc, if_neg (by decide)] at h; exact absurd h (by decide)
  · rw [hc, if_pos rfl] at h
    refine ⟨⟨a, b⟩, c, ?_⟩
    cases hw : walkB g s n x y
    · rw [hw] at h; exact absurd h (by decide)
    · rfl

set_option maxRecDepth 100000 in
set_option maxHeartbeats 2000000 in
theorem specRopeLeft_any (g : Nat → Int) (hg : Fits g) (bw n c : Nat) (x y : Int) (hx : -128 ≤ x ∧ x ≤ 127) (hy : -128 ≤ y ∧ y ≤ 127) (s : Nat → Int × Int) (hn : n ≤ 1048576) (hS : ∀ i, i < n → FitsS (s i)) (len : Int) (w : World) (hB : At w bw (n * 2) (sps s)) :
    Calls Tryd.prog 47 #[.agg (arr 122 (pas g)), .agg (arr 2 (sp x y)), .slice (some ⟨bw, 0, none⟩) n c, .int .i64 len] w fun e w' => e = .returned (numR (ropeN g s n x y len) (ropedC g s n x y len)) ∧ Below w.heap.size w w' := by
  have hM : Mem w [(bw, n * 2, sps s)] w := (Mem.nil w).old hB (fun i p h => by simp at h)
  clear hB
  obtain ⟨cc, hcc⟩ : ∃ cc, ropedC g s n x y len = cc := ⟨_, rfl⟩
  have hw : ropeN g s n x y len = if cc = 0 then mxI 0 (len - 4 * mxI (sumW (dS x y) s (n - 1)) (-(sumW (dS x y) s (n - 1)))) else 0 := by unfold ropeN; rw [hcc]
  rw [hcc, hw]
  by_cases h0 : cc = 0
  · subst h0
    obtain ⟨h2, h3, h4⟩ := roped_0 hcc
    have hb := isB_bounds h2.1 h2.2
    have hl : inB 1 200 (n : Int) = true := by
      unfold walkB at h4
      rw [Bool.and_eq_true, Bool.and_eq_true] at h4
      exact h4.1.1
    have hl2 := inB_true hl
    have hl3 := inB_true h3
    have Hx : Hid (0 ≤ x ∧ x ≤ 9) := Lib.hid (by omega)
    have Hy : Hid (0 ≤ y ∧ y ≤ 9) := Lib.hid (by omega)
    have hn1 : 1 ≤ n := by omega
    have hn2 : n ≤ 200 := by omega
    have hsm := sumW_small x y s (n - 1)
    have HW := fun c W hB => l05Winds_any bw n c x y Hx.out Hy.out s hn1 hn2 W hB
    rw [if_pos rfl]
    generalize sumW (dS x y) s (n - 1) = S at hsm HW ⊢
    have HW' := Lib.hid HW
    obtain ⟨M, hMx⟩ : ∃ M, mxI S (-S) = M := ⟨_, rfl⟩
    have hMb : 0 ≤ M ∧ M ≤ 200 := by rw [← hMx]; unfold mxI; split <;> omega
    have w1 : IntKind.i64.wrap (-S) = -S := IntWalk.i64_in _ (by omega)
    have w2 : IntKind.i64.wrap (4 * M) = 4 * M := IntWalk.i64_in _ (by omega)
    have w3 : IntKind.i64.wrap (len - 4 * M) = len - 4 * M := IntWalk.i64_in _ (by omega)
    rw [hMx]
    have Hcc := Lib.hid hcc
    have HMx := Lib.hid hMx
    clear hcc hw h2 h3 h4 hb hl hl2 hl3 hsm HW hMx hMb
    have tk_b1 : True := trivial; have tk_b2 : True := trivial; have tk_m1 : True := trivial
    go_enter Tryd.func47, Tryd.ntmps47
    go_wp2_with (first | (have _t := tk_b1; refine wpList_box rfl _ _ rfl _ _ rfl hM ?_; intro b1 W' hb1 hM'; clear hM tk_b1; have hM := hM'; clear hM') | (have _t := tk_b2; refine wpList_box rfl _ _ rfl _ _ rfl hM ?_; intro b2 W' hb2 hM'; clear hM tk_b2; have hM := hM'; clear hM') | (refine wpList_get rfl _ _ rfl _ _ rfl hM 0 rfl (rowTab _ _ rfl) (by omega) ?_) | (go_at_call 94; refine (l05Roped_any g hg _ bw n c x y len hx hy s hn hS _ (hM.ats 1 _ _ _ rfl) (hM.ats 2 _ _ _ rfl) (hM.apart 1 2 _ _ rfl rfl (by omega))).mono ?_; rintro e W' ⟨rfl, hb'⟩; rw [Hcc.out]; have hM' := hM.call hb'; clear hM hb'; have hM := hM'; clear hM') | (go_at_call 95; refine (HW'.out c _ (hM.ats 2 _ _ _ rfl)).mono ?_; rintro e W' ⟨rfl, hb'⟩; have hM' := hM.call hb'; clear hM hb'; have hM := hM'; clear hM') | (have _t := tk_m1; (go_at_call 97; refine (l00Max_any S (-S) _).mono ?_; rintro e W' ⟨rfl, hb'⟩; rw [HMx.out]; have hM' := hM.call hb'; clear hM hb'; have hM := hM'; clear hM'); clear tk_m1) | (go_at_call 97; refine (l00Max_any 0 (len - 4 * M) _).mono ?_; rintro e W' ⟨rfl, hb'⟩; have hM' := hM.call hb'; clear hM hb'; have hM := hM'; clear hM'))
    go_ret2
    exact ⟨ret_num rfl rfl, hM.below⟩
  · have hz : ¬ cc = 0 := h0
    have zb : (cc == 0) = false := by simpa using h0
    have zd : decide (cc = 0) = false := decide_eq_false h0
    rw [if_neg h0]
    have Hcc := Lib.hid hcc
    clear hcc hw h0
    have tk_b1 : True := trivial; have tk_b2 : True := trivial
    go_enter Tryd.func47, Tryd.ntmps47
    go_wp2_with (first | (have _t := tk_b1; refine wpList_box rfl _ _ rfl _ _ rfl hM ?_; intro b1 W' hb1 hM'; clear hM tk_b1; have hM := hM'; clear hM') | (have _t := tk_b2; refine wpList_box rfl _ _ rfl _ _ rfl hM ?_; intro b2 W' hb2 hM'; clear hM tk_b2; have hM := hM'; clear hM') | (refine wpList_get rfl _ _ rfl _ _ rfl hM 0 rfl (rowTab _ _ rfl) (by omega) ?_) | (go_at_call 94; refine (l05Roped_any g hg _ bw n c x y len hx hy s hn hS _ (hM.ats 1 _ _ _ rfl) (hM.ats 2 _ _ _ rfl) (hM.apart 1 2 _ _ rfl rfl (by omega))).mono ?_; rintro e W' ⟨rfl, hb'⟩; rw [Hcc.out]; have hM' := hM.call hb'; clear hM hb'; have hM := hM'; clear hM'))
    go_ret2
    exact ⟨ret_num rfl rfl, hM.below⟩
end Go.Proofs.YtbmaljhnldepoaaDoor

/-
  impl.checkCells by contract, where no more is known than the two errors that it gives.
-/
namespace Go.Proofs.YtbmaljhnldepoaaDoor
open Go Go.RowKit Go.BigFrame

/-- What the variables of the two errors hold. -/
structure Errs2 (a : Nat → Addr) (W : World) : Prop where
  vars : ∀ k, k < 2 → W.cell? ⟨errG k, 0, none⟩ = some (errV (a k))
theorem Errs2.below {a : Nat → Addr} {W W' : World} (h : Errs2 a W) (hb : Below W.heap.size W W') : Errs2 a W' :=
  ⟨fun k hk => by
    have hc := h.vars k hk
    rw [cell_below hb (block_lt_of_cell hc)]; exact hc⟩
theorem Errs.two {a : Nat → Addr} {W : World} (h : Errs a W) : Errs2 a W := ⟨fun k hk => h.vars k (by omega)⟩

set_option maxRecDepth 100000 in
set_option maxHeartbeats 2000000 in
theorem checkCells_bad2 {a : Nat → Addr} (g : Nat → Int) (hg : Fits g) (v : Value) (w : World) (hE : Errs2 a w) (hv : validB g = false) :
    Calls Tryd.prog 55 #[.agg (arr 122 (pas g)), v] w fun e w' => e = .returned (errV (a 0)) ∧ Below w.heap.size w w' := by
  have hM := Mem.nil w
  have hi := fun W => implValid_any g hg W
  rw [hv] at hi
  have H := Lib.hid hE
  have Hi := Lib.hid hi
  clear hv hi hE
  have tk_b1 : True := trivial
  go_enter Tryd.func55, Tryd.ntmps55
  go_wp2_with (first | (have _t := tk_b1; refine wpList_box rfl _ _ rfl _ _ rfl hM ?_; intro b1 W' hb1 hM'; clear hM tk_b1; have hM := hM'; clear hM') | (refine wpList_get rfl _ _ rfl _ _ rfl hM 0 rfl (rowTab _ _ rfl) (by omega) ?_) | (go_at_call 106; refine (Hi.out _).mono ?_; rintro e W' ⟨rfl, hb'⟩; have hM' := hM.call hb'; have hE' := H.out.below hM'.below; have v0 : W'.cell? ⟨0, 0, none⟩ = some (errV (a 0)) := hE'.vars 0 (by omega); clear hM hb' hE'; have hM := hM'; clear hM'))
  go_ret
  exact ⟨rfl, hM.below⟩

set_option maxRecDepth 100000 in
set_option maxHeartbeats 2000000 in
/-- Spots in a block. -/
theorem checkCells_some2 {a : Nat → Addr} (g : Nat → Int) (hg : Fits g) (bl n c N : Nat) (s : Nat → Int × Int) (hN : 2 * n ≤ N) (hn : n ≤ maxLen) (w : World) (hA : At w bl N (sps s)) (hE : Errs2 a w) (hv : validB g = true) :
    Calls Tryd.prog 55 #[.agg (arr 122 (pas g)), .slice (some ⟨bl, 0, none⟩) n c] w fun e w' => e = .returned (chkS a g s n) ∧ Below w.heap.size w w' := by
  have hM := (Mem.nil w).old hA (fun i p h => by simp at h)
  simp only [List.nil_append] at hM
  have hi := fun W => implValid_any g hg W
  rw [hv] at hi
  have Hi := Lib.hid hi
  have HE := Lib.hid hE
  unfold maxLen at hn
  clear hv hi hA hE
  have tk_b1 : True := trivial
  go_enter Tryd.func55, Tryd.ntmps55
  go_wp2_with (first | (have _t := tk_b1; refine wpList_box rfl _ _ rfl _ _ rfl hM ?_; intro b1 W' hb1 hM'; clear hM tk_b1; have hM := hM'; clear hM') | (refine wpList_get rfl _ _ rfl _ _ rfl hM 0 rfl (rowTab _ _ rfl) (by omega) ?_) | (go_at_call 106; refine (Hi.out _).mono ?_; rintro e W' ⟨rfl, hb'⟩; have hM' := hM.call hb'; clear hM hb'; have hM := hM'; clear hM'))
  go_loopw [13] (fun i wr => ∃ k : Nat, k ≤ n ∧ i = .int .i64 k ∧ Hid (∀ j, j < k → isB g (s j).1 (s j).2 = true) ∧ Mem w [(b1, 122, pas g), (bl, N, sps s)] wr) (fun i _ => n - (intOf i).toNat)
  case atStart => exact ⟨0, by omega, rfl, Lib.hid (fun j hj => absurd hj (by omega)), hM⟩
  case round =>
    clear hM
    obtain ⟨k, hk, rfl, hall, hM⟩ := hrel
    by_cases hlt : k < n
    · cases hB : isB g (s k).1 (s k).2
      · have HB := Lib.hid hB
        clear hB
        have tk_b2 : True := trivial
        go_wp2_with (first | (refine wpList_get rfl _ _ rfl _ _ rfl hM 1 rfl (rowTab _ _ rfl) (by omega) ?_) | (have _t := tk_b2; refine wpList_zero rfl _ rfl (zeroTab _ _ _ rfl) hM ?_; intro b2 W' hb2 hM'; clear hM tk_b2; have hM := hM'; clear hM') | (refine wpList_lay rfl _ _ _ rfl _ _ rfl _ _ rfl hM 0 rfl (by assumption) (rowTab _ _ rfl) (by omega) ?_ ?_; (first | (intro _ _; rfl) | (intro k _; exact h1 _) | (intro k _; simp only [lay, upd]; (repeat' split) <;> first | exact h1 _ | rfl)); intro W' hM'; clear hM; have hM := hM'; clear hM'; simp only [List.set] at hM) | (refine wpList_get rfl _ _ rfl _ _ rfl hM 0 rfl (rowTab _ _ rfl) (by omega) ?_) | (go_at_call 79; refine (hasCell_of g _ (s k).1 (s k).2 (lay_sp0 _ s k) (lay_sp1 _ s k) _).mono ?_; rintro e W' ⟨rfl, hb'⟩; rw [HB.out]; have hM' := hM.call hb'; have hE' := HE.out.below hM'.below; have v1 : W'.cell? ⟨1, 0, none⟩ = some (errV (a 1)) := hE'.vars 1 (by omega); clear hE'; clear hM hb'; have hM := hM'; clear hM'))
        go_ret
        exact ⟨ret_v (chkS_no (allB_no hlt HB.out)).symm, hM.below⟩
      · have HB := Lib.hid hB
        clear hB
        have tk_b2 : True := trivial
        go_wp2_with (first | (refine wpList_get rfl _ _ rfl _ _ rfl hM 1 rfl (rowTab _ _ rfl) (by omega) ?_) | (have _t := tk_b2; refine wpList_zero rfl _ rfl (zeroTab _ _ _ rfl) hM ?_; intro b2 W' hb2 hM'; clear hM tk_b2; have hM := hM'; clear hM') | (refine wpList_lay rfl _ _ _ rfl _ _ rfl _ _ rfl hM 0 rfl (by assumption) (rowTab _ _ rfl) (by omega) ?_ ?_; (first | (intro _ _; rfl) | (intro k _; exact h1 _) | (intro k _; simp only [lay, upd]; (repeat' split) <;> first | exact h1 _ | rfl)); intro W' hM'; clear hM; have hM := hM'; clear hM'; simp only [List.set] at hM) | (refine wpList_get rfl _ _ rfl _ _ rfl hM 0 rfl (rowTab _ _ rfl) (by omega) ?_) | (go_at_call 79; refine (hasCell_of g _ (s k).1 (s k).2 (lay_sp0 _ s k) (lay_sp1 _ s k) _).mono ?_; rintro e W' ⟨rfl, hb'⟩; rw [HB.out]; have hM' := hM.call hb'; clear hM hb'; have hM := hM'; clear hM'))
        go_roundw
        case rel => exact ⟨k + 1, by omega, by go_num, Lib.hid (fun j hj => by
          by_cases e : j = k
          · rw [e]; exact HB.out
          · exact hall.out j (by omega)), hM.drop⟩
        case measure => simp [intOf]; omega
    · obtain rfl : k = n := by omega
      go_wp2
      go_ret
      exact ⟨ret_v (chkS_yes (allB_yes hall.out)).symm, hM.below⟩
end Go.Proofs.YtbmaljhnldepoaaDoor

/-
  impl.ValidWalk by contract.
-/
namespace Go.Proofs.YtbmaljhnldepoaaDoor
open Go Go.RowKit Go.BigFrame

set_option maxRecDepth 100000 in
set_option maxHeartbeats 4000000 in
theorem implValidWalk_any {a : Nat → Addr} (g : Nat → Int) (hg : Fits g) (bw n c : Nat) (x y : Int) (s : Nat → Int × Int) (hcn : n ≤ c) (hn : n ≤ 1048576) (w : World) (hB : At w bw (n * 2) (sps s)) (hE : Errs2 a w) :
    Calls Tryd.prog 44 #[.agg (arr 122 (pas g)), .agg (arr 2 (sp x y)), .slice (some ⟨bw, 0, none⟩) n c] w fun e w' => e = .returned (.bool (validW g s n x y)) ∧ Below w.heap.size w w' := by
  have hM : Mem w [(bw, n * 2, sps s)] w := (Mem.nil w).old hB (fun i p h => by simp at h)
  have HE := Lib.hid hE
  have Hn2 := Lib.hid hn
  have Hn : Hid (n ≤ maxLen) := Lib.hid (by unfold maxLen; omega)
  clear hB hE
  cases ho : okB g
  · have Ho : Hid (validB g = false) := Lib.hid (by rw [← okB_eq]; exact ho)
    have Hp := Lib.hid (validW_1 (s := s) (n := n) (x := x) (y := y) ho)
    clear ho
    have tk_b1 : True := trivial; have tk_b2 : True := trivial; have tk_b3 : True := trivial; have tk_q1 : True := trivial; have tk_q2 : True := trivial
    go_enter Tryd.func44, Tryd.ntmps44
    go_wp2_with (first | (have _t := tk_b1; refine wpList_box rfl _ _ rfl _ _ rfl hM ?_; intro b1 W' hb1 hM'; clear hM tk_b1; have hM := hM'; clear hM') | (have _t := tk_b2; refine wpList_box rfl _ _ rfl _ _ rfl hM ?_; intro b2 W' hb2 hM'; clear hM tk_b2; have hM := hM'; clear hM') | (have _t := tk_q1; (refine wpList_get rfl _ _ rfl _ _ rfl hM 1 rfl (rowTab _ _ rfl) (by omega) ?_); clear tk_q1) | (have _t := tk_q2; (refine wpList_get rfl _ _ rfl _ _ rfl hM 0 rfl (rowTab _ _ rfl) (by omega) ?_); clear tk_q2) | (have _t := tk_b3; refine wpList_slice1 rfl _ _ _ rfl _ _ rfl _ spot_under spot_info (by omega) (by omega) hM ?_; intro b3 W' hb3 hM'; clear hM tk_b3; have hM := hM'; clear hM') | (go_at_call 55; refine (checkCells_bad2 g hg _ _ (HE.out.below hM.below) Ho.out).mono ?_; rintro e W' ⟨rfl, hb'⟩; have hM' := hM.call hb'; clear hM hb'; have hM := hM'; clear hM'))
    go_ret
    exact ⟨ret_bool Hp.out.symm, hM.below⟩
  have Hk := Lib.hid ho
  have Ho : Hid (validB g = true) := Lib.hid (by rw [← okB_eq]; exact ho)
  cases hi : isB g x y
  · have Hi : Hid (chkS a g (fun _ => (x, y)) 1 = errV (a 1)) := Lib.hid (chkS_no (by rw [allB_one]; exact hi))
    have Hp := Lib.hid (validW_2 (s := s) (n := n) (x := x) (y := y) hi)
    clear ho hi
    have tk_b1 : True := trivial; have tk_b2 : True := trivial; have tk_b3 : True := trivial; have tk_q1 : True := trivial; have tk_q2 : True := trivial
    go_enter Tryd.func44, Tryd.ntmps44
    go_wp2_with (first | (have _t := tk_b1; refine wpList_box rfl _ _ rfl _ _ rfl hM ?_; intro b1 W' hb1 hM'; clear hM tk_b1; have hM := hM'; clear hM') | (have _t := tk_b2; refine wpList_box rfl _ _ rfl _ _ rfl hM ?_; intro b2 W' hb2 hM'; clear hM tk_b2; have hM := hM'; clear hM') | (have _t := tk_q1; (refine wpList_get rfl _ _ rfl _ _ rfl hM 1 rfl (rowTab _ _ rfl) (by omega) ?_); clear tk_q1) | (have _t := tk_q2; (refine wpList_get rfl _ _ rfl _ _ rfl hM 0 rfl (rowTab _ _ rfl) (by omega) ?_); clear tk_q2) | (have _t := tk_b3; refine wpList_slice1 rfl _ _ _ rfl _ _ rfl _ spot_under spot_info (by omega) (by omega) hM ?_; intro b3 W' hb3 hM'; clear hM tk_b3; have hM := hM'; clear hM') | (go_at_call 55; refine (checkCells_some2 g hg _ 1 1 2 (fun _ => (x, y)) (by omega) (by decide) _ ((hM.ats 0 _ _ _ rfl).congr (sp_sps0 _ _)) (HE.out.below hM.below) Ho.out).mono ?_; rintro e W' ⟨rfl, hb'⟩; rw [Hi.out]; have hM' := hM.call hb'; clear hM hb'; have hM := hM'; clear hM'))
    go_ret
    exact ⟨ret_bool Hp.out.symm, hM.below⟩
  have Hi : Hid (chkS a g (fun _ => (x, y)) 1 = .nilIface) := Lib.hid (chkS_yes (by rw [allB_one]; exact hi))
  have Hv := Lib.hid (validW_4 (s := s) (n := n) ho hi)
  clear ho hi
  rcases (show (n : Int) < 1 ∨ (1 ≤ (n : Int) ∧ 200 < (n : Int)) ∨ (1 ≤ (n : Int) ∧ (n : Int) ≤ 200) by omega) with r0 | ⟨r0, r1⟩ | ⟨r0, r1⟩
  · have Hp : Hid (walkB g s n x y = false) := Lib.hid (walkB_len (inB_no (by omega)))
    have d0 : decide ((n : Int) < 1) = true := decide_eq_true r0
    have tk_b1 : True := trivial; have tk_b2 : True := trivial; have tk_b3 : True := trivial; have tk_q1 : True := trivial; have tk_q2 : True := trivial
    go_enter Tryd.func44, Tryd.ntmps44
    go_wp2_with (first | (have _t := tk_b1; refine wpList_box rfl _ _ rfl _ _ rfl hM ?_; intro b1 W' hb1 hM'; clear hM tk_b1; have hM := hM'; clear hM') | (have _t := tk_b2; refine wpList_box rfl _ _ rfl _ _ rfl hM ?_; intro b2 W' hb2 hM'; clear hM tk_b2; have hM := hM'; clear hM') | (have _t := tk_q1; (refine wpList_get rfl _ _ rfl _ _ rfl hM 1 rfl (rowTab _ _ rfl) (by omega) ?_); clear tk_q1) | (have _t := tk_q2; (refine wpList_get rfl _ _ rfl _ _ rfl hM 0 rfl (rowTab _ _ rfl) (by omega) ?_); clear tk_q2) | (have _t := tk_b3; refine wpList_slice1 rfl _ _ _ rfl _ _ rfl _ spot_under spot_info (by omega) (by omega) hM ?_; intro b3 W' hb3 hM'; clear hM tk_b3; have hM := hM'; clear hM') | (go_at_call 55; refine (checkCells_some2 g hg _ 1 1 2 (fun _ => (x, y)) (by omega) (by decide) _ ((hM.ats 0 _ _ _ rfl).congr (sp_sps0 _ _)) (HE.out.below hM.below) Ho.out).mono ?_; rintro e W' ⟨rfl, hb'⟩; rw [Hi.out]; have hM' := hM.call hb'; clear hM hb'; have hM := hM'; clear hM'))
    go_ret
    exact ⟨ret_bool (by rw [Hv.out, Hp.out]), hM.below⟩
  · have Hp : Hid (walkB g s n x y = false) := Lib.hid (walkB_len (inB_no (by omega)))
    have d0 : decide ((n : Int) < 1) = false := decide_eq_false (by omega)
    have d1 : decide (200 < (n : Int)) = true := decide_eq_true r1
    have tk_b1 : True := trivial; have tk_b2 : True := trivial; have tk_b3 : True := trivial; have tk_q1 : True := trivial; have tk_q2 : True := trivial
    go_enter Tryd.func44, Tryd.ntmps44
    go_wp2_with (first | (have _t := tk_b1; refine wpList_box rfl _ _ rfl _ _ rfl hM ?_; intro b1 W' hb1 hM'; clear hM tk_b1; have hM := hM'; clear hM') | (have _t := tk_b2; refine wpList_box rfl _ _ rfl _ _ rfl hM ?_; intro b2 W' hb2 hM'; clear hM tk_b2; have hM := hM'; clear hM') | (have _t := tk_q1; (refine wpList_get rfl _ _ rfl _ _ rfl hM 1 rfl (rowTab _ _ rfl) (by omega) ?_); clear tk_q1) | (have _t := tk_q2; (refine wpList_get rfl _ _ rfl _ _ rfl hM 0 rfl (rowTab _ _ rfl) (by omega) ?_); clear tk_q2) | (have _t := tk_b3; refine wpList_slice1 rfl _ _ _ rfl _ _ rfl _ spot_under spot_info (by omega) (by omega) hM ?_; intro b3 W' hb3 hM'; clear hM tk_b3; have hM := hM'; clear hM') | (go_at_call 55; refine (checkCells_some2 g hg _ 1 1 2 (fun _ => (x, y)) (by omega) (by decide) _ ((hM.ats 0 _ _ _ rfl).congr (sp_sps0 _ _)) (HE.out.below hM.below) Ho.out).mono ?_; rintro e W' ⟨rfl, hb'⟩; rw [Hi.out]; have hM' := hM.call hb'; clear hM hb'; have hM := hM'; clear hM'))
    go_ret
    exact ⟨ret_bool (by rw [Hv.out, Hp.out]), hM.below⟩
  have hlen : inB 1 200 (n : Int) = true := inB_yes ⟨r0, r1⟩
  have d0 : decide ((n : Int) < 1) = false := decide_eq_false (by omega)
  have d1 : decide (200 < (n : Int)) = false := decide_eq_false (by omega)
  cases ha : allB g s n
  · have Ha : Hid (chkS a g s n = errV (a 1)) := Lib.hid (chkS_no ha)
    have Hp := Lib.hid (walkB_all (x := x) (y := y) ha)
    clear ha
    have tk_b1 : True := trivial; have tk_b2 : True := trivial; have tk_b3 : True := trivial; have tk_q1 : True := trivial; have tk_q2 : True := trivial; have tk_q3 : True := trivial; have tk_k1 : True := trivial
    go_enter Tryd.func44, Tryd.ntmps44
    go_wp2_with (first | (have _t := tk_b1; refine wpList_box rfl _ _ rfl _ _ rfl hM ?_; intro b1 W' hb1 hM'; clear hM tk_b1; have hM := hM'; clear hM') | (have _t := tk_b2; refine wpList_box rfl _ _ rfl _ _ rfl hM ?_; intro b2 W' hb2 hM'; clear hM tk_b2; have hM := hM'; clear hM') | (have _t := tk_q1; (refine wpList_get rfl _ _ rfl _ _ rfl hM 1 rfl (rowTab _ _ rfl) (by omega) ?_); clear tk_q1) | (have _t := tk_q2; (refine wpList_get rfl _ _ rfl _ _ rfl hM 0 rfl (rowTab _ _ rfl) (by omega) ?_); clear tk_q2) | (have _t := tk_b3; refine wpList_slice1 rfl _ _ _ rfl _ _ rfl _ spot_under spot_info (by omega) (by omega) hM ?_; intro b3 W' hb3 hM'; clear hM tk_b3; have hM := hM'; clear hM') | (have _t := tk_k1; (go_at_call 55; refine (checkCells_some2 g hg _ 1 1 2 (fun _ => (x, y)) (by omega) (by decide) _ ((hM.ats 0 _ _ _ rfl).congr (sp_sps0 _ _)) (HE.out.below hM.below) Ho.out).mono ?_; rintro e W' ⟨rfl, hb'⟩; rw [Hi.out]; have hM' := hM.call hb'; clear hM hb'; have hM := hM'; clear hM'); clear tk_k1) | (have _t := tk_q3; (refine wpList_get rfl _ _ rfl _ _ rfl hM 2 rfl (rowTab _ _ rfl) (by omega) ?_); clear tk_q3) | (go_at_call 55; refine (checkCells_some2 g hg bw n c (n * 2) s (by omega) Hn.out _ (hM.ats 3 _ _ _ rfl) (HE.out.below hM.below) Ho.out).mono ?_; rintro e W' ⟨rfl, hb'⟩; rw [Ha.out]; have hM' := hM.call hb'; clear hM hb'; have hM := hM'; clear hM'))
    go_ret
    exact ⟨ret_bool (by rw [Hv.out, Hp.out]), hM.below⟩
  have Ha : Hid (chkS a g s n = .nilIface) := Lib.hid (chkS_yes ha)
  cases hc : hasS s n x y
  case true =>
    have Hc := Lib.hid hc
    have Hp := Lib.hid (walkB_has (g := g) hc)
    clear ha hc
    have tk_b1 : True := trivial; have tk_b2 : True := trivial; have tk_b3 : True := trivial; have tk_q1 : True := trivial; have tk_q2 : True := trivial; have tk_q3 : True := trivial; have tk_q4 : True := trivial; have tk_k1 : True := trivial
    go_enter Tryd.func44, Tryd.ntmps44
    go_wp2_with (first | (have _t := tk_b1; refine wpList_box rfl _ _ rfl _ _ rfl hM ?_; intro b1 W' hb1 hM'; clear hM tk_b1; have hM := hM'; clear hM') | (have _t := tk_b2; refine wpList_box rfl _ _ rfl _ _ rfl hM ?_; intro b2 W' hb2 hM'; clear hM tk_b2; have hM := hM'; clear hM') | (have _t := tk_q1; (refine wpList_get rfl _ _ rfl _ _ rfl hM 1 rfl (rowTab _ _ rfl) (by omega) ?_); clear tk_q1) | (have _t := tk_q2; (refine wpList_get rfl _ _ rfl _ _ rfl hM 0 rfl (rowTab _ _ rfl) (by omega) ?_); clear tk_q2) | (have _t := tk_b3; refine wpList_slice1 rfl _ _ _ rfl _ _ rfl _ spot_under spot_info (by omega) (by omega) hM ?_; intro b3 W' hb3 hM'; clear hM tk_b3; have hM := hM'; clear hM') | (have _t := tk_k1; (go_at_call 55; refine (checkCells_some2 g hg _ 1 1 2 (fun _ => (x, y)) (by omega) (by decide) _ ((hM.ats 0 _ _ _ rfl).congr (sp_sps0 _ _)) (HE.out.below hM.below) Ho.out).mono ?_; rintro e W' ⟨rfl, hb'⟩; rw [Hi.out]; have hM' := hM.call hb'; clear hM hb'; have hM := hM'; clear hM'); clear tk_k1) | (have _t := tk_q3; (refine wpList_get rfl _ _ rfl _ _ rfl hM 2 rfl (rowTab _ _ rfl) (by omega) ?_); clear tk_q3) | (go_at_call 55; refine (checkCells_some2 g hg bw n c (n * 2) s (by omega) Hn.out _ (hM.ats 3 _ _ _ rfl) (HE.out.below hM.below) Ho.out).mono ?_; rintro e W' ⟨rfl, hb'⟩; rw [Ha.out]; have hM' := hM.call hb'; clear hM hb'; have hM := hM'; clear hM') | (have _t := tk_q4; (refine wpList_gget ?_ _ _ rfl _ _ rfl hM 1 rfl (rowTab _ _ rfl) (by omega) ?_; kernel_rfl); clear tk_q4) | (go_at_call 91; refine (containsSpot_any _ n s x y Hn2.out _ (.inr ⟨bw, c, n * 2, sps s, rfl, Nat.le_refl _, hM.ats 3 _ _ _ rfl, fun _ _ => rfl⟩)).mono ?_; rintro e W' ⟨rfl, hb'⟩; rw [Hc.out]; have hM' := hM.call hb'; clear hM hb'; have hM := hM'; clear hM'))
    go_ret
    exact ⟨ret_bool (by rw [Hv.out, Hp.out]), hM.below⟩
  have Hc := Lib.hid hc
  have Hat := Lib.hid (okAt_of ha hc)
  have Hall := Lib.hid ha
  have Hlen := Lib.hid hlen
  clear ha hc hlen
  have tk_b1 : True := trivial; have tk_b2 : True := trivial; have tk_b3 : True := trivial; have tk_q1 : True := trivial; have tk_q2 : True := trivial; have tk_q3 : True := trivial; have tk_q4 : True := trivial; have tk_k1 : True := trivial
  go_enter Tryd.func44, Tryd.ntmps44
  go_wp2_with (first | (have _t := tk_b1; refine wpList_box rfl _ _ rfl _ _ rfl hM ?_; intro b1 W' hb1 hM'; clear hM tk_b1; have hM := hM'; clear hM') | (have _t := tk_b2; refine wpList_box rfl _ _ rfl _ _ rfl hM ?_; intro b2 W' hb2 hM'; clear hM tk_b2; have hM := hM'; clear hM') | (have _t := tk_q1; (refine wpList_get rfl _ _ rfl _ _ rfl hM 1 rfl (rowTab _ _ rfl) (by omega) ?_); clear tk_q1) | (have _t := tk_q2; (refine wpList_get rfl _ _ rfl _ _ rfl hM 0 rfl (rowTab _ _ rfl) (by omega) ?_); clear tk_q2) | (have _t := tk_b3; refine wpList_slice1 rfl _ _ _ rfl _ _ rfl _ spot_under spot_info (by omega) (by omega) hM ?_; intro b3 W' hb3 hM'; clear hM tk_b3; have hM := hM'; clear hM') | (have _t := tk_k1; (go_at_call 55; refine (checkCells_some2 g hg _ 1 1 2 (fun _ => (x, y)) (by omega) (by decide) _ ((hM.ats 0 _ _ _ rfl).congr (sp_sps0 _ _)) (HE.out.below hM.below) Ho.out).mono ?_; rintro e W' ⟨rfl, hb'⟩; rw [Hi.out]; have hM' := hM.call hb'; clear hM hb'; have hM := hM'; clear hM'); clear tk_k1) | (have _t := tk_q3; (refine wpList_get rfl _ _ rfl _ _ rfl hM 2 rfl (rowTab _ _ rfl) (by omega) ?_); clear tk_q3) | (go_at_call 55; refine (checkCells_some2 g hg bw n c (n * 2) s (by omega) Hn.out _ (hM.ats 3 _ _ _ rfl) (HE.out.below hM.below) Ho.out).mono ?_; rintro e W' ⟨rfl, hb'⟩; rw [Ha.out]; have hM' := hM.call hb'; clear hM hb'; have hM := hM'; clear hM') | (have _t := tk_q4; (refine wpList_gget ?_ _ _ rfl _ _ rfl hM 1 rfl (rowTab _ _ rfl) (by omega) ?_; kernel_rfl); clear tk_q4) | (go_at_call 91; refine (containsSpot_any _ n s x y Hn2.out _ (.inr ⟨bw, c, n * 2, sps s, rfl, Nat.le_refl _, hM.ats 3 _ _ _ rfl, fun _ _ => rfl⟩)).mono ?_; rintro e W' ⟨rfl, hb'⟩; rw [Hc.out]; have hM' := hM.call hb'; clear hM hb'; have hM := hM'; clear hM'))
  go_at_call 92
  refine (stepsOf_any bw n c (by omega) hcn Hn2.out _).mono ?_
  rintro e W2 ⟨v0, rfl, hL⟩
  have LB : True := trivial
  rcases Nat.lt_or_ge 1 n with hn1 | hn1
  case inr =>
    obtain ⟨aa, ca, rfl, hbl⟩ := hL.zero (by omega)
    have hM' := hM.call hbl
    clear hM hbl hL
    have hM := hM'
    clear hM'
    have Hp : Hid (walkB g s n x y = true) := Lib.hid (walkB_yes Hlen.out Hat.out (fun k hk => absurd hk (by omega)))
    have e1 : n - 1 = 0 := by omega
    go_wp2
    refine wp_loop_rounds 1 ?_
    rw [rounds_succ]
    go_wp2
    go_ret
    exact ⟨ret_bool (by rw [Hv.out, Hp.out]), hM.below⟩
  obtain ⟨bA, cA, FA, rfl, hbA, hcA, hFA, hAA, hbl⟩ := hL.some (by omega)
  have hM' := hM.freshH hbl hAA hbA
  clear hM hAA hbl hL
  have hM := hM'
  clear hM'
  have HF := Lib.hid hFA
  clear hFA
  have hn1c : ((n - 1 : Nat) : Int) = (n : Int) - 1 := by omega
  go_wp2
  go_loopw [8, 36] (fun v i wr => ∃ q : Nat, q ≤ n - 1 ∧ i = .int .i64 q ∧ Hid (∀ j, j < q → joinB g (s j) (s (j + 1)) = true) ∧ Mem w [(bA, cA * 1, FA), (b3, 2, fun k => sp x y (0 + k)), (b2, 2, sp x y), (b1, 122, pas g), (bw, n * 2, sps s)] wr) (fun _ i _ => n - 1 - (intOf i).toNat)
  case atStart => exact ⟨0, by omega, rfl, Lib.hid (fun j hj => absurd hj (by omega)), hM⟩
  case round =>
    clear hM
    obtain ⟨q, hq, rfl, hjo, hM⟩ := hrel
    by_cases hlt : q < n - 1
    case neg =>
      obtain rfl : q = n - 1 := by omega
      have Hp : Hid (walkB g s n x y = true) := Lib.hid (walkB_yes Hlen.out Hat.out (fun k hk => hjo.out k (by omega)))
      go_wp2
      go_ret
      exact ⟨ret_bool (by rw [Hv.out, Hp.out]), hM.below⟩
    have l2 : (q : Int) < ((n - 1 : Nat) : Int) := by omega
    have l3 : decide ((q : Int) < ((n - 1 : Nat) : Int)) = true := decide_eq_true l2
    have eF : FA q = .slice (some ⟨bw, q * 2, none⟩) 2 2 := (HF.out q (by omega)).trans rfl
    have er : arr 2 (fun j => sps s (q * 2 + j)) = arr 2 (sp (s q).1 (s q).2) := arr_congr fun j hj => sps_row _ _ _ hj
    have er1 : arr 2 (fun j => sps s ((q + 1) * 2 + j)) = arr 2 (sp (s (q + 1)).1 (s (q + 1)).2) := arr_congr fun j hj => sps_row _ _ _ hj
    have eq1 : q * 2 + 2 = (q + 1) * 2 := by omega
    have hqe := neq_spot (s q).1 (s q).2 (s (q + 1)).1 (s (q + 1)).2
    have hiq : isB g (s q).1 (s q).2 = true := by
      have := Hat.out q (by omega)
      unfold okAt at this
      rw [Bool.and_eq_true] at this
      exact this.1
    have hbq := isB_bounds Hk.out hiq
    have Hx : Hid (0 ≤ (s q).1 ∧ (s q).1 ≤ 9) := Lib.hid (by omega)
    have Hy : Hid (0 ≤ (s q).2 ∧ (s q).2 ≤ 9) := Lib.hid (by omega)
    clear hiq hbq
    have hjq : joinB g (s q) (s (q + 1)) = (((s q).1 == (s (q + 1)).1) && ((s q).2 == (s (q + 1)).2) || stepB g (s q).1 (s q).2 (s (q + 1)).1 (s (q + 1)).2) := by
      unfold joinB
      rw [beq_swap (s (q + 1)).1, beq_swap (s (q + 1)).2]
    cases hs : (((s q).1 == (s (q + 1)).1) && ((s q).2 == (s (q + 1)).2))
    case true =>
      rw [hs] at hjq hqe
      have Hj : Hid (joinB g (s q) (s (q + 1)) = true) := Lib.hid (by rw [hjq]; rfl)
      clear hjq
      go_wp2_with (first | (refine wpList_get1 rfl _ _ rfl _ _ rfl hM 0 rfl spots_cell (by omega) _ eF ?_))
      ((try simp only [Act.put, List.setIfInBounds_toArray, List.set_cons_succ, List.set_cons_zero]); refine wp_region_mem (by kernel_rfl) (by kernel_rfl) hM ?_; clear hM; (repeat (first | go_big_quiet_skip | (go_big_quiet_want; first | (refine quiet_get _ _ rfl _ _ rfl 4 rfl (rowTab _ 2 rfl) (by omega) ?_; (simp only [er]); (simp only [Act.put, List.setIfInBounds_toArray, List.set_cons_succ, List.set_cons_zero]); go_big_quiet_on) | (refine quiet_get _ _ rfl _ _ rfl 4 rfl (rowTab _ 2 rfl) (by omega) ?_; ((try rw [eq1]); simp only [er1]); (simp only [Act.put, List.setIfInBounds_toArray, List.set_cons_succ, List.set_cons_zero]); go_big_quiet_on) | (refine quiet_val ?_; apply Exists.intro; refine ⟨fun W => ?_, ?_⟩; (go_simp; (try simp only [l2, l3, hqe, if_true, Bool.false_eq_true, if_false]); rfl); (simp only [Act.put, List.setIfInBounds_toArray, List.set_cons_succ, List.set_cons_zero]); go_big_quiet_on)))); (with_reducible refine wpQuiet_nil ?_); intro W' hM)
      go_wp2
      go_roundw
      case rel => exact ⟨q + 1, by omega, by go_num, Lib.hid (fun j hj => by
        by_cases e : j = q
        · rw [e]; exact Hj.out
        · exact hjo.out j (by omega)), hM⟩
      case measure => simp [intOf]; omega
    rw [hs] at hjq hqe
    cases hz : stepB g (s q).1 (s q).2 (s (q + 1)).1 (s (q + 1)).2
    all_goals
      rw [hz] at hjq
      have Hj := Lib.hid hjq
      clear hjq
      go_wp2_with (first | (refine wpList_get1 rfl _ _ rfl _ _ rfl hM 0 rfl spots_cell (by omega) _ eF ?_))
      ((try simp only [Act.put, List.setIfInBounds_toArray, List.set_cons_succ, List.set_cons_zero]); refine wp_region_mem (by kernel_rfl) (by kernel_rfl) hM ?_; clear hM; (repeat (first | go_big_quiet_skip | (go_big_quiet_want; first | (refine quiet_get _ _ rfl _ _ rfl 4 rfl (rowTab _ 2 rfl) (by omega) ?_; (simp only [er]); (simp only [Act.put, List.setIfInBounds_toArray, List.set_cons_succ, List.set_cons_zero]); go_big_quiet_on) | (refine quiet_get _ _ rfl _ _ rfl 4 rfl (rowTab _ 2 rfl) (by omega) ?_; ((try rw [eq1]); simp only [er1]); (simp only [Act.put, List.setIfInBounds_toArray, List.set_cons_succ, List.set_cons_zero]); go_big_quiet_on) | (refine quiet_get _ _ rfl _ _ rfl 3 rfl (rowTab _ _ rfl) (by omega) ?_; (simp only [Act.put, List.setIfInBounds_toArray, List.set_cons_succ, List.set_cons_zero]); go_big_quiet_on) | (refine quiet_call ?_; apply Exists.intro; apply Exists.intro; apply Exists.intro; refine ⟨fun W => ?_, fun W hM => ?_, ?_⟩; (go_simp; exact ⟨rfl, rfl⟩); (with_reducible exact canStep_any g hg Hk.out (s q).1 (s q).2 Hx.out Hy.out (s (q + 1)).1 (s (q + 1)).2 W); (simp only [hz]); (simp only [Act.put, List.setIfInBounds_toArray, List.set_cons_succ, List.set_cons_zero]); go_big_quiet_on) | (refine quiet_val ?_; apply Exists.intro; refine ⟨fun W => ?_, ?_⟩; (go_simp; (try simp only [l2, l3, hqe, if_true, Bool.false_eq_true, if_false]); rfl); (simp only [Act.put, List.setIfInBounds_toArray, List.set_cons_succ, List.set_cons_zero]); go_big_quiet_on)))); (with_reducible refine wpQuiet_nil ?_); intro W' hM)
      go_wp2
    · go_ret
      exact ⟨ret_bool (by rw [Hv.out, walkB_join (k := q) (by omega) (by rw [Hj.out]; rfl)]), hM.below⟩
    · go_roundw
      case rel => exact ⟨q + 1, by omega, by go_num, Lib.hid (fun j hj => by
        by_cases e : j = q
        · rw [e, Hj.out]; rfl
        · exact hjo.out j (by omega)), hM⟩
      case measure => simp [intOf]; omega
end Go.Proofs.YtbmaljhnldepoaaDoor

/-
  impl.WindsOf by contract.
-/
namespace Go.Proofs.YtbmaljhnldepoaaDoor
open Go Go.RowKit Go.BigFrame

theorem joins_of {g : Nat → Int} {s : Nat → Int × Int} {n : Nat} {x y : Int} (h : walkB g s n x y = true) : (1 ≤ (n : Int) ∧ (n : Int) ≤ 200) ∧ (∀ k, k < n → isB g (s k).1 (s k).2 = true) ∧ ∀ k, k + 1 < n → joinB g (s k) (s (k + 1)) = true := by
  unfold walkB at h
  rw [Bool.and_eq_true, Bool.and_eq_true] at h
  refine ⟨inB_true h.1.1, fun k hk => ?_, fun k hk => ?_⟩
  · have := List.all_eq_true.1 h.1.2 k (by simpa using hk)
    unfold okAt at this
    rw [Bool.and_eq_true] at this
    exact this.1
  · exact List.all_eq_true.1 h.2 k (by simp; omega)

set_option maxRecDepth 100000 in
set_option maxHeartbeats 4000000 in
theorem implWindsOf_any {a : Nat → Addr} (g : Nat → Int) (hg : Fits g) (bw n c : Nat) (x y : Int) (s : Nat → Int × Int) (hcn : n ≤ c) (hn : n ≤ 1048576) (w : World) (hB : At w bw (n * 2) (sps s)) (hE : Errs a w) :
    Calls Tryd.prog 46 #[.agg (arr 122 (pas g)), .agg (arr 2 (sp x y)), .slice (some ⟨bw, 0, none⟩) n c] w fun e w' => e = .returned (numR (windN g s n x y) (ropedC g s n x y 0)) ∧ Below w.heap.size w w' := by
  have hM : Mem w [(bw, n * 2, sps s)] w := (Mem.nil w).old hB (fun i p h => by simp at h)
  have HE := Lib.hid hE
  clear hB hE
  have e0 : inB 0 1000 0 = true := by decide
  have hR : ropedC g s n x y 0 = if askC g x y true = 0 then (if walkB g s n x y = true then 0 else 4) else askC g x y true := by unfold ropedC; rw [e0]
  have hW : windN g s n x y = if ropedC g s n x y 0 = 0 then sumW (dS x y) s (n - 1) else 0 := rfl
  rcases askC_cases g x y true with ⟨ho, hc⟩ | ⟨ho, hi, hc⟩ | ⟨ho, hi, -, hc⟩
  · rw [hc] at hR
    rw [hW, hR]
    have Ho : Hid (validB g = false) := Lib.hid (by rw [← okB_eq]; exact ho)
    clear ho hc hR hW
    have tk_b1 : True := trivial; have tk_b2 : True := trivial; have tk_b3 : True := trivial; have tk_q1 : True := trivial; have tk_q2 : True := trivial
    go_enter Tryd.func46, Tryd.ntmps46
    go_wp2_with (first | (have _t := tk_b1; refine wpList_box rfl _ _ rfl _ _ rfl hM ?_; intro b1 W' hb1 hM'; clear hM tk_b1; have hM := hM'; clear hM') | (have _t := tk_b2; refine wpList_box rfl _ _ rfl _ _ rfl hM ?_; intro b2 W' hb2 hM'; clear hM tk_b2; have hM := hM'; clear hM') | (have _t := tk_q1; (refine wpList_get rfl _ _ rfl _ _ rfl hM 1 rfl (rowTab _ _ rfl) (by omega) ?_); clear tk_q1) | (have _t := tk_q2; (refine wpList_get rfl _ _ rfl _ _ rfl hM 0 rfl (rowTab _ _ rfl) (by omega) ?_); clear tk_q2) | (have _t := tk_b3; refine wpList_slice1 rfl _ _ _ rfl _ _ rfl _ spot_under spot_info (by omega) (by omega) hM ?_; intro b3 W' hb3 hM'; clear hM tk_b3; have hM := hM'; clear hM') | (go_at_call 55; refine (checkCells_bad2 g hg _ _ (HE.out.two.below hM.below) Ho.out).mono ?_; rintro e W' ⟨rfl, hb'⟩; have hM' := hM.call hb'; clear hM hb'; have hM := hM'; clear hM') | (go_at_call 56; (with_reducible refine (codeOf_0 (HE.out.below hM.below)).mono ?_); rintro e W' ⟨rfl, rfl⟩))
    go_ret2
    exact ⟨ret_num rfl rfl, hM.below⟩
  · rw [hc] at hR
    rw [hW, hR]
    have Ho : Hid (validB g = true) := Lib.hid (by rw [← okB_eq]; exact ho)
    have Hi : Hid (chkS a g (fun _ => (x, y)) 1 = errV (a 1)) := Lib.hid (chkS_no (by rw [allB_one]; simpa using hi))
    clear ho hc hi hR hW
    have tk_b1 : True := trivial; have tk_b2 : True := trivial; have tk_b3 : True := trivial; have tk_q1 : True := trivial; have tk_q2 : True := trivial
    go_enter Tryd.func46, Tryd.ntmps46
    go_wp2_with (first | (have _t := tk_b1; refine wpList_box rfl _ _ rfl _ _ rfl hM ?_; intro b1 W' hb1 hM'; clear hM tk_b1; have hM := hM'; clear hM') | (have _t := tk_b2; refine wpList_box rfl _ _ rfl _ _ rfl hM ?_; intro b2 W' hb2 hM'; clear hM tk_b2; have hM := hM'; clear hM') | (have _t := tk_q1; (refine wpList_get rfl _ _ rfl _ _ rfl hM 1 rfl (rowTab _ _ rfl) (by omega) ?_); clear tk_q1) | (have _t := tk_q2; (refine wpList_get rfl _ _ rfl _ _ rfl hM 0 rfl (rowTab _ _ rfl) (by omega) ?_); clear tk_q2) | (have _t := tk_b3; refine wpList_slice1 rfl _ _ _ rfl _ _ rfl _ spot_under spot_info (by omega) (by omega) hM ?_; intro b3 W' hb3 hM'; clear hM tk_b3; have hM := hM'; clear hM') | (go_at_call 55; refine (checkCells_some2 g hg _ 1 1 2 (fun _ => (x, y)) (by omega) (by decide) _ ((hM.ats 0 _ _ _ rfl).congr (sp_sps0 _ _)) (HE.out.two.below hM.below) Ho.out).mono ?_; rintro e W' ⟨rfl, hb'⟩; rw [Hi.out]; have hM' := hM.call hb'; clear hM hb'; have hM := hM'; clear hM') | (go_at_call 56; (with_reducible refine (codeOf_1 (HE.out.below hM.below)).mono ?_); rintro e W' ⟨rfl, rfl⟩))
    go_ret2
    exact ⟨ret_num rfl rfl, hM.below⟩
  rw [hc] at hR
  have hb := isB_bounds ho hi
  have Hk := Lib.hid ho
  have Ho : Hid (validB g = true) := Lib.hid (by rw [← okB_eq]; exact ho)
  have Hi : Hid (chkS a g (fun _ => (x, y)) 1 = .nilIface) := Lib.hid (chkS_yes (by rw [allB_one]; simpa using hi))
  have hv := validW_4 (s := s) (n := n) ho hi
  have Hx : Hid (0 ≤ x ∧ x ≤ 9) := Lib.hid (by omega)
  have Hy : Hid (0 ≤ y ∧ y ≤ 9) := Lib.hid (by omega)
  clear ho hc hi hb
  cases hw : walkB g s n x y
  · rw [hw] at hR hv
    rw [hW, hR]
    have Hv := Lib.hid hv
    clear hW hR hw hv
    have tk_b1 : True := trivial; have tk_b2 : True := trivial; have tk_b3 : True := trivial; have tk_q1 : True := trivial; have tk_q2 : True := trivial; have tk_q3 : True := trivial; have tk_q4 : True := trivial
    go_enter Tryd.func46, Tryd.ntmps46
    go_wp2_with (first | (have _t := tk_b1; refine wpList_box rfl _ _ rfl _ _ rfl hM ?_; intro b1 W' hb1 hM'; clear hM tk_b1; have hM := hM'; clear hM') | (have _t := tk_b2; refine wpList_box rfl _ _ rfl _ _ rfl hM ?_; intro b2 W' hb2 hM'; clear hM tk_b2; have hM := hM'; clear hM') | (have _t := tk_q1; (refine wpList_get rfl _ _ rfl _ _ rfl hM 1 rfl (rowTab _ _ rfl) (by omega) ?_); clear tk_q1) | (have _t := tk_q2; (refine wpList_get rfl _ _ rfl _ _ rfl hM 0 rfl (rowTab _ _ rfl) (by omega) ?_); clear tk_q2) | (have _t := tk_b3; refine wpList_slice1 rfl _ _ _ rfl _ _ rfl _ spot_under spot_info (by omega) (by omega) hM ?_; intro b3 W' hb3 hM'; clear hM tk_b3; have hM := hM'; clear hM') | (go_at_call 55; refine (checkCells_some2 g hg _ 1 1 2 (fun _ => (x, y)) (by omega) (by decide) _ ((hM.ats 0 _ _ _ rfl).congr (sp_sps0 _ _)) (HE.out.two.below hM.below) Ho.out).mono ?_; rintro e W' ⟨rfl, hb'⟩; rw [Hi.out]; have hM' := hM.call hb'; clear hM hb'; have hM := hM'; clear hM') | (have _t := tk_q3; (refine wpList_get rfl _ _ rfl _ _ rfl hM 2 rfl (rowTab _ _ rfl) (by omega) ?_); clear tk_q3) | (have _t := tk_q4; (refine wpList_get rfl _ _ rfl _ _ rfl hM 1 rfl (rowTab _ _ rfl) (by omega) ?_); clear tk_q4) | (go_at_call 44; refine (implValidWalk_any g hg bw n c x y s hcn hn _ (hM.ats 3 _ _ _ rfl) (HE.out.two.below hM.below)).mono ?_; rintro e W' ⟨rfl, hb'⟩; rw [Hv.out]; have hM' := hM.call hb'; clear hM hb'; have hM := hM'; clear hM'))
    go_ret2
    exact ⟨ret_num rfl rfl, hM.below⟩
  rw [hw] at hR hv
  rw [hW, hR]
  have Hv := Lib.hid hv
  obtain ⟨hl, hat, hjo⟩ := joins_of hw
  have Hat := Lib.hid hat
  have hse : ∀ m, m ≤ n - 1 → sumW (dI x y) s m = sumW (dS x y) s m := fun m hm => sumW_eq m (fun k hk => dS_dI (hjo k (by omega)))
  have Hse := Lib.hid hse
  clear hW hR hw hv hat hjo hse
  have tk_b1 : True := trivial; have tk_b2 : True := trivial; have tk_b3 : True := trivial; have tk_q1 : True := trivial; have tk_q2 : True := trivial; have tk_q3 : True := trivial; have tk_q4 : True := trivial
  go_enter Tryd.func46, Tryd.ntmps46
  go_wp2_with (first | (have _t := tk_b1; refine wpList_box rfl _ _ rfl _ _ rfl hM ?_; intro b1 W' hb1 hM'; clear hM tk_b1; have hM := hM'; clear hM') | (have _t := tk_b2; refine wpList_box rfl _ _ rfl _ _ rfl hM ?_; intro b2 W' hb2 hM'; clear hM tk_b2; have hM := hM'; clear hM') | (have _t := tk_q1; (refine wpList_get rfl _ _ rfl _ _ rfl hM 1 rfl (rowTab _ _ rfl) (by omega) ?_); clear tk_q1) | (have _t := tk_q2; (refine wpList_get rfl _ _ rfl _ _ rfl hM 0 rfl (rowTab _ _ rfl) (by omega) ?_); clear tk_q2) | (have _t := tk_b3; refine wpList_slice1 rfl _ _ _ rfl _ _ rfl _ spot_under spot_info (by omega) (by omega) hM ?_; intro b3 W' hb3 hM'; clear hM tk_b3; have hM := hM'; clear hM') | (go_at_call 55; refine (checkCells_some2 g hg _ 1 1 2 (fun _ => (x, y)) (by omega) (by decide) _ ((hM.ats 0 _ _ _ rfl).congr (sp_sps0 _ _)) (HE.out.two.below hM.below) Ho.out).mono ?_; rintro e W' ⟨rfl, hb'⟩; rw [Hi.out]; have hM' := hM.call hb'; clear hM hb'; have hM := hM'; clear hM') | (have _t := tk_q3; (refine wpList_get rfl _ _ rfl _ _ rfl hM 2 rfl (rowTab _ _ rfl) (by omega) ?_); clear tk_q3) | (have _t := tk_q4; (refine wpList_get rfl _ _ rfl _ _ rfl hM 1 rfl (rowTab _ _ rfl) (by omega) ?_); clear tk_q4) | (go_at_call 44; refine (implValidWalk_any g hg bw n c x y s hcn hn _ (hM.ats 3 _ _ _ rfl) (HE.out.two.below hM.below)).mono ?_; rintro e W' ⟨rfl, hb'⟩; rw [Hv.out]; have hM' := hM.call hb'; clear hM hb'; have hM := hM'; clear hM'))
  go_at_call 92
  refine (stepsOf_any bw n c (by omega) hcn hn _).mono ?_
  rintro e W2 ⟨v0, rfl, hL⟩
  rcases Nat.lt_or_ge 1 n with hn1 | hn1
  case inr =>
    obtain ⟨aa, ca, rfl, hbl⟩ := hL.zero (by omega)
    have hM' := hM.call hbl
    clear hM hbl hL
    have hM := hM'
    clear hM'
    have e1 : n - 1 = 0 := by omega
    go_wp2
    refine wp_loop_rounds 1 ?_
    rw [rounds_succ]
    go_wp2
    go_ret2
    exact ⟨ret_num rfl rfl, hM.below⟩
  obtain ⟨bA, cA, FA, rfl, hbA, hcA, hFA, hAA, hbl⟩ := hL.some (by omega)
  have hM' := hM.freshH hbl hAA hbA
  clear hM hAA hbl hL
  have hM := hM'
  clear hM'
  have HF := Lib.hid hFA
  clear hFA
  go_wp2
  go_loopw [9, 11, 28] (fun v u i wr => ∃ q : Nat, q ≤ n - 1 ∧ i = .int .i64 q ∧ v = .int .i64 (sumW (dI x y) s q) ∧ Mem w [(bA, cA * 1, FA), (b3, 2, fun k => sp x y (0 + k)), (b2, 2, sp x y), (b1, 122, pas g), (bw, n * 2, sps s)] wr) (fun _ _ i _ => n - 1 - (intOf i).toNat)
  case atStart => exact ⟨0, by omega, rfl, rfl, hM⟩
  case round =>
    clear hM
    obtain ⟨q, hq, rfl, rfl, hM⟩ := hrel
    by_cases hlt : q < n - 1
    case neg =>
      obtain rfl : q = n - 1 := by omega
      go_wp2
      go_ret2
      exact ⟨ret_num (Hse.out _ (Nat.le_refl _)) rfl, hM.below⟩
    have l2 : (q : Int) < ((n - 1 : Nat) : Int) := by omega
    have l3 : decide ((q : Int) < ((n - 1 : Nat) : Int)) = true := decide_eq_true l2
    have eF : FA q = .slice (some ⟨bw, q * 2, none⟩) 2 2 := (HF.out q (by omega)).trans rfl
    have er : arr 2 (fun j => sps s (q * 2 + j)) = arr 2 (sp (s q).1 (s q).2) := arr_congr fun j hj => sps_row _ _ _ hj
    have er1 : arr 2 (fun j => sps s ((q + 1) * 2 + j)) = arr 2 (sp (s (q + 1)).1 (s (q + 1)).2) := arr_congr fun j hj => sps_row _ _ _ hj
    have eq1 : q * 2 + 2 = (q + 1) * 2 := by omega
    have hbq := isB_bounds Hk.out (Hat.out q (by omega))
    have Hx1 : Hid (0 ≤ (s q).1 ∧ (s q).1 ≤ 9) := Lib.hid (by omega)
    have Hy1 : Hid (0 ≤ (s q).2 ∧ (s q).2 ≤ 9) := Lib.hid (by omega)
    have hsm := sumW_small x y s (q + 1)
    rw [← Hse.out (q + 1) (by omega)] at hsm
    have hsu : sumW (dI x y) s (q + 1) = sumW (dI x y) s q + dI x y (s q) (s (q + 1)) := rfl
    have wp : IntKind.i64.wrap (sumW (dI x y) s q + dI x y (s q) (s (q + 1))) = sumW (dI x y) s q + dI x y (s q) (s (q + 1)) := IntWalk.i64_in _ (by rw [← hsu]; omega)
    have Hsu := Lib.hid hsu
    clear hbq hsm hsu
    go_wp2_with (first | (refine wpList_get1 rfl _ _ rfl _ _ rfl hM 0 rfl spots_cell (by omega) _ eF ?_))
    ((try simp only [Act.put, List.setIfInBounds_toArray, List.set_cons_succ, List.set_cons_zero]); refine wp_region_mem (by kernel_rfl) (by kernel_rfl) hM ?_; clear hM; (repeat (first | go_big_quiet_skip | (go_big_quiet_want; first | (refine quiet_get _ _ rfl _ _ rfl 2 rfl (rowTab _ _ rfl) (by omega) ?_; (simp only [Act.put, List.setIfInBounds_toArray, List.set_cons_succ, List.set_cons_zero]); go_big_quiet_on) | (refine quiet_get _ _ rfl _ _ rfl 4 rfl (rowTab _ 2 rfl) (by omega) ?_; (simp only [er]); (simp only [Act.put, List.setIfInBounds_toArray, List.set_cons_succ, List.set_cons_zero]); go_big_quiet_on) | (refine quiet_get _ _ rfl _ _ rfl 4 rfl (rowTab _ 2 rfl) (by omega) ?_; ((try rw [eq1]); simp only [er1]); (simp only [Act.put, List.setIfInBounds_toArray, List.set_cons_succ, List.set_cons_zero]); go_big_quiet_on) | (refine quiet_call ?_; apply Exists.intro; apply Exists.intro; apply Exists.intro; refine ⟨fun W => ?_, fun W hM => ?_, ?_⟩; (go_simp; exact ⟨rfl, rfl⟩); (with_reducible exact windOf_any x y Hx.out Hy.out (s q) (s (q + 1)) Hx1.out Hy1.out W); (simp only [Act.put, List.setIfInBounds_toArray, List.set_cons_succ, List.set_cons_zero]); go_big_quiet_on) | (refine quiet_val ?_; apply Exists.intro; refine ⟨fun W => ?_, ?_⟩; (go_simp; (try simp only [l2, l3, wp, if_true, Bool.false_eq_true, if_false]); rfl); (simp only [Act.put, List.setIfInBounds_toArray, List.set_cons_succ, List.set_cons_zero]); go_big_quiet_on)))); (with_reducible refine wpQuiet_nil ?_); intro W' hM)
    go_wp2
    go_roundw
    case rel => exact ⟨q + 1, by omega, by go_num, by rw [Hsu.out], hM⟩
    case measure => simp [intOf]; omega
end Go.Proofs.YtbmaljhnldepoaaDoor

/-
  errors.Join of errors that are all the same one, or nil, by contract.
-/
namespace Go.Proofs.YtbmaljhnldepoaaDoor
open Go Go.RowKit Go.BigFrame

/-- Errors told by whether they are there; x the one that it is. -/
def errE (x : Addr) (es : Nat → Bool) : Nat → Value := fun k => if es k then errV x else .nilIface
theorem errE_one (x : Addr) (es : Nat → Bool) (k : Nat) : (errE x es k).oneCell' = true := by unfold errE; split <;> rfl
/-- How many of the first k are there. -/
def cntE (es : Nat → Bool) : Nat → Nat
  | 0 => 0
  | k + 1 => cntE es k + (if es k then 1 else 0)
theorem cntE_le (es : Nat → Bool) : ∀ k, cntE es k ≤ k
  | 0 => by simp [cntE]
  | k + 1 => by have := cntE_le es k; simp only [cntE]; split <;> omega
theorem cntE_mono (es : Nat → Bool) : ∀ {k n : Nat}, k ≤ n → cntE es k ≤ cntE es n
  | k, 0, h => by obtain rfl : k = 0 := by omega
                  exact Nat.le_refl _
  | k, n + 1, h => by
    by_cases e : k = n + 1
    · rw [e]; exact Nat.le_refl _
    · have := cntE_mono es (show k ≤ n by omega); simp only [cntE]; omega
theorem cntE_yes {es : Nat → Bool} {k : Nat} (h : es k = true) : cntE es (k + 1) = cntE es k + 1 := by simp [cntE, h]
theorem cntE_no {es : Nat → Bool} {k : Nat} (h : es k = false) : cntE es (k + 1) = cntE es k := by simp [cntE, h]

theorem upd_one (f : Nat → Value) (v : Value) : ∀ k, k < 1 → upd f 0 v k = v := fun k hk => by simp [upd, show k = 0 by omega]
/-- A joined error's value; what lies behind it. -/
def joinV (b : Nat) : Value := .iface 182 (.pointer (some ⟨b, 0, none⟩))
def JoinAt (W : World) (b : Nat) (x : Addr) (c : Nat) : Prop := ∃ eb cc F, At W b 1 (fun _ => .slice (some ⟨eb, 0, none⟩) c cc) ∧ At W eb (cc * 1) F ∧ b ≠ eb ∧ c ≤ cc ∧ ∀ j, j < c → F j = errV x
theorem JoinAt.below {W W' : World} {b c : Nat} {x : Addr} (h : JoinAt W b x c) (hb : Below W.heap.size W W') : JoinAt W' b x c := by
  obtain ⟨eb, cc, F, h1, h2, h3⟩ := h
  exact ⟨eb, cc, F, h1.below hb h1.lt, h2.below hb h2.lt, h3⟩

theorem run_buildJ (v : Value) (W : World) (b : Option Addr) (n c : Nat) (hv : v = .slice b n c) : (Instr.build 184 #[(0, v)]).run Tryd.prog W = .ok (.agg (arr 1 fun _ => v)) W := by
  subst hv; kernel_rfl
theorem wpList_buildJ {ops : Array Oper} {rest : List Oper} {o : Oper} {a : Act} {W : World} {Q : Exit → Act → World → Prop} (hgd : o.guard = none) (x : Operand) (ho : o.op = .build 184 #[(0, x)]) (b : Option Addr) (n c : Nat) (hx : a.eval x = .slice b n c)
    (h : wpList Tryd.prog ops Q rest (a.put o.dst (.agg (arr 1 fun _ => .slice b n c))) W) : wpList Tryd.prog ops Q (o :: rest) a W := by
  refine wpList_plain hgd fun K hK => ?_
  unfold Oper.wp execOp
  have e : (Array.map (fun (z : Nat × Operand) => match z with | (i, x) => (i, a.eval x)) #[(0, x)]) = #[(0, .slice b n c)] := by simp [hx]
  simp only [ho, e, Sem.run_bind, Sem.run_pure, run_buildJ _ W b n c rfl, Result.andThen_ok]
  exact hK _ _ h
theorem err_info : (Tryd.prog.info? 82).map (fun i => (i.size, i.zero, i.bytes)) = some (1, some .nilIface, 16) := by kernel_rfl
theorem err_info2 : (Tryd.prog.info? 82).map (fun i => (i.size, i.zero)) = some (1, some .nilIface) := by kernel_rfl
theorem errs_under : Tryd.prog.underlying 181 = some (.slice 82) := Tryd.underlying181

def JoinIn (w : World) (bl m n : Nat) (x : Addr) (es : Nat → Bool) (sb k : Nat) (wr : World) : Prop :=
  ∃ eb c F, (∀ j, j < cntE es k * 1 → F j = errV x) ∧ cntE es k ≤ c ∧ w.heap.size ≤ eb ∧ Mem w [(eb, c * 1, F), (sb, 1, fun _ => .slice (some ⟨eb, 0, none⟩) (cntE es k) c), (bl, m, errE x es)] wr

set_option maxRecDepth 100000 in
set_option maxHeartbeats 2000000 in
theorem join_none (x : Addr) (es : Nat → Bool) (bl m c : Nat) (hm : m ≤ 3) (h0 : cntE es m = 0) (w : World) (hA : At w bl m (errE x es)) :
    Calls Tryd.prog 98 #[.slice (some ⟨bl, 0, none⟩) m c] w fun e w' => e = .returned .nilIface ∧ Below w.heap.size w w' := by
  have hM : Mem w [(bl, m, errE x es)] w := (Mem.nil w).old hA (fun i p h => by simp at h)
  have hno : ∀ k, k < m → es k = false := fun k hk => by
    have := cntE_mono es (show k + 1 ≤ m by omega)
    cases e : es k
    · rfl
    · rw [cntE_yes e] at this; omega
  have Hno := Lib.hid hno
  clear hno h0 hA
  go_enter Tryd.func98, Tryd.ntmps98
  go_wp2
  go_loopw [3, 11] (fun n i wr => ∃ k : Nat, k ≤ m ∧ n = .int .i64 0 ∧ i = .int .i64 k ∧ Mem w [(bl, m, errE x es)] wr) (fun _ i _ => m - (intOf i).toNat)
  case atStart => exact ⟨0, by omega, rfl, rfl, hM⟩
  case round =>
    clear hM
    obtain ⟨k, hk, rfl, rfl, hM⟩ := hrel
    by_cases hlt : k < m
    · have lk : (k : Int) < m := by omega
      have e0 : errE x es (k * 1) = .nilIface := by rw [Nat.mul_one]; simp [errE, Hno.out k hlt]
      have e0' : errE x es k = .nilIface := by simp [errE, Hno.out k hlt]
      go_wp2_with (first | (refine wpList_get1 rfl _ _ rfl _ _ rfl hM 0 rfl (cellTab _ rfl) (by omega) _ (by first | exact e0 | exact e0') ?_))
      go_roundw
      case rel => exact ⟨k + 1, by omega, rfl, by go_num, hM⟩
      case measure => simp [intOf]; omega
    · obtain rfl : k = m := by omega
      go_wp2
      go_ret
      exact ⟨rfl, hM.below⟩

theorem errE_yes {x : Addr} {es : Nat → Bool} {k : Nat} (h : es k = true) : errE x es k = errV x := by simp [errE, h]
theorem errE_no {x : Addr} {es : Nat → Bool} {k : Nat} (h : es k = false) : errE x es k = .nilIface := by simp [errE, h]
set_option maxRecDepth 100000 in
set_option maxHeartbeats 4000000 in
theorem join_some (x : Addr) (es : Nat → Bool) (bl m c : Nat) (hm : m ≤ 3) (h0 : 0 < cntE es m) (w : World) (hA : At w bl m (errE x es)) :
    Calls Tryd.prog 98 #[.slice (some ⟨bl, 0, none⟩) m c] w fun e w' => ∃ b, e = .returned (joinV b) ∧ JoinAt w' b x (cntE es m) ∧ Below w.heap.size w w' := by
  have hM : Mem w [(bl, m, errE x es)] w := (Mem.nil w).old hA (fun i p h => by simp at h)
  clear hA
  go_enter Tryd.func98, Tryd.ntmps98
  go_wp2
  go_loopw [3, 11] (fun n i wr => ∃ k : Nat, k ≤ m ∧ n = .int .i64 (cntE es k : Nat) ∧ i = .int .i64 k ∧ Mem w [(bl, m, errE x es)] wr) (fun _ i _ => m - (intOf i).toNat)
  case atStart => exact ⟨0, by omega, rfl, rfl, hM⟩
  case round =>
    clear hM
    obtain ⟨k, hk, rfl, rfl, hM⟩ := hrel
    by_cases hlt : k < m
    · have lk : (k : Int) < m := by omega
      have hle := cntE_le es k
      have c1 : IntKind.i64.wrap ((cntE es k : Nat) + 1 : Int) = ((cntE es k + 1 : Nat) : Int) := by rw [IntWalk.i64_in _ (by omega)]; rfl
      clear hle
      cases he : es k
      · have e0 : errE x es k = .nilIface := errE_no he
        have e1 : errE x es (k * 1) = .nilIface := by rw [Nat.mul_one]; exact e0
        go_wp2_with (first | (refine wpList_get1 rfl _ _ rfl _ _ rfl hM 0 rfl (cellTab _ rfl) (by omega) _ (by first | exact e0 | exact e1) ?_))
        go_roundw
        case rel => exact ⟨k + 1, by omega, by rw [cntE_no he], by go_num, hM⟩
        case measure => simp [intOf]; omega
      · have e0 : errE x es k = errV x := errE_yes he
        have e1 : errE x es (k * 1) = errV x := by rw [Nat.mul_one]; exact e0
        go_wp2_with (first | (refine wpList_get1 rfl _ _ rfl _ _ rfl hM 0 rfl (cellTab _ rfl) (by omega) _ (by first | exact e0 | exact e1) ?_))
        go_roundw
        case rel => exact ⟨k + 1, by omega, by rw [cntE_yes he]; exact congrArg _ (by omega), by go_num, hM⟩
        case measure => simp [intOf]; omega
    · obtain rfl : k = m := by omega
      have hle := cntE_le es k
      have hpos : ¬ ((cntE es k : Nat) : Int) = 0 := by omega
      have hpos2 : decide (((cntE es k : Nat) : Int) = 0) = false := decide_eq_false hpos
      have tk_q1 : True := trivial; have tk_q2 : True := trivial; have tk_q3 : True := trivial
      go_wp2_with (first | (have _t := tk_q1; refine wpList_make0 rfl _ _ _ _ rfl (cntE es k) rfl rfl .nilIface 16 rfl errs_under err_info (by omega) (by omega) hM ?_; intro eb W' heb hM'; clear hM tk_q1; have hM := hM'; clear hM') | (have _t := tk_q2; refine wpList_buildJ rfl _ rfl _ _ _ rfl ?_; clear tk_q2) | (have _t := tk_q3; refine wpList_box rfl _ _ rfl 1 _ rfl hM ?_; intro sb W' hsb hM'; clear hM tk_q3; have hM := hM'; clear hM'))
      have hJ : ∀ w0, w0 = w → ∀ wr, Mem w [(sb, 1, fun _ => .slice (some ⟨eb, 0, none⟩) 0 (cntE es k)), (eb, cntE es k * 1, fun _ => .nilIface), (bl, k, errE x es)] wr → JoinIn w bl k (cntE es k) x es sb 0 wr := fun _ _ wr h =>
        ⟨eb, cntE es k, fun _ => .nilIface, fun j hj => absurd hj (by simp [cntE]), by simp [cntE], heb, h.swap⟩
      go_loopw [28] (fun i wr => ∃ j : Nat, j ≤ k ∧ i = .int .i64 j ∧ JoinIn w bl k (cntE es k) x es sb j wr) (fun i _ => k - (intOf i).toNat)
      case atStart => exact ⟨0, by omega, rfl, hJ _ rfl _ hM⟩
      case round =>
        clear hM hJ
        obtain ⟨j, hj, rfl, eb1, c1, F1, hF1, hc1, heb1, hM⟩ := hrel
        by_cases hjl : j < k
        · have lj : (j : Int) < k := by omega
          have hlej := cntE_le es j
          cases he : es j
          · have e0 : errE x es j = .nilIface := errE_no he
            have e1 : errE x es (j * 1) = .nilIface := by rw [Nat.mul_one]; exact e0
            go_wp2_with (first | (refine wpList_get1 rfl _ _ rfl _ _ rfl hM 2 rfl (cellTab _ rfl) (by omega) _ (by first | exact e0 | exact e1) ?_))
            go_roundw
            case rel => exact ⟨j + 1, by omega, by go_num, eb1, c1, F1, by rw [cntE_no he]; exact hF1, by rw [cntE_no he]; exact hc1, heb1, by rw [cntE_no he]; exact hM⟩
            case measure => simp [intOf]; omega
          · have e0 : errE x es j = errV x := errE_yes he
            have e1 : errE x es (j * 1) = errV x := by rw [Nat.mul_one]; exact e0
            have tk_r1 : True := trivial; have tk_r2 : True := trivial; have tk_r3 : True := trivial; have tk_p1 : True := trivial; have tk_r4 : True := trivial
            go_wp2_with (first | (have _t := tk_r1; refine wpList_get1 rfl _ _ rfl _ _ rfl hM 2 rfl (cellTab _ rfl) (by omega) _ (by first | exact e0 | exact e1) ?_; clear tk_r1) | (have _t := tk_r2; (refine wpList_get1 rfl _ _ rfl _ _ rfl hM 1 rfl (cellTab _ rfl) (by omega) _ rfl ?_); clear tk_r2) | (have _t := tk_r3; refine wpList_lit1 rfl _ _ _ rfl (errV x) rfl rfl _ errs_under err_info2 hM ?_; intro bn W' hbn hM'; clear hM tk_r3; have hM := hM'; clear hM') | (have _t := tk_p1; refine wpList_push1 rfl _ _ _ rfl _ 1 _ _ errs_under err_info rfl (by omega) _ _ _ _ rfl heb1 hc1 (by omega) _ _ rfl (fun _ _ => rfl) hM (fun _ => errV x) hF1 (fun _ _ => rfl) ?_; intro bL cL FL W' hbL hcL hFL hM'; clear hM tk_p1; have hM := hM'; clear hM') | (have _t := tk_r4; (refine wpList_set1 rfl _ _ _ rfl _ _ rfl _ rfl ?_ hM 1 rfl (by assumption) (cellTab _ rfl) (by omega) ?_; (first | rfl | exact h1 _); intro W' hM'; clear hM; have hM := hM'; clear hM'; simp [List.set, Act.eval] at hM); clear tk_r4))
            have hM2 := hM.re (b := sb) (n := 1) 1 rfl (fun _ => .slice (some ⟨bL, 0, none⟩) (cntE es j + 1) cL) (upd_one _ _)
            simp only [List.set] at hM2
            go_roundw
            case rel => exact ⟨j + 1, by omega, by go_num, bL, cL, FL, by rw [cntE_yes he]; exact hFL, by rw [cntE_yes he]; exact hcL, hbL, by rw [cntE_yes he, Nat.mul_one]; exact hM2⟩
            case measure => simp [intOf]; omega
        · obtain rfl : j = k := by omega
          go_wp2
          go_ret
          exact ⟨sb, rfl, ⟨eb1, c1, F1, hM.ats 1 _ _ _ rfl, hM.ats 0 _ _ _ rfl, hM.apart 1 0 _ _ rfl rfl (by omega), hc1, fun i hi => hF1 i (by omega)⟩, hM.below⟩
end Go.Proofs.YtbmaljhnldepoaaDoor

