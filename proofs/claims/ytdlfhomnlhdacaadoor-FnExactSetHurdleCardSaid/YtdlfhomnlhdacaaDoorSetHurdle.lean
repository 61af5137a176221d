/-
  impl.checkPlace and impl.SetHurdle by contracts; both SetHurdles answer the same; laws.FnExactSetHurdle returns true.
-/
import Derived.Test.YtdlfhomnlhdacaaDoorToSpot
import Derived.Test.YtdlfhomnlhdacaaDoorSetSpec
namespace Go.Proofs.YtdlfhomnlhdacaaDoor
open Go Go.RowKit Go.BigFrame

theorem setHr_at {g : Nat → Int} {x y : Int} {k : Nat} {on : Bool} (hc : askC g x y (inB 0 3 k) = 0) (hi : isB g (nxX k x) (nxY k y) = true) : pasR (setHr g x y k on) (setC g x y k) = pasR (setG g (sideRow k y) (putR (g (sideRow k y)) (sideBit k x) on)) 0 := by
  have h0 : setC g x y k = 0 := setC_ok hc hi
  rw [setHr_ok h0, h0]
  rfl

theorem specSetHurdle_any (g : Nat → Int) (hg : Fits g) (x y : Int) (hx : -128 ≤ x ∧ x ≤ 127) (hy : -128 ≤ y ∧ y ≤ 127) (n : Int) (on : Bool) (w : World) :
    Calls Tryd.prog 26 #[.agg (arr 122 (pas g)), .agg (arr 2 (sp x y)), .int .i64 n, .bool on] w fun e w' => e = .returned (pasR (setHr g x y n on) (setC g x y n)) ∧ Below w.heap.size w w' := by
  rcases askC_cases g x y (inB 0 3 n) with ⟨ho, hc⟩ | ⟨ho, hi, hc⟩ | ⟨ho, hi, hf, hc⟩
  · exact specSetHurdle_no g hg x y hx hy n on w 1 hc (by decide)
  · exact specSetHurdle_no g hg x y hx hy n on w 2 hc (by decide)
  · have hb := isB_bounds ho hi
    have hn := inB_true hf
    obtain ⟨k, rfl⟩ : ∃ k : Nat, n = k := ⟨n.toNat, by omega⟩
    cases hnx : isB g (nxX k x) (nxY k y)
    · exact specSetHurdle_wall g hg x y (by omega) (by omega) k (by omega) on w hc hnx
    · rw [setHr_at hc hnx]
      rw [hf] at hc
      have hb2 := isB_bounds ho hnx
      rcases (show k = 0 ∨ k = 1 ∨ k = 2 ∨ k = 3 by omega) with rfl | rfl | rfl | rfl
      · obtain ⟨y, rfl⟩ : ∃ n : Nat, y = n + 1 := ⟨(y - 1).toNat, by simp only [nxX, nxY] at hb2; omega⟩
        obtain ⟨x, rfl⟩ : ∃ n : Nat, x = n := ⟨x.toNat, by omega⟩
        simp only [nxX, nxY, show (y : Int) + 1 - 1 = y by omega] at hnx hb2
        rw [show sideRow 0 ((y : Int) + 1) = 112 + y by simp [sideRow], show sideBit 0 ((x : Int)) = x by simp [sideBit]]
        cases on
        · exact specSetHurdle_0off g hg x y (by omega) (by omega) w hc hnx
        · exact specSetHurdle_0on g hg x y (by omega) (by omega) w hc hnx
      · obtain ⟨y, rfl⟩ : ∃ n : Nat, y = n := ⟨y.toNat, by omega⟩
        obtain ⟨x, rfl⟩ : ∃ n : Nat, x = n := ⟨x.toNat, by omega⟩
        simp only [nxX, nxY] at hnx hb2
        rw [show sideRow 1 ((y : Int)) = 102 + y by simp [sideRow], show sideBit 1 ((x : Int)) = x by simp [sideBit]]
        cases on
        · exact specSetHurdle_1off g hg x y (by omega) (by omega) w hc hnx
        · exact specSetHurdle_1on g hg x y (by omega) (by omega) w hc hnx
      · obtain ⟨y, rfl⟩ : ∃ n : Nat, y = n := ⟨y.toNat, by omega⟩
        obtain ⟨x, rfl⟩ : ∃ n : Nat, x = n := ⟨x.toNat, by omega⟩
        simp only [nxX, nxY] at hnx hb2
        rw [show sideRow 2 ((y : Int)) = 112 + y by simp [sideRow], show sideBit 2 ((x : Int)) = x by simp [sideBit]]
        cases on
        · exact specSetHurdle_2off g hg x y (by omega) (by omega) w hc hnx
        · exact specSetHurdle_2on g hg x y (by omega) (by omega) w hc hnx
      · obtain ⟨y, rfl⟩ : ∃ n : Nat, y = n := ⟨y.toNat, by omega⟩
        obtain ⟨x, rfl⟩ : ∃ n : Nat, x = n + 1 := ⟨(x - 1).toNat, by simp only [nxX, nxY] at hb2; omega⟩
        simp only [nxX, nxY, show (x : Int) + 1 - 1 = x by omega] at hnx hb2
        rw [show sideRow 3 ((y : Int)) = 102 + y by simp [sideRow], show sideBit 3 ((x : Int) + 1) = x by simp [sideBit]]
        cases on
        · exact specSetHurdle_3off g hg x y (by omega) (by omega) w hc hnx
        · exact specSetHurdle_3on g hg x y (by omega) (by omega) w hc hnx

set_option maxRecDepth 100000 in
set_option maxHeartbeats 1000000 in
theorem checkPlace_bad {a : Nat → Addr} (g : Nat → Int) (hg : Fits g) (x y n : Int) (w : World) (hE : Errs a w) (hv : validB g = false) :
    Calls Tryd.prog 69 #[.agg (arr 122 (pas g)), .agg (arr 2 (sp x y)), .int .i64 n] w fun e w' => e = .returned (errV (a 0)) ∧ Below w.heap.size w w' := by
  have hM := Mem.nil w
  have HE := Lib.hid hE
  have Ho := Lib.hid hv
  clear hE hv
  have tk_b1 : True := trivial; have tk_b2 : True := trivial
  go_enter Tryd.func69, Tryd.ntmps69
  go_wp2_with (first | (have _t := tk_b1; refine wpList_box rfl _ _ rfl _ _ rfl hM ?_; intro b1 W' hb1 hM'; clear hM tk_b1; have hM := hM'; clear hM') | (have _t := tk_b2; refine wpList_box rfl _ _ rfl _ _ rfl hM ?_; intro b2 W' hb2 hM'; clear hM tk_b2; have hM := hM'; clear hM') | (refine wpList_get rfl _ _ rfl _ _ rfl hM 1 rfl (rowTab _ _ rfl) (by omega) ?_) | (refine wpList_get rfl _ _ rfl _ _ rfl hM 0 rfl (rowTab _ _ rfl) (by omega) ?_) | (go_at_call 64; refine (checkSide_bad g hg _ _ _ _ (HE.out.below hM.below) Ho.out).mono ?_; rintro e W' ⟨rfl, hb'⟩; have hM' := hM.call hb'; clear hM hb'; have hM := hM'; clear hM'))
  go_ret
  exact ⟨rfl, hM.below⟩
set_option maxRecDepth 100000 in
set_option maxHeartbeats 1000000 in
theorem checkPlace_no {a : Nat → Addr} (g : Nat → Int) (hg : Fits g) (x y n : Int) (w : World) (hE : Errs a w) (hv : validB g = true) (hi : (isB g x y && inB 0 3 n) = false) :
    Calls Tryd.prog 69 #[.agg (arr 122 (pas g)), .agg (arr 2 (sp x y)), .int .i64 n] w fun e w' => e = .returned (errV (a 1)) ∧ Below w.heap.size w w' := by
  have hM := Mem.nil w
  have HE := Lib.hid hE
  have hk : ∀ W, Errs a W → Calls Tryd.prog 64 #[.agg (arr 122 (pas g)), .agg (arr 2 (sp x y)), .int .i64 n] W fun e w' => e = .returned (errV (a 1)) ∧ Below W.heap.size W w' := fun W hE => by
    cases hib : isB g x y
    · exact checkSide_out g hg x y n W hE hv hib
    · exact checkSide_no g hg x y n W hE hv hib (by simpa [hib] using hi)
  have Hk := Lib.hid hk
  clear hE hv hi hk
  have tk_b1 : True := trivial; have tk_b2 : True := trivial
  go_enter Tryd.func69, Tryd.ntmps69
  go_wp2_with (first | (have _t := tk_b1; refine wpList_box rfl _ _ rfl _ _ rfl hM ?_; intro b1 W' hb1 hM'; clear hM tk_b1; have hM := hM'; clear hM') | (have _t := tk_b2; refine wpList_box rfl _ _ rfl _ _ rfl hM ?_; intro b2 W' hb2 hM'; clear hM tk_b2; have hM := hM'; clear hM') | (refine wpList_get rfl _ _ rfl _ _ rfl hM 1 rfl (rowTab _ _ rfl) (by omega) ?_) | (refine wpList_get rfl _ _ rfl _ _ rfl hM 0 rfl (rowTab _ _ rfl) (by omega) ?_) | (go_at_call 64; refine (Hk.out _ (HE.out.below hM.below)).mono ?_; rintro e W' ⟨rfl, hb'⟩; have hM' := hM.call hb'; clear hM hb'; have hM := hM'; clear hM'))
  go_ret
  exact ⟨rfl, hM.below⟩
set_option maxRecDepth 100000 in
set_option maxHeartbeats 1000000 in
theorem checkPlace_wall {a : Nat → Addr} (g : Nat → Int) (hg : Fits g) (x y : Int) (k : Nat) (hk : k < 4) (hx : 0 ≤ x ∧ x ≤ 9) (hy : 0 ≤ y ∧ y ≤ 9) (w : World) (hE : Errs a w) (hv : validB g = true) (hi : isB g x y = true) (hf : inB 0 3 k = true) (hn : isB g (nxX k x) (nxY k y) = false) :
    Calls Tryd.prog 69 #[.agg (arr 122 (pas g)), .agg (arr 2 (sp x y)), .int .i64 k] w fun e w' => e = .returned (errV (a 2)) ∧ Below w.heap.size w w' := by
  have hM := Mem.nil w
  have HE := Lib.hid hE
  have hw := fun W => isWall_any g k hk x y hx hy W
  rw [hn] at hw
  have Hw := Lib.hid hw
  have Ho := Lib.hid hv
  have Hi := Lib.hid hi
  have Hf := Lib.hid hf
  clear hE hv hi hf hn hw
  have tk_b1 : True := trivial; have tk_b2 : True := trivial
  go_enter Tryd.func69, Tryd.ntmps69
  go_wp2_with (first | (have _t := tk_b1; refine wpList_box rfl _ _ rfl _ _ rfl hM ?_; intro b1 W' hb1 hM'; clear hM tk_b1; have hM := hM'; clear hM') | (have _t := tk_b2; refine wpList_box rfl _ _ rfl _ _ rfl hM ?_; intro b2 W' hb2 hM'; clear hM tk_b2; have hM := hM'; clear hM') | (refine wpList_get rfl _ _ rfl _ _ rfl hM 1 rfl (rowTab _ _ rfl) (by omega) ?_) | (refine wpList_get rfl _ _ rfl _ _ rfl hM 0 rfl (rowTab _ _ rfl) (by omega) ?_) | (go_at_call 64; refine (checkSide_yes g hg x y _ _ (HE.out.below hM.below) Ho.out Hi.out Hf.out).mono ?_; rintro e W' ⟨rfl, hb'⟩; have hM' := hM.call hb'; clear hM hb'; have hM := hM'; clear hM') | (go_at_call 93; refine (Hw.out _).mono ?_; rintro e W' ⟨rfl, hb'⟩; skip; have hM' := hM.call hb'; have hE' := HE.out.below hM'.below; have v2 : W'.cell? ⟨3, 0, none⟩ = some (errV (a 2)) := hE'.vars 2 (by omega); clear hM hb' hE'; have hM := hM'; clear hM'))
  go_ret
  exact ⟨rfl, hM.below⟩
set_option maxRecDepth 100000 in
set_option maxHeartbeats 1000000 in
theorem checkPlace_yes {a : Nat → Addr} (g : Nat → Int) (hg : Fits g) (x y : Int) (k : Nat) (hk : k < 4) (hx : 0 ≤ x ∧ x ≤ 9) (hy : 0 ≤ y ∧ y ≤ 9) (w : World) (hE : Errs a w) (hv : validB g = true) (hi : isB g x y = true) (hf : inB 0 3 k = true) (hn : isB g (nxX k x) (nxY k y) = true) :
    Calls Tryd.prog 69 #[.agg (arr 122 (pas g)), .agg (arr 2 (sp x y)), .int .i64 k] w fun e w' => e = .returned .nilIface ∧ Below w.heap.size w w' := by
  have hM := Mem.nil w
  have HE := Lib.hid hE
  have hw := fun W => isWall_any g k hk x y hx hy W
  rw [hn] at hw
  have Hw := Lib.hid hw
  have Ho := Lib.hid hv
  have Hi := Lib.hid hi
  have Hf := Lib.hid hf
  clear hE hv hi hf hn hw
  have tk_b1 : True := trivial; have tk_b2 : True := trivial
  go_enter Tryd.func69, Tryd.ntmps69
  go_wp2_with (first | (have _t := tk_b1; refine wpList_box rfl _ _ rfl _ _ rfl hM ?_; intro b1 W' hb1 hM'; clear hM tk_b1; have hM := hM'; clear hM') | (have _t := tk_b2; refine wpList_box rfl _ _ rfl _ _ rfl hM ?_; intro b2 W' hb2 hM'; clear hM tk_b2; have hM := hM'; clear hM') | (refine wpList_get rfl _ _ rfl _ _ rfl hM 1 rfl (rowTab _ _ rfl) (by omega) ?_) | (refine wpList_get rfl _ _ rfl _ _ rfl hM 0 rfl (rowTab _ _ rfl) (by omega) ?_) | (go_at_call 64; refine (checkSide_yes g hg x y _ _ (HE.out.below hM.below) Ho.out Hi.out Hf.out).mono ?_; rintro e W' ⟨rfl, hb'⟩; have hM' := hM.call hb'; clear hM hb'; have hM := hM'; clear hM') | (go_at_call 93; refine (Hw.out _).mono ?_; rintro e W' ⟨rfl, hb'⟩; have hM' := hM.call hb'; clear hM hb'; have hM := hM'; clear hM'))
  go_ret
  exact ⟨rfl, hM.below⟩

set_option maxRecDepth 100000 in
set_option maxHeartbeats 1000000 in
theorem implSetHurdle_any {a : Nat → Addr} (g : Nat → Int) (hg : Fits g) (x y n : Int) (on : Bool) (w : World) (hE : Errs a w) :
    Calls Tryd.prog 27 #[.agg (arr 122 (pas g)), .agg (arr 2 (sp x y)), .int .i64 n, .bool on] w fun e w' => e = .returned (pasR (setHr g x y n on) (setC g x y n)) ∧ Below w.heap.size w w' := by
  have hM := Mem.nil w
  have HE := Lib.hid hE
  clear hE
  rcases askC_cases g x y (inB 0 3 n) with ⟨ho, hc⟩ | ⟨ho, hi, hc⟩ | ⟨ho, hi, hf, hc⟩
  · have Hs : Hid (setC g x y n = 1) := Lib.hid (setC_no hc (by decide))
    have Ho : Hid (validB g = false) := Lib.hid (by rw [← okB_eq]; exact ho)
    clear ho hc
    have tk_b1 : True := trivial; have tk_b2 : True := trivial; have tk_b3 : True := trivial
    go_enter Tryd.func27, Tryd.ntmps27
    go_wp2_with (first | (have _t := tk_b1; refine wpList_box rfl _ _ rfl _ _ rfl hM ?_; intro b1 W' hb1 hM'; clear hM tk_b1; have hM := hM'; clear hM') | (have _t := tk_b2; refine wpList_box rfl _ _ rfl _ _ rfl hM ?_; intro b2 W' hb2 hM'; clear hM tk_b2; have hM := hM'; clear hM') | (have _t := tk_b3; refine wpList_zero rfl _ rfl (zeroTab _ _ _ rfl) hM ?_; intro b3 W' hb3 hM'; clear hM tk_b3; have hM := hM'; clear hM') | (refine wpList_get rfl _ _ rfl _ _ rfl hM 2 rfl (rowTab _ _ rfl) (by omega) ?_) | (refine wpList_get rfl _ _ rfl _ _ rfl hM 1 rfl (rowTab _ _ rfl) (by omega) ?_) | (refine wpList_lay rfl _ _ _ rfl _ _ rfl _ _ rfl hM 0 rfl (by assumption) (rowTab _ _ rfl) (by omega) ?_ ?_; (first | (intro _ _; rfl) | (intro k _; exact h1 _) | (intro k _; simp only [lay, upd]; (repeat' split) <;> first | exact h1 _ | rfl)); intro W' hM'; clear hM; have hM := hM'; clear hM'; simp only [List.set] at hM) | (go_at_call 69; refine (checkPlace_bad g hg _ _ _ _ (HE.out.below hM.below) Ho.out).mono ?_; rintro e W' ⟨rfl, hb'⟩; have hM' := hM.call hb'; clear hM hb'; have hM := hM'; clear hM') | (go_at_call 53; (with_reducible refine (codeOf_0 (HE.out.below hM.below)).mono ?_); rintro e W' ⟨rfl, rfl⟩))
    exact bodyPost_ret (results_at2 rfl _ rfl ((hM.ats 0 _ _ _ rfl).congr (lay_zP _)) (rowTab _ _ rfl) _ rfl) rfl ⟨ret_pas (by rw [setHr_no (by rw [Hs.out]; decide)]) Hs.out.symm, hM.below⟩
  · have Hs : Hid (setC g x y n = 2) := Lib.hid (setC_no hc (by decide))
    have Ho : Hid (validB g = true) := Lib.hid (by rw [← okB_eq]; exact ho)
    have Hi := Lib.hid hi
    clear ho hc hi
    have tk_b1 : True := trivial; have tk_b2 : True := trivial; have tk_b3 : True := trivial
    go_enter Tryd.func27, Tryd.ntmps27
    go_wp2_with (first | (have _t := tk_b1; refine wpList_box rfl _ _ rfl _ _ rfl hM ?_; intro b1 W' hb1 hM'; clear hM tk_b1; have hM := hM'; clear hM') | (have _t := tk_b2; refine wpList_box rfl _ _ rfl _ _ rfl hM ?_; intro b2 W' hb2 hM'; clear hM tk_b2; have hM := hM'; clear hM') | (have _t := tk_b3; refine wpList_zero rfl _ rfl (zeroTab _ _ _ rfl) hM ?_; intro b3 W' hb3 hM'; clear hM tk_b3; have hM := hM'; clear hM') | (refine wpList_get rfl _ _ rfl _ _ rfl hM 2 rfl (rowTab _ _ rfl) (by omega) ?_) | (refine wpList_get rfl _ _ rfl _ _ rfl hM 1 rfl (rowTab _ _ rfl) (by omega) ?_) | (refine wpList_lay rfl _ _ _ rfl _ _ rfl _ _ rfl hM 0 rfl (by assumption) (rowTab _ _ rfl) (by omega) ?_ ?_; (first | (intro _ _; rfl) | (intro k _; exact h1 _) | (intro k _; simp only [lay, upd]; (repeat' split) <;> first | exact h1 _ | rfl)); intro W' hM'; clear hM; have hM := hM'; clear hM'; simp only [List.set] at hM) | (go_at_call 69; refine (checkPlace_no g hg _ _ _ _ (HE.out.below hM.below) Ho.out Hi.out).mono ?_; rintro e W' ⟨rfl, hb'⟩; have hM' := hM.call hb'; clear hM hb'; have hM := hM'; clear hM') | (go_at_call 53; (with_reducible refine (codeOf_1 (HE.out.below hM.below)).mono ?_); rintro e W' ⟨rfl, rfl⟩))
    exact bodyPost_ret (results_at2 rfl _ rfl ((hM.ats 0 _ _ _ rfl).congr (lay_zP _)) (rowTab _ _ rfl) _ rfl) rfl ⟨ret_pas (by rw [setHr_no (by rw [Hs.out]; decide)]) Hs.out.symm, hM.below⟩
  · have hb := isB_bounds ho hi
    have hn := inB_true hf
    have Ho : Hid (validB g = true) := Lib.hid (by rw [← okB_eq]; exact ho)
    have Hi := Lib.hid hi
    have Hf := Lib.hid hf
    obtain ⟨k, rfl⟩ : ∃ k : Nat, n = k := ⟨n.toNat, by omega⟩
    cases hnx : isB g (nxX k x) (nxY k y)
    · have Hs : Hid (setC g x y k = 4) := Lib.hid (setC_wall hc hnx)
      have Hn := Lib.hid hnx
      clear ho hi hf hc hnx
      have tk_b1 : True := trivial; have tk_b2 : True := trivial; have tk_b3 : True := trivial
      go_enter Tryd.func27, Tryd.ntmps27
      go_wp2_with (first | (have _t := tk_b1; refine wpList_box rfl _ _ rfl _ _ rfl hM ?_; intro b1 W' hb1 hM'; clear hM tk_b1; have hM := hM'; clear hM') | (have _t := tk_b2; refine wpList_box rfl _ _ rfl _ _ rfl hM ?_; intro b2 W' hb2 hM'; clear hM tk_b2; have hM := hM'; clear hM') | (have _t := tk_b3; refine wpList_zero rfl _ rfl (zeroTab _ _ _ rfl) hM ?_; intro b3 W' hb3 hM'; clear hM tk_b3; have hM := hM'; clear hM') | (refine wpList_get rfl _ _ rfl _ _ rfl hM 2 rfl (rowTab _ _ rfl) (by omega) ?_) | (refine wpList_get rfl _ _ rfl _ _ rfl hM 1 rfl (rowTab _ _ rfl) (by omega) ?_) | (refine wpList_lay rfl _ _ _ rfl _ _ rfl _ _ rfl hM 0 rfl (by assumption) (rowTab _ _ rfl) (by omega) ?_ ?_; (first | (intro _ _; rfl) | (intro k _; exact h1 _) | (intro k _; simp only [lay, upd]; (repeat' split) <;> first | exact h1 _ | rfl)); intro W' hM'; clear hM; have hM := hM'; clear hM'; simp only [List.set] at hM) | (go_at_call 69; refine (checkPlace_wall g hg x y k (by omega) (by omega) (by omega) _ (HE.out.below hM.below) Ho.out Hi.out Hf.out Hn.out).mono ?_; rintro e W' ⟨rfl, hb'⟩; have hM' := hM.call hb'; clear hM hb'; have hM := hM'; clear hM') | (go_at_call 53; (with_reducible refine (codeOf_2 (HE.out.below hM.below)).mono ?_); rintro e W' ⟨rfl, rfl⟩))
      exact bodyPost_ret (results_at2 rfl _ rfl ((hM.ats 0 _ _ _ rfl).congr (lay_zP _)) (rowTab _ _ rfl) _ rfl) rfl ⟨ret_pas (by rw [setHr_no (by rw [Hs.out]; decide)]) Hs.out.symm, hM.below⟩
    · have Hr : Hid (pasR (setHr g x y k on) (setC g x y k) = pasR (setG g (sideRow k y) (putR (g (sideRow k y)) (sideBit k x) on)) 0) := Lib.hid (setHr_at hc hnx)
      have hb2 := isB_bounds ho hnx
      have h0 : k = 0 → 1 ≤ y := fun e => by subst e; simp only [nxX, nxY] at hb2; omega
      have h3 : k = 3 → 1 ≤ x := fun e => by subst e; simp only [nxX, nxY] at hb2; omega
      have H0 := Lib.hid h0
      have H3 := Lib.hid h3
      have Hn := Lib.hid hnx
      clear ho hi hf hc hnx hb2 h0 h3
      rw [Hr.out]
      have tk_b1 : True := trivial; have tk_b2 : True := trivial; have tk_b3 : True := trivial
      go_enter Tryd.func27, Tryd.ntmps27
      go_wp2_with (first | (have _t := tk_b1; refine wpList_box rfl _ _ rfl _ _ rfl hM ?_; intro b1 W' hb1 hM'; clear hM tk_b1; have hM := hM'; clear hM') | (have _t := tk_b2; refine wpList_box rfl _ _ rfl _ _ rfl hM ?_; intro b2 W' hb2 hM'; clear hM tk_b2; have hM := hM'; clear hM') | (have _t := tk_b3; refine wpList_zero rfl _ rfl (zeroTab _ _ _ rfl) hM ?_; intro b3 W' hb3 hM'; clear hM tk_b3; have hM := hM'; clear hM') | (refine wpList_get rfl _ _ rfl _ _ rfl hM 2 rfl (rowTab _ _ rfl) (by omega) ?_) | (refine wpList_get rfl _ _ rfl _ _ rfl hM 1 rfl (rowTab _ _ rfl) (by omega) ?_) | (refine wpList_lay rfl _ _ _ rfl _ _ rfl _ _ rfl hM 0 rfl (by assumption) (rowTab _ _ rfl) (by omega) ?_ ?_; (first | (intro _ _; rfl) | (intro k _; exact h1 _) | (intro k _; simp only [lay, upd]; (repeat' split) <;> first | exact h1 _ | rfl)); intro W' hM'; clear hM; have hM := hM'; clear hM'; simp only [List.set] at hM) | (go_at_call 69; refine (checkPlace_yes g hg x y k (by omega) (by omega) (by omega) _ (HE.out.below hM.below) Ho.out Hi.out Hf.out Hn.out).mono ?_; rintro e W' ⟨rfl, hb'⟩; have hM' := hM.call hb'; clear hM hb'; have hM := hM'; clear hM') | (go_at_call 70; refine (withHurdle_any g x y k (by omega) (by omega) (by omega) H0.out H3.out on _).mono ?_; rintro e W' ⟨rfl, hb'⟩; have hM' := hM.call hb'; clear hM hb'; have hM := hM'; clear hM'))
      exact bodyPost_ret (results_at2 rfl _ rfl ((hM.ats 0 _ _ _ rfl).congr (lay_pas _ _)) (rowTab _ _ rfl) _ rfl) rfl ⟨rfl, hM.below⟩

set_option maxRecDepth 100000 in
set_option maxHeartbeats 1000000 in
theorem lawSetHurdle_any {a : Nat → Addr} (g : Nat → Int) (hg : Fits g) (x y : Int) (hx : -128 ≤ x ∧ x ≤ 127) (hy : -128 ≤ y ∧ y ≤ 127) (n : Int) (on : Bool) (w : World) (hE : Errs a w) :
    Calls Tryd.prog 7 #[.agg (arr 122 (pas g)), .agg (arr 2 (sp x y)), .int .i64 n, .bool on] w fun e w' => e = .returned (.bool true) ∧ Below w.heap.size w w' := by
  have hM := Mem.nil w
  have HE := Lib.hid hE
  clear hE
  have tk_b1 : True := trivial; have tk_b2 : True := trivial
  go_enter Tryd.func7, Tryd.ntmps7
  go_wp2_with (first | (have _t := tk_b1; refine wpList_box rfl _ _ rfl _ _ rfl hM ?_; intro b1 W' hb1 hM'; clear hM tk_b1; have hM := hM'; clear hM') | (have _t := tk_b2; refine wpList_box rfl _ _ rfl _ _ rfl hM ?_; intro b2 W' hb2 hM'; clear hM tk_b2; have hM := hM'; clear hM'))
  ((try simp only [Act.put, List.setIfInBounds_toArray, List.set_cons_succ, List.set_cons_zero]); refine region_mix (n := 10) (by kernel_rfl) (by kernel_rfl) hM ?_; clear hM; simp only [List.take_succ_cons, List.take_zero, List.drop_succ_cons, List.drop_zero]; (repeat (refine wpB_plain rfl ?_; first | (refine b_get _ _ rfl _ _ rfl 3 rfl (rowTab _ _ rfl) (by omega) ?_; (simp only [Act.put, List.setIfInBounds_toArray, List.set_cons_succ, List.set_cons_zero])) | (refine b_get _ _ rfl _ _ rfl 2 rfl (rowTab _ _ rfl) (by omega) ?_; (simp only [Act.put, List.setIfInBounds_toArray, List.set_cons_succ, List.set_cons_zero])) | (refine b_get _ _ rfl _ _ rfl 1 rfl (rowTab _ _ rfl) (by omega) ?_; (simp only [Act.put, List.setIfInBounds_toArray, List.set_cons_succ, List.set_cons_zero])) | (refine b_get _ _ rfl _ _ rfl 0 rfl (rowTab _ _ rfl) (by omega) ?_; (simp only [Act.put, List.setIfInBounds_toArray, List.set_cons_succ, List.set_cons_zero])) | (refine b_call ?_; apply Exists.intro; apply Exists.intro; apply Exists.intro; refine ⟨fun W => ?_, fun W hM => ?_, ?_⟩; (go_simp; exact ⟨rfl, rfl⟩); (exact toPasture_any _ (fun _ => rfl) W); (simp only [Act.put, List.setIfInBounds_toArray, List.set_cons_succ, List.set_cons_zero])) | (refine b_call ?_; apply Exists.intro; apply Exists.intro; apply Exists.intro; refine ⟨fun W => ?_, fun W hM => ?_, ?_⟩; (go_simp; exact ⟨rfl, rfl⟩); (exact toSpot_any _ (fun _ => rfl) W); (simp only [Act.put, List.setIfInBounds_toArray, List.set_cons_succ, List.set_cons_zero])) | (refine b_call ?_; apply Exists.intro; apply Exists.intro; apply Exists.intro; refine ⟨fun W => ?_, fun W hM => ?_, ?_⟩; (go_simp; exact ⟨rfl, rfl⟩); (exact specSetHurdle_any g hg x y hx hy n on W); (simp only [pasR_eq]); (simp only [Act.put, List.setIfInBounds_toArray, List.set_cons_succ, List.set_cons_zero])) | (refine b_val ?_; apply Exists.intro; refine ⟨fun W => ?_, ?_⟩; (go_simp; rfl); (simp only [Act.put, List.setIfInBounds_toArray, List.set_cons_succ, List.set_cons_zero])))); (with_reducible refine wpB_nil ?_))
  (refine thr_zero rfl _ rfl (zeroTab _ _ _ rfl) ?_; intro b3 hb3; (simp only [Act.put, List.setIfInBounds_toArray, List.set_cons_succ, List.set_cons_zero]))
  (refine thr_lay rfl _ _ _ rfl _ _ rfl _ _ rfl 0 rfl (by assumption) (rowTab _ _ rfl) (by omega) ?_ ?_; (first | (intro _ _; rfl) | (intro k _; exact h1 _)); simp only [List.set]; (simp only [Act.put, List.setIfInBounds_toArray, List.set_cons_succ, List.set_cons_zero]))
  (refine thr_val rfl ?_; apply Exists.intro; refine ⟨fun W => ?_, ?_⟩; (go_simp; rfl); (simp only [Act.put, List.setIfInBounds_toArray, List.set_cons_succ, List.set_cons_zero]))
  (refine thr_nil ?_; intro W' hM; simp only [List.cons_append, List.nil_append] at hM)
  go_wp2
  ((try simp only [Act.put, List.setIfInBounds_toArray, List.set_cons_succ, List.set_cons_zero]); refine region_mix (n := 10) (by kernel_rfl) (by kernel_rfl) hM ?_; clear hM; simp only [List.take_succ_cons, List.take_zero, List.drop_succ_cons, List.drop_zero]; (repeat (refine wpB_plain rfl ?_; first | (refine b_get _ _ rfl _ _ rfl 3 rfl (rowTab _ _ rfl) (by omega) ?_; (simp only [Act.put, List.setIfInBounds_toArray, List.set_cons_succ, List.set_cons_zero])) | (refine b_get _ _ rfl _ _ rfl 2 rfl (rowTab _ _ rfl) (by omega) ?_; (simp only [Act.put, List.setIfInBounds_toArray, List.set_cons_succ, List.set_cons_zero])) | (refine b_get _ _ rfl _ _ rfl 1 rfl (rowTab _ _ rfl) (by omega) ?_; (simp only [Act.put, List.setIfInBounds_toArray, List.set_cons_succ, List.set_cons_zero])) | (refine b_get _ _ rfl _ _ rfl 0 rfl (rowTab _ _ rfl) (by omega) ?_; (simp only [Act.put, List.setIfInBounds_toArray, List.set_cons_succ, List.set_cons_zero])) | (refine b_call ?_; apply Exists.intro; apply Exists.intro; apply Exists.intro; refine ⟨fun W => ?_, fun W hM => ?_, ?_⟩; (go_simp; exact ⟨rfl, rfl⟩); (exact toPasture_any _ (fun _ => rfl) W); (simp only [Act.put, List.setIfInBounds_toArray, List.set_cons_succ, List.set_cons_zero])) | (refine b_call ?_; apply Exists.intro; apply Exists.intro; apply Exists.intro; refine ⟨fun W => ?_, fun W hM => ?_, ?_⟩; (go_simp; exact ⟨rfl, rfl⟩); (exact toSpot_any _ (fun _ => rfl) W); (simp only [Act.put, List.setIfInBounds_toArray, List.set_cons_succ, List.set_cons_zero])) | (refine b_call ?_; apply Exists.intro; apply Exists.intro; apply Exists.intro; refine ⟨fun W => ?_, fun W hM => ?_, ?_⟩; (go_simp; exact ⟨rfl, rfl⟩); (exact implSetHurdle_any g hg x y n on W (HE.out.below hM.below)); (simp only [pasR_eq]); (simp only [Act.put, List.setIfInBounds_toArray, List.set_cons_succ, List.set_cons_zero])) | (refine b_val ?_; apply Exists.intro; refine ⟨fun W => ?_, ?_⟩; (go_simp; rfl); (simp only [Act.put, List.setIfInBounds_toArray, List.set_cons_succ, List.set_cons_zero])))); (with_reducible refine wpB_nil ?_))
  (refine thr_zero rfl _ rfl (zeroTab _ _ _ rfl) ?_; intro b4 hb4; (simp only [Act.put, List.setIfInBounds_toArray, List.set_cons_succ, List.set_cons_zero]))
  (refine thr_lay rfl _ _ _ rfl _ _ rfl _ _ rfl 0 rfl (by assumption) (rowTab _ _ rfl) (by omega) ?_ ?_; (first | (intro _ _; rfl) | (intro k _; exact h1 _)); simp only [List.set]; (simp only [Act.put, List.setIfInBounds_toArray, List.set_cons_succ, List.set_cons_zero]))
  (refine thr_val rfl ?_; apply Exists.intro; refine ⟨fun W => ?_, ?_⟩; (go_simp; rfl); (simp only [Act.put, List.setIfInBounds_toArray, List.set_cons_succ, List.set_cons_zero]))
  (refine thr_nil ?_; intro W' hM; simp only [List.cons_append, List.nil_append] at hM)
  go_wp2_with (first | (refine wpList_get rfl _ _ rfl _ _ rfl hM 0 rfl (rowTab _ _ rfl) (by omega) ?_) | (refine wpList_get rfl _ _ rfl _ _ rfl hM 1 rfl (rowTab _ _ rfl) (by omega) ?_) | (go_at_call 17; refine (eqP_lay _ _ _ _).mono ?_; rintro e W' ⟨rfl, hb'⟩; have hM' := hM.call hb'; clear hM hb'; have hM := hM'; clear hM'))
  go_ret
  exact ⟨rfl, hM.below⟩
end Go.Proofs.YtdlfhomnlhdacaaDoor
