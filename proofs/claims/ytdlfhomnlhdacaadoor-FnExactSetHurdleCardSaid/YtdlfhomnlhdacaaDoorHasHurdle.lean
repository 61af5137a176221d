/-
  spec.HasHurdle and impl.HasHurdle by contracts; laws.FnExactHasHurdle returns true.
-/
import Derived.Test.YtdlfhomnlhdacaaDoorToSpot
import Derived.Test.YtdlfhomnlhdacaaDoorSideOf
import Derived.Test.YtdlfhomnlhdacaaDoorCheckSide
import Derived.Test.YtdlfhomnlhdacaaDoorGrassAt
import Derived.Test.YtdlfhomnlhdacaaDoorMix
namespace Go.Proofs.YtdlfhomnlhdacaaDoor
open Go Go.RowKit Go.BigFrame

/-- A Bool and a code. -/
def boolR (b : Bool) (c : Int) : Value := .tuple #[.bool b, .int .i64 c]
theorem boolR_eq (b : Bool) (c : Int) : boolR b c = .tuple #[.bool b, .int .i64 c] := rfl
theorem ret_bc {b b' : Bool} {c c' : Int} (h : b = b') (h' : c = c') : Ending.returned (.tuple #[.bool b, .int .i64 c]) = .returned (boolR b' c') := by rw [h, h', boolR_eq]
/-- What HasHurdle answers. -/
def hasH (g : Nat → Int) (x y n : Int) : Bool := decide (askC g x y (inB 0 3 n) = 0) && closedB g n.toNat x y
theorem hasH_no {g : Nat → Int} {x y n : Int} (h : askC g x y (inB 0 3 n) ≠ 0) : hasH g x y n = false := by simp [hasH, h]
theorem hasH_ok {g : Nat → Int} {x y n : Int} (h : askC g x y (inB 0 3 n) = 0) : hasH g x y n = closedB g n.toNat x y := by simp [hasH, h]

set_option maxRecDepth 100000 in
set_option maxHeartbeats 1000000 in
theorem specHasHurdle_any (g : Nat → Int) (hg : Fits g) (x y : Int) (hx : -128 ≤ x ∧ x ≤ 127) (hy : -128 ≤ y ∧ y ≤ 127) (n : Int) (w : World) :
    Calls Tryd.prog 24 #[.agg (arr 122 (pas g)), .agg (arr 2 (sp x y)), .int .i64 n] w fun e w' => e = .returned (boolR (hasH g x y n) (askC g x y (inB 0 3 n))) ∧ Below w.heap.size w w' := by
  have hM := Mem.nil w
  rcases askC_cases g x y (inB 0 3 n) with ⟨ho, hc⟩ | ⟨ho, hi, hc⟩ | ⟨ho, hi, hf, hc⟩
  · have Hc := Lib.hid hc
    clear ho hc
    have tk_b1 : True := trivial; have tk_b2 : True := trivial
    go_enter Tryd.func24, Tryd.ntmps24
    go_wp2_with (first | (have _t := tk_b1; refine wpList_box rfl _ _ rfl _ _ rfl hM ?_; intro b1 W' hb1 hM'; clear hM tk_b1; have hM := hM'; clear hM') | (have _t := tk_b2; refine wpList_box rfl _ _ rfl _ _ rfl hM ?_; intro b2 W' hb2 hM'; clear hM tk_b2; have hM := hM'; clear hM'))
    ((try simp only [Act.put, List.setIfInBounds_toArray, List.set_cons_succ, List.set_cons_zero]); refine wp_region_mem (by kernel_rfl) (by kernel_rfl) hM ?_; clear hM; (repeat (first | go_big_quiet_skip | (go_big_quiet_want; first | (refine quiet_get _ _ rfl _ _ rfl 0 rfl (rowTab _ _ rfl) (by omega) ?_; (simp only [Act.put, List.setIfInBounds_toArray, List.set_cons_succ, List.set_cons_zero]); go_big_quiet_on) | (refine quiet_call ?_; apply Exists.intro; apply Exists.intro; apply Exists.intro; refine ⟨fun W => ?_, fun W hM => ?_, ?_⟩; (go_simp; exact ⟨rfl, rfl⟩); (exact l01Side_any _ W); (simp only [Act.put, List.setIfInBounds_toArray, List.set_cons_succ, List.set_cons_zero]); go_big_quiet_on) | (refine quiet_call ?_; apply Exists.intro; apply Exists.intro; apply Exists.intro; refine ⟨fun W => ?_, fun W hM => ?_, ?_⟩; (go_simp; exact ⟨rfl, rfl⟩); (exact l01Asked_any g hg _ x y hx hy _ W (hM.ats 1 _ _ _ rfl)); (simp only [Hc.out]); (simp only [Act.put, List.setIfInBounds_toArray, List.set_cons_succ, List.set_cons_zero]); go_big_quiet_on) | (refine quiet_val ?_; apply Exists.intro; refine ⟨fun W => ?_, ?_⟩; (go_simp; rfl); (simp only [Act.put, List.setIfInBounds_toArray, List.set_cons_succ, List.set_cons_zero]); go_big_quiet_on)))); (with_reducible refine wpQuiet_nil ?_); intro W' hM)
    go_wp2
    go_ret2
    exact ⟨ret_bc (hasH_no (by rw [Hc.out]; decide)).symm Hc.out.symm, hM.below⟩
  · have Hc := Lib.hid hc
    clear ho hc hi
    have tk_b1 : True := trivial; have tk_b2 : True := trivial
    go_enter Tryd.func24, Tryd.ntmps24
    go_wp2_with (first | (have _t := tk_b1; refine wpList_box rfl _ _ rfl _ _ rfl hM ?_; intro b1 W' hb1 hM'; clear hM tk_b1; have hM := hM'; clear hM') | (have _t := tk_b2; refine wpList_box rfl _ _ rfl _ _ rfl hM ?_; intro b2 W' hb2 hM'; clear hM tk_b2; have hM := hM'; clear hM'))
    ((try simp only [Act.put, List.setIfInBounds_toArray, List.set_cons_succ, List.set_cons_zero]); refine wp_region_mem (by kernel_rfl) (by kernel_rfl) hM ?_; clear hM; (repeat (first | go_big_quiet_skip | (go_big_quiet_want; first | (refine quiet_get _ _ rfl _ _ rfl 0 rfl (rowTab _ _ rfl) (by omega) ?_; (simp only [Act.put, List.setIfInBounds_toArray, List.set_cons_succ, List.set_cons_zero]); go_big_quiet_on) | (refine quiet_call ?_; apply Exists.intro; apply Exists.intro; apply Exists.intro; refine ⟨fun W => ?_, fun W hM => ?_, ?_⟩; (go_simp; exact ⟨rfl, rfl⟩); (exact l01Side_any _ W); (simp only [Act.put, List.setIfInBounds_toArray, List.set_cons_succ, List.set_cons_zero]); go_big_quiet_on) | (refine quiet_call ?_; apply Exists.intro; apply Exists.intro; apply Exists.intro; refine ⟨fun W => ?_, fun W hM => ?_, ?_⟩; (go_simp; exact ⟨rfl, rfl⟩); (exact l01Asked_any g hg _ x y hx hy _ W (hM.ats 1 _ _ _ rfl)); (simp only [Hc.out]); (simp only [Act.put, List.setIfInBounds_toArray, List.set_cons_succ, List.set_cons_zero]); go_big_quiet_on) | (refine quiet_val ?_; apply Exists.intro; refine ⟨fun W => ?_, ?_⟩; (go_simp; rfl); (simp only [Act.put, List.setIfInBounds_toArray, List.set_cons_succ, List.set_cons_zero]); go_big_quiet_on)))); (with_reducible refine wpQuiet_nil ?_); intro W' hM)
    go_wp2
    go_ret2
    exact ⟨ret_bc (hasH_no (by rw [Hc.out]; decide)).symm Hc.out.symm, hM.below⟩
  · have hb := isB_bounds ho hi
    have hn := inB_true hf
    have Hc := Lib.hid hc
    have Ho := Lib.hid ho
    clear ho hc hi hf
    obtain ⟨k, rfl⟩ : ∃ k : Nat, n = k := ⟨n.toNat, by omega⟩
    have tk_b1 : True := trivial; have tk_b2 : True := trivial
    go_enter Tryd.func24, Tryd.ntmps24
    go_wp2_with (first | (have _t := tk_b1; refine wpList_box rfl _ _ rfl _ _ rfl hM ?_; intro b1 W' hb1 hM'; clear hM tk_b1; have hM := hM'; clear hM') | (have _t := tk_b2; refine wpList_box rfl _ _ rfl _ _ rfl hM ?_; intro b2 W' hb2 hM'; clear hM tk_b2; have hM := hM'; clear hM'))
    ((try simp only [Act.put, List.setIfInBounds_toArray, List.set_cons_succ, List.set_cons_zero]); refine wp_region_mem (by kernel_rfl) (by kernel_rfl) hM ?_; clear hM; (repeat (first | go_big_quiet_skip | (go_big_quiet_want; first | (refine quiet_get _ _ rfl _ _ rfl 0 rfl (rowTab _ _ rfl) (by omega) ?_; (simp only [Act.put, List.setIfInBounds_toArray, List.set_cons_succ, List.set_cons_zero]); go_big_quiet_on) | (refine quiet_call ?_; apply Exists.intro; apply Exists.intro; apply Exists.intro; refine ⟨fun W => ?_, fun W hM => ?_, ?_⟩; (go_simp; exact ⟨rfl, rfl⟩); (exact l01Side_any _ W); (simp only [Act.put, List.setIfInBounds_toArray, List.set_cons_succ, List.set_cons_zero]); go_big_quiet_on) | (refine quiet_call ?_; apply Exists.intro; apply Exists.intro; apply Exists.intro; refine ⟨fun W => ?_, fun W hM => ?_, ?_⟩; (go_simp; exact ⟨rfl, rfl⟩); (exact l01Asked_any g hg _ x y hx hy _ W (hM.ats 1 _ _ _ rfl)); (simp only [Hc.out]); (simp only [Act.put, List.setIfInBounds_toArray, List.set_cons_succ, List.set_cons_zero]); go_big_quiet_on) | (refine quiet_val ?_; apply Exists.intro; refine ⟨fun W => ?_, ?_⟩; (go_simp; rfl); (simp only [Act.put, List.setIfInBounds_toArray, List.set_cons_succ, List.set_cons_zero]); go_big_quiet_on)))); (with_reducible refine wpQuiet_nil ?_); intro W' hM)
    go_wp2_with (first | (refine wpList_get rfl _ _ rfl _ _ rfl hM 0 rfl (rowTab _ _ rfl) (by omega) ?_) | (go_at_call 63; refine (l01Closed_any g hg Ho.out _ k (by omega) x y (by omega) (by omega) _ (hM.ats 1 _ _ _ rfl)).mono ?_; rintro e W' ⟨rfl, hb'⟩; have hM' := hM.call hb'; clear hM hb'; have hM := hM'; clear hM'))
    go_ret2
    exact ⟨ret_bc (hasH_ok Hc.out).symm Hc.out.symm, hM.below⟩

set_option maxRecDepth 100000 in
set_option maxHeartbeats 1000000 in
theorem implHasHurdle_any {a : Nat → Addr} (g : Nat → Int) (hg : Fits g) (x y n : Int) (w : World) (hE : Errs a w) :
    Calls Tryd.prog 25 #[.agg (arr 122 (pas g)), .agg (arr 2 (sp x y)), .int .i64 n] w fun e w' => e = .returned (boolR (hasH g x y n) (askC g x y (inB 0 3 n))) ∧ Below w.heap.size w w' := by
  have hM := Mem.nil w
  have HE := Lib.hid hE
  clear hE
  rcases askC_cases g x y (inB 0 3 n) with ⟨ho, hc⟩ | ⟨ho, hi, hc⟩ | ⟨ho, hi, hf, hc⟩
  · have Hc := Lib.hid hc
    have Ho : Hid (validB g = false) := Lib.hid (by rw [← okB_eq]; exact ho)
    clear ho hc
    have tk_b1 : True := trivial; have tk_b2 : True := trivial
    go_enter Tryd.func25, Tryd.ntmps25
    go_wp2_with (first | (have _t := tk_b1; refine wpList_box rfl _ _ rfl _ _ rfl hM ?_; intro b1 W' hb1 hM'; clear hM tk_b1; have hM := hM'; clear hM') | (have _t := tk_b2; refine wpList_box rfl _ _ rfl _ _ rfl hM ?_; intro b2 W' hb2 hM'; clear hM tk_b2; have hM := hM'; clear hM') | (refine wpList_get rfl _ _ rfl _ _ rfl hM 1 rfl (rowTab _ _ rfl) (by omega) ?_) | (refine wpList_get rfl _ _ rfl _ _ rfl hM 0 rfl (rowTab _ _ rfl) (by omega) ?_) | (go_at_call 64; refine (checkSide_bad g hg _ _ _ _ (HE.out.below hM.below) Ho.out).mono ?_; rintro e W' ⟨rfl, hb'⟩; have hM' := hM.call hb'; clear hM hb'; have hM := hM'; clear hM') | (go_at_call 53; (with_reducible refine (codeOf_0 (HE.out.below hM.below)).mono ?_); rintro e W' ⟨rfl, rfl⟩))
    go_ret2
    exact ⟨ret_bc (hasH_no (by rw [Hc.out]; decide)).symm Hc.out.symm, hM.below⟩
  · have Hc := Lib.hid hc
    have Ho : Hid (validB g = true) := Lib.hid (by rw [← okB_eq]; exact ho)
    have hk : ∀ W, Errs a W → Calls Tryd.prog 64 #[.agg (arr 122 (pas g)), .agg (arr 2 (sp x y)), .int .i64 n] W fun e w' => e = .returned (errV (a 1)) ∧ Below W.heap.size W w' := fun W hE => by
      cases hib : isB g x y
      · exact checkSide_out g hg x y n W hE Ho.out hib
      · exact checkSide_no g hg x y n W hE Ho.out hib (by simpa [hib] using hi)
    have Hk := Lib.hid hk
    clear ho hc hi hk
    have tk_b1 : True := trivial; have tk_b2 : True := trivial
    go_enter Tryd.func25, Tryd.ntmps25
    go_wp2_with (first | (have _t := tk_b1; refine wpList_box rfl _ _ rfl _ _ rfl hM ?_; intro b1 W' hb1 hM'; clear hM tk_b1; have hM := hM'; clear hM') | (have _t := tk_b2; refine wpList_box rfl _ _ rfl _ _ rfl hM ?_; intro b2 W' hb2 hM'; clear hM tk_b2; have hM := hM'; clear hM') | (refine wpList_get rfl _ _ rfl _ _ rfl hM 1 rfl (rowTab _ _ rfl) (by omega) ?_) | (refine wpList_get rfl _ _ rfl _ _ rfl hM 0 rfl (rowTab _ _ rfl) (by omega) ?_) | (go_at_call 64; refine (Hk.out _ (HE.out.below hM.below)).mono ?_; rintro e W' ⟨rfl, hb'⟩; have hM' := hM.call hb'; clear hM hb'; have hM := hM'; clear hM') | (go_at_call 53; (with_reducible refine (codeOf_1 (HE.out.below hM.below)).mono ?_); rintro e W' ⟨rfl, rfl⟩))
    go_ret2
    exact ⟨ret_bc (hasH_no (by rw [Hc.out]; decide)).symm Hc.out.symm, hM.below⟩
  · have hb := isB_bounds ho hi
    have hn := inB_true hf
    have Hc := Lib.hid hc
    have Ho : Hid (validB g = true) := Lib.hid (by rw [← okB_eq]; exact ho)
    have Hk := Lib.hid ho
    have Hi := Lib.hid hi
    have Hf := Lib.hid hf
    clear ho hc hi hf
    obtain ⟨k, rfl⟩ : ∃ k : Nat, n = k := ⟨n.toNat, by omega⟩
    have tk_b1 : True := trivial; have tk_b2 : True := trivial
    go_enter Tryd.func25, Tryd.ntmps25
    go_wp2_with (first | (have _t := tk_b1; refine wpList_box rfl _ _ rfl _ _ rfl hM ?_; intro b1 W' hb1 hM'; clear hM tk_b1; have hM := hM'; clear hM') | (have _t := tk_b2; refine wpList_box rfl _ _ rfl _ _ rfl hM ?_; intro b2 W' hb2 hM'; clear hM tk_b2; have hM := hM'; clear hM') | (refine wpList_get rfl _ _ rfl _ _ rfl hM 1 rfl (rowTab _ _ rfl) (by omega) ?_) | (refine wpList_get rfl _ _ rfl _ _ rfl hM 0 rfl (rowTab _ _ rfl) (by omega) ?_) | (go_at_call 64; refine (checkSide_yes g hg x y _ _ (HE.out.below hM.below) Ho.out Hi.out Hf.out).mono ?_; rintro e W' ⟨rfl, hb'⟩; have hM' := hM.call hb'; clear hM hb'; have hM := hM'; clear hM') | (go_at_call 65; refine (isOpen_any g hg Hk.out k (by omega) x y (by omega) (by omega) _).mono ?_; rintro e W' ⟨rfl, hb'⟩; have hM' := hM.call hb'; clear hM hb'; have hM := hM'; clear hM'))
    go_ret2
    exact ⟨ret_bc (by rw [hasH_ok Hc.out]; simp) Hc.out.symm, hM.below⟩

set_option maxRecDepth 100000 in
set_option maxHeartbeats 1000000 in
theorem lawHasHurdle_any {a : Nat → Addr} (g : Nat → Int) (hg : Fits g) (x y : Int) (hx : -128 ≤ x ∧ x ≤ 127) (hy : -128 ≤ y ∧ y ≤ 127) (n : Int) (w : World) (hE : Errs a w) :
    Calls Tryd.prog 6 #[.agg (arr 122 (pas g)), .agg (arr 2 (sp x y)), .int .i64 n] w fun e w' => e = .returned (.bool true) ∧ Below w.heap.size w w' := by
  have hM := Mem.nil w
  have HE := Lib.hid hE
  clear hE
  have tk_b1 : True := trivial; have tk_b2 : True := trivial
  go_enter Tryd.func6, Tryd.ntmps6
  go_wp2_with (first | (have _t := tk_b1; refine wpList_box rfl _ _ rfl _ _ rfl hM ?_; intro b1 W' hb1 hM'; clear hM tk_b1; have hM := hM'; clear hM') | (have _t := tk_b2; refine wpList_box rfl _ _ rfl _ _ rfl hM ?_; intro b2 W' hb2 hM'; clear hM tk_b2; have hM := hM'; clear hM'))
  ((try simp only [Act.put, List.setIfInBounds_toArray, List.set_cons_succ, List.set_cons_zero]); refine wp_region_mem (by kernel_rfl) (by kernel_rfl) hM ?_; clear hM; (repeat (first | go_big_quiet_skip | (go_big_quiet_want; first | (refine quiet_get _ _ rfl _ _ rfl 1 rfl (rowTab _ _ rfl) (by omega) ?_; (simp only [Act.put, List.setIfInBounds_toArray, List.set_cons_succ, List.set_cons_zero]); go_big_quiet_on) | (refine quiet_get _ _ rfl _ _ rfl 0 rfl (rowTab _ _ rfl) (by omega) ?_; (simp only [Act.put, List.setIfInBounds_toArray, List.set_cons_succ, List.set_cons_zero]); go_big_quiet_on) | (refine quiet_call ?_; apply Exists.intro; apply Exists.intro; apply Exists.intro; refine ⟨fun W => ?_, fun W hM => ?_, ?_⟩; (go_simp; exact ⟨rfl, rfl⟩); (exact toPasture_any _ (fun _ => rfl) W); (simp only [Act.put, List.setIfInBounds_toArray, List.set_cons_succ, List.set_cons_zero]); go_big_quiet_on) | (refine quiet_call ?_; apply Exists.intro; apply Exists.intro; apply Exists.intro; refine ⟨fun W => ?_, fun W hM => ?_, ?_⟩; (go_simp; exact ⟨rfl, rfl⟩); (exact toSpot_any _ (fun _ => rfl) W); (simp only [Act.put, List.setIfInBounds_toArray, List.set_cons_succ, List.set_cons_zero]); go_big_quiet_on) | (refine quiet_call ?_; apply Exists.intro; apply Exists.intro; apply Exists.intro; refine ⟨fun W => ?_, fun W hM => ?_, ?_⟩; (go_simp; exact ⟨rfl, rfl⟩); (exact specHasHurdle_any g hg x y hx hy n W); (simp only [boolR_eq]); (simp only [Act.put, List.setIfInBounds_toArray, List.set_cons_succ, List.set_cons_zero]); go_big_quiet_on) | (refine quiet_val ?_; apply Exists.intro; refine ⟨fun W => ?_, ?_⟩; (go_simp; rfl); (simp only [Act.put, List.setIfInBounds_toArray, List.set_cons_succ, List.set_cons_zero]); go_big_quiet_on)))); (with_reducible refine wpQuiet_nil ?_); intro W' hM)
  go_wp2
  ((try simp only [Act.put, List.setIfInBounds_toArray, List.set_cons_succ, List.set_cons_zero]); refine wp_region_mem (by kernel_rfl) (by kernel_rfl) hM ?_; clear hM; (repeat (first | go_big_quiet_skip | (go_big_quiet_want; first | (refine quiet_get _ _ rfl _ _ rfl 1 rfl (rowTab _ _ rfl) (by omega) ?_; (simp only [Act.put, List.setIfInBounds_toArray, List.set_cons_succ, List.set_cons_zero]); go_big_quiet_on) | (refine quiet_get _ _ rfl _ _ rfl 0 rfl (rowTab _ _ rfl) (by omega) ?_; (simp only [Act.put, List.setIfInBounds_toArray, List.set_cons_succ, List.set_cons_zero]); go_big_quiet_on) | (refine quiet_call ?_; apply Exists.intro; apply Exists.intro; apply Exists.intro; refine ⟨fun W => ?_, fun W hM => ?_, ?_⟩; (go_simp; exact ⟨rfl, rfl⟩); (exact toPasture_any _ (fun _ => rfl) W); (simp only [Act.put, List.setIfInBounds_toArray, List.set_cons_succ, List.set_cons_zero]); go_big_quiet_on) | (refine quiet_call ?_; apply Exists.intro; apply Exists.intro; apply Exists.intro; refine ⟨fun W => ?_, fun W hM => ?_, ?_⟩; (go_simp; exact ⟨rfl, rfl⟩); (exact toSpot_any _ (fun _ => rfl) W); (simp only [Act.put, List.setIfInBounds_toArray, List.set_cons_succ, List.set_cons_zero]); go_big_quiet_on) | (refine quiet_call ?_; apply Exists.intro; apply Exists.intro; apply Exists.intro; refine ⟨fun W => ?_, fun W hM => ?_, ?_⟩; (go_simp; exact ⟨rfl, rfl⟩); (exact implHasHurdle_any g hg x y n W (HE.out.below hM.below)); (simp only [boolR_eq]); (simp only [Act.put, List.setIfInBounds_toArray, List.set_cons_succ, List.set_cons_zero]); go_big_quiet_on) | (refine quiet_val ?_; apply Exists.intro; refine ⟨fun W => ?_, ?_⟩; (go_simp; rfl); (simp only [Act.put, List.setIfInBounds_toArray, List.set_cons_succ, List.set_cons_zero]); go_big_quiet_on)))); (with_reducible refine wpQuiet_nil ?_); intro W' hM)
  go_wp2
  go_ret
  exact ⟨rfl, hM.below⟩
end Go.Proofs.YtdlfhomnlhdacaaDoor
