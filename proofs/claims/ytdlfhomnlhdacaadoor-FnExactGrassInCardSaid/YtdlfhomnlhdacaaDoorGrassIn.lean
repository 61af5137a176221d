/-
  spec.GrassIn and impl.GrassIn by contracts; laws.FnExactGrassIn returns true.
-/
import Derived.Test.YtdlfhomnlhdacaaDoorSumCells
import Derived.Test.YtdlfhomnlhdacaaDoorGrassAt
namespace Go.Proofs.YtdlfhomnlhdacaaDoor
open Go Go.RowKit Go.Shelf Go.BigFrame

/-- What GrassIn answers. -/
def inC (g : Nat → Int) : Int := if okB g then 0 else 1
def inN (g : Nat → Int) : Int := if okB g then sumN 100 (fun k => g (2 + k)) else 0
theorem inC_no {g : Nat → Int} (h : okB g = false) : inC g = 1 := by simp [inC, h]
theorem inC_ok {g : Nat → Int} (h : okB g = true) : inC g = 0 := by simp [inC, h]
theorem inN_no {g : Nat → Int} (h : okB g = false) : inN g = 0 := by simp [inN, h]
theorem inN_ok {g : Nat → Int} (h : okB g = true) : inN g = sumN 100 (fun k => g (2 + k)) := by simp [inN, h]

set_option maxRecDepth 100000 in
set_option maxHeartbeats 1000000 in
theorem specGrassIn_any (g : Nat → Int) (hg : Fits g) (w : World) :
    Calls Tryd.prog 30 #[.agg (arr 122 (pas g))] w fun e w' => e = .returned (numR (inN g) (inC g)) ∧ Below w.heap.size w w' := by
  have hM := Mem.nil w
  cases ho : okB g
  · have Ho := Lib.hid ho
    clear ho
    have tk_b1 : True := trivial
    go_enter Tryd.func30, Tryd.ntmps30
    go_wp2_with (first | (have _t := tk_b1; refine wpList_box rfl _ _ rfl _ _ rfl hM ?_; intro b1 W' hb1 hM'; clear hM tk_b1; have hM := hM'; clear hM') | (go_at_call 71; refine (l01Ok_any g hg _ _ (hM.ats 0 _ _ _ rfl)).mono ?_; rintro e W' ⟨rfl, hb'⟩; rw [Ho.out]; have hM' := hM.call hb'; clear hM hb'; have hM := hM'; clear hM'))
    go_ret2
    exact ⟨ret_num (inN_no Ho.out).symm (inC_no Ho.out).symm, hM.below⟩
  · have Ho := Lib.hid ho
    clear ho
    have tk_b1 : True := trivial
    go_enter Tryd.func30, Tryd.ntmps30
    go_wp2_with (first | (have _t := tk_b1; refine wpList_box rfl _ _ rfl _ _ rfl hM ?_; intro b1 W' hb1 hM'; clear hM tk_b1; have hM := hM'; clear hM') | (go_at_call 71; refine (l01Ok_any g hg _ _ (hM.ats 0 _ _ _ rfl)).mono ?_; rintro e W' ⟨rfl, hb'⟩; rw [Ho.out]; have hM' := hM.call hb'; clear hM hb'; have hM := hM'; clear hM') | (go_at_call 74; refine (l01Sum_any g hg (fun k hk => (ok_grass Ho.out k hk).1) _ _ (hM.ats 0 _ _ _ rfl)).mono ?_; rintro e W' ⟨rfl, hb'⟩; have hM' := hM.call hb'; clear hM hb'; have hM := hM'; clear hM'))
    go_ret2
    exact ⟨ret_num (inN_ok Ho.out).symm (inC_ok Ho.out).symm, hM.below⟩

set_option maxRecDepth 100000 in
set_option maxHeartbeats 1000000 in
theorem implGrassIn_any {a : Nat → Addr} (g : Nat → Int) (hg : Fits g) (w : World) (hE : Errs a w) :
    Calls Tryd.prog 31 #[.agg (arr 122 (pas g))] w fun e w' => e = .returned (numR (inN g) (inC g)) ∧ Below w.heap.size w w' := by
  have hM := Mem.nil w
  have HE := Lib.hid hE
  clear hE
  cases ho : okB g
  · have Hk := Lib.hid ho
    have Ho : Hid (validB g = false) := Lib.hid (by rw [← okB_eq]; exact ho)
    clear ho
    have tk_b1 : True := trivial
    go_enter Tryd.func31, Tryd.ntmps31
    go_wp2_with (first | (have _t := tk_b1; refine wpList_box rfl _ _ rfl _ _ rfl hM ?_; intro b1 W' hb1 hM'; clear hM tk_b1; have hM := hM'; clear hM') | (refine wpList_get rfl _ _ rfl _ _ rfl hM 0 rfl (rowTab _ _ rfl) (by omega) ?_) | (go_at_call 60; refine (checkCells_bad g hg _ _ (HE.out.below hM.below) Ho.out).mono ?_; rintro e W' ⟨rfl, hb'⟩; have hM' := hM.call hb'; clear hM hb'; have hM := hM'; clear hM') | (go_at_call 53; (with_reducible refine (codeOf_0 (HE.out.below hM.below)).mono ?_); rintro e W' ⟨rfl, rfl⟩))
    go_ret2
    exact ⟨ret_num (inN_no Hk.out).symm (inC_no Hk.out).symm, hM.below⟩
  · have Hk := Lib.hid ho
    have Ho : Hid (validB g = true) := Lib.hid (by rw [← okB_eq]; exact ho)
    clear ho
    have tk_b1 : True := trivial
    go_enter Tryd.func31, Tryd.ntmps31
    go_wp2_with (first | (have _t := tk_b1; refine wpList_box rfl _ _ rfl _ _ rfl hM ?_; intro b1 W' hb1 hM'; clear hM tk_b1; have hM := hM'; clear hM') | (refine wpList_get rfl _ _ rfl _ _ rfl hM 0 rfl (rowTab _ _ rfl) (by omega) ?_) | (go_at_call 60; refine (checkCells_nil g hg _ Ho.out).mono ?_; rintro e W' ⟨rfl, hb'⟩; have hM' := hM.call hb'; clear hM hb'; have hM := hM'; clear hM'))
    ((try simp only [Act.put, List.setIfInBounds_toArray, List.set_cons_succ, List.set_cons_zero]); refine region_mix (n := 2) (by kernel_rfl) (by kernel_rfl) hM ?_; clear hM; simp only [List.take_succ_cons, List.take_zero, List.drop_succ_cons, List.drop_zero]; (repeat (refine wpB_plain rfl ?_; first | (refine b_get _ _ rfl _ _ rfl 0 rfl (rowTab _ _ rfl) (by omega) ?_; (simp only [Act.put, List.setIfInBounds_toArray, List.set_cons_succ, List.set_cons_zero])))); (with_reducible refine wpB_nil ?_))
    (refine thr_call_new rfl (n := 122) (f := pas g) (fun b => .func (.func 88) #[] #[.pointer (some ⟨b, 0, none⟩)]) ?_; apply Exists.intro; apply Exists.intro; refine ⟨fun W => ?_, fun W hM => ?_, ?_⟩; (go_simp; exact ⟨rfl, rfl⟩); (exact cells_any g W); (intro bp hbp); (simp only [Act.put, List.setIfInBounds_toArray, List.set_cons_succ, List.set_cons_zero]))
    (refine thr_call rfl ?_; apply Exists.intro; apply Exists.intro; apply Exists.intro; refine ⟨fun W => ?_, fun W hM => ?_, ?_⟩; (go_simp; exact ⟨rfl, rfl⟩); (exact sumGrass_cells g hg Hk.out _ W (hM.ats 0 _ _ _ rfl)); (simp only [Act.put, List.setIfInBounds_toArray, List.set_cons_succ, List.set_cons_zero]))
    (refine thr_val rfl ?_; apply Exists.intro; refine ⟨fun W => ?_, ?_⟩; (go_simp; rfl); (simp only [Act.put, List.setIfInBounds_toArray, List.set_cons_succ, List.set_cons_zero]))
    (refine thr_val rfl ?_; apply Exists.intro; refine ⟨fun W => ?_, ?_⟩; (go_simp; rfl); (simp only [Act.put, List.setIfInBounds_toArray, List.set_cons_succ, List.set_cons_zero]))
    (refine thr_nil ?_; intro W' hM; simp only [List.cons_append, List.nil_append] at hM)
    go_wp2
    go_ret2
    exact ⟨ret_num (inN_ok Hk.out).symm (inC_ok Hk.out).symm, hM.below⟩

set_option maxRecDepth 100000 in
set_option maxHeartbeats 1000000 in
theorem lawGrassIn_any {a : Nat → Addr} (g : Nat → Int) (hg : Fits g) (w : World) (hE : Errs a w) :
    Calls Tryd.prog 9 #[.agg (arr 122 (pas g))] w fun e w' => e = .returned (.bool true) ∧ Below w.heap.size w w' := by
  have hM := Mem.nil w
  have HE := Lib.hid hE
  have H1 := Lib.hid (numR_eq (inN g) (inC g))
  clear hE
  have tk_b1 : True := trivial
  go_enter Tryd.func9, Tryd.ntmps9
  go_wp2_with (first | (have _t := tk_b1; refine wpList_box rfl _ _ rfl _ _ rfl hM ?_; intro b1 W' hb1 hM'; clear hM tk_b1; have hM := hM'; clear hM') | (refine wpList_get rfl _ _ rfl _ _ rfl hM 0 rfl (rowTab _ _ rfl) (by omega) ?_) | (go_at_call 19; refine (toPasture_any _ (fun _ => rfl) _).mono ?_; rintro e W' ⟨rfl, hb'⟩; have hM' := hM.call hb'; clear hM hb'; have hM := hM'; clear hM') | (go_at_call 30; refine (specGrassIn_any g hg _).mono ?_; rintro e W' ⟨rfl, hb'⟩; rw [H1.out]; have hM' := hM.call hb'; clear hM hb'; have hM := hM'; clear hM') | (go_at_call 31; refine (implGrassIn_any g hg _ (HE.out.below hM.below)).mono ?_; rintro e W' ⟨rfl, hb'⟩; rw [H1.out]; have hM' := hM.call hb'; clear hM hb'; have hM := hM'; clear hM'))
  go_ret
  exact ⟨rfl, hM.below⟩
end Go.Proofs.YtdlfhomnlhdacaaDoor
