/-
  spec.GrowCell and impl.GrowCell by contracts; laws.FnExactGrowCell returns true.
-/
import Derived.Test.YtjfmhnbbdkejeaaDoorCheckGrowth
import Derived.Test.YtjfmhnbbdkejeaaDoorCheckGrass
import Derived.Test.YtjfmhnbbdkejeaaDoorNeq0
import Derived.Test.YtjfmhnbbdkejeaaDoorNum
import Derived.Test.YtjfmhnbbdkejeaaDoorLater
import Derived.Test.YtjfmhnbbdkejeaaDoorGrowConv
namespace Go.Proofs.YtjfmhnbbdkejeaaDoor
open Go Go.RowKit Go.BigFrame

/-- What GrowCell answers. -/
def cellN (h : Nat → Int) (n : Int) : Int := if growB h && inB 0 1000 n then laterN h n.toNat else 0
def cellC (h : Nat → Int) (n : Int) : Int := if growB h then (if inB 0 1000 n then 0 else 2) else 1
theorem cell_no {h : Nat → Int} {n : Int} (e : growB h = false) : cellN h n = 0 ∧ cellC h n = 1 := by simp [cellN, cellC, e]
theorem cell_out {h : Nat → Int} {n : Int} (e : growB h = true) (e' : inB 0 1000 n = false) : cellN h n = 0 ∧ cellC h n = 2 := by simp [cellN, cellC, e, e']
theorem cell_ok {h : Nat → Int} {n : Nat} (e : growB h = true) (e' : inB 0 1000 (n : Int) = true) : cellN h n = laterN h n ∧ cellC h n = 0 := by simp [cellN, cellC, e, e']

set_option maxRecDepth 100000 in
set_option maxHeartbeats 1000000 in
theorem specGrowCell_any (h : Nat → Int) (hF : FitsW h) (n : Int) (w : World) :
    Calls Tryd.prog 24 #[.agg (arr 12 (gro h)), .int .i64 n] w fun e w' => e = .returned (numR (cellN h n) (cellC h n)) ∧ Below w.heap.size w w' := by
  have hM := Mem.nil w
  have HF := Lib.hid hF
  clear hF
  have tk_b1 : True := trivial
  cases hv : growB h
  · have Hr := Lib.hid (cell_no (n := n) hv)
    have Hv := Lib.hid hv
    clear hv
    go_enter Tryd.func24, Tryd.ntmps24
    go_wp2_with (first | (have _t := tk_b1; refine wpList_box rfl _ _ rfl _ _ rfl hM ?_; intro b1 W' hb1 hM'; clear hM tk_b1; have hM := hM'; clear hM') | (go_at_call 58; (with_reducible refine (l04Ok_any h HF.out b1 _ (hM.ats 0 _ _ _ rfl)).mono ?_); rintro e W' ⟨rfl, hb'⟩; rw [Hv.out]; have hM' := hM.call hb'; clear hM hb'; have hM := hM'; clear hM'))
    go_ret2
    exact ⟨ret_num Hr.out.1.symm Hr.out.2.symm, hM.below⟩
  cases hi : inB 0 1000 n
  · have Hr := Lib.hid (cell_out hv hi)
    have Hv := Lib.hid hv
    have Hi := Lib.hid hi
    clear hv hi
    go_enter Tryd.func24, Tryd.ntmps24
    go_wp2_with (first | (have _t := tk_b1; refine wpList_box rfl _ _ rfl _ _ rfl hM ?_; intro b1 W' hb1 hM'; clear hM tk_b1; have hM := hM'; clear hM') | (go_at_call 58; (with_reducible refine (l04Ok_any h HF.out b1 _ (hM.ats 0 _ _ _ rfl)).mono ?_); rintro e W' ⟨rfl, hb'⟩; rw [Hv.out]; have hM' := hM.call hb'; clear hM hb'; have hM := hM'; clear hM') | (go_at_call 59; (with_reducible refine (l01Grass_any _ _).mono ?_); rintro e W' ⟨rfl, hb'⟩; rw [Hi.out]; have hM' := hM.call hb'; clear hM hb'; have hM := hM'; clear hM'))
    go_ret2
    exact ⟨ret_num Hr.out.1.symm Hr.out.2.symm, hM.below⟩
  · have hb := inB_true hi
    obtain ⟨n, rfl⟩ : ∃ m : Nat, n = m := ⟨n.toNat, by omega⟩
    have Hr := Lib.hid (cell_ok hv hi)
    have Hv := Lib.hid hv
    have Hi := Lib.hid hi
    clear hv hi
    go_enter Tryd.func24, Tryd.ntmps24
    go_wp2_with (first | (have _t := tk_b1; refine wpList_box rfl _ _ rfl _ _ rfl hM ?_; intro b1 W' hb1 hM'; clear hM tk_b1; have hM := hM'; clear hM') | (go_at_call 58; (with_reducible refine (l04Ok_any h HF.out b1 _ (hM.ats 0 _ _ _ rfl)).mono ?_); rintro e W' ⟨rfl, hb'⟩; rw [Hv.out]; have hM' := hM.call hb'; clear hM hb'; have hM := hM'; clear hM') | (go_at_call 59; (with_reducible refine (l01Grass_any _ _).mono ?_); rintro e W' ⟨rfl, hb'⟩; rw [Hi.out]; have hM' := hM.call hb'; clear hM hb'; have hM := hM'; clear hM') | (go_at_call 60; (with_reducible refine (l04Cell_any h Hv.out b1 n (by omega) _ (hM.ats 0 _ _ _ rfl)).mono ?_); rintro e W' ⟨rfl, hb'⟩; have hM' := hM.call hb'; clear hM hb'; have hM := hM'; clear hM'))
    go_ret2
    exact ⟨ret_num Hr.out.1.symm Hr.out.2.symm, hM.below⟩

set_option maxRecDepth 100000 in
set_option maxHeartbeats 1000000 in
theorem implGrowCell_any {a : Nat → Addr} (h : Nat → Int) (hF : FitsW h) (n : Int) (w : World) (hE : Errs a w) :
    Calls Tryd.prog 26 #[.agg (arr 12 (gro h)), .int .i64 n] w fun e w' => e = .returned (numR (cellN h n) (cellC h n)) ∧ Below w.heap.size w w' := by
  have hM := Mem.nil w
  have HF := Lib.hid hF
  have HE := Lib.hid hE
  clear hF hE
  have tk_b1 : True := trivial
  cases hv : growB h
  · have Hr := Lib.hid (cell_no (n := n) hv)
    have Hv := Lib.hid hv
    clear hv
    go_enter Tryd.func26, Tryd.ntmps26
    go_wp2_with (first | (have _t := tk_b1; refine wpList_box rfl _ _ rfl _ _ rfl hM ?_; intro b1 W' hb1 hM'; clear hM tk_b1; have hM := hM'; clear hM') | (refine wpList_get rfl _ _ rfl _ _ rfl hM 0 rfl (rowTab _ _ rfl) (by omega) ?_) | (go_at_call 62; (with_reducible refine (checkGrowth_no h HF.out _ (HE.out.below hM.below) Hv.out).mono ?_); rintro e W' ⟨rfl, hb'⟩; have hM' := hM.call hb'; clear hM hb'; have hM := hM'; clear hM') | (go_at_call 50; (with_reducible refine (codeOf_0 (HE.out.below hM.below)).mono ?_); rintro e W' ⟨rfl, rfl⟩))
    go_ret2
    exact ⟨ret_num Hr.out.1.symm Hr.out.2.symm, hM.below⟩
  cases hi : inB 0 1000 n
  · have Hr := Lib.hid (cell_out hv hi)
    have Hv := Lib.hid hv
    have Hi := Lib.hid hi
    clear hv hi
    go_enter Tryd.func26, Tryd.ntmps26
    go_wp2_with (first | (have _t := tk_b1; refine wpList_box rfl _ _ rfl _ _ rfl hM ?_; intro b1 W' hb1 hM'; clear hM tk_b1; have hM := hM'; clear hM') | (refine wpList_get rfl _ _ rfl _ _ rfl hM 0 rfl (rowTab _ _ rfl) (by omega) ?_) | (go_at_call 62; (with_reducible refine (checkGrowth_yes h HF.out _ Hv.out).mono ?_); rintro e W' ⟨rfl, hb'⟩; have hM' := hM.call hb'; clear hM hb'; have hM := hM'; clear hM') | (go_at_call 63; (with_reducible refine (checkGrass_no _ _ (HE.out.below hM.below) Hi.out).mono ?_); rintro e W' ⟨rfl, hb'⟩; have hM' := hM.call hb'; clear hM hb'; have hM := hM'; clear hM') | (go_at_call 50; (with_reducible refine (codeOf_1 (HE.out.below hM.below)).mono ?_); rintro e W' ⟨rfl, rfl⟩))
    go_ret2
    exact ⟨ret_num Hr.out.1.symm Hr.out.2.symm, hM.below⟩
  · have hb := inB_true hi
    obtain ⟨n, rfl⟩ : ∃ m : Nat, n = m := ⟨n.toNat, by omega⟩
    have Hr := Lib.hid (cell_ok hv hi)
    have Hv := Lib.hid hv
    have Hi := Lib.hid hi
    clear hv hi
    go_enter Tryd.func26, Tryd.ntmps26
    go_wp2_with (first | (have _t := tk_b1; refine wpList_box rfl _ _ rfl _ _ rfl hM ?_; intro b1 W' hb1 hM'; clear hM tk_b1; have hM := hM'; clear hM') | (refine wpList_get rfl _ _ rfl _ _ rfl hM 0 rfl (rowTab _ _ rfl) (by omega) ?_) | (go_at_call 62; (with_reducible refine (checkGrowth_yes h HF.out _ Hv.out).mono ?_); rintro e W' ⟨rfl, hb'⟩; have hM' := hM.call hb'; clear hM hb'; have hM := hM'; clear hM') | (go_at_call 63; (with_reducible refine (checkGrass_yes _ _ Hi.out).mono ?_); rintro e W' ⟨rfl, hb'⟩; have hM' := hM.call hb'; clear hM hb'; have hM := hM'; clear hM') | (go_at_call 64; (with_reducible refine (later_any h Hv.out n (by omega) _).mono ?_); rintro e W' ⟨rfl, hb'⟩; have hM' := hM.call hb'; clear hM hb'; have hM := hM'; clear hM'))
    go_ret2
    exact ⟨ret_num Hr.out.1.symm Hr.out.2.symm, hM.below⟩

set_option maxRecDepth 100000 in
set_option maxHeartbeats 1000000 in
theorem lawGrowCell_any {a : Nat → Addr} (h : Nat → Int) (hF : FitsW h) (n : Int) (w : World) (hE : Errs a w) :
    Calls Tryd.prog 5 #[.agg (arr 12 (gro h)), .int .i64 n] w fun e w' => e = .returned (.bool true) ∧ Below w.heap.size w w' := by
  have hM := Mem.nil w
  have HE := Lib.hid hE
  have Hz := Lib.hid (numR_eq (cellN h n) (cellC h n))
  clear hE
  have tk_b1 : True := trivial
  go_enter Tryd.func5, Tryd.ntmps5
  go_wp2_with (first | (have _t := tk_b1; refine wpList_box rfl _ _ rfl _ _ rfl hM ?_; intro b1 W' hb1 hM'; clear hM tk_b1; have hM := hM'; clear hM') | (refine wpList_get rfl _ _ rfl _ _ rfl hM 0 rfl (rowTab _ _ rfl) (by omega) ?_) | (go_at_call 25; (with_reducible refine (toGrowth_gro h _).mono ?_); rintro e W' ⟨rfl, hb'⟩; have hM' := hM.call hb'; clear hM hb'; have hM := hM'; clear hM') | (go_at_call 24; (with_reducible refine (specGrowCell_any h hF n _).mono ?_); rintro e W' ⟨rfl, hb'⟩; rw [Hz.out]; have hM' := hM.call hb'; clear hM hb'; have hM := hM'; clear hM') | (go_at_call 26; (with_reducible refine (implGrowCell_any h hF n _ (HE.out.below hM.below)).mono ?_); rintro e W' ⟨rfl, hb'⟩; rw [Hz.out]; have hM' := hM.call hb'; clear hM hb'; have hM := hM'; clear hM'))
  go_ret
  exact ⟨rfl, hM.below⟩
end Go.Proofs.YtjfmhnbbdkejeaaDoor
