/-
  impl.checkGrowth by contracts.
-/
import Derived.Test.YtjfmhnbbdkejeaaDoorCodeOf
import Derived.Test.YtjfmhnbbdkejeaaDoorGrow
namespace Go.Proofs.YtjfmhnbbdkejeaaDoor
open Go Go.RowKit Go.BigFrame

set_option maxHeartbeats 400000 in
theorem checkGrowth_no {a : Nat → Addr} (h : Nat → Int) (hF : FitsW h) (w : World) (hE : Errs a w) (hv : growB h = false) :
    Calls Tryd.prog 62 #[.agg (arr 12 (gro h))] w fun e w' => e = .returned (errV (a 0)) ∧ Below w.heap.size w w' := by
  have hM := Mem.nil w
  have hi := fun W => implValidGrowth_any h hF W
  rw [hv] at hi
  have H := Lib.hid hE
  have Hi := Lib.hid hi
  clear hv hi hE
  have tk_b1 : True := trivial
  go_enter Tryd.func62, Tryd.ntmps62
  go_wp2_with (first | (have _t := tk_b1; refine wpList_box rfl _ _ rfl _ _ rfl hM ?_; intro b1 W' hb1 hM'; clear hM tk_b1; have hM := hM'; clear hM') | (refine wpList_get rfl _ _ rfl _ _ rfl hM 0 rfl (rowTab _ _ rfl) (by omega) ?_) | (go_at_call 100; refine (Hi.out _).mono ?_; rintro e W' ⟨rfl, hb'⟩; have hM' := hM.call hb'; have hE' := H.out.below hM'.below; have v0 : W'.cell? ⟨0, 0, none⟩ = some (errV (a 0)) := hE'.vars 0 (by omega); clear hM hb' hE'; have hM := hM'; clear hM'))
  go_ret
  exact ⟨rfl, hM.below⟩
set_option maxHeartbeats 400000 in
theorem checkGrowth_yes (h : Nat → Int) (hF : FitsW h) (w : World) (hv : growB h = true) :
    Calls Tryd.prog 62 #[.agg (arr 12 (gro h))] w fun e w' => e = .returned .nilIface ∧ Below w.heap.size w w' := by
  have hM := Mem.nil w
  have hi := fun W => implValidGrowth_any h hF W
  rw [hv] at hi
  have Hi := Lib.hid hi
  clear hv hi
  have tk_b1 : True := trivial
  go_enter Tryd.func62, Tryd.ntmps62
  go_wp2_with (first | (have _t := tk_b1; refine wpList_box rfl _ _ rfl _ _ rfl hM ?_; intro b1 W' hb1 hM'; clear hM tk_b1; have hM := hM'; clear hM') | (refine wpList_get rfl _ _ rfl _ _ rfl hM 0 rfl (rowTab _ _ rfl) (by omega) ?_) | (go_at_call 100; refine (Hi.out _).mono ?_; rintro e W' ⟨rfl, hb'⟩; have hM' := hM.call hb'; clear hM hb'; have hM := hM'; clear hM'))
  go_ret
  exact ⟨rfl, hM.below⟩
end Go.Proofs.YtjfmhnbbdkejeaaDoor
