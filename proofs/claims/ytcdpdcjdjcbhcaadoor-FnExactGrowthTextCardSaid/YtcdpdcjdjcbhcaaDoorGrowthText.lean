/-
  laws.FnExactGrowthText returns true.
-/
import Derived.Test.YtcdpdcjdjcbhcaaDoorGrowthTS
import Derived.Test.YtcdpdcjdjcbhcaaDoorGrowthTI
import Derived.Test.YtcdpdcjdjcbhcaaDoorGrowConv
namespace Go.Proofs.YtcdpdcjdjcbhcaaDoor
open Go Go.RowKit Go.BigFrame

set_option maxRecDepth 100000 in
theorem lawGrowthText_any (h : Nat → Int) (hF : FitsW h) (w : World) (hT : TabP w) :
    Calls Tryd.prog 4 #[.agg (arr 12 (gro h))] w fun e w' => e = .returned (.bool true) ∧ Below w.heap.size w w' := by
  have hM := Mem.nil w
  have HT := Lib.hid hT
  have HS := Lib.hid (fun (W : World) => specGrowthText_any h hF W)
  have HI := Lib.hid (fun (W : World) (hT : TabP W) => implGrowthText_any h hF W hT)
  generalize bs (growthT h) = tx at HS HI
  clear hT
  have tk_b1 : True := trivial
  go_enter Tryd.func4, Tryd.ntmps4
  go_wp2_with (first | (have _t := tk_b1; refine wpList_box rfl _ _ rfl _ _ rfl hM ?_; intro b1 W' hb1 hM'; clear hM tk_b1; have hM := hM'; clear hM') | (refine wpList_get rfl _ _ rfl _ _ rfl hM 0 rfl (rowTab _ _ rfl) (by omega) ?_) | (go_at_call 16; (with_reducible refine (toGrowth_gro h _).mono ?_); rintro e W' ⟨rfl, hb'⟩; have hM' := hM.call hb'; clear hM hb'; have hM := hM'; clear hM') | (go_at_call 15; refine (HS.out _).mono ?_; rintro e W' ⟨rfl, hb'⟩; have hM' := hM.call hb'; clear hM hb'; have hM := hM'; clear hM') | (go_at_call 17; refine (HI.out _ (HT.out.below hM.below)).mono ?_; rintro e W' ⟨rfl, hb'⟩; have hM' := hM.call hb'; clear hM hb'; have hM := hM'; clear hM'))
  go_ret
  exact ⟨rfl, hM.below⟩
end Go.Proofs.YtcdpdcjdjcbhcaaDoor
