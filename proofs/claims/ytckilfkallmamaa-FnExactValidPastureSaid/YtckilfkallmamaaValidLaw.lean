/-
  laws.FnExactValidPasture returns true.
-/
import Derived.Test.YtckilfkallmamaaConv
import Derived.Test.YtckilfkallmamaaValidB
namespace Go.Proofs.Ytckilfkallmamaa
open Go Go.RowKit Go.BigFrame

set_option maxRecDepth 100000 in
set_option maxHeartbeats 1000000 in
theorem lawValid_any (a : Nat → Int) (ha : Fits a) (w : World) :
    Calls Try.prog 3 #[.agg (arr 122 (pas a))] w fun e w' => e = .returned (.bool true) ∧ Below w.heap.size w w' := by
  have hM := Mem.nil w
  have hv : ∀ W, Calls Try.prog 7 #[.agg (arr 122 (pas a))] W fun e w' => e = .returned (.bool (okB a)) ∧ Below W.heap.size W w' := fun W => by
    rw [okB_eq]; exact implValid_any a ha W
  have tk_b1 : True := trivial
  go_enter Try.func3, Try.ntmps3
  go_wp2_with (first | (have _t := tk_b1; refine wpList_box rfl _ _ rfl _ _ rfl hM ?_; intro b1 W' hb1 hM'; clear hM tk_b1; have hM := hM'; clear hM') | (refine wpList_get rfl _ _ rfl _ _ rfl hM 0 rfl (rowTab _ _ rfl) (by omega) ?_) | (go_at_call 6; refine (toPasture_any _ (fun _ => rfl) _).mono ?_; rintro e W' ⟨rfl, hb'⟩; have hM' := hM.call hb'; clear hM hb'; have hM := hM'; clear hM') | (go_at_call 5; refine (specValid_any _ ha _).mono ?_; rintro e W' ⟨rfl, hb'⟩; have hM' := hM.call hb'; clear hM hb'; have hM := hM'; clear hM') | (go_at_call 7; refine (hv _).mono ?_; rintro e W' ⟨rfl, hb'⟩; have hM' := hM.call hb'; clear hM hb'; have hM := hM'; clear hM'))
  go_ret
  exact ⟨rfl, hM.below⟩
end Go.Proofs.Ytckilfkallmamaa
