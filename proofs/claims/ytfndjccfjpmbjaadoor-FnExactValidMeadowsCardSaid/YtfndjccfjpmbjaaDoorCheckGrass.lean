/-
  impl.checkGrass by contracts.
-/
import Derived.Test.YtfndjccfjpmbjaaDoorUpTo
namespace Go.Proofs.YtfndjccfjpmbjaaDoor
open Go Go.RowKit Go.BigFrame

theorem checkGrass_no {a : Nat → Addr} (n : Int) (w : World) (hE : Errs a w) (h : inB 0 1000 n = false) :
    Calls Tryd.prog 15 #[.int .i64 n] w fun e w' => e = .returned (errV (a 1)) ∧ Below w.heap.size w w' := by
  have hM := Mem.nil w
  have H := Lib.hid hE
  clear hE
  go_enter Tryd.func15, Tryd.ntmps15
  go_wp2_with (go_at_call 16; refine (checkUpTo_no _ _ _ H.out h).mono ?_; rintro e W' ⟨rfl, hb'⟩; have hM' := hM.call hb'; clear hM hb'; have hM := hM'; clear hM')
  go_ret
  exact ⟨rfl, hM.below⟩
theorem checkGrass_yes (n : Int) (w : World) (h : inB 0 1000 n = true) :
    Calls Tryd.prog 15 #[.int .i64 n] w fun e w' => e = .returned .nilIface ∧ Below w.heap.size w w' := by
  have hM := Mem.nil w
  go_enter Tryd.func15, Tryd.ntmps15
  go_wp2_with (go_at_call 16; refine (checkUpTo_yes _ _ _ h).mono ?_; rintro e W' ⟨rfl, hb'⟩; have hM' := hM.call hb'; clear hM hb'; have hM := hM'; clear hM')
  go_ret
  exact ⟨rfl, hM.below⟩
end Go.Proofs.YtfndjccfjpmbjaaDoor
