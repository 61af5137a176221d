/-
  impl.checkGoats by contracts.
-/
import Derived.Test.YtdlfhomnlhdacaaDoorValidGoats
import Derived.Test.YtdlfhomnlhdacaaDoorCodeOf
namespace Go.Proofs.YtdlfhomnlhdacaaDoor
open Go Go.RowKit Go.BigFrame

set_option maxRecDepth 100000 in
set_option maxHeartbeats 1000000 in
theorem checkGoats_bad {a : Nat → Addr} (g : Nat → Int) (hg : Fits g) (b n c : Nat) (hs : Nat → Nat → Int) (hF : ∀ i, i < n → FitsG (hs i)) (hn : n ≤ 1048576) (w : World) (hB : At w b (n * 7) (gts hs)) (hE : Errs a w) (hv : goatsB g n hs = false) :
    Calls Tryd.prog 84 #[.agg (arr 122 (pas g)), .slice (some ⟨b, 0, none⟩) n c] w fun e w' => e = .returned (errV (a 0)) ∧ Below w.heap.size w w' := by
  have hM : Mem w [(b, n * 7, gts hs)] w := (Mem.nil w).old hB (fun i p h => by simp at h)
  have HE := Lib.hid hE
  have Hv := Lib.hid hv
  have HF := Lib.hid hF
  clear hv hE hF hB
  have tk_b1 : True := trivial; have tk_q1 : True := trivial
  go_enter Tryd.func84, Tryd.ntmps84
  go_wp2_with (first | (go_at_call 100; (with_reducible refine (implValidGoats_any g hg b n c hs HF.out hn _ (hM.ats 1 _ _ _ rfl)).mono ?_); rintro e W' ⟨rfl, hb'⟩; rw [Hv.out]; have hM' := hM.call hb'; have hE' := HE.out.below hM'.below; have v0 : W'.cell? ⟨0, 0, none⟩ = some (errV (a 0)) := hE'.vars 0 (by omega); clear hM hb' hE'; have hM := hM'; clear hM') | (have _t := tk_b1; refine wpList_box rfl _ _ rfl _ _ rfl hM ?_; intro b1 W' hb1 hM'; clear hM tk_b1; have hM := hM'; clear hM') | (have _t := tk_q1; (refine wpList_get rfl _ _ rfl _ _ rfl hM 0 rfl (rowTab _ _ rfl) (by omega) ?_); clear tk_q1))
  go_ret
  exact ⟨rfl, hM.below⟩
set_option maxRecDepth 100000 in
set_option maxHeartbeats 1000000 in
theorem checkGoats_ok (g : Nat → Int) (hg : Fits g) (b n c : Nat) (hs : Nat → Nat → Int) (hF : ∀ i, i < n → FitsG (hs i)) (hn : n ≤ 1048576) (w : World) (hB : At w b (n * 7) (gts hs)) (hv : goatsB g n hs = true) :
    Calls Tryd.prog 84 #[.agg (arr 122 (pas g)), .slice (some ⟨b, 0, none⟩) n c] w fun e w' => e = .returned .nilIface ∧ Below w.heap.size w w' := by
  have hM : Mem w [(b, n * 7, gts hs)] w := (Mem.nil w).old hB (fun i p h => by simp at h)
  have Hv := Lib.hid hv
  have HF := Lib.hid hF
  clear hv hF hB
  have tk_b1 : True := trivial; have tk_q1 : True := trivial
  go_enter Tryd.func84, Tryd.ntmps84
  go_wp2_with (first | (go_at_call 100; (with_reducible refine (implValidGoats_any g hg b n c hs HF.out hn _ (hM.ats 1 _ _ _ rfl)).mono ?_); rintro e W' ⟨rfl, hb'⟩; rw [Hv.out]; have hM' := hM.call hb'; clear hM hb'; have hM := hM'; clear hM') | (have _t := tk_b1; refine wpList_box rfl _ _ rfl _ _ rfl hM ?_; intro b1 W' hb1 hM'; clear hM tk_b1; have hM := hM'; clear hM') | (have _t := tk_q1; (refine wpList_get rfl _ _ rfl _ _ rfl hM 0 rfl (rowTab _ _ rfl) (by omega) ?_); clear tk_q1))
  go_ret
  exact ⟨rfl, hM.below⟩
end Go.Proofs.YtdlfhomnlhdacaaDoor
