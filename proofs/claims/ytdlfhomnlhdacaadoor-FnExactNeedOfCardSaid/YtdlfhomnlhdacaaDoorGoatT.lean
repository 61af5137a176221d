/-
  laws.eqGoat on what is equal; a goat's cells.
-/
import Derived.Test.YtdlfhomnlhdacaaDoorEqSpot
namespace Go.Proofs.YtdlfhomnlhdacaaDoor
open Go Go.RowKit Go.BigFrame

theorem gt_sp {h : Nat → Int} {o : Nat} (ho : o + 2 ≤ 4) : arr 2 (fun k => gt h (o + k)) = arr 2 (sp (h o) (h (o + 1))) := arr_congr fun k hk => by
  have e : gk (o + k) = .i8 := by unfold gk; rw [if_pos (by omega)]
  unfold gt sp
  rw [e]
  rcases (show k = 0 ∨ k = 1 by omega) with rfl | rfl <;> simp
theorem eqGoatSpot (h : Nat → Int) (o : Nat) (ho : o + 2 ≤ 4) (w : World) :
    Calls Tryd.prog 78 #[.agg (arr 2 (fun k => gt h (o + k))), .agg (arr 2 (fun k => gt h (o + k)))] w fun e w' => e = .returned (.bool true) ∧ Below w.heap.size w w' := by
  rw [gt_sp ho]
  exact eqSpot_same _ _ w

set_option maxRecDepth 100000 in
set_option maxHeartbeats 400000 in
theorem eqGoat_same (h : Nat → Int) (w : World) :
    Calls Tryd.prog 85 #[.agg (arr 7 (gt h)), .agg (arr 7 (gt h))] w fun e w' => e = .returned (.bool true) ∧ Below w.heap.size w w' := by
  have hM := Mem.nil w
  have e4 : gt h 4 = .int .i16 (h 4) := rfl
  have e5 : gt h 5 = .int .i16 (h 5) := rfl
  have e6 : gt h 6 = .int .i8 (h 6) := rfl
  have tk_b1 : True := trivial; have tk_b2 : True := trivial
  go_enter Tryd.func85, Tryd.ntmps85
  go_wp2_with (first | (have _t := tk_b1; refine wpList_box rfl _ _ rfl _ _ rfl hM ?_; intro b1 W' hb1 hM'; clear hM tk_b1; have hM := hM'; clear hM') | (have _t := tk_b2; refine wpList_box rfl _ _ rfl _ _ rfl hM ?_; intro b2 W' hb2 hM'; clear hM tk_b2; have hM := hM'; clear hM') | (refine wpList_get1 rfl _ _ rfl _ _ rfl hM 1 rfl (cellTab _ rfl) (by omega) _ rfl ?_) | (refine wpList_get1 rfl _ _ rfl _ _ rfl hM 0 rfl (cellTab _ rfl) (by omega) _ rfl ?_) | (refine wpList_get rfl _ _ rfl _ _ rfl hM 1 rfl (rowTab _ _ rfl) (by omega) ?_) | (refine wpList_get rfl _ _ rfl _ _ rfl hM 0 rfl (rowTab _ _ rfl) (by omega) ?_) | (go_at_call 78; refine (eqGoatSpot h _ (by omega) _).mono ?_; rintro e W' ⟨rfl, hb'⟩; have hM' := hM.call hb'; clear hM hb'; have hM := hM'; clear hM'))
  go_ret
  exact ⟨rfl, hM.below⟩

theorem lay_gt (f : Nat → Value) (h : Nat → Int) : ∀ k, k < 7 → lay f 0 7 (gt h) k = gt h k := fun k hk => by simp [lay, hk]
/-- Two goats laid into cells compare as equal. -/
theorem eqG_lay (z z' : Nat → Value) (h : Nat → Int) (w : World) :
    Calls Tryd.prog 85 #[.agg (arr 7 (fun k => lay z 0 7 (gt h) (0 + k))), .agg (arr 7 (fun k => lay z' 0 7 (gt h) (0 + k)))] w fun e w' => e = .returned (.bool true) ∧ Below w.heap.size w w' := by
  rw [arr_congr (g := gt h) (fun k hk => by rw [Nat.zero_add]; exact lay_gt _ _ k hk), arr_congr (f := fun k => lay z' 0 7 (gt h) (0 + k)) (g := gt h) (fun k hk => by rw [Nat.zero_add]; exact lay_gt _ _ k hk)]
  exact eqGoat_same h w

end Go.Proofs.YtdlfhomnlhdacaaDoor
