/-
  impl.BareCells by contract.
-/
import Derived.Test.YtdlfhomnlhdacaaDoorBareSpec
import Derived.Test.YtdlfhomnlhdacaaDoorCellsThat
import Derived.Test.YtdlfhomnlhdacaaDoorNeq
namespace Go.Proofs.YtdlfhomnlhdacaaDoor
open Go Go.RowKit Go.Shelf Go.BigFrame

def bareP (g : Nat → Int) (u v : Nat) : Bool := decide (g (2 + v * 10 + u) = 0)
set_option maxRecDepth 100000 in
set_option maxHeartbeats 1000000 in
theorem bare1_any (g : Nat → Int) (hg : Fits g) (b1 : Nat) (X : World) (h1 : At X b1 122 (pas g)) (u v : Nat) (hu : u < 10) (hv : v < 10) :
    Calls Tryd.prog 81 #[.agg (arr 2 (sp (u : Int) (v : Int))), .pointer (some ⟨b1, 0, none⟩)] X fun e w' => e = .returned (.bool (bareP g u v)) ∧ Below X.heap.size X w' := by
  have hM : Mem X [(b1, 122, pas g)] X := (Mem.nil X).old h1 (fun i p h => by simp at h)
  clear h1
  have tk_b3 : True := trivial; have tk_q1 : True := trivial
  by_cases hz : g (2 + v * 10 + u) = 0
  · have Hw : Hid (bareP g u v = true) := Lib.hid (by unfold bareP; exact decide_eq_true hz)
    have Hz := Lib.hid hz
    clear hz
    go_enter Tryd.func81, Tryd.ntmps81
    go_wp2_with (first | (have _t := tk_b3; refine wpList_box rfl _ _ rfl _ _ rfl hM ?_; intro b3 W' hb3 hM'; clear hM tk_b3; have hM := hM'; clear hM') | (have _t := tk_q1; (refine wpList_get rfl _ _ rfl _ _ rfl hM 1 rfl (rowTab _ _ rfl) (by omega) ?_); clear tk_q1) | (refine wpList_get rfl _ _ rfl _ _ rfl hM 0 rfl (rowTab _ _ rfl) (by omega) ?_) | (go_at_call 61; (with_reducible refine (grassAt_any g hg u v hu hv _).mono ?_); rintro e W' ⟨rfl, hb'⟩; rw [Hz.out]; have hM' := hM.call hb'; clear hM hb'; have hM := hM'; clear hM'))
    go_ret
    exact ⟨ret_bool Hw.out.symm, hM.below⟩
  · have Hw : Hid (bareP g u v = false) := Lib.hid (by unfold bareP; exact decide_eq_false hz)
    have dz : (g (2 + v * 10 + u) == 0) = false := by simp [hz]
    go_enter Tryd.func81, Tryd.ntmps81
    go_wp2_with (first | (have _t := tk_b3; refine wpList_box rfl _ _ rfl _ _ rfl hM ?_; intro b3 W' hb3 hM'; clear hM tk_b3; have hM := hM'; clear hM') | (have _t := tk_q1; (refine wpList_get rfl _ _ rfl _ _ rfl hM 1 rfl (rowTab _ _ rfl) (by omega) ?_); clear tk_q1) | (refine wpList_get rfl _ _ rfl _ _ rfl hM 0 rfl (rowTab _ _ rfl) (by omega) ?_) | (go_at_call 61; (with_reducible refine (grassAt_any g hg u v hu hv _).mono ?_); rintro e W' ⟨rfl, hb'⟩; have hM' := hM.call hb'; clear hM hb'; have hM := hM'; clear hM'))
    go_ret
    exact ⟨ret_bool Hw.out.symm, hM.below⟩
theorem bare1_cl (g : Nat → Int) (hg : Fits g) (b1 W H : Nat) (hW : W ≤ 10) (hH : H ≤ 10) (w : World) (h1 : At w b1 122 (pas g)) :
    ∀ X, Below w.heap.size w X → ∀ u v : Nat, u < W → v < H → Calls Tryd.prog 81 (#[.agg (arr 2 (sp (u : Int) (v : Int)))] ++ #[.pointer (some ⟨b1, 0, none⟩)]) X fun e w' => e = .returned (.bool (bareP g u v)) ∧ Below X.heap.size X w' := fun X hX u v hu hv => by
  have h := bare1_any g hg b1 X (h1.below hX h1.lt) u v (by omega) (by omega)
  simp only [List.append_toArray, List.cons_append, List.nil_append]
  exact h

set_option maxRecDepth 100000 in
set_option maxHeartbeats 2000000 in
theorem implBareCells_any {a : Nat → Addr} (g : Nat → Int) (hg : Fits g) (w : World) (hE : Errs a w) :
    Calls Tryd.prog 42 #[.agg (arr 122 (pas g))] w (GivesS w (bareOf g) (bareC g)) := by
  have hM := Mem.nil w
  have HE := Lib.hid hE
  clear hE
  cases ho : okB g
  · have e1 : bareOf g = [] := by simp [bareOf, ho]
    have e2 : bareC g = 1 := by simp [bareC, ho]
    rw [e1, e2]
    have Ho : Hid (validB g = false) := Lib.hid (by rw [← okB_eq]; exact ho)
    clear ho e1 e2
    have tk_b1 : True := trivial
    go_enter Tryd.func42, Tryd.ntmps42
    go_wp2_with (first | (have _t := tk_b1; refine wpList_box rfl _ _ rfl _ _ rfl hM ?_; intro b1 W' hb1 hM'; clear hM tk_b1; have hM := hM'; clear hM') | (refine wpList_get rfl _ _ rfl _ _ rfl hM 0 rfl (rowTab _ _ rfl) (by omega) ?_) | (go_at_call 60; (with_reducible refine (checkCells_bad g hg _ _ (HE.out.below hM.below) Ho.out).mono ?_); rintro e W' ⟨rfl, hb'⟩; have hM' := hM.call hb'; clear hM hb'; have hM := hM'; clear hM') | (go_at_call 53; (with_reducible refine (codeOf_0 (HE.out.below hM.below)).mono ?_); rintro e W' ⟨rfl, rfl⟩))
    go_ret2
    exact ⟨_, rfl, .inl ⟨rfl, rfl, Mem.start hM.good⟩⟩
  have Ho : Hid (validB g = true) := Lib.hid (by rw [← okB_eq]; exact ho)
  have ho' := ho
  unfold okB at ho'
  rw [Bool.and_eq_true, Bool.and_eq_true] at ho'
  have i0 := inB_true ho'.1.1
  have i1 := inB_true ho'.1.2
  obtain ⟨W, hg0⟩ : ∃ W : Nat, g 0 = W := ⟨(g 0).toNat, by omega⟩
  obtain ⟨H, hg1⟩ : ∃ H : Nat, g 1 = H := ⟨(g 1).toNat, by omega⟩
  have hW : W ≤ 10 := by omega
  have hH : H ≤ 10 := by omega
  have e1 : bareOf g = thatF (bareP g) (upto W (W * H)) := by simp [bareOf, thatF, bareP, bareL, ho, hg0, hg1]
  have e2 : bareC g = 0 := by simp [bareC, ho]
  rw [e1, e2]
  have HC := fun b1 X hA => cellsThat_any g hg W H hW hH hg0 hg1 (lb := #[.pointer (some ⟨b1, 0, none⟩)]) (enters_of Tryd.func81 (by kernel_rfl) rfl) (bareP g) X (bare1_cl g hg b1 W H hW hH X hA)
  have HC' := Lib.hid HC
  clear ho ho' e1 e2 i0 i1 HC
  have tk_b1 : True := trivial
  go_enter Tryd.func42, Tryd.ntmps42
  go_wp2_with (first | (have _t := tk_b1; refine wpList_box rfl _ _ rfl _ _ rfl hM ?_; intro b1 W' hb1 hM'; clear hM tk_b1; have hM := hM'; clear hM') | (refine wpList_get rfl _ _ rfl _ _ rfl hM 0 rfl (rowTab _ _ rfl) (by omega) ?_) | (go_at_call 60; (with_reducible refine (checkCells_nil g hg _ Ho.out).mono ?_); rintro e W' ⟨rfl, hb'⟩; have hM' := hM.call hb'; clear hM hb'; have hM := hM'; clear hM'))
  go_at_call 80
  refine (HC'.out b1 _ (hM.ats 0 _ _ _ rfl)).mono ?_
  rintro e W' ⟨v, rfl, hL⟩
  have HL := Lib.hid hL
  have H0 := Lib.hid hM
  clear hL hM
  go_wp2
  go_ret2
  refine ⟨_, rfl, ?_⟩
  rcases HL.out with ⟨h1, h2, hM⟩ | ⟨b, c, F, h1, h2, h3, h4, hM⟩
  · exact .inl ⟨h1, h2, (H0.out.call hM.below).drop⟩
  · exact .inr ⟨b, c, F, h1, Nat.le_trans H0.out.size h2, h3, h4, (H0.out.freshH hM.below hM.at0 h2).skip⟩
end Go.Proofs.YtdlfhomnlhdacaaDoor
