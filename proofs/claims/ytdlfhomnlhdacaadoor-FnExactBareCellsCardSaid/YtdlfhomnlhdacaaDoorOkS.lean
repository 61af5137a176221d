/-
  spec.l01Ok by contract: is a pasture valid?
-/
import Derived.Test.YtdlfhomnlhdacaaDoorSpec1
import Derived.Lib.Hide
namespace Go.Proofs.YtdlfhomnlhdacaaDoor
open Go Go.RowKit Go.BigFrame

/-- A cell's grass is as it may be. -/
def cellOk (g : Nat → Int) (y x : Nat) : Bool := inB 0 1000 (g (2 + y * 10 + x)) && (decide (g (2 + y * 10 + x) ≤ 0) || isB g x y)
def mask (g : Nat → Int) : Int := IntKind.u16.wrap (IntKind.u16.wrap (2 ^ (g 0).toNat) - 1)
def badE (g : Nat → Int) (k : Nat) : Bool := bits .andNot .u16 (g (102 + k)) (if (k : Int) < g 1 then mask g / 2 else 0) != 0
def badS (g : Nat → Int) (k : Nat) : Bool := bits .andNot .u16 (g (112 + k)) (if (k : Int) < g 1 - 1 then mask g else 0) != 0
def rowOk (g : Nat → Int) (y : Nat) : Bool := (List.range 10).all (cellOk g y) && !badE g y && !badS g y
/-- Is a pasture valid? -/
def okB (g : Nat → Int) : Bool := inB 1 10 (g 0) && inB 1 10 (g 1) && (List.range 10).all (rowOk g)

theorem badE_in {g : Nat → Int} {k : Nat} (h : (k : Int) < g 1) : badE g k = (bits .andNot .u16 (g (102 + k)) (IntKind.u16.wrap (IntKind.u16.wrap (2 ^ (g 0).toNat) - 1) / 2) != 0) := by simp [badE, mask, h]
theorem badE_out {g : Nat → Int} {k : Nat} (h : g 1 ≤ (k : Int)) : badE g k = (bits .andNot .u16 (g (102 + k)) 0 != 0) := by
  have : ¬ (k : Int) < g 1 := by omega
  simp [badE, this]
theorem badS_in {g : Nat → Int} {k : Nat} (h : (k : Int) < g 1 - 1) : badS g k = (bits .andNot .u16 (g (112 + k)) (IntKind.u16.wrap (IntKind.u16.wrap (2 ^ (g 0).toNat) - 1)) != 0) := by simp [badS, mask, h]
theorem badS_out {g : Nat → Int} {k : Nat} (h : g 1 - 1 ≤ (k : Int)) : badS g k = (bits .andNot .u16 (g (112 + k)) 0 != 0) := by
  have : ¬ (k : Int) < g 1 - 1 := by omega
  simp [badS, this]
theorem rowOk_cell {g : Nat → Int} {y x : Nat} (hx : x < 10) (h : cellOk g y x = false) : rowOk g y = false := by
  have : (List.range 10).all (cellOk g y) = false := by rw [List.all_eq_false]; exact ⟨x, by simpa using hx, by rw [h]; decide⟩
  simp [rowOk, this]
theorem rowOk_E {g : Nat → Int} {y : Nat} (h : badE g y = true) : rowOk g y = false := by simp [rowOk, h]
theorem rowOk_S {g : Nat → Int} {y : Nat} (h : badS g y = true) : rowOk g y = false := by simp [rowOk, h]
theorem rowOk_yes {g : Nat → Int} {y : Nat} (hc : ∀ x, x < 10 → cellOk g y x = true) (hE : badE g y = false) (hS : badS g y = false) : rowOk g y = true := by
  have : (List.range 10).all (cellOk g y) = true := by rw [List.all_eq_true]; intro x hx; exact hc x (by simpa using hx)
  simp [rowOk, this, hE, hS]
theorem okB_no {g : Nat → Int} {y : Nat} (hy : y < 10) (h : rowOk g y = false) : okB g = false := by
  have : (List.range 10).all (rowOk g) = false := by rw [List.all_eq_false]; exact ⟨y, by simpa using hy, by rw [h]; decide⟩
  simp [okB, this]
theorem okB_yes {g : Nat → Int} (b0 : inB 1 10 (g 0) = true) (b1 : inB 1 10 (g 1) = true) (h : ∀ y, y < 10 → rowOk g y = true) : okB g = true := by
  have : (List.range 10).all (rowOk g) = true := by rw [List.all_eq_true]; intro x hx; exact h x (by simpa using hx)
  simp [okB, this, b0, b1]

def OkIn (w : World) (g : Nat → Int) (bp k : Nat) (x : Value) (wr : World) : Prop := ∃ j : Nat, j ≤ 10 ∧ x = .int .i8 j ∧ (∀ i, i < j → cellOk g k i = true) ∧ Mem w [(bp, 122, pas g)] wr
theorem OkIn.step {w : World} {g : Nat → Int} {bp k j : Nat} {W : World} (hj : j < 10) (h : ∀ i, i < j → cellOk g k i = true) (hc : cellOk g k j = true) (hM : Mem w [(bp, 122, pas g)] W) : OkIn w g bp k (.int .i8 ((j : Int) + 1)) W :=
  ⟨j + 1, by omega, by go_num, fun i hi => by
    by_cases e : i = j
    · rw [e]; exact hc
    · exact h i (by omega), hM⟩

set_option maxRecDepth 100000 in
set_option maxHeartbeats 4000000 in
theorem l01Ok_any (g : Nat → Int) (hg : Fits g) (bp : Nat) (w : World) (hA : At w bp 122 (pas g)) :
    Calls Tryd.prog 71 #[.pointer (some ⟨bp, 0, none⟩)] w fun e w' => e = .returned (.bool (okB g)) ∧ Below w.heap.size w w' := by
  have hM : Mem w [(bp, 122, pas g)] w := (Mem.nil w).old hA (fun i p h => by simp at h)
  have Hg := Lib.hid hg
  obtain ⟨hw, hh, hgr, hbt⟩ := hg
  have Hgr := Lib.hid hgr
  have Hbt := Lib.hid hbt
  clear hgr hbt
  have e0 : pas g 0 = .int .i8 (g 0) := rfl
  have e1 : pas g 1 = .int .i8 (g 1) := rfl
  cases b0 : inB 1 10 (g 0)
  · have hf : Hid (okB g = false) := Lib.hid (by simp [okB, b0])
    go_enter Tryd.func71, Tryd.ntmps71
    go_wp2_with (first | (refine wpList_get1 rfl _ _ rfl _ _ rfl hM 0 rfl (cellTab _ rfl) (by omega) _ rfl ?_) | (go_at_call 50; refine (l00In_any _ _ _ _).mono ?_; rintro e W' ⟨rfl, hb'⟩; have hM' := hM.call hb'; clear hM hb'; have hM := hM'; clear hM'))
    go_ret
    exact ⟨ret_bool hf.out.symm, hM.below⟩
  cases b1 : inB 1 10 (g 1)
  · have hf : Hid (okB g = false) := Lib.hid (by simp [okB, b1])
    go_enter Tryd.func71, Tryd.ntmps71
    go_wp2_with (first | (refine wpList_get1 rfl _ _ rfl _ _ rfl hM 0 rfl (cellTab _ rfl) (by omega) _ rfl ?_) | (refine wpList_gget1 ?_ _ _ rfl _ _ rfl hM 0 rfl (cellTab _ rfl) (by omega) _ rfl ?_; kernel_rfl) | (go_at_call 50; refine (l00In_any _ _ _ _).mono ?_; rintro e W' ⟨rfl, hb'⟩; have hM' := hM.call hb'; clear hM hb'; have hM := hM'; clear hM'))
    go_ret
    exact ⟨ret_bool hf.out.symm, hM.below⟩
  have h0 := inB_true b0
  have h1 := inB_true b1
  go_enter Tryd.func71, Tryd.ntmps71
  go_wp2_with (first | (refine wpList_get1 rfl _ _ rfl _ _ rfl hM 0 rfl (cellTab _ rfl) (by omega) _ rfl ?_) | (refine wpList_gget1 ?_ _ _ rfl _ _ rfl hM 0 rfl (cellTab _ rfl) (by omega) _ rfl ?_; kernel_rfl) | (go_at_call 50; refine (l00In_any _ _ _ _).mono ?_; rintro e W' ⟨rfl, hb'⟩; have hM' := hM.call hb'; clear hM hb'; have hM := hM'; clear hM'))
  go_loopw [3] (fun y wr => ∃ k : Nat, k ≤ 10 ∧ y = .int .i8 k ∧ Hid (∀ i, i < k → rowOk g i = true) ∧ Mem w [(bp, 122, pas g)] wr) (fun y _ => 10 - (intOf y).toNat)
  case atStart => exact ⟨0, by omega, rfl, Lib.hid (fun i hi => absurd hi (by omega)), hM⟩
  case round =>
    clear hM
    obtain ⟨k, hk, rfl, hrows, hM⟩ := hrel
    by_cases hlt : k < 10
    · have hkd : decide ((k : Int) < 10) = true := decide_eq_true (by omega)
      go_wp2
      go_loopw [4] (fun x wr => OkIn w g bp k x wr) (fun x _ => 10 - (intOf x).toNat)
      case atStart => exact ⟨0, by omega, rfl, fun i hi => absurd hi (by omega), hM⟩
      case round =>
        clear hM
        obtain ⟨j, hj, rfl, hcells0, hM⟩ := hrel
        have hcells := Lib.hid hcells0
        clear hcells0
        by_cases hjlt : j < 10
        · have hjd : decide ((j : Int) < 10) = true := decide_eq_true (by omega)
          have ec : pas g (2 + k * 10 + j) = .int .i16 (g (2 + k * 10 + j)) := pas_i16 g (by omega) (by omega)
          have hG := Hgr.out (2 + k * 10 + j) (by omega) (by omega)
          have hsp : #[Value.int .i8 (j : Int), Value.int .i8 (k : Int)] = arr 2 (sp j k) := rfl
          cases hc : inB 0 1000 (g (2 + k * 10 + j))
          · have hf : Hid (okB g = false) := Lib.hid (okB_no hlt (rowOk_cell hjlt (by simp [cellOk, hc])))
            go_wp2_with (first | (refine wpList_get1 rfl _ _ rfl _ _ rfl hM 0 rfl (cellTab _ rfl) (by omega) _ rfl ?_) | (go_at_call 51; refine (l01Grass_any _ _).mono ?_; rintro e W' ⟨rfl, hb'⟩; have hM' := hM.call hb'; clear hM hb'; have hM := hM'; clear hM'))
            go_ret
            exact ⟨ret_bool hf.out.symm, hM.below⟩
          · by_cases hp : 0 < g (2 + k * 10 + j)
            · cases hi : isB g j k
              · have hf : Hid (okB g = false) := Lib.hid (okB_no hlt (rowOk_cell hjlt (by simp [cellOk, hi]; omega)))
                go_wp2_with (first | (refine wpList_get1 rfl _ _ rfl _ _ rfl hM 0 rfl (cellTab _ rfl) (by omega) _ rfl ?_) | (go_at_call 51; refine (l01Grass_any _ _).mono ?_; rintro e W' ⟨rfl, hb'⟩; have hM' := hM.call hb'; clear hM hb'; have hM := hM'; clear hM') | (go_at_call 66; refine (l01Is_any g Hg.out bp _ _ (by omega) (by omega) _ (hM.at0)).mono ?_; rintro e W' ⟨rfl, hb'⟩; have hM' := hM.call hb'; clear hM hb'; have hM := hM'; clear hM'))
                go_ret
                exact ⟨ret_bool hf.out.symm, hM.below⟩
              · have hf : Hid (cellOk g k j = true) := Lib.hid (by simp [cellOk, hi, hc])
                go_wp2_with (first | (refine wpList_get1 rfl _ _ rfl _ _ rfl hM 0 rfl (cellTab _ rfl) (by omega) _ rfl ?_) | (go_at_call 51; refine (l01Grass_any _ _).mono ?_; rintro e W' ⟨rfl, hb'⟩; have hM' := hM.call hb'; clear hM hb'; have hM := hM'; clear hM') | (go_at_call 66; refine (l01Is_any g Hg.out bp _ _ (by omega) (by omega) _ (hM.at0)).mono ?_; rintro e W' ⟨rfl, hb'⟩; have hM' := hM.call hb'; clear hM hb'; have hM := hM'; clear hM'))
                go_roundw
                case rel => first | exact OkIn.step hjlt hcells.out hf.out hM | ((repeat apply Exists.intro); exact ⟨OkIn.step hjlt hcells.out hf.out hM, rfl⟩)
                case measure => simp [intOf]; omega
            · have hf : Hid (cellOk g k j = true) := Lib.hid (by simp [cellOk, hc]; left; omega)
              go_wp2_with (first | (refine wpList_get1 rfl _ _ rfl _ _ rfl hM 0 rfl (cellTab _ rfl) (by omega) _ rfl ?_) | (go_at_call 51; refine (l01Grass_any _ _).mono ?_; rintro e W' ⟨rfl, hb'⟩; have hM' := hM.call hb'; clear hM hb'; have hM := hM'; clear hM'))
              go_roundw
              case rel => first | exact OkIn.step hjlt hcells.out hf.out hM | ((repeat apply Exists.intro); exact ⟨OkIn.step hjlt hcells.out hf.out hM, rfl⟩)
              case measure => simp [intOf]; omega
        · obtain rfl : j = 10 := by omega
          have eE : pas g (102 + k) = .int .u16 (g (102 + k)) := pas_u16 g (by omega)
          have eS : pas g (112 + k) = .int .u16 (g (112 + k)) := pas_u16 g (by omega)
          have hE := Hbt.out (102 + k) (by omega) (by omega)
          have hS := Hbt.out (112 + k) (by omega) (by omega)
          go_wp2_with (first | (refine wpList_get1 rfl _ _ rfl _ _ rfl hM 0 rfl (cellTab _ rfl) (by omega) _ rfl ?_))
          all_goals first
            | (go_ret; exact ⟨ret_bool (okB_no hlt (rowOk_E (by first | (rw [badE_in (by assumption)]; assumption) | (rw [badE_out (by assumption)]; assumption)))).symm, hM.below⟩)
            | (go_ret; exact ⟨ret_bool (okB_no hlt (rowOk_S (by first | (rw [badS_in (by assumption)]; assumption) | (rw [badS_out (by assumption)]; assumption)))).symm, hM.below⟩)
            | skip
          all_goals
            go_roundw
            case rel => exact ⟨k + 1, by omega, by go_num, Lib.hid (fun i hi => by
              by_cases e : i = k
              · rw [e]
                exact rowOk_yes hcells.out (by first | (rw [badE_in (by assumption)]; assumption) | (rw [badE_out (by assumption)]; assumption)) (by first | (rw [badS_in (by assumption)]; assumption) | (rw [badS_out (by assumption)]; assumption))
              · exact hrows.out i (by omega)), hM⟩
            case measure => simp [intOf]; omega
    · obtain rfl : k = 10 := by omega
      have hf : Hid (okB g = true) := Lib.hid (okB_yes b0 b1 hrows.out)
      go_wp2
      go_ret
      exact ⟨ret_bool hf.out.symm, hM.below⟩
end Go.Proofs.YtdlfhomnlhdacaaDoor
