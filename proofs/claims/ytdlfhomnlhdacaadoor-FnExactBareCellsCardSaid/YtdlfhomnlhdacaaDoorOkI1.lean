/-
  impl.hasValidHurdles by contract.
-/
import Derived.Test.YtdlfhomnlhdacaaDoorOkS
namespace Go.Proofs.YtdlfhomnlhdacaaDoor
open Go Go.RowKit Go.BigFrame

/-- Are bits set only where they may be? -/
def hurB (g : Nat → Int) : Bool := (List.range 10).all fun y => !badE g y && !badS g y
theorem hurB_no {g : Nat → Int} {y : Nat} (hy : y < 10) (h : badE g y = true ∨ badS g y = true) : hurB g = false := by
  unfold hurB; rw [List.all_eq_false]; exact ⟨y, by simpa using hy, by rcases h with h | h <;> simp [h]⟩
theorem hurB_yes {g : Nat → Int} (h : ∀ y, y < 10 → badE g y = false ∧ badS g y = false) : hurB g = true := by
  unfold hurB; rw [List.all_eq_true]; intro y hy; have := h y (by simpa using hy); simp [this.1, this.2]
theorem badE_in' {g : Nat → Int} {k : Nat} (h : (k : Int) < g 1) : badE g k = (bits .andNot .u16 (g (102 + k)) (mask g / 2) != 0) := by simp [badE, h]
theorem badS_in' {g : Nat → Int} {k : Nat} (h : (k : Int) < g 1 - 1) : badS g k = (bits .andNot .u16 (g (112 + k)) (mask g) != 0) := by simp [badS, h]
theorem mask_half {g : Nat → Int} (h : 1 ≤ g 0 ∧ g 0 ≤ 10) : IntKind.u16.wrap (IntKind.u16.wrap (2 ^ ((g 0).toNat - 1)) - 1) = mask g / 2 := by
  unfold mask
  have : g 0 = 1 ∨ g 0 = 2 ∨ g 0 = 3 ∨ g 0 = 4 ∨ g 0 = 5 ∨ g 0 = 6 ∨ g 0 = 7 ∨ g 0 = 8 ∨ g 0 = 9 ∨ g 0 = 10 := by omega
  rcases this with e | e | e | e | e | e | e | e | e | e <;> rw [e] <;> decide
theorem mask_whole (g : Nat → Int) : IntKind.u16.wrap (IntKind.u16.wrap (2 ^ (g 0).toNat) - 1) = mask g := rfl

theorem badE_f {g : Nat → Int} {k : Nat} (h : ((k : Int) < g 1 ∧ bits .andNot .u16 (g (102 + k)) (mask g / 2) = 0) ∨ (g 1 ≤ (k : Int) ∧ bits .andNot .u16 (g (102 + k)) 0 = 0)) : badE g k = false := by
  rcases h with ⟨h, e⟩ | ⟨h, e⟩
  · rw [badE_in' h, e]; rfl
  · rw [badE_out h, e]; rfl
theorem badE_t {g : Nat → Int} {k : Nat} (h : ((k : Int) < g 1 ∧ ¬ bits .andNot .u16 (g (102 + k)) (mask g / 2) = 0) ∨ (g 1 ≤ (k : Int) ∧ ¬ bits .andNot .u16 (g (102 + k)) 0 = 0)) : badE g k = true := by
  rcases h with ⟨h, e⟩ | ⟨h, e⟩
  · rw [badE_in' h]; simpa using e
  · rw [badE_out h]; simpa using e

def HurIn (w : World) (g : Nat → Int) (b1 : Nat) (x : Value) (wr : World) : Prop := ∃ k : Nat, k ≤ 10 ∧ x = .int .i8 k ∧ (∀ i, i < k → badE g i = false ∧ badS g i = false) ∧ Mem w [(b1, 122, pas g)] wr
theorem HurIn.step {w : World} {g : Nat → Int} {b1 k : Nat} {W : World} (hk : k < 10) (h : ∀ i, i < k → badE g i = false ∧ badS g i = false) (hE : badE g k = false) (hS : badS g k = false) (hM : Mem w [(b1, 122, pas g)] W) : HurIn w g b1 (.int .i8 ((k : Int) + 1)) W :=
  ⟨k + 1, by omega, by go_num, fun i hi => by
    by_cases e : i = k
    · rw [e]; exact ⟨hE, hS⟩
    · exact h i (by omega), hM⟩

set_option maxRecDepth 100000 in
set_option maxHeartbeats 2000000 in
theorem hasValidHurdles_any (g : Nat → Int) (hg : Fits g) (h0 : 1 ≤ g 0 ∧ g 0 ≤ 10) (h1 : 1 ≤ g 1 ∧ g 1 ≤ 10) (w : World) :
    Calls Tryd.prog 104 #[.agg (arr 122 (pas g))] w fun e w' => e = .returned (.bool (hurB g)) ∧ Below w.heap.size w w' := by
  have hM := Mem.nil w
  obtain ⟨hw, hh, hgr, hbt⟩ := hg
  have Hbt := Lib.hid hbt
  clear hgr hbt
  have e0 : pas g 0 = .int .i8 (g 0) := rfl
  have e1 : pas g 1 = .int .i8 (g 1) := rfl
  have m1 := mask_half h0
  have m2 := mask_whole g
  have tk_b1 : True := trivial
  go_enter Tryd.func104, Tryd.ntmps104
  go_wp2_with (first | (have _t := tk_b1; refine wpList_box rfl _ _ rfl _ _ rfl hM ?_; intro b1 W' hb1 hM'; clear hM tk_b1; have hM := hM'; clear hM'))
  go_loopw [6] (fun y wr => HurIn w g b1 y wr) (fun y _ => 10 - (intOf y).toNat)
  case atStart => exact ⟨0, by omega, rfl, fun i hi => absurd hi (by omega), hM⟩
  case round =>
    clear hM
    obtain ⟨k, hk, rfl, hrows0, hM⟩ := hrel
    have hrows := Lib.hid hrows0
    clear hrows0
    by_cases hlt : k < 10
    · have hkd : decide ((k : Int) < 10) = true := decide_eq_true (by omega)
      have eE : pas g (102 + k) = .int .u16 (g (102 + k)) := pas_u16 g (by omega)
      have eS : pas g (112 + k) = .int .u16 (g (112 + k)) := pas_u16 g (by omega)
      have hE := Hbt.out (102 + k) (by omega) (by omega)
      have hS := Hbt.out (112 + k) (by omega) (by omega)
      go_wp2_with (first | (refine wpList_get1 rfl _ _ rfl _ _ rfl hM 0 rfl (cellTab _ rfl) (by omega) _ rfl ?_) | (refine wpList_gget1 ?_ _ _ rfl _ _ rfl hM 0 rfl (cellTab _ rfl) (by omega) _ rfl ?_; kernel_rfl))
      all_goals first
        | (go_ret; exact ⟨ret_bool (hurB_no hlt (.inr (by first | (rw [badS_in' (by assumption)]; assumption) | (rw [badS_out (by assumption)]; assumption)))).symm, hM.below⟩)
        | (go_ret; exact ⟨ret_bool (hurB_no hlt (.inl (badE_t (by first | exact .inl ⟨by assumption, by assumption⟩ | exact .inr ⟨by assumption, by assumption⟩)))).symm, hM.below⟩)
        | skip
      all_goals
        have fE : badE g k = false := badE_f (by first | exact .inl ⟨by assumption, by assumption⟩ | exact .inr ⟨by assumption, by assumption⟩)
        have fS : badS g k = false := by first | (rw [badS_in' (by assumption)]; assumption) | (rw [badS_out (by assumption)]; assumption)
        go_roundw
        case rel => first | exact HurIn.step hlt hrows.out fE fS hM | ((repeat apply Exists.intro); exact ⟨HurIn.step hlt hrows.out fE fS hM, rfl⟩)
        case measure => simp [intOf]; omega
    · obtain rfl : k = 10 := by omega
      have hf : Hid (hurB g = true) := Lib.hid (hurB_yes hrows.out)
      go_wp2
      go_ret
      exact ⟨ret_bool hf.out.symm, hM.below⟩
end Go.Proofs.YtdlfhomnlhdacaaDoor
