/-
  spec.BareCells by contract.
-/
import Derived.Test.YtdlfhomnlhdacaaDoorLists
import Derived.Test.YtdlfhomnlhdacaaDoorSpotS
import Derived.Test.YtdlfhomnlhdacaaDoorSumB
import Derived.Test.YtdlfhomnlhdacaaDoorCells
import Derived.Test.YtdlfhomnlhdacaaDoorListN
import Derived.Test.YtdlfhomnlhdacaaDoorNum
namespace Go.Proofs.YtdlfhomnlhdacaaDoor
open Go Go.RowKit Go.BigFrame

/-- The cells without grass of the first i. -/
def bareL (g : Nat → Int) (W i : Nat) : List (Nat × Nat) := (upto W i).filter fun s => decide (g (2 + s.2 * 10 + s.1) = 0)
theorem bareL_yes {g : Nat → Int} {W k j : Nat} (h : j < W) (hz : g (2 + k * 10 + j) = 0) : bareL g W (k * W + (j + 1)) = bareL g W (k * W + j) ++ [(j, k)] := by
  unfold bareL
  rw [← Nat.add_assoc, upto_succ, List.filter_append, cellAt_row h]
  simp [hz]
theorem bareL_no {g : Nat → Int} {W k j : Nat} (h : j < W) (hz : ¬ g (2 + k * 10 + j) = 0) : bareL g W (k * W + (j + 1)) = bareL g W (k * W + j) := by
  unfold bareL
  rw [← Nat.add_assoc, upto_succ, List.filter_append, cellAt_row h]
  simp [hz]
theorem bareL_len {g : Nat → Int} {W i : Nat} : (bareL g W i).length ≤ i := by
  unfold bareL
  refine Nat.le_trans (List.length_filter_le _ _) ?_
  simp [upto]
def bareOf (g : Nat → Int) : List (Nat × Nat) := if okB g then bareL g (g 0).toNat ((g 0).toNat * (g 1).toNat) else []
def bareC (g : Nat → Int) : Int := if okB g then 0 else 1

def BareIn (w : Base) (K : Blocks) (g : Nat → Int) (W i : Nat) (v : Value) (wr : World) : Prop := Lst w K 2 v (bareL g W i).length (sps (sL (bareL g W i))) wr

set_option maxRecDepth 100000 in
set_option maxHeartbeats 1000000 in
theorem specBareCells_any (g : Nat → Int) (hg : Fits g) (w : World) :
    Calls Tryd.prog 41 #[.agg (arr 122 (pas g))] w (GivesS w (bareOf g) (bareC g)) := by
  have hM := Mem.nil w
  cases ho : okB g
  · have e1 : bareOf g = [] := by simp [bareOf, ho]
    have e2 : bareC g = 1 := by simp [bareC, ho]
    rw [e1, e2]
    have Ho := Lib.hid ho
    clear ho e1 e2
    have tk_b1 : True := trivial; have tk_b2 : True := trivial
    go_enter Tryd.func41, Tryd.ntmps41
    go_wp2_with (first | (have _t := tk_b1; refine wpList_box rfl _ _ rfl _ _ rfl hM ?_; intro b1 W' hb1 hM'; clear hM tk_b1; have hM := hM'; clear hM') | (go_at_call 71; (with_reducible refine (l01Ok_any g hg _ _ (hM.ats 0 _ _ _ rfl)).mono ?_); rintro e W' ⟨rfl, hb'⟩; rw [Ho.out]; have hM' := hM.call hb'; clear hM hb'; have hM := hM'; clear hM') | (have _t := tk_b2; refine wpList_slice0 rfl _ _ rfl _ spot_under rfl hM ?_; intro b2 W' hb2 hM'; clear hM tk_b2; have hM := hM'; clear hM'))
    go_ret2
    exact ⟨_, rfl, Lst.only (.inr ⟨b2, 0, fun _ => undef, rfl, hb2, Nat.le_refl _, fun j hj => absurd hj (by simp), hM⟩)⟩
  have ho' := ho
  unfold okB at ho'
  rw [Bool.and_eq_true, Bool.and_eq_true] at ho'
  have i0 := inB_true ho'.1.1
  have i1 := inB_true ho'.1.2
  obtain ⟨W, hg0⟩ : ∃ W : Nat, g 0 = W := ⟨(g 0).toNat, by omega⟩
  obtain ⟨H, hg1⟩ : ∃ H : Nat, g 1 = H := ⟨(g 1).toNat, by omega⟩
  have hW : W ≤ 10 := by omega
  have hH : H ≤ 10 := by omega
  have e1 : bareOf g = bareL g W (H * W) := by simp [bareOf, ho, hg0, hg1, Nat.mul_comm]
  have e2 : bareC g = 0 := by simp [bareC, ho]
  rw [e1, e2]
  have Ho := Lib.hid ho
  clear ho ho' e1 e2 i0 i1
  have tk_b1 : True := trivial; have tk_b2 : True := trivial
  go_enter Tryd.func41, Tryd.ntmps41
  go_wp2_with (first | (have _t := tk_b1; refine wpList_box rfl _ _ rfl _ _ rfl hM ?_; intro b1 W' hb1 hM'; clear hM tk_b1; have hM := hM'; clear hM') | (go_at_call 71; (with_reducible refine (l01Ok_any g hg _ _ (hM.ats 0 _ _ _ rfl)).mono ?_); rintro e W' ⟨rfl, hb'⟩; rw [Ho.out]; have hM' := hM.call hb'; clear hM hb'; have hM := hM'; clear hM') | (have _t := tk_b2; refine wpList_slice0 rfl _ _ rfl _ spot_under rfl hM ?_; intro b2 W' hb2 hM'; clear hM tk_b2; have hM := hM'; clear hM'))
  go_loopw [4, 5] (fun v y wr => ∃ k : Nat, k ≤ H ∧ y = .int .i8 k ∧ BareIn w [(b1, 122, pas g)] g W (k * W) v wr) (fun _ y _ => H - (intOf y).toNat)
  case atStart => exact ⟨0, by omega, rfl, by rw [Nat.zero_mul]; exact .inr ⟨b2, 0, fun _ => undef, rfl, hb2, Nat.le_refl _, fun j hj => absurd hj (by simp [bareL, upto]), hM⟩⟩
  case round =>
    clear hM
    obtain ⟨k, hk, rfl, hL⟩ := hrel
    have c1 : wr.cell? ⟨b1, 1, none⟩ = some (.int .i8 (H : Int)) := by rw [← hg1]; exact (hL.mem.ats 0 _ _ _ rfl).cell (by omega)
    by_cases hlt : k < H
    · have hkd : decide ((k : Int) < H) = true := decide_eq_true (by omega)
      go_wp2
      go_loopw [4, 6] (fun v x wr => ∃ j : Nat, j ≤ W ∧ x = .int .i8 j ∧ BareIn w [(b1, 122, pas g)] g W (k * W + j) v wr) (fun _ x _ => W - (intOf x).toNat)
      case atStart => exact ⟨0, by omega, rfl, hL⟩
      case round =>
        clear c1 hL
        obtain ⟨j, hj, rfl, hL⟩ := hrel
        have c0 : wr.cell? ⟨b1, 0, none⟩ = some (.int .i8 (W : Int)) := by rw [← hg0]; exact (hL.mem.ats 0 _ _ _ rfl).cell (by omega)
        by_cases hjl : j < W
        · have hjd : decide ((j : Int) < W) = true := decide_eq_true (by omega)
          have lx : (j : Int) < 10 := by omega
          have ly : (k : Int) < 10 := by omega
          have cg : wr.cell? ⟨b1, 2 + k * 10 + j, none⟩ = some (.int .i16 (g (2 + k * 10 + j))) := by rw [← pas_i16 g (by omega) (by omega)]; exact (hL.mem.ats 0 _ _ _ rfl).cell (by omega)
          by_cases hz : g (2 + k * 10 + j) = 0
          · have hsp : #[Value.int .i8 (j : Int), Value.int .i8 (k : Int)] = arr 2 (sp j k) := rfl
            have hnew := fun q hq => sps_new (bareL g W (k * W + j)) j k (j := q) hq
            have hold := fun q hq => sps_old (l := bareL g W (k * W + j)) (j, k) (j := q) hq
            have hl := bareL_len (g := g) (W := W) (i := k * W + j)
            have hkW : k * W + j ≤ 100 := by have := Nat.mul_le_mul (show k ≤ 9 by omega) hW; omega
            have Hn := Lib.hid hnew
            have Hy := Lib.hid (bareL_yes hjl hz)
            rw [hz] at cg
            clear hnew hz
            rcases hL with ⟨rfl, hn0, hM⟩ | ⟨b, c, F, rfl, hb, hnc, hF, hM⟩
            · have Hq : Hid (∀ q, q < 2 → sp (j : Int) (k : Int) q = sps (sL (bareL g W (k * W + j) ++ [(j, k)])) q) := Lib.hid (fun q hq => by have := Hn.out q hq; rwa [hn0, Nat.zero_mul, Nat.zero_add] at this)
              clear hold hl hkW
              have tk_b3 : True := trivial; have tk_p1 : True := trivial
              go_wp2_with (first | (have _t := tk_b3; refine wpList_slice1 rfl _ _ _ rfl _ _ rfl _ spot_under spot_info (by omega) (by omega) hM ?_; intro b3 W' hb3 hM'; clear hM tk_b3; have hM := hM'; clear hM') | (have _t := tk_p1; refine wpList_push0 rfl _ _ _ rfl _ 2 _ _ spot_under spot_infoB rfl (by omega) rfl _ _ rfl hM (sps (sL (bareL g W (k * W + j) ++ [(j, k)]))) Hq.out ?_; intro bL cL FL W' hbL hcL hFL hM'; clear hM tk_p1; have hM := hM'; clear hM'))
              go_roundw
              case rel => exact ⟨j + 1, by omega, by go_num, by
                unfold BareIn
                rw [Hy.out, List.length_append, hn0]
                exact .inr ⟨bL, cL, FL, rfl, hbL, hcL, hFL, hM⟩⟩
              case measure => simp [intOf]; omega
            · have Hf : Hid (∀ q, q < (bareL g W (k * W + j)).length * 2 → F q = sps (sL (bareL g W (k * W + j) ++ [(j, k)])) q) := Lib.hid (fun q hq => by rw [hF q hq]; exact hold q hq)
              have hn : (bareL g W (k * W + j)).length ≤ 1048576 := by omega
              clear hold hl hkW hF
              have tk_b3 : True := trivial; have tk_p1 : True := trivial
              go_wp2_with (first | (have _t := tk_b3; refine wpList_slice1 rfl _ _ _ rfl _ _ rfl _ spot_under spot_info (by omega) (by omega) hM ?_; intro b3 W' hb3 hM'; clear hM tk_b3; have hM := hM'; clear hM') | (have _t := tk_p1; refine wpList_push1 rfl _ _ _ rfl _ 2 _ _ spot_under spot_infoB rfl (by omega) _ _ _ _ rfl hb hnc hn _ _ rfl sp_one hM (sps (sL (bareL g W (k * W + j) ++ [(j, k)]))) Hf.out Hn.out ?_; intro bL cL FL W' hbL hcL hFL hM'; clear hM tk_p1; have hM := hM'; clear hM'))
              go_roundw
              case rel => exact ⟨j + 1, by omega, by go_num, by
                unfold BareIn
                rw [Hy.out, List.length_append]
                exact .inr ⟨bL, cL, FL, rfl, hbL, hcL, hFL, hM⟩⟩
              case measure => simp [intOf]; omega
          · have Hy := Lib.hid (bareL_no hjl hz)
            go_wp2
            go_roundw
            case rel => exact ⟨j + 1, by omega, by go_num, by unfold BareIn; rw [Hy.out]; exact hL⟩
            case measure => simp [intOf]; omega
        · obtain rfl : j = W := by omega
          go_wp2
          go_roundw
          case rel => exact ⟨k + 1, by omega, by go_num, by rw [Nat.add_mul, Nat.one_mul]; exact hL⟩
          case measure => simp [intOf]; omega
    · obtain rfl : k = H := by omega
      go_wp2
      go_ret2
      exact ⟨_, rfl, hL.only⟩
end Go.Proofs.YtdlfhomnlhdacaaDoor
