/-
  (impl.Pasture).cells and its iterator, by contract: all cells come in their order, unless a round says 'no more'.
-/
import Derived.RangeFuncNested
import Derived.RangeFuncBound
import Derived.RangeFuncCalls
import Derived.RangeFuncLeaves
import Derived.Shelf.Abstract
import Derived.Shelf.RegionOpen
import Derived.WalkKit
import Derived.OwnWalkIn
import Derived.TacticsInMore
import Derived.LoopNIn
import Derived.LoopIn
import Derived.Lib.Hide
import Derived.Test.YtdlfhomnlhdacaaDoorTypes
import Derived.Test.YtdlfhomnlhdacaaDoorRound
namespace Go.Proofs.YtdlfhomnlhdacaaDoor
open Go Go.RowKit Go.Shelf Go.BigFrame
attribute [local go_sem] Oper.semAt_some

/-- A cell of a pasture that is W wide and H high. -/
abbrev Cell (W H : Nat) := { s : Nat × Nat // s.1 < W ∧ s.2 < H }
def encC {W H : Nat} (c : Cell W H) : Array Value := #[.agg (arr 2 (sp c.1.1 c.1.2))]
/-- The i-th cell in their order. -/
def cellAt (W i : Nat) : Nat × Nat := (i % W, i / W)
def upto (W i : Nat) : List (Nat × Nat) := (List.range i).map (cellAt W)
theorem upto_succ (W i : Nat) : upto W (i + 1) = upto W i ++ [cellAt W i] := by simp [upto, List.range_succ]
theorem cellAt_row {W k j : Nat} (h : j < W) : cellAt W (k * W + j) = (j, k) := by
  unfold cellAt
  rw [Nat.mul_comm k W, Nat.mul_add_mod, Nat.mod_eq_of_lt h, Nat.mul_add_div (by omega), Nat.div_eq_of_lt h]; simp

/-- What a round that goes on keeps: the pasture itself. -/
def KpP (bp : Nat) (g : Nat → Int) (A B : World) : Prop := At A bp 122 (pas g) → At B bp 122 (pas g)

def CellsIn {W H : Nat} (J : List (Cell W H) → World → Prop) (bp : Nat) (g : Nat → Int) (i : Nat) (wr : World) : Prop :=
  ∃ pre : List (Cell W H), pre.map (·.1) = upto W i ∧ J pre wr ∧ At wr bp 122 (pas g)
def CellsOut {W H : Nat} (J : List (Cell W H) → World → Prop) (bp : Nat) (g : Nat → Int) (y : Value) (wr : World) : Prop := ∃ k : Nat, k ≤ H ∧ y = .int .i8 k ∧ CellsIn J bp g (k * W) wr
def CellsRow {W H : Nat} (J : List (Cell W H) → World → Prop) (bp : Nat) (g : Nat → Int) (k : Nat) (x : Value) (wr : World) : Prop := ∃ j : Nat, j ≤ W ∧ x = .int .i8 j ∧ CellsIn J bp g (k * W + j) wr

set_option maxHeartbeats 1000000 in
theorem cells1_in (F : Fence) (n : Nat) (hf : F.fn 88) (hro : F.round = none) (hn : 1 ≤ n) (l bp : Nat) (W H : Nat) (hW10 : W ≤ 10) (hH10 : H ≤ 10) (g : Nat → Int) (hg0 : g 0 = W) (hg1 : g 1 = H)
    (J Jx : List (Cell W H) → World → Prop)
    (hY : ∀ pre x W1, J pre W1 → pre.length < W * H → YieldAt F (n - 1) Tryd.prog l (encC x) W1 fun e W' =>
      (e = .returned (.bool true) ∧ J (pre ++ [x]) W' ∧ KpP bp g W1 W') ∨ (e = .returned (.bool false) ∧ Jx (pre ++ [x]) W'))
    (w : World) (hA : At w bp 122 (pas g)) (h0 : J [] w) :
    CallsIn F n Tryd.prog 88 #[.func (.yield l) #[] #[], .pointer (some ⟨bp, 0, none⟩)] w fun e W' => (∃ v, e = .returned v) ∧
      ((∃ xs : List (Cell W H), xs.map (·.1) = upto W (W * H) ∧ J xs W') ∨ (∃ pre : List (Cell W H), (∃ i, i ≤ W * H ∧ pre.map (·.1) = upto W i) ∧ Jx pre W')) := by
  refine callsIn_of_wp Tryd.func88 rfl hf ?_ hro
  simp only [Tryd.ntmps88, List.size_toArray, List.length_cons, List.length_nil, Nat.reduceAdd, Nat.reduceSub, Array.replicate_succ, Array.replicate_zero, List.push_toArray, List.append_toArray, List.nil_append, List.cons_append]
  have c1 : w.cell? ⟨bp, 1, none⟩ = some (.int .i8 (H : Int)) := by rw [← hg1]; exact hA.cell (by omega)
  gi_wp2
  gi_loopw [7] (fun y wr => CellsOut J bp g y wr) (fun y _ => H - (intOf y).toNat)
  case atStart => exact ⟨0, by omega, rfl, [], by simp [upto], h0, hA⟩
  case round =>
    clear c1
    obtain ⟨k, hk, rfl, pre, hpre, hJ, hAr⟩ := hrel
    by_cases hlt : k < H
    · have hkd : decide ((k : Int) < H) = true := decide_eq_true (by omega)
      have c0 : wr.cell? ⟨bp, 0, none⟩ = some (.int .i8 (W : Int)) := by rw [← hg0]; exact hAr.cell (by omega)
      gi_wp2
      gi_loopw [12] (fun x wr => CellsRow J bp g k x wr) (fun x _ => W - (intOf x).toNat)
      case atStart => exact ⟨0, by omega, rfl, pre, hpre, hJ, hAr⟩
      case round =>
        clear c0
        obtain ⟨j, hj, rfl, pre2, hpre2, hJ2, hA2⟩ := hrel
        by_cases hjl : j < W
        · have hjd : decide ((j : Int) < W) = true := decide_eq_true (by omega)
          have hsp : #[Value.int .i8 (j : Int), Value.int .i8 (k : Int)] = arr 2 (sp j k) := rfl
          have hlen : pre2.length = k * W + j := by have := congrArg List.length hpre2; simpa [upto] using this
          have hbd : k * W + j < W * H := by
            have := Nat.mul_le_mul_right W (show k + 1 ≤ H by omega)
            rw [Nat.add_mul, Nat.one_mul, Nat.mul_comm H W] at this; omega
          have hnext : (pre2 ++ [(⟨(j, k), hjl, hlt⟩ : Cell W H)]).map (·.1) = upto W (k * W + j + 1) := by
            rw [List.map_append, hpre2, upto_succ, cellAt_row hjl]; rfl
          obtain ⟨fn, tmps, assign, body, hy, hR⟩ := hY pre2 ⟨(j, k), hjl, hlt⟩ _ hJ2 (by omega)
          dsimp only [encC] at hy
          have Hb := Lib.hid hbd
          have Hn := Lib.hid hnext
          have Hl := Lib.hid hlen
          clear hbd hnext hlen
          gi_wp2
          refine hR.mono ?_
          rintro e W3 (⟨rfl, hJ3, hk3⟩ | ⟨rfl, hJx3⟩)
          · gi_wp2
            go_roundw
            case rel => exact (⟨j + 1, by omega, by go_num, _, Hn.out, hJ3, hk3 hA2⟩ : CellsRow J bp g k _ _)
            case measure => simp [intOf]; omega
          · gi_wp2
            refine bodyPost_ret (results_none rfl _ _ _) rfl ?_
            exact ⟨⟨_, rfl⟩, .inr ⟨_, ⟨_, Hb.out, Hn.out⟩, hJx3⟩⟩
        · obtain rfl : j = W := by omega
          gi_wp2
          go_roundw
          case rel => exact (⟨k + 1, by omega, by go_num, pre2, by rw [hpre2, Nat.add_mul, Nat.one_mul], hJ2, hA2⟩ : CellsOut J bp g _ _)
          case measure => simp [intOf]; omega
    · obtain rfl : k = H := by omega
      gi_wp2
      go_end0
      exact ⟨⟨_, rfl⟩, .inl ⟨pre, by rw [hpre, Nat.mul_comm], hJ⟩⟩

def CellsGiven (g : Nat → Int) (w : World) (e : Ending) (w' : World) : Prop := ∃ b, e = .returned (.func (.func 88) #[] #[.pointer (some ⟨b, 0, none⟩)]) ∧ w.heap.size ≤ b ∧ At w' b 122 (pas g) ∧ Below w.heap.size w w'
theorem cells_any (g : Nat → Int) (w : World) : Calls Tryd.prog 54 #[.agg (arr 122 (pas g))] w (CellsGiven g w) := by
  have hM := Mem.nil w
  have tk_b1 : True := trivial
  go_enter Tryd.func54, Tryd.ntmps54
  go_wp2_with (first | (have _t := tk_b1; refine wpList_box rfl _ _ rfl _ _ rfl hM ?_; intro b1 W' hb1 hM'; clear hM tk_b1; have hM := hM'; clear hM'))
  go_ret
  exact ⟨b1, rfl, hb1, hM.at0, hM.below⟩

theorem cells_stops (F : Fence) (n : Nat) (hf : F.fn 88) (hro : F.round = none) (hn : 1 ≤ n) (bp W H : Nat) (hW10 : W ≤ 10) (hH10 : H ≤ 10) (g : Nat → Int) (hg0 : g 0 = W) (hg1 : g 1 = H) (w : World) (hA : At w bp 122 (pas g)) :
    SeqStopsK F n Tryd.prog 88 #[.pointer (some ⟨bp, 0, none⟩)] (encC (W := W) (H := H)) (KpP bp g) (fun xs => xs.map (·.1) = upto W (W * H)) (fun pre => ∃ i, i ≤ W * H ∧ pre.map (·.1) = upto W i) (W * H) w :=
  fun l J Jx W' hb _ _ hY h0 => cells1_in F n hf hro hn l bp W H hW10 hH10 g hg0 hg1 J Jx hY W' (hA.below hb hA.lt) h0

theorem kpP_t {bp : Nat} {g : Nat → Int} {A B C : World} (h : KpP bp g A B) (k : KpP bp g B C) : KpP bp g A C := fun x => k (h x)
theorem kpP_b {bp : Nat} {g : Nat → Int} (W : World) (l : Nat) (o o' : Obj) (h : W.heap[l]? = some o) (ho : o.isCells = false) : KpP bp g W (W.putObj l o') := fun hA =>
  hA.grown (grownBy_putObj' W l o') (fun r e => by cases e; exact ⟨o, h, ho⟩)
end Go.Proofs.YtdlfhomnlhdacaaDoor
