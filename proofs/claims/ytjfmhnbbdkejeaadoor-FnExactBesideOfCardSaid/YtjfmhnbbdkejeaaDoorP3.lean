/-
  Several texts in one: Next, Round, Cells, OkS, OkI1, Equal.
-/
import Derived.Test.YtjfmhnbbdkejeaaDoorP2
import Derived.RangeFuncNested
import Derived.RangeFuncBound
import Derived.RangeFuncCalls
import Derived.RangeFuncLeaves
import Derived.Shelf.Abstract
import Derived.Shelf.RegionOpen
import Derived.WalkKit
import Derived.OwnWalkIn
import Derived.TacticsInMore
import Derived.LoopNIn
import Derived.LoopIn
import Derived.StillTail
import Derived.Test.YtjfmhnbbdkejeaaDoorP1
import Derived.Lib.Hide
import Derived.ChangeKeysEq
import Derived.Laws.StructEq
/-
  spec.l01Next by contracts.
-/
namespace Go.Proofs.YtjfmhnbbdkejeaaDoor
open Go Go.RowKit Go.BigFrame

set_option maxHeartbeats 400000 in
theorem l01Next_0 (x y : Int) (hx : 0 ≤ x ∧ x ≤ 9) (hy : 0 ≤ y ∧ y ≤ 9) (w : World) :
    Calls Tryd.prog 92 #[.agg (arr 2 (sp x y)), .int .i64 0] w fun e w' => e = .returned (.agg (arr 2 (sp (x) (y - 1)))) ∧ Below w.heap.size w w' := by
  have hM := Mem.nil w
  have e0 : sp x y 0 = .int .i8 x := rfl
  have e1 : sp x y 1 = .int .i8 y := rfl
  have c1 : IntKind.i8.wrap (y - 1) = y - 1 := IntWalk.i8_in _ (by omega)
  have tk_b1 : True := trivial; have tk_b2 : True := trivial
  go_enter Tryd.func92, Tryd.ntmps92
  go_wp2_with (first | (have _t := tk_b1; refine wpList_box rfl _ _ rfl _ _ rfl hM ?_; intro b1 W' hb1 hM'; clear hM tk_b1; have hM := hM'; clear hM') | (have _t := tk_b2; refine wpList_zero rfl _ rfl (zeroTab _ _ _ rfl) hM ?_; intro b2 W' hb2 hM'; clear hM tk_b2; have hM := hM'; clear hM') | (refine wpList_get1 rfl _ _ rfl _ _ rfl hM 1 rfl (cellTab _ rfl) (by omega) _ rfl ?_) | (refine wpList_set1 rfl _ _ _ rfl _ _ rfl _ rfl ?_ hM 1 rfl (by assumption) (cellTab _ rfl) (by omega) ?_; (first | rfl | exact h1 _); intro W' hM'; clear hM; have hM := hM'; clear hM'; simp [List.set, Act.eval] at hM) | (refine wpList_get rfl _ _ rfl _ _ rfl hM 1 rfl (rowTab _ _ rfl) (by omega) ?_) | (refine wpList_lay rfl _ _ _ rfl _ _ rfl _ _ rfl hM 0 rfl (by assumption) (rowTab _ _ rfl) (by omega) ?_ ?_; (first | (intro _ _; rfl) | (intro k _; exact h1 _) | (intro k _; simp only [lay, upd]; (repeat' split) <;> first | exact h1 _ | rfl)); intro W' hM'; clear hM; have hM := hM'; clear hM'; simp only [List.set] at hM))
  exact bodyPost_ret (results_at rfl _ rfl ((hM.ats 0 _ _ _ rfl).congr (g := sp (x) (y - 1)) (fun k hk => by
    rcases (show k = 0 ∨ k = 1 by omega) with rfl | rfl <;> simp [lay, upd, sp])) (rowTab _ _ rfl)) rfl ⟨rfl, hM.below⟩
set_option maxHeartbeats 400000 in
theorem l01Next_1 (x y : Int) (hx : 0 ≤ x ∧ x ≤ 9) (hy : 0 ≤ y ∧ y ≤ 9) (w : World) :
    Calls Tryd.prog 92 #[.agg (arr 2 (sp x y)), .int .i64 1] w fun e w' => e = .returned (.agg (arr 2 (sp (x + 1) (y)))) ∧ Below w.heap.size w w' := by
  have hM := Mem.nil w
  have e0 : sp x y 0 = .int .i8 x := rfl
  have e1 : sp x y 1 = .int .i8 y := rfl
  have c1 : IntKind.i8.wrap (x + 1) = x + 1 := IntWalk.i8_in _ (by omega)
  have tk_b1 : True := trivial; have tk_b2 : True := trivial
  go_enter Tryd.func92, Tryd.ntmps92
  go_wp2_with (first | (have _t := tk_b1; refine wpList_box rfl _ _ rfl _ _ rfl hM ?_; intro b1 W' hb1 hM'; clear hM tk_b1; have hM := hM'; clear hM') | (have _t := tk_b2; refine wpList_zero rfl _ rfl (zeroTab _ _ _ rfl) hM ?_; intro b2 W' hb2 hM'; clear hM tk_b2; have hM := hM'; clear hM') | (refine wpList_get1 rfl _ _ rfl _ _ rfl hM 1 rfl (cellTab _ rfl) (by omega) _ rfl ?_) | (refine wpList_set1 rfl _ _ _ rfl _ _ rfl _ rfl ?_ hM 1 rfl (by assumption) (cellTab _ rfl) (by omega) ?_; (first | rfl | exact h1 _); intro W' hM'; clear hM; have hM := hM'; clear hM'; simp [List.set, Act.eval] at hM) | (refine wpList_get rfl _ _ rfl _ _ rfl hM 1 rfl (rowTab _ _ rfl) (by omega) ?_) | (refine wpList_lay rfl _ _ _ rfl _ _ rfl _ _ rfl hM 0 rfl (by assumption) (rowTab _ _ rfl) (by omega) ?_ ?_; (first | (intro _ _; rfl) | (intro k _; exact h1 _) | (intro k _; simp only [lay, upd]; (repeat' split) <;> first | exact h1 _ | rfl)); intro W' hM'; clear hM; have hM := hM'; clear hM'; simp only [List.set] at hM))
  exact bodyPost_ret (results_at rfl _ rfl ((hM.ats 0 _ _ _ rfl).congr (g := sp (x + 1) (y)) (fun k hk => by
    rcases (show k = 0 ∨ k = 1 by omega) with rfl | rfl <;> simp [lay, upd, sp])) (rowTab _ _ rfl)) rfl ⟨rfl, hM.below⟩
set_option maxHeartbeats 400000 in
theorem l01Next_2 (x y : Int) (hx : 0 ≤ x ∧ x ≤ 9) (hy : 0 ≤ y ∧ y ≤ 9) (w : World) :
    Calls Tryd.prog 92 #[.agg (arr 2 (sp x y)), .int .i64 2] w fun e w' => e = .returned (.agg (arr 2 (sp (x) (y + 1)))) ∧ Below w.heap.size w w' := by
  have hM := Mem.nil w
  have e0 : sp x y 0 = .int .i8 x := rfl
  have e1 : sp x y 1 = .int .i8 y := rfl
  have c1 : IntKind.i8.wrap (y + 1) = y + 1 := IntWalk.i8_in _ (by omega)
  have tk_b1 : True := trivial; have tk_b2 : True := trivial
  go_enter Tryd.func92, Tryd.ntmps92
  go_wp2_with (first | (have _t := tk_b1; refine wpList_box rfl _ _ rfl _ _ rfl hM ?_; intro b1 W' hb1 hM'; clear hM tk_b1; have hM := hM'; clear hM') | (have _t := tk_b2; refine wpList_zero rfl _ rfl (zeroTab _ _ _ rfl) hM ?_; intro b2 W' hb2 hM'; clear hM tk_b2; have hM := hM'; clear hM') | (refine wpList_get1 rfl _ _ rfl _ _ rfl hM 1 rfl (cellTab _ rfl) (by omega) _ rfl ?_) | (refine wpList_set1 rfl _ _ _ rfl _ _ rfl _ rfl ?_ hM 1 rfl (by assumption) (cellTab _ rfl) (by omega) ?_; (first | rfl | exact h1 _); intro W' hM'; clear hM; have hM := hM'; clear hM'; simp [List.set, Act.eval] at hM) | (refine wpList_get rfl _ _ rfl _ _ rfl hM 1 rfl (rowTab _ _ rfl) (by omega) ?_) | (refine wpList_lay rfl _ _ _ rfl _ _ rfl _ _ rfl hM 0 rfl (by assumption) (rowTab _ _ rfl) (by omega) ?_ ?_; (first | (intro _ _; rfl) | (intro k _; exact h1 _) | (intro k _; simp only [lay, upd]; (repeat' split) <;> first | exact h1 _ | rfl)); intro W' hM'; clear hM; have hM := hM'; clear hM'; simp only [List.set] at hM))
  exact bodyPost_ret (results_at rfl _ rfl ((hM.ats 0 _ _ _ rfl).congr (g := sp (x) (y + 1)) (fun k hk => by
    rcases (show k = 0 ∨ k = 1 by omega) with rfl | rfl <;> simp [lay, upd, sp])) (rowTab _ _ rfl)) rfl ⟨rfl, hM.below⟩
set_option maxHeartbeats 400000 in
theorem l01Next_3 (x y : Int) (hx : 0 ≤ x ∧ x ≤ 9) (hy : 0 ≤ y ∧ y ≤ 9) (w : World) :
    Calls Tryd.prog 92 #[.agg (arr 2 (sp x y)), .int .i64 3] w fun e w' => e = .returned (.agg (arr 2 (sp (x - 1) (y)))) ∧ Below w.heap.size w w' := by
  have hM := Mem.nil w
  have e0 : sp x y 0 = .int .i8 x := rfl
  have e1 : sp x y 1 = .int .i8 y := rfl
  have c1 : IntKind.i8.wrap (x - 1) = x - 1 := IntWalk.i8_in _ (by omega)
  have tk_b1 : True := trivial; have tk_b2 : True := trivial
  go_enter Tryd.func92, Tryd.ntmps92
  go_wp2_with (first | (have _t := tk_b1; refine wpList_box rfl _ _ rfl _ _ rfl hM ?_; intro b1 W' hb1 hM'; clear hM tk_b1; have hM := hM'; clear hM') | (have _t := tk_b2; refine wpList_zero rfl _ rfl (zeroTab _ _ _ rfl) hM ?_; intro b2 W' hb2 hM'; clear hM tk_b2; have hM := hM'; clear hM') | (refine wpList_get1 rfl _ _ rfl _ _ rfl hM 1 rfl (cellTab _ rfl) (by omega) _ rfl ?_) | (refine wpList_set1 rfl _ _ _ rfl _ _ rfl _ rfl ?_ hM 1 rfl (by assumption) (cellTab _ rfl) (by omega) ?_; (first | rfl | exact h1 _); intro W' hM'; clear hM; have hM := hM'; clear hM'; simp [List.set, Act.eval] at hM) | (refine wpList_get rfl _ _ rfl _ _ rfl hM 1 rfl (rowTab _ _ rfl) (by omega) ?_) | (refine wpList_lay rfl _ _ _ rfl _ _ rfl _ _ rfl hM 0 rfl (by assumption) (rowTab _ _ rfl) (by omega) ?_ ?_; (first | (intro _ _; rfl) | (intro k _; exact h1 _) | (intro k _; simp only [lay, upd]; (repeat' split) <;> first | exact h1 _ | rfl)); intro W' hM'; clear hM; have hM := hM'; clear hM'; simp only [List.set] at hM))
  exact bodyPost_ret (results_at rfl _ rfl ((hM.ats 0 _ _ _ rfl).congr (g := sp (x - 1) (y)) (fun k hk => by
    rcases (show k = 0 ∨ k = 1 by omega) with rfl | rfl <;> simp [lay, upd, sp])) (rowTab _ _ rfl)) rfl ⟨rfl, hM.below⟩

theorem l01Next_0' (x y : Int) (hx : 0 ≤ x ∧ x ≤ 9) (hy : 0 ≤ y ∧ y ≤ 8) (w : World) :
    Calls Tryd.prog 92 #[.agg (arr 2 (sp x (y + 1))), .int .i64 0] w fun e w' => e = .returned (.agg (arr 2 (sp x y))) ∧ Below w.heap.size w w' := by
  have := l01Next_0 x (y + 1) hx (by omega) w
  rwa [show y + 1 - 1 = y by omega] at this
theorem l01Next_3' (x y : Int) (hx : 0 ≤ x ∧ x ≤ 8) (hy : 0 ≤ y ∧ y ≤ 9) (w : World) :
    Calls Tryd.prog 92 #[.agg (arr 2 (sp (x + 1) y)), .int .i64 3] w fun e w' => e = .returned (.agg (arr 2 (sp x y))) ∧ Below w.heap.size w w' := by
  have := l01Next_3 (x + 1) y (by omega) hy w
  rwa [show x + 1 - 1 = x by omega] at this

end Go.Proofs.YtjfmhnbbdkejeaaDoor

/-
  PLAIN LAWS: a region in the body of a range over a function, walked by the plain laws.
-/
namespace Go.Proofs.YtjfmhnbbdkejeaaDoor
open Go Go.RowKit
variable {P : Program} {ops : Array Oper} {o : Oper} {a : Act} {W : World} {Q : Exit → Act → World → Prop} {K : Act → World → Prop} {l n : Nat}

def noDefer (o : Oper) : Bool := match o.op with | .defer _ => false | _ => true
theorem noDefer_spec (h : noDefer o = true) : ∀ c, o.op ≠ .defer c := fun c e => by simp [noDefer, e] at h

theorem oper_round (hd : noDefer o = true) (h : o.wp P a W K Q) : o.wpIn (Fence.wide.inRound l) n P a W K Q := by
  unfold Oper.wp at h
  unfold Oper.wpIn
  refine ⟨fun _ _ => trivial, ?_⟩
  rw [Oper.semAt_eq _ _ _ (noDefer_spec hd)]
  generalize (execOp a.eval o).run P W = r at *
  cases r with
  | ok x w' =>
    cases x <;> simp only [Oper.upon] at h <;> simp only [Oper.uponIn]
    case value => exact h
    case skip => exact h
    case defer => exact h
    case enter => exact ⟨fun h => by simp [Fence.inRound, Fence.wide] at h, CallsIn.inRound l (callsIn_wide.2 h)⟩
    case row => exact ⟨fun h => by simp [Fence.inRound, Fence.wide] at h, fun c cs _ => let ⟨v, w', r, s⟩ := h c cs; ⟨v, w', r, stepsIn_wide.2 s⟩⟩
  | halt x w' => cases x <;> simp only [Oper.upon] at h <;> simp only [Oper.uponIn] <;> exact h

theorem list_round (hL : ¬ LetsOut Q) : ∀ (r : List Oper), r.all noDefer = true → ∀ (a : Act) (W : World), wpList P ops Q r a W → wpListIn (Fence.wide.inRound l) n P ops Q r a W
  | [], _, _, _, h => h
  | o :: r, hd, a, W, h => by
    simp only [List.all_cons, Bool.and_eq_true] at hd
    unfold wpList at h
    unfold wpListIn
    split
    · rename_i hw
      rw [if_pos hw] at h
      rcases h with h | h
      · exact oper_round hd.1 (Oper.wp_mono (fun a w hh => list_round hL r hd.2 a w hh) h)
      · exact absurd h.2 hL
    · rename_i hw
      rw [if_neg hw] at h
      exact ⟨fun _ _ => trivial, list_round hL r hd.2 _ _ h⟩

/-- A region that keeps the text's order. -/
theorem region_round {id : Nat} {r : List Oper} (hL : ¬ LetsOut Q) (hd : r.all noDefer = true) (h : wpList P r.toArray Q r a W) : (Code.region id r.toArray false).wpIn (Fence.wide.inRound l) n P Q a W :=
  wpIn_region_lit (list_round hL r hd a W h)

theorem any_round {md : Region.Mode} (hL : ¬ LetsOut Q) (hd : ops.toList.all noDefer = true) : ∀ (fuel : Nat) (listed : Array Bool) (a : Act) (W : World), wpAny P md ops Q fuel listed a W → wpAnyIn (Fence.wide.inRound l) n P md ops Q fuel listed a W
  | 0, _, _, _, h => h
  | fuel + 1, listed, a, W, h => ⟨h.1, fun i hi => by
    have := h.2 i hi
    unfold wpOp at this
    unfold wpOpIn
    split
    · rename_i ho; simp only [ho] at this; exact any_round hL hd fuel _ _ _ this
    · rename_i o ho
      simp only [ho] at this
      have hm : o ∈ ops.toList := by
        have := Array.mem_of_getElem? ho; simpa using this
      have hdo := List.all_eq_true.1 hd o hm
      split
      · rename_i hw
        rw [if_pos hw] at this
        rcases this with h | h
        · exact oper_round hdo (Oper.wp_mono (fun a w hh => any_round hL hd fuel _ a w hh) h)
        · exact absurd h.2 hL
      · rename_i hw
        rw [if_neg hw] at this
        exact ⟨fun _ _ => trivial, any_round hL hd fuel _ _ _ this⟩⟩

/-- A region that draws its order, and only reads. -/
theorem region_round_mem {id : Nat} {r : List Oper} {w : Base} {L : Blocks} (hL : ¬ LetsOut Q) (hd : r.all noDefer = true) (hm : P.follows .mixedOrders = true) (hB : Region.lexB .any r.toArray = true) (hM : Mem w L W)
    (h : wpQuiet P r.toArray (Mem w L) (fun a' => ∀ W', Mem w L W' → Q .normal a' W') r a) : (Code.region id r.toArray true).wpIn (Fence.wide.inRound l) n P Q a W := by
  simp only [Region.lexB, Bool.and_eq_true] at hB
  refine wpIn_region_any hm (any_round hL (by simpa using hd) _ _ _ _ (wpAny_of_quiet (Q := fun a' => ∀ W', Mem w L W' → Q .normal a' W') (fun _ w' hw' h => h w' hw') _ _ _ _ hM.drew ?_))
  have := wpAnyQ_lex (C := Mem w L) (md := .any) hB.1 r 0 (Array.replicate r.toArray.size false) a (by simp) (by simpa using hB.2) h
  simpa using this

/-! ### A region that draws its order: reads first, then what the text has last -/
variable {rest : List Oper} {R : Act → Prop} {J : Act → Prop}
theorem wps_plain (hg : o.guard = none) (h : o.still P a W (wpStill P ops W R rest)) : wpStill P ops W R (o :: rest) a := by
  unfold wpStill; rw [if_pos (by simp [Region.wanted, hg])]; exact h
theorem still_val (h : ∃ v, (∀ W, (execOp a.eval o).run P W = .ok (.value v) W) ∧ J (a.put o.dst v)) : o.still P a W J := by
  obtain ⟨v, hr, h⟩ := h
  unfold Oper.still
  rw [hr]; exact ⟨rfl, h⟩
theorem still_get1 {w : Base} {L : Blocks} (hM : Mem w L W) (ty : TypeId) (x : Operand) (ho : o.op = .load ty x) (b off : Nat) (hx : a.eval x = .pointer (some ⟨b, off, none⟩))
    (i : Nat) {m : Nat} {f : Nat → Value} (hi : L[i]? = some (b, m, f)) (hT : CellT P ty) (hle : off < m) (v : Value) (hv : f off = v)
    (h : J (a.put o.dst v)) : o.still P a W J := by
  obtain ⟨⟨d, hu, hd⟩, _⟩ := hT
  have hc := (hM.ats i b m f hi).cell hle
  rw [hv] at hc
  have hagg : (isAgg ty).run P W = .ok false W := by
    unfold isAgg
    rw [Sem.run_bind, run_underlying hu W]
    cases d <;> simp_all [TypeDesc.isRow]
  have hl : (load ⟨b, off, none⟩).run P W = .ok v W := by simp [load, Sem.run, hc]
  unfold Oper.still execOp
  simp only [ho, hx, Instr.loadAt, Instr.sureAddr, loadVar, Sem.run_bind, Sem.run_pure, Result.andThen_ok, hagg, Bool.false_eq_true, if_false, hl]
  exact ⟨rfl, h⟩

theorem region_round_tail {id : Nat} {r : List Oper} (m : Nat) (hL : ¬ LetsOut Q) (hd : r.all noDefer = true) (hm : P.follows .mixedOrders = true) (hB : Region.lexTailB .any r.toArray m = true)
    (h : wpStill P r.toArray W.drew (fun a' => wpList P r.toArray Q (r.drop m) a' W.drew) (r.take m) a) : (Code.region id r.toArray true).wpIn (Fence.wide.inRound l) n P Q a W := by
  simp only [Region.lexTailB, Bool.and_eq_true, decide_eq_true_eq] at hB
  obtain ⟨⟨⟨⟨b1, b2⟩, b3⟩, b4⟩, b5⟩ := hB
  have e0 : r.toArray.size = r.length := by simp
  have e1 : (r.take m).length = m := by rw [List.length_take]; omega
  have e2 : (r.drop m).length = r.toArray.size - m := by rw [List.length_drop, e0]
  have start : HeadInv .any r.toArray m (Array.replicate r.toArray.size false) :=
    { size := by simp
      closed := fun j oj _ hl => by rw [getD_replicate_false] at hl; cases hl
      tail := fun t _ ht => getD_in (by simpa using ht) (getD_replicate_false _ _) }
  have head := wpAnyL_lex (md := .any) (g := r.toArray.size - m) b1 b3 b4 b2 (r.take m) 0 _ a (fun j hj => by rw [e1] at hj; simp [hj]) (by rw [e1]; omega) start (by rw [e1]; exact b5) h
  have tail : ∀ (listed : Array Bool) (a' : Act), (Region.seqB .any r.toArray (r.toArray.size - m) m listed = true ∧ wpList P r.toArray Q (r.drop m) a' W.drew) → wpAny P .any r.toArray Q (r.toArray.size - m) listed a' W.drew := fun listed a' ht => by
    have := wpAny_of_seq (md := .any) (Q' := Q) (r.drop m) m listed a' W.drew (fun j => by simp [List.getElem?_drop]) (by rw [e2]; exact ht.1) ht.2
    rw [e2] at this; exact this
  have whole := wpAny_of_head (Q' := Q) tail _ _ _ head
  rw [e1, show m + (r.toArray.size - m) = r.toArray.size by omega] at whole
  exact wpIn_region_any hm (any_round hL (by simpa using hd) _ _ _ _ whole)

/-! ### The memory of a call, seen in a round -/
/-- A round that begins in Wr, of a call that began in w0: whatever is no cells and lies from block Bk on lies as it lay. -/
def Base.round (w0 : World) (Bk : Nat) (Wr : World) : Base where
  G := fun W => Below w0.heap.size w0 W ∧ KeepsFrom Bk Wr W
  B := w0.heap.size
  le := fun h => h.1.size
  alloc := fun _ _ h => ⟨h.1.alloc h.1.size _, h.2.trans ((KeepsOthers.alloc _ _).from _)⟩
  row := fun h hb hc c' => ⟨below_setRow h.1 hb c', ⟨by rw [size_setRow]; exact h.2.size, fun k o hk ho hn => by
    have h1 := h.2.same k o hk ho hn
    rw [_root_.Go.setRow_other _ _ _ _ (fun e => by subst e; rw [h1] at hc; cases hc; simp [Obj.isCells] at hn)]
    exact h1⟩⟩
  call := fun h hb => ⟨h.1.trans (hb.mono h.1.size), ⟨Nat.le_trans h.2.size hb.size, fun k o hk ho hn => by
    have h1 := h.2.same k o hk ho hn
    rw [hb.block k (Array.getElem?_eq_some_iff.1 h1).1]
    exact h1⟩⟩
  drew := fun h => ⟨h.1.drew, ⟨h.2.size, h.2.same⟩⟩

theorem At.grown {W W' : World} {b m : Nat} {f : Nat → Value} {row : Option Nat} (h : At W b m f) (hg : W.grownBy W' row) (hr : ∀ r, row = some r → ∃ o : Obj, W.heap[r]? = some o ∧ o.isCells = false) : At W' b m f := by
  obtain ⟨t, ht⟩ := h
  exact ⟨t, (grownBy_keeps_cells hg hr ht rfl).trans ht⟩
theorem mem_ownFrom {β : Type} {w0 : World} {B : Nat} (hB : w0.heap.size ≤ B) (Ls : β → Blocks) : OwnFrom B (fun (s : β) W => Mem w0 (Ls s) W) := fun _ _ _ _ hs hg hr =>
  ⟨Below.grown hs.below hg hs.below.size (fun k e => Nat.le_trans hB (hr k e).1), fun i b m f hi => (hs.ats i b m f hi).grown hg (fun r e => (hr r e).2), hs.apart⟩
end Go.Proofs.YtjfmhnbbdkejeaaDoor

/-
  (impl.Pasture).cells and its iterator, by contract: all cells come in their order, unless a round says 'no more'.
-/
namespace Go.Proofs.YtjfmhnbbdkejeaaDoor
open Go Go.RowKit Go.Shelf Go.BigFrame
attribute [local go_sem] Oper.semAt_some

/-- A cell of a pasture that is W wide and H high. -/
abbrev Cell (W H : Nat) := { s : Nat × Nat // s.1 < W ∧ s.2 < H }
def encC {W H : Nat} (c : Cell W H) : Array Value := #[.agg (arr 2 (sp c.1.1 c.1.2))]
/-- The i-th cell in their order. -/
def cellAt (W i : Nat) : Nat × Nat := (i % W, i / W)
def upto (W i : Nat) : List (Nat × Nat) := (List.range i).map (cellAt W)
theorem upto_succ (W i : Nat) : upto W (i + 1) = upto W i ++ [cellAt W i] := by simp [upto, List.range_succ]
theorem cellAt_row {W k j : Nat} (h : j < W) : cellAt W (k * W + j) = (j, k) := by
  unfold cellAt
  rw [Nat.mul_comm k W, Nat.mul_add_mod, Nat.mod_eq_of_lt h, Nat.mul_add_div (by omega), Nat.div_eq_of_lt h]; simp

/-- What a round that goes on keeps: the pasture itself. -/
def KpP (bp : Nat) (g : Nat → Int) (A B : World) : Prop := At A bp 122 (pas g) → At B bp 122 (pas g)

def CellsIn {W H : Nat} (J : List (Cell W H) → World → Prop) (bp : Nat) (g : Nat → Int) (i : Nat) (wr : World) : Prop :=
  ∃ pre : List (Cell W H), pre.map (·.1) = upto W i ∧ J pre wr ∧ At wr bp 122 (pas g)
def CellsOut {W H : Nat} (J : List (Cell W H) → World → Prop) (bp : Nat) (g : Nat → Int) (y : Value) (wr : World) : Prop := ∃ k : Nat, k ≤ H ∧ y = .int .i8 k ∧ CellsIn J bp g (k * W) wr
def CellsRow {W H : Nat} (J : List (Cell W H) → World → Prop) (bp : Nat) (g : Nat → Int) (k : Nat) (x : Value) (wr : World) : Prop := ∃ j : Nat, j ≤ W ∧ x = .int .i8 j ∧ CellsIn J bp g (k * W + j) wr

set_option maxHeartbeats 1000000 in
theorem cells1_in (F : Fence) (n : Nat) (hf : F.fn 104) (hro : F.round = none) (hn : 1 ≤ n) (l bp : Nat) (W H : Nat) (hW10 : W ≤ 10) (hH10 : H ≤ 10) (g : Nat → Int) (hg0 : g 0 = W) (hg1 : g 1 = H)
    (J Jx : List (Cell W H) → World → Prop)
    (hY : ∀ pre x W1, J pre W1 → pre.length < W * H → YieldAt F (n - 1) Tryd.prog l (encC x) W1 fun e W' =>
      (e = .returned (.bool true) ∧ J (pre ++ [x]) W' ∧ KpP bp g W1 W') ∨ (e = .returned (.bool false) ∧ Jx (pre ++ [x]) W'))
    (w : World) (hA : At w bp 122 (pas g)) (h0 : J [] w) :
    CallsIn F n Tryd.prog 104 #[.func (.yield l) #[] #[], .pointer (some ⟨bp, 0, none⟩)] w fun e W' => (∃ v, e = .returned v) ∧
      ((∃ xs : List (Cell W H), xs.map (·.1) = upto W (W * H) ∧ J xs W') ∨ (∃ pre : List (Cell W H), (∃ i, i ≤ W * H ∧ pre.map (·.1) = upto W i) ∧ Jx pre W')) := by
  refine callsIn_of_wp Tryd.func104 rfl hf ?_ hro
  simp only [Tryd.ntmps104, List.size_toArray, List.length_cons, List.length_nil, Nat.reduceAdd, Nat.reduceSub, Array.replicate_succ, Array.replicate_zero, List.push_toArray, List.append_toArray, List.nil_append, List.cons_append]
  have c1 : w.cell? ⟨bp, 1, none⟩ = some (.int .i8 (H : Int)) := by rw [← hg1]; exact hA.cell (by omega)
  gi_wp2
  gi_loopw [7] (fun y wr => CellsOut J bp g y wr) (fun y _ => H - (intOf y).toNat)
  case atStart => exact ⟨0, by omega, rfl, [], by simp [upto], h0, hA⟩
  case round =>
    clear c1
    obtain ⟨k, hk, rfl, pre, hpre, hJ, hAr⟩ := hrel
    by_cases hlt : k < H
    · have hkd : decide ((k : Int) < H) = true := decide_eq_true (by omega)
      have c0 : wr.cell? ⟨bp, 0, none⟩ = some (.int .i8 (W : Int)) := by rw [← hg0]; exact hAr.cell (by omega)
      gi_wp2
      gi_loopw [12] (fun x wr => CellsRow J bp g k x wr) (fun x _ => W - (intOf x).toNat)
      case atStart => exact ⟨0, by omega, rfl, pre, hpre, hJ, hAr⟩
      case round =>
        clear c0
        obtain ⟨j, hj, rfl, pre2, hpre2, hJ2, hA2⟩ := hrel
        by_cases hjl : j < W
        · have hjd : decide ((j : Int) < W) = true := decide_eq_true (by omega)
          have hsp : #[Value.int .i8 (j : Int), Value.int .i8 (k : Int)] = arr 2 (sp j k) := rfl
          have hlen : pre2.length = k * W + j := by have := congrArg List.length hpre2; simpa [upto] using this
          have hbd : k * W + j < W * H := by
            have := Nat.mul_le_mul_right W (show k + 1 ≤ H by omega)
            rw [Nat.add_mul, Nat.one_mul, Nat.mul_comm H W] at this; omega
          have hnext : (pre2 ++ [(⟨(j, k), hjl, hlt⟩ : Cell W H)]).map (·.1) = upto W (k * W + j + 1) := by
            rw [List.map_append, hpre2, upto_succ, cellAt_row hjl]; rfl
          obtain ⟨fn, tmps, assign, body, hy, hR⟩ := hY pre2 ⟨(j, k), hjl, hlt⟩ _ hJ2 (by omega)
          dsimp only [encC] at hy
          have Hb := Lib.hid hbd
          have Hn := Lib.hid hnext
          have Hl := Lib.hid hlen
          clear hbd hnext hlen
          gi_wp2
          refine hR.mono ?_
          rintro e W3 (⟨rfl, hJ3, hk3⟩ | ⟨rfl, hJx3⟩)
          · gi_wp2
            go_roundw
            case rel => exact (⟨j + 1, by omega, by go_num, _, Hn.out, hJ3, hk3 hA2⟩ : CellsRow J bp g k _ _)
            case measure => simp [intOf]; omega
          · gi_wp2
            refine bodyPost_ret (results_none rfl _ _ _) rfl ?_
            exact ⟨⟨_, rfl⟩, .inr ⟨_, ⟨_, Hb.out, Hn.out⟩, hJx3⟩⟩
        · obtain rfl : j = W := by omega
          gi_wp2
          go_roundw
          case rel => exact (⟨k + 1, by omega, by go_num, pre2, by rw [hpre2, Nat.add_mul, Nat.one_mul], hJ2, hA2⟩ : CellsOut J bp g _ _)
          case measure => simp [intOf]; omega
    · obtain rfl : k = H := by omega
      gi_wp2
      go_end0
      exact ⟨⟨_, rfl⟩, .inl ⟨pre, by rw [hpre, Nat.mul_comm], hJ⟩⟩

def CellsGiven (g : Nat → Int) (w : World) (e : Ending) (w' : World) : Prop := ∃ b, e = .returned (.func (.func 104) #[] #[.pointer (some ⟨b, 0, none⟩)]) ∧ w.heap.size ≤ b ∧ At w' b 122 (pas g) ∧ Below w.heap.size w w'
theorem cells_any (g : Nat → Int) (w : World) : Calls Tryd.prog 73 #[.agg (arr 122 (pas g))] w (CellsGiven g w) := by
  have hM := Mem.nil w
  have tk_b1 : True := trivial
  go_enter Tryd.func73, Tryd.ntmps73
  go_wp2_with (first | (have _t := tk_b1; refine wpList_box rfl _ _ rfl _ _ rfl hM ?_; intro b1 W' hb1 hM'; clear hM tk_b1; have hM := hM'; clear hM'))
  go_ret
  exact ⟨b1, rfl, hb1, hM.at0, hM.below⟩

theorem cells_stops (F : Fence) (n : Nat) (hf : F.fn 104) (hro : F.round = none) (hn : 1 ≤ n) (bp W H : Nat) (hW10 : W ≤ 10) (hH10 : H ≤ 10) (g : Nat → Int) (hg0 : g 0 = W) (hg1 : g 1 = H) (w : World) (hA : At w bp 122 (pas g)) :
    SeqStopsK F n Tryd.prog 104 #[.pointer (some ⟨bp, 0, none⟩)] (encC (W := W) (H := H)) (KpP bp g) (fun xs => xs.map (·.1) = upto W (W * H)) (fun pre => ∃ i, i ≤ W * H ∧ pre.map (·.1) = upto W i) (W * H) w :=
  fun l J Jx W' hb _ _ hY h0 => cells1_in F n hf hro hn l bp W H hW10 hH10 g hg0 hg1 J Jx hY W' (hA.below hb hA.lt) h0

theorem kpP_t {bp : Nat} {g : Nat → Int} {A B C : World} (h : KpP bp g A B) (k : KpP bp g B C) : KpP bp g A C := fun x => k (h x)
theorem kpP_b {bp : Nat} {g : Nat → Int} (W : World) (l : Nat) (o o' : Obj) (h : W.heap[l]? = some o) (ho : o.isCells = false) : KpP bp g W (W.putObj l o') := fun hA =>
  hA.grown (grownBy_putObj' W l o') (fun r e => by cases e; exact ⟨o, h, ho⟩)
end Go.Proofs.YtjfmhnbbdkejeaaDoor

/-
  spec.l01Ok by contract: is a pasture valid?
-/
namespace Go.Proofs.YtjfmhnbbdkejeaaDoor
open Go Go.RowKit Go.BigFrame

/-- A cell's grass is as it may be. -/
def cellOk (g : Nat → Int) (y x : Nat) : Bool := inB 0 1000 (g (2 + y * 10 + x)) && (decide (g (2 + y * 10 + x) ≤ 0) || isB g x y)
def mask (g : Nat → Int) : Int := IntKind.u16.wrap (IntKind.u16.wrap (2 ^ (g 0).toNat) - 1)
def badE (g : Nat → Int) (k : Nat) : Bool := bits .andNot .u16 (g (102 + k)) (if (k : Int) < g 1 then mask g / 2 else 0) != 0
def badS (g : Nat → Int) (k : Nat) : Bool := bits .andNot .u16 (g (112 + k)) (if (k : Int) < g 1 - 1 then mask g else 0) != 0
def rowOk (g : Nat → Int) (y : Nat) : Bool := (List.range 10).all (cellOk g y) && !badE g y && !badS g y
/-- Is a pasture valid? -/
def okB (g : Nat → Int) : Bool := inB 1 10 (g 0) && inB 1 10 (g 1) && (List.range 10).all (rowOk g)

theorem badE_in {g : Nat → Int} {k : Nat} (h : (k : Int) < g 1) : badE g k = (bits .andNot .u16 (g (102 + k)) (IntKind.u16.wrap (IntKind.u16.wrap (2 ^ (g 0).toNat) - 1) / 2) != 0) := by simp [badE, mask, h]
theorem badE_out {g : Nat → Int} {k : Nat} (h : g 1 ≤ (k : Int)) : badE g k = (bits .andNot .u16 (g (102 + k)) 0 != 0) := by
  have : ¬ (k : Int) < g 1 := by omega
  simp [badE, this]
theorem badS_in {g : Nat → Int} {k : Nat} (h : (k : Int) < g 1 - 1) : badS g k = (bits .andNot .u16 (g (112 + k)) (IntKind.u16.wrap (IntKind.u16.wrap (2 ^ (g 0).toNat) - 1)) != 0) := by simp [badS, mask, h]
theorem badS_out {g : Nat → Int} {k : Nat} (h : g 1 - 1 ≤ (k : Int)) : badS g k = (bits .andNot .u16 (g (112 + k)) 0 != 0) := by
  have : ¬ (k : Int) < g 1 - 1 := by omega
  simp [badS, this]
theorem rowOk_cell {g : Nat → Int} {y x : Nat} (hx : x < 10) (h : cellOk g y x = false) : rowOk g y = false := by
  have : (List.range 10).all (cellOk g y) = false := by rw [List.all_eq_false]; exact ⟨x, by simpa using hx, by rw [h]; decide⟩
  simp [rowOk, this]
theorem rowOk_E {g : Nat → Int} {y : Nat} (h : badE g y = true) : rowOk g y = false := by simp [rowOk, h]
theorem rowOk_S {g : Nat → Int} {y : Nat} (h : badS g y = true) : rowOk g y = false := by simp [rowOk, h]
theorem rowOk_yes {g : Nat → Int} {y : Nat} (hc : ∀ x, x < 10 → cellOk g y x = true) (hE : badE g y = false) (hS : badS g y = false) : rowOk g y = true := by
  have : (List.range 10).all (cellOk g y) = true := by rw [List.all_eq_true]; intro x hx; exact hc x (by simpa using hx)
  simp [rowOk, this, hE, hS]
theorem okB_no {g : Nat → Int} {y : Nat} (hy : y < 10) (h : rowOk g y = false) : okB g = false := by
  have : (List.range 10).all (rowOk g) = false := by rw [List.all_eq_false]; exact ⟨y, by simpa using hy, by rw [h]; decide⟩
  simp [okB, this]
theorem okB_yes {g : Nat → Int} (b0 : inB 1 10 (g 0) = true) (b1 : inB 1 10 (g 1) = true) (h : ∀ y, y < 10 → rowOk g y = true) : okB g = true := by
  have : (List.range 10).all (rowOk g) = true := by rw [List.all_eq_true]; intro x hx; exact h x (by simpa using hx)
  simp [okB, this, b0, b1]

def OkIn (w : World) (g : Nat → Int) (bp k : Nat) (x : Value) (wr : World) : Prop := ∃ j : Nat, j ≤ 10 ∧ x = .int .i8 j ∧ (∀ i, i < j → cellOk g k i = true) ∧ Mem w [(bp, 122, pas g)] wr
theorem OkIn.step {w : World} {g : Nat → Int} {bp k j : Nat} {W : World} (hj : j < 10) (h : ∀ i, i < j → cellOk g k i = true) (hc : cellOk g k j = true) (hM : Mem w [(bp, 122, pas g)] W) : OkIn w g bp k (.int .i8 ((j : Int) + 1)) W :=
  ⟨j + 1, by omega, by go_num, fun i hi => by
    by_cases e : i = j
    · rw [e]; exact hc
    · exact h i (by omega), hM⟩

set_option maxRecDepth 100000 in
set_option maxHeartbeats 4000000 in
theorem l01Ok_any (g : Nat → Int) (hg : Fits g) (bp : Nat) (w : World) (hA : At w bp 122 (pas g)) :
    Calls Tryd.prog 70 #[.pointer (some ⟨bp, 0, none⟩)] w fun e w' => e = .returned (.bool (okB g)) ∧ Below w.heap.size w w' := by
  have hM : Mem w [(bp, 122, pas g)] w := (Mem.nil w).old hA (fun i p h => by simp at h)
  have Hg := Lib.hid hg
  obtain ⟨hw, hh, hgr, hbt⟩ := hg
  have Hgr := Lib.hid hgr
  have Hbt := Lib.hid hbt
  clear hgr hbt
  have e0 : pas g 0 = .int .i8 (g 0) := rfl
  have e1 : pas g 1 = .int .i8 (g 1) := rfl
  cases b0 : inB 1 10 (g 0)
  · have hf : Hid (okB g = false) := Lib.hid (by simp [okB, b0])
    go_enter Tryd.func70, Tryd.ntmps70
    go_wp2_with (first | (refine wpList_get1 rfl _ _ rfl _ _ rfl hM 0 rfl (cellTab _ rfl) (by omega) _ rfl ?_) | (go_at_call 46; refine (l00In_any _ _ _ _).mono ?_; rintro e W' ⟨rfl, hb'⟩; have hM' := hM.call hb'; clear hM hb'; have hM := hM'; clear hM'))
    go_ret
    exact ⟨ret_bool hf.out.symm, hM.below⟩
  cases b1 : inB 1 10 (g 1)
  · have hf : Hid (okB g = false) := Lib.hid (by simp [okB, b1])
    go_enter Tryd.func70, Tryd.ntmps70
    go_wp2_with (first | (refine wpList_get1 rfl _ _ rfl _ _ rfl hM 0 rfl (cellTab _ rfl) (by omega) _ rfl ?_) | (refine wpList_gget1 ?_ _ _ rfl _ _ rfl hM 0 rfl (cellTab _ rfl) (by omega) _ rfl ?_; kernel_rfl) | (go_at_call 46; refine (l00In_any _ _ _ _).mono ?_; rintro e W' ⟨rfl, hb'⟩; have hM' := hM.call hb'; clear hM hb'; have hM := hM'; clear hM'))
    go_ret
    exact ⟨ret_bool hf.out.symm, hM.below⟩
  have h0 := inB_true b0
  have h1 := inB_true b1
  go_enter Tryd.func70, Tryd.ntmps70
  go_wp2_with (first | (refine wpList_get1 rfl _ _ rfl _ _ rfl hM 0 rfl (cellTab _ rfl) (by omega) _ rfl ?_) | (refine wpList_gget1 ?_ _ _ rfl _ _ rfl hM 0 rfl (cellTab _ rfl) (by omega) _ rfl ?_; kernel_rfl) | (go_at_call 46; refine (l00In_any _ _ _ _).mono ?_; rintro e W' ⟨rfl, hb'⟩; have hM' := hM.call hb'; clear hM hb'; have hM := hM'; clear hM'))
  go_loopw [3] (fun y wr => ∃ k : Nat, k ≤ 10 ∧ y = .int .i8 k ∧ Hid (∀ i, i < k → rowOk g i = true) ∧ Mem w [(bp, 122, pas g)] wr) (fun y _ => 10 - (intOf y).toNat)
  case atStart => exact ⟨0, by omega, rfl, Lib.hid (fun i hi => absurd hi (by omega)), hM⟩
  case round =>
    clear hM
    obtain ⟨k, hk, rfl, hrows, hM⟩ := hrel
    by_cases hlt : k < 10
    · have hkd : decide ((k : Int) < 10) = true := decide_eq_true (by omega)
      go_wp2
      go_loopw [4] (fun x wr => OkIn w g bp k x wr) (fun x _ => 10 - (intOf x).toNat)
      case atStart => exact ⟨0, by omega, rfl, fun i hi => absurd hi (by omega), hM⟩
      case round =>
        clear hM
        obtain ⟨j, hj, rfl, hcells0, hM⟩ := hrel
        have hcells := Lib.hid hcells0
        clear hcells0
        by_cases hjlt : j < 10
        · have hjd : decide ((j : Int) < 10) = true := decide_eq_true (by omega)
          have ec : pas g (2 + k * 10 + j) = .int .i16 (g (2 + k * 10 + j)) := pas_i16 g (by omega) (by omega)
          have hG := Hgr.out (2 + k * 10 + j) (by omega) (by omega)
          have hsp : #[Value.int .i8 (j : Int), Value.int .i8 (k : Int)] = arr 2 (sp j k) := rfl
          cases hc : inB 0 1000 (g (2 + k * 10 + j))
          · have hf : Hid (okB g = false) := Lib.hid (okB_no hlt (rowOk_cell hjlt (by simp [cellOk, hc])))
            go_wp2_with (first | (refine wpList_get1 rfl _ _ rfl _ _ rfl hM 0 rfl (cellTab _ rfl) (by omega) _ rfl ?_) | (go_at_call 59; refine (l01Grass_any _ _).mono ?_; rintro e W' ⟨rfl, hb'⟩; have hM' := hM.call hb'; clear hM hb'; have hM := hM'; clear hM'))
            go_ret
            exact ⟨ret_bool hf.out.symm, hM.below⟩
          · by_cases hp : 0 < g (2 + k * 10 + j)
            · cases hi : isB g j k
              · have hf : Hid (okB g = false) := Lib.hid (okB_no hlt (rowOk_cell hjlt (by simp [cellOk, hi]; omega)))
                go_wp2_with (first | (refine wpList_get1 rfl _ _ rfl _ _ rfl hM 0 rfl (cellTab _ rfl) (by omega) _ rfl ?_) | (go_at_call 59; refine (l01Grass_any _ _).mono ?_; rintro e W' ⟨rfl, hb'⟩; have hM' := hM.call hb'; clear hM hb'; have hM := hM'; clear hM') | (go_at_call 90; refine (l01Is_any g Hg.out bp _ _ (by omega) (by omega) _ (hM.at0)).mono ?_; rintro e W' ⟨rfl, hb'⟩; have hM' := hM.call hb'; clear hM hb'; have hM := hM'; clear hM'))
                go_ret
                exact ⟨ret_bool hf.out.symm, hM.below⟩
              · have hf : Hid (cellOk g k j = true) := Lib.hid (by simp [cellOk, hi, hc])
                go_wp2_with (first | (refine wpList_get1 rfl _ _ rfl _ _ rfl hM 0 rfl (cellTab _ rfl) (by omega) _ rfl ?_) | (go_at_call 59; refine (l01Grass_any _ _).mono ?_; rintro e W' ⟨rfl, hb'⟩; have hM' := hM.call hb'; clear hM hb'; have hM := hM'; clear hM') | (go_at_call 90; refine (l01Is_any g Hg.out bp _ _ (by omega) (by omega) _ (hM.at0)).mono ?_; rintro e W' ⟨rfl, hb'⟩; have hM' := hM.call hb'; clear hM hb'; have hM := hM'; clear hM'))
                go_roundw
                case rel => first | exact OkIn.step hjlt hcells.out hf.out hM | ((repeat apply Exists.intro); exact ⟨OkIn.step hjlt hcells.out hf.out hM, rfl⟩)
                case measure => simp [intOf]; omega
            · have hf : Hid (cellOk g k j = true) := Lib.hid (by simp [cellOk, hc]; left; omega)
              go_wp2_with (first | (refine wpList_get1 rfl _ _ rfl _ _ rfl hM 0 rfl (cellTab _ rfl) (by omega) _ rfl ?_) | (go_at_call 59; refine (l01Grass_any _ _).mono ?_; rintro e W' ⟨rfl, hb'⟩; have hM' := hM.call hb'; clear hM hb'; have hM := hM'; clear hM'))
              go_roundw
              case rel => first | exact OkIn.step hjlt hcells.out hf.out hM | ((repeat apply Exists.intro); exact ⟨OkIn.step hjlt hcells.out hf.out hM, rfl⟩)
              case measure => simp [intOf]; omega
        · obtain rfl : j = 10 := by omega
          have eE : pas g (102 + k) = .int .u16 (g (102 + k)) := pas_u16 g (by omega)
          have eS : pas g (112 + k) = .int .u16 (g (112 + k)) := pas_u16 g (by omega)
          have hE := Hbt.out (102 + k) (by omega) (by omega)
          have hS := Hbt.out (112 + k) (by omega) (by omega)
          go_wp2_with (first | (refine wpList_get1 rfl _ _ rfl _ _ rfl hM 0 rfl (cellTab _ rfl) (by omega) _ rfl ?_))
          all_goals first
            | (go_ret; exact ⟨ret_bool (okB_no hlt (rowOk_E (by first | (rw [badE_in (by assumption)]; assumption) | (rw [badE_out (by assumption)]; assumption)))).symm, hM.below⟩)
            | (go_ret; exact ⟨ret_bool (okB_no hlt (rowOk_S (by first | (rw [badS_in (by assumption)]; assumption) | (rw [badS_out (by assumption)]; assumption)))).symm, hM.below⟩)
            | skip
          all_goals
            go_roundw
            case rel => exact ⟨k + 1, by omega, by go_num, Lib.hid (fun i hi => by
              by_cases e : i = k
              · rw [e]
                exact rowOk_yes hcells.out (by first | (rw [badE_in (by assumption)]; assumption) | (rw [badE_out (by assumption)]; assumption)) (by first | (rw [badS_in (by assumption)]; assumption) | (rw [badS_out (by assumption)]; assumption))
              · exact hrows.out i (by omega)), hM⟩
            case measure => simp [intOf]; omega
    · obtain rfl : k = 10 := by omega
      have hf : Hid (okB g = true) := Lib.hid (okB_yes b0 b1 hrows.out)
      go_wp2
      go_ret
      exact ⟨ret_bool hf.out.symm, hM.below⟩
end Go.Proofs.YtjfmhnbbdkejeaaDoor

/-
  impl.hasValidHurdles by contract.
-/
namespace Go.Proofs.YtjfmhnbbdkejeaaDoor
open Go Go.RowKit Go.BigFrame

/-- Are bits set only where they may be? -/
def hurB (g : Nat → Int) : Bool := (List.range 10).all fun y => !badE g y && !badS g y
theorem hurB_no {g : Nat → Int} {y : Nat} (hy : y < 10) (h : badE g y = true ∨ badS g y = true) : hurB g = false := by
  unfold hurB; rw [List.all_eq_false]; exact ⟨y, by simpa using hy, by rcases h with h | h <;> simp [h]⟩
theorem hurB_yes {g : Nat → Int} (h : ∀ y, y < 10 → badE g y = false ∧ badS g y = false) : hurB g = true := by
  unfold hurB; rw [List.all_eq_true]; intro y hy; have := h y (by simpa using hy); simp [this.1, this.2]
theorem badE_in' {g : Nat → Int} {k : Nat} (h : (k : Int) < g 1) : badE g k = (bits .andNot .u16 (g (102 + k)) (mask g / 2) != 0) := by simp [badE, h]
theorem badS_in' {g : Nat → Int} {k : Nat} (h : (k : Int) < g 1 - 1) : badS g k = (bits .andNot .u16 (g (112 + k)) (mask g) != 0) := by simp [badS, h]
theorem mask_half {g : Nat → Int} (h : 1 ≤ g 0 ∧ g 0 ≤ 10) : IntKind.u16.wrap (IntKind.u16.wrap (2 ^ ((g 0).toNat - 1)) - 1) = mask g / 2 := by
  unfold mask
  have : g 0 = 1 ∨ g 0 = 2 ∨ g 0 = 3 ∨ g 0 = 4 ∨ g 0 = 5 ∨ g 0 = 6 ∨ g 0 = 7 ∨ g 0 = 8 ∨ g 0 = 9 ∨ g 0 = 10 := by omega
  rcases this with e | e | e | e | e | e | e | e | e | e <;> rw [e] <;> decide
theorem mask_whole (g : Nat → Int) : IntKind.u16.wrap (IntKind.u16.wrap (2 ^ (g 0).toNat) - 1) = mask g := rfl

theorem badE_f {g : Nat → Int} {k : Nat} (h : ((k : Int) < g 1 ∧ bits .andNot .u16 (g (102 + k)) (mask g / 2) = 0) ∨ (g 1 ≤ (k : Int) ∧ bits .andNot .u16 (g (102 + k)) 0 = 0)) : badE g k = false := by
  rcases h with ⟨h, e⟩ | ⟨h, e⟩
  · rw [badE_in' h, e]; rfl
  · rw [badE_out h, e]; rfl
theorem badE_t {g : Nat → Int} {k : Nat} (h : ((k : Int) < g 1 ∧ ¬ bits .andNot .u16 (g (102 + k)) (mask g / 2) = 0) ∨ (g 1 ≤ (k : Int) ∧ ¬ bits .andNot .u16 (g (102 + k)) 0 = 0)) : badE g k = true := by
  rcases h with ⟨h, e⟩ | ⟨h, e⟩
  · rw [badE_in' h]; simpa using e
  · rw [badE_out h]; simpa using e

def HurIn (w : World) (g : Nat → Int) (b1 : Nat) (x : Value) (wr : World) : Prop := ∃ k : Nat, k ≤ 10 ∧ x = .int .i8 k ∧ (∀ i, i < k → badE g i = false ∧ badS g i = false) ∧ Mem w [(b1, 122, pas g)] wr
theorem HurIn.step {w : World} {g : Nat → Int} {b1 k : Nat} {W : World} (hk : k < 10) (h : ∀ i, i < k → badE g i = false ∧ badS g i = false) (hE : badE g k = false) (hS : badS g k = false) (hM : Mem w [(b1, 122, pas g)] W) : HurIn w g b1 (.int .i8 ((k : Int) + 1)) W :=
  ⟨k + 1, by omega, by go_num, fun i hi => by
    by_cases e : i = k
    · rw [e]; exact ⟨hE, hS⟩
    · exact h i (by omega), hM⟩

set_option maxRecDepth 100000 in
set_option maxHeartbeats 2000000 in
theorem hasValidHurdles_any (g : Nat → Int) (hg : Fits g) (h0 : 1 ≤ g 0 ∧ g 0 ≤ 10) (h1 : 1 ≤ g 1 ∧ g 1 ≤ 10) (w : World) :
    Calls Tryd.prog 120 #[.agg (arr 122 (pas g))] w fun e w' => e = .returned (.bool (hurB g)) ∧ Below w.heap.size w w' := by
  have hM := Mem.nil w
  obtain ⟨hw, hh, hgr, hbt⟩ := hg
  have Hbt := Lib.hid hbt
  clear hgr hbt
  have e0 : pas g 0 = .int .i8 (g 0) := rfl
  have e1 : pas g 1 = .int .i8 (g 1) := rfl
  have m1 := mask_half h0
  have m2 := mask_whole g
  have tk_b1 : True := trivial
  go_enter Tryd.func120, Tryd.ntmps120
  go_wp2_with (first | (have _t := tk_b1; refine wpList_box rfl _ _ rfl _ _ rfl hM ?_; intro b1 W' hb1 hM'; clear hM tk_b1; have hM := hM'; clear hM'))
  go_loopw [6] (fun y wr => HurIn w g b1 y wr) (fun y _ => 10 - (intOf y).toNat)
  case atStart => exact ⟨0, by omega, rfl, fun i hi => absurd hi (by omega), hM⟩
  case round =>
    clear hM
    obtain ⟨k, hk, rfl, hrows0, hM⟩ := hrel
    have hrows := Lib.hid hrows0
    clear hrows0
    by_cases hlt : k < 10
    · have hkd : decide ((k : Int) < 10) = true := decide_eq_true (by omega)
      have eE : pas g (102 + k) = .int .u16 (g (102 + k)) := pas_u16 g (by omega)
      have eS : pas g (112 + k) = .int .u16 (g (112 + k)) := pas_u16 g (by omega)
      have hE := Hbt.out (102 + k) (by omega) (by omega)
      have hS := Hbt.out (112 + k) (by omega) (by omega)
      go_wp2_with (first | (refine wpList_get1 rfl _ _ rfl _ _ rfl hM 0 rfl (cellTab _ rfl) (by omega) _ rfl ?_) | (refine wpList_gget1 ?_ _ _ rfl _ _ rfl hM 0 rfl (cellTab _ rfl) (by omega) _ rfl ?_; kernel_rfl))
      all_goals first
        | (go_ret; exact ⟨ret_bool (hurB_no hlt (.inr (by first | (rw [badS_in' (by assumption)]; assumption) | (rw [badS_out (by assumption)]; assumption)))).symm, hM.below⟩)
        | (go_ret; exact ⟨ret_bool (hurB_no hlt (.inl (badE_t (by first | exact .inl ⟨by assumption, by assumption⟩ | exact .inr ⟨by assumption, by assumption⟩)))).symm, hM.below⟩)
        | skip
      all_goals
        have fE : badE g k = false := badE_f (by first | exact .inl ⟨by assumption, by assumption⟩ | exact .inr ⟨by assumption, by assumption⟩)
        have fS : badS g k = false := by first | (rw [badS_in' (by assumption)]; assumption) | (rw [badS_out (by assumption)]; assumption)
        go_roundw
        case rel => first | exact HurIn.step hlt hrows.out fE fS hM | ((repeat apply Exists.intro); exact ⟨HurIn.step hlt hrows.out fE fS hM, rfl⟩)
        case measure => simp [intOf]; omega
    · obtain rfl : k = 10 := by omega
      have hf : Hid (hurB g = true) := Lib.hid (hurB_yes hrows.out)
      go_wp2
      go_ret
      exact ⟨ret_bool hf.out.symm, hM.below⟩
end Go.Proofs.YtjfmhnbbdkejeaaDoor

/-
  '==' on rows of integers, rows of such rows, and pastures.
-/
namespace Go.Proofs.YtjfmhnbbdkejeaaDoor
open Go Go.RowKit
variable {P : Program}

theorem run_part_cell {e : TypeId} {κ : IntKind} (hu : P.underlying e = some (.int κ)) {n i : Nat} {f : Nat → Value} (hi : i < n) (W : World) : (part e (arr n f) i).run P W = .ok (f i) W := by
  have hagg : (isAgg e).run P W = .ok false W := by
    unfold isAgg; rw [Sem.run_bind, run_underlying hu W]; rfl
  simp only [part, Sem.run_bind, hagg, Result.andThen_ok, Bool.false_eq_true, if_false, arr_at hi, Sem.run_pure]
theorem run_part_row {e : TypeId} {m : Nat} (hT : RowT P e m) {n i : Nat} {f : Nat → Value} (hi : i + m ≤ n) (W : World) : (part e (arr n f) i).run P W = .ok (.agg (arr m (fun k => f (i + k)))) W := by
  obtain ⟨⟨d, hu, hd⟩, hm⟩ := hT
  have hagg : (isAgg e).run P W = .ok true W := by
    unfold isAgg; rw [Sem.run_bind, run_underlying hu W]; cases d <;> simp_all [TypeDesc.isRow]
  have hsz : (sizeOf e).run P W = .ok m W := by
    cases hq : P.info? e with
    | none => simp [hq] at hm
    | some i => simp [hq] at hm; simp [sizeOf, typeInfo, hq, hm]
  simp only [part, Sem.run_bind, hagg, Result.andThen_ok, if_true, hsz, Sem.run_pure, arr_extract hi]

theorem run_eqItems_ints (d : Nat) {e : TypeId} {κ : IntKind} (hu : P.underlying e = some (.int κ)) (hc : P.cellsOf e = 1) {n : Nat} (f g : Nat → Value) (a b : Nat → Int)
    (hf : ∀ k, k < n → f k = .int κ (a k)) (hg : ∀ k, k < n → g k = .int κ (b k)) (W : World) : ∀ is : List Nat, (∀ i ∈ is, i < n) →
    (Op.eqItems (d + 1) e (P.cellsOf e) (arr n f) (arr n g) is).run P W = .ok (is.all fun i => a i == b i) W
  | [], _ => by simp [Op.eqItems]
  | i :: is, h => by
    have hi := h i (by simp)
    simp only [Op.eqItems, Sem.run_bind, hc, Nat.mul_one, run_part_cell hu hi, Result.andThen_ok, hf i hi, hg i hi, run_equalIn_int W d e κ κ _ _ hu]
    cases hab : (a i == b i)
    · simp [hab]
    · have := run_eqItems_ints d hu hc f g a b hf hg W is (fun j hj => h j (by simp [hj]))
      rw [hc] at this
      simp [this, hab]

/-- Are the first n the same? -/
def eqTo (n : Nat) (a b : Nat → Int) : Bool := (List.range n).all fun i => a i == b i
theorem eqTo_iff {n : Nat} {a b : Nat → Int} : eqTo n a b = true ↔ ∀ k, k < n → a k = b k := by simp [eqTo]
theorem eqTo_congr {n : Nat} {a b a' b' : Nat → Int} (h : ∀ k, k < n → a k = a' k) (h' : ∀ k, k < n → b k = b' k) : eqTo n a b = eqTo n a' b' := by
  rw [Bool.eq_iff_iff, eqTo_iff, eqTo_iff]
  constructor
  · intro hh k hk; rw [← h k hk, ← h' k hk]; exact hh k hk
  · intro hh k hk; rw [h k hk, h' k hk]; exact hh k hk

theorem run_equalIn_row (d : Nat) {t e : TypeId} {κ : IntKind} {n : Nat} (ht : P.underlying t = some (.array n e)) (hu : P.underlying e = some (.int κ)) (hc : P.cellsOf e = 1) (f g : Nat → Value) (a b : Nat → Int)
    (hf : ∀ k, k < n → f k = .int κ (a k)) (hg : ∀ k, k < n → g k = .int κ (b k)) (W : World) : (Op.equalIn (d + 2) t (.agg (arr n f)) (.agg (arr n g))).run P W = .ok (eqTo n a b) W := by
  obtain ⟨i, hi⟩ := info_of_underlying hu
  rw [run_equalIn_array W (d + 1) _ _ ht hi, run_eqItems_ints d hu hc f g a b hf hg W _ (by simp)]
  rfl

theorem run_eqItems_rows (d : Nat) {t e : TypeId} {κ : IntKind} {m : Nat} (ht : P.underlying t = some (.array m e)) (hT : RowT P t m) (hcm : P.cellsOf t = m) (hu : P.underlying e = some (.int κ)) (hc : P.cellsOf e = 1) {n : Nat} (f g : Nat → Value) (a b : Nat → Int)
    (hf : ∀ k, k < n * m → f k = .int κ (a k)) (hg : ∀ k, k < n * m → g k = .int κ (b k)) (W : World) : ∀ is : List Nat, (∀ i ∈ is, i < n) →
    (Op.eqItems (d + 2) t (P.cellsOf t) (arr (n * m) f) (arr (n * m) g) is).run P W = .ok (is.all fun i => eqTo m (fun k => a (i * m + k)) (fun k => b (i * m + k))) W
  | [], _ => by simp [Op.eqItems]
  | i :: is, h => by
    have hi := h i (by simp)
    have hle : i * m + m ≤ n * m := by
      have := Nat.mul_le_mul_right m (show i + 1 ≤ n by omega)
      rw [Nat.add_mul, Nat.one_mul] at this; exact this
    have hrow := run_equalIn_row d ht hu hc (fun k => f (i * m + k)) (fun k => g (i * m + k)) (fun k => a (i * m + k)) (fun k => b (i * m + k)) (fun k hk => hf _ (by omega)) (fun k hk => hg _ (by omega)) W
    simp only [Op.eqItems, Sem.run_bind, hcm, run_part_row hT hle, Result.andThen_ok, hrow]
    cases hab : eqTo m (fun k => a (i * m + k)) (fun k => b (i * m + k))
    · simp [hab]
    · have := run_eqItems_rows d ht hT hcm hu hc f g a b hf hg W is (fun j hj => h j (by simp [hj]))
      rw [hcm] at this
      simp [this, hab]

theorem all_rows {n m : Nat} (a b : Nat → Int) (hm : 0 < m) : ((List.range n).all fun i => eqTo m (fun k => a (i * m + k)) (fun k => b (i * m + k))) = eqTo (n * m) a b := by
  rw [Bool.eq_iff_iff, eqTo_iff, List.all_eq_true]
  constructor
  · intro h k hk
    have hi : k / m < n := Nat.div_lt_of_lt_mul (by rw [Nat.mul_comm]; exact hk)
    have := (eqTo_iff.1 (h (k / m) (by simpa using hi))) (k % m) (Nat.mod_lt _ hm)
    have e : k / m * m + k % m = k := by rw [Nat.mul_comm]; exact Nat.div_add_mod k m
    rwa [e] at this
  · intro h i hi
    rw [eqTo_iff]
    intro k hk
    apply h
    have hi : i < n := by simpa using hi
    have := Nat.mul_le_mul_right m (show i + 1 ≤ n by omega)
    rw [Nat.add_mul, Nat.one_mul] at this; omega

theorem run_equalIn_rows (d : Nat) {u t e : TypeId} {κ : IntKind} {n m : Nat} (hu' : P.underlying u = some (.array n t)) (ht : P.underlying t = some (.array m e)) (hT : RowT P t m) (hcm : P.cellsOf t = m) (hu : P.underlying e = some (.int κ)) (hc : P.cellsOf e = 1) (hm : 0 < m) (f g : Nat → Value) (a b : Nat → Int)
    (hf : ∀ k, k < n * m → f k = .int κ (a k)) (hg : ∀ k, k < n * m → g k = .int κ (b k)) (W : World) : (Op.equalIn (d + 3) u (.agg (arr (n * m) f)) (.agg (arr (n * m) g))).run P W = .ok (eqTo (n * m) a b) W := by
  obtain ⟨i, hi⟩ := info_of_underlying ht
  rw [run_equalIn_array W (d + 2) _ _ hu' hi, run_eqItems_rows d ht hT hcm hu hc f g a b hf hg W _ (by simp), all_rows a b hm]

theorem cells_i16 : Tryd.prog.cellsOf 23 = 1 := by kernel_rfl
theorem cells_u16 : Tryd.prog.cellsOf 26 = 1 := by kernel_rfl
theorem cells_row : Tryd.prog.cellsOf 24 = 10 := by kernel_rfl

/-- '==' on [10][10]int16. -/
theorem run_equal_grass (f g : Nat → Value) (a b : Nat → Int) (hf : ∀ k, k < 100 → f k = .int .i16 (a k)) (hg : ∀ k, k < 100 → g k = .int .i16 (b k)) (W : World) (d : Nat) :
    (Op.equalIn (d + 3) 25 (.agg (arr 100 f)) (.agg (arr 100 g))).run Tryd.prog W = .ok (eqTo 100 a b) W :=
  run_equalIn_rows (n := 10) (m := 10) d Tryd.underlying25 Tryd.underlying24 (rowTab _ _ rfl) cells_row Tryd.underlying23 cells_i16 (by omega) f g a b hf hg W

/-- '==' on pastures. -/
theorem run_equal_pas (a b : Nat → Int) (W : World) :
    (Op.equalIn 10000 39 (.agg (arr 122 (pas a))) (.agg (arr 122 (pas b)))).run Tryd.prog W = .ok (eqTo 122 a b) W := by
  have hs := run_equalIn_struct (P := Tryd.prog) W 9999 39 (arr 122 (pas a)) (arr 122 (pas b)) (by rw [Program.fieldsOf, Tryd.underlying39]) (by kernel_rfl)
  rw [hs]
  have hf : (Tryd.prog.fieldsOf 39).toList = [
    { name := "Wide", type := 22, offset := 0, embedded := false, tag := "", pkgPath := "", byteOffset := 0 },
    { name := "High", type := 22, offset := 1, embedded := false, tag := "", pkgPath := "", byteOffset := 1 },
    { name := "Grass", type := 25, offset := 2, embedded := false, tag := "", pkgPath := "", byteOffset := 2 },
    { name := "East", type := 27, offset := 102, embedded := false, tag := "", pkgPath := "", byteOffset := 202 },
    { name := "South", type := 27, offset := 112, embedded := false, tag := "", pkgPath := "", byteOffset := 222 }] := by
    rw [Program.fieldsOf, Tryd.underlying39]
  rw [hf]
  have p0 := fun c => run_part_cell (P := Tryd.prog) Tryd.underlying22 (n := 122) (i := 0) (f := pas c) (by omega) W
  have p1 := fun c => run_part_cell (P := Tryd.prog) Tryd.underlying22 (n := 122) (i := 1) (f := pas c) (by omega) W
  have p2 := fun c => run_part_row (P := Tryd.prog) (rowTab 25 100 rfl) (n := 122) (i := 2) (f := pas c) (by omega) W
  have p3 := fun c => run_part_row (P := Tryd.prog) (rowTab 27 10 rfl) (n := 122) (i := 102) (f := pas c) (by omega) W
  have p4 := fun c => run_part_row (P := Tryd.prog) (rowTab 27 10 rfl) (n := 122) (i := 112) (f := pas c) (by omega) W
  have q0 := run_equalIn_int (P := Tryd.prog) W 9998 22 .i8 .i8 (a 0) (b 0) Tryd.underlying22
  have q1 := run_equalIn_int (P := Tryd.prog) W 9998 22 .i8 .i8 (a 1) (b 1) Tryd.underlying22
  have q2 := run_equal_grass (fun k => pas a (2 + k)) (fun k => pas b (2 + k)) (fun k => a (2 + k)) (fun k => b (2 + k)) (fun k hk => pas_i16 a (by omega) (by omega)) (fun k hk => pas_i16 b (by omega) (by omega)) W 9996
  have q3 := run_equalIn_row (P := Tryd.prog) (n := 10) 9997 Tryd.underlying27 Tryd.underlying26 cells_u16 (fun k => pas a (102 + k)) (fun k => pas b (102 + k)) (fun k => a (102 + k)) (fun k => b (102 + k)) (fun k hk => pas_u16 a (by omega)) (fun k hk => pas_u16 b (by omega)) W
  have q4 := run_equalIn_row (P := Tryd.prog) (n := 10) 9997 Tryd.underlying27 Tryd.underlying26 cells_u16 (fun k => pas a (112 + k)) (fun k => pas b (112 + k)) (fun k => a (112 + k)) (fun k => b (112 + k)) (fun k hk => pas_u16 a (by omega)) (fun k hk => pas_u16 b (by omega)) W
  have e0 : ∀ c : Nat → Int, pas c 0 = .int .i8 (c 0) := fun _ => rfl
  have e1 : ∀ c : Nat → Int, pas c 1 = .int .i8 (c 1) := fun _ => rfl
  simp only [Op.eqFields, ne_eq, Sem.run_bind, p0, p1, p2, p3, p4, Result.andThen_ok, e0, e1, q0, q1, q2, q3, q4, Sem.run_pure, Sem.run_ite]
  have key : eqTo 122 a b = ((a 0 == b 0) && (a 1 == b 1) && eqTo 100 (fun k => a (2 + k)) (fun k => b (2 + k)) && eqTo 10 (fun k => a (102 + k)) (fun k => b (102 + k)) && eqTo 10 (fun k => a (112 + k)) (fun k => b (112 + k))) := by
    rw [Bool.eq_iff_iff]
    simp only [Bool.and_eq_true, eqTo_iff, beq_iff_eq]
    constructor
    · intro h
      exact ⟨⟨⟨⟨h 0 (by omega), h 1 (by omega)⟩, fun k hk => h _ (by omega)⟩, fun k hk => h _ (by omega)⟩, fun k hk => h _ (by omega)⟩
    · rintro ⟨⟨⟨⟨h0, h1⟩, h2⟩, h3⟩, h4⟩ k hk
      by_cases k0 : k = 0
      · rw [k0]; exact h0
      by_cases k1 : k = 1
      · rw [k1]; exact h1
      by_cases k2 : k < 102
      · have := h2 (k - 2) (by omega); rwa [show 2 + (k - 2) = k by omega] at this
      by_cases k3 : k < 112
      · have := h3 (k - 102) (by omega); rwa [show 102 + (k - 102) = k by omega] at this
      · have := h4 (k - 112) (by omega); rwa [show 112 + (k - 112) = k by omega] at this
  rw [key]
  cases (a 0 == b 0) <;> cases (a 1 == b 1) <;> cases eqTo 100 (fun k => a (2 + k)) (fun k => b (2 + k)) <;> cases eqTo 10 (fun k => a (102 + k)) (fun k => b (102 + k)) <;> cases eqTo 10 (fun k => a (112 + k)) (fun k => b (112 + k)) <;> simp
end Go.Proofs.YtjfmhnbbdkejeaaDoor

