/-
  PLAIN LAWS: a region in the body of a range over a function, walked by the plain laws.
-/
import Derived.RangeFuncNested
import Derived.RangeFuncBound
import Derived.RangeFuncCalls
import Derived.RangeFuncLeaves
import Derived.Shelf.Abstract
import Derived.Shelf.RegionOpen
import Derived.WalkKit
import Derived.OwnWalkIn
import Derived.TacticsInMore
import Derived.LoopNIn
import Derived.LoopIn
import Derived.StillTail
import Derived.Test.YtcdpdcjdjcbhcaaDoorKit
namespace Go.Proofs.YtcdpdcjdjcbhcaaDoor
open Go Go.RowKit
variable {P : Program} {ops : Array Oper} {o : Oper} {a : Act} {W : World} {Q : Exit → Act → World → Prop} {K : Act → World → Prop} {l n : Nat}

def noDefer (o : Oper) : Bool := match o.op with | .defer _ => false | _ => true
theorem noDefer_spec (h : noDefer o = true) : ∀ c, o.op ≠ .defer c := fun c e => by simp [noDefer, e] at h

theorem oper_round (hd : noDefer o = true) (h : o.wp P a W K Q) : o.wpIn (Fence.wide.inRound l) n P a W K Q := by
  unfold Oper.wp at h
  unfold Oper.wpIn
  refine ⟨fun _ _ => trivial, ?_⟩
  rw [Oper.semAt_eq _ _ _ (noDefer_spec hd)]
  generalize (execOp a.eval o).run P W = r at *
  cases r with
  | ok x w' =>
    cases x <;> simp only [Oper.upon] at h <;> simp only [Oper.uponIn]
    case value => exact h
    case skip => exact h
    case defer => exact h
    case enter => exact ⟨fun h => by simp [Fence.inRound, Fence.wide] at h, CallsIn.inRound l (callsIn_wide.2 h)⟩
    case row => exact ⟨fun h => by simp [Fence.inRound, Fence.wide] at h, fun c cs _ => let ⟨v, w', r, s⟩ := h c cs; ⟨v, w', r, stepsIn_wide.2 s⟩⟩
  | halt x w' => cases x <;> simp only [Oper.upon] at h <;> simp only [Oper.uponIn] <;> exact h

theorem list_round (hL : ¬ LetsOut Q) : ∀ (r : List Oper), r.all noDefer = true → ∀ (a : Act) (W : World), wpList P ops Q r a W → wpListIn (Fence.wide.inRound l) n P ops Q r a W
  | [], _, _, _, h => h
  | o :: r, hd, a, W, h => by
    simp only [List.all_cons, Bool.and_eq_true] at hd
    unfold wpList at h
    unfold wpListIn
    split
    · rename_i hw
      rw [if_pos hw] at h
      rcases h with h | h
      · exact oper_round hd.1 (Oper.wp_mono (fun a w hh => list_round hL r hd.2 a w hh) h)
      · exact absurd h.2 hL
    · rename_i hw
      rw [if_neg hw] at h
      exact ⟨fun _ _ => trivial, list_round hL r hd.2 _ _ h⟩

/-- A region that keeps the text's order. -/
theorem region_round {id : Nat} {r : List Oper} (hL : ¬ LetsOut Q) (hd : r.all noDefer = true) (h : wpList P r.toArray Q r a W) : (Code.region id r.toArray false).wpIn (Fence.wide.inRound l) n P Q a W :=
  wpIn_region_lit (list_round hL r hd a W h)

theorem any_round {md : Region.Mode} (hL : ¬ LetsOut Q) (hd : ops.toList.all noDefer = true) : ∀ (fuel : Nat) (listed : Array Bool) (a : Act) (W : World), wpAny P md ops Q fuel listed a W → wpAnyIn (Fence.wide.inRound l) n P md ops Q fuel listed a W
  | 0, _, _, _, h => h
  | fuel + 1, listed, a, W, h => ⟨h.1, fun i hi => by
    have := h.2 i hi
    unfold wpOp at this
    unfold wpOpIn
    split
    · rename_i ho; simp only [ho] at this; exact any_round hL hd fuel _ _ _ this
    · rename_i o ho
      simp only [ho] at this
      have hm : o ∈ ops.toList := by
        have := Array.mem_of_getElem? ho; simpa using this
      have hdo := List.all_eq_true.1 hd o hm
      split
      · rename_i hw
        rw [if_pos hw] at this
        rcases this with h | h
        · exact oper_round hdo (Oper.wp_mono (fun a w hh => any_round hL hd fuel _ a w hh) h)
        · exact absurd h.2 hL
      · rename_i hw
        rw [if_neg hw] at this
        exact ⟨fun _ _ => trivial, any_round hL hd fuel _ _ _ this⟩⟩

/-- A region that draws its order, and only reads. -/
theorem region_round_mem {id : Nat} {r : List Oper} {w : Base} {L : Blocks} (hL : ¬ LetsOut Q) (hd : r.all noDefer = true) (hm : P.follows .mixedOrders = true) (hB : Region.lexB .any r.toArray = true) (hM : Mem w L W)
    (h : wpQuiet P r.toArray (Mem w L) (fun a' => ∀ W', Mem w L W' → Q .normal a' W') r a) : (Code.region id r.toArray true).wpIn (Fence.wide.inRound l) n P Q a W := by
  simp only [Region.lexB, Bool.and_eq_true] at hB
  refine wpIn_region_any hm (any_round hL (by simpa using hd) _ _ _ _ (wpAny_of_quiet (Q := fun a' => ∀ W', Mem w L W' → Q .normal a' W') (fun _ w' hw' h => h w' hw') _ _ _ _ hM.drew ?_))
  have := wpAnyQ_lex (C := Mem w L) (md := .any) hB.1 r 0 (Array.replicate r.toArray.size false) a (by simp) (by simpa using hB.2) h
  simpa using this

/-! ### A region that draws its order: reads first, then what the text has last -/
variable {rest : List Oper} {R : Act → Prop} {J : Act → Prop}
theorem wps_plain (hg : o.guard = none) (h : o.still P a W (wpStill P ops W R rest)) : wpStill P ops W R (o :: rest) a := by
  unfold wpStill; rw [if_pos (by simp [Region.wanted, hg])]; exact h
theorem still_val (h : ∃ v, (∀ W, (execOp a.eval o).run P W = .ok (.value v) W) ∧ J (a.put o.dst v)) : o.still P a W J := by
  obtain ⟨v, hr, h⟩ := h
  unfold Oper.still
  rw [hr]; exact ⟨rfl, h⟩
theorem still_get1 {w : Base} {L : Blocks} (hM : Mem w L W) (ty : TypeId) (x : Operand) (ho : o.op = .load ty x) (b off : Nat) (hx : a.eval x = .pointer (some ⟨b, off, none⟩))
    (i : Nat) {m : Nat} {f : Nat → Value} (hi : L[i]? = some (b, m, f)) (hT : CellT P ty) (hle : off < m) (v : Value) (hv : f off = v)
    (h : J (a.put o.dst v)) : o.still P a W J := by
  obtain ⟨⟨d, hu, hd⟩, _⟩ := hT
  have hc := (hM.ats i b m f hi).cell hle
  rw [hv] at hc
  have hagg : (isAgg ty).run P W = .ok false W := by
    unfold isAgg
    rw [Sem.run_bind, run_underlying hu W]
    cases d <;> simp_all [TypeDesc.isRow]
  have hl : (load ⟨b, off, none⟩).run P W = .ok v W := by simp [load, Sem.run, hc]
  unfold Oper.still execOp
  simp only [ho, hx, Instr.loadAt, Instr.sureAddr, loadVar, Sem.run_bind, Sem.run_pure, Result.andThen_ok, hagg, Bool.false_eq_true, if_false, hl]
  exact ⟨rfl, h⟩

theorem region_round_tail {id : Nat} {r : List Oper} (m : Nat) (hL : ¬ LetsOut Q) (hd : r.all noDefer = true) (hm : P.follows .mixedOrders = true) (hB : Region.lexTailB .any r.toArray m = true)
    (h : wpStill P r.toArray W.drew (fun a' => wpList P r.toArray Q (r.drop m) a' W.drew) (r.take m) a) : (Code.region id r.toArray true).wpIn (Fence.wide.inRound l) n P Q a W := by
  simp only [Region.lexTailB, Bool.and_eq_true, decide_eq_true_eq] at hB
  obtain ⟨⟨⟨⟨b1, b2⟩, b3⟩, b4⟩, b5⟩ := hB
  have e0 : r.toArray.size = r.length := by simp
  have e1 : (r.take m).length = m := by rw [List.length_take]; omega
  have e2 : (r.drop m).length = r.toArray.size - m := by rw [List.length_drop, e0]
  have start : HeadInv .any r.toArray m (Array.replicate r.toArray.size false) :=
    { size := by simp
      closed := fun j oj _ hl => by rw [getD_replicate_false] at hl; cases hl
      tail := fun t _ ht => getD_in (by simpa using ht) (getD_replicate_false _ _) }
  have head := wpAnyL_lex (md := .any) (g := r.toArray.size - m) b1 b3 b4 b2 (r.take m) 0 _ a (fun j hj => by rw [e1] at hj; simp [hj]) (by rw [e1]; omega) start (by rw [e1]; exact b5) h
  have tail : ∀ (listed : Array Bool) (a' : Act), (Region.seqB .any r.toArray (r.toArray.size - m) m listed = true ∧ wpList P r.toArray Q (r.drop m) a' W.drew) → wpAny P .any r.toArray Q (r.toArray.size - m) listed a' W.drew := fun listed a' ht => by
    have := wpAny_of_seq (md := .any) (Q' := Q) (r.drop m) m listed a' W.drew (fun j => by simp [List.getElem?_drop]) (by rw [e2]; exact ht.1) ht.2
    rw [e2] at this; exact this
  have whole := wpAny_of_head (Q' := Q) tail _ _ _ head
  rw [e1, show m + (r.toArray.size - m) = r.toArray.size by omega] at whole
  exact wpIn_region_any hm (any_round hL (by simpa using hd) _ _ _ _ whole)

/-! ### The memory of a call, seen in a round -/
/-- A round that begins in Wr, of a call that began in w0: whatever is no cells and lies from block Bk on lies as it lay. -/
def Base.round (w0 : World) (Bk : Nat) (Wr : World) : Base where
  G := fun W => Below w0.heap.size w0 W ∧ KeepsFrom Bk Wr W
  B := w0.heap.size
  le := fun h => h.1.size
  alloc := fun _ _ h => ⟨h.1.alloc h.1.size _, h.2.trans ((KeepsOthers.alloc _ _).from _)⟩
  row := fun h hb hc c' => ⟨below_setRow h.1 hb c', ⟨by rw [size_setRow]; exact h.2.size, fun k o hk ho hn => by
    have h1 := h.2.same k o hk ho hn
    rw [_root_.Go.setRow_other _ _ _ _ (fun e => by subst e; rw [h1] at hc; cases hc; simp [Obj.isCells] at hn)]
    exact h1⟩⟩
  call := fun h hb => ⟨h.1.trans (hb.mono h.1.size), ⟨Nat.le_trans h.2.size hb.size, fun k o hk ho hn => by
    have h1 := h.2.same k o hk ho hn
    rw [hb.block k (Array.getElem?_eq_some_iff.1 h1).1]
    exact h1⟩⟩
  drew := fun h => ⟨h.1.drew, ⟨h.2.size, h.2.same⟩⟩

theorem At.grown {W W' : World} {b m : Nat} {f : Nat → Value} {row : Option Nat} (h : At W b m f) (hg : W.grownBy W' row) (hr : ∀ r, row = some r → ∃ o : Obj, W.heap[r]? = some o ∧ o.isCells = false) : At W' b m f := by
  obtain ⟨t, ht⟩ := h
  exact ⟨t, (grownBy_keeps_cells hg hr ht rfl).trans ht⟩
theorem mem_ownFrom {β : Type} {w0 : World} {B : Nat} (hB : w0.heap.size ≤ B) (Ls : β → Blocks) : OwnFrom B (fun (s : β) W => Mem w0 (Ls s) W) := fun _ _ _ _ hs hg hr =>
  ⟨Below.grown hs.below hg hs.below.size (fun k e => Nat.le_trans hB (hr k e).1), fun i b m f hi => (hs.ats i b m f hi).grown hg (fun r e => (hr r e).2), hs.apart⟩
end Go.Proofs.YtcdpdcjdjcbhcaaDoor
