/-
  Several texts in one: Herd, Round, MapB, HerdM, CodeOf, Slice.
-/
import Derived.Test.YtcdpdcjdjcbhcaaDoorP2
import Derived.RangeFuncNested
import Derived.RangeFuncBound
import Derived.RangeFuncCalls
import Derived.RangeFuncLeaves
import Derived.Shelf.Abstract
import Derived.Shelf.RegionOpen
import Derived.WalkKit
import Derived.OwnWalkIn
import Derived.TacticsInMore
import Derived.LoopNIn
import Derived.LoopIn
import Derived.StillTail
import Derived.Test.YtcdpdcjdjcbhcaaDoorP1
import Derived.RangeFuncRecord
import Derived.Maps.Own
import Derived.Lib.TrailingZeros
import Derived.Laws.Strings
import Derived.Lib.Hide
import Derived.Great.BuildSlice
/-
  laws.szHerd, toHerd, eqHerd by contracts.
-/
namespace Go.Proofs.YtcdpdcjdjcbhcaaDoor
open Go Go.RowKit Go.BigFrame Go.ChangeShapes Go.WideShapes Go.Deep

theorem cellSS : CellT Tryd.prog 69 := ⟨⟨_, Tryd.underlying69, rfl⟩, by kernel_rfl⟩
theorem cellES : CellT Tryd.prog 70 := ⟨⟨_, Tryd.underlying70, rfl⟩, by kernel_rfl⟩
theorem cellFS : CellT Tryd.prog 71 := ⟨⟨_, Tryd.underlying71, rfl⟩, by kernel_rfl⟩
theorem rowHerd : RowT Tryd.prog 76 3 := ⟨⟨_, Tryd.underlying76, rfl⟩, by kernel_rfl⟩
theorem rowLHerd : RowT Tryd.prog 73 3 := ⟨⟨_, Tryd.underlying73, rfl⟩, by kernel_rfl⟩
theorem zeroHerd : (Tryd.prog.info? 76).map (·.zero) = some (some (.agg (arr 3 fun _ => .slice none 0 0))) := by kernel_rfl

/-- What the size check gives: -1, or what is left. -/
def LeftH (d : Hd) (left : Int) (w : World) (e : Ending) (w' : World) : Prop := (∃ r : Int, e = .returned (.int .i64 r) ∧ (r = -1 ∨ (0 ≤ r ∧ r ≤ left ∧ (d.n1 : Int) ≤ left ∧ (d.n2 : Int) ≤ left ∧ (d.n3 : Int) ≤ left))) ∧ Below w.heap.size w w'

set_option maxRecDepth 100000 in
set_option maxHeartbeats 1000000 in
theorem szHerd_any (v : Value) (d : Hd) (left : Int) (hd : FitsH d) (h0 : 0 ≤ left) (hl : left ≤ 1048576) (w : World) (h : HerdArg w v d) :
    Calls Tryd.prog 36 #[v, .int .i64 left] w (LeftH d left w) := by
  have hM := Mem.nil w
  obtain ⟨v1, v2, v3, rfl, A1, A2, A3⟩ := h
  have HA1 := Lib.hid A1
  have HA2 := Lib.hid A2
  have HA3 := Lib.hid A3
  clear A1 A2 A3
  have tk_b1 : True := trivial
  go_enter Tryd.func36, Tryd.ntmps36
  go_wp2_with (first | (have _t := tk_b1; refine wpList_box rfl _ _ rfl _ _ rfl hM ?_; intro b1 W' hb1 hM'; clear hM tk_b1; have hM := hM'; clear hM') | (refine wpList_get1 rfl _ _ rfl _ _ rfl hM 0 rfl cellSS (by omega) v1 rfl ?_))
  go_at_call 80
  refine (szStringS_any v1 d.n1 d.ss left hd.l1 hd.s h0 hl _ (HA1.out.below hM.below)).mono ?_
  rintro e W' ⟨⟨r1, rfl, rfl | ⟨p0, p1, p2⟩⟩, hb⟩
  · have hM' := hM.call hb
    clear hM hb
    go_wp2
    go_ret
    exact ⟨⟨-1, rfl, .inl rfl⟩, hM'.below⟩
  have hM' := hM.call hb
  clear hM hb
  have hM := hM'
  clear hM'
  have d1 : decide (r1 < 0) = false := decide_eq_false (by omega)
  go_wp2_with (first | (refine wpList_get1 rfl _ _ rfl _ _ rfl hM 0 rfl cellES (by omega) v2 rfl ?_))
  go_at_call 81
  refine (szInt16S_any v2 d.n2 d.es r1 hd.l2 p0 (by omega) _ (HA2.out.below hM.below)).mono ?_
  rintro e W' ⟨⟨r2, rfl, rfl | ⟨q0, q1, q2⟩⟩, hb⟩
  · have hM' := hM.call hb
    clear hM hb
    go_wp2
    go_ret
    exact ⟨⟨-1, rfl, .inl rfl⟩, hM'.below⟩
  have hM' := hM.call hb
  clear hM hb
  have hM := hM'
  clear hM'
  have d2 : decide (r2 < 0) = false := decide_eq_false (by omega)
  go_wp2_with (first | (refine wpList_get1 rfl _ _ rfl _ _ rfl hM 0 rfl cellFS (by omega) v3 rfl ?_))
  go_at_call 82
  refine (szUint16S_any v3 d.n3 d.fs r2 hd.l3 q0 (by omega) _ (HA3.out.below hM.below)).mono ?_
  rintro e W' ⟨⟨r3, rfl, rfl | ⟨s0, s1, s2⟩⟩, hb⟩
  · have hM' := hM.call hb
    clear hM hb
    go_wp2
    go_ret
    exact ⟨⟨-1, rfl, .inl rfl⟩, hM'.below⟩
  have hM' := hM.call hb
  clear hM hb
  have hM := hM'
  clear hM'
  have d3 : decide (r3 < 0) = false := decide_eq_false (by omega)
  go_wp2
  go_ret
  exact ⟨⟨r3, rfl, .inr ⟨s0, by omega, by omega, by omega, by omega⟩⟩, hM.below⟩

/-- A herd whose lists are three blocks. -/
def hdV (d : Hd) (b1 b2 b3 : Nat) : Nat → Value := h3 (.slice (some ⟨b1, 0, none⟩) d.n1 d.n1) (.slice (some ⟨b2, 0, none⟩) d.n2 d.n2) (.slice (some ⟨b3, 0, none⟩) d.n3 d.n3)
def hdB (d : Hd) (b1 b2 b3 : Nat) : Blocks := [(b1, d.n1, vStringS d.ss), (b2, d.n2, vInt16S d.es), (b3, d.n3, vUint16S d.fs)]
def GivenH (d : Hd) (w : World) (e : Ending) (w' : World) : Prop := ∃ b1 b2 b3, e = .returned (.agg (arr 3 (hdV d b1 b2 b3))) ∧ w.heap.size ≤ b1 ∧ w.heap.size ≤ b2 ∧ w.heap.size ≤ b3 ∧ Mem w (hdB d b1 b2 b3) w'

set_option maxRecDepth 100000 in
set_option maxHeartbeats 1000000 in
theorem toHerd_any (v : Value) (d : Hd) (h1 : d.n1 ≤ 1048576) (h2 : d.n2 ≤ 1048576) (h3 : d.n3 ≤ 1048576) (w : World) (h : HerdArg w v d) :
    Calls Tryd.prog 38 #[v] w (GivenH d w) := by
  have hM := Mem.nil w
  obtain ⟨v1, v2, v3, rfl, A1, A2, A3⟩ := h
  have HA1 := Lib.hid A1
  have HA2 := Lib.hid A2
  have HA3 := Lib.hid A3
  clear A1 A2 A3
  have tk_b1 : True := trivial; have tk_b2 : True := trivial; have tk_b3 : True := trivial; have tk_c1 : True := trivial; have tk_c2 : True := trivial; have tk_c3 : True := trivial
  go_enter Tryd.func38, Tryd.ntmps38
  go_wp2_with (first | (have _t := tk_b1; refine wpList_box rfl _ _ rfl _ _ rfl hM ?_; intro b1 W' hb1 hM'; clear hM tk_b1; have hM := hM'; clear hM') | (have _t := tk_b2; refine wpList_zero rfl _ rfl zeroHerd hM ?_; intro b2 W' hb2 hM'; clear hM tk_b2; have hM := hM'; clear hM') | (have _t := tk_b3; refine wpList_zero rfl _ rfl zeroHerd hM ?_; intro b3 W' hb3 hM'; clear hM tk_b3; have hM := hM'; clear hM') | (refine wpList_get1 rfl _ _ rfl _ _ rfl hM 2 rfl cellSS (by omega) v1 rfl ?_) | (refine wpList_get1 rfl _ _ rfl _ _ rfl hM 2 rfl cellES (by omega) v2 rfl ?_) | (refine wpList_get1 rfl _ _ rfl _ _ rfl hM 2 rfl cellFS (by omega) v3 rfl ?_) | (have _t := tk_c1; go_at_call 85; (with_reducible refine (toStringS_any v1 d.n1 d.ss h1 _ (HA1.out.below hM.below)).mono ?_); rintro e W' ⟨c1, rfl, hc1, hA', hcb⟩; have gc1 := Nat.le_trans hM.size hc1; have hM' := hM.fresh' hcb hA' hc1; simp only [List.cons_append, List.nil_append] at hM'; clear hM hcb hA' tk_c1; have hM := hM'; clear hM') | (have _t := tk_c2; go_at_call 86; (with_reducible refine (toInt16S_any v2 d.n2 d.es h2 _ (HA2.out.below hM.below)).mono ?_); rintro e W' ⟨c2, rfl, hc2, hA', hcb⟩; have gc2 := Nat.le_trans hM.size hc2; have hM' := hM.fresh' hcb hA' hc2; simp only [List.cons_append, List.nil_append] at hM'; clear hM hcb hA' tk_c2; have hM := hM'; clear hM') | (have _t := tk_c3; go_at_call 87; (with_reducible refine (toUint16S_any v3 d.n3 d.fs h3 _ (HA3.out.below hM.below)).mono ?_); rintro e W' ⟨c3, rfl, hc3, hA', hcb⟩; have gc3 := Nat.le_trans hM.size hc3; have hM' := hM.fresh' hcb hA' hc3; simp only [List.cons_append, List.nil_append] at hM'; clear hM hcb hA' tk_c3; have hM := hM'; clear hM') | (refine wpList_set1 rfl _ _ _ rfl _ _ rfl _ rfl rfl hM 0 rfl (by assumption) (by first | exact cellSS | exact cellES | exact cellFS) (by omega) ?_; intro W' hM'; clear hM; have hM := hM'; clear hM'; simp only [List.set] at hM) | (refine wpList_get rfl _ _ rfl _ _ rfl hM 0 rfl rowHerd (by omega) ?_) | (refine wpList_lay rfl _ _ _ rfl _ _ rfl _ _ rfl hM 1 rfl (by assumption) rowHerd (by omega) ?_ ?_; (intro k _; simp only [upd]; (repeat' split) <;> rfl); intro W' hM'; clear hM; have hM := hM'; clear hM'; simp only [List.set] at hM))
  have hA := (hM.ats 1 _ _ _ rfl).congr (g := hdV d c1 c2 c3) (fun k hk => by
    rcases (show k = 0 ∨ k = 1 ∨ k = 2 by omega) with rfl | rfl | rfl <;> rfl)
  exact bodyPost_ret (results_at rfl _ rfl hA rowHerd) rfl ⟨c1, c2, c3, rfl, gc1, gc2, gc3, hM.drop.drop.drop⟩

set_option maxRecDepth 100000 in
set_option maxHeartbeats 1000000 in
theorem eqHerd_same (d : Hd) (b1 b2 b3 c1 c2 c3 : Nat) (l1 : d.n1 ≤ maxLen) (l2 : d.n2 ≤ maxLen) (l3 : d.n3 ≤ maxLen) (w : World) (A1 : At w b1 d.n1 (vStringS d.ss)) (A2 : At w b2 d.n2 (vInt16S d.es)) (A3 : At w b3 d.n3 (vUint16S d.fs)) (C1 : At w c1 d.n1 (vStringS d.ss)) (C2 : At w c2 d.n2 (vInt16S d.es)) (C3 : At w c3 d.n3 (vUint16S d.fs)) (n1 : b1 ≠ c1) (n2 : b2 ≠ c2) (n3 : b3 ≠ c3) :
    Calls Tryd.prog 40 #[.agg (arr 3 (hdV d b1 b2 b3)), .agg (arr 3 (hdV d c1 c2 c3))] w fun e w' => e = .returned (.bool true) ∧ Below w.heap.size w w' := by
  have hM := Mem.nil w
  have HA1 := Lib.hid A1
  have HA2 := Lib.hid A2
  have HA3 := Lib.hid A3
  have HC1 := Lib.hid C1
  have HC2 := Lib.hid C2
  have HC3 := Lib.hid C3
  clear A1 A2 A3 C1 C2 C3
  have tk_x1 : True := trivial; have tk_x2 : True := trivial
  go_enter Tryd.func40, Tryd.ntmps40
  go_wp2_with (first | (have _t := tk_x1; refine wpList_box rfl _ _ rfl _ _ rfl hM ?_; intro x1 W' hx1 hM'; clear hM tk_x1; have hM := hM'; clear hM') | (have _t := tk_x2; refine wpList_box rfl _ _ rfl _ _ rfl hM ?_; intro x2 W' hx2 hM'; clear hM tk_x2; have hM := hM'; clear hM') | (refine wpList_get1 rfl _ _ rfl _ _ rfl hM 1 rfl (by first | exact cellSS | exact cellES | exact cellFS) (by omega) _ rfl ?_) | (refine wpList_get1 rfl _ _ rfl _ _ rfl hM 0 rfl (by first | exact cellSS | exact cellES | exact cellFS) (by omega) _ rfl ?_) | (go_at_call 90; refine (eqStringS_same b1 c1 d.n1 d.n1 d.n1 d.ss l1 _ (HA1.out.below hM.below HA1.out.lt) (HC1.out.below hM.below HC1.out.lt) n1).mono ?_; rintro e W' ⟨rfl, hb'⟩; have hM' := hM.call hb'; clear hM hb'; have hM := hM'; clear hM') | (go_at_call 91; refine (eqInt16S_same b2 c2 d.n2 d.n2 d.n2 d.es l2 _ (HA2.out.below hM.below HA2.out.lt) (HC2.out.below hM.below HC2.out.lt) n2).mono ?_; rintro e W' ⟨rfl, hb'⟩; have hM' := hM.call hb'; clear hM hb'; have hM := hM'; clear hM') | (go_at_call 92; refine (eqUint16S_same b3 c3 d.n3 d.n3 d.n3 d.fs l3 _ (HA3.out.below hM.below HA3.out.lt) (HC3.out.below hM.below HC3.out.lt) n3).mono ?_; rintro e W' ⟨rfl, hb'⟩; have hM' := hM.call hb'; clear hM hb'; have hM := hM'; clear hM'))
  go_ret
  exact ⟨rfl, hM.below⟩
end Go.Proofs.YtcdpdcjdjcbhcaaDoor

/-
  PLAIN LAWS: a region in the body of a range over a function, walked by the plain laws.
-/
namespace Go.Proofs.YtcdpdcjdjcbhcaaDoor
open Go Go.RowKit
variable {P : Program} {ops : Array Oper} {o : Oper} {a : Act} {W : World} {Q : Exit → Act → World → Prop} {K : Act → World → Prop} {l n : Nat}

def noDefer (o : Oper) : Bool := match o.op with | .defer _ => false | _ => true
theorem noDefer_spec (h : noDefer o = true) : ∀ c, o.op ≠ .defer c := fun c e => by simp [noDefer, e] at h

theorem oper_round (hd : noDefer o = true) (h : o.wp P a W K Q) : o.wpIn (Fence.wide.inRound l) n P a W K Q := by
  unfold Oper.wp at h
  unfold Oper.wpIn
  refine ⟨fun _ _ => trivial, ?_⟩
  rw [Oper.semAt_eq _ _ _ (noDefer_spec hd)]
  generalize (execOp a.eval o).run P W = r at *
  cases r with
  | ok x w' =>
    cases x <;> simp only [Oper.upon] at h <;> simp only [Oper.uponIn]
    case value => exact h
    case skip => exact h
    case defer => exact h
    case enter => exact ⟨fun h => by simp [Fence.inRound, Fence.wide] at h, CallsIn.inRound l (callsIn_wide.2 h)⟩
    case row => exact ⟨fun h => by simp [Fence.inRound, Fence.wide] at h, fun c cs _ => let ⟨v, w', r, s⟩ := h c cs; ⟨v, w', r, stepsIn_wide.2 s⟩⟩
  | halt x w' => cases x <;> simp only [Oper.upon] at h <;> simp only [Oper.uponIn] <;> exact h

theorem list_round (hL : ¬ LetsOut Q) : ∀ (r : List Oper), r.all noDefer = true → ∀ (a : Act) (W : World), wpList P ops Q r a W → wpListIn (Fence.wide.inRound l) n P ops Q r a W
  | [], _, _, _, h => h
  | o :: r, hd, a, W, h => by
    simp only [List.all_cons, Bool.and_eq_true] at hd
    unfold wpList at h
    unfold wpListIn
    split
    · rename_i hw
      rw [if_pos hw] at h
      rcases h with h | h
      · exact oper_round hd.1 (Oper.wp_mono (fun a w hh => list_round hL r hd.2 a w hh) h)
      · exact absurd h.2 hL
    · rename_i hw
      rw [if_neg hw] at h
      exact ⟨fun _ _ => trivial, list_round hL r hd.2 _ _ h⟩

/-- A region that keeps the text's order. -/
theorem region_round {id : Nat} {r : List Oper} (hL : ¬ LetsOut Q) (hd : r.all noDefer = true) (h : wpList P r.toArray Q r a W) : (Code.region id r.toArray false).wpIn (Fence.wide.inRound l) n P Q a W :=
  wpIn_region_lit (list_round hL r hd a W h)

theorem any_round {md : Region.Mode} (hL : ¬ LetsOut Q) (hd : ops.toList.all noDefer = true) : ∀ (fuel : Nat) (listed : Array Bool) (a : Act) (W : World), wpAny P md ops Q fuel listed a W → wpAnyIn (Fence.wide.inRound l) n P md ops Q fuel listed a W
  | 0, _, _, _, h => h
  | fuel + 1, listed, a, W, h => ⟨h.1, fun i hi => by
    have := h.2 i hi
    unfold wpOp at this
    unfold wpOpIn
    split
    · rename_i ho; simp only [ho] at this; exact any_round hL hd fuel _ _ _ this
    · rename_i o ho
      simp only [ho] at this
      have hm : o ∈ ops.toList := by
        have := Array.mem_of_getElem? ho; simpa using this
      have hdo := List.all_eq_true.1 hd o hm
      split
      · rename_i hw
        rw [if_pos hw] at this
        rcases this with h | h
        · exact oper_round hdo (Oper.wp_mono (fun a w hh => any_round hL hd fuel _ a w hh) h)
        · exact absurd h.2 hL
      · rename_i hw
        rw [if_neg hw] at this
        exact ⟨fun _ _ => trivial, any_round hL hd fuel _ _ _ this⟩⟩

/-- A region that draws its order, and only reads. -/
theorem region_round_mem {id : Nat} {r : List Oper} {w : Base} {L : Blocks} (hL : ¬ LetsOut Q) (hd : r.all noDefer = true) (hm : P.follows .mixedOrders = true) (hB : Region.lexB .any r.toArray = true) (hM : Mem w L W)
    (h : wpQuiet P r.toArray (Mem w L) (fun a' => ∀ W', Mem w L W' → Q .normal a' W') r a) : (Code.region id r.toArray true).wpIn (Fence.wide.inRound l) n P Q a W := by
  simp only [Region.lexB, Bool.and_eq_true] at hB
  refine wpIn_region_any hm (any_round hL (by simpa using hd) _ _ _ _ (wpAny_of_quiet (Q := fun a' => ∀ W', Mem w L W' → Q .normal a' W') (fun _ w' hw' h => h w' hw') _ _ _ _ hM.drew ?_))
  have := wpAnyQ_lex (C := Mem w L) (md := .any) hB.1 r 0 (Array.replicate r.toArray.size false) a (by simp) (by simpa using hB.2) h
  simpa using this

/-! ### A region that draws its order: reads first, then what the text has last -/
variable {rest : List Oper} {R : Act → Prop} {J : Act → Prop}
theorem wps_plain (hg : o.guard = none) (h : o.still P a W (wpStill P ops W R rest)) : wpStill P ops W R (o :: rest) a := by
  unfold wpStill; rw [if_pos (by simp [Region.wanted, hg])]; exact h
theorem still_val (h : ∃ v, (∀ W, (execOp a.eval o).run P W = .ok (.value v) W) ∧ J (a.put o.dst v)) : o.still P a W J := by
  obtain ⟨v, hr, h⟩ := h
  unfold Oper.still
  rw [hr]; exact ⟨rfl, h⟩
theorem still_get1 {w : Base} {L : Blocks} (hM : Mem w L W) (ty : TypeId) (x : Operand) (ho : o.op = .load ty x) (b off : Nat) (hx : a.eval x = .pointer (some ⟨b, off, none⟩))
    (i : Nat) {m : Nat} {f : Nat → Value} (hi : L[i]? = some (b, m, f)) (hT : CellT P ty) (hle : off < m) (v : Value) (hv : f off = v)
    (h : J (a.put o.dst v)) : o.still P a W J := by
  obtain ⟨⟨d, hu, hd⟩, _⟩ := hT
  have hc := (hM.ats i b m f hi).cell hle
  rw [hv] at hc
  have hagg : (isAgg ty).run P W = .ok false W := by
    unfold isAgg
    rw [Sem.run_bind, run_underlying hu W]
    cases d <;> simp_all [TypeDesc.isRow]
  have hl : (load ⟨b, off, none⟩).run P W = .ok v W := by simp [load, Sem.run, hc]
  unfold Oper.still execOp
  simp only [ho, hx, Instr.loadAt, Instr.sureAddr, loadVar, Sem.run_bind, Sem.run_pure, Result.andThen_ok, hagg, Bool.false_eq_true, if_false, hl]
  exact ⟨rfl, h⟩

theorem region_round_tail {id : Nat} {r : List Oper} (m : Nat) (hL : ¬ LetsOut Q) (hd : r.all noDefer = true) (hm : P.follows .mixedOrders = true) (hB : Region.lexTailB .any r.toArray m = true)
    (h : wpStill P r.toArray W.drew (fun a' => wpList P r.toArray Q (r.drop m) a' W.drew) (r.take m) a) : (Code.region id r.toArray true).wpIn (Fence.wide.inRound l) n P Q a W := by
  simp only [Region.lexTailB, Bool.and_eq_true, decide_eq_true_eq] at hB
  obtain ⟨⟨⟨⟨b1, b2⟩, b3⟩, b4⟩, b5⟩ := hB
  have e0 : r.toArray.size = r.length := by simp
  have e1 : (r.take m).length = m := by rw [List.length_take]; omega
  have e2 : (r.drop m).length = r.toArray.size - m := by rw [List.length_drop, e0]
  have start : HeadInv .any r.toArray m (Array.replicate r.toArray.size false) :=
    { size := by simp
      closed := fun j oj _ hl => by rw [getD_replicate_false] at hl; cases hl
      tail := fun t _ ht => getD_in (by simpa using ht) (getD_replicate_false _ _) }
  have head := wpAnyL_lex (md := .any) (g := r.toArray.size - m) b1 b3 b4 b2 (r.take m) 0 _ a (fun j hj => by rw [e1] at hj; simp [hj]) (by rw [e1]; omega) start (by rw [e1]; exact b5) h
  have tail : ∀ (listed : Array Bool) (a' : Act), (Region.seqB .any r.toArray (r.toArray.size - m) m listed = true ∧ wpList P r.toArray Q (r.drop m) a' W.drew) → wpAny P .any r.toArray Q (r.toArray.size - m) listed a' W.drew := fun listed a' ht => by
    have := wpAny_of_seq (md := .any) (Q' := Q) (r.drop m) m listed a' W.drew (fun j => by simp [List.getElem?_drop]) (by rw [e2]; exact ht.1) ht.2
    rw [e2] at this; exact this
  have whole := wpAny_of_head (Q' := Q) tail _ _ _ head
  rw [e1, show m + (r.toArray.size - m) = r.toArray.size by omega] at whole
  exact wpIn_region_any hm (any_round hL (by simpa using hd) _ _ _ _ whole)

/-! ### The memory of a call, seen in a round -/
/-- A round that begins in Wr, of a call that began in w0: whatever is no cells and lies from block Bk on lies as it lay. -/
def Base.round (w0 : World) (Bk : Nat) (Wr : World) : Base where
  G := fun W => Below w0.heap.size w0 W ∧ KeepsFrom Bk Wr W
  B := w0.heap.size
  le := fun h => h.1.size
  alloc := fun _ _ h => ⟨h.1.alloc h.1.size _, h.2.trans ((KeepsOthers.alloc _ _).from _)⟩
  row := fun h hb hc c' => ⟨below_setRow h.1 hb c', ⟨by rw [size_setRow]; exact h.2.size, fun k o hk ho hn => by
    have h1 := h.2.same k o hk ho hn
    rw [_root_.Go.setRow_other _ _ _ _ (fun e => by subst e; rw [h1] at hc; cases hc; simp [Obj.isCells] at hn)]
    exact h1⟩⟩
  call := fun h hb => ⟨h.1.trans (hb.mono h.1.size), ⟨Nat.le_trans h.2.size hb.size, fun k o hk ho hn => by
    have h1 := h.2.same k o hk ho hn
    rw [hb.block k (Array.getElem?_eq_some_iff.1 h1).1]
    exact h1⟩⟩
  drew := fun h => ⟨h.1.drew, ⟨h.2.size, h.2.same⟩⟩

theorem At.grown {W W' : World} {b m : Nat} {f : Nat → Value} {row : Option Nat} (h : At W b m f) (hg : W.grownBy W' row) (hr : ∀ r, row = some r → ∃ o : Obj, W.heap[r]? = some o ∧ o.isCells = false) : At W' b m f := by
  obtain ⟨t, ht⟩ := h
  exact ⟨t, (grownBy_keeps_cells hg hr ht rfl).trans ht⟩
theorem mem_ownFrom {β : Type} {w0 : World} {B : Nat} (hB : w0.heap.size ≤ B) (Ls : β → Blocks) : OwnFrom B (fun (s : β) W => Mem w0 (Ls s) W) := fun _ _ _ _ hs hg hr =>
  ⟨Below.grown hs.below hg hs.below.size (fun k e => Nat.le_trans hB (hr k e).1), fun i b m f hi => (hs.ats i b m f hi).grown hg (fun r e => (hr r e).2), hs.apart⟩
end Go.Proofs.YtcdpdcjdjcbhcaaDoor

/-
  PLAIN LAWS over any program: A MAP THAT A CALL OWNS, beside its blocks of cells. The map's block is a part of the base (Base.map); its entries stand in the order in which their keys came (ents).
-/
namespace Go.Proofs.YtcdpdcjdjcbhcaaDoor
open Go Go.RowKit Go.Maps Go.MapKept

/-! ### A map's entries -/
section
variable {K : Type} {kv : K → Value} {ks : List K} {f : K → Value}
/-- The entries of the keys ks, in the order in which they came; what is kept under each. -/
def ents (kv : K → Value) (ks : List K) (f : K → Value) : List MapEntry := ks.zipIdx.map fun q => { key := kv q.1, val := f q.1, born := q.2 }
/-- f with v under k. -/
def updK [DecidableEq K] (f : K → Value) (k : K) (v : Value) : K → Value := fun j => if j = k then v else f j

theorem ents_length : (ents kv ks f).length = ks.length := by simp [ents]
theorem ents_get (i : Nat) : (ents kv ks f)[i]? = (ks[i]?).map fun k => { key := kv k, val := f k, born := i } := by
  simp [ents, List.getElem?_zipIdx]
  cases ks[i]? <;> rfl
theorem ents_congr {g : K → Value} (h : ∀ k, k ∈ ks → f k = g k) : ents kv ks f = ents kv ks g := by
  apply List.ext_getElem?
  intro i
  rw [ents_get, ents_get]
  cases e : ks[i]? with
  | none => rfl
  | some k => simp [h k (List.mem_of_getElem? e)]
theorem ents_mem {e : MapEntry} (h : e ∈ ents kv ks f) : ∃ k i, ks[i]? = some k ∧ e = { key := kv k, val := f k, born := i } := by
  obtain ⟨i, hi⟩ := List.getElem?_of_mem h
  rw [ents_get] at hi
  cases e : ks[i]? with
  | none => simp [e] at hi
  | some k => rw [e] at hi; simp at hi; exact ⟨k, i, e, hi.symm⟩
theorem ents_push [DecidableEq K] {k : K} (v : Value) (hk : k ∉ ks) : ents kv ks f ++ [{ key := kv k, val := v, born := ks.length }] = ents kv (ks ++ [k]) (updK f k v) := by
  apply List.ext_getElem?
  intro i
  rw [ents_get]
  by_cases hi : i < ks.length
  · rw [List.getElem?_append_left (by rw [ents_length]; exact hi), List.getElem?_append_left hi, ents_get]
    have : ks[i] ≠ k := fun e => hk (e ▸ List.getElem_mem hi)
    simp [hi, updK, this]
  · rw [List.getElem?_append_right (by rw [ents_length]; omega), List.getElem?_append_right (by omega), ents_length]
    rcases Nat.eq_or_lt_of_le (Nat.not_lt.1 hi) with e | e
    · subst e; simp [updK]
    · have : i - ks.length ≠ 0 := by omega
      cases q : i - ks.length with
      | zero => omega
      | succ n => simp
theorem ents_modify [DecidableEq K] {k : K} {j : Nat} (v : Value) (hd : ks.Nodup) (hj : ks[j]? = some k) (g : MapEntry → MapEntry) (hg : ∀ e : MapEntry, e.key = kv k → g e = { e with key := kv k, val := v }) : (ents kv ks f).modify j g = ents kv ks (updK f k v) := by
  apply List.ext_getElem?
  intro i
  rw [List.getElem?_modify, ents_get, ents_get]
  by_cases e : j = i
  · subst e; simp [hj, hg, updK]
  · cases q : ks[i]? with
    | none => simp
    | some k' =>
      have : k' ≠ k := fun h => e ((List.getElem?_inj (List.getElem?_eq_some_iff.1 hj).1 hd).1 (by rw [hj, q, h]))
      simp [e, updK, this]
end

/-- How keys are told: each is a key of the type, and no two are told alike. -/
structure KeyTold (P : Program) (kt : TypeId) {K : Type} (kv : K → Value) (ok : K → Prop) : Prop where
  keyed : Keyed P kt
  told : ∀ k, ok k → ∃ l, keyOf P kt (kv k) = some l
  inj : ∀ {a b : K}, kv a = kv b → a = b

/-! ### The base with a map -/
/-- A base beside which block m holds the object o, which is no cells. -/
def Base.with (w : Base) (m : Nat) (o : Obj) (ho : o.isCells = false) : Base where
  G := fun W => w.G W ∧ W.heap[m]? = some o
  B := w.B
  le := fun h => w.le h.1
  alloc := fun {W} c t h => ⟨w.alloc c t h.1, (Below.heap_alloc W _ m (Array.getElem?_eq_some_iff.1 h.2).1).trans h.2⟩
  row := fun {W b c t} h hb hc c' => ⟨w.row h.1 hb hc c', (_root_.Go.setRow_other W b m c' (fun e => by subst e; rw [h.2] at hc; cases hc; simp [Obj.isCells] at ho)).trans h.2⟩
  call := fun h hb => ⟨w.call h.1 hb, (hb.block m (Array.getElem?_eq_some_iff.1 h.2).1).trans h.2⟩
  drew := fun h => ⟨w.drew h.1, h.2⟩
/-- The map's object. -/
def mapO {K : Type} (kv : K → Value) (ks : List K) (f : K → Value) : Obj := .map (ents kv ks f).toArray ks.length
theorem mapO_cells {K : Type} {kv : K → Value} {ks : List K} {f : K → Value} : (mapO kv ks f).isCells = false := rfl
/-- A base beside which block m holds the map of the keys ks. -/
def Base.map {K : Type} (w : Base) (m : Nat) (kv : K → Value) (ks : List K) (f : K → Value) : Base := w.with m (mapO kv ks f) rfl
/-- What is no cells in block m may be another in its place. -/
def Base.Lets (w : Base) (m : Nat) : Prop := ∀ (W : World) (o o' : Obj), w.G W → W.heap[m]? = some o → o.isCells = false → w.G (W.putObj m o')

theorem putObj_same {W : World} {m : Nat} {o : Obj} (h : W.heap[m]? = some o) (o' : Obj) : (W.putObj m o').heap[m]? = some o' := by
  have := (Array.getElem?_eq_some_iff.1 h).1
  simp [World.putObj, this]
theorem putObj_other (W : World) (m : Nat) (o' : Obj) {k : Nat} (h : k ≠ m) : (W.putObj m o').heap[k]? = W.heap[k]? := by
  simp [World.putObj, Ne.symm h]
theorem below_putObj {B m : Nat} {a W : World} (h : Below B a W) (hm : B ≤ m) (o' : Obj) : Below B a (W.putObj m o') :=
  ⟨h.os, h.tape, h.output, by simpa [World.putObj] using h.size, fun k hk => (putObj_other W m o' (by omega)).trans (h.block k hk)⟩

theorem lets_of {w : World} {m : Nat} (h : w.heap.size ≤ m) : (Base.of w).Lets m := fun _ _ o' hg _ _ => below_putObj hg h o'
theorem lets_round {w0 Wr : World} {Bk m : Nat} (h : w0.heap.size ≤ m) (h' : m < Bk) : (Base.round w0 Bk Wr).Lets m := fun W _ o' hg _ _ =>
  ⟨below_putObj hg.1 h o', ⟨by simpa [World.putObj] using hg.2.size, fun k o hk ho hn => (putObj_other W m o' (by omega)).trans (hg.2.same k o hk ho hn)⟩⟩
theorem lets_with {w : Base} {m m' : Nat} {o : Obj} {ho : o.isCells = false} (h : w.Lets m) (hne : m ≠ m') : (w.with m' o ho).Lets m := fun W o1 o' hg h1 h2 =>
  ⟨h W o1 o' hg.1 h1 h2, (putObj_other W m o' (Ne.symm hne)).trans hg.2⟩

theorem Mem.withO {w : Base} {W : World} {L : Blocks} (h : Mem w L W) {m : Nat} {o : Obj} (ho : o.isCells = false) (hm : W.heap[m]? = some o) : Mem (w.with m o ho) L W := h.base ⟨h.good, hm⟩
theorem Mem.less {w : Base} {W : World} {L : Blocks} {m : Nat} {o : Obj} {ho : o.isCells = false} (h : Mem (w.with m o ho) L W) : Mem w L W := h.base h.good.1
theorem Mem.put {w : Base} {W : World} {L : Blocks} {m : Nat} {o : Obj} {ho : o.isCells = false} (h : Mem (w.with m o ho) L W) (hl : w.Lets m) {o' : Obj} (ho' : o'.isCells = false) : Mem (w.with m o' ho') L (W.putObj m o') :=
  ⟨⟨hl W o o' h.good.1 h.good.2 ho, putObj_same h.good.2 o'⟩, fun i b n f hi => by
    obtain ⟨t, ht⟩ := h.ats i b n f hi
    exact ⟨t, (putObj_other W m o' (fun e => by subst e; have := h.good.2; rw [ht] at this; cases this; simp [Obj.isCells] at ho)).trans ht⟩, h.apart⟩
theorem Mem.newObj {w : Base} {W : World} {L : Blocks} (h : Mem w L W) (o : Obj) (ho : o.isCells = false) : Mem (w.with W.heap.size o ho) L (W.alloc o) :=
  (h.call (W' := W.alloc o) ((Below.refl _ W).alloc (Nat.le_refl _) o)).withO ho (heap_alloc_new W o)

/-! ### The operations -/
section
variable {P : Program} {ops : Array Oper} {rest : List Oper} {o : Oper} {a : Act} {w : Base} {W : World} {Q : Exit → Act → World → Prop} {L : Blocks}
variable {K : Type} {kv : K → Value} {ok : K → Prop} {ks : List K} {f : K → Value} {kt et : TypeId} {m : Nat}

theorem look_map [DecidableEq K] (T : KeyTold P kt kv ok) {t : TypeId} (ht : P.underlying t = some (.map kt et)) {z : Value} (hz : (zeroValue et).run P W = .ok z W) (hm : W.heap[m]? = some (mapO kv ks f)) (hks : ∀ k, k ∈ ks → ok k) {k : K} (hk : ok k) (c : Bool) :
    (Instr.lookup t (.map (some m)) (kv k) c).run P W = .ok (if c then .tuple #[if k ∈ ks then f k else z, .bool (decide (k ∈ ks))] else if k ∈ ks then f k else z) W := by
  obtain ⟨l, hl⟩ := T.told k hk
  have hes : ∀ e ∈ ents kv ks f, ∃ l, keyOf P kt e.key = some l := fun e he => by
    obtain ⟨k', i, hi, rfl⟩ := ents_mem he
    exact T.told k' (hks k' (List.mem_of_getElem? hi))
  rcases T.keyed.find W hl (ents kv ks f) hes with ⟨h1, h2⟩ | ⟨j, e0, h1, h2, h3⟩
  · have hn : k ∉ ks := fun h => by
      obtain ⟨i, hi⟩ := List.getElem?_of_mem h
      exact h2 _ (List.mem_of_getElem? (i := i) (by rw [ents_get, hi]; rfl)) rfl
    simp [Instr.lookup, run_underlying ht, MapKept.run_getObj_map (show W.heap[m]? = some (.map _ _) from hm), T.keyed.check W _ hl, h1, hz, Result.andThen, hn]
  · rw [ents_get] at h2
    cases q : ks[j]? with
    | none => simp [q] at h2
    | some k' =>
      rw [q] at h2; simp at h2
      have ek : k' = k := T.inj (by rw [← h3, ← h2])
      subst ek
      have hin := List.mem_of_getElem? q
      have ev : e0.val = f k' := by rw [← h2]
      simp [Instr.lookup, run_underlying ht, MapKept.run_getObj_map (show W.heap[m]? = some (.map _ _) from hm), T.keyed.check W _ hl, h1, Result.andThen, hin, ev]

/-- The keys behind a store. -/
def addK [DecidableEq K] (ks : List K) (k : K) : List K := if k ∈ ks then ks else ks ++ [k]
theorem addK_nodup [DecidableEq K] (hd : ks.Nodup) (k : K) : (addK ks k).Nodup := by
  unfold addK
  split
  · exact hd
  · rename_i h
    rw [List.nodup_append]
    exact ⟨hd, by simp, fun x hx y hy e => by simp at hy; subst hy; subst e; exact h hx⟩
theorem mem_addK [DecidableEq K] {k j : K} : j ∈ addK ks k ↔ j ∈ ks ∨ j = k := by
  unfold addK
  split
  · rename_i h
    exact ⟨.inl, fun h' => h'.elim id (fun e => e ▸ h)⟩
  · simp

theorem put_map [DecidableEq K] (T : KeyTold P kt kv ok) {t : TypeId} (ht : P.underlying t = some (.map kt et)) (hm : W.heap[m]? = some (mapO kv ks f)) (hd : ks.Nodup) (hks : ∀ k, k ∈ ks → ok k) {k : K} (hk : ok k) (v : Value) :
    (Instr.mapUpdate t (.map (some m)) (kv k) v).run P W = .ok () (W.putObj m (mapO kv (addK ks k) (updK f k v))) := by
  obtain ⟨l, hl⟩ := T.told k hk
  have hes : ∀ e ∈ ents kv ks f, ∃ l, keyOf P kt e.key = some l := fun e he => by
    obtain ⟨k', i, hi, rfl⟩ := ents_mem he
    exact T.told k' (hks k' (List.mem_of_getElem? hi))
  have hm' : W.heap[m]? = some (.map (ents kv ks f).toArray ks.length) := hm
  rcases T.keyed.find W hl (ents kv ks f) hes with ⟨h1, h2⟩ | ⟨j, e0, h1, h2, h3⟩
  · have hn : k ∉ ks := fun h => by
      obtain ⟨i, hi⟩ := List.getElem?_of_mem h
      exact h2 _ (List.mem_of_getElem? (i := i) (by rw [ents_get, hi]; rfl)) rfl
    have e1 : mapO kv (addK ks k) (updK f k v) = .map ((ents kv ks f).toArray.push { key := kv k, val := v, born := ks.length }) (ks.length + 1) := by
      unfold mapO addK
      rw [if_neg hn, ← ents_push v hn]
      simp
    rw [e1]
    simp [Instr.mapUpdate, run_underlying ht, MapKept.run_getObj_map hm', T.keyed.check W false hl, h1, MapKept.run_setObj_map _ hm', Result.andThen, World.putObj]
  · rw [ents_get] at h2
    cases q : ks[j]? with
    | none => simp [q] at h2
    | some k' =>
      rw [q] at h2; simp at h2
      have ek : k' = k := T.inj (by rw [← h3, ← h2])
      subst ek
      have hin := List.mem_of_getElem? q
      have hj : (ents kv ks f)[j]? = some e0 := by rw [ents_get, q]; simp [← h2]
      have e1 : mapO kv (addK ks k') (updK f k' v) = .map ((ents kv ks f).toArray.modify j (fun e => { e with key := kv k', val := v })) ks.length := by
        unfold mapO addK
        rw [if_pos hin, ← ents_modify v hd q (fun e => { e with key := kv k', val := v }) (fun _ _ => rfl)]
        congr 1
        apply Array.toList_inj.1
        simp
      rw [e1]
      simp [Instr.mapUpdate, run_underlying ht, MapKept.run_getObj_map hm', T.keyed.check W false hl, h1, hj, h3, T.keyed.stays W hl, MapKept.run_setObj_map _ hm', Result.andThen, World.putObj]
end
end Go.Proofs.YtcdpdcjdjcbhcaaDoor

/-
  PLAIN: sets of goats as numbers of 16 bits; names; valid herds, as the document has them and as the program finds them.
-/
namespace Go.Proofs.YtcdpdcjdjcbhcaaDoor
open Go Go.RowKit

/-- The bits of a set, ascending. -/
def bitsL (s : Nat) : List Nat := (List.range 16).filter fun k => s.testBit k
/-- The least bit of a set. -/
def tz (s : Nat) : Nat := Go.Lib.ctz 16 s
theorem mem_bitsL {s k : Nat} (h : s < 65536) : k ∈ bitsL s ↔ s.testBit k = true := by
  simp only [bitsL, List.mem_filter, List.mem_range, and_iff_right_iff_imp]
  intro hk
  refine Nat.lt_of_not_le fun hge => ?_
  have : s < 2 ^ k := Nat.lt_of_lt_of_le h (Nat.pow_le_pow_right (by decide) hge : 2 ^ 16 ≤ 2 ^ k)
  rw [Nat.testBit_lt_two_pow this] at hk
  exact absurd hk (by decide)
theorem bit_lt {s k n : Nat} (h : s < 2 ^ n) (hk : s.testBit k = true) : k < n := by
  refine Nat.lt_of_not_le fun hge => ?_
  have : s < 2 ^ k := Nat.lt_of_lt_of_le h (Nat.pow_le_pow_right (by decide) hge)
  rw [Nat.testBit_lt_two_pow this] at hk
  exact absurd hk (by decide)
theorem tz_spec {s : Nat} (h : s < 65536) (h0 : s ≠ 0) : tz s < 16 ∧ s.testBit (tz s) = true ∧ ∀ j, j < tz s → s.testBit j = false := by
  obtain ⟨m, hm, hk⟩ := Go.Lib.ctzFrom_spec 16 s (by omega) h
  have e : tz s = Go.Lib.ctzFrom 16 s := by simp [tz, Go.Lib.ctz, h0]
  rw [e]
  generalize Go.Lib.ctzFrom 16 s = k at hm hk ⊢
  subst hm
  refine ⟨hk, ?_, fun j hj => ?_⟩
  · rw [Nat.mul_comm, Nat.testBit_mul_two_pow]; simp [Nat.testBit_zero]
  · rw [Nat.mul_comm, Nat.testBit_mul_two_pow]; simp; omega
/-- A set without one of its bits. -/
def less (s k : Nat) : Nat := s &&& (65535 ^^^ 2 ^ k)
theorem less_bit {s k : Nat} (h : s < 65536) (j : Nat) : (less s k).testBit j = (s.testBit j && decide (j ≠ k)) := by
  unfold less
  rw [Nat.testBit_and, Nat.testBit_xor, show (65535 : Nat) = 2 ^ 16 - 1 by rfl, Nat.testBit_two_pow_sub_one, Nat.testBit_two_pow]
  by_cases hj : s.testBit j = true
  · have := bit_lt (n := 16) h hj
    by_cases e : k = j
    · subst e; simp [this]
    · have e' : ¬ j = k := fun h => e h.symm
      simp [this, e, e']
  · simp at hj; simp [hj]
theorem less_lt {s k : Nat} (h : s < 65536) : less s k < 65536 := Nat.lt_of_le_of_lt Nat.and_le_left h
theorem bitsL_cons {s : Nat} (h : s < 65536) (h0 : s ≠ 0) : bitsL s = tz s :: bitsL (less s (tz s)) := by
  obtain ⟨h1, h2, h3⟩ := tz_spec h h0
  generalize tz s = t at h1 h2 h3 ⊢
  have hr : List.range 16 = List.range t ++ t :: (List.range (15 - t)).map (t + 1 + ·) := by
    rw [show 16 = (t + 1) + (15 - t) by omega, List.range_add, List.range_succ]
    simp
  unfold bitsL
  rw [hr]
  simp only [List.filter_append, List.filter_cons, less_bit h, h2, Bool.true_and]
  have e1 : (List.range t).filter (fun k => s.testBit k) = [] := by
    rw [List.filter_eq_nil_iff]; intro a ha; simp [h3 a (by simpa using ha)]
  have e2 : (List.range t).filter (fun k => s.testBit k && decide (k ≠ t)) = [] := by
    rw [List.filter_eq_nil_iff]; intro a ha; simp [h3 a (by simpa using ha)]
  rw [e1, e2]
  simp
  apply List.filter_congr
  intro a ha
  simp at ha
  obtain ⟨b, _, rfl⟩ := ha
  have : ¬ t + 1 + b = t := by omega
  simp [this]
theorem bitsL_zero : bitsL 0 = [] := by simp [bitsL]
theorem bitsL_len (s : Nat) : (bitsL s).length ≤ 16 := by
  have := List.length_filter_le (fun k => s.testBit k) (List.range 16)
  simpa [bitsL] using this

/-! ### Names -/
def byteAt (s : ByteArray) (i : Nat) : Nat := ((s[i]?).map (·.toNat)).getD 0
/-- Are the first k bytes letters? -/
def nameU (s : ByteArray) : Nat → Bool
  | 0 => true
  | k + 1 => nameU s k && decide (97 ≤ byteAt s k ∧ byteAt s k ≤ 122)
def nameB (s : ByteArray) : Bool := decide (1 ≤ s.size ∧ s.size ≤ 8) && nameU s s.size
theorem nameU_iff {s : ByteArray} : ∀ {n : Nat}, nameU s n = true ↔ ∀ k, k < n → 97 ≤ byteAt s k ∧ byteAt s k ≤ 122
  | 0 => by simp [nameU]
  | n + 1 => by
    simp only [nameU, Bool.and_eq_true, decide_eq_true_eq, nameU_iff (n := n)]
    constructor
    · intro ⟨h1, h2⟩ k hk
      rcases Nat.lt_succ_iff_lt_or_eq.1 hk with h | rfl
      · exact h1 k h
      · exact h2
    · intro h
      exact ⟨fun k hk => h k (by omega), h n (by omega)⟩
theorem name_no {s : ByteArray} {k : Nat} (hk : k < s.size) (h : ¬ (97 ≤ byteAt s k ∧ byteAt s k ≤ 122)) : nameB s = false := by
  have : nameU s s.size = false := by
    cases e : nameU s s.size with
    | false => rfl
    | true => exact absurd (nameU_iff.1 e k hk) h
  simp [nameB, this]

/-! ### Herds -/
def foe (d : Hd) (i k : Nat) : Bool := (d.fs i).toNat.testBit k
/-- Is the goat i a goat apart from those before it? -/
def pairU (d : Hd) (i : Nat) : Nat → Bool
  | 0 => true
  | k + 1 => pairU d i k && (decide (d.ss k ≠ d.ss i) && (foe d i k == foe d k i))
def goatB (d : Hd) (i : Nat) : Bool := nameB (d.ss i) && decide (0 ≤ d.es i ∧ d.es i ≤ 100) && decide (d.fs i < 2 ^ d.n1) && !foe d i i
def herdU (d : Hd) : Nat → Bool
  | 0 => true
  | i + 1 => herdU d i && (goatB d i && pairU d i i)
def herdB (d : Hd) : Bool := decide (d.n1 ≤ 14 ∧ d.n2 = d.n1 ∧ d.n3 = d.n1) && herdU d d.n1
theorem pairU_iff {d : Hd} {i : Nat} : ∀ {n : Nat}, pairU d i n = true ↔ ∀ k, k < n → d.ss k ≠ d.ss i ∧ foe d i k = foe d k i
  | 0 => by simp [pairU]
  | n + 1 => by
    simp only [pairU, Bool.and_eq_true, decide_eq_true_eq, beq_iff_eq, pairU_iff (n := n)]
    constructor
    · intro ⟨h1, h2⟩ k hk
      rcases Nat.lt_succ_iff_lt_or_eq.1 hk with h | rfl
      · exact h1 k h
      · exact h2
    · intro h
      exact ⟨fun k hk => h k (by omega), h n (by omega)⟩
theorem herdU_iff {d : Hd} : ∀ {n : Nat}, herdU d n = true ↔ ∀ i, i < n → goatB d i = true ∧ pairU d i i = true
  | 0 => by simp [herdU]
  | n + 1 => by
    simp only [herdU, Bool.and_eq_true, herdU_iff (n := n)]
    constructor
    · intro ⟨h1, h2⟩ k hk
      rcases Nat.lt_succ_iff_lt_or_eq.1 hk with h | rfl
      · exact h1 k h
      · exact h2
    · intro h
      exact ⟨fun k hk => h k (by omega), h n (by omega)⟩
theorem herd_no {d : Hd} {i : Nat} (hi : i < d.n1) (h : (goatB d i && pairU d i i) = false) : herdB d = false := by
  have : herdU d d.n1 = false := by
    cases e : herdU d d.n1 with
    | false => rfl
    | true => have := herdU_iff.1 e i hi; rw [this.1, this.2] at h; exact absurd h (by decide)
  simp [herdB, this]
theorem pair_no {d : Hd} {i k : Nat} (hk : k < i) (h : ¬ (d.ss k ≠ d.ss i ∧ foe d i k = foe d k i)) : pairU d i i = false := by
  cases e : pairU d i i with
  | false => rfl
  | true => exact absurd (pairU_iff.1 e k hk) h
structure HerdOk (d : Hd) : Prop where
  n : d.n1 ≤ 14
  l2 : d.n2 = d.n1
  l3 : d.n3 = d.n1
  name : ∀ i, i < d.n1 → nameB (d.ss i) = true
  eats : ∀ i, i < d.n1 → 0 ≤ d.es i ∧ d.es i ≤ 100
  foes : ∀ i, i < d.n1 → d.fs i < 2 ^ d.n1
  self : ∀ i, i < d.n1 → foe d i i = false
  apart : ∀ i k, i < d.n1 → k < d.n1 → d.ss i = d.ss k → i = k
  symm : ∀ i k, i < d.n1 → k < d.n1 → foe d i k = foe d k i
theorem herdB_iff {d : Hd} : herdB d = true ↔ HerdOk d := by
  simp only [herdB, Bool.and_eq_true, decide_eq_true_eq, herdU_iff, pairU_iff, goatB, Bool.not_eq_true']
  constructor
  · rintro ⟨⟨h1, h2, h3⟩, h⟩
    refine ⟨h1, h2, h3, fun i hi => (h i hi).1.1.1.1, fun i hi => (h i hi).1.1.1.2, fun i hi => (h i hi).1.1.2, fun i hi => (h i hi).1.2, fun i k hi hk e => ?_, fun i k hi hk => ?_⟩
    · rcases Nat.lt_trichotomy i k with l | l | l
      · exact absurd e ((h k hk).2 i l).1
      · exact l
      · exact absurd e.symm ((h i hi).2 k l).1
    · rcases Nat.lt_trichotomy i k with l | l | l
      · exact ((h k hk).2 i l).2.symm
      · rw [l]
      · exact ((h i hi).2 k l).2
  · intro h
    exact ⟨⟨h.n, h.l2, h.l3⟩, fun i hi => ⟨⟨⟨⟨h.name i hi, h.eats i hi⟩, h.foes i hi⟩, h.self i hi⟩, fun k hk => ⟨fun e => by have := h.apart k i (by omega) hi e; omega, h.symm i k hi (by omega)⟩⟩⟩

/-! ### The same, as the program finds it -/
/-- Is each foe of the first goats another goat of the herd, and a foe of its foes? -/
def mutB (d : Hd) (i : Nat) : Bool := decide (d.fs i < 2 ^ d.n1) && !foe d i i && (bitsL (d.fs i).toNat).all fun k => foe d k i
theorem mut_iff {d : Hd} (hf : ∀ i, i < d.n1 → 0 ≤ d.fs i ∧ d.fs i ≤ 65535) : (∀ i, i < d.n1 → mutB d i = true) ↔ (∀ i, i < d.n1 → d.fs i < 2 ^ d.n1) ∧ (∀ i, i < d.n1 → foe d i i = false) ∧ ∀ i k, i < d.n1 → k < d.n1 → foe d i k = foe d k i := by
  simp only [mutB, Bool.and_eq_true, decide_eq_true_eq, Bool.not_eq_true', List.all_eq_true]
  constructor
  · intro h
    refine ⟨fun i hi => (h i hi).1.1, fun i hi => (h i hi).1.2, fun i k hi hk => ?_⟩
    have key : ∀ i k, i < d.n1 → foe d i k = true → foe d k i = true := fun i k hi hik =>
      (h i hi).2 k ((mem_bitsL (by have := hf i hi; omega)).2 hik)
    cases e1 : foe d i k with
    | true => exact (key i k hi e1).symm
    | false =>
      cases e2 : foe d k i with
      | false => rfl
      | true => rw [key k i hk e2] at e1; exact absurd e1 (by decide)
  · rintro ⟨h1, h2, h3⟩ i hi
    refine ⟨⟨h1 i hi, h2 i hi⟩, fun k hk => ?_⟩
    have hk1 := (mem_bitsL (by have := hf i hi; omega)).1 hk
    have hk2 : k < d.n1 := bit_lt (n := d.n1) (by have := h1 i hi; have := hf i hi; rw [Int.toNat_lt (by omega)]; simpa using h1 i hi) hk1
    rw [← h3 i k hi hk2]; exact hk1
theorem addK_len {K : Type} [DecidableEq K] {ks : List K} {k : K} : (k ∈ ks → addK ks k = ks) ∧ (¬ k ∈ ks → (addK ks k).length = ks.length + 1) := by
  unfold addK
  exact ⟨fun h => by rw [if_pos h], fun h => by rw [if_neg h]; simp⟩
/-- The names that came with the first goats, each once. -/
def keysU (d : Hd) : Nat → List ByteArray
  | 0 => []
  | i + 1 => addK (keysU d i) (d.ss i)
theorem keysU_len (d : Hd) : ∀ n, (keysU d n).length ≤ n
  | 0 => Nat.le_refl _
  | n + 1 => by
    have := keysU_len d n
    have h := addK_len (ks := keysU d n) (k := d.ss n)
    show (addK (keysU d n) (d.ss n)).length ≤ n + 1
    by_cases hk : d.ss n ∈ keysU d n
    · rw [h.1 hk]; omega
    · rw [h.2 hk]; omega
theorem keysU_mem {d : Hd} {s : ByteArray} : ∀ {n}, s ∈ keysU d n ↔ ∃ i, i < n ∧ d.ss i = s
  | 0 => by simp [keysU]
  | n + 1 => by
    have ih := keysU_mem (d := d) (s := s) (n := n)
    have key : s ∈ keysU d (n + 1) ↔ s ∈ keysU d n ∨ s = d.ss n := mem_addK
    rw [key, ih]
    constructor
    · rintro (⟨i, hi, e⟩ | e)
      · exact ⟨i, by omega, e⟩
      · exact ⟨n, by omega, e.symm⟩
    · rintro ⟨i, hi, e⟩
      rcases Nat.lt_succ_iff_lt_or_eq.1 hi with h | rfl
      · exact .inl ⟨i, h, e⟩
      · exact .inr e.symm
theorem keysU_all {d : Hd} : ∀ {n}, (keysU d n).length = n ↔ ∀ i k, i < n → k < n → d.ss i = d.ss k → i = k
  | 0 => by simp [keysU]
  | n + 1 => by
    have hl := keysU_len d n
    have ih := keysU_all (d := d) (n := n)
    by_cases h : d.ss n ∈ keysU d n
    · have e : keysU d (n + 1) = keysU d n := addK_len.1 h
      rw [e]
      constructor
      · intro h'; omega
      · intro h'
        obtain ⟨i, hi, e⟩ := keysU_mem.1 h
        have := h' i n (by omega) (by omega) e
        omega
    · have el : (keysU d (n + 1)).length = (keysU d n).length + 1 := addK_len.2 h
      rw [el]
      constructor
      · intro h' i k hi hk e
        have h2 := ih.1 (by omega)
        rcases Nat.lt_succ_iff_lt_or_eq.1 hi with hi | rfl <;> rcases Nat.lt_succ_iff_lt_or_eq.1 hk with hk | rfl
        · exact h2 i k hi hk e
        · exact absurd (keysU_mem.2 ⟨i, hi, e⟩) h
        · exact absurd (keysU_mem.2 ⟨k, hk, e.symm⟩) h
        · rfl
      · intro h'
        have := ih.2 (fun i k hi hk e => h' i k (by omega) (by omega) e)
        omega
def toldB (d : Hd) (i : Nat) : Bool := nameB (d.ss i) && decide (0 ≤ d.es i ∧ d.es i ≤ 100)
/-- A herd is valid as the program finds it. -/
theorem herdB_impl {d : Hd} (hf : ∀ i, i < d.n3 → 0 ≤ d.fs i ∧ d.fs i ≤ 65535) (h1 : d.n1 ≤ 14) (h2 : d.n2 = d.n1) (h3 : d.n3 = d.n1) :
    herdB d = true ↔ (∀ i, i < d.n1 → toldB d i = true) ∧ (keysU d d.n1).length = d.n1 ∧ ∀ i, i < d.n1 → mutB d i = true := by
  rw [herdB_iff, mut_iff (fun i hi => hf i (by omega)), keysU_all]
  simp only [toldB, Bool.and_eq_true, decide_eq_true_eq]
  exact ⟨fun h => ⟨fun i hi => ⟨h.name i hi, h.eats i hi⟩, h.apart, h.foes, h.self, h.symm⟩, fun h => ⟨h1, h2, h3, fun i hi => (h.1 i hi).1, fun i hi => (h.1 i hi).2, h.2.2.1, h.2.2.2.1, h.2.1, h.2.2.2.2⟩⟩
end Go.Proofs.YtcdpdcjdjcbhcaaDoor

/-
  impl.codeOf by contract; what checkCells hands back.
-/
namespace Go.Proofs.YtcdpdcjdjcbhcaaDoor
open Go Go.RowKit Go.BigFrame

/-- The code of the k-th error. -/
def codeK (k : Nat) : Int :=
  match k with
  | 0 => 1
  | _ => 2

end Go.Proofs.YtcdpdcjdjcbhcaaDoor

/-
  PLAIN LAWS: slices of rows by value: a slice literal of one or two such elements is a new block.
-/
namespace Go.Proofs.YtcdpdcjdjcbhcaaDoor
open Go Go.RowKit

theorem fold_lay (f : Nat → Value) (off : Nat) : ∀ (m : Nat) (cs : Array Value), off + m ≤ cs.size →
    (((List.range m).map f).zipIdx.foldl (fun cs x => cs.setIfInBounds (off + x.2) x.1) cs).size = cs.size ∧
    ∀ k : Nat, (((List.range m).map f).zipIdx.foldl (fun cs x => cs.setIfInBounds (off + x.2) x.1) cs)[k]? = if off ≤ k ∧ k < off + m then some (f (k - off)) else cs[k]?
  | 0, cs, _ => by
    refine ⟨rfl, fun k => ?_⟩
    rw [if_neg (by omega)]; rfl
  | m + 1, cs, h => by
    obtain ⟨i1, i2⟩ := fold_lay f off m cs (by omega)
    rw [List.range_succ, List.map_append, List.zipIdx_append, List.foldl_append]
    simp only [List.map_cons, List.map_nil, List.length_map, List.length_range, Nat.zero_add, List.zipIdx_cons, List.zipIdx_nil, List.foldl_cons, List.foldl_nil]
    refine ⟨by rw [Array.size_setIfInBounds, i1], fun k => ?_⟩
    rw [Array.getElem?_setIfInBounds, i2 k, i1]
    by_cases h1 : off + m = k
    · subst h1
      simp [show off + m < cs.size by omega]
    · simp only [h1, if_false]
      by_cases h2 : off ≤ k ∧ k < off + m
      · rw [if_pos h2, if_pos (by omega)]
      · rw [if_neg h2, if_neg (by omega)]

theorem fill_one {place : Nat → Option (Nat × Nat)} {cs : Array Value} {i off m : Nat} {f : Nat → Value} (hp : place i = some (off, m)) (hle : off + m ≤ cs.size) (rest : List (Nat × Value)) :
    ∃ cs', Instr.fill place cs ((i, .agg (arr m f)) :: rest) = Instr.fill place cs' rest ∧ cs'.size = cs.size ∧ ∀ k : Nat, cs'[k]? = if off ≤ k ∧ k < off + m then some (f (k - off)) else cs[k]? := by
  refine ⟨_, ?_, (fold_lay f off m cs hle).1, (fold_lay f off m cs hle).2⟩
  rw [Instr.fill, hp]
  have e1 : (decide ((Value.agg (arr m f)).cells.size ≠ m) || decide (off + (Value.agg (arr m f)).cells.size > cs.size)) = false := by
    simp [Value.cells, arr_size]; omega
  simp only [Value.cells] at e1 ⊢
  rw [← Array.foldl_toList, Array.toList_zipIdx, arr_toList]
  simp only [arr_size, ne_eq, not_true_eq_false, gt_iff_lt, show ¬ cs.size < off + m by omega, decide_false, Bool.or_self, Bool.false_eq_true, or_self, if_false]

variable {P : Program} {ops : Array Oper} {rest : List Oper} {o : Oper} {a : Act} {w : Base} {W : World} {Q : Exit → Act → World → Prop} {L : Blocks}
/-- A slice literal of one element that is a row of m cells: a new block. -/
theorem wpList_slice1 (hgd : o.guard = none) (t e : TypeId) (x : Operand) (ho : o.op = .buildSlice t 1 #[(0, x)]) (m : Nat) (f : Nat → Value) (hx : a.eval x = .agg (arr m f)) (z : Value)
    (hu : P.underlying t = some (.slice e)) (hz : (P.info? e).map (fun i => (i.size, i.zero)) = some (m, some z)) (hm : 0 < m) (hm' : m ≤ 1000) (hM : Mem w L W)
    (h : ∀ b W', w.B ≤ b → Mem w ((b, m, f) :: L) W' → wpList P ops Q rest (a.put o.dst (.slice (some ⟨b, 0, none⟩) 1 1)) W') : wpList P ops Q (o :: rest) a W := by
  obtain ⟨ie, hie, hq⟩ := Option.map_eq_some_iff.1 hz
  simp only [Prod.mk.injEq] at hq
  refine wpList_buildSlice hgd t e 1 _ ho (arr m f) ie z hu hie hq.2 (by rw [hq.1]; omega) (by rw [hq.1]; omega) ?_ (h _ _ hM.size (hM.alloc e m f))
  rw [hq.1]
  rw [show (Array.map (fun x => match x with | (i, x) => (i, a.eval x)) #[(0, x)]).toList = [(0, Value.agg (arr m f))] by simp [hx]]
  obtain ⟨cs, h1, h2, h3⟩ := fill_one (f := f) (place := fun i => some (i * m, m)) (i := 0) (off := 0 * m) (m := m) rfl (cs := (Array.range (1 * m)).map (z.cells[· % z.cells.size]!)) (by simp) []
  rw [h1, Instr.fill]
  refine congrArg some (arr_ext (by rw [h2]; simp) (fun k hk => ?_))
  rw [h3, if_pos (by omega)]; simp
/-- A slice literal of two such elements. -/
theorem wpList_slice2 (hgd : o.guard = none) (t e : TypeId) (x y : Operand) (ho : o.op = .buildSlice t 2 #[(0, x), (1, y)]) (m : Nat) (f g : Nat → Value) (hx : a.eval x = .agg (arr m f)) (hy : a.eval y = .agg (arr m g)) (z : Value)
    (hu : P.underlying t = some (.slice e)) (hz : (P.info? e).map (fun i => (i.size, i.zero)) = some (m, some z)) (hm : 0 < m) (hm' : m ≤ 1000) (hM : Mem w L W)
    (h : ∀ b W', w.B ≤ b → Mem w ((b, 2 * m, fun k => if k < m then f k else g (k - m)) :: L) W' → wpList P ops Q rest (a.put o.dst (.slice (some ⟨b, 0, none⟩) 2 2)) W') : wpList P ops Q (o :: rest) a W := by
  obtain ⟨ie, hie, hq⟩ := Option.map_eq_some_iff.1 hz
  simp only [Prod.mk.injEq] at hq
  refine wpList_buildSlice hgd t e 2 _ ho (arr (2 * m) fun k => if k < m then f k else g (k - m)) ie z hu hie hq.2 (by rw [hq.1]; omega) (by rw [hq.1]; omega) ?_ (h _ _ hM.size (hM.alloc e (2 * m) _))
  rw [hq.1]
  rw [show (Array.map (fun x => match x with | (i, x) => (i, a.eval x)) #[(0, x), (1, y)]).toList = [(0, Value.agg (arr m f)), (1, Value.agg (arr m g))] by simp [hx, hy]]
  obtain ⟨cs, h1, h2, h3⟩ := fill_one (f := f) (place := fun i => some (i * m, m)) (i := 0) (off := 0 * m) (m := m) rfl (cs := (Array.range (2 * m)).map (z.cells[· % z.cells.size]!)) (by simp; omega) [(1, Value.agg (arr m g))]
  rw [h1]
  have hs : cs.size = 2 * m := by rw [h2]; simp
  obtain ⟨ds, g1, g2, g3⟩ := fill_one (f := g) (place := fun i => some (i * m, m)) (i := 1) (off := 1 * m) (m := m) rfl (cs := cs) (by omega) []
  rw [g1, Instr.fill]
  refine congrArg some (arr_ext (by rw [g2, hs]) (fun k hk => ?_))
  rw [g3]
  by_cases hk2 : k < m
  · rw [if_neg (by omega), h3, if_pos (by omega)]; simp [hk2]
  · rw [if_pos (by omega)]; simp [hk2]
end Go.Proofs.YtcdpdcjdjcbhcaaDoor

