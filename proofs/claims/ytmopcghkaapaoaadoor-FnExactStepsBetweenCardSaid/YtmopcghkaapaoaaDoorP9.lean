/-
  Several texts in one: SeqL, Beside, StepsMath, MapB, MapOp, SpotKey, Marks, RangeM.
-/
import Derived.Test.YtmopcghkaapaoaaDoorP7
import Derived.Test.YtmopcghkaapaoaaDoorP8
import Derived.Test.YtmopcghkaapaoaaDoorP1
import Derived.Test.YtmopcghkaapaoaaDoorP3
import Derived.RangeFuncRecord
import Derived.Maps.Own
import Derived.DeepKeys4
/-
  slices.AppendSeq and slices.Collect over any iterator of spots, by contract.
-/
namespace Go.Proofs.YtmopcghkaapaoaaDoor
open Go Go.RowKit Go.Shelf Go.BigFrame

set_option maxRecDepth 100000 in
set_option maxHeartbeats 2000000 in
/-- slices.AppendSeq of nothing and an iterator of spots, told by its contract. -/
theorem appendSeq_any {α : Type} (px py : α → Int) {gf : Nat} {lb : Array Value} {S Sp : List α → Prop} {N : Nat} (K : Blocks) (eg : ∀ args w, (callFunc gf args).run Tryd.prog w = .ok (.enter gf args) w) (hN : N ≤ 1048576) (l : List (Int × Int)) (hS : ∀ xs, S xs → xs.map (fun c => (px c, py c)) = l)
    (w : World) (hA : Mem w K w) (hseq : ∀ W1, (∀ e ∈ K, At W1 e.1 e.2.1 e.2.2) → SeqStopsK Fence.wide 2 Tryd.prog gf lb (fun x => #[.agg (arr 2 (sp (px x) (py x)))]) (KpL K) S Sp N W1) :
    Calls Tryd.prog 136 #[.slice none 0 0, .func (.func gf) #[] lb] w (GivesL w l) := by
  have hM := hA
  have Hq := Lib.hid hseq
  have HN := Lib.hid hN
  have HS := Lib.hid hS
  clear hA hseq hN hS
  refine (callsIn_wide (n := 3)).1 ?_
  refine callsIn_of_wp_marks Tryd.func136 rfl trivial ?_ rfl
  simp only [Tryd.ntmps136, List.size_toArray, List.length_cons, List.length_nil, Nat.reduceAdd, Nat.reduceSub, Array.replicate_succ, Array.replicate_zero, List.push_toArray, List.append_toArray, List.nil_append, List.cons_append]
  refine wpIn_wide.2 ?_
  have tk_b2 : True := trivial
  go_wp2_with (first | (have _t := tk_b2; refine wpList_box1 rfl _ _ rfl _ rfl rfl hM ?_; intro b2 W' hb2 hM'; clear hM tk_b2; have hM := hM'; clear hM'))
  have ats : ∀ {b : Base} {X : World}, Mem b K X → ∀ e ∈ K, At X e.1 e.2.1 e.2.2 := fun h e he => by
    obtain ⟨i, hi⟩ := List.getElem?_of_mem he
    exact h.ats i _ _ _ hi
  refine (wpIn_wide (n := 3)).1 ?_
  refine range_rel (α := α) (px := px) (py := py) (gf := gf) (lb := lb)
    (fun pre => VarL w.heap.size b2 K 2 (pre.map fun c => (px c, py c)).length (sps (sI (pre.map fun c => (px c, py c))))) ((b2, 1, fun _ => .slice none 0 0) :: K)
    rfl eg (Hq.out _ (ats hM.drop)) (fun {A B C} h k => kpL_t h k) (fun X l o o' h ho => kpL_b X l o o' h ho)
    (fun _ _ _ _ _ _ _ h h' hm hm' => varL_det h h' hm hm') (fun _ _ _ _ _ _ _ _ h' _ hm' e he _ => ats (varL_mem h' hm') e he) rfl rfl rfl rfl rfl rfl (by decide) (by simp) (by simp) (.inl ⟨rfl, rfl⟩) hM ?body ?done
  case body =>
    intro l pre x bx X Bs hbx hI hM2 hlen
    clear hM
    have hM := hM2
    clear hM2
    have hl : (pre.map fun c => (px c, py c)).length ≤ 1048576 := by
      have := HN.out
      simp only [List.length_map]; omega
    have Hy : Hid ((pre ++ [x]).map (fun c => (px c, py c)) = pre.map (fun c => (px c, py c)) ++ [(px x, py x)]) := Lib.hid (by simp)
    generalize hu : px x = u at *
    generalize hv : py x = v at *
    generalize hp : pre.map (fun c => (px c, py c)) = p at *
    rcases hI with ⟨hn, rfl⟩ | ⟨b, c, F, hb, hnc, hF, rfl⟩
    · have Hq2 : Hid (∀ q, q < 2 → sp u v (0 + q) = sps (sI (p ++ [(u, v)])) q) := Lib.hid (fun q hq => by have := spsI_new p u v hq; rw [hn, Nat.zero_mul, Nat.zero_add] at this; rw [Nat.zero_add]; exact this)
      refine wpIn_block (region_round (fun ⟨_, _, h⟩ => h) rfl ?_)
      have tk_r3 : True := trivial; have tk_r4 : True := trivial; have tk_b3 : True := trivial; have tk_p1 : True := trivial
      go_wp2_with (first | (have _t := tk_r3; (refine wpList_get1 rfl _ _ rfl _ _ rfl hM 1 rfl spots_cell (by omega) _ rfl ?_); clear tk_r3) | (have _t := tk_r4; (refine wpList_get rfl _ _ rfl _ _ rfl hM 0 rfl (rowTab _ _ rfl) (by omega) ?_); clear tk_r4) | (have _t := tk_b3; refine wpList_slice1 rfl _ _ _ rfl _ _ rfl _ spot_under spot_info (by omega) (by omega) hM ?_; intro b3 W' hb3 hM'; clear hM tk_b3; have hM := hM'; clear hM') | (have _t := tk_p1; refine wpList_push0 rfl _ _ _ rfl _ 2 _ _ spot_under spot_infoB rfl (by omega) rfl _ _ rfl hM (sps (sI (p ++ [(u, v)]))) Hq2.out ?_; intro bL cL FL W' hbL hcL hFL hM'; clear hM tk_p1; have hM := hM'; clear hM') | (refine wpList_set1 rfl _ _ _ rfl _ _ rfl _ rfl rfl hM 2 rfl (by assumption) spots_cell (by omega) ?_; intro W' hM'; clear hM; have hM := hM'; clear hM'; simp [List.set, Act.eval] at hM))
      show ∃ Bs, _ ∧ Mem _ Bs _
      have hM' := hM.re 2 rfl (fun _ => .slice (some ⟨bL, 0, none⟩) 1 cL) (fun k hk => by
        obtain rfl : k = 0 := by omega
        rfl)
      simp only [List.set] at hM'
      refine ⟨_, ?_, hM'.skip⟩
      simp only [Hy.out, List.length_append, hn]
      exact .inr ⟨bL, cL, FL, hbL, hcL, hFL, rfl⟩
    · have hM' := hM.swap
      clear hM
      have hM := hM'
      clear hM'
      have Hq2 : Hid (∀ q, q < 2 → sp u v (0 + q) = sps (sI (p ++ [(u, v)])) (p.length * 2 + q)) := Lib.hid (fun q hq => by rw [Nat.zero_add]; exact spsI_new p u v hq)
      have Hf : Hid (∀ q, q < p.length * 2 → F q = sps (sI (p ++ [(u, v)])) q) := Lib.hid (fun q hq => by rw [hF q hq]; exact spsI_old _ hq)
      clear hF
      refine wpIn_block (region_round (fun ⟨_, _, h⟩ => h) rfl ?_)
      have tk_r3 : True := trivial; have tk_r4 : True := trivial; have tk_b3 : True := trivial; have tk_p1 : True := trivial
      go_wp2_with (first | (have _t := tk_r3; (refine wpList_get1 rfl _ _ rfl _ _ rfl hM 2 rfl spots_cell (by omega) _ rfl ?_); clear tk_r3) | (have _t := tk_r4; (refine wpList_get rfl _ _ rfl _ _ rfl hM 1 rfl (rowTab _ _ rfl) (by omega) ?_); clear tk_r4) | (have _t := tk_b3; refine wpList_slice1 rfl _ _ _ rfl _ _ rfl _ spot_under spot_info (by omega) (by omega) hM ?_; intro b3 W' hb3 hM'; clear hM tk_b3; have hM := hM'; clear hM') | (have _t := tk_p1; refine wpList_push1 rfl _ _ _ rfl _ 2 _ _ spot_under spot_infoB rfl (by omega) _ _ _ _ rfl hb hnc hl _ _ rfl sp_one0 hM (sps (sI (p ++ [(u, v)]))) Hf.out Hq2.out ?_; intro bL cL FL W' hbL hcL hFL hM'; clear hM tk_p1; have hM := hM'; clear hM') | (refine wpList_set1 rfl _ _ _ rfl _ _ rfl _ rfl rfl hM 2 rfl (by assumption) spots_cell (by omega) ?_; intro W' hM'; clear hM; have hM := hM'; clear hM'; simp [List.set, Act.eval] at hM))
      show ∃ Bs, _ ∧ Mem _ Bs _
      have hM' := hM.re 2 rfl (fun _ => .slice (some ⟨bL, 0, none⟩) (p.length + 1) cL) (fun k hk => by
        obtain rfl : k = 0 := by omega
        rfl)
      simp only [List.set] at hM'
      refine ⟨_, ?_, hM'.skip⟩
      simp only [Hy.out, List.length_append]
      exact .inr ⟨bL, cL, FL, hbL, hcL, hFL, rfl⟩
  case done =>
    rename_i K7 hK7
    intro D xs X Bs hD hxs hI hM2 hK
    have hsz : w.heap.size ≤ W'.heap.size := hM.size
    clear hM
    rw [HS.out xs hxs] at hI
    have hM : Mem (Base.round w W'.heap.size X) Bs X := hM2.base ⟨hM2.below, KeepsFrom.refl _ _⟩
    clear hM2
    show K7 _ _
    refine hK7 _ _ ?_
    dsimp only
    rcases hI with ⟨hn, rfl⟩ | ⟨b, c, F, hb, hnc, hF, rfl⟩
    · go_wp2_with (first | (refine wpList_get1 rfl _ _ rfl _ _ rfl hM 0 rfl spots_cell (by omega) _ rfl ?_))
      have hK' := hM.good.2.same D _ hD hK rfl
      refine leave_marks hK' _ (results_tmp rfl _ _ _) ?_
      exact ⟨_, rfl, .inl ⟨rfl, hn, Mem.start (below_mark hM.good.1 (Nat.le_trans hsz hD))⟩⟩
    · go_wp2_with (first | (refine wpList_get1 rfl _ _ rfl _ _ rfl hM 1 rfl spots_cell (by omega) _ rfl ?_))
      have hK' := hM.good.2.same D _ hD hK rfl
      refine leave_marks hK' _ (results_tmp rfl _ _ _) ?_
      refine ⟨_, rfl, .inr ⟨b, c, F, rfl, hb, hnc, hF, ?_⟩⟩
      exact (Mem.start (w := Base.of w) (below_mark hM.good.1 (Nat.le_trans hsz hD))).old (at_mark hM.at0 hK') (fun i p h => by simp at h)
theorem collect_any {gf : Nat} {lb : Array Value} {l : List (Int × Int)} (w : World) (h : Calls Tryd.prog 136 #[.slice none 0 0, .func (.func gf) #[] lb] w (GivesL w l)) :
    Calls Tryd.prog 128 #[.func (.func gf) #[] lb] w (GivesL w l) := by
  have H := Lib.hid h
  clear h
  go_enter Tryd.func128, Tryd.ntmps128
  go_wp2_with (first | (go_at_call 136; refine H.out.mono ?_; rintro e W' ⟨v0, rfl, hL0⟩))
  go_ret
  exact ⟨_, rfl, hL0⟩

end Go.Proofs.YtmopcghkaapaoaaDoor

/-
  (impl.Pasture).beside and its iterator, slices.AppendSeq, slices.Collect by contracts.
-/
namespace Go.Proofs.YtmopcghkaapaoaaDoor
open Go Go.RowKit Go.Shelf Go.BigFrame
attribute [local go_sem] Oper.semAt_some

section
variable {P : Program} {ops : Array Oper} {rest : List Oper} {o : Oper} {a : Act} {W : World} {Q : Exit → Act → World → Prop} {K : Act → World → Prop} {n : Nat}
theorem oper_wide (hd : noDefer o = true) (h : o.wp P a W K Q) : o.wpIn Fence.wide n P a W K Q := by
  unfold Oper.wp at h
  unfold Oper.wpIn
  refine ⟨fun _ _ => trivial, ?_⟩
  rw [Oper.semAt_eq _ _ _ (noDefer_spec hd)]
  generalize (execOp a.eval o).run P W = r at *
  cases r with
  | ok x w' =>
    cases x <;> simp only [Oper.upon] at h <;> simp only [Oper.uponIn]
    case value => exact h
    case skip => exact h
    case defer => exact h
    case enter => exact ⟨fun h => by simp [Fence.wide] at h, callsIn_wide.2 h⟩
    case row => exact ⟨fun h => by simp [Fence.wide] at h, fun c cs _ => let ⟨v, w', r, s⟩ := h c cs; ⟨v, w', r, stepsIn_wide.2 s⟩⟩
  | halt x w' => cases x <;> simp only [Oper.upon] at h <;> simp only [Oper.uponIn] <;> exact h
/-- A part by value, inside a fence. -/
theorem wpListIn_getA (hgd : o.guard = none) (ty : TypeId) (x : Operand) (ho : o.op = .load ty x) (b off : Nat) (hx : a.eval x = .pointer (some ⟨b, off, none⟩))
    {N m : Nat} {f : Nat → Value} (hA : At W b N f) (hT : RowT P ty m) (hle : off + m ≤ N)
    (h : wpListIn Fence.wide n P ops Q rest (a.put o.dst (.agg (arr m (fun k => f (off + k))))) W) : wpListIn Fence.wide n P ops Q (o :: rest) a W := by
  obtain ⟨⟨d, hu, hd⟩, hm⟩ := hT
  obtain ⟨t, ht⟩ := hA
  have hr : W.rangeAt b off (arr m (fun k => f (off + k))).toList := by
    rw [← arr_extract hle]; exact World.rangeAt_of_block ht off m
  refine wpListIn_plain hgd fun K hK => oper_wide (by simp [noDefer, ho]) ?_
  exact wp_load_mid ty x ho b off hx (arr m (fun k => f (off + k))).toList d hr hu hd (by rw [hm]; simp [arr_size]) (hK _ _ (by simpa using h))
end

/-- The open ones of the first i sides. -/
def openL (g : Nat → Int) (x y : Int) (i : Nat) : List Nat := (List.range i).filter fun k => !closedB g k x y
theorem openL_yes {g : Nat → Int} {x y : Int} {k : Nat} (h : closedB g k x y = false) : openL g x y k ++ [k] = openL g x y (k + 1) := by simp [openL, List.range_succ, List.filter_append, h]
theorem openL_no {g : Nat → Int} {x y : Int} {k : Nat} (h : closedB g k x y = true) : openL g x y k = openL g x y (k + 1) := by simp [openL, List.range_succ, List.filter_append, h]
theorem openL_len {g : Nat → Int} {x y : Int} {i : Nat} : (openL g x y i).length ≤ i := Nat.le_trans (List.length_filter_le _ _) (by simp)

abbrev besK (bp bs : Nat) (g : Nat → Int) (x y : Int) : Blocks := [(bp, 122, pas g), (bs, 2, sp x y)]
def BesIt (J : List Nat → World → Prop) (bp bs : Nat) (g : Nat → Int) (x y : Int) (i : Value) (wr : World) : Prop :=
  ∃ k : Nat, k ≤ 4 ∧ i = .int .i64 k ∧ ∃ pre, pre = openL g x y k ∧ J pre wr ∧ At wr bp 122 (pas g) ∧ At wr bs 2 (sp x y)
theorem abides_below {α : Type} {B : Nat} {J : α → World → Prop} (hJ : AbidesFrom B J) {s : α} {A C : World} (h : J s A) (hb : Below A.heap.size A C) : J s C :=
  hJ s A C none h ⟨hb.os, hb.tape, hb.output, hb.size, fun k hk _ => hb.block k hk⟩ (fun r e => by cases e)

set_option maxRecDepth 100000 in
set_option maxHeartbeats 1000000 in
theorem beside1_in (nn : Nat) (hnn : 1 ≤ nn) (l bp bs : Nat) (g : Nat → Int) (hg : Fits g) (ho : okB g = true) (x y : Int) (hx : 0 ≤ x ∧ x ≤ 9) (hy : 0 ≤ y ∧ y ≤ 9) (B : Nat)
    (J Jx : List Nat → World → Prop) (hJa : AbidesFrom B J)
    (hY : ∀ pre k W1, k < 4 → closedB g k x y = false → J pre W1 → pre.length < 4 → YieldAt Fence.wide (nn - 1) Tryd.prog l #[.agg (arr 2 (sp (nxX k x) (nxY k y)))] W1 fun e W' =>
      (e = .returned (.bool true) ∧ J (pre ++ [k]) W' ∧ KpL (besK bp bs g x y) W1 W') ∨ (e = .returned (.bool false) ∧ Jx (pre ++ [k]) W'))
    (w : World) (hA : At w bp 122 (pas g)) (hB : At w bs 2 (sp x y)) (h0 : J [] w) :
    CallsIn Fence.wide nn Tryd.prog 122 #[.func (.yield l) #[] #[], .pointer (some ⟨bp, 0, none⟩), .pointer (some ⟨bs, 0, none⟩)] w fun e W' => (∃ v, e = .returned v) ∧
      ((∃ xs : List Nat, xs = openL g x y 4 ∧ J xs W') ∨ (∃ pre : List Nat, (∃ i, i ≤ 4 ∧ pre = openL g x y i) ∧ Jx pre W')) := by
  refine callsIn_of_wp Tryd.func122 rfl trivial ?_ rfl
  simp only [Tryd.ntmps122, List.size_toArray, List.length_cons, List.length_nil, Nat.reduceAdd, Nat.reduceSub, Array.replicate_succ, Array.replicate_zero, List.push_toArray, List.append_toArray, List.nil_append, List.cons_append]
  have fw : ∀ f, Fence.wide.fn f := fun _ => trivial
  have HJ := Lib.hid hJa
  have Ho := Lib.hid ho
  have Hx := Lib.hid hx
  have Hy := Lib.hid hy
  clear hJa ho hx hy
  gi_wp2_with (first | (with_reducible refine And.intro (fw _) ?_) | (gi_at_call 79; refine (callsIn_wide.2 (overSides_lit _)).mono ?_; rintro e W' ⟨rfl, hb⟩; have h0' := abides_below HJ.out h0 hb; have hA' := hA.below hb hA.lt; have hB' := hB.below hb hB.lt; clear hb h0 hA hB))
  gi_loopw [7] (fun i wr => BesIt J bp bs g x y i wr) (fun i _ => 4 - (intOf i).toNat)
  case atStart => exact ⟨0, by omega, rfl, [], rfl, h0', hA', hB'⟩
  case round =>
    clear h0' hA' hB'
    obtain ⟨k, hk, rfl, pre, hpre, hJ, hAr, hBr⟩ := hrel
    by_cases hlt : k < 4
    · have l2 : (k : Int) < 4 := by omega
      have hsp : #[Value.int .i8 x, Value.int .i8 y] = arr 2 (sp x y) := rfl
      have k0 : wr.cell? ⟨bs, 0, none⟩ = some (Value.int .i8 x) := hBr.cell (show 0 < 2 by omega)
      have k1 : wr.cell? ⟨bs, 1, none⟩ = some (Value.int .i8 y) := hBr.cell (show 1 < 2 by omega)
      have hlen : pre.length < 4 := by have := openL_len (g := g) (x := x) (y := y) (i := k); rw [hpre]; omega
      cases hc : closedB g k x y
      · have Hc := Lib.hid hc
        have Hp : Hid (pre ++ [k] = openL g x y (k + 1)) := Lib.hid (by rw [hpre]; exact openL_yes hc)
        have Hl := Lib.hid hlen
        clear hc hpre hlen
        have tk_t1 : True := trivial
        gi_wp2_with (first | (with_reducible refine And.intro (fw _) ?_) | (have _t := tk_t1; refine wpListIn_getA rfl _ _ rfl _ _ rfl hAr (rowTab _ _ rfl) (by omega) ?_; clear tk_t1) | (gi_at_call 123; refine (callsIn_wide.2 (isOpen_any g hg Ho.out k hlt x y Hx.out Hy.out _)).mono ?_; rintro e W' ⟨rfl, hb⟩; rw [Hc.out]; have hJ2 := abides_below HJ.out hJ hb; have hA2 := hAr.below hb hAr.lt; have hB2 := hBr.below hb hBr.lt; have k2 : W'.cell? ⟨bs, 0, none⟩ = some (Value.int .i8 x) := hB2.cell (show 0 < 2 by omega); have k3 : W'.cell? ⟨bs, 1, none⟩ = some (Value.int .i8 y) := hB2.cell (show 1 < 2 by omega); clear hb hJ hAr hBr k0 k1) | (gi_at_call 96; refine (callsIn_wide.2 (over_any k hlt x y Hx.out Hy.out _)).mono ?_; rintro e W' ⟨rfl, hb⟩; have hJ3 := abides_below HJ.out hJ2 hb; have hA3 := hA2.below hb hA2.lt; have hB3 := hB2.below hb hB2.lt; clear hb hJ2 hA2 hB2 k2 k3; obtain ⟨fn, tmps, assign, body, hy, hR⟩ := hY pre k _ hlt Hc.out hJ3 Hl.out))
        refine hR.mono ?_
        rintro e W3 (⟨rfl, hJ4, hk4⟩ | ⟨rfl, hJx4⟩)
        · gi_wp2
          go_roundw
          case rel => exact (⟨k + 1, by omega, by go_num, _, Hp.out, hJ4, hk4 (bp, 122, pas g) (by simp) hA3, hk4 (bs, 2, sp x y) (by simp) hB3⟩ : BesIt J bp bs g x y _ _)
          case measure => simp [intOf]; omega
        · gi_wp2
          refine bodyPost_ret (results_none rfl _ _ _) rfl ?_
          exact ⟨⟨_, rfl⟩, .inr ⟨_, ⟨k + 1, by omega, Hp.out⟩, hJx4⟩⟩
      · have Hc := Lib.hid hc
        have Hp : Hid (pre = openL g x y (k + 1)) := Lib.hid (by rw [hpre]; exact openL_no hc)
        clear hc hpre hlen
        have tk_t1 : True := trivial
        gi_wp2_with (first | (with_reducible refine And.intro (fw _) ?_) | (have _t := tk_t1; refine wpListIn_getA rfl _ _ rfl _ _ rfl hAr (rowTab _ _ rfl) (by omega) ?_; clear tk_t1) | (gi_at_call 123; refine (callsIn_wide.2 (isOpen_any g hg Ho.out k hlt x y Hx.out Hy.out _)).mono ?_; rintro e W' ⟨rfl, hb⟩; rw [Hc.out]; have hJ2 := abides_below HJ.out hJ hb; have hA2 := hAr.below hb hAr.lt; have hB2 := hBr.below hb hBr.lt; clear hb hJ hAr hBr k0 k1))
        go_roundw
        case rel => exact (⟨k + 1, by omega, by go_num, _, Hp.out, hJ2, hA2, hB2⟩ : BesIt J bp bs g x y _ _)
        case measure => simp [intOf]; omega
    · obtain rfl : k = 4 := by omega
      gi_wp2
      go_end0
      exact ⟨⟨_, rfl⟩, .inl ⟨pre, hpre, hJ⟩⟩

theorem beside1_stops (bp bs : Nat) (g : Nat → Int) (hg : Fits g) (ho : okB g = true) (x y : Int) (hx : 0 ≤ x ∧ x ≤ 9) (hy : 0 ≤ y ∧ y ≤ 9) (w : World) (hA : At w bp 122 (pas g)) (hB : At w bs 2 (sp x y)) :
    SeqStopsK Fence.wide 2 Tryd.prog 122 #[.pointer (some ⟨bp, 0, none⟩), .pointer (some ⟨bs, 0, none⟩)] (fun k : Nat => #[.agg (arr 2 (sp (nxX k x) (nxY k y)))]) (KpL (besK bp bs g x y)) (fun xs => xs = openL g x y 4) (fun pre => ∃ i, i ≤ 4 ∧ pre = openL g x y i) 4 w :=
  fun l J Jx W' hb hJa _ hY h0 => beside1_in 2 (by omega) l bp bs g hg ho x y hx hy _ J Jx hJa (fun pre k W1 _ _ => hY pre k W1) W' (hA.below hb hA.lt) (hB.below hb hB.lt) h0

/-- The open sides of a cell. -/
abbrev OpenS (g : Nat → Int) (x y : Int) := {k : Nat // k < 4 ∧ closedB g k x y = false}
theorem beside1_stopsT (bp bs : Nat) (g : Nat → Int) (hg : Fits g) (ho : okB g = true) (x y : Int) (hx : 0 ≤ x ∧ x ≤ 9) (hy : 0 ≤ y ∧ y ≤ 9) (w : World) (hA : At w bp 122 (pas g)) (hB : At w bs 2 (sp x y)) :
    SeqStopsK Fence.wide 2 Tryd.prog 122 #[.pointer (some ⟨bp, 0, none⟩), .pointer (some ⟨bs, 0, none⟩)] (fun k : OpenS g x y => #[.agg (arr 2 (sp (nxX k.1 x) (nxY k.1 y)))]) (KpL (besK bp bs g x y)) (fun xs => xs.map (·.1) = openL g x y 4) (fun pre => ∃ i, i ≤ 4 ∧ pre.map (·.1) = openL g x y i) 4 w :=
  fun l J Jx W' hb hJa _ hY h0 => by
    refine CallsIn.mono (beside1_in 2 (by omega) l bp bs g hg ho x y hx hy W'.heap.size (fun pre W => ∃ ys : List (OpenS g x y), ys.map (·.1) = pre ∧ J ys W) (fun pre W => ∃ ys : List (OpenS g x y), ys.map (·.1) = pre ∧ Jx ys W) ?_ ?_ W' (hA.below hb hA.lt) (hB.below hb hB.lt) ⟨[], rfl, h0⟩) ?_
    · rintro pre A C row ⟨ys, e, h⟩ hgr hr
      exact ⟨ys, e, hJa ys A C row h hgr hr⟩
    · rintro pre k W1 hk hc ⟨ys, rfl, hJ⟩ hlen
      obtain ⟨fn, tmps, assign, body, hy1, hR⟩ := hY ys ⟨k, hk, hc⟩ W1 hJ (by simpa using hlen)
      refine ⟨fn, tmps, assign, body, hy1, hR.mono ?_⟩
      rintro e W3 (⟨rfl, h, hk'⟩ | ⟨rfl, h⟩)
      · exact .inl ⟨rfl, ⟨_, by simp, h⟩, hk'⟩
      · exact .inr ⟨rfl, ⟨_, by simp, h⟩⟩
    · rintro e W3 ⟨hv, h⟩
      refine ⟨hv, ?_⟩
      rcases h with ⟨xs, hS, ys, e, h⟩ | ⟨pre, hS, ys, e, h⟩
      · subst e; exact .inl ⟨ys, hS, h⟩
      · subst e; exact .inr ⟨ys, hS, h⟩

def BesGiven (g : Nat → Int) (x y : Int) (w : World) (e : Ending) (w' : World) : Prop := ∃ bp bs, e = .returned (.func (.func 122) #[] #[.pointer (some ⟨bp, 0, none⟩), .pointer (some ⟨bs, 0, none⟩)]) ∧ w.heap.size ≤ bp ∧ w.heap.size ≤ bs ∧ Mem w (besK bp bs g x y) w'
theorem beside_any (g : Nat → Int) (x y : Int) (w : World) : Calls Tryd.prog 102 #[.agg (arr 122 (pas g)), .agg (arr 2 (sp x y))] w (BesGiven g x y w) := by
  have hM := Mem.nil w
  have tk_b1 : True := trivial; have tk_b2 : True := trivial
  go_enter Tryd.func102, Tryd.ntmps102
  go_wp2_with (first | (have _t := tk_b1; refine wpList_box rfl _ _ rfl _ _ rfl hM ?_; intro b1 W' hb1 hM'; clear hM tk_b1; have hM := hM'; clear hM') | (have _t := tk_b2; refine wpList_box rfl _ _ rfl _ _ rfl hM ?_; intro b2 W' hb2 hM'; clear hM tk_b2; have hM := hM'; clear hM'))
  go_ret
  exact ⟨b1, b2, rfl, hb1, hb2, hM.swap⟩


end Go.Proofs.YtmopcghkaapaoaaDoor

/-
  What the rounds over the cells beside a cell make of a search.
-/
namespace Go.Proofs.YtmopcghkaapaoaaDoor
open Go Go.RowKit

theorem nb_open (g : Nat → Int) (u v : Int) : nbOf g (u, v) = (openL g u v 4).map fun k => (nxX k u, nxY k v) := rfl
/-- Behind the rounds over the sides pre. -/
def afterS (s : Found) (u v : Int) (pre : List Nat) : Found := (pre.map fun k => (nxX k u, nxY k v)).foldl (visit1 (u, v)) s
theorem afterS_nil (s : Found) (u v : Int) : afterS s u v [] = s := rfl
theorem afterS_one (s : Found) (u v : Int) (pre : List Nat) (k : Nat) : afterS s u v (pre ++ [k]) = visit1 (u, v) (afterS s u v pre) (nxX k u, nxY k v) := by simp [afterS]
theorem afterS_all (g : Nat → Int) (s : Found) (u v : Int) : afterS s u v (openL g u v 4) = visit (nbOf g) s (u, v) := rfl
end Go.Proofs.YtmopcghkaapaoaaDoor

/-
  PLAIN LAWS over any program: A MAP THAT A CALL OWNS, beside its blocks of cells. The map's block is a part of the base (Base.map); its entries stand in the order in which their keys came (ents).
-/
namespace Go.Proofs.YtmopcghkaapaoaaDoor
open Go Go.RowKit Go.Maps Go.MapKept

/-! ### A map's entries -/
section
variable {K : Type} {kv : K → Value} {ks : List K} {f : K → Value}
/-- The entries of the keys ks, in the order in which they came; what is kept under each. -/
def ents (kv : K → Value) (ks : List K) (f : K → Value) : List MapEntry := ks.zipIdx.map fun q => { key := kv q.1, val := f q.1, born := q.2 }
/-- f with v under k. -/
def updK [DecidableEq K] (f : K → Value) (k : K) (v : Value) : K → Value := fun j => if j = k then v else f j

theorem ents_length : (ents kv ks f).length = ks.length := by simp [ents]
theorem ents_get (i : Nat) : (ents kv ks f)[i]? = (ks[i]?).map fun k => { key := kv k, val := f k, born := i } := by
  simp [ents, List.getElem?_zipIdx]
  cases ks[i]? <;> rfl
theorem ents_congr {g : K → Value} (h : ∀ k, k ∈ ks → f k = g k) : ents kv ks f = ents kv ks g := by
  apply List.ext_getElem?
  intro i
  rw [ents_get, ents_get]
  cases e : ks[i]? with
  | none => rfl
  | some k => simp [h k (List.mem_of_getElem? e)]
theorem ents_mem {e : MapEntry} (h : e ∈ ents kv ks f) : ∃ k i, ks[i]? = some k ∧ e = { key := kv k, val := f k, born := i } := by
  obtain ⟨i, hi⟩ := List.getElem?_of_mem h
  rw [ents_get] at hi
  cases e : ks[i]? with
  | none => simp [e] at hi
  | some k => rw [e] at hi; simp at hi; exact ⟨k, i, e, hi.symm⟩
theorem ents_push [DecidableEq K] {k : K} (v : Value) (hk : k ∉ ks) : ents kv ks f ++ [{ key := kv k, val := v, born := ks.length }] = ents kv (ks ++ [k]) (updK f k v) := by
  apply List.ext_getElem?
  intro i
  rw [ents_get]
  by_cases hi : i < ks.length
  · rw [List.getElem?_append_left (by rw [ents_length]; exact hi), List.getElem?_append_left hi, ents_get]
    have : ks[i] ≠ k := fun e => hk (e ▸ List.getElem_mem hi)
    simp [hi, updK, this]
  · rw [List.getElem?_append_right (by rw [ents_length]; omega), List.getElem?_append_right (by omega), ents_length]
    rcases Nat.eq_or_lt_of_le (Nat.not_lt.1 hi) with e | e
    · subst e; simp [updK]
    · have : i - ks.length ≠ 0 := by omega
      cases q : i - ks.length with
      | zero => omega
      | succ n => simp
theorem ents_modify [DecidableEq K] {k : K} {j : Nat} (v : Value) (hd : ks.Nodup) (hj : ks[j]? = some k) (g : MapEntry → MapEntry) (hg : ∀ e : MapEntry, e.key = kv k → g e = { e with key := kv k, val := v }) : (ents kv ks f).modify j g = ents kv ks (updK f k v) := by
  apply List.ext_getElem?
  intro i
  rw [List.getElem?_modify, ents_get, ents_get]
  by_cases e : j = i
  · subst e; simp [hj, hg, updK]
  · cases q : ks[i]? with
    | none => simp
    | some k' =>
      have : k' ≠ k := fun h => e ((List.getElem?_inj (List.getElem?_eq_some_iff.1 hj).1 hd).1 (by rw [hj, q, h]))
      simp [e, updK, this]
end

/-- How keys are told: each is a key of the type, and no two are told alike. -/
structure KeyTold (P : Program) (kt : TypeId) {K : Type} (kv : K → Value) (ok : K → Prop) : Prop where
  keyed : Keyed P kt
  told : ∀ k, ok k → ∃ l, keyOf P kt (kv k) = some l
  inj : ∀ {a b : K}, kv a = kv b → a = b

/-! ### The base with a map -/
/-- A base beside which block m holds the object o, which is no cells. -/
def Base.with (w : Base) (m : Nat) (o : Obj) (ho : o.isCells = false) : Base where
  G := fun W => w.G W ∧ W.heap[m]? = some o
  B := w.B
  le := fun h => w.le h.1
  alloc := fun {W} c t h => ⟨w.alloc c t h.1, (Below.heap_alloc W _ m (Array.getElem?_eq_some_iff.1 h.2).1).trans h.2⟩
  row := fun {W b c t} h hb hc c' => ⟨w.row h.1 hb hc c', (_root_.Go.setRow_other W b m c' (fun e => by subst e; rw [h.2] at hc; cases hc; simp [Obj.isCells] at ho)).trans h.2⟩
  call := fun h hb => ⟨w.call h.1 hb, (hb.block m (Array.getElem?_eq_some_iff.1 h.2).1).trans h.2⟩
  drew := fun h => ⟨w.drew h.1, h.2⟩
/-- The map's object. -/
def mapO {K : Type} (kv : K → Value) (ks : List K) (f : K → Value) : Obj := .map (ents kv ks f).toArray ks.length
theorem mapO_cells {K : Type} {kv : K → Value} {ks : List K} {f : K → Value} : (mapO kv ks f).isCells = false := rfl
/-- A base beside which block m holds the map of the keys ks. -/
def Base.map {K : Type} (w : Base) (m : Nat) (kv : K → Value) (ks : List K) (f : K → Value) : Base := w.with m (mapO kv ks f) rfl
/-- What is no cells in block m may be another in its place. -/
def Base.Lets (w : Base) (m : Nat) : Prop := ∀ (W : World) (o o' : Obj), w.G W → W.heap[m]? = some o → o.isCells = false → w.G (W.putObj m o')

theorem putObj_same {W : World} {m : Nat} {o : Obj} (h : W.heap[m]? = some o) (o' : Obj) : (W.putObj m o').heap[m]? = some o' := by
  have := (Array.getElem?_eq_some_iff.1 h).1
  simp [World.putObj, this]
theorem putObj_other (W : World) (m : Nat) (o' : Obj) {k : Nat} (h : k ≠ m) : (W.putObj m o').heap[k]? = W.heap[k]? := by
  simp [World.putObj, Ne.symm h]
theorem below_putObj {B m : Nat} {a W : World} (h : Below B a W) (hm : B ≤ m) (o' : Obj) : Below B a (W.putObj m o') :=
  ⟨h.os, h.tape, h.output, by simpa [World.putObj] using h.size, fun k hk => (putObj_other W m o' (by omega)).trans (h.block k hk)⟩

theorem lets_of {w : World} {m : Nat} (h : w.heap.size ≤ m) : (Base.of w).Lets m := fun _ _ o' hg _ _ => below_putObj hg h o'
theorem lets_round {w0 Wr : World} {Bk m : Nat} (h : w0.heap.size ≤ m) (h' : m < Bk) : (Base.round w0 Bk Wr).Lets m := fun W _ o' hg _ _ =>
  ⟨below_putObj hg.1 h o', ⟨by simpa [World.putObj] using hg.2.size, fun k o hk ho hn => (putObj_other W m o' (by omega)).trans (hg.2.same k o hk ho hn)⟩⟩
theorem lets_with {w : Base} {m m' : Nat} {o : Obj} {ho : o.isCells = false} (h : w.Lets m) (hne : m ≠ m') : (w.with m' o ho).Lets m := fun W o1 o' hg h1 h2 =>
  ⟨h W o1 o' hg.1 h1 h2, (putObj_other W m o' (Ne.symm hne)).trans hg.2⟩

theorem Mem.withO {w : Base} {W : World} {L : Blocks} (h : Mem w L W) {m : Nat} {o : Obj} (ho : o.isCells = false) (hm : W.heap[m]? = some o) : Mem (w.with m o ho) L W := h.base ⟨h.good, hm⟩
theorem Mem.less {w : Base} {W : World} {L : Blocks} {m : Nat} {o : Obj} {ho : o.isCells = false} (h : Mem (w.with m o ho) L W) : Mem w L W := h.base h.good.1
theorem Mem.put {w : Base} {W : World} {L : Blocks} {m : Nat} {o : Obj} {ho : o.isCells = false} (h : Mem (w.with m o ho) L W) (hl : w.Lets m) {o' : Obj} (ho' : o'.isCells = false) : Mem (w.with m o' ho') L (W.putObj m o') :=
  ⟨⟨hl W o o' h.good.1 h.good.2 ho, putObj_same h.good.2 o'⟩, fun i b n f hi => by
    obtain ⟨t, ht⟩ := h.ats i b n f hi
    exact ⟨t, (putObj_other W m o' (fun e => by subst e; have := h.good.2; rw [ht] at this; cases this; simp [Obj.isCells] at ho)).trans ht⟩, h.apart⟩
theorem Mem.newObj {w : Base} {W : World} {L : Blocks} (h : Mem w L W) (o : Obj) (ho : o.isCells = false) : Mem (w.with W.heap.size o ho) L (W.alloc o) :=
  (h.call (W' := W.alloc o) ((Below.refl _ W).alloc (Nat.le_refl _) o)).withO ho (heap_alloc_new W o)

/-! ### The operations -/
section
variable {P : Program} {ops : Array Oper} {rest : List Oper} {o : Oper} {a : Act} {w : Base} {W : World} {Q : Exit → Act → World → Prop} {L : Blocks}
variable {K : Type} {kv : K → Value} {ok : K → Prop} {ks : List K} {f : K → Value} {kt et : TypeId} {m : Nat}

theorem look_map [DecidableEq K] (T : KeyTold P kt kv ok) {t : TypeId} (ht : P.underlying t = some (.map kt et)) {z : Value} (hz : (zeroValue et).run P W = .ok z W) (hm : W.heap[m]? = some (mapO kv ks f)) (hks : ∀ k, k ∈ ks → ok k) {k : K} (hk : ok k) (c : Bool) :
    (Instr.lookup t (.map (some m)) (kv k) c).run P W = .ok (if c then .tuple #[if k ∈ ks then f k else z, .bool (decide (k ∈ ks))] else if k ∈ ks then f k else z) W := by
  obtain ⟨l, hl⟩ := T.told k hk
  have hes : ∀ e ∈ ents kv ks f, ∃ l, keyOf P kt e.key = some l := fun e he => by
    obtain ⟨k', i, hi, rfl⟩ := ents_mem he
    exact T.told k' (hks k' (List.mem_of_getElem? hi))
  rcases T.keyed.find W hl (ents kv ks f) hes with ⟨h1, h2⟩ | ⟨j, e0, h1, h2, h3⟩
  · have hn : k ∉ ks := fun h => by
      obtain ⟨i, hi⟩ := List.getElem?_of_mem h
      exact h2 _ (List.mem_of_getElem? (i := i) (by rw [ents_get, hi]; rfl)) rfl
    simp [Instr.lookup, run_underlying ht, MapKept.run_getObj_map (show W.heap[m]? = some (.map _ _) from hm), T.keyed.check W _ hl, h1, hz, Result.andThen, hn]
  · rw [ents_get] at h2
    cases q : ks[j]? with
    | none => simp [q] at h2
    | some k' =>
      rw [q] at h2; simp at h2
      have ek : k' = k := T.inj (by rw [← h3, ← h2])
      subst ek
      have hin := List.mem_of_getElem? q
      have ev : e0.val = f k' := by rw [← h2]
      simp [Instr.lookup, run_underlying ht, MapKept.run_getObj_map (show W.heap[m]? = some (.map _ _) from hm), T.keyed.check W _ hl, h1, Result.andThen, hin, ev]

/-- The keys behind a store. -/
def addK [DecidableEq K] (ks : List K) (k : K) : List K := if k ∈ ks then ks else ks ++ [k]
theorem addK_nodup [DecidableEq K] (hd : ks.Nodup) (k : K) : (addK ks k).Nodup := by
  unfold addK
  split
  · exact hd
  · rename_i h
    rw [List.nodup_append]
    exact ⟨hd, by simp, fun x hx y hy e => by simp at hy; subst hy; subst e; exact h hx⟩
theorem mem_addK [DecidableEq K] {k j : K} : j ∈ addK ks k ↔ j ∈ ks ∨ j = k := by
  unfold addK
  split
  · rename_i h
    exact ⟨.inl, fun h' => h'.elim id (fun e => e ▸ h)⟩
  · simp

theorem put_map [DecidableEq K] (T : KeyTold P kt kv ok) {t : TypeId} (ht : P.underlying t = some (.map kt et)) (hm : W.heap[m]? = some (mapO kv ks f)) (hd : ks.Nodup) (hks : ∀ k, k ∈ ks → ok k) {k : K} (hk : ok k) (v : Value) :
    (Instr.mapUpdate t (.map (some m)) (kv k) v).run P W = .ok () (W.putObj m (mapO kv (addK ks k) (updK f k v))) := by
  obtain ⟨l, hl⟩ := T.told k hk
  have hes : ∀ e ∈ ents kv ks f, ∃ l, keyOf P kt e.key = some l := fun e he => by
    obtain ⟨k', i, hi, rfl⟩ := ents_mem he
    exact T.told k' (hks k' (List.mem_of_getElem? hi))
  have hm' : W.heap[m]? = some (.map (ents kv ks f).toArray ks.length) := hm
  rcases T.keyed.find W hl (ents kv ks f) hes with ⟨h1, h2⟩ | ⟨j, e0, h1, h2, h3⟩
  · have hn : k ∉ ks := fun h => by
      obtain ⟨i, hi⟩ := List.getElem?_of_mem h
      exact h2 _ (List.mem_of_getElem? (i := i) (by rw [ents_get, hi]; rfl)) rfl
    have e1 : mapO kv (addK ks k) (updK f k v) = .map ((ents kv ks f).toArray.push { key := kv k, val := v, born := ks.length }) (ks.length + 1) := by
      unfold mapO addK
      rw [if_neg hn, ← ents_push v hn]
      simp
    rw [e1]
    simp [Instr.mapUpdate, run_underlying ht, MapKept.run_getObj_map hm', T.keyed.check W false hl, h1, MapKept.run_setObj_map _ hm', Result.andThen, World.putObj]
  · rw [ents_get] at h2
    cases q : ks[j]? with
    | none => simp [q] at h2
    | some k' =>
      rw [q] at h2; simp at h2
      have ek : k' = k := T.inj (by rw [← h3, ← h2])
      subst ek
      have hin := List.mem_of_getElem? q
      have hj : (ents kv ks f)[j]? = some e0 := by rw [ents_get, q]; simp [← h2]
      have e1 : mapO kv (addK ks k') (updK f k' v) = .map ((ents kv ks f).toArray.modify j (fun e => { e with key := kv k', val := v })) ks.length := by
        unfold mapO addK
        rw [if_pos hin, ← ents_modify v hd q (fun e => { e with key := kv k', val := v }) (fun _ _ => rfl)]
        congr 1
        apply Array.toList_inj.1
        simp
      rw [e1]
      simp [Instr.mapUpdate, run_underlying ht, MapKept.run_getObj_map hm', T.keyed.check W false hl, h1, hj, h3, T.keyed.stays W hl, MapKept.run_setObj_map _ hm', Result.andThen, World.putObj]
end
end Go.Proofs.YtmopcghkaapaoaaDoor

/-
  PLAIN LAWS over any program: the operations on a map that a call owns (MapB), at the list of a region.
-/
namespace Go.Proofs.YtmopcghkaapaoaaDoor
open Go Go.RowKit Go.Maps

section
variable {P : Program} {ops : Array Oper} {rest : List Oper} {o : Oper} {a : Act} {w : Base} {W : World} {Q : Exit → Act → World → Prop} {L : Blocks} {J : Act → World → Prop}
variable {K : Type} {kv : K → Value} {ok : K → Prop} {ks : List K} {f : K → Value} {kt et : TypeId} {m : Nat}

/-- 'map[K]V{}'. -/
theorem oper_makeMap (t : TypeId) (ho : o.op = .makeMap t none) (f : K → Value) (hM : Mem w L W)
    (h : ∀ m W', w.B ≤ m → W.heap.size ≤ m → Mem (w.with m (mapO kv [] f) rfl) L W' → J (a.put o.dst (.map (some m))) W') : o.wp P a W J Q := by
  have hr : (Instr.makeMap t none).run P W = .ok (.map (some W.heap.size)) (W.alloc (.map #[] 0)) := rfl
  unfold Oper.wp
  simp only [execOp, ho, Sem.run_bind, hr, Result.andThen_ok, Option.map_none]
  exact h _ _ hM.size (Nat.le_refl _) (hM.newObj (mapO kv [] f) rfl)
/-- 'm[k]' and 'v, ok := m[k]'. -/
theorem oper_lookup [DecidableEq K] (t : TypeId) (x y : Operand) (c : Bool) (ho : o.op = .lookup t x y c) (hx : a.eval x = .map (some m)) (k : K) (hy : a.eval y = kv k)
    (T : KeyTold P kt kv ok) (ht : P.underlying t = some (.map kt et)) (z : Value) (hz : ∀ W, (zeroValue et).run P W = .ok z W) (hm : W.heap[m]? = some (mapO kv ks f)) (hks : ∀ k, k ∈ ks → ok k) (hk : ok k)
    (h : J (a.put o.dst (if c then .tuple #[if k ∈ ks then f k else z, .bool (decide (k ∈ ks))] else if k ∈ ks then f k else z)) W) : o.wp P a W J Q := by
  have hr := look_map T ht (hz W) hm hks hk c
  unfold Oper.wp
  simp only [execOp, ho, hx, hy, Sem.run_bind, hr, Result.andThen_ok]
  exact h
/-- 'm[k] = v'. -/
theorem oper_mapSet [DecidableEq K] (t : TypeId) (x y v : Operand) (ho : o.op = .mapUpdate t x y v) (hx : a.eval x = .map (some m)) (k : K) (hy : a.eval y = kv k) (val : Value) (hv : a.eval v = val)
    (T : KeyTold P kt kv ok) (ht : P.underlying t = some (.map kt et)) (hM : Mem (w.with m (mapO kv ks f) rfl) L W) (hl : w.Lets m) (hd : ks.Nodup) (hks : ∀ k, k ∈ ks → ok k) (hk : ok k)
    (h : ∀ W', Mem (w.with m (mapO kv (addK ks k) (updK f k val)) rfl) L W' → J (a.put o.dst undef) W') : o.wp P a W J Q := by
  have hr := put_map T ht hM.good.2 hd hks hk val
  unfold Oper.wp
  simp only [execOp, ho, hx, hy, hv, Sem.run_bind, hr, Result.andThen_ok, Sem.run_pure]
  exact h _ (hM.put hl rfl)

theorem wpList_makeMap (hgd : o.guard = none) (t : TypeId) (ho : o.op = .makeMap t none) (f : K → Value) (hM : Mem w L W)
    (h : ∀ m W', w.B ≤ m → W.heap.size ≤ m → Mem (w.with m (mapO kv [] f) rfl) L W' → wpList P ops Q rest (a.put o.dst (.map (some m))) W') : wpList P ops Q (o :: rest) a W :=
  wpList_plain hgd fun _ hJ => oper_makeMap t ho f hM fun m W' h1 h2 h3 => hJ _ _ (h m W' h1 h2 h3)
theorem wpList_lookup [DecidableEq K] (hgd : o.guard = none) (t : TypeId) (x y : Operand) (c : Bool) (ho : o.op = .lookup t x y c) (hx : a.eval x = .map (some m)) (k : K) (hy : a.eval y = kv k)
    (T : KeyTold P kt kv ok) (ht : P.underlying t = some (.map kt et)) (z : Value) (hz : ∀ W, (zeroValue et).run P W = .ok z W) (hm : W.heap[m]? = some (mapO kv ks f)) (hks : ∀ k, k ∈ ks → ok k) (hk : ok k)
    (h : wpList P ops Q rest (a.put o.dst (if c then .tuple #[if k ∈ ks then f k else z, .bool (decide (k ∈ ks))] else if k ∈ ks then f k else z)) W) : wpList P ops Q (o :: rest) a W :=
  wpList_plain hgd fun _ hJ => oper_lookup t x y c ho hx k hy T ht z hz hm hks hk (hJ _ _ h)
theorem wpList_mapSet [DecidableEq K] (hgd : o.guard = none) (t : TypeId) (x y v : Operand) (ho : o.op = .mapUpdate t x y v) (hx : a.eval x = .map (some m)) (k : K) (hy : a.eval y = kv k) (val : Value) (hv : a.eval v = val)
    (T : KeyTold P kt kv ok) (ht : P.underlying t = some (.map kt et)) (hM : Mem (w.with m (mapO kv ks f) rfl) L W) (hl : w.Lets m) (hd : ks.Nodup) (hks : ∀ k, k ∈ ks → ok k) (hk : ok k)
    (h : ∀ W', Mem (w.with m (mapO kv (addK ks k) (updK f k val)) rfl) L W' → wpList P ops Q rest (a.put o.dst undef) W') : wpList P ops Q (o :: rest) a W :=
  wpList_plain hgd fun _ hJ => oper_mapSet t x y v ho hx k hy val hv T ht hM hl hd hks hk fun W' h1 => hJ _ _ (h W' h1)
end
end Go.Proofs.YtmopcghkaapaoaaDoor

/-
  SPOTS AS KEYS OF MAPS; the operations on a map at the list of a plain region.
-/
namespace Go.Proofs.YtmopcghkaapaoaaDoor
open Go Go.RowKit Go.Maps

theorem laidOut : laidOutB Tryd.prog = true := by kernel_rfl
theorem spot_keyed : Keyed Tryd.prog 36 :=
  Keyed.of_law (deep_law_laid laidOut (m := 2) (by omega) (of_decide_eq_true (by kernel_rfl)) (by kernel_rfl) (by rw [Tryd.underlying36]))
/-- A spot as a value. -/
def spV (k : Int × Int) : Value := .agg (arr 2 (sp k.1 k.2))
def SpotOk (k : Int × Int) : Prop := -128 ≤ k.1 ∧ k.1 ≤ 127 ∧ -128 ≤ k.2 ∧ k.2 ≤ 127
theorem spV_inj {a b : Int × Int} (h : spV a = spV b) : a = b := by
  unfold spV at h
  have h0 : arr 2 (sp a.1 a.2) = arr 2 (sp b.1 b.2) := by simpa using h
  have e0 := congrArg (fun x : Array Value => x[0]?) h0
  have e1 := congrArg (fun x : Array Value => x[1]?) h0
  simp [arr_get, sp] at e0 e1
  exact Prod.ext e0 e1
theorem spot_told (k : Int × Int) (h : SpotOk k) : ∃ l, keyOf Tryd.prog 36 (spV k) = some l := by
  obtain ⟨x, y⟩ := k
  obtain ⟨h1, h2, h3, h4⟩ := h
  unfold spV keyOf
  have hx : (Lit.int .i8 x).wf = true := by have a1 : IntKind.i8.min = -128 := rfl; have a2 : IntKind.i8.max = 127 := rfl; simp [Lit.wf, a1, a2]; omega
  have hy : (Lit.int .i8 y).wf = true := by have a1 : IntKind.i8.min = -128 := rfl; have a2 : IntKind.i8.max = 127 := rfl; simp [Lit.wf, a1, a2]; omega
  have hc : (Value.agg (arr 2 (sp x y))).cells.toList = [.int .i8 x, .int .i8 y] := rfl
  have hk : Tryd.prog.keyType 36 = true := by kernel_rfl
  have hf : (Value.agg (arr 2 (sp x y))).formed Tryd.prog 36 = true := by kernel_rfl
  rw [Tryd.underlying36]
  simp only [hk, hf, hc]
  have c1 : Tryd.prog.cellsOf 36 = 2 := by kernel_rfl
  have c2 : Tryd.prog.cellsOf 22 = 1 := by kernel_rfl
  have hp : 0 < Tryd.prog.types.size := of_decide_eq_true (by kernel_rfl)
  obtain ⟨n, hn⟩ : ∃ n, Tryd.prog.types.size = n + 1 := ⟨Tryd.prog.types.size - 1, by omega⟩
  have hL : Tryd.prog.keyLits (Tryd.prog.types.size + 1) 36 [.int .i8 x, .int .i8 y] = some [.int .i8 x, .int .i8 y] := by
    rw [hn]
    simp [Program.keyLits, Tryd.underlying36, Tryd.underlying22, c1, c2, hx, hy]
  rw [hL]
  exact ⟨_, rfl⟩
theorem spotT : KeyTold Tryd.prog 36 spV SpotOk := ⟨spot_keyed, spot_told, spV_inj⟩
end Go.Proofs.YtmopcghkaapaoaaDoor

/-
  The end of a function whose plain loop holds a range over a function: one mark for each round.
-/
namespace Go.Proofs.YtmopcghkaapaoaaDoor
open Go Go.RowKit Go.Shelf Go.BigFrame

/-- The marks shut, one after the other. -/
def shut (X : World) (Ds : List Nat) : World := Ds.foldl (fun X D => X.putObj D (.deferred none)) X
theorem leave_marksL {fn : Func} {tmps : Array Value} {R : Ending → World → Prop} (v : Value) : ∀ (Ds : List Nat) {X : World} (_ : ∀ D, D ∈ Ds → X.heap[D]? = some (.deferred (some []))) (_ : Ds.Nodup)
    (_ : (results fn tmps).run Tryd.prog (shut X Ds) = .ok v (shut X Ds)) (_ : R (.returned v) (shut X Ds)),
    LeavesInM Fence.wide 3 Tryd.prog fn tmps R (Ds.map fun D => { target := .collected D, args := #[] }) .returning X
  | [], X, _, _, hr, hR => ⟨v, hr, hR⟩
  | D :: Ds, X, hK, hd, hr, hR => by
    obtain ⟨h1, h2⟩ := List.nodup_cons.1 hd
    exact ⟨by simp, .inl ⟨_, _, rfl, run_takeDeferred (hK D (by simp)), leave_marksL v Ds (fun E hE => (putObj_other X D _ (fun e => h1 (e ▸ hE))).trans (hK E (by simp [hE]))) h2 hr hR⟩⟩
theorem shut_below {w : World} : ∀ (Ds : List Nat) {X : World} (_ : Below w.heap.size w X) (_ : ∀ D, D ∈ Ds → w.heap.size ≤ D), Below w.heap.size w (shut X Ds)
  | [], _, hb, _ => hb
  | D :: Ds, _, hb, h => shut_below Ds (below_mark hb (h D (by simp))) (fun E hE => h E (by simp [hE]))
theorem shut_at {b n : Nat} {f : Nat → Value} : ∀ (Ds : List Nat) {X : World} (_ : At X b n f) (_ : ∀ D, D ∈ Ds → X.heap[D]? = some (.deferred (some []))) (_ : Ds.Nodup), At (shut X Ds) b n f
  | [], _, h, _, _ => h
  | D :: Ds, X, h, hK, hd => by
    obtain ⟨h1, h2⟩ := List.nodup_cons.1 hd
    exact shut_at Ds (at_mark h (hK D (by simp))) (fun E hE => (putObj_other X D _ (fun e => h1 (e ▸ hE))).trans (hK E (by simp [hE]))) h2
theorem shut_obj {m : Nat} {o : Obj} : ∀ (Ds : List Nat) {X : World} (_ : X.heap[m]? = some o) (_ : m ∉ Ds), (shut X Ds).heap[m]? = some o
  | [], _, h, _ => h
  | D :: Ds, X, h, hm => shut_obj Ds ((putObj_other X D _ (fun e => hm (by simp [e]))).trans h) (fun h' => hm (by simp [h']))

/-- A base beside which the blocks Ds are open marks. -/
def Base.marks (w : Base) : List Nat → Base
  | [] => w
  | D :: Ds => (w.marks Ds).with D (.deferred (some [])) rfl
theorem marks_B (w : Base) : ∀ Ds, (w.marks Ds).B = w.B
  | [] => rfl
  | _ :: Ds => marks_B w Ds
theorem marks_get {w : Base} {X : World} : ∀ (Ds : List Nat) (_ : (w.marks Ds).G X), ∀ D, D ∈ Ds → X.heap[D]? = some (.deferred (some []))
  | [], _, D, hD => by simp at hD
  | E :: Ds, h, D, hD => by
    rcases List.mem_cons.1 hD with rfl | hD
    · exact h.2
    · exact marks_get Ds h.1 D hD
theorem marks_good {w : Base} {X : World} : ∀ (Ds : List Nat) (_ : (w.marks Ds).G X), w.G X
  | [], h => h
  | _ :: Ds, h => marks_good Ds h.1
theorem marks_intro {w : Base} {X : World} (h : w.G X) : ∀ (Ds : List Nat) (_ : ∀ D, D ∈ Ds → X.heap[D]? = some (.deferred (some []))), (w.marks Ds).G X
  | [], _ => h
  | E :: Ds, hD => ⟨marks_intro h Ds (fun D h' => hD D (by simp [h'])), hD E (by simp)⟩
theorem lets_marks {w : Base} {m : Nat} (h : w.Lets m) : ∀ (Ds : List Nat) (_ : m ∉ Ds), (w.marks Ds).Lets m
  | [], _ => h
  | D :: Ds, hm => lets_with (lets_marks h Ds (fun h' => hm (by simp [h']))) (fun e => hm (by simp [e]))
end Go.Proofs.YtmopcghkaapaoaaDoor

/-
  A range over an iterator of spots whose rounds may change blocks for others (RangeL) and write a map that the call owns.
-/
namespace Go.Proofs.YtmopcghkaapaoaaDoor
open Go Go.RowKit Go.Shelf Go.BigFrame

/-- How a round ends: on, with a map and blocks as the relation tells. -/
def roundRelM (b : Base) (m : Nat) (I : Obj → Blocks → Prop) : Exit → Act → World → Prop
  | .normal, _, X' => ∃ (o : Obj) (ho : o.isCells = false) (Bs : Blocks), I o Bs ∧ Mem (b.with m o ho) Bs X'
  | _, _, _ => False

theorem range_relM {α : Type} {px py : α → Int} {g : Operand} {p q : Tmp} {id : Nat} {o1 o2 : Oper} {body : Code} {Q : Exit → Act → World → Prop} {a : Act} {w W1 : World} (m : Nat) (Ds : List Nat) (I : List α → Obj → Blocks → Prop) (O0 : Obj) (L0 : Blocks)
    {gf : Nat} {lb : Array Value} {Kp : World → World → Prop} {S Sp : List α → Prop} {N : Nat}
    (hg : a.eval g = .func (.func gf) #[] lb) (eg : ∀ args w, (callFunc gf args).run Tryd.prog w = .ok (.enter gf args) w)
    (hseq : SeqStopsK Fence.wide 2 Tryd.prog gf lb (fun x => #[.agg (arr 2 (sp (px x) (py x)))]) Kp S Sp N W1) (hKt : ∀ {A B C : World}, Kp A B → Kp B C → Kp A C) (hKb : ∀ (W : World) (l : Nat) (o o' : Obj), W.heap[l]? = some o → o.isCells = false → Kp W (W.putObj l o'))
    (hno : ∀ (pre : List α) (o : Obj) (Bs : Blocks), I pre o Bs → o.isCells = false) (hm : m < W1.heap.size) (hDs : ∀ D, D ∈ Ds → W1.heap[D]? = some (.deferred (some [])))
    (hdet : ∀ (pre pre' : List α) (o o' : Obj) (Bs Bs' : Blocks) (b b' : Base) (X : World), I pre o Bs → I pre' o' Bs' → Mem b Bs X → Mem b' Bs' X → Bs.map (·.1) = Bs'.map (·.1))
    (hkp : ∀ (b : Base) (pre pre' : List α) (o o' : Obj) (Bs Bs' : Blocks) (X X' : World), I pre o Bs → I pre' o' Bs' → Mem b Bs X → Mem b Bs' X' → Kp X X')
    (h1 : o1.op = .alloc 36) (h1g : o1.guard = none) (h1d : o1.dst = some q) (h2 : o2.op = .store 36 (.tmp q) (.tmp p)) (h2g : o2.guard = none) (h2d : o2.dst = none) (hpq : p ≠ q) (hp : p < a.tmps.size) (hq : q < a.tmps.size)
    (hI0 : I [] O0 L0) (hM : Mem w L0 W1) (hO : W1.heap[m]? = some O0)
    (hbody : ∀ (l : Nat) (pre : List α) (x : α) (bx : Nat) (X : World) (o : Obj) (ho : o.isCells = false) (Bs : Blocks), w.heap.size ≤ bx → I pre o Bs → Mem (((Base.round w W1.heap.size X).marks Ds).with m o ho) ((bx, 2, sp (px x) (py x)) :: Bs) X → pre.length < N →
      body.wpIn (Fence.wide.inRound l) 1 Tryd.prog (roundRelM ((Base.round w W1.heap.size X).marks Ds) m (I (pre ++ [x]))) { tmps := (a.tmps.setIfInBounds p (.agg (arr 2 (sp (px x) (py x))))).setIfInBounds q (.pointer (some ⟨bx, 0, none⟩)), defers := [] } X)
    (hdone : ∀ (D : Nat) (xs : List α) (X : World) (o : Obj) (ho : o.isCells = false) (Bs : Blocks), W1.heap.size ≤ D → S xs → I xs o Bs → Mem (((Base.of w).marks Ds).with m o ho) Bs X → X.heap[D]? = some (.deferred (some [])) → Q .normal { a with defers := { target := .collected D, args := #[] } :: a.defers } X) :
    (Code.rangeFunc g #[p] (.region id [o1, o2].toArray false) body).wpIn Fence.wide 3 Tryd.prog Q a W1 := by
  have hsz : w.heap.size ≤ W1.heap.size := hM.size
  have hown : OwnFrom W1.heap.size (fun (pre : List α) X => ∃ o Bs, I pre o Bs ∧ Mem w Bs X ∧ X.heap[m]? = some o ∧ ∀ D, D ∈ Ds → X.heap[D]? = some (.deferred (some []))) := fun pre X Y row hs hgr hr => by
    obtain ⟨o, Bs, hi, hm1, ho1, hD1⟩ := hs
    exact ⟨o, Bs, hi, mem_ownFrom hsz (fun (_ : Unit) => Bs) () X Y row hm1 hgr hr, (hgr.block m (Array.getElem?_eq_some_iff.1 ho1).1 (fun e => by have := (hr m e.symm).1; omega)).trans ho1, fun D hD => (hgr.block D (Array.getElem?_eq_some_iff.1 (hD1 D hD)).1 (fun e => by have := (hr D e.symm).1; have := (Array.getElem?_eq_some_iff.1 (hDs D hD)).1; omega)).trans (hD1 D hD)⟩
  refine wpIn_rangeFunc_ownH (F := Fence.wide) (n := 3) rfl (by omega) (gf := gf) (lb := lb) hg trivial eg hseq hKt (fun X l o o' _ h ho _ => hKb X l o o' h ho) (Below.refl _ _) (fun _ => rfl)
    (fun pre X => ∃ o Bs, I pre o Bs ∧ Mem w Bs X ∧ X.heap[m]? = some o ∧ ∀ D, D ∈ Ds → X.heap[D]? = some (.deferred (some []))) (fun _ _ _ => False) hown (fun _ _ X Y row hs _ _ => hs.elim) ⟨O0, L0, hI0, hM, hO, hDs⟩
    (fun x a' X => ∃ bx pre0 o0 Bs0, w.heap.size ≤ bx ∧ bx ∉ Bs0.map (·.1) ∧ I pre0 o0 Bs0 ∧ Mem w Bs0 X ∧ At X bx 2 (sp (px x) (py x)) ∧ a' = { tmps := (a.tmps.setIfInBounds p (.agg (arr 2 (sp (px x) (py x))))).setIfInBounds q (.pointer (some ⟨bx, 0, none⟩)), defers := [] })
    (fun x a' _ X Y row hs hgr hr => ?own) ?assign ?body ?done ?stop
  case own =>
    obtain ⟨bx, pre0, o0, Bs0, h1, h2, h3, h4, h5, h6⟩ := hs
    exact ⟨bx, pre0, o0, Bs0, h1, h2, h3, mem_ownFrom hsz (fun (_ : Unit) => Bs0) () X Y row h4 hgr hr, h5.grown hgr (fun r e => (hr r e).2), h6⟩
  case assign =>
    intro l pre x X K hI hK
    obtain ⟨o, Bs, hi, hI, hoX, hDX⟩ := hI
    have ho := hno _ _ _ hi
    have hMr : Mem (Base.round w W1.heap.size X) Bs X := hI.base ⟨hI.below, KeepsFrom.refl _ _⟩
    have hMm : Mem ((Base.round w W1.heap.size X).marks Ds) Bs X := hMr.base (marks_intro hMr.good Ds hDX)
    have hM' : Mem (((Base.round w W1.heap.size X).marks Ds).with m o ho) Bs X := hMm.withO ho hoX
    refine region_round (fun ⟨_, _, h⟩ => h) (by simp [noDefer, h1, h2]) ?_
    refine wpList_zero h1g _ h1 (zeroTab _ 2 (fun _ => .int .i8 0) rfl) hM' ?_
    intro bx X2 hbx hM2
    have ez : (#[p].zip #[Value.agg (arr 2 (sp (px x) (py x)))]).foldl (fun t (y : Tmp × Value) => t.setIfInBounds y.1 y.2) a.tmps = a.tmps.setIfInBounds p (.agg (arr 2 (sp (px x) (py x)))) := by simp
    rw [h1d]
    refine wpList_lay h2g _ _ _ h2 bx 0 ?_ 2 (sp (px x) (py x)) ?_ hM2 0 rfl hbx (rowTab _ _ rfl) (by omega) (fun _ _ => rfl) ?_
    · simp [Act.eval, Act.put, Array.getElem?_setIfInBounds, hq]
    · simp [Act.eval, Act.put, Array.getElem?_setIfInBounds, hp, Ne.symm hpq]
    · intro X3 hM3
      have hM3' := hM3.re 0 rfl (sp (px x) (py x)) (fun k hk => by simp [lay, hk])
      simp only [List.set_cons_zero] at hM3'
      rw [h2d]
      show K _ _
      have hg3 := marks_good (w := Base.round w W1.heap.size X) Ds hM3'.good.1
      have hbx' : w.heap.size ≤ bx := Nat.le_trans (Nat.le_of_eq (marks_B (Base.round w W1.heap.size X) Ds).symm) hbx
      refine hK _ _ hg3.2 ?_ ⟨o, Bs, hi, hM3'.drop.base hg3.1, hM3'.good.2, marks_get Ds hM3'.good.1⟩ ?_
      · exact hkp _ pre pre o o Bs Bs X X3 hi hi hM' hM3'.drop
      · refine ⟨bx, pre, o, Bs, hbx', fun hm => ?_, hi, hM3'.drop.base hg3.1, hM3'.at0, ?_⟩
        · obtain ⟨y, hy, e⟩ := List.mem_map.1 hm
          obtain ⟨i, hi⟩ := List.getElem?_of_mem hy
          exact hM3'.apart 0 (i + 1) _ y rfl (by simpa using hi) (by omega) e.symm
        · simp [Act.put]
  case body =>
    intro l pre x a' X hl hr hI hAx hlen
    obtain ⟨bx, pre0, o0, Bs0, hb, hn, hi0, hm0, hA, rfl⟩ := hAx
    obtain ⟨o, Bs, hi, hI, hoX, hDX⟩ := hI
    have ho := hno _ _ _ hi
    rw [← hdet pre pre0 o o0 Bs Bs0 _ _ X hi hi0 hI hm0] at hn
    have hMr : Mem (Base.round w W1.heap.size X) Bs X := hI.base ⟨hI.below, KeepsFrom.refl _ _⟩
    have hMm : Mem ((Base.round w W1.heap.size X).marks Ds) Bs X := hMr.base (marks_intro hMr.good Ds hDX)
    have hM' : Mem (((Base.round w W1.heap.size X).marks Ds).with m o ho) Bs X := hMm.withO ho hoX
    have hM2 : Mem (((Base.round w W1.heap.size X).marks Ds).with m o ho) ((bx, 2, sp (px x) (py x)) :: Bs) X :=
      ⟨hM'.good, fun i b n f h => by
        cases i with
        | zero => simp at h; obtain ⟨rfl, rfl, rfl⟩ := h; exact hA
        | succ i => exact hM'.ats i b n f (by simpa using h),
       fun i j y z hi hj hne => by
        have off : ∀ (i : Nat) (y : Nat × Nat × (Nat → Value)), Bs[i]? = some y → y.1 ≠ bx := fun i y h e => hn (by
          rw [← e]; exact List.mem_map_of_mem (List.mem_of_getElem? h))
        cases i with
        | zero =>
          cases j with
          | zero => exact absurd rfl hne
          | succ j => simp at hi hj; rw [← hi]; exact fun e => off j z hj e.symm
        | succ i =>
          cases j with
          | zero => simp at hi hj; rw [← hj]; exact off i y hi
          | succ j => exact hM'.apart i j y z (by simpa using hi) (by simpa using hj) (by omega)⟩
    refine Code.wpIn_mono (fun e a'' X' h => ?_) (hbody l pre x bx X o ho Bs hb hi hM2 hlen)
    cases e <;> first | exact (h : False).elim | skip
    obtain ⟨o', ho', Bs', hi', h'⟩ := (h : ∃ (o : Obj) (ho : o.isCells = false) (Bs' : Blocks), I (pre ++ [x]) o Bs' ∧ Mem (((Base.round w W1.heap.size X).marks Ds).with m o ho) Bs' X')
    have hg3 := marks_good (w := Base.round w W1.heap.size X) Ds h'.good.1
    exact ⟨hg3.2, hkp _ pre (pre ++ [x]) o o' Bs Bs' X X' hi hi' hMm h'.less, o', Bs', hi', h'.base hg3.1, h'.good.2, marks_get Ds h'.good.1⟩
  case done =>
    intro D xs X hD hS hI hK
    obtain ⟨o, Bs, hi, hI, hoX, hDX⟩ := hI
    exact hdone D xs X o (hno _ _ _ hi) Bs hD hS hi ((hI.base (marks_intro hI.good Ds hDX)).withO (hno _ _ _ hi) hoX) hK
  case stop =>
    intro D c pre X hD hS hI hK
    exact hI.elim
end Go.Proofs.YtmopcghkaapaoaaDoor

