/-
  (impl.Pasture).beside and its iterator, slices.AppendSeq, slices.Collect by contracts.
-/
import Derived.Test.YtdmhdljknfkajaaDoorBesideSpec
import Derived.Test.YtdmhdljknfkajaaDoorRangeL
import Derived.Test.YtdmhdljknfkajaaDoorSumK
namespace Go.Proofs.YtdmhdljknfkajaaDoor
open Go Go.RowKit Go.Shelf Go.BigFrame
attribute [local go_sem] Oper.semAt_some

section
variable {P : Program} {ops : Array Oper} {rest : List Oper} {o : Oper} {a : Act} {W : World} {Q : Exit → Act → World → Prop} {K : Act → World → Prop} {n : Nat}
theorem oper_wide (hd : noDefer o = true) (h : o.wp P a W K Q) : o.wpIn Fence.wide n P a W K Q := by
  unfold Oper.wp at h
  unfold Oper.wpIn
  refine ⟨fun _ _ => trivial, ?_⟩
  rw [Oper.semAt_eq _ _ _ (noDefer_spec hd)]
  generalize (execOp a.eval o).run P W = r at *
  cases r with
  | ok x w' =>
    cases x <;> simp only [Oper.upon] at h <;> simp only [Oper.uponIn]
    case value => exact h
    case skip => exact h
    case defer => exact h
    case enter => exact ⟨fun h => by simp [Fence.wide] at h, callsIn_wide.2 h⟩
    case row => exact ⟨fun h => by simp [Fence.wide] at h, fun c cs _ => let ⟨v, w', r, s⟩ := h c cs; ⟨v, w', r, stepsIn_wide.2 s⟩⟩
  | halt x w' => cases x <;> simp only [Oper.upon] at h <;> simp only [Oper.uponIn] <;> exact h
/-- A part by value, inside a fence. -/
theorem wpListIn_getA (hgd : o.guard = none) (ty : TypeId) (x : Operand) (ho : o.op = .load ty x) (b off : Nat) (hx : a.eval x = .pointer (some ⟨b, off, none⟩))
    {N m : Nat} {f : Nat → Value} (hA : At W b N f) (hT : RowT P ty m) (hle : off + m ≤ N)
    (h : wpListIn Fence.wide n P ops Q rest (a.put o.dst (.agg (arr m (fun k => f (off + k))))) W) : wpListIn Fence.wide n P ops Q (o :: rest) a W := by
  obtain ⟨⟨d, hu, hd⟩, hm⟩ := hT
  obtain ⟨t, ht⟩ := hA
  have hr : W.rangeAt b off (arr m (fun k => f (off + k))).toList := by
    rw [← arr_extract hle]; exact World.rangeAt_of_block ht off m
  refine wpListIn_plain hgd fun K hK => oper_wide (by simp [noDefer, ho]) ?_
  exact wp_load_mid ty x ho b off hx (arr m (fun k => f (off + k))).toList d hr hu hd (by rw [hm]; simp [arr_size]) (hK _ _ (by simpa using h))
end

/-- The open ones of the first i sides. -/
def openL (g : Nat → Int) (x y : Int) (i : Nat) : List Nat := (List.range i).filter fun k => !closedB g k x y
theorem openL_yes {g : Nat → Int} {x y : Int} {k : Nat} (h : closedB g k x y = false) : openL g x y k ++ [k] = openL g x y (k + 1) := by simp [openL, List.range_succ, List.filter_append, h]
theorem openL_no {g : Nat → Int} {x y : Int} {k : Nat} (h : closedB g k x y = true) : openL g x y k = openL g x y (k + 1) := by simp [openL, List.range_succ, List.filter_append, h]
theorem openL_len {g : Nat → Int} {x y : Int} {i : Nat} : (openL g x y i).length ≤ i := Nat.le_trans (List.length_filter_le _ _) (by simp)

abbrev besK (bp bs : Nat) (g : Nat → Int) (x y : Int) : Blocks := [(bp, 122, pas g), (bs, 2, sp x y)]
def BesIt (J : List Nat → World → Prop) (bp bs : Nat) (g : Nat → Int) (x y : Int) (i : Value) (wr : World) : Prop :=
  ∃ k : Nat, k ≤ 4 ∧ i = .int .i64 k ∧ ∃ pre, pre = openL g x y k ∧ J pre wr ∧ At wr bp 122 (pas g) ∧ At wr bs 2 (sp x y)
theorem abides_below {α : Type} {B : Nat} {J : α → World → Prop} (hJ : AbidesFrom B J) {s : α} {A C : World} (h : J s A) (hb : Below A.heap.size A C) : J s C :=
  hJ s A C none h ⟨hb.os, hb.tape, hb.output, hb.size, fun k hk _ => hb.block k hk⟩ (fun r e => by cases e)

set_option maxRecDepth 100000 in
set_option maxHeartbeats 1000000 in
theorem beside1_in (nn : Nat) (hnn : 1 ≤ nn) (l bp bs : Nat) (g : Nat → Int) (hg : Fits g) (ho : okB g = true) (x y : Int) (hx : 0 ≤ x ∧ x ≤ 9) (hy : 0 ≤ y ∧ y ≤ 9) (B : Nat)
    (J Jx : List Nat → World → Prop) (hJa : AbidesFrom B J)
    (hY : ∀ pre k W1, J pre W1 → pre.length < 4 → YieldAt Fence.wide (nn - 1) Tryd.prog l #[.agg (arr 2 (sp (nxX k x) (nxY k y)))] W1 fun e W' =>
      (e = .returned (.bool true) ∧ J (pre ++ [k]) W' ∧ KpL (besK bp bs g x y) W1 W') ∨ (e = .returned (.bool false) ∧ Jx (pre ++ [k]) W'))
    (w : World) (hA : At w bp 122 (pas g)) (hB : At w bs 2 (sp x y)) (h0 : J [] w) :
    CallsIn Fence.wide nn Tryd.prog 86 #[.func (.yield l) #[] #[], .pointer (some ⟨bp, 0, none⟩), .pointer (some ⟨bs, 0, none⟩)] w fun e W' => (∃ v, e = .returned v) ∧
      ((∃ xs : List Nat, xs = openL g x y 4 ∧ J xs W') ∨ (∃ pre : List Nat, (∃ i, i ≤ 4 ∧ pre = openL g x y i) ∧ Jx pre W')) := by
  refine callsIn_of_wp Tryd.func86 rfl trivial ?_ rfl
  simp only [Tryd.ntmps86, List.size_toArray, List.length_cons, List.length_nil, Nat.reduceAdd, Nat.reduceSub, Array.replicate_succ, Array.replicate_zero, List.push_toArray, List.append_toArray, List.nil_append, List.cons_append]
  have fw : ∀ f, Fence.wide.fn f := fun _ => trivial
  have HJ := Lib.hid hJa
  have Ho := Lib.hid ho
  have Hx := Lib.hid hx
  have Hy := Lib.hid hy
  clear hJa ho hx hy
  gi_wp2_with (first | (with_reducible refine And.intro (fw _) ?_) | (gi_at_call 87; refine (callsIn_wide.2 (overSides_lit _)).mono ?_; rintro e W' ⟨rfl, hb⟩; have h0' := abides_below HJ.out h0 hb; have hA' := hA.below hb hA.lt; have hB' := hB.below hb hB.lt; clear hb h0 hA hB))
  gi_loopw [7] (fun i wr => BesIt J bp bs g x y i wr) (fun i _ => 4 - (intOf i).toNat)
  case atStart => exact ⟨0, by omega, rfl, [], rfl, h0', hA', hB'⟩
  case round =>
    clear h0' hA' hB'
    obtain ⟨k, hk, rfl, pre, hpre, hJ, hAr, hBr⟩ := hrel
    by_cases hlt : k < 4
    · have l2 : (k : Int) < 4 := by omega
      have hsp : #[Value.int .i8 x, Value.int .i8 y] = arr 2 (sp x y) := rfl
      have k0 : wr.cell? ⟨bs, 0, none⟩ = some (Value.int .i8 x) := hBr.cell (show 0 < 2 by omega)
      have k1 : wr.cell? ⟨bs, 1, none⟩ = some (Value.int .i8 y) := hBr.cell (show 1 < 2 by omega)
      have hlen : pre.length < 4 := by have := openL_len (g := g) (x := x) (y := y) (i := k); rw [hpre]; omega
      cases hc : closedB g k x y
      · have Hc := Lib.hid hc
        have Hp : Hid (pre ++ [k] = openL g x y (k + 1)) := Lib.hid (by rw [hpre]; exact openL_yes hc)
        have Hl := Lib.hid hlen
        clear hc hpre hlen
        have tk_t1 : True := trivial
        gi_wp2_with (first | (with_reducible refine And.intro (fw _) ?_) | (have _t := tk_t1; refine wpListIn_getA rfl _ _ rfl _ _ rfl hAr (rowTab _ _ rfl) (by omega) ?_; clear tk_t1) | (gi_at_call 88; refine (callsIn_wide.2 (isOpen_any g hg Ho.out k hlt x y Hx.out Hy.out _)).mono ?_; rintro e W' ⟨rfl, hb⟩; rw [Hc.out]; have hJ2 := abides_below HJ.out hJ hb; have hA2 := hAr.below hb hAr.lt; have hB2 := hBr.below hb hBr.lt; have k2 : W'.cell? ⟨bs, 0, none⟩ = some (Value.int .i8 x) := hB2.cell (show 0 < 2 by omega); have k3 : W'.cell? ⟨bs, 1, none⟩ = some (Value.int .i8 y) := hB2.cell (show 1 < 2 by omega); clear hb hJ hAr hBr k0 k1) | (gi_at_call 89; refine (callsIn_wide.2 (over_any k hlt x y Hx.out Hy.out _)).mono ?_; rintro e W' ⟨rfl, hb⟩; have hJ3 := abides_below HJ.out hJ2 hb; have hA3 := hA2.below hb hA2.lt; have hB3 := hB2.below hb hB2.lt; clear hb hJ2 hA2 hB2 k2 k3; obtain ⟨fn, tmps, assign, body, hy, hR⟩ := hY pre k _ hJ3 Hl.out))
        refine hR.mono ?_
        rintro e W3 (⟨rfl, hJ4, hk4⟩ | ⟨rfl, hJx4⟩)
        · gi_wp2
          go_roundw
          case rel => exact (⟨k + 1, by omega, by go_num, _, Hp.out, hJ4, hk4 (bp, 122, pas g) (by simp) hA3, hk4 (bs, 2, sp x y) (by simp) hB3⟩ : BesIt J bp bs g x y _ _)
          case measure => simp [intOf]; omega
        · gi_wp2
          refine bodyPost_ret (results_none rfl _ _ _) rfl ?_
          exact ⟨⟨_, rfl⟩, .inr ⟨_, ⟨k + 1, by omega, Hp.out⟩, hJx4⟩⟩
      · have Hc := Lib.hid hc
        have Hp : Hid (pre = openL g x y (k + 1)) := Lib.hid (by rw [hpre]; exact openL_no hc)
        clear hc hpre hlen
        have tk_t1 : True := trivial
        gi_wp2_with (first | (with_reducible refine And.intro (fw _) ?_) | (have _t := tk_t1; refine wpListIn_getA rfl _ _ rfl _ _ rfl hAr (rowTab _ _ rfl) (by omega) ?_; clear tk_t1) | (gi_at_call 88; refine (callsIn_wide.2 (isOpen_any g hg Ho.out k hlt x y Hx.out Hy.out _)).mono ?_; rintro e W' ⟨rfl, hb⟩; rw [Hc.out]; have hJ2 := abides_below HJ.out hJ hb; have hA2 := hAr.below hb hAr.lt; have hB2 := hBr.below hb hBr.lt; clear hb hJ hAr hBr k0 k1))
        go_roundw
        case rel => exact (⟨k + 1, by omega, by go_num, _, Hp.out, hJ2, hA2, hB2⟩ : BesIt J bp bs g x y _ _)
        case measure => simp [intOf]; omega
    · obtain rfl : k = 4 := by omega
      gi_wp2
      go_end0
      exact ⟨⟨_, rfl⟩, .inl ⟨pre, hpre, hJ⟩⟩

theorem beside1_stops (bp bs : Nat) (g : Nat → Int) (hg : Fits g) (ho : okB g = true) (x y : Int) (hx : 0 ≤ x ∧ x ≤ 9) (hy : 0 ≤ y ∧ y ≤ 9) (w : World) (hA : At w bp 122 (pas g)) (hB : At w bs 2 (sp x y)) :
    SeqStopsK Fence.wide 2 Tryd.prog 86 #[.pointer (some ⟨bp, 0, none⟩), .pointer (some ⟨bs, 0, none⟩)] (fun k : Nat => #[.agg (arr 2 (sp (nxX k x) (nxY k y)))]) (KpL (besK bp bs g x y)) (fun xs => xs = openL g x y 4) (fun pre => ∃ i, i ≤ 4 ∧ pre = openL g x y i) 4 w :=
  fun l J Jx W' hb hJa _ hY h0 => beside1_in 2 (by omega) l bp bs g hg ho x y hx hy _ J Jx hJa hY W' (hA.below hb hA.lt) (hB.below hb hB.lt) h0

def BesGiven (g : Nat → Int) (x y : Int) (w : World) (e : Ending) (w' : World) : Prop := ∃ bp bs, e = .returned (.func (.func 86) #[] #[.pointer (some ⟨bp, 0, none⟩), .pointer (some ⟨bs, 0, none⟩)]) ∧ w.heap.size ≤ bp ∧ w.heap.size ≤ bs ∧ Mem w (besK bp bs g x y) w'
theorem beside_any (g : Nat → Int) (x y : Int) (w : World) : Calls Tryd.prog 67 #[.agg (arr 122 (pas g)), .agg (arr 2 (sp x y))] w (BesGiven g x y w) := by
  have hM := Mem.nil w
  have tk_b1 : True := trivial; have tk_b2 : True := trivial
  go_enter Tryd.func67, Tryd.ntmps67
  go_wp2_with (first | (have _t := tk_b1; refine wpList_box rfl _ _ rfl _ _ rfl hM ?_; intro b1 W' hb1 hM'; clear hM tk_b1; have hM := hM'; clear hM') | (have _t := tk_b2; refine wpList_box rfl _ _ rfl _ _ rfl hM ?_; intro b2 W' hb2 hM'; clear hM tk_b2; have hM := hM'; clear hM'))
  go_ret
  exact ⟨b1, b2, rfl, hb1, hb2, hM.swap⟩


set_option maxRecDepth 100000 in
set_option maxHeartbeats 2000000 in
/-- slices.AppendSeq of nothing and an iterator of spots, told by its contract. -/
theorem appendSeq_any {α : Type} (px py : α → Int) {gf : Nat} {lb : Array Value} {S Sp : List α → Prop} {N : Nat} (K : Blocks) (eg : ∀ args w, (callFunc gf args).run Tryd.prog w = .ok (.enter gf args) w) (hN : N ≤ 1048576) (l : List (Int × Int)) (hS : ∀ xs, S xs → xs.map (fun c => (px c, py c)) = l)
    (w : World) (hA : Mem w K w) (hseq : ∀ W1, (∀ e ∈ K, At W1 e.1 e.2.1 e.2.2) → SeqStopsK Fence.wide 2 Tryd.prog gf lb (fun x => #[.agg (arr 2 (sp (px x) (py x)))]) (KpL K) S Sp N W1) :
    Calls Tryd.prog 85 #[.slice none 0 0, .func (.func gf) #[] lb] w (GivesL w l) := by
  have hM := hA
  have Hq := Lib.hid hseq
  have HN := Lib.hid hN
  have HS := Lib.hid hS
  clear hA hseq hN hS
  refine (callsIn_wide (n := 3)).1 ?_
  refine callsIn_of_wp_marks Tryd.func85 rfl trivial ?_ rfl
  simp only [Tryd.ntmps85, List.size_toArray, List.length_cons, List.length_nil, Nat.reduceAdd, Nat.reduceSub, Array.replicate_succ, Array.replicate_zero, List.push_toArray, List.append_toArray, List.nil_append, List.cons_append]
  refine wpIn_wide.2 ?_
  have tk_b2 : True := trivial
  go_wp2_with (first | (have _t := tk_b2; refine wpList_box1 rfl _ _ rfl _ rfl rfl hM ?_; intro b2 W' hb2 hM'; clear hM tk_b2; have hM := hM'; clear hM'))
  have ats : ∀ {b : Base} {X : World}, Mem b K X → ∀ e ∈ K, At X e.1 e.2.1 e.2.2 := fun h e he => by
    obtain ⟨i, hi⟩ := List.getElem?_of_mem he
    exact h.ats i _ _ _ hi
  refine (wpIn_wide (n := 3)).1 ?_
  refine range_rel (α := α) (px := px) (py := py) (gf := gf) (lb := lb)
    (fun pre => VarL w.heap.size b2 K 2 (pre.map fun c => (px c, py c)).length (sps (sI (pre.map fun c => (px c, py c))))) ((b2, 1, fun _ => .slice none 0 0) :: K)
    rfl eg (Hq.out _ (ats hM.drop)) (fun {A B C} h k => kpL_t h k) (fun X l o o' h ho => kpL_b X l o o' h ho)
    (fun _ _ _ _ _ _ _ h h' hm hm' => varL_det h h' hm hm') (fun _ _ _ _ _ _ _ _ h' _ hm' e he _ => ats (varL_mem h' hm') e he) rfl rfl rfl rfl rfl rfl (by decide) (by simp) (by simp) (.inl ⟨rfl, rfl⟩) hM ?body ?done
  case body =>
    intro l pre x bx X Bs hbx hI hM2 hlen
    clear hM
    have hM := hM2
    clear hM2
    have hl : (pre.map fun c => (px c, py c)).length ≤ 1048576 := by
      have := HN.out
      simp only [List.length_map]; omega
    have Hy : Hid ((pre ++ [x]).map (fun c => (px c, py c)) = pre.map (fun c => (px c, py c)) ++ [(px x, py x)]) := Lib.hid (by simp)
    generalize hu : px x = u at *
    generalize hv : py x = v at *
    generalize hp : pre.map (fun c => (px c, py c)) = p at *
    rcases hI with ⟨hn, rfl⟩ | ⟨b, c, F, hb, hnc, hF, rfl⟩
    · have Hq2 : Hid (∀ q, q < 2 → sp u v (0 + q) = sps (sI (p ++ [(u, v)])) q) := Lib.hid (fun q hq => by have := spsI_new p u v hq; rw [hn, Nat.zero_mul, Nat.zero_add] at this; rw [Nat.zero_add]; exact this)
      refine wpIn_block (region_round (fun ⟨_, _, h⟩ => h) rfl ?_)
      have tk_r3 : True := trivial; have tk_r4 : True := trivial; have tk_b3 : True := trivial; have tk_p1 : True := trivial
      go_wp2_with (first | (have _t := tk_r3; (refine wpList_get1 rfl _ _ rfl _ _ rfl hM 1 rfl spots_cell (by omega) _ rfl ?_); clear tk_r3) | (have _t := tk_r4; (refine wpList_get rfl _ _ rfl _ _ rfl hM 0 rfl (rowTab _ _ rfl) (by omega) ?_); clear tk_r4) | (have _t := tk_b3; refine wpList_slice1 rfl _ _ _ rfl _ _ rfl _ spot_under spot_info (by omega) (by omega) hM ?_; intro b3 W' hb3 hM'; clear hM tk_b3; have hM := hM'; clear hM') | (have _t := tk_p1; refine wpList_push0 rfl _ _ _ rfl _ 2 _ _ spot_under spot_infoB rfl (by omega) rfl _ _ rfl hM (sps (sI (p ++ [(u, v)]))) Hq2.out ?_; intro bL cL FL W' hbL hcL hFL hM'; clear hM tk_p1; have hM := hM'; clear hM') | (refine wpList_set1 rfl _ _ _ rfl _ _ rfl _ rfl rfl hM 2 rfl (by assumption) spots_cell (by omega) ?_; intro W' hM'; clear hM; have hM := hM'; clear hM'; simp [List.set, Act.eval] at hM))
      show ∃ Bs, _ ∧ Mem _ Bs _
      have hM' := hM.re 2 rfl (fun _ => .slice (some ⟨bL, 0, none⟩) 1 cL) (fun k hk => by
        obtain rfl : k = 0 := by omega
        rfl)
      simp only [List.set] at hM'
      refine ⟨_, ?_, hM'.skip⟩
      simp only [Hy.out, List.length_append, hn]
      exact .inr ⟨bL, cL, FL, hbL, hcL, hFL, rfl⟩
    · have hM' := hM.swap
      clear hM
      have hM := hM'
      clear hM'
      have Hq2 : Hid (∀ q, q < 2 → sp u v (0 + q) = sps (sI (p ++ [(u, v)])) (p.length * 2 + q)) := Lib.hid (fun q hq => by rw [Nat.zero_add]; exact spsI_new p u v hq)
      have Hf : Hid (∀ q, q < p.length * 2 → F q = sps (sI (p ++ [(u, v)])) q) := Lib.hid (fun q hq => by rw [hF q hq]; exact spsI_old _ hq)
      clear hF
      refine wpIn_block (region_round (fun ⟨_, _, h⟩ => h) rfl ?_)
      have tk_r3 : True := trivial; have tk_r4 : True := trivial; have tk_b3 : True := trivial; have tk_p1 : True := trivial
      go_wp2_with (first | (have _t := tk_r3; (refine wpList_get1 rfl _ _ rfl _ _ rfl hM 2 rfl spots_cell (by omega) _ rfl ?_); clear tk_r3) | (have _t := tk_r4; (refine wpList_get rfl _ _ rfl _ _ rfl hM 1 rfl (rowTab _ _ rfl) (by omega) ?_); clear tk_r4) | (have _t := tk_b3; refine wpList_slice1 rfl _ _ _ rfl _ _ rfl _ spot_under spot_info (by omega) (by omega) hM ?_; intro b3 W' hb3 hM'; clear hM tk_b3; have hM := hM'; clear hM') | (have _t := tk_p1; refine wpList_push1 rfl _ _ _ rfl _ 2 _ _ spot_under spot_infoB rfl (by omega) _ _ _ _ rfl hb hnc hl _ _ rfl sp_one0 hM (sps (sI (p ++ [(u, v)]))) Hf.out Hq2.out ?_; intro bL cL FL W' hbL hcL hFL hM'; clear hM tk_p1; have hM := hM'; clear hM') | (refine wpList_set1 rfl _ _ _ rfl _ _ rfl _ rfl rfl hM 2 rfl (by assumption) spots_cell (by omega) ?_; intro W' hM'; clear hM; have hM := hM'; clear hM'; simp [List.set, Act.eval] at hM))
      show ∃ Bs, _ ∧ Mem _ Bs _
      have hM' := hM.re 2 rfl (fun _ => .slice (some ⟨bL, 0, none⟩) (p.length + 1) cL) (fun k hk => by
        obtain rfl : k = 0 := by omega
        rfl)
      simp only [List.set] at hM'
      refine ⟨_, ?_, hM'.skip⟩
      simp only [Hy.out, List.length_append]
      exact .inr ⟨bL, cL, FL, hbL, hcL, hFL, rfl⟩
  case done =>
    rename_i K7 hK7
    intro D xs X Bs hD hxs hI hM2 hK
    have hsz : w.heap.size ≤ W'.heap.size := hM.size
    clear hM
    rw [HS.out xs hxs] at hI
    have hM : Mem (Base.round w W'.heap.size X) Bs X := hM2.base ⟨hM2.below, KeepsFrom.refl _ _⟩
    clear hM2
    show K7 _ _
    refine hK7 _ _ ?_
    dsimp only
    rcases hI with ⟨hn, rfl⟩ | ⟨b, c, F, hb, hnc, hF, rfl⟩
    · go_wp2_with (first | (refine wpList_get1 rfl _ _ rfl _ _ rfl hM 0 rfl spots_cell (by omega) _ rfl ?_))
      have hK' := hM.good.2.same D _ hD hK rfl
      refine leave_marks hK' _ (results_tmp rfl _ _ _) ?_
      exact ⟨_, rfl, .inl ⟨rfl, hn, Mem.start (below_mark hM.good.1 (Nat.le_trans hsz hD))⟩⟩
    · go_wp2_with (first | (refine wpList_get1 rfl _ _ rfl _ _ rfl hM 1 rfl spots_cell (by omega) _ rfl ?_))
      have hK' := hM.good.2.same D _ hD hK rfl
      refine leave_marks hK' _ (results_tmp rfl _ _ _) ?_
      refine ⟨_, rfl, .inr ⟨b, c, F, rfl, hb, hnc, hF, ?_⟩⟩
      exact (Mem.start (w := Base.of w) (below_mark hM.good.1 (Nat.le_trans hsz hD))).old (at_mark hM.at0 hK') (fun i p h => by simp at h)
end Go.Proofs.YtdmhdljknfkajaaDoor
