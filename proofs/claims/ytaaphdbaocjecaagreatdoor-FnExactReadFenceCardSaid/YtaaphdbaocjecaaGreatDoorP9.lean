/-
  Several texts in one: OpenRf, CutLS, ReadFeK, ReadFeS, ReadFeO.
-/
import Derived.Test.YtaaphdbaocjecaaGreatDoorP1
import Derived.Test.YtaaphdbaocjecaaGreatDoorP8
import Derived.Stop.LaidErr
import Derived.Lib.LaidTab
import Derived.Lay
import Derived.ShapedOpen
import Derived.ChangeAgain
import Derived.Test.YtaaphdbaocjecaaGreatDoorP7
import Derived.Laws.Strings2
import Derived.Laws.Strings3
/-
  What the rows of the texts read take out of their condition and of the world's shape: the errors, the library's errors of numbers, the table of powers, the variable that Cut reads; the wrap that keeps the shape.
-/
namespace Go.Proofs.YtaaphdbaocjecaaGreatDoor
open Go Go.RowKit Go.ChangeShapes Go.WideShapes Go.ChangeAt

theorem tabP_dataR {H : Type} : (Rows.laid_internal_strconv_uint64pow10 : DataW H) = Lib.tabData .u64 Lib.pow10Tab := rfl
theorem rdEnv_of_laid {W : World} (h : laidMetH Tryz.prog errsLaid W) (hs : W.ShapedOpen Tryz.prog) : ∃ a, RdEnv a W := by
  obtain ⟨a, hE⟩ := errs_of_laid h
  rw [MakeChecks.laidMetH_plain _ _ _ (by kernel_rfl)] at h
  have hT : TabP W := Lib.tabIs_of_head (k := .u64) (zs := Lib.pow10Tab) (n := 20) (t := 148) (e := 124) tabP_g (by kernel_rfl) Tryz.underlying148 Tryz.underlying124 (by kernel_rfl) (by kernel_rfl) (by have h' := h.tail.tail; rw [tabP_dataR] at h'; exact h')
  have h4 := h.tail.tail.tail.tail
  obtain ⟨a1, s1, v1, -⟩ := laid_sentinel (tp := 165) (te := 167) (ts := 9) h4 numE_g2 (show (Tryz.prog.globals[10]?).map (·.type) = some 45 by kernel_rfl) Tryz.underlying45 row_errT Tryz.underlying165 Tryz.underlying167 rfl rfl Tryz.underlying9 cells_es cells_str
  obtain ⟨a2, s2, v2, -⟩ := laid_sentinel (tp := 165) (te := 167) (ts := 9) h4.tail numE_g1 (show (Tryz.prog.globals[9]?).map (·.type) = some 45 by kernel_rfl) Tryz.underlying45 row_errT Tryz.underlying165 Tryz.underlying167 rfl rfl Tryz.underlying9 cells_es cells_str
  exact ⟨a, ⟨hE, ⟨⟨_, _, v2⟩, _, _, v1⟩, maxP_of_shape hs⟩, hT⟩

section
variable {H : Type} {enc : TypeId × Value → H}
/-- The wrap, a condition beside it and the world's shape kept. -/
theorem lifted_shaped {a : Assume} {C : Checked} {os : Os} {f : FuncId} {fn : Func} {s : ChangeSpec} {conds : List PathCond} {apart fresh handsOn again : Bool} {X : World → Array Value → Prop}
    (hX : ∀ (w w' : World) (args : Array Value), w.heap = w'.heap → X w args → X w' args)
    (own : ownKnob C.prog.godebug = none) (started : os.Started) (noInit : C.prog.inits.idxOf? f = none) (hfn : C.prog.funcs[f]? = some fn)
    (witness : ∃ (w : World) (tape : Tape) (i : Input), w.os = os ∧ (w.forCall tape i).Shaped C.prog ∧ i.vars = [] ∧ Input.okWide C.prog (w.forCall tape i) .any w.heap.size f i ∧
      ((s.pre enc C.prog fn conds apart (w.forCall tape i).memory i.args ∧ X (w.forCall tape i).memory i.args) ∧ sizedMet enc C.prog fn (OpenSpec.ofChange s) apart (w.forCall tape i).memory i.args) ∧ a.holds C.prog (lone (Frame.enter C.prog f i.args .normal) [] (w.forCall tape i)))
    (contract : ∀ (W : World) (base : Nat) (args : Array Value) (ds gs : List (DataW H)) (before : List MemPlace),
      (∀ (j : Nat) t v, fn.params[j]? = some t → args[j]? = some v → Value.okWide C.prog W .any base t v) →
      DataW.Whole enc C.prog fn.params.toList s.vars apart W args.toList ds gs before → X W args → W.ShapedOpen C.prog →
      Calls C.prog f args W fun e W' => ∃ v, e = .returned v ∧ s.post enc C.prog fn apart fresh handsOn again W args v W') :
    ReturnsInHanded a C os f .any (fun w args => (s.pre enc C.prog fn conds apart w args ∧ X w args) ∧ sizedMet enc C.prog fn (OpenSpec.ofChange s) apart w args) (s.post enc C.prog fn apart fresh handsOn again) := by
  refine returnsInHanded_of_calls own started noInit witness fun w tape i _ hsh _ hok hpre _ => ?_
  obtain ⟨_, _, _, fn', hfn', _, _, _, _, hval⟩ := hok
  obtain rfl : fn' = fn := Option.some.inj (hfn'.symm.trans hfn)
  obtain ⟨⟨⟨ds, gs, before, hw, -⟩, hx⟩, -⟩ := hpre
  exact (contract (w.forCall tape i) w.heap.size i.args ds gs before hval (DataW.Whole.of_heap (w' := w.forCall tape i) (by rfl) hw) (hX _ _ _ (by rfl) hx) hsh).mono fun e W' ⟨v, he, hp⟩ => by
    subst he
    exact ChangeSpec.post_blind hp
end
end Go.Proofs.YtaaphdbaocjecaaGreatDoor

/-
  spec.l01Cut by contract.
-/
namespace Go.Proofs.YtaaphdbaocjecaaGreatDoor
open Go Go.RowKit Go.BigFrame

theorem wpList_subL {ops : Array Oper} {rest : List Oper} {o : Oper} {a : Act} {W : World} {Q : Exit → Act → World → Prop} (hgd : o.guard = none) (x hi : Operand) (ho : o.op = .slice 9 x none (some hi) none) (l : List UInt8) (hx : a.eval x = .string (bs l)) (j : Nat) (hhi : a.eval hi = .int .i64 j) (h2 : j ≤ l.length)
    (h : wpList Tryz.prog ops Q rest (a.put o.dst (.string (bs (l.take j)))) W) : wpList Tryz.prog ops Q (o :: rest) a W := by
  refine wpList_plain hgd fun K hK => ?_
  have hr := run_slice_string_to_if (P := Tryz.prog) W 9 (bs l) .i64 (j : Int) Tryz.underlying9
  rw [if_pos ⟨by omega, by rw [bs_size]; omega⟩, Int.toNat_natCast, bs_extract, show sub l 0 j = l.take j by simp [sub]] at hr
  have hq2 : (Instr.sliceAt 9 (.string (bs l)) none (some (.int .i64 (j : Int))) none).run Tryz.prog W = .ok (.string (bs (l.take j))) W := by
    unfold Instr.sliceAt
    simp only [Sem.run_bind, run_underlying Tryz.underlying9, Result.andThen_ok, hr]
  unfold Oper.wp
  simp only [execOp, ho, hx, hhi, Option.map_some, Option.map_none, Sem.run_bind, Sem.run_pure, hq2, Result.andThen_ok]
  exact hK _ _ h
/-- A byte taken from the end. -/
def lastC (c : UInt8) (l : List UInt8) : Bool := l.getLast? == some c
def cutR (c : UInt8) (l : List UInt8) : List UInt8 := if lastC c l then l.dropLast else l
theorem cutR_len (c : UInt8) (l : List UInt8) : (cutR c l).length ≤ l.length := by
  unfold cutR
  split
  · simp
  · exact Nat.le_refl _
theorem lastC_at {c : UInt8} {l : List UInt8} {k : Nat} (hk : k + 1 = l.length) : lastC c l = decide (byteL l k = c.toNat) := by
  have hlt : k < l.length := by omega
  unfold lastC
  rw [List.getLast?_eq_getElem?, show l.length - 1 = k by omega, List.getElem?_eq_getElem hlt, byteL_eq hlt]
  by_cases e : l[k] = c
  · rw [e]; simp
  · rw [decide_eq_false (fun h => e (UInt8.toNat_inj.1 h)), beq_eq_false_iff_ne]
    intro h
    exact e (Option.some.inj h)
theorem cutR_take {c : UInt8} {l : List UInt8} {k : Nat} (hk : k + 1 = l.length) (h : lastC c l = true) : cutR c l = l.take k := by
  unfold cutR
  rw [h, if_pos rfl, List.dropLast_eq_take, show l.length - 1 = k by omega]
theorem cutR_no {c : UInt8} {l : List UInt8} (h : lastC c l = false) : cutR c l = l := by unfold cutR; rw [h]; rfl
set_option maxRecDepth 100000 in
set_option maxHeartbeats 2000000 in
theorem l01Cut_any (l : List UInt8) (c : UInt8) (n : Int) (hn : n = c.toNat) (hl : l.length ≤ 1048576) (w : World) :
    Calls Tryz.prog 16 #[.string (bs l), .int .u8 n] w fun e w' => e = .returned (.tuple #[.string (bs (cutR c l)), .bool (lastC c l)]) ∧ Below w.heap.size w w' := by
  have hM := Mem.nil w
  have hz : (bs l).size = l.length := bs_size l
  by_cases h0 : l.length = 0
  · obtain rfl : l = [] := List.eq_nil_of_length_eq_zero h0
    have q0 : decide ((([] : List UInt8).length : Int) = 0) = true := rfl
    have Hq := Lib.hid (show cutR c [] = [] ∧ lastC c [] = false from ⟨by simp [cutR, lastC], by simp [lastC]⟩)
    go_enter Tryz.func16, Tryz.ntmps16
    go_wp2
    refine bodyPost_ret (results_tmp2 rfl _ _ _) rfl ?_
    rw [Hq.out.1, Hq.out.2]
    exact ⟨rfl, hM.below⟩
  obtain ⟨k, hk⟩ : ∃ k, k + 1 = l.length := ⟨l.length - 1, by omega⟩
  have hkl : k < l.length := by omega
  have q0 : decide ((l.length : Int) = 0) = false := decide_eq_false (by omega)
  have q1 : ((l.length : Int) == 0) = false := by rw [beq_eq_false_iff_ne]; omega
  have q2 : ¬ (l.length : Int) = 0 := by omega
  have c1 : IntKind.i64.wrap ((l.length : Int) - 1) = (k : Int) := by rw [IntWalk.i64_in _ (by omega)]; omega
  obtain ⟨v, bv⟩ : ∃ v : Int, ((byteL l k : Nat) : Int) = v := ⟨_, rfl⟩
  have hla := lastC_at (c := c) hk
  by_cases he : v = n
  · have hc : lastC c l = true := by rw [hla, decide_eq_true]; omega
    have Hq := Lib.hid (And.intro (cutR_take hk hc) hc)
    have q3 : (v == n) = true := by rw [beq_iff_eq]; exact he
    have q4 : decide (v = n) = true := decide_eq_true he
    have q5 : decide (v ≠ n) = false := decide_eq_false (by omega)
    clear hla hc hn h0
    have He := Lib.hid he
    clear he
    go_enter Tryz.func16, Tryz.ntmps16
    go_wp2_with (first | (refine wpList_gidx rfl _ _ rfl l rfl k hkl rfl _ bv ?_) | (refine wpList_subL rfl _ _ rfl l rfl k rfl (by omega) ?_))
    refine bodyPost_ret (results_tmp2 rfl _ _ _) rfl ?_
    rw [Hq.out.1, Hq.out.2]
    exact ⟨rfl, hM.below⟩
  · have hc : lastC c l = false := by rw [hla, decide_eq_false]; omega
    have Hq := Lib.hid (And.intro (cutR_no hc) hc)
    have q3 : (v == n) = false := by rw [beq_eq_false_iff_ne]; exact he
    have q4 : decide (v = n) = false := decide_eq_false he
    have q5 : decide (v ≠ n) = true := decide_eq_true he
    clear hla hc hn h0
    have He := Lib.hid he
    clear he
    go_enter Tryz.func16, Tryz.ntmps16
    go_wp2_with (first | (refine wpList_gidx rfl _ _ rfl l rfl k hkl rfl _ bv ?_))
    refine bodyPost_ret (results_tmp2 rfl _ _ _) rfl ?_
    rw [Hq.out.1, Hq.out.2]
    exact ⟨rfl, hM.below⟩
end Go.Proofs.YtaaphdbaocjecaaGreatDoor

/-
  What spec's strict reading makes of a text of a fence.
-/
namespace Go.Proofs.YtaaphdbaocjecaaGreatDoor
open Go Go.RowKit Go.BigFrame

theorem lastC_snoc {c : UInt8} {l : List UInt8} (h : lastC c l = true) : l = cutR c l ++ [c] := by
  have e : l.getLast? = some c := by unfold lastC at h; simpa using h
  unfold cutR
  rw [h, if_pos rfl]
  obtain ⟨r, rfl⟩ := List.getLast?_eq_some_iff.1 e
  simp
theorem lastC_app (u : List UInt8) (a c : UInt8) : lastC c (u ++ [a]) = decide (a = c) := by
  unfold lastC
  by_cases e : a = c
  · subst e; simp
  · rw [decide_eq_false e, beq_eq_false_iff_ne]; simp [e]
theorem cutR_app (u : List UInt8) (c : UInt8) : cutR c (u ++ [c]) = u := by
  unfold cutR
  rw [lastC_app]; simp
def wfR (wd : List UInt8) : List UInt8 := if lastC 124 wd then cutR 124 wd else cutR 95 wd
def wfU (wd : List UInt8) : List UInt8 := (partsC 44 (wfR wd)).getD 0 []
def wfV (wd : List UInt8) : List UInt8 := (partsC 44 (wfR wd)).getD 1 []
def wfH (wd : List UInt8) : Nat → Int := hu3 (numV (wfU wd)) (numV (wfV wd)) (lastC 95 wd)
structure WfOk (wd : List UInt8) : Prop where
  e : (lastC 124 wd || lastC 95 wd) = true
  p : (partsC 44 (wfR wd)).length = 2
  u : numB9 (wfU wd) = true
  v : numB9 (wfV wd) = true
  x : numV (wfU wd) < 10
  y : numV (wfV wd) < 10
theorem last_both {wd : List UInt8} (h : lastC 124 wd = true) : lastC 95 wd = false := by
  rw [lastC_snoc h, lastC_app]; rfl
theorem WfOk.told {wd : List UInt8} (h : WfOk wd) : hurP (wfH wd) = true ∧ ∀ (hs : Nat → Nat → Int) (k : Nat), hs k = wfH wd → wd = fenceW hs k := by
  constructor
  · unfold hurP
    rw [isB_most]
    have h1 : inB 0 9 (wfH wd 0) = true := decide_eq_true ⟨numV_pos, by have := h.x; show numV (wfU wd) ≤ 9; omega⟩
    have h2 : inB 0 9 (wfH wd 1) = true := decide_eq_true ⟨numV_pos, by have := h.y; show numV (wfV wd) ≤ 9; omega⟩
    rw [h1, h2]; rfl
  · intro hs k e
    have e1 : wfR wd = wfU wd ++ 44 :: wfV wd := (parts_two.1 (two_of h.p)).1
    have e3 : spotT (numV (wfU wd)) (numV (wfV wd)) = wfR wd := by
      unfold spotT
      rw [← num_back h.u, ← num_back h.v, e1]; simp
    unfold fenceW
    rw [e, show wfH wd 0 = numV (wfU wd) from rfl, show wfH wd 1 = numV (wfV wd) from rfl, e3]
    have e4 : (wfH wd 2 == 1) = lastC 95 wd := by
      show ((if lastC 95 wd then (1 : Int) else 0) == 1) = lastC 95 wd
      cases lastC 95 wd <;> rfl
    rw [e4]
    cases h1 : lastC 124 wd
    · have h2 : lastC 95 wd = true := by have := h.e; rw [h1] at this; simpa using this
      rw [h2, show sepB true = 95 from rfl, show wfR wd = cutR 95 wd by unfold wfR; rw [h1]; rfl]
      exact lastC_snoc h2
    · rw [last_both h1, show sepB false = 124 from rfl, show wfR wd = cutR 124 wd by unfold wfR; rw [h1]; rfl]
      exact lastC_snoc h1
theorem wfOk_of {wd : List UInt8} {hs : Nat → Nat → Int} {k : Nat} (hb : hurP (hs k) = true) (e : wd = fenceW hs k) : WfOk wd ∧ lastC 95 wd = (hs k 2 == 1) := by
  obtain ⟨⟨x0, x1⟩, y0, y1⟩ := hurP_most hb
  have key : lastC 124 wd = !(hs k 2 == 1) ∧ lastC 95 wd = (hs k 2 == 1) ∧ wfR wd = spotT (hs k 0) (hs k 1) := by
    rw [e]
    unfold fenceW wfR
    cases hs k 2 == 1
    · rw [show sepB false = 124 from rfl, lastC_app, lastC_app]
      exact ⟨rfl, rfl, by rw [decide_eq_true rfl, if_pos rfl]; exact cutR_app _ _⟩
    · rw [show sepB true = 95 from rfl, lastC_app, lastC_app]
      exact ⟨rfl, rfl, by rw [decide_eq_false (by decide), if_neg (by decide)]; exact cutR_app _ _⟩
  obtain ⟨k1, k2, k3⟩ := key
  have eU : wfU wd = numB (hs k 0) := by unfold wfU; rw [k3, spotT_parts]; rfl
  have eV : wfV wd = numB (hs k 1) := by unfold wfV; rw [k3, spotT_parts]; rfl
  refine ⟨⟨by rw [k1, k2]; cases hs k 2 == 1 <;> rfl, by rw [k3, spotT_parts]; rfl, ?_, ?_, ?_, ?_⟩, k2⟩
  · rw [eU]; exact numB_num9 (by omega) (by omega)
  · rw [eV]; exact numB_num9 (by omega) (by omega)
  · rw [eU, numV_numB (by omega) (by omega)]; omega
  · rw [eV, numV_numB (by omega) (by omega)]; omega
def wfHs (l : List UInt8) : Nat → Nat → Int := fun j => wfH ((partsC 32 l).getD j [])
theorem wf_all {l : List UInt8} {n : Nat} (hn : (partsC 32 l).length = n) (h180 : n ≤ 180) (h : ∀ j, j < n → WfOk ((partsC 32 l).getD j [])) : TellsF l n (wfHs l) := by
  refine ⟨h180, fun i hi => (h i hi).told.1, ?_⟩
  subst hn
  refine (joinT_parts (fun k hk => ?_)).symm
  rw [← (h k hk).told.2 (wfHs l) k rfl, List.getD_eq_getElem?_getD, List.getElem?_eq_getElem hk]; rfl
theorem wf_bad {l : List UInt8} {n j : Nat} (h0 : l ≠ []) (hn : (partsC 32 l).length = n) (hj : j < n) (h : ¬ WfOk ((partsC 32 l).getD j [])) (m : Nat) (gs : Nat → Nat → Int) : ¬ TellsF l m gs := fun k => by
  obtain ⟨e1, e2⟩ := k.words h0
  exact h (wfOk_of (k.2.1 j (by omega)) (e2 j (by omega))).1
theorem wf_many {l : List UInt8} {n : Nat} (h0 : l ≠ []) (hn : (partsC 32 l).length = n) (h : 180 < n) (m : Nat) (gs : Nat → Nat → Int) : ¬ TellsF l m gs := fun k => by
  have := (k.words h0).1
  have := k.1
  omega
theorem readF_no {l : List UInt8} {w W : World} {b : Nat} {f : Nat → Value} {L : Blocks} (hM : Mem (Base.of w) ((b, 0, f) :: L) W) (hb : w.heap.size ≤ b) (hno : ∀ m gs, ¬ TellsF l m gs) : ReadF l w (.returned (.tuple #[.slice (some ⟨b, 0, none⟩) 0 0, .int .i64 5])) W :=
  ⟨_, 0, fun _ _ => 0, 5, rfl, .inr ⟨b, 0, f, rfl, hb, Nat.le_refl _, fun j hj => absurd hj (by omega), hM.fewer (L' := [(b, 0, f)]) (by simp)⟩, .inr ⟨rfl, rfl, hno⟩⟩
end Go.Proofs.YtaaphdbaocjecaaGreatDoor

/-
  spec.ReadFence by contract.
-/
namespace Go.Proofs.YtaaphdbaocjecaaGreatDoor
open Go Go.RowKit Go.BigFrame

theorem hut_under : Tryz.prog.underlying 22 = some (.slice 43) := Tryz.underlying22
theorem hut_size : (Tryz.prog.info? 43).map (fun i => i.size) = some 3 := by kernel_rfl
set_option maxRecDepth 100000 in
set_option maxHeartbeats 8000000 in
theorem specReadFence_any (l : List UInt8) (hl : l.length ≤ 1048576) (w : World) :
    Calls Tryz.prog 5 #[.string (bs l)] w (ReadF l w) := by
  have hM := Mem.nil w
  have hemp := bs_isEmpty l
  by_cases h0 : l = []
  · subst h0
    have tk_b0 : True := trivial
    go_enter Tryz.func5, Tryz.ntmps5
    go_wp2_with (first | (have _t := tk_b0; refine wpList_slice0 rfl _ _ rfl 3 hut_under hut_size hM ?_; intro b0 W' hb0 hM'; clear hM tk_b0; have hM := hM'; clear hM'))
    refine bodyPost_ret (results_tmp2 rfl _ _ _) rfl ?_
    exact ⟨_, 0, fun _ _ => 0, 0, rfl, .inr ⟨b0, 0, _, rfl, hb0, Nat.le_refl _, fun j hj => absurd hj (by omega), hM⟩, .inl ⟨⟨by omega, fun i hi => absurd hi (by omega), rfl⟩, rfl⟩⟩
  have hne : (bs l).toList.isEmpty = false := by
    rw [hemp]; cases l with
    | nil => exact absurd rfl h0
    | cons a r => rfl
  obtain ⟨n, hn⟩ : ∃ n, (partsC 32 l).length = n := ⟨_, rfl⟩
  have HS := Lib.hid (splitTo_any l 32 32 n rfl hl hn)
  have Hn := Lib.hid hn
  have H0 := Lib.hid h0
  have hn0 : 1 ≤ n := by rw [← hn]; exact List.length_pos_iff.2 (partsC_ne 32 l)
  clear hemp h0 hn
  by_cases hmany : 180 < n
  · have Hb := Lib.hid (wf_many H0.out Hn.out hmany)
    have d1 : decide ((n : Int) > 180) = true := decide_eq_true (by omega)
    have d2 : (180 : Int) < n := by omega
    have tk_b0 : True := trivial; have tk_wb : True := trivial; have tk_b9 : True := trivial
    go_enter Tryz.func5, Tryz.ntmps5
    go_wp2_with (first | (have _t := tk_b0; refine wpList_slice0 rfl _ _ rfl 3 hut_under hut_size hM ?_; intro b0 W' hb0 hM'; clear hM tk_b0; have hM := hM'; clear hM') | (have _t := tk_wb; go_at_call 15; refine (HS.out _).mono ?_; rintro e W' ⟨wb, cwb, Fwb, rfl, hwb, hcwb, hF', hA', hcb⟩; have hM' := hM.fresh' hcb hA' hwb; simp only [List.cons_append, List.nil_append] at hM'; have Hwb := Lib.hid hF'; clear hM hF' hA' hcb tk_wb; have hM := hM'; clear hM') | (have _t := tk_b9; refine wpList_slice0 rfl _ _ rfl 3 hut_under hut_size hM ?_; intro b9 W' hb9 hM'; clear hM tk_b9; have hM := hM'; clear hM'))
    refine bodyPost_ret (results_tmp2 rfl _ _ _) rfl ?_
    exact readF_no hM hb9 Hb.out
  have h180 : n ≤ 180 := by omega
  have d1 : decide ((n : Int) > 180) = false := decide_eq_false (by omega)
  have d2 : ¬ (180 : Int) < n := by omega
  have HL := Lib.hid (fun j => Nat.le_trans (part_len 32 l j) hl)
  have Hbad := Lib.hid (fun j (hj : j < n) h => wf_bad H0.out Hn.out hj h)
  have Hall := Lib.hid (wf_all Hn.out h180)
  have Hws := Lib.hid (show ∀ j, wfHs l j = wfH ((partsC 32 l).getD j []) from fun j => rfl)
  have Htx := Lib.hid (show ∀ j, txF (partsC 32 l) j = .string (bs ((partsC 32 l).getD j [])) from fun j => rfl)
  clear hmany hl
  generalize partsC 32 l = ws at HS Hn HL Hbad Hall Hws Htx
  have tk_b0 : True := trivial; have tk_wb : True := trivial
  go_enter Tryz.func5, Tryz.ntmps5
  go_wp2_with (first | (have _t := tk_b0; refine wpList_slice0 rfl _ _ rfl 3 hut_under hut_size hM ?_; intro b0 W' hb0 hM'; clear hM tk_b0; have hM := hM'; clear hM') | (have _t := tk_wb; go_at_call 15; refine (HS.out _).mono ?_; rintro e W' ⟨wb, cwb, Fwb, rfl, hwb, hcwb, hF', hA', hcb⟩; have hM' := hM.fresh' hcb hA' hwb; simp only [List.cons_append, List.nil_append] at hM'; have Hwb := Lib.hid hF'; clear hM hF' hA' hcb tk_wb; have hM := hM'; clear hM'))
  go_loopw [4, 6] (fun s i wr => ∃ k : Nat, k ≤ n ∧ i = .int .i64 k ∧ Hid (∀ j, j < k → WfOk (ws.getD j [])) ∧ ∃ b1 c1 F1, s = .slice (some ⟨b1, 0, none⟩) k c1 ∧ (Base.of w).B ≤ b1 ∧ k ≤ c1 ∧ Hid (∀ j, j < k * 3 → F1 j = sHurdle (wfHs l) j) ∧ Mem (Base.of w) [(b1, c1 * 3, F1), (wb, cwb * 1, Fwb)] wr) (fun _ i _ => n - (intOf i).toNat)
  case atStart => exact ⟨0, by omega, rfl, Lib.hid (fun j hj => absurd hj (by omega)), b0, 0, _, rfl, hb0, Nat.le_refl _, Lib.hid (fun j hj => absurd hj (by omega)), hM⟩
  case round =>
    clear hM
    obtain ⟨k, hk, rfl, hok, b1, c1, F1, rfl, hb1, hnc, hFF, hM⟩ := hrel
    by_cases hlt : k < n
    · have l2 : (k : Int) < n := by omega
      have hle : k ≤ 1048576 := by omega
      obtain ⟨wd, hwd⟩ : ∃ wd, ws.getD k [] = wd := ⟨_, rfl⟩
      have e0 : Fwb k = .string (bs wd) := by rw [Hwb.out k hlt, Htx.out, hwd]
      have e1 : Fwb (k * 1) = .string (bs wd) := by rw [Nat.mul_one]; exact e0
      have hwl := HL.out k
      rw [hwd] at hwl
      have Hwd := Lib.hid hwd
      have HbK := Lib.hid (show ¬ WfOk wd → ∀ m gs, ¬ TellsF l m gs from fun h => Hbad.out k hlt (by rw [hwd]; exact h))
      clear hwd
      have HC1 := Lib.hid (l01Cut_any wd 124 124 rfl hwl)
      have HC2 := Lib.hid (l01Cut_any wd 95 95 rfl hwl)
      have HH := Lib.hid (show wfH wd = hu3 (numV (wfU wd)) (numV (wfV wd)) (lastC 95 wd) from rfl)
      cases hE : lastC 124 wd
      · cases hS : lastC 95 wd
        · have Hb := Lib.hid (HbK.out (fun h => by have := h.e; rw [hE, hS] at this; cases this))
          have hrl := cutR_len 95 wd
          obtain ⟨np, hnp⟩ : ∃ np, (partsC 44 (cutR 95 wd)).length = np := ⟨_, rfl⟩
          have HS1 := Lib.hid (splitTo_any (cutR 95 wd) 44 44 np rfl (by omega) hnp)
          rw [hE] at HC1
          rw [hS] at HC2
          clear hnp hE hS hrl hok hFF HbK
          have tk_r1 : True := trivial; have tk_t1 : True := trivial; have tk_r2 : True := trivial; have tk_t2 : True := trivial; have tk_s1 : True := trivial; have tk_b9 : True := trivial
          go_wp2_with (first | (have _t := tk_r1; refine wpList_get1 rfl _ _ rfl _ _ rfl hM 1 rfl (cellTab _ rfl) (by omega) _ (by first | exact e0 | exact e1) ?_; clear tk_r1) | (have _t := tk_t1; (go_at_call 16; refine (HC1.out _).mono ?_; rintro e W' ⟨rfl, hb'⟩; have hM' := hM.call hb'; clear hM hb'; have hM := hM'; clear hM'); clear tk_t1) | (have _t := tk_r2; refine wpList_get1 rfl _ _ rfl _ _ rfl hM 1 rfl (cellTab _ rfl) (by omega) _ (by first | exact e0 | exact e1) ?_; clear tk_r2) | (have _t := tk_t2; (go_at_call 16; refine (HC2.out _).mono ?_; rintro e W' ⟨rfl, hb'⟩; have hM' := hM.call hb'; clear hM hb'; have hM := hM'; clear hM'); clear tk_t2) | (have _t := tk_s1; go_at_call 15; refine (HS1.out _).mono ?_; rintro e W' ⟨pb, cpb, Fpb, rfl, hpb, hcpb, hF', hA', hcb⟩; have hM' := hM.fresh' hcb hA' hpb; simp only [List.cons_append, List.nil_append] at hM'; have Hpb := Lib.hid hF'; clear hM hF' hA' hcb tk_s1; have hM := hM'; clear hM') | (have _t := tk_b9; refine wpList_slice0 rfl _ _ rfl 3 hut_under hut_size hM ?_; intro b9 W' hb9 hM'; clear hM tk_b9; have hM := hM'; clear hM'))
          refine bodyPost_ret (results_tmp2 rfl _ _ _) rfl ?_
          exact readF_no hM hb9 Hb.out
        · have hR : wfR wd = cutR 95 wd := by unfold wfR; rw [hE]; rfl
          rw [hE] at HC1
          rw [hS] at HC2 HH
          have HE := Lib.hid (show (lastC 124 wd || lastC 95 wd) = true by rw [hE, hS]; rfl)
          rw [← hR] at HC2
          have hrl : (wfR wd).length ≤ 1048576 := by
            have h1 := cutR_len 95 wd
            have h2 := cutR_len 124 wd
            unfold wfR
            split <;> omega
          clear hR hE hS
          obtain ⟨np, hnp⟩ : ∃ np, (partsC 44 (wfR wd)).length = np := ⟨_, rfl⟩
          have HS1 := Lib.hid (splitTo_any (wfR wd) 44 44 np rfl hrl hnp)
          by_cases hp2 : np ≠ 2
          · have Hb := Lib.hid (HbK.out (fun h => hp2 (by rw [← hnp]; exact h.p)))
            have d3 : decide ((np : Int) ≠ 2) = true := decide_eq_true (by omega)
            have d4 : ((np : Int) == 2) = false := by rw [beq_eq_false_iff_ne]; omega
            have d5 : ¬ (np : Int) = 2 := by omega
            clear hnp hp2 hok hFF HbK
            have tk_r1 : True := trivial; have tk_t1 : True := trivial; have tk_r2 : True := trivial; have tk_t2 : True := trivial; have tk_s1 : True := trivial; have tk_b9 : True := trivial
            go_wp2_with (first | (have _t := tk_r1; refine wpList_get1 rfl _ _ rfl _ _ rfl hM 1 rfl (cellTab _ rfl) (by omega) _ (by first | exact e0 | exact e1) ?_; clear tk_r1) | (have _t := tk_t1; (go_at_call 16; refine (HC1.out _).mono ?_; rintro e W' ⟨rfl, hb'⟩; have hM' := hM.call hb'; clear hM hb'; have hM := hM'; clear hM'); clear tk_t1) | (have _t := tk_r2; refine wpList_get1 rfl _ _ rfl _ _ rfl hM 1 rfl (cellTab _ rfl) (by omega) _ (by first | exact e0 | exact e1) ?_; clear tk_r2) | (have _t := tk_t2; (go_at_call 16; refine (HC2.out _).mono ?_; rintro e W' ⟨rfl, hb'⟩; have hM' := hM.call hb'; clear hM hb'; have hM := hM'; clear hM'); clear tk_t2) | (have _t := tk_s1; go_at_call 15; refine (HS1.out _).mono ?_; rintro e W' ⟨pb, cpb, Fpb, rfl, hpb, hcpb, hF', hA', hcb⟩; have hM' := hM.fresh' hcb hA' hpb; simp only [List.cons_append, List.nil_append] at hM'; have Hpb := Lib.hid hF'; clear hM hF' hA' hcb tk_s1; have hM := hM'; clear hM') | (have _t := tk_b9; refine wpList_slice0 rfl _ _ rfl 3 hut_under hut_size hM ?_; intro b9 W' hb9 hM'; clear hM tk_b9; have hM := hM'; clear hM'))
            refine bodyPost_ret (results_tmp2 rfl _ _ _) rfl ?_
            exact readF_no hM hb9 Hb.out

          obtain rfl : np = 2 := by omega
          have Hpt := Lib.hid (show txF (partsC 44 (wfR wd)) 0 = .string (bs (wfU wd)) ∧ txF (partsC 44 (wfR wd)) 1 = .string (bs (wfV wd)) from ⟨rfl, rfl⟩)
          have HP := Lib.hid hnp
          generalize partsC 44 (wfR wd) = pp at HS1 Hpt
          clear hp2 hnp hrl
          have HN1 := Lib.hid (l01Number_any (wfU wd))
          have HN2 := Lib.hid (l01Number_any (wfV wd))
          have Hyes := Lib.hid (fun o1 o2 hx hy => (show WfOk wd from ⟨HE.out, HP.out, o1, o2, hx, hy⟩))
          have Hno := Lib.hid (show (numB9 (wfU wd) = false ∨ numB9 (wfV wd) = false ∨ 10 ≤ numV (wfU wd) ∨ 10 ≤ numV (wfV wd)) → ∀ m gs, ¬ TellsF l m gs from fun h => HbK.out (fun o => by
            rcases h with h | h | h | h
            · rw [o.u] at h; cases h
            · rw [o.v] at h; cases h
            · have := o.x; omega
            · have := o.y; omega))
          obtain ⟨hx0, hy0⟩ : 0 ≤ numV (wfU wd) ∧ 0 ≤ numV (wfV wd) := ⟨numV_pos, numV_pos⟩
          generalize numV (wfU wd) = x at HN1 Hyes Hno HH hx0
          generalize numV (wfV wd) = y at HN2 Hyes Hno HH hy0
          generalize numB9 (wfU wd) = o1 at HN1 Hyes Hno
          generalize numB9 (wfV wd) = o2 at HN2 Hyes Hno
          generalize wfU wd = tu at HN1 Hpt
          generalize wfV wd = tv at HN2 Hpt
          clear HP HbK HE
          generalize wfR wd = rs at HC1 HC2 HS1
          cases o1
          · have Hb := Lib.hid (Hno.out (.inl rfl))
            clear Hno Hyes hok hFF
            have tk_r1 : True := trivial; have tk_t1 : True := trivial; have tk_r2 : True := trivial; have tk_t2 : True := trivial; have tk_s1 : True := trivial; have tk_r3 : True := trivial; have tk_n1 : True := trivial; have tk_r4 : True := trivial; have tk_n2 : True := trivial; have tk_b9 : True := trivial
            go_wp2_with (first | (have _t := tk_r1; refine wpList_get1 rfl _ _ rfl _ _ rfl hM 1 rfl (cellTab _ rfl) (by omega) _ (by first | exact e0 | exact e1) ?_; clear tk_r1) | (have _t := tk_t1; (go_at_call 16; refine (HC1.out _).mono ?_; rintro e W' ⟨rfl, hb'⟩; have hM' := hM.call hb'; clear hM hb'; have hM := hM'; clear hM'); clear tk_t1) | (have _t := tk_r2; refine wpList_get1 rfl _ _ rfl _ _ rfl hM 1 rfl (cellTab _ rfl) (by omega) _ (by first | exact e0 | exact e1) ?_; clear tk_r2) | (have _t := tk_t2; (go_at_call 16; refine (HC2.out _).mono ?_; rintro e W' ⟨rfl, hb'⟩; have hM' := hM.call hb'; clear hM hb'; have hM := hM'; clear hM'); clear tk_t2) | (have _t := tk_s1; go_at_call 15; refine (HS1.out _).mono ?_; rintro e W' ⟨pb, cpb, Fpb, rfl, hpb, hcpb, hF', hA', hcb⟩; have hM' := hM.fresh' hcb hA' hpb; simp only [List.cons_append, List.nil_append] at hM'; have Hpb := Lib.hid hF'; clear hM hF' hA' hcb tk_s1; have hM := hM'; clear hM') | (have _t := tk_r3; refine wpList_get1 rfl _ _ rfl _ _ rfl hM 2 rfl (cellTab _ rfl) (by omega) _ ((Hpb.out 0 (by omega)).trans Hpt.out.1) ?_; clear tk_r3) | (have _t := tk_n1; (go_at_call 17; refine (HN1.out _).mono ?_; rintro e W' ⟨rfl, hb'⟩; have hM' := hM.call hb'; clear hM hb'; have hM := hM'; clear hM'); clear tk_n1) | (have _t := tk_r4; refine wpList_get1 rfl _ _ rfl _ _ rfl hM 2 rfl (cellTab _ rfl) (by omega) _ ((Hpb.out 1 (by omega)).trans Hpt.out.2) ?_; clear tk_r4) | (have _t := tk_n2; (go_at_call 17; refine (HN2.out _).mono ?_; rintro e W' ⟨rfl, hb'⟩; have hM' := hM.call hb'; clear hM hb'; have hM := hM'; clear hM'); clear tk_n2) | (have _t := tk_b9; refine wpList_slice0 rfl _ _ rfl 3 hut_under hut_size hM ?_; intro b9 W' hb9 hM'; clear hM tk_b9; have hM := hM'; clear hM'))
            refine bodyPost_ret (results_tmp2 rfl _ _ _) rfl ?_
            exact readF_no hM hb9 Hb.out
          cases o2
          · have Hb := Lib.hid (Hno.out (.inr (.inl rfl)))
            clear Hno Hyes hok hFF
            have tk_r1 : True := trivial; have tk_t1 : True := trivial; have tk_r2 : True := trivial; have tk_t2 : True := trivial; have tk_s1 : True := trivial; have tk_r3 : True := trivial; have tk_n1 : True := trivial; have tk_r4 : True := trivial; have tk_n2 : True := trivial; have tk_b9 : True := trivial
            go_wp2_with (first | (have _t := tk_r1; refine wpList_get1 rfl _ _ rfl _ _ rfl hM 1 rfl (cellTab _ rfl) (by omega) _ (by first | exact e0 | exact e1) ?_; clear tk_r1) | (have _t := tk_t1; (go_at_call 16; refine (HC1.out _).mono ?_; rintro e W' ⟨rfl, hb'⟩; have hM' := hM.call hb'; clear hM hb'; have hM := hM'; clear hM'); clear tk_t1) | (have _t := tk_r2; refine wpList_get1 rfl _ _ rfl _ _ rfl hM 1 rfl (cellTab _ rfl) (by omega) _ (by first | exact e0 | exact e1) ?_; clear tk_r2) | (have _t := tk_t2; (go_at_call 16; refine (HC2.out _).mono ?_; rintro e W' ⟨rfl, hb'⟩; have hM' := hM.call hb'; clear hM hb'; have hM := hM'; clear hM'); clear tk_t2) | (have _t := tk_s1; go_at_call 15; refine (HS1.out _).mono ?_; rintro e W' ⟨pb, cpb, Fpb, rfl, hpb, hcpb, hF', hA', hcb⟩; have hM' := hM.fresh' hcb hA' hpb; simp only [List.cons_append, List.nil_append] at hM'; have Hpb := Lib.hid hF'; clear hM hF' hA' hcb tk_s1; have hM := hM'; clear hM') | (have _t := tk_r3; refine wpList_get1 rfl _ _ rfl _ _ rfl hM 2 rfl (cellTab _ rfl) (by omega) _ ((Hpb.out 0 (by omega)).trans Hpt.out.1) ?_; clear tk_r3) | (have _t := tk_n1; (go_at_call 17; refine (HN1.out _).mono ?_; rintro e W' ⟨rfl, hb'⟩; have hM' := hM.call hb'; clear hM hb'; have hM := hM'; clear hM'); clear tk_n1) | (have _t := tk_r4; refine wpList_get1 rfl _ _ rfl _ _ rfl hM 2 rfl (cellTab _ rfl) (by omega) _ ((Hpb.out 1 (by omega)).trans Hpt.out.2) ?_; clear tk_r4) | (have _t := tk_n2; (go_at_call 17; refine (HN2.out _).mono ?_; rintro e W' ⟨rfl, hb'⟩; have hM' := hM.call hb'; clear hM hb'; have hM := hM'; clear hM'); clear tk_n2) | (have _t := tk_b9; refine wpList_slice0 rfl _ _ rfl 3 hut_under hut_size hM ?_; intro b9 W' hb9 hM'; clear hM tk_b9; have hM := hM'; clear hM'))
            refine bodyPost_ret (results_tmp2 rfl _ _ _) rfl ?_
            exact readF_no hM hb9 Hb.out
          by_cases hx : 10 ≤ x
          · have Hb := Lib.hid (Hno.out (.inr (.inr (.inl hx))))
            have qx : decide (x ≥ 10) = true := decide_eq_true hx
            clear Hno Hyes hok hFF
            have tk_r1 : True := trivial; have tk_t1 : True := trivial; have tk_r2 : True := trivial; have tk_t2 : True := trivial; have tk_s1 : True := trivial; have tk_r3 : True := trivial; have tk_n1 : True := trivial; have tk_r4 : True := trivial; have tk_n2 : True := trivial; have tk_b9 : True := trivial
            go_wp2_with (first | (have _t := tk_r1; refine wpList_get1 rfl _ _ rfl _ _ rfl hM 1 rfl (cellTab _ rfl) (by omega) _ (by first | exact e0 | exact e1) ?_; clear tk_r1) | (have _t := tk_t1; (go_at_call 16; refine (HC1.out _).mono ?_; rintro e W' ⟨rfl, hb'⟩; have hM' := hM.call hb'; clear hM hb'; have hM := hM'; clear hM'); clear tk_t1) | (have _t := tk_r2; refine wpList_get1 rfl _ _ rfl _ _ rfl hM 1 rfl (cellTab _ rfl) (by omega) _ (by first | exact e0 | exact e1) ?_; clear tk_r2) | (have _t := tk_t2; (go_at_call 16; refine (HC2.out _).mono ?_; rintro e W' ⟨rfl, hb'⟩; have hM' := hM.call hb'; clear hM hb'; have hM := hM'; clear hM'); clear tk_t2) | (have _t := tk_s1; go_at_call 15; refine (HS1.out _).mono ?_; rintro e W' ⟨pb, cpb, Fpb, rfl, hpb, hcpb, hF', hA', hcb⟩; have hM' := hM.fresh' hcb hA' hpb; simp only [List.cons_append, List.nil_append] at hM'; have Hpb := Lib.hid hF'; clear hM hF' hA' hcb tk_s1; have hM := hM'; clear hM') | (have _t := tk_r3; refine wpList_get1 rfl _ _ rfl _ _ rfl hM 2 rfl (cellTab _ rfl) (by omega) _ ((Hpb.out 0 (by omega)).trans Hpt.out.1) ?_; clear tk_r3) | (have _t := tk_n1; (go_at_call 17; refine (HN1.out _).mono ?_; rintro e W' ⟨rfl, hb'⟩; have hM' := hM.call hb'; clear hM hb'; have hM := hM'; clear hM'); clear tk_n1) | (have _t := tk_r4; refine wpList_get1 rfl _ _ rfl _ _ rfl hM 2 rfl (cellTab _ rfl) (by omega) _ ((Hpb.out 1 (by omega)).trans Hpt.out.2) ?_; clear tk_r4) | (have _t := tk_n2; (go_at_call 17; refine (HN2.out _).mono ?_; rintro e W' ⟨rfl, hb'⟩; have hM' := hM.call hb'; clear hM hb'; have hM := hM'; clear hM'); clear tk_n2) | (have _t := tk_b9; refine wpList_slice0 rfl _ _ rfl 3 hut_under hut_size hM ?_; intro b9 W' hb9 hM'; clear hM tk_b9; have hM := hM'; clear hM'))
            refine bodyPost_ret (results_tmp2 rfl _ _ _) rfl ?_
            exact readF_no hM hb9 Hb.out
          have qx : decide (x ≥ 10) = false := decide_eq_false hx
          by_cases hy : 10 ≤ y
          · have Hb := Lib.hid (Hno.out (.inr (.inr (.inr hy))))
            have qy : decide (y ≥ 10) = true := decide_eq_true hy
            clear Hno Hyes hok hFF
            have tk_r1 : True := trivial; have tk_t1 : True := trivial; have tk_r2 : True := trivial; have tk_t2 : True := trivial; have tk_s1 : True := trivial; have tk_r3 : True := trivial; have tk_n1 : True := trivial; have tk_r4 : True := trivial; have tk_n2 : True := trivial; have tk_b9 : True := trivial
            go_wp2_with (first | (have _t := tk_r1; refine wpList_get1 rfl _ _ rfl _ _ rfl hM 1 rfl (cellTab _ rfl) (by omega) _ (by first | exact e0 | exact e1) ?_; clear tk_r1) | (have _t := tk_t1; (go_at_call 16; refine (HC1.out _).mono ?_; rintro e W' ⟨rfl, hb'⟩; have hM' := hM.call hb'; clear hM hb'; have hM := hM'; clear hM'); clear tk_t1) | (have _t := tk_r2; refine wpList_get1 rfl _ _ rfl _ _ rfl hM 1 rfl (cellTab _ rfl) (by omega) _ (by first | exact e0 | exact e1) ?_; clear tk_r2) | (have _t := tk_t2; (go_at_call 16; refine (HC2.out _).mono ?_; rintro e W' ⟨rfl, hb'⟩; have hM' := hM.call hb'; clear hM hb'; have hM := hM'; clear hM'); clear tk_t2) | (have _t := tk_s1; go_at_call 15; refine (HS1.out _).mono ?_; rintro e W' ⟨pb, cpb, Fpb, rfl, hpb, hcpb, hF', hA', hcb⟩; have hM' := hM.fresh' hcb hA' hpb; simp only [List.cons_append, List.nil_append] at hM'; have Hpb := Lib.hid hF'; clear hM hF' hA' hcb tk_s1; have hM := hM'; clear hM') | (have _t := tk_r3; refine wpList_get1 rfl _ _ rfl _ _ rfl hM 2 rfl (cellTab _ rfl) (by omega) _ ((Hpb.out 0 (by omega)).trans Hpt.out.1) ?_; clear tk_r3) | (have _t := tk_n1; (go_at_call 17; refine (HN1.out _).mono ?_; rintro e W' ⟨rfl, hb'⟩; have hM' := hM.call hb'; clear hM hb'; have hM := hM'; clear hM'); clear tk_n1) | (have _t := tk_r4; refine wpList_get1 rfl _ _ rfl _ _ rfl hM 2 rfl (cellTab _ rfl) (by omega) _ ((Hpb.out 1 (by omega)).trans Hpt.out.2) ?_; clear tk_r4) | (have _t := tk_n2; (go_at_call 17; refine (HN2.out _).mono ?_; rintro e W' ⟨rfl, hb'⟩; have hM' := hM.call hb'; clear hM hb'; have hM := hM'; clear hM'); clear tk_n2) | (have _t := tk_b9; refine wpList_slice0 rfl _ _ rfl 3 hut_under hut_size hM ?_; intro b9 W' hb9 hM'; clear hM tk_b9; have hM := hM'; clear hM'))
            refine bodyPost_ret (results_tmp2 rfl _ _ _) rfl ?_
            exact readF_no hM hb9 Hb.out
          have qy : decide (y ≥ 10) = false := decide_eq_false hy
          have cx : IntKind.i8.wrap x = x := IntWalk.i8_in _ (by omega)
          have cy : IntKind.i8.wrap y = y := IntWalk.i8_in _ (by omega)
          have Hk := Lib.hid (Hyes.out rfl rfl (by omega) (by omega))
          have Hnew := Lib.hid (show ∀ j, j < 3 → vHurdle (hu3 x y true) j = sHurdle (wfHs l) (k * 3 + j) from fun j hj => by rw [sHurdle_row _ _ _ hj, Hws.out, Hwd.out, HH.out])
          have Hok := Lib.hid (show ∀ j, j < k + 1 → WfOk (ws.getD j []) from fun j hj => by
            by_cases e : j = k
            · rw [e, Hwd.out]; exact Hk.out
            · exact hok.out j (by omega))
          have Hf := Lib.hid hFF.out
          clear hFF hok Hno Hyes
          have tk_r1 : True := trivial; have tk_t1 : True := trivial; have tk_r2 : True := trivial; have tk_t2 : True := trivial; have tk_s1 : True := trivial; have tk_r3 : True := trivial; have tk_n1 : True := trivial; have tk_r4 : True := trivial; have tk_n2 : True := trivial; have tk_l1 : True := trivial; have tk_p1 : True := trivial
          go_wp2_with (first | (have _t := tk_r1; refine wpList_get1 rfl _ _ rfl _ _ rfl hM 1 rfl (cellTab _ rfl) (by omega) _ (by first | exact e0 | exact e1) ?_; clear tk_r1) | (have _t := tk_t1; (go_at_call 16; refine (HC1.out _).mono ?_; rintro e W' ⟨rfl, hb'⟩; have hM' := hM.call hb'; clear hM hb'; have hM := hM'; clear hM'); clear tk_t1) | (have _t := tk_r2; refine wpList_get1 rfl _ _ rfl _ _ rfl hM 1 rfl (cellTab _ rfl) (by omega) _ (by first | exact e0 | exact e1) ?_; clear tk_r2) | (have _t := tk_t2; (go_at_call 16; refine (HC2.out _).mono ?_; rintro e W' ⟨rfl, hb'⟩; have hM' := hM.call hb'; clear hM hb'; have hM := hM'; clear hM'); clear tk_t2) | (have _t := tk_s1; go_at_call 15; refine (HS1.out _).mono ?_; rintro e W' ⟨pb, cpb, Fpb, rfl, hpb, hcpb, hF', hA', hcb⟩; have hM' := hM.fresh' hcb hA' hpb; simp only [List.cons_append, List.nil_append] at hM'; have Hpb := Lib.hid hF'; clear hM hF' hA' hcb tk_s1; have hM := hM'; clear hM') | (have _t := tk_r3; refine wpList_get1 rfl _ _ rfl _ _ rfl hM 2 rfl (cellTab _ rfl) (by omega) _ ((Hpb.out 0 (by omega)).trans Hpt.out.1) ?_; clear tk_r3) | (have _t := tk_n1; (go_at_call 17; refine (HN1.out _).mono ?_; rintro e W' ⟨rfl, hb'⟩; have hM' := hM.call hb'; clear hM hb'; have hM := hM'; clear hM'); clear tk_n1) | (have _t := tk_r4; refine wpList_get1 rfl _ _ rfl _ _ rfl hM 2 rfl (cellTab _ rfl) (by omega) _ ((Hpb.out 1 (by omega)).trans Hpt.out.2) ?_; clear tk_r4) | (have _t := tk_n2; (go_at_call 17; refine (HN2.out _).mono ?_; rintro e W' ⟨rfl, hb'⟩; have hM' := hM.call hb'; clear hM hb'; have hM := hM'; clear hM'); clear tk_n2) | (refine wpList_buildSp rfl _ _ rfl _ _ rfl rfl ?_) | (refine wpList_valF rfl _ (exec_buildFe _ _ rfl _ _ _ rfl rfl) ?_) | (have _t := tk_l1; refine wpList_slice1 rfl _ _ _ rfl _ _ rfl _ hut_under hurdle_info2 (by omega) (by omega) hM ?_; intro bn W' hbn hM'; clear hM tk_l1; have hM := hM'; clear hM') | (have _t := tk_p1; refine wpList_push1 rfl _ _ _ rfl _ 3 _ _ hut_under infoHurdle rfl (by omega) _ _ _ _ rfl hb1 hnc hle _ _ rfl hurdle_ones hM (sHurdle (wfHs l)) Hf.out Hnew.out ?_; intro bL cL FL W' hbL hcL hFL hM'; clear hM tk_p1; have hM := hM'; clear hM'))
          go_roundw
          case rel => exact ⟨k + 1, by omega, by go_num, Hok, bL, cL, FL, rfl, hbL, hcL, Lib.hid hFL, hM.fewer (by simp)⟩
          case measure => simp [intOf]; omega
      · have hR : wfR wd = cutR 124 wd := by unfold wfR; rw [hE]; rfl
        have hS := last_both hE
        rw [hE] at HC1
        rw [hS] at HH
        have HE := Lib.hid (show (lastC 124 wd || lastC 95 wd) = true by rw [hE, hS]; rfl)
        rw [← hR] at HC1
        have hrl : (wfR wd).length ≤ 1048576 := by
          have h1 := cutR_len 95 wd
          have h2 := cutR_len 124 wd
          unfold wfR
          split <;> omega
        clear hR hE hS
        obtain ⟨np, hnp⟩ : ∃ np, (partsC 44 (wfR wd)).length = np := ⟨_, rfl⟩
        have HS1 := Lib.hid (splitTo_any (wfR wd) 44 44 np rfl hrl hnp)
        by_cases hp2 : np ≠ 2
        · have Hb := Lib.hid (HbK.out (fun h => hp2 (by rw [← hnp]; exact h.p)))
          have d3 : decide ((np : Int) ≠ 2) = true := decide_eq_true (by omega)
          have d4 : ((np : Int) == 2) = false := by rw [beq_eq_false_iff_ne]; omega
          have d5 : ¬ (np : Int) = 2 := by omega
          clear hnp hp2 hok hFF HbK
          have tk_r1 : True := trivial; have tk_t1 : True := trivial; have tk_s1 : True := trivial; have tk_b9 : True := trivial
          go_wp2_with (first | (have _t := tk_r1; refine wpList_get1 rfl _ _ rfl _ _ rfl hM 1 rfl (cellTab _ rfl) (by omega) _ (by first | exact e0 | exact e1) ?_; clear tk_r1) | (have _t := tk_t1; (go_at_call 16; refine (HC1.out _).mono ?_; rintro e W' ⟨rfl, hb'⟩; have hM' := hM.call hb'; clear hM hb'; have hM := hM'; clear hM'); clear tk_t1) | (have _t := tk_s1; go_at_call 15; refine (HS1.out _).mono ?_; rintro e W' ⟨pb, cpb, Fpb, rfl, hpb, hcpb, hF', hA', hcb⟩; have hM' := hM.fresh' hcb hA' hpb; simp only [List.cons_append, List.nil_append] at hM'; have Hpb := Lib.hid hF'; clear hM hF' hA' hcb tk_s1; have hM := hM'; clear hM') | (have _t := tk_b9; refine wpList_slice0 rfl _ _ rfl 3 hut_under hut_size hM ?_; intro b9 W' hb9 hM'; clear hM tk_b9; have hM := hM'; clear hM'))
          refine bodyPost_ret (results_tmp2 rfl _ _ _) rfl ?_
          exact readF_no hM hb9 Hb.out

        obtain rfl : np = 2 := by omega
        have Hpt := Lib.hid (show txF (partsC 44 (wfR wd)) 0 = .string (bs (wfU wd)) ∧ txF (partsC 44 (wfR wd)) 1 = .string (bs (wfV wd)) from ⟨rfl, rfl⟩)
        have HP := Lib.hid hnp
        generalize partsC 44 (wfR wd) = pp at HS1 Hpt
        clear hp2 hnp hrl
        have HN1 := Lib.hid (l01Number_any (wfU wd))
        have HN2 := Lib.hid (l01Number_any (wfV wd))
        have Hyes := Lib.hid (fun o1 o2 hx hy => (show WfOk wd from ⟨HE.out, HP.out, o1, o2, hx, hy⟩))
        have Hno := Lib.hid (show (numB9 (wfU wd) = false ∨ numB9 (wfV wd) = false ∨ 10 ≤ numV (wfU wd) ∨ 10 ≤ numV (wfV wd)) → ∀ m gs, ¬ TellsF l m gs from fun h => HbK.out (fun o => by
          rcases h with h | h | h | h
          · rw [o.u] at h; cases h
          · rw [o.v] at h; cases h
          · have := o.x; omega
          · have := o.y; omega))
        obtain ⟨hx0, hy0⟩ : 0 ≤ numV (wfU wd) ∧ 0 ≤ numV (wfV wd) := ⟨numV_pos, numV_pos⟩
        generalize numV (wfU wd) = x at HN1 Hyes Hno HH hx0
        generalize numV (wfV wd) = y at HN2 Hyes Hno HH hy0
        generalize numB9 (wfU wd) = o1 at HN1 Hyes Hno
        generalize numB9 (wfV wd) = o2 at HN2 Hyes Hno
        generalize wfU wd = tu at HN1 Hpt
        generalize wfV wd = tv at HN2 Hpt
        clear HP HbK HE
        generalize wfR wd = rs at HC1 HC2 HS1
        cases o1
        · have Hb := Lib.hid (Hno.out (.inl rfl))
          clear Hno Hyes hok hFF
          have tk_r1 : True := trivial; have tk_t1 : True := trivial; have tk_s1 : True := trivial; have tk_r3 : True := trivial; have tk_n1 : True := trivial; have tk_r4 : True := trivial; have tk_n2 : True := trivial; have tk_b9 : True := trivial
          go_wp2_with (first | (have _t := tk_r1; refine wpList_get1 rfl _ _ rfl _ _ rfl hM 1 rfl (cellTab _ rfl) (by omega) _ (by first | exact e0 | exact e1) ?_; clear tk_r1) | (have _t := tk_t1; (go_at_call 16; refine (HC1.out _).mono ?_; rintro e W' ⟨rfl, hb'⟩; have hM' := hM.call hb'; clear hM hb'; have hM := hM'; clear hM'); clear tk_t1) | (have _t := tk_s1; go_at_call 15; refine (HS1.out _).mono ?_; rintro e W' ⟨pb, cpb, Fpb, rfl, hpb, hcpb, hF', hA', hcb⟩; have hM' := hM.fresh' hcb hA' hpb; simp only [List.cons_append, List.nil_append] at hM'; have Hpb := Lib.hid hF'; clear hM hF' hA' hcb tk_s1; have hM := hM'; clear hM') | (have _t := tk_r3; refine wpList_get1 rfl _ _ rfl _ _ rfl hM 2 rfl (cellTab _ rfl) (by omega) _ ((Hpb.out 0 (by omega)).trans Hpt.out.1) ?_; clear tk_r3) | (have _t := tk_n1; (go_at_call 17; refine (HN1.out _).mono ?_; rintro e W' ⟨rfl, hb'⟩; have hM' := hM.call hb'; clear hM hb'; have hM := hM'; clear hM'); clear tk_n1) | (have _t := tk_r4; refine wpList_get1 rfl _ _ rfl _ _ rfl hM 2 rfl (cellTab _ rfl) (by omega) _ ((Hpb.out 1 (by omega)).trans Hpt.out.2) ?_; clear tk_r4) | (have _t := tk_n2; (go_at_call 17; refine (HN2.out _).mono ?_; rintro e W' ⟨rfl, hb'⟩; have hM' := hM.call hb'; clear hM hb'; have hM := hM'; clear hM'); clear tk_n2) | (have _t := tk_b9; refine wpList_slice0 rfl _ _ rfl 3 hut_under hut_size hM ?_; intro b9 W' hb9 hM'; clear hM tk_b9; have hM := hM'; clear hM'))
          refine bodyPost_ret (results_tmp2 rfl _ _ _) rfl ?_
          exact readF_no hM hb9 Hb.out
        cases o2
        · have Hb := Lib.hid (Hno.out (.inr (.inl rfl)))
          clear Hno Hyes hok hFF
          have tk_r1 : True := trivial; have tk_t1 : True := trivial; have tk_s1 : True := trivial; have tk_r3 : True := trivial; have tk_n1 : True := trivial; have tk_r4 : True := trivial; have tk_n2 : True := trivial; have tk_b9 : True := trivial
          go_wp2_with (first | (have _t := tk_r1; refine wpList_get1 rfl _ _ rfl _ _ rfl hM 1 rfl (cellTab _ rfl) (by omega) _ (by first | exact e0 | exact e1) ?_; clear tk_r1) | (have _t := tk_t1; (go_at_call 16; refine (HC1.out _).mono ?_; rintro e W' ⟨rfl, hb'⟩; have hM' := hM.call hb'; clear hM hb'; have hM := hM'; clear hM'); clear tk_t1) | (have _t := tk_s1; go_at_call 15; refine (HS1.out _).mono ?_; rintro e W' ⟨pb, cpb, Fpb, rfl, hpb, hcpb, hF', hA', hcb⟩; have hM' := hM.fresh' hcb hA' hpb; simp only [List.cons_append, List.nil_append] at hM'; have Hpb := Lib.hid hF'; clear hM hF' hA' hcb tk_s1; have hM := hM'; clear hM') | (have _t := tk_r3; refine wpList_get1 rfl _ _ rfl _ _ rfl hM 2 rfl (cellTab _ rfl) (by omega) _ ((Hpb.out 0 (by omega)).trans Hpt.out.1) ?_; clear tk_r3) | (have _t := tk_n1; (go_at_call 17; refine (HN1.out _).mono ?_; rintro e W' ⟨rfl, hb'⟩; have hM' := hM.call hb'; clear hM hb'; have hM := hM'; clear hM'); clear tk_n1) | (have _t := tk_r4; refine wpList_get1 rfl _ _ rfl _ _ rfl hM 2 rfl (cellTab _ rfl) (by omega) _ ((Hpb.out 1 (by omega)).trans Hpt.out.2) ?_; clear tk_r4) | (have _t := tk_n2; (go_at_call 17; refine (HN2.out _).mono ?_; rintro e W' ⟨rfl, hb'⟩; have hM' := hM.call hb'; clear hM hb'; have hM := hM'; clear hM'); clear tk_n2) | (have _t := tk_b9; refine wpList_slice0 rfl _ _ rfl 3 hut_under hut_size hM ?_; intro b9 W' hb9 hM'; clear hM tk_b9; have hM := hM'; clear hM'))
          refine bodyPost_ret (results_tmp2 rfl _ _ _) rfl ?_
          exact readF_no hM hb9 Hb.out
        by_cases hx : 10 ≤ x
        · have Hb := Lib.hid (Hno.out (.inr (.inr (.inl hx))))
          have qx : decide (x ≥ 10) = true := decide_eq_true hx
          clear Hno Hyes hok hFF
          have tk_r1 : True := trivial; have tk_t1 : True := trivial; have tk_s1 : True := trivial; have tk_r3 : True := trivial; have tk_n1 : True := trivial; have tk_r4 : True := trivial; have tk_n2 : True := trivial; have tk_b9 : True := trivial
          go_wp2_with (first | (have _t := tk_r1; refine wpList_get1 rfl _ _ rfl _ _ rfl hM 1 rfl (cellTab _ rfl) (by omega) _ (by first | exact e0 | exact e1) ?_; clear tk_r1) | (have _t := tk_t1; (go_at_call 16; refine (HC1.out _).mono ?_; rintro e W' ⟨rfl, hb'⟩; have hM' := hM.call hb'; clear hM hb'; have hM := hM'; clear hM'); clear tk_t1) | (have _t := tk_s1; go_at_call 15; refine (HS1.out _).mono ?_; rintro e W' ⟨pb, cpb, Fpb, rfl, hpb, hcpb, hF', hA', hcb⟩; have hM' := hM.fresh' hcb hA' hpb; simp only [List.cons_append, List.nil_append] at hM'; have Hpb := Lib.hid hF'; clear hM hF' hA' hcb tk_s1; have hM := hM'; clear hM') | (have _t := tk_r3; refine wpList_get1 rfl _ _ rfl _ _ rfl hM 2 rfl (cellTab _ rfl) (by omega) _ ((Hpb.out 0 (by omega)).trans Hpt.out.1) ?_; clear tk_r3) | (have _t := tk_n1; (go_at_call 17; refine (HN1.out _).mono ?_; rintro e W' ⟨rfl, hb'⟩; have hM' := hM.call hb'; clear hM hb'; have hM := hM'; clear hM'); clear tk_n1) | (have _t := tk_r4; refine wpList_get1 rfl _ _ rfl _ _ rfl hM 2 rfl (cellTab _ rfl) (by omega) _ ((Hpb.out 1 (by omega)).trans Hpt.out.2) ?_; clear tk_r4) | (have _t := tk_n2; (go_at_call 17; refine (HN2.out _).mono ?_; rintro e W' ⟨rfl, hb'⟩; have hM' := hM.call hb'; clear hM hb'; have hM := hM'; clear hM'); clear tk_n2) | (have _t := tk_b9; refine wpList_slice0 rfl _ _ rfl 3 hut_under hut_size hM ?_; intro b9 W' hb9 hM'; clear hM tk_b9; have hM := hM'; clear hM'))
          refine bodyPost_ret (results_tmp2 rfl _ _ _) rfl ?_
          exact readF_no hM hb9 Hb.out
        have qx : decide (x ≥ 10) = false := decide_eq_false hx
        by_cases hy : 10 ≤ y
        · have Hb := Lib.hid (Hno.out (.inr (.inr (.inr hy))))
          have qy : decide (y ≥ 10) = true := decide_eq_true hy
          clear Hno Hyes hok hFF
          have tk_r1 : True := trivial; have tk_t1 : True := trivial; have tk_s1 : True := trivial; have tk_r3 : True := trivial; have tk_n1 : True := trivial; have tk_r4 : True := trivial; have tk_n2 : True := trivial; have tk_b9 : True := trivial
          go_wp2_with (first | (have _t := tk_r1; refine wpList_get1 rfl _ _ rfl _ _ rfl hM 1 rfl (cellTab _ rfl) (by omega) _ (by first | exact e0 | exact e1) ?_; clear tk_r1) | (have _t := tk_t1; (go_at_call 16; refine (HC1.out _).mono ?_; rintro e W' ⟨rfl, hb'⟩; have hM' := hM.call hb'; clear hM hb'; have hM := hM'; clear hM'); clear tk_t1) | (have _t := tk_s1; go_at_call 15; refine (HS1.out _).mono ?_; rintro e W' ⟨pb, cpb, Fpb, rfl, hpb, hcpb, hF', hA', hcb⟩; have hM' := hM.fresh' hcb hA' hpb; simp only [List.cons_append, List.nil_append] at hM'; have Hpb := Lib.hid hF'; clear hM hF' hA' hcb tk_s1; have hM := hM'; clear hM') | (have _t := tk_r3; refine wpList_get1 rfl _ _ rfl _ _ rfl hM 2 rfl (cellTab _ rfl) (by omega) _ ((Hpb.out 0 (by omega)).trans Hpt.out.1) ?_; clear tk_r3) | (have _t := tk_n1; (go_at_call 17; refine (HN1.out _).mono ?_; rintro e W' ⟨rfl, hb'⟩; have hM' := hM.call hb'; clear hM hb'; have hM := hM'; clear hM'); clear tk_n1) | (have _t := tk_r4; refine wpList_get1 rfl _ _ rfl _ _ rfl hM 2 rfl (cellTab _ rfl) (by omega) _ ((Hpb.out 1 (by omega)).trans Hpt.out.2) ?_; clear tk_r4) | (have _t := tk_n2; (go_at_call 17; refine (HN2.out _).mono ?_; rintro e W' ⟨rfl, hb'⟩; have hM' := hM.call hb'; clear hM hb'; have hM := hM'; clear hM'); clear tk_n2) | (have _t := tk_b9; refine wpList_slice0 rfl _ _ rfl 3 hut_under hut_size hM ?_; intro b9 W' hb9 hM'; clear hM tk_b9; have hM := hM'; clear hM'))
          refine bodyPost_ret (results_tmp2 rfl _ _ _) rfl ?_
          exact readF_no hM hb9 Hb.out
        have qy : decide (y ≥ 10) = false := decide_eq_false hy
        have cx : IntKind.i8.wrap x = x := IntWalk.i8_in _ (by omega)
        have cy : IntKind.i8.wrap y = y := IntWalk.i8_in _ (by omega)
        have Hk := Lib.hid (Hyes.out rfl rfl (by omega) (by omega))
        have Hnew := Lib.hid (show ∀ j, j < 3 → vHurdle (hu3 x y false) j = sHurdle (wfHs l) (k * 3 + j) from fun j hj => by rw [sHurdle_row _ _ _ hj, Hws.out, Hwd.out, HH.out])
        have Hok := Lib.hid (show ∀ j, j < k + 1 → WfOk (ws.getD j []) from fun j hj => by
          by_cases e : j = k
          · rw [e, Hwd.out]; exact Hk.out
          · exact hok.out j (by omega))
        have Hf := Lib.hid hFF.out
        clear hFF hok Hno Hyes
        have tk_r1 : True := trivial; have tk_t1 : True := trivial; have tk_s1 : True := trivial; have tk_r3 : True := trivial; have tk_n1 : True := trivial; have tk_r4 : True := trivial; have tk_n2 : True := trivial; have tk_l1 : True := trivial; have tk_p1 : True := trivial
        go_wp2_with (first | (have _t := tk_r1; refine wpList_get1 rfl _ _ rfl _ _ rfl hM 1 rfl (cellTab _ rfl) (by omega) _ (by first | exact e0 | exact e1) ?_; clear tk_r1) | (have _t := tk_t1; (go_at_call 16; refine (HC1.out _).mono ?_; rintro e W' ⟨rfl, hb'⟩; have hM' := hM.call hb'; clear hM hb'; have hM := hM'; clear hM'); clear tk_t1) | (have _t := tk_s1; go_at_call 15; refine (HS1.out _).mono ?_; rintro e W' ⟨pb, cpb, Fpb, rfl, hpb, hcpb, hF', hA', hcb⟩; have hM' := hM.fresh' hcb hA' hpb; simp only [List.cons_append, List.nil_append] at hM'; have Hpb := Lib.hid hF'; clear hM hF' hA' hcb tk_s1; have hM := hM'; clear hM') | (have _t := tk_r3; refine wpList_get1 rfl _ _ rfl _ _ rfl hM 2 rfl (cellTab _ rfl) (by omega) _ ((Hpb.out 0 (by omega)).trans Hpt.out.1) ?_; clear tk_r3) | (have _t := tk_n1; (go_at_call 17; refine (HN1.out _).mono ?_; rintro e W' ⟨rfl, hb'⟩; have hM' := hM.call hb'; clear hM hb'; have hM := hM'; clear hM'); clear tk_n1) | (have _t := tk_r4; refine wpList_get1 rfl _ _ rfl _ _ rfl hM 2 rfl (cellTab _ rfl) (by omega) _ ((Hpb.out 1 (by omega)).trans Hpt.out.2) ?_; clear tk_r4) | (have _t := tk_n2; (go_at_call 17; refine (HN2.out _).mono ?_; rintro e W' ⟨rfl, hb'⟩; have hM' := hM.call hb'; clear hM hb'; have hM := hM'; clear hM'); clear tk_n2) | (refine wpList_buildSp rfl _ _ rfl _ _ rfl rfl ?_) | (refine wpList_valF rfl _ (exec_buildFe _ _ rfl _ _ _ rfl rfl) ?_) | (have _t := tk_l1; refine wpList_slice1 rfl _ _ _ rfl _ _ rfl _ hut_under hurdle_info2 (by omega) (by omega) hM ?_; intro bn W' hbn hM'; clear hM tk_l1; have hM := hM'; clear hM') | (have _t := tk_p1; refine wpList_push1 rfl _ _ _ rfl _ 3 _ _ hut_under infoHurdle rfl (by omega) _ _ _ _ rfl hb1 hnc hle _ _ rfl hurdle_ones hM (sHurdle (wfHs l)) Hf.out Hnew.out ?_; intro bL cL FL W' hbL hcL hFL hM'; clear hM tk_p1; have hM := hM'; clear hM'))
        go_roundw
        case rel => exact ⟨k + 1, by omega, by go_num, Hok, bL, cL, FL, rfl, hbL, hcL, Lib.hid hFL, hM.fewer (by simp)⟩
        case measure => simp [intOf]; omega
    · obtain rfl : k = n := by omega
      have Ht := Lib.hid (Hall.out hok.out)
      go_wp2
      refine bodyPost_ret (results_tmp2 rfl _ _ _) rfl ?_
      exact ⟨_, k, wfHs l, 0, rfl, .inr ⟨b1, c1, F1, rfl, hb1, hnc, hFF.out, hM.fewer (by simp)⟩, .inl ⟨Ht.out, rfl⟩⟩
end Go.Proofs.YtaaphdbaocjecaaGreatDoor

/-
  ReadFence: both answers are one.
-/
namespace Go.Proofs.YtaaphdbaocjecaaGreatDoor
open Go Go.RowKit Go.BigFrame

theorem sHurdle_same {n : Nat} {hs gs : Nat → Nat → Int} (h : ∀ i, i < n → hs i 0 = gs i 0 ∧ hs i 1 = gs i 1 ∧ (hs i 2 == 1) = (gs i 2 == 1)) : ∀ j, j < n * 3 → sHurdle hs j = sHurdle gs j := fun j hj => by
  have := h (j / 3) (by omega)
  unfold sHurdle vHurdle
  rw [this.1, this.2.1, this.2.2]
theorem readF_one (l : List UInt8) : ∃ n gs c, n ≤ 180 ∧ ∀ w e w', ReadF l w e w' → ∃ v, e = .returned (.tuple #[v, .int .i64 c]) ∧ Lst (Base.of w) [] 3 v n (sHurdle gs) w' := by
  by_cases h : ∃ n gs, TellsF l n gs
  · obtain ⟨n, gs, k⟩ := h
    refine ⟨n, gs, 0, k.1, ?_⟩
    rintro w e w' ⟨v, m, hs, c, rfl, hL, ⟨h1, rfl⟩ | ⟨-, -, h1⟩⟩
    · obtain ⟨rfl, hu⟩ := h1.uniq k
      exact ⟨v, rfl, hL.same (sHurdle_same hu)⟩
    · exact absurd k (h1 n gs)
  · refine ⟨0, fun _ _ => 0, 5, by omega, ?_⟩
    rintro w e w' ⟨v, m, hs, c, rfl, hL, ⟨h1, rfl⟩ | ⟨rfl, rfl, -⟩⟩
    · exact absurd ⟨_, _, h1⟩ h
    · exact ⟨v, rfl, hL.same (fun j hj => absurd hj (by omega))⟩
end Go.Proofs.YtaaphdbaocjecaaGreatDoor

