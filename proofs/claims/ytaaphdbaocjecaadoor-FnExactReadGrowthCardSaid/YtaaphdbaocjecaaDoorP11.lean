/-
  Several texts in one: ReadStX, OpenRd, GrowthTS, ReadGrM, ParseGr, GrowthTI, ReadGrX, ReadStK.
-/
import Derived.Test.YtaaphdbaocjecaaDoorP10
import Derived.Test.YtaaphdbaocjecaaDoorP3
import Derived.Stop.LaidErr
import Derived.Lib.LaidTab
import Derived.Lay
import Derived.ShapedOpen
import Derived.ChangeAgain
import Derived.Test.YtaaphdbaocjecaaDoorP1
import Derived.Test.YtaaphdbaocjecaaDoorP4
import Derived.Test.YtaaphdbaocjecaaDoorP8
import Derived.Test.YtaaphdbaocjecaaDoorP9
import Derived.Test.YtaaphdbaocjecaaDoorP2
/-
  impl.ReadStakes by contract.
-/
namespace Go.Proofs.YtaaphdbaocjecaaDoor
open Go Go.RowKit Go.BigFrame

set_option maxRecDepth 100000 in
set_option maxHeartbeats 4000000 in
theorem implStakesText_nil (w : World) :
    Calls Tryd.prog 22 #[.slice none 0 0] w fun e w' => e = .returned (.string (bs [])) ∧ Below w.heap.size w w' := by
  have hM := Mem.nil w
  have tk_b4 : True := trivial; have tk_y4 : True := trivial
  go_enter Tryd.func22, Tryd.ntmps22
  go_wp2_with (first | (refine wpList_greatest rfl _ _ rfl rfl rfl ?_) | (have _t := tk_b4; refine wpList_zero rfl _ rfl (zeroTab _ _ _ rfl) hM ?_; intro b4 W' hb4 hM'; clear hM tk_b4; have hM := hM'; clear hM') | (have _t := tk_y4; (refine wpList_lay rfl _ _ _ rfl _ _ rfl _ _ rfl hM 0 rfl (by assumption) (rowTab _ _ rfl) (by omega) ?_ ?_; (first | (intro _ _; rfl) | (intro k _; exact h1 _) | (intro k _; simp only [lay, upd]; (repeat' split) <;> first | exact h1 _ | rfl)); intro W' hM'; clear hM; have hM := hM'; clear hM'; simp only [List.set] at hM); clear tk_y4))
  refine wp_loop_rounds 1 ?_
  rw [rounds_succ]
  go_wp2_with (first | (go_at_call 30; refine (joinS_none none 0 [32] _).mono ?_; rintro e W' ⟨rfl, hb'⟩; have hM' := hM.call hb'; clear hM hb'; have hM := hM'; clear hM'))
  go_ret
  exact ⟨rfl, hM.below⟩
theorem Lst.call {b0 : Base} {K : Blocks} {m n : Nat} {v : Value} {R : Nat → Value} {W W' : World} (h : Lst b0 K m v n R W) (hb : Below W.heap.size W W') : Lst b0 K m v n R W' := by
  rcases h with ⟨h1, h2, h⟩ | ⟨b, c, F, h1, h2, h3, h4, h⟩
  · exact .inl ⟨h1, h2, h.call hb⟩
  · exact .inr ⟨b, c, F, h1, h2, h3, h4, h.call hb⟩
theorem bs_beq (x y : List UInt8) : ((bs x).toList == (bs y).toList) = decide (x = y) := by
  rw [ByteArray.toList_eq, ByteArray.toList_eq, bs_data, bs_data]
  by_cases h : x = y
  · rw [decide_eq_true h, h]; exact beq_self_eq_true _
  · rw [decide_eq_false h, beq_eq_false_iff_ne]; exact h
/-- What both Reads answer. -/
def ReadK (l : List UInt8) (w : World) (e : Ending) (w' : World) : Prop :=
  ∃ v n hs c, e = .returned (.tuple #[v, .int .i64 c]) ∧ Lst (Base.of w) [] 3 v n (sStake hs) w' ∧ ((TellsK l n hs ∧ c = 0) ∨ (n = 0 ∧ c = 5 ∧ ∀ m gs, ¬ TellsK l m gs))
structure RdEnv (a : Nat → Addr) (W : World) : Prop where
  env : PEnv a W
  tab : TabP W
theorem RdEnv.below {a : Nat → Addr} {W W' : World} (h : RdEnv a W) (hb : Below W.heap.size W W') : RdEnv a W' := ⟨h.env.below hb, h.tab.below hb⟩
theorem implStakesText_lst (n : Nat) (hs : Nat → Nat → Int) (v : Value) (w0 w : World) (hn : n ≤ 1048576) (hT : TabP w) (hL : Lst (Base.of w0) [] 3 v n (sStake hs) w) :
    Calls Tryd.prog 22 #[v] w fun e w' => e = .returned (.string (bs (stakesT n hs))) ∧ Below w.heap.size w w' := by
  rcases hL with ⟨rfl, rfl, hM⟩ | ⟨b, c, G, rfl, hb, hc, hG, hM⟩
  · refine (implStakesText_nil w).mono ?_
    rintro e w' ⟨rfl, h⟩
    exact ⟨by rw [stakesT_yes (by omega) (fun k hk => absurd hk (by omega)), joinT_zero], h⟩
  · exact implStakesTextG_any b n (c * 3) c hs G hG (Nat.mul_le_mul_right 3 hc) hn w hT (hM.ats 0 _ _ _ rfl)
set_option maxRecDepth 100000 in
set_option maxHeartbeats 4000000 in
theorem implReadStakes_any {a : Nat → Addr} (l : List UInt8) (hl : l.length ≤ 1048576) (w : World) (hE : RdEnv a w) :
    Calls Tryd.prog 9 #[.string (bs l)] w (ReadK l w) := by
  have hM := Mem.nil w
  have HE := Lib.hid hE
  have HP := Lib.hid (parseWordsSt_any l hl w hE.env)
  clear hE
  go_enter Tryd.func9, Tryd.ntmps9
  go_wp2_with (first | (go_at_call 20; refine HP.out.mono ?_))
  rintro e W' (⟨v, N, rfl, herr, hN, hbad⟩ | ⟨v, rfl, hL, h12⟩)
  · obtain ⟨t, p, rfl⟩ := herr.iface
    have hE2 := HE.out.below hN.below
    have HC := Lib.hid (codeG_any hE2.env.errs (herr.syn hE2.env.errs hN.ofK))
    have Hb := Lib.hid hbad
    clear herr hbad hE2 hM
    go_wp2_with (first | (go_at_call 16; refine HC.out.mono ?_; rintro e W' ⟨rfl, rfl⟩))
    refine bodyPost_ret (results_tmp2 rfl _ _ _) rfl ?_
    exact ⟨_, 0, stHs l, 5, rfl, .inl ⟨rfl, rfl, Mem.start hN.good⟩, .inr ⟨rfl, rfl, Hb.out.no⟩⟩
  · have HT := Lib.hid (implStakesText_lst (stWs l) (stHs l) v w W' (by omega) (HE.out.below hL.mem.below).tab hL)
    have HL := Lib.hid hL
    clear hL hM
    have hq := bs_beq (stakesT (stWs l) (stHs l)) l
    have Hy := Lib.hid (stText_yes (l := l))
    have Hno := Lib.hid (stText_no (l := l))
    obtain ⟨tx, htx⟩ : ∃ tx, stakesT (stWs l) (stHs l) = tx := ⟨_, rfl⟩
    rw [htx] at HT hq Hy Hno
    clear htx h12
    by_cases he : tx = l
    · rw [decide_eq_true he] at hq
      have Hk := Lib.hid (Hy.out he)
      clear he Hy Hno
      go_wp2_with (first | (go_at_call 22; refine HT.out.mono ?_; rintro e W2 ⟨rfl, hb2⟩))
      refine bodyPost_ret (results_tmp2 rfl _ _ _) rfl ?_
      exact ⟨_, stWs l, stHs l, 0, rfl, HL.out.call hb2, .inl ⟨Hk.out, rfl⟩⟩
    · rw [decide_eq_false he] at hq
      have Hk := Lib.hid (Hno.out he)
      clear he Hy Hno
      go_wp2_with (first | (go_at_call 22; refine HT.out.mono ?_; rintro e W2 ⟨rfl, hb2⟩))
      refine bodyPost_ret (results_tmp2 rfl _ _ _) rfl ?_
      exact ⟨_, 0, stHs l, 5, rfl, .inl ⟨rfl, rfl, Mem.start (HL.out.mem.call hb2).good⟩, .inr ⟨rfl, rfl, Hk.out⟩⟩
end Go.Proofs.YtaaphdbaocjecaaDoor

/-
  What the rows of the texts read take out of their condition and of the world's shape: the errors, the library's errors of numbers, the table of powers, the variable that Cut reads; the wrap that keeps the shape.
-/
namespace Go.Proofs.YtaaphdbaocjecaaDoor
open Go Go.RowKit Go.ChangeShapes Go.WideShapes Go.ChangeAt

theorem tabP_dataR {H : Type} : (Rows.laid_internal_strconv_uint64pow10 : DataW H) = Lib.tabData .u64 Lib.pow10Tab := rfl
theorem rdEnv_of_laid {W : World} (h : laidMetH Tryd.prog errsLaid W) (hs : W.ShapedOpen Tryd.prog) : ∃ a, RdEnv a W := by
  obtain ⟨a, hE⟩ := errs_of_laid h
  rw [MakeChecks.laidMetH_plain _ _ _ (by kernel_rfl)] at h
  have hT : TabP W := Lib.tabIs_of_head (k := .u64) (zs := Lib.pow10Tab) (n := 20) (t := 134) (e := 115) tabP_g (by kernel_rfl) Tryd.underlying134 Tryd.underlying115 (by kernel_rfl) (by kernel_rfl) (by have h' := h.tail.tail; rw [tabP_dataR] at h'; exact h')
  have h4 := h.tail.tail.tail.tail
  obtain ⟨a1, s1, v1, -⟩ := laid_sentinel (tp := 154) (te := 156) (ts := 9) h4 numE_g2 (show (Tryd.prog.globals[10]?).map (·.type) = some 41 by kernel_rfl) Tryd.underlying41 row_errT Tryd.underlying154 Tryd.underlying156 rfl rfl Tryd.underlying9 cells_es cells_str
  obtain ⟨a2, s2, v2, -⟩ := laid_sentinel (tp := 154) (te := 156) (ts := 9) h4.tail numE_g1 (show (Tryd.prog.globals[9]?).map (·.type) = some 41 by kernel_rfl) Tryd.underlying41 row_errT Tryd.underlying154 Tryd.underlying156 rfl rfl Tryd.underlying9 cells_es cells_str
  exact ⟨a, ⟨hE, ⟨⟨_, _, v2⟩, _, _, v1⟩, maxP_of_shape hs⟩, hT⟩

section
variable {H : Type} {enc : TypeId × Value → H}
/-- The wrap, a condition beside it and the world's shape kept. -/
theorem lifted_shaped {a : Assume} {C : Checked} {os : Os} {f : FuncId} {fn : Func} {s : ChangeSpec} {conds : List PathCond} {apart fresh handsOn again : Bool} {X : World → Array Value → Prop}
    (hX : ∀ (w w' : World) (args : Array Value), w.heap = w'.heap → X w args → X w' args)
    (own : ownKnob C.prog.godebug = none) (started : os.Started) (noInit : C.prog.inits.idxOf? f = none) (hfn : C.prog.funcs[f]? = some fn)
    (witness : ∃ (w : World) (tape : Tape) (i : Input), w.os = os ∧ (w.forCall tape i).Shaped C.prog ∧ i.vars = [] ∧ Input.okWide C.prog (w.forCall tape i) .any w.heap.size f i ∧
      ((s.pre enc C.prog fn conds apart (w.forCall tape i).memory i.args ∧ X (w.forCall tape i).memory i.args) ∧ sizedMet enc C.prog fn (OpenSpec.ofChange s) apart (w.forCall tape i).memory i.args) ∧ a.holds C.prog (lone (Frame.enter C.prog f i.args .normal) [] (w.forCall tape i)))
    (contract : ∀ (W : World) (base : Nat) (args : Array Value) (ds gs : List (DataW H)) (before : List MemPlace),
      (∀ (j : Nat) t v, fn.params[j]? = some t → args[j]? = some v → Value.okWide C.prog W .any base t v) →
      DataW.Whole enc C.prog fn.params.toList s.vars apart W args.toList ds gs before → X W args → W.ShapedOpen C.prog →
      Calls C.prog f args W fun e W' => ∃ v, e = .returned v ∧ s.post enc C.prog fn apart fresh handsOn again W args v W') :
    ReturnsInHanded a C os f .any (fun w args => (s.pre enc C.prog fn conds apart w args ∧ X w args) ∧ sizedMet enc C.prog fn (OpenSpec.ofChange s) apart w args) (s.post enc C.prog fn apart fresh handsOn again) := by
  refine returnsInHanded_of_calls own started noInit witness fun w tape i _ hsh _ hok hpre _ => ?_
  obtain ⟨_, _, _, fn', hfn', _, _, _, _, hval⟩ := hok
  obtain rfl : fn' = fn := Option.some.inj (hfn'.symm.trans hfn)
  obtain ⟨⟨⟨ds, gs, before, hw, -⟩, hx⟩, -⟩ := hpre
  exact (contract (w.forCall tape i) w.heap.size i.args ds gs before hval (DataW.Whole.of_heap (w' := w.forCall tape i) (by rfl) hw) (hX _ _ _ (by rfl) hx) hsh).mono fun e W' ⟨v, he, hp⟩ => by
    subst he
    exact ChangeSpec.post_blind hp
end
end Go.Proofs.YtaaphdbaocjecaaDoor

/-
  The text of a growth; spec.l04Text, GrowthText by contracts.
-/
namespace Go.Proofs.YtaaphdbaocjecaaDoor
open Go Go.RowKit Go.BigFrame

def growW (h : Nat → Int) (k : Nat) : List UInt8 := numB (h k)
def growthT (h : Nat → Int) : List UInt8 := if growB h then joinT [44] (growW h) 11 ++ [32] ++ numB (h 11) else []
theorem growthT_no {h : Nat → Int} (e : growB h = false) : growthT h = [] := by unfold growthT; rw [e]; rfl
theorem growthT_yes {h : Nat → Int} (e : growB h = true) : growthT h = joinT [44] (growW h) 11 ++ [32] ++ numB (h 11) := by unfold growthT; rw [e]; rfl

end Go.Proofs.YtaaphdbaocjecaaDoor

/-
  What a text of a growth tells.
-/
namespace Go.Proofs.YtaaphdbaocjecaaDoor
open Go Go.RowKit Go.BigFrame

theorem joinT_free {c s : UInt8} {f : Nat → List UInt8} (hs : c ≠ s) : ∀ (n : Nat), (∀ k, k < n → c ∉ f k) → c ∉ joinT [s] f n
  | 0, _ => by simp [joinT_zero]
  | n + 1, h => by
    have ih := joinT_free hs n (fun k hk => h k (by omega))
    have hn := h n (by omega)
    by_cases h0 : n = 0
    · subst h0; rw [joinT_one]; exact hn
    · rw [joinT_succ [s] f (by omega)]
      intro e
      rcases List.mem_append.1 e with e | e
      · rcases List.mem_append.1 e with e | e
        · exact ih e
        · simp at e; exact hs e
      · exact hn e
/-- A text tells this growth. -/
def TellsG (l : List UInt8) (h : Nat → Int) : Prop := growB h = true ∧ l = joinT [44] (growW h) 11 ++ 32 :: numB (h 11)
theorem TellsG.parts {l : List UInt8} {h : Nat → Int} (k : TellsG l h) : partsC 32 l = [joinT [44] (growW h) 11, numB (h 11)] :=
  parts_two.2 ⟨k.2, joinT_free (by decide) 11 (fun j _ => numB_free (by decide) _), numB_free (by decide) _⟩
theorem TellsG.cut {l : List UInt8} {h : Nat → Int} (k : TellsG l h) : Lib.cut l [32] = (joinT [44] (growW h) 11, numB (h 11), true) := by
  rw [k.2]; exact cut_app (joinT_free (by decide) 11 (fun j _ => numB_free (by decide) _))
theorem growW_parts (h : Nat → Int) : partsC 44 (joinT [44] (growW h) 11) = (List.range 11).map (growW h) := partsC_joinT (by decide) (fun j _ => numB_free (by decide) _)
theorem TellsG.uniq {l : List UInt8} {h g : Nat → Int} (k : TellsG l h) (m : TellsG l g) : ∀ i, i < 12 → h i = g i := by
  have e := k.parts
  rw [m.parts] at e
  simp only [List.cons.injEq, and_true] at e
  obtain ⟨kt, k0, k1⟩ := growB_true k.1
  obtain ⟨mt, m0, m1⟩ := growB_true m.1
  obtain ⟨-, hw⟩ := joinT_inj (by decide) (by decide) (fun j _ => numB_free (by decide) (h j)) (fun j _ => numB_free (by decide) (g j)) e.1.symm
  intro i hi
  by_cases h11 : i = 11
  · subst h11; exact (numB_inj m0 k0 e.2).symm
  · exact numB_inj (kt i (by omega)).1 (mt i (by omega)).1 (hw i (by omega))
theorem TellsG.text {l : List UInt8} {h : Nat → Int} (k : TellsG l h) : growthT h = l := by rw [growthT_yes k.1, k.2]; simp
theorem tellsG_text {l : List UInt8} {h : Nat → Int} (e : growthT h = l) (hl : l ≠ []) : TellsG l h := by
  cases hb : growB h
  · rw [growthT_no hb] at e; exact absurd e.symm hl
  · exact ⟨hb, by rw [← e, growthT_yes hb]; simp⟩
theorem tellsG_nil (h : Nat → Int) : ¬ TellsG [] h := fun k => by
  have := k.2
  simp at this
end Go.Proofs.YtaaphdbaocjecaaDoor

/-
  impl.parseGrowth by contract.
-/
namespace Go.Proofs.YtaaphdbaocjecaaDoor
open Go Go.RowKit Go.BigFrame

/-- What a text tells of a growth, loosely. -/
def gwT (l : List UInt8) : List UInt8 := (Lib.cut l [32]).1
def gwL (l : List UInt8) : List UInt8 := (Lib.cut l [32]).2.1
def gwW (l : List UInt8) (k : Nat) : List UInt8 := (partsC 44 (gwT l)).getD k []
def gwG (l : List UInt8) (k : Nat) : Int := if k < 11 then IntKind.i8.wrap (pVal 8 (gwW l k)) else IntKind.i16.wrap (pVal 16 (gwL l))
def BadG (l : List UInt8) : Prop := (partsC 44 (gwT l)).length ≠ 11 ∨ (∃ k, k < 11 ∧ pOk 8 (gwW l k) = false) ∨ pOk 16 (gwL l) = false
theorem pOk_numG {B : Nat} {n : Int} (hB : B ≤ 32) (h1 : 1 ≤ B) (h0 : 0 ≤ n) (h : n < 2 ^ (B - 1)) : pOk B (numB n) = true ∧ pVal B (numB n) = n := pOk_of (parse_numB hB h1 h0 h)
theorem TellsG.words {l : List UInt8} {h : Nat → Int} (k : TellsG l h) : (partsC 44 (gwT l)).length = 11 ∧ (∀ j, j < 11 → gwW l j = numB (h j)) ∧ gwL l = numB (h 11) := by
  have e1 : gwT l = joinT [44] (growW h) 11 := by unfold gwT; rw [k.cut]
  have e2 : gwL l = numB (h 11) := by unfold gwL; rw [k.cut]
  refine ⟨by rw [e1, growW_parts]; simp, fun j hj => ?_, e2⟩
  unfold gwW
  rw [e1, growW_parts, List.getD_eq_getElem?_getD]
  simp [hj, growW]
theorem BadG.no {l : List UInt8} (h : BadG l) (g : Nat → Int) : ¬ TellsG l g := fun k => by
  obtain ⟨e1, e2, e3⟩ := k.words
  obtain ⟨kt, k0, k1⟩ := growB_true k.1
  rcases h with h | ⟨j, hj, h⟩ | h
  · exact h e1
  · rw [e2 j hj, (pOk_numG (B := 8) (by omega) (by omega) (kt j hj).1 (by have := (kt j hj).2; omega)).1] at h; cases h
  · rw [e3, (pOk_numG (B := 16) (by omega) (by omega) k0 (by omega)).1] at h; cases h
theorem gwG_told {l : List UInt8} {g : Nat → Int} (k : TellsG l g) : ∀ i, i < 12 → gwG l i = g i := fun i hi => by
  obtain ⟨e1, e2, e3⟩ := k.words
  obtain ⟨kt, k0, k1⟩ := growB_true k.1
  unfold gwG
  by_cases h : i < 11
  · have := kt i h
    rw [if_pos h, e2 i h, (pOk_numG (B := 8) (by omega) (by omega) this.1 (by omega)).2]
    exact IntWalk.i8_in _ (by omega)
  · obtain rfl : i = 11 := by omega
    rw [if_neg h, e3, (pOk_numG (B := 16) (by omega) (by omega) k0 (by omega)).2]
    exact IntWalk.i16_in _ (by omega)
theorem fits_gwG (l : List UInt8) : FitsW (gwG l) := by
  have w8 : ∀ x, -128 ≤ IntKind.i8.wrap x ∧ IntKind.i8.wrap x ≤ 127 := fun x => by unfold IntKind.wrap; simp [IntKind.signed, IntKind.bits]; omega
  have w16 : ∀ x, -32768 ≤ IntKind.i16.wrap x ∧ IntKind.i16.wrap x ≤ 32767 := fun x => by unfold IntKind.wrap; simp [IntKind.signed, IntKind.bits]; omega
  refine ⟨fun k hk => ?_, ?_⟩
  · unfold gwG; rw [if_pos hk]; exact w8 _
  · exact w16 _
/-- The growth when k words came by. -/
def gwK (l : List UInt8) (k : Nat) : Nat → Int := fun j => if j < k then gwG l j else 0
theorem gwK_zero (l : List UInt8) : ∀ j, j < 12 → zW j = gro (gwK l 0) j := fun j _ => rfl
theorem gwK_next {l : List UInt8} {k : Nat} (hk : k < 11) {v : Int} (hv : v = gwG l k) : ∀ j, j < 12 → upd (gro (gwK l k)) k (.int .i8 v) j = gro (gwK l (k + 1)) j := fun j hj => by
  unfold upd
  by_cases e : j = k
  · subst e
    rw [if_pos rfl, gro_i8 _ hk, hv]
    unfold gwK
    rw [if_pos (by omega)]
  · rw [if_neg e]
    unfold gro gwK
    by_cases h : j < k
    · rw [if_pos h, if_pos (by omega)]
    · rw [if_neg h, if_neg (by omega)]
theorem gwK_last {l : List UInt8} {v : Int} (hv : v = gwG l 11) : ∀ j, j < 12 → upd (gro (gwK l 11)) 11 (.int .i16 v) j = gro (gwG l) j := fun j hj => by
  unfold upd
  by_cases e : j = 11
  · subst e
    rw [if_pos rfl, gro_lim, hv]
  · rw [if_neg e]
    unfold gro gwK
    rw [if_pos (by omega)]
theorem wpList_val {ops : Array Oper} {rest : List Oper} {o : Oper} {a : Act} {W : World} {Q : Exit → Act → World → Prop} (hgd : o.guard = none) (v : Value) (hr : ∀ W, (execOp a.eval o).run Tryd.prog W = .ok (.value v) W)
    (h : wpList Tryd.prog ops Q rest (a.put o.dst v) W) : wpList Tryd.prog ops Q (o :: rest) a W := by
  refine wpList_plain hgd fun K hK => ?_
  unfold Oper.wp
  rw [hr W]
  exact hK _ _ h
theorem run_buildG0 (W : World) : (Instr.build 26 #[]).run Tryd.prog W = .ok (.agg (arr 12 zW)) W := by kernel_rfl
theorem exec_buildG0 {o : Oper} {a : Act} (ho : o.op = .build 26 #[]) (W : World) : (execOp a.eval o).run Tryd.prog W = .ok (.value (.agg (arr 12 zW))) W := by
  unfold execOp
  simp only [ho, Array.map_empty, Sem.run_bind, Sem.run_pure, run_buildG0, Result.andThen_ok]
/-- What parseGrowth answers. -/
def PGrow (a : Nat → Addr) (l : List UInt8) (w : World) (e : Ending) (w' : World) : Prop :=
  ∃ g, FitsW g ∧ ((e = .returned (.tuple #[.agg (arr 12 (gro g)), errV (a 3)]) ∧ BadG l) ∨ (e = .returned (.tuple #[.agg (arr 12 (gro g)), .nilIface]) ∧ g = gwG l ∧ l ≠ [])) ∧ Below w.heap.size w w'
section
variable {P : Program} {o : Oper} {a : Act} {w : Base} {L : Blocks} {K : Act → Prop}
/-- In a drawn region: a load of a cell that every world of the class holds. -/
theorem b_old (ty : TypeId) (x : Operand) (ho : o.op = .load ty x) (b off : Nat) (hx : a.eval x = .pointer (some ⟨b, off, none⟩)) (hT : CellT P ty) (v : Value) (hc : ∀ W, Mem w L W → W.cell? ⟨b, off, none⟩ = some v)
    (h : K (a.put o.dst v)) : qB P o a (Mem w L) K := by
  refine ⟨v, fun W hM => ?_, h⟩
  obtain ⟨⟨d, hu, hd⟩, _⟩ := hT
  have hagg : (isAgg ty).run P W = .ok false W := by
    unfold isAgg
    rw [Sem.run_bind, run_underlying hu W]
    cases d <;> simp_all [TypeDesc.isRow]
  have hl : (load ⟨b, off, none⟩).run P W = .ok v W := by simp [load, Sem.run, hc W hM]
  unfold Oper.quietAt execOp
  simp only [ho, hx, Instr.loadAt, Instr.sureAddr, loadVar, Sem.run_bind, Sem.run_pure, Result.andThen_ok, hagg, Bool.false_eq_true, if_false, hl]
  exact ⟨rfl, rfl⟩
end
theorem part_lenG (c : UInt8) (l : List UInt8) (j : Nat) : ((partsC c l).getD j []).length ≤ l.length := by
  have key : ∀ (n : Nat) (l : List UInt8), l.length ≤ n → ∀ p, p ∈ partsC c l → p.length ≤ l.length := by
    intro n
    induction n with
    | zero =>
      intro l hl p hp
      obtain rfl : l = [] := List.eq_nil_of_length_eq_zero (by omega)
      simp [partsC] at hp; subst hp; simp
    | succ n ih =>
      intro l hl p hp
      rcases first_c c l with h1 | ⟨u, r, h1, rfl⟩
      · rw [partsC_free l h1] at hp; simp at hp; subst hp; exact Nat.le_refl _
      · rw [partsC_app u r h1] at hp
        simp only [List.length_append, List.length_cons] at hl ⊢
        rcases List.mem_cons.1 hp with rfl | hp
        · omega
        · have := ih r (by omega) p hp
          omega
  rw [List.getD_eq_getElem?_getD]
  by_cases hj : j < (partsC c l).length
  · rw [List.getElem?_eq_getElem hj]
    exact key l.length l (Nat.le_refl _) _ (List.getElem_mem hj)
  · rw [List.getElem?_eq_none (by omega)]; simp
theorem fits_zero : FitsW (fun _ => 0) := ⟨fun _ _ => by omega, by omega⟩
theorem PGrow.bad {a : Nat → Addr} {l : List UInt8} {w w' : World} {g : Nat → Int} (hb : BadG l) (hB : Below w.heap.size w w') (hg : FitsW g) : PGrow a l w (.returned (.tuple #[.agg (arr 12 (gro g)), errV (a 3)])) w' := ⟨g, hg, .inl ⟨rfl, hb⟩, hB⟩
set_option maxRecDepth 100000 in
set_option maxHeartbeats 4000000 in
theorem parseGrowth_any {a : Nat → Addr} (l : List UInt8) (hl : l.length ≤ 1048576) (w : World) (hE : PEnv a w) :
    Calls Tryd.prog 15 #[.string (bs l)] w (PGrow a l w) := by
  have hM := Mem.nil w
  have HE := Lib.hid hE
  have l1 := cut_len1 l [32]
  have l2 := cut_len2 l [32]
  have HC := Lib.hid (cut_any l 32 hl)
  rw [show (Lib.cut l [32]).1 = gwT l from rfl] at HC l1
  rw [show (Lib.cut l [32]).2.1 = gwL l from rfl] at HC l2
  generalize (Lib.cut l [32]).2.2 = cb at HC
  have HS := Lib.hid (splitN_any (gwT l) 44 12 (by omega) (by omega) (by omega))
  by_cases hnum : (partsC 44 (gwT l)).length ≠ 11
  · have Hb := Lib.hid (show BadG l from .inl hnum)
    have hlen : (wordsN 44 12 (gwT l)).length ≠ 11 := by
      by_cases h12 : (partsC 44 (gwT l)).length ≤ 12
      · rw [wordsN_few (by omega) h12]; exact hnum
      · rw [wordsN_many (by omega) (by omega)]; omega
    obtain ⟨n, hn⟩ : ∃ n, (wordsN 44 12 (gwT l)).length = n := ⟨_, rfl⟩
    rw [hn] at HS hlen
    have q1 : ((n : Int) == 11) = false := by rw [beq_eq_false_iff_ne]; omega
    have q2 : ¬ (n : Int) = 11 := by omega
    have q3 : decide ((n : Int) ≠ 11) = true := decide_eq_true (by omega)
    clear hn hnum hE
    have tk_b2 : True := trivial; have tk_b4 : True := trivial
    go_enter Tryd.func15, Tryd.ntmps15
    go_wp2_with (first | (have _t := tk_b2; refine wpList_zero rfl _ rfl (zeroTab _ _ _ rfl) hM ?_; intro b2 W' hb2 hM'; clear hM tk_b2; have hM := hM'; clear hM') | (have _t := tk_b4; refine wpList_zero rfl _ rfl (zeroTab _ _ _ rfl) hM ?_; intro b4 W' hb4 hM'; clear hM tk_b4; have hM := hM'; clear hM') | (go_at_call 24; refine (HC.out _ (HE.out.max.below hM.below)).mono ?_; rintro e W' ⟨rfl, hb'⟩; have hM' := hM.call hb'; clear hM hb'; have hM := hM'; clear hM') | (go_at_call 25; refine (HS.out _ (HE.out.max.below hM.below)).mono ?_; rintro e W' ⟨wb, N, F, rfl, hwb, hnN, hF, hA', hcb⟩; have hM' := hM.call hcb; clear hM hwb hnN hF hA' hcb; have hM := hM'; clear hM'))
    have hM1 := hM.swap
    clear hM
    have hM := hM1
    clear hM1
    ((try simp only [Act.put, List.setIfInBounds_toArray, List.set_cons_succ, List.set_cons_zero]); refine region_readsX [0, 1] #[true, true, false, false] 2 [(b2, 12, zW)] (by kernel_rfl) (by kernel_rfl) (by kernel_rfl) hM ?_; clear hM; (repeat (refine qs_plain rfl rfl ?_; first | (refine b_old _ _ rfl _ _ rfl (cellTab _ rfl) (errV (a 3)) (fun W hM2 => (HE.out.errs.below hM2.below).vars 3 (by omega)) ?_; (simp only [Act.put, List.setIfInBounds_toArray, List.set_cons_succ, List.set_cons_zero])) | (refine b_val ⟨_, exec_buildG0 rfl, ?_⟩; (simp only [Act.put, List.setIfInBounds_toArray, List.set_cons_succ, List.set_cons_zero])))); (with_reducible refine qs_nil ?_))
    (refine mix_one (i := 2) (by kernel_rfl) rfl (by kernel_rfl) rfl ?_)
    refine step_lay _ _ _ rfl _ _ rfl _ _ rfl 0 rfl (by assumption) (rowTab _ _ rfl) (by omega) (fun _ _ => rfl) ?_
    (simp only [Act.put, List.setIfInBounds_toArray, List.set_cons_succ, List.set_cons_zero])
    (refine mix_one (i := 3) (by kernel_rfl) rfl (by kernel_rfl) rfl ?_)
    (refine step_val ?_; apply Exists.intro; refine ⟨fun W => ?_, ?_⟩; (go_simp; rfl); (simp only [Act.put, List.setIfInBounds_toArray, List.set_cons_succ, List.set_cons_zero]))
    (refine mix_end (by kernel_rfl) ?_; intro W' hM; simp only [List.cons_append, List.nil_append] at hM)
    have hM1 := hM.re 0 rfl (gro fun _ => 0) (fun j hj => by simp [lay, hj]; rfl)
    simp only [List.set_cons_zero] at hM1
    go_wp2
    refine bodyPost_ret (results_at2 rfl _ rfl (hM1.ats 0 _ _ _ rfl) (rowTab _ _ rfl) _ rfl) rfl ?_
    exact PGrow.bad Hb.out hM.below fits_zero
  have hnum : (partsC 44 (gwT l)).length = 11 := by omega
  have hw : wordsN 44 12 (gwT l) = partsC 44 (gwT l) := wordsN_few (by omega) (by omega)
  rw [hw] at HS
  have Hne := Lib.hid (show l ≠ [] from fun e => by rw [e] at hnum; exact absurd hnum (by decide))
  rw [hnum] at HS
  have Htx := Lib.hid (show ∀ j, txF (partsC 44 (gwT l)) j = .string (bs (gwW l j)) from fun j => rfl)
  have HL := Lib.hid (show ∀ j, (gwW l j).length ≤ 1048576 from fun j => by
    have := part_lenG 44 (gwT l) j
    unfold gwW; omega)
  have HBk := Lib.hid (show ∀ k, k < 11 → pOk 8 (gwW l k) = false → BadG l from fun k h1 h2 => .inr (.inl ⟨k, h1, h2⟩))
  have HBl := Lib.hid (show pOk 16 (gwL l) = false → BadG l from fun h => .inr (.inr h))
  have HG8 := Lib.hid (show ∀ k, k < 11 → gwG l k = IntKind.i8.wrap (pVal 8 (gwW l k)) from fun k h => by unfold gwG; rw [if_pos h])
  have HG16 := Lib.hid (show gwG l 11 = IntKind.i16.wrap (pVal 16 (gwL l)) from rfl)
  have HF0 := Lib.hid (fits_gwG l)
  clear hw hnum hE
  have tk_b2 : True := trivial; have tk_b4 : True := trivial; have tk_sp : True := trivial
  go_enter Tryd.func15, Tryd.ntmps15
  go_wp2_with (first | (have _t := tk_b2; refine wpList_zero rfl _ rfl (zeroTab _ _ _ rfl) hM ?_; intro b2 W' hb2 hM'; clear hM tk_b2; have hM := hM'; clear hM') | (have _t := tk_b4; refine wpList_zero rfl _ rfl (zeroTab _ _ _ rfl) hM ?_; intro b4 W' hb4 hM'; clear hM tk_b4; have hM := hM'; clear hM') | (go_at_call 24; refine (HC.out _ (HE.out.max.below hM.below)).mono ?_; rintro e W' ⟨rfl, hb'⟩; have hM' := hM.call hb'; clear hM hb'; have hM := hM'; clear hM') | (have _t := tk_sp; go_at_call 25; refine (HS.out _ (HE.out.max.below hM.below)).mono ?_; rintro e W' ⟨wb, N, F, rfl, hwb, hnN, hF, hA', hcb⟩; have hM' := hM.fresh' hcb hA' hwb; simp only [List.cons_append, List.nil_append] at hM'; have HF := Lib.hid hF; clear hM hF hA' hcb tk_sp; have hM := hM'; clear hM'))
  have hM1 := hM.re 0 rfl (gro (gwK l 0)) (gwK_zero l)
  simp only [List.set_cons_zero] at hM1
  clear hM
  have hM := hM1
  clear hM1
  go_loopw [30] (fun i wr => ∃ k : Nat, k ≤ 11 ∧ i = .int .i64 k ∧ Mem (Base.of w) [(b4, 12, gro (gwK l k)), (b2, 12, zW), (wb, N, F)] wr) (fun i _ => 11 - (intOf i).toNat)
  case atStart => exact ⟨0, by omega, rfl, hM⟩
  case round =>
    clear hM
    obtain ⟨k, hk, rfl, hM⟩ := hrel
    by_cases hlt : k < 11
    · have l2 : (k : Int) < 11 := by omega
      obtain ⟨wd, hwd⟩ : ∃ wd, gwW l k = wd := ⟨_, rfl⟩
      have e0 : F k = .string (bs wd) := by rw [HF.out k hlt, Htx.out, hwd]
      have e1 : F (k * 1) = .string (bs wd) := by rw [Nat.mul_one]; exact e0
      have hwl := HL.out k
      have hg8 := HG8.out k hlt
      have hbk := HBk.out k hlt
      rw [hwd] at hwl hg8 hbk
      have HU := Lib.hid (fun (W : World) (h : PEnv a W) => parseNumber_any 8 8 (.inl ⟨rfl, rfl⟩) wd hwl W h)
      clear hwd hwl
      cases hok : pOk 8 wd
      · have Hb := Lib.hid (hbk hok)
        rw [hok] at HU
        rw [show evN a false = errV (a 3) from rfl] at HU
        clear hbk hok hg8
        have tk_r1 : True := trivial; have tk_n1 : True := trivial; have tk_y1 : True := trivial
        go_wp2_with (first | (have _t := tk_r1; refine wpList_get1 rfl _ _ rfl _ _ rfl hM 2 rfl (cellTab _ rfl) (by omega) _ (by first | exact e0 | exact e1) ?_; clear tk_r1) | (have _t := tk_n1; (go_at_call 26; refine (HU.out _ (HE.out.below hM.below)).mono ?_; rintro e W' ⟨rfl, hb'⟩; have hM' := hM.call hb'; clear hM hb'; have hM := hM'; clear hM'); clear tk_n1) | (refine wpList_val rfl _ (exec_buildG0 rfl) ?_) | (have _t := tk_y1; refine wpList_lay rfl _ _ _ rfl _ _ rfl _ _ rfl hM 1 rfl (by assumption) (rowTab _ _ rfl) (by omega) (fun _ _ => rfl) ?_; intro W' hM'; clear hM tk_y1; have hM := hM'; clear hM'; simp only [List.set] at hM))
        have hM1 := hM.re 1 rfl (gro fun _ => 0) (fun j hj => by simp [lay, hj]; rfl)
        simp only [List.set] at hM1
        refine bodyPost_ret (results_at2 rfl _ rfl (hM1.ats 1 _ _ _ rfl) (rowTab _ _ rfl) _ rfl) rfl ?_
        exact PGrow.bad Hb.out hM.below fits_zero
      · rw [hok] at HU
        rw [show evN a true = .nilIface from rfl] at HU
        have Hn := Lib.hid (gwK_next hlt hg8.symm)
        clear hbk hok hg8
        generalize pVal 8 wd = x at HU Hn
        have tk_r1 : True := trivial; have tk_n1 : True := trivial
        go_wp2_with (first | (have _t := tk_r1; refine wpList_get1 rfl _ _ rfl _ _ rfl hM 2 rfl (cellTab _ rfl) (by omega) _ (by first | exact e0 | exact e1) ?_; clear tk_r1) | (have _t := tk_n1; (go_at_call 26; refine (HU.out _ (HE.out.below hM.below)).mono ?_; rintro e W' ⟨rfl, hb'⟩; have hM' := hM.call hb'; clear hM hb'; have hM := hM'; clear hM'); clear tk_n1) | (refine wpList_set1 rfl _ _ _ rfl _ _ rfl _ rfl ?_ hM 0 rfl (by assumption) (cellTab _ rfl) (by omega) ?_; (first | rfl | exact h1 _); intro W' hM'; clear hM; have hM := hM'; clear hM'; simp [List.set, Act.eval] at hM))
        have hM1 := hM.re 0 rfl (gro (gwK l (k + 1))) Hn.out
        simp only [List.set_cons_zero] at hM1
        go_roundw
        case rel => exact ⟨k + 1, by omega, by go_num, hM1⟩
        case measure => simp [intOf]; omega
    · obtain rfl : k = 11 := by omega
      have HU := Lib.hid (fun (W : World) (h : PEnv a W) => parseNumber_any 16 16 (.inr ⟨rfl, rfl⟩) (gwL l) (by omega) W h)
      have hg16 := HG16.out
      have hbl := HBl.out
      generalize gwL l = wd at HU hg16 hbl
      have Hn := Lib.hid (gwK_last (l := l) hg16.symm)
      clear hg16
      have Hok := Lib.hid (show ∀ e : Value, e = evN a (pOk 16 wd) → ∀ W', Below w.heap.size w W' → PGrow a l w (.returned (.tuple #[.agg (arr 12 (gro (gwG l))), e])) W' from fun e he W' hB => by
        cases hok : pOk 16 wd
        · rw [hok] at he; subst he
          exact PGrow.bad (hbl hok) hB HF0.out
        · rw [hok] at he; subst he
          exact ⟨gwG l, HF0.out, .inr ⟨rfl, rfl, Hne.out⟩, hB⟩)
      obtain ⟨ev, hev⟩ : ∃ ev, evN a (pOk 16 wd) = ev := ⟨_, rfl⟩
      rw [hev] at HU
      have Hev := Lib.hid hev.symm
      generalize pVal 16 wd = x at HU Hn
      have eg : arr 12 (fun j => gro (gwG l) (0 + j)) = arr 12 (gro (gwG l)) := arr_congr fun j hj => by rw [Nat.zero_add]
      clear hev hbl
      have tk_n1 : True := trivial; have tk_s1 : True := trivial; have tk_g1 : True := trivial; have tk_y1 : True := trivial
      go_wp2_with (first | (have _t := tk_n1; (go_at_call 26; refine (HU.out _ (HE.out.below hM.below)).mono ?_; rintro e W' ⟨rfl, hb'⟩; have hM' := hM.call hb'; clear hM hb'; have hM := hM'; clear hM'); clear tk_n1) | (have _t := tk_s1; (refine wpList_set1 rfl _ _ _ rfl _ _ rfl _ rfl ?_ hM 0 rfl (by assumption) (cellTab _ rfl) (by omega) ?_; (first | rfl | exact h1 _); intro W' hM'; clear hM; have hM := hM'; clear hM'; simp [List.set, Act.eval] at hM); have hM1 := hM.re 0 rfl (gro (gwG l)) Hn.out; simp only [List.set_cons_zero] at hM1; clear hM tk_s1; have hM := hM1; clear hM1) | (have _t := tk_g1; (refine wpList_get rfl _ _ rfl _ _ rfl hM 0 rfl (rowTab _ _ rfl) (by omega) ?_); rw [eg]; clear tk_g1) | (have _t := tk_y1; refine wpList_lay rfl _ _ _ rfl _ _ rfl _ _ rfl hM 1 rfl (by assumption) (rowTab _ _ rfl) (by omega) (fun _ _ => rfl) ?_; intro W' hM'; clear hM tk_y1; have hM := hM'; clear hM'; simp only [List.set] at hM))
      have hM1 := hM.re 1 rfl (gro (gwG l)) (fun j hj => by simp [lay, hj])
      simp only [List.set] at hM1
      refine bodyPost_ret (results_at2 rfl _ rfl (hM1.ats 1 _ _ _ rfl) (rowTab _ _ rfl) _ rfl) rfl ?_
      exact Hok.out _ Hev.out _ hM.below
end Go.Proofs.YtaaphdbaocjecaaDoor

/-
  impl.GrowthText by contract.
-/
namespace Go.Proofs.YtaaphdbaocjecaaDoor
open Go Go.RowKit Go.BigFrame

set_option maxRecDepth 100000 in
set_option maxHeartbeats 4000000 in
theorem implGrowthText_any (h : Nat → Int) (hF : FitsW h) (w : World) (hT : TabP w) :
    Calls Tryd.prog 17 #[.agg (arr 12 (gro h))] w fun e w' => e = .returned (.string (bs (growthT h))) ∧ Below w.heap.size w w' := by
  have hM := Mem.nil w
  have HT := Lib.hid hT
  have eg : arr 12 (fun j => gro h (0 + j)) = arr 12 (gro h) := arr_congr fun j hj => by rw [Nat.zero_add]
  clear hT
  have tk_b1 : True := trivial; have tk_q1 : True := trivial; have tk_q2 : True := trivial
  cases hz : growB h
  · have Hz := Lib.hid hz
    have Hp := Lib.hid (growthT_no hz)
    clear hz
    go_enter Tryd.func17, Tryd.ntmps17
    go_wp2_with (first | (have _t := tk_b1; refine wpList_box rfl _ _ rfl _ _ rfl hM ?_; intro b1 W' hb1 hM'; clear hM tk_b1; have hM := hM'; clear hM') | (have _t := tk_q1; (refine wpList_get rfl _ _ rfl _ _ rfl hM 0 rfl (rowTab _ _ rfl) (by omega) ?_); rw [eg]; clear tk_q1) | (go_at_call 28; (with_reducible refine (implValidGrowth_any h hF _).mono ?_); rintro e W' ⟨rfl, hb'⟩; rw [Hz.out]; have hM' := hM.call hb'; clear hM hb'; have hM := hM'; clear hM'))
    go_ret
    exact ⟨ret_bs Hp.out.symm, hM.below⟩
  have Hz := Lib.hid hz
  have HP := Lib.hid (growthT_yes hz)
  obtain ⟨ht, hl0, hl1⟩ := growB_true hz
  have HF := Lib.hid ht
  have el : gro h 11 = .int .i16 (h 11) := rfl
  have HD := Lib.hid (fun (W : World) (hT : TabP W) => fmt_any (h 11) hl0 (by omega) W hT)
  have lt := numB_len (n := h 11) (by omega)
  have hjl := joinT_len (sep := [44]) (f := growW h) (m := 10) 11 (fun j hj => numB_len (by have := ht j (by omega); omega))
  simp only [List.length_cons, List.length_nil] at hjl
  have e11 : arr 11 (fun k => gro h (0 + k)) = arr 11 (gro h) := arr_congr fun j hj => by rw [Nat.zero_add]
  obtain ⟨t, htt⟩ : ∃ t, h 11 = t := ⟨_, rfl⟩
  obtain ⟨u, hu⟩ : ∃ u, numB t = u := ⟨_, rfl⟩
  rw [htt] at el HD lt hl0 hl1 HP
  rw [hu] at HD lt HP
  have ct : IntKind.i64.wrap t = t := IntWalk.i64_in _ (by omega)
  clear hz ht htt hu
  go_enter Tryd.func17, Tryd.ntmps17
  go_wp2_with (first | (have _t := tk_b1; refine wpList_box rfl _ _ rfl _ _ rfl hM ?_; intro b1 W' hb1 hM'; clear hM tk_b1; have hM := hM'; clear hM') | (have _t := tk_q1; (refine wpList_get rfl _ _ rfl _ _ rfl hM 0 rfl (rowTab _ _ rfl) (by omega) ?_); rw [eg]; clear tk_q1) | (have _t := tk_q2; (refine wpList_get rfl _ _ rfl _ _ rfl hM 0 rfl (rowTab _ _ rfl) (by omega) ?_); rw [e11]; clear tk_q2) | (go_at_call 28; (with_reducible refine (implValidGrowth_any h hF _).mono ?_); rintro e W' ⟨rfl, hb'⟩; rw [Hz.out]; have hM' := hM.call hb'; clear hM hb'; have hM := hM'; clear hM'))
  go_loopw [3, 11] (fun v i wr => ∃ k : Nat, k ≤ 11 ∧ i = .int .i64 k ∧ Lst (Base.of w) [(b1, 12, gro h)] 1 v k (strF (growW h)) wr) (fun _ i _ => 11 - (intOf i).toNat)
  case atStart => exact ⟨0, by omega, rfl, .inl ⟨rfl, rfl, hM⟩⟩
  case round =>
    clear hM
    obtain ⟨k, hk, rfl, hL⟩ := hrel
    by_cases hlt : k < 11
    · have l2 : (k : Int) < 11 := by omega
      obtain ⟨d0, d1⟩ := HF.out k hlt
      have ld := numB_len (n := h k) (by omega)
      have HK := Lib.hid (fun (W : World) (hT : TabP W) => fmt_any (h k) d0 (by omega) W hT)
      have e0 : gro h k = .int .i8 (h k) := gro_i8 h hlt
      obtain ⟨d, hd⟩ : ∃ d, h k = d := ⟨_, rfl⟩
      obtain ⟨v, hv⟩ : ∃ v, numB d = v := ⟨_, rfl⟩
      have HW := Lib.hid (show ∀ j, j < 1 → Value.string (bs v) = strF (growW h) (k * 1 + j) from fun j hj => by
        obtain rfl : j = 0 := by omega
        unfold strF growW
        rw [Nat.mul_one, Nat.add_zero, hd, hv])
      rw [hd] at HK ld d0 d1 e0
      rw [hv] at HK ld
      clear hd hv
      have hle : k ≤ 1048576 := by omega
      have cd : IntKind.i64.wrap d = d := IntWalk.i64_in _ (by omega)
      rcases hL with ⟨rfl, hn0, hM⟩ | ⟨bw, cw, F, rfl, hbb, hnc, hFF, hM⟩
      · have Hn0 := Lib.hid hn0
        have Hq : Hid (∀ j, j < 1 → (fun _ => Value.string (bs v)) j = strF (growW h) j) := Lib.hid (fun j hj => by have := HW.out j hj; rwa [hn0, Nat.zero_mul, Nat.zero_add] at this)
        clear hn0
        have tk_l1 : True := trivial; have tk_p1 : True := trivial
        go_wp2_with (first | (refine wpList_index rfl _ _ _ rfl _ _ rfl _ _ rfl (by omega) Tryd.underlying23 (cellTab _ rfl) _ e0 ?_) | (go_at_call 29; (with_reducible refine (HK.out _ (HT.out.below hM.below)).mono ?_); rintro e W' ⟨rfl, hb'⟩; have hM' := hM.call hb'; clear hM hb'; have hM := hM'; clear hM') | (have _t := tk_l1; refine wpList_lit1 rfl _ _ _ rfl (.string (bs v)) rfl rfl _ strs_under strs_info hM ?_; intro l1 W' hl1 hM'; clear hM tk_l1; have hM := hM'; clear hM') | (have _t := tk_p1; refine wpList_push0 rfl _ _ _ rfl _ 1 _ _ strs_under infoStringS rfl (by omega) rfl _ _ rfl hM (strF (growW h)) Hq.out ?_; intro bL cL FL W' hbL hcL hFL hM'; clear hM tk_p1; have hM := hM'; clear hM'))
        go_roundw
        case rel => exact ⟨k + 1, by omega, by go_num, by
          rw [Hn0.out]
          exact .inr ⟨bL, cL, FL, rfl, hbL, hcL, hFL, hM⟩⟩
        case measure => simp [intOf]; omega
      · have Hf := Lib.hid hFF
        clear hFF
        have tk_l1 : True := trivial; have tk_p1 : True := trivial
        go_wp2_with (first | (refine wpList_index rfl _ _ _ rfl _ _ rfl _ _ rfl (by omega) Tryd.underlying23 (cellTab _ rfl) _ e0 ?_) | (go_at_call 29; (with_reducible refine (HK.out _ (HT.out.below hM.below)).mono ?_); rintro e W' ⟨rfl, hb'⟩; have hM' := hM.call hb'; clear hM hb'; have hM := hM'; clear hM') | (have _t := tk_l1; refine wpList_lit1 rfl _ _ _ rfl (.string (bs v)) rfl rfl _ strs_under strs_info hM ?_; intro l1 W' hl1 hM'; clear hM tk_l1; have hM := hM'; clear hM') | (have _t := tk_p1; refine wpList_push1 rfl _ _ _ rfl _ 1 _ _ strs_under infoStringS rfl (by omega) _ _ _ _ rfl hbb hnc hle _ _ rfl strF_one hM (strF (growW h)) Hf.out HW.out ?_; intro bL cL FL W' hbL hcL hFL hM'; clear hM tk_p1; have hM := hM'; clear hM'))
        go_roundw
        case rel => exact ⟨k + 1, by omega, by go_num, .inr ⟨bL, cL, FL, rfl, hbL, hcL, hFL, hM⟩⟩
        case measure => simp [intOf]; omega
    · obtain rfl : k = 11 := by omega
      rcases hL with ⟨rfl, hn0, hM⟩ | ⟨bw, cw, F, rfl, hbb, hnc, hFF, hM⟩
      · omega
      have HJ : Hid (∀ (W : World), At W bw (cw * 1) F → Calls Tryd.prog 30 #[.slice (some ⟨bw, 0, none⟩) 11 cw, .string ⟨#[44]⟩] W fun e w' => e = .returned (.string (bs (joinT [44] (growW h) 11))) ∧ Below W.heap.size W w') := Lib.hid (fun (W : World) (hA : At W bw (cw * 1) F) => join_any bw 11 (cw * 1) cw (growW h) F [44] 10 (fun j hj => numB_len (by have := HF.out j hj; omega)) (by simp only [List.length_cons, List.length_nil]; omega) (by omega) (by omega) (fun j hj => hFF j (by omega)) hnc W hA)
      obtain ⟨J, hJ⟩ : ∃ J, joinT [44] (growW h) 11 = J := ⟨_, rfl⟩
      rw [hJ] at HJ hjl HP
      clear hJ hFF
      go_wp2
      ((try simp only [Act.put, List.setIfInBounds_toArray, List.set_cons_succ, List.set_cons_zero]); refine wp_region_mem (by kernel_rfl) (by kernel_rfl) hM ?_; clear hM; (repeat (first | go_big_quiet_skip | (go_big_quiet_want; first | (refine quiet_get1 _ _ rfl _ _ rfl 1 rfl (cellTab _ rfl) (by omega) _ (el) ?_; (simp only [Act.put, List.setIfInBounds_toArray, List.set_cons_succ, List.set_cons_zero]); go_big_quiet_on) | (refine quiet_call ?_; apply Exists.intro; apply Exists.intro; apply Exists.intro; refine ⟨fun W => ?_, fun W hM => ?_, ?_⟩; (go_simp; exact ⟨rfl, rfl⟩); (with_reducible exact HJ.out W (hM.ats 0 _ _ _ rfl)); (simp only [Act.put, List.setIfInBounds_toArray, List.set_cons_succ, List.set_cons_zero]); go_big_quiet_on) | (refine quiet_call ?_; apply Exists.intro; apply Exists.intro; apply Exists.intro; refine ⟨fun W => ?_, fun W hM => ?_, ?_⟩; (go_simp; exact ⟨rfl, rfl⟩); (with_reducible exact HD.out W (HT.out.below hM.below)); (simp only [Act.put, List.setIfInBounds_toArray, List.set_cons_succ, List.set_cons_zero]); go_big_quiet_on) | (refine quiet_val ⟨_, fun W => cat_op _ _ rfl _ _ rfl rfl (by simp only [List.length_append, List.length_cons, List.length_nil]; omega) W, ?_⟩; (simp only [Act.put, List.setIfInBounds_toArray, List.set_cons_succ, List.set_cons_zero]); go_big_quiet_on) | (refine quiet_val ?_; apply Exists.intro; refine ⟨fun W => ?_, ?_⟩; (go_simp; (try simp only [ct, if_true, Bool.false_eq_true, if_false]); rfl); (simp only [Act.put, List.setIfInBounds_toArray, List.set_cons_succ, List.set_cons_zero]); go_big_quiet_on)))); (with_reducible refine wpQuiet_nil ?_); intro W' hM)
      go_wp2
      go_ret
      exact ⟨ret_bs (by rw [HP.out]; simp), hM.below⟩
end Go.Proofs.YtaaphdbaocjecaaDoor

/-
  impl.ReadGrowth by contract.
-/
namespace Go.Proofs.YtaaphdbaocjecaaDoor
open Go Go.RowKit Go.BigFrame

/-- What both Reads answer. -/
def ReadG (l : List UInt8) (w : World) (e : Ending) (w' : World) : Prop :=
  ∃ g c, e = .returned (.tuple #[.agg (arr 12 (gro g)), .int .i64 c]) ∧ ((TellsG l g ∧ c = 0) ∨ ((∀ i, i < 12 → g i = 0) ∧ c = 5 ∧ ∀ h, ¬ TellsG l h)) ∧ Below w.heap.size w w'
theorem ReadG.no {l : List UInt8} {w w' : World} (hno : ∀ h, ¬ TellsG l h) (hB : Below w.heap.size w w') : ReadG l w (.returned (.tuple #[.agg (arr 12 (gro fun _ => 0)), .int .i64 5])) w' := ⟨_, 5, rfl, .inr ⟨fun _ _ => rfl, rfl, hno⟩, hB⟩
theorem readG_text {l : List UInt8} (h0 : l ≠ []) (h : growthT (gwG l) = l) : TellsG l (gwG l) := tellsG_text h h0
theorem growB_congr {h g : Nat → Int} (e : ∀ i, i < 12 → h i = g i) : growB h = growB g := by
  unfold growB
  rw [e 11 (by omega)]
  congr 1
  have : ∀ k, k ∈ List.range 11 → inB 0 100 (h k) = inB 0 100 (g k) := fun k hk => by rw [e k (by have := List.mem_range.1 hk; omega)]
  rw [Bool.eq_iff_iff, List.all_eq_true, List.all_eq_true]
  exact ⟨fun q k hk => by rw [← this k hk]; exact q k hk, fun q k hk => by rw [this k hk]; exact q k hk⟩
theorem TellsG.same {l : List UInt8} {g h : Nat → Int} (k : TellsG l g) (e : ∀ i, i < 12 → h i = g i) : TellsG l h :=
  ⟨by rw [growB_congr e]; exact k.1, by
    rw [e 11 (by omega), k.2]
    rw [joinT_congr (f := growW h) (g := growW g) (fun j hj => by unfold growW; rw [e j (by omega)])]⟩
theorem readG_no {l : List UInt8} (h : growthT (gwG l) ≠ l) (g : Nat → Int) : ¬ TellsG l g := fun k => h ((k.same (gwG_told k)).text)
set_option maxRecDepth 100000 in
set_option maxHeartbeats 4000000 in
theorem implReadGrowth_any {a : Nat → Addr} (l : List UInt8) (hl : l.length ≤ 1048576) (w : World) (hE : RdEnv a w) :
    Calls Tryd.prog 6 #[.string (bs l)] w (ReadG l w) := by
  have hM := Mem.nil w
  have HE := Lib.hid hE
  have HP := Lib.hid (fun (W : World) (h : PEnv a W) => parseGrowth_any l hl W h)
  clear hE
  have tk_b2 : True := trivial; have tk_b4 : True := trivial; have tk_y4 : True := trivial
  go_enter Tryd.func6, Tryd.ntmps6
  go_wp2_with (first | (have _t := tk_b2; refine wpList_zero rfl _ rfl (zeroTab _ _ _ rfl) hM ?_; intro b2 W' hb2 hM'; clear hM tk_b2; have hM := hM'; clear hM') | (go_at_call 15; refine (HP.out _ (HE.out.env.below hM.below)).mono ?_))
  rintro e W' ⟨g, hF, ⟨rfl, hb⟩ | ⟨rfl, rfl, h0⟩, hbl⟩
  all_goals
    have hM' := hM.call hbl
    clear hM hbl
    have hM := hM'
    clear hM'
  · have HC := Lib.hid (fun (W : World) (h : Errs a W) => codeOf_3 h)
    have Hb := Lib.hid hb
    clear hb hF
    have tk_y2 : True := trivial
    go_wp2_with (first | (have _t := tk_b4; refine wpList_zero rfl _ rfl (zeroTab _ _ _ rfl) hM ?_; intro b4 W' hb4 hM'; clear hM tk_b4; have hM := hM'; clear hM') | (have _t := tk_y4; (refine wpList_lay rfl _ _ _ rfl _ _ rfl _ _ rfl hM 0 rfl (by assumption) (rowTab _ _ rfl) (by omega) (fun _ _ => rfl) ?_; intro W' hM'; clear hM; have hM := hM'; clear hM'; simp only [List.set] at hM); clear tk_y4) | (refine wpList_val rfl _ (exec_buildG0 rfl) ?_) | (go_at_call 16; refine (HC.out _ (HE.out.env.errs.below hM.below)).mono ?_; rintro e W' ⟨rfl, rfl⟩) | (have _t := tk_y2; (refine wpList_lay rfl _ _ _ rfl _ _ rfl _ _ rfl hM 1 rfl (by assumption) (rowTab _ _ rfl) (by omega) (fun _ _ => rfl) ?_; intro W' hM'; clear hM; have hM := hM'; clear hM'; simp only [List.set] at hM); clear tk_y2))
    have hM1 := hM.re 1 rfl (gro fun _ => 0) (fun j hj => by simp [lay, hj]; rfl)
    simp only [List.set] at hM1
    refine bodyPost_ret (results_at2 rfl _ rfl (hM1.ats 1 _ _ _ rfl) (rowTab _ _ rfl) _ rfl) rfl ?_
    exact ReadG.no Hb.out.no hM.below
  · have HT := Lib.hid (fun (W : World) (h : TabP W) => implGrowthText_any (gwG l) hF W h)
    have hq := bs_beq (growthT (gwG l)) l
    have Hy := Lib.hid (readG_text (l := l) h0)
    have Hno := Lib.hid (readG_no (l := l))
    obtain ⟨tx, htx⟩ : ∃ tx, growthT (gwG l) = tx := ⟨_, rfl⟩
    rw [htx] at HT hq Hy Hno
    have eg : arr 12 (fun j => gro (gwG l) (0 + j)) = arr 12 (gro (gwG l)) := arr_congr fun j hj => by rw [Nat.zero_add]
    clear htx h0 hF
    have el : ∀ (W : World), Mem (Base.of w) [(0, 0, fun _ => undef)] W → True := fun _ _ => trivial
    clear el
    by_cases he : tx = l
    · rw [decide_eq_true he] at hq
      have Hk := Lib.hid (Hy.out he)
      clear he Hy Hno
      have tk_g4 : True := trivial; have tk_g5 : True := trivial; have tk_y2 : True := trivial
      go_wp2_with (first | (have _t := tk_b4; refine wpList_zero rfl _ rfl (zeroTab _ _ _ rfl) hM ?_; intro b4 W' hb4 hM'; clear hM tk_b4; have hM := hM'; clear hM') | (have _t := tk_y4; (refine wpList_lay rfl _ _ _ rfl _ _ rfl _ _ rfl hM 0 rfl (by assumption) (rowTab _ _ rfl) (by omega) (fun _ _ => rfl) ?_; intro W' hM'; clear hM; have hM := hM'; clear hM'; simp only [List.set] at hM); have hM1 := hM.re 0 rfl (gro (gwG l)) (fun j hj => by simp [lay, hj]); simp only [List.set_cons_zero] at hM1; clear hM tk_y4; have hM := hM1; clear hM1) | (have _t := tk_g4; (refine wpList_get rfl _ _ rfl _ _ rfl hM 0 rfl (rowTab _ _ rfl) (by omega) ?_); rw [eg]; clear tk_g4) | (go_at_call 17; refine (HT.out _ (HE.out.tab.below hM.below)).mono ?_; rintro e W' ⟨rfl, hb'⟩; have hM' := hM.call hb'; clear hM hb'; have hM := hM'; clear hM') | (have _t := tk_g5; (refine wpList_get rfl _ _ rfl _ _ rfl hM 0 rfl (rowTab _ _ rfl) (by omega) ?_); rw [eg]; clear tk_g5) | (have _t := tk_y2; (refine wpList_lay rfl _ _ _ rfl _ _ rfl _ _ rfl hM 1 rfl (by assumption) (rowTab _ _ rfl) (by omega) (fun _ _ => rfl) ?_; intro W' hM'; clear hM; have hM := hM'; clear hM'; simp only [List.set] at hM); clear tk_y2))
      have hM1 := hM.re 1 rfl (gro (gwG l)) (fun j hj => by simp [lay, hj])
      simp only [List.set] at hM1
      refine bodyPost_ret (results_at2 rfl _ rfl (hM1.ats 1 _ _ _ rfl) (rowTab _ _ rfl) _ rfl) rfl ?_
      exact ⟨_, 0, rfl, .inl ⟨Hk.out, rfl⟩, hM.below⟩
    · rw [decide_eq_false he] at hq
      have Hk := Lib.hid (Hno.out he)
      clear he Hy Hno
      have tk_g4 : True := trivial; have tk_y2 : True := trivial
      go_wp2_with (first | (have _t := tk_b4; refine wpList_zero rfl _ rfl (zeroTab _ _ _ rfl) hM ?_; intro b4 W' hb4 hM'; clear hM tk_b4; have hM := hM'; clear hM') | (have _t := tk_y4; (refine wpList_lay rfl _ _ _ rfl _ _ rfl _ _ rfl hM 0 rfl (by assumption) (rowTab _ _ rfl) (by omega) (fun _ _ => rfl) ?_; intro W' hM'; clear hM; have hM := hM'; clear hM'; simp only [List.set] at hM); have hM1 := hM.re 0 rfl (gro (gwG l)) (fun j hj => by simp [lay, hj]); simp only [List.set_cons_zero] at hM1; clear hM tk_y4; have hM := hM1; clear hM1) | (have _t := tk_g4; (refine wpList_get rfl _ _ rfl _ _ rfl hM 0 rfl (rowTab _ _ rfl) (by omega) ?_); rw [eg]; clear tk_g4) | (go_at_call 17; refine (HT.out _ (HE.out.tab.below hM.below)).mono ?_; rintro e W' ⟨rfl, hb'⟩; have hM' := hM.call hb'; clear hM hb'; have hM := hM'; clear hM') | (refine wpList_val rfl _ (exec_buildG0 rfl) ?_) | (have _t := tk_y2; (refine wpList_lay rfl _ _ _ rfl _ _ rfl _ _ rfl hM 1 rfl (by assumption) (rowTab _ _ rfl) (by omega) (fun _ _ => rfl) ?_; intro W' hM'; clear hM; have hM := hM'; clear hM'; simp only [List.set] at hM); clear tk_y2))
      have hM1 := hM.re 1 rfl (gro fun _ => 0) (fun j hj => by simp [lay, hj]; rfl)
      simp only [List.set] at hM1
      refine bodyPost_ret (results_at2 rfl _ rfl (hM1.ats 1 _ _ _ rfl) (rowTab _ _ rfl) _ rfl) rfl ?_
      exact ReadG.no Hk.out hM.below
end Go.Proofs.YtaaphdbaocjecaaDoor

/-
  What spec's strict reading makes of a text of stakes.
-/
namespace Go.Proofs.YtaaphdbaocjecaaDoor
open Go Go.RowKit Go.BigFrame

def wkP (wd : List UInt8) : List UInt8 := (partsC 47 wd).getD 0 []
def wkQ (wd : List UInt8) : List UInt8 := (partsC 47 wd).getD 1 []
def wkU (wd : List UInt8) : List UInt8 := (partsC 44 (wkP wd)).getD 0 []
def wkV (wd : List UInt8) : List UInt8 := (partsC 44 (wkP wd)).getD 1 []
def wkH (wd : List UInt8) : Nat → Int := st3 (numV (wkU wd)) (numV (wkV wd)) (numV (wkQ wd))
structure WkOk (wd : List UInt8) : Prop where
  p : (partsC 47 wd).length = 2
  s : (partsC 44 (wkP wd)).length = 2
  u : numB9 (wkU wd) = true
  v : numB9 (wkV wd) = true
  q : numB9 (wkQ wd) = true
  x : numV (wkU wd) < 10
  y : numV (wkV wd) < 10
  r : inB 0 200 (numV (wkQ wd)) = true
theorem two_of {ps : List (List UInt8)} (h : ps.length = 2) : ps = [ps.getD 0 [], ps.getD 1 []] := by
  match ps, h with
  | [a, b], _ => rfl
theorem numV_pos {l : List UInt8} : 0 ≤ numV l := by unfold numV; split <;> omega
theorem num_back {l : List UInt8} (h : numB9 l = true) : l = numB (numV l) := by
  rw [numV_yes h]; exact num9_numB h
theorem WkOk.told {wd : List UInt8} (h : WkOk wd) : stakeB gMost (wkH wd) = true ∧ ∀ (hs : Nat → Nat → Int) (k : Nat), hs k = wkH wd → wd = stakeW hs k := by
  constructor
  · unfold stakeB
    rw [isB_most]
    have h1 : inB 0 9 (wkH wd 0) = true := decide_eq_true ⟨numV_pos, by have := h.x; show numV (wkU wd) ≤ 9; omega⟩
    have h2 : inB 0 9 (wkH wd 1) = true := decide_eq_true ⟨numV_pos, by have := h.y; show numV (wkV wd) ≤ 9; omega⟩
    rw [h1, h2, show wkH wd 2 = numV (wkQ wd) from rfl, h.r]; rfl
  · intro hs k e
    have e1 := (parts_two.1 (two_of h.p)).1
    have e2 := (parts_two.1 (two_of h.s)).1
    unfold stakeW spotT
    rw [e, show wkH wd 0 = numV (wkU wd) from rfl, show wkH wd 1 = numV (wkV wd) from rfl, show wkH wd 2 = numV (wkQ wd) from rfl, ← num_back h.u, ← num_back h.v, ← num_back h.q]
    have e3 : wkP wd = wkU wd ++ 44 :: wkV wd := e2
    have e4 : wd = wkP wd ++ 47 :: wkQ wd := e1
    rw [e3] at e4
    simpa using e4
theorem numV_numB {n : Int} (h0 : 0 ≤ n) (h : n < 1000000000) : numV (numB n) = n := by rw [numV_yes (numB_num9 h0 h), numB_val h0]
theorem wkOk_of {wd : List UInt8} {hs : Nat → Nat → Int} {k : Nat} (hb : stakeB gMost (hs k) = true) (e : wd = stakeW hs k) : WkOk wd := by
  obtain ⟨⟨d0, d1⟩, ⟨x0, x1⟩, y0, y1⟩ := stakeB_most hb
  have hp := stakeW_parts hs k
  rw [← e] at hp
  have eP : wkP wd = spotT (hs k 0) (hs k 1) := by unfold wkP; rw [hp]; rfl
  have eQ : wkQ wd = numB (hs k 2) := by unfold wkQ; rw [hp]; rfl
  have eU : wkU wd = numB (hs k 0) := by unfold wkU; rw [eP, spotT_parts]; rfl
  have eV : wkV wd = numB (hs k 1) := by unfold wkV; rw [eP, spotT_parts]; rfl
  refine ⟨by rw [hp]; rfl, by rw [eP, spotT_parts]; rfl, ?_, ?_, ?_, ?_, ?_, ?_⟩
  · rw [eU]; exact numB_num9 (by omega) (by omega)
  · rw [eV]; exact numB_num9 (by omega) (by omega)
  · rw [eQ]; exact numB_num9 (by omega) (by omega)
  · rw [eU, numV_numB (by omega) (by omega)]; omega
  · rw [eV, numV_numB (by omega) (by omega)]; omega
  · rw [eQ, numV_numB (by omega) (by omega)]; exact decide_eq_true ⟨by omega, by omega⟩
def wkHs (l : List UInt8) : Nat → Nat → Int := fun j => wkH ((partsC 32 l).getD j [])
theorem wk_all {l : List UInt8} {n : Nat} (hn : (partsC 32 l).length = n) (h12 : n ≤ 12) (h : ∀ j, j < n → WkOk ((partsC 32 l).getD j [])) : TellsK l n (wkHs l) := by
  refine ⟨h12, fun i hi => (h i hi).told.1, ?_⟩
  subst hn
  refine (joinT_parts (fun k hk => ?_)).symm
  rw [← (h k hk).told.2 (wkHs l) k rfl, List.getD_eq_getElem?_getD, List.getElem?_eq_getElem hk]; rfl
theorem wk_bad {l : List UInt8} {n j : Nat} (h0 : l ≠ []) (hn : (partsC 32 l).length = n) (hj : j < n) (h : ¬ WkOk ((partsC 32 l).getD j [])) (m : Nat) (gs : Nat → Nat → Int) : ¬ TellsK l m gs := fun k => by
  obtain ⟨e1, e2⟩ := k.words h0
  exact h (wkOk_of (k.2.1 j (by omega)) (e2 j (by omega)))
theorem wk_many {l : List UInt8} {n : Nat} (h0 : l ≠ []) (hn : (partsC 32 l).length = n) (h : 12 < n) (m : Nat) (gs : Nat → Nat → Int) : ¬ TellsK l m gs := fun k => by
  have := (k.words h0).1
  have := k.1
  omega
/-- Fewer blocks. -/
theorem Mem.fewer {b0 : Base} {L L' : Blocks} {W : World} (h : Mem b0 L W) (hs : L'.Sublist L) : Mem b0 L' W := by
  have hw : L.Pairwise (fun p q => p.1 ≠ q.1) := List.pairwise_iff_getElem.2 fun i j hi hj hlt => h.apart i j _ _ (List.getElem?_eq_getElem hi) (List.getElem?_eq_getElem hj) (by omega)
  have hw2 := List.pairwise_iff_getElem.1 (hw.sublist hs)
  refine ⟨h.good, fun i b n f hi => h.ofK _ (hs.subset (List.mem_of_getElem? hi)), fun i j p q hi hj hne => ?_⟩
  obtain ⟨hil, ei⟩ := List.getElem?_eq_some_iff.1 hi
  obtain ⟨hjl, ej⟩ := List.getElem?_eq_some_iff.1 hj
  rcases Nat.lt_or_gt_of_ne hne with h1 | h1
  · have := hw2 i j hil hjl h1; rwa [ei, ej] at this
  · have := hw2 j i hjl hil h1; rw [ei, ej] at this; exact fun e => this e.symm
theorem readK_no {l : List UInt8} {w W : World} {b : Nat} {f : Nat → Value} {L : Blocks} (hM : Mem (Base.of w) ((b, 0, f) :: L) W) (hb : w.heap.size ≤ b) (hno : ∀ m gs, ¬ TellsK l m gs) : ReadK l w (.returned (.tuple #[.slice (some ⟨b, 0, none⟩) 0 0, .int .i64 5])) W :=
  ⟨_, 0, fun _ _ => 0, 5, rfl, .inr ⟨b, 0, f, rfl, hb, Nat.le_refl _, fun j hj => absurd hj (by omega), hM.fewer (L' := [(b, 0, f)]) (by simp)⟩, .inr ⟨rfl, rfl, hno⟩⟩
end Go.Proofs.YtaaphdbaocjecaaDoor

