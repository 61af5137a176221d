/-
  laws.eqSpot, laws.eqGoat on what is equal; spec.FreeGoat and impl.FreeGoat by contracts; laws.FnExactFreeGoat returns true.
-/
import Derived.Test.YtfdemocmokgbgaaConv
import Derived.Test.YtfdemocmokgbgaaSpec1
import Derived.Laws.ResultCell
import Derived.Lib.Hide
namespace Go.Proofs.Ytfdemocmokgbgaa
open Go Go.RowKit Go.BigFrame

theorem loadVar_at {P : Program} {ty : TypeId} {W : World} {b n : Nat} {f : Nat → Value} (hg : At W b n f) (hT : RowT P ty n) : (loadVar ty ⟨b, 0, none⟩).run P W = .ok (.agg (arr n f)) W := by
  obtain ⟨⟨d, hu, hd⟩, hm⟩ := hT
  obtain ⟨t, hg⟩ := hg
  exact run_loadVar_row W b t ty (arr n f) (0, 0) d hg hu (by cases d <;> simp_all [TypeDesc.isRow]) (by rw [hm, arr_size])
/-- Two results, the first in memory. -/
theorem results_at2 {P : Program} {fn : Func} {p q : Tmp} {ty : TypeId} (h : fn.results = #[.cell p ty, .tmp q]) (tmps : Array Value) {W : World} {b n : Nat} {f : Nat → Value}
    (hp : tmps.getD p undef = .pointer (some ⟨b, 0, none⟩)) (hg : At W b n f) (hT : RowT P ty n) (v : Value) (hq : tmps.getD q undef = v) :
    (results fn tmps).run P W = .ok (.tuple #[.agg (arr n f), v]) W := by
  rw [results_cell_tmp h, hp]
  have : (asAddr (.pointer (some ⟨b, 0, none⟩))).run P W = .ok ⟨b, 0, none⟩ W := rfl
  rw [this]
  simp only [Result.andThen_ok, loadVar_at hg hT, hq]

set_option maxHeartbeats 400000 in
theorem eqSpot_same (x y : Int) (w : World) :
    Calls Try.prog 20 #[.agg (arr 2 (sp x y)), .agg (arr 2 (sp x y))] w fun e w' => e = .returned (.bool true) ∧ Below w.heap.size w w' := by
  have hM := Mem.nil w
  have e0 : sp x y 0 = .int .i8 x := rfl
  have e1 : sp x y 1 = .int .i8 y := rfl
  have tk_b1 : True := trivial; have tk_b2 : True := trivial
  go_enter Try.func20, Try.ntmps20
  go_wp2_with (first | (have _t := tk_b1; refine wpList_box rfl _ _ rfl _ _ rfl hM ?_; intro b1 W' hb1 hM'; clear hM tk_b1; have hM := hM'; clear hM') | (have _t := tk_b2; refine wpList_box rfl _ _ rfl _ _ rfl hM ?_; intro b2 W' hb2 hM'; clear hM tk_b2; have hM := hM'; clear hM') | (refine wpList_get1 rfl _ _ rfl _ _ rfl hM 1 rfl (cellTab _ rfl) (by omega) _ rfl ?_) | (refine wpList_get1 rfl _ _ rfl _ _ rfl hM 0 rfl (cellTab _ rfl) (by omega) _ rfl ?_))
  go_ret
  exact ⟨rfl, hM.below⟩

theorem gt_sp {h : Nat → Int} {o : Nat} (ho : o + 2 ≤ 4) : arr 2 (fun k => gt h (o + k)) = arr 2 (sp (h o) (h (o + 1))) := arr_congr fun k hk => by
  have e : gk (o + k) = .i8 := by unfold gk; rw [if_pos (by omega)]
  unfold gt sp
  rw [e]
  rcases (show k = 0 ∨ k = 1 by omega) with rfl | rfl <;> simp
theorem eqGoatSpot (h : Nat → Int) (o : Nat) (ho : o + 2 ≤ 4) (w : World) :
    Calls Try.prog 20 #[.agg (arr 2 (fun k => gt h (o + k))), .agg (arr 2 (fun k => gt h (o + k)))] w fun e w' => e = .returned (.bool true) ∧ Below w.heap.size w w' := by
  rw [gt_sp ho]
  exact eqSpot_same _ _ w

set_option maxRecDepth 100000 in
set_option maxHeartbeats 400000 in
theorem eqGoat_same (h : Nat → Int) (w : World) :
    Calls Try.prog 9 #[.agg (arr 7 (gt h)), .agg (arr 7 (gt h))] w fun e w' => e = .returned (.bool true) ∧ Below w.heap.size w w' := by
  have hM := Mem.nil w
  have e4 : gt h 4 = .int .i16 (h 4) := rfl
  have e5 : gt h 5 = .int .i16 (h 5) := rfl
  have e6 : gt h 6 = .int .i8 (h 6) := rfl
  have tk_b1 : True := trivial; have tk_b2 : True := trivial
  go_enter Try.func9, Try.ntmps9
  go_wp2_with (first | (have _t := tk_b1; refine wpList_box rfl _ _ rfl _ _ rfl hM ?_; intro b1 W' hb1 hM'; clear hM tk_b1; have hM := hM'; clear hM') | (have _t := tk_b2; refine wpList_box rfl _ _ rfl _ _ rfl hM ?_; intro b2 W' hb2 hM'; clear hM tk_b2; have hM := hM'; clear hM') | (refine wpList_get1 rfl _ _ rfl _ _ rfl hM 1 rfl (cellTab _ rfl) (by omega) _ rfl ?_) | (refine wpList_get1 rfl _ _ rfl _ _ rfl hM 0 rfl (cellTab _ rfl) (by omega) _ rfl ?_) | (refine wpList_get rfl _ _ rfl _ _ rfl hM 1 rfl (rowTab _ _ rfl) (by omega) ?_) | (refine wpList_get rfl _ _ rfl _ _ rfl hM 0 rfl (rowTab _ _ rfl) (by omega) ?_) | (go_at_call 20; refine (eqGoatSpot h _ (by omega) _).mono ?_; rintro e W' ⟨rfl, hb'⟩; have hM' := hM.call hb'; clear hM hb'; have hM := hM'; clear hM'))
  go_ret
  exact ⟨rfl, hM.below⟩

/-- A free goat. -/
def freeG (x y e l : Int) : Nat → Int := fun k => if k = 0 then x else if k = 1 then y else if k = 4 then -1 else if k = 5 then e else if k = 6 then l else 0
def gz : Nat → Int := fun _ => 0
def dietB (e l : Int) : Bool := inB 0 100 e && inB 0 1 l
theorem run_free (x y e l : Int) (W : World) : (Instr.build 28 #[(0, .agg (arr 2 (sp x y))), (2, .int .i16 (-1)), (3, .int .i16 e), (4, .int .i8 l)]).run Try.prog W = .ok (.agg (arr 7 (gt (freeG x y e l)))) W := by
  kernel_rfl
theorem run_goat0 (W : World) : (Instr.build 28 #[]).run Try.prog W = .ok (.agg (arr 7 (gt gz))) W := by
  kernel_rfl
theorem wpList_free {ops : Array Oper} {rest : List Oper} {o : Oper} {a : Act} {W : World} {Q : Exit → Act → World → Prop} (hgd : o.guard = none) (p q r : Operand) (ho : o.op = .build 28 #[(0, p), (2, .const (.int .i16 (-1))), (3, q), (4, r)])
    (x y e l : Int) (hp : a.eval p = .agg (arr 2 (sp x y))) (hq : a.eval q = .int .i16 e) (hr : a.eval r = .int .i8 l)
    (h : wpList Try.prog ops Q rest (a.put o.dst (.agg (arr 7 (gt (freeG x y e l))))) W) : wpList Try.prog ops Q (o :: rest) a W := by
  refine wpList_plain hgd fun K hK => ?_
  unfold Oper.wp execOp
  have ee : (Array.map (fun (z : Nat × Operand) => match z with | (i, x) => (i, a.eval x)) #[(0, p), (2, .const (.int .i16 (-1))), (3, q), (4, r)]) = #[(0, .agg (arr 2 (sp x y))), (2, .int .i16 (-1)), (3, .int .i16 e), (4, .int .i8 l)] := by
    have hc : a.eval (.const (.int .i16 (-1))) = .int .i16 (-1) := rfl
    simp [hp, hq, hr, hc]
  simp only [ho, ee, Sem.run_bind, Sem.run_pure, run_free, Result.andThen_ok]
  exact hK _ _ h
theorem wpList_goat0 {ops : Array Oper} {rest : List Oper} {o : Oper} {a : Act} {W : World} {Q : Exit → Act → World → Prop} (hgd : o.guard = none) (ho : o.op = .build 28 #[])
    (h : wpList Try.prog ops Q rest (a.put o.dst (.agg (arr 7 (gt gz)))) W) : wpList Try.prog ops Q (o :: rest) a W := by
  refine wpList_plain hgd fun K hK => ?_
  unfold Oper.wp execOp
  simp only [ho, Array.map_empty, Sem.run_bind, Sem.run_pure, run_goat0, Result.andThen_ok]
  exact hK _ _ h
/-- A goat and a code. -/
def goatR (h : Nat → Int) (c : Int) : Value := .tuple #[.agg (arr 7 (gt h)), .int .i64 c]
theorem goatR_eq (h : Nat → Int) (c : Int) : goatR h c = .tuple #[.agg (arr 7 (gt h)), .int .i64 c] := rfl
def freeR (x y e l : Int) : Value := if dietB e l then goatR (freeG x y e l) 0 else goatR gz 2
theorem freeR_no {x y e l : Int} (h : dietB e l = false) : freeR x y e l = goatR gz 2 := by simp [freeR, h]
theorem freeR_ok {x y e l : Int} (h : dietB e l = true) : freeR x y e l = goatR (freeG x y e l) 0 := by simp [freeR, h]
theorem freeR_is (x y e l : Int) : ∃ h c, freeR x y e l = .tuple #[.agg (arr 7 (gt h)), .int .i64 c] := by unfold freeR; split <;> exact ⟨_, _, rfl⟩
theorem lay_gt (f : Nat → Value) (h : Nat → Int) : ∀ k, k < 7 → lay f 0 7 (gt h) k = gt h k := fun k hk => by simp [lay, hk]
theorem dietB_cases (e l : Int) : (inB 0 100 e = false ∧ dietB e l = false) ∨ (inB 0 100 e = true ∧ inB 0 1 l = false ∧ dietB e l = false) ∨ (inB 0 100 e = true ∧ inB 0 1 l = true ∧ dietB e l = true) := by
  cases h1 : inB 0 100 e <;> cases h2 : inB 0 1 l <;> simp [dietB, h1, h2]

set_option maxRecDepth 100000 in
set_option maxHeartbeats 1000000 in
theorem specFree_any (x y e l : Int) (w : World) :
    Calls Try.prog 6 #[.agg (arr 2 (sp x y)), .int .i64 e, .int .i64 l] w fun r w' => r = .returned (freeR x y e l) ∧ Below w.heap.size w w' := by
  have hM := Mem.nil w
  rcases dietB_cases e l with ⟨h1, h⟩ | ⟨h1, h2, h⟩ | ⟨h1, h2, h⟩
  · have H1 := Lib.hid h1
    rw [freeR_no h]
    clear h1 h
    have tk_b1 : True := trivial; have tk_b2 : True := trivial
    go_enter Try.func6, Try.ntmps6
    go_wp2_with (first | (have _t := tk_b1; refine wpList_box rfl _ _ rfl _ _ rfl hM ?_; intro b1 W' hb1 hM'; clear hM tk_b1; have hM := hM'; clear hM') | (have _t := tk_b2; refine wpList_zero rfl _ rfl (zeroTab _ _ _ rfl) hM ?_; intro b2 W' hb2 hM'; clear hM tk_b2; have hM := hM'; clear hM') | (refine wpList_lay rfl _ _ _ rfl _ _ rfl _ _ rfl hM 0 rfl (by assumption) (rowTab _ _ rfl) (by omega) ?_ ?_; (first | (intro _ _; rfl) | (intro k _; exact h1 _) | (intro k _; simp only [lay, upd]; (repeat' split) <;> first | exact h1 _ | rfl)); intro W' hM'; clear hM; have hM := hM'; clear hM'; simp only [List.set] at hM) | (refine wpList_goat0 rfl rfl ?_) | (go_at_call 18; (with_reducible refine (l00In_any e _ _ _).mono ?_); rintro e W' ⟨rfl, hb'⟩; rw [H1.out]; have hM' := hM.call hb'; clear hM hb'; have hM := hM'; clear hM'))
    exact bodyPost_ret (results_at2 rfl _ rfl ((hM.ats 0 _ _ _ rfl).congr (lay_gt _ _)) (rowTab _ _ rfl) _ rfl) rfl ⟨rfl, hM.below⟩
  · have H1 := Lib.hid h1
    have H2 := Lib.hid h2
    rw [freeR_no h]
    clear h1 h2 h
    have tk_b1 : True := trivial; have tk_b2 : True := trivial
    go_enter Try.func6, Try.ntmps6
    go_wp2_with (first | (have _t := tk_b1; refine wpList_box rfl _ _ rfl _ _ rfl hM ?_; intro b1 W' hb1 hM'; clear hM tk_b1; have hM := hM'; clear hM') | (have _t := tk_b2; refine wpList_zero rfl _ rfl (zeroTab _ _ _ rfl) hM ?_; intro b2 W' hb2 hM'; clear hM tk_b2; have hM := hM'; clear hM') | (refine wpList_lay rfl _ _ _ rfl _ _ rfl _ _ rfl hM 0 rfl (by assumption) (rowTab _ _ rfl) (by omega) ?_ ?_; (first | (intro _ _; rfl) | (intro k _; exact h1 _) | (intro k _; simp only [lay, upd]; (repeat' split) <;> first | exact h1 _ | rfl)); intro W' hM'; clear hM; have hM := hM'; clear hM'; simp only [List.set] at hM) | (refine wpList_goat0 rfl rfl ?_) | (go_at_call 18; (with_reducible refine (l00In_any e _ _ _).mono ?_); rintro e W' ⟨rfl, hb'⟩; rw [H1.out]; have hM' := hM.call hb'; clear hM hb'; have hM := hM'; clear hM') | (go_at_call 18; (with_reducible refine (l00In_any l _ _ _).mono ?_); rintro e W' ⟨rfl, hb'⟩; rw [H2.out]; have hM' := hM.call hb'; clear hM hb'; have hM := hM'; clear hM'))
    exact bodyPost_ret (results_at2 rfl _ rfl ((hM.ats 0 _ _ _ rfl).congr (lay_gt _ _)) (rowTab _ _ rfl) _ rfl) rfl ⟨rfl, hM.below⟩
  · have H1 := Lib.hid h1
    have H2 := Lib.hid h2
    have b1' := inB_true h1
    have b2' := inB_true h2
    have c1 : IntKind.i16.wrap e = e := IntWalk.i16_in _ (by omega)
    have c2 : IntKind.i8.wrap l = l := IntWalk.i8_in _ (by omega)
    rw [freeR_ok h]
    clear h1 h2 h
    have tk_b1 : True := trivial; have tk_b2 : True := trivial
    go_enter Try.func6, Try.ntmps6
    go_wp2_with (first | (have _t := tk_b1; refine wpList_box rfl _ _ rfl _ _ rfl hM ?_; intro b1 W' hb1 hM'; clear hM tk_b1; have hM := hM'; clear hM') | (have _t := tk_b2; refine wpList_zero rfl _ rfl (zeroTab _ _ _ rfl) hM ?_; intro b2 W' hb2 hM'; clear hM tk_b2; have hM := hM'; clear hM') | (refine wpList_lay rfl _ _ _ rfl _ _ rfl _ _ rfl hM 0 rfl (by assumption) (rowTab _ _ rfl) (by omega) ?_ ?_; (first | (intro _ _; rfl) | (intro k _; exact h1 _) | (intro k _; simp only [lay, upd]; (repeat' split) <;> first | exact h1 _ | rfl)); intro W' hM'; clear hM; have hM := hM'; clear hM'; simp only [List.set] at hM) | (refine wpList_get rfl _ _ rfl _ _ rfl hM 1 rfl (rowTab _ _ rfl) (by omega) ?_) | (refine wpList_free rfl _ _ _ rfl x y e l rfl rfl rfl ?_) | (go_at_call 18; (with_reducible refine (l00In_any e _ _ _).mono ?_); rintro e W' ⟨rfl, hb'⟩; rw [H1.out]; have hM' := hM.call hb'; clear hM hb'; have hM := hM'; clear hM') | (go_at_call 18; (with_reducible refine (l00In_any l _ _ _).mono ?_); rintro e W' ⟨rfl, hb'⟩; rw [H2.out]; have hM' := hM.call hb'; clear hM hb'; have hM := hM'; clear hM'))
    exact bodyPost_ret (results_at2 rfl _ rfl ((hM.ats 0 _ _ _ rfl).congr (lay_gt _ _)) (rowTab _ _ rfl) _ rfl) rfl ⟨rfl, hM.below⟩

set_option maxHeartbeats 400000 in
theorem isDiet_any (e l : Int) (w : World) :
    Calls Try.prog 19 #[.int .i64 e, .int .i64 l] w fun r w' => r = .returned (.bool (dietB e l)) ∧ Below w.heap.size w w' := by
  rcases (show e < 0 ∨ (0 ≤ e ∧ 100 < e) ∨ (0 ≤ e ∧ e ≤ 100) by omega) with r0 | ⟨r0, r1⟩ | ⟨r0, r1⟩
  · have hf : Hid (dietB e l = false) := Lib.hid (by simp [dietB, inB_no (show ¬ (0 ≤ e ∧ e ≤ 100) by omega)])
    have d0 : decide (0 ≤ e) = false := decide_eq_false (by omega)
    clear r0
    go_enter Try.func19, Try.ntmps19
    go_wp2
    go_ret
    exact ⟨ret_bool hf.out.symm, Below.refl _ _⟩
  · have hf : Hid (dietB e l = false) := Lib.hid (by simp [dietB, inB_no (show ¬ (0 ≤ e ∧ e ≤ 100) by omega)])
    have d0 : decide (0 ≤ e) = true := decide_eq_true (by omega)
    have d1 : decide (e ≤ 100) = false := decide_eq_false (by omega)
    clear r0 r1
    go_enter Try.func19, Try.ntmps19
    go_wp2
    go_ret
    exact ⟨ret_bool hf.out.symm, Below.refl _ _⟩
  have d0 : decide (0 ≤ e) = true := decide_eq_true (by omega)
  have d1 : decide (e ≤ 100) = true := decide_eq_true (by omega)
  have q0 := inB_yes (show 0 ≤ e ∧ e ≤ 100 by omega)
  clear r0 r1
  rcases (show l < 0 ∨ (0 ≤ l ∧ 1 < l) ∨ (0 ≤ l ∧ l ≤ 1) by omega) with r0 | ⟨r0, r1⟩ | ⟨r0, r1⟩
  · have hf : Hid (dietB e l = false) := Lib.hid (by simp [dietB, inB_no (show ¬ (0 ≤ l ∧ l ≤ 1) by omega)])
    have d2 : decide (0 ≤ l) = false := decide_eq_false (by omega)
    clear r0 q0
    go_enter Try.func19, Try.ntmps19
    go_wp2
    go_ret
    exact ⟨ret_bool hf.out.symm, Below.refl _ _⟩
  · have hf : Hid (dietB e l = false) := Lib.hid (by simp [dietB, inB_no (show ¬ (0 ≤ l ∧ l ≤ 1) by omega)])
    have d2 : decide (0 ≤ l) = true := decide_eq_true (by omega)
    have d3 : decide (l ≤ 1) = false := decide_eq_false (by omega)
    clear r0 r1 q0
    go_enter Try.func19, Try.ntmps19
    go_wp2
    go_ret
    exact ⟨ret_bool hf.out.symm, Below.refl _ _⟩
  · have hf : Hid (dietB e l = true) := Lib.hid (by simp [dietB, q0, inB_yes (show 0 ≤ l ∧ l ≤ 1 by omega)])
    have d2 : decide (0 ≤ l) = true := decide_eq_true (by omega)
    have d3 : decide (l ≤ 1) = true := decide_eq_true (by omega)
    clear r0 r1 q0
    go_enter Try.func19, Try.ntmps19
    go_wp2
    go_ret
    exact ⟨ret_bool hf.out.symm, Below.refl _ _⟩

set_option maxRecDepth 100000 in
set_option maxHeartbeats 1000000 in
theorem implFree_any (x y e l : Int) (w : World) :
    Calls Try.prog 8 #[.agg (arr 2 (sp x y)), .int .i64 e, .int .i64 l] w fun r w' => r = .returned (freeR x y e l) ∧ Below w.heap.size w w' := by
  have hM := Mem.nil w
  cases hd : dietB e l
  · have H1 := Lib.hid hd
    rw [freeR_no hd]
    clear hd
    have tk_b1 : True := trivial; have tk_b2 : True := trivial
    go_enter Try.func8, Try.ntmps8
    go_wp2_with (first | (have _t := tk_b1; refine wpList_box rfl _ _ rfl _ _ rfl hM ?_; intro b1 W' hb1 hM'; clear hM tk_b1; have hM := hM'; clear hM') | (have _t := tk_b2; refine wpList_zero rfl _ rfl (zeroTab _ _ _ rfl) hM ?_; intro b2 W' hb2 hM'; clear hM tk_b2; have hM := hM'; clear hM') | (refine wpList_lay rfl _ _ _ rfl _ _ rfl _ _ rfl hM 0 rfl (by assumption) (rowTab _ _ rfl) (by omega) ?_ ?_; (first | (intro _ _; rfl) | (intro k _; exact h1 _) | (intro k _; simp only [lay, upd]; (repeat' split) <;> first | exact h1 _ | rfl)); intro W' hM'; clear hM; have hM := hM'; clear hM'; simp only [List.set] at hM) | (refine wpList_goat0 rfl rfl ?_) | (go_at_call 19; (with_reducible refine (isDiet_any e l _).mono ?_); rintro e W' ⟨rfl, hb'⟩; rw [H1.out]; have hM' := hM.call hb'; clear hM hb'; have hM := hM'; clear hM'))
    exact bodyPost_ret (results_at2 rfl _ rfl ((hM.ats 0 _ _ _ rfl).congr (lay_gt _ _)) (rowTab _ _ rfl) _ rfl) rfl ⟨rfl, hM.below⟩
  · have H1 := Lib.hid hd
    rcases dietB_cases e l with ⟨h1, h⟩ | ⟨h1, h2, h⟩ | ⟨h1, h2, h⟩
    · rw [h] at hd; cases hd
    · rw [h] at hd; cases hd
    have b1' := inB_true h1
    have b2' := inB_true h2
    have c1 : IntKind.i16.wrap e = e := IntWalk.i16_in _ (by omega)
    have c2 : IntKind.i8.wrap l = l := IntWalk.i8_in _ (by omega)
    rw [freeR_ok hd]
    clear h1 h2 h hd
    have tk_b1 : True := trivial; have tk_b2 : True := trivial
    go_enter Try.func8, Try.ntmps8
    go_wp2_with (first | (have _t := tk_b1; refine wpList_box rfl _ _ rfl _ _ rfl hM ?_; intro b1 W' hb1 hM'; clear hM tk_b1; have hM := hM'; clear hM') | (have _t := tk_b2; refine wpList_zero rfl _ rfl (zeroTab _ _ _ rfl) hM ?_; intro b2 W' hb2 hM'; clear hM tk_b2; have hM := hM'; clear hM') | (refine wpList_lay rfl _ _ _ rfl _ _ rfl _ _ rfl hM 0 rfl (by assumption) (rowTab _ _ rfl) (by omega) ?_ ?_; (first | (intro _ _; rfl) | (intro k _; exact h1 _) | (intro k _; simp only [lay, upd]; (repeat' split) <;> first | exact h1 _ | rfl)); intro W' hM'; clear hM; have hM := hM'; clear hM'; simp only [List.set] at hM) | (refine wpList_get rfl _ _ rfl _ _ rfl hM 1 rfl (rowTab _ _ rfl) (by omega) ?_) | (refine wpList_free rfl _ _ _ rfl x y e l rfl rfl rfl ?_) | (go_at_call 19; (with_reducible refine (isDiet_any e l _).mono ?_); rintro e W' ⟨rfl, hb'⟩; rw [H1.out]; have hM' := hM.call hb'; clear hM hb'; have hM := hM'; clear hM'))
    exact bodyPost_ret (results_at2 rfl _ rfl ((hM.ats 0 _ _ _ rfl).congr (lay_gt _ _)) (rowTab _ _ rfl) _ rfl) rfl ⟨rfl, hM.below⟩

set_option maxHeartbeats 400000 in
theorem toSpot_any (f : Nat → Value) (h1 : ∀ k, (f k).oneCell' = true) (w : World) :
    Calls Try.prog 7 #[.agg (arr 2 f)] w fun e w' => e = .returned (.agg (arr 2 f)) ∧ Below w.heap.size w w' := by
  have hM := Mem.nil w
  have tk_b1 : True := trivial; have tk_b2 : True := trivial; have tk_b3 : True := trivial
  go_enter Try.func7, Try.ntmps7
  go_wp2_with (first | (have _t := tk_b1; refine wpList_box rfl _ _ rfl _ _ rfl hM ?_; intro b1 W' hb1 hM'; clear hM tk_b1; have hM := hM'; clear hM') | (have _t := tk_b2; refine wpList_zero rfl _ rfl (zeroTab _ _ _ rfl) hM ?_; intro b2 W' hb2 hM'; clear hM tk_b2; have hM := hM'; clear hM') | (have _t := tk_b3; refine wpList_zero rfl _ rfl (zeroTab _ _ _ rfl) hM ?_; intro b3 W' hb3 hM'; clear hM tk_b3; have hM := hM'; clear hM') | (refine wpList_get1 rfl _ _ rfl _ _ rfl hM 2 rfl (cellTab _ rfl) (by omega) _ rfl ?_) | (refine wpList_set1 rfl _ _ _ rfl _ _ rfl _ rfl ?_ hM 0 rfl (by assumption) (cellTab _ rfl) (by omega) ?_; (first | rfl | exact h1 _); intro W' hM'; clear hM; have hM := hM'; clear hM'; simp [List.set, Act.eval] at hM) | (refine wpList_get rfl _ _ rfl _ _ rfl hM 0 rfl (rowTab _ _ rfl) (by omega) ?_) | (refine wpList_lay rfl _ _ _ rfl _ _ rfl _ _ rfl hM 1 rfl (by assumption) (rowTab _ _ rfl) (by omega) ?_ ?_; (first | (intro _ _; rfl) | (intro k _; exact h1 _) | (intro k _; simp only [lay, upd]; (repeat' split) <;> first | exact h1 _ | rfl)); intro W' hM'; clear hM; have hM := hM'; clear hM'; simp only [List.set] at hM))
  have hA := (hM.ats 1 _ _ _ rfl).congr (g := f) (fun k hk => by
    rcases (show k = 0 ∨ k = 1 by omega) with rfl | rfl <;> rfl)
  exact bodyPost_ret (results_at rfl _ rfl hA (rowTab _ _ rfl)) rfl ⟨rfl, hM.below⟩

/-- Two goats laid into cells compare as equal. -/
theorem eqG_lay (z z' : Nat → Value) (h : Nat → Int) (w : World) :
    Calls Try.prog 9 #[.agg (arr 7 (fun k => lay z 0 7 (gt h) (0 + k))), .agg (arr 7 (fun k => lay z' 0 7 (gt h) (0 + k)))] w fun e w' => e = .returned (.bool true) ∧ Below w.heap.size w w' := by
  rw [arr_congr (g := gt h) (fun k hk => by rw [Nat.zero_add]; exact lay_gt _ _ k hk), arr_congr (f := fun k => lay z' 0 7 (gt h) (0 + k)) (g := gt h) (fun k hk => by rw [Nat.zero_add]; exact lay_gt _ _ k hk)]
  exact eqGoat_same h w

set_option maxRecDepth 100000 in
set_option maxHeartbeats 1000000 in
theorem lawFreeGoat_any (x y : Int) (_ : -128 ≤ x ∧ x ≤ 127) (_ : -128 ≤ y ∧ y ≤ 127) (e l : Int) (w : World) :
    Calls Try.prog 3 #[.agg (arr 2 (sp x y)), .int .i64 e, .int .i64 l] w fun r w' => r = .returned (.bool true) ∧ Below w.heap.size w w' := by
  have hM := Mem.nil w
  obtain ⟨h, c, he⟩ := freeR_is x y e l
  have He := Lib.hid he
  clear he
  have tk_b1 : True := trivial; have tk_b2 : True := trivial; have tk_b3 : True := trivial
  go_enter Try.func3, Try.ntmps3
  go_wp2_with (first | (have _t := tk_b1; refine wpList_box rfl _ _ rfl _ _ rfl hM ?_; intro b1 W' hb1 hM'; clear hM tk_b1; have hM := hM'; clear hM') | (have _t := tk_b2; refine wpList_zero rfl _ rfl (zeroTab _ _ _ rfl) hM ?_; intro b2 W' hb2 hM'; clear hM tk_b2; have hM := hM'; clear hM') | (have _t := tk_b3; refine wpList_zero rfl _ rfl (zeroTab _ _ _ rfl) hM ?_; intro b3 W' hb3 hM'; clear hM tk_b3; have hM := hM'; clear hM') | (refine wpList_lay rfl _ _ _ rfl _ _ rfl _ _ rfl hM 0 rfl (by assumption) (rowTab _ _ rfl) (by omega) ?_ ?_; (first | (intro _ _; rfl) | (intro k _; exact h1 _) | (intro k _; simp only [lay, upd]; (repeat' split) <;> first | exact h1 _ | rfl)); intro W' hM'; clear hM; have hM := hM'; clear hM'; simp only [List.set] at hM) | (refine wpList_get rfl _ _ rfl _ _ rfl hM 0 rfl (rowTab _ _ rfl) (by omega) ?_) | (refine wpList_get rfl _ _ rfl _ _ rfl hM 1 rfl (rowTab _ _ rfl) (by omega) ?_) | (go_at_call 7; refine (toSpot_any _ (fun _ => rfl) _).mono ?_; rintro e W' ⟨rfl, hb'⟩; have hM' := hM.call hb'; clear hM hb'; have hM := hM'; clear hM') | (go_at_call 6; refine (specFree_any x y e l _).mono ?_; rintro e W' ⟨rfl, hb'⟩; rw [He.out]; have hM' := hM.call hb'; clear hM hb'; have hM := hM'; clear hM') | (go_at_call 8; refine (implFree_any x y e l _).mono ?_; rintro e W' ⟨rfl, hb'⟩; rw [He.out]; have hM' := hM.call hb'; clear hM hb'; have hM := hM'; clear hM') | (go_at_call 9; refine (eqG_lay _ _ _ _).mono ?_; rintro e W' ⟨rfl, hb'⟩; have hM' := hM.call hb'; clear hM hb'; have hM := hM'; clear hM'))
  go_ret
  exact ⟨rfl, hM.below⟩
end Go.Proofs.Ytfdemocmokgbgaa
