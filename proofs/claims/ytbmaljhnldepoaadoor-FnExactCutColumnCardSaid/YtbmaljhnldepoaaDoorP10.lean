/-
  Several texts in one: CutImpl, CutImplO, CutColumn.
-/
import Derived.Test.YtbmaljhnldepoaaDoorP9
import Derived.Test.YtbmaljhnldepoaaDoorP5
import Derived.Test.YtbmaljhnldepoaaDoorP8
/-
  impl.CutColumn by contract.
-/
namespace Go.Proofs.YtbmaljhnldepoaaDoor
open Go Go.RowKit Go.BigFrame

theorem i64s_under : Tryd.prog.underlying 142 = some (.slice 2) := Tryd.underlying142
theorem i64s_info : (Tryd.prog.info? 2).map (fun i => (i.size, i.zero, i.bytes)) = some (1, some (.int .i64 0), 8) := by kernel_rfl
theorem i64s_info2 : (Tryd.prog.info? 2).map (fun i => (i.size, i.zero)) = some (1, some (.int .i64 0)) := by kernel_rfl
/-- The numbers themselves, as cells. -/
def numV : Nat → Value := fun j => .int .i64 (j : Int)

theorem cut_cases (g : Nat → Int) (a b : Int) : (okB g = false ∧ cutC g a b = 1) ∨ (okB g = true ∧ (inB 0 1000000 a && inB 0 1000000 b) = false ∧ cutC g a b = 2) ∨ (okB g = true ∧ inB 0 1000000 a = true ∧ inB 0 1000000 b = true ∧ a = 0 ∧ b = 0 ∧ cutC g a b = 4) ∨ (okB g = true ∧ inB 0 1000000 a = true ∧ inB 0 1000000 b = true ∧ ¬ (a = 0 ∧ b = 0) ∧ cutC g a b = 0) := by
  unfold cutC
  cases okB g <;> cases inB 0 1000000 a <;> cases inB 0 1000000 b <;> simp
  by_cases h : a = 0 ∧ b = 0
  · simp [h]
  · simp [h]; simpa using h
theorem cutN_no {g : Nat → Int} {a b : Int} (h : cutC g a b ≠ 0) : cutN g a b = 0 := by unfold cutN; rw [if_neg h]

set_option maxRecDepth 100000 in
set_option maxHeartbeats 4000000 in
theorem implCutColumn_bad {a : Nat → Addr} (g : Nat → Int) (hg : Fits g) (r s : Int) (w : World) (hE : Errs a w) (hc : cutC g r s = 1 ∨ cutC g r s = 2 ∨ cutC g r s = 4) :
    Calls Tryd.prog 50 #[.agg (arr 122 (pas g)), .int .i64 r, .int .i64 s] w fun e w' => e = .returned (numR (cutN g r s) (cutC g r s)) ∧ Below w.heap.size w w' := by
  have hM := Mem.nil w
  have HE := Lib.hid hE
  rw [cutN_no (by omega)]
  clear hE
  rcases cut_cases g r s with ⟨h1, h2⟩ | ⟨h1, h2, h3⟩ | ⟨h1, h2, h3, rfl, rfl, h6⟩ | ⟨-, -, -, -, h⟩
  · rw [h2]
    have Ho : Hid (validB g = false) := Lib.hid (by rw [← okB_eq]; exact h1)
    clear h1 h2 hc
    have tk_b1 : True := trivial; have tk_b2 : True := trivial; have tk_b3 : True := trivial
    go_enter Tryd.func50, Tryd.ntmps50
    go_wp2_with (first | (have _t := tk_b1; refine wpList_box rfl _ _ rfl _ _ rfl hM ?_; intro b1 W' hb1 hM'; clear hM tk_b1; have hM := hM'; clear hM') | (have _t := tk_b2; refine wpList_box1 rfl _ _ rfl _ rfl rfl hM ?_; intro b2 W' hb2 hM'; clear hM tk_b2; have hM := hM'; clear hM') | (have _t := tk_b3; refine wpList_box1 rfl _ _ rfl _ rfl rfl hM ?_; intro b3 W' hb3 hM'; clear hM tk_b3; have hM := hM'; clear hM') | (refine wpList_get rfl _ _ rfl _ _ rfl hM 2 rfl (rowTab _ _ rfl) (by omega) ?_) | (go_at_call 55; (with_reducible refine (checkCells_bad g hg _ _ (HE.out.below hM.below) Ho.out).mono ?_); rintro e W' ⟨rfl, hb'⟩; have hM' := hM.call hb'; clear hM hb'; have hM := hM'; clear hM') | (go_at_call 56; (with_reducible refine (codeOf_0 (HE.out.below hM.below)).mono ?_); rintro e W' ⟨rfl, rfl⟩))
    go_ret2
    exact ⟨ret_num rfl rfl, hM.below⟩
  · rw [h3]
    have Ho : Hid (validB g = true) := Lib.hid (by rw [← okB_eq]; exact h1)
    have Hc := Lib.hid (cnt2_yes (p := !inB 0 1000000 r) (q := !inB 0 1000000 s) (by revert h2; cases inB 0 1000000 r <;> cases inB 0 1000000 s <;> decide))
    have Hl := Lib.hid (Nat.le_trans (cntE_le (es2 (!inB 0 1000000 r) (!inB 0 1000000 s)) 2) (show 2 ≤ 1000 by omega))
    clear h1 h2 h3 hc
    have tk_b1 : True := trivial; have tk_b2 : True := trivial; have tk_b3 : True := trivial
    go_enter Tryd.func50, Tryd.ntmps50
    go_wp2_with (first | (have _t := tk_b1; refine wpList_box rfl _ _ rfl _ _ rfl hM ?_; intro b1 W' hb1 hM'; clear hM tk_b1; have hM := hM'; clear hM') | (have _t := tk_b2; refine wpList_box1 rfl _ _ rfl _ rfl rfl hM ?_; intro b2 W' hb2 hM'; clear hM tk_b2; have hM := hM'; clear hM') | (have _t := tk_b3; refine wpList_box1 rfl _ _ rfl _ rfl rfl hM ?_; intro b3 W' hb3 hM'; clear hM tk_b3; have hM := hM'; clear hM') | (refine wpList_get rfl _ _ rfl _ _ rfl hM 2 rfl (rowTab _ _ rfl) (by omega) ?_) | (go_at_call 55; (with_reducible refine (checkCells_nil g hg _ Ho.out).mono ?_); rintro e W' ⟨rfl, hb'⟩; have hM' := hM.call hb'; clear hM hb'; have hM := hM'; clear hM'))
    ((try simp only [Act.put, List.setIfInBounds_toArray, List.set_cons_succ, List.set_cons_zero]); refine region_head_mem (m := 4) (by kernel_rfl) (by kernel_rfl) hM ?_; clear hM; simp only [List.take_succ_cons, List.take_zero, List.drop_succ_cons, List.drop_zero]; (repeat (first | go_big_quiet_skip | (go_big_quiet_want; first | (refine quiet_get1 _ _ rfl _ _ rfl 1 rfl (cellTab _ rfl) (by omega) (.int .i64 r) rfl ?_; (simp only [Act.put, List.setIfInBounds_toArray, List.set_cons_succ, List.set_cons_zero]); go_big_quiet_on) | (refine quiet_get1 _ _ rfl _ _ rfl 0 rfl (cellTab _ rfl) (by omega) (.int .i64 s) rfl ?_; (simp only [Act.put, List.setIfInBounds_toArray, List.set_cons_succ, List.set_cons_zero]); go_big_quiet_on) | (refine quiet_call ?_; apply Exists.intro; apply Exists.intro; apply Exists.intro; refine ⟨fun W => ?_, fun W hM => ?_, ?_⟩; (go_simp; exact ⟨rfl, rfl⟩); (with_reducible exact checkUpTo_any r 1000000 W (HE.out.below hM.below)); (simp only [Act.put, List.setIfInBounds_toArray, List.set_cons_succ, List.set_cons_zero]); go_big_quiet_on) | (refine quiet_call ?_; apply Exists.intro; apply Exists.intro; apply Exists.intro; refine ⟨fun W => ?_, fun W hM => ?_, ?_⟩; (go_simp; exact ⟨rfl, rfl⟩); (with_reducible exact checkUpTo_any s 1000000 W (HE.out.below hM.below)); (simp only [Act.put, List.setIfInBounds_toArray, List.set_cons_succ, List.set_cons_zero]); go_big_quiet_on)))); (with_reducible refine wpQuiet_nil ?_); intro W' hM)
    go_wp2_with (first | (refine wpList_lit2 rfl _ _ _ _ rfl (errO (a 1) (!inB 0 1000000 r)) (errO (a 1) (!inB 0 1000000 s)) rfl rfl (errO_one _ _) (errO_one _ _) _ errs_under err_info2 hM ?_; intro bn W' hbn hM'; clear hM; have hM := hM'; clear hM') | (go_at_call 98; refine (join_some (a 1) (es2 (!inB 0 1000000 r) (!inB 0 1000000 s)) _ 2 2 (by omega) Hc.out _ ((hM.ats 0 _ _ _ rfl).congr (lit2_errE _ _ _))).mono ?_; rintro e W' ⟨jb, rfl, hJ, hb'⟩; have hM' := hM.call hb'; clear hM hb'; have hM := hM'; clear hM') | (go_at_call 56; (refine (codeJ_1 jb _ Hc.out Hl.out (HE.out.below hM.below) hJ).mono ?_); rintro e W' ⟨rfl, rfl⟩))
    go_ret2
    exact ⟨ret_num rfl rfl, hM.below⟩
  · rw [h6]
    have Ho : Hid (validB g = true) := Lib.hid (by rw [← okB_eq]; exact h1)
    clear h1 h2 h3 h6 hc
    have z : errO (a 1) (!inB 0 1000000 0) = errO (a 1) false := rfl
    have cz := fun W hE => checkUpTo_any (a := a) 0 1000000 W hE
    rw [z] at cz
    have Cz := Lib.hid cz
    clear z cz
    have tk_b1 : True := trivial; have tk_b2 : True := trivial; have tk_b3 : True := trivial
    go_enter Tryd.func50, Tryd.ntmps50
    go_wp2_with (first | (have _t := tk_b1; refine wpList_box rfl _ _ rfl _ _ rfl hM ?_; intro b1 W' hb1 hM'; clear hM tk_b1; have hM := hM'; clear hM') | (have _t := tk_b2; refine wpList_box1 rfl _ _ rfl _ rfl rfl hM ?_; intro b2 W' hb2 hM'; clear hM tk_b2; have hM := hM'; clear hM') | (have _t := tk_b3; refine wpList_box1 rfl _ _ rfl _ rfl rfl hM ?_; intro b3 W' hb3 hM'; clear hM tk_b3; have hM := hM'; clear hM') | (refine wpList_get rfl _ _ rfl _ _ rfl hM 2 rfl (rowTab _ _ rfl) (by omega) ?_) | (go_at_call 55; (with_reducible refine (checkCells_nil g hg _ Ho.out).mono ?_); rintro e W' ⟨rfl, hb'⟩; have hM' := hM.call hb'; clear hM hb'; have hM := hM'; clear hM'))
    ((try simp only [Act.put, List.setIfInBounds_toArray, List.set_cons_succ, List.set_cons_zero]); refine region_head_mem (m := 4) (by kernel_rfl) (by kernel_rfl) hM ?_; clear hM; simp only [List.take_succ_cons, List.take_zero, List.drop_succ_cons, List.drop_zero]; (repeat (first | go_big_quiet_skip | (go_big_quiet_want; first | (refine quiet_get1 _ _ rfl _ _ rfl 1 rfl (cellTab _ rfl) (by omega) (.int .i64 0) rfl ?_; (simp only [Act.put, List.setIfInBounds_toArray, List.set_cons_succ, List.set_cons_zero]); go_big_quiet_on) | (refine quiet_get1 _ _ rfl _ _ rfl 0 rfl (cellTab _ rfl) (by omega) (.int .i64 0) rfl ?_; (simp only [Act.put, List.setIfInBounds_toArray, List.set_cons_succ, List.set_cons_zero]); go_big_quiet_on) | (refine quiet_call ?_; apply Exists.intro; apply Exists.intro; apply Exists.intro; refine ⟨fun W => ?_, fun W hM => ?_, ?_⟩; (go_simp; exact ⟨rfl, rfl⟩); (with_reducible exact Cz.out W (HE.out.below hM.below)); (simp only [Act.put, List.setIfInBounds_toArray, List.set_cons_succ, List.set_cons_zero]); go_big_quiet_on)))); (with_reducible refine wpQuiet_nil ?_); intro W' hM)
    go_wp2_with (first | (refine wpList_get1 rfl _ _ rfl _ _ rfl hM 1 rfl (cellTab _ rfl) (by omega) (.int .i64 0) rfl ?_) | (refine wpList_gget1 ?_ _ _ rfl _ _ rfl hM 0 rfl (cellTab _ rfl) (by omega) (.int .i64 0) rfl ?_; kernel_rfl) | (refine wpList_lit2 rfl _ _ _ _ rfl (errO (a 1) false) (errO (a 1) false) rfl rfl (errO_one _ _) (errO_one _ _) _ errs_under err_info2 hM ?_; intro bn W' hbn hM'; clear hM; have hM := hM'; clear hM') | (go_at_call 98; refine (join_none (a 1) (es2 false false) _ 2 2 (by omega) cnt2_no _ ((hM.ats 0 _ _ _ rfl).congr (lit2_errE _ _ _))).mono ?_; rintro e W' ⟨rfl, hb'⟩; have hM' := hM.call hb'; clear hM hb'; have hM := hM'.drop; clear hM'))
    go_ret2
    exact ⟨ret_num rfl rfl, hM.below⟩
  · omega
end Go.Proofs.YtbmaljhnldepoaaDoor

/-
  impl.CutColumn by contract, where it answers a column.
-/
namespace Go.Proofs.YtbmaljhnldepoaaDoor
open Go Go.RowKit Go.BigFrame

set_option maxRecDepth 100000 in
set_option maxHeartbeats 4000000 in
theorem implCutColumn_ok {a : Nat → Addr} (g : Nat → Int) (hg : Fits g) (r s : Int) (w : World) (hE : Errs a w) (ho : okB g = true) (hr : inB 0 1000000 r = true) (hs : inB 0 1000000 s = true) (hz : ¬ (r = 0 ∧ s = 0)) (hc : cutC g r s = 0) :
    Calls Tryd.prog 50 #[.agg (arr 122 (pas g)), .int .i64 r, .int .i64 s] w fun e w' => e = .returned (numR (cutN g r s) (cutC g r s)) ∧ Below w.heap.size w w' := by
  have hM := Mem.nil w
  have HE := Lib.hid hE
  have hn : cutN g r s = ((amin (cutF g r s) ((g 0).toNat + 1) : Nat) : Int) := by unfold cutN; rw [hc]; rfl
  rw [hc, hn]
  have ho' := ho
  unfold okB at ho'
  rw [Bool.and_eq_true, Bool.and_eq_true] at ho'
  have i0 := inB_true ho'.1.1
  have br := inB_true hr
  have bs := inB_true hs
  obtain ⟨W, hW⟩ : ∃ W, (g 0).toNat = W := ⟨_, rfl⟩
  have hg0 : g 0 = (W : Int) := by omega
  have hW10 : 1 ≤ W ∧ W ≤ 10 := by omega
  have HC := fun c hc b1 b2 b3 X hM => cutCol1_any g hg ho c (by rw [hW]; exact hc) r s br bs b1 b2 b3 X hM
  rw [hW]
  generalize cutF g r s = f at HC ⊢
  have HC' := Lib.hid HC
  have Ho : Hid (validB g = true) := Lib.hid (by rw [← okB_eq]; exact ho)
  have cr := fun W hE => checkUpTo_any (a := a) r 1000000 W hE
  have cs := fun W hE => checkUpTo_any (a := a) s 1000000 W hE
  rw [hr, show errO (a 1) (!true) = errO (a 1) false from rfl] at cr
  rw [hs, show errO (a 1) (!true) = errO (a 1) false from rfl] at cs
  have Cr := Lib.hid cr
  have Cs := Lib.hid cs
  have e0 : pas g 0 = .int .i8 (W : Int) := by rw [← hg0]; rfl
  have cw : IntKind.i64.wrap (W : Int) = (W : Int) := IntWalk.i64_in _ (by omega)
  have cw1 : IntKind.i64.wrap ((W : Int) + 1) = ((W + 1 : Nat) : Int) := by rw [IntWalk.i64_in _ (by omega)]; omega
  clear hE hn ho ho' i0 hr hs HC cr cs hc hW hg0 br bs
  have key : ∀ X : Prop, (r = 0 → s ≠ 0 → X) → (r ≠ 0 → X) → X := fun X h1 h2 => by
    by_cases h : r = 0
    · exact h1 h (fun h' => hz ⟨h, h'⟩)
    · exact h2 h
  clear hz
  refine key _ ?_ ?_
  case refine_1 =>
    intro z1 z2
    have za : (r == 0) = true := by simpa using z1
    have zda : decide (r = 0) = true := decide_eq_true z1
    have zb : (s == 0) = false := by simpa using z2
    have zdb : decide (s = 0) = false := decide_eq_false z2
    clear key z1 z2
    have tk_b1 : True := trivial; have tk_b2 : True := trivial; have tk_b3 : True := trivial
    go_enter Tryd.func50, Tryd.ntmps50
    go_wp2_with (first | (have _t := tk_b1; refine wpList_box rfl _ _ rfl _ _ rfl hM ?_; intro b1 W' hb1 hM'; clear hM tk_b1; have hM := hM'; clear hM') | (have _t := tk_b2; refine wpList_box1 rfl _ _ rfl _ rfl rfl hM ?_; intro b2 W' hb2 hM'; clear hM tk_b2; have hM := hM'; clear hM') | (have _t := tk_b3; refine wpList_box1 rfl _ _ rfl _ rfl rfl hM ?_; intro b3 W' hb3 hM'; clear hM tk_b3; have hM := hM'; clear hM') | (refine wpList_get rfl _ _ rfl _ _ rfl hM 2 rfl (rowTab _ _ rfl) (by omega) ?_) | (go_at_call 55; (with_reducible refine (checkCells_nil g hg _ Ho.out).mono ?_); rintro e W' ⟨rfl, hb'⟩; have hM' := hM.call hb'; clear hM hb'; have hM := hM'; clear hM'))
    ((try simp only [Act.put, List.setIfInBounds_toArray, List.set_cons_succ, List.set_cons_zero]); refine region_head_mem (m := 4) (by kernel_rfl) (by kernel_rfl) hM ?_; clear hM; simp only [List.take_succ_cons, List.take_zero, List.drop_succ_cons, List.drop_zero]; (repeat (first | go_big_quiet_skip | (go_big_quiet_want; first | (refine quiet_get1 _ _ rfl _ _ rfl 1 rfl (cellTab _ rfl) (by omega) (.int .i64 r) rfl ?_; (simp only [Act.put, List.setIfInBounds_toArray, List.set_cons_succ, List.set_cons_zero]); go_big_quiet_on) | (refine quiet_get1 _ _ rfl _ _ rfl 0 rfl (cellTab _ rfl) (by omega) (.int .i64 s) rfl ?_; (simp only [Act.put, List.setIfInBounds_toArray, List.set_cons_succ, List.set_cons_zero]); go_big_quiet_on) | (refine quiet_call ?_; apply Exists.intro; apply Exists.intro; apply Exists.intro; refine ⟨fun W => ?_, fun W hM => ?_, ?_⟩; (go_simp; exact ⟨rfl, rfl⟩); (with_reducible exact Cr.out W (HE.out.below hM.below)); (simp only [Act.put, List.setIfInBounds_toArray, List.set_cons_succ, List.set_cons_zero]); go_big_quiet_on) | (refine quiet_call ?_; apply Exists.intro; apply Exists.intro; apply Exists.intro; refine ⟨fun W => ?_, fun W hM => ?_, ?_⟩; (go_simp; exact ⟨rfl, rfl⟩); (with_reducible exact Cs.out W (HE.out.below hM.below)); (simp only [Act.put, List.setIfInBounds_toArray, List.set_cons_succ, List.set_cons_zero]); go_big_quiet_on)))); (with_reducible refine wpQuiet_nil ?_); intro W' hM)
    go_wp2_with (first | (refine wpList_get1 rfl _ _ rfl _ _ rfl hM 2 rfl (cellTab _ rfl) (by omega) (.int .i8 (W : Int)) e0 ?_) | (refine wpList_get1 rfl _ _ rfl _ _ rfl hM 1 rfl (cellTab _ rfl) (by omega) (.int .i64 r) rfl ?_) | (refine wpList_gget1 ?_ _ _ rfl _ _ rfl hM 0 rfl (cellTab _ rfl) (by omega) (.int .i64 s) rfl ?_; kernel_rfl) | (refine wpList_lit2 rfl _ _ _ _ rfl (errO (a 1) false) (errO (a 1) false) rfl rfl (errO_one _ _) (errO_one _ _) _ errs_under err_info2 hM ?_; intro bn W' hbn hM'; clear hM; have hM := hM'; clear hM') | (go_at_call 98; refine (join_none (a 1) (es2 false false) _ 2 2 (by omega) cnt2_no _ ((hM.ats 0 _ _ _ rfl).congr (lit2_errE _ _ _))).mono ?_; rintro e W' ⟨rfl, hb'⟩; have hM' := hM.call hb'; clear hM hb'; have hM := hM'.drop; clear hM'))
    go_loopw [10, 40] (fun v i wr => ∃ k : Nat, k ≤ W + 1 ∧ i = .int .i64 k ∧ Lst w [(b3, 1, fun _ => .int .i64 s), (b2, 1, fun _ => .int .i64 r), (b1, 122, pas g)] 1 v k numV wr) (fun _ i _ => W + 1 - (intOf i).toNat)
    case atStart => exact ⟨0, by omega, rfl, .inl ⟨rfl, rfl, hM⟩⟩
    case round =>
      clear hM
      obtain ⟨k, hk, rfl, hL⟩ := hrel
      by_cases hlt : k < W + 1
      · have lk : (k : Int) < (W : Int) + 1 := by omega
        rcases hL with ⟨rfl, hk0, hM⟩ | ⟨b, c, F1, rfl, hb, hkc, hF1, hM⟩
        · subst hk0
          have ln : (0 : Int) < (W : Int) + 1 := by omega
          have Hq : Hid (∀ j, j < 1 → (fun _ : Nat => Value.int .i64 0) j = numV j) := Lib.hid (fun j hj => by rw [show j = 0 by omega]; rfl)
          have tk_r3 : True := trivial; have tk_p1 : True := trivial
          go_wp2_with (first | (have _t := tk_r3; refine wpList_lit1 rfl _ _ _ rfl (.int .i64 0) rfl rfl _ i64s_under i64s_info2 hM ?_; intro bn W' hbn hM'; clear hM tk_r3; have hM := hM'; clear hM') | (have _t := tk_p1; refine wpList_push0 rfl _ _ _ rfl _ 1 _ _ i64s_under i64s_info rfl (by omega) rfl _ _ rfl hM (numV) Hq.out ?_; intro bL cL FL W' hbL hcL hFL hM'; clear hM tk_p1; have hM := hM'; clear hM'))
          go_roundw
          case rel => exact ⟨1, by omega, by go_num, .inr ⟨bL, cL, FL, rfl, hbL, hcL, hFL, hM⟩⟩
          case measure => simp [intOf] <;> omega
        · have Hq : Hid (∀ j, j < 1 → (fun _ : Nat => Value.int .i64 (k : Int)) j = numV (k * 1 + j)) := Lib.hid (fun j hj => by rw [show k * 1 + j = k by omega]; rfl)
          have Hf := Lib.hid hF1
          clear hF1
          have tk_r3 : True := trivial; have tk_p1 : True := trivial
          go_wp2_with (first | (have _t := tk_r3; refine wpList_lit1 rfl _ _ _ rfl (.int .i64 (k : Int)) rfl rfl _ i64s_under i64s_info2 hM ?_; intro bn W' hbn hM'; clear hM tk_r3; have hM := hM'; clear hM') | (have _t := tk_p1; refine wpList_push1 rfl _ _ _ rfl _ 1 _ _ i64s_under i64s_info rfl (by omega) _ _ _ _ rfl hb hkc (by omega) _ _ rfl (fun _ _ => rfl) hM numV Hf.out Hq.out ?_; intro bL cL FL W' hbL hcL hFL hM'; clear hM tk_p1; have hM := hM'; clear hM'))
          go_roundw
          case rel => exact ⟨k + 1, by omega, by go_num, .inr ⟨bL, cL, FL, rfl, hbL, hcL, hFL, hM⟩⟩
          case measure => simp [intOf] <;> omega
      · obtain rfl : k = W + 1 := by omega
        have ln : ¬ ((W : Int) + 1 < (W : Int) + 1) := by omega
        rcases hL with ⟨-, hk0, -⟩ | ⟨b, c, F1, rfl, hb, hkc, hF1, hM⟩
        · omega
        have Hf := Lib.hid (fun k (hk : k < W + 1) => (hF1 k (by omega) : F1 k = .int .i64 (k : Int)))
        have Hcl := Lib.hid (fun W1 (hM1 : Mem (Base.of w) [(b, c * 1, F1), (b3, 1, fun _ => .int .i64 s), (b2, 1, fun _ => .int .i64 r), (b1, 122, pas g)] W1) X (hX : Below W1.heap.size W1 X) k (hk : k < W + 1) => HC'.out k (by omega) b1 b2 b3 X (((hM1.call hX).drop).base (Below.refl _ _)))
        clear hF1
        go_wp2_with (go_at_call 102; refine (fewest_any f (W + 1) (by omega) (lb := #[.pointer (some ⟨b1, 0, none⟩), .pointer (some ⟨b2, 0, none⟩), .pointer (some ⟨b3, 0, none⟩)]) (enters_of Tryd.func103 (by kernel_rfl) rfl) b (c * 1) c F1 (by omega) hkc Hf.out _ hM.at0 (fun X hX k hk => Hcl.out _ hM X hX k hk)).mono ?_; rintro e W' ⟨rfl, hb'⟩; have hM' := hM.call hb'; clear hM hb'; have hM := hM'; clear hM')
        go_ret2
        exact ⟨ret_num rfl rfl, hM.below⟩
  case refine_2 =>
    intro z1
    have za : (r == 0) = false := by simpa using z1
    have zda : decide (r = 0) = false := decide_eq_false z1
    clear key z1
    have tk_b1 : True := trivial; have tk_b2 : True := trivial; have tk_b3 : True := trivial
    go_enter Tryd.func50, Tryd.ntmps50
    go_wp2_with (first | (have _t := tk_b1; refine wpList_box rfl _ _ rfl _ _ rfl hM ?_; intro b1 W' hb1 hM'; clear hM tk_b1; have hM := hM'; clear hM') | (have _t := tk_b2; refine wpList_box1 rfl _ _ rfl _ rfl rfl hM ?_; intro b2 W' hb2 hM'; clear hM tk_b2; have hM := hM'; clear hM') | (have _t := tk_b3; refine wpList_box1 rfl _ _ rfl _ rfl rfl hM ?_; intro b3 W' hb3 hM'; clear hM tk_b3; have hM := hM'; clear hM') | (refine wpList_get rfl _ _ rfl _ _ rfl hM 2 rfl (rowTab _ _ rfl) (by omega) ?_) | (go_at_call 55; (with_reducible refine (checkCells_nil g hg _ Ho.out).mono ?_); rintro e W' ⟨rfl, hb'⟩; have hM' := hM.call hb'; clear hM hb'; have hM := hM'; clear hM'))
    ((try simp only [Act.put, List.setIfInBounds_toArray, List.set_cons_succ, List.set_cons_zero]); refine region_head_mem (m := 4) (by kernel_rfl) (by kernel_rfl) hM ?_; clear hM; simp only [List.take_succ_cons, List.take_zero, List.drop_succ_cons, List.drop_zero]; (repeat (first | go_big_quiet_skip | (go_big_quiet_want; first | (refine quiet_get1 _ _ rfl _ _ rfl 1 rfl (cellTab _ rfl) (by omega) (.int .i64 r) rfl ?_; (simp only [Act.put, List.setIfInBounds_toArray, List.set_cons_succ, List.set_cons_zero]); go_big_quiet_on) | (refine quiet_get1 _ _ rfl _ _ rfl 0 rfl (cellTab _ rfl) (by omega) (.int .i64 s) rfl ?_; (simp only [Act.put, List.setIfInBounds_toArray, List.set_cons_succ, List.set_cons_zero]); go_big_quiet_on) | (refine quiet_call ?_; apply Exists.intro; apply Exists.intro; apply Exists.intro; refine ⟨fun W => ?_, fun W hM => ?_, ?_⟩; (go_simp; exact ⟨rfl, rfl⟩); (with_reducible exact Cr.out W (HE.out.below hM.below)); (simp only [Act.put, List.setIfInBounds_toArray, List.set_cons_succ, List.set_cons_zero]); go_big_quiet_on) | (refine quiet_call ?_; apply Exists.intro; apply Exists.intro; apply Exists.intro; refine ⟨fun W => ?_, fun W hM => ?_, ?_⟩; (go_simp; exact ⟨rfl, rfl⟩); (with_reducible exact Cs.out W (HE.out.below hM.below)); (simp only [Act.put, List.setIfInBounds_toArray, List.set_cons_succ, List.set_cons_zero]); go_big_quiet_on)))); (with_reducible refine wpQuiet_nil ?_); intro W' hM)
    go_wp2_with (first | (refine wpList_get1 rfl _ _ rfl _ _ rfl hM 2 rfl (cellTab _ rfl) (by omega) (.int .i8 (W : Int)) e0 ?_) | (refine wpList_get1 rfl _ _ rfl _ _ rfl hM 1 rfl (cellTab _ rfl) (by omega) (.int .i64 r) rfl ?_) | (refine wpList_lit2 rfl _ _ _ _ rfl (errO (a 1) false) (errO (a 1) false) rfl rfl (errO_one _ _) (errO_one _ _) _ errs_under err_info2 hM ?_; intro bn W' hbn hM'; clear hM; have hM := hM'; clear hM') | (go_at_call 98; refine (join_none (a 1) (es2 false false) _ 2 2 (by omega) cnt2_no _ ((hM.ats 0 _ _ _ rfl).congr (lit2_errE _ _ _))).mono ?_; rintro e W' ⟨rfl, hb'⟩; have hM' := hM.call hb'; clear hM hb'; have hM := hM'.drop; clear hM'))
    go_loopw [10, 40] (fun v i wr => ∃ k : Nat, k ≤ W + 1 ∧ i = .int .i64 k ∧ Lst w [(b3, 1, fun _ => .int .i64 s), (b2, 1, fun _ => .int .i64 r), (b1, 122, pas g)] 1 v k numV wr) (fun _ i _ => W + 1 - (intOf i).toNat)
    case atStart => exact ⟨0, by omega, rfl, .inl ⟨rfl, rfl, hM⟩⟩
    case round =>
      clear hM
      obtain ⟨k, hk, rfl, hL⟩ := hrel
      by_cases hlt : k < W + 1
      · have lk : (k : Int) < (W : Int) + 1 := by omega
        rcases hL with ⟨rfl, hk0, hM⟩ | ⟨b, c, F1, rfl, hb, hkc, hF1, hM⟩
        · subst hk0
          have ln : (0 : Int) < (W : Int) + 1 := by omega
          have Hq : Hid (∀ j, j < 1 → (fun _ : Nat => Value.int .i64 0) j = numV j) := Lib.hid (fun j hj => by rw [show j = 0 by omega]; rfl)
          have tk_r3 : True := trivial; have tk_p1 : True := trivial
          go_wp2_with (first | (have _t := tk_r3; refine wpList_lit1 rfl _ _ _ rfl (.int .i64 0) rfl rfl _ i64s_under i64s_info2 hM ?_; intro bn W' hbn hM'; clear hM tk_r3; have hM := hM'; clear hM') | (have _t := tk_p1; refine wpList_push0 rfl _ _ _ rfl _ 1 _ _ i64s_under i64s_info rfl (by omega) rfl _ _ rfl hM (numV) Hq.out ?_; intro bL cL FL W' hbL hcL hFL hM'; clear hM tk_p1; have hM := hM'; clear hM'))
          go_roundw
          case rel => exact ⟨1, by omega, by go_num, .inr ⟨bL, cL, FL, rfl, hbL, hcL, hFL, hM⟩⟩
          case measure => simp [intOf] <;> omega
        · have Hq : Hid (∀ j, j < 1 → (fun _ : Nat => Value.int .i64 (k : Int)) j = numV (k * 1 + j)) := Lib.hid (fun j hj => by rw [show k * 1 + j = k by omega]; rfl)
          have Hf := Lib.hid hF1
          clear hF1
          have tk_r3 : True := trivial; have tk_p1 : True := trivial
          go_wp2_with (first | (have _t := tk_r3; refine wpList_lit1 rfl _ _ _ rfl (.int .i64 (k : Int)) rfl rfl _ i64s_under i64s_info2 hM ?_; intro bn W' hbn hM'; clear hM tk_r3; have hM := hM'; clear hM') | (have _t := tk_p1; refine wpList_push1 rfl _ _ _ rfl _ 1 _ _ i64s_under i64s_info rfl (by omega) _ _ _ _ rfl hb hkc (by omega) _ _ rfl (fun _ _ => rfl) hM numV Hf.out Hq.out ?_; intro bL cL FL W' hbL hcL hFL hM'; clear hM tk_p1; have hM := hM'; clear hM'))
          go_roundw
          case rel => exact ⟨k + 1, by omega, by go_num, .inr ⟨bL, cL, FL, rfl, hbL, hcL, hFL, hM⟩⟩
          case measure => simp [intOf] <;> omega
      · obtain rfl : k = W + 1 := by omega
        have ln : ¬ ((W : Int) + 1 < (W : Int) + 1) := by omega
        rcases hL with ⟨-, hk0, -⟩ | ⟨b, c, F1, rfl, hb, hkc, hF1, hM⟩
        · omega
        have Hf := Lib.hid (fun k (hk : k < W + 1) => (hF1 k (by omega) : F1 k = .int .i64 (k : Int)))
        have Hcl := Lib.hid (fun W1 (hM1 : Mem (Base.of w) [(b, c * 1, F1), (b3, 1, fun _ => .int .i64 s), (b2, 1, fun _ => .int .i64 r), (b1, 122, pas g)] W1) X (hX : Below W1.heap.size W1 X) k (hk : k < W + 1) => HC'.out k (by omega) b1 b2 b3 X (((hM1.call hX).drop).base (Below.refl _ _)))
        clear hF1
        go_wp2_with (go_at_call 102; refine (fewest_any f (W + 1) (by omega) (lb := #[.pointer (some ⟨b1, 0, none⟩), .pointer (some ⟨b2, 0, none⟩), .pointer (some ⟨b3, 0, none⟩)]) (enters_of Tryd.func103 (by kernel_rfl) rfl) b (c * 1) c F1 (by omega) hkc Hf.out _ hM.at0 (fun X hX k hk => Hcl.out _ hM X hX k hk)).mono ?_; rintro e W' ⟨rfl, hb'⟩; have hM' := hM.call hb'; clear hM hb'; have hM := hM'; clear hM')
        go_ret2
        exact ⟨ret_num rfl rfl, hM.below⟩

theorem implCutColumn_any {a : Nat → Addr} (g : Nat → Int) (hg : Fits g) (r s : Int) (w : World) (hE : Errs a w) :
    Calls Tryd.prog 50 #[.agg (arr 122 (pas g)), .int .i64 r, .int .i64 s] w fun e w' => e = .returned (numR (cutN g r s) (cutC g r s)) ∧ Below w.heap.size w w' := by
  rcases cut_cases g r s with ⟨-, h⟩ | ⟨-, -, h⟩ | ⟨-, -, -, -, -, h⟩ | ⟨h1, h2, h3, h4, h5⟩
  · exact implCutColumn_bad g hg r s w hE (.inl h)
  · exact implCutColumn_bad g hg r s w hE (.inr (.inl h))
  · exact implCutColumn_bad g hg r s w hE (.inr (.inr h))
  · exact implCutColumn_ok g hg r s w hE h1 h2 h3 h4 h5
end Go.Proofs.YtbmaljhnldepoaaDoor

/-
  laws.FnExactCutColumn returns true.
-/
namespace Go.Proofs.YtbmaljhnldepoaaDoor
open Go Go.RowKit Go.BigFrame

set_option maxRecDepth 100000 in
set_option maxHeartbeats 2000000 in
theorem lawCutColumn_any {a : Nat → Addr} (g : Nat → Int) (hg : Fits g) (r s : Int) (w : World) (hE : Errs a w) :
    Calls Tryd.prog 14 #[.agg (arr 122 (pas g)), .int .i64 r, .int .i64 s] w fun e w' => e = .returned (.bool true) ∧ Below w.heap.size w w' := by
  have hM := Mem.nil w
  have HE := Lib.hid hE
  have hS := fun W => specCutColumn_any g hg r s W
  have hI := fun W hE => implCutColumn_any (a := a) g hg r s W hE
  rw [numR_eq] at hS
  rw [numR_eq] at hI
  generalize cutN g r s = x at hS hI
  generalize cutC g r s = y at hS hI
  have HS := Lib.hid hS
  have HI := Lib.hid hI
  clear hE hS hI
  have tk_c1 : True := trivial
  go_enter Tryd.func14, Tryd.ntmps14
  go_wp2_with (first | (have _t := tk_c1; refine wpList_box rfl _ _ rfl _ _ rfl hM ?_; intro c1 W' hc1 hM'; clear hM tk_c1; have hM := hM'; clear hM') | (refine wpList_get rfl _ _ rfl _ _ rfl hM 0 rfl (rowTab _ _ rfl) (by omega) ?_) | (go_at_call 16; (with_reducible refine (toPasture_pas g _).mono ?_); rintro e W' ⟨rfl, hb'⟩; have hM' := hM.call hb'; clear hM hb'; have hM := hM'; clear hM') | (go_at_call 49; (with_reducible refine (HS.out _).mono ?_); rintro e W' ⟨rfl, hb'⟩; have hM' := hM.call hb'; clear hM hb'; have hM := hM'; clear hM') | (go_at_call 50; (with_reducible refine (HI.out _ (HE.out.below hM.below)).mono ?_); rintro e W' ⟨rfl, hb'⟩; have hM' := hM.call hb'; clear hM hb'; have hM := hM'; clear hM'))
  go_ret
  exact ⟨rfl, hM.below⟩
end Go.Proofs.YtbmaljhnldepoaaDoor

