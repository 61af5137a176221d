/-
  spec.BalanceOf and impl.BalanceOf by contracts; laws.FnExactBalanceOf returns true.
-/
import Derived.Test.YtjfmhnbbdkejeaaDoorSumCells
import Derived.Test.YtjfmhnbbdkejeaaDoorErrO
import Derived.Test.YtjfmhnbbdkejeaaDoorCells0
import Derived.Test.YtjfmhnbbdkejeaaDoorReads
import Derived.Test.YtjfmhnbbdkejeaaDoorNum
namespace Go.Proofs.YtjfmhnbbdkejeaaDoor
open Go Go.RowKit Go.Shelf Go.BigFrame

def grassS (g : Nat → Int) : Int := sumN 100 (fun k => g (2 + k))
theorem grassS_in {g : Nat → Int} (ho : okB g = true) : 0 ≤ grassS g ∧ grassS g ≤ 100000 := by
  have := sumN_bounds (n := 100) (f := fun k => g (2 + k)) (m := 1000) (by omega) (fun k hk => (ok_grass ho k hk).1)
  unfold grassS; omega
def inG (n : Int) : Bool := inB 0 1000000000 n
/-- What BalanceOf answers. -/
def balR (g h : Nat → Int) (r s t : Int) : Int × Int :=
  if okB g && okB h then (if g 0 = h 0 ∧ g 1 = h 1 then (if inG r && inG s && inG t then (grassS h - (grassS g + r - s - t), 0) else (0, 2)) else (0, 4)) else (0, 1)
theorem bal_no {g h : Nat → Int} {r s t : Int} (e : (okB g && okB h) = false) : balR g h r s t = (0, 1) := by simp [balR, e]
theorem bal_other {g h : Nat → Int} {r s t : Int} (e : (okB g && okB h) = true) (e1 : ¬ (g 0 = h 0 ∧ g 1 = h 1)) : balR g h r s t = (0, 4) := by simp only [balR, e, if_true, e1, if_false]
theorem bal_out {g h : Nat → Int} {r s t : Int} (e : (okB g && okB h) = true) (e1 : g 0 = h 0 ∧ g 1 = h 1) (e2 : (inG r && inG s && inG t) = false) : balR g h r s t = (0, 2) := by simp [balR, e, e1, e2]
theorem bal_ok {g h : Nat → Int} {r s t : Int} (e : (okB g && okB h) = true) (e1 : g 0 = h 0 ∧ g 1 = h 1) (e2 : (inG r && inG s && inG t) = true) : balR g h r s t = (grassS h - (grassS g + r - s - t), 0) := by simp [balR, e, e1, e2]

set_option maxRecDepth 100000 in
set_option maxHeartbeats 4000000 in
theorem implBalanceOf_any {a : Nat → Addr} (g : Nat → Int) (hg : Fits g) (h : Nat → Int) (hh : Fits h) (r s t : Int) (w : World) (hE : Errs a w) :
    Calls Tryd.prog 34 #[.agg (arr 122 (pas g)), .agg (arr 122 (pas h)), .int .i64 r, .int .i64 s, .int .i64 t] w fun e w' => e = .returned (numR (balR g h r s t).1 (balR g h r s t).2) ∧ Below w.heap.size w w' := by
  have hM := Mem.nil w
  have HE := Lib.hid hE
  clear hE
  have tk_b1 : True := trivial; have tk_b2 : True := trivial
  cases ho : (okB g && okB h)
  · have Hr := Lib.hid (bal_no (r := r) (s := s) (t := t) ho)
    have Hc := Lib.hid (cnt2_yes (show (!okB g || !okB h) = true by rw [← Bool.not_and, ho]; rfl))
    clear ho
    go_enter Tryd.func34, Tryd.ntmps34
    go_wp2_with (first | (have _t := tk_b1; refine wpList_box rfl _ _ rfl _ _ rfl hM ?_; intro b1 W' hb1 hM'; clear hM tk_b1; have hM := hM'; clear hM') | (have _t := tk_b2; refine wpList_box rfl _ _ rfl _ _ rfl hM ?_; intro b2 W' hb2 hM'; clear hM tk_b2; have hM := hM'; clear hM'))
    ((try simp only [Act.put, List.setIfInBounds_toArray, List.set_cons_succ, List.set_cons_zero]); refine region_head_mem (m := 4) (by kernel_rfl) (by kernel_rfl) hM ?_; clear hM; simp only [List.take_succ_cons, List.take_zero, List.drop_succ_cons, List.drop_zero]; (repeat (first | go_big_quiet_skip | (go_big_quiet_want; first | (refine quiet_get _ _ rfl _ _ rfl 1 rfl (rowTab _ _ rfl) (by omega) ?_; (simp only [Act.put, List.setIfInBounds_toArray, List.set_cons_succ, List.set_cons_zero]); go_big_quiet_on) | (refine quiet_get _ _ rfl _ _ rfl 0 rfl (rowTab _ _ rfl) (by omega) ?_; (simp only [Act.put, List.setIfInBounds_toArray, List.set_cons_succ, List.set_cons_zero]); go_big_quiet_on) | (refine quiet_call ?_; apply Exists.intro; apply Exists.intro; apply Exists.intro; refine ⟨fun W => ?_, fun W hM => ?_, ?_⟩; (go_simp; exact ⟨rfl, rfl⟩); (with_reducible exact checkCells0_any g hg W (HE.out.below hM.below)); (simp only [Act.put, List.setIfInBounds_toArray, List.set_cons_succ, List.set_cons_zero]); go_big_quiet_on) | (refine quiet_call ?_; apply Exists.intro; apply Exists.intro; apply Exists.intro; refine ⟨fun W => ?_, fun W hM => ?_, ?_⟩; (go_simp; exact ⟨rfl, rfl⟩); (with_reducible exact checkCells0_any h hh W (HE.out.below hM.below)); (simp only [Act.put, List.setIfInBounds_toArray, List.set_cons_succ, List.set_cons_zero]); go_big_quiet_on)))); (with_reducible refine wpQuiet_nil ?_); intro W' hM)
    go_wp2_with (first | (refine wpList_lit2 rfl _ _ _ _ rfl (errO (a 0) (!okB g)) (errO (a 0) (!okB h)) rfl rfl (errO_one _ _) (errO_one _ _) _ errs_under err_info2 hM ?_; intro bn W' hbn hM'; clear hM; have hM := hM'; clear hM') | (go_at_call 65; refine (join_some (a 0) (es2 (!okB g) (!okB h)) _ 2 2 (by omega) Hc.out _ ((hM.ats 0 _ _ _ rfl).congr (lit2_errE _ _ _))).mono ?_; rintro e W' ⟨jb, rfl, hJ, hb'⟩; have hM' := hM.call hb'; clear hM hb'; have hM := hM'; clear hM') | (go_at_call 50; (refine (codeJ_0 jb _ Hc.out (HE.out.below hM.below) hJ).mono ?_); rintro e W' ⟨rfl, rfl⟩))
    go_ret2
    exact ⟨ret_num (by rw [Hr.out]) (by rw [Hr.out]), hM.below⟩
  have ho' := ho
  rw [Bool.and_eq_true] at ho'
  have Hg := Lib.hid ho'.1
  have Hh := Lib.hid ho'.2
  have zg : errO (a 0) (!okB g) = errO (a 0) false := by rw [Hg.out]; rfl
  have zh : errO (a 0) (!okB h) = errO (a 0) false := by rw [Hh.out]; rfl
  have cg := fun W hE => checkCells0_any (a := a) g hg W hE
  have ch := fun W hE => checkCells0_any (a := a) h hh W hE
  rw [zg] at cg
  rw [zh] at ch
  have Cg := Lib.hid cg
  have Ch := Lib.hid ch
  have e0 : ∀ c : Nat → Int, pas c 0 = .int .i8 (c 0) := fun _ => rfl
  have e1 : ∀ c : Nat → Int, pas c 1 = .int .i8 (c 1) := fun _ => rfl
  have Sg := Lib.hid (grassS_in ho'.1)
  have Sh := Lib.hid (grassS_in ho'.2)
  clear zg zh cg ch ho'
  by_cases hw : g 0 = h 0 ∧ g 1 = h 1
  · cases hi : (inG r && inG s && inG t)
    · have Hr := Lib.hid (bal_out ho hw hi)
      have Hc := Lib.hid (cnt3_yes (p := !inB 0 1000000000 r) (q := !inB 0 1000000000 s) (r := !inB 0 1000000000 t) (by unfold inG at hi; revert hi; cases inB 0 1000000000 r <;> cases inB 0 1000000000 s <;> cases inB 0 1000000000 t <;> decide))
      have Hl := Lib.hid (Nat.le_trans (cntE_le (es3 (!inB 0 1000000000 r) (!inB 0 1000000000 s) (!inB 0 1000000000 t)) 3) (show 3 ≤ 1000 by omega))
      obtain ⟨hw0, hw1⟩ := hw
      clear ho hi
      go_enter Tryd.func34, Tryd.ntmps34
      go_wp2_with (first | (have _t := tk_b1; refine wpList_box rfl _ _ rfl _ _ rfl hM ?_; intro b1 W' hb1 hM'; clear hM tk_b1; have hM := hM'; clear hM') | (have _t := tk_b2; refine wpList_box rfl _ _ rfl _ _ rfl hM ?_; intro b2 W' hb2 hM'; clear hM tk_b2; have hM := hM'; clear hM'))
      ((try simp only [Act.put, List.setIfInBounds_toArray, List.set_cons_succ, List.set_cons_zero]); refine region_head_mem (m := 4) (by kernel_rfl) (by kernel_rfl) hM ?_; clear hM; simp only [List.take_succ_cons, List.take_zero, List.drop_succ_cons, List.drop_zero]; (repeat (first | go_big_quiet_skip | (go_big_quiet_want; first | (refine quiet_get _ _ rfl _ _ rfl 1 rfl (rowTab _ _ rfl) (by omega) ?_; (simp only [Act.put, List.setIfInBounds_toArray, List.set_cons_succ, List.set_cons_zero]); go_big_quiet_on) | (refine quiet_get _ _ rfl _ _ rfl 0 rfl (rowTab _ _ rfl) (by omega) ?_; (simp only [Act.put, List.setIfInBounds_toArray, List.set_cons_succ, List.set_cons_zero]); go_big_quiet_on) | (refine quiet_call ?_; apply Exists.intro; apply Exists.intro; apply Exists.intro; refine ⟨fun W => ?_, fun W hM => ?_, ?_⟩; (go_simp; exact ⟨rfl, rfl⟩); (with_reducible exact Cg.out W (HE.out.below hM.below)); (simp only [Act.put, List.setIfInBounds_toArray, List.set_cons_succ, List.set_cons_zero]); go_big_quiet_on) | (refine quiet_call ?_; apply Exists.intro; apply Exists.intro; apply Exists.intro; refine ⟨fun W => ?_, fun W hM => ?_, ?_⟩; (go_simp; exact ⟨rfl, rfl⟩); (with_reducible exact Ch.out W (HE.out.below hM.below)); (simp only [Act.put, List.setIfInBounds_toArray, List.set_cons_succ, List.set_cons_zero]); go_big_quiet_on)))); (with_reducible refine wpQuiet_nil ?_); intro W' hM)
      have tk_l2 : True := trivial; have tk_l3 : True := trivial; have tk_j2 : True := trivial; have tk_r1 : True := trivial; have tk_r2 : True := trivial; have tk_r3 : True := trivial; have tk_r4 : True := trivial
      go_wp2_with (first | (have _t := tk_l2; refine wpList_lit2 rfl _ _ _ _ rfl (errO (a 0) false) (errO (a 0) false) rfl rfl (errO_one _ _) (errO_one _ _) _ errs_under err_info2 hM ?_; intro bn W' hbn hM'; clear hM tk_l2; have hM := hM'; clear hM') | (have _t := tk_j2; go_at_call 65; refine (join_none (a 0) (es2 false false) _ 2 2 (by omega) cnt2_no _ ((hM.ats 0 _ _ _ rfl).congr (lit2_errE _ _ _))).mono ?_; rintro e W' ⟨rfl, hb'⟩; have hM' := hM.call hb'; clear hM hb' tk_j2; have hM := hM'.drop; clear hM') | (have _t := tk_r1; refine wpList_get1 rfl _ _ rfl _ _ rfl hM 1 rfl (cellTab _ rfl) (by omega) _ (e0 _) ?_; clear tk_r1) | (have _t := tk_r2; refine wpList_get1 rfl _ _ rfl _ _ rfl hM 0 rfl (cellTab _ rfl) (by omega) _ (e0 _) ?_; clear tk_r2) | (have _t := tk_r3; refine wpList_gget1 ?_ _ _ rfl _ _ rfl hM 1 rfl (cellTab _ rfl) (by omega) _ (e1 _) ?_; kernel_rfl; clear tk_r3) | (have _t := tk_r4; refine wpList_gget1 ?_ _ _ rfl _ _ rfl hM 0 rfl (cellTab _ rfl) (by omega) _ (e1 _) ?_; kernel_rfl; clear tk_r4) | (go_at_call 51; (with_reducible refine (checkUpTo_any _ _ _ (HE.out.below hM.below)).mono ?_); rintro e W' ⟨rfl, hb'⟩; have hM' := hM.call hb'; clear hM hb'; have hM := hM'; clear hM') | (have _t := tk_l3; refine wpList_lit3 rfl _ _ _ _ _ rfl (errO (a 1) (!inB 0 1000000000 r)) (errO (a 1) (!inB 0 1000000000 s)) (errO (a 1) (!inB 0 1000000000 t)) rfl rfl rfl (errO_one _ _) (errO_one _ _) (errO_one _ _) _ errs_under err_info2 hM ?_; intro bn W' hbn hM'; clear hM tk_l3; have hM := hM'; clear hM') | (go_at_call 65; refine (join_some (a 1) (es3 (!inB 0 1000000000 r) (!inB 0 1000000000 s) (!inB 0 1000000000 t)) _ 3 3 (by omega) Hc.out _ ((hM.ats 0 _ _ _ rfl).congr (lit3_errE _ _ _ _))).mono ?_; rintro e W' ⟨jb, rfl, hJ, hb'⟩; have hM' := hM.call hb'; clear hM hb'; have hM := hM'; clear hM') | (go_at_call 50; (refine (codeJ_1 jb _ Hc.out Hl.out (HE.out.below hM.below) hJ).mono ?_); rintro e W' ⟨rfl, rfl⟩))
      go_ret2
      exact ⟨ret_num (by rw [Hr.out]) (by rw [Hr.out]), hM.below⟩
    · have Hr := Lib.hid (bal_ok ho hw hi)
      have hi' := hi
      rw [Bool.and_eq_true, Bool.and_eq_true] at hi'
      have R1 : Hid (inB 0 1000000000 r = true) := Lib.hid hi'.1.1
      have R2 : Hid (inB 0 1000000000 s = true) := Lib.hid hi'.1.2
      have R3 : Hid (inB 0 1000000000 t = true) := Lib.hid hi'.2
      have B1 := inB_true R1.out
      have B2 := inB_true R2.out
      have B3 := inB_true R3.out
      have s1 := Sg.out
      have s2 := Sh.out
      have c1 : IntKind.i64.wrap (grassS g + r) = grassS g + r := IntWalk.i64_in _ (by omega)
      have c2 : IntKind.i64.wrap (grassS g + r - s) = grassS g + r - s := IntWalk.i64_in _ (by omega)
      have c3 : IntKind.i64.wrap (grassS g + r - s - t) = grassS g + r - s - t := IntWalk.i64_in _ (by omega)
      have c4 : IntKind.i64.wrap (grassS h - (grassS g + r - s - t)) = grassS h - (grassS g + r - s - t) := IntWalk.i64_in _ (by omega)
      have Qg : ∀ b W, At W b 122 (pas g) → Calls Tryd.prog 72 #[.agg (arr 122 (pas g)), .func (.func 104) #[] #[.pointer (some ⟨b, 0, none⟩)]] W fun e w' => e = .returned (.int .i64 (grassS g)) ∧ Below W.heap.size W w' := fun b W hA => sumGrass_cells g hg Hg.out b W hA
      have Qh : ∀ b W, At W b 122 (pas h) → Calls Tryd.prog 72 #[.agg (arr 122 (pas h)), .func (.func 104) #[] #[.pointer (some ⟨b, 0, none⟩)]] W fun e w' => e = .returned (.int .i64 (grassS h)) ∧ Below W.heap.size W w' := fun b W hA => sumGrass_cells h hh Hh.out b W hA
      have QG := Lib.hid Qg
      have QH := Lib.hid Qh
      obtain ⟨hw0, hw1⟩ := hw
      clear ho hi hi' B1 B2 B3 s1 s2 Qg Qh
      generalize grassS g = x at *
      generalize grassS h = y at *
      go_enter Tryd.func34, Tryd.ntmps34
      go_wp2_with (first | (have _t := tk_b1; refine wpList_box rfl _ _ rfl _ _ rfl hM ?_; intro b1 W' hb1 hM'; clear hM tk_b1; have hM := hM'; clear hM') | (have _t := tk_b2; refine wpList_box rfl _ _ rfl _ _ rfl hM ?_; intro b2 W' hb2 hM'; clear hM tk_b2; have hM := hM'; clear hM'))
      ((try simp only [Act.put, List.setIfInBounds_toArray, List.set_cons_succ, List.set_cons_zero]); refine region_head_mem (m := 4) (by kernel_rfl) (by kernel_rfl) hM ?_; clear hM; simp only [List.take_succ_cons, List.take_zero, List.drop_succ_cons, List.drop_zero]; (repeat (first | go_big_quiet_skip | (go_big_quiet_want; first | (refine quiet_get _ _ rfl _ _ rfl 1 rfl (rowTab _ _ rfl) (by omega) ?_; (simp only [Act.put, List.setIfInBounds_toArray, List.set_cons_succ, List.set_cons_zero]); go_big_quiet_on) | (refine quiet_get _ _ rfl _ _ rfl 0 rfl (rowTab _ _ rfl) (by omega) ?_; (simp only [Act.put, List.setIfInBounds_toArray, List.set_cons_succ, List.set_cons_zero]); go_big_quiet_on) | (refine quiet_call ?_; apply Exists.intro; apply Exists.intro; apply Exists.intro; refine ⟨fun W => ?_, fun W hM => ?_, ?_⟩; (go_simp; exact ⟨rfl, rfl⟩); (with_reducible exact Cg.out W (HE.out.below hM.below)); (simp only [Act.put, List.setIfInBounds_toArray, List.set_cons_succ, List.set_cons_zero]); go_big_quiet_on) | (refine quiet_call ?_; apply Exists.intro; apply Exists.intro; apply Exists.intro; refine ⟨fun W => ?_, fun W hM => ?_, ?_⟩; (go_simp; exact ⟨rfl, rfl⟩); (with_reducible exact Ch.out W (HE.out.below hM.below)); (simp only [Act.put, List.setIfInBounds_toArray, List.set_cons_succ, List.set_cons_zero]); go_big_quiet_on)))); (with_reducible refine wpQuiet_nil ?_); intro W' hM)
      have tk_l2 : True := trivial; have tk_l3 : True := trivial; have tk_j2 : True := trivial; have tk_r1 : True := trivial; have tk_r2 : True := trivial; have tk_r3 : True := trivial; have tk_r4 : True := trivial
      go_wp2_with (first | (have _t := tk_l2; refine wpList_lit2 rfl _ _ _ _ rfl (errO (a 0) false) (errO (a 0) false) rfl rfl (errO_one _ _) (errO_one _ _) _ errs_under err_info2 hM ?_; intro bn W' hbn hM'; clear hM tk_l2; have hM := hM'; clear hM') | (have _t := tk_j2; go_at_call 65; refine (join_none (a 0) (es2 false false) _ 2 2 (by omega) cnt2_no _ ((hM.ats 0 _ _ _ rfl).congr (lit2_errE _ _ _))).mono ?_; rintro e W' ⟨rfl, hb'⟩; have hM' := hM.call hb'; clear hM hb' tk_j2; have hM := hM'.drop; clear hM') | (have _t := tk_r1; refine wpList_get1 rfl _ _ rfl _ _ rfl hM 1 rfl (cellTab _ rfl) (by omega) _ (e0 _) ?_; clear tk_r1) | (have _t := tk_r2; refine wpList_get1 rfl _ _ rfl _ _ rfl hM 0 rfl (cellTab _ rfl) (by omega) _ (e0 _) ?_; clear tk_r2) | (have _t := tk_r3; refine wpList_gget1 ?_ _ _ rfl _ _ rfl hM 1 rfl (cellTab _ rfl) (by omega) _ (e1 _) ?_; kernel_rfl; clear tk_r3) | (have _t := tk_r4; refine wpList_gget1 ?_ _ _ rfl _ _ rfl hM 0 rfl (cellTab _ rfl) (by omega) _ (e1 _) ?_; kernel_rfl; clear tk_r4) | (go_at_call 51; (with_reducible refine (checkUpTo_yes _ _ _ R1.out).mono ?_); rintro e W' ⟨rfl, hb'⟩; have hM' := hM.call hb'; clear hM hb'; have hM := hM'; clear hM') | (go_at_call 51; (with_reducible refine (checkUpTo_yes _ _ _ R2.out).mono ?_); rintro e W' ⟨rfl, hb'⟩; have hM' := hM.call hb'; clear hM hb'; have hM := hM'; clear hM') | (go_at_call 51; (with_reducible refine (checkUpTo_yes _ _ _ R3.out).mono ?_); rintro e W' ⟨rfl, hb'⟩; have hM' := hM.call hb'; clear hM hb'; have hM := hM'; clear hM') | (have _t := tk_l3; refine wpList_lit3 rfl _ _ _ _ _ rfl (errO (a 1) false) (errO (a 1) false) (errO (a 1) false) rfl rfl rfl (errO_one _ _) (errO_one _ _) (errO_one _ _) _ errs_under err_info2 hM ?_; intro bn W' hbn hM'; clear hM tk_l3; have hM := hM'; clear hM') | (go_at_call 65; refine (join_none (a 1) (es3 false false false) _ 3 3 (by omega) cnt3_no _ ((hM.ats 0 _ _ _ rfl).congr (lit3_errE _ _ _ _))).mono ?_; rintro e W' ⟨rfl, hb'⟩; have hM' := hM.call hb'; clear hM hb'; have hM := hM'.drop; clear hM'))
      ((try simp only [Act.put, List.setIfInBounds_toArray, List.set_cons_succ, List.set_cons_zero]); refine region_reads [0, 1, 4, 6, 8] #[true, true, false, false, true, false, true, false, true, false, false] 6 (by kernel_rfl) (by kernel_rfl) (by kernel_rfl) hM ?_; clear hM; (repeat (refine qs_plain rfl rfl ?_; first | (refine b_get _ _ rfl _ _ rfl 1 rfl (rowTab _ _ rfl) (by omega) ?_; (simp only [Act.put, List.setIfInBounds_toArray, List.set_cons_succ, List.set_cons_zero])) | (refine b_val ?_; apply Exists.intro; refine ⟨fun W => ?_, ?_⟩; (go_simp; (try simp only [c1, if_true]); rfl); (simp only [Act.put, List.setIfInBounds_toArray, List.set_cons_succ, List.set_cons_zero])))); (with_reducible refine qs_nil ?_))
      (refine mix_one (i := 2) (by kernel_rfl) rfl (by kernel_rfl) rfl ?_)
      (refine step_call_new (n := 122) (f := pas g) (fun b => .func (.func 104) #[] #[.pointer (some ⟨b, 0, none⟩)]) ?_; apply Exists.intro; apply Exists.intro; refine ⟨fun W => ?_, fun W hM => ?_, ?_⟩; (go_simp; exact ⟨rfl, rfl⟩); (exact cells_any g W); (intro bp hbp); (simp only [Act.put, List.setIfInBounds_toArray, List.set_cons_succ, List.set_cons_zero]))
      (refine mix_one (i := 3) (by kernel_rfl) rfl (by kernel_rfl) rfl ?_)
      (refine step_call ?_; apply Exists.intro; apply Exists.intro; apply Exists.intro; refine ⟨fun W => ?_, fun W hM => ?_, ?_⟩; (go_simp; exact ⟨rfl, rfl⟩); (exact QG.out _ W (hM.ats 0 _ _ _ rfl)); (simp only [Act.put, List.setIfInBounds_toArray, List.set_cons_succ, List.set_cons_zero]))
      (refine mix_one (i := 5) (by kernel_rfl) rfl (by kernel_rfl) rfl ?_)
      (refine step_val ?_; apply Exists.intro; refine ⟨fun W => ?_, ?_⟩; (go_simp; (try simp only [c1, if_true]); rfl); (simp only [Act.put, List.setIfInBounds_toArray, List.set_cons_succ, List.set_cons_zero]))
      (refine mix_one (i := 7) (by kernel_rfl) rfl (by kernel_rfl) rfl ?_)
      (refine step_val ?_; apply Exists.intro; refine ⟨fun W => ?_, ?_⟩; (go_simp; (try simp only [c2, if_true]); rfl); (simp only [Act.put, List.setIfInBounds_toArray, List.set_cons_succ, List.set_cons_zero]))
      (refine mix_one (i := 9) (by kernel_rfl) rfl (by kernel_rfl) rfl ?_)
      (refine step_val ?_; apply Exists.intro; refine ⟨fun W => ?_, ?_⟩; (go_simp; (try simp only [c3, if_true]); rfl); (simp only [Act.put, List.setIfInBounds_toArray, List.set_cons_succ, List.set_cons_zero]))
      (refine mix_one (i := 10) (by kernel_rfl) rfl (by kernel_rfl) rfl ?_)
      (refine step_val ?_; apply Exists.intro; refine ⟨fun W => ?_, ?_⟩; (go_simp; rfl); (simp only [Act.put, List.setIfInBounds_toArray, List.set_cons_succ, List.set_cons_zero]))
      (refine mix_end (by kernel_rfl) ?_; intro W' hM; simp only [List.cons_append, List.nil_append] at hM)
      go_wp2
      ((try simp only [Act.put, List.setIfInBounds_toArray, List.set_cons_succ, List.set_cons_zero]); refine region_reads [0, 1, 4] #[true, true, false, false, true, false, false, false] 5 (by kernel_rfl) (by kernel_rfl) (by kernel_rfl) hM ?_; clear hM; (repeat (refine qs_plain rfl rfl ?_; first | (refine b_get _ _ rfl _ _ rfl 1 rfl (rowTab _ _ rfl) (by omega) ?_; (simp only [Act.put, List.setIfInBounds_toArray, List.set_cons_succ, List.set_cons_zero])) | (refine b_val ?_; apply Exists.intro; refine ⟨fun W => ?_, ?_⟩; (go_simp; (try simp only [c1, if_true]); rfl); (simp only [Act.put, List.setIfInBounds_toArray, List.set_cons_succ, List.set_cons_zero])))); (with_reducible refine qs_nil ?_))
      (refine mix_one (i := 2) (by kernel_rfl) rfl (by kernel_rfl) rfl ?_)
      (refine step_call_new (n := 122) (f := pas h) (fun b => .func (.func 104) #[] #[.pointer (some ⟨b, 0, none⟩)]) ?_; apply Exists.intro; apply Exists.intro; refine ⟨fun W => ?_, fun W hM => ?_, ?_⟩; (go_simp; exact ⟨rfl, rfl⟩); (exact cells_any h W); (intro bq hbq); (simp only [Act.put, List.setIfInBounds_toArray, List.set_cons_succ, List.set_cons_zero]))
      (refine mix_one (i := 3) (by kernel_rfl) rfl (by kernel_rfl) rfl ?_)
      (refine step_call ?_; apply Exists.intro; apply Exists.intro; apply Exists.intro; refine ⟨fun W => ?_, fun W hM => ?_, ?_⟩; (go_simp; exact ⟨rfl, rfl⟩); (exact QH.out _ W (hM.ats 0 _ _ _ rfl)); (simp only [Act.put, List.setIfInBounds_toArray, List.set_cons_succ, List.set_cons_zero]))
      (refine mix_one (i := 5) (by kernel_rfl) rfl (by kernel_rfl) rfl ?_)
      (refine step_val ?_; apply Exists.intro; refine ⟨fun W => ?_, ?_⟩; (go_simp; (try simp only [c4, if_true]); rfl); (simp only [Act.put, List.setIfInBounds_toArray, List.set_cons_succ, List.set_cons_zero]))
      (refine mix_one (i := 6) (by kernel_rfl) rfl (by kernel_rfl) rfl ?_)
      (refine step_val ?_; apply Exists.intro; refine ⟨fun W => ?_, ?_⟩; (go_simp; rfl); (simp only [Act.put, List.setIfInBounds_toArray, List.set_cons_succ, List.set_cons_zero]))
      (refine mix_one (i := 7) (by kernel_rfl) rfl (by kernel_rfl) rfl ?_)
      (refine step_val ?_; apply Exists.intro; refine ⟨fun W => ?_, ?_⟩; (go_simp; rfl); (simp only [Act.put, List.setIfInBounds_toArray, List.set_cons_succ, List.set_cons_zero]))
      (refine mix_end (by kernel_rfl) ?_; intro W' hM; simp only [List.cons_append, List.nil_append] at hM)
      go_wp2
      go_ret2
      exact ⟨ret_num (by rw [Hr.out]) (by rw [Hr.out]), hM.below⟩
  · have Hr := Lib.hid (bal_other (r := r) (s := s) (t := t) ho hw)
    clear ho
    by_cases hw0 : g 0 = h 0
    · have hw1 : ¬ g 1 = h 1 := fun e => hw ⟨hw0, e⟩
      clear hw
      go_enter Tryd.func34, Tryd.ntmps34
      go_wp2_with (first | (have _t := tk_b1; refine wpList_box rfl _ _ rfl _ _ rfl hM ?_; intro b1 W' hb1 hM'; clear hM tk_b1; have hM := hM'; clear hM') | (have _t := tk_b2; refine wpList_box rfl _ _ rfl _ _ rfl hM ?_; intro b2 W' hb2 hM'; clear hM tk_b2; have hM := hM'; clear hM'))
      ((try simp only [Act.put, List.setIfInBounds_toArray, List.set_cons_succ, List.set_cons_zero]); refine region_head_mem (m := 4) (by kernel_rfl) (by kernel_rfl) hM ?_; clear hM; simp only [List.take_succ_cons, List.take_zero, List.drop_succ_cons, List.drop_zero]; (repeat (first | go_big_quiet_skip | (go_big_quiet_want; first | (refine quiet_get _ _ rfl _ _ rfl 1 rfl (rowTab _ _ rfl) (by omega) ?_; (simp only [Act.put, List.setIfInBounds_toArray, List.set_cons_succ, List.set_cons_zero]); go_big_quiet_on) | (refine quiet_get _ _ rfl _ _ rfl 0 rfl (rowTab _ _ rfl) (by omega) ?_; (simp only [Act.put, List.setIfInBounds_toArray, List.set_cons_succ, List.set_cons_zero]); go_big_quiet_on) | (refine quiet_call ?_; apply Exists.intro; apply Exists.intro; apply Exists.intro; refine ⟨fun W => ?_, fun W hM => ?_, ?_⟩; (go_simp; exact ⟨rfl, rfl⟩); (with_reducible exact Cg.out W (HE.out.below hM.below)); (simp only [Act.put, List.setIfInBounds_toArray, List.set_cons_succ, List.set_cons_zero]); go_big_quiet_on) | (refine quiet_call ?_; apply Exists.intro; apply Exists.intro; apply Exists.intro; refine ⟨fun W => ?_, fun W hM => ?_, ?_⟩; (go_simp; exact ⟨rfl, rfl⟩); (with_reducible exact Ch.out W (HE.out.below hM.below)); (simp only [Act.put, List.setIfInBounds_toArray, List.set_cons_succ, List.set_cons_zero]); go_big_quiet_on)))); (with_reducible refine wpQuiet_nil ?_); intro W' hM)
      have tk_l2 : True := trivial; have tk_j2 : True := trivial; have tk_r1 : True := trivial; have tk_r2 : True := trivial; have tk_r3 : True := trivial; have tk_r4 : True := trivial
      go_wp2_with (first | (have _t := tk_l2; refine wpList_lit2 rfl _ _ _ _ rfl (errO (a 0) false) (errO (a 0) false) rfl rfl (errO_one _ _) (errO_one _ _) _ errs_under err_info2 hM ?_; intro bn W' hbn hM'; clear hM tk_l2; have hM := hM'; clear hM') | (have _t := tk_j2; go_at_call 65; refine (join_none (a 0) (es2 false false) _ 2 2 (by omega) cnt2_no _ ((hM.ats 0 _ _ _ rfl).congr (lit2_errE _ _ _))).mono ?_; rintro e W' ⟨rfl, hb'⟩; have hM' := hM.call hb'; clear hM hb' tk_j2; have hM := hM'.drop; clear hM') | (have _t := tk_r1; refine wpList_get1 rfl _ _ rfl _ _ rfl hM 1 rfl (cellTab _ rfl) (by omega) _ (e0 _) ?_; clear tk_r1) | (have _t := tk_r2; refine wpList_get1 rfl _ _ rfl _ _ rfl hM 0 rfl (cellTab _ rfl) (by omega) _ (e0 _) ?_; clear tk_r2) | (have _t := tk_r3; refine wpList_gget1 ?_ _ _ rfl _ _ rfl hM 1 rfl (cellTab _ rfl) (by omega) _ (e1 _) ?_; kernel_rfl; clear tk_r3) | (have _t := tk_r4; refine wpList_gget1 ?_ _ _ rfl _ _ rfl hM 0 rfl (cellTab _ rfl) (by omega) _ (e1 _) ?_; kernel_rfl; clear tk_r4))
      go_ret2
      exact ⟨ret_num (by rw [Hr.out]) (by rw [Hr.out]), hM.below⟩
    · clear hw
      go_enter Tryd.func34, Tryd.ntmps34
      go_wp2_with (first | (have _t := tk_b1; refine wpList_box rfl _ _ rfl _ _ rfl hM ?_; intro b1 W' hb1 hM'; clear hM tk_b1; have hM := hM'; clear hM') | (have _t := tk_b2; refine wpList_box rfl _ _ rfl _ _ rfl hM ?_; intro b2 W' hb2 hM'; clear hM tk_b2; have hM := hM'; clear hM'))
      ((try simp only [Act.put, List.setIfInBounds_toArray, List.set_cons_succ, List.set_cons_zero]); refine region_head_mem (m := 4) (by kernel_rfl) (by kernel_rfl) hM ?_; clear hM; simp only [List.take_succ_cons, List.take_zero, List.drop_succ_cons, List.drop_zero]; (repeat (first | go_big_quiet_skip | (go_big_quiet_want; first | (refine quiet_get _ _ rfl _ _ rfl 1 rfl (rowTab _ _ rfl) (by omega) ?_; (simp only [Act.put, List.setIfInBounds_toArray, List.set_cons_succ, List.set_cons_zero]); go_big_quiet_on) | (refine quiet_get _ _ rfl _ _ rfl 0 rfl (rowTab _ _ rfl) (by omega) ?_; (simp only [Act.put, List.setIfInBounds_toArray, List.set_cons_succ, List.set_cons_zero]); go_big_quiet_on) | (refine quiet_call ?_; apply Exists.intro; apply Exists.intro; apply Exists.intro; refine ⟨fun W => ?_, fun W hM => ?_, ?_⟩; (go_simp; exact ⟨rfl, rfl⟩); (with_reducible exact Cg.out W (HE.out.below hM.below)); (simp only [Act.put, List.setIfInBounds_toArray, List.set_cons_succ, List.set_cons_zero]); go_big_quiet_on) | (refine quiet_call ?_; apply Exists.intro; apply Exists.intro; apply Exists.intro; refine ⟨fun W => ?_, fun W hM => ?_, ?_⟩; (go_simp; exact ⟨rfl, rfl⟩); (with_reducible exact Ch.out W (HE.out.below hM.below)); (simp only [Act.put, List.setIfInBounds_toArray, List.set_cons_succ, List.set_cons_zero]); go_big_quiet_on)))); (with_reducible refine wpQuiet_nil ?_); intro W' hM)
      have tk_l2 : True := trivial; have tk_j2 : True := trivial; have tk_r1 : True := trivial; have tk_r2 : True := trivial; have tk_r3 : True := trivial; have tk_r4 : True := trivial
      go_wp2_with (first | (have _t := tk_l2; refine wpList_lit2 rfl _ _ _ _ rfl (errO (a 0) false) (errO (a 0) false) rfl rfl (errO_one _ _) (errO_one _ _) _ errs_under err_info2 hM ?_; intro bn W' hbn hM'; clear hM tk_l2; have hM := hM'; clear hM') | (have _t := tk_j2; go_at_call 65; refine (join_none (a 0) (es2 false false) _ 2 2 (by omega) cnt2_no _ ((hM.ats 0 _ _ _ rfl).congr (lit2_errE _ _ _))).mono ?_; rintro e W' ⟨rfl, hb'⟩; have hM' := hM.call hb'; clear hM hb' tk_j2; have hM := hM'.drop; clear hM') | (have _t := tk_r1; refine wpList_get1 rfl _ _ rfl _ _ rfl hM 1 rfl (cellTab _ rfl) (by omega) _ (e0 _) ?_; clear tk_r1) | (have _t := tk_r2; refine wpList_get1 rfl _ _ rfl _ _ rfl hM 0 rfl (cellTab _ rfl) (by omega) _ (e0 _) ?_; clear tk_r2))
      go_ret2
      exact ⟨ret_num (by rw [Hr.out]) (by rw [Hr.out]), hM.below⟩

set_option maxRecDepth 100000 in
set_option maxHeartbeats 4000000 in
theorem specBalanceOf_any (g : Nat → Int) (hg : Fits g) (h : Nat → Int) (hh : Fits h) (r s t : Int) (w : World) :
    Calls Tryd.prog 33 #[.agg (arr 122 (pas g)), .agg (arr 122 (pas h)), .int .i64 r, .int .i64 s, .int .i64 t] w fun e w' => e = .returned (numR (balR g h r s t).1 (balR g h r s t).2) ∧ Below w.heap.size w w' := by
  have hM := Mem.nil w
  have e0 : ∀ c : Nat → Int, pas c 0 = .int .i8 (c 0) := fun _ => rfl
  have e1 : ∀ c : Nat → Int, pas c 1 = .int .i8 (c 1) := fun _ => rfl
  have tk_b1 : True := trivial; have tk_b2 : True := trivial; have tk_r1 : True := trivial; have tk_r2 : True := trivial; have tk_r3 : True := trivial; have tk_r4 : True := trivial
  cases h1 : okB g
  · have Hr := Lib.hid (bal_no (g := g) (h := h) (r := r) (s := s) (t := t) (by rw [h1]; rfl))
    have H1 := Lib.hid h1
    clear h1
    go_enter Tryd.func33, Tryd.ntmps33
    go_wp2_with (first | (have _t := tk_b1; refine wpList_box rfl _ _ rfl _ _ rfl hM ?_; intro b1 W' hb1 hM'; clear hM tk_b1; have hM := hM'; clear hM') | (have _t := tk_b2; refine wpList_box rfl _ _ rfl _ _ rfl hM ?_; intro b2 W' hb2 hM'; clear hM tk_b2; have hM := hM'; clear hM') | (go_at_call 70; (with_reducible refine (l01Ok_any g hg b1 _ (hM.ats 1 _ _ _ rfl)).mono ?_); rintro e W' ⟨rfl, hb'⟩; rw [H1.out]; have hM' := hM.call hb'; clear hM hb'; have hM := hM'; clear hM'))
    go_ret2
    exact ⟨ret_num (by rw [Hr.out]) (by rw [Hr.out]), hM.below⟩
  cases h2 : okB h
  · have Hr := Lib.hid (bal_no (g := g) (h := h) (r := r) (s := s) (t := t) (by rw [h1, h2]; rfl))
    have H1 := Lib.hid h1
    have H2 := Lib.hid h2
    clear h1 h2
    go_enter Tryd.func33, Tryd.ntmps33
    go_wp2_with (first | (have _t := tk_b1; refine wpList_box rfl _ _ rfl _ _ rfl hM ?_; intro b1 W' hb1 hM'; clear hM tk_b1; have hM := hM'; clear hM') | (have _t := tk_b2; refine wpList_box rfl _ _ rfl _ _ rfl hM ?_; intro b2 W' hb2 hM'; clear hM tk_b2; have hM := hM'; clear hM') | (go_at_call 70; (with_reducible refine (l01Ok_any g hg b1 _ (hM.ats 1 _ _ _ rfl)).mono ?_); rintro e W' ⟨rfl, hb'⟩; rw [H1.out]; have hM' := hM.call hb'; clear hM hb'; have hM := hM'; clear hM') | (go_at_call 70; (with_reducible refine (l01Ok_any h hh b2 _ (hM.ats 0 _ _ _ rfl)).mono ?_); rintro e W' ⟨rfl, hb'⟩; rw [H2.out]; have hM' := hM.call hb'; clear hM hb'; have hM := hM'; clear hM'))
    go_ret2
    exact ⟨ret_num (by rw [Hr.out]) (by rw [Hr.out]), hM.below⟩
  have ho : (okB g && okB h) = true := by rw [h1, h2]; rfl
  have Sg := Lib.hid (grassS_in h1)
  have Sh := Lib.hid (grassS_in h2)
  have H1 := Lib.hid h1
  have H2 := Lib.hid h2
  clear h1 h2
  by_cases hw0 : g 0 = h 0
  case neg =>
    have Hr := Lib.hid (bal_other (r := r) (s := s) (t := t) ho (fun e => hw0 e.1))
    go_enter Tryd.func33, Tryd.ntmps33
    go_wp2_with (first | (have _t := tk_b1; refine wpList_box rfl _ _ rfl _ _ rfl hM ?_; intro b1 W' hb1 hM'; clear hM tk_b1; have hM := hM'; clear hM') | (have _t := tk_b2; refine wpList_box rfl _ _ rfl _ _ rfl hM ?_; intro b2 W' hb2 hM'; clear hM tk_b2; have hM := hM'; clear hM') | (go_at_call 70; (with_reducible refine (l01Ok_any g hg b1 _ (hM.ats 1 _ _ _ rfl)).mono ?_); rintro e W' ⟨rfl, hb'⟩; rw [H1.out]; have hM' := hM.call hb'; clear hM hb'; have hM := hM'; clear hM') | (go_at_call 70; (with_reducible refine (l01Ok_any h hh b2 _ (hM.ats 0 _ _ _ rfl)).mono ?_); rintro e W' ⟨rfl, hb'⟩; rw [H2.out]; have hM' := hM.call hb'; clear hM hb'; have hM := hM'; clear hM') | (have _t := tk_r1; refine wpList_get1 rfl _ _ rfl _ _ rfl hM 1 rfl (cellTab _ rfl) (by omega) _ (e0 _) ?_; clear tk_r1) | (have _t := tk_r2; refine wpList_get1 rfl _ _ rfl _ _ rfl hM 0 rfl (cellTab _ rfl) (by omega) _ (e0 _) ?_; clear tk_r2))
    go_ret2
    exact ⟨ret_num (by rw [Hr.out]) (by rw [Hr.out]), hM.below⟩
  by_cases hw1 : g 1 = h 1
  case neg =>
    have Hr := Lib.hid (bal_other (r := r) (s := s) (t := t) ho (fun e => hw1 e.2))
    go_enter Tryd.func33, Tryd.ntmps33
    go_wp2_with (first | (have _t := tk_b1; refine wpList_box rfl _ _ rfl _ _ rfl hM ?_; intro b1 W' hb1 hM'; clear hM tk_b1; have hM := hM'; clear hM') | (have _t := tk_b2; refine wpList_box rfl _ _ rfl _ _ rfl hM ?_; intro b2 W' hb2 hM'; clear hM tk_b2; have hM := hM'; clear hM') | (go_at_call 70; (with_reducible refine (l01Ok_any g hg b1 _ (hM.ats 1 _ _ _ rfl)).mono ?_); rintro e W' ⟨rfl, hb'⟩; rw [H1.out]; have hM' := hM.call hb'; clear hM hb'; have hM := hM'; clear hM') | (go_at_call 70; (with_reducible refine (l01Ok_any h hh b2 _ (hM.ats 0 _ _ _ rfl)).mono ?_); rintro e W' ⟨rfl, hb'⟩; rw [H2.out]; have hM' := hM.call hb'; clear hM hb'; have hM := hM'; clear hM') | (have _t := tk_r1; refine wpList_get1 rfl _ _ rfl _ _ rfl hM 1 rfl (cellTab _ rfl) (by omega) _ (e0 _) ?_; clear tk_r1) | (have _t := tk_r2; refine wpList_get1 rfl _ _ rfl _ _ rfl hM 0 rfl (cellTab _ rfl) (by omega) _ (e0 _) ?_; clear tk_r2) | (have _t := tk_r3; refine wpList_gget1 ?_ _ _ rfl _ _ rfl hM 1 rfl (cellTab _ rfl) (by omega) _ (e1 _) ?_; kernel_rfl; clear tk_r3) | (have _t := tk_r4; refine wpList_gget1 ?_ _ _ rfl _ _ rfl hM 0 rfl (cellTab _ rfl) (by omega) _ (e1 _) ?_; kernel_rfl; clear tk_r4))
    go_ret2
    exact ⟨ret_num (by rw [Hr.out]) (by rw [Hr.out]), hM.below⟩
  cases hi : (inG r && inG s && inG t)
  · have Hr := Lib.hid (bal_out ho ⟨hw0, hw1⟩ hi)
    clear ho
    unfold inG at hi
    cases i1 : inB 0 1000000000 r <;> cases i2 : inB 0 1000000000 s <;> cases i3 : inB 0 1000000000 t
    case true.true.true => rw [i1, i2, i3] at hi; cases hi
    all_goals
      have I1 := Lib.hid i1
      have I2 := Lib.hid i2
      have I3 := Lib.hid i3
      clear hi i1 i2 i3
      go_enter Tryd.func33, Tryd.ntmps33
      go_wp2_with (first | (have _t := tk_b1; refine wpList_box rfl _ _ rfl _ _ rfl hM ?_; intro b1 W' hb1 hM'; clear hM tk_b1; have hM := hM'; clear hM') | (have _t := tk_b2; refine wpList_box rfl _ _ rfl _ _ rfl hM ?_; intro b2 W' hb2 hM'; clear hM tk_b2; have hM := hM'; clear hM') | (go_at_call 70; (with_reducible refine (l01Ok_any g hg b1 _ (hM.ats 1 _ _ _ rfl)).mono ?_); rintro e W' ⟨rfl, hb'⟩; rw [H1.out]; have hM' := hM.call hb'; clear hM hb'; have hM := hM'; clear hM') | (go_at_call 70; (with_reducible refine (l01Ok_any h hh b2 _ (hM.ats 0 _ _ _ rfl)).mono ?_); rintro e W' ⟨rfl, hb'⟩; rw [H2.out]; have hM' := hM.call hb'; clear hM hb'; have hM := hM'; clear hM') | (have _t := tk_r1; refine wpList_get1 rfl _ _ rfl _ _ rfl hM 1 rfl (cellTab _ rfl) (by omega) _ (e0 _) ?_; clear tk_r1) | (have _t := tk_r2; refine wpList_get1 rfl _ _ rfl _ _ rfl hM 0 rfl (cellTab _ rfl) (by omega) _ (e0 _) ?_; clear tk_r2) | (have _t := tk_r3; refine wpList_gget1 ?_ _ _ rfl _ _ rfl hM 1 rfl (cellTab _ rfl) (by omega) _ (e1 _) ?_; kernel_rfl; clear tk_r3) | (have _t := tk_r4; refine wpList_gget1 ?_ _ _ rfl _ _ rfl hM 0 rfl (cellTab _ rfl) (by omega) _ (e1 _) ?_; kernel_rfl; clear tk_r4) | (go_at_call 46; (with_reducible refine (l00In_any r _ _ _).mono ?_); rintro e W' ⟨rfl, hb'⟩; rw [I1.out]; have hM' := hM.call hb'; clear hM hb'; have hM := hM'; clear hM') | (go_at_call 46; (with_reducible refine (l00In_any s _ _ _).mono ?_); rintro e W' ⟨rfl, hb'⟩; rw [I2.out]; have hM' := hM.call hb'; clear hM hb'; have hM := hM'; clear hM') | (go_at_call 46; (with_reducible refine (l00In_any t _ _ _).mono ?_); rintro e W' ⟨rfl, hb'⟩; rw [I3.out]; have hM' := hM.call hb'; clear hM hb'; have hM := hM'; clear hM'))
      go_ret2
      exact ⟨ret_num (by rw [Hr.out]) (by rw [Hr.out]), hM.below⟩
  · have Hr := Lib.hid (bal_ok ho ⟨hw0, hw1⟩ hi)
    have hi' := hi
    rw [Bool.and_eq_true, Bool.and_eq_true] at hi'
    have I1 : Hid (inB 0 1000000000 r = true) := Lib.hid hi'.1.1
    have I2 : Hid (inB 0 1000000000 s = true) := Lib.hid hi'.1.2
    have I3 : Hid (inB 0 1000000000 t = true) := Lib.hid hi'.2
    have B1 := inB_true I1.out
    have B2 := inB_true I2.out
    have B3 := inB_true I3.out
    have s1 := Sg.out
    have s2 := Sh.out
    have c1 : IntKind.i64.wrap (grassS g + r) = grassS g + r := IntWalk.i64_in _ (by omega)
    have c2 : IntKind.i64.wrap (grassS g + r - s) = grassS g + r - s := IntWalk.i64_in _ (by omega)
    have c3 : IntKind.i64.wrap (grassS g + r - s - t) = grassS g + r - s - t := IntWalk.i64_in _ (by omega)
    have c4 : IntKind.i64.wrap (grassS h - (grassS g + r - s - t)) = grassS h - (grassS g + r - s - t) := IntWalk.i64_in _ (by omega)
    have Qg : ∀ b W, At W b 122 (pas g) → Calls Tryd.prog 71 #[.pointer (some ⟨b, 0, none⟩)] W fun e w' => e = .returned (.int .i64 (grassS g)) ∧ Below W.heap.size W w' := fun b W hA => l01Sum_any g hg (fun k hk => (ok_grass H1.out k hk).1) b W hA
    have Qh : ∀ b W, At W b 122 (pas h) → Calls Tryd.prog 71 #[.pointer (some ⟨b, 0, none⟩)] W fun e w' => e = .returned (.int .i64 (grassS h)) ∧ Below W.heap.size W w' := fun b W hA => l01Sum_any h hh (fun k hk => (ok_grass H2.out k hk).1) b W hA
    have QG := Lib.hid Qg
    have QH := Lib.hid Qh
    clear ho hi hi' B1 B2 B3 s1 s2 Qg Qh
    generalize grassS g = x at *
    generalize grassS h = y at *
    have tk_s1 : True := trivial; have tk_s2 : True := trivial
    go_enter Tryd.func33, Tryd.ntmps33
    go_wp2_with (first | (have _t := tk_b1; refine wpList_box rfl _ _ rfl _ _ rfl hM ?_; intro b1 W' hb1 hM'; clear hM tk_b1; have hM := hM'; clear hM') | (have _t := tk_b2; refine wpList_box rfl _ _ rfl _ _ rfl hM ?_; intro b2 W' hb2 hM'; clear hM tk_b2; have hM := hM'; clear hM') | (go_at_call 70; (with_reducible refine (l01Ok_any g hg b1 _ (hM.ats 1 _ _ _ rfl)).mono ?_); rintro e W' ⟨rfl, hb'⟩; rw [H1.out]; have hM' := hM.call hb'; clear hM hb'; have hM := hM'; clear hM') | (go_at_call 70; (with_reducible refine (l01Ok_any h hh b2 _ (hM.ats 0 _ _ _ rfl)).mono ?_); rintro e W' ⟨rfl, hb'⟩; rw [H2.out]; have hM' := hM.call hb'; clear hM hb'; have hM := hM'; clear hM') | (have _t := tk_r1; refine wpList_get1 rfl _ _ rfl _ _ rfl hM 1 rfl (cellTab _ rfl) (by omega) _ (e0 _) ?_; clear tk_r1) | (have _t := tk_r2; refine wpList_get1 rfl _ _ rfl _ _ rfl hM 0 rfl (cellTab _ rfl) (by omega) _ (e0 _) ?_; clear tk_r2) | (have _t := tk_r3; refine wpList_gget1 ?_ _ _ rfl _ _ rfl hM 1 rfl (cellTab _ rfl) (by omega) _ (e1 _) ?_; kernel_rfl; clear tk_r3) | (have _t := tk_r4; refine wpList_gget1 ?_ _ _ rfl _ _ rfl hM 0 rfl (cellTab _ rfl) (by omega) _ (e1 _) ?_; kernel_rfl; clear tk_r4) | (go_at_call 46; (with_reducible refine (l00In_any r _ _ _).mono ?_); rintro e W' ⟨rfl, hb'⟩; rw [I1.out]; have hM' := hM.call hb'; clear hM hb'; have hM := hM'; clear hM') | (go_at_call 46; (with_reducible refine (l00In_any s _ _ _).mono ?_); rintro e W' ⟨rfl, hb'⟩; rw [I2.out]; have hM' := hM.call hb'; clear hM hb'; have hM := hM'; clear hM') | (go_at_call 46; (with_reducible refine (l00In_any t _ _ _).mono ?_); rintro e W' ⟨rfl, hb'⟩; rw [I3.out]; have hM' := hM.call hb'; clear hM hb'; have hM := hM'; clear hM') | (have _t := tk_s1; (go_at_call 71; refine (QH.out b2 _ (hM.ats 0 _ _ _ rfl)).mono ?_; rintro e W' ⟨rfl, hb'⟩; have hM' := hM.call hb'; clear hM hb'; have hM := hM'; clear hM'); clear tk_s1) | (have _t := tk_s2; (go_at_call 71; refine (QG.out b1 _ (hM.ats 1 _ _ _ rfl)).mono ?_; rintro e W' ⟨rfl, hb'⟩; have hM' := hM.call hb'; clear hM hb'; have hM := hM'; clear hM'); clear tk_s2))
    go_ret2
    exact ⟨ret_num (by rw [Hr.out]) (by rw [Hr.out]), hM.below⟩

set_option maxRecDepth 100000 in
set_option maxHeartbeats 1000000 in
theorem lawBalanceOf_any {a : Nat → Addr} (g : Nat → Int) (hg : Fits g) (h : Nat → Int) (hh : Fits h) (r s t : Int) (w : World) (hE : Errs a w) :
    Calls Tryd.prog 9 #[.agg (arr 122 (pas g)), .agg (arr 122 (pas h)), .int .i64 r, .int .i64 s, .int .i64 t] w fun e w' => e = .returned (.bool true) ∧ Below w.heap.size w w' := by
  have hM := Mem.nil w
  have HE := Lib.hid hE
  have hS := fun W => specBalanceOf_any g hg h hh r s t W
  have hI := fun W hE => implBalanceOf_any (a := a) g hg h hh r s t W hE
  generalize balR g h r s t = R at hS hI
  obtain ⟨u, v⟩ := R
  have HS := Lib.hid hS
  have HI := Lib.hid hI
  clear hE hS hI
  have tk_b1 : True := trivial; have tk_b2 : True := trivial
  go_enter Tryd.func9, Tryd.ntmps9
  go_wp2_with (first | (have _t := tk_b1; refine wpList_box rfl _ _ rfl _ _ rfl hM ?_; intro b1 W' hb1 hM'; clear hM tk_b1; have hM := hM'; clear hM') | (have _t := tk_b2; refine wpList_box rfl _ _ rfl _ _ rfl hM ?_; intro b2 W' hb2 hM'; clear hM tk_b2; have hM := hM'; clear hM'))
  ((try simp only [Act.put, List.setIfInBounds_toArray, List.set_cons_succ, List.set_cons_zero]); refine wp_region_mem (by kernel_rfl) (by kernel_rfl) hM ?_; clear hM; (repeat (first | go_big_quiet_skip | (go_big_quiet_want; first | (refine quiet_get _ _ rfl _ _ rfl 1 rfl (rowTab _ _ rfl) (by omega) ?_; (simp only [Act.put, List.setIfInBounds_toArray, List.set_cons_succ, List.set_cons_zero]); go_big_quiet_on) | (refine quiet_get _ _ rfl _ _ rfl 0 rfl (rowTab _ _ rfl) (by omega) ?_; (simp only [Act.put, List.setIfInBounds_toArray, List.set_cons_succ, List.set_cons_zero]); go_big_quiet_on) | (refine quiet_call ?_; apply Exists.intro; apply Exists.intro; apply Exists.intro; refine ⟨fun W => ?_, fun W hM => ?_, ?_⟩; (go_simp; exact ⟨rfl, rfl⟩); (with_reducible exact toPasture_pas g W); (simp only [Act.put, List.setIfInBounds_toArray, List.set_cons_succ, List.set_cons_zero]); go_big_quiet_on) | (refine quiet_call ?_; apply Exists.intro; apply Exists.intro; apply Exists.intro; refine ⟨fun W => ?_, fun W hM => ?_, ?_⟩; (go_simp; exact ⟨rfl, rfl⟩); (with_reducible exact toPasture_pas h W); (simp only [Act.put, List.setIfInBounds_toArray, List.set_cons_succ, List.set_cons_zero]); go_big_quiet_on) | (refine quiet_call ?_; apply Exists.intro; apply Exists.intro; apply Exists.intro; refine ⟨fun W => ?_, fun W hM => ?_, ?_⟩; (go_simp; exact ⟨rfl, rfl⟩); (with_reducible exact HS.out W); (simp only [numR_eq]); (simp only [Act.put, List.setIfInBounds_toArray, List.set_cons_succ, List.set_cons_zero]); go_big_quiet_on) | (refine quiet_val ?_; apply Exists.intro; refine ⟨fun W => ?_, ?_⟩; (go_simp; rfl); (simp only [Act.put, List.setIfInBounds_toArray, List.set_cons_succ, List.set_cons_zero]); go_big_quiet_on)))); (with_reducible refine wpQuiet_nil ?_); intro W' hM)
  go_wp2
  ((try simp only [Act.put, List.setIfInBounds_toArray, List.set_cons_succ, List.set_cons_zero]); refine wp_region_mem (by kernel_rfl) (by kernel_rfl) hM ?_; clear hM; (repeat (first | go_big_quiet_skip | (go_big_quiet_want; first | (refine quiet_get _ _ rfl _ _ rfl 1 rfl (rowTab _ _ rfl) (by omega) ?_; (simp only [Act.put, List.setIfInBounds_toArray, List.set_cons_succ, List.set_cons_zero]); go_big_quiet_on) | (refine quiet_get _ _ rfl _ _ rfl 0 rfl (rowTab _ _ rfl) (by omega) ?_; (simp only [Act.put, List.setIfInBounds_toArray, List.set_cons_succ, List.set_cons_zero]); go_big_quiet_on) | (refine quiet_call ?_; apply Exists.intro; apply Exists.intro; apply Exists.intro; refine ⟨fun W => ?_, fun W hM => ?_, ?_⟩; (go_simp; exact ⟨rfl, rfl⟩); (with_reducible exact toPasture_pas g W); (simp only [Act.put, List.setIfInBounds_toArray, List.set_cons_succ, List.set_cons_zero]); go_big_quiet_on) | (refine quiet_call ?_; apply Exists.intro; apply Exists.intro; apply Exists.intro; refine ⟨fun W => ?_, fun W hM => ?_, ?_⟩; (go_simp; exact ⟨rfl, rfl⟩); (with_reducible exact toPasture_pas h W); (simp only [Act.put, List.setIfInBounds_toArray, List.set_cons_succ, List.set_cons_zero]); go_big_quiet_on) | (refine quiet_call ?_; apply Exists.intro; apply Exists.intro; apply Exists.intro; refine ⟨fun W => ?_, fun W hM => ?_, ?_⟩; (go_simp; exact ⟨rfl, rfl⟩); (with_reducible exact HI.out W (HE.out.below hM.below)); (simp only [numR_eq]); (simp only [Act.put, List.setIfInBounds_toArray, List.set_cons_succ, List.set_cons_zero]); go_big_quiet_on) | (refine quiet_val ?_; apply Exists.intro; refine ⟨fun W => ?_, ?_⟩; (go_simp; rfl); (simp only [Act.put, List.setIfInBounds_toArray, List.set_cons_succ, List.set_cons_zero]); go_big_quiet_on)))); (with_reducible refine wpQuiet_nil ?_); intro W' hM)
  go_wp2
  go_ret
  exact ⟨rfl, hM.below⟩
end Go.Proofs.YtjfmhnbbdkejeaaDoor
