/-
  Several texts in one: JoinR, JoinS.
-/
import Derived.Test.YthodkbmenndnoaaDoorP13
import Derived.Test.YthodkbmenndnoaaDoorP6
import Derived.Test.YthodkbmenndnoaaDoorP7
import Derived.Test.YthodkbmenndnoaaDoorP15
import Derived.Test.YthodkbmenndnoaaDoorP4
/-
  spec.JoinHerds: the regions that append, by theorems of their own.
-/
namespace Go.Proofs.YthodkbmenndnoaaDoor
open Go Go.RowKit Go.BigFrame

section
variable {P : Program} {o : Oper} {a : Act} {w : Base} {L x : Blocks} {K : Act → (World → Prop) → Prop}
/-- A read out of a block that the region writes later. -/
theorem step_getx (ty : TypeId) (y : Operand) (ho : o.op = .load ty y) (b off : Nat) (hx : a.eval y = .pointer (some ⟨b, off, none⟩)) (i : Nat) {n : Nat} {f : Nat → Value} (hi : x[i]? = some (b, n, f)) (hT : CellT P ty) (hle : off < n) (v : Value) (hv : f off = v)
    (h : K (a.put o.dst v) (Mem w (x ++ L))) : stepT P (Mem w L) o a (Mem w (x ++ L)) K := by
  have hil : i < x.length := (List.getElem?_eq_some_iff.1 hi).1
  have hi' : (x ++ L)[i]? = some (b, n, f) := by rw [List.getElem?_append_left hil]; exact hi
  intro W hM
  have hc := (hM.ats i _ _ _ hi').cell hle
  rw [hv] at hc
  refine .inl ⟨_, _, W, .inl ?_, kept_mem w L x, hM, h⟩
  unfold execOp
  simp only [ho, hx, Instr.loadAt, Instr.sureAddr, Sem.run_bind, Sem.run_pure, Result.andThen_ok, run_load_cell hT hc]
theorem step_lit1 (t e : TypeId) (y : Operand) (ho : o.op = .buildSlice t 1 #[(0, y)]) (u : Value) (hx : a.eval y = u) (h0 : u.oneCell' = true) (z : Value)
    (hu : P.underlying t = some (.slice e)) (hz : (P.info? e).map (fun i => (i.size, i.zero)) = some (1, some z))
    (h : ∀ b, w.B ≤ b → K (a.put o.dst (.slice (some ⟨b, 0, none⟩) 1 1)) (Mem w (((b, 1, fun _ => u) :: x) ++ L))) : stepT P (Mem w L) o a (Mem w (x ++ L)) K := by
  obtain ⟨ie, hie, hq⟩ := Option.map_eq_some_iff.1 hz
  simp only [Prod.mk.injEq] at hq
  refine fun W hW => .inl ⟨_, _, _, .inl ?_, kept_mem w L ((W.heap.size, 1, fun _ => u) :: x), hW.alloc e 1 _, h _ hW.size⟩
  have hf : Instr.fill (fun i => some (i * ie.size, ie.size)) ((Array.range (1 * ie.size)).map (z.cells[· % z.cells.size]!)) (Array.map (fun x => match x with | (i, x) => (i, a.eval x)) #[(0, y)]).toList = some (arr 1 fun _ => u) := by
    rw [hq.1]
    rw [show (Array.map (fun x => match x with | (i, x) => (i, a.eval x)) #[(0, y)]).toList = [(0, u)] by simp [hx]]
    rw [fill_cell h0 (off := 0) rfl (by simp), Instr.fill]
    refine congrArg some (arr_ext (by simp) (fun k hk => ?_))
    have : k = 0 := by omega
    subst this
    simp
  unfold execOp
  simp only [ho, Sem.run_bind, run_buildSlice W t e 1 _ (arr 1 fun _ => u) ie z hu hie hq.2 (by rw [hq.1]; omega) (by rw [hq.1]; omega) hf, Result.andThen_ok]
  rfl
end
noncomputable def join2 : Code := cX (cR (cL (cR (cR (cR (cR (cR (Tryd.f36.body.getD .skip))))))))

set_option maxRecDepth 100000 in
set_option maxHeartbeats 4000000 in
theorem join14_any (sk : ByteArray) (b0 : Base) (L : Blocks) (x2 o k n2 c2 f1 N2 b m n : Nat) (F G2 hv R : Nat → Value) (A B C : Value) (hk : k < n2) (q1 : hv 0 = .slice (some ⟨f1, 0, none⟩) n2 c2) (hN2 : n2 ≤ N2) (s1 : G2 k = .string sk) (hb : b0.B ≤ b) (ho : b0.B ≤ o) (hn : n ≤ 1048576) (hnm : n ≤ m) (hF : ∀ j, j < n * 1 → F j = R j) (hV : ∀ j, j < 1 → Value.string sk = R (n * 1 + j))
    (W0 : World) (hW0 : ∀ W, b0.G W → Below W0.heap.size W0 W) (HE1 : At W0 f1 N2 G2)
    (t0 t1 t2 t4 t5 t6 t9 t10 t11 t12 t13 t14 t15 t16 t17 t18 t19 t20 t21 t22 t23 t24 t25 t26 t27 t28 t29 t30 t31 t32 t33 t34 t35 t36 t37 t38 t39 t40 t41 t42 t43 t44 t45 t46 t47 t48 t49 t50 t51 t52 t53 t54 t55 t56 t57 t58 t59 t60 t61 t62 t63 t64 t65 t66 t67 t68 t69 t70 t71 t72 t73 t74 t75 t76 t77 t78 t79 t80 t81 t82 : Value) (W : World) (hM0 : Mem b0 ((b, m * 1, F) :: (o, 3, h3 (.slice (some ⟨b, 0, none⟩) n m) B C) :: (x2, 3, hv) :: L) W) :
    (cL (cX (cL (cR (cX join2))))).wp Tryd.prog (fun e a' w' => e = .normal ∧ ∃ v47 v48 v49 v50 v51 v52 v53 v54 v55 v56 g i G, a' = ⟨(List.toArray (t0 :: t1 :: t2 :: .pointer (some ⟨x2, 0, none⟩) :: t4 :: t5 :: t6 :: .pointer (some ⟨o, 0, none⟩) :: .int .i64 (k : Int) :: t9 :: t10 :: t11 :: t12 :: t13 :: t14 :: t15 :: t16 :: t17 :: t18 :: t19 :: t20 :: t21 :: t22 :: t23 :: t24 :: t25 :: t26 :: t27 :: t28 :: t29 :: t30 :: t31 :: t32 :: t33 :: t34 :: t35 :: t36 :: t37 :: t38 :: t39 :: t40 :: t41 :: t42 :: t43 :: t44 :: t45 :: t46 :: v47 :: v48 :: v49 :: v50 :: v51 :: v52 :: v53 :: v54 :: v55 :: v56 :: t57 :: t58 :: t59 :: t60 :: t61 :: t62 :: t63 :: t64 :: t65 :: t66 :: t67 :: t68 :: t69 :: t70 :: t71 :: t72 :: t73 :: t74 :: t75 :: t76 :: t77 :: t78 :: t79 :: t80 :: t81 :: t82 :: [])), []⟩ ∧ b0.B ≤ g ∧ n + 1 ≤ i ∧ (∀ j, j < (n + 1) * 1 → G j = R j) ∧ Mem b0 ((g, i * 1, G) :: (o, 3, h3 (.slice (some ⟨g, 0, none⟩) (n + 1) i) B C) :: (x2, 3, hv) :: L) w') ⟨(List.toArray (t0 :: t1 :: t2 :: .pointer (some ⟨x2, 0, none⟩) :: t4 :: t5 :: t6 :: .pointer (some ⟨o, 0, none⟩) :: .int .i64 (k : Int) :: t9 :: t10 :: t11 :: t12 :: t13 :: t14 :: t15 :: t16 :: t17 :: t18 :: t19 :: t20 :: t21 :: t22 :: t23 :: t24 :: t25 :: t26 :: t27 :: t28 :: t29 :: t30 :: t31 :: t32 :: t33 :: t34 :: t35 :: t36 :: t37 :: t38 :: t39 :: t40 :: t41 :: t42 :: t43 :: t44 :: t45 :: t46 :: t47 :: t48 :: t49 :: t50 :: t51 :: t52 :: t53 :: t54 :: t55 :: t56 :: t57 :: t58 :: t59 :: t60 :: t61 :: t62 :: t63 :: t64 :: t65 :: t66 :: t67 :: t68 :: t69 :: t70 :: t71 :: t72 :: t73 :: t74 :: t75 :: t76 :: t77 :: t78 :: t79 :: t80 :: t81 :: t82 :: [])), []⟩ W := by
  have hM := hM0
  have HF := Lib.hid hF
  have HV := Lib.hid hV
  have HE := Lib.hid HE1
  have HW0 := Lib.hid hW0
  have l2 : (k : Int) < n2 := by omega
  have hkN : k < N2 := by omega
  have hcell : Hid (∀ W, Mem b0 ((x2, 3, hv) :: L) W → W.cell? ⟨f1, k, none⟩ = some (.string sk)) := Lib.hid (fun W h => ((HE.out.below (HW0.out W h.good) HE.out.lt).cell hkN).trans (congrArg some s1))
  clear hM0 hF hV HE1 hW0
  conv => arg 2; whnf
  ((try simp only [Act.put, List.setIfInBounds_toArray, List.set_cons_succ, List.set_cons_zero]); refine region_readsX [0, 2, 3, 4, 5, 6] #[true, false, true, true, true, true, true, false, false, false, false] 5 [(b, m * 1, F), (o, 3, h3 (.slice (some ⟨b, 0, none⟩) n m) B C)] (by kernel_rfl) (by kernel_rfl) (by kernel_rfl) hM ?_; clear hM; (repeat (refine qs_plain rfl rfl ?_; first | (refine b_get1 _ _ rfl _ _ rfl 0 rfl (cellTab _ rfl) (by omega) _ (q1) ?_; (simp only [Act.put, List.setIfInBounds_toArray, List.set_cons_succ, List.set_cons_zero])) | (refine b_old _ _ rfl _ _ rfl (cellTab _ rfl) (.string sk) (fun W hM => hcell.out W hM) ?_; (simp only [Act.put, List.setIfInBounds_toArray, List.set_cons_succ, List.set_cons_zero])) | (refine b_val ?_; apply Exists.intro; refine ⟨fun W => ?_, ?_⟩; (go_simp; (try simp only [l2, if_true]); rfl); (simp only [Act.put, List.setIfInBounds_toArray, List.set_cons_succ, List.set_cons_zero])))); (with_reducible refine qs_nil ?_))
  (refine mix_two (i := 1) (j := 7) (by kernel_rfl) rfl rfl (by kernel_rfl) (by kernel_rfl) rfl rfl ?_ ?_)
  · (refine step_getx _ _ rfl _ _ rfl 1 rfl (cellTab _ rfl) (by omega) (.slice (some ⟨b, 0, none⟩) n m) rfl ?_; (simp only [Act.put, List.setIfInBounds_toArray, List.set_cons_succ, List.set_cons_zero]))
    (refine mix_one (i := 7) (by kernel_rfl) rfl (by kernel_rfl) rfl ?_)
    (refine step_lit1 _ _ _ rfl (.string sk) rfl rfl _ str_under str_infoR ?_; intro l hl; (simp only [Act.put, List.setIfInBounds_toArray, List.set_cons_succ, List.set_cons_zero]))
    (refine mix_one (i := 8) (by kernel_rfl) rfl (by kernel_rfl) rfl ?_)
    (refine step_push1 _ _ _ rfl _ 1 _ _ str_under infoStringS rfl (by omega) _ _ _ _ rfl hb hnm hn _ _ rfl cst_one R HF.out HV.out ?_; intro g i G hg hi hG; (simp only [Act.put, List.setIfInBounds_toArray, List.set_cons_succ, List.set_cons_zero]))
    (refine mix_one (i := 9) (by kernel_rfl) rfl (by kernel_rfl) rfl ?_)
    (refine step_val ?_; apply Exists.intro; refine ⟨fun W => ?_, ?_⟩; (go_simp; rfl); (simp only [Act.put, List.setIfInBounds_toArray, List.set_cons_succ, List.set_cons_zero]))
    (refine mix_one (i := 10) (by kernel_rfl) rfl (by kernel_rfl) rfl ?_)
    (refine step_set1 _ _ _ rfl _ _ rfl (.slice (some ⟨g, 0, none⟩) (n + 1) i) rfl rfl 1 rfl ho (cellTab _ rfl) (by omega) ?_; simp only [List.set]; (simp only [Act.put, List.setIfInBounds_toArray, List.set_cons_succ, List.set_cons_zero]))
    (refine mix_end (by kernel_rfl) ?_; intro W' hM; simp only [List.cons_append, List.nil_append] at hM)
    have hM2 := hM.re 1 rfl (h3 (.slice (some ⟨g, 0, none⟩) (n + 1) i) B C) (h3_upd.1)
    simp only [List.set_cons_succ, List.set_cons_zero] at hM2
    exact ⟨rfl, _, _, _, _, _, _, _, _, _, _, g, i, G, rfl, hg, hi, hG, hM2⟩
  · (refine step_lit1 _ _ _ rfl (.string sk) rfl rfl _ str_under str_infoR ?_; intro l hl; (simp only [Act.put, List.setIfInBounds_toArray, List.set_cons_succ, List.set_cons_zero]))
    (refine mix_one (i := 1) (by kernel_rfl) rfl (by kernel_rfl) rfl ?_)
    (refine step_getx _ _ rfl _ _ rfl 2 rfl (cellTab _ rfl) (by omega) (.slice (some ⟨b, 0, none⟩) n m) rfl ?_; (simp only [Act.put, List.setIfInBounds_toArray, List.set_cons_succ, List.set_cons_zero]))
    (refine mix_one (i := 8) (by kernel_rfl) rfl (by kernel_rfl) rfl ?_)
    (refine step_push1 _ _ _ rfl _ 1 _ _ str_under infoStringS rfl (by omega) _ _ _ _ rfl hb hnm hn _ _ rfl cst_one R HF.out HV.out ?_; intro g i G hg hi hG; (simp only [Act.put, List.setIfInBounds_toArray, List.set_cons_succ, List.set_cons_zero]))
    (refine mix_one (i := 9) (by kernel_rfl) rfl (by kernel_rfl) rfl ?_)
    (refine step_val ?_; apply Exists.intro; refine ⟨fun W => ?_, ?_⟩; (go_simp; rfl); (simp only [Act.put, List.setIfInBounds_toArray, List.set_cons_succ, List.set_cons_zero]))
    (refine mix_one (i := 10) (by kernel_rfl) rfl (by kernel_rfl) rfl ?_)
    (refine step_set1 _ _ _ rfl _ _ rfl (.slice (some ⟨g, 0, none⟩) (n + 1) i) rfl rfl 1 rfl ho (cellTab _ rfl) (by omega) ?_; simp only [List.set]; (simp only [Act.put, List.setIfInBounds_toArray, List.set_cons_succ, List.set_cons_zero]))
    (refine mix_end (by kernel_rfl) ?_; intro W' hM; simp only [List.cons_append, List.nil_append] at hM)
    have hM2 := hM.re 1 rfl (h3 (.slice (some ⟨g, 0, none⟩) (n + 1) i) B C) (h3_upd.1)
    simp only [List.set_cons_succ, List.set_cons_zero] at hM2
    exact ⟨rfl, _, _, _, _, _, _, _, _, _, _, g, i, G, rfl, hg, hi, hG, hM2⟩

set_option maxRecDepth 100000 in
set_option maxHeartbeats 4000000 in
theorem join15_any (ek : Int) (b0 : Base) (L : Blocks) (x2 o k n2 c2 f1 N2 b m n : Nat) (F G2 hv R : Nat → Value) (A B C : Value) (hk : k < n2) (q1 : hv 1 = .slice (some ⟨f1, 0, none⟩) n2 c2) (hN2 : n2 ≤ N2) (s1 : G2 k = .int .i16 ek) (hb : b0.B ≤ b) (ho : b0.B ≤ o) (hn : n ≤ 1048576) (hnm : n ≤ m) (hF : ∀ j, j < n * 1 → F j = R j) (hV : ∀ j, j < 1 → Value.int .i16 ek = R (n * 1 + j))
    (W0 : World) (hW0 : ∀ W, b0.G W → Below W0.heap.size W0 W) (HE1 : At W0 f1 N2 G2)
    (t0 t1 t2 t4 t5 t6 t9 t10 t11 t12 t13 t14 t15 t16 t17 t18 t19 t20 t21 t22 t23 t24 t25 t26 t27 t28 t29 t30 t31 t32 t33 t34 t35 t36 t37 t38 t39 t40 t41 t42 t43 t44 t45 t46 t47 t48 t49 t50 t51 t52 t53 t54 t55 t56 t57 t58 t59 t60 t61 t62 t63 t64 t65 t66 t67 t68 t69 t70 t71 t72 t73 t74 t75 t76 t77 t78 t79 t80 t81 t82 : Value) (W : World) (hM0 : Mem b0 ((b, m * 1, F) :: (o, 3, h3 A (.slice (some ⟨b, 0, none⟩) n m) C) :: (x2, 3, hv) :: L) W) :
    (cL (cR (cX (cL (cR (cX join2)))))).wp Tryd.prog (fun e a' w' => e = .normal ∧ ∃ v57 v58 v59 v60 v61 v62 v63 v64 v65 v66 g i G, a' = ⟨(List.toArray (t0 :: t1 :: t2 :: .pointer (some ⟨x2, 0, none⟩) :: t4 :: t5 :: t6 :: .pointer (some ⟨o, 0, none⟩) :: .int .i64 (k : Int) :: t9 :: t10 :: t11 :: t12 :: t13 :: t14 :: t15 :: t16 :: t17 :: t18 :: t19 :: t20 :: t21 :: t22 :: t23 :: t24 :: t25 :: t26 :: t27 :: t28 :: t29 :: t30 :: t31 :: t32 :: t33 :: t34 :: t35 :: t36 :: t37 :: t38 :: t39 :: t40 :: t41 :: t42 :: t43 :: t44 :: t45 :: t46 :: t47 :: t48 :: t49 :: t50 :: t51 :: t52 :: t53 :: t54 :: t55 :: t56 :: v57 :: v58 :: v59 :: v60 :: v61 :: v62 :: v63 :: v64 :: v65 :: v66 :: t67 :: t68 :: t69 :: t70 :: t71 :: t72 :: t73 :: t74 :: t75 :: t76 :: t77 :: t78 :: t79 :: t80 :: t81 :: t82 :: [])), []⟩ ∧ b0.B ≤ g ∧ n + 1 ≤ i ∧ (∀ j, j < (n + 1) * 1 → G j = R j) ∧ Mem b0 ((g, i * 1, G) :: (o, 3, h3 A (.slice (some ⟨g, 0, none⟩) (n + 1) i) C) :: (x2, 3, hv) :: L) w') ⟨(List.toArray (t0 :: t1 :: t2 :: .pointer (some ⟨x2, 0, none⟩) :: t4 :: t5 :: t6 :: .pointer (some ⟨o, 0, none⟩) :: .int .i64 (k : Int) :: t9 :: t10 :: t11 :: t12 :: t13 :: t14 :: t15 :: t16 :: t17 :: t18 :: t19 :: t20 :: t21 :: t22 :: t23 :: t24 :: t25 :: t26 :: t27 :: t28 :: t29 :: t30 :: t31 :: t32 :: t33 :: t34 :: t35 :: t36 :: t37 :: t38 :: t39 :: t40 :: t41 :: t42 :: t43 :: t44 :: t45 :: t46 :: t47 :: t48 :: t49 :: t50 :: t51 :: t52 :: t53 :: t54 :: t55 :: t56 :: t57 :: t58 :: t59 :: t60 :: t61 :: t62 :: t63 :: t64 :: t65 :: t66 :: t67 :: t68 :: t69 :: t70 :: t71 :: t72 :: t73 :: t74 :: t75 :: t76 :: t77 :: t78 :: t79 :: t80 :: t81 :: t82 :: [])), []⟩ W := by
  have hM := hM0
  have HF := Lib.hid hF
  have HV := Lib.hid hV
  have HE := Lib.hid HE1
  have HW0 := Lib.hid hW0
  have l2 : (k : Int) < n2 := by omega
  have hkN : k < N2 := by omega
  have hcell : Hid (∀ W, Mem b0 ((x2, 3, hv) :: L) W → W.cell? ⟨f1, k, none⟩ = some (.int .i16 ek)) := Lib.hid (fun W h => ((HE.out.below (HW0.out W h.good) HE.out.lt).cell hkN).trans (congrArg some s1))
  clear hM0 hF hV HE1 hW0
  conv => arg 2; whnf
  ((try simp only [Act.put, List.setIfInBounds_toArray, List.set_cons_succ, List.set_cons_zero]); refine region_readsX [0, 2, 3, 4, 5, 6] #[true, false, true, true, true, true, true, false, false, false, false] 5 [(b, m * 1, F), (o, 3, h3 A (.slice (some ⟨b, 0, none⟩) n m) C)] (by kernel_rfl) (by kernel_rfl) (by kernel_rfl) hM ?_; clear hM; (repeat (refine qs_plain rfl rfl ?_; first | (refine b_get1 _ _ rfl _ _ rfl 0 rfl (cellTab _ rfl) (by omega) _ (q1) ?_; (simp only [Act.put, List.setIfInBounds_toArray, List.set_cons_succ, List.set_cons_zero])) | (refine b_old _ _ rfl _ _ rfl (cellTab _ rfl) (.int .i16 ek) (fun W hM => hcell.out W hM) ?_; (simp only [Act.put, List.setIfInBounds_toArray, List.set_cons_succ, List.set_cons_zero])) | (refine b_val ?_; apply Exists.intro; refine ⟨fun W => ?_, ?_⟩; (go_simp; (try simp only [l2, if_true]); rfl); (simp only [Act.put, List.setIfInBounds_toArray, List.set_cons_succ, List.set_cons_zero])))); (with_reducible refine qs_nil ?_))
  (refine mix_two (i := 1) (j := 7) (by kernel_rfl) rfl rfl (by kernel_rfl) (by kernel_rfl) rfl rfl ?_ ?_)
  · (refine step_getx _ _ rfl _ _ rfl 1 rfl (cellTab _ rfl) (by omega) (.slice (some ⟨b, 0, none⟩) n m) rfl ?_; (simp only [Act.put, List.setIfInBounds_toArray, List.set_cons_succ, List.set_cons_zero]))
    (refine mix_one (i := 7) (by kernel_rfl) rfl (by kernel_rfl) rfl ?_)
    (refine step_lit1 _ _ _ rfl (.int .i16 ek) rfl rfl _ i16_under i16_infoR ?_; intro l hl; (simp only [Act.put, List.setIfInBounds_toArray, List.set_cons_succ, List.set_cons_zero]))
    (refine mix_one (i := 8) (by kernel_rfl) rfl (by kernel_rfl) rfl ?_)
    (refine step_push1 _ _ _ rfl _ 1 _ _ i16_under infoInt16S rfl (by omega) _ _ _ _ rfl hb hnm hn _ _ rfl cst_one R HF.out HV.out ?_; intro g i G hg hi hG; (simp only [Act.put, List.setIfInBounds_toArray, List.set_cons_succ, List.set_cons_zero]))
    (refine mix_one (i := 9) (by kernel_rfl) rfl (by kernel_rfl) rfl ?_)
    (refine step_val ?_; apply Exists.intro; refine ⟨fun W => ?_, ?_⟩; (go_simp; rfl); (simp only [Act.put, List.setIfInBounds_toArray, List.set_cons_succ, List.set_cons_zero]))
    (refine mix_one (i := 10) (by kernel_rfl) rfl (by kernel_rfl) rfl ?_)
    (refine step_set1 _ _ _ rfl _ _ rfl (.slice (some ⟨g, 0, none⟩) (n + 1) i) rfl rfl 1 rfl ho (cellTab _ rfl) (by omega) ?_; simp only [List.set]; (simp only [Act.put, List.setIfInBounds_toArray, List.set_cons_succ, List.set_cons_zero]))
    (refine mix_end (by kernel_rfl) ?_; intro W' hM; simp only [List.cons_append, List.nil_append] at hM)
    have hM2 := hM.re 1 rfl (h3 A (.slice (some ⟨g, 0, none⟩) (n + 1) i) C) (h3_upd.2.1)
    simp only [List.set_cons_succ, List.set_cons_zero] at hM2
    exact ⟨rfl, _, _, _, _, _, _, _, _, _, _, g, i, G, rfl, hg, hi, hG, hM2⟩
  · (refine step_lit1 _ _ _ rfl (.int .i16 ek) rfl rfl _ i16_under i16_infoR ?_; intro l hl; (simp only [Act.put, List.setIfInBounds_toArray, List.set_cons_succ, List.set_cons_zero]))
    (refine mix_one (i := 1) (by kernel_rfl) rfl (by kernel_rfl) rfl ?_)
    (refine step_getx _ _ rfl _ _ rfl 2 rfl (cellTab _ rfl) (by omega) (.slice (some ⟨b, 0, none⟩) n m) rfl ?_; (simp only [Act.put, List.setIfInBounds_toArray, List.set_cons_succ, List.set_cons_zero]))
    (refine mix_one (i := 8) (by kernel_rfl) rfl (by kernel_rfl) rfl ?_)
    (refine step_push1 _ _ _ rfl _ 1 _ _ i16_under infoInt16S rfl (by omega) _ _ _ _ rfl hb hnm hn _ _ rfl cst_one R HF.out HV.out ?_; intro g i G hg hi hG; (simp only [Act.put, List.setIfInBounds_toArray, List.set_cons_succ, List.set_cons_zero]))
    (refine mix_one (i := 9) (by kernel_rfl) rfl (by kernel_rfl) rfl ?_)
    (refine step_val ?_; apply Exists.intro; refine ⟨fun W => ?_, ?_⟩; (go_simp; rfl); (simp only [Act.put, List.setIfInBounds_toArray, List.set_cons_succ, List.set_cons_zero]))
    (refine mix_one (i := 10) (by kernel_rfl) rfl (by kernel_rfl) rfl ?_)
    (refine step_set1 _ _ _ rfl _ _ rfl (.slice (some ⟨g, 0, none⟩) (n + 1) i) rfl rfl 1 rfl ho (cellTab _ rfl) (by omega) ?_; simp only [List.set]; (simp only [Act.put, List.setIfInBounds_toArray, List.set_cons_succ, List.set_cons_zero]))
    (refine mix_end (by kernel_rfl) ?_; intro W' hM; simp only [List.cons_append, List.nil_append] at hM)
    have hM2 := hM.re 1 rfl (h3 A (.slice (some ⟨g, 0, none⟩) (n + 1) i) C) (h3_upd.2.1)
    simp only [List.set_cons_succ, List.set_cons_zero] at hM2
    exact ⟨rfl, _, _, _, _, _, _, _, _, _, _, g, i, G, rfl, hg, hi, hG, hM2⟩

set_option maxRecDepth 100000 in
set_option maxHeartbeats 4000000 in
theorem join16_any (fk : Int) (x1 n1 : Nat) (gv : Nat → Value) (b1 c1 : Nat) (ga : gv 0 = .slice (some ⟨b1, 0, none⟩) n1 c1) (fk2 : Int) (cw : IntKind.u16.wrap (fk * 2 ^ n1) = fk2) (hn16 : n1 ≤ 16) (b0 : Base) (L : Blocks) (x2 o k n2 c2 f1 N2 b m n : Nat) (F G2 hv R : Nat → Value) (A B C : Value) (hk : k < n2) (q1 : hv 2 = .slice (some ⟨f1, 0, none⟩) n2 c2) (hN2 : n2 ≤ N2) (s1 : G2 k = .int .u16 fk) (hb : b0.B ≤ b) (ho : b0.B ≤ o) (hn : n ≤ 1048576) (hnm : n ≤ m) (hF : ∀ j, j < n * 1 → F j = R j) (hV : ∀ j, j < 1 → Value.int .u16 fk2 = R (n * 1 + j))
    (W0 : World) (hW0 : ∀ W, b0.G W → Below W0.heap.size W0 W) (HE1 : At W0 f1 N2 G2)
    (t0 t1 t4 t5 t6 t9 t10 t11 t12 t13 t14 t15 t16 t17 t18 t19 t20 t21 t22 t23 t24 t25 t26 t27 t28 t29 t30 t31 t32 t33 t34 t35 t36 t37 t38 t39 t40 t41 t42 t43 t44 t45 t46 t47 t48 t49 t50 t51 t52 t53 t54 t55 t56 t57 t58 t59 t60 t61 t62 t63 t64 t65 t66 t67 t68 t69 t70 t71 t72 t73 t74 t75 t76 t77 t78 t79 t80 t81 t82 : Value) (W : World) (hM0 : Mem b0 ((b, m * 1, F) :: (o, 3, h3 A B (.slice (some ⟨b, 0, none⟩) n m)) :: (x2, 3, hv) :: (x1, 3, gv) :: L) W) :
    (cR (cR (cX (cL (cR (cX join2)))))).wp Tryd.prog (fun e a' w' => e = .normal ∧ ∃ v67 v68 v69 v70 v71 v72 v73 v74 v75 v76 v77 v78 v79 v80 v81 g i G, a' = ⟨(List.toArray (t0 :: t1 :: .pointer (some ⟨x1, 0, none⟩) :: .pointer (some ⟨x2, 0, none⟩) :: t4 :: t5 :: t6 :: .pointer (some ⟨o, 0, none⟩) :: .int .i64 (k : Int) :: t9 :: t10 :: t11 :: t12 :: t13 :: t14 :: t15 :: t16 :: t17 :: t18 :: t19 :: t20 :: t21 :: t22 :: t23 :: t24 :: t25 :: t26 :: t27 :: t28 :: t29 :: t30 :: t31 :: t32 :: t33 :: t34 :: t35 :: t36 :: t37 :: t38 :: t39 :: t40 :: t41 :: t42 :: t43 :: t44 :: t45 :: t46 :: t47 :: t48 :: t49 :: t50 :: t51 :: t52 :: t53 :: t54 :: t55 :: t56 :: t57 :: t58 :: t59 :: t60 :: t61 :: t62 :: t63 :: t64 :: t65 :: t66 :: v67 :: v68 :: v69 :: v70 :: v71 :: v72 :: v73 :: v74 :: v75 :: v76 :: v77 :: v78 :: v79 :: v80 :: v81 :: t82 :: [])), []⟩ ∧ b0.B ≤ g ∧ n + 1 ≤ i ∧ (∀ j, j < (n + 1) * 1 → G j = R j) ∧ Mem b0 ((g, i * 1, G) :: (o, 3, h3 A B (.slice (some ⟨g, 0, none⟩) (n + 1) i)) :: (x2, 3, hv) :: (x1, 3, gv) :: L) w') ⟨(List.toArray (t0 :: t1 :: .pointer (some ⟨x1, 0, none⟩) :: .pointer (some ⟨x2, 0, none⟩) :: t4 :: t5 :: t6 :: .pointer (some ⟨o, 0, none⟩) :: .int .i64 (k : Int) :: t9 :: t10 :: t11 :: t12 :: t13 :: t14 :: t15 :: t16 :: t17 :: t18 :: t19 :: t20 :: t21 :: t22 :: t23 :: t24 :: t25 :: t26 :: t27 :: t28 :: t29 :: t30 :: t31 :: t32 :: t33 :: t34 :: t35 :: t36 :: t37 :: t38 :: t39 :: t40 :: t41 :: t42 :: t43 :: t44 :: t45 :: t46 :: t47 :: t48 :: t49 :: t50 :: t51 :: t52 :: t53 :: t54 :: t55 :: t56 :: t57 :: t58 :: t59 :: t60 :: t61 :: t62 :: t63 :: t64 :: t65 :: t66 :: t67 :: t68 :: t69 :: t70 :: t71 :: t72 :: t73 :: t74 :: t75 :: t76 :: t77 :: t78 :: t79 :: t80 :: t81 :: t82 :: [])), []⟩ W := by
  have hM := hM0
  have HF := Lib.hid hF
  have HV := Lib.hid hV
  have HE := Lib.hid HE1
  have HW0 := Lib.hid hW0
  have l2 : (k : Int) < n2 := by omega
  have hkN : k < N2 := by omega
  have hcell : Hid (∀ W, Mem b0 ((x2, 3, hv) :: (x1, 3, gv) :: L) W → W.cell? ⟨f1, k, none⟩ = some (.int .u16 fk)) := Lib.hid (fun W h => ((HE.out.below (HW0.out W h.good) HE.out.lt).cell hkN).trans (congrArg some s1))
  have cu : IntKind.u64.wrap (n1 : Int) = n1 := IntWalk.u64_in _ ⟨by omega, by omega⟩
  clear hM0 hF hV HE1 hW0
  conv => arg 2; whnf
  ((try simp only [Act.put, List.setIfInBounds_toArray, List.set_cons_succ, List.set_cons_zero]); refine region_readsX [0, 2, 3, 4, 5, 6, 7, 8, 9, 10, 11] #[true, false, true, true, true, true, true, true, true, true, true, true, false, false, false, false] 5 [(b, m * 1, F), (o, 3, h3 A B (.slice (some ⟨b, 0, none⟩) n m))] (by kernel_rfl) (by kernel_rfl) (by kernel_rfl) hM ?_; clear hM; (repeat (refine qs_plain rfl rfl ?_; first | (refine b_get1 _ _ rfl _ _ rfl 0 rfl (cellTab _ rfl) (by omega) _ (q1) ?_; (simp only [Act.put, List.setIfInBounds_toArray, List.set_cons_succ, List.set_cons_zero])) | (refine b_old _ _ rfl _ _ rfl (cellTab _ rfl) (.int .u16 fk) (fun W hM => hcell.out W hM) ?_; (simp only [Act.put, List.setIfInBounds_toArray, List.set_cons_succ, List.set_cons_zero])) | (refine b_get1 _ _ rfl _ _ rfl 1 rfl (cellTab _ rfl) (by omega) _ (ga) ?_; (simp only [Act.put, List.setIfInBounds_toArray, List.set_cons_succ, List.set_cons_zero])) | (refine b_val ?_; apply Exists.intro; refine ⟨fun W => ?_, ?_⟩; (go_simp; (try simp only [l2, cu, cw, if_true]); rfl); (simp only [Act.put, List.setIfInBounds_toArray, List.set_cons_succ, List.set_cons_zero])))); (with_reducible refine qs_nil ?_))
  (refine mix_two (i := 1) (j := 12) (by kernel_rfl) rfl rfl (by kernel_rfl) (by kernel_rfl) rfl rfl ?_ ?_)
  · (refine step_getx _ _ rfl _ _ rfl 1 rfl (cellTab _ rfl) (by omega) (.slice (some ⟨b, 0, none⟩) n m) rfl ?_; (simp only [Act.put, List.setIfInBounds_toArray, List.set_cons_succ, List.set_cons_zero]))
    (refine mix_one (i := 12) (by kernel_rfl) rfl (by kernel_rfl) rfl ?_)
    (refine step_lit1 _ _ _ rfl (.int .u16 fk2) rfl rfl _ u16_under u16_infoR ?_; intro l hl; (simp only [Act.put, List.setIfInBounds_toArray, List.set_cons_succ, List.set_cons_zero]))
    (refine mix_one (i := 13) (by kernel_rfl) rfl (by kernel_rfl) rfl ?_)
    (refine step_push1 _ _ _ rfl _ 1 _ _ u16_under infoUint16S rfl (by omega) _ _ _ _ rfl hb hnm hn _ _ rfl cst_one R HF.out HV.out ?_; intro g i G hg hi hG; (simp only [Act.put, List.setIfInBounds_toArray, List.set_cons_succ, List.set_cons_zero]))
    (refine mix_one (i := 14) (by kernel_rfl) rfl (by kernel_rfl) rfl ?_)
    (refine step_val ?_; apply Exists.intro; refine ⟨fun W => ?_, ?_⟩; (go_simp; rfl); (simp only [Act.put, List.setIfInBounds_toArray, List.set_cons_succ, List.set_cons_zero]))
    (refine mix_one (i := 15) (by kernel_rfl) rfl (by kernel_rfl) rfl ?_)
    (refine step_set1 _ _ _ rfl _ _ rfl (.slice (some ⟨g, 0, none⟩) (n + 1) i) rfl rfl 1 rfl ho (cellTab _ rfl) (by omega) ?_; simp only [List.set]; (simp only [Act.put, List.setIfInBounds_toArray, List.set_cons_succ, List.set_cons_zero]))
    (refine mix_end (by kernel_rfl) ?_; intro W' hM; simp only [List.cons_append, List.nil_append] at hM)
    have hM2 := hM.re 1 rfl (h3 A B (.slice (some ⟨g, 0, none⟩) (n + 1) i)) (h3_upd.2.2)
    simp only [List.set_cons_succ, List.set_cons_zero] at hM2
    exact ⟨rfl, _, _, _, _, _, _, _, _, _, _, _, _, _, _, _, g, i, G, rfl, hg, hi, hG, hM2⟩
  · (refine step_lit1 _ _ _ rfl (.int .u16 fk2) rfl rfl _ u16_under u16_infoR ?_; intro l hl; (simp only [Act.put, List.setIfInBounds_toArray, List.set_cons_succ, List.set_cons_zero]))
    (refine mix_one (i := 1) (by kernel_rfl) rfl (by kernel_rfl) rfl ?_)
    (refine step_getx _ _ rfl _ _ rfl 2 rfl (cellTab _ rfl) (by omega) (.slice (some ⟨b, 0, none⟩) n m) rfl ?_; (simp only [Act.put, List.setIfInBounds_toArray, List.set_cons_succ, List.set_cons_zero]))
    (refine mix_one (i := 13) (by kernel_rfl) rfl (by kernel_rfl) rfl ?_)
    (refine step_push1 _ _ _ rfl _ 1 _ _ u16_under infoUint16S rfl (by omega) _ _ _ _ rfl hb hnm hn _ _ rfl cst_one R HF.out HV.out ?_; intro g i G hg hi hG; (simp only [Act.put, List.setIfInBounds_toArray, List.set_cons_succ, List.set_cons_zero]))
    (refine mix_one (i := 14) (by kernel_rfl) rfl (by kernel_rfl) rfl ?_)
    (refine step_val ?_; apply Exists.intro; refine ⟨fun W => ?_, ?_⟩; (go_simp; rfl); (simp only [Act.put, List.setIfInBounds_toArray, List.set_cons_succ, List.set_cons_zero]))
    (refine mix_one (i := 15) (by kernel_rfl) rfl (by kernel_rfl) rfl ?_)
    (refine step_set1 _ _ _ rfl _ _ rfl (.slice (some ⟨g, 0, none⟩) (n + 1) i) rfl rfl 1 rfl ho (cellTab _ rfl) (by omega) ?_; simp only [List.set]; (simp only [Act.put, List.setIfInBounds_toArray, List.set_cons_succ, List.set_cons_zero]))
    (refine mix_end (by kernel_rfl) ?_; intro W' hM; simp only [List.cons_append, List.nil_append] at hM)
    have hM2 := hM.re 1 rfl (h3 A B (.slice (some ⟨g, 0, none⟩) (n + 1) i)) (h3_upd.2.2)
    simp only [List.set_cons_succ, List.set_cons_zero] at hM2
    exact ⟨rfl, _, _, _, _, _, _, _, _, _, _, _, _, _, _, _, g, i, G, rfl, hg, hi, hG, hM2⟩
end Go.Proofs.YthodkbmenndnoaaDoor

/-
  spec.JoinHerds by contract.
-/
namespace Go.Proofs.YthodkbmenndnoaaDoor
open Go Go.RowKit Go.BigFrame

theorem Mem.box0 {w W : World} {d : Hd} {b1 b2 b3 x : Nat} {hv : Nat → Value} {L : Blocks} (h0 : Mem w (hdB d b1 b2 b3) w) (hM : Mem (Base.of w) L W) (i : Nat) (hi : L[i]? = some (x, 3, hv)) (hx : w.heap.size ≤ x) : Mem W ((x, 3, hv) :: hdB d b1 b2 b3) W := by
  have h := ((h0.call hM.below).base (w' := Base.of W) (Below.refl _ _)).old (hM.ats i _ _ _ hi) (fun j p hp => by
    have := (h0.ats j p.1 p.2.1 p.2.2 hp).lt
    omega)
  have h2 := h.toFront 3 rfl
  simp only [hdB, List.cons_append, List.nil_append, List.eraseIdx_cons_succ, List.eraseIdx_cons_zero] at h2
  exact h2
/-- Is one of the first k names of one herd another one's? -/
def anyU (d e : Hd) : Nat → Bool
  | 0 => false
  | k + 1 => anyU d e k || nmdB d (e.ss k)
theorem anyU_no {d e : Hd} : ∀ {k : Nat}, (∀ j, j < k → nmdB d (e.ss j) = false) → anyU d e k = false
  | 0, _ => rfl
  | k + 1, h => by simp only [anyU]; rw [anyU_no (k := k) (fun j hj => h j (by omega)), h k (by omega)]; rfl
theorem anyU_yes {d e : Hd} {j : Nat} (h : nmdB d (e.ss j) = true) : ∀ {k : Nat}, j < k → anyU d e k = true
  | 0, h => absurd h (by omega)
  | k + 1, hj => by
    simp only [anyU]
    rcases Nat.lt_succ_iff_lt_or_eq.1 hj with h' | rfl
    · rw [anyU_yes h h']; rfl
    · rw [h, Bool.or_true]
theorem anyU_all {d e : Hd} {n : Nat} (h : anyU d e n = false) : ∀ j, j < n → nmdB d (e.ss j) = false := fun j hj => by
  cases hb : nmdB d (e.ss j) with
  | false => rfl
  | true => rw [anyU_yes hb hj] at h; cases h
def jnC (d e : Hd) : Int := if (herdB d && herdB e) = true then (if anyU d e e.n1 = true then 4 else if 14 < d.n1 + e.n1 then 3 else 0) else 1
def jnN (d e : Hd) : Nat := if jnC d e = 0 then d.n1 + e.n1 else 0
def jnD (d e : Hd) : Hd := ⟨d.n1 + e.n1, d.n1 + e.n1, d.n1 + e.n1, fun j => if j < d.n1 then d.ss j else e.ss (j - d.n1), fun j => if j < d.n1 then d.es j else e.es (j - d.n1), fun j => if j < d.n1 then d.fs j else e.fs (j - d.n1) * 2 ^ d.n1⟩
theorem jn_0 {d e : Hd} (h : jnC d e = 0) : HerdOk d ∧ HerdOk e ∧ (∀ j, j < e.n1 → nmdB d (e.ss j) = false) ∧ d.n1 + e.n1 ≤ 14 := by
  unfold jnC at h
  split at h
  · rename_i h1
    rw [Bool.and_eq_true] at h1
    split at h
    · cases h
    · rename_i h2
      split at h
      · cases h
      · rename_i h3
        exact ⟨herdB_iff.1 h1.1, herdB_iff.1 h1.2, anyU_all (by simpa using h2), by omega⟩
  · cases h
theorem shl_in {x : Int} {a b : Nat} (h0 : 0 ≤ x) (hx : x < 2 ^ b) (hab : a + b ≤ 14) : IntKind.u16.wrap (x * 2 ^ a) = x * 2 ^ a := by
  refine IntWalk.u16_in _ ⟨Int.mul_nonneg h0 (Int.le_of_lt (Int.pow_pos (by decide))), ?_⟩
  have h1 : x * 2 ^ a < 2 ^ b * 2 ^ a := Int.mul_lt_mul_of_pos_right hx (Int.pow_pos (by decide))
  have h2 : (2 : Int) ^ b * 2 ^ a = (2 : Int) ^ (a + b) := by rw [Int.pow_add, Int.mul_comm]
  have h3 : 2 ^ (a + b) ≤ 2 ^ 14 := Nat.pow_le_pow_right (by decide) hab
  have h4 : ((2 ^ (a + b) : Nat) : Int) ≤ ((2 ^ 14 : Nat) : Int) := Int.ofNat_le.2 h3
  rw [Int.natCast_pow] at h4
  have h5 : ((2 ^ 14 : Nat) : Int) = 16384 := rfl
  rw [h5] at h4
  rw [h2] at h1
  exact Int.le_trans (Int.le_of_lt (Int.lt_of_lt_of_le h1 h4)) (show (16384 : Int) ≤ 65535 by decide)
/-- The herd so far: three lists behind those of the first herd. -/
def JnAcc (R1 R2 R3 : Nat → Value) (w : World) (o : Nat) (K : Blocks) (k : Nat) (W : World) : Prop := ∃ x0 n0 F0 x1 n1 F1 x2 n2 F2, (w.heap.size ≤ x0 ∧ w.heap.size ≤ x1 ∧ w.heap.size ≤ x2) ∧ (k ≤ n0 ∧ k ≤ n1 ∧ k ≤ n2) ∧ (∀ j, j < k * 1 → F0 j = R1 j) ∧ (∀ j, j < k * 1 → F1 j = R2 j) ∧ (∀ j, j < k * 1 → F2 j = R3 j) ∧ Mem w ((x0, n0 * 1, F0) :: (x1, n1 * 1, F1) :: (x2, n2 * 1, F2) :: (o, 3, h3 (.slice (some ⟨x0, 0, none⟩) k n0) (.slice (some ⟨x1, 0, none⟩) k n1) (.slice (some ⟨x2, 0, none⟩) k n2)) :: K) W

set_option maxRecDepth 100000 in
set_option maxHeartbeats 8000000 in
theorem specJoinHerds_any (d : Hd) (b1 b2 b3 : Nat) (hd : FitsH d) (e : Hd) (f1 f2 f3 : Nat) (he : FitsH e) (w : World) (hM0 : Mem w (hdB d b1 b2 b3) w) (hM1 : Mem w (hdB e f1 f2 f3) w) :
    Calls Tryd.prog 36 #[.agg (arr 3 (hdV d b1 b2 b3)), .agg (arr 3 (hdV e f1 f2 f3))] w (GivesH (jnN d e) (vStringS (jnD d e).ss) (vInt16S (jnD d e).es) (vUint16S (jnD d e).fs) (jnC d e) w) := by
  have hM := Mem.nil w
  have H0 := Lib.hid hM0
  have H1 := Lib.hid hM1
  have HE1 := Lib.hid (hM1.ats 0 _ _ _ rfl)
  have HE2 := Lib.hid (hM1.ats 1 _ _ _ rfl)
  have HE3 := Lib.hid (hM1.ats 2 _ _ _ rfl)
  clear hM0 hM1
  have HOK0 := Lib.hid (fun (bh : Nat) (W : World) hB => l06Ok_any d bh b1 b2 b3 hd W hB)
  have HOK1 := Lib.hid (fun (bh : Nat) (W : World) hB => l06Ok_any e bh f1 f2 f3 he W hB)
  have a1 : hdV d b1 b2 b3 0 = .slice (some ⟨b1, 0, none⟩) d.n1 d.n1 := rfl
  have q1 : hdV e f1 f2 f3 0 = .slice (some ⟨f1, 0, none⟩) e.n1 e.n1 := rfl
  have q2 : hdV e f1 f2 f3 1 = .slice (some ⟨f2, 0, none⟩) e.n2 e.n2 := rfl
  have q3 : hdV e f1 f2 f3 2 = .slice (some ⟨f3, 0, none⟩) e.n3 e.n3 := rfl
  by_cases hc : jnC d e = 0
  · obtain ⟨hOk, hOe, hno, h14⟩ := jn_0 hc
    have HR := Lib.hid (show jnN d e = d.n1 + e.n1 ∧ jnC d e = 0 from ⟨by unfold jnN; rw [if_pos hc], hc⟩)
    have HB0 := Lib.hid (herdB_iff.2 hOk)
    have HB1 := Lib.hid (herdB_iff.2 hOe)
    have HNO := Lib.hid hno
    have HND := Lib.hid (fun (bh : Nat) (s : ByteArray) (W : World) hB => l06Named_any d bh b1 b2 b3 (by omega) s W hB)
    have HOWN := Lib.hid (fun (bh : Nat) (W : World) hB => l06Own_any d bh b1 b2 b3 (by omega) hOk.l2 hOk.l3 W hB)
    have HFO := Lib.hid (fun (j : Nat) (hj : j < e.n1) => show 0 ≤ e.fs j ∧ e.fs j < 2 ^ e.n1 from ⟨(he.f j (by rw [hOe.l3]; exact hj)).1, hOe.foes j hj⟩)
    have HP := Lib.hid (show (∀ F : Nat → Value, (∀ j, j < d.n1 * 1 → F j = vStringS d.ss j) → ∀ j, j < d.n1 * 1 → F j = vStringS (jnD d e).ss j) ∧ (∀ F : Nat → Value, (∀ j, j < d.n1 * 1 → F j = vInt16S d.es j) → ∀ j, j < d.n1 * 1 → F j = vInt16S (jnD d e).es j) ∧ ∀ F : Nat → Value, (∀ j, j < d.n1 * 1 → F j = vUint16S d.fs j) → ∀ j, j < d.n1 * 1 → F j = vUint16S (jnD d e).fs j from
      ⟨fun F h j hj => by rw [h j hj]; unfold vStringS jnD; simp only; rw [if_pos (by omega)], fun F h j hj => by rw [h j hj]; unfold vInt16S jnD; simp only; rw [if_pos (by omega)], fun F h j hj => by rw [h j hj]; unfold vUint16S jnD; simp only; rw [if_pos (by omega)]⟩)
    have HW := Lib.hid (show ∀ k, vStringS (jnD d e).ss (d.n1 + k) = .string (e.ss k) ∧ vInt16S (jnD d e).es (d.n1 + k) = .int .i16 (e.es k) ∧ vUint16S (jnD d e).fs (d.n1 + k) = .int .u16 (e.fs k * 2 ^ d.n1) from fun k => by
      unfold vStringS vInt16S vUint16S jnD
      simp only
      rw [if_neg (by omega), if_neg (by omega), if_neg (by omega), Nat.add_sub_cancel_left]
      exact ⟨rfl, rfl, rfl⟩)
    generalize vStringS (jnD d e).ss = R1 at HP HW ⊢
    generalize vInt16S (jnD d e).es = R2 at HP HW ⊢
    generalize vUint16S (jnD d e).fs = R3 at HP HW ⊢
    have l2 := hOe.l2
    have l3' := hOe.l3
    rw [l2] at q2 HE2
    rw [l3'] at q3 HE3
    clear hc hOk hOe hno l2 l3'
    obtain ⟨n1, hn1⟩ : ∃ n, d.n1 = n := ⟨_, rfl⟩
    obtain ⟨n2, hn2⟩ : ∃ n, e.n1 = n := ⟨_, rfl⟩
    rw [hn1] at HR HOWN HP HW h14 a1
    rw [hn2] at HR HNO HFO h14 q1 q2 q3
    have HE1' := HE1.out
    have HE2' := HE2.out
    have HE3' := HE3.out
    rw [hn2] at HE1' HE2' HE3'
    clear HE1 HE2 HE3
    have HE1 := Lib.hid HE1'
    have HE2 := Lib.hid HE2'
    have HE3 := Lib.hid HE3'
    clear HE1' HE2' HE3' hn1 hn2
    have d14 : decide ((14 : Int) < (n1 : Int) + n2) = false := decide_eq_false (by omega)
    have w14 : wrap64 ((n1 : Int) + n2) = (n1 : Int) + n2 := IntWalk.wrap64_in _ (by omega)
    have tk_x1 : True := trivial; have tk_x2 : True := trivial; have tk_r : True := trivial; have tk_k1 : True := trivial; have tk_k2 : True := trivial
    go_enter Tryd.func36, Tryd.ntmps36
    go_wp2_with (first | (have _t := tk_x1; refine wpList_box rfl _ _ rfl _ _ rfl hM ?_; intro x1 W' hx1 hM'; clear hM tk_x1; have hM := hM'; clear hM') | (have _t := tk_x2; refine wpList_box rfl _ _ rfl _ _ rfl hM ?_; intro x2 W' hx2 hM'; clear hM tk_x2; have hM := hM'; clear hM') | (have _t := tk_r; refine wpList_zero rfl _ rfl zeroHerd hM ?_; intro r W' hr hM'; clear hM tk_r; have hM := hM'; clear hM') | (have _t := tk_k1; go_at_call 51; refine (HOK0.out x1 _ (H0.out.box0 hM 2 rfl hx1)).mono ?_; rintro e' W' ⟨rfl, hb'⟩; rw [HB0.out]; have hM' := hM.call hb'; clear hM hb' tk_k1; have hM := hM'; clear hM') | (have _t := tk_k2; go_at_call 51; refine (HOK1.out x2 _ (H1.out.box0 hM 1 rfl hx2)).mono ?_; rintro e' W' ⟨rfl, hb'⟩; rw [HB1.out]; have hM' := hM.call hb'; clear hM hb' tk_k2; have hM := hM'; clear hM'))
    go_loopw [6] (fun v wr => ∃ k : Nat, k ≤ n2 ∧ v = .int .i64 k ∧ Mem w [(r, 3, fun _ => .slice none 0 0), (x2, 3, hdV e f1 f2 f3), (x1, 3, hdV d b1 b2 b3)] wr) (fun v _ => n2 - (intOf v).toNat)
    case atStart => exact ⟨0, by omega, rfl, hM⟩
    case round =>
      clear hM
      obtain ⟨k, hk, rfl, hM⟩ := hrel
      by_cases hlt : k < n2
      · have l2 : (k : Int) < n2 := by omega
        have s1 : vStringS e.ss k = .string (e.ss k) := rfl
        have HNk := Lib.hid (HNO.out k hlt)
        generalize e.ss k = sk at s1 HNk
        have tk_g1 : True := trivial; have tk_g2 : True := trivial
        go_wp2_with (first | (have _t := tk_g1; refine wpList_get1 rfl _ _ rfl _ _ rfl hM 1 rfl (cellTab _ rfl) (by omega) _ q1 ?_; clear tk_g1) | (have _t := tk_g2; refine wpList_get1 rfl _ _ rfl _ _ rfl hM 1 rfl (cellTab _ rfl) (by omega) _ q1 ?_; clear tk_g2) | (refine wpList_getAt1 rfl _ _ rfl _ _ rfl (HE1.out.below hM.below HE1.out.lt) (cellTab _ rfl) hlt _ s1 ?_) | (go_at_call 80; refine (HND.out x1 sk _ (H0.out.box0 hM 2 rfl hx1)).mono ?_; rintro e W' ⟨rfl, hb'⟩; rw [HNk.out]; have hM' := hM.call hb'; clear hM hb'; have hM := hM'; clear hM'))
        go_roundw
        case rel => exact ⟨k + 1, by omega, by go_num, hM⟩
        case measure => simp [intOf]; omega
      · have hge : ¬ (k : Int) < n2 := by omega
        have dk : decide ((k : Int) < (n2 : Int)) = false := decide_eq_false hge
        have dk2 : decide (k < n2) = false := decide_eq_false hlt
        have tk_g1 : True := trivial; have tk_g2 : True := trivial; have tk_g3 : True := trivial; have tk_w1 : True := trivial; have tk_o : True := trivial; have tk_s1 : True := trivial
        go_wp2_with (first | (have _t := tk_g1; refine wpList_get1 rfl _ _ rfl _ _ rfl hM 1 rfl (cellTab _ rfl) (by omega) _ q1 ?_; clear tk_g1) | (have _t := tk_g2; refine wpList_get1 rfl _ _ rfl _ _ rfl hM 2 rfl (cellTab _ rfl) (by omega) _ a1 ?_; clear tk_g2) | (have _t := tk_g3; refine wpList_get1 rfl _ _ rfl _ _ rfl hM 1 rfl (cellTab _ rfl) (by omega) _ q1 ?_; clear tk_g3) | (have _t := tk_w1; go_at_call 71; refine (HOWN.out x1 _ (H0.out.box0 hM 2 rfl hx1)).mono ?_; rintro e' W' ⟨f, rfl, e1, c1, F1, e2, c2, F2, e3, c3, F3, rfl, ⟨he1, he2, he3⟩, ⟨hc1, hc2, hc3⟩, ⟨hF1, hF2, hF3⟩, hK⟩; have hM' := hM.front hK.below hK (fun i p h => by rcases i with _ | _ | _ | i <;> simp at h <;> (rw [← h]; assumption)); have Hf0 := Lib.hid (HP.out.1 F1 hF1); have Hf1 := Lib.hid (HP.out.2.1 F2 hF2); have Hf2 := Lib.hid (HP.out.2.2 F3 hF3); have He := Lib.hid (And.intro (Nat.le_trans hM.size he1) (And.intro (Nat.le_trans hM.size he2) (Nat.le_trans hM.size he3))); clear hM hK tk_w1 hF1 hF2 hF3 he1 he2 he3; have hM := hM'; clear hM'; simp only [List.cons_append, List.nil_append] at hM) | (have _t := tk_o; refine wpList_zero rfl _ rfl zeroHerd hM ?_; intro o W' ho hM'; clear hM tk_o; have hM := hM'; clear hM') | (have _t := tk_s1; refine wpList_lay rfl _ _ _ rfl _ _ rfl _ _ rfl hM 0 rfl ho (rowTab _ _ rfl) (by omega) (fun k _ => h3_one rfl rfl rfl k) ?_; intro W' hM'; have hM2 := hM'.re 0 rfl (h3 (.slice (some ⟨e1, 0, none⟩) n1 c1) (.slice (some ⟨e2, 0, none⟩) n1 c2) (.slice (some ⟨e3, 0, none⟩) n1 c3)) (fun k hk => by simp [lay, hk]); simp only [List.set_cons_zero] at hM2; clear hM hM' tk_s1; have hM := hM2; clear hM2))
        clear HNO HND HOWN d14 w14 HP hge dk dk2 hlt hk
        go_loopw [8] (fun v wr => ∃ k : Nat, k ≤ n2 ∧ v = .int .i64 k ∧ JnAcc R1 R2 R3 w o [(r, 3, fun _ => .slice none 0 0), (x2, 3, hdV e f1 f2 f3), (x1, 3, hdV d b1 b2 b3)] (n1 + k) wr) (fun v _ => n2 - (intOf v).toNat)
        case atStart => exact ⟨0, by omega, rfl, e1, c1, F1, e2, c2, F2, e3, c3, F3, He.out, ⟨by omega, by omega, by omega⟩, Hf0.out, Hf1.out, Hf2.out, hM.sub (fun i => [1, 2, 3, 0, 4, 5, 6].getD i 0) (fun i p h => by rcases i with _ | _ | _ | _ | _ | _ | _ | i <;> simp at h ⊢ <;> exact h) rfl⟩
        case round =>
          clear hM
          obtain ⟨k, hk, rfl, x0, m0, F0, y1, m1, F1, y2, m2, F2, ⟨hb0, hb1, hb2⟩, ⟨hc0, hc1, hc2⟩, hf0', hf1', hf2', hM⟩ := hrel
          by_cases hlt : k < n2
          · have l2 : (k : Int) < n2 := by omega
            have hoB : (Base.of w).B ≤ o := ho
            have hk1 : n1 + k ≤ 1048576 := by omega
            have s1 : vStringS e.ss k = .string (e.ss k) := rfl
            have s2 : vInt16S e.es k = .int .i16 (e.es k) := rfl
            have s3 : vUint16S e.fs k = .int .u16 (e.fs k) := rfl
            obtain ⟨w1, w2, w3⟩ := HW.out k
            obtain ⟨hfa, hfb⟩ := HFO.out k hlt
            have cu : IntKind.u64.wrap (n1 : Int) = n1 := IntWalk.u64_in _ ⟨by omega, by omega⟩
            obtain ⟨fk2, hfk2⟩ : ∃ y, e.fs k * 2 ^ n1 = y := ⟨_, rfl⟩
            have cw : IntKind.u16.wrap (e.fs k * 2 ^ n1) = fk2 := by rw [shl_in hfa hfb h14, hfk2]
            rw [hfk2] at w3
            generalize e.ss k = sk at s1 w1
            generalize e.es k = ek at s2 w2
            generalize e.fs k = fk at s3 cw
            have HV0 := Lib.hid (show ∀ j, j < 1 → Value.string sk = R1 ((n1 + k) * 1 + j) from fun j hj => by rw [show (n1 + k) * 1 + j = n1 + k by omega]; exact w1.symm)
            have HV1 := Lib.hid (show ∀ j, j < 1 → Value.int .i16 ek = R2 ((n1 + k) * 1 + j) from fun j hj => by rw [show (n1 + k) * 1 + j = n1 + k by omega]; exact w2.symm)
            have HV2 := Lib.hid (show ∀ j, j < 1 → Value.int .u16 fk2 = R3 ((n1 + k) * 1 + j) from fun j hj => by rw [show (n1 + k) * 1 + j = n1 + k by omega]; exact w3.symm)
            have hf0 := Lib.hid hf0'
            have hf1 := Lib.hid hf1'
            have hf2 := Lib.hid hf2'
            clear hf0' hf1' hf2' w1 w2 w3 hfa hfb hfk2
            have tk_g4 : True := trivial
            go_wp2_with (first | (have _t := tk_g4; refine wpList_get1 rfl _ _ rfl _ _ rfl hM 5 rfl (cellTab _ rfl) (by omega) _ q1 ?_; clear tk_g4))
            have hMs : Mem w [(x0, m0 * 1, F0), (o, 3, h3 (.slice (some ⟨x0, 0, none⟩) (n1 + k) m0) (.slice (some ⟨y1, 0, none⟩) (n1 + k) m1) (.slice (some ⟨y2, 0, none⟩) (n1 + k) m2)), (x2, 3, hdV e f1 f2 f3), (y1, m1 * 1, F1), (y2, m2 * 1, F2), (r, 3, fun _ => .slice none 0 0), (x1, 3, hdV d b1 b2 b3)] _ := (hM.sub (fun i => [0, 3, 5, 1, 2, 4, 6].getD i 0) (fun i p h => by rcases i with _ | _ | _ | _ | _ | _ | _ | i <;> simp at h ⊢ <;> exact h) rfl)
            refine Code.wp_mono ?_ (join14_any sk (Base.of w) _ x2 o k n2 n2 f1 n2 x0 m0 (n1 + k) F0 _ _ R1 (.slice (some ⟨x0, 0, none⟩) (n1 + k) m0) (.slice (some ⟨y1, 0, none⟩) (n1 + k) m1) (.slice (some ⟨y2, 0, none⟩) (n1 + k) m2) hlt q1 (Nat.le_refl _) s1 hb0 hoB hk1 hc0 hf0.out HV0.out w (fun W h => h) HE1.out _ _ _ _ _ _ _ _ _ _ _ _ _ _ _ _ _ _ _ _ _ _ _ _ _ _ _ _ _ _ _ _ _ _ _ _ _ _ _ _ _ _ _ _ _ _ _ _ _ _ _ _ _ _ _ _ _ _ _ _ _ _ _ _ _ _ _ _ _ _ _ _ _ _ _ _ _ _ _ _ _ hMs)
            clear hM
            rintro e' a' w' ⟨rfl, v47, v48, v49, v50, v51, v52, v53, v54, v55, v56, g0, i0, G0, rfl, hg0, hi0, hG0, hM⟩
            have HG0 := Lib.hid hG0
            clear hG0
            go_wp2
            have hMs : Mem w [(y1, m1 * 1, F1), (o, 3, h3 (.slice (some ⟨g0, 0, none⟩) (n1 + k + 1) i0) (.slice (some ⟨y1, 0, none⟩) (n1 + k) m1) (.slice (some ⟨y2, 0, none⟩) (n1 + k) m2)), (x2, 3, hdV e f1 f2 f3), (g0, i0 * 1, G0), (y2, m2 * 1, F2), (r, 3, fun _ => .slice none 0 0), (x1, 3, hdV d b1 b2 b3)] _ := (hM.sub (fun i => [3, 1, 2, 0, 4, 5, 6].getD i 0) (fun i p h => by rcases i with _ | _ | _ | _ | _ | _ | _ | i <;> simp at h ⊢ <;> exact h) rfl)
            refine Code.wp_mono ?_ (join15_any ek (Base.of w) _ x2 o k n2 n2 f2 n2 y1 m1 (n1 + k) F1 _ _ R2 (.slice (some ⟨g0, 0, none⟩) (n1 + k + 1) i0) (.slice (some ⟨y1, 0, none⟩) (n1 + k) m1) (.slice (some ⟨y2, 0, none⟩) (n1 + k) m2) hlt q2 (Nat.le_refl _) s2 hb1 hoB hk1 hc1 hf1.out HV1.out w (fun W h => h) HE2.out _ _ _ _ _ _ _ _ _ _ _ _ _ _ _ _ _ _ _ _ _ _ _ _ _ _ _ _ _ _ _ _ _ _ _ _ _ _ _ _ _ _ _ _ _ _ _ _ _ _ _ _ _ _ _ _ _ _ _ _ _ _ _ _ _ _ _ _ _ _ _ _ _ _ _ _ _ _ _ _ _ hMs)
            clear hM
            rintro e' a' w' ⟨rfl, v57, v58, v59, v60, v61, v62, v63, v64, v65, v66, g1, i1, G1, rfl, hg1, hi1, hG1, hM⟩
            have HG1 := Lib.hid hG1
            clear hG1
            go_wp2
            have hMs : Mem w [(y2, m2 * 1, F2), (o, 3, h3 (.slice (some ⟨g0, 0, none⟩) (n1 + k + 1) i0) (.slice (some ⟨g1, 0, none⟩) (n1 + k + 1) i1) (.slice (some ⟨y2, 0, none⟩) (n1 + k) m2)), (x2, 3, hdV e f1 f2 f3), (x1, 3, hdV d b1 b2 b3), (g1, i1 * 1, G1), (g0, i0 * 1, G0), (r, 3, fun _ => .slice none 0 0)] _ := (hM.sub (fun i => [4, 1, 2, 6, 0, 3, 5].getD i 0) (fun i p h => by rcases i with _ | _ | _ | _ | _ | _ | _ | i <;> simp at h ⊢ <;> exact h) rfl)
            refine Code.wp_mono ?_ (join16_any fk x1 n1 _ b1 n1 a1 fk2 cw (by omega) (Base.of w) _ x2 o k n2 n2 f3 n2 y2 m2 (n1 + k) F2 _ _ R3 (.slice (some ⟨g0, 0, none⟩) (n1 + k + 1) i0) (.slice (some ⟨g1, 0, none⟩) (n1 + k + 1) i1) (.slice (some ⟨y2, 0, none⟩) (n1 + k) m2) hlt q3 (Nat.le_refl _) s3 hb2 hoB hk1 hc2 hf2.out HV2.out w (fun W h => h) HE3.out _ _ _ _ _ _ _ _ _ _ _ _ _ _ _ _ _ _ _ _ _ _ _ _ _ _ _ _ _ _ _ _ _ _ _ _ _ _ _ _ _ _ _ _ _ _ _ _ _ _ _ _ _ _ _ _ _ _ _ _ _ _ _ _ _ _ _ _ _ _ _ _ _ _ _ _ _ _ _ _ hMs)
            clear hM
            rintro e' a' w' ⟨rfl, v67, v68, v69, v70, v71, v72, v73, v74, v75, v76, v77, v78, v79, v80, v81, g2, i2, G2, rfl, hg2, hi2, hG2, hM⟩
            have HG2 := Lib.hid hG2
            clear hG2
            go_wp2
            exact ⟨⟨k + 1, by omega, by go_num, g0, i0, G0, g1, i1, G1, g2, i2, G2, ⟨hg0, hg1, hg2⟩, ⟨hi0, hi1, hi2⟩, HG0.out, HG1.out, HG2.out, hM.sub (fun i => [5, 4, 0, 1, 6, 2, 3].getD i 0) (fun i p h => by rcases i with _ | _ | _ | _ | _ | _ | _ | i <;> simp at h ⊢ <;> exact h) rfl⟩, by simp [intOf]; omega⟩
          · obtain rfl : k = n2 := by omega
            have tk_g4 : True := trivial; have tk_go : True := trivial; have tk_s2 : True := trivial
            go_wp2_with (first | (have _t := tk_g4; refine wpList_get1 rfl _ _ rfl _ _ rfl hM 5 rfl (cellTab _ rfl) (by omega) _ q1 ?_; clear tk_g4) | (have _t := tk_go; refine wpList_get rfl _ _ rfl _ _ rfl hM 3 rfl (rowTab _ _ rfl) (by omega) ?_; simp only [Nat.zero_add]; clear tk_go) | (have _t := tk_s2; refine wpList_lay rfl _ _ _ rfl _ _ rfl _ _ rfl hM 4 rfl (by assumption) (rowTab _ _ rfl) (by omega) (fun k _ => h3_one rfl rfl rfl k) ?_; intro W' hM'; clear hM tk_s2; have hM := hM'; clear hM'; simp only [List.set] at hM))
            have hA1 := (hM.ats 4 _ _ _ rfl).congr (g := h3 (.slice (some ⟨x0, 0, none⟩) (n1 + k) m0) (.slice (some ⟨y1, 0, none⟩) (n1 + k) m1) (.slice (some ⟨y2, 0, none⟩) (n1 + k) m2)) (fun j hj => by simp [lay, hj])
            refine bodyPost_ret (results_at2 rfl _ rfl hA1 rowHerd _ rfl) rfl ?_
            rw [HR.out.1, HR.out.2]
            exact ⟨_, rfl, .inr ⟨x0, m0, m0 * 1, F0, y1, m1, m1 * 1, F1, y2, m2, m2 * 1, F2, rfl, ⟨hb0, hb1, hb2⟩, ⟨by omega, by omega, by omega⟩, ⟨fun j hj => hf0' j (by omega), fun j hj => hf1' j (by omega), fun j hj => hf2' j (by omega)⟩, hM.sub (fun i => i) (fun i p h => by rcases i with _ | _ | _ | i <;> simp at h ⊢ <;> exact h) rfl⟩⟩
  · have HR := Lib.hid (show jnN d e = 0 from by unfold jnN; rw [if_neg hc])
    rw [HR.out]
    unfold jnC at hc ⊢
    cases hB : herdB d
    · have HB0 := Lib.hid hB
      clear hc hB
      rw [if_neg (by simp)]
      have tk_x1 : True := trivial; have tk_x2 : True := trivial; have tk_r : True := trivial; have tk_s2 : True := trivial; have tk_k1 : True := trivial
      go_enter Tryd.func36, Tryd.ntmps36
      go_wp2_with (first | (have _t := tk_x1; refine wpList_box rfl _ _ rfl _ _ rfl hM ?_; intro x1 W' hx1 hM'; clear hM tk_x1; have hM := hM'; clear hM') | (have _t := tk_x2; refine wpList_box rfl _ _ rfl _ _ rfl hM ?_; intro x2 W' hx2 hM'; clear hM tk_x2; have hM := hM'; clear hM') | (have _t := tk_r; refine wpList_zero rfl _ rfl zeroHerd hM ?_; intro r W' hr hM'; clear hM tk_r; have hM := hM'; clear hM') | (have _t := tk_k1; go_at_call 51; refine (HOK0.out x1 _ (H0.out.box0 hM 2 rfl hx1)).mono ?_; rintro e' W' ⟨rfl, hb'⟩; rw [HB0.out]; have hM' := hM.call hb'; clear hM hb' tk_k1; have hM := hM'; clear hM') | (refine wpList_herd0 rfl rfl ?_) | (have _t := tk_s2; refine wpList_lay rfl _ _ _ rfl _ _ rfl _ _ rfl hM 0 rfl (by assumption) (rowTab _ _ rfl) (by omega) (fun k _ => nil3_one k) ?_; intro W' hM'; clear hM tk_s2; have hM := hM'; clear hM'; simp only [List.set_cons_zero] at hM))
      have hA1 := (hM.ats 0 _ _ _ rfl).congr (g := nil3) (fun j hj => by simp [lay, hj, nil3])
      exact bodyPost_ret (results_at2 rfl _ rfl hA1 rowHerd _ rfl) rfl (GivesH.none hM.below rfl rfl)
    have HB0 := Lib.hid hB
    cases hB1 : herdB e
    · have HB1 := Lib.hid hB1
      clear hc hB hB1
      rw [if_neg (by simp)]
      have tk_x1 : True := trivial; have tk_x2 : True := trivial; have tk_r : True := trivial; have tk_s2 : True := trivial; have tk_k1 : True := trivial; have tk_k2 : True := trivial
      go_enter Tryd.func36, Tryd.ntmps36
      go_wp2_with (first | (have _t := tk_x1; refine wpList_box rfl _ _ rfl _ _ rfl hM ?_; intro x1 W' hx1 hM'; clear hM tk_x1; have hM := hM'; clear hM') | (have _t := tk_x2; refine wpList_box rfl _ _ rfl _ _ rfl hM ?_; intro x2 W' hx2 hM'; clear hM tk_x2; have hM := hM'; clear hM') | (have _t := tk_r; refine wpList_zero rfl _ rfl zeroHerd hM ?_; intro r W' hr hM'; clear hM tk_r; have hM := hM'; clear hM') | (have _t := tk_k1; go_at_call 51; refine (HOK0.out x1 _ (H0.out.box0 hM 2 rfl hx1)).mono ?_; rintro e' W' ⟨rfl, hb'⟩; rw [HB0.out]; have hM' := hM.call hb'; clear hM hb' tk_k1; have hM := hM'; clear hM') | (have _t := tk_k2; go_at_call 51; refine (HOK1.out x2 _ (H1.out.box0 hM 1 rfl hx2)).mono ?_; rintro e' W' ⟨rfl, hb'⟩; rw [HB1.out]; have hM' := hM.call hb'; clear hM hb' tk_k2; have hM := hM'; clear hM') | (refine wpList_herd0 rfl rfl ?_) | (have _t := tk_s2; refine wpList_lay rfl _ _ _ rfl _ _ rfl _ _ rfl hM 0 rfl (by assumption) (rowTab _ _ rfl) (by omega) (fun k _ => nil3_one k) ?_; intro W' hM'; clear hM tk_s2; have hM := hM'; clear hM'; simp only [List.set_cons_zero] at hM))
      have hA1 := (hM.ats 0 _ _ _ rfl).congr (g := nil3) (fun j hj => by simp [lay, hj, nil3])
      exact bodyPost_ret (results_at2 rfl _ rfl hA1 rowHerd _ rfl) rfl (GivesH.none hM.below rfl rfl)
    have HB1 := Lib.hid hB1
    have hOk := herdB_iff.1 hB
    have hOe := herdB_iff.1 hB1
    have h141 := hOk.n
    have h142 := hOe.n
    rw [hB, hB1] at hc
    rw [if_pos (by simp)] at hc
    rw [if_pos (by simp)]
    have HND := Lib.hid (fun (bh : Nat) (s : ByteArray) (W : World) hB => l06Named_any d bh b1 b2 b3 (by omega) s W hB)
    obtain ⟨n2, hn2⟩ : ∃ n, e.n1 = n := ⟨_, rfl⟩
    rw [hn2] at hc h142 q1 ⊢
    have HE1' := HE1.out
    rw [hn2] at HE1'
    clear HE1
    have HE1 := Lib.hid HE1'
    clear HE1'
    cases hA : anyU d e n2
    · rw [hA] at hc
      simp only [Bool.false_eq_true, if_false] at hc ⊢
      have HNO := Lib.hid (anyU_all hA)
      by_cases h14 : 14 < d.n1 + n2
      · rw [if_pos h14]
        obtain ⟨n1, hn1⟩ : ∃ n, d.n1 = n := ⟨_, rfl⟩
        rw [hn1] at h14 h141 a1
        have d14 : decide ((14 : Int) < (n1 : Int) + n2) = true := decide_eq_true (by omega)
        have w14 : wrap64 ((n1 : Int) + n2) = (n1 : Int) + n2 := IntWalk.wrap64_in _ (by omega)
        clear hc hB hB1 hOk hOe hn1 hn2 hA h14 h141
        have tk_x1 : True := trivial; have tk_x2 : True := trivial; have tk_r : True := trivial; have tk_k1 : True := trivial; have tk_k2 : True := trivial
        go_enter Tryd.func36, Tryd.ntmps36
        go_wp2_with (first | (have _t := tk_x1; refine wpList_box rfl _ _ rfl _ _ rfl hM ?_; intro x1 W' hx1 hM'; clear hM tk_x1; have hM := hM'; clear hM') | (have _t := tk_x2; refine wpList_box rfl _ _ rfl _ _ rfl hM ?_; intro x2 W' hx2 hM'; clear hM tk_x2; have hM := hM'; clear hM') | (have _t := tk_r; refine wpList_zero rfl _ rfl zeroHerd hM ?_; intro r W' hr hM'; clear hM tk_r; have hM := hM'; clear hM') | (have _t := tk_k1; go_at_call 51; refine (HOK0.out x1 _ (H0.out.box0 hM 2 rfl hx1)).mono ?_; rintro e' W' ⟨rfl, hb'⟩; rw [HB0.out]; have hM' := hM.call hb'; clear hM hb' tk_k1; have hM := hM'; clear hM') | (have _t := tk_k2; go_at_call 51; refine (HOK1.out x2 _ (H1.out.box0 hM 1 rfl hx2)).mono ?_; rintro e' W' ⟨rfl, hb'⟩; rw [HB1.out]; have hM' := hM.call hb'; clear hM hb' tk_k2; have hM := hM'; clear hM'))
        go_loopw [6] (fun v wr => ∃ k : Nat, k ≤ n2 ∧ v = .int .i64 k ∧ Mem w [(r, 3, fun _ => .slice none 0 0), (x2, 3, hdV e f1 f2 f3), (x1, 3, hdV d b1 b2 b3)] wr) (fun v _ => n2 - (intOf v).toNat)
        case atStart => exact ⟨0, by omega, rfl, hM⟩
        case round =>
          clear hM
          obtain ⟨k, hk, rfl, hM⟩ := hrel
          by_cases hlt : k < n2
          · have l2 : (k : Int) < n2 := by omega
            have s1 : vStringS e.ss k = .string (e.ss k) := rfl
            have HNk := Lib.hid (HNO.out k hlt)
            generalize e.ss k = sk at s1 HNk
            have tk_g1 : True := trivial; have tk_g2 : True := trivial
            go_wp2_with (first | (have _t := tk_g1; refine wpList_get1 rfl _ _ rfl _ _ rfl hM 1 rfl (cellTab _ rfl) (by omega) _ q1 ?_; clear tk_g1) | (have _t := tk_g2; refine wpList_get1 rfl _ _ rfl _ _ rfl hM 1 rfl (cellTab _ rfl) (by omega) _ q1 ?_; clear tk_g2) | (refine wpList_getAt1 rfl _ _ rfl _ _ rfl (HE1.out.below hM.below HE1.out.lt) (cellTab _ rfl) hlt _ s1 ?_) | (go_at_call 80; refine (HND.out x1 sk _ (H0.out.box0 hM 2 rfl hx1)).mono ?_; rintro e W' ⟨rfl, hb'⟩; rw [HNk.out]; have hM' := hM.call hb'; clear hM hb'; have hM := hM'; clear hM'))
            go_roundw
            case rel => exact ⟨k + 1, by omega, by go_num, hM⟩
            case measure => simp [intOf]; omega
          · have hge : ¬ (k : Int) < n2 := by omega
            have dk : decide ((k : Int) < (n2 : Int)) = false := decide_eq_false hge
            have dk2 : decide (k < n2) = false := decide_eq_false hlt
            have tk_g1 : True := trivial; have tk_g2 : True := trivial; have tk_g3 : True := trivial; have tk_s2 : True := trivial
            go_wp2_with (first | (have _t := tk_g1; refine wpList_get1 rfl _ _ rfl _ _ rfl hM 1 rfl (cellTab _ rfl) (by omega) _ q1 ?_; clear tk_g1) | (have _t := tk_g2; refine wpList_get1 rfl _ _ rfl _ _ rfl hM 2 rfl (cellTab _ rfl) (by omega) _ a1 ?_; clear tk_g2) | (have _t := tk_g3; refine wpList_get1 rfl _ _ rfl _ _ rfl hM 1 rfl (cellTab _ rfl) (by omega) _ q1 ?_; clear tk_g3) | (refine wpList_herd0 rfl rfl ?_) | (have _t := tk_s2; refine wpList_lay rfl _ _ _ rfl _ _ rfl _ _ rfl hM 0 rfl (by assumption) (rowTab _ _ rfl) (by omega) (fun k _ => nil3_one k) ?_; intro W' hM'; clear hM tk_s2; have hM := hM'; clear hM'; simp only [List.set_cons_zero] at hM))
            have hA1 := (hM.ats 0 _ _ _ rfl).congr (g := nil3) (fun j hj => by simp [lay, hj, nil3])
            exact bodyPost_ret (results_at2 rfl _ rfl hA1 rowHerd _ rfl) rfl (GivesH.none hM.below rfl rfl)
      · rw [if_neg h14] at hc
        exact absurd rfl hc
    · rw [if_pos rfl]
      have HYES := Lib.hid hA
      have HEX := Lib.hid (show ∀ k, k ≤ n2 → (∀ j, j < k → nmdB d (e.ss j) = false) → ¬ k = n2 from fun k _ hj hk => by rw [hk] at hj; rw [anyU_no hj] at hA; cases hA)
      clear hc hB hB1 hOk hOe hn2 hA h141
      have tk_x1 : True := trivial; have tk_x2 : True := trivial; have tk_r : True := trivial; have tk_k1 : True := trivial; have tk_k2 : True := trivial
      go_enter Tryd.func36, Tryd.ntmps36
      go_wp2_with (first | (have _t := tk_x1; refine wpList_box rfl _ _ rfl _ _ rfl hM ?_; intro x1 W' hx1 hM'; clear hM tk_x1; have hM := hM'; clear hM') | (have _t := tk_x2; refine wpList_box rfl _ _ rfl _ _ rfl hM ?_; intro x2 W' hx2 hM'; clear hM tk_x2; have hM := hM'; clear hM') | (have _t := tk_r; refine wpList_zero rfl _ rfl zeroHerd hM ?_; intro r W' hr hM'; clear hM tk_r; have hM := hM'; clear hM') | (have _t := tk_k1; go_at_call 51; refine (HOK0.out x1 _ (H0.out.box0 hM 2 rfl hx1)).mono ?_; rintro e' W' ⟨rfl, hb'⟩; rw [HB0.out]; have hM' := hM.call hb'; clear hM hb' tk_k1; have hM := hM'; clear hM') | (have _t := tk_k2; go_at_call 51; refine (HOK1.out x2 _ (H1.out.box0 hM 1 rfl hx2)).mono ?_; rintro e' W' ⟨rfl, hb'⟩; rw [HB1.out]; have hM' := hM.call hb'; clear hM hb' tk_k2; have hM := hM'; clear hM'))
      go_loopw [6] (fun v wr => ∃ k : Nat, k ≤ n2 ∧ v = .int .i64 k ∧ Hid (∀ j, j < k → nmdB d (e.ss j) = false) ∧ Mem w [(r, 3, fun _ => .slice none 0 0), (x2, 3, hdV e f1 f2 f3), (x1, 3, hdV d b1 b2 b3)] wr) (fun v _ => n2 - (intOf v).toNat)
      case atStart => exact ⟨0, by omega, rfl, Lib.hid (fun j hj => absurd hj (by omega)), hM⟩
      case round =>
        clear hM
        obtain ⟨k, hk, rfl, hall, hM⟩ := hrel
        by_cases hlt : k < n2
        · have l2 : (k : Int) < n2 := by omega
          have s1 : vStringS e.ss k = .string (e.ss k) := rfl
          have HSt := Lib.hid (fun (h : nmdB d (e.ss k) = false) (j : Nat) (hj : j < k + 1) => show nmdB d (e.ss j) = false from by
            rcases Nat.lt_succ_iff_lt_or_eq.1 hj with h' | rfl
            · exact hall.out j h'
            · exact h)
          obtain ⟨sk, hsk⟩ : ∃ s, e.ss k = s := ⟨_, rfl⟩
          rw [hsk] at s1 HSt
          clear hsk
          cases hnk : nmdB d sk
          · have HZ := Lib.hid (HSt.out hnk)
            have HNk := Lib.hid hnk
            clear HSt hnk
            have tk_g1 : True := trivial; have tk_g2 : True := trivial
            go_wp2_with (first | (have _t := tk_g1; refine wpList_get1 rfl _ _ rfl _ _ rfl hM 1 rfl (cellTab _ rfl) (by omega) _ q1 ?_; clear tk_g1) | (have _t := tk_g2; refine wpList_get1 rfl _ _ rfl _ _ rfl hM 1 rfl (cellTab _ rfl) (by omega) _ q1 ?_; clear tk_g2) | (refine wpList_getAt1 rfl _ _ rfl _ _ rfl (HE1.out.below hM.below HE1.out.lt) (cellTab _ rfl) hlt _ s1 ?_) | (go_at_call 80; refine (HND.out x1 sk _ (H0.out.box0 hM 2 rfl hx1)).mono ?_; rintro e W' ⟨rfl, hb'⟩; rw [HNk.out]; have hM' := hM.call hb'; clear hM hb'; have hM := hM'; clear hM'))
            go_roundw
            case rel => exact ⟨k + 1, by omega, by go_num, HZ, hM⟩
            case measure => simp [intOf]; omega
          · have HNk := Lib.hid hnk
            clear HSt hnk
            have tk_g1 : True := trivial; have tk_g2 : True := trivial; have tk_s2 : True := trivial
            go_wp2_with (first | (have _t := tk_g1; refine wpList_get1 rfl _ _ rfl _ _ rfl hM 1 rfl (cellTab _ rfl) (by omega) _ q1 ?_; clear tk_g1) | (have _t := tk_g2; refine wpList_get1 rfl _ _ rfl _ _ rfl hM 1 rfl (cellTab _ rfl) (by omega) _ q1 ?_; clear tk_g2) | (refine wpList_getAt1 rfl _ _ rfl _ _ rfl (HE1.out.below hM.below HE1.out.lt) (cellTab _ rfl) hlt _ s1 ?_) | (go_at_call 80; refine (HND.out x1 sk _ (H0.out.box0 hM 2 rfl hx1)).mono ?_; rintro e W' ⟨rfl, hb'⟩; rw [HNk.out]; have hM' := hM.call hb'; clear hM hb'; have hM := hM'; clear hM') | (refine wpList_herd0 rfl rfl ?_) | (have _t := tk_s2; refine wpList_lay rfl _ _ _ rfl _ _ rfl _ _ rfl hM 0 rfl (by assumption) (rowTab _ _ rfl) (by omega) (fun k _ => nil3_one k) ?_; intro W' hM'; clear hM tk_s2; have hM := hM'; clear hM'; simp only [List.set_cons_zero] at hM))
            have hA1 := (hM.ats 0 _ _ _ rfl).congr (g := nil3) (fun j hj => by simp [lay, hj, nil3])
            exact bodyPost_ret (results_at2 rfl _ rfl hA1 rowHerd _ rfl) rfl (GivesH.none hM.below rfl rfl)
        · exact absurd (show k = n2 by omega) (HEX.out k hk hall.out)
end Go.Proofs.YthodkbmenndnoaaDoor

