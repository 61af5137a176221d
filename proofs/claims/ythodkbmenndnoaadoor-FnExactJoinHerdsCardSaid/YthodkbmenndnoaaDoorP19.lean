/-
  Several texts in one: JoinHerdsR.
-/
import Derived.Test.YthodkbmenndnoaaDoorP18
import Derived.Test.YthodkbmenndnoaaDoorP7
import Derived.Test.YthodkbmenndnoaaDoorP2
import Derived.Test.YthodkbmenndnoaaDoorP15
/-
  laws.FnExactJoinHerds: the regions with two copies, by theorems of their own.
-/
namespace Go.Proofs.YthodkbmenndnoaaDoor
open Go Go.RowKit Go.BigFrame

set_option maxRecDepth 100000 in
set_option maxHeartbeats 8000000 in
theorem lawJoinHerds_r8 (LN : Nat) (SX : Nat → ByteArray) (EX FX : Nat → Int) (CC : Int) (d0 : Hd) (HA0 : d0.n1 ≤ 1048576) (HB0 : d0.n2 ≤ 1048576) (HC0 : d0.n3 ≤ 1048576) (f0 : Nat → Value) (d1 : Hd) (HA1 : d1.n1 ≤ 1048576) (HB1 : d1.n2 ≤ 1048576) (HC1 : d1.n3 ≤ 1048576) (f1 : Nat → Value) (w : World) (hG0 : HerdArg w (.agg (arr 3 f0)) d0) (hG1 : HerdArg w (.agg (arr 3 f1)) d1)
    (hS : ∀ (x0 y0 z0 x1 y1 z1 : Nat) (W : World), Below w.heap.size w W → Mem W (hdB d0 x0 y0 z0) W → Mem W (hdB d1 x1 y1 z1) W → Calls Tryd.prog 36 #[.agg (arr 3 (hdV d0 x0 y0 z0)), .agg (arr 3 (hdV d1 x1 y1 z1))] W (GivesH LN (vStringS SX) (vInt16S EX) (vUint16S FX) CC W))
    (L : Blocks) (q0 q1 i0 i1 : Nat) (h0 : L[i0]? = some (q0, 3, f0)) (h1 : L[i1]? = some (q1, 3, f1)) (t0 t1 t4 t5 t6 t7 t8 t9 t10 t11 t12 t13 t14 t15 t16 t17 t18 t19 t20 t21 t22 t23 t24 t25 t26 t27 t28 t29 t30 t31 t32 t33 t34 t35 t36 t37 t38 t39 t40 t41 t42 t43 t44 t45 t46 t47 t48 t49 t50 t51 t52 t53 t54 t55 t56 t57 t58 t59 t60 t61 t62 t63 t64 t65 t66 t67 t68 t69 t70 t71 t72 t73 t74 t75 t76 t77 t78 t79 t80 t81 t82 t83 t84 t85 t86 t87 t88 t89 t90 t91 t92 t93 t94 t95 t96 t97 t98 t99 t100 t101 t102 t103 t104 t105 t106 t107 t108 t109 t110 t111 t112 t113 t114 t115 t116 t117 t118 : Value) (W : World) (hM0 : Mem (Base.of w) L W) :
    (cL (cR (cR (cR (cR (cR (cR (Tryd.f9.body.getD .skip)))))))).wp Tryd.prog (fun e a' w' => e = .normal ∧ ∃ v27 v28 v29 v30 v31 v32 v33 v34 r f, a' = ⟨(List.toArray (t0 :: t1 :: .pointer (some ⟨q0, 0, none⟩) :: .pointer (some ⟨q1, 0, none⟩) :: t4 :: t5 :: .pointer (some ⟨r, 0, none⟩) :: .int .i64 CC :: t8 :: t9 :: t10 :: t11 :: t12 :: t13 :: t14 :: t15 :: t16 :: t17 :: t18 :: t19 :: t20 :: t21 :: t22 :: t23 :: t24 :: t25 :: t26 :: v27 :: v28 :: v29 :: v30 :: v31 :: v32 :: v33 :: v34 :: t35 :: t36 :: t37 :: t38 :: t39 :: t40 :: t41 :: t42 :: t43 :: t44 :: t45 :: t46 :: t47 :: t48 :: t49 :: t50 :: t51 :: t52 :: t53 :: t54 :: t55 :: t56 :: t57 :: t58 :: t59 :: t60 :: t61 :: t62 :: t63 :: t64 :: t65 :: t66 :: t67 :: t68 :: t69 :: t70 :: t71 :: t72 :: t73 :: t74 :: t75 :: t76 :: t77 :: t78 :: t79 :: t80 :: t81 :: t82 :: t83 :: t84 :: t85 :: t86 :: t87 :: t88 :: t89 :: t90 :: t91 :: t92 :: t93 :: t94 :: t95 :: t96 :: t97 :: t98 :: t99 :: t100 :: t101 :: t102 :: t103 :: t104 :: t105 :: t106 :: t107 :: t108 :: t109 :: t110 :: t111 :: t112 :: t113 :: t114 :: t115 :: t116 :: t117 :: t118 :: [])), []⟩ ∧ (Base.of w).B ≤ r ∧ ResH LN (vStringS SX) (vInt16S EX) (vUint16S FX) w L r f w') ⟨(List.toArray (t0 :: t1 :: .pointer (some ⟨q0, 0, none⟩) :: .pointer (some ⟨q1, 0, none⟩) :: t4 :: t5 :: t6 :: t7 :: t8 :: t9 :: t10 :: t11 :: t12 :: t13 :: t14 :: t15 :: t16 :: t17 :: t18 :: t19 :: t20 :: t21 :: t22 :: t23 :: t24 :: t25 :: t26 :: t27 :: t28 :: t29 :: t30 :: t31 :: t32 :: t33 :: t34 :: t35 :: t36 :: t37 :: t38 :: t39 :: t40 :: t41 :: t42 :: t43 :: t44 :: t45 :: t46 :: t47 :: t48 :: t49 :: t50 :: t51 :: t52 :: t53 :: t54 :: t55 :: t56 :: t57 :: t58 :: t59 :: t60 :: t61 :: t62 :: t63 :: t64 :: t65 :: t66 :: t67 :: t68 :: t69 :: t70 :: t71 :: t72 :: t73 :: t74 :: t75 :: t76 :: t77 :: t78 :: t79 :: t80 :: t81 :: t82 :: t83 :: t84 :: t85 :: t86 :: t87 :: t88 :: t89 :: t90 :: t91 :: t92 :: t93 :: t94 :: t95 :: t96 :: t97 :: t98 :: t99 :: t100 :: t101 :: t102 :: t103 :: t104 :: t105 :: t106 :: t107 :: t108 :: t109 :: t110 :: t111 :: t112 :: t113 :: t114 :: t115 :: t116 :: t117 :: t118 :: [])), []⟩ W := by
  have hM := hM0
  have HG0 := Lib.hid hG0
  have HG1 := Lib.hid hG1
  have HS := Lib.hid hS
  clear hM0 hG0 hG1 hS
  conv => arg 2; whnf
  ((try simp only [Act.put, List.setIfInBounds_toArray, List.set_cons_succ, List.set_cons_zero]); refine region_readsG [0, 2] [0, 2, 5, 6, 7] #[true, false, true, false, false, false, false, false, false, false, false] 9 (by decide) (by kernel_rfl) (by kernel_rfl) (by kernel_rfl) hM ?_; clear hM; (repeat (refine qs_plain rfl rfl ?_; first | (refine b_get _ _ rfl _ _ rfl i0 h0 (rowTab _ _ rfl) (by omega) ?_; (try simp only [Nat.zero_add, Act.put, List.setIfInBounds_toArray, List.set_cons_succ, List.set_cons_zero])) | (refine b_get _ _ rfl _ _ rfl i1 h1 (rowTab _ _ rfl) (by omega) ?_; (try simp only [Nat.zero_add, Act.put, List.setIfInBounds_toArray, List.set_cons_succ, List.set_cons_zero])))); (with_reducible refine qs_nil ?_))
  (refine mix_two (i := 1) (j := 8) (by kernel_rfl) rfl rfl (by kernel_rfl) (by kernel_rfl) rfl rfl ?_ ?_)
  · (refine step_call_more (β := Nat × Nat × Nat) (fun y => .agg (arr 3 (hdV d0 y.1 y.2.1 y.2.2))) (fun y => hdB d0 y.1 y.2.1 y.2.2) (fun _ => True) ?_; apply Exists.intro; apply Exists.intro; refine ⟨fun W => ?_, fun W hM => ?_, ?_⟩; (go_simp; exact ⟨rfl, rfl⟩); (exact (toHerd_any _ d0 HA0 HB0 HC0 W (HG0.out.below hM.below)).mono fun e w' ⟨y1, y2, y3, he, g1, g2, g3, hK⟩ => ⟨(y1, y2, y3), he, trivial, hM.front hK.below hK (hdB_ge g1 g2 g3)⟩); rintro ⟨ja, jb, jc⟩ -; (try simp only [Act.put, List.setIfInBounds_toArray, List.set_cons_succ, List.set_cons_zero]))
    (refine mix_two (i := 3) (j := 8) (by kernel_rfl) rfl rfl (by kernel_rfl) (by kernel_rfl) rfl rfl ?_ ?_)
    · (refine step_call_more (β := Nat × Nat × Nat) (fun y => .agg (arr 3 (hdV d1 y.1 y.2.1 y.2.2))) (fun y => hdB d1 y.1 y.2.1 y.2.2) (fun _ => True) ?_; apply Exists.intro; apply Exists.intro; refine ⟨fun W => ?_, fun W hM => ?_, ?_⟩; (go_simp; exact ⟨rfl, rfl⟩); (exact (toHerd_any _ d1 HA1 HB1 HC1 W (HG1.out.below hM.below)).mono fun e w' ⟨y1, y2, y3, he, g1, g2, g3, hK⟩ => ⟨(y1, y2, y3), he, trivial, hM.front hK.below hK (hdB_ge g1 g2 g3)⟩); rintro ⟨la, lb, lc⟩ -; (try simp only [Act.put, List.setIfInBounds_toArray, List.set_cons_succ, List.set_cons_zero]))
      (refine mix_two (i := 4) (j := 8) (by kernel_rfl) rfl rfl (by kernel_rfl) (by kernel_rfl) rfl rfl ?_ ?_)
      · (refine step_call_more (β := (Nat → Value) × Blocks) (fun y => .tuple #[.agg (arr 3 y.1), .int .i64 CC]) (fun y => y.2) (GoodH LN (vStringS SX) (vInt16S EX) (vUint16S FX) w) ?_; apply Exists.intro; apply Exists.intro; refine ⟨fun W => ?_, fun W hM => ?_, ?_⟩; (go_simp; exact ⟨rfl, rfl⟩); (exact (HS.out _ _ _ _ _ _ W hM.below (three_of hM 3 rfl) (three_of hM 0 rfl)).mono fun e w' h => GivesH.more hM h); rintro ⟨f, Kb⟩ hgd; rcases hgd with ⟨hn0, ⟨a1, c1, a2, c2, a3, c3, hf⟩, hk⟩ | ⟨k1, c1, N1, F1, k2, c2, N2, F2, k3, c3, N3, F3, hf, hBb, hNN, hFF, hk⟩ <;> dsimp only at hf hk <;> subst hf hk <;> (try simp only [Act.put, List.setIfInBounds_toArray, List.set_cons_succ, List.set_cons_zero]))
        · refine mixQ_reads (s1 := #[true, true, true, true, true, true, true, true, false, false, false]) (g := 3) (by kernel_rfl) [5, 6, 7] _ _ (by decide) (by kernel_rfl) ?_
          (repeat (refine qs_plain rfl rfl ?_; first | (refine b_val ?_; apply Exists.intro; refine ⟨fun W => ?_, ?_⟩; (go_simp; rfl); (simp only [Act.put, List.setIfInBounds_toArray, List.set_cons_succ, List.set_cons_zero])))); (with_reducible refine qs_nil ?_)
          (refine mix_one (i := 8) (by kernel_rfl) rfl (by kernel_rfl) rfl ?_)
          (refine step_zero _ rfl zeroHerd ?_; intro r hr; (simp only [Act.put, List.setIfInBounds_toArray, List.set_cons_succ, List.set_cons_zero]))
          (refine mix_one (i := 9) (by kernel_rfl) rfl (by kernel_rfl) rfl ?_)
          (refine step_lay _ _ _ rfl _ _ rfl _ _ rfl 0 rfl hr (rowTab _ _ rfl) (by omega) (fun k _ => h3_one rfl rfl rfl k) ?_; simp only [List.set]; (simp only [Act.put, List.setIfInBounds_toArray, List.set_cons_succ, List.set_cons_zero]))
          (refine mix_one (i := 10) (by kernel_rfl) rfl (by kernel_rfl) rfl ?_)
          (refine step_val ?_; apply Exists.intro; refine ⟨fun W => ?_, ?_⟩; (go_simp; rfl); (simp only [Act.put, List.setIfInBounds_toArray, List.set_cons_succ, List.set_cons_zero]))
          (refine mix_end (by kernel_rfl) ?_; intro W' hM)
          simp only [hdB, List.cons_append, List.nil_append] at hM
          have hM2 := (hM.toFront 0 rfl).re 0 rfl (h3 (.slice a1 0 c1) (.slice a2 0 c2) (.slice a3 0 c3)) (fun k hk => by simp [lay, hk])
          simp only [List.eraseIdx_cons_succ, List.eraseIdx_cons_zero, List.set_cons_zero] at hM2
          exact ⟨rfl, _, _, _, _, _, _, _, _, r, _, rfl, hr, .inl ⟨hn0, ⟨a1, c1, a2, c2, a3, c3, rfl⟩, hM2.subl (.cons_cons _ (.cons _ (.cons _ (.cons _ (.cons _ (.cons _ (.cons _ (.refl _))))))))⟩⟩
        · refine mixQ_reads (s1 := #[true, true, true, true, true, true, true, true, false, false, false]) (g := 3) (by kernel_rfl) [5, 6, 7] _ _ (by decide) (by kernel_rfl) ?_
          (repeat (refine qs_plain rfl rfl ?_; first | (refine b_val ?_; apply Exists.intro; refine ⟨fun W => ?_, ?_⟩; (go_simp; rfl); (simp only [Act.put, List.setIfInBounds_toArray, List.set_cons_succ, List.set_cons_zero])))); (with_reducible refine qs_nil ?_)
          (refine mix_one (i := 8) (by kernel_rfl) rfl (by kernel_rfl) rfl ?_)
          (refine step_zero _ rfl zeroHerd ?_; intro r hr; (simp only [Act.put, List.setIfInBounds_toArray, List.set_cons_succ, List.set_cons_zero]))
          (refine mix_one (i := 9) (by kernel_rfl) rfl (by kernel_rfl) rfl ?_)
          (refine step_lay _ _ _ rfl _ _ rfl _ _ rfl 0 rfl hr (rowTab _ _ rfl) (by omega) (fun k _ => h3_one rfl rfl rfl k) ?_; simp only [List.set]; (simp only [Act.put, List.setIfInBounds_toArray, List.set_cons_succ, List.set_cons_zero]))
          (refine mix_one (i := 10) (by kernel_rfl) rfl (by kernel_rfl) rfl ?_)
          (refine step_val ?_; apply Exists.intro; refine ⟨fun W => ?_, ?_⟩; (go_simp; rfl); (simp only [Act.put, List.setIfInBounds_toArray, List.set_cons_succ, List.set_cons_zero]))
          (refine mix_end (by kernel_rfl) ?_; intro W' hM)
          simp only [hdB, List.cons_append, List.nil_append] at hM
          have hM2 := (hM.toFront 0 rfl).re 0 rfl (h3 (.slice (some ⟨k1, 0, none⟩) LN c1) (.slice (some ⟨k2, 0, none⟩) LN c2) (.slice (some ⟨k3, 0, none⟩) LN c3)) (fun k hk => by simp [lay, hk])
          simp only [List.eraseIdx_cons_succ, List.eraseIdx_cons_zero, List.set_cons_zero] at hM2
          exact ⟨rfl, _, _, _, _, _, _, _, _, r, _, rfl, hr, .inr ⟨k1, c1, N1, F1, k2, c2, N2, F2, k3, c3, N3, F3, rfl, hBb, hNN, hFF, hM2.subl (.cons_cons _ (.cons_cons _ (.cons_cons _ (.cons_cons _ (.cons _ (.cons _ (.cons _ (.cons _ (.cons _ (.cons _ (.refl _)))))))))))⟩⟩
      · (refine step_zero _ rfl zeroHerd ?_; intro r hr; (simp only [Act.put, List.setIfInBounds_toArray, List.set_cons_succ, List.set_cons_zero]))
        (refine mix_one (i := 4) (by kernel_rfl) rfl (by kernel_rfl) rfl ?_)
        (refine step_call_more (β := (Nat → Value) × Blocks) (fun y => .tuple #[.agg (arr 3 y.1), .int .i64 CC]) (fun y => y.2) (GoodH LN (vStringS SX) (vInt16S EX) (vUint16S FX) w) ?_; apply Exists.intro; apply Exists.intro; refine ⟨fun W => ?_, fun W hM => ?_, ?_⟩; (go_simp; exact ⟨rfl, rfl⟩); (exact (HS.out _ _ _ _ _ _ W hM.below (three_of hM 4 rfl) (three_of hM 1 rfl)).mono fun e w' h => GivesH.more hM h); rintro ⟨f, Kb⟩ hgd; rcases hgd with ⟨hn0, ⟨a1, c1, a2, c2, a3, c3, hf⟩, hk⟩ | ⟨k1, c1, N1, F1, k2, c2, N2, F2, k3, c3, N3, F3, hf, hBb, hNN, hFF, hk⟩ <;> dsimp only at hf hk <;> subst hf hk <;> (try simp only [Act.put, List.setIfInBounds_toArray, List.set_cons_succ, List.set_cons_zero]))
        · refine mixQ_reads (s1 := #[true, true, true, true, true, true, true, true, true, false, false]) (g := 2) (by kernel_rfl) [5, 6, 7] _ _ (by decide) (by kernel_rfl) ?_
          (repeat (refine qs_plain rfl rfl ?_; first | (refine b_val ?_; apply Exists.intro; refine ⟨fun W => ?_, ?_⟩; (go_simp; rfl); (simp only [Act.put, List.setIfInBounds_toArray, List.set_cons_succ, List.set_cons_zero])))); (with_reducible refine qs_nil ?_)
          (refine mix_one (i := 9) (by kernel_rfl) rfl (by kernel_rfl) rfl ?_)
          (refine step_lay _ _ _ rfl _ _ rfl _ _ rfl 0 rfl hr (rowTab _ _ rfl) (by omega) (fun k _ => h3_one rfl rfl rfl k) ?_; simp only [List.set]; (simp only [Act.put, List.setIfInBounds_toArray, List.set_cons_succ, List.set_cons_zero]))
          (refine mix_one (i := 10) (by kernel_rfl) rfl (by kernel_rfl) rfl ?_)
          (refine step_val ?_; apply Exists.intro; refine ⟨fun W => ?_, ?_⟩; (go_simp; rfl); (simp only [Act.put, List.setIfInBounds_toArray, List.set_cons_succ, List.set_cons_zero]))
          (refine mix_end (by kernel_rfl) ?_; intro W' hM)
          simp only [hdB, List.cons_append, List.nil_append] at hM
          have hM2 := (hM.toFront 0 rfl).re 0 rfl (h3 (.slice a1 0 c1) (.slice a2 0 c2) (.slice a3 0 c3)) (fun k hk => by simp [lay, hk])
          simp only [List.eraseIdx_cons_succ, List.eraseIdx_cons_zero, List.set_cons_zero] at hM2
          exact ⟨rfl, _, _, _, _, _, _, _, _, r, _, rfl, hr, .inl ⟨hn0, ⟨a1, c1, a2, c2, a3, c3, rfl⟩, hM2.subl (.cons_cons _ (.cons _ (.cons _ (.cons _ (.cons _ (.cons _ (.cons _ (.refl _))))))))⟩⟩
        · refine mixQ_reads (s1 := #[true, true, true, true, true, true, true, true, true, false, false]) (g := 2) (by kernel_rfl) [5, 6, 7] _ _ (by decide) (by kernel_rfl) ?_
          (repeat (refine qs_plain rfl rfl ?_; first | (refine b_val ?_; apply Exists.intro; refine ⟨fun W => ?_, ?_⟩; (go_simp; rfl); (simp only [Act.put, List.setIfInBounds_toArray, List.set_cons_succ, List.set_cons_zero])))); (with_reducible refine qs_nil ?_)
          (refine mix_one (i := 9) (by kernel_rfl) rfl (by kernel_rfl) rfl ?_)
          (refine step_lay _ _ _ rfl _ _ rfl _ _ rfl 3 rfl hr (rowTab _ _ rfl) (by omega) (fun k _ => h3_one rfl rfl rfl k) ?_; simp only [List.set]; (simp only [Act.put, List.setIfInBounds_toArray, List.set_cons_succ, List.set_cons_zero]))
          (refine mix_one (i := 10) (by kernel_rfl) rfl (by kernel_rfl) rfl ?_)
          (refine step_val ?_; apply Exists.intro; refine ⟨fun W => ?_, ?_⟩; (go_simp; rfl); (simp only [Act.put, List.setIfInBounds_toArray, List.set_cons_succ, List.set_cons_zero]))
          (refine mix_end (by kernel_rfl) ?_; intro W' hM)
          simp only [hdB, List.cons_append, List.nil_append] at hM
          have hM2 := (hM.toFront 3 rfl).re 0 rfl (h3 (.slice (some ⟨k1, 0, none⟩) LN c1) (.slice (some ⟨k2, 0, none⟩) LN c2) (.slice (some ⟨k3, 0, none⟩) LN c3)) (fun k hk => by simp [lay, hk])
          simp only [List.eraseIdx_cons_succ, List.eraseIdx_cons_zero, List.set_cons_zero] at hM2
          exact ⟨rfl, _, _, _, _, _, _, _, _, r, _, rfl, hr, .inr ⟨k1, c1, N1, F1, k2, c2, N2, F2, k3, c3, N3, F3, rfl, hBb, hNN, hFF, hM2.subl (.cons_cons _ (.cons_cons _ (.cons_cons _ (.cons_cons _ (.cons _ (.cons _ (.cons _ (.cons _ (.cons _ (.cons _ (.refl _)))))))))))⟩⟩
    · (refine step_zero _ rfl zeroHerd ?_; intro r hr; (simp only [Act.put, List.setIfInBounds_toArray, List.set_cons_succ, List.set_cons_zero]))
      (refine mix_one (i := 3) (by kernel_rfl) rfl (by kernel_rfl) rfl ?_)
      (refine step_call_more (β := Nat × Nat × Nat) (fun y => .agg (arr 3 (hdV d1 y.1 y.2.1 y.2.2))) (fun y => hdB d1 y.1 y.2.1 y.2.2) (fun _ => True) ?_; apply Exists.intro; apply Exists.intro; refine ⟨fun W => ?_, fun W hM => ?_, ?_⟩; (go_simp; exact ⟨rfl, rfl⟩); (exact (toHerd_any _ d1 HA1 HB1 HC1 W (HG1.out.below hM.below)).mono fun e w' ⟨y1, y2, y3, he, g1, g2, g3, hK⟩ => ⟨(y1, y2, y3), he, trivial, hM.front hK.below hK (hdB_ge g1 g2 g3)⟩); rintro ⟨la, lb, lc⟩ -; (try simp only [Act.put, List.setIfInBounds_toArray, List.set_cons_succ, List.set_cons_zero]))
      (refine mix_one (i := 4) (by kernel_rfl) rfl (by kernel_rfl) rfl ?_)
      (refine step_call_more (β := (Nat → Value) × Blocks) (fun y => .tuple #[.agg (arr 3 y.1), .int .i64 CC]) (fun y => y.2) (GoodH LN (vStringS SX) (vInt16S EX) (vUint16S FX) w) ?_; apply Exists.intro; apply Exists.intro; refine ⟨fun W => ?_, fun W hM => ?_, ?_⟩; (go_simp; exact ⟨rfl, rfl⟩); (exact (HS.out _ _ _ _ _ _ W hM.below (three_of hM 4 rfl) (three_of hM 0 rfl)).mono fun e w' h => GivesH.more hM h); rintro ⟨f, Kb⟩ hgd; rcases hgd with ⟨hn0, ⟨a1, c1, a2, c2, a3, c3, hf⟩, hk⟩ | ⟨k1, c1, N1, F1, k2, c2, N2, F2, k3, c3, N3, F3, hf, hBb, hNN, hFF, hk⟩ <;> dsimp only at hf hk <;> subst hf hk <;> (try simp only [Act.put, List.setIfInBounds_toArray, List.set_cons_succ, List.set_cons_zero]))
      · refine mixQ_reads (s1 := #[true, true, true, true, true, true, true, true, true, false, false]) (g := 2) (by kernel_rfl) [5, 6, 7] _ _ (by decide) (by kernel_rfl) ?_
        (repeat (refine qs_plain rfl rfl ?_; first | (refine b_val ?_; apply Exists.intro; refine ⟨fun W => ?_, ?_⟩; (go_simp; rfl); (simp only [Act.put, List.setIfInBounds_toArray, List.set_cons_succ, List.set_cons_zero])))); (with_reducible refine qs_nil ?_)
        (refine mix_one (i := 9) (by kernel_rfl) rfl (by kernel_rfl) rfl ?_)
        (refine step_lay _ _ _ rfl _ _ rfl _ _ rfl 3 rfl hr (rowTab _ _ rfl) (by omega) (fun k _ => h3_one rfl rfl rfl k) ?_; simp only [List.set]; (simp only [Act.put, List.setIfInBounds_toArray, List.set_cons_succ, List.set_cons_zero]))
        (refine mix_one (i := 10) (by kernel_rfl) rfl (by kernel_rfl) rfl ?_)
        (refine step_val ?_; apply Exists.intro; refine ⟨fun W => ?_, ?_⟩; (go_simp; rfl); (simp only [Act.put, List.setIfInBounds_toArray, List.set_cons_succ, List.set_cons_zero]))
        (refine mix_end (by kernel_rfl) ?_; intro W' hM)
        simp only [hdB, List.cons_append, List.nil_append] at hM
        have hM2 := (hM.toFront 3 rfl).re 0 rfl (h3 (.slice a1 0 c1) (.slice a2 0 c2) (.slice a3 0 c3)) (fun k hk => by simp [lay, hk])
        simp only [List.eraseIdx_cons_succ, List.eraseIdx_cons_zero, List.set_cons_zero] at hM2
        exact ⟨rfl, _, _, _, _, _, _, _, _, r, _, rfl, hr, .inl ⟨hn0, ⟨a1, c1, a2, c2, a3, c3, rfl⟩, hM2.subl (.cons_cons _ (.cons _ (.cons _ (.cons _ (.cons _ (.cons _ (.cons _ (.refl _))))))))⟩⟩
      · refine mixQ_reads (s1 := #[true, true, true, true, true, true, true, true, true, false, false]) (g := 2) (by kernel_rfl) [5, 6, 7] _ _ (by decide) (by kernel_rfl) ?_
        (repeat (refine qs_plain rfl rfl ?_; first | (refine b_val ?_; apply Exists.intro; refine ⟨fun W => ?_, ?_⟩; (go_simp; rfl); (simp only [Act.put, List.setIfInBounds_toArray, List.set_cons_succ, List.set_cons_zero])))); (with_reducible refine qs_nil ?_)
        (refine mix_one (i := 9) (by kernel_rfl) rfl (by kernel_rfl) rfl ?_)
        (refine step_lay _ _ _ rfl _ _ rfl _ _ rfl 6 rfl hr (rowTab _ _ rfl) (by omega) (fun k _ => h3_one rfl rfl rfl k) ?_; simp only [List.set]; (simp only [Act.put, List.setIfInBounds_toArray, List.set_cons_succ, List.set_cons_zero]))
        (refine mix_one (i := 10) (by kernel_rfl) rfl (by kernel_rfl) rfl ?_)
        (refine step_val ?_; apply Exists.intro; refine ⟨fun W => ?_, ?_⟩; (go_simp; rfl); (simp only [Act.put, List.setIfInBounds_toArray, List.set_cons_succ, List.set_cons_zero]))
        (refine mix_end (by kernel_rfl) ?_; intro W' hM)
        simp only [hdB, List.cons_append, List.nil_append] at hM
        have hM2 := (hM.toFront 6 rfl).re 0 rfl (h3 (.slice (some ⟨k1, 0, none⟩) LN c1) (.slice (some ⟨k2, 0, none⟩) LN c2) (.slice (some ⟨k3, 0, none⟩) LN c3)) (fun k hk => by simp [lay, hk])
        simp only [List.eraseIdx_cons_succ, List.eraseIdx_cons_zero, List.set_cons_zero] at hM2
        exact ⟨rfl, _, _, _, _, _, _, _, _, r, _, rfl, hr, .inr ⟨k1, c1, N1, F1, k2, c2, N2, F2, k3, c3, N3, F3, rfl, hBb, hNN, hFF, hM2.subl (.cons_cons _ (.cons_cons _ (.cons_cons _ (.cons_cons _ (.cons _ (.cons _ (.cons _ (.cons _ (.cons _ (.cons _ (.refl _)))))))))))⟩⟩
  · (refine step_zero _ rfl zeroHerd ?_; intro r hr; (simp only [Act.put, List.setIfInBounds_toArray, List.set_cons_succ, List.set_cons_zero]))
    (refine mix_one (i := 1) (by kernel_rfl) rfl (by kernel_rfl) rfl ?_)
    (refine step_call_more (β := Nat × Nat × Nat) (fun y => .agg (arr 3 (hdV d0 y.1 y.2.1 y.2.2))) (fun y => hdB d0 y.1 y.2.1 y.2.2) (fun _ => True) ?_; apply Exists.intro; apply Exists.intro; refine ⟨fun W => ?_, fun W hM => ?_, ?_⟩; (go_simp; exact ⟨rfl, rfl⟩); (exact (toHerd_any _ d0 HA0 HB0 HC0 W (HG0.out.below hM.below)).mono fun e w' ⟨y1, y2, y3, he, g1, g2, g3, hK⟩ => ⟨(y1, y2, y3), he, trivial, hM.front hK.below hK (hdB_ge g1 g2 g3)⟩); rintro ⟨ja, jb, jc⟩ -; (try simp only [Act.put, List.setIfInBounds_toArray, List.set_cons_succ, List.set_cons_zero]))
    (refine mix_one (i := 3) (by kernel_rfl) rfl (by kernel_rfl) rfl ?_)
    (refine step_call_more (β := Nat × Nat × Nat) (fun y => .agg (arr 3 (hdV d1 y.1 y.2.1 y.2.2))) (fun y => hdB d1 y.1 y.2.1 y.2.2) (fun _ => True) ?_; apply Exists.intro; apply Exists.intro; refine ⟨fun W => ?_, fun W hM => ?_, ?_⟩; (go_simp; exact ⟨rfl, rfl⟩); (exact (toHerd_any _ d1 HA1 HB1 HC1 W (HG1.out.below hM.below)).mono fun e w' ⟨y1, y2, y3, he, g1, g2, g3, hK⟩ => ⟨(y1, y2, y3), he, trivial, hM.front hK.below hK (hdB_ge g1 g2 g3)⟩); rintro ⟨la, lb, lc⟩ -; (try simp only [Act.put, List.setIfInBounds_toArray, List.set_cons_succ, List.set_cons_zero]))
    (refine mix_one (i := 4) (by kernel_rfl) rfl (by kernel_rfl) rfl ?_)
    (refine step_call_more (β := (Nat → Value) × Blocks) (fun y => .tuple #[.agg (arr 3 y.1), .int .i64 CC]) (fun y => y.2) (GoodH LN (vStringS SX) (vInt16S EX) (vUint16S FX) w) ?_; apply Exists.intro; apply Exists.intro; refine ⟨fun W => ?_, fun W hM => ?_, ?_⟩; (go_simp; exact ⟨rfl, rfl⟩); (exact (HS.out _ _ _ _ _ _ W hM.below (three_of hM 3 rfl) (three_of hM 0 rfl)).mono fun e w' h => GivesH.more hM h); rintro ⟨f, Kb⟩ hgd; rcases hgd with ⟨hn0, ⟨a1, c1, a2, c2, a3, c3, hf⟩, hk⟩ | ⟨k1, c1, N1, F1, k2, c2, N2, F2, k3, c3, N3, F3, hf, hBb, hNN, hFF, hk⟩ <;> dsimp only at hf hk <;> subst hf hk <;> (try simp only [Act.put, List.setIfInBounds_toArray, List.set_cons_succ, List.set_cons_zero]))
    · refine mixQ_reads (s1 := #[true, true, true, true, true, true, true, true, true, false, false]) (g := 2) (by kernel_rfl) [5, 6, 7] _ _ (by decide) (by kernel_rfl) ?_
      (repeat (refine qs_plain rfl rfl ?_; first | (refine b_val ?_; apply Exists.intro; refine ⟨fun W => ?_, ?_⟩; (go_simp; rfl); (simp only [Act.put, List.setIfInBounds_toArray, List.set_cons_succ, List.set_cons_zero])))); (with_reducible refine qs_nil ?_)
      (refine mix_one (i := 9) (by kernel_rfl) rfl (by kernel_rfl) rfl ?_)
      (refine step_lay _ _ _ rfl _ _ rfl _ _ rfl 6 rfl hr (rowTab _ _ rfl) (by omega) (fun k _ => h3_one rfl rfl rfl k) ?_; simp only [List.set]; (simp only [Act.put, List.setIfInBounds_toArray, List.set_cons_succ, List.set_cons_zero]))
      (refine mix_one (i := 10) (by kernel_rfl) rfl (by kernel_rfl) rfl ?_)
      (refine step_val ?_; apply Exists.intro; refine ⟨fun W => ?_, ?_⟩; (go_simp; rfl); (simp only [Act.put, List.setIfInBounds_toArray, List.set_cons_succ, List.set_cons_zero]))
      (refine mix_end (by kernel_rfl) ?_; intro W' hM)
      simp only [hdB, List.cons_append, List.nil_append] at hM
      have hM2 := (hM.toFront 6 rfl).re 0 rfl (h3 (.slice a1 0 c1) (.slice a2 0 c2) (.slice a3 0 c3)) (fun k hk => by simp [lay, hk])
      simp only [List.eraseIdx_cons_succ, List.eraseIdx_cons_zero, List.set_cons_zero] at hM2
      exact ⟨rfl, _, _, _, _, _, _, _, _, r, _, rfl, hr, .inl ⟨hn0, ⟨a1, c1, a2, c2, a3, c3, rfl⟩, hM2.subl (.cons_cons _ (.cons _ (.cons _ (.cons _ (.cons _ (.cons _ (.cons _ (.refl _))))))))⟩⟩
    · refine mixQ_reads (s1 := #[true, true, true, true, true, true, true, true, true, false, false]) (g := 2) (by kernel_rfl) [5, 6, 7] _ _ (by decide) (by kernel_rfl) ?_
      (repeat (refine qs_plain rfl rfl ?_; first | (refine b_val ?_; apply Exists.intro; refine ⟨fun W => ?_, ?_⟩; (go_simp; rfl); (simp only [Act.put, List.setIfInBounds_toArray, List.set_cons_succ, List.set_cons_zero])))); (with_reducible refine qs_nil ?_)
      (refine mix_one (i := 9) (by kernel_rfl) rfl (by kernel_rfl) rfl ?_)
      (refine step_lay _ _ _ rfl _ _ rfl _ _ rfl 9 rfl hr (rowTab _ _ rfl) (by omega) (fun k _ => h3_one rfl rfl rfl k) ?_; simp only [List.set]; (simp only [Act.put, List.setIfInBounds_toArray, List.set_cons_succ, List.set_cons_zero]))
      (refine mix_one (i := 10) (by kernel_rfl) rfl (by kernel_rfl) rfl ?_)
      (refine step_val ?_; apply Exists.intro; refine ⟨fun W => ?_, ?_⟩; (go_simp; rfl); (simp only [Act.put, List.setIfInBounds_toArray, List.set_cons_succ, List.set_cons_zero]))
      (refine mix_end (by kernel_rfl) ?_; intro W' hM)
      simp only [hdB, List.cons_append, List.nil_append] at hM
      have hM2 := (hM.toFront 9 rfl).re 0 rfl (h3 (.slice (some ⟨k1, 0, none⟩) LN c1) (.slice (some ⟨k2, 0, none⟩) LN c2) (.slice (some ⟨k3, 0, none⟩) LN c3)) (fun k hk => by simp [lay, hk])
      simp only [List.eraseIdx_cons_succ, List.eraseIdx_cons_zero, List.set_cons_zero] at hM2
      exact ⟨rfl, _, _, _, _, _, _, _, _, r, _, rfl, hr, .inr ⟨k1, c1, N1, F1, k2, c2, N2, F2, k3, c3, N3, F3, rfl, hBb, hNN, hFF, hM2.subl (.cons_cons _ (.cons_cons _ (.cons_cons _ (.cons_cons _ (.cons _ (.cons _ (.cons _ (.cons _ (.cons _ (.cons _ (.refl _)))))))))))⟩⟩

set_option maxRecDepth 100000 in
set_option maxHeartbeats 8000000 in
theorem lawJoinHerds_r31 (LN : Nat) (SX : Nat → ByteArray) (EX FX : Nat → Int) (CC : Int) (d0 : Hd) (HA0 : d0.n1 ≤ 1048576) (HB0 : d0.n2 ≤ 1048576) (HC0 : d0.n3 ≤ 1048576) (f0 : Nat → Value) (d1 : Hd) (HA1 : d1.n1 ≤ 1048576) (HB1 : d1.n2 ≤ 1048576) (HC1 : d1.n3 ≤ 1048576) (f1 : Nat → Value) (w : World) (hG0 : HerdArg w (.agg (arr 3 f0)) d0) (hG1 : HerdArg w (.agg (arr 3 f1)) d1)
    (hS : ∀ (x0 y0 z0 x1 y1 z1 : Nat) (W : World), Below w.heap.size w W → Mem W (hdB d0 x0 y0 z0) W → Mem W (hdB d1 x1 y1 z1) W → Calls Tryd.prog 37 #[.agg (arr 3 (hdV d0 x0 y0 z0)), .agg (arr 3 (hdV d1 x1 y1 z1))] W (GivesH LN (vStringS SX) (vInt16S EX) (vUint16S FX) CC W))
    (L : Blocks) (q0 q1 i0 i1 : Nat) (h0 : L[i0]? = some (q0, 3, f0)) (h1 : L[i1]? = some (q1, 3, f1)) (t0 t1 t4 t5 t6 t7 t8 t9 t10 t11 t12 t13 t14 t15 t16 t17 t18 t19 t20 t21 t22 t23 t24 t25 t26 t27 t28 t29 t30 t31 t32 t33 t34 t35 t36 t37 t38 t39 t40 t41 t42 t43 t44 t45 t46 t47 t48 t49 t50 t51 t52 t53 t54 t55 t56 t57 t58 t59 t60 t61 t62 t63 t64 t65 t66 t67 t68 t69 t70 t71 t72 t73 t74 t75 t76 t77 t78 t79 t80 t81 t82 t83 t84 t85 t86 t87 t88 t89 t90 t91 t92 t93 t94 t95 t96 t97 t98 t99 t100 t101 t102 t103 t104 t105 t106 t107 t108 t109 t110 t111 t112 t113 t114 t115 t116 t117 t118 : Value) (W : World) (hM0 : Mem (Base.of w) L W) :
    (cL (cR (cR (cR (cR (cR (cR (cR (cR (cR (cR (cR (cR (cR (cR (cR (cR (cR (cR (cR (cR (cR (cR (cR (Tryd.f9.body.getD .skip))))))))))))))))))))))))).wp Tryd.prog (fun e a' w' => e = .normal ∧ ∃ v94 v95 v96 v97 v98 v99 v100 v101 r f, a' = ⟨(List.toArray (t0 :: t1 :: .pointer (some ⟨q0, 0, none⟩) :: .pointer (some ⟨q1, 0, none⟩) :: t4 :: t5 :: t6 :: t7 :: t8 :: t9 :: t10 :: t11 :: t12 :: t13 :: t14 :: .pointer (some ⟨r, 0, none⟩) :: .int .i64 CC :: t17 :: t18 :: t19 :: t20 :: t21 :: t22 :: t23 :: t24 :: t25 :: t26 :: t27 :: t28 :: t29 :: t30 :: t31 :: t32 :: t33 :: t34 :: t35 :: t36 :: t37 :: t38 :: t39 :: t40 :: t41 :: t42 :: t43 :: t44 :: t45 :: t46 :: t47 :: t48 :: t49 :: t50 :: t51 :: t52 :: t53 :: t54 :: t55 :: t56 :: t57 :: t58 :: t59 :: t60 :: t61 :: t62 :: t63 :: t64 :: t65 :: t66 :: t67 :: t68 :: t69 :: t70 :: t71 :: t72 :: t73 :: t74 :: t75 :: t76 :: t77 :: t78 :: t79 :: t80 :: t81 :: t82 :: t83 :: t84 :: t85 :: t86 :: t87 :: t88 :: t89 :: t90 :: t91 :: t92 :: t93 :: v94 :: v95 :: v96 :: v97 :: v98 :: v99 :: v100 :: v101 :: t102 :: t103 :: t104 :: t105 :: t106 :: t107 :: t108 :: t109 :: t110 :: t111 :: t112 :: t113 :: t114 :: t115 :: t116 :: t117 :: t118 :: [])), []⟩ ∧ (Base.of w).B ≤ r ∧ ResH LN (vStringS SX) (vInt16S EX) (vUint16S FX) w L r f w') ⟨(List.toArray (t0 :: t1 :: .pointer (some ⟨q0, 0, none⟩) :: .pointer (some ⟨q1, 0, none⟩) :: t4 :: t5 :: t6 :: t7 :: t8 :: t9 :: t10 :: t11 :: t12 :: t13 :: t14 :: t15 :: t16 :: t17 :: t18 :: t19 :: t20 :: t21 :: t22 :: t23 :: t24 :: t25 :: t26 :: t27 :: t28 :: t29 :: t30 :: t31 :: t32 :: t33 :: t34 :: t35 :: t36 :: t37 :: t38 :: t39 :: t40 :: t41 :: t42 :: t43 :: t44 :: t45 :: t46 :: t47 :: t48 :: t49 :: t50 :: t51 :: t52 :: t53 :: t54 :: t55 :: t56 :: t57 :: t58 :: t59 :: t60 :: t61 :: t62 :: t63 :: t64 :: t65 :: t66 :: t67 :: t68 :: t69 :: t70 :: t71 :: t72 :: t73 :: t74 :: t75 :: t76 :: t77 :: t78 :: t79 :: t80 :: t81 :: t82 :: t83 :: t84 :: t85 :: t86 :: t87 :: t88 :: t89 :: t90 :: t91 :: t92 :: t93 :: t94 :: t95 :: t96 :: t97 :: t98 :: t99 :: t100 :: t101 :: t102 :: t103 :: t104 :: t105 :: t106 :: t107 :: t108 :: t109 :: t110 :: t111 :: t112 :: t113 :: t114 :: t115 :: t116 :: t117 :: t118 :: [])), []⟩ W := by
  have hM := hM0
  have HG0 := Lib.hid hG0
  have HG1 := Lib.hid hG1
  have HS := Lib.hid hS
  clear hM0 hG0 hG1 hS
  conv => arg 2; whnf
  ((try simp only [Act.put, List.setIfInBounds_toArray, List.set_cons_succ, List.set_cons_zero]); refine region_readsG [0, 2] [0, 2, 5, 6, 7] #[true, false, true, false, false, false, false, false, false, false, false] 9 (by decide) (by kernel_rfl) (by kernel_rfl) (by kernel_rfl) hM ?_; clear hM; (repeat (refine qs_plain rfl rfl ?_; first | (refine b_get _ _ rfl _ _ rfl i0 h0 (rowTab _ _ rfl) (by omega) ?_; (try simp only [Nat.zero_add, Act.put, List.setIfInBounds_toArray, List.set_cons_succ, List.set_cons_zero])) | (refine b_get _ _ rfl _ _ rfl i1 h1 (rowTab _ _ rfl) (by omega) ?_; (try simp only [Nat.zero_add, Act.put, List.setIfInBounds_toArray, List.set_cons_succ, List.set_cons_zero])))); (with_reducible refine qs_nil ?_))
  (refine mix_two (i := 1) (j := 8) (by kernel_rfl) rfl rfl (by kernel_rfl) (by kernel_rfl) rfl rfl ?_ ?_)
  · (refine step_call_more (β := Nat × Nat × Nat) (fun y => .agg (arr 3 (hdV d0 y.1 y.2.1 y.2.2))) (fun y => hdB d0 y.1 y.2.1 y.2.2) (fun _ => True) ?_; apply Exists.intro; apply Exists.intro; refine ⟨fun W => ?_, fun W hM => ?_, ?_⟩; (go_simp; exact ⟨rfl, rfl⟩); (exact (toHerd_any _ d0 HA0 HB0 HC0 W (HG0.out.below hM.below)).mono fun e w' ⟨y1, y2, y3, he, g1, g2, g3, hK⟩ => ⟨(y1, y2, y3), he, trivial, hM.front hK.below hK (hdB_ge g1 g2 g3)⟩); rintro ⟨ja, jb, jc⟩ -; (try simp only [Act.put, List.setIfInBounds_toArray, List.set_cons_succ, List.set_cons_zero]))
    (refine mix_two (i := 3) (j := 8) (by kernel_rfl) rfl rfl (by kernel_rfl) (by kernel_rfl) rfl rfl ?_ ?_)
    · (refine step_call_more (β := Nat × Nat × Nat) (fun y => .agg (arr 3 (hdV d1 y.1 y.2.1 y.2.2))) (fun y => hdB d1 y.1 y.2.1 y.2.2) (fun _ => True) ?_; apply Exists.intro; apply Exists.intro; refine ⟨fun W => ?_, fun W hM => ?_, ?_⟩; (go_simp; exact ⟨rfl, rfl⟩); (exact (toHerd_any _ d1 HA1 HB1 HC1 W (HG1.out.below hM.below)).mono fun e w' ⟨y1, y2, y3, he, g1, g2, g3, hK⟩ => ⟨(y1, y2, y3), he, trivial, hM.front hK.below hK (hdB_ge g1 g2 g3)⟩); rintro ⟨la, lb, lc⟩ -; (try simp only [Act.put, List.setIfInBounds_toArray, List.set_cons_succ, List.set_cons_zero]))
      (refine mix_two (i := 4) (j := 8) (by kernel_rfl) rfl rfl (by kernel_rfl) (by kernel_rfl) rfl rfl ?_ ?_)
      · (refine step_call_more (β := (Nat → Value) × Blocks) (fun y => .tuple #[.agg (arr 3 y.1), .int .i64 CC]) (fun y => y.2) (GoodH LN (vStringS SX) (vInt16S EX) (vUint16S FX) w) ?_; apply Exists.intro; apply Exists.intro; refine ⟨fun W => ?_, fun W hM => ?_, ?_⟩; (go_simp; exact ⟨rfl, rfl⟩); (exact (HS.out _ _ _ _ _ _ W hM.below (three_of hM 3 rfl) (three_of hM 0 rfl)).mono fun e w' h => GivesH.more hM h); rintro ⟨f, Kb⟩ hgd; rcases hgd with ⟨hn0, ⟨a1, c1, a2, c2, a3, c3, hf⟩, hk⟩ | ⟨k1, c1, N1, F1, k2, c2, N2, F2, k3, c3, N3, F3, hf, hBb, hNN, hFF, hk⟩ <;> dsimp only at hf hk <;> subst hf hk <;> (try simp only [Act.put, List.setIfInBounds_toArray, List.set_cons_succ, List.set_cons_zero]))
        · refine mixQ_reads (s1 := #[true, true, true, true, true, true, true, true, false, false, false]) (g := 3) (by kernel_rfl) [5, 6, 7] _ _ (by decide) (by kernel_rfl) ?_
          (repeat (refine qs_plain rfl rfl ?_; first | (refine b_val ?_; apply Exists.intro; refine ⟨fun W => ?_, ?_⟩; (go_simp; rfl); (simp only [Act.put, List.setIfInBounds_toArray, List.set_cons_succ, List.set_cons_zero])))); (with_reducible refine qs_nil ?_)
          (refine mix_one (i := 8) (by kernel_rfl) rfl (by kernel_rfl) rfl ?_)
          (refine step_zero _ rfl zeroHerd ?_; intro r hr; (simp only [Act.put, List.setIfInBounds_toArray, List.set_cons_succ, List.set_cons_zero]))
          (refine mix_one (i := 9) (by kernel_rfl) rfl (by kernel_rfl) rfl ?_)
          (refine step_lay _ _ _ rfl _ _ rfl _ _ rfl 0 rfl hr (rowTab _ _ rfl) (by omega) (fun k _ => h3_one rfl rfl rfl k) ?_; simp only [List.set]; (simp only [Act.put, List.setIfInBounds_toArray, List.set_cons_succ, List.set_cons_zero]))
          (refine mix_one (i := 10) (by kernel_rfl) rfl (by kernel_rfl) rfl ?_)
          (refine step_val ?_; apply Exists.intro; refine ⟨fun W => ?_, ?_⟩; (go_simp; rfl); (simp only [Act.put, List.setIfInBounds_toArray, List.set_cons_succ, List.set_cons_zero]))
          (refine mix_end (by kernel_rfl) ?_; intro W' hM)
          simp only [hdB, List.cons_append, List.nil_append] at hM
          have hM2 := (hM.toFront 0 rfl).re 0 rfl (h3 (.slice a1 0 c1) (.slice a2 0 c2) (.slice a3 0 c3)) (fun k hk => by simp [lay, hk])
          simp only [List.eraseIdx_cons_succ, List.eraseIdx_cons_zero, List.set_cons_zero] at hM2
          exact ⟨rfl, _, _, _, _, _, _, _, _, r, _, rfl, hr, .inl ⟨hn0, ⟨a1, c1, a2, c2, a3, c3, rfl⟩, hM2.subl (.cons_cons _ (.cons _ (.cons _ (.cons _ (.cons _ (.cons _ (.cons _ (.refl _))))))))⟩⟩
        · refine mixQ_reads (s1 := #[true, true, true, true, true, true, true, true, false, false, false]) (g := 3) (by kernel_rfl) [5, 6, 7] _ _ (by decide) (by kernel_rfl) ?_
          (repeat (refine qs_plain rfl rfl ?_; first | (refine b_val ?_; apply Exists.intro; refine ⟨fun W => ?_, ?_⟩; (go_simp; rfl); (simp only [Act.put, List.setIfInBounds_toArray, List.set_cons_succ, List.set_cons_zero])))); (with_reducible refine qs_nil ?_)
          (refine mix_one (i := 8) (by kernel_rfl) rfl (by kernel_rfl) rfl ?_)
          (refine step_zero _ rfl zeroHerd ?_; intro r hr; (simp only [Act.put, List.setIfInBounds_toArray, List.set_cons_succ, List.set_cons_zero]))
          (refine mix_one (i := 9) (by kernel_rfl) rfl (by kernel_rfl) rfl ?_)
          (refine step_lay _ _ _ rfl _ _ rfl _ _ rfl 0 rfl hr (rowTab _ _ rfl) (by omega) (fun k _ => h3_one rfl rfl rfl k) ?_; simp only [List.set]; (simp only [Act.put, List.setIfInBounds_toArray, List.set_cons_succ, List.set_cons_zero]))
          (refine mix_one (i := 10) (by kernel_rfl) rfl (by kernel_rfl) rfl ?_)
          (refine step_val ?_; apply Exists.intro; refine ⟨fun W => ?_, ?_⟩; (go_simp; rfl); (simp only [Act.put, List.setIfInBounds_toArray, List.set_cons_succ, List.set_cons_zero]))
          (refine mix_end (by kernel_rfl) ?_; intro W' hM)
          simp only [hdB, List.cons_append, List.nil_append] at hM
          have hM2 := (hM.toFront 0 rfl).re 0 rfl (h3 (.slice (some ⟨k1, 0, none⟩) LN c1) (.slice (some ⟨k2, 0, none⟩) LN c2) (.slice (some ⟨k3, 0, none⟩) LN c3)) (fun k hk => by simp [lay, hk])
          simp only [List.eraseIdx_cons_succ, List.eraseIdx_cons_zero, List.set_cons_zero] at hM2
          exact ⟨rfl, _, _, _, _, _, _, _, _, r, _, rfl, hr, .inr ⟨k1, c1, N1, F1, k2, c2, N2, F2, k3, c3, N3, F3, rfl, hBb, hNN, hFF, hM2.subl (.cons_cons _ (.cons_cons _ (.cons_cons _ (.cons_cons _ (.cons _ (.cons _ (.cons _ (.cons _ (.cons _ (.cons _ (.refl _)))))))))))⟩⟩
      · (refine step_zero _ rfl zeroHerd ?_; intro r hr; (simp only [Act.put, List.setIfInBounds_toArray, List.set_cons_succ, List.set_cons_zero]))
        (refine mix_one (i := 4) (by kernel_rfl) rfl (by kernel_rfl) rfl ?_)
        (refine step_call_more (β := (Nat → Value) × Blocks) (fun y => .tuple #[.agg (arr 3 y.1), .int .i64 CC]) (fun y => y.2) (GoodH LN (vStringS SX) (vInt16S EX) (vUint16S FX) w) ?_; apply Exists.intro; apply Exists.intro; refine ⟨fun W => ?_, fun W hM => ?_, ?_⟩; (go_simp; exact ⟨rfl, rfl⟩); (exact (HS.out _ _ _ _ _ _ W hM.below (three_of hM 4 rfl) (three_of hM 1 rfl)).mono fun e w' h => GivesH.more hM h); rintro ⟨f, Kb⟩ hgd; rcases hgd with ⟨hn0, ⟨a1, c1, a2, c2, a3, c3, hf⟩, hk⟩ | ⟨k1, c1, N1, F1, k2, c2, N2, F2, k3, c3, N3, F3, hf, hBb, hNN, hFF, hk⟩ <;> dsimp only at hf hk <;> subst hf hk <;> (try simp only [Act.put, List.setIfInBounds_toArray, List.set_cons_succ, List.set_cons_zero]))
        · refine mixQ_reads (s1 := #[true, true, true, true, true, true, true, true, true, false, false]) (g := 2) (by kernel_rfl) [5, 6, 7] _ _ (by decide) (by kernel_rfl) ?_
          (repeat (refine qs_plain rfl rfl ?_; first | (refine b_val ?_; apply Exists.intro; refine ⟨fun W => ?_, ?_⟩; (go_simp; rfl); (simp only [Act.put, List.setIfInBounds_toArray, List.set_cons_succ, List.set_cons_zero])))); (with_reducible refine qs_nil ?_)
          (refine mix_one (i := 9) (by kernel_rfl) rfl (by kernel_rfl) rfl ?_)
          (refine step_lay _ _ _ rfl _ _ rfl _ _ rfl 0 rfl hr (rowTab _ _ rfl) (by omega) (fun k _ => h3_one rfl rfl rfl k) ?_; simp only [List.set]; (simp only [Act.put, List.setIfInBounds_toArray, List.set_cons_succ, List.set_cons_zero]))
          (refine mix_one (i := 10) (by kernel_rfl) rfl (by kernel_rfl) rfl ?_)
          (refine step_val ?_; apply Exists.intro; refine ⟨fun W => ?_, ?_⟩; (go_simp; rfl); (simp only [Act.put, List.setIfInBounds_toArray, List.set_cons_succ, List.set_cons_zero]))
          (refine mix_end (by kernel_rfl) ?_; intro W' hM)
          simp only [hdB, List.cons_append, List.nil_append] at hM
          have hM2 := (hM.toFront 0 rfl).re 0 rfl (h3 (.slice a1 0 c1) (.slice a2 0 c2) (.slice a3 0 c3)) (fun k hk => by simp [lay, hk])
          simp only [List.eraseIdx_cons_succ, List.eraseIdx_cons_zero, List.set_cons_zero] at hM2
          exact ⟨rfl, _, _, _, _, _, _, _, _, r, _, rfl, hr, .inl ⟨hn0, ⟨a1, c1, a2, c2, a3, c3, rfl⟩, hM2.subl (.cons_cons _ (.cons _ (.cons _ (.cons _ (.cons _ (.cons _ (.cons _ (.refl _))))))))⟩⟩
        · refine mixQ_reads (s1 := #[true, true, true, true, true, true, true, true, true, false, false]) (g := 2) (by kernel_rfl) [5, 6, 7] _ _ (by decide) (by kernel_rfl) ?_
          (repeat (refine qs_plain rfl rfl ?_; first | (refine b_val ?_; apply Exists.intro; refine ⟨fun W => ?_, ?_⟩; (go_simp; rfl); (simp only [Act.put, List.setIfInBounds_toArray, List.set_cons_succ, List.set_cons_zero])))); (with_reducible refine qs_nil ?_)
          (refine mix_one (i := 9) (by kernel_rfl) rfl (by kernel_rfl) rfl ?_)
          (refine step_lay _ _ _ rfl _ _ rfl _ _ rfl 3 rfl hr (rowTab _ _ rfl) (by omega) (fun k _ => h3_one rfl rfl rfl k) ?_; simp only [List.set]; (simp only [Act.put, List.setIfInBounds_toArray, List.set_cons_succ, List.set_cons_zero]))
          (refine mix_one (i := 10) (by kernel_rfl) rfl (by kernel_rfl) rfl ?_)
          (refine step_val ?_; apply Exists.intro; refine ⟨fun W => ?_, ?_⟩; (go_simp; rfl); (simp only [Act.put, List.setIfInBounds_toArray, List.set_cons_succ, List.set_cons_zero]))
          (refine mix_end (by kernel_rfl) ?_; intro W' hM)
          simp only [hdB, List.cons_append, List.nil_append] at hM
          have hM2 := (hM.toFront 3 rfl).re 0 rfl (h3 (.slice (some ⟨k1, 0, none⟩) LN c1) (.slice (some ⟨k2, 0, none⟩) LN c2) (.slice (some ⟨k3, 0, none⟩) LN c3)) (fun k hk => by simp [lay, hk])
          simp only [List.eraseIdx_cons_succ, List.eraseIdx_cons_zero, List.set_cons_zero] at hM2
          exact ⟨rfl, _, _, _, _, _, _, _, _, r, _, rfl, hr, .inr ⟨k1, c1, N1, F1, k2, c2, N2, F2, k3, c3, N3, F3, rfl, hBb, hNN, hFF, hM2.subl (.cons_cons _ (.cons_cons _ (.cons_cons _ (.cons_cons _ (.cons _ (.cons _ (.cons _ (.cons _ (.cons _ (.cons _ (.refl _)))))))))))⟩⟩
    · (refine step_zero _ rfl zeroHerd ?_; intro r hr; (simp only [Act.put, List.setIfInBounds_toArray, List.set_cons_succ, List.set_cons_zero]))
      (refine mix_one (i := 3) (by kernel_rfl) rfl (by kernel_rfl) rfl ?_)
      (refine step_call_more (β := Nat × Nat × Nat) (fun y => .agg (arr 3 (hdV d1 y.1 y.2.1 y.2.2))) (fun y => hdB d1 y.1 y.2.1 y.2.2) (fun _ => True) ?_; apply Exists.intro; apply Exists.intro; refine ⟨fun W => ?_, fun W hM => ?_, ?_⟩; (go_simp; exact ⟨rfl, rfl⟩); (exact (toHerd_any _ d1 HA1 HB1 HC1 W (HG1.out.below hM.below)).mono fun e w' ⟨y1, y2, y3, he, g1, g2, g3, hK⟩ => ⟨(y1, y2, y3), he, trivial, hM.front hK.below hK (hdB_ge g1 g2 g3)⟩); rintro ⟨la, lb, lc⟩ -; (try simp only [Act.put, List.setIfInBounds_toArray, List.set_cons_succ, List.set_cons_zero]))
      (refine mix_one (i := 4) (by kernel_rfl) rfl (by kernel_rfl) rfl ?_)
      (refine step_call_more (β := (Nat → Value) × Blocks) (fun y => .tuple #[.agg (arr 3 y.1), .int .i64 CC]) (fun y => y.2) (GoodH LN (vStringS SX) (vInt16S EX) (vUint16S FX) w) ?_; apply Exists.intro; apply Exists.intro; refine ⟨fun W => ?_, fun W hM => ?_, ?_⟩; (go_simp; exact ⟨rfl, rfl⟩); (exact (HS.out _ _ _ _ _ _ W hM.below (three_of hM 4 rfl) (three_of hM 0 rfl)).mono fun e w' h => GivesH.more hM h); rintro ⟨f, Kb⟩ hgd; rcases hgd with ⟨hn0, ⟨a1, c1, a2, c2, a3, c3, hf⟩, hk⟩ | ⟨k1, c1, N1, F1, k2, c2, N2, F2, k3, c3, N3, F3, hf, hBb, hNN, hFF, hk⟩ <;> dsimp only at hf hk <;> subst hf hk <;> (try simp only [Act.put, List.setIfInBounds_toArray, List.set_cons_succ, List.set_cons_zero]))
      · refine mixQ_reads (s1 := #[true, true, true, true, true, true, true, true, true, false, false]) (g := 2) (by kernel_rfl) [5, 6, 7] _ _ (by decide) (by kernel_rfl) ?_
        (repeat (refine qs_plain rfl rfl ?_; first | (refine b_val ?_; apply Exists.intro; refine ⟨fun W => ?_, ?_⟩; (go_simp; rfl); (simp only [Act.put, List.setIfInBounds_toArray, List.set_cons_succ, List.set_cons_zero])))); (with_reducible refine qs_nil ?_)
        (refine mix_one (i := 9) (by kernel_rfl) rfl (by kernel_rfl) rfl ?_)
        (refine step_lay _ _ _ rfl _ _ rfl _ _ rfl 3 rfl hr (rowTab _ _ rfl) (by omega) (fun k _ => h3_one rfl rfl rfl k) ?_; simp only [List.set]; (simp only [Act.put, List.setIfInBounds_toArray, List.set_cons_succ, List.set_cons_zero]))
        (refine mix_one (i := 10) (by kernel_rfl) rfl (by kernel_rfl) rfl ?_)
        (refine step_val ?_; apply Exists.intro; refine ⟨fun W => ?_, ?_⟩; (go_simp; rfl); (simp only [Act.put, List.setIfInBounds_toArray, List.set_cons_succ, List.set_cons_zero]))
        (refine mix_end (by kernel_rfl) ?_; intro W' hM)
        simp only [hdB, List.cons_append, List.nil_append] at hM
        have hM2 := (hM.toFront 3 rfl).re 0 rfl (h3 (.slice a1 0 c1) (.slice a2 0 c2) (.slice a3 0 c3)) (fun k hk => by simp [lay, hk])
        simp only [List.eraseIdx_cons_succ, List.eraseIdx_cons_zero, List.set_cons_zero] at hM2
        exact ⟨rfl, _, _, _, _, _, _, _, _, r, _, rfl, hr, .inl ⟨hn0, ⟨a1, c1, a2, c2, a3, c3, rfl⟩, hM2.subl (.cons_cons _ (.cons _ (.cons _ (.cons _ (.cons _ (.cons _ (.cons _ (.refl _))))))))⟩⟩
      · refine mixQ_reads (s1 := #[true, true, true, true, true, true, true, true, true, false, false]) (g := 2) (by kernel_rfl) [5, 6, 7] _ _ (by decide) (by kernel_rfl) ?_
        (repeat (refine qs_plain rfl rfl ?_; first | (refine b_val ?_; apply Exists.intro; refine ⟨fun W => ?_, ?_⟩; (go_simp; rfl); (simp only [Act.put, List.setIfInBounds_toArray, List.set_cons_succ, List.set_cons_zero])))); (with_reducible refine qs_nil ?_)
        (refine mix_one (i := 9) (by kernel_rfl) rfl (by kernel_rfl) rfl ?_)
        (refine step_lay _ _ _ rfl _ _ rfl _ _ rfl 6 rfl hr (rowTab _ _ rfl) (by omega) (fun k _ => h3_one rfl rfl rfl k) ?_; simp only [List.set]; (simp only [Act.put, List.setIfInBounds_toArray, List.set_cons_succ, List.set_cons_zero]))
        (refine mix_one (i := 10) (by kernel_rfl) rfl (by kernel_rfl) rfl ?_)
        (refine step_val ?_; apply Exists.intro; refine ⟨fun W => ?_, ?_⟩; (go_simp; rfl); (simp only [Act.put, List.setIfInBounds_toArray, List.set_cons_succ, List.set_cons_zero]))
        (refine mix_end (by kernel_rfl) ?_; intro W' hM)
        simp only [hdB, List.cons_append, List.nil_append] at hM
        have hM2 := (hM.toFront 6 rfl).re 0 rfl (h3 (.slice (some ⟨k1, 0, none⟩) LN c1) (.slice (some ⟨k2, 0, none⟩) LN c2) (.slice (some ⟨k3, 0, none⟩) LN c3)) (fun k hk => by simp [lay, hk])
        simp only [List.eraseIdx_cons_succ, List.eraseIdx_cons_zero, List.set_cons_zero] at hM2
        exact ⟨rfl, _, _, _, _, _, _, _, _, r, _, rfl, hr, .inr ⟨k1, c1, N1, F1, k2, c2, N2, F2, k3, c3, N3, F3, rfl, hBb, hNN, hFF, hM2.subl (.cons_cons _ (.cons_cons _ (.cons_cons _ (.cons_cons _ (.cons _ (.cons _ (.cons _ (.cons _ (.cons _ (.cons _ (.refl _)))))))))))⟩⟩
  · (refine step_zero _ rfl zeroHerd ?_; intro r hr; (simp only [Act.put, List.setIfInBounds_toArray, List.set_cons_succ, List.set_cons_zero]))
    (refine mix_one (i := 1) (by kernel_rfl) rfl (by kernel_rfl) rfl ?_)
    (refine step_call_more (β := Nat × Nat × Nat) (fun y => .agg (arr 3 (hdV d0 y.1 y.2.1 y.2.2))) (fun y => hdB d0 y.1 y.2.1 y.2.2) (fun _ => True) ?_; apply Exists.intro; apply Exists.intro; refine ⟨fun W => ?_, fun W hM => ?_, ?_⟩; (go_simp; exact ⟨rfl, rfl⟩); (exact (toHerd_any _ d0 HA0 HB0 HC0 W (HG0.out.below hM.below)).mono fun e w' ⟨y1, y2, y3, he, g1, g2, g3, hK⟩ => ⟨(y1, y2, y3), he, trivial, hM.front hK.below hK (hdB_ge g1 g2 g3)⟩); rintro ⟨ja, jb, jc⟩ -; (try simp only [Act.put, List.setIfInBounds_toArray, List.set_cons_succ, List.set_cons_zero]))
    (refine mix_one (i := 3) (by kernel_rfl) rfl (by kernel_rfl) rfl ?_)
    (refine step_call_more (β := Nat × Nat × Nat) (fun y => .agg (arr 3 (hdV d1 y.1 y.2.1 y.2.2))) (fun y => hdB d1 y.1 y.2.1 y.2.2) (fun _ => True) ?_; apply Exists.intro; apply Exists.intro; refine ⟨fun W => ?_, fun W hM => ?_, ?_⟩; (go_simp; exact ⟨rfl, rfl⟩); (exact (toHerd_any _ d1 HA1 HB1 HC1 W (HG1.out.below hM.below)).mono fun e w' ⟨y1, y2, y3, he, g1, g2, g3, hK⟩ => ⟨(y1, y2, y3), he, trivial, hM.front hK.below hK (hdB_ge g1 g2 g3)⟩); rintro ⟨la, lb, lc⟩ -; (try simp only [Act.put, List.setIfInBounds_toArray, List.set_cons_succ, List.set_cons_zero]))
    (refine mix_one (i := 4) (by kernel_rfl) rfl (by kernel_rfl) rfl ?_)
    (refine step_call_more (β := (Nat → Value) × Blocks) (fun y => .tuple #[.agg (arr 3 y.1), .int .i64 CC]) (fun y => y.2) (GoodH LN (vStringS SX) (vInt16S EX) (vUint16S FX) w) ?_; apply Exists.intro; apply Exists.intro; refine ⟨fun W => ?_, fun W hM => ?_, ?_⟩; (go_simp; exact ⟨rfl, rfl⟩); (exact (HS.out _ _ _ _ _ _ W hM.below (three_of hM 3 rfl) (three_of hM 0 rfl)).mono fun e w' h => GivesH.more hM h); rintro ⟨f, Kb⟩ hgd; rcases hgd with ⟨hn0, ⟨a1, c1, a2, c2, a3, c3, hf⟩, hk⟩ | ⟨k1, c1, N1, F1, k2, c2, N2, F2, k3, c3, N3, F3, hf, hBb, hNN, hFF, hk⟩ <;> dsimp only at hf hk <;> subst hf hk <;> (try simp only [Act.put, List.setIfInBounds_toArray, List.set_cons_succ, List.set_cons_zero]))
    · refine mixQ_reads (s1 := #[true, true, true, true, true, true, true, true, true, false, false]) (g := 2) (by kernel_rfl) [5, 6, 7] _ _ (by decide) (by kernel_rfl) ?_
      (repeat (refine qs_plain rfl rfl ?_; first | (refine b_val ?_; apply Exists.intro; refine ⟨fun W => ?_, ?_⟩; (go_simp; rfl); (simp only [Act.put, List.setIfInBounds_toArray, List.set_cons_succ, List.set_cons_zero])))); (with_reducible refine qs_nil ?_)
      (refine mix_one (i := 9) (by kernel_rfl) rfl (by kernel_rfl) rfl ?_)
      (refine step_lay _ _ _ rfl _ _ rfl _ _ rfl 6 rfl hr (rowTab _ _ rfl) (by omega) (fun k _ => h3_one rfl rfl rfl k) ?_; simp only [List.set]; (simp only [Act.put, List.setIfInBounds_toArray, List.set_cons_succ, List.set_cons_zero]))
      (refine mix_one (i := 10) (by kernel_rfl) rfl (by kernel_rfl) rfl ?_)
      (refine step_val ?_; apply Exists.intro; refine ⟨fun W => ?_, ?_⟩; (go_simp; rfl); (simp only [Act.put, List.setIfInBounds_toArray, List.set_cons_succ, List.set_cons_zero]))
      (refine mix_end (by kernel_rfl) ?_; intro W' hM)
      simp only [hdB, List.cons_append, List.nil_append] at hM
      have hM2 := (hM.toFront 6 rfl).re 0 rfl (h3 (.slice a1 0 c1) (.slice a2 0 c2) (.slice a3 0 c3)) (fun k hk => by simp [lay, hk])
      simp only [List.eraseIdx_cons_succ, List.eraseIdx_cons_zero, List.set_cons_zero] at hM2
      exact ⟨rfl, _, _, _, _, _, _, _, _, r, _, rfl, hr, .inl ⟨hn0, ⟨a1, c1, a2, c2, a3, c3, rfl⟩, hM2.subl (.cons_cons _ (.cons _ (.cons _ (.cons _ (.cons _ (.cons _ (.cons _ (.refl _))))))))⟩⟩
    · refine mixQ_reads (s1 := #[true, true, true, true, true, true, true, true, true, false, false]) (g := 2) (by kernel_rfl) [5, 6, 7] _ _ (by decide) (by kernel_rfl) ?_
      (repeat (refine qs_plain rfl rfl ?_; first | (refine b_val ?_; apply Exists.intro; refine ⟨fun W => ?_, ?_⟩; (go_simp; rfl); (simp only [Act.put, List.setIfInBounds_toArray, List.set_cons_succ, List.set_cons_zero])))); (with_reducible refine qs_nil ?_)
      (refine mix_one (i := 9) (by kernel_rfl) rfl (by kernel_rfl) rfl ?_)
      (refine step_lay _ _ _ rfl _ _ rfl _ _ rfl 9 rfl hr (rowTab _ _ rfl) (by omega) (fun k _ => h3_one rfl rfl rfl k) ?_; simp only [List.set]; (simp only [Act.put, List.setIfInBounds_toArray, List.set_cons_succ, List.set_cons_zero]))
      (refine mix_one (i := 10) (by kernel_rfl) rfl (by kernel_rfl) rfl ?_)
      (refine step_val ?_; apply Exists.intro; refine ⟨fun W => ?_, ?_⟩; (go_simp; rfl); (simp only [Act.put, List.setIfInBounds_toArray, List.set_cons_succ, List.set_cons_zero]))
      (refine mix_end (by kernel_rfl) ?_; intro W' hM)
      simp only [hdB, List.cons_append, List.nil_append] at hM
      have hM2 := (hM.toFront 9 rfl).re 0 rfl (h3 (.slice (some ⟨k1, 0, none⟩) LN c1) (.slice (some ⟨k2, 0, none⟩) LN c2) (.slice (some ⟨k3, 0, none⟩) LN c3)) (fun k hk => by simp [lay, hk])
      simp only [List.eraseIdx_cons_succ, List.eraseIdx_cons_zero, List.set_cons_zero] at hM2
      exact ⟨rfl, _, _, _, _, _, _, _, _, r, _, rfl, hr, .inr ⟨k1, c1, N1, F1, k2, c2, N2, F2, k3, c3, N3, F3, rfl, hBb, hNN, hFF, hM2.subl (.cons_cons _ (.cons_cons _ (.cons_cons _ (.cons_cons _ (.cons _ (.cons _ (.cons _ (.cons _ (.cons _ (.cons _ (.refl _)))))))))))⟩⟩
end Go.Proofs.YthodkbmenndnoaaDoor

