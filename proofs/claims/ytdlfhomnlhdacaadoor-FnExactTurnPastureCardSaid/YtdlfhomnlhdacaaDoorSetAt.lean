/-
  spec.l01Set by contract: it writes one row of the pasture that its caller holds in a block.
-/
import Derived.Test.YtdlfhomnlhdacaaDoorTake
import Derived.Test.YtdlfhomnlhdacaaDoorClosed
namespace Go.Proofs.YtdlfhomnlhdacaaDoor
open Go Go.RowKit Go.BigFrame

theorem updB2_eq (G : Nat → Int) (i : Nat) (n : Int) (v : Value) (h : 102 ≤ i) : upd (upd (pas G) i v) i (.int .u16 n) = pas (setG G i n) := by
  rw [upd_upd]
  funext k
  unfold upd pas setG
  by_cases e : k = i
  · subst e; simp [kd_u16 h]
  · simp [e]
set_option maxRecDepth 100000 in
set_option maxHeartbeats 2000000 in
theorem l01Set_E (base : Base) (b7 b4 b2 b1 : Nat) (f7 f2 f1 : Nat → Value) (G : Nat → Int) (hb : base.B ≤ b4) (u v : Nat) (hu : u ≤ 9) (hv : v ≤ 9) (W : World) (hM0 : Mem base [(b7, 2, f7), (b4, 122, pas G), (b2, 122, f2), (b1, 122, f1)] W) :
    Calls Tryd.prog 68 #[.pointer (some ⟨b4, 0, none⟩), .agg (arr 2 (sp u v)), .int .i64 1, .bool true] W fun e W' => e = .returned (.tuple #[]) ∧ Mem base [(b7, 2, f7), (b4, 122, pas (tk2 G u v true)), (b2, 122, f2), (b1, 122, f1)] W' := by
  have hM := hM0
  clear hM0
  have e0 : pas G (102 + v) = .int .u16 (G (102 + v)) := pas_u16 G (by omega)
  have lx : (u : Int) < 10 := by omega
  have ly : (v : Int) < 10 := by omega
  have cx : IntKind.u64.wrap (u : Int) = u := IntWalk.u64_in _ (by omega)
  have mx : min u 16 = u := by omega
  have q1 := clrR_eq (G (102 + v)) u
  have tk_b5 : True := trivial
  go_enter Tryd.func68, Tryd.ntmps68
  go_wp2_with (first | (have _t := tk_b5; refine wpList_box rfl _ _ rfl _ _ rfl hM ?_; intro b5 W' hb5 hM'; clear hM tk_b5; have hM := hM'; clear hM') | (refine wpList_get1 rfl _ _ rfl _ _ rfl hM 0 rfl (cellTab _ rfl) (by omega) (.int .i8 (u : Int)) rfl ?_))
  ((try simp only [Act.put, List.setIfInBounds_toArray, List.set_cons_succ, List.set_cons_zero]); refine region_tail_mem (m := 12) (by kernel_rfl) (by kernel_rfl) ?_; (have hM' := hM.drew); clear hM; have hM := hM'; clear hM'; simp only [List.take_succ_cons, List.take_zero, List.drop_succ_cons, List.drop_zero]; (repeat (refine wps_plain rfl ?_; (first | (refine still_get1 hM _ _ rfl _ _ rfl 0 rfl (cellTab _ rfl) (by omega) (.int .i8 (v : Int)) rfl ?_) | (refine still_get1 hM _ _ rfl _ _ rfl 0 rfl (cellTab _ rfl) (by omega) (.int .i8 (u : Int)) rfl ?_) | (refine still_get1 hM _ _ rfl _ _ rfl 2 rfl (cellTab _ rfl) (by omega) _ (e0) ?_) | (refine still_val ?_; apply Exists.intro; refine ⟨fun W => ?_, ?_⟩; (go_simp; (try simp only [lx, ly, q1, if_true]); rfl))); (simp only [Act.put, List.setIfInBounds_toArray, List.set_cons_succ, List.set_cons_zero]))); unfold wpStill)
  go_wp2_with (first | (refine wpList_set1 rfl _ _ _ rfl _ _ rfl _ rfl ?_ hM 2 rfl (by assumption) (cellTab _ rfl) (by omega) ?_; (first | rfl | exact h1 _); intro W' hM'; clear hM; have hM := hM'; clear hM'; simp [List.set, Act.eval] at hM))
  have e1 := upd_at (pas G) (102 + v) (.int .u16 (clrR (G (102 + v)) u))
  have q2 := putR_on (G (102 + v)) u
  ((try simp only [Act.put, List.setIfInBounds_toArray, List.set_cons_succ, List.set_cons_zero]); refine region_tail_mem (m := 12) (by kernel_rfl) (by kernel_rfl) ?_; (have hM' := hM.drew); clear hM; have hM := hM'; clear hM'; simp only [List.take_succ_cons, List.take_zero, List.drop_succ_cons, List.drop_zero]; (repeat (refine wps_plain rfl ?_; (first | (refine still_get1 hM _ _ rfl _ _ rfl 0 rfl (cellTab _ rfl) (by omega) (.int .i8 (v : Int)) rfl ?_) | (refine still_get1 hM _ _ rfl _ _ rfl 0 rfl (cellTab _ rfl) (by omega) (.int .i8 (u : Int)) rfl ?_) | (refine still_get1 hM _ _ rfl _ _ rfl 2 rfl (cellTab _ rfl) (by omega) _ (e1) ?_) | (refine still_val ?_; apply Exists.intro; refine ⟨fun W => ?_, ?_⟩; (go_simp; (try simp only [lx, ly, q2, if_true]); rfl))); (simp only [Act.put, List.setIfInBounds_toArray, List.set_cons_succ, List.set_cons_zero]))); unfold wpStill)
  clear e1
  go_wp2_with (first | (refine wpList_set1 rfl _ _ _ rfl _ _ rfl _ rfl ?_ hM 2 rfl (by assumption) (cellTab _ rfl) (by omega) ?_; (first | rfl | exact h1 _); intro W' hM'; clear hM; have hM := hM'; clear hM'; simp [List.set, Act.eval] at hM))
  rw [updB2_eq _ _ _ _ (by omega)] at hM
  (try simp only [Exit.inBlock, Exit.then])
  refine bodyPost_ret (results_none rfl _ _ _) rfl ?_
  exact ⟨rfl, hM.drop⟩
set_option maxRecDepth 100000 in
set_option maxHeartbeats 2000000 in
theorem l01Set_S (base : Base) (b7 b4 b2 b1 : Nat) (f7 f2 f1 : Nat → Value) (G : Nat → Int) (hb : base.B ≤ b4) (u v : Nat) (hu : u ≤ 9) (hv : v ≤ 9) (W : World) (hM0 : Mem base [(b7, 2, f7), (b4, 122, pas G), (b2, 122, f2), (b1, 122, f1)] W) :
    Calls Tryd.prog 68 #[.pointer (some ⟨b4, 0, none⟩), .agg (arr 2 (sp u v)), .int .i64 2, .bool true] W fun e W' => e = .returned (.tuple #[]) ∧ Mem base [(b7, 2, f7), (b4, 122, pas (tk3 G u v true)), (b2, 122, f2), (b1, 122, f1)] W' := by
  have hM := hM0
  clear hM0
  have e0 : pas G (112 + v) = .int .u16 (G (112 + v)) := pas_u16 G (by omega)
  have lx : (u : Int) < 10 := by omega
  have ly : (v : Int) < 10 := by omega
  have cx : IntKind.u64.wrap (u : Int) = u := IntWalk.u64_in _ (by omega)
  have mx : min u 16 = u := by omega
  have q1 := clrR_eq (G (112 + v)) u
  have tk_b5 : True := trivial
  go_enter Tryd.func68, Tryd.ntmps68
  go_wp2_with (first | (have _t := tk_b5; refine wpList_box rfl _ _ rfl _ _ rfl hM ?_; intro b5 W' hb5 hM'; clear hM tk_b5; have hM := hM'; clear hM') | (refine wpList_get1 rfl _ _ rfl _ _ rfl hM 0 rfl (cellTab _ rfl) (by omega) (.int .i8 (u : Int)) rfl ?_))
  ((try simp only [Act.put, List.setIfInBounds_toArray, List.set_cons_succ, List.set_cons_zero]); refine region_tail_mem (m := 12) (by kernel_rfl) (by kernel_rfl) ?_; (have hM' := hM.drew); clear hM; have hM := hM'; clear hM'; simp only [List.take_succ_cons, List.take_zero, List.drop_succ_cons, List.drop_zero]; (repeat (refine wps_plain rfl ?_; (first | (refine still_get1 hM _ _ rfl _ _ rfl 0 rfl (cellTab _ rfl) (by omega) (.int .i8 (v : Int)) rfl ?_) | (refine still_get1 hM _ _ rfl _ _ rfl 0 rfl (cellTab _ rfl) (by omega) (.int .i8 (u : Int)) rfl ?_) | (refine still_get1 hM _ _ rfl _ _ rfl 2 rfl (cellTab _ rfl) (by omega) _ (e0) ?_) | (refine still_val ?_; apply Exists.intro; refine ⟨fun W => ?_, ?_⟩; (go_simp; (try simp only [lx, ly, q1, if_true]); rfl))); (simp only [Act.put, List.setIfInBounds_toArray, List.set_cons_succ, List.set_cons_zero]))); unfold wpStill)
  go_wp2_with (first | (refine wpList_set1 rfl _ _ _ rfl _ _ rfl _ rfl ?_ hM 2 rfl (by assumption) (cellTab _ rfl) (by omega) ?_; (first | rfl | exact h1 _); intro W' hM'; clear hM; have hM := hM'; clear hM'; simp [List.set, Act.eval] at hM))
  have e1 := upd_at (pas G) (112 + v) (.int .u16 (clrR (G (112 + v)) u))
  have q2 := putR_on (G (112 + v)) u
  ((try simp only [Act.put, List.setIfInBounds_toArray, List.set_cons_succ, List.set_cons_zero]); refine region_tail_mem (m := 12) (by kernel_rfl) (by kernel_rfl) ?_; (have hM' := hM.drew); clear hM; have hM := hM'; clear hM'; simp only [List.take_succ_cons, List.take_zero, List.drop_succ_cons, List.drop_zero]; (repeat (refine wps_plain rfl ?_; (first | (refine still_get1 hM _ _ rfl _ _ rfl 0 rfl (cellTab _ rfl) (by omega) (.int .i8 (v : Int)) rfl ?_) | (refine still_get1 hM _ _ rfl _ _ rfl 0 rfl (cellTab _ rfl) (by omega) (.int .i8 (u : Int)) rfl ?_) | (refine still_get1 hM _ _ rfl _ _ rfl 2 rfl (cellTab _ rfl) (by omega) _ (e1) ?_) | (refine still_val ?_; apply Exists.intro; refine ⟨fun W => ?_, ?_⟩; (go_simp; (try simp only [lx, ly, q2, if_true]); rfl))); (simp only [Act.put, List.setIfInBounds_toArray, List.set_cons_succ, List.set_cons_zero]))); unfold wpStill)
  clear e1
  go_wp2_with (first | (refine wpList_set1 rfl _ _ _ rfl _ _ rfl _ rfl ?_ hM 2 rfl (by assumption) (cellTab _ rfl) (by omega) ?_; (first | rfl | exact h1 _); intro W' hM'; clear hM; have hM := hM'; clear hM'; simp [List.set, Act.eval] at hM))
  rw [updB2_eq _ _ _ _ (by omega)] at hM
  go_end0
  exact ⟨rfl, hM.drop⟩
end Go.Proofs.YtdlfhomnlhdacaaDoor
