/-
  Several texts in one: OwnH.
-/
import Derived.Test.YthodkbmenndnoaaDoorP9
/-
  spec.l06Own by contract.
-/
namespace Go.Proofs.YthodkbmenndnoaaDoor
open Go Go.RowKit Go.BigFrame

theorem run_herd3 (a1 a2 a3 : Option Addr) (n1 n2 n3 c1 c2 c3 : Nat) (W : World) : (Instr.build 29 #[(0, .slice a1 n1 c1), (1, .slice a2 n2 c2), (2, .slice a3 n3 c3)]).run Tryd.prog W = .ok (.agg (arr 3 (h3 (.slice a1 n1 c1) (.slice a2 n2 c2) (.slice a3 n3 c3)))) W := by kernel_rfl
theorem exec_herd3 {o : Oper} {a : Act} (x y z : Operand) (ho : o.op = .build 29 #[(0, x), (1, y), (2, z)]) (a1 a2 a3 : Option Addr) (n1 n2 n3 c1 c2 c3 : Nat)
    (hx : a.eval x = .slice a1 n1 c1) (hy : a.eval y = .slice a2 n2 c2) (hz : a.eval z = .slice a3 n3 c3) (W : World) : (execOp a.eval o).run Tryd.prog W = .ok (.value (.agg (arr 3 (h3 (.slice a1 n1 c1) (.slice a2 n2 c2) (.slice a3 n3 c3))))) W := by
  unfold execOp
  simp only [ho, List.map_toArray, List.map_cons, List.map_nil, Sem.run_bind, Sem.run_pure, hx, hy, hz, run_herd3, Result.andThen_ok]
set_option maxRecDepth 100000 in
set_option maxHeartbeats 8000000 in
theorem l06Own_no (d : Hd) (bh b1 b2 b3 : Nat) (h0 : d.n1 = 0) (l2 : d.n2 = d.n1) (l3 : d.n3 = d.n1) (w : World) (hM0 : Mem w ((bh, 3, hdV d b1 b2 b3) :: hdB d b1 b2 b3) w) :
    Calls Tryd.prog 71 #[.pointer (some ⟨bh, 0, none⟩)] w fun e w' => ∃ f, e = .returned (.agg (arr 3 f)) ∧ OwnC d.n1 (vStringS d.ss) (vInt16S d.es) (vUint16S d.fs) w f w' := by
  have a1 : hdV d b1 b2 b3 0 = .slice (some ⟨b1, 0, none⟩) d.n1 d.n1 := rfl
  have a2 : hdV d b1 b2 b3 1 = .slice (some ⟨b2, 0, none⟩) d.n2 d.n2 := rfl
  have a3 : hdV d b1 b2 b3 2 = .slice (some ⟨b3, 0, none⟩) d.n3 d.n3 := rfl
  have hM := hM0
  simp only [hdB] at hM
  rw [l2] at a2 hM
  rw [l3] at a3 hM
  clear hM0
  generalize hdV d b1 b2 b3 = hv at a1 a2 a3 hM
  obtain ⟨n, e⟩ : ∃ n, d.n1 = n := ⟨_, rfl⟩
  rw [e] at h0 a1 a2 a3 hM ⊢
  generalize vStringS d.ss = R1 at hM ⊢
  generalize vInt16S d.es = R2 at hM ⊢
  generalize vUint16S d.fs = R3 at hM ⊢
  clear l2 l3 e
  subst h0
  have tk_r : True := trivial
  go_enter Tryd.func71, Tryd.ntmps71
  go_wp2_with (first | (have _t := tk_r; refine wpList_zero rfl _ rfl zeroHerd hM ?_; intro r W' hr hM'; clear hM tk_r; have hM := hM'; clear hM'))
  ((try simp only [Act.put, List.setIfInBounds_toArray, List.set_cons_succ, List.set_cons_zero]); refine region_readsX [1, 2, 3, 4, 7, 8, 9, 10, 13, 14, 15, 16] #[false, true, true, true, true, false, false, true, true, true, true, false, false, true, true, true, true, false, false, false] 8 [(r, 3, fun _ => .slice none 0 0)] (by kernel_rfl) (by kernel_rfl) (by kernel_rfl) hM ?_; clear hM; (repeat (refine qs_plain rfl rfl ?_; first | (refine b_get1 _ _ rfl _ _ rfl 0 rfl (cellTab _ rfl) (by omega) _ (a1) ?_; (simp only [Act.put, List.setIfInBounds_toArray, List.set_cons_succ, List.set_cons_zero])) | (refine b_get1 _ _ rfl _ _ rfl 0 rfl (cellTab _ rfl) (by omega) _ (a2) ?_; (simp only [Act.put, List.setIfInBounds_toArray, List.set_cons_succ, List.set_cons_zero])) | (refine b_get1 _ _ rfl _ _ rfl 0 rfl (cellTab _ rfl) (by omega) _ (a3) ?_; (simp only [Act.put, List.setIfInBounds_toArray, List.set_cons_succ, List.set_cons_zero])) | (refine b_val ?_; apply Exists.intro; refine ⟨fun W => ?_, ?_⟩; (go_simp; rfl); (simp only [Act.put, List.setIfInBounds_toArray, List.set_cons_succ, List.set_cons_zero])))); (with_reducible refine qs_nil ?_))
  (refine mix_three (i := 0) (j := 6) (k := 12) (by kernel_rfl) rfl rfl rfl (by kernel_rfl) (by kernel_rfl) (by kernel_rfl) rfl rfl rfl ?_ ?_ ?_)
  · (refine step_slice0 _ _ rfl _ str_under str_info0 ?_; intro s0 hs0; (simp only [Act.put, List.setIfInBounds_toArray, List.set_cons_succ, List.set_cons_zero]))
    (refine mix_three (i := 5) (j := 6) (k := 12) (by kernel_rfl) rfl rfl rfl (by kernel_rfl) (by kernel_rfl) (by kernel_rfl) rfl rfl rfl ?_ ?_ ?_)
    · (refine step_cat00 _ _ _ rfl _ 1 str_under str_info0 s0 rfl b1 0 _ rfl rfl ?_; (simp only [Act.put, List.setIfInBounds_toArray, List.set_cons_succ, List.set_cons_zero]))
      (refine mix_two (i := 6) (j := 12) (by kernel_rfl) rfl rfl (by kernel_rfl) (by kernel_rfl) rfl rfl ?_ ?_)
      · (refine step_slice0 _ _ rfl _ i16_under i16_info0 ?_; intro s1 hs1; (simp only [Act.put, List.setIfInBounds_toArray, List.set_cons_succ, List.set_cons_zero]))
        (refine mix_two (i := 11) (j := 12) (by kernel_rfl) rfl rfl (by kernel_rfl) (by kernel_rfl) rfl rfl ?_ ?_)
        · (refine step_cat00 _ _ _ rfl _ 1 i16_under i16_info0 s1 rfl b2 0 _ rfl rfl ?_; (simp only [Act.put, List.setIfInBounds_toArray, List.set_cons_succ, List.set_cons_zero]))
          (refine mix_one (i := 12) (by kernel_rfl) rfl (by kernel_rfl) rfl ?_)
          (refine step_slice0 _ _ rfl _ u16_under u16_info0 ?_; intro s2 hs2; (simp only [Act.put, List.setIfInBounds_toArray, List.set_cons_succ, List.set_cons_zero]))
          (refine mix_one (i := 17) (by kernel_rfl) rfl (by kernel_rfl) rfl ?_)
          (refine step_cat00 _ _ _ rfl _ 1 u16_under u16_info0 s2 rfl b3 0 _ rfl rfl ?_; (simp only [Act.put, List.setIfInBounds_toArray, List.set_cons_succ, List.set_cons_zero]))
          (refine mix_one (i := 18) (by kernel_rfl) rfl (by kernel_rfl) rfl ?_)
          (refine step_val ?_; refine ⟨_, fun W => exec_herd3 _ _ _ rfl _ _ _ _ _ _ _ _ _ rfl rfl rfl W, ?_⟩; (simp only [Act.put, List.setIfInBounds_toArray, List.set_cons_succ, List.set_cons_zero]))
          (refine mix_one (i := 19) (by kernel_rfl) rfl (by kernel_rfl) rfl ?_)
          (refine step_lay _ _ _ rfl _ _ rfl _ _ rfl 3 rfl (by assumption) rowHerd (by omega) (fun k _ => h3_one rfl rfl rfl k) ?_; simp only [List.set]; (simp only [Act.put, List.setIfInBounds_toArray, List.set_cons_succ, List.set_cons_zero]))
          (refine mix_end (by kernel_rfl) ?_; intro W' hM; simp only [List.cons_append, List.nil_append] at hM)
          go_wp2
          have hA1 := (hM.ats 3 _ _ _ rfl).congr (g := h3 (.slice (some ⟨s0, 0, none⟩) 0 0) (.slice (some ⟨s1, 0, none⟩) 0 0) (.slice (some ⟨s2, 0, none⟩) 0 0)) (fun j hj => by simp [lay, hj])
          exact bodyPost_ret (results_at rfl _ rfl hA1 rowHerd) rfl ⟨_, rfl, s0, 0, _, s1, 0, _, s2, 0, _, rfl, ⟨by assumption, by assumption, by assumption⟩, ⟨Nat.le_refl _, Nat.le_refl _, Nat.le_refl _⟩, ⟨fun j hj => by omega, fun j hj => by omega, fun j hj => by omega⟩, hM.sub (fun i => [2, 1, 0].getD i 0) (fun i p h => by rcases i with _ | _ | _ | i <;> simp at h ⊢ <;> exact h) rfl⟩
        · (refine step_slice0 _ _ rfl _ u16_under u16_info0 ?_; intro s2 hs2; (simp only [Act.put, List.setIfInBounds_toArray, List.set_cons_succ, List.set_cons_zero]))
          (refine mix_one (i := 11) (by kernel_rfl) rfl (by kernel_rfl) rfl ?_)
          (refine step_cat00 _ _ _ rfl _ 1 i16_under i16_info0 s1 rfl b2 0 _ rfl rfl ?_; (simp only [Act.put, List.setIfInBounds_toArray, List.set_cons_succ, List.set_cons_zero]))
          (refine mix_one (i := 17) (by kernel_rfl) rfl (by kernel_rfl) rfl ?_)
          (refine step_cat00 _ _ _ rfl _ 1 u16_under u16_info0 s2 rfl b3 0 _ rfl rfl ?_; (simp only [Act.put, List.setIfInBounds_toArray, List.set_cons_succ, List.set_cons_zero]))
          (refine mix_one (i := 18) (by kernel_rfl) rfl (by kernel_rfl) rfl ?_)
          (refine step_val ?_; refine ⟨_, fun W => exec_herd3 _ _ _ rfl _ _ _ _ _ _ _ _ _ rfl rfl rfl W, ?_⟩; (simp only [Act.put, List.setIfInBounds_toArray, List.set_cons_succ, List.set_cons_zero]))
          (refine mix_one (i := 19) (by kernel_rfl) rfl (by kernel_rfl) rfl ?_)
          (refine step_lay _ _ _ rfl _ _ rfl _ _ rfl 3 rfl (by assumption) rowHerd (by omega) (fun k _ => h3_one rfl rfl rfl k) ?_; simp only [List.set]; (simp only [Act.put, List.setIfInBounds_toArray, List.set_cons_succ, List.set_cons_zero]))
          (refine mix_end (by kernel_rfl) ?_; intro W' hM; simp only [List.cons_append, List.nil_append] at hM)
          go_wp2
          have hA1 := (hM.ats 3 _ _ _ rfl).congr (g := h3 (.slice (some ⟨s0, 0, none⟩) 0 0) (.slice (some ⟨s1, 0, none⟩) 0 0) (.slice (some ⟨s2, 0, none⟩) 0 0)) (fun j hj => by simp [lay, hj])
          exact bodyPost_ret (results_at rfl _ rfl hA1 rowHerd) rfl ⟨_, rfl, s0, 0, _, s1, 0, _, s2, 0, _, rfl, ⟨by assumption, by assumption, by assumption⟩, ⟨Nat.le_refl _, Nat.le_refl _, Nat.le_refl _⟩, ⟨fun j hj => by omega, fun j hj => by omega, fun j hj => by omega⟩, hM.sub (fun i => [2, 1, 0].getD i 0) (fun i p h => by rcases i with _ | _ | _ | i <;> simp at h ⊢ <;> exact h) rfl⟩
      · (refine step_slice0 _ _ rfl _ u16_under u16_info0 ?_; intro s2 hs2; (simp only [Act.put, List.setIfInBounds_toArray, List.set_cons_succ, List.set_cons_zero]))
        (refine mix_one (i := 6) (by kernel_rfl) rfl (by kernel_rfl) rfl ?_)
        (refine step_slice0 _ _ rfl _ i16_under i16_info0 ?_; intro s1 hs1; (simp only [Act.put, List.setIfInBounds_toArray, List.set_cons_succ, List.set_cons_zero]))
        (refine mix_one (i := 11) (by kernel_rfl) rfl (by kernel_rfl) rfl ?_)
        (refine step_cat00 _ _ _ rfl _ 1 i16_under i16_info0 s1 rfl b2 0 _ rfl rfl ?_; (simp only [Act.put, List.setIfInBounds_toArray, List.set_cons_succ, List.set_cons_zero]))
        (refine mix_one (i := 17) (by kernel_rfl) rfl (by kernel_rfl) rfl ?_)
        (refine step_cat00 _ _ _ rfl _ 1 u16_under u16_info0 s2 rfl b3 0 _ rfl rfl ?_; (simp only [Act.put, List.setIfInBounds_toArray, List.set_cons_succ, List.set_cons_zero]))
        (refine mix_one (i := 18) (by kernel_rfl) rfl (by kernel_rfl) rfl ?_)
        (refine step_val ?_; refine ⟨_, fun W => exec_herd3 _ _ _ rfl _ _ _ _ _ _ _ _ _ rfl rfl rfl W, ?_⟩; (simp only [Act.put, List.setIfInBounds_toArray, List.set_cons_succ, List.set_cons_zero]))
        (refine mix_one (i := 19) (by kernel_rfl) rfl (by kernel_rfl) rfl ?_)
        (refine step_lay _ _ _ rfl _ _ rfl _ _ rfl 3 rfl (by assumption) rowHerd (by omega) (fun k _ => h3_one rfl rfl rfl k) ?_; simp only [List.set]; (simp only [Act.put, List.setIfInBounds_toArray, List.set_cons_succ, List.set_cons_zero]))
        (refine mix_end (by kernel_rfl) ?_; intro W' hM; simp only [List.cons_append, List.nil_append] at hM)
        go_wp2
        have hA1 := (hM.ats 3 _ _ _ rfl).congr (g := h3 (.slice (some ⟨s0, 0, none⟩) 0 0) (.slice (some ⟨s1, 0, none⟩) 0 0) (.slice (some ⟨s2, 0, none⟩) 0 0)) (fun j hj => by simp [lay, hj])
        exact bodyPost_ret (results_at rfl _ rfl hA1 rowHerd) rfl ⟨_, rfl, s0, 0, _, s1, 0, _, s2, 0, _, rfl, ⟨by assumption, by assumption, by assumption⟩, ⟨Nat.le_refl _, Nat.le_refl _, Nat.le_refl _⟩, ⟨fun j hj => by omega, fun j hj => by omega, fun j hj => by omega⟩, hM.sub (fun i => [2, 0, 1].getD i 0) (fun i p h => by rcases i with _ | _ | _ | i <;> simp at h ⊢ <;> exact h) rfl⟩
    · (refine step_slice0 _ _ rfl _ i16_under i16_info0 ?_; intro s1 hs1; (simp only [Act.put, List.setIfInBounds_toArray, List.set_cons_succ, List.set_cons_zero]))
      (refine mix_two (i := 5) (j := 12) (by kernel_rfl) rfl rfl (by kernel_rfl) (by kernel_rfl) rfl rfl ?_ ?_)
      · (refine step_cat00 _ _ _ rfl _ 1 str_under str_info0 s0 rfl b1 0 _ rfl rfl ?_; (simp only [Act.put, List.setIfInBounds_toArray, List.set_cons_succ, List.set_cons_zero]))
        (refine mix_two (i := 11) (j := 12) (by kernel_rfl) rfl rfl (by kernel_rfl) (by kernel_rfl) rfl rfl ?_ ?_)
        · (refine step_cat00 _ _ _ rfl _ 1 i16_under i16_info0 s1 rfl b2 0 _ rfl rfl ?_; (simp only [Act.put, List.setIfInBounds_toArray, List.set_cons_succ, List.set_cons_zero]))
          (refine mix_one (i := 12) (by kernel_rfl) rfl (by kernel_rfl) rfl ?_)
          (refine step_slice0 _ _ rfl _ u16_under u16_info0 ?_; intro s2 hs2; (simp only [Act.put, List.setIfInBounds_toArray, List.set_cons_succ, List.set_cons_zero]))
          (refine mix_one (i := 17) (by kernel_rfl) rfl (by kernel_rfl) rfl ?_)
          (refine step_cat00 _ _ _ rfl _ 1 u16_under u16_info0 s2 rfl b3 0 _ rfl rfl ?_; (simp only [Act.put, List.setIfInBounds_toArray, List.set_cons_succ, List.set_cons_zero]))
          (refine mix_one (i := 18) (by kernel_rfl) rfl (by kernel_rfl) rfl ?_)
          (refine step_val ?_; refine ⟨_, fun W => exec_herd3 _ _ _ rfl _ _ _ _ _ _ _ _ _ rfl rfl rfl W, ?_⟩; (simp only [Act.put, List.setIfInBounds_toArray, List.set_cons_succ, List.set_cons_zero]))
          (refine mix_one (i := 19) (by kernel_rfl) rfl (by kernel_rfl) rfl ?_)
          (refine step_lay _ _ _ rfl _ _ rfl _ _ rfl 3 rfl (by assumption) rowHerd (by omega) (fun k _ => h3_one rfl rfl rfl k) ?_; simp only [List.set]; (simp only [Act.put, List.setIfInBounds_toArray, List.set_cons_succ, List.set_cons_zero]))
          (refine mix_end (by kernel_rfl) ?_; intro W' hM; simp only [List.cons_append, List.nil_append] at hM)
          go_wp2
          have hA1 := (hM.ats 3 _ _ _ rfl).congr (g := h3 (.slice (some ⟨s0, 0, none⟩) 0 0) (.slice (some ⟨s1, 0, none⟩) 0 0) (.slice (some ⟨s2, 0, none⟩) 0 0)) (fun j hj => by simp [lay, hj])
          exact bodyPost_ret (results_at rfl _ rfl hA1 rowHerd) rfl ⟨_, rfl, s0, 0, _, s1, 0, _, s2, 0, _, rfl, ⟨by assumption, by assumption, by assumption⟩, ⟨Nat.le_refl _, Nat.le_refl _, Nat.le_refl _⟩, ⟨fun j hj => by omega, fun j hj => by omega, fun j hj => by omega⟩, hM.sub (fun i => [2, 1, 0].getD i 0) (fun i p h => by rcases i with _ | _ | _ | i <;> simp at h ⊢ <;> exact h) rfl⟩
        · (refine step_slice0 _ _ rfl _ u16_under u16_info0 ?_; intro s2 hs2; (simp only [Act.put, List.setIfInBounds_toArray, List.set_cons_succ, List.set_cons_zero]))
          (refine mix_one (i := 11) (by kernel_rfl) rfl (by kernel_rfl) rfl ?_)
          (refine step_cat00 _ _ _ rfl _ 1 i16_under i16_info0 s1 rfl b2 0 _ rfl rfl ?_; (simp only [Act.put, List.setIfInBounds_toArray, List.set_cons_succ, List.set_cons_zero]))
          (refine mix_one (i := 17) (by kernel_rfl) rfl (by kernel_rfl) rfl ?_)
          (refine step_cat00 _ _ _ rfl _ 1 u16_under u16_info0 s2 rfl b3 0 _ rfl rfl ?_; (simp only [Act.put, List.setIfInBounds_toArray, List.set_cons_succ, List.set_cons_zero]))
          (refine mix_one (i := 18) (by kernel_rfl) rfl (by kernel_rfl) rfl ?_)
          (refine step_val ?_; refine ⟨_, fun W => exec_herd3 _ _ _ rfl _ _ _ _ _ _ _ _ _ rfl rfl rfl W, ?_⟩; (simp only [Act.put, List.setIfInBounds_toArray, List.set_cons_succ, List.set_cons_zero]))
          (refine mix_one (i := 19) (by kernel_rfl) rfl (by kernel_rfl) rfl ?_)
          (refine step_lay _ _ _ rfl _ _ rfl _ _ rfl 3 rfl (by assumption) rowHerd (by omega) (fun k _ => h3_one rfl rfl rfl k) ?_; simp only [List.set]; (simp only [Act.put, List.setIfInBounds_toArray, List.set_cons_succ, List.set_cons_zero]))
          (refine mix_end (by kernel_rfl) ?_; intro W' hM; simp only [List.cons_append, List.nil_append] at hM)
          go_wp2
          have hA1 := (hM.ats 3 _ _ _ rfl).congr (g := h3 (.slice (some ⟨s0, 0, none⟩) 0 0) (.slice (some ⟨s1, 0, none⟩) 0 0) (.slice (some ⟨s2, 0, none⟩) 0 0)) (fun j hj => by simp [lay, hj])
          exact bodyPost_ret (results_at rfl _ rfl hA1 rowHerd) rfl ⟨_, rfl, s0, 0, _, s1, 0, _, s2, 0, _, rfl, ⟨by assumption, by assumption, by assumption⟩, ⟨Nat.le_refl _, Nat.le_refl _, Nat.le_refl _⟩, ⟨fun j hj => by omega, fun j hj => by omega, fun j hj => by omega⟩, hM.sub (fun i => [2, 1, 0].getD i 0) (fun i p h => by rcases i with _ | _ | _ | i <;> simp at h ⊢ <;> exact h) rfl⟩
      · (refine step_slice0 _ _ rfl _ u16_under u16_info0 ?_; intro s2 hs2; (simp only [Act.put, List.setIfInBounds_toArray, List.set_cons_succ, List.set_cons_zero]))
        (refine mix_one (i := 5) (by kernel_rfl) rfl (by kernel_rfl) rfl ?_)
        (refine step_cat00 _ _ _ rfl _ 1 str_under str_info0 s0 rfl b1 0 _ rfl rfl ?_; (simp only [Act.put, List.setIfInBounds_toArray, List.set_cons_succ, List.set_cons_zero]))
        (refine mix_one (i := 11) (by kernel_rfl) rfl (by kernel_rfl) rfl ?_)
        (refine step_cat00 _ _ _ rfl _ 1 i16_under i16_info0 s1 rfl b2 0 _ rfl rfl ?_; (simp only [Act.put, List.setIfInBounds_toArray, List.set_cons_succ, List.set_cons_zero]))
        (refine mix_one (i := 17) (by kernel_rfl) rfl (by kernel_rfl) rfl ?_)
        (refine step_cat00 _ _ _ rfl _ 1 u16_under u16_info0 s2 rfl b3 0 _ rfl rfl ?_; (simp only [Act.put, List.setIfInBounds_toArray, List.set_cons_succ, List.set_cons_zero]))
        (refine mix_one (i := 18) (by kernel_rfl) rfl (by kernel_rfl) rfl ?_)
        (refine step_val ?_; refine ⟨_, fun W => exec_herd3 _ _ _ rfl _ _ _ _ _ _ _ _ _ rfl rfl rfl W, ?_⟩; (simp only [Act.put, List.setIfInBounds_toArray, List.set_cons_succ, List.set_cons_zero]))
        (refine mix_one (i := 19) (by kernel_rfl) rfl (by kernel_rfl) rfl ?_)
        (refine step_lay _ _ _ rfl _ _ rfl _ _ rfl 3 rfl (by assumption) rowHerd (by omega) (fun k _ => h3_one rfl rfl rfl k) ?_; simp only [List.set]; (simp only [Act.put, List.setIfInBounds_toArray, List.set_cons_succ, List.set_cons_zero]))
        (refine mix_end (by kernel_rfl) ?_; intro W' hM; simp only [List.cons_append, List.nil_append] at hM)
        go_wp2
        have hA1 := (hM.ats 3 _ _ _ rfl).congr (g := h3 (.slice (some ⟨s0, 0, none⟩) 0 0) (.slice (some ⟨s1, 0, none⟩) 0 0) (.slice (some ⟨s2, 0, none⟩) 0 0)) (fun j hj => by simp [lay, hj])
        exact bodyPost_ret (results_at rfl _ rfl hA1 rowHerd) rfl ⟨_, rfl, s0, 0, _, s1, 0, _, s2, 0, _, rfl, ⟨by assumption, by assumption, by assumption⟩, ⟨Nat.le_refl _, Nat.le_refl _, Nat.le_refl _⟩, ⟨fun j hj => by omega, fun j hj => by omega, fun j hj => by omega⟩, hM.sub (fun i => [2, 1, 0].getD i 0) (fun i p h => by rcases i with _ | _ | _ | i <;> simp at h ⊢ <;> exact h) rfl⟩
    · (refine step_slice0 _ _ rfl _ u16_under u16_info0 ?_; intro s2 hs2; (simp only [Act.put, List.setIfInBounds_toArray, List.set_cons_succ, List.set_cons_zero]))
      (refine mix_two (i := 5) (j := 6) (by kernel_rfl) rfl rfl (by kernel_rfl) (by kernel_rfl) rfl rfl ?_ ?_)
      · (refine step_cat00 _ _ _ rfl _ 1 str_under str_info0 s0 rfl b1 0 _ rfl rfl ?_; (simp only [Act.put, List.setIfInBounds_toArray, List.set_cons_succ, List.set_cons_zero]))
        (refine mix_one (i := 6) (by kernel_rfl) rfl (by kernel_rfl) rfl ?_)
        (refine step_slice0 _ _ rfl _ i16_under i16_info0 ?_; intro s1 hs1; (simp only [Act.put, List.setIfInBounds_toArray, List.set_cons_succ, List.set_cons_zero]))
        (refine mix_one (i := 11) (by kernel_rfl) rfl (by kernel_rfl) rfl ?_)
        (refine step_cat00 _ _ _ rfl _ 1 i16_under i16_info0 s1 rfl b2 0 _ rfl rfl ?_; (simp only [Act.put, List.setIfInBounds_toArray, List.set_cons_succ, List.set_cons_zero]))
        (refine mix_one (i := 17) (by kernel_rfl) rfl (by kernel_rfl) rfl ?_)
        (refine step_cat00 _ _ _ rfl _ 1 u16_under u16_info0 s2 rfl b3 0 _ rfl rfl ?_; (simp only [Act.put, List.setIfInBounds_toArray, List.set_cons_succ, List.set_cons_zero]))
        (refine mix_one (i := 18) (by kernel_rfl) rfl (by kernel_rfl) rfl ?_)
        (refine step_val ?_; refine ⟨_, fun W => exec_herd3 _ _ _ rfl _ _ _ _ _ _ _ _ _ rfl rfl rfl W, ?_⟩; (simp only [Act.put, List.setIfInBounds_toArray, List.set_cons_succ, List.set_cons_zero]))
        (refine mix_one (i := 19) (by kernel_rfl) rfl (by kernel_rfl) rfl ?_)
        (refine step_lay _ _ _ rfl _ _ rfl _ _ rfl 3 rfl (by assumption) rowHerd (by omega) (fun k _ => h3_one rfl rfl rfl k) ?_; simp only [List.set]; (simp only [Act.put, List.setIfInBounds_toArray, List.set_cons_succ, List.set_cons_zero]))
        (refine mix_end (by kernel_rfl) ?_; intro W' hM; simp only [List.cons_append, List.nil_append] at hM)
        go_wp2
        have hA1 := (hM.ats 3 _ _ _ rfl).congr (g := h3 (.slice (some ⟨s0, 0, none⟩) 0 0) (.slice (some ⟨s1, 0, none⟩) 0 0) (.slice (some ⟨s2, 0, none⟩) 0 0)) (fun j hj => by simp [lay, hj])
        exact bodyPost_ret (results_at rfl _ rfl hA1 rowHerd) rfl ⟨_, rfl, s0, 0, _, s1, 0, _, s2, 0, _, rfl, ⟨by assumption, by assumption, by assumption⟩, ⟨Nat.le_refl _, Nat.le_refl _, Nat.le_refl _⟩, ⟨fun j hj => by omega, fun j hj => by omega, fun j hj => by omega⟩, hM.sub (fun i => [2, 0, 1].getD i 0) (fun i p h => by rcases i with _ | _ | _ | i <;> simp at h ⊢ <;> exact h) rfl⟩
      · (refine step_slice0 _ _ rfl _ i16_under i16_info0 ?_; intro s1 hs1; (simp only [Act.put, List.setIfInBounds_toArray, List.set_cons_succ, List.set_cons_zero]))
        (refine mix_one (i := 5) (by kernel_rfl) rfl (by kernel_rfl) rfl ?_)
        (refine step_cat00 _ _ _ rfl _ 1 str_under str_info0 s0 rfl b1 0 _ rfl rfl ?_; (simp only [Act.put, List.setIfInBounds_toArray, List.set_cons_succ, List.set_cons_zero]))
        (refine mix_one (i := 11) (by kernel_rfl) rfl (by kernel_rfl) rfl ?_)
        (refine step_cat00 _ _ _ rfl _ 1 i16_under i16_info0 s1 rfl b2 0 _ rfl rfl ?_; (simp only [Act.put, List.setIfInBounds_toArray, List.set_cons_succ, List.set_cons_zero]))
        (refine mix_one (i := 17) (by kernel_rfl) rfl (by kernel_rfl) rfl ?_)
        (refine step_cat00 _ _ _ rfl _ 1 u16_under u16_info0 s2 rfl b3 0 _ rfl rfl ?_; (simp only [Act.put, List.setIfInBounds_toArray, List.set_cons_succ, List.set_cons_zero]))
        (refine mix_one (i := 18) (by kernel_rfl) rfl (by kernel_rfl) rfl ?_)
        (refine step_val ?_; refine ⟨_, fun W => exec_herd3 _ _ _ rfl _ _ _ _ _ _ _ _ _ rfl rfl rfl W, ?_⟩; (simp only [Act.put, List.setIfInBounds_toArray, List.set_cons_succ, List.set_cons_zero]))
        (refine mix_one (i := 19) (by kernel_rfl) rfl (by kernel_rfl) rfl ?_)
        (refine step_lay _ _ _ rfl _ _ rfl _ _ rfl 3 rfl (by assumption) rowHerd (by omega) (fun k _ => h3_one rfl rfl rfl k) ?_; simp only [List.set]; (simp only [Act.put, List.setIfInBounds_toArray, List.set_cons_succ, List.set_cons_zero]))
        (refine mix_end (by kernel_rfl) ?_; intro W' hM; simp only [List.cons_append, List.nil_append] at hM)
        go_wp2
        have hA1 := (hM.ats 3 _ _ _ rfl).congr (g := h3 (.slice (some ⟨s0, 0, none⟩) 0 0) (.slice (some ⟨s1, 0, none⟩) 0 0) (.slice (some ⟨s2, 0, none⟩) 0 0)) (fun j hj => by simp [lay, hj])
        exact bodyPost_ret (results_at rfl _ rfl hA1 rowHerd) rfl ⟨_, rfl, s0, 0, _, s1, 0, _, s2, 0, _, rfl, ⟨by assumption, by assumption, by assumption⟩, ⟨Nat.le_refl _, Nat.le_refl _, Nat.le_refl _⟩, ⟨fun j hj => by omega, fun j hj => by omega, fun j hj => by omega⟩, hM.sub (fun i => [2, 0, 1].getD i 0) (fun i p h => by rcases i with _ | _ | _ | i <;> simp at h ⊢ <;> exact h) rfl⟩
  · (refine step_slice0 _ _ rfl _ i16_under i16_info0 ?_; intro s1 hs1; (simp only [Act.put, List.setIfInBounds_toArray, List.set_cons_succ, List.set_cons_zero]))
    (refine mix_two (i := 0) (j := 12) (by kernel_rfl) rfl rfl (by kernel_rfl) (by kernel_rfl) rfl rfl ?_ ?_)
    · (refine step_slice0 _ _ rfl _ str_under str_info0 ?_; intro s0 hs0; (simp only [Act.put, List.setIfInBounds_toArray, List.set_cons_succ, List.set_cons_zero]))
      (refine mix_two (i := 5) (j := 12) (by kernel_rfl) rfl rfl (by kernel_rfl) (by kernel_rfl) rfl rfl ?_ ?_)
      · (refine step_cat00 _ _ _ rfl _ 1 str_under str_info0 s0 rfl b1 0 _ rfl rfl ?_; (simp only [Act.put, List.setIfInBounds_toArray, List.set_cons_succ, List.set_cons_zero]))
        (refine mix_two (i := 11) (j := 12) (by kernel_rfl) rfl rfl (by kernel_rfl) (by kernel_rfl) rfl rfl ?_ ?_)
        · (refine step_cat00 _ _ _ rfl _ 1 i16_under i16_info0 s1 rfl b2 0 _ rfl rfl ?_; (simp only [Act.put, List.setIfInBounds_toArray, List.set_cons_succ, List.set_cons_zero]))
          (refine mix_one (i := 12) (by kernel_rfl) rfl (by kernel_rfl) rfl ?_)
          (refine step_slice0 _ _ rfl _ u16_under u16_info0 ?_; intro s2 hs2; (simp only [Act.put, List.setIfInBounds_toArray, List.set_cons_succ, List.set_cons_zero]))
          (refine mix_one (i := 17) (by kernel_rfl) rfl (by kernel_rfl) rfl ?_)
          (refine step_cat00 _ _ _ rfl _ 1 u16_under u16_info0 s2 rfl b3 0 _ rfl rfl ?_; (simp only [Act.put, List.setIfInBounds_toArray, List.set_cons_succ, List.set_cons_zero]))
          (refine mix_one (i := 18) (by kernel_rfl) rfl (by kernel_rfl) rfl ?_)
          (refine step_val ?_; refine ⟨_, fun W => exec_herd3 _ _ _ rfl _ _ _ _ _ _ _ _ _ rfl rfl rfl W, ?_⟩; (simp only [Act.put, List.setIfInBounds_toArray, List.set_cons_succ, List.set_cons_zero]))
          (refine mix_one (i := 19) (by kernel_rfl) rfl (by kernel_rfl) rfl ?_)
          (refine step_lay _ _ _ rfl _ _ rfl _ _ rfl 3 rfl (by assumption) rowHerd (by omega) (fun k _ => h3_one rfl rfl rfl k) ?_; simp only [List.set]; (simp only [Act.put, List.setIfInBounds_toArray, List.set_cons_succ, List.set_cons_zero]))
          (refine mix_end (by kernel_rfl) ?_; intro W' hM; simp only [List.cons_append, List.nil_append] at hM)
          go_wp2
          have hA1 := (hM.ats 3 _ _ _ rfl).congr (g := h3 (.slice (some ⟨s0, 0, none⟩) 0 0) (.slice (some ⟨s1, 0, none⟩) 0 0) (.slice (some ⟨s2, 0, none⟩) 0 0)) (fun j hj => by simp [lay, hj])
          exact bodyPost_ret (results_at rfl _ rfl hA1 rowHerd) rfl ⟨_, rfl, s0, 0, _, s1, 0, _, s2, 0, _, rfl, ⟨by assumption, by assumption, by assumption⟩, ⟨Nat.le_refl _, Nat.le_refl _, Nat.le_refl _⟩, ⟨fun j hj => by omega, fun j hj => by omega, fun j hj => by omega⟩, hM.sub (fun i => [1, 2, 0].getD i 0) (fun i p h => by rcases i with _ | _ | _ | i <;> simp at h ⊢ <;> exact h) rfl⟩
        · (refine step_slice0 _ _ rfl _ u16_under u16_info0 ?_; intro s2 hs2; (simp only [Act.put, List.setIfInBounds_toArray, List.set_cons_succ, List.set_cons_zero]))
          (refine mix_one (i := 11) (by kernel_rfl) rfl (by kernel_rfl) rfl ?_)
          (refine step_cat00 _ _ _ rfl _ 1 i16_under i16_info0 s1 rfl b2 0 _ rfl rfl ?_; (simp only [Act.put, List.setIfInBounds_toArray, List.set_cons_succ, List.set_cons_zero]))
          (refine mix_one (i := 17) (by kernel_rfl) rfl (by kernel_rfl) rfl ?_)
          (refine step_cat00 _ _ _ rfl _ 1 u16_under u16_info0 s2 rfl b3 0 _ rfl rfl ?_; (simp only [Act.put, List.setIfInBounds_toArray, List.set_cons_succ, List.set_cons_zero]))
          (refine mix_one (i := 18) (by kernel_rfl) rfl (by kernel_rfl) rfl ?_)
          (refine step_val ?_; refine ⟨_, fun W => exec_herd3 _ _ _ rfl _ _ _ _ _ _ _ _ _ rfl rfl rfl W, ?_⟩; (simp only [Act.put, List.setIfInBounds_toArray, List.set_cons_succ, List.set_cons_zero]))
          (refine mix_one (i := 19) (by kernel_rfl) rfl (by kernel_rfl) rfl ?_)
          (refine step_lay _ _ _ rfl _ _ rfl _ _ rfl 3 rfl (by assumption) rowHerd (by omega) (fun k _ => h3_one rfl rfl rfl k) ?_; simp only [List.set]; (simp only [Act.put, List.setIfInBounds_toArray, List.set_cons_succ, List.set_cons_zero]))
          (refine mix_end (by kernel_rfl) ?_; intro W' hM; simp only [List.cons_append, List.nil_append] at hM)
          go_wp2
          have hA1 := (hM.ats 3 _ _ _ rfl).congr (g := h3 (.slice (some ⟨s0, 0, none⟩) 0 0) (.slice (some ⟨s1, 0, none⟩) 0 0) (.slice (some ⟨s2, 0, none⟩) 0 0)) (fun j hj => by simp [lay, hj])
          exact bodyPost_ret (results_at rfl _ rfl hA1 rowHerd) rfl ⟨_, rfl, s0, 0, _, s1, 0, _, s2, 0, _, rfl, ⟨by assumption, by assumption, by assumption⟩, ⟨Nat.le_refl _, Nat.le_refl _, Nat.le_refl _⟩, ⟨fun j hj => by omega, fun j hj => by omega, fun j hj => by omega⟩, hM.sub (fun i => [1, 2, 0].getD i 0) (fun i p h => by rcases i with _ | _ | _ | i <;> simp at h ⊢ <;> exact h) rfl⟩
      · (refine step_slice0 _ _ rfl _ u16_under u16_info0 ?_; intro s2 hs2; (simp only [Act.put, List.setIfInBounds_toArray, List.set_cons_succ, List.set_cons_zero]))
        (refine mix_one (i := 5) (by kernel_rfl) rfl (by kernel_rfl) rfl ?_)
        (refine step_cat00 _ _ _ rfl _ 1 str_under str_info0 s0 rfl b1 0 _ rfl rfl ?_; (simp only [Act.put, List.setIfInBounds_toArray, List.set_cons_succ, List.set_cons_zero]))
        (refine mix_one (i := 11) (by kernel_rfl) rfl (by kernel_rfl) rfl ?_)
        (refine step_cat00 _ _ _ rfl _ 1 i16_under i16_info0 s1 rfl b2 0 _ rfl rfl ?_; (simp only [Act.put, List.setIfInBounds_toArray, List.set_cons_succ, List.set_cons_zero]))
        (refine mix_one (i := 17) (by kernel_rfl) rfl (by kernel_rfl) rfl ?_)
        (refine step_cat00 _ _ _ rfl _ 1 u16_under u16_info0 s2 rfl b3 0 _ rfl rfl ?_; (simp only [Act.put, List.setIfInBounds_toArray, List.set_cons_succ, List.set_cons_zero]))
        (refine mix_one (i := 18) (by kernel_rfl) rfl (by kernel_rfl) rfl ?_)
        (refine step_val ?_; refine ⟨_, fun W => exec_herd3 _ _ _ rfl _ _ _ _ _ _ _ _ _ rfl rfl rfl W, ?_⟩; (simp only [Act.put, List.setIfInBounds_toArray, List.set_cons_succ, List.set_cons_zero]))
        (refine mix_one (i := 19) (by kernel_rfl) rfl (by kernel_rfl) rfl ?_)
        (refine step_lay _ _ _ rfl _ _ rfl _ _ rfl 3 rfl (by assumption) rowHerd (by omega) (fun k _ => h3_one rfl rfl rfl k) ?_; simp only [List.set]; (simp only [Act.put, List.setIfInBounds_toArray, List.set_cons_succ, List.set_cons_zero]))
        (refine mix_end (by kernel_rfl) ?_; intro W' hM; simp only [List.cons_append, List.nil_append] at hM)
        go_wp2
        have hA1 := (hM.ats 3 _ _ _ rfl).congr (g := h3 (.slice (some ⟨s0, 0, none⟩) 0 0) (.slice (some ⟨s1, 0, none⟩) 0 0) (.slice (some ⟨s2, 0, none⟩) 0 0)) (fun j hj => by simp [lay, hj])
        exact bodyPost_ret (results_at rfl _ rfl hA1 rowHerd) rfl ⟨_, rfl, s0, 0, _, s1, 0, _, s2, 0, _, rfl, ⟨by assumption, by assumption, by assumption⟩, ⟨Nat.le_refl _, Nat.le_refl _, Nat.le_refl _⟩, ⟨fun j hj => by omega, fun j hj => by omega, fun j hj => by omega⟩, hM.sub (fun i => [1, 2, 0].getD i 0) (fun i p h => by rcases i with _ | _ | _ | i <;> simp at h ⊢ <;> exact h) rfl⟩
    · (refine step_slice0 _ _ rfl _ u16_under u16_info0 ?_; intro s2 hs2; (simp only [Act.put, List.setIfInBounds_toArray, List.set_cons_succ, List.set_cons_zero]))
      (refine mix_one (i := 0) (by kernel_rfl) rfl (by kernel_rfl) rfl ?_)
      (refine step_slice0 _ _ rfl _ str_under str_info0 ?_; intro s0 hs0; (simp only [Act.put, List.setIfInBounds_toArray, List.set_cons_succ, List.set_cons_zero]))
      (refine mix_one (i := 5) (by kernel_rfl) rfl (by kernel_rfl) rfl ?_)
      (refine step_cat00 _ _ _ rfl _ 1 str_under str_info0 s0 rfl b1 0 _ rfl rfl ?_; (simp only [Act.put, List.setIfInBounds_toArray, List.set_cons_succ, List.set_cons_zero]))
      (refine mix_one (i := 11) (by kernel_rfl) rfl (by kernel_rfl) rfl ?_)
      (refine step_cat00 _ _ _ rfl _ 1 i16_under i16_info0 s1 rfl b2 0 _ rfl rfl ?_; (simp only [Act.put, List.setIfInBounds_toArray, List.set_cons_succ, List.set_cons_zero]))
      (refine mix_one (i := 17) (by kernel_rfl) rfl (by kernel_rfl) rfl ?_)
      (refine step_cat00 _ _ _ rfl _ 1 u16_under u16_info0 s2 rfl b3 0 _ rfl rfl ?_; (simp only [Act.put, List.setIfInBounds_toArray, List.set_cons_succ, List.set_cons_zero]))
      (refine mix_one (i := 18) (by kernel_rfl) rfl (by kernel_rfl) rfl ?_)
      (refine step_val ?_; refine ⟨_, fun W => exec_herd3 _ _ _ rfl _ _ _ _ _ _ _ _ _ rfl rfl rfl W, ?_⟩; (simp only [Act.put, List.setIfInBounds_toArray, List.set_cons_succ, List.set_cons_zero]))
      (refine mix_one (i := 19) (by kernel_rfl) rfl (by kernel_rfl) rfl ?_)
      (refine step_lay _ _ _ rfl _ _ rfl _ _ rfl 3 rfl (by assumption) rowHerd (by omega) (fun k _ => h3_one rfl rfl rfl k) ?_; simp only [List.set]; (simp only [Act.put, List.setIfInBounds_toArray, List.set_cons_succ, List.set_cons_zero]))
      (refine mix_end (by kernel_rfl) ?_; intro W' hM; simp only [List.cons_append, List.nil_append] at hM)
      go_wp2
      have hA1 := (hM.ats 3 _ _ _ rfl).congr (g := h3 (.slice (some ⟨s0, 0, none⟩) 0 0) (.slice (some ⟨s1, 0, none⟩) 0 0) (.slice (some ⟨s2, 0, none⟩) 0 0)) (fun j hj => by simp [lay, hj])
      exact bodyPost_ret (results_at rfl _ rfl hA1 rowHerd) rfl ⟨_, rfl, s0, 0, _, s1, 0, _, s2, 0, _, rfl, ⟨by assumption, by assumption, by assumption⟩, ⟨Nat.le_refl _, Nat.le_refl _, Nat.le_refl _⟩, ⟨fun j hj => by omega, fun j hj => by omega, fun j hj => by omega⟩, hM.sub (fun i => [0, 2, 1].getD i 0) (fun i p h => by rcases i with _ | _ | _ | i <;> simp at h ⊢ <;> exact h) rfl⟩
  · (refine step_slice0 _ _ rfl _ u16_under u16_info0 ?_; intro s2 hs2; (simp only [Act.put, List.setIfInBounds_toArray, List.set_cons_succ, List.set_cons_zero]))
    (refine mix_two (i := 0) (j := 6) (by kernel_rfl) rfl rfl (by kernel_rfl) (by kernel_rfl) rfl rfl ?_ ?_)
    · (refine step_slice0 _ _ rfl _ str_under str_info0 ?_; intro s0 hs0; (simp only [Act.put, List.setIfInBounds_toArray, List.set_cons_succ, List.set_cons_zero]))
      (refine mix_two (i := 5) (j := 6) (by kernel_rfl) rfl rfl (by kernel_rfl) (by kernel_rfl) rfl rfl ?_ ?_)
      · (refine step_cat00 _ _ _ rfl _ 1 str_under str_info0 s0 rfl b1 0 _ rfl rfl ?_; (simp only [Act.put, List.setIfInBounds_toArray, List.set_cons_succ, List.set_cons_zero]))
        (refine mix_one (i := 6) (by kernel_rfl) rfl (by kernel_rfl) rfl ?_)
        (refine step_slice0 _ _ rfl _ i16_under i16_info0 ?_; intro s1 hs1; (simp only [Act.put, List.setIfInBounds_toArray, List.set_cons_succ, List.set_cons_zero]))
        (refine mix_one (i := 11) (by kernel_rfl) rfl (by kernel_rfl) rfl ?_)
        (refine step_cat00 _ _ _ rfl _ 1 i16_under i16_info0 s1 rfl b2 0 _ rfl rfl ?_; (simp only [Act.put, List.setIfInBounds_toArray, List.set_cons_succ, List.set_cons_zero]))
        (refine mix_one (i := 17) (by kernel_rfl) rfl (by kernel_rfl) rfl ?_)
        (refine step_cat00 _ _ _ rfl _ 1 u16_under u16_info0 s2 rfl b3 0 _ rfl rfl ?_; (simp only [Act.put, List.setIfInBounds_toArray, List.set_cons_succ, List.set_cons_zero]))
        (refine mix_one (i := 18) (by kernel_rfl) rfl (by kernel_rfl) rfl ?_)
        (refine step_val ?_; refine ⟨_, fun W => exec_herd3 _ _ _ rfl _ _ _ _ _ _ _ _ _ rfl rfl rfl W, ?_⟩; (simp only [Act.put, List.setIfInBounds_toArray, List.set_cons_succ, List.set_cons_zero]))
        (refine mix_one (i := 19) (by kernel_rfl) rfl (by kernel_rfl) rfl ?_)
        (refine step_lay _ _ _ rfl _ _ rfl _ _ rfl 3 rfl (by assumption) rowHerd (by omega) (fun k _ => h3_one rfl rfl rfl k) ?_; simp only [List.set]; (simp only [Act.put, List.setIfInBounds_toArray, List.set_cons_succ, List.set_cons_zero]))
        (refine mix_end (by kernel_rfl) ?_; intro W' hM; simp only [List.cons_append, List.nil_append] at hM)
        go_wp2
        have hA1 := (hM.ats 3 _ _ _ rfl).congr (g := h3 (.slice (some ⟨s0, 0, none⟩) 0 0) (.slice (some ⟨s1, 0, none⟩) 0 0) (.slice (some ⟨s2, 0, none⟩) 0 0)) (fun j hj => by simp [lay, hj])
        exact bodyPost_ret (results_at rfl _ rfl hA1 rowHerd) rfl ⟨_, rfl, s0, 0, _, s1, 0, _, s2, 0, _, rfl, ⟨by assumption, by assumption, by assumption⟩, ⟨Nat.le_refl _, Nat.le_refl _, Nat.le_refl _⟩, ⟨fun j hj => by omega, fun j hj => by omega, fun j hj => by omega⟩, hM.sub (fun i => [1, 0, 2].getD i 0) (fun i p h => by rcases i with _ | _ | _ | i <;> simp at h ⊢ <;> exact h) rfl⟩
      · (refine step_slice0 _ _ rfl _ i16_under i16_info0 ?_; intro s1 hs1; (simp only [Act.put, List.setIfInBounds_toArray, List.set_cons_succ, List.set_cons_zero]))
        (refine mix_one (i := 5) (by kernel_rfl) rfl (by kernel_rfl) rfl ?_)
        (refine step_cat00 _ _ _ rfl _ 1 str_under str_info0 s0 rfl b1 0 _ rfl rfl ?_; (simp only [Act.put, List.setIfInBounds_toArray, List.set_cons_succ, List.set_cons_zero]))
        (refine mix_one (i := 11) (by kernel_rfl) rfl (by kernel_rfl) rfl ?_)
        (refine step_cat00 _ _ _ rfl _ 1 i16_under i16_info0 s1 rfl b2 0 _ rfl rfl ?_; (simp only [Act.put, List.setIfInBounds_toArray, List.set_cons_succ, List.set_cons_zero]))
        (refine mix_one (i := 17) (by kernel_rfl) rfl (by kernel_rfl) rfl ?_)
        (refine step_cat00 _ _ _ rfl _ 1 u16_under u16_info0 s2 rfl b3 0 _ rfl rfl ?_; (simp only [Act.put, List.setIfInBounds_toArray, List.set_cons_succ, List.set_cons_zero]))
        (refine mix_one (i := 18) (by kernel_rfl) rfl (by kernel_rfl) rfl ?_)
        (refine step_val ?_; refine ⟨_, fun W => exec_herd3 _ _ _ rfl _ _ _ _ _ _ _ _ _ rfl rfl rfl W, ?_⟩; (simp only [Act.put, List.setIfInBounds_toArray, List.set_cons_succ, List.set_cons_zero]))
        (refine mix_one (i := 19) (by kernel_rfl) rfl (by kernel_rfl) rfl ?_)
        (refine step_lay _ _ _ rfl _ _ rfl _ _ rfl 3 rfl (by assumption) rowHerd (by omega) (fun k _ => h3_one rfl rfl rfl k) ?_; simp only [List.set]; (simp only [Act.put, List.setIfInBounds_toArray, List.set_cons_succ, List.set_cons_zero]))
        (refine mix_end (by kernel_rfl) ?_; intro W' hM; simp only [List.cons_append, List.nil_append] at hM)
        go_wp2
        have hA1 := (hM.ats 3 _ _ _ rfl).congr (g := h3 (.slice (some ⟨s0, 0, none⟩) 0 0) (.slice (some ⟨s1, 0, none⟩) 0 0) (.slice (some ⟨s2, 0, none⟩) 0 0)) (fun j hj => by simp [lay, hj])
        exact bodyPost_ret (results_at rfl _ rfl hA1 rowHerd) rfl ⟨_, rfl, s0, 0, _, s1, 0, _, s2, 0, _, rfl, ⟨by assumption, by assumption, by assumption⟩, ⟨Nat.le_refl _, Nat.le_refl _, Nat.le_refl _⟩, ⟨fun j hj => by omega, fun j hj => by omega, fun j hj => by omega⟩, hM.sub (fun i => [1, 0, 2].getD i 0) (fun i p h => by rcases i with _ | _ | _ | i <;> simp at h ⊢ <;> exact h) rfl⟩
    · (refine step_slice0 _ _ rfl _ i16_under i16_info0 ?_; intro s1 hs1; (simp only [Act.put, List.setIfInBounds_toArray, List.set_cons_succ, List.set_cons_zero]))
      (refine mix_one (i := 0) (by kernel_rfl) rfl (by kernel_rfl) rfl ?_)
      (refine step_slice0 _ _ rfl _ str_under str_info0 ?_; intro s0 hs0; (simp only [Act.put, List.setIfInBounds_toArray, List.set_cons_succ, List.set_cons_zero]))
      (refine mix_one (i := 5) (by kernel_rfl) rfl (by kernel_rfl) rfl ?_)
      (refine step_cat00 _ _ _ rfl _ 1 str_under str_info0 s0 rfl b1 0 _ rfl rfl ?_; (simp only [Act.put, List.setIfInBounds_toArray, List.set_cons_succ, List.set_cons_zero]))
      (refine mix_one (i := 11) (by kernel_rfl) rfl (by kernel_rfl) rfl ?_)
      (refine step_cat00 _ _ _ rfl _ 1 i16_under i16_info0 s1 rfl b2 0 _ rfl rfl ?_; (simp only [Act.put, List.setIfInBounds_toArray, List.set_cons_succ, List.set_cons_zero]))
      (refine mix_one (i := 17) (by kernel_rfl) rfl (by kernel_rfl) rfl ?_)
      (refine step_cat00 _ _ _ rfl _ 1 u16_under u16_info0 s2 rfl b3 0 _ rfl rfl ?_; (simp only [Act.put, List.setIfInBounds_toArray, List.set_cons_succ, List.set_cons_zero]))
      (refine mix_one (i := 18) (by kernel_rfl) rfl (by kernel_rfl) rfl ?_)
      (refine step_val ?_; refine ⟨_, fun W => exec_herd3 _ _ _ rfl _ _ _ _ _ _ _ _ _ rfl rfl rfl W, ?_⟩; (simp only [Act.put, List.setIfInBounds_toArray, List.set_cons_succ, List.set_cons_zero]))
      (refine mix_one (i := 19) (by kernel_rfl) rfl (by kernel_rfl) rfl ?_)
      (refine step_lay _ _ _ rfl _ _ rfl _ _ rfl 3 rfl (by assumption) rowHerd (by omega) (fun k _ => h3_one rfl rfl rfl k) ?_; simp only [List.set]; (simp only [Act.put, List.setIfInBounds_toArray, List.set_cons_succ, List.set_cons_zero]))
      (refine mix_end (by kernel_rfl) ?_; intro W' hM; simp only [List.cons_append, List.nil_append] at hM)
      go_wp2
      have hA1 := (hM.ats 3 _ _ _ rfl).congr (g := h3 (.slice (some ⟨s0, 0, none⟩) 0 0) (.slice (some ⟨s1, 0, none⟩) 0 0) (.slice (some ⟨s2, 0, none⟩) 0 0)) (fun j hj => by simp [lay, hj])
      exact bodyPost_ret (results_at rfl _ rfl hA1 rowHerd) rfl ⟨_, rfl, s0, 0, _, s1, 0, _, s2, 0, _, rfl, ⟨by assumption, by assumption, by assumption⟩, ⟨Nat.le_refl _, Nat.le_refl _, Nat.le_refl _⟩, ⟨fun j hj => by omega, fun j hj => by omega, fun j hj => by omega⟩, hM.sub (fun i => [0, 1, 2].getD i 0) (fun i p h => by rcases i with _ | _ | _ | i <;> simp at h ⊢ <;> exact h) rfl⟩
set_option maxRecDepth 100000 in
set_option maxHeartbeats 8000000 in
theorem l06Own_some (d : Hd) (bh b1 b2 b3 : Nat) (hn1 : 1 ≤ d.n1) (hn : d.n1 ≤ 1048576) (l2 : d.n2 = d.n1) (l3 : d.n3 = d.n1) (w : World) (hM0 : Mem w ((bh, 3, hdV d b1 b2 b3) :: hdB d b1 b2 b3) w) :
    Calls Tryd.prog 71 #[.pointer (some ⟨bh, 0, none⟩)] w fun e w' => ∃ f, e = .returned (.agg (arr 3 f)) ∧ OwnC d.n1 (vStringS d.ss) (vInt16S d.es) (vUint16S d.fs) w f w' := by
  have a1 : hdV d b1 b2 b3 0 = .slice (some ⟨b1, 0, none⟩) d.n1 d.n1 := rfl
  have a2 : hdV d b1 b2 b3 1 = .slice (some ⟨b2, 0, none⟩) d.n2 d.n2 := rfl
  have a3 : hdV d b1 b2 b3 2 = .slice (some ⟨b3, 0, none⟩) d.n3 d.n3 := rfl
  have hM := hM0
  simp only [hdB] at hM
  rw [l2] at a2 hM
  rw [l3] at a3 hM
  clear hM0
  generalize hdV d b1 b2 b3 = hv at a1 a2 a3 hM
  obtain ⟨n, e⟩ : ∃ n, d.n1 = n := ⟨_, rfl⟩
  rw [e] at hn1 hn a1 a2 a3 hM ⊢
  generalize vStringS d.ss = R1 at hM ⊢
  generalize vInt16S d.es = R2 at hM ⊢
  generalize vUint16S d.fs = R3 at hM ⊢
  clear l2 l3 e
  have tk_r : True := trivial
  go_enter Tryd.func71, Tryd.ntmps71
  go_wp2_with (first | (have _t := tk_r; refine wpList_zero rfl _ rfl zeroHerd hM ?_; intro r W' hr hM'; clear hM tk_r; have hM := hM'; clear hM'))
  ((try simp only [Act.put, List.setIfInBounds_toArray, List.set_cons_succ, List.set_cons_zero]); refine region_readsX [1, 2, 3, 4, 7, 8, 9, 10, 13, 14, 15, 16] #[false, true, true, true, true, false, false, true, true, true, true, false, false, true, true, true, true, false, false, false] 8 [(r, 3, fun _ => .slice none 0 0)] (by kernel_rfl) (by kernel_rfl) (by kernel_rfl) hM ?_; clear hM; (repeat (refine qs_plain rfl rfl ?_; first | (refine b_get1 _ _ rfl _ _ rfl 0 rfl (cellTab _ rfl) (by omega) _ (a1) ?_; (simp only [Act.put, List.setIfInBounds_toArray, List.set_cons_succ, List.set_cons_zero])) | (refine b_get1 _ _ rfl _ _ rfl 0 rfl (cellTab _ rfl) (by omega) _ (a2) ?_; (simp only [Act.put, List.setIfInBounds_toArray, List.set_cons_succ, List.set_cons_zero])) | (refine b_get1 _ _ rfl _ _ rfl 0 rfl (cellTab _ rfl) (by omega) _ (a3) ?_; (simp only [Act.put, List.setIfInBounds_toArray, List.set_cons_succ, List.set_cons_zero])) | (refine b_val ?_; apply Exists.intro; refine ⟨fun W => ?_, ?_⟩; (go_simp; rfl); (simp only [Act.put, List.setIfInBounds_toArray, List.set_cons_succ, List.set_cons_zero])))); (with_reducible refine qs_nil ?_))
  (refine mix_three (i := 0) (j := 6) (k := 12) (by kernel_rfl) rfl rfl rfl (by kernel_rfl) (by kernel_rfl) (by kernel_rfl) rfl rfl rfl ?_ ?_ ?_)
  · (refine step_slice0 _ _ rfl _ str_under str_info0 ?_; intro s0 hs0; (simp only [Act.put, List.setIfInBounds_toArray, List.set_cons_succ, List.set_cons_zero]))
    (refine mix_three (i := 5) (j := 6) (k := 12) (by kernel_rfl) rfl rfl rfl (by kernel_rfl) (by kernel_rfl) (by kernel_rfl) rfl rfl rfl ?_ ?_ ?_)
    · (refine step_cat0 _ _ _ rfl _ 1 _ _ str_under infoStringS rfl (by omega) s0 rfl b1 n _ rfl hn1 hn 3 rfl (by omega) ?_; intro g0 c0 G0 hg0 hc0 hG0; (simp only [Act.put, List.setIfInBounds_toArray, List.set_cons_succ, List.set_cons_zero]))
      (refine mix_two (i := 6) (j := 12) (by kernel_rfl) rfl rfl (by kernel_rfl) (by kernel_rfl) rfl rfl ?_ ?_)
      · (refine step_slice0 _ _ rfl _ i16_under i16_info0 ?_; intro s1 hs1; (simp only [Act.put, List.setIfInBounds_toArray, List.set_cons_succ, List.set_cons_zero]))
        (refine mix_two (i := 11) (j := 12) (by kernel_rfl) rfl rfl (by kernel_rfl) (by kernel_rfl) rfl rfl ?_ ?_)
        · (refine step_cat0 _ _ _ rfl _ 1 _ _ i16_under infoInt16S rfl (by omega) s1 rfl b2 n _ rfl hn1 hn 6 rfl (by omega) ?_; intro g1 c1 G1 hg1 hc1 hG1; (simp only [Act.put, List.setIfInBounds_toArray, List.set_cons_succ, List.set_cons_zero]))
          (refine mix_one (i := 12) (by kernel_rfl) rfl (by kernel_rfl) rfl ?_)
          (refine step_slice0 _ _ rfl _ u16_under u16_info0 ?_; intro s2 hs2; (simp only [Act.put, List.setIfInBounds_toArray, List.set_cons_succ, List.set_cons_zero]))
          (refine mix_one (i := 17) (by kernel_rfl) rfl (by kernel_rfl) rfl ?_)
          (refine step_cat0 _ _ _ rfl _ 1 _ _ u16_under infoUint16S rfl (by omega) s2 rfl b3 n _ rfl hn1 hn 9 rfl (by omega) ?_; intro g2 c2 G2 hg2 hc2 hG2; (simp only [Act.put, List.setIfInBounds_toArray, List.set_cons_succ, List.set_cons_zero]))
          (refine mix_one (i := 18) (by kernel_rfl) rfl (by kernel_rfl) rfl ?_)
          (refine step_val ?_; refine ⟨_, fun W => exec_herd3 _ _ _ rfl _ _ _ _ _ _ _ _ _ rfl rfl rfl W, ?_⟩; (simp only [Act.put, List.setIfInBounds_toArray, List.set_cons_succ, List.set_cons_zero]))
          (refine mix_one (i := 19) (by kernel_rfl) rfl (by kernel_rfl) rfl ?_)
          (refine step_lay _ _ _ rfl _ _ rfl _ _ rfl 6 rfl (by assumption) rowHerd (by omega) (fun k _ => h3_one rfl rfl rfl k) ?_; simp only [List.set]; (simp only [Act.put, List.setIfInBounds_toArray, List.set_cons_succ, List.set_cons_zero]))
          (refine mix_end (by kernel_rfl) ?_; intro W' hM; simp only [List.cons_append, List.nil_append] at hM)
          go_wp2
          have hA1 := (hM.ats 6 _ _ _ rfl).congr (g := h3 (.slice (some ⟨g0, 0, none⟩) n c0) (.slice (some ⟨g1, 0, none⟩) n c1) (.slice (some ⟨g2, 0, none⟩) n c2)) (fun j hj => by simp [lay, hj])
          exact bodyPost_ret (results_at rfl _ rfl hA1 rowHerd) rfl ⟨_, rfl, g0, c0, G0, g1, c1, G1, g2, c2, G2, rfl, ⟨by assumption, by assumption, by assumption⟩, ⟨hc0, hc1, hc2⟩, ⟨hG0, hG1, hG2⟩, hM.sub (fun i => [4, 2, 0].getD i 0) (fun i p h => by rcases i with _ | _ | _ | i <;> simp at h ⊢ <;> exact h) rfl⟩
        · (refine step_slice0 _ _ rfl _ u16_under u16_info0 ?_; intro s2 hs2; (simp only [Act.put, List.setIfInBounds_toArray, List.set_cons_succ, List.set_cons_zero]))
          (refine mix_one (i := 11) (by kernel_rfl) rfl (by kernel_rfl) rfl ?_)
          (refine step_cat0 _ _ _ rfl _ 1 _ _ i16_under infoInt16S rfl (by omega) s1 rfl b2 n _ rfl hn1 hn 7 rfl (by omega) ?_; intro g1 c1 G1 hg1 hc1 hG1; (simp only [Act.put, List.setIfInBounds_toArray, List.set_cons_succ, List.set_cons_zero]))
          (refine mix_one (i := 17) (by kernel_rfl) rfl (by kernel_rfl) rfl ?_)
          (refine step_cat0 _ _ _ rfl _ 1 _ _ u16_under infoUint16S rfl (by omega) s2 rfl b3 n _ rfl hn1 hn 9 rfl (by omega) ?_; intro g2 c2 G2 hg2 hc2 hG2; (simp only [Act.put, List.setIfInBounds_toArray, List.set_cons_succ, List.set_cons_zero]))
          (refine mix_one (i := 18) (by kernel_rfl) rfl (by kernel_rfl) rfl ?_)
          (refine step_val ?_; refine ⟨_, fun W => exec_herd3 _ _ _ rfl _ _ _ _ _ _ _ _ _ rfl rfl rfl W, ?_⟩; (simp only [Act.put, List.setIfInBounds_toArray, List.set_cons_succ, List.set_cons_zero]))
          (refine mix_one (i := 19) (by kernel_rfl) rfl (by kernel_rfl) rfl ?_)
          (refine step_lay _ _ _ rfl _ _ rfl _ _ rfl 6 rfl (by assumption) rowHerd (by omega) (fun k _ => h3_one rfl rfl rfl k) ?_; simp only [List.set]; (simp only [Act.put, List.setIfInBounds_toArray, List.set_cons_succ, List.set_cons_zero]))
          (refine mix_end (by kernel_rfl) ?_; intro W' hM; simp only [List.cons_append, List.nil_append] at hM)
          go_wp2
          have hA1 := (hM.ats 6 _ _ _ rfl).congr (g := h3 (.slice (some ⟨g0, 0, none⟩) n c0) (.slice (some ⟨g1, 0, none⟩) n c1) (.slice (some ⟨g2, 0, none⟩) n c2)) (fun j hj => by simp [lay, hj])
          exact bodyPost_ret (results_at rfl _ rfl hA1 rowHerd) rfl ⟨_, rfl, g0, c0, G0, g1, c1, G1, g2, c2, G2, rfl, ⟨by assumption, by assumption, by assumption⟩, ⟨hc0, hc1, hc2⟩, ⟨hG0, hG1, hG2⟩, hM.sub (fun i => [4, 1, 0].getD i 0) (fun i p h => by rcases i with _ | _ | _ | i <;> simp at h ⊢ <;> exact h) rfl⟩
      · (refine step_slice0 _ _ rfl _ u16_under u16_info0 ?_; intro s2 hs2; (simp only [Act.put, List.setIfInBounds_toArray, List.set_cons_succ, List.set_cons_zero]))
        (refine mix_one (i := 6) (by kernel_rfl) rfl (by kernel_rfl) rfl ?_)
        (refine step_slice0 _ _ rfl _ i16_under i16_info0 ?_; intro s1 hs1; (simp only [Act.put, List.setIfInBounds_toArray, List.set_cons_succ, List.set_cons_zero]))
        (refine mix_one (i := 11) (by kernel_rfl) rfl (by kernel_rfl) rfl ?_)
        (refine step_cat0 _ _ _ rfl _ 1 _ _ i16_under infoInt16S rfl (by omega) s1 rfl b2 n _ rfl hn1 hn 7 rfl (by omega) ?_; intro g1 c1 G1 hg1 hc1 hG1; (simp only [Act.put, List.setIfInBounds_toArray, List.set_cons_succ, List.set_cons_zero]))
        (refine mix_one (i := 17) (by kernel_rfl) rfl (by kernel_rfl) rfl ?_)
        (refine step_cat0 _ _ _ rfl _ 1 _ _ u16_under infoUint16S rfl (by omega) s2 rfl b3 n _ rfl hn1 hn 9 rfl (by omega) ?_; intro g2 c2 G2 hg2 hc2 hG2; (simp only [Act.put, List.setIfInBounds_toArray, List.set_cons_succ, List.set_cons_zero]))
        (refine mix_one (i := 18) (by kernel_rfl) rfl (by kernel_rfl) rfl ?_)
        (refine step_val ?_; refine ⟨_, fun W => exec_herd3 _ _ _ rfl _ _ _ _ _ _ _ _ _ rfl rfl rfl W, ?_⟩; (simp only [Act.put, List.setIfInBounds_toArray, List.set_cons_succ, List.set_cons_zero]))
        (refine mix_one (i := 19) (by kernel_rfl) rfl (by kernel_rfl) rfl ?_)
        (refine step_lay _ _ _ rfl _ _ rfl _ _ rfl 6 rfl (by assumption) rowHerd (by omega) (fun k _ => h3_one rfl rfl rfl k) ?_; simp only [List.set]; (simp only [Act.put, List.setIfInBounds_toArray, List.set_cons_succ, List.set_cons_zero]))
        (refine mix_end (by kernel_rfl) ?_; intro W' hM; simp only [List.cons_append, List.nil_append] at hM)
        go_wp2
        have hA1 := (hM.ats 6 _ _ _ rfl).congr (g := h3 (.slice (some ⟨g0, 0, none⟩) n c0) (.slice (some ⟨g1, 0, none⟩) n c1) (.slice (some ⟨g2, 0, none⟩) n c2)) (fun j hj => by simp [lay, hj])
        exact bodyPost_ret (results_at rfl _ rfl hA1 rowHerd) rfl ⟨_, rfl, g0, c0, G0, g1, c1, G1, g2, c2, G2, rfl, ⟨by assumption, by assumption, by assumption⟩, ⟨hc0, hc1, hc2⟩, ⟨hG0, hG1, hG2⟩, hM.sub (fun i => [4, 1, 0].getD i 0) (fun i p h => by rcases i with _ | _ | _ | i <;> simp at h ⊢ <;> exact h) rfl⟩
    · (refine step_slice0 _ _ rfl _ i16_under i16_info0 ?_; intro s1 hs1; (simp only [Act.put, List.setIfInBounds_toArray, List.set_cons_succ, List.set_cons_zero]))
      (refine mix_two (i := 5) (j := 12) (by kernel_rfl) rfl rfl (by kernel_rfl) (by kernel_rfl) rfl rfl ?_ ?_)
      · (refine step_cat0 _ _ _ rfl _ 1 _ _ str_under infoStringS rfl (by omega) s0 rfl b1 n _ rfl hn1 hn 4 rfl (by omega) ?_; intro g0 c0 G0 hg0 hc0 hG0; (simp only [Act.put, List.setIfInBounds_toArray, List.set_cons_succ, List.set_cons_zero]))
        (refine mix_two (i := 11) (j := 12) (by kernel_rfl) rfl rfl (by kernel_rfl) (by kernel_rfl) rfl rfl ?_ ?_)
        · (refine step_cat0 _ _ _ rfl _ 1 _ _ i16_under infoInt16S rfl (by omega) s1 rfl b2 n _ rfl hn1 hn 6 rfl (by omega) ?_; intro g1 c1 G1 hg1 hc1 hG1; (simp only [Act.put, List.setIfInBounds_toArray, List.set_cons_succ, List.set_cons_zero]))
          (refine mix_one (i := 12) (by kernel_rfl) rfl (by kernel_rfl) rfl ?_)
          (refine step_slice0 _ _ rfl _ u16_under u16_info0 ?_; intro s2 hs2; (simp only [Act.put, List.setIfInBounds_toArray, List.set_cons_succ, List.set_cons_zero]))
          (refine mix_one (i := 17) (by kernel_rfl) rfl (by kernel_rfl) rfl ?_)
          (refine step_cat0 _ _ _ rfl _ 1 _ _ u16_under infoUint16S rfl (by omega) s2 rfl b3 n _ rfl hn1 hn 9 rfl (by omega) ?_; intro g2 c2 G2 hg2 hc2 hG2; (simp only [Act.put, List.setIfInBounds_toArray, List.set_cons_succ, List.set_cons_zero]))
          (refine mix_one (i := 18) (by kernel_rfl) rfl (by kernel_rfl) rfl ?_)
          (refine step_val ?_; refine ⟨_, fun W => exec_herd3 _ _ _ rfl _ _ _ _ _ _ _ _ _ rfl rfl rfl W, ?_⟩; (simp only [Act.put, List.setIfInBounds_toArray, List.set_cons_succ, List.set_cons_zero]))
          (refine mix_one (i := 19) (by kernel_rfl) rfl (by kernel_rfl) rfl ?_)
          (refine step_lay _ _ _ rfl _ _ rfl _ _ rfl 6 rfl (by assumption) rowHerd (by omega) (fun k _ => h3_one rfl rfl rfl k) ?_; simp only [List.set]; (simp only [Act.put, List.setIfInBounds_toArray, List.set_cons_succ, List.set_cons_zero]))
          (refine mix_end (by kernel_rfl) ?_; intro W' hM; simp only [List.cons_append, List.nil_append] at hM)
          go_wp2
          have hA1 := (hM.ats 6 _ _ _ rfl).congr (g := h3 (.slice (some ⟨g0, 0, none⟩) n c0) (.slice (some ⟨g1, 0, none⟩) n c1) (.slice (some ⟨g2, 0, none⟩) n c2)) (fun j hj => by simp [lay, hj])
          exact bodyPost_ret (results_at rfl _ rfl hA1 rowHerd) rfl ⟨_, rfl, g0, c0, G0, g1, c1, G1, g2, c2, G2, rfl, ⟨by assumption, by assumption, by assumption⟩, ⟨hc0, hc1, hc2⟩, ⟨hG0, hG1, hG2⟩, hM.sub (fun i => [3, 2, 0].getD i 0) (fun i p h => by rcases i with _ | _ | _ | i <;> simp at h ⊢ <;> exact h) rfl⟩
        · (refine step_slice0 _ _ rfl _ u16_under u16_info0 ?_; intro s2 hs2; (simp only [Act.put, List.setIfInBounds_toArray, List.set_cons_succ, List.set_cons_zero]))
          (refine mix_one (i := 11) (by kernel_rfl) rfl (by kernel_rfl) rfl ?_)
          (refine step_cat0 _ _ _ rfl _ 1 _ _ i16_under infoInt16S rfl (by omega) s1 rfl b2 n _ rfl hn1 hn 7 rfl (by omega) ?_; intro g1 c1 G1 hg1 hc1 hG1; (simp only [Act.put, List.setIfInBounds_toArray, List.set_cons_succ, List.set_cons_zero]))
          (refine mix_one (i := 17) (by kernel_rfl) rfl (by kernel_rfl) rfl ?_)
          (refine step_cat0 _ _ _ rfl _ 1 _ _ u16_under infoUint16S rfl (by omega) s2 rfl b3 n _ rfl hn1 hn 9 rfl (by omega) ?_; intro g2 c2 G2 hg2 hc2 hG2; (simp only [Act.put, List.setIfInBounds_toArray, List.set_cons_succ, List.set_cons_zero]))
          (refine mix_one (i := 18) (by kernel_rfl) rfl (by kernel_rfl) rfl ?_)
          (refine step_val ?_; refine ⟨_, fun W => exec_herd3 _ _ _ rfl _ _ _ _ _ _ _ _ _ rfl rfl rfl W, ?_⟩; (simp only [Act.put, List.setIfInBounds_toArray, List.set_cons_succ, List.set_cons_zero]))
          (refine mix_one (i := 19) (by kernel_rfl) rfl (by kernel_rfl) rfl ?_)
          (refine step_lay _ _ _ rfl _ _ rfl _ _ rfl 6 rfl (by assumption) rowHerd (by omega) (fun k _ => h3_one rfl rfl rfl k) ?_; simp only [List.set]; (simp only [Act.put, List.setIfInBounds_toArray, List.set_cons_succ, List.set_cons_zero]))
          (refine mix_end (by kernel_rfl) ?_; intro W' hM; simp only [List.cons_append, List.nil_append] at hM)
          go_wp2
          have hA1 := (hM.ats 6 _ _ _ rfl).congr (g := h3 (.slice (some ⟨g0, 0, none⟩) n c0) (.slice (some ⟨g1, 0, none⟩) n c1) (.slice (some ⟨g2, 0, none⟩) n c2)) (fun j hj => by simp [lay, hj])
          exact bodyPost_ret (results_at rfl _ rfl hA1 rowHerd) rfl ⟨_, rfl, g0, c0, G0, g1, c1, G1, g2, c2, G2, rfl, ⟨by assumption, by assumption, by assumption⟩, ⟨hc0, hc1, hc2⟩, ⟨hG0, hG1, hG2⟩, hM.sub (fun i => [3, 1, 0].getD i 0) (fun i p h => by rcases i with _ | _ | _ | i <;> simp at h ⊢ <;> exact h) rfl⟩
      · (refine step_slice0 _ _ rfl _ u16_under u16_info0 ?_; intro s2 hs2; (simp only [Act.put, List.setIfInBounds_toArray, List.set_cons_succ, List.set_cons_zero]))
        (refine mix_one (i := 5) (by kernel_rfl) rfl (by kernel_rfl) rfl ?_)
        (refine step_cat0 _ _ _ rfl _ 1 _ _ str_under infoStringS rfl (by omega) s0 rfl b1 n _ rfl hn1 hn 5 rfl (by omega) ?_; intro g0 c0 G0 hg0 hc0 hG0; (simp only [Act.put, List.setIfInBounds_toArray, List.set_cons_succ, List.set_cons_zero]))
        (refine mix_one (i := 11) (by kernel_rfl) rfl (by kernel_rfl) rfl ?_)
        (refine step_cat0 _ _ _ rfl _ 1 _ _ i16_under infoInt16S rfl (by omega) s1 rfl b2 n _ rfl hn1 hn 7 rfl (by omega) ?_; intro g1 c1 G1 hg1 hc1 hG1; (simp only [Act.put, List.setIfInBounds_toArray, List.set_cons_succ, List.set_cons_zero]))
        (refine mix_one (i := 17) (by kernel_rfl) rfl (by kernel_rfl) rfl ?_)
        (refine step_cat0 _ _ _ rfl _ 1 _ _ u16_under infoUint16S rfl (by omega) s2 rfl b3 n _ rfl hn1 hn 9 rfl (by omega) ?_; intro g2 c2 G2 hg2 hc2 hG2; (simp only [Act.put, List.setIfInBounds_toArray, List.set_cons_succ, List.set_cons_zero]))
        (refine mix_one (i := 18) (by kernel_rfl) rfl (by kernel_rfl) rfl ?_)
        (refine step_val ?_; refine ⟨_, fun W => exec_herd3 _ _ _ rfl _ _ _ _ _ _ _ _ _ rfl rfl rfl W, ?_⟩; (simp only [Act.put, List.setIfInBounds_toArray, List.set_cons_succ, List.set_cons_zero]))
        (refine mix_one (i := 19) (by kernel_rfl) rfl (by kernel_rfl) rfl ?_)
        (refine step_lay _ _ _ rfl _ _ rfl _ _ rfl 6 rfl (by assumption) rowHerd (by omega) (fun k _ => h3_one rfl rfl rfl k) ?_; simp only [List.set]; (simp only [Act.put, List.setIfInBounds_toArray, List.set_cons_succ, List.set_cons_zero]))
        (refine mix_end (by kernel_rfl) ?_; intro W' hM; simp only [List.cons_append, List.nil_append] at hM)
        go_wp2
        have hA1 := (hM.ats 6 _ _ _ rfl).congr (g := h3 (.slice (some ⟨g0, 0, none⟩) n c0) (.slice (some ⟨g1, 0, none⟩) n c1) (.slice (some ⟨g2, 0, none⟩) n c2)) (fun j hj => by simp [lay, hj])
        exact bodyPost_ret (results_at rfl _ rfl hA1 rowHerd) rfl ⟨_, rfl, g0, c0, G0, g1, c1, G1, g2, c2, G2, rfl, ⟨by assumption, by assumption, by assumption⟩, ⟨hc0, hc1, hc2⟩, ⟨hG0, hG1, hG2⟩, hM.sub (fun i => [2, 1, 0].getD i 0) (fun i p h => by rcases i with _ | _ | _ | i <;> simp at h ⊢ <;> exact h) rfl⟩
    · (refine step_slice0 _ _ rfl _ u16_under u16_info0 ?_; intro s2 hs2; (simp only [Act.put, List.setIfInBounds_toArray, List.set_cons_succ, List.set_cons_zero]))
      (refine mix_two (i := 5) (j := 6) (by kernel_rfl) rfl rfl (by kernel_rfl) (by kernel_rfl) rfl rfl ?_ ?_)
      · (refine step_cat0 _ _ _ rfl _ 1 _ _ str_under infoStringS rfl (by omega) s0 rfl b1 n _ rfl hn1 hn 4 rfl (by omega) ?_; intro g0 c0 G0 hg0 hc0 hG0; (simp only [Act.put, List.setIfInBounds_toArray, List.set_cons_succ, List.set_cons_zero]))
        (refine mix_one (i := 6) (by kernel_rfl) rfl (by kernel_rfl) rfl ?_)
        (refine step_slice0 _ _ rfl _ i16_under i16_info0 ?_; intro s1 hs1; (simp only [Act.put, List.setIfInBounds_toArray, List.set_cons_succ, List.set_cons_zero]))
        (refine mix_one (i := 11) (by kernel_rfl) rfl (by kernel_rfl) rfl ?_)
        (refine step_cat0 _ _ _ rfl _ 1 _ _ i16_under infoInt16S rfl (by omega) s1 rfl b2 n _ rfl hn1 hn 7 rfl (by omega) ?_; intro g1 c1 G1 hg1 hc1 hG1; (simp only [Act.put, List.setIfInBounds_toArray, List.set_cons_succ, List.set_cons_zero]))
        (refine mix_one (i := 17) (by kernel_rfl) rfl (by kernel_rfl) rfl ?_)
        (refine step_cat0 _ _ _ rfl _ 1 _ _ u16_under infoUint16S rfl (by omega) s2 rfl b3 n _ rfl hn1 hn 9 rfl (by omega) ?_; intro g2 c2 G2 hg2 hc2 hG2; (simp only [Act.put, List.setIfInBounds_toArray, List.set_cons_succ, List.set_cons_zero]))
        (refine mix_one (i := 18) (by kernel_rfl) rfl (by kernel_rfl) rfl ?_)
        (refine step_val ?_; refine ⟨_, fun W => exec_herd3 _ _ _ rfl _ _ _ _ _ _ _ _ _ rfl rfl rfl W, ?_⟩; (simp only [Act.put, List.setIfInBounds_toArray, List.set_cons_succ, List.set_cons_zero]))
        (refine mix_one (i := 19) (by kernel_rfl) rfl (by kernel_rfl) rfl ?_)
        (refine step_lay _ _ _ rfl _ _ rfl _ _ rfl 6 rfl (by assumption) rowHerd (by omega) (fun k _ => h3_one rfl rfl rfl k) ?_; simp only [List.set]; (simp only [Act.put, List.setIfInBounds_toArray, List.set_cons_succ, List.set_cons_zero]))
        (refine mix_end (by kernel_rfl) ?_; intro W' hM; simp only [List.cons_append, List.nil_append] at hM)
        go_wp2
        have hA1 := (hM.ats 6 _ _ _ rfl).congr (g := h3 (.slice (some ⟨g0, 0, none⟩) n c0) (.slice (some ⟨g1, 0, none⟩) n c1) (.slice (some ⟨g2, 0, none⟩) n c2)) (fun j hj => by simp [lay, hj])
        exact bodyPost_ret (results_at rfl _ rfl hA1 rowHerd) rfl ⟨_, rfl, g0, c0, G0, g1, c1, G1, g2, c2, G2, rfl, ⟨by assumption, by assumption, by assumption⟩, ⟨hc0, hc1, hc2⟩, ⟨hG0, hG1, hG2⟩, hM.sub (fun i => [3, 1, 0].getD i 0) (fun i p h => by rcases i with _ | _ | _ | i <;> simp at h ⊢ <;> exact h) rfl⟩
      · (refine step_slice0 _ _ rfl _ i16_under i16_info0 ?_; intro s1 hs1; (simp only [Act.put, List.setIfInBounds_toArray, List.set_cons_succ, List.set_cons_zero]))
        (refine mix_one (i := 5) (by kernel_rfl) rfl (by kernel_rfl) rfl ?_)
        (refine step_cat0 _ _ _ rfl _ 1 _ _ str_under infoStringS rfl (by omega) s0 rfl b1 n _ rfl hn1 hn 5 rfl (by omega) ?_; intro g0 c0 G0 hg0 hc0 hG0; (simp only [Act.put, List.setIfInBounds_toArray, List.set_cons_succ, List.set_cons_zero]))
        (refine mix_one (i := 11) (by kernel_rfl) rfl (by kernel_rfl) rfl ?_)
        (refine step_cat0 _ _ _ rfl _ 1 _ _ i16_under infoInt16S rfl (by omega) s1 rfl b2 n _ rfl hn1 hn 7 rfl (by omega) ?_; intro g1 c1 G1 hg1 hc1 hG1; (simp only [Act.put, List.setIfInBounds_toArray, List.set_cons_succ, List.set_cons_zero]))
        (refine mix_one (i := 17) (by kernel_rfl) rfl (by kernel_rfl) rfl ?_)
        (refine step_cat0 _ _ _ rfl _ 1 _ _ u16_under infoUint16S rfl (by omega) s2 rfl b3 n _ rfl hn1 hn 9 rfl (by omega) ?_; intro g2 c2 G2 hg2 hc2 hG2; (simp only [Act.put, List.setIfInBounds_toArray, List.set_cons_succ, List.set_cons_zero]))
        (refine mix_one (i := 18) (by kernel_rfl) rfl (by kernel_rfl) rfl ?_)
        (refine step_val ?_; refine ⟨_, fun W => exec_herd3 _ _ _ rfl _ _ _ _ _ _ _ _ _ rfl rfl rfl W, ?_⟩; (simp only [Act.put, List.setIfInBounds_toArray, List.set_cons_succ, List.set_cons_zero]))
        (refine mix_one (i := 19) (by kernel_rfl) rfl (by kernel_rfl) rfl ?_)
        (refine step_lay _ _ _ rfl _ _ rfl _ _ rfl 6 rfl (by assumption) rowHerd (by omega) (fun k _ => h3_one rfl rfl rfl k) ?_; simp only [List.set]; (simp only [Act.put, List.setIfInBounds_toArray, List.set_cons_succ, List.set_cons_zero]))
        (refine mix_end (by kernel_rfl) ?_; intro W' hM; simp only [List.cons_append, List.nil_append] at hM)
        go_wp2
        have hA1 := (hM.ats 6 _ _ _ rfl).congr (g := h3 (.slice (some ⟨g0, 0, none⟩) n c0) (.slice (some ⟨g1, 0, none⟩) n c1) (.slice (some ⟨g2, 0, none⟩) n c2)) (fun j hj => by simp [lay, hj])
        exact bodyPost_ret (results_at rfl _ rfl hA1 rowHerd) rfl ⟨_, rfl, g0, c0, G0, g1, c1, G1, g2, c2, G2, rfl, ⟨by assumption, by assumption, by assumption⟩, ⟨hc0, hc1, hc2⟩, ⟨hG0, hG1, hG2⟩, hM.sub (fun i => [2, 1, 0].getD i 0) (fun i p h => by rcases i with _ | _ | _ | i <;> simp at h ⊢ <;> exact h) rfl⟩
  · (refine step_slice0 _ _ rfl _ i16_under i16_info0 ?_; intro s1 hs1; (simp only [Act.put, List.setIfInBounds_toArray, List.set_cons_succ, List.set_cons_zero]))
    (refine mix_two (i := 0) (j := 12) (by kernel_rfl) rfl rfl (by kernel_rfl) (by kernel_rfl) rfl rfl ?_ ?_)
    · (refine step_slice0 _ _ rfl _ str_under str_info0 ?_; intro s0 hs0; (simp only [Act.put, List.setIfInBounds_toArray, List.set_cons_succ, List.set_cons_zero]))
      (refine mix_two (i := 5) (j := 12) (by kernel_rfl) rfl rfl (by kernel_rfl) (by kernel_rfl) rfl rfl ?_ ?_)
      · (refine step_cat0 _ _ _ rfl _ 1 _ _ str_under infoStringS rfl (by omega) s0 rfl b1 n _ rfl hn1 hn 4 rfl (by omega) ?_; intro g0 c0 G0 hg0 hc0 hG0; (simp only [Act.put, List.setIfInBounds_toArray, List.set_cons_succ, List.set_cons_zero]))
        (refine mix_two (i := 11) (j := 12) (by kernel_rfl) rfl rfl (by kernel_rfl) (by kernel_rfl) rfl rfl ?_ ?_)
        · (refine step_cat0 _ _ _ rfl _ 1 _ _ i16_under infoInt16S rfl (by omega) s1 rfl b2 n _ rfl hn1 hn 6 rfl (by omega) ?_; intro g1 c1 G1 hg1 hc1 hG1; (simp only [Act.put, List.setIfInBounds_toArray, List.set_cons_succ, List.set_cons_zero]))
          (refine mix_one (i := 12) (by kernel_rfl) rfl (by kernel_rfl) rfl ?_)
          (refine step_slice0 _ _ rfl _ u16_under u16_info0 ?_; intro s2 hs2; (simp only [Act.put, List.setIfInBounds_toArray, List.set_cons_succ, List.set_cons_zero]))
          (refine mix_one (i := 17) (by kernel_rfl) rfl (by kernel_rfl) rfl ?_)
          (refine step_cat0 _ _ _ rfl _ 1 _ _ u16_under infoUint16S rfl (by omega) s2 rfl b3 n _ rfl hn1 hn 9 rfl (by omega) ?_; intro g2 c2 G2 hg2 hc2 hG2; (simp only [Act.put, List.setIfInBounds_toArray, List.set_cons_succ, List.set_cons_zero]))
          (refine mix_one (i := 18) (by kernel_rfl) rfl (by kernel_rfl) rfl ?_)
          (refine step_val ?_; refine ⟨_, fun W => exec_herd3 _ _ _ rfl _ _ _ _ _ _ _ _ _ rfl rfl rfl W, ?_⟩; (simp only [Act.put, List.setIfInBounds_toArray, List.set_cons_succ, List.set_cons_zero]))
          (refine mix_one (i := 19) (by kernel_rfl) rfl (by kernel_rfl) rfl ?_)
          (refine step_lay _ _ _ rfl _ _ rfl _ _ rfl 6 rfl (by assumption) rowHerd (by omega) (fun k _ => h3_one rfl rfl rfl k) ?_; simp only [List.set]; (simp only [Act.put, List.setIfInBounds_toArray, List.set_cons_succ, List.set_cons_zero]))
          (refine mix_end (by kernel_rfl) ?_; intro W' hM; simp only [List.cons_append, List.nil_append] at hM)
          go_wp2
          have hA1 := (hM.ats 6 _ _ _ rfl).congr (g := h3 (.slice (some ⟨g0, 0, none⟩) n c0) (.slice (some ⟨g1, 0, none⟩) n c1) (.slice (some ⟨g2, 0, none⟩) n c2)) (fun j hj => by simp [lay, hj])
          exact bodyPost_ret (results_at rfl _ rfl hA1 rowHerd) rfl ⟨_, rfl, g0, c0, G0, g1, c1, G1, g2, c2, G2, rfl, ⟨by assumption, by assumption, by assumption⟩, ⟨hc0, hc1, hc2⟩, ⟨hG0, hG1, hG2⟩, hM.sub (fun i => [3, 2, 0].getD i 0) (fun i p h => by rcases i with _ | _ | _ | i <;> simp at h ⊢ <;> exact h) rfl⟩
        · (refine step_slice0 _ _ rfl _ u16_under u16_info0 ?_; intro s2 hs2; (simp only [Act.put, List.setIfInBounds_toArray, List.set_cons_succ, List.set_cons_zero]))
          (refine mix_one (i := 11) (by kernel_rfl) rfl (by kernel_rfl) rfl ?_)
          (refine step_cat0 _ _ _ rfl _ 1 _ _ i16_under infoInt16S rfl (by omega) s1 rfl b2 n _ rfl hn1 hn 7 rfl (by omega) ?_; intro g1 c1 G1 hg1 hc1 hG1; (simp only [Act.put, List.setIfInBounds_toArray, List.set_cons_succ, List.set_cons_zero]))
          (refine mix_one (i := 17) (by kernel_rfl) rfl (by kernel_rfl) rfl ?_)
          (refine step_cat0 _ _ _ rfl _ 1 _ _ u16_under infoUint16S rfl (by omega) s2 rfl b3 n _ rfl hn1 hn 9 rfl (by omega) ?_; intro g2 c2 G2 hg2 hc2 hG2; (simp only [Act.put, List.setIfInBounds_toArray, List.set_cons_succ, List.set_cons_zero]))
          (refine mix_one (i := 18) (by kernel_rfl) rfl (by kernel_rfl) rfl ?_)
          (refine step_val ?_; refine ⟨_, fun W => exec_herd3 _ _ _ rfl _ _ _ _ _ _ _ _ _ rfl rfl rfl W, ?_⟩; (simp only [Act.put, List.setIfInBounds_toArray, List.set_cons_succ, List.set_cons_zero]))
          (refine mix_one (i := 19) (by kernel_rfl) rfl (by kernel_rfl) rfl ?_)
          (refine step_lay _ _ _ rfl _ _ rfl _ _ rfl 6 rfl (by assumption) rowHerd (by omega) (fun k _ => h3_one rfl rfl rfl k) ?_; simp only [List.set]; (simp only [Act.put, List.setIfInBounds_toArray, List.set_cons_succ, List.set_cons_zero]))
          (refine mix_end (by kernel_rfl) ?_; intro W' hM; simp only [List.cons_append, List.nil_append] at hM)
          go_wp2
          have hA1 := (hM.ats 6 _ _ _ rfl).congr (g := h3 (.slice (some ⟨g0, 0, none⟩) n c0) (.slice (some ⟨g1, 0, none⟩) n c1) (.slice (some ⟨g2, 0, none⟩) n c2)) (fun j hj => by simp [lay, hj])
          exact bodyPost_ret (results_at rfl _ rfl hA1 rowHerd) rfl ⟨_, rfl, g0, c0, G0, g1, c1, G1, g2, c2, G2, rfl, ⟨by assumption, by assumption, by assumption⟩, ⟨hc0, hc1, hc2⟩, ⟨hG0, hG1, hG2⟩, hM.sub (fun i => [3, 1, 0].getD i 0) (fun i p h => by rcases i with _ | _ | _ | i <;> simp at h ⊢ <;> exact h) rfl⟩
      · (refine step_slice0 _ _ rfl _ u16_under u16_info0 ?_; intro s2 hs2; (simp only [Act.put, List.setIfInBounds_toArray, List.set_cons_succ, List.set_cons_zero]))
        (refine mix_one (i := 5) (by kernel_rfl) rfl (by kernel_rfl) rfl ?_)
        (refine step_cat0 _ _ _ rfl _ 1 _ _ str_under infoStringS rfl (by omega) s0 rfl b1 n _ rfl hn1 hn 5 rfl (by omega) ?_; intro g0 c0 G0 hg0 hc0 hG0; (simp only [Act.put, List.setIfInBounds_toArray, List.set_cons_succ, List.set_cons_zero]))
        (refine mix_one (i := 11) (by kernel_rfl) rfl (by kernel_rfl) rfl ?_)
        (refine step_cat0 _ _ _ rfl _ 1 _ _ i16_under infoInt16S rfl (by omega) s1 rfl b2 n _ rfl hn1 hn 7 rfl (by omega) ?_; intro g1 c1 G1 hg1 hc1 hG1; (simp only [Act.put, List.setIfInBounds_toArray, List.set_cons_succ, List.set_cons_zero]))
        (refine mix_one (i := 17) (by kernel_rfl) rfl (by kernel_rfl) rfl ?_)
        (refine step_cat0 _ _ _ rfl _ 1 _ _ u16_under infoUint16S rfl (by omega) s2 rfl b3 n _ rfl hn1 hn 9 rfl (by omega) ?_; intro g2 c2 G2 hg2 hc2 hG2; (simp only [Act.put, List.setIfInBounds_toArray, List.set_cons_succ, List.set_cons_zero]))
        (refine mix_one (i := 18) (by kernel_rfl) rfl (by kernel_rfl) rfl ?_)
        (refine step_val ?_; refine ⟨_, fun W => exec_herd3 _ _ _ rfl _ _ _ _ _ _ _ _ _ rfl rfl rfl W, ?_⟩; (simp only [Act.put, List.setIfInBounds_toArray, List.set_cons_succ, List.set_cons_zero]))
        (refine mix_one (i := 19) (by kernel_rfl) rfl (by kernel_rfl) rfl ?_)
        (refine step_lay _ _ _ rfl _ _ rfl _ _ rfl 6 rfl (by assumption) rowHerd (by omega) (fun k _ => h3_one rfl rfl rfl k) ?_; simp only [List.set]; (simp only [Act.put, List.setIfInBounds_toArray, List.set_cons_succ, List.set_cons_zero]))
        (refine mix_end (by kernel_rfl) ?_; intro W' hM; simp only [List.cons_append, List.nil_append] at hM)
        go_wp2
        have hA1 := (hM.ats 6 _ _ _ rfl).congr (g := h3 (.slice (some ⟨g0, 0, none⟩) n c0) (.slice (some ⟨g1, 0, none⟩) n c1) (.slice (some ⟨g2, 0, none⟩) n c2)) (fun j hj => by simp [lay, hj])
        exact bodyPost_ret (results_at rfl _ rfl hA1 rowHerd) rfl ⟨_, rfl, g0, c0, G0, g1, c1, G1, g2, c2, G2, rfl, ⟨by assumption, by assumption, by assumption⟩, ⟨hc0, hc1, hc2⟩, ⟨hG0, hG1, hG2⟩, hM.sub (fun i => [2, 1, 0].getD i 0) (fun i p h => by rcases i with _ | _ | _ | i <;> simp at h ⊢ <;> exact h) rfl⟩
    · (refine step_slice0 _ _ rfl _ u16_under u16_info0 ?_; intro s2 hs2; (simp only [Act.put, List.setIfInBounds_toArray, List.set_cons_succ, List.set_cons_zero]))
      (refine mix_one (i := 0) (by kernel_rfl) rfl (by kernel_rfl) rfl ?_)
      (refine step_slice0 _ _ rfl _ str_under str_info0 ?_; intro s0 hs0; (simp only [Act.put, List.setIfInBounds_toArray, List.set_cons_succ, List.set_cons_zero]))
      (refine mix_one (i := 5) (by kernel_rfl) rfl (by kernel_rfl) rfl ?_)
      (refine step_cat0 _ _ _ rfl _ 1 _ _ str_under infoStringS rfl (by omega) s0 rfl b1 n _ rfl hn1 hn 5 rfl (by omega) ?_; intro g0 c0 G0 hg0 hc0 hG0; (simp only [Act.put, List.setIfInBounds_toArray, List.set_cons_succ, List.set_cons_zero]))
      (refine mix_one (i := 11) (by kernel_rfl) rfl (by kernel_rfl) rfl ?_)
      (refine step_cat0 _ _ _ rfl _ 1 _ _ i16_under infoInt16S rfl (by omega) s1 rfl b2 n _ rfl hn1 hn 7 rfl (by omega) ?_; intro g1 c1 G1 hg1 hc1 hG1; (simp only [Act.put, List.setIfInBounds_toArray, List.set_cons_succ, List.set_cons_zero]))
      (refine mix_one (i := 17) (by kernel_rfl) rfl (by kernel_rfl) rfl ?_)
      (refine step_cat0 _ _ _ rfl _ 1 _ _ u16_under infoUint16S rfl (by omega) s2 rfl b3 n _ rfl hn1 hn 9 rfl (by omega) ?_; intro g2 c2 G2 hg2 hc2 hG2; (simp only [Act.put, List.setIfInBounds_toArray, List.set_cons_succ, List.set_cons_zero]))
      (refine mix_one (i := 18) (by kernel_rfl) rfl (by kernel_rfl) rfl ?_)
      (refine step_val ?_; refine ⟨_, fun W => exec_herd3 _ _ _ rfl _ _ _ _ _ _ _ _ _ rfl rfl rfl W, ?_⟩; (simp only [Act.put, List.setIfInBounds_toArray, List.set_cons_succ, List.set_cons_zero]))
      (refine mix_one (i := 19) (by kernel_rfl) rfl (by kernel_rfl) rfl ?_)
      (refine step_lay _ _ _ rfl _ _ rfl _ _ rfl 6 rfl (by assumption) rowHerd (by omega) (fun k _ => h3_one rfl rfl rfl k) ?_; simp only [List.set]; (simp only [Act.put, List.setIfInBounds_toArray, List.set_cons_succ, List.set_cons_zero]))
      (refine mix_end (by kernel_rfl) ?_; intro W' hM; simp only [List.cons_append, List.nil_append] at hM)
      go_wp2
      have hA1 := (hM.ats 6 _ _ _ rfl).congr (g := h3 (.slice (some ⟨g0, 0, none⟩) n c0) (.slice (some ⟨g1, 0, none⟩) n c1) (.slice (some ⟨g2, 0, none⟩) n c2)) (fun j hj => by simp [lay, hj])
      exact bodyPost_ret (results_at rfl _ rfl hA1 rowHerd) rfl ⟨_, rfl, g0, c0, G0, g1, c1, G1, g2, c2, G2, rfl, ⟨by assumption, by assumption, by assumption⟩, ⟨hc0, hc1, hc2⟩, ⟨hG0, hG1, hG2⟩, hM.sub (fun i => [2, 1, 0].getD i 0) (fun i p h => by rcases i with _ | _ | _ | i <;> simp at h ⊢ <;> exact h) rfl⟩
  · (refine step_slice0 _ _ rfl _ u16_under u16_info0 ?_; intro s2 hs2; (simp only [Act.put, List.setIfInBounds_toArray, List.set_cons_succ, List.set_cons_zero]))
    (refine mix_two (i := 0) (j := 6) (by kernel_rfl) rfl rfl (by kernel_rfl) (by kernel_rfl) rfl rfl ?_ ?_)
    · (refine step_slice0 _ _ rfl _ str_under str_info0 ?_; intro s0 hs0; (simp only [Act.put, List.setIfInBounds_toArray, List.set_cons_succ, List.set_cons_zero]))
      (refine mix_two (i := 5) (j := 6) (by kernel_rfl) rfl rfl (by kernel_rfl) (by kernel_rfl) rfl rfl ?_ ?_)
      · (refine step_cat0 _ _ _ rfl _ 1 _ _ str_under infoStringS rfl (by omega) s0 rfl b1 n _ rfl hn1 hn 4 rfl (by omega) ?_; intro g0 c0 G0 hg0 hc0 hG0; (simp only [Act.put, List.setIfInBounds_toArray, List.set_cons_succ, List.set_cons_zero]))
        (refine mix_one (i := 6) (by kernel_rfl) rfl (by kernel_rfl) rfl ?_)
        (refine step_slice0 _ _ rfl _ i16_under i16_info0 ?_; intro s1 hs1; (simp only [Act.put, List.setIfInBounds_toArray, List.set_cons_succ, List.set_cons_zero]))
        (refine mix_one (i := 11) (by kernel_rfl) rfl (by kernel_rfl) rfl ?_)
        (refine step_cat0 _ _ _ rfl _ 1 _ _ i16_under infoInt16S rfl (by omega) s1 rfl b2 n _ rfl hn1 hn 7 rfl (by omega) ?_; intro g1 c1 G1 hg1 hc1 hG1; (simp only [Act.put, List.setIfInBounds_toArray, List.set_cons_succ, List.set_cons_zero]))
        (refine mix_one (i := 17) (by kernel_rfl) rfl (by kernel_rfl) rfl ?_)
        (refine step_cat0 _ _ _ rfl _ 1 _ _ u16_under infoUint16S rfl (by omega) s2 rfl b3 n _ rfl hn1 hn 9 rfl (by omega) ?_; intro g2 c2 G2 hg2 hc2 hG2; (simp only [Act.put, List.setIfInBounds_toArray, List.set_cons_succ, List.set_cons_zero]))
        (refine mix_one (i := 18) (by kernel_rfl) rfl (by kernel_rfl) rfl ?_)
        (refine step_val ?_; refine ⟨_, fun W => exec_herd3 _ _ _ rfl _ _ _ _ _ _ _ _ _ rfl rfl rfl W, ?_⟩; (simp only [Act.put, List.setIfInBounds_toArray, List.set_cons_succ, List.set_cons_zero]))
        (refine mix_one (i := 19) (by kernel_rfl) rfl (by kernel_rfl) rfl ?_)
        (refine step_lay _ _ _ rfl _ _ rfl _ _ rfl 6 rfl (by assumption) rowHerd (by omega) (fun k _ => h3_one rfl rfl rfl k) ?_; simp only [List.set]; (simp only [Act.put, List.setIfInBounds_toArray, List.set_cons_succ, List.set_cons_zero]))
        (refine mix_end (by kernel_rfl) ?_; intro W' hM; simp only [List.cons_append, List.nil_append] at hM)
        go_wp2
        have hA1 := (hM.ats 6 _ _ _ rfl).congr (g := h3 (.slice (some ⟨g0, 0, none⟩) n c0) (.slice (some ⟨g1, 0, none⟩) n c1) (.slice (some ⟨g2, 0, none⟩) n c2)) (fun j hj => by simp [lay, hj])
        exact bodyPost_ret (results_at rfl _ rfl hA1 rowHerd) rfl ⟨_, rfl, g0, c0, G0, g1, c1, G1, g2, c2, G2, rfl, ⟨by assumption, by assumption, by assumption⟩, ⟨hc0, hc1, hc2⟩, ⟨hG0, hG1, hG2⟩, hM.sub (fun i => [3, 1, 0].getD i 0) (fun i p h => by rcases i with _ | _ | _ | i <;> simp at h ⊢ <;> exact h) rfl⟩
      · (refine step_slice0 _ _ rfl _ i16_under i16_info0 ?_; intro s1 hs1; (simp only [Act.put, List.setIfInBounds_toArray, List.set_cons_succ, List.set_cons_zero]))
        (refine mix_one (i := 5) (by kernel_rfl) rfl (by kernel_rfl) rfl ?_)
        (refine step_cat0 _ _ _ rfl _ 1 _ _ str_under infoStringS rfl (by omega) s0 rfl b1 n _ rfl hn1 hn 5 rfl (by omega) ?_; intro g0 c0 G0 hg0 hc0 hG0; (simp only [Act.put, List.setIfInBounds_toArray, List.set_cons_succ, List.set_cons_zero]))
        (refine mix_one (i := 11) (by kernel_rfl) rfl (by kernel_rfl) rfl ?_)
        (refine step_cat0 _ _ _ rfl _ 1 _ _ i16_under infoInt16S rfl (by omega) s1 rfl b2 n _ rfl hn1 hn 7 rfl (by omega) ?_; intro g1 c1 G1 hg1 hc1 hG1; (simp only [Act.put, List.setIfInBounds_toArray, List.set_cons_succ, List.set_cons_zero]))
        (refine mix_one (i := 17) (by kernel_rfl) rfl (by kernel_rfl) rfl ?_)
        (refine step_cat0 _ _ _ rfl _ 1 _ _ u16_under infoUint16S rfl (by omega) s2 rfl b3 n _ rfl hn1 hn 9 rfl (by omega) ?_; intro g2 c2 G2 hg2 hc2 hG2; (simp only [Act.put, List.setIfInBounds_toArray, List.set_cons_succ, List.set_cons_zero]))
        (refine mix_one (i := 18) (by kernel_rfl) rfl (by kernel_rfl) rfl ?_)
        (refine step_val ?_; refine ⟨_, fun W => exec_herd3 _ _ _ rfl _ _ _ _ _ _ _ _ _ rfl rfl rfl W, ?_⟩; (simp only [Act.put, List.setIfInBounds_toArray, List.set_cons_succ, List.set_cons_zero]))
        (refine mix_one (i := 19) (by kernel_rfl) rfl (by kernel_rfl) rfl ?_)
        (refine step_lay _ _ _ rfl _ _ rfl _ _ rfl 6 rfl (by assumption) rowHerd (by omega) (fun k _ => h3_one rfl rfl rfl k) ?_; simp only [List.set]; (simp only [Act.put, List.setIfInBounds_toArray, List.set_cons_succ, List.set_cons_zero]))
        (refine mix_end (by kernel_rfl) ?_; intro W' hM; simp only [List.cons_append, List.nil_append] at hM)
        go_wp2
        have hA1 := (hM.ats 6 _ _ _ rfl).congr (g := h3 (.slice (some ⟨g0, 0, none⟩) n c0) (.slice (some ⟨g1, 0, none⟩) n c1) (.slice (some ⟨g2, 0, none⟩) n c2)) (fun j hj => by simp [lay, hj])
        exact bodyPost_ret (results_at rfl _ rfl hA1 rowHerd) rfl ⟨_, rfl, g0, c0, G0, g1, c1, G1, g2, c2, G2, rfl, ⟨by assumption, by assumption, by assumption⟩, ⟨hc0, hc1, hc2⟩, ⟨hG0, hG1, hG2⟩, hM.sub (fun i => [2, 1, 0].getD i 0) (fun i p h => by rcases i with _ | _ | _ | i <;> simp at h ⊢ <;> exact h) rfl⟩
    · (refine step_slice0 _ _ rfl _ i16_under i16_info0 ?_; intro s1 hs1; (simp only [Act.put, List.setIfInBounds_toArray, List.set_cons_succ, List.set_cons_zero]))
      (refine mix_one (i := 0) (by kernel_rfl) rfl (by kernel_rfl) rfl ?_)
      (refine step_slice0 _ _ rfl _ str_under str_info0 ?_; intro s0 hs0; (simp only [Act.put, List.setIfInBounds_toArray, List.set_cons_succ, List.set_cons_zero]))
      (refine mix_one (i := 5) (by kernel_rfl) rfl (by kernel_rfl) rfl ?_)
      (refine step_cat0 _ _ _ rfl _ 1 _ _ str_under infoStringS rfl (by omega) s0 rfl b1 n _ rfl hn1 hn 5 rfl (by omega) ?_; intro g0 c0 G0 hg0 hc0 hG0; (simp only [Act.put, List.setIfInBounds_toArray, List.set_cons_succ, List.set_cons_zero]))
      (refine mix_one (i := 11) (by kernel_rfl) rfl (by kernel_rfl) rfl ?_)
      (refine step_cat0 _ _ _ rfl _ 1 _ _ i16_under infoInt16S rfl (by omega) s1 rfl b2 n _ rfl hn1 hn 7 rfl (by omega) ?_; intro g1 c1 G1 hg1 hc1 hG1; (simp only [Act.put, List.setIfInBounds_toArray, List.set_cons_succ, List.set_cons_zero]))
      (refine mix_one (i := 17) (by kernel_rfl) rfl (by kernel_rfl) rfl ?_)
      (refine step_cat0 _ _ _ rfl _ 1 _ _ u16_under infoUint16S rfl (by omega) s2 rfl b3 n _ rfl hn1 hn 9 rfl (by omega) ?_; intro g2 c2 G2 hg2 hc2 hG2; (simp only [Act.put, List.setIfInBounds_toArray, List.set_cons_succ, List.set_cons_zero]))
      (refine mix_one (i := 18) (by kernel_rfl) rfl (by kernel_rfl) rfl ?_)
      (refine step_val ?_; refine ⟨_, fun W => exec_herd3 _ _ _ rfl _ _ _ _ _ _ _ _ _ rfl rfl rfl W, ?_⟩; (simp only [Act.put, List.setIfInBounds_toArray, List.set_cons_succ, List.set_cons_zero]))
      (refine mix_one (i := 19) (by kernel_rfl) rfl (by kernel_rfl) rfl ?_)
      (refine step_lay _ _ _ rfl _ _ rfl _ _ rfl 6 rfl (by assumption) rowHerd (by omega) (fun k _ => h3_one rfl rfl rfl k) ?_; simp only [List.set]; (simp only [Act.put, List.setIfInBounds_toArray, List.set_cons_succ, List.set_cons_zero]))
      (refine mix_end (by kernel_rfl) ?_; intro W' hM; simp only [List.cons_append, List.nil_append] at hM)
      go_wp2
      have hA1 := (hM.ats 6 _ _ _ rfl).congr (g := h3 (.slice (some ⟨g0, 0, none⟩) n c0) (.slice (some ⟨g1, 0, none⟩) n c1) (.slice (some ⟨g2, 0, none⟩) n c2)) (fun j hj => by simp [lay, hj])
      exact bodyPost_ret (results_at rfl _ rfl hA1 rowHerd) rfl ⟨_, rfl, g0, c0, G0, g1, c1, G1, g2, c2, G2, rfl, ⟨by assumption, by assumption, by assumption⟩, ⟨hc0, hc1, hc2⟩, ⟨hG0, hG1, hG2⟩, hM.sub (fun i => [2, 1, 0].getD i 0) (fun i p h => by rcases i with _ | _ | _ | i <;> simp at h ⊢ <;> exact h) rfl⟩
theorem l06Own_any (d : Hd) (bh b1 b2 b3 : Nat) (hn : d.n1 ≤ 1048576) (l2 : d.n2 = d.n1) (l3 : d.n3 = d.n1) (w : World) (hM0 : Mem w ((bh, 3, hdV d b1 b2 b3) :: hdB d b1 b2 b3) w) :
    Calls Tryd.prog 71 #[.pointer (some ⟨bh, 0, none⟩)] w fun e w' => ∃ f, e = .returned (.agg (arr 3 f)) ∧ OwnC d.n1 (vStringS d.ss) (vInt16S d.es) (vUint16S d.fs) w f w' := by
  by_cases h : d.n1 = 0
  · exact l06Own_no d bh b1 b2 b3 h l2 l3 w hM0
  · exact l06Own_some d bh b1 b2 b3 (by omega) hn l2 l3 w hM0
end Go.Proofs.YthodkbmenndnoaaDoor

