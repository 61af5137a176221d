/-
  spec.GrassOf by contract.
-/
import Derived.Test.YtdlfhomnlhdacaaDoorAll
import Derived.Test.YtdlfhomnlhdacaaDoorSumB
import Derived.Test.YtdlfhomnlhdacaaDoorNum
namespace Go.Proofs.YtdlfhomnlhdacaaDoor
open Go Go.RowKit Go.BigFrame

def allN (g : Nat → Int) (s : Nat → Int × Int) (n : Nat) : Int := if okB g && allB g s n then sumL g (cellsL s n) else 0
theorem allN_bad {g : Nat → Int} {s : Nat → Int × Int} {n : Nat} (h : okB g = false) : allN g s n = 0 := by simp [allN, h]
theorem allN_out {g : Nat → Int} {s : Nat → Int × Int} {n : Nat} (h2 : allB g s n = false) : allN g s n = 0 := by simp [allN, h2]
theorem allN_ok {g : Nat → Int} {s : Nat → Int × Int} {n : Nat} (h : okB g = true) (h2 : allB g s n = true) : allN g s n = sumL g (cellsL s n) := by simp [allN, h, h2]
theorem cells_fit {s : Nat → Int × Int} {n k : Nat} (h : ∀ k, k < n → ∃ u v : Nat, u < 10 ∧ v < 10 ∧ s k = ((u : Int), (v : Int))) (hk : k ≤ n) : ∀ q ∈ cellsL s k, q.1 < 10 ∧ q.2 < 10 := fun q hq => by
  unfold cellsL at hq
  obtain ⟨j, hj, rfl⟩ := List.mem_map.1 hq
  obtain ⟨u, v, hu, hv, e⟩ := h j (by have := List.mem_range.1 hj; omega)
  simp [e]; omega

set_option maxRecDepth 100000 in
set_option maxHeartbeats 1000000 in
theorem specGrassOf_any (g : Nat → Int) (hg : Fits g) (b n c : Nat) (s : Nat → Int × Int) (hF : ∀ i, i < n → FitsS (s i)) (hn : n ≤ 1048576) (w : World) (hB : At w b (n * 2) (sps s)) :
    Calls Tryd.prog 33 #[.agg (arr 122 (pas g)), .slice (some ⟨b, 0, none⟩) n c] w fun e w' => e = .returned (numR (allN g s n) (allC g s n)) ∧ Below w.heap.size w w' := by
  have hM : Mem w [(b, n * 2, sps s)] w := (Mem.nil w).old hB (fun i p h => by simp at h)
  have HF := Lib.hid hF
  have hn' : n ≤ maxLen := by unfold maxLen; omega
  clear hF hB
  have bad : ∀ q : Int, q ≠ 0 → allC g s n = q → allN g s n = 0 := fun q h1 h2 => by
    rcases allC_cases g s n with h | h | h
    · exact allN_bad h.1
    · exact allN_out h.2.1
    · exact absurd (h2.symm.trans h.2.2) h1
  rcases allC_cases g s n with h | h | h
  · have Hc := Lib.hid h.2
    have Hb := Lib.hid (bad 1 (by decide) h.2)
    clear h bad
    have tk_b1 : True := trivial
    go_enter Tryd.func33, Tryd.ntmps33
    go_wp2_with (first | (go_at_call 76; (with_reducible refine (l01All_any g hg _ b n c s HF.out hn' _ (hM.ats 0 _ _ _ rfl) (hM.ats 1 _ _ _ rfl) (hM.apart 0 1 _ _ rfl rfl (by omega))).mono ?_); rintro e W' ⟨rfl, hb'⟩; rw [Hc.out]; have hM' := hM.call hb'; clear hM hb'; have hM := hM'; clear hM') | (have _t := tk_b1; refine wpList_box rfl _ _ rfl _ _ rfl hM ?_; intro b1 W' hb1 hM'; clear hM tk_b1; have hM := hM'; clear hM'))
    go_ret2
    exact ⟨ret_num Hb.out.symm Hc.out.symm, hM.below⟩
  · have Hc := Lib.hid h.2.2
    have Hb := Lib.hid (bad 2 (by decide) h.2.2)
    clear h bad
    have tk_b1 : True := trivial
    go_enter Tryd.func33, Tryd.ntmps33
    go_wp2_with (first | (go_at_call 76; (with_reducible refine (l01All_any g hg _ b n c s HF.out hn' _ (hM.ats 0 _ _ _ rfl) (hM.ats 1 _ _ _ rfl) (hM.apart 0 1 _ _ rfl rfl (by omega))).mono ?_); rintro e W' ⟨rfl, hb'⟩; rw [Hc.out]; have hM' := hM.call hb'; clear hM hb'; have hM := hM'; clear hM') | (have _t := tk_b1; refine wpList_box rfl _ _ rfl _ _ rfl hM ?_; intro b1 W' hb1 hM'; clear hM tk_b1; have hM := hM'; clear hM'))
    go_ret2
    exact ⟨ret_num Hb.out.symm Hc.out.symm, hM.below⟩
  have Hc := Lib.hid h.2.2
  have Hn := Lib.hid (allN_ok h.1 h.2.1)
  have Hl := Lib.hid (all_cell h.1 h.2.1)
  have Hg := Lib.hid (fun k hk => (ok_grass h.1 k hk).1)
  clear h bad
  have tk_b1 : True := trivial
  go_enter Tryd.func33, Tryd.ntmps33
  go_wp2_with (first | (go_at_call 76; (with_reducible refine (l01All_any g hg _ b n c s HF.out hn' _ (hM.ats 0 _ _ _ rfl) (hM.ats 1 _ _ _ rfl) (hM.apart 0 1 _ _ rfl rfl (by omega))).mono ?_); rintro e W' ⟨rfl, hb'⟩; rw [Hc.out]; have hM' := hM.call hb'; clear hM hb'; have hM := hM'; clear hM') | (have _t := tk_b1; refine wpList_box rfl _ _ rfl _ _ rfl hM ?_; intro b1 W' hb1 hM'; clear hM tk_b1; have hM := hM'; clear hM'))
  go_loopw [7, 8] (fun t i wr => ∃ k : Nat, k ≤ n ∧ t = .int .i64 (sumL g (cellsL s k)) ∧ i = .int .i64 k ∧ Mem w [(b1, 122, pas g), (b, n * 2, sps s)] wr) (fun _ i _ => n - (intOf i).toNat)
  case atStart => exact ⟨0, by omega, by simp [cellsL, sumL], rfl, hM⟩
  case round =>
    clear hM
    obtain ⟨k, hk, rfl, rfl, hM⟩ := hrel
    by_cases hlt : k < n
    · have l2 : (k : Int) < n := by omega
      obtain ⟨u, v, hu, hv, hs⟩ := Hl.out k hlt
      have ex : sps s (k * 2) = .int .i8 (u : Int) := by rw [← Nat.add_zero (k * 2), sps_fst, hs]
      have ey : sps s (k * 2 + 1) = .int .i8 (v : Int) := by rw [sps_snd, hs]
      have e0 : pas g (2 + v * 10 + u) = .int .i16 (g (2 + v * 10 + u)) := pas_i16 g (by omega) (by omega)
      have hr := Hg.out (v * 10 + u) (by omega)
      rw [← Nat.add_assoc] at hr
      have hz := sumL_bounds Hg.out (cellsL s k) (cells_fit Hl.out hk)
      rw [cellsL_length] at hz
      have c0 : IntKind.i64.wrap (g (2 + v * 10 + u)) = g (2 + v * 10 + u) := IntWalk.i64_in _ (by omega)
      have c1 : IntKind.i64.wrap (sumL g (cellsL s k) + g (2 + v * 10 + u)) = sumL g (cellsL s (k + 1)) := by
        rw [cellsL_succ hs, sumL_snoc]
        exact IntWalk.i64_in _ (by omega)
      have lx : (u : Int) < 10 := by omega
      have ly : (v : Int) < 10 := by omega
      clear hr hz hs
      have tk_q1 : True := trivial; have tk_q2 : True := trivial; have tk_q3 : True := trivial
      go_wp2
      ((try simp only [Act.put, List.setIfInBounds_toArray, List.set_cons_succ, List.set_cons_zero]); refine wp_region_mem (by kernel_rfl) (by kernel_rfl) hM ?_; clear hM; (repeat (first | go_big_quiet_skip | (go_big_quiet_want; first | (have _t := tk_q1; clear tk_q1; (refine quiet_get1 _ _ rfl _ _ rfl 1 rfl (cellTab _ rfl) (by omega) _ (ey) ?_; (simp only [Act.put, List.setIfInBounds_toArray, List.set_cons_succ, List.set_cons_zero]); go_big_quiet_on)) | (have _t := tk_q2; clear tk_q2; (refine quiet_get1 _ _ rfl _ _ rfl 1 rfl (cellTab _ rfl) (by omega) _ (ex) ?_; (simp only [Act.put, List.setIfInBounds_toArray, List.set_cons_succ, List.set_cons_zero]); go_big_quiet_on)) | (have _t := tk_q3; clear tk_q3; (refine quiet_get1 _ _ rfl _ _ rfl 0 rfl (cellTab _ rfl) (by omega) _ (e0) ?_; (simp only [Act.put, List.setIfInBounds_toArray, List.set_cons_succ, List.set_cons_zero]); go_big_quiet_on)) | (refine quiet_val ?_; apply Exists.intro; refine ⟨fun W => ?_, ?_⟩; (go_simp; (try simp only [l2, lx, ly, c0, c1, if_true, Bool.false_eq_true, if_false]); rfl); (simp only [Act.put, List.setIfInBounds_toArray, List.set_cons_succ, List.set_cons_zero]); go_big_quiet_on)))); (with_reducible refine wpQuiet_nil ?_); intro W' hM)
      go_wp2
      go_roundw
      case rel => exact ⟨k + 1, by omega, rfl, by go_num, hM⟩
      case measure => simp [intOf]; omega
    · obtain rfl : k = n := by omega
      go_wp2
      go_ret2
      exact ⟨ret_num Hn.out.symm Hc.out.symm, hM.below⟩
end Go.Proofs.YtdlfhomnlhdacaaDoor
