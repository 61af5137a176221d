/-
  Several texts in one: Grow.
-/
import Derived.Test.YtaaphdbaocjecaaDoorP1
/-
  impl.ValidGrowth and bounded by contracts; '==' on growths.
-/
namespace Go.Proofs.YtaaphdbaocjecaaDoor
open Go Go.RowKit Go.BigFrame

/-- n, but not less than 0 nor more than m. -/
def clp (m n : Int) : Int := if n < 0 then 0 else if m < n then m else n
theorem clp_lo {m n : Int} (h : n < 0) : clp m n = 0 := by simp [clp, h]
theorem clp_hi {m n : Int} (h : ¬ n < 0) (h' : m < n) : clp m n = m := by simp [clp, h, h']
theorem clp_in {m n : Int} (h : ¬ n < 0) (h' : ¬ m < n) : clp m n = n := by simp [clp, h, h']
/-- h with n at place k. -/
def setW (h : Nat → Int) (k : Nat) (n : Int) : Nat → Int := fun j => if j = k then n else h j
theorem upd_tab (h : Nat → Int) (k : Nat) (n : Int) (hk : k < 11) : upd (gro h) k (.int .i8 n) = gro (setW h k n) := by
  funext j
  unfold upd gro setW grk
  by_cases e : j = k
  · subst e; simp [hk]
  · simp [e]
theorem upd_lim (h : Nat → Int) (n : Int) : upd (gro h) 11 (.int .i16 n) = gro (setW h 11 n) := by
  funext j
  unfold upd gro setW grk
  by_cases e : j = 11
  · subst e; simp
  · simp [e]
/-- The first j numbers of the table within bounds. -/
def bndT (h : Nat → Int) (j : Nat) : Nat → Int := fun p => if p < j then clp 100 (h p) else h p
def bndF (h : Nat → Int) : Nat → Int := setW (bndT h 11) 11 (clp 1000 (h 11))
theorem bndT_zero (h : Nat → Int) : bndT h 0 = h := by funext p; simp [bndT]
theorem bndT_succ (h : Nat → Int) (k : Nat) {n : Int} (e : clp 100 (h k) = n) : setW (bndT h k) k n = bndT h (k + 1) := by
  funext p
  unfold setW bndT
  by_cases e1 : p = k
  · subst e1; simp [e]
  · by_cases e2 : p < k
    · rw [if_neg e1, if_pos e2, if_pos (by omega)]
    · rw [if_neg e1, if_neg e2, if_neg (by omega)]
theorem bndT_at (h : Nat → Int) (k : Nat) : bndT h k k = h k := by simp [bndT]
theorem bndF_at (h : Nat → Int) : bndT h 11 11 = h 11 := by simp [bndT]
theorem eq_bnd (h : Nat → Int) : eqTo 12 h (bndF h) = growB h := by
  rw [Bool.eq_iff_iff, eqTo_iff, growB_iff]
  have hc : ∀ m n : Int, 0 ≤ m → (n = clp m n ↔ 0 ≤ n ∧ n ≤ m) := fun m n hm => by
    unfold clp
    constructor
    · intro e; split at e <;> try split at e
      all_goals omega
    · intro e; rw [if_neg (by omega), if_neg (by omega)]
  constructor
  · intro hh
    refine ⟨fun k hk => ?_, ?_⟩
    · have := hh k (by omega)
      unfold bndF setW bndT at this
      rw [if_neg (by omega), if_pos hk] at this
      exact (hc 100 _ (by omega)).1 this
    · have := hh 11 (by omega)
      unfold bndF setW at this
      rw [if_pos rfl] at this
      exact (hc 1000 _ (by omega)).1 this
  · rintro ⟨h1, h2⟩ k hk
    unfold bndF setW bndT
    by_cases e : k = 11
    · subst e; rw [if_pos rfl]; exact (hc 1000 _ (by omega)).2 h2
    · rw [if_neg e, if_pos (by omega)]; exact (hc 100 _ (by omega)).2 (h1 k (by omega))

theorem cells_i8 : Tryd.prog.cellsOf 22 = 1 := by kernel_rfl
/-- '==' on growths. -/
theorem run_equal_gro (a b : Nat → Int) (W : World) :
    (Op.equalIn 10000 26 (.agg (arr 12 (gro a))) (.agg (arr 12 (gro b)))).run Tryd.prog W = .ok (eqTo 12 a b) W := by
  have hs := run_equalIn_struct (P := Tryd.prog) W 9999 26 (arr 12 (gro a)) (arr 12 (gro b)) (by rw [Program.fieldsOf, Tryd.underlying26]) (by kernel_rfl)
  rw [hs]
  have hf : (Tryd.prog.fieldsOf 26).toList = [
    { name := "Table", type := 23, offset := 0, embedded := false, tag := "", pkgPath := "", byteOffset := 0 },
    { name := "Limit", type := 24, offset := 11, embedded := false, tag := "", pkgPath := "", byteOffset := 12 }] := by
    rw [Program.fieldsOf, Tryd.underlying26]
  rw [hf]
  have p0 := fun c => run_part_row (P := Tryd.prog) (rowTab 23 11 rfl) (n := 12) (i := 0) (f := gro c) (by omega) W
  have p1 := fun c => run_part_cell (P := Tryd.prog) Tryd.underlying24 (n := 12) (i := 11) (f := gro c) (by omega) W
  have q0 := run_equalIn_row (P := Tryd.prog) (n := 11) 9997 Tryd.underlying23 Tryd.underlying22 cells_i8 (fun k => gro a (0 + k)) (fun k => gro b (0 + k)) a b (fun k hk => by rw [Nat.zero_add]; exact gro_i8 a hk) (fun k hk => by rw [Nat.zero_add]; exact gro_i8 b hk) W
  have q1 := run_equalIn_int (P := Tryd.prog) W 9998 24 .i16 .i16 (a 11) (b 11) Tryd.underlying24
  have e1 : ∀ c : Nat → Int, gro c 11 = .int .i16 (c 11) := fun _ => rfl
  simp only [Op.eqFields, ne_eq, Sem.run_bind, p0, p1, Result.andThen_ok, e1, q0, q1, Sem.run_pure, Sem.run_ite]
  have key : eqTo 12 a b = (eqTo 11 a b && (a 11 == b 11)) := by
    rw [Bool.eq_iff_iff]
    simp only [Bool.and_eq_true, eqTo_iff, beq_iff_eq]
    constructor
    · intro h; exact ⟨fun k hk => h _ (by omega), h 11 (by omega)⟩
    · rintro ⟨h0, h1⟩ k hk
      by_cases k0 : k = 11
      · rw [k0]; exact h1
      · exact h0 k (by omega)
  rw [key]
  cases eqTo 11 a b <;> cases (a 11 == b 11) <;> simp
theorem eql_gro (a b : Nat → Int) (W : World) : (binOp .eql 26 (.agg (arr 12 (gro a))) (.agg (arr 12 (gro b)))).run Tryd.prog W = .ok (.bool (eqTo 12 a b)) W := by
  rw [run_eql_struct, run_equal_gro]; rfl

theorem lay_gro0 (f : Nat → Value) (g : Nat → Int) : ∀ k, k < 12 → lay f 0 12 (fun j => gro g (0 + j)) k = gro g k := fun k hk => by simp [lay, hk]

set_option maxRecDepth 100000 in
set_option maxHeartbeats 2000000 in
theorem bounded_any (h : Nat → Int) (hF : FitsW h) (w : World) :
    Calls Tryd.prog 42 #[.agg (arr 12 (gro h))] w fun e w' => e = .returned (.agg (arr 12 (gro (bndF h)))) ∧ Below w.heap.size w w' := by
  have hM := Mem.nil w
  have HF := Lib.hid hF
  clear hF
  have tk_b1 : True := trivial; have tk_b2 : True := trivial; have tk_q1 : True := trivial
  go_enter Tryd.func42, Tryd.ntmps42
  go_wp2_with (first | (have _t := tk_b1; refine wpList_box rfl _ _ rfl _ _ rfl hM ?_; intro b1 W' hb1 hM'; clear hM tk_b1; have hM := hM'; clear hM') | (have _t := tk_b2; refine wpList_zero rfl _ rfl (zeroTab _ _ _ rfl) hM ?_; intro b2 W' hb2 hM'; clear hM tk_b2; have hM := hM'; clear hM') | (have _t := tk_q1; (refine wpList_get rfl _ _ rfl _ _ rfl hM 1 rfl (rowTab _ _ rfl) (by omega) ?_); clear tk_q1))
  rw [← bndT_zero h] at hM
  go_loopw [7] (fun i wr => ∃ k : Nat, k ≤ 11 ∧ i = .int .i64 k ∧ Mem w [(b2, 12, zW), (b1, 12, gro (bndT h k))] wr) (fun i _ => 11 - (intOf i).toNat)
  case atStart => exact ⟨0, by omega, rfl, by first | exact hM | (rw [bndT_zero]; exact hM)⟩
  case round =>
    clear hM
    obtain ⟨k, hk, rfl, hM⟩ := hrel
    by_cases hlt : k < 11
    · have lk : (k : Int) < 11 := by omega
      have e0 : gro h k = .int .i8 (h k) := gro_i8 h hlt
      by_cases n0 : h k < 0
      · have d1 : ¬ (100 : Int) < h k := by omega
        have d2 : ¬ (0 : Int) < h k := by omega
        go_wp2_with (first | (refine wpList_index rfl _ _ _ rfl _ _ rfl _ _ rfl (by omega) Tryd.underlying23 (cellTab _ rfl) _ e0 ?_) | (refine wpList_set1 rfl _ _ _ rfl _ _ rfl _ rfl ?_ hM 1 rfl (by assumption) (cellTab _ rfl) (by omega) ?_; (first | rfl | exact h1 _); intro W' hM'; clear hM; have hM := hM'; clear hM'; simp [List.set, Act.eval] at hM))
        rw [upd_tab _ _ _ hlt, bndT_succ _ _ (clp_lo n0)] at hM
        go_roundw
        case rel => exact ⟨k + 1, by omega, by go_num, hM⟩
        case measure => simp [intOf]; omega
      by_cases n1 : 100 < h k
      · go_wp2_with (first | (refine wpList_index rfl _ _ _ rfl _ _ rfl _ _ rfl (by omega) Tryd.underlying23 (cellTab _ rfl) _ e0 ?_) | (refine wpList_set1 rfl _ _ _ rfl _ _ rfl _ rfl ?_ hM 1 rfl (by assumption) (cellTab _ rfl) (by omega) ?_; (first | rfl | exact h1 _); intro W' hM'; clear hM; have hM := hM'; clear hM'; simp [List.set, Act.eval] at hM))
        rw [upd_tab _ _ _ hlt, bndT_succ _ _ (clp_hi n0 n1)] at hM
        go_roundw
        case rel => exact ⟨k + 1, by omega, by go_num, hM⟩
        case measure => simp [intOf]; omega
      · have e3 : (if (0 : Int) < h k then h k else 0) = h k := by split <;> omega
        go_wp2_with (first | (refine wpList_index rfl _ _ _ rfl _ _ rfl _ _ rfl (by omega) Tryd.underlying23 (cellTab _ rfl) _ e0 ?_) | (refine wpList_set1 rfl _ _ _ rfl _ _ rfl _ rfl ?_ hM 1 rfl (by assumption) (cellTab _ rfl) (by omega) ?_; (first | rfl | exact h1 _); intro W' hM'; clear hM; have hM := hM'; clear hM'; simp [List.set, Act.eval] at hM))
        rw [upd_tab _ _ _ hlt, bndT_succ _ _ (clp_in n0 n1)] at hM
        go_roundw
        case rel => exact ⟨k + 1, by omega, by go_num, hM⟩
        case measure => simp [intOf]; omega
    · obtain rfl : k = 11 := by omega
      have e0 : gro (bndT h 11) 11 = .int .i16 (h 11) := by rw [gro_lim, bndF_at]
      by_cases n0 : h 11 < 0
      · have d1 : ¬ (1000 : Int) < h 11 := by omega
        have d2 : ¬ (0 : Int) < h 11 := by omega
        have Hb : Hid (setW (bndT h 11) 11 0 = bndF h) := Lib.hid (by rw [bndF, clp_lo n0])
        go_wp2_with (first | (refine wpList_get1 rfl _ _ rfl _ _ rfl hM 1 rfl (cellTab _ rfl) (by omega) _ e0 ?_) | (refine wpList_set1 rfl _ _ _ rfl _ _ rfl _ rfl ?_ hM 1 rfl (by assumption) (cellTab _ rfl) (by omega) ?_; (first | rfl | exact h1 _); intro W' hM'; clear hM; have hM := hM'; clear hM'; simp [List.set, Act.eval] at hM) | (refine wpList_get rfl _ _ rfl _ _ rfl hM 1 rfl (rowTab _ _ rfl) (by omega) ?_) | (refine wpList_lay rfl _ _ _ rfl _ _ rfl _ _ rfl hM 0 rfl (by assumption) (rowTab _ _ rfl) (by omega) ?_ ?_; (first | (intro _ _; rfl) | (intro k _; exact h1 _) | (intro k _; simp only [lay, upd]; (repeat' split) <;> first | exact h1 _ | rfl)); intro W' hM'; clear hM; have hM := hM'; clear hM'; simp only [List.set] at hM))
        rw [upd_lim, Hb.out] at hM
        exact bodyPost_ret (results_at rfl _ rfl ((hM.ats 0 _ _ _ rfl).congr (lay_gro0 _ _)) (rowTab _ _ rfl)) rfl ⟨rfl, hM.below⟩
      by_cases n1 : 1000 < h 11
      · have Hb : Hid (setW (bndT h 11) 11 1000 = bndF h) := Lib.hid (by rw [bndF, clp_hi n0 n1])
        go_wp2_with (first | (refine wpList_get1 rfl _ _ rfl _ _ rfl hM 1 rfl (cellTab _ rfl) (by omega) _ e0 ?_) | (refine wpList_set1 rfl _ _ _ rfl _ _ rfl _ rfl ?_ hM 1 rfl (by assumption) (cellTab _ rfl) (by omega) ?_; (first | rfl | exact h1 _); intro W' hM'; clear hM; have hM := hM'; clear hM'; simp [List.set, Act.eval] at hM) | (refine wpList_get rfl _ _ rfl _ _ rfl hM 1 rfl (rowTab _ _ rfl) (by omega) ?_) | (refine wpList_lay rfl _ _ _ rfl _ _ rfl _ _ rfl hM 0 rfl (by assumption) (rowTab _ _ rfl) (by omega) ?_ ?_; (first | (intro _ _; rfl) | (intro k _; exact h1 _) | (intro k _; simp only [lay, upd]; (repeat' split) <;> first | exact h1 _ | rfl)); intro W' hM'; clear hM; have hM := hM'; clear hM'; simp only [List.set] at hM))
        rw [upd_lim, Hb.out] at hM
        exact bodyPost_ret (results_at rfl _ rfl ((hM.ats 0 _ _ _ rfl).congr (lay_gro0 _ _)) (rowTab _ _ rfl)) rfl ⟨rfl, hM.below⟩
      · have e3 : (if (0 : Int) < h 11 then h 11 else 0) = h 11 := by split <;> omega
        have Hb : Hid (setW (bndT h 11) 11 (h 11) = bndF h) := Lib.hid (by rw [bndF, clp_in n0 n1])
        go_wp2_with (first | (refine wpList_get1 rfl _ _ rfl _ _ rfl hM 1 rfl (cellTab _ rfl) (by omega) _ e0 ?_) | (refine wpList_set1 rfl _ _ _ rfl _ _ rfl _ rfl ?_ hM 1 rfl (by assumption) (cellTab _ rfl) (by omega) ?_; (first | rfl | exact h1 _); intro W' hM'; clear hM; have hM := hM'; clear hM'; simp [List.set, Act.eval] at hM) | (refine wpList_get rfl _ _ rfl _ _ rfl hM 1 rfl (rowTab _ _ rfl) (by omega) ?_) | (refine wpList_lay rfl _ _ _ rfl _ _ rfl _ _ rfl hM 0 rfl (by assumption) (rowTab _ _ rfl) (by omega) ?_ ?_; (first | (intro _ _; rfl) | (intro k _; exact h1 _) | (intro k _; simp only [lay, upd]; (repeat' split) <;> first | exact h1 _ | rfl)); intro W' hM'; clear hM; have hM := hM'; clear hM'; simp only [List.set] at hM))
        rw [upd_lim, Hb.out] at hM
        exact bodyPost_ret (results_at rfl _ rfl ((hM.ats 0 _ _ _ rfl).congr (lay_gro0 _ _)) (rowTab _ _ rfl)) rfl ⟨rfl, hM.below⟩

set_option maxRecDepth 100000 in
set_option maxHeartbeats 1000000 in
theorem implValidGrowth_any (h : Nat → Int) (hF : FitsW h) (w : World) :
    Calls Tryd.prog 28 #[.agg (arr 12 (gro h))] w fun e w' => e = .returned (.bool (growB h)) ∧ Below w.heap.size w w' := by
  have hM := Mem.nil w
  have HF := Lib.hid hF
  have hq := eql_gro h (bndF h)
  have He := Lib.hid (eq_bnd h)
  clear hF
  have tk_b1 : True := trivial
  go_enter Tryd.func28, Tryd.ntmps28
  go_wp2_with (first | (have _t := tk_b1; refine wpList_box rfl _ _ rfl _ _ rfl hM ?_; intro b1 W' hb1 hM'; clear hM tk_b1; have hM := hM'; clear hM'))
  ((try simp only [Act.put, List.setIfInBounds_toArray, List.set_cons_succ, List.set_cons_zero]); refine wp_region_mem (by kernel_rfl) (by kernel_rfl) hM ?_; clear hM; (repeat (first | go_big_quiet_skip | (go_big_quiet_want; first | (refine quiet_get _ _ rfl _ _ rfl 0 rfl (rowTab _ _ rfl) (by omega) ?_; (simp only [Act.put, List.setIfInBounds_toArray, List.set_cons_succ, List.set_cons_zero]); go_big_quiet_on) | (refine quiet_call ?_; apply Exists.intro; apply Exists.intro; apply Exists.intro; refine ⟨fun W => ?_, fun W hM => ?_, ?_⟩; (go_simp; exact ⟨rfl, rfl⟩); (exact bounded_any h HF.out W); (simp only [Act.put, List.setIfInBounds_toArray, List.set_cons_succ, List.set_cons_zero]); go_big_quiet_on) | (refine quiet_val ?_; apply Exists.intro; refine ⟨fun W => ?_, ?_⟩; (go_simp; rfl); (simp only [Act.put, List.setIfInBounds_toArray, List.set_cons_succ, List.set_cons_zero]); go_big_quiet_on)))); (with_reducible refine wpQuiet_nil ?_); intro W' hM)
  go_wp2
  go_ret
  exact ⟨ret_bool He.out, hM.below⟩
end Go.Proofs.YtaaphdbaocjecaaDoor

