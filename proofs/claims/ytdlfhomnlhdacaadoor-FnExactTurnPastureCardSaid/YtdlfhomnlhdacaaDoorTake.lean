/-
  A pasture that is made cell by cell: what it is when some cells are done; (impl.Pasture).takeCell by contract.
-/
import Derived.Test.YtdlfhomnlhdacaaDoorRowBits
import Derived.Test.YtdlfhomnlhdacaaDoorPasture
namespace Go.Proofs.YtdlfhomnlhdacaaDoor
open Go Go.RowKit Go.BigFrame

def whS (W H : Int) : Nat → Int := fun j => if j = 0 then W else if j = 1 then H else 0
/-- The pasture W wide and H high whose cells in l have their grass and their sides. -/
def tkS (W H : Int) (val : Nat → Nat → Int) (e f : Nat → Nat → Bool) (l : List (Nat × Nat)) : Nat → Int := fun p =>
  if p = 0 then W else if p = 1 then H else if p < 102 then (if ((p - 2) % 10, (p - 2) / 10) ∈ l then val ((p - 2) % 10) ((p - 2) / 10) else 0)
  else if p < 112 then rowV (fun i => decide ((i, p - 102) ∈ l) && e i (p - 102)) else if p < 122 then rowV (fun i => decide ((i, p - 112) ∈ l) && f i (p - 112)) else 0
theorem tkS_nil (W H : Int) (val : Nat → Nat → Int) (e f : Nat → Nat → Bool) : whS W H = tkS W H val e f [] := by
  funext p
  unfold whS tkS
  simp only [List.not_mem_nil, decide_false, Bool.false_and, if_false, rowV_none]
  repeat' split
  all_goals first | rfl | omega
def tk1 (G : Nat → Int) (u v : Nat) (n : Int) : Nat → Int := setG G (2 + v * 10 + u) n
def tk2 (G : Nat → Int) (u v : Nat) (b : Bool) : Nat → Int := setG G (102 + v) (putR (G (102 + v)) u b)
def tk3 (G : Nat → Int) (u v : Nat) (b : Bool) : Nat → Int := setG G (112 + v) (putR (G (112 + v)) u b)
theorem tkS_east {W H : Int} {val : Nat → Nat → Int} {e f : Nat → Nat → Bool} {l : List (Nat × Nat)} {v : Nat} (hv : v < 10) : tkS W H val e f l (102 + v) = rowV (fun i => decide ((i, v) ∈ l) && e i v) := by
  unfold tkS
  rw [if_neg (by omega), if_neg (by omega), if_neg (by omega), if_pos (by omega), show 102 + v - 102 = v by omega]
theorem tkS_south {W H : Int} {val : Nat → Nat → Int} {e f : Nat → Nat → Bool} {l : List (Nat × Nat)} {v : Nat} (hv : v < 10) : tkS W H val e f l (112 + v) = rowV (fun i => decide ((i, v) ∈ l) && f i v) := by
  unfold tkS
  rw [if_neg (by omega), if_neg (by omega), if_neg (by omega), if_neg (by omega), if_pos (by omega), show 112 + v - 112 = v by omega]
theorem row_snoc {l : List (Nat × Nat)} {e : Nat → Nat → Bool} {u v i : Nat} : (if i = u then e u v else (decide ((i, v) ∈ l) && e i v)) = (decide ((i, v) ∈ l ++ [(u, v)]) && e i v) := by
  by_cases h : i = u
  · subst h; simp
  · simp [h]
theorem row_other {l : List (Nat × Nat)} {e : Nat → Nat → Bool} {u v i r : Nat} (h : r ≠ v) : (decide ((i, r) ∈ l) && e i r) = (decide ((i, r) ∈ l ++ [(u, v)]) && e i r) := by simp [h]
/-- One cell more. -/
theorem tkS_snoc (W H : Int) (val : Nat → Nat → Int) (e f : Nat → Nat → Bool) (l : List (Nat × Nat)) (u v : Nat) (hu : u < 10) (hv : v < 10) :
    tk3 (tk2 (tk1 (tkS W H val e f l) u v (val u v)) u v (e u v)) u v (f u v) = tkS W H val e f (l ++ [(u, v)]) := by
  have hE : tk1 (tkS W H val e f l) u v (val u v) (102 + v) = rowV (fun i => decide ((i, v) ∈ l) && e i v) := by
    unfold tk1 setG; rw [if_neg (by omega)]; exact tkS_east hv
  have hS : tk2 (tk1 (tkS W H val e f l) u v (val u v)) u v (e u v) (112 + v) = rowV (fun i => decide ((i, v) ∈ l) && f i v) := by
    unfold tk2 setG; rw [if_neg (by omega)]; unfold tk1 setG; rw [if_neg (by omega)]; exact tkS_south hv
  have qE : putR (rowV (fun i => decide ((i, v) ∈ l) && e i v)) u (e u v) = rowV (fun i => decide ((i, v) ∈ l ++ [(u, v)]) && e i v) := by
    rw [putR_row _ _ hu]; exact rowV_congr fun i _ => row_snoc
  have qS : putR (rowV (fun i => decide ((i, v) ∈ l) && f i v)) u (f u v) = rowV (fun i => decide ((i, v) ∈ l ++ [(u, v)]) && f i v) := by
    rw [putR_row _ _ hu]; exact rowV_congr fun i _ => row_snoc
  funext p
  unfold tk3 setG
  by_cases h3 : p = 112 + v
  · rw [if_pos h3, hS, qS, h3, tkS_south hv]
  rw [if_neg h3]
  unfold tk2 setG
  by_cases h2 : p = 102 + v
  · rw [if_pos h2, hE, qE, h2, tkS_east hv]
  rw [if_neg h2]
  unfold tk1 setG tkS
  by_cases h1 : p = 2 + v * 10 + u
  · have e1 : (p - 2) % 10 = u := by omega
    have e2 : (p - 2) / 10 = v := by omega
    rw [if_pos h1, if_neg (by omega), if_neg (by omega), if_pos (by omega), e1, e2, if_pos (by simp)]
  rw [if_neg h1]
  by_cases z0 : p = 0
  · simp [z0]
  by_cases z1 : p = 1
  · simp [z1]
  simp only [z0, z1, if_false]
  by_cases z2 : p < 102
  · have hne : ¬ ((p - 2) % 10 = u ∧ (p - 2) / 10 = v) := fun h => by omega
    simp [z2, hne]
  simp only [z2, if_false]
  by_cases z3 : p < 112
  · simp only [z3, if_true]
    exact rowV_congr fun i _ => row_other (by omega)
  simp only [z3, if_false]
  by_cases z4 : p < 122
  · simp only [z4, if_true]
    exact rowV_congr fun i _ => row_other (by omega)
  · simp [z4]
/-- A side without a hurdle is left as it is. -/
theorem tk2_skip {W H : Int} {val : Nat → Nat → Int} {e f : Nat → Nat → Bool} {l : List (Nat × Nat)} {u v : Nat} (n : Int) (hu : u < 10) (hv : v < 10) (h : e u v = false) : tk2 (tk1 (tkS W H val e f l) u v n) u v false = tk1 (tkS W H val e f l) u v n := by
  have hE : tk1 (tkS W H val e f l) u v n (102 + v) = rowV (fun i => decide ((i, v) ∈ l) && e i v) := by
    unfold tk1 setG; rw [if_neg (by omega)]; exact tkS_east hv
  funext p
  unfold tk2
  rw [hE, putR_row _ _ hu]
  unfold setG
  by_cases hp : p = 102 + v
  · rw [if_pos hp, hp, hE]
    refine rowV_congr fun i _ => ?_
    by_cases hi : i = u
    · subst hi; simp [h]
    · simp [hi]
  · rw [if_neg hp]
theorem tk3_skip {W H : Int} {val : Nat → Nat → Int} {e f : Nat → Nat → Bool} {l : List (Nat × Nat)} {u v : Nat} (n : Int) (b : Bool) (hu : u < 10) (hv : v < 10) (h : f u v = false) : tk3 (tk2 (tk1 (tkS W H val e f l) u v n) u v b) u v false = tk2 (tk1 (tkS W H val e f l) u v n) u v b := by
  have hS : tk2 (tk1 (tkS W H val e f l) u v n) u v b (112 + v) = rowV (fun i => decide ((i, v) ∈ l) && f i v) := by
    unfold tk2 setG; rw [if_neg (by omega)]; unfold tk1 setG; rw [if_neg (by omega)]; exact tkS_south hv
  funext p
  unfold tk3
  rw [hS, putR_row _ _ hu]
  unfold setG
  by_cases hp : p = 112 + v
  · rw [if_pos hp, hp, hS]
    refine rowV_congr fun i _ => ?_
    by_cases hi : i = u
    · subst hi; simp [h]
    · simp [hi]
  · rw [if_neg hp]

theorem withE (G : Nat → Int) (u v : Nat) (hu : u ≤ 9) (hv : v ≤ 9) (b : Bool) (w : World) :
    Calls Tryd.prog 70 #[.agg (arr 122 (pas G)), .agg (arr 2 (sp u v)), .int .i64 1, .bool b] w fun e w' => e = .returned (.agg (arr 122 (pas (tk2 G u v b)))) ∧ Below w.heap.size w w' := by
  cases b
  · exact withHurdle_1off G u v hu hv w
  · exact withHurdle_1on G u v hu hv w
theorem withS (G : Nat → Int) (u v : Nat) (hu : u ≤ 9) (hv : v ≤ 9) (b : Bool) (w : World) :
    Calls Tryd.prog 70 #[.agg (arr 122 (pas G)), .agg (arr 2 (sp u v)), .int .i64 2, .bool b] w fun e w' => e = .returned (.agg (arr 122 (pas (tk3 G u v b)))) ∧ Below w.heap.size w w' := by
  cases b
  · exact withHurdle_2off G u v hu hv w
  · exact withHurdle_2on G u v hu hv w

set_option maxRecDepth 100000 in
set_option maxHeartbeats 2000000 in
theorem takeCell_any (G q : Nat → Int) (u v x y : Nat) (hu : u ≤ 9) (hv : v ≤ 9) (hx : x ≤ 9) (hy : y ≤ 9) (k1 k2 : Int) (c1 c2 : Bool)
    (h1 : ∀ W, Calls Tryd.prog 94 #[.agg (arr 122 (pas q)), .agg (arr 2 (sp x y)), .int .i64 k1] W fun e w' => e = .returned (.bool c1) ∧ Below W.heap.size W w')
    (h2 : ∀ W, Calls Tryd.prog 94 #[.agg (arr 122 (pas q)), .agg (arr 2 (sp x y)), .int .i64 k2] W fun e w' => e = .returned (.bool c2) ∧ Below W.heap.size W w') (w : World) :
    Calls Tryd.prog 79 #[.agg (arr 122 (pas G)), .agg (arr 2 (sp u v)), .agg (arr 122 (pas q)), .agg (arr 2 (sp x y)), .int .i64 k1, .int .i64 k2] w fun e w' => e = .returned (.agg (arr 122 (pas (tk3 (tk2 (tk1 G u v (q (2 + y * 10 + x))) u v c1) u v c2)))) ∧ Below w.heap.size w w' := by
  have hM := Mem.nil w
  have H1 := Lib.hid h1
  have H2 := Lib.hid h2
  have e0 : pas q (2 + y * 10 + x) = .int .i16 (q (2 + y * 10 + x)) := pas_i16 q (by omega) (by omega)
  have lu : (u : Int) < 10 := by omega
  have lv : (v : Int) < 10 := by omega
  have lx : (x : Int) < 10 := by omega
  have ly : (y : Int) < 10 := by omega
  clear h1 h2
  have tk_b1 : True := trivial; have tk_b2 : True := trivial; have tk_b3 : True := trivial; have tk_b4 : True := trivial; have tk_b5 : True := trivial
  go_enter Tryd.func79, Tryd.ntmps79
  go_wp2_with (first | (have _t := tk_b1; refine wpList_box rfl _ _ rfl _ _ rfl hM ?_; intro b1 W' hb1 hM'; clear hM tk_b1; have hM := hM'; clear hM') | (have _t := tk_b2; refine wpList_box rfl _ _ rfl _ _ rfl hM ?_; intro b2 W' hb2 hM'; clear hM tk_b2; have hM := hM'; clear hM') | (have _t := tk_b3; refine wpList_box rfl _ _ rfl _ _ rfl hM ?_; intro b3 W' hb3 hM'; clear hM tk_b3; have hM := hM'; clear hM') | (have _t := tk_b4; refine wpList_box rfl _ _ rfl _ _ rfl hM ?_; intro b4 W' hb4 hM'; clear hM tk_b4; have hM := hM'; clear hM') | (have _t := tk_b5; refine wpList_zero rfl _ rfl (zeroTab _ _ _ rfl) hM ?_; intro b5 W' hb5 hM'; clear hM tk_b5; have hM := hM'; clear hM'))
  ((try simp only [Act.put, List.setIfInBounds_toArray, List.set_cons_succ, List.set_cons_zero]); refine region_tail_mem (m := 15) (by kernel_rfl) (by kernel_rfl) ?_; (have hM' := hM.drew); clear hM; have hM := hM'; clear hM'; simp only [List.take_succ_cons, List.take_zero, List.drop_succ_cons, List.drop_zero]; (repeat (refine wps_plain rfl ?_; (first | (refine still_get1 hM _ _ rfl _ _ rfl 3 rfl (cellTab _ rfl) (by omega) (.int .i8 (v : Int)) rfl ?_) | (refine still_get1 hM _ _ rfl _ _ rfl 3 rfl (cellTab _ rfl) (by omega) (.int .i8 (u : Int)) rfl ?_) | (refine still_get1 hM _ _ rfl _ _ rfl 1 rfl (cellTab _ rfl) (by omega) (.int .i8 (y : Int)) rfl ?_) | (refine still_get1 hM _ _ rfl _ _ rfl 1 rfl (cellTab _ rfl) (by omega) (.int .i8 (x : Int)) rfl ?_) | (refine still_get1 hM _ _ rfl _ _ rfl 2 rfl (cellTab _ rfl) (by omega) _ (e0) ?_) | (refine still_val ?_; apply Exists.intro; refine ⟨fun W => ?_, ?_⟩; (go_simp; (try simp only [lu, lv, lx, ly, if_true]); rfl))); (simp only [Act.put, List.setIfInBounds_toArray, List.set_cons_succ, List.set_cons_zero]))); unfold wpStill)
  go_wp2_with (first | (refine wpList_set1 rfl _ _ _ rfl _ _ rfl _ rfl ?_ hM 4 rfl (by assumption) (cellTab _ rfl) (by omega) ?_; (first | rfl | exact h1 _); intro W' hM'; clear hM; have hM := hM'; clear hM'; simp [List.set, Act.eval] at hM))
  rw [upd_grass _ _ _ (by omega) (by omega)] at hM
  ((try simp only [Act.put, List.setIfInBounds_toArray, List.set_cons_succ, List.set_cons_zero]); refine region_head_mem (m := 7) (by kernel_rfl) (by kernel_rfl) hM ?_; clear hM; simp only [List.take_succ_cons, List.take_zero, List.drop_succ_cons, List.drop_zero]; (repeat (first | go_big_quiet_skip | (go_big_quiet_want; first | (refine quiet_get _ _ rfl _ _ rfl 4 rfl (rowTab _ _ rfl) (by omega) ?_; (simp only [Act.put, List.setIfInBounds_toArray, List.set_cons_succ, List.set_cons_zero]); go_big_quiet_on) | (refine quiet_get _ _ rfl _ _ rfl 3 rfl (rowTab _ _ rfl) (by omega) ?_; (simp only [Act.put, List.setIfInBounds_toArray, List.set_cons_succ, List.set_cons_zero]); go_big_quiet_on) | (refine quiet_get _ _ rfl _ _ rfl 2 rfl (rowTab _ _ rfl) (by omega) ?_; (simp only [Act.put, List.setIfInBounds_toArray, List.set_cons_succ, List.set_cons_zero]); go_big_quiet_on) | (refine quiet_get _ _ rfl _ _ rfl 1 rfl (rowTab _ _ rfl) (by omega) ?_; (simp only [Act.put, List.setIfInBounds_toArray, List.set_cons_succ, List.set_cons_zero]); go_big_quiet_on) | (refine quiet_call ?_; apply Exists.intro; apply Exists.intro; apply Exists.intro; refine ⟨fun W => ?_, fun W hM => ?_, ?_⟩; (go_simp; exact ⟨rfl, rfl⟩); (exact H1.out W); (simp only [Act.put, List.setIfInBounds_toArray, List.set_cons_succ, List.set_cons_zero]); go_big_quiet_on) | (refine quiet_call ?_; apply Exists.intro; apply Exists.intro; apply Exists.intro; refine ⟨fun W => ?_, fun W hM => ?_, ?_⟩; (go_simp; exact ⟨rfl, rfl⟩); (exact withE (tk1 G u v (q (2 + y * 10 + x))) u v hu hv c1 W); (simp only [Act.put, List.setIfInBounds_toArray, List.set_cons_succ, List.set_cons_zero]); go_big_quiet_on) | (refine quiet_val ?_; apply Exists.intro; refine ⟨fun W => ?_, ?_⟩; (go_simp; rfl); (simp only [Act.put, List.setIfInBounds_toArray, List.set_cons_succ, List.set_cons_zero]); go_big_quiet_on)))); (with_reducible refine wpQuiet_nil ?_); intro W' hM)
  go_wp2_with (first | (refine wpList_lay rfl _ _ _ rfl _ _ rfl _ _ rfl hM 4 rfl (by assumption) (rowTab _ _ rfl) (by omega) ?_ ?_; (first | (intro _ _; rfl) | (intro k _; exact h1 _) | (intro k _; simp only [lay, upd]; (repeat' split) <;> first | exact h1 _ | rfl)); intro W' hM'; clear hM; have hM := hM'; clear hM'; simp only [List.set] at hM))
  have hM' := hM.re 4 rfl (pas (tk2 (tk1 G u v (q (2 + y * 10 + x))) u v c1)) (lay_pas _ _)
  simp only [List.set] at hM'
  clear hM
  have hM := hM'
  clear hM'
  ((try simp only [Act.put, List.setIfInBounds_toArray, List.set_cons_succ, List.set_cons_zero]); refine region_head_mem (m := 7) (by kernel_rfl) (by kernel_rfl) hM ?_; clear hM; simp only [List.take_succ_cons, List.take_zero, List.drop_succ_cons, List.drop_zero]; (repeat (first | go_big_quiet_skip | (go_big_quiet_want; first | (refine quiet_get _ _ rfl _ _ rfl 4 rfl (rowTab _ _ rfl) (by omega) ?_; (simp only [Act.put, List.setIfInBounds_toArray, List.set_cons_succ, List.set_cons_zero]); go_big_quiet_on) | (refine quiet_get _ _ rfl _ _ rfl 3 rfl (rowTab _ _ rfl) (by omega) ?_; (simp only [Act.put, List.setIfInBounds_toArray, List.set_cons_succ, List.set_cons_zero]); go_big_quiet_on) | (refine quiet_get _ _ rfl _ _ rfl 2 rfl (rowTab _ _ rfl) (by omega) ?_; (simp only [Act.put, List.setIfInBounds_toArray, List.set_cons_succ, List.set_cons_zero]); go_big_quiet_on) | (refine quiet_get _ _ rfl _ _ rfl 1 rfl (rowTab _ _ rfl) (by omega) ?_; (simp only [Act.put, List.setIfInBounds_toArray, List.set_cons_succ, List.set_cons_zero]); go_big_quiet_on) | (refine quiet_call ?_; apply Exists.intro; apply Exists.intro; apply Exists.intro; refine ⟨fun W => ?_, fun W hM => ?_, ?_⟩; (go_simp; exact ⟨rfl, rfl⟩); (exact H2.out W); (simp only [Act.put, List.setIfInBounds_toArray, List.set_cons_succ, List.set_cons_zero]); go_big_quiet_on) | (refine quiet_call ?_; apply Exists.intro; apply Exists.intro; apply Exists.intro; refine ⟨fun W => ?_, fun W hM => ?_, ?_⟩; (go_simp; exact ⟨rfl, rfl⟩); (exact withS (tk2 (tk1 G u v (q (2 + y * 10 + x))) u v c1) u v hu hv c2 W); (simp only [Act.put, List.setIfInBounds_toArray, List.set_cons_succ, List.set_cons_zero]); go_big_quiet_on) | (refine quiet_val ?_; apply Exists.intro; refine ⟨fun W => ?_, ?_⟩; (go_simp; rfl); (simp only [Act.put, List.setIfInBounds_toArray, List.set_cons_succ, List.set_cons_zero]); go_big_quiet_on)))); (with_reducible refine wpQuiet_nil ?_); intro W' hM)
  go_wp2_with (first | (refine wpList_lay rfl _ _ _ rfl _ _ rfl _ _ rfl hM 0 rfl (by assumption) (rowTab _ _ rfl) (by omega) ?_ ?_; (first | (intro _ _; rfl) | (intro k _; exact h1 _) | (intro k _; simp only [lay, upd]; (repeat' split) <;> first | exact h1 _ | rfl)); intro W' hM'; clear hM; have hM := hM'; clear hM'; simp only [List.set] at hM))
  exact bodyPost_ret (results_at rfl _ rfl ((hM.ats 0 _ _ _ rfl).congr (lay_pas _ _)) (rowTab _ _ rfl)) rfl ⟨rfl, hM.below⟩
theorem takeCell_of (G q : Nat → Int) (u v x y : Nat) (hu : u ≤ 9) (hv : v ≤ 9) (hx : x ≤ 9) (hy : y ≤ 9) (k1 k2 : Int) (c1 c2 : Bool) (f : Nat → Value) (hf : ∀ k, k < 2 → f k = sp x y k)
    (h1 : ∀ W, Calls Tryd.prog 94 #[.agg (arr 122 (pas q)), .agg (arr 2 (sp x y)), .int .i64 k1] W fun e w' => e = .returned (.bool c1) ∧ Below W.heap.size W w')
    (h2 : ∀ W, Calls Tryd.prog 94 #[.agg (arr 122 (pas q)), .agg (arr 2 (sp x y)), .int .i64 k2] W fun e w' => e = .returned (.bool c2) ∧ Below W.heap.size W w') (w : World) :
    Calls Tryd.prog 79 #[.agg (arr 122 (pas G)), .agg (arr 2 (sp u v)), .agg (arr 122 (pas q)), .agg (arr 2 f), .int .i64 k1, .int .i64 k2] w fun e w' => e = .returned (.agg (arr 122 (pas (tk3 (tk2 (tk1 G u v (q (2 + y * 10 + x))) u v c1) u v c2)))) ∧ Below w.heap.size w w' := by
  rw [arr_congr hf]
  exact takeCell_any G q u v x y hu hv hx hy k1 k2 c1 c2 h1 h2 w
end Go.Proofs.YtdlfhomnlhdacaaDoor
