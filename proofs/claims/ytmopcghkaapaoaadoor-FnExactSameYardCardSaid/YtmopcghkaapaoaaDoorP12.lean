/-
  Several texts in one: SameYard.
-/
import Derived.Test.YtmopcghkaapaoaaDoorP10
import Derived.Test.YtmopcghkaapaoaaDoorP11
import Derived.Test.YtmopcghkaapaoaaDoorP4
/-
  (impl.Pasture).sameYard, impl.SameYard by contracts; laws.FnExactSameYard returns true.
-/
namespace Go.Proofs.YtmopcghkaapaoaaDoor
open Go Go.RowKit Go.BigFrame Go.Maps

theorem found_good {g : Nat → Int} (ho : okB g = true) {x y : Nat} (hx : x ≤ 9) (hy : y ≤ 9) : (foundOf (nbOf g) ((x : Int), (y : Int))).Good In10 := by
  have h := good_at (nb := nbOf g) (good_0 (c := In10) (a := ((x : Int), (y : Int))) ⟨by show (0 : Int) ≤ x; omega, by show (x : Int) ≤ 9; omega, by show (0 : Int) ≤ y; omega, by show (y : Int) ≤ 9; omega⟩) (fun k hk n hn => nb_in ho hn) 100
  unfold foundOf; exact h
theorem same_mem {g : Nat → Int} (ho : okB g = true) {x y : Nat} (hx : x ≤ 9) (hy : y ≤ 9) (b : Int × Int) : decide (b ∈ (foundOf (nbOf g) ((x : Int), (y : Int))).q) = sameB g ((x : Int), (y : Int)) b := by
  have hG := found_good ho hx hy
  unfold sameB
  have h1 := hG.mem b
  have h2 := hG.low b
  rw [Bool.eq_iff_iff, decide_eq_true_eq, decide_eq_true_eq, h1]
  omega

set_option maxRecDepth 100000 in
set_option maxHeartbeats 2000000 in
theorem sameYard_any (g : Nat → Int) (hg : Fits g) (ho : okB g = true) (x y : Nat) (hx : x ≤ 9) (hy : y ≤ 9) (u v : Int) (hok : SpotOk (u, v)) (w : World) :
    Calls Tryd.prog 52 #[.agg (arr 122 (pas g)), .agg (arr 2 (sp x y)), .agg (arr 2 (sp u v))] w fun e w' => e = .returned (.bool (sameB g ((x : Int), (y : Int)) (u, v))) ∧ Below w.heap.size w w' := by
  have hM := Mem.nil w
  have hG := found_good ho hx hy
  have hsm := same_mem ho hx hy (u, v)
  have hks : ∀ k, k ∈ (foundOf (nbOf g) ((x : Int), (y : Int))).q → SpotOk k := fun k hk => in10_ok (hG.cells k hk)
  have hst := fun (W : World) (b : Nat) (h : At W b 2 (sp x y)) => stepsFrom_one g hg ho x y hx hy b W h
  generalize foundOf (nbOf g) ((x : Int), (y : Int)) = s at hst hsm hks hG
  obtain ⟨X, hX⟩ : ∃ X, (if (u, v) ∈ s.q then stV s.d (u, v) else .int .i64 0) = X := ⟨_, rfl⟩
  have HX := Lib.hid hX
  have Hst := Lib.hid hst
  have Hsm := Lib.hid hsm
  have Hks := Lib.hid hks
  generalize hB : sameB g ((x : Int), (y : Int)) (u, v) = B at Hsm
  clear hX hst hsm hks hG hB
  have tk_b1 : True := trivial; have tk_b2 : True := trivial; have tk_b3 : True := trivial
  go_enter Tryd.func52, Tryd.ntmps52
  go_wp2_with (first | (have _t := tk_b1; refine wpList_box rfl _ _ rfl _ _ rfl hM ?_; intro b1 W' hb1 hM'; clear hM tk_b1; have hM := hM'; clear hM') | (have _t := tk_b2; refine wpList_box rfl _ _ rfl _ _ rfl hM ?_; intro b2 W' hb2 hM'; clear hM tk_b2; have hM := hM'; clear hM') | (have _t := tk_b3; refine wpList_box rfl _ _ rfl _ _ rfl hM ?_; intro b3 W' hb3 hM'; clear hM tk_b3; have hM := hM'; clear hM'))
  ((try simp only [Act.put, List.setIfInBounds_toArray, List.set_cons_succ, List.set_cons_zero]); refine region_reads [0, 1, 4] #[true, true, false, false, true, false, false, false, false, false, false] 8 (by kernel_rfl) (by kernel_rfl) (by kernel_rfl) hM ?_; clear hM; (repeat (refine qs_plain rfl rfl ?_; first | (refine b_get _ _ rfl _ _ rfl 2 rfl (rowTab _ _ rfl) (by omega) ?_; (simp only [Act.put, List.setIfInBounds_toArray, List.set_cons_succ, List.set_cons_zero])) | (refine b_get _ _ rfl _ _ rfl 1 rfl (rowTab _ _ rfl) (by omega) ?_; (simp only [Act.put, List.setIfInBounds_toArray, List.set_cons_succ, List.set_cons_zero])) | (refine b_get _ _ rfl _ _ rfl 0 rfl (rowTab _ _ rfl) (by omega) ?_; (simp only [Act.put, List.setIfInBounds_toArray, List.set_cons_succ, List.set_cons_zero])))); (with_reducible refine qs_nil ?_))
  simp only [Nat.zero_add]
  (refine mix_one (i := 2) (by kernel_rfl) rfl (by kernel_rfl) rfl ?_)
  (refine step_slice1 _ _ _ rfl _ _ rfl _ spot_under spot_info (by omega) (by omega) ?_; intro b4 hb4; (simp only [Act.put, List.setIfInBounds_toArray, List.set_cons_succ, List.set_cons_zero]))
  (refine mix_one (i := 3) (by kernel_rfl) rfl (by kernel_rfl) rfl ?_)
  (refine step_call_map (mapO spV s.q (stV s.d)) rfl ?_; apply Exists.intro; apply Exists.intro; refine ⟨fun W => ?_, fun W hM => ?_, ?_⟩; (go_simp; exact ⟨rfl, rfl⟩); (exact Hst.out W b4 (hM.ats 0 _ _ _ rfl)); (intro m hm); (simp only [Act.put, List.setIfInBounds_toArray, List.set_cons_succ, List.set_cons_zero]))
  (refine mix_one (i := 5) (by kernel_rfl) rfl (by kernel_rfl) rfl ?_)
  (refine stepD_look (kept_with _ _ _ _ _ _) true _ _ _ rfl rfl (u, v) rfl spotT map_under (.int .i64 0) zero_i64 (fun W hW => hW.good.2) Hks.out hok (.tuple #[X, .bool B]) (by rw [if_pos rfl, ← HX.out, ← Hsm.out]; by_cases hin : (u, v) ∈ s.q <;> simp [hin]) ?_; (simp only [Act.put, List.setIfInBounds_toArray, List.set_cons_succ, List.set_cons_zero]))
  (refine mix_one (i := 6) (by kernel_rfl) rfl (by kernel_rfl) rfl ?_)
  (refine stepD_val (kept_with _ _ _ _ _ _) ?_; apply Exists.intro; refine ⟨fun W => ?_, ?_⟩; (go_simp; rfl); (simp only [Act.put, List.setIfInBounds_toArray, List.set_cons_succ, List.set_cons_zero]))
  (refine mix_two (i := 7) (j := 8) (by kernel_rfl) rfl rfl (by kernel_rfl) (by kernel_rfl) rfl rfl ?_ ?_)
  · (refine stepD_val (kept_with _ _ _ _ _ _) ?_; apply Exists.intro; refine ⟨fun W => ?_, ?_⟩; (go_simp; rfl); (simp only [Act.put, List.setIfInBounds_toArray, List.set_cons_succ, List.set_cons_zero]))
    (refine mix_two (i := 8) (j := 9) (by kernel_rfl) rfl rfl (by kernel_rfl) (by kernel_rfl) rfl rfl ?_ ?_)
    · (refine stepD_val (kept_with _ _ _ _ _ _) ?_; apply Exists.intro; refine ⟨fun W => ?_, ?_⟩; (go_simp; rfl); (simp only [Act.put, List.setIfInBounds_toArray, List.set_cons_succ, List.set_cons_zero]))
      (refine mix_one (i := 9) (by kernel_rfl) rfl (by kernel_rfl) rfl ?_)
      (refine stepD_val (kept_with _ _ _ _ _ _) ?_; apply Exists.intro; refine ⟨fun W => ?_, ?_⟩; (go_simp; rfl); (simp only [Act.put, List.setIfInBounds_toArray, List.set_cons_succ, List.set_cons_zero]))
      (refine mix_one (i := 10) (by kernel_rfl) rfl (by kernel_rfl) rfl ?_)
      (refine stepD_val (kept_with _ _ _ _ _ _) ?_; apply Exists.intro; refine ⟨fun W => ?_, ?_⟩; (go_simp; rfl); (simp only [Act.put, List.setIfInBounds_toArray, List.set_cons_succ, List.set_cons_zero]))
      (refine mix_end (by kernel_rfl) ?_; intro W' hM; simp only [List.cons_append, List.nil_append] at hM)
      go_wp2
      go_ret
      exact ⟨rfl, hM.less.below⟩
    · (refine stepD_val (kept_with _ _ _ _ _ _) ?_; apply Exists.intro; refine ⟨fun W => ?_, ?_⟩; (go_simp; rfl); (simp only [Act.put, List.setIfInBounds_toArray, List.set_cons_succ, List.set_cons_zero]))
      (refine mix_one (i := 8) (by kernel_rfl) rfl (by kernel_rfl) rfl ?_)
      (refine stepD_val (kept_with _ _ _ _ _ _) ?_; apply Exists.intro; refine ⟨fun W => ?_, ?_⟩; (go_simp; rfl); (simp only [Act.put, List.setIfInBounds_toArray, List.set_cons_succ, List.set_cons_zero]))
      (refine mix_one (i := 10) (by kernel_rfl) rfl (by kernel_rfl) rfl ?_)
      (refine stepD_val (kept_with _ _ _ _ _ _) ?_; apply Exists.intro; refine ⟨fun W => ?_, ?_⟩; (go_simp; rfl); (simp only [Act.put, List.setIfInBounds_toArray, List.set_cons_succ, List.set_cons_zero]))
      (refine mix_end (by kernel_rfl) ?_; intro W' hM; simp only [List.cons_append, List.nil_append] at hM)
      go_wp2
      go_ret
      exact ⟨rfl, hM.less.below⟩
  · (refine stepD_val (kept_with _ _ _ _ _ _) ?_; apply Exists.intro; refine ⟨fun W => ?_, ?_⟩; (go_simp; rfl); (simp only [Act.put, List.setIfInBounds_toArray, List.set_cons_succ, List.set_cons_zero]))
    (refine mix_one (i := 7) (by kernel_rfl) rfl (by kernel_rfl) rfl ?_)
    (refine stepD_val (kept_with _ _ _ _ _ _) ?_; apply Exists.intro; refine ⟨fun W => ?_, ?_⟩; (go_simp; rfl); (simp only [Act.put, List.setIfInBounds_toArray, List.set_cons_succ, List.set_cons_zero]))
    (refine mix_one (i := 9) (by kernel_rfl) rfl (by kernel_rfl) rfl ?_)
    (refine stepD_val (kept_with _ _ _ _ _ _) ?_; apply Exists.intro; refine ⟨fun W => ?_, ?_⟩; (go_simp; rfl); (simp only [Act.put, List.setIfInBounds_toArray, List.set_cons_succ, List.set_cons_zero]))
    (refine mix_one (i := 10) (by kernel_rfl) rfl (by kernel_rfl) rfl ?_)
    (refine stepD_val (kept_with _ _ _ _ _ _) ?_; apply Exists.intro; refine ⟨fun W => ?_, ?_⟩; (go_simp; rfl); (simp only [Act.put, List.setIfInBounds_toArray, List.set_cons_succ, List.set_cons_zero]))
    (refine mix_end (by kernel_rfl) ?_; intro W' hM; simp only [List.cons_append, List.nil_append] at hM)
    go_wp2
    go_ret
    exact ⟨rfl, hM.less.below⟩

theorem askC2_cases (g : Nat → Int) (x y u v : Int) : (okB g = false ∧ askC g x y (isB g u v) = 1) ∨ (okB g = true ∧ allB g (fun k => if k = 0 then (x, y) else (u, v)) 2 = false ∧ askC g x y (isB g u v) = 2) ∨ (okB g = true ∧ allB g (fun k => if k = 0 then (x, y) else (u, v)) 2 = true ∧ isB g x y = true ∧ isB g u v = true ∧ askC g x y (isB g u v) = 0) := by
  have e : allB g (fun k => if k = 0 then (x, y) else (u, v)) 2 = (isB g x y && isB g u v) := by simp [allB, List.range_succ]
  rw [e]
  unfold askC
  cases okB g <;> cases isB g x y <;> cases isB g u v <;> simp
theorem sp_two (x y u v : Int) : ∀ k, k < 2 * 2 → (if k < 2 then sp x y (0 + k) else sp u v (0 + (k - 2))) = sps (fun k => if k = 0 then (x, y) else (u, v)) k := fun k hk => by
  rcases (show k = 0 ∨ k = 1 ∨ k = 2 ∨ k = 3 by omega) with rfl | rfl | rfl | rfl <;> rfl

set_option maxRecDepth 100000 in
set_option maxHeartbeats 2000000 in
theorem implSameYard_any {a : Nat → Addr} (g : Nat → Int) (hg : Fits g) (x y u v : Int) (hu : -128 ≤ u ∧ u ≤ 127) (hv : -128 ≤ v ∧ v ≤ 127) (w : World) (hE : Errs a w) :
    Calls Tryd.prog 16 #[.agg (arr 122 (pas g)), .agg (arr 2 (sp x y)), .agg (arr 2 (sp u v))] w fun e w' => e = .returned (.tuple #[.bool (sameA g x y u v), .int .i64 (askC g x y (isB g u v))]) ∧ Below w.heap.size w w' := by
  have hM := Mem.nil w
  have HE := Lib.hid hE
  clear hE
  rcases askC2_cases g x y u v with ⟨ho, hc⟩ | ⟨ho, hi, hc⟩ | ⟨ho, hi, h1, h2, hc⟩
  · have e1 : sameA g x y u v = false := if_neg (by rw [hc]; decide)
    rw [e1, hc]
    have Ho : Hid (validB g = false) := Lib.hid (by rw [← okB_eq]; exact ho)
    clear ho hc e1
    have tk_b1 : True := trivial; have tk_b2 : True := trivial; have tk_b3 : True := trivial; have tk_b4 : True := trivial
    go_enter Tryd.func16, Tryd.ntmps16
    go_wp2_with (first | (have _t := tk_b1; refine wpList_box rfl _ _ rfl _ _ rfl hM ?_; intro b1 W' hb1 hM'; clear hM tk_b1; have hM := hM'; clear hM') | (have _t := tk_b2; refine wpList_box rfl _ _ rfl _ _ rfl hM ?_; intro b2 W' hb2 hM'; clear hM tk_b2; have hM := hM'; clear hM') | (have _t := tk_b3; refine wpList_box rfl _ _ rfl _ _ rfl hM ?_; intro b3 W' hb3 hM'; clear hM tk_b3; have hM := hM'; clear hM') | (refine wpList_get rfl _ _ rfl _ _ rfl hM 2 rfl (rowTab _ _ rfl) (by omega) ?_) | (refine wpList_get rfl _ _ rfl _ _ rfl hM 1 rfl (rowTab _ _ rfl) (by omega) ?_) | (refine wpList_get rfl _ _ rfl _ _ rfl hM 0 rfl (rowTab _ _ rfl) (by omega) ?_) | (have _t := tk_b4; refine wpList_slice2 rfl _ _ _ _ rfl _ _ _ rfl rfl _ spot_under spot_info (by omega) (by omega) hM ?_; intro b4 W' hb4 hM'; clear hM tk_b4; have hM := hM'; clear hM') | (go_at_call 50; refine (checkCells_bad g hg _ _ (HE.out.below hM.below) Ho.out).mono ?_; rintro e W' ⟨rfl, hb'⟩; have hM' := hM.call hb'; clear hM hb'; have hM := hM'; clear hM') | (go_at_call 51; (with_reducible refine (codeOf_0 (HE.out.below hM.below)).mono ?_); rintro e W' ⟨rfl, rfl⟩))
    go_ret2
    exact ⟨rfl, hM.below⟩
  · have e1 : sameA g x y u v = false := if_neg (by rw [hc]; decide)
    rw [e1, hc]
    have Ho : Hid (validB g = true) := Lib.hid (by rw [← okB_eq]; exact ho)
    have Hi : Hid (chkS a g (fun k => if k = 0 then (x, y) else (u, v)) 2 = errV (a 1)) := Lib.hid (chkS_no hi)
    clear ho hc hi e1
    have tk_b1 : True := trivial; have tk_b2 : True := trivial; have tk_b3 : True := trivial; have tk_b4 : True := trivial
    go_enter Tryd.func16, Tryd.ntmps16
    go_wp2_with (first | (have _t := tk_b1; refine wpList_box rfl _ _ rfl _ _ rfl hM ?_; intro b1 W' hb1 hM'; clear hM tk_b1; have hM := hM'; clear hM') | (have _t := tk_b2; refine wpList_box rfl _ _ rfl _ _ rfl hM ?_; intro b2 W' hb2 hM'; clear hM tk_b2; have hM := hM'; clear hM') | (have _t := tk_b3; refine wpList_box rfl _ _ rfl _ _ rfl hM ?_; intro b3 W' hb3 hM'; clear hM tk_b3; have hM := hM'; clear hM') | (refine wpList_get rfl _ _ rfl _ _ rfl hM 2 rfl (rowTab _ _ rfl) (by omega) ?_) | (refine wpList_get rfl _ _ rfl _ _ rfl hM 1 rfl (rowTab _ _ rfl) (by omega) ?_) | (refine wpList_get rfl _ _ rfl _ _ rfl hM 0 rfl (rowTab _ _ rfl) (by omega) ?_) | (have _t := tk_b4; refine wpList_slice2 rfl _ _ _ _ rfl _ _ _ rfl rfl _ spot_under spot_info (by omega) (by omega) hM ?_; intro b4 W' hb4 hM'; clear hM tk_b4; have hM := hM'; clear hM') | (go_at_call 50; refine (checkCells_some g hg _ 2 2 4 (fun k => if k = 0 then (x, y) else (u, v)) (by omega) (by decide) _ ((hM.ats 0 _ _ _ rfl).congr (sp_two _ _ _ _)) (HE.out.below hM.below) Ho.out).mono ?_; rintro e W' ⟨rfl, hb'⟩; rw [Hi.out]; have hM' := hM.call hb'; clear hM hb'; have hM := hM'; clear hM') | (go_at_call 51; (with_reducible refine (codeOf_1 (HE.out.below hM.below)).mono ?_); rintro e W' ⟨rfl, rfl⟩))
    go_ret2
    exact ⟨rfl, hM.below⟩
  · obtain ⟨x', y', e1, hx', hy'⟩ := nat_of_in (in10_of ho h1)
    simp only [Prod.mk.injEq] at e1
    obtain ⟨rfl, rfl⟩ := e1
    have es : sameA g (x' : Int) (y' : Int) u v = sameB g ((x' : Int), (y' : Int)) (u, v) := if_pos hc
    rw [es, hc]
    have Ho : Hid (validB g = true) := Lib.hid (by rw [← okB_eq]; exact ho)
    have Hok := Lib.hid ho
    have Hi : Hid (chkS a g (fun k => if k = 0 then ((x' : Int), (y' : Int)) else (u, v)) 2 = .nilIface) := Lib.hid (chkS_yes hi)
    have hsp : SpotOk (u, v) := ⟨hu.1, hu.2, hv.1, hv.2⟩
    clear ho hc hi es h1 h2
    have tk_b1 : True := trivial; have tk_b2 : True := trivial; have tk_b3 : True := trivial; have tk_b4 : True := trivial
    go_enter Tryd.func16, Tryd.ntmps16
    go_wp2_with (first | (have _t := tk_b1; refine wpList_box rfl _ _ rfl _ _ rfl hM ?_; intro b1 W' hb1 hM'; clear hM tk_b1; have hM := hM'; clear hM') | (have _t := tk_b2; refine wpList_box rfl _ _ rfl _ _ rfl hM ?_; intro b2 W' hb2 hM'; clear hM tk_b2; have hM := hM'; clear hM') | (have _t := tk_b3; refine wpList_box rfl _ _ rfl _ _ rfl hM ?_; intro b3 W' hb3 hM'; clear hM tk_b3; have hM := hM'; clear hM') | (refine wpList_get rfl _ _ rfl _ _ rfl hM 3 rfl (rowTab _ _ rfl) (by omega) ?_) | (refine wpList_get rfl _ _ rfl _ _ rfl hM 2 rfl (rowTab _ _ rfl) (by omega) ?_) | (refine wpList_get rfl _ _ rfl _ _ rfl hM 1 rfl (rowTab _ _ rfl) (by omega) ?_) | (refine wpList_get rfl _ _ rfl _ _ rfl hM 0 rfl (rowTab _ _ rfl) (by omega) ?_) | (have _t := tk_b4; refine wpList_slice2 rfl _ _ _ _ rfl _ _ _ rfl rfl _ spot_under spot_info (by omega) (by omega) hM ?_; intro b4 W' hb4 hM'; clear hM tk_b4; have hM := hM'; clear hM') | (go_at_call 50; refine (checkCells_some g hg _ 2 2 4 (fun k => if k = 0 then ((x' : Int), (y' : Int)) else (u, v)) (by omega) (by decide) _ ((hM.ats 0 _ _ _ rfl).congr (sp_two _ _ _ _)) (HE.out.below hM.below) Ho.out).mono ?_; rintro e W' ⟨rfl, hb'⟩; rw [Hi.out]; have hM' := hM.call hb'; clear hM hb'; have hM := hM'; clear hM') | (go_at_call 52; refine (sameYard_any g hg Hok.out x' y' hx' hy' u v hsp _).mono ?_; rintro e W' ⟨rfl, hb'⟩; have hM' := hM.call hb'; clear hM hb'; have hM := hM'; clear hM'))
    go_ret2
    exact ⟨rfl, hM.below⟩

theorem toSpot_sp (x y : Int) (w : World) : Calls Tryd.prog 15 #[.agg (arr 2 (sp x y))] w fun e w' => e = .returned (.agg (arr 2 (sp x y))) ∧ Below w.heap.size w w' := toSpot_any _ (fun _ => rfl) w
set_option maxRecDepth 100000 in
set_option maxHeartbeats 2000000 in
theorem lawSameYard_any {a : Nat → Addr} (g : Nat → Int) (hg : Fits g) (x y : Int) (hx : -128 ≤ x ∧ x ≤ 127) (hy : -128 ≤ y ∧ y ≤ 127) (u v : Int) (hu : -128 ≤ u ∧ u ≤ 127) (hv : -128 ≤ v ∧ v ≤ 127) (w : World) (hE : Errs a w) :
    Calls Tryd.prog 3 #[.agg (arr 122 (pas g)), .agg (arr 2 (sp x y)), .agg (arr 2 (sp u v))] w fun e w' => e = .returned (.bool true) ∧ Below w.heap.size w w' := by
  have hM := Mem.nil w
  have HE := Lib.hid hE
  clear hE
  obtain ⟨s, hs⟩ : ∃ s, sameA g x y u v = s := ⟨_, rfl⟩
  obtain ⟨c, hc⟩ : ∃ c, askC g x y (isB g u v) = c := ⟨_, rfl⟩
  have Hs := Lib.hid hs
  have Hc := Lib.hid hc
  clear hs hc
  have tk_b1 : True := trivial; have tk_b2 : True := trivial; have tk_b3 : True := trivial
  go_enter Tryd.func3, Tryd.ntmps3
  go_wp2_with (first | (have _t := tk_b1; refine wpList_box rfl _ _ rfl _ _ rfl hM ?_; intro b1 W' hb1 hM'; clear hM tk_b1; have hM := hM'; clear hM') | (have _t := tk_b2; refine wpList_box rfl _ _ rfl _ _ rfl hM ?_; intro b2 W' hb2 hM'; clear hM tk_b2; have hM := hM'; clear hM') | (have _t := tk_b3; refine wpList_box rfl _ _ rfl _ _ rfl hM ?_; intro b3 W' hb3 hM'; clear hM tk_b3; have hM := hM'; clear hM'))
  ((try simp only [Act.put, List.setIfInBounds_toArray, List.set_cons_succ, List.set_cons_zero]); refine wp_region_mem (by kernel_rfl) (by kernel_rfl) hM ?_; clear hM; (repeat (first | go_big_quiet_skip | (go_big_quiet_want; first | (refine quiet_get _ _ rfl _ _ rfl 2 rfl (rowTab _ _ rfl) (by omega) ?_; (simp only [Act.put, List.setIfInBounds_toArray, List.set_cons_succ, List.set_cons_zero]); go_big_quiet_on) | (refine quiet_get _ _ rfl _ _ rfl 1 rfl (rowTab _ _ rfl) (by omega) ?_; (simp only [Act.put, List.setIfInBounds_toArray, List.set_cons_succ, List.set_cons_zero]); go_big_quiet_on) | (refine quiet_get _ _ rfl _ _ rfl 0 rfl (rowTab _ _ rfl) (by omega) ?_; (simp only [Act.put, List.setIfInBounds_toArray, List.set_cons_succ, List.set_cons_zero]); go_big_quiet_on) | (refine quiet_call ?_; apply Exists.intro; apply Exists.intro; apply Exists.intro; refine ⟨fun W => ?_, fun W hM => ?_, ?_⟩; (go_simp; exact ⟨rfl, rfl⟩); (with_reducible exact toPasture_pas g W); (simp only [Act.put, List.setIfInBounds_toArray, List.set_cons_succ, List.set_cons_zero]); go_big_quiet_on) | (refine quiet_call ?_; apply Exists.intro; apply Exists.intro; apply Exists.intro; refine ⟨fun W => ?_, fun W hM => ?_, ?_⟩; (go_simp; exact ⟨rfl, rfl⟩); (with_reducible exact toSpot_sp x y W); (simp only [Act.put, List.setIfInBounds_toArray, List.set_cons_succ, List.set_cons_zero]); go_big_quiet_on) | (refine quiet_call ?_; apply Exists.intro; apply Exists.intro; apply Exists.intro; refine ⟨fun W => ?_, fun W hM => ?_, ?_⟩; (go_simp; exact ⟨rfl, rfl⟩); (with_reducible exact toSpot_sp u v W); (simp only [Act.put, List.setIfInBounds_toArray, List.set_cons_succ, List.set_cons_zero]); go_big_quiet_on) | (refine quiet_call ?_; apply Exists.intro; apply Exists.intro; apply Exists.intro; refine ⟨fun W => ?_, fun W hM => ?_, ?_⟩; (go_simp; exact ⟨rfl, rfl⟩); (with_reducible exact specSameYard_any g hg x y u v hx hy hu hv W); (simp only [Hs.out, Hc.out]); (simp only [Act.put, List.setIfInBounds_toArray, List.set_cons_succ, List.set_cons_zero]); go_big_quiet_on) | (refine quiet_val ?_; apply Exists.intro; refine ⟨fun W => ?_, ?_⟩; (go_simp; rfl); (simp only [Act.put, List.setIfInBounds_toArray, List.set_cons_succ, List.set_cons_zero]); go_big_quiet_on)))); (with_reducible refine wpQuiet_nil ?_); intro W' hM)
  go_wp2
  ((try simp only [Act.put, List.setIfInBounds_toArray, List.set_cons_succ, List.set_cons_zero]); refine wp_region_mem (by kernel_rfl) (by kernel_rfl) hM ?_; clear hM; (repeat (first | go_big_quiet_skip | (go_big_quiet_want; first | (refine quiet_get _ _ rfl _ _ rfl 2 rfl (rowTab _ _ rfl) (by omega) ?_; (simp only [Act.put, List.setIfInBounds_toArray, List.set_cons_succ, List.set_cons_zero]); go_big_quiet_on) | (refine quiet_get _ _ rfl _ _ rfl 1 rfl (rowTab _ _ rfl) (by omega) ?_; (simp only [Act.put, List.setIfInBounds_toArray, List.set_cons_succ, List.set_cons_zero]); go_big_quiet_on) | (refine quiet_get _ _ rfl _ _ rfl 0 rfl (rowTab _ _ rfl) (by omega) ?_; (simp only [Act.put, List.setIfInBounds_toArray, List.set_cons_succ, List.set_cons_zero]); go_big_quiet_on) | (refine quiet_call ?_; apply Exists.intro; apply Exists.intro; apply Exists.intro; refine ⟨fun W => ?_, fun W hM => ?_, ?_⟩; (go_simp; exact ⟨rfl, rfl⟩); (with_reducible exact toPasture_pas g W); (simp only [Act.put, List.setIfInBounds_toArray, List.set_cons_succ, List.set_cons_zero]); go_big_quiet_on) | (refine quiet_call ?_; apply Exists.intro; apply Exists.intro; apply Exists.intro; refine ⟨fun W => ?_, fun W hM => ?_, ?_⟩; (go_simp; exact ⟨rfl, rfl⟩); (with_reducible exact toSpot_sp x y W); (simp only [Act.put, List.setIfInBounds_toArray, List.set_cons_succ, List.set_cons_zero]); go_big_quiet_on) | (refine quiet_call ?_; apply Exists.intro; apply Exists.intro; apply Exists.intro; refine ⟨fun W => ?_, fun W hM => ?_, ?_⟩; (go_simp; exact ⟨rfl, rfl⟩); (with_reducible exact toSpot_sp u v W); (simp only [Act.put, List.setIfInBounds_toArray, List.set_cons_succ, List.set_cons_zero]); go_big_quiet_on) | (refine quiet_call ?_; apply Exists.intro; apply Exists.intro; apply Exists.intro; refine ⟨fun W => ?_, fun W hM => ?_, ?_⟩; (go_simp; exact ⟨rfl, rfl⟩); (with_reducible exact implSameYard_any g hg x y u v hu hv W (HE.out.below hM.below)); (simp only [Hs.out, Hc.out]); (simp only [Act.put, List.setIfInBounds_toArray, List.set_cons_succ, List.set_cons_zero]); go_big_quiet_on) | (refine quiet_val ?_; apply Exists.intro; refine ⟨fun W => ?_, ?_⟩; (go_simp; rfl); (simp only [Act.put, List.setIfInBounds_toArray, List.set_cons_succ, List.set_cons_zero]); go_big_quiet_on)))); (with_reducible refine wpQuiet_nil ?_); intro W' hM)
  go_wp2
  go_ret
  exact ⟨rfl, hM.below⟩
end Go.Proofs.YtmopcghkaapaoaaDoor

