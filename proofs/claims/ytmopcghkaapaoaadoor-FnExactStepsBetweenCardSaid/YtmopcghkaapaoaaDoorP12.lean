/-
  Several texts in one: SameYard, Walk, NbSymm.
-/
import Derived.Test.YtmopcghkaapaoaaDoorP10
import Derived.Test.YtmopcghkaapaoaaDoorP11
import Derived.Test.YtmopcghkaapaoaaDoorP4
import Derived.Test.YtmopcghkaapaoaaDoorP2
import Derived.Test.YtmopcghkaapaoaaDoorP8
/-
  (impl.Pasture).sameYard, impl.SameYard by contracts; laws.FnExactSameYard returns true.
-/
namespace Go.Proofs.YtmopcghkaapaoaaDoor
open Go Go.RowKit Go.BigFrame Go.Maps

theorem found_good {g : Nat → Int} (ho : okB g = true) {x y : Nat} (hx : x ≤ 9) (hy : y ≤ 9) : (foundOf (nbOf g) ((x : Int), (y : Int))).Good In10 := by
  have h := good_at (nb := nbOf g) (good_0 (c := In10) (a := ((x : Int), (y : Int))) ⟨by show (0 : Int) ≤ x; omega, by show (x : Int) ≤ 9; omega, by show (0 : Int) ≤ y; omega, by show (y : Int) ≤ 9; omega⟩) (fun k hk n hn => nb_in ho hn) 100
  unfold foundOf; exact h
theorem same_mem {g : Nat → Int} (ho : okB g = true) {x y : Nat} (hx : x ≤ 9) (hy : y ≤ 9) (b : Int × Int) : decide (b ∈ (foundOf (nbOf g) ((x : Int), (y : Int))).q) = sameB g ((x : Int), (y : Int)) b := by
  have hG := found_good ho hx hy
  unfold sameB
  have h1 := hG.mem b
  have h2 := hG.low b
  rw [Bool.eq_iff_iff, decide_eq_true_eq, decide_eq_true_eq, h1]
  omega

set_option maxRecDepth 100000 in
set_option maxHeartbeats 2000000 in
theorem sameYard_any (g : Nat → Int) (hg : Fits g) (ho : okB g = true) (x y : Nat) (hx : x ≤ 9) (hy : y ≤ 9) (u v : Int) (hok : SpotOk (u, v)) (w : World) :
    Calls Tryd.prog 52 #[.agg (arr 122 (pas g)), .agg (arr 2 (sp x y)), .agg (arr 2 (sp u v))] w fun e w' => e = .returned (.bool (sameB g ((x : Int), (y : Int)) (u, v))) ∧ Below w.heap.size w w' := by
  have hM := Mem.nil w
  have hG := found_good ho hx hy
  have hsm := same_mem ho hx hy (u, v)
  have hks : ∀ k, k ∈ (foundOf (nbOf g) ((x : Int), (y : Int))).q → SpotOk k := fun k hk => in10_ok (hG.cells k hk)
  have hst := fun (W : World) (b : Nat) (h : At W b 2 (sp x y)) => stepsFrom_one g hg ho x y hx hy b W h
  generalize foundOf (nbOf g) ((x : Int), (y : Int)) = s at hst hsm hks hG
  obtain ⟨X, hX⟩ : ∃ X, (if (u, v) ∈ s.q then stV s.d (u, v) else .int .i64 0) = X := ⟨_, rfl⟩
  have HX := Lib.hid hX
  have Hst := Lib.hid hst
  have Hsm := Lib.hid hsm
  have Hks := Lib.hid hks
  generalize hB : sameB g ((x : Int), (y : Int)) (u, v) = B at Hsm
  clear hX hst hsm hks hG hB
  have tk_b1 : True := trivial; have tk_b2 : True := trivial; have tk_b3 : True := trivial
  go_enter Tryd.func52, Tryd.ntmps52
  go_wp2_with (first | (have _t := tk_b1; refine wpList_box rfl _ _ rfl _ _ rfl hM ?_; intro b1 W' hb1 hM'; clear hM tk_b1; have hM := hM'; clear hM') | (have _t := tk_b2; refine wpList_box rfl _ _ rfl _ _ rfl hM ?_; intro b2 W' hb2 hM'; clear hM tk_b2; have hM := hM'; clear hM') | (have _t := tk_b3; refine wpList_box rfl _ _ rfl _ _ rfl hM ?_; intro b3 W' hb3 hM'; clear hM tk_b3; have hM := hM'; clear hM'))
  ((try simp only [Act.put, List.setIfInBounds_toArray, List.set_cons_succ, List.set_cons_zero]); refine region_reads [0, 1, 4] #[true, true, false, false, true, false, false, false, false, false, false] 8 (by kernel_rfl) (by kernel_rfl) (by kernel_rfl) hM ?_; clear hM; (repeat (refine qs_plain rfl rfl ?_; first | (refine b_get _ _ rfl _ _ rfl 2 rfl (rowTab _ _ rfl) (by omega) ?_; (simp only [Act.put, List.setIfInBounds_toArray, List.set_cons_succ, List.set_cons_zero])) | (refine b_get _ _ rfl _ _ rfl 1 rfl (rowTab _ _ rfl) (by omega) ?_; (simp only [Act.put, List.setIfInBounds_toArray, List.set_cons_succ, List.set_cons_zero])) | (refine b_get _ _ rfl _ _ rfl 0 rfl (rowTab _ _ rfl) (by omega) ?_; (simp only [Act.put, List.setIfInBounds_toArray, List.set_cons_succ, List.set_cons_zero])))); (with_reducible refine qs_nil ?_))
  simp only [Nat.zero_add]
  (refine mix_one (i := 2) (by kernel_rfl) rfl (by kernel_rfl) rfl ?_)
  (refine step_slice1 _ _ _ rfl _ _ rfl _ spot_under spot_info (by omega) (by omega) ?_; intro b4 hb4; (simp only [Act.put, List.setIfInBounds_toArray, List.set_cons_succ, List.set_cons_zero]))
  (refine mix_one (i := 3) (by kernel_rfl) rfl (by kernel_rfl) rfl ?_)
  (refine step_call_map (mapO spV s.q (stV s.d)) rfl ?_; apply Exists.intro; apply Exists.intro; refine ⟨fun W => ?_, fun W hM => ?_, ?_⟩; (go_simp; exact ⟨rfl, rfl⟩); (exact Hst.out W b4 (hM.ats 0 _ _ _ rfl)); (intro m hm); (simp only [Act.put, List.setIfInBounds_toArray, List.set_cons_succ, List.set_cons_zero]))
  (refine mix_one (i := 5) (by kernel_rfl) rfl (by kernel_rfl) rfl ?_)
  (refine stepD_look (kept_with _ _ _ _ _ _) true _ _ _ rfl rfl (u, v) rfl spotT map_under (.int .i64 0) zero_i64 (fun W hW => hW.good.2) Hks.out hok (.tuple #[X, .bool B]) (by rw [if_pos rfl, ← HX.out, ← Hsm.out]; by_cases hin : (u, v) ∈ s.q <;> simp [hin]) ?_; (simp only [Act.put, List.setIfInBounds_toArray, List.set_cons_succ, List.set_cons_zero]))
  (refine mix_one (i := 6) (by kernel_rfl) rfl (by kernel_rfl) rfl ?_)
  (refine stepD_val (kept_with _ _ _ _ _ _) ?_; apply Exists.intro; refine ⟨fun W => ?_, ?_⟩; (go_simp; rfl); (simp only [Act.put, List.setIfInBounds_toArray, List.set_cons_succ, List.set_cons_zero]))
  (refine mix_two (i := 7) (j := 8) (by kernel_rfl) rfl rfl (by kernel_rfl) (by kernel_rfl) rfl rfl ?_ ?_)
  · (refine stepD_val (kept_with _ _ _ _ _ _) ?_; apply Exists.intro; refine ⟨fun W => ?_, ?_⟩; (go_simp; rfl); (simp only [Act.put, List.setIfInBounds_toArray, List.set_cons_succ, List.set_cons_zero]))
    (refine mix_two (i := 8) (j := 9) (by kernel_rfl) rfl rfl (by kernel_rfl) (by kernel_rfl) rfl rfl ?_ ?_)
    · (refine stepD_val (kept_with _ _ _ _ _ _) ?_; apply Exists.intro; refine ⟨fun W => ?_, ?_⟩; (go_simp; rfl); (simp only [Act.put, List.setIfInBounds_toArray, List.set_cons_succ, List.set_cons_zero]))
      (refine mix_one (i := 9) (by kernel_rfl) rfl (by kernel_rfl) rfl ?_)
      (refine stepD_val (kept_with _ _ _ _ _ _) ?_; apply Exists.intro; refine ⟨fun W => ?_, ?_⟩; (go_simp; rfl); (simp only [Act.put, List.setIfInBounds_toArray, List.set_cons_succ, List.set_cons_zero]))
      (refine mix_one (i := 10) (by kernel_rfl) rfl (by kernel_rfl) rfl ?_)
      (refine stepD_val (kept_with _ _ _ _ _ _) ?_; apply Exists.intro; refine ⟨fun W => ?_, ?_⟩; (go_simp; rfl); (simp only [Act.put, List.setIfInBounds_toArray, List.set_cons_succ, List.set_cons_zero]))
      (refine mix_end (by kernel_rfl) ?_; intro W' hM; simp only [List.cons_append, List.nil_append] at hM)
      go_wp2
      go_ret
      exact ⟨rfl, hM.less.below⟩
    · (refine stepD_val (kept_with _ _ _ _ _ _) ?_; apply Exists.intro; refine ⟨fun W => ?_, ?_⟩; (go_simp; rfl); (simp only [Act.put, List.setIfInBounds_toArray, List.set_cons_succ, List.set_cons_zero]))
      (refine mix_one (i := 8) (by kernel_rfl) rfl (by kernel_rfl) rfl ?_)
      (refine stepD_val (kept_with _ _ _ _ _ _) ?_; apply Exists.intro; refine ⟨fun W => ?_, ?_⟩; (go_simp; rfl); (simp only [Act.put, List.setIfInBounds_toArray, List.set_cons_succ, List.set_cons_zero]))
      (refine mix_one (i := 10) (by kernel_rfl) rfl (by kernel_rfl) rfl ?_)
      (refine stepD_val (kept_with _ _ _ _ _ _) ?_; apply Exists.intro; refine ⟨fun W => ?_, ?_⟩; (go_simp; rfl); (simp only [Act.put, List.setIfInBounds_toArray, List.set_cons_succ, List.set_cons_zero]))
      (refine mix_end (by kernel_rfl) ?_; intro W' hM; simp only [List.cons_append, List.nil_append] at hM)
      go_wp2
      go_ret
      exact ⟨rfl, hM.less.below⟩
  · (refine stepD_val (kept_with _ _ _ _ _ _) ?_; apply Exists.intro; refine ⟨fun W => ?_, ?_⟩; (go_simp; rfl); (simp only [Act.put, List.setIfInBounds_toArray, List.set_cons_succ, List.set_cons_zero]))
    (refine mix_one (i := 7) (by kernel_rfl) rfl (by kernel_rfl) rfl ?_)
    (refine stepD_val (kept_with _ _ _ _ _ _) ?_; apply Exists.intro; refine ⟨fun W => ?_, ?_⟩; (go_simp; rfl); (simp only [Act.put, List.setIfInBounds_toArray, List.set_cons_succ, List.set_cons_zero]))
    (refine mix_one (i := 9) (by kernel_rfl) rfl (by kernel_rfl) rfl ?_)
    (refine stepD_val (kept_with _ _ _ _ _ _) ?_; apply Exists.intro; refine ⟨fun W => ?_, ?_⟩; (go_simp; rfl); (simp only [Act.put, List.setIfInBounds_toArray, List.set_cons_succ, List.set_cons_zero]))
    (refine mix_one (i := 10) (by kernel_rfl) rfl (by kernel_rfl) rfl ?_)
    (refine stepD_val (kept_with _ _ _ _ _ _) ?_; apply Exists.intro; refine ⟨fun W => ?_, ?_⟩; (go_simp; rfl); (simp only [Act.put, List.setIfInBounds_toArray, List.set_cons_succ, List.set_cons_zero]))
    (refine mix_end (by kernel_rfl) ?_; intro W' hM; simp only [List.cons_append, List.nil_append] at hM)
    go_wp2
    go_ret
    exact ⟨rfl, hM.less.below⟩

theorem askC2_cases (g : Nat → Int) (x y u v : Int) : (okB g = false ∧ askC g x y (isB g u v) = 1) ∨ (okB g = true ∧ allB g (fun k => if k = 0 then (x, y) else (u, v)) 2 = false ∧ askC g x y (isB g u v) = 2) ∨ (okB g = true ∧ allB g (fun k => if k = 0 then (x, y) else (u, v)) 2 = true ∧ isB g x y = true ∧ isB g u v = true ∧ askC g x y (isB g u v) = 0) := by
  have e : allB g (fun k => if k = 0 then (x, y) else (u, v)) 2 = (isB g x y && isB g u v) := by simp [allB, List.range_succ]
  rw [e]
  unfold askC
  cases okB g <;> cases isB g x y <;> cases isB g u v <;> simp
theorem sp_two (x y u v : Int) : ∀ k, k < 2 * 2 → (if k < 2 then sp x y (0 + k) else sp u v (0 + (k - 2))) = sps (fun k => if k = 0 then (x, y) else (u, v)) k := fun k hk => by
  rcases (show k = 0 ∨ k = 1 ∨ k = 2 ∨ k = 3 by omega) with rfl | rfl | rfl | rfl <;> rfl

set_option maxRecDepth 100000 in
set_option maxHeartbeats 2000000 in
theorem implSameYard_any {a : Nat → Addr} (g : Nat → Int) (hg : Fits g) (x y u v : Int) (hu : -128 ≤ u ∧ u ≤ 127) (hv : -128 ≤ v ∧ v ≤ 127) (w : World) (hE : Errs a w) :
    Calls Tryd.prog 16 #[.agg (arr 122 (pas g)), .agg (arr 2 (sp x y)), .agg (arr 2 (sp u v))] w fun e w' => e = .returned (.tuple #[.bool (sameA g x y u v), .int .i64 (askC g x y (isB g u v))]) ∧ Below w.heap.size w w' := by
  have hM := Mem.nil w
  have HE := Lib.hid hE
  clear hE
  rcases askC2_cases g x y u v with ⟨ho, hc⟩ | ⟨ho, hi, hc⟩ | ⟨ho, hi, h1, h2, hc⟩
  · have e1 : sameA g x y u v = false := if_neg (by rw [hc]; decide)
    rw [e1, hc]
    have Ho : Hid (validB g = false) := Lib.hid (by rw [← okB_eq]; exact ho)
    clear ho hc e1
    have tk_b1 : True := trivial; have tk_b2 : True := trivial; have tk_b3 : True := trivial; have tk_b4 : True := trivial
    go_enter Tryd.func16, Tryd.ntmps16
    go_wp2_with (first | (have _t := tk_b1; refine wpList_box rfl _ _ rfl _ _ rfl hM ?_; intro b1 W' hb1 hM'; clear hM tk_b1; have hM := hM'; clear hM') | (have _t := tk_b2; refine wpList_box rfl _ _ rfl _ _ rfl hM ?_; intro b2 W' hb2 hM'; clear hM tk_b2; have hM := hM'; clear hM') | (have _t := tk_b3; refine wpList_box rfl _ _ rfl _ _ rfl hM ?_; intro b3 W' hb3 hM'; clear hM tk_b3; have hM := hM'; clear hM') | (refine wpList_get rfl _ _ rfl _ _ rfl hM 2 rfl (rowTab _ _ rfl) (by omega) ?_) | (refine wpList_get rfl _ _ rfl _ _ rfl hM 1 rfl (rowTab _ _ rfl) (by omega) ?_) | (refine wpList_get rfl _ _ rfl _ _ rfl hM 0 rfl (rowTab _ _ rfl) (by omega) ?_) | (have _t := tk_b4; refine wpList_slice2 rfl _ _ _ _ rfl _ _ _ rfl rfl _ spot_under spot_info (by omega) (by omega) hM ?_; intro b4 W' hb4 hM'; clear hM tk_b4; have hM := hM'; clear hM') | (go_at_call 50; refine (checkCells_bad g hg _ _ (HE.out.below hM.below) Ho.out).mono ?_; rintro e W' ⟨rfl, hb'⟩; have hM' := hM.call hb'; clear hM hb'; have hM := hM'; clear hM') | (go_at_call 51; (with_reducible refine (codeOf_0 (HE.out.below hM.below)).mono ?_); rintro e W' ⟨rfl, rfl⟩))
    go_ret2
    exact ⟨rfl, hM.below⟩
  · have e1 : sameA g x y u v = false := if_neg (by rw [hc]; decide)
    rw [e1, hc]
    have Ho : Hid (validB g = true) := Lib.hid (by rw [← okB_eq]; exact ho)
    have Hi : Hid (chkS a g (fun k => if k = 0 then (x, y) else (u, v)) 2 = errV (a 1)) := Lib.hid (chkS_no hi)
    clear ho hc hi e1
    have tk_b1 : True := trivial; have tk_b2 : True := trivial; have tk_b3 : True := trivial; have tk_b4 : True := trivial
    go_enter Tryd.func16, Tryd.ntmps16
    go_wp2_with (first | (have _t := tk_b1; refine wpList_box rfl _ _ rfl _ _ rfl hM ?_; intro b1 W' hb1 hM'; clear hM tk_b1; have hM := hM'; clear hM') | (have _t := tk_b2; refine wpList_box rfl _ _ rfl _ _ rfl hM ?_; intro b2 W' hb2 hM'; clear hM tk_b2; have hM := hM'; clear hM') | (have _t := tk_b3; refine wpList_box rfl _ _ rfl _ _ rfl hM ?_; intro b3 W' hb3 hM'; clear hM tk_b3; have hM := hM'; clear hM') | (refine wpList_get rfl _ _ rfl _ _ rfl hM 2 rfl (rowTab _ _ rfl) (by omega) ?_) | (refine wpList_get rfl _ _ rfl _ _ rfl hM 1 rfl (rowTab _ _ rfl) (by omega) ?_) | (refine wpList_get rfl _ _ rfl _ _ rfl hM 0 rfl (rowTab _ _ rfl) (by omega) ?_) | (have _t := tk_b4; refine wpList_slice2 rfl _ _ _ _ rfl _ _ _ rfl rfl _ spot_under spot_info (by omega) (by omega) hM ?_; intro b4 W' hb4 hM'; clear hM tk_b4; have hM := hM'; clear hM') | (go_at_call 50; refine (checkCells_some g hg _ 2 2 4 (fun k => if k = 0 then (x, y) else (u, v)) (by omega) (by decide) _ ((hM.ats 0 _ _ _ rfl).congr (sp_two _ _ _ _)) (HE.out.below hM.below) Ho.out).mono ?_; rintro e W' ⟨rfl, hb'⟩; rw [Hi.out]; have hM' := hM.call hb'; clear hM hb'; have hM := hM'; clear hM') | (go_at_call 51; (with_reducible refine (codeOf_1 (HE.out.below hM.below)).mono ?_); rintro e W' ⟨rfl, rfl⟩))
    go_ret2
    exact ⟨rfl, hM.below⟩
  · obtain ⟨x', y', e1, hx', hy'⟩ := nat_of_in (in10_of ho h1)
    simp only [Prod.mk.injEq] at e1
    obtain ⟨rfl, rfl⟩ := e1
    have es : sameA g (x' : Int) (y' : Int) u v = sameB g ((x' : Int), (y' : Int)) (u, v) := if_pos hc
    rw [es, hc]
    have Ho : Hid (validB g = true) := Lib.hid (by rw [← okB_eq]; exact ho)
    have Hok := Lib.hid ho
    have Hi : Hid (chkS a g (fun k => if k = 0 then ((x' : Int), (y' : Int)) else (u, v)) 2 = .nilIface) := Lib.hid (chkS_yes hi)
    have hsp : SpotOk (u, v) := ⟨hu.1, hu.2, hv.1, hv.2⟩
    clear ho hc hi es h1 h2
    have tk_b1 : True := trivial; have tk_b2 : True := trivial; have tk_b3 : True := trivial; have tk_b4 : True := trivial
    go_enter Tryd.func16, Tryd.ntmps16
    go_wp2_with (first | (have _t := tk_b1; refine wpList_box rfl _ _ rfl _ _ rfl hM ?_; intro b1 W' hb1 hM'; clear hM tk_b1; have hM := hM'; clear hM') | (have _t := tk_b2; refine wpList_box rfl _ _ rfl _ _ rfl hM ?_; intro b2 W' hb2 hM'; clear hM tk_b2; have hM := hM'; clear hM') | (have _t := tk_b3; refine wpList_box rfl _ _ rfl _ _ rfl hM ?_; intro b3 W' hb3 hM'; clear hM tk_b3; have hM := hM'; clear hM') | (refine wpList_get rfl _ _ rfl _ _ rfl hM 3 rfl (rowTab _ _ rfl) (by omega) ?_) | (refine wpList_get rfl _ _ rfl _ _ rfl hM 2 rfl (rowTab _ _ rfl) (by omega) ?_) | (refine wpList_get rfl _ _ rfl _ _ rfl hM 1 rfl (rowTab _ _ rfl) (by omega) ?_) | (refine wpList_get rfl _ _ rfl _ _ rfl hM 0 rfl (rowTab _ _ rfl) (by omega) ?_) | (have _t := tk_b4; refine wpList_slice2 rfl _ _ _ _ rfl _ _ _ rfl rfl _ spot_under spot_info (by omega) (by omega) hM ?_; intro b4 W' hb4 hM'; clear hM tk_b4; have hM := hM'; clear hM') | (go_at_call 50; refine (checkCells_some g hg _ 2 2 4 (fun k => if k = 0 then ((x' : Int), (y' : Int)) else (u, v)) (by omega) (by decide) _ ((hM.ats 0 _ _ _ rfl).congr (sp_two _ _ _ _)) (HE.out.below hM.below) Ho.out).mono ?_; rintro e W' ⟨rfl, hb'⟩; rw [Hi.out]; have hM' := hM.call hb'; clear hM hb'; have hM := hM'; clear hM') | (go_at_call 52; refine (sameYard_any g hg Hok.out x' y' hx' hy' u v hsp _).mono ?_; rintro e W' ⟨rfl, hb'⟩; have hM' := hM.call hb'; clear hM hb'; have hM := hM'; clear hM'))
    go_ret2
    exact ⟨rfl, hM.below⟩

theorem toSpot_sp (x y : Int) (w : World) : Calls Tryd.prog 15 #[.agg (arr 2 (sp x y))] w fun e w' => e = .returned (.agg (arr 2 (sp x y))) ∧ Below w.heap.size w w' := toSpot_any _ (fun _ => rfl) w
set_option maxRecDepth 100000 in
set_option maxHeartbeats 2000000 in
theorem lawSameYard_any {a : Nat → Addr} (g : Nat → Int) (hg : Fits g) (x y : Int) (hx : -128 ≤ x ∧ x ≤ 127) (hy : -128 ≤ y ∧ y ≤ 127) (u v : Int) (hu : -128 ≤ u ∧ u ≤ 127) (hv : -128 ≤ v ∧ v ≤ 127) (w : World) (hE : Errs a w) :
    Calls Tryd.prog 3 #[.agg (arr 122 (pas g)), .agg (arr 2 (sp x y)), .agg (arr 2 (sp u v))] w fun e w' => e = .returned (.bool true) ∧ Below w.heap.size w w' := by
  have hM := Mem.nil w
  have HE := Lib.hid hE
  clear hE
  obtain ⟨s, hs⟩ : ∃ s, sameA g x y u v = s := ⟨_, rfl⟩
  obtain ⟨c, hc⟩ : ∃ c, askC g x y (isB g u v) = c := ⟨_, rfl⟩
  have Hs := Lib.hid hs
  have Hc := Lib.hid hc
  clear hs hc
  have tk_b1 : True := trivial; have tk_b2 : True := trivial; have tk_b3 : True := trivial
  go_enter Tryd.func3, Tryd.ntmps3
  go_wp2_with (first | (have _t := tk_b1; refine wpList_box rfl _ _ rfl _ _ rfl hM ?_; intro b1 W' hb1 hM'; clear hM tk_b1; have hM := hM'; clear hM') | (have _t := tk_b2; refine wpList_box rfl _ _ rfl _ _ rfl hM ?_; intro b2 W' hb2 hM'; clear hM tk_b2; have hM := hM'; clear hM') | (have _t := tk_b3; refine wpList_box rfl _ _ rfl _ _ rfl hM ?_; intro b3 W' hb3 hM'; clear hM tk_b3; have hM := hM'; clear hM'))
  ((try simp only [Act.put, List.setIfInBounds_toArray, List.set_cons_succ, List.set_cons_zero]); refine wp_region_mem (by kernel_rfl) (by kernel_rfl) hM ?_; clear hM; (repeat (first | go_big_quiet_skip | (go_big_quiet_want; first | (refine quiet_get _ _ rfl _ _ rfl 2 rfl (rowTab _ _ rfl) (by omega) ?_; (simp only [Act.put, List.setIfInBounds_toArray, List.set_cons_succ, List.set_cons_zero]); go_big_quiet_on) | (refine quiet_get _ _ rfl _ _ rfl 1 rfl (rowTab _ _ rfl) (by omega) ?_; (simp only [Act.put, List.setIfInBounds_toArray, List.set_cons_succ, List.set_cons_zero]); go_big_quiet_on) | (refine quiet_get _ _ rfl _ _ rfl 0 rfl (rowTab _ _ rfl) (by omega) ?_; (simp only [Act.put, List.setIfInBounds_toArray, List.set_cons_succ, List.set_cons_zero]); go_big_quiet_on) | (refine quiet_call ?_; apply Exists.intro; apply Exists.intro; apply Exists.intro; refine ⟨fun W => ?_, fun W hM => ?_, ?_⟩; (go_simp; exact ⟨rfl, rfl⟩); (with_reducible exact toPasture_pas g W); (simp only [Act.put, List.setIfInBounds_toArray, List.set_cons_succ, List.set_cons_zero]); go_big_quiet_on) | (refine quiet_call ?_; apply Exists.intro; apply Exists.intro; apply Exists.intro; refine ⟨fun W => ?_, fun W hM => ?_, ?_⟩; (go_simp; exact ⟨rfl, rfl⟩); (with_reducible exact toSpot_sp x y W); (simp only [Act.put, List.setIfInBounds_toArray, List.set_cons_succ, List.set_cons_zero]); go_big_quiet_on) | (refine quiet_call ?_; apply Exists.intro; apply Exists.intro; apply Exists.intro; refine ⟨fun W => ?_, fun W hM => ?_, ?_⟩; (go_simp; exact ⟨rfl, rfl⟩); (with_reducible exact toSpot_sp u v W); (simp only [Act.put, List.setIfInBounds_toArray, List.set_cons_succ, List.set_cons_zero]); go_big_quiet_on) | (refine quiet_call ?_; apply Exists.intro; apply Exists.intro; apply Exists.intro; refine ⟨fun W => ?_, fun W hM => ?_, ?_⟩; (go_simp; exact ⟨rfl, rfl⟩); (with_reducible exact specSameYard_any g hg x y u v hx hy hu hv W); (simp only [Hs.out, Hc.out]); (simp only [Act.put, List.setIfInBounds_toArray, List.set_cons_succ, List.set_cons_zero]); go_big_quiet_on) | (refine quiet_val ?_; apply Exists.intro; refine ⟨fun W => ?_, ?_⟩; (go_simp; rfl); (simp only [Act.put, List.setIfInBounds_toArray, List.set_cons_succ, List.set_cons_zero]); go_big_quiet_on)))); (with_reducible refine wpQuiet_nil ?_); intro W' hM)
  go_wp2
  ((try simp only [Act.put, List.setIfInBounds_toArray, List.set_cons_succ, List.set_cons_zero]); refine wp_region_mem (by kernel_rfl) (by kernel_rfl) hM ?_; clear hM; (repeat (first | go_big_quiet_skip | (go_big_quiet_want; first | (refine quiet_get _ _ rfl _ _ rfl 2 rfl (rowTab _ _ rfl) (by omega) ?_; (simp only [Act.put, List.setIfInBounds_toArray, List.set_cons_succ, List.set_cons_zero]); go_big_quiet_on) | (refine quiet_get _ _ rfl _ _ rfl 1 rfl (rowTab _ _ rfl) (by omega) ?_; (simp only [Act.put, List.setIfInBounds_toArray, List.set_cons_succ, List.set_cons_zero]); go_big_quiet_on) | (refine quiet_get _ _ rfl _ _ rfl 0 rfl (rowTab _ _ rfl) (by omega) ?_; (simp only [Act.put, List.setIfInBounds_toArray, List.set_cons_succ, List.set_cons_zero]); go_big_quiet_on) | (refine quiet_call ?_; apply Exists.intro; apply Exists.intro; apply Exists.intro; refine ⟨fun W => ?_, fun W hM => ?_, ?_⟩; (go_simp; exact ⟨rfl, rfl⟩); (with_reducible exact toPasture_pas g W); (simp only [Act.put, List.setIfInBounds_toArray, List.set_cons_succ, List.set_cons_zero]); go_big_quiet_on) | (refine quiet_call ?_; apply Exists.intro; apply Exists.intro; apply Exists.intro; refine ⟨fun W => ?_, fun W hM => ?_, ?_⟩; (go_simp; exact ⟨rfl, rfl⟩); (with_reducible exact toSpot_sp x y W); (simp only [Act.put, List.setIfInBounds_toArray, List.set_cons_succ, List.set_cons_zero]); go_big_quiet_on) | (refine quiet_call ?_; apply Exists.intro; apply Exists.intro; apply Exists.intro; refine ⟨fun W => ?_, fun W hM => ?_, ?_⟩; (go_simp; exact ⟨rfl, rfl⟩); (with_reducible exact toSpot_sp u v W); (simp only [Act.put, List.setIfInBounds_toArray, List.set_cons_succ, List.set_cons_zero]); go_big_quiet_on) | (refine quiet_call ?_; apply Exists.intro; apply Exists.intro; apply Exists.intro; refine ⟨fun W => ?_, fun W hM => ?_, ?_⟩; (go_simp; exact ⟨rfl, rfl⟩); (with_reducible exact implSameYard_any g hg x y u v hu hv W (HE.out.below hM.below)); (simp only [Hs.out, Hc.out]); (simp only [Act.put, List.setIfInBounds_toArray, List.set_cons_succ, List.set_cons_zero]); go_big_quiet_on) | (refine quiet_val ?_; apply Exists.intro; refine ⟨fun W => ?_, ?_⟩; (go_simp; rfl); (simp only [Act.put, List.setIfInBounds_toArray, List.set_cons_succ, List.set_cons_zero]); go_big_quiet_on)))); (with_reducible refine wpQuiet_nil ?_); intro W' hM)
  go_wp2
  go_ret
  exact ⟨rfl, hM.below⟩
end Go.Proofs.YtmopcghkaapaoaaDoor

/-
  THE MATHEMATICS OF A SEARCH BY STEPS, II: what it tells are the least numbers of steps; where one can go both ways, it tells the same both ways.
-/
namespace Go.Proofs.YtmopcghkaapaoaaDoor
open Go

variable {nb : Int × Int → List (Int × Int)} {c : Int × Int → Prop} {a : Int × Int}

/-- In the middle of a visit of now, which was the i-th that was found; the cells pre have been looked at. -/
structure Mid (nb : Int × Int → List (Int × Int)) (c : Int × Int → Prop) (a : Int × Int) (s : Found) (i : Nat) (now : Int × Int) (pre : List (Int × Int)) : Prop where
  good : s.Good c
  first : a ∈ s.q ∧ s.d a = 1
  at' : s.q[i]? = some now
  mono : ∀ (j j' : Nat) x y, s.q[j]? = some x → s.q[j']? = some y → j ≤ j' → s.d x ≤ s.d y
  head : ∀ y, y ∈ s.q → s.d y ≤ s.d now + 1
  edge : ∀ (j : Nat) x, j < i → s.q[j]? = some x → ∀ n, n ∈ nb x → s.d n ≠ 0 ∧ s.d n ≤ s.d x + 1
  here : ∀ n, n ∈ pre → s.d n ≠ 0 ∧ s.d n ≤ s.d now + 1
  back : ∀ x, x ∈ s.q → x ≠ a → ∃ u, u ∈ s.q ∧ x ∈ nb u ∧ s.d x = s.d u + 1
/-- When i cells have been taken. -/
structure Lay (nb : Int × Int → List (Int × Int)) (c : Int × Int → Prop) (a : Int × Int) (s : Found) (i : Nat) : Prop where
  good : s.Good c
  first : a ∈ s.q ∧ s.d a = 1
  mono : ∀ (j j' : Nat) x y, s.q[j]? = some x → s.q[j']? = some y → j ≤ j' → s.d x ≤ s.d y
  head : ∀ x, s.q[i]? = some x → ∀ y, y ∈ s.q → s.d y ≤ s.d x + 1
  edge : ∀ (j : Nat) x, j < i → s.q[j]? = some x → ∀ n, n ∈ nb x → s.d n ≠ 0 ∧ s.d n ≤ s.d x + 1
  back : ∀ x, x ∈ s.q → x ≠ a → ∃ u, u ∈ s.q ∧ x ∈ nb u ∧ s.d x = s.d u + 1

theorem mid_one {s : Found} {i : Nat} {now n : Int × Int} {pre : List (Int × Int)} (h : Mid nb c a s i now pre) (hn : c n) (hnb : n ∈ nb now) : Mid nb c a (visit1 now s n) i now (pre ++ [n]) := by
  have hnow : now ∈ s.q := List.mem_of_getElem? h.at'
  by_cases hd : s.d n = 0
  · have e : visit1 now s n = ⟨s.q ++ [n], updI s.d n (s.d now + 1)⟩ := by unfold visit1; rw [if_pos hd]
    have hnq : n ∉ s.q := fun hm => (h.good.mem n).1 hm hd
    have keep : ∀ k, k ∈ s.q → updI s.d n (s.d now + 1) k = s.d k := fun k hk => by
      unfold updI; rw [if_neg (fun e' => hnq (by rw [← e']; exact hk))]
    have new : updI s.d n (s.d now + 1) n = s.d now + 1 := by unfold updI; rw [if_pos rfl]
    have split : ∀ (j : Nat) x, (s.q ++ [n])[j]? = some x → (s.q[j]? = some x ∧ j < s.q.length) ∨ (x = n ∧ j = s.q.length) := fun j x hx => by
      rcases Nat.lt_or_ge j s.q.length with hl | hl
      · rw [List.getElem?_append_left hl] at hx; exact .inl ⟨hx, hl⟩
      · rw [List.getElem?_append_right hl] at hx
        rcases Nat.eq_zero_or_pos (j - s.q.length) with h0 | h0
        · rw [h0] at hx; simp at hx; exact .inr ⟨hx.symm, by omega⟩
        · rw [List.getElem?_eq_none (by simp; omega)] at hx; cases hx
    have hl := h.good.low now
    have G := good_1 h.good (now := now) hn
    rw [e] at G ⊢
    refine ⟨G, ⟨by simp [h.first.1], by show updI s.d n (s.d now + 1) a = 1; rw [keep a h.first.1]; exact h.first.2⟩, ?_, fun j j' x y hx hy hj => ?_, fun y hy => ?_, fun j x hj hx m hm => ?_, fun m hm => ?_, fun x hx hxa => ?_⟩
    · show (s.q ++ [n])[i]? = some now
      rw [List.getElem?_append_left (List.getElem?_eq_some_iff.1 h.at').1]; exact h.at'
    · show updI s.d n (s.d now + 1) x ≤ updI s.d n (s.d now + 1) y
      rcases split j x hx with ⟨hx1, hx2⟩ | ⟨rfl, hx2⟩ <;> rcases split j' y hy with ⟨hy1, hy2⟩ | ⟨rfl, hy2⟩
      · rw [keep x (List.mem_of_getElem? hx1), keep y (List.mem_of_getElem? hy1)]; exact h.mono j j' x y hx1 hy1 hj
      · rw [keep x (List.mem_of_getElem? hx1), new]; exact h.head x (List.mem_of_getElem? hx1)
      · omega
      · exact Int.le_refl _
    · show updI s.d n (s.d now + 1) y ≤ updI s.d n (s.d now + 1) now + 1
      rw [keep now hnow]
      rcases List.mem_append.1 hy with hy | hy
      · rw [keep y hy]; exact h.head y hy
      · simp at hy; rw [hy, new]; exact Int.le_refl _
    · have hx' : s.q[j]? = some x := by
        rcases split j x hx with ⟨hx1, -⟩ | ⟨-, hx2⟩
        · exact hx1
        · have := (List.getElem?_eq_some_iff.1 h.at').1; omega
      obtain ⟨h1, h2⟩ := h.edge j x hj hx' m hm
      have hmq := (h.good.mem m).2 h1
      show updI s.d n (s.d now + 1) m ≠ 0 ∧ updI s.d n (s.d now + 1) m ≤ updI s.d n (s.d now + 1) x + 1
      rw [keep m hmq, keep x (List.mem_of_getElem? hx')]; exact ⟨h1, h2⟩
    · show updI s.d n (s.d now + 1) m ≠ 0 ∧ updI s.d n (s.d now + 1) m ≤ updI s.d n (s.d now + 1) now + 1
      rw [keep now hnow]
      rcases List.mem_append.1 hm with hm | hm
      · obtain ⟨h1, h2⟩ := h.here m hm
        rw [keep m ((h.good.mem m).2 h1)]; exact ⟨h1, h2⟩
      · simp at hm; rw [hm, new]; exact ⟨by omega, Int.le_refl _⟩
    · rcases List.mem_append.1 hx with hx | hx
      · obtain ⟨u, hu, hxu, he⟩ := h.back x hx hxa
        exact ⟨u, by simp [hu], hxu, by show updI s.d n (s.d now + 1) x = updI s.d n (s.d now + 1) u + 1; rw [keep x hx, keep u hu]; exact he⟩
      · simp at hx
        exact ⟨now, by simp [hnow], by rw [hx]; exact hnb, by show updI s.d n (s.d now + 1) x = updI s.d n (s.d now + 1) now + 1; rw [hx, new, keep now hnow]⟩
  · have e : visit1 now s n = s := by unfold visit1; rw [if_neg hd]
    rw [e]
    refine ⟨h.good, h.first, h.at', h.mono, h.head, h.edge, fun m hm => ?_, h.back⟩
    rcases List.mem_append.1 hm with hm | hm
    · exact h.here m hm
    · simp at hm
      rw [hm]; exact ⟨hd, h.head n ((h.good.mem n).2 hd)⟩
theorem mid_fold {i : Nat} {now : Int × Int} : ∀ (l : List (Int × Int)) {s : Found} {pre : List (Int × Int)}, Mid nb c a s i now pre → (∀ k, k ∈ l → c k ∧ k ∈ nb now) → Mid nb c a (l.foldl (visit1 now) s) i now (pre ++ l)
  | [], s, pre, h, _ => by simpa using h
  | n :: l, s, pre, h, hl => by
    have := mid_fold l (mid_one h (hl n (by simp)).1 (hl n (by simp)).2) (fun k hk => hl k (by simp [hk]))
    simpa using this
theorem lay_step {s : Found} {i : Nat} (h : Lay nb c a s i) (hnb : ∀ k, c k → ∀ n, n ∈ nb k → c n) {now : Int × Int} (hn : s.q[i]? = some now) : Lay nb c a (visit nb s now) (i + 1) := by
  have hc := h.good.cells now (List.mem_of_getElem? hn)
  have m := mid_fold (nb now) (s := s) (pre := []) (i := i) (now := now) ⟨h.good, h.first, hn, h.mono, h.head now hn, h.edge, fun n hn => by simp at hn, h.back⟩ (fun k hk => ⟨hnb now hc k hk, hk⟩)
  rw [List.nil_append] at m
  refine ⟨m.good, m.first, m.mono, fun x hx y hy => ?_, fun j x hj hx n hn => ?_, m.back⟩
  · have h1 := m.mono i (i + 1) now x m.at' hx (by omega)
    have h2 := m.head y hy
    show (visit nb s now).d y ≤ (visit nb s now).d x + 1
    unfold visit
    omega
  · rcases Nat.lt_or_ge j i with hji | hji
    · exact m.edge j x hji hx n hn
    · obtain rfl : j = i := by omega
      obtain rfl : now = x := Option.some.inj (m.at'.symm.trans hx)
      exact m.here n hn
theorem lay_0 (ha : c a) : Lay nb c a (found0 a) 0 := by
  refine ⟨good_0 ha, ⟨by simp [found0], by simp [found0, updI]⟩, fun j j' x y hx hy _ => ?_, fun x hx y hy => ?_, fun j x hj => absurd hj (by omega), fun x hx hxa => ?_⟩
  · have hx := List.mem_of_getElem? hx
    have hy := List.mem_of_getElem? hy
    simp [found0] at hx hy
    rw [hx, hy]; exact Int.le_refl _
  · have hx := List.mem_of_getElem? hx
    simp [found0] at hx hy
    rw [hx, hy]; omega
  · simp [found0] at hx; exact absurd hx hxa
theorem lay_at (ha : c a) (hnb : ∀ k, c k → ∀ n, n ∈ nb k → c n) : ∀ i, Lay nb c a (foundAt nb (found0 a) i) i
  | 0 => lay_0 ha
  | i + 1 => by
    have ih := lay_at ha hnb i
    cases hq : (foundAt nb (found0 a) i).q[i]? with
    | some now =>
      rw [found_step hq]
      exact lay_step ih hnb hq
    | none =>
      have e : foundAt nb (found0 a) (i + 1) = foundAt nb (found0 a) i := by
        show (match (foundAt nb (found0 a) i).q[i]? with | some now => visit nb (foundAt nb (found0 a) i) now | none => foundAt nb (found0 a) i) = _
        rw [hq]
      have hl : (foundAt nb (found0 a) i).q.length ≤ i := List.getElem?_eq_none_iff.1 hq
      rw [e]
      refine ⟨ih.good, ih.first, ih.mono, fun x hx => ?_, fun j x hj hx => ?_, ih.back⟩
      · rw [List.getElem?_eq_none (by omega)] at hx; cases hx
      · exact ih.edge j x (by have := (List.getElem?_eq_some_iff.1 hx).1; omega) hx

/-- One can go from a to x by n steps. -/
def Goes (nb : Int × Int → List (Int × Int)) : Nat → Int × Int → Int × Int → Prop
  | 0, a, x => a = x
  | n + 1, a, x => ∃ u, Goes nb n a u ∧ x ∈ nb u
theorem goes_front {n : Nat} {a u x : Int × Int} (h1 : u ∈ nb a) (h2 : Goes nb n u x) : Goes nb (n + 1) a x := by
  induction n generalizing x with
  | zero => exact ⟨a, rfl, by rw [← show u = x from h2]; exact h1⟩
  | succ n ih =>
    obtain ⟨y, hy, hx⟩ := h2
    exact ⟨y, ih hy, hx⟩
theorem goes_back {n : Nat} {a x : Int × Int} (ha : c a) (hnb : ∀ k, c k → ∀ n, n ∈ nb k → c n) (hs : ∀ k n, c k → n ∈ nb k → k ∈ nb n) (h : Goes nb n a x) : c x ∧ Goes nb n x a := by
  induction n generalizing x with
  | zero => exact ⟨by rw [← show a = x from h]; exact ha, (show a = x from h).symm⟩
  | succ n ih =>
    obtain ⟨u, hu, hx⟩ := h
    obtain ⟨h1, h2⟩ := ih hu
    exact ⟨hnb u h1 x hx, goes_front (hs u x h1 hx) h2⟩
/-- What is found behind a search of cells of the widest pasture. -/
theorem found_far {s : Found} {i : Nat} (h : Lay nb c a s i) (hl : s.q.length ≤ i) {n : Nat} {x : Int × Int} (hg : Goes nb n a x) : s.d x ≠ 0 ∧ s.d x ≤ n + 1 := by
  induction n generalizing x with
  | zero => rw [← show a = x from hg, h.first.2]; exact ⟨by decide, by omega⟩
  | succ n ih =>
    obtain ⟨u, hu, hx⟩ := hg
    obtain ⟨h1, h2⟩ := ih hu
    obtain ⟨j, hj⟩ := List.getElem?_of_mem ((h.good.mem u).2 h1)
    obtain ⟨h3, h4⟩ := h.edge j u (by have := (List.getElem?_eq_some_iff.1 hj).1; omega) hj x hx
    exact ⟨h3, by omega⟩
theorem found_goes {s : Found} {i : Nat} (h : Lay nb c a s i) : ∀ (n : Nat) (x : Int × Int), s.d x = (n : Int) + 1 → Goes nb n a x := fun n => by
  induction n with
  | zero =>
    intro x hx
    by_cases e : x = a
    · exact e.symm
    · obtain ⟨u, hu, -, hd⟩ := h.back x ((h.good.mem x).2 (by omega)) e
      have := (h.good.mem u).1 hu
      have := h.good.low u
      omega
  | succ n ih =>
    intro x hx
    by_cases e : x = a
    · rw [e, h.first.2] at hx; omega
    · obtain ⟨u, hu, hxu, hd⟩ := h.back x ((h.good.mem x).2 (by omega)) e
      exact ⟨u, ih u (by omega), hxu⟩
theorem lay_of (hc : ∀ k, c k → In10 k) (ha : c a) (hnb : ∀ k, c k → ∀ n, n ∈ nb k → c n) : Lay nb c a (foundOf nb a) 100 ∧ (foundOf nb a).q.length ≤ 100 := by
  have h := lay_at ha hnb 100
  have e : foundOf nb a = foundAt nb (found0 a) 100 := by unfold foundOf; rfl
  rw [e]
  refine ⟨h, good_100 ⟨h.good.mem, h.good.nodup, fun k hk => hc k (h.good.cells k hk), h.good.low, h.good.high⟩⟩
/-- The steps are as many there as back. -/
theorem found_symm {b : Int × Int} (hc : ∀ k, c k → In10 k) (ha : c a) (hb : c b) (hnb : ∀ k, c k → ∀ n, n ∈ nb k → c n) (hs : ∀ k n, c k → n ∈ nb k → k ∈ nb n) : (foundOf nb a).d b = (foundOf nb b).d a := by
  have key : ∀ (a b : Int × Int), c a → c b → (foundOf nb a).d b ≠ 0 → (foundOf nb b).d a ≠ 0 ∧ (foundOf nb b).d a ≤ (foundOf nb a).d b := fun a b ha hb hd => by
    obtain ⟨h1, -⟩ := lay_of hc ha hnb
    obtain ⟨h2, h3⟩ := lay_of hc hb hnb
    have hl := h1.good.low b
    obtain ⟨n, hn⟩ : ∃ n : Nat, (foundOf nb a).d b = (n : Int) + 1 := ⟨((foundOf nb a).d b - 1).toNat, by omega⟩
    have := (goes_back ha hnb hs (found_goes h1 n b hn)).2
    obtain ⟨h4, h5⟩ := found_far h2 h3 this
    exact ⟨h4, by omega⟩
  by_cases h : (foundOf nb a).d b = 0
  · by_cases h' : (foundOf nb b).d a = 0
    · rw [h, h']
    · exact absurd h (key b a hb ha h').1
  · obtain ⟨h1, h2⟩ := key a b ha hb h
    obtain ⟨-, h3⟩ := key b a hb ha h1
    omega
end Go.Proofs.YtmopcghkaapaoaaDoor

/-
  One can go from a cell to a cell beside it, and back; the steps between two cells are as many there as back.
-/
namespace Go.Proofs.YtmopcghkaapaoaaDoor
open Go Go.RowKit

theorem nb_isB {g : Nat → Int} {c n : Int × Int} (h : n ∈ nbOf g c) : isB g n.1 n.2 = true := by
  unfold nbOf besL at h
  obtain ⟨k, hk, rfl⟩ := List.mem_map.1 h
  obtain ⟨-, h2⟩ := List.mem_filter.1 hk
  have h3 : closedB g k c.1 c.2 = false := by simpa using h2
  cases hi : isB g (nxX k c.1) (nxY k c.2)
  · rw [closedB_wall hi] at h3; cases h3
  · rfl
theorem nb_symm {g : Nat → Int} {c n : Int × Int} (hc : isB g c.1 c.2 = true) (h : n ∈ nbOf g c) : c ∈ nbOf g n := by
  have hn := nb_isB h
  obtain ⟨x, y⟩ := c
  unfold nbOf besL at h ⊢
  obtain ⟨k, hk, rfl⟩ := List.mem_map.1 h
  obtain ⟨h1, h2⟩ := List.mem_filter.1 hk
  have h3 : closedB g k x y = false := by simpa using h2
  rw [closedB_in hn] at h3
  have hk4 : k < 4 := List.mem_range.1 h1
  have mk : ∀ k' : Nat, k' < 4 → nxX k' (nxX k x) = x → nxY k' (nxY k y) = y → fenceB g k' (nxX k x) (nxY k y) = fenceB g k x y → (x, y) ∈ (List.filter (fun k' => !closedB g k' (nxX k x) (nxY k y)) (List.range 4)).map fun k' => (nxX k' (nxX k x), nxY k' (nxY k y)) := fun k' hk' e1 e2 e3 => by
    refine List.mem_map.2 ⟨k', List.mem_filter.2 ⟨List.mem_range.2 hk', ?_⟩, by rw [e1, e2]⟩
    rw [closedB_in (by rw [e1, e2]; exact hc), e3, h3]; rfl
  rcases (show k = 0 ∨ k = 1 ∨ k = 2 ∨ k = 3 by omega) with rfl | rfl | rfl | rfl
  · exact mk 2 (by omega) rfl (by simp [nxY]) (by simp [fenceB, sideRow, sideBit, nxX, nxY])
  · exact mk 3 (by omega) (by simp [nxX]) rfl (by simp [fenceB, sideRow, sideBit, nxX, nxY])
  · exact mk 0 (by omega) rfl (by simp [nxY]) (by simp [fenceB, sideRow, sideBit, nxX, nxY])
  · exact mk 1 (by omega) (by simp [nxX]) rfl (by simp [fenceB, sideRow, sideBit, nxX, nxY])
/-- The steps between two cells, both ways. -/
theorem steps_symm {g : Nat → Int} (ho : okB g = true) {x y u v : Int} (ha : isB g x y = true) (hb : isB g u v = true) : (foundOf (nbOf g) (x, y)).d (u, v) = (foundOf (nbOf g) (u, v)).d (x, y) :=
  found_symm (c := fun k => isB g k.1 k.2 = true) (fun k hk => in10_of ho hk) ha hb (fun _ _ _ hn => nb_isB hn) (fun _ _ hk hn => nb_symm hk hn)
/-- Only cells of the pasture are found. -/
theorem found_isB {g : Nat → Int} {x y : Int} (hi : isB g x y = true) : (foundOf (nbOf g) (x, y)).Good fun k => isB g k.1 k.2 = true := by
  have h := good_at (nb := nbOf g) (good_0 (c := fun k : Int × Int => isB g k.1 k.2 = true) (a := (x, y)) hi) (fun k _ n hn => nb_isB hn) 100
  unfold foundOf; exact h
end Go.Proofs.YtmopcghkaapaoaaDoor

