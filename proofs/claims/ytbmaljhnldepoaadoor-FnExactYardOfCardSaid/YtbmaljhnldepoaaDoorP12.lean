/-
  Several texts in one: StepsFrom, Reads, StepMap, ToSpot, SameYard.
-/
import Derived.Test.YtbmaljhnldepoaaDoorP11
import Derived.Test.YtbmaljhnldepoaaDoorP7
import Derived.StillTail
import Derived.Deep.Quiet
import Derived.Test.YtbmaljhnldepoaaDoorP9
import Derived.Test.YtbmaljhnldepoaaDoorP2
import Derived.Test.YtbmaljhnldepoaaDoorP5
import Derived.Test.YtbmaljhnldepoaaDoorP8
import Derived.Test.YtbmaljhnldepoaaDoorP4
/-
  impl.stepsFrom of one cell, by contract.
-/
namespace Go.Proofs.YtbmaljhnldepoaaDoor
open Go Go.RowKit Go.Shelf Go.BigFrame Go.Maps
attribute [local go_sem] Oper.semAt_some

/-- At the head of the great loop: as many cells have been taken as marks are open. -/
def StepIt (w : World) (g : Nat → Int) (x y : Int) (bl b1 b2 b7 b8 m bq0 oq0 cq0 : Nat) (f7 : Nat → Value) (a : Act) (W : World) : Prop :=
  ∃ (Ds : List Nat) (s : Found) (r bq off c N : Nat) (F : Nat → Value), Ds.length ≤ 100 ∧ s = foundAt (nbOf g) (found0 (x, y)) Ds.length ∧ Ds.length + r = s.q.length ∧ w.heap.size ≤ bq ∧ r ≤ c ∧ off + c * 2 ≤ N ∧ (∀ j, j < r * 2 → F (off + j) = sps (sI (s.q.drop Ds.length)) j) ∧
    Ds.Nodup ∧ (∀ D, D ∈ Ds → w.heap.size ≤ D) ∧ m ∉ Ds ∧
    Mem (((Base.of w).marks Ds).with m (mapO spV s.q (stV s.d)) rfl) [(bq, N, F), (b8, 1, fun _ => .slice (some ⟨bq, off, none⟩) r c), (b7, 2, f7), (b2, 1, fun _ => .map (some m)), (b1, 122, pas g), (bl, 2, sp x y)] W ∧
    ∃ u9 u10 u11 u12 u25 u26 u27 u28 u29 u30 u31 u32 u33 u34 u35 u36 u37 u38 u39 u40 u41 u42 u43 u44 u45 u46 u47 u48 u49 u50 u51 u52 u53 u54 u55 : Value, a = { tmps := #[.agg (arr 122 (pas g)), .slice (some ⟨bl, 0, none⟩) 1 1, .pointer (some ⟨b1, 0, none⟩), undef, .map none, .pointer (some ⟨b2, 0, none⟩), undef, .pointer (some ⟨b7, 0, none⟩), .pointer (some ⟨b8, 0, none⟩), u9, u10, u11, u12, .map (some m), .slice (some ⟨bl, 0, none⟩) 1 1, .int .i64 1, .int .i64 1, .bool false, .pointer (some ⟨bl, 0, none⟩), .agg (arr 2 (sp x y)), .map (some m), .agg (arr 2 (sp x y)), .int .i64 1, .slice (some ⟨bl, 0, none⟩) 1 1, .slice (some ⟨bq0, oq0, none⟩) 1 cq0, u25, u26, u27, u28, u29, u30, u31, u32, u33, u34, u35, u36, u37, u38, u39, u40, u41, u42, u43, u44, u45, u46, u47, u48, u49, u50, u51, u52, u53, u54, u55], defers := Ds.map fun D => { target := .collected D, args := #[] } }

set_option maxRecDepth 100000 in
set_option maxHeartbeats 4000000 in
theorem stepsFrom_one (g : Nat → Int) (hg : Fits g) (ho : okB g = true) (x y : Nat) (hx : x ≤ 9) (hy : y ≤ 9) (bl : Nat) (w : World) (hA : At w bl 2 (sp x y)) :
    Calls Tryd.prog 109 #[.agg (arr 122 (pas g)), .slice (some ⟨bl, 0, none⟩) 1 1] w (GivesM w (foundOf (nbOf g) ((x : Int), (y : Int)))) := by
  have hM : Mem w [(bl, 2, sp x y)] w := (Mem.nil w).old hA (fun i p h => by simp at h)
  have hin0 : In10 ((x : Int), (y : Int)) := ⟨by show (0 : Int) ≤ x; omega, by show (x : Int) ≤ 9; omega, by show (0 : Int) ≤ y; omega, by show (y : Int) ≤ 9; omega⟩
  have hok : SpotOk ((x : Int), (y : Int)) := ⟨by show (-128 : Int) ≤ x; omega, by show (x : Int) ≤ 127; omega, by show (-128 : Int) ≤ y; omega, by show (y : Int) ≤ 127; omega⟩
  refine (callsIn_wide (n := 3)).1 ?_
  refine callsIn_of_wp_marks Tryd.func109 rfl trivial ?_ rfl
  simp only [Tryd.ntmps109, List.size_toArray, List.length_cons, List.length_nil, Nat.reduceAdd, Nat.reduceSub, Array.replicate_succ, Array.replicate_zero, List.push_toArray, List.append_toArray, List.nil_append, List.cons_append]
  refine wpIn_wide.2 ?_
  have tk_b1 : True := trivial; have tk_m1 : True := trivial; have tk_b2 : True := trivial; have tk_s1 : True := trivial
  go_wp2_with (first | (have _t := tk_b1; refine wpList_box rfl _ _ rfl _ _ rfl hM ?_; intro b1 W' hb1 hM'; clear hM tk_b1; have hM := hM'; clear hM') | (have _t := tk_m1; refine wpList_makeMap rfl _ rfl (kv := spV) (fun _ => undef) hM ?_; intro m W' hm hm2 hM'; clear hM tk_m1; have hM := hM'; clear hM') | (have _t := tk_b2; refine wpList_zero1 rfl _ rfl map_zero rfl hM ?_; intro b2 W' hb2 hM'; clear hM tk_b2; have hM := hM'; clear hM') | (have _t := tk_s1; refine wpList_set1 rfl _ _ _ rfl _ _ rfl (.map (some m)) rfl rfl hM 0 rfl (by assumption) (cellTab _ rfl) (by omega) ?_; intro W' hM'; clear hM tk_s1; have hM := hM'; clear hM'; simp only [List.set] at hM))
  have hl : (Base.of w).Lets m := lets_of hm
  refine wp_loop_rounds 2 ?_
  rw [rounds_succ]
  have tk_g1 : True := trivial; have tk_b7 : True := trivial; have tk_l1 : True := trivial; have tk_g2 : True := trivial; have tk_g3 : True := trivial; have tk_s2 : True := trivial
  go_wp2_with (first | (have _t := tk_g1; refine wpList_getE rfl _ _ rfl _ _ rfl hM 2 rfl (rowTab _ _ rfl) (by omega) (sp x y) (fun k hk => by rw [Nat.zero_add]) ?_; clear tk_g1) | (have _t := tk_b7; refine wpList_zero rfl _ rfl (zeroTab _ _ _ rfl) hM ?_; intro b7 W' hb7 hM'; clear hM tk_b7; have hM := hM'; clear hM') | (have _t := tk_l1; (refine wpList_lay rfl _ _ _ rfl _ _ rfl _ _ rfl hM 0 rfl (by assumption) (rowTab _ _ rfl) (by omega) ?_ ?_; (first | (intro _ _; rfl) | (intro k _; exact h1 _) | (intro k _; simp only [lay, upd]; (repeat' split) <;> first | exact h1 _ | rfl)); intro W' hM'; clear hM; have hM := hM'; clear hM'; simp only [List.set] at hM); clear tk_l1) | (have _t := tk_g2; (refine wpList_get1 rfl _ _ rfl _ _ rfl hM 1 rfl (cellTab _ rfl) (by omega) _ rfl ?_); clear tk_g2) | (have _t := tk_g3; refine wpList_getE rfl _ _ rfl _ _ rfl hM 0 rfl (rowTab _ _ rfl) (by omega) (sp x y) (lay_sp0' _ _ _) ?_; clear tk_g3) | (have _t := tk_s2; refine wpList_mapSet rfl _ _ _ _ rfl rfl ((x : Int), (y : Int)) rfl (.int .i64 0) rfl spotT map_under hM hl (by simp) (by simp) hok ?_; intro W' hM'; clear hM tk_s2; have hM := hM'; clear hM'))
  have hmap : mapO spV (addK [] ((x : Int), (y : Int))) (updK (fun _ => undef) ((x : Int), (y : Int)) (.int .i64 0)) = mapO spV (found0 ((x : Int), (y : Int))).q (stV (found0 ((x : Int), (y : Int))).d) := by
    have e1 : addK [] ((x : Int), (y : Int)) = [((x : Int), (y : Int))] := by simp [addK]
    rw [e1]
    unfold mapO
    rw [ents_congr (g := stV (found0 ((x : Int), (y : Int))).d) (fun k hk => by
      have : k = ((x : Int), (y : Int)) := by simpa using hk
      subst this
      simp [updK, stV, found0, updI])]
    rfl
  rw [rounds_succ]
  have tk_z8 : True := trivial; have tk_s3 : True := trivial
  go_wp2_with (first | (go_at_call 147; refine (clone_one _ _ bl _ (hM.ats 3 _ _ _ rfl)).mono ?_; rintro e W' ⟨bq, oq, cq, Nq, Fq, rfl, hbq, hcq, hoq, hFq, hMq⟩; have hbqw : w.heap.size ≤ bq := Nat.le_trans hM.size hbq; have hM' := hM.freshH hMq.below hMq.at0 hbq; clear hM hMq; have hM := hM'; clear hM') | (have _t := tk_z8; refine wpList_zero1 rfl _ rfl spots_zero1 rfl hM ?_; intro b8 W' hb8 hM'; clear hM tk_z8; have hM := hM'; clear hM') | (have _t := tk_s3; refine wpList_set1 rfl _ _ _ rfl _ _ rfl (.slice (some ⟨bq, oq, none⟩) 1 cq) rfl rfl hM 0 rfl (by assumption) (cellTab _ rfl) (by omega) ?_; intro W' hM'; clear hM tk_s3; have hM := hM'; clear hM'; simp only [List.set] at hM))
  have hM1 := hM.re 0 rfl (fun _ => .slice (some ⟨bq, oq, none⟩) 1 cq) (fun k hk => by
    obtain rfl : k = 0 := by omega
    rfl)
  simp only [List.set_cons_zero] at hM1
  have hM2 := hM1.re 3 rfl (fun _ => .map (some m)) (fun k hk => by
    obtain rfl : k = 0 := by omega
    rfl)
  simp only [List.set_cons_succ, List.set_cons_zero] at hM2
  simp only [hmap] at hM2
  clear hM hM1
  have hM := hM2.swap
  clear hM2
  have hb2' : w.heap.size ≤ b2 := hb2
  have hb8' : w.heap.size ≤ b8 := hb8
  have hmW : w.heap.size ≤ m := hm
  refine (wpIn_wide (n := 3)).1 ?_
  refine wpIn_loop (StepIt w g (x : Int) (y : Int) bl b1 b2 b7 b8 m bq oq cq (lay (fun _ => .int .i8 0) 0 2 (sp (x : Int) (y : Int)))) (fun a _ => 100 - a.defers.length) ?start ?round
  case start =>
    refine ⟨[], _, 1, bq, oq, cq, Nq, Fq, by simp, rfl, rfl, hbqw, hcq, hoq, ?_, List.nodup_nil, fun D hD => by simp at hD, by simp, hM, undef, undef, undef, undef, undef, undef, undef, undef, undef, undef, undef, undef, undef, undef, undef, undef, undef, undef, undef, undef, undef, undef, undef, undef, undef, undef, undef, undef, undef, undef, undef, undef, undef, undef, undef, rfl⟩
    · intro j hj
      exact hFq j (by simpa using hj)
  case round =>
    clear hM hmap
    intro a0 W0 hI
    obtain ⟨Ds, s, r, bq1, off, c, N, F, hlen, hs, hr, hbq1, hrc, hN, hF, hnd, hDs, hmD, hM, u9, u10, u11, u12, u25, u26, u27, u28, u29, u30, u31, u32, u33, u34, u35, u36, u37, u38, u39, u40, u41, u42, u43, u44, u45, u46, u47, u48, u49, u50, u51, u52, u53, u54, u55, rfl⟩ := hI
    have hG : s.Good In10 := by rw [hs]; exact good_at (good_0 hin0) (fun k hk n hn => nb_in ho hn) _
    have hq100 := good_100 hG
    have hcg : w.heap.size ≤ (Base.of w).B := Nat.le_refl _
    by_cases hr0 : r = 0
    · subst hr0
      have HF := Lib.hid hF
      have Hs := Lib.hid hs
      have Hr := Lib.hid hr
      have HG := Lib.hid hG
      clear hF hs hr hG
      refine wpIn_wide.2 ?_
      have tk_r1 : True := trivial
      go_wp2_with (first | (have _t := tk_r1; (refine wpList_get1 rfl _ _ rfl _ _ rfl hM 1 rfl spots_cell (by omega) _ rfl ?_); clear tk_r1) | (refine wpList_get1 rfl _ _ rfl _ _ rfl hM 3 rfl (cellTab _ rfl) (by omega) _ rfl ?_))
      have hfo : s = foundOf (nbOf g) ((x : Int), (y : Int)) := by rw [Hs.out]; exact found_all hlen (by rw [← Hs.out]; have := Hr.out; omega)
      have hsh := shut_below Ds (marks_good Ds hM.good.1) hDs
      have hmo := shut_obj Ds hM.good.2 hmD
      rw [hfo] at hmo
      exact leave_marksL (.map (some m)) Ds (marks_get Ds hM.good.1) hnd (by rw [results_tmp rfl]; rfl) ⟨m, rfl, hmW, Mem.start ⟨hsh, hmo⟩⟩
    · obtain ⟨now, hnow⟩ : ∃ now, s.q[Ds.length]? = some now := ⟨s.q[Ds.length]'(by omega), List.getElem?_eq_getElem _⟩
      obtain ⟨u, v, rfl, hu, hv⟩ := nat_of_in (hG.cells now (List.mem_of_getElem? hnow))
      obtain ⟨hF0, hF1⟩ := queue_first hnow hr hF
      obtain ⟨off2, hoff, hN2, hF2⟩ := queue_rest (c := c) (N := N) hr0 hrc hN hF1
      have hB8 : (((Base.of w).marks Ds).with m (mapO spV s.q (stV s.d)) rfl).B ≤ b8 := by
        show ((Base.of w).marks Ds).B ≤ b8
        rw [marks_B]; exact hb8'
      have l1 : 0 < r := by omega
      have l2 : (0 : Int) < r := by omega
      have HF0 := Lib.hid hF0
      have Hoff := Lib.hid hoff
      have HF2 := Lib.hid hF2
      have Hs := Lib.hid hs
      have Hr := Lib.hid hr
      have HG := Lib.hid hG
      have Hnow := Lib.hid hnow
      clear hF hs hr hG hF0 hF1 hoff hF2 hnow
      refine wpIn_wide.2 ?_
      have tk_r1 : True := trivial; have tk_r2 : True := trivial; have tk_r3 : True := trivial; have tk_b9 : True := trivial; have tk_l9 : True := trivial; have tk_r4 : True := trivial; have tk_s8 : True := trivial; have tk_r5 : True := trivial; have tk_r6 : True := trivial; have tk_c1 : True := trivial
      go_wp2_with (first | (have _t := tk_r1; (refine wpList_get1 rfl _ _ rfl _ _ rfl hM 1 rfl spots_cell (by omega) _ rfl ?_); clear tk_r1) | (have _t := tk_r2; (refine wpList_get1 rfl _ _ rfl _ _ rfl hM 1 rfl spots_cell (by omega) _ rfl ?_); clear tk_r2) | (have _t := tk_r3; refine wpList_getE rfl _ _ rfl _ _ rfl hM 0 rfl (rowTab _ _ rfl) (by omega) (sp u v) HF0.out ?_; clear tk_r3) | (have _t := tk_b9; refine wpList_zero rfl _ rfl (zeroTab _ _ _ rfl) hM ?_; intro b9 W' hb9 hM'; clear hM tk_b9; have hM := hM'; clear hM') | (have _t := tk_l9; (refine wpList_lay rfl _ _ _ rfl _ _ rfl _ _ rfl hM 0 rfl (by assumption) (rowTab _ _ rfl) (by omega) ?_ ?_; (first | (intro _ _; rfl) | (intro k _; exact h1 _) | (intro k _; simp only [lay, upd]; (repeat' split) <;> first | exact h1 _ | rfl)); intro W' hM'; clear hM; have hM := hM'; clear hM'; simp only [List.set] at hM); clear tk_l9) | (have _t := tk_r4; (refine wpList_get1 rfl _ _ rfl _ _ rfl hM 2 rfl spots_cell (by omega) _ rfl ?_); clear tk_r4) | ((refine wpList_rest rfl _ _ _ rfl 2 spot_under (by kernel_rfl) bq1 off r c rfl (by omega) hrc ?_); rw [Hoff.out]) | (have _t := tk_s8; refine wpList_set1 rfl _ _ _ rfl _ _ rfl (.slice (some ⟨bq1, off2, none⟩) (r - 1) (c - 1)) rfl rfl hM 2 rfl (by assumption) spots_cell (by omega) ?_; intro W' hM'; clear hM tk_s8; have hM := hM'; clear hM'; simp only [List.set_cons_succ, List.set_cons_zero] at hM) | (have _t := tk_r5; (refine wpList_get rfl _ _ rfl _ _ rfl hM 5 rfl (rowTab _ _ rfl) (by omega) ?_); clear tk_r5) | (have _t := tk_r6; refine wpList_getE rfl _ _ rfl _ _ rfl hM 0 rfl (rowTab _ _ rfl) (by omega) (sp u v) (lay_sp0' _ _ _) ?_; clear tk_r6) | (have _t := tk_c1; go_at_call 136; refine (beside_any g (u : Int) (v : Int) _).mono ?_; rintro e W' ⟨bp, bs, rfl, hbp, hbs, hMb⟩; have hM' := hM.freshK hMb (fun p hp => by simp at hp; rcases hp with rfl | rfl <;> assumption); clear hM hMb tk_c1; have hM := hM'; clear hM'))
      simp only [besK, List.cons_append, List.nil_append] at hM
      have hM1 := hM.re 2 rfl (sp (u : Int) (v : Int)) (fun k hk => by rw [← lay_sp0' _ (u : Int) (v : Int) k hk, Nat.zero_add])
      simp only [List.set_cons_succ, List.set_cons_zero] at hM1
      have hM2 := hM1.re 4 rfl (fun _ => .slice (some ⟨bq1, off2, none⟩) (r - 1) (c - 1)) (fun k hk => by
        obtain rfl : k = 0 := by omega
        rfl)
      simp only [List.set_cons_succ, List.set_cons_zero] at hM2
      clear hM hM1
      have hM := hM2.move32
      clear hM2
      refine (wpIn_wide (n := 3)).1 ?_
      refine range_relM (α := OpenS g u v) (px := fun k => nxX k.1 u) (py := fun k => nxY k.1 v) (w := w) m Ds (SideR w g s u v (Ds.length + 1) b8 (besK bp bs g u v ++ [(b9, 2, sp u v), (b7, 2, lay (fun _ => .int .i8 0) 0 2 (sp (x : Int) (y : Int))), (b2, 1, fun _ => .map (some m)), (b1, 122, pas g), (bl, 2, sp (x : Int) (y : Int))])) (mapO spV s.q (stV s.d)) _ (N := 4)
        rfl (enters_of Tryd.func160 (by kernel_rfl) rfl) (beside1_stopsT bp bs g hg ho u v ⟨by omega, by omega⟩ ⟨by omega, by omega⟩ _ (hM.ats 2 _ _ _ rfl) (hM.ats 3 _ _ _ rfl)) (fun h k => kpL_t h k) (fun X l o o' h ho => kpL_b X l o o' h ho)
        sideR_no (Array.getElem?_eq_some_iff.1 hM.good.2).1 (marks_get Ds hM.good.1) sideR_det sideR_kp rfl rfl rfl rfl rfl rfl (by decide) (by simp) (by simp)
        ⟨rfl, r - 1, bq1, off2, c - 1, N, F, (by have := Hr.out; show Ds.length + 1 + (r - 1) = s.q.length; omega), hbq1, by omega, hN2, HF2.out, rfl⟩ (hM.base (marks_good Ds hM.good.1)) hM.good.2 ?body ?done
      case body =>
        intro l pre k bx X o ho' Bs hbx hI hMr hlen
        have hI0 := Lib.hid hI
        have hGa := good_after ho HG.out (u : Int) (v : Int) (sidesN pre) (sidesN_in pre)
        have hqa := after_q Hnow.out (u : Int) (v : Int) (sidesN pre)
        obtain ⟨rfl, r1, bq2, off3, c1, N1, F1, hr1, hbq2, hrc1, hN1, hF1, rfl⟩ := hI
        have hone := Lib.hid (sidesN_one pre k)
        generalize hs2 : afterS s (u : Int) (v : Int) (sidesN pre) = s2 at hMr hGa hqa hr1 hF1
        have Hs2 := Lib.hid hs2
        clear hs2
        have hk10 := open_in ho (openS_in k)
        have hkok := in10_ok hk10
        have huvok := in10_ok (hGa.cells _ (List.mem_of_getElem? hqa))
        have hq2 := good_100 hGa
        have hlM : ((Base.round w W'.heap.size X).marks Ds).Lets m := lets_marks (lets_round hmW (Array.getElem?_eq_some_iff.1 hM.good.2).1) Ds hmD
        have hB8r : ∀ (O : Obj) (h : O.isCells = false), (((Base.round w W'.heap.size X).marks Ds).with m O h).B ≤ b8 := fun O h => by
          show ((Base.round w W'.heap.size X).marks Ds).B ≤ b8
          rw [marks_B]; exact hb8'
        have hBqr : ∀ (O : Obj) (h : O.isCells = false), (((Base.round w W'.heap.size X).marks Ds).with m O h).B ≤ bq2 := fun O h => by
          show ((Base.round w W'.heap.size X).marks Ds).B ≤ bq2
          rw [marks_B]; exact hbq2
        have hks : ∀ j, j ∈ s2.q → SpotOk j := fun j hj => in10_ok (hGa.cells j hj)
        have huv : ((u : Int), (v : Int)) ∈ s2.q := List.mem_of_getElem? hqa
        have hdl := hGa.low ((u : Int), (v : Int))
        have hdh := hGa.high ((u : Int), (v : Int))
        have cw : IntKind.i64.wrap (s2.d ((u : Int), (v : Int)) - 1 + 1) = s2.d ((u : Int), (v : Int)) := by rw [show s2.d ((u : Int), (v : Int)) - 1 + 1 = s2.d ((u : Int), (v : Int)) by omega]; exact IntWalk.i64_in _ (by omega)
        have Hnd := Lib.hid hGa.nodup
        have Hmem := Lib.hid hGa.mem
        have HF1 := Lib.hid hF1
        have Hr1 := Lib.hid hr1
        have Hk := Lib.hid hks
        have Hl := Lib.hid hlM
        have HB8 := Lib.hid hB8r
        have HBq := Lib.hid hBqr
        clear hGa hqa hF1 hks hlM hB8r hBqr hM hdl hdh
        have hM := hMr
        clear hMr
        simp only [besK, List.cons_append, List.nil_append] at hM
        by_cases hd : s2.d (nxX k.1 u, nxY k.1 v) = 0
        · have hno : (nxX k.1 (u : Int), nxY k.1 (v : Int)) ∉ s2.q := fun h => (Hmem.out _).1 h hd
          have Hd := Lib.hid hd
          have Hcw := Lib.hid cw
          clear hd cw
          refine wpIn_block (wpIn_seq (region_round (fun ⟨_, _, h⟩ => h) rfl ?_))
          have tk_t1 : True := trivial; have tk_t2 : True := trivial; have tk_t3 : True := trivial
          go_wp2_with (first | (have _t := tk_t1; refine wpList_get1 rfl _ _ rfl _ _ rfl hM 7 rfl (cellTab _ rfl) (by omega) _ rfl ?_; clear tk_t1) | (have _t := tk_t2; refine wpList_getE rfl _ _ rfl _ _ rfl hM 0 rfl (rowTab _ _ rfl) (by omega) (sp (nxX k.1 u) (nxY k.1 v)) (fun k hk => by rw [Nat.zero_add]) ?_; clear tk_t2) | (have _t := tk_t3; refine wpList_look_out rfl _ _ _ rfl rfl (nxX k.1 (u : Int), nxY k.1 (v : Int)) rfl spotT map_under (.int .i64 0) zero_i64 hM.good.2 Hk.out hkok hno ?_; clear tk_t3))
          refine wpIn_seq (region_round (fun ⟨_, _, h⟩ => h) rfl ?_)
          go_wp2
          refine wpIn_cond_true rfl (wpIn_seq ?_)
          have cw := Hcw.out
          have cw2 : IntKind.i64.wrap (s2.d ((u : Int), (v : Int))) = s2.d ((u : Int), (v : Int)) := by
            have h := cw
            rwa [show s2.d ((u : Int), (v : Int)) - 1 + 1 = s2.d ((u : Int), (v : Int)) by omega] at h
          ((try simp only [Act.put, List.setIfInBounds_toArray, List.set_cons_succ, List.set_cons_zero]); refine region_round_tail (m := 6) (fun ⟨_, _, h⟩ => h) rfl (by kernel_rfl) (by kernel_rfl) ?_; (have hM' := hM.drew); clear hM; have hM := hM'; clear hM'; simp only [List.take_succ_cons, List.take_zero, List.drop_succ_cons, List.drop_zero]; (repeat (refine wps_plain rfl ?_; (first | (refine still_get1 hM _ _ rfl _ _ rfl 7 rfl (cellTab _ rfl) (by omega) (.map (some m)) rfl ?_) | (refine still_getE hM _ _ rfl _ _ rfl 0 rfl (rowTab _ _ rfl) (by omega) (sp (nxX k.1 u) (nxY k.1 v)) (fun k hk => by rw [Nat.zero_add]) ?_) | (refine still_getE hM _ _ rfl _ _ rfl 5 rfl (rowTab _ _ rfl) (by omega) (sp u v) (fun k hk => by rw [Nat.zero_add]) ?_) | (refine still_look _ _ _ rfl rfl ((u : Int), (v : Int)) rfl spotT map_under (.int .i64 0) zero_i64 hM.good.2 Hk.out huvok huv (.int .i64 (s2.d ((u : Int), (v : Int)) - 1)) rfl ?_) | (refine still_val ?_; apply Exists.intro; refine ⟨fun W => ?_, ?_⟩; (go_simp; (try simp only [cw, cw2, if_true]); rfl))); (simp only [Act.put, List.setIfInBounds_toArray, List.set_cons_succ, List.set_cons_zero]))); unfold wpStill)
          refine wpList_mapSet rfl _ _ _ _ rfl rfl (nxX k.1 (u : Int), nxY k.1 (v : Int)) rfl (.int .i64 (s2.d ((u : Int), (v : Int)))) rfl spotT map_under hM Hl.out Hnd.out Hk.out hkok ?_
          intro X3 hM'
          simp only [addK_new hno, stV_upd] at hM'
          clear hM cw cw2
          have hM := hM'.swap
          clear hM'
          unfold wpList
          have Hsp := Lib.hid (sps_push (l := s2.q.drop (Ds.length + 1)) (nxX k.1 (u : Int), nxY k.1 (v : Int)))
          have Hlen : Hid ((s2.q.drop (Ds.length + 1)).length = r1) := Lib.hid (by rw [List.length_drop]; have := Hr1.out; omega)
          have Hdr := Lib.hid (drop_new Hr1.out (nxX k.1 (u : Int), nxY k.1 (v : Int)))
          have Hnew : Hid (afterS s (u : Int) (v : Int) (sidesN (pre ++ [k])) = ⟨s2.q ++ [(nxX k.1 (u : Int), nxY k.1 (v : Int))], updI s2.d (nxX k.1 (u : Int), nxY k.1 (v : Int)) (s2.d ((u : Int), (v : Int)) + 1)⟩) := Lib.hid (by rw [hone.out, afterS_one, Hs2.out, visit1_new Hd.out])
          refine region_round (fun ⟨_, _, h⟩ => h) rfl ?_
          have tk_t4 : True := trivial; have tk_t5 : True := trivial; have tk_b3 : True := trivial; have tk_p1 : True := trivial; have tk_s9 : True := trivial
          go_wp2_with (first | (have _t := tk_t4; refine wpList_get1 rfl _ _ rfl _ _ rfl hM 2 rfl spots_cell (by omega) _ rfl ?_; clear tk_t4) | (have _t := tk_t5; refine wpList_getE rfl _ _ rfl _ _ rfl hM 1 rfl (rowTab _ _ rfl) (by omega) (sp (nxX k.1 u) (nxY k.1 v)) (fun k hk => by rw [Nat.zero_add]) ?_; clear tk_t5) | (have _t := tk_b3; refine wpList_slice1 rfl _ _ _ rfl _ _ rfl _ spot_under spot_info (by omega) (by omega) hM ?_; intro b3 W' hb3 hM'; clear hM tk_b3; have hM := hM'; clear hM') | (have _t := tk_p1; refine wpList_pushO rfl _ _ _ rfl _ 2 2 _ spot_under spot_infoB rfl (by omega) bq2 off3 r1 c1 N1 F1 rfl (HBq.out _ _) hrc1 hN1 (by omega) b3 (sp (nxX k.1 u) (nxY k.1 v)) rfl (fun _ _ => rfl) hM (sps (sI ((s2.q ++ [(nxX k.1 (u : Int), nxY k.1 (v : Int))]).drop (Ds.length + 1)))) (fun j hj => by rw [HF1.out j hj, Hdr.out]; exact Hsp.out.1 j (by rw [Hlen.out]; exact hj)) (fun j hj => by rw [Hdr.out, Hsp.out.2 j hj, Hlen.out]) ?_; intro bq3 off4 c2 N2 F2 X4 hbq3 hc2 hN3 hF2 hM'; clear hM tk_p1; have hM := hM'; clear hM'; have HF2' := Lib.hid hF2; clear hF2) | (have _t := tk_s9; refine wpList_set1 rfl _ _ _ rfl _ _ rfl (.slice (some ⟨bq3, off4, none⟩) (r1 + 1) c2) rfl rfl hM 2 rfl (HB8.out _ _) spots_cell (by omega) ?_; intro X5 hM'; clear hM tk_s9; have hM := hM'; clear hM'; simp only [List.set_cons_succ, List.set_cons_zero] at hM))
          have hM1 := hM.re 2 rfl (fun _ => .slice (some ⟨bq3, off4, none⟩) (r1 + 1) c2) (fun k hk => by
            obtain rfl : k = 0 := by omega
            rfl)
          simp only [List.set_cons_succ, List.set_cons_zero] at hM1
          refine ⟨mapO spV (s2.q ++ [(nxX k.1 (u : Int), nxY k.1 (v : Int))]) (stV (updI s2.d (nxX k.1 (u : Int), nxY k.1 (v : Int)) (s2.d ((u : Int), (v : Int)) + 1))), rfl, _, ?_, hM1.skip⟩
          unfold SideR
          rw [Hnew.out]
          refine ⟨rfl, r1 + 1, bq3, off4, c2, N2, F2, ?_, ?_, hc2, hN3, HF2'.out, rfl⟩
          · have := Hr1.out
            simp only [List.length_append, List.length_singleton]; omega
          · have h := hbq3
            change ((Base.round w _ X).marks Ds).B ≤ bq3 at h
            rw [marks_B] at h
            exact h
        · have hin : (nxX k.1 (u : Int), nxY k.1 (v : Int)) ∈ s2.q := (Hmem.out _).2 hd
          have hold := Lib.hid (sideR_old (k := k) hI0.out (by rw [Hs2.out]; exact hd))
          clear hd cw
          refine wpIn_block (wpIn_seq (region_round (fun ⟨_, _, h⟩ => h) rfl ?_))
          have tk_t1 : True := trivial; have tk_t2 : True := trivial; have tk_t3 : True := trivial
          go_wp2_with (first | (have _t := tk_t1; refine wpList_get1 rfl _ _ rfl _ _ rfl hM 7 rfl (cellTab _ rfl) (by omega) _ rfl ?_; clear tk_t1) | (have _t := tk_t2; refine wpList_getE rfl _ _ rfl _ _ rfl hM 0 rfl (rowTab _ _ rfl) (by omega) (sp (nxX k.1 u) (nxY k.1 v)) (fun k hk => by rw [Nat.zero_add]) ?_; clear tk_t2) | (have _t := tk_t3; refine wpList_look_in rfl _ _ _ rfl rfl (nxX k.1 (u : Int), nxY k.1 (v : Int)) rfl spotT map_under (.int .i64 0) zero_i64 hM.good.2 Hk.out hkok hin ?_; clear tk_t3))
          refine wpIn_seq (region_round (fun ⟨_, _, h⟩ => h) rfl ?_)
          go_wp2
          refine wpIn_cond_false rfl (wpIn_skip ?_)
          have hs2 := Hs2.out
          subst hs2
          exact ⟨_, rfl, _, hold.out, hM.drop⟩
      case done =>
        intro D xs X o ho' Bs hD hS hI hMr hK
        have hS' : sidesN xs = openL g (u : Int) (v : Int) 4 := hS
        obtain ⟨rfl, r1, bq2, off3, c1, N1, F1, hr1, hbq2, hrc1, hN1, hF1, rfl⟩ := hI
        have hst : afterS s (u : Int) (v : Int) (sidesN xs) = foundAt (nbOf g) (found0 ((x : Int), (y : Int))) (Ds.length + 1) := by
          rw [hS', afterS_all, found_step (now := ((u : Int), (v : Int))) (by rw [← Hs.out]; exact Hnow.out), ← Hs.out]
        generalize hs2 : afterS s (u : Int) (v : Int) (sidesN xs) = s2 at hMr hr1 hF1 hst
        have hlt : ∀ E, E ∈ Ds → E < W'.heap.size := fun E hE => (Array.getElem?_eq_some_iff.1 (marks_get Ds hM.good.1 E hE)).1
        have hmlt : m < W'.heap.size := (Array.getElem?_eq_some_iff.1 hM.good.2).1
        have hWs : w.heap.size ≤ W'.heap.size := Nat.le_trans (Nat.le_of_eq (marks_B (Base.of w) Ds).symm) hM.size
        have hr2 := Hr.out
        show _ ∧ _
        refine ⟨⟨D :: Ds, s2, r1, bq2, off3, c1, N1, F1, by simp only [List.length_cons]; omega, hst, by simpa using hr1, hbq2, hrc1, hN1, by simpa using hF1, List.nodup_cons.2 ⟨fun h => by have := hlt D h; omega, hnd⟩, fun E hE => ?_, fun h => ?_, ?_, _, _, _, _, _, _, _, _, _, _, _, _, _, _, _, _, _, _, _, _, _, _, _, _, _, _, _, _, _, _, _, _, _, _, _, rfl⟩, ?_⟩
        · rcases List.mem_cons.1 hE with rfl | hE
          · omega
          · exact hDs E hE
        · rcases List.mem_cons.1 h with rfl | h
          · omega
          · exact hmD h
        · have hM3 : Mem (((Base.of w).marks (D :: Ds)).with m (mapO spV s2.q (stV s2.d)) rfl) _ X := hMr.base ⟨⟨hMr.good.1, hK⟩, hMr.good.2⟩
          simp only [besK, List.cons_append, List.nil_append] at hM3
          exact hM3.cut3
        · simp; omega
end Go.Proofs.YtbmaljhnldepoaaDoor

/-
  PLAIN LAW: as Mix, with the reads and quiet calls standing anywhere in the region (the places qs), and, behind them, whatever may come up at each step.
-/
namespace Go.Proofs.YtbmaljhnldepoaaDoor
open Go Go.RowKit
variable {P : Program} {ops : Array Oper} {C D : World → Prop}

/-- Operation i comes up: one of the first n is a read, the others are the thread. -/
def mixOpQ (P : Program) (ops : Array Oper) (C : World → Prop) (q : Nat → Bool) (i : Nat) (a : Act) (D : World → Prop) (K : Act → (World → Prop) → Prop) : Prop :=
  ∃ o, ops[i]? = some o ∧ (if q i = true then (if Region.wanted o (yielded ops a.tmps) then qB P o a C (fun a' => K a' D) else K (a.put o.dst undef) D) else o.guard = none ∧ stepT P C o a D K)
def mixQ (P : Program) (ops : Array Oper) (C : World → Prop) (q : Nat → Bool) (Q : Exit → Act → World → Prop) : Nat → Array Bool → Act → (World → Prop) → Prop
  | 0, s, a, D => Region.ready .any ops s = [] ∧ ∀ W, D W → Q .normal a W
  | f + 1, s, a, D => Region.ready .any ops s ≠ [] ∧ ∀ i ∈ Region.ready .any ops s, mixOpQ P ops C q i a D (mixQ P ops C q Q f (s.setIfInBounds i true))

theorem wpOp_of_mixOpQ {q : Nat → Bool} {i : Nat} {a : Act} {W : World} {K : Act → (World → Prop) → Prop} {K' : Act → World → Prop} {Q : Exit → Act → World → Prop} (hD : Kept C D) (hW : D W)
    (h : ∀ a D W, Kept C D → D W → K a D → K' a W) (hh : mixOpQ P ops C q i a D K) : wpOp P ops Q i K' a W := by
  obtain ⟨o, ho, hh⟩ := hh
  unfold wpOp
  simp only [ho]
  by_cases hn : q i = true
  · rw [if_pos hn] at hh
    by_cases hw : Region.wanted o (yielded ops a.tmps) = true
    · rw [if_pos hw] at hh ⊢
      obtain ⟨v, h1, h2⟩ := hh
      have h3 := h1 W (hD.sub W hW)
      refine .inl ?_
      unfold Oper.quietAt at h3
      unfold Oper.wp
      generalize (execOp a.eval o).run P W = r at *
      cases r with
      | ok x w' =>
        cases x <;> simp only [Oper.quietUpon] at h3 <;> simp only [Oper.upon]
        case value => obtain ⟨rfl, rfl⟩ := h3; exact h _ _ _ hD hW h2
        case skip => obtain ⟨rfl, rfl⟩ := h3; exact h _ _ _ hD hW h2
        case enter f args =>
          obtain ⟨rfl, hc⟩ := h3
          exact hc.mono fun e w'' ⟨he, hb⟩ => by subst he; exact h _ _ _ hD (hD.on _ _ hW hb) h2
      | halt x w' => simp only [Oper.quietUpon] at h3
    · rw [if_neg hw] at hh ⊢
      exact h _ _ _ hD hW hh
  · rw [if_neg hn] at hh
    obtain ⟨hg, hs⟩ := hh
    have hw : Region.wanted o (yielded ops a.tmps) = true := by simp [Region.wanted, hg]
    rw [if_pos hw]
    refine .inl ?_
    unfold Oper.wp
    rcases hs W hW with ⟨u, D', W', hr, hk, hd, hK⟩ | ⟨f, args, hr, hc⟩
    · rcases hr with hr | ⟨hr, rfl⟩ <;> rw [hr] <;> exact h _ _ _ hk hd hK
    · rw [hr]
      exact hc.mono fun e w'' ⟨u, D', he, hk, hd, hK⟩ => by subst he; exact h _ _ _ hk hd hK

theorem any_of_mixQ {q : Nat → Bool} {Q : Exit → Act → World → Prop} (f : Nat) : ∀ s a D W, Kept C D → D W → mixQ P ops C q Q f s a D → wpAny P .any ops Q f s a W := by
  induction f with
  | zero => intro s a D W _ hW h; exact ⟨h.1, h.2 W hW⟩
  | succ f ih =>
    intro s a D W hD hW h
    exact ⟨fun e => absurd e h.1, fun i hi => wpOp_of_mixOpQ hD hW (fun a' D' W' hD' hW' h' => ih _ a' D' W' hD' hW' h') (h.2 i hi)⟩

theorem gives.opQ {q : Nat → Bool} {i : Nat} {o : Oper} {v : Value} {a : Act} {K : Act → (World → Prop) → Prop} (hn : q i = true) (ho : ops[i]? = some o) (h : gives P ops C o v a) (hK : K (a.put o.dst v) D) : mixOpQ P ops C q i a D K := by
  refine ⟨o, ho, ?_⟩
  rw [if_pos hn]
  rcases h with ⟨hw, hv⟩ | ⟨hw, rfl⟩
  · rw [if_pos hw]; exact ⟨v, hv, hK⟩
  · rw [if_neg (by rw [hw]; exact Bool.false_ne_true)]; exact hK

theorem mixOpQ_past {q : Nat → Bool} {j : Nat} {oi oj : Oper} {v : Value} {a : Act} {K K' : Act → (World → Prop) → Prop} (hoj : ops[j]? = some oj) (hap : oi.apart ops oj = true) (hsi : ∀ cs b, oi.op ≠ .select cs b) (hsj : ∀ cs b, oj.op ≠ .select cs b)
    (hg : gives P ops C oi v a) (hK : ∀ u D', gives P ops C oi v (a.put oj.dst u) → K ((a.put oj.dst u).put oi.dst v) D' → K' (a.put oj.dst u) D') (h : mixOpQ P ops C q j (a.put oi.dst v) D K) : mixOpQ P ops C q j a D K' := by
  obtain ⟨h1, h2, h3⟩ := Oper.apart_spec hap
  have sw : ∀ u, (a.put oi.dst v).put oj.dst u = (a.put oj.dst u).put oi.dst v := fun u => Act.put_comm a v u h2
  have keep : ∀ u, gives P ops C oi v (a.put oj.dst u) := fun u => hg.other hsi _ u h3
  obtain ⟨o, ho, h⟩ := h
  obtain rfl : oj = o := Option.some.inj (hoj.symm.trans ho)
  refine ⟨oj, hoj, ?_⟩
  by_cases hn : q j = true
  · rw [if_pos hn] at h ⊢
    rw [wanted_put oj a oi.dst v h1] at h
    by_cases hw : Region.wanted oj (yielded ops a.tmps) = true
    · rw [if_pos hw] at h ⊢
      obtain ⟨u, hu, hk⟩ := h
      refine ⟨u, fun W hW => ?_, hK u D (keep u) (by rw [← sw]; exact hk)⟩
      have := hu W hW
      unfold Oper.quietAt at *
      rwa [execOp_put oj hsj a oi.dst v h1] at this
    · rw [if_neg hw] at h ⊢
      exact hK _ D (keep _) (by rw [← sw]; exact h)
  · rw [if_neg hn] at h ⊢
    refine ⟨h.1, fun W hW => ?_⟩
    rcases h.2 W hW with ⟨u, D', W', hr, hk, hd, hh⟩ | ⟨f, args, hr, hc⟩
    · rw [execOp_put oj hsj a oi.dst v h1] at hr
      exact .inl ⟨u, D', W', hr, hk, hd, hK u D' (keep u) (by rw [← sw]; exact hh)⟩
    · rw [execOp_put oj hsj a oi.dst v h1] at hr
      exact .inr ⟨f, args, hr, hc.mono fun e w'' ⟨u, D', he, hk, hd, hh⟩ => ⟨u, D', he, hk, hd, hK u D' (keep u) (by rw [← sw]; exact hh)⟩⟩

theorem mixQ_first {q : Nat → Bool} {i : Nat} {oi : Oper} {v : Value} {Q : Exit → Act → World → Prop} (hin : q i = true) (hoi : ops[i]? = some oi) (hsel : ∀ (j : Nat) (o : Oper) cs b, ops[j]? = some o → o.op ≠ .select cs b) (f : Nat) :
    ∀ s a D, (∀ j oj, ops[j]? = some oj → j ≠ i → s.getD j true = false → (∀ e ∈ oj.after, Region.binds .any e = true → e.on ≠ i) → oi.apart ops oj = true) →
      i ∈ Region.ready .any ops s → gives P ops C oi v a → mixQ P ops C q Q f (s.setIfInBounds i true) (a.put oi.dst v) D → mixQ P ops C q Q (f + 1) s a D := by
  induction f with
  | zero =>
    intro s a D _ hr hg H
    refine ⟨List.ne_nil_of_mem hr, fun j hj => ?_⟩
    by_cases e : j = i
    · subst e; exact hg.opQ hin hoi H
    · have := ready_mono hj e
      rw [H.1] at this; cases this
  | succ f ih =>
    intro s a D hfree hr hg H
    refine ⟨List.ne_nil_of_mem hr, fun j hj => ?_⟩
    by_cases e : j = i
    · subst e; exact hg.opQ hin hoi H
    obtain ⟨hju, oj, hoj, hdone⟩ := mem_ready.1 hj
    have hfj := hfree j oj hoj e hju fun d hd hb he => by
      have h1 := hdone d hd hb
      rw [he, getD_both (mem_ready.1 hr).1] at h1
      cases h1
    refine mixOpQ_past hoj hfj (fun cs b => hsel i oi cs b hoi) (fun cs b => hsel j oj cs b hoj) hg (fun u D' hg' h' => ?_) (H.2 j (ready_mono hj e))
    refine ih _ _ D' (fun k ok hk hki hku hno => hfree k ok hk hki ?_ hno) (ready_mono hr (Ne.symm e)) hg' ?_
    · by_cases ejk : j = k
      · subst ejk; exact hju
      · rwa [getD_set_ne true ejk] at hku
    · rw [Array.setIfInBounds_comm _ _ e]; exact h'


/-- The reads at the places is, one by one. -/
def wpQs (P : Program) (ops : Array Oper) (C : World → Prop) (R : Act → Prop) : List Nat → Act → Prop
  | [], a => R a
  | i :: is, a => ∃ o, ops[i]? = some o ∧ (if Region.wanted o (yielded ops a.tmps) then qB P o a C (wpQs P ops C R is) else wpQs P ops C R is (a.put o.dst undef))
def lexQs (ops : Array Oper) (s1 : Array Bool) : List Nat → Array Bool → Bool
  | [], s => decide (s = s1)
  | i :: is, s => (Region.ready .any ops s).contains i && Region.free .any ops s i && lexQs ops s1 is (s.setIfInBounds i true)

theorem mixQ_reads {q : Nat → Bool} {Q : Exit → Act → World → Prop} {s1 : Array Bool} {g : Nat} (hsel : Region.noSelect ops = true) : ∀ (is : List Nat) (s : Array Bool) (a : Act), (∀ i ∈ is, q i = true) → lexQs ops s1 is s = true →
    wpQs P ops C (fun a' => mixQ P ops C q Q g s1 a' D) is a → mixQ P ops C q Q (is.length + g) s a D
  | [], s, a, _, hB, h => by
    obtain rfl : s = s1 := by simpa [lexQs] using hB
    rw [List.length_nil, Nat.zero_add]
    exact h
  | i :: is, s, a, hq, hB, h => by
    obtain ⟨o, h0, h⟩ := h
    simp only [lexQs, Bool.and_eq_true] at hB
    have hr : i ∈ Region.ready .any ops s := by simpa using hB.1.1
    have hv : ∃ v, gives P ops C o v a ∧ wpQs P ops C (fun a' => mixQ P ops C q Q g s1 a' D) is (a.put o.dst v) := by
      by_cases hw : Region.wanted o (yielded ops a.tmps) = true
      · rw [if_pos hw] at h; obtain ⟨v, h1, h2⟩ := h; exact ⟨v, .inl ⟨hw, h1⟩, h2⟩
      · rw [if_neg hw] at h; exact ⟨undef, .inr ⟨by simpa using hw, rfl⟩, h⟩
    obtain ⟨v, hg, hK⟩ := hv
    rw [List.length_cons, show is.length + 1 + g = (is.length + g) + 1 by omega]
    exact mixQ_first (hq i (by simp)) h0 (Region.noSelect_spec hsel) _ s a D (Region.free_spec h0 hB.1.2) hr hg (mixQ_reads hsel is _ _ (fun j hj => hq j (by simp [hj])) hB.2 hK)

/-- The reads are told by their places; behind them s1 is listed. -/
def readsB (ops : Array Oper) (is : List Nat) (s1 : Array Bool) : Bool := Region.noSelect ops && lexQs ops s1 is (Array.replicate ops.size false)
theorem region_reads {Q : Exit → Act → World → Prop} {a : Act} {w : Base} {W : World} {L : Blocks} {id : Nat} {l : List Oper} (is : List Nat) (s1 : Array Bool) (g : Nat) (hm : P.follows .mixedOrders = true) (hB : readsB l.toArray is s1 = true) (hg : is.length + g = l.length) (hM : Mem w L W)
    (h : wpQs P l.toArray (Mem w L) (fun a' => mixQ P l.toArray (Mem w L) (fun i => is.contains i) Q g s1 a' (Mem w ([] ++ L))) is a) : (Code.region id l.toArray true).wp P Q a W := by
  refine wp_region_any hm ?_
  simp only [readsB, Bool.and_eq_true] at hB
  have := mixQ_reads (q := fun i => is.contains i) (D := Mem w ([] ++ L)) hB.1 is _ a (fun i hi => by simpa using hi) hB.2 h
  have := any_of_mixQ _ _ _ _ W.drew (kept_mem w L []) hM.drew this
  rw [hg] at this
  simpa using this

/-- The same, where the blocks x, ahead of the others, may be written. -/
theorem region_readsX {Q : Exit → Act → World → Prop} {a : Act} {w : Base} {W : World} {L : Blocks} {id : Nat} {l : List Oper} (is : List Nat) (s1 : Array Bool) (g : Nat) (x : Blocks) (hm : P.follows .mixedOrders = true) (hB : readsB l.toArray is s1 = true) (hg : is.length + g = l.length) (hM : Mem w (x ++ L) W)
    (h : wpQs P l.toArray (Mem w L) (fun a' => mixQ P l.toArray (Mem w L) (fun i => is.contains i) Q g s1 a' (Mem w (x ++ L))) is a) : (Code.region id l.toArray true).wp P Q a W := by
  refine wp_region_any hm ?_
  simp only [readsB, Bool.and_eq_true] at hB
  have := mixQ_reads (q := fun i => is.contains i) (D := Mem w (x ++ L)) hB.1 is _ a (fun i hi => by simpa using hi) hB.2 h
  have := any_of_mixQ _ _ _ _ W.drew (kept_mem w L x) hM.drew this
  rw [hg] at this
  simpa using this

/-- The same, where more places qs hold reads that are taken later. -/
theorem region_readsG {Q : Exit → Act → World → Prop} {a : Act} {w : Base} {W : World} {L : Blocks} {id : Nat} {l : List Oper} (is qs : List Nat) (s1 : Array Bool) (g : Nat) (hq : ∀ i ∈ is, qs.contains i = true) (hm : P.follows .mixedOrders = true) (hB : readsB l.toArray is s1 = true) (hg : is.length + g = l.length) (hM : Mem w L W)
    (h : wpQs P l.toArray (Mem w L) (fun a' => mixQ P l.toArray (Mem w L) (fun i => qs.contains i) Q g s1 a' (Mem w ([] ++ L))) is a) : (Code.region id l.toArray true).wp P Q a W := by
  refine wp_region_any hm ?_
  simp only [readsB, Bool.and_eq_true] at hB
  have := mixQ_reads (q := fun i => qs.contains i) (D := Mem w ([] ++ L)) hB.1 is _ a hq hB.2 h
  have := any_of_mixQ _ _ _ _ W.drew (kept_mem w L []) hM.drew this
  rw [hg] at this
  simpa using this

/-! ### What may come up -/
variable {q : Nat → Bool} {Q : Exit → Act → World → Prop} {s : Array Bool} {a : Act} {f : Nat} {l : List Oper}
theorem at_list {i : Nat} {o : Oper} (h : l[i]? = some o) : l.toArray[i]? = some o := by simpa using h
theorem mix_end (hr : Region.ready .any ops s = []) (h : ∀ W, D W → Q .normal a W) : mixQ P ops C q Q 0 s a D := ⟨hr, h⟩
theorem mix_one {i : Nat} {o : Oper} (hr : Region.ready .any l.toArray s = [i]) (ho : l[i]? = some o) (hq : q i = false) (hg : o.guard = none) (h : stepT P C o a D (mixQ P l.toArray C q Q f (s.setIfInBounds i true))) : mixQ P l.toArray C q Q (f + 1) s a D := by
  refine ⟨by rw [hr]; simp, fun j hj => ?_⟩
  rw [hr] at hj
  obtain rfl : j = i := by simpa using hj
  exact ⟨o, at_list ho, by rw [if_neg (by rw [hq]; decide)]; exact ⟨hg, h⟩⟩
theorem mix_two {i j : Nat} {o o' : Oper} (hr : Region.ready .any l.toArray s = [i, j]) (ho : l[i]? = some o) (ho' : l[j]? = some o') (hq : q i = false) (hq' : q j = false) (hg : o.guard = none) (hg' : o'.guard = none)
    (h : stepT P C o a D (mixQ P l.toArray C q Q f (s.setIfInBounds i true))) (h' : stepT P C o' a D (mixQ P l.toArray C q Q f (s.setIfInBounds j true))) : mixQ P l.toArray C q Q (f + 1) s a D := by
  refine ⟨by rw [hr]; simp, fun k hk => ?_⟩
  rw [hr] at hk
  have : k = i ∨ k = j := by simpa using hk
  rcases this with rfl | rfl
  · exact ⟨o, at_list ho, by rw [if_neg (by rw [hq]; decide)]; exact ⟨hg, h⟩⟩
  · exact ⟨o', at_list ho', by rw [if_neg (by rw [hq']; decide)]; exact ⟨hg', h'⟩⟩
/-- A read at the place i. -/
theorem qs_plain {i : Nat} {is : List Nat} {o : Oper} {R : Act → Prop} (ho : l[i]? = some o) (hg : o.guard = none) (h : qB P o a C (wpQs P l.toArray C R is)) : wpQs P l.toArray C R (i :: is) a :=
  ⟨o, at_list ho, by rw [if_pos (by simp [Region.wanted, hg])]; exact h⟩
theorem qs_nil {R : Act → Prop} (h : R a) : wpQs P ops C R [] a := h

/-! ### The steps -/
variable {o : Oper} {w : Base} {L x : Blocks} {K : Act → (World → Prop) → Prop}
theorem step_val (h : ∃ v, (∀ W, (execOp a.eval o).run P W = .ok (.value v) W) ∧ K (a.put o.dst v) (Mem w (x ++ L))) : stepT P (Mem w L) o a (Mem w (x ++ L)) K := by
  obtain ⟨v, hr, h⟩ := h
  exact fun W hW => .inl ⟨v, _, W, .inl (hr W), kept_mem w L x, hW, h⟩
theorem step_zero (ty : TypeId) (ho : o.op = .alloc ty) {n : Nat} {f : Nat → Value} (hz : (P.info? ty).map (·.zero) = some (some (.agg (arr n f))))
    (h : ∀ b, w.B ≤ b → K (a.put o.dst (.pointer (some ⟨b, 0, none⟩))) (Mem w (((b, n, f) :: x) ++ L))) : stepT P (Mem w L) o a (Mem w (x ++ L)) K := by
  refine fun W hW => .inl ⟨_, _, _, .inl ?_, kept_mem w L ((W.heap.size, n, f) :: x), hW.alloc ty n f, h _ hW.size⟩
  have hzv : (zeroValue ty).run P W = .ok (.agg (arr n f)) W := by
    cases hq : P.info? ty with
    | none => simp [hq] at hz
    | some i => simp [hq] at hz; simp [zeroValue, typeInfo, hq, hz]
  unfold execOp
  simp only [ho, Instr.alloc, Sem.run_bind, Sem.run_pure, Result.andThen_ok, hzv, newVar, newRow, newObj, Sem.run, Value.cells]
  rfl
theorem step_lay (ty : TypeId) (y z : Operand) (ho : o.op = .store ty y z) (b off : Nat) (hx : a.eval y = .pointer (some ⟨b, off, none⟩))
    (m : Nat) (g : Nat → Value) (hy : a.eval z = .agg (arr m g)) (i : Nat) {n : Nat} {f : Nat → Value} (hi : x[i]? = some (b, n, f)) (hb : w.B ≤ b)
    (hT : RowT P ty m) (hle : off + m ≤ n) (h1 : ∀ k, k < m → (g k).oneCell' = true)
    (h : K (a.put o.dst undef) (Mem w ((x.set i (b, n, lay f off m g)) ++ L))) : stepT P (Mem w L) o a (Mem w (x ++ L)) K := by
  obtain ⟨_, hm⟩ := hT
  have hil : i < x.length := (List.getElem?_eq_some_iff.1 hi).1
  have hi' : (x ++ L)[i]? = some (b, n, f) := by rw [List.getElem?_append_left hil]; exact hi
  intro W hW
  obtain ⟨t, ht⟩ := hW.ats i b n f hi'
  have hs := run_storeCells_at (P := P) b off t (arr m g).toList 0 (arr n f) W ht (by simp [arr_size]; omega) (fun v hv => by
    rw [arr_toList] at hv; simp at hv; obtain ⟨k, hk, rfl⟩ := hv; exact h1 k hk)
  rw [Nat.add_zero, arr_lay hle] at hs
  have hsz : (sizeOf ty).run P W = .ok m W := by
    cases hq : P.info? ty with
    | none => simp [hq] at hm
    | some i => simp [hq] at hm; simp [sizeOf, typeInfo, hq, hm]
  have hset := hW.setRow i hi' hb (lay f off m g)
  rw [List.set_append_left _ _ hil] at hset
  refine .inl ⟨undef, _, _, .inr ⟨?_, rfl⟩, kept_mem w L _, hset, h⟩
  unfold execOp
  simp only [ho, hx, hy, Instr.storeAt, Instr.sureAddr, storeVar, Sem.run_bind, Sem.run_pure, Result.andThen_ok, Value.cells, hsz, arr_size, ne_eq, not_true_eq_false, if_false, hs]

/-- A call that lets lie all that lay. -/
theorem step_call (h : ∃ f args v, (∀ W, (execOp a.eval o).run P W = .ok (.enter f args) W) ∧ (∀ W, Mem w (x ++ L) W → Calls P f args W fun e w' => e = .returned v ∧ Below W.heap.size W w') ∧ K (a.put o.dst v) (Mem w (x ++ L))) : stepT P (Mem w L) o a (Mem w (x ++ L)) K := by
  obtain ⟨f, args, v, hr, hc, h⟩ := h
  exact fun W hW => .inr ⟨f, args, hr W, (hc W hW).mono fun e w' ⟨he, hb⟩ => ⟨v, _, he, kept_mem w L x, hW.call hb, h⟩⟩
/-- A call that hands back what holds a new block. -/
theorem step_call_new {n : Nat} {f : Nat → Value} (vb : Nat → Value) (h : ∃ fn args, (∀ W, (execOp a.eval o).run P W = .ok (.enter fn args) W) ∧ (∀ W, Mem w (x ++ L) W → Calls P fn args W fun e w' => ∃ b, e = .returned (vb b) ∧ W.heap.size ≤ b ∧ At w' b n f ∧ Below W.heap.size W w') ∧
    ∀ b, w.B ≤ b → K (a.put o.dst (vb b)) (Mem w (((b, n, f) :: x) ++ L))) : stepT P (Mem w L) o a (Mem w (x ++ L)) K := by
  obtain ⟨fn, args, hr, hc, h⟩ := h
  refine fun W hW => .inr ⟨fn, args, hr W, (hc W hW).mono fun e w' ⟨b, he, hge, hA, hb⟩ => ⟨vb b, _, he, kept_mem w L ((b, n, f) :: x), ?_, h b (Nat.le_trans hW.size hge)⟩⟩
  have hW' := hW.call hb
  refine ⟨hW'.good, fun i b' n' f' hi => ?_, fun i j p p' hi hj hne => ?_⟩
  · cases i with
    | zero => simp at hi; obtain ⟨rfl, rfl, rfl⟩ := hi; exact hA
    | succ i => exact hW'.ats i b' n' f' (by simpa using hi)
  · have off : ∀ (i : Nat) (p : Nat × Nat × (Nat → Value)), (x ++ L)[i]? = some p → p.1 ≠ b := fun i p h e => by
      have := (hW.ats i p.1 p.2.1 p.2.2 h).lt
      omega
    cases i with
    | zero =>
      cases j with
      | zero => exact absurd rfl hne
      | succ j => simp at hi; rw [← hi]; exact fun e => off j p' (by simpa using hj) e.symm
    | succ i =>
      cases j with
      | zero => simp at hj; rw [← hj]; exact off i p (by simpa using hi)
      | succ j => exact hW'.apart i j p p' (by simpa using hi) (by simpa using hj) (by omega)
/-- A call that hands back what holds more blocks. -/
theorem step_call_more {β : Type} (vb : β → Value) (Bk : β → Blocks) (good : β → Prop) (h : ∃ fn args, (∀ W, (execOp a.eval o).run P W = .ok (.enter fn args) W) ∧ (∀ W, Mem w (x ++ L) W → Calls P fn args W fun e w' => ∃ y, e = .returned (vb y) ∧ good y ∧ Mem w (Bk y ++ (x ++ L)) w') ∧
    ∀ y, good y → K (a.put o.dst (vb y)) (Mem w ((Bk y ++ x) ++ L))) : stepT P (Mem w L) o a (Mem w (x ++ L)) K := by
  obtain ⟨fn, args, hr, hc, h⟩ := h
  exact fun W hW => .inr ⟨fn, args, hr W, (hc W hW).mono fun e w' ⟨y, he, hg, hM⟩ => ⟨vb y, _, he, kept_mem w L (Bk y ++ x), (by rw [List.append_assoc]; exact hM), h y hg⟩⟩
end Go.Proofs.YtbmaljhnldepoaaDoor

/-
  PLAIN LAWS: steps of a region that draws its order: a slice literal, a call that gives a new map, a lookup in it.
-/
namespace Go.Proofs.YtbmaljhnldepoaaDoor
open Go Go.RowKit Go.Maps
variable {P : Program} {C D : World → Prop} {o : Oper} {a : Act} {w : Base} {L x : Blocks} {K : Act → (World → Prop) → Prop}

theorem kept_with (w : Base) (L x : Blocks) (m : Nat) (ob : Obj) (hob : ob.isCells = false) : Kept (Mem w L) (Mem (w.with m ob hob) (x ++ L)) where
  sub := fun W h => (kept_mem w L x).sub W h.less
  on := fun W W' h hb => h.call hb
theorem stepD_val (hk : Kept C D) (h : ∃ v, (∀ W, (execOp a.eval o).run P W = .ok (.value v) W) ∧ K (a.put o.dst v) D) : stepT P C o a D K := by
  obtain ⟨v, hr, h⟩ := h
  exact fun W hW => .inl ⟨v, _, W, .inl (hr W), hk, hW, h⟩
theorem step_slice1 (t e : TypeId) (y : Operand) (ho : o.op = .buildSlice t 1 #[(0, y)]) (m : Nat) (f : Nat → Value) (hx : a.eval y = .agg (arr m f)) (z : Value)
    (hu : P.underlying t = some (.slice e)) (hz : (P.info? e).map (fun i => (i.size, i.zero)) = some (m, some z)) (hm : 0 < m) (hm' : m ≤ 1000)
    (h : ∀ b, w.B ≤ b → K (a.put o.dst (.slice (some ⟨b, 0, none⟩) 1 1)) (Mem w (((b, m, f) :: x) ++ L))) : stepT P (Mem w L) o a (Mem w (x ++ L)) K := by
  obtain ⟨ie, hie, hq⟩ := Option.map_eq_some_iff.1 hz
  simp only [Prod.mk.injEq] at hq
  refine fun W hW => .inl ⟨_, _, _, .inl ?_, kept_mem w L ((W.heap.size, m, f) :: x), hW.alloc e m f, h _ hW.size⟩
  have hf : Instr.fill (fun i => some (i * ie.size, ie.size)) ((Array.range (1 * ie.size)).map (z.cells[· % z.cells.size]!)) (Array.map (fun x => match x with | (i, x) => (i, a.eval x)) #[(0, y)]).toList = some (arr m f) := by
    rw [hq.1]
    rw [show (Array.map (fun x => match x with | (i, x) => (i, a.eval x)) #[(0, y)]).toList = [(0, Value.agg (arr m f))] by simp [hx]]
    obtain ⟨cs, h1, h2, h3⟩ := fill_one (f := f) (place := fun i => some (i * m, m)) (i := 0) (off := 0 * m) (m := m) rfl (cs := (Array.range (1 * m)).map (z.cells[· % z.cells.size]!)) (by simp) []
    rw [h1, Instr.fill]
    refine congrArg some (arr_ext (by rw [h2]; simp) (fun k hk => ?_))
    rw [h3, if_pos (by omega)]; simp
  unfold execOp
  simp only [ho, Sem.run_bind, run_buildSlice W t e 1 _ (arr m f) ie z hu hie hq.2 (by rw [hq.1]; omega) (by rw [hq.1]; omega) hf, Result.andThen_ok]
  rfl
theorem step_call_map (ob : Obj) (hob : ob.isCells = false) (h : ∃ fn args, (∀ W, (execOp a.eval o).run P W = .ok (.enter fn args) W) ∧
    (∀ W, Mem w (x ++ L) W → Calls P fn args W fun e w' => ∃ m, e = .returned (.map (some m)) ∧ W.heap.size ≤ m ∧ Mem ((Base.of W).with m ob hob) [] w') ∧
    ∀ m, w.B ≤ m → K (a.put o.dst (.map (some m))) (Mem (w.with m ob hob) (x ++ L))) : stepT P (Mem w L) o a (Mem w (x ++ L)) K := by
  obtain ⟨fn, args, hr, hc, h⟩ := h
  exact fun W hW => .inr ⟨fn, args, hr W, (hc W hW).mono fun e w' ⟨m, he, hge, hM⟩ => ⟨.map (some m), _, he, kept_with w L x m ob hob, (hW.call hM.good.1).withO hob hM.good.2, h m (Nat.le_trans hW.size hge)⟩⟩
section
variable {T : Type} {kv : T → Value} {ok : T → Prop} {ks : List T} {f : T → Value} {kt et : TypeId} {m : Nat}
theorem stepD_look [DecidableEq T] (hk : Kept C D) (c : Bool) (t : TypeId) (y z : Operand) (ho : o.op = .lookup t y z c) (hx : a.eval y = .map (some m)) (k : T) (hy : a.eval z = kv k)
    (hT : KeyTold P kt kv ok) (ht : P.underlying t = some (.map kt et)) (zv : Value) (hz : ∀ W, (zeroValue et).run P W = .ok zv W) (hm : ∀ W, D W → W.heap[m]? = some (mapO kv ks f)) (hks : ∀ k, k ∈ ks → ok k) (hok : ok k) (v : Value) (hv : (if c then .tuple #[if k ∈ ks then f k else zv, .bool (decide (k ∈ ks))] else if k ∈ ks then f k else zv) = v)
    (h : K (a.put o.dst v) D) : stepT P C o a D K := by
  refine fun W hW => .inl ⟨v, _, W, .inl ?_, hk, hW, h⟩
  have hr := look_map hT ht (hz W) (hm W hW) hks hok c
  rw [hv] at hr
  simp only [execOp, ho, hx, hy, Sem.run_bind, hr, Result.andThen_ok]
  rfl
end
end Go.Proofs.YtbmaljhnldepoaaDoor

/-
  laws.toSpot by contract.
-/
namespace Go.Proofs.YtbmaljhnldepoaaDoor
open Go Go.RowKit Go.BigFrame

set_option maxHeartbeats 400000 in
theorem toSpot_any (f : Nat → Value) (h1 : ∀ k, (f k).oneCell' = true) (w : World) :
    Calls Tryd.prog 17 #[.agg (arr 2 f)] w fun e w' => e = .returned (.agg (arr 2 f)) ∧ Below w.heap.size w w' := by
  have hM := Mem.nil w
  have tk_b1 : True := trivial; have tk_b2 : True := trivial; have tk_b3 : True := trivial
  go_enter Tryd.func17, Tryd.ntmps17
  go_wp2_with (first | (have _t := tk_b1; refine wpList_box rfl _ _ rfl _ _ rfl hM ?_; intro b1 W' hb1 hM'; clear hM tk_b1; have hM := hM'; clear hM') | (have _t := tk_b2; refine wpList_zero rfl _ rfl (zeroTab _ _ _ rfl) hM ?_; intro b2 W' hb2 hM'; clear hM tk_b2; have hM := hM'; clear hM') | (have _t := tk_b3; refine wpList_zero rfl _ rfl (zeroTab _ _ _ rfl) hM ?_; intro b3 W' hb3 hM'; clear hM tk_b3; have hM := hM'; clear hM') | (refine wpList_get1 rfl _ _ rfl _ _ rfl hM 2 rfl (cellTab _ rfl) (by omega) _ rfl ?_) | (refine wpList_set1 rfl _ _ _ rfl _ _ rfl _ rfl ?_ hM 0 rfl (by assumption) (cellTab _ rfl) (by omega) ?_; (first | rfl | exact h1 _); intro W' hM'; clear hM; have hM := hM'; clear hM'; simp [List.set, Act.eval] at hM) | (refine wpList_get rfl _ _ rfl _ _ rfl hM 0 rfl (rowTab _ _ rfl) (by omega) ?_) | (refine wpList_lay rfl _ _ _ rfl _ _ rfl _ _ rfl hM 1 rfl (by assumption) (rowTab _ _ rfl) (by omega) ?_ ?_; (first | (intro _ _; rfl) | (intro k _; exact h1 _) | (intro k _; simp only [lay, upd]; (repeat' split) <;> first | exact h1 _ | rfl)); intro W' hM'; clear hM; have hM := hM'; clear hM'; simp only [List.set] at hM))
  have hA := (hM.ats 1 _ _ _ rfl).congr (g := f) (fun k hk => by
    rcases (show k = 0 ∨ k = 1 by omega) with rfl | rfl <;> rfl)
  exact bodyPost_ret (results_at rfl _ rfl hA (rowTab _ _ rfl)) rfl ⟨rfl, hM.below⟩

end Go.Proofs.YtbmaljhnldepoaaDoor

/-
  (impl.Pasture).sameYard, impl.SameYard by contracts; laws.FnExactSameYard returns true.
-/
namespace Go.Proofs.YtbmaljhnldepoaaDoor
open Go Go.RowKit Go.BigFrame Go.Maps

theorem found_good {g : Nat → Int} (ho : okB g = true) {x y : Nat} (hx : x ≤ 9) (hy : y ≤ 9) : (foundOf (nbOf g) ((x : Int), (y : Int))).Good In10 := by
  have h := good_at (nb := nbOf g) (good_0 (c := In10) (a := ((x : Int), (y : Int))) ⟨by show (0 : Int) ≤ x; omega, by show (x : Int) ≤ 9; omega, by show (0 : Int) ≤ y; omega, by show (y : Int) ≤ 9; omega⟩) (fun k hk n hn => nb_in ho hn) 100
  unfold foundOf; exact h
theorem same_mem {g : Nat → Int} (ho : okB g = true) {x y : Nat} (hx : x ≤ 9) (hy : y ≤ 9) (b : Int × Int) : decide (b ∈ (foundOf (nbOf g) ((x : Int), (y : Int))).q) = sameB g ((x : Int), (y : Int)) b := by
  have hG := found_good ho hx hy
  unfold sameB
  have h1 := hG.mem b
  have h2 := hG.low b
  rw [Bool.eq_iff_iff, decide_eq_true_eq, decide_eq_true_eq, h1]
  omega

theorem askC2_cases (g : Nat → Int) (x y u v : Int) : (okB g = false ∧ askC g x y (isB g u v) = 1) ∨ (okB g = true ∧ allB g (fun k => if k = 0 then (x, y) else (u, v)) 2 = false ∧ askC g x y (isB g u v) = 2) ∨ (okB g = true ∧ allB g (fun k => if k = 0 then (x, y) else (u, v)) 2 = true ∧ isB g x y = true ∧ isB g u v = true ∧ askC g x y (isB g u v) = 0) := by
  have e : allB g (fun k => if k = 0 then (x, y) else (u, v)) 2 = (isB g x y && isB g u v) := by simp [allB, List.range_succ]
  rw [e]
  unfold askC
  cases okB g <;> cases isB g x y <;> cases isB g u v <;> simp
theorem sp_two (x y u v : Int) : ∀ k, k < 2 * 2 → (if k < 2 then sp x y (0 + k) else sp u v (0 + (k - 2))) = sps (fun k => if k = 0 then (x, y) else (u, v)) k := fun k hk => by
  rcases (show k = 0 ∨ k = 1 ∨ k = 2 ∨ k = 3 by omega) with rfl | rfl | rfl | rfl <;> rfl

theorem toSpot_sp (x y : Int) (w : World) : Calls Tryd.prog 17 #[.agg (arr 2 (sp x y))] w fun e w' => e = .returned (.agg (arr 2 (sp x y))) ∧ Below w.heap.size w w' := toSpot_any _ (fun _ => rfl) w
end Go.Proofs.YtbmaljhnldepoaaDoor

