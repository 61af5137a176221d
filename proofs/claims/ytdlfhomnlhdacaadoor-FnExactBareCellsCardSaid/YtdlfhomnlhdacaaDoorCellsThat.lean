/-
  (impl.Pasture).cellsThat by contract: all cells of which something holds, told by a closure.
-/
import Derived.Test.YtdlfhomnlhdacaaDoorLists
import Derived.Test.YtdlfhomnlhdacaaDoorSpotS
import Derived.Test.YtdlfhomnlhdacaaDoorCells
import Derived.Test.YtdlfhomnlhdacaaDoorListN
import Derived.Test.YtdlfhomnlhdacaaDoorRangeL
import Derived.Test.YtdlfhomnlhdacaaDoorNeq
namespace Go.Proofs.YtdlfhomnlhdacaaDoor
open Go Go.RowKit Go.Shelf Go.BigFrame

theorem fn_cell : CellT Tryd.prog 101 := ⟨⟨_, Tryd.underlying101, rfl⟩, by kernel_rfl⟩
theorem thatF_yes {p : Nat → Nat → Bool} {W H : Nat} (pre : List (Cell W H)) (c : Cell W H) (hz : p c.1.1 c.1.2 = true) : thatF p ((pre ++ [c]).map (·.1)) = thatF p (pre.map (·.1)) ++ [c.1] := by
  simp [thatF, hz]
theorem thatF_no {p : Nat → Nat → Bool} {W H : Nat} (pre : List (Cell W H)) (c : Cell W H) (hz : p c.1.1 c.1.2 = false) : thatF p ((pre ++ [c]).map (·.1)) = thatF p (pre.map (·.1)) := by
  simp [thatF, hz]

set_option maxRecDepth 100000 in
set_option maxHeartbeats 4000000 in
theorem cellsThat_any (g : Nat → Int) (hg : Fits g) (W H : Nat) (hW : W ≤ 10) (hH : H ≤ 10) (hg0 : g 0 = W) (hg1 : g 1 = H) {gf : Nat} {lb : Array Value} (eg : ∀ args w, (callFunc gf args).run Tryd.prog w = .ok (.enter gf args) w) (p : Nat → Nat → Bool) (w : World)
    (hcl : ∀ X, Below w.heap.size w X → ∀ u v : Nat, u < W → v < H → Calls Tryd.prog gf (#[.agg (arr 2 (sp (u : Int) (v : Int)))] ++ lb) X fun e w' => e = .returned (.bool (p u v)) ∧ Below X.heap.size X w') :
    Calls Tryd.prog 80 #[.agg (arr 122 (pas g)), .func (.func gf) #[] lb] w (Gives1 w (thatF p (upto W (W * H)))) := by
  have hM := Mem.nil w
  have Hcl := Lib.hid hcl
  clear hcl
  refine (callsIn_wide (n := 3)).1 ?_
  refine callsIn_of_wp_marks Tryd.func80 rfl trivial ?_ rfl
  simp only [Tryd.ntmps80, List.size_toArray, List.length_cons, List.length_nil, Nat.reduceAdd, Nat.reduceSub, Array.replicate_succ, Array.replicate_zero, List.push_toArray, List.append_toArray, List.nil_append, List.cons_append]
  refine wpIn_wide.2 ?_
  have tk_b1 : True := trivial; have tk_c1 : True := trivial; have tk_b2 : True := trivial; have tk_q2 : True := trivial
  go_wp2_with (first | (have _t := tk_b1; refine wpList_box rfl _ _ rfl _ _ rfl hM ?_; intro b1 W' hb1 hM'; clear hM tk_b1; have hM := hM'; clear hM') | (have _t := tk_c1; refine wpList_box1 rfl _ _ rfl (.func (.func gf) #[] lb) rfl rfl hM ?_; intro c1 W' hc1 hM'; clear hM tk_c1; have hM := hM'; clear hM') | (have _t := tk_b2; refine wpList_zero1 rfl _ rfl spots_zero rfl hM ?_; intro b2 W' hb2 hM'; clear hM tk_b2; have hM := hM'; clear hM') | (have _t := tk_q2; (refine wpList_get rfl _ _ rfl _ _ rfl hM 2 rfl (rowTab _ _ rfl) (by omega) ?_); clear tk_q2))
  refine (cells_any g _).mono ?_
  rintro e W1 ⟨bp, rfl, hbp, hAp, hcb⟩
  have hM2 := Mem.fresh hM hcb hAp hbp
  simp only [List.cons_append, List.nil_append] at hM2
  clear hM hcb hbp
  go_wp2
  refine (wpIn_wide (n := 3)).1 ?_
  refine range_rel (α := Cell W H) (px := fun c => (c.1.1 : Int)) (py := fun c => (c.1.2 : Int)) (gf := 88) (lb := #[.pointer (some ⟨bp, 0, none⟩)])
    (fun pre => VarL w.heap.size b2 [(c1, 1, fun _ => .func (.func gf) #[] lb), (b1, 122, pas g), (bp, 122, pas g)] 2 (thatF p (pre.map (·.1))).length (sps (sL (thatF p (pre.map (·.1)))))) [(b2, 1, fun _ => .slice none 0 0), (c1, 1, fun _ => .func (.func gf) #[] lb), (b1, 122, pas g), (bp, 122, pas g)]
    rfl (enters_of Tryd.func88 (by kernel_rfl) rfl) (cells_stops Fence.wide 2 trivial rfl (by omega) bp W H hW hH _ hg0 hg1 W1 hAp) kpP_t (fun X l o o' h ho => kpP_b X l o o' h ho)
    (fun _ _ _ _ _ _ _ h h' hm hm' => varL_det h h' hm hm') (fun _ _ _ _ _ _ _ _ h' _ hm' _ => (varL_mem h' hm').ats 2 _ _ _ rfl) rfl rfl rfl rfl rfl rfl (by decide) (by simp) (by simp) (.inl ⟨rfl, rfl⟩) hM2 ?body ?done
  case body =>
    intro l pre x bx X Bs hbx hI hM hlen
    clear hM2
    have hl : (thatF p (pre.map (·.1))).length ≤ 1048576 := by
      have h1 := thatF_len (p := p) (l := pre.map (·.1))
      rw [List.length_map] at h1
      have h2 := Nat.mul_le_mul hW hH
      omega
    have hys := fun hz => thatF_yes (p := p) pre x hz
    have hno := fun hz => thatF_no (p := p) pre x hz
    obtain ⟨⟨u, v⟩, hu, hv⟩ := x
    simp only at hu hv hM hys hno
    have b_u : u < 10 := by omega
    have b_v : v < 10 := by omega
    rcases hI with ⟨hn, rfl⟩ | ⟨b, c, F, hb, hnc, hF, rfl⟩
    · by_cases hz : p u v = true
      · have Hy := Lib.hid (hys hz)
        have Hz := Lib.hid hz
        have Hq : Hid (∀ q, q < 2 → sp (u : Int) (v : Int) (0 + q) = sps (sL (thatF p (pre.map (·.1)) ++ [(u, v)])) q) := Lib.hid (fun q hq => by have := sps_new (thatF p (pre.map (·.1))) u v hq; rw [hn, Nat.zero_mul, Nat.zero_add] at this; rw [Nat.zero_add]; exact this)
        clear hys hno hz
        refine wpIn_block (wpIn_seq (region_round (fun ⟨_, _, h⟩ => h) rfl ?_))
        have tk_r1 : True := trivial; have tk_r2 : True := trivial; have tk_r3 : True := trivial; have tk_r4 : True := trivial; have tk_b3 : True := trivial; have tk_p1 : True := trivial
        go_wp2_with (first | (go_at_fn gf; have hgd := hM.good.1; (with_reducible refine (Hcl.out _ hgd u v hu hv).mono ?_); clear hgd; rintro e W' ⟨rfl, hb'⟩; rw [Hz.out]; have hM' := hM.call hb'; clear hM hb'; have hM := hM'; clear hM') | (have _t := tk_r1; (refine wpList_get1 rfl _ _ rfl _ _ rfl hM 2 rfl fn_cell (by omega) _ rfl ?_); clear tk_r1) | (have _t := tk_r2; (refine wpList_get rfl _ _ rfl _ _ rfl hM 0 rfl (rowTab _ _ rfl) (by omega) ?_); clear tk_r2))
        refine wpIn_cond_true rfl (region_round (fun ⟨_, _, h⟩ => h) rfl ?_)
        go_wp2_with (first | (have _t := tk_r3; (refine wpList_get1 rfl _ _ rfl _ _ rfl hM 1 rfl spots_cell (by omega) _ rfl ?_); clear tk_r3) | (have _t := tk_r4; (refine wpList_get rfl _ _ rfl _ _ rfl hM 0 rfl (rowTab _ _ rfl) (by omega) ?_); clear tk_r4) | (have _t := tk_b3; refine wpList_slice1 rfl _ _ _ rfl _ _ rfl _ spot_under spot_info (by omega) (by omega) hM ?_; intro b3 W' hb3 hM'; clear hM tk_b3; have hM := hM'; clear hM') | (have _t := tk_p1; refine wpList_push0 rfl _ _ _ rfl _ 2 _ _ spot_under spot_infoB rfl (by omega) rfl _ _ rfl hM (sps (sL (thatF p (pre.map (·.1)) ++ [(u, v)]))) Hq.out ?_; intro bL cL FL W' hbL hcL hFL hM'; clear hM tk_p1; have hM := hM'; clear hM') | (refine wpList_set1 rfl _ _ _ rfl _ _ rfl _ rfl rfl hM 2 rfl (by assumption) spots_cell (by omega) ?_; intro W' hM'; clear hM; have hM := hM'; clear hM'; simp [List.set, Act.eval] at hM))
        show ∃ Bs, _ ∧ Mem _ Bs _
        have hM' := hM.re 2 rfl (fun _ => .slice (some ⟨bL, 0, none⟩) 1 cL) (fun k hk => by
          obtain rfl : k = 0 := by omega
          rfl)
        simp only [List.set] at hM'
        refine ⟨_, ?_, hM'.skip⟩
        rw [Hy.out, List.length_append, hn]
        exact .inr ⟨bL, cL, FL, hbL, hcL, hFL, rfl⟩
      · have hz' : p u v = false := by simpa using hz
        have Hy := Lib.hid (hno hz')
        have Hz := Lib.hid hz'
        clear hys hno hz hz'
        refine wpIn_block (wpIn_seq (region_round (fun ⟨_, _, h⟩ => h) rfl ?_))
        have tk_r1 : True := trivial; have tk_r2 : True := trivial
        go_wp2_with (first | (go_at_fn gf; have hgd := hM.good.1; (with_reducible refine (Hcl.out _ hgd u v hu hv).mono ?_); clear hgd; rintro e W' ⟨rfl, hb'⟩; rw [Hz.out]; have hM' := hM.call hb'; clear hM hb'; have hM := hM'; clear hM') | (have _t := tk_r1; (refine wpList_get1 rfl _ _ rfl _ _ rfl hM 2 rfl fn_cell (by omega) _ rfl ?_); clear tk_r1) | (have _t := tk_r2; (refine wpList_get rfl _ _ rfl _ _ rfl hM 0 rfl (rowTab _ _ rfl) (by omega) ?_); clear tk_r2))
        refine wpIn_cond_false rfl (wpIn_skip ?_)
        show ∃ Bs, _ ∧ Mem _ Bs _
        refine ⟨_, ?_, hM.drop⟩
        rw [Hy.out, hn]
        exact .inl ⟨rfl, rfl⟩
    · have hM' := hM.swap
      clear hM
      have hM := hM'
      clear hM'
      by_cases hz : p u v = true
      · have Hy := Lib.hid (hys hz)
        have Hz := Lib.hid hz
        have Hq : Hid (∀ q, q < 2 → sp (u : Int) (v : Int) (0 + q) = sps (sL (thatF p (pre.map (·.1)) ++ [(u, v)])) ((thatF p (pre.map (·.1))).length * 2 + q)) := Lib.hid (fun q hq => by rw [Nat.zero_add]; exact sps_new (thatF p (pre.map (·.1))) u v hq)
        have Hf : Hid (∀ q, q < (thatF p (pre.map (·.1))).length * 2 → F q = sps (sL (thatF p (pre.map (·.1)) ++ [(u, v)])) q) := Lib.hid (fun q hq => by rw [hF q hq]; exact sps_old _ hq)
        clear hys hno hz hF
        refine wpIn_block (wpIn_seq (region_round (fun ⟨_, _, h⟩ => h) rfl ?_))
        have tk_r1 : True := trivial; have tk_r2 : True := trivial; have tk_r3 : True := trivial; have tk_r4 : True := trivial; have tk_b3 : True := trivial; have tk_p1 : True := trivial
        go_wp2_with (first | (go_at_fn gf; have hgd := hM.good.1; (with_reducible refine (Hcl.out _ hgd u v hu hv).mono ?_); clear hgd; rintro e W' ⟨rfl, hb'⟩; rw [Hz.out]; have hM' := hM.call hb'; clear hM hb'; have hM := hM'; clear hM') | (have _t := tk_r1; (refine wpList_get1 rfl _ _ rfl _ _ rfl hM 3 rfl fn_cell (by omega) _ rfl ?_); clear tk_r1) | (have _t := tk_r2; (refine wpList_get rfl _ _ rfl _ _ rfl hM 1 rfl (rowTab _ _ rfl) (by omega) ?_); clear tk_r2))
        refine wpIn_cond_true rfl (region_round (fun ⟨_, _, h⟩ => h) rfl ?_)
        go_wp2_with (first | (have _t := tk_r3; (refine wpList_get1 rfl _ _ rfl _ _ rfl hM 2 rfl spots_cell (by omega) _ rfl ?_); clear tk_r3) | (have _t := tk_r4; (refine wpList_get rfl _ _ rfl _ _ rfl hM 1 rfl (rowTab _ _ rfl) (by omega) ?_); clear tk_r4) | (have _t := tk_b3; refine wpList_slice1 rfl _ _ _ rfl _ _ rfl _ spot_under spot_info (by omega) (by omega) hM ?_; intro b3 W' hb3 hM'; clear hM tk_b3; have hM := hM'; clear hM') | (have _t := tk_p1; refine wpList_push1 rfl _ _ _ rfl _ 2 _ _ spot_under spot_infoB rfl (by omega) _ _ _ _ rfl hb hnc hl _ _ rfl sp_one0 hM (sps (sL (thatF p (pre.map (·.1)) ++ [(u, v)]))) Hf.out Hq.out ?_; intro bL cL FL W' hbL hcL hFL hM'; clear hM tk_p1; have hM := hM'; clear hM') | (refine wpList_set1 rfl _ _ _ rfl _ _ rfl _ rfl rfl hM 2 rfl (by assumption) spots_cell (by omega) ?_; intro W' hM'; clear hM; have hM := hM'; clear hM'; simp [List.set, Act.eval] at hM))
        show ∃ Bs, _ ∧ Mem _ Bs _
        have hM' := hM.re 2 rfl (fun _ => .slice (some ⟨bL, 0, none⟩) ((thatF p (pre.map (·.1))).length + 1) cL) (fun k hk => by
          obtain rfl : k = 0 := by omega
          rfl)
        simp only [List.set] at hM'
        refine ⟨_, ?_, hM'.skip⟩
        have Hy2 : thatF p (pre.map (·.1) ++ [(u, v)]) = thatF p (pre.map (·.1)) ++ [(u, v)] := by
          have := Hy.out
          rwa [List.map_append, List.map_singleton] at this
        rw [Hy2, List.length_append]
        exact .inr ⟨bL, cL, FL, hbL, hcL, hFL, rfl⟩
      · have hz' : p u v = false := by simpa using hz
        have Hy := Lib.hid (hno hz')
        have Hz := Lib.hid hz'
        clear hys hno hz hz'
        refine wpIn_block (wpIn_seq (region_round (fun ⟨_, _, h⟩ => h) rfl ?_))
        have tk_r1 : True := trivial; have tk_r2 : True := trivial
        go_wp2_with (first | (go_at_fn gf; have hgd := hM.good.1; (with_reducible refine (Hcl.out _ hgd u v hu hv).mono ?_); clear hgd; rintro e W' ⟨rfl, hb'⟩; rw [Hz.out]; have hM' := hM.call hb'; clear hM hb'; have hM := hM'; clear hM') | (have _t := tk_r1; (refine wpList_get1 rfl _ _ rfl _ _ rfl hM 3 rfl fn_cell (by omega) _ rfl ?_); clear tk_r1) | (have _t := tk_r2; (refine wpList_get rfl _ _ rfl _ _ rfl hM 1 rfl (rowTab _ _ rfl) (by omega) ?_); clear tk_r2))
        refine wpIn_cond_false rfl (wpIn_skip ?_)
        show ∃ Bs, _ ∧ Mem _ Bs _
        refine ⟨_, ?_, hM.skip⟩
        rw [Hy.out]
        exact .inr ⟨b, c, F, hb, hnc, hF, rfl⟩
  case done =>
    rename_i K7 hK7
    intro D xs X Bs hD hS hI hM hK
    have hsz : w.heap.size ≤ W1.heap.size := hM2.size
    clear hM2
    rw [hS] at hI
    have hM' : Mem (Base.round w W1.heap.size X) Bs X := hM.base ⟨hM.below, KeepsFrom.refl _ _⟩
    clear hM
    have hM := hM'
    clear hM'
    show K7 _ _
    refine hK7 _ _ ?_
    dsimp only
    rcases hI with ⟨hn, rfl⟩ | ⟨b, c, F, hb, hnc, hF, rfl⟩
    · go_wp2_with (first | (refine wpList_get1 rfl _ _ rfl _ _ rfl hM 0 rfl spots_cell (by omega) _ rfl ?_))
      have hK' := hM.good.2.same D _ hD hK rfl
      refine leave_marks hK' _ (by rw [results_tmp rfl]) ?_
      exact ⟨_, rfl, .inl ⟨rfl, hn, Mem.start (below_mark hM.good.1 (Nat.le_trans hsz hD))⟩⟩
    · go_wp2_with (first | (refine wpList_get1 rfl _ _ rfl _ _ rfl hM 1 rfl spots_cell (by omega) _ rfl ?_))
      have hK' := hM.good.2.same D _ hD hK rfl
      refine leave_marks hK' _ (by rw [results_tmp rfl]) ?_
      refine ⟨_, rfl, .inr ⟨b, c, F, rfl, hb, hnc, hF, ?_⟩⟩
      exact (Mem.start (w := Base.of w) (below_mark hM.good.1 (Nat.le_trans hsz hD))).old (at_mark hM.at0 hK') (fun i p h => by simp at h)
end Go.Proofs.YtdlfhomnlhdacaaDoor
