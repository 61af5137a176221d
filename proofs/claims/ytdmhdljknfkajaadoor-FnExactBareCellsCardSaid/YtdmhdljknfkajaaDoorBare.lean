/-
  impl.BareCells by contract.
-/
import Derived.Test.YtdmhdljknfkajaaDoorBareSpec
import Derived.Test.YtdmhdljknfkajaaDoorRangeL
import Derived.Test.YtdmhdljknfkajaaDoorNeq
namespace Go.Proofs.YtdmhdljknfkajaaDoor
open Go Go.RowKit Go.Shelf Go.BigFrame

def bareF (g : Nat → Int) (l : List (Nat × Nat)) : List (Nat × Nat) := l.filter fun s => decide (g (2 + s.2 * 10 + s.1) = 0)
theorem bareF_yes {g : Nat → Int} {W H : Nat} (pre : List (Cell W H)) (c : Cell W H) (hz : g (2 + c.1.2 * 10 + c.1.1) = 0) : bareF g ((pre ++ [c]).map (·.1)) = bareF g (pre.map (·.1)) ++ [c.1] := by
  simp [bareF, hz]
theorem bareF_no {g : Nat → Int} {W H : Nat} (pre : List (Cell W H)) (c : Cell W H) (hz : ¬ g (2 + c.1.2 * 10 + c.1.1) = 0) : bareF g ((pre ++ [c]).map (·.1)) = bareF g (pre.map (·.1)) := by
  simp [bareF, hz]
theorem bareF_len {g : Nat → Int} {l : List (Nat × Nat)} : (bareF g l).length ≤ l.length := List.length_filter_le _ _

theorem sp_one0 {x y : Int} : ∀ k, k < 2 → (sp x y (0 + k)).oneCell' = true := fun k hk => by rw [Nat.zero_add]; exact sp_one k hk
theorem spots_cell : CellT Tryd.prog 36 := ⟨⟨_, spot_under, rfl⟩, by kernel_rfl⟩
theorem spots_zero : (Tryd.prog.info? 36).map (·.zero) = some (some (.slice none 0 0)) := by kernel_rfl

set_option maxRecDepth 100000 in
set_option maxHeartbeats 2000000 in
theorem implBareCells_any {a : Nat → Addr} (g : Nat → Int) (hg : Fits g) (w : World) (hE : Errs a w) :
    Calls Tryd.prog 23 #[.agg (arr 122 (pas g))] w (GivesS w (bareOf g) (bareC g)) := by
  have hM := Mem.nil w
  have HE := Lib.hid hE
  clear hE
  cases ho : okB g
  · have e1 : bareOf g = [] := by simp [bareOf, ho]
    have e2 : bareC g = 1 := by simp [bareC, ho]
    rw [e1, e2]
    have Ho : Hid (validB g = false) := Lib.hid (by rw [← okB_eq]; exact ho)
    clear ho e1 e2
    have tk_b1 : True := trivial
    go_enter Tryd.func23, Tryd.ntmps23
    go_wp2_with (first | (have _t := tk_b1; refine wpList_box rfl _ _ rfl _ _ rfl hM ?_; intro b1 W' hb1 hM'; clear hM tk_b1; have hM := hM'; clear hM') | (refine wpList_get rfl _ _ rfl _ _ rfl hM 0 rfl (rowTab _ _ rfl) (by omega) ?_) | (go_at_call 46; (with_reducible refine (checkCells_bad g hg _ _ (HE.out.below hM.below) Ho.out).mono ?_); rintro e W' ⟨rfl, hb'⟩; have hM' := hM.call hb'; clear hM hb'; have hM := hM'; clear hM') | (go_at_call 47; (with_reducible refine (codeOf_0 (HE.out.below hM.below)).mono ?_); rintro e W' ⟨rfl, rfl⟩))
    go_ret2
    exact ⟨_, rfl, .inl ⟨rfl, rfl, Mem.start hM.good⟩⟩
  have Ho : Hid (validB g = true) := Lib.hid (by rw [← okB_eq]; exact ho)
  have ho' := ho
  unfold okB at ho'
  rw [Bool.and_eq_true, Bool.and_eq_true] at ho'
  have i0 := inB_true ho'.1.1
  have i1 := inB_true ho'.1.2
  obtain ⟨W, hg0⟩ : ∃ W : Nat, g 0 = W := ⟨(g 0).toNat, by omega⟩
  obtain ⟨H, hg1⟩ : ∃ H : Nat, g 1 = H := ⟨(g 1).toNat, by omega⟩
  have hW : W ≤ 10 := by omega
  have hH : H ≤ 10 := by omega
  have e1 : bareOf g = bareF g (upto W (W * H)) := by simp [bareOf, bareF, bareL, ho, hg0, hg1]
  have e2 : bareC g = 0 := by simp [bareC, ho]
  rw [e1, e2]
  clear ho ho' e1 e2 i0 i1
  refine (callsIn_wide (n := 3)).1 ?_
  refine callsIn_of_wp_marks Tryd.func23 rfl trivial ?_ rfl
  simp only [Tryd.ntmps23, List.size_toArray, List.length_cons, List.length_nil, Nat.reduceAdd, Nat.reduceSub, Array.replicate_succ, Array.replicate_zero, List.push_toArray, List.append_toArray, List.nil_append, List.cons_append]
  refine wpIn_wide.2 ?_
  have tk_b1 : True := trivial; have tk_b2 : True := trivial; have tk_q1 : True := trivial; have tk_q2 : True := trivial
  go_wp2_with (first | (have _t := tk_b1; refine wpList_box rfl _ _ rfl _ _ rfl hM ?_; intro b1 W' hb1 hM'; clear hM tk_b1; have hM := hM'; clear hM') | (have _t := tk_q1; (refine wpList_get rfl _ _ rfl _ _ rfl hM 0 rfl (rowTab _ _ rfl) (by omega) ?_); clear tk_q1) | (go_at_call 46; (with_reducible refine (checkCells_nil g hg _ Ho.out).mono ?_); rintro e W' ⟨rfl, hb'⟩; have hM' := hM.call hb'; clear hM hb'; have hM := hM'; clear hM') | (have _t := tk_b2; refine wpList_zero1 rfl _ rfl spots_zero rfl hM ?_; intro b2 W' hb2 hM'; clear hM tk_b2; have hM := hM'; clear hM') | (have _t := tk_q2; (refine wpList_get rfl _ _ rfl _ _ rfl hM 1 rfl (rowTab _ _ rfl) (by omega) ?_); clear tk_q2))
  refine (cells_any g _).mono ?_
  rintro e W1 ⟨bp, rfl, hbp, hAp, hcb⟩
  have hM2 := Mem.fresh hM hcb hAp hbp
  simp only [List.cons_append, List.nil_append] at hM2
  clear hM hcb hbp
  go_wp2
  refine (wpIn_wide (n := 3)).1 ?_
  refine range_rel (α := Cell W H) (px := fun c => (c.1.1 : Int)) (py := fun c => (c.1.2 : Int)) (gf := 79) (lb := #[.pointer (some ⟨bp, 0, none⟩)])
    (fun pre => VarL w.heap.size b2 [(b1, 122, pas g), (bp, 122, pas g)] 2 (bareF g (pre.map (·.1))).length (sps (sL (bareF g (pre.map (·.1)))))) [(b2, 1, fun _ => .slice none 0 0), (b1, 122, pas g), (bp, 122, pas g)]
    rfl (enters_of Tryd.func79 (by kernel_rfl) rfl) (cells_stops Fence.wide 2 trivial rfl (by omega) bp W H hW hH _ hg0 hg1 W1 hAp) kpP_t (fun X l o o' h ho => kpP_b X l o o' h ho)
    (fun _ _ _ _ _ _ _ h h' hm hm' => varL_det h h' hm hm') (fun _ _ _ _ _ _ _ _ h' _ hm' _ => (varL_mem h' hm').ats 1 _ _ _ rfl) rfl rfl rfl rfl rfl rfl (by decide) (by simp) (by simp) (.inl ⟨rfl, rfl⟩) hM2 ?body ?done
  case body =>
    intro l pre x bx X Bs hbx hI hM hlen
    clear hM2
    have hl : (bareF g (pre.map (·.1))).length ≤ 1048576 := by
      have h1 := bareF_len (g := g) (l := pre.map (·.1))
      rw [List.length_map] at h1
      have h2 := Nat.mul_le_mul hW hH
      omega
    have hys := fun hz => bareF_yes (g := g) pre x hz
    have hno := fun hz => bareF_no (g := g) pre x hz
    obtain ⟨⟨u, v⟩, hu, hv⟩ := x
    simp only at hu hv hM hys hno
    have b_u : u < 10 := by omega
    have b_v : v < 10 := by omega
    rcases hI with ⟨hn, rfl⟩ | ⟨b, c, F, hb, hnc, hF, rfl⟩
    · by_cases hz : g (2 + v * 10 + u) = 0
      · have Hy := Lib.hid (hys hz)
        have Hz := Lib.hid hz
        have Hq : Hid (∀ q, q < 2 → sp (u : Int) (v : Int) (0 + q) = sps (sL (bareF g (pre.map (·.1)) ++ [(u, v)])) q) := Lib.hid (fun q hq => by have := sps_new (bareF g (pre.map (·.1))) u v hq; rw [hn, Nat.zero_mul, Nat.zero_add] at this; rw [Nat.zero_add]; exact this)
        clear hys hno hz
        refine wpIn_block (wpIn_seq (region_round (fun ⟨_, _, h⟩ => h) rfl ?_))
        have tk_r1 : True := trivial; have tk_r2 : True := trivial; have tk_r3 : True := trivial; have tk_r4 : True := trivial; have tk_b3 : True := trivial; have tk_p1 : True := trivial
        go_wp2_with (first | (go_at_call 58; (with_reducible refine (grassAt_any g hg u v b_u b_v _).mono ?_); rintro e W' ⟨rfl, hb'⟩; rw [Hz.out]; have hM' := hM.call hb'; clear hM hb'; have hM := hM'; clear hM') | (have _t := tk_r1; (refine wpList_get rfl _ _ rfl _ _ rfl hM 2 rfl (rowTab _ _ rfl) (by omega) ?_); clear tk_r1) | (have _t := tk_r2; (refine wpList_get rfl _ _ rfl _ _ rfl hM 0 rfl (rowTab _ _ rfl) (by omega) ?_); clear tk_r2))
        refine wpIn_cond_true rfl (region_round (fun ⟨_, _, h⟩ => h) rfl ?_)
        go_wp2_with (first | (have _t := tk_r3; (refine wpList_get1 rfl _ _ rfl _ _ rfl hM 1 rfl spots_cell (by omega) _ rfl ?_); clear tk_r3) | (have _t := tk_r4; (refine wpList_get rfl _ _ rfl _ _ rfl hM 0 rfl (rowTab _ _ rfl) (by omega) ?_); clear tk_r4) | (have _t := tk_b3; refine wpList_slice1 rfl _ _ _ rfl _ _ rfl _ spot_under spot_info (by omega) (by omega) hM ?_; intro b3 W' hb3 hM'; clear hM tk_b3; have hM := hM'; clear hM') | (have _t := tk_p1; refine wpList_push0 rfl _ _ _ rfl _ 2 _ _ spot_under spot_infoB rfl (by omega) rfl _ _ rfl hM (sps (sL (bareF g (pre.map (·.1)) ++ [(u, v)]))) Hq.out ?_; intro bL cL FL W' hbL hcL hFL hM'; clear hM tk_p1; have hM := hM'; clear hM') | (refine wpList_set1 rfl _ _ _ rfl _ _ rfl _ rfl rfl hM 2 rfl (by assumption) spots_cell (by omega) ?_; intro W' hM'; clear hM; have hM := hM'; clear hM'; simp [List.set, Act.eval] at hM))
        show ∃ Bs, _ ∧ Mem _ Bs _
        have hM' := hM.re 2 rfl (fun _ => .slice (some ⟨bL, 0, none⟩) 1 cL) (fun k hk => by
          obtain rfl : k = 0 := by omega
          rfl)
        simp only [List.set] at hM'
        refine ⟨_, ?_, hM'.skip⟩
        rw [Hy.out, List.length_append, hn]
        exact .inr ⟨bL, cL, FL, hbL, hcL, hFL, rfl⟩
      · have Hy := Lib.hid (hno hz)
        have dz : (g (2 + v * 10 + u) == 0) = false := by simp [hz]
        clear hys hno
        refine wpIn_block (wpIn_seq (region_round (fun ⟨_, _, h⟩ => h) rfl ?_))
        have tk_r1 : True := trivial; have tk_r2 : True := trivial
        go_wp2_with (first | (go_at_call 58; (with_reducible refine (grassAt_any g hg u v b_u b_v _).mono ?_); rintro e W' ⟨rfl, hb'⟩; have hM' := hM.call hb'; clear hM hb'; have hM := hM'; clear hM') | (have _t := tk_r1; (refine wpList_get rfl _ _ rfl _ _ rfl hM 2 rfl (rowTab _ _ rfl) (by omega) ?_); clear tk_r1) | (have _t := tk_r2; (refine wpList_get rfl _ _ rfl _ _ rfl hM 0 rfl (rowTab _ _ rfl) (by omega) ?_); clear tk_r2))
        refine wpIn_cond_false rfl (wpIn_skip ?_)
        show ∃ Bs, _ ∧ Mem _ Bs _
        refine ⟨_, ?_, hM.drop⟩
        rw [Hy.out, hn]
        exact .inl ⟨rfl, rfl⟩
    · have hM' := hM.swap
      clear hM
      have hM := hM'
      clear hM'
      by_cases hz : g (2 + v * 10 + u) = 0
      · have Hy := Lib.hid (hys hz)
        have Hz := Lib.hid hz
        have Hq : Hid (∀ q, q < 2 → sp (u : Int) (v : Int) (0 + q) = sps (sL (bareF g (pre.map (·.1)) ++ [(u, v)])) ((bareF g (pre.map (·.1))).length * 2 + q)) := Lib.hid (fun q hq => by rw [Nat.zero_add]; exact sps_new (bareF g (pre.map (·.1))) u v hq)
        have Hf : Hid (∀ q, q < (bareF g (pre.map (·.1))).length * 2 → F q = sps (sL (bareF g (pre.map (·.1)) ++ [(u, v)])) q) := Lib.hid (fun q hq => by rw [hF q hq]; exact sps_old _ hq)
        clear hys hno hz hF
        refine wpIn_block (wpIn_seq (region_round (fun ⟨_, _, h⟩ => h) rfl ?_))
        have tk_r1 : True := trivial; have tk_r2 : True := trivial; have tk_r3 : True := trivial; have tk_r4 : True := trivial; have tk_b3 : True := trivial; have tk_p1 : True := trivial
        go_wp2_with (first | (go_at_call 58; (with_reducible refine (grassAt_any g hg u v b_u b_v _).mono ?_); rintro e W' ⟨rfl, hb'⟩; rw [Hz.out]; have hM' := hM.call hb'; clear hM hb'; have hM := hM'; clear hM') | (have _t := tk_r1; (refine wpList_get rfl _ _ rfl _ _ rfl hM 3 rfl (rowTab _ _ rfl) (by omega) ?_); clear tk_r1) | (have _t := tk_r2; (refine wpList_get rfl _ _ rfl _ _ rfl hM 1 rfl (rowTab _ _ rfl) (by omega) ?_); clear tk_r2))
        refine wpIn_cond_true rfl (region_round (fun ⟨_, _, h⟩ => h) rfl ?_)
        go_wp2_with (first | (have _t := tk_r3; (refine wpList_get1 rfl _ _ rfl _ _ rfl hM 2 rfl spots_cell (by omega) _ rfl ?_); clear tk_r3) | (have _t := tk_r4; (refine wpList_get rfl _ _ rfl _ _ rfl hM 1 rfl (rowTab _ _ rfl) (by omega) ?_); clear tk_r4) | (have _t := tk_b3; refine wpList_slice1 rfl _ _ _ rfl _ _ rfl _ spot_under spot_info (by omega) (by omega) hM ?_; intro b3 W' hb3 hM'; clear hM tk_b3; have hM := hM'; clear hM') | (have _t := tk_p1; refine wpList_push1 rfl _ _ _ rfl _ 2 _ _ spot_under spot_infoB rfl (by omega) _ _ _ _ rfl hb hnc hl _ _ rfl sp_one0 hM (sps (sL (bareF g (pre.map (·.1)) ++ [(u, v)]))) Hf.out Hq.out ?_; intro bL cL FL W' hbL hcL hFL hM'; clear hM tk_p1; have hM := hM'; clear hM') | (refine wpList_set1 rfl _ _ _ rfl _ _ rfl _ rfl rfl hM 2 rfl (by assumption) spots_cell (by omega) ?_; intro W' hM'; clear hM; have hM := hM'; clear hM'; simp [List.set, Act.eval] at hM))
        show ∃ Bs, _ ∧ Mem _ Bs _
        have hM' := hM.re 2 rfl (fun _ => .slice (some ⟨bL, 0, none⟩) ((bareF g (pre.map (·.1))).length + 1) cL) (fun k hk => by
          obtain rfl : k = 0 := by omega
          rfl)
        simp only [List.set] at hM'
        refine ⟨_, ?_, hM'.skip⟩
        have Hy2 : bareF g (pre.map (·.1) ++ [(u, v)]) = bareF g (pre.map (·.1)) ++ [(u, v)] := by
          have := Hy.out
          rwa [List.map_append, List.map_singleton] at this
        rw [Hy2, List.length_append]
        exact .inr ⟨bL, cL, FL, hbL, hcL, hFL, rfl⟩
      · have Hy := Lib.hid (hno hz)
        have dz : (g (2 + v * 10 + u) == 0) = false := by simp [hz]
        clear hys hno
        refine wpIn_block (wpIn_seq (region_round (fun ⟨_, _, h⟩ => h) rfl ?_))
        have tk_r1 : True := trivial; have tk_r2 : True := trivial
        go_wp2_with (first | (go_at_call 58; (with_reducible refine (grassAt_any g hg u v b_u b_v _).mono ?_); rintro e W' ⟨rfl, hb'⟩; have hM' := hM.call hb'; clear hM hb'; have hM := hM'; clear hM') | (have _t := tk_r1; (refine wpList_get rfl _ _ rfl _ _ rfl hM 3 rfl (rowTab _ _ rfl) (by omega) ?_); clear tk_r1) | (have _t := tk_r2; (refine wpList_get rfl _ _ rfl _ _ rfl hM 1 rfl (rowTab _ _ rfl) (by omega) ?_); clear tk_r2))
        refine wpIn_cond_false rfl (wpIn_skip ?_)
        show ∃ Bs, _ ∧ Mem _ Bs _
        refine ⟨_, ?_, hM.skip⟩
        rw [Hy.out]
        exact .inr ⟨b, c, F, hb, hnc, hF, rfl⟩
  case done =>
    rename_i K7 hK7
    intro D xs X Bs hD hS hI hM hK
    have hsz : w.heap.size ≤ W1.heap.size := hM2.size
    clear hM2
    rw [hS] at hI
    have hM' : Mem (Base.round w W1.heap.size X) Bs X := hM.base ⟨hM.below, KeepsFrom.refl _ _⟩
    clear hM
    have hM := hM'
    clear hM'
    show K7 _ _
    refine hK7 _ _ ?_
    dsimp only
    rcases hI with ⟨hn, rfl⟩ | ⟨b, c, F, hb, hnc, hF, rfl⟩
    · go_wp2_with (first | (refine wpList_get1 rfl _ _ rfl _ _ rfl hM 0 rfl spots_cell (by omega) _ rfl ?_))
      have hK' := hM.good.2.same D _ hD hK rfl
      refine leave_marks hK' _ (results_tmp2 rfl _ _ _) ?_
      exact ⟨_, rfl, .inl ⟨rfl, hn, Mem.start (below_mark hM.good.1 (Nat.le_trans hsz hD))⟩⟩
    · go_wp2_with (first | (refine wpList_get1 rfl _ _ rfl _ _ rfl hM 1 rfl spots_cell (by omega) _ rfl ?_))
      have hK' := hM.good.2.same D _ hD hK rfl
      refine leave_marks hK' _ (results_tmp2 rfl _ _ _) ?_
      refine ⟨_, rfl, .inr ⟨b, c, F, rfl, hb, hnc, hF, ?_⟩⟩
      exact (Mem.start (w := Base.of w) (below_mark hM.good.1 (Nat.le_trans hsz hD))).old (at_mark hM.at0 hK') (fun i p h => by simp at h)
end Go.Proofs.YtdmhdljknfkajaaDoor
