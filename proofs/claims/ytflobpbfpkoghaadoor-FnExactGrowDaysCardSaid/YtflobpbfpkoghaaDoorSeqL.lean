/-
  slices.AppendSeq and slices.Collect over any iterator of spots, by contract.
-/
import Derived.Test.YtflobpbfpkoghaaDoorGivesL
import Derived.Test.YtflobpbfpkoghaaDoorRangeL
import Derived.Test.YtflobpbfpkoghaaDoorSumK
namespace Go.Proofs.YtflobpbfpkoghaaDoor
open Go Go.RowKit Go.Shelf Go.BigFrame

set_option maxRecDepth 100000 in
set_option maxHeartbeats 2000000 in
/-- slices.AppendSeq of nothing and an iterator of spots, told by its contract. -/
theorem appendSeq_any {α : Type} (px py : α → Int) {gf : Nat} {lb : Array Value} {S Sp : List α → Prop} {N : Nat} (K : Blocks) (eg : ∀ args w, (callFunc gf args).run Tryd.prog w = .ok (.enter gf args) w) (hN : N ≤ 1048576) (l : List (Int × Int)) (hS : ∀ xs, S xs → xs.map (fun c => (px c, py c)) = l)
    (w : World) (hA : Mem w K w) (hseq : ∀ W1, (∀ e ∈ K, At W1 e.1 e.2.1 e.2.2) → SeqStopsK Fence.wide 2 Tryd.prog gf lb (fun x => #[.agg (arr 2 (sp (px x) (py x)))]) (KpL K) S Sp N W1) :
    Calls Tryd.prog 92 #[.slice none 0 0, .func (.func gf) #[] lb] w (GivesL w l) := by
  have hM := hA
  have Hq := Lib.hid hseq
  have HN := Lib.hid hN
  have HS := Lib.hid hS
  clear hA hseq hN hS
  refine (callsIn_wide (n := 3)).1 ?_
  refine callsIn_of_wp_marks Tryd.func92 rfl trivial ?_ rfl
  simp only [Tryd.ntmps92, List.size_toArray, List.length_cons, List.length_nil, Nat.reduceAdd, Nat.reduceSub, Array.replicate_succ, Array.replicate_zero, List.push_toArray, List.append_toArray, List.nil_append, List.cons_append]
  refine wpIn_wide.2 ?_
  have tk_b2 : True := trivial
  go_wp2_with (first | (have _t := tk_b2; refine wpList_box1 rfl _ _ rfl _ rfl rfl hM ?_; intro b2 W' hb2 hM'; clear hM tk_b2; have hM := hM'; clear hM'))
  have ats : ∀ {b : Base} {X : World}, Mem b K X → ∀ e ∈ K, At X e.1 e.2.1 e.2.2 := fun h e he => by
    obtain ⟨i, hi⟩ := List.getElem?_of_mem he
    exact h.ats i _ _ _ hi
  refine (wpIn_wide (n := 3)).1 ?_
  refine range_rel (α := α) (px := px) (py := py) (gf := gf) (lb := lb)
    (fun pre => VarL w.heap.size b2 K 2 (pre.map fun c => (px c, py c)).length (sps (sI (pre.map fun c => (px c, py c))))) ((b2, 1, fun _ => .slice none 0 0) :: K)
    rfl eg (Hq.out _ (ats hM.drop)) (fun {A B C} h k => kpL_t h k) (fun X l o o' h ho => kpL_b X l o o' h ho)
    (fun _ _ _ _ _ _ _ h h' hm hm' => varL_det h h' hm hm') (fun _ _ _ _ _ _ _ _ h' _ hm' e he _ => ats (varL_mem h' hm') e he) rfl rfl rfl rfl rfl rfl (by decide) (by simp) (by simp) (.inl ⟨rfl, rfl⟩) hM ?body ?done
  case body =>
    intro l pre x bx X Bs hbx hI hM2 hlen
    clear hM
    have hM := hM2
    clear hM2
    have hl : (pre.map fun c => (px c, py c)).length ≤ 1048576 := by
      have := HN.out
      simp only [List.length_map]; omega
    have Hy : Hid ((pre ++ [x]).map (fun c => (px c, py c)) = pre.map (fun c => (px c, py c)) ++ [(px x, py x)]) := Lib.hid (by simp)
    generalize hu : px x = u at *
    generalize hv : py x = v at *
    generalize hp : pre.map (fun c => (px c, py c)) = p at *
    rcases hI with ⟨hn, rfl⟩ | ⟨b, c, F, hb, hnc, hF, rfl⟩
    · have Hq2 : Hid (∀ q, q < 2 → sp u v (0 + q) = sps (sI (p ++ [(u, v)])) q) := Lib.hid (fun q hq => by have := spsI_new p u v hq; rw [hn, Nat.zero_mul, Nat.zero_add] at this; rw [Nat.zero_add]; exact this)
      refine wpIn_block (region_round (fun ⟨_, _, h⟩ => h) rfl ?_)
      have tk_r3 : True := trivial; have tk_r4 : True := trivial; have tk_b3 : True := trivial; have tk_p1 : True := trivial
      go_wp2_with (first | (have _t := tk_r3; (refine wpList_get1 rfl _ _ rfl _ _ rfl hM 1 rfl spots_cell (by omega) _ rfl ?_); clear tk_r3) | (have _t := tk_r4; (refine wpList_get rfl _ _ rfl _ _ rfl hM 0 rfl (rowTab _ _ rfl) (by omega) ?_); clear tk_r4) | (have _t := tk_b3; refine wpList_slice1 rfl _ _ _ rfl _ _ rfl _ spot_under spot_info (by omega) (by omega) hM ?_; intro b3 W' hb3 hM'; clear hM tk_b3; have hM := hM'; clear hM') | (have _t := tk_p1; refine wpList_push0 rfl _ _ _ rfl _ 2 _ _ spot_under spot_infoB rfl (by omega) rfl _ _ rfl hM (sps (sI (p ++ [(u, v)]))) Hq2.out ?_; intro bL cL FL W' hbL hcL hFL hM'; clear hM tk_p1; have hM := hM'; clear hM') | (refine wpList_set1 rfl _ _ _ rfl _ _ rfl _ rfl rfl hM 2 rfl (by assumption) spots_cell (by omega) ?_; intro W' hM'; clear hM; have hM := hM'; clear hM'; simp [List.set, Act.eval] at hM))
      show ∃ Bs, _ ∧ Mem _ Bs _
      have hM' := hM.re 2 rfl (fun _ => .slice (some ⟨bL, 0, none⟩) 1 cL) (fun k hk => by
        obtain rfl : k = 0 := by omega
        rfl)
      simp only [List.set] at hM'
      refine ⟨_, ?_, hM'.skip⟩
      simp only [Hy.out, List.length_append, hn]
      exact .inr ⟨bL, cL, FL, hbL, hcL, hFL, rfl⟩
    · have hM' := hM.swap
      clear hM
      have hM := hM'
      clear hM'
      have Hq2 : Hid (∀ q, q < 2 → sp u v (0 + q) = sps (sI (p ++ [(u, v)])) (p.length * 2 + q)) := Lib.hid (fun q hq => by rw [Nat.zero_add]; exact spsI_new p u v hq)
      have Hf : Hid (∀ q, q < p.length * 2 → F q = sps (sI (p ++ [(u, v)])) q) := Lib.hid (fun q hq => by rw [hF q hq]; exact spsI_old _ hq)
      clear hF
      refine wpIn_block (region_round (fun ⟨_, _, h⟩ => h) rfl ?_)
      have tk_r3 : True := trivial; have tk_r4 : True := trivial; have tk_b3 : True := trivial; have tk_p1 : True := trivial
      go_wp2_with (first | (have _t := tk_r3; (refine wpList_get1 rfl _ _ rfl _ _ rfl hM 2 rfl spots_cell (by omega) _ rfl ?_); clear tk_r3) | (have _t := tk_r4; (refine wpList_get rfl _ _ rfl _ _ rfl hM 1 rfl (rowTab _ _ rfl) (by omega) ?_); clear tk_r4) | (have _t := tk_b3; refine wpList_slice1 rfl _ _ _ rfl _ _ rfl _ spot_under spot_info (by omega) (by omega) hM ?_; intro b3 W' hb3 hM'; clear hM tk_b3; have hM := hM'; clear hM') | (have _t := tk_p1; refine wpList_push1 rfl _ _ _ rfl _ 2 _ _ spot_under spot_infoB rfl (by omega) _ _ _ _ rfl hb hnc hl _ _ rfl sp_one0 hM (sps (sI (p ++ [(u, v)]))) Hf.out Hq2.out ?_; intro bL cL FL W' hbL hcL hFL hM'; clear hM tk_p1; have hM := hM'; clear hM') | (refine wpList_set1 rfl _ _ _ rfl _ _ rfl _ rfl rfl hM 2 rfl (by assumption) spots_cell (by omega) ?_; intro W' hM'; clear hM; have hM := hM'; clear hM'; simp [List.set, Act.eval] at hM))
      show ∃ Bs, _ ∧ Mem _ Bs _
      have hM' := hM.re 2 rfl (fun _ => .slice (some ⟨bL, 0, none⟩) (p.length + 1) cL) (fun k hk => by
        obtain rfl : k = 0 := by omega
        rfl)
      simp only [List.set] at hM'
      refine ⟨_, ?_, hM'.skip⟩
      simp only [Hy.out, List.length_append]
      exact .inr ⟨bL, cL, FL, hbL, hcL, hFL, rfl⟩
  case done =>
    rename_i K7 hK7
    intro D xs X Bs hD hxs hI hM2 hK
    have hsz : w.heap.size ≤ W'.heap.size := hM.size
    clear hM
    rw [HS.out xs hxs] at hI
    have hM : Mem (Base.round w W'.heap.size X) Bs X := hM2.base ⟨hM2.below, KeepsFrom.refl _ _⟩
    clear hM2
    show K7 _ _
    refine hK7 _ _ ?_
    dsimp only
    rcases hI with ⟨hn, rfl⟩ | ⟨b, c, F, hb, hnc, hF, rfl⟩
    · go_wp2_with (first | (refine wpList_get1 rfl _ _ rfl _ _ rfl hM 0 rfl spots_cell (by omega) _ rfl ?_))
      have hK' := hM.good.2.same D _ hD hK rfl
      refine leave_marks hK' _ (results_tmp rfl _ _ _) ?_
      exact ⟨_, rfl, .inl ⟨rfl, hn, Mem.start (below_mark hM.good.1 (Nat.le_trans hsz hD))⟩⟩
    · go_wp2_with (first | (refine wpList_get1 rfl _ _ rfl _ _ rfl hM 1 rfl spots_cell (by omega) _ rfl ?_))
      have hK' := hM.good.2.same D _ hD hK rfl
      refine leave_marks hK' _ (results_tmp rfl _ _ _) ?_
      refine ⟨_, rfl, .inr ⟨b, c, F, rfl, hb, hnc, hF, ?_⟩⟩
      exact (Mem.start (w := Base.of w) (below_mark hM.good.1 (Nat.le_trans hsz hD))).old (at_mark hM.at0 hK') (fun i p h => by simp at h)
theorem collect_any {gf : Nat} {lb : Array Value} {l : List (Int × Int)} (w : World) (h : Calls Tryd.prog 92 #[.slice none 0 0, .func (.func gf) #[] lb] w (GivesL w l)) :
    Calls Tryd.prog 79 #[.func (.func gf) #[] lb] w (GivesL w l) := by
  have H := Lib.hid h
  clear h
  go_enter Tryd.func79, Tryd.ntmps79
  go_wp2_with (first | (go_at_call 92; refine H.out.mono ?_; rintro e W' ⟨v0, rfl, hL0⟩))
  go_ret
  exact ⟨_, rfl, hL0⟩

end Go.Proofs.YtflobpbfpkoghaaDoor
