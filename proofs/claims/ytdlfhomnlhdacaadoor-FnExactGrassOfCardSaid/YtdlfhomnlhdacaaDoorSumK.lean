/-
  (impl.Pasture).sumGrass over an iterator that keeps some blocks.
-/
import Derived.Test.YtdlfhomnlhdacaaDoorSumB
import Derived.Test.YtdlfhomnlhdacaaDoorKpL
namespace Go.Proofs.YtdlfhomnlhdacaaDoor
open Go Go.RowKit Go.Shelf Go.BigFrame

set_option maxRecDepth 100000 in
set_option maxHeartbeats 2000000 in
/-- sumGrass over an iterator of cells, told by its contract; what it holds lies in some blocks. -/
theorem sumGrass_kept {α : Type} (g : Nat → Int) (hg : Fits g) (hb : ∀ k, k < 100 → 0 ≤ g (2 + k) ∧ g (2 + k) ≤ 1000) (cell : α → Nat × Nat) (hc : ∀ x, (cell x).1 < 10 ∧ (cell x).2 < 10)
    {gf : Nat} {lb : Array Value} {S Sp : List α → Prop} {N : Nat} (K : Blocks) (eg : ∀ args w, (callFunc gf args).run Tryd.prog w = .ok (.enter gf args) w) (hN : N ≤ 2 ^ 40) (T : Int) (hS : ∀ xs, S xs → sumL g (xs.map cell) = T)
    (w : World) (hA : Mem w K w)
    (hseq : ∀ W1, (∀ e ∈ K, At W1 e.1 e.2.1 e.2.2) → SeqStopsK Fence.wide 2 Tryd.prog gf lb (fun x => #[.agg (arr 2 (sp ((cell x).1 : Int) ((cell x).2 : Int)))]) (KpL K) S Sp N W1) :
    Calls Tryd.prog 75 #[.agg (arr 122 (pas g)), .func (.func gf) #[] lb] w fun e w' => e = .returned (.int .i64 T) ∧ Below w.heap.size w w' := by
  have hM : Mem w K w := hA
  have Hb := Lib.hid hb
  have Hc := Lib.hid hc
  have HS := Lib.hid hS
  have Hq := Lib.hid hseq
  have HN := Lib.hid hN
  clear hA hb hc hS hseq hN
  refine (callsIn_wide (n := 3)).1 ?_
  refine callsIn_of_wp_marks Tryd.func75 rfl trivial ?_ rfl
  simp only [Tryd.ntmps75, List.size_toArray, List.length_cons, List.length_nil, Nat.reduceAdd, Nat.reduceSub, Array.replicate_succ, Array.replicate_zero, List.push_toArray, List.append_toArray, List.nil_append, List.cons_append]
  refine wpIn_wide.2 ?_
  have tk_b1 : True := trivial; have tk_b2 : True := trivial
  go_wp2_with (first | (have _t := tk_b1; refine wpList_box rfl _ _ rfl _ _ rfl hM ?_; intro b1 W' hb1 hM'; clear hM tk_b1; have hM := hM'; clear hM') | (have _t := tk_b2; refine wpList_zero1 rfl _ rfl (zero1Tab _ _ rfl) rfl hM ?_; intro b2 W' hb2 hM'; clear hM tk_b2; have hM := hM'; clear hM') | (refine wpList_set1 rfl _ _ _ rfl _ _ rfl _ rfl ?_ hM 0 rfl (by assumption) (cellTab _ rfl) (by omega) ?_; (first | rfl | exact h1 _); intro W' hM'; clear hM; have hM := hM'; clear hM'; simp [List.set, Act.eval] at hM))
  have hM1 := hM.re 0 rfl (fun _ => .int .i64 (sumL g [])) (fun k hk => sum_start g k hk)
  simp only [List.set_cons_zero] at hM1
  clear hM
  refine (wpIn_wide (n := 3)).1 ?_
  refine range_spots (α := α) (px := fun c => ((cell c).1 : Int)) (py := fun c => ((cell c).2 : Int)) (ks := b2 :: b1 :: K.map (·.1)) (gf := gf) (lb := lb)
    (fun pre => (b2, 1, fun _ => .int .i64 (sumL g (pre.map cell))) :: (b1, 122, pas g) :: K)
    rfl eg (Hq.out _ (fun e he => by
      obtain ⟨i, hi⟩ := List.getElem?_of_mem he
      exact hM1.ats (i + 2) _ _ _ (by simpa using hi))) (fun {A B C} h k => kpL_t h k) (fun X l o o' h ho => kpL_b X l o o' h ho)
    (fun _ => rfl) (fun _ _ _ _ _ _ _ h2 e he _ => by
      obtain ⟨i, hi⟩ := List.getElem?_of_mem he
      exact h2.ats (i + 3) _ _ _ (by simpa using hi)) rfl rfl rfl rfl rfl rfl (by decide) (by simp) (by simp) hM1 ?body ?done
  case body =>
    intro l pre x bx X hbx hM hlen
    clear hM1
    dsimp only at hM ⊢
    generalize hxu : cell x = s at *
    obtain ⟨u, v⟩ := s
    have hcx := Hc.out x
    rw [hxu] at hcx
    dsimp only at hcx hM ⊢
    have hr := Hb.out (v * 10 + u) (by omega)
    have hs := sumL_bounds Hb.out (pre.map cell) (fun s hs => by obtain ⟨c, _, rfl⟩ := List.mem_map.1 hs; exact Hc.out c)
    have hl : (pre.map cell).length ≤ 2 ^ 40 := by have := HN.out; simp only [List.length_map]; omega
    rw [← Nat.add_assoc] at hr
    have c1 : IntKind.i64.wrap (sumL g (pre.map cell) + g (2 + v * 10 + u)) = sumL g (pre.map cell) + g (2 + v * 10 + u) := IntWalk.i64_in _ (by omega)
    have Hx := Lib.hid hxu
    clear hr hs hl hlen hxu
    refine wpIn_block ?_
    ((try simp only [Act.put, List.setIfInBounds_toArray, List.set_cons_succ, List.set_cons_zero]); refine region_round_head (m := 5) (fun ⟨_, _, h⟩ => h) rfl (by kernel_rfl) (by kernel_rfl) hM ?_; clear hM; simp only [List.take_succ_cons, List.take_zero, List.drop_succ_cons, List.drop_zero]; (repeat (first | go_big_quiet_skip | (go_big_quiet_want; first | (refine quiet_get _ _ rfl _ _ rfl 2 rfl (rowTab _ _ rfl) (by omega) ?_; (simp only [Act.put, List.setIfInBounds_toArray, List.set_cons_succ, List.set_cons_zero]); go_big_quiet_on) | (refine quiet_get _ _ rfl _ _ rfl 0 rfl (rowTab _ _ rfl) (by omega) ?_; (simp only [Act.put, List.setIfInBounds_toArray, List.set_cons_succ, List.set_cons_zero]); go_big_quiet_on) | (refine quiet_get1 _ _ rfl _ _ rfl 1 rfl (cellTab _ rfl) (by omega) (.int .i64 (sumL g (pre.map cell))) rfl ?_; (simp only [Act.put, List.setIfInBounds_toArray, List.set_cons_succ, List.set_cons_zero]); go_big_quiet_on) | (refine quiet_call ?_; apply Exists.intro; apply Exists.intro; apply Exists.intro; refine ⟨fun W => ?_, fun W hM => ?_, ?_⟩; (go_simp; exact ⟨rfl, rfl⟩); (exact grassAt_any g hg u v hcx.1 hcx.2 W); (simp only [Act.put, List.setIfInBounds_toArray, List.set_cons_succ, List.set_cons_zero]); go_big_quiet_on) | (refine quiet_val ?_; apply Exists.intro; refine ⟨fun W => ?_, ?_⟩; (go_simp; (try simp only [c1, if_true, Bool.false_eq_true, if_false]); rfl); (simp only [Act.put, List.setIfInBounds_toArray, List.set_cons_succ, List.set_cons_zero]); go_big_quiet_on)))); (with_reducible refine wpQuiet_nil ?_); intro W' hM)
    go_wp2_with (first | (refine wpList_set1 rfl _ _ _ rfl _ _ rfl _ rfl ?_ hM 1 rfl (by assumption) (cellTab _ rfl) (by omega) ?_; (first | rfl | exact h1 _); intro W' hM'; clear hM; have hM := hM'; clear hM'; simp [List.set, Act.eval] at hM))
    show Mem _ _ _
    have hM2 := hM.re 1 rfl (fun _ => .int .i64 (sumL g ((pre ++ [x]).map cell))) (fun k hk => by
      obtain rfl : k = 0 := by omega
      rw [List.map_append, List.map_singleton, Hx.out, sumL_snoc]; rfl)
    exact hM2
  case done =>
    rename_i K7 hK7
    intro D xs X hD hS hM hK
    have hsz : w.heap.size ≤ W'.heap.size := hM1.size
    rw [HS.out xs hS] at hM
    have hM' : Mem (Base.round w W'.heap.size X) _ X := hM.base ⟨hM.below, KeepsFrom.refl _ _⟩
    clear hM hM1
    have hM := hM'
    clear hM'
    show K7 _ _
    refine hK7 _ _ ?_
    dsimp only
    go_wp2_with (first | (refine wpList_get1 rfl _ _ rfl _ _ rfl hM 0 rfl (cellTab _ rfl) (by omega) _ rfl ?_))
    have hK' := hM.good.2.same D _ hD hK rfl
    exact leave_marks hK' (.int .i64 T) (by rw [results_tmp rfl]; rfl) ⟨rfl, below_mark hM.good.1 (Nat.le_trans hsz hD)⟩
end Go.Proofs.YtdlfhomnlhdacaaDoor
