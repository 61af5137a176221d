/-
  Several texts in one: SumK, Values, ValuesN, Sum, SumCells, Num.
-/
import Derived.Test.YtbmaljhnldepoaaDoorP5
import Derived.Test.YtbmaljhnldepoaaDoorP6
import Derived.Test.YtbmaljhnldepoaaDoorP1
/-
  (impl.Pasture).sumGrass over an iterator that keeps some blocks.
-/
namespace Go.Proofs.YtbmaljhnldepoaaDoor
open Go Go.RowKit Go.Shelf Go.BigFrame

set_option maxRecDepth 100000 in
set_option maxHeartbeats 2000000 in
/-- sumGrass over an iterator of cells, told by its contract; what it holds lies in some blocks. -/
theorem sumGrass_kept {α : Type} (g : Nat → Int) (hg : Fits g) (hb : ∀ k, k < 100 → 0 ≤ g (2 + k) ∧ g (2 + k) ≤ 1000) (cell : α → Nat × Nat) (hc : ∀ x, (cell x).1 < 10 ∧ (cell x).2 < 10)
    {gf : Nat} {lb : Array Value} {S Sp : List α → Prop} {N : Nat} (K : Blocks) (eg : ∀ args w, (callFunc gf args).run Tryd.prog w = .ok (.enter gf args) w) (hN : N ≤ 2 ^ 40) (T : Int) (hS : ∀ xs, S xs → sumL g (xs.map cell) = T)
    (w : World) (hA : Mem w K w)
    (hseq : ∀ W1, (∀ e ∈ K, At W1 e.1 e.2.1 e.2.2) → SeqStopsK Fence.wide 2 Tryd.prog gf lb (fun x => #[.agg (arr 2 (sp ((cell x).1 : Int) ((cell x).2 : Int)))]) (KpL K) S Sp N W1) :
    Calls Tryd.prog 138 #[.agg (arr 122 (pas g)), .func (.func gf) #[] lb] w fun e w' => e = .returned (.int .i64 T) ∧ Below w.heap.size w w' := by
  have hM : Mem w K w := hA
  have Hb := Lib.hid hb
  have Hc := Lib.hid hc
  have HS := Lib.hid hS
  have Hq := Lib.hid hseq
  have HN := Lib.hid hN
  clear hA hb hc hS hseq hN
  refine (callsIn_wide (n := 3)).1 ?_
  refine callsIn_of_wp_marks Tryd.func138 rfl trivial ?_ rfl
  simp only [Tryd.ntmps138, List.size_toArray, List.length_cons, List.length_nil, Nat.reduceAdd, Nat.reduceSub, Array.replicate_succ, Array.replicate_zero, List.push_toArray, List.append_toArray, List.nil_append, List.cons_append]
  refine wpIn_wide.2 ?_
  have tk_b1 : True := trivial; have tk_b2 : True := trivial
  go_wp2_with (first | (have _t := tk_b1; refine wpList_box rfl _ _ rfl _ _ rfl hM ?_; intro b1 W' hb1 hM'; clear hM tk_b1; have hM := hM'; clear hM') | (have _t := tk_b2; refine wpList_zero1 rfl _ rfl (zero1Tab _ _ rfl) rfl hM ?_; intro b2 W' hb2 hM'; clear hM tk_b2; have hM := hM'; clear hM') | (refine wpList_set1 rfl _ _ _ rfl _ _ rfl _ rfl ?_ hM 0 rfl (by assumption) (cellTab _ rfl) (by omega) ?_; (first | rfl | exact h1 _); intro W' hM'; clear hM; have hM := hM'; clear hM'; simp [List.set, Act.eval] at hM))
  have hM1 := hM.re 0 rfl (fun _ => .int .i64 (sumL g [])) (fun k hk => sum_start g k hk)
  simp only [List.set_cons_zero] at hM1
  clear hM
  refine (wpIn_wide (n := 3)).1 ?_
  refine range_spots (α := α) (px := fun c => ((cell c).1 : Int)) (py := fun c => ((cell c).2 : Int)) (ks := b2 :: b1 :: K.map (·.1)) (gf := gf) (lb := lb)
    (fun pre => (b2, 1, fun _ => .int .i64 (sumL g (pre.map cell))) :: (b1, 122, pas g) :: K)
    rfl eg (Hq.out _ (fun e he => by
      obtain ⟨i, hi⟩ := List.getElem?_of_mem he
      exact hM1.ats (i + 2) _ _ _ (by simpa using hi))) (fun {A B C} h k => kpL_t h k) (fun X l o o' h ho => kpL_b X l o o' h ho)
    (fun _ => rfl) (fun _ _ _ _ _ _ _ h2 e he _ => by
      obtain ⟨i, hi⟩ := List.getElem?_of_mem he
      exact h2.ats (i + 3) _ _ _ (by simpa using hi)) rfl rfl rfl rfl rfl rfl (by decide) (by simp) (by simp) hM1 ?body ?done
  case body =>
    intro l pre x bx X hbx hM hlen
    clear hM1
    dsimp only at hM ⊢
    generalize hxu : cell x = s at *
    obtain ⟨u, v⟩ := s
    have hcx := Hc.out x
    rw [hxu] at hcx
    dsimp only at hcx hM ⊢
    have hr := Hb.out (v * 10 + u) (by omega)
    have hs := sumL_bounds Hb.out (pre.map cell) (fun s hs => by obtain ⟨c, _, rfl⟩ := List.mem_map.1 hs; exact Hc.out c)
    have hl : (pre.map cell).length ≤ 2 ^ 40 := by have := HN.out; simp only [List.length_map]; omega
    rw [← Nat.add_assoc] at hr
    have c1 : IntKind.i64.wrap (sumL g (pre.map cell) + g (2 + v * 10 + u)) = sumL g (pre.map cell) + g (2 + v * 10 + u) := IntWalk.i64_in _ (by omega)
    have Hx := Lib.hid hxu
    clear hr hs hl hlen hxu
    refine wpIn_block ?_
    ((try simp only [Act.put, List.setIfInBounds_toArray, List.set_cons_succ, List.set_cons_zero]); refine region_round_head (m := 5) (fun ⟨_, _, h⟩ => h) rfl (by kernel_rfl) (by kernel_rfl) hM ?_; clear hM; simp only [List.take_succ_cons, List.take_zero, List.drop_succ_cons, List.drop_zero]; (repeat (first | go_big_quiet_skip | (go_big_quiet_want; first | (refine quiet_get _ _ rfl _ _ rfl 2 rfl (rowTab _ _ rfl) (by omega) ?_; (simp only [Act.put, List.setIfInBounds_toArray, List.set_cons_succ, List.set_cons_zero]); go_big_quiet_on) | (refine quiet_get _ _ rfl _ _ rfl 0 rfl (rowTab _ _ rfl) (by omega) ?_; (simp only [Act.put, List.setIfInBounds_toArray, List.set_cons_succ, List.set_cons_zero]); go_big_quiet_on) | (refine quiet_get1 _ _ rfl _ _ rfl 1 rfl (cellTab _ rfl) (by omega) (.int .i64 (sumL g (pre.map cell))) rfl ?_; (simp only [Act.put, List.setIfInBounds_toArray, List.set_cons_succ, List.set_cons_zero]); go_big_quiet_on) | (refine quiet_call ?_; apply Exists.intro; apply Exists.intro; apply Exists.intro; refine ⟨fun W => ?_, fun W hM => ?_, ?_⟩; (go_simp; exact ⟨rfl, rfl⟩); (exact grassAt_any g hg u v hcx.1 hcx.2 W); (simp only [Act.put, List.setIfInBounds_toArray, List.set_cons_succ, List.set_cons_zero]); go_big_quiet_on) | (refine quiet_val ?_; apply Exists.intro; refine ⟨fun W => ?_, ?_⟩; (go_simp; (try simp only [c1, if_true, Bool.false_eq_true, if_false]); rfl); (simp only [Act.put, List.setIfInBounds_toArray, List.set_cons_succ, List.set_cons_zero]); go_big_quiet_on)))); (with_reducible refine wpQuiet_nil ?_); intro W' hM)
    go_wp2_with (first | (refine wpList_set1 rfl _ _ _ rfl _ _ rfl _ rfl ?_ hM 1 rfl (by assumption) (cellTab _ rfl) (by omega) ?_; (first | rfl | exact h1 _); intro W' hM'; clear hM; have hM := hM'; clear hM'; simp [List.set, Act.eval] at hM))
    show Mem _ _ _
    have hM2 := hM.re 1 rfl (fun _ => .int .i64 (sumL g ((pre ++ [x]).map cell))) (fun k hk => by
      obtain rfl : k = 0 := by omega
      rw [List.map_append, List.map_singleton, Hx.out, sumL_snoc]; rfl)
    exact hM2
  case done =>
    rename_i K7 hK7
    intro D xs X hD hS hM hK
    have hsz : w.heap.size ≤ W'.heap.size := hM1.size
    rw [HS.out xs hS] at hM
    have hM' : Mem (Base.round w W'.heap.size X) _ X := hM.base ⟨hM.below, KeepsFrom.refl _ _⟩
    clear hM hM1
    have hM := hM'
    clear hM'
    show K7 _ _
    refine hK7 _ _ ?_
    dsimp only
    go_wp2_with (first | (refine wpList_get1 rfl _ _ rfl _ _ rfl hM 0 rfl (cellTab _ rfl) (by omega) _ rfl ?_))
    have hK' := hM.good.2.same D _ hD hK rfl
    exact leave_marks hK' (.int .i64 T) (by rw [results_tmp rfl]; rfl) ⟨rfl, below_mark hM.good.1 (Nat.le_trans hsz hD)⟩
end Go.Proofs.YtbmaljhnldepoaaDoor

/-
  slices.Values of a list of spots and its iterator, by contract; sumGrass over it.
-/
namespace Go.Proofs.YtbmaljhnldepoaaDoor
open Go Go.RowKit Go.Shelf Go.BigFrame
attribute [local go_sem] Oper.semAt_some

structure Tagged (p : Prop) : Prop where
  out : p
theorem wpIn_tag2 {F : Fence} {n : Nat} {P : Program} {ops : Array Oper} {m : Bool} {Q : Exit → Act → World → Prop} {a : Act} {w : World} (h : Tagged ((Code.region 2 ops m).wpIn F n P Q a w)) : (Code.region 2 ops m).wpIn F n P Q a w := h.out

/-- The header that the iterator holds, and the cells. -/
abbrev valsK (bh bl N n c : Nat) (s : Nat → Int × Int) : Blocks := [(bh, 1, fun _ => .slice (some ⟨bl, 0, none⟩) n c), (bl, N, sps s)]
def ValsIn (J : List (Cell 10 10) → World → Prop) (bh bl N n c : Nat) (s : Nat → Int × Int) (i : Nat) (wr : World) : Prop :=
  ∃ pre : List (Cell 10 10), pre.map (·.1) = cellsL s i ∧ J pre wr ∧ At wr bh 1 (fun _ => .slice (some ⟨bl, 0, none⟩) n c) ∧ At wr bl N (sps s)
def ValsAt (J : List (Cell 10 10) → World → Prop) (bh bl N n c : Nat) (s : Nat → Int × Int) (i : Value) (wr : World) : Prop := ∃ k : Nat, k ≤ n ∧ i = .int .i64 k ∧ ValsIn J bh bl N n c s k wr

set_option maxRecDepth 100000 in
set_option maxHeartbeats 1000000 in
theorem values1_in (nn : Nat) (hnn : 1 ≤ nn) (l bh bl N n c : Nat) (s : Nat → Int × Int) (hN : n * 2 ≤ N) (hn : n ≤ maxLen) (hne : bl ≠ bh) (hc : ∀ k, k < n → ∃ u v : Nat, u < 10 ∧ v < 10 ∧ s k = ((u : Int), (v : Int))) (B : Nat)
    (J Jx : List (Cell 10 10) → World → Prop) (hJa : AbidesFrom B J)
    (hY : ∀ pre x W1, J pre W1 → pre.length < n → YieldAt Fence.wide (nn - 1) Tryd.prog l (encC x) W1 fun e W' =>
      (e = .returned (.bool true) ∧ J (pre ++ [x]) W' ∧ KpL (valsK bh bl N n c s) W1 W') ∨ (e = .returned (.bool false) ∧ Jx (pre ++ [x]) W'))
    (w : World) (hA : At w bh 1 (fun _ => .slice (some ⟨bl, 0, none⟩) n c)) (hB : At w bl N (sps s)) (h0 : J [] w) :
    CallsIn Fence.wide nn Tryd.prog 129 #[.func (.yield l) #[] #[], .pointer (some ⟨bh, 0, none⟩)] w fun e W' => (∃ v, e = .returned v) ∧
      ((∃ xs : List (Cell 10 10), xs.map (·.1) = cellsL s n ∧ J xs W') ∨ (∃ pre : List (Cell 10 10), (∃ i, i ≤ n ∧ pre.map (·.1) = cellsL s i) ∧ Jx pre W')) := by
  refine callsIn_of_wp Tryd.func129 rfl trivial ?_ rfl
  simp only [Tryd.ntmps129, List.size_toArray, List.length_cons, List.length_nil, Nat.reduceAdd, Nat.reduceSub, Array.replicate_succ, Array.replicate_zero, List.push_toArray, List.append_toArray, List.nil_append, List.cons_append]
  have c1 : w.cell? ⟨bh, 0, none⟩ = some (.slice (some ⟨bl, 0, none⟩) n c) := hA.cell (by omega)
  have Hc := Lib.hid hc
  have HJ := Lib.hid hJa
  unfold maxLen at hn
  clear hc hJa
  gi_wp2
  gi_loopw [7] (fun i wr => ValsAt J bh bl N n c s i wr) (fun i _ => n - (intOf i).toNat)
  case atStart => exact ⟨0, by omega, rfl, [], rfl, h0, hA, hB⟩
  case round =>
    clear c1
    obtain ⟨k, hk, rfl, pre, hpre, hJ, hAr, hBr⟩ := hrel
    by_cases hlt : k < n
    · have l2 : (k : Int) < n := by omega
      obtain ⟨u, v, hu, hv, hs⟩ := Hc.out k hlt
      have er : arr 2 (fun j => sps s (k * 2 + j)) = arr 2 (sp u v) := arr_congr fun j hj => by rw [sps_row s k j hj, hs]
      have hM : Mem wr [(bl, N, sps s), (bh, 1, fun _ => .slice (some ⟨bl, 0, none⟩) n c)] wr := ((Mem.nil wr).old hBr (fun i p h => by simp at h)).old hAr (fun i p h => by
        match i, h with
        | 0, h => simp at h; rw [← h]; exact hne
        | _ + 1, h => simp at h)
      have hlen : pre.length = k := by have := congrArg List.length hpre; simpa [cellsL] using this
      have hnext : (pre ++ [(⟨(u, v), hu, hv⟩ : Cell 10 10)]).map (·.1) = cellsL s (k + 1) := by
        rw [List.map_append, hpre, cellsL_succ hs]; rfl
      have Hl := Lib.hid hlen
      have Hx := Lib.hid hnext
      have hJ0 := Lib.hid hJ
      clear hlen hnext hJ hAr hBr hs
      have tk_b2 : True := trivial
      repeat ((fail_if_success (refine wpIn_tag2 ?_)); (first | go_values | gi_guarded | gi_step | gi_upon | (simp only [Int.not_lt, Int.not_le] at *; go_simp)))
      refine wpIn_tag2 ?_
      refine ⟨wpIn_wide.2 ?_⟩
      go_wp2_with (first | ((refine wpList_get rfl _ _ rfl _ _ rfl hM 0 rfl (rowTab _ _ rfl) (by omega) ?_); (simp only [er])) | (have _t := tk_b2; refine wpList_zero rfl _ rfl (zeroTab _ _ _ rfl) hM ?_; intro b2 W' hb2 hM'; clear hM tk_b2; have hM := hM'; clear hM') | (refine wpList_lay rfl _ _ _ rfl _ _ rfl _ _ rfl hM 0 rfl (by assumption) (rowTab _ _ rfl) (by omega) ?_ ?_; (first | (intro _ _; rfl) | (intro k _; exact h1 _) | (intro k _; simp only [lay, upd]; (repeat' split) <;> first | exact h1 _ | rfl)); intro W' hM'; clear hM; have hM := hM'; clear hM'; simp only [List.set] at hM))
      have hM2 := hM.re 0 rfl (sp (u : Int) (v : Int)) (fun k hk => by simp [lay, hk])
      simp only [List.set_cons_zero] at hM2
      have k0 := hM2.at0.cell (show 0 < 2 by omega)
      have k1 := hM2.at0.cell (show 1 < 2 by omega)
      change _ = some (Value.int .i8 (u : Int)) at k0
      change _ = some (Value.int .i8 (v : Int)) at k1
      have hb := hM2.below
      have hJ2 := HJ.out pre _ _ none hJ0.out ⟨hb.os, hb.tape, hb.output, hb.size, fun k hk _ => hb.block k hk⟩ (fun r e => by cases e)
      have hBl := hM2.ats 1 _ _ _ rfl
      have hAh := hM2.ats 2 _ _ _ rfl
      clear hM hM2 hb hJ0
      obtain ⟨fn, tmps, assign, body, hy, hR⟩ := hY pre ⟨(u, v), hu, hv⟩ _ hJ2 (by rw [Hl.out]; exact hlt)
      dsimp only [encC] at hy
      have hsp : #[Value.int .i8 (u : Int), Value.int .i8 (v : Int)] = arr 2 (sp u v) := rfl
      gi_wp2
      refine hR.mono ?_
      rintro e W3 (⟨rfl, hJ3, hk3⟩ | ⟨rfl, hJx3⟩)
      · gi_wp2
        go_roundw
        case rel => exact (⟨k + 1, by omega, by go_num, _, Hx.out, hJ3, hk3 (bh, 1, fun _ => .slice (some ⟨bl, 0, none⟩) n c) (by simp) hAh, hk3 (bl, N, sps s) (by simp) hBl⟩ : ValsAt J bh bl N n c s _ _)
        case measure => simp [intOf]; omega
      · gi_wp2
        refine bodyPost_ret (results_none rfl _ _ _) rfl ?_
        exact ⟨⟨_, rfl⟩, .inr ⟨_, ⟨k + 1, by omega, Hx.out⟩, hJx3⟩⟩
    · obtain rfl : k = n := by omega
      gi_wp2
      go_end0
      exact ⟨⟨_, rfl⟩, .inl ⟨pre, hpre, hJ⟩⟩

theorem values_stops (bh bl N n c : Nat) (s : Nat → Int × Int) (hN : n * 2 ≤ N) (hn : n ≤ maxLen) (hne : bl ≠ bh) (hc : ∀ k, k < n → ∃ u v : Nat, u < 10 ∧ v < 10 ∧ s k = ((u : Int), (v : Int))) (w : World) (hA : At w bh 1 (fun _ => .slice (some ⟨bl, 0, none⟩) n c)) (hB : At w bl N (sps s)) :
    SeqStopsK Fence.wide 2 Tryd.prog 129 #[.pointer (some ⟨bh, 0, none⟩)] (encC (W := 10) (H := 10)) (KpL (valsK bh bl N n c s)) (fun xs => xs.map (·.1) = cellsL s n) (fun pre => ∃ i, i ≤ n ∧ pre.map (·.1) = cellsL s i) n w :=
  fun l J Jx W' hb hJa _ hY h0 => values1_in 2 (by omega) l bh bl N n c s hN hn hne hc _ J Jx hJa hY W' (hA.below hb hA.lt) (hB.below hb hB.lt) h0

def ValsGiven (bl n c : Nat) (w : World) (e : Ending) (w' : World) : Prop := ∃ b, e = .returned (.func (.func 129) #[] #[.pointer (some ⟨b, 0, none⟩)]) ∧ w.heap.size ≤ b ∧ At w' b 1 (fun _ => .slice (some ⟨bl, 0, none⟩) n c) ∧ Below w.heap.size w w'
theorem values_any (bl n c : Nat) (w : World) : Calls Tryd.prog 82 #[.slice (some ⟨bl, 0, none⟩) n c] w (ValsGiven bl n c w) := by
  have hM := Mem.nil w
  have tk_b1 : True := trivial
  go_enter Tryd.func82, Tryd.ntmps82
  go_wp2_with (first | (have _t := tk_b1; refine wpList_box1 rfl _ _ rfl _ rfl rfl hM ?_; intro b1 W' hb1 hM'; clear hM tk_b1; have hM := hM'; clear hM'))
  go_ret
  exact ⟨b1, rfl, hb1, hM.at0, hM.below⟩

set_option maxRecDepth 100000 in
theorem sumGrass_list (g : Nat → Int) (hg : Fits g) (hgr : ∀ k, k < 100 → 0 ≤ g (2 + k) ∧ g (2 + k) ≤ 1000) (bh bl N n c : Nat) (s : Nat → Int × Int) (hN : n * 2 ≤ N) (hn : n ≤ 1048576) (hc : ∀ k, k < n → ∃ u v : Nat, u < 10 ∧ v < 10 ∧ s k = ((u : Int), (v : Int))) (w : World) (hA : At w bh 1 (fun _ => .slice (some ⟨bl, 0, none⟩) n c)) (hB : At w bl N (sps s)) (hne : bh ≠ bl) :
    Calls Tryd.prog 138 #[.agg (arr 122 (pas g)), .func (.func 129) #[] #[.pointer (some ⟨bh, 0, none⟩)]] w fun e w' => e = .returned (.int .i64 (sumL g (cellsL s n))) ∧ Below w.heap.size w w' := by
  refine sumGrass_kept (α := Cell 10 10) g hg hgr (fun c => c.1) (fun c => c.2) (valsK bh bl N n c s)
    (enters_of Tryd.func129 (by kernel_rfl) rfl) (N := n) (by omega) _ (fun xs hS => ?_) w ?_
    (fun W1 h => values_stops bh bl N n c s hN (by unfold maxLen; omega) (Ne.symm hne) hc W1 (h (bh, 1, fun _ => .slice (some ⟨bl, 0, none⟩) n c) (by simp)) (h (bl, N, sps s) (by simp)))
  · rw [show xs.map (fun c => c.1) = cellsL s n from hS]
  · exact ((Mem.nil w).old hA (fun i p h => by simp at h)).old hB (fun i p h => by
      match i, h with
      | 0, h => simp at h; rw [← h]; exact hne
      | _ + 1, h => simp at h)
end Go.Proofs.YtbmaljhnldepoaaDoor

/-
  slices.Values of lists that functions gave (more room than cells, or none), and sumGrass over them.
-/
namespace Go.Proofs.YtbmaljhnldepoaaDoor
open Go Go.RowKit Go.Shelf Go.BigFrame
attribute [local go_sem] Oper.semAt_some

/-- The header that the iterator holds, and the cells. -/
abbrev valsF (bh bl N n c : Nat) (F : Nat → Value) : Blocks := [(bh, 1, fun _ => .slice (some ⟨bl, 0, none⟩) n c), (bl, N, F)]
def ValsFIn (J : List (Cell 10 10) → World → Prop) (bh bl N n c : Nat) (s : Nat → Int × Int) (F : Nat → Value) (i : Nat) (wr : World) : Prop :=
  ∃ pre : List (Cell 10 10), pre.map (·.1) = cellsL s i ∧ J pre wr ∧ At wr bh 1 (fun _ => .slice (some ⟨bl, 0, none⟩) n c) ∧ At wr bl N F
def ValsFAt (J : List (Cell 10 10) → World → Prop) (bh bl N n c : Nat) (s : Nat → Int × Int) (F : Nat → Value) (i : Value) (wr : World) : Prop := ∃ k : Nat, k ≤ n ∧ i = .int .i64 k ∧ ValsFIn J bh bl N n c s F k wr

set_option maxRecDepth 100000 in
set_option maxHeartbeats 1000000 in
theorem values1F_in (nn : Nat) (hnn : 1 ≤ nn) (l bh bl N n c : Nat) (s : Nat → Int × Int) (F : Nat → Value) (hF : ∀ j, j < n * 2 → F j = sps s j) (hN : n * 2 ≤ N) (hn : n ≤ maxLen) (hne : bl ≠ bh) (hc : ∀ k, k < n → ∃ u v : Nat, u < 10 ∧ v < 10 ∧ s k = ((u : Int), (v : Int))) (B : Nat)
    (J Jx : List (Cell 10 10) → World → Prop) (hJa : AbidesFrom B J)
    (hY : ∀ pre x W1, J pre W1 → pre.length < n → YieldAt Fence.wide (nn - 1) Tryd.prog l (encC x) W1 fun e W' =>
      (e = .returned (.bool true) ∧ J (pre ++ [x]) W' ∧ KpL (valsF bh bl N n c F) W1 W') ∨ (e = .returned (.bool false) ∧ Jx (pre ++ [x]) W'))
    (w : World) (hA : At w bh 1 (fun _ => .slice (some ⟨bl, 0, none⟩) n c)) (hB : At w bl N F) (h0 : J [] w) :
    CallsIn Fence.wide nn Tryd.prog 129 #[.func (.yield l) #[] #[], .pointer (some ⟨bh, 0, none⟩)] w fun e W' => (∃ v, e = .returned v) ∧
      ((∃ xs : List (Cell 10 10), xs.map (·.1) = cellsL s n ∧ J xs W') ∨ (∃ pre : List (Cell 10 10), (∃ i, i ≤ n ∧ pre.map (·.1) = cellsL s i) ∧ Jx pre W')) := by
  refine callsIn_of_wp Tryd.func129 rfl trivial ?_ rfl
  simp only [Tryd.ntmps129, List.size_toArray, List.length_cons, List.length_nil, Nat.reduceAdd, Nat.reduceSub, Array.replicate_succ, Array.replicate_zero, List.push_toArray, List.append_toArray, List.nil_append, List.cons_append]
  have c1 : w.cell? ⟨bh, 0, none⟩ = some (.slice (some ⟨bl, 0, none⟩) n c) := hA.cell (by omega)
  have HF := Lib.hid hF
  have Hc := Lib.hid hc
  have HJ := Lib.hid hJa
  unfold maxLen at hn
  clear hc hJa hF
  gi_wp2
  gi_loopw [7] (fun i wr => ValsFAt J bh bl N n c s F i wr) (fun i _ => n - (intOf i).toNat)
  case atStart => exact ⟨0, by omega, rfl, [], rfl, h0, hA, hB⟩
  case round =>
    clear c1
    obtain ⟨k, hk, rfl, pre, hpre, hJ, hAr, hBr⟩ := hrel
    by_cases hlt : k < n
    · have l2 : (k : Int) < n := by omega
      obtain ⟨u, v, hu, hv, hs⟩ := Hc.out k hlt
      have er : arr 2 (fun j => F (k * 2 + j)) = arr 2 (sp u v) := arr_congr fun j hj => by rw [HF.out (k * 2 + j) (by omega), sps_row s k j hj, hs]
      have hM : Mem wr [(bl, N, F), (bh, 1, fun _ => .slice (some ⟨bl, 0, none⟩) n c)] wr := ((Mem.nil wr).old hBr (fun i p h => by simp at h)).old hAr (fun i p h => by
        match i, h with
        | 0, h => simp at h; rw [← h]; exact hne
        | _ + 1, h => simp at h)
      have hlen : pre.length = k := by have := congrArg List.length hpre; simpa [cellsL] using this
      have hnext : (pre ++ [(⟨(u, v), hu, hv⟩ : Cell 10 10)]).map (·.1) = cellsL s (k + 1) := by
        rw [List.map_append, hpre, cellsL_succ hs]; rfl
      have Hl := Lib.hid hlen
      have Hx := Lib.hid hnext
      have hJ0 := Lib.hid hJ
      clear hlen hnext hJ hAr hBr hs
      have tk_b2 : True := trivial
      repeat ((fail_if_success (refine wpIn_tag2 ?_)); (first | go_values | gi_guarded | gi_step | gi_upon | (simp only [Int.not_lt, Int.not_le] at *; go_simp)))
      refine wpIn_tag2 ?_
      refine ⟨wpIn_wide.2 ?_⟩
      go_wp2_with (first | ((refine wpList_get rfl _ _ rfl _ _ rfl hM 0 rfl (rowTab _ _ rfl) (by omega) ?_); (simp only [er])) | (have _t := tk_b2; refine wpList_zero rfl _ rfl (zeroTab _ _ _ rfl) hM ?_; intro b2 W' hb2 hM'; clear hM tk_b2; have hM := hM'; clear hM') | (refine wpList_lay rfl _ _ _ rfl _ _ rfl _ _ rfl hM 0 rfl (by assumption) (rowTab _ _ rfl) (by omega) ?_ ?_; (first | (intro _ _; rfl) | (intro k _; exact h1 _) | (intro k _; simp only [lay, upd]; (repeat' split) <;> first | exact h1 _ | rfl)); intro W' hM'; clear hM; have hM := hM'; clear hM'; simp only [List.set] at hM))
      have hM2 := hM.re 0 rfl (sp (u : Int) (v : Int)) (fun k hk => by simp [lay, hk])
      simp only [List.set_cons_zero] at hM2
      have k0 := hM2.at0.cell (show 0 < 2 by omega)
      have k1 := hM2.at0.cell (show 1 < 2 by omega)
      change _ = some (Value.int .i8 (u : Int)) at k0
      change _ = some (Value.int .i8 (v : Int)) at k1
      have hb := hM2.below
      have hJ2 := HJ.out pre _ _ none hJ0.out ⟨hb.os, hb.tape, hb.output, hb.size, fun k hk _ => hb.block k hk⟩ (fun r e => by cases e)
      have hBl := hM2.ats 1 _ _ _ rfl
      have hAh := hM2.ats 2 _ _ _ rfl
      clear hM hM2 hb hJ0
      obtain ⟨fn, tmps, assign, body, hy, hR⟩ := hY pre ⟨(u, v), hu, hv⟩ _ hJ2 (by rw [Hl.out]; exact hlt)
      dsimp only [encC] at hy
      have hsp : #[Value.int .i8 (u : Int), Value.int .i8 (v : Int)] = arr 2 (sp u v) := rfl
      gi_wp2
      refine hR.mono ?_
      rintro e W3 (⟨rfl, hJ3, hk3⟩ | ⟨rfl, hJx3⟩)
      · gi_wp2
        go_roundw
        case rel => exact (⟨k + 1, by omega, by go_num, _, Hx.out, hJ3, hk3 (bh, 1, fun _ => .slice (some ⟨bl, 0, none⟩) n c) (by simp) hAh, hk3 (bl, N, F) (by simp) hBl⟩ : ValsFAt J bh bl N n c s F _ _)
        case measure => simp [intOf]; omega
      · gi_wp2
        refine bodyPost_ret (results_none rfl _ _ _) rfl ?_
        exact ⟨⟨_, rfl⟩, .inr ⟨_, ⟨k + 1, by omega, Hx.out⟩, hJx3⟩⟩
    · obtain rfl : k = n := by omega
      gi_wp2
      go_end0
      exact ⟨⟨_, rfl⟩, .inl ⟨pre, hpre, hJ⟩⟩

theorem valuesF_stops (bh bl N n c : Nat) (s : Nat → Int × Int) (F : Nat → Value) (hF : ∀ j, j < n * 2 → F j = sps s j) (hN : n * 2 ≤ N) (hn : n ≤ maxLen) (hne : bl ≠ bh) (hc : ∀ k, k < n → ∃ u v : Nat, u < 10 ∧ v < 10 ∧ s k = ((u : Int), (v : Int))) (w : World) (hA : At w bh 1 (fun _ => .slice (some ⟨bl, 0, none⟩) n c)) (hB : At w bl N F) :
    SeqStopsK Fence.wide 2 Tryd.prog 129 #[.pointer (some ⟨bh, 0, none⟩)] (encC (W := 10) (H := 10)) (KpL (valsF bh bl N n c F)) (fun xs => xs.map (·.1) = cellsL s n) (fun pre => ∃ i, i ≤ n ∧ pre.map (·.1) = cellsL s i) n w :=
  fun l J Jx W' hb hJa _ hY h0 => values1F_in 2 (by omega) l bh bl N n c s F hF hN hn hne hc _ J Jx hJa hY W' (hA.below hb hA.lt) (hB.below hb hB.lt) h0

set_option maxRecDepth 100000 in
theorem sumGrass_listF (g : Nat → Int) (hg : Fits g) (hgr : ∀ k, k < 100 → 0 ≤ g (2 + k) ∧ g (2 + k) ≤ 1000) (bh bl N n c : Nat) (s : Nat → Int × Int) (F : Nat → Value) (hF : ∀ j, j < n * 2 → F j = sps s j) (hN : n * 2 ≤ N) (hn : n ≤ 1048576) (hc : ∀ k, k < n → ∃ u v : Nat, u < 10 ∧ v < 10 ∧ s k = ((u : Int), (v : Int))) (w : World) (hA : At w bh 1 (fun _ => .slice (some ⟨bl, 0, none⟩) n c)) (hB : At w bl N F) (hne : bh ≠ bl) :
    Calls Tryd.prog 138 #[.agg (arr 122 (pas g)), .func (.func 129) #[] #[.pointer (some ⟨bh, 0, none⟩)]] w fun e w' => e = .returned (.int .i64 (sumL g (cellsL s n))) ∧ Below w.heap.size w w' := by
  refine sumGrass_kept (α := Cell 10 10) g hg hgr (fun c => c.1) (fun c => c.2) (valsF bh bl N n c F)
    (enters_of Tryd.func129 (by kernel_rfl) rfl) (N := n) (by omega) _ (fun xs hS => ?_) w ?_
    (fun W1 h => valuesF_stops bh bl N n c s F hF hN (by unfold maxLen; omega) (Ne.symm hne) hc W1 (h (bh, 1, fun _ => .slice (some ⟨bl, 0, none⟩) n c) (by simp)) (h (bl, N, F) (by simp)))
  · rw [show xs.map (fun c => c.1) = cellsL s n from hS]
  · exact ((Mem.nil w).old hA (fun i p h => by simp at h)).old hB (fun i p h => by
      match i, h with
      | 0, h => simp at h; rw [← h]; exact hne
      | _ + 1, h => simp at h)

/-- An iterator over no cells. -/
theorem values1_nil (nn : Nat) (l bh : Nat) (B : Nat) (J Jx : List (Cell 10 10) → World → Prop) (_hJa : AbidesFrom B J)
    (w : World) (hA : At w bh 1 (fun _ => .slice none 0 0)) (h0 : J [] w) :
    CallsIn Fence.wide nn Tryd.prog 129 #[.func (.yield l) #[] #[], .pointer (some ⟨bh, 0, none⟩)] w fun e W' => (∃ v, e = .returned v) ∧
      ((∃ xs : List (Cell 10 10), xs = [] ∧ J xs W') ∨ (∃ pre : List (Cell 10 10), pre = [] ∧ Jx pre W')) := by
  refine callsIn_of_wp Tryd.func129 rfl trivial ?_ rfl
  simp only [Tryd.ntmps129, List.size_toArray, List.length_cons, List.length_nil, Nat.reduceAdd, Nat.reduceSub, Array.replicate_succ, Array.replicate_zero, List.push_toArray, List.append_toArray, List.nil_append, List.cons_append]
  have c1 : w.cell? ⟨bh, 0, none⟩ = some (.slice none 0 0) := hA.cell (by omega)
  gi_wp2
  gi_loopw [7] (fun i wr => i = .int .i64 0 ∧ J [] wr) (fun _ _ => 0)
  case atStart => exact ⟨rfl, h0⟩
  case round =>
    clear c1
    obtain ⟨rfl, hJ⟩ := hrel
    gi_wp2
    go_end0
    exact ⟨⟨_, rfl⟩, .inl ⟨[], rfl, hJ⟩⟩
theorem values_nil_stops (bh : Nat) (w : World) (hA : At w bh 1 (fun _ => .slice none 0 0)) :
    SeqStopsK Fence.wide 2 Tryd.prog 129 #[.pointer (some ⟨bh, 0, none⟩)] (encC (W := 10) (H := 10)) (KpL [(bh, 1, fun _ => .slice none 0 0)]) (fun xs => xs = []) (fun pre => pre = []) 0 w :=
  fun l J Jx W' hb hJa _ _ h0 => values1_nil 2 l bh _ J Jx hJa W' (hA.below hb hA.lt) h0
set_option maxRecDepth 100000 in
theorem sumGrass_nil (g : Nat → Int) (hg : Fits g) (hgr : ∀ k, k < 100 → 0 ≤ g (2 + k) ∧ g (2 + k) ≤ 1000) (bh : Nat) (w : World) (hA : At w bh 1 (fun _ => .slice none 0 0)) :
    Calls Tryd.prog 138 #[.agg (arr 122 (pas g)), .func (.func 129) #[] #[.pointer (some ⟨bh, 0, none⟩)]] w fun e w' => e = .returned (.int .i64 0) ∧ Below w.heap.size w w' := by
  refine sumGrass_kept (α := Cell 10 10) g hg hgr (fun c => c.1) (fun c => c.2) [(bh, 1, fun _ => .slice none 0 0)]
    (enters_of Tryd.func129 (by kernel_rfl) rfl) (N := 0) (by omega) _ (fun xs hS => ?_) w ?_
    (fun W1 h => values_nil_stops bh W1 (h (bh, 1, fun _ => .slice none 0 0) (by simp)))
  · rw [show xs = [] from hS]; rfl
  · exact (Mem.nil w).old hA (fun i p h => by simp at h)
def ValsNil (w : World) (e : Ending) (w' : World) : Prop := ∃ b, e = .returned (.func (.func 129) #[] #[.pointer (some ⟨b, 0, none⟩)]) ∧ w.heap.size ≤ b ∧ At w' b 1 (fun _ => .slice none 0 0) ∧ Below w.heap.size w w'
theorem values_nil_any (w : World) : Calls Tryd.prog 82 #[.slice none 0 0] w (ValsNil w) := by
  have hM := Mem.nil w
  have tk_b1 : True := trivial
  go_enter Tryd.func82, Tryd.ntmps82
  go_wp2_with (first | (have _t := tk_b1; refine wpList_box1 rfl _ _ rfl _ rfl rfl hM ?_; intro b1 W' hb1 hM'; clear hM tk_b1; have hM := hM'; clear hM'))
  go_ret
  exact ⟨b1, rfl, hb1, hM.at0, hM.below⟩
end Go.Proofs.YtbmaljhnldepoaaDoor

/-
  Sums of grass: spec.l01Sum and (impl.Pasture).sumGrass by contracts.
-/
namespace Go.Proofs.YtbmaljhnldepoaaDoor
open Go Go.RowKit Go.Shelf Go.BigFrame

set_option maxRecDepth 100000 in
set_option maxHeartbeats 1000000 in
theorem l01Sum_any (g : Nat → Int) (hg : Fits g) (hb : ∀ k, k < 100 → 0 ≤ g (2 + k) ∧ g (2 + k) ≤ 1000) (bp : Nat) (w : World) (hA : At w bp 122 (pas g)) :
    Calls Tryd.prog 101 #[.pointer (some ⟨bp, 0, none⟩)] w fun e w' => e = .returned (.int .i64 (sumN 100 (fun k => g (2 + k)))) ∧ Below w.heap.size w w' := by
  have hM : Mem w [(bp, 122, pas g)] w := (Mem.nil w).old hA (fun i p h => by simp at h)
  have Hb := Lib.hid hb
  clear hA hb
  go_enter Tryd.func101, Tryd.ntmps101
  go_wp2
  go_loopw [3, 4] (fun s y wr => ∃ k : Nat, k ≤ 10 ∧ y = .int .i64 k ∧ s = .int .i64 (sumN (k * 10) (fun k => g (2 + k))) ∧ Mem w [(bp, 122, pas g)] wr) (fun _ y _ => 10 - (intOf y).toNat)
  case atStart => exact ⟨0, by omega, rfl, rfl, hM⟩
  case round =>
    clear hM
    obtain ⟨k, hk, rfl, rfl, hM⟩ := hrel
    by_cases hlt : k < 10
    · have hkd : decide ((k : Int) < 10) = true := decide_eq_true (by omega)
      go_wp2
      go_loopw [3, 5] (fun s x wr => ∃ j : Nat, j ≤ 10 ∧ x = .int .i64 j ∧ s = .int .i64 (sumN (k * 10 + j) (fun k => g (2 + k))) ∧ Mem w [(bp, 122, pas g)] wr) (fun _ x _ => 10 - (intOf x).toNat)
      case atStart => exact ⟨0, by omega, rfl, rfl, hM⟩
      case round =>
        clear hM
        obtain ⟨j, hj, rfl, rfl, hM⟩ := hrel
        by_cases hjl : j < 10
        · have lj : (j : Int) < 10 := by omega
          have lk : (k : Int) < 10 := by omega
          have hs := sumN_bounds (n := k * 10 + j) (f := fun k => g (2 + k)) (m := 1000) (by omega) (fun i hi => Hb.out i (by omega))
          have hr := Hb.out (k * 10 + j) (by omega)
          have e0 : pas g (2 + k * 10 + j) = .int .i16 (g (2 + (k * 10 + j))) := by rw [pas_i16 g (by omega) (by omega), Nat.add_assoc]
          have c0 : IntKind.i64.wrap (g (2 + (k * 10 + j))) = g (2 + (k * 10 + j)) := IntWalk.i64_in _ (by omega)
          have c1 : IntKind.i64.wrap (sumN (k * 10 + j) (fun k => g (2 + k)) + g (2 + (k * 10 + j))) = sumN (k * 10 + j) (fun k => g (2 + k)) + g (2 + (k * 10 + j)) := IntWalk.i64_in _ (by omega)
          clear hs hr
          go_wp2_with (refine wpList_get1 rfl _ _ rfl _ _ rfl hM 0 rfl (cellTab _ rfl) (by omega) _ e0 ?_)
          go_roundw
          case rel => exact ⟨j + 1, by omega, by go_num, rfl, hM⟩
          case measure => simp [intOf]; omega
        · obtain rfl : j = 10 := by omega
          go_wp2
          go_roundw
          case rel => exact ⟨k + 1, by omega, by go_num, by rw [Nat.add_mul, Nat.one_mul], hM⟩
          case measure => simp [intOf]; omega
    · obtain rfl : k = 10 := by omega
      go_wp2
      go_ret
      exact ⟨rfl, hM.below⟩

set_option maxRecDepth 100000 in
set_option maxHeartbeats 2000000 in
/-- sumGrass over an iterator of cells, told by its contract; what it holds lies in one block. -/
theorem sumGrass_seq {α : Type} (g : Nat → Int) (hg : Fits g) (hb : ∀ k, k < 100 → 0 ≤ g (2 + k) ∧ g (2 + k) ≤ 1000) (cell : α → Nat × Nat) (hc : ∀ x, (cell x).1 < 10 ∧ (cell x).2 < 10)
    {gf : Nat} {lb : Array Value} {S Sp : List α → Prop} {N : Nat} (bi ni : Nat) (fi : Nat → Value) (eg : ∀ args w, (callFunc gf args).run Tryd.prog w = .ok (.enter gf args) w) (hN : N ≤ 2 ^ 40) (T : Int) (hS : ∀ xs, S xs → sumL g (xs.map cell) = T)
    (w : World) (hA : At w bi ni fi)
    (hseq : ∀ W1, At W1 bi ni fi → SeqStopsK Fence.wide 2 Tryd.prog gf lb (fun x => #[.agg (arr 2 (sp ((cell x).1 : Int) ((cell x).2 : Int)))]) (fun A B => At A bi ni fi → At B bi ni fi) S Sp N W1) :
    Calls Tryd.prog 138 #[.agg (arr 122 (pas g)), .func (.func gf) #[] lb] w fun e w' => e = .returned (.int .i64 T) ∧ Below w.heap.size w w' := by
  have hM : Mem w [(bi, ni, fi)] w := (Mem.nil w).old hA (fun i p h => by simp at h)
  have Hb := Lib.hid hb
  have Hc := Lib.hid hc
  have HS := Lib.hid hS
  have Hq := Lib.hid hseq
  have HN := Lib.hid hN
  clear hA hb hc hS hseq hN
  refine (callsIn_wide (n := 3)).1 ?_
  refine callsIn_of_wp_marks Tryd.func138 rfl trivial ?_ rfl
  simp only [Tryd.ntmps138, List.size_toArray, List.length_cons, List.length_nil, Nat.reduceAdd, Nat.reduceSub, Array.replicate_succ, Array.replicate_zero, List.push_toArray, List.append_toArray, List.nil_append, List.cons_append]
  refine wpIn_wide.2 ?_
  have tk_b1 : True := trivial; have tk_b2 : True := trivial
  go_wp2_with (first | (have _t := tk_b1; refine wpList_box rfl _ _ rfl _ _ rfl hM ?_; intro b1 W' hb1 hM'; clear hM tk_b1; have hM := hM'; clear hM') | (have _t := tk_b2; refine wpList_zero1 rfl _ rfl (zero1Tab _ _ rfl) rfl hM ?_; intro b2 W' hb2 hM'; clear hM tk_b2; have hM := hM'; clear hM') | (refine wpList_set1 rfl _ _ _ rfl _ _ rfl _ rfl ?_ hM 0 rfl (by assumption) (cellTab _ rfl) (by omega) ?_; (first | rfl | exact h1 _); intro W' hM'; clear hM; have hM := hM'; clear hM'; simp [List.set, Act.eval] at hM))
  have hM1 := hM.re 0 rfl (fun _ => .int .i64 (sumL g [])) (fun k hk => sum_start g k hk)
  simp only [List.set_cons_zero] at hM1
  clear hM
  refine (wpIn_wide (n := 3)).1 ?_
  refine range_spots (α := α) (px := fun c => ((cell c).1 : Int)) (py := fun c => ((cell c).2 : Int)) (ks := [b2, b1, bi]) (gf := gf) (lb := lb)
    (fun pre => [(b2, 1, fun _ => .int .i64 (sumL g (pre.map cell))), (b1, 122, pas g), (bi, ni, fi)])
    rfl eg (Hq.out _ (hM1.ats 2 _ _ _ rfl)) (fun {A B C} h k x => k (h x)) (fun X l o o' h ho hA => hA.grown (grownBy_putObj' X l o') (fun r e => by cases e; exact ⟨o, h, ho⟩))
    (fun _ => rfl) (fun _ _ _ _ _ _ _ h2 _ => h2.ats 3 _ _ _ rfl) rfl rfl rfl rfl rfl rfl (by decide) (by simp) (by simp) hM1 ?body ?done
  case body =>
    intro l pre x bx X hbx hM hlen
    clear hM1
    dsimp only at hM ⊢
    generalize hxu : cell x = s at *
    obtain ⟨u, v⟩ := s
    have hcx := Hc.out x
    rw [hxu] at hcx
    dsimp only at hcx hM ⊢
    have hr := Hb.out (v * 10 + u) (by omega)
    have hs := sumL_bounds Hb.out (pre.map cell) (fun s hs => by obtain ⟨c, _, rfl⟩ := List.mem_map.1 hs; exact Hc.out c)
    have hl : (pre.map cell).length ≤ 2 ^ 40 := by have := HN.out; simp only [List.length_map]; omega
    rw [← Nat.add_assoc] at hr
    have c1 : IntKind.i64.wrap (sumL g (pre.map cell) + g (2 + v * 10 + u)) = sumL g (pre.map cell) + g (2 + v * 10 + u) := IntWalk.i64_in _ (by omega)
    have Hx := Lib.hid hxu
    clear hr hs hl hlen hxu
    refine wpIn_block ?_
    ((try simp only [Act.put, List.setIfInBounds_toArray, List.set_cons_succ, List.set_cons_zero]); refine region_round_head (m := 5) (fun ⟨_, _, h⟩ => h) rfl (by kernel_rfl) (by kernel_rfl) hM ?_; clear hM; simp only [List.take_succ_cons, List.take_zero, List.drop_succ_cons, List.drop_zero]; (repeat (first | go_big_quiet_skip | (go_big_quiet_want; first | (refine quiet_get _ _ rfl _ _ rfl 2 rfl (rowTab _ _ rfl) (by omega) ?_; (simp only [Act.put, List.setIfInBounds_toArray, List.set_cons_succ, List.set_cons_zero]); go_big_quiet_on) | (refine quiet_get _ _ rfl _ _ rfl 0 rfl (rowTab _ _ rfl) (by omega) ?_; (simp only [Act.put, List.setIfInBounds_toArray, List.set_cons_succ, List.set_cons_zero]); go_big_quiet_on) | (refine quiet_get1 _ _ rfl _ _ rfl 1 rfl (cellTab _ rfl) (by omega) (.int .i64 (sumL g (pre.map cell))) rfl ?_; (simp only [Act.put, List.setIfInBounds_toArray, List.set_cons_succ, List.set_cons_zero]); go_big_quiet_on) | (refine quiet_call ?_; apply Exists.intro; apply Exists.intro; apply Exists.intro; refine ⟨fun W => ?_, fun W hM => ?_, ?_⟩; (go_simp; exact ⟨rfl, rfl⟩); (exact grassAt_any g hg u v hcx.1 hcx.2 W); (simp only [Act.put, List.setIfInBounds_toArray, List.set_cons_succ, List.set_cons_zero]); go_big_quiet_on) | (refine quiet_val ?_; apply Exists.intro; refine ⟨fun W => ?_, ?_⟩; (go_simp; (try simp only [c1, if_true, Bool.false_eq_true, if_false]); rfl); (simp only [Act.put, List.setIfInBounds_toArray, List.set_cons_succ, List.set_cons_zero]); go_big_quiet_on)))); (with_reducible refine wpQuiet_nil ?_); intro W' hM)
    go_wp2_with (first | (refine wpList_set1 rfl _ _ _ rfl _ _ rfl _ rfl ?_ hM 1 rfl (by assumption) (cellTab _ rfl) (by omega) ?_; (first | rfl | exact h1 _); intro W' hM'; clear hM; have hM := hM'; clear hM'; simp [List.set, Act.eval] at hM))
    show Mem _ _ _
    have hM2 := hM.re 1 rfl (fun _ => .int .i64 (sumL g ((pre ++ [x]).map cell))) (fun k hk => by
      obtain rfl : k = 0 := by omega
      rw [List.map_append, List.map_singleton, Hx.out, sumL_snoc]; rfl)
    exact hM2
  case done =>
    rename_i K7 hK7
    intro D xs X hD hS hM hK
    have hsz : w.heap.size ≤ W'.heap.size := hM1.size
    rw [HS.out xs hS] at hM
    have hM' : Mem (Base.round w W'.heap.size X) _ X := hM.base ⟨hM.below, KeepsFrom.refl _ _⟩
    clear hM hM1
    have hM := hM'
    clear hM'
    show K7 _ _
    refine hK7 _ _ ?_
    dsimp only
    go_wp2_with (first | (refine wpList_get1 rfl _ _ rfl _ _ rfl hM 0 rfl (cellTab _ rfl) (by omega) _ rfl ?_))
    have hK' := hM.good.2.same D _ hD hK rfl
    exact leave_marks hK' (.int .i64 T) (by rw [results_tmp rfl]; rfl) ⟨rfl, below_mark hM.good.1 (Nat.le_trans hsz hD)⟩
end Go.Proofs.YtbmaljhnldepoaaDoor

/-
  The sum of all grass by impl's iterator of cells.
-/
namespace Go.Proofs.YtbmaljhnldepoaaDoor
open Go Go.RowKit Go.Shelf Go.BigFrame

set_option maxRecDepth 100000 in
theorem sumGrass_cells (g : Nat → Int) (hg : Fits g) (ho : okB g = true) (bp : Nat) (w : World) (hA : At w bp 122 (pas g)) :
    Calls Tryd.prog 138 #[.agg (arr 122 (pas g)), .func (.func 148) #[] #[.pointer (some ⟨bp, 0, none⟩)]] w fun e w' => e = .returned (.int .i64 (sumN 100 (fun k => g (2 + k)))) ∧ Below w.heap.size w w' := by
  have ho' := ho
  unfold okB at ho'
  rw [Bool.and_eq_true, Bool.and_eq_true] at ho'
  have b0 := inB_true ho'.1.1
  have b1 := inB_true ho'.1.2
  have h0 : g 0 = ((g 0).toNat : Nat) := by omega
  have h1 : g 1 = ((g 1).toNat : Nat) := by omega
  refine sumGrass_seq (α := Cell (g 0).toNat (g 1).toNat) g hg (fun k hk => (ok_grass ho k hk).1) (fun c => c.1) (fun c => ⟨by have := c.2.1; omega, by have := c.2.2; omega⟩) bp 122 (pas g)
    (enters_of Tryd.func148 (by kernel_rfl) rfl) (N := (g 0).toNat * (g 1).toNat) ?_ _ (fun xs hS => ?_) w hA
    (fun W1 hA1 => cells_stops Fence.wide 2 trivial rfl (by omega) bp (g 0).toNat (g 1).toNat (by omega) (by omega) g h0 h1 W1 hA1)
  · have := Nat.mul_le_mul (show (g 0).toNat ≤ 10 by omega) (show (g 1).toNat ≤ 10 by omega)
    omega
  · rw [show xs.map (fun c => c.1) = upto (g 0).toNat ((g 0).toNat * (g 1).toNat) from hS]
    exact sumL_all ho _ _ h0 h1 (by omega) (by omega)

end Go.Proofs.YtbmaljhnldepoaaDoor

/-
  A number and a code, as results.
-/
namespace Go.Proofs.YtbmaljhnldepoaaDoor
open Go Go.RowKit

/-- A number and a code. -/
def numR (n c : Int) : Value := .tuple #[.int .i64 n, .int .i64 c]
theorem numR_eq (n c : Int) : numR n c = .tuple #[.int .i64 n, .int .i64 c] := rfl
theorem ret_num {n n' c c' : Int} (h : n = n') (h' : c = c') : Ending.returned (.tuple #[.int .i64 n, .int .i64 c]) = .returned (numR n' c') := by rw [h, h', numR_eq]
end Go.Proofs.YtbmaljhnldepoaaDoor

