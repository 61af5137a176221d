/-
  slices.Values of a list of spots and its iterator, by contract; sumGrass over it.
-/
import Derived.Test.YtdlfhomnlhdacaaDoorAll
import Derived.Test.YtdlfhomnlhdacaaDoorSumK
namespace Go.Proofs.YtdlfhomnlhdacaaDoor
open Go Go.RowKit Go.Shelf Go.BigFrame
attribute [local go_sem] Oper.semAt_some

structure Tagged (p : Prop) : Prop where
  out : p
theorem wpIn_tag2 {F : Fence} {n : Nat} {P : Program} {ops : Array Oper} {m : Bool} {Q : Exit → Act → World → Prop} {a : Act} {w : World} (h : Tagged ((Code.region 2 ops m).wpIn F n P Q a w)) : (Code.region 2 ops m).wpIn F n P Q a w := h.out

/-- The header that the iterator holds, and the cells. -/
abbrev valsK (bh bl N n c : Nat) (s : Nat → Int × Int) : Blocks := [(bh, 1, fun _ => .slice (some ⟨bl, 0, none⟩) n c), (bl, N, sps s)]
def ValsIn (J : List (Cell 10 10) → World → Prop) (bh bl N n c : Nat) (s : Nat → Int × Int) (i : Nat) (wr : World) : Prop :=
  ∃ pre : List (Cell 10 10), pre.map (·.1) = cellsL s i ∧ J pre wr ∧ At wr bh 1 (fun _ => .slice (some ⟨bl, 0, none⟩) n c) ∧ At wr bl N (sps s)
def ValsAt (J : List (Cell 10 10) → World → Prop) (bh bl N n c : Nat) (s : Nat → Int × Int) (i : Value) (wr : World) : Prop := ∃ k : Nat, k ≤ n ∧ i = .int .i64 k ∧ ValsIn J bh bl N n c s k wr

set_option maxRecDepth 100000 in
set_option maxHeartbeats 1000000 in
theorem values1_in (nn : Nat) (hnn : 1 ≤ nn) (l bh bl N n c : Nat) (s : Nat → Int × Int) (hN : n * 2 ≤ N) (hn : n ≤ maxLen) (hne : bl ≠ bh) (hc : ∀ k, k < n → ∃ u v : Nat, u < 10 ∧ v < 10 ∧ s k = ((u : Int), (v : Int))) (B : Nat)
    (J Jx : List (Cell 10 10) → World → Prop) (hJa : AbidesFrom B J)
    (hY : ∀ pre x W1, J pre W1 → pre.length < n → YieldAt Fence.wide (nn - 1) Tryd.prog l (encC x) W1 fun e W' =>
      (e = .returned (.bool true) ∧ J (pre ++ [x]) W' ∧ KpL (valsK bh bl N n c s) W1 W') ∨ (e = .returned (.bool false) ∧ Jx (pre ++ [x]) W'))
    (w : World) (hA : At w bh 1 (fun _ => .slice (some ⟨bl, 0, none⟩) n c)) (hB : At w bl N (sps s)) (h0 : J [] w) :
    CallsIn Fence.wide nn Tryd.prog 98 #[.func (.yield l) #[] #[], .pointer (some ⟨bh, 0, none⟩)] w fun e W' => (∃ v, e = .returned v) ∧
      ((∃ xs : List (Cell 10 10), xs.map (·.1) = cellsL s n ∧ J xs W') ∨ (∃ pre : List (Cell 10 10), (∃ i, i ≤ n ∧ pre.map (·.1) = cellsL s i) ∧ Jx pre W')) := by
  refine callsIn_of_wp Tryd.func98 rfl trivial ?_ rfl
  simp only [Tryd.ntmps98, List.size_toArray, List.length_cons, List.length_nil, Nat.reduceAdd, Nat.reduceSub, Array.replicate_succ, Array.replicate_zero, List.push_toArray, List.append_toArray, List.nil_append, List.cons_append]
  have c1 : w.cell? ⟨bh, 0, none⟩ = some (.slice (some ⟨bl, 0, none⟩) n c) := hA.cell (by omega)
  have Hc := Lib.hid hc
  have HJ := Lib.hid hJa
  unfold maxLen at hn
  clear hc hJa
  gi_wp2
  gi_loopw [7] (fun i wr => ValsAt J bh bl N n c s i wr) (fun i _ => n - (intOf i).toNat)
  case atStart => exact ⟨0, by omega, rfl, [], rfl, h0, hA, hB⟩
  case round =>
    clear c1
    obtain ⟨k, hk, rfl, pre, hpre, hJ, hAr, hBr⟩ := hrel
    by_cases hlt : k < n
    · have l2 : (k : Int) < n := by omega
      obtain ⟨u, v, hu, hv, hs⟩ := Hc.out k hlt
      have er : arr 2 (fun j => sps s (k * 2 + j)) = arr 2 (sp u v) := arr_congr fun j hj => by rw [sps_row s k j hj, hs]
      have hM : Mem wr [(bl, N, sps s), (bh, 1, fun _ => .slice (some ⟨bl, 0, none⟩) n c)] wr := ((Mem.nil wr).old hBr (fun i p h => by simp at h)).old hAr (fun i p h => by
        match i, h with
        | 0, h => simp at h; rw [← h]; exact hne
        | _ + 1, h => simp at h)
      have hlen : pre.length = k := by have := congrArg List.length hpre; simpa [cellsL] using this
      have hnext : (pre ++ [(⟨(u, v), hu, hv⟩ : Cell 10 10)]).map (·.1) = cellsL s (k + 1) := by
        rw [List.map_append, hpre, cellsL_succ hs]; rfl
      have Hl := Lib.hid hlen
      have Hx := Lib.hid hnext
      have hJ0 := Lib.hid hJ
      clear hlen hnext hJ hAr hBr hs
      have tk_b2 : True := trivial
      repeat ((fail_if_success (refine wpIn_tag2 ?_)); (first | go_values | gi_guarded | gi_step | gi_upon | (simp only [Int.not_lt, Int.not_le] at *; go_simp)))
      refine wpIn_tag2 ?_
      refine ⟨wpIn_wide.2 ?_⟩
      go_wp2_with (first | ((refine wpList_get rfl _ _ rfl _ _ rfl hM 0 rfl (rowTab _ _ rfl) (by omega) ?_); (simp only [er])) | (have _t := tk_b2; refine wpList_zero rfl _ rfl (zeroTab _ _ _ rfl) hM ?_; intro b2 W' hb2 hM'; clear hM tk_b2; have hM := hM'; clear hM') | (refine wpList_lay rfl _ _ _ rfl _ _ rfl _ _ rfl hM 0 rfl (by assumption) (rowTab _ _ rfl) (by omega) ?_ ?_; (first | (intro _ _; rfl) | (intro k _; exact h1 _) | (intro k _; simp only [lay, upd]; (repeat' split) <;> first | exact h1 _ | rfl)); intro W' hM'; clear hM; have hM := hM'; clear hM'; simp only [List.set] at hM))
      have hM2 := hM.re 0 rfl (sp (u : Int) (v : Int)) (fun k hk => by simp [lay, hk])
      simp only [List.set_cons_zero] at hM2
      have k0 := hM2.at0.cell (show 0 < 2 by omega)
      have k1 := hM2.at0.cell (show 1 < 2 by omega)
      change _ = some (Value.int .i8 (u : Int)) at k0
      change _ = some (Value.int .i8 (v : Int)) at k1
      have hb := hM2.below
      have hJ2 := HJ.out pre _ _ none hJ0.out ⟨hb.os, hb.tape, hb.output, hb.size, fun k hk _ => hb.block k hk⟩ (fun r e => by cases e)
      have hBl := hM2.ats 1 _ _ _ rfl
      have hAh := hM2.ats 2 _ _ _ rfl
      clear hM hM2 hb hJ0
      obtain ⟨fn, tmps, assign, body, hy, hR⟩ := hY pre ⟨(u, v), hu, hv⟩ _ hJ2 (by rw [Hl.out]; exact hlt)
      dsimp only [encC] at hy
      have hsp : #[Value.int .i8 (u : Int), Value.int .i8 (v : Int)] = arr 2 (sp u v) := rfl
      gi_wp2
      refine hR.mono ?_
      rintro e W3 (⟨rfl, hJ3, hk3⟩ | ⟨rfl, hJx3⟩)
      · gi_wp2
        go_roundw
        case rel => exact (⟨k + 1, by omega, by go_num, _, Hx.out, hJ3, hk3 (bh, 1, fun _ => .slice (some ⟨bl, 0, none⟩) n c) (by simp) hAh, hk3 (bl, N, sps s) (by simp) hBl⟩ : ValsAt J bh bl N n c s _ _)
        case measure => simp [intOf]; omega
      · gi_wp2
        refine bodyPost_ret (results_none rfl _ _ _) rfl ?_
        exact ⟨⟨_, rfl⟩, .inr ⟨_, ⟨k + 1, by omega, Hx.out⟩, hJx3⟩⟩
    · obtain rfl : k = n := by omega
      gi_wp2
      go_end0
      exact ⟨⟨_, rfl⟩, .inl ⟨pre, hpre, hJ⟩⟩

theorem values_stops (bh bl N n c : Nat) (s : Nat → Int × Int) (hN : n * 2 ≤ N) (hn : n ≤ maxLen) (hne : bl ≠ bh) (hc : ∀ k, k < n → ∃ u v : Nat, u < 10 ∧ v < 10 ∧ s k = ((u : Int), (v : Int))) (w : World) (hA : At w bh 1 (fun _ => .slice (some ⟨bl, 0, none⟩) n c)) (hB : At w bl N (sps s)) :
    SeqStopsK Fence.wide 2 Tryd.prog 98 #[.pointer (some ⟨bh, 0, none⟩)] (encC (W := 10) (H := 10)) (KpL (valsK bh bl N n c s)) (fun xs => xs.map (·.1) = cellsL s n) (fun pre => ∃ i, i ≤ n ∧ pre.map (·.1) = cellsL s i) n w :=
  fun l J Jx W' hb hJa _ hY h0 => values1_in 2 (by omega) l bh bl N n c s hN hn hne hc _ J Jx hJa hY W' (hA.below hb hA.lt) (hB.below hb hB.lt) h0

def ValsGiven (bl n c : Nat) (w : World) (e : Ending) (w' : World) : Prop := ∃ b, e = .returned (.func (.func 98) #[] #[.pointer (some ⟨b, 0, none⟩)]) ∧ w.heap.size ≤ b ∧ At w' b 1 (fun _ => .slice (some ⟨bl, 0, none⟩) n c) ∧ Below w.heap.size w w'
theorem values_any (bl n c : Nat) (w : World) : Calls Tryd.prog 77 #[.slice (some ⟨bl, 0, none⟩) n c] w (ValsGiven bl n c w) := by
  have hM := Mem.nil w
  have tk_b1 : True := trivial
  go_enter Tryd.func77, Tryd.ntmps77
  go_wp2_with (first | (have _t := tk_b1; refine wpList_box1 rfl _ _ rfl _ rfl rfl hM ?_; intro b1 W' hb1 hM'; clear hM tk_b1; have hM := hM'; clear hM'))
  go_ret
  exact ⟨b1, rfl, hb1, hM.at0, hM.below⟩

set_option maxRecDepth 100000 in
theorem sumGrass_list (g : Nat → Int) (hg : Fits g) (hgr : ∀ k, k < 100 → 0 ≤ g (2 + k) ∧ g (2 + k) ≤ 1000) (bh bl N n c : Nat) (s : Nat → Int × Int) (hN : n * 2 ≤ N) (hn : n ≤ 1048576) (hc : ∀ k, k < n → ∃ u v : Nat, u < 10 ∧ v < 10 ∧ s k = ((u : Int), (v : Int))) (w : World) (hA : At w bh 1 (fun _ => .slice (some ⟨bl, 0, none⟩) n c)) (hB : At w bl N (sps s)) (hne : bh ≠ bl) :
    Calls Tryd.prog 75 #[.agg (arr 122 (pas g)), .func (.func 98) #[] #[.pointer (some ⟨bh, 0, none⟩)]] w fun e w' => e = .returned (.int .i64 (sumL g (cellsL s n))) ∧ Below w.heap.size w w' := by
  refine sumGrass_kept (α := Cell 10 10) g hg hgr (fun c => c.1) (fun c => c.2) (valsK bh bl N n c s)
    (enters_of Tryd.func98 (by kernel_rfl) rfl) (N := n) (by omega) _ (fun xs hS => ?_) w ?_
    (fun W1 h => values_stops bh bl N n c s hN (by unfold maxLen; omega) (Ne.symm hne) hc W1 (h (bh, 1, fun _ => .slice (some ⟨bl, 0, none⟩) n c) (by simp)) (h (bl, N, sps s) (by simp)))
  · rw [show xs.map (fun c => c.1) = cellsL s n from hS]
  · exact ((Mem.nil w).old hA (fun i p h => by simp at h)).old hB (fun i p h => by
      match i, h with
      | 0, h => simp at h; rw [← h]; exact hne
      | _ + 1, h => simp at h)
end Go.Proofs.YtdlfhomnlhdacaaDoor
