/-
  Several texts in one: Valid, ValidB, StakeOk, StakeW, StakeTS, Spot3, StakesTS, SpotT, Words, Cut, ValidStakes, Cat, GivesR.
-/
import Derived.Test.YtcdpdcjdjcbhcaaDoorP6
import Derived.Test.YtcdpdcjdjcbhcaaDoorP5
import Derived.Test.YtcdpdcjdjcbhcaaDoorP2
import Derived.Test.YtcdpdcjdjcbhcaaDoorP4
/-
  impl.ValidPasture by contract.
-/
namespace Go.Proofs.YtcdpdcjdjcbhcaaDoor
open Go Go.RowKit Go.BigFrame

/-- Is a pasture valid, as impl asks it? -/
def validB (g : Nat → Int) : Bool := inB 1 10 (g 0) && inB 1 10 (g 1) && (grassB g (g 0).toNat (g 1).toNat && hurB g)

set_option maxRecDepth 100000 in
set_option maxHeartbeats 2000000 in
theorem implValid_any (g : Nat → Int) (hg : Fits g) (w : World) :
    Calls Tryd.prog 68 #[.agg (arr 122 (pas g))] w fun e w' => e = .returned (.bool (validB g)) ∧ Below w.heap.size w w' := by
  have hM := Mem.nil w
  have e0 : pas g 0 = .int .i8 (g 0) := rfl
  have e1 : pas g 1 = .int .i8 (g 1) := rfl
  have hw := hg.w
  have hh := hg.h
  have tk_b1 : True := trivial
  rcases (show g 0 < 1 ∨ (¬ g 0 < 1 ∧ 10 < g 0) ∨ (¬ g 0 < 1 ∧ ¬ 10 < g 0) by omega) with r0 | ⟨r0, r1⟩ | ⟨r0, r1⟩
  · have hf : Hid (validB g = false) := Lib.hid (by simp [validB, inB_no (show ¬ (1 ≤ g 0 ∧ g 0 ≤ 10) by omega)])
    have d0 : decide (g 0 < 1) = true := decide_eq_true r0
    go_enter Tryd.func68, Tryd.ntmps68
    go_wp2_with (first | (have _t := tk_b1; refine wpList_box rfl _ _ rfl _ _ rfl hM ?_; intro b1 W' hb1 hM'; clear hM tk_b1; have hM := hM'; clear hM') | (refine wpList_get1 rfl _ _ rfl _ _ rfl hM 0 rfl (cellTab _ rfl) (by omega) _ rfl ?_) | (refine wpList_gget1 ?_ _ _ rfl _ _ rfl hM 0 rfl (cellTab _ rfl) (by omega) _ rfl ?_; kernel_rfl))
    go_ret
    exact ⟨ret_bool hf.out.symm, hM.below⟩
  · have hf : Hid (validB g = false) := Lib.hid (by simp [validB, inB_no (show ¬ (1 ≤ g 0 ∧ g 0 ≤ 10) by omega)])
    have d0 : decide (g 0 < 1) = false := decide_eq_false r0
    have d1 : decide (10 < g 0) = true := decide_eq_true r1
    go_enter Tryd.func68, Tryd.ntmps68
    go_wp2_with (first | (have _t := tk_b1; refine wpList_box rfl _ _ rfl _ _ rfl hM ?_; intro b1 W' hb1 hM'; clear hM tk_b1; have hM := hM'; clear hM') | (refine wpList_get1 rfl _ _ rfl _ _ rfl hM 0 rfl (cellTab _ rfl) (by omega) _ rfl ?_) | (refine wpList_gget1 ?_ _ _ rfl _ _ rfl hM 0 rfl (cellTab _ rfl) (by omega) _ rfl ?_; kernel_rfl))
    go_ret
    exact ⟨ret_bool hf.out.symm, hM.below⟩
  have d0 : decide (g 0 < 1) = false := decide_eq_false r0
  have d1 : decide (10 < g 0) = false := decide_eq_false r1
  rcases (show g 1 < 1 ∨ (¬ g 1 < 1 ∧ 10 < g 1) ∨ (¬ g 1 < 1 ∧ ¬ 10 < g 1) by omega) with q0 | ⟨q0, q1⟩ | ⟨q0, q1⟩
  · have hf : Hid (validB g = false) := Lib.hid (by simp [validB, inB_no (show ¬ (1 ≤ g 1 ∧ g 1 ≤ 10) by omega)])
    have d2 : decide (g 1 < 1) = true := decide_eq_true q0
    go_enter Tryd.func68, Tryd.ntmps68
    go_wp2_with (first | (have _t := tk_b1; refine wpList_box rfl _ _ rfl _ _ rfl hM ?_; intro b1 W' hb1 hM'; clear hM tk_b1; have hM := hM'; clear hM') | (refine wpList_get1 rfl _ _ rfl _ _ rfl hM 0 rfl (cellTab _ rfl) (by omega) _ rfl ?_) | (refine wpList_gget1 ?_ _ _ rfl _ _ rfl hM 0 rfl (cellTab _ rfl) (by omega) _ rfl ?_; kernel_rfl))
    go_ret
    exact ⟨ret_bool hf.out.symm, hM.below⟩
  · have hf : Hid (validB g = false) := Lib.hid (by simp [validB, inB_no (show ¬ (1 ≤ g 1 ∧ g 1 ≤ 10) by omega)])
    have d2 : decide (g 1 < 1) = false := decide_eq_false q0
    have d3 : decide (10 < g 1) = true := decide_eq_true q1
    go_enter Tryd.func68, Tryd.ntmps68
    go_wp2_with (first | (have _t := tk_b1; refine wpList_box rfl _ _ rfl _ _ rfl hM ?_; intro b1 W' hb1 hM'; clear hM tk_b1; have hM := hM'; clear hM') | (refine wpList_get1 rfl _ _ rfl _ _ rfl hM 0 rfl (cellTab _ rfl) (by omega) _ rfl ?_) | (refine wpList_gget1 ?_ _ _ rfl _ _ rfl hM 0 rfl (cellTab _ rfl) (by omega) _ rfl ?_; kernel_rfl))
    go_ret
    exact ⟨ret_bool hf.out.symm, hM.below⟩
  have d2 : decide (g 1 < 1) = false := decide_eq_false q0
  have d3 : decide (10 < g 1) = false := decide_eq_false q1
  have hgr := fun W => hasValidGrass_any g hg (g 0).toNat (g 1).toNat (by omega) (by omega) (by omega) (by omega) W
  have hhr := fun W => hasValidHurdles_any g hg (by omega) (by omega) W
  have hv : Hid (validB g = (grassB g (g 0).toNat (g 1).toNat && hurB g)) := Lib.hid (by simp [validB, inB_yes (show 1 ≤ g 0 ∧ g 0 ≤ 10 by omega), inB_yes (show 1 ≤ g 1 ∧ g 1 ≤ 10 by omega)])
  cases hB : grassB g (g 0).toNat (g 1).toNat
  · rw [hB] at hgr
    have hf : Hid (validB g = false) := Lib.hid (by rw [hv.out, hB]; rfl)
    go_enter Tryd.func68, Tryd.ntmps68
    go_wp2_with (first | (have _t := tk_b1; refine wpList_box rfl _ _ rfl _ _ rfl hM ?_; intro b1 W' hb1 hM'; clear hM tk_b1; have hM := hM'; clear hM') | (refine wpList_get1 rfl _ _ rfl _ _ rfl hM 0 rfl (cellTab _ rfl) (by omega) _ rfl ?_) | (refine wpList_get rfl _ _ rfl _ _ rfl hM 0 rfl (rowTab _ _ rfl) (by omega) ?_) | (go_at_call 103; refine (hgr _).mono ?_; rintro e W' ⟨rfl, hb'⟩; have hM' := hM.call hb'; clear hM hb'; have hM := hM'; clear hM') | (refine wpList_gget1 ?_ _ _ rfl _ _ rfl hM 0 rfl (cellTab _ rfl) (by omega) _ rfl ?_; kernel_rfl))
    go_ret
    exact ⟨ret_bool hf.out.symm, hM.below⟩
  · rw [hB] at hgr
    have hf : Hid (validB g = hurB g) := Lib.hid (by rw [hv.out, hB]; rfl)
    go_enter Tryd.func68, Tryd.ntmps68
    go_wp2_with (first | (have _t := tk_b1; refine wpList_box rfl _ _ rfl _ _ rfl hM ?_; intro b1 W' hb1 hM'; clear hM tk_b1; have hM := hM'; clear hM') | (refine wpList_get1 rfl _ _ rfl _ _ rfl hM 0 rfl (cellTab _ rfl) (by omega) _ rfl ?_) | (refine wpList_get rfl _ _ rfl _ _ rfl hM 0 rfl (rowTab _ _ rfl) (by omega) ?_) | (go_at_call 103; refine (hgr _).mono ?_; rintro e W' ⟨rfl, hb'⟩; have hM' := hM.call hb'; clear hM hb'; have hM := hM'; clear hM') | (go_at_call 104; refine (hhr _).mono ?_; rintro e W' ⟨rfl, hb'⟩; have hM' := hM.call hb'; clear hM hb'; have hM := hM'; clear hM') | (refine wpList_gget1 ?_ _ _ rfl _ _ rfl hM 0 rfl (cellTab _ rfl) (by omega) _ rfl ?_; kernel_rfl) | (refine wpList_gget ?_ _ _ rfl _ _ rfl hM 0 rfl (rowTab _ _ rfl) (by omega) ?_; kernel_rfl))
    go_ret
    exact ⟨ret_bool hf.out.symm, hM.below⟩
end Go.Proofs.YtcdpdcjdjcbhcaaDoor

/-
  The document's 'valid' both ways: row by row over all 100 places, or cell by cell over the pasture's own and nothing behind them.
-/
namespace Go.Proofs.YtcdpdcjdjcbhcaaDoor
open Go Go.RowKit

theorem isB_iff {g : Nat → Int} {W H x y : Nat} (hg0 : g 0 = W) (hg1 : g 1 = H) : isB g x y = true ↔ x < W ∧ y < H := by
  simp only [isB, inB, Bool.and_eq_true, decide_eq_true_eq, hg0, hg1]; omega
theorem upto_mem {W H x y : Nat} (h : (x, y) ∈ upto W (W * H)) : x < W ∧ y < H := by
  unfold upto at h
  obtain ⟨i, hi, e⟩ := List.mem_map.1 h
  have hi := List.mem_range.1 hi
  unfold cellAt at e
  have e1 : i % W = x := congrArg Prod.fst e
  have e2 : i / W = y := congrArg Prod.snd e
  have hW : 0 < W := by
    cases W with
    | zero => simp at hi
    | succ n => omega
  exact ⟨by rw [← e1]; exact Nat.mod_lt _ hW, by rw [← e2]; exact Nat.div_lt_of_lt_mul hi⟩

theorem cellOk_iff {g : Nat → Int} {W H x y : Nat} (hg0 : g 0 = W) (hg1 : g 1 = H) : cellOk g y x = true ↔ (0 ≤ g (2 + (y * 10 + x)) ∧ g (2 + (y * 10 + x)) ≤ 1000) ∧ (g (2 + (y * 10 + x)) = 0 ∨ (x < W ∧ y < H)) := by
  have e : 2 + y * 10 + x = 2 + (y * 10 + x) := by omega
  unfold cellOk
  rw [e, Bool.and_eq_true, Bool.or_eq_true, isB_iff hg0 hg1]
  simp only [inB, decide_eq_true_eq]
  omega

theorem cells_grass {g : Nat → Int} {W H : Nat} (hg0 : g 0 = W) (hg1 : g 1 = H) (hW : W ≤ 10) (hH : H ≤ 10) :
    (∀ y, y < 10 → ∀ x, x < 10 → cellOk g y x = true) ↔ grassB g W H = true := by
  unfold grassB
  rw [Bool.and_eq_true, List.all_eq_true, eqTo_iff]
  constructor
  · intro h
    refine ⟨fun s hs => ?_, fun k hk => ?_⟩
    · obtain ⟨x, y⟩ := s
      obtain ⟨hx, hy⟩ := upto_mem hs
      exact inB_yes ((cellOk_iff hg0 hg1).1 (h y (by omega) x (by omega))).1
    · have hx : k % 10 < 10 := Nat.mod_lt _ (by omega)
      have ek : k / 10 * 10 + k % 10 = k := by omega
      have hr := restAt_of (g := g) (l := upto W (W * H)) (x := k % 10) (y := k / 10) hx
      rw [ek] at hr
      rw [hr]
      split
      · rfl
      · rename_i hn
        have hc := ((cellOk_iff hg0 hg1).1 (h (k / 10) (by omega) (k % 10) hx)).2
        rw [ek] at hc
        rcases hc with hc | hc
        · exact hc
        · exact absurd (mem_upto hc.1 hc.2) hn
  · rintro ⟨h1, h2⟩ y hy x hx
    rw [cellOk_iff hg0 hg1]
    by_cases hin : x < W ∧ y < H
    · have := inB_true (h1 _ (mem_upto hin.1 hin.2))
      exact ⟨this, .inr hin⟩
    · have hr := h2 (y * 10 + x) (by omega)
      rw [restAt_of hx, if_neg (fun hm => hin (upto_mem hm))] at hr
      exact ⟨by omega, .inl hr⟩

theorem okB_eq (g : Nat → Int) : okB g = validB g := by
  unfold okB validB
  cases b0 : inB 1 10 (g 0)
  · rfl
  cases b1 : inB 1 10 (g 1)
  · rfl
  have h0 := inB_true b0
  have h1 := inB_true b1
  have hg0 : g 0 = ((g 0).toNat : Int) := by omega
  have hg1 : g 1 = ((g 1).toNat : Int) := by omega
  have key := cells_grass hg0 hg1 (by omega) (by omega)
  simp only [Bool.true_and]
  rw [Bool.eq_iff_iff, Bool.and_eq_true, ← key, List.all_eq_true]
  unfold hurB
  rw [List.all_eq_true]
  constructor
  · intro h
    have h' : ∀ y, y < 10 → (∀ x, x < 10 → cellOk g y x = true) ∧ badE g y = false ∧ badS g y = false := fun y hy => by
      have hr := h y (List.mem_range.2 hy)
      unfold rowOk at hr
      rw [Bool.and_eq_true, Bool.and_eq_true, List.all_eq_true] at hr
      exact ⟨fun x hx => hr.1.1 x (List.mem_range.2 hx), by simpa using hr.1.2, by simpa using hr.2⟩
    exact ⟨fun y hy => (h' y hy).1, fun y hy => by have := h' y (List.mem_range.1 hy); simp [this.2.1, this.2.2]⟩
  · rintro ⟨h1, h2⟩ y hy
    have hy' := List.mem_range.1 hy
    have h3 := h2 y hy
    rw [Bool.and_eq_true] at h3
    unfold rowOk
    rw [Bool.and_eq_true, Bool.and_eq_true, List.all_eq_true]
    exact ⟨⟨fun x hx => h1 y hy' x (List.mem_range.1 hx), h3.1⟩, h3.2⟩
end Go.Proofs.YtcdpdcjdjcbhcaaDoor

/-
  spec.l05Reach, l05Stake, l05Ok by contracts.
-/
namespace Go.Proofs.YtcdpdcjdjcbhcaaDoor
open Go Go.RowKit Go.BigFrame

/-- Do two stakes stand in one cell? -/
def atEq (a b : Nat → Int) : Bool := (a 0 == b 0) && (a 1 == b 1)
/-- Is a stake valid alone? -/
def stakeB (g h : Nat → Int) : Bool := isB g (h 0) (h 1) && inB 0 200 (h 2)
/-- Does none of the first i stand in the cell of a? -/
def freeTo (hs : Nat → Nat → Int) (a : Nat → Int) (i : Nat) : Bool := (List.range i).all fun k => !atEq (hs k) a
def stakesB (g : Nat → Int) (n : Nat) (hs : Nat → Nat → Int) : Bool := okB g && (decide (n ≤ 12) && (List.range n).all fun i => stakeB g (hs i) && freeTo hs (hs i) i)
theorem freeTo_no {hs : Nat → Nat → Int} {a : Nat → Int} {i k : Nat} (hk : k < i) (h : atEq (hs k) a = true) : freeTo hs a i = false := by
  unfold freeTo; rw [List.all_eq_false]; exact ⟨k, by simpa using hk, by rw [h]; decide⟩
theorem freeTo_yes {hs : Nat → Nat → Int} {a : Nat → Int} {i : Nat} (h : ∀ k, k < i → atEq (hs k) a = false) : freeTo hs a i = true := by
  unfold freeTo; rw [List.all_eq_true]; intro k hk; rw [h k (by simpa using hk)]; rfl
theorem stakesB_ok {g : Nat → Int} {n : Nat} {hs : Nat → Nat → Int} (h : okB g = false) : stakesB g n hs = false := by simp [stakesB, h]
theorem stakesB_many {g : Nat → Int} {n : Nat} {hs : Nat → Nat → Int} (h : 12 < n) : stakesB g n hs = false := by
  have : decide (n ≤ 12) = false := decide_eq_false (by omega)
  simp [stakesB, this]
theorem stakesB_no {g : Nat → Int} {n i : Nat} {hs : Nat → Nat → Int} (hi : i < n) (h : (stakeB g (hs i) && freeTo hs (hs i) i) = false) : stakesB g n hs = false := by
  have : ((List.range n).all fun i => stakeB g (hs i) && freeTo hs (hs i) i) = false := by rw [List.all_eq_false]; exact ⟨i, by simpa using hi, by rw [h]; decide⟩
  simp [stakesB, this]
theorem stakesB_yes {g : Nat → Int} {n : Nat} {hs : Nat → Nat → Int} (ho : okB g = true) (hn : n ≤ 12) (h : ∀ i, i < n → (stakeB g (hs i) && freeTo hs (hs i) i) = true) : stakesB g n hs = true := by
  have : ((List.range n).all fun i => stakeB g (hs i) && freeTo hs (hs i) i) = true := by rw [List.all_eq_true]; intro i hi; exact h i (by simpa using hi)
  simp [stakesB, this, ho, hn]

theorem l05Reach_any (n : Int) (w : World) :
    Calls Tryd.prog 53 #[.int .i64 n] w fun e w' => e = .returned (.bool (inB 0 200 n)) ∧ Below w.heap.size w w' := by
  have hM := Mem.nil w
  go_enter Tryd.func53, Tryd.ntmps53
  go_wp2_with (go_at_call 93; refine (l00In_any _ _ _ _).mono ?_; rintro e W' ⟨rfl, hb'⟩; have hM' := hM.call hb'; clear hM hb'; have hM := hM'; clear hM')
  go_ret
  exact ⟨rfl, hM.below⟩

end Go.Proofs.YtcdpdcjdjcbhcaaDoor

/-
  The text of stakes.
-/
namespace Go.Proofs.YtcdpdcjdjcbhcaaDoor
open Go Go.RowKit Go.BigFrame

def stakeW (hs : Nat → Nat → Int) (k : Nat) : List UInt8 := spotT (hs k 0) (hs k 1) ++ [47] ++ numB (hs k 2)
def stakesA (n : Nat) (hs : Nat → Nat → Int) : Bool := decide (n ≤ 12) && (List.range n).all fun i => stakeB gMost (hs i)
def stakesT (n : Nat) (hs : Nat → Nat → Int) : List UInt8 := if stakesA n hs then joinT [32] (stakeW hs) n else []
theorem stakesT_no {n k : Nat} {hs : Nat → Nat → Int} (hk : k < n) (h : stakeB gMost (hs k) = false) : stakesT n hs = [] := by
  have : ((List.range n).all fun i => stakeB gMost (hs i)) = false := by rw [List.all_eq_false]; exact ⟨k, by simpa using hk, by rw [h]; decide⟩
  unfold stakesT stakesA; rw [this, Bool.and_false]; rfl
theorem stakesT_many {n : Nat} {hs : Nat → Nat → Int} (h : 12 < n) : stakesT n hs = [] := by
  unfold stakesT stakesA; rw [decide_eq_false (by omega)]; rfl
theorem stakesT_yes {n : Nat} {hs : Nat → Nat → Int} (hn : n ≤ 12) (h : ∀ k, k < n → stakeB gMost (hs k) = true) : stakesT n hs = joinT [32] (stakeW hs) n := by
  have : ((List.range n).all fun i => stakeB gMost (hs i)) = true := by rw [List.all_eq_true]; intro i hi; exact h i (by simpa using hi)
  unfold stakesT stakesA; rw [this, decide_eq_true hn]; rfl
theorem stakeB_most {h : Nat → Int} (hb : stakeB gMost h = true) : (0 ≤ h 0 ∧ h 0 ≤ 9) ∧ (0 ≤ h 1 ∧ h 1 ≤ 9) ∧ (0 ≤ h 2 ∧ h 2 ≤ 200) := by
  unfold stakeB at hb
  simp only [Bool.and_eq_true, isB_most] at hb
  exact ⟨inB_true hb.1.1, inB_true hb.1.2, inB_true hb.2⟩
theorem stakeW_len {hs : Nat → Nat → Int} {k : Nat} (h : stakeB gMost (hs k) = true) : (stakeW hs k).length ≤ 32 := by
  obtain ⟨h0, h1, h2⟩ := stakeB_most h
  have := numB_len (n := hs k 2) (by omega)
  have := spotT_len (x := hs k 0) (y := hs k 1) (by omega) (by omega)
  simp [stakeW]; omega
end Go.Proofs.YtcdpdcjdjcbhcaaDoor

/-
  spec.l05Text by contract.
-/
namespace Go.Proofs.YtcdpdcjdjcbhcaaDoor
open Go Go.RowKit Go.BigFrame

set_option maxRecDepth 100000 in
set_option maxHeartbeats 4000000 in
theorem l05Text_any (b n c : Nat) (hs : Nat → Nat → Int) (hF : ∀ i, i < n → stakeB gMost (hs i) = true) (hn : n ≤ 12) (w : World) (hB : At w b (n * 3) (sStake hs)) :
    Calls Tryd.prog 54 #[.slice (some ⟨b, 0, none⟩) n c] w fun e w' => e = .returned (.string (bs (joinT [32] (stakeW hs) n))) ∧ Below w.heap.size w w' := by
  have hM : Mem w [(b, n * 3, sStake hs)] w := (Mem.nil w).old hB (fun i p h => by simp at h)
  have HL := Lib.hid (show ∀ k, k ≤ n → (joinT [32] (stakeW hs) k).length ≤ 40 * 33 from fun k hk => by
    have h1 := joinT_len (sep := [32]) (f := stakeW hs) (m := 32) k (fun j hj => stakeW_len (hF j (by omega)))
    have h2 : k * (32 + 1) ≤ 40 * 33 := Nat.mul_le_mul (by omega) (by omega)
    simp only [List.length_cons, List.length_nil] at h1
    omega)
  have HF := Lib.hid hF
  clear hB hF
  go_enter Tryd.func54, Tryd.ntmps54
  go_wp2
  go_loopw [3, 4] (fun s i wr => ∃ (k : Nat) (l : List UInt8), k ≤ n ∧ i = .int .i64 k ∧ s = .string (bs l) ∧ Hid (l = joinT [32] (stakeW hs) k) ∧ Mem w [(b, n * 3, sStake hs)] wr) (fun _ i _ => n - (intOf i).toNat)
  case atStart => exact ⟨0, [], by omega, rfl, rfl, Lib.hid rfl, hM⟩
  case round =>
    clear hM
    obtain ⟨k, l, hk, rfl, rfl, hl, hM⟩ := hrel
    by_cases hlt : k < n
    · have l2 : (k : Int) < n := by omega
      have hll := HL.out k hk
      rw [← hl.out] at hll
      obtain ⟨⟨d0, d1⟩, ⟨x0, x1⟩, y0, y1⟩ := stakeB_most (HF.out k hlt)
      have lu := numB_len (n := hs k 0) (by omega)
      have lx := numB_len (n := hs k 1) (by omega)
      have ly := numB_len (n := hs k 2) (by omega)
      have HD := Lib.hid (fun (W : World) => Decimal_any (hs k 0) d0 (by omega) W)
      have HX := Lib.hid (fun (W : World) => Decimal_any (hs k 1) x0 (by omega) W)
      have HY := Lib.hid (fun (W : World) => Decimal_any (hs k 2) y0 (by omega) W)
      obtain ⟨d, hd⟩ : ∃ d, hs k 0 = d := ⟨_, rfl⟩
      obtain ⟨x, hx⟩ : ∃ x, hs k 1 = x := ⟨_, rfl⟩
      obtain ⟨y, hy⟩ : ∃ y, hs k 2 = y := ⟨_, rfl⟩
      have e0 : sStake hs (k * 3) = .int .i8 d := by rw [← hd]; exact sStake_row hs k 0 (by omega)
      have e1 : sStake hs (k * 3 + 1) = .int .i8 x := by rw [← hx]; exact sStake_row hs k 1 (by omega)
      have e2 : sStake hs (k * 3 + 2) = .int .i16 y := by rw [← hy]; exact sStake_row hs k 2 (by omega)
      obtain ⟨u, hu⟩ : ∃ u, numB d = u := ⟨_, rfl⟩
      obtain ⟨v, hv⟩ : ∃ v, numB x = v := ⟨_, rfl⟩
      obtain ⟨t, ht⟩ : ∃ t, numB y = t := ⟨_, rfl⟩
      have HW := Lib.hid (show stakeW hs k = u ++ [44] ++ v ++ [47] ++ t from by unfold stakeW spotT; rw [hd, hx, hy, hu, hv, ht])
      rw [hd] at HD lu d0 d1
      rw [hx] at HX lx x0 x1
      rw [hy] at HY ly y0 y1
      rw [hu] at HD lu
      rw [hv] at HX lx
      rw [ht] at HY ly
      clear hd hx hy hu hv ht
      have cd : IntKind.i64.wrap d = d := IntWalk.i64_in _ (by omega)
      have cx : IntKind.i64.wrap x = x := IntWalk.i64_in _ (by omega)
      have cy : IntKind.i64.wrap y = y := IntWalk.i64_in _ (by omega)
      rcases Nat.eq_zero_or_pos k with h0 | h0
      · have dz : decide ((k : Int) > 0) = false := decide_eq_false (by omega)
        have dy : decide (0 < (k : Int)) = false := decide_eq_false (by omega)
        have dx : decide (0 < k) = false := decide_eq_false (by omega)
        have H0 := Lib.hid h0
        clear h0
        go_wp2
        ((try simp only [Act.put, List.setIfInBounds_toArray, List.set_cons_succ, List.set_cons_zero]); refine wp_region_mem (by kernel_rfl) (by kernel_rfl) hM ?_; clear hM; (repeat (first | go_big_quiet_skip | (go_big_quiet_want; first | (refine quiet_get1 _ _ rfl _ _ rfl 0 rfl (cellTab _ rfl) (by omega) _ e0 ?_; (simp only [Act.put, List.setIfInBounds_toArray, List.set_cons_succ, List.set_cons_zero]); go_big_quiet_on) | (refine quiet_get1 _ _ rfl _ _ rfl 0 rfl (cellTab _ rfl) (by omega) _ e1 ?_; (simp only [Act.put, List.setIfInBounds_toArray, List.set_cons_succ, List.set_cons_zero]); go_big_quiet_on) | (refine quiet_get1 _ _ rfl _ _ rfl 0 rfl (cellTab _ rfl) (by omega) _ e2 ?_; (simp only [Act.put, List.setIfInBounds_toArray, List.set_cons_succ, List.set_cons_zero]); go_big_quiet_on) | (refine quiet_call ?_; apply Exists.intro; apply Exists.intro; apply Exists.intro; refine ⟨fun W => ?_, fun W hM => ?_, ?_⟩; (go_simp; exact ⟨rfl, rfl⟩); (with_reducible exact HD.out W); (simp only [Act.put, List.setIfInBounds_toArray, List.set_cons_succ, List.set_cons_zero]); go_big_quiet_on) | (refine quiet_call ?_; apply Exists.intro; apply Exists.intro; apply Exists.intro; refine ⟨fun W => ?_, fun W hM => ?_, ?_⟩; (go_simp; exact ⟨rfl, rfl⟩); (with_reducible exact HX.out W); (simp only [Act.put, List.setIfInBounds_toArray, List.set_cons_succ, List.set_cons_zero]); go_big_quiet_on) | (refine quiet_call ?_; apply Exists.intro; apply Exists.intro; apply Exists.intro; refine ⟨fun W => ?_, fun W hM => ?_, ?_⟩; (go_simp; exact ⟨rfl, rfl⟩); (with_reducible exact HY.out W); (simp only [Act.put, List.setIfInBounds_toArray, List.set_cons_succ, List.set_cons_zero]); go_big_quiet_on) | (refine quiet_val ⟨_, fun W => cat_op _ _ rfl _ _ rfl rfl (by simp only [List.length_append, List.length_cons, List.length_nil]; omega) W, ?_⟩; (simp only [Act.put, List.setIfInBounds_toArray, List.set_cons_succ, List.set_cons_zero]); go_big_quiet_on) | (refine quiet_val ?_; apply Exists.intro; refine ⟨fun W => ?_, ?_⟩; (go_simp; (try simp only [cd, cx, cy, if_true, Bool.false_eq_true, if_false]); rfl); (simp only [Act.put, List.setIfInBounds_toArray, List.set_cons_succ, List.set_cons_zero]); go_big_quiet_on)))); (with_reducible refine wpQuiet_nil ?_); intro W' hM)
        go_wp2
        go_roundw
        case rel => exact ⟨k + 1, _, by omega, by go_num, rfl, Lib.hid (by rw [hl.out]; have h0 := H0.out; have hw := HW.out; subst h0; rw [joinT_one, hw, joinT_zero]; simp), hM⟩
        case measure => simp [intOf]; omega
      · have dz : decide ((k : Int) > 0) = true := decide_eq_true (by omega)
        have dy : decide (0 < (k : Int)) = true := decide_eq_true (by omega)
        have dx : decide (0 < k) = true := decide_eq_true (by omega)
        go_wp2_with (first | (refine wpList_cat rfl _ _ rfl _ _ rfl rfl (by simp only [List.length_append, List.length_cons, List.length_nil]; omega) ?_))
        ((try simp only [Act.put, List.setIfInBounds_toArray, List.set_cons_succ, List.set_cons_zero]); refine wp_region_mem (by kernel_rfl) (by kernel_rfl) hM ?_; clear hM; (repeat (first | go_big_quiet_skip | (go_big_quiet_want; first | (refine quiet_get1 _ _ rfl _ _ rfl 0 rfl (cellTab _ rfl) (by omega) _ e0 ?_; (simp only [Act.put, List.setIfInBounds_toArray, List.set_cons_succ, List.set_cons_zero]); go_big_quiet_on) | (refine quiet_get1 _ _ rfl _ _ rfl 0 rfl (cellTab _ rfl) (by omega) _ e1 ?_; (simp only [Act.put, List.setIfInBounds_toArray, List.set_cons_succ, List.set_cons_zero]); go_big_quiet_on) | (refine quiet_get1 _ _ rfl _ _ rfl 0 rfl (cellTab _ rfl) (by omega) _ e2 ?_; (simp only [Act.put, List.setIfInBounds_toArray, List.set_cons_succ, List.set_cons_zero]); go_big_quiet_on) | (refine quiet_call ?_; apply Exists.intro; apply Exists.intro; apply Exists.intro; refine ⟨fun W => ?_, fun W hM => ?_, ?_⟩; (go_simp; exact ⟨rfl, rfl⟩); (with_reducible exact HD.out W); (simp only [Act.put, List.setIfInBounds_toArray, List.set_cons_succ, List.set_cons_zero]); go_big_quiet_on) | (refine quiet_call ?_; apply Exists.intro; apply Exists.intro; apply Exists.intro; refine ⟨fun W => ?_, fun W hM => ?_, ?_⟩; (go_simp; exact ⟨rfl, rfl⟩); (with_reducible exact HX.out W); (simp only [Act.put, List.setIfInBounds_toArray, List.set_cons_succ, List.set_cons_zero]); go_big_quiet_on) | (refine quiet_call ?_; apply Exists.intro; apply Exists.intro; apply Exists.intro; refine ⟨fun W => ?_, fun W hM => ?_, ?_⟩; (go_simp; exact ⟨rfl, rfl⟩); (with_reducible exact HY.out W); (simp only [Act.put, List.setIfInBounds_toArray, List.set_cons_succ, List.set_cons_zero]); go_big_quiet_on) | (refine quiet_val ⟨_, fun W => cat_op _ _ rfl _ _ rfl rfl (by simp only [List.length_append, List.length_cons, List.length_nil]; omega) W, ?_⟩; (simp only [Act.put, List.setIfInBounds_toArray, List.set_cons_succ, List.set_cons_zero]); go_big_quiet_on) | (refine quiet_val ?_; apply Exists.intro; refine ⟨fun W => ?_, ?_⟩; (go_simp; (try simp only [cd, cx, cy, if_true, Bool.false_eq_true, if_false]); rfl); (simp only [Act.put, List.setIfInBounds_toArray, List.set_cons_succ, List.set_cons_zero]); go_big_quiet_on)))); (with_reducible refine wpQuiet_nil ?_); intro W' hM)
        go_wp2
        go_roundw
        case rel => exact ⟨k + 1, _, by omega, by go_num, rfl, Lib.hid (by rw [joinT_succ _ _ h0, HW.out, ← hl.out]; simp), hM⟩
        case measure => simp [intOf]; omega
    · obtain rfl : k = n := by omega
      go_wp2
      go_ret
      exact ⟨ret_bs hl.out, hM.below⟩
end Go.Proofs.YtcdpdcjdjcbhcaaDoor

/-
  spec.l03Spot by contract.
-/
namespace Go.Proofs.YtcdpdcjdjcbhcaaDoor
open Go Go.RowKit Go.BigFrame

set_option maxHeartbeats 400000 in
theorem l03Spot_any (x y : Int) (hx : -128 ≤ x ∧ x ≤ 127) (hy : -128 ≤ y ∧ y ≤ 127) (w : World) :
    Calls Tryd.prog 41 #[.agg (arr 2 (sp x y))] w fun e w' => e = .returned (.bool (isB gMost x y)) ∧ Below w.heap.size w w' := by
  have hM := Mem.nil w
  have e2 : sp x y 0 = .int .i8 x := rfl
  have e3 : sp x y 1 = .int .i8 y := rfl
  have c4 : IntKind.i64.wrap x = x := IntWalk.i64_in _ (by omega)
  have c5 : IntKind.i64.wrap y = y := IntWalk.i64_in _ (by omega)
  have hr : ∀ b, inB 0 9 x = b → isB gMost x y = (b && inB 0 9 y) := fun b h => by rw [isB_most, h]
  have tk_b1 : True := trivial
  cases h1 : inB 0 9 x
  all_goals
    have H1 := Lib.hid h1
    have HR := Lib.hid (hr _ h1)
    clear h1 hr
    obtain ⟨q, hq⟩ : ∃ q, inB 0 9 y = q := ⟨_, rfl⟩
    have HQ := Lib.hid hq
    rw [HR.out, hq]
    clear hq HR
    go_enter Tryd.func41, Tryd.ntmps41
    go_wp2_with (first | (have _t := tk_b1; refine wpList_box rfl _ _ rfl _ _ rfl hM ?_; intro b1 W' hb1 hM'; clear hM tk_b1; have hM := hM'; clear hM') | (refine wpList_get1 rfl _ _ rfl _ _ rfl hM 0 rfl (cellTab _ rfl) (by omega) _ rfl ?_) | (refine wpList_gget1 ?_ _ _ rfl _ _ rfl hM 0 rfl (cellTab _ rfl) (by omega) _ rfl ?_; kernel_rfl) | (go_at_call 93; (with_reducible refine (l00In_any x 0 9 _).mono ?_); rintro e W' ⟨rfl, hb'⟩; rw [H1.out]; have hM' := hM.call hb'; clear hM hb'; have hM := hM'; clear hM') | (go_at_call 93; (with_reducible refine (l00In_any y 0 9 _).mono ?_); rintro e W' ⟨rfl, hb'⟩; rw [HQ.out]; have hM' := hM.call hb'; clear hM hb'; have hM := hM'; clear hM'))
    go_ret
    exact ⟨ret_bool (by simp), hM.below⟩
end Go.Proofs.YtcdpdcjdjcbhcaaDoor

/-
  spec.StakesText by contract.
-/
namespace Go.Proofs.YtcdpdcjdjcbhcaaDoor
open Go Go.RowKit Go.BigFrame

set_option maxRecDepth 100000 in
set_option maxHeartbeats 4000000 in
theorem specStakesText_any (b n c : Nat) (hs : Nat → Nat → Int) (hF : ∀ i, i < n → FitsStake (hs i)) (hn : n ≤ 1048576) (w : World) (hB : At w b (n * 3) (sStake hs)) :
    Calls Tryd.prog 19 #[.slice (some ⟨b, 0, none⟩) n c] w fun e w' => e = .returned (.string (bs (stakesT n hs))) ∧ Below w.heap.size w w' := by
  have hM : Mem w [(b, n * 3, sStake hs)] w := (Mem.nil w).old hB (fun i p h => by simp at h)
  have HF := Lib.hid hF
  clear hF hB
  go_enter Tryd.func19, Tryd.ntmps19
  go_wp2
  go_loopw [3] (fun i wr => ∃ k : Nat, k ≤ n ∧ i = .int .i64 k ∧ Hid (∀ j, j < k → stakeB gMost (hs j) = true) ∧ Mem w [(b, n * 3, sStake hs)] wr) (fun i _ => n - (intOf i).toNat)
  case atStart => exact ⟨0, by omega, rfl, Lib.hid (fun j hj => absurd hj (by omega)), hM⟩
  case round =>
    clear hM
    obtain ⟨k, hk, rfl, hall, hM⟩ := hrel
    by_cases hlt : k < n
    · have l2 : (k : Int) < n := by omega
      obtain ⟨f0, f1, f2⟩ := HF.out k hlt
      have er : arr 2 (fun j => sStake hs (k * 3 + j)) = arr 2 (sp (hs k 0) (hs k 1)) := (arr_congr fun j hj => by rw [sStake_row hs k j (by omega)]; simp).trans (spStake0 (hs k))
      have e2 : sStake hs (k * 3 + 2) = .int .i16 (hs k 2) := sStake_row hs k 2 (by omega)
      have c2 : IntKind.i64.wrap (hs k 2) = hs k 2 := IntWalk.i64_in _ (by omega)
      cases he : isB gMost (hs k 0) (hs k 1)
      · have He := Lib.hid he
        have Hp := Lib.hid (stakesT_no hlt (show stakeB gMost (hs k) = false by unfold stakeB; rw [he]; rfl))
        clear he
        go_wp2_with (first | (go_at_call 41; (with_reducible refine (l03Spot_any (hs k 0) (hs k 1) f0 f1 _).mono ?_); rintro e W' ⟨rfl, hb'⟩; rw [He.out]; have hM' := hM.call hb'; clear hM hb'; have hM := hM'; clear hM') | ((refine wpList_get rfl _ _ rfl _ _ rfl hM 0 rfl (rowTab _ 2 rfl) (by omega) ?_); rw [er]))
        go_ret
        exact ⟨ret_bs Hp.out.symm, hM.below⟩
      cases hq : inB 0 200 (hs k 2)
      all_goals
        have He := Lib.hid he
        have Hq := Lib.hid hq
        have Hs := Lib.hid (show stakeB gMost (hs k) = inB 0 200 (hs k 2) by unfold stakeB; rw [he, Bool.true_and])
        clear he hq
        go_wp2_with (first | (go_at_call 41; (with_reducible refine (l03Spot_any (hs k 0) (hs k 1) f0 f1 _).mono ?_); rintro e W' ⟨rfl, hb'⟩; rw [He.out]; have hM' := hM.call hb'; clear hM hb'; have hM := hM'; clear hM') | (go_at_call 53; (with_reducible refine (l05Reach_any (hs k 2) _).mono ?_); rintro e W' ⟨rfl, hb'⟩; rw [Hq.out]; have hM' := hM.call hb'; clear hM hb'; have hM := hM'; clear hM') | ((refine wpList_get rfl _ _ rfl _ _ rfl hM 0 rfl (rowTab _ 2 rfl) (by omega) ?_); rw [er]) | (refine wpList_gget1 ?_ _ _ rfl _ _ rfl hM 0 rfl (cellTab _ rfl) (by omega) _ e2 ?_; kernel_rfl))
      · go_ret
        exact ⟨ret_bs (stakesT_no hlt (Hs.out.trans Hq.out)).symm, hM.below⟩
      · go_roundw
        case rel => exact ⟨k + 1, by omega, by go_num, Lib.hid (fun j hj => by
          by_cases e : j = k
          · rw [e]; exact Hs.out.trans Hq.out
          · exact hall.out j (by omega)), hM⟩
        case measure => simp [intOf]; omega
    · obtain rfl : k = n := by omega
      by_cases h12 : 12 < k
      · have d1 : decide ((k : Int) > 12) = true := decide_eq_true (by omega)
        have d2 : (12 : Int) < k := by omega
        go_wp2
        go_ret
        exact ⟨ret_bs (stakesT_many h12).symm, hM.below⟩
      · have d1 : decide ((k : Int) > 12) = false := decide_eq_false (by omega)
        have d2 : ¬ (12 : Int) < k := by omega
        have Hp := Lib.hid (stakesT_yes (by omega) hall.out)
        go_wp2_with (first | (go_at_call 54; refine (l05Text_any b k c hs hall.out (by omega) _ (hM.ats 0 _ _ _ rfl)).mono ?_; rintro e W' ⟨rfl, hb'⟩; have hM' := hM.call hb'; clear hM hb'; have hM := hM'; clear hM'))
        go_ret
        exact ⟨ret_bs Hp.out.symm, hM.below⟩
end Go.Proofs.YtcdpdcjdjcbhcaaDoor

/-
  (impl.Spot).text by contract.
-/
namespace Go.Proofs.YtcdpdcjdjcbhcaaDoor
open Go Go.RowKit Go.BigFrame

set_option maxRecDepth 100000 in
set_option maxHeartbeats 1000000 in
theorem spotText_any (x y : Int) (hx : 0 ≤ x ∧ x ≤ 127) (hy : 0 ≤ y ∧ y ≤ 127) (w : World) (hT : TabP w) :
    Calls Tryd.prog 57 #[.agg (arr 2 (sp x y))] w fun e w' => e = .returned (.string (bs (spotT x y))) ∧ Below w.heap.size w w' := by
  have hM := Mem.nil w
  have e0 : sp x y 0 = .int .i8 x := rfl
  have e1 : sp x y 1 = .int .i8 y := rfl
  have cx : IntKind.i64.wrap x = x := IntWalk.i64_in _ (by omega)
  have cy : IntKind.i64.wrap y = y := IntWalk.i64_in _ (by omega)
  have lx := numB_len (n := x) (by omega)
  have ly := numB_len (n := y) (by omega)
  have HX := Lib.hid (fun (W : World) (h : TabP W) => fmt_any x hx.1 (by omega) W h)
  have HY := Lib.hid (fun (W : World) (h : TabP W) => fmt_any y hy.1 (by omega) W h)
  have HT := Lib.hid hT
  clear hT
  obtain ⟨u, hu⟩ : ∃ u, numB x = u := ⟨_, rfl⟩
  obtain ⟨v, hv⟩ : ∃ v, numB y = v := ⟨_, rfl⟩
  have hr : spotT x y = u ++ [44] ++ v := by unfold spotT; rw [hu, hv]
  rw [hr]
  rw [hu] at HX lx
  rw [hv] at HY ly
  clear hu hv hr
  have tk_b1 : True := trivial
  go_enter Tryd.func57, Tryd.ntmps57
  go_wp2_with (first | (have _t := tk_b1; refine wpList_box rfl _ _ rfl _ _ rfl hM ?_; intro b1 W' hb1 hM'; clear hM tk_b1; have hM := hM'; clear hM'))
  ((try simp only [Act.put, List.setIfInBounds_toArray, List.set_cons_succ, List.set_cons_zero]); refine wp_region_mem (by kernel_rfl) (by kernel_rfl) hM ?_; clear hM; (repeat (first | go_big_quiet_skip | (go_big_quiet_want; first | (refine quiet_get1 _ _ rfl _ _ rfl 0 rfl (cellTab _ rfl) (by omega) _ e0 ?_; (simp only [Act.put, List.setIfInBounds_toArray, List.set_cons_succ, List.set_cons_zero]); go_big_quiet_on) | (refine quiet_get1 _ _ rfl _ _ rfl 0 rfl (cellTab _ rfl) (by omega) _ e1 ?_; (simp only [Act.put, List.setIfInBounds_toArray, List.set_cons_succ, List.set_cons_zero]); go_big_quiet_on) | (refine quiet_call ?_; apply Exists.intro; apply Exists.intro; apply Exists.intro; refine ⟨fun W => ?_, fun W hM => ?_, ?_⟩; (go_simp; exact ⟨rfl, rfl⟩); (with_reducible exact HX.out W (HT.out.below hM.below)); (simp only [Act.put, List.setIfInBounds_toArray, List.set_cons_succ, List.set_cons_zero]); go_big_quiet_on) | (refine quiet_call ?_; apply Exists.intro; apply Exists.intro; apply Exists.intro; refine ⟨fun W => ?_, fun W hM => ?_, ?_⟩; (go_simp; exact ⟨rfl, rfl⟩); (with_reducible exact HY.out W (HT.out.below hM.below)); (simp only [Act.put, List.setIfInBounds_toArray, List.set_cons_succ, List.set_cons_zero]); go_big_quiet_on) | (refine quiet_val ⟨_, fun W => cat_op _ _ rfl _ _ rfl rfl (by simp only [List.length_append, List.length_cons, List.length_nil]; omega) W, ?_⟩; (simp only [Act.put, List.setIfInBounds_toArray, List.set_cons_succ, List.set_cons_zero]); go_big_quiet_on) | (refine quiet_val ?_; apply Exists.intro; refine ⟨fun W => ?_, ?_⟩; (go_simp; (try simp only [cx, cy, if_true, Bool.false_eq_true, if_false]); rfl); (simp only [Act.put, List.setIfInBounds_toArray, List.set_cons_succ, List.set_cons_zero]); go_big_quiet_on)))); (with_reducible refine wpQuiet_nil ?_); intro W' hM)
  go_wp2
  go_ret
  exact ⟨ret_bs (l := u ++ 44 :: v) (by simp), hM.below⟩
end Go.Proofs.YtcdpdcjdjcbhcaaDoor

/-
  Words: a list of strings that grows; how it is joined.
-/
namespace Go.Proofs.YtcdpdcjdjcbhcaaDoor
open Go Go.RowKit Go.BigFrame

theorem strs_under : Tryd.prog.underlying 69 = some (.slice 9) := Tryd.underlying69
theorem strs_info : (Tryd.prog.info? 9).map (fun i => (i.size, i.zero)) = some (1, some (.string ⟨#[]⟩)) := by kernel_rfl
theorem strF_one {f : Nat → List UInt8} : ∀ k, k < 1 → ((fun _ => strF f k) k : Value).oneCell' = true := fun _ _ => rfl
/-- Words that a call listed, joined. -/
theorem join_lst {w : World} {K : Blocks} {v : Value} {n : Nat} {f : Nat → List UInt8} {W : World} (h : Lst (Base.of w) K 1 v n (strF f) W) (sep : List UInt8) (m : Nat) (hf : ∀ k, k < n → (f k).length ≤ m) (hm : n * (m + sep.length) ≤ 100000000) (hn : n ≤ 1048576) :
    Calls Tryd.prog 46 #[v, .string (bs sep)] W fun e w' => e = .returned (.string (bs (joinT sep f n))) ∧ Below W.heap.size W w' := by
  rcases h with ⟨rfl, rfl, hM⟩ | ⟨b, c, F, rfl, hb, hc, hF, hM⟩
  · exact join_none _ _ _ _
  · exact join_any b n (c * 1) c f F sep m hf hm hn (by omega) (fun k hk => hF k (by omega)) hc W (hM.ats 0 _ _ _ rfl)
end Go.Proofs.YtcdpdcjdjcbhcaaDoor

/-
  PLAIN LAWS: the first k of a list.
-/
namespace Go.Proofs.YtcdpdcjdjcbhcaaDoor
open Go Go.RowKit

theorem run_cutTo {P : Program} {t e : TypeId} (hu : P.underlying t = some (.slice e)) {m : Nat} (hz : (P.info? e).map (·.size) = some m) (b off n c k : Nat) (hk : k ≤ c) (W : World) :
    (Instr.sliceAt t (.slice (some ⟨b, off, none⟩) n c) none (some (.int .i64 k)) none).run P W = .ok (.slice (some ⟨b, off, none⟩) k c) W := by
  obtain ⟨ie, hie, hq⟩ := Option.map_eq_some_iff.1 hz
  have hle : (k : Int) ≤ c := by omega
  have hb1 : (Instr.sliceBound (.int .i64 k) c .sliceAcap).run P W = .ok k W := by
    simp [Instr.sliceBound, asIntOf, hle]
  have hr : (Instr.slice t (.slice (some ⟨b, off, none⟩) n c) none (some (.int .i64 k)) none).run P W = .ok (.slice (some ⟨b, off, none⟩) k c) W := by
    simp [Instr.slice, Instr.sliceBounds, run_underlying hu, sizeOf, typeInfo, hie, hq, hb1, add_any]
  unfold Instr.sliceAt
  simp only [Sem.run_bind, run_underlying hu, Result.andThen_ok, hr]
end Go.Proofs.YtcdpdcjdjcbhcaaDoor

/-
  (impl.Stake).isToldFor, sharesCell, slices.IndexFunc and ContainsFunc over it, impl.ValidStakes, spec.ValidStakes by contracts; laws.FnExactValidStakes returns true.
-/
namespace Go.Proofs.YtcdpdcjdjcbhcaaDoor
open Go Go.RowKit Go.BigFrame

theorem atEq_comm (a b : Nat → Int) : atEq a b = atEq b a := by
  unfold atEq
  rw [Bool.eq_iff_iff]
  simp only [Bool.and_eq_true, beq_iff_eq]
  exact ⟨fun h => ⟨h.1.symm, h.2.symm⟩, fun h => ⟨h.1.symm, h.2.symm⟩⟩

set_option maxRecDepth 100000 in
set_option maxHeartbeats 1000000 in
theorem stakeTold_any (g h : Nat → Int) (w : World) :
    Calls Tryd.prog 56 #[.agg (arr 3 (vStake h)), .agg (arr 122 (pas g))] w fun e w' => e = .returned (.bool (stakeB g h)) ∧ Below w.heap.size w w' := by
  have hM := Mem.nil w
  have e0 : arr 2 (fun j => vStake h (0 + j)) = arr 2 (sp (h 0) (h 1)) := spStake0 h
  have e2 : vStake h 2 = .int .i16 (h 2) := rfl
  have tk_b1 : True := trivial; have tk_b2 : True := trivial; have tk_q1 : True := trivial; have tk_q2 : True := trivial
  cases h1 : isB g (h 0) (h 1)
  · have Hp : Hid (stakeB g h = false) := Lib.hid (by simp [stakeB, h1])
    have H1 := Lib.hid h1
    clear h1
    go_enter Tryd.func56, Tryd.ntmps56
    go_wp2_with (first | (go_at_call 44; (with_reducible refine (hasCell_any g (h 0) (h 1) _).mono ?_); rintro e W' ⟨rfl, hb'⟩; rw [H1.out]; have hM' := hM.call hb'; clear hM hb'; have hM := hM'; clear hM') | (have _t := tk_b1; refine wpList_box rfl _ _ rfl _ _ rfl hM ?_; intro b1 W' hb1 hM'; clear hM tk_b1; have hM := hM'; clear hM') | (have _t := tk_b2; refine wpList_box rfl _ _ rfl _ _ rfl hM ?_; intro b2 W' hb2 hM'; clear hM tk_b2; have hM := hM'; clear hM') | (have _t := tk_q1; (refine wpList_get rfl _ _ rfl _ _ rfl hM 0 rfl (rowTab _ _ rfl) (by omega) ?_); clear tk_q1) | (have _t := tk_q2; (refine wpList_get rfl _ _ rfl _ _ rfl hM 1 rfl (rowTab _ 2 rfl) (by omega) ?_); rw [e0]; clear tk_q2))
    go_ret
    exact ⟨ret_bool Hp.out.symm, hM.below⟩
  rcases (show h 2 < 0 ∨ (0 ≤ h 2 ∧ 200 < h 2) ∨ (0 ≤ h 2 ∧ h 2 ≤ 200) by omega) with r0 | ⟨r0, r1⟩ | ⟨r0, r1⟩
  · have Hp : Hid (stakeB g h = false) := Lib.hid (by unfold stakeB; rw [inB_no (by omega), Bool.and_false])
    have H1 := Lib.hid h1
    have d0 : decide (0 ≤ h 2) = false := decide_eq_false (by omega)
    clear h1
    go_enter Tryd.func56, Tryd.ntmps56
    go_wp2_with (first | (go_at_call 44; (with_reducible refine (hasCell_any g (h 0) (h 1) _).mono ?_); rintro e W' ⟨rfl, hb'⟩; rw [H1.out]; have hM' := hM.call hb'; clear hM hb'; have hM := hM'; clear hM') | (have _t := tk_b1; refine wpList_box rfl _ _ rfl _ _ rfl hM ?_; intro b1 W' hb1 hM'; clear hM tk_b1; have hM := hM'; clear hM') | (have _t := tk_b2; refine wpList_box rfl _ _ rfl _ _ rfl hM ?_; intro b2 W' hb2 hM'; clear hM tk_b2; have hM := hM'; clear hM') | (have _t := tk_q1; (refine wpList_get rfl _ _ rfl _ _ rfl hM 0 rfl (rowTab _ _ rfl) (by omega) ?_); clear tk_q1) | (have _t := tk_q2; (refine wpList_get rfl _ _ rfl _ _ rfl hM 1 rfl (rowTab _ 2 rfl) (by omega) ?_); rw [e0]; clear tk_q2) | (refine wpList_gget1 ?_ _ _ rfl _ _ rfl hM 1 rfl (cellTab _ rfl) (by omega) _ e2 ?_; kernel_rfl))
    go_ret
    exact ⟨ret_bool Hp.out.symm, hM.below⟩
  · have Hp : Hid (stakeB g h = false) := Lib.hid (by unfold stakeB; rw [inB_no (by omega), Bool.and_false])
    have H1 := Lib.hid h1
    have d0 : decide (0 ≤ h 2) = true := decide_eq_true (by omega)
    have d1 : decide (h 2 ≤ 200) = false := decide_eq_false (by omega)
    clear h1
    go_enter Tryd.func56, Tryd.ntmps56
    go_wp2_with (first | (go_at_call 44; (with_reducible refine (hasCell_any g (h 0) (h 1) _).mono ?_); rintro e W' ⟨rfl, hb'⟩; rw [H1.out]; have hM' := hM.call hb'; clear hM hb'; have hM := hM'; clear hM') | (have _t := tk_b1; refine wpList_box rfl _ _ rfl _ _ rfl hM ?_; intro b1 W' hb1 hM'; clear hM tk_b1; have hM := hM'; clear hM') | (have _t := tk_b2; refine wpList_box rfl _ _ rfl _ _ rfl hM ?_; intro b2 W' hb2 hM'; clear hM tk_b2; have hM := hM'; clear hM') | (have _t := tk_q1; (refine wpList_get rfl _ _ rfl _ _ rfl hM 0 rfl (rowTab _ _ rfl) (by omega) ?_); clear tk_q1) | (have _t := tk_q2; (refine wpList_get rfl _ _ rfl _ _ rfl hM 1 rfl (rowTab _ 2 rfl) (by omega) ?_); rw [e0]; clear tk_q2) | (refine wpList_gget1 ?_ _ _ rfl _ _ rfl hM 1 rfl (cellTab _ rfl) (by omega) _ e2 ?_; kernel_rfl))
    go_ret
    exact ⟨ret_bool Hp.out.symm, hM.below⟩
  · have Hp : Hid (stakeB g h = true) := Lib.hid (by unfold stakeB; rw [h1, inB_yes ⟨r0, r1⟩]; rfl)
    have H1 := Lib.hid h1
    have d0 : decide (0 ≤ h 2) = true := decide_eq_true (by omega)
    have d1 : decide (h 2 ≤ 200) = true := decide_eq_true (by omega)
    clear h1
    go_enter Tryd.func56, Tryd.ntmps56
    go_wp2_with (first | (go_at_call 44; (with_reducible refine (hasCell_any g (h 0) (h 1) _).mono ?_); rintro e W' ⟨rfl, hb'⟩; rw [H1.out]; have hM' := hM.call hb'; clear hM hb'; have hM := hM'; clear hM') | (have _t := tk_b1; refine wpList_box rfl _ _ rfl _ _ rfl hM ?_; intro b1 W' hb1 hM'; clear hM tk_b1; have hM := hM'; clear hM') | (have _t := tk_b2; refine wpList_box rfl _ _ rfl _ _ rfl hM ?_; intro b2 W' hb2 hM'; clear hM tk_b2; have hM := hM'; clear hM') | (have _t := tk_q1; (refine wpList_get rfl _ _ rfl _ _ rfl hM 0 rfl (rowTab _ _ rfl) (by omega) ?_); clear tk_q1) | (have _t := tk_q2; (refine wpList_get rfl _ _ rfl _ _ rfl hM 1 rfl (rowTab _ 2 rfl) (by omega) ?_); rw [e0]; clear tk_q2) | (refine wpList_gget1 ?_ _ _ rfl _ _ rfl hM 1 rfl (cellTab _ rfl) (by omega) _ e2 ?_; kernel_rfl))
    go_ret
    exact ⟨ret_bool Hp.out.symm, hM.below⟩

/-- What the search for a stake in the cell of a gives. -/
def IdxOf (hs : Nat → Nat → Int) (a : Nat → Int) (k : Nat) (w : World) (e : Ending) (w' : World) : Prop :=
  (∃ j : Nat, e = .returned (.int .i64 j) ∧ freeTo hs a k = false ∧ Below w.heap.size w w') ∨ (e = .returned (.int .i64 (-1)) ∧ freeTo hs a k = true ∧ Below w.heap.size w w')
theorem lay_stake (z : Nat → Value) (hs : Nat → Nat → Int) (k : Nat) : ∀ j, j < 3 → lay z 0 3 (fun i => sStake hs (k * 3 + i)) j = vStake (hs k) j := fun j hj => by
  simp only [lay, Nat.zero_add, Nat.sub_zero]
  rw [if_pos ⟨by omega, hj⟩]
  exact sStake_row hs k j hj

end Go.Proofs.YtcdpdcjdjcbhcaaDoor

/-
  PLAIN LAW: a list's elements are appended to a list that has none and no room.
-/
namespace Go.Proofs.YtcdpdcjdjcbhcaaDoor
open Go Go.RowKit

/-- A block that a call gave, told by its world. -/
theorem Mem.freshQ {b0 : Base} {L : Blocks} {X X' : World} {b n : Nat} {f : Nat → Value} (hM : Mem b0 L X) (hb : Below X.heap.size X X') (ha : At X' b n f) (hge : X.heap.size ≤ b) : Mem b0 ((b, n, f) :: L) X' := by
  have hM2 := hM.call hb
  have off : ∀ (i : Nat) (p : Nat × Nat × (Nat → Value)), L[i]? = some p → p.1 ≠ b := fun i p h => by
    have := (hM.ats i p.1 p.2.1 p.2.2 h).lt
    omega
  refine ⟨hM2.good, fun i b' n' f' hi => ?_, fun i j x y hi hj hne => ?_⟩
  · match i, hi with
    | 0, hi => simp at hi; obtain ⟨rfl, rfl, rfl⟩ := hi; exact ha
    | i + 1, hi => exact hM2.ats i b' n' f' (by simpa using hi)
  · match i, j, hi, hj with
    | 0, 0, _, _ => exact absurd rfl hne
    | 0, j + 1, hi, hj => simp at hi hj; rw [← hi]; exact fun e => off j y hj e.symm
    | i + 1, 0, hi, hj => simp at hi hj; rw [← hj]; exact off i x hi
    | i + 1, j + 1, hi, hj => exact hM2.apart i j x y (by simpa using hi) (by simpa using hj) (by omega)

section
variable {P : Program} {ops : Array Oper} {rest : List Oper} {o : Oper} {a : Act} {w : Base} {W : World} {Q : Exit → Act → World → Prop} {L : Blocks}
/-- A list's elements, one or more, are appended to a list that has none and no room. -/
theorem wpList_cat0 (hgd : o.guard = none) (s x : Operand) (t : TypeId) (ho : o.op = .call { callee := .builtin .append, args := #[s, x], argTypes := #[t, t] })
    (e : TypeId) (m bs : Nat) (z : Value) (hu : P.underlying t = some (.slice e)) (hz : (P.info? e).map (fun i => (i.size, i.zero, i.bytes)) = some (m, some z, bs)) (hzs : z.cells.size = m) (hbs : bs ≤ 1000)
    (b0 : Nat) (hs : a.eval s = .slice (some ⟨b0, 0, none⟩) 0 0) (bn n cn : Nat) (hx : a.eval x = .slice (some ⟨bn, 0, none⟩) n cn) (hn1 : 1 ≤ n) (hn : n ≤ 1048576)
    (hM : Mem w L W) (i0 : Nat) {N : Nat} {f : Nat → Value} (hi0 : L[i0]? = some (bn, N, f)) (hN : n * m ≤ N)
    (h : ∀ b' c' F' W', w.B ≤ b' → n ≤ c' → (∀ j, j < n * m → F' j = f j) → Mem w ((b', c' * m, F') :: L) W' → wpList P ops Q rest (a.put o.dst (.slice (some ⟨b', 0, none⟩) n c')) W') : wpList P ops Q (o :: rest) a W := by
  obtain ⟨i, hi, hq⟩ := Option.map_eq_some_iff.1 hz
  simp only [Prod.mk.injEq] at hq
  obtain ⟨rfl, q2, rfl⟩ := hq
  refine wpList_plain hgd fun J hJ => ?_
  have hb48 : Builtin.nextslicecap (0 + n) 0 * i.bytes ≤ 281474976710656 := growslice_fits (by omega) (by
    have : (0 + n) * i.bytes ≤ 1048576 * 1000 := Nat.mul_le_mul (by omega) hbs
    omega)
  have hr := run_append_grow (P := P) W t o.type e i z hu hi q2 ⟨b0, 0, none⟩ 0 0 [] (by simp) (fun j v hv => by simp at hv) ⟨bn, 0, none⟩ n cn (arr (n * i.size) f).toList (by simp [arr_size]) ((hM.ats i0 _ _ _ hi0).list hN) (by omega) (by omega) hb48
  have hge := grownCap_ge W (0 + n) 0 e
  rw [Nat.zero_add] at hr hge
  unfold Oper.wp execOp
  simp only [ho, resolve, invoke, builtin, Sem.run_bind, Sem.run_pure, Result.andThen_ok, List.map_toArray, List.map_cons, List.map_nil, hs, hx, hr]
  refine hJ _ _ (h _ _ _ _ hM.size hge (fun j hj => ?_) (hM.drew.allocA e _ (grownCap W n 0 e * i.size) ?_))
  · rw [Array.getElem?_append_left (by simp [arr_size]; omega)]
    simp [arr, hj]
  · simp only [Array.size_append, List.size_toArray, size_zeroCells, hzs, Array.length_toList, arr_size, List.length_nil]
    rw [Nat.zero_add, ← Nat.add_mul]
    congr 1; omega
end
end Go.Proofs.YtcdpdcjdjcbhcaaDoor

/-
  PLAIN: what a call gives that returns a list and a code (or a list, a number and a code): no element, or the first cells of a new block; a block brought to the front.
-/
namespace Go.Proofs.YtcdpdcjdjcbhcaaDoor
open Go Go.RowKit

/-- The list v: n elements of m cells, R, in a new block; or none. -/
def NewL (m n : Nat) (R : Nat → Value) (w : World) (v : Value) (w' : World) : Prop :=
  (n = 0 ∧ (∃ a c, v = .slice a 0 c) ∧ Below w.heap.size w w') ∨ ∃ b c N F, v = .slice (some ⟨b, 0, none⟩) n c ∧ w.heap.size ≤ b ∧ n * m ≤ N ∧ (∀ j, j < n * m → F j = R j) ∧ At w' b N F ∧ Below w.heap.size w w'
def GivesR (m n : Nat) (R : Nat → Value) (cc : Int) (w : World) (e : Ending) (w' : World) : Prop := ∃ v, e = .returned (.tuple #[v, .int .i64 cc]) ∧ NewL m n R w v w'
def GivesR2 (m n : Nat) (R : Nat → Value) (x cc : Int) (w : World) (e : Ending) (w' : World) : Prop := ∃ v, e = .returned (.tuple #[v, .int .i64 x, .int .i64 cc]) ∧ NewL m n R w v w'
theorem NewL.zero {m n : Nat} {R : Nat → Value} {w : World} {v : Value} {w' : World} (h : NewL m n R w v w') (hn : n = 0) : ∃ a c, v = .slice a 0 c ∧ Below w.heap.size w w' := by
  rcases h with ⟨-, ⟨a, c, h⟩, hb⟩ | ⟨b, c, N, F, h, -, -, -, -, hb⟩
  · exact ⟨a, c, h, hb⟩
  · exact ⟨_, c, by rw [h, hn], hb⟩
theorem NewL.some {m n : Nat} {R : Nat → Value} {w : World} {v : Value} {w' : World} (h : NewL m n R w v w') (hn : 0 < n) : ∃ b c N F, v = .slice (some ⟨b, 0, none⟩) n c ∧ w.heap.size ≤ b ∧ n * m ≤ N ∧ (∀ j, j < n * m → F j = R j) ∧ At w' b N F ∧ Below w.heap.size w w' := by
  rcases h with ⟨h, -⟩ | h
  · omega
  · exact h
theorem GivesR.to {m n n' : Nat} {R R' : Nat → Value} {c c' : Int} {w : World} {e : Ending} {w' : World} (h : GivesR m n R c w e w') (hn : n = n') (hR : R = R') (hc : c = c') : GivesR m n' R' c' w e w' := by rw [← hn, ← hR, ← hc]; exact h
/-- No list. -/
theorem GivesR.none {m : Nat} {R : Nat → Value} {n : Nat} {cc cc' : Int} {w w' : World} {a : Option Addr} {c : Nat} (hb : Below w.heap.size w w') (hn : n = 0) (hc : cc' = cc) : GivesR m n R cc w (.returned (.tuple #[.slice a 0 c, .int .i64 cc'])) w' := ⟨_, by rw [hc], .inl ⟨hn, ⟨a, c, rfl⟩, hb⟩⟩
/-- The i-th block is brought to the front. -/
theorem Mem.toFront {w : Base} {W : World} {L : Blocks} (h : Mem w L W) (i : Nat) {p : Nat × Nat × (Nat → Value)} (hi : L[i]? = some p) : Mem w (p :: L.eraseIdx i) W := by
  have key : ∀ j q, (L.eraseIdx i)[j]? = some q → L[if j < i then j else j + 1]? = some q := fun j q hq => by
    rw [List.getElem?_eraseIdx] at hq
    split at hq <;> rename_i hji
    · rw [if_pos hji]; exact hq
    · rw [if_neg hji]; exact hq
  refine ⟨h.good, fun j b n f hj => ?_, fun j k x y hj hk hne => ?_⟩
  · match j, hj with
    | 0, hj => simp at hj; subst hj; exact h.ats i _ _ _ hi
    | j + 1, hj => exact h.ats _ b n f (key j _ (by simpa using hj))
  · match j, k, hj, hk with
    | 0, 0, _, _ => exact absurd rfl hne
    | 0, k + 1, hj, hk =>
      simp at hj; subst hj
      exact h.apart i _ _ y hi (key k _ (by simpa using hk)) (by split <;> omega)
    | j + 1, 0, hj, hk =>
      simp at hk; subst hk
      exact h.apart _ i x _ (key j _ (by simpa using hj)) hi (by split <;> omega)
    | j + 1, k + 1, hj, hk => exact h.apart _ _ x y (key j _ (by simpa using hj)) (key k _ (by simpa using hk)) (by split <;> split <;> omega)
end Go.Proofs.YtcdpdcjdjcbhcaaDoor

