/-
  Several texts in one: CodeOf, Check, Lists, ListN, Search, Head.
-/
import Derived.Test.YtbmaljhnldepoaaDoorP1
import Derived.Lib.Hide
import Derived.Test.YtbmaljhnldepoaaDoorP3
import Derived.Test.YtbmaljhnldepoaaDoorP2
import Derived.StillTail
import Derived.Deep.Quiet
/-
  impl.codeOf by contract; what checkCells hands back.
-/
namespace Go.Proofs.YtbmaljhnldepoaaDoor
open Go Go.RowKit Go.BigFrame

theorem is_yes {a : Nat → Addr} (i : Nat) (w : World) :
    Calls Tryd.prog 107 #[errV (a i), errV (a i)] w fun e w' => e = .returned (.bool true) ∧ w = w' := (is_same _ w).mono fun _ _ h => ⟨h.1, h.2.symm⟩
theorem is_no {a : Nat → Addr} {w : World} (h : Errs a w) (i j : Nat) (hi : i < 7) (hj : j < 7) (e : i ≠ j) :
    Calls Tryd.prog 107 #[errV (a i), errV (a j)] w fun e w' => e = .returned (.bool false) ∧ w = w' := by
  obtain ⟨ca, ta, ha⟩ := h.cells i hi
  obtain ⟨cb, tb, hb⟩ := h.cells j hj
  exact (is_other _ _ ca cb ta tb w (h.apart i j hi hj e) ha hb).mono fun _ _ h => ⟨h.1, h.2.symm⟩

/-- The code of the k-th error. -/
def codeK (k : Nat) : Int :=
  match k with
  | 0 => 1
  | 1 => 2
  | 2 => 4
  | 3 => 5
  | 4 => 6
  | 5 => 3
  | _ => 7

set_option maxRecDepth 100000 in
set_option maxHeartbeats 4000000 in
theorem codeOf_0 {a : Nat → Addr} {w : World} (h : Errs a w) :
    Calls Tryd.prog 56 #[errV (a 0)] w fun e w' => e = .returned (.int .i64 1) ∧ w = w' := by
  have v0 : w.cell? ⟨0, 0, none⟩ = some (errV (a 0)) := h.vars 0 (by omega)
  have H := Lib.hid h
  clear h
  go_enter Tryd.func56, Tryd.ntmps56
  go_wp2_with (first | (go_at_call 107; (with_reducible refine (is_yes 0 _).mono ?_); rintro e W' ⟨rfl, rfl⟩))
  go_ret
  exact ⟨rfl, rfl⟩
set_option maxRecDepth 100000 in
set_option maxHeartbeats 4000000 in
theorem codeOf_1 {a : Nat → Addr} {w : World} (h : Errs a w) :
    Calls Tryd.prog 56 #[errV (a 1)] w fun e w' => e = .returned (.int .i64 2) ∧ w = w' := by
  have v0 : w.cell? ⟨0, 0, none⟩ = some (errV (a 0)) := h.vars 0 (by omega)
  have v1 : w.cell? ⟨1, 0, none⟩ = some (errV (a 1)) := h.vars 1 (by omega)
  have H := Lib.hid h
  clear h
  go_enter Tryd.func56, Tryd.ntmps56
  go_wp2_with (first | (go_at_call 107; (with_reducible refine (is_no H.out 1 0 (by omega) (by omega) (by omega)).mono ?_); rintro e W' ⟨rfl, rfl⟩) | (go_at_call 107; (with_reducible refine (is_yes 1 _).mono ?_); rintro e W' ⟨rfl, rfl⟩))
  go_ret
  exact ⟨rfl, rfl⟩
set_option maxRecDepth 100000 in
set_option maxHeartbeats 4000000 in
theorem codeOf_2 {a : Nat → Addr} {w : World} (h : Errs a w) :
    Calls Tryd.prog 56 #[errV (a 2)] w fun e w' => e = .returned (.int .i64 4) ∧ w = w' := by
  have v0 : w.cell? ⟨0, 0, none⟩ = some (errV (a 0)) := h.vars 0 (by omega)
  have v1 : w.cell? ⟨1, 0, none⟩ = some (errV (a 1)) := h.vars 1 (by omega)
  have v5 : w.cell? ⟨2, 0, none⟩ = some (errV (a 5)) := h.vars 5 (by omega)
  have v2 : w.cell? ⟨3, 0, none⟩ = some (errV (a 2)) := h.vars 2 (by omega)
  have H := Lib.hid h
  clear h
  go_enter Tryd.func56, Tryd.ntmps56
  go_wp2_with (first | (go_at_call 107; (with_reducible refine (is_no H.out 2 0 (by omega) (by omega) (by omega)).mono ?_); rintro e W' ⟨rfl, rfl⟩) | (go_at_call 107; (with_reducible refine (is_no H.out 2 1 (by omega) (by omega) (by omega)).mono ?_); rintro e W' ⟨rfl, rfl⟩) | (go_at_call 107; (with_reducible refine (is_no H.out 2 5 (by omega) (by omega) (by omega)).mono ?_); rintro e W' ⟨rfl, rfl⟩) | (go_at_call 107; (with_reducible refine (is_yes 2 _).mono ?_); rintro e W' ⟨rfl, rfl⟩))
  go_ret
  exact ⟨rfl, rfl⟩
set_option maxRecDepth 100000 in
set_option maxHeartbeats 4000000 in
theorem codeOf_3 {a : Nat → Addr} {w : World} (h : Errs a w) :
    Calls Tryd.prog 56 #[errV (a 3)] w fun e w' => e = .returned (.int .i64 5) ∧ w = w' := by
  have v0 : w.cell? ⟨0, 0, none⟩ = some (errV (a 0)) := h.vars 0 (by omega)
  have v1 : w.cell? ⟨1, 0, none⟩ = some (errV (a 1)) := h.vars 1 (by omega)
  have v5 : w.cell? ⟨2, 0, none⟩ = some (errV (a 5)) := h.vars 5 (by omega)
  have v2 : w.cell? ⟨3, 0, none⟩ = some (errV (a 2)) := h.vars 2 (by omega)
  have v3 : w.cell? ⟨4, 0, none⟩ = some (errV (a 3)) := h.vars 3 (by omega)
  have H := Lib.hid h
  clear h
  go_enter Tryd.func56, Tryd.ntmps56
  go_wp2_with (first | (go_at_call 107; (with_reducible refine (is_no H.out 3 0 (by omega) (by omega) (by omega)).mono ?_); rintro e W' ⟨rfl, rfl⟩) | (go_at_call 107; (with_reducible refine (is_no H.out 3 1 (by omega) (by omega) (by omega)).mono ?_); rintro e W' ⟨rfl, rfl⟩) | (go_at_call 107; (with_reducible refine (is_no H.out 3 5 (by omega) (by omega) (by omega)).mono ?_); rintro e W' ⟨rfl, rfl⟩) | (go_at_call 107; (with_reducible refine (is_no H.out 3 2 (by omega) (by omega) (by omega)).mono ?_); rintro e W' ⟨rfl, rfl⟩) | (go_at_call 107; (with_reducible refine (is_yes 3 _).mono ?_); rintro e W' ⟨rfl, rfl⟩))
  go_ret
  exact ⟨rfl, rfl⟩
set_option maxRecDepth 100000 in
set_option maxHeartbeats 4000000 in
theorem codeOf_4 {a : Nat → Addr} {w : World} (h : Errs a w) :
    Calls Tryd.prog 56 #[errV (a 4)] w fun e w' => e = .returned (.int .i64 6) ∧ w = w' := by
  have v0 : w.cell? ⟨0, 0, none⟩ = some (errV (a 0)) := h.vars 0 (by omega)
  have v1 : w.cell? ⟨1, 0, none⟩ = some (errV (a 1)) := h.vars 1 (by omega)
  have v5 : w.cell? ⟨2, 0, none⟩ = some (errV (a 5)) := h.vars 5 (by omega)
  have v2 : w.cell? ⟨3, 0, none⟩ = some (errV (a 2)) := h.vars 2 (by omega)
  have v3 : w.cell? ⟨4, 0, none⟩ = some (errV (a 3)) := h.vars 3 (by omega)
  have v4 : w.cell? ⟨5, 0, none⟩ = some (errV (a 4)) := h.vars 4 (by omega)
  have H := Lib.hid h
  clear h
  go_enter Tryd.func56, Tryd.ntmps56
  go_wp2_with (first | (go_at_call 107; (with_reducible refine (is_no H.out 4 0 (by omega) (by omega) (by omega)).mono ?_); rintro e W' ⟨rfl, rfl⟩) | (go_at_call 107; (with_reducible refine (is_no H.out 4 1 (by omega) (by omega) (by omega)).mono ?_); rintro e W' ⟨rfl, rfl⟩) | (go_at_call 107; (with_reducible refine (is_no H.out 4 5 (by omega) (by omega) (by omega)).mono ?_); rintro e W' ⟨rfl, rfl⟩) | (go_at_call 107; (with_reducible refine (is_no H.out 4 2 (by omega) (by omega) (by omega)).mono ?_); rintro e W' ⟨rfl, rfl⟩) | (go_at_call 107; (with_reducible refine (is_no H.out 4 3 (by omega) (by omega) (by omega)).mono ?_); rintro e W' ⟨rfl, rfl⟩) | (go_at_call 107; (with_reducible refine (is_yes 4 _).mono ?_); rintro e W' ⟨rfl, rfl⟩))
  go_ret
  exact ⟨rfl, rfl⟩
set_option maxRecDepth 100000 in
set_option maxHeartbeats 4000000 in
theorem codeOf_5 {a : Nat → Addr} {w : World} (h : Errs a w) :
    Calls Tryd.prog 56 #[errV (a 5)] w fun e w' => e = .returned (.int .i64 3) ∧ w = w' := by
  have v0 : w.cell? ⟨0, 0, none⟩ = some (errV (a 0)) := h.vars 0 (by omega)
  have v1 : w.cell? ⟨1, 0, none⟩ = some (errV (a 1)) := h.vars 1 (by omega)
  have v5 : w.cell? ⟨2, 0, none⟩ = some (errV (a 5)) := h.vars 5 (by omega)
  have H := Lib.hid h
  clear h
  go_enter Tryd.func56, Tryd.ntmps56
  go_wp2_with (first | (go_at_call 107; (with_reducible refine (is_no H.out 5 0 (by omega) (by omega) (by omega)).mono ?_); rintro e W' ⟨rfl, rfl⟩) | (go_at_call 107; (with_reducible refine (is_no H.out 5 1 (by omega) (by omega) (by omega)).mono ?_); rintro e W' ⟨rfl, rfl⟩) | (go_at_call 107; (with_reducible refine (is_yes 5 _).mono ?_); rintro e W' ⟨rfl, rfl⟩))
  go_ret
  exact ⟨rfl, rfl⟩
set_option maxRecDepth 100000 in
set_option maxHeartbeats 4000000 in
theorem codeOf_6 {a : Nat → Addr} {w : World} (h : Errs a w) :
    Calls Tryd.prog 56 #[errV (a 6)] w fun e w' => e = .returned (.int .i64 7) ∧ w = w' := by
  have v0 : w.cell? ⟨0, 0, none⟩ = some (errV (a 0)) := h.vars 0 (by omega)
  have v1 : w.cell? ⟨1, 0, none⟩ = some (errV (a 1)) := h.vars 1 (by omega)
  have v5 : w.cell? ⟨2, 0, none⟩ = some (errV (a 5)) := h.vars 5 (by omega)
  have v2 : w.cell? ⟨3, 0, none⟩ = some (errV (a 2)) := h.vars 2 (by omega)
  have v3 : w.cell? ⟨4, 0, none⟩ = some (errV (a 3)) := h.vars 3 (by omega)
  have v4 : w.cell? ⟨5, 0, none⟩ = some (errV (a 4)) := h.vars 4 (by omega)
  have v6 : w.cell? ⟨6, 0, none⟩ = some (errV (a 6)) := h.vars 6 (by omega)
  have H := Lib.hid h
  clear h
  go_enter Tryd.func56, Tryd.ntmps56
  go_wp2_with (first | (go_at_call 107; (with_reducible refine (is_no H.out 6 0 (by omega) (by omega) (by omega)).mono ?_); rintro e W' ⟨rfl, rfl⟩) | (go_at_call 107; (with_reducible refine (is_no H.out 6 1 (by omega) (by omega) (by omega)).mono ?_); rintro e W' ⟨rfl, rfl⟩) | (go_at_call 107; (with_reducible refine (is_no H.out 6 5 (by omega) (by omega) (by omega)).mono ?_); rintro e W' ⟨rfl, rfl⟩) | (go_at_call 107; (with_reducible refine (is_no H.out 6 2 (by omega) (by omega) (by omega)).mono ?_); rintro e W' ⟨rfl, rfl⟩) | (go_at_call 107; (with_reducible refine (is_no H.out 6 3 (by omega) (by omega) (by omega)).mono ?_); rintro e W' ⟨rfl, rfl⟩) | (go_at_call 107; (with_reducible refine (is_no H.out 6 4 (by omega) (by omega) (by omega)).mono ?_); rintro e W' ⟨rfl, rfl⟩) | (go_at_call 107; (with_reducible refine (is_yes 6 _).mono ?_); rintro e W' ⟨rfl, rfl⟩))
  go_ret
  exact ⟨rfl, rfl⟩

/-- The code of the k-th error. -/
theorem codeOf_any {a : Nat → Addr} {w : World} (h : Errs a w) (k : Nat) (hk : k < 7) :
    Calls Tryd.prog 56 #[errV (a k)] w fun e w' => e = .returned (.int .i64 (codeK k)) ∧ w = w' := by
  have : k = 0 ∨ k = 1 ∨ k = 2 ∨ k = 3 ∨ k = 4 ∨ k = 5 ∨ k = 6 := by omega
  rcases this with rfl | rfl | rfl | rfl | rfl | rfl | rfl
  · exact codeOf_0 h
  · exact codeOf_1 h
  · exact codeOf_2 h
  · exact codeOf_3 h
  · exact codeOf_4 h
  · exact codeOf_5 h
  · exact codeOf_6 h
end Go.Proofs.YtbmaljhnldepoaaDoor

/-
  impl.checkCells by contracts.
-/
namespace Go.Proofs.YtbmaljhnldepoaaDoor
open Go Go.RowKit Go.BigFrame

theorem spot_under : Tryd.prog.underlying 32 = some (.slice 37) := Tryd.underlying32
theorem spot_info : (Tryd.prog.info? 37).map (fun i => (i.size, i.zero)) = some (2, some (.agg (arr 2 fun _ => .int .i8 0))) := by kernel_rfl
/-- Spots one behind the other. -/
def sps (s : Nat → Int × Int) : Nat → Value := fun k => .int .i8 (if k % 2 = 0 then (s (k / 2)).1 else (s (k / 2)).2)
theorem sp_sps (x y : Int) : ∀ k, k < 2 → sp x y k = sps (fun _ => (x, y)) k := fun k hk => by
  rcases (show k = 0 ∨ k = 1 by omega) with rfl | rfl <;> rfl
theorem sp_sps0 (x y : Int) : ∀ k, k < 2 → sp x y (0 + k) = sps (fun _ => (x, y)) k := fun k hk => by
  rw [Nat.zero_add]; exact sp_sps x y k hk
/-- The first n of them are all cells. -/
def allB (g : Nat → Int) (s : Nat → Int × Int) (n : Nat) : Bool := (List.range n).all fun i => isB g (s i).1 (s i).2
theorem allB_zero (g : Nat → Int) (s : Nat → Int × Int) : allB g s 0 = true := rfl
theorem allB_one (g : Nat → Int) (s : Nat → Int × Int) : allB g s 1 = isB g (s 0).1 (s 0).2 := by simp [allB, List.range_succ]
theorem allB_no {g : Nat → Int} {s : Nat → Int × Int} {n i : Nat} (hi : i < n) (h : isB g (s i).1 (s i).2 = false) : allB g s n = false := by
  unfold allB; rw [List.all_eq_false]; exact ⟨i, by simpa using hi, by rw [h]; decide⟩
theorem allB_yes {g : Nat → Int} {s : Nat → Int × Int} {n : Nat} (h : ∀ i, i < n → isB g (s i).1 (s i).2 = true) : allB g s n = true := by
  unfold allB; rw [List.all_eq_true]; intro i hi; exact h i (by simpa using hi)

/-- What checkCells answers of a valid pasture. -/
def chkS (a : Nat → Addr) (g : Nat → Int) (s : Nat → Int × Int) (n : Nat) : Value := if allB g s n then .nilIface else errV (a 1)
theorem chkS_yes {a : Nat → Addr} {g : Nat → Int} {s : Nat → Int × Int} {n : Nat} (h : allB g s n = true) : chkS a g s n = .nilIface := by simp [chkS, h]
theorem chkS_no {a : Nat → Addr} {g : Nat → Int} {s : Nat → Int × Int} {n : Nat} (h : allB g s n = false) : chkS a g s n = errV (a 1) := by simp [chkS, h]
theorem ret_v {a b : Value} (h : a = b) : Ending.returned a = .returned b := by rw [h]

set_option maxRecDepth 100000 in
set_option maxHeartbeats 2000000 in
theorem checkCells_bad {a : Nat → Addr} (g : Nat → Int) (hg : Fits g) (v : Value) (w : World) (hE : Errs a w) (hv : validB g = false) :
    Calls Tryd.prog 55 #[.agg (arr 122 (pas g)), v] w fun e w' => e = .returned (errV (a 0)) ∧ Below w.heap.size w w' := by
  have hM := Mem.nil w
  have hi := fun W => implValid_any g hg W
  rw [hv] at hi
  have H := Lib.hid hE
  have Hi := Lib.hid hi
  clear hv hi hE
  have tk_b1 : True := trivial
  go_enter Tryd.func55, Tryd.ntmps55
  go_wp2_with (first | (have _t := tk_b1; refine wpList_box rfl _ _ rfl _ _ rfl hM ?_; intro b1 W' hb1 hM'; clear hM tk_b1; have hM := hM'; clear hM') | (refine wpList_get rfl _ _ rfl _ _ rfl hM 0 rfl (rowTab _ _ rfl) (by omega) ?_) | (go_at_call 106; refine (Hi.out _).mono ?_; rintro e W' ⟨rfl, hb'⟩; have hM' := hM.call hb'; have hE' := H.out.below hM'.below; have v0 : W'.cell? ⟨0, 0, none⟩ = some (errV (a 0)) := hE'.vars 0 (by omega); clear hM hb' hE'; have hM := hM'; clear hM'))
  go_ret
  exact ⟨rfl, hM.below⟩

set_option maxRecDepth 100000 in
set_option maxHeartbeats 2000000 in
/-- No spots. -/
theorem checkCells_nil (g : Nat → Int) (hg : Fits g) (w : World) (hv : validB g = true) :
    Calls Tryd.prog 55 #[.agg (arr 122 (pas g)), .slice none 0 0] w fun e w' => e = .returned .nilIface ∧ Below w.heap.size w w' := by
  have hM := Mem.nil w
  have hi := fun W => implValid_any g hg W
  rw [hv] at hi
  have Hi := Lib.hid hi
  clear hv hi
  have tk_b1 : True := trivial
  go_enter Tryd.func55, Tryd.ntmps55
  go_wp2_with (first | (have _t := tk_b1; refine wpList_box rfl _ _ rfl _ _ rfl hM ?_; intro b1 W' hb1 hM'; clear hM tk_b1; have hM := hM'; clear hM') | (refine wpList_get rfl _ _ rfl _ _ rfl hM 0 rfl (rowTab _ _ rfl) (by omega) ?_) | (go_at_call 106; refine (Hi.out _).mono ?_; rintro e W' ⟨rfl, hb'⟩; have hM' := hM.call hb'; clear hM hb'; have hM := hM'; clear hM'))
  refine wp_loop_rounds 1 ?_
  rw [rounds_succ]
  go_wp2
  go_ret
  exact ⟨rfl, hM.below⟩

theorem sps_fst (s : Nat → Int × Int) (k : Nat) : sps s (k * 2 + 0) = .int .i8 (s k).1 := by
  simp [sps]
theorem sps_snd (s : Nat → Int × Int) (k : Nat) : sps s (k * 2 + 1) = .int .i8 (s k).2 := by
  have : (k * 2 + 1) / 2 = k := by omega
  simp [sps, this]

theorem lay_sp0 (z : Nat → Value) (s : Nat → Int × Int) (k : Nat) : lay z 0 2 (fun j => sps s (k * 2 + j)) 0 = .int .i8 (s k).1 := by
  simpa [lay] using sps_fst s k
theorem lay_sp1 (z : Nat → Value) (s : Nat → Int × Int) (k : Nat) : lay z 0 2 (fun j => sps s (k * 2 + j)) 1 = .int .i8 (s k).2 := by
  simpa [lay] using sps_snd s k

set_option maxRecDepth 100000 in
set_option maxHeartbeats 2000000 in
/-- Spots in a block. -/
theorem checkCells_some {a : Nat → Addr} (g : Nat → Int) (hg : Fits g) (bl n c N : Nat) (s : Nat → Int × Int) (hN : 2 * n ≤ N) (hn : n ≤ maxLen) (w : World) (hA : At w bl N (sps s)) (hE : Errs a w) (hv : validB g = true) :
    Calls Tryd.prog 55 #[.agg (arr 122 (pas g)), .slice (some ⟨bl, 0, none⟩) n c] w fun e w' => e = .returned (chkS a g s n) ∧ Below w.heap.size w w' := by
  have hM := (Mem.nil w).old hA (fun i p h => by simp at h)
  simp only [List.nil_append] at hM
  have hi := fun W => implValid_any g hg W
  rw [hv] at hi
  have Hi := Lib.hid hi
  have HE := Lib.hid hE
  unfold maxLen at hn
  clear hv hi hA hE
  have tk_b1 : True := trivial
  go_enter Tryd.func55, Tryd.ntmps55
  go_wp2_with (first | (have _t := tk_b1; refine wpList_box rfl _ _ rfl _ _ rfl hM ?_; intro b1 W' hb1 hM'; clear hM tk_b1; have hM := hM'; clear hM') | (refine wpList_get rfl _ _ rfl _ _ rfl hM 0 rfl (rowTab _ _ rfl) (by omega) ?_) | (go_at_call 106; refine (Hi.out _).mono ?_; rintro e W' ⟨rfl, hb'⟩; have hM' := hM.call hb'; clear hM hb'; have hM := hM'; clear hM'))
  go_loopw [13] (fun i wr => ∃ k : Nat, k ≤ n ∧ i = .int .i64 k ∧ Hid (∀ j, j < k → isB g (s j).1 (s j).2 = true) ∧ Mem w [(b1, 122, pas g), (bl, N, sps s)] wr) (fun i _ => n - (intOf i).toNat)
  case atStart => exact ⟨0, by omega, rfl, Lib.hid (fun j hj => absurd hj (by omega)), hM⟩
  case round =>
    clear hM
    obtain ⟨k, hk, rfl, hall, hM⟩ := hrel
    by_cases hlt : k < n
    · cases hB : isB g (s k).1 (s k).2
      · have HB := Lib.hid hB
        clear hB
        have tk_b2 : True := trivial
        go_wp2_with (first | (refine wpList_get rfl _ _ rfl _ _ rfl hM 1 rfl (rowTab _ _ rfl) (by omega) ?_) | (have _t := tk_b2; refine wpList_zero rfl _ rfl (zeroTab _ _ _ rfl) hM ?_; intro b2 W' hb2 hM'; clear hM tk_b2; have hM := hM'; clear hM') | (refine wpList_lay rfl _ _ _ rfl _ _ rfl _ _ rfl hM 0 rfl (by assumption) (rowTab _ _ rfl) (by omega) ?_ ?_; (first | (intro _ _; rfl) | (intro k _; exact h1 _) | (intro k _; simp only [lay, upd]; (repeat' split) <;> first | exact h1 _ | rfl)); intro W' hM'; clear hM; have hM := hM'; clear hM'; simp only [List.set] at hM) | (refine wpList_get rfl _ _ rfl _ _ rfl hM 0 rfl (rowTab _ _ rfl) (by omega) ?_) | (go_at_call 79; refine (hasCell_of g _ (s k).1 (s k).2 (lay_sp0 _ s k) (lay_sp1 _ s k) _).mono ?_; rintro e W' ⟨rfl, hb'⟩; rw [HB.out]; have hM' := hM.call hb'; have hE' := HE.out.below hM'.below; have v1 : W'.cell? ⟨1, 0, none⟩ = some (errV (a 1)) := hE'.vars 1 (by omega); clear hE'; clear hM hb'; have hM := hM'; clear hM'))
        go_ret
        exact ⟨ret_v (chkS_no (allB_no hlt HB.out)).symm, hM.below⟩
      · have HB := Lib.hid hB
        clear hB
        have tk_b2 : True := trivial
        go_wp2_with (first | (refine wpList_get rfl _ _ rfl _ _ rfl hM 1 rfl (rowTab _ _ rfl) (by omega) ?_) | (have _t := tk_b2; refine wpList_zero rfl _ rfl (zeroTab _ _ _ rfl) hM ?_; intro b2 W' hb2 hM'; clear hM tk_b2; have hM := hM'; clear hM') | (refine wpList_lay rfl _ _ _ rfl _ _ rfl _ _ rfl hM 0 rfl (by assumption) (rowTab _ _ rfl) (by omega) ?_ ?_; (first | (intro _ _; rfl) | (intro k _; exact h1 _) | (intro k _; simp only [lay, upd]; (repeat' split) <;> first | exact h1 _ | rfl)); intro W' hM'; clear hM; have hM := hM'; clear hM'; simp only [List.set] at hM) | (refine wpList_get rfl _ _ rfl _ _ rfl hM 0 rfl (rowTab _ _ rfl) (by omega) ?_) | (go_at_call 79; refine (hasCell_of g _ (s k).1 (s k).2 (lay_sp0 _ s k) (lay_sp1 _ s k) _).mono ?_; rintro e W' ⟨rfl, hb'⟩; rw [HB.out]; have hM' := hM.call hb'; clear hM hb'; have hM := hM'; clear hM'))
        go_roundw
        case rel => exact ⟨k + 1, by omega, by go_num, Lib.hid (fun j hj => by
          by_cases e : j = k
          · rw [e]; exact HB.out
          · exact hall.out j (by omega)), hM.drop⟩
        case measure => simp [intOf]; omega
    · obtain rfl : k = n := by omega
      go_wp2
      go_ret
      exact ⟨ret_v (chkS_yes (allB_yes hall.out)).symm, hM.below⟩
end Go.Proofs.YtbmaljhnldepoaaDoor

/-
  Lists that are results: what a law may take of them.
-/
namespace Go.Proofs.YtbmaljhnldepoaaDoor
open Go Go.RowKit Go.BigFrame

theorem sps_row (s : Nat → Int × Int) (k j : Nat) (hj : j < 2) : sps s (k * 2 + j) = sp (s k).1 (s k).2 j := by
  rcases (show j = 0 ∨ j = 1 by omega) with rfl | rfl
  · exact sps_fst s k
  · exact sps_snd s k
theorem spot_infoB : (Tryd.prog.info? 37).map (fun i => (i.size, i.zero, i.bytes)) = some (2, some (.agg (arr 2 fun _ => .int .i8 0)), 2) := by kernel_rfl
theorem spots_zero : (Tryd.prog.info? 32).map (·.zero) = some (some (.slice none 0 0)) := by kernel_rfl
theorem sp_one {x y : Int} : ∀ k, k < 2 → (sp x y k).oneCell' = true := fun k hk => by
  rcases (show k = 0 ∨ k = 1 by omega) with rfl | rfl <;> rfl

theorem sp_one0 {x y : Int} : ∀ k, k < 2 → (sp x y (0 + k)).oneCell' = true := fun k hk => by rw [Nat.zero_add]; exact sp_one k hk
theorem spots_cell : CellT Tryd.prog 32 := ⟨⟨_, spot_under, rfl⟩, by kernel_rfl⟩

theorem Lst.up {w0 w1 : World} {K : Blocks} {m n : Nat} {v : Value} {R : Nat → Value} {W : World} (hM : Mem w0 K w1) (h : Lst w1 [] m v n R W) : Lst w0 [] m v n R W ∧ Below w1.heap.size w1 W := by
  rcases h with ⟨h1, h2, h⟩ | ⟨b, c, F, h1, h2, h3, h4, h⟩
  · exact ⟨.inl ⟨h1, h2, Mem.start (hM.call h.below).good⟩, h.below⟩
  · exact ⟨.inr ⟨b, c, F, h1, Nat.le_trans hM.size h2, h3, h4, h.base (hM.call h.below).good⟩, h.below⟩
theorem Mem.freshH {b0 : Base} {L : Blocks} {X X' : World} {b n : Nat} {f : Nat → Value} (hM : Mem b0 L X) (hb : Below X.heap.size X X') (ha : At X' b n f) (hge : X.heap.size ≤ b) : Mem b0 ((b, n, f) :: L) X' := by
  have hM2 := hM.call hb
  have off : ∀ (i : Nat) (p : Nat × Nat × (Nat → Value)), L[i]? = some p → p.1 ≠ b := fun i p h => by
    have := (hM.ats i p.1 p.2.1 p.2.2 h).lt
    omega
  refine ⟨hM2.good, fun i b' n' f' hi => ?_, fun i j x y hi hj hne => ?_⟩
  · match i, hi with
    | 0, hi => simp at hi; obtain ⟨rfl, rfl, rfl⟩ := hi; exact ha
    | i + 1, hi => exact hM2.ats i b' n' f' (by simpa using hi)
  · match i, j, hi, hj with
    | 0, 0, _, _ => exact absurd rfl hne
    | 0, j + 1, hi, hj => simp at hi hj; rw [← hi]; exact fun e => off j y hj e.symm
    | i + 1, 0, hi, hj => simp at hi hj; rw [← hj]; exact off i x hi
    | i + 1, j + 1, hi, hj => exact hM2.apart i j x y (by simpa using hi) (by simpa using hj) (by omega)
theorem Lst.some {w : World} {m n : Nat} {v : Value} {R : Nat → Value} {W : World} (h : Lst w [] m v n R W) (hn : 0 < n) : ∃ b c F, v = .slice (some ⟨b, 0, none⟩) n c ∧ w.heap.size ≤ b ∧ n ≤ c ∧ (∀ j, j < n * m → F j = R j) ∧ At W b (c * m) F ∧ Below w.heap.size w W := by
  rcases h with ⟨-, h, -⟩ | ⟨b, c, F, h1, h2, h3, h4, h5⟩
  · omega
  · exact ⟨b, c, F, h1, h2, h3, h4, h5.at0, h5.below⟩
theorem Lst.zero {w : World} {m n : Nat} {v : Value} {R : Nat → Value} {W : World} (h : Lst w [] m v n R W) (hn : n = 0) : ∃ a c, v = .slice a 0 c ∧ Below w.heap.size w W := by
  rcases h with ⟨h1, -, h⟩ | ⟨b, c, F, h1, h2, h3, h4, h5⟩
  · exact ⟨none, 0, h1, h.below⟩
  · exact ⟨_, c, by rw [h1, hn], h5.below⟩
end Go.Proofs.YtbmaljhnldepoaaDoor

/-
  Lists of cells as spots, and what functions that return such lists answer; cells of which something holds.
-/
namespace Go.Proofs.YtbmaljhnldepoaaDoor
open Go Go.RowKit Go.BigFrame

/-- Cells as spots. -/
def sL (l : List (Nat × Nat)) : Nat → Int × Int := fun k => (((l.getD k (0, 0)).1 : Int), ((l.getD k (0, 0)).2 : Int))
theorem sL_old (l : List (Nat × Nat)) (x : Nat × Nat) {k : Nat} (h : k < l.length) : sL (l ++ [x]) k = sL l k := by simp [sL, List.getElem?_append, h]
theorem sL_new (l : List (Nat × Nat)) (x : Nat × Nat) : sL (l ++ [x]) l.length = ((x.1 : Int), (x.2 : Int)) := by simp [sL]
theorem sps_old {l : List (Nat × Nat)} (x : Nat × Nat) {j : Nat} (h : j < l.length * 2) : sps (sL l) j = sps (sL (l ++ [x])) j := by
  have e : sL (l ++ [x]) (j / 2) = sL l (j / 2) := sL_old l x (by omega)
  simp [sps, e]
theorem sps_new (l : List (Nat × Nat)) (u v : Nat) {j : Nat} (h : j < 2) : sp (u : Int) (v : Int) j = sps (sL (l ++ [(u, v)])) (l.length * 2 + j) := by
  rw [sps_row _ _ _ h, sL_new]
/-- A list; a list and a code. -/
def Gives1 (w : World) (l : List (Nat × Nat)) (e : Ending) (w' : World) : Prop := ∃ v, e = .returned v ∧ Lst w [] 2 v l.length (sps (sL l)) w'
def GivesS (w : World) (l : List (Nat × Nat)) (c : Int) (e : Ending) (w' : World) : Prop := ∃ v, e = .returned (.tuple #[v, .int .i64 c]) ∧ Lst w [] 2 v l.length (sps (sL l)) w'

/-- The cells of which p holds. -/
def thatF (p : Nat → Nat → Bool) (l : List (Nat × Nat)) : List (Nat × Nat) := l.filter fun s => p s.1 s.2
theorem thatF_len {p : Nat → Nat → Bool} {l : List (Nat × Nat)} : (thatF p l).length ≤ l.length := List.length_filter_le _ _
theorem thatU_yes {p : Nat → Nat → Bool} {W k j : Nat} (h : j < W) (hz : p j k = true) : thatF p (upto W (k * W + (j + 1))) = thatF p (upto W (k * W + j)) ++ [(j, k)] := by
  unfold thatF
  rw [← Nat.add_assoc, upto_succ, List.filter_append, cellAt_row h]
  simp [hz]
theorem thatU_no {p : Nat → Nat → Bool} {W k j : Nat} (h : j < W) (hz : p j k = false) : thatF p (upto W (k * W + (j + 1))) = thatF p (upto W (k * W + j)) := by
  unfold thatF
  rw [← Nat.add_assoc, upto_succ, List.filter_append, cellAt_row h]
  simp [hz]
/-- The cells of one row. -/
def rowF (p : Nat → Nat → Bool) (k : Nat) : Nat → List (Nat × Nat)
  | 0 => []
  | j + 1 => rowF p k j ++ if p j k then [(j, k)] else []
theorem thatU_row {p : Nat → Nat → Bool} {W k : Nat} : ∀ j, j ≤ W → thatF p (upto W (k * W + j)) = thatF p (upto W (k * W)) ++ rowF p k j
  | 0, _ => by simp [rowF]
  | j + 1, h => by
    have ih := thatU_row (p := p) (W := W) (k := k) j (by omega)
    cases hz : p j k
    · rw [thatU_no (show j < W by omega) hz, ih]; simp [rowF, hz]
    · rw [thatU_yes (show j < W by omega) hz, ih]; simp [rowF, hz]
theorem rowF_more {p : Nat → Nat → Bool} {k W : Nat} (h : ∀ u, W ≤ u → p u k = false) : ∀ i, rowF p k (W + i) = rowF p k W
  | 0 => rfl
  | i + 1 => by
    show rowF p k (W + i) ++ (if p (W + i) k then [(W + i, k)] else []) = _
    rw [rowF_more h i, h (W + i) (by omega)]
    simp
/-- Cells beyond the pasture's own are none. -/
theorem thatU_rows {p : Nat → Nat → Bool} {W V : Nat} (hV : W ≤ V) (h : ∀ u v, W ≤ u → p u v = false) : ∀ k, thatF p (upto V (k * V)) = thatF p (upto W (k * W))
  | 0 => by simp [upto]
  | k + 1 => by
    have e1 : (k + 1) * V = k * V + V := by rw [Nat.add_mul, Nat.one_mul]
    have e2 : (k + 1) * W = k * W + W := by rw [Nat.add_mul, Nat.one_mul]
    rw [e1, e2, thatU_row V (Nat.le_refl _), thatU_row W (Nat.le_refl _), thatU_rows hV h k]
    have := rowF_more (p := p) (k := k) (W := W) (fun u hu => h u k hu) (V - W)
    rw [show W + (V - W) = V by omega] at this
    rw [this]
theorem rowF_none {p : Nat → Nat → Bool} {k : Nat} (h : ∀ u, p u k = false) : ∀ j, rowF p k j = []
  | 0 => rfl
  | j + 1 => by
    show rowF p k j ++ (if p j k then [(j, k)] else []) = []
    rw [rowF_none h j, h j]; rfl
theorem thatU_high {p : Nat → Nat → Bool} {W H : Nat} (h : ∀ u v, H ≤ v → p u v = false) : ∀ i, thatF p (upto W ((H + i) * W)) = thatF p (upto W (H * W))
  | 0 => rfl
  | i + 1 => by
    have e1 : (H + (i + 1)) * W = (H + i) * W + W := by rw [← Nat.add_assoc, Nat.add_mul, Nat.one_mul]
    rw [e1, thatU_row W (Nat.le_refl _), thatU_high h i, rowF_none (fun u => h u (H + i) (by omega)), List.append_nil]
theorem that_all {p : Nat → Nat → Bool} {W H : Nat} (hW : W ≤ 10) (hH : H ≤ 10) (h : ∀ u v, (W ≤ u ∨ H ≤ v) → p u v = false) : thatF p (upto 10 (10 * 10)) = thatF p (upto W (W * H)) := by
  rw [thatU_rows hW (fun u v hu => h u v (.inl hu)) 10]
  have := thatU_high (p := p) (W := W) (H := H) (fun u v hv => h u v (.inr hv)) (10 - H)
  rw [show H + (10 - H) = 10 by omega] at this
  rw [this, Nat.mul_comm]
end Go.Proofs.YtbmaljhnldepoaaDoor

/-
  THE MATHEMATICS OF A SEARCH BY STEPS: the list of all cells found, in the order found, and one more than each cell's steps (0: not found).
-/
namespace Go.Proofs.YtbmaljhnldepoaaDoor
open Go

/-- The cells found, in order; one more than the steps to each, 0 where there is no way. -/
structure Found where
  q : List (Int × Int)
  d : Int × Int → Int
def updI (d : Int × Int → Int) (k : Int × Int) (v : Int) : Int × Int → Int := fun j => if j = k then v else d j
/-- A cell beside the cell now is looked at. -/
def visit1 (now : Int × Int) (s : Found) (n : Int × Int) : Found := if s.d n = 0 then ⟨s.q ++ [n], updI s.d n (s.d now + 1)⟩ else s
def visit (nb : Int × Int → List (Int × Int)) (s : Found) (now : Int × Int) : Found := (nb now).foldl (visit1 now) s
/-- When i cells have been taken from the queue. -/
def foundAt (nb : Int × Int → List (Int × Int)) (s0 : Found) : Nat → Found
  | 0 => s0
  | i + 1 => match (foundAt nb s0 i).q[i]? with
    | some now => visit nb (foundAt nb s0 i) now
    | none => foundAt nb s0 i
def found0 (a : Int × Int) : Found := ⟨[a], updI (fun _ => 0) a 1⟩
/-- All that is found from the cell a. -/
def foundOf (nb : Int × Int → List (Int × Int)) (a : Int × Int) : Found := foundAt nb (found0 a) 100

/-- A spot in the widest pasture. -/
def In10 (k : Int × Int) : Prop := 0 ≤ k.1 ∧ k.1 ≤ 9 ∧ 0 ≤ k.2 ∧ k.2 ≤ 9
structure Found.Good (s : Found) (c : Int × Int → Prop) : Prop where
  mem : ∀ k, k ∈ s.q ↔ s.d k ≠ 0
  nodup : s.q.Nodup
  cells : ∀ k, k ∈ s.q → c k
  low : ∀ k, 0 ≤ s.d k
  high : ∀ k, s.d k ≤ (s.q.length : Int)

theorem good_0 {c : Int × Int → Prop} {a : Int × Int} (h : c a) : (found0 a).Good c :=
  ⟨fun k => by by_cases e : k = a <;> simp [found0, updI, e], by simp [found0], fun k hk => by simp [found0] at hk; exact hk ▸ h, fun k => by simp only [found0, updI]; split <;> omega, fun k => by simp only [found0, updI, List.length_singleton]; split <;> omega⟩
theorem good_1 {c : Int × Int → Prop} {s : Found} (h : s.Good c) {now n : Int × Int} (hn : c n) : (visit1 now s n).Good c := by
  unfold visit1
  split
  · rename_i e
    have hq : n ∉ s.q := fun hm => (h.mem n).1 hm e
    have hl := h.low now
    have hh := h.high now
    refine ⟨fun k => ?_, ?_, fun k hk => ?_, fun k => ?_, fun k => ?_⟩
    · by_cases e' : k = n
      · subst e'; simp [updI]; omega
      · simp [updI, e', h.mem k]
    · rw [List.nodup_append]
      exact ⟨h.nodup, by simp, fun x hx y hy e' => by simp at hy; exact hq (by rw [← hy, ← e']; exact hx)⟩
    · simp at hk
      rcases hk with hk | hk
      · exact h.cells k hk
      · exact hk ▸ hn
    · simp only [updI]; split
      · omega
      · exact h.low k
    · simp only [updI, List.length_append, List.length_singleton]
      have := h.high k
      split <;> omega
  · exact h
theorem good_fold {c : Int × Int → Prop} {now : Int × Int} : ∀ (l : List (Int × Int)) {s : Found}, s.Good c → (∀ k, k ∈ l → c k) → (l.foldl (visit1 now) s).Good c
  | [], _, h, _ => h
  | n :: l, _, h, hl => good_fold l (good_1 h (hl n (by simp))) (fun k hk => hl k (by simp [hk]))
theorem good_at {nb : Int × Int → List (Int × Int)} {c : Int × Int → Prop} {s0 : Found} (h : s0.Good c) (hnb : ∀ k, c k → ∀ n, n ∈ nb k → c n) : ∀ i, (foundAt nb s0 i).Good c
  | 0 => h
  | i + 1 => by
    have ih := good_at h hnb i
    unfold foundAt
    split
    · rename_i now e
      exact good_fold _ ih (hnb now (ih.cells now (List.mem_of_getElem? e)))
    · exact ih

theorem nodup_le : ∀ (n : Nat) (l : List Nat), l.Nodup → (∀ k, k ∈ l → k < n) → l.length ≤ n
  | 0, l, _, h => by
    cases l with
    | nil => simp
    | cons a l => exact absurd (h a (by simp)) (by omega)
  | n + 1, l, hd, h => by
    by_cases hm : n ∈ l
    · have h1 := List.length_erase_of_mem hm
      have h2 := nodup_le n (l.erase n) (hd.erase n) (fun k hk => by
        have := (List.Nodup.mem_erase_iff hd).1 hk
        have := h k this.2
        omega)
      omega
    · have := nodup_le n l hd (fun k hk => by
        have h1 := h k hk
        have : k ≠ n := fun e => hm (e ▸ hk)
        omega)
      omega
theorem good_100 {s : Found} (h : s.Good In10) : s.q.length ≤ 100 := by
  have := nodup_le 100 (s.q.map fun k => k.2.toNat * 10 + k.1.toNat) ?_ ?_
  · simpa using this
  · unfold List.Nodup
    rw [List.pairwise_map]
    refine List.Pairwise.imp_of_mem ?_ h.nodup
    intro a b ha hb hne e
    obtain ⟨a1, a2, a3, a4⟩ := h.cells a ha
    obtain ⟨b1, b2, b3, b4⟩ := h.cells b hb
    exact hne (Prod.ext (by omega) (by omega))
  · intro k hk
    obtain ⟨a, ha, rfl⟩ := List.mem_map.1 hk
    obtain ⟨a1, a2, a3, a4⟩ := h.cells a ha
    omega
/-- Where the queue is empty nothing more is found. -/
theorem found_end {nb : Int × Int → List (Int × Int)} {s0 : Found} {i : Nat} (h : (foundAt nb s0 i).q.length ≤ i) : ∀ k, foundAt nb s0 (i + k) = foundAt nb s0 i
  | 0 => rfl
  | k + 1 => by
    have ih := found_end h k
    show (match (foundAt nb s0 (i + k)).q[i + k]? with | some now => visit nb (foundAt nb s0 (i + k)) now | none => foundAt nb s0 (i + k)) = _
    rw [ih, List.getElem?_eq_none (by omega)]
theorem found_all {nb : Int × Int → List (Int × Int)} {a : Int × Int} {i : Nat} (hi : i ≤ 100) (h : (foundAt nb (found0 a) i).q.length ≤ i) : foundAt nb (found0 a) i = foundOf nb a := by
  have := found_end h (100 - i)
  rw [show i + (100 - i) = 100 by omega] at this
  exact this.symm
theorem found_step {nb : Int × Int → List (Int × Int)} {s0 : Found} {i : Nat} {now : Int × Int} (h : (foundAt nb s0 i).q[i]? = some now) : foundAt nb s0 (i + 1) = visit nb (foundAt nb s0 i) now := by
  show (match (foundAt nb s0 i).q[i]? with | some now => visit nb (foundAt nb s0 i) now | none => foundAt nb s0 i) = _
  rw [h]
/-- In the middle of a visit: j of the cells beside have been looked at. -/
def visitAt (nb : Int × Int → List (Int × Int)) (s : Found) (now : Int × Int) (j : Nat) : Found := ((nb now).take j).foldl (visit1 now) s
theorem visitAt_0 {nb : Int × Int → List (Int × Int)} {s : Found} {now : Int × Int} : visitAt nb s now 0 = s := by simp [visitAt]
theorem visitAt_all {nb : Int × Int → List (Int × Int)} {s : Found} {now : Int × Int} {j : Nat} (h : (nb now).length ≤ j) : visitAt nb s now j = visit nb s now := by
  simp [visitAt, visit, List.take_of_length_le h]
theorem visitAt_step {nb : Int × Int → List (Int × Int)} {s : Found} {now n : Int × Int} {j : Nat} (h : (nb now)[j]? = some n) : visitAt nb s now (j + 1) = visit1 now (visitAt nb s now j) n := by
  unfold visitAt
  rw [List.take_add_one, h]
  simp
theorem good_visitAt {nb : Int × Int → List (Int × Int)} {c : Int × Int → Prop} {s : Found} (h : s.Good c) {now : Int × Int} (hn : ∀ n, n ∈ nb now → c n) (j : Nat) : (visitAt nb s now j).Good c :=
  good_fold _ h (fun k hk => hn k (List.mem_of_mem_take hk))
/-- What has been found stays found, with its steps. -/
theorem visit1_keeps {now n k : Int × Int} {s : Found} (h : s.d k ≠ 0) : (visit1 now s n).d k = s.d k := by
  unfold visit1
  split
  · rename_i e
    simp only [updI]
    split
    · rename_i e'; subst e'; exact absurd e h
    · rfl
  · rfl
theorem visit1_q {now n : Int × Int} {s : Found} {i : Nat} {k : Int × Int} (h : s.q[i]? = some k) : (visit1 now s n).q[i]? = some k := by
  unfold visit1
  split
  · rw [List.getElem?_append_left (List.getElem?_eq_some_iff.1 h).1]; exact h
  · exact h
theorem fold_q {now : Int × Int} {i : Nat} {k : Int × Int} : ∀ (l : List (Int × Int)) {s : Found}, s.q[i]? = some k → (l.foldl (visit1 now) s).q[i]? = some k
  | [], _, h => h
  | _ :: l, _, h => fold_q l (visit1_q h)
theorem visit1_len {now n : Int × Int} {s : Found} : s.q.length ≤ (visit1 now s n).q.length := by
  unfold visit1
  split <;> simp
attribute [irreducible] foundOf
end Go.Proofs.YtbmaljhnldepoaaDoor

/-
  PLAIN LAW: a region that draws its order, whose first m operations only read or make quiet calls (whatever world of a class they get), and whose others follow one another.
-/
namespace Go.Proofs.YtbmaljhnldepoaaDoor
open Go
variable {P : Program} {ops : Array Oper} {C : World → Prop}

/-- From here on f operations of the head come up, in whatever order; then T. -/
def headQ (P : Program) (ops : Array Oper) (C : World → Prop) (n : Nat) (T : Array Bool → Act → Prop) : Nat → Array Bool → Act → Prop
  | 0, s, a => T s a
  | f + 1, s, a => Region.ready .any ops s ≠ [] ∧ ∀ i ∈ Region.ready .any ops s, i < n ∧ qOp P ops C i (headQ P ops C n T f (s.setIfInBounds i true)) a

theorem any_of_headQ {n g : Nat} {T : Array Bool → Act → Prop} {Q : Exit → Act → World → Prop} (hT : ∀ s a w, C w → T s a → wpAny P .any ops Q g s a w) (f : Nat) :
    ∀ s a w, C w → headQ P ops C n T f s a → wpAny P .any ops Q (f + g) s a w := by
  induction f with
  | zero => intro s a w hw h; rw [Nat.zero_add]; exact hT s a w hw h
  | succ f ih =>
    intro s a w hw h
    rw [Nat.succ_add]
    exact ⟨fun e => absurd e h.1, fun i hi => wpOp_of_qOp hw (fun a' w' hw' h' => ih _ a' w' hw' h') (h.2 i hi).2⟩

/-- What comes up ahead of an open head operation is of the head. -/
theorem below_of_open {n i j : Nat} {s : Array Bool} (hs : Region.sinkB .any ops n = true) (hc : Region.chainB .any ops n = true) (hn : n < ops.size) (inv : HeadInv .any ops n s) (hin : i < n)
    (hi : i ∈ Region.ready .any ops s) (hj : j ∈ Region.ready .any ops s) : j < n := by
  by_cases h : j < n
  · exact h
  · exact absurd hj (tail_waits hs hc hn inv _ i rfl hin (mem_ready.1 hi).1 j (by omega))

theorem headQ_first {n i : Nat} {oi : Oper} {v : Value} {T : Array Bool → Act → Prop} (hoi : ops[i]? = some oi) (hsel : ∀ (j : Nat) (o : Oper) cs b, ops[j]? = some o → o.op ≠ .select cs b)
    (hs : Region.sinkB .any ops n = true) (hc : Region.chainB .any ops n = true) (hn : n < ops.size) (hin : i < n) (hT : ∀ s a, T s a → ∀ j ∈ Region.ready .any ops s, n ≤ j) (f : Nat) :
    ∀ s a, HeadInv .any ops n s →
      (∀ j oj, ops[j]? = some oj → j ≠ i → s.getD j true = false → (∀ e ∈ oj.after, Region.binds .any e = true → e.on ≠ i) → oi.apart ops oj = true) →
      i ∈ Region.ready .any ops s → YieldsIn P ops C oi v a → headQ P ops C n T f (s.setIfInBounds i true) (a.put oi.dst v) → headQ P ops C n T (f + 1) s a := by
  induction f with
  | zero =>
    intro s a inv _ hr hy H
    refine ⟨List.ne_nil_of_mem hr, fun j hj => ⟨below_of_open hs hc hn inv hin hr hj, ?_⟩⟩
    by_cases e : j = i
    · subst e; exact hy.qOp hoi H
    · exact absurd (hT _ _ H j (ready_mono hj e)) (by have := below_of_open hs hc hn inv hin hr hj; omega)
  | succ f ih =>
    intro s a inv hfree hr hy H
    refine ⟨List.ne_nil_of_mem hr, fun j hj => ?_⟩
    have hjn := below_of_open hs hc hn inv hin hr hj
    refine ⟨hjn, ?_⟩
    by_cases e : j = i
    · subst e; exact hy.qOp hoi H
    obtain ⟨hju, oj, hoj, hdone⟩ := mem_ready.1 hj
    have hfj := hfree j oj hoj e hju fun d hd hb he => by
      have h1 := hdone d hd hb
      rw [he, getD_both (mem_ready.1 hr).1] at h1
      cases h1
    have step := qOp_put hoj hfj (fun cs b => hsel i oi cs b hoi) (fun cs b => hsel j oj cs b hoj) hy (H.2 j (ready_mono hj e)).2
    refine qOp_mono (fun a' h' => ih _ a' (inv.set hj hjn) (fun k ok hk hki hku hno => hfree k ok hk hki ?_ hno) (ready_mono hr (Ne.symm e)) h'.1 ?_) step
    · by_cases ejk : j = k
      · subst ejk; exact hju
      · rwa [getD_set_ne true ejk] at hku
    · rw [Array.setIfInBounds_comm _ _ e]; exact h'.2

theorem headQ_lex {n g : Nat} {R : Act → Prop} (hsel : Region.noSelect ops = true) (hs : Region.sinkB .any ops n = true) (hc : Region.chainB .any ops n = true) (hn : n < ops.size) (l : List Oper) :
    ∀ (k : Nat) (s : Array Bool) (a : Act), (∀ j, j < l.length → l[j]? = ops[k + j]?) → k + l.length = n → HeadInv .any ops n s → Region.lexHead .any ops g l.length k s = true →
      wpQuiet P ops C R l a → headQ P ops C n (fun s' a' => Region.seqB .any ops g n s' = true ∧ R a') l.length s a := by
  induction l with
  | nil =>
    intro k s a _ hk _ hB h
    obtain rfl : k = n := by simpa using hk
    exact ⟨by simpa [Region.lexHead] using hB, h⟩
  | cons o l ih =>
    intro k s a hl hk inv hB h
    have h0 : ops[k]? = some o := by simpa using (hl 0 (by simp)).symm
    simp only [List.length_cons, Region.lexHead, Bool.and_eq_true] at hB hk
    have hr : k ∈ Region.ready .any ops s := by simpa using hB.1.1
    have hq : qOp P ops C k (wpQuiet P ops C R l) a := by unfold qOp; simp only [h0]; exact h
    obtain ⟨v, hy, hK⟩ := yieldsIn_of_qOp h0 hq
    refine headQ_first h0 (Region.noSelect_spec hsel) hs hc hn (by omega) (fun s' a' h' => seqB_ready h'.1) l.length s a inv (Region.free_spec h0 hB.1.2) hr hy ?_
    refine ih (k + 1) _ _ (fun j hj => ?_) (by omega) (inv.set hr (by omega)) hB.2 hK
    have := hl (j + 1) (by simp; omega)
    simpa [Nat.add_assoc, Nat.add_comm 1 j] using this

theorem any_head {Q : Exit → Act → World → Prop} {a : Act} {w : World} {l : List Oper} (n : Nat) (hB : Region.lexTailB .any l.toArray n = true) (hC : C w)
    (h : wpQuiet P l.toArray C (fun a' => ∀ w', C w' → wpList P l.toArray Q (l.drop n) a' w') (l.take n) a) : wpAny P .any l.toArray Q l.toArray.size (Array.replicate l.toArray.size false) a w := by
  simp only [Region.lexTailB, Bool.and_eq_true, decide_eq_true_eq] at hB
  obtain ⟨⟨⟨⟨b1, b2⟩, b3⟩, b4⟩, b5⟩ := hB
  have e0 : l.toArray.size = l.length := by simp
  have e1 : (l.take n).length = n := by rw [List.length_take]; omega
  have e2 : (l.drop n).length = l.toArray.size - n := by rw [List.length_drop, e0]
  have inv : HeadInv .any l.toArray n (Array.replicate l.toArray.size false) :=
    { size := by simp
      closed := fun j oj _ hl => by rw [getD_replicate_false] at hl; cases hl
      tail := fun t _ ht => getD_in (by simpa using ht) (getD_replicate_false _ _) }
  have H := headQ_lex (P := P) (C := C) (g := l.toArray.size - n) b1 b3 b4 b2 (l.take n) 0 _ a (fun j hj => by rw [e1] at hj; simp [hj]) (by rw [e1]; omega) inv (by rw [e1]; exact b5) h
  have := any_of_headQ (Q := Q) (g := l.toArray.size - n) (fun s a' w' hw' ht => by
    have := wpAny_of_seq (P := P) (md := .any) (Q' := Q) (l.drop n) n s a' w' (fun j => by simp [List.getElem?_drop]) (by rw [e2]; exact ht.1) (ht.2 w' hw')
    rwa [e2] at this) _ _ _ w hC H
  rwa [e1, show n + (l.toArray.size - n) = l.toArray.size by omega] at this

/-- The region, over the memory of a call. -/
theorem region_head_mem {Q : Exit → Act → World → Prop} {a : Act} {w : Base} {W : World} {L : Blocks} {id : Nat} {l : List Oper} (m : Nat) (hm : P.follows .mixedOrders = true) (hB : Region.lexTailB .any l.toArray m = true) (hM : Mem w L W)
    (h : wpQuiet P l.toArray (Mem w L) (fun a' => ∀ W', Mem w L W' → wpList P l.toArray Q (l.drop m) a' W') (l.take m) a) : (Code.region id l.toArray true).wp P Q a W :=
  wp_region_any hm (any_head (C := Mem w L) m hB hM.drew h)
end Go.Proofs.YtbmaljhnldepoaaDoor

