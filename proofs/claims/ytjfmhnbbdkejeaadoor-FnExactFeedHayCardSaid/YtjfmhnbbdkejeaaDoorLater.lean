/-
  How much grass a cell has a day later: spec.l00Min, spec.l04Cell and impl's later by contracts.
-/
import Derived.Test.YtjfmhnbbdkejeaaDoorGrowOk
namespace Go.Proofs.YtjfmhnbbdkejeaaDoor
open Go Go.RowKit Go.BigFrame

theorem ret_int {a b : Int} (h : a = b) : Ending.returned (.int .i64 a) = .returned (.int .i64 b) := by rw [h]
def minB (a b : Int) : Int := if a < b then a else b
theorem minB_lt {a b : Int} (h : a < b) : minB a b = a := by simp [minB, h]
theorem minB_ge {a b : Int} (h : ¬ a < b) : minB a b = b := by simp [minB, h]
theorem l00Min_any (a b : Int) (w : World) :
    Calls Tryd.prog 69 #[.int .i64 a, .int .i64 b] w fun e w' => e = .returned (.int .i64 (minB a b)) ∧ Below w.heap.size w w' := by
  by_cases h : a < b
  · rw [minB_lt h]
    go_enter Tryd.func69, Tryd.ntmps69
    go_wp2
    go_ret
    exact ⟨rfl, Below.refl _ _⟩
  · rw [minB_ge h]
    go_enter Tryd.func69, Tryd.ntmps69
    go_wp2
    go_ret
    exact ⟨rfl, Below.refl _ _⟩

/-- How much a cell has a day later. -/
def laterN (h : Nat → Int) (n : Nat) : Int := if h 11 ≤ (n : Int) then n else minB (h 11) (n + h (n / 100))
theorem later_stay {h : Nat → Int} {n : Nat} (e : h 11 ≤ (n : Int)) : laterN h n = n := by simp [laterN, e]
theorem later_grow {h : Nat → Int} {n : Nat} (e : ¬ h 11 ≤ (n : Int)) : laterN h n = minB (h 11) (n + h (n / 100)) := by simp [laterN, e]
theorem later_in {h : Nat → Int} (e : growB h = true) {n : Nat} (hn : n ≤ 1000) : (n : Int) ≤ laterN h n ∧ laterN h n ≤ 1000 := by
  obtain ⟨h1, h2⟩ := growB_true e
  have := h1 (n / 100) (by omega)
  by_cases c : h 11 ≤ (n : Int)
  · rw [later_stay c]; omega
  · rw [later_grow c]
    by_cases d : h 11 < n + h (n / 100)
    · rw [minB_lt d]; omega
    · rw [minB_ge d]; omega

theorem quo100 (n : Nat) : Int.tdiv (n : Int) 100 = ((n / 100 : Nat) : Int) := by
  rw [Int.tdiv_eq_ediv_of_nonneg (by omega)]; omega

set_option maxRecDepth 100000 in
set_option maxHeartbeats 1000000 in
theorem l04Cell_any (h : Nat → Int) (e : growB h = true) (bp n : Nat) (hn : n ≤ 1000) (w : World) (hA : At w bp 12 (gro h)) :
    Calls Tryd.prog 60 #[.pointer (some ⟨bp, 0, none⟩), .int .i64 n] w fun e w' => e = .returned (.int .i64 (laterN h n)) ∧ Below w.heap.size w w' := by
  have hM : Mem w [(bp, 12, gro h)] w := (Mem.nil w).old hA (fun i p h => by simp at h)
  obtain ⟨h1, h2⟩ := growB_true e
  have h3 := h1 (n / 100) (by omega)
  have c0 : IntKind.i64.wrap (h 11) = h 11 := IntWalk.i64_in _ (by omega)
  have e1 := gro_lim h
  clear h1 hA
  by_cases c : h 11 ≤ (n : Int)
  · rw [later_stay c]
    go_enter Tryd.func60, Tryd.ntmps60
    go_wp2_with (first | (refine wpList_get1 rfl _ _ rfl _ _ rfl hM 0 rfl (cellTab _ rfl) (by omega) _ e1 ?_))
    go_ret
    exact ⟨rfl, hM.below⟩
  · rw [later_grow c]
    have hq := quo100 n
    have c1 : IntKind.i64.wrap (h (n / 100)) = h (n / 100) := IntWalk.i64_in _ (by omega)
    have c2 : IntKind.i64.wrap ((n : Int) + h (n / 100)) = n + h (n / 100) := IntWalk.i64_in _ (by omega)
    have c3 : IntKind.i64.wrap ((n / 100 : Nat) : Int) = ((n / 100 : Nat) : Int) := IntWalk.i64_in _ (by omega)
    generalize hk : n / 100 = k at *
    have lk : k < 11 := by omega
    have lk' : (k : Int) < 11 := by omega
    have e2 : gro h k = .int .i8 (h k) := gro_i8 h lk
    clear hk
    go_enter Tryd.func60, Tryd.ntmps60
    go_wp2_with (first | (refine wpList_get1 rfl _ _ rfl _ _ rfl hM 0 rfl (cellTab _ rfl) (by omega) _ (by first | exact e1 | exact e2) ?_) | (go_at_call 69; (with_reducible refine (l00Min_any _ _ _).mono ?_); rintro e W' ⟨rfl, hb'⟩; have hM' := hM.call hb'; clear hM hb'; have hM := hM'; clear hM'))
    go_ret
    exact ⟨rfl, hM.below⟩

set_option maxRecDepth 100000 in
set_option maxHeartbeats 1000000 in
theorem later_any (h : Nat → Int) (e : growB h = true) (n : Nat) (hn : n ≤ 1000) (w : World) :
    Calls Tryd.prog 64 #[.agg (arr 12 (gro h)), .int .i64 n] w fun e w' => e = .returned (.int .i64 (laterN h n)) ∧ Below w.heap.size w w' := by
  have hM := Mem.nil w
  obtain ⟨h1, h2⟩ := growB_true e
  have h3 := h1 (n / 100) (by omega)
  have c0 : IntKind.i64.wrap (h 11) = h 11 := IntWalk.i64_in _ (by omega)
  have e1 := gro_lim h
  clear h1
  have tk_b1 : True := trivial
  by_cases c : h 11 ≤ (n : Int)
  · rw [later_stay c]
    go_enter Tryd.func64, Tryd.ntmps64
    go_wp2_with (first | (have _t := tk_b1; refine wpList_box rfl _ _ rfl _ _ rfl hM ?_; intro b1 W' hb1 hM'; clear hM tk_b1; have hM := hM'; clear hM') | (refine wpList_get1 rfl _ _ rfl _ _ rfl hM 0 rfl (cellTab _ rfl) (by omega) _ e1 ?_))
    go_ret
    exact ⟨rfl, hM.below⟩
  · rw [later_grow c]
    have hq := quo100 n
    have c1 : IntKind.i64.wrap (h (n / 100)) = h (n / 100) := IntWalk.i64_in _ (by omega)
    have c2 : IntKind.i64.wrap ((n : Int) + h (n / 100)) = n + h (n / 100) := IntWalk.i64_in _ (by omega)
    have c3 : IntKind.i64.wrap ((n / 100 : Nat) : Int) = ((n / 100 : Nat) : Int) := IntWalk.i64_in _ (by omega)
    generalize hk : n / 100 = k at *
    have lk : k < 11 := by omega
    have lk' : (k : Int) < 11 := by omega
    have e2 : gro h k = .int .i8 (h k) := gro_i8 h lk
    clear hk
    go_enter Tryd.func64, Tryd.ntmps64
    go_wp2_with (first | (have _t := tk_b1; refine wpList_box rfl _ _ rfl _ _ rfl hM ?_; intro b1 W' hb1 hM'; clear hM tk_b1; have hM := hM'; clear hM') | (refine wpList_get1 rfl _ _ rfl _ _ rfl hM 0 rfl (cellTab _ rfl) (by omega) _ (by first | exact e1 | exact e2) ?_))
    all_goals
      go_ret
      exact ⟨ret_int (by first | exact (minB_lt (by assumption)).symm | exact (minB_ge (by omega)).symm), hM.below⟩
end Go.Proofs.YtjfmhnbbdkejeaaDoor
