/-
  spec.l00In, l01Grass, l01Is, by contracts.
-/
import Derived.Test.YtcdpdcjdjcbhcaaDoorTypes
import Derived.WalkKit
import Derived.OwnWalk
import Derived.BigQuiet
namespace Go.Proofs.YtcdpdcjdjcbhcaaDoor
open Go Go.RowKit Go.BigFrame

/-- Is n from lo to hi? -/
def inB (lo hi n : Int) : Bool := decide (lo ≤ n ∧ n ≤ hi)
theorem inB_yes {lo hi n : Int} (h : lo ≤ n ∧ n ≤ hi) : inB lo hi n = true := decide_eq_true h
theorem inB_no {lo hi n : Int} (h : ¬ (lo ≤ n ∧ n ≤ hi)) : inB lo hi n = false := decide_eq_false h
theorem inB_true {lo hi n : Int} (h : inB lo hi n = true) : lo ≤ n ∧ n ≤ hi := of_decide_eq_true h
theorem ret_bool {a b : Bool} (h : a = b) : Ending.returned (.bool a) = .returned (.bool b) := by rw [h]

theorem l00In_any (n lo hi : Int) (w : World) :
    Calls Tryd.prog 93 #[.int .i64 n, .int .i64 lo, .int .i64 hi] w fun e w' => e = .returned (.bool (inB lo hi n)) ∧ Below w.heap.size w w' := by
  by_cases h1 : lo ≤ n
  · go_enter Tryd.func93, Tryd.ntmps93
    go_wp2
    go_ret
    exact ⟨ret_bool (by simp [inB, h1]), Below.refl _ _⟩
  · go_enter Tryd.func93, Tryd.ntmps93
    go_wp2
    go_ret
    exact ⟨ret_bool (inB_no (fun h => by omega)).symm, Below.refl _ _⟩
theorem l01Grass_any (n : Int) (w : World) :
    Calls Tryd.prog 98 #[.int .i64 n] w fun e w' => e = .returned (.bool (inB 0 1000 n)) ∧ Below w.heap.size w w' := by
  have hM := Mem.nil w
  go_enter Tryd.func98, Tryd.ntmps98
  go_wp2_with (go_at_call 93; refine (l00In_any _ _ _ _).mono ?_; rintro e W' ⟨rfl, hb'⟩; have hM' := hM.call hb'; clear hM hb'; have hM := hM'; clear hM')
  go_ret
  exact ⟨rfl, hM.below⟩

/-- Has a pasture such a cell? -/
def isB (g : Nat → Int) (x y : Int) : Bool := inB 0 (g 0 - 1) x && inB 0 (g 1 - 1) y

set_option maxHeartbeats 400000 in
theorem l01Is_any (g : Nat → Int) (hg : Fits g) (bp : Nat) (x y : Int) (hx : -128 ≤ x ∧ x ≤ 127) (hy : -128 ≤ y ∧ y ≤ 127) (w : World) (hA : At w bp 122 (pas g)) :
    Calls Tryd.prog 101 #[.pointer (some ⟨bp, 0, none⟩), .agg (arr 2 (sp x y))] w fun e w' => e = .returned (.bool (isB g x y)) ∧ Below w.heap.size w w' := by
  have hM : Mem w [(bp, 122, pas g)] w := (Mem.nil w).old hA (fun i p h => by simp at h)
  obtain ⟨hw, hh, -, -⟩ := hg
  have e0 : pas g 0 = .int .i8 (g 0) := rfl
  have e1 : pas g 1 = .int .i8 (g 1) := rfl
  have e2 : sp x y 0 = .int .i8 x := rfl
  have e3 : sp x y 1 = .int .i8 y := rfl
  have c0 : IntKind.i64.wrap (g 0) = g 0 := IntWalk.i64_in _ (by omega)
  have c1 : IntKind.i64.wrap (g 1) = g 1 := IntWalk.i64_in _ (by omega)
  have c2 : IntKind.i64.wrap (g 0 - 1) = g 0 - 1 := IntWalk.i64_in _ (by omega)
  have c3 : IntKind.i64.wrap (g 1 - 1) = g 1 - 1 := IntWalk.i64_in _ (by omega)
  have c4 : IntKind.i64.wrap x = x := IntWalk.i64_in _ (by omega)
  have c5 : IntKind.i64.wrap y = y := IntWalk.i64_in _ (by omega)
  have tk_b1 : True := trivial
  go_enter Tryd.func101, Tryd.ntmps101
  go_wp2_with (first | (have _t := tk_b1; refine wpList_box rfl _ _ rfl _ _ rfl hM ?_; intro b1 W' hb1 hM'; clear hM tk_b1; have hM := hM'; clear hM'))
  cases h1 : inB 0 (g 0 - 1) x
  all_goals
    ((try simp only [Act.put, List.setIfInBounds_toArray, List.set_cons_succ, List.set_cons_zero]); refine wp_region_mem (by kernel_rfl) (by kernel_rfl) hM ?_; clear hM; (repeat (first | go_big_quiet_skip | (go_big_quiet_want; first | (refine quiet_get1 _ _ rfl _ _ rfl 1 rfl (cellTab _ rfl) (by omega) _ rfl ?_; (simp only [Act.put, List.setIfInBounds_toArray, List.set_cons_succ, List.set_cons_zero]); go_big_quiet_on) | (refine quiet_get1 _ _ rfl _ _ rfl 0 rfl (cellTab _ rfl) (by omega) _ rfl ?_; (simp only [Act.put, List.setIfInBounds_toArray, List.set_cons_succ, List.set_cons_zero]); go_big_quiet_on) | (refine quiet_call ?_; apply Exists.intro; apply Exists.intro; apply Exists.intro; refine ⟨fun W => ?_, fun W hM => ?_, ?_⟩; (go_simp; exact ⟨rfl, rfl⟩); (exact l00In_any _ _ _ W); (simp only [h1]); (simp only [Act.put, List.setIfInBounds_toArray, List.set_cons_succ, List.set_cons_zero]); go_big_quiet_on) | (refine quiet_call ?_; apply Exists.intro; apply Exists.intro; apply Exists.intro; refine ⟨fun W => ?_, fun W hM => ?_, ?_⟩; (go_simp; exact ⟨rfl, rfl⟩); (exact l00In_any _ _ _ W); (simp only [Act.put, List.setIfInBounds_toArray, List.set_cons_succ, List.set_cons_zero]); go_big_quiet_on) | (refine quiet_val ?_; apply Exists.intro; refine ⟨fun W => ?_, ?_⟩; (go_simp; rfl); (simp only [Act.put, List.setIfInBounds_toArray, List.set_cons_succ, List.set_cons_zero]); go_big_quiet_on)))); (with_reducible refine wpQuiet_nil ?_); intro W' hM)
    go_wp2
    go_ret
    exact ⟨ret_bool (by simp [isB, h1]), hM.below⟩
end Go.Proofs.YtcdpdcjdjcbhcaaDoor
