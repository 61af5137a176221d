/-
  spec.CodeName and impl.CodeName by contract: both hand back the name that the table holds, or the empty string; laws.FnExactCodeName returns true.
-/
import Derived.Test.YtagjemccegnbeaaDoorSpec1
import Derived.Lib.Hide
namespace Go.Proofs.YtagjemccegnbeaaDoor
open Go Go.RowKit Go.BigFrame

/-- The names, their bytes. -/
def nameL (k : Nat) : List UInt8 :=
  match k with
  | 0 => [111, 107]
  | 1 => [105, 110, 118, 97, 108, 105, 100]
  | 2 => [114, 97, 110, 103, 101]
  | 3 => [108, 105, 109, 105, 116]
  | 4 => [115, 116, 97, 116, 101]
  | 5 => [115, 121, 110, 116, 97, 120]
  | 6 => [110, 111, 116, 102, 111, 117, 110, 100]
  | 7 => [98, 117, 100, 103, 101, 116]
  | 8 => [112, 114, 111, 111, 102]
  | _ => []
/-- The code's name. -/
def nameV (c : Int) : Value := if 0 ≤ c ∧ c ≤ 8 then .string ⟨(nameL c.toNat).toArray⟩ else .string ⟨#[]⟩
theorem ret_val {a b : Value} (h : a = b) : Ending.returned a = .returned b := by rw [h]
theorem nameV_out {c : Int} (h : ¬ (0 ≤ c ∧ c ≤ 8)) : nameV c = .string ⟨#[]⟩ := by simp only [nameV, if_neg h]

set_option maxHeartbeats 1000000 in
theorem specName_any (c : Int) (w : World) :
    Calls Tryd.prog 14 #[.int .i64 c] w fun e w' => e = .returned (nameV c) ∧ Below w.heap.size w w' := by
  by_cases h : 0 ≤ c ∧ c ≤ 8
  · have hc : c = 0 ∨ c = 1 ∨ c = 2 ∨ c = 3 ∨ c = 4 ∨ c = 5 ∨ c = 6 ∨ c = 7 ∨ c = 8 := by omega
    clear h
    rcases hc with rfl | rfl | rfl | rfl | rfl | rfl | rfl | rfl | rfl
    all_goals
      go_enter Tryd.func14, Tryd.ntmps14
      go_wp2
      go_ret
      exact ⟨rfl, by repeat (first | exact Below.refl _ _ | refine Below.alloc ?_ (by simp) _)⟩
  · have hn := nameV_out h
    by_cases h0 : 0 ≤ c
    · have h8 : ¬ c ≤ 8 := by omega
      go_enter Tryd.func14, Tryd.ntmps14
      go_wp2
      go_ret
      exact ⟨by first | exact ret_val hn.symm | simp, by repeat (first | exact Below.refl _ _ | refine Below.alloc ?_ (by simp) _)⟩
    · go_enter Tryd.func14, Tryd.ntmps14
      go_wp2
      go_ret
      exact ⟨by first | exact ret_val hn.symm | simp, by repeat (first | exact Below.refl _ _ | refine Below.alloc ?_ (by simp) _)⟩

set_option maxHeartbeats 1000000 in
theorem implName_any (c : Int) (w : World) (hT : ∀ k, k < 9 → w.cell? ⟨0, k, none⟩ = some (.string ⟨(nameL k).toArray⟩)) :
    Calls Tryd.prog 15 #[.int .i64 c] w fun e w' => e = .returned (nameV c) ∧ Below w.heap.size w w' := by
  by_cases h : 0 ≤ c ∧ c ≤ 8
  · have hc : c = 0 ∨ c = 1 ∨ c = 2 ∨ c = 3 ∨ c = 4 ∨ c = 5 ∨ c = 6 ∨ c = 7 ∨ c = 8 := by omega
    clear h
    have t0 := hT 0 (by omega)
    have t1 := hT 1 (by omega)
    have t2 := hT 2 (by omega)
    have t3 := hT 3 (by omega)
    have t4 := hT 4 (by omega)
    have t5 := hT 5 (by omega)
    have t6 := hT 6 (by omega)
    have t7 := hT 7 (by omega)
    have t8 := hT 8 (by omega)
    clear hT
    rcases hc with rfl | rfl | rfl | rfl | rfl | rfl | rfl | rfl | rfl
    all_goals
      go_enter Tryd.func15, Tryd.ntmps15
      go_wp2
      go_ret
      exact ⟨rfl, Below.refl _ _⟩
  · have hn := nameV_out h
    clear hT
    by_cases h0 : c < 0
    · go_enter Tryd.func15, Tryd.ntmps15
      go_wp2
      go_ret
      exact ⟨by first | exact ret_val hn.symm | simp, Below.refl _ _⟩
    · have h9 : 9 ≤ c := by omega
      go_enter Tryd.func15, Tryd.ntmps15
      go_wp2
      go_ret
      exact ⟨by first | exact ret_val hn.symm | simp, Below.refl _ _⟩

theorem nameV_str (c : Int) : ∃ s, nameV c = .string s := by unfold nameV; split <;> exact ⟨_, rfl⟩

set_option maxHeartbeats 1000000 in
theorem lawName_any (c : Int) (w : World) (hT : ∀ k, k < 9 → w.cell? ⟨0, k, none⟩ = some (.string ⟨(nameL k).toArray⟩)) (hg : 0 < w.heap.size) :
    Calls Tryd.prog 3 #[.int .i64 c] w fun e w' => e = .returned (.bool true) ∧ Below w.heap.size w w' := by
  have hM := Mem.nil w
  obtain ⟨s, hs⟩ := nameV_str c
  have HT := Lib.hid hT
  have Hs := Lib.hid hs
  clear hT hs
  go_enter Tryd.func3, Tryd.ntmps3
  go_wp2_with fail
  refine (specName_any c _).mono ?_
  rintro e W1 ⟨rfl, hb1⟩
  rw [Hs.out]
  go_wp2_with fail
  refine (implName_any c _ (fun k hk => (hb1.cell (p := ⟨0, k, none⟩) hg).trans (HT.out k hk))).mono ?_
  rintro e W2 ⟨rfl, hb2⟩
  rw [Hs.out]
  go_wp2
  go_ret
  exact ⟨rfl, hb1.trans (hb2.mono hb1.size)⟩
end Go.Proofs.YtagjemccegnbeaaDoor
