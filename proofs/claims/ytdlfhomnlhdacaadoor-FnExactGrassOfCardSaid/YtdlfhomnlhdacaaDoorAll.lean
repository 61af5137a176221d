/-
  spec.l01All by contract; what the cells of a list are.
-/
import Derived.Test.YtdlfhomnlhdacaaDoorSpotS
import Derived.Test.YtdlfhomnlhdacaaDoorAsked
namespace Go.Proofs.YtdlfhomnlhdacaaDoor
open Go Go.RowKit Go.BigFrame

/-- The code of a pasture and of some cells. -/
def allC (g : Nat → Int) (s : Nat → Int × Int) (n : Nat) : Int := if okB g then (if allB g s n then 0 else 2) else 1
theorem allC_bad {g : Nat → Int} {s : Nat → Int × Int} {n : Nat} (h : okB g = false) : allC g s n = 1 := by simp [allC, h]
theorem allC_out {g : Nat → Int} {s : Nat → Int × Int} {n : Nat} (h : okB g = true) (h2 : allB g s n = false) : allC g s n = 2 := by simp [allC, h, h2]
theorem allC_ok {g : Nat → Int} {s : Nat → Int × Int} {n : Nat} (h : okB g = true) (h2 : allB g s n = true) : allC g s n = 0 := by simp [allC, h, h2]
theorem allC_cases (g : Nat → Int) (s : Nat → Int × Int) (n : Nat) : (okB g = false ∧ allC g s n = 1) ∨ (okB g = true ∧ allB g s n = false ∧ allC g s n = 2) ∨ (okB g = true ∧ allB g s n = true ∧ allC g s n = 0) := by
  cases h1 : okB g <;> cases h2 : allB g s n <;> simp [allC, h1, h2]

/-- A cell of a good list. -/
theorem all_cell {g : Nat → Int} {s : Nat → Int × Int} {n : Nat} (ho : okB g = true) (ha : allB g s n = true) : ∀ k, k < n → ∃ u v : Nat, u < 10 ∧ v < 10 ∧ s k = ((u : Int), (v : Int)) := fun k hk => by
  unfold allB at ha
  rw [List.all_eq_true] at ha
  have hb := isB_bounds ho (ha k (by simpa using hk))
  exact ⟨(s k).1.toNat, (s k).2.toNat, by omega, by omega, by ext <;> simp <;> omega⟩
/-- The first cells of a list. -/
def cellsL (s : Nat → Int × Int) (n : Nat) : List (Nat × Nat) := (List.range n).map fun k => ((s k).1.toNat, (s k).2.toNat)
theorem cellsL_zero (s : Nat → Int × Int) : cellsL s 0 = [] := rfl
theorem cellsL_succ {s : Nat → Int × Int} {k u v : Nat} (h : s k = ((u : Int), (v : Int))) : cellsL s (k + 1) = cellsL s k ++ [(u, v)] := by simp [cellsL, List.range_succ, h]
theorem cellsL_length (s : Nat → Int × Int) (n : Nat) : (cellsL s n).length = n := by simp [cellsL]

set_option maxRecDepth 100000 in
set_option maxHeartbeats 1000000 in
theorem l01All_any (g : Nat → Int) (hg : Fits g) (bp b n c : Nat) (s : Nat → Int × Int) (hF : ∀ i, i < n → FitsS (s i)) (hn : n ≤ maxLen) (w : World) (hA : At w bp 122 (pas g)) (hB : At w b (n * 2) (sps s)) (hne : bp ≠ b) :
    Calls Tryd.prog 76 #[.pointer (some ⟨bp, 0, none⟩), .slice (some ⟨b, 0, none⟩) n c] w fun e w' => e = .returned (.int .i64 (allC g s n)) ∧ Below w.heap.size w w' := by
  have hM : Mem w [(bp, 122, pas g), (b, n * 2, sps s)] w := ((Mem.nil w).old hA (fun i p h => by simp at h)).old hB (fun i p h => by
    match i, h with
    | 0, h => simp at h; rw [← h]; exact hne
    | _ + 1, h => simp at h)
  have HF := Lib.hid hF
  unfold maxLen at hn
  clear hA hB hF
  cases ho : okB g
  · have Ho := Lib.hid ho
    clear ho
    go_enter Tryd.func76, Tryd.ntmps76
    go_wp2_with (first | (go_at_call 71; (with_reducible refine (l01Ok_any g hg _ _ (hM.ats 0 _ _ _ rfl)).mono ?_); rintro e W' ⟨rfl, hb'⟩; rw [Ho.out]; have hM' := hM.call hb'; clear hM hb'; have hM := hM'; clear hM'))
    go_ret
    exact ⟨ret_i (allC_bad Ho.out).symm, hM.below⟩
  have Ho := Lib.hid ho
  clear ho
  go_enter Tryd.func76, Tryd.ntmps76
  go_wp2_with (first | (go_at_call 71; (with_reducible refine (l01Ok_any g hg _ _ (hM.ats 0 _ _ _ rfl)).mono ?_); rintro e W' ⟨rfl, hb'⟩; rw [Ho.out]; have hM' := hM.call hb'; clear hM hb'; have hM := hM'; clear hM'))
  go_loopw [5] (fun i wr => ∃ k : Nat, k ≤ n ∧ i = .int .i64 k ∧ Hid (∀ j, j < k → isB g (s j).1 (s j).2 = true) ∧ Mem w [(bp, 122, pas g), (b, n * 2, sps s)] wr) (fun i _ => n - (intOf i).toNat)
  case atStart => exact ⟨0, by omega, rfl, Lib.hid (fun j hj => absurd hj (by omega)), hM⟩
  case round =>
    clear hM
    obtain ⟨k, hk, rfl, hall, hM⟩ := hrel
    by_cases hlt : k < n
    · have er : arr 2 (fun j => sps s (k * 2 + j)) = arr 2 (sp (s k).1 (s k).2) := arr_congr fun j hj => sps_row s k j hj
      have Hf : Hid ((-128 ≤ (s k).1 ∧ (s k).1 ≤ 127) ∧ (-128 ≤ (s k).2 ∧ (s k).2 ≤ 127)) := Lib.hid (HF.out k hlt)
      cases hB : isB g (s k).1 (s k).2
      · have HB := Lib.hid hB
        clear hB
        go_wp2_with (first | (go_at_call 66; (with_reducible refine (l01Is_any g hg _ (s k).1 (s k).2 Hf.out.1 Hf.out.2 _ (hM.ats 0 _ _ _ rfl)).mono ?_); rintro e W' ⟨rfl, hb'⟩; rw [HB.out]; have hM' := hM.call hb'; clear hM hb'; have hM := hM'; clear hM') | ((refine wpList_get rfl _ _ rfl _ _ rfl hM 1 rfl (rowTab _ _ rfl) (by omega) ?_); (simp only [er])))
        go_ret
        exact ⟨ret_i (allC_out Ho.out (allB_no hlt HB.out)).symm, hM.below⟩
      · have HB := Lib.hid hB
        clear hB
        go_wp2_with (first | (go_at_call 66; (with_reducible refine (l01Is_any g hg _ (s k).1 (s k).2 Hf.out.1 Hf.out.2 _ (hM.ats 0 _ _ _ rfl)).mono ?_); rintro e W' ⟨rfl, hb'⟩; rw [HB.out]; have hM' := hM.call hb'; clear hM hb'; have hM := hM'; clear hM') | ((refine wpList_get rfl _ _ rfl _ _ rfl hM 1 rfl (rowTab _ _ rfl) (by omega) ?_); (simp only [er])))
        go_roundw
        case rel => exact ⟨k + 1, by omega, by go_num, Lib.hid (fun j hj => by
          by_cases e : j = k
          · rw [e]; exact HB.out
          · exact hall.out j (by omega)), hM⟩
        case measure => simp [intOf]; omega
    · obtain rfl : k = n := by omega
      go_wp2
      go_ret
      exact ⟨ret_i (allC_ok Ho.out (allB_yes hall.out)).symm, hM.below⟩
end Go.Proofs.YtdlfhomnlhdacaaDoor
