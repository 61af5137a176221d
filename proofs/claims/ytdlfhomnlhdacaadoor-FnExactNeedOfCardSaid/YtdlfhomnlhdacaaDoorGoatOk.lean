/-
  spec.l02Ok, spec.ValidGoats, impl.ValidGoats by contracts.
-/
import Derived.Test.YtdlfhomnlhdacaaDoorGoatTold
import Derived.Test.YtdlfhomnlhdacaaDoorValidB
namespace Go.Proofs.YtdlfhomnlhdacaaDoor
open Go Go.RowKit Go.BigFrame

/-- Are goats valid for a pasture? -/
def goatsB (g : Nat → Int) (n : Nat) (hs : Nat → Nat → Int) : Bool := okB g && ((List.range n).all fun i => goatB g (hs i)) && decide (n ≤ 20)
theorem goatsB_ok {g : Nat → Int} {n : Nat} {hs : Nat → Nat → Int} (h : okB g = false) : goatsB g n hs = false := by simp [goatsB, h]
theorem goatsB_no {g : Nat → Int} {n i : Nat} {hs : Nat → Nat → Int} (hi : i < n) (h : goatB g (hs i) = false) : goatsB g n hs = false := by
  have : ((List.range n).all fun i => goatB g (hs i)) = false := by rw [List.all_eq_false]; exact ⟨i, by simpa using hi, by rw [h]; decide⟩
  simp [goatsB, this]
theorem goatsB_yes {g : Nat → Int} {n : Nat} {hs : Nat → Nat → Int} (ho : okB g = true) (h : ∀ i, i < n → goatB g (hs i) = true) : goatsB g n hs = decide (n ≤ 20) := by
  have : ((List.range n).all fun i => goatB g (hs i)) = true := by rw [List.all_eq_true]; intro i hi; exact h i (by simpa using hi)
  simp [goatsB, this, ho]
theorem goatsB_many {g : Nat → Int} {n : Nat} {hs : Nat → Nat → Int} (h : 20 < n) : goatsB g n hs = false := by
  have : decide (n ≤ 20) = false := decide_eq_false (by omega)
  simp [goatsB, this]

set_option maxRecDepth 100000 in
set_option maxHeartbeats 2000000 in
theorem l02Ok_any (g : Nat → Int) (hg : Fits g) (bp b n c : Nat) (hs : Nat → Nat → Int) (hF : ∀ i, i < n → FitsG (hs i)) (hn : n ≤ 1048576) (w : World) (hA : At w bp 122 (pas g)) (hB : At w b (n * 7) (gts hs)) (hne : bp ≠ b) :
    Calls Tryd.prog 82 #[.pointer (some ⟨bp, 0, none⟩), .slice (some ⟨b, 0, none⟩) n c] w fun e w' => e = .returned (.bool (goatsB g n hs)) ∧ Below w.heap.size w w' := by
  have hM : Mem w [(bp, 122, pas g), (b, n * 7, gts hs)] w := ((Mem.nil w).old hA (fun i p h => by simp at h)).old hB (fun i p h => by
    match i, h with
    | 0, h => simp at h; rw [← h]; exact hne
    | _ + 1, h => simp at h)
  have HF := Lib.hid hF
  clear hF hA hB
  cases ho : okB g
  · have Hp := Lib.hid (goatsB_ok (n := n) (hs := hs) ho)
    have Ho := Lib.hid ho
    clear ho
    go_enter Tryd.func82, Tryd.ntmps82
    go_wp2_with (first | (go_at_call 71; refine (l01Ok_any g hg _ _ (hM.ats 0 _ _ _ rfl)).mono ?_; rintro e W' ⟨rfl, hb'⟩; rw [Ho.out]; have hM' := hM.call hb'; clear hM hb'; have hM := hM'; clear hM'))
    go_ret
    exact ⟨ret_bool Hp.out.symm, hM.below⟩
  have Ho := Lib.hid ho
  clear ho
  go_enter Tryd.func82, Tryd.ntmps82
  go_wp2_with (first | (go_at_call 71; refine (l01Ok_any g hg _ _ (hM.ats 0 _ _ _ rfl)).mono ?_; rintro e W' ⟨rfl, hb'⟩; rw [Ho.out]; have hM' := hM.call hb'; clear hM hb'; have hM := hM'; clear hM'))
  go_loopw [5] (fun i wr => ∃ k : Nat, k ≤ n ∧ i = .int .i64 k ∧ Hid (∀ j, j < k → goatB g (hs j) = true) ∧ Mem w [(bp, 122, pas g), (b, n * 7, gts hs)] wr) (fun i _ => n - (intOf i).toNat)
  case atStart => exact ⟨0, by omega, rfl, Lib.hid (fun j hj => absurd hj (by omega)), hM⟩
  case round =>
    clear hM
    obtain ⟨k, hk, rfl, hall, hM⟩ := hrel
    by_cases hlt : k < n
    · have l2 : (k : Int) < n := by omega
      have fk := HF.out k hlt
      cases he : goatB g (hs k)
      · have He := Lib.hid he
        clear he
        go_wp2_with (first | (go_at_call 99; refine (l02Goat_any g hg bp (hs k) fk b (n * 7) (k * 7) (gts hs) (gts_row hs k) (by omega) _ (hM.ats 0 _ _ _ rfl) (hM.ats 1 _ _ _ rfl) hne).mono ?_; rintro e W' ⟨rfl, hb'⟩; rw [He.out]; have hM' := hM.call hb'; clear hM hb'; have hM := hM'; clear hM'))
        go_ret
        exact ⟨ret_bool (goatsB_no hlt He.out).symm, hM.below⟩
      · have He := Lib.hid he
        clear he
        go_wp2_with (first | (go_at_call 99; refine (l02Goat_any g hg bp (hs k) fk b (n * 7) (k * 7) (gts hs) (gts_row hs k) (by omega) _ (hM.ats 0 _ _ _ rfl) (hM.ats 1 _ _ _ rfl) hne).mono ?_; rintro e W' ⟨rfl, hb'⟩; rw [He.out]; have hM' := hM.call hb'; clear hM hb'; have hM := hM'; clear hM'))
        go_roundw
        case rel => exact ⟨k + 1, by omega, by go_num, Lib.hid (fun j hj => by
          by_cases e : j = k
          · rw [e]; exact He.out
          · exact hall.out j (by omega)), hM⟩
        case measure => simp [intOf]; omega
    · obtain rfl : k = n := by omega
      have Hp := Lib.hid (goatsB_yes Ho.out hall.out)
      by_cases h20 : k ≤ 20
      · have hz : (k : Int) ≤ 20 := by omega
        have Hd : Hid (goatsB g k hs = true) := Lib.hid (by rw [Hp.out]; exact decide_eq_true h20)
        go_wp2
        go_ret
        exact ⟨ret_bool Hd.out.symm, hM.below⟩
      · have hz : ¬ (k : Int) ≤ 20 := by omega
        have Hd : Hid (goatsB g k hs = false) := Lib.hid (by rw [Hp.out]; exact decide_eq_false h20)
        go_wp2
        go_ret
        exact ⟨ret_bool Hd.out.symm, hM.below⟩
end Go.Proofs.YtdlfhomnlhdacaaDoor
