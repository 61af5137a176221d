/-
  '==' on goats; spec.SameGoats and impl.SameGoats by contracts; laws.FnExactSameGoats returns true.
-/
import Derived.Test.YtfdemocmokgbgaaToGoatS
import Derived.Test.YtfdemocmokgbgaaEqual
namespace Go.Proofs.Ytfdemocmokgbgaa
open Go Go.RowKit Go.BigFrame

theorem run_equal_spot (x y x' y' : Int) (d : Nat) (W : World) :
    (Op.equalIn (d + 2) 25 (.agg (arr 2 (sp x y))) (.agg (arr 2 (sp x' y')))).run Try.prog W = .ok ((x == x') && (y == y')) W := by
  have hs := run_equalIn_struct (P := Try.prog) W (d + 1) 25 (arr 2 (sp x y)) (arr 2 (sp x' y')) (by rw [Program.fieldsOf, Try.underlying25]) (by kernel_rfl)
  rw [hs]
  have hf : (Try.prog.fieldsOf 25).toList = [
    { name := "X", type := 22, offset := 0, embedded := false, tag := "", pkgPath := "", byteOffset := 0 },
    { name := "Y", type := 22, offset := 1, embedded := false, tag := "", pkgPath := "", byteOffset := 1 }] := by
    rw [Program.fieldsOf, Try.underlying25]
  rw [hf]
  have p0 := fun c c' => run_part_cell (P := Try.prog) Try.underlying22 (n := 2) (i := 0) (f := sp c c') (by omega) W
  have p1 := fun c c' => run_part_cell (P := Try.prog) Try.underlying22 (n := 2) (i := 1) (f := sp c c') (by omega) W
  have q0 := run_equalIn_int (P := Try.prog) W d 22 .i8 .i8 x x' Try.underlying22
  have q1 := run_equalIn_int (P := Try.prog) W d 22 .i8 .i8 y y' Try.underlying22
  have e0 : ∀ c c' : Int, sp c c' 0 = .int .i8 c := fun _ _ => rfl
  have e1 : ∀ c c' : Int, sp c c' 1 = .int .i8 c' := fun _ _ => rfl
  simp only [Op.eqFields, ne_eq, Sem.run_bind, p0, p1, Result.andThen_ok, e0, e1, q0, q1, Sem.run_pure, Sem.run_ite]
  cases (x == x') <;> cases (y == y') <;> simp

theorem run_equal_goat (a b : Nat → Int) (W : World) :
    (Op.equalIn 10000 28 (.agg (arr 7 (gt a))) (.agg (arr 7 (gt b)))).run Try.prog W = .ok (eqTo 7 a b) W := by
  have hs := run_equalIn_struct (P := Try.prog) W 9999 28 (arr 7 (gt a)) (arr 7 (gt b)) (by rw [Program.fieldsOf, Try.underlying28]) (by kernel_rfl)
  rw [hs]
  have hf : (Try.prog.fieldsOf 28).toList = [
    { name := "At", type := 25, offset := 0, embedded := false, tag := "", pkgPath := "", byteOffset := 0 },
    { name := "Stake", type := 25, offset := 2, embedded := false, tag := "", pkgPath := "", byteOffset := 2 },
    { name := "Rope", type := 26, offset := 4, embedded := false, tag := "", pkgPath := "", byteOffset := 4 },
    { name := "Eats", type := 26, offset := 5, embedded := false, tag := "", pkgPath := "", byteOffset := 6 },
    { name := "Likes", type := 22, offset := 6, embedded := false, tag := "", pkgPath := "", byteOffset := 8 }] := by
    rw [Program.fieldsOf, Try.underlying28]
  rw [hf]
  have p0 := fun c => (run_part_row (P := Try.prog) (rowTab 25 2 rfl) (n := 7) (i := 0) (f := gt c) (by omega) W).trans (by rw [gt_sp (h := c) (o := 0) (by omega)])
  have p1 := fun c => (run_part_row (P := Try.prog) (rowTab 25 2 rfl) (n := 7) (i := 2) (f := gt c) (by omega) W).trans (by rw [gt_sp (h := c) (o := 2) (by omega)])
  have p2 := fun c => run_part_cell (P := Try.prog) Try.underlying26 (n := 7) (i := 4) (f := gt c) (by omega) W
  have p3 := fun c => run_part_cell (P := Try.prog) Try.underlying26 (n := 7) (i := 5) (f := gt c) (by omega) W
  have p4 := fun c => run_part_cell (P := Try.prog) Try.underlying22 (n := 7) (i := 6) (f := gt c) (by omega) W
  have q0 := run_equal_spot (a 0) (a (0 + 1)) (b 0) (b (0 + 1)) 9997 W
  have q1 := run_equal_spot (a 2) (a (2 + 1)) (b 2) (b (2 + 1)) 9997 W
  have q2 := run_equalIn_int (P := Try.prog) W 9998 26 .i16 .i16 (a 4) (b 4) Try.underlying26
  have q3 := run_equalIn_int (P := Try.prog) W 9998 26 .i16 .i16 (a 5) (b 5) Try.underlying26
  have q4 := run_equalIn_int (P := Try.prog) W 9998 22 .i8 .i8 (a 6) (b 6) Try.underlying22
  have e2 : ∀ c : Nat → Int, gt c 4 = .int .i16 (c 4) := fun _ => rfl
  have e3 : ∀ c : Nat → Int, gt c 5 = .int .i16 (c 5) := fun _ => rfl
  have e4 : ∀ c : Nat → Int, gt c 6 = .int .i8 (c 6) := fun _ => rfl
  simp only [Op.eqFields, ne_eq, Sem.run_bind, p0, p1, p2, p3, p4, Result.andThen_ok, e2, e3, e4, q0, q1, q2, q3, q4, Sem.run_pure, Sem.run_ite]
  have key : eqTo 7 a b = (((a 0 == b 0) && (a 1 == b 1)) && ((a 2 == b 2) && (a 3 == b 3)) && (a 4 == b 4) && (a 5 == b 5) && (a 6 == b 6)) := by
    rw [Bool.eq_iff_iff]
    simp only [Bool.and_eq_true, eqTo_iff, beq_iff_eq]
    constructor
    · intro h
      exact ⟨⟨⟨⟨⟨h 0 (by omega), h 1 (by omega)⟩, h 2 (by omega), h 3 (by omega)⟩, h 4 (by omega)⟩, h 5 (by omega)⟩, h 6 (by omega)⟩
    · rintro ⟨⟨⟨⟨⟨h0, h1⟩, h2, h3⟩, h4⟩, h5⟩, h6⟩ k hk
      rcases (show k = 0 ∨ k = 1 ∨ k = 2 ∨ k = 3 ∨ k = 4 ∨ k = 5 ∨ k = 6 by omega) with rfl | rfl | rfl | rfl | rfl | rfl | rfl <;> assumption
  rw [key]
  simp only [Nat.zero_add, Nat.reduceAdd]
  cases ((a 0 == b 0) && (a 1 == b 1)) <;> cases ((a 2 == b 2) && (a 3 == b 3)) <;> cases (a 4 == b 4) <;> cases (a 5 == b 5) <;> cases (a 6 == b 6) <;> simp
theorem neq_goat (a b : Nat → Int) (W : World) : (binOp .neq 28 (.agg (arr 7 (gt a))) (.agg (arr 7 (gt b)))).run Try.prog W = .ok (.bool (!eqTo 7 a b)) W := by
  rw [run_neq_struct, run_equal_goat]; rfl
/-- Are two lists the same? -/
def sameG (n n' : Nat) (hs hs' : Nat → Nat → Int) : Bool := decide (n = n') && (List.range n).all fun i => eqTo 7 (hs i) (hs' i)
theorem sameG_len {n n' : Nat} {hs hs' : Nat → Nat → Int} (h : n ≠ n') : sameG n n' hs hs' = false := by simp [sameG, h]
theorem sameG_no {n i : Nat} {hs hs' : Nat → Nat → Int} (hi : i < n) (h : eqTo 7 (hs i) (hs' i) = false) : sameG n n hs hs' = false := by
  have : ((List.range n).all fun i => eqTo 7 (hs i) (hs' i)) = false := by rw [List.all_eq_false]; exact ⟨i, by simpa using hi, by rw [h]; decide⟩
  simp [sameG, this]
theorem sameG_yes {n : Nat} {hs hs' : Nat → Nat → Int} (h : ∀ i, i < n → eqTo 7 (hs i) (hs' i) = true) : sameG n n hs hs' = true := by
  have : ((List.range n).all fun i => eqTo 7 (hs i) (hs' i)) = true := by rw [List.all_eq_true]; intro i hi; exact h i (by simpa using hi)
  simp [sameG, this]

set_option maxRecDepth 100000 in
set_option maxHeartbeats 1000000 in
theorem specSameG (b b' n n' c c' : Nat) (hs hs' : Nat → Nat → Int) (hn : n ≤ maxLen) (hn' : n' ≤ maxLen) (w : World) (hA : At w b (n * 7) (gts hs)) (hA' : At w b' (n' * 7) (gts hs')) (hne : b ≠ b') :
    Calls Try.prog 11 #[.slice (some ⟨b, 0, none⟩) n c, .slice (some ⟨b', 0, none⟩) n' c'] w fun e w' => e = .returned (.bool (sameG n n' hs hs')) ∧ Below w.heap.size w w' := by
  have hM : Mem w [(b, n * 7, gts hs), (b', n' * 7, gts hs')] w := ((Mem.nil w).old hA (fun i p h => by simp at h)).old hA' (fun i p h => by
    match i, h with
    | 0, h => simp at h; rw [← h]; exact hne
    | _ + 1, h => simp at h)
  unfold maxLen at hn hn'
  clear hA hA'
  by_cases hnn : n = n'
  · subst hnn
    go_enter Try.func11, Try.ntmps11
    go_wp2
    go_loopw [5] (fun i wr => ∃ k : Nat, k ≤ n ∧ i = .int .i64 k ∧ Hid (∀ j, j < k → eqTo 7 (hs j) (hs' j) = true) ∧ Mem w [(b, n * 7, gts hs), (b', n * 7, gts hs')] wr) (fun i _ => n - (intOf i).toNat)
    case atStart => exact ⟨0, by omega, rfl, Lib.hid (fun j hj => absurd hj (by omega)), hM⟩
    case round =>
      clear hM
      obtain ⟨k, hk, rfl, hall, hM⟩ := hrel
      by_cases hlt : k < n
      · have l2 : (k : Int) < n := by omega
        have l3 : decide ((k : Int) < n) = true := decide_eq_true l2
        have er : arr 7 (fun j => gts hs (k * 7 + j)) = arr 7 (gt (hs k)) := arr_congr fun j hj => gts_row hs k j hj
        have er' : arr 7 (fun j => gts hs' (k * 7 + j)) = arr 7 (gt (hs' k)) := arr_congr fun j hj => gts_row hs' k j hj
        have hq := neq_goat (hs k) (hs' k)
        cases he : eqTo 7 (hs k) (hs' k)
        · have He := Lib.hid he
          rw [he] at hq
          go_wp2
          ((try simp only [Act.put, List.setIfInBounds_toArray, List.set_cons_succ, List.set_cons_zero]); refine wp_region_mem (by kernel_rfl) (by kernel_rfl) hM ?_; clear hM; (repeat (first | go_big_quiet_skip | (go_big_quiet_want; first | (refine quiet_get _ _ rfl _ _ rfl 1 rfl (rowTab _ _ rfl) (by omega) ?_; (simp only [er']); (simp only [Act.put, List.setIfInBounds_toArray, List.set_cons_succ, List.set_cons_zero]); go_big_quiet_on) | (refine quiet_get _ _ rfl _ _ rfl 0 rfl (rowTab _ _ rfl) (by omega) ?_; (simp only [er]); (simp only [Act.put, List.setIfInBounds_toArray, List.set_cons_succ, List.set_cons_zero]); go_big_quiet_on) | (refine quiet_val ?_; apply Exists.intro; refine ⟨fun W => ?_, ?_⟩; (go_simp; (try simp only [l2, l3, hq, he, if_true, Bool.false_eq_true, if_false]); rfl); (simp only [Act.put, List.setIfInBounds_toArray, List.set_cons_succ, List.set_cons_zero]); go_big_quiet_on)))); (with_reducible refine wpQuiet_nil ?_); intro W' hM)
          go_wp2
          go_ret
          exact ⟨ret_bool (sameG_no hlt He.out).symm, hM.below⟩
        · have He := Lib.hid he
          rw [he] at hq
          go_wp2
          ((try simp only [Act.put, List.setIfInBounds_toArray, List.set_cons_succ, List.set_cons_zero]); refine wp_region_mem (by kernel_rfl) (by kernel_rfl) hM ?_; clear hM; (repeat (first | go_big_quiet_skip | (go_big_quiet_want; first | (refine quiet_get _ _ rfl _ _ rfl 1 rfl (rowTab _ _ rfl) (by omega) ?_; (simp only [er']); (simp only [Act.put, List.setIfInBounds_toArray, List.set_cons_succ, List.set_cons_zero]); go_big_quiet_on) | (refine quiet_get _ _ rfl _ _ rfl 0 rfl (rowTab _ _ rfl) (by omega) ?_; (simp only [er]); (simp only [Act.put, List.setIfInBounds_toArray, List.set_cons_succ, List.set_cons_zero]); go_big_quiet_on) | (refine quiet_val ?_; apply Exists.intro; refine ⟨fun W => ?_, ?_⟩; (go_simp; (try simp only [l2, l3, hq, he, if_true, Bool.false_eq_true, if_false]); rfl); (simp only [Act.put, List.setIfInBounds_toArray, List.set_cons_succ, List.set_cons_zero]); go_big_quiet_on)))); (with_reducible refine wpQuiet_nil ?_); intro W' hM)
          go_wp2
          go_roundw
          case rel => exact ⟨k + 1, by omega, by go_num, Lib.hid (fun j hj => by
            by_cases e : j = k
            · rw [e]; exact He.out
            · exact hall.out j (by omega)), hM⟩
          case measure => simp [intOf]; omega
      · obtain rfl : k = n := by omega
        go_wp2
        go_ret
        exact ⟨ret_bool (sameG_yes hall.out).symm, hM.below⟩
  · have hz : ¬ (n : Int) = n' := by omega
    have d1 : decide ((n : Int) = n') = false := decide_eq_false hz
    have Hs := Lib.hid (sameG_len (hs := hs) (hs' := hs') hnn)
    clear hnn
    go_enter Try.func11, Try.ntmps11
    go_wp2
    go_ret
    exact ⟨ret_bool Hs.out.symm, hM.below⟩

set_option maxRecDepth 100000 in
set_option maxHeartbeats 1000000 in
theorem equalG (b b' n n' c c' : Nat) (hs hs' : Nat → Nat → Int) (hn : n ≤ maxLen) (hn' : n' ≤ maxLen) (w : World) (hA : At w b (n * 7) (gts hs)) (hA' : At w b' (n' * 7) (gts hs')) (hne : b ≠ b') :
    Calls Try.prog 22 #[.slice (some ⟨b, 0, none⟩) n c, .slice (some ⟨b', 0, none⟩) n' c'] w fun e w' => e = .returned (.bool (sameG n n' hs hs')) ∧ Below w.heap.size w w' := by
  have hM : Mem w [(b, n * 7, gts hs), (b', n' * 7, gts hs')] w := ((Mem.nil w).old hA (fun i p h => by simp at h)).old hA' (fun i p h => by
    match i, h with
    | 0, h => simp at h; rw [← h]; exact hne
    | _ + 1, h => simp at h)
  unfold maxLen at hn hn'
  clear hA hA'
  by_cases hnn : n = n'
  · subst hnn
    go_enter Try.func22, Try.ntmps22
    go_wp2
    go_loopw [13] (fun i wr => ∃ k : Nat, k ≤ n ∧ i = .int .i64 k ∧ Hid (∀ j, j < k → eqTo 7 (hs j) (hs' j) = true) ∧ Mem w [(b, n * 7, gts hs), (b', n * 7, gts hs')] wr) (fun i _ => n - (intOf i).toNat)
    case atStart => exact ⟨0, by omega, rfl, Lib.hid (fun j hj => absurd hj (by omega)), hM⟩
    case round =>
      clear hM
      obtain ⟨k, hk, rfl, hall, hM⟩ := hrel
      by_cases hlt : k < n
      · have l2 : (k : Int) < n := by omega
        have l3 : decide ((k : Int) < n) = true := decide_eq_true l2
        have er : arr 7 (fun j => gts hs (k * 7 + j)) = arr 7 (gt (hs k)) := arr_congr fun j hj => gts_row hs k j hj
        have er' : arr 7 (fun j => gts hs' (k * 7 + j)) = arr 7 (gt (hs' k)) := arr_congr fun j hj => gts_row hs' k j hj
        have hq := neq_goat (hs k) (hs' k)
        cases he : eqTo 7 (hs k) (hs' k)
        · have He := Lib.hid he
          rw [he] at hq
          go_wp2
          ((try simp only [Act.put, List.setIfInBounds_toArray, List.set_cons_succ, List.set_cons_zero]); refine wp_region_mem (by kernel_rfl) (by kernel_rfl) hM ?_; clear hM; (repeat (first | go_big_quiet_skip | (go_big_quiet_want; first | (refine quiet_get _ _ rfl _ _ rfl 1 rfl (rowTab _ _ rfl) (by omega) ?_; (simp only [er']); (simp only [Act.put, List.setIfInBounds_toArray, List.set_cons_succ, List.set_cons_zero]); go_big_quiet_on) | (refine quiet_get _ _ rfl _ _ rfl 0 rfl (rowTab _ _ rfl) (by omega) ?_; (simp only [er]); (simp only [Act.put, List.setIfInBounds_toArray, List.set_cons_succ, List.set_cons_zero]); go_big_quiet_on) | (refine quiet_val ?_; apply Exists.intro; refine ⟨fun W => ?_, ?_⟩; (go_simp; (try simp only [l2, l3, hq, he, if_true, Bool.false_eq_true, if_false]); rfl); (simp only [Act.put, List.setIfInBounds_toArray, List.set_cons_succ, List.set_cons_zero]); go_big_quiet_on)))); (with_reducible refine wpQuiet_nil ?_); intro W' hM)
          go_wp2
          go_ret
          exact ⟨ret_bool (sameG_no hlt He.out).symm, hM.below⟩
        · have He := Lib.hid he
          rw [he] at hq
          go_wp2
          ((try simp only [Act.put, List.setIfInBounds_toArray, List.set_cons_succ, List.set_cons_zero]); refine wp_region_mem (by kernel_rfl) (by kernel_rfl) hM ?_; clear hM; (repeat (first | go_big_quiet_skip | (go_big_quiet_want; first | (refine quiet_get _ _ rfl _ _ rfl 1 rfl (rowTab _ _ rfl) (by omega) ?_; (simp only [er']); (simp only [Act.put, List.setIfInBounds_toArray, List.set_cons_succ, List.set_cons_zero]); go_big_quiet_on) | (refine quiet_get _ _ rfl _ _ rfl 0 rfl (rowTab _ _ rfl) (by omega) ?_; (simp only [er]); (simp only [Act.put, List.setIfInBounds_toArray, List.set_cons_succ, List.set_cons_zero]); go_big_quiet_on) | (refine quiet_val ?_; apply Exists.intro; refine ⟨fun W => ?_, ?_⟩; (go_simp; (try simp only [l2, l3, hq, he, if_true, Bool.false_eq_true, if_false]); rfl); (simp only [Act.put, List.setIfInBounds_toArray, List.set_cons_succ, List.set_cons_zero]); go_big_quiet_on)))); (with_reducible refine wpQuiet_nil ?_); intro W' hM)
          go_wp2
          go_roundw
          case rel => exact ⟨k + 1, by omega, by go_num, Lib.hid (fun j hj => by
            by_cases e : j = k
            · rw [e]; exact He.out
            · exact hall.out j (by omega)), hM⟩
          case measure => simp [intOf]; omega
      · obtain rfl : k = n := by omega
        go_wp2
        go_ret
        exact ⟨ret_bool (sameG_yes hall.out).symm, hM.below⟩
  · have hz : ¬ (n : Int) = n' := by omega
    have d1 : decide ((n : Int) = n') = false := decide_eq_false hz
    have Hs := Lib.hid (sameG_len (hs := hs) (hs' := hs') hnn)
    clear hnn
    go_enter Try.func22, Try.ntmps22
    go_wp2
    go_ret
    exact ⟨ret_bool Hs.out.symm, hM.below⟩

set_option maxHeartbeats 400000 in
theorem implSameG (b b' n n' c c' : Nat) (hs hs' : Nat → Nat → Int) (hn : n ≤ maxLen) (hn' : n' ≤ maxLen) (w : World) (hA : At w b (n * 7) (gts hs)) (hA' : At w b' (n' * 7) (gts hs')) (hne : b ≠ b') :
    Calls Try.prog 13 #[.slice (some ⟨b, 0, none⟩) n c, .slice (some ⟨b', 0, none⟩) n' c'] w fun e w' => e = .returned (.bool (sameG n n' hs hs')) ∧ Below w.heap.size w w' := by
  have hM := Mem.nil w
  have HA := Lib.hid hA
  have HA' := Lib.hid hA'
  have Hn := Lib.hid hn
  have Hn' := Lib.hid hn'
  clear hA hA' hn hn'
  go_enter Try.func13, Try.ntmps13
  go_wp2_with (go_at_call 22; refine (equalG b b' n n' c c' hs hs' Hn.out Hn'.out _ HA.out HA'.out hne).mono ?_; rintro e W' ⟨rfl, hb'⟩; have hM' := hM.call hb'; clear hM hb'; have hM := hM'; clear hM')
  go_ret
  exact ⟨ret_bool (a := sameG n n' hs hs') rfl, hM.below⟩


set_option maxRecDepth 100000 in
set_option maxHeartbeats 4000000 in
theorem lawSameGoats_any (v v' : Value) (n n' : Nat) (hs hs' : Nat → Nat → Int) (hn : n ≤ maxLen) (hn' : n' ≤ maxLen) (w : World) (h : GoatArg w v n hs) (h' : GoatArg w v' n' hs') :
    Calls Try.prog 4 #[v, v'] w fun e w' => e = .returned (.bool true) ∧ Below w.heap.size w w' := by
  have hM := Mem.nil w
  have HG := Lib.hid h
  have HG' := Lib.hid h'
  have Hn := Lib.hid hn
  have Hn' := Lib.hid hn'
  clear h h' hn hn'
  by_cases h1 : 1048576 < n
  · go_enter Try.func4, Try.ntmps4
    go_wp2_with (first | (go_at_call 10; (with_reducible refine (szGoatS_no v n hs 1048576 Hn.out (by omega) (by omega) (by omega) _ (HG.out.below hM.below)).mono ?_); rintro e W' ⟨rfl, hb'⟩; have hM' := hM.call hb'; clear hM hb'; have hM := hM'; clear hM'))
    go_ret
    exact ⟨rfl, hM.below⟩
  have d0 : decide ((1048576 : Int) - n < 0) = false := decide_eq_false (by omega)
  have d0' : decide ((1048576 : Int) < n) = false := decide_eq_false (by omega)
  by_cases h2 : 1048576 - n < n'
  · go_enter Try.func4, Try.ntmps4
    go_wp2_with (first | (go_at_call 10; (with_reducible refine (szGoatS_yes v n hs 1048576 (by omega) (by omega) _ (HG.out.below hM.below)).mono ?_); rintro e W' ⟨rfl, hb'⟩; have hM' := hM.call hb'; clear hM hb'; have hM := hM'; clear hM') | (go_at_call 10; (with_reducible refine (szGoatS_no v' n' hs' (1048576 - (n : Int)) Hn'.out (by omega) (by omega) (by omega) _ (HG'.out.below hM.below)).mono ?_); rintro e W' ⟨rfl, hb'⟩; have hM' := hM.call hb'; clear hM hb'; have hM := hM'; clear hM'))
    go_ret
    exact ⟨rfl, hM.below⟩
  have d1 : decide ((1048576 : Int) - n - n' < 0) = false := decide_eq_false (by omega)
  have d1' : decide ((1048576 : Int) - n < n') = false := decide_eq_false (by omega)
  have tk_b1 : True := trivial; have tk_b2 : True := trivial
  go_enter Try.func4, Try.ntmps4
  go_wp2_with (first | (go_at_call 10; (with_reducible refine (szGoatS_yes v n hs 1048576 (by omega) (by omega) _ (HG.out.below hM.below)).mono ?_); rintro e W' ⟨rfl, hb'⟩; have hM' := hM.call hb'; clear hM hb'; have hM := hM'; clear hM') | (go_at_call 10; (with_reducible refine (szGoatS_yes v' n' hs' (1048576 - (n : Int)) (by omega) (by omega) _ (HG'.out.below hM.below)).mono ?_); rintro e W' ⟨rfl, hb'⟩; have hM' := hM.call hb'; clear hM hb'; have hM := hM'; clear hM') | (have _t := tk_b1; go_at_call 12; (with_reducible refine (toGoatS_any v n hs (by omega) _ (HG.out.below hM.below)).mono ?_); rintro e W' ⟨b1, rfl, hb1, hA', hcb⟩; have hM' := hM.fresh' hcb hA' hb1; simp only [List.cons_append, List.nil_append] at hM'; clear hM hcb hA' tk_b1; have hM := hM'; clear hM') | (have _t := tk_b2; go_at_call 12; (with_reducible refine (toGoatS_any v' n' hs' (by omega) _ (HG'.out.below hM.below)).mono ?_); rintro e W' ⟨b2, rfl, hb2, hA', hcb⟩; have hM' := hM.fresh' hcb hA' hb2; simp only [List.cons_append, List.nil_append] at hM'; clear hM hcb hA' tk_b2; have hM := hM'; clear hM'))
  cases hz : sameG n n' hs hs'
  all_goals
    have Hz := Lib.hid hz
    clear hz
    have tk_b3 : True := trivial; have tk_b4 : True := trivial; have tk_b5 : True := trivial; have tk_b6 : True := trivial
    refine Calls.mono (specSameG b1 b2 n n' n n' hs hs' Hn.out Hn'.out _ (hM.ats 0 _ _ _ rfl) (hM.ats 1 _ _ _ rfl) (hM.apart 0 1 _ _ rfl rfl (by omega))) ?_
    rintro e W' ⟨rfl, hb'⟩
    rw [Hz.out]
    have hM' := hM.call hb'
    clear hM hb'
    have hM := hM'
    clear hM'
    go_wp2_with (first | (have _t := tk_b3; go_at_call 12; (with_reducible refine (toGoatS_any v n hs (by omega) _ (HG.out.below hM.below)).mono ?_); rintro e W' ⟨b3, rfl, hb3, hA', hcb⟩; have hM' := hM.fresh' hcb hA' hb3; simp only [List.cons_append, List.nil_append] at hM'; clear hM hcb hA' tk_b3; have hM := hM'; clear hM') | (have _t := tk_b4; go_at_call 12; (with_reducible refine (toGoatS_any v' n' hs' (by omega) _ (HG'.out.below hM.below)).mono ?_); rintro e W' ⟨b4, rfl, hb4, hA', hcb⟩; have hM' := hM.fresh' hcb hA' hb4; simp only [List.cons_append, List.nil_append] at hM'; clear hM hcb hA' tk_b4; have hM := hM'; clear hM'))
    refine Calls.mono (implSameG b3 b4 n n' n n' hs hs' Hn.out Hn'.out _ (hM.ats 2 _ _ _ rfl) (hM.ats 3 _ _ _ rfl) (hM.apart 2 3 _ _ rfl rfl (by omega))) ?_
    rintro e W' ⟨rfl, hb'⟩
    rw [Hz.out]
    have hM' := hM.call hb'
    clear hM hb'
    have hM := hM'
    clear hM'
    go_wp2_with (first | (have _t := tk_b5; go_at_call 12; (with_reducible refine (toGoatS_any v n hs (by omega) _ (HG.out.below hM.below)).mono ?_); rintro e W' ⟨b5, rfl, hb5, hA', hcb⟩; have hM' := hM.fresh' hcb hA' hb5; simp only [List.cons_append, List.nil_append] at hM'; clear hM hcb hA' tk_b5; have hM := hM'; clear hM'))
    refine Calls.mono (eqGoatS_same b3 b5 n n n hs Hn.out _ (hM.ats 2 _ _ _ rfl) (hM.ats 4 _ _ _ rfl) (hM.apart 2 4 _ _ rfl rfl (by omega))) ?_
    rintro e W' ⟨rfl, hb'⟩
    have hM' := hM.call hb'
    clear hM hb'
    have hM := hM'
    clear hM'
    go_wp2_with (first | (have _t := tk_b6; go_at_call 12; (with_reducible refine (toGoatS_any v' n' hs' (by omega) _ (HG'.out.below hM.below)).mono ?_); rintro e W' ⟨b6, rfl, hb6, hA', hcb⟩; have hM' := hM.fresh' hcb hA' hb6; simp only [List.cons_append, List.nil_append] at hM'; clear hM hcb hA' tk_b6; have hM := hM'; clear hM'))
    refine Calls.mono (eqGoatS_same b4 b6 n' n' n' hs' Hn'.out _ (hM.ats 3 _ _ _ rfl) (hM.ats 5 _ _ _ rfl) (hM.apart 3 5 _ _ rfl rfl (by omega))) ?_
    rintro e W' ⟨rfl, hb'⟩
    have hM' := hM.call hb'
    clear hM hb'
    have hM := hM'
    clear hM'
    go_wp2
    go_ret
    exact ⟨rfl, hM.below⟩
end Go.Proofs.Ytfdemocmokgbgaa
