/-
  []int16: laws.szInt16S, toInt16S, eqInt16S and slices.Equal by contracts.
-/
import Derived.Test.YthonhjbkjgeofaaListC
import Derived.Test.YthonhjbkjgeofaaSpec1
namespace Go.Proofs.Ythonhjbkjgeofaa
open Go Go.RowKit Go.BigFrame Go.ChangeShapes Go.WideShapes Go.Deep

def vInt16S (ys : Nat → Int) : Nat → Value := fun k => .int .i16 (ys k)
theorem cellInt16S : CellT Try.prog 35 := ⟨⟨_, Try.underlying35, rfl⟩, by kernel_rfl⟩
theorem infoInt16S : (Try.prog.info? 35).map (fun i => (i.size, i.zero, i.bytes)) = some (1, some (.int .i16 0), 2) := by kernel_rfl
def fitsInt16S (y : Int) : Prop := -32768 ≤ y ∧ y ≤ 32767
section
variable {H : Type} {enc : TypeId × Value → H} {w : World} {base : Nat} {spare : Nat → Bool} {held : Bool}
theorem openInt16S {v : Value} {b0 fuel : Nat} {x : DataW H × List MemPlace} (hok : Cell.okWide Try.prog w .any b0 23 v) (h : DataW.trod enc Try.prog w base spare held fuel 23 [v] = some x) :
    ∃ (n : Nat) (ys : Nat → Int), n ≤ maxLen ∧ (∀ i, i < n → fitsInt16S (ys i)) ∧ Arg1 w v n (vInt16S ys) :=
  open_list1 Try.underlying23 (by kernel_rfl) (fun y => .int .i16 (y)) fitsInt16S 0 (fun fuel v x h => (trod_int1 Try.underlying35 fuel v x h).imp fun n h => ⟨h.1, has_i16 h.2⟩) hok h
end

theorem szInt16S_any (v : Value) (n : Nat) (ys : Nat → Int) (left : Int) (hn : n ≤ maxLen) (h0 : 0 ≤ left) (hl2 : left ≤ 1048576) (w : World) (h : Arg1 w v n (vInt16S ys)) :
    Calls Try.prog 10 #[v, .int .i64 left] w (Left n left w) := by
  unfold maxLen at hn
  rcases h with ⟨rfl, rfl⟩ | ⟨b, o, c, rfl, h⟩
  · have c1 : IntKind.i64.wrap left = left := IntWalk.i64_in _ (by omega)
    have d1 : decide (left < 0) = false := decide_eq_false (by omega)
    go_enter Try.func10, Try.ntmps10
    go_wp2
    go_ret
    exact ⟨⟨left, rfl, .inr ⟨h0, by omega, by omega⟩⟩, Below.refl _ _⟩
  clear h
  by_cases hl : left < n
  · have c1 : IntKind.i64.wrap (left - n) = left - n := IntWalk.i64_in _ (by omega)
    have d1 : decide (left - n < 0) = true := decide_eq_true (by omega)
    go_enter Try.func10, Try.ntmps10
    go_wp2
    go_ret
    exact ⟨⟨-1, rfl, .inl rfl⟩, Below.refl _ _⟩
  · have c1 : IntKind.i64.wrap (left - n) = left - n := IntWalk.i64_in _ (by omega)
    have d1 : decide (left - n < 0) = false := decide_eq_false (by omega)
    go_enter Try.func10, Try.ntmps10
    go_wp2
    go_ret
    exact ⟨⟨left - n, rfl, .inr ⟨by omega, by omega, by omega⟩⟩, Below.refl _ _⟩


set_option maxRecDepth 100000 in
set_option maxHeartbeats 1000000 in
theorem toInt16S_any (v : Value) (n : Nat) (ys : Nat → Int) (hn : n ≤ 1048576) (w : World) (h : Arg1 w v n (vInt16S ys)) : Calls Try.prog 13 #[v] w fun e w' => ∃ b, e = .returned (.slice (some ⟨b, 0, none⟩) n n) ∧ w.heap.size ≤ b ∧ At w' b n (vInt16S ys) ∧ Below w.heap.size w w' := by
  have hM := Mem.nil w
  rcases h with ⟨rfl, rfl⟩ | ⟨b, o, c, rfl, hL⟩
  · have tk_b1 : True := trivial
    go_enter Try.func13, Try.ntmps13
    go_wp2_with (first | (have _t := tk_b1; refine wpList_make1 rfl _ _ _ _ rfl 0 rfl rfl (.int .i16 0) 2 rfl Try.underlying23 infoInt16S (by omega) (by omega) hM ?_; intro b1 W' hb1 hM'; clear hM tk_b1; have hM := hM'; clear hM'))
    refine wp_loop_rounds 1 ?_
    rw [rounds_succ]
    go_wp2
    go_ret
    exact ⟨b1, rfl, hb1, (hM.ats 0 _ _ _ rfl).congr (fun k hk => by omega), hM.below⟩
  · have HL := Lib.hid hL
    clear hL
    have tk_b1 : True := trivial
    go_enter Try.func13, Try.ntmps13
    go_wp2_with (first | (have _t := tk_b1; refine wpList_make1 rfl _ _ _ _ rfl n rfl rfl (.int .i16 0) 2 rfl Try.underlying23 infoInt16S (by omega) hn hM ?_; intro b1 W' hb1 hM'; clear hM tk_b1; have hM := hM'; clear hM'))
    go_loopw [4] (fun i wr => ∃ k : Nat, k ≤ n ∧ i = .int .i64 k ∧ ∃ g, Hid (∀ j, j < k → g j = vInt16S ys j) ∧ Mem w [(b1, n, g)] wr) (fun i _ => n - (intOf i).toNat)
    case atStart => exact ⟨0, by omega, rfl, _, Lib.hid (fun j hj => absurd hj (by omega)), hM⟩
    case round =>
      clear hM
      obtain ⟨k, hk, rfl, g, hg, hM⟩ := hrel
      by_cases hlt : k < n
      · go_wp2_with (first | (refine wpList_getL1 rfl _ _ rfl _ _ rfl _ _ (HL.out.below hM.below) cellInt16S k rfl (by omega) (.int .i16 (ys k)) rfl ?_) | (refine wpList_set1 rfl _ _ _ rfl _ _ rfl (.int .i16 (ys k)) rfl rfl hM 0 rfl (by assumption) cellInt16S (by omega) ?_; intro W' hM'; clear hM; have hM := hM'; clear hM'; simp only [List.set] at hM))
        go_roundw
        case rel => exact ⟨k + 1, by omega, by go_num, _, Lib.hid (fun j hj => by
          simp only [upd, Nat.zero_add]
          by_cases e : j = k
          · rw [if_pos (by omega), e]; rfl
          · rw [if_neg (by omega)]; exact hg.out j (by omega)), hM⟩
        case measure => simp [intOf]; omega
      · obtain rfl : k = n := by omega
        go_wp2
        go_ret
        exact ⟨b1, rfl, hb1, (hM.ats 0 _ _ _ rfl).congr hg.out, hM.below⟩

/-! ### equal -/
def eqvInt16S (a b : Int) : Bool := a == b
def sameInt16S (n n' : Nat) (ys ys' : Nat → Int) : Bool := decide (n = n') && (List.range n).all fun i => eqvInt16S (ys i) (ys' i)
theorem sameInt16S_len {n n' : Nat} {ys ys' : Nat → Int} (h : n ≠ n') : sameInt16S n n' ys ys' = false := by simp [sameInt16S, h]
theorem sameInt16S_no {n i : Nat} {ys ys' : Nat → Int} (hi : i < n) (h : eqvInt16S (ys i) (ys' i) = false) : sameInt16S n n ys ys' = false := by
  have : ((List.range n).all fun i => eqvInt16S (ys i) (ys' i)) = false := by rw [List.all_eq_false]; exact ⟨i, by simpa using hi, by rw [h]; decide⟩
  simp [sameInt16S, this]
theorem sameInt16S_yes {n : Nat} {ys ys' : Nat → Int} (h : ∀ i, i < n → eqvInt16S (ys i) (ys' i) = true) : sameInt16S n n ys ys' = true := by
  have : ((List.range n).all fun i => eqvInt16S (ys i) (ys' i)) = true := by rw [List.all_eq_true]; intro i hi; exact h i (by simpa using hi)
  simp [sameInt16S, this]
theorem eqvInt16S_self (a : Int) : eqvInt16S a a = true := by simp [eqvInt16S]
theorem sameInt16S_self (n : Nat) (ys : Nat → Int) : sameInt16S n n ys ys = true := sameInt16S_yes fun i _ => eqvInt16S_self (ys i)
set_option maxRecDepth 100000 in
set_option maxHeartbeats 1000000 in
/-- laws.eqInt16S -/
theorem eqInt16S_any (b b' n n' c c' : Nat) (ys ys' : Nat → Int) (hn : n ≤ maxLen) (hn' : n' ≤ maxLen) (w : World) (hA : At w b n (vInt16S ys)) (hA' : At w b' n' (vInt16S ys')) (hne : b ≠ b') :
    Calls Try.prog 19 #[.slice (some ⟨b, 0, none⟩) n c, .slice (some ⟨b', 0, none⟩) n' c'] w fun e w' => e = .returned (.bool (sameInt16S n n' ys ys')) ∧ Below w.heap.size w w' := by
  have hM : Mem w [(b, n, vInt16S ys), (b', n', vInt16S ys')] w := ((Mem.nil w).old hA (fun i p h => by simp at h)).old hA' (fun i p h => by
    match i, h with
    | 0, h => simp at h; rw [← h]; exact hne
    | _ + 1, h => simp at h)
  unfold maxLen at hn hn'
  clear hA hA'
  by_cases hnn : n = n'
  · subst hnn
    go_enter Try.func19, Try.ntmps19
    go_wp2
    go_loopw [5] (fun i wr => ∃ k : Nat, k ≤ n ∧ i = .int .i64 k ∧ Hid (∀ j, j < k → eqvInt16S (ys j) (ys' j) = true) ∧ Mem w [(b, n, vInt16S ys), (b', n, vInt16S ys')] wr) (fun i _ => n - (intOf i).toNat)
    case atStart => exact ⟨0, by omega, rfl, Lib.hid (fun j hj => absurd hj (by omega)), hM⟩
    case round =>
      clear hM
      obtain ⟨k, hk, rfl, hall, hM⟩ := hrel
      by_cases hlt : k < n
      · have l2 : (k : Int) < n := by omega
        have l3 : decide ((k : Int) < n) = true := decide_eq_true l2
        have c1 : vInt16S ys k = .int .i16 (ys k) := rfl
        have c2 : vInt16S ys' k = .int .i16 (ys' k) := rfl
        cases he : eqvInt16S (ys k) (ys' k)
        · have He := Lib.hid he
          unfold eqvInt16S at he
          have hb : (ys k != ys' k) = true := by rw [bne, he]; rfl
          go_wp2
          ((try simp only [Act.put, List.setIfInBounds_toArray, List.set_cons_succ, List.set_cons_zero]); refine wp_region_mem (by kernel_rfl) (by kernel_rfl) hM ?_; clear hM; (repeat (first | go_big_quiet_skip | (go_big_quiet_want; first | (refine quiet_get1 _ _ rfl _ _ rfl 1 rfl cellInt16S (by omega) _ c2 ?_; (simp only [Act.put, List.setIfInBounds_toArray, List.set_cons_succ, List.set_cons_zero]); go_big_quiet_on) | (refine quiet_get1 _ _ rfl _ _ rfl 0 rfl cellInt16S (by omega) _ c1 ?_; (simp only [Act.put, List.setIfInBounds_toArray, List.set_cons_succ, List.set_cons_zero]); go_big_quiet_on) | (refine quiet_val ?_; apply Exists.intro; refine ⟨fun W => ?_, ?_⟩; (go_simp; (try simp only [l2, l3, hb, if_true, Bool.false_eq_true, if_false]); rfl); (simp only [Act.put, List.setIfInBounds_toArray, List.set_cons_succ, List.set_cons_zero]); go_big_quiet_on)))); (with_reducible refine wpQuiet_nil ?_); intro W' hM)
          go_wp2
          go_ret
          exact ⟨ret_bool (sameInt16S_no hlt He.out).symm, hM.below⟩
        · have He := Lib.hid he
          unfold eqvInt16S at he
          have hb : (ys k != ys' k) = false := by rw [bne, he]; rfl
          go_wp2
          ((try simp only [Act.put, List.setIfInBounds_toArray, List.set_cons_succ, List.set_cons_zero]); refine wp_region_mem (by kernel_rfl) (by kernel_rfl) hM ?_; clear hM; (repeat (first | go_big_quiet_skip | (go_big_quiet_want; first | (refine quiet_get1 _ _ rfl _ _ rfl 1 rfl cellInt16S (by omega) _ c2 ?_; (simp only [Act.put, List.setIfInBounds_toArray, List.set_cons_succ, List.set_cons_zero]); go_big_quiet_on) | (refine quiet_get1 _ _ rfl _ _ rfl 0 rfl cellInt16S (by omega) _ c1 ?_; (simp only [Act.put, List.setIfInBounds_toArray, List.set_cons_succ, List.set_cons_zero]); go_big_quiet_on) | (refine quiet_val ?_; apply Exists.intro; refine ⟨fun W => ?_, ?_⟩; (go_simp; (try simp only [l2, l3, hb, if_true, Bool.false_eq_true, if_false]); rfl); (simp only [Act.put, List.setIfInBounds_toArray, List.set_cons_succ, List.set_cons_zero]); go_big_quiet_on)))); (with_reducible refine wpQuiet_nil ?_); intro W' hM)
          go_wp2
          go_roundw
          case rel => exact ⟨k + 1, by omega, by go_num, Lib.hid (fun j hj => by
            by_cases e : j = k
            · rw [e]; exact He.out
            · exact hall.out j (by omega)), hM⟩
          case measure => simp [intOf]; omega
      · obtain rfl : k = n := by omega
        go_wp2
        go_ret
        exact ⟨ret_bool (sameInt16S_yes hall.out).symm, hM.below⟩
  · have hz : ¬ (n : Int) = n' := by omega
    have d1 : decide ((n : Int) = n') = false := decide_eq_false hz
    have Hs := Lib.hid (sameInt16S_len (ys := ys) (ys' := ys') hnn)
    clear hnn
    go_enter Try.func19, Try.ntmps19
    go_wp2
    go_ret
    exact ⟨ret_bool Hs.out.symm, hM.below⟩

set_option maxRecDepth 100000 in
set_option maxHeartbeats 1000000 in
/-- slices.Equal -/
theorem equalInt16S (b b' n n' c c' : Nat) (ys ys' : Nat → Int) (hn : n ≤ maxLen) (hn' : n' ≤ maxLen) (w : World) (hA : At w b n (vInt16S ys)) (hA' : At w b' n' (vInt16S ys')) (hne : b ≠ b') :
    Calls Try.prog 16 #[.slice (some ⟨b, 0, none⟩) n c, .slice (some ⟨b', 0, none⟩) n' c'] w fun e w' => e = .returned (.bool (sameInt16S n n' ys ys')) ∧ Below w.heap.size w w' := by
  have hM : Mem w [(b, n, vInt16S ys), (b', n', vInt16S ys')] w := ((Mem.nil w).old hA (fun i p h => by simp at h)).old hA' (fun i p h => by
    match i, h with
    | 0, h => simp at h; rw [← h]; exact hne
    | _ + 1, h => simp at h)
  unfold maxLen at hn hn'
  clear hA hA'
  by_cases hnn : n = n'
  · subst hnn
    go_enter Try.func16, Try.ntmps16
    go_wp2
    go_loopw [13] (fun i wr => ∃ k : Nat, k ≤ n ∧ i = .int .i64 k ∧ Hid (∀ j, j < k → eqvInt16S (ys j) (ys' j) = true) ∧ Mem w [(b, n, vInt16S ys), (b', n, vInt16S ys')] wr) (fun i _ => n - (intOf i).toNat)
    case atStart => exact ⟨0, by omega, rfl, Lib.hid (fun j hj => absurd hj (by omega)), hM⟩
    case round =>
      clear hM
      obtain ⟨k, hk, rfl, hall, hM⟩ := hrel
      by_cases hlt : k < n
      · have l2 : (k : Int) < n := by omega
        have l3 : decide ((k : Int) < n) = true := decide_eq_true l2
        have c1 : vInt16S ys k = .int .i16 (ys k) := rfl
        have c2 : vInt16S ys' k = .int .i16 (ys' k) := rfl
        cases he : eqvInt16S (ys k) (ys' k)
        · have He := Lib.hid he
          unfold eqvInt16S at he
          have hb : (ys k != ys' k) = true := by rw [bne, he]; rfl
          go_wp2
          ((try simp only [Act.put, List.setIfInBounds_toArray, List.set_cons_succ, List.set_cons_zero]); refine wp_region_mem (by kernel_rfl) (by kernel_rfl) hM ?_; clear hM; (repeat (first | go_big_quiet_skip | (go_big_quiet_want; first | (refine quiet_get1 _ _ rfl _ _ rfl 1 rfl cellInt16S (by omega) _ c2 ?_; (simp only [Act.put, List.setIfInBounds_toArray, List.set_cons_succ, List.set_cons_zero]); go_big_quiet_on) | (refine quiet_get1 _ _ rfl _ _ rfl 0 rfl cellInt16S (by omega) _ c1 ?_; (simp only [Act.put, List.setIfInBounds_toArray, List.set_cons_succ, List.set_cons_zero]); go_big_quiet_on) | (refine quiet_val ?_; apply Exists.intro; refine ⟨fun W => ?_, ?_⟩; (go_simp; (try simp only [l2, l3, hb, if_true, Bool.false_eq_true, if_false]); rfl); (simp only [Act.put, List.setIfInBounds_toArray, List.set_cons_succ, List.set_cons_zero]); go_big_quiet_on)))); (with_reducible refine wpQuiet_nil ?_); intro W' hM)
          go_wp2
          go_ret
          exact ⟨ret_bool (sameInt16S_no hlt He.out).symm, hM.below⟩
        · have He := Lib.hid he
          unfold eqvInt16S at he
          have hb : (ys k != ys' k) = false := by rw [bne, he]; rfl
          go_wp2
          ((try simp only [Act.put, List.setIfInBounds_toArray, List.set_cons_succ, List.set_cons_zero]); refine wp_region_mem (by kernel_rfl) (by kernel_rfl) hM ?_; clear hM; (repeat (first | go_big_quiet_skip | (go_big_quiet_want; first | (refine quiet_get1 _ _ rfl _ _ rfl 1 rfl cellInt16S (by omega) _ c2 ?_; (simp only [Act.put, List.setIfInBounds_toArray, List.set_cons_succ, List.set_cons_zero]); go_big_quiet_on) | (refine quiet_get1 _ _ rfl _ _ rfl 0 rfl cellInt16S (by omega) _ c1 ?_; (simp only [Act.put, List.setIfInBounds_toArray, List.set_cons_succ, List.set_cons_zero]); go_big_quiet_on) | (refine quiet_val ?_; apply Exists.intro; refine ⟨fun W => ?_, ?_⟩; (go_simp; (try simp only [l2, l3, hb, if_true, Bool.false_eq_true, if_false]); rfl); (simp only [Act.put, List.setIfInBounds_toArray, List.set_cons_succ, List.set_cons_zero]); go_big_quiet_on)))); (with_reducible refine wpQuiet_nil ?_); intro W' hM)
          go_wp2
          go_roundw
          case rel => exact ⟨k + 1, by omega, by go_num, Lib.hid (fun j hj => by
            by_cases e : j = k
            · rw [e]; exact He.out
            · exact hall.out j (by omega)), hM⟩
          case measure => simp [intOf]; omega
      · obtain rfl : k = n := by omega
        go_wp2
        go_ret
        exact ⟨ret_bool (sameInt16S_yes hall.out).symm, hM.below⟩
  · have hz : ¬ (n : Int) = n' := by omega
    have d1 : decide ((n : Int) = n') = false := decide_eq_false hz
    have Hs := Lib.hid (sameInt16S_len (ys := ys) (ys' := ys') hnn)
    clear hnn
    go_enter Try.func16, Try.ntmps16
    go_wp2
    go_ret
    exact ⟨ret_bool Hs.out.symm, hM.below⟩

theorem eqInt16S_same (b b' n c c' : Nat) (ys : Nat → Int) (hn : n ≤ maxLen) (w : World) (hA : At w b n (vInt16S ys)) (hA' : At w b' n (vInt16S ys)) (hne : b ≠ b') :
    Calls Try.prog 19 #[.slice (some ⟨b, 0, none⟩) n c, .slice (some ⟨b', 0, none⟩) n c'] w fun e w' => e = .returned (.bool true) ∧ Below w.heap.size w w' := by
  have := eqInt16S_any b b' n n c c' ys ys hn hn w hA hA' hne
  rwa [sameInt16S_self] at this
end Go.Proofs.Ythonhjbkjgeofaa
