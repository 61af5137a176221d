/-
  []int64: laws.szInt64S, toInt64S, eqInt64S and slices.Equal by contracts.
-/
import Derived.Test.YtbbododeglkghaaDoorListC
import Derived.Test.YtbbododeglkghaaDoorSpec1
namespace Go.Proofs.YtbbododeglkghaaDoor
open Go Go.RowKit Go.BigFrame Go.ChangeShapes Go.WideShapes Go.Deep

def vInt64S (ys : Nat → Int) : Nat → Value := fun k => .int .i64 (ys k)
theorem cellInt64S : CellT Tryd.prog 2 := ⟨⟨_, Tryd.underlying2, rfl⟩, by kernel_rfl⟩
theorem infoInt64S : (Tryd.prog.info? 2).map (fun i => (i.size, i.zero, i.bytes)) = some (1, some (.int .i64 0), 8) := by kernel_rfl
def fitsInt64S (y : Int) : Prop := -9223372036854775808 ≤ y ∧ y ≤ 9223372036854775807
section
variable {H : Type} {enc : TypeId × Value → H} {w : World} {base : Nat} {spare : Nat → Bool} {held : Bool}
set_option maxRecDepth 100000 in
theorem openInt64S {v : Value} {b0 fuel : Nat} {x : DataW H × List MemPlace} (hok : Cell.okWide Tryd.prog w .any b0 31 v) (h : DataW.trod enc Tryd.prog w base spare held fuel 31 [v] = some x) :
    ∃ (n : Nat) (ys : Nat → Int), n ≤ maxLen ∧ (∀ i, i < n → fitsInt64S (ys i)) ∧ Arg1 w v n (vInt64S ys) :=
  open_list1 Tryd.underlying31 (by kernel_rfl) (fun y => .int .i64 (y)) fitsInt64S 0 (fun fuel v x h => (trod_int1 Tryd.underlying2 fuel v x h).imp fun n h => ⟨h.1, by unfold fitsInt64S; exact has_i64 h.2⟩) hok h
set_option maxRecDepth 100000 in
/-- A list out of its type and its reading. -/
theorem open_int64s {b0 : Nat} {v : Value} {d : DataW H} {p : List MemPlace} (hval : Value.okWide Tryd.prog w .any b0 31 v) (h : DataW.Trod enc Tryd.prog w base spare held 31 v d p) :
    ∃ (n : Nat) (ys : Nat → Int), n ≤ maxLen ∧ (∀ i, i < n → fitsInt64S (ys i)) ∧ Arg1 w v n (vInt64S ys) := by
  obtain ⟨fuel, h⟩ := h
  obtain ⟨sa, sl, sc, rfl⟩ := okWide_slice Tryd.underlying31 hval
  have hok : Cell.okWide Tryd.prog w .any b0 31 (.slice sa sl sc) := by
    unfold Value.okWide at hval
    rw [Tryd.underlying31] at hval
    exact hval
  exact openInt64S hok h
end

set_option maxRecDepth 100000 in
set_option maxHeartbeats 1000000 in
theorem toInt64S_any (v : Value) (n : Nat) (ys : Nat → Int) (hn : n ≤ 1048576) (w : World) (h : Arg1 w v n (vInt64S ys)) : Calls Tryd.prog 21 #[v] w fun e w' => ∃ b, e = .returned (.slice (some ⟨b, 0, none⟩) n n) ∧ w.heap.size ≤ b ∧ At w' b n (vInt64S ys) ∧ Below w.heap.size w w' := by
  have hM := Mem.nil w
  rcases h with ⟨rfl, rfl⟩ | ⟨b, o, c, rfl, hL⟩
  · have tk_b1 : True := trivial
    go_enter Tryd.func21, Tryd.ntmps21
    go_wp2_with (first | (have _t := tk_b1; refine wpList_make1 rfl _ _ _ _ rfl 0 rfl rfl (.int .i64 0) 8 rfl Tryd.underlying31 infoInt64S (by omega) (by omega) hM ?_; intro b1 W' hb1 hM'; clear hM tk_b1; have hM := hM'; clear hM'))
    refine wp_loop_rounds 1 ?_
    rw [rounds_succ]
    go_wp2
    go_ret
    exact ⟨b1, rfl, hb1, (hM.ats 0 _ _ _ rfl).congr (fun k hk => by omega), hM.below⟩
  · have HL := Lib.hid hL
    clear hL
    have tk_b1 : True := trivial
    go_enter Tryd.func21, Tryd.ntmps21
    go_wp2_with (first | (have _t := tk_b1; refine wpList_make1 rfl _ _ _ _ rfl n rfl rfl (.int .i64 0) 8 rfl Tryd.underlying31 infoInt64S (by omega) hn hM ?_; intro b1 W' hb1 hM'; clear hM tk_b1; have hM := hM'; clear hM'))
    go_loopw [4] (fun i wr => ∃ k : Nat, k ≤ n ∧ i = .int .i64 k ∧ ∃ g, Hid (∀ j, j < k → g j = vInt64S ys j) ∧ Mem w [(b1, n, g)] wr) (fun i _ => n - (intOf i).toNat)
    case atStart => exact ⟨0, by omega, rfl, _, Lib.hid (fun j hj => absurd hj (by omega)), hM⟩
    case round =>
      clear hM
      obtain ⟨k, hk, rfl, g, hg, hM⟩ := hrel
      by_cases hlt : k < n
      · go_wp2_with (first | (refine wpList_getL1 rfl _ _ rfl _ _ rfl _ _ (HL.out.below hM.below) cellInt64S k rfl (by omega) (.int .i64 (ys k)) rfl ?_) | (refine wpList_set1 rfl _ _ _ rfl _ _ rfl (.int .i64 (ys k)) rfl rfl hM 0 rfl (by assumption) cellInt64S (by omega) ?_; intro W' hM'; clear hM; have hM := hM'; clear hM'; simp only [List.set] at hM))
        go_roundw
        case rel => exact ⟨k + 1, by omega, by go_num, _, Lib.hid (fun j hj => by
          simp only [upd, Nat.zero_add]
          by_cases e : j = k
          · rw [if_pos (by omega), e]; rfl
          · rw [if_neg (by omega)]; exact hg.out j (by omega)), hM⟩
        case measure => simp [intOf]; omega
      · obtain rfl : k = n := by omega
        go_wp2
        go_ret
        exact ⟨b1, rfl, hb1, (hM.ats 0 _ _ _ rfl).congr hg.out, hM.below⟩

/-! ### equal -/
def eqvInt64S (a b : Int) : Bool := a == b
def sameInt64S (n n' : Nat) (ys ys' : Nat → Int) : Bool := decide (n = n') && (List.range n).all fun i => eqvInt64S (ys i) (ys' i)
theorem sameInt64S_len {n n' : Nat} {ys ys' : Nat → Int} (h : n ≠ n') : sameInt64S n n' ys ys' = false := by simp [sameInt64S, h]
theorem sameInt64S_no {n i : Nat} {ys ys' : Nat → Int} (hi : i < n) (h : eqvInt64S (ys i) (ys' i) = false) : sameInt64S n n ys ys' = false := by
  have : ((List.range n).all fun i => eqvInt64S (ys i) (ys' i)) = false := by rw [List.all_eq_false]; exact ⟨i, by simpa using hi, by rw [h]; decide⟩
  simp [sameInt64S, this]
theorem sameInt64S_yes {n : Nat} {ys ys' : Nat → Int} (h : ∀ i, i < n → eqvInt64S (ys i) (ys' i) = true) : sameInt64S n n ys ys' = true := by
  have : ((List.range n).all fun i => eqvInt64S (ys i) (ys' i)) = true := by rw [List.all_eq_true]; intro i hi; exact h i (by simpa using hi)
  simp [sameInt64S, this]
theorem eqvInt64S_self (a : Int) : eqvInt64S a a = true := by simp [eqvInt64S]
theorem sameInt64S_self (n : Nat) (ys : Nat → Int) : sameInt64S n n ys ys = true := sameInt64S_yes fun i _ => eqvInt64S_self (ys i)
set_option maxRecDepth 100000 in
set_option maxHeartbeats 1000000 in
/-- laws.eqInt64S -/
theorem eqInt64S_any (b b' n n' c c' : Nat) (ys ys' : Nat → Int) (hn : n ≤ maxLen) (hn' : n' ≤ maxLen) (w : World) (hA : At w b n (vInt64S ys)) (hA' : At w b' n' (vInt64S ys')) (hne : b ≠ b') :
    Calls Tryd.prog 23 #[.slice (some ⟨b, 0, none⟩) n c, .slice (some ⟨b', 0, none⟩) n' c'] w fun e w' => e = .returned (.bool (sameInt64S n n' ys ys')) ∧ Below w.heap.size w w' := by
  have hM : Mem w [(b, n, vInt64S ys), (b', n', vInt64S ys')] w := ((Mem.nil w).old hA (fun i p h => by simp at h)).old hA' (fun i p h => by
    match i, h with
    | 0, h => simp at h; rw [← h]; exact hne
    | _ + 1, h => simp at h)
  unfold maxLen at hn hn'
  clear hA hA'
  by_cases hnn : n = n'
  · subst hnn
    go_enter Tryd.func23, Tryd.ntmps23
    go_wp2
    go_loopw [5] (fun i wr => ∃ k : Nat, k ≤ n ∧ i = .int .i64 k ∧ Hid (∀ j, j < k → eqvInt64S (ys j) (ys' j) = true) ∧ Mem w [(b, n, vInt64S ys), (b', n, vInt64S ys')] wr) (fun i _ => n - (intOf i).toNat)
    case atStart => exact ⟨0, by omega, rfl, Lib.hid (fun j hj => absurd hj (by omega)), hM⟩
    case round =>
      clear hM
      obtain ⟨k, hk, rfl, hall, hM⟩ := hrel
      by_cases hlt : k < n
      · have l2 : (k : Int) < n := by omega
        have l3 : decide ((k : Int) < n) = true := decide_eq_true l2
        have c1 : vInt64S ys k = .int .i64 (ys k) := rfl
        have c2 : vInt64S ys' k = .int .i64 (ys' k) := rfl
        cases he : eqvInt64S (ys k) (ys' k)
        · have He := Lib.hid he
          unfold eqvInt64S at he
          have hb : (ys k != ys' k) = true := by rw [bne, he]; rfl
          go_wp2
          ((try simp only [Act.put, List.setIfInBounds_toArray, List.set_cons_succ, List.set_cons_zero]); refine wp_region_mem (by kernel_rfl) (by kernel_rfl) hM ?_; clear hM; (repeat (first | go_big_quiet_skip | (go_big_quiet_want; first | (refine quiet_get1 _ _ rfl _ _ rfl 1 rfl cellInt64S (by omega) _ c2 ?_; (simp only [Act.put, List.setIfInBounds_toArray, List.set_cons_succ, List.set_cons_zero]); go_big_quiet_on) | (refine quiet_get1 _ _ rfl _ _ rfl 0 rfl cellInt64S (by omega) _ c1 ?_; (simp only [Act.put, List.setIfInBounds_toArray, List.set_cons_succ, List.set_cons_zero]); go_big_quiet_on) | (refine quiet_val ?_; apply Exists.intro; refine ⟨fun W => ?_, ?_⟩; (go_simp; (try simp only [l2, l3, hb, if_true, Bool.false_eq_true, if_false]); rfl); (simp only [Act.put, List.setIfInBounds_toArray, List.set_cons_succ, List.set_cons_zero]); go_big_quiet_on)))); (with_reducible refine wpQuiet_nil ?_); intro W' hM)
          go_wp2
          go_ret
          exact ⟨ret_bool (sameInt64S_no hlt He.out).symm, hM.below⟩
        · have He := Lib.hid he
          unfold eqvInt64S at he
          have hb : (ys k != ys' k) = false := by rw [bne, he]; rfl
          go_wp2
          ((try simp only [Act.put, List.setIfInBounds_toArray, List.set_cons_succ, List.set_cons_zero]); refine wp_region_mem (by kernel_rfl) (by kernel_rfl) hM ?_; clear hM; (repeat (first | go_big_quiet_skip | (go_big_quiet_want; first | (refine quiet_get1 _ _ rfl _ _ rfl 1 rfl cellInt64S (by omega) _ c2 ?_; (simp only [Act.put, List.setIfInBounds_toArray, List.set_cons_succ, List.set_cons_zero]); go_big_quiet_on) | (refine quiet_get1 _ _ rfl _ _ rfl 0 rfl cellInt64S (by omega) _ c1 ?_; (simp only [Act.put, List.setIfInBounds_toArray, List.set_cons_succ, List.set_cons_zero]); go_big_quiet_on) | (refine quiet_val ?_; apply Exists.intro; refine ⟨fun W => ?_, ?_⟩; (go_simp; (try simp only [l2, l3, hb, if_true, Bool.false_eq_true, if_false]); rfl); (simp only [Act.put, List.setIfInBounds_toArray, List.set_cons_succ, List.set_cons_zero]); go_big_quiet_on)))); (with_reducible refine wpQuiet_nil ?_); intro W' hM)
          go_wp2
          go_roundw
          case rel => exact ⟨k + 1, by omega, by go_num, Lib.hid (fun j hj => by
            by_cases e : j = k
            · rw [e]; exact He.out
            · exact hall.out j (by omega)), hM⟩
          case measure => simp [intOf]; omega
      · obtain rfl : k = n := by omega
        go_wp2
        go_ret
        exact ⟨ret_bool (sameInt64S_yes hall.out).symm, hM.below⟩
  · have hz : ¬ (n : Int) = n' := by omega
    have d1 : decide ((n : Int) = n') = false := decide_eq_false hz
    have Hs := Lib.hid (sameInt64S_len (ys := ys) (ys' := ys') hnn)
    clear hnn
    go_enter Tryd.func23, Tryd.ntmps23
    go_wp2
    go_ret
    exact ⟨ret_bool Hs.out.symm, hM.below⟩

theorem eqInt64S_same (b b' n c c' : Nat) (ys : Nat → Int) (hn : n ≤ maxLen) (w : World) (hA : At w b n (vInt64S ys)) (hA' : At w b' n (vInt64S ys)) (hne : b ≠ b') :
    Calls Tryd.prog 23 #[.slice (some ⟨b, 0, none⟩) n c, .slice (some ⟨b', 0, none⟩) n c'] w fun e w' => e = .returned (.bool true) ∧ Below w.heap.size w w' := by
  have := eqInt64S_any b b' n n c c' ys ys hn hn w hA hA' hne
  rwa [sameInt64S_self] at this
end Go.Proofs.YtbbododeglkghaaDoor
