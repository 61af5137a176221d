/-
  []string: laws.szStringS, toStringS, eqStringS and slices.Equal by contracts.
-/
import Derived.Test.YtcdpdcjdjcbhcaaDoorListC
import Derived.Test.YtcdpdcjdjcbhcaaDoorSpec1
namespace Go.Proofs.YtcdpdcjdjcbhcaaDoor
open Go Go.RowKit Go.BigFrame Go.ChangeShapes Go.WideShapes Go.Deep

def vStringS (ys : Nat → ByteArray) : Nat → Value := fun k => .string (ys k)
theorem cellStringS : CellT Tryd.prog 9 := ⟨⟨_, Tryd.underlying9, rfl⟩, by kernel_rfl⟩
theorem infoStringS : (Tryd.prog.info? 9).map (fun i => (i.size, i.zero, i.bytes)) = some (1, some (.string ⟨#[]⟩), 16) := by kernel_rfl
def fitsStringS (y : ByteArray) : Prop := y.size ≤ maxLen
section
variable {H : Type} {enc : TypeId × Value → H} {w : World} {base : Nat} {spare : Nat → Bool} {held : Bool}
set_option maxRecDepth 100000 in
theorem openStringS {v : Value} {b0 fuel : Nat} {x : DataW H × List MemPlace} (hok : Cell.okWide Tryd.prog w .any b0 69 v) (h : DataW.trod enc Tryd.prog w base spare held fuel 69 [v] = some x) :
    ∃ (n : Nat) (ys : Nat → ByteArray), n ≤ maxLen ∧ (∀ i, i < n → fitsStringS (ys i)) ∧ Arg1 w v n (vStringS ys) :=
  open_list1 Tryd.underlying69 (by kernel_rfl) (fun y => .string (y)) fitsStringS ⟨#[]⟩ (fun fuel v x h => trod_str Tryd.underlying9 fuel v x h) hok h
end

set_option maxRecDepth 100000 in
set_option maxHeartbeats 1000000 in
theorem szStringS_any (v : Value) (n : Nat) (ys : Nat → ByteArray) (left : Int) (hn : n ≤ maxLen) (hF : ∀ i, i < n → (ys i).size ≤ maxLen) (h0 : 0 ≤ left) (hl2 : left ≤ 1048576) (w : World) (h : Arg1 w v n (vStringS ys)) :
    Calls Tryd.prog 80 #[v, .int .i64 left] w (Left n left w) := by
  unfold maxLen at hn hF
  have HF := Lib.hid hF
  clear hF
  rcases h with ⟨rfl, rfl⟩ | ⟨b, o, c, rfl, h⟩
  · have c1 : IntKind.i64.wrap left = left := IntWalk.i64_in _ (by omega)
    have d1 : decide (left < 0) = false := decide_eq_false (by omega)
    go_enter Tryd.func80, Tryd.ntmps80
    go_wp2
    refine wp_loop_rounds 1 ?_
    rw [rounds_succ]
    go_wp2
    go_ret
    exact ⟨⟨left, rfl, .inr ⟨h0, by omega, by omega⟩⟩, Below.refl _ _⟩
  have HL := Lib.hid h
  clear h
  by_cases hl : left < n
  · have c1 : IntKind.i64.wrap (left - n) = left - n := IntWalk.i64_in _ (by omega)
    have d1 : decide (left - n < 0) = true := decide_eq_true (by omega)
    go_enter Tryd.func80, Tryd.ntmps80
    go_wp2
    go_ret
    exact ⟨⟨-1, rfl, .inl rfl⟩, Below.refl _ _⟩
  · have hM := Mem.nil w
    have c1 : IntKind.i64.wrap (left - n) = left - n := IntWalk.i64_in _ (by omega)
    have d1 : decide (left - n < 0) = false := decide_eq_false (by omega)
    go_enter Tryd.func80, Tryd.ntmps80
    go_wp2
    go_loopw [1, 5] (fun l i wr => ∃ (k : Nat) (r : Int), k ≤ n ∧ i = .int .i64 k ∧ l = .int .i64 r ∧ 0 ≤ r ∧ r ≤ left - n ∧ Mem w [] wr) (fun _ i _ => n - (intOf i).toNat)
    case atStart => exact ⟨0, left - n, by omega, rfl, rfl, by omega, by omega, hM⟩
    case round =>
      clear hM
      obtain ⟨k, r, hk, rfl, rfl, hr0, hr1, hM⟩ := hrel
      by_cases hlt : k < n
      · have l2 : (k : Int) < n := by omega
        have l3 : decide ((k : Int) < n) = true := decide_eq_true l2
        have hs := HF.out k hlt
        by_cases hq : r < (ys k).size
        · have c2 : IntKind.i64.wrap (r - (ys k).size) = r - (ys k).size := IntWalk.i64_in _ (by omega)
          have d2 : decide (r - ((ys k).size : Int) < 0) = true := decide_eq_true (by omega)
          go_wp2_with (first | (refine wpList_getL1 rfl _ _ rfl _ _ rfl _ _ (HL.out.below hM.below) cellStringS k rfl (by omega) (.string (ys k)) rfl ?_))
          go_ret
          exact ⟨⟨-1, rfl, .inl rfl⟩, hM.below⟩
        · have c2 : IntKind.i64.wrap (r - (ys k).size) = r - (ys k).size := IntWalk.i64_in _ (by omega)
          have d2 : decide (r - ((ys k).size : Int) < 0) = false := decide_eq_false (by omega)
          go_wp2_with (first | (refine wpList_getL1 rfl _ _ rfl _ _ rfl _ _ (HL.out.below hM.below) cellStringS k rfl (by omega) (.string (ys k)) rfl ?_))
          go_roundw
          case rel => exact ⟨k + 1, r - (ys k).size, by omega, by go_num, by go_num, by omega, by omega, hM⟩
          case measure => simp [intOf]; omega
      · obtain rfl : k = n := by omega
        go_wp2
        go_ret
        exact ⟨⟨r, rfl, .inr ⟨hr0, by omega, by omega⟩⟩, hM.below⟩


set_option maxRecDepth 100000 in
set_option maxHeartbeats 1000000 in
theorem toStringS_any (v : Value) (n : Nat) (ys : Nat → ByteArray) (hn : n ≤ 1048576) (w : World) (h : Arg1 w v n (vStringS ys)) : Calls Tryd.prog 85 #[v] w fun e w' => ∃ b, e = .returned (.slice (some ⟨b, 0, none⟩) n n) ∧ w.heap.size ≤ b ∧ At w' b n (vStringS ys) ∧ Below w.heap.size w w' := by
  have hM := Mem.nil w
  rcases h with ⟨rfl, rfl⟩ | ⟨b, o, c, rfl, hL⟩
  · have tk_b1 : True := trivial
    go_enter Tryd.func85, Tryd.ntmps85
    go_wp2_with (first | (have _t := tk_b1; refine wpList_make1 rfl _ _ _ _ rfl 0 rfl rfl (.string ⟨#[]⟩) 16 rfl Tryd.underlying69 infoStringS (by omega) (by omega) hM ?_; intro b1 W' hb1 hM'; clear hM tk_b1; have hM := hM'; clear hM'))
    refine wp_loop_rounds 1 ?_
    rw [rounds_succ]
    go_wp2
    go_ret
    exact ⟨b1, rfl, hb1, (hM.ats 0 _ _ _ rfl).congr (fun k hk => by omega), hM.below⟩
  · have HL := Lib.hid hL
    clear hL
    have tk_b1 : True := trivial
    go_enter Tryd.func85, Tryd.ntmps85
    go_wp2_with (first | (have _t := tk_b1; refine wpList_make1 rfl _ _ _ _ rfl n rfl rfl (.string ⟨#[]⟩) 16 rfl Tryd.underlying69 infoStringS (by omega) hn hM ?_; intro b1 W' hb1 hM'; clear hM tk_b1; have hM := hM'; clear hM'))
    go_loopw [4] (fun i wr => ∃ k : Nat, k ≤ n ∧ i = .int .i64 k ∧ ∃ g, Hid (∀ j, j < k → g j = vStringS ys j) ∧ Mem w [(b1, n, g)] wr) (fun i _ => n - (intOf i).toNat)
    case atStart => exact ⟨0, by omega, rfl, _, Lib.hid (fun j hj => absurd hj (by omega)), hM⟩
    case round =>
      clear hM
      obtain ⟨k, hk, rfl, g, hg, hM⟩ := hrel
      by_cases hlt : k < n
      · go_wp2_with (first | (refine wpList_getL1 rfl _ _ rfl _ _ rfl _ _ (HL.out.below hM.below) cellStringS k rfl (by omega) (.string (ys k)) rfl ?_) | (refine wpList_set1 rfl _ _ _ rfl _ _ rfl (.string (ys k)) rfl rfl hM 0 rfl (by assumption) cellStringS (by omega) ?_; intro W' hM'; clear hM; have hM := hM'; clear hM'; simp only [List.set] at hM))
        go_roundw
        case rel => exact ⟨k + 1, by omega, by go_num, _, Lib.hid (fun j hj => by
          simp only [upd, Nat.zero_add]
          by_cases e : j = k
          · rw [if_pos (by omega), e]; rfl
          · rw [if_neg (by omega)]; exact hg.out j (by omega)), hM⟩
        case measure => simp [intOf]; omega
      · obtain rfl : k = n := by omega
        go_wp2
        go_ret
        exact ⟨b1, rfl, hb1, (hM.ats 0 _ _ _ rfl).congr hg.out, hM.below⟩

/-! ### equal -/
def eqvStringS (a b : ByteArray) : Bool := a.toList == b.toList
def sameStringS (n n' : Nat) (ys ys' : Nat → ByteArray) : Bool := decide (n = n') && (List.range n).all fun i => eqvStringS (ys i) (ys' i)
theorem sameStringS_len {n n' : Nat} {ys ys' : Nat → ByteArray} (h : n ≠ n') : sameStringS n n' ys ys' = false := by simp [sameStringS, h]
theorem sameStringS_no {n i : Nat} {ys ys' : Nat → ByteArray} (hi : i < n) (h : eqvStringS (ys i) (ys' i) = false) : sameStringS n n ys ys' = false := by
  have : ((List.range n).all fun i => eqvStringS (ys i) (ys' i)) = false := by rw [List.all_eq_false]; exact ⟨i, by simpa using hi, by rw [h]; decide⟩
  simp [sameStringS, this]
theorem sameStringS_yes {n : Nat} {ys ys' : Nat → ByteArray} (h : ∀ i, i < n → eqvStringS (ys i) (ys' i) = true) : sameStringS n n ys ys' = true := by
  have : ((List.range n).all fun i => eqvStringS (ys i) (ys' i)) = true := by rw [List.all_eq_true]; intro i hi; exact h i (by simpa using hi)
  simp [sameStringS, this]
theorem eqvStringS_self (a : ByteArray) : eqvStringS a a = true := by simp [eqvStringS]
theorem sameStringS_self (n : Nat) (ys : Nat → ByteArray) : sameStringS n n ys ys = true := sameStringS_yes fun i _ => eqvStringS_self (ys i)
set_option maxRecDepth 100000 in
set_option maxHeartbeats 1000000 in
/-- laws.eqStringS -/
theorem eqStringS_any (b b' n n' c c' : Nat) (ys ys' : Nat → ByteArray) (hn : n ≤ maxLen) (hn' : n' ≤ maxLen) (w : World) (hA : At w b n (vStringS ys)) (hA' : At w b' n' (vStringS ys')) (hne : b ≠ b') :
    Calls Tryd.prog 90 #[.slice (some ⟨b, 0, none⟩) n c, .slice (some ⟨b', 0, none⟩) n' c'] w fun e w' => e = .returned (.bool (sameStringS n n' ys ys')) ∧ Below w.heap.size w w' := by
  have hM : Mem w [(b, n, vStringS ys), (b', n', vStringS ys')] w := ((Mem.nil w).old hA (fun i p h => by simp at h)).old hA' (fun i p h => by
    match i, h with
    | 0, h => simp at h; rw [← h]; exact hne
    | _ + 1, h => simp at h)
  unfold maxLen at hn hn'
  clear hA hA'
  by_cases hnn : n = n'
  · subst hnn
    go_enter Tryd.func90, Tryd.ntmps90
    go_wp2
    go_loopw [5] (fun i wr => ∃ k : Nat, k ≤ n ∧ i = .int .i64 k ∧ Hid (∀ j, j < k → eqvStringS (ys j) (ys' j) = true) ∧ Mem w [(b, n, vStringS ys), (b', n, vStringS ys')] wr) (fun i _ => n - (intOf i).toNat)
    case atStart => exact ⟨0, by omega, rfl, Lib.hid (fun j hj => absurd hj (by omega)), hM⟩
    case round =>
      clear hM
      obtain ⟨k, hk, rfl, hall, hM⟩ := hrel
      by_cases hlt : k < n
      · have l2 : (k : Int) < n := by omega
        have l3 : decide ((k : Int) < n) = true := decide_eq_true l2
        have c1 : vStringS ys k = .string (ys k) := rfl
        have c2 : vStringS ys' k = .string (ys' k) := rfl
        cases he : eqvStringS (ys k) (ys' k)
        · have He := Lib.hid he
          unfold eqvStringS at he
          go_wp2
          ((try simp only [Act.put, List.setIfInBounds_toArray, List.set_cons_succ, List.set_cons_zero]); refine wp_region_mem (by kernel_rfl) (by kernel_rfl) hM ?_; clear hM; (repeat (first | go_big_quiet_skip | (go_big_quiet_want; first | (refine quiet_get1 _ _ rfl _ _ rfl 1 rfl cellStringS (by omega) _ c2 ?_; (simp only [Act.put, List.setIfInBounds_toArray, List.set_cons_succ, List.set_cons_zero]); go_big_quiet_on) | (refine quiet_get1 _ _ rfl _ _ rfl 0 rfl cellStringS (by omega) _ c1 ?_; (simp only [Act.put, List.setIfInBounds_toArray, List.set_cons_succ, List.set_cons_zero]); go_big_quiet_on) | (refine quiet_val ?_; apply Exists.intro; refine ⟨fun W => ?_, ?_⟩; (go_simp; (try simp only [l2, l3, he, if_true, Bool.false_eq_true, if_false]); rfl); (simp only [Act.put, List.setIfInBounds_toArray, List.set_cons_succ, List.set_cons_zero]); go_big_quiet_on)))); (with_reducible refine wpQuiet_nil ?_); intro W' hM)
          go_wp2
          go_ret
          exact ⟨ret_bool (sameStringS_no hlt He.out).symm, hM.below⟩
        · have He := Lib.hid he
          unfold eqvStringS at he
          go_wp2
          ((try simp only [Act.put, List.setIfInBounds_toArray, List.set_cons_succ, List.set_cons_zero]); refine wp_region_mem (by kernel_rfl) (by kernel_rfl) hM ?_; clear hM; (repeat (first | go_big_quiet_skip | (go_big_quiet_want; first | (refine quiet_get1 _ _ rfl _ _ rfl 1 rfl cellStringS (by omega) _ c2 ?_; (simp only [Act.put, List.setIfInBounds_toArray, List.set_cons_succ, List.set_cons_zero]); go_big_quiet_on) | (refine quiet_get1 _ _ rfl _ _ rfl 0 rfl cellStringS (by omega) _ c1 ?_; (simp only [Act.put, List.setIfInBounds_toArray, List.set_cons_succ, List.set_cons_zero]); go_big_quiet_on) | (refine quiet_val ?_; apply Exists.intro; refine ⟨fun W => ?_, ?_⟩; (go_simp; (try simp only [l2, l3, he, if_true, Bool.false_eq_true, if_false]); rfl); (simp only [Act.put, List.setIfInBounds_toArray, List.set_cons_succ, List.set_cons_zero]); go_big_quiet_on)))); (with_reducible refine wpQuiet_nil ?_); intro W' hM)
          go_wp2
          go_roundw
          case rel => exact ⟨k + 1, by omega, by go_num, Lib.hid (fun j hj => by
            by_cases e : j = k
            · rw [e]; exact He.out
            · exact hall.out j (by omega)), hM⟩
          case measure => simp [intOf]; omega
      · obtain rfl : k = n := by omega
        go_wp2
        go_ret
        exact ⟨ret_bool (sameStringS_yes hall.out).symm, hM.below⟩
  · have hz : ¬ (n : Int) = n' := by omega
    have d1 : decide ((n : Int) = n') = false := decide_eq_false hz
    have Hs := Lib.hid (sameStringS_len (ys := ys) (ys' := ys') hnn)
    clear hnn
    go_enter Tryd.func90, Tryd.ntmps90
    go_wp2
    go_ret
    exact ⟨ret_bool Hs.out.symm, hM.below⟩

theorem eqStringS_same (b b' n c c' : Nat) (ys : Nat → ByteArray) (hn : n ≤ maxLen) (w : World) (hA : At w b n (vStringS ys)) (hA' : At w b' n (vStringS ys)) (hne : b ≠ b') :
    Calls Tryd.prog 90 #[.slice (some ⟨b, 0, none⟩) n c, .slice (some ⟨b', 0, none⟩) n c'] w fun e w' => e = .returned (.bool true) ∧ Below w.heap.size w w' := by
  have := eqStringS_any b b' n n c c' ys ys hn hn w hA hA' hne
  rwa [sameStringS_self] at this
end Go.Proofs.YtcdpdcjdjcbhcaaDoor
