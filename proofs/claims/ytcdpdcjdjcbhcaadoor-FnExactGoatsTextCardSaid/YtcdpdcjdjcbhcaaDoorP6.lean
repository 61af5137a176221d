/-
  Several texts in one: ToGoatS, Equal, EqlSpot, Diet, HasCell, Square, GoatV, GoatW, GoatR.
-/
import Derived.Test.YtcdpdcjdjcbhcaaDoorP5
import Derived.Test.YtcdpdcjdjcbhcaaDoorP1
import Derived.ChangeKeysEq
import Derived.Laws.StructEq
import Derived.Test.YtcdpdcjdjcbhcaaDoorP2
import Derived.Lib.Hide
/-
  laws.szGoatS, laws.toGoat, laws.toGoatS, laws.eqGoatS by contracts.
-/
namespace Go.Proofs.YtcdpdcjdjcbhcaaDoor
open Go Go.RowKit Go.BigFrame

theorem szGoatS_no (v : Value) (n : Nat) (hs : Nat → Nat → Int) (left : Int) (hn : n ≤ maxLen) (hl : left < n) (h0 : 0 ≤ left) (hl2 : left ≤ 1048576) (w : World) (h : GoatArg w v n hs) :
    Calls Tryd.prog 31 #[v, .int .i64 left] w fun e w' => e = .returned (.int .i64 (-1)) ∧ Below w.heap.size w w' := by
  unfold maxLen at hn
  rcases h with ⟨rfl, rfl⟩ | ⟨b, o, c, rfl, h⟩
  · omega
  · have c1 : IntKind.i64.wrap (left - n) = left - n := IntWalk.i64_in _ (by omega)
    have d1 : decide (left - n < 0) = true := decide_eq_true (by omega)
    clear h
    go_enter Tryd.func31, Tryd.ntmps31
    go_wp2
    go_ret
    exact ⟨rfl, Below.refl _ _⟩
theorem szGoatS_yes (v : Value) (n : Nat) (hs : Nat → Nat → Int) (left : Int) (hl : (n : Int) ≤ left) (hl2 : left ≤ 1048576) (w : World) (h : GoatArg w v n hs) :
    Calls Tryd.prog 31 #[v, .int .i64 left] w fun e w' => e = .returned (.int .i64 (left - n)) ∧ Below w.heap.size w w' := by
  rcases h with ⟨rfl, rfl⟩ | ⟨b, o, c, rfl, h⟩
  · have c1 : IntKind.i64.wrap left = left := IntWalk.i64_in _ (by omega)
    have d1 : decide (left < 0) = false := decide_eq_false (by omega)
    go_enter Tryd.func31, Tryd.ntmps31
    go_wp2
    go_ret
    exact ⟨by simp, Below.refl _ _⟩
  · have c1 : IntKind.i64.wrap (left - n) = left - n := IntWalk.i64_in _ (by omega)
    have d1 : decide (left - n < 0) = false := decide_eq_false (by omega)
    clear h
    go_enter Tryd.func31, Tryd.ntmps31
    go_wp2
    go_ret
    exact ⟨rfl, Below.refl _ _⟩

theorem gt_arr2 (h : Nat → Int) (o : Nat) : ∀ k, (gt h (o + k)).oneCell' = true := fun _ => rfl
set_option maxRecDepth 100000 in
set_option maxHeartbeats 1000000 in
theorem toGoat_any (f : Nat → Value) (h : Nat → Int) (hf : ∀ k, k < 7 → f k = gt h k) (w : World) :
    Calls Tryd.prog 76 #[.agg (arr 7 f)] w fun e w' => e = .returned (.agg (arr 7 (gt h))) ∧ Below w.heap.size w w' := by
  rw [arr_congr hf]
  have hM := Mem.nil w
  have tk_b1 : True := trivial; have tk_b2 : True := trivial; have tk_b3 : True := trivial
  go_enter Tryd.func76, Tryd.ntmps76
  go_wp2_with (first | (have _t := tk_b1; refine wpList_box rfl _ _ rfl _ _ rfl hM ?_; intro b1 W' hb1 hM'; clear hM tk_b1; have hM := hM'; clear hM') | (have _t := tk_b2; refine wpList_zero rfl _ rfl (zeroTab _ _ _ rfl) hM ?_; intro b2 W' hb2 hM'; clear hM tk_b2; have hM := hM'; clear hM') | (have _t := tk_b3; refine wpList_zero rfl _ rfl (zeroTab _ _ _ rfl) hM ?_; intro b3 W' hb3 hM'; clear hM tk_b3; have hM := hM'; clear hM') | (refine wpList_get1 rfl _ _ rfl _ _ rfl hM 2 rfl (cellTab _ rfl) (by omega) _ rfl ?_) | (refine wpList_get rfl _ _ rfl _ _ rfl hM 2 rfl (rowTab _ _ rfl) (by omega) ?_) | (go_at_call 95; refine (toSpot_any _ (fun _ => rfl) _).mono ?_; rintro e W' ⟨rfl, hb'⟩; have hM' := hM.call hb'; clear hM hb'; have hM := hM'; clear hM') | (refine wpList_set1 rfl _ _ _ rfl _ _ rfl _ rfl ?_ hM 0 rfl (by assumption) (cellTab _ rfl) (by omega) ?_; (first | rfl | exact h1 _); intro W' hM'; clear hM; have hM := hM'; clear hM'; simp [List.set, Act.eval] at hM) | (refine wpList_lay rfl _ _ _ rfl _ _ rfl _ _ rfl hM 0 rfl (by assumption) (rowTab _ _ rfl) (by omega) ?_ ?_; (first | (intro _ _; rfl) | (intro k _; exact h1 _) | (intro k _; simp only [lay, upd]; (repeat' split) <;> first | exact h1 _ | rfl)); intro W' hM'; clear hM; have hM := hM'; clear hM'; simp only [List.set] at hM) | (refine wpList_get rfl _ _ rfl _ _ rfl hM 0 rfl (rowTab _ _ rfl) (by omega) ?_) | (refine wpList_lay rfl _ _ _ rfl _ _ rfl _ _ rfl hM 1 rfl (by assumption) (rowTab _ _ rfl) (by omega) ?_ ?_; (first | (intro _ _; rfl) | (intro k _; exact h1 _) | (intro k _; simp only [lay, upd]; (repeat' split) <;> first | exact h1 _ | rfl)); intro W' hM'; clear hM; have hM := hM'; clear hM'; simp only [List.set] at hM))
  have hA := (hM.ats 1 _ _ _ rfl).congr (g := gt h) (fun k hk => by
    rcases (show k = 0 ∨ k = 1 ∨ k = 2 ∨ k = 3 ∨ k = 4 ∨ k = 5 ∨ k = 6 by omega) with rfl | rfl | rfl | rfl | rfl | rfl | rfl <;> rfl)
  exact bodyPost_ret (results_at rfl _ rfl hA (rowTab _ _ rfl)) rfl ⟨rfl, hM.below⟩

theorem goat_info : (Tryd.prog.info? 134).map (fun i => (i.size, i.zero, i.bytes)) = some (7, some (.agg (arr 7 zG)), 10) := by kernel_rfl
/-- A new list of goats. -/
def GivenG (n : Nat) (hs : Nat → Nat → Int) (w : World) (e : Ending) (w' : World) : Prop := ∃ b, e = .returned (.slice (some ⟨b, 0, none⟩) n n) ∧ w.heap.size ≤ b ∧ At w' b (n * 7) (gts hs) ∧ Below w.heap.size w w'
theorem gts_row (hs : Nat → Nat → Int) (k j : Nat) (hj : j < 7) : gts hs (k * 7 + j) = gt (hs k) j := by
  unfold gts
  rw [show (k * 7 + j) / 7 = k by omega, show (k * 7 + j) % 7 = j by omega]

set_option maxRecDepth 100000 in
set_option maxHeartbeats 1000000 in
theorem toGoatS_any (v : Value) (n : Nat) (hs : Nat → Nat → Int) (hn : n ≤ 1048576) (w : World) (h : GoatArg w v n hs) : Calls Tryd.prog 33 #[v] w (GivenG n hs w) := by
  have hM := Mem.nil w
  rcases h with ⟨rfl, rfl⟩ | ⟨b, o, c, rfl, hL⟩
  · have tk_b1 : True := trivial
    go_enter Tryd.func33, Tryd.ntmps33
    go_wp2_with (first | (have _t := tk_b1; refine wpList_make rfl _ _ _ _ rfl 0 rfl rfl 7 zG 10 Tryd.underlying65 goat_info (by omega) (by omega) (by omega) hM ?_; intro b1 W' hb1 hM'; clear hM tk_b1; have hM := hM'; clear hM'))
    refine wp_loop_rounds 1 ?_
    rw [rounds_succ]
    go_wp2
    go_ret
    exact ⟨b1, rfl, hb1, (hM.ats 0 _ _ _ rfl).congr (fun k hk => by omega), hM.below⟩
  · have HL := Lib.hid hL
    clear hL
    have tk_b1 : True := trivial
    go_enter Tryd.func33, Tryd.ntmps33
    go_wp2_with (first | (have _t := tk_b1; refine wpList_make rfl _ _ _ _ rfl n rfl rfl 7 zG 10 Tryd.underlying65 goat_info (by omega) (by omega) hn hM ?_; intro b1 W' hb1 hM'; clear hM tk_b1; have hM := hM'; clear hM'))
    go_loopw [4] (fun i wr => ∃ k : Nat, k ≤ n ∧ i = .int .i64 k ∧ ∃ g, Hid (∀ j, j < k * 7 → g j = gts hs j) ∧ Mem w [(b1, n * 7, g)] wr) (fun i _ => n - (intOf i).toNat)
    case atStart => exact ⟨0, by omega, rfl, _, Lib.hid (fun j hj => absurd hj (by omega)), hM⟩
    case round =>
      clear hM
      obtain ⟨k, hk, rfl, g, hg, hM⟩ := hrel
      by_cases hlt : k < n
      · go_wp2_with (first | (refine wpList_getL rfl _ _ rfl _ _ rfl _ _ (HL.out.below hM.below) (rowTab _ _ rfl) (k * 7) rfl (by omega) ?_) | (go_at_call 76; refine (toGoat_any _ (hs k) (fun j hj => gts_row hs k j hj) _).mono ?_; rintro e W' ⟨rfl, hb'⟩; have hM' := hM.call hb'; clear hM hb'; have hM := hM'; clear hM') | (refine wpList_lay rfl _ _ _ rfl _ _ rfl _ _ rfl hM 0 rfl (by assumption) (rowTab _ _ rfl) (by omega) ?_ ?_; (first | (intro _ _; rfl) | (intro k _; exact h1 _) | (intro k _; simp only [lay, upd]; (repeat' split) <;> first | exact h1 _ | rfl)); intro W' hM'; clear hM; have hM := hM'; clear hM'; simp only [List.set] at hM))
        go_roundw
        case rel => exact ⟨k + 1, by omega, by go_num, _, Lib.hid (fun j hj => by
          by_cases e : k * 7 ≤ j
          · have := gts_row hs k (j - k * 7) (by omega)
            rw [show k * 7 + (j - k * 7) = j by omega] at this
            simp only [lay]
            rw [if_pos ⟨e, by omega⟩, this]
          · simp only [lay]
            rw [if_neg (by omega)]
            exact hg.out j (by omega)), hM⟩
        case measure => simp [intOf]; omega
      · obtain rfl : k = n := by omega
        go_wp2
        go_ret
        exact ⟨b1, rfl, hb1, (hM.ats 0 _ _ _ rfl).congr hg.out, hM.below⟩

set_option maxRecDepth 100000 in
set_option maxHeartbeats 1000000 in
/-- eqGoatS of two lists that hold the same. -/
theorem eqGoatS_same (b b' n c c' : Nat) (hs : Nat → Nat → Int) (hn : n ≤ maxLen) (w : World) (hA : At w b (n * 7) (gts hs)) (hA' : At w b' (n * 7) (gts hs)) (hne : b ≠ b') :
    Calls Tryd.prog 35 #[.slice (some ⟨b, 0, none⟩) n c, .slice (some ⟨b', 0, none⟩) n c'] w fun e w' => e = .returned (.bool true) ∧ Below w.heap.size w w' := by
  have hM : Mem w [(b, n * 7, gts hs), (b', n * 7, gts hs)] w := ((Mem.nil w).old hA (fun i p h => by simp at h)).old hA' (fun i p h => by
    match i, h with
    | 0, h => simp at h; rw [← h]; exact hne
    | _ + 1, h => simp at h)
  unfold maxLen at hn
  clear hA hA'
  go_enter Tryd.func35, Tryd.ntmps35
  go_wp2
  go_loopw [5] (fun i wr => ∃ k : Nat, k ≤ n ∧ i = .int .i64 k ∧ Mem w [(b, n * 7, gts hs), (b', n * 7, gts hs)] wr) (fun i _ => n - (intOf i).toNat)
  case atStart => exact ⟨0, by omega, rfl, hM⟩
  case round =>
    clear hM
    obtain ⟨k, hk, rfl, hM⟩ := hrel
    by_cases hlt : k < n
    · have l2 : (k : Int) < n := by omega
      have er : arr 7 (fun j => gts hs (k * 7 + j)) = arr 7 (gt (hs k)) := arr_congr fun j hj => gts_row hs k j hj
      go_wp2
      ((try simp only [Act.put, List.setIfInBounds_toArray, List.set_cons_succ, List.set_cons_zero]); refine wp_region_mem (by kernel_rfl) (by kernel_rfl) hM ?_; clear hM; (repeat (first | go_big_quiet_skip | (go_big_quiet_want; first | (refine quiet_get _ _ rfl _ _ rfl 1 rfl (rowTab _ _ rfl) (by omega) ?_; (simp only [er]); (simp only [Act.put, List.setIfInBounds_toArray, List.set_cons_succ, List.set_cons_zero]); go_big_quiet_on) | (refine quiet_get _ _ rfl _ _ rfl 0 rfl (rowTab _ _ rfl) (by omega) ?_; (simp only [er]); (simp only [Act.put, List.setIfInBounds_toArray, List.set_cons_succ, List.set_cons_zero]); go_big_quiet_on) | (refine quiet_call ?_; apply Exists.intro; apply Exists.intro; apply Exists.intro; refine ⟨fun W => ?_, fun W hM => ?_, ?_⟩; (go_simp; exact ⟨rfl, rfl⟩); (exact eqGoat_same (hs k) W); (simp only [Act.put, List.setIfInBounds_toArray, List.set_cons_succ, List.set_cons_zero]); go_big_quiet_on) | (refine quiet_val ?_; apply Exists.intro; refine ⟨fun W => ?_, ?_⟩; (go_simp; (try simp only [l2, if_true, Bool.false_eq_true, if_false]); rfl); (simp only [Act.put, List.setIfInBounds_toArray, List.set_cons_succ, List.set_cons_zero]); go_big_quiet_on)))); (with_reducible refine wpQuiet_nil ?_); intro W' hM)
      go_wp2
      go_roundw
      case rel => exact ⟨k + 1, by omega, by go_num, hM⟩
      case measure => simp [intOf]; omega
    · obtain rfl : k = n := by omega
      go_wp2
      go_ret
      exact ⟨rfl, hM.below⟩
end Go.Proofs.YtcdpdcjdjcbhcaaDoor

/-
  '==' on rows of integers, rows of such rows, and pastures.
-/
namespace Go.Proofs.YtcdpdcjdjcbhcaaDoor
open Go Go.RowKit
variable {P : Program}

theorem run_part_cell {e : TypeId} {κ : IntKind} (hu : P.underlying e = some (.int κ)) {n i : Nat} {f : Nat → Value} (hi : i < n) (W : World) : (part e (arr n f) i).run P W = .ok (f i) W := by
  have hagg : (isAgg e).run P W = .ok false W := by
    unfold isAgg; rw [Sem.run_bind, run_underlying hu W]; rfl
  simp only [part, Sem.run_bind, hagg, Result.andThen_ok, Bool.false_eq_true, if_false, arr_at hi, Sem.run_pure]
theorem run_part_row {e : TypeId} {m : Nat} (hT : RowT P e m) {n i : Nat} {f : Nat → Value} (hi : i + m ≤ n) (W : World) : (part e (arr n f) i).run P W = .ok (.agg (arr m (fun k => f (i + k)))) W := by
  obtain ⟨⟨d, hu, hd⟩, hm⟩ := hT
  have hagg : (isAgg e).run P W = .ok true W := by
    unfold isAgg; rw [Sem.run_bind, run_underlying hu W]; cases d <;> simp_all [TypeDesc.isRow]
  have hsz : (sizeOf e).run P W = .ok m W := by
    cases hq : P.info? e with
    | none => simp [hq] at hm
    | some i => simp [hq] at hm; simp [sizeOf, typeInfo, hq, hm]
  simp only [part, Sem.run_bind, hagg, Result.andThen_ok, if_true, hsz, Sem.run_pure, arr_extract hi]

theorem run_eqItems_ints (d : Nat) {e : TypeId} {κ : IntKind} (hu : P.underlying e = some (.int κ)) (hc : P.cellsOf e = 1) {n : Nat} (f g : Nat → Value) (a b : Nat → Int)
    (hf : ∀ k, k < n → f k = .int κ (a k)) (hg : ∀ k, k < n → g k = .int κ (b k)) (W : World) : ∀ is : List Nat, (∀ i ∈ is, i < n) →
    (Op.eqItems (d + 1) e (P.cellsOf e) (arr n f) (arr n g) is).run P W = .ok (is.all fun i => a i == b i) W
  | [], _ => by simp [Op.eqItems]
  | i :: is, h => by
    have hi := h i (by simp)
    simp only [Op.eqItems, Sem.run_bind, hc, Nat.mul_one, run_part_cell hu hi, Result.andThen_ok, hf i hi, hg i hi, run_equalIn_int W d e κ κ _ _ hu]
    cases hab : (a i == b i)
    · simp [hab]
    · have := run_eqItems_ints d hu hc f g a b hf hg W is (fun j hj => h j (by simp [hj]))
      rw [hc] at this
      simp [this, hab]

/-- Are the first n the same? -/
def eqTo (n : Nat) (a b : Nat → Int) : Bool := (List.range n).all fun i => a i == b i
theorem eqTo_iff {n : Nat} {a b : Nat → Int} : eqTo n a b = true ↔ ∀ k, k < n → a k = b k := by simp [eqTo]
theorem eqTo_congr {n : Nat} {a b a' b' : Nat → Int} (h : ∀ k, k < n → a k = a' k) (h' : ∀ k, k < n → b k = b' k) : eqTo n a b = eqTo n a' b' := by
  rw [Bool.eq_iff_iff, eqTo_iff, eqTo_iff]
  constructor
  · intro hh k hk; rw [← h k hk, ← h' k hk]; exact hh k hk
  · intro hh k hk; rw [h k hk, h' k hk]; exact hh k hk

theorem run_equalIn_row (d : Nat) {t e : TypeId} {κ : IntKind} {n : Nat} (ht : P.underlying t = some (.array n e)) (hu : P.underlying e = some (.int κ)) (hc : P.cellsOf e = 1) (f g : Nat → Value) (a b : Nat → Int)
    (hf : ∀ k, k < n → f k = .int κ (a k)) (hg : ∀ k, k < n → g k = .int κ (b k)) (W : World) : (Op.equalIn (d + 2) t (.agg (arr n f)) (.agg (arr n g))).run P W = .ok (eqTo n a b) W := by
  obtain ⟨i, hi⟩ := info_of_underlying hu
  rw [run_equalIn_array W (d + 1) _ _ ht hi, run_eqItems_ints d hu hc f g a b hf hg W _ (by simp)]
  rfl

theorem run_eqItems_rows (d : Nat) {t e : TypeId} {κ : IntKind} {m : Nat} (ht : P.underlying t = some (.array m e)) (hT : RowT P t m) (hcm : P.cellsOf t = m) (hu : P.underlying e = some (.int κ)) (hc : P.cellsOf e = 1) {n : Nat} (f g : Nat → Value) (a b : Nat → Int)
    (hf : ∀ k, k < n * m → f k = .int κ (a k)) (hg : ∀ k, k < n * m → g k = .int κ (b k)) (W : World) : ∀ is : List Nat, (∀ i ∈ is, i < n) →
    (Op.eqItems (d + 2) t (P.cellsOf t) (arr (n * m) f) (arr (n * m) g) is).run P W = .ok (is.all fun i => eqTo m (fun k => a (i * m + k)) (fun k => b (i * m + k))) W
  | [], _ => by simp [Op.eqItems]
  | i :: is, h => by
    have hi := h i (by simp)
    have hle : i * m + m ≤ n * m := by
      have := Nat.mul_le_mul_right m (show i + 1 ≤ n by omega)
      rw [Nat.add_mul, Nat.one_mul] at this; exact this
    have hrow := run_equalIn_row d ht hu hc (fun k => f (i * m + k)) (fun k => g (i * m + k)) (fun k => a (i * m + k)) (fun k => b (i * m + k)) (fun k hk => hf _ (by omega)) (fun k hk => hg _ (by omega)) W
    simp only [Op.eqItems, Sem.run_bind, hcm, run_part_row hT hle, Result.andThen_ok, hrow]
    cases hab : eqTo m (fun k => a (i * m + k)) (fun k => b (i * m + k))
    · simp [hab]
    · have := run_eqItems_rows d ht hT hcm hu hc f g a b hf hg W is (fun j hj => h j (by simp [hj]))
      rw [hcm] at this
      simp [this, hab]

theorem all_rows {n m : Nat} (a b : Nat → Int) (hm : 0 < m) : ((List.range n).all fun i => eqTo m (fun k => a (i * m + k)) (fun k => b (i * m + k))) = eqTo (n * m) a b := by
  rw [Bool.eq_iff_iff, eqTo_iff, List.all_eq_true]
  constructor
  · intro h k hk
    have hi : k / m < n := Nat.div_lt_of_lt_mul (by rw [Nat.mul_comm]; exact hk)
    have := (eqTo_iff.1 (h (k / m) (by simpa using hi))) (k % m) (Nat.mod_lt _ hm)
    have e : k / m * m + k % m = k := by rw [Nat.mul_comm]; exact Nat.div_add_mod k m
    rwa [e] at this
  · intro h i hi
    rw [eqTo_iff]
    intro k hk
    apply h
    have hi : i < n := by simpa using hi
    have := Nat.mul_le_mul_right m (show i + 1 ≤ n by omega)
    rw [Nat.add_mul, Nat.one_mul] at this; omega

theorem run_equalIn_rows (d : Nat) {u t e : TypeId} {κ : IntKind} {n m : Nat} (hu' : P.underlying u = some (.array n t)) (ht : P.underlying t = some (.array m e)) (hT : RowT P t m) (hcm : P.cellsOf t = m) (hu : P.underlying e = some (.int κ)) (hc : P.cellsOf e = 1) (hm : 0 < m) (f g : Nat → Value) (a b : Nat → Int)
    (hf : ∀ k, k < n * m → f k = .int κ (a k)) (hg : ∀ k, k < n * m → g k = .int κ (b k)) (W : World) : (Op.equalIn (d + 3) u (.agg (arr (n * m) f)) (.agg (arr (n * m) g))).run P W = .ok (eqTo (n * m) a b) W := by
  obtain ⟨i, hi⟩ := info_of_underlying ht
  rw [run_equalIn_array W (d + 2) _ _ hu' hi, run_eqItems_rows d ht hT hcm hu hc f g a b hf hg W _ (by simp), all_rows a b hm]

theorem cells_i16 : Tryd.prog.cellsOf 31 = 1 := by kernel_rfl
theorem cells_u16 : Tryd.prog.cellsOf 54 = 1 := by kernel_rfl
theorem cells_row : Tryd.prog.cellsOf 52 = 10 := by kernel_rfl

/-- '==' on [10][10]int16. -/
theorem run_equal_grass (f g : Nat → Value) (a b : Nat → Int) (hf : ∀ k, k < 100 → f k = .int .i16 (a k)) (hg : ∀ k, k < 100 → g k = .int .i16 (b k)) (W : World) (d : Nat) :
    (Op.equalIn (d + 3) 53 (.agg (arr 100 f)) (.agg (arr 100 g))).run Tryd.prog W = .ok (eqTo 100 a b) W :=
  run_equalIn_rows (n := 10) (m := 10) d Tryd.underlying53 Tryd.underlying52 (rowTab _ _ rfl) cells_row Tryd.underlying31 cells_i16 (by omega) f g a b hf hg W

/-- '==' on pastures. -/
theorem run_equal_pas (a b : Nat → Int) (W : World) :
    (Op.equalIn 10000 59 (.agg (arr 122 (pas a))) (.agg (arr 122 (pas b)))).run Tryd.prog W = .ok (eqTo 122 a b) W := by
  have hs := run_equalIn_struct (P := Tryd.prog) W 9999 59 (arr 122 (pas a)) (arr 122 (pas b)) (by rw [Program.fieldsOf, Tryd.underlying59]) (by kernel_rfl)
  rw [hs]
  have hf : (Tryd.prog.fieldsOf 59).toList = [
    { name := "Wide", type := 29, offset := 0, embedded := false, tag := "", pkgPath := "", byteOffset := 0 },
    { name := "High", type := 29, offset := 1, embedded := false, tag := "", pkgPath := "", byteOffset := 1 },
    { name := "Grass", type := 53, offset := 2, embedded := false, tag := "", pkgPath := "", byteOffset := 2 },
    { name := "East", type := 55, offset := 102, embedded := false, tag := "", pkgPath := "", byteOffset := 202 },
    { name := "South", type := 55, offset := 112, embedded := false, tag := "", pkgPath := "", byteOffset := 222 }] := by
    rw [Program.fieldsOf, Tryd.underlying59]
  rw [hf]
  have p0 := fun c => run_part_cell (P := Tryd.prog) Tryd.underlying29 (n := 122) (i := 0) (f := pas c) (by omega) W
  have p1 := fun c => run_part_cell (P := Tryd.prog) Tryd.underlying29 (n := 122) (i := 1) (f := pas c) (by omega) W
  have p2 := fun c => run_part_row (P := Tryd.prog) (rowTab 53 100 rfl) (n := 122) (i := 2) (f := pas c) (by omega) W
  have p3 := fun c => run_part_row (P := Tryd.prog) (rowTab 55 10 rfl) (n := 122) (i := 102) (f := pas c) (by omega) W
  have p4 := fun c => run_part_row (P := Tryd.prog) (rowTab 55 10 rfl) (n := 122) (i := 112) (f := pas c) (by omega) W
  have q0 := run_equalIn_int (P := Tryd.prog) W 9998 29 .i8 .i8 (a 0) (b 0) Tryd.underlying29
  have q1 := run_equalIn_int (P := Tryd.prog) W 9998 29 .i8 .i8 (a 1) (b 1) Tryd.underlying29
  have q2 := run_equal_grass (fun k => pas a (2 + k)) (fun k => pas b (2 + k)) (fun k => a (2 + k)) (fun k => b (2 + k)) (fun k hk => pas_i16 a (by omega) (by omega)) (fun k hk => pas_i16 b (by omega) (by omega)) W 9996
  have q3 := run_equalIn_row (P := Tryd.prog) (n := 10) 9997 Tryd.underlying55 Tryd.underlying54 cells_u16 (fun k => pas a (102 + k)) (fun k => pas b (102 + k)) (fun k => a (102 + k)) (fun k => b (102 + k)) (fun k hk => pas_u16 a (by omega)) (fun k hk => pas_u16 b (by omega)) W
  have q4 := run_equalIn_row (P := Tryd.prog) (n := 10) 9997 Tryd.underlying55 Tryd.underlying54 cells_u16 (fun k => pas a (112 + k)) (fun k => pas b (112 + k)) (fun k => a (112 + k)) (fun k => b (112 + k)) (fun k hk => pas_u16 a (by omega)) (fun k hk => pas_u16 b (by omega)) W
  have e0 : ∀ c : Nat → Int, pas c 0 = .int .i8 (c 0) := fun _ => rfl
  have e1 : ∀ c : Nat → Int, pas c 1 = .int .i8 (c 1) := fun _ => rfl
  simp only [Op.eqFields, ne_eq, Sem.run_bind, p0, p1, p2, p3, p4, Result.andThen_ok, e0, e1, q0, q1, q2, q3, q4, Sem.run_pure, Sem.run_ite]
  have key : eqTo 122 a b = ((a 0 == b 0) && (a 1 == b 1) && eqTo 100 (fun k => a (2 + k)) (fun k => b (2 + k)) && eqTo 10 (fun k => a (102 + k)) (fun k => b (102 + k)) && eqTo 10 (fun k => a (112 + k)) (fun k => b (112 + k))) := by
    rw [Bool.eq_iff_iff]
    simp only [Bool.and_eq_true, eqTo_iff, beq_iff_eq]
    constructor
    · intro h
      exact ⟨⟨⟨⟨h 0 (by omega), h 1 (by omega)⟩, fun k hk => h _ (by omega)⟩, fun k hk => h _ (by omega)⟩, fun k hk => h _ (by omega)⟩
    · rintro ⟨⟨⟨⟨h0, h1⟩, h2⟩, h3⟩, h4⟩ k hk
      by_cases k0 : k = 0
      · rw [k0]; exact h0
      by_cases k1 : k = 1
      · rw [k1]; exact h1
      by_cases k2 : k < 102
      · have := h2 (k - 2) (by omega); rwa [show 2 + (k - 2) = k by omega] at this
      by_cases k3 : k < 112
      · have := h3 (k - 102) (by omega); rwa [show 102 + (k - 102) = k by omega] at this
      · have := h4 (k - 112) (by omega); rwa [show 112 + (k - 112) = k by omega] at this
  rw [key]
  cases (a 0 == b 0) <;> cases (a 1 == b 1) <;> cases eqTo 100 (fun k => a (2 + k)) (fun k => b (2 + k)) <;> cases eqTo 10 (fun k => a (102 + k)) (fun k => b (102 + k)) <;> cases eqTo 10 (fun k => a (112 + k)) (fun k => b (112 + k)) <;> simp
end Go.Proofs.YtcdpdcjdjcbhcaaDoor

/-
  '==' on spots.
-/
namespace Go.Proofs.YtcdpdcjdjcbhcaaDoor
open Go Go.RowKit Go.BigFrame

theorem run_equal_spot (x y x' y' : Int) (d : Nat) (W : World) :
    (Op.equalIn (d + 2) 82 (.agg (arr 2 (sp x y))) (.agg (arr 2 (sp x' y')))).run Tryd.prog W = .ok ((x == x') && (y == y')) W := by
  have hs := run_equalIn_struct (P := Tryd.prog) W (d + 1) 82 (arr 2 (sp x y)) (arr 2 (sp x' y')) (by rw [Program.fieldsOf, Tryd.underlying82]) (by kernel_rfl)
  rw [hs]
  have hf : (Tryd.prog.fieldsOf 82).toList = [
    { name := "X", type := 29, offset := 0, embedded := false, tag := "", pkgPath := "", byteOffset := 0 },
    { name := "Y", type := 29, offset := 1, embedded := false, tag := "", pkgPath := "", byteOffset := 1 }] := by
    rw [Program.fieldsOf, Tryd.underlying82]
  rw [hf]
  have p0 := fun c c' => run_part_cell (P := Tryd.prog) Tryd.underlying29 (n := 2) (i := 0) (f := sp c c') (by omega) W
  have p1 := fun c c' => run_part_cell (P := Tryd.prog) Tryd.underlying29 (n := 2) (i := 1) (f := sp c c') (by omega) W
  have q0 := run_equalIn_int (P := Tryd.prog) W d 29 .i8 .i8 x x' Tryd.underlying29
  have q1 := run_equalIn_int (P := Tryd.prog) W d 29 .i8 .i8 y y' Tryd.underlying29
  have e0 : ∀ c c' : Int, sp c c' 0 = .int .i8 c := fun _ _ => rfl
  have e1 : ∀ c c' : Int, sp c c' 1 = .int .i8 c' := fun _ _ => rfl
  simp only [Op.eqFields, ne_eq, Sem.run_bind, p0, p1, Result.andThen_ok, e0, e1, q0, q1, Sem.run_pure, Sem.run_ite]
  cases (x == x') <;> cases (y == y') <;> simp

theorem neq_spot (x y x' y' : Int) (W : World) : (binOp .neq 82 (.agg (arr 2 (sp x y))) (.agg (arr 2 (sp x' y')))).run Tryd.prog W = .ok (.bool (!((x == x') && (y == y')))) W := by
  rw [run_neq_struct, run_equal_spot]; rfl
theorem eql_spot (x y x' y' : Int) (W : World) : (binOp .eql 82 (.agg (arr 2 (sp x y))) (.agg (arr 2 (sp x' y')))).run Tryd.prog W = .ok (.bool ((x == x') && (y == y'))) W := by
  rw [run_eql_struct, run_equal_spot]; rfl
theorem build_spot0 (W : World) : (Instr.build 82 #[]).run Tryd.prog W = .ok (.agg (arr 2 (sp 0 0))) W := by kernel_rfl
end Go.Proofs.YtcdpdcjdjcbhcaaDoor

/-
  impl.isDiet by contract.
-/
namespace Go.Proofs.YtcdpdcjdjcbhcaaDoor
open Go Go.RowKit Go.BigFrame

def dietB (e l : Int) : Bool := inB 0 100 e && inB 0 1 l
theorem dietB_cases (e l : Int) : (inB 0 100 e = false ∧ dietB e l = false) ∨ (inB 0 100 e = true ∧ inB 0 1 l = false ∧ dietB e l = false) ∨ (inB 0 100 e = true ∧ inB 0 1 l = true ∧ dietB e l = true) := by
  cases h1 : inB 0 100 e <;> cases h2 : inB 0 1 l <;> simp [dietB, h1, h2]

set_option maxHeartbeats 400000 in
theorem isDiet_any (e l : Int) (w : World) :
    Calls Tryd.prog 130 #[.int .i64 e, .int .i64 l] w fun r w' => r = .returned (.bool (dietB e l)) ∧ Below w.heap.size w w' := by
  rcases (show e < 0 ∨ (0 ≤ e ∧ 100 < e) ∨ (0 ≤ e ∧ e ≤ 100) by omega) with r0 | ⟨r0, r1⟩ | ⟨r0, r1⟩
  · have hf : Hid (dietB e l = false) := Lib.hid (by simp [dietB, inB_no (show ¬ (0 ≤ e ∧ e ≤ 100) by omega)])
    have d0 : decide (0 ≤ e) = false := decide_eq_false (by omega)
    clear r0
    go_enter Tryd.func130, Tryd.ntmps130
    go_wp2
    go_ret
    exact ⟨ret_bool hf.out.symm, Below.refl _ _⟩
  · have hf : Hid (dietB e l = false) := Lib.hid (by simp [dietB, inB_no (show ¬ (0 ≤ e ∧ e ≤ 100) by omega)])
    have d0 : decide (0 ≤ e) = true := decide_eq_true (by omega)
    have d1 : decide (e ≤ 100) = false := decide_eq_false (by omega)
    clear r0 r1
    go_enter Tryd.func130, Tryd.ntmps130
    go_wp2
    go_ret
    exact ⟨ret_bool hf.out.symm, Below.refl _ _⟩
  have d0 : decide (0 ≤ e) = true := decide_eq_true (by omega)
  have d1 : decide (e ≤ 100) = true := decide_eq_true (by omega)
  have q0 := inB_yes (show 0 ≤ e ∧ e ≤ 100 by omega)
  clear r0 r1
  rcases (show l < 0 ∨ (0 ≤ l ∧ 1 < l) ∨ (0 ≤ l ∧ l ≤ 1) by omega) with r0 | ⟨r0, r1⟩ | ⟨r0, r1⟩
  · have hf : Hid (dietB e l = false) := Lib.hid (by simp [dietB, inB_no (show ¬ (0 ≤ l ∧ l ≤ 1) by omega)])
    have d2 : decide (0 ≤ l) = false := decide_eq_false (by omega)
    clear r0 q0
    go_enter Tryd.func130, Tryd.ntmps130
    go_wp2
    go_ret
    exact ⟨ret_bool hf.out.symm, Below.refl _ _⟩
  · have hf : Hid (dietB e l = false) := Lib.hid (by simp [dietB, inB_no (show ¬ (0 ≤ l ∧ l ≤ 1) by omega)])
    have d2 : decide (0 ≤ l) = true := decide_eq_true (by omega)
    have d3 : decide (l ≤ 1) = false := decide_eq_false (by omega)
    clear r0 r1 q0
    go_enter Tryd.func130, Tryd.ntmps130
    go_wp2
    go_ret
    exact ⟨ret_bool hf.out.symm, Below.refl _ _⟩
  · have hf : Hid (dietB e l = true) := Lib.hid (by simp [dietB, q0, inB_yes (show 0 ≤ l ∧ l ≤ 1 by omega)])
    have d2 : decide (0 ≤ l) = true := decide_eq_true (by omega)
    have d3 : decide (l ≤ 1) = true := decide_eq_true (by omega)
    clear r0 r1 q0
    go_enter Tryd.func130, Tryd.ntmps130
    go_wp2
    go_ret
    exact ⟨ret_bool hf.out.symm, Below.refl _ _⟩

end Go.Proofs.YtcdpdcjdjcbhcaaDoor

/-
  (impl.Pasture).hasCell by contract.
-/
namespace Go.Proofs.YtcdpdcjdjcbhcaaDoor
open Go Go.RowKit Go.BigFrame

set_option maxHeartbeats 4000000 in
theorem hasCell_any (g : Nat → Int) (x y : Int) (w : World) :
    Calls Tryd.prog 44 #[.agg (arr 122 (pas g)), .agg (arr 2 (sp x y))] w fun e w' => e = .returned (.bool (isB g x y)) ∧ Below w.heap.size w w' := by
  have hM := Mem.nil w
  have e0 : pas g 0 = .int .i8 (g 0) := rfl
  have e1 : pas g 1 = .int .i8 (g 1) := rfl
  have e2 : sp x y 0 = .int .i8 x := rfl
  have e3 : sp x y 1 = .int .i8 y := rfl
  have tk_b1 : True := trivial; have tk_b2 : True := trivial
  rcases (show x < 0 ∨ (0 ≤ x ∧ g 0 ≤ x) ∨ (0 ≤ x ∧ x < g 0) by omega) with r0 | ⟨r0, r1⟩ | ⟨r0, r1⟩
  · have hf : Hid (isB g x y = false) := Lib.hid (by simp [isB, inB_no (show ¬ (0 ≤ x ∧ x ≤ g 0 - 1) by omega)])
    have d0 : decide (0 ≤ x) = false := decide_eq_false (by omega)
    clear r0
    go_enter Tryd.func44, Tryd.ntmps44
    go_wp2_with (first | (have _t := tk_b1; refine wpList_box rfl _ _ rfl _ _ rfl hM ?_; intro b1 W' hb1 hM'; clear hM tk_b1; have hM := hM'; clear hM') | (have _t := tk_b2; refine wpList_box rfl _ _ rfl _ _ rfl hM ?_; intro b2 W' hb2 hM'; clear hM tk_b2; have hM := hM'; clear hM') | (refine wpList_get1 rfl _ _ rfl _ _ rfl hM 0 rfl (cellTab _ rfl) (by omega) _ rfl ?_) | (refine wpList_get1 rfl _ _ rfl _ _ rfl hM 1 rfl (cellTab _ rfl) (by omega) _ rfl ?_) | (refine wpList_gget1 ?_ _ _ rfl _ _ rfl hM 0 rfl (cellTab _ rfl) (by omega) _ rfl ?_; kernel_rfl) | (refine wpList_gget1 ?_ _ _ rfl _ _ rfl hM 1 rfl (cellTab _ rfl) (by omega) _ rfl ?_; kernel_rfl))
    go_ret
    exact ⟨ret_bool hf.out.symm, hM.below⟩
  · have hf : Hid (isB g x y = false) := Lib.hid (by simp [isB, inB_no (show ¬ (0 ≤ x ∧ x ≤ g 0 - 1) by omega)])
    have d0 : decide (0 ≤ x) = true := decide_eq_true (by omega)
    have d1 : decide (x < g 0) = false := decide_eq_false (by omega)
    clear r0 r1
    go_enter Tryd.func44, Tryd.ntmps44
    go_wp2_with (first | (have _t := tk_b1; refine wpList_box rfl _ _ rfl _ _ rfl hM ?_; intro b1 W' hb1 hM'; clear hM tk_b1; have hM := hM'; clear hM') | (have _t := tk_b2; refine wpList_box rfl _ _ rfl _ _ rfl hM ?_; intro b2 W' hb2 hM'; clear hM tk_b2; have hM := hM'; clear hM') | (refine wpList_get1 rfl _ _ rfl _ _ rfl hM 0 rfl (cellTab _ rfl) (by omega) _ rfl ?_) | (refine wpList_get1 rfl _ _ rfl _ _ rfl hM 1 rfl (cellTab _ rfl) (by omega) _ rfl ?_) | (refine wpList_gget1 ?_ _ _ rfl _ _ rfl hM 0 rfl (cellTab _ rfl) (by omega) _ rfl ?_; kernel_rfl) | (refine wpList_gget1 ?_ _ _ rfl _ _ rfl hM 1 rfl (cellTab _ rfl) (by omega) _ rfl ?_; kernel_rfl))
    go_ret
    exact ⟨ret_bool hf.out.symm, hM.below⟩
  have d0 : decide (0 ≤ x) = true := decide_eq_true (by omega)
  have d1 : decide (x < g 0) = true := decide_eq_true (by omega)
  have q0 := inB_yes (show 0 ≤ x ∧ x ≤ g 0 - 1 by omega)
  clear r0 r1
  rcases (show y < 0 ∨ (0 ≤ y ∧ g 1 ≤ y) ∨ (0 ≤ y ∧ y < g 1) by omega) with r0 | ⟨r0, r1⟩ | ⟨r0, r1⟩
  · have hf : Hid (isB g x y = false) := Lib.hid (by simp [isB, inB_no (show ¬ (0 ≤ y ∧ y ≤ g 1 - 1) by omega)])
    have d2 : decide (0 ≤ y) = false := decide_eq_false (by omega)
    clear r0 q0
    go_enter Tryd.func44, Tryd.ntmps44
    go_wp2_with (first | (have _t := tk_b1; refine wpList_box rfl _ _ rfl _ _ rfl hM ?_; intro b1 W' hb1 hM'; clear hM tk_b1; have hM := hM'; clear hM') | (have _t := tk_b2; refine wpList_box rfl _ _ rfl _ _ rfl hM ?_; intro b2 W' hb2 hM'; clear hM tk_b2; have hM := hM'; clear hM') | (refine wpList_get1 rfl _ _ rfl _ _ rfl hM 0 rfl (cellTab _ rfl) (by omega) _ rfl ?_) | (refine wpList_get1 rfl _ _ rfl _ _ rfl hM 1 rfl (cellTab _ rfl) (by omega) _ rfl ?_) | (refine wpList_gget1 ?_ _ _ rfl _ _ rfl hM 0 rfl (cellTab _ rfl) (by omega) _ rfl ?_; kernel_rfl) | (refine wpList_gget1 ?_ _ _ rfl _ _ rfl hM 1 rfl (cellTab _ rfl) (by omega) _ rfl ?_; kernel_rfl))
    go_ret
    exact ⟨ret_bool hf.out.symm, hM.below⟩
  · have hf : Hid (isB g x y = false) := Lib.hid (by simp [isB, inB_no (show ¬ (0 ≤ y ∧ y ≤ g 1 - 1) by omega)])
    have d2 : decide (0 ≤ y) = true := decide_eq_true (by omega)
    have d3 : decide (y < g 1) = false := decide_eq_false (by omega)
    clear r0 r1 q0
    go_enter Tryd.func44, Tryd.ntmps44
    go_wp2_with (first | (have _t := tk_b1; refine wpList_box rfl _ _ rfl _ _ rfl hM ?_; intro b1 W' hb1 hM'; clear hM tk_b1; have hM := hM'; clear hM') | (have _t := tk_b2; refine wpList_box rfl _ _ rfl _ _ rfl hM ?_; intro b2 W' hb2 hM'; clear hM tk_b2; have hM := hM'; clear hM') | (refine wpList_get1 rfl _ _ rfl _ _ rfl hM 0 rfl (cellTab _ rfl) (by omega) _ rfl ?_) | (refine wpList_get1 rfl _ _ rfl _ _ rfl hM 1 rfl (cellTab _ rfl) (by omega) _ rfl ?_) | (refine wpList_gget1 ?_ _ _ rfl _ _ rfl hM 0 rfl (cellTab _ rfl) (by omega) _ rfl ?_; kernel_rfl) | (refine wpList_gget1 ?_ _ _ rfl _ _ rfl hM 1 rfl (cellTab _ rfl) (by omega) _ rfl ?_; kernel_rfl))
    go_ret
    exact ⟨ret_bool hf.out.symm, hM.below⟩
  · have hf : Hid (isB g x y = true) := Lib.hid (by simp [isB, q0, inB_yes (show 0 ≤ y ∧ y ≤ g 1 - 1 by omega)])
    have d2 : decide (0 ≤ y) = true := decide_eq_true (by omega)
    have d3 : decide (y < g 1) = true := decide_eq_true (by omega)
    clear r0 r1 q0
    go_enter Tryd.func44, Tryd.ntmps44
    go_wp2_with (first | (have _t := tk_b1; refine wpList_box rfl _ _ rfl _ _ rfl hM ?_; intro b1 W' hb1 hM'; clear hM tk_b1; have hM := hM'; clear hM') | (have _t := tk_b2; refine wpList_box rfl _ _ rfl _ _ rfl hM ?_; intro b2 W' hb2 hM'; clear hM tk_b2; have hM := hM'; clear hM') | (refine wpList_get1 rfl _ _ rfl _ _ rfl hM 0 rfl (cellTab _ rfl) (by omega) _ rfl ?_) | (refine wpList_get1 rfl _ _ rfl _ _ rfl hM 1 rfl (cellTab _ rfl) (by omega) _ rfl ?_) | (refine wpList_gget1 ?_ _ _ rfl _ _ rfl hM 0 rfl (cellTab _ rfl) (by omega) _ rfl ?_; kernel_rfl) | (refine wpList_gget1 ?_ _ _ rfl _ _ rfl hM 1 rfl (cellTab _ rfl) (by omega) _ rfl ?_; kernel_rfl))
    go_ret
    exact ⟨ret_bool hf.out.symm, hM.below⟩

theorem sp_of {f : Nat → Value} {x y : Int} (h0 : f 0 = .int .i8 x) (h1 : f 1 = .int .i8 y) : arr 2 f = arr 2 (sp x y) := arr_congr fun k hk => by
  rcases (show k = 0 ∨ k = 1 by omega) with rfl | rfl
  · exact h0
  · exact h1
/-- The same over any two cells that hold the spot. -/
theorem hasCell_of (g : Nat → Int) (f : Nat → Value) (x y : Int) (h0 : f 0 = .int .i8 x) (h1 : f 1 = .int .i8 y) (w : World) :
    Calls Tryd.prog 44 #[.agg (arr 122 (pas g)), .agg (arr 2 f)] w fun e w' => e = .returned (.bool (isB g x y)) ∧ Below w.heap.size w w' := by
  rw [sp_of h0 h1]
  exact hasCell_any g x y w
end Go.Proofs.YtcdpdcjdjcbhcaaDoor

/-
  The square of two spots; (impl.Spot).squareTo by contract.
-/
namespace Go.Proofs.YtcdpdcjdjcbhcaaDoor
open Go Go.RowKit Go.BigFrame

theorem ret_int {a b : Int} (h : a = b) : Ending.returned (.int .i64 a) = .returned (.int .i64 b) := by rw [h]
/-- The square of two spots. -/
def sqI (x y u v : Int) : Int := (x - u) * (x - u) + (y - v) * (y - v)
theorem sq_in {d : Int} (h : -255 ≤ d ∧ d ≤ 255) : 0 ≤ d * d ∧ d * d ≤ 65025 := by
  rw [← Int.natAbs_mul_self]
  have h1 : d.natAbs ≤ 255 := by omega
  have h2 := Nat.mul_le_mul h1 h1
  omega

end Go.Proofs.YtcdpdcjdjcbhcaaDoor

/-
  Goats that are as told: spec.l02Square, l02Plain, l02Goat; (impl.Goat).isFree, isToldFor, reaches, (impl.Spot).squareTo, by contracts.
-/
namespace Go.Proofs.YtcdpdcjdjcbhcaaDoor
open Go Go.RowKit Go.BigFrame

/-- A goat's numbers are as told, but for its place. -/
def plainG (h : Nat → Int) : Bool := inB (-1) 200 (h 4) && inB 0 100 (h 5) && inB 0 1 (h 6) && (decide (0 ≤ h 4) || (h 2 == 0 && h 3 == 0))
/-- Is a goat valid for a pasture that is? -/
def goatB (g h : Nat → Int) : Bool := plainG h && isB g (h 0) (h 1) && isB g (h 2) (h 3) && (decide (h 4 < 0) || decide (sqI (h 0) (h 1) (h 2) (h 3) ≤ h 4))
theorem plainG_cases (h : Nat → Int) : (inB (-1) 200 (h 4) = false ∧ plainG h = false) ∨ (inB (-1) 200 (h 4) = true ∧ inB 0 100 (h 5) = false ∧ plainG h = false) ∨ (inB (-1) 200 (h 4) = true ∧ inB 0 100 (h 5) = true ∧ inB 0 1 (h 6) = false ∧ plainG h = false) ∨
    (inB (-1) 200 (h 4) = true ∧ inB 0 100 (h 5) = true ∧ inB 0 1 (h 6) = true ∧ 0 ≤ h 4 ∧ plainG h = true) ∨ (inB (-1) 200 (h 4) = true ∧ inB 0 100 (h 5) = true ∧ inB 0 1 (h 6) = true ∧ ¬ 0 ≤ h 4 ∧ plainG h = (h 2 == 0 && h 3 == 0)) := by
  unfold plainG
  cases h1 : inB (-1) 200 (h 4)
  · simp
  cases h2 : inB 0 100 (h 5)
  · simp
  cases h3 : inB 0 1 (h 6)
  · simp
  by_cases h4 : 0 ≤ h 4
  · simp [h4]
  · simp [h4]

theorem at_spot {h : Nat → Int} {f : Nat → Value} {o : Nat} (hfo : ∀ j, j < 7 → f (o + j) = gt h j) (k : Nat) (hk : k + 2 ≤ 4) : arr 2 (fun j => f (o + k + j)) = arr 2 (sp (h k) (h (k + 1))) := by
  rw [← gt_sp hk]
  exact arr_congr fun j hj => by rw [Nat.add_assoc]; exact hfo _ (by omega)

set_option maxRecDepth 100000 in
set_option maxHeartbeats 1000000 in
theorem l02Plain_any (h : Nat → Int) (hF : FitsG h) (b N o : Nat) (f : Nat → Value) (hfo : ∀ j, j < 7 → f (o + j) = gt h j) (hle : o + 7 ≤ N) (w : World) (hB : At w b N f) :
    Calls Tryd.prog 109 #[.pointer (some ⟨b, o, none⟩)] w fun e w' => e = .returned (.bool (plainG h)) ∧ Below w.heap.size w w' := by
  have hM : Mem w [(b, N, f)] w := (Mem.nil w).old hB (fun i p h => by simp at h)
  have e2 : arr 2 (fun j => f (o + 2 + j)) = arr 2 (sp (h 2) (h 3)) := at_spot hfo 2 (by omega)
  have e4 : f (o + 4) = .int .i16 (h 4) := hfo 4 (by omega)
  have e5 : f (o + 5) = .int .i16 (h 5) := hfo 5 (by omega)
  have e6 : f (o + 6) = .int .i8 (h 6) := hfo 6 (by omega)
  have m4 := hF.mid 4 (by omega) (by omega)
  have m5 := hF.mid 5 (by omega) (by omega)
  have m6 := hF.hi
  have c4 : IntKind.i64.wrap (h 4) = h 4 := IntWalk.i64_in _ (by omega)
  have c5 : IntKind.i64.wrap (h 5) = h 5 := IntWalk.i64_in _ (by omega)
  have c6 : IntKind.i64.wrap (h 6) = h 6 := IntWalk.i64_in _ (by omega)
  have qe1 : ∀ W, (binOp .eql 82 (.agg (arr 2 (sp (h 2) (h 3)))) (.agg #[.int .i8 0, .int .i8 0])).run Tryd.prog W = .ok (.bool ((h 2 == 0) && (h 3 == 0))) W := fun W => eql_spot (h 2) (h 3) 0 0 W
  have qe2 : ∀ W, (Op.equalIn 10000 82 (.agg (arr 2 (sp (h 2) (h 3)))) (.agg #[.int .i8 0, .int .i8 0])).run Tryd.prog W = .ok ((h 2 == 0) && (h 3 == 0)) W := fun W => run_equal_spot (h 2) (h 3) 0 0 9998 W
  have Hfo := Lib.hid hfo
  clear hfo hF hB
  rcases plainG_cases h with ⟨h1, hp⟩ | ⟨h1, h2, hp⟩ | ⟨h1, h2, h3, hp⟩ | ⟨h1, h2, h3, h4, hp⟩ | ⟨h1, h2, h3, h4, hp⟩
  · have Hp := Lib.hid hp
    have H1 := Lib.hid h1
    clear hp h1
    go_enter Tryd.func109, Tryd.ntmps109
    go_wp2_with (first | (refine wpList_get1 rfl _ _ rfl _ _ rfl hM 0 rfl (cellTab _ rfl) (by omega) _ e4 ?_) | (go_at_call 93; (with_reducible refine (l00In_any (h 4) _ _ _).mono ?_); rintro e W' ⟨rfl, hb'⟩; rw [H1.out]; have hM' := hM.call hb'; clear hM hb'; have hM := hM'; clear hM'))
    go_ret
    exact ⟨ret_bool Hp.out.symm, hM.below⟩
  · have Hp := Lib.hid hp
    have H1 := Lib.hid h1
    have H2 := Lib.hid h2
    clear hp h1 h2
    go_enter Tryd.func109, Tryd.ntmps109
    go_wp2_with (first | (refine wpList_get1 rfl _ _ rfl _ _ rfl hM 0 rfl (cellTab _ rfl) (by omega) _ e4 ?_) | (refine wpList_gget1 ?_ _ _ rfl _ _ rfl hM 0 rfl (cellTab _ rfl) (by omega) _ e5 ?_; kernel_rfl) | (go_at_call 93; (with_reducible refine (l00In_any (h 4) _ _ _).mono ?_); rintro e W' ⟨rfl, hb'⟩; rw [H1.out]; have hM' := hM.call hb'; clear hM hb'; have hM := hM'; clear hM') | (go_at_call 93; (with_reducible refine (l00In_any (h 5) _ _ _).mono ?_); rintro e W' ⟨rfl, hb'⟩; rw [H2.out]; have hM' := hM.call hb'; clear hM hb'; have hM := hM'; clear hM'))
    go_ret
    exact ⟨ret_bool Hp.out.symm, hM.below⟩
  · have Hp := Lib.hid hp
    have H1 := Lib.hid h1
    have H2 := Lib.hid h2
    have H3 := Lib.hid h3
    clear hp h1 h2 h3
    go_enter Tryd.func109, Tryd.ntmps109
    go_wp2_with (first | (refine wpList_get1 rfl _ _ rfl _ _ rfl hM 0 rfl (cellTab _ rfl) (by omega) _ e4 ?_) | (refine wpList_gget1 ?_ _ _ rfl _ _ rfl hM 0 rfl (cellTab _ rfl) (by omega) _ e5 ?_; kernel_rfl) | (refine wpList_gget1 ?_ _ _ rfl _ _ rfl hM 0 rfl (cellTab _ rfl) (by omega) _ e6 ?_; kernel_rfl) | (go_at_call 93; (with_reducible refine (l00In_any (h 4) _ _ _).mono ?_); rintro e W' ⟨rfl, hb'⟩; rw [H1.out]; have hM' := hM.call hb'; clear hM hb'; have hM := hM'; clear hM') | (go_at_call 93; (with_reducible refine (l00In_any (h 5) _ _ _).mono ?_); rintro e W' ⟨rfl, hb'⟩; rw [H2.out]; have hM' := hM.call hb'; clear hM hb'; have hM := hM'; clear hM') | (go_at_call 93; (with_reducible refine (l00In_any (h 6) _ _ _).mono ?_); rintro e W' ⟨rfl, hb'⟩; rw [H3.out]; have hM' := hM.call hb'; clear hM hb'; have hM := hM'; clear hM'))
    go_ret
    exact ⟨ret_bool Hp.out.symm, hM.below⟩
  · have Hp := Lib.hid hp
    have H1 := Lib.hid h1
    have H2 := Lib.hid h2
    have H3 := Lib.hid h3
    have d4 : decide (0 ≤ h 4) = true := decide_eq_true h4
    clear hp h1 h2 h3 h4
    go_enter Tryd.func109, Tryd.ntmps109
    go_wp2_with (first | (refine wpList_get1 rfl _ _ rfl _ _ rfl hM 0 rfl (cellTab _ rfl) (by omega) _ e4 ?_) | (refine wpList_gget1 ?_ _ _ rfl _ _ rfl hM 0 rfl (cellTab _ rfl) (by omega) _ e5 ?_; kernel_rfl) | (refine wpList_gget1 ?_ _ _ rfl _ _ rfl hM 0 rfl (cellTab _ rfl) (by omega) _ e6 ?_; kernel_rfl) | (go_at_call 93; (with_reducible refine (l00In_any (h 4) _ _ _).mono ?_); rintro e W' ⟨rfl, hb'⟩; rw [H1.out]; have hM' := hM.call hb'; clear hM hb'; have hM := hM'; clear hM') | (go_at_call 93; (with_reducible refine (l00In_any (h 5) _ _ _).mono ?_); rintro e W' ⟨rfl, hb'⟩; rw [H2.out]; have hM' := hM.call hb'; clear hM hb'; have hM := hM'; clear hM') | (go_at_call 93; (with_reducible refine (l00In_any (h 6) _ _ _).mono ?_); rintro e W' ⟨rfl, hb'⟩; rw [H3.out]; have hM' := hM.call hb'; clear hM hb'; have hM := hM'; clear hM'))
    go_ret
    exact ⟨ret_bool Hp.out.symm, hM.below⟩
  · have Hp := Lib.hid hp
    have H1 := Lib.hid h1
    have H2 := Lib.hid h2
    have H3 := Lib.hid h3
    have d4 : decide (0 ≤ h 4) = false := decide_eq_false h4
    clear hp h1 h2 h3 h4
    go_enter Tryd.func109, Tryd.ntmps109
    go_wp2_with (first | (refine wpList_get1 rfl _ _ rfl _ _ rfl hM 0 rfl (cellTab _ rfl) (by omega) _ e4 ?_) | (refine wpList_gget1 ?_ _ _ rfl _ _ rfl hM 0 rfl (cellTab _ rfl) (by omega) _ e5 ?_; kernel_rfl) | (refine wpList_gget1 ?_ _ _ rfl _ _ rfl hM 0 rfl (cellTab _ rfl) (by omega) _ e6 ?_; kernel_rfl) | (refine wpList_gget ?_ _ _ rfl _ _ rfl hM 0 rfl (rowTab _ 2 rfl) (by omega) ?_; (kernel_rfl); (rw [e2])) | (go_at_call 93; (with_reducible refine (l00In_any (h 4) _ _ _).mono ?_); rintro e W' ⟨rfl, hb'⟩; rw [H1.out]; have hM' := hM.call hb'; clear hM hb'; have hM := hM'; clear hM') | (go_at_call 93; (with_reducible refine (l00In_any (h 5) _ _ _).mono ?_); rintro e W' ⟨rfl, hb'⟩; rw [H2.out]; have hM' := hM.call hb'; clear hM hb'; have hM := hM'; clear hM') | (go_at_call 93; (with_reducible refine (l00In_any (h 6) _ _ _).mono ?_); rintro e W' ⟨rfl, hb'⟩; rw [H3.out]; have hM' := hM.call hb'; clear hM hb'; have hM := hM'; clear hM'))
    go_ret
    exact ⟨ret_bool Hp.out.symm, hM.below⟩
end Go.Proofs.YtcdpdcjdjcbhcaaDoor

/-
  Goats that are valid: spec.l02Goat; (impl.Goat).isFree, isToldFor, reaches, by contracts.
-/
namespace Go.Proofs.YtcdpdcjdjcbhcaaDoor
open Go Go.RowKit Go.BigFrame

theorem goatB_cases (g h : Nat → Int) : (plainG h = false ∧ goatB g h = false) ∨ (plainG h = true ∧ isB g (h 0) (h 1) = false ∧ goatB g h = false) ∨ (plainG h = true ∧ isB g (h 0) (h 1) = true ∧ isB g (h 2) (h 3) = false ∧ goatB g h = false) ∨
    (plainG h = true ∧ isB g (h 0) (h 1) = true ∧ isB g (h 2) (h 3) = true ∧ h 4 < 0 ∧ goatB g h = true) ∨ (plainG h = true ∧ isB g (h 0) (h 1) = true ∧ isB g (h 2) (h 3) = true ∧ ¬ h 4 < 0 ∧ goatB g h = decide (sqI (h 0) (h 1) (h 2) (h 3) ≤ h 4)) := by
  unfold goatB
  cases h1 : plainG h
  · simp
  cases h2 : isB g (h 0) (h 1)
  · simp
  cases h3 : isB g (h 2) (h 3)
  · simp
  by_cases h4 : h 4 < 0
  · simp [h4]
  · simp [h4]

def told0 (h : Nat → Int) : Bool := h 2 == 0 && h 3 == 0
/-- As the program asks it. -/
def toldB (g h : Nat → Int) : Bool := isB g (h 0) (h 1) && isB g (h 2) (h 3) && !(h 4 == -1 && !told0 h) && (decide (-1 ≤ h 4) && decide (h 4 ≤ 200)) && dietB (h 5) (h 6)
def reachB (h : Nat → Int) (x y : Int) : Bool := h 4 == -1 || decide (sqI x y (h 2) (h 3) ≤ h 4)
theorem goatB_eq (g h : Nat → Int) : goatB g h = (toldB g h && reachB h (h 0) (h 1)) := by
  unfold goatB toldB reachB plainG dietB told0 inB
  cases h1 : isB g (h 0) (h 1)
  · simp
  cases h2 : isB g (h 2) (h 3)
  · simp
  cases h3 : (h 2 == 0 && h 3 == 0) <;> cases h5 : decide (0 ≤ h 5 ∧ h 5 ≤ 100) <;> cases h6 : decide (0 ≤ h 6 ∧ h 6 ≤ 1) <;> rw [Bool.eq_iff_iff] <;> simp <;> omega

set_option maxHeartbeats 400000 in
theorem isFree_any (h : Nat → Int) (w : World) :
    Calls Tryd.prog 129 #[.agg (arr 7 (gt h))] w fun e w' => e = .returned (.bool (h 4 == -1)) ∧ Below w.heap.size w w' := by
  have hM := Mem.nil w
  have e4 : gt h 4 = .int .i16 (h 4) := rfl
  have tk_b1 : True := trivial
  by_cases hq : h 4 = -1
  · have hf : Hid ((h 4 == -1) = true) := Lib.hid (by simp [hq])
    go_enter Tryd.func129, Tryd.ntmps129
    go_wp2_with (first | (have _t := tk_b1; refine wpList_box rfl _ _ rfl _ _ rfl hM ?_; intro b1 W' hb1 hM'; clear hM tk_b1; have hM := hM'; clear hM') | (refine wpList_get1 rfl _ _ rfl _ _ rfl hM 0 rfl (cellTab _ rfl) (by omega) _ rfl ?_))
    go_ret
    first | exact ⟨ret_bool hf.out.symm, hM.below⟩ | exact ⟨rfl, hM.below⟩
  · have hf : Hid ((h 4 == -1) = false) := Lib.hid (by simp [hq])
    go_enter Tryd.func129, Tryd.ntmps129
    go_wp2_with (first | (have _t := tk_b1; refine wpList_box rfl _ _ rfl _ _ rfl hM ?_; intro b1 W' hb1 hM'; clear hM tk_b1; have hM := hM'; clear hM') | (refine wpList_get1 rfl _ _ rfl _ _ rfl hM 0 rfl (cellTab _ rfl) (by omega) _ rfl ?_))
    go_ret
    first | exact ⟨ret_bool hf.out.symm, hM.below⟩ | exact ⟨rfl, hM.below⟩
end Go.Proofs.YtcdpdcjdjcbhcaaDoor

/-
  (impl.Goat).isToldFor, reaches by contracts.
-/
namespace Go.Proofs.YtcdpdcjdjcbhcaaDoor
open Go Go.RowKit Go.BigFrame

theorem told0_eq (h : Nat → Int) : (h 2 == 0 && h 3 == 0) = told0 h := rfl
theorem toldB_cases (g h : Nat → Int) : (isB g (h 0) (h 1) = false ∧ toldB g h = false) ∨ (isB g (h 0) (h 1) = true ∧ isB g (h 2) (h 3) = false ∧ toldB g h = false) ∨
    (isB g (h 0) (h 1) = true ∧ isB g (h 2) (h 3) = true ∧ (h 4 == -1) = true ∧ told0 h = false ∧ toldB g h = false) ∨
    (isB g (h 0) (h 1) = true ∧ isB g (h 2) (h 3) = true ∧ ((h 4 == -1) = false ∨ told0 h = true) ∧ h 4 < -1 ∧ toldB g h = false) ∨
    (isB g (h 0) (h 1) = true ∧ isB g (h 2) (h 3) = true ∧ ((h 4 == -1) = false ∨ told0 h = true) ∧ 200 < h 4 ∧ toldB g h = false) ∨
    (isB g (h 0) (h 1) = true ∧ isB g (h 2) (h 3) = true ∧ ((h 4 == -1) = false ∨ told0 h = true) ∧ (-1 ≤ h 4 ∧ h 4 ≤ 200) ∧ toldB g h = dietB (h 5) (h 6)) := by
  unfold toldB
  cases h1 : isB g (h 0) (h 1)
  · simp
  cases h2 : isB g (h 2) (h 3)
  · simp
  cases h4 : (h 4 == -1) <;> cases h5 : told0 h <;> simp <;> (simp at h4) <;> (by_cases h6 : h 4 < -1) <;> (by_cases h7 : 200 < h 4) <;> (try simp [h6, h7]) <;> (try omega)
end Go.Proofs.YtcdpdcjdjcbhcaaDoor

