/-
  Several texts in one: SpotS, WalkSpec, WalkL, Lit1, StepsOf, All.
-/
import Derived.Test.YtbmaljhnldepoaaDoorP9
import Derived.Test.YtbmaljhnldepoaaDoorP4
import Derived.Test.YtbmaljhnldepoaaDoorP6
import Derived.Test.YtbmaljhnldepoaaDoorP7
import Derived.Laws.MakeOwn
/-
  Lists of spots: an argument opened to cells; laws.szSpotS, laws.toSpotS, laws.eqSpotS by contracts.
-/
namespace Go.Proofs.YtbmaljhnldepoaaDoor
open Go Go.RowKit Go.BigFrame Go.ChangeShapes Go.WideShapes Go.Deep

/-- A spot's numbers fit their kind. -/
def FitsS (p : Int × Int) : Prop := (-128 ≤ p.1 ∧ p.1 ≤ 127) ∧ (-128 ≤ p.2 ∧ p.2 ≤ 127)
def SpotArg (W : World) (v : Value) (n : Nat) (s : Nat → Int × Int) : Prop :=
  (n = 0 ∧ v = .slice none 0 0) ∨ ∃ b o c, v = .slice (some ⟨b, o, none⟩) n c ∧ Lies W b o (n * 2) (sps s)
theorem SpotArg.below {w W : World} {v : Value} {n : Nat} {s : Nat → Int × Int} (h : SpotArg w v n s) (hb : Below w.heap.size w W) : SpotArg W v n s := by
  rcases h with h | ⟨b, o, c, e, h⟩
  · exact .inl h
  · exact .inr ⟨b, o, c, e, h.below hb⟩
section
variable {H : Type} {enc : TypeId × Value → H} {w : World} {base : Nat} {spare : Nat → Bool} {held : Bool}
set_option maxRecDepth 100000 in
/-- A list of spots out of its type and its reading. -/
theorem open_spots {t : TypeId} (ht : Tryd.prog.underlying t = some (.slice 31)) {b0 : Nat} {v : Value} {d : DataW H} {p : List MemPlace} (hval : Value.okWide Tryd.prog w .any b0 t v) (h : DataW.Trod enc Tryd.prog w base spare held t v d p) :
    ∃ n s, n ≤ maxLen ∧ (∀ i, i < n → FitsS (s i)) ∧ SpotArg w v n s := by
  obtain ⟨fuel, h⟩ := h
  have e : Tryd.prog.cellsOf 31 = 2 := by kernel_rfl
  obtain ⟨sa, sl, sc, rfl⟩ := okWide_slice ht hval
  rcases open_slice ht h with ⟨h1, -⟩ | ⟨a, len, cap, m, n, D, Pl, hcs, hb, hl, hm, hmm, -, hi⟩
  · simp only [Value.cells] at h1
    obtain ⟨rfl, rfl, rfl⟩ : sa = none ∧ sl = 0 ∧ sc = 0 := by simpa using h1
    exact ⟨0, fun _ => (0, 0), by decide, fun i hi => absurd hi (by omega), .inl ⟨rfl, rfl⟩⟩
  · obtain ⟨e1, e2, e3⟩ : sa = some a ∧ sl = len ∧ sc = cap := by simpa [Value.cells] using hcs
    subst e1 e2 e3
    have hlen : sl ≤ m := by rw [hmm]; split <;> omega
    rw [e] at hi
    have key : ∀ i, ∃ g : Int × Int, i < sl → (FitsS g ∧ ∀ j, j < 2 → w.cell? (a.add (i * 2 + j)) = some (sp g.1 g.2 j)) := fun i => by
      by_cases hil : i < sl
      · obtain ⟨cs', hc, ht'⟩ := hi i (by omega)
        obtain ⟨p, q, hg, fp, fq⟩ := spot_cells ht'
        obtain ⟨-, -, hat⟩ := World.cells?_some hc
        refine ⟨(p, q), fun _ => ⟨⟨fp, fq⟩, fun j hj => ?_⟩⟩
        have := hat j hj
        rw [← Go.Deep.add_add] 
        rw [this, hg]
        rcases (show j = 0 ∨ j = 1 by omega) with rfl | rfl <;> rfl
      · exact ⟨(0, 0), fun h => absurd h hil⟩
    have hspot : a.spot = none := by
      unfold Value.okWide at hval
      rw [ht] at hval
      simp only [Cell.okWide, Cell.ok, ht] at hval
      exact hval.2.2.2.1
    obtain ⟨ab, ao, asp⟩ := a
    simp only at hspot
    subst hspot
    refine ⟨sl, fun i => (key i).choose, by omega, fun i hil => ((key i).choose_spec hil).1, .inr ⟨ab, ao, sc, rfl, fun k hk => ?_⟩⟩
    have hki := ((key (k / 2)).choose_spec (by omega)).2 (k % 2) (by omega)
    rw [show k / 2 * 2 + k % 2 = k by omega] at hki
    have e2 : (⟨ab, ao, none⟩ : Addr).add k = ⟨ab, ao + k, none⟩ := by
      unfold Addr.add
      by_cases h0 : k = 0
      · simp [h0]
      · simp [h0]
    rw [e2] at hki
    have hs := sps_row (fun i => (key i).choose) (k / 2) (k % 2) (by omega)
    rw [show k / 2 * 2 + k % 2 = k by omega] at hs
    rw [hki, hs]
end

theorem szSpotS_no (v : Value) (n : Nat) (s : Nat → Int × Int) (left : Int) (hn : n ≤ maxLen) (hl : left < n) (h0 : 0 ≤ left) (hl2 : left ≤ 1048576) (w : World) (h : SpotArg w v n s) :
    Calls Tryd.prog 34 #[v, .int .i64 left] w fun e w' => e = .returned (.int .i64 (-1)) ∧ Below w.heap.size w w' := by
  unfold maxLen at hn
  rcases h with ⟨rfl, rfl⟩ | ⟨b, o, c, rfl, h⟩
  · omega
  · have c1 : IntKind.i64.wrap (left - n) = left - n := IntWalk.i64_in _ (by omega)
    have d1 : decide (left - n < 0) = true := decide_eq_true (by omega)
    clear h
    go_enter Tryd.func34, Tryd.ntmps34
    go_wp2
    go_ret
    exact ⟨rfl, Below.refl _ _⟩
theorem szSpotS_yes (v : Value) (n : Nat) (s : Nat → Int × Int) (left : Int) (hl : (n : Int) ≤ left) (hl2 : left ≤ 1048576) (w : World) (h : SpotArg w v n s) :
    Calls Tryd.prog 34 #[v, .int .i64 left] w fun e w' => e = .returned (.int .i64 (left - n)) ∧ Below w.heap.size w w' := by
  rcases h with ⟨rfl, rfl⟩ | ⟨b, o, c, rfl, h⟩
  · have c1 : IntKind.i64.wrap left = left := IntWalk.i64_in _ (by omega)
    have d1 : decide (left < 0) = false := decide_eq_false (by omega)
    go_enter Tryd.func34, Tryd.ntmps34
    go_wp2
    go_ret
    exact ⟨by simp, Below.refl _ _⟩
  · have c1 : IntKind.i64.wrap (left - n) = left - n := IntWalk.i64_in _ (by omega)
    have d1 : decide (left - n < 0) = false := decide_eq_false (by omega)
    clear h
    go_enter Tryd.func34, Tryd.ntmps34
    go_wp2
    go_ret
    exact ⟨rfl, Below.refl _ _⟩

/-- A new list of spots. -/
def GivenS (n : Nat) (s : Nat → Int × Int) (w : World) (e : Ending) (w' : World) : Prop := ∃ b, e = .returned (.slice (some ⟨b, 0, none⟩) n n) ∧ w.heap.size ≤ b ∧ At w' b (n * 2) (sps s) ∧ Below w.heap.size w w'
set_option maxRecDepth 100000 in
set_option maxHeartbeats 1000000 in
theorem toSpotS_any (v : Value) (n : Nat) (s : Nat → Int × Int) (hn : n ≤ 1048576) (w : World) (h : SpotArg w v n s) : Calls Tryd.prog 36 #[v] w (GivenS n s w) := by
  have hM := Mem.nil w
  rcases h with ⟨rfl, rfl⟩ | ⟨b, o, c, rfl, hL⟩
  · have tk_b1 : True := trivial
    go_enter Tryd.func36, Tryd.ntmps36
    go_wp2_with (first | (have _t := tk_b1; refine wpList_make rfl _ _ _ _ rfl 0 rfl rfl 2 (fun _ => .int .i8 0) 2 Tryd.underlying32 spot_infoB (by omega) (by omega) (by omega) hM ?_; intro b1 W' hb1 hM'; clear hM tk_b1; have hM := hM'; clear hM'))
    refine wp_loop_rounds 1 ?_
    rw [rounds_succ]
    go_wp2
    go_ret
    exact ⟨b1, rfl, hb1, (hM.ats 0 _ _ _ rfl).congr (fun k hk => by omega), hM.below⟩
  · have HL := Lib.hid hL
    clear hL
    have tk_b1 : True := trivial
    go_enter Tryd.func36, Tryd.ntmps36
    go_wp2_with (first | (have _t := tk_b1; refine wpList_make rfl _ _ _ _ rfl n rfl rfl 2 (fun _ => .int .i8 0) 2 Tryd.underlying32 spot_infoB (by omega) (by omega) hn hM ?_; intro b1 W' hb1 hM'; clear hM tk_b1; have hM := hM'; clear hM'))
    go_loopw [4] (fun i wr => ∃ k : Nat, k ≤ n ∧ i = .int .i64 k ∧ ∃ g, Hid (∀ j, j < k * 2 → g j = sps s j) ∧ Mem w [(b1, n * 2, g)] wr) (fun i _ => n - (intOf i).toNat)
    case atStart => exact ⟨0, by omega, rfl, _, Lib.hid (fun j hj => absurd hj (by omega)), hM⟩
    case round =>
      clear hM
      obtain ⟨k, hk, rfl, g, hg, hM⟩ := hrel
      by_cases hlt : k < n
      · go_wp2_with (first | (refine wpList_getL rfl _ _ rfl _ _ rfl _ _ (HL.out.below hM.below) (rowTab _ _ rfl) (k * 2) rfl (by omega) ?_) | (go_at_call 17; refine (toSpot_any _ (fun _ => rfl) _).mono ?_; rintro e W' ⟨rfl, hb'⟩; have hM' := hM.call hb'; clear hM hb'; have hM := hM'; clear hM') | (refine wpList_lay rfl _ _ _ rfl _ _ rfl _ _ rfl hM 0 rfl (by assumption) (rowTab _ _ rfl) (by omega) ?_ ?_; (first | (intro _ _; rfl) | (intro k _; exact h1 _) | (intro k _; simp only [lay, upd]; (repeat' split) <;> first | exact h1 _ | rfl)); intro W' hM'; clear hM; have hM := hM'; clear hM'; simp only [List.set] at hM))
        go_roundw
        case rel => exact ⟨k + 1, by omega, by go_num, _, Lib.hid (fun j hj => by
          by_cases e : k * 2 ≤ j
          · simp only [lay]
            rw [if_pos ⟨e, by omega⟩, show k * 2 + (j - k * 2) = j by omega]
          · simp only [lay]
            rw [if_neg (by omega)]
            exact hg.out j (by omega)), hM⟩
        case measure => simp [intOf]; omega
      · obtain rfl : k = n := by omega
        go_wp2
        go_ret
        exact ⟨b1, rfl, hb1, (hM.ats 0 _ _ _ rfl).congr hg.out, hM.below⟩

set_option maxRecDepth 100000 in
set_option maxHeartbeats 1000000 in
/-- eqSpotS of two lists that hold the same. -/
theorem eqSpotS_same (b b' n c c' : Nat) (s : Nat → Int × Int) (hn : n ≤ maxLen) (w : World) (hA : At w b (n * 2) (sps s)) (hA' : At w b' (n * 2) (sps s)) (hne : b ≠ b') :
    Calls Tryd.prog 19 #[.slice (some ⟨b, 0, none⟩) n c, .slice (some ⟨b', 0, none⟩) n c'] w fun e w' => e = .returned (.bool true) ∧ Below w.heap.size w w' := by
  have hM : Mem w [(b, n * 2, sps s), (b', n * 2, sps s)] w := ((Mem.nil w).old hA (fun i p h => by simp at h)).old hA' (fun i p h => by
    match i, h with
    | 0, h => simp at h; rw [← h]; exact hne
    | _ + 1, h => simp at h)
  unfold maxLen at hn
  clear hA hA'
  go_enter Tryd.func19, Tryd.ntmps19
  go_wp2
  go_loopw [5] (fun i wr => ∃ k : Nat, k ≤ n ∧ i = .int .i64 k ∧ Mem w [(b, n * 2, sps s), (b', n * 2, sps s)] wr) (fun i _ => n - (intOf i).toNat)
  case atStart => exact ⟨0, by omega, rfl, hM⟩
  case round =>
    clear hM
    obtain ⟨k, hk, rfl, hM⟩ := hrel
    by_cases hlt : k < n
    · have l2 : (k : Int) < n := by omega
      have er : arr 2 (fun j => sps s (k * 2 + j)) = arr 2 (sp (s k).1 (s k).2) := arr_congr fun j hj => sps_row s k j hj
      go_wp2
      ((try simp only [Act.put, List.setIfInBounds_toArray, List.set_cons_succ, List.set_cons_zero]); refine wp_region_mem (by kernel_rfl) (by kernel_rfl) hM ?_; clear hM; (repeat (first | go_big_quiet_skip | (go_big_quiet_want; first | (refine quiet_get _ _ rfl _ _ rfl 1 rfl (rowTab _ _ rfl) (by omega) ?_; (simp only [er]); (simp only [Act.put, List.setIfInBounds_toArray, List.set_cons_succ, List.set_cons_zero]); go_big_quiet_on) | (refine quiet_get _ _ rfl _ _ rfl 0 rfl (rowTab _ _ rfl) (by omega) ?_; (simp only [er]); (simp only [Act.put, List.setIfInBounds_toArray, List.set_cons_succ, List.set_cons_zero]); go_big_quiet_on) | (refine quiet_call ?_; apply Exists.intro; apply Exists.intro; apply Exists.intro; refine ⟨fun W => ?_, fun W hM => ?_, ?_⟩; (go_simp; exact ⟨rfl, rfl⟩); (exact eqSpot_same (s k).1 (s k).2 W); (simp only [Act.put, List.setIfInBounds_toArray, List.set_cons_succ, List.set_cons_zero]); go_big_quiet_on) | (refine quiet_val ?_; apply Exists.intro; refine ⟨fun W => ?_, ?_⟩; (go_simp; (try simp only [l2, if_true, Bool.false_eq_true, if_false]); rfl); (simp only [Act.put, List.setIfInBounds_toArray, List.set_cons_succ, List.set_cons_zero]); go_big_quiet_on)))); (with_reducible refine wpQuiet_nil ?_); intro W' hM)
      go_wp2
      go_roundw
      case rel => exact ⟨k + 1, by omega, by go_num, hM⟩
      case measure => simp [intOf]; omega
    · obtain rfl : k = n := by omega
      go_wp2
      go_ret
      exact ⟨rfl, hM.below⟩
end Go.Proofs.YtbmaljhnldepoaaDoor

/-
  Walks: what makes one valid; spec.l05Walk and spec.ValidWalk by contracts.
-/
namespace Go.Proofs.YtbmaljhnldepoaaDoor
open Go Go.RowKit Go.BigFrame

/-- A cell, and not that of the stake. -/
def okAt (g : Nat → Int) (s : Nat → Int × Int) (x y : Int) (k : Nat) : Bool := isB g (s k).1 (s k).2 && !(((s k).1 == x) && ((s k).2 == y))
def joinB (g : Nat → Int) (a b : Int × Int) : Bool := ((b.1 == a.1) && (b.2 == a.2)) || stepB g a.1 a.2 b.1 b.2
def walkB (g : Nat → Int) (s : Nat → Int × Int) (n : Nat) (x y : Int) : Bool := inB 1 200 n && ((List.range n).all fun k => okAt g s x y k) && ((List.range (n - 1)).all fun k => joinB g (s k) (s (k + 1)))
theorem walkB_len {g : Nat → Int} {s : Nat → Int × Int} {n : Nat} {x y : Int} (h : inB 1 200 n = false) : walkB g s n x y = false := by simp [walkB, h]
theorem walkB_at {g : Nat → Int} {s : Nat → Int × Int} {n k : Nat} {x y : Int} (hk : k < n) (h : okAt g s x y k = false) : walkB g s n x y = false := by
  have : ((List.range n).all fun k => okAt g s x y k) = false := by rw [List.all_eq_false]; exact ⟨k, by simpa using hk, by rw [h]; decide⟩
  simp [walkB, this]
theorem walkB_join {g : Nat → Int} {s : Nat → Int × Int} {n k : Nat} {x y : Int} (hk : k + 1 < n) (h : joinB g (s k) (s (k + 1)) = false) : walkB g s n x y = false := by
  have : ((List.range (n - 1)).all fun k => joinB g (s k) (s (k + 1))) = false := by rw [List.all_eq_false]; exact ⟨k, by simp; omega, by rw [h]; decide⟩
  simp [walkB, this]
theorem walkB_yes {g : Nat → Int} {s : Nat → Int × Int} {n : Nat} {x y : Int} (h : inB 1 200 n = true) (h1 : ∀ k, k < n → okAt g s x y k = true) (h2 : ∀ k, k + 1 < n → joinB g (s k) (s (k + 1)) = true) : walkB g s n x y = true := by
  have e1 : ((List.range n).all fun k => okAt g s x y k) = true := by rw [List.all_eq_true]; intro i hi; exact h1 i (by simpa using hi)
  have e2 : ((List.range (n - 1)).all fun k => joinB g (s k) (s (k + 1))) = true := by rw [List.all_eq_true]; intro i hi; exact h2 i (by simp at hi; omega)
  simp [walkB, h, e1, e2]

/-- A step over one of the first m sides. -/
def stepK (g : Nat → Int) (a b : Int × Int) (m : Nat) : Bool := (List.range m).any fun j => !closedB g j a.1 a.2 && ((nxX j a.1 == b.1) && (nxY j a.2 == b.2))
theorem stepK_succ (g : Nat → Int) (a b : Int × Int) (m : Nat) : stepK g a b (m + 1) = (stepK g a b m || (!closedB g m a.1 a.2 && ((nxX m a.1 == b.1) && (nxY m a.2 == b.2)))) := by
  unfold stepK
  rw [List.range_succ, List.any_append]
  simp
theorem hasS_list (l : List (Int × Int)) (u v : Int) : hasS (sI l) l.length u v = l.any fun p => (u == p.1) && (v == p.2) := by
  rw [Bool.eq_iff_iff]
  unfold hasS
  simp only [List.any_eq_true, List.mem_range]
  constructor
  · rintro ⟨i, hi, h⟩
    refine ⟨l[i], List.getElem_mem hi, ?_⟩
    simpa [sI, List.getElem?_eq_getElem hi] using h
  · rintro ⟨p, hp, h⟩
    obtain ⟨i, hi, rfl⟩ := List.getElem_of_mem hp
    exact ⟨i, hi, by simpa [sI, List.getElem?_eq_getElem hi] using h⟩
theorem beq_swap (a b : Int) : (a == b) = (b == a) := by
  rw [Bool.eq_iff_iff]
  simp only [beq_iff_eq]
  exact ⟨Eq.symm, Eq.symm⟩
theorem stepK_4 (g : Nat → Int) (a b : Int × Int) : stepK g a b 4 = stepB g a.1 a.2 b.1 b.2 := by
  unfold stepB
  rw [hasS_list]
  unfold besL stepK
  rw [List.any_map, List.any_filter]
  congr 1
  funext j
  simp only [Function.comp]
  rw [beq_swap b.1, beq_swap b.2]
end Go.Proofs.YtbmaljhnldepoaaDoor

/-
  spec.l05Walk by contract.
-/
namespace Go.Proofs.YtbmaljhnldepoaaDoor
open Go Go.RowKit Go.BigFrame

set_option maxRecDepth 100000 in
set_option maxHeartbeats 4000000 in
theorem l05Walk_any (g : Nat → Int) (hg : Fits g) (ho : okB g = true) (bp bw n c : Nat) (x y : Int) (s : Nat → Int × Int) (hn : n ≤ 1048576) (hS : ∀ i, i < n → FitsS (s i)) (w : World) (hA : At w bp 122 (pas g)) (hB : At w bw (n * 2) (sps s)) (hne : bp ≠ bw) :
    Calls Tryd.prog 90 #[.pointer (some ⟨bp, 0, none⟩), .agg (arr 2 (sp x y)), .slice (some ⟨bw, 0, none⟩) n c] w fun e w' => e = .returned (.bool (walkB g s n x y)) ∧ Below w.heap.size w w' := by
  have hM : Mem w [(bp, 122, pas g), (bw, n * 2, sps s)] w := ((Mem.nil w).old hA (fun i p h => by simp at h)).old hB (fun i p h => by
    match i, h with
    | 0, h => simp at h; rw [← h]; exact hne
    | _ + 1, h => simp at h)
  have Ho := Lib.hid ho
  clear hA hB ho
  cases hl : inB 1 200 n
  · have Hl := Lib.hid hl
    have Hp := Lib.hid (walkB_len (g := g) (s := s) (x := x) (y := y) hl)
    clear hl
    have tk_b1 : True := trivial
    go_enter Tryd.func90, Tryd.ntmps90
    go_wp2_with (first | (have _t := tk_b1; refine wpList_box rfl _ _ rfl _ _ rfl hM ?_; intro b1 W' hb1 hM'; clear hM tk_b1; have hM := hM'; clear hM') | (go_at_call 100; (with_reducible refine (l00In_any _ _ _ _).mono ?_); rintro e W' ⟨rfl, hb'⟩; rw [Hl.out]; have hM' := hM.call hb'; clear hM hb'; have hM := hM'; clear hM'))
    go_ret
    exact ⟨ret_bool Hp.out.symm, hM.below⟩
  have hb := inB_true hl
  have Hl := Lib.hid hl
  clear hl
  have tk_b1 : True := trivial
  go_enter Tryd.func90, Tryd.ntmps90
  go_wp2_with (first | (have _t := tk_b1; refine wpList_box rfl _ _ rfl _ _ rfl hM ?_; intro b1 W' hb1 hM'; clear hM tk_b1; have hM := hM'; clear hM') | (go_at_call 100; (with_reducible refine (l00In_any _ _ _ _).mono ?_); rintro e W' ⟨rfl, hb'⟩; rw [Hl.out]; have hM' := hM.call hb'; clear hM hb'; have hM := hM'; clear hM'))
  go_loopw [7] (fun i wr => ∃ k : Nat, k ≤ n ∧ i = .int .i64 k ∧ Hid (∀ j, j < k → okAt g s x y j = true) ∧ Hid (∀ j, j + 1 < k → joinB g (s j) (s (j + 1)) = true) ∧ Mem w [(b1, 2, sp x y), (bp, 122, pas g), (bw, n * 2, sps s)] wr) (fun i _ => n - (intOf i).toNat)
  case atStart => exact ⟨0, by omega, rfl, Lib.hid (fun j hj => absurd hj (by omega)), Lib.hid (fun j hj => absurd hj (by omega)), hM⟩
  case round =>
    clear hM
    obtain ⟨k, hk, rfl, hat, hjo, hM⟩ := hrel
    by_cases hlt : k < n
    case neg =>
      obtain rfl : k = n := by omega
      go_wp2
      go_ret
      exact ⟨ret_bool (walkB_yes Hl.out hat.out hjo.out).symm, hM.below⟩
    have l2 : (k : Int) < n := by omega
    have l3 : decide ((k : Int) < n) = true := decide_eq_true l2
    obtain ⟨hfx, hfy⟩ := hS k hlt
    have HAt : ∀ W, Mem w [(b1, 2, sp x y), (bp, 122, pas g), (bw, n * 2, sps s)] W → At W bp 122 (pas g) := fun W hM => hM.ats 1 _ _ _ rfl
    have er : arr 2 (fun j => sps s (k * 2 + j)) = arr 2 (sp (s k).1 (s k).2) := arr_congr fun j hj => sps_row _ _ _ hj
    have hq := eql_spot (s k).1 (s k).2 x y
    cases hi : isB g (s k).1 (s k).2
    · have Hp := Lib.hid (walkB_at (g := g) (s := s) (x := x) (y := y) hlt (by simp [okAt, hi]))
      go_wp2
      ((try simp only [Act.put, List.setIfInBounds_toArray, List.set_cons_succ, List.set_cons_zero]); refine wp_region_mem (by kernel_rfl) (by kernel_rfl) hM ?_; clear hM; (repeat (first | go_big_quiet_skip | (go_big_quiet_want; first | (refine quiet_get _ _ rfl _ _ rfl 2 rfl (rowTab _ 2 rfl) (by omega) ?_; (simp only [er]); (simp only [Act.put, List.setIfInBounds_toArray, List.set_cons_succ, List.set_cons_zero]); go_big_quiet_on) | (refine quiet_call ?_; apply Exists.intro; apply Exists.intro; apply Exists.intro; refine ⟨fun W => ?_, fun W hM => ?_, ?_⟩; (go_simp; exact ⟨rfl, rfl⟩); (with_reducible exact l01Is_any g hg bp (s k).1 (s k).2 hfx hfy W (HAt W hM)); (simp only [hi]); (simp only [Act.put, List.setIfInBounds_toArray, List.set_cons_succ, List.set_cons_zero]); go_big_quiet_on) | (refine quiet_get _ _ rfl _ _ rfl 0 rfl (rowTab _ _ rfl) (by omega) ?_; (simp only [Act.put, List.setIfInBounds_toArray, List.set_cons_succ, List.set_cons_zero]); go_big_quiet_on) | (refine quiet_val ?_; apply Exists.intro; refine ⟨fun W => ?_, ?_⟩; (go_simp; (try simp only [l2, l3, if_true, Bool.false_eq_true, if_false]); rfl); (simp only [Act.put, List.setIfInBounds_toArray, List.set_cons_succ, List.set_cons_zero]); go_big_quiet_on)))); (with_reducible refine wpQuiet_nil ?_); intro W' hM)
      go_wp2
      go_ret
      exact ⟨ret_bool Hp.out.symm, hM.below⟩
    cases he : (((s k).1 == x) && ((s k).2 == y))
    case true =>
      have Hp := Lib.hid (walkB_at (g := g) (s := s) (x := x) (y := y) hlt (by simp only [okAt, hi, he]; rfl))
      rw [he] at hq
      go_wp2
      ((try simp only [Act.put, List.setIfInBounds_toArray, List.set_cons_succ, List.set_cons_zero]); refine wp_region_mem (by kernel_rfl) (by kernel_rfl) hM ?_; clear hM; (repeat (first | go_big_quiet_skip | (go_big_quiet_want; first | (refine quiet_get _ _ rfl _ _ rfl 2 rfl (rowTab _ 2 rfl) (by omega) ?_; (simp only [er]); (simp only [Act.put, List.setIfInBounds_toArray, List.set_cons_succ, List.set_cons_zero]); go_big_quiet_on) | (refine quiet_call ?_; apply Exists.intro; apply Exists.intro; apply Exists.intro; refine ⟨fun W => ?_, fun W hM => ?_, ?_⟩; (go_simp; exact ⟨rfl, rfl⟩); (with_reducible exact l01Is_any g hg bp (s k).1 (s k).2 hfx hfy W (HAt W hM)); (simp only [hi]); (simp only [Act.put, List.setIfInBounds_toArray, List.set_cons_succ, List.set_cons_zero]); go_big_quiet_on) | (refine quiet_get _ _ rfl _ _ rfl 0 rfl (rowTab _ _ rfl) (by omega) ?_; (simp only [Act.put, List.setIfInBounds_toArray, List.set_cons_succ, List.set_cons_zero]); go_big_quiet_on) | (refine quiet_val ?_; apply Exists.intro; refine ⟨fun W => ?_, ?_⟩; (go_simp; (try simp only [l2, l3, hq, if_true, Bool.false_eq_true, if_false]); rfl); (simp only [Act.put, List.setIfInBounds_toArray, List.set_cons_succ, List.set_cons_zero]); go_big_quiet_on)))); (with_reducible refine wpQuiet_nil ?_); intro W' hM)
      go_wp2
      go_ret
      exact ⟨ret_bool Hp.out.symm, hM.below⟩
    have Hok : Hid (okAt g s x y k = true) := Lib.hid (by simp only [okAt, hi, he]; rfl)
    rw [he] at hq
    have hat' : Hid (∀ j, j < k + 1 → okAt g s x y j = true) := Lib.hid (fun j hj => by
      by_cases e : j = k
      · rw [e]; exact Hok.out
      · exact hat.out j (by omega))
    by_cases hk0 : k = 0
    case pos =>
      subst hk0
      have er0 : arr 2 (fun j => sps s (0 + j)) = arr 2 (sp (s 0).1 (s 0).2) := by simpa using er
      have er00 : arr 2 (fun j => sps s j) = arr 2 (sp (s 0).1 (s 0).2) := by simpa using er
      go_wp2
      ((try simp only [Act.put, List.setIfInBounds_toArray, List.set_cons_succ, List.set_cons_zero]); refine wp_region_mem (by kernel_rfl) (by kernel_rfl) hM ?_; clear hM; (repeat (first | go_big_quiet_skip | (go_big_quiet_want; first | (refine quiet_get _ _ rfl _ _ rfl 2 rfl (rowTab _ 2 rfl) (by omega) ?_; (first | simp only [er0] | simp only [er] | simp only [er00] | (simp only [Nat.zero_mul, er0])); (simp only [Act.put, List.setIfInBounds_toArray, List.set_cons_succ, List.set_cons_zero]); go_big_quiet_on) | (refine quiet_call ?_; apply Exists.intro; apply Exists.intro; apply Exists.intro; refine ⟨fun W => ?_, fun W hM => ?_, ?_⟩; (go_simp; exact ⟨rfl, rfl⟩); (with_reducible exact l01Is_any g hg bp (s 0).1 (s 0).2 hfx hfy W (HAt W hM)); (simp only [hi]); (simp only [Act.put, List.setIfInBounds_toArray, List.set_cons_succ, List.set_cons_zero]); go_big_quiet_on) | (refine quiet_get _ _ rfl _ _ rfl 0 rfl (rowTab _ _ rfl) (by omega) ?_; (simp only [Act.put, List.setIfInBounds_toArray, List.set_cons_succ, List.set_cons_zero]); go_big_quiet_on) | (refine quiet_val ?_; apply Exists.intro; refine ⟨fun W => ?_, ?_⟩; (go_simp; (try simp only [l2, l3, hq, if_true, Bool.false_eq_true, if_false]); rfl); (simp only [Act.put, List.setIfInBounds_toArray, List.set_cons_succ, List.set_cons_zero]); go_big_quiet_on)))); (with_reducible refine wpQuiet_nil ?_); intro W' hM)
      go_wp2
      ((try simp only [Act.put, List.setIfInBounds_toArray, List.set_cons_succ, List.set_cons_zero]); refine wp_region_mem (by kernel_rfl) (by kernel_rfl) hM ?_; clear hM; (repeat (first | go_big_quiet_skip | (go_big_quiet_want; first | (refine quiet_val ?_; apply Exists.intro; refine ⟨fun W => ?_, ?_⟩; (go_simp; (try simp only [l2, if_true, Bool.false_eq_true, if_false]); rfl); (simp only [Act.put, List.setIfInBounds_toArray, List.set_cons_succ, List.set_cons_zero]); go_big_quiet_on)))); (with_reducible refine wpQuiet_nil ?_); intro W' hM)
      go_wp2
      go_roundw
      case rel => exact ⟨0 + 1, by omega, by go_num, hat', Lib.hid (fun j hj => absurd hj (by omega)), hM⟩
      case measure => simp [intOf]; omega
    have k0 : ¬ (k : Int) = 0 := by omega
    have k1 : ((k : Int) == 0) = false := by simpa using hk0
    have c1 : IntKind.i64.wrap ((k : Int) - 1) = ((k - 1 : Nat) : Int) := by rw [IntWalk.i64_in _ (by omega)]; omega
    have l4 : ((k - 1 : Nat) : Int) < n := by omega
    have er1 : arr 2 (fun j => sps s ((k - 1) * 2 + j)) = arr 2 (sp (s (k - 1)).1 (s (k - 1)).2) := arr_congr fun j hj => sps_row _ _ _ hj
    have hq2 := eql_spot (s k).1 (s k).2 (s (k - 1)).1 (s (k - 1)).2
    have hok1 := hat.out (k - 1) (by omega)
    have hi1 : isB g (s (k - 1)).1 (s (k - 1)).2 = true := by unfold okAt at hok1; rw [Bool.and_eq_true] at hok1; exact hok1.1
    have hb1 := isB_bounds Ho.out hi1
    have Hx1 : Hid (0 ≤ (s (k - 1)).1 ∧ (s (k - 1)).1 ≤ 9) := Lib.hid (by omega)
    have Hy1 : Hid (0 ≤ (s (k - 1)).2 ∧ (s (k - 1)).2 ≤ 9) := Lib.hid (by omega)
    have hjo' : joinB g (s (k - 1)) (s k) = true → Hid (∀ j, j + 1 < k + 1 → joinB g (s j) (s (j + 1)) = true) := fun h => Lib.hid (fun j hj => by
      by_cases e : j + 1 = k
      · have e' : j = k - 1 := by omega
        rw [e, e']; exact h
      · exact hjo.out j (by omega))
    have hno : joinB g (s (k - 1)) (s k) = false → walkB g s n x y = false := fun h => walkB_join (k := k - 1) (by omega) (by rw [show k - 1 + 1 = k by omega]; exact h)
    have Hno := Lib.hid hno
    have Hjo := Lib.hid hjo'
    clear hok1 hi1 hb1 hno hjo'
    cases hs : (((s k).1 == (s (k - 1)).1) && ((s k).2 == (s (k - 1)).2))
    case true =>
      have Hj := Lib.hid (Hjo.out (by simp only [joinB, hs]; rfl))
      rw [hs] at hq2
      go_wp2
      ((try simp only [Act.put, List.setIfInBounds_toArray, List.set_cons_succ, List.set_cons_zero]); refine wp_region_mem (by kernel_rfl) (by kernel_rfl) hM ?_; clear hM; (repeat (first | go_big_quiet_skip | (go_big_quiet_want; first | (refine quiet_get _ _ rfl _ _ rfl 2 rfl (rowTab _ 2 rfl) (by omega) ?_; (simp only [er]); (simp only [Act.put, List.setIfInBounds_toArray, List.set_cons_succ, List.set_cons_zero]); go_big_quiet_on) | (refine quiet_call ?_; apply Exists.intro; apply Exists.intro; apply Exists.intro; refine ⟨fun W => ?_, fun W hM => ?_, ?_⟩; (go_simp; exact ⟨rfl, rfl⟩); (with_reducible exact l01Is_any g hg bp (s k).1 (s k).2 hfx hfy W (HAt W hM)); (simp only [hi]); (simp only [Act.put, List.setIfInBounds_toArray, List.set_cons_succ, List.set_cons_zero]); go_big_quiet_on) | (refine quiet_get _ _ rfl _ _ rfl 0 rfl (rowTab _ _ rfl) (by omega) ?_; (simp only [Act.put, List.setIfInBounds_toArray, List.set_cons_succ, List.set_cons_zero]); go_big_quiet_on) | (refine quiet_val ?_; apply Exists.intro; refine ⟨fun W => ?_, ?_⟩; (go_simp; (try simp only [l2, l3, hq, if_true, Bool.false_eq_true, if_false]); rfl); (simp only [Act.put, List.setIfInBounds_toArray, List.set_cons_succ, List.set_cons_zero]); go_big_quiet_on)))); (with_reducible refine wpQuiet_nil ?_); intro W' hM)
      go_wp2
      ((try simp only [Act.put, List.setIfInBounds_toArray, List.set_cons_succ, List.set_cons_zero]); refine wp_region_mem (by kernel_rfl) (by kernel_rfl) hM ?_; clear hM; (repeat (first | go_big_quiet_skip | (go_big_quiet_want; first | (refine quiet_get _ _ rfl _ _ rfl 2 rfl (rowTab _ 2 rfl) (by omega) ?_; (simp only [er]); (simp only [Act.put, List.setIfInBounds_toArray, List.set_cons_succ, List.set_cons_zero]); go_big_quiet_on) | (refine quiet_get _ _ rfl _ _ rfl 2 rfl (rowTab _ 2 rfl) (by omega) ?_; (simp only [er1]); (simp only [Act.put, List.setIfInBounds_toArray, List.set_cons_succ, List.set_cons_zero]); go_big_quiet_on) | (refine quiet_val ?_; apply Exists.intro; refine ⟨fun W => ?_, ?_⟩; (go_simp; (try simp only [l2, l3, l4, k0, k1, c1, hq2, if_true, Bool.false_eq_true, if_false]); rfl); (simp only [Act.put, List.setIfInBounds_toArray, List.set_cons_succ, List.set_cons_zero]); go_big_quiet_on)))); (with_reducible refine wpQuiet_nil ?_); intro W' hM)
      go_wp2
      go_roundw
      case rel => exact ⟨k + 1, by omega, by go_num, hat', Hj.out, hM⟩
      case measure => simp [intOf]; omega
    have Hs := Lib.hid hs
    rw [hs] at hq2
    go_wp2
    ((try simp only [Act.put, List.setIfInBounds_toArray, List.set_cons_succ, List.set_cons_zero]); refine wp_region_mem (by kernel_rfl) (by kernel_rfl) hM ?_; clear hM; (repeat (first | go_big_quiet_skip | (go_big_quiet_want; first | (refine quiet_get _ _ rfl _ _ rfl 2 rfl (rowTab _ 2 rfl) (by omega) ?_; (simp only [er]); (simp only [Act.put, List.setIfInBounds_toArray, List.set_cons_succ, List.set_cons_zero]); go_big_quiet_on) | (refine quiet_call ?_; apply Exists.intro; apply Exists.intro; apply Exists.intro; refine ⟨fun W => ?_, fun W hM => ?_, ?_⟩; (go_simp; exact ⟨rfl, rfl⟩); (with_reducible exact l01Is_any g hg bp (s k).1 (s k).2 hfx hfy W (HAt W hM)); (simp only [hi]); (simp only [Act.put, List.setIfInBounds_toArray, List.set_cons_succ, List.set_cons_zero]); go_big_quiet_on) | (refine quiet_get _ _ rfl _ _ rfl 0 rfl (rowTab _ _ rfl) (by omega) ?_; (simp only [Act.put, List.setIfInBounds_toArray, List.set_cons_succ, List.set_cons_zero]); go_big_quiet_on) | (refine quiet_val ?_; apply Exists.intro; refine ⟨fun W => ?_, ?_⟩; (go_simp; (try simp only [l2, l3, hq, if_true, Bool.false_eq_true, if_false]); rfl); (simp only [Act.put, List.setIfInBounds_toArray, List.set_cons_succ, List.set_cons_zero]); go_big_quiet_on)))); (with_reducible refine wpQuiet_nil ?_); intro W' hM)
    go_wp2
    ((try simp only [Act.put, List.setIfInBounds_toArray, List.set_cons_succ, List.set_cons_zero]); refine wp_region_mem (by kernel_rfl) (by kernel_rfl) hM ?_; clear hM; (repeat (first | go_big_quiet_skip | (go_big_quiet_want; first | (refine quiet_get _ _ rfl _ _ rfl 2 rfl (rowTab _ 2 rfl) (by omega) ?_; (simp only [er]); (simp only [Act.put, List.setIfInBounds_toArray, List.set_cons_succ, List.set_cons_zero]); go_big_quiet_on) | (refine quiet_get _ _ rfl _ _ rfl 2 rfl (rowTab _ 2 rfl) (by omega) ?_; (simp only [er1]); (simp only [Act.put, List.setIfInBounds_toArray, List.set_cons_succ, List.set_cons_zero]); go_big_quiet_on) | (refine quiet_val ?_; apply Exists.intro; refine ⟨fun W => ?_, ?_⟩; (go_simp; (try simp only [l2, l3, l4, k0, k1, c1, hq2, if_true, Bool.false_eq_true, if_false]); rfl); (simp only [Act.put, List.setIfInBounds_toArray, List.set_cons_succ, List.set_cons_zero]); go_big_quiet_on)))); (with_reducible refine wpQuiet_nil ?_); intro W' hM)
    go_wp2
    go_loopw [8, 9] (fun v j wr => ∃ m : Nat, m ≤ 4 ∧ j = .int .i64 m ∧ v = .bool (stepK g (s (k - 1)) (s k) m) ∧ Mem w [(b1, 2, sp x y), (bp, 122, pas g), (bw, n * 2, sps s)] wr) (fun _ j _ => 4 - (intOf j).toNat)
    case atStart => exact ⟨0, by omega, rfl, rfl, hM⟩
    case round =>
      clear hM
      obtain ⟨m, hm, rfl, rfl, hM⟩ := hrel
      by_cases hlm : m < 4
      · have m2 : (m : Int) < 4 := by omega
        have m3 : decide ((m : Int) < 4) = true := decide_eq_true m2
        have hsu := stepK_succ g (s (k - 1)) (s k) m
        have hq3 := eql_spot (nxX m (s (k - 1)).1) (nxY m (s (k - 1)).2) (s k).1 (s k).2
        cases h0 : stepK g (s (k - 1)) (s k) m
        case true =>
          rw [h0] at hsu
          have Hsu := Lib.hid hsu
          clear hsu
          go_wp2
          ((try simp only [Act.put, List.setIfInBounds_toArray, List.set_cons_succ, List.set_cons_zero]); refine wp_region_mem (by kernel_rfl) (by kernel_rfl) hM ?_; clear hM; (repeat (first | go_big_quiet_skip | (go_big_quiet_want; first | (refine quiet_val ?_; apply Exists.intro; refine ⟨fun W => ?_, ?_⟩; (go_simp; (try simp only [m2, m3, if_true, Bool.false_eq_true, if_false]); rfl); (simp only [Act.put, List.setIfInBounds_toArray, List.set_cons_succ, List.set_cons_zero]); go_big_quiet_on)))); (with_reducible refine wpQuiet_nil ?_); intro W' hM)
          go_wp2
          go_roundw
          case rel => exact ⟨m + 1, by omega, by go_num, by rw [Hsu.out]; rfl, hM⟩
          case measure => simp [intOf]; omega
        rw [h0] at hsu
        cases hc : closedB g m (s (k - 1)).1 (s (k - 1)).2
        case true =>
          rw [hc] at hsu
          have Hsu := Lib.hid hsu
          clear hsu
          go_wp2
          ((try simp only [Act.put, List.setIfInBounds_toArray, List.set_cons_succ, List.set_cons_zero]); refine wp_region_mem (by kernel_rfl) (by kernel_rfl) hM ?_; clear hM; (repeat (first | go_big_quiet_skip | (go_big_quiet_want; first | (refine quiet_get _ _ rfl _ _ rfl 2 rfl (rowTab _ 2 rfl) (by omega) ?_; (simp only [er]); (simp only [Act.put, List.setIfInBounds_toArray, List.set_cons_succ, List.set_cons_zero]); go_big_quiet_on) | (refine quiet_get _ _ rfl _ _ rfl 2 rfl (rowTab _ 2 rfl) (by omega) ?_; (simp only [er1]); (simp only [Act.put, List.setIfInBounds_toArray, List.set_cons_succ, List.set_cons_zero]); go_big_quiet_on) | (refine quiet_call ?_; apply Exists.intro; apply Exists.intro; apply Exists.intro; refine ⟨fun W => ?_, fun W hM => ?_, ?_⟩; (go_simp; exact ⟨rfl, rfl⟩); (with_reducible exact l01Closed_any g hg Ho.out bp m hlm (s (k - 1)).1 (s (k - 1)).2 Hx1.out Hy1.out W (HAt W hM)); (simp only [hc]); (simp only [Act.put, List.setIfInBounds_toArray, List.set_cons_succ, List.set_cons_zero]); go_big_quiet_on) | (refine quiet_call ?_; apply Exists.intro; apply Exists.intro; apply Exists.intro; refine ⟨fun W => ?_, fun W hM => ?_, ?_⟩; (go_simp; exact ⟨rfl, rfl⟩); (with_reducible exact l01Next_any m hlm (s (k - 1)).1 (s (k - 1)).2 Hx1.out Hy1.out W); (simp only [Act.put, List.setIfInBounds_toArray, List.set_cons_succ, List.set_cons_zero]); go_big_quiet_on) | (refine quiet_val ?_; apply Exists.intro; refine ⟨fun W => ?_, ?_⟩; (go_simp; (try simp only [m2, m3, l2, l3, l4, c1, hq3, if_true, Bool.false_eq_true, if_false]); rfl); (simp only [Act.put, List.setIfInBounds_toArray, List.set_cons_succ, List.set_cons_zero]); go_big_quiet_on)))); (with_reducible refine wpQuiet_nil ?_); intro W' hM)
          go_wp2
          go_roundw
          case rel => exact ⟨m + 1, by omega, by go_num, by rw [Hsu.out]; rfl, hM⟩
          case measure => simp [intOf]; omega
        rw [hc] at hsu
        have Hsu := Lib.hid hsu
        clear hsu
        cases hz : ((nxX m (s (k - 1)).1 == (s k).1) && (nxY m (s (k - 1)).2 == (s k).2))
        all_goals
          rw [hz] at hq3
          have Hz := Lib.hid hz
          clear hz
          go_wp2
          ((try simp only [Act.put, List.setIfInBounds_toArray, List.set_cons_succ, List.set_cons_zero]); refine wp_region_mem (by kernel_rfl) (by kernel_rfl) hM ?_; clear hM; (repeat (first | go_big_quiet_skip | (go_big_quiet_want; first | (refine quiet_get _ _ rfl _ _ rfl 2 rfl (rowTab _ 2 rfl) (by omega) ?_; (simp only [er]); (simp only [Act.put, List.setIfInBounds_toArray, List.set_cons_succ, List.set_cons_zero]); go_big_quiet_on) | (refine quiet_get _ _ rfl _ _ rfl 2 rfl (rowTab _ 2 rfl) (by omega) ?_; (simp only [er1]); (simp only [Act.put, List.setIfInBounds_toArray, List.set_cons_succ, List.set_cons_zero]); go_big_quiet_on) | (refine quiet_call ?_; apply Exists.intro; apply Exists.intro; apply Exists.intro; refine ⟨fun W => ?_, fun W hM => ?_, ?_⟩; (go_simp; exact ⟨rfl, rfl⟩); (with_reducible exact l01Closed_any g hg Ho.out bp m hlm (s (k - 1)).1 (s (k - 1)).2 Hx1.out Hy1.out W (HAt W hM)); (simp only [hc]); (simp only [Act.put, List.setIfInBounds_toArray, List.set_cons_succ, List.set_cons_zero]); go_big_quiet_on) | (refine quiet_call ?_; apply Exists.intro; apply Exists.intro; apply Exists.intro; refine ⟨fun W => ?_, fun W hM => ?_, ?_⟩; (go_simp; exact ⟨rfl, rfl⟩); (with_reducible exact l01Next_any m hlm (s (k - 1)).1 (s (k - 1)).2 Hx1.out Hy1.out W); (simp only [Act.put, List.setIfInBounds_toArray, List.set_cons_succ, List.set_cons_zero]); go_big_quiet_on) | (refine quiet_val ?_; apply Exists.intro; refine ⟨fun W => ?_, ?_⟩; (go_simp; (try simp only [m2, m3, l2, l3, l4, c1, hq3, if_true, Bool.false_eq_true, if_false]); rfl); (simp only [Act.put, List.setIfInBounds_toArray, List.set_cons_succ, List.set_cons_zero]); go_big_quiet_on)))); (with_reducible refine wpQuiet_nil ?_); intro W' hM)
          go_wp2
          go_roundw
          case rel => exact ⟨m + 1, by omega, by go_num, by rw [Hsu.out, Hz.out]; rfl, hM⟩
          case measure => simp [intOf]; omega
      · obtain rfl : m = 4 := by omega
        have h4 := stepK_4 g (s (k - 1)) (s k)
        cases hz : stepK g (s (k - 1)) (s k) 4
        · have Hj := Lib.hid (Hno.out (by unfold joinB; rw [Hs.out, ← h4, hz]; rfl))
          clear h4
          go_wp2
          go_ret
          exact ⟨ret_bool Hj.out.symm, hM.below⟩
        · have Hj := Lib.hid (Hjo.out (by unfold joinB; rw [Hs.out, ← h4, hz]; rfl))
          clear h4
          go_wp2
          go_roundw
          case rel => exact ⟨k + 1, by omega, by go_num, hat', Hj.out, hM⟩
          case measure => simp [intOf]; omega
end Go.Proofs.YtbmaljhnldepoaaDoor

/-
  PLAIN LAWS: slice literals of two and of three elements of one cell; make of no element, with room.
-/
namespace Go.Proofs.YtbmaljhnldepoaaDoor
open Go Go.RowKit
variable {P : Program} {ops : Array Oper} {rest : List Oper} {o : Oper} {a : Act} {w : Base} {W : World} {Q : Exit → Act → World → Prop} {L : Blocks}

theorem cells_one {v : Value} (h : v.oneCell' = true) : v.cells = #[v] := by cases v <;> first | rfl | (simp [Value.oneCell'] at h)
theorem fill_cell {place : Nat → Option (Nat × Nat)} {cs : Array Value} {i off : Nat} {v : Value} (hv : v.oneCell' = true) (hp : place i = some (off, 1)) (hle : off < cs.size) (rest : List (Nat × Value)) :
    Instr.fill place cs ((i, v) :: rest) = Instr.fill place (cs.setIfInBounds off v) rest := by
  rw [Instr.fill, hp]
  simp only [cells_one hv, List.size_toArray, List.length_cons, List.length_nil, Nat.zero_add, ne_eq, not_true_eq_false, decide_false, Bool.false_or]
  rw [if_neg (by simp; omega)]
  congr 1
theorem wpList_lit2 (hgd : o.guard = none) (t e : TypeId) (x y : Operand) (ho : o.op = .buildSlice t 2 #[(0, x), (1, y)]) (u v : Value) (hx : a.eval x = u) (hy : a.eval y = v) (h0 : u.oneCell' = true) (h1 : v.oneCell' = true) (z : Value)
    (hu : P.underlying t = some (.slice e)) (hz : (P.info? e).map (fun i => (i.size, i.zero)) = some (1, some z)) (hM : Mem w L W)
    (h : ∀ b W', w.B ≤ b → Mem w ((b, 2, fun k => if k = 0 then u else v) :: L) W' → wpList P ops Q rest (a.put o.dst (.slice (some ⟨b, 0, none⟩) 2 2)) W') : wpList P ops Q (o :: rest) a W := by
  obtain ⟨ie, hie, hq⟩ := Option.map_eq_some_iff.1 hz
  simp only [Prod.mk.injEq] at hq
  refine wpList_buildSlice hgd t e 2 _ ho (arr 2 fun k => if k = 0 then u else v) ie z hu hie hq.2 (by rw [hq.1]; omega) (by rw [hq.1]; omega) ?_ (h _ _ hM.size (hM.alloc e 2 _))
  rw [hq.1]
  rw [show (Array.map (fun x => match x with | (i, x) => (i, a.eval x)) #[(0, x), (1, y)]).toList = [(0, u), (1, v)] by simp [hx, hy]]
  rw [fill_cell h0 (off := 0) rfl (by simp), fill_cell h1 (off := 1) rfl (by simp), Instr.fill]
  refine congrArg some (arr_ext (by simp) (fun k hk => ?_))
  rcases (show k = 0 ∨ k = 1 by omega) with rfl | rfl <;> simp
theorem wpList_lit3 (hgd : o.guard = none) (t e : TypeId) (x y q : Operand) (ho : o.op = .buildSlice t 3 #[(0, x), (1, y), (2, q)]) (u v s : Value) (hx : a.eval x = u) (hy : a.eval y = v) (hs : a.eval q = s) (h0 : u.oneCell' = true) (h1 : v.oneCell' = true) (h2 : s.oneCell' = true) (z : Value)
    (hu : P.underlying t = some (.slice e)) (hz : (P.info? e).map (fun i => (i.size, i.zero)) = some (1, some z)) (hM : Mem w L W)
    (h : ∀ b W', w.B ≤ b → Mem w ((b, 3, fun k => if k = 0 then u else if k = 1 then v else s) :: L) W' → wpList P ops Q rest (a.put o.dst (.slice (some ⟨b, 0, none⟩) 3 3)) W') : wpList P ops Q (o :: rest) a W := by
  obtain ⟨ie, hie, hq⟩ := Option.map_eq_some_iff.1 hz
  simp only [Prod.mk.injEq] at hq
  refine wpList_buildSlice hgd t e 3 _ ho (arr 3 fun k => if k = 0 then u else if k = 1 then v else s) ie z hu hie hq.2 (by rw [hq.1]; omega) (by rw [hq.1]; omega) ?_ (h _ _ hM.size (hM.alloc e 3 _))
  rw [hq.1]
  rw [show (Array.map (fun x => match x with | (i, x) => (i, a.eval x)) #[(0, x), (1, y), (2, q)]).toList = [(0, u), (1, v), (2, s)] by simp [hx, hy, hs]]
  rw [fill_cell h0 (off := 0) rfl (by simp), fill_cell h1 (off := 1) rfl (by simp), fill_cell h2 (off := 2) rfl (by simp), Instr.fill]
  refine congrArg some (arr_ext (by simp) (fun k hk => ?_))
  rcases (show k = 0 ∨ k = 1 ∨ k = 2 by omega) with rfl | rfl | rfl <;> simp
/-- A slice literal of one element of one cell. -/
theorem wpList_lit1 (hgd : o.guard = none) (t e : TypeId) (x : Operand) (ho : o.op = .buildSlice t 1 #[(0, x)]) (u : Value) (hx : a.eval x = u) (h0 : u.oneCell' = true) (z : Value)
    (hu : P.underlying t = some (.slice e)) (hz : (P.info? e).map (fun i => (i.size, i.zero)) = some (1, some z)) (hM : Mem w L W)
    (h : ∀ b W', w.B ≤ b → Mem w ((b, 1, fun _ => u) :: L) W' → wpList P ops Q rest (a.put o.dst (.slice (some ⟨b, 0, none⟩) 1 1)) W') : wpList P ops Q (o :: rest) a W := by
  obtain ⟨ie, hie, hq⟩ := Option.map_eq_some_iff.1 hz
  simp only [Prod.mk.injEq] at hq
  refine wpList_buildSlice hgd t e 1 _ ho (arr 1 fun _ => u) ie z hu hie hq.2 (by rw [hq.1]; omega) (by rw [hq.1]; omega) ?_ (h _ _ hM.size (hM.alloc e 1 _))
  rw [hq.1]
  rw [show (Array.map (fun x => match x with | (i, x) => (i, a.eval x)) #[(0, x)]).toList = [(0, u)] by simp [hx]]
  rw [fill_cell h0 (off := 0) rfl (by simp), Instr.fill]
  refine congrArg some (arr_ext (by simp) (fun k hk => ?_))
  obtain rfl : k = 0 := by omega
  simp

/-- make of no element, with room for n of one cell. -/
theorem wpList_make0 (hgd : o.guard = none) (t e : TypeId) (x y : Operand) (ho : o.op = .makeSlice t x y) (n : Nat) (hx : a.eval x = .int .i64 0) (hy : a.eval y = .int .i64 n) (z : Value) (bs : Nat) (hzc : z.oneCell' = true)
    (hu : P.underlying t = some (.slice e)) (hz : (P.info? e).map (fun i => (i.size, i.zero, i.bytes)) = some (1, some z, bs)) (hbs : bs ≤ 1000) (hn : n ≤ 1048576) (hM : Mem w L W)
    (h : ∀ b W', w.B ≤ b → Mem w ((b, n * 1, fun _ => z) :: L) W' → wpList P ops Q rest (a.put o.dst (.slice (some ⟨b, 0, none⟩) 0 n)) W') : wpList P ops Q (o :: rest) a W := by
  obtain ⟨ie, hie, hq⟩ := Option.map_eq_some_iff.1 hz
  simp only [Prod.mk.injEq] at hq
  obtain ⟨q1, q2, q3⟩ := hq
  refine wpList_plain hgd fun K hK => ?_
  have hb : (ie.bytes : Int) * (n : Int) ≤ 281474976710656 := by
    rw [q3]
    have : bs * n ≤ 1000 * 1048576 := Nat.mul_le_mul hbs hn
    have h2 : ((bs * n : Nat) : Int) ≤ 1000 * 1048576 := by omega
    rw [Int.natCast_mul] at h2
    omega
  have hr := run_make (P := P) W t e ie z hu hie q2 .i64 .i64 0 n (by omega) (by omega) hb (by omega)
  have hc : madeCells z.cells (n * 1) = arr (n * 1) (fun _ => z) := by
    refine arr_ext (by simp [madeCells]) (fun k hk => ?_)
    have hk' : k < n := by omega
    rw [cells_one hzc]
    simp [madeCells, hk', Nat.mod_one]
  simp only [Int.toNat_natCast, q1, hc] at hr
  unfold Oper.wp execOp
  simp only [ho, hx, hy, Sem.run_bind, Sem.run_pure, hr, Result.andThen_ok]
  exact hK _ _ (h _ _ hM.size (hM.alloc e (n * 1) _))
end Go.Proofs.YtbmaljhnldepoaaDoor

/-
  A full slice expression; impl.stepsOf by contract.
-/
namespace Go.Proofs.YtbmaljhnldepoaaDoor
open Go Go.RowKit Go.BigFrame

section
variable {P : Program} {ops : Array Oper} {rest : List Oper} {o : Oper} {a : Act} {W : World} {Q : Exit → Act → World → Prop}
theorem wpList_cut3 (hgd : o.guard = none) (t e : TypeId) (x lo hi mx : Operand) (ho : o.op = .slice t x (some lo) (some hi) (some mx)) (m : Nat) (hu : P.underlying t = some (.slice e)) (hz : (P.info? e).map (·.size) = some m)
    (b off n c : Nat) (hx : a.eval x = .slice (some ⟨b, off, none⟩) n c) (i j : Nat) (hl : a.eval lo = .int .i64 i) (I J : Int) (hh : a.eval hi = .int .i64 I) (hm : a.eval mx = .int .i64 J) (hI : I = (j : Int)) (hJ : J = (j : Int)) (h1 : i < j) (h2 : j ≤ c)
    (v : Value) (hv : v = .slice (some ⟨b, off + i * m, none⟩) (j - i) (j - i)) (h : wpList P ops Q rest (a.put o.dst v) W) : wpList P ops Q (o :: rest) a W := by
  obtain ⟨ie, hie, hq⟩ := Option.map_eq_some_iff.1 hz
  subst hI hJ hv
  refine wpList_plain hgd fun K hK => ?_
  have b1 : (Instr.sliceBound (.int .i64 (j : Int)) c .slice3Acap).run P W = .ok j W := by
    have : (j : Int) ≤ (c : Int) := by omega
    simp [Instr.sliceBound, asIntOf, this]
  have b2 : (Instr.sliceBound (.int .i64 (j : Int)) j .slice3B).run P W = .ok j W := by simp [Instr.sliceBound, asIntOf]
  have b3 : (Instr.sliceBound (.int .i64 (i : Int)) j .slice3C).run P W = .ok i W := by
    have : (i : Int) ≤ (j : Int) := by omega
    simp [Instr.sliceBound, asIntOf, this]
  have hr : (Instr.slice t (.slice (some ⟨b, off, none⟩) n c) (some (.int .i64 (i : Int))) (some (.int .i64 (j : Int))) (some (.int .i64 (j : Int)))).run P W = .ok (.slice (some ⟨b, off + i * m, none⟩) (j - i) (j - i)) W := by
    have hne : ¬ j = i := by omega
    simp [Instr.slice, Instr.sliceBounds, run_underlying hu, sizeOf, typeInfo, hie, hq, b1, b2, b3, hne, add_any]
  have hq2 : (Instr.sliceAt t (.slice (some ⟨b, off, none⟩) n c) (some (.int .i64 (i : Int))) (some (.int .i64 (j : Int))) (some (.int .i64 (j : Int)))).run P W = .ok (.slice (some ⟨b, off + i * m, none⟩) (j - i) (j - i)) W := by
    unfold Instr.sliceAt
    simp only [Sem.run_bind, run_underlying hu, Result.andThen_ok, hr]
  unfold Oper.wp
  simp only [execOp, ho, hx, hl, hh, hm, Option.map_some, Sem.run_bind, Sem.run_pure, hq2, Result.andThen_ok]
  exact hK _ _ h
end

theorem spots2_under : Tryd.prog.underlying 42 = some (.slice 32) := Tryd.underlying42
theorem spots2_info : (Tryd.prog.info? 32).map (fun i => (i.size, i.zero)) = some (1, some (.slice none 0 0)) := by kernel_rfl
theorem spots2_infoB : (Tryd.prog.info? 32).map (fun i => (i.size, i.zero, i.bytes)) = some (1, some (.slice none 0 0), 24) := by kernel_rfl

/-- The steps of a walk that lies in the block b. -/
def stV (b : Nat) : Nat → Value := fun i => .slice (some ⟨b, i * 2, none⟩) 2 2
theorem stV_cut (b k : Nat) : stV b k = .slice (some ⟨b, 0 + k * 2, none⟩) (k + 2 - k) (k + 2 - k) := by
  unfold stV
  rw [Nat.zero_add, show k + 2 - k = 2 by omega]
theorem stV_head (b j : Nat) (hj : j < 1) : stV b 0 = stV b j := by
  obtain rfl : j = 0 := by omega
  rfl
theorem stV_next (b k j : Nat) (hj : j < 1) : stV b k = stV b (k * 1 + j) := by
  obtain rfl : j = 0 := by omega
  rw [Nat.mul_one]
  rfl
theorem stV_one (b : Nat) (v : Value) (k : Nat) (h : v = stV b k) : v.oneCell' = true := by rw [h]; rfl

set_option maxRecDepth 100000 in
set_option maxHeartbeats 2000000 in
theorem stepsOf_any (b n c : Nat) (hn : 1 ≤ n) (hc : n ≤ c) (hb : n ≤ 1048576) (w : World) :
    Calls Tryd.prog 92 #[.slice (some ⟨b, 0, none⟩) n c] w fun e w' => ∃ v, e = .returned v ∧ Lst w [] 1 v (n - 1) (stV b) w' := by
  have hM := Mem.nil w
  have w1 : IntKind.i64.wrap ((n : Int) - 1) = (n : Int) - 1 := IntWalk.i64_in _ (by omega)
  have hn1 : ((n - 1 : Nat) : Int) = (n : Int) - 1 := by omega
  go_enter Tryd.func92, Tryd.ntmps92
  go_wp2
  go_loopw [3, 8] (fun v i wr => ∃ k : Nat, k ≤ n - 1 ∧ i = .int .i64 k ∧ Lst w [] 1 v k (stV b) wr) (fun _ i _ => n - 1 - (intOf i).toNat)
  case atStart => exact ⟨0, by omega, rfl, .inl ⟨rfl, rfl, hM⟩⟩
  case round =>
    clear hM
    obtain ⟨k, hk, rfl, hL⟩ := hrel
    by_cases hlt : k < n - 1
    · have l2 : (k : Int) < (n : Int) - 1 := by omega
      have c1 : IntKind.i64.wrap ((k : Int) + 2) = (k : Int) + 2 := IntWalk.i64_in _ (by omega)
      rcases hL with ⟨rfl, hn0, hM⟩ | ⟨bl, cl, F, rfl, hbl, hcl, hF, hM⟩
      · subst hn0
        have tk_b3 : True := trivial; have tk_p1 : True := trivial
        go_wp2_with (first | (refine wpList_cut3 rfl _ _ _ _ _ _ rfl 2 spot_under (by kernel_rfl) b 0 n c rfl 0 2 rfl _ _ rfl rfl (by omega) (by omega) (by omega) (by omega) (stV b 0) (stV_cut b 0) ?_) | (have _t := tk_b3; refine wpList_lit1 rfl _ _ _ rfl _ rfl rfl _ spots2_under spots2_info hM ?_; intro b3 W' hb3 hM'; clear hM tk_b3; have hM := hM'; clear hM') | (have _t := tk_p1; refine wpList_push0 rfl _ _ _ rfl _ 1 _ _ spots2_under spots2_infoB rfl (by omega) rfl _ _ rfl hM (stV b) (fun j hj => stV_head b j hj) ?_; intro bL cL FL W' hbL hcL hFL hM'; clear hM tk_p1; have hM := hM'; clear hM'))
        go_roundw
        case rel => exact ⟨0 + 1, by omega, by go_num, .inr ⟨bL, cL, FL, rfl, hbL, hcL, hFL, hM⟩⟩
        case measure => simp [intOf]; omega
      · have tk_b3 : True := trivial; have tk_p1 : True := trivial
        go_wp2_with (first | (refine wpList_cut3 rfl _ _ _ _ _ _ rfl 2 spot_under (by kernel_rfl) b 0 n c rfl k (k + 2) rfl _ _ rfl rfl (by omega) (by omega) (by omega) (by omega) (stV b k) (stV_cut b k) ?_) | (have _t := tk_b3; refine wpList_lit1 rfl _ _ _ rfl _ rfl rfl _ spots2_under spots2_info hM ?_; intro b3 W' hb3 hM'; clear hM tk_b3; have hM := hM'; clear hM') | (have _t := tk_p1; refine wpList_push1 rfl _ _ _ rfl _ 1 _ _ spots2_under spots2_infoB rfl (by omega) _ _ _ _ rfl hbl hcl (by omega) _ _ rfl (fun _ _ => rfl) hM (stV b) hF (fun j hj => stV_next b k j hj) ?_; intro bL cL FL W' hbL hcL hFL hM'; clear hM tk_p1; have hM := hM'; clear hM'))
        go_roundw
        case rel => exact ⟨k + 1, by omega, by go_num, .inr ⟨bL, cL, FL, rfl, hbL, hcL, hFL, hM⟩⟩
        case measure => simp [intOf]; omega
    · obtain rfl : k = n - 1 := by omega
      go_wp2
      go_ret
      exact ⟨_, rfl, hL⟩
end Go.Proofs.YtbmaljhnldepoaaDoor

/-
  spec.l01All by contract; what the cells of a list are.
-/
namespace Go.Proofs.YtbmaljhnldepoaaDoor
open Go Go.RowKit Go.BigFrame

/-- The code of a pasture and of some cells. -/
def allC (g : Nat → Int) (s : Nat → Int × Int) (n : Nat) : Int := if okB g then (if allB g s n then 0 else 2) else 1
theorem allC_bad {g : Nat → Int} {s : Nat → Int × Int} {n : Nat} (h : okB g = false) : allC g s n = 1 := by simp [allC, h]
theorem allC_out {g : Nat → Int} {s : Nat → Int × Int} {n : Nat} (h : okB g = true) (h2 : allB g s n = false) : allC g s n = 2 := by simp [allC, h, h2]
theorem allC_ok {g : Nat → Int} {s : Nat → Int × Int} {n : Nat} (h : okB g = true) (h2 : allB g s n = true) : allC g s n = 0 := by simp [allC, h, h2]
theorem allC_cases (g : Nat → Int) (s : Nat → Int × Int) (n : Nat) : (okB g = false ∧ allC g s n = 1) ∨ (okB g = true ∧ allB g s n = false ∧ allC g s n = 2) ∨ (okB g = true ∧ allB g s n = true ∧ allC g s n = 0) := by
  cases h1 : okB g <;> cases h2 : allB g s n <;> simp [allC, h1, h2]

/-- A cell of a good list. -/
theorem all_cell {g : Nat → Int} {s : Nat → Int × Int} {n : Nat} (ho : okB g = true) (ha : allB g s n = true) : ∀ k, k < n → ∃ u v : Nat, u < 10 ∧ v < 10 ∧ s k = ((u : Int), (v : Int)) := fun k hk => by
  unfold allB at ha
  rw [List.all_eq_true] at ha
  have hb := isB_bounds ho (ha k (by simpa using hk))
  exact ⟨(s k).1.toNat, (s k).2.toNat, by omega, by omega, by ext <;> simp <;> omega⟩
/-- The first cells of a list. -/
def cellsL (s : Nat → Int × Int) (n : Nat) : List (Nat × Nat) := (List.range n).map fun k => ((s k).1.toNat, (s k).2.toNat)
theorem cellsL_zero (s : Nat → Int × Int) : cellsL s 0 = [] := rfl
theorem cellsL_succ {s : Nat → Int × Int} {k u v : Nat} (h : s k = ((u : Int), (v : Int))) : cellsL s (k + 1) = cellsL s k ++ [(u, v)] := by simp [cellsL, List.range_succ, h]
theorem cellsL_length (s : Nat → Int × Int) (n : Nat) : (cellsL s n).length = n := by simp [cellsL]

set_option maxRecDepth 100000 in
set_option maxHeartbeats 1000000 in
theorem l01All_any (g : Nat → Int) (hg : Fits g) (bp b n c : Nat) (s : Nat → Int × Int) (hF : ∀ i, i < n → FitsS (s i)) (hn : n ≤ maxLen) (w : World) (hA : At w bp 122 (pas g)) (hB : At w b (n * 2) (sps s)) (hne : bp ≠ b) :
    Calls Tryd.prog 74 #[.pointer (some ⟨bp, 0, none⟩), .slice (some ⟨b, 0, none⟩) n c] w fun e w' => e = .returned (.int .i64 (allC g s n)) ∧ Below w.heap.size w w' := by
  have hM : Mem w [(bp, 122, pas g), (b, n * 2, sps s)] w := ((Mem.nil w).old hA (fun i p h => by simp at h)).old hB (fun i p h => by
    match i, h with
    | 0, h => simp at h; rw [← h]; exact hne
    | _ + 1, h => simp at h)
  have HF := Lib.hid hF
  unfold maxLen at hn
  clear hA hB hF
  cases ho : okB g
  · have Ho := Lib.hid ho
    clear ho
    go_enter Tryd.func74, Tryd.ntmps74
    go_wp2_with (first | (go_at_call 59; (with_reducible refine (l01Ok_any g hg _ _ (hM.ats 0 _ _ _ rfl)).mono ?_); rintro e W' ⟨rfl, hb'⟩; rw [Ho.out]; have hM' := hM.call hb'; clear hM hb'; have hM := hM'; clear hM'))
    go_ret
    exact ⟨ret_i (allC_bad Ho.out).symm, hM.below⟩
  have Ho := Lib.hid ho
  clear ho
  go_enter Tryd.func74, Tryd.ntmps74
  go_wp2_with (first | (go_at_call 59; (with_reducible refine (l01Ok_any g hg _ _ (hM.ats 0 _ _ _ rfl)).mono ?_); rintro e W' ⟨rfl, hb'⟩; rw [Ho.out]; have hM' := hM.call hb'; clear hM hb'; have hM := hM'; clear hM'))
  go_loopw [5] (fun i wr => ∃ k : Nat, k ≤ n ∧ i = .int .i64 k ∧ Hid (∀ j, j < k → isB g (s j).1 (s j).2 = true) ∧ Mem w [(bp, 122, pas g), (b, n * 2, sps s)] wr) (fun i _ => n - (intOf i).toNat)
  case atStart => exact ⟨0, by omega, rfl, Lib.hid (fun j hj => absurd hj (by omega)), hM⟩
  case round =>
    clear hM
    obtain ⟨k, hk, rfl, hall, hM⟩ := hrel
    by_cases hlt : k < n
    · have er : arr 2 (fun j => sps s (k * 2 + j)) = arr 2 (sp (s k).1 (s k).2) := arr_congr fun j hj => sps_row s k j hj
      have Hf : Hid ((-128 ≤ (s k).1 ∧ (s k).1 ≤ 127) ∧ (-128 ≤ (s k).2 ∧ (s k).2 ≤ 127)) := Lib.hid (HF.out k hlt)
      cases hB : isB g (s k).1 (s k).2
      · have HB := Lib.hid hB
        clear hB
        go_wp2_with (first | (go_at_call 68; (with_reducible refine (l01Is_any g hg _ (s k).1 (s k).2 Hf.out.1 Hf.out.2 _ (hM.ats 0 _ _ _ rfl)).mono ?_); rintro e W' ⟨rfl, hb'⟩; rw [HB.out]; have hM' := hM.call hb'; clear hM hb'; have hM := hM'; clear hM') | ((refine wpList_get rfl _ _ rfl _ _ rfl hM 1 rfl (rowTab _ _ rfl) (by omega) ?_); (simp only [er])))
        go_ret
        exact ⟨ret_i (allC_out Ho.out (allB_no hlt HB.out)).symm, hM.below⟩
      · have HB := Lib.hid hB
        clear hB
        go_wp2_with (first | (go_at_call 68; (with_reducible refine (l01Is_any g hg _ (s k).1 (s k).2 Hf.out.1 Hf.out.2 _ (hM.ats 0 _ _ _ rfl)).mono ?_); rintro e W' ⟨rfl, hb'⟩; rw [HB.out]; have hM' := hM.call hb'; clear hM hb'; have hM := hM'; clear hM') | ((refine wpList_get rfl _ _ rfl _ _ rfl hM 1 rfl (rowTab _ _ rfl) (by omega) ?_); (simp only [er])))
        go_roundw
        case rel => exact ⟨k + 1, by omega, by go_num, Lib.hid (fun j hj => by
          by_cases e : j = k
          · rw [e]; exact HB.out
          · exact hall.out j (by omega)), hM⟩
        case measure => simp [intOf]; omega
    · obtain rfl : k = n := by omega
      go_wp2
      go_ret
      exact ⟨ret_i (allC_ok Ho.out (allB_yes hall.out)).symm, hM.below⟩
end Go.Proofs.YtbmaljhnldepoaaDoor

