/-
  Several texts in one: SpotS, WalkSpec, Wind, WindsSpec.
-/
import Derived.Test.YtbmaljhnldepoaaDoorP9
import Derived.Test.YtbmaljhnldepoaaDoorP4
import Derived.Test.YtbmaljhnldepoaaDoorP5
import Derived.Test.YtbmaljhnldepoaaDoorP7
/-
  Lists of spots: an argument opened to cells; laws.szSpotS, laws.toSpotS, laws.eqSpotS by contracts.
-/
namespace Go.Proofs.YtbmaljhnldepoaaDoor
open Go Go.RowKit Go.BigFrame Go.ChangeShapes Go.WideShapes Go.Deep

/-- A spot's numbers fit their kind. -/
def FitsS (p : Int × Int) : Prop := (-128 ≤ p.1 ∧ p.1 ≤ 127) ∧ (-128 ≤ p.2 ∧ p.2 ≤ 127)
def SpotArg (W : World) (v : Value) (n : Nat) (s : Nat → Int × Int) : Prop :=
  (n = 0 ∧ v = .slice none 0 0) ∨ ∃ b o c, v = .slice (some ⟨b, o, none⟩) n c ∧ Lies W b o (n * 2) (sps s)
theorem SpotArg.below {w W : World} {v : Value} {n : Nat} {s : Nat → Int × Int} (h : SpotArg w v n s) (hb : Below w.heap.size w W) : SpotArg W v n s := by
  rcases h with h | ⟨b, o, c, e, h⟩
  · exact .inl h
  · exact .inr ⟨b, o, c, e, h.below hb⟩
section
variable {H : Type} {enc : TypeId × Value → H} {w : World} {base : Nat} {spare : Nat → Bool} {held : Bool}
set_option maxRecDepth 100000 in
/-- A list of spots out of its type and its reading. -/
theorem open_spots {t : TypeId} (ht : Tryd.prog.underlying t = some (.slice 31)) {b0 : Nat} {v : Value} {d : DataW H} {p : List MemPlace} (hval : Value.okWide Tryd.prog w .any b0 t v) (h : DataW.Trod enc Tryd.prog w base spare held t v d p) :
    ∃ n s, n ≤ maxLen ∧ (∀ i, i < n → FitsS (s i)) ∧ SpotArg w v n s := by
  obtain ⟨fuel, h⟩ := h
  have e : Tryd.prog.cellsOf 31 = 2 := by kernel_rfl
  obtain ⟨sa, sl, sc, rfl⟩ := okWide_slice ht hval
  rcases open_slice ht h with ⟨h1, -⟩ | ⟨a, len, cap, m, n, D, Pl, hcs, hb, hl, hm, hmm, -, hi⟩
  · simp only [Value.cells] at h1
    obtain ⟨rfl, rfl, rfl⟩ : sa = none ∧ sl = 0 ∧ sc = 0 := by simpa using h1
    exact ⟨0, fun _ => (0, 0), by decide, fun i hi => absurd hi (by omega), .inl ⟨rfl, rfl⟩⟩
  · obtain ⟨e1, e2, e3⟩ : sa = some a ∧ sl = len ∧ sc = cap := by simpa [Value.cells] using hcs
    subst e1 e2 e3
    have hlen : sl ≤ m := by rw [hmm]; split <;> omega
    rw [e] at hi
    have key : ∀ i, ∃ g : Int × Int, i < sl → (FitsS g ∧ ∀ j, j < 2 → w.cell? (a.add (i * 2 + j)) = some (sp g.1 g.2 j)) := fun i => by
      by_cases hil : i < sl
      · obtain ⟨cs', hc, ht'⟩ := hi i (by omega)
        obtain ⟨p, q, hg, fp, fq⟩ := spot_cells ht'
        obtain ⟨-, -, hat⟩ := World.cells?_some hc
        refine ⟨(p, q), fun _ => ⟨⟨fp, fq⟩, fun j hj => ?_⟩⟩
        have := hat j hj
        rw [← Go.Deep.add_add] 
        rw [this, hg]
        rcases (show j = 0 ∨ j = 1 by omega) with rfl | rfl <;> rfl
      · exact ⟨(0, 0), fun h => absurd h hil⟩
    have hspot : a.spot = none := by
      unfold Value.okWide at hval
      rw [ht] at hval
      simp only [Cell.okWide, Cell.ok, ht] at hval
      exact hval.2.2.2.1
    obtain ⟨ab, ao, asp⟩ := a
    simp only at hspot
    subst hspot
    refine ⟨sl, fun i => (key i).choose, by omega, fun i hil => ((key i).choose_spec hil).1, .inr ⟨ab, ao, sc, rfl, fun k hk => ?_⟩⟩
    have hki := ((key (k / 2)).choose_spec (by omega)).2 (k % 2) (by omega)
    rw [show k / 2 * 2 + k % 2 = k by omega] at hki
    have e2 : (⟨ab, ao, none⟩ : Addr).add k = ⟨ab, ao + k, none⟩ := by
      unfold Addr.add
      by_cases h0 : k = 0
      · simp [h0]
      · simp [h0]
    rw [e2] at hki
    have hs := sps_row (fun i => (key i).choose) (k / 2) (k % 2) (by omega)
    rw [show k / 2 * 2 + k % 2 = k by omega] at hs
    rw [hki, hs]
end

theorem szSpotS_no (v : Value) (n : Nat) (s : Nat → Int × Int) (left : Int) (hn : n ≤ maxLen) (hl : left < n) (h0 : 0 ≤ left) (hl2 : left ≤ 1048576) (w : World) (h : SpotArg w v n s) :
    Calls Tryd.prog 34 #[v, .int .i64 left] w fun e w' => e = .returned (.int .i64 (-1)) ∧ Below w.heap.size w w' := by
  unfold maxLen at hn
  rcases h with ⟨rfl, rfl⟩ | ⟨b, o, c, rfl, h⟩
  · omega
  · have c1 : IntKind.i64.wrap (left - n) = left - n := IntWalk.i64_in _ (by omega)
    have d1 : decide (left - n < 0) = true := decide_eq_true (by omega)
    clear h
    go_enter Tryd.func34, Tryd.ntmps34
    go_wp2
    go_ret
    exact ⟨rfl, Below.refl _ _⟩
theorem szSpotS_yes (v : Value) (n : Nat) (s : Nat → Int × Int) (left : Int) (hl : (n : Int) ≤ left) (hl2 : left ≤ 1048576) (w : World) (h : SpotArg w v n s) :
    Calls Tryd.prog 34 #[v, .int .i64 left] w fun e w' => e = .returned (.int .i64 (left - n)) ∧ Below w.heap.size w w' := by
  rcases h with ⟨rfl, rfl⟩ | ⟨b, o, c, rfl, h⟩
  · have c1 : IntKind.i64.wrap left = left := IntWalk.i64_in _ (by omega)
    have d1 : decide (left < 0) = false := decide_eq_false (by omega)
    go_enter Tryd.func34, Tryd.ntmps34
    go_wp2
    go_ret
    exact ⟨by simp, Below.refl _ _⟩
  · have c1 : IntKind.i64.wrap (left - n) = left - n := IntWalk.i64_in _ (by omega)
    have d1 : decide (left - n < 0) = false := decide_eq_false (by omega)
    clear h
    go_enter Tryd.func34, Tryd.ntmps34
    go_wp2
    go_ret
    exact ⟨rfl, Below.refl _ _⟩

/-- A new list of spots. -/
def GivenS (n : Nat) (s : Nat → Int × Int) (w : World) (e : Ending) (w' : World) : Prop := ∃ b, e = .returned (.slice (some ⟨b, 0, none⟩) n n) ∧ w.heap.size ≤ b ∧ At w' b (n * 2) (sps s) ∧ Below w.heap.size w w'
set_option maxRecDepth 100000 in
set_option maxHeartbeats 1000000 in
theorem toSpotS_any (v : Value) (n : Nat) (s : Nat → Int × Int) (hn : n ≤ 1048576) (w : World) (h : SpotArg w v n s) : Calls Tryd.prog 36 #[v] w (GivenS n s w) := by
  have hM := Mem.nil w
  rcases h with ⟨rfl, rfl⟩ | ⟨b, o, c, rfl, hL⟩
  · have tk_b1 : True := trivial
    go_enter Tryd.func36, Tryd.ntmps36
    go_wp2_with (first | (have _t := tk_b1; refine wpList_make rfl _ _ _ _ rfl 0 rfl rfl 2 (fun _ => .int .i8 0) 2 Tryd.underlying32 spot_infoB (by omega) (by omega) (by omega) hM ?_; intro b1 W' hb1 hM'; clear hM tk_b1; have hM := hM'; clear hM'))
    refine wp_loop_rounds 1 ?_
    rw [rounds_succ]
    go_wp2
    go_ret
    exact ⟨b1, rfl, hb1, (hM.ats 0 _ _ _ rfl).congr (fun k hk => by omega), hM.below⟩
  · have HL := Lib.hid hL
    clear hL
    have tk_b1 : True := trivial
    go_enter Tryd.func36, Tryd.ntmps36
    go_wp2_with (first | (have _t := tk_b1; refine wpList_make rfl _ _ _ _ rfl n rfl rfl 2 (fun _ => .int .i8 0) 2 Tryd.underlying32 spot_infoB (by omega) (by omega) hn hM ?_; intro b1 W' hb1 hM'; clear hM tk_b1; have hM := hM'; clear hM'))
    go_loopw [4] (fun i wr => ∃ k : Nat, k ≤ n ∧ i = .int .i64 k ∧ ∃ g, Hid (∀ j, j < k * 2 → g j = sps s j) ∧ Mem w [(b1, n * 2, g)] wr) (fun i _ => n - (intOf i).toNat)
    case atStart => exact ⟨0, by omega, rfl, _, Lib.hid (fun j hj => absurd hj (by omega)), hM⟩
    case round =>
      clear hM
      obtain ⟨k, hk, rfl, g, hg, hM⟩ := hrel
      by_cases hlt : k < n
      · go_wp2_with (first | (refine wpList_getL rfl _ _ rfl _ _ rfl _ _ (HL.out.below hM.below) (rowTab _ _ rfl) (k * 2) rfl (by omega) ?_) | (go_at_call 17; refine (toSpot_any _ (fun _ => rfl) _).mono ?_; rintro e W' ⟨rfl, hb'⟩; have hM' := hM.call hb'; clear hM hb'; have hM := hM'; clear hM') | (refine wpList_lay rfl _ _ _ rfl _ _ rfl _ _ rfl hM 0 rfl (by assumption) (rowTab _ _ rfl) (by omega) ?_ ?_; (first | (intro _ _; rfl) | (intro k _; exact h1 _) | (intro k _; simp only [lay, upd]; (repeat' split) <;> first | exact h1 _ | rfl)); intro W' hM'; clear hM; have hM := hM'; clear hM'; simp only [List.set] at hM))
        go_roundw
        case rel => exact ⟨k + 1, by omega, by go_num, _, Lib.hid (fun j hj => by
          by_cases e : k * 2 ≤ j
          · simp only [lay]
            rw [if_pos ⟨e, by omega⟩, show k * 2 + (j - k * 2) = j by omega]
          · simp only [lay]
            rw [if_neg (by omega)]
            exact hg.out j (by omega)), hM⟩
        case measure => simp [intOf]; omega
      · obtain rfl : k = n := by omega
        go_wp2
        go_ret
        exact ⟨b1, rfl, hb1, (hM.ats 0 _ _ _ rfl).congr hg.out, hM.below⟩

set_option maxRecDepth 100000 in
set_option maxHeartbeats 1000000 in
/-- eqSpotS of two lists that hold the same. -/
theorem eqSpotS_same (b b' n c c' : Nat) (s : Nat → Int × Int) (hn : n ≤ maxLen) (w : World) (hA : At w b (n * 2) (sps s)) (hA' : At w b' (n * 2) (sps s)) (hne : b ≠ b') :
    Calls Tryd.prog 19 #[.slice (some ⟨b, 0, none⟩) n c, .slice (some ⟨b', 0, none⟩) n c'] w fun e w' => e = .returned (.bool true) ∧ Below w.heap.size w w' := by
  have hM : Mem w [(b, n * 2, sps s), (b', n * 2, sps s)] w := ((Mem.nil w).old hA (fun i p h => by simp at h)).old hA' (fun i p h => by
    match i, h with
    | 0, h => simp at h; rw [← h]; exact hne
    | _ + 1, h => simp at h)
  unfold maxLen at hn
  clear hA hA'
  go_enter Tryd.func19, Tryd.ntmps19
  go_wp2
  go_loopw [5] (fun i wr => ∃ k : Nat, k ≤ n ∧ i = .int .i64 k ∧ Mem w [(b, n * 2, sps s), (b', n * 2, sps s)] wr) (fun i _ => n - (intOf i).toNat)
  case atStart => exact ⟨0, by omega, rfl, hM⟩
  case round =>
    clear hM
    obtain ⟨k, hk, rfl, hM⟩ := hrel
    by_cases hlt : k < n
    · have l2 : (k : Int) < n := by omega
      have er : arr 2 (fun j => sps s (k * 2 + j)) = arr 2 (sp (s k).1 (s k).2) := arr_congr fun j hj => sps_row s k j hj
      go_wp2
      ((try simp only [Act.put, List.setIfInBounds_toArray, List.set_cons_succ, List.set_cons_zero]); refine wp_region_mem (by kernel_rfl) (by kernel_rfl) hM ?_; clear hM; (repeat (first | go_big_quiet_skip | (go_big_quiet_want; first | (refine quiet_get _ _ rfl _ _ rfl 1 rfl (rowTab _ _ rfl) (by omega) ?_; (simp only [er]); (simp only [Act.put, List.setIfInBounds_toArray, List.set_cons_succ, List.set_cons_zero]); go_big_quiet_on) | (refine quiet_get _ _ rfl _ _ rfl 0 rfl (rowTab _ _ rfl) (by omega) ?_; (simp only [er]); (simp only [Act.put, List.setIfInBounds_toArray, List.set_cons_succ, List.set_cons_zero]); go_big_quiet_on) | (refine quiet_call ?_; apply Exists.intro; apply Exists.intro; apply Exists.intro; refine ⟨fun W => ?_, fun W hM => ?_, ?_⟩; (go_simp; exact ⟨rfl, rfl⟩); (exact eqSpot_same (s k).1 (s k).2 W); (simp only [Act.put, List.setIfInBounds_toArray, List.set_cons_succ, List.set_cons_zero]); go_big_quiet_on) | (refine quiet_val ?_; apply Exists.intro; refine ⟨fun W => ?_, ?_⟩; (go_simp; (try simp only [l2, if_true, Bool.false_eq_true, if_false]); rfl); (simp only [Act.put, List.setIfInBounds_toArray, List.set_cons_succ, List.set_cons_zero]); go_big_quiet_on)))); (with_reducible refine wpQuiet_nil ?_); intro W' hM)
      go_wp2
      go_roundw
      case rel => exact ⟨k + 1, by omega, by go_num, hM⟩
      case measure => simp [intOf]; omega
    · obtain rfl : k = n := by omega
      go_wp2
      go_ret
      exact ⟨rfl, hM.below⟩
end Go.Proofs.YtbmaljhnldepoaaDoor

/-
  Walks: what makes one valid; spec.l05Walk and spec.ValidWalk by contracts.
-/
namespace Go.Proofs.YtbmaljhnldepoaaDoor
open Go Go.RowKit Go.BigFrame

/-- A cell, and not that of the stake. -/
def okAt (g : Nat → Int) (s : Nat → Int × Int) (x y : Int) (k : Nat) : Bool := isB g (s k).1 (s k).2 && !(((s k).1 == x) && ((s k).2 == y))
def joinB (g : Nat → Int) (a b : Int × Int) : Bool := ((b.1 == a.1) && (b.2 == a.2)) || stepB g a.1 a.2 b.1 b.2
def walkB (g : Nat → Int) (s : Nat → Int × Int) (n : Nat) (x y : Int) : Bool := inB 1 200 n && ((List.range n).all fun k => okAt g s x y k) && ((List.range (n - 1)).all fun k => joinB g (s k) (s (k + 1)))
theorem walkB_len {g : Nat → Int} {s : Nat → Int × Int} {n : Nat} {x y : Int} (h : inB 1 200 n = false) : walkB g s n x y = false := by simp [walkB, h]
theorem walkB_at {g : Nat → Int} {s : Nat → Int × Int} {n k : Nat} {x y : Int} (hk : k < n) (h : okAt g s x y k = false) : walkB g s n x y = false := by
  have : ((List.range n).all fun k => okAt g s x y k) = false := by rw [List.all_eq_false]; exact ⟨k, by simpa using hk, by rw [h]; decide⟩
  simp [walkB, this]
theorem walkB_join {g : Nat → Int} {s : Nat → Int × Int} {n k : Nat} {x y : Int} (hk : k + 1 < n) (h : joinB g (s k) (s (k + 1)) = false) : walkB g s n x y = false := by
  have : ((List.range (n - 1)).all fun k => joinB g (s k) (s (k + 1))) = false := by rw [List.all_eq_false]; exact ⟨k, by simp; omega, by rw [h]; decide⟩
  simp [walkB, this]
theorem walkB_yes {g : Nat → Int} {s : Nat → Int × Int} {n : Nat} {x y : Int} (h : inB 1 200 n = true) (h1 : ∀ k, k < n → okAt g s x y k = true) (h2 : ∀ k, k + 1 < n → joinB g (s k) (s (k + 1)) = true) : walkB g s n x y = true := by
  have e1 : ((List.range n).all fun k => okAt g s x y k) = true := by rw [List.all_eq_true]; intro i hi; exact h1 i (by simpa using hi)
  have e2 : ((List.range (n - 1)).all fun k => joinB g (s k) (s (k + 1))) = true := by rw [List.all_eq_true]; intro i hi; exact h2 i (by simp at hi; omega)
  simp [walkB, h, e1, e2]

/-- A step over one of the first m sides. -/
def stepK (g : Nat → Int) (a b : Int × Int) (m : Nat) : Bool := (List.range m).any fun j => !closedB g j a.1 a.2 && ((nxX j a.1 == b.1) && (nxY j a.2 == b.2))
theorem stepK_succ (g : Nat → Int) (a b : Int × Int) (m : Nat) : stepK g a b (m + 1) = (stepK g a b m || (!closedB g m a.1 a.2 && ((nxX m a.1 == b.1) && (nxY m a.2 == b.2)))) := by
  unfold stepK
  rw [List.range_succ, List.any_append]
  simp
theorem hasS_list (l : List (Int × Int)) (u v : Int) : hasS (sI l) l.length u v = l.any fun p => (u == p.1) && (v == p.2) := by
  rw [Bool.eq_iff_iff]
  unfold hasS
  simp only [List.any_eq_true, List.mem_range]
  constructor
  · rintro ⟨i, hi, h⟩
    refine ⟨l[i], List.getElem_mem hi, ?_⟩
    simpa [sI, List.getElem?_eq_getElem hi] using h
  · rintro ⟨p, hp, h⟩
    obtain ⟨i, hi, rfl⟩ := List.getElem_of_mem hp
    exact ⟨i, hi, by simpa [sI, List.getElem?_eq_getElem hi] using h⟩
theorem beq_swap (a b : Int) : (a == b) = (b == a) := by
  rw [Bool.eq_iff_iff]
  simp only [beq_iff_eq]
  exact ⟨Eq.symm, Eq.symm⟩
theorem stepK_4 (g : Nat → Int) (a b : Int × Int) : stepK g a b 4 = stepB g a.1 a.2 b.1 b.2 := by
  unfold stepB
  rw [hasS_list]
  unfold besL stepK
  rw [List.any_map, List.any_filter]
  congr 1
  funext j
  simp only [Function.comp]
  rw [beq_swap b.1, beq_swap b.2]
end Go.Proofs.YtbmaljhnldepoaaDoor

/-
  (impl.Spot).isEastOf and impl.windOf by contracts; what a step of a walk counts, told twice.
-/
namespace Go.Proofs.YtbmaljhnldepoaaDoor
open Go Go.RowKit Go.BigFrame

def eastB (a b : Int × Int) : Bool := (a.2 == b.2) && decide (b.1 < a.1)
set_option maxRecDepth 100000 in
set_option maxHeartbeats 1000000 in
theorem isEastOf_any (x y u v : Int) (w : World) :
    Calls Tryd.prog 137 #[.agg (arr 2 (sp x y)), .agg (arr 2 (sp u v))] w fun e w' => e = .returned (.bool (eastB (x, y) (u, v))) ∧ Below w.heap.size w w' := by
  have hM := Mem.nil w
  by_cases hy : y = v
  · have ey : (y == v) = true := by simpa using hy
    by_cases hx : u < x
    · have dx : decide (u < x) = true := decide_eq_true hx
      have Hp : Hid (eastB (x, y) (u, v) = true) := Lib.hid (by simp [eastB, hy, hx])
      clear hy hx
      have tk_b1 : True := trivial; have tk_b2 : True := trivial
      go_enter Tryd.func137, Tryd.ntmps137
      go_wp2_with (first | (have _t := tk_b1; refine wpList_box rfl _ _ rfl _ _ rfl hM ?_; intro b1 W' hb1 hM'; clear hM tk_b1; have hM := hM'; clear hM') | (have _t := tk_b2; refine wpList_box rfl _ _ rfl _ _ rfl hM ?_; intro b2 W' hb2 hM'; clear hM tk_b2; have hM := hM'; clear hM'; have k1 : W'.cell? ⟨b1, 0, none⟩ = some (.int .i8 x) := (hM.ats 1 _ _ _ rfl).cell (k := 0) (by omega); have k2 : W'.cell? ⟨b1, 1, none⟩ = some (.int .i8 y) := (hM.ats 1 _ _ _ rfl).cell (k := 1) (by omega); have k3 : W'.cell? ⟨b2, 0, none⟩ = some (.int .i8 u) := (hM.ats 0 _ _ _ rfl).cell (k := 0) (by omega); have k4 : W'.cell? ⟨b2, 1, none⟩ = some (.int .i8 v) := (hM.ats 0 _ _ _ rfl).cell (k := 1) (by omega)))
      go_ret
      exact ⟨ret_bool Hp.out.symm, hM.below⟩
    · have dx : decide (u < x) = false := decide_eq_false hx
      have Hp : Hid (eastB (x, y) (u, v) = false) := Lib.hid (by simp [eastB, hy]; omega)
      clear hy hx
      have tk_b1 : True := trivial; have tk_b2 : True := trivial
      go_enter Tryd.func137, Tryd.ntmps137
      go_wp2_with (first | (have _t := tk_b1; refine wpList_box rfl _ _ rfl _ _ rfl hM ?_; intro b1 W' hb1 hM'; clear hM tk_b1; have hM := hM'; clear hM') | (have _t := tk_b2; refine wpList_box rfl _ _ rfl _ _ rfl hM ?_; intro b2 W' hb2 hM'; clear hM tk_b2; have hM := hM'; clear hM'; have k1 : W'.cell? ⟨b1, 0, none⟩ = some (.int .i8 x) := (hM.ats 1 _ _ _ rfl).cell (k := 0) (by omega); have k2 : W'.cell? ⟨b1, 1, none⟩ = some (.int .i8 y) := (hM.ats 1 _ _ _ rfl).cell (k := 1) (by omega); have k3 : W'.cell? ⟨b2, 0, none⟩ = some (.int .i8 u) := (hM.ats 0 _ _ _ rfl).cell (k := 0) (by omega); have k4 : W'.cell? ⟨b2, 1, none⟩ = some (.int .i8 v) := (hM.ats 0 _ _ _ rfl).cell (k := 1) (by omega)))
      go_ret
      exact ⟨ret_bool Hp.out.symm, hM.below⟩
  · have ey : (y == v) = false := by simpa using hy
    have Hp : Hid (eastB (x, y) (u, v) = false) := Lib.hid (by simp [eastB, hy])
    clear hy
    have tk_b1 : True := trivial; have tk_b2 : True := trivial
    go_enter Tryd.func137, Tryd.ntmps137
    go_wp2_with (first | (have _t := tk_b1; refine wpList_box rfl _ _ rfl _ _ rfl hM ?_; intro b1 W' hb1 hM'; clear hM tk_b1; have hM := hM'; clear hM') | (have _t := tk_b2; refine wpList_box rfl _ _ rfl _ _ rfl hM ?_; intro b2 W' hb2 hM'; clear hM tk_b2; have hM := hM'; clear hM'; have k1 : W'.cell? ⟨b1, 0, none⟩ = some (.int .i8 x) := (hM.ats 1 _ _ _ rfl).cell (k := 0) (by omega); have k2 : W'.cell? ⟨b1, 1, none⟩ = some (.int .i8 y) := (hM.ats 1 _ _ _ rfl).cell (k := 1) (by omega); have k3 : W'.cell? ⟨b2, 0, none⟩ = some (.int .i8 u) := (hM.ats 0 _ _ _ rfl).cell (k := 0) (by omega); have k4 : W'.cell? ⟨b2, 1, none⟩ = some (.int .i8 v) := (hM.ats 0 _ _ _ rfl).cell (k := 1) (by omega)))
    go_ret
    exact ⟨ret_bool Hp.out.symm, hM.below⟩

/-- What a step counts, as impl tells it. -/
def dI (x y : Int) (a b : Int × Int) : Int := if (eastB a (x, y) && ((b.1 == a.1) && (b.2 == a.2 + 1))) = true then 1 else if (eastB a (x, y + 1) && ((b.1 == a.1) && (b.2 == a.2 - 1))) = true then -1 else 0

set_option maxRecDepth 100000 in
set_option maxHeartbeats 2000000 in
theorem windOf_any (x y : Int) (hx : 0 ≤ x ∧ x ≤ 9) (hy : 0 ≤ y ∧ y ≤ 9) (a b : Int × Int) (ha1 : 0 ≤ a.1 ∧ a.1 ≤ 9) (ha2 : 0 ≤ a.2 ∧ a.2 ≤ 9) (w : World) :
    Calls Tryd.prog 96 #[.agg (arr 2 (sp x y)), .agg (arr 2 (sp a.1 a.2)), .agg (arr 2 (sp b.1 b.2))] w fun e w' => e = .returned (.int .i64 (dI x y a b)) ∧ Below w.heap.size w w' := by
  have hM := Mem.nil w
  have hq1 := eql_spot b.1 b.2 a.1 (a.2 + 1)
  have hq2 := eql_spot b.1 b.2 a.1 (a.2 - 1)
  obtain ⟨r, hr⟩ : ∃ r, dI x y a b = r := ⟨_, rfl⟩
  have hr2 := hr
  unfold dI at hr2
  rw [hr]
  clear hr
  have Hx := Lib.hid hx
  have Hy := Lib.hid hy
  have Ha1 := Lib.hid ha1
  have Ha2 := Lib.hid ha2
  clear hx hy ha1 ha2
  cases h1 : eastB a (x, y) <;> cases h2 : ((b.1 == a.1) && (b.2 == a.2 + 1)) <;> cases h3 : eastB a (x, y + 1) <;> cases h4 : ((b.1 == a.1) && (b.2 == a.2 - 1))
  all_goals
    rw [h1, h2, h3, h4] at hr2
    rw [h2] at hq1
    rw [h4] at hq2
    have Hr := Lib.hid hr2
    clear hr2
    have tk_b1 : True := trivial; have tk_b2 : True := trivial; have tk_b3 : True := trivial
    go_enter Tryd.func96, Tryd.ntmps96
    go_wp2_with (first | (have _t := tk_b1; refine wpList_box rfl _ _ rfl _ _ rfl hM ?_; intro b1 W' hb1 hM'; clear hM tk_b1; have hM := hM'; clear hM') | (have _t := tk_b2; refine wpList_box rfl _ _ rfl _ _ rfl hM ?_; intro b2 W' hb2 hM'; clear hM tk_b2; have hM := hM'; clear hM') | (have _t := tk_b3; refine wpList_box rfl _ _ rfl _ _ rfl hM ?_; intro b3 W' hb3 hM'; clear hM tk_b3; have hM := hM'; clear hM'))
    ((try simp only [Act.put, List.setIfInBounds_toArray, List.set_cons_succ, List.set_cons_zero]); refine wp_region_mem (by kernel_rfl) (by kernel_rfl) hM ?_; clear hM; (repeat (first | go_big_quiet_skip | (go_big_quiet_want; first | (refine quiet_get _ _ rfl _ _ rfl 2 rfl (rowTab _ _ rfl) (by omega) ?_; (simp only [Act.put, List.setIfInBounds_toArray, List.set_cons_succ, List.set_cons_zero]); go_big_quiet_on) | (refine quiet_get _ _ rfl _ _ rfl 1 rfl (rowTab _ _ rfl) (by omega) ?_; (simp only [Act.put, List.setIfInBounds_toArray, List.set_cons_succ, List.set_cons_zero]); go_big_quiet_on) | (refine quiet_get _ _ rfl _ _ rfl 0 rfl (rowTab _ _ rfl) (by omega) ?_; (simp only [Act.put, List.setIfInBounds_toArray, List.set_cons_succ, List.set_cons_zero]); go_big_quiet_on) | (refine quiet_call ?_; apply Exists.intro; apply Exists.intro; apply Exists.intro; refine ⟨fun W => ?_, fun W hM => ?_, ?_⟩; (go_simp; exact ⟨rfl, rfl⟩); (with_reducible exact isEastOf_any a.1 a.2 x y W); (simp only [h1]); (simp only [Act.put, List.setIfInBounds_toArray, List.set_cons_succ, List.set_cons_zero]); go_big_quiet_on) | (refine quiet_call ?_; apply Exists.intro; apply Exists.intro; apply Exists.intro; refine ⟨fun W => ?_, fun W hM => ?_, ?_⟩; (go_simp; exact ⟨rfl, rfl⟩); (with_reducible exact south_any a.1 a.2 Ha1.out Ha2.out W); (simp only [Act.put, List.setIfInBounds_toArray, List.set_cons_succ, List.set_cons_zero]); go_big_quiet_on) | (refine quiet_val ?_; apply Exists.intro; refine ⟨fun W => ?_, ?_⟩; (go_simp; (try simp only [hq1, if_true, Bool.false_eq_true, if_false]); rfl); (simp only [Act.put, List.setIfInBounds_toArray, List.set_cons_succ, List.set_cons_zero]); go_big_quiet_on)))); (with_reducible refine wpQuiet_nil ?_); intro W' hM)
    go_wp2
    (try ((try simp only [Act.put, List.setIfInBounds_toArray, List.set_cons_succ, List.set_cons_zero]); refine wp_region_mem (by kernel_rfl) (by kernel_rfl) hM ?_; clear hM; (repeat (first | go_big_quiet_skip | (go_big_quiet_want; first | (refine quiet_get _ _ rfl _ _ rfl 2 rfl (rowTab _ _ rfl) (by omega) ?_; (simp only [Act.put, List.setIfInBounds_toArray, List.set_cons_succ, List.set_cons_zero]); go_big_quiet_on) | (refine quiet_get _ _ rfl _ _ rfl 1 rfl (rowTab _ _ rfl) (by omega) ?_; (simp only [Act.put, List.setIfInBounds_toArray, List.set_cons_succ, List.set_cons_zero]); go_big_quiet_on) | (refine quiet_get _ _ rfl _ _ rfl 0 rfl (rowTab _ _ rfl) (by omega) ?_; (simp only [Act.put, List.setIfInBounds_toArray, List.set_cons_succ, List.set_cons_zero]); go_big_quiet_on) | (refine quiet_call ?_; apply Exists.intro; apply Exists.intro; apply Exists.intro; refine ⟨fun W => ?_, fun W hM => ?_, ?_⟩; (go_simp; exact ⟨rfl, rfl⟩); (with_reducible exact south_any x y Hx.out Hy.out W); (simp only [Act.put, List.setIfInBounds_toArray, List.set_cons_succ, List.set_cons_zero]); go_big_quiet_on) | (refine quiet_call ?_; apply Exists.intro; apply Exists.intro; apply Exists.intro; refine ⟨fun W => ?_, fun W hM => ?_, ?_⟩; (go_simp; exact ⟨rfl, rfl⟩); (with_reducible exact isEastOf_any a.1 a.2 x (y + 1) W); (simp only [h3]); (simp only [Act.put, List.setIfInBounds_toArray, List.set_cons_succ, List.set_cons_zero]); go_big_quiet_on) | (refine quiet_call ?_; apply Exists.intro; apply Exists.intro; apply Exists.intro; refine ⟨fun W => ?_, fun W hM => ?_, ?_⟩; (go_simp; exact ⟨rfl, rfl⟩); (with_reducible exact north_any a.1 a.2 Ha1.out Ha2.out W); (simp only [Act.put, List.setIfInBounds_toArray, List.set_cons_succ, List.set_cons_zero]); go_big_quiet_on) | (refine quiet_val ?_; apply Exists.intro; refine ⟨fun W => ?_, ?_⟩; (go_simp; (try simp only [hq2, if_true, Bool.false_eq_true, if_false]); rfl); (simp only [Act.put, List.setIfInBounds_toArray, List.set_cons_succ, List.set_cons_zero]); go_big_quiet_on)))); (with_reducible refine wpQuiet_nil ?_); intro W' hM))
    go_wp2
    go_ret
    exact ⟨by first | exact ret_i Hr.out | (rw [← Hr.out]; rfl), hM.below⟩

/-- What a step counts, as spec tells it. -/
def dS (x y : Int) (a b : Int × Int) : Int := if a.1 ≤ x ∨ b.1 ≤ x then 0 else if a.2 = y ∧ b.2 = y + 1 then 1 else if a.2 = y + 1 ∧ b.2 = y then -1 else 0
theorem dS_dI {g : Nat → Int} {x y : Int} {a b : Int × Int} (h : joinB g a b = true) : dS x y a b = dI x y a b := by
  have hc : b = a ∨ ∃ k, k < 4 ∧ b = (nxX k a.1, nxY k a.2) := by
    unfold joinB at h
    rw [Bool.or_eq_true] at h
    rcases h with h | h
    · left
      simp only [Bool.and_eq_true, beq_iff_eq] at h
      exact Prod.ext h.1 h.2
    · right
      rw [← stepK_4] at h
      unfold stepK at h
      rw [List.any_eq_true] at h
      obtain ⟨k, hk, h⟩ := h
      simp only [Bool.and_eq_true, beq_iff_eq] at h
      exact ⟨k, by simpa using hk, Prod.ext h.2.1.symm h.2.2.symm⟩
  obtain ⟨a1, a2⟩ := a
  obtain ⟨b1, b2⟩ := b
  have hc' : (b1 = a1 ∧ b2 = a2) ∨ (b1 = a1 ∧ b2 = a2 - 1) ∨ (b1 = a1 + 1 ∧ b2 = a2) ∨ (b1 = a1 ∧ b2 = a2 + 1) ∨ (b1 = a1 - 1 ∧ b2 = a2) := by
    rcases hc with hc | ⟨k, hk, hc⟩
    · left; simpa using hc
    · rcases (show k = 0 ∨ k = 1 ∨ k = 2 ∨ k = 3 by omega) with rfl | rfl | rfl | rfl <;> simp [nxX, nxY] at hc <;> omega
  clear hc h
  unfold dS dI eastB
  simp only [Bool.and_eq_true, beq_iff_eq, decide_eq_true_eq]
  (repeat' split) <;> omega
end Go.Proofs.YtbmaljhnldepoaaDoor

/-
  spec.l05Winds by contract.
-/
namespace Go.Proofs.YtbmaljhnldepoaaDoor
open Go Go.RowKit Go.BigFrame

/-- The sum of what the first m steps count. -/
def sumW (f : Int × Int → Int × Int → Int) (s : Nat → Int × Int) : Nat → Int
  | 0 => 0
  | m + 1 => sumW f s m + f (s m) (s (m + 1))
theorem dS_small (x y : Int) (a b : Int × Int) : -1 ≤ dS x y a b ∧ dS x y a b ≤ 1 := by
  unfold dS
  (repeat' split) <;> omega
theorem sumW_small (x y : Int) (s : Nat → Int × Int) : ∀ m : Nat, -(m : Int) ≤ sumW (dS x y) s m ∧ sumW (dS x y) s m ≤ m
  | 0 => ⟨by simp [sumW], by simp [sumW]⟩
  | m + 1 => by
    have h1 := sumW_small x y s m
    have h2 := dS_small x y (s m) (s (m + 1))
    constructor
    · show -((m + 1 : Nat) : Int) ≤ sumW (dS x y) s m + dS x y (s m) (s (m + 1)); omega
    · show sumW (dS x y) s m + dS x y (s m) (s (m + 1)) ≤ ((m + 1 : Nat) : Int); omega
theorem sumW_eq {x y : Int} {s : Nat → Int × Int} : ∀ m : Nat, (∀ k, k < m → dS x y (s k) (s (k + 1)) = dI x y (s k) (s (k + 1))) → sumW (dI x y) s m = sumW (dS x y) s m
  | 0, _ => rfl
  | m + 1, h => by
    show sumW (dI x y) s m + dI x y (s m) (s (m + 1)) = sumW (dS x y) s m + dS x y (s m) (s (m + 1))
    rw [sumW_eq m (fun k hk => h k (by omega)), h m (by omega)]

set_option maxRecDepth 100000 in
set_option maxHeartbeats 4000000 in
theorem l05Winds_any (bw n c : Nat) (x y : Int) (hx : 0 ≤ x ∧ x ≤ 9) (hy : 0 ≤ y ∧ y ≤ 9) (s : Nat → Int × Int) (hn1 : 1 ≤ n) (hn : n ≤ 200) (w : World) (hB : At w bw (n * 2) (sps s)) :
    Calls Tryd.prog 95 #[.agg (arr 2 (sp x y)), .slice (some ⟨bw, 0, none⟩) n c] w fun e w' => e = .returned (.int .i64 (sumW (dS x y) s (n - 1))) ∧ Below w.heap.size w w' := by
  have hM : Mem w [(bw, n * 2, sps s)] w := (Mem.nil w).old hB (fun i p h => by simp at h)
  clear hB
  have c8 : IntKind.i8.wrap (y + 1) = y + 1 := IntWalk.i8_in _ (by omega)
  have tk_b1 : True := trivial
  go_enter Tryd.func95, Tryd.ntmps95
  go_wp2_with (first | (have _t := tk_b1; refine wpList_box rfl _ _ rfl _ _ rfl hM ?_; intro b1 W' hb1 hM'; clear hM tk_b1; have hM := hM'; clear hM'))
  go_loopw [5, 6] (fun v i wr => ∃ k : Nat, 1 ≤ k ∧ k ≤ n ∧ i = .int .i64 k ∧ v = .int .i64 (sumW (dS x y) s (k - 1)) ∧ Mem w [(b1, 2, sp x y), (bw, n * 2, sps s)] wr) (fun _ i _ => n - (intOf i).toNat)
  case atStart => exact ⟨1, by omega, by omega, rfl, rfl, hM⟩
  case round =>
    clear hM
    obtain ⟨k, hk1, hk, rfl, rfl, hM⟩ := hrel
    by_cases hlt : k < n
    case neg =>
      obtain rfl : k = n := by omega
      go_wp2
      go_ret
      exact ⟨rfl, hM.below⟩
    have l2 : (k : Int) < n := by omega
    have l3 : decide ((k : Int) < n) = true := decide_eq_true l2
    have c1 : IntKind.i64.wrap ((k : Int) - 1) = ((k - 1 : Nat) : Int) := by rw [IntWalk.i64_in _ (by omega)]; omega
    have er : arr 2 (fun j => sps s ((k - 1) * 2 + j)) = arr 2 (sp (s (k - 1)).1 (s (k - 1)).2) := arr_congr fun j hj => sps_row _ _ _ hj
    have er1 : arr 2 (fun j => sps s (k * 2 + j)) = arr 2 (sp (s k).1 (s k).2) := arr_congr fun j hj => sps_row _ _ _ hj
    have hsm := sumW_small x y s (k - 1)
    have hsu : sumW (dS x y) s (k + 1 - 1) = sumW (dS x y) s (k - 1) + dS x y (s (k - 1)) (s k) := by
      have e : k + 1 - 1 = (k - 1) + 1 := by omega
      have e2 : k - 1 + 1 = k := by omega
      rw [e]
      show sumW (dS x y) s (k - 1) + dS x y (s (k - 1)) (s (k - 1 + 1)) = _
      rw [e2]
    have hd : dS x y (s (k - 1)) (s k) = if (s (k - 1)).1 ≤ x ∨ (s k).1 ≤ x then 0 else if (s (k - 1)).2 = y ∧ (s k).2 = y + 1 then 1 else if (s (k - 1)).2 = y + 1 ∧ (s k).2 = y then -1 else 0 := rfl
    have wp : IntKind.i64.wrap (sumW (dS x y) s (k - 1) + 1) = sumW (dS x y) s (k - 1) + 1 := IntWalk.i64_in _ (by omega)
    have wm : IntKind.i64.wrap (sumW (dS x y) s (k - 1) - 1) = sumW (dS x y) s (k - 1) - 1 := IntWalk.i64_in _ (by omega)
    generalize dS x y (s (k - 1)) (s k) = D at hsu hd
    have Hsu := Lib.hid hsu
    have Hd := Lib.hid hd
    clear hsu hd hsm
    generalize hS : sumW (dS x y) s (k - 1) = S at wp wm Hsu ⊢
    clear hS
    obtain ⟨A1, hA1⟩ : ∃ A1, (s (k - 1)).1 = A1 := ⟨_, rfl⟩
    obtain ⟨A2, hA2⟩ : ∃ A2, (s (k - 1)).2 = A2 := ⟨_, rfl⟩
    obtain ⟨B1, hB1⟩ : ∃ B1, (s k).1 = B1 := ⟨_, rfl⟩
    obtain ⟨B2, hB2⟩ : ∃ B2, (s k).2 = B2 := ⟨_, rfl⟩
    rw [hA1, hA2] at er
    rw [hB1, hB2] at er1
    rw [hA1, hA2, hB1, hB2] at Hd
    clear hA1 hA2 hB1 hB2
    by_cases p1 : A1 ≤ x
    case pos =>
      have dA : decide (A1 ≤ x) = true := decide_eq_true p1
      have Hv : Hid (D = 0) := Lib.hid (by have := Hd.out; rw [this]; (repeat' split) <;> omega)
      clear p1
      have tk_ba : True := trivial; have tk_bb : True := trivial; have tk_g1 : True := trivial; have tk_g2 : True := trivial; have tk_l1 : True := trivial; have tk_l2 : True := trivial
      go_wp2_with (first | (have _t := tk_g1; refine wpList_get rfl _ _ rfl _ _ rfl hM 1 rfl (rowTab _ 2 rfl) (by omega) ?_; rw [er]; clear tk_g1) | (have _t := tk_ba; refine wpList_zero rfl _ rfl (zeroTab _ _ _ rfl) hM ?_; intro ba W' hba hM'; clear hM tk_ba; have hM := hM'; clear hM') | (have _t := tk_l1; (refine wpList_lay rfl _ _ _ rfl _ _ rfl _ _ rfl hM 0 rfl (by assumption) (rowTab _ _ rfl) (by omega) ?_ ?_; (first | (intro _ _; rfl) | (intro k _; exact h1 _) | (intro k _; simp only [lay, upd]; (repeat' split) <;> first | exact h1 _ | rfl)); intro W' hM'; clear hM; have hM := hM'; clear hM'; simp only [List.set] at hM); clear tk_l1) | (have _t := tk_g2; refine wpList_get rfl _ _ rfl _ _ rfl hM 2 rfl (rowTab _ 2 rfl) (by omega) ?_; rw [er1]; clear tk_g2) | (have _t := tk_bb; refine wpList_zero rfl _ rfl (zeroTab _ _ _ rfl) hM ?_; intro bb W' hbb hM'; clear hM tk_bb; have hM := hM'; clear hM') | (have _t := tk_l2; (refine wpList_lay rfl _ _ _ rfl _ _ rfl _ _ rfl hM 0 rfl (by assumption) (rowTab _ _ rfl) (by omega) ?_ ?_; (first | (intro _ _; rfl) | (intro k _; exact h1 _) | (intro k _; simp only [lay, upd]; (repeat' split) <;> first | exact h1 _ | rfl)); intro W' hM'; clear hM; have hM := hM'; clear hM'; simp only [List.set] at hM); clear tk_l2; have kA0 : W'.cell? ⟨ba, 0, none⟩ = some (.int .i8 A1) := ((hM.ats 1 _ _ _ rfl).cell (k := 0) (by omega)).trans (congrArg some ((lay_sp _ _ _ 0 (by omega)).trans rfl)); have kA1 : W'.cell? ⟨ba, 1, none⟩ = some (.int .i8 A2) := ((hM.ats 1 _ _ _ rfl).cell (k := 1) (by omega)).trans (congrArg some ((lay_sp _ _ _ 1 (by omega)).trans rfl)); have kB0 : W'.cell? ⟨bb, 0, none⟩ = some (.int .i8 B1) := ((hM.ats 0 _ _ _ rfl).cell (k := 0) (by omega)).trans (congrArg some ((lay_sp _ _ _ 0 (by omega)).trans rfl)); have kB1 : W'.cell? ⟨bb, 1, none⟩ = some (.int .i8 B2) := ((hM.ats 0 _ _ _ rfl).cell (k := 1) (by omega)).trans (congrArg some ((lay_sp _ _ _ 1 (by omega)).trans rfl)); have kx : W'.cell? ⟨b1, 0, none⟩ = some (.int .i8 x) := (hM.ats 2 _ _ _ rfl).cell (k := 0) (by omega); have ky : W'.cell? ⟨b1, 1, none⟩ = some (.int .i8 y) := (hM.ats 2 _ _ _ rfl).cell (k := 1) (by omega)))
      go_roundw
      case rel => exact ⟨k + 1, by omega, by omega, by go_num, by rw [Hsu.out, Hv.out]; simp, hM.drop.drop⟩
      case measure => simp [intOf]; omega
    by_cases p2 : B1 ≤ x
    case pos =>
      have dA : decide (A1 ≤ x) = false := decide_eq_false p1
      have dB : decide (B1 ≤ x) = true := decide_eq_true p2
      have Hv : Hid (D = 0) := Lib.hid (by have := Hd.out; rw [this]; (repeat' split) <;> omega)
      clear p1 p2
      have tk_ba : True := trivial; have tk_bb : True := trivial; have tk_g1 : True := trivial; have tk_g2 : True := trivial; have tk_l1 : True := trivial; have tk_l2 : True := trivial
      go_wp2_with (first | (have _t := tk_g1; refine wpList_get rfl _ _ rfl _ _ rfl hM 1 rfl (rowTab _ 2 rfl) (by omega) ?_; rw [er]; clear tk_g1) | (have _t := tk_ba; refine wpList_zero rfl _ rfl (zeroTab _ _ _ rfl) hM ?_; intro ba W' hba hM'; clear hM tk_ba; have hM := hM'; clear hM') | (have _t := tk_l1; (refine wpList_lay rfl _ _ _ rfl _ _ rfl _ _ rfl hM 0 rfl (by assumption) (rowTab _ _ rfl) (by omega) ?_ ?_; (first | (intro _ _; rfl) | (intro k _; exact h1 _) | (intro k _; simp only [lay, upd]; (repeat' split) <;> first | exact h1 _ | rfl)); intro W' hM'; clear hM; have hM := hM'; clear hM'; simp only [List.set] at hM); clear tk_l1) | (have _t := tk_g2; refine wpList_get rfl _ _ rfl _ _ rfl hM 2 rfl (rowTab _ 2 rfl) (by omega) ?_; rw [er1]; clear tk_g2) | (have _t := tk_bb; refine wpList_zero rfl _ rfl (zeroTab _ _ _ rfl) hM ?_; intro bb W' hbb hM'; clear hM tk_bb; have hM := hM'; clear hM') | (have _t := tk_l2; (refine wpList_lay rfl _ _ _ rfl _ _ rfl _ _ rfl hM 0 rfl (by assumption) (rowTab _ _ rfl) (by omega) ?_ ?_; (first | (intro _ _; rfl) | (intro k _; exact h1 _) | (intro k _; simp only [lay, upd]; (repeat' split) <;> first | exact h1 _ | rfl)); intro W' hM'; clear hM; have hM := hM'; clear hM'; simp only [List.set] at hM); clear tk_l2; have kA0 : W'.cell? ⟨ba, 0, none⟩ = some (.int .i8 A1) := ((hM.ats 1 _ _ _ rfl).cell (k := 0) (by omega)).trans (congrArg some ((lay_sp _ _ _ 0 (by omega)).trans rfl)); have kA1 : W'.cell? ⟨ba, 1, none⟩ = some (.int .i8 A2) := ((hM.ats 1 _ _ _ rfl).cell (k := 1) (by omega)).trans (congrArg some ((lay_sp _ _ _ 1 (by omega)).trans rfl)); have kB0 : W'.cell? ⟨bb, 0, none⟩ = some (.int .i8 B1) := ((hM.ats 0 _ _ _ rfl).cell (k := 0) (by omega)).trans (congrArg some ((lay_sp _ _ _ 0 (by omega)).trans rfl)); have kB1 : W'.cell? ⟨bb, 1, none⟩ = some (.int .i8 B2) := ((hM.ats 0 _ _ _ rfl).cell (k := 1) (by omega)).trans (congrArg some ((lay_sp _ _ _ 1 (by omega)).trans rfl)); have kx : W'.cell? ⟨b1, 0, none⟩ = some (.int .i8 x) := (hM.ats 2 _ _ _ rfl).cell (k := 0) (by omega); have ky : W'.cell? ⟨b1, 1, none⟩ = some (.int .i8 y) := (hM.ats 2 _ _ _ rfl).cell (k := 1) (by omega)))
      go_roundw
      case rel => exact ⟨k + 1, by omega, by omega, by go_num, by rw [Hsu.out, Hv.out]; simp, hM.drop.drop⟩
      case measure => simp [intOf]; omega
    by_cases q1 : A2 = y
    case pos =>
      have q3 : ¬ A2 = y + 1 := by omega
      by_cases q2 : B2 = y + 1
      case pos =>
        have dA : decide (A1 ≤ x) = false := decide_eq_false p1
        have dB : decide (B1 ≤ x) = false := decide_eq_false p2
        have e1 : (A2 == y) = true := by simpa using q1
        have e2 : (B2 == y + 1) = true := by simpa using q2
        have e3 : (A2 == y + 1) = false := by simpa using q3
        have Hv : Hid (D = 1) := Lib.hid (by have := Hd.out; rw [this]; (repeat' split) <;> omega)
        clear p1 p2 q1 q2 q3
        have tk_ba : True := trivial; have tk_bb : True := trivial; have tk_g1 : True := trivial; have tk_g2 : True := trivial; have tk_l1 : True := trivial; have tk_l2 : True := trivial
        go_wp2_with (first | (have _t := tk_g1; refine wpList_get rfl _ _ rfl _ _ rfl hM 1 rfl (rowTab _ 2 rfl) (by omega) ?_; rw [er]; clear tk_g1) | (have _t := tk_ba; refine wpList_zero rfl _ rfl (zeroTab _ _ _ rfl) hM ?_; intro ba W' hba hM'; clear hM tk_ba; have hM := hM'; clear hM') | (have _t := tk_l1; (refine wpList_lay rfl _ _ _ rfl _ _ rfl _ _ rfl hM 0 rfl (by assumption) (rowTab _ _ rfl) (by omega) ?_ ?_; (first | (intro _ _; rfl) | (intro k _; exact h1 _) | (intro k _; simp only [lay, upd]; (repeat' split) <;> first | exact h1 _ | rfl)); intro W' hM'; clear hM; have hM := hM'; clear hM'; simp only [List.set] at hM); clear tk_l1) | (have _t := tk_g2; refine wpList_get rfl _ _ rfl _ _ rfl hM 2 rfl (rowTab _ 2 rfl) (by omega) ?_; rw [er1]; clear tk_g2) | (have _t := tk_bb; refine wpList_zero rfl _ rfl (zeroTab _ _ _ rfl) hM ?_; intro bb W' hbb hM'; clear hM tk_bb; have hM := hM'; clear hM') | (have _t := tk_l2; (refine wpList_lay rfl _ _ _ rfl _ _ rfl _ _ rfl hM 0 rfl (by assumption) (rowTab _ _ rfl) (by omega) ?_ ?_; (first | (intro _ _; rfl) | (intro k _; exact h1 _) | (intro k _; simp only [lay, upd]; (repeat' split) <;> first | exact h1 _ | rfl)); intro W' hM'; clear hM; have hM := hM'; clear hM'; simp only [List.set] at hM); clear tk_l2; have kA0 : W'.cell? ⟨ba, 0, none⟩ = some (.int .i8 A1) := ((hM.ats 1 _ _ _ rfl).cell (k := 0) (by omega)).trans (congrArg some ((lay_sp _ _ _ 0 (by omega)).trans rfl)); have kA1 : W'.cell? ⟨ba, 1, none⟩ = some (.int .i8 A2) := ((hM.ats 1 _ _ _ rfl).cell (k := 1) (by omega)).trans (congrArg some ((lay_sp _ _ _ 1 (by omega)).trans rfl)); have kB0 : W'.cell? ⟨bb, 0, none⟩ = some (.int .i8 B1) := ((hM.ats 0 _ _ _ rfl).cell (k := 0) (by omega)).trans (congrArg some ((lay_sp _ _ _ 0 (by omega)).trans rfl)); have kB1 : W'.cell? ⟨bb, 1, none⟩ = some (.int .i8 B2) := ((hM.ats 0 _ _ _ rfl).cell (k := 1) (by omega)).trans (congrArg some ((lay_sp _ _ _ 1 (by omega)).trans rfl)); have kx : W'.cell? ⟨b1, 0, none⟩ = some (.int .i8 x) := (hM.ats 2 _ _ _ rfl).cell (k := 0) (by omega); have ky : W'.cell? ⟨b1, 1, none⟩ = some (.int .i8 y) := (hM.ats 2 _ _ _ rfl).cell (k := 1) (by omega)))
        go_roundw
        case rel => exact ⟨k + 1, by omega, by omega, by go_num, by rw [Hsu.out, Hv.out], hM.drop.drop⟩
        case measure => simp [intOf]; omega
      have dA : decide (A1 ≤ x) = false := decide_eq_false p1
      have dB : decide (B1 ≤ x) = false := decide_eq_false p2
      have e1 : (A2 == y) = true := by simpa using q1
      have e2 : (B2 == y + 1) = false := by simpa using q2
      have e3 : (A2 == y + 1) = false := by simpa using q3
      have Hv : Hid (D = 0) := Lib.hid (by have := Hd.out; rw [this]; (repeat' split) <;> omega)
      clear p1 p2 q1 q2 q3
      have tk_ba : True := trivial; have tk_bb : True := trivial; have tk_g1 : True := trivial; have tk_g2 : True := trivial; have tk_l1 : True := trivial; have tk_l2 : True := trivial
      go_wp2_with (first | (have _t := tk_g1; refine wpList_get rfl _ _ rfl _ _ rfl hM 1 rfl (rowTab _ 2 rfl) (by omega) ?_; rw [er]; clear tk_g1) | (have _t := tk_ba; refine wpList_zero rfl _ rfl (zeroTab _ _ _ rfl) hM ?_; intro ba W' hba hM'; clear hM tk_ba; have hM := hM'; clear hM') | (have _t := tk_l1; (refine wpList_lay rfl _ _ _ rfl _ _ rfl _ _ rfl hM 0 rfl (by assumption) (rowTab _ _ rfl) (by omega) ?_ ?_; (first | (intro _ _; rfl) | (intro k _; exact h1 _) | (intro k _; simp only [lay, upd]; (repeat' split) <;> first | exact h1 _ | rfl)); intro W' hM'; clear hM; have hM := hM'; clear hM'; simp only [List.set] at hM); clear tk_l1) | (have _t := tk_g2; refine wpList_get rfl _ _ rfl _ _ rfl hM 2 rfl (rowTab _ 2 rfl) (by omega) ?_; rw [er1]; clear tk_g2) | (have _t := tk_bb; refine wpList_zero rfl _ rfl (zeroTab _ _ _ rfl) hM ?_; intro bb W' hbb hM'; clear hM tk_bb; have hM := hM'; clear hM') | (have _t := tk_l2; (refine wpList_lay rfl _ _ _ rfl _ _ rfl _ _ rfl hM 0 rfl (by assumption) (rowTab _ _ rfl) (by omega) ?_ ?_; (first | (intro _ _; rfl) | (intro k _; exact h1 _) | (intro k _; simp only [lay, upd]; (repeat' split) <;> first | exact h1 _ | rfl)); intro W' hM'; clear hM; have hM := hM'; clear hM'; simp only [List.set] at hM); clear tk_l2; have kA0 : W'.cell? ⟨ba, 0, none⟩ = some (.int .i8 A1) := ((hM.ats 1 _ _ _ rfl).cell (k := 0) (by omega)).trans (congrArg some ((lay_sp _ _ _ 0 (by omega)).trans rfl)); have kA1 : W'.cell? ⟨ba, 1, none⟩ = some (.int .i8 A2) := ((hM.ats 1 _ _ _ rfl).cell (k := 1) (by omega)).trans (congrArg some ((lay_sp _ _ _ 1 (by omega)).trans rfl)); have kB0 : W'.cell? ⟨bb, 0, none⟩ = some (.int .i8 B1) := ((hM.ats 0 _ _ _ rfl).cell (k := 0) (by omega)).trans (congrArg some ((lay_sp _ _ _ 0 (by omega)).trans rfl)); have kB1 : W'.cell? ⟨bb, 1, none⟩ = some (.int .i8 B2) := ((hM.ats 0 _ _ _ rfl).cell (k := 1) (by omega)).trans (congrArg some ((lay_sp _ _ _ 1 (by omega)).trans rfl)); have kx : W'.cell? ⟨b1, 0, none⟩ = some (.int .i8 x) := (hM.ats 2 _ _ _ rfl).cell (k := 0) (by omega); have ky : W'.cell? ⟨b1, 1, none⟩ = some (.int .i8 y) := (hM.ats 2 _ _ _ rfl).cell (k := 1) (by omega)))
      go_roundw
      case rel => exact ⟨k + 1, by omega, by omega, by go_num, by rw [Hsu.out, Hv.out]; simp, hM.drop.drop⟩
      case measure => simp [intOf]; omega
    by_cases q3 : A2 = y + 1
    case pos =>
      by_cases q4 : B2 = y
      case pos =>
        have dA : decide (A1 ≤ x) = false := decide_eq_false p1
        have dB : decide (B1 ≤ x) = false := decide_eq_false p2
        have e1 : (A2 == y) = false := by simpa using q1
        have e3 : (A2 == y + 1) = true := by simpa using q3
        have e4 : (B2 == y) = true := by simpa using q4
        have Hv : Hid (D = -1) := Lib.hid (by have := Hd.out; rw [this]; (repeat' split) <;> omega)
        clear p1 p2 q1 q3 q4
        have tk_ba : True := trivial; have tk_bb : True := trivial; have tk_g1 : True := trivial; have tk_g2 : True := trivial; have tk_l1 : True := trivial; have tk_l2 : True := trivial
        go_wp2_with (first | (have _t := tk_g1; refine wpList_get rfl _ _ rfl _ _ rfl hM 1 rfl (rowTab _ 2 rfl) (by omega) ?_; rw [er]; clear tk_g1) | (have _t := tk_ba; refine wpList_zero rfl _ rfl (zeroTab _ _ _ rfl) hM ?_; intro ba W' hba hM'; clear hM tk_ba; have hM := hM'; clear hM') | (have _t := tk_l1; (refine wpList_lay rfl _ _ _ rfl _ _ rfl _ _ rfl hM 0 rfl (by assumption) (rowTab _ _ rfl) (by omega) ?_ ?_; (first | (intro _ _; rfl) | (intro k _; exact h1 _) | (intro k _; simp only [lay, upd]; (repeat' split) <;> first | exact h1 _ | rfl)); intro W' hM'; clear hM; have hM := hM'; clear hM'; simp only [List.set] at hM); clear tk_l1) | (have _t := tk_g2; refine wpList_get rfl _ _ rfl _ _ rfl hM 2 rfl (rowTab _ 2 rfl) (by omega) ?_; rw [er1]; clear tk_g2) | (have _t := tk_bb; refine wpList_zero rfl _ rfl (zeroTab _ _ _ rfl) hM ?_; intro bb W' hbb hM'; clear hM tk_bb; have hM := hM'; clear hM') | (have _t := tk_l2; (refine wpList_lay rfl _ _ _ rfl _ _ rfl _ _ rfl hM 0 rfl (by assumption) (rowTab _ _ rfl) (by omega) ?_ ?_; (first | (intro _ _; rfl) | (intro k _; exact h1 _) | (intro k _; simp only [lay, upd]; (repeat' split) <;> first | exact h1 _ | rfl)); intro W' hM'; clear hM; have hM := hM'; clear hM'; simp only [List.set] at hM); clear tk_l2; have kA0 : W'.cell? ⟨ba, 0, none⟩ = some (.int .i8 A1) := ((hM.ats 1 _ _ _ rfl).cell (k := 0) (by omega)).trans (congrArg some ((lay_sp _ _ _ 0 (by omega)).trans rfl)); have kA1 : W'.cell? ⟨ba, 1, none⟩ = some (.int .i8 A2) := ((hM.ats 1 _ _ _ rfl).cell (k := 1) (by omega)).trans (congrArg some ((lay_sp _ _ _ 1 (by omega)).trans rfl)); have kB0 : W'.cell? ⟨bb, 0, none⟩ = some (.int .i8 B1) := ((hM.ats 0 _ _ _ rfl).cell (k := 0) (by omega)).trans (congrArg some ((lay_sp _ _ _ 0 (by omega)).trans rfl)); have kB1 : W'.cell? ⟨bb, 1, none⟩ = some (.int .i8 B2) := ((hM.ats 0 _ _ _ rfl).cell (k := 1) (by omega)).trans (congrArg some ((lay_sp _ _ _ 1 (by omega)).trans rfl)); have kx : W'.cell? ⟨b1, 0, none⟩ = some (.int .i8 x) := (hM.ats 2 _ _ _ rfl).cell (k := 0) (by omega); have ky : W'.cell? ⟨b1, 1, none⟩ = some (.int .i8 y) := (hM.ats 2 _ _ _ rfl).cell (k := 1) (by omega)))
        go_roundw
        case rel => exact ⟨k + 1, by omega, by omega, by go_num, by rw [Hsu.out, Hv.out]; rfl, hM.drop.drop⟩
        case measure => simp [intOf]; omega
      have dA : decide (A1 ≤ x) = false := decide_eq_false p1
      have dB : decide (B1 ≤ x) = false := decide_eq_false p2
      have e1 : (A2 == y) = false := by simpa using q1
      have e3 : (A2 == y + 1) = true := by simpa using q3
      have e4 : (B2 == y) = false := by simpa using q4
      have Hv : Hid (D = 0) := Lib.hid (by have := Hd.out; rw [this]; (repeat' split) <;> omega)
      clear p1 p2 q1 q3 q4
      have tk_ba : True := trivial; have tk_bb : True := trivial; have tk_g1 : True := trivial; have tk_g2 : True := trivial; have tk_l1 : True := trivial; have tk_l2 : True := trivial
      go_wp2_with (first | (have _t := tk_g1; refine wpList_get rfl _ _ rfl _ _ rfl hM 1 rfl (rowTab _ 2 rfl) (by omega) ?_; rw [er]; clear tk_g1) | (have _t := tk_ba; refine wpList_zero rfl _ rfl (zeroTab _ _ _ rfl) hM ?_; intro ba W' hba hM'; clear hM tk_ba; have hM := hM'; clear hM') | (have _t := tk_l1; (refine wpList_lay rfl _ _ _ rfl _ _ rfl _ _ rfl hM 0 rfl (by assumption) (rowTab _ _ rfl) (by omega) ?_ ?_; (first | (intro _ _; rfl) | (intro k _; exact h1 _) | (intro k _; simp only [lay, upd]; (repeat' split) <;> first | exact h1 _ | rfl)); intro W' hM'; clear hM; have hM := hM'; clear hM'; simp only [List.set] at hM); clear tk_l1) | (have _t := tk_g2; refine wpList_get rfl _ _ rfl _ _ rfl hM 2 rfl (rowTab _ 2 rfl) (by omega) ?_; rw [er1]; clear tk_g2) | (have _t := tk_bb; refine wpList_zero rfl _ rfl (zeroTab _ _ _ rfl) hM ?_; intro bb W' hbb hM'; clear hM tk_bb; have hM := hM'; clear hM') | (have _t := tk_l2; (refine wpList_lay rfl _ _ _ rfl _ _ rfl _ _ rfl hM 0 rfl (by assumption) (rowTab _ _ rfl) (by omega) ?_ ?_; (first | (intro _ _; rfl) | (intro k _; exact h1 _) | (intro k _; simp only [lay, upd]; (repeat' split) <;> first | exact h1 _ | rfl)); intro W' hM'; clear hM; have hM := hM'; clear hM'; simp only [List.set] at hM); clear tk_l2; have kA0 : W'.cell? ⟨ba, 0, none⟩ = some (.int .i8 A1) := ((hM.ats 1 _ _ _ rfl).cell (k := 0) (by omega)).trans (congrArg some ((lay_sp _ _ _ 0 (by omega)).trans rfl)); have kA1 : W'.cell? ⟨ba, 1, none⟩ = some (.int .i8 A2) := ((hM.ats 1 _ _ _ rfl).cell (k := 1) (by omega)).trans (congrArg some ((lay_sp _ _ _ 1 (by omega)).trans rfl)); have kB0 : W'.cell? ⟨bb, 0, none⟩ = some (.int .i8 B1) := ((hM.ats 0 _ _ _ rfl).cell (k := 0) (by omega)).trans (congrArg some ((lay_sp _ _ _ 0 (by omega)).trans rfl)); have kB1 : W'.cell? ⟨bb, 1, none⟩ = some (.int .i8 B2) := ((hM.ats 0 _ _ _ rfl).cell (k := 1) (by omega)).trans (congrArg some ((lay_sp _ _ _ 1 (by omega)).trans rfl)); have kx : W'.cell? ⟨b1, 0, none⟩ = some (.int .i8 x) := (hM.ats 2 _ _ _ rfl).cell (k := 0) (by omega); have ky : W'.cell? ⟨b1, 1, none⟩ = some (.int .i8 y) := (hM.ats 2 _ _ _ rfl).cell (k := 1) (by omega)))
      go_roundw
      case rel => exact ⟨k + 1, by omega, by omega, by go_num, by rw [Hsu.out, Hv.out]; simp, hM.drop.drop⟩
      case measure => simp [intOf]; omega
    have dA : decide (A1 ≤ x) = false := decide_eq_false p1
    have dB : decide (B1 ≤ x) = false := decide_eq_false p2
    have e1 : (A2 == y) = false := by simpa using q1
    have e3 : (A2 == y + 1) = false := by simpa using q3
    have Hv : Hid (D = 0) := Lib.hid (by have := Hd.out; rw [this]; (repeat' split) <;> omega)
    clear p1 p2 q1 q3
    have tk_ba : True := trivial; have tk_bb : True := trivial; have tk_g1 : True := trivial; have tk_g2 : True := trivial; have tk_l1 : True := trivial; have tk_l2 : True := trivial
    go_wp2_with (first | (have _t := tk_g1; refine wpList_get rfl _ _ rfl _ _ rfl hM 1 rfl (rowTab _ 2 rfl) (by omega) ?_; rw [er]; clear tk_g1) | (have _t := tk_ba; refine wpList_zero rfl _ rfl (zeroTab _ _ _ rfl) hM ?_; intro ba W' hba hM'; clear hM tk_ba; have hM := hM'; clear hM') | (have _t := tk_l1; (refine wpList_lay rfl _ _ _ rfl _ _ rfl _ _ rfl hM 0 rfl (by assumption) (rowTab _ _ rfl) (by omega) ?_ ?_; (first | (intro _ _; rfl) | (intro k _; exact h1 _) | (intro k _; simp only [lay, upd]; (repeat' split) <;> first | exact h1 _ | rfl)); intro W' hM'; clear hM; have hM := hM'; clear hM'; simp only [List.set] at hM); clear tk_l1) | (have _t := tk_g2; refine wpList_get rfl _ _ rfl _ _ rfl hM 2 rfl (rowTab _ 2 rfl) (by omega) ?_; rw [er1]; clear tk_g2) | (have _t := tk_bb; refine wpList_zero rfl _ rfl (zeroTab _ _ _ rfl) hM ?_; intro bb W' hbb hM'; clear hM tk_bb; have hM := hM'; clear hM') | (have _t := tk_l2; (refine wpList_lay rfl _ _ _ rfl _ _ rfl _ _ rfl hM 0 rfl (by assumption) (rowTab _ _ rfl) (by omega) ?_ ?_; (first | (intro _ _; rfl) | (intro k _; exact h1 _) | (intro k _; simp only [lay, upd]; (repeat' split) <;> first | exact h1 _ | rfl)); intro W' hM'; clear hM; have hM := hM'; clear hM'; simp only [List.set] at hM); clear tk_l2; have kA0 : W'.cell? ⟨ba, 0, none⟩ = some (.int .i8 A1) := ((hM.ats 1 _ _ _ rfl).cell (k := 0) (by omega)).trans (congrArg some ((lay_sp _ _ _ 0 (by omega)).trans rfl)); have kA1 : W'.cell? ⟨ba, 1, none⟩ = some (.int .i8 A2) := ((hM.ats 1 _ _ _ rfl).cell (k := 1) (by omega)).trans (congrArg some ((lay_sp _ _ _ 1 (by omega)).trans rfl)); have kB0 : W'.cell? ⟨bb, 0, none⟩ = some (.int .i8 B1) := ((hM.ats 0 _ _ _ rfl).cell (k := 0) (by omega)).trans (congrArg some ((lay_sp _ _ _ 0 (by omega)).trans rfl)); have kB1 : W'.cell? ⟨bb, 1, none⟩ = some (.int .i8 B2) := ((hM.ats 0 _ _ _ rfl).cell (k := 1) (by omega)).trans (congrArg some ((lay_sp _ _ _ 1 (by omega)).trans rfl)); have kx : W'.cell? ⟨b1, 0, none⟩ = some (.int .i8 x) := (hM.ats 2 _ _ _ rfl).cell (k := 0) (by omega); have ky : W'.cell? ⟨b1, 1, none⟩ = some (.int .i8 y) := (hM.ats 2 _ _ _ rfl).cell (k := 1) (by omega)))
    go_roundw
    case rel => exact ⟨k + 1, by omega, by omega, by go_num, by rw [Hsu.out, Hv.out]; simp, hM.drop.drop⟩
    case measure => simp [intOf]; omega
end Go.Proofs.YtbmaljhnldepoaaDoor

