/-
  Meadow: its cells; argument lists; laws.szMeadowS, toMeadow, toMeadowS by contracts.
-/
import Derived.Test.YtfndjccfjpmbjaaDoorToSpot
import Derived.Test.YtfndjccfjpmbjaaDoorListK
namespace Go.Proofs.YtfndjccfjpmbjaaDoor
open Go Go.RowKit Go.BigFrame Go.ChangeShapes Go.WideShapes Go.Deep

/-- The integer kind of each cell; the cells. -/
def kMeadow (k : Nat) : IntKind := .i16
def vMeadow (h : Nat → Int) : Nat → Value := fun k => .int (kMeadow k) (h k)
def zMeadow : Nat → Value := fun k => .int (kMeadow k) 0
theorem rowMeadow : RowT Tryd.prog 31 3 := ⟨⟨_, Tryd.underlying31, rfl⟩, by kernel_rfl⟩
theorem rowLMeadow : RowT Tryd.prog 33 3 := ⟨⟨_, Tryd.underlying33, rfl⟩, by kernel_rfl⟩
theorem zeroMeadow : (Tryd.prog.info? 31).map (·.zero) = some (some (.agg (arr 3 zMeadow))) := by kernel_rfl
theorem infoMeadow : (Tryd.prog.info? 31).map (fun i => (i.size, i.zero, i.bytes)) = some (3, some (.agg (arr 3 zMeadow)), 6) := by kernel_rfl
structure FitsMeadow (h : Nat → Int) : Prop where
  c0 : (-32768 : Int) ≤ h 0 ∧ h 0 ≤ 32767
  c1 : (-32768 : Int) ≤ h 1 ∧ h 1 ≤ 32767
  c2 : (-32768 : Int) ≤ h 2 ∧ h 2 ≤ 32767
def sMeadow (hs : Nat → Nat → Int) : Nat → Value := fun k => vMeadow (hs (k / 3)) (k % 3)
theorem sMeadow_row (hs : Nat → Nat → Int) (k j : Nat) (hj : j < 3) : sMeadow hs (k * 3 + j) = vMeadow (hs k) j := by
  unfold sMeadow
  rw [show (k * 3 + j) / 3 = k by omega, show (k * 3 + j) % 3 = j by omega]
def MeadowArg (W : World) (v : Value) (n : Nat) (hs : Nat → Nat → Int) : Prop :=
  (n = 0 ∧ v = .slice none 0 0) ∨ ∃ b o c, v = .slice (some ⟨b, o, none⟩) n c ∧ Lies W b o (n * 3) (sMeadow hs)
theorem MeadowArg.below {w W : World} {v : Value} {n : Nat} {hs : Nat → Nat → Int} (h : MeadowArg w v n hs) (hb : Below w.heap.size w W) : MeadowArg W v n hs := by
  rcases h with h | ⟨b, o, c, e, h⟩
  · exact .inl h
  · exact .inr ⟨b, o, c, e, h.below hb⟩
section
variable {H : Type} {enc : TypeId × Value → H} {w : World} {base : Nat} {spare : Nat → Bool} {held : Bool}
set_option maxRecDepth 100000 in
theorem cellsMeadow {fuel : Nat} {cs : List Value} {x : DataW H × List MemPlace} (h : DataW.trod enc Tryd.prog w base spare held fuel 33 cs = some x) :
    ∃ g : Nat → Int, cs = (List.range 3).map (vMeadow g) ∧ FitsMeadow g := by
  obtain ⟨xs, n, -, -, hlen, hxl, hf⟩ := DataW.trod_struct Tryd.underlying33 h
  have e : Tryd.prog.cellsOf 33 = 3 := by kernel_rfl
  have ei16 : Tryd.prog.cellsOf 29 = 1 := by kernel_rfl
  rw [e] at hlen
  match cs, hlen with
  | [c0, c1, c2], _ =>
    match xs, hxl with
    | [y0, y1, y2], _ =>
      have h0 := hf 0 _ rfl
      change DataW.trod _ _ _ _ _ _ _ 29 ((List.drop 0 [c0, c1, c2]).take (Tryd.prog.cellsOf 29)) = some y0 at h0
      rw [ei16] at h0
      have h1 := hf 1 _ rfl
      change DataW.trod _ _ _ _ _ _ _ 29 ((List.drop 1 [c0, c1, c2]).take (Tryd.prog.cellsOf 29)) = some y1 at h1
      rw [ei16] at h1
      have h2 := hf 2 _ rfl
      change DataW.trod _ _ _ _ _ _ _ 29 ((List.drop 2 [c0, c1, c2]).take (Tryd.prog.cellsOf 29)) = some y2 at h2
      rw [ei16] at h2
      obtain ⟨p0, q0, b0⟩ := trod_num Tryd.underlying29 h0
      obtain ⟨p1, q1, b1⟩ := trod_num Tryd.underlying29 h1
      obtain ⟨p2, q2, b2⟩ := trod_num Tryd.underlying29 h2
      simp at q0 q1 q2
      refine ⟨fun k => match k with | 0 => p0 | 1 => p1 | _ => p2, ?_, ⟨has_i16 b0, has_i16 b1, has_i16 b2⟩⟩
      · skip
        subst q0
        subst q1
        subst q2
        rfl

set_option maxRecDepth 100000 in
/-- A list out of its type and its reading. -/
theorem open_meadows {t : TypeId} (ht : Tryd.prog.underlying t = some (.slice 33)) {b0 : Nat} {v : Value} {d : DataW H} {p : List MemPlace} (hval : Value.okWide Tryd.prog w .any b0 t v) (h : DataW.Trod enc Tryd.prog w base spare held t v d p) :
    ∃ n hs, n ≤ maxLen ∧ (∀ i, i < n → FitsMeadow (hs i)) ∧ MeadowArg w v n hs := by
  obtain ⟨fuel, h⟩ := h
  have e : Tryd.prog.cellsOf 33 = 3 := by kernel_rfl
  obtain ⟨sa, sl, sc, rfl⟩ := okWide_slice ht hval
  rcases open_slice ht h with ⟨h1, -⟩ | ⟨a, len, cap, m, n, D, Pl, hcs, hb, hl, hm, hmm, -, hi⟩
  · simp only [Value.cells] at h1
    obtain ⟨rfl, rfl, rfl⟩ : sa = none ∧ sl = 0 ∧ sc = 0 := by simpa using h1
    exact ⟨0, fun _ _ => 0, by decide, fun i hi => absurd hi (by omega), .inl ⟨rfl, rfl⟩⟩
  · obtain ⟨e1, e2, e3⟩ : sa = some a ∧ sl = len ∧ sc = cap := by simpa [Value.cells] using hcs
    subst e1 e2 e3
    have hlen : sl ≤ m := by rw [hmm]; split <;> omega
    rw [e] at hi
    have key : ∀ i, ∃ g : Nat → Int, i < sl → (FitsMeadow g ∧ ∀ j, j < 3 → w.cell? (a.add (i * 3 + j)) = some (vMeadow g j)) := fun i => by
      by_cases hil : i < sl
      · obtain ⟨cs', hc, ht'⟩ := hi i (by omega)
        obtain ⟨g, hg, fg⟩ := cellsMeadow ht'
        obtain ⟨-, -, hat⟩ := World.cells?_some hc
        refine ⟨g, fun _ => ⟨fg, fun j hj => ?_⟩⟩
        have := hat j hj
        rw [← Go.Deep.add_add] 
        rw [this, hg]
        simp [hj]
      · exact ⟨fun _ => 0, fun h => absurd h hil⟩
    have hspot : a.spot = none := by
      unfold Value.okWide at hval
      rw [ht] at hval
      simp only [Cell.okWide, Cell.ok, ht] at hval
      exact hval.2.2.2.1
    obtain ⟨ab, ao, asp⟩ := a
    simp only at hspot
    subst hspot
    refine ⟨sl, fun i => (key i).choose, by omega, fun i hil => ((key i).choose_spec hil).1, .inr ⟨ab, ao, sc, rfl, fun k hk => ?_⟩⟩
    have hki := ((key (k / 3)).choose_spec (by omega)).2 (k % 3) (by omega)
    rw [show k / 3 * 3 + k % 3 = k by omega] at hki
    have e2 : (⟨ab, ao, none⟩ : Addr).add k = ⟨ab, ao + k, none⟩ := by
      unfold Addr.add
      by_cases h0 : k = 0
      · simp [h0]
      · simp [h0]
    rw [e2] at hki
    exact hki
end

theorem szMeadowS_no (v : Value) (n : Nat) (hs : Nat → Nat → Int) (left : Int) (hn : n ≤ maxLen) (hl : left < n) (h0 : 0 ≤ left) (hl2 : left ≤ 1048576) (w : World) (h : MeadowArg w v n hs) :
    Calls Tryd.prog 4 #[v, .int .i64 left] w fun e w' => e = .returned (.int .i64 (-1)) ∧ Below w.heap.size w w' := by
  unfold maxLen at hn
  rcases h with ⟨rfl, rfl⟩ | ⟨b, o, c, rfl, h⟩
  · omega
  · have c1 : IntKind.i64.wrap (left - n) = left - n := IntWalk.i64_in _ (by omega)
    have d1 : decide (left - n < 0) = true := decide_eq_true (by omega)
    clear h
    go_enter Tryd.func4, Tryd.ntmps4
    go_wp2
    go_ret
    exact ⟨rfl, Below.refl _ _⟩
theorem szMeadowS_yes (v : Value) (n : Nat) (hs : Nat → Nat → Int) (left : Int) (hl : (n : Int) ≤ left) (hl2 : left ≤ 1048576) (w : World) (h : MeadowArg w v n hs) :
    Calls Tryd.prog 4 #[v, .int .i64 left] w fun e w' => e = .returned (.int .i64 (left - n)) ∧ Below w.heap.size w w' := by
  rcases h with ⟨rfl, rfl⟩ | ⟨b, o, c, rfl, h⟩
  · have c1 : IntKind.i64.wrap left = left := IntWalk.i64_in _ (by omega)
    have d1 : decide (left < 0) = false := decide_eq_false (by omega)
    go_enter Tryd.func4, Tryd.ntmps4
    go_wp2
    go_ret
    exact ⟨by simp, Below.refl _ _⟩
  · have c1 : IntKind.i64.wrap (left - n) = left - n := IntWalk.i64_in _ (by omega)
    have d1 : decide (left - n < 0) = false := decide_eq_false (by omega)
    clear h
    go_enter Tryd.func4, Tryd.ntmps4
    go_wp2
    go_ret
    exact ⟨rfl, Below.refl _ _⟩

set_option maxRecDepth 100000 in
set_option maxHeartbeats 1000000 in
theorem toMeadow_any (f : Nat → Value) (h : Nat → Int) (hf : ∀ k, k < 3 → f k = vMeadow h k) (w : World) :
    Calls Tryd.prog 10 #[.agg (arr 3 f)] w fun e w' => e = .returned (.agg (arr 3 (vMeadow h))) ∧ Below w.heap.size w w' := by
  rw [arr_congr hf]
  have hM := Mem.nil w
  have tk_b1 : True := trivial; have tk_b2 : True := trivial; have tk_b3 : True := trivial
  go_enter Tryd.func10, Tryd.ntmps10
  go_wp2_with (first | (have _t := tk_b1; refine wpList_box rfl _ _ rfl _ _ rfl hM ?_; intro b1 W' hb1 hM'; clear hM tk_b1; have hM := hM'; clear hM') | (have _t := tk_b2; refine wpList_zero rfl _ rfl zeroMeadow hM ?_; intro b2 W' hb2 hM'; clear hM tk_b2; have hM := hM'; clear hM') | (have _t := tk_b3; refine wpList_zero rfl _ rfl zeroMeadow hM ?_; intro b3 W' hb3 hM'; clear hM tk_b3; have hM := hM'; clear hM') | (refine wpList_get1 rfl _ _ rfl _ _ rfl hM 2 rfl (cellTab _ rfl) (by omega) _ rfl ?_) | (refine wpList_get rfl _ _ rfl _ _ rfl hM 2 rfl (by first | exact rowMeadow | exact rowLMeadow | exact rowTab _ _ rfl) (by omega) ?_) | (refine wpList_set1 rfl _ _ _ rfl _ _ rfl _ rfl ?_ hM 0 rfl (by assumption) (cellTab _ rfl) (by omega) ?_; (first | rfl | exact h1 _); intro W' hM'; clear hM; have hM := hM'; clear hM'; simp [List.set, Act.eval] at hM) | (refine wpList_lay rfl _ _ _ rfl _ _ rfl _ _ rfl hM 0 rfl (by assumption) (by first | exact rowMeadow | exact rowLMeadow | exact rowTab _ _ rfl) (by omega) ?_ ?_; (first | (intro _ _; rfl) | (intro k _; simp only [lay, upd]; (repeat' split) <;> rfl)); intro W' hM'; clear hM; have hM := hM'; clear hM'; simp only [List.set] at hM) | (refine wpList_get rfl _ _ rfl _ _ rfl hM 0 rfl (by first | exact rowMeadow | exact rowLMeadow | exact rowTab _ _ rfl) (by omega) ?_) | (refine wpList_lay rfl _ _ _ rfl _ _ rfl _ _ rfl hM 1 rfl (by assumption) (by first | exact rowMeadow | exact rowLMeadow | exact rowTab _ _ rfl) (by omega) ?_ ?_; (first | (intro _ _; rfl) | (intro k _; simp only [lay, upd]; (repeat' split) <;> rfl)); intro W' hM'; clear hM; have hM := hM'; clear hM'; simp only [List.set] at hM))
  have hA := (hM.ats 1 _ _ _ rfl).congr (g := vMeadow h) (fun k hk => by
    rcases (show k = 0 ∨ k = 1 ∨ k = 2 by omega) with rfl | rfl | rfl <;> rfl)
  exact bodyPost_ret (results_at rfl _ rfl hA rowMeadow) rfl ⟨rfl, hM.below⟩

/-- A new list. -/
def GivenMeadow (n : Nat) (hs : Nat → Nat → Int) (w : World) (e : Ending) (w' : World) : Prop := ∃ b, e = .returned (.slice (some ⟨b, 0, none⟩) n n) ∧ w.heap.size ≤ b ∧ At w' b (n * 3) (sMeadow hs) ∧ Below w.heap.size w w'
set_option maxRecDepth 100000 in
set_option maxHeartbeats 1000000 in
theorem toMeadowS_any (v : Value) (n : Nat) (hs : Nat → Nat → Int) (hn : n ≤ 1048576) (w : World) (h : MeadowArg w v n hs) : Calls Tryd.prog 6 #[v] w (GivenMeadow n hs w) := by
  have hM := Mem.nil w
  rcases h with ⟨rfl, rfl⟩ | ⟨b, o, c, rfl, hL⟩
  · have tk_b1 : True := trivial
    go_enter Tryd.func6, Tryd.ntmps6
    go_wp2_with (first | (have _t := tk_b1; refine wpList_make rfl _ _ _ _ rfl 0 rfl rfl 3 zMeadow 6 Tryd.underlying25 infoMeadow (by omega) (by omega) (by omega) hM ?_; intro b1 W' hb1 hM'; clear hM tk_b1; have hM := hM'; clear hM'))
    refine wp_loop_rounds 1 ?_
    rw [rounds_succ]
    go_wp2
    go_ret
    exact ⟨b1, rfl, hb1, (hM.ats 0 _ _ _ rfl).congr (fun k hk => by omega), hM.below⟩
  · have HL := Lib.hid hL
    clear hL
    have tk_b1 : True := trivial
    go_enter Tryd.func6, Tryd.ntmps6
    go_wp2_with (first | (have _t := tk_b1; refine wpList_make rfl _ _ _ _ rfl n rfl rfl 3 zMeadow 6 Tryd.underlying25 infoMeadow (by omega) (by omega) hn hM ?_; intro b1 W' hb1 hM'; clear hM tk_b1; have hM := hM'; clear hM'))
    go_loopw [4] (fun i wr => ∃ k : Nat, k ≤ n ∧ i = .int .i64 k ∧ ∃ g, Hid (∀ j, j < k * 3 → g j = sMeadow hs j) ∧ Mem w [(b1, n * 3, g)] wr) (fun i _ => n - (intOf i).toNat)
    case atStart => exact ⟨0, by omega, rfl, _, Lib.hid (fun j hj => absurd hj (by omega)), hM⟩
    case round =>
      clear hM
      obtain ⟨k, hk, rfl, g, hg, hM⟩ := hrel
      by_cases hlt : k < n
      · go_wp2_with (first | (refine wpList_getL rfl _ _ rfl _ _ rfl _ _ (HL.out.below hM.below) (by first | exact rowLMeadow | exact rowMeadow) (k * 3) rfl (by omega) ?_) | (go_at_call 10; refine (toMeadow_any _ (hs k) (fun j hj => sMeadow_row hs k j hj) _).mono ?_; rintro e W' ⟨rfl, hb'⟩; have hM' := hM.call hb'; clear hM hb'; have hM := hM'; clear hM') | (refine wpList_lay rfl _ _ _ rfl _ _ rfl _ _ rfl hM 0 rfl (by assumption) rowMeadow (by omega) ?_ ?_; (first | (intro _ _; rfl) | (intro k _; simp only [lay, upd]; (repeat' split) <;> rfl)); intro W' hM'; clear hM; have hM := hM'; clear hM'; simp only [List.set] at hM))
        go_roundw
        case rel => exact ⟨k + 1, by omega, by go_num, _, Lib.hid (fun j hj => by
          by_cases e : k * 3 ≤ j
          · have := sMeadow_row hs k (j - k * 3) (by omega)
            rw [show k * 3 + (j - k * 3) = j by omega] at this
            simp only [lay]
            rw [if_pos ⟨e, by omega⟩, this]
          · simp only [lay]
            rw [if_neg (by omega)]
            exact hg.out j (by omega)), hM⟩
        case measure => simp [intOf]; omega
      · obtain rfl : k = n := by omega
        go_wp2
        go_ret
        exact ⟨b1, rfl, hb1, (hM.ats 0 _ _ _ rfl).congr hg.out, hM.below⟩
end Go.Proofs.YtfndjccfjpmbjaaDoor
