/-
  Several texts in one: Made, MeadC, GreedyS, GreedyC, LastFound, LongestC.
-/
import Derived.Test.YtbbododeglkghaaDoorP4
import Derived.Test.YtbbododeglkghaaDoorP6
import Derived.Test.YtbbododeglkghaaDoorP3
import Derived.Test.YtbbododeglkghaaDoorP5
import Derived.Shelf.Abstract
/-
  spec.l07Made by contract.
-/
namespace Go.Proofs.YtbbododeglkghaaDoor
open Go Go.RowKit Go.BigFrame

/-- The first day that cannot be made, -1 if there is none. -/
def dayNo (hs : Nat → Nat → Int) (need : Int) (ys : Nat → Int) (p : Nat) : Int := if upM hs need ys p = p then -1 else (upM hs need ys p : Nat)
/-- A number, and the meadows. -/
def GivesNM (r : Int) (n : Nat) (hs : Nat → Nat → Int) (w : World) (e : Ending) (w' : World) : Prop := ∃ b c F, e = .returned (.tuple #[.int .i64 r, .slice (some ⟨b, 0, none⟩) n c]) ∧ w.heap.size ≤ b ∧ n ≤ c ∧ (∀ j, j < n * 3 → F j = sMeadow hs j) ∧ At w' b (c * 3) F ∧ Below w.heap.size w w'
theorem givesNM_r {r r' : Int} {n : Nat} {hs hs' : Nat → Nat → Int} {w : World} {e : Ending} {w' : World} (h : GivesNM r n hs w e w') (hr : r = r') (hh : hs = hs') : GivesNM r' n hs' w e w' := by rw [← hr, ← hh]; exact h

set_option maxRecDepth 100000 in
set_option maxHeartbeats 4000000 in
theorem l07Made_any (b n c bp p cp : Nat) (hs : Nat → Nat → Int) (ys : Nat → Int) (hv : meadsB n hs = true) (need : Int) (hd : 1 ≤ need ∧ need ≤ 1000) (hpl : planB n p ys = true) (w : World) (hB : At w b (n * 3) (sMeadow hs)) (hP : At w bp p (vInt64S ys)) (hne : b ≠ bp) :
    Calls Tryd.prog 48 #[.slice (some ⟨b, 0, none⟩) n c, .int .i64 need, .slice (some ⟨bp, 0, none⟩) p cp] w (GivesNM (dayNo hs need ys p) n (stM hs need ys (upM hs need ys p)) w) := by
  have hM : Mem w [(b, n * 3, sMeadow hs), (bp, p, vInt64S ys)] w := ((Mem.nil w).old hB (fun i p h => by simp at h)).old hP (fun i p h => by
    match i, h with
    | 0, h => simp at h; rw [← h]; exact hne
    | _ + 1, h => simp at h)
  obtain ⟨hn, hb⟩ := meadsB_iff hv
  obtain ⟨hp, hpi⟩ := planB_iff hpl
  have Hb := Lib.hid hb
  have Hpi := Lib.hid hpi
  clear hB hP hb hpi
  have tk_b1 : True := trivial
  go_enter Tryd.func48, Tryd.ntmps48
  go_wp2_with (first | (have _t := tk_b1; refine wpList_slice0 rfl _ _ rfl _ meadow_under meadow_info0 hM ?_; intro b1 W' hb1 hM'; clear hM tk_b1; have hM := hM'; clear hM') | (refine wpList_cat0 rfl _ _ _ rfl _ 3 _ _ meadow_under infoMeadow rfl (by omega) b1 rfl b n c rfl hn.1 (by omega) hM 1 rfl (Nat.le_refl _) ?_; intro bL cL FL W' hbL hcL hFL hM'; clear hM; have hM := hM'; clear hM'))
  have hM1 := hM.skip
  clear hM
  have hM := hM1
  clear hM1
  go_loopw [8, 9] (fun v i wr => ∃ k : Nat, k ≤ p ∧ i = .int .i64 k ∧ ∃ bL cL FL, v = .slice (some ⟨bL, 0, none⟩) n cL ∧ w.heap.size ≤ bL ∧ n ≤ cL ∧ Hid (upM hs need ys k = k) ∧ Hid (∀ j, j < n * 3 → FL j = sMeadow (stM hs need ys k) j) ∧ Mem w [(bL, cL * 3, FL), (b, n * 3, sMeadow hs), (bp, p, vInt64S ys)] wr) (fun _ i _ => p - (intOf i).toNat)
  case atStart => exact ⟨0, by omega, rfl, bL, cL, FL, rfl, hbL, hcL, Lib.hid rfl, Lib.hid hFL, hM⟩
  case round =>
    clear hM hbL hcL hFL
    obtain ⟨k, hk, rfl, bL, cL, FL, rfl, hbL, hcL, hU, hFL, hM⟩ := hrel
    by_cases hlt : k < p
    · have l2 : (k : Int) < p := by omega
      have ek : vInt64S ys k = .int .i64 (ys k) := rfl
      have hy := Hpi.out k hlt
      obtain ⟨m, hm⟩ : ∃ m : Nat, m = (ys k).toNat := ⟨_, rfl⟩
      have hym : ys k = (m : Int) := by omega
      have hmn : m < n := by omega
      rw [hym] at ek
      have lm : (m : Int) < n := by omega
      have Hst := Lib.hid (stM_ok Hb.out hd Hpi.out k hk hU.out)
      have em : FL (m * 3) = .int .i16 (stM hs need ys k m 0) := by rw [hFL.out _ (by omega)]; exact sMeadow_row _ m 0 (by omega)
      have hmb := meadB_iff (Hst.out m hmn)
      have cm : IntKind.i64.wrap (stM hs need ys k m 0) = stM hs need ys k m 0 := IntWalk.i64_in _ (by omega)
      by_cases hc : need ≤ stM hs need ys k m 0
      · have d0 : decide (stM hs need ys k m 0 < need) = false := decide_eq_false (by omega)
        have hcan : canM hs need ys k := by unfold canM; rw [← hm]; exact hc
        have Hu := Lib.hid (upM_step hU.out hcan)
        have Hs : Hid (stM hs need ys (k + 1) = dayM (stM hs need ys k) need m) := Lib.hid (by rw [hm]; rfl)
        clear hy hm hym hcan hmb
        go_wp2_with (first | (refine wpList_get1 rfl _ _ rfl _ _ rfl hM 2 rfl (cellTab _ rfl) (by omega) _ ek ?_) | (refine wpList_get1 rfl _ _ rfl _ _ rfl hM 0 rfl (cellTab _ rfl) (by omega) _ em ?_) | (go_at_call 44; (with_reducible refine (l07Day_any bL n cL (cL * 3) FL (stM hs need ys k) hn.1 hn.2 (by omega) hFL.out Hst.out need hd m hmn hc _ (hM.ats 0 _ _ _ rfl)).mono ?_); rintro e W' ⟨bN, cN, FN, rfl, hbN, hcN, hFN, hAN, hbl⟩; have hbN2 := Nat.le_trans hM.size hbN; have hM' := hM.freshQ hbl hAN hbN; clear hM hbl hAN; have hM := hM'; clear hM'))
        go_roundw
        case rel => exact ⟨k + 1, by omega, by go_num, bN, cN, FN, rfl, hbN2, hcN, Hu, Lib.hid (fun j hj => by rw [hFN j hj, Hs.out]), hM.skip⟩
        case measure => simp [intOf]; omega
      · have d0 : decide (stM hs need ys k m 0 < need) = true := decide_eq_true (by omega)
        have hcan : ¬ canM hs need ys k := by unfold canM; rw [← hm]; exact hc
        have Hu := Lib.hid (upM_first hU.out hcan hk)
        clear hy hm hym hcan hmb
        go_wp2_with (first | (refine wpList_get1 rfl _ _ rfl _ _ rfl hM 2 rfl (cellTab _ rfl) (by omega) _ ek ?_) | (refine wpList_get1 rfl _ _ rfl _ _ rfl hM 0 rfl (cellTab _ rfl) (by omega) _ em ?_))
        go_ret2
        exact givesNM_r ⟨bL, cL, FL, rfl, hbL, hcL, hFL.out, hM.at0, hM.below⟩ (by unfold dayNo; rw [Hu.out, if_neg (by omega)]) (by rw [Hu.out])
    · obtain rfl : k = p := by omega
      go_wp2
      go_ret2
      exact givesNM_r ⟨bL, cL, FL, rfl, hbL, hcL, hFL.out, hM.at0, hM.below⟩ (by unfold dayNo; rw [hU.out, if_pos rfl]) (by rw [hU.out])
end Go.Proofs.YtbbododeglkghaaDoor

/-
  The cases of the code of meadows, a need and numbers; a Boolean and a code.
-/
namespace Go.Proofs.YtbbododeglkghaaDoor
open Go Go.RowKit Go.BigFrame

def boolR (b : Bool) (c : Int) : Value := .tuple #[.bool b, .int .i64 c]
theorem ret_boolR {b b' : Bool} {c c' : Int} (h : b = b') (h2 : c = c') : Ending.returned (.tuple #[.bool b, .int .i64 c]) = .returned (boolR b' c') := by rw [h, h2]; rfl
theorem meadC_0 {n : Nat} {hs : Nat → Nat → Int} {need : Int} {f : Bool} (h : meadC n hs need f = 0) : meadsB n hs = true ∧ inB 1 1000 need = true ∧ f = true := by
  unfold meadC at h
  cases h1 : meadsB n hs
  · rw [h1] at h; simp at h
  · rw [h1] at h
    cases h2 : (inB 1 1000 need && f)
    · rw [h2] at h; simp at h
    · rw [Bool.and_eq_true] at h2; exact ⟨rfl, h2.1, h2.2⟩
/-- What may be said of the code. -/
theorem meadC_cases (n : Nat) (hs : Nat → Nat → Int) (need : Int) (f : Bool) :
    (meadsB n hs = false ∧ meadC n hs need f = 1) ∨ (meadsB n hs = true ∧ inB 1 1000 need = false ∧ meadC n hs need f = 2) ∨ (meadsB n hs = true ∧ inB 1 1000 need = true ∧ f = false ∧ meadC n hs need f = 2) ∨ (meadsB n hs = true ∧ inB 1 1000 need = true ∧ f = true ∧ meadC n hs need f = 0) := by
  cases h1 : meadsB n hs <;> cases h2 : inB 1 1000 need <;> cases f <;> simp [meadC, h1, h2]

end Go.Proofs.YtbbododeglkghaaDoor

/-
  The greedy plan: its mathematics, spec.l07Greedy by contract.
-/
namespace Go.Proofs.YtbbododeglkghaaDoor
open Go Go.RowKit Go.BigFrame

/-- The greedy plan of at most d days. -/
def grL (need : Int) (n : Nat) : Nat → (Nat → Nat → Int) → List Nat
  | 0, _ => []
  | d + 1, hs => if hs (richK hs n) 0 < need then [] else richK hs n :: grL need n d (dayM hs need (richK hs n))
theorem grL_poor {need : Int} {n d : Nat} {hs : Nat → Nat → Int} (h : hs (richK hs n) 0 < need) : grL need n (d + 1) hs = [] := by simp [grL, h]
theorem grL_rich {need : Int} {n d : Nat} {hs : Nat → Nat → Int} (h : ¬ hs (richK hs n) 0 < need) : grL need n (d + 1) hs = richK hs n :: grL need n d (dayM hs need (richK hs n)) := by simp [grL, h]
theorem grL_len (need : Int) (n : Nat) : ∀ d hs, (grL need n d hs).length ≤ d
  | 0, _ => Nat.le_refl _
  | d + 1, hs => by
    simp only [grL]
    split
    · exact Nat.zero_le _
    · have := grL_len need n d (dayM hs need (richK hs n))
      simp only [List.length_cons]; omega
theorem goS_gr (need : Int) (B n : Nat) : ∀ d hs t, t + d ≤ B → ((grL need n d hs).length = d → goS need B (fun hs => [richK hs n]) d hs t = (some (grL need n d hs), t + d, false)) ∧ ((grL need n d hs).length ≠ d → ∃ t', goS need B (fun hs => [richK hs n]) d hs t = (none, t', false))
  | 0, hs, t, h => ⟨fun _ => rfl, fun h => absurd rfl h⟩
  | d + 1, hs, t, h => by
    have he : goS need B (fun hs => [richK hs n]) (d + 1) hs t = tryL need B (goS need B (fun hs => [richK hs n]) d) hs [richK hs n] t := rfl
    rw [he]
    by_cases hp : hs (richK hs n) 0 < need
    · rw [grL_poor hp, tryL_poor hp]
      exact ⟨fun h => by simp at h, fun _ => ⟨t, rfl⟩⟩
    · have hB : ¬ t = B := by omega
      obtain ⟨h1, h2⟩ := goS_gr need B n d (dayM hs need (richK hs n)) (t + 1) (by omega)
      rw [grL_rich hp]
      refine ⟨fun h => ?_, fun h => ?_⟩
      · rw [tryL_some hp hB (h1 (by simpa using h))]
        congr 2; omega
      · obtain ⟨t', ht⟩ := h2 (fun hh => h (by simp [hh]))
        rw [tryL_next hp hB ht]
        exact ⟨t', rfl⟩
/-- A new block with a list of numbers. -/
def GivesB (l : List Nat) (w : World) (e : Ending) (w' : World) : Prop := ∃ b c F, e = .returned (.slice (some ⟨b, 0, none⟩) l.length c) ∧ w.heap.size ≤ b ∧ l.length ≤ c ∧ (∀ j, j < l.length * 1 → F j = vI (natI l) j) ∧ At w' b (c * 1) F ∧ Below w.heap.size w w'
theorem GivesB.to {l l' : List Nat} {w : World} {e : Ending} {w' : World} (h : GivesB l w e w') (hl : l = l') : GivesB l' w e w' := by rw [← hl]; exact h
def lenV : Value → Nat
  | .slice _ n _ => n
  | _ => 0

set_option maxRecDepth 100000 in
set_option maxHeartbeats 4000000 in
theorem l07Greedy_any (b n c : Nat) (hs : Nat → Nat → Int) (hn1 : 1 ≤ n) (hn6 : n ≤ 6) (hb : ∀ i, i < n → meadB (hs i) = true) (need : Int) (hd : 1 ≤ need ∧ need ≤ 1000) (d : Nat) (hd30 : d ≤ 30) (w : World) (hB : At w b (n * 3) (sMeadow hs)) :
    Calls Tryd.prog 59 #[.slice (some ⟨b, 0, none⟩) n c, .int .i64 need, .int .i64 (d : Int)] w (GivesB (grL need n d hs) w) := by
  have hM : Mem w [(b, n * 3, sMeadow hs)] w := (Mem.nil w).old hB (fun i p h => by simp at h)
  have Hb := Lib.hid hb
  clear hB hb
  generalize hG : grL need n d hs = G
  have HG : Hid (grL need n d hs = G) := Lib.hid hG
  clear hG
  have tk_s1 : True := trivial
  go_enter Tryd.func59, Tryd.ntmps59
  go_wp2_with (first | (have _t := tk_s1; refine wpList_slice0 rfl _ _ rfl _ int64s_underR int64_info0 hM ?_; intro s1 W' hs1 hM'; clear hM tk_s1; have hM := hM'; clear hM'))
  go_loopw [0, 7] (fun v0 v7 wr => ∃ acc : List Nat, acc.length ≤ d ∧ ∃ hs' : Nat → Nat → Int, Hid (acc ++ grL need n (d - acc.length) hs' = G) ∧ Hid (∀ i, i < n → meadB (hs' i) = true) ∧ ∃ bY NY cY FY, v0 = .slice (some ⟨bY, 0, none⟩) n cY ∧ n * 3 ≤ NY ∧ Hid (∀ j, j < n * 3 → FY j = sMeadow hs' j) ∧ ∃ bD cD FD, v7 = .slice (some ⟨bD, 0, none⟩) (natI acc).length cD ∧ w.heap.size ≤ bD ∧ (natI acc).length ≤ cD ∧ Hid (∀ j, j < (natI acc).length * 1 → FD j = vI (natI acc) j) ∧ Mem w [(bD, cD * 1, FD), (bY, NY, FY)] wr) (fun _ v7 _ => d - lenV v7)
  case atStart => exact ⟨[], by simp, hs, HG, Hb, b, n * 3, c, sMeadow hs, rfl, Nat.le_refl _, Lib.hid (fun _ _ => rfl), s1, 0, _, rfl, by assumption, Nat.le_refl _, Lib.hid (fun j hj => by simp [natI] at hj), hM⟩
  case round =>
    clear hM
    obtain ⟨acc, hacc, hs', HG', Hst, bY, NY, cY, FY, rfl, hNL, hFY, bD, cD, FD, rfl, hbD, hcD, hFD, hM⟩ := hrel
    have hlen := natI_len acc
    by_cases hlt : acc.length < d
    · have l2 : (((natI acc).length : Nat) : Int) < (d : Int) := by rw [hlen]; omega
      obtain ⟨q, hq⟩ : ∃ q, d - acc.length = q + 1 := ⟨d - acc.length - 1, by omega⟩
      have hq2 : d - (acc.length + 1) = q := by omega
      obtain ⟨m, hm⟩ : ∃ m : Nat, m = richK hs' n := ⟨_, rfl⟩
      have hmn : m < n := by rw [hm]; exact richK_lt hs' hn1
      have lm : (m : Int) < n := by omega
      have em : FY (m * 3) = .int .i16 (hs' m 0) := by rw [hFY.out _ (by omega)]; exact sMeadow_row _ m 0 (by omega)
      have hmb := meadB_iff (Hst.out m hmn)
      have cm : IntKind.i64.wrap (hs' m 0) = hs' m 0 := IntWalk.i64_in _ (by omega)
      have HR : Hid (∀ W, At W bY NY FY → Calls Tryd.prog 74 #[.slice (some ⟨bY, 0, none⟩) n cY] W fun e w' => e = .returned (.int .i64 (m : Nat)) ∧ Below W.heap.size W w') := Lib.hid (fun W h => by rw [hm]; exact l07Richest_any bY NY n cY FY hs' hn1 hn6 hNL hFY.out W h)
      have hk2 : (natI acc).length ≤ 1048576 := by rw [hlen]; omega
      by_cases hc : need ≤ hs' m 0
      · have d0 : decide (hs' m 0 < need) = false := decide_eq_false (by omega)
        have Hs : Hid (acc ++ [m] ++ grL need n (d - (acc ++ [m]).length) (dayM hs' need m) = G) := Lib.hid (by
          rw [← HG'.out, hq, grL_rich (by rw [← hm]; omega), ← hm, List.length_append, List.length_singleton, hq2, List.append_assoc]; rfl)
        have Hsn : Hid (natI (acc ++ [m]) = natI acc ++ [(m : Int)]) := Lib.hid (natI_snoc acc m)
        have Hln : Hid ((acc ++ [m]).length ≤ d ∧ (natI (acc ++ [m])).length = (natI acc).length + 1) := Lib.hid (by rw [natI_len, natI_len, List.length_append, List.length_singleton]; omega)
        have Hday := Lib.hid (fun i hi => dayM_ok (i := i) (m := m) Hst.out hd hc hi)
        clear hm hmb HG' hq hq2
        generalize hrl : natI acc = rl at *
        have Hnew := Lib.hid (fun j (hj : j < 1) => vI_new rl (m : Int) hj)
        have Hold : Hid (∀ j, j < rl.length * 1 → FD j = vI (rl ++ [(m : Int)]) j) := Lib.hid (fun j hj => by rw [hFD.out j hj]; exact vI_old rl (m : Int) hj)
        have Hlt : Hid (acc.length = rl.length ∧ acc.length < d) := Lib.hid ⟨by omega, hlt⟩
        clear hFD hlen hlt hacc hrl
        have tk_l1 : True := trivial; have tk_p1 : True := trivial
        go_wp2_with (first | (go_at_call 74; (with_reducible refine (HR.out _ (hM.ats 1 _ _ _ rfl)).mono ?_); rintro e W' ⟨rfl, hb'⟩; have hM' := hM.call hb'; clear hM hb'; have hM := hM'; clear hM') | (refine wpList_get1 rfl _ _ rfl _ _ rfl hM 1 rfl (cellTab _ rfl) (by omega) _ em ?_) | (have _t := tk_l1; refine wpList_lit1 rfl _ _ _ rfl (.int .i64 (m : Int)) rfl rfl _ int64s_underR int64_infoR hM ?_; intro l1 W' hl1 hM'; clear hM tk_l1; have hM := hM'; clear hM') | (have _t := tk_p1; refine wpList_push1 rfl _ _ _ rfl _ 1 _ _ int64s_underR infoInt64S rfl (by omega) _ _ _ _ rfl hbD hcD hk2 _ _ rfl i64_one hM (vI (rl ++ [(m : Int)])) Hold.out Hnew.out ?_; intro bL cL FL W' hbL hcL hFL hM'; clear hM tk_p1; have hM := hM'; clear hM') | (go_at_call 44; (with_reducible refine (l07Day_any bY n cY NY FY hs' hn1 hn6 hNL hFY.out Hst.out need hd m hmn hc _ (hM.ats 1 _ _ _ rfl)).mono ?_); rintro e W' ⟨bN, cN, FN, rfl, hbN, hcN, hFN, hAN, hbl⟩; have hM' := (hM.freshQ hbl hAN hbN).swap; clear hM hbl hAN; have hM := hM'; clear hM'))
        go_roundw
        case rel => exact ⟨acc ++ [m], Hln.out.1, dayM hs' need m, Hs, Hday, bN, cN * 3, cN, FN, rfl, by omega, Lib.hid hFN, bL, cL, FL, by rw [Hln.out.2], hbL, by rw [Hln.out.2]; exact hcL, Lib.hid (by rw [Hsn.out, List.length_append]; exact hFL), hM.skip3R⟩
        case measure =>
          have := Hlt.out
          simp [lenV]; omega
      · have d0 : decide (hs' m 0 < need) = true := decide_eq_true (by omega)
        have Hs : Hid (G = acc) := Lib.hid (by rw [← HG'.out, hq, grL_poor (by rw [← hm]; omega), List.append_nil])
        have Hlen := Lib.hid hlen
        clear hm hmb HG' hq hq2 hlen
        go_wp2_with (first | (go_at_call 74; (with_reducible refine (HR.out _ (hM.ats 1 _ _ _ rfl)).mono ?_); rintro e W' ⟨rfl, hb'⟩; have hM' := hM.call hb'; clear hM hb'; have hM := hM'; clear hM') | (refine wpList_get1 rfl _ _ rfl _ _ rfl hM 1 rfl (cellTab _ rfl) (by omega) _ em ?_))
        go_ret
        exact GivesB.to (l := acc) ⟨bD, cD, FD, by rw [Hlen.out]; rfl, hbD, by rw [← Hlen.out]; exact hcD, by rw [← Hlen.out]; exact hFD.out, hM.at0, hM.below⟩ Hs.out.symm
    · have hld : acc.length = d := by omega
      have Hs : Hid (G = acc) := Lib.hid (by rw [← HG'.out, show d - acc.length = 0 by omega]; simp [grL])
      have l2 : (((natI acc).length : Nat) : Int) = (d : Int) := by rw [hlen]; omega
      have Hlen := Lib.hid hlen
      clear HG' hlen hld
      go_wp2
      go_ret
      exact GivesB.to (l := acc) ⟨bD, cD, FD, by rw [Hlen.out]; rfl, hbD, by rw [← Hlen.out]; exact hcD, by rw [← Hlen.out]; exact hFD.out, hM.at0, hM.below⟩ Hs.out.symm
end Go.Proofs.YtbbododeglkghaaDoor

/-
  spec.GreedyPlan and impl.GreedyPlan by contracts.
-/
namespace Go.Proofs.YtbbododeglkghaaDoor
open Go Go.RowKit Go.BigFrame

/-- What GreedyPlan answers. -/
def grdC (n : Nat) (hs : Nat → Nat → Int) (need days : Int) : Int := if meadC n hs need (inB 0 30 days) = 0 then (if (grL need n days.toNat hs).length = days.toNat then 0 else 6) else meadC n hs need (inB 0 30 days)
def grdL (n : Nat) (hs : Nat → Nat → Int) (need days : Int) : List Int := if grdC n hs need days = 0 then natI (grL need n days.toNat hs) else []
def GivesG (n : Nat) (hs : Nat → Nat → Int) (need days : Int) (w : World) (e : Ending) (w' : World) : Prop := GivesR 1 (grdL n hs need days).length (vI (grdL n hs need days)) (grdC n hs need days) w e w'
theorem grd_no {n : Nat} {hs : Nat → Nat → Int} {need days C : Int} (h : meadC n hs need (inB 0 30 days) = C) (hC : C ≠ 0) : grdC n hs need days = C ∧ grdL n hs need days = [] := by
  have h1 : grdC n hs need days = C := by unfold grdC; rw [h, if_neg hC]
  exact ⟨h1, by unfold grdL; rw [h1, if_neg hC]⟩
theorem grd_short {n d : Nat} {hs : Nat → Nat → Int} {need : Int} (h : meadC n hs need (inB 0 30 (d : Int)) = 0) (hl : ¬ (grL need n d hs).length = d) : grdC n hs need (d : Int) = 6 ∧ grdL n hs need (d : Int) = [] := by
  have h1 : grdC n hs need d = 6 := by unfold grdC; rw [if_pos h, Int.toNat_natCast, if_neg hl]
  exact ⟨h1, by unfold grdL; rw [h1, if_neg (by omega)]⟩
theorem grd_yes {n d : Nat} {hs : Nat → Nat → Int} {need : Int} (h : meadC n hs need (inB 0 30 (d : Int)) = 0) (hl : (grL need n d hs).length = d) : grdC n hs need (d : Int) = 0 ∧ grdL n hs need (d : Int) = natI (grL need n d hs) := by
  have h1 : grdC n hs need d = 0 := by unfold grdC; rw [if_pos h, Int.toNat_natCast, if_pos hl]
  exact ⟨h1, by unfold grdL; rw [h1, if_pos rfl, Int.toNat_natCast]⟩
theorem givesG_none {n : Nat} {hs : Nat → Nat → Int} {need days C : Int} (h : grdC n hs need days = C ∧ grdL n hs need days = []) {w W : World} (hb : Below w.heap.size w W) {a : Option Addr} {c : Nat} : GivesG n hs need days w (.returned (.tuple #[.slice a 0 c, .int .i64 C])) W := by
  unfold GivesG
  rw [h.1, h.2]
  exact ⟨_, rfl, .inl ⟨rfl, ⟨a, c, rfl⟩, hb⟩⟩
theorem givesG_some {n : Nat} {hs : Nat → Nat → Int} {need days : Int} {l : List Nat} (h : grdC n hs need days = 0 ∧ grdL n hs need days = natI l) {w W : World} {v : Value} (hL : NewL 1 l.length (vI (natI l)) w v W) : GivesG n hs need days w (.returned (.tuple #[v, .int .i64 0])) W := by
  unfold GivesG
  rw [h.1, h.2, natI_len]
  exact ⟨v, rfl, hL⟩

set_option maxRecDepth 100000 in
set_option maxHeartbeats 4000000 in
theorem specGreedyPlan_l (b n c : Nat) (hs : Nat → Nat → Int) (hF : ∀ i, i < n → FitsMeadow (hs i)) (hn : n ≤ 1048576) (need days : Int) (w : World) (hB : At w b (n * 3) (sMeadow hs)) :
    Calls Tryd.prog 34 #[.slice (some ⟨b, 0, none⟩) n c, .int .i64 need, .int .i64 days] w (GivesG n hs need days w) := by
  have hM : Mem w [(b, n * 3, sMeadow hs)] w := (Mem.nil w).old hB (fun i p h => by simp at h)
  have HF := Lib.hid hF
  clear hF hB
  have hda : ∀ W, Calls Tryd.prog 51 #[.int .i64 days] W fun e w' => e = .returned (.bool (inB 0 30 days)) ∧ Below W.heap.size W w' := fun W => by
    have hM := Mem.nil W
    go_enter Tryd.func51, Tryd.ntmps51
    go_wp2_with (first | (go_at_call 55; (with_reducible refine (l00In_any days 0 30 _).mono ?_); rintro e W' ⟨rfl, hb'⟩; have hM' := hM.call hb'; clear hM hb'; have hM := hM'; clear hM'))
    go_ret
    exact ⟨ret_bool (a := inB 0 30 days) rfl, hM.below⟩
  have Hda := Lib.hid hda
  clear hda
  by_cases hc : meadC n hs need (inB 0 30 days) = 0
  case neg =>
    have Hb := Lib.hid (grd_no (days := days) rfl hc)
    have d0 : decide (meadC n hs need (inB 0 30 days) = 0) = false := decide_eq_false hc
    have HA := Lib.hid (fun W hB => l07Asked_any b n c hs HF.out hn need (inB 0 30 days) W hB)
    generalize meadC n hs need (inB 0 30 days) = C at *
    have tk_s1 : True := trivial
    go_enter Tryd.func34, Tryd.ntmps34
    go_wp2_with (first | (go_at_call 51; (with_reducible refine (Hda.out _).mono ?_); rintro e W' ⟨rfl, hb'⟩; have hM' := hM.call hb'; clear hM hb'; have hM := hM'; clear hM') | (go_at_call 42; (with_reducible refine (HA.out _ (hM.ats 0 _ _ _ rfl)).mono ?_); rintro e W' ⟨rfl, hb'⟩; have hM' := hM.call hb'; clear hM hb'; have hM := hM'; clear hM') | (have _t := tk_s1; refine wpList_slice0 rfl _ _ rfl _ int64s_underR int64_info0 hM ?_; intro s1 W' hs1 hM'; clear hM tk_s1; have hM := hM'; clear hM'))
    go_ret2
    exact givesG_none Hb.out hM.below
  have hc' := meadC_0 hc
  have hne := inB_true hc'.2.1
  have hdd := inB_true hc'.2.2
  obtain ⟨hn6, hmb⟩ := meadsB_iff hc'.1
  obtain ⟨d, rfl⟩ : ∃ d : Nat, days = d := ⟨days.toNat, by omega⟩
  have hd30 : d ≤ 30 := by omega
  have HA := Lib.hid (fun W hB => (l07Asked_any b n c hs HF.out hn need (inB 0 30 (d : Int)) W hB).mono (fun e w' h => by rw [hc] at h; exact h))
  have HG := Lib.hid (fun W hB => l07Greedy_any b n c hs hn6.1 hn6.2 hmb need hne d hd30 W hB)
  have hlen := grL_len need n d hs
  by_cases hl : (grL need n d hs).length = d
  · have Hb := Lib.hid (grd_yes hc hl)
    have d1 : decide (((grL need n d hs).length : Int) < d) = false := decide_eq_false (by omega)
    have d2 : decide ((grL need n d hs).length < d) = false := decide_eq_false (by omega)
    have d3 : ¬ (grL need n d hs).length < d := by omega
    clear hc hc' hl hlen hmb
    generalize grL need n d hs = l at *
    go_enter Tryd.func34, Tryd.ntmps34
    go_wp2_with (first | (go_at_call 51; (with_reducible refine (Hda.out _).mono ?_); rintro e W' ⟨rfl, hb'⟩; have hM' := hM.call hb'; clear hM hb'; have hM := hM'; clear hM') | (go_at_call 42; (with_reducible refine (HA.out _ (hM.ats 0 _ _ _ rfl)).mono ?_); rintro e W' ⟨rfl, hb'⟩; have hM' := hM.call hb'; clear hM hb'; have hM := hM'; clear hM') | (go_at_call 59; (with_reducible refine (HG.out _ (hM.ats 0 _ _ _ rfl)).mono ?_); rintro e W' ⟨bN, cN, FN, rfl, hbN, hcN, hFN, hAN, hbl⟩; have hbN2 := Nat.le_trans hM.size hbN; have hM' := hM.freshQ hbl hAN hbN; clear hM hbl hAN; have hM := hM'; clear hM'))
    go_ret2
    exact givesG_some Hb.out (.inr ⟨bN, cN, _, FN, rfl, hbN2, Nat.mul_le_mul_right _ hcN, hFN, hM.at0, hM.below⟩)
  · have Hb := Lib.hid (grd_short hc hl)
    have d1 : decide (((grL need n d hs).length : Int) < d) = true := decide_eq_true (by omega)
    have d2 : decide ((grL need n d hs).length < d) = true := decide_eq_true (by omega)
    have d3 : (grL need n d hs).length < d := by omega
    clear hc hc' hl hlen hmb
    generalize grL need n d hs = l at *
    have tk_s1 : True := trivial
    go_enter Tryd.func34, Tryd.ntmps34
    go_wp2_with (first | (go_at_call 51; (with_reducible refine (Hda.out _).mono ?_); rintro e W' ⟨rfl, hb'⟩; have hM' := hM.call hb'; clear hM hb'; have hM := hM'; clear hM') | (go_at_call 42; (with_reducible refine (HA.out _ (hM.ats 0 _ _ _ rfl)).mono ?_); rintro e W' ⟨rfl, hb'⟩; have hM' := hM.call hb'; clear hM hb'; have hM := hM'; clear hM') | (have _t := tk_s1; refine wpList_slice0 rfl _ _ rfl _ int64s_underR int64_info0 hM ?_; intro s1 W' hs1 hM'; clear hM tk_s1; have hM := hM'; clear hM') | (go_at_call 59; (with_reducible refine (HG.out _ (hM.ats 0 _ _ _ rfl)).mono ?_); rintro e W' ⟨bN, cN, FN, rfl, hbN, hcN, hFN, hAN, hbl⟩; have hM' := hM.freshQ hbl hAN hbN; clear hM hbl hAN; have hM := hM'; clear hM'))
    go_ret2
    exact givesG_none Hb.out hM.below

set_option maxRecDepth 100000 in
theorem is_nil (v : Addr) (w : World) : Calls Tryd.prog 72 #[.nilIface, errV v] w fun e w' => e = .returned (.bool false) ∧ w = w' := by
  have heq : ∀ p (w : World), (binOp .eql 67 .nilIface (.iface 136 p)).run Tryd.prog w = .ok (.bool false) w := fun p w => by kernel_rfl
  unfold errV
  go_enter Tryd.func72, Tryd.ntmps72
  go_wp2
  go_ret
  exact ⟨rfl, rfl⟩

set_option maxRecDepth 100000 in
set_option maxHeartbeats 4000000 in
theorem codeOf_nil {a : Nat → Addr} {w : World} (h : Errs a w) :
    Calls Tryd.prog 50 #[.nilIface] w fun e w' => e = .returned (.int .i64 0) ∧ w = w' := by
  have v0 : w.cell? ⟨0, 0, none⟩ = some (errV (a 0)) := h.vars 0 (by omega)
  have v1 : w.cell? ⟨1, 0, none⟩ = some (errV (a 1)) := h.vars 1 (by omega)
  have v5 : w.cell? ⟨2, 0, none⟩ = some (errV (a 5)) := h.vars 5 (by omega)
  have v2 : w.cell? ⟨3, 0, none⟩ = some (errV (a 2)) := h.vars 2 (by omega)
  have v3 : w.cell? ⟨4, 0, none⟩ = some (errV (a 3)) := h.vars 3 (by omega)
  have v4 : w.cell? ⟨5, 0, none⟩ = some (errV (a 4)) := h.vars 4 (by omega)
  have v6 : w.cell? ⟨6, 0, none⟩ = some (errV (a 6)) := h.vars 6 (by omega)
  clear h
  go_enter Tryd.func50, Tryd.ntmps50
  go_wp2_with (first | (go_at_call 72; (with_reducible refine (is_nil _ _).mono ?_); rintro e W' ⟨rfl, rfl⟩))
  go_ret
  exact ⟨rfl, rfl⟩

theorem run_searchR (need : Int) (B : Nat) (W : World) : (Instr.build 90 #[(0, liveV need), (1, .func (.func 60) #[] #[]), (2, .int .i64 (B : Int))]).run Tryd.prog W = .ok (.agg (arr 4 (srchVR need B 0))) W := by
  kernel_rfl
theorem wpList_searchR {ops : Array Oper} {rest : List Oper} {o : Oper} {a : Act} {W : World} {Q : Exit → Act → World → Prop} (hgd : o.guard = none) (x y z : Operand) (ho : o.op = .build 90 #[(0, x), (1, y), (2, z)]) (need : Int) (B : Nat) (hx : a.eval x = liveV need) (hy : a.eval y = .func (.func 60) #[] #[]) (hz : a.eval z = .int .i64 (B : Int))
    (h : wpList Tryd.prog ops Q rest (a.put o.dst (.agg (arr 4 (srchVR need B 0)))) W) : wpList Tryd.prog ops Q (o :: rest) a W := by
  refine wpList_plain hgd fun K hK => ?_
  unfold Oper.wp execOp
  have e : (Array.map (fun (z : Nat × Operand) => match z with | (i, x) => (i, a.eval x)) #[(0, x), (1, y), (2, z)]) = #[(0, liveV need), (1, .func (.func 60) #[] #[]), (2, .int .i64 (B : Int))] := by simp [hx, hy, hz]
  simp only [ho, e, Sem.run_bind, Sem.run_pure, run_searchR, Result.andThen_ok]
  exact hK _ _ h
def zSearch : Nat → Value := fun k => if k < 2 then .nilFunc else .int .i64 0
theorem zeroSearch : (Tryd.prog.info? 90).map (·.zero) = some (some (.agg (arr 4 zSearch))) := by kernel_rfl
theorem rowSearch : RowT Tryd.prog 90 4 := ⟨⟨_, Tryd.underlying90, rfl⟩, by kernel_rfl⟩

theorem srchR_one (need : Int) (B t : Nat) : ∀ k, k < 4 → (srchVR need B t k).oneCell' = true := fun k hk => by
  rcases (show k = 0 ∨ k = 1 ∨ k = 2 ∨ k = 3 by omega) with rfl | rfl | rfl | rfl <;> rfl
theorem Lst.newK {w : World} {K : Blocks} {m n : Nat} {v : Value} {R : Nat → Value} {W : World} (h : Lst w K m v n R W) : NewL m n R w v W := by
  rcases h with ⟨h1, h2, h⟩ | ⟨b, c, F, h1, h2, h3, h4, h⟩
  · exact .inl ⟨h2, ⟨none, 0, h1⟩, h.below⟩
  · exact .inr ⟨b, c, _, F, h1, h2, Nat.mul_le_mul_right _ h3, h4, h.at0, h.below⟩
theorem Lst.below {w : World} {K : Blocks} {m n : Nat} {v : Value} {R : Nat → Value} {W : World} (h : Lst w K m v n R W) : Below w.heap.size w W := by
  rcases h with ⟨h1, h2, h⟩ | ⟨b, c, F, h1, h2, h3, h4, h⟩ <;> exact h.below

set_option maxRecDepth 100000 in
set_option maxHeartbeats 8000000 in
theorem implGreedyPlan_l {a : Nat → Addr} (b n c : Nat) (hs : Nat → Nat → Int) (hF : ∀ i, i < n → FitsMeadow (hs i)) (hn : n ≤ 1048576) (need days : Int) (w : World) (hB : At w b (n * 3) (sMeadow hs)) (hE : Errs a w) :
    Calls Tryd.prog 35 #[.slice (some ⟨b, 0, none⟩) n c, .int .i64 need, .int .i64 days] w (GivesG n hs need days w) := by
  have hM : Mem w [(b, n * 3, sMeadow hs)] w := (Mem.nil w).old hB (fun i p h => by simp at h)
  have HF := Lib.hid hF
  have HE := Lib.hid hE
  clear hF hB hE
  rcases meadC_cases n hs need (inB 0 30 days) with ⟨hm, hc⟩ | ⟨hm, hd, hc⟩ | ⟨hm, hd, hr, hc⟩ | ⟨hm, hd, hr, hc⟩
  · have Hb := Lib.hid (grd_no (days := days) hc (by omega))
    have Hm := Lib.hid hm
    clear hm hc
    go_enter Tryd.func35, Tryd.ntmps35
    go_wp2_with (first | (go_at_call 53; (with_reducible refine (seasonOf_0 b (n * 3) n c (sMeadow hs) hs (Nat.le_refl _) (fun _ _ => rfl) HF.out hn need _ (hM.ats 0 _ _ _ rfl) (HE.out.below hM.below) Hm.out).mono ?_); rintro e W' ⟨rfl, hb'⟩; have hM' := hM.call hb'; clear hM hb'; have hM := hM'; clear hM') | (go_at_call 50; (with_reducible refine (codeOf_0 (HE.out.below hM.below)).mono ?_); rintro e W' ⟨rfl, rfl⟩))
    go_ret2
    exact givesG_none Hb.out hM.below
  · have Hb := Lib.hid (grd_no (days := days) hc (by omega))
    have Hm := Lib.hid hm
    have Hd := Lib.hid hd
    clear hm hc hd
    go_enter Tryd.func35, Tryd.ntmps35
    go_wp2_with (first | (go_at_call 53; (with_reducible refine (seasonOf_1 b (n * 3) n c (sMeadow hs) hs (Nat.le_refl _) (fun _ _ => rfl) HF.out hn need _ (hM.ats 0 _ _ _ rfl) (HE.out.below hM.below) Hm.out Hd.out).mono ?_); rintro e W' ⟨rfl, hb'⟩; have hM' := hM.call hb'; clear hM hb'; have hM := hM'; clear hM') | (go_at_call 50; (with_reducible refine (codeOf_1 (HE.out.below hM.below)).mono ?_); rintro e W' ⟨rfl, rfl⟩))
    go_ret2
    exact givesG_none Hb.out hM.below
  · have Hb := Lib.hid (grd_no (days := days) hc (by omega))
    have Hm := Lib.hid hm
    have Hd := Lib.hid hd
    have Hr := Lib.hid hr
    clear hm hc hd hr
    go_enter Tryd.func35, Tryd.ntmps35
    go_wp2_with (first | (go_at_call 53; (with_reducible refine (seasonOf_ok b (n * 3) n c (sMeadow hs) hs (Nat.le_refl _) (fun _ _ => rfl) HF.out hn need _ (hM.ats 0 _ _ _ rfl) (HE.out.below hM.below) Hm.out Hd.out).mono ?_); rintro e W' ⟨rfl, hb'⟩; have hM' := hM.call hb'; clear hM hb'; have hM := hM'; clear hM') | (go_at_call 54; (with_reducible refine (checkUpTo_no days 30 _ (HE.out.below hM.below) Hr.out).mono ?_); rintro e W' ⟨rfl, hb'⟩; have hM' := hM.call hb'; clear hM hb'; have hM := hM'; clear hM') | (go_at_call 50; (with_reducible refine (codeOf_1 (HE.out.below hM.below)).mono ?_); rintro e W' ⟨rfl, rfl⟩))
    go_ret2
    exact givesG_none Hb.out hM.below
  have hdd := inB_true hr
  have hne := inB_true hd
  obtain ⟨hn6, hmb⟩ := meadsB_iff hm
  obtain ⟨d, rfl⟩ : ∃ d : Nat, days = d := ⟨days.toNat, by omega⟩
  have hd30 : d ≤ 30 := by omega
  have hd2 : d ≤ 20000 := by omega
  have Hm := Lib.hid hm
  have Hd := Lib.hid hd
  have Hr := Lib.hid hr
  have Hmb := Lib.hid hmb
  have Hgo := Lib.hid (goS_gr need d n d hs 0 (by omega))
  have Hc := Lib.hid hc
  clear hc hm hd hr hmb
  have tk_z1 : True := trivial; have tk_y1 : True := trivial
  go_enter Tryd.func35, Tryd.ntmps35
  go_wp2_with (first | (go_at_call 53; (with_reducible refine (seasonOf_ok b (n * 3) n c (sMeadow hs) hs (Nat.le_refl _) (fun _ _ => rfl) HF.out hn need _ (hM.ats 0 _ _ _ rfl) (HE.out.below hM.below) Hm.out Hd.out).mono ?_); rintro e W' ⟨rfl, hb'⟩; have hM' := hM.call hb'; clear hM hb'; have hM := hM'; clear hM') | (go_at_call 54; (with_reducible refine (checkUpTo_yes ((d : Nat) : Int) 30 _ Hr.out).mono ?_); rintro e W' ⟨rfl, hb'⟩; have hM' := hM.call hb'; clear hM hb'; have hM := hM'; clear hM') | (refine wpList_searchR rfl _ _ _ rfl need d rfl rfl rfl ?_) | (have _t := tk_z1; refine wpList_zero rfl _ rfl zeroSearch hM ?_; intro bs W' hbs hM'; clear hM tk_z1; have hM := hM'; clear hM') | (have _t := tk_y1; (refine wpList_lay rfl _ _ _ rfl _ _ rfl _ _ rfl hM 0 rfl (by assumption) rowSearch (by omega) (srchR_one need d 0) ?_; intro W' hM'; clear hM; have hM1 := hM'.re 0 rfl (srchVR need d 0) (fun j hj => by simp only [lay]; rw [if_pos ⟨by omega, by omega⟩, Nat.sub_zero]); simp only [List.set_cons_zero] at hM1; clear hM'; have hM := hM1; clear hM1); clear tk_y1))
  go_at_call 61
  refine (planForR w HE.out need hne d hd2 n hn6.1 hn6.2 bs hbs d hd30 hs Hmb.out 0 (by omega) b (n * 3) c (sMeadow hs) (Nat.le_refl _) (fun _ _ => rfl) [] _ hM).mono ?_
  clear hM
  rintro e W2 (⟨p, t2, b2, v, hq, rfl, hv0, hL⟩ | ⟨t2, hq, rfl, hM⟩ | ⟨t2, hq, rfl, hM⟩)
  · have hl : (grL need n d hs).length = d := by
      by_cases hl : (grL need n d hs).length = d
      · exact hl
      · obtain ⟨t', ht⟩ := Hgo.out.2 hl
        rw [ht] at hq; simp at hq
    have hp : p = grL need n d hs := by
      rw [Hgo.out.1 hl] at hq
      simp only [Prod.mk.injEq, Option.some.injEq] at hq
      exact hq.1.symm
    have Hb := Lib.hid (grd_yes Hc.out hl)
    have HL := Lib.hid (by rw [hp] at hL; exact hL.newK : NewL 1 (grL need n d hs).length (vI (natI (grL need n d hs))) w v W2)
    have hb2 := hL.below
    clear hl hp hL hq hv0
    go_wp2_with (first | (go_at_call 50; (with_reducible refine (codeOf_nil (HE.out.below hb2)).mono ?_); rintro e W' ⟨rfl, rfl⟩))
    go_ret2
    exact givesG_some Hb.out HL.out
  · exfalso
    by_cases hl : (grL need n d hs).length = d
    · rw [Hgo.out.1 hl] at hq; simp at hq
    · obtain ⟨t', ht⟩ := Hgo.out.2 hl
      rw [ht] at hq; simp at hq
  · have hl : ¬ (grL need n d hs).length = d := fun hl => by rw [Hgo.out.1 hl] at hq; simp at hq
    have Hb := Lib.hid (grd_short Hc.out hl)
    clear hl hq
    go_wp2_with (first | (go_at_call 50; (with_reducible refine (codeOf_4 (HE.out.below hM.below)).mono ?_); rintro e W' ⟨rfl, rfl⟩))
    go_ret2
    exact givesG_none Hb.out hM.below

theorem specGreedyPlan_any (b n c : Nat) (hs : Nat → Nat → Int) (hF : ∀ i, i < n → FitsMeadow (hs i)) (hn : n ≤ 1048576) (need days : Int) (w : World) (hB : At w b (n * 3) (sMeadow hs)) :
    Calls Tryd.prog 34 #[.slice (some ⟨b, 0, none⟩) n c, .int .i64 need, .int .i64 days] w (GivesR 1 (grdL n hs need days).length (vInt64S (numsF (grdL n hs need days))) (grdC n hs need days) w) := specGreedyPlan_l b n c hs hF hn need days w hB
theorem implGreedyPlan_any {a : Nat → Addr} (b n c : Nat) (hs : Nat → Nat → Int) (hF : ∀ i, i < n → FitsMeadow (hs i)) (hn : n ≤ 1048576) (need days : Int) (w : World) (hB : At w b (n * 3) (sMeadow hs)) (hE : Errs a w) :
    Calls Tryd.prog 35 #[.slice (some ⟨b, 0, none⟩) n c, .int .i64 need, .int .i64 days] w (GivesR 1 (grdL n hs need days).length (vInt64S (numsF (grdL n hs need days))) (grdC n hs need days) w) := implGreedyPlan_l b n c hs hF hn need days w hB hE
theorem grdL_len (n : Nat) (hs : Nat → Nat → Int) (need days : Int) : (grdL n hs need days).length ≤ 1048576 := by
  by_cases hc : meadC n hs need (inB 0 30 days) = 0
  · have hdd := inB_true (meadC_0 hc).2.2
    unfold grdL
    split
    · rw [natI_len]
      have := grL_len need n days.toNat hs
      omega
    · simp
  · rw [(grd_no (days := days) rfl hc).2]; simp
end Go.Proofs.YtbbododeglkghaaDoor

/-
  impl.lastFound by contract, for any function that answers codes.
-/
namespace Go.Proofs.YtbbododeglkghaaDoor
open Go Go.RowKit Go.BigFrame

/-- What lastFound answers: m numbers left, from x on. -/
def lastF (code : Nat → Int) (first : Nat) : Nat → Nat → Int × Int
  | 0, x => ((x : Int) - 1, 0)
  | m + 1, x => if code x = 6 ∧ first < x then ((x : Int) - 1, 0) else if code x = 0 then lastF code first m (x + 1) else (0, code x)
theorem lastF_found {code : Nat → Int} {first m x : Nat} (h : code x = 6) (h2 : first < x) : lastF code first (m + 1) x = ((x : Int) - 1, 0) := by simp [lastF, h, h2]
theorem lastF_first {code : Nat → Int} {first m x : Nat} (h : code x = 6) (h2 : ¬ first < x) : lastF code first (m + 1) x = (0, 6) := by simp [lastF, h, h2]
theorem lastF_code {code : Nat → Int} {first m x : Nat} (h : code x ≠ 6) (h2 : code x ≠ 0) : lastF code first (m + 1) x = (0, code x) := by simp [lastF, h, h2]
theorem lastF_next {code : Nat → Int} {first m x : Nat} (h : code x = 0) : lastF code first (m + 1) x = lastF code first m (x + 1) := by simp [lastF, h]

set_option maxRecDepth 100000 in
set_option maxHeartbeats 2000000 in
theorem lastFound_any (code : Nat → Int) (first last : Nat) (hl : last ≤ 1000000) (hfl : first ≤ last) (fi la : Int) (hfi : fi = (first : Int)) (hla : la = (last : Int)) {gf : Nat} {lb : Array Value} (eg : ∀ args w, (callFunc gf args).run Tryd.prog w = .ok (.enter gf args) w) (w : World)
    (hcl : ∀ X, Below w.heap.size w X → ∀ k : Nat, k ≤ last → Calls Tryd.prog gf (#[.int .i64 (k : Int)] ++ lb) X fun e w' => e = .returned (.int .i64 (code k)) ∧ Below X.heap.size X w') :
    Calls Tryd.prog 62 #[.int .i64 fi, .int .i64 la, .func (.func gf) #[] lb] w fun e w' => e = .returned (.tuple #[.int .i64 (lastF code first (last + 1 - first) first).1, .int .i64 (lastF code first (last + 1 - first) first).2]) ∧ Below w.heap.size w w' := by
  have hM := Mem.nil w
  have Hcl := Lib.hid hcl
  subst hfi hla
  obtain ⟨R, hR⟩ : ∃ R, lastF code first (last + 1 - first) first = R := ⟨_, rfl⟩
  rw [hR]
  have HR : Hid (lastF code first (last + 1 - first) first = R) := Lib.hid hR
  clear hcl hR
  go_enter Tryd.func62, Tryd.ntmps62
  go_wp2
  go_loopw [8] (fun i wr => ∃ x : Nat, first ≤ x ∧ x ≤ last + 1 ∧ i = .int .i64 x ∧ Hid (lastF code first (last + 1 - x) x = R) ∧ Mem w [] wr) (fun i _ => last + 1 - (intOf i).toNat)
  case atStart => exact ⟨first, Nat.le_refl _, by omega, rfl, HR, hM⟩
  case round =>
    clear hM HR
    obtain ⟨x, hx, hxl, rfl, hr, hM⟩ := hrel
    by_cases hlt : x ≤ last
    · have l2 : decide ((x : Int) ≤ last) = true := decide_eq_true (by omega)
      have l3 : (x : Int) ≤ last := by omega
      have hs : last + 1 - x = (last + 1 - (x + 1)) + 1 := by omega
      have hr2 := hr.out
      rw [hs] at hr2
      have hw1 : IntKind.i64.wrap ((x : Int) - 1) = (x : Int) - 1 := IntWalk.i64_in _ (by omega)
      by_cases h6 : code x = 6
      · by_cases hf : first < x
        · have Hr : Hid (R = ((x : Int) - 1, 0)) := Lib.hid (hr2.symm.trans (lastF_found h6 hf))
          have Hc : Hid (∀ X, Below w.heap.size w X → Calls Tryd.prog gf (#[.int .i64 (x : Int)] ++ lb) X fun e w' => e = .returned (.int .i64 6) ∧ Below X.heap.size X w') := Lib.hid (fun X hX => (Hcl.out X hX x hlt).mono (fun e w' h => by rw [h6] at h; exact h))
          have f1 : decide ((first : Int) < x) = true := decide_eq_true (by omega)
          have f2 : (first : Int) < x := by omega
          clear hr2 hs h6 hr Hcl
          go_wp2
          refine (Hc.out _ hM.below).mono ?_
          rintro e W' ⟨rfl, hb'⟩
          have hM' := hM.call hb'
          clear hM hb'
          have hM := hM'
          clear hM'
          go_wp2
          go_ret2
          exact ⟨by rw [Hr.out]; rfl, hM.below⟩
        · have Hr : Hid (R = (0, 6)) := Lib.hid (hr2.symm.trans (lastF_first h6 hf))
          have Hc : Hid (∀ X, Below w.heap.size w X → Calls Tryd.prog gf (#[.int .i64 (x : Int)] ++ lb) X fun e w' => e = .returned (.int .i64 6) ∧ Below X.heap.size X w') := Lib.hid (fun X hX => (Hcl.out X hX x hlt).mono (fun e w' h => by rw [h6] at h; exact h))
          have f1 : decide ((first : Int) < x) = false := decide_eq_false (by omega)
          have f2 : ¬ (first : Int) < x := by omega
          clear hr2 hs h6 hr Hcl
          go_wp2
          refine (Hc.out _ hM.below).mono ?_
          rintro e W' ⟨rfl, hb'⟩
          have hM' := hM.call hb'
          clear hM hb'
          have hM := hM'
          clear hM'
          go_wp2
          go_ret2
          exact ⟨by rw [Hr.out]; rfl, hM.below⟩
      · by_cases h0 : code x = 0
        · have Hr : Hid (lastF code first (last + 1 - (x + 1)) (x + 1) = R) := Lib.hid ((lastF_next h0).symm.trans hr2)
          have Hc : Hid (∀ X, Below w.heap.size w X → Calls Tryd.prog gf (#[.int .i64 (x : Int)] ++ lb) X fun e w' => e = .returned (.int .i64 0) ∧ Below X.heap.size X w') := Lib.hid (fun X hX => (Hcl.out X hX x hlt).mono (fun e w' h => by rw [h0] at h; exact h))
          clear hr2 hs h0 h6 hr
          go_wp2
          refine (Hc.out _ hM.below).mono ?_
          rintro e W' ⟨rfl, hb'⟩
          have hM' := hM.call hb'
          clear hM hb'
          have hM := hM'
          clear hM'
          go_wp2
          go_roundw
          case rel => exact ⟨x + 1, by omega, by omega, by go_num, Hr, hM⟩
          case measure => simp [intOf]; omega
        · have Hr : Hid (R = (0, code x)) := Lib.hid (hr2.symm.trans (lastF_code h6 h0))
          have Hc : Hid (∀ X, Below w.heap.size w X → Calls Tryd.prog gf (#[.int .i64 (x : Int)] ++ lb) X fun e w' => e = .returned (.int .i64 (code x)) ∧ Below X.heap.size X w') := Lib.hid (fun X hX => Hcl.out X hX x hlt)
          have b6 : (code x == 6) = false := by rw [beq_eq_false_iff_ne]; exact h6
          have b0 : (code x == 0) = false := by rw [beq_eq_false_iff_ne]; exact h0
          clear hr2 hs
          generalize code x = C at *
          go_wp2
          refine (Hc.out _ hM.below).mono ?_
          rintro e W' ⟨rfl, hb'⟩
          have hM' := hM.call hb'
          clear hM hb'
          have hM := hM'
          clear hM'
          go_wp2
          go_ret2
          exact ⟨by rw [Hr.out]; rfl, hM.below⟩
    · obtain rfl : x = last + 1 := by omega
      have Hr : Hid (R = ((last : Int), 0)) := Lib.hid (by rw [← hr.out, Nat.sub_self]; simp [lastF])
      have l2 : decide (((last + 1 : Nat) : Int) ≤ last) = false := decide_eq_false (by omega)
      have l3 : ¬ ((last : Int) + 1 ≤ last) := by omega
      clear hr
      go_wp2
      go_ret2
      exact ⟨by rw [Hr.out]; rfl, hM.below⟩
end Go.Proofs.YtbbododeglkghaaDoor

/-
  spec.LongestGreedy and impl.LongestGreedy by contracts.
-/
namespace Go.Proofs.YtbbododeglkghaaDoor
open Go Go.RowKit Go.BigFrame Go.Shelf

theorem grL_min (need : Int) (n : Nat) : ∀ d e hs, d ≤ e → (grL need n d hs).length = min d (grL need n e hs).length
  | 0, e, hs, h => by simp [grL]
  | d + 1, e, hs, h => by
    obtain ⟨q, rfl⟩ : ∃ q, e = q + 1 := ⟨e - 1, by omega⟩
    by_cases hp : hs (richK hs n) 0 < need
    · rw [grL_poor hp, grL_poor hp]; simp
    · rw [grL_rich hp, grL_rich hp, List.length_cons, List.length_cons, grL_min need n d q _ (by omega)]
      omega
def lonC (n : Nat) (hs : Nat → Nat → Int) (need : Int) : Int := meadC n hs need true
def lonV (n : Nat) (hs : Nat → Nat → Int) (need : Int) : Int := if lonC n hs need = 0 then ((grL need n 30 hs).length : Nat) else 0
theorem grdC_at {n : Nat} {hs : Nat → Nat → Int} {need : Int} (h : meadC n hs need true = 0) {x : Nat} (hx : x ≤ 30) : grdC n hs need (x : Int) = if x ≤ (grL need n 30 hs).length then 0 else 6 := by
  have hi : inB 0 30 (x : Int) = true := by unfold inB; simp; omega
  unfold grdC
  rw [hi, if_pos h, Int.toNat_natCast, grL_min need n x 30 hs hx]
  by_cases hl : x ≤ (grL need n 30 hs).length
  · rw [if_pos hl, if_pos (by omega)]
  · rw [if_neg hl, if_neg (by omega)]
/-- The code of the greedy plan of so many days. -/
def grdF (n : Nat) (hs : Nat → Nat → Int) (need : Int) (k : Nat) : Int := grdC n hs need (k : Int)
theorem lastF_long {n : Nat} {hs : Nat → Nat → Int} {need : Int} (h : meadC n hs need true = 0) : ∀ m x, x + m = 31 → x ≤ (grL need n 30 hs).length + 1 → lastF (grdF n hs need) 0 m x = ((((grL need n 30 hs).length : Nat) : Int), 0)
  | 0, x, h1, h2 => by
    have := grL_len need n 30 hs
    obtain rfl : x = 31 := by omega
    simp only [lastF, Prod.mk.injEq, and_true]; omega
  | m + 1, x, h1, h2 => by
    by_cases hx : x ≤ (grL need n 30 hs).length
    · have hc : grdF n hs need x = 0 := by unfold grdF; rw [grdC_at h (by have := grL_len need n 30 hs; omega), if_pos hx]
      rw [lastF_next hc]
      exact lastF_long h m (x + 1) (by omega) (by omega)
    · have hc : grdF n hs need x = 6 := by unfold grdF; rw [grdC_at h (by omega), if_neg hx]
      rw [lastF_found hc (by omega)]
      simp only [Prod.mk.injEq, and_true]; omega
theorem lon_last (n : Nat) (hs : Nat → Nat → Int) (need : Int) : lastF (grdF n hs need) 0 31 0 = (lonV n hs need, lonC n hs need) := by
  by_cases h : meadC n hs need true = 0
  · have hc : lonC n hs need = 0 := h
    unfold lonV
    rw [hc, if_pos rfl, lastF_long h 31 0 (by omega) (by omega)]
  · have hc : lonC n hs need ≠ 0 := h
    have h0 : grdF n hs need 0 = meadC n hs need true := (grd_no (days := 0) (C := meadC n hs need true) rfl h).1
    have h6 : meadC n hs need true ≠ 6 := by
      rcases meadC_cases n hs need true with ⟨_, hc⟩ | ⟨_, _, hc⟩ | ⟨_, _, _, hc⟩ | ⟨_, _, _, hc⟩ <;> rw [hc] <;> omega
    unfold lonV
    rw [if_neg hc, lastF_code (by rw [h0]; exact h6) (by rw [h0]; exact h), h0]
    rfl

set_option maxRecDepth 100000 in
set_option maxHeartbeats 4000000 in
theorem specLongestGreedy_any (b n c : Nat) (hs : Nat → Nat → Int) (hF : ∀ i, i < n → FitsMeadow (hs i)) (hn : n ≤ 1048576) (need : Int) (w : World) (hB : At w b (n * 3) (sMeadow hs)) :
    Calls Tryd.prog 36 #[.slice (some ⟨b, 0, none⟩) n c, .int .i64 need] w fun e w' => e = .returned (numR (lonV n hs need) (lonC n hs need)) ∧ Below w.heap.size w w' := by
  have hM : Mem w [(b, n * 3, sMeadow hs)] w := (Mem.nil w).old hB (fun i p h => by simp at h)
  have HF := Lib.hid hF
  clear hF hB
  by_cases hc : meadC n hs need true = 0
  case neg =>
    have hv : lonV n hs need = 0 := by unfold lonV; rw [if_neg (show lonC n hs need ≠ 0 from hc)]
    have hC : lonC n hs need = meadC n hs need true := rfl
    rw [hv, hC]
    have d0 : decide (meadC n hs need true = 0) = false := decide_eq_false hc
    have HA := Lib.hid (fun W hB => l07Asked_any b n c hs HF.out hn need true W hB)
    clear hv hC
    generalize meadC n hs need true = C at *
    go_enter Tryd.func36, Tryd.ntmps36
    go_wp2_with (first | (go_at_call 42; (with_reducible refine (HA.out _ (hM.ats 0 _ _ _ rfl)).mono ?_); rintro e W' ⟨rfl, hb'⟩; have hM' := hM.call hb'; clear hM hb'; have hM := hM'; clear hM'))
    go_ret2
    exact ⟨rfl, hM.below⟩
  have hv : lonV n hs need = ((grL need n 30 hs).length : Nat) := by unfold lonV; rw [if_pos (show lonC n hs need = 0 from hc)]
  have hC : lonC n hs need = 0 := hc
  rw [hv, hC]
  have hc' := meadC_0 hc
  have hne := inB_true hc'.2.1
  obtain ⟨hn6, hmb⟩ := meadsB_iff hc'.1
  have HA := Lib.hid (fun W hB => (l07Asked_any b n c hs HF.out hn need true W hB).mono (fun e w' h => by rw [hc] at h; exact h))
  have hg : ∀ W, At W b (n * 3) (sMeadow hs) → Calls Tryd.prog 59 #[.slice (some ⟨b, 0, none⟩) n c, .int .i64 need, .int .i64 30] W (GivesB (grL need n 30 hs) W) := fun W hB => l07Greedy_any b n c hs hn6.1 hn6.2 hmb need hne 30 (by omega) W hB
  have HG := Lib.hid hg
  clear hc hc' hv hC hmb hg
  generalize grL need n 30 hs = l at *
  go_enter Tryd.func36, Tryd.ntmps36
  go_wp2_with (first | (go_at_call 42; (with_reducible refine (HA.out _ (hM.ats 0 _ _ _ rfl)).mono ?_); rintro e W' ⟨rfl, hb'⟩; have hM' := hM.call hb'; clear hM hb'; have hM := hM'; clear hM') | (go_at_call 59; (with_reducible refine (HG.out _ (hM.ats 0 _ _ _ rfl)).mono ?_); rintro e W' ⟨bN, cN, FN, rfl, hbN, hcN, hFN, hAN, hbl⟩; have hM' := hM.freshQ hbl hAN hbN; clear hM hbl hAN; have hM := hM'; clear hM'))
  go_ret2
  exact ⟨rfl, hM.below⟩

set_option maxRecDepth 100000 in
set_option maxHeartbeats 2000000 in
theorem longest1_any {a : Nat → Addr} (b n c : Nat) (hs : Nat → Nat → Int) (hF : ∀ i, i < n → FitsMeadow (hs i)) (hn : n ≤ 1048576) (need : Int) (k : Nat) (b1 b2 : Nat) (X : World) (hM : Mem X [(b2, 1, fun _ => .int .i64 need), (b1, 1, fun _ => .slice (some ⟨b, 0, none⟩) n c), (b, n * 3, sMeadow hs)] X) (hE : Errs a X) :
    Calls Tryd.prog 63 #[.int .i64 (k : Int), .pointer (some ⟨b1, 0, none⟩), .pointer (some ⟨b2, 0, none⟩)] X fun e w' => e = .returned (.int .i64 (grdC n hs need (k : Int))) ∧ Below X.heap.size X w' := by
  have HE := Lib.hid hE
  have HF := Lib.hid hF
  have HI := Lib.hid (fun W hB hE => implGreedyPlan_l (a := a) b n c hs HF.out hn need (k : Int) W hB hE)
  clear hE hF
  have sl_cell : CellT Tryd.prog 24 := ⟨⟨_, Tryd.underlying24, rfl⟩, by kernel_rfl⟩
  go_enter Tryd.func63, Tryd.ntmps63
  go_wp2_with (first | (refine wpList_get1 rfl _ _ rfl _ _ rfl hM 1 rfl sl_cell (by omega) _ rfl ?_) | (refine wpList_get1 rfl _ _ rfl _ _ rfl hM 0 rfl (cellTab _ rfl) (by omega) _ rfl ?_))
  go_at_call 35
  refine (HI.out _ (hM.ats 2 _ _ _ rfl) (HE.out.below hM.below)).mono ?_
  rintro e W' ⟨v, rfl, hL⟩
  have hb' : Below X.heap.size X W' := by
    rcases hL with ⟨-, -, hb⟩ | ⟨b, c, N, F, -, -, -, -, -, hb⟩ <;> exact (hM.call hb).below
  clear hL hM
  go_wp2
  go_ret
  exact ⟨rfl, hb'⟩

set_option maxRecDepth 100000 in
set_option maxHeartbeats 4000000 in
theorem implLongestGreedy_any {a : Nat → Addr} (b n c : Nat) (hs : Nat → Nat → Int) (hF : ∀ i, i < n → FitsMeadow (hs i)) (hn : n ≤ 1048576) (need : Int) (w : World) (hB : At w b (n * 3) (sMeadow hs)) (hE : Errs a w) :
    Calls Tryd.prog 37 #[.slice (some ⟨b, 0, none⟩) n c, .int .i64 need] w fun e w' => e = .returned (numR (lonV n hs need) (lonC n hs need)) ∧ Below w.heap.size w w' := by
  have hM : Mem w [(b, n * 3, sMeadow hs)] w := (Mem.nil w).old hB (fun i p h => by simp at h)
  have hl := lon_last n hs need
  have HE := Lib.hid hE
  clear hB hE
  generalize lonV n hs need = V at *
  generalize lonC n hs need = C at *
  have Hl := Lib.hid hl
  clear hl
  have hCl : ∀ (k b1 b2 : Nat) (X : World), Mem X [(b2, 1, fun _ => .int .i64 need), (b1, 1, fun _ => .slice (some ⟨b, 0, none⟩) n c), (b, n * 3, sMeadow hs)] X → Errs a X → Calls Tryd.prog 63 (#[.int .i64 (k : Int)] ++ #[.pointer (some ⟨b1, 0, none⟩), .pointer (some ⟨b2, 0, none⟩)]) X fun e w' => e = .returned (.int .i64 (grdF n hs need k)) ∧ Below X.heap.size X w' := fun k b1 b2 X hM hE => longest1_any (a := a) b n c hs hF hn need k b1 b2 X hM hE
  have HC := Lib.hid hCl
  clear hCl
  generalize grdF n hs need = f at *
  clear hF
  have tk_b1 : True := trivial; have tk_b2 : True := trivial
  go_enter Tryd.func37, Tryd.ntmps37
  go_wp2_with (first | (have _t := tk_b1; refine wpList_box1 rfl _ _ rfl _ rfl rfl hM ?_; intro b1 W' hb1 hM'; clear hM tk_b1; have hM := hM'; clear hM') | (have _t := tk_b2; refine wpList_box1 rfl _ _ rfl _ rfl rfl hM ?_; intro b2 W' hb2 hM'; clear hM tk_b2; have hM := hM'; clear hM'))
  have hbs := hM.below
  go_at_call 62
  have Hk := Lib.hid (fun X (hX : Below _ _ X) k => HC.out k b1 b2 X ((hM.call hX).base (Below.refl _ _)) (HE.out.below (hM.call hX).below))
  refine (lastFound_any f 0 30 (by omega) (by omega) 0 30 rfl rfl (lb := #[.pointer (some ⟨b1, 0, none⟩), .pointer (some ⟨b2, 0, none⟩)]) (enters_of Tryd.func63 (by kernel_rfl) rfl) _ (fun X hX k hk => Hk.out X hX k)).mono ?_
  rintro e W' ⟨rfl, hb'⟩
  rw [show 30 + 1 - 0 = 31 from rfl, Hl.out]
  have hM' := hM.call hb'
  clear hM hb'
  have hM := hM'
  clear hM'
  go_wp2
  go_ret2
  exact ⟨rfl, hM.below⟩
end Go.Proofs.YtbbododeglkghaaDoor

