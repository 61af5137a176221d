/-
  Several texts in one: GreatC, MeadowL, GreatestNeed.
-/
import Derived.Test.YtbbododeglkghaaDoorP8
import Derived.Shelf.Abstract
import Derived.Test.YtbbododeglkghaaDoorP2
import Derived.Test.YtbbododeglkghaaDoorP3
/-
  spec.GreatestNeed and impl.GreatestNeed by contracts.
-/
namespace Go.Proofs.YtbbododeglkghaaDoor
open Go Go.RowKit Go.BigFrame Go.Shelf

/-- The code of the first plan at a need. -/
def grnF (n : Nat) (hs : Nat → Nat → Int) (days budget : Int) (x : Nat) : Int := fplC n hs (x : Int) days budget
def grnR (n : Nat) (hs : Nat → Nat → Int) (days budget : Int) : Int × Int := if meadsB n hs = true ∧ days = 0 then (0, 2) else lastF (grnF n hs days budget) 1 1000 1
theorem NewL.bel {m n : Nat} {R : Nat → Value} {w : World} {v : Value} {w' : World} (h : NewL m n R w v w') : Below w.heap.size w w' := by
  rcases h with ⟨-, -, h⟩ | ⟨b, c, N, F, -, -, -, -, -, h⟩ <;> exact h
/-- A list, a number and a code. -/
def GivesC (C : Int) (w : World) (e : Ending) (w' : World) : Prop := ∃ v x, e = .returned (.tuple #[v, .int .i64 x, .int .i64 C]) ∧ Below w.heap.size w w'
theorem GivesR2.c {m n : Nat} {R : Nat → Value} {x C : Int} {w : World} {e : Ending} {w' : World} (h : GivesR2 m n R x C w e w') : GivesC C w e w' := by
  obtain ⟨v, h1, h2⟩ := h
  exact ⟨v, x, h1, h2.bel⟩
theorem fndC_or (r : Fnd) : fndC r = 0 ∨ fndC r = 6 ∨ fndC r = 7 := by
  obtain ⟨o, t, b⟩ := r
  cases o with
  | some p => exact .inl rfl
  | none => cases b
            · exact .inr (.inl rfl)
            · exact .inr (.inr rfl)
theorem grn_bad {n : Nat} {hs : Nat → Nat → Int} {days budget : Int} (h : ¬ meadC n hs 1 (inB 1 30 days && inB 0 20000 budget) = 0) : grnR n hs days budget = (0, meadC n hs 1 (inB 1 30 days && inB 0 20000 budget)) := by
  have key : ∀ C : Int, C ≠ 0 → C ≠ 6 → fplM n hs 1 days budget = C → lastF (grnF n hs days budget) 1 1000 1 = (0, C) := fun C h0 h6 hm => by
    have hc : grnF n hs days budget 1 = C := by
      unfold grnF fplC
      rw [show (((1 : Nat) : Int)) = 1 from rfl, hm, if_neg h0]
    rw [lastF_code (by rw [hc]; exact h6) (by rw [hc]; exact h0), hc]
  rcases meadC_cases n hs 1 (inB 1 30 days && inB 0 20000 budget) with ⟨hm, hc⟩ | ⟨hm, hd, hc⟩ | ⟨hm, hd, hr, hc⟩ | ⟨hm, hd, hr, hc⟩
  · rw [hc]
    unfold grnR
    rw [if_neg (by rw [hm]; simp)]
    exact key 1 (by omega) (by omega) (meadC_bad hm)
  · exact absurd hd (by decide)
  · rw [hc]
    unfold grnR
    by_cases h0 : days = 0
    · rw [if_pos ⟨hm, h0⟩]
    · rw [if_neg (fun hh => h0 hh.2)]
      refine key 2 (by omega) (by omega) (meadC_out hm ?_)
      have : (inB 0 30 days && inB 0 20000 budget) = false := by
        revert hr
        unfold inB
        simp only [Bool.and_eq_false_iff, decide_eq_false_iff_not]
        omega
      rw [this, Bool.and_false]
  · exact absurd hc h
theorem grn_at {n D B : Nat} {hs : Nat → Nat → Int} (hm : meadsB n hs = true) (hD : 1 ≤ D ∧ D ≤ 30) (hB : B ≤ 20000) {k : Nat} (hk : k < 1000) : grnF n hs (D : Int) (B : Int) (k + 1) = fndC (goS ((k : Int) + 1) B (fun _ => List.range n) D hs 0) := by
  have h1 : fplM n hs ((k : Int) + 1) D B = 0 := meadC_ok hm (inB_yes (by omega)) (by rw [inB_yes (by omega), inB_yes (by omega)]; rfl)
  unfold grnF fplC
  rw [show (((k + 1 : Nat) : Int)) = (k : Int) + 1 by omega, if_pos h1]
  rfl

set_option maxRecDepth 100000 in
set_option maxHeartbeats 4000000 in
theorem specGreatestNeed_any (b n c : Nat) (hs : Nat → Nat → Int) (hF : ∀ i, i < n → FitsMeadow (hs i)) (hn : n ≤ 1048576) (days budget : Int) (w : World) (hB : At w b (n * 3) (sMeadow hs)) :
    Calls Tryd.prog 40 #[.slice (some ⟨b, 0, none⟩) n c, .int .i64 days, .int .i64 budget] w fun e w' => e = .returned (numR (grnR n hs days budget).1 (grnR n hs days budget).2) ∧ Below w.heap.size w w' := by
  have hM : Mem w [(b, n * 3, sMeadow hs)] w := (Mem.nil w).old hB (fun i p h => by simp at h)
  have HF := Lib.hid hF
  clear hF hB
  have hbu : ∀ W, Calls Tryd.prog 64 #[.int .i64 budget] W fun e w' => e = .returned (.bool (inB 0 20000 budget)) ∧ Below W.heap.size W w' := fun W => by
    have hM := Mem.nil W
    go_enter Tryd.func64, Tryd.ntmps64
    go_wp2_with (first | (go_at_call 55; (with_reducible refine (l00In_any budget 0 20000 _).mono ?_); rintro e W' ⟨rfl, hb'⟩; have hM' := hM.call hb'; clear hM hb'; have hM := hM'; clear hM'))
    go_ret
    exact ⟨ret_bool (a := inB 0 20000 budget) rfl, hM.below⟩
  by_cases hc : meadC n hs 1 (inB 1 30 days && inB 0 20000 budget) = 0
  case neg =>
    have hR := grn_bad hc
    rw [hR]
    have d0 : decide (meadC n hs 1 (inB 1 30 days && inB 0 20000 budget) = 0) = false := decide_eq_false hc
    have HA := Lib.hid (fun W hB => l07Asked_any b n c hs HF.out hn 1 (inB 1 30 days && inB 0 20000 budget) W hB)
    have Hbu := Lib.hid hbu
    have Hda := Lib.hid (fun W => l00In_any days 1 30 W)
    clear hbu hR
    cases hdB : inB 1 30 days
    · rw [hdB, Bool.false_and] at hc d0 HA
      rw [Bool.false_and]
      rw [hdB] at Hda
      clear hdB
      generalize meadC n hs 1 false = C at *
      go_enter Tryd.func40, Tryd.ntmps40
      go_wp2_with (first | (go_at_call 55; (with_reducible refine (Hda.out _).mono ?_); rintro e W' ⟨rfl, hb'⟩; have hM' := hM.call hb'; clear hM hb'; have hM := hM'; clear hM') | (go_at_call 42; (with_reducible refine (HA.out _ (hM.ats 0 _ _ _ rfl)).mono ?_); rintro e W' ⟨rfl, hb'⟩; have hM' := hM.call hb'; clear hM hb'; have hM := hM'; clear hM'))
      go_ret2
      exact ⟨rfl, hM.below⟩
    · rw [hdB, Bool.true_and] at hc d0 HA
      rw [Bool.true_and]
      rw [hdB] at Hda
      clear hdB
      generalize meadC n hs 1 (inB 0 20000 budget) = C at *
      generalize inB 0 20000 budget = q at *
      go_enter Tryd.func40, Tryd.ntmps40
      go_wp2_with (first | (go_at_call 55; (with_reducible refine (Hda.out _).mono ?_); rintro e W' ⟨rfl, hb'⟩; have hM' := hM.call hb'; clear hM hb'; have hM := hM'; clear hM') | (go_at_call 64; (with_reducible refine (Hbu.out _).mono ?_); rintro e W' ⟨rfl, hb'⟩; have hM' := hM.call hb'; clear hM hb'; have hM := hM'; clear hM') | (go_at_call 42; (with_reducible refine (HA.out _ (hM.ats 0 _ _ _ rfl)).mono ?_); rintro e W' ⟨rfl, hb'⟩; have hM' := hM.call hb'; clear hM hb'; have hM := hM'; clear hM'))
      go_ret2
      exact ⟨rfl, hM.below⟩
  have hc' := meadC_0 hc
  obtain ⟨hr1, hr2⟩ := (Bool.and_eq_true _ _).mp hc'.2.2
  have hdd := inB_true hr1
  have hbb := inB_true hr2
  obtain ⟨hn6, hmb⟩ := meadsB_iff hc'.1
  obtain ⟨D, rfl⟩ : ∃ d : Nat, days = d := ⟨days.toNat, by omega⟩
  obtain ⟨B, rfl⟩ : ∃ d : Nat, budget = d := ⟨budget.toNat, by omega⟩
  have hD : 1 ≤ D ∧ D ≤ 30 := by omega
  have hB2 : B ≤ 20000 := by omega
  have hRR : grnR n hs (D : Int) (B : Int) = lastF (grnF n hs (D : Int) (B : Int)) 1 1000 1 := if_neg (fun hh => by omega)
  have HA : Hid (∀ W, At W b (n * 3) (sMeadow hs) → Calls Tryd.prog 42 #[.slice (some ⟨b, 0, none⟩) n c, .int .i64 1, .bool true] W fun e w' => e = .returned (.int .i64 0) ∧ Below W.heap.size W w') := Lib.hid (fun W hB => (l07Asked_any b n c hs HF.out hn 1 true W hB).mono (fun e w' h => by rw [← hc'.2.2, hc] at h; exact h))
  have HG : Hid (∀ k : Nat, k < 1000 → ∀ W, At W b (n * 3) (sMeadow hs) → Calls Tryd.prog 65 #[.slice (some ⟨b, 0, none⟩) n c, .int .i64 ((k : Int) + 1), .int .i64 (D : Int), .int .i64 (B : Int)] W (GivesC (grnF n hs (D : Int) (B : Int) (k + 1)) W)) := Lib.hid (fun k hk W hB => by
    rw [grn_at hc'.1 hD hB2 hk]
    exact (l07Found_any b n c hs hn6.1 hn6.2 hmb ((k : Int) + 1) (by omega) D B hD.2 hB2 W hB).mono (fun e w' h => h.c))
  have HO : Hid (∀ k : Nat, k < 1000 → grnF n hs (D : Int) (B : Int) (k + 1) = 0 ∨ grnF n hs (D : Int) (B : Int) (k + 1) = 6 ∨ grnF n hs (D : Int) (B : Int) (k + 1) = 7) := Lib.hid (fun k hk => by rw [grn_at hc'.1 hD hB2 hk]; exact fndC_or _)
  have Hda : Hid (∀ W, Calls Tryd.prog 55 #[.int .i64 (D : Int), .int .i64 1, .int .i64 30] W fun e w' => e = .returned (.bool true) ∧ Below W.heap.size W w') := Lib.hid (fun W => (l00In_any (D : Int) 1 30 W).mono (fun e w' h => by rw [hr1] at h; exact h))
  have Hbu : Hid (∀ W, Calls Tryd.prog 64 #[.int .i64 (B : Int)] W fun e w' => e = .returned (.bool true) ∧ Below W.heap.size W w') := Lib.hid (fun W => (hbu W).mono (fun e w' h => by rw [hr2] at h; exact h))
  rw [hRR]
  clear hc hc' hr1 hr2 hmb hbu hRR
  generalize grnF n hs (D : Int) (B : Int) = f at *
  obtain ⟨R, hR⟩ : ∃ R, lastF f 1 1000 1 = R := ⟨_, rfl⟩
  rw [hR]
  have HR : Hid (lastF f 1 (1000 - 0) (0 + 1) = R) := Lib.hid hR
  clear hR
  go_enter Tryd.func40, Tryd.ntmps40
  go_wp2_with (first | (go_at_call 55; (with_reducible refine (Hda.out _).mono ?_); rintro e W' ⟨rfl, hb'⟩; have hM' := hM.call hb'; clear hM hb'; have hM := hM'; clear hM') | (go_at_call 64; (with_reducible refine (Hbu.out _).mono ?_); rintro e W' ⟨rfl, hb'⟩; have hM' := hM.call hb'; clear hM hb'; have hM := hM'; clear hM') | (go_at_call 42; (with_reducible refine (HA.out _ (hM.ats 0 _ _ _ rfl)).mono ?_); rintro e W' ⟨rfl, hb'⟩; have hM' := hM.call hb'; clear hM hb'; have hM := hM'; clear hM'))
  go_loopw [10] (fun i wr => ∃ k : Nat, k ≤ 1000 ∧ i = .int .i64 k ∧ Hid (lastF f 1 (1000 - k) (k + 1) = R) ∧ Mem w [(b, n * 3, sMeadow hs)] wr) (fun i _ => 1000 - (intOf i).toNat)
  case atStart => exact ⟨0, by omega, rfl, HR, hM⟩
  case round =>
    clear hM HR
    obtain ⟨k, hk, rfl, hr, hM⟩ := hrel
    by_cases hlt : k < 1000
    · have l2 : (k : Int) < 1000 := by omega
      have hs1 : 1000 - k = (1000 - (k + 1)) + 1 := by omega
      have hr2 := hr.out
      rw [hs1] at hr2
      have HGk := Lib.hid (HG.out k hlt)
      have hw1 : IntKind.i64.wrap ((k : Int) + 1) = (k : Int) + 1 := IntWalk.i64_in _ (by omega)
      rcases HO.out k hlt with h0 | h6 | h7
      · have Hr : Hid (lastF f 1 (1000 - (k + 1)) (k + 1 + 1) = R) := Lib.hid ((lastF_next h0).symm.trans hr2)
        rw [h0] at HGk
        clear hr2 hs1 h0 hr
        go_wp2_with (first | (go_at_call 65; (refine (HGk.out _ (hM.ats 0 _ _ _ rfl)).mono ?_); rintro e W' ⟨v, x, rfl, hb'⟩; have hM' := hM.call hb'; clear hM hb'; have hM := hM'; clear hM'))
        go_roundw
        case rel => exact ⟨k + 1, by omega, by go_num, Hr, hM⟩
        case measure => simp [intOf]; omega
      · by_cases hk0 : k = 0
        · have Hr : Hid (R = (0, 6)) := Lib.hid (hr2.symm.trans (lastF_first h6 (by omega)))
          rw [h6] at HGk
          subst hk0
          clear hr2 hs1 h6 hr
          go_wp2_with (first | (go_at_call 65; (refine (HGk.out _ (hM.ats 0 _ _ _ rfl)).mono ?_); rintro e W' ⟨v, x, rfl, hb'⟩; have hM' := hM.call hb'; clear hM hb'; have hM := hM'; clear hM'))
          go_ret2
          exact ⟨by rw [Hr.out]; rfl, hM.below⟩
        · have Hr : Hid (R = (((k + 1 : Nat) : Int) - 1, 0)) := Lib.hid (hr2.symm.trans (lastF_found h6 (by omega)))
          have bk : ((k : Int) == 0) = false := by rw [beq_eq_false_iff_ne]; omega
          have bk2 : ¬ (k : Int) = 0 := by omega
          have hkk : ((k + 1 : Nat) : Int) - 1 = k := by omega
          have Hkk := Lib.hid hkk
          rw [h6] at HGk
          clear hr2 hs1 h6 hr hkk
          go_wp2_with (first | (go_at_call 65; (refine (HGk.out _ (hM.ats 0 _ _ _ rfl)).mono ?_); rintro e W' ⟨v, x, rfl, hb'⟩; have hM' := hM.call hb'; clear hM hb'; have hM := hM'; clear hM'))
          go_ret2
          exact ⟨by rw [Hr.out, Hkk.out]; rfl, hM.below⟩
      · have Hr : Hid (R = (0, f (k + 1))) := Lib.hid (hr2.symm.trans (lastF_code (by rw [h7]; omega) (by rw [h7]; omega)))
        have H7 := Lib.hid h7
        rw [h7] at HGk
        clear hr2 hs1 h7 hr
        go_wp2_with (first | (go_at_call 65; (refine (HGk.out _ (hM.ats 0 _ _ _ rfl)).mono ?_); rintro e W' ⟨v, x, rfl, hb'⟩; have hM' := hM.call hb'; clear hM hb'; have hM := hM'; clear hM'))
        go_ret2
        exact ⟨by rw [Hr.out, H7.out]; rfl, hM.below⟩
    · obtain rfl : k = 1000 := by omega
      have Hr : Hid (R = (1000, 0)) := Lib.hid (hr.out.symm.trans (by simp [lastF]))
      clear hr
      go_wp2
      go_ret2
      exact ⟨by rw [Hr.out]; rfl, hM.below⟩

set_option maxRecDepth 100000 in
set_option maxHeartbeats 2000000 in
theorem great1_any {a : Nat → Addr} (b n c : Nat) (hs : Nat → Nat → Int) (hF : ∀ i, i < n → FitsMeadow (hs i)) (hn : n ≤ 1048576) (days budget : Int) (k : Nat) (b1 b2 b3 : Nat) (X : World) (hM : Mem X [(b3, 1, fun _ => .int .i64 budget), (b2, 1, fun _ => .int .i64 days), (b1, 1, fun _ => .slice (some ⟨b, 0, none⟩) n c), (b, n * 3, sMeadow hs)] X) (hE : Errs a X) :
    Calls Tryd.prog 68 #[.int .i64 (k : Int), .pointer (some ⟨b1, 0, none⟩), .pointer (some ⟨b2, 0, none⟩), .pointer (some ⟨b3, 0, none⟩)] X fun e w' => e = .returned (.int .i64 (grnF n hs days budget k)) ∧ Below X.heap.size X w' := by
  have HE := Lib.hid hE
  have HF := Lib.hid hF
  have HI : Hid (∀ W, At W b (n * 3) (sMeadow hs) → Errs a W → Calls Tryd.prog 39 #[.slice (some ⟨b, 0, none⟩) n c, .int .i64 (k : Int), .int .i64 days, .int .i64 budget] W (GivesC (grnF n hs days budget k) W)) := Lib.hid (fun W hB hE => (implFirstPlan_any (a := a) b n c hs HF.out hn (k : Int) days budget W hB hE).mono (fun e w' h => h.c))
  clear hE hF
  generalize grnF n hs days budget k = C at *
  have sl_cell : CellT Tryd.prog 24 := ⟨⟨_, Tryd.underlying24, rfl⟩, by kernel_rfl⟩
  have tk_r1 : True := trivial
  go_enter Tryd.func68, Tryd.ntmps68
  go_wp2_with (first | (refine wpList_get1 rfl _ _ rfl _ _ rfl hM 2 rfl sl_cell (by omega) _ rfl ?_) | (have _t := tk_r1; (refine wpList_get1 rfl _ _ rfl _ _ rfl hM 1 rfl (cellTab _ rfl) (by omega) _ rfl ?_); clear tk_r1) | (refine wpList_get1 rfl _ _ rfl _ _ rfl hM 0 rfl (cellTab _ rfl) (by omega) _ rfl ?_))
  go_at_call 39
  refine (HI.out _ (hM.ats 3 _ _ _ rfl) (HE.out.below hM.below)).mono ?_
  rintro e W' ⟨v, x, rfl, hb⟩
  have hb' := (hM.call hb).below
  clear hb hM
  go_wp2
  go_ret
  exact ⟨rfl, hb'⟩

set_option maxRecDepth 100000 in
set_option maxHeartbeats 4000000 in
theorem implGreatestNeed_any {a : Nat → Addr} (b n c : Nat) (hs : Nat → Nat → Int) (hF : ∀ i, i < n → FitsMeadow (hs i)) (hn : n ≤ 1048576) (days budget : Int) (w : World) (hB : At w b (n * 3) (sMeadow hs)) (hE : Errs a w) :
    Calls Tryd.prog 41 #[.slice (some ⟨b, 0, none⟩) n c, .int .i64 days, .int .i64 budget] w fun e w' => e = .returned (numR (grnR n hs days budget).1 (grnR n hs days budget).2) ∧ Below w.heap.size w w' := by
  have hM : Mem w [(b, n * 3, sMeadow hs)] w := (Mem.nil w).old hB (fun i p h => by simp at h)
  have HE := Lib.hid hE
  have HF := Lib.hid hF
  have HC : Hid (∀ (k b1 b2 b3 : Nat) (X : World), Mem X [(b3, 1, fun _ => .int .i64 budget), (b2, 1, fun _ => .int .i64 days), (b1, 1, fun _ => .slice (some ⟨b, 0, none⟩) n c), (b, n * 3, sMeadow hs)] X → Errs a X → Calls Tryd.prog 68 (#[.int .i64 (k : Int)] ++ #[.pointer (some ⟨b1, 0, none⟩), .pointer (some ⟨b2, 0, none⟩), .pointer (some ⟨b3, 0, none⟩)]) X fun e w' => e = .returned (.int .i64 (grnF n hs days budget k)) ∧ Below X.heap.size X w') := Lib.hid (fun k b1 b2 b3 X hM hE => great1_any (a := a) b n c hs hF hn days budget k b1 b2 b3 X hM hE)
  have HV := Lib.hid (fun W hB hE => implValidMeadows_any (a := a) b (n * 3) n c (sMeadow hs) hs (Nat.le_refl _) (fun _ _ => rfl) hF hn W hB hE)
  have hR : grnR n hs days budget = if meadsB n hs = true ∧ days = 0 then (0, 2) else lastF (grnF n hs days budget) 1 1000 1 := rfl
  have sl_cell : CellT Tryd.prog 24 := ⟨⟨_, Tryd.underlying24, rfl⟩, by kernel_rfl⟩
  have Hsl := Lib.hid sl_cell
  clear hB hE hF sl_cell
  generalize grnF n hs days budget = f at *
  by_cases h0 : meadsB n hs = true ∧ days = 0
  · rw [if_pos h0] at hR
    rw [hR]
    obtain ⟨h1, rfl⟩ := h0
    rw [h1] at HV
    clear hR h1
    have tk_b1 : True := trivial; have tk_b2 : True := trivial; have tk_b3 : True := trivial
    go_enter Tryd.func41, Tryd.ntmps41
    go_wp2_with (first | (have _t := tk_b1; refine wpList_box1 rfl _ _ rfl _ rfl rfl hM ?_; intro b1 W' hb1 hM'; clear hM tk_b1; have hM := hM'; clear hM') | (have _t := tk_b2; refine wpList_box1 rfl _ _ rfl _ rfl rfl hM ?_; intro b2 W' hb2 hM'; clear hM tk_b2; have hM := hM'; clear hM') | (have _t := tk_b3; refine wpList_box1 rfl _ _ rfl _ rfl rfl hM ?_; intro b3 W' hb3 hM'; clear hM tk_b3; have hM := hM'; clear hM') | (refine wpList_get1 rfl _ _ rfl _ _ rfl hM 2 rfl Hsl.out (by omega) _ rfl ?_) | (go_at_call 67; (with_reducible refine (HV.out _ (hM.ats 3 _ _ _ rfl) (HE.out.below hM.below)).mono ?_); rintro e W' ⟨rfl, hb'⟩; have hM' := hM.call hb'; clear hM hb'; have hM := hM'; clear hM') | (refine wpList_gget1 ?_ _ _ rfl _ _ rfl hM 1 rfl (cellTab _ rfl) (by omega) _ rfl ?_; kernel_rfl))
    go_ret2
    exact ⟨rfl, hM.below⟩
  rw [if_neg h0] at hR
  rw [hR]
  have key : ∀ b1 b2 b3 W, Mem w [(b3, 1, fun _ => .int .i64 budget), (b2, 1, fun _ => .int .i64 days), (b1, 1, fun _ => .slice (some ⟨b, 0, none⟩) n c), (b, n * 3, sMeadow hs)] W → Calls Tryd.prog 62 #[.int .i64 1, .int .i64 1000, .func (.func 68) #[] #[.pointer (some ⟨b1, 0, none⟩), .pointer (some ⟨b2, 0, none⟩), .pointer (some ⟨b3, 0, none⟩)]] W fun e w' => e = .returned (.tuple #[.int .i64 (lastF f 1 1000 1).1, .int .i64 (lastF f 1 1000 1).2]) ∧ Below W.heap.size W w' := fun b1 b2 b3 W hM =>
    lastFound_any f 1 1000 (by omega) (by omega) 1 1000 rfl rfl (lb := #[.pointer (some ⟨b1, 0, none⟩), .pointer (some ⟨b2, 0, none⟩), .pointer (some ⟨b3, 0, none⟩)]) (enters_of Tryd.func68 (by kernel_rfl) rfl) W (fun X hX k hk => HC.out k b1 b2 b3 X ((hM.call hX).base (Below.refl _ _)) (HE.out.below (hM.call hX).below))
  have Hkey := Lib.hid key
  clear key hR
  generalize lastF f 1 1000 1 = R at *
  cases hm : meadsB n hs
  · rw [hm] at HV
    clear h0 hm
    have tk_b1 : True := trivial; have tk_b2 : True := trivial; have tk_b3 : True := trivial
    go_enter Tryd.func41, Tryd.ntmps41
    go_wp2_with (first | (have _t := tk_b1; refine wpList_box1 rfl _ _ rfl _ rfl rfl hM ?_; intro b1 W' hb1 hM'; clear hM tk_b1; have hM := hM'; clear hM') | (have _t := tk_b2; refine wpList_box1 rfl _ _ rfl _ rfl rfl hM ?_; intro b2 W' hb2 hM'; clear hM tk_b2; have hM := hM'; clear hM') | (have _t := tk_b3; refine wpList_box1 rfl _ _ rfl _ rfl rfl hM ?_; intro b3 W' hb3 hM'; clear hM tk_b3; have hM := hM'; clear hM') | (refine wpList_get1 rfl _ _ rfl _ _ rfl hM 2 rfl Hsl.out (by omega) _ rfl ?_) | (go_at_call 67; (with_reducible refine (HV.out _ (hM.ats 3 _ _ _ rfl) (HE.out.below hM.below)).mono ?_); rintro e W' ⟨rfl, hb'⟩; have hM' := hM.call hb'; clear hM hb'; have hM := hM'; clear hM'))
    go_at_call 62
    refine (Hkey.out b1 b2 b3 _ hM).mono ?_
    rintro e W' ⟨rfl, hb'⟩
    have hM' := hM.call hb'
    clear hM hb'
    have hM := hM'
    clear hM'
    go_wp2
    go_ret2
    exact ⟨rfl, hM.below⟩
  · have hd : ¬ days = 0 := fun hh => h0 ⟨hm, hh⟩
    have bd : (days == 0) = false := by rw [beq_eq_false_iff_ne]; exact hd
    rw [hm] at HV
    clear h0 hm
    have tk_b1 : True := trivial; have tk_b2 : True := trivial; have tk_b3 : True := trivial
    go_enter Tryd.func41, Tryd.ntmps41
    go_wp2_with (first | (have _t := tk_b1; refine wpList_box1 rfl _ _ rfl _ rfl rfl hM ?_; intro b1 W' hb1 hM'; clear hM tk_b1; have hM := hM'; clear hM') | (have _t := tk_b2; refine wpList_box1 rfl _ _ rfl _ rfl rfl hM ?_; intro b2 W' hb2 hM'; clear hM tk_b2; have hM := hM'; clear hM') | (have _t := tk_b3; refine wpList_box1 rfl _ _ rfl _ rfl rfl hM ?_; intro b3 W' hb3 hM'; clear hM tk_b3; have hM := hM'; clear hM') | (refine wpList_get1 rfl _ _ rfl _ _ rfl hM 2 rfl Hsl.out (by omega) _ rfl ?_) | (go_at_call 67; (with_reducible refine (HV.out _ (hM.ats 3 _ _ _ rfl) (HE.out.below hM.below)).mono ?_); rintro e W' ⟨rfl, hb'⟩; have hM' := hM.call hb'; clear hM hb'; have hM := hM'; clear hM') | (refine wpList_gget1 ?_ _ _ rfl _ _ rfl hM 1 rfl (cellTab _ rfl) (by omega) _ rfl ?_; kernel_rfl))
    go_at_call 62
    refine (Hkey.out b1 b2 b3 _ hM).mono ?_
    rintro e W' ⟨rfl, hb'⟩
    have hM' := hM.call hb'
    clear hM hb'
    have hM := hM'
    clear hM'
    go_wp2
    go_ret2
    exact ⟨rfl, hM.below⟩
end Go.Proofs.YtbbododeglkghaaDoor

/-
  laws.eqMeadowS, laws.markMeadowS, laws.heldMeadowS over lists that hold room behind their end.
-/
namespace Go.Proofs.YtbbododeglkghaaDoor
open Go Go.RowKit Go.BigFrame Go.ChangeShapes Go.WideShapes Go.Deep

theorem eqMeadowS_zero (a a' : Option Addr) (c c' : Nat) (w : World) : Calls Tryd.prog 17 #[.slice a 0 c, .slice a' 0 c'] w fun e w' => e = .returned (.bool true) ∧ Below w.heap.size w w' := by
  go_enter Tryd.func17, Tryd.ntmps17
  go_wp2
  refine wp_loop_rounds 1 ?_
  rw [rounds_succ]
  go_wp2
  go_ret
  exact ⟨rfl, Below.refl _ _⟩
theorem markMeadowS_zero (a : Option Addr) (c : Nat) (k : Int) (w : World) : Calls Tryd.prog 18 #[.slice a 0 c, .int .i64 k] w fun e w' => e = .returned (.int .i64 k) ∧ Below w.heap.size w w' := by
  go_enter Tryd.func18, Tryd.ntmps18
  go_wp2
  refine wp_loop_rounds 1 ?_
  rw [rounds_succ]
  go_wp2
  go_ret
  exact ⟨rfl, Below.refl _ _⟩
theorem heldMeadowS_zero (a : Option Addr) (c : Nat) (k : Int) (w : World) : Calls Tryd.prog 19 #[.slice a 0 c, .int .i64 k] w fun e w' => e = .returned (.int .i64 k) ∧ Below w.heap.size w w' := by
  go_enter Tryd.func19, Tryd.ntmps19
  go_wp2
  refine wp_loop_rounds 1 ?_
  rw [rounds_succ]
  go_wp2
  go_ret
  exact ⟨rfl, Below.refl _ _⟩

set_option maxRecDepth 100000 in
set_option maxHeartbeats 1000000 in
/-- eqMeadowS of two lists that hold the same. -/
theorem eqMeadowS_list (b b' n c c' N N' : Nat) (F F' : Nat → Value) (hs : Nat → Nat → Int) (hF : ∀ j, j < n * 3 → F j = sMeadow hs j) (hF' : ∀ j, j < n * 3 → F' j = sMeadow hs j) (hN : n * 3 ≤ N) (hN' : n * 3 ≤ N') (hn : n ≤ 1048576) (w : World) (hA : At w b N F) (hA' : At w b' N' F') (hne : b ≠ b') :
    Calls Tryd.prog 17 #[.slice (some ⟨b, 0, none⟩) n c, .slice (some ⟨b', 0, none⟩) n c'] w fun e w' => e = .returned (.bool true) ∧ Below w.heap.size w w' := by
  have hM : Mem w [(b, N, F), (b', N', F')] w := ((Mem.nil w).old hA (fun i p h => by simp at h)).old hA' (fun i p h => by
    match i, h with
    | 0, h => simp at h; rw [← h]; exact hne
    | _ + 1, h => simp at h)
  have Hf := Lib.hid hF
  have Hf' := Lib.hid hF'
  clear hA hA' hF hF'
  go_enter Tryd.func17, Tryd.ntmps17
  go_wp2
  go_loopw [5] (fun i wr => ∃ k : Nat, k ≤ n ∧ i = .int .i64 k ∧ Mem w [(b, N, F), (b', N', F')] wr) (fun i _ => n - (intOf i).toNat)
  case atStart => exact ⟨0, by omega, rfl, hM⟩
  case round =>
    clear hM
    obtain ⟨k, hk, rfl, hM⟩ := hrel
    by_cases hlt : k < n
    · have l2 : (k : Int) < n := by omega
      have er : arr 3 (fun j => F (k * 3 + j)) = arr 3 (vMeadow (hs k)) := arr_congr fun j hj => by rw [Hf.out _ (by omega)]; exact sMeadow_row hs k j hj
      have er' : arr 3 (fun j => F' (k * 3 + j)) = arr 3 (vMeadow (hs k)) := arr_congr fun j hj => by rw [Hf'.out _ (by omega)]; exact sMeadow_row hs k j hj
      go_wp2
      ((try simp only [Act.put, List.setIfInBounds_toArray, List.set_cons_succ, List.set_cons_zero]); refine wp_region_mem (by kernel_rfl) (by kernel_rfl) hM ?_; clear hM; (repeat (first | go_big_quiet_skip | (go_big_quiet_want; first | (refine quiet_get _ _ rfl _ _ rfl 1 rfl rowMeadow (by omega) ?_; (simp only [er, er']); (simp only [Act.put, List.setIfInBounds_toArray, List.set_cons_succ, List.set_cons_zero]); go_big_quiet_on) | (refine quiet_get _ _ rfl _ _ rfl 0 rfl rowMeadow (by omega) ?_; (simp only [er, er']); (simp only [Act.put, List.setIfInBounds_toArray, List.set_cons_succ, List.set_cons_zero]); go_big_quiet_on) | (refine quiet_call ?_; apply Exists.intro; apply Exists.intro; apply Exists.intro; refine ⟨fun W => ?_, fun W hM => ?_, ?_⟩; (go_simp; exact ⟨rfl, rfl⟩); (exact eqMeadow_same (hs k) W); (simp only [Act.put, List.setIfInBounds_toArray, List.set_cons_succ, List.set_cons_zero]); go_big_quiet_on) | (refine quiet_val ?_; apply Exists.intro; refine ⟨fun W => ?_, ?_⟩; (go_simp; (try simp only [l2, if_true, Bool.false_eq_true, if_false]); rfl); (simp only [Act.put, List.setIfInBounds_toArray, List.set_cons_succ, List.set_cons_zero]); go_big_quiet_on)))); (with_reducible refine wpQuiet_nil ?_); intro W' hM)
      go_wp2
      go_roundw
      case rel => exact ⟨k + 1, by omega, by go_num, hM⟩
      case measure => simp [intOf]; omega
    · obtain rfl : k = n := by omega
      go_wp2
      go_ret
      exact ⟨rfl, hM.below⟩

/-- The kind of a mark; the mark j, as a cell. -/
def mkindMeadow (i : Nat) : IntKind := .i16
def mkMeadow (i j : Nat) : Value := .int (mkindMeadow i) ((mkindMeadow i).wrap (j : Int))
theorem mkMeadow_eq {i j : Nat} {κ : IntKind} {x : Int} (hκ : mkindMeadow i = κ := by rfl) (hx : x = (j : Int)) : mkMeadow i j = .int κ (κ.wrap x) := by
  unfold mkMeadow; rw [hκ, hx]
theorem mkindMeadow_0 (k : Nat) : mkindMeadow (k * 3) = .i16 := by rfl
theorem mkindMeadow_1 (k : Nat) : mkindMeadow (k * 3 + 1) = .i16 := by rfl
theorem mkindMeadow_2 (k : Nat) : mkindMeadow (k * 3 + 2) = .i16 := by rfl

set_option maxRecDepth 100000 in
set_option maxHeartbeats 1000000 in
/-- markMeadowS writes its marks into the list. -/
theorem markMeadowS_list (b0 : Base) (K : Blocks) (b n c N k0 : Nat) (F : Nat → Value) (hN : n * 3 ≤ N) (hn : n ≤ 1048576) (hk0 : k0 ≤ 100000000) (hb : b0.B ≤ b) (w : World) (hM0 : Mem b0 ((b, N, F) :: K) w) :
    Calls Tryd.prog 18 #[.slice (some ⟨b, 0, none⟩) n c, .int .i64 k0] w fun e w' => e = .returned (.int .i64 ((k0 + n * 3 : Nat) : Int)) ∧ ∃ G, (∀ j, j < n * 3 → G j = mkMeadow j (k0 + j)) ∧ Mem b0 ((b, N, G) :: K) w' := by
  have hM := hM0
  clear hM0
  go_enter Tryd.func18, Tryd.ntmps18
  go_wp2
  go_loopw [1, 5] (fun t i wr => ∃ k : Nat, k ≤ n ∧ t = .int .i64 ((k0 + k * 3 : Nat) : Int) ∧ i = .int .i64 k ∧ ∃ G, Hid (∀ j, j < k * 3 → G j = mkMeadow j (k0 + j)) ∧ Mem b0 ((b, N, G) :: K) wr) (fun _ i _ => n - (intOf i).toNat)
  case atStart => exact ⟨0, by omega, by simp, rfl, F, Lib.hid (fun j hj => absurd hj (by omega)), hM⟩
  case round =>
    clear hM
    obtain ⟨k, hk, rfl, rfl, G, hG, hM⟩ := hrel
    by_cases hlt : k < n
    · have l2 : (k : Int) < n := by omega
      obtain ⟨mm, hm⟩ : ∃ m : Nat, m = k0 + k * 3 := ⟨_, rfl⟩
      rw [← hm]
      have n1 : IntKind.i64.wrap ((mm : Int) + 1) = (mm : Int) + 1 := IntWalk.i64_in _ (by omega)
      have n2 : IntKind.i64.wrap ((mm : Int) + 1 + 1) = (mm : Int) + 1 + 1 := IntWalk.i64_in _ (by omega)
      have n3 : IntKind.i64.wrap ((mm : Int) + 1 + 1 + 1) = (mm : Int) + 1 + 1 + 1 := IntWalk.i64_in _ (by omega)
      have hl : (mm : Int) + 1 + 1 + 1 = ((k0 + (k + 1) * 3 : Nat) : Int) := by omega
      have Hl := Lib.hid hl
      have Hm := Lib.hid hm
      clear hm hl
      have tk_s0 : True := trivial; have tk_s1 : True := trivial; have tk_s2 : True := trivial
      go_wp2_with (first | (have _t := tk_s0; (refine wpList_set1 rfl _ _ _ rfl _ _ rfl _ rfl ?_ hM 0 rfl (by assumption) (cellTab _ rfl) (by omega) ?_; (first | rfl | exact h1 _); intro W' hM'; clear hM; have hM := hM'; clear hM'; simp [List.set, Act.eval] at hM); clear tk_s0) | (have _t := tk_s1; (refine wpList_set1 rfl _ _ _ rfl _ _ rfl _ rfl ?_ hM 0 rfl (by assumption) (cellTab _ rfl) (by omega) ?_; (first | rfl | exact h1 _); intro W' hM'; clear hM; have hM := hM'; clear hM'; simp [List.set, Act.eval] at hM); clear tk_s1) | (have _t := tk_s2; (refine wpList_set1 rfl _ _ _ rfl _ _ rfl _ rfl ?_ hM 0 rfl (by assumption) (cellTab _ rfl) (by omega) ?_; (first | rfl | exact h1 _); intro W' hM'; clear hM; have hM := hM'; clear hM'; simp [List.set, Act.eval] at hM); clear tk_s2))
      go_roundw
      case rel => exact ⟨k + 1, by omega, by first | exact congrArg (Value.int .i64) Hl.out | rfl, by go_num, _, Lib.hid (fun j hj => by
        simp only [upd]
        by_cases e2 : j = k * 3 + 2
        · rw [if_pos e2, e2]; exact (mkMeadow_eq (mkindMeadow_2 k) (by have := Hm.out; omega)).symm
        · skip
          by_cases e1 : j = k * 3 + 1
          · rw [if_neg e2, if_pos e1, e1]; exact (mkMeadow_eq (mkindMeadow_1 k) (by have := Hm.out; omega)).symm
          · skip
            by_cases e0 : j = k * 3
            · rw [if_neg e2, if_neg e1, if_pos e0, e0]; exact (mkMeadow_eq (mkindMeadow_0 k) (by have := Hm.out; omega)).symm
            · skip
              rw [if_neg e2, if_neg e1, if_neg e0]; exact hG.out j (by omega)
      ), hM⟩
      case measure => simp [intOf]; omega
    · obtain rfl : k = n := by omega
      go_wp2
      go_ret
      exact ⟨rfl, G, hG.out, hM⟩

set_option maxRecDepth 100000 in
set_option maxHeartbeats 1000000 in
/-- heldMeadowS finds the marks. -/
theorem heldMeadowS_list (b n c N k0 : Nat) (G : Nat → Value) (hN : n * 3 ≤ N) (hn : n ≤ 1048576) (hk0 : k0 ≤ 100000000) (hG : ∀ j, j < n * 3 → G j = mkMeadow j (k0 + j)) (w : World) (hA : At w b N G) :
    Calls Tryd.prog 19 #[.slice (some ⟨b, 0, none⟩) n c, .int .i64 k0] w fun e w' => e = .returned (.int .i64 ((k0 + n * 3 : Nat) : Int)) ∧ Below w.heap.size w w' := by
  have hM : Mem w [(b, N, G)] w := (Mem.nil w).old hA (fun i p h => by simp at h)
  have Hg := Lib.hid hG
  clear hA hG
  go_enter Tryd.func19, Tryd.ntmps19
  go_wp2
  go_loopw [1, 5] (fun t i wr => ∃ k : Nat, k ≤ n ∧ t = .int .i64 ((k0 + k * 3 : Nat) : Int) ∧ i = .int .i64 k ∧ Mem w [(b, N, G)] wr) (fun _ i _ => n - (intOf i).toNat)
  case atStart => exact ⟨0, by omega, by simp, rfl, hM⟩
  case round =>
    clear hM
    obtain ⟨k, hk, rfl, rfl, hM⟩ := hrel
    by_cases hlt : k < n
    · have l2 : (k : Int) < n := by omega
      obtain ⟨mm, hm⟩ : ∃ m : Nat, m = k0 + k * 3 := ⟨_, rfl⟩
      have g0 : G (k * 3) = .int .i16 (IntKind.i16.wrap ((mm : Int))) := by rw [Hg.out _ (by omega)]; exact mkMeadow_eq (mkindMeadow_0 k) (by omega)
      have g1 : G (k * 3 + 1) = .int .i16 (IntKind.i16.wrap ((mm : Int) + 1)) := by rw [Hg.out _ (by omega)]; exact mkMeadow_eq (mkindMeadow_1 k) (by omega)
      have g2 : G (k * 3 + 2) = .int .i16 (IntKind.i16.wrap ((mm : Int) + 1 + 1)) := by rw [Hg.out _ (by omega)]; exact mkMeadow_eq (mkindMeadow_2 k) (by omega)
      rw [← hm]
      have n1 : IntKind.i64.wrap ((mm : Int) + 1) = (mm : Int) + 1 := IntWalk.i64_in _ (by omega)
      have n2 : IntKind.i64.wrap ((mm : Int) + 1 + 1) = (mm : Int) + 1 + 1 := IntWalk.i64_in _ (by omega)
      have n3 : IntKind.i64.wrap ((mm : Int) + 1 + 1 + 1) = (mm : Int) + 1 + 1 + 1 := IntWalk.i64_in _ (by omega)
      have hl : (mm : Int) + 1 + 1 + 1 = ((k0 + (k + 1) * 3 : Nat) : Int) := by omega
      have Hl := Lib.hid hl
      clear hm hl
      have tk_s0 : True := trivial; have tk_s1 : True := trivial; have tk_s2 : True := trivial
      go_wp2_with (first | (have _t := tk_s0; (refine wpList_get1 rfl _ _ rfl _ _ rfl hM 0 rfl (cellTab _ rfl) (by omega) _ g0 ?_); clear tk_s0) | (have _t := tk_s1; (refine wpList_get1 rfl _ _ rfl _ _ rfl hM 0 rfl (cellTab _ rfl) (by omega) _ g1 ?_); clear tk_s1) | (have _t := tk_s2; (refine wpList_get1 rfl _ _ rfl _ _ rfl hM 0 rfl (cellTab _ rfl) (by omega) _ g2 ?_); clear tk_s2))
      go_roundw
      case rel => exact ⟨k + 1, by omega, by first | exact congrArg (Value.int .i64) Hl.out | rfl, by go_num, hM⟩
      case measure => simp [intOf]; omega
    · obtain rfl : k = n := by omega
      go_wp2
      go_ret
      exact ⟨rfl, hM.below⟩
end Go.Proofs.YtbbododeglkghaaDoor

/-
  laws.FnExactGreatestNeed returns true.
-/
namespace Go.Proofs.YtbbododeglkghaaDoor
open Go Go.RowKit Go.BigFrame

set_option maxRecDepth 100000 in
set_option maxHeartbeats 4000000 in
theorem lawGreatestNeed_any {a : Nat → Addr} (v0 : Value) (n0 : Nat) (hs0 : Nat → Nat → Int) (hn0 : n0 ≤ maxLen) (hF0 : ∀ i, i < n0 → FitsMeadow (hs0 i))  (i1 : Int)  (i2 : Int) (w : World) (hE : Errs a w) (hG0 : MeadowArg w v0 n0 hs0) :
    Calls Tryd.prog 12 #[v0, .int .i64 i1, .int .i64 i2] w fun e w' => e = .returned (.bool true) ∧ Below w.heap.size w w' := by
  have hM := Mem.nil w
  have HE := Lib.hid hE
  have HG0 := Lib.hid hG0
  have Hn0 := Lib.hid hn0
  have HF0 := Lib.hid hF0
  clear hE hG0 hn0 hF0
  by_cases hO0 : 1048576 < n0
  · go_enter Tryd.func12, Tryd.ntmps12
    go_wp2_with (first | (go_at_call 13; (with_reducible refine (szMeadowS_no v0 n0 hs0 1048576 Hn0.out (by omega) (by omega) (by omega) _ (HG0.out.below hM.below)).mono ?_); rintro e W' ⟨rfl, hb'⟩; have hM' := hM.call hb'; clear hM hb'; have hM := hM'; clear hM'))
    go_ret
    exact ⟨rfl, hM.below⟩
  have e0 : decide ((1048576 : Int) - n0 < 0) = false := decide_eq_false (by omega)
  have f0 : decide ((1048576 : Int) < n0) = false := decide_eq_false (by omega)
  have hb0 : n0 ≤ 1048576 := by omega
  have hS := fun (B0 : Nat) (W : World) (hB0 : At W B0 (n0 * 3) (sMeadow hs0))  => specGreatestNeed_any B0 n0 n0 hs0 HF0.out hb0 i1 i2 W hB0
  have hI := fun (B0 : Nat) (W : World) (hB0 : At W B0 (n0 * 3) (sMeadow hs0))  (hE : Errs a W) => implGreatestNeed_any (a := a) B0 n0 n0 hs0 HF0.out hb0 i1 i2 W hB0 hE
  generalize (grnR n0 hs0 i1 i2).1 = R at hS hI
  generalize (grnR n0 hs0 i1 i2).2 = C at hS hI
  have Hz : Hid (numR R C = .tuple #[.int .i64 R, .int .i64 C]) := Lib.hid rfl
  have HS := Lib.hid hS
  have HI := Lib.hid hI
  clear hS hI
  have tk_q0 : True := trivial; have tk_q1 : True := trivial; have tk_q2 : True := trivial
  go_enter Tryd.func12, Tryd.ntmps12
  go_wp2_with (first | (go_at_call 13; (with_reducible refine (szMeadowS_yes v0 n0 hs0 1048576 (by omega) (by omega) _ (HG0.out.below hM.below)).mono ?_); rintro e W' ⟨rfl, hb'⟩; have hM' := hM.call hb'; clear hM hb'; have hM := hM'; clear hM') | (have _t := tk_q0; go_at_call 15; (with_reducible refine (toMeadowS_any v0 n0 hs0 hb0 _ (HG0.out.below hM.below)).mono ?_); rintro e W' ⟨q0, rfl, hq0, hA', hcb⟩; have hM' := hM.fresh' hcb hA' hq0; simp only [List.cons_append, List.nil_append] at hM'; clear hM hcb hA' tk_q0; have hM := hM'; clear hM') | (go_at_call 40; (with_reducible refine (HS.out _ _ (hM.ats 0 _ _ _ rfl)).mono ?_); rintro e W' ⟨rfl, hb'⟩; rw [Hz.out]; have hM' := hM.call hb'; clear hM hb'; have hM := hM'; clear hM') | (have _t := tk_q1; go_at_call 15; (with_reducible refine (toMeadowS_any v0 n0 hs0 hb0 _ (HG0.out.below hM.below)).mono ?_); rintro e W' ⟨q1, rfl, hq1, hA', hcb⟩; have hM' := hM.fresh' hcb hA' hq1; simp only [List.cons_append, List.nil_append] at hM'; clear hM hcb hA' tk_q1; have hM := hM'; clear hM') | (go_at_call 41; (with_reducible refine (HI.out _ _ (hM.ats 1 _ _ _ rfl) (HE.out.below hM.below)).mono ?_); rintro e W' ⟨rfl, hb'⟩; rw [Hz.out]; have hM' := hM.call hb'; clear hM hb'; have hM := hM'; clear hM') | (have _t := tk_q2; go_at_call 15; (with_reducible refine (toMeadowS_any v0 n0 hs0 hb0 _ (HG0.out.below hM.below)).mono ?_); rintro e W' ⟨q2, rfl, hq2, hA', hcb⟩; have hM' := hM.fresh' hcb hA' hq2; simp only [List.cons_append, List.nil_append] at hM'; clear hM hcb hA' tk_q2; have hM := hM'; clear hM') | (go_at_call 17; (with_reducible refine (eqMeadowS_same _ _ n0 n0 n0 hs0 Hn0.out _ (hM.ats 1 _ _ _ rfl) (hM.ats 2 _ _ _ rfl) (hM.apart 1 2 _ _ rfl rfl (by omega))).mono ?_); rintro e W' ⟨rfl, hb'⟩; have hM' := hM.call hb'; clear hM hb'; have hM := hM'; clear hM'))
  go_ret
  exact ⟨rfl, hM.below⟩
end Go.Proofs.YtbbododeglkghaaDoor

