/-
  Plans: spec.l07Index, l07Plan, impl.checkPlan by contracts; what a plan makes.
-/
import Derived.Test.YtbbododeglkghaaDoorMeadowD
import Derived.Test.YtbbododeglkghaaDoorInt64SC
namespace Go.Proofs.YtbbododeglkghaaDoor
open Go Go.RowKit Go.BigFrame

/-- Is a plan as told, for n meadows? -/
def planTo (n : Nat) (ys : Nat → Int) (p : Nat) : Bool := (List.range p).all fun i => inB 0 ((n : Int) - 1) (ys i)
def planB (n p : Nat) (ys : Nat → Int) : Bool := decide (p ≤ 30) && planTo n ys p
theorem planTo_no {n p i : Nat} {ys : Nat → Int} (hi : i < p) (h : inB 0 ((n : Int) - 1) (ys i) = false) : planTo n ys p = false := by
  unfold planTo; rw [List.all_eq_false]; exact ⟨i, by simpa using hi, by rw [h]; decide⟩
theorem planTo_yes {n p : Nat} {ys : Nat → Int} (h : ∀ i, i < p → inB 0 ((n : Int) - 1) (ys i) = true) : planTo n ys p = true := by
  unfold planTo; rw [List.all_eq_true]; intro i hi; exact h i (by simpa using hi)
theorem planTo_at {n p i : Nat} {ys : Nat → Int} (h : planTo n ys p = true) (hi : i < p) : inB 0 ((n : Int) - 1) (ys i) = true := by
  unfold planTo at h; rw [List.all_eq_true] at h; exact h i (by simpa using hi)
theorem planTo_succ (n : Nat) (ys : Nat → Int) (p : Nat) : planTo n ys (p + 1) = (planTo n ys p && inB 0 ((n : Int) - 1) (ys p)) := by
  unfold planTo; rw [List.range_succ, List.all_append]; simp
theorem planB_iff {n p : Nat} {ys : Nat → Int} (h : planB n p ys = true) : p ≤ 30 ∧ ∀ i, i < p → 0 ≤ ys i ∧ ys i < n := by
  unfold planB at h
  rw [Bool.and_eq_true, decide_eq_true_iff] at h
  exact ⟨h.1, fun i hi => by have := inB_true (planTo_at h.2 hi); omega⟩

/-- The meadows behind the first i days of a plan. -/
def stM (hs : Nat → Nat → Int) (need : Int) (ys : Nat → Int) : Nat → Nat → Nat → Int
  | 0 => hs
  | i + 1 => dayM (stM hs need ys i) need (ys i).toNat
/-- Can the i-th day be made? -/
def canM (hs : Nat → Nat → Int) (need : Int) (ys : Nat → Int) (i : Nat) : Prop := need ≤ stM hs need ys i (ys i).toNat 0
instance (hs : Nat → Nat → Int) (need : Int) (ys : Nat → Int) (i : Nat) : Decidable (canM hs need ys i) := by unfold canM; infer_instance
/-- How many of the first p days are made until one cannot be. -/
def upM (hs : Nat → Nat → Int) (need : Int) (ys : Nat → Int) : Nat → Nat
  | 0 => 0
  | i + 1 => if upM hs need ys i = i ∧ canM hs need ys i then i + 1 else upM hs need ys i
theorem upM_le (hs : Nat → Nat → Int) (need : Int) (ys : Nat → Int) : ∀ p, upM hs need ys p ≤ p
  | 0 => Nat.le_refl _
  | i + 1 => by
    have := upM_le hs need ys i
    simp only [upM]
    split <;> omega
theorem upM_step {hs : Nat → Nat → Int} {need : Int} {ys : Nat → Int} {i : Nat} (h : upM hs need ys i = i) (hc : canM hs need ys i) : upM hs need ys (i + 1) = i + 1 := by simp [upM, h, hc]
theorem upM_stop {hs : Nat → Nat → Int} {need : Int} {ys : Nat → Int} {i : Nat} (h : upM hs need ys i = i) (hc : ¬ canM hs need ys i) : ∀ d, upM hs need ys (i + d) = i
  | 0 => h
  | d + 1 => by
    have ih := upM_stop h hc d
    rw [show i + (d + 1) = (i + d) + 1 by omega]
    simp only [upM]
    by_cases e : upM hs need ys (i + d) = i + d
    · have : d = 0 := by omega
      subst this
      rw [if_neg (fun q => hc q.2)]; exact ih
    · rw [if_neg (fun q => e q.1)]; exact ih
theorem upM_first {hs : Nat → Nat → Int} {need : Int} {ys : Nat → Int} {i p : Nat} (h : upM hs need ys i = i) (hc : ¬ canM hs need ys i) (hp : i ≤ p) : upM hs need ys p = i := by
  have := upM_stop h hc (p - i)
  rwa [show i + (p - i) = p by omega] at this
/-- The meadows stay valid. -/
theorem stM_ok {n p : Nat} {hs : Nat → Nat → Int} {need : Int} {ys : Nat → Int} (hb : ∀ i, i < n → meadB (hs i) = true) (hd : 1 ≤ need ∧ need ≤ 1000) (hp : ∀ i, i < p → 0 ≤ ys i ∧ ys i < n) : ∀ i, i ≤ p → upM hs need ys i = i → ∀ j, j < n → meadB (stM hs need ys i j) = true
  | 0, _, _, j, hj => hb j hj
  | i + 1, hi, hu, j, hj => by
    have hu' : upM hs need ys i = i ∧ canM hs need ys i := by
      have hle := upM_le hs need ys i
      simp only [upM] at hu
      by_cases e : upM hs need ys i = i ∧ canM hs need ys i
      · exact e
      · rw [if_neg e] at hu; omega
    have ih := stM_ok hb hd hp i (by omega) hu'.1
    exact dayM_ok ih hd hu'.2 hj

theorem l07Index_any (b : Option Addr) (n c : Nat) (hn : n ≤ 1048576) (m : Int) (w : World) :
    Calls Tryd.prog 43 #[.slice b n c, .int .i64 m] w fun e w' => e = .returned (.bool (inB 0 ((n : Int) - 1) m)) ∧ Below w.heap.size w w' := by
  have hM := Mem.nil w
  have c1 : IntKind.i64.wrap ((n : Int) - 1) = (n : Int) - 1 := IntWalk.i64_in _ (by omega)
  go_enter Tryd.func43, Tryd.ntmps43
  go_wp2_with (first | (go_at_call 55; (with_reducible refine (l00In_any m 0 ((n : Int) - 1) _).mono ?_); rintro e W' ⟨rfl, hb'⟩; have hM' := hM.call hb'; clear hM hb'; have hM := hM'; clear hM'))
  go_ret
  exact ⟨ret_bool (a := inB 0 ((n : Int) - 1) m) rfl, hM.below⟩
set_option maxRecDepth 100000 in
set_option maxHeartbeats 4000000 in
theorem l07Plan_any (b n c bp p cp : Nat) (hs : Nat → Nat → Int) (ys : Nat → Int) (hF : ∀ i, i < n → FitsMeadow (hs i)) (hn : n ≤ 1048576) (hp : p ≤ 1048576) (need : Int) (w : World) (hB : At w b (n * 3) (sMeadow hs)) (hP : At w bp p (vInt64S ys)) (hne : b ≠ bp) :
    Calls Tryd.prog 47 #[.slice (some ⟨b, 0, none⟩) n c, .int .i64 need, .slice (some ⟨bp, 0, none⟩) p cp] w fun e w' => e = .returned (.int .i64 (meadC n hs need (planB n p ys))) ∧ Below w.heap.size w w' := by
  have hM : Mem w [(b, n * 3, sMeadow hs), (bp, p, vInt64S ys)] w := ((Mem.nil w).old hB (fun i p h => by simp at h)).old hP (fun i p h => by
    match i, h with
    | 0, h => simp at h; rw [← h]; exact hne
    | _ + 1, h => simp at h)
  have HF := Lib.hid hF
  clear hF hB hP
  have h30 : Hid ((p : Int) ≤ 30 ↔ p ≤ 30) := Lib.hid (by omega)
  obtain ⟨t, ht⟩ : ∃ t : Bool, t = decide (p ≤ 30) := ⟨_, rfl⟩
  have hd : decide ((p : Int) ≤ 30) = t := by rw [ht]; exact decide_eq_decide.2 h30.out
  have Ht := Lib.hid ht
  clear ht h30
  go_enter Tryd.func47, Tryd.ntmps47
  go_wp2
  go_loopw [7, 8] (fun f i wr => ∃ k : Nat, k ≤ p ∧ f = .bool (t && planTo n ys k) ∧ i = .int .i64 k ∧ Mem w [(b, n * 3, sMeadow hs), (bp, p, vInt64S ys)] wr) (fun _ i _ => p - (intOf i).toNat)
  case atStart => exact ⟨0, by omega, by simp [planTo], rfl, hM⟩
  case round =>
    clear hM
    obtain ⟨k, hk, rfl, rfl, hM⟩ := hrel
    by_cases hlt : k < p
    · have l2 : (k : Int) < p := by omega
      have ek : vInt64S ys k = .int .i64 (ys k) := rfl
      have Hs := Lib.hid (planTo_succ n ys k)
      have HI := Lib.hid (fun W => l07Index_any (some ⟨b, 0, none⟩) n c hn (ys k) W)
      cases hf : (t && planTo n ys k)
      · have Hn : Hid ((t && planTo n ys (k + 1)) = false) := Lib.hid (by rw [Hs.out, ← Bool.and_assoc, hf]; rfl)
        go_wp2
        go_roundw
        case rel => exact ⟨k + 1, by omega, congrArg Value.bool Hn.out.symm, by go_num, hM⟩
        case measure => simp [intOf]; omega
      · cases hi : inB 0 ((n : Int) - 1) (ys k)
        all_goals
          have Hi := Lib.hid hi
          have Hn : Hid ((t && planTo n ys (k + 1)) = inB 0 ((n : Int) - 1) (ys k)) := Lib.hid (by rw [Hs.out, ← Bool.and_assoc, hf]; rfl)
          clear hi
          go_wp2_with (first | (refine wpList_gget1 ?_ _ _ rfl _ _ rfl hM 1 rfl (cellTab _ rfl) (by omega) _ ek ?_; kernel_rfl) | (go_at_call 43; (with_reducible refine (HI.out _).mono ?_); rintro e W' ⟨rfl, hb'⟩; rw [Hi.out]; have hM' := hM.call hb'; clear hM hb'; have hM := hM'; clear hM'))
          go_roundw
          case rel => exact ⟨k + 1, by omega, congrArg Value.bool (by rw [Hn.out, Hi.out]), by go_num, hM⟩
          case measure => simp [intOf]; omega
    · obtain rfl : k = p := by omega
      have Hp : Hid ((t && planTo n ys k) = planB n k ys) := Lib.hid (by rw [Ht.out]; rfl)
      have HA := Lib.hid (fun W hB => l07Asked_any b n c hs HF.out hn need (t && planTo n ys k) W hB)
      generalize (t && planTo n ys k) = q at *
      go_wp2_with (first | (go_at_call 42; (with_reducible refine (HA.out _ (hM.ats 0 _ _ _ rfl)).mono ?_); rintro e W' ⟨rfl, hb'⟩; have hM' := hM.call hb'; clear hM hb'; have hM := hM'; clear hM'))
      go_ret
      exact ⟨ret_i (by rw [Hp.out]), hM.below⟩

set_option maxRecDepth 100000 in
set_option maxHeartbeats 4000000 in
theorem checkPlan_any {a : Nat → Addr} (n bp p cp : Nat) (ys : Nat → Int) (hn : n ≤ 1048576) (hp : p ≤ 1048576) (w : World) (hP : At w bp p (vInt64S ys)) (hE : Errs a w) :
    Calls Tryd.prog 57 #[.slice (some ⟨bp, 0, none⟩) p cp, .int .i64 n] w fun e w' => e = .returned (errO (a 1) (!planB n p ys)) ∧ Below w.heap.size w w' := by
  have hM : Mem w [(bp, p, vInt64S ys)] w := (Mem.nil w).old hP (fun i p h => by simp at h)
  have HE := Lib.hid hE
  clear hP
  by_cases h30 : 30 < p
  · have hz : 30 < (p : Int) := by omega
    have Hp : Hid (errO (a 1) (!planB n p ys) = errV (a 1)) := Lib.hid (by unfold planB; rw [decide_eq_false (show ¬ p ≤ 30 by omega)]; rfl)
    have v1 : w.cell? ⟨1, 0, none⟩ = some (errV (a 1)) := hE.vars 1 (by omega)
    clear hE
    go_enter Tryd.func57, Tryd.ntmps57
    go_wp2
    go_ret
    exact ⟨congrArg Ending.returned Hp.out.symm, hM.below⟩
  have hz : ¬ 30 < (p : Int) := by omega
  clear hE
  have c1 : IntKind.i64.wrap ((n : Int) - 1) = (n : Int) - 1 := IntWalk.i64_in _ (by omega)
  go_enter Tryd.func57, Tryd.ntmps57
  go_wp2
  go_loopw [14] (fun i wr => ∃ k : Nat, k ≤ p ∧ i = .int .i64 k ∧ Hid (∀ j, j < k → inB 0 ((n : Int) - 1) (ys j) = true) ∧ Mem w [(bp, p, vInt64S ys)] wr) (fun i _ => p - (intOf i).toNat)
  case atStart => exact ⟨0, by omega, rfl, Lib.hid (fun j hj => absurd hj (by omega)), hM⟩
  case round =>
    clear hM
    obtain ⟨k, hk, rfl, hall, hM⟩ := hrel
    by_cases hlt : k < p
    · have l2 : (k : Int) < p := by omega
      have ek : vInt64S ys k = .int .i64 (ys k) := rfl
      cases hi : inB 0 ((n : Int) - 1) (ys k)
      · have Hi := Lib.hid hi
        have Hp : Hid (errO (a 1) (!planB n p ys) = errV (a 1)) := Lib.hid (by unfold planB; rw [planTo_no hlt hi, Bool.and_false]; rfl)
        clear hi
        go_wp2_with (first | (refine wpList_get1 rfl _ _ rfl _ _ rfl hM 0 rfl (cellTab _ rfl) (by omega) _ ek ?_) | (go_at_call 54; (with_reducible refine (checkUpTo_no (ys k) ((n : Int) - 1) _ (HE.out.below hM.below) Hi.out).mono ?_); rintro e W' ⟨rfl, hb'⟩; have hM' := hM.call hb'; clear hM hb'; have hM := hM'; clear hM'))
        go_ret
        exact ⟨congrArg Ending.returned Hp.out.symm, hM.below⟩
      · have Hi := Lib.hid hi
        clear hi
        go_wp2_with (first | (refine wpList_get1 rfl _ _ rfl _ _ rfl hM 0 rfl (cellTab _ rfl) (by omega) _ ek ?_) | (go_at_call 54; (with_reducible refine (checkUpTo_yes (ys k) ((n : Int) - 1) _ Hi.out).mono ?_); rintro e W' ⟨rfl, hb'⟩; have hM' := hM.call hb'; clear hM hb'; have hM := hM'; clear hM'))
        go_roundw
        case rel => exact ⟨k + 1, by omega, by go_num, Lib.hid (fun j hj => by
          by_cases e : j = k
          · rw [e]; exact Hi.out
          · exact hall.out j (by omega)), hM⟩
        case measure => simp [intOf]; omega
    · obtain rfl : k = p := by omega
      have Hp : Hid (errO (a 1) (!planB n k ys) = .nilIface) := Lib.hid (by unfold planB; rw [planTo_yes hall.out, decide_eq_true (show k ≤ 30 by omega)]; rfl)
      go_wp2
      go_ret
      exact ⟨congrArg Ending.returned Hp.out.symm, hM.below⟩
end Go.Proofs.YtbbododeglkghaaDoor
