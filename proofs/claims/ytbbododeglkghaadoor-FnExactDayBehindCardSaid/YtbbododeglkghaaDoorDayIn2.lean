/-
  (impl.hunger).dayIn by contract.
-/
import Derived.Test.YtbbododeglkghaaDoorDayIn
namespace Go.Proofs.YtbbododeglkghaaDoor
open Go Go.RowKit Go.BigFrame

set_option maxRecDepth 100000 in
set_option maxHeartbeats 1000000 in
theorem dayIn_no {a : Nat → Addr} (b n c N : Nat) (F : Nat → Value) (hs : Nat → Nat → Int) (hN : n * 3 ≤ N) (hF : ∀ j, j < n * 3 → F j = sMeadow hs j) (hb : ∀ i, i < n → meadB (hs i) = true) (need : Int) (m : Nat) (hm : m < n) (he : hs m 0 < need) (w : World) (hA : At w b N F) (hE : Errs a w) :
    Calls Tryd.prog 73 #[.int .i64 need, .slice (some ⟨b, 0, none⟩) n c, .int .i64 m] w fun e w' => e = .returned (.tuple #[.slice none 0 0, errV (a 2)]) ∧ Below w.heap.size w w' := by
  have hM : Mem w [(b, N, F)] w := (Mem.nil w).old hA (fun i p h => by simp at h)
  obtain ⟨h2, h0, h1⟩ := meadB_iff (hb m hm)
  have lm : (m : Int) < n := by omega
  have em : F (m * 3) = .int .i16 (hs m 0) := by rw [hF _ (by omega)]; exact sMeadow_row hs m 0 (by omega)
  have c0 : IntKind.i64.wrap (hs m 0) = hs m 0 := IntWalk.i64_in _ (by omega)
  have d0 : decide (hs m 0 < need) = true := decide_eq_true he
  have HE := Lib.hid hE
  clear hA hF hb hE
  go_enter Tryd.func73, Tryd.ntmps73
  go_wp2_with (first | (refine wpList_get1 rfl _ _ rfl _ _ rfl hM 0 rfl (cellTab _ rfl) (by omega) _ em ?_))
  ((try simp only [Act.put, List.setIfInBounds_toArray, List.set_cons_succ, List.set_cons_zero]); refine wp_region_mem (by kernel_rfl) (by kernel_rfl) hM ?_; clear hM; (repeat (first | go_big_quiet_skip | (go_big_quiet_want; first | (refine quiet_old _ _ rfl _ _ rfl (cellTab _ rfl) (errV (a 2)) (fun W hM => (HE.out.below hM.below).vars 2 (by omega)) ?_; (simp only [Act.put, List.setIfInBounds_toArray, List.set_cons_succ, List.set_cons_zero]); go_big_quiet_on) | (refine quiet_val ?_; apply Exists.intro; refine ⟨fun W => ?_, ?_⟩; (go_simp; rfl); (simp only [Act.put, List.setIfInBounds_toArray, List.set_cons_succ, List.set_cons_zero]); go_big_quiet_on)))); (with_reducible refine wpQuiet_nil ?_); intro W' hM)
  go_wp2
  go_ret2
  exact ⟨rfl, hM.below⟩

section
variable {P : Program} {o : Oper} {a : Act} {w : Base} {L : Blocks} {K : Act → Prop}
/-- A call of a method through an interface value. -/
theorem quiet_inv (r x : Operand) (name : String) (ats : Array TypeId) (ho : o.op = .call { callee := .invoke r name, args := #[x], argTypes := ats }) (rv xv : Value) (hr : a.eval r = rv) (hx : a.eval x = xv) (f : FuncId) (args : Array Value)
    (hm : ∀ W, (callMethod rv name #[xv]).run P W = .ok (.enter f args) W) (v : Value) (hc : ∀ W, Mem w L W → Calls P f args W fun e w' => e = .returned v ∧ Below W.heap.size W w') (h : K (a.put o.dst v)) : o.quiet P a (Mem w L) K :=
  quiet_call ⟨f, args, v, fun W => by
    unfold execOp
    simp only [ho, resolve, invoke, Sem.run_bind, Sem.run_pure, Result.andThen_ok, List.map_toArray, List.map_cons, List.map_nil, hr, hx]
    exact hm W, hc, h⟩
end
theorem inv_rest (x : Value) (W : World) : (callMethod restV "loop.example/g01345/impl.leaves" #[x]).run Tryd.prog W = .ok (.enter 104 #[.agg #[], x]) W := by kernel_rfl
theorem inv_graze (need : Int) (x : Value) (W : World) : (callMethod (grazeV need) "loop.example/g01345/impl.leaves" #[x]).run Tryd.prog W = .ok (.enter 105 #[.int .i64 need, x]) W := by kernel_rfl

/-- The meadows behind a day, and no error. -/
def GivesD (n : Nat) (hs : Nat → Nat → Int) (w : World) (e : Ending) (w' : World) : Prop := ∃ b c F, e = .returned (.tuple #[.slice (some ⟨b, 0, none⟩) n c, .nilIface]) ∧ w.heap.size ≤ b ∧ n ≤ c ∧ (∀ j, j < n * 3 → F j = sMeadow hs j) ∧ At w' b (c * 3) F ∧ Below w.heap.size w w'

/-- On the way: the first k are those behind the day. -/
def midM (hs : Nat → Nat → Int) (need : Int) (m k i j : Nat) : Int := if i < k then dayM hs need m i j else hs i j
theorem mid_start {n : Nat} {F : Nat → Value} {hs : Nat → Nat → Int} {need : Int} {m : Nat} (hF : ∀ j, j < n * 3 → F j = sMeadow hs j) : ∀ j, j < n * 3 → F j = sMeadow (midM hs need m 0) j := fun j hj => by
  rw [hF j hj]
  simp [sMeadow, vMeadow, midM]
theorem mid_cells {n : Nat} {F : Nat → Value} {hs : Nat → Nat → Int} {need : Int} {m k : Nat} (hF : ∀ j, j < n * 3 → F j = sMeadow (midM hs need m k) j) {v : Int} (hv : v = dayM hs need m k 0) : ∀ j, j < n * 3 → upd F (k * 3) (.int .i16 v) j = sMeadow (midM hs need m (k + 1)) j := fun j hj => by
  simp only [upd]
  have hr := sMeadow_row (midM hs need m (k + 1)) (j / 3) (j % 3) (by omega)
  rw [show j / 3 * 3 + j % 3 = j by omega] at hr
  rw [hr]
  by_cases e : j = k * 3
  · have e1 : j / 3 = k := by omega
    have e2 : j % 3 = 0 := by omega
    rw [if_pos e, e1, e2, hv]
    simp [vMeadow, midM, kMeadow]
  · have hr := sMeadow_row (midM hs need m k) (j / 3) (j % 3) (by omega)
    rw [show j / 3 * 3 + j % 3 = j by omega] at hr
    rw [if_neg e, hF j hj, hr]
    simp only [vMeadow, midM]
    by_cases e1 : j / 3 < k
    · rw [if_pos e1, if_pos (by omega)]
    · rw [if_neg e1]
      by_cases e2 : j / 3 = k
      · have e3 : j % 3 ≠ 0 := by omega
        rw [if_pos (by omega)]
        simp only [dayM, if_neg e3]
      · rw [if_neg (by omega)]
theorem mid_all {n : Nat} {F : Nat → Value} {hs : Nat → Nat → Int} {need : Int} {m : Nat} (hF : ∀ j, j < n * 3 → F j = sMeadow (midM hs need m n) j) : ∀ j, j < n * 3 → F j = sMeadow (dayM hs need m) j := fun j hj => by
  rw [hF j hj]
  have hr := sMeadow_row (midM hs need m n) (j / 3) (j % 3) (by omega)
  have hr' := sMeadow_row (dayM hs need m) (j / 3) (j % 3) (by omega)
  rw [show j / 3 * 3 + j % 3 = j by omega] at hr hr'
  rw [hr, hr']
  simp only [vMeadow, midM]
  rw [if_pos (by omega)]

set_option maxRecDepth 100000 in
set_option maxHeartbeats 4000000 in
theorem dayIn_yes (b n c N : Nat) (F : Nat → Value) (hs : Nat → Nat → Int) (hn1 : 1 ≤ n) (hn : n ≤ 6) (hN : n * 3 ≤ N) (hF : ∀ j, j < n * 3 → F j = sMeadow hs j) (hb : ∀ i, i < n → meadB (hs i) = true) (need : Int) (hd : 1 ≤ need ∧ need ≤ 1000) (m : Nat) (hm : m < n) (he : need ≤ hs m 0) (w : World) (hA : At w b N F) :
    Calls Tryd.prog 73 #[.int .i64 need, .slice (some ⟨b, 0, none⟩) n c, .int .i64 m] w (GivesD n (dayM hs need m) w) := by
  have hM : Mem w [(b, N, F)] w := (Mem.nil w).old hA (fun i p h => by simp at h)
  obtain ⟨h2, h0, h1⟩ := meadB_iff (hb m hm)
  have lm : (m : Int) < n := by omega
  have em : F (m * 3) = .int .i16 (hs m 0) := by rw [hF _ (by omega)]; exact sMeadow_row hs m 0 (by omega)
  have c0 : IntKind.i64.wrap (hs m 0) = hs m 0 := IntWalk.i64_in _ (by omega)
  have d0 : decide (hs m 0 < need) = false := decide_eq_false (by omega)
  have Hf := Lib.hid hF
  have Hb := Lib.hid hb
  clear hA hF hb
  go_enter Tryd.func73, Tryd.ntmps73
  go_wp2_with (first | (refine wpList_get1 rfl _ _ rfl _ _ rfl hM 0 rfl (cellTab _ rfl) (by omega) _ em ?_) | (go_at_call 71; (with_reducible refine (clone_meads b n c N F hs hn1 (by omega) hN Hf.out _ (hM.ats 0 _ _ _ rfl)).mono ?_); rintro e W' ⟨bL, cL, FL, rfl, hbL, hcL, hFL, hAL, hbl⟩; have hbL2 := Nat.le_trans hM.size hbL; have hM' := hM.freshQ hbl hAL hbL; clear hM hbl hAL; have hM := hM'; clear hM'))
  go_loopw [24] (fun i wr => ∃ k : Nat, k ≤ n ∧ i = .int .i64 k ∧ ∃ G, Hid (∀ j, j < n * 3 → G j = sMeadow (midM hs need m k) j) ∧ Mem w [(bL, cL * 3, G), (b, N, F)] wr) (fun i _ => n - (intOf i).toNat)
  case atStart => exact ⟨0, by omega, rfl, _, Lib.hid (mid_start hFL), hM⟩
  case round =>
    clear hM hFL em d0 c0
    obtain ⟨k, hk, rfl, G, hG, hM⟩ := hrel
    by_cases hlt : k < n
    · have l2 : (k : Int) < n := by omega
      have lc : (k : Int) < cL := by omega
      have er : arr 3 (fun j => F (k * 3 + j)) = arr 3 (vMeadow (hs k)) := arr_congr fun j hj => by rw [Hf.out _ (by omega)]; exact sMeadow_row hs k j hj
      have e3 : arr 3 (fun j => vMeadow (hs k) (0 + j)) = arr 3 (vMeadow (hs k)) := arr_congr fun j _ => by rw [Nat.zero_add]
      obtain ⟨k2, k0, k1⟩ := meadB_iff (Hb.out k hlt)
      have hc := cutM_in Hb.out hd he hlt
      obtain ⟨v, hv⟩ : ∃ v : Int, v = dayM hs need m k 0 := ⟨_, rfl⟩
      have hvb : 0 ≤ v ∧ v ≤ 1000 := by
        have hv' : v = minQ (hs k 2) (cutM hs need m k 0 + hs k 1) := by rw [hv]; simp [dayM]
        rw [hv']; unfold minQ; split <;> omega
      have d4 : IntKind.i16.wrap v = v := IntWalk.i16_in _ (by omega)
      have Hv := Lib.hid hv
      by_cases hkm : k = m
      · have HD := Lib.hid (fun W => dayOf_same (k : Int) m need (by omega) W)
        have HL : Hid (∀ W, Calls Tryd.prog 105 #[.int .i64 need, .agg (arr 3 (vMeadow (hs k)))] W fun e w' => e = .returned (.int .i64 v) ∧ Below W.heap.size W w') := Lib.hid (fun W => by
          have := grazeLeaves (hs k) need (Hb.out k hlt) hd (by rw [hkm]; exact he) W
          rw [hv]
          simp only [dayM, if_pos rfl]
          rw [hkm, cutM_same, ← hkm]
          exact this)
        clear hv hc hkm
        have tk_b3 : True := trivial; have tk_r1 : True := trivial; have tk_r2 : True := trivial
        go_wp2_with (first | (have _t := tk_r1; (refine wpList_get rfl _ _ rfl _ _ rfl hM 1 rfl rowMeadow (by omega) ?_); rw [er]; clear tk_r1) | (have _t := tk_b3; refine wpList_zero rfl _ rfl zeroMeadow hM ?_; intro b3 W' hb3 hM'; clear hM tk_b3; have hM := hM'; clear hM') | (have _t := tk_r2; (refine wpList_lay rfl _ _ _ rfl _ _ rfl _ _ rfl hM 0 rfl (by assumption) rowMeadow (by omega) (fun _ _ => rfl) ?_; intro W' hM'; clear hM; have hM1 := hM'.re 0 rfl (vMeadow (hs k)) (fun j hj => by simp only [lay]; rw [if_pos ⟨by omega, by omega⟩, Nat.sub_zero]); simp only [List.set_cons_zero] at hM1; clear hM'; have hM := hM1; clear hM1); clear tk_r2))
        ((try simp only [Act.put, List.setIfInBounds_toArray, List.set_cons_succ, List.set_cons_zero]); refine region_head_mem (m := 11) (by kernel_rfl) (by kernel_rfl) hM ?_; clear hM; simp only [List.take_succ_cons, List.take_zero, List.drop_succ_cons, List.drop_zero]; (repeat (first | go_big_quiet_skip | (go_big_quiet_want; first | (refine quiet_call ?_; apply Exists.intro; apply Exists.intro; apply Exists.intro; refine ⟨fun W => ?_, fun W hM => ?_, ?_⟩; (go_simp; exact ⟨rfl, rfl⟩); (with_reducible exact HD.out W); (simp only [Act.put, List.setIfInBounds_toArray, List.set_cons_succ, List.set_cons_zero]); go_big_quiet_on) | (refine quiet_inv _ _ _ _ rfl _ _ rfl rfl _ _ (inv_graze need _) _ (fun W _ => HL.out W) ?_; (simp only [Act.put, List.setIfInBounds_toArray, List.set_cons_succ, List.set_cons_zero]); go_big_quiet_on) | (refine quiet_get _ _ rfl _ _ rfl 0 rfl rowMeadow (by omega) ?_; (simp only [e3]); (simp only [Act.put, List.setIfInBounds_toArray, List.set_cons_succ, List.set_cons_zero]); go_big_quiet_on) | (refine quiet_val ?_; apply Exists.intro; refine ⟨fun W => ?_, ?_⟩; (go_simp; (try simp only [l2, lc, d4, if_true, Bool.false_eq_true, if_false]); rfl); (simp only [Act.put, List.setIfInBounds_toArray, List.set_cons_succ, List.set_cons_zero]); go_big_quiet_on)))); (with_reducible refine wpQuiet_nil ?_); intro W' hM)
        go_wp2_with (first | (refine wpList_set1 rfl _ _ _ rfl _ _ rfl _ rfl ?_ hM 1 rfl (by assumption) (cellTab _ rfl) (by omega) ?_; (first | rfl | exact h1 _); intro W' hM'; clear hM; have hM := hM'; clear hM'; simp [List.set, Act.eval] at hM))
        go_roundw
        case rel => exact ⟨k + 1, by omega, by go_num, _, Lib.hid (mid_cells hG.out Hv.out), hM.drop⟩
        case measure => simp [intOf]; omega
      · have HD := Lib.hid (fun W => dayOf_other (k : Int) m need (by omega) W)
        have HL : Hid (∀ W, Calls Tryd.prog 104 #[.agg #[], .agg (arr 3 (vMeadow (hs k)))] W fun e w' => e = .returned (.int .i64 v) ∧ Below W.heap.size W w') := Lib.hid (fun W => by
          have := restLeaves (hs k) (Hb.out k hlt) W
          rw [hv]
          simp only [dayM, if_pos rfl]
          rw [cutM_other hkm]
          exact this)
        clear hv hc hkm
        have tk_b3 : True := trivial; have tk_r1 : True := trivial; have tk_r2 : True := trivial
        go_wp2_with (first | (have _t := tk_r1; (refine wpList_get rfl _ _ rfl _ _ rfl hM 1 rfl rowMeadow (by omega) ?_); rw [er]; clear tk_r1) | (have _t := tk_b3; refine wpList_zero rfl _ rfl zeroMeadow hM ?_; intro b3 W' hb3 hM'; clear hM tk_b3; have hM := hM'; clear hM') | (have _t := tk_r2; (refine wpList_lay rfl _ _ _ rfl _ _ rfl _ _ rfl hM 0 rfl (by assumption) rowMeadow (by omega) (fun _ _ => rfl) ?_; intro W' hM'; clear hM; have hM1 := hM'.re 0 rfl (vMeadow (hs k)) (fun j hj => by simp only [lay]; rw [if_pos ⟨by omega, by omega⟩, Nat.sub_zero]); simp only [List.set_cons_zero] at hM1; clear hM'; have hM := hM1; clear hM1); clear tk_r2))
        ((try simp only [Act.put, List.setIfInBounds_toArray, List.set_cons_succ, List.set_cons_zero]); refine region_head_mem (m := 11) (by kernel_rfl) (by kernel_rfl) hM ?_; clear hM; simp only [List.take_succ_cons, List.take_zero, List.drop_succ_cons, List.drop_zero]; (repeat (first | go_big_quiet_skip | (go_big_quiet_want; first | (refine quiet_call ?_; apply Exists.intro; apply Exists.intro; apply Exists.intro; refine ⟨fun W => ?_, fun W hM => ?_, ?_⟩; (go_simp; exact ⟨rfl, rfl⟩); (with_reducible exact HD.out W); (simp only [Act.put, List.setIfInBounds_toArray, List.set_cons_succ, List.set_cons_zero]); go_big_quiet_on) | (refine quiet_inv _ _ _ _ rfl _ _ rfl rfl _ _ (inv_rest _) _ (fun W _ => HL.out W) ?_; (simp only [Act.put, List.setIfInBounds_toArray, List.set_cons_succ, List.set_cons_zero]); go_big_quiet_on) | (refine quiet_get _ _ rfl _ _ rfl 0 rfl rowMeadow (by omega) ?_; (simp only [e3]); (simp only [Act.put, List.setIfInBounds_toArray, List.set_cons_succ, List.set_cons_zero]); go_big_quiet_on) | (refine quiet_val ?_; apply Exists.intro; refine ⟨fun W => ?_, ?_⟩; (go_simp; (try simp only [l2, lc, d4, if_true, Bool.false_eq_true, if_false]); rfl); (simp only [Act.put, List.setIfInBounds_toArray, List.set_cons_succ, List.set_cons_zero]); go_big_quiet_on)))); (with_reducible refine wpQuiet_nil ?_); intro W' hM)
        go_wp2_with (first | (refine wpList_set1 rfl _ _ _ rfl _ _ rfl _ rfl ?_ hM 1 rfl (by assumption) (cellTab _ rfl) (by omega) ?_; (first | rfl | exact h1 _); intro W' hM'; clear hM; have hM := hM'; clear hM'; simp [List.set, Act.eval] at hM))
        go_roundw
        case rel => exact ⟨k + 1, by omega, by go_num, _, Lib.hid (mid_cells hG.out Hv.out), hM.drop⟩
        case measure => simp [intOf]; omega
    · obtain rfl : k = n := by omega
      go_wp2
      go_ret2
      exact ⟨bL, cL, G, rfl, hbL, hcL, mid_all hG.out, hM.at0, hM.below⟩
end Go.Proofs.YtbbododeglkghaaDoor
