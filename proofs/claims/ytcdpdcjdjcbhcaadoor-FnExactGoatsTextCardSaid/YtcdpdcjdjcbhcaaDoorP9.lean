/-
  Several texts in one: GoatsTS, CodeOf, QuietOld, GoatLine, GoatsTI, GoatsText.
-/
import Derived.Test.YtcdpdcjdjcbhcaaDoorP8
import Derived.Test.YtcdpdcjdjcbhcaaDoorP1
import Derived.Lib.Hide
/-
  spec.l02Text, GoatsText by contracts.
-/
namespace Go.Proofs.YtcdpdcjdjcbhcaaDoor
open Go Go.RowKit Go.BigFrame

set_option maxRecDepth 100000 in
set_option maxHeartbeats 8000000 in
theorem l02Text_any (b n c : Nat) (hs : Nat → Nat → Int) (hF : ∀ i, i < n → toldB gMost (hs i) = true) (hn : n ≤ 20) (w : World) (hB : At w b (n * 7) (gts hs)) :
    Calls Tryd.prog 75 #[.slice (some ⟨b, 0, none⟩) n c] w fun e w' => e = .returned (.string (bs (catT (fun k => goatW (hs k)) n))) ∧ Below w.heap.size w w' := by
  have hM : Mem w [(b, n * 7, gts hs)] w := (Mem.nil w).old hB (fun i p h => by simp at h)
  have HL := Lib.hid (show ∀ k, k ≤ n → (catT (fun k => goatW (hs k)) k).length ≤ 20 * 80 from fun k hk => by
    have h1 := catT_len (f := fun k => goatW (hs k)) (m := 80) k (fun j hj => goatW_len (told_most (hF j (by omega))))
    have h2 : k * 80 ≤ 20 * 80 := Nat.mul_le_mul (by omega) (by omega)
    omega)
  have HF := Lib.hid hF
  clear hB hF
  go_enter Tryd.func75, Tryd.ntmps75
  go_wp2
  go_loopw [3, 4] (fun s i wr => ∃ (k : Nat) (l : List UInt8), k ≤ n ∧ i = .int .i64 k ∧ s = .string (bs l) ∧ Hid (l = catT (fun k => goatW (hs k)) k) ∧ Mem w [(b, n * 7, gts hs)] wr) (fun _ i _ => n - (intOf i).toNat)
  case atStart => exact ⟨0, [], by omega, rfl, rfl, Lib.hid rfl, hM⟩
  case round =>
    clear hM
    obtain ⟨k, l, hk, rfl, rfl, hl, hM⟩ := hrel
    by_cases hlt : k < n
    · have l2 : (k : Int) < n := by omega
      have hll := HL.out k hk
      rw [← hl.out] at hll
      have ht := told_most (HF.out k hlt)
      have h0 := ht.x0
      have h1 := ht.x1
      have h2 := ht.x2
      have h3 := ht.x3
      have h4 := ht.rope
      have h5 := ht.eats
      have h6 := ht.like
      have e4 : gt (hs k) 4 = .int .i16 (hs k 4) := rfl
      have e5 : gt (hs k) 5 = .int .i16 (hs k 5) := rfl
      have e6 : gt (hs k) 6 = .int .i8 (hs k 6) := rfl
      have a0 : arr 2 (fun j => gt (hs k) (0 + j)) = arr 2 (sp (hs k 0) (hs k 1)) := arr_congr fun j hj => by
        rcases (show j = 0 ∨ j = 1 by omega) with rfl | rfl <;> rfl
      have a2 : arr 2 (fun j => gt (hs k) (2 + j)) = arr 2 (sp (hs k 2) (hs k 3)) := arr_congr fun j hj => by
        rcases (show j = 0 ∨ j = 1 by omega) with rfl | rfl <;> rfl
      have c5 : IntKind.i64.wrap (hs k 5) = hs k 5 := IntWalk.i64_in _ (by omega)
      have c4 : IntKind.i64.wrap (hs k 4) = hs k 4 := IntWalk.i64_in _ (by omega)
      have lu := spotT_len (x := hs k 0) (y := hs k 1) (by omega) (by omega)
      have lv := numB_len (n := hs k 5) (by omega)
      have HX := Lib.hid (fun (W : World) => l02Spot_any (hs k 0) (hs k 1) ⟨h0.1, by omega⟩ ⟨h1.1, by omega⟩ W)
      have HE := Lib.hid (fun (W : World) => Decimal_any (hs k 5) h5.1 (by omega) W)
      obtain ⟨u, hu⟩ : ∃ u, spotT (hs k 0) (hs k 1) = u := ⟨_, rfl⟩
      obtain ⟨v, hv⟩ : ∃ v, numB (hs k 5) = v := ⟨_, rfl⟩
      rw [hu] at HX lu
      rw [hv] at HE lv
      clear ht
      by_cases hfr : hs k 4 = -1
      · have hteth : tethT (hs k) = [102, 114, 101, 101] := by unfold tethT; rw [hfr]; rfl
        have d4 : decide (hs k 4 < 0) = true := decide_eq_true (by omega)
        have d4' : hs k 4 < 0 := by omega
        have Hfr := Lib.hid hfr
        clear hfr
        rcases (show hs k 6 = 0 ∨ hs k 6 = 1 by omega) with h66 | h66
        · have d6 : ((hs k 6) == 0) = true := by simp; omega
          have d6' : decide (hs k 6 = 0) = true := by simp; omega
          have hlk : likeT (hs k) = [114, 105, 99, 104] := by unfold likeT; rw [d6]; rfl
          have HW : Hid (goatW (hs k) = u ++ [32] ++ ([102, 114, 101, 101] ++ [32]) ++ v ++ [32, 114, 105, 99, 104, 10]) := Lib.hid (by unfold goatW; rw [hu, hv, hteth, hlk]; simp)
          clear hu hv hteth hlk
          have tk_b3 : True := trivial; have tk_r1 : True := trivial; have tk_r2 : True := trivial
          go_wp2_with (first | (have _t := tk_r1; (refine wpList_get rfl _ _ rfl _ _ rfl hM 0 rfl (rowTab _ _ rfl) (by omega) ?_); clear tk_r1) | (have _t := tk_b3; refine wpList_zero rfl _ rfl (zeroTab _ _ _ rfl) hM ?_; intro b3 W' hb3 hM'; clear hM tk_b3; have hM := hM'; clear hM') | (have _t := tk_r2; (refine wpList_lay rfl _ _ _ rfl _ _ rfl _ _ rfl hM 0 rfl (by assumption) (rowTab _ _ rfl) (by omega) ?_ ?_; (first | (intro _ _; rfl) | (intro k _; exact h1 _) | (intro k _; simp only [lay, upd]; (repeat' split) <;> first | exact h1 _ | rfl)); intro W' hM'; clear hM; have hM := hM'; clear hM'; simp only [List.set] at hM); have hM1 := hM.re 0 rfl (gt (hs k)) (fun j hj => lay_goat _ hs k j hj); simp only [List.set_cons_zero] at hM1; clear hM; have hM := hM1; clear hM1; clear tk_r2) | ((refine wpList_get rfl _ _ rfl _ _ rfl hM 0 rfl (rowTab _ 2 rfl) (by omega) ?_); rw [a0]) | (go_at_call 110; (with_reducible refine (HX.out _).mono ?_); rintro e W' ⟨rfl, hb'⟩; have hM' := hM.call hb'; clear hM hb'; have hM := hM'; clear hM') | (go_at_call 94; (with_reducible refine (HE.out _).mono ?_); rintro e W' ⟨rfl, hb'⟩; have hM' := hM.call hb'; clear hM hb'; have hM := hM'; clear hM') | (refine wpList_cat rfl _ _ rfl _ _ rfl rfl (by simp only [List.length_append, List.length_cons, List.length_nil]; omega) ?_) | (refine wpList_get1 rfl _ _ rfl _ _ rfl hM 0 rfl (cellTab _ rfl) (by omega) _ e4 ?_) | (refine wpList_get1 rfl _ _ rfl _ _ rfl hM 0 rfl (cellTab _ rfl) (by omega) _ e5 ?_) | (refine wpList_get1 rfl _ _ rfl _ _ rfl hM 0 rfl (cellTab _ rfl) (by omega) _ e6 ?_))
          go_roundw
          case rel => exact ⟨k + 1, _, by omega, by go_num, rfl, Lib.hid (by rw [catT_succ, HW.out, ← hl.out]; simp), hM.drop⟩
          case measure => simp [intOf]; omega
        · have d6 : ((hs k 6) == 0) = false := by simp; omega
          have d6' : decide (hs k 6 = 0) = false := by simp; omega
          have hlk : likeT (hs k) = [110, 101, 97, 114] := by unfold likeT; rw [d6]; rfl
          have HW : Hid (goatW (hs k) = u ++ [32] ++ ([102, 114, 101, 101] ++ [32]) ++ v ++ [32, 110, 101, 97, 114, 10]) := Lib.hid (by unfold goatW; rw [hu, hv, hteth, hlk]; simp)
          clear hu hv hteth hlk
          have tk_b3 : True := trivial; have tk_r1 : True := trivial; have tk_r2 : True := trivial
          go_wp2_with (first | (have _t := tk_r1; (refine wpList_get rfl _ _ rfl _ _ rfl hM 0 rfl (rowTab _ _ rfl) (by omega) ?_); clear tk_r1) | (have _t := tk_b3; refine wpList_zero rfl _ rfl (zeroTab _ _ _ rfl) hM ?_; intro b3 W' hb3 hM'; clear hM tk_b3; have hM := hM'; clear hM') | (have _t := tk_r2; (refine wpList_lay rfl _ _ _ rfl _ _ rfl _ _ rfl hM 0 rfl (by assumption) (rowTab _ _ rfl) (by omega) ?_ ?_; (first | (intro _ _; rfl) | (intro k _; exact h1 _) | (intro k _; simp only [lay, upd]; (repeat' split) <;> first | exact h1 _ | rfl)); intro W' hM'; clear hM; have hM := hM'; clear hM'; simp only [List.set] at hM); have hM1 := hM.re 0 rfl (gt (hs k)) (fun j hj => lay_goat _ hs k j hj); simp only [List.set_cons_zero] at hM1; clear hM; have hM := hM1; clear hM1; clear tk_r2) | ((refine wpList_get rfl _ _ rfl _ _ rfl hM 0 rfl (rowTab _ 2 rfl) (by omega) ?_); rw [a0]) | (go_at_call 110; (with_reducible refine (HX.out _).mono ?_); rintro e W' ⟨rfl, hb'⟩; have hM' := hM.call hb'; clear hM hb'; have hM := hM'; clear hM') | (go_at_call 94; (with_reducible refine (HE.out _).mono ?_); rintro e W' ⟨rfl, hb'⟩; have hM' := hM.call hb'; clear hM hb'; have hM := hM'; clear hM') | (refine wpList_cat rfl _ _ rfl _ _ rfl rfl (by simp only [List.length_append, List.length_cons, List.length_nil]; omega) ?_) | (refine wpList_get1 rfl _ _ rfl _ _ rfl hM 0 rfl (cellTab _ rfl) (by omega) _ e4 ?_) | (refine wpList_get1 rfl _ _ rfl _ _ rfl hM 0 rfl (cellTab _ rfl) (by omega) _ e5 ?_) | (refine wpList_get1 rfl _ _ rfl _ _ rfl hM 0 rfl (cellTab _ rfl) (by omega) _ e6 ?_))
          go_roundw
          case rel => exact ⟨k + 1, _, by omega, by go_num, rfl, Lib.hid (by rw [catT_succ, HW.out, ← hl.out]; simp), hM.drop⟩
          case measure => simp [intOf]; omega
      · have hteth : tethT (hs k) = spotT (hs k 2) (hs k 3) ++ [126] ++ numB (hs k 4) := by unfold tethT; rw [if_neg (by simpa using hfr)]
        have d4 : decide (hs k 4 < 0) = false := decide_eq_false (by omega)
        have d4' : ¬ hs k 4 < 0 := by omega
        have ls := spotT_len (x := hs k 2) (y := hs k 3) (by omega) (by omega)
        have lr := numB_len (n := hs k 4) (by omega)
        have HSt := Lib.hid (fun (W : World) => l02Spot_any (hs k 2) (hs k 3) ⟨h2.1, by omega⟩ ⟨h3.1, by omega⟩ W)
        have HRo := Lib.hid (fun (W : World) => Decimal_any (hs k 4) (by omega) (by omega) W)
        obtain ⟨s, hs2⟩ : ∃ u, spotT (hs k 2) (hs k 3) = u := ⟨_, rfl⟩
        obtain ⟨r, hr⟩ : ∃ v, numB (hs k 4) = v := ⟨_, rfl⟩
        rw [hs2] at HSt ls hteth
        rw [hr] at HRo lr hteth
        clear hs2 hr hfr
        rcases (show hs k 6 = 0 ∨ hs k 6 = 1 by omega) with h66 | h66
        · have d6 : ((hs k 6) == 0) = true := by simp; omega
          have d6' : decide (hs k 6 = 0) = true := by simp; omega
          have hlk : likeT (hs k) = [114, 105, 99, 104] := by unfold likeT; rw [d6]; rfl
          have HW : Hid (goatW (hs k) = u ++ [32] ++ (s ++ [126] ++ r ++ [32]) ++ v ++ [32, 114, 105, 99, 104, 10]) := Lib.hid (by unfold goatW; rw [hu, hv, hteth, hlk]; simp)
          clear hu hv hteth hlk
          have tk_b3 : True := trivial; have tk_r1 : True := trivial; have tk_r2 : True := trivial
          go_wp2_with (first | (have _t := tk_r1; (refine wpList_get rfl _ _ rfl _ _ rfl hM 0 rfl (rowTab _ _ rfl) (by omega) ?_); clear tk_r1) | (have _t := tk_b3; refine wpList_zero rfl _ rfl (zeroTab _ _ _ rfl) hM ?_; intro b3 W' hb3 hM'; clear hM tk_b3; have hM := hM'; clear hM') | (have _t := tk_r2; (refine wpList_lay rfl _ _ _ rfl _ _ rfl _ _ rfl hM 0 rfl (by assumption) (rowTab _ _ rfl) (by omega) ?_ ?_; (first | (intro _ _; rfl) | (intro k _; exact h1 _) | (intro k _; simp only [lay, upd]; (repeat' split) <;> first | exact h1 _ | rfl)); intro W' hM'; clear hM; have hM := hM'; clear hM'; simp only [List.set] at hM); have hM1 := hM.re 0 rfl (gt (hs k)) (fun j hj => lay_goat _ hs k j hj); simp only [List.set_cons_zero] at hM1; clear hM; have hM := hM1; clear hM1; clear tk_r2) | ((refine wpList_get rfl _ _ rfl _ _ rfl hM 0 rfl (rowTab _ 2 rfl) (by omega) ?_); rw [a0]) | (go_at_call 110; (with_reducible refine (HX.out _).mono ?_); rintro e W' ⟨rfl, hb'⟩; have hM' := hM.call hb'; clear hM hb'; have hM := hM'; clear hM') | (go_at_call 94; (with_reducible refine (HE.out _).mono ?_); rintro e W' ⟨rfl, hb'⟩; have hM' := hM.call hb'; clear hM hb'; have hM := hM'; clear hM') | (refine wpList_cat rfl _ _ rfl _ _ rfl rfl (by simp only [List.length_append, List.length_cons, List.length_nil]; omega) ?_) | (refine wpList_get1 rfl _ _ rfl _ _ rfl hM 0 rfl (cellTab _ rfl) (by omega) _ e4 ?_) | (refine wpList_get1 rfl _ _ rfl _ _ rfl hM 0 rfl (cellTab _ rfl) (by omega) _ e5 ?_) | (refine wpList_get1 rfl _ _ rfl _ _ rfl hM 0 rfl (cellTab _ rfl) (by omega) _ e6 ?_))
          ((try simp only [Act.put, List.setIfInBounds_toArray, List.set_cons_succ, List.set_cons_zero]); refine wp_region_mem (by kernel_rfl) (by kernel_rfl) hM ?_; clear hM; (repeat (first | go_big_quiet_skip | (go_big_quiet_want; first | (refine quiet_get1 _ _ rfl _ _ rfl 0 rfl (cellTab _ rfl) (by omega) _ (e4) ?_; (simp only [Act.put, List.setIfInBounds_toArray, List.set_cons_succ, List.set_cons_zero]); go_big_quiet_on) | (refine quiet_get _ _ rfl _ _ rfl 0 rfl (rowTab _ 2 rfl) (by omega) ?_; rw [a2]; (simp only [Act.put, List.setIfInBounds_toArray, List.set_cons_succ, List.set_cons_zero]); go_big_quiet_on) | (refine quiet_call ?_; apply Exists.intro; apply Exists.intro; apply Exists.intro; refine ⟨fun W => ?_, fun W hM => ?_, ?_⟩; (go_simp; exact ⟨rfl, rfl⟩); (with_reducible exact HSt.out W); (simp only [Act.put, List.setIfInBounds_toArray, List.set_cons_succ, List.set_cons_zero]); go_big_quiet_on) | (refine quiet_call ?_; apply Exists.intro; apply Exists.intro; apply Exists.intro; refine ⟨fun W => ?_, fun W hM => ?_, ?_⟩; (go_simp; exact ⟨rfl, rfl⟩); (with_reducible exact HRo.out W); (simp only [Act.put, List.setIfInBounds_toArray, List.set_cons_succ, List.set_cons_zero]); go_big_quiet_on) | (refine quiet_val ⟨_, fun W => cat_op _ _ rfl _ _ rfl rfl (by simp only [List.length_append, List.length_cons, List.length_nil]; omega) W, ?_⟩; (simp only [Act.put, List.setIfInBounds_toArray, List.set_cons_succ, List.set_cons_zero]); go_big_quiet_on) | (refine quiet_val ?_; apply Exists.intro; refine ⟨fun W => ?_, ?_⟩; (go_simp; (try simp only [c4, if_true, Bool.false_eq_true, if_false]); rfl); (simp only [Act.put, List.setIfInBounds_toArray, List.set_cons_succ, List.set_cons_zero]); go_big_quiet_on)))); (with_reducible refine wpQuiet_nil ?_); intro W' hM)
          go_wp2_with (first | (have _t := tk_r1; (refine wpList_get rfl _ _ rfl _ _ rfl hM 0 rfl (rowTab _ _ rfl) (by omega) ?_); clear tk_r1) | (have _t := tk_b3; refine wpList_zero rfl _ rfl (zeroTab _ _ _ rfl) hM ?_; intro b3 W' hb3 hM'; clear hM tk_b3; have hM := hM'; clear hM') | (have _t := tk_r2; (refine wpList_lay rfl _ _ _ rfl _ _ rfl _ _ rfl hM 0 rfl (by assumption) (rowTab _ _ rfl) (by omega) ?_ ?_; (first | (intro _ _; rfl) | (intro k _; exact h1 _) | (intro k _; simp only [lay, upd]; (repeat' split) <;> first | exact h1 _ | rfl)); intro W' hM'; clear hM; have hM := hM'; clear hM'; simp only [List.set] at hM); have hM1 := hM.re 0 rfl (gt (hs k)) (fun j hj => lay_goat _ hs k j hj); simp only [List.set_cons_zero] at hM1; clear hM; have hM := hM1; clear hM1; clear tk_r2) | ((refine wpList_get rfl _ _ rfl _ _ rfl hM 0 rfl (rowTab _ 2 rfl) (by omega) ?_); rw [a0]) | (go_at_call 110; (with_reducible refine (HX.out _).mono ?_); rintro e W' ⟨rfl, hb'⟩; have hM' := hM.call hb'; clear hM hb'; have hM := hM'; clear hM') | (go_at_call 94; (with_reducible refine (HE.out _).mono ?_); rintro e W' ⟨rfl, hb'⟩; have hM' := hM.call hb'; clear hM hb'; have hM := hM'; clear hM') | (refine wpList_cat rfl _ _ rfl _ _ rfl rfl (by simp only [List.length_append, List.length_cons, List.length_nil]; omega) ?_) | (refine wpList_get1 rfl _ _ rfl _ _ rfl hM 0 rfl (cellTab _ rfl) (by omega) _ e4 ?_) | (refine wpList_get1 rfl _ _ rfl _ _ rfl hM 0 rfl (cellTab _ rfl) (by omega) _ e5 ?_) | (refine wpList_get1 rfl _ _ rfl _ _ rfl hM 0 rfl (cellTab _ rfl) (by omega) _ e6 ?_))
          go_roundw
          case rel => exact ⟨k + 1, _, by omega, by go_num, rfl, Lib.hid (by rw [catT_succ, HW.out, ← hl.out]; simp), hM.drop⟩
          case measure => simp [intOf]; omega
        · have d6 : ((hs k 6) == 0) = false := by simp; omega
          have d6' : decide (hs k 6 = 0) = false := by simp; omega
          have hlk : likeT (hs k) = [110, 101, 97, 114] := by unfold likeT; rw [d6]; rfl
          have HW : Hid (goatW (hs k) = u ++ [32] ++ (s ++ [126] ++ r ++ [32]) ++ v ++ [32, 110, 101, 97, 114, 10]) := Lib.hid (by unfold goatW; rw [hu, hv, hteth, hlk]; simp)
          clear hu hv hteth hlk
          have tk_b3 : True := trivial; have tk_r1 : True := trivial; have tk_r2 : True := trivial
          go_wp2_with (first | (have _t := tk_r1; (refine wpList_get rfl _ _ rfl _ _ rfl hM 0 rfl (rowTab _ _ rfl) (by omega) ?_); clear tk_r1) | (have _t := tk_b3; refine wpList_zero rfl _ rfl (zeroTab _ _ _ rfl) hM ?_; intro b3 W' hb3 hM'; clear hM tk_b3; have hM := hM'; clear hM') | (have _t := tk_r2; (refine wpList_lay rfl _ _ _ rfl _ _ rfl _ _ rfl hM 0 rfl (by assumption) (rowTab _ _ rfl) (by omega) ?_ ?_; (first | (intro _ _; rfl) | (intro k _; exact h1 _) | (intro k _; simp only [lay, upd]; (repeat' split) <;> first | exact h1 _ | rfl)); intro W' hM'; clear hM; have hM := hM'; clear hM'; simp only [List.set] at hM); have hM1 := hM.re 0 rfl (gt (hs k)) (fun j hj => lay_goat _ hs k j hj); simp only [List.set_cons_zero] at hM1; clear hM; have hM := hM1; clear hM1; clear tk_r2) | ((refine wpList_get rfl _ _ rfl _ _ rfl hM 0 rfl (rowTab _ 2 rfl) (by omega) ?_); rw [a0]) | (go_at_call 110; (with_reducible refine (HX.out _).mono ?_); rintro e W' ⟨rfl, hb'⟩; have hM' := hM.call hb'; clear hM hb'; have hM := hM'; clear hM') | (go_at_call 94; (with_reducible refine (HE.out _).mono ?_); rintro e W' ⟨rfl, hb'⟩; have hM' := hM.call hb'; clear hM hb'; have hM := hM'; clear hM') | (refine wpList_cat rfl _ _ rfl _ _ rfl rfl (by simp only [List.length_append, List.length_cons, List.length_nil]; omega) ?_) | (refine wpList_get1 rfl _ _ rfl _ _ rfl hM 0 rfl (cellTab _ rfl) (by omega) _ e4 ?_) | (refine wpList_get1 rfl _ _ rfl _ _ rfl hM 0 rfl (cellTab _ rfl) (by omega) _ e5 ?_) | (refine wpList_get1 rfl _ _ rfl _ _ rfl hM 0 rfl (cellTab _ rfl) (by omega) _ e6 ?_))
          ((try simp only [Act.put, List.setIfInBounds_toArray, List.set_cons_succ, List.set_cons_zero]); refine wp_region_mem (by kernel_rfl) (by kernel_rfl) hM ?_; clear hM; (repeat (first | go_big_quiet_skip | (go_big_quiet_want; first | (refine quiet_get1 _ _ rfl _ _ rfl 0 rfl (cellTab _ rfl) (by omega) _ (e4) ?_; (simp only [Act.put, List.setIfInBounds_toArray, List.set_cons_succ, List.set_cons_zero]); go_big_quiet_on) | (refine quiet_get _ _ rfl _ _ rfl 0 rfl (rowTab _ 2 rfl) (by omega) ?_; rw [a2]; (simp only [Act.put, List.setIfInBounds_toArray, List.set_cons_succ, List.set_cons_zero]); go_big_quiet_on) | (refine quiet_call ?_; apply Exists.intro; apply Exists.intro; apply Exists.intro; refine ⟨fun W => ?_, fun W hM => ?_, ?_⟩; (go_simp; exact ⟨rfl, rfl⟩); (with_reducible exact HSt.out W); (simp only [Act.put, List.setIfInBounds_toArray, List.set_cons_succ, List.set_cons_zero]); go_big_quiet_on) | (refine quiet_call ?_; apply Exists.intro; apply Exists.intro; apply Exists.intro; refine ⟨fun W => ?_, fun W hM => ?_, ?_⟩; (go_simp; exact ⟨rfl, rfl⟩); (with_reducible exact HRo.out W); (simp only [Act.put, List.setIfInBounds_toArray, List.set_cons_succ, List.set_cons_zero]); go_big_quiet_on) | (refine quiet_val ⟨_, fun W => cat_op _ _ rfl _ _ rfl rfl (by simp only [List.length_append, List.length_cons, List.length_nil]; omega) W, ?_⟩; (simp only [Act.put, List.setIfInBounds_toArray, List.set_cons_succ, List.set_cons_zero]); go_big_quiet_on) | (refine quiet_val ?_; apply Exists.intro; refine ⟨fun W => ?_, ?_⟩; (go_simp; (try simp only [c4, if_true, Bool.false_eq_true, if_false]); rfl); (simp only [Act.put, List.setIfInBounds_toArray, List.set_cons_succ, List.set_cons_zero]); go_big_quiet_on)))); (with_reducible refine wpQuiet_nil ?_); intro W' hM)
          go_wp2_with (first | (have _t := tk_r1; (refine wpList_get rfl _ _ rfl _ _ rfl hM 0 rfl (rowTab _ _ rfl) (by omega) ?_); clear tk_r1) | (have _t := tk_b3; refine wpList_zero rfl _ rfl (zeroTab _ _ _ rfl) hM ?_; intro b3 W' hb3 hM'; clear hM tk_b3; have hM := hM'; clear hM') | (have _t := tk_r2; (refine wpList_lay rfl _ _ _ rfl _ _ rfl _ _ rfl hM 0 rfl (by assumption) (rowTab _ _ rfl) (by omega) ?_ ?_; (first | (intro _ _; rfl) | (intro k _; exact h1 _) | (intro k _; simp only [lay, upd]; (repeat' split) <;> first | exact h1 _ | rfl)); intro W' hM'; clear hM; have hM := hM'; clear hM'; simp only [List.set] at hM); have hM1 := hM.re 0 rfl (gt (hs k)) (fun j hj => lay_goat _ hs k j hj); simp only [List.set_cons_zero] at hM1; clear hM; have hM := hM1; clear hM1; clear tk_r2) | ((refine wpList_get rfl _ _ rfl _ _ rfl hM 0 rfl (rowTab _ 2 rfl) (by omega) ?_); rw [a0]) | (go_at_call 110; (with_reducible refine (HX.out _).mono ?_); rintro e W' ⟨rfl, hb'⟩; have hM' := hM.call hb'; clear hM hb'; have hM := hM'; clear hM') | (go_at_call 94; (with_reducible refine (HE.out _).mono ?_); rintro e W' ⟨rfl, hb'⟩; have hM' := hM.call hb'; clear hM hb'; have hM := hM'; clear hM') | (refine wpList_cat rfl _ _ rfl _ _ rfl rfl (by simp only [List.length_append, List.length_cons, List.length_nil]; omega) ?_) | (refine wpList_get1 rfl _ _ rfl _ _ rfl hM 0 rfl (cellTab _ rfl) (by omega) _ e4 ?_) | (refine wpList_get1 rfl _ _ rfl _ _ rfl hM 0 rfl (cellTab _ rfl) (by omega) _ e5 ?_) | (refine wpList_get1 rfl _ _ rfl _ _ rfl hM 0 rfl (cellTab _ rfl) (by omega) _ e6 ?_))
          go_roundw
          case rel => exact ⟨k + 1, _, by omega, by go_num, rfl, Lib.hid (by rw [catT_succ, HW.out, ← hl.out]; simp), hM.drop⟩
          case measure => simp [intOf]; omega
    · obtain rfl : k = n := by omega
      go_wp2
      go_ret
      exact ⟨ret_bs hl.out, hM.below⟩

set_option maxRecDepth 100000 in
set_option maxHeartbeats 1000000 in
theorem specGoatsText_any (b n c : Nat) (hs : Nat → Nat → Int) (hF : ∀ i, i < n → FitsG (hs i)) (hn : n ≤ 1048576) (w : World) (hB : At w b (n * 7) (gts hs)) :
    Calls Tryd.prog 32 #[.slice (some ⟨b, 0, none⟩) n c] w fun e w' => e = .returned (.string (bs (goatsT n hs))) ∧ Below w.heap.size w w' := by
  have hM : Mem w [(b, n * 7, gts hs)] w := (Mem.nil w).old hB (fun i p h => by simp at h)
  have HF := Lib.hid hF
  clear hF hB
  cases hz : goatsA n hs
  · have Hz := Lib.hid hz
    have Hp := Lib.hid (goatsT_no hz)
    clear hz
    go_enter Tryd.func32, Tryd.ntmps32
    go_wp2_with (first | (go_at_call 74; (with_reducible refine (l02Told_any b n c hs HF.out hn _ (hM.ats 0 _ _ _ rfl)).mono ?_); rintro e W' ⟨rfl, hb'⟩; rw [Hz.out]; have hM' := hM.call hb'; clear hM hb'; have hM := hM'; clear hM'))
    go_ret
    exact ⟨ret_bs Hp.out.symm, hM.below⟩
  · have Hz := Lib.hid hz
    have Hp := Lib.hid (goatsT_yes hz)
    have hA := goatsA_told hz
    have h20 := hA.1
    have HA := Lib.hid hA.2
    clear hz hA
    go_enter Tryd.func32, Tryd.ntmps32
    go_wp2_with (first | (go_at_call 74; (with_reducible refine (l02Told_any b n c hs HF.out hn _ (hM.ats 0 _ _ _ rfl)).mono ?_); rintro e W' ⟨rfl, hb'⟩; rw [Hz.out]; have hM' := hM.call hb'; clear hM hb'; have hM := hM'; clear hM') | (go_at_call 75; refine (l02Text_any b n c hs HA.out h20 _ (hM.ats 0 _ _ _ rfl)).mono ?_; rintro e W' ⟨rfl, hb'⟩; have hM' := hM.call hb'; clear hM hb'; have hM := hM'; clear hM'))
    go_ret
    exact ⟨ret_bs Hp.out.symm, hM.below⟩
end Go.Proofs.YtcdpdcjdjcbhcaaDoor

/-
  impl.codeOf by contract; what checkCells hands back.
-/
namespace Go.Proofs.YtcdpdcjdjcbhcaaDoor
open Go Go.RowKit Go.BigFrame

/-- The code of the k-th error. -/
def codeK (k : Nat) : Int :=
  match k with
  | 0 => 1
  | _ => 2

end Go.Proofs.YtcdpdcjdjcbhcaaDoor

/-
  A load, in a drawn region, of a cell that lies below the base: an error's variable.
-/
namespace Go.Proofs.YtcdpdcjdjcbhcaaDoor
open Go Go.RowKit Go.BigFrame

section
variable {P : Program} {o : Oper} {a : Act} {w : Base} {L : Blocks} {K : Act → Prop}
/-- A load of a cell that every world of the class holds. -/
theorem quiet_old (ty : TypeId) (x : Operand) (ho : o.op = .load ty x) (b off : Nat) (hx : a.eval x = .pointer (some ⟨b, off, none⟩)) (hT : CellT P ty) (v : Value) (hc : ∀ W, Mem w L W → W.cell? ⟨b, off, none⟩ = some v)
    (h : K (a.put o.dst v)) : o.quiet P a (Mem w L) K := by
  refine ⟨v, fun W hM => ?_, h⟩
  obtain ⟨⟨d, hu, hd⟩, _⟩ := hT
  have hagg : (isAgg ty).run P W = .ok false W := by
    unfold isAgg
    rw [Sem.run_bind, run_underlying hu W]
    cases d <;> simp_all [TypeDesc.isRow]
  have hl : (load ⟨b, off, none⟩).run P W = .ok v W := by simp [load, Sem.run, hc W hM]
  unfold Oper.quietAt execOp
  simp only [ho, hx, Instr.loadAt, Instr.sureAddr, loadVar, Sem.run_bind, Sem.run_pure, Result.andThen_ok, hagg, Bool.false_eq_true, if_false, hl]
  exact ⟨rfl, rfl⟩
end

end Go.Proofs.YtcdpdcjdjcbhcaaDoor

/-
  (impl.Goat).line by contract.
-/
namespace Go.Proofs.YtcdpdcjdjcbhcaaDoor
open Go Go.RowKit Go.BigFrame

set_option maxRecDepth 100000 in
set_option maxHeartbeats 2000000 in
theorem goatLine_any (h : Nat → Int) (ht : ToldM h) (w : World) (hT : TabP w) (hL : TabL w) :
    Calls Tryd.prog 78 #[.agg (arr 7 (gt h))] w fun e w' => e = .returned (.string (bs (goatW h))) ∧ Below w.heap.size w w' := by
  have hM := Mem.nil w
  have h0 := ht.x0
  have h1 := ht.x1
  have h5 := ht.eats
  have h6 := ht.like
  have HT := Lib.hid hT
  have HL := Lib.hid hL
  have eg : arr 7 (fun j => gt h (0 + j)) = arr 7 (gt h) := arr_congr fun j hj => by rw [Nat.zero_add]
  have e5 : gt h 5 = .int .i16 (h 5) := rfl
  have e0 : arr 2 (fun j => gt h (0 + j)) = arr 2 (sp (h 0) (h 1)) := arr_congr fun j hj => by
    rcases (show j = 0 ∨ j = 1 by omega) with rfl | rfl <;> rfl
  have c5 : IntKind.i64.wrap (h 5) = h 5 := IntWalk.i64_in _ (by omega)
  have lx := spotT_len (x := h 0) (y := h 1) (by omega) (by omega)
  have ly := numB_len (n := h 5) (by omega)
  have lt := tethT_len ht
  have HX := Lib.hid (fun (W : World) (hT : TabP W) => spotText_any (h 0) (h 1) ⟨h0.1, by omega⟩ ⟨h1.1, by omega⟩ W hT)
  have HY := Lib.hid (fun (W : World) (hT : TabP W) => fmt_any (h 5) (by omega) (by omega) W hT)
  have HTe := Lib.hid (fun (W : World) (hT : TabP W) => tetherText_any h ht W hT)
  obtain ⟨k, hk⟩ : ∃ k : Nat, h 6 = k := ⟨(h 6).toNat, by omega⟩
  have hk2 : k < 2 := by omega
  have lk : (k : Int) < 2 := by omega
  have lk0 : (0 : Int) ≤ k := by omega
  have e6 : gt h 6 = .int .i8 (k : Int) := by rw [← hk]; rfl
  have hlike : likeT h = likeN k := by
    unfold likeT likeN
    rw [hk]
    rcases (show k = 0 ∨ k = 1 by omega) with rfl | rfl <;> rfl
  have ll := likeT_len (h := h)
  rw [hlike] at ll
  have HC := Lib.hid (fun (W : World) (hb : Below w.heap.size w W) => (HL.out.below hb) k hk2)
  obtain ⟨u, hu⟩ : ∃ u, spotT (h 0) (h 1) = u := ⟨_, rfl⟩
  obtain ⟨v, hv⟩ : ∃ v, numB (h 5) = v := ⟨_, rfl⟩
  obtain ⟨s, hs⟩ : ∃ s, tethT h = s := ⟨_, rfl⟩
  obtain ⟨q, hq⟩ : ∃ q, likeN k = q := ⟨_, rfl⟩
  have hp : goatW h = u ++ [32] ++ s ++ [32] ++ v ++ [32] ++ q ++ [10] := by unfold goatW; rw [hu, hv, hs, hlike, hq]
  rw [hp]
  rw [hu] at HX lx
  rw [hv] at HY ly
  rw [hs] at HTe lt
  rw [hq] at HC ll
  clear hu hv hs hq hp hlike hT hL ht hk
  have tk_b1 : True := trivial
  go_enter Tryd.func78, Tryd.ntmps78
  go_wp2_with (first | (have _t := tk_b1; refine wpList_box rfl _ _ rfl _ _ rfl hM ?_; intro b1 W' hb1 hM'; clear hM tk_b1; have hM := hM'; clear hM') | (refine wpList_get1 rfl _ _ rfl _ _ rfl hM 0 rfl (cellTab _ rfl) (by omega) _ e5 ?_) | (go_at_call 52; (with_reducible refine (HY.out _ (HT.out.below hM.below)).mono ?_); rintro e W' ⟨rfl, hb'⟩; have hM' := hM.call hb'; clear hM hb'; have hM := hM'; clear hM'))
  ((try simp only [Act.put, List.setIfInBounds_toArray, List.set_cons_succ, List.set_cons_zero]); refine wp_region_mem (by kernel_rfl) (by kernel_rfl) hM ?_; clear hM; (repeat (first | go_big_quiet_skip | (go_big_quiet_want; first | (refine quiet_get1 _ _ rfl _ _ rfl 0 rfl (cellTab _ rfl) (by omega) _ (e6) ?_; (simp only [Act.put, List.setIfInBounds_toArray, List.set_cons_succ, List.set_cons_zero]); go_big_quiet_on) | (refine quiet_get _ _ rfl _ _ rfl 0 rfl (rowTab _ 2 rfl) (by omega) ?_; rw [e0]; (simp only [Act.put, List.setIfInBounds_toArray, List.set_cons_succ, List.set_cons_zero]); go_big_quiet_on) | (refine quiet_get _ _ rfl _ _ rfl 0 rfl (rowTab _ 7 rfl) (by omega) ?_; rw [eg]; (simp only [Act.put, List.setIfInBounds_toArray, List.set_cons_succ, List.set_cons_zero]); go_big_quiet_on) | (refine quiet_old _ _ rfl _ _ rfl (cellTab _ rfl) (.string (bs q)) (fun W hM2 => HC.out W hM2.below) ?_; (simp only [Act.put, List.setIfInBounds_toArray, List.set_cons_succ, List.set_cons_zero]); go_big_quiet_on) | (refine quiet_call ?_; apply Exists.intro; apply Exists.intro; apply Exists.intro; refine ⟨fun W => ?_, fun W hM => ?_, ?_⟩; (go_simp; exact ⟨rfl, rfl⟩); (with_reducible exact HX.out W (HT.out.below hM.below)); (simp only [Act.put, List.setIfInBounds_toArray, List.set_cons_succ, List.set_cons_zero]); go_big_quiet_on) | (refine quiet_call ?_; apply Exists.intro; apply Exists.intro; apply Exists.intro; refine ⟨fun W => ?_, fun W hM => ?_, ?_⟩; (go_simp; exact ⟨rfl, rfl⟩); (with_reducible exact HTe.out W (HT.out.below hM.below)); (simp only [Act.put, List.setIfInBounds_toArray, List.set_cons_succ, List.set_cons_zero]); go_big_quiet_on) | (refine quiet_val ⟨_, fun W => cat_op _ _ rfl _ _ rfl rfl (by simp only [List.length_append, List.length_cons, List.length_nil]; omega) W, ?_⟩; (simp only [Act.put, List.setIfInBounds_toArray, List.set_cons_succ, List.set_cons_zero]); go_big_quiet_on) | (refine quiet_val ?_; apply Exists.intro; refine ⟨fun W => ?_, ?_⟩; (go_simp; (try simp only [lk, lk0, if_true, Bool.false_eq_true, if_false]); rfl); (simp only [Act.put, List.setIfInBounds_toArray, List.set_cons_succ, List.set_cons_zero]); go_big_quiet_on)))); (with_reducible refine wpQuiet_nil ?_); intro W' hM)
  go_wp2
  go_ret
  exact ⟨ret_bs (by simp), hM.below⟩
end Go.Proofs.YtcdpdcjdjcbhcaaDoor

/-
  impl.haveText, GoatsText by contracts.
-/
namespace Go.Proofs.YtcdpdcjdjcbhcaaDoor
open Go Go.RowKit Go.BigFrame

set_option maxRecDepth 100000 in
set_option maxHeartbeats 4000000 in
theorem haveText_any (b n c : Nat) (hs : Nat → Nat → Int) (hF : ∀ i, i < n → FitsG (hs i)) (hn : n ≤ 1048576) (w : World) (hB : At w b (n * 7) (gts hs)) :
    Calls Tryd.prog 77 #[.slice (some ⟨b, 0, none⟩) n c] w fun e w' => e = .returned (.bool (goatsA n hs)) ∧ Below w.heap.size w w' := by
  have hM : Mem w [(b, n * 7, gts hs)] w := (Mem.nil w).old hB (fun i p h => by simp at h)
  have HF := Lib.hid hF
  clear hB hF
  by_cases h12 : 20 < n
  · have d1 : decide ((n : Int) > 20) = true := decide_eq_true (by omega)
    have d2 : (20 : Int) < n := by omega
    have Hp := Lib.hid (goatsA_many (hs := hs) h12)
    go_enter Tryd.func77, Tryd.ntmps77
    go_wp2
    go_ret
    exact ⟨ret_bool Hp.out.symm, hM.below⟩
  have d1 : decide ((n : Int) > 20) = false := decide_eq_false (by omega)
  have d2 : ¬ (20 : Int) < n := by omega
  have tk_b4 : True := trivial; have tk_y4 : True := trivial
  go_enter Tryd.func77, Tryd.ntmps77
  go_wp2_with (first | (refine wpList_greatest rfl _ _ rfl rfl rfl ?_) | (have _t := tk_b4; refine wpList_zero rfl _ rfl (zeroTab _ _ _ rfl) hM ?_; intro b4 W' hb4 hM'; clear hM tk_b4; have hM := hM'; clear hM') | (have _t := tk_y4; (refine wpList_lay rfl _ _ _ rfl _ _ rfl _ _ rfl hM 0 rfl (by assumption) (rowTab _ _ rfl) (by omega) ?_ ?_; (first | (intro _ _; rfl) | (intro k _; exact h1 _) | (intro k _; simp only [lay, upd]; (repeat' split) <;> first | exact h1 _ | rfl)); intro W' hM'; clear hM; have hM := hM'; clear hM'; simp only [List.set] at hM); clear tk_y4))
  have hM1 := hM.re 0 rfl (pas gMost) (fun j hj => by simp [lay, hj])
  simp only [List.set_cons_zero] at hM1
  clear hM
  have hM := hM1
  clear hM1
  go_loopw [12] (fun i wr => ∃ k : Nat, k ≤ n ∧ i = .int .i64 k ∧ Hid (∀ j, j < k → toldB gMost (hs j) = true) ∧ Mem w [(b4, 122, pas gMost), (b, n * 7, gts hs)] wr) (fun i _ => n - (intOf i).toNat)
  case atStart => exact ⟨0, by omega, rfl, Lib.hid (fun j hj => absurd hj (by omega)), hM⟩
  case round =>
    clear hM
    obtain ⟨k, hk, rfl, hall, hM⟩ := hrel
    by_cases hlt : k < n
    · have l2 : (k : Int) < n := by omega
      have el : arr 7 (fun j => gt (hs k) (0 + j)) = arr 7 (gt (hs k)) := arr_congr fun j hj => by rw [Nat.zero_add]
      have eg : arr 122 (fun j => pas gMost (0 + j)) = arr 122 (pas gMost) := arr_congr fun j hj => by rw [Nat.zero_add]
      have HI := Lib.hid (fun (W : World) => isToldFor_any gMost (hs k) (HF.out k hlt) W)
      obtain ⟨q, hq⟩ : ∃ q, toldB gMost (hs k) = q := ⟨_, rfl⟩
      rw [hq] at HI
      have Hq := Lib.hid hq
      clear hq
      cases q
      all_goals
        have tk_b3 : True := trivial; have tk_r1 : True := trivial; have tk_r2 : True := trivial; have tk_r3 : True := trivial; have tk_r4 : True := trivial
        go_wp2_with (first | (have _t := tk_r1; (refine wpList_get rfl _ _ rfl _ _ rfl hM 1 rfl (rowTab _ _ rfl) (by omega) ?_); clear tk_r1) | (have _t := tk_b3; refine wpList_zero rfl _ rfl (zeroTab _ _ _ rfl) hM ?_; intro b3 W' hb3 hM'; clear hM tk_b3; have hM := hM'; clear hM') | (have _t := tk_r2; (refine wpList_lay rfl _ _ _ rfl _ _ rfl _ _ rfl hM 0 rfl (by assumption) (rowTab _ _ rfl) (by omega) ?_ ?_; (first | (intro _ _; rfl) | (intro k _; exact h1 _) | (intro k _; simp only [lay, upd]; (repeat' split) <;> first | exact h1 _ | rfl)); intro W' hM'; clear hM; have hM := hM'; clear hM'; simp only [List.set] at hM); have hM1 := hM.re 0 rfl (gt (hs k)) (fun j hj => lay_goat _ hs k j hj); simp only [List.set_cons_zero] at hM1; clear hM; have hM := hM1; clear hM1; clear tk_r2) | (have _t := tk_r3; (refine wpList_get rfl _ _ rfl _ _ rfl hM 0 rfl (rowTab _ _ rfl) (by omega) ?_); rw [el]; clear tk_r3) | (have _t := tk_r4; (refine wpList_get rfl _ _ rfl _ _ rfl hM 1 rfl (rowTab _ _ rfl) (by omega) ?_); rw [eg]; clear tk_r4) | (go_at_call 111; (with_reducible refine (HI.out _).mono ?_); rintro e W' ⟨rfl, hb'⟩; have hM' := hM.call hb'; clear hM hb'; have hM := hM'; clear hM'))
      · go_ret
        exact ⟨ret_bool (goatsA_no hlt Hq.out).symm, hM.below⟩
      · go_roundw
        case rel => exact ⟨k + 1, by omega, by go_num, Lib.hid (fun j hj => by
          by_cases e : j = k
          · rw [e]; exact Hq.out
          · exact hall.out j (by omega)), hM.drop⟩
        case measure => simp [intOf]; omega
    · obtain rfl : k = n := by omega
      have Hp := Lib.hid (goatsA_all hall.out)
      go_wp2
      go_ret
      exact ⟨ret_bool (by rw [Hp.out]; exact (decide_eq_true (by omega)).symm), hM.below⟩

set_option maxRecDepth 100000 in
set_option maxHeartbeats 4000000 in
theorem implGoatsText_any (b n c : Nat) (hs : Nat → Nat → Int) (hF : ∀ i, i < n → FitsG (hs i)) (hn : n ≤ 1048576) (w : World) (hT : TabP w ∧ TabL w) (hB : At w b (n * 7) (gts hs)) :
    Calls Tryd.prog 34 #[.slice (some ⟨b, 0, none⟩) n c] w fun e w' => e = .returned (.string (bs (goatsT n hs))) ∧ Below w.heap.size w w' := by
  have hM : Mem w [(b, n * 7, gts hs)] w := (Mem.nil w).old hB (fun i p h => by simp at h)
  have HT := Lib.hid hT
  have HH := Lib.hid (fun (W : World) (hB : At W b (n * 7) (gts hs)) => haveText_any b n c hs hF hn W hB)
  obtain ⟨q, hq⟩ : ∃ q, goatsA n hs = q := ⟨_, rfl⟩
  rw [hq] at HH
  clear hB hF hT
  cases q
  · have Hp := Lib.hid (goatsT_no hq)
    clear hq
    go_enter Tryd.func34, Tryd.ntmps34
    go_wp2_with (first | (go_at_call 77; (with_reducible refine (HH.out _ (hM.ats 0 _ _ _ rfl)).mono ?_); rintro e W' ⟨rfl, hb'⟩; have hM' := hM.call hb'; clear hM hb'; have hM := hM'; clear hM'))
    go_ret
    exact ⟨ret_bs Hp.out.symm, hM.below⟩
  have Hp := Lib.hid (goatsT_yes hq)
  have hA := goatsA_told hq
  have h20 := hA.1
  have HA := Lib.hid hA.2
  clear hq hA
  have HL := Lib.hid (show ∀ k, k ≤ n → (catT (fun k => goatW (hs k)) k).length ≤ 20 * 80 from fun k hk => by
    have h1 := catT_len (f := fun k => goatW (hs k)) (m := 80) k (fun j hj => goatW_len (told_most (HA.out j (by omega))))
    have h2 : k * 80 ≤ 20 * 80 := Nat.mul_le_mul (by omega) (by omega)
    omega)
  go_enter Tryd.func34, Tryd.ntmps34
  have tk_bb : True := trivial
  go_wp2_with (first | (go_at_call 77; (with_reducible refine (HH.out _ (hM.ats 0 _ _ _ rfl)).mono ?_); rintro e W' ⟨rfl, hb'⟩; have hM' := hM.call hb'; clear hM hb'; have hM := hM'; clear hM') | (have _t := tk_bb; refine wpList_bldM rfl rfl hM ?_; intro W0 B WB hM0 hB hBl; clear hM tk_bb))
  have HB0 := hB
  have HM0 := Lib.hid hM0
  clear hB hM0
  go_loopw [11] (fun i wr => ∃ k : Nat, k ≤ n ∧ i = .int .i64 k ∧ Bld W0 (catT (fun k => goatW (hs k)) k) wr) (fun i _ => n - (intOf i).toNat)
  case atStart => exact ⟨0, by omega, rfl, hBl⟩
  case round =>
    clear hBl
    obtain ⟨k, hk, rfl, hBl⟩ := hrel
    by_cases hlt : k < n
    · have l2 : (k : Int) < n := by omega
      have hll := HL.out k hk
      have ht := told_most (HA.out k hlt)
      have hwl := goatW_len ht
      have el : arr 7 (fun j => gt (hs k) (0 + j)) = arr 7 (gt (hs k)) := arr_congr fun j hj => by rw [Nat.zero_add]
      have hb0 := HM0.out.below.trans (hBl.below.mono HM0.out.below.size)
      have HTk := Lib.hid (show TabP wr ∧ TabL wr from ⟨HT.out.1.below hb0, HT.out.2.below hb0⟩)
      have hM : Mem (Base.of wr) [(b, n * 7, gts hs)] wr := (Mem.nil wr).old ((HM0.out.call hBl.below).ats 0 _ _ _ rfl) (fun i p h => by simp at h)
      have HGl := Lib.hid (fun (W : World) (hb : Below wr.heap.size wr W) => goatLine_any (hs k) ht W (HTk.out.1.below hb) (HTk.out.2.below hb))
      have HBl := Lib.hid hBl
      have hs1 := catT_succ (fun k => goatW (hs k)) k
      obtain ⟨l, hl⟩ : ∃ l, catT (fun k => goatW (hs k)) k = l := ⟨_, rfl⟩
      obtain ⟨m, hm⟩ : ∃ m, goatW (hs k) = m := ⟨_, rfl⟩
      rw [hl] at HBl hll hs1
      rw [hm] at HGl hwl
      rw [hm] at hs1
      have HS1 := Lib.hid hs1
      clear hl hm hs1 hBl hb0 ht
      have tk_b3 : True := trivial; have tk_r1 : True := trivial; have tk_r2 : True := trivial; have tk_r3 : True := trivial
      go_wp2_with (first | (have _t := tk_r1; (refine wpList_get rfl _ _ rfl _ _ rfl hM 0 rfl (rowTab _ _ rfl) (by omega) ?_); clear tk_r1) | (have _t := tk_b3; refine wpList_zero rfl _ rfl (zeroTab _ _ _ rfl) hM ?_; intro b3 W' hb3 hM'; clear hM tk_b3; have hM := hM'; clear hM') | (have _t := tk_r2; (refine wpList_lay rfl _ _ _ rfl _ _ rfl _ _ rfl hM 0 rfl (by assumption) (rowTab _ _ rfl) (by omega) ?_ ?_; (first | (intro _ _; rfl) | (intro k _; exact h1 _) | (intro k _; simp only [lay, upd]; (repeat' split) <;> first | exact h1 _ | rfl)); intro W' hM'; clear hM; have hM := hM'; clear hM'; simp only [List.set] at hM); have hM1 := hM.re 0 rfl (gt (hs k)) (fun j hj => lay_goat _ hs k j hj); simp only [List.set_cons_zero] at hM1; clear hM; have hM := hM1; clear hM1; clear tk_r2) | (have _t := tk_r3; (refine wpList_get rfl _ _ rfl _ _ rfl hM 0 rfl (rowTab _ _ rfl) (by omega) ?_); rw [el]; clear tk_r3) | (go_at_call 78; (with_reducible refine (HGl.out _ hM.below).mono ?_); rintro e W' ⟨rfl, hb'⟩; have hM' := hM.call hb'; clear hM hb'; have hM := hM'; clear hM') | (go_at_call 70; (with_reducible refine (bws_at W0 B HB0.out l m (by omega) _ (HBl.out.call hM.below)).mono ?_); rintro e W' ⟨rfl, hB2⟩; clear hM; have hBl := hB2; clear hB2))
      go_roundw
      case rel => exact ⟨k + 1, by omega, by go_num, by rw [HS1.out]; exact hBl⟩
      case measure => simp [intOf]; omega
    · obtain rfl : k = n := by omega
      go_wp2_with (first | (go_at_call 73; (with_reducible refine (bstr_at W0 B HB0.out _ _ hBl).mono ?_); rintro e W' ⟨rfl, hbS⟩))
      go_ret
      exact ⟨ret_bs Hp.out.symm, HM0.out.below.trans (hbS.mono HM0.out.below.size)⟩
end Go.Proofs.YtcdpdcjdjcbhcaaDoor

/-
  laws.FnExactGoatsText returns true.
-/
namespace Go.Proofs.YtcdpdcjdjcbhcaaDoor
open Go Go.RowKit Go.BigFrame

set_option maxRecDepth 100000 in
set_option maxHeartbeats 2000000 in
theorem lawGoatsText_any (v : Value) (n : Nat) (hs : Nat → Nat → Int) (hn : n ≤ maxLen) (hF : ∀ i, i < n → FitsG (hs i)) (w : World) (hT : TabP w ∧ TabL w) (h : GoatArg w v n hs) :
    Calls Tryd.prog 8 #[v] w fun e w' => e = .returned (.bool true) ∧ Below w.heap.size w w' := by
  have hM := Mem.nil w
  have HG := Lib.hid h
  have Hn := Lib.hid hn
  have HF := Lib.hid hF
  have HT := Lib.hid hT
  clear h hn hF hT
  by_cases h1 : 1048576 < n
  · go_enter Tryd.func8, Tryd.ntmps8
    go_wp2_with (first | (go_at_call 31; (with_reducible refine (szGoatS_no v n hs 1048576 Hn.out (by omega) (by omega) (by omega) _ (HG.out.below hM.below)).mono ?_); rintro e W' ⟨rfl, hb'⟩; have hM' := hM.call hb'; clear hM hb'; have hM := hM'; clear hM'))
    go_ret
    exact ⟨rfl, hM.below⟩
  have d0 : decide ((1048576 : Int) - n < 0) = false := decide_eq_false (by omega)
  have d0' : decide ((1048576 : Int) < n) = false := decide_eq_false (by omega)
  have hn1 : n ≤ 1048576 := by omega
  have HS := Lib.hid (fun (b : Nat) (W : World) (hB : At W b (n * 7) (gts hs)) => specGoatsText_any b n n hs HF.out hn1 W hB)
  have HI := Lib.hid (fun (b : Nat) (W : World) (hT : TabP W ∧ TabL W) (hB : At W b (n * 7) (gts hs)) => implGoatsText_any b n n hs HF.out hn1 W hT hB)
  generalize bs (goatsT n hs) = tx at HS HI
  have tk_b1 : True := trivial; have tk_b2 : True := trivial; have tk_b3 : True := trivial
  go_enter Tryd.func8, Tryd.ntmps8
  go_wp2_with (first | (go_at_call 31; (with_reducible refine (szGoatS_yes v n hs 1048576 (by omega) (by omega) _ (HG.out.below hM.below)).mono ?_); rintro e W' ⟨rfl, hb'⟩; have hM' := hM.call hb'; clear hM hb'; have hM := hM'; clear hM') | (have _t := tk_b1; go_at_call 33; (with_reducible refine (toGoatS_any v n hs hn1 _ (HG.out.below hM.below)).mono ?_); rintro e W' ⟨b1, rfl, hb1, hA', hcb⟩; have hM' := hM.fresh' hcb hA' hb1; simp only [List.cons_append, List.nil_append] at hM'; clear hM hcb hA' tk_b1; have hM := hM'; clear hM') | (have _t := tk_b2; go_at_call 33; (with_reducible refine (toGoatS_any v n hs hn1 _ (HG.out.below hM.below)).mono ?_); rintro e W' ⟨b2, rfl, hb2, hA', hcb⟩; have hM' := hM.fresh' hcb hA' hb2; simp only [List.cons_append, List.nil_append] at hM'; clear hM hcb hA' tk_b2; have hM := hM'; clear hM') | (have _t := tk_b3; go_at_call 33; (with_reducible refine (toGoatS_any v n hs hn1 _ (HG.out.below hM.below)).mono ?_); rintro e W' ⟨b3, rfl, hb3, hA', hcb⟩; have hM' := hM.fresh' hcb hA' hb3; simp only [List.cons_append, List.nil_append] at hM'; clear hM hcb hA' tk_b3; have hM := hM'; clear hM') | (go_at_call 32; refine (HS.out _ _ (hM.ats 0 _ _ _ rfl)).mono ?_; rintro e W' ⟨rfl, hb'⟩; have hM' := hM.call hb'; clear hM hb'; have hM := hM'; clear hM') | (go_at_call 34; refine (HI.out _ _ ⟨HT.out.1.below hM.below, HT.out.2.below hM.below⟩ (hM.ats 1 _ _ _ rfl)).mono ?_; rintro e W' ⟨rfl, hb'⟩; have hM' := hM.call hb'; clear hM hb'; have hM := hM'; clear hM') | (go_at_call 35; (with_reducible refine (eqGoatS_same _ _ n n n hs Hn.out _ (hM.ats 1 _ _ _ rfl) (hM.ats 2 _ _ _ rfl) (hM.apart 1 2 _ _ rfl rfl (by omega))).mono ?_); rintro e W' ⟨rfl, hb'⟩; have hM' := hM.call hb'; clear hM hb'; have hM := hM'; clear hM'))
  go_ret
  exact ⟨rfl, hM.below⟩
end Go.Proofs.YtcdpdcjdjcbhcaaDoor

