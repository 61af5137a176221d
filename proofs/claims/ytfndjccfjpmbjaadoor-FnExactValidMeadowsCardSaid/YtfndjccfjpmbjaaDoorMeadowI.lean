/-
  impl.(Meadow).isTold, impl.ValidMeadows by contracts.
-/
import Derived.Test.YtfndjccfjpmbjaaDoorMeadowOk
import Derived.Test.YtfndjccfjpmbjaaDoorEql0
namespace Go.Proofs.YtfndjccfjpmbjaaDoor
open Go Go.RowKit Go.BigFrame

set_option maxRecDepth 100000 in
set_option maxHeartbeats 4000000 in
theorem isTold_any {a : Nat → Addr} (h : Nat → Int) (hF : FitsMeadow h) (w : World) (hE : Errs a w) :
    Calls Tryd.prog 11 #[.agg (arr 3 (vMeadow h))] w fun e w' => e = .returned (.bool (meadB h)) ∧ Below w.heap.size w w' := by
  have hM := Mem.nil w
  obtain ⟨f0, f1, f2⟩ := hF
  have HE := Lib.hid hE
  have c0 : IntKind.i64.wrap (h 0) = h 0 := IntWalk.i64_in _ (by omega)
  have c1 : IntKind.i64.wrap (h 1) = h 1 := IntWalk.i64_in _ (by omega)
  have c2 : IntKind.i64.wrap (h 2) = h 2 := IntWalk.i64_in _ (by omega)
  have e0 : vMeadow h 0 = .int .i16 (h 0) := rfl
  have e1 : vMeadow h 1 = .int .i16 (h 1) := rfl
  have e2 : vMeadow h 2 = .int .i16 (h 2) := rfl
  clear f0 f1 f2 hE
  have tk_b1 : True := trivial; have tk_r0 : True := trivial
  cases h2 : inB 0 1000 (h 2)
  · have Hx : Hid (meadB h = false) := Lib.hid (by simp [meadB, h2])
    have H2 := Lib.hid h2
    clear h2
    go_enter Tryd.func11, Tryd.ntmps11
    go_wp2_with (first | (have _t := tk_b1; refine wpList_box rfl _ _ rfl _ _ rfl hM ?_; intro b1 W' hb1 hM'; clear hM tk_b1; have hM := hM'; clear hM') | (refine wpList_get1 rfl _ _ rfl _ _ rfl hM 0 rfl (cellTab _ rfl) (by omega) _ e2 ?_) | (go_at_call 15; (with_reducible refine (checkGrass_no (h 2) _ (HE.out.below hM.below) H2.out).mono ?_); rintro e W' ⟨rfl, hb'⟩; have hM' := hM.call hb'; clear hM hb'; have hM := hM'; clear hM'))
    go_ret
    exact ⟨ret_bool Hx.out.symm, hM.below⟩
  cases h0 : inB 0 (h 2) (h 0)
  · have Hx : Hid (meadB h = false) := Lib.hid (by simp [meadB, h0])
    have H2 := Lib.hid h2
    have H0 := Lib.hid h0
    clear h2 h0
    go_enter Tryd.func11, Tryd.ntmps11
    go_wp2_with (first | (have _t := tk_b1; refine wpList_box rfl _ _ rfl _ _ rfl hM ?_; intro b1 W' hb1 hM'; clear hM tk_b1; have hM := hM'; clear hM') | (refine wpList_get1 rfl _ _ rfl _ _ rfl hM 0 rfl (cellTab _ rfl) (by omega) _ e2 ?_) | (go_at_call 15; (with_reducible refine (checkGrass_yes (h 2) _ H2.out).mono ?_); rintro e W' ⟨rfl, hb'⟩; have hM' := hM.call hb'; clear hM hb'; have hM := hM'; clear hM') | (refine wpList_gget1 ?_ _ _ rfl _ _ rfl hM 0 rfl (cellTab _ rfl) (by omega) _ e0 ?_; kernel_rfl) | (go_at_call 16; (with_reducible refine (checkUpTo_no (h 0) (h 2) _ (HE.out.below hM.below) H0.out).mono ?_); rintro e W' ⟨rfl, hb'⟩; have hM' := hM.call hb'; clear hM hb'; have hM := hM'; clear hM'))
    go_ret
    exact ⟨ret_bool Hx.out.symm, hM.below⟩
  cases h1 : inB 0 (h 2) (h 1)
  · have Hx : Hid (meadB h = false) := Lib.hid (by simp [meadB, h1])
    have H2 := Lib.hid h2
    have H0 := Lib.hid h0
    have H1 := Lib.hid h1
    clear h2 h0 h1
    go_enter Tryd.func11, Tryd.ntmps11
    go_wp2_with (first | (have _t := tk_b1; refine wpList_box rfl _ _ rfl _ _ rfl hM ?_; intro b1 W' hb1 hM'; clear hM tk_b1; have hM := hM'; clear hM') | (refine wpList_get1 rfl _ _ rfl _ _ rfl hM 0 rfl (cellTab _ rfl) (by omega) _ e2 ?_) | (go_at_call 15; (with_reducible refine (checkGrass_yes (h 2) _ H2.out).mono ?_); rintro e W' ⟨rfl, hb'⟩; have hM' := hM.call hb'; clear hM hb'; have hM := hM'; clear hM') | (have _t := tk_r0; (refine wpList_gget1 ?_ _ _ rfl _ _ rfl hM 0 rfl (cellTab _ rfl) (by omega) _ e0 ?_; kernel_rfl); clear tk_r0) | (refine wpList_gget1 ?_ _ _ rfl _ _ rfl hM 0 rfl (cellTab _ rfl) (by omega) _ e1 ?_; kernel_rfl) | (go_at_call 16; (with_reducible refine (checkUpTo_yes (h 0) (h 2) _ H0.out).mono ?_); rintro e W' ⟨rfl, hb'⟩; have hM' := hM.call hb'; clear hM hb'; have hM := hM'; clear hM') | (go_at_call 16; (with_reducible refine (checkUpTo_no (h 1) (h 2) _ (HE.out.below hM.below) H1.out).mono ?_); rintro e W' ⟨rfl, hb'⟩; have hM' := hM.call hb'; clear hM hb'; have hM := hM'; clear hM'))
    go_ret
    exact ⟨ret_bool Hx.out.symm, hM.below⟩
  · have Hx : Hid (meadB h = true) := Lib.hid (by simp [meadB, h0, h1, h2])
    have H2 := Lib.hid h2
    have H0 := Lib.hid h0
    have H1 := Lib.hid h1
    clear h2 h0 h1
    go_enter Tryd.func11, Tryd.ntmps11
    go_wp2_with (first | (have _t := tk_b1; refine wpList_box rfl _ _ rfl _ _ rfl hM ?_; intro b1 W' hb1 hM'; clear hM tk_b1; have hM := hM'; clear hM') | (refine wpList_get1 rfl _ _ rfl _ _ rfl hM 0 rfl (cellTab _ rfl) (by omega) _ e2 ?_) | (go_at_call 15; (with_reducible refine (checkGrass_yes (h 2) _ H2.out).mono ?_); rintro e W' ⟨rfl, hb'⟩; have hM' := hM.call hb'; clear hM hb'; have hM := hM'; clear hM') | (have _t := tk_r0; (refine wpList_gget1 ?_ _ _ rfl _ _ rfl hM 0 rfl (cellTab _ rfl) (by omega) _ e0 ?_; kernel_rfl); clear tk_r0) | (refine wpList_gget1 ?_ _ _ rfl _ _ rfl hM 0 rfl (cellTab _ rfl) (by omega) _ e1 ?_; kernel_rfl) | (go_at_call 16; (with_reducible refine (checkUpTo_yes (h 0) (h 2) _ H0.out).mono ?_); rintro e W' ⟨rfl, hb'⟩; have hM' := hM.call hb'; clear hM hb'; have hM := hM'; clear hM') | (go_at_call 16; (with_reducible refine (checkUpTo_yes (h 1) (h 2) _ H1.out).mono ?_); rintro e W' ⟨rfl, hb'⟩; have hM' := hM.call hb'; clear hM hb'; have hM := hM'; clear hM'))
    go_ret
    exact ⟨ret_bool Hx.out.symm, hM.below⟩

theorem lay_meadow (z : Nat → Value) (hs : Nat → Nat → Int) (k : Nat) : ∀ j, j < 3 → lay z 0 3 (fun i => sMeadow hs (k * 3 + i)) j = vMeadow (hs k) j := fun j hj => by
  simp only [lay, Nat.zero_add, Nat.sub_zero]
  rw [if_pos ⟨by omega, hj⟩]
  exact sMeadow_row hs k j hj

set_option maxRecDepth 100000 in
set_option maxHeartbeats 4000000 in
theorem implValidMeadows_any {a : Nat → Addr} (b N n c : Nat) (F : Nat → Value) (hs : Nat → Nat → Int) (hN : n * 3 ≤ N) (hf : ∀ j, j < n * 3 → F j = sMeadow hs j) (hF : ∀ i, i < n → FitsMeadow (hs i)) (hn : n ≤ 1048576) (w : World) (hB : At w b N F) (hE : Errs a w) :
    Calls Tryd.prog 7 #[.slice (some ⟨b, 0, none⟩) n c] w fun e w' => e = .returned (.bool (meadsB n hs)) ∧ Below w.heap.size w w' := by
  have hM : Mem w [(b, N, F)] w := (Mem.nil w).old hB (fun i p h => by simp at h)
  have HF := Lib.hid hF
  have Hf := Lib.hid hf
  have HE := Lib.hid hE
  clear hF hB hE hf
  by_cases h1 : n < 1
  · have Hp := Lib.hid (meadsB_len (n := n) (hs := hs) (inB_no (by omega)))
    have d0 : decide ((n : Int) < 1) = true := decide_eq_true (by omega)
    go_enter Tryd.func7, Tryd.ntmps7
    go_wp2
    go_ret
    exact ⟨ret_bool Hp.out.symm, hM.below⟩
  have d0 : decide ((n : Int) < 1) = false := decide_eq_false (by omega)
  by_cases h6 : 6 < n
  · have Hp := Lib.hid (meadsB_len (n := n) (hs := hs) (inB_no (by omega)))
    have d1 : decide (6 < (n : Int)) = true := decide_eq_true (by omega)
    go_enter Tryd.func7, Tryd.ntmps7
    go_wp2
    go_ret
    exact ⟨ret_bool Hp.out.symm, hM.below⟩
  have d1 : decide (6 < (n : Int)) = false := decide_eq_false (by omega)
  go_enter Tryd.func7, Tryd.ntmps7
  go_wp2
  go_loopw [15] (fun i wr => ∃ k : Nat, k ≤ n ∧ i = .int .i64 k ∧ Hid (∀ j, j < k → meadB (hs j) = true) ∧ Mem w [(b, N, F)] wr) (fun i _ => n - (intOf i).toNat)
  case atStart => exact ⟨0, by omega, rfl, Lib.hid (fun j hj => absurd hj (by omega)), hM⟩
  case round =>
    clear hM
    obtain ⟨k, hk, rfl, hall, hM⟩ := hrel
    by_cases hlt : k < n
    · have l2 : (k : Int) < n := by omega
      have fk := HF.out k hlt
      have er : arr 3 (fun j => F (k * 3 + j)) = arr 3 (vMeadow (hs k)) := arr_congr fun j hj => by rw [Hf.out _ (by omega)]; exact sMeadow_row hs k j hj
      have e3 : arr 3 (fun j => vMeadow (hs k) (0 + j)) = arr 3 (vMeadow (hs k)) := arr_congr fun j _ => by rw [Nat.zero_add]
      have e4 : arr 3 (fun j => vMeadow (hs k) j) = arr 3 (vMeadow (hs k)) := rfl
      cases he : meadB (hs k)
      all_goals
        have He := Lib.hid he
        clear he
        have tk_b3 : True := trivial; have tk_r1 : True := trivial; have tk_r2 : True := trivial
        go_wp2_with (first | (have _t := tk_r1; (refine wpList_get rfl _ _ rfl _ _ rfl hM 0 rfl rowMeadow (by omega) ?_); rw [er]; clear tk_r1) | (have _t := tk_b3; refine wpList_zero rfl _ rfl zeroMeadow hM ?_; intro b3 W' hb3 hM'; clear hM tk_b3; have hM := hM'; clear hM') | (have _t := tk_r2; (refine wpList_lay rfl _ _ _ rfl _ _ rfl _ _ rfl hM 0 rfl (by assumption) rowMeadow (by omega) (fun _ _ => rfl) ?_; intro W' hM'; clear hM; have hM1 := hM'.re 0 rfl (vMeadow (hs k)) (fun j hj => by simp only [lay]; rw [if_pos ⟨by omega, by omega⟩, Nat.sub_zero]); simp only [List.set_cons_zero] at hM1; clear hM'; have hM := hM1; clear hM1); clear tk_r2) | (refine wpList_get rfl _ _ rfl _ _ rfl hM 0 rfl rowMeadow (by omega) ?_) | (go_at_call 11; (with_reducible refine (isTold_any (hs k) fk _ (HE.out.below hM.below)).mono ?_); rintro e W' ⟨rfl, hb'⟩; rw [He.out]; have hM' := hM.call hb'; clear hM hb'; have hM := hM'; clear hM'))
      · go_ret
        exact ⟨ret_bool (meadsB_no hlt He.out).symm, hM.below⟩
      · go_roundw
        case rel => exact ⟨k + 1, by omega, by go_num, Lib.hid (fun j hj => by
          by_cases e : j = k
          · rw [e]; exact He.out
          · exact hall.out j (by omega)), hM.drop⟩
        case measure => simp [intOf]; omega
    · obtain rfl : k = n := by omega
      have Hp : Hid (meadsB k hs = true) := Lib.hid (by rw [meadsB_all hall.out]; exact inB_yes (by omega))
      go_wp2
      go_ret
      exact ⟨ret_bool Hp.out.symm, hM.below⟩
end Go.Proofs.YtfndjccfjpmbjaaDoor
