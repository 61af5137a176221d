/-
  impl.GrowthText by contract.
-/
import Derived.Test.YtcdpdcjdjcbhcaaDoorGrowthTS
import Derived.Test.YtcdpdcjdjcbhcaaDoorTextC
import Derived.Test.YtcdpdcjdjcbhcaaDoorWords
import Derived.Test.YtcdpdcjdjcbhcaaDoorGrow
import Derived.Test.YtcdpdcjdjcbhcaaDoorIndex
namespace Go.Proofs.YtcdpdcjdjcbhcaaDoor
open Go Go.RowKit Go.BigFrame

set_option maxRecDepth 100000 in
set_option maxHeartbeats 4000000 in
theorem implGrowthText_any (h : Nat → Int) (hF : FitsW h) (w : World) (hT : TabP w) :
    Calls Tryd.prog 17 #[.agg (arr 12 (gro h))] w fun e w' => e = .returned (.string (bs (growthT h))) ∧ Below w.heap.size w w' := by
  have hM := Mem.nil w
  have HT := Lib.hid hT
  have eg : arr 12 (fun j => gro h (0 + j)) = arr 12 (gro h) := arr_congr fun j hj => by rw [Nat.zero_add]
  clear hT
  have tk_b1 : True := trivial; have tk_q1 : True := trivial; have tk_q2 : True := trivial
  cases hz : growB h
  · have Hz := Lib.hid hz
    have Hp := Lib.hid (growthT_no hz)
    clear hz
    go_enter Tryd.func17, Tryd.ntmps17
    go_wp2_with (first | (have _t := tk_b1; refine wpList_box rfl _ _ rfl _ _ rfl hM ?_; intro b1 W' hb1 hM'; clear hM tk_b1; have hM := hM'; clear hM') | (have _t := tk_q1; (refine wpList_get rfl _ _ rfl _ _ rfl hM 0 rfl (rowTab _ _ rfl) (by omega) ?_); rw [eg]; clear tk_q1) | (go_at_call 51; (with_reducible refine (implValidGrowth_any h hF _).mono ?_); rintro e W' ⟨rfl, hb'⟩; rw [Hz.out]; have hM' := hM.call hb'; clear hM hb'; have hM := hM'; clear hM'))
    go_ret
    exact ⟨ret_bs Hp.out.symm, hM.below⟩
  have Hz := Lib.hid hz
  have HP := Lib.hid (growthT_yes hz)
  obtain ⟨ht, hl0, hl1⟩ := growB_true hz
  have HF := Lib.hid ht
  have el : gro h 11 = .int .i16 (h 11) := rfl
  have HD := Lib.hid (fun (W : World) (hT : TabP W) => fmt_any (h 11) hl0 (by omega) W hT)
  have lt := numB_len (n := h 11) (by omega)
  have hjl := joinT_len (sep := [44]) (f := growW h) (m := 10) 11 (fun j hj => numB_len (by have := ht j (by omega); omega))
  simp only [List.length_cons, List.length_nil] at hjl
  have e11 : arr 11 (fun k => gro h (0 + k)) = arr 11 (gro h) := arr_congr fun j hj => by rw [Nat.zero_add]
  obtain ⟨t, htt⟩ : ∃ t, h 11 = t := ⟨_, rfl⟩
  obtain ⟨u, hu⟩ : ∃ u, numB t = u := ⟨_, rfl⟩
  rw [htt] at el HD lt hl0 hl1 HP
  rw [hu] at HD lt HP
  have ct : IntKind.i64.wrap t = t := IntWalk.i64_in _ (by omega)
  clear hz ht htt hu
  go_enter Tryd.func17, Tryd.ntmps17
  go_wp2_with (first | (have _t := tk_b1; refine wpList_box rfl _ _ rfl _ _ rfl hM ?_; intro b1 W' hb1 hM'; clear hM tk_b1; have hM := hM'; clear hM') | (have _t := tk_q1; (refine wpList_get rfl _ _ rfl _ _ rfl hM 0 rfl (rowTab _ _ rfl) (by omega) ?_); rw [eg]; clear tk_q1) | (have _t := tk_q2; (refine wpList_get rfl _ _ rfl _ _ rfl hM 0 rfl (rowTab _ _ rfl) (by omega) ?_); rw [e11]; clear tk_q2) | (go_at_call 51; (with_reducible refine (implValidGrowth_any h hF _).mono ?_); rintro e W' ⟨rfl, hb'⟩; rw [Hz.out]; have hM' := hM.call hb'; clear hM hb'; have hM := hM'; clear hM'))
  go_loopw [3, 11] (fun v i wr => ∃ k : Nat, k ≤ 11 ∧ i = .int .i64 k ∧ Lst (Base.of w) [(b1, 12, gro h)] 1 v k (strF (growW h)) wr) (fun _ i _ => 11 - (intOf i).toNat)
  case atStart => exact ⟨0, by omega, rfl, .inl ⟨rfl, rfl, hM⟩⟩
  case round =>
    clear hM
    obtain ⟨k, hk, rfl, hL⟩ := hrel
    by_cases hlt : k < 11
    · have l2 : (k : Int) < 11 := by omega
      obtain ⟨d0, d1⟩ := HF.out k hlt
      have ld := numB_len (n := h k) (by omega)
      have HK := Lib.hid (fun (W : World) (hT : TabP W) => fmt_any (h k) d0 (by omega) W hT)
      have e0 : gro h k = .int .i8 (h k) := gro_i8 h hlt
      obtain ⟨d, hd⟩ : ∃ d, h k = d := ⟨_, rfl⟩
      obtain ⟨v, hv⟩ : ∃ v, numB d = v := ⟨_, rfl⟩
      have HW := Lib.hid (show ∀ j, j < 1 → Value.string (bs v) = strF (growW h) (k * 1 + j) from fun j hj => by
        obtain rfl : j = 0 := by omega
        unfold strF growW
        rw [Nat.mul_one, Nat.add_zero, hd, hv])
      rw [hd] at HK ld d0 d1 e0
      rw [hv] at HK ld
      clear hd hv
      have hle : k ≤ 1048576 := by omega
      have cd : IntKind.i64.wrap d = d := IntWalk.i64_in _ (by omega)
      rcases hL with ⟨rfl, hn0, hM⟩ | ⟨bw, cw, F, rfl, hbb, hnc, hFF, hM⟩
      · have Hn0 := Lib.hid hn0
        have Hq : Hid (∀ j, j < 1 → (fun _ => Value.string (bs v)) j = strF (growW h) j) := Lib.hid (fun j hj => by have := HW.out j hj; rwa [hn0, Nat.zero_mul, Nat.zero_add] at this)
        clear hn0
        have tk_l1 : True := trivial; have tk_p1 : True := trivial
        go_wp2_with (first | (refine wpList_index rfl _ _ _ rfl _ _ rfl _ _ rfl (by omega) Tryd.underlying30 (cellTab _ rfl) _ e0 ?_) | (go_at_call 52; (with_reducible refine (HK.out _ (HT.out.below hM.below)).mono ?_); rintro e W' ⟨rfl, hb'⟩; have hM' := hM.call hb'; clear hM hb'; have hM := hM'; clear hM') | (have _t := tk_l1; refine wpList_lit1 rfl _ _ _ rfl (.string (bs v)) rfl rfl _ strs_under strs_info hM ?_; intro l1 W' hl1 hM'; clear hM tk_l1; have hM := hM'; clear hM') | (have _t := tk_p1; refine wpList_push0 rfl _ _ _ rfl _ 1 _ _ strs_under infoStringS rfl (by omega) rfl _ _ rfl hM (strF (growW h)) Hq.out ?_; intro bL cL FL W' hbL hcL hFL hM'; clear hM tk_p1; have hM := hM'; clear hM'))
        go_roundw
        case rel => exact ⟨k + 1, by omega, by go_num, by
          rw [Hn0.out]
          exact .inr ⟨bL, cL, FL, rfl, hbL, hcL, hFL, hM⟩⟩
        case measure => simp [intOf]; omega
      · have Hf := Lib.hid hFF
        clear hFF
        have tk_l1 : True := trivial; have tk_p1 : True := trivial
        go_wp2_with (first | (refine wpList_index rfl _ _ _ rfl _ _ rfl _ _ rfl (by omega) Tryd.underlying30 (cellTab _ rfl) _ e0 ?_) | (go_at_call 52; (with_reducible refine (HK.out _ (HT.out.below hM.below)).mono ?_); rintro e W' ⟨rfl, hb'⟩; have hM' := hM.call hb'; clear hM hb'; have hM := hM'; clear hM') | (have _t := tk_l1; refine wpList_lit1 rfl _ _ _ rfl (.string (bs v)) rfl rfl _ strs_under strs_info hM ?_; intro l1 W' hl1 hM'; clear hM tk_l1; have hM := hM'; clear hM') | (have _t := tk_p1; refine wpList_push1 rfl _ _ _ rfl _ 1 _ _ strs_under infoStringS rfl (by omega) _ _ _ _ rfl hbb hnc hle _ _ rfl strF_one hM (strF (growW h)) Hf.out HW.out ?_; intro bL cL FL W' hbL hcL hFL hM'; clear hM tk_p1; have hM := hM'; clear hM'))
        go_roundw
        case rel => exact ⟨k + 1, by omega, by go_num, .inr ⟨bL, cL, FL, rfl, hbL, hcL, hFL, hM⟩⟩
        case measure => simp [intOf]; omega
    · obtain rfl : k = 11 := by omega
      rcases hL with ⟨rfl, hn0, hM⟩ | ⟨bw, cw, F, rfl, hbb, hnc, hFF, hM⟩
      · omega
      have HJ : Hid (∀ (W : World), At W bw (cw * 1) F → Calls Tryd.prog 46 #[.slice (some ⟨bw, 0, none⟩) 11 cw, .string ⟨#[44]⟩] W fun e w' => e = .returned (.string (bs (joinT [44] (growW h) 11))) ∧ Below W.heap.size W w') := Lib.hid (fun (W : World) (hA : At W bw (cw * 1) F) => join_any bw 11 (cw * 1) cw (growW h) F [44] 10 (fun j hj => numB_len (by have := HF.out j hj; omega)) (by simp only [List.length_cons, List.length_nil]; omega) (by omega) (by omega) (fun j hj => hFF j (by omega)) hnc W hA)
      obtain ⟨J, hJ⟩ : ∃ J, joinT [44] (growW h) 11 = J := ⟨_, rfl⟩
      rw [hJ] at HJ hjl HP
      clear hJ hFF
      go_wp2
      ((try simp only [Act.put, List.setIfInBounds_toArray, List.set_cons_succ, List.set_cons_zero]); refine wp_region_mem (by kernel_rfl) (by kernel_rfl) hM ?_; clear hM; (repeat (first | go_big_quiet_skip | (go_big_quiet_want; first | (refine quiet_get1 _ _ rfl _ _ rfl 1 rfl (cellTab _ rfl) (by omega) _ (el) ?_; (simp only [Act.put, List.setIfInBounds_toArray, List.set_cons_succ, List.set_cons_zero]); go_big_quiet_on) | (refine quiet_call ?_; apply Exists.intro; apply Exists.intro; apply Exists.intro; refine ⟨fun W => ?_, fun W hM => ?_, ?_⟩; (go_simp; exact ⟨rfl, rfl⟩); (with_reducible exact HJ.out W (hM.ats 0 _ _ _ rfl)); (simp only [Act.put, List.setIfInBounds_toArray, List.set_cons_succ, List.set_cons_zero]); go_big_quiet_on) | (refine quiet_call ?_; apply Exists.intro; apply Exists.intro; apply Exists.intro; refine ⟨fun W => ?_, fun W hM => ?_, ?_⟩; (go_simp; exact ⟨rfl, rfl⟩); (with_reducible exact HD.out W (HT.out.below hM.below)); (simp only [Act.put, List.setIfInBounds_toArray, List.set_cons_succ, List.set_cons_zero]); go_big_quiet_on) | (refine quiet_val ⟨_, fun W => cat_op _ _ rfl _ _ rfl rfl (by simp only [List.length_append, List.length_cons, List.length_nil]; omega) W, ?_⟩; (simp only [Act.put, List.setIfInBounds_toArray, List.set_cons_succ, List.set_cons_zero]); go_big_quiet_on) | (refine quiet_val ?_; apply Exists.intro; refine ⟨fun W => ?_, ?_⟩; (go_simp; (try simp only [ct, if_true, Bool.false_eq_true, if_false]); rfl); (simp only [Act.put, List.setIfInBounds_toArray, List.set_cons_succ, List.set_cons_zero]); go_big_quiet_on)))); (with_reducible refine wpQuiet_nil ?_); intro W' hM)
      go_wp2
      go_ret
      exact ⟨ret_bs (by rw [HP.out]; simp), hM.below⟩
end Go.Proofs.YtcdpdcjdjcbhcaaDoor
