/-
  Several texts in one: StakesTI, StakesText.
-/
import Derived.Test.YtcdpdcjdjcbhcaaDoorP7
import Derived.Test.YtcdpdcjdjcbhcaaDoorP4
/-
  impl.StakesText by contract.
-/
namespace Go.Proofs.YtcdpdcjdjcbhcaaDoor
open Go Go.RowKit Go.BigFrame

set_option maxRecDepth 100000 in
set_option maxHeartbeats 4000000 in
theorem implStakesText_any (b n c : Nat) (hs : Nat → Nat → Int) (_hF : ∀ i, i < n → FitsStake (hs i)) (hn : n ≤ 1048576) (w : World) (hT : TabP w) (hB : At w b (n * 3) (sStake hs)) :
    Calls Tryd.prog 21 #[.slice (some ⟨b, 0, none⟩) n c] w fun e w' => e = .returned (.string (bs (stakesT n hs))) ∧ Below w.heap.size w w' := by
  have hM : Mem w [(b, n * 3, sStake hs)] w := (Mem.nil w).old hB (fun i p h => by simp at h)
  have HT := Lib.hid hT
  clear hB hT
  by_cases h12 : 12 < n
  · have d1 : decide ((n : Int) > 12) = true := decide_eq_true (by omega)
    have d2 : (12 : Int) < n := by omega
    have Hp := Lib.hid (stakesT_many (hs := hs) h12)
    go_enter Tryd.func21, Tryd.ntmps21
    go_wp2
    go_ret
    exact ⟨ret_bs Hp.out.symm, hM.below⟩
  have d1 : decide ((n : Int) > 12) = false := decide_eq_false (by omega)
  have d2 : ¬ (12 : Int) < n := by omega
  have tk_b4 : True := trivial; have tk_y4 : True := trivial
  go_enter Tryd.func21, Tryd.ntmps21
  go_wp2_with (first | (refine wpList_greatest rfl _ _ rfl rfl rfl ?_) | (have _t := tk_b4; refine wpList_zero rfl _ rfl (zeroTab _ _ _ rfl) hM ?_; intro b4 W' hb4 hM'; clear hM tk_b4; have hM := hM'; clear hM') | (have _t := tk_y4; (refine wpList_lay rfl _ _ _ rfl _ _ rfl _ _ rfl hM 0 rfl (by assumption) (rowTab _ _ rfl) (by omega) ?_ ?_; (first | (intro _ _; rfl) | (intro k _; exact h1 _) | (intro k _; simp only [lay, upd]; (repeat' split) <;> first | exact h1 _ | rfl)); intro W' hM'; clear hM; have hM := hM'; clear hM'; simp only [List.set] at hM); clear tk_y4))
  have hM1 := hM.re 0 rfl (pas gMost) (fun j hj => by simp [lay, hj])
  simp only [List.set_cons_zero] at hM1
  clear hM
  have hM := hM1
  clear hM1
  go_loopw [4, 13] (fun v i wr => ∃ k : Nat, k ≤ n ∧ i = .int .i64 k ∧ Hid (∀ j, j < k → stakeB gMost (hs j) = true) ∧ Lst (Base.of w) [(b4, 122, pas gMost), (b, n * 3, sStake hs)] 1 v k (strF (stakeW hs)) wr) (fun _ i _ => n - (intOf i).toNat)
  case atStart => exact ⟨0, by omega, rfl, Lib.hid (fun j hj => absurd hj (by omega)), .inl ⟨rfl, rfl, hM⟩⟩
  case round =>
    clear hM
    obtain ⟨k, hk, rfl, hall, hL⟩ := hrel
    by_cases hlt : k < n
    · have l2 : (k : Int) < n := by omega
      have el : arr 3 (fun j => vStake (hs k) (0 + j)) = arr 3 (vStake (hs k)) := arr_congr fun j hj => by rw [Nat.zero_add]
      have eg : arr 122 (fun j => pas gMost (0 + j)) = arr 122 (pas gMost) := arr_congr fun j hj => by rw [Nat.zero_add]
      cases he : stakeB gMost (hs k)
      · have Hp := Lib.hid (stakesT_no hlt he)
        have He := Lib.hid he
        clear he
        rcases hL with ⟨rfl, hn0, hM⟩ | ⟨bw, cw, F, rfl, hbb, hnc, hFF, hM⟩
        · have Hn0 := Lib.hid hn0
          clear hn0
          have tk_b3 : True := trivial; have tk_r1 : True := trivial; have tk_r2 : True := trivial; have tk_r3 : True := trivial; have tk_r4 : True := trivial
          go_wp2_with (first | (have _t := tk_r1; (refine wpList_get rfl _ _ rfl _ _ rfl hM 1 rfl rowStake (by omega) ?_); clear tk_r1) | (have _t := tk_b3; refine wpList_zero rfl _ rfl zeroStake hM ?_; intro b3 W' hb3 hM'; clear hM tk_b3; have hM := hM'; clear hM') | (have _t := tk_r2; (refine wpList_lay rfl _ _ _ rfl _ _ rfl _ _ rfl hM 0 rfl (by assumption) rowStake (by omega) (fun _ _ => rfl) ?_; intro W' hM'; clear hM; have hM := hM'; clear hM'; simp only [List.set] at hM; have hM1 := hM.re 0 rfl (vStake (hs k)) (fun j hj => lay_stake _ hs k j hj); simp only [List.set_cons_zero] at hM1; clear hM; have hM := hM1; clear hM1); clear tk_r2) | (have _t := tk_r3; (refine wpList_get rfl _ _ rfl _ _ rfl hM 0 rfl rowStake (by omega) ?_); rw [el]; clear tk_r3) | (have _t := tk_r4; (refine wpList_get rfl _ _ rfl _ _ rfl hM 1 rfl (rowTab _ _ rfl) (by omega) ?_); rw [eg]; clear tk_r4) | (go_at_call 56; refine (stakeTold_any gMost (hs k) _).mono ?_; rintro e W' ⟨rfl, hb'⟩; rw [He.out]; have hM' := hM.call hb'; clear hM hb'; have hM := hM'; clear hM'))
          go_ret
          exact ⟨ret_bs Hp.out.symm, hM.below⟩
        · have tk_b3 : True := trivial; have tk_r1 : True := trivial; have tk_r2 : True := trivial; have tk_r3 : True := trivial; have tk_r4 : True := trivial
          go_wp2_with (first | (have _t := tk_r1; (refine wpList_get rfl _ _ rfl _ _ rfl hM 2 rfl rowStake (by omega) ?_); clear tk_r1) | (have _t := tk_b3; refine wpList_zero rfl _ rfl zeroStake hM ?_; intro b3 W' hb3 hM'; clear hM tk_b3; have hM := hM'; clear hM') | (have _t := tk_r2; (refine wpList_lay rfl _ _ _ rfl _ _ rfl _ _ rfl hM 0 rfl (by assumption) rowStake (by omega) (fun _ _ => rfl) ?_; intro W' hM'; clear hM; have hM := hM'; clear hM'; simp only [List.set] at hM; have hM1 := hM.re 0 rfl (vStake (hs k)) (fun j hj => lay_stake _ hs k j hj); simp only [List.set_cons_zero] at hM1; clear hM; have hM := hM1; clear hM1); clear tk_r2) | (have _t := tk_r3; (refine wpList_get rfl _ _ rfl _ _ rfl hM 0 rfl rowStake (by omega) ?_); rw [el]; clear tk_r3) | (have _t := tk_r4; (refine wpList_get rfl _ _ rfl _ _ rfl hM 2 rfl (rowTab _ _ rfl) (by omega) ?_); rw [eg]; clear tk_r4) | (go_at_call 56; refine (stakeTold_any gMost (hs k) _).mono ?_; rintro e W' ⟨rfl, hb'⟩; rw [He.out]; have hM' := hM.call hb'; clear hM hb'; have hM := hM'; clear hM'))
          go_ret
          exact ⟨ret_bs Hp.out.symm, hM.below⟩
      obtain ⟨⟨d0, d1⟩, ⟨x0, x1⟩, y0, y1⟩ := stakeB_most he
      have Hs := Lib.hid (show ∀ j, j < k + 1 → stakeB gMost (hs j) = true from fun j hj => by
        by_cases e : j = k
        · rw [e]; exact he
        · exact hall.out j (by omega))
      have He := Lib.hid he
      have lu := numB_len (n := hs k 2) (by omega)
      have lx := spotT_len (x := hs k 0) (y := hs k 1) (by omega) (by omega)
      have HD := Lib.hid (fun (W : World) (h : TabP W) => fmt_any (hs k 2) y0 (by omega) W h)
      have HX := Lib.hid (fun (W : World) (h : TabP W) => spotText_any (hs k 0) (hs k 1) ⟨d0, by omega⟩ ⟨x0, by omega⟩ W h)
      obtain ⟨d, hd⟩ : ∃ d, hs k 2 = d := ⟨_, rfl⟩
      obtain ⟨x, hx⟩ : ∃ x, hs k 0 = x := ⟨_, rfl⟩
      obtain ⟨y, hy⟩ : ∃ y, hs k 1 = y := ⟨_, rfl⟩
      obtain ⟨u, hu⟩ : ∃ u, numB d = u := ⟨_, rfl⟩
      obtain ⟨v, hv⟩ : ∃ v, spotT x y = v := ⟨_, rfl⟩
      have e0 : vStake (hs k) 2 = .int .i16 d := by rw [← hd]; rfl
      have e1 : arr 2 (fun j => vStake (hs k) (0 + j)) = arr 2 (sp x y) := by rw [← hx, ← hy]; exact spStake0 (hs k)
      have HW := Lib.hid (show ∀ j, j < 1 → Value.string (bs (v ++ [47] ++ u)) = strF (stakeW hs) (k * 1 + j) from fun j hj => by
        obtain rfl : j = 0 := by omega
        unfold strF stakeW
        rw [Nat.mul_one, Nat.add_zero, hd, hx, hy, hu, hv])
      rw [hd] at HD lu y0 y1
      rw [hx, hy] at HX lx
      rw [hu] at HD lu
      rw [hv] at HX lx
      have hle : k ≤ 1048576 := by omega
      have cd : IntKind.i64.wrap d = d := IntWalk.i64_in _ (by omega)
      clear hd hx hy hu hv he
      rcases hL with ⟨rfl, hn0, hM⟩ | ⟨bw, cw, F, rfl, hbb, hnc, hFF, hM⟩
      · have Hn0 := Lib.hid hn0
        have Hq : Hid (∀ j, j < 1 → (fun _ => Value.string (bs (v ++ [47] ++ u))) j = strF (stakeW hs) j) := Lib.hid (fun j hj => by have := HW.out j hj; rwa [hn0, Nat.zero_mul, Nat.zero_add] at this)
        clear hn0
        have tk_b3 : True := trivial; have tk_r1 : True := trivial; have tk_r2 : True := trivial; have tk_r3 : True := trivial; have tk_r4 : True := trivial
        go_wp2_with (first | (have _t := tk_r1; (refine wpList_get rfl _ _ rfl _ _ rfl hM 1 rfl rowStake (by omega) ?_); clear tk_r1) | (have _t := tk_b3; refine wpList_zero rfl _ rfl zeroStake hM ?_; intro b3 W' hb3 hM'; clear hM tk_b3; have hM := hM'; clear hM') | (have _t := tk_r2; (refine wpList_lay rfl _ _ _ rfl _ _ rfl _ _ rfl hM 0 rfl (by assumption) rowStake (by omega) (fun _ _ => rfl) ?_; intro W' hM'; clear hM; have hM := hM'; clear hM'; simp only [List.set] at hM; have hM1 := hM.re 0 rfl (vStake (hs k)) (fun j hj => lay_stake _ hs k j hj); simp only [List.set_cons_zero] at hM1; clear hM; have hM := hM1; clear hM1); clear tk_r2) | (have _t := tk_r3; (refine wpList_get rfl _ _ rfl _ _ rfl hM 0 rfl rowStake (by omega) ?_); rw [el]; clear tk_r3) | (have _t := tk_r4; (refine wpList_get rfl _ _ rfl _ _ rfl hM 1 rfl (rowTab _ _ rfl) (by omega) ?_); rw [eg]; clear tk_r4) | (go_at_call 56; refine (stakeTold_any gMost (hs k) _).mono ?_; rintro e W' ⟨rfl, hb'⟩; rw [He.out]; have hM' := hM.call hb'; clear hM hb'; have hM := hM'; clear hM'))
        ((try simp only [Act.put, List.setIfInBounds_toArray, List.set_cons_succ, List.set_cons_zero]); refine region_reads [0, 1, 2, 3, 4, 5, 6, 7, 8, 9] #[true, true, true, true, true, true, true, true, true, true, false, false, false] 3 (by kernel_rfl) (by kernel_rfl) (by kernel_rfl) hM ?_; clear hM; (repeat (refine qs_plain rfl rfl ?_; first | (refine b_get1 _ _ rfl _ _ rfl 0 rfl (cellTab _ rfl) (by omega) _ e0 ?_; (simp only [Act.put, List.setIfInBounds_toArray, List.set_cons_succ, List.set_cons_zero])) | (refine b_get _ _ rfl _ _ rfl 0 rfl (rowTab _ 2 rfl) (by omega) ?_; rw [e1]; (simp only [Act.put, List.setIfInBounds_toArray, List.set_cons_succ, List.set_cons_zero])) | (refine b_call ?_; apply Exists.intro; apply Exists.intro; apply Exists.intro; refine ⟨fun W => ?_, fun W hM => ?_, ?_⟩; (go_simp; exact ⟨rfl, rfl⟩); (with_reducible exact HD.out W (HT.out.below hM.below)); (simp only [Act.put, List.setIfInBounds_toArray, List.set_cons_succ, List.set_cons_zero])) | (refine b_call ?_; apply Exists.intro; apply Exists.intro; apply Exists.intro; refine ⟨fun W => ?_, fun W hM => ?_, ?_⟩; (go_simp; exact ⟨rfl, rfl⟩); (with_reducible exact HX.out W (HT.out.below hM.below)); (simp only [Act.put, List.setIfInBounds_toArray, List.set_cons_succ, List.set_cons_zero])) | (refine b_val ⟨_, fun W => cat_op _ _ rfl _ _ rfl rfl (by simp only [List.length_append, List.length_cons, List.length_nil]; omega) W, ?_⟩; (simp only [Act.put, List.setIfInBounds_toArray, List.set_cons_succ, List.set_cons_zero])) | (refine b_val ?_; apply Exists.intro; refine ⟨fun W => ?_, ?_⟩; (go_simp; (try simp only [cd, if_true]); rfl); (simp only [Act.put, List.setIfInBounds_toArray, List.set_cons_succ, List.set_cons_zero])))); (with_reducible refine qs_nil ?_))
        ((refine mix_one (i := 10) (by kernel_rfl) rfl (by kernel_rfl) rfl ?_); (refine step_lit1 _ _ _ rfl (.string (bs (v ++ [47] ++ u))) (by first | rfl | simp) rfl _ strs_under strs_info ?_; intro l1 hl1; (simp only [Act.put, List.setIfInBounds_toArray, List.set_cons_succ, List.set_cons_zero])); (refine mix_one (i := 11) (by kernel_rfl) rfl (by kernel_rfl) rfl ?_); (refine step_push0 _ _ _ rfl _ 1 _ _ strs_under infoStringS rfl (by omega) rfl _ _ rfl (strF (stakeW hs)) Hq.out ?_; intro bL cL FL hbL hcL hFL; (simp only [Act.put, List.setIfInBounds_toArray, List.set_cons_succ, List.set_cons_zero])); (refine mix_one (i := 12) (by kernel_rfl) rfl (by kernel_rfl) rfl ?_); (refine step_val ?_; apply Exists.intro; refine ⟨fun W => ?_, ?_⟩; (go_simp; rfl); (simp only [Act.put, List.setIfInBounds_toArray, List.set_cons_succ, List.set_cons_zero])); (refine mix_end (by kernel_rfl) ?_; intro W' hM; simp only [List.cons_append, List.nil_append] at hM))
        go_wp2
        go_roundw
        case rel => exact ⟨k + 1, by omega, by go_num, Hs, by
          rw [Hn0.out]
          exact .inr ⟨bL, cL, FL, rfl, hbL, hcL, hFL, hM.skip⟩⟩
        case measure => simp [intOf]; omega
      · have Hf := Lib.hid hFF
        clear hFF
        have tk_b3 : True := trivial; have tk_r1 : True := trivial; have tk_r2 : True := trivial; have tk_r3 : True := trivial; have tk_r4 : True := trivial
        go_wp2_with (first | (have _t := tk_r1; (refine wpList_get rfl _ _ rfl _ _ rfl hM 2 rfl rowStake (by omega) ?_); clear tk_r1) | (have _t := tk_b3; refine wpList_zero rfl _ rfl zeroStake hM ?_; intro b3 W' hb3 hM'; clear hM tk_b3; have hM := hM'; clear hM') | (have _t := tk_r2; (refine wpList_lay rfl _ _ _ rfl _ _ rfl _ _ rfl hM 0 rfl (by assumption) rowStake (by omega) (fun _ _ => rfl) ?_; intro W' hM'; clear hM; have hM := hM'; clear hM'; simp only [List.set] at hM; have hM1 := hM.re 0 rfl (vStake (hs k)) (fun j hj => lay_stake _ hs k j hj); simp only [List.set_cons_zero] at hM1; clear hM; have hM := hM1; clear hM1); clear tk_r2) | (have _t := tk_r3; (refine wpList_get rfl _ _ rfl _ _ rfl hM 0 rfl rowStake (by omega) ?_); rw [el]; clear tk_r3) | (have _t := tk_r4; (refine wpList_get rfl _ _ rfl _ _ rfl hM 2 rfl (rowTab _ _ rfl) (by omega) ?_); rw [eg]; clear tk_r4) | (go_at_call 56; refine (stakeTold_any gMost (hs k) _).mono ?_; rintro e W' ⟨rfl, hb'⟩; rw [He.out]; have hM' := hM.call hb'; clear hM hb'; have hM := hM'; clear hM'))
        have hM1 := hM.toFront 1 rfl
        simp only [List.eraseIdx_cons_succ, List.eraseIdx_cons_zero] at hM1
        clear hM
        have hM := hM1
        clear hM1
        ((try simp only [Act.put, List.setIfInBounds_toArray, List.set_cons_succ, List.set_cons_zero]); refine region_readsX [0, 1, 2, 3, 4, 5, 6, 7, 8, 9] #[true, true, true, true, true, true, true, true, true, true, false, false, false] 3 [(bw, cw * 1, F)] (by kernel_rfl) (by kernel_rfl) (by kernel_rfl) hM ?_; clear hM; (repeat (refine qs_plain rfl rfl ?_; first | (refine b_get1 _ _ rfl _ _ rfl 0 rfl (cellTab _ rfl) (by omega) _ e0 ?_; (simp only [Act.put, List.setIfInBounds_toArray, List.set_cons_succ, List.set_cons_zero])) | (refine b_get _ _ rfl _ _ rfl 0 rfl (rowTab _ 2 rfl) (by omega) ?_; rw [e1]; (simp only [Act.put, List.setIfInBounds_toArray, List.set_cons_succ, List.set_cons_zero])) | (refine b_call ?_; apply Exists.intro; apply Exists.intro; apply Exists.intro; refine ⟨fun W => ?_, fun W hM => ?_, ?_⟩; (go_simp; exact ⟨rfl, rfl⟩); (with_reducible exact HD.out W (HT.out.below hM.below)); (simp only [Act.put, List.setIfInBounds_toArray, List.set_cons_succ, List.set_cons_zero])) | (refine b_call ?_; apply Exists.intro; apply Exists.intro; apply Exists.intro; refine ⟨fun W => ?_, fun W hM => ?_, ?_⟩; (go_simp; exact ⟨rfl, rfl⟩); (with_reducible exact HX.out W (HT.out.below hM.below)); (simp only [Act.put, List.setIfInBounds_toArray, List.set_cons_succ, List.set_cons_zero])) | (refine b_val ⟨_, fun W => cat_op _ _ rfl _ _ rfl rfl (by simp only [List.length_append, List.length_cons, List.length_nil]; omega) W, ?_⟩; (simp only [Act.put, List.setIfInBounds_toArray, List.set_cons_succ, List.set_cons_zero])) | (refine b_val ?_; apply Exists.intro; refine ⟨fun W => ?_, ?_⟩; (go_simp; (try simp only [cd, if_true]); rfl); (simp only [Act.put, List.setIfInBounds_toArray, List.set_cons_succ, List.set_cons_zero])))); (with_reducible refine qs_nil ?_))
        ((refine mix_one (i := 10) (by kernel_rfl) rfl (by kernel_rfl) rfl ?_); (refine step_lit1 _ _ _ rfl (.string (bs (v ++ [47] ++ u))) (by first | rfl | simp) rfl _ strs_under strs_info ?_; intro l1 hl1; (simp only [Act.put, List.setIfInBounds_toArray, List.set_cons_succ, List.set_cons_zero])); (refine mix_one (i := 11) (by kernel_rfl) rfl (by kernel_rfl) rfl ?_); (refine step_push1 _ _ _ rfl _ 1 _ _ strs_under infoStringS rfl (by omega) _ _ _ _ rfl hbb hnc hle _ _ rfl (fun _ _ => rfl) (strF (stakeW hs)) Hf.out HW.out ?_; intro bL cL FL hbL hcL hFL; (simp only [Act.put, List.setIfInBounds_toArray, List.set_cons_succ, List.set_cons_zero])); (refine mix_one (i := 12) (by kernel_rfl) rfl (by kernel_rfl) rfl ?_); (refine step_val ?_; apply Exists.intro; refine ⟨fun W => ?_, ?_⟩; (go_simp; rfl); (simp only [Act.put, List.setIfInBounds_toArray, List.set_cons_succ, List.set_cons_zero])); (refine mix_end (by kernel_rfl) ?_; intro W' hM; simp only [List.cons_append, List.nil_append] at hM))
        go_wp2
        go_roundw
        case rel => exact ⟨k + 1, by omega, by go_num, Hs, .inr ⟨bL, cL, FL, rfl, hbL, hcL, hFL, hM.skip⟩⟩
        case measure => simp [intOf]; omega
    · obtain rfl : k = n := by omega
      have HJ := Lib.hid (join_lst hL [32] 32 (fun j hj => stakeW_len (hall.out j hj)) (by simp only [List.length_cons, List.length_nil]; omega) (by omega))
      have Hp := Lib.hid (stakesT_yes (n := k) (by omega) hall.out)
      have hM := hL.mem
      go_wp2_with (first | (go_at_call 46; refine (HJ.out).mono ?_; rintro e W' ⟨rfl, hb'⟩; have hM' := hM.call hb'; clear hM hb'; have hM := hM'; clear hM'))
      go_ret
      exact ⟨ret_bs Hp.out.symm, hM.below⟩
end Go.Proofs.YtcdpdcjdjcbhcaaDoor

/-
  laws.FnExactStakesText returns true.
-/
namespace Go.Proofs.YtcdpdcjdjcbhcaaDoor
open Go Go.RowKit Go.BigFrame

set_option maxRecDepth 100000 in
set_option maxHeartbeats 2000000 in
theorem lawStakesText_any (v : Value) (n : Nat) (hs : Nat → Nat → Int) (hn : n ≤ maxLen) (hF : ∀ i, i < n → FitsStake (hs i)) (w : World) (hT : TabP w) (h : StakeArg w v n hs) :
    Calls Tryd.prog 5 #[v] w fun e w' => e = .returned (.bool true) ∧ Below w.heap.size w w' := by
  have hM := Mem.nil w
  have HG := Lib.hid h
  have Hn := Lib.hid hn
  have HF := Lib.hid hF
  have HT := Lib.hid hT
  clear h hn hF hT
  by_cases h1 : 1048576 < n
  · go_enter Tryd.func5, Tryd.ntmps5
    go_wp2_with (first | (go_at_call 18; (with_reducible refine (szStakeS_no v n hs 1048576 Hn.out (by omega) (by omega) (by omega) _ (HG.out.below hM.below)).mono ?_); rintro e W' ⟨rfl, hb'⟩; have hM' := hM.call hb'; clear hM hb'; have hM := hM'; clear hM'))
    go_ret
    exact ⟨rfl, hM.below⟩
  have d0 : decide ((1048576 : Int) - n < 0) = false := decide_eq_false (by omega)
  have d0' : decide ((1048576 : Int) < n) = false := decide_eq_false (by omega)
  have hn1 : n ≤ 1048576 := by omega
  have HS := Lib.hid (fun (b : Nat) (W : World) (hB : At W b (n * 3) (sStake hs)) => specStakesText_any b n n hs HF.out hn1 W hB)
  have HI := Lib.hid (fun (b : Nat) (W : World) (hT : TabP W) (hB : At W b (n * 3) (sStake hs)) => implStakesText_any b n n hs HF.out hn1 W hT hB)
  generalize bs (stakesT n hs) = tx at HS HI
  have tk_b1 : True := trivial; have tk_b2 : True := trivial; have tk_b3 : True := trivial
  go_enter Tryd.func5, Tryd.ntmps5
  go_wp2_with (first | (go_at_call 18; (with_reducible refine (szStakeS_yes v n hs 1048576 (by omega) (by omega) _ (HG.out.below hM.below)).mono ?_); rintro e W' ⟨rfl, hb'⟩; have hM' := hM.call hb'; clear hM hb'; have hM := hM'; clear hM') | (have _t := tk_b1; go_at_call 20; (with_reducible refine (toStakeS_any v n hs hn1 _ (HG.out.below hM.below)).mono ?_); rintro e W' ⟨b1, rfl, hb1, hA', hcb⟩; have hM' := hM.fresh' hcb hA' hb1; simp only [List.cons_append, List.nil_append] at hM'; clear hM hcb hA' tk_b1; have hM := hM'; clear hM') | (have _t := tk_b2; go_at_call 20; (with_reducible refine (toStakeS_any v n hs hn1 _ (HG.out.below hM.below)).mono ?_); rintro e W' ⟨b2, rfl, hb2, hA', hcb⟩; have hM' := hM.fresh' hcb hA' hb2; simp only [List.cons_append, List.nil_append] at hM'; clear hM hcb hA' tk_b2; have hM := hM'; clear hM') | (have _t := tk_b3; go_at_call 20; (with_reducible refine (toStakeS_any v n hs hn1 _ (HG.out.below hM.below)).mono ?_); rintro e W' ⟨b3, rfl, hb3, hA', hcb⟩; have hM' := hM.fresh' hcb hA' hb3; simp only [List.cons_append, List.nil_append] at hM'; clear hM hcb hA' tk_b3; have hM := hM'; clear hM') | (go_at_call 19; refine (HS.out _ _ (hM.ats 0 _ _ _ rfl)).mono ?_; rintro e W' ⟨rfl, hb'⟩; have hM' := hM.call hb'; clear hM hb'; have hM := hM'; clear hM') | (go_at_call 21; refine (HI.out _ _ (HT.out.below hM.below) (hM.ats 1 _ _ _ rfl)).mono ?_; rintro e W' ⟨rfl, hb'⟩; have hM' := hM.call hb'; clear hM hb'; have hM := hM'; clear hM') | (go_at_call 22; (with_reducible refine (eqStakeS_same _ _ n n n hs Hn.out _ (hM.ats 1 _ _ _ rfl) (hM.ats 2 _ _ _ rfl) (hM.apart 1 2 _ _ rfl rfl (by omega))).mono ?_); rintro e W' ⟨rfl, hb'⟩; have hM' := hM.call hb'; clear hM hb'; have hM := hM'; clear hM'))
  go_ret
  exact ⟨rfl, hM.below⟩
end Go.Proofs.YtcdpdcjdjcbhcaaDoor

