/-
  Several texts in one: Steps, Num, SameYardSpec, ReachSpec, ToSpot, ListK.
-/
import Derived.Test.YtmopcghkaapaoaaDoorP7
import Derived.Test.YtmopcghkaapaoaaDoorP1
import Derived.Test.YtmopcghkaapaoaaDoorP4
import Derived.Test.YtmopcghkaapaoaaDoorP5
import Derived.Deep.Slices
import Derived.ChangeSame
import Derived.Laws.MakeOwn
import Derived.Lib.Hide
/-
  spec.l01Steps by contract.
-/
namespace Go.Proofs.YtmopcghkaapaoaaDoor
open Go Go.RowKit Go.BigFrame

theorem upd_lay (z f : Nat → Value) (p : Nat) (v : Value) : ∀ k, k < 100 → upd (lay z 0 100 f) p v k = upd f p v k := fun k hk => by simp [upd, lay, hk]
theorem sp_sps1 (x y : Int) : ∀ j, j < 2 → sp x y (0 + j) = sps (sI [(x, y)]) j := fun j hj => by
  have := spsI_new [] x y hj
  simpa using this
theorem lay_sp00 (z : Nat → Value) (x y : Int) : ∀ k, k < 2 → lay z 0 2 (sp x y) (0 + k) = sp x y k := fun k hk => by rw [Nat.zero_add]; exact lay_sp z x y k hk

theorem lay_any (f G : Nat → Value) : ∀ k, k < 100 → lay f 0 100 (fun j => G (0 + j)) k = G k := fun k hk => by simp [lay, hk]

set_option maxRecDepth 100000 in
set_option maxHeartbeats 4000000 in
theorem l01Steps_any (g : Nat → Int) (hg : Fits g) (ho : okB g = true) (bp : Nat) (x y : Nat) (hx : x ≤ 9) (hy : y ≤ 9) (w : World) (hA : At w bp 122 (pas g)) :
    Calls Tryd.prog 47 #[.pointer (some ⟨bp, 0, none⟩), .agg (arr 2 (sp x y))] w fun e w' => e = .returned (.agg (arr 100 (mks (foundOf (nbOf g) ((x : Int), (y : Int))).d))) ∧ Below w.heap.size w w' := by
  have hM : Mem w [(bp, 122, pas g)] w := (Mem.nil w).old hA (fun i p h => by simp at h)
  have Ho := Lib.hid ho
  have lx : (x : Int) < 10 := by omega
  have ly : (y : Int) < 10 := by omega
  have hG0 : ∀ i, (foundAt (nbOf g) (found0 ((x : Int), (y : Int))) i).Good In10 := fun i => good_at (good_0 ⟨by simp, by simp; omega, by simp, by simp; omega⟩) (fun c _ n hn => nb_in ho hn) i
  have HG := Lib.hid hG0
  clear hA ho hG0
  have tk_b1 : True := trivial; have tk_b2 : True := trivial; have tk_b3 : True := trivial; have tk_b4 : True := trivial; have tk_n1 : True := trivial; have tk_q1 : True := trivial
  go_enter Tryd.func47, Tryd.ntmps47
  go_wp2_with (first | (have _t := tk_b1; refine wpList_box rfl _ _ rfl _ _ rfl hM ?_; intro b1 W' hb1 hM'; clear hM tk_b1; have hM := hM'; clear hM') | (have _t := tk_b2; refine wpList_zero rfl _ rfl (zeroTab _ _ _ rfl) hM ?_; intro b2 W' hb2 hM'; clear hM tk_b2; have hM := hM'; clear hM') | (have _t := tk_n1; refine wpList_buildN rfl rfl ?_; clear tk_n1) | (have _t := tk_b3; refine wpList_zero rfl _ rfl (zeroTab _ _ _ rfl) hM ?_; intro b3 W' hb3 hM'; clear hM tk_b3; have hM := hM'; clear hM') | (have _t := tk_q1; (refine wpList_lay rfl _ _ _ rfl _ _ rfl _ _ rfl hM 0 rfl (by assumption) (rowTab _ _ rfl) (by omega) ?_ ?_; (first | (intro _ _; rfl) | (intro k _; exact h1 _) | (intro k _; simp only [lay, upd]; (repeat' split) <;> first | exact h1 _ | rfl)); intro W' hM'; clear hM; have hM := hM'; clear hM'; simp only [List.set] at hM); clear tk_q1))
  ((try simp only [Act.put, List.setIfInBounds_toArray, List.set_cons_succ, List.set_cons_zero]); refine region_tail_mem (m := 6) (by kernel_rfl) (by kernel_rfl) ?_; (have hM' := hM.drew); clear hM; have hM := hM'; clear hM'; simp only [List.take_succ_cons, List.take_zero, List.drop_succ_cons, List.drop_zero]; (repeat (refine wps_plain rfl ?_; (first | (refine still_get1 hM _ _ rfl _ _ rfl 2 rfl (cellTab _ rfl) (by omega) (.int .i8 (y : Int)) rfl ?_) | (refine still_get1 hM _ _ rfl _ _ rfl 2 rfl (cellTab _ rfl) (by omega) (.int .i8 (x : Int)) rfl ?_) | (refine still_val ?_; apply Exists.intro; refine ⟨fun W => ?_, ?_⟩; (go_simp; (try simp only [lx, ly, Int.toNat_natCast, if_true]); rfl))); (simp only [Act.put, List.setIfInBounds_toArray, List.set_cons_succ, List.set_cons_zero]))); unfold wpStill)
  go_wp2_with (first | (refine wpList_set1 rfl _ _ _ rfl _ _ rfl (.int .i64 1) rfl rfl hM 0 rfl (by assumption) (cellTab _ rfl) (by omega) ?_; intro W' hM'; clear hM; have hM := hM'; clear hM'; simp only [List.set] at hM) | (refine wpList_get rfl _ _ rfl _ _ rfl hM 2 rfl (rowTab _ _ rfl) (by omega) ?_) | (have _t := tk_b4; refine wpList_slice1 rfl _ _ _ rfl _ _ rfl _ spot_under spot_info (by omega) (by omega) hM ?_; intro b4 W' hb4 hM'; clear hM tk_b4; have hM := hM'; clear hM'))
  have hM1 := hM.re 1 rfl (mks (found0 ((x : Int), (y : Int))).d) (fun k hk => (upd_lay _ _ _ _ k hk).trans (mks_upd _ hx 1 k))
  simp only [List.set] at hM1
  clear hM
  have hM := hM1
  clear hM1
  go_loopw [6, 7] (fun v i wr => ∃ k : Nat, k ≤ 100 ∧ i = .int .i64 k ∧ StIn w [(b2, 100, fun _ => .int .i64 0), (b1, 2, sp x y), (bp, 122, pas g)] b3 (foundAt (nbOf g) (found0 ((x : Int), (y : Int))) k) v wr) (fun _ i _ => 100 - (intOf i).toNat)
  case atStart => exact ⟨0, by omega, rfl, b4, 1, (fun k => sp (x : Int) (y : Int) (0 + k)), rfl, hb4, Nat.le_refl _, fun j hj => sp_sps1 _ _ j hj, hM⟩
  case round =>
    clear hM
    obtain ⟨k, hk, rfl, hL⟩ := hrel
    have hG := HG.out k
    have hstep := fun now => found_step (nb := nbOf g) (s0 := found0 ((x : Int), (y : Int))) (i := k) (now := now)
    have hend := found_all (nb := nbOf g) (a := ((x : Int), (y : Int))) hk
    have h100 := good_100 hG
    generalize foundAt (nbOf g) (found0 ((x : Int), (y : Int))) k = s at hL hG hstep hend h100
    obtain ⟨b, c, F, rfl, hb, hnc, hF, hM⟩ := hL
    by_cases hlt : k < s.q.length
    · have l2 : (k : Int) < (s.q.length : Int) := by omega
      clear hend
      obtain ⟨now, hnow⟩ : ∃ now, s.q[k]? = some now := ⟨_, List.getElem?_eq_getElem hlt⟩
      obtain ⟨u, v, rfl, hu, hv⟩ := nat_of_in (hG.cells now (List.mem_of_getElem? hnow))
      have hst := hstep _ hnow
      have hFk := sps_elem hnow hF
      have HF := Lib.hid hFk
      have Hst := Lib.hid hst
      have HGs := Lib.hid hG
      have HFa := Lib.hid hF
      clear hstep hnow hst hFk hG hF
      have hB := fun W hA => l01Beside_any g hg Ho.out bp (u : Int) (v : Int) (by omega) (by omega) W hA
      have hl4 := nb_len (g := g) (c := ((u : Int), (v : Int)))
      have hnbin := fun n => nb_in (g := g) (c := ((u : Int), (v : Int))) (n := n) Ho.out
      have hvis := fun t j n => visitAt_step (nb := nbOf g) (s := t) (now := ((u : Int), (v : Int))) (n := n) (j := j)
      have el : besL g (u : Int) (v : Int) 4 = nbOf g ((u : Int), (v : Int)) := rfl
      rw [el] at hB
      have HB := Lib.hid hB
      clear hB el
      rcases Nat.eq_zero_or_pos (nbOf g ((u : Int), (v : Int))).length with hn | hn
      · have Hn := Lib.hid hn
        have Hvis : Hid (visit (nbOf g) s ((u : Int), (v : Int)) = s) := Lib.hid (by rw [← visitAt_all (j := 0) (by omega), visitAt_0])
        clear hn hl4 hnbin hvis
        have tk_g1 : True := trivial; have tk_b8 : True := trivial; have tk_g2 : True := trivial
        go_wp2_with (first | (have _t := tk_g1; refine wpList_getE rfl _ _ rfl _ _ rfl hM 0 rfl (rowTab _ _ rfl) (by omega) (sp u v) HF.out ?_; clear tk_g1) | (have _t := tk_b8; refine wpList_zero rfl _ rfl (zeroTab _ _ _ rfl) hM ?_; intro b8 W' hb8 hM'; clear hM tk_b8; have hM := hM'; clear hM') | (refine wpList_lay rfl _ _ _ rfl _ _ rfl _ _ rfl hM 0 rfl (by assumption) (rowTab _ _ rfl) (by omega) ?_ ?_; (first | (intro _ _; rfl) | (intro k _; exact h1 _) | (intro k _; simp only [lay, upd]; (repeat' split) <;> first | exact h1 _ | rfl)); intro W' hM'; clear hM; have hM := hM'; clear hM'; simp only [List.set] at hM) | (have _t := tk_g2; refine wpList_getE rfl _ _ rfl _ _ rfl hM 0 rfl (rowTab _ _ rfl) (by omega) (sp u v) (lay_sp00 _ _ _) ?_; clear tk_g2) | (go_at_call 66; refine (HB.out _ (hM.ats 5 _ _ _ rfl)).mono ?_; rintro e W' ⟨v0, rfl, hL0⟩; obtain ⟨aA, cA, rfl, hbl⟩ := hL0.zero Hn.out; have hM' := hM.call hbl; clear hM hbl hL0; have hM := hM'; clear hM'))
        refine wp_loop_rounds 1 ?_
        rw [rounds_succ]
        go_wp2
        go_roundw
        case rel => exact ⟨k + 1, by omega, by go_num, by
          rw [Hst.out, Hvis.out]
          exact ⟨b, c, F, rfl, hb, hnc, HFa.out, hM.drop⟩⟩
        case measure => simp [intOf]; omega
      · have Hn := Lib.hid hn
        have hnp : 0 < (nbOf g ((u : Int), (v : Int))).length := hn
        have Hs0 : Hid (visitAt (nbOf g) s ((u : Int), (v : Int)) 0 = s) := Lib.hid visitAt_0
        have Hin := Lib.hid hnbin
        have Hvis := Lib.hid hvis
        clear hn hnbin hvis
        have tk_g1 : True := trivial; have tk_b8 : True := trivial; have tk_g2 : True := trivial
        go_wp2_with (first | (have _t := tk_g1; refine wpList_getE rfl _ _ rfl _ _ rfl hM 0 rfl (rowTab _ _ rfl) (by omega) (sp u v) HF.out ?_; clear tk_g1) | (have _t := tk_b8; refine wpList_zero rfl _ rfl (zeroTab _ _ _ rfl) hM ?_; intro b8 W' hb8 hM'; clear hM tk_b8; have hM := hM'; clear hM') | (refine wpList_lay rfl _ _ _ rfl _ _ rfl _ _ rfl hM 0 rfl (by assumption) (rowTab _ _ rfl) (by omega) ?_ ?_; (first | (intro _ _; rfl) | (intro k _; exact h1 _) | (intro k _; simp only [lay, upd]; (repeat' split) <;> first | exact h1 _ | rfl)); intro W' hM'; clear hM; have hM := hM'; clear hM'; simp only [List.set] at hM) | (have _t := tk_g2; refine wpList_getE rfl _ _ rfl _ _ rfl hM 0 rfl (rowTab _ _ rfl) (by omega) (sp u v) (lay_sp00 _ _ _) ?_; clear tk_g2) | (go_at_call 66; refine (HB.out _ (hM.ats 5 _ _ _ rfl)).mono ?_; rintro e W' ⟨v0, rfl, hL0⟩; obtain ⟨aA, cA, FA, rfl, hbA, hcA, hFA, hAA, hbl⟩ := hL0.some Hn.out; have hM' := hM.freshH hbl hAA hbA; clear hM hAA hbl hL0; have hM := hM'; clear hM'))
        have hM1 := (hM.re 1 rfl (sp u v) (lay_sp _ u v))
        simp only [List.set] at hM1
        have hM2 := hM1.two
        clear hM hM1
        have hM := hM2
        clear hM2
        have HFA := Lib.hid hFA
        clear hFA
        go_loopw [6, 10] (fun v' j wr => ∃ m : Nat, m ≤ (nbOf g ((u : Int), (v : Int))).length ∧ j = .int .i64 m ∧ StIn w [(aA, cA * 2, FA), (b8, 2, sp u v), (b2, 100, fun _ => .int .i64 0), (b1, 2, sp x y), (bp, 122, pas g)] b3 (visitAt (nbOf g) s ((u : Int), (v : Int)) m) v' wr) (fun _ j _ => 4 - (intOf j).toNat)
        case atStart => exact ⟨0, by omega, rfl, by rw [Hs0.out]; exact ⟨b, c, F, rfl, hb, hnc, HFa.out, hM⟩⟩
        case round =>
          clear hM
          obtain ⟨m, hm, rfl, hL⟩ := hrel
          have hGt := good_visitAt (nb := nbOf g) HGs.out Hin.out m
          have hvm := Hvis.out s m
          have hend2 := visitAt_all (nb := nbOf g) (s := s) (now := ((u : Int), (v : Int))) (j := m)
          generalize visitAt (nbOf g) s ((u : Int), (v : Int)) m = t at hL hGt hvm hend2
          obtain ⟨b', c', F', rfl, hb', hnc', hF', hM⟩ := hL
          have ht100 := good_100 hGt
          by_cases hlm : m < (nbOf g ((u : Int), (v : Int))).length
          · have l3 : (m : Int) < ((nbOf g ((u : Int), (v : Int))).length : Int) := by omega
            clear hend2
            obtain ⟨nxt, hnx⟩ : ∃ nxt, (nbOf g ((u : Int), (v : Int)))[m]? = some nxt := ⟨_, List.getElem?_eq_getElem hlm⟩
            obtain ⟨p, q, rfl, hp, hq⟩ := nat_of_in (Hin.out nxt (List.mem_of_getElem? hnx))
            have hFm := sps_elem hnx HFA.out
            have f0 : FA (m * 2) = .int .i8 (p : Int) := by simpa [sp] using hFm 0 (by omega)
            have f1 : FA (m * 2 + 1) = .int .i8 (q : Int) := by simpa [sp] using hFm 1 (by omega)
            have lp : (p : Int) < 10 := by omega
            have lq : (q : Int) < 10 := by omega
            have lu : (u : Int) < 10 := by omega
            have lv : (v : Int) < 10 := by omega
            have Hvm := Lib.hid (hvm _ hnx)
            have e0 := mks_at t.d (y := q) hp
            have e1 := mks_at t.d (y := v) hu
            have hlo := hGt.low ((u : Int), (v : Int))
            have hhi := hGt.high ((u : Int), (v : Int))
            have cw : IntKind.i64.wrap (t.d ((u : Int), (v : Int)) + 1) = t.d ((u : Int), (v : Int)) + 1 := IntWalk.i64_in _ (by omega)
            have HFm := Lib.hid hFm
            have HFt := Lib.hid hF'
            have HGt := Lib.hid hGt
            clear hFm hF' hGt hvm hnx hlo hhi
            by_cases hd : t.d ((p : Int), (q : Int)) = 0
            · rw [hd] at e0
              have Hd := Lib.hid hd
              have Hup := Lib.hid (fun k => mks_upd t.d (y := q) hp (t.d ((u : Int), (v : Int)) + 1) k)
              clear hd
              obtain ⟨du, hdu⟩ : ∃ du, du = t.d ((u : Int), (v : Int)) := ⟨_, rfl⟩
              rw [← hdu] at e1 cw Hup
              have Hdu := Lib.hid hdu
              clear hdu
              go_wp2
              ((try simp only [Act.put, List.setIfInBounds_toArray, List.set_cons_succ, List.set_cons_zero]); refine wp_region_mem (by kernel_rfl) (by kernel_rfl) hM ?_; clear hM; (repeat (first | go_big_quiet_skip | (go_big_quiet_want; first | (refine quiet_get1 _ _ rfl _ _ rfl 2 rfl (cellTab _ rfl) (by omega) _ (f1) ?_; (simp only [Act.put, List.setIfInBounds_toArray, List.set_cons_succ, List.set_cons_zero]); go_big_quiet_on) | (refine quiet_get1 _ _ rfl _ _ rfl 2 rfl (cellTab _ rfl) (by omega) _ (f0) ?_; (simp only [Act.put, List.setIfInBounds_toArray, List.set_cons_succ, List.set_cons_zero]); go_big_quiet_on) | (refine quiet_get1 _ _ rfl _ _ rfl 1 rfl (cellTab _ rfl) (by omega) _ (e0) ?_; (simp only [Act.put, List.setIfInBounds_toArray, List.set_cons_succ, List.set_cons_zero]); go_big_quiet_on) | (refine quiet_val ?_; apply Exists.intro; refine ⟨fun W => ?_, ?_⟩; (go_simp; (try simp only [l3, lp, lq, Int.toNat_natCast, if_true, Bool.false_eq_true, if_false]); rfl); (simp only [Act.put, List.setIfInBounds_toArray, List.set_cons_succ, List.set_cons_zero]); go_big_quiet_on)))); (with_reducible refine wpQuiet_nil ?_); intro W' hM)
              go_wp2
              ((try simp only [Act.put, List.setIfInBounds_toArray, List.set_cons_succ, List.set_cons_zero]); refine region_tail_mem (m := 20) (by kernel_rfl) (by kernel_rfl) ?_; (have hM' := hM.drew); clear hM; have hM := hM'; clear hM'; simp only [List.take_succ_cons, List.take_zero, List.drop_succ_cons, List.drop_zero]; (repeat (refine wps_plain rfl ?_; (first | (refine still_get1 hM _ _ rfl _ _ rfl 2 rfl (cellTab _ rfl) (by omega) _ (f1) ?_) | (refine still_get1 hM _ _ rfl _ _ rfl 2 rfl (cellTab _ rfl) (by omega) _ (f0) ?_) | (refine still_get1 hM _ _ rfl _ _ rfl 3 rfl (cellTab _ rfl) (by omega) (.int .i8 (v : Int)) rfl ?_) | (refine still_get1 hM _ _ rfl _ _ rfl 3 rfl (cellTab _ rfl) (by omega) (.int .i8 (u : Int)) rfl ?_) | (refine still_get1 hM _ _ rfl _ _ rfl 1 rfl (cellTab _ rfl) (by omega) _ (e1) ?_) | (refine still_val ?_; apply Exists.intro; refine ⟨fun W => ?_, ?_⟩; (go_simp; (try simp only [l3, lp, lq, lu, lv, cw, Int.toNat_natCast, if_true]); rfl))); (simp only [Act.put, List.setIfInBounds_toArray, List.set_cons_succ, List.set_cons_zero]))); unfold wpStill)
              have Hn1 : Hid (∀ j, j < 2 → sp (p : Int) (q : Int) j = sps (sI (t.q ++ [((p : Int), (q : Int))])) (t.q.length * 2 + j)) := Lib.hid (fun j hj => spsI_new t.q (p : Int) (q : Int) hj)
              have Hf1 : Hid (∀ j, j < t.q.length * 2 → F' j = sps (sI (t.q ++ [((p : Int), (q : Int))])) j) := Lib.hid (fun j hj => by rw [HFt.out j hj]; exact spsI_old _ hj)
              have hn1 : t.q.length ≤ 1048576 := by omega
              have tk_s1 : True := trivial; have tk_g3 : True := trivial; have tk_b9 : True := trivial; have tk_p1 : True := trivial
              go_wp2_with (first | (have _t := tk_s1; refine wpList_set1 rfl _ _ _ rfl _ _ rfl (.int .i64 (du + 1)) rfl rfl hM 1 rfl (by assumption) (cellTab _ rfl) (by omega) ?_; intro W' hM'; clear hM tk_s1; have hM := hM'; clear hM'; simp only [List.set] at hM) | (have _t := tk_g3; refine wpList_getE rfl _ _ rfl _ _ rfl hM 2 rfl (rowTab _ _ rfl) (by omega) (sp p q) HFm.out ?_; clear tk_g3) | (have _t := tk_b9; refine wpList_slice1 rfl _ _ _ rfl _ _ rfl _ spot_under spot_info (by omega) (by omega) hM ?_; intro b9 W' hb9 hM'; clear hM tk_b9; have hM := hM'; clear hM') | (have _t := tk_p1; refine wpList_push1 rfl _ _ _ rfl _ 2 _ _ spot_under spot_infoB rfl (by omega) _ _ _ _ rfl hb' hnc' hn1 _ _ rfl sp_one hM (sps (sI (t.q ++ [((p : Int), (q : Int))]))) Hf1.out Hn1.out ?_; intro bL cL FL W' hbL hcL hFL hM'; clear hM tk_p1; have hM := hM'; clear hM'))
              go_roundw
              case rel => exact ⟨m + 1, by omega, by go_num, by
                rw [Hvm.out, visit1, if_pos Hd.out]
                unfold StIn
                simp only [List.length_append, List.length_singleton]
                have hM1 := hM.re 1 rfl _ (fun j _ => Hup.out j)
                simp only [List.set] at hM1
                rw [← Hdu.out]
                exact ⟨bL, cL, FL, rfl, hbL, hcL, hFL, hM1⟩⟩
              case measure => simp [intOf]; omega
            · have Hd := Lib.hid hd
              obtain ⟨dp, hdp⟩ : ∃ dp, dp = t.d ((p : Int), (q : Int)) := ⟨_, rfl⟩
              rw [← hdp] at e0 hd
              have dz : decide (dp = 0) = false := decide_eq_false hd
              clear hdp
              go_wp2
              ((try simp only [Act.put, List.setIfInBounds_toArray, List.set_cons_succ, List.set_cons_zero]); refine wp_region_mem (by kernel_rfl) (by kernel_rfl) hM ?_; clear hM; (repeat (first | go_big_quiet_skip | (go_big_quiet_want; first | (refine quiet_get1 _ _ rfl _ _ rfl 2 rfl (cellTab _ rfl) (by omega) _ (f1) ?_; (simp only [Act.put, List.setIfInBounds_toArray, List.set_cons_succ, List.set_cons_zero]); go_big_quiet_on) | (refine quiet_get1 _ _ rfl _ _ rfl 2 rfl (cellTab _ rfl) (by omega) _ (f0) ?_; (simp only [Act.put, List.setIfInBounds_toArray, List.set_cons_succ, List.set_cons_zero]); go_big_quiet_on) | (refine quiet_get1 _ _ rfl _ _ rfl 1 rfl (cellTab _ rfl) (by omega) _ (e0) ?_; (simp only [Act.put, List.setIfInBounds_toArray, List.set_cons_succ, List.set_cons_zero]); go_big_quiet_on) | (refine quiet_val ?_; apply Exists.intro; refine ⟨fun W => ?_, ?_⟩; (go_simp; (try simp only [l3, lp, lq, Int.toNat_natCast, if_true, Bool.false_eq_true, if_false]); rfl); (simp only [Act.put, List.setIfInBounds_toArray, List.set_cons_succ, List.set_cons_zero]); go_big_quiet_on)))); (with_reducible refine wpQuiet_nil ?_); intro W' hM)
              go_wp2
              go_roundw
              case rel => exact ⟨m + 1, by omega, by go_num, by
                rw [Hvm.out, visit1, if_neg Hd.out]
                exact ⟨b', c', F', rfl, hb', hnc', HFt.out, hM⟩⟩
              case measure => simp [intOf]; omega
          · have l3 : ¬ (m : Int) < ((nbOf g ((u : Int), (v : Int))).length : Int) := by omega
            have He := Lib.hid (hend2 (by omega))
            have HFt := Lib.hid hF'
            clear hend2 hvm hGt hF'
            go_wp2
            go_roundw
            case rel => exact ⟨k + 1, by omega, by go_num, by
              rw [Hst.out, ← He.out]
              exact ⟨b', c', F', rfl, hb', hnc', HFt.out, hM.two.drop.drop⟩⟩
            case measure => simp [intOf]; omega
    · have l2 : ¬ (k : Int) < (s.q.length : Int) := by omega
      have He := Lib.hid (hend (by omega))
      clear hend hstep hG hF
      go_wp2_with (first | (refine wpList_get rfl _ _ rfl _ _ rfl hM 1 rfl (rowTab _ _ rfl) (by omega) ?_) | (refine wpList_lay rfl _ _ _ rfl _ _ rfl _ _ rfl hM 2 rfl (by assumption) (rowTab _ _ rfl) (by omega) ?_ ?_; (first | (intro _ _; rfl) | (intro k _; exact h1 _) | (intro k _; simp only [lay, upd]; (repeat' split) <;> first | exact h1 _ | rfl)); intro W' hM'; clear hM; have hM := hM'; clear hM'; simp only [List.set] at hM))
      exact bodyPost_ret (results_at rfl _ rfl ((hM.ats 2 _ _ _ rfl).congr (lay_any _ _)) (rowTab _ _ rfl)) rfl ⟨by rw [He.out], hM.below⟩
end Go.Proofs.YtmopcghkaapaoaaDoor

/-
  A number and a code, as results.
-/
namespace Go.Proofs.YtmopcghkaapaoaaDoor
open Go Go.RowKit

/-- A number and a code. -/
def numR (n c : Int) : Value := .tuple #[.int .i64 n, .int .i64 c]
theorem numR_eq (n c : Int) : numR n c = .tuple #[.int .i64 n, .int .i64 c] := rfl
theorem ret_num {n n' c c' : Int} (h : n = n') (h' : c = c') : Ending.returned (.tuple #[.int .i64 n, .int .i64 c]) = .returned (numR n' c') := by rw [h, h', numR_eq]
end Go.Proofs.YtmopcghkaapaoaaDoor

/-
  spec.SameYard by contract.
-/
namespace Go.Proofs.YtmopcghkaapaoaaDoor
open Go Go.RowKit Go.BigFrame

/-- Two cells of one yard. -/
def sameB (g : Nat → Int) (a b : Int × Int) : Bool := decide ((foundOf (nbOf g) a).d b > 0)
def sameA (g : Nat → Int) (x y u v : Int) : Bool := if askC g x y (isB g u v) = 0 then sameB g (x, y) (u, v) else false
theorem askC_0 {g : Nat → Int} {x y : Int} {f : Bool} (h : askC g x y f = 0) : okB g = true ∧ isB g x y = true ∧ f = true := by
  unfold askC at h
  cases ho : okB g <;> cases hi : isB g x y <;> cases f <;> simp_all

set_option maxRecDepth 100000 in
set_option maxHeartbeats 1000000 in
theorem specSameYard_any (g : Nat → Int) (hg : Fits g) (x y u v : Int) (hx : -128 ≤ x ∧ x ≤ 127) (hy : -128 ≤ y ∧ y ≤ 127) (hu : -128 ≤ u ∧ u ≤ 127) (hv : -128 ≤ v ∧ v ≤ 127) (w : World) :
    Calls Tryd.prog 13 #[.agg (arr 122 (pas g)), .agg (arr 2 (sp x y)), .agg (arr 2 (sp u v))] w fun e w' => e = .returned (.tuple #[.bool (sameA g x y u v), .int .i64 (askC g x y (isB g u v))]) ∧ Below w.heap.size w w' := by
  have hM := Mem.nil w
  have Hx := Lib.hid hx
  have Hy := Lib.hid hy
  have Hu := Lib.hid hu
  have Hv := Lib.hid hv
  clear hx hy hu hv
  by_cases h0 : askC g x y (isB g u v) = 0
  · obtain ⟨ho, hi, hj⟩ := askC_0 h0
    obtain ⟨x', y', e1, hx', hy'⟩ := nat_of_in (in10_of ho hi)
    obtain ⟨u', v', e2, hu', hv'⟩ := nat_of_in (in10_of ho hj)
    simp only [Prod.mk.injEq] at e1 e2
    obtain ⟨rfl, rfl⟩ := e1
    obtain ⟨rfl, rfl⟩ := e2
    have hs : sameA g (x' : Int) (y' : Int) (u' : Int) (v' : Int) = sameB g ((x' : Int), (y' : Int)) ((u' : Int), (v' : Int)) := if_pos h0
    rw [hs, h0]
    unfold sameB
    have lu : (u' : Int) < 10 := by omega
    have lv : (v' : Int) < 10 := by omega
    have e0 := mks_at (foundOf (nbOf g) ((x' : Int), (y' : Int))).d (y := v') hu'
    have Hi := Lib.hid hj
    have Hc : Hid (askC g (x' : Int) (y' : Int) true = 0) := Lib.hid (by rw [← hj]; exact h0)
    have Ho := Lib.hid ho
    clear h0 hi hj hs ho
    generalize hD : (foundOf (nbOf g) ((x' : Int), (y' : Int))).d = D at e0
    have tk_b1 : True := trivial; have tk_b2 : True := trivial; have tk_b3 : True := trivial; have tk_b9 : True := trivial
    go_enter Tryd.func13, Tryd.ntmps13
    go_wp2_with (first | (have _t := tk_b1; refine wpList_box rfl _ _ rfl _ _ rfl hM ?_; intro b1 W' hb1 hM'; clear hM tk_b1; have hM := hM'; clear hM') | (have _t := tk_b2; refine wpList_box rfl _ _ rfl _ _ rfl hM ?_; intro b2 W' hb2 hM'; clear hM tk_b2; have hM := hM'; clear hM') | (have _t := tk_b3; refine wpList_box rfl _ _ rfl _ _ rfl hM ?_; intro b3 W' hb3 hM'; clear hM tk_b3; have hM := hM'; clear hM'))
    ((try simp only [Act.put, List.setIfInBounds_toArray, List.set_cons_succ, List.set_cons_zero]); refine wp_region_mem (by kernel_rfl) (by kernel_rfl) hM ?_; clear hM; (repeat (first | go_big_quiet_skip | (go_big_quiet_want; first | (refine quiet_get _ _ rfl _ _ rfl 1 rfl (rowTab _ _ rfl) (by omega) ?_; (simp only [Act.put, List.setIfInBounds_toArray, List.set_cons_succ, List.set_cons_zero]); go_big_quiet_on) | (refine quiet_get _ _ rfl _ _ rfl 0 rfl (rowTab _ _ rfl) (by omega) ?_; (simp only [Act.put, List.setIfInBounds_toArray, List.set_cons_succ, List.set_cons_zero]); go_big_quiet_on) | (refine quiet_call ?_; apply Exists.intro; apply Exists.intro; apply Exists.intro; refine ⟨fun W => ?_, fun W hM => ?_, ?_⟩; (go_simp; exact ⟨rfl, rfl⟩); (exact l01Is_any g hg _ _ _ Hu.out Hv.out W (hM.ats 2 _ _ _ rfl)); (simp only [Hi.out]); (simp only [Act.put, List.setIfInBounds_toArray, List.set_cons_succ, List.set_cons_zero]); go_big_quiet_on) | (refine quiet_call ?_; apply Exists.intro; apply Exists.intro; apply Exists.intro; refine ⟨fun W => ?_, fun W hM => ?_, ?_⟩; (go_simp; exact ⟨rfl, rfl⟩); (exact l01Asked_any g hg _ _ _ Hx.out Hy.out _ W (hM.ats 2 _ _ _ rfl)); (simp only [Hc.out]); (simp only [Act.put, List.setIfInBounds_toArray, List.set_cons_succ, List.set_cons_zero]); go_big_quiet_on) | (refine quiet_val ?_; apply Exists.intro; refine ⟨fun W => ?_, ?_⟩; (go_simp; rfl); (simp only [Act.put, List.setIfInBounds_toArray, List.set_cons_succ, List.set_cons_zero]); go_big_quiet_on)))); (with_reducible refine wpQuiet_nil ?_); intro W' hM)
    go_wp2_with (first | (refine wpList_get rfl _ _ rfl _ _ rfl hM 1 rfl (rowTab _ _ rfl) (by omega) ?_) | (go_at_call 47; refine (l01Steps_any g hg Ho.out _ x' y' hx' hy' _ (hM.ats 2 _ _ _ rfl)).mono ?_; rintro e W' ⟨rfl, hb'⟩; have hM' := hM.call hb'; clear hM hb'; have hM := hM'; clear hM') | (have _t := tk_b9; refine wpList_zero rfl _ rfl (zeroTab _ _ _ rfl) hM ?_; intro b9 W' hb9 hM'; clear hM tk_b9; have hM := hM'; clear hM') | (refine wpList_lay rfl _ _ _ rfl _ _ rfl _ _ rfl hM 0 rfl (by assumption) (rowTab _ _ rfl) (by omega) ?_ ?_; (first | (intro _ _; rfl) | (intro k _; exact h1 _) | (intro k _; simp only [lay, upd]; (repeat' split) <;> first | exact h1 _ | rfl)); intro W' hM'; clear hM; have hM := hM'; clear hM'; simp only [List.set] at hM))
    have hM1 := hM.re 0 rfl (mks D) (fun k hk => by simp [lay, hk])
    simp only [List.set_cons_zero] at hM1
    clear hM
    have hM := hM1
    clear hM1
    ((try simp only [Act.put, List.setIfInBounds_toArray, List.set_cons_succ, List.set_cons_zero]); refine wp_region_mem (by kernel_rfl) (by kernel_rfl) hM ?_; clear hM; (repeat (first | go_big_quiet_skip | (go_big_quiet_want; first | (refine quiet_get1 _ _ rfl _ _ rfl 1 rfl (cellTab _ rfl) (by omega) (.int .i8 (v' : Int)) rfl ?_; (simp only [Act.put, List.setIfInBounds_toArray, List.set_cons_succ, List.set_cons_zero]); go_big_quiet_on) | (refine quiet_get1 _ _ rfl _ _ rfl 1 rfl (cellTab _ rfl) (by omega) (.int .i8 (u' : Int)) rfl ?_; (simp only [Act.put, List.setIfInBounds_toArray, List.set_cons_succ, List.set_cons_zero]); go_big_quiet_on) | (refine quiet_get1 _ _ rfl _ _ rfl 0 rfl (cellTab _ rfl) (by omega) _ (e0) ?_; (simp only [Act.put, List.setIfInBounds_toArray, List.set_cons_succ, List.set_cons_zero]); go_big_quiet_on) | (refine quiet_val ?_; apply Exists.intro; refine ⟨fun W => ?_, ?_⟩; (go_simp; (try simp only [lu, lv, Int.toNat_natCast, if_true, Bool.false_eq_true, if_false]); rfl); (simp only [Act.put, List.setIfInBounds_toArray, List.set_cons_succ, List.set_cons_zero]); go_big_quiet_on)))); (with_reducible refine wpQuiet_nil ?_); intro W' hM)
    go_wp2
    go_ret2
    exact ⟨rfl, hM.below⟩
  · rw [show sameA g x y u v = false from if_neg h0]
    have Hn := Lib.hid h0
    obtain ⟨i, hi⟩ : ∃ i, isB g u v = i := ⟨_, rfl⟩
    have Hi := Lib.hid hi
    obtain ⟨c, hc⟩ : ∃ c, askC g x y i = c := ⟨_, rfl⟩
    have Hc := Lib.hid hc
    have hz : ¬ c = 0 := by rw [← hc, ← hi]; exact h0
    rw [hi, hc]
    clear h0 hi hc Hn
    have tk_b1 : True := trivial; have tk_b2 : True := trivial; have tk_b3 : True := trivial
    go_enter Tryd.func13, Tryd.ntmps13
    go_wp2_with (first | (have _t := tk_b1; refine wpList_box rfl _ _ rfl _ _ rfl hM ?_; intro b1 W' hb1 hM'; clear hM tk_b1; have hM := hM'; clear hM') | (have _t := tk_b2; refine wpList_box rfl _ _ rfl _ _ rfl hM ?_; intro b2 W' hb2 hM'; clear hM tk_b2; have hM := hM'; clear hM') | (have _t := tk_b3; refine wpList_box rfl _ _ rfl _ _ rfl hM ?_; intro b3 W' hb3 hM'; clear hM tk_b3; have hM := hM'; clear hM'))
    ((try simp only [Act.put, List.setIfInBounds_toArray, List.set_cons_succ, List.set_cons_zero]); refine wp_region_mem (by kernel_rfl) (by kernel_rfl) hM ?_; clear hM; (repeat (first | go_big_quiet_skip | (go_big_quiet_want; first | (refine quiet_get _ _ rfl _ _ rfl 1 rfl (rowTab _ _ rfl) (by omega) ?_; (simp only [Act.put, List.setIfInBounds_toArray, List.set_cons_succ, List.set_cons_zero]); go_big_quiet_on) | (refine quiet_get _ _ rfl _ _ rfl 0 rfl (rowTab _ _ rfl) (by omega) ?_; (simp only [Act.put, List.setIfInBounds_toArray, List.set_cons_succ, List.set_cons_zero]); go_big_quiet_on) | (refine quiet_call ?_; apply Exists.intro; apply Exists.intro; apply Exists.intro; refine ⟨fun W => ?_, fun W hM => ?_, ?_⟩; (go_simp; exact ⟨rfl, rfl⟩); (exact l01Is_any g hg _ _ _ Hu.out Hv.out W (hM.ats 2 _ _ _ rfl)); (simp only [Hi.out]); (simp only [Act.put, List.setIfInBounds_toArray, List.set_cons_succ, List.set_cons_zero]); go_big_quiet_on) | (refine quiet_call ?_; apply Exists.intro; apply Exists.intro; apply Exists.intro; refine ⟨fun W => ?_, fun W hM => ?_, ?_⟩; (go_simp; exact ⟨rfl, rfl⟩); (exact l01Asked_any g hg _ _ _ Hx.out Hy.out _ W (hM.ats 2 _ _ _ rfl)); (simp only [Hc.out]); (simp only [Act.put, List.setIfInBounds_toArray, List.set_cons_succ, List.set_cons_zero]); go_big_quiet_on) | (refine quiet_val ?_; apply Exists.intro; refine ⟨fun W => ?_, ?_⟩; (go_simp; rfl); (simp only [Act.put, List.setIfInBounds_toArray, List.set_cons_succ, List.set_cons_zero]); go_big_quiet_on)))); (with_reducible refine wpQuiet_nil ?_); intro W' hM)
    go_wp2
    go_ret2
    exact ⟨rfl, hM.below⟩
end Go.Proofs.YtmopcghkaapaoaaDoor

/-
  spec.l05List and spec.StepsReach by contracts.
-/
namespace Go.Proofs.YtmopcghkaapaoaaDoor
open Go Go.RowKit Go.BigFrame

/-- A maskV of the widest pasture. -/
def maskV (p : Nat → Nat → Bool) : Nat → Value := fun k => .bool (p (k % 10) (k / 10))
theorem maskV_at (p : Nat → Nat → Bool) {x y : Nat} (hx : x < 10) : maskV p (y * 10 + x) = .bool (p x y) := by
  unfold maskV
  rw [show (y * 10 + x) % 10 = x by omega, show (y * 10 + x) / 10 = y by omega]
def ThatIn (w : Base) (K : Blocks) (p : Nat → Nat → Bool) (i : Nat) (v : Value) (wr : World) : Prop := Lst w K 2 v (thatF p (upto 10 i)).length (sps (sL (thatF p (upto 10 i)))) wr
theorem upto_len (W i : Nat) : (upto W i).length = i := by simp [upto]

set_option maxRecDepth 100000 in
set_option maxHeartbeats 1000000 in
theorem l05List_any (p : Nat → Nat → Bool) (b1 : Nat) (w : World) (hA : At w b1 100 (maskV p)) :
    Calls Tryd.prog 70 #[.pointer (some ⟨b1, 0, none⟩)] w (Gives1 w (thatF p (upto 10 (10 * 10)))) := by
  have hM : Mem w [(b1, 100, maskV p)] w := (Mem.nil w).old hA (fun i p h => by simp at h)
  clear hA
  have tk_b2 : True := trivial
  go_enter Tryd.func70, Tryd.ntmps70
  go_wp2_with (first | (have _t := tk_b2; refine wpList_slice0 rfl _ _ rfl _ spot_under rfl hM ?_; intro b2 W' hb2 hM'; clear hM tk_b2; have hM := hM'; clear hM'))
  go_loopw [3, 4] (fun v y wr => ∃ k : Nat, k ≤ 10 ∧ y = .int .i8 k ∧ ThatIn w [(b1, 100, maskV p)] p (k * 10) v wr) (fun _ y _ => 10 - (intOf y).toNat)
  case atStart => exact ⟨0, by omega, rfl, by rw [Nat.zero_mul]; exact .inr ⟨b2, 0, fun _ => undef, rfl, hb2, Nat.le_refl _, fun j hj => absurd hj (by simp [thatF, upto]), hM⟩⟩
  case round =>
    clear hM
    obtain ⟨k, hk, rfl, hL⟩ := hrel
    by_cases hlt : k < 10
    · have hkd : decide ((k : Int) < 10) = true := decide_eq_true (by omega)
      go_wp2
      go_loopw [3, 5] (fun v x wr => ∃ j : Nat, j ≤ 10 ∧ x = .int .i8 j ∧ ThatIn w [(b1, 100, maskV p)] p (k * 10 + j) v wr) (fun _ x _ => 10 - (intOf x).toNat)
      case atStart => exact ⟨0, by omega, rfl, hL⟩
      case round =>
        clear hL
        obtain ⟨j, hj, rfl, hL⟩ := hrel
        by_cases hjl : j < 10
        · have hjd : decide ((j : Int) < 10) = true := decide_eq_true (by omega)
          have lx : (j : Int) < 10 := by omega
          have ly : (k : Int) < 10 := by omega
          have cg : wr.cell? ⟨b1, k * 10 + j, none⟩ = some (.bool (p j k)) := by rw [← maskV_at p hjl]; exact (hL.mem.ats 0 _ _ _ rfl).cell (by omega)
          cases hz : p j k
          · have Hy := Lib.hid (thatU_no (W := 10) hjl hz)
            rw [hz] at cg
            clear hz
            go_wp2
            go_roundw
            case rel => exact ⟨j + 1, by omega, by go_num, by unfold ThatIn; rw [Hy.out]; exact hL⟩
            case measure => simp [intOf]; omega
          · have hsp : #[Value.int .i8 (j : Int), Value.int .i8 (k : Int)] = arr 2 (sp j k) := rfl
            have hnew := fun q hq => sps_new (thatF p (upto 10 (k * 10 + j))) j k (j := q) hq
            have hold := fun q hq => sps_old (l := thatF p (upto 10 (k * 10 + j))) (j, k) (j := q) hq
            have hl : (thatF p (upto 10 (k * 10 + j))).length ≤ k * 10 + j := Nat.le_trans thatF_len (Nat.le_of_eq (upto_len _ _))
            have Hn := Lib.hid hnew
            have Hy := Lib.hid (thatU_yes (W := 10) hjl hz)
            rw [hz] at cg
            clear hnew hz
            rcases hL with ⟨rfl, hn0, hM⟩ | ⟨b, c, F, rfl, hb, hnc, hF, hM⟩
            · have Hq : Hid (∀ q, q < 2 → sp (j : Int) (k : Int) q = sps (sL (thatF p (upto 10 (k * 10 + j)) ++ [(j, k)])) q) := Lib.hid (fun q hq => by have := Hn.out q hq; rwa [hn0, Nat.zero_mul, Nat.zero_add] at this)
              clear hold hl
              have tk_b3 : True := trivial; have tk_p1 : True := trivial
              go_wp2_with (first | (have _t := tk_b3; refine wpList_slice1 rfl _ _ _ rfl _ _ rfl _ spot_under spot_info (by omega) (by omega) hM ?_; intro b3 W' hb3 hM'; clear hM tk_b3; have hM := hM'; clear hM') | (have _t := tk_p1; refine wpList_push0 rfl _ _ _ rfl _ 2 _ _ spot_under spot_infoB rfl (by omega) rfl _ _ rfl hM (sps (sL (thatF p (upto 10 (k * 10 + j)) ++ [(j, k)]))) Hq.out ?_; intro bL cL FL W' hbL hcL hFL hM'; clear hM tk_p1; have hM := hM'; clear hM'))
              go_roundw
              case rel => exact ⟨j + 1, by omega, by go_num, by
                unfold ThatIn
                rw [Hy.out, List.length_append, hn0]
                exact .inr ⟨bL, cL, FL, rfl, hbL, hcL, hFL, hM⟩⟩
              case measure => simp [intOf]; omega
            · have Hf : Hid (∀ q, q < (thatF p (upto 10 (k * 10 + j))).length * 2 → F q = sps (sL (thatF p (upto 10 (k * 10 + j)) ++ [(j, k)])) q) := Lib.hid (fun q hq => by rw [hF q hq]; exact hold q hq)
              have hn : (thatF p (upto 10 (k * 10 + j))).length ≤ 1048576 := by omega
              clear hold hl hF
              have tk_b3 : True := trivial; have tk_p1 : True := trivial
              go_wp2_with (first | (have _t := tk_b3; refine wpList_slice1 rfl _ _ _ rfl _ _ rfl _ spot_under spot_info (by omega) (by omega) hM ?_; intro b3 W' hb3 hM'; clear hM tk_b3; have hM := hM'; clear hM') | (have _t := tk_p1; refine wpList_push1 rfl _ _ _ rfl _ 2 _ _ spot_under spot_infoB rfl (by omega) _ _ _ _ rfl hb hnc hn _ _ rfl sp_one hM (sps (sL (thatF p (upto 10 (k * 10 + j)) ++ [(j, k)]))) Hf.out Hn.out ?_; intro bL cL FL W' hbL hcL hFL hM'; clear hM tk_p1; have hM := hM'; clear hM'))
              go_roundw
              case rel => exact ⟨j + 1, by omega, by go_num, by
                unfold ThatIn
                rw [Hy.out, List.length_append]
                exact .inr ⟨bL, cL, FL, rfl, hbL, hcL, hFL, hM⟩⟩
              case measure => simp [intOf]; omega
        · obtain rfl : j = 10 := by omega
          go_wp2
          go_roundw
          case rel => exact ⟨k + 1, by omega, by go_num, by rw [Nat.add_mul, Nat.one_mul]; exact hL⟩
          case measure => simp [intOf]; omega
    · obtain rfl : k = 10 := by omega
      go_wp2
      go_ret
      exact ⟨_, rfl, hL.only⟩

/-- Within so many steps? -/
def withinB (d : Int × Int → Int) (st : Int) (u v : Nat) : Bool := decide (0 < d ((u : Int), (v : Int))) && decide (d ((u : Int), (v : Int)) ≤ st + 1)
def reachC (g : Nat → Int) (x y st : Int) : Int := askC g x y (inB 0 200 st)
def reachL (g : Nat → Int) (x y st : Int) : List (Nat × Nat) := if reachC g x y st = 0 then thatF (withinB (foundOf (nbOf g) (x, y)).d st) (upto 10 (10 * 10)) else []
/-- The first i cells of the maskV are told. -/
def MaskTo (p : Nat → Nat → Bool) (i : Nat) : Nat → Value := fun k => if k < i then maskV p k else .bool false
theorem maskTo_set (p : Nat → Nat → Bool) (i : Nat) (k : Nat) : upd (MaskTo p i) i (maskV p i) k = MaskTo p (i + 1) k := by
  unfold upd MaskTo
  by_cases e : k = i
  · subst e; simp
  · rw [if_neg e]
    by_cases h : k < i
    · rw [if_pos h, if_pos (by omega)]
    · rw [if_neg h, if_neg (by omega)]
theorem build_bools (W : World) : (Instr.build 103 #[]).run Tryd.prog W = .ok (.agg (arr 100 fun _ => .bool false)) W := by kernel_rfl
theorem wpList_buildB {ops : Array Oper} {rest : List Oper} {o : Oper} {a : Act} {W : World} {Q : Exit → Act → World → Prop} (hgd : o.guard = none) (ho : o.op = .build 103 #[])
    (h : wpList Tryd.prog ops Q rest (a.put o.dst (.agg (arr 100 fun _ => .bool false))) W) : wpList Tryd.prog ops Q (o :: rest) a W := by
  refine wpList_plain hgd fun K hK => ?_
  unfold Oper.wp execOp
  simp only [ho, Array.map_empty, Sem.run_bind, Sem.run_pure, build_bools, Result.andThen_ok]
  exact hK _ _ h

set_option maxRecDepth 100000 in
set_option maxHeartbeats 4000000 in
theorem specStepsReach_any (g : Nat → Int) (hg : Fits g) (x y st : Int) (hx : -128 ≤ x ∧ x ≤ 127) (hy : -128 ≤ y ∧ y ≤ 127) (w : World) :
    Calls Tryd.prog 36 #[.agg (arr 122 (pas g)), .agg (arr 2 (sp x y)), .int .i64 st] w (GivesS w (reachL g x y st) (reachC g x y st)) := by
  have hM := Mem.nil w
  have Hx := Lib.hid hx
  have Hy := Lib.hid hy
  clear hx hy
  by_cases h0 : reachC g x y st = 0
  · have hl : reachL g x y st = thatF (withinB (foundOf (nbOf g) (x, y)).d st) (upto 10 (10 * 10)) := if_pos h0
    rw [hl, h0]
    obtain ⟨ho, hi, hj⟩ := askC_0 h0
    obtain ⟨x', y', e1, hx', hy'⟩ := nat_of_in (in10_of ho hi)
    simp only [Prod.mk.injEq] at e1
    obtain ⟨rfl, rfl⟩ := e1
    have hst := inB_true hj
    have cst : IntKind.i64.wrap (st + 1) = st + 1 := IntWalk.i64_in _ (by omega)
    have Hi := Lib.hid hj
    have Hc : Hid (askC g (x' : Int) (y' : Int) true = 0) := Lib.hid (by rw [← hj]; exact h0)
    have Ho := Lib.hid ho
    clear h0 hi hj ho hl hst
    generalize hD : (foundOf (nbOf g) ((x' : Int), (y' : Int))).d = D
    have HD := Lib.hid hD
    clear hD
    have tk_b1 : True := trivial; have tk_b2 : True := trivial; have tk_b9 : True := trivial; have tk_n1 : True := trivial; have tk_b10 : True := trivial; have tk_l1 : True := trivial; have tk_l2 : True := trivial
    go_enter Tryd.func36, Tryd.ntmps36
    go_wp2_with (first | (have _t := tk_b1; refine wpList_box rfl _ _ rfl _ _ rfl hM ?_; intro b1 W' hb1 hM'; clear hM tk_b1; have hM := hM'; clear hM') | (have _t := tk_b2; refine wpList_box rfl _ _ rfl _ _ rfl hM ?_; intro b2 W' hb2 hM'; clear hM tk_b2; have hM := hM'; clear hM'))
    ((try simp only [Act.put, List.setIfInBounds_toArray, List.set_cons_succ, List.set_cons_zero]); refine wp_region_mem (by kernel_rfl) (by kernel_rfl) hM ?_; clear hM; (repeat (first | go_big_quiet_skip | (go_big_quiet_want; first | (refine quiet_get _ _ rfl _ _ rfl 0 rfl (rowTab _ _ rfl) (by omega) ?_; (simp only [Act.put, List.setIfInBounds_toArray, List.set_cons_succ, List.set_cons_zero]); go_big_quiet_on) | (refine quiet_call ?_; apply Exists.intro; apply Exists.intro; apply Exists.intro; refine ⟨fun W => ?_, fun W hM => ?_, ?_⟩; (go_simp; exact ⟨rfl, rfl⟩); (with_reducible exact l00In_any st 0 200 W); (simp only [Hi.out]); (simp only [Act.put, List.setIfInBounds_toArray, List.set_cons_succ, List.set_cons_zero]); go_big_quiet_on) | (refine quiet_call ?_; apply Exists.intro; apply Exists.intro; apply Exists.intro; refine ⟨fun W => ?_, fun W hM => ?_, ?_⟩; (go_simp; exact ⟨rfl, rfl⟩); (exact l01Asked_any g hg _ _ _ Hx.out Hy.out _ W (hM.ats 1 _ _ _ rfl)); (simp only [Hc.out]); (simp only [Act.put, List.setIfInBounds_toArray, List.set_cons_succ, List.set_cons_zero]); go_big_quiet_on) | (refine quiet_val ?_; apply Exists.intro; refine ⟨fun W => ?_, ?_⟩; (go_simp; rfl); (simp only [Act.put, List.setIfInBounds_toArray, List.set_cons_succ, List.set_cons_zero]); go_big_quiet_on)))); (with_reducible refine wpQuiet_nil ?_); intro W' hM)
    go_wp2_with (first | (refine wpList_get rfl _ _ rfl _ _ rfl hM 0 rfl (rowTab _ _ rfl) (by omega) ?_) | (go_at_call 47; refine (l01Steps_any g hg Ho.out _ x' y' hx' hy' _ (hM.ats 1 _ _ _ rfl)).mono ?_; rintro e W' ⟨rfl, hb'⟩; rw [HD.out]; have hM' := hM.call hb'; clear hM hb'; have hM := hM'; clear hM') | (have _t := tk_b9; refine wpList_zero rfl _ rfl (zeroTab _ _ _ rfl) hM ?_; intro b9 W' hb9 hM'; clear hM tk_b9; have hM := hM'; clear hM') | (have _t := tk_l1; (refine wpList_lay rfl _ _ _ rfl _ _ rfl _ _ rfl hM 0 rfl (by assumption) (rowTab _ _ rfl) (by omega) ?_ ?_; (first | (intro _ _; rfl) | (intro k _; exact h1 _) | (intro k _; simp only [lay, upd]; (repeat' split) <;> first | exact h1 _ | rfl)); intro W' hM'; clear hM; have hM := hM'; clear hM'; simp only [List.set] at hM); clear tk_l1) | (have _t := tk_n1; refine wpList_buildB rfl rfl ?_; clear tk_n1) | (have _t := tk_b10; refine wpList_zero rfl _ rfl (zeroTab _ _ _ rfl) hM ?_; intro b10 W' hb10 hM'; clear hM tk_b10; have hM := hM'; clear hM') | (have _t := tk_l2; (refine wpList_lay rfl _ _ _ rfl _ _ rfl _ _ rfl hM 0 rfl (by assumption) (rowTab _ _ rfl) (by omega) ?_ ?_; (first | (intro _ _; rfl) | (intro k _; exact h1 _) | (intro k _; simp only [lay, upd]; (repeat' split) <;> first | exact h1 _ | rfl)); intro W' hM'; clear hM; have hM := hM'; clear hM'; simp only [List.set] at hM); clear tk_l2))
    have hM1 := hM.re 0 rfl (MaskTo (withinB D st) 0) (fun k hk => by simp [lay, hk, MaskTo])
    simp only [List.set_cons_zero] at hM1
    have hM2 := hM1.re 1 rfl (mks D) (fun k hk => by simp [lay, hk])
    simp only [List.set_cons_succ, List.set_cons_zero] at hM2
    clear hM hM1
    have hM := hM2
    clear hM2
    go_loopw [11] (fun y wr => ∃ k : Nat, k ≤ 10 ∧ y = .int .i64 k ∧ Mem w [(b10, 100, MaskTo (withinB D st) (k * 10)), (b9, 100, mks D), (b2, 2, sp (x' : Int) (y' : Int)), (b1, 122, pas g)] wr) (fun y _ => 10 - (intOf y).toNat)
    case atStart => exact ⟨0, by omega, rfl, hM⟩
    case round =>
      clear hM
      obtain ⟨k, hk, rfl, hM⟩ := hrel
      by_cases hlt : k < 10
      · have hkd : decide ((k : Int) < 10) = true := decide_eq_true (by omega)
        go_wp2
        go_loopw [12] (fun z wr => ∃ j : Nat, j ≤ 10 ∧ z = .int .i64 j ∧ Mem w [(b10, 100, MaskTo (withinB D st) (k * 10 + j)), (b9, 100, mks D), (b2, 2, sp (x' : Int) (y' : Int)), (b1, 122, pas g)] wr) (fun z _ => 10 - (intOf z).toNat)
        case atStart => exact ⟨0, by omega, rfl, hM⟩
        case round =>
          clear hM
          obtain ⟨j, hj, rfl, hM⟩ := hrel
          by_cases hjl : j < 10
          · have lx : (j : Int) < 10 := by omega
            have ly : (k : Int) < 10 := by omega
            have e0 := mks_at D (y := k) (show j ≤ 9 by omega)
            rcases (show D ((j : Int), (k : Int)) ≤ 0 ∨ (0 < D ((j : Int), (k : Int)) ∧ st + 1 < D ((j : Int), (k : Int))) ∨ (0 < D ((j : Int), (k : Int)) ∧ D ((j : Int), (k : Int)) ≤ st + 1) by omega) with r0 | ⟨r0, r1⟩ | ⟨r0, r1⟩
            · have d0 : decide (0 < D ((j : Int), (k : Int))) = false := decide_eq_false (by omega)
              have Hw : Hid (withinB D st j k = false) := Lib.hid (by unfold withinB; rw [d0]; rfl)
              clear r0
              go_wp2
              ((try simp only [Act.put, List.setIfInBounds_toArray, List.set_cons_succ, List.set_cons_zero]); refine region_head_mem (m := 20) (by kernel_rfl) (by kernel_rfl) hM ?_; clear hM; simp only [List.take_succ_cons, List.take_zero, List.drop_succ_cons, List.drop_zero]; (repeat (first | go_big_quiet_skip | (go_big_quiet_want; first | (refine quiet_get1 _ _ rfl _ _ rfl 1 rfl (cellTab _ rfl) (by omega) _ (e0) ?_; (simp only [Act.put, List.setIfInBounds_toArray, List.set_cons_succ, List.set_cons_zero]); go_big_quiet_on) | (refine quiet_val ?_; apply Exists.intro; refine ⟨fun W => ?_, ?_⟩; (go_simp; (try simp only [lx, ly, cst, d0, if_true, Bool.false_eq_true, if_false]); rfl); (simp only [Act.put, List.setIfInBounds_toArray, List.set_cons_succ, List.set_cons_zero]); go_big_quiet_on)))); (with_reducible refine wpQuiet_nil ?_); intro W' hM)
              (refine wpList_set1 rfl _ _ _ rfl _ _ rfl _ rfl ?_ hM 0 rfl (by assumption) (cellTab _ rfl) (by omega) ?_; (first | rfl | exact h1 _); intro W' hM'; clear hM; have hM := hM'; clear hM'; simp [List.set, Act.eval] at hM)
              have hM1 := hM.re 0 rfl (MaskTo (withinB D st) (k * 10 + (j + 1))) (fun q _ => by
                rw [← Nat.add_assoc, ← maskTo_set, maskV_at _ hjl, Hw.out])
              simp only [List.set_cons_zero] at hM1
              go_wp2
              go_roundw
              case rel => exact ⟨j + 1, by omega, by go_num, hM1⟩
              case measure => simp [intOf]; omega
            · have d0 : decide (0 < D ((j : Int), (k : Int))) = true := decide_eq_true r0
              have d1 : decide (D ((j : Int), (k : Int)) ≤ st + 1) = false := decide_eq_false (by omega)
              have Hw : Hid (withinB D st j k = false) := Lib.hid (by unfold withinB; rw [d0, d1]; rfl)
              clear r0 r1
              go_wp2
              ((try simp only [Act.put, List.setIfInBounds_toArray, List.set_cons_succ, List.set_cons_zero]); refine region_head_mem (m := 20) (by kernel_rfl) (by kernel_rfl) hM ?_; clear hM; simp only [List.take_succ_cons, List.take_zero, List.drop_succ_cons, List.drop_zero]; (repeat (first | go_big_quiet_skip | (go_big_quiet_want; first | (refine quiet_get1 _ _ rfl _ _ rfl 1 rfl (cellTab _ rfl) (by omega) _ (e0) ?_; (simp only [Act.put, List.setIfInBounds_toArray, List.set_cons_succ, List.set_cons_zero]); go_big_quiet_on) | (refine quiet_val ?_; apply Exists.intro; refine ⟨fun W => ?_, ?_⟩; (go_simp; (try simp only [lx, ly, cst, d0, d1, if_true, Bool.false_eq_true, if_false]); rfl); (simp only [Act.put, List.setIfInBounds_toArray, List.set_cons_succ, List.set_cons_zero]); go_big_quiet_on)))); (with_reducible refine wpQuiet_nil ?_); intro W' hM)
              (refine wpList_set1 rfl _ _ _ rfl _ _ rfl _ rfl ?_ hM 0 rfl (by assumption) (cellTab _ rfl) (by omega) ?_; (first | rfl | exact h1 _); intro W' hM'; clear hM; have hM := hM'; clear hM'; simp [List.set, Act.eval] at hM)
              have hM1 := hM.re 0 rfl (MaskTo (withinB D st) (k * 10 + (j + 1))) (fun q _ => by
                rw [← Nat.add_assoc, ← maskTo_set, maskV_at _ hjl, Hw.out])
              simp only [List.set_cons_zero] at hM1
              go_wp2
              go_roundw
              case rel => exact ⟨j + 1, by omega, by go_num, hM1⟩
              case measure => simp [intOf]; omega
            · have d0 : decide (0 < D ((j : Int), (k : Int))) = true := decide_eq_true r0
              have d1 : decide (D ((j : Int), (k : Int)) ≤ st + 1) = true := decide_eq_true r1
              have Hw : Hid (withinB D st j k = true) := Lib.hid (by unfold withinB; rw [d0, d1]; rfl)
              clear r0 r1
              go_wp2
              ((try simp only [Act.put, List.setIfInBounds_toArray, List.set_cons_succ, List.set_cons_zero]); refine region_head_mem (m := 20) (by kernel_rfl) (by kernel_rfl) hM ?_; clear hM; simp only [List.take_succ_cons, List.take_zero, List.drop_succ_cons, List.drop_zero]; (repeat (first | go_big_quiet_skip | (go_big_quiet_want; first | (refine quiet_get1 _ _ rfl _ _ rfl 1 rfl (cellTab _ rfl) (by omega) _ (e0) ?_; (simp only [Act.put, List.setIfInBounds_toArray, List.set_cons_succ, List.set_cons_zero]); go_big_quiet_on) | (refine quiet_val ?_; apply Exists.intro; refine ⟨fun W => ?_, ?_⟩; (go_simp; (try simp only [lx, ly, cst, d0, d1, if_true, Bool.false_eq_true, if_false]); rfl); (simp only [Act.put, List.setIfInBounds_toArray, List.set_cons_succ, List.set_cons_zero]); go_big_quiet_on)))); (with_reducible refine wpQuiet_nil ?_); intro W' hM)
              (refine wpList_set1 rfl _ _ _ rfl _ _ rfl _ rfl ?_ hM 0 rfl (by assumption) (cellTab _ rfl) (by omega) ?_; (first | rfl | exact h1 _); intro W' hM'; clear hM; have hM := hM'; clear hM'; simp [List.set, Act.eval] at hM)
              have hM1 := hM.re 0 rfl (MaskTo (withinB D st) (k * 10 + (j + 1))) (fun q _ => by
                rw [← Nat.add_assoc, ← maskTo_set, maskV_at _ hjl, Hw.out])
              simp only [List.set_cons_zero] at hM1
              go_wp2
              go_roundw
              case rel => exact ⟨j + 1, by omega, by go_num, hM1⟩
              case measure => simp [intOf]; omega
          · obtain rfl : j = 10 := by omega
            go_wp2
            go_roundw
            case rel => exact ⟨k + 1, by omega, by go_num, by rw [Nat.add_mul, Nat.one_mul]; exact hM⟩
            case measure => simp [intOf]; omega
      · obtain rfl : k = 10 := by omega
        have hM1 := hM.re 0 rfl (maskV (withinB D st)) (fun q hq => by simp [MaskTo, hq])
        simp only [List.set_cons_zero] at hM1
        clear hM
        have hM := hM1
        clear hM1
        go_wp2_with (go_at_call 70; refine (l05List_any (withinB D st) b10 _ (hM.ats 0 _ _ _ rfl)).mono ?_; rintro e W' ⟨v0, rfl, hL0⟩; have hU := Lst.up hM hL0; clear hL0)
        go_ret2
        exact ⟨_, rfl, hU.1⟩
  · have hl : reachL g x y st = [] := if_neg h0
    rw [hl]
    have Hn := Lib.hid h0
    obtain ⟨i, hi⟩ : ∃ i, inB 0 200 st = i := ⟨_, rfl⟩
    have Hi := Lib.hid hi
    obtain ⟨c, hc⟩ : ∃ c, askC g x y i = c := ⟨_, rfl⟩
    have Hc := Lib.hid hc
    have hz : ¬ c = 0 := by rw [← hc, ← hi]; exact h0
    have hcc : reachC g x y st = c := by unfold reachC; rw [hi, hc]
    rw [hcc]
    clear h0 hi hc Hn hl hcc
    have tk_b1 : True := trivial; have tk_b2 : True := trivial; have tk_b3 : True := trivial
    go_enter Tryd.func36, Tryd.ntmps36
    go_wp2_with (first | (have _t := tk_b1; refine wpList_box rfl _ _ rfl _ _ rfl hM ?_; intro b1 W' hb1 hM'; clear hM tk_b1; have hM := hM'; clear hM') | (have _t := tk_b2; refine wpList_box rfl _ _ rfl _ _ rfl hM ?_; intro b2 W' hb2 hM'; clear hM tk_b2; have hM := hM'; clear hM'))
    ((try simp only [Act.put, List.setIfInBounds_toArray, List.set_cons_succ, List.set_cons_zero]); refine wp_region_mem (by kernel_rfl) (by kernel_rfl) hM ?_; clear hM; (repeat (first | go_big_quiet_skip | (go_big_quiet_want; first | (refine quiet_get _ _ rfl _ _ rfl 0 rfl (rowTab _ _ rfl) (by omega) ?_; (simp only [Act.put, List.setIfInBounds_toArray, List.set_cons_succ, List.set_cons_zero]); go_big_quiet_on) | (refine quiet_call ?_; apply Exists.intro; apply Exists.intro; apply Exists.intro; refine ⟨fun W => ?_, fun W hM => ?_, ?_⟩; (go_simp; exact ⟨rfl, rfl⟩); (with_reducible exact l00In_any st 0 200 W); (simp only [Hi.out]); (simp only [Act.put, List.setIfInBounds_toArray, List.set_cons_succ, List.set_cons_zero]); go_big_quiet_on) | (refine quiet_call ?_; apply Exists.intro; apply Exists.intro; apply Exists.intro; refine ⟨fun W => ?_, fun W hM => ?_, ?_⟩; (go_simp; exact ⟨rfl, rfl⟩); (exact l01Asked_any g hg _ _ _ Hx.out Hy.out _ W (hM.ats 1 _ _ _ rfl)); (simp only [Hc.out]); (simp only [Act.put, List.setIfInBounds_toArray, List.set_cons_succ, List.set_cons_zero]); go_big_quiet_on) | (refine quiet_val ?_; apply Exists.intro; refine ⟨fun W => ?_, ?_⟩; (go_simp; rfl); (simp only [Act.put, List.setIfInBounds_toArray, List.set_cons_succ, List.set_cons_zero]); go_big_quiet_on)))); (with_reducible refine wpQuiet_nil ?_); intro W' hM)
    go_wp2_with (first | (have _t := tk_b3; refine wpList_slice0 rfl _ _ rfl _ spot_under rfl hM ?_; intro b3 W' hb3 hM'; clear hM tk_b3; have hM := hM'; clear hM'))
    go_ret2
    exact ⟨_, rfl, Lst.only (.inr ⟨b3, 0, fun _ => undef, rfl, hb3, Nat.le_refl _, fun j hj => absurd hj (by simp), hM⟩)⟩
end Go.Proofs.YtmopcghkaapaoaaDoor

/-
  laws.toSpot by contract.
-/
namespace Go.Proofs.YtmopcghkaapaoaaDoor
open Go Go.RowKit Go.BigFrame

set_option maxHeartbeats 400000 in
theorem toSpot_any (f : Nat → Value) (h1 : ∀ k, (f k).oneCell' = true) (w : World) :
    Calls Tryd.prog 15 #[.agg (arr 2 f)] w fun e w' => e = .returned (.agg (arr 2 f)) ∧ Below w.heap.size w w' := by
  have hM := Mem.nil w
  have tk_b1 : True := trivial; have tk_b2 : True := trivial; have tk_b3 : True := trivial
  go_enter Tryd.func15, Tryd.ntmps15
  go_wp2_with (first | (have _t := tk_b1; refine wpList_box rfl _ _ rfl _ _ rfl hM ?_; intro b1 W' hb1 hM'; clear hM tk_b1; have hM := hM'; clear hM') | (have _t := tk_b2; refine wpList_zero rfl _ rfl (zeroTab _ _ _ rfl) hM ?_; intro b2 W' hb2 hM'; clear hM tk_b2; have hM := hM'; clear hM') | (have _t := tk_b3; refine wpList_zero rfl _ rfl (zeroTab _ _ _ rfl) hM ?_; intro b3 W' hb3 hM'; clear hM tk_b3; have hM := hM'; clear hM') | (refine wpList_get1 rfl _ _ rfl _ _ rfl hM 2 rfl (cellTab _ rfl) (by omega) _ rfl ?_) | (refine wpList_set1 rfl _ _ _ rfl _ _ rfl _ rfl ?_ hM 0 rfl (by assumption) (cellTab _ rfl) (by omega) ?_; (first | rfl | exact h1 _); intro W' hM'; clear hM; have hM := hM'; clear hM'; simp [List.set, Act.eval] at hM) | (refine wpList_get rfl _ _ rfl _ _ rfl hM 0 rfl (rowTab _ _ rfl) (by omega) ?_) | (refine wpList_lay rfl _ _ _ rfl _ _ rfl _ _ rfl hM 1 rfl (by assumption) (rowTab _ _ rfl) (by omega) ?_ ?_; (first | (intro _ _; rfl) | (intro k _; exact h1 _) | (intro k _; simp only [lay, upd]; (repeat' split) <;> first | exact h1 _ | rfl)); intro W' hM'; clear hM; have hM := hM'; clear hM'; simp only [List.set] at hM))
  have hA := (hM.ats 1 _ _ _ rfl).congr (g := f) (fun k hk => by
    rcases (show k = 0 ∨ k = 1 by omega) with rfl | rfl <;> rfl)
  exact bodyPost_ret (results_at rfl _ rfl hA (rowTab _ _ rfl)) rfl ⟨rfl, hM.below⟩

end Go.Proofs.YtmopcghkaapaoaaDoor

/-
  Lists as arguments: make; what lies in memory of old; a number and a spot out of a reading.
-/
namespace Go.Proofs.YtmopcghkaapaoaaDoor
open Go Go.RowKit Go.BigFrame Go.ChangeShapes Go.WideShapes Go.Deep

/-! ### make -/
variable {P : Program} {ops : Array Oper} {rest : List Oper} {o : Oper} {a : Act} {w : Base} {W : World} {Q : Exit → Act → World → Prop} {L : Blocks}
theorem made_arr (m N : Nat) (z : Nat → Value) (hm : 0 < m) : madeCells (arr m z) N = arr N (fun k => z (k % m)) := by
  refine arr_ext (by simp [madeCells]) (fun k hk => ?_)
  have : k % m < m := Nat.mod_lt _ hm
  simp [madeCells, hk, arr_size, getElem!_def, arr_at this]
theorem wpList_make (hgd : o.guard = none) (t e : TypeId) (x y : Operand) (ho : o.op = .makeSlice t x y) (n : Nat) (hx : a.eval x = .int .i64 n) (hy : a.eval y = .int .i64 n) (m : Nat) (z : Nat → Value) (bs : Nat)
    (hu : P.underlying t = some (.slice e)) (hz : (P.info? e).map (fun i => (i.size, i.zero, i.bytes)) = some (m, some (.agg (arr m z)), bs)) (hm : 0 < m) (hbs : bs ≤ 1000) (hn : n ≤ 1048576) (hM : Mem w L W)
    (h : ∀ b W', w.B ≤ b → Mem w ((b, n * m, fun k => z (k % m)) :: L) W' → wpList P ops Q rest (a.put o.dst (.slice (some ⟨b, 0, none⟩) n n)) W') : wpList P ops Q (o :: rest) a W := by
  obtain ⟨ie, hie, hq⟩ := Option.map_eq_some_iff.1 hz
  simp only [Prod.mk.injEq] at hq
  obtain ⟨q1, q2, q3⟩ := hq
  refine wpList_plain hgd fun K hK => ?_
  have hb : (ie.bytes : Int) * (n : Int) ≤ 281474976710656 := by
    rw [q3]
    have : bs * n ≤ 1000 * 1048576 := Nat.mul_le_mul hbs hn
    have h2 : ((bs * n : Nat) : Int) ≤ 1000 * 1048576 := by omega
    rw [Int.natCast_mul] at h2
    omega
  have hr := run_make (P := P) W t e ie (.agg (arr m z)) hu hie q2 .i64 .i64 n n (by omega) (Int.le_refl _) hb (by omega)
  simp only [Int.toNat_natCast, Value.cells, q1, made_arr m _ z hm] at hr
  unfold Oper.wp execOp
  simp only [ho, hx, hy, Sem.run_bind, Sem.run_pure, hr, Result.andThen_ok]
  exact hK _ _ (h _ _ hM.size (hM.alloc e (n * m) _))

/-- A block of a call that lets lie all that lay, beside those that are known. -/
theorem Mem.fresh' {b0 : Base} {L : Blocks} {X X' : World} {b n : Nat} {f : Nat → Value} (hM : Mem b0 L X) (hb : Below X.heap.size X X') (ha : At X' b n f) (hge : X.heap.size ≤ b) : Mem b0 (L ++ [(b, n, f)]) X' :=
  (hM.call hb).old ha (fun i p h e => by
    have := (hM.ats i p.1 p.2.1 p.2.2 h).lt
    omega)

/-! ### What lies in memory of old -/
def Lies (W : World) (b o n : Nat) (f : Nat → Value) : Prop := ∀ k, k < n → W.cell? ⟨b, o + k, none⟩ = some (f k)
theorem Lies.below {w W : World} {b o n : Nat} {f : Nat → Value} (h : Lies w b o n f) (hb : Below w.heap.size w W) : Lies W b o n f := fun k hk => by
  have := h k hk
  rw [hb.cell (p := ⟨b, o + k, none⟩) (block_lt_of_cell this)]
  exact this
theorem wpList_getL (hgd : o.guard = none) (ty : TypeId) (x : Operand) (ho : o.op = .load ty x) (b off : Nat) (hx : a.eval x = .pointer (some ⟨b, off, none⟩)) (b0 n : Nat) {f : Nat → Value}
    (hL : Lies W b b0 n f) {m : Nat} (hT : RowT P ty m) (i : Nat) (hi : off = b0 + i) (hle : i + m ≤ n)
    (h : wpList P ops Q rest (a.put o.dst (.agg (arr m (fun k => f (i + k))))) W) : wpList P ops Q (o :: rest) a W := by
  obtain ⟨⟨d, hu, hd⟩, hm⟩ := hT
  subst hi
  have hr : W.rangeAt b (b0 + i) (arr m (fun k => f (i + k))).toList := fun j v hv => by
    rw [arr_toList] at hv
    have hj : j < m := by have := (List.getElem?_eq_some_iff.1 hv).1; simpa using this
    simp [hj] at hv
    rw [← hv, Nat.add_assoc]
    exact hL (i + j) (by omega)
  exact wpList_load_mid hgd ty x ho b (b0 + i) hx (arr m (fun k => f (i + k))).toList d hr hu hd (by rw [hm]; simp [arr_size]) (by simpa using h)

section
variable {H : Type} {enc : TypeId × Value → H} {w : World} {base : Nat} {spare : Nat → Bool} {held : Bool}
theorem trod_num {t : TypeId} {κ : IntKind} (ht : Tryd.prog.underlying t = some (.int κ)) {fuel : Nat} {cs : List Value} {x : DataW H × List MemPlace} (h : DataW.trod enc Tryd.prog w base spare held fuel t cs = some x) : ∃ n, cs = [.int κ n] ∧ κ.has n := by
  obtain ⟨n, h1, -, h2⟩ := DataW.trod_int ht h
  exact ⟨n, h1, by simpa [Lit.wf, IntKind.has] using h2⟩
set_option maxRecDepth 100000 in
theorem spot_cells {fuel : Nat} {cs : List Value} {x : DataW H × List MemPlace} (h : DataW.trod enc Tryd.prog w base spare held fuel 31 cs = some x) :
    ∃ p q : Int, cs = [.int .i8 p, .int .i8 q] ∧ (-128 ≤ p ∧ p ≤ 127) ∧ (-128 ≤ q ∧ q ≤ 127) := by
  obtain ⟨xs, n, -, -, hlen, hxl, hf⟩ := DataW.trod_struct Tryd.underlying31 h
  have e : Tryd.prog.cellsOf 31 = 2 := by kernel_rfl
  have e8 : Tryd.prog.cellsOf 22 = 1 := by kernel_rfl
  rw [e] at hlen
  match cs, hlen with
  | [c0, c1], _ =>
    match xs, hxl with
    | [y0, y1], _ =>
      have h0 := hf 0 _ rfl
      have h1 := hf 1 _ rfl
      change DataW.trod _ _ _ _ _ _ _ 22 ((List.drop 0 [c0, c1]).take (Tryd.prog.cellsOf 22)) = some y0 at h0
      change DataW.trod _ _ _ _ _ _ _ 22 ((List.drop 1 [c0, c1]).take (Tryd.prog.cellsOf 22)) = some y1 at h1
      rw [e8] at h0 h1
      obtain ⟨p, hp, bp⟩ := trod_num Tryd.underlying22 h0
      obtain ⟨q, hq, bq⟩ := trod_num Tryd.underlying22 h1
      simp at hp hq
      exact ⟨p, q, by rw [hp, hq], has_i8 bp, has_i8 bq⟩
end
end Go.Proofs.YtmopcghkaapaoaaDoor

