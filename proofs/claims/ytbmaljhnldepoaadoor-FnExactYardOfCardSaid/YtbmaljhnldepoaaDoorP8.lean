/-
  Several texts in one: Steps, Num, SameYardSpec, Walk, NbSymm, YardSpec, SpotCmp, SpotOrd, YardMath.
-/
import Derived.Test.YtbmaljhnldepoaaDoorP7
import Derived.Test.YtbmaljhnldepoaaDoorP1
import Derived.Test.YtbmaljhnldepoaaDoorP4
import Derived.Lib.Small
import Derived.Lib.Walk
import Derived.Sort.Grow
import Derived.RangeFuncRecord
import Derived.Deep.Draws
import Derived.StillTailTactics
import Derived.Sort.Statements
import Derived.Test.YtbmaljhnldepoaaDoorP3
/-
  spec.l01Steps by contract.
-/
namespace Go.Proofs.YtbmaljhnldepoaaDoor
open Go Go.RowKit Go.BigFrame

theorem upd_lay (z f : Nat → Value) (p : Nat) (v : Value) : ∀ k, k < 100 → upd (lay z 0 100 f) p v k = upd f p v k := fun k hk => by simp [upd, lay, hk]
theorem sp_sps1 (x y : Int) : ∀ j, j < 2 → sp x y (0 + j) = sps (sI [(x, y)]) j := fun j hj => by
  have := spsI_new [] x y hj
  simpa using this
theorem lay_sp00 (z : Nat → Value) (x y : Int) : ∀ k, k < 2 → lay z 0 2 (sp x y) (0 + k) = sp x y k := fun k hk => by rw [Nat.zero_add]; exact lay_sp z x y k hk

theorem lay_any (f G : Nat → Value) : ∀ k, k < 100 → lay f 0 100 (fun j => G (0 + j)) k = G k := fun k hk => by simp [lay, hk]

set_option maxRecDepth 100000 in
set_option maxHeartbeats 4000000 in
theorem l01Steps_any (g : Nat → Int) (hg : Fits g) (ho : okB g = true) (bp : Nat) (x y : Nat) (hx : x ≤ 9) (hy : y ≤ 9) (w : World) (hA : At w bp 122 (pas g)) :
    Calls Tryd.prog 69 #[.pointer (some ⟨bp, 0, none⟩), .agg (arr 2 (sp x y))] w fun e w' => e = .returned (.agg (arr 100 (mks (foundOf (nbOf g) ((x : Int), (y : Int))).d))) ∧ Below w.heap.size w w' := by
  have hM : Mem w [(bp, 122, pas g)] w := (Mem.nil w).old hA (fun i p h => by simp at h)
  have Ho := Lib.hid ho
  have lx : (x : Int) < 10 := by omega
  have ly : (y : Int) < 10 := by omega
  have hG0 : ∀ i, (foundAt (nbOf g) (found0 ((x : Int), (y : Int))) i).Good In10 := fun i => good_at (good_0 ⟨by simp, by simp; omega, by simp, by simp; omega⟩) (fun c _ n hn => nb_in ho hn) i
  have HG := Lib.hid hG0
  clear hA ho hG0
  have tk_b1 : True := trivial; have tk_b2 : True := trivial; have tk_b3 : True := trivial; have tk_b4 : True := trivial; have tk_n1 : True := trivial; have tk_q1 : True := trivial
  go_enter Tryd.func69, Tryd.ntmps69
  go_wp2_with (first | (have _t := tk_b1; refine wpList_box rfl _ _ rfl _ _ rfl hM ?_; intro b1 W' hb1 hM'; clear hM tk_b1; have hM := hM'; clear hM') | (have _t := tk_b2; refine wpList_zero rfl _ rfl (zeroTab _ _ _ rfl) hM ?_; intro b2 W' hb2 hM'; clear hM tk_b2; have hM := hM'; clear hM') | (have _t := tk_n1; refine wpList_buildN rfl rfl ?_; clear tk_n1) | (have _t := tk_b3; refine wpList_zero rfl _ rfl (zeroTab _ _ _ rfl) hM ?_; intro b3 W' hb3 hM'; clear hM tk_b3; have hM := hM'; clear hM') | (have _t := tk_q1; (refine wpList_lay rfl _ _ _ rfl _ _ rfl _ _ rfl hM 0 rfl (by assumption) (rowTab _ _ rfl) (by omega) ?_ ?_; (first | (intro _ _; rfl) | (intro k _; exact h1 _) | (intro k _; simp only [lay, upd]; (repeat' split) <;> first | exact h1 _ | rfl)); intro W' hM'; clear hM; have hM := hM'; clear hM'; simp only [List.set] at hM); clear tk_q1))
  ((try simp only [Act.put, List.setIfInBounds_toArray, List.set_cons_succ, List.set_cons_zero]); refine region_tail_mem (m := 6) (by kernel_rfl) (by kernel_rfl) ?_; (have hM' := hM.drew); clear hM; have hM := hM'; clear hM'; simp only [List.take_succ_cons, List.take_zero, List.drop_succ_cons, List.drop_zero]; (repeat (refine wps_plain rfl ?_; (first | (refine still_get1 hM _ _ rfl _ _ rfl 2 rfl (cellTab _ rfl) (by omega) (.int .i8 (y : Int)) rfl ?_) | (refine still_get1 hM _ _ rfl _ _ rfl 2 rfl (cellTab _ rfl) (by omega) (.int .i8 (x : Int)) rfl ?_) | (refine still_val ?_; apply Exists.intro; refine ⟨fun W => ?_, ?_⟩; (go_simp; (try simp only [lx, ly, Int.toNat_natCast, if_true]); rfl))); (simp only [Act.put, List.setIfInBounds_toArray, List.set_cons_succ, List.set_cons_zero]))); unfold wpStill)
  go_wp2_with (first | (refine wpList_set1 rfl _ _ _ rfl _ _ rfl (.int .i64 1) rfl rfl hM 0 rfl (by assumption) (cellTab _ rfl) (by omega) ?_; intro W' hM'; clear hM; have hM := hM'; clear hM'; simp only [List.set] at hM) | (refine wpList_get rfl _ _ rfl _ _ rfl hM 2 rfl (rowTab _ _ rfl) (by omega) ?_) | (have _t := tk_b4; refine wpList_slice1 rfl _ _ _ rfl _ _ rfl _ spot_under spot_info (by omega) (by omega) hM ?_; intro b4 W' hb4 hM'; clear hM tk_b4; have hM := hM'; clear hM'))
  have hM1 := hM.re 1 rfl (mks (found0 ((x : Int), (y : Int))).d) (fun k hk => (upd_lay _ _ _ _ k hk).trans (mks_upd _ hx 1 k))
  simp only [List.set] at hM1
  clear hM
  have hM := hM1
  clear hM1
  go_loopw [6, 7] (fun v i wr => ∃ k : Nat, k ≤ 100 ∧ i = .int .i64 k ∧ StIn w [(b2, 100, fun _ => .int .i64 0), (b1, 2, sp x y), (bp, 122, pas g)] b3 (foundAt (nbOf g) (found0 ((x : Int), (y : Int))) k) v wr) (fun _ i _ => 100 - (intOf i).toNat)
  case atStart => exact ⟨0, by omega, rfl, b4, 1, (fun k => sp (x : Int) (y : Int) (0 + k)), rfl, hb4, Nat.le_refl _, fun j hj => sp_sps1 _ _ j hj, hM⟩
  case round =>
    clear hM
    obtain ⟨k, hk, rfl, hL⟩ := hrel
    have hG := HG.out k
    have hstep := fun now => found_step (nb := nbOf g) (s0 := found0 ((x : Int), (y : Int))) (i := k) (now := now)
    have hend := found_all (nb := nbOf g) (a := ((x : Int), (y : Int))) hk
    have h100 := good_100 hG
    generalize foundAt (nbOf g) (found0 ((x : Int), (y : Int))) k = s at hL hG hstep hend h100
    obtain ⟨b, c, F, rfl, hb, hnc, hF, hM⟩ := hL
    by_cases hlt : k < s.q.length
    · have l2 : (k : Int) < (s.q.length : Int) := by omega
      clear hend
      obtain ⟨now, hnow⟩ : ∃ now, s.q[k]? = some now := ⟨_, List.getElem?_eq_getElem hlt⟩
      obtain ⟨u, v, rfl, hu, hv⟩ := nat_of_in (hG.cells now (List.mem_of_getElem? hnow))
      have hst := hstep _ hnow
      have hFk := sps_elem hnow hF
      have HF := Lib.hid hFk
      have Hst := Lib.hid hst
      have HGs := Lib.hid hG
      have HFa := Lib.hid hF
      clear hstep hnow hst hFk hG hF
      have hB := fun W hA => l01Beside_any g hg Ho.out bp (u : Int) (v : Int) (by omega) (by omega) W hA
      have hl4 := nb_len (g := g) (c := ((u : Int), (v : Int)))
      have hnbin := fun n => nb_in (g := g) (c := ((u : Int), (v : Int))) (n := n) Ho.out
      have hvis := fun t j n => visitAt_step (nb := nbOf g) (s := t) (now := ((u : Int), (v : Int))) (n := n) (j := j)
      have el : besL g (u : Int) (v : Int) 4 = nbOf g ((u : Int), (v : Int)) := rfl
      rw [el] at hB
      have HB := Lib.hid hB
      clear hB el
      rcases Nat.eq_zero_or_pos (nbOf g ((u : Int), (v : Int))).length with hn | hn
      · have Hn := Lib.hid hn
        have Hvis : Hid (visit (nbOf g) s ((u : Int), (v : Int)) = s) := Lib.hid (by rw [← visitAt_all (j := 0) (by omega), visitAt_0])
        clear hn hl4 hnbin hvis
        have tk_g1 : True := trivial; have tk_b8 : True := trivial; have tk_g2 : True := trivial
        go_wp2_with (first | (have _t := tk_g1; refine wpList_getE rfl _ _ rfl _ _ rfl hM 0 rfl (rowTab _ _ rfl) (by omega) (sp u v) HF.out ?_; clear tk_g1) | (have _t := tk_b8; refine wpList_zero rfl _ rfl (zeroTab _ _ _ rfl) hM ?_; intro b8 W' hb8 hM'; clear hM tk_b8; have hM := hM'; clear hM') | (refine wpList_lay rfl _ _ _ rfl _ _ rfl _ _ rfl hM 0 rfl (by assumption) (rowTab _ _ rfl) (by omega) ?_ ?_; (first | (intro _ _; rfl) | (intro k _; exact h1 _) | (intro k _; simp only [lay, upd]; (repeat' split) <;> first | exact h1 _ | rfl)); intro W' hM'; clear hM; have hM := hM'; clear hM'; simp only [List.set] at hM) | (have _t := tk_g2; refine wpList_getE rfl _ _ rfl _ _ rfl hM 0 rfl (rowTab _ _ rfl) (by omega) (sp u v) (lay_sp00 _ _ _) ?_; clear tk_g2) | (go_at_call 70; refine (HB.out _ (hM.ats 5 _ _ _ rfl)).mono ?_; rintro e W' ⟨v0, rfl, hL0⟩; obtain ⟨aA, cA, rfl, hbl⟩ := hL0.zero Hn.out; have hM' := hM.call hbl; clear hM hbl hL0; have hM := hM'; clear hM'))
        refine wp_loop_rounds 1 ?_
        rw [rounds_succ]
        go_wp2
        go_roundw
        case rel => exact ⟨k + 1, by omega, by go_num, by
          rw [Hst.out, Hvis.out]
          exact ⟨b, c, F, rfl, hb, hnc, HFa.out, hM.drop⟩⟩
        case measure => simp [intOf]; omega
      · have Hn := Lib.hid hn
        have hnp : 0 < (nbOf g ((u : Int), (v : Int))).length := hn
        have Hs0 : Hid (visitAt (nbOf g) s ((u : Int), (v : Int)) 0 = s) := Lib.hid visitAt_0
        have Hin := Lib.hid hnbin
        have Hvis := Lib.hid hvis
        clear hn hnbin hvis
        have tk_g1 : True := trivial; have tk_b8 : True := trivial; have tk_g2 : True := trivial
        go_wp2_with (first | (have _t := tk_g1; refine wpList_getE rfl _ _ rfl _ _ rfl hM 0 rfl (rowTab _ _ rfl) (by omega) (sp u v) HF.out ?_; clear tk_g1) | (have _t := tk_b8; refine wpList_zero rfl _ rfl (zeroTab _ _ _ rfl) hM ?_; intro b8 W' hb8 hM'; clear hM tk_b8; have hM := hM'; clear hM') | (refine wpList_lay rfl _ _ _ rfl _ _ rfl _ _ rfl hM 0 rfl (by assumption) (rowTab _ _ rfl) (by omega) ?_ ?_; (first | (intro _ _; rfl) | (intro k _; exact h1 _) | (intro k _; simp only [lay, upd]; (repeat' split) <;> first | exact h1 _ | rfl)); intro W' hM'; clear hM; have hM := hM'; clear hM'; simp only [List.set] at hM) | (have _t := tk_g2; refine wpList_getE rfl _ _ rfl _ _ rfl hM 0 rfl (rowTab _ _ rfl) (by omega) (sp u v) (lay_sp00 _ _ _) ?_; clear tk_g2) | (go_at_call 70; refine (HB.out _ (hM.ats 5 _ _ _ rfl)).mono ?_; rintro e W' ⟨v0, rfl, hL0⟩; obtain ⟨aA, cA, FA, rfl, hbA, hcA, hFA, hAA, hbl⟩ := hL0.some Hn.out; have hM' := hM.freshH hbl hAA hbA; clear hM hAA hbl hL0; have hM := hM'; clear hM'))
        have hM1 := (hM.re 1 rfl (sp u v) (lay_sp _ u v))
        simp only [List.set] at hM1
        have hM2 := hM1.two
        clear hM hM1
        have hM := hM2
        clear hM2
        have HFA := Lib.hid hFA
        clear hFA
        go_loopw [6, 10] (fun v' j wr => ∃ m : Nat, m ≤ (nbOf g ((u : Int), (v : Int))).length ∧ j = .int .i64 m ∧ StIn w [(aA, cA * 2, FA), (b8, 2, sp u v), (b2, 100, fun _ => .int .i64 0), (b1, 2, sp x y), (bp, 122, pas g)] b3 (visitAt (nbOf g) s ((u : Int), (v : Int)) m) v' wr) (fun _ j _ => 4 - (intOf j).toNat)
        case atStart => exact ⟨0, by omega, rfl, by rw [Hs0.out]; exact ⟨b, c, F, rfl, hb, hnc, HFa.out, hM⟩⟩
        case round =>
          clear hM
          obtain ⟨m, hm, rfl, hL⟩ := hrel
          have hGt := good_visitAt (nb := nbOf g) HGs.out Hin.out m
          have hvm := Hvis.out s m
          have hend2 := visitAt_all (nb := nbOf g) (s := s) (now := ((u : Int), (v : Int))) (j := m)
          generalize visitAt (nbOf g) s ((u : Int), (v : Int)) m = t at hL hGt hvm hend2
          obtain ⟨b', c', F', rfl, hb', hnc', hF', hM⟩ := hL
          have ht100 := good_100 hGt
          by_cases hlm : m < (nbOf g ((u : Int), (v : Int))).length
          · have l3 : (m : Int) < ((nbOf g ((u : Int), (v : Int))).length : Int) := by omega
            clear hend2
            obtain ⟨nxt, hnx⟩ : ∃ nxt, (nbOf g ((u : Int), (v : Int)))[m]? = some nxt := ⟨_, List.getElem?_eq_getElem hlm⟩
            obtain ⟨p, q, rfl, hp, hq⟩ := nat_of_in (Hin.out nxt (List.mem_of_getElem? hnx))
            have hFm := sps_elem hnx HFA.out
            have f0 : FA (m * 2) = .int .i8 (p : Int) := by simpa [sp] using hFm 0 (by omega)
            have f1 : FA (m * 2 + 1) = .int .i8 (q : Int) := by simpa [sp] using hFm 1 (by omega)
            have lp : (p : Int) < 10 := by omega
            have lq : (q : Int) < 10 := by omega
            have lu : (u : Int) < 10 := by omega
            have lv : (v : Int) < 10 := by omega
            have Hvm := Lib.hid (hvm _ hnx)
            have e0 := mks_at t.d (y := q) hp
            have e1 := mks_at t.d (y := v) hu
            have hlo := hGt.low ((u : Int), (v : Int))
            have hhi := hGt.high ((u : Int), (v : Int))
            have cw : IntKind.i64.wrap (t.d ((u : Int), (v : Int)) + 1) = t.d ((u : Int), (v : Int)) + 1 := IntWalk.i64_in _ (by omega)
            have HFm := Lib.hid hFm
            have HFt := Lib.hid hF'
            have HGt := Lib.hid hGt
            clear hFm hF' hGt hvm hnx hlo hhi
            by_cases hd : t.d ((p : Int), (q : Int)) = 0
            · rw [hd] at e0
              have Hd := Lib.hid hd
              have Hup := Lib.hid (fun k => mks_upd t.d (y := q) hp (t.d ((u : Int), (v : Int)) + 1) k)
              clear hd
              obtain ⟨du, hdu⟩ : ∃ du, du = t.d ((u : Int), (v : Int)) := ⟨_, rfl⟩
              rw [← hdu] at e1 cw Hup
              have Hdu := Lib.hid hdu
              clear hdu
              go_wp2
              ((try simp only [Act.put, List.setIfInBounds_toArray, List.set_cons_succ, List.set_cons_zero]); refine wp_region_mem (by kernel_rfl) (by kernel_rfl) hM ?_; clear hM; (repeat (first | go_big_quiet_skip | (go_big_quiet_want; first | (refine quiet_get1 _ _ rfl _ _ rfl 2 rfl (cellTab _ rfl) (by omega) _ (f1) ?_; (simp only [Act.put, List.setIfInBounds_toArray, List.set_cons_succ, List.set_cons_zero]); go_big_quiet_on) | (refine quiet_get1 _ _ rfl _ _ rfl 2 rfl (cellTab _ rfl) (by omega) _ (f0) ?_; (simp only [Act.put, List.setIfInBounds_toArray, List.set_cons_succ, List.set_cons_zero]); go_big_quiet_on) | (refine quiet_get1 _ _ rfl _ _ rfl 1 rfl (cellTab _ rfl) (by omega) _ (e0) ?_; (simp only [Act.put, List.setIfInBounds_toArray, List.set_cons_succ, List.set_cons_zero]); go_big_quiet_on) | (refine quiet_val ?_; apply Exists.intro; refine ⟨fun W => ?_, ?_⟩; (go_simp; (try simp only [l3, lp, lq, Int.toNat_natCast, if_true, Bool.false_eq_true, if_false]); rfl); (simp only [Act.put, List.setIfInBounds_toArray, List.set_cons_succ, List.set_cons_zero]); go_big_quiet_on)))); (with_reducible refine wpQuiet_nil ?_); intro W' hM)
              go_wp2
              ((try simp only [Act.put, List.setIfInBounds_toArray, List.set_cons_succ, List.set_cons_zero]); refine region_tail_mem (m := 20) (by kernel_rfl) (by kernel_rfl) ?_; (have hM' := hM.drew); clear hM; have hM := hM'; clear hM'; simp only [List.take_succ_cons, List.take_zero, List.drop_succ_cons, List.drop_zero]; (repeat (refine wps_plain rfl ?_; (first | (refine still_get1 hM _ _ rfl _ _ rfl 2 rfl (cellTab _ rfl) (by omega) _ (f1) ?_) | (refine still_get1 hM _ _ rfl _ _ rfl 2 rfl (cellTab _ rfl) (by omega) _ (f0) ?_) | (refine still_get1 hM _ _ rfl _ _ rfl 3 rfl (cellTab _ rfl) (by omega) (.int .i8 (v : Int)) rfl ?_) | (refine still_get1 hM _ _ rfl _ _ rfl 3 rfl (cellTab _ rfl) (by omega) (.int .i8 (u : Int)) rfl ?_) | (refine still_get1 hM _ _ rfl _ _ rfl 1 rfl (cellTab _ rfl) (by omega) _ (e1) ?_) | (refine still_val ?_; apply Exists.intro; refine ⟨fun W => ?_, ?_⟩; (go_simp; (try simp only [l3, lp, lq, lu, lv, cw, Int.toNat_natCast, if_true]); rfl))); (simp only [Act.put, List.setIfInBounds_toArray, List.set_cons_succ, List.set_cons_zero]))); unfold wpStill)
              have Hn1 : Hid (∀ j, j < 2 → sp (p : Int) (q : Int) j = sps (sI (t.q ++ [((p : Int), (q : Int))])) (t.q.length * 2 + j)) := Lib.hid (fun j hj => spsI_new t.q (p : Int) (q : Int) hj)
              have Hf1 : Hid (∀ j, j < t.q.length * 2 → F' j = sps (sI (t.q ++ [((p : Int), (q : Int))])) j) := Lib.hid (fun j hj => by rw [HFt.out j hj]; exact spsI_old _ hj)
              have hn1 : t.q.length ≤ 1048576 := by omega
              have tk_s1 : True := trivial; have tk_g3 : True := trivial; have tk_b9 : True := trivial; have tk_p1 : True := trivial
              go_wp2_with (first | (have _t := tk_s1; refine wpList_set1 rfl _ _ _ rfl _ _ rfl (.int .i64 (du + 1)) rfl rfl hM 1 rfl (by assumption) (cellTab _ rfl) (by omega) ?_; intro W' hM'; clear hM tk_s1; have hM := hM'; clear hM'; simp only [List.set] at hM) | (have _t := tk_g3; refine wpList_getE rfl _ _ rfl _ _ rfl hM 2 rfl (rowTab _ _ rfl) (by omega) (sp p q) HFm.out ?_; clear tk_g3) | (have _t := tk_b9; refine wpList_slice1 rfl _ _ _ rfl _ _ rfl _ spot_under spot_info (by omega) (by omega) hM ?_; intro b9 W' hb9 hM'; clear hM tk_b9; have hM := hM'; clear hM') | (have _t := tk_p1; refine wpList_push1 rfl _ _ _ rfl _ 2 _ _ spot_under spot_infoB rfl (by omega) _ _ _ _ rfl hb' hnc' hn1 _ _ rfl sp_one hM (sps (sI (t.q ++ [((p : Int), (q : Int))]))) Hf1.out Hn1.out ?_; intro bL cL FL W' hbL hcL hFL hM'; clear hM tk_p1; have hM := hM'; clear hM'))
              go_roundw
              case rel => exact ⟨m + 1, by omega, by go_num, by
                rw [Hvm.out, visit1, if_pos Hd.out]
                unfold StIn
                simp only [List.length_append, List.length_singleton]
                have hM1 := hM.re 1 rfl _ (fun j _ => Hup.out j)
                simp only [List.set] at hM1
                rw [← Hdu.out]
                exact ⟨bL, cL, FL, rfl, hbL, hcL, hFL, hM1⟩⟩
              case measure => simp [intOf]; omega
            · have Hd := Lib.hid hd
              obtain ⟨dp, hdp⟩ : ∃ dp, dp = t.d ((p : Int), (q : Int)) := ⟨_, rfl⟩
              rw [← hdp] at e0 hd
              have dz : decide (dp = 0) = false := decide_eq_false hd
              clear hdp
              go_wp2
              ((try simp only [Act.put, List.setIfInBounds_toArray, List.set_cons_succ, List.set_cons_zero]); refine wp_region_mem (by kernel_rfl) (by kernel_rfl) hM ?_; clear hM; (repeat (first | go_big_quiet_skip | (go_big_quiet_want; first | (refine quiet_get1 _ _ rfl _ _ rfl 2 rfl (cellTab _ rfl) (by omega) _ (f1) ?_; (simp only [Act.put, List.setIfInBounds_toArray, List.set_cons_succ, List.set_cons_zero]); go_big_quiet_on) | (refine quiet_get1 _ _ rfl _ _ rfl 2 rfl (cellTab _ rfl) (by omega) _ (f0) ?_; (simp only [Act.put, List.setIfInBounds_toArray, List.set_cons_succ, List.set_cons_zero]); go_big_quiet_on) | (refine quiet_get1 _ _ rfl _ _ rfl 1 rfl (cellTab _ rfl) (by omega) _ (e0) ?_; (simp only [Act.put, List.setIfInBounds_toArray, List.set_cons_succ, List.set_cons_zero]); go_big_quiet_on) | (refine quiet_val ?_; apply Exists.intro; refine ⟨fun W => ?_, ?_⟩; (go_simp; (try simp only [l3, lp, lq, Int.toNat_natCast, if_true, Bool.false_eq_true, if_false]); rfl); (simp only [Act.put, List.setIfInBounds_toArray, List.set_cons_succ, List.set_cons_zero]); go_big_quiet_on)))); (with_reducible refine wpQuiet_nil ?_); intro W' hM)
              go_wp2
              go_roundw
              case rel => exact ⟨m + 1, by omega, by go_num, by
                rw [Hvm.out, visit1, if_neg Hd.out]
                exact ⟨b', c', F', rfl, hb', hnc', HFt.out, hM⟩⟩
              case measure => simp [intOf]; omega
          · have l3 : ¬ (m : Int) < ((nbOf g ((u : Int), (v : Int))).length : Int) := by omega
            have He := Lib.hid (hend2 (by omega))
            have HFt := Lib.hid hF'
            clear hend2 hvm hGt hF'
            go_wp2
            go_roundw
            case rel => exact ⟨k + 1, by omega, by go_num, by
              rw [Hst.out, ← He.out]
              exact ⟨b', c', F', rfl, hb', hnc', HFt.out, hM.two.drop.drop⟩⟩
            case measure => simp [intOf]; omega
    · have l2 : ¬ (k : Int) < (s.q.length : Int) := by omega
      have He := Lib.hid (hend (by omega))
      clear hend hstep hG hF
      go_wp2_with (first | (refine wpList_get rfl _ _ rfl _ _ rfl hM 1 rfl (rowTab _ _ rfl) (by omega) ?_) | (refine wpList_lay rfl _ _ _ rfl _ _ rfl _ _ rfl hM 2 rfl (by assumption) (rowTab _ _ rfl) (by omega) ?_ ?_; (first | (intro _ _; rfl) | (intro k _; exact h1 _) | (intro k _; simp only [lay, upd]; (repeat' split) <;> first | exact h1 _ | rfl)); intro W' hM'; clear hM; have hM := hM'; clear hM'; simp only [List.set] at hM))
      exact bodyPost_ret (results_at rfl _ rfl ((hM.ats 2 _ _ _ rfl).congr (lay_any _ _)) (rowTab _ _ rfl)) rfl ⟨by rw [He.out], hM.below⟩
end Go.Proofs.YtbmaljhnldepoaaDoor

/-
  A number and a code, as results.
-/
namespace Go.Proofs.YtbmaljhnldepoaaDoor
open Go Go.RowKit

/-- A number and a code. -/
def numR (n c : Int) : Value := .tuple #[.int .i64 n, .int .i64 c]
theorem numR_eq (n c : Int) : numR n c = .tuple #[.int .i64 n, .int .i64 c] := rfl
theorem ret_num {n n' c c' : Int} (h : n = n') (h' : c = c') : Ending.returned (.tuple #[.int .i64 n, .int .i64 c]) = .returned (numR n' c') := by rw [h, h', numR_eq]
end Go.Proofs.YtbmaljhnldepoaaDoor

/-
  spec.SameYard by contract.
-/
namespace Go.Proofs.YtbmaljhnldepoaaDoor
open Go Go.RowKit Go.BigFrame

/-- Two cells of one yard. -/
def sameB (g : Nat → Int) (a b : Int × Int) : Bool := decide ((foundOf (nbOf g) a).d b > 0)
def sameA (g : Nat → Int) (x y u v : Int) : Bool := if askC g x y (isB g u v) = 0 then sameB g (x, y) (u, v) else false
theorem askC_0 {g : Nat → Int} {x y : Int} {f : Bool} (h : askC g x y f = 0) : okB g = true ∧ isB g x y = true ∧ f = true := by
  unfold askC at h
  cases ho : okB g <;> cases hi : isB g x y <;> cases f <;> simp_all

end Go.Proofs.YtbmaljhnldepoaaDoor

/-
  THE MATHEMATICS OF A SEARCH BY STEPS, II: what it tells are the least numbers of steps; where one can go both ways, it tells the same both ways.
-/
namespace Go.Proofs.YtbmaljhnldepoaaDoor
open Go

variable {nb : Int × Int → List (Int × Int)} {c : Int × Int → Prop} {a : Int × Int}

/-- In the middle of a visit of now, which was the i-th that was found; the cells pre have been looked at. -/
structure Mid (nb : Int × Int → List (Int × Int)) (c : Int × Int → Prop) (a : Int × Int) (s : Found) (i : Nat) (now : Int × Int) (pre : List (Int × Int)) : Prop where
  good : s.Good c
  first : a ∈ s.q ∧ s.d a = 1
  at' : s.q[i]? = some now
  mono : ∀ (j j' : Nat) x y, s.q[j]? = some x → s.q[j']? = some y → j ≤ j' → s.d x ≤ s.d y
  head : ∀ y, y ∈ s.q → s.d y ≤ s.d now + 1
  edge : ∀ (j : Nat) x, j < i → s.q[j]? = some x → ∀ n, n ∈ nb x → s.d n ≠ 0 ∧ s.d n ≤ s.d x + 1
  here : ∀ n, n ∈ pre → s.d n ≠ 0 ∧ s.d n ≤ s.d now + 1
  back : ∀ x, x ∈ s.q → x ≠ a → ∃ u, u ∈ s.q ∧ x ∈ nb u ∧ s.d x = s.d u + 1
/-- When i cells have been taken. -/
structure Lay (nb : Int × Int → List (Int × Int)) (c : Int × Int → Prop) (a : Int × Int) (s : Found) (i : Nat) : Prop where
  good : s.Good c
  first : a ∈ s.q ∧ s.d a = 1
  mono : ∀ (j j' : Nat) x y, s.q[j]? = some x → s.q[j']? = some y → j ≤ j' → s.d x ≤ s.d y
  head : ∀ x, s.q[i]? = some x → ∀ y, y ∈ s.q → s.d y ≤ s.d x + 1
  edge : ∀ (j : Nat) x, j < i → s.q[j]? = some x → ∀ n, n ∈ nb x → s.d n ≠ 0 ∧ s.d n ≤ s.d x + 1
  back : ∀ x, x ∈ s.q → x ≠ a → ∃ u, u ∈ s.q ∧ x ∈ nb u ∧ s.d x = s.d u + 1

theorem mid_one {s : Found} {i : Nat} {now n : Int × Int} {pre : List (Int × Int)} (h : Mid nb c a s i now pre) (hn : c n) (hnb : n ∈ nb now) : Mid nb c a (visit1 now s n) i now (pre ++ [n]) := by
  have hnow : now ∈ s.q := List.mem_of_getElem? h.at'
  by_cases hd : s.d n = 0
  · have e : visit1 now s n = ⟨s.q ++ [n], updI s.d n (s.d now + 1)⟩ := by unfold visit1; rw [if_pos hd]
    have hnq : n ∉ s.q := fun hm => (h.good.mem n).1 hm hd
    have keep : ∀ k, k ∈ s.q → updI s.d n (s.d now + 1) k = s.d k := fun k hk => by
      unfold updI; rw [if_neg (fun e' => hnq (by rw [← e']; exact hk))]
    have new : updI s.d n (s.d now + 1) n = s.d now + 1 := by unfold updI; rw [if_pos rfl]
    have split : ∀ (j : Nat) x, (s.q ++ [n])[j]? = some x → (s.q[j]? = some x ∧ j < s.q.length) ∨ (x = n ∧ j = s.q.length) := fun j x hx => by
      rcases Nat.lt_or_ge j s.q.length with hl | hl
      · rw [List.getElem?_append_left hl] at hx; exact .inl ⟨hx, hl⟩
      · rw [List.getElem?_append_right hl] at hx
        rcases Nat.eq_zero_or_pos (j - s.q.length) with h0 | h0
        · rw [h0] at hx; simp at hx; exact .inr ⟨hx.symm, by omega⟩
        · rw [List.getElem?_eq_none (by simp; omega)] at hx; cases hx
    have hl := h.good.low now
    have G := good_1 h.good (now := now) hn
    rw [e] at G ⊢
    refine ⟨G, ⟨by simp [h.first.1], by show updI s.d n (s.d now + 1) a = 1; rw [keep a h.first.1]; exact h.first.2⟩, ?_, fun j j' x y hx hy hj => ?_, fun y hy => ?_, fun j x hj hx m hm => ?_, fun m hm => ?_, fun x hx hxa => ?_⟩
    · show (s.q ++ [n])[i]? = some now
      rw [List.getElem?_append_left (List.getElem?_eq_some_iff.1 h.at').1]; exact h.at'
    · show updI s.d n (s.d now + 1) x ≤ updI s.d n (s.d now + 1) y
      rcases split j x hx with ⟨hx1, hx2⟩ | ⟨rfl, hx2⟩ <;> rcases split j' y hy with ⟨hy1, hy2⟩ | ⟨rfl, hy2⟩
      · rw [keep x (List.mem_of_getElem? hx1), keep y (List.mem_of_getElem? hy1)]; exact h.mono j j' x y hx1 hy1 hj
      · rw [keep x (List.mem_of_getElem? hx1), new]; exact h.head x (List.mem_of_getElem? hx1)
      · omega
      · exact Int.le_refl _
    · show updI s.d n (s.d now + 1) y ≤ updI s.d n (s.d now + 1) now + 1
      rw [keep now hnow]
      rcases List.mem_append.1 hy with hy | hy
      · rw [keep y hy]; exact h.head y hy
      · simp at hy; rw [hy, new]; exact Int.le_refl _
    · have hx' : s.q[j]? = some x := by
        rcases split j x hx with ⟨hx1, -⟩ | ⟨-, hx2⟩
        · exact hx1
        · have := (List.getElem?_eq_some_iff.1 h.at').1; omega
      obtain ⟨h1, h2⟩ := h.edge j x hj hx' m hm
      have hmq := (h.good.mem m).2 h1
      show updI s.d n (s.d now + 1) m ≠ 0 ∧ updI s.d n (s.d now + 1) m ≤ updI s.d n (s.d now + 1) x + 1
      rw [keep m hmq, keep x (List.mem_of_getElem? hx')]; exact ⟨h1, h2⟩
    · show updI s.d n (s.d now + 1) m ≠ 0 ∧ updI s.d n (s.d now + 1) m ≤ updI s.d n (s.d now + 1) now + 1
      rw [keep now hnow]
      rcases List.mem_append.1 hm with hm | hm
      · obtain ⟨h1, h2⟩ := h.here m hm
        rw [keep m ((h.good.mem m).2 h1)]; exact ⟨h1, h2⟩
      · simp at hm; rw [hm, new]; exact ⟨by omega, Int.le_refl _⟩
    · rcases List.mem_append.1 hx with hx | hx
      · obtain ⟨u, hu, hxu, he⟩ := h.back x hx hxa
        exact ⟨u, by simp [hu], hxu, by show updI s.d n (s.d now + 1) x = updI s.d n (s.d now + 1) u + 1; rw [keep x hx, keep u hu]; exact he⟩
      · simp at hx
        exact ⟨now, by simp [hnow], by rw [hx]; exact hnb, by show updI s.d n (s.d now + 1) x = updI s.d n (s.d now + 1) now + 1; rw [hx, new, keep now hnow]⟩
  · have e : visit1 now s n = s := by unfold visit1; rw [if_neg hd]
    rw [e]
    refine ⟨h.good, h.first, h.at', h.mono, h.head, h.edge, fun m hm => ?_, h.back⟩
    rcases List.mem_append.1 hm with hm | hm
    · exact h.here m hm
    · simp at hm
      rw [hm]; exact ⟨hd, h.head n ((h.good.mem n).2 hd)⟩
theorem mid_fold {i : Nat} {now : Int × Int} : ∀ (l : List (Int × Int)) {s : Found} {pre : List (Int × Int)}, Mid nb c a s i now pre → (∀ k, k ∈ l → c k ∧ k ∈ nb now) → Mid nb c a (l.foldl (visit1 now) s) i now (pre ++ l)
  | [], s, pre, h, _ => by simpa using h
  | n :: l, s, pre, h, hl => by
    have := mid_fold l (mid_one h (hl n (by simp)).1 (hl n (by simp)).2) (fun k hk => hl k (by simp [hk]))
    simpa using this
theorem lay_step {s : Found} {i : Nat} (h : Lay nb c a s i) (hnb : ∀ k, c k → ∀ n, n ∈ nb k → c n) {now : Int × Int} (hn : s.q[i]? = some now) : Lay nb c a (visit nb s now) (i + 1) := by
  have hc := h.good.cells now (List.mem_of_getElem? hn)
  have m := mid_fold (nb now) (s := s) (pre := []) (i := i) (now := now) ⟨h.good, h.first, hn, h.mono, h.head now hn, h.edge, fun n hn => by simp at hn, h.back⟩ (fun k hk => ⟨hnb now hc k hk, hk⟩)
  rw [List.nil_append] at m
  refine ⟨m.good, m.first, m.mono, fun x hx y hy => ?_, fun j x hj hx n hn => ?_, m.back⟩
  · have h1 := m.mono i (i + 1) now x m.at' hx (by omega)
    have h2 := m.head y hy
    show (visit nb s now).d y ≤ (visit nb s now).d x + 1
    unfold visit
    omega
  · rcases Nat.lt_or_ge j i with hji | hji
    · exact m.edge j x hji hx n hn
    · obtain rfl : j = i := by omega
      obtain rfl : now = x := Option.some.inj (m.at'.symm.trans hx)
      exact m.here n hn
theorem lay_0 (ha : c a) : Lay nb c a (found0 a) 0 := by
  refine ⟨good_0 ha, ⟨by simp [found0], by simp [found0, updI]⟩, fun j j' x y hx hy _ => ?_, fun x hx y hy => ?_, fun j x hj => absurd hj (by omega), fun x hx hxa => ?_⟩
  · have hx := List.mem_of_getElem? hx
    have hy := List.mem_of_getElem? hy
    simp [found0] at hx hy
    rw [hx, hy]; exact Int.le_refl _
  · have hx := List.mem_of_getElem? hx
    simp [found0] at hx hy
    rw [hx, hy]; omega
  · simp [found0] at hx; exact absurd hx hxa
theorem lay_at (ha : c a) (hnb : ∀ k, c k → ∀ n, n ∈ nb k → c n) : ∀ i, Lay nb c a (foundAt nb (found0 a) i) i
  | 0 => lay_0 ha
  | i + 1 => by
    have ih := lay_at ha hnb i
    cases hq : (foundAt nb (found0 a) i).q[i]? with
    | some now =>
      rw [found_step hq]
      exact lay_step ih hnb hq
    | none =>
      have e : foundAt nb (found0 a) (i + 1) = foundAt nb (found0 a) i := by
        show (match (foundAt nb (found0 a) i).q[i]? with | some now => visit nb (foundAt nb (found0 a) i) now | none => foundAt nb (found0 a) i) = _
        rw [hq]
      have hl : (foundAt nb (found0 a) i).q.length ≤ i := List.getElem?_eq_none_iff.1 hq
      rw [e]
      refine ⟨ih.good, ih.first, ih.mono, fun x hx => ?_, fun j x hj hx => ?_, ih.back⟩
      · rw [List.getElem?_eq_none (by omega)] at hx; cases hx
      · exact ih.edge j x (by have := (List.getElem?_eq_some_iff.1 hx).1; omega) hx

/-- One can go from a to x by n steps. -/
def Goes (nb : Int × Int → List (Int × Int)) : Nat → Int × Int → Int × Int → Prop
  | 0, a, x => a = x
  | n + 1, a, x => ∃ u, Goes nb n a u ∧ x ∈ nb u
theorem goes_front {n : Nat} {a u x : Int × Int} (h1 : u ∈ nb a) (h2 : Goes nb n u x) : Goes nb (n + 1) a x := by
  induction n generalizing x with
  | zero => exact ⟨a, rfl, by rw [← show u = x from h2]; exact h1⟩
  | succ n ih =>
    obtain ⟨y, hy, hx⟩ := h2
    exact ⟨y, ih hy, hx⟩
theorem goes_back {n : Nat} {a x : Int × Int} (ha : c a) (hnb : ∀ k, c k → ∀ n, n ∈ nb k → c n) (hs : ∀ k n, c k → n ∈ nb k → k ∈ nb n) (h : Goes nb n a x) : c x ∧ Goes nb n x a := by
  induction n generalizing x with
  | zero => exact ⟨by rw [← show a = x from h]; exact ha, (show a = x from h).symm⟩
  | succ n ih =>
    obtain ⟨u, hu, hx⟩ := h
    obtain ⟨h1, h2⟩ := ih hu
    exact ⟨hnb u h1 x hx, goes_front (hs u x h1 hx) h2⟩
/-- What is found behind a search of cells of the widest pasture. -/
theorem found_far {s : Found} {i : Nat} (h : Lay nb c a s i) (hl : s.q.length ≤ i) {n : Nat} {x : Int × Int} (hg : Goes nb n a x) : s.d x ≠ 0 ∧ s.d x ≤ n + 1 := by
  induction n generalizing x with
  | zero => rw [← show a = x from hg, h.first.2]; exact ⟨by decide, by omega⟩
  | succ n ih =>
    obtain ⟨u, hu, hx⟩ := hg
    obtain ⟨h1, h2⟩ := ih hu
    obtain ⟨j, hj⟩ := List.getElem?_of_mem ((h.good.mem u).2 h1)
    obtain ⟨h3, h4⟩ := h.edge j u (by have := (List.getElem?_eq_some_iff.1 hj).1; omega) hj x hx
    exact ⟨h3, by omega⟩
theorem found_goes {s : Found} {i : Nat} (h : Lay nb c a s i) : ∀ (n : Nat) (x : Int × Int), s.d x = (n : Int) + 1 → Goes nb n a x := fun n => by
  induction n with
  | zero =>
    intro x hx
    by_cases e : x = a
    · exact e.symm
    · obtain ⟨u, hu, -, hd⟩ := h.back x ((h.good.mem x).2 (by omega)) e
      have := (h.good.mem u).1 hu
      have := h.good.low u
      omega
  | succ n ih =>
    intro x hx
    by_cases e : x = a
    · rw [e, h.first.2] at hx; omega
    · obtain ⟨u, hu, hxu, hd⟩ := h.back x ((h.good.mem x).2 (by omega)) e
      exact ⟨u, ih u (by omega), hxu⟩
theorem lay_of (hc : ∀ k, c k → In10 k) (ha : c a) (hnb : ∀ k, c k → ∀ n, n ∈ nb k → c n) : Lay nb c a (foundOf nb a) 100 ∧ (foundOf nb a).q.length ≤ 100 := by
  have h := lay_at ha hnb 100
  have e : foundOf nb a = foundAt nb (found0 a) 100 := by unfold foundOf; rfl
  rw [e]
  refine ⟨h, good_100 ⟨h.good.mem, h.good.nodup, fun k hk => hc k (h.good.cells k hk), h.good.low, h.good.high⟩⟩
/-- The steps are as many there as back. -/
theorem found_symm {b : Int × Int} (hc : ∀ k, c k → In10 k) (ha : c a) (hb : c b) (hnb : ∀ k, c k → ∀ n, n ∈ nb k → c n) (hs : ∀ k n, c k → n ∈ nb k → k ∈ nb n) : (foundOf nb a).d b = (foundOf nb b).d a := by
  have key : ∀ (a b : Int × Int), c a → c b → (foundOf nb a).d b ≠ 0 → (foundOf nb b).d a ≠ 0 ∧ (foundOf nb b).d a ≤ (foundOf nb a).d b := fun a b ha hb hd => by
    obtain ⟨h1, -⟩ := lay_of hc ha hnb
    obtain ⟨h2, h3⟩ := lay_of hc hb hnb
    have hl := h1.good.low b
    obtain ⟨n, hn⟩ : ∃ n : Nat, (foundOf nb a).d b = (n : Int) + 1 := ⟨((foundOf nb a).d b - 1).toNat, by omega⟩
    have := (goes_back ha hnb hs (found_goes h1 n b hn)).2
    obtain ⟨h4, h5⟩ := found_far h2 h3 this
    exact ⟨h4, by omega⟩
  by_cases h : (foundOf nb a).d b = 0
  · by_cases h' : (foundOf nb b).d a = 0
    · rw [h, h']
    · exact absurd h (key b a hb ha h').1
  · obtain ⟨h1, h2⟩ := key a b ha hb h
    obtain ⟨-, h3⟩ := key b a hb ha h1
    omega
end Go.Proofs.YtbmaljhnldepoaaDoor

/-
  One can go from a cell to a cell beside it, and back; the steps between two cells are as many there as back.
-/
namespace Go.Proofs.YtbmaljhnldepoaaDoor
open Go Go.RowKit

theorem nb_isB {g : Nat → Int} {c n : Int × Int} (h : n ∈ nbOf g c) : isB g n.1 n.2 = true := by
  unfold nbOf besL at h
  obtain ⟨k, hk, rfl⟩ := List.mem_map.1 h
  obtain ⟨-, h2⟩ := List.mem_filter.1 hk
  have h3 : closedB g k c.1 c.2 = false := by simpa using h2
  cases hi : isB g (nxX k c.1) (nxY k c.2)
  · rw [closedB_wall hi] at h3; cases h3
  · rfl
theorem nb_symm {g : Nat → Int} {c n : Int × Int} (hc : isB g c.1 c.2 = true) (h : n ∈ nbOf g c) : c ∈ nbOf g n := by
  have hn := nb_isB h
  obtain ⟨x, y⟩ := c
  unfold nbOf besL at h ⊢
  obtain ⟨k, hk, rfl⟩ := List.mem_map.1 h
  obtain ⟨h1, h2⟩ := List.mem_filter.1 hk
  have h3 : closedB g k x y = false := by simpa using h2
  rw [closedB_in hn] at h3
  have hk4 : k < 4 := List.mem_range.1 h1
  have mk : ∀ k' : Nat, k' < 4 → nxX k' (nxX k x) = x → nxY k' (nxY k y) = y → fenceB g k' (nxX k x) (nxY k y) = fenceB g k x y → (x, y) ∈ (List.filter (fun k' => !closedB g k' (nxX k x) (nxY k y)) (List.range 4)).map fun k' => (nxX k' (nxX k x), nxY k' (nxY k y)) := fun k' hk' e1 e2 e3 => by
    refine List.mem_map.2 ⟨k', List.mem_filter.2 ⟨List.mem_range.2 hk', ?_⟩, by rw [e1, e2]⟩
    rw [closedB_in (by rw [e1, e2]; exact hc), e3, h3]; rfl
  rcases (show k = 0 ∨ k = 1 ∨ k = 2 ∨ k = 3 by omega) with rfl | rfl | rfl | rfl
  · exact mk 2 (by omega) rfl (by simp [nxY]) (by simp [fenceB, sideRow, sideBit, nxX, nxY])
  · exact mk 3 (by omega) (by simp [nxX]) rfl (by simp [fenceB, sideRow, sideBit, nxX, nxY])
  · exact mk 0 (by omega) rfl (by simp [nxY]) (by simp [fenceB, sideRow, sideBit, nxX, nxY])
  · exact mk 1 (by omega) (by simp [nxX]) rfl (by simp [fenceB, sideRow, sideBit, nxX, nxY])
/-- The steps between two cells, both ways. -/
theorem steps_symm {g : Nat → Int} (ho : okB g = true) {x y u v : Int} (ha : isB g x y = true) (hb : isB g u v = true) : (foundOf (nbOf g) (x, y)).d (u, v) = (foundOf (nbOf g) (u, v)).d (x, y) :=
  found_symm (c := fun k => isB g k.1 k.2 = true) (fun k hk => in10_of ho hk) ha hb (fun _ _ _ hn => nb_isB hn) (fun _ _ hk hn => nb_symm hk hn)
/-- Only cells of the pasture are found. -/
theorem found_isB {g : Nat → Int} {x y : Int} (hi : isB g x y = true) : (foundOf (nbOf g) (x, y)).Good fun k => isB g k.1 k.2 = true := by
  have h := good_at (nb := nbOf g) (good_0 (c := fun k : Int × Int => isB g k.1 k.2 = true) (a := (x, y)) hi) (fun k _ n hn => nb_isB hn) 100
  unfold foundOf; exact h
end Go.Proofs.YtbmaljhnldepoaaDoor

/-
  spec.l01Yard and spec.YardOf by contracts.
-/
namespace Go.Proofs.YtbmaljhnldepoaaDoor
open Go Go.RowKit Go.BigFrame

/-- In the yard that was searched? -/
def foundB (d : Int × Int → Int) (u v : Nat) : Bool := decide (0 < d ((u : Int), (v : Int)))
def ThatW (w : Base) (K : Blocks) (p : Nat → Nat → Bool) (W i : Nat) (v : Value) (wr : World) : Prop := Lst w K 2 v (thatF p (upto W i)).length (sps (sL (thatF p (upto W i)))) wr

set_option maxRecDepth 100000 in
set_option maxHeartbeats 2000000 in
theorem l01Yard_any (g : Nat → Int) (hg : Fits g) (ho : okB g = true) (W H : Nat) (hg0 : g 0 = W) (hg1 : g 1 = H) (x' y' : Nat) (hx' : x' ≤ 9) (hy' : y' ≤ 9) (b1 : Nat) (w : World) (hA : At w b1 122 (pas g)) :
    Calls Tryd.prog 52 #[.pointer (some ⟨b1, 0, none⟩), .agg (arr 2 (sp (x' : Int) (y' : Int)))] w (Gives1 w (thatF (foundB (foundOf (nbOf g) ((x' : Int), (y' : Int))).d) (upto W (H * W)))) := by
  have hM : Mem w [(b1, 122, pas g)] w := (Mem.nil w).old hA (fun i p h => by simp at h)
  have ho' := ho
  unfold okB at ho'
  rw [Bool.and_eq_true, Bool.and_eq_true] at ho'
  have i0 := inB_true ho'.1.1
  have i1 := inB_true ho'.1.2
  have hW : W ≤ 10 := by omega
  have hH : H ≤ 10 := by omega
  have Ho := Lib.hid ho
  clear ho ho' i0 i1 hA
  generalize hD : (foundOf (nbOf g) ((x' : Int), (y' : Int))).d = D
  have HD := Lib.hid hD
  clear hD
  have tk_b2 : True := trivial; have tk_b9 : True := trivial; have tk_l1 : True := trivial; have tk_b10 : True := trivial
  go_enter Tryd.func52, Tryd.ntmps52
  go_wp2_with (first | (have _t := tk_b2; refine wpList_box rfl _ _ rfl _ _ rfl hM ?_; intro b2 W' hb2 hM'; clear hM tk_b2; have hM := hM'; clear hM') | (refine wpList_get rfl _ _ rfl _ _ rfl hM 0 rfl (rowTab _ _ rfl) (by omega) ?_) | (go_at_call 69; refine (l01Steps_any g hg Ho.out _ x' y' hx' hy' _ (hM.ats 1 _ _ _ rfl)).mono ?_; rintro e W' ⟨rfl, hb'⟩; rw [HD.out]; have hM' := hM.call hb'; clear hM hb'; have hM := hM'; clear hM') | (have _t := tk_b9; refine wpList_zero rfl _ rfl (zeroTab _ _ _ rfl) hM ?_; intro b9 W' hb9 hM'; clear hM tk_b9; have hM := hM'; clear hM') | (have _t := tk_l1; (refine wpList_lay rfl _ _ _ rfl _ _ rfl _ _ rfl hM 0 rfl (by assumption) (rowTab _ _ rfl) (by omega) ?_ ?_; (first | (intro _ _; rfl) | (intro k _; exact h1 _) | (intro k _; simp only [lay, upd]; (repeat' split) <;> first | exact h1 _ | rfl)); intro W' hM'; clear hM; have hM := hM'; clear hM'; simp only [List.set] at hM); clear tk_l1) | (have _t := tk_b10; refine wpList_slice0 rfl _ _ rfl _ spot_under rfl hM ?_; intro b10 W' hb10 hM'; clear hM tk_b10; have hM := hM'; clear hM'))
  have hM2 := hM.re 1 rfl (mks D) (fun k hk => by simp [lay, hk])
  simp only [List.set_cons_succ, List.set_cons_zero] at hM2
  clear hM
  have hM := hM2
  clear hM2
  go_loopw [6, 7] (fun v y wr => ∃ k : Nat, k ≤ H ∧ y = .int .i8 k ∧ ThatW w [(b9, 100, mks D), (b2, 2, sp (x' : Int) (y' : Int)), (b1, 122, pas g)] (foundB D) W (k * W) v wr) (fun _ y _ => H - (intOf y).toNat)
  case atStart => exact ⟨0, by omega, rfl, by rw [Nat.zero_mul]; exact .inr ⟨b10, 0, fun _ => undef, rfl, hb10, Nat.le_refl _, fun j hj => absurd hj (by simp [thatF, upto]), hM⟩⟩
  case round =>
    clear hM
    obtain ⟨k, hk, rfl, hL⟩ := hrel
    have c1 : wr.cell? ⟨b1, 1, none⟩ = some (.int .i8 (H : Int)) := by rw [← hg1]; exact (hL.mem.ats 2 _ _ _ rfl).cell (by omega)
    by_cases hlt : k < H
    · have hkd : decide ((k : Int) < H) = true := decide_eq_true (by omega)
      go_wp2
      go_loopw [6, 8] (fun v x wr => ∃ j : Nat, j ≤ W ∧ x = .int .i8 j ∧ ThatW w [(b9, 100, mks D), (b2, 2, sp (x' : Int) (y' : Int)), (b1, 122, pas g)] (foundB D) W (k * W + j) v wr) (fun _ x _ => W - (intOf x).toNat)
      case atStart => exact ⟨0, by omega, rfl, hL⟩
      case round =>
        clear c1 hL
        obtain ⟨j, hj, rfl, hL⟩ := hrel
        have c0 : wr.cell? ⟨b1, 0, none⟩ = some (.int .i8 (W : Int)) := by rw [← hg0]; exact (hL.mem.ats 2 _ _ _ rfl).cell (by omega)
        by_cases hjl : j < W
        · have hjd : decide ((j : Int) < W) = true := decide_eq_true (by omega)
          have lx : (j : Int) < 10 := by omega
          have ly : (k : Int) < 10 := by omega
          have e0 := mks_at D (y := k) (show j ≤ 9 by omega)
          have cg : wr.cell? ⟨b9, k * 10 + j, none⟩ = some (.int .i64 (D ((j : Int), (k : Int)))) := by rw [← e0]; exact (hL.mem.ats 0 _ _ _ rfl).cell (by omega)
          by_cases hz : 0 < D ((j : Int), (k : Int))
          · have hz' : foundB D j k = true := decide_eq_true hz
            have hzd : decide (0 < D ((j : Int), (k : Int))) = true := decide_eq_true hz
            have hsp : #[Value.int .i8 (j : Int), Value.int .i8 (k : Int)] = arr 2 (sp j k) := rfl
            have hnew := fun q hq => sps_new (thatF (foundB D) (upto W (k * W + j))) j k (j := q) hq
            have hold := fun q hq => sps_old (l := thatF (foundB D) (upto W (k * W + j))) (j, k) (j := q) hq
            have hl : (thatF (foundB D) (upto W (k * W + j))).length ≤ k * W + j := Nat.le_trans thatF_len (Nat.le_of_eq (by simp [upto]))
            have hkW : k * W + j ≤ 100 := by have := Nat.mul_le_mul (show k ≤ 9 by omega) hW; omega
            have Hn := Lib.hid hnew
            have Hy := Lib.hid (thatU_yes (W := W) hjl hz')
            clear hnew hz' e0
            rcases hL with ⟨rfl, hn0, hM⟩ | ⟨b, c, F, rfl, hb, hnc, hF, hM⟩
            · have Hq : Hid (∀ q, q < 2 → sp (j : Int) (k : Int) q = sps (sL (thatF (foundB D) (upto W (k * W + j)) ++ [(j, k)])) q) := Lib.hid (fun q hq => by have := Hn.out q hq; rwa [hn0, Nat.zero_mul, Nat.zero_add] at this)
              clear hold hl hkW
              have tk_b3 : True := trivial; have tk_p1 : True := trivial
              go_wp2_with (first | (have _t := tk_b3; refine wpList_slice1 rfl _ _ _ rfl _ _ rfl _ spot_under spot_info (by omega) (by omega) hM ?_; intro b3 W' hb3 hM'; clear hM tk_b3; have hM := hM'; clear hM') | (have _t := tk_p1; refine wpList_push0 rfl _ _ _ rfl _ 2 _ _ spot_under spot_infoB rfl (by omega) rfl _ _ rfl hM (sps (sL (thatF (foundB D) (upto W (k * W + j)) ++ [(j, k)]))) Hq.out ?_; intro bL cL FL W' hbL hcL hFL hM'; clear hM tk_p1; have hM := hM'; clear hM'))
              go_roundw
              case rel => exact ⟨j + 1, by omega, by go_num, by
                unfold ThatW
                rw [Hy.out, List.length_append, hn0]
                exact .inr ⟨bL, cL, FL, rfl, hbL, hcL, hFL, hM⟩⟩
              case measure => simp [intOf]; omega
            · have Hf : Hid (∀ q, q < (thatF (foundB D) (upto W (k * W + j))).length * 2 → F q = sps (sL (thatF (foundB D) (upto W (k * W + j)) ++ [(j, k)])) q) := Lib.hid (fun q hq => by rw [hF q hq]; exact hold q hq)
              have hn : (thatF (foundB D) (upto W (k * W + j))).length ≤ 1048576 := by omega
              clear hold hl hkW hF
              have tk_b3 : True := trivial; have tk_p1 : True := trivial
              go_wp2_with (first | (have _t := tk_b3; refine wpList_slice1 rfl _ _ _ rfl _ _ rfl _ spot_under spot_info (by omega) (by omega) hM ?_; intro b3 W' hb3 hM'; clear hM tk_b3; have hM := hM'; clear hM') | (have _t := tk_p1; refine wpList_push1 rfl _ _ _ rfl _ 2 _ _ spot_under spot_infoB rfl (by omega) _ _ _ _ rfl hb hnc hn _ _ rfl sp_one hM (sps (sL (thatF (foundB D) (upto W (k * W + j)) ++ [(j, k)]))) Hf.out Hn.out ?_; intro bL cL FL W' hbL hcL hFL hM'; clear hM tk_p1; have hM := hM'; clear hM'))
              go_roundw
              case rel => exact ⟨j + 1, by omega, by go_num, by
                unfold ThatW
                rw [Hy.out, List.length_append]
                exact .inr ⟨bL, cL, FL, rfl, hbL, hcL, hFL, hM⟩⟩
              case measure => simp [intOf]; omega
          · have hzd : decide (0 < D ((j : Int), (k : Int))) = false := decide_eq_false hz
            have Hy := Lib.hid (thatU_no (W := W) (p := foundB D) hjl (decide_eq_false hz))
            go_wp2
            go_roundw
            case rel => exact ⟨j + 1, by omega, by go_num, by unfold ThatW; rw [Hy.out]; exact hL⟩
            case measure => simp [intOf]; omega
        · obtain rfl : j = W := by omega
          go_wp2
          go_roundw
          case rel => exact ⟨k + 1, by omega, by go_num, by rw [Nat.add_mul, Nat.one_mul]; exact hL⟩
          case measure => simp [intOf]; omega
    · obtain rfl : k = H := by omega
      go_wp2
      go_ret
      exact ⟨_, rfl, hL.only⟩

def yardC (g : Nat → Int) (x y : Int) : Int := askC g x y true
def yardL (g : Nat → Int) (x y : Int) : List (Nat × Nat) := if yardC g x y = 0 then thatF (foundB (foundOf (nbOf g) (x, y)).d) (upto (g 0).toNat ((g 1).toNat * (g 0).toNat)) else []

set_option maxRecDepth 100000 in
set_option maxHeartbeats 4000000 in
theorem specYardOf_any (g : Nat → Int) (hg : Fits g) (x y : Int) (hx : -128 ≤ x ∧ x ≤ 127) (hy : -128 ≤ y ∧ y ≤ 127) (w : World) :
    Calls Tryd.prog 15 #[.agg (arr 122 (pas g)), .agg (arr 2 (sp x y))] w (GivesS w (yardL g x y) (yardC g x y)) := by
  have hM := Mem.nil w
  have Hx := Lib.hid hx
  have Hy := Lib.hid hy
  clear hx hy
  by_cases h0 : yardC g x y = 0
  · have hl : yardL g x y = thatF (foundB (foundOf (nbOf g) (x, y)).d) (upto (g 0).toNat ((g 1).toNat * (g 0).toNat)) := if_pos h0
    rw [hl, h0]
    obtain ⟨ho, hi, -⟩ := askC_0 h0
    obtain ⟨x', y', e1, hx', hy'⟩ := nat_of_in (in10_of ho hi)
    simp only [Prod.mk.injEq] at e1
    obtain ⟨rfl, rfl⟩ := e1
    have ho' := ho
    unfold okB at ho'
    rw [Bool.and_eq_true, Bool.and_eq_true] at ho'
    have i0 := inB_true ho'.1.1
    have i1 := inB_true ho'.1.2
    have hY := fun b W hA => l01Yard_any g hg ho (g 0).toNat (g 1).toNat (by omega) (by omega) x' y' hx' hy' b W hA
    have Hc : Hid (askC g (x' : Int) (y' : Int) true = 0) := Lib.hid h0
    generalize thatF (foundB (foundOf (nbOf g) ((x' : Int), (y' : Int))).d) (upto (g 0).toNat ((g 1).toNat * (g 0).toNat)) = l at hY
    have HY := Lib.hid hY
    clear h0 hi ho hl ho' i0 i1 hY
    have tk_b1 : True := trivial; have tk_b2 : True := trivial
    go_enter Tryd.func15, Tryd.ntmps15
    go_wp2_with (first | (have _t := tk_b1; refine wpList_box rfl _ _ rfl _ _ rfl hM ?_; intro b1 W' hb1 hM'; clear hM tk_b1; have hM := hM'; clear hM') | (have _t := tk_b2; refine wpList_box rfl _ _ rfl _ _ rfl hM ?_; intro b2 W' hb2 hM'; clear hM tk_b2; have hM := hM'; clear hM') | (refine wpList_get rfl _ _ rfl _ _ rfl hM 0 rfl (rowTab _ _ rfl) (by omega) ?_) | (go_at_call 51; refine (l01Asked_any g hg _ _ _ Hx.out Hy.out _ _ (hM.ats 1 _ _ _ rfl)).mono ?_; rintro e W' ⟨rfl, hb'⟩; rw [Hc.out]; have hM' := hM.call hb'; clear hM hb'; have hM := hM'; clear hM') | (go_at_call 52; refine (HY.out b1 _ (hM.ats 1 _ _ _ rfl)).mono ?_; rintro e W' ⟨v0, rfl, hL0⟩; have hU := Lst.up hM hL0; clear hL0))
    go_ret2
    exact ⟨_, rfl, hU.1⟩
  · have hl : yardL g x y = [] := if_neg h0
    rw [hl]
    obtain ⟨c, hc⟩ : ∃ c, askC g x y true = c := ⟨_, rfl⟩
    have Hc := Lib.hid hc
    have hz : ¬ c = 0 := by rw [← hc]; exact h0
    have hcc : yardC g x y = c := hc
    rw [hcc]
    clear h0 hc hl hcc
    have tk_b1 : True := trivial; have tk_b2 : True := trivial; have tk_b3 : True := trivial
    go_enter Tryd.func15, Tryd.ntmps15
    go_wp2_with (first | (have _t := tk_b1; refine wpList_box rfl _ _ rfl _ _ rfl hM ?_; intro b1 W' hb1 hM'; clear hM tk_b1; have hM := hM'; clear hM') | (have _t := tk_b2; refine wpList_box rfl _ _ rfl _ _ rfl hM ?_; intro b2 W' hb2 hM'; clear hM tk_b2; have hM := hM'; clear hM') | (refine wpList_get rfl _ _ rfl _ _ rfl hM 0 rfl (rowTab _ _ rfl) (by omega) ?_) | (go_at_call 51; refine (l01Asked_any g hg _ _ _ Hx.out Hy.out _ _ (hM.ats 1 _ _ _ rfl)).mono ?_; rintro e W' ⟨rfl, hb'⟩; rw [Hc.out]; have hM' := hM.call hb'; clear hM hb'; have hM := hM'; clear hM') | (have _t := tk_b3; refine wpList_slice0 rfl _ _ rfl _ spot_under rfl hM ?_; intro b3 W' hb3 hM'; clear hM tk_b3; have hM := hM'; clear hM'))
    go_ret2
    exact ⟨_, rfl, Lst.only (.inr ⟨b3, 0, fun _ => undef, rfl, hb3, Nat.le_refl _, fun j hj => absurd hj (by simp), hM⟩)⟩
end Go.Proofs.YtbmaljhnldepoaaDoor

/-
  cmp.Compare of int8s, cmp.Or of two ints, (impl.Spot).compare by contracts that say the end world outright.
-/
namespace Go.Proofs.YtbmaljhnldepoaaDoor
open Go Go.RowKit Go.Lib Go.Sort

theorem isNaN8_any (x : Int) (w : World) : Calls Tryd.prog 177 #[.int .i8 x] w fun e w' => e = .returned (.bool false) ∧ w' = w := by
  go_enter Tryd.func177, Tryd.ntmps177
  go_wp2
  go_ret
  exact ⟨by simp, rfl⟩
set_option maxHeartbeats 1000000 in
theorem cmp8_any (x y : Int) (w : World) : Calls Tryd.prog 164 #[.int .i8 x, .int .i8 y] w fun e w' => e = .returned (.int .i64 (compareInt x y)) ∧ w' = w := by
  go_enter Tryd.func164, Tryd.ntmps164
  go_wp2_with (go_at_call 177; refine (isNaN8_any _ _).mono ?_; rintro e w' ⟨rfl, hw⟩; rw [hw])
  all_goals (go_ret; refine ⟨?_, rfl⟩; unfold compareInt; (repeat' split) <;> first | rfl | (exfalso; omega))

/-- The first of two that is not 0. -/
def orI (a c : Int) : Int := if a = 0 then c else a
set_option maxHeartbeats 1000000 in
theorem cmpOr_any (a c : Int) (b : Nat) (w : World) (h0 : w.cell? ⟨b, 0, none⟩ = some (.int .i64 a)) (h1 : w.cell? ⟨b, 1, none⟩ = some (.int .i64 c)) :
    Calls Tryd.prog 163 #[.slice (some ⟨b, 0, none⟩) 2 2] w fun e w' => e = .returned (.int .i64 (orI a c)) ∧ w' = w := by
  by_cases ha : a = 0
  · subst ha
    by_cases hc : c = 0
    · subst hc
      go_enter Tryd.func163, Tryd.ntmps163
      go_wp2
      refine wp_loop_rounds 3 ?_
      rw [rounds_succ]
      go_wp2
      rw [rounds_succ]
      go_wp2
      rw [rounds_succ]
      go_wp2
      go_ret
      exact ⟨rfl, rfl⟩
    · have hd : decide (c = 0) = false := decide_eq_false hc
      go_enter Tryd.func163, Tryd.ntmps163
      go_wp2
      refine wp_loop_rounds 3 ?_
      rw [rounds_succ]
      go_wp2
      rw [rounds_succ]
      go_wp2
      go_ret
      exact ⟨rfl, rfl⟩
  · have hd : decide (a = 0) = false := decide_eq_false ha
    have ho : orI a c = a := by simp [orI, ha]
    rw [ho]
    go_enter Tryd.func163, Tryd.ntmps163
    go_wp2
    refine wp_loop_rounds 3 ?_
    rw [rounds_succ]
    go_wp2
    go_ret
    exact ⟨rfl, rfl⟩

/-- Spots in order: by row, then by column. -/
def cmpS (a b : Int × Int) : Int := orI (compareInt a.2 b.2) (compareInt a.1 b.1)
theorem new_cell (W : World) (A : Array Value) (t : TypeId) (i : Nat) : (W.alloc (.cells A t)).cell? ⟨W.heap.size, i, none⟩ = A[i]? := by
  have hA : (W.alloc (.cells A t)).heap[W.heap.size]? = some (.cells A t) := World.alloc_heap_new W _
  unfold World.cell?
  rw [hA]
  rfl
theorem two_cells (W : World) (A B : Array Value) (t t' : TypeId) :
    (∀ i, ((W.alloc (.cells A t)).alloc (.cells B t')).drew.cell? ⟨W.heap.size, i, none⟩ = A[i]?) ∧ (∀ i, ((W.alloc (.cells A t)).alloc (.cells B t')).drew.cell? ⟨W.heap.size + 1, i, none⟩ = B[i]?) :=
  have hA : (((W.alloc (.cells A t)).alloc (.cells B t')).drew).heap[W.heap.size]? = some (.cells A t) := by
    show ((W.heap.push (Obj.cells A t)).push (Obj.cells B t'))[W.heap.size]? = _
    rw [Array.getElem?_push_lt (by simp)]; simp
  have hB : (((W.alloc (.cells A t)).alloc (.cells B t')).drew).heap[W.heap.size + 1]? = some (.cells B t') := by
    show ((W.heap.push (Obj.cells A t)).push (Obj.cells B t'))[W.heap.size + 1]? = _
    have : (W.heap.push (Obj.cells A t)).size = W.heap.size + 1 := by simp
    rw [← this, Array.getElem?_push_size]
  ⟨fun i => by unfold World.cell?; rw [hA]; rfl, fun i => by unfold World.cell?; rw [hB]; rfl⟩
set_option maxRecDepth 100000 in
set_option maxHeartbeats 2000000 in
theorem spotCmp_any (x1 y1 x2 y2 : Int) (W : World) :
    Calls Tryd.prog 146 #[.agg #[.int .i8 x1, .int .i8 y1], .agg #[.int .i8 x2, .int .i8 y2]] W fun e w' => e = .returned (.int .i64 (cmpS (x1, y1) (x2, y2))) ∧ ∃ q os', w' = grow (W.drewN q) os' := by
  have hc := fun w => cmp8_any y1 y2 w
  have hd := fun w => cmp8_any x1 x2 w
  show Calls _ _ _ _ fun e w' => e = .returned (.int .i64 (orI (compareInt y1 y2) (compareInt x1 x2))) ∧ ∃ q os', w' = grow (W.drewN q) os'
  generalize compareInt y1 y2 = r at hc ⊢
  generalize compareInt x1 x2 = s at hd ⊢
  go_enter Tryd.func146, Tryd.ntmps146
  go_wp2
  generalize hW2 : (W.alloc (Obj.cells #[Value.int IntKind.i8 x1, Value.int IntKind.i8 y1] 37)).alloc (Obj.cells #[Value.int IntKind.i8 x2, Value.int IntKind.i8 y2] 37) = W2
  refine wp_region_still_tail 10 (by kernel_rfl) (by kernel_rfl) ?_
  simp only [List.take_succ_cons, List.take_zero, List.drop_succ_cons, List.drop_zero]
  generalize hWe : ({ heap := W2.heap, tape := W2.tape, drawn := W2.drawn + 1, os := W2.os, output := W2.output } : World) = Wd
  have hWd : W2.drew = Wd := hWe
  clear hWe
  have k0 : Wd.cell? ⟨W.heap.size, 0, none⟩ = some (Value.int .i8 x1) := by rw [← hWd, ← hW2]; exact (two_cells W _ _ _ _).1 0
  have k1 : Wd.cell? ⟨W.heap.size, 1, none⟩ = some (Value.int .i8 y1) := by rw [← hWd, ← hW2]; exact (two_cells W _ _ _ _).1 1
  have k2 : Wd.cell? ⟨W.heap.size + 1, 0, none⟩ = some (Value.int .i8 x2) := by rw [← hWd, ← hW2]; exact (two_cells W _ _ _ _).2 0
  have k3 : Wd.cell? ⟨W.heap.size + 1, 1, none⟩ = some (Value.int .i8 y2) := by rw [← hWd, ← hW2]; exact (two_cells W _ _ _ _).2 1
  have hG : ∀ o : Obj, ∃ q os', Wd.alloc o = grow (W.drewN q) os' := fun o => by
    rw [← hWd, ← hW2]
    exact ⟨1, _, by rw [alloc_eq_grow, alloc_eq_grow, alloc_eq_grow]; show grow (grow (grow W.drew _) _) _ = _; rw [grow_grow, grow_grow]; rfl⟩
  clear hWd hW2
  repeat still_step
  still_call (hc _)
  repeat still_step
  still_call (hd _)
  refine wpStill_nil ?_
  have ho := fun (t : TypeId) => cmpOr_any r s Wd.heap.size (Wd.alloc (.cells #[.int .i64 r, .int .i64 s] t)) (new_cell Wd _ t 0) (new_cell Wd _ t 1)
  go_wp2_with (go_at_call 163; refine (ho _).mono ?_; rintro e w' ⟨rfl, rfl⟩)
  go_ret
  exact ⟨rfl, hG _⟩
end Go.Proofs.YtbmaljhnldepoaaDoor

/-
  THE ORDER OF SPOTS, by row, then by column: what slices.SortFunc is asked to keep, and what comes of it.
-/
namespace Go.Proofs.YtbmaljhnldepoaaDoor
open Go Go.RowKit Go.Lib Go.Sort

def ltS (a b : Int × Int) : Bool := decide (a.2 < b.2 ∨ (a.2 = b.2 ∧ a.1 < b.1))
theorem ltS_iff {a b : Int × Int} : ltS a b = true ↔ a.2 < b.2 ∨ (a.2 = b.2 ∧ a.1 < b.1) := by simp [ltS]
theorem ltS_not {a b : Int × Int} : ltS a b = false ↔ b.2 < a.2 ∨ (a.2 = b.2 ∧ b.1 ≤ a.1) := by
  rw [← Bool.not_eq_true, ltS_iff]
  omega
theorem cmpS_lt (a b : Int × Int) : decide (cmpS a b < 0) = ltS a b := by
  have h : cmpS a b < 0 ↔ a.2 < b.2 ∨ (a.2 = b.2 ∧ a.1 < b.1) := by
    unfold cmpS orI compareInt
    (repeat' split) <;> omega
  simp [ltS, h]
theorem swoS : SWO ltS where
  irrefl x := by rw [ltS_not]; omega
  trans x y z h1 h2 := by rw [ltS_iff] at *; omega
  ntrans x y z h1 h2 := by rw [ltS_not] at *; omega
theorem ltS_total (x y : Int × Int) (h1 : ltS x y = false) (h2 : ltS y x = false) : x = y := by
  rw [ltS_not] at *
  exact Prod.ext (by omega) (by omega)
/-- Sorted: the one list in order that has the same spots. -/
theorem sortS_eq {l s : List (Int × Int)} (hp : l.Perm s) (hs : s.Pairwise fun a b => ltS a b = true) : l.mergeSort (fun x y => !ltS y x) = s := by
  have tr : ∀ a b c : Int × Int, (!ltS b a) = true → (!ltS c b) = true → (!ltS c a) = true := fun a b c h1 h2 => by
    simp only [Bool.not_eq_true', ltS_not] at *; omega
  have to : ∀ a b : Int × Int, ((!ltS b a) || (!ltS a b)) = true := fun a b => by
    cases h1 : ltS b a <;> cases h2 : ltS a b <;> simp
    rw [ltS_iff] at h1 h2; omega
  refine List.Perm.eq_of_pairwise (le := fun a b => (!ltS b a) = true) (fun a b _ _ h1 h2 => ltS_total a b (by simpa using h2) (by simpa using h1)) (List.pairwise_mergeSort tr to l) (hs.imp fun {a b} h => ?_) ((List.mergeSort_perm l _).trans hp)
  simp only [Bool.not_eq_true', ltS_not]
  rw [ltS_iff] at h
  omega
end Go.Proofs.YtbmaljhnldepoaaDoor

/-
  A yard's cells in order: the cells that a search finds, row by row.
-/
namespace Go.Proofs.YtbmaljhnldepoaaDoor
open Go Go.RowKit

/-- A cell as a spot. -/
def castC (c : Nat × Nat) : Int × Int := ((c.1 : Int), (c.2 : Int))
theorem castC_inj {a b : Nat × Nat} (h : castC a = castC b) : a = b := by
  unfold castC at h
  simp only [Prod.mk.injEq] at h
  exact Prod.ext (by omega) (by omega)
theorem sI_cast (l : List (Nat × Nat)) : sI (l.map castC) = sL l := by
  funext k
  unfold sI sL
  simp only [List.getD_eq_getElem?_getD, List.getElem?_map]
  cases l[k]? <;> rfl
theorem upto_sorted (W : Nat) (n : Nat) : ((upto W n).map castC).Pairwise fun a b => ltS a b = true := by
  unfold upto
  rw [List.map_map, List.pairwise_map]
  refine List.pairwise_lt_range.imp ?_
  intro i j hij
  rw [ltS_iff]
  simp only [Function.comp, castC, cellAt]
  have h1 := Nat.div_le_div_right (c := W) (Nat.le_of_lt hij)
  rcases Nat.lt_or_eq_of_le h1 with h | h
  · left; omega
  · right
    have e1 := Nat.div_add_mod i W
    have e2 := Nat.div_add_mod j W
    rw [h] at e1
    exact ⟨by omega, by omega⟩
theorem sorted_nodup {l : List (Int × Int)} (h : l.Pairwise fun a b => ltS a b = true) : l.Nodup :=
  h.imp fun {a b} hab e => by subst e; rw [ltS_iff] at hab; omega

/-- The cells found, in order. -/
theorem yard_sorted (d : Int × Int → Int) (W n : Nat) : ((thatF (foundB d) (upto W n)).map castC).Pairwise fun a b => ltS a b = true := by
  unfold thatF
  exact (upto_sorted W n).sublist ((List.filter_sublist).map castC)
theorem yard_perm {g : Nat → Int} {x y : Int} (hi : isB g x y = true) {W H : Nat} (hg0 : g 0 = W) (hg1 : g 1 = H) :
    (foundOf (nbOf g) (x, y)).q.Perm ((thatF (foundB (foundOf (nbOf g) (x, y)).d) (upto W (H * W))).map castC) := by
  have hG := found_isB hi
  refine (List.perm_ext_iff_of_nodup hG.nodup (sorted_nodup (yard_sorted _ _ _))).2 fun k => ?_
  have hm := hG.mem k
  have hl := hG.low k
  have hc := hG.cells k
  rw [List.mem_map]
  constructor
  · intro hk
    have hb := hc hk
    simp only [isB, inB, Bool.and_eq_true, decide_eq_true_eq, hg0, hg1] at hb
    refine ⟨(k.1.toNat, k.2.toNat), ?_, ?_⟩
    · unfold thatF
      rw [List.mem_filter]
      refine ⟨by rw [Nat.mul_comm H W]; exact mem_upto (by omega) (by omega), ?_⟩
      have e : ((k.1.toNat : Int), (k.2.toNat : Int)) = k := Prod.ext (by show (k.1.toNat : Int) = k.1; omega) (by show (k.2.toNat : Int) = k.2; omega)
      unfold foundB
      rw [e]
      have := hm.1 hk
      exact decide_eq_true (by omega)
    · exact Prod.ext (by show (k.1.toNat : Int) = k.1; omega) (by show (k.2.toNat : Int) = k.2; omega)
  · rintro ⟨c, hc', rfl⟩
    unfold thatF at hc'
    rw [List.mem_filter] at hc'
    have := of_decide_eq_true hc'.2
    refine hm.2 ?_
    show (foundOf (nbOf g) (x, y)).d ((c.1 : Int), (c.2 : Int)) ≠ 0
    omega
end Go.Proofs.YtbmaljhnldepoaaDoor

