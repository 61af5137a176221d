/-
  Several texts in one: PutA, PutAI, EqSpot, HurdleQ, Num, GrassAt, CheckGrass, WithGrass, AddHurdles.
-/
import Derived.Test.YtofgkmoilncfpaaDoorP8
import Derived.Test.YtofgkmoilncfpaaDoorP3
import Derived.Test.YtofgkmoilncfpaaDoorP1
import Derived.Test.YtofgkmoilncfpaaDoorP5
import Derived.Test.YtofgkmoilncfpaaDoorP6
/-
  impl.Pasture.setAll, putAll, AddHurdles, TakeHurdles by contracts.
-/
namespace Go.Proofs.YtofgkmoilncfpaaDoor
open Go Go.RowKit Go.BigFrame Go.Extern.Stop Go.Stop Go.Extern

theorem make_closureH (fn : Fn) (first cap : Array Value) (w : World) : (Instr.makeFunc fn first cap).run Tryd.prog w = .ok (.func fn first cap) w := rfl
set_option maxRecDepth 100000 in
set_option maxHeartbeats 4000000 in
theorem setAll_ok (g : Nat → Int) (h0 : g 0 ≤ 10) (h1 : g 1 ≤ 10) (b n c : Nat) (hs : Nat → Nat → Int) (on : Bool) (hH : ∀ k, k < n → hurIs g (hs k 0) (hs k 1) (hs k 2 == 1) = true) (hn : n ≤ 1048576) (w : World) (hB : At w b (n * 3) (sHurdle hs)) :
    Calls Tryd.prog 31 #[.agg (arr 122 (pas g)), .slice (some ⟨b, 0, none⟩) n c, .bool on] w fun e w' => e = .returned (.tuple #[.agg (arr 122 (pas (putsH g hs on n))), .nilIface]) ∧ Below w.heap.size w w' := by
  have hM : Mem w [(b, n * 3, sHurdle hs)] w := (Mem.nil w).old hB (fun i p h => by simp at h)
  have HH := Lib.hid (fun k (hk : k < n) => hurIs_in h0 h1 (hH k hk))
  have HI := Lib.hid (fun k (hk : k < n) => (hurIs_low (putsH_low g hs on k 0 (by omega)) (putsH_low g hs on k 1 (by omega)) (hs k 0) (hs k 1) (hs k 2 == 1)).trans (hH k hk))
  have h0' := Lib.hid (fun k => (putsH_low g hs on k 0 (by omega)).symm ▸ h0)
  have h1' := Lib.hid (fun k => (putsH_low g hs on k 1 (by omega)).symm ▸ h1)
  have hmf := make_closureH
  clear hB hH h0 h1
  have tk_x1 : True := trivial; have tk_f4 : True := trivial; have tk_e5 : True := trivial; have tk_h9 : True := trivial
  go_enter_defers Tryd.func31, Tryd.ntmps31
  go_wp2_with (first | (have _t := tk_x1; refine wpList_box rfl _ _ rfl _ _ rfl hM ?_; intro x1 W' hx1 hM'; clear hM tk_x1; have hM := hM'; clear hM') | (have _t := tk_f4; refine wpList_zero rfl _ rfl (zeroTab _ _ _ rfl) hM ?_; intro f4 W' hf4 hM'; clear hM tk_f4; have hM := hM'; clear hM') | (have _t := tk_e5; refine wpList_zero1 rfl _ rfl (zero1Tab _ _ rfl) rfl hM ?_; intro e5 W' he5 hM'; clear hM tk_e5; have hM := hM'; clear hM'))
  go_loopw [9, 13] (fun _ i wr => ∃ k : Nat, k ≤ n ∧ i = .int .i64 k ∧ Mem w [(e5, 1, fun _ => .nilIface), (f4, 122, zP), (x1, 122, pas (putsH g hs on k)), (b, n * 3, sHurdle hs)] wr) (fun _ i _ => n - (intOf i).toNat)
  case atStart => exact ⟨0, by omega, rfl, hM⟩
  case round =>
    clear hM
    obtain ⟨k, hk, rfl, hM⟩ := hrel
    by_cases hlt : k < n
    · have l2 : (k : Int) < n := by omega
      have hh := HH.out k hlt
      have hi := HI.out k hlt
      have e3 := hur3 hs k
      have HP := Lib.hid (show putsH g hs on (k + 1) = putH (putsH g hs on k) (hs k 0).toNat (hs k 1).toNat (hs k 2 == 1) on from rfl)
      obtain ⟨x, hx⟩ : ∃ x : Nat, hs k 0 = x := ⟨(hs k 0).toNat, by omega⟩
      obtain ⟨y, hy⟩ : ∃ y : Nat, hs k 1 = y := ⟨(hs k 1).toNat, by omega⟩
      generalize (hs k 2 == 1) = s at e3 HP hi
      rw [hx, hy] at e3 HP hi
      rw [hx, hy] at hh
      simp only [Int.toNat_natCast] at HP
      clear hx hy
      have G0 := Lib.hid (h0'.out k)
      have G1 := Lib.hid (h1'.out k)
      have HX := Lib.hid hi
      obtain ⟨G, hG⟩ : ∃ G, putsH g hs on k = G := ⟨_, rfl⟩
      rw [hG] at hM G0 G1 HX HP
      clear hG hi
      go_wp2_with (first | ((refine wpList_get rfl _ _ rfl _ _ rfl hM 3 rfl (rowTab _ 3 rfl) (by omega) ?_); rw [e3]) | (have _t := tk_h9; refine wpList_zero rfl _ rfl (zeroTab _ _ _ rfl) hM ?_; intro h9 W' hh9 hM'; clear hM tk_h9; have hM := hM'; clear hM') | (refine wpList_lay rfl _ _ _ rfl _ _ rfl _ _ rfl hM 0 rfl (by assumption) (rowTab _ _ rfl) (by omega) (fun k _ => hd_one _ _ _ _) ?_; intro W' hM'; have hM2 := hM'.re 0 rfl (hd (x : Int) (y : Int) s) (fun k hk => by simp [lay, hk]); simp only [List.set] at hM2; clear hM hM'; have hM := hM2; clear hM2) | (refine wpList_get rfl _ _ rfl _ _ rfl hM 3 rfl (rowTab _ _ rfl) (by omega) ?_) | (refine wpList_get rfl _ _ rfl _ _ rfl hM 0 rfl (rowTab _ _ rfl) (by omega) ?_) | (go_at_call 42; (with_reducible refine (demandH_ok G G0.out G1.out (x : Int) (y : Int) s HX.out _).mono ?_); rintro e W' ⟨rfl, hb'⟩; have hM' := hM.call hb'; clear hM hb'; have hM := hM'; clear hM') | (go_at_call 43; (with_reducible refine (setH_any G x y (by omega) (by omega) s on _).mono ?_); rintro e W' ⟨rfl, hb'⟩; have hM' := hM.call hb'; clear hM hb'; have hM := hM'; clear hM') | (refine wpList_lay rfl _ _ _ rfl _ _ rfl _ _ rfl hM 3 rfl (by assumption) (rowTab _ _ rfl) (by omega) (fun k _ => rfl) ?_; intro W' hM'; have hM2 := hM'.re 3 rfl (pas (putH G x y s on)) (fun k hk => by simp [lay, hk]); simp only [List.set] at hM2; clear hM hM'; have hM := hM2; clear hM2))
      go_roundw
      case rel => exact ⟨k + 1, by omega, by go_num, by rw [HP.out]; exact hM.drop⟩
      case measure => simp [intOf]; omega
    · obtain rfl : k = n := by omega
      go_wp2_with (first | (refine wpList_get rfl _ _ rfl _ _ rfl hM 2 rfl (rowTab _ _ rfl) (by omega) ?_) | (refine wpList_lay rfl _ _ _ rfl _ _ rfl _ _ rfl hM 1 rfl (by assumption) (rowTab _ _ rfl) (by omega) ?_ ?_; (first | (intro _ _; rfl) | (intro k _; exact h1 _) | (intro k _; simp only [lay, upd]; (repeat' split) <;> first | exact h1 _ | rfl)); intro W' hM'; clear hM; have hM := hM'; clear hM'; simp only [List.set] at hM) | (refine wpList_set1 rfl _ _ _ rfl _ _ rfl .nilIface rfl rfl hM 0 rfl (by assumption) (cellTab _ rfl) (by omega) ?_; intro W' hM'; have hM2 := hM'.re 0 rfl (fun _ => Value.nilIface) (fun k hk => by simp [upd]); simp only [List.set] at hM2; clear hM hM'; have hM := hM2; clear hM2))
      refine leaves_cons (f := 41) (args := #[.pointer (some ⟨e5, 0, none⟩)]) (by simp) (by simp [go_sem]) ?_
      refine (catchH_idle e5 _).mono ?_
      rintro e u' w'' ⟨rfl, rfl, rfl⟩
      exact ⟨_, results_cellsH rfl _ rfl ((hM.ats 1 _ _ _ rfl).congr (fun j hj => by simp only [lay, Nat.zero_add, Nat.sub_zero]; rw [if_pos ⟨by omega, hj⟩])) (rowTab _ _ rfl) rfl ((hM.ats 0 _ _ _ rfl).cell (by omega)) (cellTab _ rfl), rfl, hM.below⟩
set_option maxRecDepth 100000 in
set_option maxHeartbeats 4000000 in
theorem setAll_no {a : Nat → Addr} (g : Nat → Int) (h0 : g 0 ≤ 10) (h1 : g 1 ≤ 10) (b n c : Nat) (hs : Nat → Nat → Int) (on : Bool) (m : Nat) (hm : m < n) (hH : ∀ k, k < m → hurIs g (hs k 0) (hs k 1) (hs k 2 == 1) = true) (hbad : hurIs g (hs m 0) (hs m 1) (hs m 2 == 1) = false) (hn : n ≤ 1048576) (w : World) (hE : Errs a w) (hB : At w b (n * 3) (sHurdle hs)) :
    Calls Tryd.prog 31 #[.agg (arr 122 (pas g)), .slice (some ⟨b, 0, none⟩) n c, .bool on] w fun e w' => e = .returned (.tuple #[.agg (arr 122 zP), errV (a 1)]) ∧ Below w.heap.size w w' := by
  have hM : Mem w [(b, n * 3, sHurdle hs)] w := (Mem.nil w).old hB (fun i p h => by simp at h)
  have HH := Lib.hid (fun k (hk : k < m) => hurIs_in h0 h1 (hH k hk))
  have HI := Lib.hid (fun k (hk : k < m) => (hurIs_low (putsH_low g hs on k 0 (by omega)) (putsH_low g hs on k 1 (by omega)) (hs k 0) (hs k 1) (hs k 2 == 1)).trans (hH k hk))
  have h0' := Lib.hid (fun k => (putsH_low g hs on k 0 (by omega)).symm ▸ h0)
  have h1' := Lib.hid (fun k => (putsH_low g hs on k 1 (by omega)).symm ▸ h1)
  have hmf := make_closureH
  have HE := Lib.hid hE
  have HB := Lib.hid ((hurIs_low (putsH_low g hs on m 0 (by omega)) (putsH_low g hs on m 1 (by omega)) (hs m 0) (hs m 1) (hs m 2 == 1)).trans hbad)
  clear hE hbad
  clear hB hH h0 h1
  have tk_x1 : True := trivial; have tk_f4 : True := trivial; have tk_e5 : True := trivial; have tk_h9 : True := trivial
  go_enter_defers Tryd.func31, Tryd.ntmps31
  go_wp2_with (first | (have _t := tk_x1; refine wpList_box rfl _ _ rfl _ _ rfl hM ?_; intro x1 W' hx1 hM'; clear hM tk_x1; have hM := hM'; clear hM') | (have _t := tk_f4; refine wpList_zero rfl _ rfl (zeroTab _ _ _ rfl) hM ?_; intro f4 W' hf4 hM'; clear hM tk_f4; have hM := hM'; clear hM') | (have _t := tk_e5; refine wpList_zero1 rfl _ rfl (zero1Tab _ _ rfl) rfl hM ?_; intro e5 W' he5 hM'; clear hM tk_e5; have hM := hM'; clear hM'))
  go_loopw [9, 13] (fun _ i wr => ∃ k : Nat, k ≤ m ∧ i = .int .i64 k ∧ Mem w [(e5, 1, fun _ => .nilIface), (f4, 122, zP), (x1, 122, pas (putsH g hs on k)), (b, n * 3, sHurdle hs)] wr) (fun _ i _ => n - (intOf i).toNat)
  case atStart => exact ⟨0, by omega, rfl, hM⟩
  case round =>
    clear hM
    obtain ⟨k, hk, rfl, hM⟩ := hrel
    by_cases hlt : k < m
    · have l2 : (k : Int) < n := by omega
      have hh := HH.out k hlt
      have hi := HI.out k hlt
      have e3 := hur3 hs k
      have HP := Lib.hid (show putsH g hs on (k + 1) = putH (putsH g hs on k) (hs k 0).toNat (hs k 1).toNat (hs k 2 == 1) on from rfl)
      obtain ⟨x, hx⟩ : ∃ x : Nat, hs k 0 = x := ⟨(hs k 0).toNat, by omega⟩
      obtain ⟨y, hy⟩ : ∃ y : Nat, hs k 1 = y := ⟨(hs k 1).toNat, by omega⟩
      generalize (hs k 2 == 1) = s at e3 HP hi
      rw [hx, hy] at e3 HP hi
      rw [hx, hy] at hh
      simp only [Int.toNat_natCast] at HP
      clear hx hy
      have G0 := Lib.hid (h0'.out k)
      have G1 := Lib.hid (h1'.out k)
      have HX := Lib.hid hi
      obtain ⟨G, hG⟩ : ∃ G, putsH g hs on k = G := ⟨_, rfl⟩
      rw [hG] at hM G0 G1 HX HP
      clear hG hi
      go_wp2_with (first | ((refine wpList_get rfl _ _ rfl _ _ rfl hM 3 rfl (rowTab _ 3 rfl) (by omega) ?_); rw [e3]) | (have _t := tk_h9; refine wpList_zero rfl _ rfl (zeroTab _ _ _ rfl) hM ?_; intro h9 W' hh9 hM'; clear hM tk_h9; have hM := hM'; clear hM') | (refine wpList_lay rfl _ _ _ rfl _ _ rfl _ _ rfl hM 0 rfl (by assumption) (rowTab _ _ rfl) (by omega) (fun k _ => hd_one _ _ _ _) ?_; intro W' hM'; have hM2 := hM'.re 0 rfl (hd (x : Int) (y : Int) s) (fun k hk => by simp [lay, hk]); simp only [List.set] at hM2; clear hM hM'; have hM := hM2; clear hM2) | (refine wpList_get rfl _ _ rfl _ _ rfl hM 3 rfl (rowTab _ _ rfl) (by omega) ?_) | (refine wpList_get rfl _ _ rfl _ _ rfl hM 0 rfl (rowTab _ _ rfl) (by omega) ?_) | (go_at_call 42; (with_reducible refine (demandH_ok G G0.out G1.out (x : Int) (y : Int) s HX.out _).mono ?_); rintro e W' ⟨rfl, hb'⟩; have hM' := hM.call hb'; clear hM hb'; have hM := hM'; clear hM') | (go_at_call 43; (with_reducible refine (setH_any G x y (by omega) (by omega) s on _).mono ?_); rintro e W' ⟨rfl, hb'⟩; have hM' := hM.call hb'; clear hM hb'; have hM := hM'; clear hM') | (refine wpList_lay rfl _ _ _ rfl _ _ rfl _ _ rfl hM 3 rfl (by assumption) (rowTab _ _ rfl) (by omega) (fun k _ => rfl) ?_; intro W' hM'; have hM2 := hM'.re 3 rfl (pas (putH G x y s on)) (fun k hk => by simp [lay, hk]); simp only [List.set] at hM2; clear hM hM'; have hM := hM2; clear hM2))
      go_roundw
      case rel => exact ⟨k + 1, by omega, by go_num, by rw [HP.out]; exact hM.drop⟩
      case measure => simp [intOf]; omega
    · obtain rfl : k = m := by omega
      have l2 : (k : Int) < n := by omega
      have e3 := hur3 hs k
      have hb := HB.out
      generalize (hs k 2 == 1) = s at e3 hb
      generalize hs k 0 = x at e3 hb
      generalize hs k 1 = y at e3 hb
      have G0 := Lib.hid (h0'.out k)
      have G1 := Lib.hid (h1'.out k)
      have HX := Lib.hid hb
      obtain ⟨G, hG⟩ : ∃ G, putsH g hs on k = G := ⟨_, rfl⟩
      rw [hG] at hM G0 G1 HX
      clear hG hb HB
      go_wp2_with (first | ((refine wpList_get rfl _ _ rfl _ _ rfl hM 3 rfl (rowTab _ 3 rfl) (by omega) ?_); rw [e3]) | (have _t := tk_h9; refine wpList_zero rfl _ rfl (zeroTab _ _ _ rfl) hM ?_; intro h9 W' hh9 hM'; clear hM tk_h9; have hM := hM'; clear hM') | (refine wpList_lay rfl _ _ _ rfl _ _ rfl _ _ rfl hM 0 rfl (by assumption) (rowTab _ _ rfl) (by omega) (fun k _ => hd_one _ _ _ _) ?_; intro W' hM'; have hM2 := hM'.re 0 rfl (hd x y s) (fun k hk => by simp [lay, hk]); simp only [List.set] at hM2; clear hM hM'; have hM := hM2; clear hM2) | (refine wpList_get rfl _ _ rfl _ _ rfl hM 3 rfl (rowTab _ _ rfl) (by omega) ?_) | (refine wpList_get rfl _ _ rfl _ _ rfl hM 0 rfl (rowTab _ _ rfl) (by omega) ?_) | (go_at_call 42; refine (demandH_no G G0.out G1.out x y s HX.out _).mono ?_; rintro e W' ⟨rfl, hb'⟩; have hM' := hM.call hb'; clear hM hb'; have hM := hM'; clear hM'))
      have hM2 := hM.drop
      refine leaves_cons (f := 41) (args := #[.pointer (some ⟨e5, 0, none⟩)]) (by simp) (by simp [go_sem]) ?_
      refine (catchH_misp e5 .nilIface x y s _ hM2 (by assumption) (HE.out.below hM.below)).mono ?_
      rintro e u' w'' ⟨rfl, rfl, hM3⟩
      exact ⟨_, results_cellsH rfl _ rfl (hM3.ats 1 _ _ _ rfl) (rowTab _ _ rfl) rfl ((hM3.ats 0 _ _ _ rfl).cell (by omega)) (cellTab _ rfl), rfl, hM3.below⟩
end Go.Proofs.YtofgkmoilncfpaaDoor

/-
  impl.putAll, AddHurdles, TakeHurdles by contracts.
-/
namespace Go.Proofs.YtofgkmoilncfpaaDoor
open Go Go.RowKit Go.BigFrame

set_option maxRecDepth 100000 in
set_option maxHeartbeats 2000000 in
theorem putAll_any {a : Nat → Addr} (g : Nat → Int) (hg : Fits g) (b n c : Nat) (hs : Nat → Nat → Int) (on : Bool) (hn : n ≤ 1048576) (w : World) (hE : Errs a w) (hB : At w b (n * 3) (sHurdle hs)) :
    Calls Tryd.prog 19 #[.agg (arr 122 (pas g)), .slice (some ⟨b, 0, none⟩) n c, .bool on] w fun e w' => e = .returned (pasR (putP g hs on n) (putC g hs n)) ∧ Below w.heap.size w w' := by
  have hM : Mem w [(b, n * 3, sHurdle hs)] w := (Mem.nil w).old hB (fun i p h => by simp at h)
  have HE := Lib.hid hE
  clear hB hE
  cases ho : okB g
  · have Hc : Hid (putC g hs n = 1) := Lib.hid (putC_bad ho)
    have HP : Hid (putP g hs on n = g0) := Lib.hid (putP_no (by rw [Hc.out]; decide))
    have Ho : Hid (validB g = false) := Lib.hid (by rw [← okB_eq]; exact ho)
    clear ho
    have tk_b3 : True := trivial; have tk_b6 : True := trivial
    go_enter Tryd.func19, Tryd.ntmps19
    go_wp2_with (first | (have _t := tk_b3; refine wpList_box rfl _ _ rfl _ _ rfl hM ?_; intro b3 W' hb3 hM'; clear hM tk_b3; have hM := hM'; clear hM') | (have _t := tk_b6; refine wpList_zero rfl _ rfl (zeroTab _ _ _ rfl) hM ?_; intro b6 W' hb6 hM'; clear hM tk_b6; have hM := hM'; clear hM') | (refine wpList_get rfl _ _ rfl _ _ rfl hM 1 rfl (rowTab _ _ rfl) (by omega) ?_) | (refine wpList_lay rfl _ _ _ rfl _ _ rfl _ _ rfl hM 0 rfl (by assumption) (rowTab _ _ rfl) (by omega) ?_ ?_; (first | (intro _ _; rfl) | (intro k _; exact h1 _) | (intro k _; simp only [lay, upd]; (repeat' split) <;> first | exact h1 _ | rfl)); intro W' hM'; clear hM; have hM := hM'; clear hM'; simp only [List.set] at hM) | (go_at_call 29; refine (checkCells_bad g hg _ _ (HE.out.below hM.below) Ho.out).mono ?_; rintro e W' ⟨rfl, hb'⟩; have hM' := hM.call hb'; clear hM hb'; have hM := hM'; clear hM') | (go_at_call 30; (with_reducible refine (codeOf_0 (HE.out.below hM.below)).mono ?_); rintro e W' ⟨rfl, rfl⟩))
    exact bodyPost_ret (results_at2 rfl _ rfl ((hM.ats 0 _ _ _ rfl).congr (lay_zP _)) (rowTab _ _ rfl) _ rfl) rfl ⟨ret_pas (by rw [HP.out]) Hc.out.symm, hM.below⟩
  · obtain ⟨k0, k1⟩ := okB_most ho
    have Ho : Hid (validB g = true) := Lib.hid (by rw [← okB_eq]; exact ho)
    cases ha : allH g hs n
    · have Hc : Hid (putC g hs n = 2) := Lib.hid (putC_no ho ha)
      have HP := Lib.hid (putP_no (on := on) (show putC g hs n ≠ 0 by rw [Hc.out]; decide))
      obtain ⟨m, hm, hbad, hall⟩ := allH_first ha
      have HS := Lib.hid (fun (W : World) hE hB => setAll_no (a := a) g k0 k1 b n c hs on m hm hall hbad hn W hE hB)
      clear ho ha hm hbad hall
      have tk_b3 : True := trivial; have tk_b6 : True := trivial; have tk_b9 : True := trivial
      go_enter Tryd.func19, Tryd.ntmps19
      go_wp2_with (first | (have _t := tk_b3; refine wpList_box rfl _ _ rfl _ _ rfl hM ?_; intro b3 W' hb3 hM'; clear hM tk_b3; have hM := hM'; clear hM') | (have _t := tk_b6; refine wpList_zero rfl _ rfl (zeroTab _ _ _ rfl) hM ?_; intro b6 W' hb6 hM'; clear hM tk_b6; have hM := hM'; clear hM') | (refine wpList_get rfl _ _ rfl _ _ rfl hM 1 rfl (rowTab _ _ rfl) (by omega) ?_) | (go_at_call 29; refine (checkCells_nil g hg _ Ho.out).mono ?_; rintro e W' ⟨rfl, hb'⟩; have hM' := hM.call hb'; clear hM hb'; have hM := hM'; clear hM') | (go_at_call 31; refine (HS.out _ (HE.out.below hM.below) (hM.ats 2 _ _ _ rfl)).mono ?_; rintro e W' ⟨rfl, hb'⟩; have hM' := hM.call hb'; clear hM hb'; have hM := hM'; clear hM') | (have _t := tk_b9; refine wpList_zero rfl _ rfl (zeroTab _ _ _ rfl) hM ?_; intro b9 W' hb9 hM'; clear hM tk_b9; have hM := hM'; clear hM') | (refine wpList_lay rfl _ _ _ rfl _ _ rfl _ _ rfl hM 0 rfl (by assumption) (rowTab _ _ rfl) (by omega) ?_ ?_; (first | (intro _ _; rfl) | (intro k _; exact h1 _) | (intro k _; simp only [lay, upd]; (repeat' split) <;> first | exact h1 _ | rfl)); intro W' hM'; clear hM; have hM := hM'; clear hM'; simp only [List.set] at hM))
      ((try simp only [Act.put, List.setIfInBounds_toArray, List.set_cons_succ, List.set_cons_zero]); refine region_head_mem (m := 3) (by kernel_rfl) (by kernel_rfl) hM ?_; clear hM; simp only [List.take_succ_cons, List.take_zero, List.drop_succ_cons, List.drop_zero]; (repeat (first | go_big_quiet_skip | (go_big_quiet_want; first | (refine quiet_get _ _ rfl _ _ rfl 0 rfl (rowTab _ _ rfl) (by omega) ?_; (simp only [Act.put, List.setIfInBounds_toArray, List.set_cons_succ, List.set_cons_zero]); go_big_quiet_on) | (refine quiet_call ?_; apply Exists.intro; apply Exists.intro; apply Exists.intro; refine ⟨fun W => ?_, fun W hM => ?_, ?_⟩; (go_simp; exact ⟨rfl, rfl⟩); (exact codeOne_any (HE.out.below hM.below)); (simp only [Act.put, List.setIfInBounds_toArray, List.set_cons_succ, List.set_cons_zero]); go_big_quiet_on) | (refine quiet_val ?_; apply Exists.intro; refine ⟨fun W => ?_, ?_⟩; (go_simp; rfl); (simp only [Act.put, List.setIfInBounds_toArray, List.set_cons_succ, List.set_cons_zero]); go_big_quiet_on)))); (with_reducible refine wpQuiet_nil ?_); intro W' hM)
      go_wp2_with (first | (refine wpList_lay rfl _ _ _ rfl _ _ rfl _ _ rfl hM 1 rfl (by assumption) (rowTab _ _ rfl) (by omega) ?_ ?_; (first | (intro _ _; rfl) | (intro k _; exact h1 _) | (intro k _; simp only [lay, upd]; (repeat' split) <;> first | exact h1 _ | rfl)); intro W' hM'; clear hM; have hM := hM'; clear hM'; simp only [List.set] at hM))
      exact bodyPost_ret (results_at2 rfl _ rfl ((hM.ats 1 _ _ _ rfl).congr (g := pas g0) (fun j hj => by have hz := lay_zP (fun _ => Value.nilIface) j hj; simp [lay, hj] at hz ⊢; exact hz)) (rowTab _ _ rfl) _ rfl) rfl ⟨ret_pas (by rw [HP.out]) Hc.out.symm, hM.below⟩
    · have Hc : Hid (putC g hs n = 0) := Lib.hid (putC_ok ho ha)
      have HP := Lib.hid (putP_ok (on := on) Hc.out)
      have HS := Lib.hid (fun (W : World) hB => setAll_ok g k0 k1 b n c hs on (fun k hk => allH_at ha hk) hn W hB)
      clear ho ha
      obtain ⟨G, hG⟩ : ∃ G, putsH g hs on n = G := ⟨_, rfl⟩
      rw [hG] at HP HS
      clear hG
      have tk_b3 : True := trivial; have tk_b6 : True := trivial; have tk_b9 : True := trivial
      go_enter Tryd.func19, Tryd.ntmps19
      go_wp2_with (first | (have _t := tk_b3; refine wpList_box rfl _ _ rfl _ _ rfl hM ?_; intro b3 W' hb3 hM'; clear hM tk_b3; have hM := hM'; clear hM') | (have _t := tk_b6; refine wpList_zero rfl _ rfl (zeroTab _ _ _ rfl) hM ?_; intro b6 W' hb6 hM'; clear hM tk_b6; have hM := hM'; clear hM') | (refine wpList_get rfl _ _ rfl _ _ rfl hM 1 rfl (rowTab _ _ rfl) (by omega) ?_) | (go_at_call 29; refine (checkCells_nil g hg _ Ho.out).mono ?_; rintro e W' ⟨rfl, hb'⟩; have hM' := hM.call hb'; clear hM hb'; have hM := hM'; clear hM') | (go_at_call 31; refine (HS.out _ (hM.ats 2 _ _ _ rfl)).mono ?_; rintro e W' ⟨rfl, hb'⟩; have hM' := hM.call hb'; clear hM hb'; have hM := hM'; clear hM') | (have _t := tk_b9; refine wpList_zero rfl _ rfl (zeroTab _ _ _ rfl) hM ?_; intro b9 W' hb9 hM'; clear hM tk_b9; have hM := hM'; clear hM') | (refine wpList_lay rfl _ _ _ rfl _ _ rfl _ _ rfl hM 0 rfl (by assumption) (rowTab _ _ rfl) (by omega) ?_ ?_; (first | (intro _ _; rfl) | (intro k _; exact h1 _) | (intro k _; simp only [lay, upd]; (repeat' split) <;> first | exact h1 _ | rfl)); intro W' hM'; clear hM; have hM := hM'; clear hM'; simp only [List.set] at hM))
      ((try simp only [Act.put, List.setIfInBounds_toArray, List.set_cons_succ, List.set_cons_zero]); refine region_head_mem (m := 3) (by kernel_rfl) (by kernel_rfl) hM ?_; clear hM; simp only [List.take_succ_cons, List.take_zero, List.drop_succ_cons, List.drop_zero]; (repeat (first | go_big_quiet_skip | (go_big_quiet_want; first | (refine quiet_get _ _ rfl _ _ rfl 0 rfl (rowTab _ _ rfl) (by omega) ?_; (simp only [Act.put, List.setIfInBounds_toArray, List.set_cons_succ, List.set_cons_zero]); go_big_quiet_on) | (refine quiet_call ?_; apply Exists.intro; apply Exists.intro; apply Exists.intro; refine ⟨fun W => ?_, fun W hM => ?_, ?_⟩; (go_simp; exact ⟨rfl, rfl⟩); (exact codeNil_any (HE.out.below hM.below)); (simp only [Act.put, List.setIfInBounds_toArray, List.set_cons_succ, List.set_cons_zero]); go_big_quiet_on) | (refine quiet_val ?_; apply Exists.intro; refine ⟨fun W => ?_, ?_⟩; (go_simp; rfl); (simp only [Act.put, List.setIfInBounds_toArray, List.set_cons_succ, List.set_cons_zero]); go_big_quiet_on)))); (with_reducible refine wpQuiet_nil ?_); intro W' hM)
      go_wp2_with (first | (refine wpList_lay rfl _ _ _ rfl _ _ rfl _ _ rfl hM 1 rfl (by assumption) (rowTab _ _ rfl) (by omega) ?_ ?_; (first | (intro _ _; rfl) | (intro k _; exact h1 _) | (intro k _; simp only [lay, upd]; (repeat' split) <;> first | exact h1 _ | rfl)); intro W' hM'; clear hM; have hM := hM'; clear hM'; simp only [List.set] at hM))
      exact bodyPost_ret (results_at2 rfl _ rfl ((hM.ats 1 _ _ _ rfl).congr (g := pas G) (fun j hj => by simp [lay, hj])) (rowTab _ _ rfl) _ rfl) rfl ⟨ret_pas (by rw [HP.out]) Hc.out.symm, hM.below⟩

set_option maxRecDepth 100000 in
theorem implAddHurdles_any {a : Nat → Addr} (g : Nat → Int) (hg : Fits g) (b n c : Nat) (hs : Nat → Nat → Int) (hn : n ≤ 1048576) (w : World) (hE : Errs a w) (hB : At w b (n * 3) (sHurdle hs)) :
    Calls Tryd.prog 9 #[.agg (arr 122 (pas g)), .slice (some ⟨b, 0, none⟩) n c] w fun e w' => e = .returned (pasR (putP g hs true n) (putC g hs n)) ∧ Below w.heap.size w w' := by
  have hM : Mem w [(b, n * 3, sHurdle hs)] w := (Mem.nil w).old hB (fun i p h => by simp at h)
  have HE := Lib.hid hE
  clear hB hE
  obtain ⟨G, hG⟩ : ∃ G, putP g hs true n = G := ⟨_, rfl⟩
  obtain ⟨d, hd⟩ : ∃ d, putC g hs n = d := ⟨_, rfl⟩
  have HS := Lib.hid (fun (W : World) hE hB => putAll_any (a := a) g hg b n c hs true hn W hE hB)
  rw [hG, hd] at HS
  rw [hG, hd]
  clear hG hd
  have tk_b2 : True := trivial; have tk_b4 : True := trivial
  go_enter Tryd.func9, Tryd.ntmps9
  go_wp2_with (first | (have _t := tk_b2; refine wpList_box rfl _ _ rfl _ _ rfl hM ?_; intro b2 W' hb2 hM'; clear hM tk_b2; have hM := hM'; clear hM') | (have _t := tk_b4; refine wpList_zero rfl _ rfl (zeroTab _ _ _ rfl) hM ?_; intro b4 W' hb4 hM'; clear hM tk_b4; have hM := hM'; clear hM') | (refine wpList_get rfl _ _ rfl _ _ rfl hM 1 rfl (rowTab _ _ rfl) (by omega) ?_) | (refine wpList_lay rfl _ _ _ rfl _ _ rfl _ _ rfl hM 0 rfl (by assumption) (rowTab _ _ rfl) (by omega) ?_ ?_; (first | (intro _ _; rfl) | (intro k _; exact h1 _) | (intro k _; simp only [lay, upd]; (repeat' split) <;> first | exact h1 _ | rfl)); intro W' hM'; clear hM; have hM := hM'; clear hM'; simp only [List.set] at hM) | (go_at_call 19; refine (HS.out _ (HE.out.below hM.below) (hM.ats 2 _ _ _ rfl)).mono ?_; rintro e W' ⟨rfl, hb'⟩; rw [pasR_eq]; have hM' := hM.call hb'; clear hM hb'; have hM := hM'; clear hM'))
  exact bodyPost_ret (results_at2 rfl _ rfl ((hM.ats 0 _ _ _ rfl).congr (g := pas G) (fun j hj => by simp [lay, hj])) (rowTab _ _ rfl) _ rfl) rfl ⟨ret_pas rfl rfl, hM.below⟩

set_option maxRecDepth 100000 in
theorem implTakeHurdles_any {a : Nat → Addr} (g : Nat → Int) (hg : Fits g) (b n c : Nat) (hs : Nat → Nat → Int) (hn : n ≤ 1048576) (w : World) (hE : Errs a w) (hB : At w b (n * 3) (sHurdle hs)) :
    Calls Tryd.prog 13 #[.agg (arr 122 (pas g)), .slice (some ⟨b, 0, none⟩) n c] w fun e w' => e = .returned (pasR (putP g hs false n) (putC g hs n)) ∧ Below w.heap.size w w' := by
  have hM : Mem w [(b, n * 3, sHurdle hs)] w := (Mem.nil w).old hB (fun i p h => by simp at h)
  have HE := Lib.hid hE
  clear hB hE
  obtain ⟨G, hG⟩ : ∃ G, putP g hs false n = G := ⟨_, rfl⟩
  obtain ⟨d, hd⟩ : ∃ d, putC g hs n = d := ⟨_, rfl⟩
  have HS := Lib.hid (fun (W : World) hE hB => putAll_any (a := a) g hg b n c hs false hn W hE hB)
  rw [hG, hd] at HS
  rw [hG, hd]
  clear hG hd
  have tk_b2 : True := trivial; have tk_b4 : True := trivial
  go_enter Tryd.func13, Tryd.ntmps13
  go_wp2_with (first | (have _t := tk_b2; refine wpList_box rfl _ _ rfl _ _ rfl hM ?_; intro b2 W' hb2 hM'; clear hM tk_b2; have hM := hM'; clear hM') | (have _t := tk_b4; refine wpList_zero rfl _ rfl (zeroTab _ _ _ rfl) hM ?_; intro b4 W' hb4 hM'; clear hM tk_b4; have hM := hM'; clear hM') | (refine wpList_get rfl _ _ rfl _ _ rfl hM 1 rfl (rowTab _ _ rfl) (by omega) ?_) | (refine wpList_lay rfl _ _ _ rfl _ _ rfl _ _ rfl hM 0 rfl (by assumption) (rowTab _ _ rfl) (by omega) ?_ ?_; (first | (intro _ _; rfl) | (intro k _; exact h1 _) | (intro k _; simp only [lay, upd]; (repeat' split) <;> first | exact h1 _ | rfl)); intro W' hM'; clear hM; have hM := hM'; clear hM'; simp only [List.set] at hM) | (go_at_call 19; refine (HS.out _ (HE.out.below hM.below) (hM.ats 2 _ _ _ rfl)).mono ?_; rintro e W' ⟨rfl, hb'⟩; rw [pasR_eq]; have hM' := hM.call hb'; clear hM hb'; have hM := hM'; clear hM'))
  exact bodyPost_ret (results_at2 rfl _ rfl ((hM.ats 0 _ _ _ rfl).congr (g := pas G) (fun j hj => by simp [lay, hj])) (rowTab _ _ rfl) _ rfl) rfl ⟨ret_pas rfl rfl, hM.below⟩
end Go.Proofs.YtofgkmoilncfpaaDoor

/-
  laws.eqSpot on what is equal.
-/
namespace Go.Proofs.YtofgkmoilncfpaaDoor
open Go Go.RowKit Go.BigFrame

set_option maxHeartbeats 400000 in
theorem eqSpot_same (x y : Int) (w : World) :
    Calls Tryd.prog 33 #[.agg (arr 2 (sp x y)), .agg (arr 2 (sp x y))] w fun e w' => e = .returned (.bool true) ∧ Below w.heap.size w w' := by
  have hM := Mem.nil w
  have e0 : sp x y 0 = .int .i8 x := rfl
  have e1 : sp x y 1 = .int .i8 y := rfl
  have tk_b1 : True := trivial; have tk_b2 : True := trivial
  go_enter Tryd.func33, Tryd.ntmps33
  go_wp2_with (first | (have _t := tk_b1; refine wpList_box rfl _ _ rfl _ _ rfl hM ?_; intro b1 W' hb1 hM'; clear hM tk_b1; have hM := hM'; clear hM') | (have _t := tk_b2; refine wpList_box rfl _ _ rfl _ _ rfl hM ?_; intro b2 W' hb2 hM'; clear hM tk_b2; have hM := hM'; clear hM') | (refine wpList_get1 rfl _ _ rfl _ _ rfl hM 1 rfl (cellTab _ rfl) (by omega) _ rfl ?_) | (refine wpList_get1 rfl _ _ rfl _ _ rfl hM 0 rfl (cellTab _ rfl) (by omega) _ rfl ?_))
  go_ret
  exact ⟨rfl, hM.below⟩

end Go.Proofs.YtofgkmoilncfpaaDoor

/-
  laws.eqHurdle, eqHurdleS on what is equal.
-/
namespace Go.Proofs.YtofgkmoilncfpaaDoor
open Go Go.RowKit Go.BigFrame

theorem eqHurdleSpot0 (h : Nat → Int) (w : World) :
    Calls Tryd.prog 33 #[.agg (arr 2 (fun k => vHurdle h (0 + k))), .agg (arr 2 (fun k => vHurdle h (0 + k)))] w fun e w' => e = .returned (.bool true) ∧ Below w.heap.size w w' := by
  rw [spHurdle0]
  exact eqSpot_same _ _ w

set_option maxRecDepth 100000 in
set_option maxHeartbeats 400000 in
theorem eqHurdle_same (h : Nat → Int) (w : World) :
    Calls Tryd.prog 22 #[.agg (arr 3 (vHurdle h)), .agg (arr 3 (vHurdle h))] w fun e w' => e = .returned (.bool true) ∧ Below w.heap.size w w' := by
  have hM := Mem.nil w
  have e2 : vHurdle h 2 = .bool (h 2 == 1) := rfl
  have tk_b1 : True := trivial; have tk_b2 : True := trivial
  go_enter Tryd.func22, Tryd.ntmps22
  go_wp2_with (first | (have _t := tk_b1; refine wpList_box rfl _ _ rfl _ _ rfl hM ?_; intro b1 W' hb1 hM'; clear hM tk_b1; have hM := hM'; clear hM') | (have _t := tk_b2; refine wpList_box rfl _ _ rfl _ _ rfl hM ?_; intro b2 W' hb2 hM'; clear hM tk_b2; have hM := hM'; clear hM') | (refine wpList_get1 rfl _ _ rfl _ _ rfl hM 1 rfl (cellTab _ rfl) (by omega) _ rfl ?_) | (refine wpList_get1 rfl _ _ rfl _ _ rfl hM 0 rfl (cellTab _ rfl) (by omega) _ rfl ?_) | (refine wpList_get rfl _ _ rfl _ _ rfl hM 1 rfl (rowTab _ _ rfl) (by omega) ?_) | (refine wpList_get rfl _ _ rfl _ _ rfl hM 0 rfl (rowTab _ _ rfl) (by omega) ?_) | (first | (go_at_call 33; refine (eqHurdleSpot0 h _).mono ?_; rintro e W' ⟨rfl, hb'⟩; have hM' := hM.call hb'; clear hM hb'; have hM := hM'; clear hM')))
  go_ret
  exact ⟨rfl, hM.below⟩

set_option maxRecDepth 100000 in
set_option maxHeartbeats 1000000 in
/-- eqHurdleS of two lists that hold the same. -/
theorem eqHurdleS_same (b b' n c c' : Nat) (hs : Nat → Nat → Int) (hn : n ≤ maxLen) (w : World) (hA : At w b (n * 3) (sHurdle hs)) (hA' : At w b' (n * 3) (sHurdle hs)) (hne : b ≠ b') :
    Calls Tryd.prog 11 #[.slice (some ⟨b, 0, none⟩) n c, .slice (some ⟨b', 0, none⟩) n c'] w fun e w' => e = .returned (.bool true) ∧ Below w.heap.size w w' := by
  have hM : Mem w [(b, n * 3, sHurdle hs), (b', n * 3, sHurdle hs)] w := ((Mem.nil w).old hA (fun i p h => by simp at h)).old hA' (fun i p h => by
    match i, h with
    | 0, h => simp at h; rw [← h]; exact hne
    | _ + 1, h => simp at h)
  unfold maxLen at hn
  clear hA hA'
  go_enter Tryd.func11, Tryd.ntmps11
  go_wp2
  go_loopw [5] (fun i wr => ∃ k : Nat, k ≤ n ∧ i = .int .i64 k ∧ Mem w [(b, n * 3, sHurdle hs), (b', n * 3, sHurdle hs)] wr) (fun i _ => n - (intOf i).toNat)
  case atStart => exact ⟨0, by omega, rfl, hM⟩
  case round =>
    clear hM
    obtain ⟨k, hk, rfl, hM⟩ := hrel
    by_cases hlt : k < n
    · have l2 : (k : Int) < n := by omega
      have er : arr 3 (fun j => sHurdle hs (k * 3 + j)) = arr 3 (vHurdle (hs k)) := arr_congr fun j hj => sHurdle_row hs k j hj
      go_wp2
      ((try simp only [Act.put, List.setIfInBounds_toArray, List.set_cons_succ, List.set_cons_zero]); refine wp_region_mem (by kernel_rfl) (by kernel_rfl) hM ?_; clear hM; (repeat (first | go_big_quiet_skip | (go_big_quiet_want; first | (refine quiet_get _ _ rfl _ _ rfl 1 rfl rowHurdle (by omega) ?_; (simp only [er]); (simp only [Act.put, List.setIfInBounds_toArray, List.set_cons_succ, List.set_cons_zero]); go_big_quiet_on) | (refine quiet_get _ _ rfl _ _ rfl 0 rfl rowHurdle (by omega) ?_; (simp only [er]); (simp only [Act.put, List.setIfInBounds_toArray, List.set_cons_succ, List.set_cons_zero]); go_big_quiet_on) | (refine quiet_call ?_; apply Exists.intro; apply Exists.intro; apply Exists.intro; refine ⟨fun W => ?_, fun W hM => ?_, ?_⟩; (go_simp; exact ⟨rfl, rfl⟩); (exact eqHurdle_same (hs k) W); (simp only [Act.put, List.setIfInBounds_toArray, List.set_cons_succ, List.set_cons_zero]); go_big_quiet_on) | (refine quiet_val ?_; apply Exists.intro; refine ⟨fun W => ?_, ?_⟩; (go_simp; (try simp only [l2, if_true, Bool.false_eq_true, if_false]); rfl); (simp only [Act.put, List.setIfInBounds_toArray, List.set_cons_succ, List.set_cons_zero]); go_big_quiet_on)))); (with_reducible refine wpQuiet_nil ?_); intro W' hM)
      go_wp2
      go_roundw
      case rel => exact ⟨k + 1, by omega, by go_num, hM⟩
      case measure => simp [intOf]; omega
    · obtain rfl : k = n := by omega
      go_wp2
      go_ret
      exact ⟨rfl, hM.below⟩
end Go.Proofs.YtofgkmoilncfpaaDoor

/-
  A number and a code, as results.
-/
namespace Go.Proofs.YtofgkmoilncfpaaDoor
open Go Go.RowKit

/-- A number and a code. -/
def numR (n c : Int) : Value := .tuple #[.int .i64 n, .int .i64 c]
theorem numR_eq (n c : Int) : numR n c = .tuple #[.int .i64 n, .int .i64 c] := rfl
theorem ret_num {n n' c c' : Int} (h : n = n') (h' : c = c') : Ending.returned (.tuple #[.int .i64 n, .int .i64 c]) = .returned (numR n' c') := by rw [h, h', numR_eq]
end Go.Proofs.YtofgkmoilncfpaaDoor

/-
  spec.GrassAt and impl.GrassAt by contracts: the same answer; laws.FnExactGrassAt returns true.
-/
namespace Go.Proofs.YtofgkmoilncfpaaDoor
open Go Go.RowKit Go.BigFrame

/-- What GrassAt answers. -/
def grassN (g : Nat → Int) (x y : Int) : Int := if askC g x y true = 0 then g (gPlace x y) else 0
theorem grassN_ok {g : Nat → Int} {x y : Int} (h : askC g x y true = 0) : grassN g x y = g (gPlace x y) := by simp [grassN, h]
theorem grassN_no {g : Nat → Int} {x y : Int} (h : askC g x y true ≠ 0) : grassN g x y = 0 := by simp [grassN, h]

end Go.Proofs.YtofgkmoilncfpaaDoor

/-
  impl.checkGrass by contracts.
-/
namespace Go.Proofs.YtofgkmoilncfpaaDoor
open Go Go.RowKit Go.BigFrame

end Go.Proofs.YtofgkmoilncfpaaDoor

/-
  spec.WithGrass and impl.WithGrass by contracts; laws.FnExactWithGrass returns true.
-/
namespace Go.Proofs.YtofgkmoilncfpaaDoor
open Go Go.RowKit Go.BigFrame

/-- What WithGrass leaves. -/
def withG (g : Nat → Int) (x y n : Int) : Nat → Int := if askC g x y (inB 0 1000 n) = 0 then setG g (gPlace x y) n else g0
theorem withG_ok {g : Nat → Int} {x y n : Int} (h : askC g x y (inB 0 1000 n) = 0) : withG g x y n = setG g (gPlace x y) n := by simp [withG, h]
theorem withG_no {g : Nat → Int} {x y n : Int} (h : askC g x y (inB 0 1000 n) ≠ 0) : withG g x y n = g0 := by simp [withG, h]

end Go.Proofs.YtofgkmoilncfpaaDoor

/-
  Both AddHurdless answer the same; laws.FnExactAddHurdles returns true.
-/
namespace Go.Proofs.YtofgkmoilncfpaaDoor
open Go Go.RowKit Go.BigFrame

set_option maxRecDepth 100000 in
set_option maxHeartbeats 4000000 in
theorem lawAddHurdles_any {a : Nat → Addr} (g : Nat → Int) (hg : Fits g) (v : Value) (n : Nat) (hs : Nat → Nat → Int) (hn : n ≤ maxLen) (hF : ∀ i, i < n → FitsHurdle (hs i)) (w : World) (hE : Errs a w) (hG : HurdleArg w v n hs) :
    Calls Tryd.prog 3 #[.agg (arr 122 (pas g)), v] w fun e w' => e = .returned (.bool true) ∧ Below w.heap.size w w' := by
  have hM := Mem.nil w
  have HG := Lib.hid hG
  have HE := Lib.hid hE
  have HF := Lib.hid hF
  have Hn := Lib.hid hn
  clear hG hE hF
  by_cases h20 : 1048576 < n
  · have Hn2 := Lib.hid hn
    clear hn
    have tk_b2 : True := trivial
    go_enter Tryd.func3, Tryd.ntmps3
    go_wp2_with (first | (have _t := tk_b2; refine wpList_box rfl _ _ rfl _ _ rfl hM ?_; intro b2 W' hb2 hM'; clear hM tk_b2; have hM := hM'; clear hM') | (go_at_call 5; (with_reducible refine (szHurdleS_no v n hs 1048576 Hn2.out (by omega) (by omega) (by omega) _ (HG.out.below hM.below)).mono ?_); rintro e W' ⟨rfl, hb'⟩; have hM' := hM.call hb'; clear hM hb'; have hM := hM'; clear hM'))
    go_ret
    exact ⟨rfl, hM.below⟩
  clear hn
  have dn : decide ((1048576 : Int) - n < 0) = false := decide_eq_false (by omega)
  have hn1 : n ≤ 1048576 := by omega
  have HS := Lib.hid (fun (b : Nat) (W : World) (hB : At W b (n * 3) (sHurdle hs)) => specAddHurdles_any g hg b n n hs HF.out hn1 W hB)
  have HI := Lib.hid (fun (b : Nat) (W : World) (hE : Errs a W) (hB : At W b (n * 3) (sHurdle hs)) => implAddHurdles_any g hg b n n hs hn1 W hE hB)
  generalize putP g hs true n = G at HS HI
  generalize putC g hs n = d at HS HI
  have tk_b2 : True := trivial; have tk_b6 : True := trivial; have tk_b9 : True := trivial; have tk_c1 : True := trivial; have tk_c2 : True := trivial; have tk_c3 : True := trivial
  go_enter Tryd.func3, Tryd.ntmps3
  go_wp2_with (first | (have _t := tk_b2; refine wpList_box rfl _ _ rfl _ _ rfl hM ?_; intro b2 W' hb2 hM'; clear hM tk_b2; have hM := hM'; clear hM') | (go_at_call 5; (with_reducible refine (szHurdleS_yes v n hs 1048576 (by omega) (by omega) _ (HG.out.below hM.below)).mono ?_); rintro e W' ⟨rfl, hb'⟩; have hM' := hM.call hb'; clear hM hb'; have hM := hM'; clear hM') | (refine wpList_get rfl _ _ rfl _ _ rfl hM 1 rfl (rowTab _ _ rfl) (by omega) ?_) | (refine wpList_get rfl _ _ rfl _ _ rfl hM 0 rfl (rowTab _ _ rfl) (by omega) ?_) | (go_at_call 7; refine (toPasture_any _ (fun _ => rfl) _).mono ?_; rintro e W' ⟨rfl, hb'⟩; have hM' := hM.call hb'; clear hM hb'; have hM := hM'; clear hM') | (have _t := tk_c1; go_at_call 8; (with_reducible refine (toHurdleS_any v n hs hn1 _ (HG.out.below hM.below)).mono ?_); rintro e W' ⟨c1, rfl, hc1, hA', hcb⟩; have hM' := hM.fresh' hcb hA' hc1; simp only [List.cons_append, List.nil_append] at hM'; clear hM hcb hA' tk_c1; have hM := hM'; clear hM') | (have _t := tk_c2; go_at_call 8; (with_reducible refine (toHurdleS_any v n hs hn1 _ (HG.out.below hM.below)).mono ?_); rintro e W' ⟨c2, rfl, hc2, hA', hcb⟩; have hM' := hM.fresh' hcb hA' hc2; simp only [List.cons_append, List.nil_append] at hM'; clear hM hcb hA' tk_c2; have hM := hM'; clear hM') | (have _t := tk_c3; go_at_call 8; (with_reducible refine (toHurdleS_any v n hs hn1 _ (HG.out.below hM.below)).mono ?_); rintro e W' ⟨c3, rfl, hc3, hA', hcb⟩; have hM' := hM.fresh' hcb hA' hc3; simp only [List.cons_append, List.nil_append] at hM'; clear hM hcb hA' tk_c3; have hM := hM'; clear hM') | (go_at_call 6; refine (HS.out _ _ (hM.ats 1 _ _ _ rfl)).mono ?_; rintro e W' ⟨rfl, hb'⟩; rw [pasR_eq]; have hM' := hM.call hb'; clear hM hb'; have hM := hM'; clear hM') | (go_at_call 9; refine (HI.out _ _ (HE.out.below hM.below) (hM.ats 3 _ _ _ rfl)).mono ?_; rintro e W' ⟨rfl, hb'⟩; rw [pasR_eq]; have hM' := hM.call hb'; clear hM hb'; have hM := hM'; clear hM') | (have _t := tk_b6; refine wpList_zero rfl _ rfl (zeroTab _ _ _ rfl) hM ?_; intro b6 W' hb6 hM'; clear hM tk_b6; have hM := hM'; clear hM') | (have _t := tk_b9; refine wpList_zero rfl _ rfl (zeroTab _ _ _ rfl) hM ?_; intro b9 W' hb9 hM'; clear hM tk_b9; have hM := hM'; clear hM') | (refine wpList_lay rfl _ _ _ rfl _ _ rfl _ _ rfl hM 0 rfl (by assumption) (rowTab _ _ rfl) (by omega) ?_ ?_; (first | (intro _ _; rfl) | (intro k _; exact h1 _) | (intro k _; simp only [lay, upd]; (repeat' split) <;> first | exact h1 _ | rfl)); intro W' hM'; clear hM; have hM := hM'; clear hM'; simp only [List.set] at hM) | (go_at_call 10; refine (eqP_lay _ _ _ _).mono ?_; rintro e W' ⟨rfl, hb'⟩; have hM' := hM.call hb'; clear hM hb'; have hM := hM'; clear hM') | (go_at_call 11; (with_reducible refine (eqHurdleS_same _ _ n n n hs Hn.out _ (hM.ats 4 _ _ _ rfl) (hM.ats 5 _ _ _ rfl) (hM.apart 4 5 _ _ rfl rfl (by omega))).mono ?_); rintro e W' ⟨rfl, hb'⟩; have hM' := hM.call hb'; clear hM hb'; have hM := hM'; clear hM'))
  go_ret
  exact ⟨rfl, hM.below⟩
end Go.Proofs.YtofgkmoilncfpaaDoor

