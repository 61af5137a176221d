/-
  spec.ValidGoats and impl.ValidGoats by contracts.
-/
import Derived.Test.YtdlfhomnlhdacaaDoorGoatOk
import Derived.Test.YtdlfhomnlhdacaaDoorConv
namespace Go.Proofs.YtdlfhomnlhdacaaDoor
open Go Go.RowKit Go.BigFrame

theorem pas_0 (g : Nat → Int) : arr 122 (fun k => pas g (0 + k)) = arr 122 (pas g) := arr_congr fun k _ => by rw [Nat.zero_add]
theorem lay_goat (z : Nat → Value) (hs : Nat → Nat → Int) (k : Nat) : ∀ j, j < 7 → lay z 0 7 (fun i => gts hs (k * 7 + i)) j = gt (hs k) j := fun j hj => by
  simp only [lay, Nat.zero_add, Nat.sub_zero]
  rw [if_pos ⟨by omega, hj⟩]
  exact gts_row hs k j hj
theorem isToldFor_of (g h : Nat → Int) (hF : FitsG h) (f : Nat → Value) (hf : ∀ j, j < 7 → f j = gt h j) (w : World) :
    Calls Tryd.prog 110 #[.agg (arr 7 f), .agg (arr 122 (pas g))] w fun e w' => e = .returned (.bool (toldB g h)) ∧ Below w.heap.size w w' := by
  rw [arr_congr hf]; exact isToldFor_any g h hF w
theorem reaches_of (h : Nat → Int) (hF : FitsG h) (f : Nat → Value) (hf : ∀ j, j < 7 → f j = gt h j) (w : World) :
    Calls Tryd.prog 111 #[.agg (arr 7 f), .agg (arr 2 f)] w fun e w' => e = .returned (.bool (reachB h (h 0) (h 1))) ∧ Below w.heap.size w w' := by
  rw [arr_congr hf, show arr 2 f = arr 2 (sp (h 0) (h 1)) from (arr_congr fun j hj => by
    rw [hf j (by omega)]
    rcases (show j = 0 ∨ j = 1 by omega) with rfl | rfl <;> rfl)]
  exact reaches_any h hF (h 0) (h 1) (hF.lo 0 (by omega)) (hF.lo 1 (by omega)) w

set_option maxRecDepth 100000 in
set_option maxHeartbeats 2000000 in
theorem implValidGoats_any (g : Nat → Int) (hg : Fits g) (b n c : Nat) (hs : Nat → Nat → Int) (hF : ∀ i, i < n → FitsG (hs i)) (hn : n ≤ 1048576) (w : World) (hB : At w b (n * 7) (gts hs)) :
    Calls Tryd.prog 100 #[.agg (arr 122 (pas g)), .slice (some ⟨b, 0, none⟩) n c] w fun e w' => e = .returned (.bool (goatsB g n hs)) ∧ Below w.heap.size w w' := by
  have hM : Mem w [(b, n * 7, gts hs)] w := (Mem.nil w).old hB (fun i p h => by simp at h)
  have hv : ∀ W, Calls Tryd.prog 91 #[.agg (arr 122 (pas g))] W fun e w' => e = .returned (.bool (okB g)) ∧ Below W.heap.size W w' := fun W => by
    rw [okB_eq]; exact implValid_any g hg W
  have Hv := Lib.hid hv
  have HF := Lib.hid hF
  clear hv hF hB
  have tk_b1 : True := trivial; have tk_q1 : True := trivial
  cases ho : okB g
  · have Hp := Lib.hid (goatsB_ok (n := n) (hs := hs) ho)
    have Ho := Lib.hid ho
    clear ho
    go_enter Tryd.func100, Tryd.ntmps100
    go_wp2_with (first | (go_at_call 91; (with_reducible refine (Hv.out _).mono ?_); rintro e W' ⟨rfl, hb'⟩; rw [Ho.out]; have hM' := hM.call hb'; clear hM hb'; have hM := hM'; clear hM') | (have _t := tk_b1; refine wpList_box rfl _ _ rfl _ _ rfl hM ?_; intro b1 W' hb1 hM'; clear hM tk_b1; have hM := hM'; clear hM') | (have _t := tk_q1; (refine wpList_get rfl _ _ rfl _ _ rfl hM 0 rfl (rowTab _ _ rfl) (by omega) ?_); clear tk_q1))
    go_ret
    exact ⟨ret_bool Hp.out.symm, hM.below⟩
  have Ho := Lib.hid ho
  clear ho
  by_cases h20 : 20 < n
  · have Hp := Lib.hid (goatsB_many (g := g) (hs := hs) h20)
    have hz : 20 < (n : Int) := by omega
    go_enter Tryd.func100, Tryd.ntmps100
    go_wp2_with (first | (go_at_call 91; (with_reducible refine (Hv.out _).mono ?_); rintro e W' ⟨rfl, hb'⟩; rw [Ho.out]; have hM' := hM.call hb'; clear hM hb'; have hM := hM'; clear hM') | (have _t := tk_b1; refine wpList_box rfl _ _ rfl _ _ rfl hM ?_; intro b1 W' hb1 hM'; clear hM tk_b1; have hM := hM'; clear hM') | (have _t := tk_q1; (refine wpList_get rfl _ _ rfl _ _ rfl hM 0 rfl (rowTab _ _ rfl) (by omega) ?_); clear tk_q1))
    go_ret
    exact ⟨ret_bool Hp.out.symm, hM.below⟩
  have hz : ¬ 20 < (n : Int) := by omega
  go_enter Tryd.func100, Tryd.ntmps100
  go_wp2_with (first | (go_at_call 91; (with_reducible refine (Hv.out _).mono ?_); rintro e W' ⟨rfl, hb'⟩; rw [Ho.out]; have hM' := hM.call hb'; clear hM hb'; have hM := hM'; clear hM') | (have _t := tk_b1; refine wpList_box rfl _ _ rfl _ _ rfl hM ?_; intro b1 W' hb1 hM'; clear hM tk_b1; have hM := hM'; clear hM') | (have _t := tk_q1; (refine wpList_get rfl _ _ rfl _ _ rfl hM 0 rfl (rowTab _ _ rfl) (by omega) ?_); clear tk_q1))
  go_loopw [17] (fun i wr => ∃ k : Nat, k ≤ n ∧ i = .int .i64 k ∧ Hid (∀ j, j < k → goatB g (hs j) = true) ∧ Mem w [(b1, 122, pas g), (b, n * 7, gts hs)] wr) (fun i _ => n - (intOf i).toNat)
  case atStart => exact ⟨0, by omega, rfl, Lib.hid (fun j hj => absurd hj (by omega)), hM⟩
  case round =>
    clear hM
    obtain ⟨k, hk, rfl, hall, hM⟩ := hrel
    by_cases hlt : k < n
    · have l2 : (k : Int) < n := by omega
      have fk := Lib.hid (HF.out k hlt)
      have tk_b3 : True := trivial; have tk_r1 : True := trivial; have tk_r2 : True := trivial; have tk_r3 : True := trivial; have tk_r4 : True := trivial; have tk_r5 : True := trivial
      cases ht : toldB g (hs k)
      · have Hb : Hid (goatB g (hs k) = false) := Lib.hid (by rw [goatB_eq, ht]; rfl)
        have Ht := Lib.hid ht
        clear ht
        go_wp2_with (first | (go_at_call 110; (with_reducible refine (isToldFor_of g (hs k) fk.out _ (lay_goat _ hs k) _).mono ?_); rintro e W' ⟨rfl, hb'⟩; rw [Ht.out]; have hM' := hM.call hb'; clear hM hb'; have hM := hM'; clear hM') | (have _t := tk_r1; (refine wpList_get rfl _ _ rfl _ _ rfl hM 1 rfl (rowTab _ _ rfl) (by omega) ?_); clear tk_r1) | (have _t := tk_b3; refine wpList_zero rfl _ rfl (zeroTab _ _ _ rfl) hM ?_; intro b3 W' hb3 hM'; clear hM tk_b3; have hM := hM'; clear hM') | (have _t := tk_r2; (refine wpList_lay rfl _ _ _ rfl _ _ rfl _ _ rfl hM 0 rfl (by assumption) (rowTab _ _ rfl) (by omega) ?_ ?_; (first | (intro _ _; rfl) | (intro k _; exact h1 _) | (intro k _; simp only [lay, upd]; (repeat' split) <;> first | exact h1 _ | rfl)); intro W' hM'; clear hM; have hM := hM'; clear hM'; simp only [List.set] at hM); clear tk_r2) | (have _t := tk_r3; (refine wpList_get rfl _ _ rfl _ _ rfl hM 0 rfl (rowTab _ _ rfl) (by omega) ?_); clear tk_r3) | (have _t := tk_r4; (refine wpList_get rfl _ _ rfl _ _ rfl hM 1 rfl (rowTab _ _ rfl) (by omega) ?_); clear tk_r4))
        go_ret
        exact ⟨ret_bool (goatsB_no hlt Hb.out).symm, hM.below⟩
      · have Ht := Lib.hid ht
        cases hr : reachB (hs k) (hs k 0) (hs k 1)
        · have Hb : Hid (goatB g (hs k) = false) := Lib.hid (by rw [goatB_eq, hr]; simp)
          have Hr := Lib.hid hr
          clear ht hr
          have tk_r6 : True := trivial; have tk_r7 : True := trivial
          go_wp2_with (first | (go_at_call 110; (with_reducible refine (isToldFor_of g (hs k) fk.out _ (lay_goat _ hs k) _).mono ?_); rintro e W' ⟨rfl, hb'⟩; rw [Ht.out]; have hM' := hM.call hb'; clear hM hb'; have hM := hM'; clear hM') | (go_at_call 111; (with_reducible refine (reaches_of (hs k) fk.out _ (lay_goat _ hs k) _).mono ?_); rintro e W' ⟨rfl, hb'⟩; rw [Hr.out]; have hM' := hM.call hb'; clear hM hb'; have hM := hM'; clear hM') | (have _t := tk_r1; (refine wpList_get rfl _ _ rfl _ _ rfl hM 1 rfl (rowTab _ _ rfl) (by omega) ?_); clear tk_r1) | (have _t := tk_b3; refine wpList_zero rfl _ rfl (zeroTab _ _ _ rfl) hM ?_; intro b3 W' hb3 hM'; clear hM tk_b3; have hM := hM'; clear hM') | (have _t := tk_r2; (refine wpList_lay rfl _ _ _ rfl _ _ rfl _ _ rfl hM 0 rfl (by assumption) (rowTab _ _ rfl) (by omega) ?_ ?_; (first | (intro _ _; rfl) | (intro k _; exact h1 _) | (intro k _; simp only [lay, upd]; (repeat' split) <;> first | exact h1 _ | rfl)); intro W' hM'; clear hM; have hM := hM'; clear hM'; simp only [List.set] at hM); clear tk_r2) | (have _t := tk_r3; (refine wpList_get rfl _ _ rfl _ _ rfl hM 0 rfl (rowTab _ _ rfl) (by omega) ?_); clear tk_r3) | (have _t := tk_r4; (refine wpList_get rfl _ _ rfl _ _ rfl hM 1 rfl (rowTab _ _ rfl) (by omega) ?_); clear tk_r4) | (have _t := tk_r5; (refine wpList_gget ?_ _ _ rfl _ _ rfl hM 0 rfl (rowTab _ _ rfl) (by omega) ?_; kernel_rfl); clear tk_r5) | (have _t := tk_r6; (refine wpList_gget ?_ _ _ rfl _ _ rfl hM 0 rfl (rowTab _ _ rfl) (by omega) ?_; kernel_rfl); clear tk_r6))
          go_ret
          exact ⟨ret_bool (goatsB_no hlt Hb.out).symm, hM.below⟩
        · have Hb : Hid (goatB g (hs k) = true) := Lib.hid (by rw [goatB_eq, hr, ht]; rfl)
          have Hr := Lib.hid hr
          clear ht hr
          have tk_r6 : True := trivial; have tk_r7 : True := trivial
          go_wp2_with (first | (go_at_call 110; (with_reducible refine (isToldFor_of g (hs k) fk.out _ (lay_goat _ hs k) _).mono ?_); rintro e W' ⟨rfl, hb'⟩; rw [Ht.out]; have hM' := hM.call hb'; clear hM hb'; have hM := hM'; clear hM') | (go_at_call 111; (with_reducible refine (reaches_of (hs k) fk.out _ (lay_goat _ hs k) _).mono ?_); rintro e W' ⟨rfl, hb'⟩; rw [Hr.out]; have hM' := hM.call hb'; clear hM hb'; have hM := hM'; clear hM') | (have _t := tk_r1; (refine wpList_get rfl _ _ rfl _ _ rfl hM 1 rfl (rowTab _ _ rfl) (by omega) ?_); clear tk_r1) | (have _t := tk_b3; refine wpList_zero rfl _ rfl (zeroTab _ _ _ rfl) hM ?_; intro b3 W' hb3 hM'; clear hM tk_b3; have hM := hM'; clear hM') | (have _t := tk_r2; (refine wpList_lay rfl _ _ _ rfl _ _ rfl _ _ rfl hM 0 rfl (by assumption) (rowTab _ _ rfl) (by omega) ?_ ?_; (first | (intro _ _; rfl) | (intro k _; exact h1 _) | (intro k _; simp only [lay, upd]; (repeat' split) <;> first | exact h1 _ | rfl)); intro W' hM'; clear hM; have hM := hM'; clear hM'; simp only [List.set] at hM); clear tk_r2) | (have _t := tk_r3; (refine wpList_get rfl _ _ rfl _ _ rfl hM 0 rfl (rowTab _ _ rfl) (by omega) ?_); clear tk_r3) | (have _t := tk_r4; (refine wpList_get rfl _ _ rfl _ _ rfl hM 1 rfl (rowTab _ _ rfl) (by omega) ?_); clear tk_r4) | (have _t := tk_r5; (refine wpList_gget ?_ _ _ rfl _ _ rfl hM 0 rfl (rowTab _ _ rfl) (by omega) ?_; kernel_rfl); clear tk_r5) | (have _t := tk_r6; (refine wpList_gget ?_ _ _ rfl _ _ rfl hM 0 rfl (rowTab _ _ rfl) (by omega) ?_; kernel_rfl); clear tk_r6))
          go_roundw
          case rel => exact ⟨k + 1, by omega, by go_num, Lib.hid (fun j hj => by
            by_cases e : j = k
            · rw [e]; exact Hb.out
            · exact hall.out j (by omega)), hM.drop⟩
          case measure => simp [intOf]; omega
    · obtain rfl : k = n := by omega
      have Hd : Hid (goatsB g k hs = true) := Lib.hid (by rw [goatsB_yes Ho.out hall.out]; exact decide_eq_true (by omega))
      go_wp2
      go_ret
      exact ⟨ret_bool Hd.out.symm, hM.below⟩
end Go.Proofs.YtdlfhomnlhdacaaDoor
