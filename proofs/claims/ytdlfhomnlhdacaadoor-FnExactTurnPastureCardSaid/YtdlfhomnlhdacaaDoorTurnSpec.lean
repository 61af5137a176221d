/-
  spec.TurnPasture by contract.
-/
import Derived.Test.YtdlfhomnlhdacaaDoorTurn
import Derived.Test.YtdlfhomnlhdacaaDoorSetAt
import Derived.Test.YtdlfhomnlhdacaaDoorValidB
namespace Go.Proofs.YtdlfhomnlhdacaaDoor
open Go Go.RowKit Go.Shelf Go.BigFrame

theorem tur_step (g : Nat → Int) (W H : Nat) (l : List (Nat × Nat)) (u v : Nat) (hu : u < 10) (hv : v < 10) :
    tk3 (tk2 (tk1 (turT g W H l) u v (turV g W H u v)) u v (turE g W H u v)) u v (turF g W H u v) = turT g W H (l ++ [(u, v)]) := tkS_snoc _ _ _ _ _ l u v hu hv
theorem tur_tt {g : Nat → Int} {W H : Nat} {l : List (Nat × Nat)} {u v : Nat} (hu : u < 10) (hv : v < 10) (he : turE g W H u v = true) (hf : turF g W H u v = true) :
    tk3 (tk2 (tk1 (turT g W H l) u v (turV g W H u v)) u v true) u v true = turT g W H (l ++ [(u, v)]) := by
  have := tur_step g W H l u v hu hv
  rwa [he, hf] at this
theorem tur_tf {g : Nat → Int} {W H : Nat} {l : List (Nat × Nat)} {u v : Nat} (hu : u < 10) (hv : v < 10) (he : turE g W H u v = true) (hf : turF g W H u v = false) :
    tk2 (tk1 (turT g W H l) u v (turV g W H u v)) u v true = turT g W H (l ++ [(u, v)]) := by
  have := tur_step g W H l u v hu hv
  rw [he, hf] at this
  rw [← this]
  exact (tk3_skip _ _ hu hv hf).symm
theorem tur_ft {g : Nat → Int} {W H : Nat} {l : List (Nat × Nat)} {u v : Nat} (hu : u < 10) (hv : v < 10) (he : turE g W H u v = false) (hf : turF g W H u v = true) :
    tk3 (tk1 (turT g W H l) u v (turV g W H u v)) u v true = turT g W H (l ++ [(u, v)]) := by
  have := tur_step g W H l u v hu hv
  rw [he, hf] at this
  rw [← this]
  have h2 : tk2 (tk1 (turT g W H l) u v (turV g W H u v)) u v false = tk1 (turT g W H l) u v (turV g W H u v) := tk2_skip _ hu hv he
  rw [h2]
theorem tur_ff {g : Nat → Int} {W H : Nat} {l : List (Nat × Nat)} {u v : Nat} (hu : u < 10) (hv : v < 10) (he : turE g W H u v = false) (hf : turF g W H u v = false) :
    tk1 (turT g W H l) u v (turV g W H u v) = turT g W H (l ++ [(u, v)]) := by
  have := tur_step g W H l u v hu hv
  rw [he, hf] at this
  rw [← this]
  have h2 : tk2 (tk1 (turT g W H l) u v (turV g W H u v)) u v false = tk1 (turT g W H l) u v (turV g W H u v) := tk2_skip _ hu hv he
  have h3 := tk3_skip (W := H) (H := W) (val := turV g W H) (e := turE g W H) (f := turF g W H) (l := l) (turV g W H u v) false hu hv hf
  exact (h3.trans h2).symm
theorem tur_w1 (g : Nat → Int) (W H : Nat) (l : List (Nat × Nat)) (u v : Nat) (n : Int) : pas (tk1 (turT g W H l) u v n) 0 = .int .i8 (H : Int) := by
  show Value.int .i8 (tk1 (turT g W H l) u v n 0) = _
  unfold tk1 setG; rw [if_neg (by omega)]; rfl
theorem tur_h1 (g : Nat → Int) (W H : Nat) (l : List (Nat × Nat)) (u v : Nat) (n : Int) : pas (tk1 (turT g W H l) u v n) 1 = .int .i8 (W : Int) := by
  show Value.int .i8 (tk1 (turT g W H l) u v n 1) = _
  unfold tk1 setG; rw [if_neg (by omega)]; rfl
theorem tur_h2 (g : Nat → Int) (W H : Nat) (l : List (Nat × Nat)) (u v : Nat) (n : Int) (b : Bool) : pas (tk2 (tk1 (turT g W H l) u v n) u v b) 1 = .int .i8 (W : Int) := by
  show Value.int .i8 (tk2 (tk1 (turT g W H l) u v n) u v b 1) = _
  unfold tk2 setG; rw [if_neg (by omega)]; unfold tk1 setG; rw [if_neg (by omega)]; rfl
theorem tur_closed {g : Nat → Int} {k : Nat} {x y : Int} (h : isB g (nxX k x) (nxY k y) = true) : closedB g k x y = fencedB g k x y := by
  rw [closedB_in h]; unfold fencedB; rw [h]; rfl
theorem tur_wall {g : Nat → Int} {k : Nat} {x y : Int} (h : isB g (nxX k x) (nxY k y) = false) : fencedB g k x y = false := by
  unfold fencedB; rw [h]; rfl
theorem closedTurn_of (g : Nat → Int) (hg : Fits g) (ho : okB g = true) (bp : Nat) (k : Nat) (K : Int) (hK : K = k) (hk : k < 4) (x y : Int) (hx : 0 ≤ x ∧ x ≤ 9) (hy : 0 ≤ y ∧ y ≤ 9) (f : Nat → Value) (hf : ∀ i, i < 2 → f i = sp x y i) (w : World) (hA : At w bp 122 (pas g)) :
    Calls Tryd.prog 63 #[.pointer (some ⟨bp, 0, none⟩), .agg (arr 2 f), .int .i64 K] w fun e w' => e = .returned (.bool (closedB g k x y)) ∧ Below w.heap.size w w' := by
  rw [arr_congr hf, hK]; exact l01Closed_any g hg ho bp k hk x y hx hy w hA

/-- What is asked of one cell: a side that is a wall, one without a hurdle, one with a hurdle. -/
theorem tur_sideE {g : Nat → Int} {W H j k : Nat} (h0 : g 0 = W) (h1 : g 1 = H) (hj : j < H) (hk : k < W) :
    (¬ j + 1 < H ∧ turE g W H j k = false) ∨ (j + 1 < H ∧ closedB g 0 ((k : Nat) : Int) (((H - 1 - j) : Nat) : Int) = false ∧ turE g W H j k = false) ∨ (j + 1 < H ∧ closedB g 0 ((k : Nat) : Int) (((H - 1 - j) : Nat) : Int) = true ∧ turE g W H j k = true) := by
  by_cases h : j + 1 < H
  · have hi : isB g (nxX 0 ((k : Nat) : Int)) (nxY 0 (((H - 1 - j) : Nat) : Int)) = true := by
      have e : (((H - 1 - j : Nat) : Int) - 1) = ((H - 1 - j - 1 : Nat) : Int) := by omega
      show isB g (k : Int) (((H - 1 - j : Nat) : Int) - 1) = true
      rw [e]; exact (isB_iff h0 h1).2 ⟨by omega, by omega⟩
    have e : turE g W H j k = closedB g 0 ((k : Nat) : Int) (((H - 1 - j) : Nat) : Int) := (tur_closed hi).symm
    cases hc : closedB g 0 ((k : Nat) : Int) (((H - 1 - j) : Nat) : Int)
    · exact .inr (.inl ⟨h, rfl, e.trans hc⟩)
    · exact .inr (.inr ⟨h, rfl, e.trans hc⟩)
  · refine .inl ⟨h, tur_wall ?_⟩
    show isB g (k : Int) (((H - 1 - j : Nat) : Int) - 1) = false
    simp only [isB, inB, Bool.and_eq_false_iff, decide_eq_false_iff_not]
    omega
theorem tur_sideF {g : Nat → Int} {W H j k : Nat} (h0 : g 0 = W) (h1 : g 1 = H) (hj : j < H) (hk : k < W) :
    (¬ k + 1 < W ∧ turF g W H j k = false) ∨ (k + 1 < W ∧ closedB g 1 ((k : Nat) : Int) (((H - 1 - j) : Nat) : Int) = false ∧ turF g W H j k = false) ∨ (k + 1 < W ∧ closedB g 1 ((k : Nat) : Int) (((H - 1 - j) : Nat) : Int) = true ∧ turF g W H j k = true) := by
  by_cases h : k + 1 < W
  · have hi : isB g (nxX 1 ((k : Nat) : Int)) (nxY 1 (((H - 1 - j) : Nat) : Int)) = true := by
      have e : ((k : Int) + 1) = ((k + 1 : Nat) : Int) := by omega
      show isB g ((k : Int) + 1) ((H - 1 - j : Nat) : Int) = true
      rw [e]; exact (isB_iff h0 h1).2 ⟨by omega, by omega⟩
    have e : turF g W H j k = closedB g 1 ((k : Nat) : Int) (((H - 1 - j) : Nat) : Int) := (tur_closed hi).symm
    cases hc : closedB g 1 ((k : Nat) : Int) (((H - 1 - j) : Nat) : Int)
    · exact .inr (.inl ⟨h, rfl, e.trans hc⟩)
    · exact .inr (.inr ⟨h, rfl, e.trans hc⟩)
  · refine .inl ⟨h, tur_wall ?_⟩
    show isB g ((k : Int) + 1) ((H - 1 - j : Nat) : Int) = false
    simp only [isB, inB, Bool.and_eq_false_iff, decide_eq_false_iff_not]
    omega

set_option maxRecDepth 100000 in
set_option maxHeartbeats 8000000 in
theorem specTurn_any (g : Nat → Int) (hg : Fits g) (w : World) :
    Calls Tryd.prog 39 #[.agg (arr 122 (pas g))] w fun e w' => e = .returned (pasR (turG g) (turC g)) ∧ Below w.heap.size w w' := by
  have hM := Mem.nil w
  cases ho : okB g
  · have Hr := Lib.hid (tur_no ho)
    have Ho := Lib.hid ho
    clear ho
    have tk_b1 : True := trivial; have tk_b2 : True := trivial; have tk_q1 : True := trivial
    go_enter Tryd.func39, Tryd.ntmps39
    go_wp2_with (first | (go_at_call 71; (with_reducible refine (l01Ok_any g hg _ _ (hM.ats 1 _ _ _ rfl)).mono ?_); rintro e W' ⟨rfl, hb'⟩; rw [Ho.out]; have hM' := hM.call hb'; clear hM hb'; have hM := hM'; clear hM') | (have _t := tk_b1; refine wpList_box rfl _ _ rfl _ _ rfl hM ?_; intro b1 W' hb1 hM'; clear hM tk_b1; have hM := hM'; clear hM') | (have _t := tk_b2; refine wpList_zero rfl _ rfl (zeroTab _ _ _ rfl) hM ?_; intro b2 W' hb2 hM'; clear hM tk_b2; have hM := hM'; clear hM') | (have _t := tk_q1; (refine wpList_lay rfl _ _ _ rfl _ _ rfl _ _ rfl hM 0 rfl (by assumption) (rowTab _ _ rfl) (by omega) ?_ ?_; (first | (intro _ _; rfl) | (intro k _; exact h1 _) | (intro k _; simp only [lay, upd]; (repeat' split) <;> first | exact h1 _ | rfl)); intro W' hM'; clear hM; have hM := hM'; clear hM'; simp only [List.set] at hM); clear tk_q1))
    refine bodyPost_ret (results_at2 rfl _ rfl ((hM.ats 0 _ _ _ rfl).congr (lay_zP _)) (rowTab _ _ rfl) _ rfl) rfl ?_
    exact ⟨ret_pas (by rw [Hr.out.1]) Hr.out.2.symm, hM.below⟩
  obtain ⟨W, H, h0, h1, hW, hH⟩ := ok_sizes ho
  have Hr := Lib.hid (tur_ok ho h0 h1)
  have Ho := Lib.hid ho
  have e0 : pas g 0 = .int .i8 (W : Int) := by rw [← h0]; rfl
  have e1 : pas g 1 = .int .i8 (H : Int) := by rw [← h1]; rfl
  have H0 := Lib.hid h0
  have H1 := Lib.hid h1
  clear ho h0 h1
  have tk_b1 : True := trivial; have tk_b2 : True := trivial; have tk_b4 : True := trivial; have tk_q2 : True := trivial; have tk_q3 : True := trivial; have tk_q4 : True := trivial
  go_enter Tryd.func39, Tryd.ntmps39
  go_wp2_with (first | (go_at_call 71; (with_reducible refine (l01Ok_any g hg _ _ (hM.ats 1 _ _ _ rfl)).mono ?_); rintro e W' ⟨rfl, hb'⟩; rw [Ho.out]; have hM' := hM.call hb'; clear hM hb'; have hM := hM'; clear hM') | (have _t := tk_b1; refine wpList_box rfl _ _ rfl _ _ rfl hM ?_; intro b1 W' hb1 hM'; clear hM tk_b1; have hM := hM'; clear hM') | (have _t := tk_b2; refine wpList_zero rfl _ rfl (zeroTab _ _ _ rfl) hM ?_; intro b2 W' hb2 hM'; clear hM tk_b2; have hM := hM'; clear hM') | (have _t := tk_q2; (refine wpList_get1 rfl _ _ rfl _ _ rfl hM 1 rfl (cellTab _ rfl) (by omega) _ e1 ?_); clear tk_q2) | (have _t := tk_q3; (refine wpList_get1 rfl _ _ rfl _ _ rfl hM 1 rfl (cellTab _ rfl) (by omega) _ e0 ?_); clear tk_q3) | (refine wpList_buildS rfl _ _ rfl _ _ rfl rfl ?_) | (have _t := tk_b4; refine wpList_zero rfl _ rfl (zeroTab _ _ _ rfl) hM ?_; intro b4 W' hb4 hM'; clear hM tk_b4; have hM := hM'; clear hM') | (have _t := tk_q4; (refine wpList_lay rfl _ _ _ rfl _ _ rfl _ _ rfl hM 0 rfl (by assumption) (rowTab _ _ rfl) (by omega) ?_ ?_; (first | (intro _ _; rfl) | (intro k _; exact h1 _) | (intro k _; simp only [lay, upd]; (repeat' split) <;> first | exact h1 _ | rfl)); intro W' hM'; clear hM; have hM := hM'; clear hM'; simp only [List.set] at hM); clear tk_q4))
  have hM0 := hM.re 0 rfl (pas (turT g W H (upto H (0 * H)))) (fun k hk => by rw [lay_pas _ _ k hk, Nat.zero_mul]; exact congrArg (fun G => pas G k) (tkS_nil _ _ _ _ _))
  simp only [List.set_cons_zero] at hM0
  clear hM
  go_loopw [5] (fun y wr => ∃ k : Nat, k ≤ W ∧ y = .int .i8 k ∧ Mem w [(b4, 122, pas (turT g W H (upto H (k * H)))), (b2, 122, zP), (b1, 122, pas g)] wr) (fun y _ => W - (intOf y).toNat)
  case atStart => exact ⟨0, by omega, rfl, hM0⟩
  case round =>
    clear hM0
    obtain ⟨k, hk, rfl, hM⟩ := hrel
    by_cases hlt : k < W
    · have l1 : (k : Int) < W := by omega
      have lk : (k : Int) < 10 := by omega
      have wh : pas (turT g W H (upto H (k * H))) 1 = .int .i8 (W : Int) := rfl
      have tk_q1 : True := trivial
      go_wp2_with (first | (have _t := tk_q1; (refine wpList_get1 rfl _ _ rfl _ _ rfl hM 0 rfl (cellTab _ rfl) (by omega) _ wh ?_); clear tk_q1))
      go_loopw [6] (fun x wr => ∃ j : Nat, j ≤ H ∧ x = .int .i8 j ∧ Mem w [(b4, 122, pas (turT g W H (upto H (k * H + j)))), (b2, 122, zP), (b1, 122, pas g)] wr) (fun x _ => H - (intOf x).toNat)
      case atStart => exact ⟨0, by omega, rfl, hM⟩
      case round =>
        clear hM
        obtain ⟨j, hj, rfl, hM⟩ := hrel
        by_cases hjl : j < H
        · have l2 : (j : Int) < H := by omega
          have lj : (j : Int) < 10 := by omega
          have ww : pas (turT g W H (upto H (k * H + j))) 0 = .int .i8 (H : Int) := rfl
          obtain ⟨z, hz⟩ : ∃ z : Nat, z = H - 1 - j := ⟨_, rfl⟩
          have lz : (z : Int) < 10 := by omega
          have bz : 0 ≤ (z : Int) ∧ (z : Int) ≤ 9 := by omega
          have bk : 0 ≤ (k : Int) ∧ (k : Int) ≤ 9 := by omega
          have c1 : IntKind.i8.wrap ((H : Int) - 1) = (H : Int) - 1 := IntWalk.i8_in _ (by omega)
          have c2 : IntKind.i8.wrap ((H : Int) - 1 - j) = (z : Int) := by rw [show (H : Int) - 1 - j = z by omega]; exact IntWalk.i8_in _ (by omega)
          have c3 : IntKind.i8.wrap ((j : Int) + 1) = (j : Int) + 1 := IntWalk.i8_in _ (by omega)
          have c4 : IntKind.i8.wrap ((k : Int) + 1) = (k : Int) + 1 := IntWalk.i8_in _ (by omega)
          have hsp : #[Value.int .i8 (k : Int), Value.int .i8 (z : Int)] = arr 2 (sp k z) := rfl
          have hsq : #[Value.int .i8 (j : Int), Value.int .i8 (k : Int)] = arr 2 (sp j k) := rfl
          have eg : pas g (2 + z * 10 + k) = .int .i16 (turV g W H j k) := by rw [pas_i16 g (by omega) (by omega), hz]; rfl
          have hE := tur_sideE H0.out H1.out hjl hlt
          have hF := tur_sideF H0.out H1.out hjl hlt
          rw [← hz] at hE hF
          have HE_ := Lib.hid hE
          have HF_ := Lib.hid hF
          have hnext : upto H (k * H + j) ++ [(j, k)] = upto H (k * H + (j + 1)) := by rw [← Nat.add_assoc, upto_succ, cellAt_row hjl]
          have Hn := Lib.hid hnext
          have b_j : j ≤ 9 := by omega
          have b_k : k ≤ 9 := by omega
          have b_j' : j < 10 := by omega
          have b_k' : k < 10 := by omega
          have w1 := tur_w1 g W H (upto H (k * H + j)) j k (turV g W H j k)
          have w2 := tur_h1 g W H (upto H (k * H + j)) j k (turV g W H j k)
          have w3 := tur_h2 g W H (upto H (k * H + j)) j k (turV g W H j k) true
          clear hE hF hnext hz
          have tk_b7 : True := trivial; have tk_t1 : True := trivial; have tk_t2 : True := trivial; have tk_t3 : True := trivial
          go_wp2_with (first | (have _t := tk_t1; (refine wpList_get1 rfl _ _ rfl _ _ rfl hM 0 rfl (cellTab _ rfl) (by omega) _ ww ?_); clear tk_t1) | (have _t := tk_t2; (refine wpList_get1 rfl _ _ rfl _ _ rfl hM 2 rfl (cellTab _ rfl) (by omega) _ e1 ?_); clear tk_t2) | (have _t := tk_b7; refine wpList_zero rfl _ rfl (zeroTab _ _ _ rfl) hM ?_; intro b7 W' hb7 hM'; clear hM tk_b7; have hM := hM'; clear hM') | (have _t := tk_t3; (refine wpList_lay rfl _ _ _ rfl _ _ rfl _ _ rfl hM 0 rfl (by assumption) (rowTab _ _ rfl) (by omega) ?_ ?_; (first | (intro _ _; rfl) | (intro k _; exact h1 _) | (intro k _; simp only [lay, upd]; (repeat' split) <;> first | exact h1 _ | rfl)); intro W' hM'; clear hM; have hM := hM'; clear hM'; simp only [List.set] at hM); clear tk_t3))
          ((try simp only [Act.put, List.setIfInBounds_toArray, List.set_cons_succ, List.set_cons_zero]); refine region_tail_mem (m := 13) (by kernel_rfl) (by kernel_rfl) ?_; (have hM' := hM.drew); clear hM; have hM := hM'; clear hM'; simp only [List.take_succ_cons, List.take_zero, List.drop_succ_cons, List.drop_zero]; (repeat (refine wps_plain rfl ?_; (first | (refine still_get1 hM _ _ rfl _ _ rfl 0 rfl (cellTab _ rfl) (by omega) (.int .i8 (k : Int)) rfl ?_) | (refine still_get1 hM _ _ rfl _ _ rfl 0 rfl (cellTab _ rfl) (by omega) (.int .i8 (z : Int)) rfl ?_) | (refine still_get1 hM _ _ rfl _ _ rfl 3 rfl (cellTab _ rfl) (by omega) _ (eg) ?_) | (refine still_val ?_; apply Exists.intro; refine ⟨fun W => ?_, ?_⟩; (go_simp; (try simp only [lz, lk, lj, if_true]); rfl))); (simp only [Act.put, List.setIfInBounds_toArray, List.set_cons_succ, List.set_cons_zero]))); unfold wpStill)
          (refine wpList_set1 rfl _ _ _ rfl _ _ rfl _ rfl ?_ hM 1 rfl (by assumption) (cellTab _ rfl) (by omega) ?_; (first | rfl | exact h1 _); intro W' hM'; clear hM; have hM := hM'; clear hM'; simp [List.set, Act.eval] at hM)
          rw [upd_grass _ _ _ (by omega) (by omega), show setG (turT g W H (upto H (k * H + j))) (2 + k * 10 + j) (turV g W H j k) = tk1 (turT g W H (upto H (k * H + j))) j k (turV g W H j k) from rfl] at hM
          rcases HE_.out with ⟨x1, x3⟩ | ⟨x1, x2, x3⟩ | ⟨x1, x2, x3⟩
          · have X3 := Lib.hid x3
            have dE : decide ((j : Int) + 1 < H) = false := decide_eq_false (by omega)
            clear x3
            rcases HF_.out with ⟨y1, y3⟩ | ⟨y1, y2, y3⟩ | ⟨y1, y2, y3⟩
            · have Y3 := Lib.hid y3
              have dF : decide ((k : Int) + 1 < W) = false := decide_eq_false (by omega)
              clear y3
              have tk_s1 : True := trivial; have tk_s2 : True := trivial; have tk_s3 : True := trivial; have tk_s4 : True := trivial
              go_wp2_with (first | (have _t := tk_s1; (refine wpList_get1 rfl _ _ rfl _ _ rfl hM 1 rfl (cellTab _ rfl) (by omega) _ w1 ?_); clear tk_s1) | (have _t := tk_s3; (refine wpList_get1 rfl _ _ rfl _ _ rfl hM 1 rfl (cellTab _ rfl) (by omega) _ w2 ?_); clear tk_s3))
              rw [tur_ff b_j' b_k' X3.out Y3.out, Hn.out] at hM
              go_roundw
              case rel => exact ⟨j + 1, by omega, by go_num, hM.drop⟩
              case measure => simp [intOf]; omega
            · have Y3 := Lib.hid y3
              have Y2 := Lib.hid y2
              have dF : decide ((k : Int) + 1 < W) = true := decide_eq_true (by omega)
              clear y2 y3
              have tk_s1 : True := trivial; have tk_s2 : True := trivial; have tk_s3 : True := trivial; have tk_s4 : True := trivial
              go_wp2_with (first | (go_at_call 63; (with_reducible refine (closedTurn_of g hg Ho.out b1 1 1 rfl (by omega) (k : Int) (z : Int) bk bz _ (lay_sp _ _ _) _ (hM.ats 3 _ _ _ rfl)).mono ?_); rintro e W' ⟨rfl, hb'⟩; rw [Y2.out]; have hM' := hM.call hb'; clear hM hb'; have hM := hM'; clear hM') | (have _t := tk_s1; (refine wpList_get1 rfl _ _ rfl _ _ rfl hM 1 rfl (cellTab _ rfl) (by omega) _ w1 ?_); clear tk_s1) | (have _t := tk_s3; (refine wpList_get1 rfl _ _ rfl _ _ rfl hM 1 rfl (cellTab _ rfl) (by omega) _ w2 ?_); clear tk_s3) | (have _t := tk_s4; (fail_if_success have _u := tk_s3); (refine wpList_gget ?_ _ _ rfl _ _ rfl hM 0 rfl (rowTab _ _ rfl) (by omega) ?_; kernel_rfl); clear tk_s4))
              rw [tur_ff b_j' b_k' X3.out Y3.out, Hn.out] at hM
              go_roundw
              case rel => exact ⟨j + 1, by omega, by go_num, hM.drop⟩
              case measure => simp [intOf]; omega
            · have Y3 := Lib.hid y3
              have Y2 := Lib.hid y2
              have dF : decide ((k : Int) + 1 < W) = true := decide_eq_true (by omega)
              clear y2 y3
              have tk_s1 : True := trivial; have tk_s2 : True := trivial; have tk_s3 : True := trivial; have tk_s4 : True := trivial
              go_wp2_with (first | (go_at_call 63; (with_reducible refine (closedTurn_of g hg Ho.out b1 1 1 rfl (by omega) (k : Int) (z : Int) bk bz _ (lay_sp _ _ _) _ (hM.ats 3 _ _ _ rfl)).mono ?_); rintro e W' ⟨rfl, hb'⟩; rw [Y2.out]; have hM' := hM.call hb'; clear hM hb'; have hM := hM'; clear hM') | (go_at_call 68; (with_reducible refine (l01Set_S _ b7 b4 b2 b1 _ _ _ _ hb4 j k b_j b_k _ hM).mono ?_); rintro e W' ⟨rfl, hM'⟩; clear hM; have hM := hM'; clear hM') | (have _t := tk_s1; (refine wpList_get1 rfl _ _ rfl _ _ rfl hM 1 rfl (cellTab _ rfl) (by omega) _ w1 ?_); clear tk_s1) | (have _t := tk_s3; (refine wpList_get1 rfl _ _ rfl _ _ rfl hM 1 rfl (cellTab _ rfl) (by omega) _ w2 ?_); clear tk_s3) | (have _t := tk_s4; (fail_if_success have _u := tk_s3); (refine wpList_gget ?_ _ _ rfl _ _ rfl hM 0 rfl (rowTab _ _ rfl) (by omega) ?_; kernel_rfl); clear tk_s4))
              rw [tur_ft b_j' b_k' X3.out Y3.out, Hn.out] at hM
              go_roundw
              case rel => exact ⟨j + 1, by omega, by go_num, hM.drop⟩
              case measure => simp [intOf]; omega
          · have X3 := Lib.hid x3
            have X2 := Lib.hid x2
            have dE : decide ((j : Int) + 1 < H) = true := decide_eq_true (by omega)
            clear x2 x3
            rcases HF_.out with ⟨y1, y3⟩ | ⟨y1, y2, y3⟩ | ⟨y1, y2, y3⟩
            · have Y3 := Lib.hid y3
              have dF : decide ((k : Int) + 1 < W) = false := decide_eq_false (by omega)
              clear y3
              have tk_s1 : True := trivial; have tk_s2 : True := trivial; have tk_s3 : True := trivial; have tk_s4 : True := trivial
              go_wp2_with (first | (go_at_call 63; (with_reducible refine (closedTurn_of g hg Ho.out b1 0 0 rfl (by omega) (k : Int) (z : Int) bk bz _ (lay_sp _ _ _) _ (hM.ats 3 _ _ _ rfl)).mono ?_); rintro e W' ⟨rfl, hb'⟩; rw [X2.out]; have hM' := hM.call hb'; clear hM hb'; have hM := hM'; clear hM') | (have _t := tk_s1; (refine wpList_get1 rfl _ _ rfl _ _ rfl hM 1 rfl (cellTab _ rfl) (by omega) _ w1 ?_); clear tk_s1) | (have _t := tk_s2; (fail_if_success have _u := tk_s1); (refine wpList_gget ?_ _ _ rfl _ _ rfl hM 0 rfl (rowTab _ _ rfl) (by omega) ?_; kernel_rfl); clear tk_s2) | (have _t := tk_s3; (refine wpList_get1 rfl _ _ rfl _ _ rfl hM 1 rfl (cellTab _ rfl) (by omega) _ w2 ?_); clear tk_s3))
              rw [tur_ff b_j' b_k' X3.out Y3.out, Hn.out] at hM
              go_roundw
              case rel => exact ⟨j + 1, by omega, by go_num, hM.drop⟩
              case measure => simp [intOf]; omega
            · have Y3 := Lib.hid y3
              have Y2 := Lib.hid y2
              have dF : decide ((k : Int) + 1 < W) = true := decide_eq_true (by omega)
              clear y2 y3
              have tk_s1 : True := trivial; have tk_s2 : True := trivial; have tk_s3 : True := trivial; have tk_s4 : True := trivial
              go_wp2_with (first | (go_at_call 63; (with_reducible refine (closedTurn_of g hg Ho.out b1 0 0 rfl (by omega) (k : Int) (z : Int) bk bz _ (lay_sp _ _ _) _ (hM.ats 3 _ _ _ rfl)).mono ?_); rintro e W' ⟨rfl, hb'⟩; rw [X2.out]; have hM' := hM.call hb'; clear hM hb'; have hM := hM'; clear hM') | (go_at_call 63; (with_reducible refine (closedTurn_of g hg Ho.out b1 1 1 rfl (by omega) (k : Int) (z : Int) bk bz _ (lay_sp _ _ _) _ (hM.ats 3 _ _ _ rfl)).mono ?_); rintro e W' ⟨rfl, hb'⟩; rw [Y2.out]; have hM' := hM.call hb'; clear hM hb'; have hM := hM'; clear hM') | (have _t := tk_s1; (refine wpList_get1 rfl _ _ rfl _ _ rfl hM 1 rfl (cellTab _ rfl) (by omega) _ w1 ?_); clear tk_s1) | (have _t := tk_s2; (fail_if_success have _u := tk_s1); (refine wpList_gget ?_ _ _ rfl _ _ rfl hM 0 rfl (rowTab _ _ rfl) (by omega) ?_; kernel_rfl); clear tk_s2) | (have _t := tk_s3; (refine wpList_get1 rfl _ _ rfl _ _ rfl hM 1 rfl (cellTab _ rfl) (by omega) _ w2 ?_); clear tk_s3) | (have _t := tk_s4; (fail_if_success have _u := tk_s3); (refine wpList_gget ?_ _ _ rfl _ _ rfl hM 0 rfl (rowTab _ _ rfl) (by omega) ?_; kernel_rfl); clear tk_s4))
              rw [tur_ff b_j' b_k' X3.out Y3.out, Hn.out] at hM
              go_roundw
              case rel => exact ⟨j + 1, by omega, by go_num, hM.drop⟩
              case measure => simp [intOf]; omega
            · have Y3 := Lib.hid y3
              have Y2 := Lib.hid y2
              have dF : decide ((k : Int) + 1 < W) = true := decide_eq_true (by omega)
              clear y2 y3
              have tk_s1 : True := trivial; have tk_s2 : True := trivial; have tk_s3 : True := trivial; have tk_s4 : True := trivial
              go_wp2_with (first | (go_at_call 63; (with_reducible refine (closedTurn_of g hg Ho.out b1 0 0 rfl (by omega) (k : Int) (z : Int) bk bz _ (lay_sp _ _ _) _ (hM.ats 3 _ _ _ rfl)).mono ?_); rintro e W' ⟨rfl, hb'⟩; rw [X2.out]; have hM' := hM.call hb'; clear hM hb'; have hM := hM'; clear hM') | (go_at_call 63; (with_reducible refine (closedTurn_of g hg Ho.out b1 1 1 rfl (by omega) (k : Int) (z : Int) bk bz _ (lay_sp _ _ _) _ (hM.ats 3 _ _ _ rfl)).mono ?_); rintro e W' ⟨rfl, hb'⟩; rw [Y2.out]; have hM' := hM.call hb'; clear hM hb'; have hM := hM'; clear hM') | (go_at_call 68; (with_reducible refine (l01Set_S _ b7 b4 b2 b1 _ _ _ _ hb4 j k b_j b_k _ hM).mono ?_); rintro e W' ⟨rfl, hM'⟩; clear hM; have hM := hM'; clear hM') | (have _t := tk_s1; (refine wpList_get1 rfl _ _ rfl _ _ rfl hM 1 rfl (cellTab _ rfl) (by omega) _ w1 ?_); clear tk_s1) | (have _t := tk_s2; (fail_if_success have _u := tk_s1); (refine wpList_gget ?_ _ _ rfl _ _ rfl hM 0 rfl (rowTab _ _ rfl) (by omega) ?_; kernel_rfl); clear tk_s2) | (have _t := tk_s3; (refine wpList_get1 rfl _ _ rfl _ _ rfl hM 1 rfl (cellTab _ rfl) (by omega) _ w2 ?_); clear tk_s3) | (have _t := tk_s4; (fail_if_success have _u := tk_s3); (refine wpList_gget ?_ _ _ rfl _ _ rfl hM 0 rfl (rowTab _ _ rfl) (by omega) ?_; kernel_rfl); clear tk_s4))
              rw [tur_ft b_j' b_k' X3.out Y3.out, Hn.out] at hM
              go_roundw
              case rel => exact ⟨j + 1, by omega, by go_num, hM.drop⟩
              case measure => simp [intOf]; omega
          · have X3 := Lib.hid x3
            have X2 := Lib.hid x2
            have dE : decide ((j : Int) + 1 < H) = true := decide_eq_true (by omega)
            clear x2 x3
            rcases HF_.out with ⟨y1, y3⟩ | ⟨y1, y2, y3⟩ | ⟨y1, y2, y3⟩
            · have Y3 := Lib.hid y3
              have dF : decide ((k : Int) + 1 < W) = false := decide_eq_false (by omega)
              clear y3
              have tk_s1 : True := trivial; have tk_s2 : True := trivial; have tk_s3 : True := trivial; have tk_s4 : True := trivial
              go_wp2_with (first | (go_at_call 63; (with_reducible refine (closedTurn_of g hg Ho.out b1 0 0 rfl (by omega) (k : Int) (z : Int) bk bz _ (lay_sp _ _ _) _ (hM.ats 3 _ _ _ rfl)).mono ?_); rintro e W' ⟨rfl, hb'⟩; rw [X2.out]; have hM' := hM.call hb'; clear hM hb'; have hM := hM'; clear hM') | (go_at_call 68; (with_reducible refine (l01Set_E _ b7 b4 b2 b1 _ _ _ _ hb4 j k b_j b_k _ hM).mono ?_); rintro e W' ⟨rfl, hM'⟩; clear hM; have hM := hM'; clear hM') | (have _t := tk_s1; (refine wpList_get1 rfl _ _ rfl _ _ rfl hM 1 rfl (cellTab _ rfl) (by omega) _ w1 ?_); clear tk_s1) | (have _t := tk_s2; (fail_if_success have _u := tk_s1); (refine wpList_gget ?_ _ _ rfl _ _ rfl hM 0 rfl (rowTab _ _ rfl) (by omega) ?_; kernel_rfl); clear tk_s2) | (have _t := tk_s3; (refine wpList_get1 rfl _ _ rfl _ _ rfl hM 1 rfl (cellTab _ rfl) (by omega) _ w3 ?_); clear tk_s3))
              rw [tur_tf b_j' b_k' X3.out Y3.out, Hn.out] at hM
              go_roundw
              case rel => exact ⟨j + 1, by omega, by go_num, hM.drop⟩
              case measure => simp [intOf]; omega
            · have Y3 := Lib.hid y3
              have Y2 := Lib.hid y2
              have dF : decide ((k : Int) + 1 < W) = true := decide_eq_true (by omega)
              clear y2 y3
              have tk_s1 : True := trivial; have tk_s2 : True := trivial; have tk_s3 : True := trivial; have tk_s4 : True := trivial
              go_wp2_with (first | (go_at_call 63; (with_reducible refine (closedTurn_of g hg Ho.out b1 0 0 rfl (by omega) (k : Int) (z : Int) bk bz _ (lay_sp _ _ _) _ (hM.ats 3 _ _ _ rfl)).mono ?_); rintro e W' ⟨rfl, hb'⟩; rw [X2.out]; have hM' := hM.call hb'; clear hM hb'; have hM := hM'; clear hM') | (go_at_call 63; (with_reducible refine (closedTurn_of g hg Ho.out b1 1 1 rfl (by omega) (k : Int) (z : Int) bk bz _ (lay_sp _ _ _) _ (hM.ats 3 _ _ _ rfl)).mono ?_); rintro e W' ⟨rfl, hb'⟩; rw [Y2.out]; have hM' := hM.call hb'; clear hM hb'; have hM := hM'; clear hM') | (go_at_call 68; (with_reducible refine (l01Set_E _ b7 b4 b2 b1 _ _ _ _ hb4 j k b_j b_k _ hM).mono ?_); rintro e W' ⟨rfl, hM'⟩; clear hM; have hM := hM'; clear hM') | (have _t := tk_s1; (refine wpList_get1 rfl _ _ rfl _ _ rfl hM 1 rfl (cellTab _ rfl) (by omega) _ w1 ?_); clear tk_s1) | (have _t := tk_s2; (fail_if_success have _u := tk_s1); (refine wpList_gget ?_ _ _ rfl _ _ rfl hM 0 rfl (rowTab _ _ rfl) (by omega) ?_; kernel_rfl); clear tk_s2) | (have _t := tk_s3; (refine wpList_get1 rfl _ _ rfl _ _ rfl hM 1 rfl (cellTab _ rfl) (by omega) _ w3 ?_); clear tk_s3) | (have _t := tk_s4; (fail_if_success have _u := tk_s3); (refine wpList_gget ?_ _ _ rfl _ _ rfl hM 0 rfl (rowTab _ _ rfl) (by omega) ?_; kernel_rfl); clear tk_s4))
              rw [tur_tf b_j' b_k' X3.out Y3.out, Hn.out] at hM
              go_roundw
              case rel => exact ⟨j + 1, by omega, by go_num, hM.drop⟩
              case measure => simp [intOf]; omega
            · have Y3 := Lib.hid y3
              have Y2 := Lib.hid y2
              have dF : decide ((k : Int) + 1 < W) = true := decide_eq_true (by omega)
              clear y2 y3
              have tk_s1 : True := trivial; have tk_s2 : True := trivial; have tk_s3 : True := trivial; have tk_s4 : True := trivial
              go_wp2_with (first | (go_at_call 63; (with_reducible refine (closedTurn_of g hg Ho.out b1 0 0 rfl (by omega) (k : Int) (z : Int) bk bz _ (lay_sp _ _ _) _ (hM.ats 3 _ _ _ rfl)).mono ?_); rintro e W' ⟨rfl, hb'⟩; rw [X2.out]; have hM' := hM.call hb'; clear hM hb'; have hM := hM'; clear hM') | (go_at_call 63; (with_reducible refine (closedTurn_of g hg Ho.out b1 1 1 rfl (by omega) (k : Int) (z : Int) bk bz _ (lay_sp _ _ _) _ (hM.ats 3 _ _ _ rfl)).mono ?_); rintro e W' ⟨rfl, hb'⟩; rw [Y2.out]; have hM' := hM.call hb'; clear hM hb'; have hM := hM'; clear hM') | (go_at_call 68; (with_reducible refine (l01Set_E _ b7 b4 b2 b1 _ _ _ _ hb4 j k b_j b_k _ hM).mono ?_); rintro e W' ⟨rfl, hM'⟩; clear hM; have hM := hM'; clear hM') | (go_at_call 68; (with_reducible refine (l01Set_S _ b7 b4 b2 b1 _ _ _ _ hb4 j k b_j b_k _ hM).mono ?_); rintro e W' ⟨rfl, hM'⟩; clear hM; have hM := hM'; clear hM') | (have _t := tk_s1; (refine wpList_get1 rfl _ _ rfl _ _ rfl hM 1 rfl (cellTab _ rfl) (by omega) _ w1 ?_); clear tk_s1) | (have _t := tk_s2; (fail_if_success have _u := tk_s1); (refine wpList_gget ?_ _ _ rfl _ _ rfl hM 0 rfl (rowTab _ _ rfl) (by omega) ?_; kernel_rfl); clear tk_s2) | (have _t := tk_s3; (refine wpList_get1 rfl _ _ rfl _ _ rfl hM 1 rfl (cellTab _ rfl) (by omega) _ w3 ?_); clear tk_s3) | (have _t := tk_s4; (fail_if_success have _u := tk_s3); (refine wpList_gget ?_ _ _ rfl _ _ rfl hM 0 rfl (rowTab _ _ rfl) (by omega) ?_; kernel_rfl); clear tk_s4))
              rw [tur_tt b_j' b_k' X3.out Y3.out, Hn.out] at hM
              go_roundw
              case rel => exact ⟨j + 1, by omega, by go_num, hM.drop⟩
              case measure => simp [intOf]; omega
        · obtain rfl : j = H := by omega
          have ww : pas (turT g W j (upto j (k * j + j))) 0 = .int .i8 (j : Int) := rfl
          have e : k * j + j = (k + 1) * j := by rw [Nat.add_mul, Nat.one_mul]
          have tk_t1 : True := trivial
          go_wp2_with (first | (have _t := tk_t1; (refine wpList_get1 rfl _ _ rfl _ _ rfl hM 0 rfl (cellTab _ rfl) (by omega) _ ww ?_); clear tk_t1))
          rw [e] at hM
          clear e
          go_roundw
          case rel => exact ⟨k + 1, by omega, by go_num, hM⟩
          case measure => simp [intOf]; omega
    · obtain rfl : k = W := by omega
      have wh : pas (turT g k H (upto H (k * H))) 1 = .int .i8 (k : Int) := rfl
      rw [Nat.mul_comm] at hM
      rw [Nat.mul_comm] at wh
      have tk_q1 : True := trivial; have tk_q5 : True := trivial; have tk_q6 : True := trivial
      go_wp2_with (first | (have _t := tk_q1; (refine wpList_get1 rfl _ _ rfl _ _ rfl hM 0 rfl (cellTab _ rfl) (by omega) _ wh ?_); clear tk_q1) | (have _t := tk_q5; (refine wpList_get rfl _ _ rfl _ _ rfl hM 0 rfl (rowTab _ _ rfl) (by omega) ?_); clear tk_q5) | (have _t := tk_q6; (refine wpList_lay rfl _ _ _ rfl _ _ rfl _ _ rfl hM 1 rfl (by assumption) (rowTab _ _ rfl) (by omega) ?_ ?_; (first | (intro _ _; rfl) | (intro k _; exact h1 _) | (intro k _; simp only [lay, upd]; (repeat' split) <;> first | exact h1 _ | rfl)); intro W' hM'; clear hM; have hM := hM'; clear hM'; simp only [List.set] at hM); clear tk_q6))
      refine bodyPost_ret (results_at2 rfl _ rfl ((hM.ats 1 _ _ _ rfl).congr (lay_pas0 _ _)) (rowTab _ _ rfl) _ rfl) rfl ?_
      exact ⟨ret_pas (by rw [Hr.out.1]) Hr.out.2.symm, hM.below⟩
end Go.Proofs.YtdlfhomnlhdacaaDoor
