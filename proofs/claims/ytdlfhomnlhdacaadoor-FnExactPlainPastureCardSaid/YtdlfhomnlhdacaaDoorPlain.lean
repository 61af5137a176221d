/-
  spec.PlainPasture and impl.PlainPasture by contracts; laws.FnExactPlainPasture returns true.
-/
import Derived.Test.YtdlfhomnlhdacaaDoorRange
import Derived.Test.YtdlfhomnlhdacaaDoorPasture
import Derived.Test.YtdlfhomnlhdacaaDoorCheckGrass
import Derived.Test.YtdlfhomnlhdacaaDoorGrassAt
import Derived.Test.YtdlfhomnlhdacaaDoorMix
namespace Go.Proofs.YtdlfhomnlhdacaaDoor
open Go Go.RowKit Go.Shelf Go.BigFrame

def whG (a b : Int) : Nat → Int := fun j => if j = 0 then a else if j = 1 then b else 0
theorem run_build2 (a b : Int) (W : World) : (Instr.build 29 #[(0, .int .i8 a), (1, .int .i8 b)]).run Tryd.prog W = .ok (.agg (arr 122 (pas (whG a b)))) W := by
  kernel_rfl
theorem wpList_build2 {ops : Array Oper} {rest : List Oper} {o : Oper} {a : Act} {W : World} {Q : Exit → Act → World → Prop} (hgd : o.guard = none) (x y : Operand) (ho : o.op = .build 29 #[(0, x), (1, y)]) (n m : Int) (hx : a.eval x = .int .i8 n) (hy : a.eval y = .int .i8 m)
    (h : wpList Tryd.prog ops Q rest (a.put o.dst (.agg (arr 122 (pas (whG n m))))) W) : wpList Tryd.prog ops Q (o :: rest) a W := by
  refine wpList_plain hgd fun K hK => ?_
  unfold Oper.wp execOp
  have e : (Array.map (fun (z : Nat × Operand) => match z with | (i, x) => (i, a.eval x)) #[(0, x), (1, y)]) = #[(0, .int .i8 n), (1, .int .i8 m)] := by simp [hx, hy]
  simp only [ho, e, Sem.run_bind, Sem.run_pure, run_build2, Result.andThen_ok]
  exact hK _ _ h

/-- The plain pasture when i cells have their grass. -/
def plainT (W H : Nat) (n : Int) (i : Nat) : Nat → Int := fun p =>
  if p = 0 then W else if p = 1 then H else if p < 102 ∧ (p - 2) % 10 < W ∧ (p - 2) / 10 * W + (p - 2) % 10 < i then n else 0
theorem plainT_zero (W H : Nat) (n : Int) : whG W H = plainT W H n 0 := by
  funext p
  unfold whG plainT
  by_cases h0 : p = 0
  · simp [h0]
  · by_cases h1 : p = 1
    · simp [h1]
    · simp [h0, h1]
theorem plainT_succ (W H : Nat) (n : Int) (k j : Nat) (hj : j < W) (hW : W ≤ 10) (hk : k < 10) : setG (plainT W H n (k * W + j)) (2 + k * 10 + j) n = plainT W H n (k * W + j + 1) := by
  funext p
  unfold setG plainT
  by_cases e : p = 2 + k * 10 + j
  · have e1 : (p - 2) % 10 = j := by omega
    have e2 : (p - 2) / 10 = k := by omega
    rw [if_pos e, if_neg (by omega), if_neg (by omega), e1, e2, if_pos (by omega)]
  · rw [if_neg e]
    by_cases h0 : p = 0
    · simp [h0]
    by_cases h1 : p = 1
    · simp [h1]
    simp only [h0, h1, if_false]
    by_cases h2 : p < 102 ∧ (p - 2) % 10 < W
    · have hne : (p - 2) / 10 * W + (p - 2) % 10 ≠ k * W + j := fun h => by
        have a1 : ((p - 2) / 10 * W + (p - 2) % 10) / W = (p - 2) / 10 := by
          rw [Nat.mul_comm, Nat.mul_add_div (by omega), Nat.div_eq_of_lt h2.2]; omega
        have a2 : (k * W + j) / W = k := by
          rw [Nat.mul_comm, Nat.mul_add_div (by omega), Nat.div_eq_of_lt hj]; omega
        rw [h, a2] at a1
        rw [← a1] at h
        omega
      simp only [h2, true_and]
      by_cases h3 : (p - 2) / 10 * W + (p - 2) % 10 < k * W + j
      · rw [if_pos h3, if_pos (by omega)]
      · rw [if_neg h3, if_neg (by omega)]
    · rw [if_neg (fun h => h2 ⟨h.1, h.2.1⟩), if_neg (fun h => h2 ⟨h.1, h.2.1⟩)]

/-- What PlainPasture answers. -/
def plainOk (w h n : Int) : Bool := inB 1 10 w && inB 1 10 h && inB 0 1000 n
def plainR (w h n : Int) : Value := if plainOk w h n then pasR (plainT w.toNat h.toNat n (w.toNat * h.toNat)) 0 else pasR g0 2
theorem plainR_no {w h n : Int} (e : plainOk w h n = false) : plainR w h n = pasR g0 2 := by simp [plainR, e]
theorem plainR_ok {W H : Nat} {n : Int} (e : plainOk W H n = true) : plainR W H n = pasR (plainT W H n (W * H)) 0 := by simp [plainR, e]

set_option maxRecDepth 100000 in
set_option maxHeartbeats 1000000 in
theorem specPlain_no (x y n : Int) (w : World) (hno : plainOk x y n = false) :
    Calls Tryd.prog 15 #[.int .i64 x, .int .i64 y, .int .i64 n] w fun e w' => e = .returned (plainR x y n) ∧ Below w.heap.size w w' := by
  have hM := Mem.nil w
  have Hr := Lib.hid (plainR_no hno)
  unfold plainOk at hno
  cases h1 : inB 1 10 x
  · have H1 := Lib.hid h1
    clear h1 hno
    rw [Hr.out]
    have tk_b1 : True := trivial
    go_enter Tryd.func15, Tryd.ntmps15
    go_wp2_with (first | (have _t := tk_b1; refine wpList_zero rfl _ rfl (zeroTab _ _ _ rfl) hM ?_; intro b1 W' hb1 hM'; clear hM tk_b1; have hM := hM'; clear hM') | (refine wpList_lay rfl _ _ _ rfl _ _ rfl _ _ rfl hM 0 rfl (by assumption) (rowTab _ _ rfl) (by omega) ?_ ?_; (first | (intro _ _; rfl) | (intro k _; exact h1 _) | (intro k _; simp only [lay, upd]; (repeat' split) <;> first | exact h1 _ | rfl)); intro W' hM'; clear hM; have hM := hM'; clear hM'; simp only [List.set] at hM) | (go_at_call 50; (with_reducible refine (l00In_any x _ _ _).mono ?_); rintro e W' ⟨rfl, hb'⟩; rw [H1.out]; have hM' := hM.call hb'; clear hM hb'; have hM := hM'; clear hM'))
    exact bodyPost_ret (results_at2 rfl _ rfl ((hM.ats 0 _ _ _ rfl).congr (lay_zP _)) (rowTab _ _ rfl) _ rfl) rfl ⟨ret_pas rfl rfl, hM.below⟩
  cases h2 : inB 1 10 y
  · have H1 := Lib.hid h1
    have H2 := Lib.hid h2
    clear h1 h2 hno
    rw [Hr.out]
    have tk_b1 : True := trivial
    go_enter Tryd.func15, Tryd.ntmps15
    go_wp2_with (first | (have _t := tk_b1; refine wpList_zero rfl _ rfl (zeroTab _ _ _ rfl) hM ?_; intro b1 W' hb1 hM'; clear hM tk_b1; have hM := hM'; clear hM') | (refine wpList_lay rfl _ _ _ rfl _ _ rfl _ _ rfl hM 0 rfl (by assumption) (rowTab _ _ rfl) (by omega) ?_ ?_; (first | (intro _ _; rfl) | (intro k _; exact h1 _) | (intro k _; simp only [lay, upd]; (repeat' split) <;> first | exact h1 _ | rfl)); intro W' hM'; clear hM; have hM := hM'; clear hM'; simp only [List.set] at hM) | (go_at_call 50; (with_reducible refine (l00In_any x _ _ _).mono ?_); rintro e W' ⟨rfl, hb'⟩; rw [H1.out]; have hM' := hM.call hb'; clear hM hb'; have hM := hM'; clear hM') | (go_at_call 50; (with_reducible refine (l00In_any y _ _ _).mono ?_); rintro e W' ⟨rfl, hb'⟩; rw [H2.out]; have hM' := hM.call hb'; clear hM hb'; have hM := hM'; clear hM'))
    exact bodyPost_ret (results_at2 rfl _ rfl ((hM.ats 0 _ _ _ rfl).congr (lay_zP _)) (rowTab _ _ rfl) _ rfl) rfl ⟨ret_pas rfl rfl, hM.below⟩
  · have h3 : inB 0 1000 n = false := by simpa [h1, h2] using hno
    have H1 := Lib.hid h1
    have H2 := Lib.hid h2
    have H3 := Lib.hid h3
    clear h1 h2 h3 hno
    rw [Hr.out]
    have tk_b1 : True := trivial
    go_enter Tryd.func15, Tryd.ntmps15
    go_wp2_with (first | (have _t := tk_b1; refine wpList_zero rfl _ rfl (zeroTab _ _ _ rfl) hM ?_; intro b1 W' hb1 hM'; clear hM tk_b1; have hM := hM'; clear hM') | (refine wpList_lay rfl _ _ _ rfl _ _ rfl _ _ rfl hM 0 rfl (by assumption) (rowTab _ _ rfl) (by omega) ?_ ?_; (first | (intro _ _; rfl) | (intro k _; exact h1 _) | (intro k _; simp only [lay, upd]; (repeat' split) <;> first | exact h1 _ | rfl)); intro W' hM'; clear hM; have hM := hM'; clear hM'; simp only [List.set] at hM) | (go_at_call 50; (with_reducible refine (l00In_any x _ _ _).mono ?_); rintro e W' ⟨rfl, hb'⟩; rw [H1.out]; have hM' := hM.call hb'; clear hM hb'; have hM := hM'; clear hM') | (go_at_call 50; (with_reducible refine (l00In_any y _ _ _).mono ?_); rintro e W' ⟨rfl, hb'⟩; rw [H2.out]; have hM' := hM.call hb'; clear hM hb'; have hM := hM'; clear hM') | (go_at_call 51; refine (l01Grass_any _ _).mono ?_; rintro e W' ⟨rfl, hb'⟩; rw [H3.out]; have hM' := hM.call hb'; clear hM hb'; have hM := hM'; clear hM'))
    exact bodyPost_ret (results_at2 rfl _ rfl ((hM.ats 0 _ _ _ rfl).congr (lay_zP _)) (rowTab _ _ rfl) _ rfl) rfl ⟨ret_pas rfl rfl, hM.below⟩

set_option maxRecDepth 100000 in
set_option maxHeartbeats 1000000 in
theorem specPlain_ok (W H : Nat) (n : Int) (hW : 1 ≤ W ∧ W ≤ 10) (hH : 1 ≤ H ∧ H ≤ 10) (hn : 0 ≤ n ∧ n ≤ 1000) (w : World) :
    Calls Tryd.prog 15 #[.int .i64 W, .int .i64 H, .int .i64 n] w fun e w' => e = .returned (pasR (plainT W H n (W * H)) 0) ∧ Below w.heap.size w w' := by
  have hM := Mem.nil w
  have h1 : inB 1 10 (W : Int) = true := inB_yes (by omega)
  have h2 : inB 1 10 (H : Int) = true := inB_yes (by omega)
  have h3 : inB 0 1000 n = true := inB_yes (by omega)
  have H1 := Lib.hid h1
  have H2 := Lib.hid h2
  have H3 := Lib.hid h3
  have c1 : IntKind.i8.wrap (W : Int) = W := IntWalk.i8_in _ (by omega)
  have c2 : IntKind.i8.wrap (H : Int) = H := IntWalk.i8_in _ (by omega)
  have c3 : IntKind.i16.wrap n = n := IntWalk.i16_in _ (by omega)
  clear h1 h2 h3
  have tk_b1 : True := trivial; have tk_b2 : True := trivial
  go_enter Tryd.func15, Tryd.ntmps15
  go_wp2_with (first | (have _t := tk_b1; refine wpList_zero rfl _ rfl (zeroTab _ _ _ rfl) hM ?_; intro b1 W' hb1 hM'; clear hM tk_b1; have hM := hM'; clear hM') | (have _t := tk_b2; refine wpList_zero rfl _ rfl (zeroTab _ _ _ rfl) hM ?_; intro b2 W' hb2 hM'; clear hM tk_b2; have hM := hM'; clear hM') | (refine wpList_lay rfl _ _ _ rfl _ _ rfl _ _ rfl hM 0 rfl (by assumption) (rowTab _ _ rfl) (by omega) ?_ ?_; (first | (intro _ _; rfl) | (intro k _; exact h1 _) | (intro k _; simp only [lay, upd]; (repeat' split) <;> first | exact h1 _ | rfl)); intro W' hM'; clear hM; have hM := hM'; clear hM'; simp only [List.set] at hM) | (refine wpList_build2 rfl _ _ rfl _ _ rfl rfl ?_) | (go_at_call 50; (with_reducible refine (l00In_any (W : Int) _ _ _).mono ?_); rintro e W' ⟨rfl, hb'⟩; rw [H1.out]; have hM' := hM.call hb'; clear hM hb'; have hM := hM'; clear hM') | (go_at_call 50; (with_reducible refine (l00In_any (H : Int) _ _ _).mono ?_); rintro e W' ⟨rfl, hb'⟩; rw [H2.out]; have hM' := hM.call hb'; clear hM hb'; have hM := hM'; clear hM') | (go_at_call 51; refine (l01Grass_any _ _).mono ?_; rintro e W' ⟨rfl, hb'⟩; rw [H3.out]; have hM' := hM.call hb'; clear hM hb'; have hM := hM'; clear hM'))
  have hM0 := hM.re 0 rfl (pas (plainT W H n (0 * W))) (fun k hk => by rw [lay_pas _ _ k hk, Nat.zero_mul, plainT_zero])
  simp only [List.set_cons_zero] at hM0
  clear hM
  go_loopw [9] (fun y wr => ∃ k : Nat, k ≤ H ∧ y = .int .i64 k ∧ Mem w [(b2, 122, pas (plainT W H n (k * W))), (b1, 122, zP)] wr) (fun y _ => H - (intOf y).toNat)
  case atStart => exact ⟨0, by omega, rfl, hM0⟩
  case round =>
    clear hM0
    obtain ⟨k, hk, rfl, hM⟩ := hrel
    by_cases hlt : k < H
    · go_wp2
      go_loopw [10] (fun x wr => ∃ j : Nat, j ≤ W ∧ x = .int .i64 j ∧ Mem w [(b2, 122, pas (plainT W H n (k * W + j))), (b1, 122, zP)] wr) (fun x _ => W - (intOf x).toNat)
      case atStart => exact ⟨0, by omega, rfl, hM⟩
      case round =>
        clear hM
        obtain ⟨j, hj, rfl, hM⟩ := hrel
        by_cases hjl : j < W
        · have lj : (j : Int) < 10 := by omega
          have lk : (k : Int) < 10 := by omega
          go_wp2_with (first | (refine wpList_set1 rfl _ _ _ rfl _ _ rfl _ rfl ?_ hM 0 rfl (by assumption) (cellTab _ rfl) (by omega) ?_; (first | rfl | exact h1 _); intro W' hM'; clear hM; have hM := hM'; clear hM'; simp [List.set, Act.eval] at hM))
          rw [upd_grass _ _ _ (by omega) (by omega), plainT_succ _ _ _ _ _ hjl hW.2 (by omega)] at hM
          go_roundw
          case rel => exact ⟨j + 1, by omega, by go_num, hM⟩
          case measure => simp [intOf]; omega
        · obtain rfl : j = W := by omega
          have e : k * j + j = (k + 1) * j := by rw [Nat.add_mul, Nat.one_mul]
          rw [e] at hM
          clear e
          go_wp2
          go_roundw
          case rel => exact ⟨k + 1, by omega, by go_num, hM⟩
          case measure => simp [intOf]; omega
    · obtain rfl : k = H := by omega
      rw [Nat.mul_comm] at hM
      go_wp2_with (first | (refine wpList_get rfl _ _ rfl _ _ rfl hM 0 rfl (rowTab _ _ rfl) (by omega) ?_) | (refine wpList_lay rfl _ _ _ rfl _ _ rfl _ _ rfl hM 1 rfl (by assumption) (rowTab _ _ rfl) (by omega) ?_ ?_; (first | (intro _ _; rfl) | (intro k _; exact h1 _) | (intro k _; simp only [lay, upd]; (repeat' split) <;> first | exact h1 _ | rfl)); intro W' hM'; clear hM; have hM := hM'; clear hM'; simp only [List.set] at hM))
      exact bodyPost_ret (results_at2 rfl _ rfl ((hM.ats 1 _ _ _ rfl).congr (lay_pas0 _ _)) (rowTab _ _ rfl) _ rfl) rfl ⟨rfl, hM.below⟩

set_option maxRecDepth 100000 in
set_option maxHeartbeats 1000000 in
theorem implPlain_no {a : Nat → Addr} (x y n : Int) (w : World) (hE : Errs a w) (hno : plainOk x y n = false) :
    Calls Tryd.prog 16 #[.int .i64 x, .int .i64 y, .int .i64 n] w fun e w' => e = .returned (plainR x y n) ∧ Below w.heap.size w w' := by
  have hM := Mem.nil w
  rw [plainR_no hno]
  have HE := Lib.hid hE
  clear hE
  by_cases h1 : x < 1
  · have d1 : decide (x < 1) = true := decide_eq_true h1
    clear hno
    have tk_b1 : True := trivial; have tk_b2 : True := trivial
    go_enter Tryd.func16, Tryd.ntmps16
    go_wp2_with (first | (have _t := tk_b1; refine wpList_box1 rfl _ _ rfl _ rfl rfl hM ?_; intro b1 W' hb1 hM'; clear hM tk_b1; have hM := hM'; clear hM') | (have _t := tk_b2; refine wpList_zero rfl _ rfl (zeroTab _ _ _ rfl) hM ?_; intro b2 W' hb2 hM'; clear hM tk_b2; have hM := hM'; clear hM') | (refine wpList_lay rfl _ _ _ rfl _ _ rfl _ _ rfl hM 0 rfl (by assumption) (rowTab _ _ rfl) (by omega) ?_ ?_; (first | (intro _ _; rfl) | (intro k _; exact h1 _) | (intro k _; simp only [lay, upd]; (repeat' split) <;> first | exact h1 _ | rfl)); intro W' hM'; clear hM; have hM := hM'; clear hM'; simp only [List.set] at hM))
    exact bodyPost_ret (results_at2 rfl _ rfl ((hM.ats 0 _ _ _ rfl).congr (lay_zP _)) (rowTab _ _ rfl) _ rfl) rfl ⟨ret_pas rfl rfl, hM.below⟩
  have d1 : decide (x < 1) = false := decide_eq_false h1
  by_cases h2 : 10 < x
  · have d2 : decide (10 < x) = true := decide_eq_true h2
    clear hno
    have tk_b1 : True := trivial; have tk_b2 : True := trivial
    go_enter Tryd.func16, Tryd.ntmps16
    go_wp2_with (first | (have _t := tk_b1; refine wpList_box1 rfl _ _ rfl _ rfl rfl hM ?_; intro b1 W' hb1 hM'; clear hM tk_b1; have hM := hM'; clear hM') | (have _t := tk_b2; refine wpList_zero rfl _ rfl (zeroTab _ _ _ rfl) hM ?_; intro b2 W' hb2 hM'; clear hM tk_b2; have hM := hM'; clear hM') | (refine wpList_lay rfl _ _ _ rfl _ _ rfl _ _ rfl hM 0 rfl (by assumption) (rowTab _ _ rfl) (by omega) ?_ ?_; (first | (intro _ _; rfl) | (intro k _; exact h1 _) | (intro k _; simp only [lay, upd]; (repeat' split) <;> first | exact h1 _ | rfl)); intro W' hM'; clear hM; have hM := hM'; clear hM'; simp only [List.set] at hM))
    exact bodyPost_ret (results_at2 rfl _ rfl ((hM.ats 0 _ _ _ rfl).congr (lay_zP _)) (rowTab _ _ rfl) _ rfl) rfl ⟨ret_pas rfl rfl, hM.below⟩
  have d2 : decide (10 < x) = false := decide_eq_false h2
  by_cases h3 : y < 1
  · have d3 : decide (y < 1) = true := decide_eq_true h3
    clear hno
    have tk_b1 : True := trivial; have tk_b2 : True := trivial
    go_enter Tryd.func16, Tryd.ntmps16
    go_wp2_with (first | (have _t := tk_b1; refine wpList_box1 rfl _ _ rfl _ rfl rfl hM ?_; intro b1 W' hb1 hM'; clear hM tk_b1; have hM := hM'; clear hM') | (have _t := tk_b2; refine wpList_zero rfl _ rfl (zeroTab _ _ _ rfl) hM ?_; intro b2 W' hb2 hM'; clear hM tk_b2; have hM := hM'; clear hM') | (refine wpList_lay rfl _ _ _ rfl _ _ rfl _ _ rfl hM 0 rfl (by assumption) (rowTab _ _ rfl) (by omega) ?_ ?_; (first | (intro _ _; rfl) | (intro k _; exact h1 _) | (intro k _; simp only [lay, upd]; (repeat' split) <;> first | exact h1 _ | rfl)); intro W' hM'; clear hM; have hM := hM'; clear hM'; simp only [List.set] at hM))
    exact bodyPost_ret (results_at2 rfl _ rfl ((hM.ats 0 _ _ _ rfl).congr (lay_zP _)) (rowTab _ _ rfl) _ rfl) rfl ⟨ret_pas rfl rfl, hM.below⟩
  have d3 : decide (y < 1) = false := decide_eq_false h3
  by_cases h4 : 10 < y
  · have d4 : decide (10 < y) = true := decide_eq_true h4
    clear hno
    have tk_b1 : True := trivial; have tk_b2 : True := trivial
    go_enter Tryd.func16, Tryd.ntmps16
    go_wp2_with (first | (have _t := tk_b1; refine wpList_box1 rfl _ _ rfl _ rfl rfl hM ?_; intro b1 W' hb1 hM'; clear hM tk_b1; have hM := hM'; clear hM') | (have _t := tk_b2; refine wpList_zero rfl _ rfl (zeroTab _ _ _ rfl) hM ?_; intro b2 W' hb2 hM'; clear hM tk_b2; have hM := hM'; clear hM') | (refine wpList_lay rfl _ _ _ rfl _ _ rfl _ _ rfl hM 0 rfl (by assumption) (rowTab _ _ rfl) (by omega) ?_ ?_; (first | (intro _ _; rfl) | (intro k _; exact h1 _) | (intro k _; simp only [lay, upd]; (repeat' split) <;> first | exact h1 _ | rfl)); intro W' hM'; clear hM; have hM := hM'; clear hM'; simp only [List.set] at hM))
    exact bodyPost_ret (results_at2 rfl _ rfl ((hM.ats 0 _ _ _ rfl).congr (lay_zP _)) (rowTab _ _ rfl) _ rfl) rfl ⟨ret_pas rfl rfl, hM.below⟩
  have d4 : decide (10 < y) = false := decide_eq_false h4
  have hn : Hid (inB 0 1000 n = false) := Lib.hid (by
    unfold plainOk at hno
    rw [inB_yes (show 1 ≤ x ∧ x ≤ 10 by omega), inB_yes (show 1 ≤ y ∧ y ≤ 10 by omega)] at hno
    simpa using hno)
  clear hno h1 h2 h3 h4
  have tk_b1 : True := trivial; have tk_b2 : True := trivial
  go_enter Tryd.func16, Tryd.ntmps16
  go_wp2_with (first | (have _t := tk_b1; refine wpList_box1 rfl _ _ rfl _ rfl rfl hM ?_; intro b1 W' hb1 hM'; clear hM tk_b1; have hM := hM'; clear hM') | (have _t := tk_b2; refine wpList_zero rfl _ rfl (zeroTab _ _ _ rfl) hM ?_; intro b2 W' hb2 hM'; clear hM tk_b2; have hM := hM'; clear hM') | (refine wpList_lay rfl _ _ _ rfl _ _ rfl _ _ rfl hM 0 rfl (by assumption) (rowTab _ _ rfl) (by omega) ?_ ?_; (first | (intro _ _; rfl) | (intro k _; exact h1 _) | (intro k _; simp only [lay, upd]; (repeat' split) <;> first | exact h1 _ | rfl)); intro W' hM'; clear hM; have hM := hM'; clear hM'; simp only [List.set] at hM) | (refine wpList_get1 rfl _ _ rfl _ _ rfl hM 1 rfl (cellTab _ rfl) (by omega) _ rfl ?_) | (go_at_call 52; refine (checkGrass_no _ _ (HE.out.below hM.below) hn.out).mono ?_; rintro e W' ⟨rfl, hb'⟩; have hM' := hM.call hb'; clear hM hb'; have hM := hM'; clear hM') | (go_at_call 53; (with_reducible refine (codeOf_1 (HE.out.below hM.below)).mono ?_); rintro e W' ⟨rfl, rfl⟩))
  exact bodyPost_ret (results_at2 rfl _ rfl ((hM.ats 0 _ _ _ rfl).congr (lay_zP _)) (rowTab _ _ rfl) _ rfl) rfl ⟨ret_pas rfl rfl, hM.below⟩

/-- The plain pasture when some cells have their grass. -/
def plainS (W H : Nat) (n : Int) (l : List (Nat × Nat)) : Nat → Int := fun p => if p = 0 then W else if p = 1 then H else if p < 102 ∧ ((p - 2) % 10, (p - 2) / 10) ∈ l then n else 0
theorem plainS_nil (W H : Nat) (n : Int) : plainT W H n 0 = plainS W H n [] := by
  funext p; unfold plainT plainS; simp
theorem plainS_all (W H : Nat) (n : Int) (hW : 1 ≤ W) : plainS W H n (upto W (W * H)) = plainT W H n (W * H) := by
  funext p
  unfold plainT plainS
  by_cases h0 : p = 0
  · simp [h0]
  by_cases h1 : p = 1
  · simp [h1]
  simp only [h0, h1, if_false]
  have e : ((p - 2) % 10, (p - 2) / 10) ∈ upto W (W * H) ↔ (p - 2) % 10 < W ∧ (p - 2) / 10 * W + (p - 2) % 10 < W * H := by
    unfold upto cellAt
    rw [List.mem_map]
    constructor
    · rintro ⟨i, hi, hp⟩
      have hi' := List.mem_range.1 hi
      have a1 : i % W = (p - 2) % 10 := congrArg Prod.fst hp
      have a2 : i / W = (p - 2) / 10 := congrArg Prod.snd hp
      have a3 := Nat.mod_lt i (show W > 0 by omega)
      have a4 := Nat.div_add_mod i W
      rw [← a1, ← a2, Nat.mul_comm]
      exact ⟨a3, by rw [a4]; exact hi'⟩
    · rintro ⟨a1, a2⟩
      refine ⟨(p - 2) / 10 * W + (p - 2) % 10, List.mem_range.2 a2, ?_⟩
      exact cellAt_row a1
  by_cases h2 : p < 102
  · simp only [h2, true_and, e]
  · simp [h2]
theorem plainS_succ (W H : Nat) (n : Int) (l : List (Nat × Nat)) (u v : Nat) (hu : u < 10) (hv : v < 10) : setG (plainS W H n l) (2 + v * 10 + u) n = plainS W H n (l ++ [(u, v)]) := by
  funext p
  unfold setG plainS
  by_cases e : p = 2 + v * 10 + u
  · have e1 : (p - 2) % 10 = u := by omega
    have e2 : (p - 2) / 10 = v := by omega
    rw [if_pos e, if_neg (by omega), if_neg (by omega), e1, e2, if_pos ⟨by omega, by simp⟩]
  · rw [if_neg e]
    by_cases h0 : p = 0
    · simp [h0]
    by_cases h1 : p = 1
    · simp [h1]
    simp only [h0, h1, if_false, List.mem_append, List.mem_singleton, Prod.mk.injEq]
    have : ¬ ((p - 2) % 10 = u ∧ (p - 2) / 10 = v) := fun h => by omega
    simp [this]

set_option maxRecDepth 100000 in
set_option maxHeartbeats 2000000 in
theorem implPlain_ok (W H : Nat) (n : Int) (hW : 1 ≤ W ∧ W ≤ 10) (hH : 1 ≤ H ∧ H ≤ 10) (hn : 0 ≤ n ∧ n ≤ 1000) (w : World) :
    Calls Tryd.prog 16 #[.int .i64 W, .int .i64 H, .int .i64 n] w fun e w' => e = .returned (pasR (plainT W H n (W * H)) 0) ∧ Below w.heap.size w w' := by
  have hM := Mem.nil w
  have h3 : inB 0 1000 n = true := inB_yes (by omega)
  have H3 := Lib.hid h3
  have d1 : decide ((W : Int) < 1) = false := decide_eq_false (by omega)
  have d2 : decide (10 < (W : Int)) = false := decide_eq_false (by omega)
  have d3 : decide ((H : Int) < 1) = false := decide_eq_false (by omega)
  have d4 : decide (10 < (H : Int)) = false := decide_eq_false (by omega)
  have c1 : IntKind.i8.wrap (W : Int) = W := IntWalk.i8_in _ (by omega)
  have c2 : IntKind.i8.wrap (H : Int) = H := IntWalk.i8_in _ (by omega)
  have c3 : IntKind.i16.wrap n = n := IntWalk.i16_in _ (by omega)
  have hg0 : plainT W H n 0 0 = W := rfl
  have hg1 : plainT W H n 0 1 = H := rfl
  have HW := Lib.hid hW
  have HH := Lib.hid hH
  clear h3
  refine (callsIn_wide (n := 3)).1 ?_
  refine callsIn_of_wp_marks Tryd.func16 rfl trivial ?_ rfl
  simp only [Tryd.ntmps16, List.size_toArray, List.length_cons, List.length_nil, Nat.reduceAdd, Nat.reduceSub, Array.replicate_succ, Array.replicate_zero, List.push_toArray, List.append_toArray, List.nil_append, List.cons_append]
  refine wpIn_wide.2 ?_
  have tk_b1 : True := trivial; have tk_b2 : True := trivial; have tk_b3 : True := trivial
  go_wp2_with (first | (have _t := tk_b1; refine wpList_box1 rfl _ _ rfl _ rfl rfl hM ?_; intro b1 W' hb1 hM'; clear hM tk_b1; have hM := hM'; clear hM') | (have _t := tk_b2; refine wpList_zero rfl _ rfl (zeroTab _ _ _ rfl) hM ?_; intro b2 W' hb2 hM'; clear hM tk_b2; have hM := hM'; clear hM') | (have _t := tk_b3; refine wpList_zero rfl _ rfl (zeroTab _ _ _ rfl) hM ?_; intro b3 W' hb3 hM'; clear hM tk_b3; have hM := hM'; clear hM') | (refine wpList_lay rfl _ _ _ rfl _ _ rfl _ _ rfl hM 0 rfl (by assumption) (rowTab _ _ rfl) (by omega) ?_ ?_; (first | (intro _ _; rfl) | (intro k _; exact h1 _) | (intro k _; simp only [lay, upd]; (repeat' split) <;> first | exact h1 _ | rfl)); intro W' hM'; clear hM; have hM := hM'; clear hM'; simp only [List.set] at hM) | (refine wpList_get1 rfl _ _ rfl _ _ rfl hM 1 rfl (cellTab _ rfl) (by omega) _ rfl ?_) | (refine wpList_get rfl _ _ rfl _ _ rfl hM 0 rfl (rowTab _ _ rfl) (by omega) ?_) | (refine wpList_build2 rfl _ _ rfl _ _ rfl rfl ?_) | (go_at_call 52; refine (checkGrass_yes _ _ H3.out).mono ?_; rintro e W' ⟨rfl, hb'⟩; have hM' := hM.call hb'; clear hM hb'; have hM := hM'; clear hM'))
  have hl : (arr 122 fun k => lay zP 0 122 (pas (whG (W : Int) (H : Int))) k) = arr 122 (pas (plainT W H n 0)) := arr_congr fun k hk => by rw [lay_pas _ _ k hk, plainT_zero W H n]
  rw [hl]
  clear hl
  refine (cells_any (plainT W H n 0) _).mono ?_
  rintro e W1 ⟨bp, rfl, hbp, hAp, hcb⟩
  have hM1 := hM.re 0 rfl (pas (plainS W H n [])) (fun k hk => by rw [lay_pas _ _ k hk, plainT_zero W H n, plainS_nil])
  have hM2 := Mem.fresh hM1 hcb hAp hbp
  simp only [List.set_cons_zero, List.cons_append, List.nil_append] at hM2
  clear hM hM1 hcb hbp
  go_wp2
  refine (wpIn_wide (n := 3)).1 ?_
  refine range_spots (α := Cell W H) (px := fun c => (c.1.1 : Int)) (py := fun c => (c.1.2 : Int)) (ks := [b3, b2, b1, bp]) (gf := 88) (lb := #[.pointer (some ⟨bp, 0, none⟩)])
    (fun pre => [(b3, 122, pas (plainS W H n (pre.map (·.1)))), (b2, 122, zP), (b1, 1, fun _ => .int .i64 n), (bp, 122, pas (plainT W H n 0))])
    rfl (enters_of Tryd.func88 (by kernel_rfl) rfl) (cells_stops Fence.wide 2 trivial rfl (by omega) bp W H HW.out.2 HH.out.2 _ hg0 hg1 W1 hAp) kpP_t (fun X l o o' h ho => kpP_b X l o o' h ho)
    (fun _ => rfl) (fun _ _ _ _ _ _ _ h2 _ => h2.ats 4 _ _ _ rfl) rfl rfl rfl rfl rfl rfl (by decide) (by simp) (by simp) hM2 ?body ?done
  case body =>
    intro l pre x bx X hbx hM hlen
    obtain ⟨⟨u, v⟩, hu, hv⟩ := x
    simp only at hu hv hM
    have lu : (u : Int) < 10 := by have := HW.out; omega
    have lv : (v : Int) < 10 := by have := HH.out; omega
    clear hM2
    refine wpIn_block ?_
    ((try simp only [Act.put, List.setIfInBounds_toArray, List.set_cons_succ, List.set_cons_zero]); refine region_round_tail (m := 9) (fun ⟨_, _, h⟩ => h) rfl (by kernel_rfl) (by kernel_rfl) ?_; (have hM' := hM.drew); clear hM; have hM := hM'; clear hM'; simp only [List.take_succ_cons, List.take_zero, List.drop_succ_cons, List.drop_zero]; (repeat (refine wps_plain rfl ?_; (first | (refine still_get1 hM _ _ rfl _ _ rfl 0 rfl (cellTab _ rfl) (by omega) (.int .i8 (v : Int)) rfl ?_) | (refine still_get1 hM _ _ rfl _ _ rfl 0 rfl (cellTab _ rfl) (by omega) (.int .i8 (u : Int)) rfl ?_) | (refine still_get1 hM _ _ rfl _ _ rfl 3 rfl (cellTab _ rfl) (by omega) (.int .i64 n) rfl ?_) | (refine still_val ?_; apply Exists.intro; refine ⟨fun W => ?_, ?_⟩; (go_simp; (try simp only [lu, lv, c3, if_true]); rfl))); (simp only [Act.put, List.setIfInBounds_toArray, List.set_cons_succ, List.set_cons_zero]))); unfold wpStill)
    go_wp2_with (first | (refine wpList_set1 rfl _ _ _ rfl _ _ rfl _ rfl ?_ hM 1 rfl (by assumption) (cellTab _ rfl) (by omega) ?_; (first | rfl | exact h1 _); intro W' hM'; clear hM; have hM := hM'; clear hM'; simp [List.set, Act.eval] at hM))
    rw [upd_grass _ _ _ (by omega) (by omega), plainS_succ _ _ _ _ _ _ (by omega) (by omega)] at hM
    show Mem _ _ _
    rw [List.map_append]
    exact hM
  case done =>
    rename_i K7 hK7
    intro D xs X hD hS hM hK
    have hsz : w.heap.size ≤ W1.heap.size := hM2.size
    clear hM2
    rw [hS, plainS_all _ _ _ hW.1] at hM
    have hM' : Mem (Base.round w W1.heap.size X) _ X := hM.base ⟨hM.below, KeepsFrom.refl _ _⟩
    clear hM
    have hM := hM'
    clear hM'
    show K7 _ _
    refine hK7 _ _ ?_
    dsimp only
    go_wp2_with (first | (refine wpList_get rfl _ _ rfl _ _ rfl hM 0 rfl (rowTab _ _ rfl) (by omega) ?_) | (refine wpList_lay rfl _ _ _ rfl _ _ rfl _ _ rfl hM 1 rfl (by assumption) (rowTab _ _ rfl) (by omega) ?_ ?_; (first | (intro _ _; rfl) | (intro k _; exact h1 _) | (intro k _; simp only [lay, upd]; (repeat' split) <;> first | exact h1 _ | rfl)); intro W' hM'; clear hM; have hM := hM'; clear hM'; simp only [List.set] at hM))
    have hK' : W'.heap[D]? = some (.deferred (some [])) := hM.good.2.same D _ hD hK rfl
    exact leave_marks hK' _ (results_at2 rfl _ rfl (at_mark ((hM.ats 1 _ _ _ rfl).congr (lay_pas0 _ _)) hK') (rowTab _ _ rfl) _ rfl) ⟨rfl, below_mark hM.good.1 (Nat.le_trans hsz hD)⟩

theorem plain_cases (x y n : Int) : plainOk x y n = false ∨ ∃ W H : Nat, x = W ∧ y = H ∧ (1 ≤ W ∧ W ≤ 10) ∧ (1 ≤ H ∧ H ≤ 10) ∧ (0 ≤ n ∧ n ≤ 1000) ∧ plainOk x y n = true := by
  cases e : plainOk x y n
  · exact .inl rfl
  · right
    have e' := e
    unfold plainOk at e'
    rw [Bool.and_eq_true, Bool.and_eq_true] at e'
    have h1 := inB_true e'.1.1
    have h2 := inB_true e'.1.2
    have h3 := inB_true e'.2
    exact ⟨x.toNat, y.toNat, by omega, by omega, by omega, by omega, h3, rfl⟩
theorem specPlain_any (x y n : Int) (w : World) :
    Calls Tryd.prog 15 #[.int .i64 x, .int .i64 y, .int .i64 n] w fun e w' => e = .returned (plainR x y n) ∧ Below w.heap.size w w' := by
  rcases plain_cases x y n with h | ⟨W, H, rfl, rfl, hW, hH, hn, h⟩
  · exact specPlain_no x y n w h
  · rw [plainR_ok h]; exact specPlain_ok W H n hW hH hn w
theorem implPlain_any {a : Nat → Addr} (x y n : Int) (w : World) (hE : Errs a w) :
    Calls Tryd.prog 16 #[.int .i64 x, .int .i64 y, .int .i64 n] w fun e w' => e = .returned (plainR x y n) ∧ Below w.heap.size w w' := by
  rcases plain_cases x y n with h | ⟨W, H, rfl, rfl, hW, hH, hn, h⟩
  · exact implPlain_no x y n w hE h
  · rw [plainR_ok h]; exact implPlain_ok W H n hW hH hn w
theorem plainR_is (x y n : Int) : ∃ G c, plainR x y n = .tuple #[.agg (arr 122 (pas G)), .int .i64 c] := by
  unfold plainR; split <;> exact ⟨_, _, rfl⟩

set_option maxRecDepth 100000 in
set_option maxHeartbeats 1000000 in
theorem lawPlainPasture_any {a : Nat → Addr} (x y n : Int) (w : World) (hE : Errs a w) :
    Calls Tryd.prog 3 #[.int .i64 x, .int .i64 y, .int .i64 n] w fun e w' => e = .returned (.bool true) ∧ Below w.heap.size w w' := by
  have hM := Mem.nil w
  have HE := Lib.hid hE
  obtain ⟨G, c, he⟩ := plainR_is x y n
  have He := Lib.hid he
  clear hE he
  have tk_b1 : True := trivial; have tk_b2 : True := trivial
  go_enter Tryd.func3, Tryd.ntmps3
  go_wp2_with (first | (have _t := tk_b1; refine wpList_zero rfl _ rfl (zeroTab _ _ _ rfl) hM ?_; intro b1 W' hb1 hM'; clear hM tk_b1; have hM := hM'; clear hM') | (have _t := tk_b2; refine wpList_zero rfl _ rfl (zeroTab _ _ _ rfl) hM ?_; intro b2 W' hb2 hM'; clear hM tk_b2; have hM := hM'; clear hM') | (refine wpList_lay rfl _ _ _ rfl _ _ rfl _ _ rfl hM 0 rfl (by assumption) (rowTab _ _ rfl) (by omega) ?_ ?_; (first | (intro _ _; rfl) | (intro k _; exact h1 _) | (intro k _; simp only [lay, upd]; (repeat' split) <;> first | exact h1 _ | rfl)); intro W' hM'; clear hM; have hM := hM'; clear hM'; simp only [List.set] at hM) | (refine wpList_get rfl _ _ rfl _ _ rfl hM 0 rfl (rowTab _ _ rfl) (by omega) ?_) | (refine wpList_get rfl _ _ rfl _ _ rfl hM 1 rfl (rowTab _ _ rfl) (by omega) ?_) | (go_at_call 15; refine (specPlain_any x y n _).mono ?_; rintro e W' ⟨rfl, hb'⟩; rw [He.out]; have hM' := hM.call hb'; clear hM hb'; have hM := hM'; clear hM') | (go_at_call 16; refine (implPlain_any x y n _ (HE.out.below hM.below)).mono ?_; rintro e W' ⟨rfl, hb'⟩; rw [He.out]; have hM' := hM.call hb'; clear hM hb'; have hM := hM'; clear hM') | (go_at_call 17; refine (eqP_lay _ _ _ _).mono ?_; rintro e W' ⟨rfl, hb'⟩; have hM' := hM.call hb'; clear hM hb'; have hM := hM'; clear hM'))
  go_ret
  exact ⟨rfl, hM.below⟩
end Go.Proofs.YtdlfhomnlhdacaaDoor
