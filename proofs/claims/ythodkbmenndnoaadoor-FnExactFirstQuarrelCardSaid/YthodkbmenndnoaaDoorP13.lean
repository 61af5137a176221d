/-
  Several texts in one: Int64L, FirstQuarrel.
-/
import Derived.Test.YthodkbmenndnoaaDoorP5
import Derived.Test.YthodkbmenndnoaaDoorP4
import Derived.Test.YthodkbmenndnoaaDoorP8
import Derived.Test.YthodkbmenndnoaaDoorP12
/-
  laws.eqInt64S, markInt64S, heldInt64S over lists that hold room behind their end.
-/
namespace Go.Proofs.YthodkbmenndnoaaDoor
open Go Go.RowKit Go.BigFrame Go.ChangeShapes Go.WideShapes Go.Deep

theorem eqInt64S_zero (a a' : Option Addr) (c c' : Nat) (w : World) : Calls Tryd.prog 22 #[.slice a 0 c, .slice a' 0 c'] w fun e w' => e = .returned (.bool true) ∧ Below w.heap.size w w' := by
  go_enter Tryd.func22, Tryd.ntmps22
  go_wp2
  refine wp_loop_rounds 1 ?_
  rw [rounds_succ]
  go_wp2
  go_ret
  exact ⟨rfl, Below.refl _ _⟩
theorem markInt64S_zero (a : Option Addr) (c : Nat) (k : Int) (w : World) : Calls Tryd.prog 24 #[.slice a 0 c, .int .i64 k] w fun e w' => e = .returned (.int .i64 k) ∧ Below w.heap.size w w' := by
  go_enter Tryd.func24, Tryd.ntmps24
  go_wp2
  refine wp_loop_rounds 1 ?_
  rw [rounds_succ]
  go_wp2
  go_ret
  exact ⟨rfl, Below.refl _ _⟩
theorem heldInt64S_zero (a : Option Addr) (c : Nat) (k : Int) (w : World) : Calls Tryd.prog 25 #[.slice a 0 c, .int .i64 k] w fun e w' => e = .returned (.int .i64 k) ∧ Below w.heap.size w w' := by
  go_enter Tryd.func25, Tryd.ntmps25
  go_wp2
  refine wp_loop_rounds 1 ?_
  rw [rounds_succ]
  go_wp2
  go_ret
  exact ⟨rfl, Below.refl _ _⟩

set_option maxRecDepth 100000 in
set_option maxHeartbeats 1000000 in
/-- eqInt64S of two lists that hold the same. -/
theorem eqInt64S_list (b b' n c c' N N' : Nat) (F F' : Nat → Value) (ys : Nat → Int) (hF : ∀ j, j < n → F j = vInt64S ys j) (hF' : ∀ j, j < n → F' j = vInt64S ys j) (hN : n ≤ N) (hN' : n ≤ N') (hn : n ≤ 1048576) (w : World) (hA : At w b N F) (hA' : At w b' N' F') (hne : b ≠ b') :
    Calls Tryd.prog 22 #[.slice (some ⟨b, 0, none⟩) n c, .slice (some ⟨b', 0, none⟩) n c'] w fun e w' => e = .returned (.bool true) ∧ Below w.heap.size w w' := by
  have hM : Mem w [(b, N, F), (b', N', F')] w := ((Mem.nil w).old hA (fun i p h => by simp at h)).old hA' (fun i p h => by
    match i, h with
    | 0, h => simp at h; rw [← h]; exact hne
    | _ + 1, h => simp at h)
  have Hf := Lib.hid hF
  have Hf' := Lib.hid hF'
  clear hA hA' hF hF'
  go_enter Tryd.func22, Tryd.ntmps22
  go_wp2
  go_loopw [5] (fun i wr => ∃ k : Nat, k ≤ n ∧ i = .int .i64 k ∧ Mem w [(b, N, F), (b', N', F')] wr) (fun i _ => n - (intOf i).toNat)
  case atStart => exact ⟨0, by omega, rfl, hM⟩
  case round =>
    clear hM
    obtain ⟨k, hk, rfl, hM⟩ := hrel
    by_cases hlt : k < n
    · have l2 : (k : Int) < n := by omega
      have c1 : F k = .int .i64 (ys k) := Hf.out k hlt
      have c2 : F' k = .int .i64 (ys k) := Hf'.out k hlt
      have hb : (ys k != ys k) = false := by simp
      go_wp2
      ((try simp only [Act.put, List.setIfInBounds_toArray, List.set_cons_succ, List.set_cons_zero]); refine wp_region_mem (by kernel_rfl) (by kernel_rfl) hM ?_; clear hM; (repeat (first | go_big_quiet_skip | (go_big_quiet_want; first | (refine quiet_get1 _ _ rfl _ _ rfl 1 rfl cellInt64S (by omega) _ c2 ?_; (simp only [Act.put, List.setIfInBounds_toArray, List.set_cons_succ, List.set_cons_zero]); go_big_quiet_on) | (refine quiet_get1 _ _ rfl _ _ rfl 0 rfl cellInt64S (by omega) _ c1 ?_; (simp only [Act.put, List.setIfInBounds_toArray, List.set_cons_succ, List.set_cons_zero]); go_big_quiet_on) | (refine quiet_val ?_; apply Exists.intro; refine ⟨fun W => ?_, ?_⟩; (go_simp; (try simp only [l2, hb, if_true, Bool.false_eq_true, if_false]); rfl); (simp only [Act.put, List.setIfInBounds_toArray, List.set_cons_succ, List.set_cons_zero]); go_big_quiet_on)))); (with_reducible refine wpQuiet_nil ?_); intro W' hM)
      go_wp2
      go_roundw
      case rel => exact ⟨k + 1, by omega, by go_num, hM⟩
      case measure => simp [intOf]; omega
    · obtain rfl : k = n := by omega
      go_wp2
      go_ret
      exact ⟨rfl, hM.below⟩

/-- The mark j, as a cell. -/
def mkInt64 (j : Nat) : Value := .int .i64 (j : Int)
set_option maxRecDepth 100000 in
set_option maxHeartbeats 1000000 in
/-- markInt64S writes its marks into the list. -/
theorem markInt64S_list (b0 : Base) (K : Blocks) (b n c N k0 : Nat) (F : Nat → Value) (hN : n ≤ N) (hn : n ≤ 1048576) (hk0 : k0 ≤ 100000000) (hb : b0.B ≤ b) (w : World) (hM0 : Mem b0 ((b, N, F) :: K) w) :
    Calls Tryd.prog 24 #[.slice (some ⟨b, 0, none⟩) n c, .int .i64 k0] w fun e w' => e = .returned (.int .i64 ((k0 + n : Nat) : Int)) ∧ ∃ G, (∀ j, j < n → G j = mkInt64 (k0 + j)) ∧ Mem b0 ((b, N, G) :: K) w' := by
  have hM := hM0
  clear hM0
  go_enter Tryd.func24, Tryd.ntmps24
  go_wp2
  go_loopw [1, 5] (fun t i wr => ∃ k : Nat, k ≤ n ∧ t = .int .i64 ((k0 + k : Nat) : Int) ∧ i = .int .i64 k ∧ ∃ G, Hid (∀ j, j < k → G j = mkInt64 (k0 + j)) ∧ Mem b0 ((b, N, G) :: K) wr) (fun _ i _ => n - (intOf i).toNat)
  case atStart => exact ⟨0, by omega, by simp, rfl, F, Lib.hid (fun j hj => absurd hj (by omega)), hM⟩
  case round =>
    clear hM
    obtain ⟨k, hk, rfl, rfl, G, hG, hM⟩ := hrel
    by_cases hlt : k < n
    · have l2 : (k : Int) < n := by omega
      obtain ⟨mm, hm⟩ : ∃ m : Nat, m = k0 + k := ⟨_, rfl⟩
      rw [← hm]
      have n1 : IntKind.i64.wrap ((mm : Int) + 1) = (mm : Int) + 1 := IntWalk.i64_in _ (by omega)
      have n2 : IntKind.i64.wrap (mm : Int) = (mm : Int) := IntWalk.i64_in _ (by omega)
      have hl : (mm : Int) + 1 = ((k0 + (k + 1) : Nat) : Int) := by omega
      have Hl := Lib.hid hl
      have Hm := Lib.hid hm
      clear hm hl
      go_wp2_with (first | (refine wpList_set1 rfl _ _ _ rfl _ _ rfl _ rfl ?_ hM 0 rfl (by assumption) (cellTab _ rfl) (by omega) ?_; (first | rfl | exact h1 _); intro W' hM'; clear hM; have hM := hM'; clear hM'; simp [List.set, Act.eval] at hM))
      go_roundw
      case rel => exact ⟨k + 1, by omega, by first | exact congrArg (Value.int .i64) Hl.out | rfl, by go_num, _, Lib.hid (fun j hj => by
        simp only [upd]
        by_cases e0 : j = k
        · rw [if_pos e0, e0, ← Hm.out]; rfl
        · rw [if_neg e0]; exact hG.out j (by omega)), hM⟩
      case measure => simp [intOf]; omega
    · obtain rfl : k = n := by omega
      go_wp2
      go_ret
      exact ⟨rfl, G, hG.out, hM⟩

set_option maxRecDepth 100000 in
set_option maxHeartbeats 1000000 in
/-- heldInt64S finds the marks. -/
theorem heldInt64S_list (b n c N k0 : Nat) (G : Nat → Value) (hN : n ≤ N) (hn : n ≤ 1048576) (hk0 : k0 ≤ 100000000) (hG : ∀ j, j < n → G j = mkInt64 (k0 + j)) (w : World) (hA : At w b N G) :
    Calls Tryd.prog 25 #[.slice (some ⟨b, 0, none⟩) n c, .int .i64 k0] w fun e w' => e = .returned (.int .i64 ((k0 + n : Nat) : Int)) ∧ Below w.heap.size w w' := by
  have hM : Mem w [(b, N, G)] w := (Mem.nil w).old hA (fun i p h => by simp at h)
  have Hg := Lib.hid hG
  clear hA hG
  go_enter Tryd.func25, Tryd.ntmps25
  go_wp2
  go_loopw [1, 5] (fun t i wr => ∃ k : Nat, k ≤ n ∧ t = .int .i64 ((k0 + k : Nat) : Int) ∧ i = .int .i64 k ∧ Mem w [(b, N, G)] wr) (fun _ i _ => n - (intOf i).toNat)
  case atStart => exact ⟨0, by omega, by simp, rfl, hM⟩
  case round =>
    clear hM
    obtain ⟨k, hk, rfl, rfl, hM⟩ := hrel
    by_cases hlt : k < n
    · have l2 : (k : Int) < n := by omega
      obtain ⟨mm, hm⟩ : ∃ m : Nat, m = k0 + k := ⟨_, rfl⟩
      have g0 : G k = .int .i64 (mm : Int) := by rw [Hg.out k hlt, hm]; rfl
      rw [← hm]
      have n1 : IntKind.i64.wrap ((mm : Int) + 1) = (mm : Int) + 1 := IntWalk.i64_in _ (by omega)
      have n2 : IntKind.i64.wrap (mm : Int) = (mm : Int) := IntWalk.i64_in _ (by omega)
      have hl : (mm : Int) + 1 = ((k0 + (k + 1) : Nat) : Int) := by omega
      have Hl := Lib.hid hl
      clear hm hl
      go_wp2_with (first | (refine wpList_get1 rfl _ _ rfl _ _ rfl hM 0 rfl (cellTab _ rfl) (by omega) _ g0 ?_))
      go_roundw
      case rel => exact ⟨k + 1, by omega, by first | exact congrArg (Value.int .i64) Hl.out | rfl, by go_num, hM⟩
      case measure => simp [intOf]; omega
    · obtain rfl : k = n := by omega
      go_wp2
      go_ret
      exact ⟨rfl, hM.below⟩
end Go.Proofs.YthodkbmenndnoaaDoor

/-
  laws.FnExactFirstQuarrel returns true.
-/
namespace Go.Proofs.YthodkbmenndnoaaDoor
open Go Go.RowKit Go.BigFrame Go.ChangeShapes Go.WideShapes Go.Deep

set_option maxRecDepth 100000 in
set_option maxHeartbeats 8000000 in
theorem lawFirstQuarrel_any {a : Nat → Addr} (v0 : Value) (d0 : Hd) (hd0 : FitsH d0) (v1 : Value) (n1 : Nat) (ys1 : Nat → Int) (hn1 : n1 ≤ maxLen) (w : World) (hE : Errs a w ∧ TabQ w) (hG0 : HerdArg w v0 d0)  (hG1 : Arg1 w v1 n1 (vInt64S ys1)) :
    Calls Tryd.prog 11 #[v0, v1] w fun e w' => e = .returned (.bool true) ∧ Below w.heap.size w w' := by
  have hM := Mem.nil w
  have hv0 : ∃ f, v0 = .agg (arr 3 f) := by obtain ⟨v1, v2, v3, e, -⟩ := hG0; exact ⟨_, e⟩
  obtain ⟨f0, rfl⟩ := hv0
  obtain ⟨a1, c1, hv1⟩ : ∃ a c, v1 = .slice a n1 c := by
    rcases hG1 with ⟨h1, h2⟩ | ⟨b, o, c, h, _⟩
    · exact ⟨none, 0, by rw [h2, h1]⟩
    · exact ⟨_, c, h⟩
  subst hv1
  have Hn1 := Lib.hid hn1
  have HG0 := Lib.hid hG0
  have HG1 := Lib.hid hG1
  have HE := Lib.hid hE.1
  have HT := Lib.hid hE.2
  clear hE hG0 hG1
  by_cases hI1 : 1048576 < n1
  · have z1 : decide ((1048576 : Int) < n1) = true := decide_eq_true (by omega)
    have tk_b0 : True := trivial
    go_enter Tryd.func11, Tryd.ntmps11
    go_wp2_with (first | (have _t := tk_b0; refine wpList_box rfl _ _ rfl _ _ rfl hM ?_; intro b0 W' hb0 hM'; clear hM tk_b0; have hM := hM'; clear hM'))
    go_ret
    exact ⟨rfl, hM.below⟩
  have z1 : decide ((1048576 : Int) < n1) = false := decide_eq_false (by omega)
  have hb1 : n1 ≤ 1048576 := by omega
  have tk_b0 : True := trivial; have tk_q0 : True := trivial
  go_enter Tryd.func11, Tryd.ntmps11
  go_wp2_with (first | (have _t := tk_b0; refine wpList_box rfl _ _ rfl _ _ rfl hM ?_; intro b0 W' hb0 hM'; clear hM tk_b0; have hM := hM'; clear hM') | (have _t := tk_q0; refine wpList_get rfl _ _ rfl _ _ rfl hM 0 rfl (rowTab _ _ rfl) (by omega) ?_; simp only [Nat.zero_add]; clear tk_q0))
  go_at_call 15
  refine (szHerd_any _ d0 1048576 hd0 (by omega) (by omega) _ (HG0.out.below hM.below)).mono ?_
  rintro e W' ⟨⟨r0, rfl, rfl | ⟨p0, m0, la0, lb0, lc0⟩⟩, hb⟩
  · have hM' := hM.call hb
    clear hM hb
    go_wp2
    go_ret
    exact ⟨rfl, hM'.below⟩
  have hM' := hM.call hb
  clear hM hb
  have hM := hM'
  clear hM'
  have zz0 : decide (r0 < 0) = false := decide_eq_false (by omega)
  have HA0 : d0.n1 ≤ 1048576 := by omega
  have HB0 : d0.n2 ≤ 1048576 := by omega
  have HC0 : d0.n3 ≤ 1048576 := by omega
  have hS := fun (x0 y0 z0 : Nat) (x1 : Nat) (W : World) (hB0 : Mem W (hdB d0 x0 y0 z0) W) (hB1 : At W x1 n1 (vInt64S ys1)) => specFirstQuarrel_any d0 x0 y0 z0 hd0 x1 n1 ys1 hb1 W hB0 hB1
  have hI := fun (x0 y0 z0 : Nat) (x1 : Nat) (W : World) (hB0 : Mem W (hdB d0 x0 y0 z0) W) (hB1 : At W x1 n1 (vInt64S ys1)) (hE : Errs a W) (hT : TabQ W) => implFirstQuarrel_any (a := a) d0 x0 y0 z0 hd0 x1 n1 ys1 hb1 W hB0 hB1 hE hT
  generalize fqX d0 n1 ys1 = R0 at hS hI
  generalize fqY d0 n1 ys1 = R1 at hS hI
  generalize fqC d0 n1 ys1 = R2 at hS hI
  have Hz : Hid (trip3 R0 R1 R2 = .tuple #[.int .i64 R0, .int .i64 R1, .int .i64 R2]) := Lib.hid rfl
  have HS := Lib.hid hS
  have HI := Lib.hid hI
  clear hS hI
  have tk_t2 : True := trivial; have tk_t3 : True := trivial; have tk_t5 : True := trivial; have tk_t6 : True := trivial; have tk_t8 : True := trivial; have tk_t9 : True := trivial; have tk_x10 : True := trivial; have tk_t11 : True := trivial; have tk_t13 : True := trivial; have tk_t14 : True := trivial; have tk_t15 : True := trivial
  go_wp2_with (first | (have _t := tk_t2; refine wpList_get rfl _ _ rfl _ _ rfl hM 0 rfl (rowTab _ _ rfl) (by omega) ?_; simp only [Nat.zero_add]; clear tk_t2) | (have _t := tk_t3; go_at_call 17; refine (toHerd_any _ d0 HA0 HB0 HC0 _ (HG0.out.below hM.below)).mono ?_; rintro e W' ⟨h1a, h1b, h1c, rfl, g1, g2, g3, hK⟩; have h1ga := Nat.le_trans hM.size g1; have h1gb := Nat.le_trans hM.size g2; have h1gc := Nat.le_trans hM.size g3; have hM' := hM.front hK.below hK (hdB_ge g1 g2 g3); simp only [hdB, List.cons_append, List.nil_append] at hM'; clear hM hK g1 g2 g3; have hM := hM'; clear hM'; clear tk_t3) | (have _t := tk_t5; go_at_call 34; (with_reducible refine (toInt64S_any (.slice a1 n1 c1) n1 ys1 hb1 _ (HG1.out.below hM.below)).mono ?_); rintro e W' ⟨y4, rfl, hy4, hA', hcb⟩; have h2y4 := Nat.le_trans hM.size hy4; have hM' := hM.fresh' hcb hA' hy4; simp only [List.cons_append, List.nil_append] at hM'; clear hM hcb hA'; have hM := hM'; clear hM'; clear tk_t5) | (have _t := tk_t6; go_at_call 40; refine (HS.out h1a h1b h1c y4 _ (three_of hM 0 rfl) (hM.ats 4 _ _ _ rfl)).mono ?_; rintro e W' ⟨rfl, hb'⟩; rw [Hz.out]; have hM' := hM.call hb'; clear hM hb'; have hM := hM'; clear hM'; clear tk_t6) | (have _t := tk_t8; refine wpList_get rfl _ _ rfl _ _ rfl hM 3 rfl (rowTab _ _ rfl) (by omega) ?_; simp only [Nat.zero_add]; clear tk_t8) | (have _t := tk_t9; go_at_call 17; refine (toHerd_any _ d0 HA0 HB0 HC0 _ (HG0.out.below hM.below)).mono ?_; rintro e W' ⟨h7a, h7b, h7c, rfl, g1, g2, g3, hK⟩; have h7ga := Nat.le_trans hM.size g1; have h7gb := Nat.le_trans hM.size g2; have h7gc := Nat.le_trans hM.size g3; have hM' := hM.front hK.below hK (hdB_ge g1 g2 g3); simp only [hdB, List.cons_append, List.nil_append] at hM'; clear hM hK g1 g2 g3; have hM := hM'; clear hM'; clear tk_t9) | (have _t := tk_x10; refine wpList_zero rfl _ rfl (zeroTab _ _ _ rfl) hM ?_; intro x10 W' hx10 hM'; clear hM tk_x10; have hM := hM'; clear hM') | (have _t := tk_t11; refine wpList_lay rfl _ _ _ rfl _ _ rfl _ _ rfl hM 0 rfl (by assumption) (rowTab _ _ rfl) (by omega) (fun k _ => hdV_one _ _ _ _ _) ?_; intro W' hM'; have hM2 := hM'.re 0 rfl (hdV d0 h7a h7b h7c) (fun k hk => by simp [lay, hk]); simp only [List.set] at hM2; clear hM hM'; have hM := hM2; clear hM2; clear tk_t11) | (have _t := tk_t13; go_at_call 34; (with_reducible refine (toInt64S_any (.slice a1 n1 c1) n1 ys1 hb1 _ (HG1.out.below hM.below)).mono ?_); rintro e W' ⟨y12, rfl, hy12, hA', hcb⟩; have h2y12 := Nat.le_trans hM.size hy12; have hM' := hM.fresh' hcb hA' hy12; simp only [List.cons_append, List.nil_append] at hM'; clear hM hcb hA'; have hM := hM'; clear hM'; clear tk_t13) | (have _t := tk_t14; refine wpList_get rfl _ _ rfl _ _ rfl hM 0 rfl (rowTab _ _ rfl) (by omega) ?_; simp only [Nat.zero_add]; clear tk_t14) | (have _t := tk_t15; go_at_call 41; refine (HI.out h7a h7b h7c y12 _ (three_of hM 1 rfl) (hM.ats 9 _ _ _ rfl) (HE.out.below hM.below) (HT.out.below hM.below)).mono ?_; rintro e W' ⟨rfl, hb'⟩; rw [Hz.out]; have hM' := hM.call hb'; clear hM hb'; have hM := hM'; clear hM'; clear tk_t15))
  ((try simp only [Act.put, List.setIfInBounds_toArray, List.set_cons_succ, List.set_cons_zero]); refine region_reads [0, 1] #[true, true, false, false, false] 3 (by kernel_rfl) (by kernel_rfl) (by kernel_rfl) hM ?_; clear hM; (repeat (refine qs_plain rfl rfl ?_; first | (refine b_get _ _ rfl _ _ rfl 0 rfl (rowTab _ _ rfl) (by omega) ?_; (try simp only [Act.put, List.setIfInBounds_toArray, List.set_cons_succ, List.set_cons_zero])) | (refine b_get _ _ rfl _ _ rfl 7 rfl (rowTab _ _ rfl) (by omega) ?_; (try simp only [Act.put, List.setIfInBounds_toArray, List.set_cons_succ, List.set_cons_zero])))); (with_reducible refine qs_nil ?_))
  (refine mix_one (i := 2) (by kernel_rfl) rfl (by kernel_rfl) rfl ?_)
  (refine step_call_more (β := Nat × Nat × Nat) (fun y => .agg (arr 3 (hdV d0 y.1 y.2.1 y.2.2))) (fun y => hdB d0 y.1 y.2.1 y.2.2) (fun _ => True) ?_; apply Exists.intro; apply Exists.intro; refine ⟨fun W => ?_, fun W hM => ?_, ?_⟩; (go_simp; exact ⟨rfl, rfl⟩); (exact (toHerd_any _ d0 HA0 HB0 HC0 W (HG0.out.below hM.below)).mono fun e w' ⟨y1, y2, y3, he, g1, g2, g3, hK⟩ => ⟨(y1, y2, y3), he, trivial, hM.front hK.below hK (hdB_ge g1 g2 g3)⟩); rintro ⟨j16a, j16b, j16c⟩ -; (try simp only [Act.put, List.setIfInBounds_toArray, List.set_cons_succ, List.set_cons_zero]))
  (refine mix_one (i := 3) (by kernel_rfl) rfl (by kernel_rfl) rfl ?_)
  (refine step_call ?_; apply Exists.intro; apply Exists.intro; apply Exists.intro; refine ⟨fun W => ?_, fun W hM => ?_, ?_⟩; (go_simp; exact ⟨rfl, rfl⟩); (exact eqHerd_same d0 h7a h7b h7c j16a j16b j16c hd0.l1 hd0.l2 hd0.l3 W (hM.ats 4 _ _ _ rfl) (hM.ats 5 _ _ _ rfl) (hM.ats 6 _ _ _ rfl) (hM.ats 0 _ _ _ rfl) (hM.ats 1 _ _ _ rfl) (hM.ats 2 _ _ _ rfl) (hM.apart 4 0 _ _ rfl rfl (by omega)) (hM.apart 5 1 _ _ rfl rfl (by omega)) (hM.apart 6 2 _ _ rfl rfl (by omega))); (try simp only [Act.put, List.setIfInBounds_toArray, List.set_cons_succ, List.set_cons_zero]))
  (refine mix_one (i := 4) (by kernel_rfl) rfl (by kernel_rfl) rfl ?_)
  (refine step_val ?_; apply Exists.intro; refine ⟨fun W => ?_, ?_⟩; (go_simp; rfl); (simp only [Act.put, List.setIfInBounds_toArray, List.set_cons_succ, List.set_cons_zero]))
  (refine mix_end (by kernel_rfl) ?_; intro W' hM)
  simp only [hdB, List.cons_append, List.nil_append] at hM
  have tk_t18 : True := trivial; have tk_t19 : True := trivial
  go_wp2_with (first | (have _t := tk_t18; go_at_call 34; (with_reducible refine (toInt64S_any (.slice a1 n1 c1) n1 ys1 hb1 _ (HG1.out.below hM.below)).mono ?_); rintro e W' ⟨y17, rfl, hy17, hA', hcb⟩; have h2y17 := Nat.le_trans hM.size hy17; have hM' := hM.fresh' hcb hA' hy17; simp only [List.cons_append, List.nil_append] at hM'; clear hM hcb hA'; have hM := hM'; clear hM'; clear tk_t18) | (have _t := tk_t19; go_at_call 22; (with_reducible refine (eqInt64S_same _ _ n1 n1 n1 ys1 Hn1.out _ (hM.ats 12 _ _ _ rfl) (hM.ats 13 _ _ _ rfl) (hM.apart 12 13 _ _ rfl rfl (by omega))).mono ?_); rintro e W' ⟨rfl, hb'⟩; have hM' := hM.call hb'; clear hM hb'; have hM := hM'; clear hM'; clear tk_t19))
  go_ret
  exact ⟨rfl, hM.below⟩
end Go.Proofs.YthodkbmenndnoaaDoor

