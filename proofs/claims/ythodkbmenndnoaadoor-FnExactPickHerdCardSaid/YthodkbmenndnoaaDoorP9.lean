/-
  Several texts in one: Uint16SL, MarkHerd, NewH, HerdOf.
-/
import Derived.Test.YthodkbmenndnoaaDoorP2
import Derived.Test.YthodkbmenndnoaaDoorP4
import Derived.Test.YthodkbmenndnoaaDoorP8
import Derived.Test.YthodkbmenndnoaaDoorP3
import Derived.Test.YthodkbmenndnoaaDoorP7
import Derived.Test.YthodkbmenndnoaaDoorP6
import Derived.Deep.Upon
/-
  laws.eqUint16S, markUint16S, heldUint16S over lists that hold room behind their end.
-/
namespace Go.Proofs.YthodkbmenndnoaaDoor
open Go Go.RowKit Go.BigFrame Go.ChangeShapes Go.WideShapes Go.Deep

theorem eqUint16S_zero (a a' : Option Addr) (c c' : Nat) (w : World) : Calls Tryd.prog 61 #[.slice a 0 c, .slice a' 0 c'] w fun e w' => e = .returned (.bool true) ∧ Below w.heap.size w w' := by
  go_enter Tryd.func61, Tryd.ntmps61
  go_wp2
  refine wp_loop_rounds 1 ?_
  rw [rounds_succ]
  go_wp2
  go_ret
  exact ⟨rfl, Below.refl _ _⟩
theorem markUint16S_zero (a : Option Addr) (c : Nat) (k : Int) (w : World) : Calls Tryd.prog 69 #[.slice a 0 c, .int .i64 k] w fun e w' => e = .returned (.int .i64 k) ∧ Below w.heap.size w w' := by
  go_enter Tryd.func69, Tryd.ntmps69
  go_wp2
  refine wp_loop_rounds 1 ?_
  rw [rounds_succ]
  go_wp2
  go_ret
  exact ⟨rfl, Below.refl _ _⟩
theorem heldUint16S_zero (a : Option Addr) (c : Nat) (k : Int) (w : World) : Calls Tryd.prog 77 #[.slice a 0 c, .int .i64 k] w fun e w' => e = .returned (.int .i64 k) ∧ Below w.heap.size w w' := by
  go_enter Tryd.func77, Tryd.ntmps77
  go_wp2
  refine wp_loop_rounds 1 ?_
  rw [rounds_succ]
  go_wp2
  go_ret
  exact ⟨rfl, Below.refl _ _⟩

set_option maxRecDepth 100000 in
set_option maxHeartbeats 1000000 in
/-- eqUint16S of two lists that hold the same. -/
theorem eqUint16S_list (b b' n c c' N N' : Nat) (F F' : Nat → Value) (ys : Nat → Int) (hF : ∀ j, j < n → F j = vUint16S ys j) (hF' : ∀ j, j < n → F' j = vUint16S ys j) (hN : n ≤ N) (hN' : n ≤ N') (hn : n ≤ 1048576) (w : World) (hA : At w b N F) (hA' : At w b' N' F') (hne : b ≠ b') :
    Calls Tryd.prog 61 #[.slice (some ⟨b, 0, none⟩) n c, .slice (some ⟨b', 0, none⟩) n c'] w fun e w' => e = .returned (.bool true) ∧ Below w.heap.size w w' := by
  have hM : Mem w [(b, N, F), (b', N', F')] w := ((Mem.nil w).old hA (fun i p h => by simp at h)).old hA' (fun i p h => by
    match i, h with
    | 0, h => simp at h; rw [← h]; exact hne
    | _ + 1, h => simp at h)
  have Hf := Lib.hid hF
  have Hf' := Lib.hid hF'
  clear hA hA' hF hF'
  go_enter Tryd.func61, Tryd.ntmps61
  go_wp2
  go_loopw [5] (fun i wr => ∃ k : Nat, k ≤ n ∧ i = .int .i64 k ∧ Mem w [(b, N, F), (b', N', F')] wr) (fun i _ => n - (intOf i).toNat)
  case atStart => exact ⟨0, by omega, rfl, hM⟩
  case round =>
    clear hM
    obtain ⟨k, hk, rfl, hM⟩ := hrel
    by_cases hlt : k < n
    · have l2 : (k : Int) < n := by omega
      have c1 : F k = .int .u16 (ys k) := Hf.out k hlt
      have c2 : F' k = .int .u16 (ys k) := Hf'.out k hlt
      have hb : (ys k != ys k) = false := by simp
      go_wp2
      ((try simp only [Act.put, List.setIfInBounds_toArray, List.set_cons_succ, List.set_cons_zero]); refine wp_region_mem (by kernel_rfl) (by kernel_rfl) hM ?_; clear hM; (repeat (first | go_big_quiet_skip | (go_big_quiet_want; first | (refine quiet_get1 _ _ rfl _ _ rfl 1 rfl cellUint16S (by omega) _ c2 ?_; (simp only [Act.put, List.setIfInBounds_toArray, List.set_cons_succ, List.set_cons_zero]); go_big_quiet_on) | (refine quiet_get1 _ _ rfl _ _ rfl 0 rfl cellUint16S (by omega) _ c1 ?_; (simp only [Act.put, List.setIfInBounds_toArray, List.set_cons_succ, List.set_cons_zero]); go_big_quiet_on) | (refine quiet_val ?_; apply Exists.intro; refine ⟨fun W => ?_, ?_⟩; (go_simp; (try simp only [l2, hb, if_true, Bool.false_eq_true, if_false]); rfl); (simp only [Act.put, List.setIfInBounds_toArray, List.set_cons_succ, List.set_cons_zero]); go_big_quiet_on)))); (with_reducible refine wpQuiet_nil ?_); intro W' hM)
      go_wp2
      go_roundw
      case rel => exact ⟨k + 1, by omega, by go_num, hM⟩
      case measure => simp [intOf]; omega
    · obtain rfl : k = n := by omega
      go_wp2
      go_ret
      exact ⟨rfl, hM.below⟩

/-- The mark j, as a cell. -/
def mkUint16 (j : Nat) : Value := .int .u16 (IntKind.u16.wrap (j : Int))
set_option maxRecDepth 100000 in
set_option maxHeartbeats 1000000 in
/-- markUint16S writes its marks into the list. -/
theorem markUint16S_list (b0 : Base) (K : Blocks) (b n c N k0 : Nat) (F : Nat → Value) (hN : n ≤ N) (hn : n ≤ 1048576) (hk0 : k0 ≤ 100000000) (hb : b0.B ≤ b) (w : World) (hM0 : Mem b0 ((b, N, F) :: K) w) :
    Calls Tryd.prog 69 #[.slice (some ⟨b, 0, none⟩) n c, .int .i64 k0] w fun e w' => e = .returned (.int .i64 ((k0 + n : Nat) : Int)) ∧ ∃ G, (∀ j, j < n → G j = mkUint16 (k0 + j)) ∧ Mem b0 ((b, N, G) :: K) w' := by
  have hM := hM0
  clear hM0
  go_enter Tryd.func69, Tryd.ntmps69
  go_wp2
  go_loopw [1, 5] (fun t i wr => ∃ k : Nat, k ≤ n ∧ t = .int .i64 ((k0 + k : Nat) : Int) ∧ i = .int .i64 k ∧ ∃ G, Hid (∀ j, j < k → G j = mkUint16 (k0 + j)) ∧ Mem b0 ((b, N, G) :: K) wr) (fun _ i _ => n - (intOf i).toNat)
  case atStart => exact ⟨0, by omega, by simp, rfl, F, Lib.hid (fun j hj => absurd hj (by omega)), hM⟩
  case round =>
    clear hM
    obtain ⟨k, hk, rfl, rfl, G, hG, hM⟩ := hrel
    by_cases hlt : k < n
    · have l2 : (k : Int) < n := by omega
      obtain ⟨mm, hm⟩ : ∃ m : Nat, m = k0 + k := ⟨_, rfl⟩
      rw [← hm]
      have n1 : IntKind.i64.wrap ((mm : Int) + 1) = (mm : Int) + 1 := IntWalk.i64_in _ (by omega)
      have n2 : IntKind.i64.wrap (mm : Int) = (mm : Int) := IntWalk.i64_in _ (by omega)
      have hl : (mm : Int) + 1 = ((k0 + (k + 1) : Nat) : Int) := by omega
      obtain ⟨xx, hxx⟩ : ∃ x, IntKind.u16.wrap (mm : Int) = x := ⟨_, rfl⟩
      have Hxx := Lib.hid hxx
      have Hl := Lib.hid hl
      have Hm := Lib.hid hm
      clear hm hl
      go_wp2_with (first | (refine wpList_set1 rfl _ _ _ rfl _ _ rfl _ rfl ?_ hM 0 rfl (by assumption) (cellTab _ rfl) (by omega) ?_; (first | rfl | exact h1 _); intro W' hM'; clear hM; have hM := hM'; clear hM'; simp [List.set, Act.eval] at hM))
      go_roundw
      case rel => exact ⟨k + 1, by omega, by first | exact congrArg (Value.int .i64) Hl.out | rfl, by go_num, _, Lib.hid (fun j hj => by
        simp only [upd]
        by_cases e0 : j = k
        · rw [if_pos e0, e0, ← Hm.out]; exact congrArg (Value.int .u16) Hxx.out.symm
        · rw [if_neg e0]; exact hG.out j (by omega)), hM⟩
      case measure => simp [intOf]; omega
    · obtain rfl : k = n := by omega
      go_wp2
      go_ret
      exact ⟨rfl, G, hG.out, hM⟩

set_option maxRecDepth 100000 in
set_option maxHeartbeats 1000000 in
/-- heldUint16S finds the marks. -/
theorem heldUint16S_list (b n c N k0 : Nat) (G : Nat → Value) (hN : n ≤ N) (hn : n ≤ 1048576) (hk0 : k0 ≤ 100000000) (hG : ∀ j, j < n → G j = mkUint16 (k0 + j)) (w : World) (hA : At w b N G) :
    Calls Tryd.prog 77 #[.slice (some ⟨b, 0, none⟩) n c, .int .i64 k0] w fun e w' => e = .returned (.int .i64 ((k0 + n : Nat) : Int)) ∧ Below w.heap.size w w' := by
  have hM : Mem w [(b, N, G)] w := (Mem.nil w).old hA (fun i p h => by simp at h)
  have Hg := Lib.hid hG
  clear hA hG
  go_enter Tryd.func77, Tryd.ntmps77
  go_wp2
  go_loopw [1, 5] (fun t i wr => ∃ k : Nat, k ≤ n ∧ t = .int .i64 ((k0 + k : Nat) : Int) ∧ i = .int .i64 k ∧ Mem w [(b, N, G)] wr) (fun _ i _ => n - (intOf i).toNat)
  case atStart => exact ⟨0, by omega, by simp, rfl, hM⟩
  case round =>
    clear hM
    obtain ⟨k, hk, rfl, rfl, hM⟩ := hrel
    by_cases hlt : k < n
    · have l2 : (k : Int) < n := by omega
      obtain ⟨mm, hm⟩ : ∃ m : Nat, m = k0 + k := ⟨_, rfl⟩
      obtain ⟨xx, hxx⟩ : ∃ x, IntKind.u16.wrap (mm : Int) = x := ⟨_, rfl⟩
      have g0 : G k = .int .u16 xx := by rw [Hg.out k hlt, ← hxx, hm]; rfl
      have nx : (xx != xx) = false := by simp
      rw [← hm]
      have n1 : IntKind.i64.wrap ((mm : Int) + 1) = (mm : Int) + 1 := IntWalk.i64_in _ (by omega)
      have n2 : IntKind.i64.wrap (mm : Int) = (mm : Int) := IntWalk.i64_in _ (by omega)
      have hl : (mm : Int) + 1 = ((k0 + (k + 1) : Nat) : Int) := by omega
      have Hl := Lib.hid hl
      clear hm hl
      go_wp2_with (first | (refine wpList_get1 rfl _ _ rfl _ _ rfl hM 0 rfl (cellTab _ rfl) (by omega) _ g0 ?_))
      go_roundw
      case rel => exact ⟨k + 1, by omega, by first | exact congrArg (Value.int .i64) Hl.out | rfl, by go_num, hM⟩
      case measure => simp [intOf]; omega
    · obtain rfl : k = n := by omega
      go_wp2
      go_ret
      exact ⟨rfl, hM.below⟩
end Go.Proofs.YthodkbmenndnoaaDoor

/-
  laws.markHerd, heldHerd over herds whose lists hold room.
-/
namespace Go.Proofs.YthodkbmenndnoaaDoor
open Go Go.RowKit Go.BigFrame

set_option maxRecDepth 100000 in
set_option maxHeartbeats 1000000 in
theorem markHerd_any (b0 : Base) (K : Blocks) (e1 e2 e3 n1 n2 n3 c1 c2 c3 N1 N2 N3 k0 : Nat) (F1 F2 F3 hv : Nat → Value) (a1 : hv 0 = .slice (some ⟨e1, 0, none⟩) n1 c1) (a2 : hv 1 = .slice (some ⟨e2, 0, none⟩) n2 c2) (a3 : hv 2 = .slice (some ⟨e3, 0, none⟩) n3 c3)
    (hN1 : n1 ≤ N1) (hN2 : n2 ≤ N2) (hN3 : n3 ≤ N3) (hn1 : n1 ≤ 1048576) (hn2 : n2 ≤ 1048576) (hn3 : n3 ≤ 1048576) (hk0 : k0 ≤ 50000000) (h1 : b0.B ≤ e1) (h2 : b0.B ≤ e2) (h3 : b0.B ≤ e3) (w : World) (hM0 : Mem b0 ((e1, N1, F1) :: (e2, N2, F2) :: (e3, N3, F3) :: K) w) :
    Calls Tryd.prog 23 #[.agg (arr 3 hv), .int .i64 k0] w fun e w' => e = .returned (.int .i64 ((k0 + n1 + n2 + n3 : Nat) : Int)) ∧ ∃ G1 G2 G3, (∀ j, j < n1 → G1 j = mkString (k0 + j)) ∧ (∀ j, j < n2 → G2 j = mkInt16 (k0 + n1 + j)) ∧ (∀ j, j < n3 → G3 j = mkUint16 (k0 + n1 + n2 + j)) ∧ Mem b0 ((e1, N1, G1) :: (e2, N2, G2) :: (e3, N3, G3) :: K) w' := by
  have hM := hM0
  clear hM0
  obtain ⟨k1, hk1⟩ : ∃ q : Nat, q = k0 + n1 := ⟨_, rfl⟩
  obtain ⟨k2, hk2⟩ : ∃ q : Nat, q = k1 + n2 := ⟨_, rfl⟩
  obtain ⟨k3, hk3⟩ : ∃ q : Nat, q = k2 + n3 := ⟨_, rfl⟩
  rw [← hk1, ← hk2, ← hk3]
  have b1 : k1 ≤ 100000000 := by omega
  have b2 : k2 ≤ 100000000 := by omega
  have b00 : k0 ≤ 100000000 := by omega
  have HK1 := Lib.hid hk1
  have HK2 := Lib.hid hk2
  have HK3 := Lib.hid hk3
  clear hk1 hk2 hk3
  have tk_x1 : True := trivial; have tk_m1 : True := trivial; have tk_m2 : True := trivial; have tk_m3 : True := trivial
  go_enter Tryd.func23, Tryd.ntmps23
  go_wp2_with (first | (have _t := tk_x1; refine wpList_box rfl _ _ rfl _ _ rfl hM ?_; intro x1 W' hx1 hM'; clear hM tk_x1; have hM := hM'; clear hM') | (refine wpList_get1 rfl _ _ rfl _ _ rfl hM 0 rfl (cellTab _ rfl) (by omega) _ a1 ?_) | (refine wpList_get1 rfl _ _ rfl _ _ rfl hM 1 rfl (cellTab _ rfl) (by omega) _ a2 ?_) | (refine wpList_get1 rfl _ _ rfl _ _ rfl hM 2 rfl (cellTab _ rfl) (by omega) _ a3 ?_) | (have _t := tk_m1; go_at_call 67; have hMf := hM.toFront 1 rfl; simp only [List.eraseIdx_cons_succ, List.eraseIdx_cons_zero] at hMf; refine (markStringS_list b0 _ e1 n1 c1 N1 k0 F1 hN1 hn1 b00 h1 _ hMf).mono ?_; clear hMf; rintro e W' ⟨rfl, G1, hG1, hM'⟩; rw [← HK1.out]; have HG1 := Lib.hid hG1; clear hM hG1 tk_m1; have hM := hM'; clear hM') | (have _t := tk_m2; go_at_call 68; have hMf := hM.toFront 2 rfl; simp only [List.eraseIdx_cons_succ, List.eraseIdx_cons_zero] at hMf; refine (markInt16S_list b0 _ e2 n2 c2 N2 k1 F2 hN2 hn2 b1 h2 _ hMf).mono ?_; clear hMf; rintro e W' ⟨rfl, G2, hG2, hM'⟩; rw [← HK2.out]; have HG2 := Lib.hid hG2; clear hM hG2 tk_m2; have hM := hM'; clear hM') | (have _t := tk_m3; go_at_call 69; have hMf := hM.toFront 3 rfl; simp only [List.eraseIdx_cons_succ, List.eraseIdx_cons_zero] at hMf; refine (markUint16S_list b0 _ e3 n3 c3 N3 k2 F3 hN3 hn3 b2 h3 _ hMf).mono ?_; clear hMf; rintro e W' ⟨rfl, G3, hG3, hM'⟩; rw [← HK3.out]; have HG3 := Lib.hid hG3; clear hM hG3 tk_m3; have hM := hM'; clear hM'))
  have hA := hM.toFront 3 rfl
  simp only [List.eraseIdx_cons_succ, List.eraseIdx_cons_zero] at hA
  have hB := hA.drop.toFront 1 rfl
  simp only [List.eraseIdx_cons_succ, List.eraseIdx_cons_zero] at hB
  have hC := hB.toFront 2 rfl
  simp only [List.eraseIdx_cons_succ, List.eraseIdx_cons_zero] at hC
  go_ret
  exact ⟨rfl, G1, G2, G3, HG1.out, HG2.out, HG3.out, hC⟩

set_option maxRecDepth 100000 in
set_option maxHeartbeats 1000000 in
theorem heldHerd_any (e1 e2 e3 n1 n2 n3 c1 c2 c3 N1 N2 N3 k0 : Nat) (G1 G2 G3 hv : Nat → Value) (a1 : hv 0 = .slice (some ⟨e1, 0, none⟩) n1 c1) (a2 : hv 1 = .slice (some ⟨e2, 0, none⟩) n2 c2) (a3 : hv 2 = .slice (some ⟨e3, 0, none⟩) n3 c3)
    (hN1 : n1 ≤ N1) (hN2 : n2 ≤ N2) (hN3 : n3 ≤ N3) (hn1 : n1 ≤ 1048576) (hn2 : n2 ≤ 1048576) (hn3 : n3 ≤ 1048576) (hk0 : k0 ≤ 50000000)
    (g1 : ∀ j, j < n1 → G1 j = mkString (k0 + j)) (g2 : ∀ j, j < n2 → G2 j = mkInt16 (k0 + n1 + j)) (g3 : ∀ j, j < n3 → G3 j = mkUint16 (k0 + n1 + n2 + j)) (w : World) (A1 : At w e1 N1 G1) (A2 : At w e2 N2 G2) (A3 : At w e3 N3 G3) :
    Calls Tryd.prog 30 #[.agg (arr 3 hv), .int .i64 k0] w fun e w' => e = .returned (.int .i64 ((k0 + n1 + n2 + n3 : Nat) : Int)) ∧ Below w.heap.size w w' := by
  have hM := Mem.nil w
  obtain ⟨k1, hk1⟩ : ∃ q : Nat, q = k0 + n1 := ⟨_, rfl⟩
  obtain ⟨k2, hk2⟩ : ∃ q : Nat, q = k1 + n2 := ⟨_, rfl⟩
  obtain ⟨k3, hk3⟩ : ∃ q : Nat, q = k2 + n3 := ⟨_, rfl⟩
  rw [← hk1] at g2 g3
  rw [← hk2] at g3
  rw [← hk1, ← hk2, ← hk3]
  have b1 : k1 ≤ 100000000 := by omega
  have b2 : k2 ≤ 100000000 := by omega
  have b00 : k0 ≤ 100000000 := by omega
  have hd1 : decide ((k1 : Int) < 0) = false := decide_eq_false (by omega)
  have hn1' : ¬ (k1 : Int) < 0 := by omega
  have hd2 : decide ((k2 : Int) < 0) = false := decide_eq_false (by omega)
  have hn2' : ¬ (k2 : Int) < 0 := by omega
  have hd3 : decide ((k3 : Int) < 0) = false := decide_eq_false (by omega)
  have hn3' : ¬ (k3 : Int) < 0 := by omega
  have HK1 := Lib.hid hk1
  have HK2 := Lib.hid hk2
  have HK3 := Lib.hid hk3
  have HG1 := Lib.hid g1
  have HG2 := Lib.hid g2
  have HG3 := Lib.hid g3
  have HA1 := Lib.hid A1
  have HA2 := Lib.hid A2
  have HA3 := Lib.hid A3
  clear hk1 hk2 hk3 g1 g2 g3 A1 A2 A3
  have tk_x1 : True := trivial; have tk_m1 : True := trivial; have tk_m2 : True := trivial; have tk_m3 : True := trivial
  go_enter Tryd.func30, Tryd.ntmps30
  go_wp2_with (first | (have _t := tk_x1; refine wpList_box rfl _ _ rfl _ _ rfl hM ?_; intro x1 W' hx1 hM'; clear hM tk_x1; have hM := hM'; clear hM') | (refine wpList_get1 rfl _ _ rfl _ _ rfl hM 0 rfl (cellTab _ rfl) (by omega) _ a1 ?_) | (refine wpList_get1 rfl _ _ rfl _ _ rfl hM 0 rfl (cellTab _ rfl) (by omega) _ a2 ?_) | (refine wpList_get1 rfl _ _ rfl _ _ rfl hM 0 rfl (cellTab _ rfl) (by omega) _ a3 ?_) | (have _t := tk_m1; go_at_call 75; refine (heldStringS_list e1 n1 c1 N1 k0 G1 hN1 hn1 b00 HG1.out _ (HA1.out.below hM.below HA1.out.lt)).mono ?_; rintro e W' ⟨rfl, hb'⟩; rw [← HK1.out]; have hM' := hM.call hb'; clear hM hb' tk_m1; have hM := hM'; clear hM') | (have _t := tk_m2; go_at_call 76; refine (heldInt16S_list e2 n2 c2 N2 k1 G2 hN2 hn2 b1 HG2.out _ (HA2.out.below hM.below HA2.out.lt)).mono ?_; rintro e W' ⟨rfl, hb'⟩; rw [← HK2.out]; have hM' := hM.call hb'; clear hM hb' tk_m2; have hM := hM'; clear hM') | (have _t := tk_m3; go_at_call 77; refine (heldUint16S_list e3 n3 c3 N3 k2 G3 hN3 hn3 b2 HG3.out _ (HA3.out.below hM.below HA3.out.lt)).mono ?_; rintro e W' ⟨rfl, hb'⟩; rw [← HK3.out]; have hM' := hM.call hb'; clear hM hb' tk_m3; have hM := hM'; clear hM'))
  go_ret
  exact ⟨rfl, hM.below⟩
end Go.Proofs.YthodkbmenndnoaaDoor

/-
  PLAIN: what a call gives that returns a herd and a code: three lists of no element, or the first cells of three new blocks.
-/
namespace Go.Proofs.YthodkbmenndnoaaDoor
open Go Go.RowKit Go.Deep

/-- The lists of a herd of n goats in memory. -/
def NewH (n : Nat) (R1 R2 R3 : Nat → Value) (w : World) (f : Nat → Value) (w' : World) : Prop :=
  (n = 0 ∧ (∃ a1 c1 a2 c2 a3 c3, f = h3 (.slice a1 0 c1) (.slice a2 0 c2) (.slice a3 0 c3)) ∧ Below w.heap.size w w') ∨
  ∃ b1 c1 N1 F1 b2 c2 N2 F2 b3 c3 N3 F3, f = h3 (.slice (some ⟨b1, 0, none⟩) n c1) (.slice (some ⟨b2, 0, none⟩) n c2) (.slice (some ⟨b3, 0, none⟩) n c3) ∧ (w.heap.size ≤ b1 ∧ w.heap.size ≤ b2 ∧ w.heap.size ≤ b3) ∧ (n ≤ N1 ∧ n ≤ N2 ∧ n ≤ N3) ∧ ((∀ j, j < n → F1 j = R1 j) ∧ (∀ j, j < n → F2 j = R2 j) ∧ ∀ j, j < n → F3 j = R3 j) ∧ Mem w [(b1, N1, F1), (b2, N2, F2), (b3, N3, F3)] w'
def GivesH (n : Nat) (R1 R2 R3 : Nat → Value) (cc : Int) (w : World) (e : Ending) (w' : World) : Prop := ∃ f, e = .returned (.tuple #[.agg (arr 3 f), .int .i64 cc]) ∧ NewH n R1 R2 R3 w f w'
theorem h3_one {a b c : Value} (ha : a.oneCell' = true) (hb : b.oneCell' = true) (hc : c.oneCell' = true) (k : Nat) : (h3 a b c k).oneCell' = true := by
  unfold h3
  (repeat' split) <;> assumption
theorem NewH.below {n : Nat} {R1 R2 R3 : Nat → Value} {w : World} {f : Nat → Value} {w' : World} (h : NewH n R1 R2 R3 w f w') : Below w.heap.size w w' := by
  rcases h with ⟨-, -, h⟩ | ⟨b1, c1, N1, F1, b2, c2, N2, F2, b3, c3, N3, F3, -, -, -, -, h⟩
  · exact h
  · exact h.below
theorem NewH.one {n : Nat} {R1 R2 R3 : Nat → Value} {w : World} {f : Nat → Value} {w' : World} (h : NewH n R1 R2 R3 w f w') (k : Nat) : (f k).oneCell' = true := by
  rcases h with ⟨-, ⟨a1, c1, a2, c2, a3, c3, rfl⟩, -⟩ | ⟨b1, c1, N1, F1, b2, c2, N2, F2, b3, c3, N3, F3, rfl, -, -, -, -⟩
  · exact h3_one rfl rfl rfl k
  · exact h3_one rfl rfl rfl k
theorem NewH.zero {n : Nat} {R1 R2 R3 : Nat → Value} {w : World} {f : Nat → Value} {w' : World} (h : NewH n R1 R2 R3 w f w') (hn : n = 0) : ∃ a1 c1 a2 c2 a3 c3, f = h3 (.slice a1 0 c1) (.slice a2 0 c2) (.slice a3 0 c3) ∧ Below w.heap.size w w' := by
  rcases h with ⟨-, ⟨a1, c1, a2, c2, a3, c3, h⟩, hb⟩ | ⟨b1, c1, N1, F1, b2, c2, N2, F2, b3, c3, N3, F3, h, -, -, -, hM⟩
  · exact ⟨a1, c1, a2, c2, a3, c3, h, hb⟩
  · exact ⟨_, c1, _, c2, _, c3, by rw [h, hn], hM.below⟩
theorem NewH.some {n : Nat} {R1 R2 R3 : Nat → Value} {w : World} {f : Nat → Value} {w' : World} (h : NewH n R1 R2 R3 w f w') (hn : 0 < n) : ∃ b1 c1 N1 F1 b2 c2 N2 F2 b3 c3 N3 F3, f = h3 (.slice (some ⟨b1, 0, none⟩) n c1) (.slice (some ⟨b2, 0, none⟩) n c2) (.slice (some ⟨b3, 0, none⟩) n c3) ∧ (w.heap.size ≤ b1 ∧ w.heap.size ≤ b2 ∧ w.heap.size ≤ b3) ∧ (n ≤ N1 ∧ n ≤ N2 ∧ n ≤ N3) ∧ ((∀ j, j < n → F1 j = R1 j) ∧ (∀ j, j < n → F2 j = R2 j) ∧ ∀ j, j < n → F3 j = R3 j) ∧ Mem w [(b1, N1, F1), (b2, N2, F2), (b3, N3, F3)] w' := by
  rcases h with ⟨h, -⟩ | h
  · omega
  · exact h
theorem GivesH.none {n : Nat} {R1 R2 R3 : Nat → Value} {cc cc' : Int} {w w' : World} {a1 a2 a3 : Option Addr} {c1 c2 c3 : Nat} (hb : Below w.heap.size w w') (hn : n = 0) (hc : cc' = cc) : GivesH n R1 R2 R3 cc w (.returned (.tuple #[.agg (arr 3 (h3 (.slice a1 0 c1) (.slice a2 0 c2) (.slice a3 0 c3))), .int .i64 cc'])) w' := ⟨_, by rw [hc], .inl ⟨hn, ⟨a1, c1, a2, c2, a3, c3, rfl⟩, hb⟩⟩
/-- A herd that a call from a later world gave is new from the first one on. -/
theorem NewH.rise {n : Nat} {R1 R2 R3 : Nat → Value} {w0 w1 : World} {f : Nat → Value} {w' : World} (hb : Below w0.heap.size w0 w1) (h : NewH n R1 R2 R3 w1 f w') : NewH n R1 R2 R3 w0 f w' := by
  rcases h with ⟨h1, h2, h3⟩ | ⟨b1, c1, N1, F1, b2, c2, N2, F2, b3, c3, N3, F3, h, ⟨g1, g2, g3⟩, hN, hF, hM⟩
  · exact .inl ⟨h1, h2, hb.trans (h3.mono hb.size)⟩
  · exact .inr ⟨b1, c1, N1, F1, b2, c2, N2, F2, b3, c3, N3, F3, h, ⟨Nat.le_trans hb.size g1, Nat.le_trans hb.size g2, Nat.le_trans hb.size g3⟩, hN, hF, hM.base (hb.trans (hM.below.mono hb.size))⟩

section
variable {P : Program} {o : Oper} {a : Act} {w : Base} {L x : Blocks} {K : Act → (World → Prop) → Prop}
theorem step_slice0 (t e : TypeId) (ho : o.op = .buildSlice t 0 #[]) (m : Nat)
    (hu : P.underlying t = some (.slice e)) (hz : (P.info? e).map (fun i => i.size) = some m)
    (h : ∀ b, w.B ≤ b → K (a.put o.dst (.slice (some ⟨b, 0, none⟩) 0 0)) (Mem w (((b, 0, fun _ => undef) :: x) ++ L))) : stepT P (Mem w L) o a (Mem w (x ++ L)) K := by
  obtain ⟨ie, hie, hq⟩ := Option.map_eq_some_iff.1 hz
  intro W hW
  have hr : (Instr.buildSlice t 0 #[]).run P W = .ok (.slice (some ⟨W.heap.size, 0, none⟩) 0 0) (W.alloc (.cells (arr 0 fun _ => undef) e)) := by
    have e0 : Array.range 0 = #[] := rfl
    simp [Instr.buildSlice, run_underlying hu, sizeOf, typeInfo, hie, Instr.fill, newRow, arr, e0]
  refine .inl ⟨_, _, _, .inl ?_, kept_mem w L ((W.heap.size, 0, fun _ => undef) :: x), hW.alloc e 0 _, h _ hW.size⟩
  unfold execOp
  simp only [ho, Array.map_empty, Sem.run_bind, hr, Result.andThen_ok]
  rfl
/-- A list's elements, one or more, are appended to a list that has none and no room. -/
theorem step_cat0 (s y : Operand) (t : TypeId) (ho : o.op = .call { callee := .builtin .append, args := #[s, y], argTypes := #[t, t] })
    (e : TypeId) (m bs : Nat) (z : Value) (hu : P.underlying t = some (.slice e)) (hz : (P.info? e).map (fun i => (i.size, i.zero, i.bytes)) = some (m, some z, bs)) (hzs : z.cells.size = m) (hbs : bs ≤ 1000)
    (b0 : Nat) (hs : a.eval s = .slice (some ⟨b0, 0, none⟩) 0 0) (bn n cn : Nat) (hx : a.eval y = .slice (some ⟨bn, 0, none⟩) n cn) (hn1 : 1 ≤ n) (hn : n ≤ 1048576)
    (i0 : Nat) {N : Nat} {f : Nat → Value} (hi0 : (x ++ L)[i0]? = some (bn, N, f)) (hN : n * m ≤ N)
    (h : ∀ b' c' F', w.B ≤ b' → n ≤ c' → (∀ j, j < n * m → F' j = f j) → K (a.put o.dst (.slice (some ⟨b', 0, none⟩) n c')) (Mem w (((b', c' * m, F') :: x) ++ L))) : stepT P (Mem w L) o a (Mem w (x ++ L)) K := by
  obtain ⟨i, hi, hq⟩ := Option.map_eq_some_iff.1 hz
  simp only [Prod.mk.injEq] at hq
  obtain ⟨rfl, q2, rfl⟩ := hq
  intro W hM
  have hb48 : Builtin.nextslicecap (0 + n) 0 * i.bytes ≤ 281474976710656 := growslice_fits (by omega) (by
    have : (0 + n) * i.bytes ≤ 1048576 * 1000 := Nat.mul_le_mul (by omega) hbs
    omega)
  have hr := run_append_grow (P := P) W t o.type e i z hu hi q2 ⟨b0, 0, none⟩ 0 0 [] (by simp) (fun j v hv => by simp at hv) ⟨bn, 0, none⟩ n cn (arr (n * i.size) f).toList (by simp [arr_size]) ((hM.ats i0 _ _ _ hi0).list hN) (by omega) (by omega) hb48
  have hge := grownCap_ge W (0 + n) 0 e
  rw [Nat.zero_add] at hr hge
  refine .inl ⟨_, _, _, .inl (exec_append ho hs hx hr), kept_mem w L ((W.heap.size, grownCap W n 0 e * i.size, _) :: x), (hM.drew.allocA e _ (grownCap W n 0 e * i.size) ?_), h _ _ _ hM.size hge (fun j hj => ?_)⟩
  · simp only [Array.size_append, List.size_toArray, size_zeroCells, hzs, Array.length_toList, arr_size, List.length_nil]
    rw [Nat.zero_add, ← Nat.add_mul]
    congr 1; omega
  · rw [Array.getElem?_append_left (by simp [arr_size]; omega)]
    simp [arr, hj]
theorem step_cat00 (s y : Operand) (t : TypeId) (ho : o.op = .call { callee := .builtin .append, args := #[s, y], argTypes := #[t, t] })
    (e : TypeId) (m : Nat) (hu : P.underlying t = some (.slice e)) (hz : (P.info? e).map (fun i => i.size) = some m)
    (b0 : Nat) (hs : a.eval s = .slice (some ⟨b0, 0, none⟩) 0 0) (bn n cn : Nat) (hx : a.eval y = .slice (some ⟨bn, 0, none⟩) n cn) (hn0 : n = 0)
    (h : K (a.put o.dst (.slice (some ⟨b0, 0, none⟩) 0 0)) (Mem w (x ++ L))) : stepT P (Mem w L) o a (Mem w (x ++ L)) K := by
  subst hn0
  obtain ⟨i, hi, hq⟩ := Option.map_eq_some_iff.1 hz
  intro W hM
  have hr := run_append_nothing (P := P) W t t o.type e i hu hi (some ⟨b0, 0, none⟩) 0 0 (Nat.le_refl _) (.slice (some ⟨bn, 0, none⟩) 0 cn) ⟨.inl ⟨e, hu⟩, fun w' => rfl, by simp [Builtin.firstCells, loadCells, loadCellsFrom], by simp [Builtin.firstCells, loadCells, loadCellsFrom], by simp, by simp⟩
  exact .inl ⟨_, _, _, .inl (exec_append ho hs hx hr), kept_mem w L x, hM, h⟩
end
theorem mix_three {P : Program} {l : List Oper} {C D : World → Prop} {q : Nat → Bool} {Q : Exit → Act → World → Prop} {f : Nat} {s : Array Bool} {a : Act} {i j k : Nat} {o o' o'' : Oper} (hr : Region.ready .any l.toArray s = [i, j, k]) (ho : l[i]? = some o) (ho' : l[j]? = some o') (ho'' : l[k]? = some o'') (hq : q i = false) (hq' : q j = false) (hq'' : q k = false) (hg : o.guard = none) (hg' : o'.guard = none) (hg'' : o''.guard = none)
    (h : stepT P C o a D (mixQ P l.toArray C q Q f (s.setIfInBounds i true))) (h' : stepT P C o' a D (mixQ P l.toArray C q Q f (s.setIfInBounds j true))) (h'' : stepT P C o'' a D (mixQ P l.toArray C q Q f (s.setIfInBounds k true))) : mixQ P l.toArray C q Q (f + 1) s a D := by
  refine ⟨by rw [hr]; simp, fun m hm => ?_⟩
  rw [hr] at hm
  have : m = i ∨ m = j ∨ m = k := by simpa using hm
  rcases this with rfl | rfl | rfl
  · exact ⟨o, at_list ho, by rw [if_neg (by rw [hq]; decide)]; exact ⟨hg, h⟩⟩
  · exact ⟨o', at_list ho', by rw [if_neg (by rw [hq']; decide)]; exact ⟨hg', h'⟩⟩
  · exact ⟨o'', at_list ho'', by rw [if_neg (by rw [hq'']; decide)]; exact ⟨hg'', h''⟩⟩
/-- A herd's three lists, in blocks of the call's own. -/
def OwnC (n : Nat) (R1 R2 R3 : Nat → Value) (w : World) (f : Nat → Value) (w' : World) : Prop :=
  ∃ b1 c1 F1 b2 c2 F2 b3 c3 F3, f = h3 (.slice (some ⟨b1, 0, none⟩) n c1) (.slice (some ⟨b2, 0, none⟩) n c2) (.slice (some ⟨b3, 0, none⟩) n c3) ∧ (w.heap.size ≤ b1 ∧ w.heap.size ≤ b2 ∧ w.heap.size ≤ b3) ∧ (n ≤ c1 ∧ n ≤ c2 ∧ n ≤ c3) ∧ ((∀ j, j < n * 1 → F1 j = R1 j) ∧ (∀ j, j < n * 1 → F2 j = R2 j) ∧ ∀ j, j < n * 1 → F3 j = R3 j) ∧ Mem w [(b1, c1 * 1, F1), (b2, c2 * 1, F2), (b3, c3 * 1, F3)] w'
theorem OwnC.new {n : Nat} {R1 R2 R3 : Nat → Value} {w : World} {f : Nat → Value} {w' : World} (h : OwnC n R1 R2 R3 w f w') : NewH n R1 R2 R3 w f w' := by
  obtain ⟨b1, c1, F1, b2, c2, F2, b3, c3, F3, h, hb, hc, ⟨g1, g2, g3⟩, hM⟩ := h
  exact .inr ⟨b1, c1, c1 * 1, F1, b2, c2, c2 * 1, F2, b3, c3, c3 * 1, F3, h, hb, ⟨by omega, by omega, by omega⟩, ⟨fun j hj => g1 j (by omega), fun j hj => g2 j (by omega), fun j hj => g3 j (by omega)⟩, hM⟩
end Go.Proofs.YthodkbmenndnoaaDoor

/-
  impl.members.herd by contract.
-/
namespace Go.Proofs.YthodkbmenndnoaaDoor
open Go Go.RowKit Go.BigFrame

theorem str_under : Tryd.prog.underlying 22 = some (.slice 9) := Tryd.underlying22
theorem i16_under : Tryd.prog.underlying 23 = some (.slice 73) := Tryd.underlying23
theorem u16_under : Tryd.prog.underlying 24 = some (.slice 74) := Tryd.underlying24
theorem str_infoR : (Tryd.prog.info? 9).map (fun i => (i.size, i.zero)) = some (1, some (.string ⟨#[]⟩)) := by kernel_rfl
theorem i16_infoR : (Tryd.prog.info? 73).map (fun i => (i.size, i.zero)) = some (1, some (.int .i16 0)) := by kernel_rfl
theorem u16_infoR : (Tryd.prog.info? 74).map (fun i => (i.size, i.zero)) = some (1, some (.int .u16 0)) := by kernel_rfl
theorem str_info0 : (Tryd.prog.info? 9).map (fun i => i.size) = some 1 := by kernel_rfl
theorem i16_info0 : (Tryd.prog.info? 73).map (fun i => i.size) = some 1 := by kernel_rfl
theorem u16_info0 : (Tryd.prog.info? 74).map (fun i => i.size) = some 1 := by kernel_rfl
theorem cst_one {v : Value} (h : v.oneCell' = true := by rfl) : ∀ k, k < 1 → ((fun _ => v) k).oneCell' = true := fun _ _ => h
def zHd : Nat → Value := fun _ => .slice none 0 0
theorem h3_upd {v a b c : Value} : (∀ k, k < 3 → upd (h3 a b c) 0 v k = h3 v b c k) ∧ (∀ k, k < 3 → upd (h3 a b c) 1 v k = h3 a v c k) ∧ ∀ k, k < 3 → upd (h3 a b c) 2 v k = h3 a b v k := by
  refine ⟨fun k hk => ?_, fun k hk => ?_, fun k hk => ?_⟩ <;> (rcases (show k = 0 ∨ k = 1 ∨ k = 2 by omega) with rfl | rfl | rfl <;> rfl)
/-- The herd so far: nothing, or three lists. -/
def HdAcc (d : Hd) (w : World) (b1 b2 k : Nat) (W : World) : Prop := (k = 0 ∧ Mem w [(b2, 3, h3 (.slice none 0 0) (.slice none 0 0) (.slice none 0 0)), (b1, 3, zHd)] W) ∨ ∃ x0 n0 F0 x1 n1 F1 x2 n2 F2, 0 < k ∧ (w.heap.size ≤ x0 ∧ w.heap.size ≤ x1 ∧ w.heap.size ≤ x2) ∧ (k ≤ n0 ∧ k ≤ n1 ∧ k ≤ n2) ∧ (∀ j, j < k * 1 → F0 j = vStringS d.ss j) ∧ (∀ j, j < k * 1 → F1 j = vInt16S d.es j) ∧ (∀ j, j < k * 1 → F2 j = vUint16S d.fs j) ∧ Mem w [(x0, n0 * 1, F0), (x1, n1 * 1, F1), (x2, n2 * 1, F2), (b2, 3, h3 (.slice (some ⟨x0, 0, none⟩) k n0) (.slice (some ⟨x1, 0, none⟩) k n1) (.slice (some ⟨x2, 0, none⟩) k n2)), (b1, 3, zHd)] W

set_option maxRecDepth 100000 in
set_option maxHeartbeats 4000000 in
theorem herd_any (d : Hd) (a : Option Addr) (n c : Nat) (hn : n ≤ 1048576) (w : World) (hA : MemsAt w a n d) :
    Calls Tryd.prog 74 #[.slice a n c] w fun e w' => ∃ f, e = .returned (.agg (arr 3 f)) ∧ NewH n (vStringS d.ss) (vInt16S d.es) (vUint16S d.fs) w f w' := by
  have hM := Mem.nil w
  have HA := Lib.hid hA
  clear hA
  have tk_b1 : True := trivial; have tk_b2 : True := trivial
  go_enter Tryd.func74, Tryd.ntmps74
  go_wp2_with (first | (have _t := tk_b1; refine wpList_zero rfl _ rfl zeroHerd hM ?_; intro b1 W' hb1 hM'; clear hM tk_b1; have hM := hM'; clear hM') | (have _t := tk_b2; refine wpList_zero rfl _ rfl zeroHerd hM ?_; intro b2 W' hb2 hM'; clear hM tk_b2; have hM := hM'; clear hM'))
  go_loopw [8] (fun i wr => ∃ k : Nat, k ≤ n ∧ i = .int .i64 k ∧ HdAcc d w b1 b2 k wr) (fun i _ => n - (intOf i).toNat)
  case atStart => exact ⟨0, by omega, rfl, .inl ⟨rfl, hM.re 0 rfl _ (fun k hk => by rcases (show k = 0 ∨ k = 1 ∨ k = 2 by omega) with rfl | rfl | rfl <;> rfl)⟩⟩
  case round =>
    clear hM
    obtain ⟨k, hk, rfl, hH⟩ := hrel
    by_cases hlt : k < n
    · have l2 : (k : Int) < n := by omega
      have hbel : Below w.heap.size w wr := by
        rcases hH with ⟨-, h⟩ | ⟨x0, n0, F0, x1, n1, F1, x2, n2, F2, -, -, -, -, -, -, h⟩
        · exact h.below
        · exact h.below
      obtain ⟨bm, N, F, rfl, hN, -, hF, hAt⟩ := (HA.out.below hbel).row hlt
      have HF := Lib.hid hF
      have HT := Lib.hid hAt
      have HN0 := Lib.hid (show ∀ j, j < 1 → Value.string (d.ss k) = vStringS d.ss (k * 1 + j) from fun j hj => by rw [show k * 1 + j = k by omega]; rfl)
      have HN1 := Lib.hid (show ∀ j, j < 1 → Value.int .i16 (d.es k) = vInt16S d.es (k * 1 + j) from fun j hj => by rw [show k * 1 + j = k by omega]; rfl)
      have HN2 := Lib.hid (show ∀ j, j < 1 → Value.int .u16 (d.fs k) = vUint16S d.fs (k * 1 + j) from fun j hj => by rw [show k * 1 + j = k by omega]; rfl)
      have HR : Hid (∀ j, j < 3 → lay zMem 0 3 (gMem d k) j = mem3 (d.ss k) (d.es k) (d.fs k) j) := Lib.hid (fun j hj => by simp [lay, hj, gMem])
      clear hF hAt hbel
      generalize d.ss k = sk at HN0 HR
      generalize d.es k = ek at HN1 HR
      generalize d.fs k = fk at HN2 HR
      rcases hH with ⟨rfl, hM⟩ | ⟨x0, n0, F0, x1, n1, F1, x2, n2, F2, hk0, ⟨hb0, hb1, hb22⟩, ⟨hc0, hc1, hc2⟩, hf0', hf1', hf2', hM⟩
      · have hb2 : (Base.of w).B ≤ b2 := by assumption
        have HF0 := Lib.hid (show ∀ j, j < 3 → F (0 + j) = gMem d 0 j from fun j hj => by have := HF.out j hj; rwa [Nat.zero_mul] at this)
        clear HF
        have HP0 := Lib.hid (show ∀ j, j < 1 → Value.string sk = vStringS d.ss j from fun j hj => by have := HN0.out j hj; rwa [Nat.zero_mul, Nat.zero_add] at this)
        have HP1 := Lib.hid (show ∀ j, j < 1 → Value.int .i16 ek = vInt16S d.es j from fun j hj => by have := HN1.out j hj; rwa [Nat.zero_mul, Nat.zero_add] at this)
        have HP2 := Lib.hid (show ∀ j, j < 1 → Value.int .u16 fk = vUint16S d.fs j from fun j hj => by have := HN2.out j hj; rwa [Nat.zero_mul, Nat.zero_add] at this)
        have tk_b3 : True := trivial; have tk_s1 : True := trivial; have tk_ga0 : True := trivial; have tk_gb0 : True := trivial; have tk_l0 : True := trivial; have tk_p0 : True := trivial; have tk_st0 : True := trivial; have tk_ga1 : True := trivial; have tk_gb1 : True := trivial; have tk_l1 : True := trivial; have tk_p1 : True := trivial; have tk_st1 : True := trivial; have tk_ga2 : True := trivial; have tk_gb2 : True := trivial; have tk_l2 : True := trivial; have tk_p2 : True := trivial; have tk_st2 : True := trivial
        go_wp2_with (first | (refine wpList_getAt rfl _ _ rfl _ _ rfl HT.out (rowTab _ _ rfl) (by omega) (gMem d 0) HF0.out ?_) | (have _t := tk_b3; refine wpList_zero rfl _ rfl (zeroTab _ _ _ rfl) hM ?_; intro b3 W' hb3 hM'; clear hM tk_b3; have hM := hM'; clear hM') | (have _t := tk_s1; refine wpList_lay rfl _ _ _ rfl _ _ rfl _ _ rfl hM 0 rfl (by assumption) (rowTab _ _ rfl) (by omega) (fun j _ => gMem_one d 0 j) ?_; intro W' hM'; have hM2 := hM'.re 0 rfl (mem3 sk ek fk) HR.out; simp only [List.set_cons_zero] at hM2; clear hM hM' tk_s1; have hM := hM2; clear hM2) | (have _t := tk_ga0; refine wpList_get1 rfl _ _ rfl _ _ rfl hM 1 rfl (cellTab _ rfl) (by omega) ((.slice none 0 0)) rfl ?_; clear tk_ga0) | (have _t := tk_gb0; refine wpList_get1 rfl _ _ rfl _ _ rfl hM 0 rfl (cellTab _ rfl) (by omega) (.string sk) rfl ?_; clear tk_gb0) | (have _t := tk_l0; refine wpList_lit1 rfl _ _ _ rfl (.string sk) rfl rfl _ str_under str_infoR hM ?_; intro l0 W' hl0 hM'; clear hM tk_l0; have hM := hM'; clear hM') | (have _t := tk_p0; refine wpList_push0 rfl _ _ _ rfl _ 1 _ _ str_under infoStringS rfl (by omega) rfl _ _ rfl hM (vStringS d.ss) HP0.out ?_; intro e0 c0 F0 W' he0 hc0 hF0 hM'; have HF0 := Lib.hid hF0; clear hM tk_p0 hF0; have hM := hM'; clear hM') | (have _t := tk_st0; refine wpList_set1 rfl _ _ _ rfl _ _ rfl _ rfl rfl hM 2 rfl hb2 (cellTab _ rfl) (by omega) ?_; intro W' hM'; have hM2 := hM'.re 2 rfl (h3 (.slice (some ⟨e0, 0, none⟩) 1 c0) (.slice none 0 0) (.slice none 0 0)) (h3_upd.1); simp only [List.set_cons_succ, List.set_cons_zero] at hM2; clear hM hM' tk_st0; have hM := hM2; clear hM2) | (have _t := tk_ga1; refine wpList_get1 rfl _ _ rfl _ _ rfl hM 2 rfl (cellTab _ rfl) (by omega) ((.slice none 0 0)) rfl ?_; clear tk_ga1) | (have _t := tk_gb1; refine wpList_get1 rfl _ _ rfl _ _ rfl hM 1 rfl (cellTab _ rfl) (by omega) (.int .i16 ek) rfl ?_; clear tk_gb1) | (have _t := tk_l1; refine wpList_lit1 rfl _ _ _ rfl (.int .i16 ek) rfl rfl _ i16_under i16_infoR hM ?_; intro l1 W' hl1 hM'; clear hM tk_l1; have hM := hM'; clear hM') | (have _t := tk_p1; refine wpList_push0 rfl _ _ _ rfl _ 1 _ _ i16_under infoInt16S rfl (by omega) rfl _ _ rfl hM (vInt16S d.es) HP1.out ?_; intro e1 c1 F1 W' he1 hc1 hF1 hM'; have HF1 := Lib.hid hF1; clear hM tk_p1 hF1; have hM := hM'; clear hM') | (have _t := tk_st1; refine wpList_set1 rfl _ _ _ rfl _ _ rfl _ rfl rfl hM 3 rfl hb2 (cellTab _ rfl) (by omega) ?_; intro W' hM'; have hM2 := hM'.re 3 rfl (h3 (.slice (some ⟨e0, 0, none⟩) 1 c0) (.slice (some ⟨e1, 0, none⟩) 1 c1) (.slice none 0 0)) (h3_upd.2.1); simp only [List.set_cons_succ, List.set_cons_zero] at hM2; clear hM hM' tk_st1; have hM := hM2; clear hM2) | (have _t := tk_ga2; refine wpList_get1 rfl _ _ rfl _ _ rfl hM 3 rfl (cellTab _ rfl) (by omega) ((.slice none 0 0)) rfl ?_; clear tk_ga2) | (have _t := tk_gb2; refine wpList_get1 rfl _ _ rfl _ _ rfl hM 2 rfl (cellTab _ rfl) (by omega) (.int .u16 fk) rfl ?_; clear tk_gb2) | (have _t := tk_l2; refine wpList_lit1 rfl _ _ _ rfl (.int .u16 fk) rfl rfl _ u16_under u16_infoR hM ?_; intro l2 W' hl2 hM'; clear hM tk_l2; have hM := hM'; clear hM') | (have _t := tk_p2; refine wpList_push0 rfl _ _ _ rfl _ 1 _ _ u16_under infoUint16S rfl (by omega) rfl _ _ rfl hM (vUint16S d.fs) HP2.out ?_; intro e2 c2 F2 W' he2 hc2 hF2 hM'; have HF2 := Lib.hid hF2; clear hM tk_p2 hF2; have hM := hM'; clear hM') | (have _t := tk_st2; refine wpList_set1 rfl _ _ _ rfl _ _ rfl _ rfl rfl hM 4 rfl hb2 (cellTab _ rfl) (by omega) ?_; intro W' hM'; have hM2 := hM'.re 4 rfl (h3 (.slice (some ⟨e0, 0, none⟩) 1 c0) (.slice (some ⟨e1, 0, none⟩) 1 c1) (.slice (some ⟨e2, 0, none⟩) 1 c2)) (h3_upd.2.2); simp only [List.set_cons_succ, List.set_cons_zero] at hM2; clear hM hM' tk_st2; have hM := hM2; clear hM2))
        exact ⟨⟨1, by omega, by go_num, .inr ⟨e0, c0, F0, e1, c1, F1, e2, c2, F2, by omega, ⟨he0, he1, he2⟩, ⟨hc0, hc1, hc2⟩, HF0.out, HF1.out, HF2.out, hM.sub (fun i => [2, 1, 0, 4, 5].getD i 0) (fun i p h => by rcases i with _ | _ | _ | _ | _ | i <;> simp at h ⊢ <;> exact h) rfl⟩⟩, by simp [intOf]; omega⟩
      · have hb2 : (Base.of w).B ≤ b2 := by assumption
        have hk1 : k ≤ 1048576 := by omega
        have hf0 := Lib.hid hf0'
        have hf1 := Lib.hid hf1'
        have hf2 := Lib.hid hf2'
        clear hf0' hf1' hf2'
        have tk_b3 : True := trivial; have tk_s1 : True := trivial; have tk_ga0 : True := trivial; have tk_gb0 : True := trivial; have tk_l0 : True := trivial; have tk_p0 : True := trivial; have tk_st0 : True := trivial; have tk_ga1 : True := trivial; have tk_gb1 : True := trivial; have tk_l1 : True := trivial; have tk_p1 : True := trivial; have tk_st1 : True := trivial; have tk_ga2 : True := trivial; have tk_gb2 : True := trivial; have tk_l2 : True := trivial; have tk_p2 : True := trivial; have tk_st2 : True := trivial
        go_wp2_with (first | (refine wpList_getAt rfl _ _ rfl _ _ rfl HT.out (rowTab _ _ rfl) (by omega) (gMem d k) HF.out ?_) | (have _t := tk_b3; refine wpList_zero rfl _ rfl (zeroTab _ _ _ rfl) hM ?_; intro b3 W' hb3 hM'; clear hM tk_b3; have hM := hM'; clear hM') | (have _t := tk_s1; refine wpList_lay rfl _ _ _ rfl _ _ rfl _ _ rfl hM 0 rfl (by assumption) (rowTab _ _ rfl) (by omega) (fun j _ => gMem_one d k j) ?_; intro W' hM'; have hM2 := hM'.re 0 rfl (mem3 sk ek fk) HR.out; simp only [List.set_cons_zero] at hM2; clear hM hM' tk_s1; have hM := hM2; clear hM2) | (have _t := tk_ga0; refine wpList_get1 rfl _ _ rfl _ _ rfl hM 4 rfl (cellTab _ rfl) (by omega) ((.slice (some ⟨x0, 0, none⟩) k n0)) rfl ?_; clear tk_ga0) | (have _t := tk_gb0; refine wpList_get1 rfl _ _ rfl _ _ rfl hM 0 rfl (cellTab _ rfl) (by omega) (.string sk) rfl ?_; clear tk_gb0) | (have _t := tk_l0; have hM0 := hM.toFront 1 rfl; simp only [List.eraseIdx_cons_succ, List.eraseIdx_cons_zero] at hM0; clear hM; have hM := hM0; clear hM0; refine wpList_lit1 rfl _ _ _ rfl (.string sk) rfl rfl _ str_under str_infoR hM ?_; intro l0 W' hl0 hM'; clear hM tk_l0; have hM := hM'; clear hM') | (have _t := tk_p0; refine wpList_push1 rfl _ _ _ rfl _ 1 _ _ str_under infoStringS rfl (by omega) _ _ _ _ rfl hb0 hc0 hk1 _ _ rfl cst_one hM (vStringS d.ss) hf0.out HN0.out ?_; intro g0 i0 G0 W' hg0 hi0 hG0 hM'; have HG0 := Lib.hid hG0; clear hM tk_p0 hG0; have hM := hM'; clear hM') | (have _t := tk_st0; refine wpList_set1 rfl _ _ _ rfl _ _ rfl _ rfl rfl hM 4 rfl hb2 (cellTab _ rfl) (by omega) ?_; intro W' hM'; have hM2 := hM'.re 4 rfl (h3 (.slice (some ⟨g0, 0, none⟩) (k + 1) i0) (.slice (some ⟨x1, 0, none⟩) k n1) (.slice (some ⟨x2, 0, none⟩) k n2)) (h3_upd.1); simp only [List.set_cons_succ, List.set_cons_zero] at hM2; clear hM hM' tk_st0; have hM := hM2; clear hM2) | (have _t := tk_ga1; refine wpList_get1 rfl _ _ rfl _ _ rfl hM 4 rfl (cellTab _ rfl) (by omega) ((.slice (some ⟨x1, 0, none⟩) k n1)) rfl ?_; clear tk_ga1) | (have _t := tk_gb1; refine wpList_get1 rfl _ _ rfl _ _ rfl hM 1 rfl (cellTab _ rfl) (by omega) (.int .i16 ek) rfl ?_; clear tk_gb1) | (have _t := tk_l1; have hM0 := hM.toFront 2 rfl; simp only [List.eraseIdx_cons_succ, List.eraseIdx_cons_zero] at hM0; clear hM; have hM := hM0; clear hM0; refine wpList_lit1 rfl _ _ _ rfl (.int .i16 ek) rfl rfl _ i16_under i16_infoR hM ?_; intro l1 W' hl1 hM'; clear hM tk_l1; have hM := hM'; clear hM') | (have _t := tk_p1; refine wpList_push1 rfl _ _ _ rfl _ 1 _ _ i16_under infoInt16S rfl (by omega) _ _ _ _ rfl hb1 hc1 hk1 _ _ rfl cst_one hM (vInt16S d.es) hf1.out HN1.out ?_; intro g1 i1 G1 W' hg1 hi1 hG1 hM'; have HG1 := Lib.hid hG1; clear hM tk_p1 hG1; have hM := hM'; clear hM') | (have _t := tk_st1; refine wpList_set1 rfl _ _ _ rfl _ _ rfl _ rfl rfl hM 4 rfl hb2 (cellTab _ rfl) (by omega) ?_; intro W' hM'; have hM2 := hM'.re 4 rfl (h3 (.slice (some ⟨g0, 0, none⟩) (k + 1) i0) (.slice (some ⟨g1, 0, none⟩) (k + 1) i1) (.slice (some ⟨x2, 0, none⟩) k n2)) (h3_upd.2.1); simp only [List.set_cons_succ, List.set_cons_zero] at hM2; clear hM hM' tk_st1; have hM := hM2; clear hM2) | (have _t := tk_ga2; refine wpList_get1 rfl _ _ rfl _ _ rfl hM 4 rfl (cellTab _ rfl) (by omega) ((.slice (some ⟨x2, 0, none⟩) k n2)) rfl ?_; clear tk_ga2) | (have _t := tk_gb2; refine wpList_get1 rfl _ _ rfl _ _ rfl hM 2 rfl (cellTab _ rfl) (by omega) (.int .u16 fk) rfl ?_; clear tk_gb2) | (have _t := tk_l2; have hM0 := hM.toFront 3 rfl; simp only [List.eraseIdx_cons_succ, List.eraseIdx_cons_zero] at hM0; clear hM; have hM := hM0; clear hM0; refine wpList_lit1 rfl _ _ _ rfl (.int .u16 fk) rfl rfl _ u16_under u16_infoR hM ?_; intro l2 W' hl2 hM'; clear hM tk_l2; have hM := hM'; clear hM') | (have _t := tk_p2; refine wpList_push1 rfl _ _ _ rfl _ 1 _ _ u16_under infoUint16S rfl (by omega) _ _ _ _ rfl hb22 hc2 hk1 _ _ rfl cst_one hM (vUint16S d.fs) hf2.out HN2.out ?_; intro g2 i2 G2 W' hg2 hi2 hG2 hM'; have HG2 := Lib.hid hG2; clear hM tk_p2 hG2; have hM := hM'; clear hM') | (have _t := tk_st2; refine wpList_set1 rfl _ _ _ rfl _ _ rfl _ rfl rfl hM 4 rfl hb2 (cellTab _ rfl) (by omega) ?_; intro W' hM'; have hM2 := hM'.re 4 rfl (h3 (.slice (some ⟨g0, 0, none⟩) (k + 1) i0) (.slice (some ⟨g1, 0, none⟩) (k + 1) i1) (.slice (some ⟨g2, 0, none⟩) (k + 1) i2)) (h3_upd.2.2); simp only [List.set_cons_succ, List.set_cons_zero] at hM2; clear hM hM' tk_st2; have hM := hM2; clear hM2))
        exact ⟨⟨k + 1, by omega, by go_num, .inr ⟨g0, i0, G0, g1, i1, G1, g2, i2, G2, by omega, ⟨hg0, hg1, hg2⟩, ⟨hi0, hi1, hi2⟩, HG0.out, HG1.out, HG2.out, hM.sub (fun i => [2, 1, 0, 4, 5].getD i 0) (fun i p h => by rcases i with _ | _ | _ | _ | _ | i <;> simp at h ⊢ <;> exact h) rfl⟩⟩, by simp [intOf]; omega⟩
    · obtain rfl : k = n := by omega
      rcases hH with ⟨rfl, hM⟩ | ⟨x0, n0, F0, x1, n1, F1, x2, n2, F2, hk0, ⟨hb0, hb1', hb22⟩, ⟨hc0, hc1, hc2⟩, hf0', hf1', hf2', hM⟩
      · go_wp2_with (first | (refine wpList_get rfl _ _ rfl _ _ rfl hM 0 rfl (rowTab _ _ rfl) (by omega) ?_; simp only [Nat.zero_add]) | (refine wpList_lay rfl _ _ _ rfl _ _ rfl _ _ rfl hM 1 rfl (by assumption) (rowTab _ _ rfl) (by omega) (fun k _ => h3_one rfl rfl rfl k) ?_; intro W' hM'; clear hM; have hM := hM'; clear hM'; simp only [List.set] at hM))
        have hA1 := (hM.ats 1 _ _ _ rfl).congr (g := h3 (.slice none 0 0) (.slice none 0 0) (.slice none 0 0)) (fun j hj => by simp [lay, hj])
        exact bodyPost_ret (results_at rfl _ rfl hA1 rowHerd) rfl ⟨_, rfl, .inl ⟨rfl, ⟨_, _, _, _, _, _, rfl⟩, hM.below⟩⟩
      · go_wp2_with (first | (refine wpList_get rfl _ _ rfl _ _ rfl hM 3 rfl (rowTab _ _ rfl) (by omega) ?_; simp only [Nat.zero_add]) | (refine wpList_lay rfl _ _ _ rfl _ _ rfl _ _ rfl hM 4 rfl (by assumption) (rowTab _ _ rfl) (by omega) (fun k _ => h3_one rfl rfl rfl k) ?_; intro W' hM'; clear hM; have hM := hM'; clear hM'; simp only [List.set] at hM))
        have hA1 := (hM.ats 4 _ _ _ rfl).congr (g := h3 (.slice (some ⟨x0, 0, none⟩) k n0) (.slice (some ⟨x1, 0, none⟩) k n1) (.slice (some ⟨x2, 0, none⟩) k n2)) (fun j hj => by simp [lay, hj])
        exact bodyPost_ret (results_at rfl _ rfl hA1 rowHerd) rfl ⟨_, rfl, .inr ⟨x0, n0, n0 * 1, F0, x1, n1, n1 * 1, F1, x2, n2, n2 * 1, F2, rfl, ⟨hb0, hb1', hb22⟩, ⟨by omega, by omega, by omega⟩, ⟨fun j hj => hf0' j (by omega), fun j hj => hf1' j (by omega), fun j hj => hf2' j (by omega)⟩, hM.sub (fun i => i) (fun i p h => by rcases i with _ | _ | _ | i <;> simp at h ⊢ <;> exact h) rfl⟩⟩
end Go.Proofs.YthodkbmenndnoaaDoor

