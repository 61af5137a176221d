/-
  Several texts in one: Uint16SL, MarkHerd, Int64L, NeedsOf.
-/
import Derived.Test.YthodkbmenndnoaaDoorP2
import Derived.Test.YthodkbmenndnoaaDoorP4
import Derived.Test.YthodkbmenndnoaaDoorP11
import Derived.Test.YthodkbmenndnoaaDoorP3
import Derived.Test.YthodkbmenndnoaaDoorP5
import Derived.Test.YthodkbmenndnoaaDoorP7
/-
  laws.eqUint16S, markUint16S, heldUint16S over lists that hold room behind their end.
-/
namespace Go.Proofs.YthodkbmenndnoaaDoor
open Go Go.RowKit Go.BigFrame Go.ChangeShapes Go.WideShapes Go.Deep

theorem eqUint16S_zero (a a' : Option Addr) (c c' : Nat) (w : World) : Calls Tryd.prog 61 #[.slice a 0 c, .slice a' 0 c'] w fun e w' => e = .returned (.bool true) ∧ Below w.heap.size w w' := by
  go_enter Tryd.func61, Tryd.ntmps61
  go_wp2
  refine wp_loop_rounds 1 ?_
  rw [rounds_succ]
  go_wp2
  go_ret
  exact ⟨rfl, Below.refl _ _⟩
theorem markUint16S_zero (a : Option Addr) (c : Nat) (k : Int) (w : World) : Calls Tryd.prog 69 #[.slice a 0 c, .int .i64 k] w fun e w' => e = .returned (.int .i64 k) ∧ Below w.heap.size w w' := by
  go_enter Tryd.func69, Tryd.ntmps69
  go_wp2
  refine wp_loop_rounds 1 ?_
  rw [rounds_succ]
  go_wp2
  go_ret
  exact ⟨rfl, Below.refl _ _⟩
theorem heldUint16S_zero (a : Option Addr) (c : Nat) (k : Int) (w : World) : Calls Tryd.prog 77 #[.slice a 0 c, .int .i64 k] w fun e w' => e = .returned (.int .i64 k) ∧ Below w.heap.size w w' := by
  go_enter Tryd.func77, Tryd.ntmps77
  go_wp2
  refine wp_loop_rounds 1 ?_
  rw [rounds_succ]
  go_wp2
  go_ret
  exact ⟨rfl, Below.refl _ _⟩

set_option maxRecDepth 100000 in
set_option maxHeartbeats 1000000 in
/-- eqUint16S of two lists that hold the same. -/
theorem eqUint16S_list (b b' n c c' N N' : Nat) (F F' : Nat → Value) (ys : Nat → Int) (hF : ∀ j, j < n → F j = vUint16S ys j) (hF' : ∀ j, j < n → F' j = vUint16S ys j) (hN : n ≤ N) (hN' : n ≤ N') (hn : n ≤ 1048576) (w : World) (hA : At w b N F) (hA' : At w b' N' F') (hne : b ≠ b') :
    Calls Tryd.prog 61 #[.slice (some ⟨b, 0, none⟩) n c, .slice (some ⟨b', 0, none⟩) n c'] w fun e w' => e = .returned (.bool true) ∧ Below w.heap.size w w' := by
  have hM : Mem w [(b, N, F), (b', N', F')] w := ((Mem.nil w).old hA (fun i p h => by simp at h)).old hA' (fun i p h => by
    match i, h with
    | 0, h => simp at h; rw [← h]; exact hne
    | _ + 1, h => simp at h)
  have Hf := Lib.hid hF
  have Hf' := Lib.hid hF'
  clear hA hA' hF hF'
  go_enter Tryd.func61, Tryd.ntmps61
  go_wp2
  go_loopw [5] (fun i wr => ∃ k : Nat, k ≤ n ∧ i = .int .i64 k ∧ Mem w [(b, N, F), (b', N', F')] wr) (fun i _ => n - (intOf i).toNat)
  case atStart => exact ⟨0, by omega, rfl, hM⟩
  case round =>
    clear hM
    obtain ⟨k, hk, rfl, hM⟩ := hrel
    by_cases hlt : k < n
    · have l2 : (k : Int) < n := by omega
      have c1 : F k = .int .u16 (ys k) := Hf.out k hlt
      have c2 : F' k = .int .u16 (ys k) := Hf'.out k hlt
      have hb : (ys k != ys k) = false := by simp
      go_wp2
      ((try simp only [Act.put, List.setIfInBounds_toArray, List.set_cons_succ, List.set_cons_zero]); refine wp_region_mem (by kernel_rfl) (by kernel_rfl) hM ?_; clear hM; (repeat (first | go_big_quiet_skip | (go_big_quiet_want; first | (refine quiet_get1 _ _ rfl _ _ rfl 1 rfl cellUint16S (by omega) _ c2 ?_; (simp only [Act.put, List.setIfInBounds_toArray, List.set_cons_succ, List.set_cons_zero]); go_big_quiet_on) | (refine quiet_get1 _ _ rfl _ _ rfl 0 rfl cellUint16S (by omega) _ c1 ?_; (simp only [Act.put, List.setIfInBounds_toArray, List.set_cons_succ, List.set_cons_zero]); go_big_quiet_on) | (refine quiet_val ?_; apply Exists.intro; refine ⟨fun W => ?_, ?_⟩; (go_simp; (try simp only [l2, hb, if_true, Bool.false_eq_true, if_false]); rfl); (simp only [Act.put, List.setIfInBounds_toArray, List.set_cons_succ, List.set_cons_zero]); go_big_quiet_on)))); (with_reducible refine wpQuiet_nil ?_); intro W' hM)
      go_wp2
      go_roundw
      case rel => exact ⟨k + 1, by omega, by go_num, hM⟩
      case measure => simp [intOf]; omega
    · obtain rfl : k = n := by omega
      go_wp2
      go_ret
      exact ⟨rfl, hM.below⟩

/-- The mark j, as a cell. -/
def mkUint16 (j : Nat) : Value := .int .u16 (IntKind.u16.wrap (j : Int))
set_option maxRecDepth 100000 in
set_option maxHeartbeats 1000000 in
/-- markUint16S writes its marks into the list. -/
theorem markUint16S_list (b0 : Base) (K : Blocks) (b n c N k0 : Nat) (F : Nat → Value) (hN : n ≤ N) (hn : n ≤ 1048576) (hk0 : k0 ≤ 100000000) (hb : b0.B ≤ b) (w : World) (hM0 : Mem b0 ((b, N, F) :: K) w) :
    Calls Tryd.prog 69 #[.slice (some ⟨b, 0, none⟩) n c, .int .i64 k0] w fun e w' => e = .returned (.int .i64 ((k0 + n : Nat) : Int)) ∧ ∃ G, (∀ j, j < n → G j = mkUint16 (k0 + j)) ∧ Mem b0 ((b, N, G) :: K) w' := by
  have hM := hM0
  clear hM0
  go_enter Tryd.func69, Tryd.ntmps69
  go_wp2
  go_loopw [1, 5] (fun t i wr => ∃ k : Nat, k ≤ n ∧ t = .int .i64 ((k0 + k : Nat) : Int) ∧ i = .int .i64 k ∧ ∃ G, Hid (∀ j, j < k → G j = mkUint16 (k0 + j)) ∧ Mem b0 ((b, N, G) :: K) wr) (fun _ i _ => n - (intOf i).toNat)
  case atStart => exact ⟨0, by omega, by simp, rfl, F, Lib.hid (fun j hj => absurd hj (by omega)), hM⟩
  case round =>
    clear hM
    obtain ⟨k, hk, rfl, rfl, G, hG, hM⟩ := hrel
    by_cases hlt : k < n
    · have l2 : (k : Int) < n := by omega
      obtain ⟨mm, hm⟩ : ∃ m : Nat, m = k0 + k := ⟨_, rfl⟩
      rw [← hm]
      have n1 : IntKind.i64.wrap ((mm : Int) + 1) = (mm : Int) + 1 := IntWalk.i64_in _ (by omega)
      have n2 : IntKind.i64.wrap (mm : Int) = (mm : Int) := IntWalk.i64_in _ (by omega)
      have hl : (mm : Int) + 1 = ((k0 + (k + 1) : Nat) : Int) := by omega
      obtain ⟨xx, hxx⟩ : ∃ x, IntKind.u16.wrap (mm : Int) = x := ⟨_, rfl⟩
      have Hxx := Lib.hid hxx
      have Hl := Lib.hid hl
      have Hm := Lib.hid hm
      clear hm hl
      go_wp2_with (first | (refine wpList_set1 rfl _ _ _ rfl _ _ rfl _ rfl ?_ hM 0 rfl (by assumption) (cellTab _ rfl) (by omega) ?_; (first | rfl | exact h1 _); intro W' hM'; clear hM; have hM := hM'; clear hM'; simp [List.set, Act.eval] at hM))
      go_roundw
      case rel => exact ⟨k + 1, by omega, by first | exact congrArg (Value.int .i64) Hl.out | rfl, by go_num, _, Lib.hid (fun j hj => by
        simp only [upd]
        by_cases e0 : j = k
        · rw [if_pos e0, e0, ← Hm.out]; exact congrArg (Value.int .u16) Hxx.out.symm
        · rw [if_neg e0]; exact hG.out j (by omega)), hM⟩
      case measure => simp [intOf]; omega
    · obtain rfl : k = n := by omega
      go_wp2
      go_ret
      exact ⟨rfl, G, hG.out, hM⟩

set_option maxRecDepth 100000 in
set_option maxHeartbeats 1000000 in
/-- heldUint16S finds the marks. -/
theorem heldUint16S_list (b n c N k0 : Nat) (G : Nat → Value) (hN : n ≤ N) (hn : n ≤ 1048576) (hk0 : k0 ≤ 100000000) (hG : ∀ j, j < n → G j = mkUint16 (k0 + j)) (w : World) (hA : At w b N G) :
    Calls Tryd.prog 77 #[.slice (some ⟨b, 0, none⟩) n c, .int .i64 k0] w fun e w' => e = .returned (.int .i64 ((k0 + n : Nat) : Int)) ∧ Below w.heap.size w w' := by
  have hM : Mem w [(b, N, G)] w := (Mem.nil w).old hA (fun i p h => by simp at h)
  have Hg := Lib.hid hG
  clear hA hG
  go_enter Tryd.func77, Tryd.ntmps77
  go_wp2
  go_loopw [1, 5] (fun t i wr => ∃ k : Nat, k ≤ n ∧ t = .int .i64 ((k0 + k : Nat) : Int) ∧ i = .int .i64 k ∧ Mem w [(b, N, G)] wr) (fun _ i _ => n - (intOf i).toNat)
  case atStart => exact ⟨0, by omega, by simp, rfl, hM⟩
  case round =>
    clear hM
    obtain ⟨k, hk, rfl, rfl, hM⟩ := hrel
    by_cases hlt : k < n
    · have l2 : (k : Int) < n := by omega
      obtain ⟨mm, hm⟩ : ∃ m : Nat, m = k0 + k := ⟨_, rfl⟩
      obtain ⟨xx, hxx⟩ : ∃ x, IntKind.u16.wrap (mm : Int) = x := ⟨_, rfl⟩
      have g0 : G k = .int .u16 xx := by rw [Hg.out k hlt, ← hxx, hm]; rfl
      have nx : (xx != xx) = false := by simp
      rw [← hm]
      have n1 : IntKind.i64.wrap ((mm : Int) + 1) = (mm : Int) + 1 := IntWalk.i64_in _ (by omega)
      have n2 : IntKind.i64.wrap (mm : Int) = (mm : Int) := IntWalk.i64_in _ (by omega)
      have hl : (mm : Int) + 1 = ((k0 + (k + 1) : Nat) : Int) := by omega
      have Hl := Lib.hid hl
      clear hm hl
      go_wp2_with (first | (refine wpList_get1 rfl _ _ rfl _ _ rfl hM 0 rfl (cellTab _ rfl) (by omega) _ g0 ?_))
      go_roundw
      case rel => exact ⟨k + 1, by omega, by first | exact congrArg (Value.int .i64) Hl.out | rfl, by go_num, hM⟩
      case measure => simp [intOf]; omega
    · obtain rfl : k = n := by omega
      go_wp2
      go_ret
      exact ⟨rfl, hM.below⟩
end Go.Proofs.YthodkbmenndnoaaDoor

/-
  laws.markHerd, heldHerd over herds whose lists hold room.
-/
namespace Go.Proofs.YthodkbmenndnoaaDoor
open Go Go.RowKit Go.BigFrame

set_option maxRecDepth 100000 in
set_option maxHeartbeats 1000000 in
theorem markHerd_any (b0 : Base) (K : Blocks) (e1 e2 e3 n1 n2 n3 c1 c2 c3 N1 N2 N3 k0 : Nat) (F1 F2 F3 hv : Nat → Value) (a1 : hv 0 = .slice (some ⟨e1, 0, none⟩) n1 c1) (a2 : hv 1 = .slice (some ⟨e2, 0, none⟩) n2 c2) (a3 : hv 2 = .slice (some ⟨e3, 0, none⟩) n3 c3)
    (hN1 : n1 ≤ N1) (hN2 : n2 ≤ N2) (hN3 : n3 ≤ N3) (hn1 : n1 ≤ 1048576) (hn2 : n2 ≤ 1048576) (hn3 : n3 ≤ 1048576) (hk0 : k0 ≤ 50000000) (h1 : b0.B ≤ e1) (h2 : b0.B ≤ e2) (h3 : b0.B ≤ e3) (w : World) (hM0 : Mem b0 ((e1, N1, F1) :: (e2, N2, F2) :: (e3, N3, F3) :: K) w) :
    Calls Tryd.prog 23 #[.agg (arr 3 hv), .int .i64 k0] w fun e w' => e = .returned (.int .i64 ((k0 + n1 + n2 + n3 : Nat) : Int)) ∧ ∃ G1 G2 G3, (∀ j, j < n1 → G1 j = mkString (k0 + j)) ∧ (∀ j, j < n2 → G2 j = mkInt16 (k0 + n1 + j)) ∧ (∀ j, j < n3 → G3 j = mkUint16 (k0 + n1 + n2 + j)) ∧ Mem b0 ((e1, N1, G1) :: (e2, N2, G2) :: (e3, N3, G3) :: K) w' := by
  have hM := hM0
  clear hM0
  obtain ⟨k1, hk1⟩ : ∃ q : Nat, q = k0 + n1 := ⟨_, rfl⟩
  obtain ⟨k2, hk2⟩ : ∃ q : Nat, q = k1 + n2 := ⟨_, rfl⟩
  obtain ⟨k3, hk3⟩ : ∃ q : Nat, q = k2 + n3 := ⟨_, rfl⟩
  rw [← hk1, ← hk2, ← hk3]
  have b1 : k1 ≤ 100000000 := by omega
  have b2 : k2 ≤ 100000000 := by omega
  have b00 : k0 ≤ 100000000 := by omega
  have HK1 := Lib.hid hk1
  have HK2 := Lib.hid hk2
  have HK3 := Lib.hid hk3
  clear hk1 hk2 hk3
  have tk_x1 : True := trivial; have tk_m1 : True := trivial; have tk_m2 : True := trivial; have tk_m3 : True := trivial
  go_enter Tryd.func23, Tryd.ntmps23
  go_wp2_with (first | (have _t := tk_x1; refine wpList_box rfl _ _ rfl _ _ rfl hM ?_; intro x1 W' hx1 hM'; clear hM tk_x1; have hM := hM'; clear hM') | (refine wpList_get1 rfl _ _ rfl _ _ rfl hM 0 rfl (cellTab _ rfl) (by omega) _ a1 ?_) | (refine wpList_get1 rfl _ _ rfl _ _ rfl hM 1 rfl (cellTab _ rfl) (by omega) _ a2 ?_) | (refine wpList_get1 rfl _ _ rfl _ _ rfl hM 2 rfl (cellTab _ rfl) (by omega) _ a3 ?_) | (have _t := tk_m1; go_at_call 67; have hMf := hM.toFront 1 rfl; simp only [List.eraseIdx_cons_succ, List.eraseIdx_cons_zero] at hMf; refine (markStringS_list b0 _ e1 n1 c1 N1 k0 F1 hN1 hn1 b00 h1 _ hMf).mono ?_; clear hMf; rintro e W' ⟨rfl, G1, hG1, hM'⟩; rw [← HK1.out]; have HG1 := Lib.hid hG1; clear hM hG1 tk_m1; have hM := hM'; clear hM') | (have _t := tk_m2; go_at_call 68; have hMf := hM.toFront 2 rfl; simp only [List.eraseIdx_cons_succ, List.eraseIdx_cons_zero] at hMf; refine (markInt16S_list b0 _ e2 n2 c2 N2 k1 F2 hN2 hn2 b1 h2 _ hMf).mono ?_; clear hMf; rintro e W' ⟨rfl, G2, hG2, hM'⟩; rw [← HK2.out]; have HG2 := Lib.hid hG2; clear hM hG2 tk_m2; have hM := hM'; clear hM') | (have _t := tk_m3; go_at_call 69; have hMf := hM.toFront 3 rfl; simp only [List.eraseIdx_cons_succ, List.eraseIdx_cons_zero] at hMf; refine (markUint16S_list b0 _ e3 n3 c3 N3 k2 F3 hN3 hn3 b2 h3 _ hMf).mono ?_; clear hMf; rintro e W' ⟨rfl, G3, hG3, hM'⟩; rw [← HK3.out]; have HG3 := Lib.hid hG3; clear hM hG3 tk_m3; have hM := hM'; clear hM'))
  have hA := hM.toFront 3 rfl
  simp only [List.eraseIdx_cons_succ, List.eraseIdx_cons_zero] at hA
  have hB := hA.drop.toFront 1 rfl
  simp only [List.eraseIdx_cons_succ, List.eraseIdx_cons_zero] at hB
  have hC := hB.toFront 2 rfl
  simp only [List.eraseIdx_cons_succ, List.eraseIdx_cons_zero] at hC
  go_ret
  exact ⟨rfl, G1, G2, G3, HG1.out, HG2.out, HG3.out, hC⟩

set_option maxRecDepth 100000 in
set_option maxHeartbeats 1000000 in
theorem heldHerd_any (e1 e2 e3 n1 n2 n3 c1 c2 c3 N1 N2 N3 k0 : Nat) (G1 G2 G3 hv : Nat → Value) (a1 : hv 0 = .slice (some ⟨e1, 0, none⟩) n1 c1) (a2 : hv 1 = .slice (some ⟨e2, 0, none⟩) n2 c2) (a3 : hv 2 = .slice (some ⟨e3, 0, none⟩) n3 c3)
    (hN1 : n1 ≤ N1) (hN2 : n2 ≤ N2) (hN3 : n3 ≤ N3) (hn1 : n1 ≤ 1048576) (hn2 : n2 ≤ 1048576) (hn3 : n3 ≤ 1048576) (hk0 : k0 ≤ 50000000)
    (g1 : ∀ j, j < n1 → G1 j = mkString (k0 + j)) (g2 : ∀ j, j < n2 → G2 j = mkInt16 (k0 + n1 + j)) (g3 : ∀ j, j < n3 → G3 j = mkUint16 (k0 + n1 + n2 + j)) (w : World) (A1 : At w e1 N1 G1) (A2 : At w e2 N2 G2) (A3 : At w e3 N3 G3) :
    Calls Tryd.prog 30 #[.agg (arr 3 hv), .int .i64 k0] w fun e w' => e = .returned (.int .i64 ((k0 + n1 + n2 + n3 : Nat) : Int)) ∧ Below w.heap.size w w' := by
  have hM := Mem.nil w
  obtain ⟨k1, hk1⟩ : ∃ q : Nat, q = k0 + n1 := ⟨_, rfl⟩
  obtain ⟨k2, hk2⟩ : ∃ q : Nat, q = k1 + n2 := ⟨_, rfl⟩
  obtain ⟨k3, hk3⟩ : ∃ q : Nat, q = k2 + n3 := ⟨_, rfl⟩
  rw [← hk1] at g2 g3
  rw [← hk2] at g3
  rw [← hk1, ← hk2, ← hk3]
  have b1 : k1 ≤ 100000000 := by omega
  have b2 : k2 ≤ 100000000 := by omega
  have b00 : k0 ≤ 100000000 := by omega
  have hd1 : decide ((k1 : Int) < 0) = false := decide_eq_false (by omega)
  have hn1' : ¬ (k1 : Int) < 0 := by omega
  have hd2 : decide ((k2 : Int) < 0) = false := decide_eq_false (by omega)
  have hn2' : ¬ (k2 : Int) < 0 := by omega
  have hd3 : decide ((k3 : Int) < 0) = false := decide_eq_false (by omega)
  have hn3' : ¬ (k3 : Int) < 0 := by omega
  have HK1 := Lib.hid hk1
  have HK2 := Lib.hid hk2
  have HK3 := Lib.hid hk3
  have HG1 := Lib.hid g1
  have HG2 := Lib.hid g2
  have HG3 := Lib.hid g3
  have HA1 := Lib.hid A1
  have HA2 := Lib.hid A2
  have HA3 := Lib.hid A3
  clear hk1 hk2 hk3 g1 g2 g3 A1 A2 A3
  have tk_x1 : True := trivial; have tk_m1 : True := trivial; have tk_m2 : True := trivial; have tk_m3 : True := trivial
  go_enter Tryd.func30, Tryd.ntmps30
  go_wp2_with (first | (have _t := tk_x1; refine wpList_box rfl _ _ rfl _ _ rfl hM ?_; intro x1 W' hx1 hM'; clear hM tk_x1; have hM := hM'; clear hM') | (refine wpList_get1 rfl _ _ rfl _ _ rfl hM 0 rfl (cellTab _ rfl) (by omega) _ a1 ?_) | (refine wpList_get1 rfl _ _ rfl _ _ rfl hM 0 rfl (cellTab _ rfl) (by omega) _ a2 ?_) | (refine wpList_get1 rfl _ _ rfl _ _ rfl hM 0 rfl (cellTab _ rfl) (by omega) _ a3 ?_) | (have _t := tk_m1; go_at_call 75; refine (heldStringS_list e1 n1 c1 N1 k0 G1 hN1 hn1 b00 HG1.out _ (HA1.out.below hM.below HA1.out.lt)).mono ?_; rintro e W' ⟨rfl, hb'⟩; rw [← HK1.out]; have hM' := hM.call hb'; clear hM hb' tk_m1; have hM := hM'; clear hM') | (have _t := tk_m2; go_at_call 76; refine (heldInt16S_list e2 n2 c2 N2 k1 G2 hN2 hn2 b1 HG2.out _ (HA2.out.below hM.below HA2.out.lt)).mono ?_; rintro e W' ⟨rfl, hb'⟩; rw [← HK2.out]; have hM' := hM.call hb'; clear hM hb' tk_m2; have hM := hM'; clear hM') | (have _t := tk_m3; go_at_call 77; refine (heldUint16S_list e3 n3 c3 N3 k2 G3 hN3 hn3 b2 HG3.out _ (HA3.out.below hM.below HA3.out.lt)).mono ?_; rintro e W' ⟨rfl, hb'⟩; rw [← HK3.out]; have hM' := hM.call hb'; clear hM hb' tk_m3; have hM := hM'; clear hM'))
  go_ret
  exact ⟨rfl, hM.below⟩
end Go.Proofs.YthodkbmenndnoaaDoor

/-
  laws.eqInt64S, markInt64S, heldInt64S over lists that hold room behind their end.
-/
namespace Go.Proofs.YthodkbmenndnoaaDoor
open Go Go.RowKit Go.BigFrame Go.ChangeShapes Go.WideShapes Go.Deep

theorem eqInt64S_zero (a a' : Option Addr) (c c' : Nat) (w : World) : Calls Tryd.prog 22 #[.slice a 0 c, .slice a' 0 c'] w fun e w' => e = .returned (.bool true) ∧ Below w.heap.size w w' := by
  go_enter Tryd.func22, Tryd.ntmps22
  go_wp2
  refine wp_loop_rounds 1 ?_
  rw [rounds_succ]
  go_wp2
  go_ret
  exact ⟨rfl, Below.refl _ _⟩
theorem markInt64S_zero (a : Option Addr) (c : Nat) (k : Int) (w : World) : Calls Tryd.prog 24 #[.slice a 0 c, .int .i64 k] w fun e w' => e = .returned (.int .i64 k) ∧ Below w.heap.size w w' := by
  go_enter Tryd.func24, Tryd.ntmps24
  go_wp2
  refine wp_loop_rounds 1 ?_
  rw [rounds_succ]
  go_wp2
  go_ret
  exact ⟨rfl, Below.refl _ _⟩
theorem heldInt64S_zero (a : Option Addr) (c : Nat) (k : Int) (w : World) : Calls Tryd.prog 25 #[.slice a 0 c, .int .i64 k] w fun e w' => e = .returned (.int .i64 k) ∧ Below w.heap.size w w' := by
  go_enter Tryd.func25, Tryd.ntmps25
  go_wp2
  refine wp_loop_rounds 1 ?_
  rw [rounds_succ]
  go_wp2
  go_ret
  exact ⟨rfl, Below.refl _ _⟩

set_option maxRecDepth 100000 in
set_option maxHeartbeats 1000000 in
/-- eqInt64S of two lists that hold the same. -/
theorem eqInt64S_list (b b' n c c' N N' : Nat) (F F' : Nat → Value) (ys : Nat → Int) (hF : ∀ j, j < n → F j = vInt64S ys j) (hF' : ∀ j, j < n → F' j = vInt64S ys j) (hN : n ≤ N) (hN' : n ≤ N') (hn : n ≤ 1048576) (w : World) (hA : At w b N F) (hA' : At w b' N' F') (hne : b ≠ b') :
    Calls Tryd.prog 22 #[.slice (some ⟨b, 0, none⟩) n c, .slice (some ⟨b', 0, none⟩) n c'] w fun e w' => e = .returned (.bool true) ∧ Below w.heap.size w w' := by
  have hM : Mem w [(b, N, F), (b', N', F')] w := ((Mem.nil w).old hA (fun i p h => by simp at h)).old hA' (fun i p h => by
    match i, h with
    | 0, h => simp at h; rw [← h]; exact hne
    | _ + 1, h => simp at h)
  have Hf := Lib.hid hF
  have Hf' := Lib.hid hF'
  clear hA hA' hF hF'
  go_enter Tryd.func22, Tryd.ntmps22
  go_wp2
  go_loopw [5] (fun i wr => ∃ k : Nat, k ≤ n ∧ i = .int .i64 k ∧ Mem w [(b, N, F), (b', N', F')] wr) (fun i _ => n - (intOf i).toNat)
  case atStart => exact ⟨0, by omega, rfl, hM⟩
  case round =>
    clear hM
    obtain ⟨k, hk, rfl, hM⟩ := hrel
    by_cases hlt : k < n
    · have l2 : (k : Int) < n := by omega
      have c1 : F k = .int .i64 (ys k) := Hf.out k hlt
      have c2 : F' k = .int .i64 (ys k) := Hf'.out k hlt
      have hb : (ys k != ys k) = false := by simp
      go_wp2
      ((try simp only [Act.put, List.setIfInBounds_toArray, List.set_cons_succ, List.set_cons_zero]); refine wp_region_mem (by kernel_rfl) (by kernel_rfl) hM ?_; clear hM; (repeat (first | go_big_quiet_skip | (go_big_quiet_want; first | (refine quiet_get1 _ _ rfl _ _ rfl 1 rfl cellInt64S (by omega) _ c2 ?_; (simp only [Act.put, List.setIfInBounds_toArray, List.set_cons_succ, List.set_cons_zero]); go_big_quiet_on) | (refine quiet_get1 _ _ rfl _ _ rfl 0 rfl cellInt64S (by omega) _ c1 ?_; (simp only [Act.put, List.setIfInBounds_toArray, List.set_cons_succ, List.set_cons_zero]); go_big_quiet_on) | (refine quiet_val ?_; apply Exists.intro; refine ⟨fun W => ?_, ?_⟩; (go_simp; (try simp only [l2, hb, if_true, Bool.false_eq_true, if_false]); rfl); (simp only [Act.put, List.setIfInBounds_toArray, List.set_cons_succ, List.set_cons_zero]); go_big_quiet_on)))); (with_reducible refine wpQuiet_nil ?_); intro W' hM)
      go_wp2
      go_roundw
      case rel => exact ⟨k + 1, by omega, by go_num, hM⟩
      case measure => simp [intOf]; omega
    · obtain rfl : k = n := by omega
      go_wp2
      go_ret
      exact ⟨rfl, hM.below⟩

/-- The mark j, as a cell. -/
def mkInt64 (j : Nat) : Value := .int .i64 (j : Int)
set_option maxRecDepth 100000 in
set_option maxHeartbeats 1000000 in
/-- markInt64S writes its marks into the list. -/
theorem markInt64S_list (b0 : Base) (K : Blocks) (b n c N k0 : Nat) (F : Nat → Value) (hN : n ≤ N) (hn : n ≤ 1048576) (hk0 : k0 ≤ 100000000) (hb : b0.B ≤ b) (w : World) (hM0 : Mem b0 ((b, N, F) :: K) w) :
    Calls Tryd.prog 24 #[.slice (some ⟨b, 0, none⟩) n c, .int .i64 k0] w fun e w' => e = .returned (.int .i64 ((k0 + n : Nat) : Int)) ∧ ∃ G, (∀ j, j < n → G j = mkInt64 (k0 + j)) ∧ Mem b0 ((b, N, G) :: K) w' := by
  have hM := hM0
  clear hM0
  go_enter Tryd.func24, Tryd.ntmps24
  go_wp2
  go_loopw [1, 5] (fun t i wr => ∃ k : Nat, k ≤ n ∧ t = .int .i64 ((k0 + k : Nat) : Int) ∧ i = .int .i64 k ∧ ∃ G, Hid (∀ j, j < k → G j = mkInt64 (k0 + j)) ∧ Mem b0 ((b, N, G) :: K) wr) (fun _ i _ => n - (intOf i).toNat)
  case atStart => exact ⟨0, by omega, by simp, rfl, F, Lib.hid (fun j hj => absurd hj (by omega)), hM⟩
  case round =>
    clear hM
    obtain ⟨k, hk, rfl, rfl, G, hG, hM⟩ := hrel
    by_cases hlt : k < n
    · have l2 : (k : Int) < n := by omega
      obtain ⟨mm, hm⟩ : ∃ m : Nat, m = k0 + k := ⟨_, rfl⟩
      rw [← hm]
      have n1 : IntKind.i64.wrap ((mm : Int) + 1) = (mm : Int) + 1 := IntWalk.i64_in _ (by omega)
      have n2 : IntKind.i64.wrap (mm : Int) = (mm : Int) := IntWalk.i64_in _ (by omega)
      have hl : (mm : Int) + 1 = ((k0 + (k + 1) : Nat) : Int) := by omega
      have Hl := Lib.hid hl
      have Hm := Lib.hid hm
      clear hm hl
      go_wp2_with (first | (refine wpList_set1 rfl _ _ _ rfl _ _ rfl _ rfl ?_ hM 0 rfl (by assumption) (cellTab _ rfl) (by omega) ?_; (first | rfl | exact h1 _); intro W' hM'; clear hM; have hM := hM'; clear hM'; simp [List.set, Act.eval] at hM))
      go_roundw
      case rel => exact ⟨k + 1, by omega, by first | exact congrArg (Value.int .i64) Hl.out | rfl, by go_num, _, Lib.hid (fun j hj => by
        simp only [upd]
        by_cases e0 : j = k
        · rw [if_pos e0, e0, ← Hm.out]; rfl
        · rw [if_neg e0]; exact hG.out j (by omega)), hM⟩
      case measure => simp [intOf]; omega
    · obtain rfl : k = n := by omega
      go_wp2
      go_ret
      exact ⟨rfl, G, hG.out, hM⟩

set_option maxRecDepth 100000 in
set_option maxHeartbeats 1000000 in
/-- heldInt64S finds the marks. -/
theorem heldInt64S_list (b n c N k0 : Nat) (G : Nat → Value) (hN : n ≤ N) (hn : n ≤ 1048576) (hk0 : k0 ≤ 100000000) (hG : ∀ j, j < n → G j = mkInt64 (k0 + j)) (w : World) (hA : At w b N G) :
    Calls Tryd.prog 25 #[.slice (some ⟨b, 0, none⟩) n c, .int .i64 k0] w fun e w' => e = .returned (.int .i64 ((k0 + n : Nat) : Int)) ∧ Below w.heap.size w w' := by
  have hM : Mem w [(b, N, G)] w := (Mem.nil w).old hA (fun i p h => by simp at h)
  have Hg := Lib.hid hG
  clear hA hG
  go_enter Tryd.func25, Tryd.ntmps25
  go_wp2
  go_loopw [1, 5] (fun t i wr => ∃ k : Nat, k ≤ n ∧ t = .int .i64 ((k0 + k : Nat) : Int) ∧ i = .int .i64 k ∧ Mem w [(b, N, G)] wr) (fun _ i _ => n - (intOf i).toNat)
  case atStart => exact ⟨0, by omega, by simp, rfl, hM⟩
  case round =>
    clear hM
    obtain ⟨k, hk, rfl, rfl, hM⟩ := hrel
    by_cases hlt : k < n
    · have l2 : (k : Int) < n := by omega
      obtain ⟨mm, hm⟩ : ∃ m : Nat, m = k0 + k := ⟨_, rfl⟩
      have g0 : G k = .int .i64 (mm : Int) := by rw [Hg.out k hlt, hm]; rfl
      rw [← hm]
      have n1 : IntKind.i64.wrap ((mm : Int) + 1) = (mm : Int) + 1 := IntWalk.i64_in _ (by omega)
      have n2 : IntKind.i64.wrap (mm : Int) = (mm : Int) := IntWalk.i64_in _ (by omega)
      have hl : (mm : Int) + 1 = ((k0 + (k + 1) : Nat) : Int) := by omega
      have Hl := Lib.hid hl
      clear hm hl
      go_wp2_with (first | (refine wpList_get1 rfl _ _ rfl _ _ rfl hM 0 rfl (cellTab _ rfl) (by omega) _ g0 ?_))
      go_roundw
      case rel => exact ⟨k + 1, by omega, by first | exact congrArg (Value.int .i64) Hl.out | rfl, by go_num, hM⟩
      case measure => simp [intOf]; omega
    · obtain rfl : k = n := by omega
      go_wp2
      go_ret
      exact ⟨rfl, hM.below⟩
end Go.Proofs.YthodkbmenndnoaaDoor

/-
  laws.FnExactNeedsOf returns true.
-/
namespace Go.Proofs.YthodkbmenndnoaaDoor
open Go Go.RowKit Go.BigFrame Go.ChangeShapes Go.WideShapes Go.Deep

set_option maxRecDepth 100000 in
set_option maxHeartbeats 8000000 in
theorem lawNeedsOf_any {a : Nat → Addr} (v0 : Value) (d0 : Hd) (hd0 : FitsH d0) (v1 : Value) (n1 : Nat) (ys1 : Nat → Int) (hn1 : n1 ≤ maxLen) (w : World) (hE : Errs a w ∧ Tab w) (hG0 : HerdArg w v0 d0)  (hG1 : Arg1 w v1 n1 (vInt64S ys1)) :
    Calls Tryd.prog 12 #[v0, v1] w fun e w' => e = .returned (.bool true) ∧ Below w.heap.size w w' := by
  have hM := Mem.nil w
  have hv0 : ∃ f, v0 = .agg (arr 3 f) := by obtain ⟨v1, v2, v3, e, -⟩ := hG0; exact ⟨_, e⟩
  obtain ⟨f0, rfl⟩ := hv0
  obtain ⟨a1, c1, hv1⟩ : ∃ a c, v1 = .slice a n1 c := by
    rcases hG1 with ⟨h1, h2⟩ | ⟨b, o, c, h, _⟩
    · exact ⟨none, 0, by rw [h2, h1]⟩
    · exact ⟨_, c, h⟩
  subst hv1
  have Hn1 := Lib.hid hn1
  have HG0 := Lib.hid hG0
  have HG1 := Lib.hid hG1
  have HE := Lib.hid hE.1
  have HT := Lib.hid hE.2
  clear hE hG0 hG1
  by_cases hI1 : 1048576 < n1
  · have z1 : decide ((1048576 : Int) < n1) = true := decide_eq_true (by omega)
    have tk_b0 : True := trivial
    go_enter Tryd.func12, Tryd.ntmps12
    go_wp2_with (first | (have _t := tk_b0; refine wpList_box rfl _ _ rfl _ _ rfl hM ?_; intro b0 W' hb0 hM'; clear hM tk_b0; have hM := hM'; clear hM'))
    go_ret
    exact ⟨rfl, hM.below⟩
  have z1 : decide ((1048576 : Int) < n1) = false := decide_eq_false (by omega)
  have hb1 : n1 ≤ 1048576 := by omega
  have tk_b0 : True := trivial; have tk_q0 : True := trivial
  go_enter Tryd.func12, Tryd.ntmps12
  go_wp2_with (first | (have _t := tk_b0; refine wpList_box rfl _ _ rfl _ _ rfl hM ?_; intro b0 W' hb0 hM'; clear hM tk_b0; have hM := hM'; clear hM') | (have _t := tk_q0; refine wpList_get rfl _ _ rfl _ _ rfl hM 0 rfl (rowTab _ _ rfl) (by omega) ?_; simp only [Nat.zero_add]; clear tk_q0))
  go_at_call 15
  refine (szHerd_any _ d0 1048576 hd0 (by omega) (by omega) _ (HG0.out.below hM.below)).mono ?_
  rintro e W' ⟨⟨r0, rfl, rfl | ⟨p0, m0, la0, lb0, lc0⟩⟩, hb⟩
  · have hM' := hM.call hb
    clear hM hb
    go_wp2
    go_ret
    exact ⟨rfl, hM'.below⟩
  have hM' := hM.call hb
  clear hM hb
  have hM := hM'
  clear hM'
  have zz0 : decide (r0 < 0) = false := decide_eq_false (by omega)
  have HA0 : d0.n1 ≤ 1048576 := by omega
  have HB0 : d0.n2 ≤ 1048576 := by omega
  have HC0 : d0.n3 ≤ 1048576 := by omega
  have hS := fun (x0 y0 z0 : Nat) (x1 : Nat) (W : World) (hB0 : Mem W (hdB d0 x0 y0 z0) W) (hB1 : At W x1 n1 (vInt64S ys1)) => specNeedsOf_any d0 x0 y0 z0 hd0 x1 n1 ys1 hb1 W hB0 hB1
  have hI := fun (x0 y0 z0 : Nat) (x1 : Nat) (W : World) (hB0 : Mem W (hdB d0 x0 y0 z0) W) (hB1 : At W x1 n1 (vInt64S ys1)) (hE : Errs a W) (hT : Tab W) => implNeedsOf_any (a := a) d0 x0 y0 z0 hd0 x1 n1 ys1 hb1 W hB0 hB1 hE hT
  have hLen : needL d0 n1 ys1 ≤ 1048576 := by unfold needL; split; have := cntG_le (numsB_iff.1 (Bool.and_eq_true_iff.1 ‹_›).2).2 n1 (Nat.le_refl _); omega; omega
  generalize needL d0 n1 ys1 = LN at hS hI hLen
  generalize needF d0 ys1 n1 = HS0 at hS hI
  generalize needC d0 n1 ys1 = CC at hS hI
  have HLn := Lib.hid hLen
  clear hLen
  have HS := Lib.hid hS
  have HI := Lib.hid hI
  clear hS hI
  rcases Nat.eq_zero_or_pos LN with hn | hn
  · have Hn := Lib.hid hn
    clear hn
    obtain ⟨KK0, hKK0⟩ : ∃ q : Nat, q = 1 + d0.n1 + d0.n2 + d0.n3 := ⟨_, rfl⟩
    have hbKK0 : KK0 ≤ 10000000 := by omega
    have hdKK0 : decide ((KK0 : Int) < 0) = false := decide_eq_false (by omega)
    have hnKK0 : ¬ (KK0 : Int) < 0 := by omega
    obtain ⟨KK1, hKK1⟩ : ∃ q : Nat, q = KK0 + n1 := ⟨_, rfl⟩
    have hbKK1 : KK1 ≤ 10000000 := by omega
    have hdKK1 : decide ((KK1 : Int) < 0) = false := decide_eq_false (by omega)
    have hnKK1 : ¬ (KK1 : Int) < 0 := by omega
    have HKK0 := Lib.hid (show KK0 = 1 + d0.n1 + d0.n2 + d0.n3 from by omega)
    have HKK1 := Lib.hid (show KK1 = KK0 + n1 from by omega)
    clear hKK0
    clear hKK1
    have tk_t2 : True := trivial; have tk_t3 : True := trivial; have tk_t5 : True := trivial; have tk_t6 : True := trivial; have tk_t8 : True := trivial; have tk_t9 : True := trivial; have tk_x10 : True := trivial; have tk_t11 : True := trivial; have tk_t13 : True := trivial; have tk_t14 : True := trivial; have tk_t15 : True := trivial; have tk_t16 : True := trivial
    go_wp2_with (first | (have _t := tk_t2; refine wpList_get rfl _ _ rfl _ _ rfl hM 0 rfl (rowTab _ _ rfl) (by omega) ?_; simp only [Nat.zero_add]; clear tk_t2) | (have _t := tk_t3; go_at_call 17; refine (toHerd_any _ d0 HA0 HB0 HC0 _ (HG0.out.below hM.below)).mono ?_; rintro e W' ⟨h1a, h1b, h1c, rfl, g1, g2, g3, hK⟩; have h1ga := Nat.le_trans hM.size g1; have h1gb := Nat.le_trans hM.size g2; have h1gc := Nat.le_trans hM.size g3; have hM' := hM.front hK.below hK (hdB_ge g1 g2 g3); simp only [hdB, List.cons_append, List.nil_append] at hM'; clear hM hK g1 g2 g3; have hM := hM'; clear hM'; clear tk_t3) | (have _t := tk_t5; go_at_call 34; (with_reducible refine (toInt64S_any (.slice a1 n1 c1) n1 ys1 hb1 _ (HG1.out.below hM.below)).mono ?_); rintro e W' ⟨y4, rfl, hy4, hA', hcb⟩; have h2y4 := Nat.le_trans hM.size hy4; have hM' := hM.fresh' hcb hA' hy4; simp only [List.cons_append, List.nil_append] at hM'; clear hM hcb hA'; have hM := hM'; clear hM'; clear tk_t5) | (have _t := tk_t6; go_at_call 42; refine (HS.out h1a h1b h1c y4 _ (three_of hM 0 rfl) (hM.ats 4 _ _ _ rfl)).mono ?_; rintro e W' ⟨vr, rfl, hL0⟩; obtain ⟨aA, cA, rfl, hbl⟩ := hL0.zero Hn.out; have hM' := hM.call hbl; clear hM hbl hL0; have hM := hM'; clear hM'; clear tk_t6) | (have _t := tk_t8; refine wpList_get rfl _ _ rfl _ _ rfl hM 3 rfl (rowTab _ _ rfl) (by omega) ?_; simp only [Nat.zero_add]; clear tk_t8) | (have _t := tk_t9; go_at_call 17; refine (toHerd_any _ d0 HA0 HB0 HC0 _ (HG0.out.below hM.below)).mono ?_; rintro e W' ⟨h7a, h7b, h7c, rfl, g1, g2, g3, hK⟩; have h7ga := Nat.le_trans hM.size g1; have h7gb := Nat.le_trans hM.size g2; have h7gc := Nat.le_trans hM.size g3; have hM' := hM.front hK.below hK (hdB_ge g1 g2 g3); simp only [hdB, List.cons_append, List.nil_append] at hM'; clear hM hK g1 g2 g3; have hM := hM'; clear hM'; clear tk_t9) | (have _t := tk_x10; refine wpList_zero rfl _ rfl (zeroTab _ _ _ rfl) hM ?_; intro x10 W' hx10 hM'; clear hM tk_x10; have hM := hM'; clear hM') | (have _t := tk_t11; refine wpList_lay rfl _ _ _ rfl _ _ rfl _ _ rfl hM 0 rfl (by assumption) (rowTab _ _ rfl) (by omega) (fun k _ => hdV_one _ _ _ _ _) ?_; intro W' hM'; have hM2 := hM'.re 0 rfl (hdV d0 h7a h7b h7c) (fun k hk => by simp [lay, hk]); simp only [List.set] at hM2; clear hM hM'; have hM := hM2; clear hM2; clear tk_t11) | (have _t := tk_t13; go_at_call 34; (with_reducible refine (toInt64S_any (.slice a1 n1 c1) n1 ys1 hb1 _ (HG1.out.below hM.below)).mono ?_); rintro e W' ⟨y12, rfl, hy12, hA', hcb⟩; have h2y12 := Nat.le_trans hM.size hy12; have hM' := hM.fresh' hcb hA' hy12; simp only [List.cons_append, List.nil_append] at hM'; clear hM hcb hA'; have hM := hM'; clear hM'; clear tk_t13) | (have _t := tk_t14; refine wpList_get rfl _ _ rfl _ _ rfl hM 0 rfl (rowTab _ _ rfl) (by omega) ?_; simp only [Nat.zero_add]; clear tk_t14) | (have _t := tk_t15; go_at_call 43; refine (HI.out h7a h7b h7c y12 _ (three_of hM 1 rfl) (hM.ats 9 _ _ _ rfl) (HE.out.below hM.below) (HT.out.below hM.below)).mono ?_; rintro e W' ⟨vr, rfl, hL0⟩; obtain ⟨aB, cB, rfl, hbl⟩ := hL0.zero Hn.out; have hM' := hM.call hbl; clear hM hbl hL0; have hM := hM'; clear hM'; clear tk_t15) | (have _t := tk_t16; go_at_call 22; (with_reducible refine (eqInt64S_zero aB aA cB cA _).mono ?_); rintro e W' ⟨rfl, hb'⟩; have hM' := hM.call hb'; clear hM hb'; have hM := hM'; clear hM'; clear tk_t16))
    ((try simp only [Act.put, List.setIfInBounds_toArray, List.set_cons_succ, List.set_cons_zero]); refine region_reads [0, 1] #[true, true, false, false, false] 3 (by kernel_rfl) (by kernel_rfl) (by kernel_rfl) hM ?_; clear hM; (repeat (refine qs_plain rfl rfl ?_; first | (refine b_get _ _ rfl _ _ rfl 0 rfl (rowTab _ _ rfl) (by omega) ?_; (try simp only [Act.put, List.setIfInBounds_toArray, List.set_cons_succ, List.set_cons_zero])) | (refine b_get _ _ rfl _ _ rfl 7 rfl (rowTab _ _ rfl) (by omega) ?_; (try simp only [Act.put, List.setIfInBounds_toArray, List.set_cons_succ, List.set_cons_zero])))); (with_reducible refine qs_nil ?_))
    (refine mix_one (i := 2) (by kernel_rfl) rfl (by kernel_rfl) rfl ?_)
    (refine step_call_more (β := Nat × Nat × Nat) (fun y => .agg (arr 3 (hdV d0 y.1 y.2.1 y.2.2))) (fun y => hdB d0 y.1 y.2.1 y.2.2) (fun _ => True) ?_; apply Exists.intro; apply Exists.intro; refine ⟨fun W => ?_, fun W hM => ?_, ?_⟩; (go_simp; exact ⟨rfl, rfl⟩); (exact (toHerd_any _ d0 HA0 HB0 HC0 W (HG0.out.below hM.below)).mono fun e w' ⟨y1, y2, y3, he, g1, g2, g3, hK⟩ => ⟨(y1, y2, y3), he, trivial, hM.front hK.below hK (hdB_ge g1 g2 g3)⟩); rintro ⟨j17a, j17b, j17c⟩ -; (try simp only [Act.put, List.setIfInBounds_toArray, List.set_cons_succ, List.set_cons_zero]))
    (refine mix_one (i := 3) (by kernel_rfl) rfl (by kernel_rfl) rfl ?_)
    (refine step_call ?_; apply Exists.intro; apply Exists.intro; apply Exists.intro; refine ⟨fun W => ?_, fun W hM => ?_, ?_⟩; (go_simp; exact ⟨rfl, rfl⟩); (exact eqHerd_same d0 h7a h7b h7c j17a j17b j17c hd0.l1 hd0.l2 hd0.l3 W (hM.ats 4 _ _ _ rfl) (hM.ats 5 _ _ _ rfl) (hM.ats 6 _ _ _ rfl) (hM.ats 0 _ _ _ rfl) (hM.ats 1 _ _ _ rfl) (hM.ats 2 _ _ _ rfl) (hM.apart 4 0 _ _ rfl rfl (by omega)) (hM.apart 5 1 _ _ rfl rfl (by omega)) (hM.apart 6 2 _ _ rfl rfl (by omega))); (try simp only [Act.put, List.setIfInBounds_toArray, List.set_cons_succ, List.set_cons_zero]))
    (refine mix_one (i := 4) (by kernel_rfl) rfl (by kernel_rfl) rfl ?_)
    (refine step_val ?_; apply Exists.intro; refine ⟨fun W => ?_, ?_⟩; (go_simp; rfl); (simp only [Act.put, List.setIfInBounds_toArray, List.set_cons_succ, List.set_cons_zero]))
    (refine mix_end (by kernel_rfl) ?_; intro W' hM)
    simp only [hdB, List.cons_append, List.nil_append] at hM
    have tk_t19 : True := trivial; have tk_t20 : True := trivial; have tk_t21 : True := trivial; have tk_t22 : True := trivial; have tk_t23 : True := trivial; have tk_t24 : True := trivial; have tk_t25 : True := trivial; have tk_t26 : True := trivial; have tk_t28 : True := trivial; have tk_t29 : True := trivial; have tk_t31 : True := trivial; have tk_t32 : True := trivial; have tk_t33 : True := trivial; have tk_t34 : True := trivial
    go_wp2_with (first | (have _t := tk_t19; go_at_call 34; (with_reducible refine (toInt64S_any (.slice a1 n1 c1) n1 ys1 hb1 _ (HG1.out.below hM.below)).mono ?_); rintro e W' ⟨y18, rfl, hy18, hA', hcb⟩; have h2y18 := Nat.le_trans hM.size hy18; have hM' := hM.fresh' hcb hA' hy18; simp only [List.cons_append, List.nil_append] at hM'; clear hM hcb hA'; have hM := hM'; clear hM'; clear tk_t19) | (have _t := tk_t20; go_at_call 22; (with_reducible refine (eqInt64S_same _ _ n1 n1 n1 ys1 Hn1.out _ (hM.ats 12 _ _ _ rfl) (hM.ats 13 _ _ _ rfl) (hM.apart 12 13 _ _ rfl rfl (by omega))).mono ?_); rintro e W' ⟨rfl, hb'⟩; have hM' := hM.call hb'; clear hM hb'; have hM := hM'; clear hM'; clear tk_t20) | (have _t := tk_t21; refine wpList_get rfl _ _ rfl _ _ rfl hM 3 rfl (rowTab _ _ rfl) (by omega) ?_; simp only [Nat.zero_add]; clear tk_t21) | (have _t := tk_t22; go_at_call 23; have hMf := hM; have hMf := hMf.toFront 6 rfl; simp only [List.eraseIdx_cons_succ, List.eraseIdx_cons_zero] at hMf; have hMf := hMf.toFront 6 rfl; simp only [List.eraseIdx_cons_succ, List.eraseIdx_cons_zero] at hMf; have hMf := hMf.toFront 6 rfl; simp only [List.eraseIdx_cons_succ, List.eraseIdx_cons_zero] at hMf; refine (markHerd_any _ _ h7a h7b h7c d0.n1 d0.n2 d0.n3 d0.n1 d0.n2 d0.n3 d0.n1 d0.n2 d0.n3 1 _ _ _ (hdV d0 h7a h7b h7c) rfl rfl rfl (Nat.le_refl _) (Nat.le_refl _) (Nat.le_refl _) HA0 HB0 HC0 (by omega) h7ga h7gb h7gc _ hMf).mono ?_; clear hMf; rintro e W' ⟨rfl, G1, G2, G3, -, -, -, hM'⟩; rw [← HKK0.out]; clear hM; have hM := hM'; clear hM'; clear tk_t22) | (have _t := tk_t23; go_at_call 24; have hMf := hM; have hMf := hMf.toFront 12 rfl; simp only [List.eraseIdx_cons_succ, List.eraseIdx_cons_zero] at hMf; refine (markInt64S_list _ _ y12 n1 n1 n1 KK0 _ (by omega) hb1 (by omega) h2y12 _ hMf).mono ?_; clear hMf; rintro e W' ⟨rfl, Gy12, -, hM'⟩; rw [← HKK1.out]; clear hM; have hM := hM'; clear hM'; clear tk_t23) | (have _t := tk_t24; go_at_call 22; (with_reducible refine (eqInt64S_zero aB aA cB cA _).mono ?_); rintro e W' ⟨rfl, hb'⟩; have hM' := hM.call hb'; clear hM hb'; have hM := hM'; clear hM'; clear tk_t24) | (have _t := tk_t25; go_at_call 24; (with_reducible refine (markInt64S_zero _ _ _ _).mono ?_); rintro e W' ⟨rfl, hb'⟩; have hM' := hM.call hb'; clear hM hb'; have hM := hM'; clear hM'; clear tk_t25) | (have _t := tk_t26; go_at_call 25; (with_reducible refine (heldInt64S_zero _ _ _ _).mono ?_); rintro e W' ⟨rfl, hb'⟩; have hM' := hM.call hb'; clear hM hb'; have hM := hM'; clear hM'; clear tk_t26) | (have _t := tk_t28; refine wpList_get rfl _ _ rfl _ _ rfl hM 11 rfl (rowTab _ _ rfl) (by omega) ?_; simp only [Nat.zero_add]; clear tk_t28) | (have _t := tk_t29; go_at_call 17; refine (toHerd_any _ d0 HA0 HB0 HC0 _ (HG0.out.below hM.below)).mono ?_; rintro e W' ⟨h27a, h27b, h27c, rfl, g1, g2, g3, hK⟩; have h27ga := Nat.le_trans hM.size g1; have h27gb := Nat.le_trans hM.size g2; have h27gc := Nat.le_trans hM.size g3; have hM' := hM.front hK.below hK (hdB_ge g1 g2 g3); simp only [hdB, List.cons_append, List.nil_append] at hM'; clear hM hK g1 g2 g3; have hM := hM'; clear hM'; clear tk_t29) | (have _t := tk_t31; go_at_call 34; (with_reducible refine (toInt64S_any (.slice a1 n1 c1) n1 ys1 hb1 _ (HG1.out.below hM.below)).mono ?_); rintro e W' ⟨y30, rfl, hy30, hA', hcb⟩; have h2y30 := Nat.le_trans hM.size hy30; have hM' := hM.fresh' hcb hA' hy30; simp only [List.cons_append, List.nil_append] at hM'; clear hM hcb hA'; have hM := hM'; clear hM'; clear tk_t31) | (have _t := tk_t32; go_at_call 43; refine (HI.out h27a h27b h27c y30 _ (three_of hM 0 rfl) (hM.ats 17 _ _ _ rfl) (HE.out.below hM.below) (HT.out.below hM.below)).mono ?_; rintro e W' ⟨vr, rfl, hL0⟩; obtain ⟨aC, cC, rfl, hbl⟩ := hL0.zero Hn.out; have hM' := hM.call hbl; clear hM hbl hL0; have hM := hM'; clear hM'; clear tk_t32) | (have _t := tk_t33; go_at_call 22; (with_reducible refine (eqInt64S_zero aC aA cC cA _).mono ?_); rintro e W' ⟨rfl, hb'⟩; have hM' := hM.call hb'; clear hM hb'; have hM := hM'; clear hM'; clear tk_t33) | (have _t := tk_t34; go_at_call 25; (with_reducible refine (heldInt64S_zero _ _ _ _).mono ?_); rintro e W' ⟨rfl, hb'⟩; have hM' := hM.call hb'; clear hM hb'; have hM := hM'; clear hM'; clear tk_t34))
    go_ret
    exact ⟨rfl, hM.below⟩
  have Hn := Lib.hid hn
  clear hn
  obtain ⟨KK0, hKK0⟩ : ∃ q : Nat, q = 1 + d0.n1 + d0.n2 + d0.n3 := ⟨_, rfl⟩
  have hbKK0 : KK0 ≤ 10000000 := by omega
  have hdKK0 : decide ((KK0 : Int) < 0) = false := decide_eq_false (by omega)
  have hnKK0 : ¬ (KK0 : Int) < 0 := by omega
  obtain ⟨KK1, hKK1⟩ : ∃ q : Nat, q = KK0 + n1 := ⟨_, rfl⟩
  have hbKK1 : KK1 ≤ 10000000 := by omega
  have hdKK1 : decide ((KK1 : Int) < 0) = false := decide_eq_false (by omega)
  have hnKK1 : ¬ (KK1 : Int) < 0 := by omega
  have HKK0 := Lib.hid (show KK0 = 1 + d0.n1 + d0.n2 + d0.n3 from by omega)
  have HKK1 := Lib.hid (show KK1 = KK0 + n1 from by omega)
  clear hKK0
  clear hKK1
  obtain ⟨MM, hMM⟩ : ∃ q : Nat, q = 1 + LN := ⟨_, rfl⟩
  have hMd : decide ((MM : Int) < 0) = false := decide_eq_false (by omega)
  have hMn : ¬ (MM : Int) < 0 := by omega
  have HMM := Lib.hid hMM
  clear hMM
  have tk_t2 : True := trivial; have tk_t3 : True := trivial; have tk_t5 : True := trivial; have tk_t6 : True := trivial; have tk_t8 : True := trivial; have tk_t9 : True := trivial; have tk_x10 : True := trivial; have tk_t11 : True := trivial; have tk_t13 : True := trivial; have tk_t14 : True := trivial; have tk_t15 : True := trivial; have tk_t16 : True := trivial
  go_wp2_with (first | (have _t := tk_t2; refine wpList_get rfl _ _ rfl _ _ rfl hM 0 rfl (rowTab _ _ rfl) (by omega) ?_; simp only [Nat.zero_add]; clear tk_t2) | (have _t := tk_t3; go_at_call 17; refine (toHerd_any _ d0 HA0 HB0 HC0 _ (HG0.out.below hM.below)).mono ?_; rintro e W' ⟨h1a, h1b, h1c, rfl, g1, g2, g3, hK⟩; have h1ga := Nat.le_trans hM.size g1; have h1gb := Nat.le_trans hM.size g2; have h1gc := Nat.le_trans hM.size g3; have hM' := hM.front hK.below hK (hdB_ge g1 g2 g3); simp only [hdB, List.cons_append, List.nil_append] at hM'; clear hM hK g1 g2 g3; have hM := hM'; clear hM'; clear tk_t3) | (have _t := tk_t5; go_at_call 34; (with_reducible refine (toInt64S_any (.slice a1 n1 c1) n1 ys1 hb1 _ (HG1.out.below hM.below)).mono ?_); rintro e W' ⟨y4, rfl, hy4, hA', hcb⟩; have h2y4 := Nat.le_trans hM.size hy4; have hM' := hM.fresh' hcb hA' hy4; simp only [List.cons_append, List.nil_append] at hM'; clear hM hcb hA'; have hM := hM'; clear hM'; clear tk_t5) | (have _t := tk_t6; go_at_call 42; refine (HS.out h1a h1b h1c y4 _ (three_of hM 0 rfl) (hM.ats 4 _ _ _ rfl)).mono ?_; rintro e W' ⟨vr, rfl, hL0⟩; obtain ⟨bA, cA, NA, FA, rfl, hbA, hNA, hFA, hAA, hbl⟩ := hL0.some Hn.out; simp only [Nat.mul_one] at hNA hFA; have hb2A := Nat.le_trans hM.size hbA; have hM' := hM.freshQ hbl hAA hbA; clear hM hAA hbl hL0; have hM := hM'; clear hM'; clear tk_t6) | (have _t := tk_t8; refine wpList_get rfl _ _ rfl _ _ rfl hM 4 rfl (rowTab _ _ rfl) (by omega) ?_; simp only [Nat.zero_add]; clear tk_t8) | (have _t := tk_t9; go_at_call 17; refine (toHerd_any _ d0 HA0 HB0 HC0 _ (HG0.out.below hM.below)).mono ?_; rintro e W' ⟨h7a, h7b, h7c, rfl, g1, g2, g3, hK⟩; have h7ga := Nat.le_trans hM.size g1; have h7gb := Nat.le_trans hM.size g2; have h7gc := Nat.le_trans hM.size g3; have hM' := hM.front hK.below hK (hdB_ge g1 g2 g3); simp only [hdB, List.cons_append, List.nil_append] at hM'; clear hM hK g1 g2 g3; have hM := hM'; clear hM'; clear tk_t9) | (have _t := tk_x10; refine wpList_zero rfl _ rfl (zeroTab _ _ _ rfl) hM ?_; intro x10 W' hx10 hM'; clear hM tk_x10; have hM := hM'; clear hM') | (have _t := tk_t11; refine wpList_lay rfl _ _ _ rfl _ _ rfl _ _ rfl hM 0 rfl (by assumption) (rowTab _ _ rfl) (by omega) (fun k _ => hdV_one _ _ _ _ _) ?_; intro W' hM'; have hM2 := hM'.re 0 rfl (hdV d0 h7a h7b h7c) (fun k hk => by simp [lay, hk]); simp only [List.set] at hM2; clear hM hM'; have hM := hM2; clear hM2; clear tk_t11) | (have _t := tk_t13; go_at_call 34; (with_reducible refine (toInt64S_any (.slice a1 n1 c1) n1 ys1 hb1 _ (HG1.out.below hM.below)).mono ?_); rintro e W' ⟨y12, rfl, hy12, hA', hcb⟩; have h2y12 := Nat.le_trans hM.size hy12; have hM' := hM.fresh' hcb hA' hy12; simp only [List.cons_append, List.nil_append] at hM'; clear hM hcb hA'; have hM := hM'; clear hM'; clear tk_t13) | (have _t := tk_t14; refine wpList_get rfl _ _ rfl _ _ rfl hM 0 rfl (rowTab _ _ rfl) (by omega) ?_; simp only [Nat.zero_add]; clear tk_t14) | (have _t := tk_t15; go_at_call 43; refine (HI.out h7a h7b h7c y12 _ (three_of hM 1 rfl) (hM.ats 10 _ _ _ rfl) (HE.out.below hM.below) (HT.out.below hM.below)).mono ?_; rintro e W' ⟨vr, rfl, hL0⟩; obtain ⟨bB, cB, NB, FB, rfl, hbB, hNB, hFB, hAA, hbl⟩ := hL0.some Hn.out; simp only [Nat.mul_one] at hNB hFB; have hb2B := Nat.le_trans hM.size hbB; have hM' := hM.freshQ hbl hAA hbB; clear hM hAA hbl hL0; have hM := hM'; clear hM'; clear tk_t15) | (have _t := tk_t16; go_at_call 22; (with_reducible refine (eqInt64S_list bB bA LN cB cA NB NA FB FA HS0 hFB hFA hNB hNA HLn.out _ (hM.ats 0 _ _ _ rfl) (hM.ats 5 _ _ _ rfl) (hM.apart 0 5 _ _ rfl rfl (by omega))).mono ?_); rintro e W' ⟨rfl, hb'⟩; have hM' := hM.call hb'; clear hM hb'; have hM := hM'; clear hM'; clear tk_t16))
  ((try simp only [Act.put, List.setIfInBounds_toArray, List.set_cons_succ, List.set_cons_zero]); refine region_reads [0, 1] #[true, true, false, false, false] 3 (by kernel_rfl) (by kernel_rfl) (by kernel_rfl) hM ?_; clear hM; (repeat (refine qs_plain rfl rfl ?_; first | (refine b_get _ _ rfl _ _ rfl 1 rfl (rowTab _ _ rfl) (by omega) ?_; (try simp only [Act.put, List.setIfInBounds_toArray, List.set_cons_succ, List.set_cons_zero])) | (refine b_get _ _ rfl _ _ rfl 9 rfl (rowTab _ _ rfl) (by omega) ?_; (try simp only [Act.put, List.setIfInBounds_toArray, List.set_cons_succ, List.set_cons_zero])))); (with_reducible refine qs_nil ?_))
  (refine mix_one (i := 2) (by kernel_rfl) rfl (by kernel_rfl) rfl ?_)
  (refine step_call_more (β := Nat × Nat × Nat) (fun y => .agg (arr 3 (hdV d0 y.1 y.2.1 y.2.2))) (fun y => hdB d0 y.1 y.2.1 y.2.2) (fun _ => True) ?_; apply Exists.intro; apply Exists.intro; refine ⟨fun W => ?_, fun W hM => ?_, ?_⟩; (go_simp; exact ⟨rfl, rfl⟩); (exact (toHerd_any _ d0 HA0 HB0 HC0 W (HG0.out.below hM.below)).mono fun e w' ⟨y1, y2, y3, he, g1, g2, g3, hK⟩ => ⟨(y1, y2, y3), he, trivial, hM.front hK.below hK (hdB_ge g1 g2 g3)⟩); rintro ⟨j17a, j17b, j17c⟩ -; (try simp only [Act.put, List.setIfInBounds_toArray, List.set_cons_succ, List.set_cons_zero]))
  (refine mix_one (i := 3) (by kernel_rfl) rfl (by kernel_rfl) rfl ?_)
  (refine step_call ?_; apply Exists.intro; apply Exists.intro; apply Exists.intro; refine ⟨fun W => ?_, fun W hM => ?_, ?_⟩; (go_simp; exact ⟨rfl, rfl⟩); (exact eqHerd_same d0 h7a h7b h7c j17a j17b j17c hd0.l1 hd0.l2 hd0.l3 W (hM.ats 5 _ _ _ rfl) (hM.ats 6 _ _ _ rfl) (hM.ats 7 _ _ _ rfl) (hM.ats 0 _ _ _ rfl) (hM.ats 1 _ _ _ rfl) (hM.ats 2 _ _ _ rfl) (hM.apart 5 0 _ _ rfl rfl (by omega)) (hM.apart 6 1 _ _ rfl rfl (by omega)) (hM.apart 7 2 _ _ rfl rfl (by omega))); (try simp only [Act.put, List.setIfInBounds_toArray, List.set_cons_succ, List.set_cons_zero]))
  (refine mix_one (i := 4) (by kernel_rfl) rfl (by kernel_rfl) rfl ?_)
  (refine step_val ?_; apply Exists.intro; refine ⟨fun W => ?_, ?_⟩; (go_simp; rfl); (simp only [Act.put, List.setIfInBounds_toArray, List.set_cons_succ, List.set_cons_zero]))
  (refine mix_end (by kernel_rfl) ?_; intro W' hM)
  simp only [hdB, List.cons_append, List.nil_append] at hM
  have tk_t19 : True := trivial; have tk_t20 : True := trivial; have tk_t21 : True := trivial; have tk_t22 : True := trivial; have tk_t23 : True := trivial; have tk_t24 : True := trivial; have tk_t25 : True := trivial; have tk_t26 : True := trivial; have tk_t28 : True := trivial; have tk_t29 : True := trivial; have tk_t31 : True := trivial; have tk_t32 : True := trivial; have tk_t33 : True := trivial; have tk_t34 : True := trivial
  go_wp2_with (first | (have _t := tk_t19; go_at_call 34; (with_reducible refine (toInt64S_any (.slice a1 n1 c1) n1 ys1 hb1 _ (HG1.out.below hM.below)).mono ?_); rintro e W' ⟨y18, rfl, hy18, hA', hcb⟩; have h2y18 := Nat.le_trans hM.size hy18; have hM' := hM.fresh' hcb hA' hy18; simp only [List.cons_append, List.nil_append] at hM'; clear hM hcb hA'; have hM := hM'; clear hM'; clear tk_t19) | (have _t := tk_t20; go_at_call 22; (with_reducible refine (eqInt64S_same _ _ n1 n1 n1 ys1 Hn1.out _ (hM.ats 14 _ _ _ rfl) (hM.ats 15 _ _ _ rfl) (hM.apart 14 15 _ _ rfl rfl (by omega))).mono ?_); rintro e W' ⟨rfl, hb'⟩; have hM' := hM.call hb'; clear hM hb'; have hM := hM'; clear hM'; clear tk_t20) | (have _t := tk_t21; refine wpList_get rfl _ _ rfl _ _ rfl hM 4 rfl (rowTab _ _ rfl) (by omega) ?_; simp only [Nat.zero_add]; clear tk_t21) | (have _t := tk_t22; go_at_call 23; have hMf := hM; have hMf := hMf.toFront 7 rfl; simp only [List.eraseIdx_cons_succ, List.eraseIdx_cons_zero] at hMf; have hMf := hMf.toFront 7 rfl; simp only [List.eraseIdx_cons_succ, List.eraseIdx_cons_zero] at hMf; have hMf := hMf.toFront 7 rfl; simp only [List.eraseIdx_cons_succ, List.eraseIdx_cons_zero] at hMf; refine (markHerd_any _ _ h7a h7b h7c d0.n1 d0.n2 d0.n3 d0.n1 d0.n2 d0.n3 d0.n1 d0.n2 d0.n3 1 _ _ _ (hdV d0 h7a h7b h7c) rfl rfl rfl (Nat.le_refl _) (Nat.le_refl _) (Nat.le_refl _) HA0 HB0 HC0 (by omega) h7ga h7gb h7gc _ hMf).mono ?_; clear hMf; rintro e W' ⟨rfl, G1, G2, G3, -, -, -, hM'⟩; rw [← HKK0.out]; clear hM; have hM := hM'; clear hM'; clear tk_t22) | (have _t := tk_t23; go_at_call 24; have hMf := hM; have hMf := hMf.toFront 14 rfl; simp only [List.eraseIdx_cons_succ, List.eraseIdx_cons_zero] at hMf; refine (markInt64S_list _ _ y12 n1 n1 n1 KK0 _ (by omega) hb1 (by omega) h2y12 _ hMf).mono ?_; clear hMf; rintro e W' ⟨rfl, Gy12, -, hM'⟩; rw [← HKK1.out]; clear hM; have hM := hM'; clear hM'; clear tk_t23) | (have _t := tk_t24; go_at_call 22; (with_reducible refine (eqInt64S_list bB bA LN cB cA NB NA FB FA HS0 hFB hFA hNB hNA HLn.out _ (hM.ats 7 _ _ _ rfl) (hM.ats 9 _ _ _ rfl) (hM.apart 7 9 _ _ rfl rfl (by omega))).mono ?_); rintro e W' ⟨rfl, hb'⟩; have hM' := hM.call hb'; clear hM hb'; have hM := hM'; clear hM'; clear tk_t24) | (have _t := tk_t25; go_at_call 24; have hMf := hM; have hMf := hMf.toFront 7 rfl; simp only [List.eraseIdx_cons_succ, List.eraseIdx_cons_zero] at hMf; refine (markInt64S_list _ _ bB LN cB NB 1 FB hNB HLn.out (by omega) hb2B _ hMf).mono ?_; clear hMf; rintro e W' ⟨rfl, GB, hGB, hM'⟩; rw [← HMM.out]; clear hM; have hM := hM'; clear hM'; clear tk_t25) | (have _t := tk_t26; go_at_call 25; refine (heldInt64S_list bB LN cB NB 1 GB hNB HLn.out (by omega) hGB _ (hM.ats 0 _ _ _ rfl)).mono ?_; rintro e W' ⟨rfl, hb'⟩; rw [← HMM.out]; have hM' := hM.call hb'; clear hM hb'; have hM := hM'; clear hM'; clear tk_t26) | (have _t := tk_t28; refine wpList_get rfl _ _ rfl _ _ rfl hM 13 rfl (rowTab _ _ rfl) (by omega) ?_; simp only [Nat.zero_add]; clear tk_t28) | (have _t := tk_t29; go_at_call 17; refine (toHerd_any _ d0 HA0 HB0 HC0 _ (HG0.out.below hM.below)).mono ?_; rintro e W' ⟨h27a, h27b, h27c, rfl, g1, g2, g3, hK⟩; have h27ga := Nat.le_trans hM.size g1; have h27gb := Nat.le_trans hM.size g2; have h27gc := Nat.le_trans hM.size g3; have hM' := hM.front hK.below hK (hdB_ge g1 g2 g3); simp only [hdB, List.cons_append, List.nil_append] at hM'; clear hM hK g1 g2 g3; have hM := hM'; clear hM'; clear tk_t29) | (have _t := tk_t31; go_at_call 34; (with_reducible refine (toInt64S_any (.slice a1 n1 c1) n1 ys1 hb1 _ (HG1.out.below hM.below)).mono ?_); rintro e W' ⟨y30, rfl, hy30, hA', hcb⟩; have h2y30 := Nat.le_trans hM.size hy30; have hM' := hM.fresh' hcb hA' hy30; simp only [List.cons_append, List.nil_append] at hM'; clear hM hcb hA'; have hM := hM'; clear hM'; clear tk_t31) | (have _t := tk_t32; go_at_call 43; refine (HI.out h27a h27b h27c y30 _ (three_of hM 0 rfl) (hM.ats 19 _ _ _ rfl) (HE.out.below hM.below) (HT.out.below hM.below)).mono ?_; rintro e W' ⟨vr, rfl, hL0⟩; obtain ⟨bC, cC, NC, FC, rfl, hbC, hNC, hFC, hAA, hbl⟩ := hL0.some Hn.out; simp only [Nat.mul_one] at hNC hFC; have hb2C := Nat.le_trans hM.size hbC; have hM' := hM.freshQ hbl hAA hbC; clear hM hAA hbl hL0; have hM := hM'; clear hM'; clear tk_t32) | (have _t := tk_t33; go_at_call 22; (with_reducible refine (eqInt64S_list bC bA LN cC cA NC NA FC FA HS0 hFC hFA hNC hNA HLn.out _ (hM.ats 0 _ _ _ rfl) (hM.ats 13 _ _ _ rfl) (hM.apart 0 13 _ _ rfl rfl (by omega))).mono ?_); rintro e W' ⟨rfl, hb'⟩; have hM' := hM.call hb'; clear hM hb'; have hM := hM'; clear hM'; clear tk_t33) | (have _t := tk_t34; go_at_call 25; refine (heldInt64S_list bB LN cB NB 1 GB hNB HLn.out (by omega) hGB _ (hM.ats 4 _ _ _ rfl)).mono ?_; rintro e W' ⟨rfl, hb'⟩; rw [← HMM.out]; have hM' := hM.call hb'; clear hM hb'; have hM := hM'; clear hM'; clear tk_t34))
  go_ret
  exact ⟨rfl, hM.below⟩
end Go.Proofs.YthodkbmenndnoaaDoor

