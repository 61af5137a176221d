/-
  Several texts in one: StillOld, PutH, SetFoe, FlockOwn, Join, IsJoin.
-/
import Derived.Test.YthodkbmenndnoaaDoorP3
import Derived.StillTail
import Derived.Test.YthodkbmenndnoaaDoorP2
import Derived.Test.YthodkbmenndnoaaDoorP10
import Derived.Test.YthodkbmenndnoaaDoorP8
import Derived.Test.YthodkbmenndnoaaDoorP4
import Derived.Test.YthodkbmenndnoaaDoorP7
/-
  PLAIN LAW: in a still head, a load of a cell that the memory holds.
-/
namespace Go.Proofs.YthodkbmenndnoaaDoor
open Go Go.RowKit
section
variable {P : Program} {o : Oper} {a : Act} {W : World} {J : Act → Prop}
theorem still_old (ty : TypeId) (x : Operand) (ho : o.op = .load ty x) (b off : Nat) (hx : a.eval x = .pointer (some ⟨b, off, none⟩)) (hT : CellT P ty) (v : Value) (hc : W.cell? ⟨b, off, none⟩ = some v)
    (h : J (a.put o.dst v)) : o.still P a W J := by
  have hl := run_load_cell (P := P) hT hc
  unfold Oper.still execOp
  simp only [ho, hx, Instr.loadAt, Instr.sureAddr, Sem.run_bind, Sem.run_pure, Result.andThen_ok, hl]
  exact ⟨rfl, h⟩
end
theorem region_tail_mem {P : Program} {Q : Exit → Act → World → Prop} {a : Act} {W : World} {id : Nat} {r : List Oper} (m : Nat) (hm : P.follows .mixedOrders = true) (hB : Region.lexTailB .any r.toArray m = true)
    (h : wpStill P r.toArray W.drew (fun a' => wpList P r.toArray Q (r.drop m) a' W.drew) (r.take m) a) : (Code.region id r.toArray true).wp P Q a W :=
  wp_region_still_tail m hm hB h
end Go.Proofs.YthodkbmenndnoaaDoor

/-
  spec.l06Put by contract.
-/
namespace Go.Proofs.YthodkbmenndnoaaDoor
open Go Go.RowKit Go.BigFrame

/-- The foes s with the goat k, or without it. -/
def putB (s k : Nat) (on : Bool) : Nat := if on = true then minus s (2 ^ k) ||| 2 ^ k else minus s (2 ^ k)
theorem putB_lt {s k : Nat} {on : Bool} (hs : s < 65536) (hk : k < 16) : putB s k on < 65536 := by
  unfold putB
  have h1 := minus_lt (b := 2 ^ k) hs
  split
  · exact Nat.or_lt_two_pow (n := 16) h1 (u16_two k hk)
  · exact h1
/-- Two cells written. -/
def put2 (F : Nat → Value) (a b : Nat) (x y : Nat) : Nat → Value := fun j => if j = b then .int .u16 (y : Int) else if j = a then .int .u16 (x : Int) else F j
set_option maxRecDepth 100000 in
set_option maxHeartbeats 2000000 in
theorem l06Put_any (b0 : Base) (K : Blocks) (bo b3 n c3 N : Nat) (F hv : Nat → Value) (a3 : hv 2 = .slice (some ⟨b3, 0, none⟩) n c3) (hb3 : b0.B ≤ b3) (hN : n ≤ N) (a b s t : Nat) (on : Bool) (ha : a < n) (hb : b < n) (hab : a ≠ b) (ha14 : a < 14) (hb14 : b < 14) (hs : s < 65536) (ht : t < 65536) (fa : F a = .int .u16 (s : Int)) (fb : F b = .int .u16 (t : Int)) (w : World) (hM0 : Mem b0 ((b3, N, F) :: (bo, 3, hv) :: K) w) :
    Calls Tryd.prog 72 #[.pointer (some ⟨bo, 0, none⟩), .int .i64 (a : Int), .int .i64 (b : Int), .bool on] w fun e w' => e = .returned (.tuple #[]) ∧ Mem b0 ((b3, N, put2 F a b (putB s b on) (putB t a on)) :: (bo, 3, hv) :: K) w' := by
  have hM := hM0
  clear hM0
  obtain ⟨pa, hpa⟩ : ∃ p, 2 ^ a = p := ⟨_, rfl⟩
  obtain ⟨pb, hpb⟩ : ∃ p, 2 ^ b = p := ⟨_, rfl⟩
  have hpa2 : pa < 65536 := by rw [← hpa]; exact u16_two a (by omega)
  have hpb2 : pb < 65536 := by rw [← hpb]; exact u16_two b (by omega)
  have ea : IntKind.u16.wrap (2 ^ a) = (pa : Int) := by
    rw [← hpa, ← IntWalk.u16_in ((2 ^ a : Nat) : Int) ⟨Int.natCast_nonneg _, by rw [hpa]; omega⟩]; simp
  have eb : IntKind.u16.wrap (2 ^ b) = (pb : Int) := by
    rw [← hpb, ← IntWalk.u16_in ((2 ^ b : Nat) : Int) ⟨Int.natCast_nonneg _, by rw [hpb]; omega⟩]; simp
  obtain ⟨r, hr⟩ : ∃ r, minus s pb = r := ⟨_, rfl⟩
  obtain ⟨u, hu⟩ : ∃ u, minus t pa = u := ⟨_, rfl⟩
  have hr2 : r < 65536 := by rw [← hr]; exact minus_lt hs
  have hu2 : u < 65536 := by rw [← hu]; exact minus_lt ht
  have er : bits .andNot .u16 (s : Int) (pb : Int) = (r : Int) := by rw [minus_u16 hs hpb2, hr]
  have eu : bits .andNot .u16 (t : Int) (pa : Int) = (u : Int) := by rw [minus_u16 ht hpa2, hu]
  have ca : IntKind.u64.wrap (a : Int) = a := IntWalk.u64_in _ ⟨by omega, by omega⟩
  have cb : IntKind.u64.wrap (b : Int) = b := IntWalk.u64_in _ ⟨by omega, by omega⟩
  have l1 : (a : Int) < n := by omega
  have l2 : (b : Int) < n := by omega
  have haN : a < N := by omega
  have hbN : b < N := by omega
  obtain ⟨r2, hor⟩ : ∃ q, r ||| pb = q := ⟨_, rfl⟩
  obtain ⟨u2, hou⟩ : ∃ q, u ||| pa = q := ⟨_, rfl⟩
  have eor : bits .or .u16 (r : Int) (pb : Int) = (r2 : Int) := by rw [or_u16 hr2 hpb2, hor]
  have eou : bits .or .u16 (u : Int) (pa : Int) = (u2 : Int) := by rw [or_u16 hu2 hpa2, hou]
  have HP := Lib.hid (show putB s b on = (if on = true then r2 else r) ∧ putB t a on = (if on = true then u2 else u) from by unfold putB; rw [hpa, hpb, hr, hu, hor, hou]; exact ⟨rfl, rfl⟩)
  have ba : a ≠ b := hab
  have f1 : upd F a (.int .u16 (r : Int)) b = .int .u16 (t : Int) := by simp only [upd]; rw [if_neg (Ne.symm hab), fb]
  have f2 : upd (upd F a (.int .u16 (r : Int))) b (.int .u16 (u : Int)) a = .int .u16 (r : Int) := by simp only [upd]; rw [if_neg hab, if_true]
  have f3 : upd (upd (upd F a (.int .u16 (r : Int))) b (.int .u16 (u : Int))) a (.int .u16 (r2 : Int)) b = .int .u16 (u : Int) := by simp only [upd]; rw [if_neg (Ne.symm hab), if_true]
  have HAB := Lib.hid hab
  clear hpa hpb hr hu hor hou fb hab ba
  cases on
  · go_enter Tryd.func72, Tryd.ntmps72
    go_wp2
    ((try simp only [Act.put, List.setIfInBounds_toArray, List.set_cons_succ, List.set_cons_zero]); refine region_tail_mem (m := 17) (by kernel_rfl) (by kernel_rfl) ?_; (have hM' := hM.drew); clear hM; have hM := hM'; clear hM'; simp only [List.take_succ_cons, List.take_zero, List.drop_succ_cons, List.drop_zero]; (repeat (refine wps_plain rfl ?_; (first | (refine still_get1 hM _ _ rfl _ _ rfl 1 rfl (cellTab _ rfl) (by omega) _ (a3) ?_) | (refine still_get1 hM _ _ rfl _ _ rfl 0 rfl (cellTab _ rfl) (by omega) _ (fa) ?_) | (refine still_val ?_; apply Exists.intro; refine ⟨fun W => ?_, ?_⟩; (go_simp; (try simp only [l1, l2, ca, cb, ea, eb, er, eu, if_true]); rfl))); (simp only [Act.put, List.setIfInBounds_toArray, List.set_cons_succ, List.set_cons_zero]))); unfold wpStill)
    go_wp2_with (first | (refine wpList_set1 rfl _ _ _ rfl _ _ rfl (.int .u16 ((r : Nat) : Int)) rfl rfl hM 0 rfl hb3 (cellTab _ rfl) haN ?_; intro W' hM'; clear hM; have hM := hM'; clear hM'; simp only [List.set_cons_zero] at hM))
    ((try simp only [Act.put, List.setIfInBounds_toArray, List.set_cons_succ, List.set_cons_zero]); refine region_tail_mem (m := 17) (by kernel_rfl) (by kernel_rfl) ?_; (have hM' := hM.drew); clear hM; have hM := hM'; clear hM'; simp only [List.take_succ_cons, List.take_zero, List.drop_succ_cons, List.drop_zero]; (repeat (refine wps_plain rfl ?_; (first | (refine still_get1 hM _ _ rfl _ _ rfl 1 rfl (cellTab _ rfl) (by omega) _ (a3) ?_) | (refine still_get1 hM _ _ rfl _ _ rfl 0 rfl (cellTab _ rfl) (by omega) _ (f1) ?_) | (refine still_val ?_; apply Exists.intro; refine ⟨fun W => ?_, ?_⟩; (go_simp; (try simp only [l1, l2, ca, cb, ea, eb, er, eu, if_true]); rfl))); (simp only [Act.put, List.setIfInBounds_toArray, List.set_cons_succ, List.set_cons_zero]))); unfold wpStill)
    go_wp2_with (first | (refine wpList_set1 rfl _ _ _ rfl _ _ rfl (.int .u16 ((u : Nat) : Int)) rfl rfl hM 0 rfl hb3 (cellTab _ rfl) hbN ?_; intro W' hM'; clear hM; have hM := hM'; clear hM'; simp only [List.set_cons_zero] at hM))
    have hM2 := hM.re 0 rfl (put2 F a b r u) (fun j _ => by unfold put2; simp only [upd] <;> (repeat' split) <;> first | rfl | omega)
    simp only [List.set_cons_zero] at hM2
    go_end0
    rw [HP.out.1, HP.out.2]
    exact ⟨rfl, hM2⟩
  · go_enter Tryd.func72, Tryd.ntmps72
    go_wp2
    ((try simp only [Act.put, List.setIfInBounds_toArray, List.set_cons_succ, List.set_cons_zero]); refine region_tail_mem (m := 17) (by kernel_rfl) (by kernel_rfl) ?_; (have hM' := hM.drew); clear hM; have hM := hM'; clear hM'; simp only [List.take_succ_cons, List.take_zero, List.drop_succ_cons, List.drop_zero]; (repeat (refine wps_plain rfl ?_; (first | (refine still_get1 hM _ _ rfl _ _ rfl 1 rfl (cellTab _ rfl) (by omega) _ (a3) ?_) | (refine still_get1 hM _ _ rfl _ _ rfl 0 rfl (cellTab _ rfl) (by omega) _ (fa) ?_) | (refine still_val ?_; apply Exists.intro; refine ⟨fun W => ?_, ?_⟩; (go_simp; (try simp only [l1, l2, ca, cb, ea, eb, er, eu, if_true]); rfl))); (simp only [Act.put, List.setIfInBounds_toArray, List.set_cons_succ, List.set_cons_zero]))); unfold wpStill)
    go_wp2_with (first | (refine wpList_set1 rfl _ _ _ rfl _ _ rfl (.int .u16 ((r : Nat) : Int)) rfl rfl hM 0 rfl hb3 (cellTab _ rfl) haN ?_; intro W' hM'; clear hM; have hM := hM'; clear hM'; simp only [List.set_cons_zero] at hM))
    ((try simp only [Act.put, List.setIfInBounds_toArray, List.set_cons_succ, List.set_cons_zero]); refine region_tail_mem (m := 17) (by kernel_rfl) (by kernel_rfl) ?_; (have hM' := hM.drew); clear hM; have hM := hM'; clear hM'; simp only [List.take_succ_cons, List.take_zero, List.drop_succ_cons, List.drop_zero]; (repeat (refine wps_plain rfl ?_; (first | (refine still_get1 hM _ _ rfl _ _ rfl 1 rfl (cellTab _ rfl) (by omega) _ (a3) ?_) | (refine still_get1 hM _ _ rfl _ _ rfl 0 rfl (cellTab _ rfl) (by omega) _ (f1) ?_) | (refine still_val ?_; apply Exists.intro; refine ⟨fun W => ?_, ?_⟩; (go_simp; (try simp only [l1, l2, ca, cb, ea, eb, er, eu, if_true]); rfl))); (simp only [Act.put, List.setIfInBounds_toArray, List.set_cons_succ, List.set_cons_zero]))); unfold wpStill)
    go_wp2_with (first | (refine wpList_set1 rfl _ _ _ rfl _ _ rfl (.int .u16 ((u : Nat) : Int)) rfl rfl hM 0 rfl hb3 (cellTab _ rfl) hbN ?_; intro W' hM'; clear hM; have hM := hM'; clear hM'; simp only [List.set_cons_zero] at hM))
    ((try simp only [Act.put, List.setIfInBounds_toArray, List.set_cons_succ, List.set_cons_zero]); refine region_tail_mem (m := 17) (by kernel_rfl) (by kernel_rfl) ?_; (have hM' := hM.drew); clear hM; have hM := hM'; clear hM'; simp only [List.take_succ_cons, List.take_zero, List.drop_succ_cons, List.drop_zero]; (repeat (refine wps_plain rfl ?_; (first | (refine still_get1 hM _ _ rfl _ _ rfl 1 rfl (cellTab _ rfl) (by omega) _ (a3) ?_) | (refine still_get1 hM _ _ rfl _ _ rfl 0 rfl (cellTab _ rfl) (by omega) _ (f2) ?_) | (refine still_val ?_; apply Exists.intro; refine ⟨fun W => ?_, ?_⟩; (go_simp; (try simp only [l1, l2, ca, cb, ea, eb, er, eu, eor, eou, if_true]); rfl))); (simp only [Act.put, List.setIfInBounds_toArray, List.set_cons_succ, List.set_cons_zero]))); unfold wpStill)
    go_wp2_with (first | (refine wpList_set1 rfl _ _ _ rfl _ _ rfl (.int .u16 ((r2 : Nat) : Int)) rfl rfl hM 0 rfl hb3 (cellTab _ rfl) haN ?_; intro W' hM'; clear hM; have hM := hM'; clear hM'; simp only [List.set_cons_zero] at hM))
    ((try simp only [Act.put, List.setIfInBounds_toArray, List.set_cons_succ, List.set_cons_zero]); refine region_tail_mem (m := 17) (by kernel_rfl) (by kernel_rfl) ?_; (have hM' := hM.drew); clear hM; have hM := hM'; clear hM'; simp only [List.take_succ_cons, List.take_zero, List.drop_succ_cons, List.drop_zero]; (repeat (refine wps_plain rfl ?_; (first | (refine still_get1 hM _ _ rfl _ _ rfl 1 rfl (cellTab _ rfl) (by omega) _ (a3) ?_) | (refine still_get1 hM _ _ rfl _ _ rfl 0 rfl (cellTab _ rfl) (by omega) _ (f3) ?_) | (refine still_val ?_; apply Exists.intro; refine ⟨fun W => ?_, ?_⟩; (go_simp; (try simp only [l1, l2, ca, cb, ea, eb, er, eu, eor, eou, if_true]); rfl))); (simp only [Act.put, List.setIfInBounds_toArray, List.set_cons_succ, List.set_cons_zero]))); unfold wpStill)
    go_wp2_with (first | (refine wpList_set1 rfl _ _ _ rfl _ _ rfl (.int .u16 ((u2 : Nat) : Int)) rfl rfl hM 0 rfl hb3 (cellTab _ rfl) hbN ?_; intro W' hM'; clear hM; have hM := hM'; clear hM'; simp only [List.set_cons_zero] at hM))
    have hM2 := hM.re 0 rfl (put2 F a b r2 u2) (fun j _ => by unfold put2; simp only [upd] <;> (repeat' split) <;> first | rfl | omega)
    simp only [List.set_cons_zero] at hM2
    go_end0
    rw [HP.out.1, HP.out.2]
    exact ⟨rfl, hM2⟩
end Go.Proofs.YthodkbmenndnoaaDoor

/-
  impl.members.setFoe by contract.
-/
namespace Go.Proofs.YthodkbmenndnoaaDoor
open Go Go.RowKit Go.BigFrame

set_option maxRecDepth 100000 in
set_option maxHeartbeats 2000000 in
theorem setFoe_any (b0 : Base) (K : Blocks) (bm n c N : Nat) (F : Nat → Value) (hbm : b0.B ≤ bm) (hN : n * 3 ≤ N) (a b s : Nat) (on : Bool) (ha : a < n) (hb14 : b < 14) (hs : s < 65536) (fa : F (a * 3 + 2) = .int .u16 (s : Int)) (w : World) (hM0 : Mem b0 ((bm, N, F) :: K) w) :
    Calls Tryd.prog 73 #[.slice (some ⟨bm, 0, none⟩) n c, .int .i64 (a : Int), .int .i64 (b : Int), .bool on] w fun e w' => e = .returned (.tuple #[]) ∧ Mem b0 ((bm, N, upd F (a * 3 + 2) (.int .u16 ((putB s b on : Nat) : Int))) :: K) w' := by
  have hM := hM0
  clear hM0
  obtain ⟨pb, hpb⟩ : ∃ p, 2 ^ b = p := ⟨_, rfl⟩
  have hpb2 : pb < 65536 := by rw [← hpb]; exact u16_two b (by omega)
  obtain ⟨r, hr⟩ : ∃ r, minus s pb = r := ⟨_, rfl⟩
  have hr2 : r < 65536 := by rw [← hr]; exact minus_lt hs
  have er : bits .andNot .u16 (s : Int) (pb : Int) = (r : Int) := by rw [minus_u16 hs hpb2, hr]
  have l1 : (a : Int) < n := by omega
  have haN : a * 3 + 2 < N := by omega
  obtain ⟨r2, hor⟩ : ∃ q, r ||| pb = q := ⟨_, rfl⟩
  have eor : bits .or .u16 (r : Int) (pb : Int) = (r2 : Int) := by rw [or_u16 hr2 hpb2, hor]
  have HP := Lib.hid (show putB s b on = (if on = true then r2 else r) from by unfold putB; rw [hpb, hr, hor])
  have HPB := Lib.hid hpb
  have f1 : upd F (a * 3 + 2) (.int .u16 (r : Int)) (a * 3 + 2) = .int .u16 (r : Int) := by simp only [upd]; rw [if_true]
  clear hpb hr hor
  cases on
  · go_enter Tryd.func73, Tryd.ntmps73
    go_wp2
    ((try simp only [Act.put, List.setIfInBounds_toArray, List.set_cons_succ, List.set_cons_zero]); refine region_head_mem (m := 10) (by kernel_rfl) (by kernel_rfl) hM ?_; clear hM; simp only [List.take_succ_cons, List.take_zero, List.drop_succ_cons, List.drop_zero]; (repeat (first | go_big_quiet_skip | (go_big_quiet_want; first | (refine quiet_get1 _ _ rfl _ _ rfl 0 rfl (cellTab _ rfl) (by omega) _ (fa) ?_; (simp only [Act.put, List.setIfInBounds_toArray, List.set_cons_succ, List.set_cons_zero]); go_big_quiet_on) | (refine quiet_call ?_; apply Exists.intro; apply Exists.intro; apply Exists.intro; refine ⟨fun W => ?_, fun W hM => ?_, ?_⟩; (go_simp; exact ⟨rfl, rfl⟩); (exact alone_any b (by omega) pb HPB.out W); (simp only [Act.put, List.setIfInBounds_toArray, List.set_cons_succ, List.set_cons_zero]); go_big_quiet_on) | (refine quiet_val ?_; apply Exists.intro; refine ⟨fun W => ?_, ?_⟩; (go_simp; (try simp only [l1, er, if_true, Bool.false_eq_true, if_false]); rfl); (simp only [Act.put, List.setIfInBounds_toArray, List.set_cons_succ, List.set_cons_zero]); go_big_quiet_on)))); (with_reducible refine wpQuiet_nil ?_); intro W' hM)
    go_wp2_with (first | (refine wpList_set1 rfl _ _ _ rfl _ _ rfl (.int .u16 (r : Int)) rfl rfl hM 0 rfl hbm (cellTab _ rfl) haN ?_; intro W' hM'; clear hM; have hM := hM'; clear hM'; simp only [List.set_cons_zero] at hM))
    go_end0
    rw [HP.out]
    exact ⟨rfl, hM⟩
  · go_enter Tryd.func73, Tryd.ntmps73
    go_wp2
    ((try simp only [Act.put, List.setIfInBounds_toArray, List.set_cons_succ, List.set_cons_zero]); refine region_head_mem (m := 10) (by kernel_rfl) (by kernel_rfl) hM ?_; clear hM; simp only [List.take_succ_cons, List.take_zero, List.drop_succ_cons, List.drop_zero]; (repeat (first | go_big_quiet_skip | (go_big_quiet_want; first | (refine quiet_get1 _ _ rfl _ _ rfl 0 rfl (cellTab _ rfl) (by omega) _ (fa) ?_; (simp only [Act.put, List.setIfInBounds_toArray, List.set_cons_succ, List.set_cons_zero]); go_big_quiet_on) | (refine quiet_call ?_; apply Exists.intro; apply Exists.intro; apply Exists.intro; refine ⟨fun W => ?_, fun W hM => ?_, ?_⟩; (go_simp; exact ⟨rfl, rfl⟩); (exact alone_any b (by omega) pb HPB.out W); (simp only [Act.put, List.setIfInBounds_toArray, List.set_cons_succ, List.set_cons_zero]); go_big_quiet_on) | (refine quiet_val ?_; apply Exists.intro; refine ⟨fun W => ?_, ?_⟩; (go_simp; (try simp only [l1, er, if_true, Bool.false_eq_true, if_false]); rfl); (simp only [Act.put, List.setIfInBounds_toArray, List.set_cons_succ, List.set_cons_zero]); go_big_quiet_on)))); (with_reducible refine wpQuiet_nil ?_); intro W' hM)
    go_wp2_with (first | (refine wpList_set1 rfl _ _ _ rfl _ _ rfl (.int .u16 (r : Int)) rfl rfl hM 0 rfl hbm (cellTab _ rfl) haN ?_; intro W' hM'; clear hM; have hM := hM'; clear hM'; simp only [List.set_cons_zero] at hM))
    ((try simp only [Act.put, List.setIfInBounds_toArray, List.set_cons_succ, List.set_cons_zero]); refine region_head_mem (m := 10) (by kernel_rfl) (by kernel_rfl) hM ?_; clear hM; simp only [List.take_succ_cons, List.take_zero, List.drop_succ_cons, List.drop_zero]; (repeat (first | go_big_quiet_skip | (go_big_quiet_want; first | (refine quiet_get1 _ _ rfl _ _ rfl 0 rfl (cellTab _ rfl) (by omega) _ (f1) ?_; (simp only [Act.put, List.setIfInBounds_toArray, List.set_cons_succ, List.set_cons_zero]); go_big_quiet_on) | (refine quiet_call ?_; apply Exists.intro; apply Exists.intro; apply Exists.intro; refine ⟨fun W => ?_, fun W hM => ?_, ?_⟩; (go_simp; exact ⟨rfl, rfl⟩); (exact alone_any b (by omega) pb HPB.out W); (simp only [Act.put, List.setIfInBounds_toArray, List.set_cons_succ, List.set_cons_zero]); go_big_quiet_on) | (refine quiet_val ?_; apply Exists.intro; refine ⟨fun W => ?_, ?_⟩; (go_simp; (try simp only [l1, eor, if_true, Bool.false_eq_true, if_false]); rfl); (simp only [Act.put, List.setIfInBounds_toArray, List.set_cons_succ, List.set_cons_zero]); go_big_quiet_on)))); (with_reducible refine wpQuiet_nil ?_); intro W' hM)
    go_wp2_with (first | (refine wpList_set1 rfl _ _ _ rfl _ _ rfl (.int .u16 (r2 : Int)) rfl rfl hM 0 rfl hbm (cellTab _ rfl) haN ?_; intro W' hM'; clear hM; have hM := hM'; clear hM'; simp only [List.set_cons_zero] at hM))
    have hM2 := hM.re 0 rfl (upd F (a * 3 + 2) (.int .u16 (r2 : Int))) (fun j _ => by simp only [upd]; split <;> rfl)
    simp only [List.set_cons_zero] at hM2
    go_end0
    rw [HP.out]
    exact ⟨rfl, hM2⟩
end Go.Proofs.YthodkbmenndnoaaDoor

/-
  impl.flockWith by contract, where the goats' block is told as the call's own.
-/
namespace Go.Proofs.YthodkbmenndnoaaDoor
open Go Go.RowKit Go.BigFrame

/-- The goats of a herd in a block of the call's own, with room; or none. -/
def MemsOwn (B : Nat) (W : World) (a : Option Addr) (n c : Nat) (d : Hd) : Prop := (n = 0 ∧ a = none ∧ c = 0) ∨ 0 < n ∧ ∃ b F, a = some ⟨b, 0, none⟩ ∧ B ≤ b ∧ n ≤ c ∧ (∀ j, j < n * 3 → F j = sMem d j) ∧ At W b (c * 3) F
theorem MemsOwn.at {B : Nat} {W : World} {a : Option Addr} {n c : Nat} {d : Hd} (h : MemsOwn B W a n c d) : MemsAt W a n d := by
  rcases h with ⟨h, -, -⟩ | ⟨-, b, F, h1, -, h3, h4, h5⟩
  · exact .inl h
  · exact .inr ⟨b, c * 3, F, h1, Nat.mul_le_mul_right _ h3, h4, h5⟩
theorem MemsOwn.some {B : Nat} {W : World} {a : Option Addr} {n c : Nat} {d : Hd} (h : MemsOwn B W a n c d) (hn : 0 < n) : ∃ b F, a = some ⟨b, 0, none⟩ ∧ B ≤ b ∧ n ≤ c ∧ (∀ j, j < n * 3 → F j = sMem d j) ∧ At W b (c * 3) F := by
  rcases h with ⟨h, -, -⟩ | ⟨-, h⟩
  · omega
  · exact h
theorem MemsOwn.no {B : Nat} {W : World} {a : Option Addr} {n c : Nat} {d : Hd} (h : MemsOwn B W a n c d) (hn : n = 0) : a = none ∧ c = 0 := by
  rcases h with ⟨-, h1, h2⟩ | ⟨h, -⟩
  · exact ⟨h1, h2⟩
  · omega
theorem Lst.keep2 {d : Hd} {b0 : Base} {L : Blocks} {X X' : World} {n : Nat} {v : Value} (hM : Mem b0 L X) (h0 : n = 0 → v = .slice none 0 0) (h : Lst X [] 3 v n (sMem d) X') :
    ∃ a c K, v = .slice a n c ∧ n ≤ c ∧ Mem b0 (L ++ K) X' ∧ ∀ (b1 : Base) (L' : Blocks) (W : World), Mem b1 (L' ++ K) W → MemsOwn b0.B W a n c d := by
  by_cases hn : n = 0
  · have hb : Below X.heap.size X X' := h.mem.below
    exact ⟨none, 0, [], by rw [h0 hn, hn], by omega, by rw [List.append_nil]; exact hM.call hb, fun _ _ _ _ => .inl ⟨hn, rfl, rfl⟩⟩
  rcases h with ⟨h1, h2, h3⟩ | ⟨b, c, F, h1, h2, h3, h4, h5⟩
  · exact absurd h2 hn
  · refine ⟨_, c, [(b, c * 3, F)], h1, h3, hM.fresh' h5.below h5.at0 h2, fun b1 L' W hW => .inr ⟨by omega, b, F, rfl, Nat.le_trans hM.size h2, h3, h4, hW.ats L'.length b (c * 3) F (by simp)⟩⟩

set_option maxRecDepth 100000 in
set_option maxHeartbeats 2000000 in
theorem membersOf_l2 (d : Hd) (b1 b2 b3 : Nat) (h1 : d.n1 ≤ 1048576) (h2 : d.n2 = d.n1) (h3 : d.n3 = d.n1) (w : World) (hM0 : Mem w (hdB d b1 b2 b3) w) :
    Calls Tryd.prog 56 #[.agg (arr 3 (hdV d b1 b2 b3))] w fun e w' => ∃ v, e = .returned v ∧ (d.n1 = 0 → v = .slice none 0 0) ∧ Lst w [] 3 v d.n1 (sMem d) w' := by
  obtain ⟨n, n2, n3, ss, es, fs⟩ := d
  simp only at h1 h2 h3
  subst h2 h3
  have hM := hM0
  simp only [hdB] at hM
  clear hM0
  have a1 : hdV ⟨n3, n3, n3, ss, es, fs⟩ b1 b2 b3 0 = .slice (some ⟨b1, 0, none⟩) n3 n3 := rfl
  have a2 : hdV ⟨n3, n3, n3, ss, es, fs⟩ b1 b2 b3 1 = .slice (some ⟨b2, 0, none⟩) n3 n3 := rfl
  have a3 : hdV ⟨n3, n3, n3, ss, es, fs⟩ b1 b2 b3 2 = .slice (some ⟨b3, 0, none⟩) n3 n3 := rfl
  have hS : sMem ⟨n3, n3, n3, ss, es, fs⟩ = fun j => mem3 (ss (j / 3)) (es (j / 3)) (fs (j / 3)) (j % 3) := rfl
  rw [hS]
  clear hS
  generalize hdV ⟨n3, n3, n3, ss, es, fs⟩ b1 b2 b3 = hv at a1 a2 a3 ⊢
  have hSr : ∀ k j, j < 3 → (fun j => mem3 (ss (j / 3)) (es (j / 3)) (fs (j / 3)) (j % 3)) (k * 3 + j) = mem3 (ss k) (es k) (fs k) j := fun k j hj => sMem_row ⟨n3, n3, n3, ss, es, fs⟩ k j hj
  have HSr := Lib.hid hSr
  clear hSr
  show Calls _ _ _ _ fun e w' => ∃ v, e = .returned v ∧ (n3 = 0 → v = .slice none 0 0) ∧ Lst w [] 3 v n3 _ w'
  generalize (fun j => mem3 (ss (j / 3)) (es (j / 3)) (fs (j / 3)) (j % 3)) = R at HSr ⊢
  have tk_x1 : True := trivial
  go_enter Tryd.func56, Tryd.ntmps56
  go_wp2_with (first | (have _t := tk_x1; refine wpList_box rfl _ _ rfl _ _ rfl hM ?_; intro x1 W' hx1 hM'; clear hM tk_x1; have hM := hM'; clear hM') | (refine wpList_get1 rfl _ _ rfl _ _ rfl hM 0 rfl (cellTab _ rfl) (by omega) _ a1 ?_))
  go_loopw [3, 9] (fun v i wr => ∃ k : Nat, k ≤ n3 ∧ i = .int .i64 k ∧ Hid (k = 0 → v = .slice none 0 0) ∧ Lst w [(x1, 3, hv), (b1, n3, vStringS ss), (b2, n3, vInt16S es), (b3, n3, vUint16S fs)] 3 v k R wr) (fun _ i _ => n3 - (intOf i).toNat)
  case atStart => exact ⟨0, by omega, rfl, Lib.hid (fun _ => rfl), .inl ⟨rfl, rfl, hM⟩⟩
  case round =>
    clear hM
    obtain ⟨k, hk, rfl, h0, hL⟩ := hrel
    by_cases hlt : k < n3
    · have l2 : (k : Int) < n3 := by omega
      have e1 : vStringS ss k = .string (ss k) := rfl
      have e2 : vInt16S es k = .int .i16 (es k) := rfl
      have e3 : vUint16S fs k = .int .u16 (fs k) := rfl
      have hR1 := Lib.hid (fun j (hj : j < 3) => (HSr.out k j hj).symm)
      generalize ss k = sk at *
      generalize es k = ek at *
      generalize fs k = fk at *
      rcases hL with ⟨rfl, rfl, hM⟩ | ⟨b, c, F, rfl, hbb, hnc, hF, hM⟩
      · have hR0 : Hid (∀ j, j < 3 → mem3 sk ek fk j = R j) := Lib.hid (fun j hj => by have := hR1.out j hj; rwa [Nat.zero_mul, Nat.zero_add] at this)
        go_wp2_with (first | (refine wpList_get1 rfl _ _ rfl _ _ rfl hM 1 rfl (cellTab _ rfl) (by omega) _ e1 ?_))
        ((try simp only [Act.put, List.setIfInBounds_toArray, List.set_cons_succ, List.set_cons_zero]); refine region_reads [0, 1, 2, 3, 4, 5, 6, 7, 8, 9, 10, 11, 12] #[true, true, true, true, true, true, true, true, true, true, true, true, true, false, false, false] 3 (by kernel_rfl) (by kernel_rfl) (by kernel_rfl) hM ?_; clear hM; (repeat (refine qs_plain rfl rfl ?_; first | (refine b_get1 _ _ rfl _ _ rfl 0 rfl (cellTab _ rfl) (by omega) _ (a2) ?_; (simp only [Act.put, List.setIfInBounds_toArray, List.set_cons_succ, List.set_cons_zero])) | (refine b_get1 _ _ rfl _ _ rfl 2 rfl (cellTab _ rfl) (by omega) _ (e2) ?_; (simp only [Act.put, List.setIfInBounds_toArray, List.set_cons_succ, List.set_cons_zero])) | (refine b_get1 _ _ rfl _ _ rfl 0 rfl (cellTab _ rfl) (by omega) _ (a3) ?_; (simp only [Act.put, List.setIfInBounds_toArray, List.set_cons_succ, List.set_cons_zero])) | (refine b_get1 _ _ rfl _ _ rfl 3 rfl (cellTab _ rfl) (by omega) _ (e3) ?_; (simp only [Act.put, List.setIfInBounds_toArray, List.set_cons_succ, List.set_cons_zero])) | (refine b_val ?_; refine ⟨_, fun W => exec_member _ _ _ rfl sk ek fk rfl rfl rfl W, ?_⟩; (simp only [Act.put, List.setIfInBounds_toArray, List.set_cons_succ, List.set_cons_zero])) | (refine b_val ?_; apply Exists.intro; refine ⟨fun W => ?_, ?_⟩; (go_simp; rfl); (simp only [Act.put, List.setIfInBounds_toArray, List.set_cons_succ, List.set_cons_zero])))); (with_reducible refine qs_nil ?_))
        (refine mix_one (i := 13) (by kernel_rfl) rfl (by kernel_rfl) rfl ?_)
        (refine step_slice1 _ _ _ rfl 3 (mem3 sk ek fk) rfl _ member_under member_info (by omega) (by omega) ?_; intro l1 hl1; (simp only [Act.put, List.setIfInBounds_toArray, List.set_cons_succ, List.set_cons_zero]))
        (refine mix_one (i := 14) (by kernel_rfl) rfl (by kernel_rfl) rfl ?_)
        (refine step_push0 _ _ _ rfl _ 3 _ _ member_under member_infoB rfl (by omega) rfl _ _ rfl R hR0.out ?_; intro bL cL FL hbL hcL hFL; (simp only [Act.put, List.setIfInBounds_toArray, List.set_cons_succ, List.set_cons_zero]))
        (refine mix_one (i := 15) (by kernel_rfl) rfl (by kernel_rfl) rfl ?_)
        (refine step_val ?_; apply Exists.intro; refine ⟨fun W => ?_, ?_⟩; (go_simp; rfl); (simp only [Act.put, List.setIfInBounds_toArray, List.set_cons_succ, List.set_cons_zero]))
        (refine mix_end (by kernel_rfl) ?_; intro W' hM; simp only [List.cons_append, List.nil_append] at hM)
        go_wp2
        go_roundw
        case rel => exact ⟨1, by omega, by go_num, Lib.hid (fun h => absurd h (by omega)), .inr ⟨bL, cL, FL, rfl, hbL, hcL, hFL, hM⟩⟩
        case measure => simp [intOf]; omega
      · have hn : k ≤ 1048576 := by omega
        have HF := Lib.hid hF
        clear hF
        go_wp2_with (first | (refine wpList_get1 rfl _ _ rfl _ _ rfl hM 2 rfl (cellTab _ rfl) (by omega) _ e1 ?_))
        ((try simp only [Act.put, List.setIfInBounds_toArray, List.set_cons_succ, List.set_cons_zero]); refine region_readsX [0, 1, 2, 3, 4, 5, 6, 7, 8, 9, 10, 11, 12] #[true, true, true, true, true, true, true, true, true, true, true, true, true, false, false, false] 3 [(b, c * 3, F)] (by kernel_rfl) (by kernel_rfl) (by kernel_rfl) hM ?_; clear hM; (repeat (refine qs_plain rfl rfl ?_; first | (refine b_get1 _ _ rfl _ _ rfl 0 rfl (cellTab _ rfl) (by omega) _ (a2) ?_; (simp only [Act.put, List.setIfInBounds_toArray, List.set_cons_succ, List.set_cons_zero])) | (refine b_get1 _ _ rfl _ _ rfl 2 rfl (cellTab _ rfl) (by omega) _ (e2) ?_; (simp only [Act.put, List.setIfInBounds_toArray, List.set_cons_succ, List.set_cons_zero])) | (refine b_get1 _ _ rfl _ _ rfl 0 rfl (cellTab _ rfl) (by omega) _ (a3) ?_; (simp only [Act.put, List.setIfInBounds_toArray, List.set_cons_succ, List.set_cons_zero])) | (refine b_get1 _ _ rfl _ _ rfl 3 rfl (cellTab _ rfl) (by omega) _ (e3) ?_; (simp only [Act.put, List.setIfInBounds_toArray, List.set_cons_succ, List.set_cons_zero])) | (refine b_val ?_; refine ⟨_, fun W => exec_member _ _ _ rfl sk ek fk rfl rfl rfl W, ?_⟩; (simp only [Act.put, List.setIfInBounds_toArray, List.set_cons_succ, List.set_cons_zero])) | (refine b_val ?_; apply Exists.intro; refine ⟨fun W => ?_, ?_⟩; (go_simp; rfl); (simp only [Act.put, List.setIfInBounds_toArray, List.set_cons_succ, List.set_cons_zero])))); (with_reducible refine qs_nil ?_))
        (refine mix_one (i := 13) (by kernel_rfl) rfl (by kernel_rfl) rfl ?_)
        (refine step_slice1 _ _ _ rfl 3 (mem3 sk ek fk) rfl _ member_under member_info (by omega) (by omega) ?_; intro l1 hl1; (simp only [Act.put, List.setIfInBounds_toArray, List.set_cons_succ, List.set_cons_zero]))
        (refine mix_one (i := 14) (by kernel_rfl) rfl (by kernel_rfl) rfl ?_)
        (refine step_push1 _ _ _ rfl _ 3 _ _ member_under member_infoB rfl (by omega) _ _ _ _ rfl hbb hnc hn _ _ rfl mem3_ones R HF.out hR1.out ?_; intro bL cL FL hbL hcL hFL; (simp only [Act.put, List.setIfInBounds_toArray, List.set_cons_succ, List.set_cons_zero]))
        (refine mix_one (i := 15) (by kernel_rfl) rfl (by kernel_rfl) rfl ?_)
        (refine step_val ?_; apply Exists.intro; refine ⟨fun W => ?_, ?_⟩; (go_simp; rfl); (simp only [Act.put, List.setIfInBounds_toArray, List.set_cons_succ, List.set_cons_zero]))
        (refine mix_end (by kernel_rfl) ?_; intro W' hM; simp only [List.cons_append, List.nil_append] at hM)
        go_wp2
        go_roundw
        case rel => exact ⟨k + 1, by omega, by go_num, Lib.hid (fun h => absurd h (by omega)), .inr ⟨bL, cL, FL, rfl, hbL, hcL, hFL, hM⟩⟩
        case measure => simp [intOf]; omega
    · obtain rfl : k = n3 := by omega
      go_wp2
      go_ret
      exact ⟨_, rfl, h0.out, hL.only⟩

set_option maxRecDepth 100000 in
set_option maxHeartbeats 4000000 in
theorem flockWith_own {r : Addr} (d : Hd) (b1 b2 b3 : Nat) (hd : FitsH d) (ga : Option Addr) (gn gc : Nat) (ys : Nat → Int) (hgn : gn ≤ 1048576) (w : World) (hM0 : Mem w (hdB d b1 b2 b3) w) (hE : HEnv r w) (hG : IntsAt w ga gn ys) (hv : HerdOk d) (hys : ∀ j, j < gn → 0 ≤ ys j ∧ ys j < d.n1) :
    Calls Tryd.prog 64 #[.agg (arr 3 (hdV d b1 b2 b3)), .slice ga gn gc] w fun e w' => ∃ ma mc m, e = .returned (.tuple #[.agg (arr 2 (flkV ma d.n1 mc m)), .nilIface]) ∧ d.n1 ≤ mc ∧ MemsOwn w.heap.size w' ma d.n1 mc d ∧ w'.heap[m]? = some (mapO kvS (keysU d d.n1) (putsU d d.n1)) ∧ Below w.heap.size w w' := by
  have hM := Mem.nil w
  have H0 := Lib.hid hM0
  have HE := Lib.hid hE
  have HG := Lib.hid hG
  have HV := Lib.hid (herdB_iff.2 hv)
  have HYS := Lib.hid hys
  have hmf := make_closure
  have h14 := hv.n
  have hMO := fun (W : World) (hB : Mem W (hdB d b1 b2 b3) W) => membersOf_l2 d b1 b2 b3 (by omega) hv.l2 hv.l3 W hB
  have hFO := fun (a : Option Addr) (c : Nat) (W : World) hA => flockOf_any d a d.n1 c h14 (fun i hi => hd.s i hi) W hA
  have hVH := fun (W : World) hB hE => implValidHerd_any (r := r) d b1 b2 b3 hd W hB hE
  clear hM0 hE hG hv hys
  obtain ⟨hv, hhv⟩ : ∃ f, hdV d b1 b2 b3 = f := ⟨_, rfl⟩
  rw [hhv] at hVH hMO ⊢
  obtain ⟨n, hn⟩ : ∃ n, d.n1 = n := ⟨_, rfl⟩
  rw [hn] at hMO hFO h14 ⊢
  have hys' := HYS.out
  rw [hn] at hys'
  have HY := Lib.hid hys'
  have HVH := Lib.hid hVH
  have HMO := Lib.hid hMO
  have HFO := Lib.hid hFO
  clear hhv hVH hMO hFO hn hys' HYS
  have tk_x1 : True := trivial; have tk_f4 : True := trivial; have tk_e5 : True := trivial; have tk_g1 : True := trivial; have tk_g2 : True := trivial; have tk_m1 : True := trivial; have tk_k1 : True := trivial; have tk_s1 : True := trivial
  go_enter_defers Tryd.func64, Tryd.ntmps64
  go_wp2_with (first | (have _t := tk_x1; refine wpList_box rfl _ _ rfl _ _ rfl hM ?_; intro x1 W' hx1 hM'; clear hM tk_x1; have hM := hM'; clear hM') | (have _t := tk_f4; refine wpList_zero rfl _ rfl (zeroTab _ _ _ rfl) hM ?_; intro f4 W' hf4 hM'; clear hM tk_f4; have hM := hM'; clear hM') | (have _t := tk_e5; refine wpList_zero1 rfl _ rfl (zero1Tab _ _ rfl) rfl hM ?_; intro e5 W' he5 hM'; clear hM tk_e5; have hM := hM'; clear hM') | (have _t := tk_g1; refine wpList_get rfl _ _ rfl _ _ rfl hM 2 rfl (rowTab _ _ rfl) (by omega) ?_; simp only [Nat.zero_add]; clear tk_g1) | (go_at_call 18; refine (HVH.out _ ((H0.out.call hM.below).base (Below.refl _ _)) (HE.out.below hM.below)).mono ?_; rintro e W' ⟨rfl, hb'⟩; rw [HV.out]; have hM' := hM.call hb'; clear hM hb'; have hM := hM'; clear hM') | (have _t := tk_g2; refine wpList_get rfl _ _ rfl _ _ rfl hM 2 rfl (rowTab _ _ rfl) (by omega) ?_; simp only [Nat.zero_add]; clear tk_g2) | (have _t := tk_m1; go_at_call 56; refine (HMO.out _ ((H0.out.call hM.below).base (Below.refl _ _))).mono ?_; rintro e W' ⟨v, rfl, hv0, hL⟩; obtain ⟨ma, mc, K, rfl, hmc, hM', hK⟩ := hL.keep2 hM hv0; have HK := Lib.hid hK; clear hM hK hL hv0 tk_m1; have hM := hM'; clear hM'; simp only [List.cons_append, List.nil_append] at hM) | (have _t := tk_k1; go_at_call 55; refine (HFO.out ma mc _ (HK.out _ [_, _, _] _ hM).at).mono ?_; rintro e Wf ⟨m, rfl, hmm, hO, hb'⟩; have hM' := (hM.call hb').withO (o := mapO kvS (keysU d n) (putsU d n)) rfl hO; clear hM hb' hO tk_k1; have hM := hM'; clear hM') | (have _t := tk_s1; refine wpList_lay rfl _ _ _ rfl _ _ rfl _ _ rfl hM 1 rfl (by assumption) (rowTab _ _ rfl) (by omega) (fun k _ => flkV_one _ _ _ _ k) ?_; intro W' hM'; have hM2 := hM'.re 1 rfl (flkV ma n mc m) (fun k hk => by simp [lay, hk]); simp only [List.set] at hM2; clear hM hM' tk_s1; have hM := hM2; clear hM2))
  go_loopw [19] (fun i wr => ∃ k : Nat, k ≤ gn ∧ i = .int .i64 k ∧ Mem ((Base.of w).with m (mapO kvS (keysU d n) (putsU d n)) rfl) ((e5, 1, fun _ => Value.nilIface) :: (f4, 2, flkV ma n mc m) :: (x1, 3, hv) :: K) wr) (fun i _ => gn - (intOf i).toNat)
  case atStart => exact ⟨0, by omega, rfl, hM⟩
  case round =>
    clear hM
    obtain ⟨k, hk, rfl, hM⟩ := hrel
    by_cases hlt : k < gn
    · have l2 : (k : Int) < gn := by omega
      obtain ⟨bg, Ng, Fg, rfl, hNg, hFg, hAg⟩ := (HG.out.below (show Below w.heap.size w wr from hM.good.1)).at (k := k) (by omega)
      have HAg := Lib.hid hAg
      clear hAg
      have hy := HY.out k (by omega)
      generalize ys k = y at hFg hy
      go_wp2_with (first | (refine wpList_getAt1 rfl _ _ rfl _ _ rfl HAg.out (cellTab _ rfl) (by omega) _ hFg ?_) | (refine wpList_get1 rfl _ _ rfl _ _ rfl hM 1 rfl (cellTab _ rfl) (by omega) (.slice ma n mc) rfl ?_) | (go_at_call 107; (with_reducible refine (demand_ok ma n mc y hy _).mono ?_); rintro e W' ⟨rfl, hb'⟩; have hM' := hM.call hb'; clear hM hb'; have hM := hM'; clear hM'))
      go_roundw
      case rel => exact ⟨k + 1, by omega, by go_num, hM⟩
      case measure => simp [intOf]; omega
    · obtain rfl : k = gn := by omega
      go_wp2_with (first | (refine wpList_get rfl _ _ rfl _ _ rfl hM 1 rfl (rowTab _ _ rfl) (by omega) ?_) | (refine wpList_lay rfl _ _ _ rfl _ _ rfl _ _ rfl hM 1 rfl (by assumption) (rowTab _ _ rfl) (by omega) (fun k _ => by rw [Nat.zero_add]; exact flkV_one _ _ _ _ k) ?_; intro W' hM'; have hM2 := hM'.re 1 rfl (flkV ma n mc m) (fun k hk => by simp [lay, hk]); simp only [List.set] at hM2; clear hM hM'; have hM := hM2; clear hM2) | (refine wpList_set1 rfl _ _ _ rfl _ _ rfl .nilIface rfl rfl hM 0 rfl (by assumption) (cellTab _ rfl) (by omega) ?_; intro W' hM'; have hM2 := hM'.re 0 rfl (fun _ => Value.nilIface) (fun k hk => by simp [upd]); simp only [List.set] at hM2; clear hM hM'; have hM := hM2; clear hM2))
      refine leaves_cons (f := 106) (args := #[.pointer (some ⟨e5, 0, none⟩)]) (by simp) (by simp [go_sem]) ?_
      refine (catch_idle e5 _).mono ?_
      rintro e u' w'' ⟨rfl, rfl, rfl⟩
      exact ⟨_, results_cells rfl _ rfl (hM.ats 1 _ _ _ rfl) (rowTab _ _ rfl) rfl ((hM.ats 0 _ _ _ rfl).cell (by omega)) (cellTab _ rfl), ma, mc, m, rfl, hmc, HK.out _ [_, _, _] _ hM, hM.good.2, hM.good.1⟩
end Go.Proofs.YthodkbmenndnoaaDoor

/-
  errors.Join of errors that are all the same one, or nil, by contract.
-/
namespace Go.Proofs.YthodkbmenndnoaaDoor
open Go Go.RowKit Go.BigFrame

/-- Errors told by whether they are there; x the one that it is. -/
def errE (x : Addr) (es : Nat → Bool) : Nat → Value := fun k => if es k then errV x else .nilIface
theorem errE_one (x : Addr) (es : Nat → Bool) (k : Nat) : (errE x es k).oneCell' = true := by unfold errE; split <;> rfl
/-- How many of the first k are there. -/
def cntE (es : Nat → Bool) : Nat → Nat
  | 0 => 0
  | k + 1 => cntE es k + (if es k then 1 else 0)
theorem cntE_le (es : Nat → Bool) : ∀ k, cntE es k ≤ k
  | 0 => by simp [cntE]
  | k + 1 => by have := cntE_le es k; simp only [cntE]; split <;> omega
theorem cntE_mono (es : Nat → Bool) : ∀ {k n : Nat}, k ≤ n → cntE es k ≤ cntE es n
  | k, 0, h => by obtain rfl : k = 0 := by omega
                  exact Nat.le_refl _
  | k, n + 1, h => by
    by_cases e : k = n + 1
    · rw [e]; exact Nat.le_refl _
    · have := cntE_mono es (show k ≤ n by omega); simp only [cntE]; omega
theorem cntE_yes {es : Nat → Bool} {k : Nat} (h : es k = true) : cntE es (k + 1) = cntE es k + 1 := by simp [cntE, h]
theorem cntE_no {es : Nat → Bool} {k : Nat} (h : es k = false) : cntE es (k + 1) = cntE es k := by simp [cntE, h]

theorem upd_one (f : Nat → Value) (v : Value) : ∀ k, k < 1 → upd f 0 v k = v := fun k hk => by simp [upd, show k = 0 by omega]
/-- A joined error's value; what lies behind it. -/
def joinV (b : Nat) : Value := .iface 133 (.pointer (some ⟨b, 0, none⟩))
def JoinAt (W : World) (b : Nat) (x : Addr) (c : Nat) : Prop := ∃ eb cc F, At W b 1 (fun _ => .slice (some ⟨eb, 0, none⟩) c cc) ∧ At W eb (cc * 1) F ∧ b ≠ eb ∧ c ≤ cc ∧ ∀ j, j < c → F j = errV x
theorem JoinAt.below {W W' : World} {b c : Nat} {x : Addr} (h : JoinAt W b x c) (hb : Below W.heap.size W W') : JoinAt W' b x c := by
  obtain ⟨eb, cc, F, h1, h2, h3⟩ := h
  exact ⟨eb, cc, F, h1.below hb h1.lt, h2.below hb h2.lt, h3⟩

theorem run_buildJ (v : Value) (W : World) (b : Option Addr) (n c : Nat) (hv : v = .slice b n c) : (Instr.build 135 #[(0, v)]).run Tryd.prog W = .ok (.agg (arr 1 fun _ => v)) W := by
  subst hv; kernel_rfl
theorem wpList_buildJ {ops : Array Oper} {rest : List Oper} {o : Oper} {a : Act} {W : World} {Q : Exit → Act → World → Prop} (hgd : o.guard = none) (x : Operand) (ho : o.op = .build 135 #[(0, x)]) (b : Option Addr) (n c : Nat) (hx : a.eval x = .slice b n c)
    (h : wpList Tryd.prog ops Q rest (a.put o.dst (.agg (arr 1 fun _ => .slice b n c))) W) : wpList Tryd.prog ops Q (o :: rest) a W := by
  refine wpList_plain hgd fun K hK => ?_
  unfold Oper.wp execOp
  have e : (Array.map (fun (z : Nat × Operand) => match z with | (i, x) => (i, a.eval x)) #[(0, x)]) = #[(0, .slice b n c)] := by simp [hx]
  simp only [ho, e, Sem.run_bind, Sem.run_pure, run_buildJ _ W b n c rfl, Result.andThen_ok]
  exact hK _ _ h
theorem err_info : (Tryd.prog.info? 85).map (fun i => (i.size, i.zero, i.bytes)) = some (1, some .nilIface, 16) := by kernel_rfl
theorem err_info2 : (Tryd.prog.info? 85).map (fun i => (i.size, i.zero)) = some (1, some .nilIface) := by kernel_rfl
theorem errs_under : Tryd.prog.underlying 132 = some (.slice 85) := Tryd.underlying132

def JoinIn (w : World) (bl m n : Nat) (x : Addr) (es : Nat → Bool) (sb k : Nat) (wr : World) : Prop :=
  ∃ eb c F, (∀ j, j < cntE es k * 1 → F j = errV x) ∧ cntE es k ≤ c ∧ w.heap.size ≤ eb ∧ Mem w [(eb, c * 1, F), (sb, 1, fun _ => .slice (some ⟨eb, 0, none⟩) (cntE es k) c), (bl, m, errE x es)] wr

set_option maxRecDepth 100000 in
set_option maxHeartbeats 2000000 in
theorem join_none (x : Addr) (es : Nat → Bool) (bl m c : Nat) (hm : m ≤ 3) (h0 : cntE es m = 0) (w : World) (hA : At w bl m (errE x es)) :
    Calls Tryd.prog 87 #[.slice (some ⟨bl, 0, none⟩) m c] w fun e w' => e = .returned .nilIface ∧ Below w.heap.size w w' := by
  have hM : Mem w [(bl, m, errE x es)] w := (Mem.nil w).old hA (fun i p h => by simp at h)
  have hno : ∀ k, k < m → es k = false := fun k hk => by
    have := cntE_mono es (show k + 1 ≤ m by omega)
    cases e : es k
    · rfl
    · rw [cntE_yes e] at this; omega
  have Hno := Lib.hid hno
  clear hno h0 hA
  go_enter Tryd.func87, Tryd.ntmps87
  go_wp2
  go_loopw [3, 11] (fun n i wr => ∃ k : Nat, k ≤ m ∧ n = .int .i64 0 ∧ i = .int .i64 k ∧ Mem w [(bl, m, errE x es)] wr) (fun _ i _ => m - (intOf i).toNat)
  case atStart => exact ⟨0, by omega, rfl, rfl, hM⟩
  case round =>
    clear hM
    obtain ⟨k, hk, rfl, rfl, hM⟩ := hrel
    by_cases hlt : k < m
    · have lk : (k : Int) < m := by omega
      have e0 : errE x es (k * 1) = .nilIface := by rw [Nat.mul_one]; simp [errE, Hno.out k hlt]
      have e0' : errE x es k = .nilIface := by simp [errE, Hno.out k hlt]
      go_wp2_with (first | (refine wpList_get1 rfl _ _ rfl _ _ rfl hM 0 rfl (cellTab _ rfl) (by omega) _ (by first | exact e0 | exact e0') ?_))
      go_roundw
      case rel => exact ⟨k + 1, by omega, rfl, by go_num, hM⟩
      case measure => simp [intOf]; omega
    · obtain rfl : k = m := by omega
      go_wp2
      go_ret
      exact ⟨rfl, hM.below⟩

theorem errE_yes {x : Addr} {es : Nat → Bool} {k : Nat} (h : es k = true) : errE x es k = errV x := by simp [errE, h]
theorem errE_no {x : Addr} {es : Nat → Bool} {k : Nat} (h : es k = false) : errE x es k = .nilIface := by simp [errE, h]
set_option maxRecDepth 100000 in
set_option maxHeartbeats 4000000 in
theorem join_some (x : Addr) (es : Nat → Bool) (bl m c : Nat) (hm : m ≤ 3) (h0 : 0 < cntE es m) (w : World) (hA : At w bl m (errE x es)) :
    Calls Tryd.prog 87 #[.slice (some ⟨bl, 0, none⟩) m c] w fun e w' => ∃ b, e = .returned (joinV b) ∧ JoinAt w' b x (cntE es m) ∧ Below w.heap.size w w' := by
  have hM : Mem w [(bl, m, errE x es)] w := (Mem.nil w).old hA (fun i p h => by simp at h)
  clear hA
  go_enter Tryd.func87, Tryd.ntmps87
  go_wp2
  go_loopw [3, 11] (fun n i wr => ∃ k : Nat, k ≤ m ∧ n = .int .i64 (cntE es k : Nat) ∧ i = .int .i64 k ∧ Mem w [(bl, m, errE x es)] wr) (fun _ i _ => m - (intOf i).toNat)
  case atStart => exact ⟨0, by omega, rfl, rfl, hM⟩
  case round =>
    clear hM
    obtain ⟨k, hk, rfl, rfl, hM⟩ := hrel
    by_cases hlt : k < m
    · have lk : (k : Int) < m := by omega
      have hle := cntE_le es k
      have c1 : IntKind.i64.wrap ((cntE es k : Nat) + 1 : Int) = ((cntE es k + 1 : Nat) : Int) := by rw [IntWalk.i64_in _ (by omega)]; rfl
      clear hle
      cases he : es k
      · have e0 : errE x es k = .nilIface := errE_no he
        have e1 : errE x es (k * 1) = .nilIface := by rw [Nat.mul_one]; exact e0
        go_wp2_with (first | (refine wpList_get1 rfl _ _ rfl _ _ rfl hM 0 rfl (cellTab _ rfl) (by omega) _ (by first | exact e0 | exact e1) ?_))
        go_roundw
        case rel => exact ⟨k + 1, by omega, by rw [cntE_no he], by go_num, hM⟩
        case measure => simp [intOf]; omega
      · have e0 : errE x es k = errV x := errE_yes he
        have e1 : errE x es (k * 1) = errV x := by rw [Nat.mul_one]; exact e0
        go_wp2_with (first | (refine wpList_get1 rfl _ _ rfl _ _ rfl hM 0 rfl (cellTab _ rfl) (by omega) _ (by first | exact e0 | exact e1) ?_))
        go_roundw
        case rel => exact ⟨k + 1, by omega, by rw [cntE_yes he]; exact congrArg _ (by omega), by go_num, hM⟩
        case measure => simp [intOf]; omega
    · obtain rfl : k = m := by omega
      have hle := cntE_le es k
      have hpos : ¬ ((cntE es k : Nat) : Int) = 0 := by omega
      have hpos2 : decide (((cntE es k : Nat) : Int) = 0) = false := decide_eq_false hpos
      have tk_q1 : True := trivial; have tk_q2 : True := trivial; have tk_q3 : True := trivial
      go_wp2_with (first | (have _t := tk_q1; refine wpList_make0 rfl _ _ _ _ rfl (cntE es k) rfl rfl .nilIface 16 rfl errs_under err_info (by omega) (by omega) hM ?_; intro eb W' heb hM'; clear hM tk_q1; have hM := hM'; clear hM') | (have _t := tk_q2; refine wpList_buildJ rfl _ rfl _ _ _ rfl ?_; clear tk_q2) | (have _t := tk_q3; refine wpList_box rfl _ _ rfl 1 _ rfl hM ?_; intro sb W' hsb hM'; clear hM tk_q3; have hM := hM'; clear hM'))
      have hJ : ∀ w0, w0 = w → ∀ wr, Mem w [(sb, 1, fun _ => .slice (some ⟨eb, 0, none⟩) 0 (cntE es k)), (eb, cntE es k * 1, fun _ => .nilIface), (bl, k, errE x es)] wr → JoinIn w bl k (cntE es k) x es sb 0 wr := fun _ _ wr h =>
        ⟨eb, cntE es k, fun _ => .nilIface, fun j hj => absurd hj (by simp [cntE]), by simp [cntE], heb, h.swap⟩
      go_loopw [28] (fun i wr => ∃ j : Nat, j ≤ k ∧ i = .int .i64 j ∧ JoinIn w bl k (cntE es k) x es sb j wr) (fun i _ => k - (intOf i).toNat)
      case atStart => exact ⟨0, by omega, rfl, hJ _ rfl _ hM⟩
      case round =>
        clear hM hJ
        obtain ⟨j, hj, rfl, eb1, c1, F1, hF1, hc1, heb1, hM⟩ := hrel
        by_cases hjl : j < k
        · have lj : (j : Int) < k := by omega
          have hlej := cntE_le es j
          cases he : es j
          · have e0 : errE x es j = .nilIface := errE_no he
            have e1 : errE x es (j * 1) = .nilIface := by rw [Nat.mul_one]; exact e0
            go_wp2_with (first | (refine wpList_get1 rfl _ _ rfl _ _ rfl hM 2 rfl (cellTab _ rfl) (by omega) _ (by first | exact e0 | exact e1) ?_))
            go_roundw
            case rel => exact ⟨j + 1, by omega, by go_num, eb1, c1, F1, by rw [cntE_no he]; exact hF1, by rw [cntE_no he]; exact hc1, heb1, by rw [cntE_no he]; exact hM⟩
            case measure => simp [intOf]; omega
          · have e0 : errE x es j = errV x := errE_yes he
            have e1 : errE x es (j * 1) = errV x := by rw [Nat.mul_one]; exact e0
            have tk_r1 : True := trivial; have tk_r2 : True := trivial; have tk_r3 : True := trivial; have tk_p1 : True := trivial; have tk_r4 : True := trivial
            go_wp2_with (first | (have _t := tk_r1; refine wpList_get1 rfl _ _ rfl _ _ rfl hM 2 rfl (cellTab _ rfl) (by omega) _ (by first | exact e0 | exact e1) ?_; clear tk_r1) | (have _t := tk_r2; (refine wpList_get1 rfl _ _ rfl _ _ rfl hM 1 rfl (cellTab _ rfl) (by omega) _ rfl ?_); clear tk_r2) | (have _t := tk_r3; refine wpList_lit1 rfl _ _ _ rfl (errV x) rfl rfl _ errs_under err_info2 hM ?_; intro bn W' hbn hM'; clear hM tk_r3; have hM := hM'; clear hM') | (have _t := tk_p1; refine wpList_push1 rfl _ _ _ rfl _ 1 _ _ errs_under err_info rfl (by omega) _ _ _ _ rfl heb1 hc1 (by omega) _ _ rfl (fun _ _ => rfl) hM (fun _ => errV x) hF1 (fun _ _ => rfl) ?_; intro bL cL FL W' hbL hcL hFL hM'; clear hM tk_p1; have hM := hM'; clear hM') | (have _t := tk_r4; (refine wpList_set1 rfl _ _ _ rfl _ _ rfl _ rfl ?_ hM 1 rfl (by assumption) (cellTab _ rfl) (by omega) ?_; (first | rfl | exact h1 _); intro W' hM'; clear hM; have hM := hM'; clear hM'; simp [List.set, Act.eval] at hM); clear tk_r4))
            have hM2 := hM.re (b := sb) (n := 1) 1 rfl (fun _ => .slice (some ⟨bL, 0, none⟩) (cntE es j + 1) cL) (upd_one _ _)
            simp only [List.set] at hM2
            go_roundw
            case rel => exact ⟨j + 1, by omega, by go_num, bL, cL, FL, by rw [cntE_yes he]; exact hFL, by rw [cntE_yes he]; exact hcL, hbL, by rw [cntE_yes he, Nat.mul_one]; exact hM2⟩
            case measure => simp [intOf]; omega
        · obtain rfl : j = k := by omega
          go_wp2
          go_ret
          exact ⟨sb, rfl, ⟨eb1, c1, F1, hM.ats 1 _ _ _ rfl, hM.ats 0 _ _ _ rfl, hM.apart 1 0 _ _ rfl rfl (by omega), hc1, fun i hi => hF1 i (by omega)⟩, hM.below⟩
end Go.Proofs.YthodkbmenndnoaaDoor

/-
  errors.Is and impl.codeOf of joined errors, by contracts.
-/
namespace Go.Proofs.YthodkbmenndnoaaDoor
open Go Go.RowKit Go.BigFrame Go.Extern.Stop Go.Stop Go.Extern

theorem hasUnwraps (v : Value) (xT : TypeId) (w : World) : (Instr.typeAssert (.iface 133 v) xT 163 true).run Tryd.prog w = .ok (.tuple #[.iface 133 v, .bool true]) w := run_typeAssert_hasB Tryd.underlying163 (by kernel_rfl) v xT w
theorem noIsJ (v : Value) (xT : TypeId) (w : World) : (Instr.typeAssert (.iface 133 v) xT 165 true).run Tryd.prog w = .ok (.tuple #[.nilIface, .bool false]) w := run_typeAssert_lacksB Tryd.underlying165 (by kernel_rfl) (by kernel_rfl) v xT w
theorem noUnwrapJ (v : Value) (xT : TypeId) (w : World) : (Instr.typeAssert (.iface 133 v) xT 162 true).run Tryd.prog w = .ok (.tuple #[.nilIface, .bool false]) w := run_typeAssert_lacksB Tryd.underlying162 (by kernel_rfl) (by kernel_rfl) v xT w
theorem methodUnwraps (v : Value) (w : World) : (Go.method 301 133 v "Unwrap").run Tryd.prog w = .ok (145, v) w := by kernel_rfl
theorem eql_types (b : Nat) (y : Addr) (w : World) : (binOp .eql 85 (joinV b) (errV y)).run Tryd.prog w = .ok (.bool false) w := run_eql_iface_types _ _ _ _ Tryd.underlying85 (by decide) w

set_option maxRecDepth 100000 in
/-- errors.is of one error and itself. -/
theorem is1_same (x : Addr) (w : World) :
    Calls Tryd.prog 122 #[errV x, errV x, .bool true] w fun e w' => e = .returned (.bool true) ∧ w' = w := by
  obtain ⟨i, hi, hcmp⟩ := Option.map_eq_some_iff.1 isComp
  obtain ⟨j, hj, hjs⟩ := Option.map_eq_some_iff.1 isSize
  have heq := run_eql_iface_ptr_same (P := Tryd.prog) w x Tryd.underlying85 Tryd.underlying170 hi hcmp hj
  unfold errV
  go_enter Tryd.func122, Tryd.ntmps122
  go_wp2
  refine wp_loop_rounds 1 ?_
  rw [rounds_succ]
  go_wp2
  go_ret
  exact ⟨rfl, rfl⟩
set_option maxRecDepth 100000 in
/-- errors.is of two different errors. -/
theorem is1_other (a b : Addr) (ca cb : Array Value) (ta tb : TypeId) (w : World) (hne : a ≠ b) (ha : w.heap[a.block]? = some (.cells ca ta (0, 0))) (hb : w.heap[b.block]? = some (.cells cb tb (0, 0))) :
    Calls Tryd.prog 122 #[errV a, errV b, .bool true] w fun e w' => e = .returned (.bool false) ∧ w' = w := by
  obtain ⟨i, hi, hcmp⟩ := Option.map_eq_some_iff.1 isComp
  obtain ⟨j, hj, hjs⟩ := Option.map_eq_some_iff.1 isSize
  have nE := noIsE
  have uE := noUnwrapE
  have vE := noUnwrapsE
  have heq := run_eql_iface_ptr_other (P := Tryd.prog) w Tryd.underlying85 Tryd.underlying170 hi hcmp hj (by rw [hjs]; decide) hne ha hb
  unfold errV
  go_enter Tryd.func122, Tryd.ntmps122
  go_wp2
  refine wp_loop_rounds 1 ?_
  rw [rounds_succ]
  go_wp2
  go_ret
  exact ⟨rfl, rfl⟩
theorem is1_no {a : Nat → Addr} {w : World} (h : Errs a w) (i j : Nat) (hi : i < 7) (hj : j < 7) (e : i ≠ j) :
    Calls Tryd.prog 122 #[errV (a i), errV (a j), .bool true] w fun e w' => e = .returned (.bool false) ∧ w = w' := by
  obtain ⟨ca, ta, ha⟩ := h.cells i hi
  obtain ⟨cb, tb, hb⟩ := h.cells j hj
  exact (is1_other _ _ ca cb ta tb w (h.apart i j hi hj e) ha hb).mono fun _ _ h => ⟨h.1, h.2.symm⟩

theorem unwraps_any (b : Nat) (v : Value) (w : World) (hA : At w b 1 fun _ => v) :
    Calls Tryd.prog 145 #[.pointer (some ⟨b, 0, none⟩)] w fun e w' => e = .returned v ∧ w' = w := by
  have hc : w.cell? ⟨b, 0, none⟩ = some v := hA.cell (by omega)
  go_enter Tryd.func145, Tryd.ntmps145
  go_wp2
  go_ret
  exact ⟨rfl, rfl⟩

set_option maxRecDepth 100000 in
set_option maxHeartbeats 2000000 in
/-- errors.is of a joined error and the one that it holds. -/
theorem isJ_yes (b c : Nat) (x : Addr) (hc : 0 < c) (w : World) (hJ : JoinAt w b x c) :
    Calls Tryd.prog 122 #[joinV b, errV x, .bool true] w fun e w' => e = .returned (.bool true) ∧ w = w' := by
  obtain ⟨eb, cc, F, h1, h2, hne, hle, hF⟩ := hJ
  have nE := noIsJ
  have uE := noUnwrapJ
  have vE := hasUnwraps
  have mU := methodUnwraps
  have heq := eql_types b x
  have c0 : w.cell? ⟨eb, 0, none⟩ = some (errV x) := by rw [h2.cell (by omega), hF 0 hc]
  have lc : (0 : Int) < c := by omega
  have H1 := Lib.hid h1
  clear h1 h2 hF
  unfold joinV at heq ⊢
  go_enter Tryd.func122, Tryd.ntmps122
  go_wp2
  refine wp_loop_rounds 1 ?_
  rw [rounds_succ]
  go_wp2_with (first | (go_at_call 145; refine (unwraps_any b _ _ H1.out).mono ?_; rintro e W' ⟨rfl, rfl⟩))
  refine wp_loop_rounds 1 ?_
  rw [rounds_succ]
  go_wp2_with (first | (go_at_call 122; refine (is1_same x _).mono ?_; rintro e W' ⟨rfl, rfl⟩))
  go_ret
  exact ⟨rfl, rfl⟩

set_option maxRecDepth 100000 in
set_option maxHeartbeats 2000000 in
/-- errors.is of a joined error and another one than it holds. -/
theorem isJ_no {a : Nat → Addr} (b c : Nat) (i j : Nat) (hi : i < 7) (hj : j < 7) (hij : i ≠ j) (hcm : c ≤ 1000) (w : World) (hJ : JoinAt w b (a i) c) (hE : Errs a w) :
    Calls Tryd.prog 122 #[joinV b, errV (a j), .bool true] w fun e w' => e = .returned (.bool false) ∧ w = w' := by
  obtain ⟨eb, cc, F, h1, h2, hne, hle, hF⟩ := hJ
  have nE := noIsJ
  have uE := noUnwrapJ
  have vE := hasUnwraps
  have mU := methodUnwraps
  have heq := eql_types b (a j)
  have HF : Hid (∀ k, k < c → w.cell? ⟨eb, k, none⟩ = some (errV (a i))) := Lib.hid (fun k hk => by rw [h2.cell (by omega), hF k hk])
  have H1 := Lib.hid h1
  have HE := Lib.hid hE
  clear h1 h2 hF hE
  unfold joinV at heq ⊢
  go_enter Tryd.func122, Tryd.ntmps122
  go_wp2
  refine wp_loop_rounds 1 ?_
  rw [rounds_succ]
  go_wp2_with (first | (go_at_call 145; refine (unwraps_any b _ _ H1.out).mono ?_; rintro e W' ⟨rfl, rfl⟩))
  go_loopw [45] (fun n wr => ∃ k : Nat, k ≤ c ∧ n = .int .i64 k ∧ wr = W') (fun n _ => c - (intOf n).toNat)
  case atStart => exact ⟨0, by omega, rfl, rfl⟩
  case round =>
    obtain ⟨k, hk, rfl, rfl⟩ := hrel
    by_cases hlt : k < c
    · have lk : (k : Int) < c := by omega
      have ck := HF.out k hlt
      go_wp2_with (first | (go_at_call 122; refine (is1_no HE.out i j hi hj hij).mono ?_; rintro e W' ⟨rfl, rfl⟩))
      go_roundw
      case rel => exact ⟨k + 1, by omega, by go_num, by first | rfl | trivial⟩
      case measure => simp [intOf]; omega
    · obtain rfl : k = c := by omega
      go_wp2
      go_ret
      exact ⟨rfl, rfl⟩

set_option maxRecDepth 100000 in
theorem IsJ_yes {a : Nat → Addr} (b c : Nat) (i : Nat) (hi : i < 7) (hc : 0 < c) (w : World) (hJ : JoinAt w b (a i) c) :
    Calls Tryd.prog 108 #[joinV b, errV (a i)] w fun e w' => e = .returned (.bool true) ∧ w = w' := by
  have h8 := @run_callFunc_extern Tryd.prog 121 _ Extern.ReflectliteType.typeOf Tryd.func121 (by kernel_rfl) (by kernel_rfl) (by kernel_rfl) (by kernel_rfl)
  have tT := isTypeOf
  have cT := isComparable
  have mR := isMethodComparable
  have hY := isJ_yes b c (a i) hc w hJ
  unfold joinV errV at hY ⊢
  go_enter Tryd.func108, Tryd.ntmps108
  go_wp2_with (first | (go_at_call 122; refine hY.mono ?_; rintro e W' ⟨rfl, rfl⟩))
  go_ret
  exact ⟨rfl, rfl⟩
set_option maxRecDepth 100000 in
theorem IsJ_no {a : Nat → Addr} (b c : Nat) (i j : Nat) (hi : i < 7) (hj : j < 7) (hij : i ≠ j) (hcm : c ≤ 1000) (w : World) (hJ : JoinAt w b (a i) c) (hE : Errs a w) :
    Calls Tryd.prog 108 #[joinV b, errV (a j)] w fun e w' => e = .returned (.bool false) ∧ w = w' := by
  have h8 := @run_callFunc_extern Tryd.prog 121 _ Extern.ReflectliteType.typeOf Tryd.func121 (by kernel_rfl) (by kernel_rfl) (by kernel_rfl) (by kernel_rfl)
  have tT := isTypeOf
  have cT := isComparable
  have mR := isMethodComparable
  have hY := isJ_no b c i j hi hj hij hcm w hJ hE
  unfold joinV errV at hY ⊢
  go_enter Tryd.func108, Tryd.ntmps108
  go_wp2_with (first | (go_at_call 122; refine hY.mono ?_; rintro e W' ⟨rfl, rfl⟩))
  go_ret
  exact ⟨rfl, rfl⟩

set_option maxRecDepth 100000 in
set_option maxHeartbeats 4000000 in
/-- The code of joined errors of which each is the first one. -/
theorem codeJ_0 {a : Nat → Addr} {w : World} (b c : Nat) (hc : 0 < c) (h : Errs a w) (hJ : JoinAt w b (a 0) c) :
    Calls Tryd.prog 65 #[joinV b] w fun e w' => e = .returned (.int .i64 1) ∧ w = w' := by
  have v0 : w.cell? ⟨0, 0, none⟩ = some (errV (a 0)) := h.vars 0 (by omega)
  have HJ := Lib.hid hJ
  clear h hJ
  go_enter Tryd.func65, Tryd.ntmps65
  go_wp2_with (first | (go_at_call 108; (with_reducible refine (IsJ_yes b c 0 (by omega) hc _ HJ.out).mono ?_); rintro e W' ⟨rfl, rfl⟩))
  go_ret
  exact ⟨rfl, rfl⟩
set_option maxRecDepth 100000 in
set_option maxHeartbeats 4000000 in
/-- The code of joined errors of which each is the second one. -/
theorem codeJ_1 {a : Nat → Addr} {w : World} (b c : Nat) (hc : 0 < c) (hcm : c ≤ 1000) (h : Errs a w) (hJ : JoinAt w b (a 1) c) :
    Calls Tryd.prog 65 #[joinV b] w fun e w' => e = .returned (.int .i64 2) ∧ w = w' := by
  have v0 : w.cell? ⟨0, 0, none⟩ = some (errV (a 0)) := h.vars 0 (by omega)
  have v1 : w.cell? ⟨1, 0, none⟩ = some (errV (a 1)) := h.vars 1 (by omega)
  have HJ := Lib.hid hJ
  have H := Lib.hid h
  clear h hJ
  go_enter Tryd.func65, Tryd.ntmps65
  go_wp2_with (first | (go_at_call 108; (with_reducible refine (IsJ_no b c 1 0 (by omega) (by omega) (by omega) hcm _ HJ.out H.out).mono ?_); rintro e W' ⟨rfl, rfl⟩) | (go_at_call 108; (with_reducible refine (IsJ_yes b c 1 (by omega) hc _ HJ.out).mono ?_); rintro e W' ⟨rfl, rfl⟩))
  go_ret
  exact ⟨rfl, rfl⟩
@[go_sem] theorem guard_join (x : Operand) (b : Nat) (W : World) : (eqGuard .neq 85 x (.const .nilIface) (joinV b) .nilIface).run Tryd.prog W = .ok () W := by
  unfold joinV; go_simp
@[go_sem] theorem neq_join (b : Nat) (W : World) : (binOp .neq 85 (joinV b) .nilIface).run Tryd.prog W = .ok (.bool true) W := by
  unfold joinV; go_simp
end Go.Proofs.YthodkbmenndnoaaDoor

