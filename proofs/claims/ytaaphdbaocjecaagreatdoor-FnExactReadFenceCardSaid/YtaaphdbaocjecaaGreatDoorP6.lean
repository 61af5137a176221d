/-
  Several texts in one: CodeOf, Neq0, Join, IsJoin, ReadE, Results, QuietOld.
-/
import Derived.Test.YtaaphdbaocjecaaGreatDoorP1
import Derived.Lib.Hide
import Derived.Test.YtaaphdbaocjecaaGreatDoorP5
import Derived.Test.YtaaphdbaocjecaaGreatDoorP2
import Derived.Laws.ResultCell
/-
  impl.codeOf by contract; what checkCells hands back.
-/
namespace Go.Proofs.YtaaphdbaocjecaaGreatDoor
open Go Go.RowKit Go.BigFrame

theorem is_yes {a : Nat → Addr} (i : Nat) (w : World) :
    Calls Tryz.prog 33 #[errV (a i), errV (a i)] w fun e w' => e = .returned (.bool true) ∧ w = w' := (is_same _ w).mono fun _ _ h => ⟨h.1, h.2.symm⟩
theorem is_no {a : Nat → Addr} {w : World} (h : Errs a w) (i j : Nat) (hi : i < 7) (hj : j < 7) (e : i ≠ j) :
    Calls Tryz.prog 33 #[errV (a i), errV (a j)] w fun e w' => e = .returned (.bool false) ∧ w = w' := by
  obtain ⟨ca, ta, ha⟩ := h.cells i hi
  obtain ⟨cb, tb, hb⟩ := h.cells j hj
  exact (is_other _ _ ca cb ta tb w (h.apart i j hi hj e) ha hb).mono fun _ _ h => ⟨h.1, h.2.symm⟩

/-- The code of the k-th error. -/
def codeK (k : Nat) : Int :=
  match k with
  | 0 => 1
  | 1 => 2
  | 2 => 4
  | 3 => 5
  | 4 => 6
  | 5 => 3
  | _ => 7

set_option maxRecDepth 100000 in
set_option maxHeartbeats 4000000 in
theorem codeOf_0 {a : Nat → Addr} {w : World} (h : Errs a w) :
    Calls Tryz.prog 20 #[errV (a 0)] w fun e w' => e = .returned (.int .i64 1) ∧ w = w' := by
  have v0 : w.cell? ⟨1, 0, none⟩ = some (errV (a 0)) := h.vars 0 (by omega)
  have H := Lib.hid h
  clear h
  go_enter Tryz.func20, Tryz.ntmps20
  go_wp2_with (first | (go_at_call 33; (with_reducible refine (is_yes 0 _).mono ?_); rintro e W' ⟨rfl, rfl⟩))
  go_ret
  exact ⟨rfl, rfl⟩
set_option maxRecDepth 100000 in
set_option maxHeartbeats 4000000 in
theorem codeOf_1 {a : Nat → Addr} {w : World} (h : Errs a w) :
    Calls Tryz.prog 20 #[errV (a 1)] w fun e w' => e = .returned (.int .i64 2) ∧ w = w' := by
  have v0 : w.cell? ⟨1, 0, none⟩ = some (errV (a 0)) := h.vars 0 (by omega)
  have v1 : w.cell? ⟨2, 0, none⟩ = some (errV (a 1)) := h.vars 1 (by omega)
  have H := Lib.hid h
  clear h
  go_enter Tryz.func20, Tryz.ntmps20
  go_wp2_with (first | (go_at_call 33; (with_reducible refine (is_no H.out 1 0 (by omega) (by omega) (by omega)).mono ?_); rintro e W' ⟨rfl, rfl⟩) | (go_at_call 33; (with_reducible refine (is_yes 1 _).mono ?_); rintro e W' ⟨rfl, rfl⟩))
  go_ret
  exact ⟨rfl, rfl⟩
set_option maxRecDepth 100000 in
set_option maxHeartbeats 4000000 in
theorem codeOf_2 {a : Nat → Addr} {w : World} (h : Errs a w) :
    Calls Tryz.prog 20 #[errV (a 2)] w fun e w' => e = .returned (.int .i64 4) ∧ w = w' := by
  have v0 : w.cell? ⟨1, 0, none⟩ = some (errV (a 0)) := h.vars 0 (by omega)
  have v1 : w.cell? ⟨2, 0, none⟩ = some (errV (a 1)) := h.vars 1 (by omega)
  have v5 : w.cell? ⟨3, 0, none⟩ = some (errV (a 5)) := h.vars 5 (by omega)
  have v2 : w.cell? ⟨4, 0, none⟩ = some (errV (a 2)) := h.vars 2 (by omega)
  have H := Lib.hid h
  clear h
  go_enter Tryz.func20, Tryz.ntmps20
  go_wp2_with (first | (go_at_call 33; (with_reducible refine (is_no H.out 2 0 (by omega) (by omega) (by omega)).mono ?_); rintro e W' ⟨rfl, rfl⟩) | (go_at_call 33; (with_reducible refine (is_no H.out 2 1 (by omega) (by omega) (by omega)).mono ?_); rintro e W' ⟨rfl, rfl⟩) | (go_at_call 33; (with_reducible refine (is_no H.out 2 5 (by omega) (by omega) (by omega)).mono ?_); rintro e W' ⟨rfl, rfl⟩) | (go_at_call 33; (with_reducible refine (is_yes 2 _).mono ?_); rintro e W' ⟨rfl, rfl⟩))
  go_ret
  exact ⟨rfl, rfl⟩
set_option maxRecDepth 100000 in
set_option maxHeartbeats 4000000 in
theorem codeOf_3 {a : Nat → Addr} {w : World} (h : Errs a w) :
    Calls Tryz.prog 20 #[errV (a 3)] w fun e w' => e = .returned (.int .i64 5) ∧ w = w' := by
  have v0 : w.cell? ⟨1, 0, none⟩ = some (errV (a 0)) := h.vars 0 (by omega)
  have v1 : w.cell? ⟨2, 0, none⟩ = some (errV (a 1)) := h.vars 1 (by omega)
  have v5 : w.cell? ⟨3, 0, none⟩ = some (errV (a 5)) := h.vars 5 (by omega)
  have v2 : w.cell? ⟨4, 0, none⟩ = some (errV (a 2)) := h.vars 2 (by omega)
  have v3 : w.cell? ⟨0, 0, none⟩ = some (errV (a 3)) := h.vars 3 (by omega)
  have H := Lib.hid h
  clear h
  go_enter Tryz.func20, Tryz.ntmps20
  go_wp2_with (first | (go_at_call 33; (with_reducible refine (is_no H.out 3 0 (by omega) (by omega) (by omega)).mono ?_); rintro e W' ⟨rfl, rfl⟩) | (go_at_call 33; (with_reducible refine (is_no H.out 3 1 (by omega) (by omega) (by omega)).mono ?_); rintro e W' ⟨rfl, rfl⟩) | (go_at_call 33; (with_reducible refine (is_no H.out 3 5 (by omega) (by omega) (by omega)).mono ?_); rintro e W' ⟨rfl, rfl⟩) | (go_at_call 33; (with_reducible refine (is_no H.out 3 2 (by omega) (by omega) (by omega)).mono ?_); rintro e W' ⟨rfl, rfl⟩) | (go_at_call 33; (with_reducible refine (is_yes 3 _).mono ?_); rintro e W' ⟨rfl, rfl⟩))
  go_ret
  exact ⟨rfl, rfl⟩
set_option maxRecDepth 100000 in
set_option maxHeartbeats 4000000 in
theorem codeOf_4 {a : Nat → Addr} {w : World} (h : Errs a w) :
    Calls Tryz.prog 20 #[errV (a 4)] w fun e w' => e = .returned (.int .i64 6) ∧ w = w' := by
  have v0 : w.cell? ⟨1, 0, none⟩ = some (errV (a 0)) := h.vars 0 (by omega)
  have v1 : w.cell? ⟨2, 0, none⟩ = some (errV (a 1)) := h.vars 1 (by omega)
  have v5 : w.cell? ⟨3, 0, none⟩ = some (errV (a 5)) := h.vars 5 (by omega)
  have v2 : w.cell? ⟨4, 0, none⟩ = some (errV (a 2)) := h.vars 2 (by omega)
  have v3 : w.cell? ⟨0, 0, none⟩ = some (errV (a 3)) := h.vars 3 (by omega)
  have v4 : w.cell? ⟨5, 0, none⟩ = some (errV (a 4)) := h.vars 4 (by omega)
  have H := Lib.hid h
  clear h
  go_enter Tryz.func20, Tryz.ntmps20
  go_wp2_with (first | (go_at_call 33; (with_reducible refine (is_no H.out 4 0 (by omega) (by omega) (by omega)).mono ?_); rintro e W' ⟨rfl, rfl⟩) | (go_at_call 33; (with_reducible refine (is_no H.out 4 1 (by omega) (by omega) (by omega)).mono ?_); rintro e W' ⟨rfl, rfl⟩) | (go_at_call 33; (with_reducible refine (is_no H.out 4 5 (by omega) (by omega) (by omega)).mono ?_); rintro e W' ⟨rfl, rfl⟩) | (go_at_call 33; (with_reducible refine (is_no H.out 4 2 (by omega) (by omega) (by omega)).mono ?_); rintro e W' ⟨rfl, rfl⟩) | (go_at_call 33; (with_reducible refine (is_no H.out 4 3 (by omega) (by omega) (by omega)).mono ?_); rintro e W' ⟨rfl, rfl⟩) | (go_at_call 33; (with_reducible refine (is_yes 4 _).mono ?_); rintro e W' ⟨rfl, rfl⟩))
  go_ret
  exact ⟨rfl, rfl⟩
set_option maxRecDepth 100000 in
set_option maxHeartbeats 4000000 in
theorem codeOf_5 {a : Nat → Addr} {w : World} (h : Errs a w) :
    Calls Tryz.prog 20 #[errV (a 5)] w fun e w' => e = .returned (.int .i64 3) ∧ w = w' := by
  have v0 : w.cell? ⟨1, 0, none⟩ = some (errV (a 0)) := h.vars 0 (by omega)
  have v1 : w.cell? ⟨2, 0, none⟩ = some (errV (a 1)) := h.vars 1 (by omega)
  have v5 : w.cell? ⟨3, 0, none⟩ = some (errV (a 5)) := h.vars 5 (by omega)
  have H := Lib.hid h
  clear h
  go_enter Tryz.func20, Tryz.ntmps20
  go_wp2_with (first | (go_at_call 33; (with_reducible refine (is_no H.out 5 0 (by omega) (by omega) (by omega)).mono ?_); rintro e W' ⟨rfl, rfl⟩) | (go_at_call 33; (with_reducible refine (is_no H.out 5 1 (by omega) (by omega) (by omega)).mono ?_); rintro e W' ⟨rfl, rfl⟩) | (go_at_call 33; (with_reducible refine (is_yes 5 _).mono ?_); rintro e W' ⟨rfl, rfl⟩))
  go_ret
  exact ⟨rfl, rfl⟩
set_option maxRecDepth 100000 in
set_option maxHeartbeats 4000000 in
theorem codeOf_6 {a : Nat → Addr} {w : World} (h : Errs a w) :
    Calls Tryz.prog 20 #[errV (a 6)] w fun e w' => e = .returned (.int .i64 7) ∧ w = w' := by
  have v0 : w.cell? ⟨1, 0, none⟩ = some (errV (a 0)) := h.vars 0 (by omega)
  have v1 : w.cell? ⟨2, 0, none⟩ = some (errV (a 1)) := h.vars 1 (by omega)
  have v5 : w.cell? ⟨3, 0, none⟩ = some (errV (a 5)) := h.vars 5 (by omega)
  have v2 : w.cell? ⟨4, 0, none⟩ = some (errV (a 2)) := h.vars 2 (by omega)
  have v3 : w.cell? ⟨0, 0, none⟩ = some (errV (a 3)) := h.vars 3 (by omega)
  have v4 : w.cell? ⟨5, 0, none⟩ = some (errV (a 4)) := h.vars 4 (by omega)
  have v6 : w.cell? ⟨6, 0, none⟩ = some (errV (a 6)) := h.vars 6 (by omega)
  have H := Lib.hid h
  clear h
  go_enter Tryz.func20, Tryz.ntmps20
  go_wp2_with (first | (go_at_call 33; (with_reducible refine (is_no H.out 6 0 (by omega) (by omega) (by omega)).mono ?_); rintro e W' ⟨rfl, rfl⟩) | (go_at_call 33; (with_reducible refine (is_no H.out 6 1 (by omega) (by omega) (by omega)).mono ?_); rintro e W' ⟨rfl, rfl⟩) | (go_at_call 33; (with_reducible refine (is_no H.out 6 5 (by omega) (by omega) (by omega)).mono ?_); rintro e W' ⟨rfl, rfl⟩) | (go_at_call 33; (with_reducible refine (is_no H.out 6 2 (by omega) (by omega) (by omega)).mono ?_); rintro e W' ⟨rfl, rfl⟩) | (go_at_call 33; (with_reducible refine (is_no H.out 6 3 (by omega) (by omega) (by omega)).mono ?_); rintro e W' ⟨rfl, rfl⟩) | (go_at_call 33; (with_reducible refine (is_no H.out 6 4 (by omega) (by omega) (by omega)).mono ?_); rintro e W' ⟨rfl, rfl⟩) | (go_at_call 33; (with_reducible refine (is_yes 6 _).mono ?_); rintro e W' ⟨rfl, rfl⟩))
  go_ret
  exact ⟨rfl, rfl⟩

/-- The code of the k-th error. -/
theorem codeOf_any {a : Nat → Addr} {w : World} (h : Errs a w) (k : Nat) (hk : k < 7) :
    Calls Tryz.prog 20 #[errV (a k)] w fun e w' => e = .returned (.int .i64 (codeK k)) ∧ w = w' := by
  have : k = 0 ∨ k = 1 ∨ k = 2 ∨ k = 3 ∨ k = 4 ∨ k = 5 ∨ k = 6 := by omega
  rcases this with rfl | rfl | rfl | rfl | rfl | rfl | rfl
  · exact codeOf_0 h
  · exact codeOf_1 h
  · exact codeOf_2 h
  · exact codeOf_3 h
  · exact codeOf_4 h
  · exact codeOf_5 h
  · exact codeOf_6 h
end Go.Proofs.YtaaphdbaocjecaaGreatDoor

/-
  An error is not nil.
-/
namespace Go.Proofs.YtaaphdbaocjecaaGreatDoor
open Go Go.RowKit Go.BigFrame
@[go_sem] theorem guard_err (x : Operand) (a : Addr) (W : World) : (eqGuard .neq 45 x (.const .nilIface) (errV a) .nilIface).run Tryz.prog W = .ok () W := by
  unfold errV; go_simp
@[go_sem] theorem neq_err (a : Addr) (W : World) : (binOp .neq 45 (errV a) .nilIface).run Tryz.prog W = .ok (.bool true) W := by
  unfold errV; go_simp
end Go.Proofs.YtaaphdbaocjecaaGreatDoor

/-
  errors.Join of errors that are all the same one, or nil, by contract.
-/
namespace Go.Proofs.YtaaphdbaocjecaaGreatDoor
open Go Go.RowKit Go.BigFrame

/-- Errors told by whether they are there; x the one that it is. -/
def errE (x : Addr) (es : Nat → Bool) : Nat → Value := fun k => if es k then errV x else .nilIface
theorem errE_one (x : Addr) (es : Nat → Bool) (k : Nat) : (errE x es k).oneCell' = true := by unfold errE; split <;> rfl
/-- How many of the first k are there. -/
def cntE (es : Nat → Bool) : Nat → Nat
  | 0 => 0
  | k + 1 => cntE es k + (if es k then 1 else 0)
theorem cntE_le (es : Nat → Bool) : ∀ k, cntE es k ≤ k
  | 0 => by simp [cntE]
  | k + 1 => by have := cntE_le es k; simp only [cntE]; split <;> omega
theorem cntE_mono (es : Nat → Bool) : ∀ {k n : Nat}, k ≤ n → cntE es k ≤ cntE es n
  | k, 0, h => by obtain rfl : k = 0 := by omega
                  exact Nat.le_refl _
  | k, n + 1, h => by
    by_cases e : k = n + 1
    · rw [e]; exact Nat.le_refl _
    · have := cntE_mono es (show k ≤ n by omega); simp only [cntE]; omega
theorem cntE_yes {es : Nat → Bool} {k : Nat} (h : es k = true) : cntE es (k + 1) = cntE es k + 1 := by simp [cntE, h]
theorem cntE_no {es : Nat → Bool} {k : Nat} (h : es k = false) : cntE es (k + 1) = cntE es k := by simp [cntE, h]

theorem upd_one (f : Nat → Value) (v : Value) : ∀ k, k < 1 → upd f 0 v k = v := fun k hk => by simp [upd, show k = 0 by omega]
/-- A joined error's value; what lies behind it. -/
def joinV (b : Nat) : Value := .iface 103 (.pointer (some ⟨b, 0, none⟩))
def JoinAt (W : World) (b : Nat) (x : Addr) (c : Nat) : Prop := ∃ eb cc F, At W b 1 (fun _ => .slice (some ⟨eb, 0, none⟩) c cc) ∧ At W eb (cc * 1) F ∧ b ≠ eb ∧ c ≤ cc ∧ ∀ j, j < c → F j = errV x
theorem JoinAt.below {W W' : World} {b c : Nat} {x : Addr} (h : JoinAt W b x c) (hb : Below W.heap.size W W') : JoinAt W' b x c := by
  obtain ⟨eb, cc, F, h1, h2, h3⟩ := h
  exact ⟨eb, cc, F, h1.below hb h1.lt, h2.below hb h2.lt, h3⟩

theorem run_buildJ (v : Value) (W : World) (b : Option Addr) (n c : Nat) (hv : v = .slice b n c) : (Instr.build 105 #[(0, v)]).run Tryz.prog W = .ok (.agg (arr 1 fun _ => v)) W := by
  subst hv; kernel_rfl
theorem wpList_buildJ {ops : Array Oper} {rest : List Oper} {o : Oper} {a : Act} {W : World} {Q : Exit → Act → World → Prop} (hgd : o.guard = none) (x : Operand) (ho : o.op = .build 105 #[(0, x)]) (b : Option Addr) (n c : Nat) (hx : a.eval x = .slice b n c)
    (h : wpList Tryz.prog ops Q rest (a.put o.dst (.agg (arr 1 fun _ => .slice b n c))) W) : wpList Tryz.prog ops Q (o :: rest) a W := by
  refine wpList_plain hgd fun K hK => ?_
  unfold Oper.wp execOp
  have e : (Array.map (fun (z : Nat × Operand) => match z with | (i, x) => (i, a.eval x)) #[(0, x)]) = #[(0, .slice b n c)] := by simp [hx]
  simp only [ho, e, Sem.run_bind, Sem.run_pure, run_buildJ _ W b n c rfl, Result.andThen_ok]
  exact hK _ _ h
theorem err_info : (Tryz.prog.info? 45).map (fun i => (i.size, i.zero, i.bytes)) = some (1, some .nilIface, 16) := by kernel_rfl
theorem err_info2 : (Tryz.prog.info? 45).map (fun i => (i.size, i.zero)) = some (1, some .nilIface) := by kernel_rfl
theorem errs_under : Tryz.prog.underlying 102 = some (.slice 45) := Tryz.underlying102

def JoinIn (w : World) (bl m n : Nat) (x : Addr) (es : Nat → Bool) (sb k : Nat) (wr : World) : Prop :=
  ∃ eb c F, (∀ j, j < cntE es k * 1 → F j = errV x) ∧ cntE es k ≤ c ∧ w.heap.size ≤ eb ∧ Mem w [(eb, c * 1, F), (sb, 1, fun _ => .slice (some ⟨eb, 0, none⟩) (cntE es k) c), (bl, m, errE x es)] wr

set_option maxRecDepth 100000 in
set_option maxHeartbeats 2000000 in
theorem join_none (x : Addr) (es : Nat → Bool) (bl m c : Nat) (hm : m ≤ 3) (h0 : cntE es m = 0) (w : World) (hA : At w bl m (errE x es)) :
    Calls Tryz.prog 41 #[.slice (some ⟨bl, 0, none⟩) m c] w fun e w' => e = .returned .nilIface ∧ Below w.heap.size w w' := by
  have hM : Mem w [(bl, m, errE x es)] w := (Mem.nil w).old hA (fun i p h => by simp at h)
  have hno : ∀ k, k < m → es k = false := fun k hk => by
    have := cntE_mono es (show k + 1 ≤ m by omega)
    cases e : es k
    · rfl
    · rw [cntE_yes e] at this; omega
  have Hno := Lib.hid hno
  clear hno h0 hA
  go_enter Tryz.func41, Tryz.ntmps41
  go_wp2
  go_loopw [3, 11] (fun n i wr => ∃ k : Nat, k ≤ m ∧ n = .int .i64 0 ∧ i = .int .i64 k ∧ Mem w [(bl, m, errE x es)] wr) (fun _ i _ => m - (intOf i).toNat)
  case atStart => exact ⟨0, by omega, rfl, rfl, hM⟩
  case round =>
    clear hM
    obtain ⟨k, hk, rfl, rfl, hM⟩ := hrel
    by_cases hlt : k < m
    · have lk : (k : Int) < m := by omega
      have e0 : errE x es (k * 1) = .nilIface := by rw [Nat.mul_one]; simp [errE, Hno.out k hlt]
      have e0' : errE x es k = .nilIface := by simp [errE, Hno.out k hlt]
      go_wp2_with (first | (refine wpList_get1 rfl _ _ rfl _ _ rfl hM 0 rfl (cellTab _ rfl) (by omega) _ (by first | exact e0 | exact e0') ?_))
      go_roundw
      case rel => exact ⟨k + 1, by omega, rfl, by go_num, hM⟩
      case measure => simp [intOf]; omega
    · obtain rfl : k = m := by omega
      go_wp2
      go_ret
      exact ⟨rfl, hM.below⟩

theorem errE_yes {x : Addr} {es : Nat → Bool} {k : Nat} (h : es k = true) : errE x es k = errV x := by simp [errE, h]
theorem errE_no {x : Addr} {es : Nat → Bool} {k : Nat} (h : es k = false) : errE x es k = .nilIface := by simp [errE, h]
set_option maxRecDepth 100000 in
set_option maxHeartbeats 4000000 in
theorem join_some (x : Addr) (es : Nat → Bool) (bl m c : Nat) (hm : m ≤ 3) (h0 : 0 < cntE es m) (w : World) (hA : At w bl m (errE x es)) :
    Calls Tryz.prog 41 #[.slice (some ⟨bl, 0, none⟩) m c] w fun e w' => ∃ b, e = .returned (joinV b) ∧ JoinAt w' b x (cntE es m) ∧ Below w.heap.size w w' := by
  have hM : Mem w [(bl, m, errE x es)] w := (Mem.nil w).old hA (fun i p h => by simp at h)
  clear hA
  go_enter Tryz.func41, Tryz.ntmps41
  go_wp2
  go_loopw [3, 11] (fun n i wr => ∃ k : Nat, k ≤ m ∧ n = .int .i64 (cntE es k : Nat) ∧ i = .int .i64 k ∧ Mem w [(bl, m, errE x es)] wr) (fun _ i _ => m - (intOf i).toNat)
  case atStart => exact ⟨0, by omega, rfl, rfl, hM⟩
  case round =>
    clear hM
    obtain ⟨k, hk, rfl, rfl, hM⟩ := hrel
    by_cases hlt : k < m
    · have lk : (k : Int) < m := by omega
      have hle := cntE_le es k
      have c1 : IntKind.i64.wrap ((cntE es k : Nat) + 1 : Int) = ((cntE es k + 1 : Nat) : Int) := by rw [IntWalk.i64_in _ (by omega)]; rfl
      clear hle
      cases he : es k
      · have e0 : errE x es k = .nilIface := errE_no he
        have e1 : errE x es (k * 1) = .nilIface := by rw [Nat.mul_one]; exact e0
        go_wp2_with (first | (refine wpList_get1 rfl _ _ rfl _ _ rfl hM 0 rfl (cellTab _ rfl) (by omega) _ (by first | exact e0 | exact e1) ?_))
        go_roundw
        case rel => exact ⟨k + 1, by omega, by rw [cntE_no he], by go_num, hM⟩
        case measure => simp [intOf]; omega
      · have e0 : errE x es k = errV x := errE_yes he
        have e1 : errE x es (k * 1) = errV x := by rw [Nat.mul_one]; exact e0
        go_wp2_with (first | (refine wpList_get1 rfl _ _ rfl _ _ rfl hM 0 rfl (cellTab _ rfl) (by omega) _ (by first | exact e0 | exact e1) ?_))
        go_roundw
        case rel => exact ⟨k + 1, by omega, by rw [cntE_yes he]; exact congrArg _ (by omega), by go_num, hM⟩
        case measure => simp [intOf]; omega
    · obtain rfl : k = m := by omega
      have hle := cntE_le es k
      have hpos : ¬ ((cntE es k : Nat) : Int) = 0 := by omega
      have hpos2 : decide (((cntE es k : Nat) : Int) = 0) = false := decide_eq_false hpos
      have tk_q1 : True := trivial; have tk_q2 : True := trivial; have tk_q3 : True := trivial
      go_wp2_with (first | (have _t := tk_q1; refine wpList_make0 rfl _ _ _ _ rfl (cntE es k) rfl rfl .nilIface 16 rfl errs_under err_info (by omega) (by omega) hM ?_; intro eb W' heb hM'; clear hM tk_q1; have hM := hM'; clear hM') | (have _t := tk_q2; refine wpList_buildJ rfl _ rfl _ _ _ rfl ?_; clear tk_q2) | (have _t := tk_q3; refine wpList_box rfl _ _ rfl 1 _ rfl hM ?_; intro sb W' hsb hM'; clear hM tk_q3; have hM := hM'; clear hM'))
      have hJ : ∀ w0, w0 = w → ∀ wr, Mem w [(sb, 1, fun _ => .slice (some ⟨eb, 0, none⟩) 0 (cntE es k)), (eb, cntE es k * 1, fun _ => .nilIface), (bl, k, errE x es)] wr → JoinIn w bl k (cntE es k) x es sb 0 wr := fun _ _ wr h =>
        ⟨eb, cntE es k, fun _ => .nilIface, fun j hj => absurd hj (by simp [cntE]), by simp [cntE], heb, h.swap⟩
      go_loopw [28] (fun i wr => ∃ j : Nat, j ≤ k ∧ i = .int .i64 j ∧ JoinIn w bl k (cntE es k) x es sb j wr) (fun i _ => k - (intOf i).toNat)
      case atStart => exact ⟨0, by omega, rfl, hJ _ rfl _ hM⟩
      case round =>
        clear hM hJ
        obtain ⟨j, hj, rfl, eb1, c1, F1, hF1, hc1, heb1, hM⟩ := hrel
        by_cases hjl : j < k
        · have lj : (j : Int) < k := by omega
          have hlej := cntE_le es j
          cases he : es j
          · have e0 : errE x es j = .nilIface := errE_no he
            have e1 : errE x es (j * 1) = .nilIface := by rw [Nat.mul_one]; exact e0
            go_wp2_with (first | (refine wpList_get1 rfl _ _ rfl _ _ rfl hM 2 rfl (cellTab _ rfl) (by omega) _ (by first | exact e0 | exact e1) ?_))
            go_roundw
            case rel => exact ⟨j + 1, by omega, by go_num, eb1, c1, F1, by rw [cntE_no he]; exact hF1, by rw [cntE_no he]; exact hc1, heb1, by rw [cntE_no he]; exact hM⟩
            case measure => simp [intOf]; omega
          · have e0 : errE x es j = errV x := errE_yes he
            have e1 : errE x es (j * 1) = errV x := by rw [Nat.mul_one]; exact e0
            have tk_r1 : True := trivial; have tk_r2 : True := trivial; have tk_r3 : True := trivial; have tk_p1 : True := trivial; have tk_r4 : True := trivial
            go_wp2_with (first | (have _t := tk_r1; refine wpList_get1 rfl _ _ rfl _ _ rfl hM 2 rfl (cellTab _ rfl) (by omega) _ (by first | exact e0 | exact e1) ?_; clear tk_r1) | (have _t := tk_r2; (refine wpList_get1 rfl _ _ rfl _ _ rfl hM 1 rfl (cellTab _ rfl) (by omega) _ rfl ?_); clear tk_r2) | (have _t := tk_r3; refine wpList_lit1 rfl _ _ _ rfl (errV x) rfl rfl _ errs_under err_info2 hM ?_; intro bn W' hbn hM'; clear hM tk_r3; have hM := hM'; clear hM') | (have _t := tk_p1; refine wpList_push1 rfl _ _ _ rfl _ 1 _ _ errs_under err_info rfl (by omega) _ _ _ _ rfl heb1 hc1 (by omega) _ _ rfl (fun _ _ => rfl) hM (fun _ => errV x) hF1 (fun _ _ => rfl) ?_; intro bL cL FL W' hbL hcL hFL hM'; clear hM tk_p1; have hM := hM'; clear hM') | (have _t := tk_r4; (refine wpList_set1 rfl _ _ _ rfl _ _ rfl _ rfl ?_ hM 1 rfl (by assumption) (cellTab _ rfl) (by omega) ?_; (first | rfl | exact h1 _); intro W' hM'; clear hM; have hM := hM'; clear hM'; simp [List.set, Act.eval] at hM); clear tk_r4))
            have hM2 := hM.re (b := sb) (n := 1) 1 rfl (fun _ => .slice (some ⟨bL, 0, none⟩) (cntE es j + 1) cL) (upd_one _ _)
            simp only [List.set] at hM2
            go_roundw
            case rel => exact ⟨j + 1, by omega, by go_num, bL, cL, FL, by rw [cntE_yes he]; exact hFL, by rw [cntE_yes he]; exact hcL, hbL, by rw [cntE_yes he, Nat.mul_one]; exact hM2⟩
            case measure => simp [intOf]; omega
        · obtain rfl : j = k := by omega
          go_wp2
          go_ret
          exact ⟨sb, rfl, ⟨eb1, c1, F1, hM.ats 1 _ _ _ rfl, hM.ats 0 _ _ _ rfl, hM.apart 1 0 _ _ rfl rfl (by omega), hc1, fun i hi => hF1 i (by omega)⟩, hM.below⟩
end Go.Proofs.YtaaphdbaocjecaaGreatDoor

/-
  errors.Is and impl.codeOf of joined errors, by contracts.
-/
namespace Go.Proofs.YtaaphdbaocjecaaGreatDoor
open Go Go.RowKit Go.BigFrame Go.Extern.Stop Go.Stop Go.Extern

theorem hasUnwraps (v : Value) (xT : TypeId) (w : World) : (Instr.typeAssert (.iface 103 v) xT 118 true).run Tryz.prog w = .ok (.tuple #[.iface 103 v, .bool true]) w := run_typeAssert_hasB Tryz.underlying118 (by kernel_rfl) v xT w
theorem noIsJ (v : Value) (xT : TypeId) (w : World) : (Instr.typeAssert (.iface 103 v) xT 113 true).run Tryz.prog w = .ok (.tuple #[.nilIface, .bool false]) w := run_typeAssert_lacksB Tryz.underlying113 (by kernel_rfl) (by kernel_rfl) v xT w
theorem noUnwrapJ (v : Value) (xT : TypeId) (w : World) : (Instr.typeAssert (.iface 103 v) xT 116 true).run Tryz.prog w = .ok (.tuple #[.nilIface, .bool false]) w := run_typeAssert_lacksB Tryz.underlying116 (by kernel_rfl) (by kernel_rfl) v xT w
theorem methodUnwraps (v : Value) (w : World) : (Go.method 302 103 v "Unwrap").run Tryz.prog w = .ok (124, v) w := by kernel_rfl
theorem eql_types (b : Nat) (y : Addr) (w : World) : (binOp .eql 45 (joinV b) (errV y)).run Tryz.prog w = .ok (.bool false) w := run_eql_iface_types _ _ _ _ Tryz.underlying45 (by decide) w

set_option maxRecDepth 100000 in
/-- errors.is of one error and itself. -/
theorem is1_same (x : Addr) (w : World) :
    Calls Tryz.prog 49 #[errV x, errV x, .bool true] w fun e w' => e = .returned (.bool true) ∧ w' = w := by
  obtain ⟨i, hi, hcmp⟩ := Option.map_eq_some_iff.1 isComp
  obtain ⟨j, hj, hjs⟩ := Option.map_eq_some_iff.1 isSize
  have heq := run_eql_iface_ptr_same (P := Tryz.prog) w x Tryz.underlying45 Tryz.underlying165 hi hcmp hj
  unfold errV
  go_enter Tryz.func49, Tryz.ntmps49
  go_wp2
  refine wp_loop_rounds 1 ?_
  rw [rounds_succ]
  go_wp2
  go_ret
  exact ⟨rfl, rfl⟩
set_option maxRecDepth 100000 in
/-- errors.is of two different errors. -/
theorem is1_other (a b : Addr) (ca cb : Array Value) (ta tb : TypeId) (w : World) (hne : a ≠ b) (ha : w.heap[a.block]? = some (.cells ca ta (0, 0))) (hb : w.heap[b.block]? = some (.cells cb tb (0, 0))) :
    Calls Tryz.prog 49 #[errV a, errV b, .bool true] w fun e w' => e = .returned (.bool false) ∧ w' = w := by
  obtain ⟨i, hi, hcmp⟩ := Option.map_eq_some_iff.1 isComp
  obtain ⟨j, hj, hjs⟩ := Option.map_eq_some_iff.1 isSize
  have nE := noIsE
  have uE := noUnwrapE
  have vE := noUnwrapsE
  have heq := run_eql_iface_ptr_other (P := Tryz.prog) w Tryz.underlying45 Tryz.underlying165 hi hcmp hj (by rw [hjs]; decide) hne ha hb
  unfold errV
  go_enter Tryz.func49, Tryz.ntmps49
  go_wp2
  refine wp_loop_rounds 1 ?_
  rw [rounds_succ]
  go_wp2
  go_ret
  exact ⟨rfl, rfl⟩
theorem is1_no {a : Nat → Addr} {w : World} (h : Errs a w) (i j : Nat) (hi : i < 7) (hj : j < 7) (e : i ≠ j) :
    Calls Tryz.prog 49 #[errV (a i), errV (a j), .bool true] w fun e w' => e = .returned (.bool false) ∧ w = w' := by
  obtain ⟨ca, ta, ha⟩ := h.cells i hi
  obtain ⟨cb, tb, hb⟩ := h.cells j hj
  exact (is1_other _ _ ca cb ta tb w (h.apart i j hi hj e) ha hb).mono fun _ _ h => ⟨h.1, h.2.symm⟩

theorem unwraps_any (b : Nat) (v : Value) (w : World) (hA : At w b 1 fun _ => v) :
    Calls Tryz.prog 124 #[.pointer (some ⟨b, 0, none⟩)] w fun e w' => e = .returned v ∧ w' = w := by
  have hc : w.cell? ⟨b, 0, none⟩ = some v := hA.cell (by omega)
  go_enter Tryz.func124, Tryz.ntmps124
  go_wp2
  go_ret
  exact ⟨rfl, rfl⟩

set_option maxRecDepth 100000 in
set_option maxHeartbeats 2000000 in
/-- errors.is of a joined error and the one that it holds. -/
theorem isJ_yes (b c : Nat) (x : Addr) (hc : 0 < c) (w : World) (hJ : JoinAt w b x c) :
    Calls Tryz.prog 49 #[joinV b, errV x, .bool true] w fun e w' => e = .returned (.bool true) ∧ w = w' := by
  obtain ⟨eb, cc, F, h1, h2, hne, hle, hF⟩ := hJ
  have nE := noIsJ
  have uE := noUnwrapJ
  have vE := hasUnwraps
  have mU := methodUnwraps
  have heq := eql_types b x
  have c0 : w.cell? ⟨eb, 0, none⟩ = some (errV x) := by rw [h2.cell (by omega), hF 0 hc]
  have lc : (0 : Int) < c := by omega
  have H1 := Lib.hid h1
  clear h1 h2 hF
  unfold joinV at heq ⊢
  go_enter Tryz.func49, Tryz.ntmps49
  go_wp2
  refine wp_loop_rounds 1 ?_
  rw [rounds_succ]
  go_wp2_with (first | (go_at_call 124; refine (unwraps_any b _ _ H1.out).mono ?_; rintro e W' ⟨rfl, rfl⟩))
  refine wp_loop_rounds 1 ?_
  rw [rounds_succ]
  go_wp2_with (first | (go_at_call 49; refine (is1_same x _).mono ?_; rintro e W' ⟨rfl, rfl⟩))
  go_ret
  exact ⟨rfl, rfl⟩

set_option maxRecDepth 100000 in
set_option maxHeartbeats 2000000 in
/-- errors.is of a joined error and another one than it holds. -/
theorem isJ_no {a : Nat → Addr} (b c : Nat) (i j : Nat) (hi : i < 7) (hj : j < 7) (hij : i ≠ j) (hcm : c ≤ 1000) (w : World) (hJ : JoinAt w b (a i) c) (hE : Errs a w) :
    Calls Tryz.prog 49 #[joinV b, errV (a j), .bool true] w fun e w' => e = .returned (.bool false) ∧ w = w' := by
  obtain ⟨eb, cc, F, h1, h2, hne, hle, hF⟩ := hJ
  have nE := noIsJ
  have uE := noUnwrapJ
  have vE := hasUnwraps
  have mU := methodUnwraps
  have heq := eql_types b (a j)
  have HF : Hid (∀ k, k < c → w.cell? ⟨eb, k, none⟩ = some (errV (a i))) := Lib.hid (fun k hk => by rw [h2.cell (by omega), hF k hk])
  have H1 := Lib.hid h1
  have HE := Lib.hid hE
  clear h1 h2 hF hE
  unfold joinV at heq ⊢
  go_enter Tryz.func49, Tryz.ntmps49
  go_wp2
  refine wp_loop_rounds 1 ?_
  rw [rounds_succ]
  go_wp2_with (first | (go_at_call 124; refine (unwraps_any b _ _ H1.out).mono ?_; rintro e W' ⟨rfl, rfl⟩))
  go_loopw [45] (fun n wr => ∃ k : Nat, k ≤ c ∧ n = .int .i64 k ∧ wr = W') (fun n _ => c - (intOf n).toNat)
  case atStart => exact ⟨0, by omega, rfl, rfl⟩
  case round =>
    obtain ⟨k, hk, rfl, rfl⟩ := hrel
    by_cases hlt : k < c
    · have lk : (k : Int) < c := by omega
      have ck := HF.out k hlt
      go_wp2_with (first | (go_at_call 49; refine (is1_no HE.out i j hi hj hij).mono ?_; rintro e W' ⟨rfl, rfl⟩))
      go_roundw
      case rel => exact ⟨k + 1, by omega, by go_num, by first | rfl | trivial⟩
      case measure => simp [intOf]; omega
    · obtain rfl : k = c := by omega
      go_wp2
      go_ret
      exact ⟨rfl, rfl⟩

set_option maxRecDepth 100000 in
theorem IsJ_yes {a : Nat → Addr} (b c : Nat) (i : Nat) (hi : i < 7) (hc : 0 < c) (w : World) (hJ : JoinAt w b (a i) c) :
    Calls Tryz.prog 33 #[joinV b, errV (a i)] w fun e w' => e = .returned (.bool true) ∧ w = w' := by
  have h8 := @run_callFunc_extern Tryz.prog 48 _ Extern.ReflectliteType.typeOf Tryz.func48 (by kernel_rfl) (by kernel_rfl) (by kernel_rfl) (by kernel_rfl)
  have tT := isTypeOf
  have cT := isComparable
  have mR := isMethodComparable
  have hY := isJ_yes b c (a i) hc w hJ
  unfold joinV errV at hY ⊢
  go_enter Tryz.func33, Tryz.ntmps33
  go_wp2_with (first | (go_at_call 49; refine hY.mono ?_; rintro e W' ⟨rfl, rfl⟩))
  go_ret
  exact ⟨rfl, rfl⟩
set_option maxRecDepth 100000 in
theorem IsJ_no {a : Nat → Addr} (b c : Nat) (i j : Nat) (hi : i < 7) (hj : j < 7) (hij : i ≠ j) (hcm : c ≤ 1000) (w : World) (hJ : JoinAt w b (a i) c) (hE : Errs a w) :
    Calls Tryz.prog 33 #[joinV b, errV (a j)] w fun e w' => e = .returned (.bool false) ∧ w = w' := by
  have h8 := @run_callFunc_extern Tryz.prog 48 _ Extern.ReflectliteType.typeOf Tryz.func48 (by kernel_rfl) (by kernel_rfl) (by kernel_rfl) (by kernel_rfl)
  have tT := isTypeOf
  have cT := isComparable
  have mR := isMethodComparable
  have hY := isJ_no b c i j hi hj hij hcm w hJ hE
  unfold joinV errV at hY ⊢
  go_enter Tryz.func33, Tryz.ntmps33
  go_wp2_with (first | (go_at_call 49; refine hY.mono ?_; rintro e W' ⟨rfl, rfl⟩))
  go_ret
  exact ⟨rfl, rfl⟩

set_option maxRecDepth 100000 in
set_option maxHeartbeats 4000000 in
/-- The code of joined errors of which each is the first one. -/
theorem codeJ_0 {a : Nat → Addr} {w : World} (b c : Nat) (hc : 0 < c) (h : Errs a w) (hJ : JoinAt w b (a 0) c) :
    Calls Tryz.prog 20 #[joinV b] w fun e w' => e = .returned (.int .i64 1) ∧ w = w' := by
  have v0 : w.cell? ⟨1, 0, none⟩ = some (errV (a 0)) := h.vars 0 (by omega)
  have HJ := Lib.hid hJ
  clear h hJ
  go_enter Tryz.func20, Tryz.ntmps20
  go_wp2_with (first | (go_at_call 33; (with_reducible refine (IsJ_yes b c 0 (by omega) hc _ HJ.out).mono ?_); rintro e W' ⟨rfl, rfl⟩))
  go_ret
  exact ⟨rfl, rfl⟩
set_option maxRecDepth 100000 in
set_option maxHeartbeats 4000000 in
/-- The code of joined errors of which each is the second one. -/
theorem codeJ_1 {a : Nat → Addr} {w : World} (b c : Nat) (hc : 0 < c) (hcm : c ≤ 1000) (h : Errs a w) (hJ : JoinAt w b (a 1) c) :
    Calls Tryz.prog 20 #[joinV b] w fun e w' => e = .returned (.int .i64 2) ∧ w = w' := by
  have v0 : w.cell? ⟨1, 0, none⟩ = some (errV (a 0)) := h.vars 0 (by omega)
  have v1 : w.cell? ⟨2, 0, none⟩ = some (errV (a 1)) := h.vars 1 (by omega)
  have HJ := Lib.hid hJ
  have H := Lib.hid h
  clear h hJ
  go_enter Tryz.func20, Tryz.ntmps20
  go_wp2_with (first | (go_at_call 33; (with_reducible refine (IsJ_no b c 1 0 (by omega) (by omega) (by omega) hcm _ HJ.out H.out).mono ?_); rintro e W' ⟨rfl, rfl⟩) | (go_at_call 33; (with_reducible refine (IsJ_yes b c 1 (by omega) hc _ HJ.out).mono ?_); rintro e W' ⟨rfl, rfl⟩))
  go_ret
  exact ⟨rfl, rfl⟩
@[go_sem] theorem guard_join (x : Operand) (b : Nat) (W : World) : (eqGuard .neq 45 x (.const .nilIface) (joinV b) .nilIface).run Tryz.prog W = .ok () W := by
  unfold joinV; go_simp
@[go_sem] theorem neq_join (b : Nat) (W : World) : (binOp .neq 45 (joinV b) .nilIface).run Tryz.prog W = .ok (.bool true) W := by
  unfold joinV; go_simp
end Go.Proofs.YtaaphdbaocjecaaGreatDoor

/-
  An error that is errSyntax, or joined errors that are: errors.Is and impl.codeOf of it; errors.Join of two that may be there, by contracts.
-/
namespace Go.Proofs.YtaaphdbaocjecaaGreatDoor
open Go Go.RowKit Go.BigFrame Go.Extern.Stop Go.Stop Go.Extern

def JoinAtG (G : Value → Prop) (lo : Nat) (W : World) (b c : Nat) : Prop := lo ≤ b ∧ ∃ eb cc F, lo ≤ eb ∧ At W b 1 (fun _ => .slice (some ⟨eb, 0, none⟩) c cc) ∧ At W eb (cc * 1) F ∧ b ≠ eb ∧ c ≤ cc ∧ ∀ j, j < c → G (F j)
theorem JoinAtG.below {G : Value → Prop} {lo : Nat} {W W' : World} {b c : Nat} (h : JoinAtG G lo W b c) (hb : Below W.heap.size W W') : JoinAtG G lo W' b c := by
  obtain ⟨h0, eb, cc, F, h4, h1, h2, h3⟩ := h
  exact ⟨h0, eb, cc, F, h4, h1.below hb h1.lt, h2.below hb h2.lt, h3⟩
def JoinInG (G : Value → Prop) (w : World) (bl m : Nat) (vs : Nat → Value) (es : Nat → Bool) (sb k : Nat) (wr : World) : Prop :=
  ∃ eb c F, (∀ j, j < cntE es k → G (F j)) ∧ cntE es k ≤ c ∧ w.heap.size ≤ eb ∧ Mem w [(eb, c * 1, F), (sb, 1, fun _ => .slice (some ⟨eb, 0, none⟩) (cntE es k) c), (bl, m, vs)] wr
theorem joinR_old (n : Nat) (F : Nat → Value) (v : Value) : ∀ j, j < n * 1 → F j = (fun i => if i < n then F i else v) j := fun j hj => by
  show F j = if j < n then F j else v
  rw [if_pos (by omega)]
theorem joinR_new (n : Nat) (F : Nat → Value) (v : Value) : ∀ j, j < 1 → v = (fun i => if i < n then F i else v) (n * 1 + j) := fun j hj => by
  show v = if n * 1 + j < n then F (n * 1 + j) else v
  rw [if_neg (by omega)]
theorem joinR_all {G : Value → Prop} {n : Nat} {F H : Nat → Value} {v : Value} (h1 : ∀ j, j < n → G (F j)) (h2 : G v) (h3 : ∀ j, j < (n + 1) * 1 → H j = (fun i => if i < n then F i else v) j) : ∀ j, j < n + 1 → G (H j) := fun j hj => by
  rw [h3 j (by omega)]
  show G (if j < n then F j else v)
  by_cases e : j < n
  · rw [if_pos e]; exact h1 j e
  · rw [if_neg e]; exact h2

set_option maxRecDepth 100000 in
set_option maxHeartbeats 4000000 in
theorem join_gen (G : Value → Prop) (vs : Nat → Value) (es : Nat → Bool) (bl m c : Nat) (hm : m ≤ 3) (h0 : 0 < cntE es m) (hv0 : ∀ k, k < m → es k = false → vs k = .nilIface) (hv1 : ∀ k, k < m → es k = true → ∃ t p, vs k = .iface t (.pointer p) ∧ G (.iface t (.pointer p))) (w : World) (hA : At w bl m vs) :
    Calls Tryz.prog 41 #[.slice (some ⟨bl, 0, none⟩) m c] w fun e w' => ∃ b, e = .returned (joinV b) ∧ JoinAtG G w.heap.size w' b (cntE es m) ∧ Below w.heap.size w w' := by
  have hM : Mem w [(bl, m, vs)] w := (Mem.nil w).old hA (fun i p h => by simp at h)
  have Hv0 := Lib.hid hv0
  have Hv1 := Lib.hid hv1
  clear hA hv0 hv1
  go_enter Tryz.func41, Tryz.ntmps41
  go_wp2
  go_loopw [3, 11] (fun n i wr => ∃ k : Nat, k ≤ m ∧ n = .int .i64 (cntE es k : Nat) ∧ i = .int .i64 k ∧ Mem w [(bl, m, vs)] wr) (fun _ i _ => m - (intOf i).toNat)
  case atStart => exact ⟨0, by omega, rfl, rfl, hM⟩
  case round =>
    clear hM
    obtain ⟨k, hk, rfl, rfl, hM⟩ := hrel
    by_cases hlt : k < m
    · have lk : (k : Int) < m := by omega
      have hle := cntE_le es k
      have c1 : IntKind.i64.wrap ((cntE es k : Nat) + 1 : Int) = ((cntE es k + 1 : Nat) : Int) := by rw [IntWalk.i64_in _ (by omega)]; rfl
      clear hle
      cases he : es k
      · have e0 : vs k = .nilIface := Hv0.out k (by omega) he
        have e1 : vs (k * 1) = .nilIface := by rw [Nat.mul_one]; exact e0
        go_wp2_with (first | (refine wpList_get1 rfl _ _ rfl _ _ rfl hM 0 rfl (cellTab _ rfl) (by omega) _ (by first | exact e0 | exact e1) ?_))
        go_roundw
        case rel => exact ⟨k + 1, by omega, by rw [cntE_no he], by go_num, hM⟩
        case measure => simp [intOf]; omega
      · obtain ⟨tt, tp, e0, hg⟩ := Hv1.out k (by omega) he
        have e1 : vs (k * 1) = .iface tt (.pointer tp) := by rw [Nat.mul_one]; exact e0
        have Hg := Lib.hid hg
        clear hg
        go_wp2_with (first | (refine wpList_get1 rfl _ _ rfl _ _ rfl hM 0 rfl (cellTab _ rfl) (by omega) _ (by first | exact e0 | exact e1) ?_))
        go_roundw
        case rel => exact ⟨k + 1, by omega, by rw [cntE_yes he]; exact congrArg _ (by omega), by go_num, hM⟩
        case measure => simp [intOf]; omega
    · obtain rfl : k = m := by omega
      have hle := cntE_le es k
      have hpos : ¬ ((cntE es k : Nat) : Int) = 0 := by omega
      have hpos2 : decide (((cntE es k : Nat) : Int) = 0) = false := decide_eq_false hpos
      have tk_q1 : True := trivial; have tk_q2 : True := trivial; have tk_q3 : True := trivial
      go_wp2_with (first | (have _t := tk_q1; refine wpList_make0 rfl _ _ _ _ rfl (cntE es k) rfl rfl .nilIface 16 rfl errs_under err_info (by omega) (by omega) hM ?_; intro eb W' heb hM'; clear hM tk_q1; have hM := hM'; clear hM') | (have _t := tk_q2; refine wpList_buildJ rfl _ rfl _ _ _ rfl ?_; clear tk_q2) | (have _t := tk_q3; refine wpList_box rfl _ _ rfl 1 _ rfl hM ?_; intro sb W' hsb hM'; clear hM tk_q3; have hM := hM'; clear hM'))
      have hJ : ∀ w0, w0 = w → ∀ wr, Mem w [(sb, 1, fun _ => .slice (some ⟨eb, 0, none⟩) 0 (cntE es k)), (eb, cntE es k * 1, fun _ => .nilIface), (bl, k, vs)] wr → JoinInG G w bl k vs es sb 0 wr := fun _ _ wr h =>
        ⟨eb, cntE es k, fun _ => .nilIface, fun j hj => absurd hj (by simp [cntE]), by simp [cntE], heb, h.swap⟩
      go_loopw [28] (fun i wr => ∃ j : Nat, j ≤ k ∧ i = .int .i64 j ∧ JoinInG G w bl k vs es sb j wr) (fun i _ => k - (intOf i).toNat)
      case atStart => exact ⟨0, by omega, rfl, hJ _ rfl _ hM⟩
      case round =>
        clear hM hJ
        obtain ⟨j, hj, rfl, eb1, c1, F1, hF1, hc1, heb1, hM⟩ := hrel
        by_cases hjl : j < k
        · have lj : (j : Int) < k := by omega
          have hlej := cntE_le es j
          cases he : es j
          · have e0 : vs j = .nilIface := Hv0.out j (by omega) he
            have e1 : vs (j * 1) = .nilIface := by rw [Nat.mul_one]; exact e0
            go_wp2_with (first | (refine wpList_get1 rfl _ _ rfl _ _ rfl hM 2 rfl (cellTab _ rfl) (by omega) _ (by first | exact e0 | exact e1) ?_))
            go_roundw
            case rel => exact ⟨j + 1, by omega, by go_num, eb1, c1, F1, by rw [cntE_no he]; exact hF1, by rw [cntE_no he]; exact hc1, heb1, by rw [cntE_no he]; exact hM⟩
            case measure => simp [intOf]; omega
          · obtain ⟨tt, tp, e0, hg⟩ := Hv1.out j (by omega) he
            have e1 : vs (j * 1) = .iface tt (.pointer tp) := by rw [Nat.mul_one]; exact e0
            have Hg := Lib.hid hg
            clear hg
            have tk_r1 : True := trivial; have tk_r2 : True := trivial; have tk_r3 : True := trivial; have tk_p1 : True := trivial; have tk_r4 : True := trivial
            go_wp2_with (first | (have _t := tk_r1; refine wpList_get1 rfl _ _ rfl _ _ rfl hM 2 rfl (cellTab _ rfl) (by omega) _ (by first | exact e0 | exact e1) ?_; clear tk_r1) | (have _t := tk_r2; (refine wpList_get1 rfl _ _ rfl _ _ rfl hM 1 rfl (cellTab _ rfl) (by omega) _ rfl ?_); clear tk_r2) | (have _t := tk_r3; refine wpList_lit1 rfl _ _ _ rfl (.iface tt (.pointer tp)) rfl rfl _ errs_under err_info2 hM ?_; intro bn W' hbn hM'; clear hM tk_r3; have hM := hM'; clear hM') | (have _t := tk_p1; refine wpList_push1 rfl _ _ _ rfl _ 1 _ _ errs_under err_info rfl (by omega) _ _ _ _ rfl heb1 hc1 (by omega) _ _ rfl (fun _ _ => rfl) hM (fun i => if i < cntE es j then F1 i else .iface tt (.pointer tp)) (joinR_old _ _ _) (joinR_new _ _ _) ?_; intro bL cL FL W' hbL hcL hFL hM'; clear hM tk_p1; have hM := hM'; clear hM') | (have _t := tk_r4; (refine wpList_set1 rfl _ _ _ rfl _ _ rfl _ rfl ?_ hM 1 rfl (by assumption) (cellTab _ rfl) (by omega) ?_; (first | rfl | exact h1 _); intro W' hM'; clear hM; have hM := hM'; clear hM'; simp [List.set, Act.eval] at hM); clear tk_r4))
            have hM2 := hM.re (b := sb) (n := 1) 1 rfl (fun _ => .slice (some ⟨bL, 0, none⟩) (cntE es j + 1) cL) (upd_one _ _)
            simp only [List.set] at hM2
            go_roundw
            case rel => exact ⟨j + 1, by omega, by go_num, bL, cL, FL, by rw [cntE_yes he]; exact joinR_all hF1 Hg.out hFL, by rw [cntE_yes he]; exact hcL, hbL, by rw [cntE_yes he, Nat.mul_one]; exact hM2⟩
            case measure => simp [intOf]; omega
        · obtain rfl : j = k := by omega
          go_wp2
          go_ret
          exact ⟨sb, rfl, ⟨hsb, eb1, c1, F1, heb1, hM.ats 1 _ _ _ rfl, hM.ats 0 _ _ _ rfl, hM.apart 1 0 _ _ rfl rfl (by omega), hc1, fun i hi => hF1 i hi⟩, hM.below⟩

/-- Asked which of the package's errors it is: errSyntax, now and later. -/
def SynE (a : Nat → Addr) (w : World) (v : Value) : Prop := ∃ t p, v = .iface t (.pointer p) ∧ ∀ W', Below w.heap.size w W' → ∀ j, j < 7 → Calls Tryz.prog 49 #[v, errV (a j), .bool true] W' fun e w' => e = .returned (.bool (decide (j = 3))) ∧ W' = w'
theorem SynE.below {a : Nat → Addr} {w w' : World} {v : Value} (h : SynE a w v) (hb : Below w.heap.size w w') : SynE a w' v := by
  obtain ⟨t, p, h1, h2⟩ := h
  exact ⟨t, p, h1, fun W' hw j hj => h2 W' (hb.trans (hw.mono hb.size)) j hj⟩
theorem synE_one {a : Nat → Addr} {w : World} (h : Errs a w) : SynE a w (errV (a 3)) := ⟨_, _, rfl, fun W' hb j hj => by
  by_cases e : j = 3
  · subst e; exact (is1_same _ _).mono fun _ _ h => ⟨h.1, h.2.symm⟩
  · refine (is1_no (h.below hb) 3 j (by omega) hj (fun k => e k.symm)).mono fun _ _ k => ⟨?_, k.2⟩
    rw [k.1, decide_eq_false e]⟩
set_option maxRecDepth 100000 in
set_option maxHeartbeats 4000000 in
/-- errors.is of joined errors that are errSyntax each. -/
theorem isG_any {a : Nat → Addr} {w0 : World} {lo : Nat} (b c j : Nat) (hj : j < 7) (hc : 0 < c) (hcm : c ≤ 1000) (w : World) (hb : Below w0.heap.size w0 w) (hJ : JoinAtG (SynE a w0) lo w b c) :
    Calls Tryz.prog 49 #[joinV b, errV (a j), .bool true] w fun e w' => e = .returned (.bool (decide (j = 3))) ∧ w = w' := by
  obtain ⟨-, eb, cc, F, -, h1, h2, hne, hle, hF⟩ := hJ
  have nE := noIsJ
  have uE := noUnwrapJ
  have vE := hasUnwraps
  have mU := methodUnwraps
  have heq := eql_types b (a j)
  have HF : Hid (∀ k, k < c → ∃ t p, w.cell? ⟨eb, k, none⟩ = some (.iface t (.pointer p)) ∧ Calls Tryz.prog 49 #[.iface t (.pointer p), errV (a j), .bool true] w fun e w' => e = .returned (.bool (decide (j = 3))) ∧ w = w') := Lib.hid (fun k hk => by
    obtain ⟨t, p, e1, e2⟩ := hF k hk
    refine ⟨t, p, by rw [h2.cell (by omega), e1], ?_⟩
    have := e2 w hb j hj
    rwa [e1] at this)
  have H1 := Lib.hid h1
  have Hb := Lib.hid hb
  clear h1 h2 hF hb
  obtain ⟨x, hx⟩ : ∃ x, errV (a j) = x := ⟨_, rfl⟩
  obtain ⟨q, hq⟩ : ∃ q : Bool, decide (j = 3) = q := ⟨_, rfl⟩
  rw [hq] at HF ⊢
  have Hq := Lib.hid hq
  clear hq
  cases q
  · unfold errV at hx
    subst hx
    unfold joinV errV at *
    go_enter Tryz.func49, Tryz.ntmps49
    go_wp2
    refine wp_loop_rounds 1 ?_
    rw [rounds_succ]
    go_wp2_with (first | (go_at_call 124; refine (unwraps_any b _ _ H1.out).mono ?_; rintro e W' ⟨rfl, rfl⟩))
    go_loopw [45] (fun n wr => ∃ k : Nat, k ≤ c ∧ n = .int .i64 k ∧ wr = W') (fun n _ => c - (intOf n).toNat)
    case atStart => exact ⟨0, by omega, rfl, rfl⟩
    case round =>
      obtain ⟨k, hk, rfl, rfl⟩ := hrel
      by_cases hlt : k < c
      · have lk : (k : Int) < c := by omega
        obtain ⟨t, p, ck, hi⟩ := HF.out k hlt
        have Hi := Lib.hid hi
        clear hi
        go_wp2_with (first | (go_at_call 49; refine (Hi.out).mono ?_; rintro e W' ⟨rfl, rfl⟩))
        go_roundw
        case rel => exact ⟨k + 1, by omega, by go_num, by first | rfl | trivial⟩
        case measure => simp [intOf]; omega
      · obtain rfl : k = c := by omega
        go_wp2
        go_ret
        exact ⟨rfl, rfl⟩
  · unfold errV at hx
    subst hx
    obtain ⟨t, p, c0, hi⟩ := HF.out 0 hc
    have Hi := Lib.hid hi
    have lc : (0 : Int) < c := by omega
    clear hi
    unfold joinV errV at *
    go_enter Tryz.func49, Tryz.ntmps49
    go_wp2
    refine wp_loop_rounds 1 ?_
    rw [rounds_succ]
    go_wp2_with (first | (go_at_call 124; refine (unwraps_any b _ _ H1.out).mono ?_; rintro e W' ⟨rfl, rfl⟩))
    refine wp_loop_rounds 1 ?_
    rw [rounds_succ]
    go_wp2_with (first | (go_at_call 49; refine (Hi.out).mono ?_; rintro e W' ⟨rfl, rfl⟩))
    go_ret
    exact ⟨rfl, rfl⟩
theorem synE_join {a : Nat → Addr} {w0 w : World} {b c lo : Nat} (hc : 0 < c) (hcm : c ≤ 1000) (hb : Below w0.heap.size w0 w) (h : JoinAtG (SynE a w0) lo w b c) : SynE a w (joinV b) :=
  ⟨_, _, rfl, fun W' hw j hj => isG_any b c j hj hc hcm W' (hb.trans (hw.mono hb.size)) (h.below hw)⟩


/-- An error in these blocks: errSyntax, or joined errors that are, so deep. -/
def ErrIn (a : Nat → Addr) : Nat → Value → Blocks → Prop
  | 0, v, _ => v = errV (a 3)
  | d + 1, v, K => v = errV (a 3) ∨ ∃ b eb cc c F, v = joinV b ∧ (b, 1, fun _ => .slice (some ⟨eb, 0, none⟩) c cc) ∈ K ∧ (eb, cc * 1, F) ∈ K ∧ b ≠ eb ∧ 0 < c ∧ c ≤ cc ∧ c ≤ 1000 ∧ ∀ j, j < c → ErrIn a d (F j) K
theorem ErrIn.mono {a : Nat → Addr} {K K' : Blocks} (hK : ∀ p, p ∈ K → p ∈ K') : ∀ {d : Nat} {v : Value}, ErrIn a d v K → ErrIn a d v K'
  | 0, _, h => h
  | d + 1, _, h => by
    rcases h with h | ⟨b, eb, cc, c, F, h1, h2, h3, h4, h5, h6, h7, h8⟩
    · exact .inl h
    · exact .inr ⟨b, eb, cc, c, F, h1, hK _ h2, hK _ h3, h4, h5, h6, h7, fun j hj => (h8 j hj).mono hK⟩
theorem ErrIn.one {a : Nat → Addr} {K : Blocks} (d : Nat) : ErrIn a d (errV (a 3)) K := by
  cases d
  · exact rfl
  · exact .inl rfl
theorem ErrIn.deep {a : Nat → Addr} {K : Blocks} : ∀ {d : Nat} {v : Value}, ErrIn a d v K → ErrIn a (d + 1) v K
  | 0, _, h => .inl h
  | d + 1, _, h => by
    rcases h with h | ⟨b, eb, cc, c, F, h1, h2, h3, h4, h5, h6, h7, h8⟩
    · exact .inl h
    · exact .inr ⟨b, eb, cc, c, F, h1, h2, h3, h4, h5, h6, h7, fun j hj => (h8 j hj).deep⟩
theorem ErrIn.iface {a : Nat → Addr} {K : Blocks} : ∀ {d : Nat} {v : Value}, ErrIn a d v K → ∃ t p, v = .iface t (.pointer p)
  | 0, _, h => ⟨_, _, h⟩
  | d + 1, _, h => by
    rcases h with h | ⟨b, eb, cc, c, F, h1, -⟩
    · exact ⟨_, _, h⟩
    · exact ⟨_, _, h1⟩
theorem ErrIn.syn {a : Nat → Addr} {W : World} {K : Blocks} (hE : Errs a W) (hK : ∀ p, p ∈ K → At W p.1 p.2.1 p.2.2) : ∀ {d : Nat} {v : Value}, ErrIn a d v K → SynE a W v
  | 0, _, h => by rw [show _ = _ from h]; exact synE_one hE
  | d + 1, _, h => by
    rcases h with h | ⟨b, eb, cc, c, F, h1, h2, h3, h4, h5, h6, h7, h8⟩
    · rw [h]; exact synE_one hE
    · rw [h1]
      exact synE_join (lo := 0) h5 h7 (Below.refl _ _) ⟨Nat.zero_le _, eb, cc, F, Nat.zero_le _, hK _ h2, hK _ h3, h4, h6, fun j hj => (h8 j hj).syn hE hK⟩
/-- Nothing wrong, or an error in these blocks. -/
def EvK (a : Nat → Addr) (d : Nat) (ok : Bool) (v : Value) (K : Blocks) : Prop := (ok = true ∧ v = .nilIface) ∨ (ok = false ∧ ErrIn a d v K)
theorem EvK.mono {a : Nat → Addr} {d : Nat} {ok : Bool} {v : Value} {K K' : Blocks} (h : EvK a d ok v K) (hK : ∀ p, p ∈ K → p ∈ K') : EvK a d ok v K' := h.imp id (fun h => ⟨h.1, h.2.mono hK⟩)
theorem EvK.deep {a : Nat → Addr} {d : Nat} {ok : Bool} {v : Value} {K : Blocks} (h : EvK a d ok v K) : EvK a (d + 1) ok v K := h.imp id (fun h => ⟨h.1, h.2.deep⟩)
theorem EvK.one {a : Nat → Addr} {d : Nat} {ok : Bool} {v : Value} {K : Blocks} (h : EvK a d ok v K) : v.oneCell' = true := by
  rcases h with ⟨-, rfl⟩ | ⟨-, h⟩
  · rfl
  · obtain ⟨t, p, rfl⟩ := h.iface; rfl
def evN (a : Nat → Addr) (ok : Bool) : Value := if ok then .nilIface else errV (a 3)
theorem evN_k (a : Nat → Addr) (d : Nat) (ok : Bool) (K : Blocks) : EvK a d ok (evN a ok) K := by
  cases ok
  · exact .inr ⟨rfl, ErrIn.one d⟩
  · exact .inl ⟨rfl, rfl⟩
def twoV (x y : Value) : Nat → Value := fun k => if k = 0 then x else y
/-- errors.Join of two that may be there. -/
theorem join2_any {a : Nat → Addr} (d : Nat) (p q : Bool) (x y : Value) (K : Blocks) (bl c : Nat) (w : World) (hx : EvK a d p x K) (hy : EvK a d q y K) (hA : At w bl 2 (twoV x y)) :
    Calls Tryz.prog 41 #[.slice (some ⟨bl, 0, none⟩) 2 c] w fun e w' => ∃ v N, e = .returned v ∧ EvK a (d + 1) (p && q) v (N ++ K) ∧ Mem (Base.of w) N w' ∧ ∀ p, p ∈ N → w.heap.size ≤ p.1 := by
  by_cases hpq : (p && q) = true
  · rw [Bool.and_eq_true] at hpq
    obtain ⟨rfl, rfl⟩ := hpq
    have ex : x = .nilIface := by rcases hx with ⟨-, h⟩ | ⟨h, -⟩; exact h; cases h
    have ey : y = .nilIface := by rcases hy with ⟨-, h⟩ | ⟨h, -⟩; exact h; cases h
    subst ex ey
    have hA' : At w bl 2 (errE (a 3) (fun _ => false)) := by
      obtain ⟨t, h⟩ := hA
      refine ⟨t, h.trans ?_⟩
      rw [show arr 2 (twoV .nilIface .nilIface) = arr 2 (errE (a 3) fun _ => false) from arr_congr fun j hj => by unfold twoV errE; simp]
    refine (join_none (a 3) (fun _ => false) bl 2 c (by omega) rfl w hA').mono ?_
    rintro e w' ⟨rfl, hb⟩
    exact ⟨_, [], rfl, .inl ⟨rfl, rfl⟩, Mem.start (w := Base.of w) hb, fun p hp => by cases hp⟩
  · have hpq2 : (p && q) = false := by simpa using hpq
    have nx : p = true → x = .nilIface := fun e => by rcases hx with ⟨-, h⟩ | ⟨h, -⟩; exact h; rw [e] at h; cases h
    have ny : q = true → y = .nilIface := fun e => by rcases hy with ⟨-, h⟩ | ⟨h, -⟩; exact h; rw [e] at h; cases h
    have ix : p = false → ErrIn a d x K := fun e => by rcases hx with ⟨h, -⟩ | ⟨-, h⟩; rw [e] at h; cases h; exact h
    have iy : q = false → ErrIn a d y K := fun e => by rcases hy with ⟨h, -⟩ | ⟨-, h⟩; rw [e] at h; cases h; exact h
    refine (join_gen (fun v => ErrIn a d v K) (twoV x y) (fun k => if k = 0 then !p else !q) bl 2 c (by omega) ?_ ?_ ?_ w hA).mono ?_
    · cases p
      · simp [cntE]; omega
      · cases q
        · simp [cntE]
        · exact absurd hpq2 (by simp)
    · intro k hk he
      have : k = 0 ∨ k = 1 := by omega
      rcases this with rfl | rfl
      · exact nx (by simpa using he)
      · exact ny (by simpa using he)
    · intro k hk he
      have : k = 0 ∨ k = 1 := by omega
      rcases this with rfl | rfl
      · have h := ix (by simpa using he)
        obtain ⟨t, r, e⟩ := h.iface
        exact ⟨t, r, e, by rw [← e]; exact h⟩
      · have h := iy (by simpa using he)
        obtain ⟨t, r, e⟩ := h.iface
        exact ⟨t, r, e, by rw [← e]; exact h⟩
    · rintro e w' ⟨b, rfl, hJ, hb⟩
      have hle := cntE_le (fun k => if k = 0 then !p else !q) 2
      have hpos : 0 < cntE (fun k => if k = 0 then !p else !q) 2 := by
        cases p
        · simp [cntE]; omega
        · cases q
          · simp [cntE]
          · exact absurd hpq2 (by simp)
      generalize cntE (fun k => if k = 0 then !p else !q) 2 = n at hJ hle hpos
      obtain ⟨h0, eb, cc, F, h4, h1, h2, h5, h6, h7⟩ := hJ
      have hM : Mem (Base.of w) [(b, 1, fun _ => .slice (some ⟨eb, 0, none⟩) n cc), (eb, cc * 1, F)] w' :=
        ((Mem.start (w := Base.of w) hb).old h1 (fun i p h => by simp at h)).old h2 (fun i p h => by
          match i, h with
          | 0, h => simp at h; rw [← h]; exact h5
          | _ + 1, h => simp at h)
      refine ⟨_, [(b, 1, fun _ => .slice (some ⟨eb, 0, none⟩) n cc), (eb, cc * 1, F)], rfl, .inr ⟨hpq2, .inr ⟨b, eb, cc, n, F, rfl, by simp, by simp, h5, hpos, h6, by omega, fun j hj => (h7 j hj).mono (fun p hp => List.mem_append_right _ hp)⟩⟩, hM, fun p hp => ?_⟩
      simp only [List.mem_cons, List.not_mem_nil, or_false] at hp
      rcases hp with rfl | rfl
      · exact h0
      · exact h4
/-- The order of blocks does not matter. -/
theorem Mem.shuf {w : Base} {W : World} {L L' : Blocks} (h : Mem w L W) (hp : L.Perm L') : Mem w L' W := by
  have hw : L.Pairwise (fun p q => p.1 ≠ q.1) := List.pairwise_iff_getElem.2 fun i j hi hj hlt => h.apart i j _ _ (List.getElem?_eq_getElem hi) (List.getElem?_eq_getElem hj) (by omega)
  have hw' := (hp.pairwise_iff (fun {a b} (h : a.1 ≠ b.1) => h.symm)).1 hw
  have hw2 := List.pairwise_iff_getElem.1 hw'
  refine ⟨h.good, fun i b n f hi => ?_, fun i j p q hi hj hne => ?_⟩
  · obtain ⟨j, hj⟩ := List.getElem?_of_mem (hp.mem_iff.2 (List.mem_of_getElem? hi))
    exact h.ats j b n f hj
  · obtain ⟨hil, ei⟩ := List.getElem?_eq_some_iff.1 hi
    obtain ⟨hjl, ej⟩ := List.getElem?_eq_some_iff.1 hj
    rcases Nat.lt_or_gt_of_ne hne with h1 | h1
    · have := hw2 i j hil hjl h1; rwa [ei, ej] at this
    · have := hw2 j i hjl hil h1; rw [ei, ej] at this; exact fun e => this e.symm
theorem Mem.ofK {w : Base} {W : World} {L : Blocks} (h : Mem w L W) : ∀ p, p ∈ L → At W p.1 p.2.1 p.2.2 := fun p hp => by
  obtain ⟨i, hi⟩ := List.getElem?_of_mem hp
  exact h.ats i _ _ _ hi
/-- A call gave blocks of its own: behind those that were there. -/
theorem Mem.back {b0 : Base} {L K : Blocks} {X X' : World} (hM : Mem b0 L X) (hK : Mem (Base.of X) K X') (hge : ∀ p, p ∈ K → X.heap.size ≤ p.1) : Mem b0 (L ++ K) X' :=
  (hM.front hK.below hK (fun i p h => hge p (List.mem_of_getElem? h))).shuf List.perm_append_comm
set_option maxRecDepth 100000 in
theorem IsG_any {a : Nat → Addr} {w : World} {v : Value} (j : Nat) (hj : j < 7) (h : SynE a w v) :
    Calls Tryz.prog 33 #[v, errV (a j)] w fun e w' => e = .returned (.bool (decide (j = 3))) ∧ w = w' := by
  have h8 := @run_callFunc_extern Tryz.prog 48 _ Extern.ReflectliteType.typeOf Tryz.func48 (by kernel_rfl) (by kernel_rfl) (by kernel_rfl) (by kernel_rfl)
  have tT := isTypeOf
  have cT := isComparable
  have mR := isMethodComparable
  obtain ⟨t, p, rfl, h⟩ := h
  have hY := h w (Below.refl _ _) j hj
  clear h
  generalize decide (j = 3) = q at hY ⊢
  unfold errV at hY ⊢
  have HY := Lib.hid hY
  clear hY
  go_enter Tryz.func33, Tryz.ntmps33
  go_wp2_with (first | (go_at_call 49; refine HY.out.mono ?_; rintro e W' ⟨rfl, rfl⟩))
  go_ret
  exact ⟨rfl, rfl⟩
theorem IsG_no {a : Nat → Addr} {w : World} {v : Value} (j : Nat) (hj : j < 7) (h3 : j ≠ 3) (h : SynE a w v) :
    Calls Tryz.prog 33 #[v, errV (a j)] w fun e w' => e = .returned (.bool false) ∧ w = w' := by
  have := IsG_any j hj h
  rwa [decide_eq_false h3] at this
theorem IsG_yes {a : Nat → Addr} {w : World} {v : Value} (h : SynE a w v) :
    Calls Tryz.prog 33 #[v, errV (a 3)] w fun e w' => e = .returned (.bool true) ∧ w = w' := IsG_any 3 (by omega) h
set_option maxRecDepth 100000 in
set_option maxHeartbeats 4000000 in
theorem codeG_any {a : Nat → Addr} {w : World} {v : Value} (h : Errs a w) (hS : SynE a w v) :
    Calls Tryz.prog 20 #[v] w fun e w' => e = .returned (.int .i64 5) ∧ w = w' := by
  have v0 : w.cell? ⟨1, 0, none⟩ = some (errV (a 0)) := h.vars 0 (by omega)
  have v1 : w.cell? ⟨2, 0, none⟩ = some (errV (a 1)) := h.vars 1 (by omega)
  have v5 : w.cell? ⟨3, 0, none⟩ = some (errV (a 5)) := h.vars 5 (by omega)
  have v2 : w.cell? ⟨4, 0, none⟩ = some (errV (a 2)) := h.vars 2 (by omega)
  have v3 : w.cell? ⟨0, 0, none⟩ = some (errV (a 3)) := h.vars 3 (by omega)
  have HS := Lib.hid hS
  clear h hS
  go_enter Tryz.func20, Tryz.ntmps20
  go_wp2_with (first | (go_at_call 33; (with_reducible refine (IsG_no 0 (by omega) (by omega) HS.out).mono ?_); rintro e W' ⟨rfl, rfl⟩) | (go_at_call 33; (with_reducible refine (IsG_no 1 (by omega) (by omega) HS.out).mono ?_); rintro e W' ⟨rfl, rfl⟩) | (go_at_call 33; (with_reducible refine (IsG_no 5 (by omega) (by omega) HS.out).mono ?_); rintro e W' ⟨rfl, rfl⟩) | (go_at_call 33; (with_reducible refine (IsG_no 2 (by omega) (by omega) HS.out).mono ?_); rintro e W' ⟨rfl, rfl⟩) | (go_at_call 33; (with_reducible refine (IsG_yes HS.out).mono ?_); rintro e W' ⟨rfl, rfl⟩))
  go_ret
  exact ⟨rfl, rfl⟩
end Go.Proofs.YtaaphdbaocjecaaGreatDoor

/-
  PLAIN LAWS: two results, the first in memory.
-/
namespace Go.Proofs.YtaaphdbaocjecaaGreatDoor
open Go Go.RowKit Go.BigFrame

theorem loadVar_at {P : Program} {ty : TypeId} {W : World} {b n : Nat} {f : Nat → Value} (hg : At W b n f) (hT : RowT P ty n) : (loadVar ty ⟨b, 0, none⟩).run P W = .ok (.agg (arr n f)) W := by
  obtain ⟨⟨d, hu, hd⟩, hm⟩ := hT
  obtain ⟨t, hg⟩ := hg
  exact run_loadVar_row W b t ty (arr n f) (0, 0) d hg hu (by cases d <;> simp_all [TypeDesc.isRow]) (by rw [hm, arr_size])
/-- Two results, the first in memory. -/
theorem results_at2 {P : Program} {fn : Func} {p q : Tmp} {ty : TypeId} (h : fn.results = #[.cell p ty, .tmp q]) (tmps : Array Value) {W : World} {b n : Nat} {f : Nat → Value}
    (hp : tmps.getD p undef = .pointer (some ⟨b, 0, none⟩)) (hg : At W b n f) (hT : RowT P ty n) (v : Value) (hq : tmps.getD q undef = v) :
    (results fn tmps).run P W = .ok (.tuple #[.agg (arr n f), v]) W := by
  rw [results_cell_tmp h, hp]
  have : (asAddr (.pointer (some ⟨b, 0, none⟩))).run P W = .ok ⟨b, 0, none⟩ W := rfl
  rw [this]
  simp only [Result.andThen_ok, loadVar_at hg hT, hq]

end Go.Proofs.YtaaphdbaocjecaaGreatDoor

/-
  A load, in a drawn region, of a cell that lies below the base: an error's variable.
-/
namespace Go.Proofs.YtaaphdbaocjecaaGreatDoor
open Go Go.RowKit Go.BigFrame

section
variable {P : Program} {o : Oper} {a : Act} {w : Base} {L : Blocks} {K : Act → Prop}
/-- A load of a cell that every world of the class holds. -/
theorem quiet_old (ty : TypeId) (x : Operand) (ho : o.op = .load ty x) (b off : Nat) (hx : a.eval x = .pointer (some ⟨b, off, none⟩)) (hT : CellT P ty) (v : Value) (hc : ∀ W, Mem w L W → W.cell? ⟨b, off, none⟩ = some v)
    (h : K (a.put o.dst v)) : o.quiet P a (Mem w L) K := by
  refine ⟨v, fun W hM => ?_, h⟩
  obtain ⟨⟨d, hu, hd⟩, _⟩ := hT
  have hagg : (isAgg ty).run P W = .ok false W := by
    unfold isAgg
    rw [Sem.run_bind, run_underlying hu W]
    cases d <;> simp_all [TypeDesc.isRow]
  have hl : (load ⟨b, off, none⟩).run P W = .ok v W := by simp [load, Sem.run, hc W hM]
  unfold Oper.quietAt execOp
  simp only [ho, hx, Instr.loadAt, Instr.sureAddr, loadVar, Sem.run_bind, Sem.run_pure, Result.andThen_ok, hagg, Bool.false_eq_true, if_false, hl]
  exact ⟨rfl, rfl⟩
end

end Go.Proofs.YtaaphdbaocjecaaGreatDoor

