/-
  Several texts in one: IsJoin, UpTo, CheckGrass, ErrO, JoinMix, RopeI, RopeLeft.
-/
import Derived.Test.YtbmaljhnldepoaaDoorP12
import Derived.Test.YtbmaljhnldepoaaDoorP4
import Derived.Test.YtbmaljhnldepoaaDoorP2
import Derived.Test.YtbmaljhnldepoaaDoorP10
import Derived.Test.YtbmaljhnldepoaaDoorP9
/-
  errors.Is and impl.codeOf of joined errors, by contracts.
-/
namespace Go.Proofs.YtbmaljhnldepoaaDoor
open Go Go.RowKit Go.BigFrame Go.Extern.Stop Go.Stop Go.Extern

theorem hasUnwraps (v : Value) (xT : TypeId) (w : World) : (Instr.typeAssert (.iface 182 v) xT 210 true).run Tryd.prog w = .ok (.tuple #[.iface 182 v, .bool true]) w := run_typeAssert_hasB Tryd.underlying210 (by kernel_rfl) v xT w
theorem noIsJ (v : Value) (xT : TypeId) (w : World) : (Instr.typeAssert (.iface 182 v) xT 205 true).run Tryd.prog w = .ok (.tuple #[.nilIface, .bool false]) w := run_typeAssert_lacksB Tryd.underlying205 (by kernel_rfl) (by kernel_rfl) v xT w
theorem noUnwrapJ (v : Value) (xT : TypeId) (w : World) : (Instr.typeAssert (.iface 182 v) xT 208 true).run Tryd.prog w = .ok (.tuple #[.nilIface, .bool false]) w := run_typeAssert_lacksB Tryd.underlying208 (by kernel_rfl) (by kernel_rfl) v xT w
theorem methodUnwraps (v : Value) (w : World) : (Go.method 374 182 v "Unwrap").run Tryd.prog w = .ok (203, v) w := by kernel_rfl
theorem eql_types (b : Nat) (y : Addr) (w : World) : (binOp .eql 82 (joinV b) (errV y)).run Tryd.prog w = .ok (.bool false) w := run_eql_iface_types _ _ _ _ Tryd.underlying82 (by decide) w

set_option maxRecDepth 100000 in
/-- errors.is of one error and itself. -/
theorem is1_same (x : Addr) (w : World) :
    Calls Tryd.prog 144 #[errV x, errV x, .bool true] w fun e w' => e = .returned (.bool true) ∧ w' = w := by
  obtain ⟨i, hi, hcmp⟩ := Option.map_eq_some_iff.1 isComp
  obtain ⟨j, hj, hjs⟩ := Option.map_eq_some_iff.1 isSize
  have heq := run_eql_iface_ptr_same (P := Tryd.prog) w x Tryd.underlying82 Tryd.underlying238 hi hcmp hj
  unfold errV
  go_enter Tryd.func144, Tryd.ntmps144
  go_wp2
  refine wp_loop_rounds 1 ?_
  rw [rounds_succ]
  go_wp2
  go_ret
  exact ⟨rfl, rfl⟩
set_option maxRecDepth 100000 in
/-- errors.is of two different errors. -/
theorem is1_other (a b : Addr) (ca cb : Array Value) (ta tb : TypeId) (w : World) (hne : a ≠ b) (ha : w.heap[a.block]? = some (.cells ca ta (0, 0))) (hb : w.heap[b.block]? = some (.cells cb tb (0, 0))) :
    Calls Tryd.prog 144 #[errV a, errV b, .bool true] w fun e w' => e = .returned (.bool false) ∧ w' = w := by
  obtain ⟨i, hi, hcmp⟩ := Option.map_eq_some_iff.1 isComp
  obtain ⟨j, hj, hjs⟩ := Option.map_eq_some_iff.1 isSize
  have nE := noIsE
  have uE := noUnwrapE
  have vE := noUnwrapsE
  have heq := run_eql_iface_ptr_other (P := Tryd.prog) w Tryd.underlying82 Tryd.underlying238 hi hcmp hj (by rw [hjs]; decide) hne ha hb
  unfold errV
  go_enter Tryd.func144, Tryd.ntmps144
  go_wp2
  refine wp_loop_rounds 1 ?_
  rw [rounds_succ]
  go_wp2
  go_ret
  exact ⟨rfl, rfl⟩
theorem is1_no {a : Nat → Addr} {w : World} (h : Errs a w) (i j : Nat) (hi : i < 7) (hj : j < 7) (e : i ≠ j) :
    Calls Tryd.prog 144 #[errV (a i), errV (a j), .bool true] w fun e w' => e = .returned (.bool false) ∧ w = w' := by
  obtain ⟨ca, ta, ha⟩ := h.cells i hi
  obtain ⟨cb, tb, hb⟩ := h.cells j hj
  exact (is1_other _ _ ca cb ta tb w (h.apart i j hi hj e) ha hb).mono fun _ _ h => ⟨h.1, h.2.symm⟩

theorem unwraps_any (b : Nat) (v : Value) (w : World) (hA : At w b 1 fun _ => v) :
    Calls Tryd.prog 203 #[.pointer (some ⟨b, 0, none⟩)] w fun e w' => e = .returned v ∧ w' = w := by
  have hc : w.cell? ⟨b, 0, none⟩ = some v := hA.cell (by omega)
  go_enter Tryd.func203, Tryd.ntmps203
  go_wp2
  go_ret
  exact ⟨rfl, rfl⟩

set_option maxRecDepth 100000 in
set_option maxHeartbeats 2000000 in
/-- errors.is of a joined error and the one that it holds. -/
theorem isJ_yes (b c : Nat) (x : Addr) (hc : 0 < c) (w : World) (hJ : JoinAt w b x c) :
    Calls Tryd.prog 144 #[joinV b, errV x, .bool true] w fun e w' => e = .returned (.bool true) ∧ w = w' := by
  obtain ⟨eb, cc, F, h1, h2, hne, hle, hF⟩ := hJ
  have nE := noIsJ
  have uE := noUnwrapJ
  have vE := hasUnwraps
  have mU := methodUnwraps
  have heq := eql_types b x
  have c0 : w.cell? ⟨eb, 0, none⟩ = some (errV x) := by rw [h2.cell (by omega), hF 0 hc]
  have lc : (0 : Int) < c := by omega
  have H1 := Lib.hid h1
  clear h1 h2 hF
  unfold joinV at heq ⊢
  go_enter Tryd.func144, Tryd.ntmps144
  go_wp2
  refine wp_loop_rounds 1 ?_
  rw [rounds_succ]
  go_wp2_with (first | (go_at_call 203; refine (unwraps_any b _ _ H1.out).mono ?_; rintro e W' ⟨rfl, rfl⟩))
  refine wp_loop_rounds 1 ?_
  rw [rounds_succ]
  go_wp2_with (first | (go_at_call 144; refine (is1_same x _).mono ?_; rintro e W' ⟨rfl, rfl⟩))
  go_ret
  exact ⟨rfl, rfl⟩

set_option maxRecDepth 100000 in
set_option maxHeartbeats 2000000 in
/-- errors.is of a joined error and another one than it holds. -/
theorem isJ_no {a : Nat → Addr} (b c : Nat) (i j : Nat) (hi : i < 7) (hj : j < 7) (hij : i ≠ j) (hcm : c ≤ 1000) (w : World) (hJ : JoinAt w b (a i) c) (hE : Errs a w) :
    Calls Tryd.prog 144 #[joinV b, errV (a j), .bool true] w fun e w' => e = .returned (.bool false) ∧ w = w' := by
  obtain ⟨eb, cc, F, h1, h2, hne, hle, hF⟩ := hJ
  have nE := noIsJ
  have uE := noUnwrapJ
  have vE := hasUnwraps
  have mU := methodUnwraps
  have heq := eql_types b (a j)
  have HF : Hid (∀ k, k < c → w.cell? ⟨eb, k, none⟩ = some (errV (a i))) := Lib.hid (fun k hk => by rw [h2.cell (by omega), hF k hk])
  have H1 := Lib.hid h1
  have HE := Lib.hid hE
  clear h1 h2 hF hE
  unfold joinV at heq ⊢
  go_enter Tryd.func144, Tryd.ntmps144
  go_wp2
  refine wp_loop_rounds 1 ?_
  rw [rounds_succ]
  go_wp2_with (first | (go_at_call 203; refine (unwraps_any b _ _ H1.out).mono ?_; rintro e W' ⟨rfl, rfl⟩))
  go_loopw [45] (fun n wr => ∃ k : Nat, k ≤ c ∧ n = .int .i64 k ∧ wr = W') (fun n _ => c - (intOf n).toNat)
  case atStart => exact ⟨0, by omega, rfl, rfl⟩
  case round =>
    obtain ⟨k, hk, rfl, rfl⟩ := hrel
    by_cases hlt : k < c
    · have lk : (k : Int) < c := by omega
      have ck := HF.out k hlt
      go_wp2_with (first | (go_at_call 144; refine (is1_no HE.out i j hi hj hij).mono ?_; rintro e W' ⟨rfl, rfl⟩))
      go_roundw
      case rel => exact ⟨k + 1, by omega, by go_num, by first | rfl | trivial⟩
      case measure => simp [intOf]; omega
    · obtain rfl : k = c := by omega
      go_wp2
      go_ret
      exact ⟨rfl, rfl⟩

set_option maxRecDepth 100000 in
theorem IsJ_yes {a : Nat → Addr} (b c : Nat) (i : Nat) (hi : i < 7) (hc : 0 < c) (w : World) (hJ : JoinAt w b (a i) c) :
    Calls Tryd.prog 107 #[joinV b, errV (a i)] w fun e w' => e = .returned (.bool true) ∧ w = w' := by
  have h8 := @run_callFunc_extern Tryd.prog 143 _ Extern.ReflectliteType.typeOf Tryd.func143 (by kernel_rfl) (by kernel_rfl) (by kernel_rfl) (by kernel_rfl)
  have tT := isTypeOf
  have cT := isComparable
  have mR := isMethodComparable
  have hY := isJ_yes b c (a i) hc w hJ
  unfold joinV errV at hY ⊢
  go_enter Tryd.func107, Tryd.ntmps107
  go_wp2_with (first | (go_at_call 144; refine hY.mono ?_; rintro e W' ⟨rfl, rfl⟩))
  go_ret
  exact ⟨rfl, rfl⟩
set_option maxRecDepth 100000 in
theorem IsJ_no {a : Nat → Addr} (b c : Nat) (i j : Nat) (hi : i < 7) (hj : j < 7) (hij : i ≠ j) (hcm : c ≤ 1000) (w : World) (hJ : JoinAt w b (a i) c) (hE : Errs a w) :
    Calls Tryd.prog 107 #[joinV b, errV (a j)] w fun e w' => e = .returned (.bool false) ∧ w = w' := by
  have h8 := @run_callFunc_extern Tryd.prog 143 _ Extern.ReflectliteType.typeOf Tryd.func143 (by kernel_rfl) (by kernel_rfl) (by kernel_rfl) (by kernel_rfl)
  have tT := isTypeOf
  have cT := isComparable
  have mR := isMethodComparable
  have hY := isJ_no b c i j hi hj hij hcm w hJ hE
  unfold joinV errV at hY ⊢
  go_enter Tryd.func107, Tryd.ntmps107
  go_wp2_with (first | (go_at_call 144; refine hY.mono ?_; rintro e W' ⟨rfl, rfl⟩))
  go_ret
  exact ⟨rfl, rfl⟩

set_option maxRecDepth 100000 in
set_option maxHeartbeats 4000000 in
/-- The code of joined errors of which each is the first one. -/
theorem codeJ_0 {a : Nat → Addr} {w : World} (b c : Nat) (hc : 0 < c) (h : Errs a w) (hJ : JoinAt w b (a 0) c) :
    Calls Tryd.prog 56 #[joinV b] w fun e w' => e = .returned (.int .i64 1) ∧ w = w' := by
  have v0 : w.cell? ⟨0, 0, none⟩ = some (errV (a 0)) := h.vars 0 (by omega)
  have HJ := Lib.hid hJ
  clear h hJ
  go_enter Tryd.func56, Tryd.ntmps56
  go_wp2_with (first | (go_at_call 107; (with_reducible refine (IsJ_yes b c 0 (by omega) hc _ HJ.out).mono ?_); rintro e W' ⟨rfl, rfl⟩))
  go_ret
  exact ⟨rfl, rfl⟩
set_option maxRecDepth 100000 in
set_option maxHeartbeats 4000000 in
/-- The code of joined errors of which each is the second one. -/
theorem codeJ_1 {a : Nat → Addr} {w : World} (b c : Nat) (hc : 0 < c) (hcm : c ≤ 1000) (h : Errs a w) (hJ : JoinAt w b (a 1) c) :
    Calls Tryd.prog 56 #[joinV b] w fun e w' => e = .returned (.int .i64 2) ∧ w = w' := by
  have v0 : w.cell? ⟨0, 0, none⟩ = some (errV (a 0)) := h.vars 0 (by omega)
  have v1 : w.cell? ⟨1, 0, none⟩ = some (errV (a 1)) := h.vars 1 (by omega)
  have HJ := Lib.hid hJ
  have H := Lib.hid h
  clear h hJ
  go_enter Tryd.func56, Tryd.ntmps56
  go_wp2_with (first | (go_at_call 107; (with_reducible refine (IsJ_no b c 1 0 (by omega) (by omega) (by omega) hcm _ HJ.out H.out).mono ?_); rintro e W' ⟨rfl, rfl⟩) | (go_at_call 107; (with_reducible refine (IsJ_yes b c 1 (by omega) hc _ HJ.out).mono ?_); rintro e W' ⟨rfl, rfl⟩))
  go_ret
  exact ⟨rfl, rfl⟩
@[go_sem] theorem guard_join (x : Operand) (b : Nat) (W : World) : (eqGuard .neq 82 x (.const .nilIface) (joinV b) .nilIface).run Tryd.prog W = .ok () W := by
  unfold joinV; go_simp
@[go_sem] theorem neq_join (b : Nat) (W : World) : (binOp .neq 82 (joinV b) .nilIface).run Tryd.prog W = .ok (.bool true) W := by
  unfold joinV; go_simp
end Go.Proofs.YtbmaljhnldepoaaDoor

/-
  impl.checkUpTo and impl.checkGrass by contracts.
-/
namespace Go.Proofs.YtbmaljhnldepoaaDoor
open Go Go.RowKit Go.BigFrame

set_option maxHeartbeats 400000 in
theorem checkUpTo_no {a : Nat → Addr} (n m : Int) (w : World) (hE : Errs a w) (h : inB 0 m n = false) :
    Calls Tryd.prog 99 #[.int .i64 n, .int .i64 m] w fun e w' => e = .returned (errV (a 1)) ∧ Below w.heap.size w w' := by
  have v1 : w.cell? ⟨1, 0, none⟩ = some (errV (a 1)) := hE.vars 1 (by omega)
  have h' : ¬ (0 ≤ n ∧ n ≤ m) := of_decide_eq_false h
  clear hE h
  by_cases h0 : n < 0
  · clear h'
    go_enter Tryd.func99, Tryd.ntmps99
    go_wp2
    go_ret
    exact ⟨rfl, Below.refl _ _⟩
  · have h1 : m < n := by omega
    have d1 : decide (m < n) = true := decide_eq_true h1
    clear h'
    go_enter Tryd.func99, Tryd.ntmps99
    go_wp2
    go_ret
    exact ⟨rfl, Below.refl _ _⟩
set_option maxHeartbeats 400000 in
theorem checkUpTo_yes (n m : Int) (w : World) (h : inB 0 m n = true) :
    Calls Tryd.prog 99 #[.int .i64 n, .int .i64 m] w fun e w' => e = .returned .nilIface ∧ Below w.heap.size w w' := by
  obtain ⟨h0, h1⟩ := inB_true h
  have d0 : decide (n < 0) = false := decide_eq_false (by omega)
  have d1 : decide (m < n) = false := decide_eq_false (by omega)
  clear h h0 h1
  go_enter Tryd.func99, Tryd.ntmps99
  go_wp2
  go_ret
  exact ⟨rfl, Below.refl _ _⟩
end Go.Proofs.YtbmaljhnldepoaaDoor

/-
  impl.checkGrass by contracts.
-/
namespace Go.Proofs.YtbmaljhnldepoaaDoor
open Go Go.RowKit Go.BigFrame

end Go.Proofs.YtbmaljhnldepoaaDoor

/-
  Errors that are there or not: checks as values; joined errors of two and of three.
-/
namespace Go.Proofs.YtbmaljhnldepoaaDoor
open Go Go.RowKit Go.BigFrame

/-- The error x, or none. -/
def errO (x : Addr) (b : Bool) : Value := if b then errV x else .nilIface
theorem errO_one (x : Addr) (b : Bool) : (errO x b).oneCell' = true := by cases b <;> rfl
theorem checkUpTo_any {a : Nat → Addr} (n m : Int) (w : World) (hE : Errs a w) :
    Calls Tryd.prog 99 #[.int .i64 n, .int .i64 m] w fun e w' => e = .returned (errO (a 1) (!inB 0 m n)) ∧ Below w.heap.size w w' := by
  cases h : inB 0 m n
  · exact checkUpTo_no n m w hE h
  · exact checkUpTo_yes n m w h
def es2 (p q : Bool) : Nat → Bool := fun k => if k = 0 then p else q
def es3 (p q r : Bool) : Nat → Bool := fun k => if k = 0 then p else if k = 1 then q else r
theorem lit2_errE (x : Addr) (p q : Bool) : ∀ k, k < 2 → (fun k => if k = 0 then errO x p else errO x q) k = errE x (es2 p q) k := fun k _ => by
  unfold errE es2 errO
  by_cases h : k = 0 <;> simp [h]
theorem lit3_errE (x : Addr) (p q r : Bool) : ∀ k, k < 3 → (fun k => if k = 0 then errO x p else if k = 1 then errO x q else errO x r) k = errE x (es3 p q r) k := fun k _ => by
  unfold errE es3 errO
  by_cases h : k = 0
  · simp [h]
  · by_cases h' : k = 1 <;> simp [h, h']
theorem cnt2_no : cntE (es2 false false) 2 = 0 := by decide
theorem cnt3_no : cntE (es3 false false false) 3 = 0 := by decide
theorem cnt2_yes {p q : Bool} (h : (p || q) = true) : 0 < cntE (es2 p q) 2 := by revert h; cases p <;> cases q <;> decide
theorem cnt3_yes {p q r : Bool} (h : (p || q || r) = true) : 0 < cntE (es3 p q r) 3 := by revert h; cases p <;> cases q <;> cases r <;> decide
end Go.Proofs.YtbmaljhnldepoaaDoor

/-
  errors.Join of errors that all are there, of several kinds; impl.codeOf of them, the first one errInvalid.
-/
namespace Go.Proofs.YtbmaljhnldepoaaDoor
open Go Go.RowKit Go.BigFrame

/-- Joined errors of which the first is x. -/
def JoinFst (W : World) (b : Nat) (x : Addr) (c : Nat) : Prop := ∃ eb cc F, At W b 1 (fun _ => .slice (some ⟨eb, 0, none⟩) c cc) ∧ At W eb (cc * 1) F ∧ b ≠ eb ∧ c ≤ cc ∧ F 0 = errV x
theorem JoinFst.below {W W' : World} {b c : Nat} {x : Addr} (h : JoinFst W b x c) (hb : Below W.heap.size W W') : JoinFst W' b x c := by
  obtain ⟨eb, cc, F, h1, h2, h3⟩ := h
  exact ⟨eb, cc, F, h1.below hb h1.lt, h2.below hb h2.lt, h3⟩
theorem JoinAt.fst {W : World} {b c : Nat} {x : Addr} (h : JoinAt W b x c) (hc : 0 < c) : JoinFst W b x c := by
  obtain ⟨eb, cc, F, h1, h2, h3, h4, h5⟩ := h
  exact ⟨eb, cc, F, h1, h2, h3, h4, h5 0 hc⟩
def xsE (xs : Nat → Addr) : Nat → Value := fun k => errV (xs k)
def JoinInF (w : World) (bl m : Nat) (xs : Nat → Addr) (sb k : Nat) (wr : World) : Prop :=
  ∃ eb c F, (∀ j, j < k * 1 → F j = xsE xs j) ∧ k ≤ c ∧ w.heap.size ≤ eb ∧ Mem w [(eb, c * 1, F), (sb, 1, fun _ => .slice (some ⟨eb, 0, none⟩) k c), (bl, m, xsE xs)] wr

set_option maxRecDepth 100000 in
set_option maxHeartbeats 4000000 in
theorem join_full (xs : Nat → Addr) (bl m c : Nat) (hm : m ≤ 3) (h0 : 0 < m) (w : World) (hA : At w bl m (xsE xs)) :
    Calls Tryd.prog 98 #[.slice (some ⟨bl, 0, none⟩) m c] w fun e w' => ∃ b, e = .returned (joinV b) ∧ JoinFst w' b (xs 0) m ∧ Below w.heap.size w w' := by
  have hM : Mem w [(bl, m, xsE xs)] w := (Mem.nil w).old hA (fun i p h => by simp at h)
  clear hA
  go_enter Tryd.func98, Tryd.ntmps98
  go_wp2
  go_loopw [3, 11] (fun n i wr => ∃ k : Nat, k ≤ m ∧ n = .int .i64 (k : Nat) ∧ i = .int .i64 k ∧ Mem w [(bl, m, xsE xs)] wr) (fun _ i _ => m - (intOf i).toNat)
  case atStart => exact ⟨0, by omega, rfl, rfl, hM⟩
  case round =>
    clear hM
    obtain ⟨k, hk, rfl, rfl, hM⟩ := hrel
    by_cases hlt : k < m
    · have lk : (k : Int) < m := by omega
      have c1 : IntKind.i64.wrap ((k : Nat) + 1 : Int) = ((k + 1 : Nat) : Int) := by rw [IntWalk.i64_in _ (by omega)]; rfl
      have e0 : xsE xs k = errV (xs k) := rfl
      have e1 : xsE xs (k * 1) = errV (xs k) := by rw [Nat.mul_one]; rfl
      go_wp2_with (first | (refine wpList_get1 rfl _ _ rfl _ _ rfl hM 0 rfl (cellTab _ rfl) (by omega) _ (by first | exact e0 | exact e1) ?_))
      go_roundw
      case rel => exact ⟨k + 1, by omega, by first | rfl | go_num, by go_num, hM⟩
      case measure => simp [intOf]; omega
    · obtain rfl : k = m := by omega
      have hpos : ¬ ((k : Nat) : Int) = 0 := by omega
      have hpos2 : decide (((k : Nat) : Int) = 0) = false := decide_eq_false hpos
      have tk_q1 : True := trivial; have tk_q2 : True := trivial; have tk_q3 : True := trivial
      go_wp2_with (first | (have _t := tk_q1; refine wpList_make0 rfl _ _ _ _ rfl k rfl rfl .nilIface 16 rfl errs_under err_info (by omega) (by omega) hM ?_; intro eb W' heb hM'; clear hM tk_q1; have hM := hM'; clear hM') | (have _t := tk_q2; refine wpList_buildJ rfl _ rfl _ _ _ rfl ?_; clear tk_q2) | (have _t := tk_q3; refine wpList_box rfl _ _ rfl 1 _ rfl hM ?_; intro sb W' hsb hM'; clear hM tk_q3; have hM := hM'; clear hM'))
      have hJ : ∀ w0, w0 = w → ∀ wr, Mem w [(sb, 1, fun _ => .slice (some ⟨eb, 0, none⟩) 0 k), (eb, k * 1, fun _ => .nilIface), (bl, k, xsE xs)] wr → JoinInF w bl k xs sb 0 wr := fun _ _ wr h =>
        ⟨eb, k, fun _ => .nilIface, fun j hj => absurd hj (by simp), by simp, heb, h.swap⟩
      go_loopw [28] (fun i wr => ∃ j : Nat, j ≤ k ∧ i = .int .i64 j ∧ JoinInF w bl k xs sb j wr) (fun i _ => k - (intOf i).toNat)
      case atStart => exact ⟨0, by omega, rfl, hJ _ rfl _ hM⟩
      case round =>
        clear hM hJ
        obtain ⟨j, hj, rfl, eb1, c1, F1, hF1, hc1, heb1, hM⟩ := hrel
        by_cases hjl : j < k
        · have lj : (j : Int) < k := by omega
          have e0 : xsE xs j = errV (xs j) := rfl
          have e1 : xsE xs (j * 1) = errV (xs j) := by rw [Nat.mul_one]; rfl
          have tk_r1 : True := trivial; have tk_r2 : True := trivial; have tk_r3 : True := trivial; have tk_p1 : True := trivial; have tk_r4 : True := trivial
          go_wp2_with (first | (have _t := tk_r1; refine wpList_get1 rfl _ _ rfl _ _ rfl hM 2 rfl (cellTab _ rfl) (by omega) _ (by first | exact e0 | exact e1) ?_; clear tk_r1) | (have _t := tk_r2; (refine wpList_get1 rfl _ _ rfl _ _ rfl hM 1 rfl (cellTab _ rfl) (by omega) _ rfl ?_); clear tk_r2) | (have _t := tk_r3; refine wpList_lit1 rfl _ _ _ rfl (errV (xs j)) rfl rfl _ errs_under err_info2 hM ?_; intro bn W' hbn hM'; clear hM tk_r3; have hM := hM'; clear hM') | (have _t := tk_p1; refine wpList_push1 rfl _ _ _ rfl _ 1 _ _ errs_under err_info rfl (by omega) _ _ _ _ rfl heb1 hc1 (by omega) _ _ rfl (fun _ _ => rfl) hM (xsE xs) hF1 (fun i hi => by rw [show j * 1 + i = j by omega]; rfl) ?_; intro bL cL FL W' hbL hcL hFL hM'; clear hM tk_p1; have hM := hM'; clear hM') | (have _t := tk_r4; (refine wpList_set1 rfl _ _ _ rfl _ _ rfl _ rfl ?_ hM 1 rfl (by assumption) (cellTab _ rfl) (by omega) ?_; (first | rfl | exact h1 _); intro W' hM'; clear hM; have hM := hM'; clear hM'; simp [List.set, Act.eval] at hM); clear tk_r4))
          have hM2 := hM.re (b := sb) (n := 1) 1 rfl (fun _ => .slice (some ⟨bL, 0, none⟩) (j + 1) cL) (upd_one _ _)
          simp only [List.set] at hM2
          go_roundw
          case rel => exact ⟨j + 1, by omega, by go_num, bL, cL, FL, hFL, hcL, hbL, by rw [Nat.mul_one]; exact hM2⟩
          case measure => simp [intOf]; omega
        · obtain rfl : j = k := by omega
          go_wp2
          go_ret
          exact ⟨sb, rfl, ⟨eb1, c1, F1, hM.ats 1 _ _ _ rfl, hM.ats 0 _ _ _ rfl, hM.apart 1 0 _ _ rfl rfl (by omega), hc1, hF1 0 (by omega)⟩, hM.below⟩

set_option maxRecDepth 100000 in
set_option maxHeartbeats 2000000 in
theorem isF_yes (b c : Nat) (x : Addr) (hc : 0 < c) (w : World) (hJ : JoinFst w b x c) :
    Calls Tryd.prog 144 #[joinV b, errV x, .bool true] w fun e w' => e = .returned (.bool true) ∧ w = w' := by
  obtain ⟨eb, cc, F, h1, h2, hne, hle, hF⟩ := hJ
  have nE := noIsJ
  have uE := noUnwrapJ
  have vE := hasUnwraps
  have mU := methodUnwraps
  have heq := eql_types b x
  have c0 : w.cell? ⟨eb, 0, none⟩ = some (errV x) := by rw [h2.cell (by omega), hF]
  have lc : (0 : Int) < c := by omega
  have H1 := Lib.hid h1
  clear h1 h2 hF
  unfold joinV at heq ⊢
  go_enter Tryd.func144, Tryd.ntmps144
  go_wp2
  refine wp_loop_rounds 1 ?_
  rw [rounds_succ]
  go_wp2_with (first | (go_at_call 203; refine (unwraps_any b _ _ H1.out).mono ?_; rintro e W' ⟨rfl, rfl⟩))
  refine wp_loop_rounds 1 ?_
  rw [rounds_succ]
  go_wp2_with (first | (go_at_call 144; refine (is1_same x _).mono ?_; rintro e W' ⟨rfl, rfl⟩))
  go_ret
  exact ⟨rfl, rfl⟩
set_option maxRecDepth 100000 in
theorem IsF_yes (b c : Nat) (x : Addr) (hc : 0 < c) (w : World) (hJ : JoinFst w b x c) :
    Calls Tryd.prog 107 #[joinV b, errV x] w fun e w' => e = .returned (.bool true) ∧ w = w' := by
  have h8 := @run_callFunc_extern Tryd.prog 143 _ Extern.ReflectliteType.typeOf Tryd.func143 (by kernel_rfl) (by kernel_rfl) (by kernel_rfl) (by kernel_rfl)
  have tT := isTypeOf
  have cT := isComparable
  have mR := isMethodComparable
  have hY := isF_yes b c x hc w hJ
  unfold joinV errV at hY ⊢
  go_enter Tryd.func107, Tryd.ntmps107
  go_wp2_with (first | (go_at_call 144; refine hY.mono ?_; rintro e W' ⟨rfl, rfl⟩))
  go_ret
  exact ⟨rfl, rfl⟩
set_option maxRecDepth 100000 in
set_option maxHeartbeats 4000000 in
/-- The code of joined errors of which the first is errInvalid. -/
theorem codeF_0 {a : Nat → Addr} {w : World} (b c : Nat) (hc : 0 < c) (h : Errs a w) (hJ : JoinFst w b (a 0) c) :
    Calls Tryd.prog 56 #[joinV b] w fun e w' => e = .returned (.int .i64 1) ∧ w = w' := by
  have v0 : w.cell? ⟨0, 0, none⟩ = some (errV (a 0)) := h.vars 0 (by omega)
  have HJ := Lib.hid hJ
  clear h hJ
  go_enter Tryd.func56, Tryd.ntmps56
  go_wp2_with (first | (go_at_call 107; (with_reducible refine (IsF_yes b c (a 0) hc _ HJ.out).mono ?_); rintro e W' ⟨rfl, rfl⟩))
  go_ret
  exact ⟨rfl, rfl⟩
end Go.Proofs.YtbmaljhnldepoaaDoor

/-
  impl.RopeLeft by contract.
-/
namespace Go.Proofs.YtbmaljhnldepoaaDoor
open Go Go.RowKit Go.BigFrame

set_option maxRecDepth 100000 in
set_option maxHeartbeats 4000000 in
theorem implRopeLeft_any {a : Nat → Addr} (g : Nat → Int) (hg : Fits g) (bw n c : Nat) (x y : Int) (s : Nat → Int × Int) (hcn : n ≤ c) (hn : n ≤ 1048576) (len : Int) (w : World) (hB : At w bw (n * 2) (sps s)) (hE : Errs a w) :
    Calls Tryd.prog 48 #[.agg (arr 122 (pas g)), .agg (arr 2 (sp x y)), .slice (some ⟨bw, 0, none⟩) n c, .int .i64 len] w fun e w' => e = .returned (numR (ropeN g s n x y len) (ropedC g s n x y len)) ∧ Below w.heap.size w w' := by
  have hM : Mem w [(bw, n * 2, sps s)] w := (Mem.nil w).old hB (fun i p h => by simp at h)
  have HE := Lib.hid hE
  clear hB hE
  have hR : ropedC g s n x y len = if askC g x y (inB 0 1000 len) = 0 then (if walkB g s n x y = true then 0 else 4) else askC g x y (inB 0 1000 len) := rfl
  have hW : ropeN g s n x y len = if ropedC g s n x y len = 0 then mxI 0 (len - 4 * mxI (sumW (dS x y) s (n - 1)) (-(sumW (dS x y) s (n - 1)))) else 0 := rfl
  cases ho : okB g
  case false =>
    have hc : askC g x y (inB 0 1000 len) = 1 := askC_bad ho
    rw [hc] at hR
    rw [hW, hR]
    have Ho : Hid (validB g = false) := Lib.hid (by rw [← okB_eq]; exact ho)
    clear ho hc hR hW
    cases hf : inB 0 1000 len
    · have Hf : Hid ((!inB 0 1000 len) = true) := Lib.hid (by rw [hf]; rfl)
      clear hf
      have tk_b1 : True := trivial; have tk_b2 : True := trivial; have tk_b3 : True := trivial; have tk_q1 : True := trivial; have tk_q2 : True := trivial; have tk_l2 : True := trivial
      go_enter Tryd.func48, Tryd.ntmps48
      go_wp2_with (first | (have _t := tk_b1; refine wpList_box rfl _ _ rfl _ _ rfl hM ?_; intro b1 W' hb1 hM'; clear hM tk_b1; have hM := hM'; clear hM') | (have _t := tk_b2; refine wpList_box rfl _ _ rfl _ _ rfl hM ?_; intro b2 W' hb2 hM'; clear hM tk_b2; have hM := hM'; clear hM') | (have _t := tk_q1; (refine wpList_get rfl _ _ rfl _ _ rfl hM 1 rfl (rowTab _ _ rfl) (by omega) ?_); clear tk_q1) | (have _t := tk_q2; (refine wpList_get rfl _ _ rfl _ _ rfl hM 0 rfl (rowTab _ _ rfl) (by omega) ?_); clear tk_q2) | (have _t := tk_b3; refine wpList_slice1 rfl _ _ _ rfl _ _ rfl _ spot_under spot_info (by omega) (by omega) hM ?_; intro b3 W' hb3 hM'; clear hM tk_b3; have hM := hM'; clear hM') | (go_at_call 55; refine (checkCells_bad g hg _ _ (HE.out.below hM.below) Ho.out).mono ?_; rintro e W' ⟨rfl, hb'⟩; have hM' := hM.call hb'; clear hM hb'; have hM := hM'; clear hM') | (go_at_call 99; (with_reducible refine (checkUpTo_any len 1000 _ (HE.out.below hM.below)).mono ?_); rintro e W' ⟨rfl, hb'⟩; rw [Hf.out]; have hM' := hM.call hb'; clear hM hb'; have hM := hM'; clear hM') | (have _t := tk_l2; refine wpList_lit2 rfl _ _ _ _ rfl (errV (a 0)) (errO (a 1) true) rfl rfl rfl rfl _ errs_under err_info2 hM ?_; intro bn W' hbn hM'; clear hM tk_l2; have hM := hM'; clear hM') | (go_at_call 98; refine (join_full (fun k => if k = 0 then a 0 else a 1) bn 2 2 (by omega) (by omega) _ ((hM.ats 0 _ _ _ rfl).congr (fun k hk => by rcases (show k = 0 ∨ k = 1 by omega) with rfl | rfl <;> rfl))).mono ?_; rintro e W' ⟨jb, rfl, hJ, hb'⟩; have hJ : JoinFst W' jb (a 0) 2 := hJ; have hM' := hM.call hb'; clear hM hb'; have hM := hM'; clear hM') | (go_at_call 56; refine (codeF_0 jb 2 (by omega) (HE.out.below hM.below) hJ).mono ?_; rintro e W' ⟨rfl, rfl⟩))
      go_ret2
      exact ⟨ret_num rfl rfl, hM.below⟩
    · have Hf : Hid ((!inB 0 1000 len) = false) := Lib.hid (by rw [hf]; rfl)
      clear hf
      have tk_b1 : True := trivial; have tk_b2 : True := trivial; have tk_b3 : True := trivial; have tk_q1 : True := trivial; have tk_q2 : True := trivial; have tk_l2 : True := trivial
      go_enter Tryd.func48, Tryd.ntmps48
      go_wp2_with (first | (have _t := tk_b1; refine wpList_box rfl _ _ rfl _ _ rfl hM ?_; intro b1 W' hb1 hM'; clear hM tk_b1; have hM := hM'; clear hM') | (have _t := tk_b2; refine wpList_box rfl _ _ rfl _ _ rfl hM ?_; intro b2 W' hb2 hM'; clear hM tk_b2; have hM := hM'; clear hM') | (have _t := tk_q1; (refine wpList_get rfl _ _ rfl _ _ rfl hM 1 rfl (rowTab _ _ rfl) (by omega) ?_); clear tk_q1) | (have _t := tk_q2; (refine wpList_get rfl _ _ rfl _ _ rfl hM 0 rfl (rowTab _ _ rfl) (by omega) ?_); clear tk_q2) | (have _t := tk_b3; refine wpList_slice1 rfl _ _ _ rfl _ _ rfl _ spot_under spot_info (by omega) (by omega) hM ?_; intro b3 W' hb3 hM'; clear hM tk_b3; have hM := hM'; clear hM') | (go_at_call 55; refine (checkCells_bad g hg _ _ (HE.out.below hM.below) Ho.out).mono ?_; rintro e W' ⟨rfl, hb'⟩; have hM' := hM.call hb'; clear hM hb'; have hM := hM'; clear hM') | (go_at_call 99; (with_reducible refine (checkUpTo_any len 1000 _ (HE.out.below hM.below)).mono ?_); rintro e W' ⟨rfl, hb'⟩; rw [Hf.out]; have hM' := hM.call hb'; clear hM hb'; have hM := hM'; clear hM') | (have _t := tk_l2; refine wpList_lit2 rfl _ _ _ _ rfl (errV (a 0)) (errO (a 1) false) rfl rfl rfl rfl _ errs_under err_info2 hM ?_; intro bn W' hbn hM'; clear hM tk_l2; have hM := hM'; clear hM') | (go_at_call 98; refine (join_some (a 0) (es2 true false) bn 2 2 (by omega) (by decide) _ ((hM.ats 0 _ _ _ rfl).congr (fun k hk => by rcases (show k = 0 ∨ k = 1 by omega) with rfl | rfl <;> rfl))).mono ?_; rintro e W' ⟨jb, rfl, hJ, hb'⟩; have hM' := hM.call hb'; clear hM hb'; have hM := hM'; clear hM') | (go_at_call 56; (with_reducible refine (codeJ_0 jb (cntE (es2 true false) 2) (by decide) (HE.out.below hM.below) hJ).mono ?_); rintro e W' ⟨rfl, rfl⟩))
      go_ret2
      exact ⟨ret_num rfl rfl, hM.below⟩
  have Ho : Hid (validB g = true) := Lib.hid (by rw [← okB_eq]; exact ho)
  cases hi : isB g x y
  case false =>
    have hc : askC g x y (inB 0 1000 len) = 2 := askC_out ho hi
    rw [hc] at hR
    rw [hW, hR]
    have Hi : Hid (chkS a g (fun _ => (x, y)) 1 = errV (a 1)) := Lib.hid (chkS_no (by rw [allB_one]; exact hi))
    clear ho hi hc hR hW
    cases hf : inB 0 1000 len
    · have Hf : Hid ((!inB 0 1000 len) = true) := Lib.hid (by rw [hf]; rfl)
      clear hf
      have tk_b1 : True := trivial; have tk_b2 : True := trivial; have tk_b3 : True := trivial; have tk_q1 : True := trivial; have tk_q2 : True := trivial; have tk_l2 : True := trivial
      go_enter Tryd.func48, Tryd.ntmps48
      go_wp2_with (first | (have _t := tk_b1; refine wpList_box rfl _ _ rfl _ _ rfl hM ?_; intro b1 W' hb1 hM'; clear hM tk_b1; have hM := hM'; clear hM') | (have _t := tk_b2; refine wpList_box rfl _ _ rfl _ _ rfl hM ?_; intro b2 W' hb2 hM'; clear hM tk_b2; have hM := hM'; clear hM') | (have _t := tk_q1; (refine wpList_get rfl _ _ rfl _ _ rfl hM 1 rfl (rowTab _ _ rfl) (by omega) ?_); clear tk_q1) | (have _t := tk_q2; (refine wpList_get rfl _ _ rfl _ _ rfl hM 0 rfl (rowTab _ _ rfl) (by omega) ?_); clear tk_q2) | (have _t := tk_b3; refine wpList_slice1 rfl _ _ _ rfl _ _ rfl _ spot_under spot_info (by omega) (by omega) hM ?_; intro b3 W' hb3 hM'; clear hM tk_b3; have hM := hM'; clear hM') | (go_at_call 55; refine (checkCells_some g hg _ 1 1 2 (fun _ => (x, y)) (by omega) (by decide) _ ((hM.ats 0 _ _ _ rfl).congr (sp_sps0 _ _)) (HE.out.below hM.below) Ho.out).mono ?_; rintro e W' ⟨rfl, hb'⟩; rw [Hi.out]; have hM' := hM.call hb'; clear hM hb'; have hM := hM'; clear hM') | (go_at_call 99; (with_reducible refine (checkUpTo_any len 1000 _ (HE.out.below hM.below)).mono ?_); rintro e W' ⟨rfl, hb'⟩; rw [Hf.out]; have hM' := hM.call hb'; clear hM hb'; have hM := hM'; clear hM') | (have _t := tk_l2; refine wpList_lit2 rfl _ _ _ _ rfl (errV (a 1)) (errO (a 1) true) rfl rfl rfl rfl _ errs_under err_info2 hM ?_; intro bn W' hbn hM'; clear hM tk_l2; have hM := hM'; clear hM') | (go_at_call 98; refine (join_some (a 1) (es2 true true) bn 2 2 (by omega) (by decide) _ ((hM.ats 0 _ _ _ rfl).congr (fun k hk => by rcases (show k = 0 ∨ k = 1 by omega) with rfl | rfl <;> rfl))).mono ?_; rintro e W' ⟨jb, rfl, hJ, hb'⟩; have hM' := hM.call hb'; clear hM hb'; have hM := hM'; clear hM') | (go_at_call 56; (with_reducible refine (codeJ_1 jb (cntE (es2 true true) 2) (by decide) (by decide) (HE.out.below hM.below) hJ).mono ?_); rintro e W' ⟨rfl, rfl⟩))
      go_ret2
      exact ⟨ret_num rfl rfl, hM.below⟩
    · have Hf : Hid ((!inB 0 1000 len) = false) := Lib.hid (by rw [hf]; rfl)
      clear hf
      have tk_b1 : True := trivial; have tk_b2 : True := trivial; have tk_b3 : True := trivial; have tk_q1 : True := trivial; have tk_q2 : True := trivial; have tk_l2 : True := trivial
      go_enter Tryd.func48, Tryd.ntmps48
      go_wp2_with (first | (have _t := tk_b1; refine wpList_box rfl _ _ rfl _ _ rfl hM ?_; intro b1 W' hb1 hM'; clear hM tk_b1; have hM := hM'; clear hM') | (have _t := tk_b2; refine wpList_box rfl _ _ rfl _ _ rfl hM ?_; intro b2 W' hb2 hM'; clear hM tk_b2; have hM := hM'; clear hM') | (have _t := tk_q1; (refine wpList_get rfl _ _ rfl _ _ rfl hM 1 rfl (rowTab _ _ rfl) (by omega) ?_); clear tk_q1) | (have _t := tk_q2; (refine wpList_get rfl _ _ rfl _ _ rfl hM 0 rfl (rowTab _ _ rfl) (by omega) ?_); clear tk_q2) | (have _t := tk_b3; refine wpList_slice1 rfl _ _ _ rfl _ _ rfl _ spot_under spot_info (by omega) (by omega) hM ?_; intro b3 W' hb3 hM'; clear hM tk_b3; have hM := hM'; clear hM') | (go_at_call 55; refine (checkCells_some g hg _ 1 1 2 (fun _ => (x, y)) (by omega) (by decide) _ ((hM.ats 0 _ _ _ rfl).congr (sp_sps0 _ _)) (HE.out.below hM.below) Ho.out).mono ?_; rintro e W' ⟨rfl, hb'⟩; rw [Hi.out]; have hM' := hM.call hb'; clear hM hb'; have hM := hM'; clear hM') | (go_at_call 99; (with_reducible refine (checkUpTo_any len 1000 _ (HE.out.below hM.below)).mono ?_); rintro e W' ⟨rfl, hb'⟩; rw [Hf.out]; have hM' := hM.call hb'; clear hM hb'; have hM := hM'; clear hM') | (have _t := tk_l2; refine wpList_lit2 rfl _ _ _ _ rfl (errV (a 1)) (errO (a 1) false) rfl rfl rfl rfl _ errs_under err_info2 hM ?_; intro bn W' hbn hM'; clear hM tk_l2; have hM := hM'; clear hM') | (go_at_call 98; refine (join_some (a 1) (es2 true false) bn 2 2 (by omega) (by decide) _ ((hM.ats 0 _ _ _ rfl).congr (fun k hk => by rcases (show k = 0 ∨ k = 1 by omega) with rfl | rfl <;> rfl))).mono ?_; rintro e W' ⟨jb, rfl, hJ, hb'⟩; have hM' := hM.call hb'; clear hM hb'; have hM := hM'; clear hM') | (go_at_call 56; (with_reducible refine (codeJ_1 jb (cntE (es2 true false) 2) (by decide) (by decide) (HE.out.below hM.below) hJ).mono ?_); rintro e W' ⟨rfl, rfl⟩))
      go_ret2
      exact ⟨ret_num rfl rfl, hM.below⟩
  have Hi : Hid (chkS a g (fun _ => (x, y)) 1 = .nilIface) := Lib.hid (chkS_yes (by rw [allB_one]; exact hi))
  cases hf : inB 0 1000 len
  case false =>
    have hc : askC g x y (inB 0 1000 len) = 2 := by rw [hf]; exact askC_fine ho hi
    rw [hc] at hR
    rw [hW, hR]
    have Hf : Hid ((!inB 0 1000 len) = true) := Lib.hid (by rw [hf]; rfl)
    clear ho hi hc hR hW hf
    have tk_b1 : True := trivial; have tk_b2 : True := trivial; have tk_b3 : True := trivial; have tk_q1 : True := trivial; have tk_q2 : True := trivial; have tk_l2 : True := trivial
    go_enter Tryd.func48, Tryd.ntmps48
    go_wp2_with (first | (have _t := tk_b1; refine wpList_box rfl _ _ rfl _ _ rfl hM ?_; intro b1 W' hb1 hM'; clear hM tk_b1; have hM := hM'; clear hM') | (have _t := tk_b2; refine wpList_box rfl _ _ rfl _ _ rfl hM ?_; intro b2 W' hb2 hM'; clear hM tk_b2; have hM := hM'; clear hM') | (have _t := tk_q1; (refine wpList_get rfl _ _ rfl _ _ rfl hM 1 rfl (rowTab _ _ rfl) (by omega) ?_); clear tk_q1) | (have _t := tk_q2; (refine wpList_get rfl _ _ rfl _ _ rfl hM 0 rfl (rowTab _ _ rfl) (by omega) ?_); clear tk_q2) | (have _t := tk_b3; refine wpList_slice1 rfl _ _ _ rfl _ _ rfl _ spot_under spot_info (by omega) (by omega) hM ?_; intro b3 W' hb3 hM'; clear hM tk_b3; have hM := hM'; clear hM') | (go_at_call 55; refine (checkCells_some g hg _ 1 1 2 (fun _ => (x, y)) (by omega) (by decide) _ ((hM.ats 0 _ _ _ rfl).congr (sp_sps0 _ _)) (HE.out.below hM.below) Ho.out).mono ?_; rintro e W' ⟨rfl, hb'⟩; rw [Hi.out]; have hM' := hM.call hb'; clear hM hb'; have hM := hM'; clear hM') | (go_at_call 99; (with_reducible refine (checkUpTo_any len 1000 _ (HE.out.below hM.below)).mono ?_); rintro e W' ⟨rfl, hb'⟩; rw [Hf.out]; have hM' := hM.call hb'; clear hM hb'; have hM := hM'; clear hM') | (have _t := tk_l2; refine wpList_lit2 rfl _ _ _ _ rfl (.nilIface) (errO (a 1) true) rfl rfl rfl rfl _ errs_under err_info2 hM ?_; intro bn W' hbn hM'; clear hM tk_l2; have hM := hM'; clear hM') | (go_at_call 98; refine (join_some (a 1) (es2 false true) bn 2 2 (by omega) (by decide) _ ((hM.ats 0 _ _ _ rfl).congr (fun k hk => by rcases (show k = 0 ∨ k = 1 by omega) with rfl | rfl <;> rfl))).mono ?_; rintro e W' ⟨jb, rfl, hJ, hb'⟩; have hM' := hM.call hb'; clear hM hb'; have hM := hM'; clear hM') | (go_at_call 56; (with_reducible refine (codeJ_1 jb (cntE (es2 false true) 2) (by decide) (by decide) (HE.out.below hM.below) hJ).mono ?_); rintro e W' ⟨rfl, rfl⟩))
    go_ret2
    exact ⟨ret_num rfl rfl, hM.below⟩
  have hc : askC g x y (inB 0 1000 len) = 0 := by rw [hf]; exact askC_ok ho hi
  have hr0 : ropedC g s n x y 0 = if walkB g s n x y = true then 0 else 4 := by
    have e0 : inB 0 1000 0 = true := by decide
    unfold ropedC
    rw [e0, askC_ok ho hi, if_pos rfl]
  have hw0 : windN g s n x y = if ropedC g s n x y 0 = 0 then sumW (dS x y) s (n - 1) else 0 := rfl
  rw [hc, if_pos rfl] at hR
  have hlen := inB_true hf
  have Hf : Hid ((!inB 0 1000 len) = false) := Lib.hid (by rw [hf]; rfl)
  clear ho hi hc hf
  have hsm := sumW_small x y s (n - 1)
  cases hw : walkB g s n x y
  · rw [hw] at hR hr0
    rw [hr0] at hw0
    rw [hW, hR]
    have Hr0 := Lib.hid hr0
    have Hw0 : Hid (windN g s n x y = 0) := Lib.hid hw0
    have Hr4 : Hid (ropedC g s n x y 0 = 4) := Lib.hid hr0
    clear hR hW hw hr0 hw0 hsm hlen
    have tk_b1 : True := trivial; have tk_b2 : True := trivial; have tk_b3 : True := trivial; have tk_q1 : True := trivial; have tk_q2 : True := trivial; have tk_q3 : True := trivial; have tk_q4 : True := trivial; have tk_l2 : True := trivial
    go_enter Tryd.func48, Tryd.ntmps48
    go_wp2_with (first | (have _t := tk_b1; refine wpList_box rfl _ _ rfl _ _ rfl hM ?_; intro b1 W' hb1 hM'; clear hM tk_b1; have hM := hM'; clear hM') | (have _t := tk_b2; refine wpList_box rfl _ _ rfl _ _ rfl hM ?_; intro b2 W' hb2 hM'; clear hM tk_b2; have hM := hM'; clear hM') | (have _t := tk_q1; (refine wpList_get rfl _ _ rfl _ _ rfl hM 1 rfl (rowTab _ _ rfl) (by omega) ?_); clear tk_q1) | (have _t := tk_q2; (refine wpList_get rfl _ _ rfl _ _ rfl hM 0 rfl (rowTab _ _ rfl) (by omega) ?_); clear tk_q2) | (have _t := tk_b3; refine wpList_slice1 rfl _ _ _ rfl _ _ rfl _ spot_under spot_info (by omega) (by omega) hM ?_; intro b3 W' hb3 hM'; clear hM tk_b3; have hM := hM'; clear hM') | (go_at_call 55; refine (checkCells_some g hg _ 1 1 2 (fun _ => (x, y)) (by omega) (by decide) _ ((hM.ats 0 _ _ _ rfl).congr (sp_sps0 _ _)) (HE.out.below hM.below) Ho.out).mono ?_; rintro e W' ⟨rfl, hb'⟩; rw [Hi.out]; have hM' := hM.call hb'; clear hM hb'; have hM := hM'; clear hM') | (go_at_call 99; (with_reducible refine (checkUpTo_any len 1000 _ (HE.out.below hM.below)).mono ?_); rintro e W' ⟨rfl, hb'⟩; rw [Hf.out]; have hM' := hM.call hb'; clear hM hb'; have hM := hM'; clear hM') | (have _t := tk_l2; refine wpList_lit2 rfl _ _ _ _ rfl (.nilIface) (errO (a 1) false) rfl rfl rfl rfl _ errs_under err_info2 hM ?_; intro bn W' hbn hM'; clear hM tk_l2; have hM := hM'; clear hM') | (go_at_call 98; refine (join_none (a 0) (fun _ => false) bn 2 2 (by omega) (by decide) _ ((hM.ats 0 _ _ _ rfl).congr (fun k hk => by rcases (show k = 0 ∨ k = 1 by omega) with rfl | rfl <;> rfl))).mono ?_; rintro e W' ⟨rfl, hb'⟩; have hM' := hM.call hb'; clear hM hb'; have hM := hM'; clear hM') | (have _t := tk_q3; (refine wpList_get rfl _ _ rfl _ _ rfl hM 3 rfl (rowTab _ _ rfl) (by omega) ?_); clear tk_q3) | (have _t := tk_q4; (refine wpList_get rfl _ _ rfl _ _ rfl hM 2 rfl (rowTab _ _ rfl) (by omega) ?_); clear tk_q4) | (go_at_call 46; (with_reducible refine (implWindsOf_any g hg bw n c x y s hcn hn _ (hM.ats 4 _ _ _ rfl) (HE.out.below hM.below)).mono ?_); rintro e W' ⟨rfl, hb'⟩; rw [Hw0.out, Hr4.out, numR_eq]; have hM' := hM.call hb'; clear hM hb'; have hM := hM'; clear hM'))
    go_ret2
    exact ⟨ret_num rfl rfl, hM.below⟩
  obtain ⟨hl, -, -⟩ := joins_of hw
  rw [hw] at hR hr0
  rw [hr0] at hw0
  rw [hW, hR]
  have Hw0 : Hid (windN g s n x y = sumW (dS x y) s (n - 1)) := Lib.hid hw0
  have Hr4 : Hid (ropedC g s n x y 0 = 0) := Lib.hid hr0
  clear hR hW hw hr0 hw0
  rw [if_pos rfl]
  generalize sumW (dS x y) s (n - 1) = S at hsm Hw0 ⊢
  obtain ⟨M, hMx⟩ : ∃ M, mxI S (-S) = M := ⟨_, rfl⟩
  have hMb : 0 ≤ M ∧ M ≤ 200 := by rw [← hMx]; unfold mxI; split <;> omega
  have w1 : IntKind.i64.wrap (-S) = -S := IntWalk.i64_in _ (by omega)
  have w2 : IntKind.i64.wrap (4 * M) = 4 * M := IntWalk.i64_in _ (by omega)
  have w3 : IntKind.i64.wrap (len - 4 * M) = len - 4 * M := IntWalk.i64_in _ (by omega)
  rw [hMx]
  have e1 : (if S < -S then -S else S) = M := hMx
  have Hmx : Hid (mxI 0 (len - 4 * M) = if 0 < len - 4 * M then len - 4 * M else 0) := Lib.hid rfl
  rw [Hmx.out]
  clear Hmx hMx hMb hlen hsm
  by_cases hq : 0 < len - 4 * M
  case pos =>
    rw [if_pos hq]
    have tk_b1 : True := trivial; have tk_b2 : True := trivial; have tk_b3 : True := trivial; have tk_q1 : True := trivial; have tk_q2 : True := trivial; have tk_q3 : True := trivial; have tk_q4 : True := trivial; have tk_l2 : True := trivial
    go_enter Tryd.func48, Tryd.ntmps48
    go_wp2_with (first | (have _t := tk_b1; refine wpList_box rfl _ _ rfl _ _ rfl hM ?_; intro b1 W' hb1 hM'; clear hM tk_b1; have hM := hM'; clear hM') | (have _t := tk_b2; refine wpList_box rfl _ _ rfl _ _ rfl hM ?_; intro b2 W' hb2 hM'; clear hM tk_b2; have hM := hM'; clear hM') | (have _t := tk_q1; (refine wpList_get rfl _ _ rfl _ _ rfl hM 1 rfl (rowTab _ _ rfl) (by omega) ?_); clear tk_q1) | (have _t := tk_q2; (refine wpList_get rfl _ _ rfl _ _ rfl hM 0 rfl (rowTab _ _ rfl) (by omega) ?_); clear tk_q2) | (have _t := tk_b3; refine wpList_slice1 rfl _ _ _ rfl _ _ rfl _ spot_under spot_info (by omega) (by omega) hM ?_; intro b3 W' hb3 hM'; clear hM tk_b3; have hM := hM'; clear hM') | (go_at_call 55; refine (checkCells_some g hg _ 1 1 2 (fun _ => (x, y)) (by omega) (by decide) _ ((hM.ats 0 _ _ _ rfl).congr (sp_sps0 _ _)) (HE.out.below hM.below) Ho.out).mono ?_; rintro e W' ⟨rfl, hb'⟩; rw [Hi.out]; have hM' := hM.call hb'; clear hM hb'; have hM := hM'; clear hM') | (go_at_call 99; (with_reducible refine (checkUpTo_any len 1000 _ (HE.out.below hM.below)).mono ?_); rintro e W' ⟨rfl, hb'⟩; rw [Hf.out]; have hM' := hM.call hb'; clear hM hb'; have hM := hM'; clear hM') | (have _t := tk_l2; refine wpList_lit2 rfl _ _ _ _ rfl (.nilIface) (errO (a 1) false) rfl rfl rfl rfl _ errs_under err_info2 hM ?_; intro bn W' hbn hM'; clear hM tk_l2; have hM := hM'; clear hM') | (go_at_call 98; refine (join_none (a 0) (fun _ => false) bn 2 2 (by omega) (by decide) _ ((hM.ats 0 _ _ _ rfl).congr (fun k hk => by rcases (show k = 0 ∨ k = 1 by omega) with rfl | rfl <;> rfl))).mono ?_; rintro e W' ⟨rfl, hb'⟩; have hM' := hM.call hb'; clear hM hb'; have hM := hM'; clear hM') | (have _t := tk_q3; (refine wpList_get rfl _ _ rfl _ _ rfl hM 3 rfl (rowTab _ _ rfl) (by omega) ?_); clear tk_q3) | (have _t := tk_q4; (refine wpList_get rfl _ _ rfl _ _ rfl hM 2 rfl (rowTab _ _ rfl) (by omega) ?_); clear tk_q4) | (go_at_call 46; (with_reducible refine (implWindsOf_any g hg bw n c x y s hcn hn _ (hM.ats 4 _ _ _ rfl) (HE.out.below hM.below)).mono ?_); rintro e W' ⟨rfl, hb'⟩; rw [Hw0.out, Hr4.out, numR_eq]; have hM' := hM.call hb'; clear hM hb'; have hM := hM'; clear hM'))
    go_ret2
    exact ⟨ret_num rfl rfl, hM.below⟩
  case neg =>
    rw [if_neg hq]
    have tk_b1 : True := trivial; have tk_b2 : True := trivial; have tk_b3 : True := trivial; have tk_q1 : True := trivial; have tk_q2 : True := trivial; have tk_q3 : True := trivial; have tk_q4 : True := trivial; have tk_l2 : True := trivial
    go_enter Tryd.func48, Tryd.ntmps48
    go_wp2_with (first | (have _t := tk_b1; refine wpList_box rfl _ _ rfl _ _ rfl hM ?_; intro b1 W' hb1 hM'; clear hM tk_b1; have hM := hM'; clear hM') | (have _t := tk_b2; refine wpList_box rfl _ _ rfl _ _ rfl hM ?_; intro b2 W' hb2 hM'; clear hM tk_b2; have hM := hM'; clear hM') | (have _t := tk_q1; (refine wpList_get rfl _ _ rfl _ _ rfl hM 1 rfl (rowTab _ _ rfl) (by omega) ?_); clear tk_q1) | (have _t := tk_q2; (refine wpList_get rfl _ _ rfl _ _ rfl hM 0 rfl (rowTab _ _ rfl) (by omega) ?_); clear tk_q2) | (have _t := tk_b3; refine wpList_slice1 rfl _ _ _ rfl _ _ rfl _ spot_under spot_info (by omega) (by omega) hM ?_; intro b3 W' hb3 hM'; clear hM tk_b3; have hM := hM'; clear hM') | (go_at_call 55; refine (checkCells_some g hg _ 1 1 2 (fun _ => (x, y)) (by omega) (by decide) _ ((hM.ats 0 _ _ _ rfl).congr (sp_sps0 _ _)) (HE.out.below hM.below) Ho.out).mono ?_; rintro e W' ⟨rfl, hb'⟩; rw [Hi.out]; have hM' := hM.call hb'; clear hM hb'; have hM := hM'; clear hM') | (go_at_call 99; (with_reducible refine (checkUpTo_any len 1000 _ (HE.out.below hM.below)).mono ?_); rintro e W' ⟨rfl, hb'⟩; rw [Hf.out]; have hM' := hM.call hb'; clear hM hb'; have hM := hM'; clear hM') | (have _t := tk_l2; refine wpList_lit2 rfl _ _ _ _ rfl (.nilIface) (errO (a 1) false) rfl rfl rfl rfl _ errs_under err_info2 hM ?_; intro bn W' hbn hM'; clear hM tk_l2; have hM := hM'; clear hM') | (go_at_call 98; refine (join_none (a 0) (fun _ => false) bn 2 2 (by omega) (by decide) _ ((hM.ats 0 _ _ _ rfl).congr (fun k hk => by rcases (show k = 0 ∨ k = 1 by omega) with rfl | rfl <;> rfl))).mono ?_; rintro e W' ⟨rfl, hb'⟩; have hM' := hM.call hb'; clear hM hb'; have hM := hM'; clear hM') | (have _t := tk_q3; (refine wpList_get rfl _ _ rfl _ _ rfl hM 3 rfl (rowTab _ _ rfl) (by omega) ?_); clear tk_q3) | (have _t := tk_q4; (refine wpList_get rfl _ _ rfl _ _ rfl hM 2 rfl (rowTab _ _ rfl) (by omega) ?_); clear tk_q4) | (go_at_call 46; (with_reducible refine (implWindsOf_any g hg bw n c x y s hcn hn _ (hM.ats 4 _ _ _ rfl) (HE.out.below hM.below)).mono ?_); rintro e W' ⟨rfl, hb'⟩; rw [Hw0.out, Hr4.out, numR_eq]; have hM' := hM.call hb'; clear hM hb'; have hM := hM'; clear hM'))
    go_ret2
    exact ⟨ret_num rfl rfl, hM.below⟩
end Go.Proofs.YtbmaljhnldepoaaDoor

/-
  laws.FnExactRopeLeft returns true.
-/
namespace Go.Proofs.YtbmaljhnldepoaaDoor
open Go Go.RowKit Go.BigFrame

set_option maxRecDepth 100000 in
set_option maxHeartbeats 4000000 in
theorem lawRopeLeft_any {a : Nat → Addr} (g : Nat → Int) (hg : Fits g) (x y : Int) (hx : -128 ≤ x ∧ x ≤ 127) (hy : -128 ≤ y ∧ y ≤ 127) (v : Value) (n : Nat) (s : Nat → Int × Int) (hn : n ≤ maxLen) (hF : ∀ i, i < n → FitsS (s i)) (len : Int) (w : World) (hE : Errs a w) (h : SpotArg w v n s) :
    Calls Tryd.prog 13 #[.agg (arr 122 (pas g)), .agg (arr 2 (sp x y)), v, .int .i64 len] w fun e w' => e = .returned (.bool true) ∧ Below w.heap.size w w' := by
  have hM := Mem.nil w
  have HG := Lib.hid h
  have Hn := Lib.hid hn
  have HF := Lib.hid hF
  have HE := Lib.hid hE
  clear h hn hF hE
  by_cases h1 : 1048576 < n
  · have tk_c1 : True := trivial; have tk_c2 : True := trivial
    go_enter Tryd.func13, Tryd.ntmps13
    go_wp2_with (first | (go_at_call 34; (with_reducible refine (szSpotS_no v n s 1048576 Hn.out (by omega) (by omega) (by omega) _ (HG.out.below hM.below)).mono ?_); rintro e W' ⟨rfl, hb'⟩; have hM' := hM.call hb'; clear hM hb'; have hM := hM'; clear hM') | (have _t := tk_c1; refine wpList_box rfl _ _ rfl _ _ rfl hM ?_; intro c1 W' hc1 hM'; clear hM tk_c1; have hM := hM'; clear hM') | (have _t := tk_c2; refine wpList_box rfl _ _ rfl _ _ rfl hM ?_; intro c2 W' hc2 hM'; clear hM tk_c2; have hM := hM'; clear hM'))
    go_ret
    exact ⟨rfl, hM.below⟩
  have d0 : decide ((1048576 : Int) - n < 0) = false := decide_eq_false (by omega)
  have d0' : decide ((1048576 : Int) < n) = false := decide_eq_false (by omega)
  have hn1 : n ≤ 1048576 := by omega
  have Hz := Lib.hid (numR_eq (ropeN g s n x y len) (ropedC g s n x y len))
  have tk_c1 : True := trivial; have tk_c2 : True := trivial
  go_enter Tryd.func13, Tryd.ntmps13
  go_wp2_with (first | (go_at_call 34; (with_reducible refine (szSpotS_yes v n s 1048576 (by omega) (by omega) _ (HG.out.below hM.below)).mono ?_); rintro e W' ⟨rfl, hb'⟩; have hM' := hM.call hb'; clear hM hb'; have hM := hM'; clear hM') | (have _t := tk_c1; refine wpList_box rfl _ _ rfl _ _ rfl hM ?_; intro c1 W' hc1 hM'; clear hM tk_c1; have hM := hM'; clear hM') | (have _t := tk_c2; refine wpList_box rfl _ _ rfl _ _ rfl hM ?_; intro c2 W' hc2 hM'; clear hM tk_c2; have hM := hM'; clear hM'))
  ((try simp only [Act.put, List.setIfInBounds_toArray, List.set_cons_succ, List.set_cons_zero]); refine region_readsG [0, 1, 2, 3, 4, 6] [0, 1, 2, 3, 4, 6, 8, 9, 10, 11, 12] #[true, true, true, true, true, false, true, false, false, false, false, false, false] 7 (by decide) (by kernel_rfl) (by kernel_rfl) (by kernel_rfl) hM ?_; clear hM; (repeat (refine qs_plain rfl rfl ?_; first | (refine b_get _ _ rfl _ _ rfl 1 rfl (rowTab _ _ rfl) (by omega) ?_; (simp only [Act.put, List.setIfInBounds_toArray, List.set_cons_succ, List.set_cons_zero])) | (refine b_get _ _ rfl _ _ rfl 0 rfl (rowTab _ _ rfl) (by omega) ?_; (simp only [Act.put, List.setIfInBounds_toArray, List.set_cons_succ, List.set_cons_zero])) | (refine b_call ?_; apply Exists.intro; apply Exists.intro; apply Exists.intro; refine ⟨fun W => ?_, fun W hM => ?_, ?_⟩; (go_simp; exact ⟨rfl, rfl⟩); (with_reducible exact toPasture_pas g W); (simp only [Act.put, List.setIfInBounds_toArray, List.set_cons_succ, List.set_cons_zero])) | (refine b_call ?_; apply Exists.intro; apply Exists.intro; apply Exists.intro; refine ⟨fun W => ?_, fun W hM => ?_, ?_⟩; (go_simp; exact ⟨rfl, rfl⟩); (with_reducible exact toSpot_sp x y W); (simp only [Act.put, List.setIfInBounds_toArray, List.set_cons_succ, List.set_cons_zero])) | (refine b_val ?_; apply Exists.intro; refine ⟨fun W => ?_, ?_⟩; (go_simp; rfl); (simp only [Act.put, List.setIfInBounds_toArray, List.set_cons_succ, List.set_cons_zero])))); (with_reducible refine qs_nil ?_))
  (refine mix_one (i := 5) (by kernel_rfl) rfl (by kernel_rfl) rfl ?_)
  (refine step_call_new (n := n * 2) (f := sps s) ((fun b => .slice (some ⟨b, 0, none⟩) n n)) ?_; apply Exists.intro; apply Exists.intro; refine ⟨fun W => ?_, fun W hM => ?_, ?_⟩; (go_simp; exact ⟨rfl, rfl⟩); (exact toSpotS_any v n s hn1 W (HG.out.below hM.below)); (intro b1 hb1); (simp only [Act.put, List.setIfInBounds_toArray, List.set_cons_succ, List.set_cons_zero]))
  (refine mix_one (i := 7) (by kernel_rfl) rfl (by kernel_rfl) rfl ?_)
  (refine step_call ?_; apply Exists.intro; apply Exists.intro; apply Exists.intro; refine ⟨fun W => ?_, fun W hM => ?_, ?_⟩; (go_simp; exact ⟨rfl, rfl⟩); (exact specRopeLeft_any g hg b1 n n x y hx hy s hn1 HF.out len W (hM.ats 0 _ _ _ rfl)); (simp only [Hz.out]); (simp only [Act.put, List.setIfInBounds_toArray, List.set_cons_succ, List.set_cons_zero]))
  refine mixQ_reads (s1 := #[true, true, true, true, true, true, true, true, true, true, true, true, true]) (g := 0) (by kernel_rfl) [8, 9, 10, 11, 12] _ _ (by decide) (by kernel_rfl) ?_
  (repeat (refine qs_plain rfl rfl ?_; first | (refine b_val ?_; apply Exists.intro; refine ⟨fun W => ?_, ?_⟩; (go_simp; rfl); (simp only [Act.put, List.setIfInBounds_toArray, List.set_cons_succ, List.set_cons_zero]))))
  (with_reducible refine qs_nil ?_)
  (refine mix_end (by kernel_rfl) ?_; intro W' hM)
  simp only [List.cons_append, List.nil_append] at hM
  have tk_e1 : True := trivial
  go_wp2_with (first | (have _t := tk_e1; go_at_call 36; (with_reducible refine (toSpotS_any v n s hn1 _ (HG.out.below hM.below)).mono ?_); rintro e W' ⟨e1, rfl, he1, hA', hcb⟩; have hM' := hM.fresh' hcb hA' he1; simp only [List.cons_append, List.nil_append] at hM'; clear hM hcb hA' tk_e1; have hM := hM'; clear hM'))
  ((try simp only [Act.put, List.setIfInBounds_toArray, List.set_cons_succ, List.set_cons_zero]); refine wp_region_mem (by kernel_rfl) (by kernel_rfl) hM ?_; clear hM; (repeat (first | go_big_quiet_skip | (go_big_quiet_want; first | (refine quiet_get _ _ rfl _ _ rfl 2 rfl (rowTab _ _ rfl) (by omega) ?_; (simp only [Act.put, List.setIfInBounds_toArray, List.set_cons_succ, List.set_cons_zero]); go_big_quiet_on) | (refine quiet_get _ _ rfl _ _ rfl 1 rfl (rowTab _ _ rfl) (by omega) ?_; (simp only [Act.put, List.setIfInBounds_toArray, List.set_cons_succ, List.set_cons_zero]); go_big_quiet_on) | (refine quiet_call ?_; apply Exists.intro; apply Exists.intro; apply Exists.intro; refine ⟨fun W => ?_, fun W hM => ?_, ?_⟩; (go_simp; exact ⟨rfl, rfl⟩); (with_reducible exact toPasture_pas g W); (simp only [Act.put, List.setIfInBounds_toArray, List.set_cons_succ, List.set_cons_zero]); go_big_quiet_on) | (refine quiet_call ?_; apply Exists.intro; apply Exists.intro; apply Exists.intro; refine ⟨fun W => ?_, fun W hM => ?_, ?_⟩; (go_simp; exact ⟨rfl, rfl⟩); (with_reducible exact toSpot_sp x y W); (simp only [Act.put, List.setIfInBounds_toArray, List.set_cons_succ, List.set_cons_zero]); go_big_quiet_on) | (refine quiet_call ?_; apply Exists.intro; apply Exists.intro; apply Exists.intro; refine ⟨fun W => ?_, fun W hM => ?_, ?_⟩; (go_simp; exact ⟨rfl, rfl⟩); (exact implRopeLeft_any g hg e1 n n x y s (Nat.le_refl _) hn1 len W (hM.ats 3 _ _ _ rfl) (HE.out.below hM.below)); (simp only [Hz.out]); (simp only [Act.put, List.setIfInBounds_toArray, List.set_cons_succ, List.set_cons_zero]); go_big_quiet_on) | (refine quiet_val ?_; apply Exists.intro; refine ⟨fun W => ?_, ?_⟩; (go_simp; rfl); (simp only [Act.put, List.setIfInBounds_toArray, List.set_cons_succ, List.set_cons_zero]); go_big_quiet_on)))); (with_reducible refine wpQuiet_nil ?_); intro W' hM)
  have tk_d1 : True := trivial
  go_wp2_with (first | (have _t := tk_d1; go_at_call 36; (with_reducible refine (toSpotS_any v n s hn1 _ (HG.out.below hM.below)).mono ?_); rintro e W' ⟨d1, rfl, hd1, hA', hcb⟩; have hM' := hM.fresh' hcb hA' hd1; simp only [List.cons_append, List.nil_append] at hM'; clear hM hcb hA' tk_d1; have hM := hM'; clear hM') | (go_at_call 19; (with_reducible refine (eqSpotS_same e1 d1 n n n s Hn.out _ (hM.ats 3 _ _ _ rfl) (hM.ats 4 _ _ _ rfl) (hM.apart 3 4 _ _ rfl rfl (by omega))).mono ?_); rintro e W' ⟨rfl, hb'⟩; have hM' := hM.call hb'; clear hM hb'; have hM := hM'; clear hM'))
  go_ret
  exact ⟨rfl, hM.below⟩
end Go.Proofs.YtbmaljhnldepoaaDoor

