/-
  errors.Is and impl.codeOf of joined errors, by contracts.
-/
import Derived.Test.YtbbododeglkghaaDoorJoin
namespace Go.Proofs.YtbbododeglkghaaDoor
open Go Go.RowKit Go.BigFrame Go.Extern.Stop Go.Stop Go.Extern

theorem hasUnwraps (v : Value) (xT : TypeId) (w : World) : (Instr.typeAssert (.iface 101 v) xT 133 true).run Tryd.prog w = .ok (.tuple #[.iface 101 v, .bool true]) w := run_typeAssert_hasB Tryd.underlying133 (by kernel_rfl) v xT w
theorem noIsJ (v : Value) (xT : TypeId) (w : World) : (Instr.typeAssert (.iface 101 v) xT 128 true).run Tryd.prog w = .ok (.tuple #[.nilIface, .bool false]) w := run_typeAssert_lacksB Tryd.underlying128 (by kernel_rfl) (by kernel_rfl) v xT w
theorem noUnwrapJ (v : Value) (xT : TypeId) (w : World) : (Instr.typeAssert (.iface 101 v) xT 131 true).run Tryd.prog w = .ok (.tuple #[.nilIface, .bool false]) w := run_typeAssert_lacksB Tryd.underlying131 (by kernel_rfl) (by kernel_rfl) v xT w
theorem methodUnwraps (v : Value) (w : World) : (Go.method 274 101 v "Unwrap").run Tryd.prog w = .ok (107, v) w := by kernel_rfl
theorem eql_types (b : Nat) (y : Addr) (w : World) : (binOp .eql 67 (joinV b) (errV y)).run Tryd.prog w = .ok (.bool false) w := run_eql_iface_types _ _ _ _ Tryd.underlying67 (by decide) w

set_option maxRecDepth 100000 in
/-- errors.is of one error and itself. -/
theorem is1_same (x : Addr) (w : World) :
    Calls Tryd.prog 81 #[errV x, errV x, .bool true] w fun e w' => e = .returned (.bool true) ∧ w' = w := by
  obtain ⟨i, hi, hcmp⟩ := Option.map_eq_some_iff.1 isComp
  obtain ⟨j, hj, hjs⟩ := Option.map_eq_some_iff.1 isSize
  have heq := run_eql_iface_ptr_same (P := Tryd.prog) w x Tryd.underlying67 Tryd.underlying136 hi hcmp hj
  unfold errV
  go_enter Tryd.func81, Tryd.ntmps81
  go_wp2
  refine wp_loop_rounds 1 ?_
  rw [rounds_succ]
  go_wp2
  go_ret
  exact ⟨rfl, rfl⟩
set_option maxRecDepth 100000 in
/-- errors.is of two different errors. -/
theorem is1_other (a b : Addr) (ca cb : Array Value) (ta tb : TypeId) (w : World) (hne : a ≠ b) (ha : w.heap[a.block]? = some (.cells ca ta (0, 0))) (hb : w.heap[b.block]? = some (.cells cb tb (0, 0))) :
    Calls Tryd.prog 81 #[errV a, errV b, .bool true] w fun e w' => e = .returned (.bool false) ∧ w' = w := by
  obtain ⟨i, hi, hcmp⟩ := Option.map_eq_some_iff.1 isComp
  obtain ⟨j, hj, hjs⟩ := Option.map_eq_some_iff.1 isSize
  have nE := noIsE
  have uE := noUnwrapE
  have vE := noUnwrapsE
  have heq := run_eql_iface_ptr_other (P := Tryd.prog) w Tryd.underlying67 Tryd.underlying136 hi hcmp hj (by rw [hjs]; decide) hne ha hb
  unfold errV
  go_enter Tryd.func81, Tryd.ntmps81
  go_wp2
  refine wp_loop_rounds 1 ?_
  rw [rounds_succ]
  go_wp2
  go_ret
  exact ⟨rfl, rfl⟩
theorem is1_no {a : Nat → Addr} {w : World} (h : Errs a w) (i j : Nat) (hi : i < 7) (hj : j < 7) (e : i ≠ j) :
    Calls Tryd.prog 81 #[errV (a i), errV (a j), .bool true] w fun e w' => e = .returned (.bool false) ∧ w = w' := by
  obtain ⟨ca, ta, ha⟩ := h.cells i hi
  obtain ⟨cb, tb, hb⟩ := h.cells j hj
  exact (is1_other _ _ ca cb ta tb w (h.apart i j hi hj e) ha hb).mono fun _ _ h => ⟨h.1, h.2.symm⟩

theorem unwraps_any (b : Nat) (v : Value) (w : World) (hA : At w b 1 fun _ => v) :
    Calls Tryd.prog 107 #[.pointer (some ⟨b, 0, none⟩)] w fun e w' => e = .returned v ∧ w' = w := by
  have hc : w.cell? ⟨b, 0, none⟩ = some v := hA.cell (by omega)
  go_enter Tryd.func107, Tryd.ntmps107
  go_wp2
  go_ret
  exact ⟨rfl, rfl⟩

set_option maxRecDepth 100000 in
set_option maxHeartbeats 2000000 in
/-- errors.is of a joined error and the one that it holds. -/
theorem isJ_yes (b c : Nat) (x : Addr) (hc : 0 < c) (w : World) (hJ : JoinAt w b x c) :
    Calls Tryd.prog 81 #[joinV b, errV x, .bool true] w fun e w' => e = .returned (.bool true) ∧ w = w' := by
  obtain ⟨eb, cc, F, h1, h2, hne, hle, hF⟩ := hJ
  have nE := noIsJ
  have uE := noUnwrapJ
  have vE := hasUnwraps
  have mU := methodUnwraps
  have heq := eql_types b x
  have c0 : w.cell? ⟨eb, 0, none⟩ = some (errV x) := by rw [h2.cell (by omega), hF 0 hc]
  have lc : (0 : Int) < c := by omega
  have H1 := Lib.hid h1
  clear h1 h2 hF
  unfold joinV at heq ⊢
  go_enter Tryd.func81, Tryd.ntmps81
  go_wp2
  refine wp_loop_rounds 1 ?_
  rw [rounds_succ]
  go_wp2_with (first | (go_at_call 107; refine (unwraps_any b _ _ H1.out).mono ?_; rintro e W' ⟨rfl, rfl⟩))
  refine wp_loop_rounds 1 ?_
  rw [rounds_succ]
  go_wp2_with (first | (go_at_call 81; refine (is1_same x _).mono ?_; rintro e W' ⟨rfl, rfl⟩))
  go_ret
  exact ⟨rfl, rfl⟩

set_option maxRecDepth 100000 in
set_option maxHeartbeats 2000000 in
/-- errors.is of a joined error and another one than it holds. -/
theorem isJ_no {a : Nat → Addr} (b c : Nat) (i j : Nat) (hi : i < 7) (hj : j < 7) (hij : i ≠ j) (hcm : c ≤ 1000) (w : World) (hJ : JoinAt w b (a i) c) (hE : Errs a w) :
    Calls Tryd.prog 81 #[joinV b, errV (a j), .bool true] w fun e w' => e = .returned (.bool false) ∧ w = w' := by
  obtain ⟨eb, cc, F, h1, h2, hne, hle, hF⟩ := hJ
  have nE := noIsJ
  have uE := noUnwrapJ
  have vE := hasUnwraps
  have mU := methodUnwraps
  have heq := eql_types b (a j)
  have HF : Hid (∀ k, k < c → w.cell? ⟨eb, k, none⟩ = some (errV (a i))) := Lib.hid (fun k hk => by rw [h2.cell (by omega), hF k hk])
  have H1 := Lib.hid h1
  have HE := Lib.hid hE
  clear h1 h2 hF hE
  unfold joinV at heq ⊢
  go_enter Tryd.func81, Tryd.ntmps81
  go_wp2
  refine wp_loop_rounds 1 ?_
  rw [rounds_succ]
  go_wp2_with (first | (go_at_call 107; refine (unwraps_any b _ _ H1.out).mono ?_; rintro e W' ⟨rfl, rfl⟩))
  go_loopw [45] (fun n wr => ∃ k : Nat, k ≤ c ∧ n = .int .i64 k ∧ wr = W') (fun n _ => c - (intOf n).toNat)
  case atStart => exact ⟨0, by omega, rfl, rfl⟩
  case round =>
    obtain ⟨k, hk, rfl, rfl⟩ := hrel
    by_cases hlt : k < c
    · have lk : (k : Int) < c := by omega
      have ck := HF.out k hlt
      go_wp2_with (first | (go_at_call 81; refine (is1_no HE.out i j hi hj hij).mono ?_; rintro e W' ⟨rfl, rfl⟩))
      go_roundw
      case rel => exact ⟨k + 1, by omega, by go_num, by first | rfl | trivial⟩
      case measure => simp [intOf]; omega
    · obtain rfl : k = c := by omega
      go_wp2
      go_ret
      exact ⟨rfl, rfl⟩

set_option maxRecDepth 100000 in
theorem IsJ_yes {a : Nat → Addr} (b c : Nat) (i : Nat) (hi : i < 7) (hc : 0 < c) (w : World) (hJ : JoinAt w b (a i) c) :
    Calls Tryd.prog 72 #[joinV b, errV (a i)] w fun e w' => e = .returned (.bool true) ∧ w = w' := by
  have h8 := @run_callFunc_extern Tryd.prog 80 _ Extern.ReflectliteType.typeOf Tryd.func80 (by kernel_rfl) (by kernel_rfl) (by kernel_rfl) (by kernel_rfl)
  have tT := isTypeOf
  have cT := isComparable
  have mR := isMethodComparable
  have hY := isJ_yes b c (a i) hc w hJ
  unfold joinV errV at hY ⊢
  go_enter Tryd.func72, Tryd.ntmps72
  go_wp2_with (first | (go_at_call 81; refine hY.mono ?_; rintro e W' ⟨rfl, rfl⟩))
  go_ret
  exact ⟨rfl, rfl⟩
set_option maxRecDepth 100000 in
theorem IsJ_no {a : Nat → Addr} (b c : Nat) (i j : Nat) (hi : i < 7) (hj : j < 7) (hij : i ≠ j) (hcm : c ≤ 1000) (w : World) (hJ : JoinAt w b (a i) c) (hE : Errs a w) :
    Calls Tryd.prog 72 #[joinV b, errV (a j)] w fun e w' => e = .returned (.bool false) ∧ w = w' := by
  have h8 := @run_callFunc_extern Tryd.prog 80 _ Extern.ReflectliteType.typeOf Tryd.func80 (by kernel_rfl) (by kernel_rfl) (by kernel_rfl) (by kernel_rfl)
  have tT := isTypeOf
  have cT := isComparable
  have mR := isMethodComparable
  have hY := isJ_no b c i j hi hj hij hcm w hJ hE
  unfold joinV errV at hY ⊢
  go_enter Tryd.func72, Tryd.ntmps72
  go_wp2_with (first | (go_at_call 81; refine hY.mono ?_; rintro e W' ⟨rfl, rfl⟩))
  go_ret
  exact ⟨rfl, rfl⟩

set_option maxRecDepth 100000 in
set_option maxHeartbeats 4000000 in
/-- The code of joined errors of which each is the first one. -/
theorem codeJ_0 {a : Nat → Addr} {w : World} (b c : Nat) (hc : 0 < c) (h : Errs a w) (hJ : JoinAt w b (a 0) c) :
    Calls Tryd.prog 50 #[joinV b] w fun e w' => e = .returned (.int .i64 1) ∧ w = w' := by
  have v0 : w.cell? ⟨0, 0, none⟩ = some (errV (a 0)) := h.vars 0 (by omega)
  have HJ := Lib.hid hJ
  clear h hJ
  go_enter Tryd.func50, Tryd.ntmps50
  go_wp2_with (first | (go_at_call 72; (with_reducible refine (IsJ_yes b c 0 (by omega) hc _ HJ.out).mono ?_); rintro e W' ⟨rfl, rfl⟩))
  go_ret
  exact ⟨rfl, rfl⟩
set_option maxRecDepth 100000 in
set_option maxHeartbeats 4000000 in
/-- The code of joined errors of which each is the second one. -/
theorem codeJ_1 {a : Nat → Addr} {w : World} (b c : Nat) (hc : 0 < c) (hcm : c ≤ 1000) (h : Errs a w) (hJ : JoinAt w b (a 1) c) :
    Calls Tryd.prog 50 #[joinV b] w fun e w' => e = .returned (.int .i64 2) ∧ w = w' := by
  have v0 : w.cell? ⟨0, 0, none⟩ = some (errV (a 0)) := h.vars 0 (by omega)
  have v1 : w.cell? ⟨1, 0, none⟩ = some (errV (a 1)) := h.vars 1 (by omega)
  have HJ := Lib.hid hJ
  have H := Lib.hid h
  clear h hJ
  go_enter Tryd.func50, Tryd.ntmps50
  go_wp2_with (first | (go_at_call 72; (with_reducible refine (IsJ_no b c 1 0 (by omega) (by omega) (by omega) hcm _ HJ.out H.out).mono ?_); rintro e W' ⟨rfl, rfl⟩) | (go_at_call 72; (with_reducible refine (IsJ_yes b c 1 (by omega) hc _ HJ.out).mono ?_); rintro e W' ⟨rfl, rfl⟩))
  go_ret
  exact ⟨rfl, rfl⟩
@[go_sem] theorem guard_join (x : Operand) (b : Nat) (W : World) : (eqGuard .neq 67 x (.const .nilIface) (joinV b) .nilIface).run Tryd.prog W = .ok () W := by
  unfold joinV; go_simp
@[go_sem] theorem neq_join (b : Nat) (W : World) : (binOp .neq 67 (joinV b) .nilIface).run Tryd.prog W = .ok (.bool true) W := by
  unfold joinV; go_simp
end Go.Proofs.YtbbododeglkghaaDoor
