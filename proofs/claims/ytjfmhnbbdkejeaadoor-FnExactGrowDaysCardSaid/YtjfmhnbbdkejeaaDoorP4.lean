/-
  Several texts in one: IsJoin, ErrO, DaysTo, Round, Cells, OkS.
-/
import Derived.Test.YtjfmhnbbdkejeaaDoorP3
import Derived.Test.YtjfmhnbbdkejeaaDoorP2
import Derived.RangeFuncNested
import Derived.RangeFuncBound
import Derived.RangeFuncCalls
import Derived.RangeFuncLeaves
import Derived.Shelf.Abstract
import Derived.Shelf.RegionOpen
import Derived.WalkKit
import Derived.OwnWalkIn
import Derived.TacticsInMore
import Derived.LoopNIn
import Derived.LoopIn
import Derived.StillTail
import Derived.Test.YtjfmhnbbdkejeaaDoorP1
import Derived.Lib.Hide
/-
  errors.Is and impl.codeOf of joined errors, by contracts.
-/
namespace Go.Proofs.YtjfmhnbbdkejeaaDoor
open Go Go.RowKit Go.BigFrame Go.Extern.Stop Go.Stop Go.Extern

theorem hasUnwraps (v : Value) (xT : TypeId) (w : World) : (Instr.typeAssert (.iface 150 v) xT 192 true).run Tryd.prog w = .ok (.tuple #[.iface 150 v, .bool true]) w := run_typeAssert_hasB Tryd.underlying192 (by kernel_rfl) v xT w
theorem noIsJ (v : Value) (xT : TypeId) (w : World) : (Instr.typeAssert (.iface 150 v) xT 187 true).run Tryd.prog w = .ok (.tuple #[.nilIface, .bool false]) w := run_typeAssert_lacksB Tryd.underlying187 (by kernel_rfl) (by kernel_rfl) v xT w
theorem noUnwrapJ (v : Value) (xT : TypeId) (w : World) : (Instr.typeAssert (.iface 150 v) xT 190 true).run Tryd.prog w = .ok (.tuple #[.nilIface, .bool false]) w := run_typeAssert_lacksB Tryd.underlying190 (by kernel_rfl) (by kernel_rfl) v xT w
theorem methodUnwraps (v : Value) (w : World) : (Go.method 337 150 v "Unwrap").run Tryd.prog w = .ok (157, v) w := by kernel_rfl
theorem eql_types (b : Nat) (y : Addr) (w : World) : (binOp .eql 86 (joinV b) (errV y)).run Tryd.prog w = .ok (.bool false) w := run_eql_iface_types _ _ _ _ Tryd.underlying86 (by decide) w

set_option maxRecDepth 100000 in
/-- errors.is of one error and itself. -/
theorem is1_same (x : Addr) (w : World) :
    Calls Tryd.prog 118 #[errV x, errV x, .bool true] w fun e w' => e = .returned (.bool true) ∧ w' = w := by
  obtain ⟨i, hi, hcmp⟩ := Option.map_eq_some_iff.1 isComp
  obtain ⟨j, hj, hjs⟩ := Option.map_eq_some_iff.1 isSize
  have heq := run_eql_iface_ptr_same (P := Tryd.prog) w x Tryd.underlying86 Tryd.underlying198 hi hcmp hj
  unfold errV
  go_enter Tryd.func118, Tryd.ntmps118
  go_wp2
  refine wp_loop_rounds 1 ?_
  rw [rounds_succ]
  go_wp2
  go_ret
  exact ⟨rfl, rfl⟩
set_option maxRecDepth 100000 in
/-- errors.is of two different errors. -/
theorem is1_other (a b : Addr) (ca cb : Array Value) (ta tb : TypeId) (w : World) (hne : a ≠ b) (ha : w.heap[a.block]? = some (.cells ca ta (0, 0))) (hb : w.heap[b.block]? = some (.cells cb tb (0, 0))) :
    Calls Tryd.prog 118 #[errV a, errV b, .bool true] w fun e w' => e = .returned (.bool false) ∧ w' = w := by
  obtain ⟨i, hi, hcmp⟩ := Option.map_eq_some_iff.1 isComp
  obtain ⟨j, hj, hjs⟩ := Option.map_eq_some_iff.1 isSize
  have nE := noIsE
  have uE := noUnwrapE
  have vE := noUnwrapsE
  have heq := run_eql_iface_ptr_other (P := Tryd.prog) w Tryd.underlying86 Tryd.underlying198 hi hcmp hj (by rw [hjs]; decide) hne ha hb
  unfold errV
  go_enter Tryd.func118, Tryd.ntmps118
  go_wp2
  refine wp_loop_rounds 1 ?_
  rw [rounds_succ]
  go_wp2
  go_ret
  exact ⟨rfl, rfl⟩
theorem is1_no {a : Nat → Addr} {w : World} (h : Errs a w) (i j : Nat) (hi : i < 7) (hj : j < 7) (e : i ≠ j) :
    Calls Tryd.prog 118 #[errV (a i), errV (a j), .bool true] w fun e w' => e = .returned (.bool false) ∧ w = w' := by
  obtain ⟨ca, ta, ha⟩ := h.cells i hi
  obtain ⟨cb, tb, hb⟩ := h.cells j hj
  exact (is1_other _ _ ca cb ta tb w (h.apart i j hi hj e) ha hb).mono fun _ _ h => ⟨h.1, h.2.symm⟩

theorem unwraps_any (b : Nat) (v : Value) (w : World) (hA : At w b 1 fun _ => v) :
    Calls Tryd.prog 157 #[.pointer (some ⟨b, 0, none⟩)] w fun e w' => e = .returned v ∧ w' = w := by
  have hc : w.cell? ⟨b, 0, none⟩ = some v := hA.cell (by omega)
  go_enter Tryd.func157, Tryd.ntmps157
  go_wp2
  go_ret
  exact ⟨rfl, rfl⟩

set_option maxRecDepth 100000 in
set_option maxHeartbeats 2000000 in
/-- errors.is of a joined error and the one that it holds. -/
theorem isJ_yes (b c : Nat) (x : Addr) (hc : 0 < c) (w : World) (hJ : JoinAt w b x c) :
    Calls Tryd.prog 118 #[joinV b, errV x, .bool true] w fun e w' => e = .returned (.bool true) ∧ w = w' := by
  obtain ⟨eb, cc, F, h1, h2, hne, hle, hF⟩ := hJ
  have nE := noIsJ
  have uE := noUnwrapJ
  have vE := hasUnwraps
  have mU := methodUnwraps
  have heq := eql_types b x
  have c0 : w.cell? ⟨eb, 0, none⟩ = some (errV x) := by rw [h2.cell (by omega), hF 0 hc]
  have lc : (0 : Int) < c := by omega
  have H1 := Lib.hid h1
  clear h1 h2 hF
  unfold joinV at heq ⊢
  go_enter Tryd.func118, Tryd.ntmps118
  go_wp2
  refine wp_loop_rounds 1 ?_
  rw [rounds_succ]
  go_wp2_with (first | (go_at_call 157; refine (unwraps_any b _ _ H1.out).mono ?_; rintro e W' ⟨rfl, rfl⟩))
  refine wp_loop_rounds 1 ?_
  rw [rounds_succ]
  go_wp2_with (first | (go_at_call 118; refine (is1_same x _).mono ?_; rintro e W' ⟨rfl, rfl⟩))
  go_ret
  exact ⟨rfl, rfl⟩

set_option maxRecDepth 100000 in
set_option maxHeartbeats 2000000 in
/-- errors.is of a joined error and another one than it holds. -/
theorem isJ_no {a : Nat → Addr} (b c : Nat) (i j : Nat) (hi : i < 7) (hj : j < 7) (hij : i ≠ j) (hcm : c ≤ 1000) (w : World) (hJ : JoinAt w b (a i) c) (hE : Errs a w) :
    Calls Tryd.prog 118 #[joinV b, errV (a j), .bool true] w fun e w' => e = .returned (.bool false) ∧ w = w' := by
  obtain ⟨eb, cc, F, h1, h2, hne, hle, hF⟩ := hJ
  have nE := noIsJ
  have uE := noUnwrapJ
  have vE := hasUnwraps
  have mU := methodUnwraps
  have heq := eql_types b (a j)
  have HF : Hid (∀ k, k < c → w.cell? ⟨eb, k, none⟩ = some (errV (a i))) := Lib.hid (fun k hk => by rw [h2.cell (by omega), hF k hk])
  have H1 := Lib.hid h1
  have HE := Lib.hid hE
  clear h1 h2 hF hE
  unfold joinV at heq ⊢
  go_enter Tryd.func118, Tryd.ntmps118
  go_wp2
  refine wp_loop_rounds 1 ?_
  rw [rounds_succ]
  go_wp2_with (first | (go_at_call 157; refine (unwraps_any b _ _ H1.out).mono ?_; rintro e W' ⟨rfl, rfl⟩))
  go_loopw [45] (fun n wr => ∃ k : Nat, k ≤ c ∧ n = .int .i64 k ∧ wr = W') (fun n _ => c - (intOf n).toNat)
  case atStart => exact ⟨0, by omega, rfl, rfl⟩
  case round =>
    obtain ⟨k, hk, rfl, rfl⟩ := hrel
    by_cases hlt : k < c
    · have lk : (k : Int) < c := by omega
      have ck := HF.out k hlt
      go_wp2_with (first | (go_at_call 118; refine (is1_no HE.out i j hi hj hij).mono ?_; rintro e W' ⟨rfl, rfl⟩))
      go_roundw
      case rel => exact ⟨k + 1, by omega, by go_num, by first | rfl | trivial⟩
      case measure => simp [intOf]; omega
    · obtain rfl : k = c := by omega
      go_wp2
      go_ret
      exact ⟨rfl, rfl⟩

set_option maxRecDepth 100000 in
theorem IsJ_yes {a : Nat → Addr} (b c : Nat) (i : Nat) (hi : i < 7) (hc : 0 < c) (w : World) (hJ : JoinAt w b (a i) c) :
    Calls Tryd.prog 89 #[joinV b, errV (a i)] w fun e w' => e = .returned (.bool true) ∧ w = w' := by
  have h8 := @run_callFunc_extern Tryd.prog 117 _ Extern.ReflectliteType.typeOf Tryd.func117 (by kernel_rfl) (by kernel_rfl) (by kernel_rfl) (by kernel_rfl)
  have tT := isTypeOf
  have cT := isComparable
  have mR := isMethodComparable
  have hY := isJ_yes b c (a i) hc w hJ
  unfold joinV errV at hY ⊢
  go_enter Tryd.func89, Tryd.ntmps89
  go_wp2_with (first | (go_at_call 118; refine hY.mono ?_; rintro e W' ⟨rfl, rfl⟩))
  go_ret
  exact ⟨rfl, rfl⟩
set_option maxRecDepth 100000 in
theorem IsJ_no {a : Nat → Addr} (b c : Nat) (i j : Nat) (hi : i < 7) (hj : j < 7) (hij : i ≠ j) (hcm : c ≤ 1000) (w : World) (hJ : JoinAt w b (a i) c) (hE : Errs a w) :
    Calls Tryd.prog 89 #[joinV b, errV (a j)] w fun e w' => e = .returned (.bool false) ∧ w = w' := by
  have h8 := @run_callFunc_extern Tryd.prog 117 _ Extern.ReflectliteType.typeOf Tryd.func117 (by kernel_rfl) (by kernel_rfl) (by kernel_rfl) (by kernel_rfl)
  have tT := isTypeOf
  have cT := isComparable
  have mR := isMethodComparable
  have hY := isJ_no b c i j hi hj hij hcm w hJ hE
  unfold joinV errV at hY ⊢
  go_enter Tryd.func89, Tryd.ntmps89
  go_wp2_with (first | (go_at_call 118; refine hY.mono ?_; rintro e W' ⟨rfl, rfl⟩))
  go_ret
  exact ⟨rfl, rfl⟩

set_option maxRecDepth 100000 in
set_option maxHeartbeats 4000000 in
/-- The code of joined errors of which each is the first one. -/
theorem codeJ_0 {a : Nat → Addr} {w : World} (b c : Nat) (hc : 0 < c) (h : Errs a w) (hJ : JoinAt w b (a 0) c) :
    Calls Tryd.prog 50 #[joinV b] w fun e w' => e = .returned (.int .i64 1) ∧ w = w' := by
  have v0 : w.cell? ⟨0, 0, none⟩ = some (errV (a 0)) := h.vars 0 (by omega)
  have HJ := Lib.hid hJ
  clear h hJ
  go_enter Tryd.func50, Tryd.ntmps50
  go_wp2_with (first | (go_at_call 89; (with_reducible refine (IsJ_yes b c 0 (by omega) hc _ HJ.out).mono ?_); rintro e W' ⟨rfl, rfl⟩))
  go_ret
  exact ⟨rfl, rfl⟩
set_option maxRecDepth 100000 in
set_option maxHeartbeats 4000000 in
/-- The code of joined errors of which each is the second one. -/
theorem codeJ_1 {a : Nat → Addr} {w : World} (b c : Nat) (hc : 0 < c) (hcm : c ≤ 1000) (h : Errs a w) (hJ : JoinAt w b (a 1) c) :
    Calls Tryd.prog 50 #[joinV b] w fun e w' => e = .returned (.int .i64 2) ∧ w = w' := by
  have v0 : w.cell? ⟨0, 0, none⟩ = some (errV (a 0)) := h.vars 0 (by omega)
  have v1 : w.cell? ⟨1, 0, none⟩ = some (errV (a 1)) := h.vars 1 (by omega)
  have HJ := Lib.hid hJ
  have H := Lib.hid h
  clear h hJ
  go_enter Tryd.func50, Tryd.ntmps50
  go_wp2_with (first | (go_at_call 89; (with_reducible refine (IsJ_no b c 1 0 (by omega) (by omega) (by omega) hcm _ HJ.out H.out).mono ?_); rintro e W' ⟨rfl, rfl⟩) | (go_at_call 89; (with_reducible refine (IsJ_yes b c 1 (by omega) hc _ HJ.out).mono ?_); rintro e W' ⟨rfl, rfl⟩))
  go_ret
  exact ⟨rfl, rfl⟩
@[go_sem] theorem guard_join (x : Operand) (b : Nat) (W : World) : (eqGuard .neq 86 x (.const .nilIface) (joinV b) .nilIface).run Tryd.prog W = .ok () W := by
  unfold joinV; go_simp
@[go_sem] theorem neq_join (b : Nat) (W : World) : (binOp .neq 86 (joinV b) .nilIface).run Tryd.prog W = .ok (.bool true) W := by
  unfold joinV; go_simp
end Go.Proofs.YtjfmhnbbdkejeaaDoor

/-
  Errors that are there or not: checks as values; joined errors of two and of three.
-/
namespace Go.Proofs.YtjfmhnbbdkejeaaDoor
open Go Go.RowKit Go.BigFrame

/-- The error x, or none. -/
def errO (x : Addr) (b : Bool) : Value := if b then errV x else .nilIface
theorem errO_one (x : Addr) (b : Bool) : (errO x b).oneCell' = true := by cases b <;> rfl
theorem checkUpTo_any {a : Nat → Addr} (n m : Int) (w : World) (hE : Errs a w) :
    Calls Tryd.prog 51 #[.int .i64 n, .int .i64 m] w fun e w' => e = .returned (errO (a 1) (!inB 0 m n)) ∧ Below w.heap.size w w' := by
  cases h : inB 0 m n
  · exact checkUpTo_no n m w hE h
  · exact checkUpTo_yes n m w h
theorem checkGrass_any {a : Nat → Addr} (n : Int) (w : World) (hE : Errs a w) :
    Calls Tryd.prog 63 #[.int .i64 n] w fun e w' => e = .returned (errO (a 1) (!inB 0 1000 n)) ∧ Below w.heap.size w w' := by
  cases h : inB 0 1000 n
  · exact checkGrass_no n w hE h
  · exact checkGrass_yes n w h
def es2 (p q : Bool) : Nat → Bool := fun k => if k = 0 then p else q
def es3 (p q r : Bool) : Nat → Bool := fun k => if k = 0 then p else if k = 1 then q else r
theorem lit2_errE (x : Addr) (p q : Bool) : ∀ k, k < 2 → (fun k => if k = 0 then errO x p else errO x q) k = errE x (es2 p q) k := fun k _ => by
  unfold errE es2 errO
  by_cases h : k = 0 <;> simp [h]
theorem lit3_errE (x : Addr) (p q r : Bool) : ∀ k, k < 3 → (fun k => if k = 0 then errO x p else if k = 1 then errO x q else errO x r) k = errE x (es3 p q r) k := fun k _ => by
  unfold errE es3 errO
  by_cases h : k = 0
  · simp [h]
  · by_cases h' : k = 1 <;> simp [h, h']
theorem cnt2_no : cntE (es2 false false) 2 = 0 := by decide
theorem cnt3_no : cntE (es3 false false false) 3 = 0 := by decide
theorem cnt2_yes {p q : Bool} (h : (p || q) = true) : 0 < cntE (es2 p q) 2 := by revert h; cases p <;> cases q <;> decide
theorem cnt3_yes {p q r : Bool} (h : (p || q || r) = true) : 0 < cntE (es3 p q r) 3 := by revert h; cases p <;> cases q <;> cases r <;> decide
end Go.Proofs.YtjfmhnbbdkejeaaDoor

/-
  spec.DaysTo and impl.DaysTo by contracts; laws.FnExactDaysTo returns true.
-/
namespace Go.Proofs.YtjfmhnbbdkejeaaDoor
open Go Go.RowKit Go.BigFrame

/-- How much a cell has a day later, as a natural number. -/
def stepN (h : Nat → Int) (n : Nat) : Nat := (laterN h n).toNat
theorem stepN_eq {h : Nat → Int} (e : growB h = true) {n : Nat} (hn : n ≤ 1000) : ((stepN h n : Nat) : Int) = laterN h n ∧ stepN h n ≤ 1000 := by
  have := later_in e hn
  unfold stepN
  omega
/-- The days until there is so much, of so many that are left. -/
def goD (h : Nat → Int) (to : Int) : Nat → Nat → Nat → Int × Int
  | 0, _, _ => (0, 6)
  | fuel + 1, d, n => if to ≤ (n : Int) then ((d : Int), 0) else goD h to fuel (d + 1) (stepN h n)
theorem goD_end (h : Nat → Int) (to : Int) (d n : Nat) : goD h to 0 d n = (0, 6) := rfl
theorem goD_yes {h : Nat → Int} {to : Int} {fuel d n : Nat} (hf : 0 < fuel) (e : to ≤ (n : Int)) : goD h to fuel d n = ((d : Int), 0) := by
  obtain ⟨f, rfl⟩ : ∃ f, fuel = f + 1 := ⟨fuel - 1, by omega⟩
  simp [goD, e]
theorem goD_no {h : Nat → Int} {to : Int} {fuel d n : Nat} (hf : 0 < fuel) (e : ¬ to ≤ (n : Int)) : goD h to fuel d n = goD h to (fuel - 1) (d + 1) (stepN h n) := by
  obtain ⟨f, rfl⟩ : ∃ f, fuel = f + 1 := ⟨fuel - 1, by omega⟩
  simp [goD, e]
/-- What DaysTo answers. -/
def dayR (h : Nat → Int) (f t : Int) : Int × Int := if growB h then (if inB 0 1000 f && inB 0 1000 t then goD h t 366 0 f.toNat else (0, 2)) else (0, 1)
theorem day_no {h : Nat → Int} {f t : Int} (e : growB h = false) : dayR h f t = (0, 1) := by simp [dayR, e]
theorem day_out {h : Nat → Int} {f t : Int} (e : growB h = true) (e' : (inB 0 1000 f && inB 0 1000 t) = false) : dayR h f t = (0, 2) := by simp [dayR, e, e']
theorem day_ok {h : Nat → Int} {f : Nat} {t : Int} (e : growB h = true) (e' : (inB 0 1000 (f : Int) && inB 0 1000 t) = true) : dayR h f t = goD h t 366 0 f := by simp [dayR, e, e']
def DayIn (h : Nat → Int) (t : Int) (R : Int × Int) (w : World) (L : Blocks) (from_ i : Value) (wr : World) : Prop :=
  ∃ d n : Nat, d ≤ 366 ∧ n ≤ 1000 ∧ from_ = .int .i64 n ∧ i = .int .i64 d ∧ goD h t (366 - d) d n = R ∧ Mem w L wr

set_option maxRecDepth 100000 in
set_option maxHeartbeats 2000000 in
theorem specDaysTo_any (h : Nat → Int) (hF : FitsW h) (f t : Int) (w : World) :
    Calls Tryd.prog 27 #[.agg (arr 12 (gro h)), .int .i64 f, .int .i64 t] w fun e w' => e = .returned (numR (dayR h f t).1 (dayR h f t).2) ∧ Below w.heap.size w w' := by
  have hM := Mem.nil w
  have HF := Lib.hid hF
  clear hF
  have tk_b1 : True := trivial
  cases hv : growB h
  · have Hr := Lib.hid (day_no (f := f) (t := t) hv)
    have Hv := Lib.hid hv
    clear hv
    go_enter Tryd.func27, Tryd.ntmps27
    go_wp2_with (first | (have _t := tk_b1; refine wpList_box rfl _ _ rfl _ _ rfl hM ?_; intro b1 W' hb1 hM'; clear hM tk_b1; have hM := hM'; clear hM') | (go_at_call 58; (with_reducible refine (l04Ok_any h HF.out b1 _ (hM.ats 0 _ _ _ rfl)).mono ?_); rintro e W' ⟨rfl, hb'⟩; rw [Hv.out]; have hM' := hM.call hb'; clear hM hb'; have hM := hM'; clear hM'))
    go_ret2
    exact ⟨ret_num (by rw [Hr.out]) (by rw [Hr.out]), hM.below⟩
  have Hv := Lib.hid hv
  cases hi : inB 0 1000 f
  · have Hr := Lib.hid (day_out (t := t) hv (by rw [hi]; rfl : (inB 0 1000 f && inB 0 1000 t) = false))
    have Hi := Lib.hid hi
    clear hv hi
    go_enter Tryd.func27, Tryd.ntmps27
    go_wp2_with (first | (have _t := tk_b1; refine wpList_box rfl _ _ rfl _ _ rfl hM ?_; intro b1 W' hb1 hM'; clear hM tk_b1; have hM := hM'; clear hM') | (go_at_call 58; (with_reducible refine (l04Ok_any h HF.out b1 _ (hM.ats 0 _ _ _ rfl)).mono ?_); rintro e W' ⟨rfl, hb'⟩; rw [Hv.out]; have hM' := hM.call hb'; clear hM hb'; have hM := hM'; clear hM') | (go_at_call 59; (with_reducible refine (l01Grass_any f _).mono ?_); rintro e W' ⟨rfl, hb'⟩; rw [Hi.out]; have hM' := hM.call hb'; clear hM hb'; have hM := hM'; clear hM'))
    go_ret2
    exact ⟨ret_num (by rw [Hr.out]) (by rw [Hr.out]), hM.below⟩
  cases hj : inB 0 1000 t
  · have Hr := Lib.hid (day_out (t := t) hv (by rw [hi, hj]; rfl : (inB 0 1000 f && inB 0 1000 t) = false))
    have Hi := Lib.hid hi
    have Hj := Lib.hid hj
    clear hv hi hj
    go_enter Tryd.func27, Tryd.ntmps27
    go_wp2_with (first | (have _t := tk_b1; refine wpList_box rfl _ _ rfl _ _ rfl hM ?_; intro b1 W' hb1 hM'; clear hM tk_b1; have hM := hM'; clear hM') | (go_at_call 58; (with_reducible refine (l04Ok_any h HF.out b1 _ (hM.ats 0 _ _ _ rfl)).mono ?_); rintro e W' ⟨rfl, hb'⟩; rw [Hv.out]; have hM' := hM.call hb'; clear hM hb'; have hM := hM'; clear hM') | (go_at_call 59; (with_reducible refine (l01Grass_any f _).mono ?_); rintro e W' ⟨rfl, hb'⟩; rw [Hi.out]; have hM' := hM.call hb'; clear hM hb'; have hM := hM'; clear hM') | (go_at_call 59; (with_reducible refine (l01Grass_any t _).mono ?_); rintro e W' ⟨rfl, hb'⟩; rw [Hj.out]; have hM' := hM.call hb'; clear hM hb'; have hM := hM'; clear hM'))
    go_ret2
    exact ⟨ret_num (by rw [Hr.out]) (by rw [Hr.out]), hM.below⟩
  have hb := inB_true hi
  obtain ⟨f, rfl⟩ : ∃ m : Nat, f = m := ⟨f.toNat, by omega⟩
  have Hr := Lib.hid (day_ok hv (by rw [hi, hj]; rfl : (inB 0 1000 (f : Int) && inB 0 1000 t) = true))
  have Hi := Lib.hid hi
  have Hj := Lib.hid hj
  clear hv hi hj
  go_enter Tryd.func27, Tryd.ntmps27
  go_wp2_with (first | (have _t := tk_b1; refine wpList_box rfl _ _ rfl _ _ rfl hM ?_; intro b1 W' hb1 hM'; clear hM tk_b1; have hM := hM'; clear hM') | (go_at_call 58; (with_reducible refine (l04Ok_any h HF.out b1 _ (hM.ats 0 _ _ _ rfl)).mono ?_); rintro e W' ⟨rfl, hb'⟩; rw [Hv.out]; have hM' := hM.call hb'; clear hM hb'; have hM := hM'; clear hM') | (go_at_call 59; (with_reducible refine (l01Grass_any _ _).mono ?_); rintro e W' ⟨rfl, hb'⟩; rw [Hi.out]; have hM' := hM.call hb'; clear hM hb'; have hM := hM'; clear hM') | (go_at_call 59; (with_reducible refine (l01Grass_any t _).mono ?_); rintro e W' ⟨rfl, hb'⟩; rw [Hj.out]; have hM' := hM.call hb'; clear hM hb'; have hM := hM'; clear hM'))
  go_loopw [1, 8] (fun n i wr => DayIn h t (goD h t 366 0 f) w [(b1, 12, gro h)] n i wr) (fun _ i _ => 366 - (intOf i).toNat)
  case atStart => exact ⟨0, f, by omega, by omega, rfl, rfl, rfl, hM⟩
  case round =>
    clear hM
    obtain ⟨d, n, hd, hn, rfl, rfl, hg, hM⟩ := hrel
    have Hg := Lib.hid hg
    clear hg
    by_cases hlt : d < 366
    · have ld : (d : Int) ≤ 365 := by omega
      by_cases ht : t ≤ (n : Int)
      · have Hq := Lib.hid (goD_yes (h := h) (d := d) (show 0 < 366 - d by omega) ht)
        go_wp2
        go_ret2
        exact ⟨ret_num (by rw [Hr.out, ← Hg.out, Hq.out]) (by rw [Hr.out, ← Hg.out, Hq.out]), hM.below⟩
      · have Hq := Lib.hid (goD_no (h := h) (d := d) (show 0 < 366 - d by omega) ht)
        have Hs := Lib.hid (stepN_eq Hv.out hn)
        go_wp2_with (first | (go_at_call 60; (with_reducible refine (l04Cell_any h Hv.out b1 n hn _ (hM.ats 0 _ _ _ rfl)).mono ?_); rintro e W' ⟨rfl, hb'⟩; have hM' := hM.call hb'; clear hM hb'; have hM := hM'; clear hM'))
        go_roundw
        case rel => exact (⟨d + 1, stepN h n, by omega, Hs.out.2, by rw [Hs.out.1], by go_num, (by rw [show 366 - (d + 1) = 366 - d - 1 by omega, ← Hq.out]; exact Hg.out), hM⟩ : DayIn h t (goD h t 366 0 f) w _ _ _ _)
        case measure => simp [intOf]; omega
    · obtain rfl : d = 366 := by omega
      go_wp2
      go_ret2
      exact ⟨ret_num (by rw [Hr.out, ← Hg.out, goD_end]) (by rw [Hr.out, ← Hg.out, goD_end]), hM.below⟩

set_option maxRecDepth 100000 in
set_option maxHeartbeats 2000000 in
theorem implDaysTo_any {a : Nat → Addr} (h : Nat → Int) (hF : FitsW h) (f t : Int) (w : World) (hE : Errs a w) :
    Calls Tryd.prog 28 #[.agg (arr 12 (gro h)), .int .i64 f, .int .i64 t] w fun e w' => e = .returned (numR (dayR h f t).1 (dayR h f t).2) ∧ Below w.heap.size w w' := by
  have hM := Mem.nil w
  have HF := Lib.hid hF
  have HE := Lib.hid hE
  clear hF hE
  have tk_b1 : True := trivial; have tk_g1 : True := trivial; have tk_g2 : True := trivial
  cases hv : growB h
  · have Hr := Lib.hid (day_no (f := f) (t := t) hv)
    have Hv := Lib.hid hv
    clear hv
    go_enter Tryd.func28, Tryd.ntmps28
    go_wp2_with (first | (have _t := tk_b1; refine wpList_box rfl _ _ rfl _ _ rfl hM ?_; intro b1 W' hb1 hM'; clear hM tk_b1; have hM := hM'; clear hM') | (refine wpList_get rfl _ _ rfl _ _ rfl hM 0 rfl (rowTab _ _ rfl) (by omega) ?_) | (go_at_call 62; (with_reducible refine (checkGrowth_no h HF.out _ (HE.out.below hM.below) Hv.out).mono ?_); rintro e W' ⟨rfl, hb'⟩; have hM' := hM.call hb'; clear hM hb'; have hM := hM'; clear hM') | (go_at_call 50; (with_reducible refine (codeOf_0 (HE.out.below hM.below)).mono ?_); rintro e W' ⟨rfl, rfl⟩))
    go_ret2
    exact ⟨ret_num (by rw [Hr.out]) (by rw [Hr.out]), hM.below⟩
  have Hv := Lib.hid hv
  cases hi : (inB 0 1000 f && inB 0 1000 t)
  · have Hr := Lib.hid (day_out (t := t) hv hi)
    have Hc := Lib.hid (cnt2_yes (show (!inB 0 1000 f || !inB 0 1000 t) = true by rw [← Bool.not_and, hi]; rfl))
    have Hl := Lib.hid (Nat.le_trans (cntE_le (es2 (!inB 0 1000 f) (!inB 0 1000 t)) 2) (show 2 ≤ 1000 by omega))
    clear hv hi
    go_enter Tryd.func28, Tryd.ntmps28
    go_wp2_with (first | (have _t := tk_b1; refine wpList_box rfl _ _ rfl _ _ rfl hM ?_; intro b1 W' hb1 hM'; clear hM tk_b1; have hM := hM'; clear hM') | (have _t := tk_g1; (refine wpList_get rfl _ _ rfl _ _ rfl hM 0 rfl (rowTab _ _ rfl) (by omega) ?_); clear tk_g1) | (go_at_call 62; (with_reducible refine (checkGrowth_yes h HF.out _ Hv.out).mono ?_); rintro e W' ⟨rfl, hb'⟩; have hM' := hM.call hb'; clear hM hb'; have hM := hM'; clear hM') | (go_at_call 63; (with_reducible refine (checkGrass_any _ _ (HE.out.below hM.below)).mono ?_); rintro e W' ⟨rfl, hb'⟩; have hM' := hM.call hb'; clear hM hb'; have hM := hM'; clear hM') | (refine wpList_lit2 rfl _ _ _ _ rfl (errO (a 1) (!inB 0 1000 f)) (errO (a 1) (!inB 0 1000 t)) rfl rfl (errO_one _ _) (errO_one _ _) _ errs_under err_info2 hM ?_; intro bn W' hbn hM'; clear hM; have hM := hM'; clear hM') | (go_at_call 65; refine (join_some (a 1) (es2 (!inB 0 1000 f) (!inB 0 1000 t)) _ 2 2 (by omega) Hc.out _ ((hM.ats 0 _ _ _ rfl).congr (lit2_errE _ _ _))).mono ?_; rintro e W' ⟨jb, rfl, hJ, hb'⟩; have hM' := hM.call hb'; clear hM hb'; have hM := hM'; clear hM') | (go_at_call 50; (refine (codeJ_1 jb _ Hc.out Hl.out (HE.out.below hM.below) hJ).mono ?_); rintro e W' ⟨rfl, rfl⟩))
    go_ret2
    exact ⟨ret_num (by rw [Hr.out]) (by rw [Hr.out]), hM.below⟩
  have hi' := hi
  rw [Bool.and_eq_true] at hi
  have hb := inB_true hi.1
  obtain ⟨f, rfl⟩ : ∃ m : Nat, f = m := ⟨f.toNat, by omega⟩
  have Hr := Lib.hid (day_ok hv hi')
  have Hi := Lib.hid hi.1
  have Hj := Lib.hid hi.2
  clear hv hi hi'
  go_enter Tryd.func28, Tryd.ntmps28
  go_wp2_with (first | (have _t := tk_b1; refine wpList_box rfl _ _ rfl _ _ rfl hM ?_; intro b1 W' hb1 hM'; clear hM tk_b1; have hM := hM'; clear hM') | (have _t := tk_g1; (refine wpList_get rfl _ _ rfl _ _ rfl hM 0 rfl (rowTab _ _ rfl) (by omega) ?_); clear tk_g1) | (go_at_call 62; (with_reducible refine (checkGrowth_yes h HF.out _ Hv.out).mono ?_); rintro e W' ⟨rfl, hb'⟩; have hM' := hM.call hb'; clear hM hb'; have hM := hM'; clear hM') | (go_at_call 63; (with_reducible refine (checkGrass_yes _ _ Hi.out).mono ?_); rintro e W' ⟨rfl, hb'⟩; have hM' := hM.call hb'; clear hM hb'; have hM := hM'; clear hM') | (go_at_call 63; (with_reducible refine (checkGrass_yes _ _ Hj.out).mono ?_); rintro e W' ⟨rfl, hb'⟩; have hM' := hM.call hb'; clear hM hb'; have hM := hM'; clear hM') | (refine wpList_lit2 rfl _ _ _ _ rfl (errO (a 1) false) (errO (a 1) false) rfl rfl (errO_one _ _) (errO_one _ _) _ errs_under err_info2 hM ?_; intro bn W' hbn hM'; clear hM; have hM := hM'; clear hM') | (go_at_call 65; refine (join_none (a 1) (es2 false false) _ 2 2 (by omega) cnt2_no _ ((hM.ats 0 _ _ _ rfl).congr (lit2_errE _ _ _))).mono ?_; rintro e W' ⟨rfl, hb'⟩; have hM' := hM.call hb'; clear hM hb'; have hM := hM'.drop; clear hM'))
  go_loopw [1, 27] (fun n i wr => DayIn h t (goD h t 366 0 f) w [(b1, 12, gro h)] n i wr) (fun _ i _ => 366 - (intOf i).toNat)
  case atStart => exact ⟨0, f, by omega, by omega, rfl, rfl, rfl, hM⟩
  case round =>
    clear hM
    obtain ⟨d, n, hd, hn, rfl, rfl, hg, hM⟩ := hrel
    have Hg := Lib.hid hg
    clear hg
    by_cases hlt : d < 366
    · have ld : (d : Int) < 366 := by omega
      by_cases ht : t ≤ (n : Int)
      · have Hq := Lib.hid (goD_yes (h := h) (d := d) (show 0 < 366 - d by omega) ht)
        go_wp2
        go_ret2
        exact ⟨ret_num (by rw [Hr.out, ← Hg.out, Hq.out]) (by rw [Hr.out, ← Hg.out, Hq.out]), hM.below⟩
      · have Hq := Lib.hid (goD_no (h := h) (d := d) (show 0 < 366 - d by omega) ht)
        have Hs := Lib.hid (stepN_eq Hv.out hn)
        go_wp2_with (first | (refine wpList_get rfl _ _ rfl _ _ rfl hM 0 rfl (rowTab _ _ rfl) (by omega) ?_) | (go_at_call 64; (with_reducible refine (later_any h Hv.out n hn _).mono ?_); rintro e W' ⟨rfl, hb'⟩; have hM' := hM.call hb'; clear hM hb'; have hM := hM'; clear hM'))
        go_roundw
        case rel => exact (⟨d + 1, stepN h n, by omega, Hs.out.2, by rw [Hs.out.1], by go_num, (by rw [show 366 - (d + 1) = 366 - d - 1 by omega, ← Hq.out]; exact Hg.out), hM⟩ : DayIn h t (goD h t 366 0 f) w _ _ _ _)
        case measure => simp [intOf]; omega
    · obtain rfl : d = 366 := by omega
      go_wp2
      go_ret2
      exact ⟨ret_num (by rw [Hr.out, ← Hg.out, goD_end]) (by rw [Hr.out, ← Hg.out, goD_end]), hM.below⟩

set_option maxRecDepth 100000 in
set_option maxHeartbeats 1000000 in
theorem lawDaysTo_any {a : Nat → Addr} (h : Nat → Int) (hF : FitsW h) (f t : Int) (w : World) (hE : Errs a w) :
    Calls Tryd.prog 6 #[.agg (arr 12 (gro h)), .int .i64 f, .int .i64 t] w fun e w' => e = .returned (.bool true) ∧ Below w.heap.size w w' := by
  have hM := Mem.nil w
  have HE := Lib.hid hE
  have hS := fun W => specDaysTo_any h hF f t W
  have hI := fun W hE => implDaysTo_any (a := a) h hF f t W hE
  generalize dayR h f t = R at hS hI
  obtain ⟨r, s⟩ := R
  have Hz := Lib.hid (numR_eq r s)
  have HS := Lib.hid hS
  have HI := Lib.hid hI
  clear hE hS hI
  have tk_b1 : True := trivial
  go_enter Tryd.func6, Tryd.ntmps6
  go_wp2_with (first | (have _t := tk_b1; refine wpList_box rfl _ _ rfl _ _ rfl hM ?_; intro b1 W' hb1 hM'; clear hM tk_b1; have hM := hM'; clear hM') | (refine wpList_get rfl _ _ rfl _ _ rfl hM 0 rfl (rowTab _ _ rfl) (by omega) ?_) | (go_at_call 25; (with_reducible refine (toGrowth_gro h _).mono ?_); rintro e W' ⟨rfl, hb'⟩; have hM' := hM.call hb'; clear hM hb'; have hM := hM'; clear hM') | (go_at_call 27; (with_reducible refine (HS.out _).mono ?_); rintro e W' ⟨rfl, hb'⟩; rw [Hz.out]; have hM' := hM.call hb'; clear hM hb'; have hM := hM'; clear hM') | (go_at_call 28; (with_reducible refine (HI.out _ (HE.out.below hM.below)).mono ?_); rintro e W' ⟨rfl, hb'⟩; rw [Hz.out]; have hM' := hM.call hb'; clear hM hb'; have hM := hM'; clear hM'))
  go_ret
  exact ⟨rfl, hM.below⟩
end Go.Proofs.YtjfmhnbbdkejeaaDoor

/-
  PLAIN LAWS: a region in the body of a range over a function, walked by the plain laws.
-/
namespace Go.Proofs.YtjfmhnbbdkejeaaDoor
open Go Go.RowKit
variable {P : Program} {ops : Array Oper} {o : Oper} {a : Act} {W : World} {Q : Exit → Act → World → Prop} {K : Act → World → Prop} {l n : Nat}

def noDefer (o : Oper) : Bool := match o.op with | .defer _ => false | _ => true
theorem noDefer_spec (h : noDefer o = true) : ∀ c, o.op ≠ .defer c := fun c e => by simp [noDefer, e] at h

theorem oper_round (hd : noDefer o = true) (h : o.wp P a W K Q) : o.wpIn (Fence.wide.inRound l) n P a W K Q := by
  unfold Oper.wp at h
  unfold Oper.wpIn
  refine ⟨fun _ _ => trivial, ?_⟩
  rw [Oper.semAt_eq _ _ _ (noDefer_spec hd)]
  generalize (execOp a.eval o).run P W = r at *
  cases r with
  | ok x w' =>
    cases x <;> simp only [Oper.upon] at h <;> simp only [Oper.uponIn]
    case value => exact h
    case skip => exact h
    case defer => exact h
    case enter => exact ⟨fun h => by simp [Fence.inRound, Fence.wide] at h, CallsIn.inRound l (callsIn_wide.2 h)⟩
    case row => exact ⟨fun h => by simp [Fence.inRound, Fence.wide] at h, fun c cs _ => let ⟨v, w', r, s⟩ := h c cs; ⟨v, w', r, stepsIn_wide.2 s⟩⟩
  | halt x w' => cases x <;> simp only [Oper.upon] at h <;> simp only [Oper.uponIn] <;> exact h

theorem list_round (hL : ¬ LetsOut Q) : ∀ (r : List Oper), r.all noDefer = true → ∀ (a : Act) (W : World), wpList P ops Q r a W → wpListIn (Fence.wide.inRound l) n P ops Q r a W
  | [], _, _, _, h => h
  | o :: r, hd, a, W, h => by
    simp only [List.all_cons, Bool.and_eq_true] at hd
    unfold wpList at h
    unfold wpListIn
    split
    · rename_i hw
      rw [if_pos hw] at h
      rcases h with h | h
      · exact oper_round hd.1 (Oper.wp_mono (fun a w hh => list_round hL r hd.2 a w hh) h)
      · exact absurd h.2 hL
    · rename_i hw
      rw [if_neg hw] at h
      exact ⟨fun _ _ => trivial, list_round hL r hd.2 _ _ h⟩

/-- A region that keeps the text's order. -/
theorem region_round {id : Nat} {r : List Oper} (hL : ¬ LetsOut Q) (hd : r.all noDefer = true) (h : wpList P r.toArray Q r a W) : (Code.region id r.toArray false).wpIn (Fence.wide.inRound l) n P Q a W :=
  wpIn_region_lit (list_round hL r hd a W h)

theorem any_round {md : Region.Mode} (hL : ¬ LetsOut Q) (hd : ops.toList.all noDefer = true) : ∀ (fuel : Nat) (listed : Array Bool) (a : Act) (W : World), wpAny P md ops Q fuel listed a W → wpAnyIn (Fence.wide.inRound l) n P md ops Q fuel listed a W
  | 0, _, _, _, h => h
  | fuel + 1, listed, a, W, h => ⟨h.1, fun i hi => by
    have := h.2 i hi
    unfold wpOp at this
    unfold wpOpIn
    split
    · rename_i ho; simp only [ho] at this; exact any_round hL hd fuel _ _ _ this
    · rename_i o ho
      simp only [ho] at this
      have hm : o ∈ ops.toList := by
        have := Array.mem_of_getElem? ho; simpa using this
      have hdo := List.all_eq_true.1 hd o hm
      split
      · rename_i hw
        rw [if_pos hw] at this
        rcases this with h | h
        · exact oper_round hdo (Oper.wp_mono (fun a w hh => any_round hL hd fuel _ a w hh) h)
        · exact absurd h.2 hL
      · rename_i hw
        rw [if_neg hw] at this
        exact ⟨fun _ _ => trivial, any_round hL hd fuel _ _ _ this⟩⟩

/-- A region that draws its order, and only reads. -/
theorem region_round_mem {id : Nat} {r : List Oper} {w : Base} {L : Blocks} (hL : ¬ LetsOut Q) (hd : r.all noDefer = true) (hm : P.follows .mixedOrders = true) (hB : Region.lexB .any r.toArray = true) (hM : Mem w L W)
    (h : wpQuiet P r.toArray (Mem w L) (fun a' => ∀ W', Mem w L W' → Q .normal a' W') r a) : (Code.region id r.toArray true).wpIn (Fence.wide.inRound l) n P Q a W := by
  simp only [Region.lexB, Bool.and_eq_true] at hB
  refine wpIn_region_any hm (any_round hL (by simpa using hd) _ _ _ _ (wpAny_of_quiet (Q := fun a' => ∀ W', Mem w L W' → Q .normal a' W') (fun _ w' hw' h => h w' hw') _ _ _ _ hM.drew ?_))
  have := wpAnyQ_lex (C := Mem w L) (md := .any) hB.1 r 0 (Array.replicate r.toArray.size false) a (by simp) (by simpa using hB.2) h
  simpa using this

/-! ### A region that draws its order: reads first, then what the text has last -/
variable {rest : List Oper} {R : Act → Prop} {J : Act → Prop}
theorem wps_plain (hg : o.guard = none) (h : o.still P a W (wpStill P ops W R rest)) : wpStill P ops W R (o :: rest) a := by
  unfold wpStill; rw [if_pos (by simp [Region.wanted, hg])]; exact h
theorem still_val (h : ∃ v, (∀ W, (execOp a.eval o).run P W = .ok (.value v) W) ∧ J (a.put o.dst v)) : o.still P a W J := by
  obtain ⟨v, hr, h⟩ := h
  unfold Oper.still
  rw [hr]; exact ⟨rfl, h⟩
theorem still_get1 {w : Base} {L : Blocks} (hM : Mem w L W) (ty : TypeId) (x : Operand) (ho : o.op = .load ty x) (b off : Nat) (hx : a.eval x = .pointer (some ⟨b, off, none⟩))
    (i : Nat) {m : Nat} {f : Nat → Value} (hi : L[i]? = some (b, m, f)) (hT : CellT P ty) (hle : off < m) (v : Value) (hv : f off = v)
    (h : J (a.put o.dst v)) : o.still P a W J := by
  obtain ⟨⟨d, hu, hd⟩, _⟩ := hT
  have hc := (hM.ats i b m f hi).cell hle
  rw [hv] at hc
  have hagg : (isAgg ty).run P W = .ok false W := by
    unfold isAgg
    rw [Sem.run_bind, run_underlying hu W]
    cases d <;> simp_all [TypeDesc.isRow]
  have hl : (load ⟨b, off, none⟩).run P W = .ok v W := by simp [load, Sem.run, hc]
  unfold Oper.still execOp
  simp only [ho, hx, Instr.loadAt, Instr.sureAddr, loadVar, Sem.run_bind, Sem.run_pure, Result.andThen_ok, hagg, Bool.false_eq_true, if_false, hl]
  exact ⟨rfl, h⟩

theorem region_round_tail {id : Nat} {r : List Oper} (m : Nat) (hL : ¬ LetsOut Q) (hd : r.all noDefer = true) (hm : P.follows .mixedOrders = true) (hB : Region.lexTailB .any r.toArray m = true)
    (h : wpStill P r.toArray W.drew (fun a' => wpList P r.toArray Q (r.drop m) a' W.drew) (r.take m) a) : (Code.region id r.toArray true).wpIn (Fence.wide.inRound l) n P Q a W := by
  simp only [Region.lexTailB, Bool.and_eq_true, decide_eq_true_eq] at hB
  obtain ⟨⟨⟨⟨b1, b2⟩, b3⟩, b4⟩, b5⟩ := hB
  have e0 : r.toArray.size = r.length := by simp
  have e1 : (r.take m).length = m := by rw [List.length_take]; omega
  have e2 : (r.drop m).length = r.toArray.size - m := by rw [List.length_drop, e0]
  have start : HeadInv .any r.toArray m (Array.replicate r.toArray.size false) :=
    { size := by simp
      closed := fun j oj _ hl => by rw [getD_replicate_false] at hl; cases hl
      tail := fun t _ ht => getD_in (by simpa using ht) (getD_replicate_false _ _) }
  have head := wpAnyL_lex (md := .any) (g := r.toArray.size - m) b1 b3 b4 b2 (r.take m) 0 _ a (fun j hj => by rw [e1] at hj; simp [hj]) (by rw [e1]; omega) start (by rw [e1]; exact b5) h
  have tail : ∀ (listed : Array Bool) (a' : Act), (Region.seqB .any r.toArray (r.toArray.size - m) m listed = true ∧ wpList P r.toArray Q (r.drop m) a' W.drew) → wpAny P .any r.toArray Q (r.toArray.size - m) listed a' W.drew := fun listed a' ht => by
    have := wpAny_of_seq (md := .any) (Q' := Q) (r.drop m) m listed a' W.drew (fun j => by simp [List.getElem?_drop]) (by rw [e2]; exact ht.1) ht.2
    rw [e2] at this; exact this
  have whole := wpAny_of_head (Q' := Q) tail _ _ _ head
  rw [e1, show m + (r.toArray.size - m) = r.toArray.size by omega] at whole
  exact wpIn_region_any hm (any_round hL (by simpa using hd) _ _ _ _ whole)

/-! ### The memory of a call, seen in a round -/
/-- A round that begins in Wr, of a call that began in w0: whatever is no cells and lies from block Bk on lies as it lay. -/
def Base.round (w0 : World) (Bk : Nat) (Wr : World) : Base where
  G := fun W => Below w0.heap.size w0 W ∧ KeepsFrom Bk Wr W
  B := w0.heap.size
  le := fun h => h.1.size
  alloc := fun _ _ h => ⟨h.1.alloc h.1.size _, h.2.trans ((KeepsOthers.alloc _ _).from _)⟩
  row := fun h hb hc c' => ⟨below_setRow h.1 hb c', ⟨by rw [size_setRow]; exact h.2.size, fun k o hk ho hn => by
    have h1 := h.2.same k o hk ho hn
    rw [_root_.Go.setRow_other _ _ _ _ (fun e => by subst e; rw [h1] at hc; cases hc; simp [Obj.isCells] at hn)]
    exact h1⟩⟩
  call := fun h hb => ⟨h.1.trans (hb.mono h.1.size), ⟨Nat.le_trans h.2.size hb.size, fun k o hk ho hn => by
    have h1 := h.2.same k o hk ho hn
    rw [hb.block k (Array.getElem?_eq_some_iff.1 h1).1]
    exact h1⟩⟩
  drew := fun h => ⟨h.1.drew, ⟨h.2.size, h.2.same⟩⟩

theorem At.grown {W W' : World} {b m : Nat} {f : Nat → Value} {row : Option Nat} (h : At W b m f) (hg : W.grownBy W' row) (hr : ∀ r, row = some r → ∃ o : Obj, W.heap[r]? = some o ∧ o.isCells = false) : At W' b m f := by
  obtain ⟨t, ht⟩ := h
  exact ⟨t, (grownBy_keeps_cells hg hr ht rfl).trans ht⟩
theorem mem_ownFrom {β : Type} {w0 : World} {B : Nat} (hB : w0.heap.size ≤ B) (Ls : β → Blocks) : OwnFrom B (fun (s : β) W => Mem w0 (Ls s) W) := fun _ _ _ _ hs hg hr =>
  ⟨Below.grown hs.below hg hs.below.size (fun k e => Nat.le_trans hB (hr k e).1), fun i b m f hi => (hs.ats i b m f hi).grown hg (fun r e => (hr r e).2), hs.apart⟩
end Go.Proofs.YtjfmhnbbdkejeaaDoor

/-
  (impl.Pasture).cells and its iterator, by contract: all cells come in their order, unless a round says 'no more'.
-/
namespace Go.Proofs.YtjfmhnbbdkejeaaDoor
open Go Go.RowKit Go.Shelf Go.BigFrame
attribute [local go_sem] Oper.semAt_some

/-- A cell of a pasture that is W wide and H high. -/
abbrev Cell (W H : Nat) := { s : Nat × Nat // s.1 < W ∧ s.2 < H }
def encC {W H : Nat} (c : Cell W H) : Array Value := #[.agg (arr 2 (sp c.1.1 c.1.2))]
/-- The i-th cell in their order. -/
def cellAt (W i : Nat) : Nat × Nat := (i % W, i / W)
def upto (W i : Nat) : List (Nat × Nat) := (List.range i).map (cellAt W)
theorem upto_succ (W i : Nat) : upto W (i + 1) = upto W i ++ [cellAt W i] := by simp [upto, List.range_succ]
theorem cellAt_row {W k j : Nat} (h : j < W) : cellAt W (k * W + j) = (j, k) := by
  unfold cellAt
  rw [Nat.mul_comm k W, Nat.mul_add_mod, Nat.mod_eq_of_lt h, Nat.mul_add_div (by omega), Nat.div_eq_of_lt h]; simp

/-- What a round that goes on keeps: the pasture itself. -/
def KpP (bp : Nat) (g : Nat → Int) (A B : World) : Prop := At A bp 122 (pas g) → At B bp 122 (pas g)

def CellsIn {W H : Nat} (J : List (Cell W H) → World → Prop) (bp : Nat) (g : Nat → Int) (i : Nat) (wr : World) : Prop :=
  ∃ pre : List (Cell W H), pre.map (·.1) = upto W i ∧ J pre wr ∧ At wr bp 122 (pas g)
def CellsOut {W H : Nat} (J : List (Cell W H) → World → Prop) (bp : Nat) (g : Nat → Int) (y : Value) (wr : World) : Prop := ∃ k : Nat, k ≤ H ∧ y = .int .i8 k ∧ CellsIn J bp g (k * W) wr
def CellsRow {W H : Nat} (J : List (Cell W H) → World → Prop) (bp : Nat) (g : Nat → Int) (k : Nat) (x : Value) (wr : World) : Prop := ∃ j : Nat, j ≤ W ∧ x = .int .i8 j ∧ CellsIn J bp g (k * W + j) wr

set_option maxHeartbeats 1000000 in
theorem cells1_in (F : Fence) (n : Nat) (hf : F.fn 104) (hro : F.round = none) (hn : 1 ≤ n) (l bp : Nat) (W H : Nat) (hW10 : W ≤ 10) (hH10 : H ≤ 10) (g : Nat → Int) (hg0 : g 0 = W) (hg1 : g 1 = H)
    (J Jx : List (Cell W H) → World → Prop)
    (hY : ∀ pre x W1, J pre W1 → pre.length < W * H → YieldAt F (n - 1) Tryd.prog l (encC x) W1 fun e W' =>
      (e = .returned (.bool true) ∧ J (pre ++ [x]) W' ∧ KpP bp g W1 W') ∨ (e = .returned (.bool false) ∧ Jx (pre ++ [x]) W'))
    (w : World) (hA : At w bp 122 (pas g)) (h0 : J [] w) :
    CallsIn F n Tryd.prog 104 #[.func (.yield l) #[] #[], .pointer (some ⟨bp, 0, none⟩)] w fun e W' => (∃ v, e = .returned v) ∧
      ((∃ xs : List (Cell W H), xs.map (·.1) = upto W (W * H) ∧ J xs W') ∨ (∃ pre : List (Cell W H), (∃ i, i ≤ W * H ∧ pre.map (·.1) = upto W i) ∧ Jx pre W')) := by
  refine callsIn_of_wp Tryd.func104 rfl hf ?_ hro
  simp only [Tryd.ntmps104, List.size_toArray, List.length_cons, List.length_nil, Nat.reduceAdd, Nat.reduceSub, Array.replicate_succ, Array.replicate_zero, List.push_toArray, List.append_toArray, List.nil_append, List.cons_append]
  have c1 : w.cell? ⟨bp, 1, none⟩ = some (.int .i8 (H : Int)) := by rw [← hg1]; exact hA.cell (by omega)
  gi_wp2
  gi_loopw [7] (fun y wr => CellsOut J bp g y wr) (fun y _ => H - (intOf y).toNat)
  case atStart => exact ⟨0, by omega, rfl, [], by simp [upto], h0, hA⟩
  case round =>
    clear c1
    obtain ⟨k, hk, rfl, pre, hpre, hJ, hAr⟩ := hrel
    by_cases hlt : k < H
    · have hkd : decide ((k : Int) < H) = true := decide_eq_true (by omega)
      have c0 : wr.cell? ⟨bp, 0, none⟩ = some (.int .i8 (W : Int)) := by rw [← hg0]; exact hAr.cell (by omega)
      gi_wp2
      gi_loopw [12] (fun x wr => CellsRow J bp g k x wr) (fun x _ => W - (intOf x).toNat)
      case atStart => exact ⟨0, by omega, rfl, pre, hpre, hJ, hAr⟩
      case round =>
        clear c0
        obtain ⟨j, hj, rfl, pre2, hpre2, hJ2, hA2⟩ := hrel
        by_cases hjl : j < W
        · have hjd : decide ((j : Int) < W) = true := decide_eq_true (by omega)
          have hsp : #[Value.int .i8 (j : Int), Value.int .i8 (k : Int)] = arr 2 (sp j k) := rfl
          have hlen : pre2.length = k * W + j := by have := congrArg List.length hpre2; simpa [upto] using this
          have hbd : k * W + j < W * H := by
            have := Nat.mul_le_mul_right W (show k + 1 ≤ H by omega)
            rw [Nat.add_mul, Nat.one_mul, Nat.mul_comm H W] at this; omega
          have hnext : (pre2 ++ [(⟨(j, k), hjl, hlt⟩ : Cell W H)]).map (·.1) = upto W (k * W + j + 1) := by
            rw [List.map_append, hpre2, upto_succ, cellAt_row hjl]; rfl
          obtain ⟨fn, tmps, assign, body, hy, hR⟩ := hY pre2 ⟨(j, k), hjl, hlt⟩ _ hJ2 (by omega)
          dsimp only [encC] at hy
          have Hb := Lib.hid hbd
          have Hn := Lib.hid hnext
          have Hl := Lib.hid hlen
          clear hbd hnext hlen
          gi_wp2
          refine hR.mono ?_
          rintro e W3 (⟨rfl, hJ3, hk3⟩ | ⟨rfl, hJx3⟩)
          · gi_wp2
            go_roundw
            case rel => exact (⟨j + 1, by omega, by go_num, _, Hn.out, hJ3, hk3 hA2⟩ : CellsRow J bp g k _ _)
            case measure => simp [intOf]; omega
          · gi_wp2
            refine bodyPost_ret (results_none rfl _ _ _) rfl ?_
            exact ⟨⟨_, rfl⟩, .inr ⟨_, ⟨_, Hb.out, Hn.out⟩, hJx3⟩⟩
        · obtain rfl : j = W := by omega
          gi_wp2
          go_roundw
          case rel => exact (⟨k + 1, by omega, by go_num, pre2, by rw [hpre2, Nat.add_mul, Nat.one_mul], hJ2, hA2⟩ : CellsOut J bp g _ _)
          case measure => simp [intOf]; omega
    · obtain rfl : k = H := by omega
      gi_wp2
      go_end0
      exact ⟨⟨_, rfl⟩, .inl ⟨pre, by rw [hpre, Nat.mul_comm], hJ⟩⟩

def CellsGiven (g : Nat → Int) (w : World) (e : Ending) (w' : World) : Prop := ∃ b, e = .returned (.func (.func 104) #[] #[.pointer (some ⟨b, 0, none⟩)]) ∧ w.heap.size ≤ b ∧ At w' b 122 (pas g) ∧ Below w.heap.size w w'
theorem cells_any (g : Nat → Int) (w : World) : Calls Tryd.prog 73 #[.agg (arr 122 (pas g))] w (CellsGiven g w) := by
  have hM := Mem.nil w
  have tk_b1 : True := trivial
  go_enter Tryd.func73, Tryd.ntmps73
  go_wp2_with (first | (have _t := tk_b1; refine wpList_box rfl _ _ rfl _ _ rfl hM ?_; intro b1 W' hb1 hM'; clear hM tk_b1; have hM := hM'; clear hM'))
  go_ret
  exact ⟨b1, rfl, hb1, hM.at0, hM.below⟩

theorem cells_stops (F : Fence) (n : Nat) (hf : F.fn 104) (hro : F.round = none) (hn : 1 ≤ n) (bp W H : Nat) (hW10 : W ≤ 10) (hH10 : H ≤ 10) (g : Nat → Int) (hg0 : g 0 = W) (hg1 : g 1 = H) (w : World) (hA : At w bp 122 (pas g)) :
    SeqStopsK F n Tryd.prog 104 #[.pointer (some ⟨bp, 0, none⟩)] (encC (W := W) (H := H)) (KpP bp g) (fun xs => xs.map (·.1) = upto W (W * H)) (fun pre => ∃ i, i ≤ W * H ∧ pre.map (·.1) = upto W i) (W * H) w :=
  fun l J Jx W' hb _ _ hY h0 => cells1_in F n hf hro hn l bp W H hW10 hH10 g hg0 hg1 J Jx hY W' (hA.below hb hA.lt) h0

theorem kpP_t {bp : Nat} {g : Nat → Int} {A B C : World} (h : KpP bp g A B) (k : KpP bp g B C) : KpP bp g A C := fun x => k (h x)
theorem kpP_b {bp : Nat} {g : Nat → Int} (W : World) (l : Nat) (o o' : Obj) (h : W.heap[l]? = some o) (ho : o.isCells = false) : KpP bp g W (W.putObj l o') := fun hA =>
  hA.grown (grownBy_putObj' W l o') (fun r e => by cases e; exact ⟨o, h, ho⟩)
end Go.Proofs.YtjfmhnbbdkejeaaDoor

/-
  spec.l01Ok by contract: is a pasture valid?
-/
namespace Go.Proofs.YtjfmhnbbdkejeaaDoor
open Go Go.RowKit Go.BigFrame

/-- A cell's grass is as it may be. -/
def cellOk (g : Nat → Int) (y x : Nat) : Bool := inB 0 1000 (g (2 + y * 10 + x)) && (decide (g (2 + y * 10 + x) ≤ 0) || isB g x y)
def mask (g : Nat → Int) : Int := IntKind.u16.wrap (IntKind.u16.wrap (2 ^ (g 0).toNat) - 1)
def badE (g : Nat → Int) (k : Nat) : Bool := bits .andNot .u16 (g (102 + k)) (if (k : Int) < g 1 then mask g / 2 else 0) != 0
def badS (g : Nat → Int) (k : Nat) : Bool := bits .andNot .u16 (g (112 + k)) (if (k : Int) < g 1 - 1 then mask g else 0) != 0
def rowOk (g : Nat → Int) (y : Nat) : Bool := (List.range 10).all (cellOk g y) && !badE g y && !badS g y
/-- Is a pasture valid? -/
def okB (g : Nat → Int) : Bool := inB 1 10 (g 0) && inB 1 10 (g 1) && (List.range 10).all (rowOk g)

theorem badE_in {g : Nat → Int} {k : Nat} (h : (k : Int) < g 1) : badE g k = (bits .andNot .u16 (g (102 + k)) (IntKind.u16.wrap (IntKind.u16.wrap (2 ^ (g 0).toNat) - 1) / 2) != 0) := by simp [badE, mask, h]
theorem badE_out {g : Nat → Int} {k : Nat} (h : g 1 ≤ (k : Int)) : badE g k = (bits .andNot .u16 (g (102 + k)) 0 != 0) := by
  have : ¬ (k : Int) < g 1 := by omega
  simp [badE, this]
theorem badS_in {g : Nat → Int} {k : Nat} (h : (k : Int) < g 1 - 1) : badS g k = (bits .andNot .u16 (g (112 + k)) (IntKind.u16.wrap (IntKind.u16.wrap (2 ^ (g 0).toNat) - 1)) != 0) := by simp [badS, mask, h]
theorem badS_out {g : Nat → Int} {k : Nat} (h : g 1 - 1 ≤ (k : Int)) : badS g k = (bits .andNot .u16 (g (112 + k)) 0 != 0) := by
  have : ¬ (k : Int) < g 1 - 1 := by omega
  simp [badS, this]
theorem rowOk_cell {g : Nat → Int} {y x : Nat} (hx : x < 10) (h : cellOk g y x = false) : rowOk g y = false := by
  have : (List.range 10).all (cellOk g y) = false := by rw [List.all_eq_false]; exact ⟨x, by simpa using hx, by rw [h]; decide⟩
  simp [rowOk, this]
theorem rowOk_E {g : Nat → Int} {y : Nat} (h : badE g y = true) : rowOk g y = false := by simp [rowOk, h]
theorem rowOk_S {g : Nat → Int} {y : Nat} (h : badS g y = true) : rowOk g y = false := by simp [rowOk, h]
theorem rowOk_yes {g : Nat → Int} {y : Nat} (hc : ∀ x, x < 10 → cellOk g y x = true) (hE : badE g y = false) (hS : badS g y = false) : rowOk g y = true := by
  have : (List.range 10).all (cellOk g y) = true := by rw [List.all_eq_true]; intro x hx; exact hc x (by simpa using hx)
  simp [rowOk, this, hE, hS]
theorem okB_no {g : Nat → Int} {y : Nat} (hy : y < 10) (h : rowOk g y = false) : okB g = false := by
  have : (List.range 10).all (rowOk g) = false := by rw [List.all_eq_false]; exact ⟨y, by simpa using hy, by rw [h]; decide⟩
  simp [okB, this]
theorem okB_yes {g : Nat → Int} (b0 : inB 1 10 (g 0) = true) (b1 : inB 1 10 (g 1) = true) (h : ∀ y, y < 10 → rowOk g y = true) : okB g = true := by
  have : (List.range 10).all (rowOk g) = true := by rw [List.all_eq_true]; intro x hx; exact h x (by simpa using hx)
  simp [okB, this, b0, b1]

def OkIn (w : World) (g : Nat → Int) (bp k : Nat) (x : Value) (wr : World) : Prop := ∃ j : Nat, j ≤ 10 ∧ x = .int .i8 j ∧ (∀ i, i < j → cellOk g k i = true) ∧ Mem w [(bp, 122, pas g)] wr
theorem OkIn.step {w : World} {g : Nat → Int} {bp k j : Nat} {W : World} (hj : j < 10) (h : ∀ i, i < j → cellOk g k i = true) (hc : cellOk g k j = true) (hM : Mem w [(bp, 122, pas g)] W) : OkIn w g bp k (.int .i8 ((j : Int) + 1)) W :=
  ⟨j + 1, by omega, by go_num, fun i hi => by
    by_cases e : i = j
    · rw [e]; exact hc
    · exact h i (by omega), hM⟩

set_option maxRecDepth 100000 in
set_option maxHeartbeats 4000000 in
theorem l01Ok_any (g : Nat → Int) (hg : Fits g) (bp : Nat) (w : World) (hA : At w bp 122 (pas g)) :
    Calls Tryd.prog 70 #[.pointer (some ⟨bp, 0, none⟩)] w fun e w' => e = .returned (.bool (okB g)) ∧ Below w.heap.size w w' := by
  have hM : Mem w [(bp, 122, pas g)] w := (Mem.nil w).old hA (fun i p h => by simp at h)
  have Hg := Lib.hid hg
  obtain ⟨hw, hh, hgr, hbt⟩ := hg
  have Hgr := Lib.hid hgr
  have Hbt := Lib.hid hbt
  clear hgr hbt
  have e0 : pas g 0 = .int .i8 (g 0) := rfl
  have e1 : pas g 1 = .int .i8 (g 1) := rfl
  cases b0 : inB 1 10 (g 0)
  · have hf : Hid (okB g = false) := Lib.hid (by simp [okB, b0])
    go_enter Tryd.func70, Tryd.ntmps70
    go_wp2_with (first | (refine wpList_get1 rfl _ _ rfl _ _ rfl hM 0 rfl (cellTab _ rfl) (by omega) _ rfl ?_) | (go_at_call 46; refine (l00In_any _ _ _ _).mono ?_; rintro e W' ⟨rfl, hb'⟩; have hM' := hM.call hb'; clear hM hb'; have hM := hM'; clear hM'))
    go_ret
    exact ⟨ret_bool hf.out.symm, hM.below⟩
  cases b1 : inB 1 10 (g 1)
  · have hf : Hid (okB g = false) := Lib.hid (by simp [okB, b1])
    go_enter Tryd.func70, Tryd.ntmps70
    go_wp2_with (first | (refine wpList_get1 rfl _ _ rfl _ _ rfl hM 0 rfl (cellTab _ rfl) (by omega) _ rfl ?_) | (refine wpList_gget1 ?_ _ _ rfl _ _ rfl hM 0 rfl (cellTab _ rfl) (by omega) _ rfl ?_; kernel_rfl) | (go_at_call 46; refine (l00In_any _ _ _ _).mono ?_; rintro e W' ⟨rfl, hb'⟩; have hM' := hM.call hb'; clear hM hb'; have hM := hM'; clear hM'))
    go_ret
    exact ⟨ret_bool hf.out.symm, hM.below⟩
  have h0 := inB_true b0
  have h1 := inB_true b1
  go_enter Tryd.func70, Tryd.ntmps70
  go_wp2_with (first | (refine wpList_get1 rfl _ _ rfl _ _ rfl hM 0 rfl (cellTab _ rfl) (by omega) _ rfl ?_) | (refine wpList_gget1 ?_ _ _ rfl _ _ rfl hM 0 rfl (cellTab _ rfl) (by omega) _ rfl ?_; kernel_rfl) | (go_at_call 46; refine (l00In_any _ _ _ _).mono ?_; rintro e W' ⟨rfl, hb'⟩; have hM' := hM.call hb'; clear hM hb'; have hM := hM'; clear hM'))
  go_loopw [3] (fun y wr => ∃ k : Nat, k ≤ 10 ∧ y = .int .i8 k ∧ Hid (∀ i, i < k → rowOk g i = true) ∧ Mem w [(bp, 122, pas g)] wr) (fun y _ => 10 - (intOf y).toNat)
  case atStart => exact ⟨0, by omega, rfl, Lib.hid (fun i hi => absurd hi (by omega)), hM⟩
  case round =>
    clear hM
    obtain ⟨k, hk, rfl, hrows, hM⟩ := hrel
    by_cases hlt : k < 10
    · have hkd : decide ((k : Int) < 10) = true := decide_eq_true (by omega)
      go_wp2
      go_loopw [4] (fun x wr => OkIn w g bp k x wr) (fun x _ => 10 - (intOf x).toNat)
      case atStart => exact ⟨0, by omega, rfl, fun i hi => absurd hi (by omega), hM⟩
      case round =>
        clear hM
        obtain ⟨j, hj, rfl, hcells0, hM⟩ := hrel
        have hcells := Lib.hid hcells0
        clear hcells0
        by_cases hjlt : j < 10
        · have hjd : decide ((j : Int) < 10) = true := decide_eq_true (by omega)
          have ec : pas g (2 + k * 10 + j) = .int .i16 (g (2 + k * 10 + j)) := pas_i16 g (by omega) (by omega)
          have hG := Hgr.out (2 + k * 10 + j) (by omega) (by omega)
          have hsp : #[Value.int .i8 (j : Int), Value.int .i8 (k : Int)] = arr 2 (sp j k) := rfl
          cases hc : inB 0 1000 (g (2 + k * 10 + j))
          · have hf : Hid (okB g = false) := Lib.hid (okB_no hlt (rowOk_cell hjlt (by simp [cellOk, hc])))
            go_wp2_with (first | (refine wpList_get1 rfl _ _ rfl _ _ rfl hM 0 rfl (cellTab _ rfl) (by omega) _ rfl ?_) | (go_at_call 59; refine (l01Grass_any _ _).mono ?_; rintro e W' ⟨rfl, hb'⟩; have hM' := hM.call hb'; clear hM hb'; have hM := hM'; clear hM'))
            go_ret
            exact ⟨ret_bool hf.out.symm, hM.below⟩
          · by_cases hp : 0 < g (2 + k * 10 + j)
            · cases hi : isB g j k
              · have hf : Hid (okB g = false) := Lib.hid (okB_no hlt (rowOk_cell hjlt (by simp [cellOk, hi]; omega)))
                go_wp2_with (first | (refine wpList_get1 rfl _ _ rfl _ _ rfl hM 0 rfl (cellTab _ rfl) (by omega) _ rfl ?_) | (go_at_call 59; refine (l01Grass_any _ _).mono ?_; rintro e W' ⟨rfl, hb'⟩; have hM' := hM.call hb'; clear hM hb'; have hM := hM'; clear hM') | (go_at_call 90; refine (l01Is_any g Hg.out bp _ _ (by omega) (by omega) _ (hM.at0)).mono ?_; rintro e W' ⟨rfl, hb'⟩; have hM' := hM.call hb'; clear hM hb'; have hM := hM'; clear hM'))
                go_ret
                exact ⟨ret_bool hf.out.symm, hM.below⟩
              · have hf : Hid (cellOk g k j = true) := Lib.hid (by simp [cellOk, hi, hc])
                go_wp2_with (first | (refine wpList_get1 rfl _ _ rfl _ _ rfl hM 0 rfl (cellTab _ rfl) (by omega) _ rfl ?_) | (go_at_call 59; refine (l01Grass_any _ _).mono ?_; rintro e W' ⟨rfl, hb'⟩; have hM' := hM.call hb'; clear hM hb'; have hM := hM'; clear hM') | (go_at_call 90; refine (l01Is_any g Hg.out bp _ _ (by omega) (by omega) _ (hM.at0)).mono ?_; rintro e W' ⟨rfl, hb'⟩; have hM' := hM.call hb'; clear hM hb'; have hM := hM'; clear hM'))
                go_roundw
                case rel => first | exact OkIn.step hjlt hcells.out hf.out hM | ((repeat apply Exists.intro); exact ⟨OkIn.step hjlt hcells.out hf.out hM, rfl⟩)
                case measure => simp [intOf]; omega
            · have hf : Hid (cellOk g k j = true) := Lib.hid (by simp [cellOk, hc]; left; omega)
              go_wp2_with (first | (refine wpList_get1 rfl _ _ rfl _ _ rfl hM 0 rfl (cellTab _ rfl) (by omega) _ rfl ?_) | (go_at_call 59; refine (l01Grass_any _ _).mono ?_; rintro e W' ⟨rfl, hb'⟩; have hM' := hM.call hb'; clear hM hb'; have hM := hM'; clear hM'))
              go_roundw
              case rel => first | exact OkIn.step hjlt hcells.out hf.out hM | ((repeat apply Exists.intro); exact ⟨OkIn.step hjlt hcells.out hf.out hM, rfl⟩)
              case measure => simp [intOf]; omega
        · obtain rfl : j = 10 := by omega
          have eE : pas g (102 + k) = .int .u16 (g (102 + k)) := pas_u16 g (by omega)
          have eS : pas g (112 + k) = .int .u16 (g (112 + k)) := pas_u16 g (by omega)
          have hE := Hbt.out (102 + k) (by omega) (by omega)
          have hS := Hbt.out (112 + k) (by omega) (by omega)
          go_wp2_with (first | (refine wpList_get1 rfl _ _ rfl _ _ rfl hM 0 rfl (cellTab _ rfl) (by omega) _ rfl ?_))
          all_goals first
            | (go_ret; exact ⟨ret_bool (okB_no hlt (rowOk_E (by first | (rw [badE_in (by assumption)]; assumption) | (rw [badE_out (by assumption)]; assumption)))).symm, hM.below⟩)
            | (go_ret; exact ⟨ret_bool (okB_no hlt (rowOk_S (by first | (rw [badS_in (by assumption)]; assumption) | (rw [badS_out (by assumption)]; assumption)))).symm, hM.below⟩)
            | skip
          all_goals
            go_roundw
            case rel => exact ⟨k + 1, by omega, by go_num, Lib.hid (fun i hi => by
              by_cases e : i = k
              · rw [e]
                exact rowOk_yes hcells.out (by first | (rw [badE_in (by assumption)]; assumption) | (rw [badE_out (by assumption)]; assumption)) (by first | (rw [badS_in (by assumption)]; assumption) | (rw [badS_out (by assumption)]; assumption))
              · exact hrows.out i (by omega)), hM⟩
            case measure => simp [intOf]; omega
    · obtain rfl : k = 10 := by omega
      have hf : Hid (okB g = true) := Lib.hid (okB_yes b0 b1 hrows.out)
      go_wp2
      go_ret
      exact ⟨ret_bool hf.out.symm, hM.below⟩
end Go.Proofs.YtjfmhnbbdkejeaaDoor

