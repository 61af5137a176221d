/-
  THE ERRORS OF THE PACKAGE: what the rows' condition gives of them, errors.Is on them, and impl.codeOf by contract.
-/
import Derived.Test.YtdlfhomnlhdacaaDoorRows
import Derived.Test.YtdlfhomnlhdacaaDoorTypes
import Derived.Test.YtdlfhomnlhdacaaDoorFrame
import Derived.WalkKit
import Derived.LaidEql
import Derived.LaidLaws
import Derived.Stop.Asserts
import Derived.Stop.LaidErr
import Derived.RowKitTokens
import Derived.MakeChecks
namespace Go.Proofs.YtdlfhomnlhdacaaDoor
open Go Go.RowKit Go.ChangeShapes Go.Extern.Stop Go.Stop Go.Extern Go.BigFrame

def errG (k : Nat) : Nat :=
  match k with
  | 0 => 0
  | 1 => 1
  | 2 => 3
  | 3 => 4
  | 4 => 5
  | 5 => 2
  | _ => 6
/-- The error at an address, as a value. -/
def errV (a : Addr) : Value := .iface 147 (.pointer (some a))
/-- Which errors the variables hold, each another one. -/
structure Errs (a : Nat → Addr) (W : World) : Prop where
  vars : ∀ k, k < 7 → W.cell? ⟨errG k, 0, none⟩ = some (errV (a k))
  cells : ∀ k, k < 7 → ∃ c t, W.heap[(a k).block]? = some (.cells c t (0, 0))
  apart : ∀ i j, i < 7 → j < 7 → i ≠ j → a i ≠ a j

theorem cell_below {N : Nat} {W W' : World} (hb : Below N W W') {x : Addr} (hlt : x.block < N) : W'.cell? x = W.cell? x := by
  unfold World.cell?
  rw [hb.block _ hlt]
theorem Errs.below {a : Nat → Addr} {W W' : World} (h : Errs a W) (hb : Below W.heap.size W W') : Errs a W' :=
  ⟨fun k hk => by
    have hc := h.vars k hk
    rw [cell_below hb (block_lt_of_cell hc)]; exact hc,
   fun k hk => by
    obtain ⟨c, t, hc⟩ := h.cells k hk
    exact ⟨c, t, (hb.block _ (Array.getElem?_eq_some_iff.1 hc).1).trans hc⟩,
   h.apart⟩

/-! ### What a row's condition gives -/
theorem row_errT (u : TypeId) (h : Tryd.prog.typeName? 3 u = some "*errors.errorString") : u = 147 :=
  typeName_ptr_named (nm := "errors.errorString") (by rw [show "*" ++ "errors.errorString" = "*errors.errorString" by decide]; kernel_rfl) (by kernel_rfl) (by decide) u (by rw [show "*" ++ "errors.errorString" = "*errors.errorString" by decide]; exact h)
theorem cells_es : Tryd.prog.cellsOf 173 = 1 := by kernel_rfl
theorem cells_str : Tryd.prog.cellsOf 9 = 1 := by kernel_rfl
def errName (k : Nat) : String :=
  match k with
  | 0 => "loop.example/g01345/impl.errInvalid"
  | 1 => "loop.example/g01345/impl.errRange"
  | 2 => "loop.example/g01345/impl.errState"
  | 3 => "loop.example/g01345/impl.errSyntax"
  | 4 => "loop.example/g01345/impl.errNotFound"
  | 5 => "loop.example/g01345/impl.errLimit"
  | _ => "loop.example/g01345/impl.errBudget"
theorem err_named (k : Nat) (hk : k < 7) : Tryd.prog.globalNamed (errName k) = some (errG k) ∧ (Tryd.prog.globals[errG k]?).map (·.type) = some 71 := by
  have : k = 0 ∨ k = 1 ∨ k = 2 ∨ k = 3 ∨ k = 4 ∨ k = 5 ∨ k = 6 := by omega
  rcases this with rfl | rfl | rfl | rfl | rfl | rfl | rfl <;> exact ⟨by kernel_rfl, by kernel_rfl⟩

set_option maxRecDepth 100000 in
/-- One variable's error, and its two places. -/
theorem err_of_laid {W : World} (k : Nat) (hk : k < 7) {g : Nat} {t : TypeId} {cs : Array Value} {fuel : Nat} {p : List MemPlace} {text : List UInt8}
    (hg : Tryd.prog.globalNamed (errName k) = some g) (ht : (Tryd.prog.globals[g]?).map (·.type) = some t) (hv : W.var? Tryd.prog (errName k) = some cs)
    (hd : DataW.trod (fun _ => ()) Tryd.prog W 0 (fun _ => true) false fuel t cs.toList = some (.iface "*errors.errorString" (.ptr (.agg [.lit (.string text)])), p))
    (hr : ∀ b off, MemPlace.cell b off ∈ MemPlace.row ⟨g, 0, none⟩ cs.size ++ p → (∃ c t, W.heap[b]? = some (.cells c t (0, 0))) ∧ ∀ u v, W.cell? ⟨b, off, none⟩ = some (.iface u v) → Value.okWide Tryd.prog W .any 0 u v) :
    ∃ a : Addr, W.cell? ⟨errG k, 0, none⟩ = some (errV a) ∧ (∃ c t, W.heap[a.block]? = some (.cells c t (0, 0))) ∧ p = MemPlace.row a 1 := by
  obtain ⟨n1, n2⟩ := err_named k hk
  obtain rfl := Option.some.inj (n1.symm.trans hg)
  obtain rfl := Option.some.inj (n2.symm.trans ht)
  obtain ⟨l0⟩ := cs
  have ok0 : ∀ u v, l0 = [.iface u v] → Value.okWide Tryd.prog W .any 0 u v := fun u v e => by
    subst e
    exact (hr (errG k) 0 (by simp [MemPlace.row])).2 u v (by simpa using World.var?_cell hg hv 0)
  obtain ⟨a0, s0, rfl, hc0, hs0, hz0, rfl⟩ := errorString_of_trod Tryd.underlying71 row_errT Tryd.underlying147 Tryd.underlying173 rfl rfl Tryd.underlying9 cells_es cells_str hd ok0
  exact ⟨a0, by simpa [errV] using World.var?_cell hg hv 0, (hr a0.block a0.off (by simp [MemPlace.row])).1, rfl⟩

theorem row1_ne {a b : Addr} {l : List MemPlace} (h : (MemPlace.row a 1 ++ l).Nodup) (hb : MemPlace.cell b.block b.off ∈ l) : a ≠ b := by
  rintro rfl
  simp [MemPlace.row] at h
  exact h.1 hb

def errsLaid : List (String × DataW Unit) := Rows.fnExactGrassAtRow.laid

theorem errs_of_laid {W : World} (h : laidMetH Tryd.prog errsLaid W) : ∃ a, Errs a W := by
  rw [MakeChecks.laidMetH_plain _ _ _ (by kernel_rfl)] at h
  obtain ⟨ps, ⟨g0, t0, cs0, f0, p0, q0, hg0, ht0, hv0, hd0, ⟨g1, t1, cs1, f1, p1, q1, hg1, ht1, hv1, hd1, ⟨g5, t5, cs5, f5, p5, q5, hg5, ht5, hv5, hd5, ⟨g2, t2, cs2, f2, p2, q2, hg2, ht2, hv2, hd2, ⟨g3, t3, cs3, f3, p3, q3, hg3, ht3, hv3, hd3, ⟨g4, t4, cs4, f4, p4, q4, hg4, ht4, hv4, hd4, ⟨g6, t6, cs6, f6, p6, q6, hg6, ht6, hv6, hd6, _, e6⟩, e4⟩, e3⟩, e2⟩, e5⟩, e1⟩, e0⟩, hnd, hrows⟩ := h
  subst e6 e4 e3 e2 e5 e1 e0
  obtain ⟨a0, v0, c0, rfl⟩ := err_of_laid 0 (by omega) hg0 ht0 hv0 hd0 (fun b off hm => hrows b off (by simp only [List.mem_append] at hm ⊢; rcases hm with h | h <;> simp [h]))
  obtain ⟨a1, v1, c1, rfl⟩ := err_of_laid 1 (by omega) hg1 ht1 hv1 hd1 (fun b off hm => hrows b off (by simp only [List.mem_append] at hm ⊢; rcases hm with h | h <;> simp [h]))
  obtain ⟨a5, v5, c5, rfl⟩ := err_of_laid 5 (by omega) hg5 ht5 hv5 hd5 (fun b off hm => hrows b off (by simp only [List.mem_append] at hm ⊢; rcases hm with h | h <;> simp [h]))
  obtain ⟨a2, v2, c2, rfl⟩ := err_of_laid 2 (by omega) hg2 ht2 hv2 hd2 (fun b off hm => hrows b off (by simp only [List.mem_append] at hm ⊢; rcases hm with h | h <;> simp [h]))
  obtain ⟨a3, v3, c3, rfl⟩ := err_of_laid 3 (by omega) hg3 ht3 hv3 hd3 (fun b off hm => hrows b off (by simp only [List.mem_append] at hm ⊢; rcases hm with h | h <;> simp [h]))
  obtain ⟨a4, v4, c4, rfl⟩ := err_of_laid 4 (by omega) hg4 ht4 hv4 hd4 (fun b off hm => hrows b off (by simp only [List.mem_append] at hm ⊢; rcases hm with h | h <;> simp [h]))
  obtain ⟨a6, v6, c6, rfl⟩ := err_of_laid 6 (by omega) hg6 ht6 hv6 hd6 (fun b off hm => hrows b off (by simp only [List.mem_append] at hm ⊢; rcases hm with h | h <;> simp [h]))
  have key : (MemPlace.row a0 1 ++ (MemPlace.row a1 1 ++ (MemPlace.row a5 1 ++ (MemPlace.row a2 1 ++ (MemPlace.row a3 1 ++ (MemPlace.row a4 1 ++ MemPlace.row a6 1)))))).Nodup := by
    refine List.Nodup.sublist ?_ hnd
    simp only [List.append_assoc]
    refine List.Sublist.trans ?_ (List.sublist_append_right _ _)
    refine List.Sublist.append (List.Sublist.refl _) (List.Sublist.trans ?_ (List.sublist_append_right _ _))
    refine List.Sublist.append (List.Sublist.refl _) (List.Sublist.trans ?_ (List.sublist_append_right _ _))
    refine List.Sublist.append (List.Sublist.refl _) (List.Sublist.trans ?_ (List.sublist_append_right _ _))
    refine List.Sublist.append (List.Sublist.refl _) (List.Sublist.trans ?_ (List.sublist_append_right _ _))
    refine List.Sublist.append (List.Sublist.refl _) (List.Sublist.trans ?_ (List.sublist_append_right _ _))
    refine List.Sublist.append (List.Sublist.refl _) (List.Sublist.trans ?_ (List.sublist_append_right _ _))
    exact List.sublist_append_left _ _
  have k1 := List.Nodup.sublist (List.sublist_append_right _ _) key
  have k2 := List.Nodup.sublist (List.sublist_append_right _ _) k1
  have k3 := List.Nodup.sublist (List.sublist_append_right _ _) k2
  have k4 := List.Nodup.sublist (List.sublist_append_right _ _) k3
  have k5 := List.Nodup.sublist (List.sublist_append_right _ _) k4
  have z0_1 := row1_ne key (b := a1) (by simp [MemPlace.row])
  have z0_5 := row1_ne key (b := a5) (by simp [MemPlace.row])
  have z0_2 := row1_ne key (b := a2) (by simp [MemPlace.row])
  have z0_3 := row1_ne key (b := a3) (by simp [MemPlace.row])
  have z0_4 := row1_ne key (b := a4) (by simp [MemPlace.row])
  have z0_6 := row1_ne key (b := a6) (by simp [MemPlace.row])
  have z1_5 := row1_ne k1 (b := a5) (by simp [MemPlace.row])
  have z1_2 := row1_ne k1 (b := a2) (by simp [MemPlace.row])
  have z1_3 := row1_ne k1 (b := a3) (by simp [MemPlace.row])
  have z1_4 := row1_ne k1 (b := a4) (by simp [MemPlace.row])
  have z1_6 := row1_ne k1 (b := a6) (by simp [MemPlace.row])
  have z5_2 := row1_ne k2 (b := a2) (by simp [MemPlace.row])
  have z5_3 := row1_ne k2 (b := a3) (by simp [MemPlace.row])
  have z5_4 := row1_ne k2 (b := a4) (by simp [MemPlace.row])
  have z5_6 := row1_ne k2 (b := a6) (by simp [MemPlace.row])
  have z2_3 := row1_ne k3 (b := a3) (by simp [MemPlace.row])
  have z2_4 := row1_ne k3 (b := a4) (by simp [MemPlace.row])
  have z2_6 := row1_ne k3 (b := a6) (by simp [MemPlace.row])
  have z3_4 := row1_ne k4 (b := a4) (by simp [MemPlace.row])
  have z3_6 := row1_ne k4 (b := a6) (by simp [MemPlace.row])
  have z4_6 := row1_ne k5 (b := a6) (by simp [MemPlace.row])
  refine ⟨fun k => match k with | 0 => a0 | 1 => a1 | 2 => a2 | 3 => a3 | 4 => a4 | 5 => a5 | _ => a6, ?_, ?_, ?_⟩
  · intro k hk
    match k, hk with
    | 0, _ => exact v0
    | 1, _ => exact v1
    | 2, _ => exact v2
    | 3, _ => exact v3
    | 4, _ => exact v4
    | 5, _ => exact v5
    | 6, _ => exact v6
  · intro k hk
    match k, hk with
    | 0, _ => exact c0
    | 1, _ => exact c1
    | 2, _ => exact c2
    | 3, _ => exact c3
    | 4, _ => exact c4
    | 5, _ => exact c5
    | 6, _ => exact c6
  · intro i j hi hj hne
    match i, j, hi, hj, hne with
    | 0, 0, _, _, h => exact absurd rfl h
    | 0, 1, _, _, _ => exact z0_1
    | 0, 2, _, _, _ => exact z0_2
    | 0, 3, _, _, _ => exact z0_3
    | 0, 4, _, _, _ => exact z0_4
    | 0, 5, _, _, _ => exact z0_5
    | 0, 6, _, _, _ => exact z0_6
    | 1, 0, _, _, _ => exact z0_1.symm
    | 1, 1, _, _, h => exact absurd rfl h
    | 1, 2, _, _, _ => exact z1_2
    | 1, 3, _, _, _ => exact z1_3
    | 1, 4, _, _, _ => exact z1_4
    | 1, 5, _, _, _ => exact z1_5
    | 1, 6, _, _, _ => exact z1_6
    | 2, 0, _, _, _ => exact z0_2.symm
    | 2, 1, _, _, _ => exact z1_2.symm
    | 2, 2, _, _, h => exact absurd rfl h
    | 2, 3, _, _, _ => exact z2_3
    | 2, 4, _, _, _ => exact z2_4
    | 2, 5, _, _, _ => exact z5_2.symm
    | 2, 6, _, _, _ => exact z2_6
    | 3, 0, _, _, _ => exact z0_3.symm
    | 3, 1, _, _, _ => exact z1_3.symm
    | 3, 2, _, _, _ => exact z2_3.symm
    | 3, 3, _, _, h => exact absurd rfl h
    | 3, 4, _, _, _ => exact z3_4
    | 3, 5, _, _, _ => exact z5_3.symm
    | 3, 6, _, _, _ => exact z3_6
    | 4, 0, _, _, _ => exact z0_4.symm
    | 4, 1, _, _, _ => exact z1_4.symm
    | 4, 2, _, _, _ => exact z2_4.symm
    | 4, 3, _, _, _ => exact z3_4.symm
    | 4, 4, _, _, h => exact absurd rfl h
    | 4, 5, _, _, _ => exact z5_4.symm
    | 4, 6, _, _, _ => exact z4_6
    | 5, 0, _, _, _ => exact z0_5.symm
    | 5, 1, _, _, _ => exact z1_5.symm
    | 5, 2, _, _, _ => exact z5_2
    | 5, 3, _, _, _ => exact z5_3
    | 5, 4, _, _, _ => exact z5_4
    | 5, 5, _, _, h => exact absurd rfl h
    | 5, 6, _, _, _ => exact z5_6
    | 6, 0, _, _, _ => exact z0_6.symm
    | 6, 1, _, _, _ => exact z1_6.symm
    | 6, 2, _, _, _ => exact z2_6.symm
    | 6, 3, _, _, _ => exact z3_6.symm
    | 6, 4, _, _, _ => exact z4_6.symm
    | 6, 5, _, _, _ => exact z5_6.symm
    | 6, 6, _, _, h => exact absurd rfl h

/-! ### CLOSED FACTS -/
theorem isTypeOf (v : Value) (w : World) : (Extern.ReflectliteType.typeOf #[.iface 147 v]).run Tryd.prog w = .ok (.iface 133 (.agg #[.pointer (some ⟨7, 147, none⟩)])) w := by kernel_rfl
theorem isComparable (w : World) : (callFunc 137 #[.agg #[.pointer (some ⟨7, 147, none⟩)]]).run Tryd.prog w = .ok (.value (.bool true)) w := by
  rw [@run_callFunc_extern Tryd.prog 137 _ (Extern.ReflectliteType.method fun t => do Extern.Rtype.noPackHeld "Comparable" t; pure (.bool (← typeInfo t).comparable)) Tryd.func137 (by kernel_rfl) (by kernel_rfl) (by kernel_rfl) (by kernel_rfl)]
  kernel_rfl
theorem isMethodComparable (v : Value) (w : World) : (Go.method 284 133 v "Comparable").run Tryd.prog w = .ok (137, v) w := by kernel_rfl
theorem isComp : (Tryd.prog.info? 147).map (·.comparable) = some true := by kernel_rfl
theorem isSize : (Tryd.prog.info? 173).map (·.size) = some 1 := by kernel_rfl
theorem noIsE (v : Value) (xT : TypeId) (w : World) : (Instr.typeAssert (.iface 147 v) xT 135 true).run Tryd.prog w = .ok (.tuple #[.nilIface, .bool false]) w := run_typeAssert_lacksB Tryd.underlying135 (by kernel_rfl) (by kernel_rfl) v xT w
theorem noUnwrapE (v : Value) (xT : TypeId) (w : World) : (Instr.typeAssert (.iface 147 v) xT 138 true).run Tryd.prog w = .ok (.tuple #[.nilIface, .bool false]) w := run_typeAssert_lacksB Tryd.underlying138 (by kernel_rfl) (by kernel_rfl) v xT w
theorem noUnwrapsE (v : Value) (xT : TypeId) (w : World) : (Instr.typeAssert (.iface 147 v) xT 140 true).run Tryd.prog w = .ok (.tuple #[.nilIface, .bool false]) w := run_typeAssert_lacksB Tryd.underlying140 (by kernel_rfl) (by kernel_rfl) v xT w

set_option maxRecDepth 100000 in
/-- errors.Is(x, x). -/
theorem is_same (a : Addr) (w : World) :
    Calls Tryd.prog 87 #[errV a, errV a] w fun e w' => e = .returned (.bool true) ∧ w' = w := by
  obtain ⟨i, hi, hcmp⟩ := Option.map_eq_some_iff.1 isComp
  obtain ⟨j, hj, hjs⟩ := Option.map_eq_some_iff.1 isSize
  have h8 := @run_callFunc_extern Tryd.prog 101 _ Extern.ReflectliteType.typeOf Tryd.func101 (by kernel_rfl) (by kernel_rfl) (by kernel_rfl) (by kernel_rfl)
  have tT := isTypeOf
  have cT := isComparable
  have mR := isMethodComparable
  have heq := run_eql_iface_ptr_same (P := Tryd.prog) w a Tryd.underlying71 Tryd.underlying147 hi hcmp hj
  unfold errV
  go_enter Tryd.func87, Tryd.ntmps87
  go_wp2
  refine wp_loop_rounds 1 ?_
  rw [rounds_succ]
  go_wp2
  go_ret
  exact ⟨rfl, rfl⟩

set_option maxRecDepth 100000 in
/-- errors.Is(x, y), two different errors. -/
theorem is_other (a b : Addr) (ca cb : Array Value) (ta tb : TypeId) (w : World) (hne : a ≠ b) (ha : w.heap[a.block]? = some (.cells ca ta (0, 0))) (hb : w.heap[b.block]? = some (.cells cb tb (0, 0))) :
    Calls Tryd.prog 87 #[errV a, errV b] w fun e w' => e = .returned (.bool false) ∧ w' = w := by
  obtain ⟨i, hi, hcmp⟩ := Option.map_eq_some_iff.1 isComp
  obtain ⟨j, hj, hjs⟩ := Option.map_eq_some_iff.1 isSize
  have h8 := @run_callFunc_extern Tryd.prog 101 _ Extern.ReflectliteType.typeOf Tryd.func101 (by kernel_rfl) (by kernel_rfl) (by kernel_rfl) (by kernel_rfl)
  have tT := isTypeOf
  have cT := isComparable
  have mR := isMethodComparable
  have nE := noIsE
  have uE := noUnwrapE
  have vE := noUnwrapsE
  have heq := run_eql_iface_ptr_other (P := Tryd.prog) w Tryd.underlying71 Tryd.underlying147 hi hcmp hj (by rw [hjs]; decide) hne ha hb
  unfold errV
  go_enter Tryd.func87, Tryd.ntmps87
  go_wp2
  refine wp_loop_rounds 1 ?_
  rw [rounds_succ]
  go_wp2
  go_ret
  exact ⟨rfl, rfl⟩
end Go.Proofs.YtdlfhomnlhdacaaDoor
