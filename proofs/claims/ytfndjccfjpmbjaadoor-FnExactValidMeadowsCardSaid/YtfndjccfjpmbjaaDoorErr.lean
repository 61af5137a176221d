/-
  THE ERRORS OF THE PACKAGE: what the rows' condition gives of them, errors.Is on them, and impl.codeOf by contract.
-/
import Derived.Test.YtfndjccfjpmbjaaDoorRows
import Derived.Test.YtfndjccfjpmbjaaDoorTypes
import Derived.Test.YtfndjccfjpmbjaaDoorFrame
import Derived.WalkKit
import Derived.LaidEql
import Derived.LaidLaws
import Derived.Stop.Asserts
import Derived.Stop.LaidErr
import Derived.RowKitTokens
import Derived.MakeChecks
namespace Go.Proofs.YtfndjccfjpmbjaaDoor
open Go Go.RowKit Go.ChangeShapes Go.Extern.Stop Go.Stop Go.Extern Go.BigFrame

def errG (_ : Nat) : Nat := 0
/-- The error at an address, as a value. -/
def errV (a : Addr) : Value := .iface 42 (.pointer (some a))
/-- Which errors the variables hold, each another one. -/
structure Errs (a : Nat → Addr) (W : World) : Prop where
  vars : ∀ k, k < 2 → W.cell? ⟨errG k, 0, none⟩ = some (errV (a k))

theorem cell_below {N : Nat} {W W' : World} (hb : Below N W W') {x : Addr} (hlt : x.block < N) : W'.cell? x = W.cell? x := by
  unfold World.cell?
  rw [hb.block _ hlt]
theorem Errs.below {a : Nat → Addr} {W W' : World} (h : Errs a W) (hb : Below W.heap.size W W') : Errs a W' :=
  ⟨fun k hk => by
    have hc := h.vars k hk
    rw [cell_below hb (block_lt_of_cell hc)]; exact hc⟩

/-! ### What a row's condition gives -/
theorem row_errT (u : TypeId) (h : Tryd.prog.typeName? 3 u = some "*errors.errorString") : u = 42 :=
  typeName_ptr_named (nm := "errors.errorString") (by rw [show "*" ++ "errors.errorString" = "*errors.errorString" by decide]; kernel_rfl) (by kernel_rfl) (by decide) u (by rw [show "*" ++ "errors.errorString" = "*errors.errorString" by decide]; exact h)
theorem cells_es : Tryd.prog.cellsOf 60 = 1 := by kernel_rfl
theorem cells_str : Tryd.prog.cellsOf 9 = 1 := by kernel_rfl
def errName (_ : Nat) : String := "loop.example/g01345/impl.errRange"
theorem err_named (k : Nat) (_ : k < 2) : Tryd.prog.globalNamed (errName k) = some (errG k) ∧ (Tryd.prog.globals[errG k]?).map (·.type) = some 39 := ⟨by kernel_rfl, by kernel_rfl⟩

set_option maxRecDepth 100000 in
/-- One variable's error, and its two places. -/
theorem err_of_laid {W : World} (k : Nat) (hk : k < 2) {g : Nat} {t : TypeId} {cs : Array Value} {fuel : Nat} {p : List MemPlace} {text : List UInt8}
    (hg : Tryd.prog.globalNamed (errName k) = some g) (ht : (Tryd.prog.globals[g]?).map (·.type) = some t) (hv : W.var? Tryd.prog (errName k) = some cs)
    (hd : DataW.trod (fun _ => ()) Tryd.prog W 0 (fun _ => true) false fuel t cs.toList = some (.iface "*errors.errorString" (.ptr (.agg [.lit (.string text)])), p))
    (hr : ∀ b off, MemPlace.cell b off ∈ MemPlace.row ⟨g, 0, none⟩ cs.size ++ p → (∃ c t, W.heap[b]? = some (.cells c t (0, 0))) ∧ ∀ u v, W.cell? ⟨b, off, none⟩ = some (.iface u v) → Value.okWide Tryd.prog W .any 0 u v) :
    ∃ a : Addr, W.cell? ⟨errG k, 0, none⟩ = some (errV a) ∧ (∃ c t, W.heap[a.block]? = some (.cells c t (0, 0))) ∧ p = MemPlace.row a 1 := by
  obtain ⟨n1, n2⟩ := err_named k hk
  obtain rfl := Option.some.inj (n1.symm.trans hg)
  obtain rfl := Option.some.inj (n2.symm.trans ht)
  obtain ⟨l0⟩ := cs
  have ok0 : ∀ u v, l0 = [.iface u v] → Value.okWide Tryd.prog W .any 0 u v := fun u v e => by
    subst e
    exact (hr (errG k) 0 (by simp [MemPlace.row])).2 u v (by simpa using World.var?_cell hg hv 0)
  obtain ⟨a0, s0, rfl, hc0, hs0, hz0, rfl⟩ := errorString_of_trod Tryd.underlying39 row_errT Tryd.underlying42 Tryd.underlying60 rfl rfl Tryd.underlying9 cells_es cells_str hd ok0
  exact ⟨a0, by simpa [errV] using World.var?_cell hg hv 0, (hr a0.block a0.off (by simp [MemPlace.row])).1, rfl⟩

def errsLaid : List (String × DataW Unit) := Rows.fnExactValidMeadowsRow.laid
theorem errs_of_laid {W : World} (h : laidMetH Tryd.prog errsLaid W) : ∃ a, Errs a W := by
  rw [MakeChecks.laidMetH_plain _ _ _ (by kernel_rfl)] at h
  obtain ⟨ps, ⟨g1, t1, cs1, f1, p1, q1, hg1, ht1, hv1, hd1, _, e1⟩, hnd, hrows⟩ := h
  subst e1
  obtain ⟨a1, v1, c1, rfl⟩ := err_of_laid 1 (by omega) hg1 ht1 hv1 hd1 (fun b off hm => hrows b off (by simp only [List.mem_append] at hm ⊢; rcases hm with h | h <;> simp [h]))
  exact ⟨fun _ => a1, ⟨fun k _ => v1⟩⟩
end Go.Proofs.YtfndjccfjpmbjaaDoor
