/-
  THE ERRORS OF THE PACKAGE: what the rows' condition gives of them, errors.Is on them, and impl.codeOf by contract.
-/
import Derived.Test.YtcdpdcjdjcbhcaaDoorRows
import Derived.Test.YtcdpdcjdjcbhcaaDoorTypes
import Derived.Test.YtcdpdcjdjcbhcaaDoorFrame
import Derived.WalkKit
import Derived.LaidEql
import Derived.LaidLaws
import Derived.Stop.Asserts
import Derived.Stop.LaidErr
import Derived.RowKitTokens
import Derived.MakeChecks
namespace Go.Proofs.YtcdpdcjdjcbhcaaDoor
open Go Go.RowKit Go.ChangeShapes Go.Extern.Stop Go.Stop Go.Extern Go.BigFrame

def errG (k : Nat) : Nat :=
  match k with
  | 0 => 1
  | _ => 4
/-- The error at an address, as a value. -/
def errV (a : Addr) : Value := .iface 225 (.pointer (some a))
/-- Which errors the variables hold, each another one. -/
structure Errs (a : Nat → Addr) (W : World) : Prop where
  vars : ∀ k, k < 2 → W.cell? ⟨errG k, 0, none⟩ = some (errV (a k))
  cells : ∀ k, k < 2 → ∃ c t, W.heap[(a k).block]? = some (.cells c t (0, 0))
  apart : ∀ i j, i < 2 → j < 2 → i ≠ j → a i ≠ a j

theorem cell_below {N : Nat} {W W' : World} (hb : Below N W W') {x : Addr} (hlt : x.block < N) : W'.cell? x = W.cell? x := by
  unfold World.cell?
  rw [hb.block _ hlt]
theorem Errs.below {a : Nat → Addr} {W W' : World} (h : Errs a W) (hb : Below W.heap.size W W') : Errs a W' :=
  ⟨fun k hk => by
    have hc := h.vars k hk
    rw [cell_below hb (block_lt_of_cell hc)]; exact hc,
   fun k hk => by
    obtain ⟨c, t, hc⟩ := h.cells k hk
    exact ⟨c, t, (hb.block _ (Array.getElem?_eq_some_iff.1 hc).1).trans hc⟩,
   h.apart⟩

/-! ### What a row's condition gives -/
theorem row_errT (u : TypeId) (h : Tryd.prog.typeName? 3 u = some "*errors.errorString") : u = 225 :=
  typeName_ptr_named (nm := "errors.errorString") (by rw [show "*" ++ "errors.errorString" = "*errors.errorString" by decide]; kernel_rfl) (by kernel_rfl) (by decide) u (by rw [show "*" ++ "errors.errorString" = "*errors.errorString" by decide]; exact h)
theorem cells_es : Tryd.prog.cellsOf 242 = 1 := by kernel_rfl
theorem cells_str : Tryd.prog.cellsOf 9 = 1 := by kernel_rfl
def errName (k : Nat) : String :=
  match k with
  | 0 => "loop.example/g01345/impl.errInvalid"
  | _ => "loop.example/g01345/impl.errRange"
theorem err_named (k : Nat) (hk : k < 2) : Tryd.prog.globalNamed (errName k) = some (errG k) ∧ (Tryd.prog.globals[errG k]?).map (·.type) = some 127 := by
  have : k = 0 ∨ k = 1 := by omega
  rcases this with rfl | rfl <;> exact ⟨by kernel_rfl, by kernel_rfl⟩

set_option maxRecDepth 100000 in
/-- One variable's error, and its two places. -/
theorem err_of_laid {W : World} (k : Nat) (hk : k < 2) {g : Nat} {t : TypeId} {cs : Array Value} {fuel : Nat} {p : List MemPlace} {text : List UInt8}
    (hg : Tryd.prog.globalNamed (errName k) = some g) (ht : (Tryd.prog.globals[g]?).map (·.type) = some t) (hv : W.var? Tryd.prog (errName k) = some cs)
    (hd : DataW.trod (fun _ => ()) Tryd.prog W 0 (fun _ => true) false fuel t cs.toList = some (.iface "*errors.errorString" (.ptr (.agg [.lit (.string text)])), p))
    (hr : ∀ b off, MemPlace.cell b off ∈ MemPlace.row ⟨g, 0, none⟩ cs.size ++ p → (∃ c t, W.heap[b]? = some (.cells c t (0, 0))) ∧ ∀ u v, W.cell? ⟨b, off, none⟩ = some (.iface u v) → Value.okWide Tryd.prog W .any 0 u v) :
    ∃ a : Addr, W.cell? ⟨errG k, 0, none⟩ = some (errV a) ∧ (∃ c t, W.heap[a.block]? = some (.cells c t (0, 0))) ∧ p = MemPlace.row a 1 := by
  obtain ⟨n1, n2⟩ := err_named k hk
  obtain rfl := Option.some.inj (n1.symm.trans hg)
  obtain rfl := Option.some.inj (n2.symm.trans ht)
  obtain ⟨l0⟩ := cs
  have ok0 : ∀ u v, l0 = [.iface u v] → Value.okWide Tryd.prog W .any 0 u v := fun u v e => by
    subst e
    exact (hr (errG k) 0 (by simp [MemPlace.row])).2 u v (by simpa using World.var?_cell hg hv 0)
  obtain ⟨a0, s0, rfl, hc0, hs0, hz0, rfl⟩ := errorString_of_trod Tryd.underlying127 row_errT Tryd.underlying225 Tryd.underlying242 rfl rfl Tryd.underlying9 cells_es cells_str hd ok0
  exact ⟨a0, by simpa [errV] using World.var?_cell hg hv 0, (hr a0.block a0.off (by simp [MemPlace.row])).1, rfl⟩

theorem row1_ne {a b : Addr} {l : List MemPlace} (h : (MemPlace.row a 1 ++ l).Nodup) (hb : MemPlace.cell b.block b.off ∈ l) : a ≠ b := by
  rintro rfl
  simp [MemPlace.row] at h
  exact h.1 hb

def errsLaid : List (String × DataW Unit) := Rows.fnExactHerdTextRow.laid

theorem errs_of_laid {W : World} (h : laidMetH Tryd.prog errsLaid W) : ∃ a, Errs a W := by
  rw [MakeChecks.laidMetH_plain _ _ _ (by kernel_rfl)] at h
  obtain ⟨ps, ⟨gT, tT, csT, fT, pT, qT, hgT, htT, hvT, hdT, ⟨gU, tU, csU, fU, pU, qU, hgU, htU, hvU, hdU, ⟨gV, tV, csV, fV, pV, qV, hgV, htV, hvV, hdV, ⟨g0, t0, cs0, f0, p0, q0, hg0, ht0, hv0, hd0, ⟨g1, t1, cs1, f1, p1, q1, hg1, ht1, hv1, hd1, _, e1⟩, e0⟩, eV⟩, eU⟩, eT⟩, hnd, hrows⟩ := h
  subst e1 e0 eV eU eT
  obtain ⟨a0, v0, c0, rfl⟩ := err_of_laid 0 (by omega) hg0 ht0 hv0 hd0 (fun b off hm => hrows b off (by simp only [List.mem_append] at hm ⊢; rcases hm with h | h <;> simp [h]))
  obtain ⟨a1, v1, c1, rfl⟩ := err_of_laid 1 (by omega) hg1 ht1 hv1 hd1 (fun b off hm => hrows b off (by simp only [List.mem_append] at hm ⊢; rcases hm with h | h <;> simp [h]))
  have key : (MemPlace.row a0 1 ++ MemPlace.row a1 1).Nodup := by
    refine List.Nodup.sublist ?_ hnd
    simp only [List.append_assoc]
    refine List.Sublist.trans ?_ (List.sublist_append_right _ _)
    refine List.Sublist.trans ?_ (List.sublist_append_right _ _)
    refine List.Sublist.trans ?_ (List.sublist_append_right _ _)
    refine List.Sublist.trans ?_ (List.sublist_append_right _ _)
    refine List.Sublist.trans ?_ (List.sublist_append_right _ _)
    refine List.Sublist.trans ?_ (List.sublist_append_right _ _)
    refine List.Sublist.trans ?_ (List.sublist_append_right _ _)
    refine List.Sublist.append (List.Sublist.refl _) (List.Sublist.trans ?_ (List.sublist_append_right _ _))
    exact List.sublist_append_left _ _
  have z0_1 := row1_ne key (b := a1) (by simp [MemPlace.row])
  refine ⟨fun k => match k with | 0 => a0 | _ => a1, ?_, ?_, ?_⟩
  · intro k hk
    match k, hk with
    | 0, _ => exact v0
    | 1, _ => exact v1
  · intro k hk
    match k, hk with
    | 0, _ => exact c0
    | 1, _ => exact c1
  · intro i j hi hj hne
    match i, j, hi, hj, hne with
    | 0, 0, _, _, h => exact absurd rfl h
    | 0, 1, _, _, _ => exact z0_1
    | 1, 0, _, _, _ => exact z0_1.symm
    | 1, 1, _, _, h => exact absurd rfl h

/-! ### CLOSED FACTS -/
theorem isComp : (Tryd.prog.info? 225).map (·.comparable) = some true := by kernel_rfl
theorem isSize : (Tryd.prog.info? 242).map (·.size) = some 1 := by kernel_rfl
end Go.Proofs.YtcdpdcjdjcbhcaaDoor
