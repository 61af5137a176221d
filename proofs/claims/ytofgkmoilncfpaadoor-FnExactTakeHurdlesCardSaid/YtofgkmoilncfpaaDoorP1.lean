/-
  Several texts in one: TakeHurdlesF, Kit, Types, Frame, Err.
-/
import Derived.Test.YtofgkmoilncfpaaDoorRows
import Derived.Test.YtofgkmoilncfpaaDoorChecked
import Derived.KernelRfl
import Derived.JoinedOf
import Derived.Laws.Rows
import Derived.Laws.Tables
import Derived.Laws.CopyRow
import Derived.Below
import Derived.Deep.MidRow
import Derived.Deep.Quiet
import Derived.Deep.QuietTactic
import Derived.WalkKit
import Derived.Test.YtofgkmoilncfpaaDoorProg
import Derived.ProofKit
import Derived.OpenShut
import Derived.OpenVars
import Derived.Carry
import Derived.LaidEql
import Derived.LaidLaws
import Derived.Stop.Asserts
import Derived.Stop.LaidErr
import Derived.RowKitTokens
import Derived.MakeChecks
/-
  Closed facts of FnExactTakeHurdles's row, the heavy ones each apart.
-/
namespace Go.Proofs.YtofgkmoilncfpaaDoor
open Go

theorem takeHurdles_k1 : (Rows.fnExactTakeHurdlesRow.inPlace == Tryd.prog.inPlace 4) = true := by kernel_rfl
theorem takeHurdles_k2 : (Rows.fnExactTakeHurdlesRow.unfollowed == Tryd.prog.unfollowed 4) = true := by kernel_rfl
theorem takeHurdles_k3 : (Rows.fnExactTakeHurdlesRow.recurses == Tryd.prog.recurses 4) = true := by kernel_rfl
theorem takeHurdles_k4 : (Rows.fnExactTakeHurdlesRow.named == Tryd.prog.varsNamed 4) = true := by kernel_rfl
set_option maxRecDepth 100000 in
theorem takeHurdles_closed : joinedFacts Tryd.prog 4 Tryd.f4 Rows.fnExactTakeHurdlesSpec Rows.fnExactTakeHurdlesRow = true := by
  unfold joinedFacts
  simp only [Bool.and_eq_true]
  repeat' apply And.intro
  all_goals first | (with_reducible exact takeHurdles_k1) | (with_reducible exact takeHurdles_k2) | (with_reducible exact takeHurdles_k3) | (with_reducible exact takeHurdles_k4) | kernel_rfl
end Go.Proofs.YtofgkmoilncfpaaDoor

/-
  PLAIN LAWS over any program: the memory that a call owns, as a list of blocks: block number, length, contents as a function of the place. Reads and writes of parts of a block by value.
-/
namespace Go.Proofs.YtofgkmoilncfpaaDoor
open Go Go.RowKit

/-! ### Arrays of values as functions -/
/-- The n values f 0, f 1, .. -/
def arr (n : Nat) (f : Nat → Value) : Array Value := ((List.range n).map f).toArray

theorem arr_size (n : Nat) (f : Nat → Value) : (arr n f).size = n := by simp [arr]
theorem arr_toList (n : Nat) (f : Nat → Value) : (arr n f).toList = (List.range n).map f := by simp [arr]
theorem arr_get (n : Nat) (f : Nat → Value) (k : Nat) : (arr n f)[k]? = if k < n then some (f k) else none := by
  unfold arr
  by_cases h : k < n
  · simp [h]
  · simp [h]
theorem arr_at {n : Nat} {f : Nat → Value} {k : Nat} (h : k < n) : (arr n f)[k]? = some (f k) := by rw [arr_get, if_pos h]
theorem arr_ext {n : Nat} {c : Array Value} {f : Nat → Value} (hs : c.size = n) (h : ∀ k, k < n → c[k]? = some (f k)) : c = arr n f := by
  apply Array.ext_getElem?
  intro k
  rw [arr_get]
  by_cases hk : k < n
  · rw [if_pos hk, h k hk]
  · rw [if_neg hk]; simp; omega
theorem arr_congr {n : Nat} {f g : Nat → Value} (h : ∀ k, k < n → f k = g k) : arr n f = arr n g :=
  arr_ext (arr_size n f) (fun k hk => by rw [arr_at hk, h k hk])
theorem arr_extract {n o m : Nat} {f : Nat → Value} (h : o + m ≤ n) : (arr n f).extract o (o + m) = arr m (fun k => f (o + k)) := by
  refine arr_ext (by simp [arr_size]; omega) (fun k hk => ?_)
  rw [Array.getElem?_extract, if_pos (by rw [arr_size]; omega), arr_at (by omega)]

/-- f with the value v at place k. -/
def upd (f : Nat → Value) (k : Nat) (v : Value) : Nat → Value := fun j => if j = k then v else f j
/-- f with the m values g 0, .. from place o on. -/
def lay (f : Nat → Value) (o m : Nat) (g : Nat → Value) : Nat → Value := fun j => if o ≤ j ∧ j < o + m then g (j - o) else f j

theorem arr_set {n k : Nat} {f : Nat → Value} {v : Value} : (arr n f).setIfInBounds k v = arr n (upd f k v) := by
  refine arr_ext (by simp [arr_size]) (fun j hj => ?_)
  rw [Array.getElem?_setIfInBounds]
  by_cases e : k = j
  · subst e; simp [upd, arr_size, hj]
  · have e' : ¬ j = k := fun h => e h.symm
    simp [upd, e, e', arr_at hj]
theorem arr_lay {n o m : Nat} {f g : Nat → Value} (h : o + m ≤ n) :
    ((arr n f).toList.take o ++ (arr m g).toList ++ (arr n f).toList.drop (o + (arr m g).toList.length)).toArray = arr n (lay f o m g) := by
  refine arr_ext ?_ (fun j hj => ?_)
  · simp [arr]; omega
  · simp only [List.getElem?_toArray, arr_toList, List.length_map, List.length_range]
    by_cases h1 : j < o
    · rw [List.append_assoc, List.getElem?_append_left (by simp; omega)]
      simp [lay, h1, hj]; omega
    · by_cases h2 : j < o + m
      · rw [List.append_assoc, List.getElem?_append_right (by simp; omega), List.getElem?_append_left (by simp; omega)]
        have : min o n = o := by omega
        simp [lay, this]
        rw [List.getElem?_range (by omega), if_pos ⟨by omega, h2⟩]; exact ⟨_, rfl, rfl⟩
      · rw [List.getElem?_append_right (by simp; omega)]
        have e : min o n = o := by omega
        simp [lay, h2, e]
        rw [List.getElem?_range (by omega)]
        simp
        congr 1
        omega

/-! ### What lies in a block -/
/-- Block b holds just the n values of f, and may be written. -/
def At (W : World) (b n : Nat) (f : Nat → Value) : Prop := ∃ t, W.heap[b]? = some (.cells (arr n f) t (0, 0))

theorem At.lt {W : World} {b n : Nat} {f : Nat → Value} (h : At W b n f) : b < W.heap.size := by
  obtain ⟨t, h⟩ := h; exact (Array.getElem?_eq_some_iff.1 h).1
theorem At.congr {W : World} {b n : Nat} {f g : Nat → Value} (h : At W b n f) (e : ∀ k, k < n → f k = g k) : At W b n g := by
  unfold At at *; rw [← arr_congr e]; exact h
theorem At.alloc {W : World} {b n : Nat} {f : Nat → Value} (h : At W b n f) (o : Obj) : At (W.alloc o) b n f := by
  obtain ⟨t, hh⟩ := h; exact ⟨t, (Below.heap_alloc W o b (At.lt ⟨t, hh⟩)).trans hh⟩
theorem At.new (W : World) (t : TypeId) (n : Nat) (f : Nat → Value) : At (W.alloc (.cells (arr n f) t)) W.heap.size n f := ⟨t, heap_alloc_new W _⟩
theorem At.cell {W : World} {b n : Nat} {f : Nat → Value} (h : At W b n f) {k : Nat} (hk : k < n) : W.cell? ⟨b, k, none⟩ = some (f k) := by
  obtain ⟨t, h⟩ := h; rw [cell_of_row W b k _ t _ h, arr_at hk]
theorem At.frozen {W : World} {b n : Nat} {f : Nat → Value} (h : At W b n f) (k : Nat) : W.frozen? ⟨b, k, none⟩ = false := by
  obtain ⟨t, h⟩ := h; exact frozen_of_row W b k _ t h
theorem At.setRow_same {W : World} {b n : Nat} {f g : Nat → Value} (h : At W b n f) : At (W.setRow b (arr n g)) b n g := by
  obtain ⟨t, h⟩ := h; exact ⟨t, setRow_heap W b _ _ t _ h⟩
theorem At.setRow_other {W : World} {b n : Nat} {f : Nat → Value} (h : At W b n f) {g : Nat} (c : Array Value) (hne : b ≠ g) : At (W.setRow g c) b n f := by
  obtain ⟨t, h⟩ := h; exact ⟨t, (_root_.Go.setRow_other W g b c hne).trans h⟩
theorem At.below {W W' : World} {b n N : Nat} {f : Nat → Value} (h : At W b n f) (hb : Below N W W') (hlt : b < N) : At W' b n f := by
  obtain ⟨t, h⟩ := h; exact ⟨t, (hb.block b hlt).trans h⟩
theorem At.drew {W : World} {b n : Nat} {f : Nat → Value} (h : At W b n f) : At W.drew b n f := h

theorem below_setRow {B g : Nat} {a W : World} (h : Below B a W) (hg : B ≤ g) (c : Array Value) : Below B a (W.setRow g c) :=
  ⟨h.os, h.tape, h.output, by rw [size_setRow]; exact h.size, fun k hk => (_root_.Go.setRow_other W g k c (by omega)).trans (h.block k hk)⟩

/-! ### What is kept of the worlds behind a start, and from which block on the call may write -/
structure Base where
  G : World → Prop
  B : Nat
  le : ∀ {W : World}, G W → B ≤ W.heap.size
  alloc : ∀ {W : World} (c : Array Value) (t : TypeId), G W → G (W.alloc (.cells c t))
  row : ∀ {W : World} {b : Nat} {c : Array Value} {t : TypeId}, G W → B ≤ b → W.heap[b]? = some (.cells c t (0, 0)) → ∀ c' : Array Value, G (W.setRow b c')
  call : ∀ {W W' : World}, G W → Below W.heap.size W W' → G W'
  drew : ∀ {W : World}, G W → G W.drew
/-- A call that begins in w and lets lie all that lay. -/
def Base.of (w : World) : Base where
  G := Below w.heap.size w
  B := w.heap.size
  le := fun h => h.size
  alloc := fun _ _ h => h.alloc h.size _
  row := fun h hb _ c' => below_setRow h hb c'
  call := fun h hb => h.trans (hb.mono h.size)
  drew := fun h => h.drew
instance : Coe World Base := ⟨Base.of⟩

/-! ### The memory of a call: L: blocks, as number, length, contents -/
abbrev Blocks := List (Nat × Nat × (Nat → Value))
structure Mem (w : Base) (L : Blocks) (W : World) : Prop where
  good : w.G W
  ats : ∀ (i : Nat) (b n : Nat) (f : Nat → Value), L[i]? = some (b, n, f) → At W b n f
  apart : ∀ (i j : Nat) (p q : Nat × Nat × (Nat → Value)), L[i]? = some p → L[j]? = some q → i ≠ j → p.1 ≠ q.1

theorem Mem.below {w W : World} {L : Blocks} (h : Mem w L W) : Below w.heap.size w W := h.good
theorem Mem.start {w : Base} {W : World} (h : w.G W) : Mem w [] W := ⟨h, fun i b n f h => by simp at h, fun i j p q h => by simp at h⟩
theorem Mem.nil (w : World) : Mem w [] w := Mem.start (w := Base.of w) (Below.refl _ _)
theorem Mem.size {w : Base} {W : World} {L : Blocks} (h : Mem w L W) : w.B ≤ W.heap.size := w.le h.good
/-- A block that lies there is taken on the list. -/
theorem Mem.old {w : Base} {W : World} {L : Blocks} (h : Mem w L W) {b n : Nat} {f : Nat → Value} (ha : At W b n f) (hL : ∀ (i : Nat) (p : Nat × Nat × (Nat → Value)), L[i]? = some p → p.1 ≠ b) : Mem w (L ++ [(b, n, f)]) W :=
  ⟨h.good, fun i b' n' f' hi => by
    by_cases hl : i < L.length
    · exact h.ats i b' n' f' (by rwa [List.getElem?_append_left hl] at hi)
    · rw [List.getElem?_append_right (by omega)] at hi
      have : i - L.length = 0 := by
        cases hq : i - L.length with
        | zero => rfl
        | succ k => rw [hq] at hi; simp at hi
      rw [this] at hi
      simp at hi
      obtain ⟨rfl, rfl, rfl⟩ := hi
      exact ha,
   fun i j p q hi hj hne => by
    have key : ∀ (i : Nat) (p : Nat × Nat × (Nat → Value)), (L ++ [(b, n, f)])[i]? = some p → (L[i]? = some p ∧ p.1 ≠ b) ∨ (i = L.length ∧ p.1 = b) := fun i p hi => by
      by_cases hl : i < L.length
      · rw [List.getElem?_append_left hl] at hi; exact .inl ⟨hi, hL i p hi⟩
      · rw [List.getElem?_append_right (by omega)] at hi
        cases hq : i - L.length with
        | zero => rw [hq] at hi; simp at hi; right; exact ⟨by omega, by rw [← hi]⟩
        | succ k => rw [hq] at hi; simp at hi
    rcases key i p hi with ⟨a1, a2⟩ | ⟨a1, a2⟩ <;> rcases key j q hj with ⟨b1, b2⟩ | ⟨b1, b2⟩
    · exact h.apart i j p q a1 b1 hne
    · rw [b2]; exact a2
    · rw [a2]; exact Ne.symm b2
    · omega⟩

theorem Mem.alloc {w : Base} {W : World} {L : Blocks} (h : Mem w L W) (t : TypeId) (n : Nat) (f : Nat → Value) : Mem w ((W.heap.size, n, f) :: L) (W.alloc (.cells (arr n f) t)) :=
  ⟨w.alloc _ _ h.good, fun i b n' f' hi => by
    cases i with
    | zero => simp at hi; obtain ⟨rfl, rfl, rfl⟩ := hi; exact At.new W t _ _
    | succ i => exact (h.ats i b n' f' (by simpa using hi)).alloc _,
   fun i j p q hi hj hne => by
    cases i with
    | zero =>
      cases j with
      | zero => exact absurd rfl hne
      | succ j =>
        simp at hi hj
        have := (h.ats j q.1 q.2.1 q.2.2 hj).lt
        rw [← hi]; show W.heap.size ≠ q.1; omega
    | succ i =>
      cases j with
      | zero =>
        simp at hi hj
        have := (h.ats i p.1 p.2.1 p.2.2 hi).lt
        rw [← hj]; show p.1 ≠ W.heap.size; omega
      | succ j => exact h.apart i j p q (by simpa using hi) (by simpa using hj) (by omega)⟩
theorem set_key {L : Blocks} {i : Nat} {b n n' : Nat} {f g : Nat → Value} (hi : L[i]? = some (b, n, f)) : ∀ (j : Nat) (p : Nat × Nat × (Nat → Value)), (L.set i (b, n', g))[j]? = some p → ∃ p', L[j]? = some p' ∧ p'.1 = p.1 := fun j p hj => by
  rw [List.getElem?_set] at hj
  by_cases e : i = j
  · subst e
    have hl : i < L.length := (List.getElem?_eq_some_iff.1 hi).1
    simp [hl] at hj
    exact ⟨_, hi, by rw [← hj]⟩
  · simp [e] at hj; exact ⟨p, hj, rfl⟩
theorem Mem.setRow {w : Base} {W : World} {L : Blocks} (h : Mem w L W) (i : Nat) {b n : Nat} {f : Nat → Value} (hi : L[i]? = some (b, n, f)) (hb : w.B ≤ b) (g : Nat → Value) : Mem w (L.set i (b, n, g)) (W.setRow b (arr n g)) :=
  ⟨let ⟨_, ht⟩ := h.ats i b n f hi; w.row h.good hb ht _, fun j b' n' f' hj => by
    rw [List.getElem?_set] at hj
    by_cases e : i = j
    · subst e
      have hl : i < L.length := (List.getElem?_eq_some_iff.1 hi).1
      simp [hl] at hj
      obtain ⟨rfl, rfl, rfl⟩ := hj
      exact (h.ats i b n f hi).setRow_same
    · simp [e] at hj
      exact (h.ats j b' n' f' hj).setRow_other _ (h.apart j i _ _ hj hi (fun e' => e e'.symm)),
   fun j k p q hj hk hne => by
    obtain ⟨p', hp, ep⟩ := set_key hi j p hj
    obtain ⟨q', hq, eq⟩ := set_key hi k q hk
    rw [← ep, ← eq]
    exact h.apart j k p' q' hp hq hne⟩
/-- Behind a call that lets lie all that lay. -/
theorem Mem.call {w : Base} {W W' : World} {L : Blocks} (h : Mem w L W) (hb : Below W.heap.size W W') : Mem w L W' :=
  ⟨w.call h.good hb, fun i b n f hi => (h.ats i b n f hi).below hb (h.ats i b n f hi).lt, h.apart⟩
theorem Mem.drew {w : Base} {W : World} {L : Blocks} (h : Mem w L W) : Mem w L W.drew := ⟨w.drew h.good, fun i b n f hi => h.ats i b n f hi, h.apart⟩
/-- One block's contents written otherwise. -/
theorem Mem.re {w : Base} {W : World} {L : Blocks} (h : Mem w L W) (i : Nat) {b n : Nat} {f : Nat → Value} (hi : L[i]? = some (b, n, f)) (g : Nat → Value) (e : ∀ k, k < n → f k = g k) : Mem w (L.set i (b, n, g)) W :=
  ⟨h.good, fun j b' n' f' hj => by
    rw [List.getElem?_set] at hj
    by_cases c : i = j
    · subst c
      have hl : i < L.length := (List.getElem?_eq_some_iff.1 hi).1
      simp [hl] at hj
      obtain ⟨rfl, rfl, rfl⟩ := hj
      exact (h.ats i b n f hi).congr e
    · simp [c] at hj; exact h.ats j b' n' f' hj,
   fun j k p q hj hk hne => by
    obtain ⟨p', hp, ep⟩ := set_key hi j p hj
    obtain ⟨q', hq, eq⟩ := set_key hi k q hk
    rw [← ep, ← eq]
    exact h.apart j k p' q' hp hq hne⟩
/-- The same blocks, seen from another start. -/
theorem Mem.base {w w' : Base} {W : World} {L : Blocks} (h : Mem w L W) (hg : w'.G W) : Mem w' L W := ⟨hg, h.ats, h.apart⟩
/-- Fewer blocks. -/
theorem Mem.drop {w : Base} {W : World} {p : Nat × Nat × (Nat → Value)} {L : Blocks} (h : Mem w (p :: L) W) : Mem w L W :=
  ⟨h.good, fun i b n f hi => h.ats (i + 1) b n f (by simpa using hi), fun i j p q hi hj hne => h.apart (i + 1) (j + 1) p q (by simpa using hi) (by simpa using hj) (by omega)⟩
theorem Mem.at0 {w : Base} {W : World} {b n : Nat} {f : Nat → Value} {L : Blocks} (h : Mem w ((b, n, f) :: L) W) : At W b n f := h.ats 0 b n f rfl

/-- A type whose variables are rows of m cells; a type whose variables are one cell. -/
def RowT (P : Program) (ty : TypeId) (m : Nat) : Prop := (∃ d, P.underlying ty = some d ∧ d.isRow = true) ∧ (P.info? ty).map (·.size) = some m
def CellT (P : Program) (ty : TypeId) : Prop := (∃ d, P.underlying ty = some d ∧ d.isRow = false) ∧ (P.info? ty).map (·.size) = some 1

/-! ### Operations on such memory, at the list of a plain region -/
variable {P : Program} {ops : Array Oper} {rest : List Oper} {o : Oper} {a : Act} {w : Base} {W : World} {Q : Exit → Act → World → Prop} {L : Blocks}

/-- A part by value out of a block. -/
theorem wpList_get (hgd : o.guard = none) (ty : TypeId) (x : Operand) (ho : o.op = .load ty x) (b off : Nat) (hx : a.eval x = .pointer (some ⟨b, off, none⟩))
    (hM : Mem w L W) (i : Nat) {n : Nat} {f : Nat → Value} (hi : L[i]? = some (b, n, f)) {m : Nat}
    (hT : RowT P ty m) (hle : off + m ≤ n)
    (h : wpList P ops Q rest (a.put o.dst (.agg (arr m (fun k => f (off + k))))) W) : wpList P ops Q (o :: rest) a W := by
  obtain ⟨⟨d, hu, hd⟩, hm⟩ := hT
  obtain ⟨t, ht⟩ := hM.ats i b n f hi
  have hr : W.rangeAt b off (arr m (fun k => f (off + k))).toList := by
    rw [← arr_extract hle]; exact World.rangeAt_of_block ht off m
  exact wpList_load_mid hgd ty x ho b off hx (arr m (fun k => f (off + k))).toList d hr hu hd (by rw [hm]; simp [arr_size]) (by simpa using h)

/-- One cell out of a block. -/
theorem wpList_get1 (hgd : o.guard = none) (ty : TypeId) (x : Operand) (ho : o.op = .load ty x) (b off : Nat) (hx : a.eval x = .pointer (some ⟨b, off, none⟩))
    (hM : Mem w L W) (i : Nat) {n : Nat} {f : Nat → Value} (hi : L[i]? = some (b, n, f)) 
    (hT : CellT P ty) (hle : off < n) (v : Value) (hv : f off = v)
    (h : wpList P ops Q rest (a.put o.dst v) W) : wpList P ops Q (o :: rest) a W := by
  obtain ⟨⟨d, hu, hd⟩, _⟩ := hT
  refine wpList_plain hgd fun K hK => ?_
  have hc := (hM.ats i b n f hi).cell hle
  rw [hv] at hc
  have hagg : (isAgg ty).run P W = .ok false W := by
    unfold isAgg
    rw [Sem.run_bind, run_underlying hu W]
    cases d <;> simp_all [TypeDesc.isRow]
  unfold Oper.wp execOp
  have hl : (load ⟨b, off, none⟩).run P W = .ok v W := by simp [load, Sem.run, hc]
  simp only [ho, hx, Instr.loadAt, Instr.sureAddr, loadVar, Sem.run_bind, Sem.run_pure, Result.andThen_ok, hagg, Bool.false_eq_true, if_false, hl]
  exact hK _ _ h

/-- The same at an operation with a guard that is met. -/
theorem wpList_want (hw : Region.wanted o (yielded ops a.tmps) = true) (h : ∀ K : Act → World → Prop, (∀ a w, wpList P ops Q rest a w → K a w) → o.wp P a W K Q) : wpList P ops Q (o :: rest) a W :=
  wpList_step fun K hK => by rw [if_pos hw]; exact h K hK
theorem wpList_gget1 (hw : Region.wanted o (yielded ops a.tmps) = true) (ty : TypeId) (x : Operand) (ho : o.op = .load ty x) (b off : Nat) (hx : a.eval x = .pointer (some ⟨b, off, none⟩))
    (hM : Mem w L W) (i : Nat) {n : Nat} {f : Nat → Value} (hi : L[i]? = some (b, n, f))
    (hT : CellT P ty) (hle : off < n) (v : Value) (hv : f off = v)
    (h : wpList P ops Q rest (a.put o.dst v) W) : wpList P ops Q (o :: rest) a W := by
  obtain ⟨⟨d, hu, hd⟩, _⟩ := hT
  refine wpList_want hw fun K hK => ?_
  have hc := (hM.ats i b n f hi).cell hle
  rw [hv] at hc
  have hagg : (isAgg ty).run P W = .ok false W := by
    unfold isAgg
    rw [Sem.run_bind, run_underlying hu W]
    cases d <;> simp_all [TypeDesc.isRow]
  unfold Oper.wp execOp
  have hl : (load ⟨b, off, none⟩).run P W = .ok v W := by simp [load, Sem.run, hc]
  simp only [ho, hx, Instr.loadAt, Instr.sureAddr, loadVar, Sem.run_bind, Sem.run_pure, Result.andThen_ok, hagg, Bool.false_eq_true, if_false, hl]
  exact hK _ _ h
theorem wpList_gget (hw : Region.wanted o (yielded ops a.tmps) = true) (ty : TypeId) (x : Operand) (ho : o.op = .load ty x) (b off : Nat) (hx : a.eval x = .pointer (some ⟨b, off, none⟩))
    (hM : Mem w L W) (i : Nat) {n : Nat} {f : Nat → Value} (hi : L[i]? = some (b, n, f)) {m : Nat}
    (hT : RowT P ty m) (hle : off + m ≤ n)
    (h : wpList P ops Q rest (a.put o.dst (.agg (arr m (fun k => f (off + k))))) W) : wpList P ops Q (o :: rest) a W := by
  obtain ⟨⟨d, hu, hd⟩, hm⟩ := hT
  refine wpList_want hw fun K hK => ?_
  obtain ⟨t, ht⟩ := hM.ats i b n f hi
  have hr : W.rangeAt b off (arr m (fun k => f (off + k))).toList := by
    rw [← arr_extract hle]; exact World.rangeAt_of_block ht off m
  refine wp_load_mid ty x ho b off hx (arr m (fun k => f (off + k))).toList d hr hu hd (by rw [hm]; simp [arr_size]) ?_
  exact hK _ _ (by simpa using h)

/-- A part by value into a block. -/
theorem wpList_lay (hgd : o.guard = none) (ty : TypeId) (x y : Operand) (ho : o.op = .store ty x y) (b off : Nat) (hx : a.eval x = .pointer (some ⟨b, off, none⟩))
    (m : Nat) (g : Nat → Value) (hy : a.eval y = .agg (arr m g)) (hM : Mem w L W) (i : Nat) {n : Nat} {f : Nat → Value} (hi : L[i]? = some (b, n, f)) (hb : w.B ≤ b)
    (hT : RowT P ty m) (hle : off + m ≤ n) (h1 : ∀ k, k < m → (g k).oneCell' = true)
    (h : ∀ W', Mem w (L.set i (b, n, lay f off m g)) W' → wpList P ops Q rest (a.put o.dst undef) W') : wpList P ops Q (o :: rest) a W := by
  obtain ⟨_, hm⟩ := hT
  refine wpList_plain hgd fun K hK => ?_
  obtain ⟨t, ht⟩ := hM.ats i b n f hi
  have hs := run_storeCells_at (P := P) b off t (arr m g).toList 0 (arr n f) W ht (by simp [arr_size]; omega) (fun v hv => by
    rw [arr_toList] at hv; simp at hv; obtain ⟨k, hk, rfl⟩ := hv; exact h1 k hk)
  rw [Nat.add_zero, arr_lay hle] at hs
  have hsz : (sizeOf ty).run P W = .ok m W := by
    cases hq : P.info? ty with
    | none => simp [hq] at hm
    | some i => simp [hq] at hm; simp [sizeOf, typeInfo, hq, hm]
  unfold Oper.wp execOp
  simp only [ho, hx, hy, Instr.storeAt, Instr.sureAddr, storeVar, Sem.run_bind, Sem.run_pure, Result.andThen_ok, Value.cells, hsz, arr_size, ne_eq, not_true_eq_false, if_false, hs]
  exact hK _ _ (h _ (hM.setRow i hi hb _))

/-- One cell into a block. -/
theorem wpList_set1 (hgd : o.guard = none) (ty : TypeId) (x y : Operand) (ho : o.op = .store ty x y) (b off : Nat) (hx : a.eval x = .pointer (some ⟨b, off, none⟩))
    (v : Value) (hy : a.eval y = v) (h1 : v.oneCell' = true) (hM : Mem w L W) (i : Nat) {n : Nat} {f : Nat → Value} (hi : L[i]? = some (b, n, f)) (hb : w.B ≤ b)
    (hT : CellT P ty) (hle : off < n)
    (h : ∀ W', Mem w (L.set i (b, n, upd f off v)) W' → wpList P ops Q rest (a.put o.dst undef) W') : wpList P ops Q (o :: rest) a W := by
  obtain ⟨_, hm⟩ := hT
  refine wpList_plain hgd fun K hK => ?_
  obtain ⟨t, ht⟩ := hM.ats i b n f hi
  have hc := (hM.ats i b n f hi).cell hle
  have hf := (hM.ats i b n f hi).frozen off
  have hsz : (sizeOf ty).run P W = .ok 1 W := by
    cases hq : P.info? ty with
    | none => simp [hq] at hm
    | some i => simp [hq] at hm; simp [sizeOf, typeInfo, hq, hm]
  have hcells : v.cells = #[v] := by cases v <;> first | rfl | (simp [Value.oneCell'] at h1)
  have hadd : (⟨b, off, none⟩ : Addr).add 0 = ⟨b, off, none⟩ := by simp [Addr.add]
  have hs : (storeCells ⟨b, off, none⟩ [v] 0).run P W = .ok () (W.setRow b (arr n (upd f off v))) := by
    simp only [storeCells, Sem.run_bind, hadd, run_store P W _ v _ h1, hc]
    simp [hf, setCell_eq_setRow W b off _ t (0, 0) v ht, arr_set]
  unfold Oper.wp execOp
  simp only [ho, hx, hy, Instr.storeAt, Instr.sureAddr, storeVar, Sem.run_bind, Sem.run_pure, Result.andThen_ok, hcells, hsz, List.size_toArray, List.length_cons, List.length_nil, Nat.zero_add, ne_eq, not_true_eq_false, if_false, hs]
  exact hK _ _ (h _ (hM.setRow i hi hb _))

/-- A new block at its type's zero value. -/
theorem wpList_zero (hgd : o.guard = none) (ty : TypeId) (ho : o.op = .alloc ty) {n : Nat} {f : Nat → Value} (hz : (P.info? ty).map (·.zero) = some (some (.agg (arr n f)))) (hM : Mem w L W)
    (h : ∀ b W', w.B ≤ b → Mem w ((b, n, f) :: L) W' → wpList P ops Q rest (a.put o.dst (.pointer (some ⟨b, 0, none⟩))) W') : wpList P ops Q (o :: rest) a W := by
  refine wpList_plain hgd fun K hK => ?_
  have hzv : (zeroValue ty).run P W = .ok (.agg (arr n f)) W := by
    cases hq : P.info? ty with
    | none => simp [hq] at hz
    | some i => simp [hq] at hz; simp [zeroValue, typeInfo, hq, hz]
  unfold Oper.wp execOp
  simp only [ho, Instr.alloc, Sem.run_bind, Sem.run_pure, Result.andThen_ok, hzv, newVar, newRow, newObj, Sem.run, Value.cells]
  exact hK _ _ (h W.heap.size _ hM.size (hM.alloc ty n f))

/-- A new block of one cell at its type's zero value. -/
theorem wpList_zero1 (hgd : o.guard = none) (ty : TypeId) (ho : o.op = .alloc ty) {v : Value} (hz : (P.info? ty).map (·.zero) = some (some v)) (hv : v.oneCell' = true) (hM : Mem w L W)
    (h : ∀ b W', w.B ≤ b → Mem w ((b, 1, fun _ => v) :: L) W' → wpList P ops Q rest (a.put o.dst (.pointer (some ⟨b, 0, none⟩))) W') : wpList P ops Q (o :: rest) a W := by
  refine wpList_plain hgd fun K hK => ?_
  have hzv : (zeroValue ty).run P W = .ok v W := by
    cases hq : P.info? ty with
    | none => simp [hq] at hz
    | some i => simp [hq] at hz; simp [zeroValue, typeInfo, hq, hz]
  have hcells : v.cells = arr 1 (fun _ => v) := by cases v <;> first | rfl | (simp [Value.oneCell'] at hv)
  unfold Oper.wp execOp
  simp only [ho, Instr.alloc, Sem.run_bind, Sem.run_pure, Result.andThen_ok, hzv, newVar, newRow, newObj, Sem.run, hcells]
  exact hK _ _ (h W.heap.size _ hM.size (hM.alloc ty 1 _))

/-- A new block that holds an aggregate. -/
theorem wpList_box (hgd : o.guard = none) (ty : TypeId) (x : Operand) (ho : o.op = .box ty x) (n : Nat) (f : Nat → Value) (hx : a.eval x = .agg (arr n f)) (hM : Mem w L W)
    (h : ∀ b W', w.B ≤ b → Mem w ((b, n, f) :: L) W' → wpList P ops Q rest (a.put o.dst (.pointer (some ⟨b, 0, none⟩))) W') : wpList P ops Q (o :: rest) a W := by
  refine wpList_plain hgd fun K hK => ?_
  unfold Oper.wp execOp
  simp only [ho, hx, Instr.box, Sem.run_bind, Sem.run_pure, Result.andThen_ok, newVar, newRow, newObj, Sem.run, Value.cells]
  exact hK _ _ (h W.heap.size _ hM.size (hM.alloc ty n f))

/-- A new block that holds one cell. -/
theorem wpList_box1 (hgd : o.guard = none) (ty : TypeId) (x : Operand) (ho : o.op = .box ty x) (v : Value) (hx : a.eval x = v) (hv : v.oneCell' = true) (hM : Mem w L W)
    (h : ∀ b W', w.B ≤ b → Mem w ((b, 1, fun _ => v) :: L) W' → wpList P ops Q rest (a.put o.dst (.pointer (some ⟨b, 0, none⟩))) W') : wpList P ops Q (o :: rest) a W := by
  refine wpList_plain hgd fun K hK => ?_
  have hcells : v.cells = arr 1 (fun _ => v) := by cases v <;> first | rfl | (simp [Value.oneCell'] at hv)
  unfold Oper.wp execOp
  simp only [ho, hx, Instr.box, Sem.run_bind, Sem.run_pure, Result.andThen_ok, newVar, newRow, newObj, Sem.run, hcells]
  exact hK _ _ (h W.heap.size _ hM.size (hM.alloc ty 1 _))

/-- A result that lies in a block. -/
theorem results_at {fn : Func} {p : Tmp} {ty : TypeId} (h : fn.results = #[.cell p ty]) (tmps : Array Value) {W : World} {b n : Nat} {f : Nat → Value}
    (hp : tmps.getD p undef = .pointer (some ⟨b, 0, none⟩)) (hg : At W b n f) (hT : RowT P ty n) :
    (results fn tmps).run P W = .ok (.agg (arr n f)) W := by
  obtain ⟨⟨d, hu, hd⟩, hm⟩ := hT
  obtain ⟨t, hg⟩ := hg
  refine results_cell_row h tmps W b t (arr n f) (0, 0) d hp hg hu ?_ (by rw [hm, arr_size])
  cases d <;> simp_all [TypeDesc.isRow]

/-! ### A region that draws its order, whose operations only read such memory, or call what lets it lie -/
theorem wp_region_mem {id : Nat} {l : List Oper} (hm : P.follows .mixedOrders = true) (hB : Region.lexB .any l.toArray = true) (hM : Mem w L W)
    (h : wpQuiet P l.toArray (Mem w L) (fun a' => ∀ W', Mem w L W' → Q .normal a' W') l a) : (Code.region id l.toArray true).wp P Q a W :=
  wp_region_quiet (C := Mem w L) hm hB hM.drew (by simpa using h)

variable {K : Act → Prop}
theorem quiet_val (h : ∃ v, (∀ W, (execOp a.eval o).run P W = .ok (.value v) W) ∧ K (a.put o.dst v)) : o.quiet P a (Mem w L) K := by
  obtain ⟨v, hr, h⟩ := h
  refine ⟨v, fun W _ => ?_, h⟩
  unfold Oper.quietAt
  rw [hr]; exact ⟨rfl, rfl⟩
theorem quiet_call (h : ∃ f args v, (∀ W, (execOp a.eval o).run P W = .ok (.enter f args) W) ∧
    (∀ W, Mem w L W → Calls P f args W fun e w' => e = .returned v ∧ Below W.heap.size W w') ∧ K (a.put o.dst v)) : o.quiet P a (Mem w L) K := by
  obtain ⟨f, args, v, hr, hc, h⟩ := h
  refine ⟨v, fun W hM => ?_, h⟩
  unfold Oper.quietAt
  rw [hr]
  exact ⟨rfl, (hc W hM).mono fun e w' ⟨he, hb⟩ => ⟨he, hM.call hb⟩⟩
theorem quiet_get (ty : TypeId) (x : Operand) (ho : o.op = .load ty x) (b off : Nat) (hx : a.eval x = .pointer (some ⟨b, off, none⟩))
    (i : Nat) {n : Nat} {f : Nat → Value} (hi : L[i]? = some (b, n, f)) {m : Nat} (hT : RowT P ty m) (hle : off + m ≤ n)
    (h : K (a.put o.dst (.agg (arr m (fun k => f (off + k)))))) : o.quiet P a (Mem w L) K := by
  refine ⟨_, fun W hM => ?_, h⟩
  obtain ⟨⟨d, hu, hd⟩, hm⟩ := hT
  obtain ⟨t, ht⟩ := hM.ats i b n f hi
  have hr : W.rangeAt b off (arr m (fun k => f (off + k))).toList := by
    rw [← arr_extract hle]; exact World.rangeAt_of_block ht off m
  have hl := run_loadVar_mid (P := P) W b off ty _ d hr hu hd (by rw [hm]; simp [arr_size])
  unfold Oper.quietAt execOp
  simp only [ho, hx, Instr.loadAt, Instr.sureAddr, Sem.run_bind, Sem.run_pure, Result.andThen_ok, hl]
  exact ⟨rfl, by simp⟩
theorem quiet_get1 (ty : TypeId) (x : Operand) (ho : o.op = .load ty x) (b off : Nat) (hx : a.eval x = .pointer (some ⟨b, off, none⟩))
    (i : Nat) {n : Nat} {f : Nat → Value} (hi : L[i]? = some (b, n, f)) (hT : CellT P ty) (hle : off < n) (v : Value) (hv : f off = v)
    (h : K (a.put o.dst v)) : o.quiet P a (Mem w L) K := by
  refine ⟨v, fun W hM => ?_, h⟩
  obtain ⟨⟨d, hu, hd⟩, _⟩ := hT
  have hc := (hM.ats i b n f hi).cell hle
  rw [hv] at hc
  have hagg : (isAgg ty).run P W = .ok false W := by
    unfold isAgg
    rw [Sem.run_bind, run_underlying hu W]
    cases d <;> simp_all [TypeDesc.isRow]
  have hl : (load ⟨b, off, none⟩).run P W = .ok v W := by simp [load, Sem.run, hc]
  unfold Oper.quietAt execOp
  simp only [ho, hx, Instr.loadAt, Instr.sureAddr, loadVar, Sem.run_bind, Sem.run_pure, Result.andThen_ok, hagg, Bool.false_eq_true, if_false, hl]
  exact ⟨rfl, rfl⟩
end Go.Proofs.YtofgkmoilncfpaaDoor

/-
  THE TYPES OF THE PROGRAM THAT ARE ROWS OF CELLS, AND THOSE OF ONE CELL, as the walks' arms ask them; a pasture's cells.
-/
namespace Go.Proofs.YtofgkmoilncfpaaDoor
open Go Go.RowKit

/-- The integer kind of each cell of a pasture. -/
def kd (k : Nat) : IntKind := if k < 2 then .i8 else if k < 102 then .i16 else .u16
/-- A pasture's cells. -/
def pas (g : Nat → Int) : Nat → Value := fun k => .int (kd k) (g k)
theorem kd_i8 {k : Nat} (h : k < 2) : kd k = .i8 := by simp [kd, h]
theorem kd_i16 {k : Nat} (h : 2 ≤ k) (h' : k < 102) : kd k = .i16 := by
  unfold kd; rw [if_neg (by omega), if_pos h']
theorem kd_u16 {k : Nat} (h : 102 ≤ k) : kd k = .u16 := by
  unfold kd; rw [if_neg (by omega), if_neg (by omega)]
theorem pas_i16 (g : Nat → Int) {k : Nat} (h : 2 ≤ k) (h' : k < 102) : pas g k = .int .i16 (g k) := by unfold pas; rw [kd_i16 h h']
theorem pas_u16 (g : Nat → Int) {k : Nat} (h : 102 ≤ k) : pas g k = .int .u16 (g k) := by unfold pas; rw [kd_u16 h]
def zP : Nat → Value := fun k => .int (kd k) 0

/-- A spot's two cells. -/
def sp (x y : Int) : Nat → Value := fun k => .int .i8 (if k = 0 then x else y)
/-- Each cell of a pasture fits its kind. -/
structure Fits (g : Nat → Int) : Prop where
  w : -128 ≤ g 0 ∧ g 0 ≤ 127
  h : -128 ≤ g 1 ∧ g 1 ≤ 127
  grass : ∀ k, 2 ≤ k → k < 102 → -32768 ≤ g k ∧ g k ≤ 32767
  bits : ∀ k, 102 ≤ k → k < 122 → 0 ≤ g k ∧ g k ≤ 65535


/-- The integer kind of each cell of a goat; a goat's cells. -/
def gk (k : Nat) : IntKind := if k < 4 then .i8 else if k < 6 then .i16 else .i8
def gt (h : Nat → Int) : Nat → Value := fun k => .int (gk k) (h k)
def zG : Nat → Value := fun k => .int (gk k) 0

/-- The integer kind of each cell of a growth; a growth's cells: the table's eleven, the limit. -/
def grk (k : Nat) : IntKind := if k < 11 then .i8 else .i16
def gro (h : Nat → Int) : Nat → Value := fun k => .int (grk k) (h k)
def zW : Nat → Value := fun k => .int (grk k) 0
theorem gro_i8 (h : Nat → Int) {k : Nat} (hk : k < 11) : gro h k = .int .i8 (h k) := by simp [gro, grk, hk]
theorem gro_lim (h : Nat → Int) : gro h 11 = .int .i16 (h 11) := rfl
/-- Each cell of a growth fits its kind. -/
structure FitsW (h : Nat → Int) : Prop where
  tab : ∀ k, k < 11 → -128 ≤ h k ∧ h k ≤ 127
  lim : -32768 ≤ h 11 ∧ h 11 ≤ 32767

/-- A hurdle's cells. -/
def hd (x y : Int) (s : Bool) : Nat → Value := fun k => if k = 0 then .int .i8 x else if k = 1 then .int .i8 y else .bool s

def zMem : Nat → Value := fun k => if k = 0 then .string ⟨#[]⟩ else if k = 1 then .int .i16 0 else .int .u16 0
def zFlk : Nat → Value := fun k => if k = 0 then .slice none 0 0 else .map none
def rowInfo (ty : TypeId) : Option Nat :=
  match ty with
  | 24 => some 10
  | 25 => some 100
  | 27 => some 10
  | 32 => some 122
  | 29 => some 122
  | 47 => some 2
  | 51 => some 2
  | 49 => some 3
  | 53 => some 3
  | _ => none
theorem rowTab (ty m : Nat) (h : rowInfo ty = some m) : RowT Tryd.prog ty m := by
  unfold rowInfo at h
  split at h
  · cases h; exact ⟨⟨_, Tryd.underlying24, rfl⟩, by kernel_rfl⟩
  · cases h; exact ⟨⟨_, Tryd.underlying25, rfl⟩, by kernel_rfl⟩
  · cases h; exact ⟨⟨_, Tryd.underlying27, rfl⟩, by kernel_rfl⟩
  · cases h; exact ⟨⟨_, Tryd.underlying32, rfl⟩, by kernel_rfl⟩
  · cases h; exact ⟨⟨_, Tryd.underlying29, rfl⟩, by kernel_rfl⟩
  · cases h; exact ⟨⟨_, Tryd.underlying47, rfl⟩, by kernel_rfl⟩
  · cases h; exact ⟨⟨_, Tryd.underlying51, rfl⟩, by kernel_rfl⟩
  · cases h; exact ⟨⟨_, Tryd.underlying49, rfl⟩, by kernel_rfl⟩
  · cases h; exact ⟨⟨_, Tryd.underlying53, rfl⟩, by kernel_rfl⟩
  · cases h

def cellInfo (ty : TypeId) : Bool :=
  match ty with
  | 22 => true
  | 23 => true
  | 26 => true
  | 3 => true
  | 2 => true
  | 4 => true
  | 65 => true
  | 107 => true
  | 77 => true
  | 9 => true
  | 5 => true
  | _ => false
theorem cellTab (ty : Nat) (h : cellInfo ty = true) : CellT Tryd.prog ty := by
  unfold cellInfo at h
  split at h
  · exact ⟨⟨_, Tryd.underlying22, rfl⟩, by kernel_rfl⟩
  · exact ⟨⟨_, Tryd.underlying23, rfl⟩, by kernel_rfl⟩
  · exact ⟨⟨_, Tryd.underlying26, rfl⟩, by kernel_rfl⟩
  · exact ⟨⟨_, Tryd.underlying3, rfl⟩, by kernel_rfl⟩
  · exact ⟨⟨_, Tryd.underlying2, rfl⟩, by kernel_rfl⟩
  · exact ⟨⟨_, Tryd.underlying4, rfl⟩, by kernel_rfl⟩
  · exact ⟨⟨_, Tryd.underlying65, rfl⟩, by kernel_rfl⟩
  · exact ⟨⟨_, Tryd.underlying107, rfl⟩, by kernel_rfl⟩
  · exact ⟨⟨_, Tryd.underlying77, rfl⟩, by kernel_rfl⟩
  · exact ⟨⟨_, Tryd.underlying9, rfl⟩, by kernel_rfl⟩
  · exact ⟨⟨_, Tryd.underlying5, rfl⟩, by kernel_rfl⟩
  · cases h

def zeroInfo (ty : TypeId) : Option (Nat × (Nat → Value)) :=
  match ty with
  | 24 => some (10, fun _ => .int .i16 0)
  | 25 => some (100, fun _ => .int .i16 0)
  | 27 => some (10, fun _ => .int .u16 0)
  | 32 => some (122, zP)
  | 47 => some (2, fun _ => .int .i8 0)
  | 49 => some (3, hd 0 0 false)
  | _ => none
theorem zeroTab (ty n : Nat) (f : Nat → Value) (h : zeroInfo ty = some (n, f)) : (Tryd.prog.info? ty).map (·.zero) = some (some (.agg (arr n f))) := by
  unfold zeroInfo at h
  split at h
  · cases h; kernel_rfl
  · cases h; kernel_rfl
  · cases h; kernel_rfl
  · cases h; kernel_rfl
  · cases h; kernel_rfl
  · cases h; kernel_rfl
  · cases h

def zero1Info (ty : TypeId) : Option Value :=
  match ty with
  | 4 => some (.bool false)
  | 2 => some (.int .i64 0)
  | 3 => some (.int .i64 0)
  | 22 => some (.int .i8 0)
  | 65 => some .nilIface
  | _ => none
theorem zero1Tab (ty : Nat) (v : Value) (h : zero1Info ty = some v) : (Tryd.prog.info? ty).map (·.zero) = some (some v) := by
  unfold zero1Info at h
  split at h
  · cases h; kernel_rfl
  · cases h; kernel_rfl
  · cases h; kernel_rfl
  · cases h; kernel_rfl
  · cases h; kernel_rfl
  · cases h
end Go.Proofs.YtofgkmoilncfpaaDoor

/-
  WHAT EVERY LAW's ROW ASKS BEHIND THE WALK: the result true; arguments and named variables read as before, if nothing that lay has turned. And what the arguments are, out of their types.
-/
namespace Go.Proofs.YtofgkmoilncfpaaDoor
open Go Go.RowKit Go.ChangeShapes Go.WideShapes Go.ChangeAt

section
variable {H : Type} {enc : TypeId × Value → H} {P : Program}
theorem trodAll_below (hl : laidOutB P = true) {W W' : World} (hb : Below W.heap.size W W') : ∀ {ts : List TypeId} {vs : List Value} {ds : List (DataW H)} {p : List MemPlace},
    (∀ t ∈ ts, P.readableRec t = true ∧ t < P.types.size) → DataW.TrodAll enc P W 0 (fun _ => true) true ts vs ds p → (∀ x ∈ p, x.block < W.heap.size) →
    DataW.TrodAll enc P W' 0 (fun b => decide (b < W.heap.size)) true ts vs ds p
  | [], _, _, _, _, h, _ => by
    obtain ⟨rfl, rfl, rfl⟩ := trodAll_nil h
    exact trodAll_mk0
  | t :: ts, _, _, _, ht, h, hlt => by
    obtain ⟨v, vs', d, ds', p, q, rfl, rfl, rfl, h0, r0⟩ := trodAll_cons h
    exact trodAll_cons_mk (Below.trod hl (ht t (by simp)).1 (ht t (by simp)).2 h0 hb (fun x hx => hlt x (by simp [hx])))
      (trodAll_below hl hb (fun t' h' => ht t' (by simp [h'])) r0 (fun x hx => hlt x (by simp [hx])))

theorem law_post {f : Func} {s : ChangeSpec} {W W' : World} {args : Array Value} {ds gs : List (DataW H)} {before : List MemPlace} {tb : TypeId}
    (hl : laidOutB P = true) (hp : ∀ t ∈ f.params.toList, P.readableRec t = true ∧ t < P.types.size) (hv : varsRowed P s.vars = true) (hr : f.resultTypes = #[tb]) (htb : P.underlying tb = some .bool)
    (hW : DataW.Whole enc P f.params.toList s.vars false W args.toList ds gs before) (hs : s.fn H (ds ++ gs) = { results := [.lit (.bool true)], args := ds, vars := gs }) (hb : Below W.heap.size W W') :
    s.post enc P f false true false false W args (.bool true) W' := by
  have hlt := fun p hp => hW.lt p hp
  have hW' := hW
  obtain ⟨p, q, hA, hV, rfl, hfz, hnd⟩ := hW
  refine ⟨ds, gs, _, [], p, q, hW', ?_, ?_, ?_, hb.frame _, fun h => by cases h⟩
  · rw [hs, hr]
    exact trodAll_mk1 (shut_bool htb true)
  · rw [hs]
    exact trodAll_below hl hb hp hA (fun x hx => hlt x (by simp [hx]))
  · rw [hs]
    exact Below.trodVars hl hb hv hV
end

/-- The bounds of an integer kind. -/
theorem has_i8 {n : Int} (h : IntKind.i8.has n) : -128 ≤ n ∧ n ≤ 127 := by
  have e1 : IntKind.i8.min = -128 := by decide
  have e2 : IntKind.i8.max = 127 := by decide
  unfold IntKind.has at h; rw [e1, e2] at h; exact h
theorem has_i16 {n : Int} (h : IntKind.i16.has n) : -32768 ≤ n ∧ n ≤ 32767 := by
  have e1 : IntKind.i16.min = -32768 := by decide
  have e2 : IntKind.i16.max = 32767 := by decide
  unfold IntKind.has at h; rw [e1, e2] at h; exact h
theorem has_u16 {n : Int} (h : IntKind.u16.has n) : 0 ≤ n ∧ n ≤ 65535 := by
  have e1 : IntKind.u16.min = 0 := by decide
  have e2 : IntKind.u16.max = 65535 := by decide
  unfold IntKind.has at h; rw [e1, e2] at h; exact h
theorem has_i64 {n : Int} (h : IntKind.i64.has n) : -9223372036854775808 ≤ n ∧ n ≤ 9223372036854775807 := by
  have e1 : IntKind.i64.min = -9223372036854775808 := by decide
  have e2 : IntKind.i64.max = 9223372036854775807 := by decide
  unfold IntKind.has at h; rw [e1, e2] at h; exact h

theorem cell_int {P : Program} {W : World} {base : Nat} {t : TypeId} {κ : IntKind} {v : Value} (ht : P.underlying t = some (.int κ)) (h : Cell.okWide P W .any base t v) : ∃ n, v = .int κ n ∧ κ.has n := by
  unfold Cell.okWide at h
  rw [ht] at h
  cases v <;> simp only [Cell.ok, ht] at h
  case int k n => exact ⟨n, by rw [h.1], h.2⟩

def numOf : Option Value → Int
  | some (.int _ n) => n
  | _ => 0

/-- The type of each cell of a pasture. -/
def tyOf (k : Nat) : TypeId := if k < 2 then 22 else if k < 102 then 23 else 26

set_option maxRecDepth 100000 in
theorem open_pas {W : World} {base : Nat} {v : Value} (h : Value.okWide Tryd.prog W .any base 29 v) : ∃ g, Fits g ∧ v = .agg (arr 122 (pas g)) := by
  unfold Value.okWide at h
  rw [Tryd.underlying29] at h
  obtain ⟨cs, rfl, hsz, ts, hts, -, hcell⟩ := h
  have e1 : Tryd.prog.cellsOf 29 = 122 := by kernel_rfl
  have e2 : Tryd.prog.cellTypes Tryd.prog.depth 29 = some ((List.range 122).map tyOf) := by kernel_rfl
  rw [e1] at hsz
  obtain rfl : (List.range 122).map tyOf = ts := Option.some.inj (e2.symm.trans hts)
  have key : ∀ k, k < 122 → ∃ v, cs[k]? = some v ∧ Cell.okWide Tryd.prog W .any base (tyOf k) v := fun k hk => by
    have hv : cs[k]? = some cs[k] := Array.getElem?_eq_getElem (by omega)
    obtain ⟨u, hu, hc⟩ := hcell k _ hv
    have hlen : ((List.range 122).map tyOf).length = 122 := by simp
    rw [hlen, Nat.mod_eq_of_lt hk, List.getElem?_map, List.getElem?_range hk] at hu
    obtain rfl : tyOf k = u := by simpa using hu
    exact ⟨_, hv, hc⟩
  have k8 : ∀ k, k < 2 → ∃ n, cs[k]? = some (.int .i8 n) ∧ -128 ≤ n ∧ n ≤ 127 := fun k hk => by
    obtain ⟨v, hv, hc⟩ := key k (by omega)
    have e : tyOf k = 22 := by simp [tyOf, hk]
    rw [e] at hc
    obtain ⟨n, rfl, hn⟩ := cell_int Tryd.underlying22 hc
    exact ⟨n, hv, has_i8 hn⟩
  have k16 : ∀ k, 2 ≤ k → k < 102 → ∃ n, cs[k]? = some (.int .i16 n) ∧ -32768 ≤ n ∧ n ≤ 32767 := fun k hk hk' => by
    obtain ⟨v, hv, hc⟩ := key k (by omega)
    have e : tyOf k = 23 := by unfold tyOf; rw [if_neg (by omega), if_pos hk']
    rw [e] at hc
    obtain ⟨n, rfl, hn⟩ := cell_int Tryd.underlying23 hc
    exact ⟨n, hv, has_i16 hn⟩
  have ku : ∀ k, 102 ≤ k → k < 122 → ∃ n, cs[k]? = some (.int .u16 n) ∧ 0 ≤ n ∧ n ≤ 65535 := fun k hk hk' => by
    obtain ⟨v, hv, hc⟩ := key k (by omega)
    have e : tyOf k = 26 := by unfold tyOf; rw [if_neg (by omega), if_neg (by omega)]
    rw [e] at hc
    obtain ⟨n, rfl, hn⟩ := cell_int Tryd.underlying26 hc
    exact ⟨n, hv, has_u16 hn⟩
  refine ⟨fun k => numOf cs[k]?, ⟨?_, ?_, ?_, ?_⟩, congrArg Value.agg (arr_ext hsz fun k hk => ?_)⟩
  · obtain ⟨n, hn, hb⟩ := k8 0 (by omega); simp only [hn, numOf]; exact hb
  · obtain ⟨n, hn, hb⟩ := k8 1 (by omega); simp only [hn, numOf]; exact hb
  · intro k hk hk'; obtain ⟨n, hn, hb⟩ := k16 k hk hk'; simp only [hn, numOf]; exact hb
  · intro k hk hk'; obtain ⟨n, hn, hb⟩ := ku k hk hk'; simp only [hn, numOf]; exact hb
  · by_cases h2 : k < 2
    · obtain ⟨n, hn, -⟩ := k8 k h2; rw [hn]; simp [pas, kd_i8 h2, hn, numOf]
    · by_cases h3 : k < 102
      · obtain ⟨n, hn, -⟩ := k16 k (by omega) h3; rw [hn]; simp [pas, kd_i16 (by omega) h3, hn, numOf]
      · obtain ⟨n, hn, -⟩ := ku k (by omega) hk; rw [hn]; simp [pas, kd_u16 (show 102 ≤ k by omega), hn, numOf]
end Go.Proofs.YtofgkmoilncfpaaDoor

/-
  THE ERRORS OF THE PACKAGE: what the rows' condition gives of them, errors.Is on them, and impl.codeOf by contract.
-/
namespace Go.Proofs.YtofgkmoilncfpaaDoor
open Go Go.RowKit Go.ChangeShapes Go.Extern.Stop Go.Stop Go.Extern Go.BigFrame

def errG (k : Nat) : Nat :=
  match k with
  | 0 => 0
  | 1 => 1
  | 2 => 3
  | 3 => 4
  | 4 => 5
  | 5 => 2
  | _ => 6
/-- The error at an address, as a value. -/
def errV (a : Addr) : Value := .iface 116 (.pointer (some a))
/-- Which errors the variables hold, each another one. -/
structure Errs (a : Nat → Addr) (W : World) : Prop where
  vars : ∀ k, k < 7 → W.cell? ⟨errG k, 0, none⟩ = some (errV (a k))
  cells : ∀ k, k < 7 → ∃ c t, W.heap[(a k).block]? = some (.cells c t (0, 0))
  apart : ∀ i j, i < 7 → j < 7 → i ≠ j → a i ≠ a j

theorem cell_below {N : Nat} {W W' : World} (hb : Below N W W') {x : Addr} (hlt : x.block < N) : W'.cell? x = W.cell? x := by
  unfold World.cell?
  rw [hb.block _ hlt]
theorem Errs.below {a : Nat → Addr} {W W' : World} (h : Errs a W) (hb : Below W.heap.size W W') : Errs a W' :=
  ⟨fun k hk => by
    have hc := h.vars k hk
    rw [cell_below hb (block_lt_of_cell hc)]; exact hc,
   fun k hk => by
    obtain ⟨c, t, hc⟩ := h.cells k hk
    exact ⟨c, t, (hb.block _ (Array.getElem?_eq_some_iff.1 hc).1).trans hc⟩,
   h.apart⟩

/-! ### What a row's condition gives -/
theorem row_errT (u : TypeId) (h : Tryd.prog.typeName? 3 u = some "*errors.errorString") : u = 116 :=
  typeName_ptr_named (nm := "errors.errorString") (by rw [show "*" ++ "errors.errorString" = "*errors.errorString" by decide]; kernel_rfl) (by kernel_rfl) (by decide) u (by rw [show "*" ++ "errors.errorString" = "*errors.errorString" by decide]; exact h)
theorem cells_es : Tryd.prog.cellsOf 142 = 1 := by kernel_rfl
theorem cells_str : Tryd.prog.cellsOf 9 = 1 := by kernel_rfl
def errName (k : Nat) : String :=
  match k with
  | 0 => "loop.example/g01345/impl.errInvalid"
  | 1 => "loop.example/g01345/impl.errRange"
  | 2 => "loop.example/g01345/impl.errState"
  | 3 => "loop.example/g01345/impl.errSyntax"
  | 4 => "loop.example/g01345/impl.errNotFound"
  | 5 => "loop.example/g01345/impl.errLimit"
  | _ => "loop.example/g01345/impl.errBudget"
theorem err_named (k : Nat) (hk : k < 7) : Tryd.prog.globalNamed (errName k) = some (errG k) ∧ (Tryd.prog.globals[errG k]?).map (·.type) = some 65 := by
  have : k = 0 ∨ k = 1 ∨ k = 2 ∨ k = 3 ∨ k = 4 ∨ k = 5 ∨ k = 6 := by omega
  rcases this with rfl | rfl | rfl | rfl | rfl | rfl | rfl <;> exact ⟨by kernel_rfl, by kernel_rfl⟩

set_option maxRecDepth 100000 in
/-- One variable's error, and its two places. -/
theorem err_of_laid {W : World} (k : Nat) (hk : k < 7) {g : Nat} {t : TypeId} {cs : Array Value} {fuel : Nat} {p : List MemPlace} {text : List UInt8}
    (hg : Tryd.prog.globalNamed (errName k) = some g) (ht : (Tryd.prog.globals[g]?).map (·.type) = some t) (hv : W.var? Tryd.prog (errName k) = some cs)
    (hd : DataW.trod (fun _ => ()) Tryd.prog W 0 (fun _ => true) false fuel t cs.toList = some (.iface "*errors.errorString" (.ptr (.agg [.lit (.string text)])), p))
    (hr : ∀ b off, MemPlace.cell b off ∈ MemPlace.row ⟨g, 0, none⟩ cs.size ++ p → (∃ c t, W.heap[b]? = some (.cells c t (0, 0))) ∧ ∀ u v, W.cell? ⟨b, off, none⟩ = some (.iface u v) → Value.okWide Tryd.prog W .any 0 u v) :
    ∃ a : Addr, W.cell? ⟨errG k, 0, none⟩ = some (errV a) ∧ (∃ c t, W.heap[a.block]? = some (.cells c t (0, 0))) ∧ p = MemPlace.row a 1 := by
  obtain ⟨n1, n2⟩ := err_named k hk
  obtain rfl := Option.some.inj (n1.symm.trans hg)
  obtain rfl := Option.some.inj (n2.symm.trans ht)
  obtain ⟨l0⟩ := cs
  have ok0 : ∀ u v, l0 = [.iface u v] → Value.okWide Tryd.prog W .any 0 u v := fun u v e => by
    subst e
    exact (hr (errG k) 0 (by simp [MemPlace.row])).2 u v (by simpa using World.var?_cell hg hv 0)
  obtain ⟨a0, s0, rfl, hc0, hs0, hz0, rfl⟩ := errorString_of_trod Tryd.underlying65 row_errT Tryd.underlying116 Tryd.underlying142 rfl rfl Tryd.underlying9 cells_es cells_str hd ok0
  exact ⟨a0, by simpa [errV] using World.var?_cell hg hv 0, (hr a0.block a0.off (by simp [MemPlace.row])).1, rfl⟩

theorem row1_ne {a b : Addr} {l : List MemPlace} (h : (MemPlace.row a 1 ++ l).Nodup) (hb : MemPlace.cell b.block b.off ∈ l) : a ≠ b := by
  rintro rfl
  simp [MemPlace.row] at h
  exact h.1 hb

def errsLaid : List (String × DataW Unit) := Rows.fnExactAddHurdlesRow.laid

theorem errs_of_laid {W : World} (h : laidMetH Tryd.prog errsLaid W) : ∃ a, Errs a W := by
  rw [MakeChecks.laidMetH_plain _ _ _ (by kernel_rfl)] at h
  obtain ⟨ps, ⟨g0, t0, cs0, f0, p0, q0, hg0, ht0, hv0, hd0, ⟨g1, t1, cs1, f1, p1, q1, hg1, ht1, hv1, hd1, ⟨g5, t5, cs5, f5, p5, q5, hg5, ht5, hv5, hd5, ⟨g2, t2, cs2, f2, p2, q2, hg2, ht2, hv2, hd2, ⟨g3, t3, cs3, f3, p3, q3, hg3, ht3, hv3, hd3, ⟨g4, t4, cs4, f4, p4, q4, hg4, ht4, hv4, hd4, ⟨g6, t6, cs6, f6, p6, q6, hg6, ht6, hv6, hd6, _, e6⟩, e4⟩, e3⟩, e2⟩, e5⟩, e1⟩, e0⟩, hnd, hrows⟩ := h
  subst e6 e4 e3 e2 e5 e1 e0
  obtain ⟨a0, v0, c0, rfl⟩ := err_of_laid 0 (by omega) hg0 ht0 hv0 hd0 (fun b off hm => hrows b off (by simp only [List.mem_append] at hm ⊢; rcases hm with h | h <;> simp [h]))
  obtain ⟨a1, v1, c1, rfl⟩ := err_of_laid 1 (by omega) hg1 ht1 hv1 hd1 (fun b off hm => hrows b off (by simp only [List.mem_append] at hm ⊢; rcases hm with h | h <;> simp [h]))
  obtain ⟨a5, v5, c5, rfl⟩ := err_of_laid 5 (by omega) hg5 ht5 hv5 hd5 (fun b off hm => hrows b off (by simp only [List.mem_append] at hm ⊢; rcases hm with h | h <;> simp [h]))
  obtain ⟨a2, v2, c2, rfl⟩ := err_of_laid 2 (by omega) hg2 ht2 hv2 hd2 (fun b off hm => hrows b off (by simp only [List.mem_append] at hm ⊢; rcases hm with h | h <;> simp [h]))
  obtain ⟨a3, v3, c3, rfl⟩ := err_of_laid 3 (by omega) hg3 ht3 hv3 hd3 (fun b off hm => hrows b off (by simp only [List.mem_append] at hm ⊢; rcases hm with h | h <;> simp [h]))
  obtain ⟨a4, v4, c4, rfl⟩ := err_of_laid 4 (by omega) hg4 ht4 hv4 hd4 (fun b off hm => hrows b off (by simp only [List.mem_append] at hm ⊢; rcases hm with h | h <;> simp [h]))
  obtain ⟨a6, v6, c6, rfl⟩ := err_of_laid 6 (by omega) hg6 ht6 hv6 hd6 (fun b off hm => hrows b off (by simp only [List.mem_append] at hm ⊢; rcases hm with h | h <;> simp [h]))
  have key : (MemPlace.row a0 1 ++ (MemPlace.row a1 1 ++ (MemPlace.row a5 1 ++ (MemPlace.row a2 1 ++ (MemPlace.row a3 1 ++ (MemPlace.row a4 1 ++ MemPlace.row a6 1)))))).Nodup := by
    refine List.Nodup.sublist ?_ hnd
    simp only [List.append_assoc]
    refine List.Sublist.trans ?_ (List.sublist_append_right _ _)
    refine List.Sublist.append (List.Sublist.refl _) (List.Sublist.trans ?_ (List.sublist_append_right _ _))
    refine List.Sublist.append (List.Sublist.refl _) (List.Sublist.trans ?_ (List.sublist_append_right _ _))
    refine List.Sublist.append (List.Sublist.refl _) (List.Sublist.trans ?_ (List.sublist_append_right _ _))
    refine List.Sublist.append (List.Sublist.refl _) (List.Sublist.trans ?_ (List.sublist_append_right _ _))
    refine List.Sublist.append (List.Sublist.refl _) (List.Sublist.trans ?_ (List.sublist_append_right _ _))
    refine List.Sublist.append (List.Sublist.refl _) (List.Sublist.trans ?_ (List.sublist_append_right _ _))
    exact List.sublist_append_left _ _
  have k1 := List.Nodup.sublist (List.sublist_append_right _ _) key
  have k2 := List.Nodup.sublist (List.sublist_append_right _ _) k1
  have k3 := List.Nodup.sublist (List.sublist_append_right _ _) k2
  have k4 := List.Nodup.sublist (List.sublist_append_right _ _) k3
  have k5 := List.Nodup.sublist (List.sublist_append_right _ _) k4
  have z0_1 := row1_ne key (b := a1) (by simp [MemPlace.row])
  have z0_5 := row1_ne key (b := a5) (by simp [MemPlace.row])
  have z0_2 := row1_ne key (b := a2) (by simp [MemPlace.row])
  have z0_3 := row1_ne key (b := a3) (by simp [MemPlace.row])
  have z0_4 := row1_ne key (b := a4) (by simp [MemPlace.row])
  have z0_6 := row1_ne key (b := a6) (by simp [MemPlace.row])
  have z1_5 := row1_ne k1 (b := a5) (by simp [MemPlace.row])
  have z1_2 := row1_ne k1 (b := a2) (by simp [MemPlace.row])
  have z1_3 := row1_ne k1 (b := a3) (by simp [MemPlace.row])
  have z1_4 := row1_ne k1 (b := a4) (by simp [MemPlace.row])
  have z1_6 := row1_ne k1 (b := a6) (by simp [MemPlace.row])
  have z5_2 := row1_ne k2 (b := a2) (by simp [MemPlace.row])
  have z5_3 := row1_ne k2 (b := a3) (by simp [MemPlace.row])
  have z5_4 := row1_ne k2 (b := a4) (by simp [MemPlace.row])
  have z5_6 := row1_ne k2 (b := a6) (by simp [MemPlace.row])
  have z2_3 := row1_ne k3 (b := a3) (by simp [MemPlace.row])
  have z2_4 := row1_ne k3 (b := a4) (by simp [MemPlace.row])
  have z2_6 := row1_ne k3 (b := a6) (by simp [MemPlace.row])
  have z3_4 := row1_ne k4 (b := a4) (by simp [MemPlace.row])
  have z3_6 := row1_ne k4 (b := a6) (by simp [MemPlace.row])
  have z4_6 := row1_ne k5 (b := a6) (by simp [MemPlace.row])
  refine ⟨fun k => match k with | 0 => a0 | 1 => a1 | 2 => a2 | 3 => a3 | 4 => a4 | 5 => a5 | _ => a6, ?_, ?_, ?_⟩
  · intro k hk
    match k, hk with
    | 0, _ => exact v0
    | 1, _ => exact v1
    | 2, _ => exact v2
    | 3, _ => exact v3
    | 4, _ => exact v4
    | 5, _ => exact v5
    | 6, _ => exact v6
  · intro k hk
    match k, hk with
    | 0, _ => exact c0
    | 1, _ => exact c1
    | 2, _ => exact c2
    | 3, _ => exact c3
    | 4, _ => exact c4
    | 5, _ => exact c5
    | 6, _ => exact c6
  · intro i j hi hj hne
    match i, j, hi, hj, hne with
    | 0, 0, _, _, h => exact absurd rfl h
    | 0, 1, _, _, _ => exact z0_1
    | 0, 2, _, _, _ => exact z0_2
    | 0, 3, _, _, _ => exact z0_3
    | 0, 4, _, _, _ => exact z0_4
    | 0, 5, _, _, _ => exact z0_5
    | 0, 6, _, _, _ => exact z0_6
    | 1, 0, _, _, _ => exact z0_1.symm
    | 1, 1, _, _, h => exact absurd rfl h
    | 1, 2, _, _, _ => exact z1_2
    | 1, 3, _, _, _ => exact z1_3
    | 1, 4, _, _, _ => exact z1_4
    | 1, 5, _, _, _ => exact z1_5
    | 1, 6, _, _, _ => exact z1_6
    | 2, 0, _, _, _ => exact z0_2.symm
    | 2, 1, _, _, _ => exact z1_2.symm
    | 2, 2, _, _, h => exact absurd rfl h
    | 2, 3, _, _, _ => exact z2_3
    | 2, 4, _, _, _ => exact z2_4
    | 2, 5, _, _, _ => exact z5_2.symm
    | 2, 6, _, _, _ => exact z2_6
    | 3, 0, _, _, _ => exact z0_3.symm
    | 3, 1, _, _, _ => exact z1_3.symm
    | 3, 2, _, _, _ => exact z2_3.symm
    | 3, 3, _, _, h => exact absurd rfl h
    | 3, 4, _, _, _ => exact z3_4
    | 3, 5, _, _, _ => exact z5_3.symm
    | 3, 6, _, _, _ => exact z3_6
    | 4, 0, _, _, _ => exact z0_4.symm
    | 4, 1, _, _, _ => exact z1_4.symm
    | 4, 2, _, _, _ => exact z2_4.symm
    | 4, 3, _, _, _ => exact z3_4.symm
    | 4, 4, _, _, h => exact absurd rfl h
    | 4, 5, _, _, _ => exact z5_4.symm
    | 4, 6, _, _, _ => exact z4_6
    | 5, 0, _, _, _ => exact z0_5.symm
    | 5, 1, _, _, _ => exact z1_5.symm
    | 5, 2, _, _, _ => exact z5_2
    | 5, 3, _, _, _ => exact z5_3
    | 5, 4, _, _, _ => exact z5_4
    | 5, 5, _, _, h => exact absurd rfl h
    | 5, 6, _, _, _ => exact z5_6
    | 6, 0, _, _, _ => exact z0_6.symm
    | 6, 1, _, _, _ => exact z1_6.symm
    | 6, 2, _, _, _ => exact z2_6.symm
    | 6, 3, _, _, _ => exact z3_6.symm
    | 6, 4, _, _, _ => exact z4_6.symm
    | 6, 5, _, _, _ => exact z5_6.symm
    | 6, 6, _, _, h => exact absurd rfl h

/-! ### CLOSED FACTS -/
theorem isTypeOf (v : Value) (w : World) : (Extern.ReflectliteType.typeOf #[.iface 116 v]).run Tryd.prog w = .ok (.iface 100 (.agg #[.pointer (some ⟨7, 116, none⟩)])) w := by kernel_rfl
theorem isComparable (w : World) : (callFunc 82 #[.agg #[.pointer (some ⟨7, 116, none⟩)]]).run Tryd.prog w = .ok (.value (.bool true)) w := by
  rw [@run_callFunc_extern Tryd.prog 82 _ (Extern.ReflectliteType.method fun t => do Extern.Rtype.noPackHeld "Comparable" t; pure (.bool (← typeInfo t).comparable)) Tryd.func82 (by kernel_rfl) (by kernel_rfl) (by kernel_rfl) (by kernel_rfl)]
  kernel_rfl
theorem isMethodComparable (v : Value) (w : World) : (Go.method 253 100 v "Comparable").run Tryd.prog w = .ok (82, v) w := by kernel_rfl
theorem isComp : (Tryd.prog.info? 116).map (·.comparable) = some true := by kernel_rfl
theorem isSize : (Tryd.prog.info? 142).map (·.size) = some 1 := by kernel_rfl
theorem noIsE (v : Value) (xT : TypeId) (w : World) : (Instr.typeAssert (.iface 116 v) xT 102 true).run Tryd.prog w = .ok (.tuple #[.nilIface, .bool false]) w := run_typeAssert_lacksB Tryd.underlying102 (by kernel_rfl) (by kernel_rfl) v xT w
theorem noUnwrapE (v : Value) (xT : TypeId) (w : World) : (Instr.typeAssert (.iface 116 v) xT 105 true).run Tryd.prog w = .ok (.tuple #[.nilIface, .bool false]) w := run_typeAssert_lacksB Tryd.underlying105 (by kernel_rfl) (by kernel_rfl) v xT w
theorem noUnwrapsE (v : Value) (xT : TypeId) (w : World) : (Instr.typeAssert (.iface 116 v) xT 106 true).run Tryd.prog w = .ok (.tuple #[.nilIface, .bool false]) w := run_typeAssert_lacksB Tryd.underlying106 (by kernel_rfl) (by kernel_rfl) v xT w

set_option maxRecDepth 100000 in
/-- errors.Is(x, x). -/
theorem is_same (a : Addr) (w : World) :
    Calls Tryd.prog 40 #[errV a, errV a] w fun e w' => e = .returned (.bool true) ∧ w' = w := by
  obtain ⟨i, hi, hcmp⟩ := Option.map_eq_some_iff.1 isComp
  obtain ⟨j, hj, hjs⟩ := Option.map_eq_some_iff.1 isSize
  have h8 := @run_callFunc_extern Tryd.prog 46 _ Extern.ReflectliteType.typeOf Tryd.func46 (by kernel_rfl) (by kernel_rfl) (by kernel_rfl) (by kernel_rfl)
  have tT := isTypeOf
  have cT := isComparable
  have mR := isMethodComparable
  have heq := run_eql_iface_ptr_same (P := Tryd.prog) w a Tryd.underlying65 Tryd.underlying116 hi hcmp hj
  unfold errV
  go_enter Tryd.func40, Tryd.ntmps40
  go_wp2
  refine wp_loop_rounds 1 ?_
  rw [rounds_succ]
  go_wp2
  go_ret
  exact ⟨rfl, rfl⟩

set_option maxRecDepth 100000 in
/-- errors.Is(x, y), two different errors. -/
theorem is_other (a b : Addr) (ca cb : Array Value) (ta tb : TypeId) (w : World) (hne : a ≠ b) (ha : w.heap[a.block]? = some (.cells ca ta (0, 0))) (hb : w.heap[b.block]? = some (.cells cb tb (0, 0))) :
    Calls Tryd.prog 40 #[errV a, errV b] w fun e w' => e = .returned (.bool false) ∧ w' = w := by
  obtain ⟨i, hi, hcmp⟩ := Option.map_eq_some_iff.1 isComp
  obtain ⟨j, hj, hjs⟩ := Option.map_eq_some_iff.1 isSize
  have h8 := @run_callFunc_extern Tryd.prog 46 _ Extern.ReflectliteType.typeOf Tryd.func46 (by kernel_rfl) (by kernel_rfl) (by kernel_rfl) (by kernel_rfl)
  have tT := isTypeOf
  have cT := isComparable
  have mR := isMethodComparable
  have nE := noIsE
  have uE := noUnwrapE
  have vE := noUnwrapsE
  have heq := run_eql_iface_ptr_other (P := Tryd.prog) w Tryd.underlying65 Tryd.underlying116 hi hcmp hj (by rw [hjs]; decide) hne ha hb
  unfold errV
  go_enter Tryd.func40, Tryd.ntmps40
  go_wp2
  refine wp_loop_rounds 1 ?_
  rw [rounds_succ]
  go_wp2
  go_ret
  exact ⟨rfl, rfl⟩
end Go.Proofs.YtofgkmoilncfpaaDoor

