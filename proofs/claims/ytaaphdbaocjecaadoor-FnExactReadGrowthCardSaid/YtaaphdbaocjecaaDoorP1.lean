/-
  Several texts in one: Kit, Types, Spec1, GrowOk, Index, Equal, Results.
-/
import Derived.Laws.Rows
import Derived.Laws.Tables
import Derived.Laws.CopyRow
import Derived.Below
import Derived.Deep.MidRow
import Derived.Deep.Quiet
import Derived.Deep.QuietTactic
import Derived.WalkKit
import Derived.Test.YtaaphdbaocjecaaDoorProg
import Derived.KernelRfl
import Derived.OwnWalk
import Derived.BigQuiet
import Derived.Lib.Hide
import Derived.ChangeKeysEq
import Derived.Laws.StructEq
import Derived.Laws.ResultCell
/-
  PLAIN LAWS over any program: the memory that a call owns, as a list of blocks: block number, length, contents as a function of the place. Reads and writes of parts of a block by value.
-/
namespace Go.Proofs.YtaaphdbaocjecaaDoor
open Go Go.RowKit

/-! ### Arrays of values as functions -/
/-- The n values f 0, f 1, .. -/
def arr (n : Nat) (f : Nat → Value) : Array Value := ((List.range n).map f).toArray

theorem arr_size (n : Nat) (f : Nat → Value) : (arr n f).size = n := by simp [arr]
theorem arr_toList (n : Nat) (f : Nat → Value) : (arr n f).toList = (List.range n).map f := by simp [arr]
theorem arr_get (n : Nat) (f : Nat → Value) (k : Nat) : (arr n f)[k]? = if k < n then some (f k) else none := by
  unfold arr
  by_cases h : k < n
  · simp [h]
  · simp [h]
theorem arr_at {n : Nat} {f : Nat → Value} {k : Nat} (h : k < n) : (arr n f)[k]? = some (f k) := by rw [arr_get, if_pos h]
theorem arr_ext {n : Nat} {c : Array Value} {f : Nat → Value} (hs : c.size = n) (h : ∀ k, k < n → c[k]? = some (f k)) : c = arr n f := by
  apply Array.ext_getElem?
  intro k
  rw [arr_get]
  by_cases hk : k < n
  · rw [if_pos hk, h k hk]
  · rw [if_neg hk]; simp; omega
theorem arr_congr {n : Nat} {f g : Nat → Value} (h : ∀ k, k < n → f k = g k) : arr n f = arr n g :=
  arr_ext (arr_size n f) (fun k hk => by rw [arr_at hk, h k hk])
theorem arr_extract {n o m : Nat} {f : Nat → Value} (h : o + m ≤ n) : (arr n f).extract o (o + m) = arr m (fun k => f (o + k)) := by
  refine arr_ext (by simp [arr_size]; omega) (fun k hk => ?_)
  rw [Array.getElem?_extract, if_pos (by rw [arr_size]; omega), arr_at (by omega)]

/-- f with the value v at place k. -/
def upd (f : Nat → Value) (k : Nat) (v : Value) : Nat → Value := fun j => if j = k then v else f j
/-- f with the m values g 0, .. from place o on. -/
def lay (f : Nat → Value) (o m : Nat) (g : Nat → Value) : Nat → Value := fun j => if o ≤ j ∧ j < o + m then g (j - o) else f j

theorem arr_set {n k : Nat} {f : Nat → Value} {v : Value} : (arr n f).setIfInBounds k v = arr n (upd f k v) := by
  refine arr_ext (by simp [arr_size]) (fun j hj => ?_)
  rw [Array.getElem?_setIfInBounds]
  by_cases e : k = j
  · subst e; simp [upd, arr_size, hj]
  · have e' : ¬ j = k := fun h => e h.symm
    simp [upd, e, e', arr_at hj]
theorem arr_lay {n o m : Nat} {f g : Nat → Value} (h : o + m ≤ n) :
    ((arr n f).toList.take o ++ (arr m g).toList ++ (arr n f).toList.drop (o + (arr m g).toList.length)).toArray = arr n (lay f o m g) := by
  refine arr_ext ?_ (fun j hj => ?_)
  · simp [arr]; omega
  · simp only [List.getElem?_toArray, arr_toList, List.length_map, List.length_range]
    by_cases h1 : j < o
    · rw [List.append_assoc, List.getElem?_append_left (by simp; omega)]
      simp [lay, h1, hj]; omega
    · by_cases h2 : j < o + m
      · rw [List.append_assoc, List.getElem?_append_right (by simp; omega), List.getElem?_append_left (by simp; omega)]
        have : min o n = o := by omega
        simp [lay, this]
        rw [List.getElem?_range (by omega), if_pos ⟨by omega, h2⟩]; exact ⟨_, rfl, rfl⟩
      · rw [List.getElem?_append_right (by simp; omega)]
        have e : min o n = o := by omega
        simp [lay, h2, e]
        rw [List.getElem?_range (by omega)]
        simp
        congr 1
        omega

/-! ### What lies in a block -/
/-- Block b holds just the n values of f, and may be written. -/
def At (W : World) (b n : Nat) (f : Nat → Value) : Prop := ∃ t, W.heap[b]? = some (.cells (arr n f) t (0, 0))

theorem At.lt {W : World} {b n : Nat} {f : Nat → Value} (h : At W b n f) : b < W.heap.size := by
  obtain ⟨t, h⟩ := h; exact (Array.getElem?_eq_some_iff.1 h).1
theorem At.congr {W : World} {b n : Nat} {f g : Nat → Value} (h : At W b n f) (e : ∀ k, k < n → f k = g k) : At W b n g := by
  unfold At at *; rw [← arr_congr e]; exact h
theorem At.alloc {W : World} {b n : Nat} {f : Nat → Value} (h : At W b n f) (o : Obj) : At (W.alloc o) b n f := by
  obtain ⟨t, hh⟩ := h; exact ⟨t, (Below.heap_alloc W o b (At.lt ⟨t, hh⟩)).trans hh⟩
theorem At.new (W : World) (t : TypeId) (n : Nat) (f : Nat → Value) : At (W.alloc (.cells (arr n f) t)) W.heap.size n f := ⟨t, heap_alloc_new W _⟩
theorem At.cell {W : World} {b n : Nat} {f : Nat → Value} (h : At W b n f) {k : Nat} (hk : k < n) : W.cell? ⟨b, k, none⟩ = some (f k) := by
  obtain ⟨t, h⟩ := h; rw [cell_of_row W b k _ t _ h, arr_at hk]
theorem At.frozen {W : World} {b n : Nat} {f : Nat → Value} (h : At W b n f) (k : Nat) : W.frozen? ⟨b, k, none⟩ = false := by
  obtain ⟨t, h⟩ := h; exact frozen_of_row W b k _ t h
theorem At.setRow_same {W : World} {b n : Nat} {f g : Nat → Value} (h : At W b n f) : At (W.setRow b (arr n g)) b n g := by
  obtain ⟨t, h⟩ := h; exact ⟨t, setRow_heap W b _ _ t _ h⟩
theorem At.setRow_other {W : World} {b n : Nat} {f : Nat → Value} (h : At W b n f) {g : Nat} (c : Array Value) (hne : b ≠ g) : At (W.setRow g c) b n f := by
  obtain ⟨t, h⟩ := h; exact ⟨t, (_root_.Go.setRow_other W g b c hne).trans h⟩
theorem At.below {W W' : World} {b n N : Nat} {f : Nat → Value} (h : At W b n f) (hb : Below N W W') (hlt : b < N) : At W' b n f := by
  obtain ⟨t, h⟩ := h; exact ⟨t, (hb.block b hlt).trans h⟩
theorem At.drew {W : World} {b n : Nat} {f : Nat → Value} (h : At W b n f) : At W.drew b n f := h

theorem below_setRow {B g : Nat} {a W : World} (h : Below B a W) (hg : B ≤ g) (c : Array Value) : Below B a (W.setRow g c) :=
  ⟨h.os, h.tape, h.output, by rw [size_setRow]; exact h.size, fun k hk => (_root_.Go.setRow_other W g k c (by omega)).trans (h.block k hk)⟩

/-! ### What is kept of the worlds behind a start, and from which block on the call may write -/
structure Base where
  G : World → Prop
  B : Nat
  le : ∀ {W : World}, G W → B ≤ W.heap.size
  alloc : ∀ {W : World} (c : Array Value) (t : TypeId), G W → G (W.alloc (.cells c t))
  row : ∀ {W : World} {b : Nat} {c : Array Value} {t : TypeId}, G W → B ≤ b → W.heap[b]? = some (.cells c t (0, 0)) → ∀ c' : Array Value, G (W.setRow b c')
  call : ∀ {W W' : World}, G W → Below W.heap.size W W' → G W'
  drew : ∀ {W : World}, G W → G W.drew
/-- A call that begins in w and lets lie all that lay. -/
def Base.of (w : World) : Base where
  G := Below w.heap.size w
  B := w.heap.size
  le := fun h => h.size
  alloc := fun _ _ h => h.alloc h.size _
  row := fun h hb _ c' => below_setRow h hb c'
  call := fun h hb => h.trans (hb.mono h.size)
  drew := fun h => h.drew
instance : Coe World Base := ⟨Base.of⟩

/-! ### The memory of a call: L: blocks, as number, length, contents -/
abbrev Blocks := List (Nat × Nat × (Nat → Value))
structure Mem (w : Base) (L : Blocks) (W : World) : Prop where
  good : w.G W
  ats : ∀ (i : Nat) (b n : Nat) (f : Nat → Value), L[i]? = some (b, n, f) → At W b n f
  apart : ∀ (i j : Nat) (p q : Nat × Nat × (Nat → Value)), L[i]? = some p → L[j]? = some q → i ≠ j → p.1 ≠ q.1

theorem Mem.below {w W : World} {L : Blocks} (h : Mem w L W) : Below w.heap.size w W := h.good
theorem Mem.start {w : Base} {W : World} (h : w.G W) : Mem w [] W := ⟨h, fun i b n f h => by simp at h, fun i j p q h => by simp at h⟩
theorem Mem.nil (w : World) : Mem w [] w := Mem.start (w := Base.of w) (Below.refl _ _)
theorem Mem.size {w : Base} {W : World} {L : Blocks} (h : Mem w L W) : w.B ≤ W.heap.size := w.le h.good
/-- A block that lies there is taken on the list. -/
theorem Mem.old {w : Base} {W : World} {L : Blocks} (h : Mem w L W) {b n : Nat} {f : Nat → Value} (ha : At W b n f) (hL : ∀ (i : Nat) (p : Nat × Nat × (Nat → Value)), L[i]? = some p → p.1 ≠ b) : Mem w (L ++ [(b, n, f)]) W :=
  ⟨h.good, fun i b' n' f' hi => by
    by_cases hl : i < L.length
    · exact h.ats i b' n' f' (by rwa [List.getElem?_append_left hl] at hi)
    · rw [List.getElem?_append_right (by omega)] at hi
      have : i - L.length = 0 := by
        cases hq : i - L.length with
        | zero => rfl
        | succ k => rw [hq] at hi; simp at hi
      rw [this] at hi
      simp at hi
      obtain ⟨rfl, rfl, rfl⟩ := hi
      exact ha,
   fun i j p q hi hj hne => by
    have key : ∀ (i : Nat) (p : Nat × Nat × (Nat → Value)), (L ++ [(b, n, f)])[i]? = some p → (L[i]? = some p ∧ p.1 ≠ b) ∨ (i = L.length ∧ p.1 = b) := fun i p hi => by
      by_cases hl : i < L.length
      · rw [List.getElem?_append_left hl] at hi; exact .inl ⟨hi, hL i p hi⟩
      · rw [List.getElem?_append_right (by omega)] at hi
        cases hq : i - L.length with
        | zero => rw [hq] at hi; simp at hi; right; exact ⟨by omega, by rw [← hi]⟩
        | succ k => rw [hq] at hi; simp at hi
    rcases key i p hi with ⟨a1, a2⟩ | ⟨a1, a2⟩ <;> rcases key j q hj with ⟨b1, b2⟩ | ⟨b1, b2⟩
    · exact h.apart i j p q a1 b1 hne
    · rw [b2]; exact a2
    · rw [a2]; exact Ne.symm b2
    · omega⟩

theorem Mem.alloc {w : Base} {W : World} {L : Blocks} (h : Mem w L W) (t : TypeId) (n : Nat) (f : Nat → Value) : Mem w ((W.heap.size, n, f) :: L) (W.alloc (.cells (arr n f) t)) :=
  ⟨w.alloc _ _ h.good, fun i b n' f' hi => by
    cases i with
    | zero => simp at hi; obtain ⟨rfl, rfl, rfl⟩ := hi; exact At.new W t _ _
    | succ i => exact (h.ats i b n' f' (by simpa using hi)).alloc _,
   fun i j p q hi hj hne => by
    cases i with
    | zero =>
      cases j with
      | zero => exact absurd rfl hne
      | succ j =>
        simp at hi hj
        have := (h.ats j q.1 q.2.1 q.2.2 hj).lt
        rw [← hi]; show W.heap.size ≠ q.1; omega
    | succ i =>
      cases j with
      | zero =>
        simp at hi hj
        have := (h.ats i p.1 p.2.1 p.2.2 hi).lt
        rw [← hj]; show p.1 ≠ W.heap.size; omega
      | succ j => exact h.apart i j p q (by simpa using hi) (by simpa using hj) (by omega)⟩
theorem set_key {L : Blocks} {i : Nat} {b n n' : Nat} {f g : Nat → Value} (hi : L[i]? = some (b, n, f)) : ∀ (j : Nat) (p : Nat × Nat × (Nat → Value)), (L.set i (b, n', g))[j]? = some p → ∃ p', L[j]? = some p' ∧ p'.1 = p.1 := fun j p hj => by
  rw [List.getElem?_set] at hj
  by_cases e : i = j
  · subst e
    have hl : i < L.length := (List.getElem?_eq_some_iff.1 hi).1
    simp [hl] at hj
    exact ⟨_, hi, by rw [← hj]⟩
  · simp [e] at hj; exact ⟨p, hj, rfl⟩
theorem Mem.setRow {w : Base} {W : World} {L : Blocks} (h : Mem w L W) (i : Nat) {b n : Nat} {f : Nat → Value} (hi : L[i]? = some (b, n, f)) (hb : w.B ≤ b) (g : Nat → Value) : Mem w (L.set i (b, n, g)) (W.setRow b (arr n g)) :=
  ⟨let ⟨_, ht⟩ := h.ats i b n f hi; w.row h.good hb ht _, fun j b' n' f' hj => by
    rw [List.getElem?_set] at hj
    by_cases e : i = j
    · subst e
      have hl : i < L.length := (List.getElem?_eq_some_iff.1 hi).1
      simp [hl] at hj
      obtain ⟨rfl, rfl, rfl⟩ := hj
      exact (h.ats i b n f hi).setRow_same
    · simp [e] at hj
      exact (h.ats j b' n' f' hj).setRow_other _ (h.apart j i _ _ hj hi (fun e' => e e'.symm)),
   fun j k p q hj hk hne => by
    obtain ⟨p', hp, ep⟩ := set_key hi j p hj
    obtain ⟨q', hq, eq⟩ := set_key hi k q hk
    rw [← ep, ← eq]
    exact h.apart j k p' q' hp hq hne⟩
/-- Behind a call that lets lie all that lay. -/
theorem Mem.call {w : Base} {W W' : World} {L : Blocks} (h : Mem w L W) (hb : Below W.heap.size W W') : Mem w L W' :=
  ⟨w.call h.good hb, fun i b n f hi => (h.ats i b n f hi).below hb (h.ats i b n f hi).lt, h.apart⟩
theorem Mem.drew {w : Base} {W : World} {L : Blocks} (h : Mem w L W) : Mem w L W.drew := ⟨w.drew h.good, fun i b n f hi => h.ats i b n f hi, h.apart⟩
/-- One block's contents written otherwise. -/
theorem Mem.re {w : Base} {W : World} {L : Blocks} (h : Mem w L W) (i : Nat) {b n : Nat} {f : Nat → Value} (hi : L[i]? = some (b, n, f)) (g : Nat → Value) (e : ∀ k, k < n → f k = g k) : Mem w (L.set i (b, n, g)) W :=
  ⟨h.good, fun j b' n' f' hj => by
    rw [List.getElem?_set] at hj
    by_cases c : i = j
    · subst c
      have hl : i < L.length := (List.getElem?_eq_some_iff.1 hi).1
      simp [hl] at hj
      obtain ⟨rfl, rfl, rfl⟩ := hj
      exact (h.ats i b n f hi).congr e
    · simp [c] at hj; exact h.ats j b' n' f' hj,
   fun j k p q hj hk hne => by
    obtain ⟨p', hp, ep⟩ := set_key hi j p hj
    obtain ⟨q', hq, eq⟩ := set_key hi k q hk
    rw [← ep, ← eq]
    exact h.apart j k p' q' hp hq hne⟩
/-- The same blocks, seen from another start. -/
theorem Mem.base {w w' : Base} {W : World} {L : Blocks} (h : Mem w L W) (hg : w'.G W) : Mem w' L W := ⟨hg, h.ats, h.apart⟩
/-- Fewer blocks. -/
theorem Mem.drop {w : Base} {W : World} {p : Nat × Nat × (Nat → Value)} {L : Blocks} (h : Mem w (p :: L) W) : Mem w L W :=
  ⟨h.good, fun i b n f hi => h.ats (i + 1) b n f (by simpa using hi), fun i j p q hi hj hne => h.apart (i + 1) (j + 1) p q (by simpa using hi) (by simpa using hj) (by omega)⟩
theorem Mem.at0 {w : Base} {W : World} {b n : Nat} {f : Nat → Value} {L : Blocks} (h : Mem w ((b, n, f) :: L) W) : At W b n f := h.ats 0 b n f rfl

/-- A type whose variables are rows of m cells; a type whose variables are one cell. -/
def RowT (P : Program) (ty : TypeId) (m : Nat) : Prop := (∃ d, P.underlying ty = some d ∧ d.isRow = true) ∧ (P.info? ty).map (·.size) = some m
def CellT (P : Program) (ty : TypeId) : Prop := (∃ d, P.underlying ty = some d ∧ d.isRow = false) ∧ (P.info? ty).map (·.size) = some 1

/-! ### Operations on such memory, at the list of a plain region -/
variable {P : Program} {ops : Array Oper} {rest : List Oper} {o : Oper} {a : Act} {w : Base} {W : World} {Q : Exit → Act → World → Prop} {L : Blocks}

/-- A part by value out of a block. -/
theorem wpList_get (hgd : o.guard = none) (ty : TypeId) (x : Operand) (ho : o.op = .load ty x) (b off : Nat) (hx : a.eval x = .pointer (some ⟨b, off, none⟩))
    (hM : Mem w L W) (i : Nat) {n : Nat} {f : Nat → Value} (hi : L[i]? = some (b, n, f)) {m : Nat}
    (hT : RowT P ty m) (hle : off + m ≤ n)
    (h : wpList P ops Q rest (a.put o.dst (.agg (arr m (fun k => f (off + k))))) W) : wpList P ops Q (o :: rest) a W := by
  obtain ⟨⟨d, hu, hd⟩, hm⟩ := hT
  obtain ⟨t, ht⟩ := hM.ats i b n f hi
  have hr : W.rangeAt b off (arr m (fun k => f (off + k))).toList := by
    rw [← arr_extract hle]; exact World.rangeAt_of_block ht off m
  exact wpList_load_mid hgd ty x ho b off hx (arr m (fun k => f (off + k))).toList d hr hu hd (by rw [hm]; simp [arr_size]) (by simpa using h)

/-- One cell out of a block. -/
theorem wpList_get1 (hgd : o.guard = none) (ty : TypeId) (x : Operand) (ho : o.op = .load ty x) (b off : Nat) (hx : a.eval x = .pointer (some ⟨b, off, none⟩))
    (hM : Mem w L W) (i : Nat) {n : Nat} {f : Nat → Value} (hi : L[i]? = some (b, n, f)) 
    (hT : CellT P ty) (hle : off < n) (v : Value) (hv : f off = v)
    (h : wpList P ops Q rest (a.put o.dst v) W) : wpList P ops Q (o :: rest) a W := by
  obtain ⟨⟨d, hu, hd⟩, _⟩ := hT
  refine wpList_plain hgd fun K hK => ?_
  have hc := (hM.ats i b n f hi).cell hle
  rw [hv] at hc
  have hagg : (isAgg ty).run P W = .ok false W := by
    unfold isAgg
    rw [Sem.run_bind, run_underlying hu W]
    cases d <;> simp_all [TypeDesc.isRow]
  unfold Oper.wp execOp
  have hl : (load ⟨b, off, none⟩).run P W = .ok v W := by simp [load, Sem.run, hc]
  simp only [ho, hx, Instr.loadAt, Instr.sureAddr, loadVar, Sem.run_bind, Sem.run_pure, Result.andThen_ok, hagg, Bool.false_eq_true, if_false, hl]
  exact hK _ _ h

/-- The same at an operation with a guard that is met. -/
theorem wpList_want (hw : Region.wanted o (yielded ops a.tmps) = true) (h : ∀ K : Act → World → Prop, (∀ a w, wpList P ops Q rest a w → K a w) → o.wp P a W K Q) : wpList P ops Q (o :: rest) a W :=
  wpList_step fun K hK => by rw [if_pos hw]; exact h K hK
theorem wpList_gget1 (hw : Region.wanted o (yielded ops a.tmps) = true) (ty : TypeId) (x : Operand) (ho : o.op = .load ty x) (b off : Nat) (hx : a.eval x = .pointer (some ⟨b, off, none⟩))
    (hM : Mem w L W) (i : Nat) {n : Nat} {f : Nat → Value} (hi : L[i]? = some (b, n, f))
    (hT : CellT P ty) (hle : off < n) (v : Value) (hv : f off = v)
    (h : wpList P ops Q rest (a.put o.dst v) W) : wpList P ops Q (o :: rest) a W := by
  obtain ⟨⟨d, hu, hd⟩, _⟩ := hT
  refine wpList_want hw fun K hK => ?_
  have hc := (hM.ats i b n f hi).cell hle
  rw [hv] at hc
  have hagg : (isAgg ty).run P W = .ok false W := by
    unfold isAgg
    rw [Sem.run_bind, run_underlying hu W]
    cases d <;> simp_all [TypeDesc.isRow]
  unfold Oper.wp execOp
  have hl : (load ⟨b, off, none⟩).run P W = .ok v W := by simp [load, Sem.run, hc]
  simp only [ho, hx, Instr.loadAt, Instr.sureAddr, loadVar, Sem.run_bind, Sem.run_pure, Result.andThen_ok, hagg, Bool.false_eq_true, if_false, hl]
  exact hK _ _ h
theorem wpList_gget (hw : Region.wanted o (yielded ops a.tmps) = true) (ty : TypeId) (x : Operand) (ho : o.op = .load ty x) (b off : Nat) (hx : a.eval x = .pointer (some ⟨b, off, none⟩))
    (hM : Mem w L W) (i : Nat) {n : Nat} {f : Nat → Value} (hi : L[i]? = some (b, n, f)) {m : Nat}
    (hT : RowT P ty m) (hle : off + m ≤ n)
    (h : wpList P ops Q rest (a.put o.dst (.agg (arr m (fun k => f (off + k))))) W) : wpList P ops Q (o :: rest) a W := by
  obtain ⟨⟨d, hu, hd⟩, hm⟩ := hT
  refine wpList_want hw fun K hK => ?_
  obtain ⟨t, ht⟩ := hM.ats i b n f hi
  have hr : W.rangeAt b off (arr m (fun k => f (off + k))).toList := by
    rw [← arr_extract hle]; exact World.rangeAt_of_block ht off m
  refine wp_load_mid ty x ho b off hx (arr m (fun k => f (off + k))).toList d hr hu hd (by rw [hm]; simp [arr_size]) ?_
  exact hK _ _ (by simpa using h)

/-- A part by value into a block. -/
theorem wpList_lay (hgd : o.guard = none) (ty : TypeId) (x y : Operand) (ho : o.op = .store ty x y) (b off : Nat) (hx : a.eval x = .pointer (some ⟨b, off, none⟩))
    (m : Nat) (g : Nat → Value) (hy : a.eval y = .agg (arr m g)) (hM : Mem w L W) (i : Nat) {n : Nat} {f : Nat → Value} (hi : L[i]? = some (b, n, f)) (hb : w.B ≤ b)
    (hT : RowT P ty m) (hle : off + m ≤ n) (h1 : ∀ k, k < m → (g k).oneCell' = true)
    (h : ∀ W', Mem w (L.set i (b, n, lay f off m g)) W' → wpList P ops Q rest (a.put o.dst undef) W') : wpList P ops Q (o :: rest) a W := by
  obtain ⟨_, hm⟩ := hT
  refine wpList_plain hgd fun K hK => ?_
  obtain ⟨t, ht⟩ := hM.ats i b n f hi
  have hs := run_storeCells_at (P := P) b off t (arr m g).toList 0 (arr n f) W ht (by simp [arr_size]; omega) (fun v hv => by
    rw [arr_toList] at hv; simp at hv; obtain ⟨k, hk, rfl⟩ := hv; exact h1 k hk)
  rw [Nat.add_zero, arr_lay hle] at hs
  have hsz : (sizeOf ty).run P W = .ok m W := by
    cases hq : P.info? ty with
    | none => simp [hq] at hm
    | some i => simp [hq] at hm; simp [sizeOf, typeInfo, hq, hm]
  unfold Oper.wp execOp
  simp only [ho, hx, hy, Instr.storeAt, Instr.sureAddr, storeVar, Sem.run_bind, Sem.run_pure, Result.andThen_ok, Value.cells, hsz, arr_size, ne_eq, not_true_eq_false, if_false, hs]
  exact hK _ _ (h _ (hM.setRow i hi hb _))

/-- One cell into a block. -/
theorem wpList_set1 (hgd : o.guard = none) (ty : TypeId) (x y : Operand) (ho : o.op = .store ty x y) (b off : Nat) (hx : a.eval x = .pointer (some ⟨b, off, none⟩))
    (v : Value) (hy : a.eval y = v) (h1 : v.oneCell' = true) (hM : Mem w L W) (i : Nat) {n : Nat} {f : Nat → Value} (hi : L[i]? = some (b, n, f)) (hb : w.B ≤ b)
    (hT : CellT P ty) (hle : off < n)
    (h : ∀ W', Mem w (L.set i (b, n, upd f off v)) W' → wpList P ops Q rest (a.put o.dst undef) W') : wpList P ops Q (o :: rest) a W := by
  obtain ⟨_, hm⟩ := hT
  refine wpList_plain hgd fun K hK => ?_
  obtain ⟨t, ht⟩ := hM.ats i b n f hi
  have hc := (hM.ats i b n f hi).cell hle
  have hf := (hM.ats i b n f hi).frozen off
  have hsz : (sizeOf ty).run P W = .ok 1 W := by
    cases hq : P.info? ty with
    | none => simp [hq] at hm
    | some i => simp [hq] at hm; simp [sizeOf, typeInfo, hq, hm]
  have hcells : v.cells = #[v] := by cases v <;> first | rfl | (simp [Value.oneCell'] at h1)
  have hadd : (⟨b, off, none⟩ : Addr).add 0 = ⟨b, off, none⟩ := by simp [Addr.add]
  have hs : (storeCells ⟨b, off, none⟩ [v] 0).run P W = .ok () (W.setRow b (arr n (upd f off v))) := by
    simp only [storeCells, Sem.run_bind, hadd, run_store P W _ v _ h1, hc]
    simp [hf, setCell_eq_setRow W b off _ t (0, 0) v ht, arr_set]
  unfold Oper.wp execOp
  simp only [ho, hx, hy, Instr.storeAt, Instr.sureAddr, storeVar, Sem.run_bind, Sem.run_pure, Result.andThen_ok, hcells, hsz, List.size_toArray, List.length_cons, List.length_nil, Nat.zero_add, ne_eq, not_true_eq_false, if_false, hs]
  exact hK _ _ (h _ (hM.setRow i hi hb _))

/-- A new block at its type's zero value. -/
theorem wpList_zero (hgd : o.guard = none) (ty : TypeId) (ho : o.op = .alloc ty) {n : Nat} {f : Nat → Value} (hz : (P.info? ty).map (·.zero) = some (some (.agg (arr n f)))) (hM : Mem w L W)
    (h : ∀ b W', w.B ≤ b → Mem w ((b, n, f) :: L) W' → wpList P ops Q rest (a.put o.dst (.pointer (some ⟨b, 0, none⟩))) W') : wpList P ops Q (o :: rest) a W := by
  refine wpList_plain hgd fun K hK => ?_
  have hzv : (zeroValue ty).run P W = .ok (.agg (arr n f)) W := by
    cases hq : P.info? ty with
    | none => simp [hq] at hz
    | some i => simp [hq] at hz; simp [zeroValue, typeInfo, hq, hz]
  unfold Oper.wp execOp
  simp only [ho, Instr.alloc, Sem.run_bind, Sem.run_pure, Result.andThen_ok, hzv, newVar, newRow, newObj, Sem.run, Value.cells]
  exact hK _ _ (h W.heap.size _ hM.size (hM.alloc ty n f))

/-- A new block of one cell at its type's zero value. -/
theorem wpList_zero1 (hgd : o.guard = none) (ty : TypeId) (ho : o.op = .alloc ty) {v : Value} (hz : (P.info? ty).map (·.zero) = some (some v)) (hv : v.oneCell' = true) (hM : Mem w L W)
    (h : ∀ b W', w.B ≤ b → Mem w ((b, 1, fun _ => v) :: L) W' → wpList P ops Q rest (a.put o.dst (.pointer (some ⟨b, 0, none⟩))) W') : wpList P ops Q (o :: rest) a W := by
  refine wpList_plain hgd fun K hK => ?_
  have hzv : (zeroValue ty).run P W = .ok v W := by
    cases hq : P.info? ty with
    | none => simp [hq] at hz
    | some i => simp [hq] at hz; simp [zeroValue, typeInfo, hq, hz]
  have hcells : v.cells = arr 1 (fun _ => v) := by cases v <;> first | rfl | (simp [Value.oneCell'] at hv)
  unfold Oper.wp execOp
  simp only [ho, Instr.alloc, Sem.run_bind, Sem.run_pure, Result.andThen_ok, hzv, newVar, newRow, newObj, Sem.run, hcells]
  exact hK _ _ (h W.heap.size _ hM.size (hM.alloc ty 1 _))

/-- A new block that holds an aggregate. -/
theorem wpList_box (hgd : o.guard = none) (ty : TypeId) (x : Operand) (ho : o.op = .box ty x) (n : Nat) (f : Nat → Value) (hx : a.eval x = .agg (arr n f)) (hM : Mem w L W)
    (h : ∀ b W', w.B ≤ b → Mem w ((b, n, f) :: L) W' → wpList P ops Q rest (a.put o.dst (.pointer (some ⟨b, 0, none⟩))) W') : wpList P ops Q (o :: rest) a W := by
  refine wpList_plain hgd fun K hK => ?_
  unfold Oper.wp execOp
  simp only [ho, hx, Instr.box, Sem.run_bind, Sem.run_pure, Result.andThen_ok, newVar, newRow, newObj, Sem.run, Value.cells]
  exact hK _ _ (h W.heap.size _ hM.size (hM.alloc ty n f))

/-- A new block that holds one cell. -/
theorem wpList_box1 (hgd : o.guard = none) (ty : TypeId) (x : Operand) (ho : o.op = .box ty x) (v : Value) (hx : a.eval x = v) (hv : v.oneCell' = true) (hM : Mem w L W)
    (h : ∀ b W', w.B ≤ b → Mem w ((b, 1, fun _ => v) :: L) W' → wpList P ops Q rest (a.put o.dst (.pointer (some ⟨b, 0, none⟩))) W') : wpList P ops Q (o :: rest) a W := by
  refine wpList_plain hgd fun K hK => ?_
  have hcells : v.cells = arr 1 (fun _ => v) := by cases v <;> first | rfl | (simp [Value.oneCell'] at hv)
  unfold Oper.wp execOp
  simp only [ho, hx, Instr.box, Sem.run_bind, Sem.run_pure, Result.andThen_ok, newVar, newRow, newObj, Sem.run, hcells]
  exact hK _ _ (h W.heap.size _ hM.size (hM.alloc ty 1 _))

/-- A result that lies in a block. -/
theorem results_at {fn : Func} {p : Tmp} {ty : TypeId} (h : fn.results = #[.cell p ty]) (tmps : Array Value) {W : World} {b n : Nat} {f : Nat → Value}
    (hp : tmps.getD p undef = .pointer (some ⟨b, 0, none⟩)) (hg : At W b n f) (hT : RowT P ty n) :
    (results fn tmps).run P W = .ok (.agg (arr n f)) W := by
  obtain ⟨⟨d, hu, hd⟩, hm⟩ := hT
  obtain ⟨t, hg⟩ := hg
  refine results_cell_row h tmps W b t (arr n f) (0, 0) d hp hg hu ?_ (by rw [hm, arr_size])
  cases d <;> simp_all [TypeDesc.isRow]

/-! ### A region that draws its order, whose operations only read such memory, or call what lets it lie -/
theorem wp_region_mem {id : Nat} {l : List Oper} (hm : P.follows .mixedOrders = true) (hB : Region.lexB .any l.toArray = true) (hM : Mem w L W)
    (h : wpQuiet P l.toArray (Mem w L) (fun a' => ∀ W', Mem w L W' → Q .normal a' W') l a) : (Code.region id l.toArray true).wp P Q a W :=
  wp_region_quiet (C := Mem w L) hm hB hM.drew (by simpa using h)

variable {K : Act → Prop}
theorem quiet_val (h : ∃ v, (∀ W, (execOp a.eval o).run P W = .ok (.value v) W) ∧ K (a.put o.dst v)) : o.quiet P a (Mem w L) K := by
  obtain ⟨v, hr, h⟩ := h
  refine ⟨v, fun W _ => ?_, h⟩
  unfold Oper.quietAt
  rw [hr]; exact ⟨rfl, rfl⟩
theorem quiet_call (h : ∃ f args v, (∀ W, (execOp a.eval o).run P W = .ok (.enter f args) W) ∧
    (∀ W, Mem w L W → Calls P f args W fun e w' => e = .returned v ∧ Below W.heap.size W w') ∧ K (a.put o.dst v)) : o.quiet P a (Mem w L) K := by
  obtain ⟨f, args, v, hr, hc, h⟩ := h
  refine ⟨v, fun W hM => ?_, h⟩
  unfold Oper.quietAt
  rw [hr]
  exact ⟨rfl, (hc W hM).mono fun e w' ⟨he, hb⟩ => ⟨he, hM.call hb⟩⟩
theorem quiet_get (ty : TypeId) (x : Operand) (ho : o.op = .load ty x) (b off : Nat) (hx : a.eval x = .pointer (some ⟨b, off, none⟩))
    (i : Nat) {n : Nat} {f : Nat → Value} (hi : L[i]? = some (b, n, f)) {m : Nat} (hT : RowT P ty m) (hle : off + m ≤ n)
    (h : K (a.put o.dst (.agg (arr m (fun k => f (off + k)))))) : o.quiet P a (Mem w L) K := by
  refine ⟨_, fun W hM => ?_, h⟩
  obtain ⟨⟨d, hu, hd⟩, hm⟩ := hT
  obtain ⟨t, ht⟩ := hM.ats i b n f hi
  have hr : W.rangeAt b off (arr m (fun k => f (off + k))).toList := by
    rw [← arr_extract hle]; exact World.rangeAt_of_block ht off m
  have hl := run_loadVar_mid (P := P) W b off ty _ d hr hu hd (by rw [hm]; simp [arr_size])
  unfold Oper.quietAt execOp
  simp only [ho, hx, Instr.loadAt, Instr.sureAddr, Sem.run_bind, Sem.run_pure, Result.andThen_ok, hl]
  exact ⟨rfl, by simp⟩
theorem quiet_get1 (ty : TypeId) (x : Operand) (ho : o.op = .load ty x) (b off : Nat) (hx : a.eval x = .pointer (some ⟨b, off, none⟩))
    (i : Nat) {n : Nat} {f : Nat → Value} (hi : L[i]? = some (b, n, f)) (hT : CellT P ty) (hle : off < n) (v : Value) (hv : f off = v)
    (h : K (a.put o.dst v)) : o.quiet P a (Mem w L) K := by
  refine ⟨v, fun W hM => ?_, h⟩
  obtain ⟨⟨d, hu, hd⟩, _⟩ := hT
  have hc := (hM.ats i b n f hi).cell hle
  rw [hv] at hc
  have hagg : (isAgg ty).run P W = .ok false W := by
    unfold isAgg
    rw [Sem.run_bind, run_underlying hu W]
    cases d <;> simp_all [TypeDesc.isRow]
  have hl : (load ⟨b, off, none⟩).run P W = .ok v W := by simp [load, Sem.run, hc]
  unfold Oper.quietAt execOp
  simp only [ho, hx, Instr.loadAt, Instr.sureAddr, loadVar, Sem.run_bind, Sem.run_pure, Result.andThen_ok, hagg, Bool.false_eq_true, if_false, hl]
  exact ⟨rfl, rfl⟩
end Go.Proofs.YtaaphdbaocjecaaDoor

/-
  THE TYPES OF THE PROGRAM THAT ARE ROWS OF CELLS, AND THOSE OF ONE CELL, as the walks' arms ask them; a pasture's cells.
-/
namespace Go.Proofs.YtaaphdbaocjecaaDoor
open Go Go.RowKit

/-- The integer kind of each cell of a pasture. -/
def kd (k : Nat) : IntKind := if k < 2 then .i8 else if k < 102 then .i16 else .u16
/-- A pasture's cells. -/
def pas (g : Nat → Int) : Nat → Value := fun k => .int (kd k) (g k)
theorem kd_i8 {k : Nat} (h : k < 2) : kd k = .i8 := by simp [kd, h]
theorem kd_i16 {k : Nat} (h : 2 ≤ k) (h' : k < 102) : kd k = .i16 := by
  unfold kd; rw [if_neg (by omega), if_pos h']
theorem kd_u16 {k : Nat} (h : 102 ≤ k) : kd k = .u16 := by
  unfold kd; rw [if_neg (by omega), if_neg (by omega)]
theorem pas_i16 (g : Nat → Int) {k : Nat} (h : 2 ≤ k) (h' : k < 102) : pas g k = .int .i16 (g k) := by unfold pas; rw [kd_i16 h h']
theorem pas_u16 (g : Nat → Int) {k : Nat} (h : 102 ≤ k) : pas g k = .int .u16 (g k) := by unfold pas; rw [kd_u16 h]
def zP : Nat → Value := fun k => .int (kd k) 0

/-- A spot's two cells. -/
def sp (x y : Int) : Nat → Value := fun k => .int .i8 (if k = 0 then x else y)
/-- Each cell of a pasture fits its kind. -/
structure Fits (g : Nat → Int) : Prop where
  w : -128 ≤ g 0 ∧ g 0 ≤ 127
  h : -128 ≤ g 1 ∧ g 1 ≤ 127
  grass : ∀ k, 2 ≤ k → k < 102 → -32768 ≤ g k ∧ g k ≤ 32767
  bits : ∀ k, 102 ≤ k → k < 122 → 0 ≤ g k ∧ g k ≤ 65535


/-- The integer kind of each cell of a goat; a goat's cells. -/
def gk (k : Nat) : IntKind := if k < 4 then .i8 else if k < 6 then .i16 else .i8
def gt (h : Nat → Int) : Nat → Value := fun k => .int (gk k) (h k)
def zG : Nat → Value := fun k => .int (gk k) 0

/-- The integer kind of each cell of a growth; a growth's cells: the table's eleven, the limit. -/
def grk (k : Nat) : IntKind := if k < 11 then .i8 else .i16
def gro (h : Nat → Int) : Nat → Value := fun k => .int (grk k) (h k)
def zW : Nat → Value := fun k => .int (grk k) 0
theorem gro_i8 (h : Nat → Int) {k : Nat} (hk : k < 11) : gro h k = .int .i8 (h k) := by simp [gro, grk, hk]
theorem gro_lim (h : Nat → Int) : gro h 11 = .int .i16 (h 11) := rfl
/-- Each cell of a growth fits its kind. -/
structure FitsW (h : Nat → Int) : Prop where
  tab : ∀ k, k < 11 → -128 ≤ h k ∧ h k ≤ 127
  lim : -32768 ≤ h 11 ∧ h 11 ≤ 32767

/-- A hurdle's cells. -/
def hd (x y : Int) (s : Bool) : Nat → Value := fun k => if k = 0 then .int .i8 x else if k = 1 then .int .i8 y else .bool s

def zMem : Nat → Value := fun k => if k = 0 then .string ⟨#[]⟩ else if k = 1 then .int .i16 0 else .int .u16 0
def zFlk : Nat → Value := fun k => if k = 0 then .slice none 0 0 else .map none
def rowInfo (ty : TypeId) : Option Nat :=
  match ty with
  | 71 => some 10
  | 72 => some 100
  | 74 => some 10
  | 76 => some 122
  | 49 => some 2
  | 23 => some 11
  | 26 => some 12
  | _ => none
theorem rowTab (ty m : Nat) (h : rowInfo ty = some m) : RowT Tryd.prog ty m := by
  unfold rowInfo at h
  split at h
  · cases h; exact ⟨⟨_, Tryd.underlying71, rfl⟩, by kernel_rfl⟩
  · cases h; exact ⟨⟨_, Tryd.underlying72, rfl⟩, by kernel_rfl⟩
  · cases h; exact ⟨⟨_, Tryd.underlying74, rfl⟩, by kernel_rfl⟩
  · cases h; exact ⟨⟨_, Tryd.underlying76, rfl⟩, by kernel_rfl⟩
  · cases h; exact ⟨⟨_, Tryd.underlying49, rfl⟩, by kernel_rfl⟩
  · cases h; exact ⟨⟨_, Tryd.underlying23, rfl⟩, by kernel_rfl⟩
  · cases h; exact ⟨⟨_, Tryd.underlying26, rfl⟩, by kernel_rfl⟩
  · cases h

def cellInfo (ty : TypeId) : Bool :=
  match ty with
  | 22 => true
  | 24 => true
  | 73 => true
  | 3 => true
  | 2 => true
  | 4 => true
  | 41 => true
  | 95 => true
  | 9 => true
  | 36 => true
  | 5 => true
  | _ => false
theorem cellTab (ty : Nat) (h : cellInfo ty = true) : CellT Tryd.prog ty := by
  unfold cellInfo at h
  split at h
  · exact ⟨⟨_, Tryd.underlying22, rfl⟩, by kernel_rfl⟩
  · exact ⟨⟨_, Tryd.underlying24, rfl⟩, by kernel_rfl⟩
  · exact ⟨⟨_, Tryd.underlying73, rfl⟩, by kernel_rfl⟩
  · exact ⟨⟨_, Tryd.underlying3, rfl⟩, by kernel_rfl⟩
  · exact ⟨⟨_, Tryd.underlying2, rfl⟩, by kernel_rfl⟩
  · exact ⟨⟨_, Tryd.underlying4, rfl⟩, by kernel_rfl⟩
  · exact ⟨⟨_, Tryd.underlying41, rfl⟩, by kernel_rfl⟩
  · exact ⟨⟨_, Tryd.underlying95, rfl⟩, by kernel_rfl⟩
  · exact ⟨⟨_, Tryd.underlying9, rfl⟩, by kernel_rfl⟩
  · exact ⟨⟨_, Tryd.underlying36, rfl⟩, by kernel_rfl⟩
  · exact ⟨⟨_, Tryd.underlying5, rfl⟩, by kernel_rfl⟩
  · cases h

def zeroInfo (ty : TypeId) : Option (Nat × (Nat → Value)) :=
  match ty with
  | 71 => some (10, fun _ => .int .i16 0)
  | 72 => some (100, fun _ => .int .i16 0)
  | 74 => some (10, fun _ => .int .u16 0)
  | 76 => some (122, zP)
  | 49 => some (2, fun _ => .int .i8 0)
  | 23 => some (11, fun _ => .int .i8 0)
  | 26 => some (12, zW)
  | _ => none
theorem zeroTab (ty n : Nat) (f : Nat → Value) (h : zeroInfo ty = some (n, f)) : (Tryd.prog.info? ty).map (·.zero) = some (some (.agg (arr n f))) := by
  unfold zeroInfo at h
  split at h
  · cases h; kernel_rfl
  · cases h; kernel_rfl
  · cases h; kernel_rfl
  · cases h; kernel_rfl
  · cases h; kernel_rfl
  · cases h; kernel_rfl
  · cases h; kernel_rfl
  · cases h

def zero1Info (ty : TypeId) : Option Value :=
  match ty with
  | 4 => some (.bool false)
  | 2 => some (.int .i64 0)
  | 3 => some (.int .i64 0)
  | 22 => some (.int .i8 0)
  | 41 => some .nilIface
  | _ => none
theorem zero1Tab (ty : Nat) (v : Value) (h : zero1Info ty = some v) : (Tryd.prog.info? ty).map (·.zero) = some (some v) := by
  unfold zero1Info at h
  split at h
  · cases h; kernel_rfl
  · cases h; kernel_rfl
  · cases h; kernel_rfl
  · cases h; kernel_rfl
  · cases h; kernel_rfl
  · cases h
end Go.Proofs.YtaaphdbaocjecaaDoor

/-
  spec.l00In, l01Grass, l01Is, by contracts.
-/
namespace Go.Proofs.YtaaphdbaocjecaaDoor
open Go Go.RowKit Go.BigFrame

/-- Is n from lo to hi? -/
def inB (lo hi n : Int) : Bool := decide (lo ≤ n ∧ n ≤ hi)
theorem inB_yes {lo hi n : Int} (h : lo ≤ n ∧ n ≤ hi) : inB lo hi n = true := decide_eq_true h
theorem inB_no {lo hi n : Int} (h : ¬ (lo ≤ n ∧ n ≤ hi)) : inB lo hi n = false := decide_eq_false h
theorem inB_true {lo hi n : Int} (h : inB lo hi n = true) : lo ≤ n ∧ n ≤ hi := of_decide_eq_true h
theorem ret_bool {a b : Bool} (h : a = b) : Ending.returned (.bool a) = .returned (.bool b) := by rw [h]

theorem l00In_any (n lo hi : Int) (w : World) :
    Calls Tryd.prog 31 #[.int .i64 n, .int .i64 lo, .int .i64 hi] w fun e w' => e = .returned (.bool (inB lo hi n)) ∧ Below w.heap.size w w' := by
  by_cases h1 : lo ≤ n
  · go_enter Tryd.func31, Tryd.ntmps31
    go_wp2
    go_ret
    exact ⟨ret_bool (by simp [inB, h1]), Below.refl _ _⟩
  · go_enter Tryd.func31, Tryd.ntmps31
    go_wp2
    go_ret
    exact ⟨ret_bool (inB_no (fun h => by omega)).symm, Below.refl _ _⟩
/-- Has a pasture such a cell? -/
def isB (g : Nat → Int) (x y : Int) : Bool := inB 0 (g 0 - 1) x && inB 0 (g 1 - 1) y

end Go.Proofs.YtaaphdbaocjecaaDoor

/-
  Which growths are valid; spec.l04Ok by contract.
-/
namespace Go.Proofs.YtaaphdbaocjecaaDoor
open Go Go.RowKit Go.BigFrame

/-- Is a growth valid? -/
def growB (h : Nat → Int) : Bool := (List.range 11).all (fun k => inB 0 100 (h k)) && inB 0 1000 (h 11)
theorem growB_no {h : Nat → Int} {k : Nat} (hk : k < 11) (e : inB 0 100 (h k) = false) : growB h = false := by
  have : (List.range 11).all (fun k => inB 0 100 (h k)) = false := by rw [List.all_eq_false]; exact ⟨k, by simpa using hk, by rw [e]; decide⟩
  rw [growB, this]; rfl
theorem growB_tab {h : Nat → Int} (hall : ∀ k, k < 11 → inB 0 100 (h k) = true) : growB h = inB 0 1000 (h 11) := by
  have : (List.range 11).all (fun k => inB 0 100 (h k)) = true := by rw [List.all_eq_true]; intro k hk; exact hall k (by simpa using hk)
  rw [growB, this]; rfl
theorem growB_true {h : Nat → Int} (e : growB h = true) : (∀ k, k < 11 → 0 ≤ h k ∧ h k ≤ 100) ∧ 0 ≤ h 11 ∧ h 11 ≤ 1000 := by
  unfold growB at e
  rw [Bool.and_eq_true, List.all_eq_true] at e
  exact ⟨fun k hk => inB_true (e.1 k (List.mem_range.2 hk)), inB_true e.2⟩
theorem growB_iff {h : Nat → Int} : growB h = true ↔ (∀ k, k < 11 → 0 ≤ h k ∧ h k ≤ 100) ∧ 0 ≤ h 11 ∧ h 11 ≤ 1000 :=
  ⟨growB_true, fun e => by rw [growB_tab (fun k hk => inB_yes (e.1 k hk))]; exact inB_yes e.2⟩

end Go.Proofs.YtaaphdbaocjecaaDoor

/-
  PLAIN LAWS: an element of an array by value.
-/
namespace Go.Proofs.YtaaphdbaocjecaaDoor
open Go Go.RowKit
variable {P : Program} {ops : Array Oper} {rest : List Oper} {o : Oper} {a : Act} {W : World} {Q : Exit → Act → World → Prop}

theorem run_index_cell {t e : TypeId} {n : Nat} {f : Nat → Value} {κ : IntKind} {k : Nat} (hk : k < n) (ht : P.underlying t = some (.array n e)) (he : CellT P e) (W : World) : (Instr.index t (.agg (arr n f)) (.int κ k)).run P W = .ok (f k) W := by
  obtain ⟨⟨d, hu, hd⟩, hm⟩ := he
  have hagg : (isAgg e).run P W = .ok false W := by
    unfold isAgg; rw [Sem.run_bind, run_underlying hu W]; cases d <;> simp_all [TypeDesc.isRow]
  have hsz : (sizeOf e).run P W = .ok 1 W := by
    cases hq : P.info? e with
    | none => simp [hq] at hm
    | some i => simp [hq] at hm; simp [sizeOf, typeInfo, hq, hm]
  have h2 : (0 : Int) ≤ (k : Int) ∧ (k : Int) < (n : Int) := ⟨by omega, by omega⟩
  simp only [Instr.index, asIntOf, Sem.run_bind, Sem.run_pure, Result.andThen_ok, run_underlying ht, h2, and_self, if_true, hsz, Int.toNat_natCast, Nat.mul_one, part, hagg, Bool.false_eq_true, if_false, arr_at hk]

theorem wpList_index (hgd : o.guard = none) (t : TypeId) (x i : Operand) (ho : o.op = .index t x i) (n : Nat) (f : Nat → Value) (hx : a.eval x = .agg (arr n f)) (κ : IntKind) (k : Nat) (hi : a.eval i = .int κ k) (hk : k < n) {e : TypeId}
    (ht : P.underlying t = some (.array n e)) (he : CellT P e) (v : Value) (hv : f k = v) (h : wpList P ops Q rest (a.put o.dst v) W) : wpList P ops Q (o :: rest) a W := by
  refine wpList_plain hgd fun K hK => ?_
  unfold Oper.wp execOp
  simp only [ho, hx, hi, Sem.run_bind, Sem.run_pure, run_index_cell hk ht he, Result.andThen_ok, hv]
  exact hK _ _ h
end Go.Proofs.YtaaphdbaocjecaaDoor

/-
  '==' on rows of integers, rows of such rows, and pastures.
-/
namespace Go.Proofs.YtaaphdbaocjecaaDoor
open Go Go.RowKit
variable {P : Program}

theorem run_part_cell {e : TypeId} {κ : IntKind} (hu : P.underlying e = some (.int κ)) {n i : Nat} {f : Nat → Value} (hi : i < n) (W : World) : (part e (arr n f) i).run P W = .ok (f i) W := by
  have hagg : (isAgg e).run P W = .ok false W := by
    unfold isAgg; rw [Sem.run_bind, run_underlying hu W]; rfl
  simp only [part, Sem.run_bind, hagg, Result.andThen_ok, Bool.false_eq_true, if_false, arr_at hi, Sem.run_pure]
theorem run_part_row {e : TypeId} {m : Nat} (hT : RowT P e m) {n i : Nat} {f : Nat → Value} (hi : i + m ≤ n) (W : World) : (part e (arr n f) i).run P W = .ok (.agg (arr m (fun k => f (i + k)))) W := by
  obtain ⟨⟨d, hu, hd⟩, hm⟩ := hT
  have hagg : (isAgg e).run P W = .ok true W := by
    unfold isAgg; rw [Sem.run_bind, run_underlying hu W]; cases d <;> simp_all [TypeDesc.isRow]
  have hsz : (sizeOf e).run P W = .ok m W := by
    cases hq : P.info? e with
    | none => simp [hq] at hm
    | some i => simp [hq] at hm; simp [sizeOf, typeInfo, hq, hm]
  simp only [part, Sem.run_bind, hagg, Result.andThen_ok, if_true, hsz, Sem.run_pure, arr_extract hi]

theorem run_eqItems_ints (d : Nat) {e : TypeId} {κ : IntKind} (hu : P.underlying e = some (.int κ)) (hc : P.cellsOf e = 1) {n : Nat} (f g : Nat → Value) (a b : Nat → Int)
    (hf : ∀ k, k < n → f k = .int κ (a k)) (hg : ∀ k, k < n → g k = .int κ (b k)) (W : World) : ∀ is : List Nat, (∀ i ∈ is, i < n) →
    (Op.eqItems (d + 1) e (P.cellsOf e) (arr n f) (arr n g) is).run P W = .ok (is.all fun i => a i == b i) W
  | [], _ => by simp [Op.eqItems]
  | i :: is, h => by
    have hi := h i (by simp)
    simp only [Op.eqItems, Sem.run_bind, hc, Nat.mul_one, run_part_cell hu hi, Result.andThen_ok, hf i hi, hg i hi, run_equalIn_int W d e κ κ _ _ hu]
    cases hab : (a i == b i)
    · simp [hab]
    · have := run_eqItems_ints d hu hc f g a b hf hg W is (fun j hj => h j (by simp [hj]))
      rw [hc] at this
      simp [this, hab]

/-- Are the first n the same? -/
def eqTo (n : Nat) (a b : Nat → Int) : Bool := (List.range n).all fun i => a i == b i
theorem eqTo_iff {n : Nat} {a b : Nat → Int} : eqTo n a b = true ↔ ∀ k, k < n → a k = b k := by simp [eqTo]
theorem eqTo_congr {n : Nat} {a b a' b' : Nat → Int} (h : ∀ k, k < n → a k = a' k) (h' : ∀ k, k < n → b k = b' k) : eqTo n a b = eqTo n a' b' := by
  rw [Bool.eq_iff_iff, eqTo_iff, eqTo_iff]
  constructor
  · intro hh k hk; rw [← h k hk, ← h' k hk]; exact hh k hk
  · intro hh k hk; rw [h k hk, h' k hk]; exact hh k hk

theorem run_equalIn_row (d : Nat) {t e : TypeId} {κ : IntKind} {n : Nat} (ht : P.underlying t = some (.array n e)) (hu : P.underlying e = some (.int κ)) (hc : P.cellsOf e = 1) (f g : Nat → Value) (a b : Nat → Int)
    (hf : ∀ k, k < n → f k = .int κ (a k)) (hg : ∀ k, k < n → g k = .int κ (b k)) (W : World) : (Op.equalIn (d + 2) t (.agg (arr n f)) (.agg (arr n g))).run P W = .ok (eqTo n a b) W := by
  obtain ⟨i, hi⟩ := info_of_underlying hu
  rw [run_equalIn_array W (d + 1) _ _ ht hi, run_eqItems_ints d hu hc f g a b hf hg W _ (by simp)]
  rfl

theorem run_eqItems_rows (d : Nat) {t e : TypeId} {κ : IntKind} {m : Nat} (ht : P.underlying t = some (.array m e)) (hT : RowT P t m) (hcm : P.cellsOf t = m) (hu : P.underlying e = some (.int κ)) (hc : P.cellsOf e = 1) {n : Nat} (f g : Nat → Value) (a b : Nat → Int)
    (hf : ∀ k, k < n * m → f k = .int κ (a k)) (hg : ∀ k, k < n * m → g k = .int κ (b k)) (W : World) : ∀ is : List Nat, (∀ i ∈ is, i < n) →
    (Op.eqItems (d + 2) t (P.cellsOf t) (arr (n * m) f) (arr (n * m) g) is).run P W = .ok (is.all fun i => eqTo m (fun k => a (i * m + k)) (fun k => b (i * m + k))) W
  | [], _ => by simp [Op.eqItems]
  | i :: is, h => by
    have hi := h i (by simp)
    have hle : i * m + m ≤ n * m := by
      have := Nat.mul_le_mul_right m (show i + 1 ≤ n by omega)
      rw [Nat.add_mul, Nat.one_mul] at this; exact this
    have hrow := run_equalIn_row d ht hu hc (fun k => f (i * m + k)) (fun k => g (i * m + k)) (fun k => a (i * m + k)) (fun k => b (i * m + k)) (fun k hk => hf _ (by omega)) (fun k hk => hg _ (by omega)) W
    simp only [Op.eqItems, Sem.run_bind, hcm, run_part_row hT hle, Result.andThen_ok, hrow]
    cases hab : eqTo m (fun k => a (i * m + k)) (fun k => b (i * m + k))
    · simp [hab]
    · have := run_eqItems_rows d ht hT hcm hu hc f g a b hf hg W is (fun j hj => h j (by simp [hj]))
      rw [hcm] at this
      simp [this, hab]

theorem all_rows {n m : Nat} (a b : Nat → Int) (hm : 0 < m) : ((List.range n).all fun i => eqTo m (fun k => a (i * m + k)) (fun k => b (i * m + k))) = eqTo (n * m) a b := by
  rw [Bool.eq_iff_iff, eqTo_iff, List.all_eq_true]
  constructor
  · intro h k hk
    have hi : k / m < n := Nat.div_lt_of_lt_mul (by rw [Nat.mul_comm]; exact hk)
    have := (eqTo_iff.1 (h (k / m) (by simpa using hi))) (k % m) (Nat.mod_lt _ hm)
    have e : k / m * m + k % m = k := by rw [Nat.mul_comm]; exact Nat.div_add_mod k m
    rwa [e] at this
  · intro h i hi
    rw [eqTo_iff]
    intro k hk
    apply h
    have hi : i < n := by simpa using hi
    have := Nat.mul_le_mul_right m (show i + 1 ≤ n by omega)
    rw [Nat.add_mul, Nat.one_mul] at this; omega

theorem run_equalIn_rows (d : Nat) {u t e : TypeId} {κ : IntKind} {n m : Nat} (hu' : P.underlying u = some (.array n t)) (ht : P.underlying t = some (.array m e)) (hT : RowT P t m) (hcm : P.cellsOf t = m) (hu : P.underlying e = some (.int κ)) (hc : P.cellsOf e = 1) (hm : 0 < m) (f g : Nat → Value) (a b : Nat → Int)
    (hf : ∀ k, k < n * m → f k = .int κ (a k)) (hg : ∀ k, k < n * m → g k = .int κ (b k)) (W : World) : (Op.equalIn (d + 3) u (.agg (arr (n * m) f)) (.agg (arr (n * m) g))).run P W = .ok (eqTo (n * m) a b) W := by
  obtain ⟨i, hi⟩ := info_of_underlying ht
  rw [run_equalIn_array W (d + 2) _ _ hu' hi, run_eqItems_rows d ht hT hcm hu hc f g a b hf hg W _ (by simp), all_rows a b hm]

theorem cells_i16 : Tryd.prog.cellsOf 24 = 1 := by kernel_rfl
theorem cells_u16 : Tryd.prog.cellsOf 73 = 1 := by kernel_rfl
theorem cells_row : Tryd.prog.cellsOf 71 = 10 := by kernel_rfl

/-- '==' on [10][10]int16. -/
theorem run_equal_grass (f g : Nat → Value) (a b : Nat → Int) (hf : ∀ k, k < 100 → f k = .int .i16 (a k)) (hg : ∀ k, k < 100 → g k = .int .i16 (b k)) (W : World) (d : Nat) :
    (Op.equalIn (d + 3) 72 (.agg (arr 100 f)) (.agg (arr 100 g))).run Tryd.prog W = .ok (eqTo 100 a b) W :=
  run_equalIn_rows (n := 10) (m := 10) d Tryd.underlying72 Tryd.underlying71 (rowTab _ _ rfl) cells_row Tryd.underlying24 cells_i16 (by omega) f g a b hf hg W

/-- '==' on pastures. -/
theorem run_equal_pas (a b : Nat → Int) (W : World) :
    (Op.equalIn 10000 76 (.agg (arr 122 (pas a))) (.agg (arr 122 (pas b)))).run Tryd.prog W = .ok (eqTo 122 a b) W := by
  have hs := run_equalIn_struct (P := Tryd.prog) W 9999 76 (arr 122 (pas a)) (arr 122 (pas b)) (by rw [Program.fieldsOf, Tryd.underlying76]) (by kernel_rfl)
  rw [hs]
  have hf : (Tryd.prog.fieldsOf 76).toList = [
    { name := "Wide", type := 22, offset := 0, embedded := false, tag := "", pkgPath := "", byteOffset := 0 },
    { name := "High", type := 22, offset := 1, embedded := false, tag := "", pkgPath := "", byteOffset := 1 },
    { name := "Grass", type := 72, offset := 2, embedded := false, tag := "", pkgPath := "", byteOffset := 2 },
    { name := "East", type := 74, offset := 102, embedded := false, tag := "", pkgPath := "", byteOffset := 202 },
    { name := "South", type := 74, offset := 112, embedded := false, tag := "", pkgPath := "", byteOffset := 222 }] := by
    rw [Program.fieldsOf, Tryd.underlying76]
  rw [hf]
  have p0 := fun c => run_part_cell (P := Tryd.prog) Tryd.underlying22 (n := 122) (i := 0) (f := pas c) (by omega) W
  have p1 := fun c => run_part_cell (P := Tryd.prog) Tryd.underlying22 (n := 122) (i := 1) (f := pas c) (by omega) W
  have p2 := fun c => run_part_row (P := Tryd.prog) (rowTab 72 100 rfl) (n := 122) (i := 2) (f := pas c) (by omega) W
  have p3 := fun c => run_part_row (P := Tryd.prog) (rowTab 74 10 rfl) (n := 122) (i := 102) (f := pas c) (by omega) W
  have p4 := fun c => run_part_row (P := Tryd.prog) (rowTab 74 10 rfl) (n := 122) (i := 112) (f := pas c) (by omega) W
  have q0 := run_equalIn_int (P := Tryd.prog) W 9998 22 .i8 .i8 (a 0) (b 0) Tryd.underlying22
  have q1 := run_equalIn_int (P := Tryd.prog) W 9998 22 .i8 .i8 (a 1) (b 1) Tryd.underlying22
  have q2 := run_equal_grass (fun k => pas a (2 + k)) (fun k => pas b (2 + k)) (fun k => a (2 + k)) (fun k => b (2 + k)) (fun k hk => pas_i16 a (by omega) (by omega)) (fun k hk => pas_i16 b (by omega) (by omega)) W 9996
  have q3 := run_equalIn_row (P := Tryd.prog) (n := 10) 9997 Tryd.underlying74 Tryd.underlying73 cells_u16 (fun k => pas a (102 + k)) (fun k => pas b (102 + k)) (fun k => a (102 + k)) (fun k => b (102 + k)) (fun k hk => pas_u16 a (by omega)) (fun k hk => pas_u16 b (by omega)) W
  have q4 := run_equalIn_row (P := Tryd.prog) (n := 10) 9997 Tryd.underlying74 Tryd.underlying73 cells_u16 (fun k => pas a (112 + k)) (fun k => pas b (112 + k)) (fun k => a (112 + k)) (fun k => b (112 + k)) (fun k hk => pas_u16 a (by omega)) (fun k hk => pas_u16 b (by omega)) W
  have e0 : ∀ c : Nat → Int, pas c 0 = .int .i8 (c 0) := fun _ => rfl
  have e1 : ∀ c : Nat → Int, pas c 1 = .int .i8 (c 1) := fun _ => rfl
  simp only [Op.eqFields, ne_eq, Sem.run_bind, p0, p1, p2, p3, p4, Result.andThen_ok, e0, e1, q0, q1, q2, q3, q4, Sem.run_pure, Sem.run_ite]
  have key : eqTo 122 a b = ((a 0 == b 0) && (a 1 == b 1) && eqTo 100 (fun k => a (2 + k)) (fun k => b (2 + k)) && eqTo 10 (fun k => a (102 + k)) (fun k => b (102 + k)) && eqTo 10 (fun k => a (112 + k)) (fun k => b (112 + k))) := by
    rw [Bool.eq_iff_iff]
    simp only [Bool.and_eq_true, eqTo_iff, beq_iff_eq]
    constructor
    · intro h
      exact ⟨⟨⟨⟨h 0 (by omega), h 1 (by omega)⟩, fun k hk => h _ (by omega)⟩, fun k hk => h _ (by omega)⟩, fun k hk => h _ (by omega)⟩
    · rintro ⟨⟨⟨⟨h0, h1⟩, h2⟩, h3⟩, h4⟩ k hk
      by_cases k0 : k = 0
      · rw [k0]; exact h0
      by_cases k1 : k = 1
      · rw [k1]; exact h1
      by_cases k2 : k < 102
      · have := h2 (k - 2) (by omega); rwa [show 2 + (k - 2) = k by omega] at this
      by_cases k3 : k < 112
      · have := h3 (k - 102) (by omega); rwa [show 102 + (k - 102) = k by omega] at this
      · have := h4 (k - 112) (by omega); rwa [show 112 + (k - 112) = k by omega] at this
  rw [key]
  cases (a 0 == b 0) <;> cases (a 1 == b 1) <;> cases eqTo 100 (fun k => a (2 + k)) (fun k => b (2 + k)) <;> cases eqTo 10 (fun k => a (102 + k)) (fun k => b (102 + k)) <;> cases eqTo 10 (fun k => a (112 + k)) (fun k => b (112 + k)) <;> simp
end Go.Proofs.YtaaphdbaocjecaaDoor

/-
  PLAIN LAWS: two results, the first in memory.
-/
namespace Go.Proofs.YtaaphdbaocjecaaDoor
open Go Go.RowKit Go.BigFrame

theorem loadVar_at {P : Program} {ty : TypeId} {W : World} {b n : Nat} {f : Nat → Value} (hg : At W b n f) (hT : RowT P ty n) : (loadVar ty ⟨b, 0, none⟩).run P W = .ok (.agg (arr n f)) W := by
  obtain ⟨⟨d, hu, hd⟩, hm⟩ := hT
  obtain ⟨t, hg⟩ := hg
  exact run_loadVar_row W b t ty (arr n f) (0, 0) d hg hu (by cases d <;> simp_all [TypeDesc.isRow]) (by rw [hm, arr_size])
/-- Two results, the first in memory. -/
theorem results_at2 {P : Program} {fn : Func} {p q : Tmp} {ty : TypeId} (h : fn.results = #[.cell p ty, .tmp q]) (tmps : Array Value) {W : World} {b n : Nat} {f : Nat → Value}
    (hp : tmps.getD p undef = .pointer (some ⟨b, 0, none⟩)) (hg : At W b n f) (hT : RowT P ty n) (v : Value) (hq : tmps.getD q undef = v) :
    (results fn tmps).run P W = .ok (.tuple #[.agg (arr n f), v]) W := by
  rw [results_cell_tmp h, hp]
  have : (asAddr (.pointer (some ⟨b, 0, none⟩))).run P W = .ok ⟨b, 0, none⟩ W := rfl
  rw [this]
  simp only [Result.andThen_ok, loadVar_at hg hT, hq]

end Go.Proofs.YtaaphdbaocjecaaDoor

