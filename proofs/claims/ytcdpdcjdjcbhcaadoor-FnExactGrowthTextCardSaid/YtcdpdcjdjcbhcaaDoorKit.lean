/-
  PLAIN LAWS over any program: the memory that a call owns, as a list of blocks: block number, length, contents as a function of the place. Reads and writes of parts of a block by value.
-/
import Derived.Laws.Rows
import Derived.Laws.Tables
import Derived.Laws.CopyRow
import Derived.Below
import Derived.Deep.MidRow
import Derived.Deep.Quiet
import Derived.Deep.QuietTactic
import Derived.WalkKit
namespace Go.Proofs.YtcdpdcjdjcbhcaaDoor
open Go Go.RowKit

/-! ### Arrays of values as functions -/
/-- The n values f 0, f 1, .. -/
def arr (n : Nat) (f : Nat → Value) : Array Value := ((List.range n).map f).toArray

theorem arr_size (n : Nat) (f : Nat → Value) : (arr n f).size = n := by simp [arr]
theorem arr_toList (n : Nat) (f : Nat → Value) : (arr n f).toList = (List.range n).map f := by simp [arr]
theorem arr_get (n : Nat) (f : Nat → Value) (k : Nat) : (arr n f)[k]? = if k < n then some (f k) else none := by
  unfold arr
  by_cases h : k < n
  · simp [h]
  · simp [h]
theorem arr_at {n : Nat} {f : Nat → Value} {k : Nat} (h : k < n) : (arr n f)[k]? = some (f k) := by rw [arr_get, if_pos h]
theorem arr_ext {n : Nat} {c : Array Value} {f : Nat → Value} (hs : c.size = n) (h : ∀ k, k < n → c[k]? = some (f k)) : c = arr n f := by
  apply Array.ext_getElem?
  intro k
  rw [arr_get]
  by_cases hk : k < n
  · rw [if_pos hk, h k hk]
  · rw [if_neg hk]; simp; omega
theorem arr_congr {n : Nat} {f g : Nat → Value} (h : ∀ k, k < n → f k = g k) : arr n f = arr n g :=
  arr_ext (arr_size n f) (fun k hk => by rw [arr_at hk, h k hk])
theorem arr_extract {n o m : Nat} {f : Nat → Value} (h : o + m ≤ n) : (arr n f).extract o (o + m) = arr m (fun k => f (o + k)) := by
  refine arr_ext (by simp [arr_size]; omega) (fun k hk => ?_)
  rw [Array.getElem?_extract, if_pos (by rw [arr_size]; omega), arr_at (by omega)]

/-- f with the value v at place k. -/
def upd (f : Nat → Value) (k : Nat) (v : Value) : Nat → Value := fun j => if j = k then v else f j
/-- f with the m values g 0, .. from place o on. -/
def lay (f : Nat → Value) (o m : Nat) (g : Nat → Value) : Nat → Value := fun j => if o ≤ j ∧ j < o + m then g (j - o) else f j

theorem arr_set {n k : Nat} {f : Nat → Value} {v : Value} : (arr n f).setIfInBounds k v = arr n (upd f k v) := by
  refine arr_ext (by simp [arr_size]) (fun j hj => ?_)
  rw [Array.getElem?_setIfInBounds]
  by_cases e : k = j
  · subst e; simp [upd, arr_size, hj]
  · have e' : ¬ j = k := fun h => e h.symm
    simp [upd, e, e', arr_at hj]
theorem arr_lay {n o m : Nat} {f g : Nat → Value} (h : o + m ≤ n) :
    ((arr n f).toList.take o ++ (arr m g).toList ++ (arr n f).toList.drop (o + (arr m g).toList.length)).toArray = arr n (lay f o m g) := by
  refine arr_ext ?_ (fun j hj => ?_)
  · simp [arr]; omega
  · simp only [List.getElem?_toArray, arr_toList, List.length_map, List.length_range]
    by_cases h1 : j < o
    · rw [List.append_assoc, List.getElem?_append_left (by simp; omega)]
      simp [lay, h1, hj]; omega
    · by_cases h2 : j < o + m
      · rw [List.append_assoc, List.getElem?_append_right (by simp; omega), List.getElem?_append_left (by simp; omega)]
        have : min o n = o := by omega
        simp [lay, this]
        rw [List.getElem?_range (by omega), if_pos ⟨by omega, h2⟩]; exact ⟨_, rfl, rfl⟩
      · rw [List.getElem?_append_right (by simp; omega)]
        have e : min o n = o := by omega
        simp [lay, h2, e]
        rw [List.getElem?_range (by omega)]
        simp
        congr 1
        omega

/-! ### What lies in a block -/
/-- Block b holds just the n values of f, and may be written. -/
def At (W : World) (b n : Nat) (f : Nat → Value) : Prop := ∃ t, W.heap[b]? = some (.cells (arr n f) t (0, 0))

theorem At.lt {W : World} {b n : Nat} {f : Nat → Value} (h : At W b n f) : b < W.heap.size := by
  obtain ⟨t, h⟩ := h; exact (Array.getElem?_eq_some_iff.1 h).1
theorem At.congr {W : World} {b n : Nat} {f g : Nat → Value} (h : At W b n f) (e : ∀ k, k < n → f k = g k) : At W b n g := by
  unfold At at *; rw [← arr_congr e]; exact h
theorem At.alloc {W : World} {b n : Nat} {f : Nat → Value} (h : At W b n f) (o : Obj) : At (W.alloc o) b n f := by
  obtain ⟨t, hh⟩ := h; exact ⟨t, (Below.heap_alloc W o b (At.lt ⟨t, hh⟩)).trans hh⟩
theorem At.new (W : World) (t : TypeId) (n : Nat) (f : Nat → Value) : At (W.alloc (.cells (arr n f) t)) W.heap.size n f := ⟨t, heap_alloc_new W _⟩
theorem At.cell {W : World} {b n : Nat} {f : Nat → Value} (h : At W b n f) {k : Nat} (hk : k < n) : W.cell? ⟨b, k, none⟩ = some (f k) := by
  obtain ⟨t, h⟩ := h; rw [cell_of_row W b k _ t _ h, arr_at hk]
theorem At.frozen {W : World} {b n : Nat} {f : Nat → Value} (h : At W b n f) (k : Nat) : W.frozen? ⟨b, k, none⟩ = false := by
  obtain ⟨t, h⟩ := h; exact frozen_of_row W b k _ t h
theorem At.setRow_same {W : World} {b n : Nat} {f g : Nat → Value} (h : At W b n f) : At (W.setRow b (arr n g)) b n g := by
  obtain ⟨t, h⟩ := h; exact ⟨t, setRow_heap W b _ _ t _ h⟩
theorem At.setRow_other {W : World} {b n : Nat} {f : Nat → Value} (h : At W b n f) {g : Nat} (c : Array Value) (hne : b ≠ g) : At (W.setRow g c) b n f := by
  obtain ⟨t, h⟩ := h; exact ⟨t, (_root_.Go.setRow_other W g b c hne).trans h⟩
theorem At.below {W W' : World} {b n N : Nat} {f : Nat → Value} (h : At W b n f) (hb : Below N W W') (hlt : b < N) : At W' b n f := by
  obtain ⟨t, h⟩ := h; exact ⟨t, (hb.block b hlt).trans h⟩
theorem At.drew {W : World} {b n : Nat} {f : Nat → Value} (h : At W b n f) : At W.drew b n f := h

theorem below_setRow {B g : Nat} {a W : World} (h : Below B a W) (hg : B ≤ g) (c : Array Value) : Below B a (W.setRow g c) :=
  ⟨h.os, h.tape, h.output, by rw [size_setRow]; exact h.size, fun k hk => (_root_.Go.setRow_other W g k c (by omega)).trans (h.block k hk)⟩

/-! ### What is kept of the worlds behind a start, and from which block on the call may write -/
structure Base where
  G : World → Prop
  B : Nat
  le : ∀ {W : World}, G W → B ≤ W.heap.size
  alloc : ∀ {W : World} (c : Array Value) (t : TypeId), G W → G (W.alloc (.cells c t))
  row : ∀ {W : World} {b : Nat} {c : Array Value} {t : TypeId}, G W → B ≤ b → W.heap[b]? = some (.cells c t (0, 0)) → ∀ c' : Array Value, G (W.setRow b c')
  call : ∀ {W W' : World}, G W → Below W.heap.size W W' → G W'
  drew : ∀ {W : World}, G W → G W.drew
/-- A call that begins in w and lets lie all that lay. -/
def Base.of (w : World) : Base where
  G := Below w.heap.size w
  B := w.heap.size
  le := fun h => h.size
  alloc := fun _ _ h => h.alloc h.size _
  row := fun h hb _ c' => below_setRow h hb c'
  call := fun h hb => h.trans (hb.mono h.size)
  drew := fun h => h.drew
instance : Coe World Base := ⟨Base.of⟩

/-! ### The memory of a call: L: blocks, as number, length, contents -/
abbrev Blocks := List (Nat × Nat × (Nat → Value))
structure Mem (w : Base) (L : Blocks) (W : World) : Prop where
  good : w.G W
  ats : ∀ (i : Nat) (b n : Nat) (f : Nat → Value), L[i]? = some (b, n, f) → At W b n f
  apart : ∀ (i j : Nat) (p q : Nat × Nat × (Nat → Value)), L[i]? = some p → L[j]? = some q → i ≠ j → p.1 ≠ q.1

theorem Mem.below {w W : World} {L : Blocks} (h : Mem w L W) : Below w.heap.size w W := h.good
theorem Mem.start {w : Base} {W : World} (h : w.G W) : Mem w [] W := ⟨h, fun i b n f h => by simp at h, fun i j p q h => by simp at h⟩
theorem Mem.nil (w : World) : Mem w [] w := Mem.start (w := Base.of w) (Below.refl _ _)
theorem Mem.size {w : Base} {W : World} {L : Blocks} (h : Mem w L W) : w.B ≤ W.heap.size := w.le h.good
/-- A block that lies there is taken on the list. -/
theorem Mem.old {w : Base} {W : World} {L : Blocks} (h : Mem w L W) {b n : Nat} {f : Nat → Value} (ha : At W b n f) (hL : ∀ (i : Nat) (p : Nat × Nat × (Nat → Value)), L[i]? = some p → p.1 ≠ b) : Mem w (L ++ [(b, n, f)]) W :=
  ⟨h.good, fun i b' n' f' hi => by
    by_cases hl : i < L.length
    · exact h.ats i b' n' f' (by rwa [List.getElem?_append_left hl] at hi)
    · rw [List.getElem?_append_right (by omega)] at hi
      have : i - L.length = 0 := by
        cases hq : i - L.length with
        | zero => rfl
        | succ k => rw [hq] at hi; simp at hi
      rw [this] at hi
      simp at hi
      obtain ⟨rfl, rfl, rfl⟩ := hi
      exact ha,
   fun i j p q hi hj hne => by
    have key : ∀ (i : Nat) (p : Nat × Nat × (Nat → Value)), (L ++ [(b, n, f)])[i]? = some p → (L[i]? = some p ∧ p.1 ≠ b) ∨ (i = L.length ∧ p.1 = b) := fun i p hi => by
      by_cases hl : i < L.length
      · rw [List.getElem?_append_left hl] at hi; exact .inl ⟨hi, hL i p hi⟩
      · rw [List.getElem?_append_right (by omega)] at hi
        cases hq : i - L.length with
        | zero => rw [hq] at hi; simp at hi; right; exact ⟨by omega, by rw [← hi]⟩
        | succ k => rw [hq] at hi; simp at hi
    rcases key i p hi with ⟨a1, a2⟩ | ⟨a1, a2⟩ <;> rcases key j q hj with ⟨b1, b2⟩ | ⟨b1, b2⟩
    · exact h.apart i j p q a1 b1 hne
    · rw [b2]; exact a2
    · rw [a2]; exact Ne.symm b2
    · omega⟩

theorem Mem.alloc {w : Base} {W : World} {L : Blocks} (h : Mem w L W) (t : TypeId) (n : Nat) (f : Nat → Value) : Mem w ((W.heap.size, n, f) :: L) (W.alloc (.cells (arr n f) t)) :=
  ⟨w.alloc _ _ h.good, fun i b n' f' hi => by
    cases i with
    | zero => simp at hi; obtain ⟨rfl, rfl, rfl⟩ := hi; exact At.new W t _ _
    | succ i => exact (h.ats i b n' f' (by simpa using hi)).alloc _,
   fun i j p q hi hj hne => by
    cases i with
    | zero =>
      cases j with
      | zero => exact absurd rfl hne
      | succ j =>
        simp at hi hj
        have := (h.ats j q.1 q.2.1 q.2.2 hj).lt
        rw [← hi]; show W.heap.size ≠ q.1; omega
    | succ i =>
      cases j with
      | zero =>
        simp at hi hj
        have := (h.ats i p.1 p.2.1 p.2.2 hi).lt
        rw [← hj]; show p.1 ≠ W.heap.size; omega
      | succ j => exact h.apart i j p q (by simpa using hi) (by simpa using hj) (by omega)⟩
theorem set_key {L : Blocks} {i : Nat} {b n n' : Nat} {f g : Nat → Value} (hi : L[i]? = some (b, n, f)) : ∀ (j : Nat) (p : Nat × Nat × (Nat → Value)), (L.set i (b, n', g))[j]? = some p → ∃ p', L[j]? = some p' ∧ p'.1 = p.1 := fun j p hj => by
  rw [List.getElem?_set] at hj
  by_cases e : i = j
  · subst e
    have hl : i < L.length := (List.getElem?_eq_some_iff.1 hi).1
    simp [hl] at hj
    exact ⟨_, hi, by rw [← hj]⟩
  · simp [e] at hj; exact ⟨p, hj, rfl⟩
theorem Mem.setRow {w : Base} {W : World} {L : Blocks} (h : Mem w L W) (i : Nat) {b n : Nat} {f : Nat → Value} (hi : L[i]? = some (b, n, f)) (hb : w.B ≤ b) (g : Nat → Value) : Mem w (L.set i (b, n, g)) (W.setRow b (arr n g)) :=
  ⟨let ⟨_, ht⟩ := h.ats i b n f hi; w.row h.good hb ht _, fun j b' n' f' hj => by
    rw [List.getElem?_set] at hj
    by_cases e : i = j
    · subst e
      have hl : i < L.length := (List.getElem?_eq_some_iff.1 hi).1
      simp [hl] at hj
      obtain ⟨rfl, rfl, rfl⟩ := hj
      exact (h.ats i b n f hi).setRow_same
    · simp [e] at hj
      exact (h.ats j b' n' f' hj).setRow_other _ (h.apart j i _ _ hj hi (fun e' => e e'.symm)),
   fun j k p q hj hk hne => by
    obtain ⟨p', hp, ep⟩ := set_key hi j p hj
    obtain ⟨q', hq, eq⟩ := set_key hi k q hk
    rw [← ep, ← eq]
    exact h.apart j k p' q' hp hq hne⟩
/-- Behind a call that lets lie all that lay. -/
theorem Mem.call {w : Base} {W W' : World} {L : Blocks} (h : Mem w L W) (hb : Below W.heap.size W W') : Mem w L W' :=
  ⟨w.call h.good hb, fun i b n f hi => (h.ats i b n f hi).below hb (h.ats i b n f hi).lt, h.apart⟩
theorem Mem.drew {w : Base} {W : World} {L : Blocks} (h : Mem w L W) : Mem w L W.drew := ⟨w.drew h.good, fun i b n f hi => h.ats i b n f hi, h.apart⟩
/-- One block's contents written otherwise. -/
theorem Mem.re {w : Base} {W : World} {L : Blocks} (h : Mem w L W) (i : Nat) {b n : Nat} {f : Nat → Value} (hi : L[i]? = some (b, n, f)) (g : Nat → Value) (e : ∀ k, k < n → f k = g k) : Mem w (L.set i (b, n, g)) W :=
  ⟨h.good, fun j b' n' f' hj => by
    rw [List.getElem?_set] at hj
    by_cases c : i = j
    · subst c
      have hl : i < L.length := (List.getElem?_eq_some_iff.1 hi).1
      simp [hl] at hj
      obtain ⟨rfl, rfl, rfl⟩ := hj
      exact (h.ats i b n f hi).congr e
    · simp [c] at hj; exact h.ats j b' n' f' hj,
   fun j k p q hj hk hne => by
    obtain ⟨p', hp, ep⟩ := set_key hi j p hj
    obtain ⟨q', hq, eq⟩ := set_key hi k q hk
    rw [← ep, ← eq]
    exact h.apart j k p' q' hp hq hne⟩
/-- The same blocks, seen from another start. -/
theorem Mem.base {w w' : Base} {W : World} {L : Blocks} (h : Mem w L W) (hg : w'.G W) : Mem w' L W := ⟨hg, h.ats, h.apart⟩
/-- Fewer blocks. -/
theorem Mem.drop {w : Base} {W : World} {p : Nat × Nat × (Nat → Value)} {L : Blocks} (h : Mem w (p :: L) W) : Mem w L W :=
  ⟨h.good, fun i b n f hi => h.ats (i + 1) b n f (by simpa using hi), fun i j p q hi hj hne => h.apart (i + 1) (j + 1) p q (by simpa using hi) (by simpa using hj) (by omega)⟩
theorem Mem.at0 {w : Base} {W : World} {b n : Nat} {f : Nat → Value} {L : Blocks} (h : Mem w ((b, n, f) :: L) W) : At W b n f := h.ats 0 b n f rfl

/-- A type whose variables are rows of m cells; a type whose variables are one cell. -/
def RowT (P : Program) (ty : TypeId) (m : Nat) : Prop := (∃ d, P.underlying ty = some d ∧ d.isRow = true) ∧ (P.info? ty).map (·.size) = some m
def CellT (P : Program) (ty : TypeId) : Prop := (∃ d, P.underlying ty = some d ∧ d.isRow = false) ∧ (P.info? ty).map (·.size) = some 1

/-! ### Operations on such memory, at the list of a plain region -/
variable {P : Program} {ops : Array Oper} {rest : List Oper} {o : Oper} {a : Act} {w : Base} {W : World} {Q : Exit → Act → World → Prop} {L : Blocks}

/-- A part by value out of a block. -/
theorem wpList_get (hgd : o.guard = none) (ty : TypeId) (x : Operand) (ho : o.op = .load ty x) (b off : Nat) (hx : a.eval x = .pointer (some ⟨b, off, none⟩))
    (hM : Mem w L W) (i : Nat) {n : Nat} {f : Nat → Value} (hi : L[i]? = some (b, n, f)) {m : Nat}
    (hT : RowT P ty m) (hle : off + m ≤ n)
    (h : wpList P ops Q rest (a.put o.dst (.agg (arr m (fun k => f (off + k))))) W) : wpList P ops Q (o :: rest) a W := by
  obtain ⟨⟨d, hu, hd⟩, hm⟩ := hT
  obtain ⟨t, ht⟩ := hM.ats i b n f hi
  have hr : W.rangeAt b off (arr m (fun k => f (off + k))).toList := by
    rw [← arr_extract hle]; exact World.rangeAt_of_block ht off m
  exact wpList_load_mid hgd ty x ho b off hx (arr m (fun k => f (off + k))).toList d hr hu hd (by rw [hm]; simp [arr_size]) (by simpa using h)

/-- One cell out of a block. -/
theorem wpList_get1 (hgd : o.guard = none) (ty : TypeId) (x : Operand) (ho : o.op = .load ty x) (b off : Nat) (hx : a.eval x = .pointer (some ⟨b, off, none⟩))
    (hM : Mem w L W) (i : Nat) {n : Nat} {f : Nat → Value} (hi : L[i]? = some (b, n, f)) 
    (hT : CellT P ty) (hle : off < n) (v : Value) (hv : f off = v)
    (h : wpList P ops Q rest (a.put o.dst v) W) : wpList P ops Q (o :: rest) a W := by
  obtain ⟨⟨d, hu, hd⟩, _⟩ := hT
  refine wpList_plain hgd fun K hK => ?_
  have hc := (hM.ats i b n f hi).cell hle
  rw [hv] at hc
  have hagg : (isAgg ty).run P W = .ok false W := by
    unfold isAgg
    rw [Sem.run_bind, run_underlying hu W]
    cases d <;> simp_all [TypeDesc.isRow]
  unfold Oper.wp execOp
  have hl : (load ⟨b, off, none⟩).run P W = .ok v W := by simp [load, Sem.run, hc]
  simp only [ho, hx, Instr.loadAt, Instr.sureAddr, loadVar, Sem.run_bind, Sem.run_pure, Result.andThen_ok, hagg, Bool.false_eq_true, if_false, hl]
  exact hK _ _ h

/-- The same at an operation with a guard that is met. -/
theorem wpList_want (hw : Region.wanted o (yielded ops a.tmps) = true) (h : ∀ K : Act → World → Prop, (∀ a w, wpList P ops Q rest a w → K a w) → o.wp P a W K Q) : wpList P ops Q (o :: rest) a W :=
  wpList_step fun K hK => by rw [if_pos hw]; exact h K hK
theorem wpList_gget1 (hw : Region.wanted o (yielded ops a.tmps) = true) (ty : TypeId) (x : Operand) (ho : o.op = .load ty x) (b off : Nat) (hx : a.eval x = .pointer (some ⟨b, off, none⟩))
    (hM : Mem w L W) (i : Nat) {n : Nat} {f : Nat → Value} (hi : L[i]? = some (b, n, f))
    (hT : CellT P ty) (hle : off < n) (v : Value) (hv : f off = v)
    (h : wpList P ops Q rest (a.put o.dst v) W) : wpList P ops Q (o :: rest) a W := by
  obtain ⟨⟨d, hu, hd⟩, _⟩ := hT
  refine wpList_want hw fun K hK => ?_
  have hc := (hM.ats i b n f hi).cell hle
  rw [hv] at hc
  have hagg : (isAgg ty).run P W = .ok false W := by
    unfold isAgg
    rw [Sem.run_bind, run_underlying hu W]
    cases d <;> simp_all [TypeDesc.isRow]
  unfold Oper.wp execOp
  have hl : (load ⟨b, off, none⟩).run P W = .ok v W := by simp [load, Sem.run, hc]
  simp only [ho, hx, Instr.loadAt, Instr.sureAddr, loadVar, Sem.run_bind, Sem.run_pure, Result.andThen_ok, hagg, Bool.false_eq_true, if_false, hl]
  exact hK _ _ h
theorem wpList_gget (hw : Region.wanted o (yielded ops a.tmps) = true) (ty : TypeId) (x : Operand) (ho : o.op = .load ty x) (b off : Nat) (hx : a.eval x = .pointer (some ⟨b, off, none⟩))
    (hM : Mem w L W) (i : Nat) {n : Nat} {f : Nat → Value} (hi : L[i]? = some (b, n, f)) {m : Nat}
    (hT : RowT P ty m) (hle : off + m ≤ n)
    (h : wpList P ops Q rest (a.put o.dst (.agg (arr m (fun k => f (off + k))))) W) : wpList P ops Q (o :: rest) a W := by
  obtain ⟨⟨d, hu, hd⟩, hm⟩ := hT
  refine wpList_want hw fun K hK => ?_
  obtain ⟨t, ht⟩ := hM.ats i b n f hi
  have hr : W.rangeAt b off (arr m (fun k => f (off + k))).toList := by
    rw [← arr_extract hle]; exact World.rangeAt_of_block ht off m
  refine wp_load_mid ty x ho b off hx (arr m (fun k => f (off + k))).toList d hr hu hd (by rw [hm]; simp [arr_size]) ?_
  exact hK _ _ (by simpa using h)

/-- A part by value into a block. -/
theorem wpList_lay (hgd : o.guard = none) (ty : TypeId) (x y : Operand) (ho : o.op = .store ty x y) (b off : Nat) (hx : a.eval x = .pointer (some ⟨b, off, none⟩))
    (m : Nat) (g : Nat → Value) (hy : a.eval y = .agg (arr m g)) (hM : Mem w L W) (i : Nat) {n : Nat} {f : Nat → Value} (hi : L[i]? = some (b, n, f)) (hb : w.B ≤ b)
    (hT : RowT P ty m) (hle : off + m ≤ n) (h1 : ∀ k, k < m → (g k).oneCell' = true)
    (h : ∀ W', Mem w (L.set i (b, n, lay f off m g)) W' → wpList P ops Q rest (a.put o.dst undef) W') : wpList P ops Q (o :: rest) a W := by
  obtain ⟨_, hm⟩ := hT
  refine wpList_plain hgd fun K hK => ?_
  obtain ⟨t, ht⟩ := hM.ats i b n f hi
  have hs := run_storeCells_at (P := P) b off t (arr m g).toList 0 (arr n f) W ht (by simp [arr_size]; omega) (fun v hv => by
    rw [arr_toList] at hv; simp at hv; obtain ⟨k, hk, rfl⟩ := hv; exact h1 k hk)
  rw [Nat.add_zero, arr_lay hle] at hs
  have hsz : (sizeOf ty).run P W = .ok m W := by
    cases hq : P.info? ty with
    | none => simp [hq] at hm
    | some i => simp [hq] at hm; simp [sizeOf, typeInfo, hq, hm]
  unfold Oper.wp execOp
  simp only [ho, hx, hy, Instr.storeAt, Instr.sureAddr, storeVar, Sem.run_bind, Sem.run_pure, Result.andThen_ok, Value.cells, hsz, arr_size, ne_eq, not_true_eq_false, if_false, hs]
  exact hK _ _ (h _ (hM.setRow i hi hb _))

/-- One cell into a block. -/
theorem wpList_set1 (hgd : o.guard = none) (ty : TypeId) (x y : Operand) (ho : o.op = .store ty x y) (b off : Nat) (hx : a.eval x = .pointer (some ⟨b, off, none⟩))
    (v : Value) (hy : a.eval y = v) (h1 : v.oneCell' = true) (hM : Mem w L W) (i : Nat) {n : Nat} {f : Nat → Value} (hi : L[i]? = some (b, n, f)) (hb : w.B ≤ b)
    (hT : CellT P ty) (hle : off < n)
    (h : ∀ W', Mem w (L.set i (b, n, upd f off v)) W' → wpList P ops Q rest (a.put o.dst undef) W') : wpList P ops Q (o :: rest) a W := by
  obtain ⟨_, hm⟩ := hT
  refine wpList_plain hgd fun K hK => ?_
  obtain ⟨t, ht⟩ := hM.ats i b n f hi
  have hc := (hM.ats i b n f hi).cell hle
  have hf := (hM.ats i b n f hi).frozen off
  have hsz : (sizeOf ty).run P W = .ok 1 W := by
    cases hq : P.info? ty with
    | none => simp [hq] at hm
    | some i => simp [hq] at hm; simp [sizeOf, typeInfo, hq, hm]
  have hcells : v.cells = #[v] := by cases v <;> first | rfl | (simp [Value.oneCell'] at h1)
  have hadd : (⟨b, off, none⟩ : Addr).add 0 = ⟨b, off, none⟩ := by simp [Addr.add]
  have hs : (storeCells ⟨b, off, none⟩ [v] 0).run P W = .ok () (W.setRow b (arr n (upd f off v))) := by
    simp only [storeCells, Sem.run_bind, hadd, run_store P W _ v _ h1, hc]
    simp [hf, setCell_eq_setRow W b off _ t (0, 0) v ht, arr_set]
  unfold Oper.wp execOp
  simp only [ho, hx, hy, Instr.storeAt, Instr.sureAddr, storeVar, Sem.run_bind, Sem.run_pure, Result.andThen_ok, hcells, hsz, List.size_toArray, List.length_cons, List.length_nil, Nat.zero_add, ne_eq, not_true_eq_false, if_false, hs]
  exact hK _ _ (h _ (hM.setRow i hi hb _))

/-- A new block at its type's zero value. -/
theorem wpList_zero (hgd : o.guard = none) (ty : TypeId) (ho : o.op = .alloc ty) {n : Nat} {f : Nat → Value} (hz : (P.info? ty).map (·.zero) = some (some (.agg (arr n f)))) (hM : Mem w L W)
    (h : ∀ b W', w.B ≤ b → Mem w ((b, n, f) :: L) W' → wpList P ops Q rest (a.put o.dst (.pointer (some ⟨b, 0, none⟩))) W') : wpList P ops Q (o :: rest) a W := by
  refine wpList_plain hgd fun K hK => ?_
  have hzv : (zeroValue ty).run P W = .ok (.agg (arr n f)) W := by
    cases hq : P.info? ty with
    | none => simp [hq] at hz
    | some i => simp [hq] at hz; simp [zeroValue, typeInfo, hq, hz]
  unfold Oper.wp execOp
  simp only [ho, Instr.alloc, Sem.run_bind, Sem.run_pure, Result.andThen_ok, hzv, newVar, newRow, newObj, Sem.run, Value.cells]
  exact hK _ _ (h W.heap.size _ hM.size (hM.alloc ty n f))

/-- A new block of one cell at its type's zero value. -/
theorem wpList_zero1 (hgd : o.guard = none) (ty : TypeId) (ho : o.op = .alloc ty) {v : Value} (hz : (P.info? ty).map (·.zero) = some (some v)) (hv : v.oneCell' = true) (hM : Mem w L W)
    (h : ∀ b W', w.B ≤ b → Mem w ((b, 1, fun _ => v) :: L) W' → wpList P ops Q rest (a.put o.dst (.pointer (some ⟨b, 0, none⟩))) W') : wpList P ops Q (o :: rest) a W := by
  refine wpList_plain hgd fun K hK => ?_
  have hzv : (zeroValue ty).run P W = .ok v W := by
    cases hq : P.info? ty with
    | none => simp [hq] at hz
    | some i => simp [hq] at hz; simp [zeroValue, typeInfo, hq, hz]
  have hcells : v.cells = arr 1 (fun _ => v) := by cases v <;> first | rfl | (simp [Value.oneCell'] at hv)
  unfold Oper.wp execOp
  simp only [ho, Instr.alloc, Sem.run_bind, Sem.run_pure, Result.andThen_ok, hzv, newVar, newRow, newObj, Sem.run, hcells]
  exact hK _ _ (h W.heap.size _ hM.size (hM.alloc ty 1 _))

/-- A new block that holds an aggregate. -/
theorem wpList_box (hgd : o.guard = none) (ty : TypeId) (x : Operand) (ho : o.op = .box ty x) (n : Nat) (f : Nat → Value) (hx : a.eval x = .agg (arr n f)) (hM : Mem w L W)
    (h : ∀ b W', w.B ≤ b → Mem w ((b, n, f) :: L) W' → wpList P ops Q rest (a.put o.dst (.pointer (some ⟨b, 0, none⟩))) W') : wpList P ops Q (o :: rest) a W := by
  refine wpList_plain hgd fun K hK => ?_
  unfold Oper.wp execOp
  simp only [ho, hx, Instr.box, Sem.run_bind, Sem.run_pure, Result.andThen_ok, newVar, newRow, newObj, Sem.run, Value.cells]
  exact hK _ _ (h W.heap.size _ hM.size (hM.alloc ty n f))

/-- A new block that holds one cell. -/
theorem wpList_box1 (hgd : o.guard = none) (ty : TypeId) (x : Operand) (ho : o.op = .box ty x) (v : Value) (hx : a.eval x = v) (hv : v.oneCell' = true) (hM : Mem w L W)
    (h : ∀ b W', w.B ≤ b → Mem w ((b, 1, fun _ => v) :: L) W' → wpList P ops Q rest (a.put o.dst (.pointer (some ⟨b, 0, none⟩))) W') : wpList P ops Q (o :: rest) a W := by
  refine wpList_plain hgd fun K hK => ?_
  have hcells : v.cells = arr 1 (fun _ => v) := by cases v <;> first | rfl | (simp [Value.oneCell'] at hv)
  unfold Oper.wp execOp
  simp only [ho, hx, Instr.box, Sem.run_bind, Sem.run_pure, Result.andThen_ok, newVar, newRow, newObj, Sem.run, hcells]
  exact hK _ _ (h W.heap.size _ hM.size (hM.alloc ty 1 _))

/-- A result that lies in a block. -/
theorem results_at {fn : Func} {p : Tmp} {ty : TypeId} (h : fn.results = #[.cell p ty]) (tmps : Array Value) {W : World} {b n : Nat} {f : Nat → Value}
    (hp : tmps.getD p undef = .pointer (some ⟨b, 0, none⟩)) (hg : At W b n f) (hT : RowT P ty n) :
    (results fn tmps).run P W = .ok (.agg (arr n f)) W := by
  obtain ⟨⟨d, hu, hd⟩, hm⟩ := hT
  obtain ⟨t, hg⟩ := hg
  refine results_cell_row h tmps W b t (arr n f) (0, 0) d hp hg hu ?_ (by rw [hm, arr_size])
  cases d <;> simp_all [TypeDesc.isRow]

/-! ### A region that draws its order, whose operations only read such memory, or call what lets it lie -/
theorem wp_region_mem {id : Nat} {l : List Oper} (hm : P.follows .mixedOrders = true) (hB : Region.lexB .any l.toArray = true) (hM : Mem w L W)
    (h : wpQuiet P l.toArray (Mem w L) (fun a' => ∀ W', Mem w L W' → Q .normal a' W') l a) : (Code.region id l.toArray true).wp P Q a W :=
  wp_region_quiet (C := Mem w L) hm hB hM.drew (by simpa using h)

variable {K : Act → Prop}
theorem quiet_val (h : ∃ v, (∀ W, (execOp a.eval o).run P W = .ok (.value v) W) ∧ K (a.put o.dst v)) : o.quiet P a (Mem w L) K := by
  obtain ⟨v, hr, h⟩ := h
  refine ⟨v, fun W _ => ?_, h⟩
  unfold Oper.quietAt
  rw [hr]; exact ⟨rfl, rfl⟩
theorem quiet_call (h : ∃ f args v, (∀ W, (execOp a.eval o).run P W = .ok (.enter f args) W) ∧
    (∀ W, Mem w L W → Calls P f args W fun e w' => e = .returned v ∧ Below W.heap.size W w') ∧ K (a.put o.dst v)) : o.quiet P a (Mem w L) K := by
  obtain ⟨f, args, v, hr, hc, h⟩ := h
  refine ⟨v, fun W hM => ?_, h⟩
  unfold Oper.quietAt
  rw [hr]
  exact ⟨rfl, (hc W hM).mono fun e w' ⟨he, hb⟩ => ⟨he, hM.call hb⟩⟩
theorem quiet_get (ty : TypeId) (x : Operand) (ho : o.op = .load ty x) (b off : Nat) (hx : a.eval x = .pointer (some ⟨b, off, none⟩))
    (i : Nat) {n : Nat} {f : Nat → Value} (hi : L[i]? = some (b, n, f)) {m : Nat} (hT : RowT P ty m) (hle : off + m ≤ n)
    (h : K (a.put o.dst (.agg (arr m (fun k => f (off + k)))))) : o.quiet P a (Mem w L) K := by
  refine ⟨_, fun W hM => ?_, h⟩
  obtain ⟨⟨d, hu, hd⟩, hm⟩ := hT
  obtain ⟨t, ht⟩ := hM.ats i b n f hi
  have hr : W.rangeAt b off (arr m (fun k => f (off + k))).toList := by
    rw [← arr_extract hle]; exact World.rangeAt_of_block ht off m
  have hl := run_loadVar_mid (P := P) W b off ty _ d hr hu hd (by rw [hm]; simp [arr_size])
  unfold Oper.quietAt execOp
  simp only [ho, hx, Instr.loadAt, Instr.sureAddr, Sem.run_bind, Sem.run_pure, Result.andThen_ok, hl]
  exact ⟨rfl, by simp⟩
theorem quiet_get1 (ty : TypeId) (x : Operand) (ho : o.op = .load ty x) (b off : Nat) (hx : a.eval x = .pointer (some ⟨b, off, none⟩))
    (i : Nat) {n : Nat} {f : Nat → Value} (hi : L[i]? = some (b, n, f)) (hT : CellT P ty) (hle : off < n) (v : Value) (hv : f off = v)
    (h : K (a.put o.dst v)) : o.quiet P a (Mem w L) K := by
  refine ⟨v, fun W hM => ?_, h⟩
  obtain ⟨⟨d, hu, hd⟩, _⟩ := hT
  have hc := (hM.ats i b n f hi).cell hle
  rw [hv] at hc
  have hagg : (isAgg ty).run P W = .ok false W := by
    unfold isAgg
    rw [Sem.run_bind, run_underlying hu W]
    cases d <;> simp_all [TypeDesc.isRow]
  have hl : (load ⟨b, off, none⟩).run P W = .ok v W := by simp [load, Sem.run, hc]
  unfold Oper.quietAt execOp
  simp only [ho, hx, Instr.loadAt, Instr.sureAddr, loadVar, Sem.run_bind, Sem.run_pure, Result.andThen_ok, hagg, Bool.false_eq_true, if_false, hl]
  exact ⟨rfl, rfl⟩
end Go.Proofs.YtcdpdcjdjcbhcaaDoor
