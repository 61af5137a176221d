/-
  PLAIN LAWS: slices of rows by value: a slice literal of one or two such elements is a new block.
-/
import Derived.Great.BuildSlice
import Derived.Lib.Hide
import Derived.Test.YtcdpdcjdjcbhcaaDoorKit
namespace Go.Proofs.YtcdpdcjdjcbhcaaDoor
open Go Go.RowKit

theorem fold_lay (f : Nat → Value) (off : Nat) : ∀ (m : Nat) (cs : Array Value), off + m ≤ cs.size →
    (((List.range m).map f).zipIdx.foldl (fun cs x => cs.setIfInBounds (off + x.2) x.1) cs).size = cs.size ∧
    ∀ k : Nat, (((List.range m).map f).zipIdx.foldl (fun cs x => cs.setIfInBounds (off + x.2) x.1) cs)[k]? = if off ≤ k ∧ k < off + m then some (f (k - off)) else cs[k]?
  | 0, cs, _ => by
    refine ⟨rfl, fun k => ?_⟩
    rw [if_neg (by omega)]; rfl
  | m + 1, cs, h => by
    obtain ⟨i1, i2⟩ := fold_lay f off m cs (by omega)
    rw [List.range_succ, List.map_append, List.zipIdx_append, List.foldl_append]
    simp only [List.map_cons, List.map_nil, List.length_map, List.length_range, Nat.zero_add, List.zipIdx_cons, List.zipIdx_nil, List.foldl_cons, List.foldl_nil]
    refine ⟨by rw [Array.size_setIfInBounds, i1], fun k => ?_⟩
    rw [Array.getElem?_setIfInBounds, i2 k, i1]
    by_cases h1 : off + m = k
    · subst h1
      simp [show off + m < cs.size by omega]
    · simp only [h1, if_false]
      by_cases h2 : off ≤ k ∧ k < off + m
      · rw [if_pos h2, if_pos (by omega)]
      · rw [if_neg h2, if_neg (by omega)]

theorem fill_one {place : Nat → Option (Nat × Nat)} {cs : Array Value} {i off m : Nat} {f : Nat → Value} (hp : place i = some (off, m)) (hle : off + m ≤ cs.size) (rest : List (Nat × Value)) :
    ∃ cs', Instr.fill place cs ((i, .agg (arr m f)) :: rest) = Instr.fill place cs' rest ∧ cs'.size = cs.size ∧ ∀ k : Nat, cs'[k]? = if off ≤ k ∧ k < off + m then some (f (k - off)) else cs[k]? := by
  refine ⟨_, ?_, (fold_lay f off m cs hle).1, (fold_lay f off m cs hle).2⟩
  rw [Instr.fill, hp]
  have e1 : (decide ((Value.agg (arr m f)).cells.size ≠ m) || decide (off + (Value.agg (arr m f)).cells.size > cs.size)) = false := by
    simp [Value.cells, arr_size]; omega
  simp only [Value.cells] at e1 ⊢
  rw [← Array.foldl_toList, Array.toList_zipIdx, arr_toList]
  simp only [arr_size, ne_eq, not_true_eq_false, gt_iff_lt, show ¬ cs.size < off + m by omega, decide_false, Bool.or_self, Bool.false_eq_true, or_self, if_false]

variable {P : Program} {ops : Array Oper} {rest : List Oper} {o : Oper} {a : Act} {w : Base} {W : World} {Q : Exit → Act → World → Prop} {L : Blocks}
/-- A slice literal of one element that is a row of m cells: a new block. -/
theorem wpList_slice1 (hgd : o.guard = none) (t e : TypeId) (x : Operand) (ho : o.op = .buildSlice t 1 #[(0, x)]) (m : Nat) (f : Nat → Value) (hx : a.eval x = .agg (arr m f)) (z : Value)
    (hu : P.underlying t = some (.slice e)) (hz : (P.info? e).map (fun i => (i.size, i.zero)) = some (m, some z)) (hm : 0 < m) (hm' : m ≤ 1000) (hM : Mem w L W)
    (h : ∀ b W', w.B ≤ b → Mem w ((b, m, f) :: L) W' → wpList P ops Q rest (a.put o.dst (.slice (some ⟨b, 0, none⟩) 1 1)) W') : wpList P ops Q (o :: rest) a W := by
  obtain ⟨ie, hie, hq⟩ := Option.map_eq_some_iff.1 hz
  simp only [Prod.mk.injEq] at hq
  refine wpList_buildSlice hgd t e 1 _ ho (arr m f) ie z hu hie hq.2 (by rw [hq.1]; omega) (by rw [hq.1]; omega) ?_ (h _ _ hM.size (hM.alloc e m f))
  rw [hq.1]
  rw [show (Array.map (fun x => match x with | (i, x) => (i, a.eval x)) #[(0, x)]).toList = [(0, Value.agg (arr m f))] by simp [hx]]
  obtain ⟨cs, h1, h2, h3⟩ := fill_one (f := f) (place := fun i => some (i * m, m)) (i := 0) (off := 0 * m) (m := m) rfl (cs := (Array.range (1 * m)).map (z.cells[· % z.cells.size]!)) (by simp) []
  rw [h1, Instr.fill]
  refine congrArg some (arr_ext (by rw [h2]; simp) (fun k hk => ?_))
  rw [h3, if_pos (by omega)]; simp
/-- A slice literal of two such elements. -/
theorem wpList_slice2 (hgd : o.guard = none) (t e : TypeId) (x y : Operand) (ho : o.op = .buildSlice t 2 #[(0, x), (1, y)]) (m : Nat) (f g : Nat → Value) (hx : a.eval x = .agg (arr m f)) (hy : a.eval y = .agg (arr m g)) (z : Value)
    (hu : P.underlying t = some (.slice e)) (hz : (P.info? e).map (fun i => (i.size, i.zero)) = some (m, some z)) (hm : 0 < m) (hm' : m ≤ 1000) (hM : Mem w L W)
    (h : ∀ b W', w.B ≤ b → Mem w ((b, 2 * m, fun k => if k < m then f k else g (k - m)) :: L) W' → wpList P ops Q rest (a.put o.dst (.slice (some ⟨b, 0, none⟩) 2 2)) W') : wpList P ops Q (o :: rest) a W := by
  obtain ⟨ie, hie, hq⟩ := Option.map_eq_some_iff.1 hz
  simp only [Prod.mk.injEq] at hq
  refine wpList_buildSlice hgd t e 2 _ ho (arr (2 * m) fun k => if k < m then f k else g (k - m)) ie z hu hie hq.2 (by rw [hq.1]; omega) (by rw [hq.1]; omega) ?_ (h _ _ hM.size (hM.alloc e (2 * m) _))
  rw [hq.1]
  rw [show (Array.map (fun x => match x with | (i, x) => (i, a.eval x)) #[(0, x), (1, y)]).toList = [(0, Value.agg (arr m f)), (1, Value.agg (arr m g))] by simp [hx, hy]]
  obtain ⟨cs, h1, h2, h3⟩ := fill_one (f := f) (place := fun i => some (i * m, m)) (i := 0) (off := 0 * m) (m := m) rfl (cs := (Array.range (2 * m)).map (z.cells[· % z.cells.size]!)) (by simp; omega) [(1, Value.agg (arr m g))]
  rw [h1]
  have hs : cs.size = 2 * m := by rw [h2]; simp
  obtain ⟨ds, g1, g2, g3⟩ := fill_one (f := g) (place := fun i => some (i * m, m)) (i := 1) (off := 1 * m) (m := m) rfl (cs := cs) (by omega) []
  rw [g1, Instr.fill]
  refine congrArg some (arr_ext (by rw [g2, hs]) (fun k hk => ?_))
  rw [g3]
  by_cases hk2 : k < m
  · rw [if_neg (by omega), h3, if_pos (by omega)]; simp [hk2]
  · rw [if_pos (by omega)]; simp [hk2]
end Go.Proofs.YtcdpdcjdjcbhcaaDoor
