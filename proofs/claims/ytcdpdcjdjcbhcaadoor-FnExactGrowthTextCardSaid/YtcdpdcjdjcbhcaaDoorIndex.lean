/-
  PLAIN LAWS: an element of an array by value.
-/
import Derived.Test.YtcdpdcjdjcbhcaaDoorKit
namespace Go.Proofs.YtcdpdcjdjcbhcaaDoor
open Go Go.RowKit
variable {P : Program} {ops : Array Oper} {rest : List Oper} {o : Oper} {a : Act} {W : World} {Q : Exit → Act → World → Prop}

theorem run_index_cell {t e : TypeId} {n : Nat} {f : Nat → Value} {κ : IntKind} {k : Nat} (hk : k < n) (ht : P.underlying t = some (.array n e)) (he : CellT P e) (W : World) : (Instr.index t (.agg (arr n f)) (.int κ k)).run P W = .ok (f k) W := by
  obtain ⟨⟨d, hu, hd⟩, hm⟩ := he
  have hagg : (isAgg e).run P W = .ok false W := by
    unfold isAgg; rw [Sem.run_bind, run_underlying hu W]; cases d <;> simp_all [TypeDesc.isRow]
  have hsz : (sizeOf e).run P W = .ok 1 W := by
    cases hq : P.info? e with
    | none => simp [hq] at hm
    | some i => simp [hq] at hm; simp [sizeOf, typeInfo, hq, hm]
  have h2 : (0 : Int) ≤ (k : Int) ∧ (k : Int) < (n : Int) := ⟨by omega, by omega⟩
  simp only [Instr.index, asIntOf, Sem.run_bind, Sem.run_pure, Result.andThen_ok, run_underlying ht, h2, and_self, if_true, hsz, Int.toNat_natCast, Nat.mul_one, part, hagg, Bool.false_eq_true, if_false, arr_at hk]

theorem wpList_index (hgd : o.guard = none) (t : TypeId) (x i : Operand) (ho : o.op = .index t x i) (n : Nat) (f : Nat → Value) (hx : a.eval x = .agg (arr n f)) (κ : IntKind) (k : Nat) (hi : a.eval i = .int κ k) (hk : k < n) {e : TypeId}
    (ht : P.underlying t = some (.array n e)) (he : CellT P e) (v : Value) (hv : f k = v) (h : wpList P ops Q rest (a.put o.dst v) W) : wpList P ops Q (o :: rest) a W := by
  refine wpList_plain hgd fun K hK => ?_
  unfold Oper.wp execOp
  simp only [ho, hx, hi, Sem.run_bind, Sem.run_pure, run_index_cell hk ht he, Result.andThen_ok, hv]
  exact hK _ _ h
end Go.Proofs.YtcdpdcjdjcbhcaaDoor
