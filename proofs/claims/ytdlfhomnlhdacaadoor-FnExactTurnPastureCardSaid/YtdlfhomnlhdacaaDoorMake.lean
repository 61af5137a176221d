/-
  PLAIN LAWS: a pasture literal of its width and height; a pasture's width and height as numbers.
-/
import Derived.Test.YtdlfhomnlhdacaaDoorTake
import Derived.Test.YtdlfhomnlhdacaaDoorRange
import Derived.Test.YtdlfhomnlhdacaaDoorNeq
namespace Go.Proofs.YtdlfhomnlhdacaaDoor
open Go Go.RowKit Go.Shelf Go.BigFrame

theorem run_buildS (a b : Int) (W : World) : (Instr.build 29 #[(0, .int .i8 a), (1, .int .i8 b)]).run Tryd.prog W = .ok (.agg (arr 122 (pas (whS a b)))) W := by
  kernel_rfl
theorem wpList_buildS {ops : Array Oper} {rest : List Oper} {o : Oper} {a : Act} {W : World} {Q : Exit → Act → World → Prop} (hgd : o.guard = none) (x y : Operand) (ho : o.op = .build 29 #[(0, x), (1, y)]) (n m : Int) (hx : a.eval x = .int .i8 n) (hy : a.eval y = .int .i8 m)
    (h : wpList Tryd.prog ops Q rest (a.put o.dst (.agg (arr 122 (pas (whS n m))))) W) : wpList Tryd.prog ops Q (o :: rest) a W := by
  refine wpList_plain hgd fun K hK => ?_
  unfold Oper.wp execOp
  have e : (Array.map (fun (z : Nat × Operand) => match z with | (i, x) => (i, a.eval x)) #[(0, x), (1, y)]) = #[(0, .int .i8 n), (1, .int .i8 m)] := by simp [hx, hy]
  simp only [ho, e, Sem.run_bind, Sem.run_pure, run_buildS, Result.andThen_ok]
  exact hK _ _ h
theorem ok_sizes {g : Nat → Int} (ho : okB g = true) : ∃ W H : Nat, g 0 = W ∧ g 1 = H ∧ (1 ≤ W ∧ W ≤ 10) ∧ (1 ≤ H ∧ H ≤ 10) := by
  unfold okB at ho
  rw [Bool.and_eq_true, Bool.and_eq_true] at ho
  have b0 := inB_true ho.1.1
  have b1 := inB_true ho.1.2
  exact ⟨(g 0).toNat, (g 1).toNat, by omega, by omega, by omega, by omega⟩
end Go.Proofs.YtdlfhomnlhdacaaDoor
