/-
  A goat that is none, and a goat with a code.
-/
import Derived.Test.YtjfmhnbbdkejeaaDoorGoatT
namespace Go.Proofs.YtjfmhnbbdkejeaaDoor
open Go Go.RowKit Go.BigFrame

def gz : Nat → Int := fun _ => 0
theorem run_goat0 (W : World) : (Instr.build 36 #[]).run Tryd.prog W = .ok (.agg (arr 7 (gt gz))) W := by
  kernel_rfl
theorem wpList_goat0 {ops : Array Oper} {rest : List Oper} {o : Oper} {a : Act} {W : World} {Q : Exit → Act → World → Prop} (hgd : o.guard = none) (ho : o.op = .build 36 #[])
    (h : wpList Tryd.prog ops Q rest (a.put o.dst (.agg (arr 7 (gt gz)))) W) : wpList Tryd.prog ops Q (o :: rest) a W := by
  refine wpList_plain hgd fun K hK => ?_
  unfold Oper.wp execOp
  simp only [ho, Array.map_empty, Sem.run_bind, Sem.run_pure, run_goat0, Result.andThen_ok]
  exact hK _ _ h
/-- A goat and a code. -/
def goatR (h : Nat → Int) (c : Int) : Value := .tuple #[.agg (arr 7 (gt h)), .int .i64 c]
theorem goatR_eq (h : Nat → Int) (c : Int) : goatR h c = .tuple #[.agg (arr 7 (gt h)), .int .i64 c] := rfl
end Go.Proofs.YtjfmhnbbdkejeaaDoor
