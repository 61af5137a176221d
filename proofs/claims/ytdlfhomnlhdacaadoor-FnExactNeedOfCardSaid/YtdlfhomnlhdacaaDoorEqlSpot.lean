/-
  '==' on spots.
-/
import Derived.Test.YtdlfhomnlhdacaaDoorEqual
namespace Go.Proofs.YtdlfhomnlhdacaaDoor
open Go Go.RowKit Go.BigFrame

theorem run_equal_spot (x y x' y' : Int) (d : Nat) (W : World) :
    (Op.equalIn (d + 2) 40 (.agg (arr 2 (sp x y))) (.agg (arr 2 (sp x' y')))).run Tryd.prog W = .ok ((x == x') && (y == y')) W := by
  have hs := run_equalIn_struct (P := Tryd.prog) W (d + 1) 40 (arr 2 (sp x y)) (arr 2 (sp x' y')) (by rw [Program.fieldsOf, Tryd.underlying40]) (by kernel_rfl)
  rw [hs]
  have hf : (Tryd.prog.fieldsOf 40).toList = [
    { name := "X", type := 22, offset := 0, embedded := false, tag := "", pkgPath := "", byteOffset := 0 },
    { name := "Y", type := 22, offset := 1, embedded := false, tag := "", pkgPath := "", byteOffset := 1 }] := by
    rw [Program.fieldsOf, Tryd.underlying40]
  rw [hf]
  have p0 := fun c c' => run_part_cell (P := Tryd.prog) Tryd.underlying22 (n := 2) (i := 0) (f := sp c c') (by omega) W
  have p1 := fun c c' => run_part_cell (P := Tryd.prog) Tryd.underlying22 (n := 2) (i := 1) (f := sp c c') (by omega) W
  have q0 := run_equalIn_int (P := Tryd.prog) W d 22 .i8 .i8 x x' Tryd.underlying22
  have q1 := run_equalIn_int (P := Tryd.prog) W d 22 .i8 .i8 y y' Tryd.underlying22
  have e0 : ∀ c c' : Int, sp c c' 0 = .int .i8 c := fun _ _ => rfl
  have e1 : ∀ c c' : Int, sp c c' 1 = .int .i8 c' := fun _ _ => rfl
  simp only [Op.eqFields, ne_eq, Sem.run_bind, p0, p1, Result.andThen_ok, e0, e1, q0, q1, Sem.run_pure, Sem.run_ite]
  cases (x == x') <;> cases (y == y') <;> simp

theorem neq_spot (x y x' y' : Int) (W : World) : (binOp .neq 40 (.agg (arr 2 (sp x y))) (.agg (arr 2 (sp x' y')))).run Tryd.prog W = .ok (.bool (!((x == x') && (y == y')))) W := by
  rw [run_neq_struct, run_equal_spot]; rfl
theorem eql_spot (x y x' y' : Int) (W : World) : (binOp .eql 40 (.agg (arr 2 (sp x y))) (.agg (arr 2 (sp x' y')))).run Tryd.prog W = .ok (.bool ((x == x') && (y == y'))) W := by
  rw [run_eql_struct, run_equal_spot]; rfl
theorem build_spot0 (W : World) : (Instr.build 40 #[]).run Tryd.prog W = .ok (.agg (arr 2 (sp 0 0))) W := by kernel_rfl
end Go.Proofs.YtdlfhomnlhdacaaDoor
