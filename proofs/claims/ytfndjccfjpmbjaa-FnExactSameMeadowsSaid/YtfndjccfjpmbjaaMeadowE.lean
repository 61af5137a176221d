/-
  '==' on values of the type Meadow.
-/
import Derived.Test.YtfndjccfjpmbjaaEqlSpot
import Derived.Test.YtfndjccfjpmbjaaMeadowV
namespace Go.Proofs.Ytfndjccfjpmbjaa
open Go Go.RowKit Go.BigFrame

theorem run_equal_meadow (a b : Nat → Int) (W : World) :
    (Op.equalIn 10000 46 (.agg (arr 3 (vMeadow a))) (.agg (arr 3 (vMeadow b)))).run Try.prog W = .ok (eqTo 3 a b) W := by
  have hs := run_equalIn_struct (P := Try.prog) W 9999 46 (arr 3 (vMeadow a)) (arr 3 (vMeadow b)) (by rw [Program.fieldsOf, Try.underlying46]) (by kernel_rfl)
  rw [hs]
  have hf : (Try.prog.fieldsOf 46).toList = [
    { name := "Grass", type := 29, offset := 0, embedded := false, tag := "", pkgPath := "", byteOffset := 0 },
    { name := "Grows", type := 29, offset := 1, embedded := false, tag := "", pkgPath := "", byteOffset := 2 },
    { name := "Most", type := 29, offset := 2, embedded := false, tag := "", pkgPath := "", byteOffset := 4 }] := by
    rw [Program.fieldsOf, Try.underlying46]
  rw [hf]
  have p0 := fun c => run_part_cell (P := Try.prog) Try.underlying29 (n := 3) (i := 0) (f := vMeadow c) (by omega) W
  have q0 := run_equalIn_int (P := Try.prog) W 9998 29 .i16 .i16 (a 0) (b 0) Try.underlying29
  have e0 : ∀ c : Nat → Int, vMeadow c 0 = .int .i16 (c 0) := fun _ => rfl
  have p1 := fun c => run_part_cell (P := Try.prog) Try.underlying29 (n := 3) (i := 1) (f := vMeadow c) (by omega) W
  have q1 := run_equalIn_int (P := Try.prog) W 9998 29 .i16 .i16 (a 1) (b 1) Try.underlying29
  have e1 : ∀ c : Nat → Int, vMeadow c 1 = .int .i16 (c 1) := fun _ => rfl
  have p2 := fun c => run_part_cell (P := Try.prog) Try.underlying29 (n := 3) (i := 2) (f := vMeadow c) (by omega) W
  have q2 := run_equalIn_int (P := Try.prog) W 9998 29 .i16 .i16 (a 2) (b 2) Try.underlying29
  have e2 : ∀ c : Nat → Int, vMeadow c 2 = .int .i16 (c 2) := fun _ => rfl
  simp only [Op.eqFields, ne_eq, Sem.run_bind, p0, p1, p2, Result.andThen_ok, e0, e1, e2, q0, q1, q2, Sem.run_pure, Sem.run_ite]
  have key : eqTo 3 a b = ((a 0 == b 0) && (a 1 == b 1) && (a 2 == b 2)) := by
    rw [Bool.eq_iff_iff]
    simp only [Bool.and_eq_true, eqTo_iff, beq_iff_eq]
    constructor
    · intro h
      exact ⟨⟨h 0 (by omega), h 1 (by omega)⟩, h 2 (by omega)⟩
    · rintro ⟨⟨h0, h1⟩, h2⟩ k hk
      rcases (show k = 0 ∨ k = 1 ∨ k = 2 by omega) with rfl | rfl | rfl <;> assumption
  rw [key]
  cases (a 0 == b 0) <;> cases (a 1 == b 1) <;> cases (a 2 == b 2) <;> simp
theorem neq_meadow (a b : Nat → Int) (W : World) : (binOp .neq 46 (.agg (arr 3 (vMeadow a))) (.agg (arr 3 (vMeadow b)))).run Try.prog W = .ok (.bool (!eqTo 3 a b)) W := by
  rw [run_neq_struct, run_equal_meadow]; rfl
end Go.Proofs.Ytfndjccfjpmbjaa
