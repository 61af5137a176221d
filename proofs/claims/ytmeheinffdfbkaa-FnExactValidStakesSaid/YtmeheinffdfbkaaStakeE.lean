/-
  '==' on values of the type Stake.
-/
import Derived.Test.YtmeheinffdfbkaaEqlSpot
import Derived.Test.YtmeheinffdfbkaaStakeV
namespace Go.Proofs.Ytmeheinffdfbkaa
open Go Go.RowKit Go.BigFrame

theorem run_equal_stake (a b : Nat → Int) (W : World) :
    (Op.equalIn 10000 48 (.agg (arr 3 (vStake a))) (.agg (arr 3 (vStake b)))).run Try.prog W = .ok (eqTo 3 a b) W := by
  have hs := run_equalIn_struct (P := Try.prog) W 9999 48 (arr 3 (vStake a)) (arr 3 (vStake b)) (by rw [Program.fieldsOf, Try.underlying48]) (by kernel_rfl)
  rw [hs]
  have hf : (Try.prog.fieldsOf 48).toList = [
    { name := "At", type := 26, offset := 0, embedded := false, tag := "", pkgPath := "", byteOffset := 0 },
    { name := "Reach", type := 35, offset := 2, embedded := false, tag := "", pkgPath := "", byteOffset := 2 }] := by
    rw [Program.fieldsOf, Try.underlying48]
  rw [hf]
  have p0 := fun c => (run_part_row (P := Try.prog) (rowTab 26 2 rfl) (n := 3) (i := 0) (f := vStake c) (by omega) W).trans (by rw [spStake0])
  have q0 := run_equal_spot (a 0) (a 1) (b 0) (b 1) 9997 W
  have p1 := fun c => run_part_cell (P := Try.prog) Try.underlying35 (n := 3) (i := 2) (f := vStake c) (by omega) W
  have q1 := run_equalIn_int (P := Try.prog) W 9998 35 .i16 .i16 (a 2) (b 2) Try.underlying35
  have e1 : ∀ c : Nat → Int, vStake c 2 = .int .i16 (c 2) := fun _ => rfl
  simp only [Op.eqFields, ne_eq, Sem.run_bind, p0, p1, Result.andThen_ok, e1, q0, q1, Sem.run_pure, Sem.run_ite]
  have key : eqTo 3 a b = (((a 0 == b 0) && (a 1 == b 1)) && (a 2 == b 2)) := by
    rw [Bool.eq_iff_iff]
    simp only [Bool.and_eq_true, eqTo_iff, beq_iff_eq]
    constructor
    · intro h
      exact ⟨⟨h 0 (by omega), h 1 (by omega)⟩, h 2 (by omega)⟩
    · rintro ⟨⟨h0, h1⟩, h2⟩ k hk
      rcases (show k = 0 ∨ k = 1 ∨ k = 2 by omega) with rfl | rfl | rfl <;> assumption
  rw [key]
  cases ((a 0 == b 0) && (a 1 == b 1)) <;> cases (a 2 == b 2) <;> simp
theorem neq_stake (a b : Nat → Int) (W : World) : (binOp .neq 48 (.agg (arr 3 (vStake a))) (.agg (arr 3 (vStake b)))).run Try.prog W = .ok (.bool (!eqTo 3 a b)) W := by
  rw [run_neq_struct, run_equal_stake]; rfl
end Go.Proofs.Ytmeheinffdfbkaa
