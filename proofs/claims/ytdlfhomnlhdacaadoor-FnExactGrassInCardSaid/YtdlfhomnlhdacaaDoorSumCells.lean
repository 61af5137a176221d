/-
  The sum of all grass by impl's iterator of cells.
-/
import Derived.Test.YtdlfhomnlhdacaaDoorSum
namespace Go.Proofs.YtdlfhomnlhdacaaDoor
open Go Go.RowKit Go.Shelf Go.BigFrame

set_option maxRecDepth 100000 in
theorem sumGrass_cells (g : Nat → Int) (hg : Fits g) (ho : okB g = true) (bp : Nat) (w : World) (hA : At w bp 122 (pas g)) :
    Calls Tryd.prog 75 #[.agg (arr 122 (pas g)), .func (.func 88) #[] #[.pointer (some ⟨bp, 0, none⟩)]] w fun e w' => e = .returned (.int .i64 (sumN 100 (fun k => g (2 + k)))) ∧ Below w.heap.size w w' := by
  have ho' := ho
  unfold okB at ho'
  rw [Bool.and_eq_true, Bool.and_eq_true] at ho'
  have b0 := inB_true ho'.1.1
  have b1 := inB_true ho'.1.2
  have h0 : g 0 = ((g 0).toNat : Nat) := by omega
  have h1 : g 1 = ((g 1).toNat : Nat) := by omega
  refine sumGrass_seq (α := Cell (g 0).toNat (g 1).toNat) g hg (fun k hk => (ok_grass ho k hk).1) (fun c => c.1) (fun c => ⟨by have := c.2.1; omega, by have := c.2.2; omega⟩) bp 122 (pas g)
    (enters_of Tryd.func88 (by kernel_rfl) rfl) (N := (g 0).toNat * (g 1).toNat) ?_ _ (fun xs hS => ?_) w hA
    (fun W1 hA1 => cells_stops Fence.wide 2 trivial rfl (by omega) bp (g 0).toNat (g 1).toNat (by omega) (by omega) g h0 h1 W1 hA1)
  · have := Nat.mul_le_mul (show (g 0).toNat ≤ 10 by omega) (show (g 1).toNat ≤ 10 by omega)
    omega
  · rw [show xs.map (fun c => c.1) = upto (g 0).toNat ((g 0).toNat * (g 1).toNat) from hS]
    exact sumL_all ho _ _ h0 h1 (by omega) (by omega)

end Go.Proofs.YtdlfhomnlhdacaaDoor
