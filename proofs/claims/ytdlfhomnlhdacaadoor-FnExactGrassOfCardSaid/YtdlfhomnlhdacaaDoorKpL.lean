/-
  What the rounds of a range keep: some blocks.
-/
import Derived.Test.YtdlfhomnlhdacaaDoorRange
namespace Go.Proofs.YtdlfhomnlhdacaaDoor
open Go Go.RowKit Go.Shelf Go.BigFrame

/-- What a round that goes on keeps: some blocks. -/
def KpL (K : Blocks) (A B : World) : Prop := ∀ e ∈ K, At A e.1 e.2.1 e.2.2 → At B e.1 e.2.1 e.2.2
theorem kpL_t {K : Blocks} {A B C : World} (h : KpL K A B) (k : KpL K B C) : KpL K A C := fun e he x => k e he (h e he x)
theorem kpL_b {K : Blocks} (W : World) (l : Nat) (o o' : Obj) (h : W.heap[l]? = some o) (ho : o.isCells = false) : KpL K W (W.putObj l o') := fun e _ hA =>
  hA.grown (grownBy_putObj' W l o') (fun r e => by cases e; exact ⟨o, h, ho⟩)

end Go.Proofs.YtdlfhomnlhdacaaDoor
