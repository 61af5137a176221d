/-
  A spot out of a reading.
-/
import Derived.Test.YtdlfhomnlhdacaaDoorToSpot
import Derived.Test.YtdlfhomnlhdacaaDoorListC
namespace Go.Proofs.YtdlfhomnlhdacaaDoor
open Go Go.RowKit Go.BigFrame Go.ChangeShapes Go.WideShapes Go.Deep

section
variable {H : Type} {enc : TypeId × Value → H} {w : World} {base : Nat} {spare : Nat → Bool} {held : Bool}
set_option maxRecDepth 100000 in
theorem spot_cells {fuel : Nat} {cs : List Value} {x : DataW H × List MemPlace} (h : DataW.trod enc Tryd.prog w base spare held fuel 36 cs = some x) :
    ∃ p q : Int, cs = [.int .i8 p, .int .i8 q] ∧ (-128 ≤ p ∧ p ≤ 127) ∧ (-128 ≤ q ∧ q ≤ 127) := by
  obtain ⟨xs, n, -, -, hlen, hxl, hf⟩ := DataW.trod_struct Tryd.underlying36 h
  have e : Tryd.prog.cellsOf 36 = 2 := by kernel_rfl
  have e8 : Tryd.prog.cellsOf 22 = 1 := by kernel_rfl
  rw [e] at hlen
  match cs, hlen with
  | [c0, c1], _ =>
    match xs, hxl with
    | [y0, y1], _ =>
      have h0 := hf 0 _ rfl
      have h1 := hf 1 _ rfl
      change DataW.trod _ _ _ _ _ _ _ 22 ((List.drop 0 [c0, c1]).take (Tryd.prog.cellsOf 22)) = some y0 at h0
      change DataW.trod _ _ _ _ _ _ _ 22 ((List.drop 1 [c0, c1]).take (Tryd.prog.cellsOf 22)) = some y1 at h1
      rw [e8] at h0 h1
      obtain ⟨p, hp, bp⟩ := trod_num Tryd.underlying22 h0
      obtain ⟨q, hq, bq⟩ := trod_num Tryd.underlying22 h1
      simp at hp hq
      exact ⟨p, q, by rw [hp, hq], has_i8 bp, has_i8 bq⟩
end
end Go.Proofs.YtdlfhomnlhdacaaDoor
