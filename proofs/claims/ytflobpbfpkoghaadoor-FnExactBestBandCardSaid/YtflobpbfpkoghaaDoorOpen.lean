/-
  What is common to the rows that reach the five errors: a spot out of its type; the variables' data are five.
-/
import Derived.Test.YtflobpbfpkoghaaDoorFrame
import Derived.Test.YtflobpbfpkoghaaDoorErr
import Derived.Test.YtflobpbfpkoghaaDoorRows
import Derived.Test.YtflobpbfpkoghaaDoorTie
import Derived.Test.YtflobpbfpkoghaaDoorCards
import Derived.LaidMore
import Derived.MakeChecks
import Derived.Stop.Joined
import Derived.SevenTiedAt
namespace Go.Proofs.YtflobpbfpkoghaaDoor
open Go Go.RowKit Go.ChangeShapes Go.WideShapes Go.ChangeAt

theorem own : ownKnob Tryd.prog.godebug = none := by kernel_rfl

theorem trodVars_length {H : Type} {enc : TypeId × Value → H} {P : Program} {w : World} {sp : Nat → Bool} : ∀ {ns : List String} {gs : List (DataW H)} {p : List MemPlace}, DataW.TrodVars enc P w sp ns gs p → gs.length = ns.length
  | [], [], _, _ => rfl
  | [], _ :: _, _, h => h.elim
  | _ :: _, [], _, h => h.elim
  | _ :: _, _ :: _, _, ⟨_, _, _, _, _, _, _, _, _, _, hs, _⟩ => congrArg (· + 1) (trodVars_length hs)
theorem many_of {α : Type} {l : List α} (h : l.length = 6) : ∃ x0 x1 x2 x3 x4 x5, l = [x0, x1, x2, x3, x4, x5] := by
  match l, h with
  | [x0, x1, x2, x3, x4, x5], _ => exact ⟨x0, x1, x2, x3, x4, x5, rfl⟩
end Go.Proofs.YtflobpbfpkoghaaDoor
