/-
  What the rows of texts take out of their condition: the table of powers.
-/
import Derived.Test.YtcdpdcjdjcbhcaaDoorOpen
import Derived.Test.YtcdpdcjdjcbhcaaDoorTextC
import Derived.Stop.LaidErr
import Derived.Lib.LaidTab
namespace Go.Proofs.YtcdpdcjdjcbhcaaDoor
open Go Go.RowKit Go.ChangeShapes Go.WideShapes Go.ChangeAt

theorem tabP_data {H : Type} : (Rows.laid_internal_strconv_uint64pow10 : DataW H) = Lib.tabData .u64 Lib.pow10Tab := rfl
theorem tabP_of_list {W : World} {x y : String × DataW Unit} {r : List (String × DataW Unit)} (h : laidMet Tryd.prog (x :: y :: ("internal/strconv.uint64pow10", Rows.laid_internal_strconv_uint64pow10) :: r) W) : TabP W :=
  Lib.tabIs_of_head (rest := r) (k := .u64) (zs := Lib.pow10Tab) (n := 20) (t := 209) (e := 191) tabP_g (by kernel_rfl) Tryd.underlying209 Tryd.underlying191 (by kernel_rfl) (by kernel_rfl) (by have h' := h.tail.tail; rw [tabP_data] at h'; exact h')
theorem tabP_of_laid {W : World} (h : laidMetH Tryd.prog Rows.fnExactSightsTextRow.laid W) : TabP W := by
  rw [MakeChecks.laidMetH_plain _ _ _ (by kernel_rfl)] at h
  exact tabP_of_list h
end Go.Proofs.YtcdpdcjdjcbhcaaDoor
