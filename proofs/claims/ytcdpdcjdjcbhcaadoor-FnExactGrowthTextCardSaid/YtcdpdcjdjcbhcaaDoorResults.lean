/-
  PLAIN LAWS: two results, the first in memory.
-/
import Derived.Test.YtcdpdcjdjcbhcaaDoorKit
import Derived.Laws.ResultCell
namespace Go.Proofs.YtcdpdcjdjcbhcaaDoor
open Go Go.RowKit Go.BigFrame

theorem loadVar_at {P : Program} {ty : TypeId} {W : World} {b n : Nat} {f : Nat → Value} (hg : At W b n f) (hT : RowT P ty n) : (loadVar ty ⟨b, 0, none⟩).run P W = .ok (.agg (arr n f)) W := by
  obtain ⟨⟨d, hu, hd⟩, hm⟩ := hT
  obtain ⟨t, hg⟩ := hg
  exact run_loadVar_row W b t ty (arr n f) (0, 0) d hg hu (by cases d <;> simp_all [TypeDesc.isRow]) (by rw [hm, arr_size])
/-- Two results, the first in memory. -/
theorem results_at2 {P : Program} {fn : Func} {p q : Tmp} {ty : TypeId} (h : fn.results = #[.cell p ty, .tmp q]) (tmps : Array Value) {W : World} {b n : Nat} {f : Nat → Value}
    (hp : tmps.getD p undef = .pointer (some ⟨b, 0, none⟩)) (hg : At W b n f) (hT : RowT P ty n) (v : Value) (hq : tmps.getD q undef = v) :
    (results fn tmps).run P W = .ok (.tuple #[.agg (arr n f), v]) W := by
  rw [results_cell_tmp h, hp]
  have : (asAddr (.pointer (some ⟨b, 0, none⟩))).run P W = .ok ⟨b, 0, none⟩ W := rfl
  rw [this]
  simp only [Result.andThen_ok, loadVar_at hg hT, hq]

end Go.Proofs.YtcdpdcjdjcbhcaaDoor
