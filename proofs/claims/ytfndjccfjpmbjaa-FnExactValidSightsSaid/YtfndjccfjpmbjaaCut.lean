/-
  PLAIN LAWS: the first k of a list.
-/
import Derived.Test.YtfndjccfjpmbjaaOwn
namespace Go.Proofs.Ytfndjccfjpmbjaa
open Go Go.RowKit

theorem run_cutTo {P : Program} {t e : TypeId} (hu : P.underlying t = some (.slice e)) {m : Nat} (hz : (P.info? e).map (·.size) = some m) (b off n c k : Nat) (hk : k ≤ c) (W : World) :
    (Instr.sliceAt t (.slice (some ⟨b, off, none⟩) n c) none (some (.int .i64 k)) none).run P W = .ok (.slice (some ⟨b, off, none⟩) k c) W := by
  obtain ⟨ie, hie, hq⟩ := Option.map_eq_some_iff.1 hz
  have hle : (k : Int) ≤ c := by omega
  have hb1 : (Instr.sliceBound (.int .i64 k) c .sliceAcap).run P W = .ok k W := by
    simp [Instr.sliceBound, asIntOf, hle]
  have hr : (Instr.slice t (.slice (some ⟨b, off, none⟩) n c) none (some (.int .i64 k)) none).run P W = .ok (.slice (some ⟨b, off, none⟩) k c) W := by
    simp [Instr.slice, Instr.sliceBounds, run_underlying hu, sizeOf, typeInfo, hie, hq, hb1, add_any]
  unfold Instr.sliceAt
  simp only [Sem.run_bind, run_underlying hu, Result.andThen_ok, hr]
end Go.Proofs.Ytfndjccfjpmbjaa
