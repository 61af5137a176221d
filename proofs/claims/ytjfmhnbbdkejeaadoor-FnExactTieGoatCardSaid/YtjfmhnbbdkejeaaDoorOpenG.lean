/-
  A goat out of its type.
-/
import Derived.Test.YtjfmhnbbdkejeaaDoorList
namespace Go.Proofs.YtjfmhnbbdkejeaaDoor
open Go Go.RowKit Go.ChangeShapes Go.WideShapes Go.ChangeAt

def tyG (k : Nat) : TypeId := if k < 4 then 22 else if k < 6 then 23 else 22
set_option maxRecDepth 100000 in
theorem open_goat {W : World} {base : Nat} {v : Value} (h : Value.okWide Tryd.prog W .any base 33 v) : ∃ g, FitsG g ∧ v = .agg (arr 7 (gt g)) := by
  unfold Value.okWide at h
  rw [Tryd.underlying33] at h
  obtain ⟨cs, rfl, hsz, ts, hts, -, hcell⟩ := h
  have e1 : Tryd.prog.cellsOf 33 = 7 := by kernel_rfl
  have e2 : Tryd.prog.cellTypes Tryd.prog.depth 33 = some ((List.range 7).map tyG) := by kernel_rfl
  rw [e1] at hsz
  obtain rfl : (List.range 7).map tyG = ts := Option.some.inj (e2.symm.trans hts)
  have key : ∀ k, k < 7 → ∃ v, cs[k]? = some v ∧ Cell.okWide Tryd.prog W .any base (tyG k) v := fun k hk => by
    have hv : cs[k]? = some cs[k] := Array.getElem?_eq_getElem (by omega)
    obtain ⟨u, hu, hc⟩ := hcell k _ hv
    have hlen : ((List.range 7).map tyG).length = 7 := by simp
    rw [hlen, Nat.mod_eq_of_lt hk, List.getElem?_map, List.getElem?_range hk] at hu
    obtain rfl : tyG k = u := by simpa using hu
    exact ⟨_, hv, hc⟩
  have k8 : ∀ k, k < 7 → (k < 4 ∨ k = 6) → ∃ n, cs[k]? = some (.int .i8 n) ∧ -128 ≤ n ∧ n ≤ 127 := fun k hk hh => by
    obtain ⟨v, hv, hc⟩ := key k hk
    have e : tyG k = 22 := by
      unfold tyG
      rcases hh with hh | hh
      · rw [if_pos hh]
      · rw [if_neg (by omega), if_neg (by omega)]
    rw [e] at hc
    obtain ⟨n, rfl, hn⟩ := cell_int Tryd.underlying22 hc
    exact ⟨n, hv, has_i8 hn⟩
  have k16 : ∀ k, 4 ≤ k → k < 6 → ∃ n, cs[k]? = some (.int .i16 n) ∧ -32768 ≤ n ∧ n ≤ 32767 := fun k hk hk' => by
    obtain ⟨v, hv, hc⟩ := key k (by omega)
    have e : tyG k = 23 := by unfold tyG; rw [if_neg (by omega), if_pos hk']
    rw [e] at hc
    obtain ⟨n, rfl, hn⟩ := cell_int Tryd.underlying23 hc
    exact ⟨n, hv, has_i16 hn⟩
  refine ⟨fun k => numOf cs[k]?, ⟨?_, ?_, ?_⟩, congrArg Value.agg (arr_ext hsz fun k hk => ?_)⟩
  · intro k hk; obtain ⟨n, hn, hb⟩ := k8 k (by omega) (.inl hk); simp only [hn, numOf]; exact hb
  · intro k hk hk'; obtain ⟨n, hn, hb⟩ := k16 k hk hk'; simp only [hn, numOf]; exact hb
  · obtain ⟨n, hn, hb⟩ := k8 6 (by omega) (.inr rfl); simp only [hn, numOf]; exact hb
  · by_cases h2 : k < 4
    · obtain ⟨n, hn, -⟩ := k8 k hk (.inl h2); rw [hn]; simp [gt, gk, h2, hn, numOf]
    · by_cases h3 : k < 6
      · obtain ⟨n, hn, -⟩ := k16 k (by omega) h3; rw [hn]; simp [gt, gk, h2, h3, hn, numOf]
      · obtain rfl : k = 6 := by omega
        obtain ⟨n, hn, -⟩ := k8 6 (by omega) (.inr rfl); rw [hn]; simp [gt, gk, hn, numOf]
end Go.Proofs.YtjfmhnbbdkejeaaDoor
