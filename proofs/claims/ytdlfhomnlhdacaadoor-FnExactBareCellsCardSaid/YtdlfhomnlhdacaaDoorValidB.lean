/-
  The document's 'valid' both ways: row by row over all 100 places, or cell by cell over the pasture's own and nothing behind them.
-/
import Derived.Test.YtdlfhomnlhdacaaDoorValid
namespace Go.Proofs.YtdlfhomnlhdacaaDoor
open Go Go.RowKit

theorem isB_iff {g : Nat → Int} {W H x y : Nat} (hg0 : g 0 = W) (hg1 : g 1 = H) : isB g x y = true ↔ x < W ∧ y < H := by
  simp only [isB, inB, Bool.and_eq_true, decide_eq_true_eq, hg0, hg1]; omega
theorem upto_mem {W H x y : Nat} (h : (x, y) ∈ upto W (W * H)) : x < W ∧ y < H := by
  unfold upto at h
  obtain ⟨i, hi, e⟩ := List.mem_map.1 h
  have hi := List.mem_range.1 hi
  unfold cellAt at e
  have e1 : i % W = x := congrArg Prod.fst e
  have e2 : i / W = y := congrArg Prod.snd e
  have hW : 0 < W := by
    cases W with
    | zero => simp at hi
    | succ n => omega
  exact ⟨by rw [← e1]; exact Nat.mod_lt _ hW, by rw [← e2]; exact Nat.div_lt_of_lt_mul hi⟩

theorem cellOk_iff {g : Nat → Int} {W H x y : Nat} (hg0 : g 0 = W) (hg1 : g 1 = H) : cellOk g y x = true ↔ (0 ≤ g (2 + (y * 10 + x)) ∧ g (2 + (y * 10 + x)) ≤ 1000) ∧ (g (2 + (y * 10 + x)) = 0 ∨ (x < W ∧ y < H)) := by
  have e : 2 + y * 10 + x = 2 + (y * 10 + x) := by omega
  unfold cellOk
  rw [e, Bool.and_eq_true, Bool.or_eq_true, isB_iff hg0 hg1]
  simp only [inB, decide_eq_true_eq]
  omega

theorem cells_grass {g : Nat → Int} {W H : Nat} (hg0 : g 0 = W) (hg1 : g 1 = H) (hW : W ≤ 10) (hH : H ≤ 10) :
    (∀ y, y < 10 → ∀ x, x < 10 → cellOk g y x = true) ↔ grassB g W H = true := by
  unfold grassB
  rw [Bool.and_eq_true, List.all_eq_true, eqTo_iff]
  constructor
  · intro h
    refine ⟨fun s hs => ?_, fun k hk => ?_⟩
    · obtain ⟨x, y⟩ := s
      obtain ⟨hx, hy⟩ := upto_mem hs
      exact inB_yes ((cellOk_iff hg0 hg1).1 (h y (by omega) x (by omega))).1
    · have hx : k % 10 < 10 := Nat.mod_lt _ (by omega)
      have ek : k / 10 * 10 + k % 10 = k := by omega
      have hr := restAt_of (g := g) (l := upto W (W * H)) (x := k % 10) (y := k / 10) hx
      rw [ek] at hr
      rw [hr]
      split
      · rfl
      · rename_i hn
        have hc := ((cellOk_iff hg0 hg1).1 (h (k / 10) (by omega) (k % 10) hx)).2
        rw [ek] at hc
        rcases hc with hc | hc
        · exact hc
        · exact absurd (mem_upto hc.1 hc.2) hn
  · rintro ⟨h1, h2⟩ y hy x hx
    rw [cellOk_iff hg0 hg1]
    by_cases hin : x < W ∧ y < H
    · have := inB_true (h1 _ (mem_upto hin.1 hin.2))
      exact ⟨this, .inr hin⟩
    · have hr := h2 (y * 10 + x) (by omega)
      rw [restAt_of hx, if_neg (fun hm => hin (upto_mem hm))] at hr
      exact ⟨by omega, .inl hr⟩

theorem okB_eq (g : Nat → Int) : okB g = validB g := by
  unfold okB validB
  cases b0 : inB 1 10 (g 0)
  · rfl
  cases b1 : inB 1 10 (g 1)
  · rfl
  have h0 := inB_true b0
  have h1 := inB_true b1
  have hg0 : g 0 = ((g 0).toNat : Int) := by omega
  have hg1 : g 1 = ((g 1).toNat : Int) := by omega
  have key := cells_grass hg0 hg1 (by omega) (by omega)
  simp only [Bool.true_and]
  rw [Bool.eq_iff_iff, Bool.and_eq_true, ← key, List.all_eq_true]
  unfold hurB
  rw [List.all_eq_true]
  constructor
  · intro h
    have h' : ∀ y, y < 10 → (∀ x, x < 10 → cellOk g y x = true) ∧ badE g y = false ∧ badS g y = false := fun y hy => by
      have hr := h y (List.mem_range.2 hy)
      unfold rowOk at hr
      rw [Bool.and_eq_true, Bool.and_eq_true, List.all_eq_true] at hr
      exact ⟨fun x hx => hr.1.1 x (List.mem_range.2 hx), by simpa using hr.1.2, by simpa using hr.2⟩
    exact ⟨fun y hy => (h' y hy).1, fun y hy => by have := h' y (List.mem_range.1 hy); simp [this.2.1, this.2.2]⟩
  · rintro ⟨h1, h2⟩ y hy
    have hy' := List.mem_range.1 hy
    have h3 := h2 y hy
    rw [Bool.and_eq_true] at h3
    unfold rowOk
    rw [Bool.and_eq_true, Bool.and_eq_true, List.all_eq_true]
    exact ⟨⟨fun x hx => h1 y hy' x (List.mem_range.1 hx), h3.1⟩, h3.2⟩
end Go.Proofs.YtdlfhomnlhdacaaDoor
