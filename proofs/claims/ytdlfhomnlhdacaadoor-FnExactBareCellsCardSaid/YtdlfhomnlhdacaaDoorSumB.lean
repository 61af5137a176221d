/-
  Sums of grass.
-/
import Derived.Test.YtdlfhomnlhdacaaDoorRange
import Derived.Test.YtdlfhomnlhdacaaDoorAsked
namespace Go.Proofs.YtdlfhomnlhdacaaDoor
open Go Go.RowKit Go.Shelf Go.BigFrame

/-- f 0 + f 1 + .. , n of them. -/
def sumN : Nat → (Nat → Int) → Int
  | 0, _ => 0
  | n + 1, f => sumN n f + f n
theorem sumN_congr {n : Nat} {f g : Nat → Int} (h : ∀ k, k < n → f k = g k) : sumN n f = sumN n g := by
  induction n with
  | zero => rfl
  | succ n ih => rw [sumN, sumN, ih (fun k hk => h k (by omega)), h n (by omega)]
theorem sumN_add (a b : Nat) (f : Nat → Int) : sumN (a + b) f = sumN a f + sumN b (fun k => f (a + k)) := by
  induction b with
  | zero => simp [sumN]
  | succ b ih => rw [← Nat.add_assoc, sumN, ih, sumN]; omega
theorem sumN_mul (h w : Nat) (f : Nat → Int) : sumN (h * w) f = sumN h (fun y => sumN w (fun x => f (y * w + x))) := by
  induction h with
  | zero => simp [sumN]
  | succ h ih => rw [Nat.add_mul, Nat.one_mul, sumN_add, ih, sumN]
theorem sumN_none {a b : Nat} {f : Nat → Int} (hab : a ≤ b) (h : ∀ k, a ≤ k → k < b → f k = 0) : sumN b f = sumN a f := by
  obtain ⟨d, rfl⟩ := Nat.exists_eq_add_of_le hab
  rw [sumN_add]
  have : ∀ d, (∀ k, k < d → f (a + k) = 0) → sumN d (fun k => f (a + k)) = 0 := fun d => by
    induction d with
    | zero => intro _; rfl
    | succ d ih => intro hz; rw [sumN, ih (fun k hk => hz k (by omega)), hz d (by omega)]; rfl
  rw [this d (fun k hk => h (a + k) (by omega) (by omega))]
  omega
theorem sumN_bounds {n : Nat} {f : Nat → Int} {m : Int} (hm : 0 ≤ m) (h : ∀ k, k < n → 0 ≤ f k ∧ f k ≤ m) : 0 ≤ sumN n f ∧ sumN n f ≤ m * n := by
  induction n with
  | zero => simp [sumN]
  | succ n ih =>
    have i := ih (fun k hk => h k (by omega))
    have j := h n (by omega)
    rw [sumN, show ((n + 1 : Nat) : Int) = (n : Int) + 1 by omega, Int.mul_add, Int.mul_one]
    omega

theorem ok_grass {g : Nat → Int} (ho : okB g = true) : ∀ k, k < 100 → (0 ≤ g (2 + k) ∧ g (2 + k) ≤ 1000) ∧ (g (2 + k) ≠ 0 → isB g ((k % 10 : Nat) : Int) ((k / 10 : Nat) : Int) = true) := fun k hk => by
  unfold okB at ho
  rw [Bool.and_eq_true, List.all_eq_true] at ho
  have hr := ho.2 (k / 10) (List.mem_range.2 (by omega))
  unfold rowOk at hr
  rw [Bool.and_eq_true, Bool.and_eq_true, List.all_eq_true] at hr
  have hc := hr.1.1 (k % 10) (List.mem_range.2 (by omega))
  unfold cellOk at hc
  have e : 2 + k / 10 * 10 + k % 10 = 2 + k := by omega
  rw [e, Bool.and_eq_true] at hc
  refine ⟨inB_true hc.1, fun hne => ?_⟩
  have h1 := inB_true hc.1
  have h2 := hc.2
  rw [Bool.or_eq_true] at h2
  rcases h2 with h2 | h2
  · have := of_decide_eq_true h2; omega
  · exact h2

/-- The grass of some cells. -/
def sumL (g : Nat → Int) (l : List (Nat × Nat)) : Int := (l.map fun s => g (2 + s.2 * 10 + s.1)).sum
theorem sumL_snoc (g : Nat → Int) (l : List (Nat × Nat)) (u v : Nat) : sumL g (l ++ [(u, v)]) = sumL g l + g (2 + v * 10 + u) := by simp [sumL]
theorem sumL_bounds {g : Nat → Int} (hb : ∀ k, k < 100 → 0 ≤ g (2 + k) ∧ g (2 + k) ≤ 1000) (l : List (Nat × Nat)) (hl : ∀ s ∈ l, s.1 < 10 ∧ s.2 < 10) : 0 ≤ sumL g l ∧ sumL g l ≤ 1000 * l.length := by
  induction l with
  | nil => simp [sumL]
  | cons s l ih =>
    have i := ih (fun t ht => hl t (List.mem_cons_of_mem _ ht))
    have j := hl s List.mem_cons_self
    have k := hb (s.2 * 10 + s.1) (by omega)
    rw [← Nat.add_assoc] at k
    have e : sumL g (s :: l) = g (2 + s.2 * 10 + s.1) + sumL g l := by simp [sumL]
    rw [e, List.length_cons]
    omega
theorem sumL_all {g : Nat → Int} (ho : okB g = true) (W H : Nat) (hg0 : g 0 = W) (hg1 : g 1 = H) (hW : 1 ≤ W ∧ W ≤ 10) (hH : H ≤ 10) : sumL g (upto W (W * H)) = sumN 100 (fun k => g (2 + k)) := by
  have e1 : ∀ n : Nat, ∀ f : Nat → Int, ((List.range n).map f).sum = sumN n f := fun n f => by
    induction n with
    | zero => rfl
    | succ n ih => simp [List.range_succ, sumN, ih]
  have z := ok_grass ho
  have hz : ∀ x y : Nat, x < 10 → y < 10 → (W ≤ x ∨ H ≤ y) → g (2 + (y * 10 + x)) = 0 := fun x y hx hy h => by
    have := (z (y * 10 + x) (by omega)).2
    by_cases hne : g (2 + (y * 10 + x)) = 0
    · exact hne
    · have hi := this hne
      rw [show (y * 10 + x) % 10 = x by omega, show (y * 10 + x) / 10 = y by omega] at hi
      have hb := isB_bounds ho hi
      omega
  unfold sumL upto
  rw [List.map_map, e1, Nat.mul_comm W H, sumN_mul, show (100 : Nat) = 10 * 10 from rfl, sumN_mul]
  rw [sumN_none (a := H) (b := 10) hH (fun y h1 h2 => by
    rw [sumN_none (a := 0) (b := 10) (by omega) (fun x _ hx => hz x y hx h2 (.inr h1))]; rfl)]
  refine sumN_congr fun y hy => ?_
  rw [sumN_none (a := W) (b := 10) hW.2 (fun x h1 h2 => hz x y h2 (by omega) (.inl h1))]
  refine sumN_congr fun x hx => ?_
  simp only [Function.comp_apply, cellAt_row hx]
  congr 1; omega

theorem sum_start (g : Nat → Int) (k : Nat) (hk : k < 1) : upd (fun _ => Value.int .i64 0) 0 (.int .i64 0) k = .int .i64 (sumL g []) := by
  obtain rfl : k = 0 := by omega
  rfl

end Go.Proofs.YtdlfhomnlhdacaaDoor
