/-
  '==' on rows of integers, rows of such rows, and pastures.
-/
import Derived.Test.YtlogejejmoepdaaTypes
import Derived.ChangeKeysEq
import Derived.Laws.StructEq
namespace Go.Proofs.Ytlogejejmoepdaa
open Go Go.RowKit
variable {P : Program}

theorem run_part_cell {e : TypeId} {κ : IntKind} (hu : P.underlying e = some (.int κ)) {n i : Nat} {f : Nat → Value} (hi : i < n) (W : World) : (part e (arr n f) i).run P W = .ok (f i) W := by
  have hagg : (isAgg e).run P W = .ok false W := by
    unfold isAgg; rw [Sem.run_bind, run_underlying hu W]; rfl
  simp only [part, Sem.run_bind, hagg, Result.andThen_ok, Bool.false_eq_true, if_false, arr_at hi, Sem.run_pure]
theorem run_part_row {e : TypeId} {m : Nat} (hT : RowT P e m) {n i : Nat} {f : Nat → Value} (hi : i + m ≤ n) (W : World) : (part e (arr n f) i).run P W = .ok (.agg (arr m (fun k => f (i + k)))) W := by
  obtain ⟨⟨d, hu, hd⟩, hm⟩ := hT
  have hagg : (isAgg e).run P W = .ok true W := by
    unfold isAgg; rw [Sem.run_bind, run_underlying hu W]; cases d <;> simp_all [TypeDesc.isRow]
  have hsz : (sizeOf e).run P W = .ok m W := by
    cases hq : P.info? e with
    | none => simp [hq] at hm
    | some i => simp [hq] at hm; simp [sizeOf, typeInfo, hq, hm]
  simp only [part, Sem.run_bind, hagg, Result.andThen_ok, if_true, hsz, Sem.run_pure, arr_extract hi]

theorem run_eqItems_ints (d : Nat) {e : TypeId} {κ : IntKind} (hu : P.underlying e = some (.int κ)) (hc : P.cellsOf e = 1) {n : Nat} (f g : Nat → Value) (a b : Nat → Int)
    (hf : ∀ k, k < n → f k = .int κ (a k)) (hg : ∀ k, k < n → g k = .int κ (b k)) (W : World) : ∀ is : List Nat, (∀ i ∈ is, i < n) →
    (Op.eqItems (d + 1) e (P.cellsOf e) (arr n f) (arr n g) is).run P W = .ok (is.all fun i => a i == b i) W
  | [], _ => by simp [Op.eqItems]
  | i :: is, h => by
    have hi := h i (by simp)
    simp only [Op.eqItems, Sem.run_bind, hc, Nat.mul_one, run_part_cell hu hi, Result.andThen_ok, hf i hi, hg i hi, run_equalIn_int W d e κ κ _ _ hu]
    cases hab : (a i == b i)
    · simp [hab]
    · have := run_eqItems_ints d hu hc f g a b hf hg W is (fun j hj => h j (by simp [hj]))
      rw [hc] at this
      simp [this, hab]

/-- Are the first n the same? -/
def eqTo (n : Nat) (a b : Nat → Int) : Bool := (List.range n).all fun i => a i == b i
theorem eqTo_iff {n : Nat} {a b : Nat → Int} : eqTo n a b = true ↔ ∀ k, k < n → a k = b k := by simp [eqTo]
theorem eqTo_congr {n : Nat} {a b a' b' : Nat → Int} (h : ∀ k, k < n → a k = a' k) (h' : ∀ k, k < n → b k = b' k) : eqTo n a b = eqTo n a' b' := by
  rw [Bool.eq_iff_iff, eqTo_iff, eqTo_iff]
  constructor
  · intro hh k hk; rw [← h k hk, ← h' k hk]; exact hh k hk
  · intro hh k hk; rw [h k hk, h' k hk]; exact hh k hk

theorem run_equalIn_row (d : Nat) {t e : TypeId} {κ : IntKind} {n : Nat} (ht : P.underlying t = some (.array n e)) (hu : P.underlying e = some (.int κ)) (hc : P.cellsOf e = 1) (f g : Nat → Value) (a b : Nat → Int)
    (hf : ∀ k, k < n → f k = .int κ (a k)) (hg : ∀ k, k < n → g k = .int κ (b k)) (W : World) : (Op.equalIn (d + 2) t (.agg (arr n f)) (.agg (arr n g))).run P W = .ok (eqTo n a b) W := by
  obtain ⟨i, hi⟩ := info_of_underlying hu
  rw [run_equalIn_array W (d + 1) _ _ ht hi, run_eqItems_ints d hu hc f g a b hf hg W _ (by simp)]
  rfl

theorem run_eqItems_rows (d : Nat) {t e : TypeId} {κ : IntKind} {m : Nat} (ht : P.underlying t = some (.array m e)) (hT : RowT P t m) (hcm : P.cellsOf t = m) (hu : P.underlying e = some (.int κ)) (hc : P.cellsOf e = 1) {n : Nat} (f g : Nat → Value) (a b : Nat → Int)
    (hf : ∀ k, k < n * m → f k = .int κ (a k)) (hg : ∀ k, k < n * m → g k = .int κ (b k)) (W : World) : ∀ is : List Nat, (∀ i ∈ is, i < n) →
    (Op.eqItems (d + 2) t (P.cellsOf t) (arr (n * m) f) (arr (n * m) g) is).run P W = .ok (is.all fun i => eqTo m (fun k => a (i * m + k)) (fun k => b (i * m + k))) W
  | [], _ => by simp [Op.eqItems]
  | i :: is, h => by
    have hi := h i (by simp)
    have hle : i * m + m ≤ n * m := by
      have := Nat.mul_le_mul_right m (show i + 1 ≤ n by omega)
      rw [Nat.add_mul, Nat.one_mul] at this; exact this
    have hrow := run_equalIn_row d ht hu hc (fun k => f (i * m + k)) (fun k => g (i * m + k)) (fun k => a (i * m + k)) (fun k => b (i * m + k)) (fun k hk => hf _ (by omega)) (fun k hk => hg _ (by omega)) W
    simp only [Op.eqItems, Sem.run_bind, hcm, run_part_row hT hle, Result.andThen_ok, hrow]
    cases hab : eqTo m (fun k => a (i * m + k)) (fun k => b (i * m + k))
    · simp [hab]
    · have := run_eqItems_rows d ht hT hcm hu hc f g a b hf hg W is (fun j hj => h j (by simp [hj]))
      rw [hcm] at this
      simp [this, hab]

theorem all_rows {n m : Nat} (a b : Nat → Int) (hm : 0 < m) : ((List.range n).all fun i => eqTo m (fun k => a (i * m + k)) (fun k => b (i * m + k))) = eqTo (n * m) a b := by
  rw [Bool.eq_iff_iff, eqTo_iff, List.all_eq_true]
  constructor
  · intro h k hk
    have hi : k / m < n := Nat.div_lt_of_lt_mul (by rw [Nat.mul_comm]; exact hk)
    have := (eqTo_iff.1 (h (k / m) (by simpa using hi))) (k % m) (Nat.mod_lt _ hm)
    have e : k / m * m + k % m = k := by rw [Nat.mul_comm]; exact Nat.div_add_mod k m
    rwa [e] at this
  · intro h i hi
    rw [eqTo_iff]
    intro k hk
    apply h
    have hi : i < n := by simpa using hi
    have := Nat.mul_le_mul_right m (show i + 1 ≤ n by omega)
    rw [Nat.add_mul, Nat.one_mul] at this; omega

theorem run_equalIn_rows (d : Nat) {u t e : TypeId} {κ : IntKind} {n m : Nat} (hu' : P.underlying u = some (.array n t)) (ht : P.underlying t = some (.array m e)) (hT : RowT P t m) (hcm : P.cellsOf t = m) (hu : P.underlying e = some (.int κ)) (hc : P.cellsOf e = 1) (hm : 0 < m) (f g : Nat → Value) (a b : Nat → Int)
    (hf : ∀ k, k < n * m → f k = .int κ (a k)) (hg : ∀ k, k < n * m → g k = .int κ (b k)) (W : World) : (Op.equalIn (d + 3) u (.agg (arr (n * m) f)) (.agg (arr (n * m) g))).run P W = .ok (eqTo (n * m) a b) W := by
  obtain ⟨i, hi⟩ := info_of_underlying ht
  rw [run_equalIn_array W (d + 2) _ _ hu' hi, run_eqItems_rows d ht hT hcm hu hc f g a b hf hg W _ (by simp), all_rows a b hm]

end Go.Proofs.Ytlogejejmoepdaa
