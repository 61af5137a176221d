/-
  '==' on rows of integers, rows of such rows, and pastures.
-/
import Derived.Test.YtcdpdcjdjcbhcaaDoorTypes
import Derived.ChangeKeysEq
import Derived.Laws.StructEq
namespace Go.Proofs.YtcdpdcjdjcbhcaaDoor
open Go Go.RowKit
variable {P : Program}

theorem run_part_cell {e : TypeId} {κ : IntKind} (hu : P.underlying e = some (.int κ)) {n i : Nat} {f : Nat → Value} (hi : i < n) (W : World) : (part e (arr n f) i).run P W = .ok (f i) W := by
  have hagg : (isAgg e).run P W = .ok false W := by
    unfold isAgg; rw [Sem.run_bind, run_underlying hu W]; rfl
  simp only [part, Sem.run_bind, hagg, Result.andThen_ok, Bool.false_eq_true, if_false, arr_at hi, Sem.run_pure]
theorem run_part_row {e : TypeId} {m : Nat} (hT : RowT P e m) {n i : Nat} {f : Nat → Value} (hi : i + m ≤ n) (W : World) : (part e (arr n f) i).run P W = .ok (.agg (arr m (fun k => f (i + k)))) W := by
  obtain ⟨⟨d, hu, hd⟩, hm⟩ := hT
  have hagg : (isAgg e).run P W = .ok true W := by
    unfold isAgg; rw [Sem.run_bind, run_underlying hu W]; cases d <;> simp_all [TypeDesc.isRow]
  have hsz : (sizeOf e).run P W = .ok m W := by
    cases hq : P.info? e with
    | none => simp [hq] at hm
    | some i => simp [hq] at hm; simp [sizeOf, typeInfo, hq, hm]
  simp only [part, Sem.run_bind, hagg, Result.andThen_ok, if_true, hsz, Sem.run_pure, arr_extract hi]

theorem run_eqItems_ints (d : Nat) {e : TypeId} {κ : IntKind} (hu : P.underlying e = some (.int κ)) (hc : P.cellsOf e = 1) {n : Nat} (f g : Nat → Value) (a b : Nat → Int)
    (hf : ∀ k, k < n → f k = .int κ (a k)) (hg : ∀ k, k < n → g k = .int κ (b k)) (W : World) : ∀ is : List Nat, (∀ i ∈ is, i < n) →
    (Op.eqItems (d + 1) e (P.cellsOf e) (arr n f) (arr n g) is).run P W = .ok (is.all fun i => a i == b i) W
  | [], _ => by simp [Op.eqItems]
  | i :: is, h => by
    have hi := h i (by simp)
    simp only [Op.eqItems, Sem.run_bind, hc, Nat.mul_one, run_part_cell hu hi, Result.andThen_ok, hf i hi, hg i hi, run_equalIn_int W d e κ κ _ _ hu]
    cases hab : (a i == b i)
    · simp [hab]
    · have := run_eqItems_ints d hu hc f g a b hf hg W is (fun j hj => h j (by simp [hj]))
      rw [hc] at this
      simp [this, hab]

/-- Are the first n the same? -/
def eqTo (n : Nat) (a b : Nat → Int) : Bool := (List.range n).all fun i => a i == b i
theorem eqTo_iff {n : Nat} {a b : Nat → Int} : eqTo n a b = true ↔ ∀ k, k < n → a k = b k := by simp [eqTo]
theorem eqTo_congr {n : Nat} {a b a' b' : Nat → Int} (h : ∀ k, k < n → a k = a' k) (h' : ∀ k, k < n → b k = b' k) : eqTo n a b = eqTo n a' b' := by
  rw [Bool.eq_iff_iff, eqTo_iff, eqTo_iff]
  constructor
  · intro hh k hk; rw [← h k hk, ← h' k hk]; exact hh k hk
  · intro hh k hk; rw [h k hk, h' k hk]; exact hh k hk

theorem run_equalIn_row (d : Nat) {t e : TypeId} {κ : IntKind} {n : Nat} (ht : P.underlying t = some (.array n e)) (hu : P.underlying e = some (.int κ)) (hc : P.cellsOf e = 1) (f g : Nat → Value) (a b : Nat → Int)
    (hf : ∀ k, k < n → f k = .int κ (a k)) (hg : ∀ k, k < n → g k = .int κ (b k)) (W : World) : (Op.equalIn (d + 2) t (.agg (arr n f)) (.agg (arr n g))).run P W = .ok (eqTo n a b) W := by
  obtain ⟨i, hi⟩ := info_of_underlying hu
  rw [run_equalIn_array W (d + 1) _ _ ht hi, run_eqItems_ints d hu hc f g a b hf hg W _ (by simp)]
  rfl

theorem run_eqItems_rows (d : Nat) {t e : TypeId} {κ : IntKind} {m : Nat} (ht : P.underlying t = some (.array m e)) (hT : RowT P t m) (hcm : P.cellsOf t = m) (hu : P.underlying e = some (.int κ)) (hc : P.cellsOf e = 1) {n : Nat} (f g : Nat → Value) (a b : Nat → Int)
    (hf : ∀ k, k < n * m → f k = .int κ (a k)) (hg : ∀ k, k < n * m → g k = .int κ (b k)) (W : World) : ∀ is : List Nat, (∀ i ∈ is, i < n) →
    (Op.eqItems (d + 2) t (P.cellsOf t) (arr (n * m) f) (arr (n * m) g) is).run P W = .ok (is.all fun i => eqTo m (fun k => a (i * m + k)) (fun k => b (i * m + k))) W
  | [], _ => by simp [Op.eqItems]
  | i :: is, h => by
    have hi := h i (by simp)
    have hle : i * m + m ≤ n * m := by
      have := Nat.mul_le_mul_right m (show i + 1 ≤ n by omega)
      rw [Nat.add_mul, Nat.one_mul] at this; exact this
    have hrow := run_equalIn_row d ht hu hc (fun k => f (i * m + k)) (fun k => g (i * m + k)) (fun k => a (i * m + k)) (fun k => b (i * m + k)) (fun k hk => hf _ (by omega)) (fun k hk => hg _ (by omega)) W
    simp only [Op.eqItems, Sem.run_bind, hcm, run_part_row hT hle, Result.andThen_ok, hrow]
    cases hab : eqTo m (fun k => a (i * m + k)) (fun k => b (i * m + k))
    · simp [hab]
    · have := run_eqItems_rows d ht hT hcm hu hc f g a b hf hg W is (fun j hj => h j (by simp [hj]))
      rw [hcm] at this
      simp [this, hab]

theorem all_rows {n m : Nat} (a b : Nat → Int) (hm : 0 < m) : ((List.range n).all fun i => eqTo m (fun k => a (i * m + k)) (fun k => b (i * m + k))) = eqTo (n * m) a b := by
  rw [Bool.eq_iff_iff, eqTo_iff, List.all_eq_true]
  constructor
  · intro h k hk
    have hi : k / m < n := Nat.div_lt_of_lt_mul (by rw [Nat.mul_comm]; exact hk)
    have := (eqTo_iff.1 (h (k / m) (by simpa using hi))) (k % m) (Nat.mod_lt _ hm)
    have e : k / m * m + k % m = k := by rw [Nat.mul_comm]; exact Nat.div_add_mod k m
    rwa [e] at this
  · intro h i hi
    rw [eqTo_iff]
    intro k hk
    apply h
    have hi : i < n := by simpa using hi
    have := Nat.mul_le_mul_right m (show i + 1 ≤ n by omega)
    rw [Nat.add_mul, Nat.one_mul] at this; omega

theorem run_equalIn_rows (d : Nat) {u t e : TypeId} {κ : IntKind} {n m : Nat} (hu' : P.underlying u = some (.array n t)) (ht : P.underlying t = some (.array m e)) (hT : RowT P t m) (hcm : P.cellsOf t = m) (hu : P.underlying e = some (.int κ)) (hc : P.cellsOf e = 1) (hm : 0 < m) (f g : Nat → Value) (a b : Nat → Int)
    (hf : ∀ k, k < n * m → f k = .int κ (a k)) (hg : ∀ k, k < n * m → g k = .int κ (b k)) (W : World) : (Op.equalIn (d + 3) u (.agg (arr (n * m) f)) (.agg (arr (n * m) g))).run P W = .ok (eqTo (n * m) a b) W := by
  obtain ⟨i, hi⟩ := info_of_underlying ht
  rw [run_equalIn_array W (d + 2) _ _ hu' hi, run_eqItems_rows d ht hT hcm hu hc f g a b hf hg W _ (by simp), all_rows a b hm]

theorem cells_i16 : Tryd.prog.cellsOf 31 = 1 := by kernel_rfl
theorem cells_u16 : Tryd.prog.cellsOf 54 = 1 := by kernel_rfl
theorem cells_row : Tryd.prog.cellsOf 52 = 10 := by kernel_rfl

/-- '==' on [10][10]int16. -/
theorem run_equal_grass (f g : Nat → Value) (a b : Nat → Int) (hf : ∀ k, k < 100 → f k = .int .i16 (a k)) (hg : ∀ k, k < 100 → g k = .int .i16 (b k)) (W : World) (d : Nat) :
    (Op.equalIn (d + 3) 53 (.agg (arr 100 f)) (.agg (arr 100 g))).run Tryd.prog W = .ok (eqTo 100 a b) W :=
  run_equalIn_rows (n := 10) (m := 10) d Tryd.underlying53 Tryd.underlying52 (rowTab _ _ rfl) cells_row Tryd.underlying31 cells_i16 (by omega) f g a b hf hg W

/-- '==' on pastures. -/
theorem run_equal_pas (a b : Nat → Int) (W : World) :
    (Op.equalIn 10000 59 (.agg (arr 122 (pas a))) (.agg (arr 122 (pas b)))).run Tryd.prog W = .ok (eqTo 122 a b) W := by
  have hs := run_equalIn_struct (P := Tryd.prog) W 9999 59 (arr 122 (pas a)) (arr 122 (pas b)) (by rw [Program.fieldsOf, Tryd.underlying59]) (by kernel_rfl)
  rw [hs]
  have hf : (Tryd.prog.fieldsOf 59).toList = [
    { name := "Wide", type := 29, offset := 0, embedded := false, tag := "", pkgPath := "", byteOffset := 0 },
    { name := "High", type := 29, offset := 1, embedded := false, tag := "", pkgPath := "", byteOffset := 1 },
    { name := "Grass", type := 53, offset := 2, embedded := false, tag := "", pkgPath := "", byteOffset := 2 },
    { name := "East", type := 55, offset := 102, embedded := false, tag := "", pkgPath := "", byteOffset := 202 },
    { name := "South", type := 55, offset := 112, embedded := false, tag := "", pkgPath := "", byteOffset := 222 }] := by
    rw [Program.fieldsOf, Tryd.underlying59]
  rw [hf]
  have p0 := fun c => run_part_cell (P := Tryd.prog) Tryd.underlying29 (n := 122) (i := 0) (f := pas c) (by omega) W
  have p1 := fun c => run_part_cell (P := Tryd.prog) Tryd.underlying29 (n := 122) (i := 1) (f := pas c) (by omega) W
  have p2 := fun c => run_part_row (P := Tryd.prog) (rowTab 53 100 rfl) (n := 122) (i := 2) (f := pas c) (by omega) W
  have p3 := fun c => run_part_row (P := Tryd.prog) (rowTab 55 10 rfl) (n := 122) (i := 102) (f := pas c) (by omega) W
  have p4 := fun c => run_part_row (P := Tryd.prog) (rowTab 55 10 rfl) (n := 122) (i := 112) (f := pas c) (by omega) W
  have q0 := run_equalIn_int (P := Tryd.prog) W 9998 29 .i8 .i8 (a 0) (b 0) Tryd.underlying29
  have q1 := run_equalIn_int (P := Tryd.prog) W 9998 29 .i8 .i8 (a 1) (b 1) Tryd.underlying29
  have q2 := run_equal_grass (fun k => pas a (2 + k)) (fun k => pas b (2 + k)) (fun k => a (2 + k)) (fun k => b (2 + k)) (fun k hk => pas_i16 a (by omega) (by omega)) (fun k hk => pas_i16 b (by omega) (by omega)) W 9996
  have q3 := run_equalIn_row (P := Tryd.prog) (n := 10) 9997 Tryd.underlying55 Tryd.underlying54 cells_u16 (fun k => pas a (102 + k)) (fun k => pas b (102 + k)) (fun k => a (102 + k)) (fun k => b (102 + k)) (fun k hk => pas_u16 a (by omega)) (fun k hk => pas_u16 b (by omega)) W
  have q4 := run_equalIn_row (P := Tryd.prog) (n := 10) 9997 Tryd.underlying55 Tryd.underlying54 cells_u16 (fun k => pas a (112 + k)) (fun k => pas b (112 + k)) (fun k => a (112 + k)) (fun k => b (112 + k)) (fun k hk => pas_u16 a (by omega)) (fun k hk => pas_u16 b (by omega)) W
  have e0 : ∀ c : Nat → Int, pas c 0 = .int .i8 (c 0) := fun _ => rfl
  have e1 : ∀ c : Nat → Int, pas c 1 = .int .i8 (c 1) := fun _ => rfl
  simp only [Op.eqFields, ne_eq, Sem.run_bind, p0, p1, p2, p3, p4, Result.andThen_ok, e0, e1, q0, q1, q2, q3, q4, Sem.run_pure, Sem.run_ite]
  have key : eqTo 122 a b = ((a 0 == b 0) && (a 1 == b 1) && eqTo 100 (fun k => a (2 + k)) (fun k => b (2 + k)) && eqTo 10 (fun k => a (102 + k)) (fun k => b (102 + k)) && eqTo 10 (fun k => a (112 + k)) (fun k => b (112 + k))) := by
    rw [Bool.eq_iff_iff]
    simp only [Bool.and_eq_true, eqTo_iff, beq_iff_eq]
    constructor
    · intro h
      exact ⟨⟨⟨⟨h 0 (by omega), h 1 (by omega)⟩, fun k hk => h _ (by omega)⟩, fun k hk => h _ (by omega)⟩, fun k hk => h _ (by omega)⟩
    · rintro ⟨⟨⟨⟨h0, h1⟩, h2⟩, h3⟩, h4⟩ k hk
      by_cases k0 : k = 0
      · rw [k0]; exact h0
      by_cases k1 : k = 1
      · rw [k1]; exact h1
      by_cases k2 : k < 102
      · have := h2 (k - 2) (by omega); rwa [show 2 + (k - 2) = k by omega] at this
      by_cases k3 : k < 112
      · have := h3 (k - 102) (by omega); rwa [show 102 + (k - 102) = k by omega] at this
      · have := h4 (k - 112) (by omega); rwa [show 112 + (k - 112) = k by omega] at this
  rw [key]
  cases (a 0 == b 0) <;> cases (a 1 == b 1) <;> cases eqTo 100 (fun k => a (2 + k)) (fun k => b (2 + k)) <;> cases eqTo 10 (fun k => a (102 + k)) (fun k => b (102 + k)) <;> cases eqTo 10 (fun k => a (112 + k)) (fun k => b (112 + k)) <;> simp
end Go.Proofs.YtcdpdcjdjcbhcaaDoor
