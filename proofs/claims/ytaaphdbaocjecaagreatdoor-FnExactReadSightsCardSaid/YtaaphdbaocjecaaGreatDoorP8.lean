/-
  Several texts in one: Equal, Grass, Valid, ValidB, SightOk, SightW.
-/
import Derived.Test.YtaaphdbaocjecaaGreatDoorP1
import Derived.ChangeKeysEq
import Derived.Laws.StructEq
import Derived.Test.YtaaphdbaocjecaaGreatDoorP7
import Derived.Test.YtaaphdbaocjecaaGreatDoorP2
/-
  '==' on rows of integers, rows of such rows, and pastures.
-/
namespace Go.Proofs.YtaaphdbaocjecaaGreatDoor
open Go Go.RowKit
variable {P : Program}

theorem run_part_cell {e : TypeId} {κ : IntKind} (hu : P.underlying e = some (.int κ)) {n i : Nat} {f : Nat → Value} (hi : i < n) (W : World) : (part e (arr n f) i).run P W = .ok (f i) W := by
  have hagg : (isAgg e).run P W = .ok false W := by
    unfold isAgg; rw [Sem.run_bind, run_underlying hu W]; rfl
  simp only [part, Sem.run_bind, hagg, Result.andThen_ok, Bool.false_eq_true, if_false, arr_at hi, Sem.run_pure]
theorem run_part_row {e : TypeId} {m : Nat} (hT : RowT P e m) {n i : Nat} {f : Nat → Value} (hi : i + m ≤ n) (W : World) : (part e (arr n f) i).run P W = .ok (.agg (arr m (fun k => f (i + k)))) W := by
  obtain ⟨⟨d, hu, hd⟩, hm⟩ := hT
  have hagg : (isAgg e).run P W = .ok true W := by
    unfold isAgg; rw [Sem.run_bind, run_underlying hu W]; cases d <;> simp_all [TypeDesc.isRow]
  have hsz : (sizeOf e).run P W = .ok m W := by
    cases hq : P.info? e with
    | none => simp [hq] at hm
    | some i => simp [hq] at hm; simp [sizeOf, typeInfo, hq, hm]
  simp only [part, Sem.run_bind, hagg, Result.andThen_ok, if_true, hsz, Sem.run_pure, arr_extract hi]

theorem run_eqItems_ints (d : Nat) {e : TypeId} {κ : IntKind} (hu : P.underlying e = some (.int κ)) (hc : P.cellsOf e = 1) {n : Nat} (f g : Nat → Value) (a b : Nat → Int)
    (hf : ∀ k, k < n → f k = .int κ (a k)) (hg : ∀ k, k < n → g k = .int κ (b k)) (W : World) : ∀ is : List Nat, (∀ i ∈ is, i < n) →
    (Op.eqItems (d + 1) e (P.cellsOf e) (arr n f) (arr n g) is).run P W = .ok (is.all fun i => a i == b i) W
  | [], _ => by simp [Op.eqItems]
  | i :: is, h => by
    have hi := h i (by simp)
    simp only [Op.eqItems, Sem.run_bind, hc, Nat.mul_one, run_part_cell hu hi, Result.andThen_ok, hf i hi, hg i hi, run_equalIn_int W d e κ κ _ _ hu]
    cases hab : (a i == b i)
    · simp [hab]
    · have := run_eqItems_ints d hu hc f g a b hf hg W is (fun j hj => h j (by simp [hj]))
      rw [hc] at this
      simp [this, hab]

/-- Are the first n the same? -/
def eqTo (n : Nat) (a b : Nat → Int) : Bool := (List.range n).all fun i => a i == b i
theorem eqTo_iff {n : Nat} {a b : Nat → Int} : eqTo n a b = true ↔ ∀ k, k < n → a k = b k := by simp [eqTo]
theorem eqTo_congr {n : Nat} {a b a' b' : Nat → Int} (h : ∀ k, k < n → a k = a' k) (h' : ∀ k, k < n → b k = b' k) : eqTo n a b = eqTo n a' b' := by
  rw [Bool.eq_iff_iff, eqTo_iff, eqTo_iff]
  constructor
  · intro hh k hk; rw [← h k hk, ← h' k hk]; exact hh k hk
  · intro hh k hk; rw [h k hk, h' k hk]; exact hh k hk

theorem run_equalIn_row (d : Nat) {t e : TypeId} {κ : IntKind} {n : Nat} (ht : P.underlying t = some (.array n e)) (hu : P.underlying e = some (.int κ)) (hc : P.cellsOf e = 1) (f g : Nat → Value) (a b : Nat → Int)
    (hf : ∀ k, k < n → f k = .int κ (a k)) (hg : ∀ k, k < n → g k = .int κ (b k)) (W : World) : (Op.equalIn (d + 2) t (.agg (arr n f)) (.agg (arr n g))).run P W = .ok (eqTo n a b) W := by
  obtain ⟨i, hi⟩ := info_of_underlying hu
  rw [run_equalIn_array W (d + 1) _ _ ht hi, run_eqItems_ints d hu hc f g a b hf hg W _ (by simp)]
  rfl

theorem run_eqItems_rows (d : Nat) {t e : TypeId} {κ : IntKind} {m : Nat} (ht : P.underlying t = some (.array m e)) (hT : RowT P t m) (hcm : P.cellsOf t = m) (hu : P.underlying e = some (.int κ)) (hc : P.cellsOf e = 1) {n : Nat} (f g : Nat → Value) (a b : Nat → Int)
    (hf : ∀ k, k < n * m → f k = .int κ (a k)) (hg : ∀ k, k < n * m → g k = .int κ (b k)) (W : World) : ∀ is : List Nat, (∀ i ∈ is, i < n) →
    (Op.eqItems (d + 2) t (P.cellsOf t) (arr (n * m) f) (arr (n * m) g) is).run P W = .ok (is.all fun i => eqTo m (fun k => a (i * m + k)) (fun k => b (i * m + k))) W
  | [], _ => by simp [Op.eqItems]
  | i :: is, h => by
    have hi := h i (by simp)
    have hle : i * m + m ≤ n * m := by
      have := Nat.mul_le_mul_right m (show i + 1 ≤ n by omega)
      rw [Nat.add_mul, Nat.one_mul] at this; exact this
    have hrow := run_equalIn_row d ht hu hc (fun k => f (i * m + k)) (fun k => g (i * m + k)) (fun k => a (i * m + k)) (fun k => b (i * m + k)) (fun k hk => hf _ (by omega)) (fun k hk => hg _ (by omega)) W
    simp only [Op.eqItems, Sem.run_bind, hcm, run_part_row hT hle, Result.andThen_ok, hrow]
    cases hab : eqTo m (fun k => a (i * m + k)) (fun k => b (i * m + k))
    · simp [hab]
    · have := run_eqItems_rows d ht hT hcm hu hc f g a b hf hg W is (fun j hj => h j (by simp [hj]))
      rw [hcm] at this
      simp [this, hab]

theorem all_rows {n m : Nat} (a b : Nat → Int) (hm : 0 < m) : ((List.range n).all fun i => eqTo m (fun k => a (i * m + k)) (fun k => b (i * m + k))) = eqTo (n * m) a b := by
  rw [Bool.eq_iff_iff, eqTo_iff, List.all_eq_true]
  constructor
  · intro h k hk
    have hi : k / m < n := Nat.div_lt_of_lt_mul (by rw [Nat.mul_comm]; exact hk)
    have := (eqTo_iff.1 (h (k / m) (by simpa using hi))) (k % m) (Nat.mod_lt _ hm)
    have e : k / m * m + k % m = k := by rw [Nat.mul_comm]; exact Nat.div_add_mod k m
    rwa [e] at this
  · intro h i hi
    rw [eqTo_iff]
    intro k hk
    apply h
    have hi : i < n := by simpa using hi
    have := Nat.mul_le_mul_right m (show i + 1 ≤ n by omega)
    rw [Nat.add_mul, Nat.one_mul] at this; omega

theorem run_equalIn_rows (d : Nat) {u t e : TypeId} {κ : IntKind} {n m : Nat} (hu' : P.underlying u = some (.array n t)) (ht : P.underlying t = some (.array m e)) (hT : RowT P t m) (hcm : P.cellsOf t = m) (hu : P.underlying e = some (.int κ)) (hc : P.cellsOf e = 1) (hm : 0 < m) (f g : Nat → Value) (a b : Nat → Int)
    (hf : ∀ k, k < n * m → f k = .int κ (a k)) (hg : ∀ k, k < n * m → g k = .int κ (b k)) (W : World) : (Op.equalIn (d + 3) u (.agg (arr (n * m) f)) (.agg (arr (n * m) g))).run P W = .ok (eqTo (n * m) a b) W := by
  obtain ⟨i, hi⟩ := info_of_underlying ht
  rw [run_equalIn_array W (d + 2) _ _ hu' hi, run_eqItems_rows d ht hT hcm hu hc f g a b hf hg W _ (by simp), all_rows a b hm]

theorem cells_i16 : Tryz.prog.cellsOf 53 = 1 := by kernel_rfl
theorem cells_u16 : Tryz.prog.cellsOf 71 = 1 := by kernel_rfl
theorem cells_row : Tryz.prog.cellsOf 69 = 10 := by kernel_rfl

/-- '==' on [10][10]int16. -/
theorem run_equal_grass (f g : Nat → Value) (a b : Nat → Int) (hf : ∀ k, k < 100 → f k = .int .i16 (a k)) (hg : ∀ k, k < 100 → g k = .int .i16 (b k)) (W : World) (d : Nat) :
    (Op.equalIn (d + 3) 70 (.agg (arr 100 f)) (.agg (arr 100 g))).run Tryz.prog W = .ok (eqTo 100 a b) W :=
  run_equalIn_rows (n := 10) (m := 10) d Tryz.underlying70 Tryz.underlying69 (rowTab _ _ rfl) cells_row Tryz.underlying53 cells_i16 (by omega) f g a b hf hg W

/-- '==' on pastures. -/
theorem run_equal_pas (a b : Nat → Int) (W : World) :
    (Op.equalIn 10000 74 (.agg (arr 122 (pas a))) (.agg (arr 122 (pas b)))).run Tryz.prog W = .ok (eqTo 122 a b) W := by
  have hs := run_equalIn_struct (P := Tryz.prog) W 9999 74 (arr 122 (pas a)) (arr 122 (pas b)) (by rw [Program.fieldsOf, Tryz.underlying74]) (by kernel_rfl)
  rw [hs]
  have hf : (Tryz.prog.fieldsOf 74).toList = [
    { name := "Wide", type := 39, offset := 0, embedded := false, tag := "", pkgPath := "", byteOffset := 0 },
    { name := "High", type := 39, offset := 1, embedded := false, tag := "", pkgPath := "", byteOffset := 1 },
    { name := "Grass", type := 70, offset := 2, embedded := false, tag := "", pkgPath := "", byteOffset := 2 },
    { name := "East", type := 72, offset := 102, embedded := false, tag := "", pkgPath := "", byteOffset := 202 },
    { name := "South", type := 72, offset := 112, embedded := false, tag := "", pkgPath := "", byteOffset := 222 }] := by
    rw [Program.fieldsOf, Tryz.underlying74]
  rw [hf]
  have p0 := fun c => run_part_cell (P := Tryz.prog) Tryz.underlying39 (n := 122) (i := 0) (f := pas c) (by omega) W
  have p1 := fun c => run_part_cell (P := Tryz.prog) Tryz.underlying39 (n := 122) (i := 1) (f := pas c) (by omega) W
  have p2 := fun c => run_part_row (P := Tryz.prog) (rowTab 70 100 rfl) (n := 122) (i := 2) (f := pas c) (by omega) W
  have p3 := fun c => run_part_row (P := Tryz.prog) (rowTab 72 10 rfl) (n := 122) (i := 102) (f := pas c) (by omega) W
  have p4 := fun c => run_part_row (P := Tryz.prog) (rowTab 72 10 rfl) (n := 122) (i := 112) (f := pas c) (by omega) W
  have q0 := run_equalIn_int (P := Tryz.prog) W 9998 39 .i8 .i8 (a 0) (b 0) Tryz.underlying39
  have q1 := run_equalIn_int (P := Tryz.prog) W 9998 39 .i8 .i8 (a 1) (b 1) Tryz.underlying39
  have q2 := run_equal_grass (fun k => pas a (2 + k)) (fun k => pas b (2 + k)) (fun k => a (2 + k)) (fun k => b (2 + k)) (fun k hk => pas_i16 a (by omega) (by omega)) (fun k hk => pas_i16 b (by omega) (by omega)) W 9996
  have q3 := run_equalIn_row (P := Tryz.prog) (n := 10) 9997 Tryz.underlying72 Tryz.underlying71 cells_u16 (fun k => pas a (102 + k)) (fun k => pas b (102 + k)) (fun k => a (102 + k)) (fun k => b (102 + k)) (fun k hk => pas_u16 a (by omega)) (fun k hk => pas_u16 b (by omega)) W
  have q4 := run_equalIn_row (P := Tryz.prog) (n := 10) 9997 Tryz.underlying72 Tryz.underlying71 cells_u16 (fun k => pas a (112 + k)) (fun k => pas b (112 + k)) (fun k => a (112 + k)) (fun k => b (112 + k)) (fun k hk => pas_u16 a (by omega)) (fun k hk => pas_u16 b (by omega)) W
  have e0 : ∀ c : Nat → Int, pas c 0 = .int .i8 (c 0) := fun _ => rfl
  have e1 : ∀ c : Nat → Int, pas c 1 = .int .i8 (c 1) := fun _ => rfl
  simp only [Op.eqFields, ne_eq, Sem.run_bind, p0, p1, p2, p3, p4, Result.andThen_ok, e0, e1, q0, q1, q2, q3, q4, Sem.run_pure, Sem.run_ite]
  have key : eqTo 122 a b = ((a 0 == b 0) && (a 1 == b 1) && eqTo 100 (fun k => a (2 + k)) (fun k => b (2 + k)) && eqTo 10 (fun k => a (102 + k)) (fun k => b (102 + k)) && eqTo 10 (fun k => a (112 + k)) (fun k => b (112 + k))) := by
    rw [Bool.eq_iff_iff]
    simp only [Bool.and_eq_true, eqTo_iff, beq_iff_eq]
    constructor
    · intro h
      exact ⟨⟨⟨⟨h 0 (by omega), h 1 (by omega)⟩, fun k hk => h _ (by omega)⟩, fun k hk => h _ (by omega)⟩, fun k hk => h _ (by omega)⟩
    · rintro ⟨⟨⟨⟨h0, h1⟩, h2⟩, h3⟩, h4⟩ k hk
      by_cases k0 : k = 0
      · rw [k0]; exact h0
      by_cases k1 : k = 1
      · rw [k1]; exact h1
      by_cases k2 : k < 102
      · have := h2 (k - 2) (by omega); rwa [show 2 + (k - 2) = k by omega] at this
      by_cases k3 : k < 112
      · have := h3 (k - 102) (by omega); rwa [show 102 + (k - 102) = k by omega] at this
      · have := h4 (k - 112) (by omega); rwa [show 112 + (k - 112) = k by omega] at this
  rw [key]
  cases (a 0 == b 0) <;> cases (a 1 == b 1) <;> cases eqTo 100 (fun k => a (2 + k)) (fun k => b (2 + k)) <;> cases eqTo 10 (fun k => a (102 + k)) (fun k => b (102 + k)) <;> cases eqTo 10 (fun k => a (112 + k)) (fun k => b (112 + k)) <;> simp
end Go.Proofs.YtaaphdbaocjecaaGreatDoor

/-
  impl.hasValidGrass by contract.
-/
namespace Go.Proofs.YtaaphdbaocjecaaGreatDoor
open Go Go.RowKit Go.Shelf Go.BigFrame

/-- What is left of the grass when some cells have come. -/
def restAt (g : Nat → Int) (l : List (Nat × Nat)) (k : Nat) : Int := if (k % 10, k / 10) ∈ l then 0 else g (2 + k)
def restV (g : Nat → Int) (l : List (Nat × Nat)) : Nat → Value := fun k => .int .i16 (restAt g l k)
/-- Is a cell's grass as it may be? -/
def fineAt (g : Nat → Int) (s : Nat × Nat) : Bool := inB 0 1000 (g (2 + (s.2 * 10 + s.1)))
def grassB (g : Nat → Int) (W H : Nat) : Bool := (upto W (W * H)).all (fineAt g) && eqTo 100 (restAt g (upto W (W * H))) (fun _ => 0)

theorem mem_upto {W H x y : Nat} (hx : x < W) (hy : y < H) : (x, y) ∈ upto W (W * H) := by
  unfold upto
  refine List.mem_map.2 ⟨y * W + x, ?_, cellAt_row hx⟩
  have := Nat.mul_le_mul_right W (show y + 1 ≤ H by omega)
  rw [Nat.add_mul, Nat.one_mul, Nat.mul_comm H W] at this
  exact List.mem_range.2 (by omega)
theorem restAt_of {g : Nat → Int} {l : List (Nat × Nat)} {x y : Nat} (hx : x < 10) : restAt g l (y * 10 + x) = if (x, y) ∈ l then 0 else g (2 + (y * 10 + x)) := by
  have e1 : (y * 10 + x) % 10 = x := by omega
  have e2 : (y * 10 + x) / 10 = y := by omega
  simp only [restAt, e1, e2]
theorem restAt_upd {g : Nat → Int} {l : List (Nat × Nat)} {x y k : Nat} (hx : x < 10) : upd (restV g l) (y * 10 + x) (.int .i16 0) k = restV g (l ++ [(x, y)]) k := by
  unfold upd restV restAt
  by_cases e : k = y * 10 + x
  · have e1 : (y * 10 + x) % 10 = x := by omega
    have e2 : (y * 10 + x) / 10 = y := by omega
    simp [e, e1, e2]
  · have : (k % 10, k / 10) ≠ (x, y) := fun h => by
      have h1 : k % 10 = x := congrArg Prod.fst h
      have h2 : k / 10 = y := congrArg Prod.snd h
      omega
    simp [e, this]

def GrassIn {W H : Nat} (w : World) (g : Nat → Int) (b1 b2 b3 bp : Nat) (pre : List (Cell W H)) (X : World) : Prop :=
  (∀ s ∈ pre, fineAt g s.1 = true) ∧ Mem w [(b3, 100, restV g (pre.map (·.1))), (b2, 1, fun _ => .bool false), (b1, 122, pas g), (bp, 122, pas g)] X
def GrassOut {W H : Nat} (w : World) (g : Nat → Int) (b2 : Nat) (c : Code) (_ : List (Cell W H)) (X : World) : Prop :=
  c = .ret ∧ grassB g W H = false ∧ Mem w [(b2, 1, fun _ => .bool false)] X
theorem grassIn_own {W H : Nat} (w : World) (g : Nat → Int) (b1 b2 b3 bp B : Nat) (hB : w.heap.size ≤ B) : OwnFrom B (GrassIn (W := W) (H := H) w g b1 b2 b3 bp) := fun _ X Y row hs hg hr =>
  ⟨hs.1, mem_ownFrom hB (fun _ : Unit => _) () X Y row hs.2 hg hr⟩
theorem grassOut_own {W H : Nat} (w : World) (g : Nat → Int) (b2 B : Nat) (hB : w.heap.size ≤ B) (c : Code) : OwnFrom B (GrassOut (W := W) (H := H) w g b2 c) := fun _ X Y row hs hg hr =>
  ⟨hs.1, hs.2.1, mem_ownFrom hB (fun _ : Unit => _) () X Y row hs.2.2 hg hr⟩

/-- The temporaries as the loop finds them. -/
def grassT (g : Nat → Int) (b1 b2 b3 bp : Nat) : Array Value :=
  #[.agg (arr 122 (pas g)), .pointer (some ⟨b1, 0, none⟩), .pointer (some ⟨b2, 0, none⟩), .pointer (some ⟨b3, 0, none⟩), undef, .pointer (some ⟨b1, 2, none⟩), .agg (arr 100 fun k => pas g (2 + k)), .agg (arr 122 fun k => pas g k), .func (.func 100) #[] #[.pointer (some ⟨bp, 0, none⟩)], undef, undef, undef, undef, undef, undef, undef, undef, undef, undef, undef, undef, undef, undef, undef, undef, undef, undef, undef, undef, undef, undef, undef, undef, undef, undef, undef, undef]
/-- The frame of a round: T: the temporaries as the loop found them. -/
def GrassAx {W H : Nat} (w : World) (b1 b2 b3 bp : Nat) (T : Array Value) (x : Cell W H) (a' : Act) (X : World) : Prop :=
  ∃ bx, w.heap.size ≤ bx ∧ bx ≠ b1 ∧ bx ≠ b2 ∧ bx ≠ b3 ∧ bx ≠ bp ∧ At X bx 2 (sp x.1.1 x.1.2) ∧
    a' = { tmps := (T.setIfInBounds 9 (.agg (arr 2 (sp x.1.1 x.1.2)))).setIfInBounds 4 (.pointer (some ⟨bx, 0, none⟩)), defers := [] }
theorem grassAx_own {W H : Nat} (w : World) (b1 b2 b3 bp B : Nat) (T : Array Value) (x : Cell W H) (a' : Act) : OwnFrom B (fun (_ : Unit) X => GrassAx w b1 b2 b3 bp T x a' X) := fun _ X Y row hs hg hr => by
  obtain ⟨bx, h1, h2, h3, h4, h5, hA, e⟩ := hs
  exact ⟨bx, h1, h2, h3, h4, h5, hA.grown hg (fun r e => (hr r e).2), e⟩

theorem fine_rest {g : Nat → Int} {l : List (Nat × Nat)} {u v : Nat} (hu : u < 10) (hf : ∀ s ∈ l, fineAt g s = true) : inB 0 1000 (restAt g l (v * 10 + u)) = fineAt g (u, v) := by
  rw [restAt_of hu]
  split
  · rename_i h; rw [hf _ h]; rfl
  · rfl
theorem grassB_no {g : Nat → Int} {W H u v : Nat} (hu : u < W) (hv : v < H) (h : fineAt g (u, v) = false) : grassB g W H = false := by
  unfold grassB
  rw [Bool.and_eq_false_iff]; left
  exact List.all_eq_false.2 ⟨_, mem_upto hu hv, by simp [h]⟩
theorem Mem.only {w w' : Base} {W : World} {L : Blocks} (h : Mem w L W) (i : Nat) {b n : Nat} {f : Nat → Value} (hi : L[i]? = some (b, n, f)) (g : Nat → Value) (e : ∀ k, k < n → f k = g k) (hg : w'.G W) : Mem w' [(b, n, g)] W :=
  (Mem.start hg).old ((h.ats i b n f hi).congr e) (fun j p hj => by simp at hj)

theorem Mem.take {w : Base} {W : World} {L : Blocks} (h : Mem w L W) (n : Nat) : Mem w (L.take n) W :=
  ⟨h.good, fun i b m f hi => h.ats i b m f (by rw [List.getElem?_take] at hi; split at hi; exact hi; cases hi),
   fun i j p q hi hj hne => h.apart i j p q (by rw [List.getElem?_take] at hi; split at hi; exact hi; cases hi) (by rw [List.getElem?_take] at hj; split at hj; exact hj; cases hj) hne⟩

theorem results_at1 {P : Program} {fn : Func} {p : Tmp} {ty : TypeId} (h : fn.results = #[.cell p ty]) (tmps : Array Value) {W : World} {b n : Nat} {f : Nat → Value}
    (hp : tmps.getD p undef = .pointer (some ⟨b, 0, none⟩)) (hg : At W b n f) (hn : 0 < n) (hT : CellT P ty) (v : Value) (hv : f 0 = v) :
    (results fn tmps).run P W = .ok v W := by
  obtain ⟨⟨d, hu, hd⟩, _⟩ := hT
  have hc := hg.cell hn
  rw [hv] at hc
  have hagg : (isAgg ty).run P W = .ok false W := by
    unfold isAgg
    rw [Sem.run_bind, run_underlying hu W]
    cases d <;> simp_all [TypeDesc.isRow]
  have hl : (load ⟨b, 0, none⟩).run P W = .ok v W := by simp [load, Sem.run, hc]
  have hh : (loadVar ty ⟨b, 0, none⟩).run P W = .ok v W := by
    simp only [loadVar, Sem.run_bind, Result.andThen_ok, hagg, Bool.false_eq_true, if_false, hl]
  have hp' : tmps[p]?.getD undef = .pointer (some ⟨b, 0, none⟩) := by simpa using hp
  simp [results, h, hp', asAddr, hh]

theorem zeroValue_of {P : Program} {ty : TypeId} {v : Value} (hz : (P.info? ty).map (·.zero) = some (some v)) (W : World) : (zeroValue ty).run P W = .ok v W := by
  cases hq : P.info? ty with
  | none => simp [hq] at hz
  | some i => simp [hq] at hz; simp [zeroValue, typeInfo, hq, hz]
@[local go_sem] theorem zero_grass (W : World) : (zeroValue 70).run Tryz.prog W = .ok (.agg (arr 100 fun _ => .int .i16 0)) W := zeroValue_of (zeroTab _ _ _ rfl) W
@[local go_sem] theorem zero_cells_grass : Tryz.zeroCells70 = arr 100 fun _ => .int .i16 0 := by kernel_rfl
@[local go_sem] theorem eq_grass (g : Nat → Int) (l : List (Nat × Nat)) (W : World) : (Op.equalIn 10000 70 (.agg (arr 100 fun k => restV g l k)) (.agg (arr 100 fun _ => .int .i16 0))).run Tryz.prog W = .ok (eqTo 100 (restAt g l) fun _ => 0) W :=
  run_equal_grass _ _ _ _ (fun _ _ => rfl) (fun _ _ => rfl) W 9997

set_option maxRecDepth 100000 in
set_option maxHeartbeats 2000000 in
theorem hasValidGrass_any (g : Nat → Int) (hg : Fits g) (W H : Nat) (hg0 : g 0 = W) (hg1 : g 1 = H) (hW : 1 ≤ W ∧ W ≤ 10) (hH : 1 ≤ H ∧ H ≤ 10) (w : World) :
    Calls Tryz.prog 66 #[.agg (arr 122 (pas g))] w fun e w' => e = .returned (.bool (grassB g W H)) ∧ Below w.heap.size w w' := by
  have hM := Mem.nil w
  refine (callsIn_wide (n := 3)).1 ?_
  refine callsIn_of_wp_marks Tryz.func66 rfl trivial ?_ rfl
  simp only [Tryz.ntmps66, List.size_toArray, List.length_cons, List.length_nil, Nat.reduceAdd, Nat.reduceSub, Array.replicate_succ, Array.replicate_zero, List.push_toArray, List.append_toArray, List.nil_append, List.cons_append]
  refine wpIn_wide.2 ?_
  have tk_b1 : True := trivial; have tk_b2 : True := trivial; have tk_b3 : True := trivial
  go_wp2_with (first | (have _t := tk_b1; refine wpList_box rfl _ _ rfl _ _ rfl hM ?_; intro b1 W' hb1 hM'; clear hM tk_b1; have hM := hM'; clear hM') | (have _t := tk_b2; refine wpList_zero1 rfl _ rfl (zero1Tab _ _ rfl) rfl hM ?_; intro b2 W' hb2 hM'; clear hM tk_b2; have hM := hM'; clear hM') | (have _t := tk_b3; refine wpList_zero rfl _ rfl (zeroTab _ _ _ rfl) hM ?_; intro b3 W' hb3 hM'; clear hM tk_b3; have hM := hM'; clear hM') | (refine wpList_get rfl _ _ rfl _ _ rfl hM 1 rfl (rowTab _ _ rfl) (by omega) ?_) | (refine wpList_get rfl _ _ rfl _ _ rfl hM 2 rfl (rowTab _ _ rfl) (by omega) ?_) | (refine wpList_get rfl _ _ rfl _ _ rfl hM 0 rfl (rowTab _ _ rfl) (by omega) ?_) | (refine wpList_lay rfl _ _ _ rfl _ _ rfl _ _ rfl hM 0 rfl (by assumption) (rowTab _ _ rfl) (by omega) ?_ ?_; (first | (intro _ _; rfl) | (intro k _; exact h1 _) | (intro k _; simp only [lay, upd]; (repeat' split) <;> first | exact h1 _ | rfl)); intro W' hM'; clear hM; have hM := hM'; clear hM'; simp only [List.set] at hM))
  refine (cells_any g _).mono ?_
  rintro e W1 ⟨bp, rfl, hbp, hAp, hcb⟩
  have l3 := (hM.ats 0 _ _ _ rfl).lt
  have l2 := (hM.ats 1 _ _ _ rfl).lt
  have l1 := (hM.ats 2 _ _ _ rfl).lt
  have hM2 := (hM.re 0 rfl (restV g []) (fun k hk => by
    have e2 : lay (fun _ => Value.int .i16 0) 0 100 (fun k => pas g (2 + k)) k = pas g (2 + k) := by simp [lay, hk]
    rw [e2, pas_i16 g (by omega) (by omega)]; simp [restV, restAt])).call hcb
  simp only [List.set] at hM2
  have hM3 := hM2.old hAp (fun i p h => by
    match i, h with
    | 0, h => simp at h; rw [← h]; show b3 ≠ bp; omega
    | 1, h => simp at h; rw [← h]; show b2 ≠ bp; omega
    | 2, h => simp at h; rw [← h]; show b1 ≠ bp; omega
    | _ + 3, h => simp at h)
  simp only [List.cons_append, List.nil_append] at hM3
  clear hM hM2 l1 l2 l3 hcb hbp
  have hM := hM3
  clear hM3
  go_wp2
  have hsz : w.heap.size ≤ W1.heap.size := hM.size
  refine (wpIn_wide (n := 3)).1 ?_
  refine wpIn_rangeFunc_ownH (F := Fence.wide) (n := 3) rfl (by omega) (gf := 100) (lb := #[.pointer (some ⟨bp, 0, none⟩)]) rfl trivial (enters_of Tryz.func100 (by kernel_rfl) rfl)
    (cells_stops Fence.wide 2 trivial rfl (by omega) bp W H hW.2 hH.2 g hg0 hg1 W1 hAp) kpP_t (fun X l o o' _ h ho _ => kpP_b X l o o' h ho) (Below.refl _ _) (fun _ => rfl)
    (GrassIn w g b1 b2 b3 bp) (GrassOut w g b2) (grassIn_own w g b1 b2 b3 bp _ hM.size) (grassOut_own w g b2 _ hM.size) ⟨fun s h => by simp at h, hM⟩
    (GrassAx w b1 b2 b3 bp (grassT g b1 b2 b3 bp)) (grassAx_own w b1 b2 b3 bp _ _) ?assign ?body ?done ?stop
  case assign =>
    intro l pre x X K hI hK
    obtain ⟨hf, hX⟩ := hI
    have hM : Mem (Base.round w W1.heap.size X) _ X := hX.base ⟨hX.below, KeepsFrom.refl _ _⟩
    have tk_b4 : True := trivial
    refine region_round (fun ⟨_, _, h⟩ => h) rfl ?_
    have ez : (#[9].zip (encC x)).foldl (fun t x => t.setIfInBounds x.1 x.2) (grassT g b1 b2 b3 bp) = (grassT g b1 b2 b3 bp).setIfInBounds 9 (.agg (arr 2 (sp x.1.1 x.1.2))) := by simp [encC]
    have h1 : ∀ k, (sp x.1.1 x.1.2 k).oneCell' = true := fun _ => rfl
    rw [show (#[Value.agg (arr 122 (pas g)), .pointer (some ⟨b1, 0, none⟩), .pointer (some ⟨b2, 0, none⟩), .pointer (some ⟨b3, 0, none⟩), undef, .pointer (some ⟨b1, 2, none⟩), .agg (arr 100 fun k => pas g (2 + k)), .agg (arr 122 fun k => pas g k), .func (.func 100) #[] #[.pointer (some ⟨bp, 0, none⟩)], undef, undef, undef, undef, undef, undef, undef, undef, undef, undef, undef, undef, undef, undef, undef, undef, undef, undef, undef, undef, undef, undef, undef, undef, undef, undef, undef, undef] : Array Value) = grassT g b1 b2 b3 bp from rfl, ez]
    simp only [grassT, List.setIfInBounds_toArray, List.set_cons_succ, List.set_cons_zero]
    go_wp2_with (first | (have _t := tk_b4; refine wpList_zero rfl _ rfl (zeroTab _ _ _ rfl) hM ?_; intro b4 W' hb4 hM'; clear hM tk_b4; have hM := hM'; clear hM') | (refine wpList_lay rfl _ _ _ rfl _ _ rfl _ _ rfl hM 0 rfl (by assumption) (rowTab _ _ rfl) (by omega) ?_ ?_; (first | (intro _ _; rfl) | (intro k _; exact h1 _) | (intro k _; simp only [lay, upd]; (repeat' split) <;> first | exact h1 _ | rfl)); intro W' hM'; clear hM; have hM := hM'; clear hM'; simp only [List.set] at hM))
    exact hK _ _ hM.good.2 (fun _ => hM.ats 4 _ _ _ rfl) ⟨hf, hM.drop.base hM.good.1⟩
      ⟨b4, hb4, hM.apart 0 3 _ _ rfl rfl (by omega), hM.apart 0 2 _ _ rfl rfl (by omega), hM.apart 0 1 _ _ rfl rfl (by omega), hM.apart 0 4 _ _ rfl rfl (by omega), hM.at0.congr (fun k hk => by simp [lay, hk]), rfl⟩
  case body =>
    intro l pre x a' X hl hr hI hAx hlen
    obtain ⟨hf, hX⟩ := hI
    obtain ⟨b4, hb4, n1, n2, n3, n4, hA4, rfl⟩ := hAx
    have hM4 := (hX.base (w' := Base.round w W1.heap.size X) ⟨hX.below, KeepsFrom.refl _ _⟩).old hA4 (fun i p h => by
      match i, h with
      | 0, h => simp at h; rw [← h]; exact fun e => n3 e.symm
      | 1, h => simp at h; rw [← h]; exact fun e => n2 e.symm
      | 2, h => simp at h; rw [← h]; exact fun e => n1 e.symm
      | 3, h => simp at h; rw [← h]; exact fun e => n4 e.symm
      | _ + 4, h => simp at h)
    simp only [List.cons_append, List.nil_append] at hM4
    have hM := hM4
    clear hM4
    obtain ⟨⟨u, v⟩, hu, hv⟩ := x
    simp only at hu hv hM hA4
    simp only [grassT, List.setIfInBounds_toArray, List.set_cons_succ, List.set_cons_zero]
    clear hX hA4 n1 n2 n3 n4 hb4
    have lu : (u : Int) < 10 := by omega
    have lv : (v : Int) < 10 := by omega
    refine wpIn_block (wpIn_seq (wpIn_seq ?_))
    rcases (show restAt g (pre.map (·.1)) (v * 10 + u) < 0 ∨ (¬ restAt g (pre.map (·.1)) (v * 10 + u) < 0 ∧ restAt g (pre.map (·.1)) (v * 10 + u) > 1000) ∨ (¬ restAt g (pre.map (·.1)) (v * 10 + u) < 0 ∧ ¬ restAt g (pre.map (·.1)) (v * 10 + u) > 1000) by omega) with r0 | ⟨r0, r1⟩ | ⟨r0, r1⟩
    · have e0 : decide (restAt g (pre.map (·.1)) (v * 10 + u) < 0) = true := decide_eq_true r0
      refine region_round_mem (fun ⟨_, _, h⟩ => h) rfl (by kernel_rfl) (by kernel_rfl) hM ?_
      clear hM
      (repeat (first | go_big_quiet_skip | (go_big_quiet_want; first | (refine quiet_get1 _ _ rfl _ _ rfl 4 rfl (cellTab _ rfl) (by omega) (.int .i8 v) rfl ?_; (simp only [Act.put, List.setIfInBounds_toArray, List.set_cons_succ, List.set_cons_zero]); go_big_quiet_on) | (refine quiet_get1 _ _ rfl _ _ rfl 4 rfl (cellTab _ rfl) (by omega) (.int .i8 u) rfl ?_; (simp only [Act.put, List.setIfInBounds_toArray, List.set_cons_succ, List.set_cons_zero]); go_big_quiet_on) | (refine quiet_get1 _ _ rfl _ _ rfl 0 rfl (cellTab _ rfl) (by omega) (.int .i16 (restAt g (pre.map (·.1)) (v * 10 + u))) rfl ?_; (simp only [Act.put, List.setIfInBounds_toArray, List.set_cons_succ, List.set_cons_zero]); go_big_quiet_on) | (refine quiet_val ?_; apply Exists.intro; refine ⟨fun W => ?_, ?_⟩; (go_simp; (try simp only [lu, lv, e0, if_true, Bool.false_eq_true, if_false]); rfl); (simp only [Act.put, List.setIfInBounds_toArray, List.set_cons_succ, List.set_cons_zero]); go_big_quiet_on))))
      with_reducible refine wpQuiet_nil ?_
      intro W' hM
      refine wpIn_cond_true rfl (wpIn_seq (region_round (fun ⟨_, _, h⟩ => h) rfl ?_))
      have tk_b9 : True := trivial
      go_wp2_with (first | (refine wpList_set1 rfl _ _ _ rfl _ _ rfl _ rfl ?_ hM 1 rfl (by assumption) (cellTab _ rfl) (by omega) ?_; (first | rfl | exact h1 _); intro W' hM'; clear hM; have hM := hM'; clear hM'; simp [List.set, Act.eval] at hM))
      have hbad : fineAt g (u, v) = false := by
        rw [← fine_rest (l := pre.map (·.1)) (show u < 10 by omega) (fun s hs => by obtain ⟨c, hc, rfl⟩ := List.mem_map.1 hs; exact hf c hc)]
        exact inB_no (by omega)
      refine wpIn_ret ?_
      exact ⟨hM.good.2, rfl, grassB_no hu hv hbad, hM.only 1 rfl _ (fun k hk => by simp [upd]) hM.good.1⟩
    · have e0 : decide (restAt g (pre.map (·.1)) (v * 10 + u) < 0) = false := decide_eq_false r0
      have e1 : decide (1000 < restAt g (pre.map (·.1)) (v * 10 + u)) = true := decide_eq_true r1
      refine region_round_mem (fun ⟨_, _, h⟩ => h) rfl (by kernel_rfl) (by kernel_rfl) hM ?_
      clear hM
      (repeat (first | go_big_quiet_skip | (go_big_quiet_want; first | (refine quiet_get1 _ _ rfl _ _ rfl 4 rfl (cellTab _ rfl) (by omega) (.int .i8 v) rfl ?_; (simp only [Act.put, List.setIfInBounds_toArray, List.set_cons_succ, List.set_cons_zero]); go_big_quiet_on) | (refine quiet_get1 _ _ rfl _ _ rfl 4 rfl (cellTab _ rfl) (by omega) (.int .i8 u) rfl ?_; (simp only [Act.put, List.setIfInBounds_toArray, List.set_cons_succ, List.set_cons_zero]); go_big_quiet_on) | (refine quiet_get1 _ _ rfl _ _ rfl 0 rfl (cellTab _ rfl) (by omega) (.int .i16 (restAt g (pre.map (·.1)) (v * 10 + u))) rfl ?_; (simp only [Act.put, List.setIfInBounds_toArray, List.set_cons_succ, List.set_cons_zero]); go_big_quiet_on) | (refine quiet_val ?_; apply Exists.intro; refine ⟨fun W => ?_, ?_⟩; (go_simp; (try simp only [lu, lv, e0, e1, if_true, Bool.false_eq_true, if_false]); rfl); (simp only [Act.put, List.setIfInBounds_toArray, List.set_cons_succ, List.set_cons_zero]); go_big_quiet_on))))
      with_reducible refine wpQuiet_nil ?_
      intro W' hM
      refine wpIn_cond_true rfl (wpIn_seq (region_round (fun ⟨_, _, h⟩ => h) rfl ?_))
      have tk_b9 : True := trivial
      go_wp2_with (first | (refine wpList_set1 rfl _ _ _ rfl _ _ rfl _ rfl ?_ hM 1 rfl (by assumption) (cellTab _ rfl) (by omega) ?_; (first | rfl | exact h1 _); intro W' hM'; clear hM; have hM := hM'; clear hM'; simp [List.set, Act.eval] at hM))
      have hbad : fineAt g (u, v) = false := by
        rw [← fine_rest (l := pre.map (·.1)) (show u < 10 by omega) (fun s hs => by obtain ⟨c, hc, rfl⟩ := List.mem_map.1 hs; exact hf c hc)]
        exact inB_no (by omega)
      refine wpIn_ret ?_
      exact ⟨hM.good.2, rfl, grassB_no hu hv hbad, hM.only 1 rfl _ (fun k hk => by simp [upd]) hM.good.1⟩
    · have e0 : decide (restAt g (pre.map (·.1)) (v * 10 + u) < 0) = false := decide_eq_false r0
      have e1 : decide (1000 < restAt g (pre.map (·.1)) (v * 10 + u)) = false := decide_eq_false r1
      refine region_round_mem (fun ⟨_, _, h⟩ => h) rfl (by kernel_rfl) (by kernel_rfl) hM ?_
      clear hM
      (repeat (first | go_big_quiet_skip | (go_big_quiet_want; first | (refine quiet_get1 _ _ rfl _ _ rfl 4 rfl (cellTab _ rfl) (by omega) (.int .i8 v) rfl ?_; (simp only [Act.put, List.setIfInBounds_toArray, List.set_cons_succ, List.set_cons_zero]); go_big_quiet_on) | (refine quiet_get1 _ _ rfl _ _ rfl 4 rfl (cellTab _ rfl) (by omega) (.int .i8 u) rfl ?_; (simp only [Act.put, List.setIfInBounds_toArray, List.set_cons_succ, List.set_cons_zero]); go_big_quiet_on) | (refine quiet_get1 _ _ rfl _ _ rfl 0 rfl (cellTab _ rfl) (by omega) (.int .i16 (restAt g (pre.map (·.1)) (v * 10 + u))) rfl ?_; (simp only [Act.put, List.setIfInBounds_toArray, List.set_cons_succ, List.set_cons_zero]); go_big_quiet_on) | (refine quiet_val ?_; apply Exists.intro; refine ⟨fun W => ?_, ?_⟩; (go_simp; (try simp only [lu, lv, e0, e1, if_true, Bool.false_eq_true, if_false]); rfl); (simp only [Act.put, List.setIfInBounds_toArray, List.set_cons_succ, List.set_cons_zero]); go_big_quiet_on))))
      with_reducible refine wpQuiet_nil ?_
      intro W' hM
      refine wpIn_cond_false rfl (wpIn_skip ?_)
      refine region_round_tail (m := 6) (fun ⟨_, _, h⟩ => h) rfl (by kernel_rfl) (by kernel_rfl) ?_
      have hM' := hM.drew
      clear hM
      have hM := hM'
      clear hM'
      simp only [List.take_succ_cons, List.take_zero, List.drop_succ_cons, List.drop_zero]
      (repeat (refine wps_plain rfl ?_; (first | (refine still_get1 hM _ _ rfl _ _ rfl 4 rfl (cellTab _ rfl) (by omega) (.int .i8 v) rfl ?_) | (refine still_get1 hM _ _ rfl _ _ rfl 4 rfl (cellTab _ rfl) (by omega) (.int .i8 u) rfl ?_) | (refine still_val ?_; apply Exists.intro; refine ⟨fun W => ?_, ?_⟩; (go_simp; (try simp only [lu, lv, if_true]); rfl))); (simp only [Act.put, List.setIfInBounds_toArray, List.set_cons_succ, List.set_cons_zero])))
      unfold wpStill
      go_wp2_with (first | (refine wpList_set1 rfl _ _ _ rfl _ _ rfl _ rfl ?_ hM 0 rfl (by assumption) (cellTab _ rfl) (by omega) ?_; (first | rfl | exact h1 _); intro W' hM'; clear hM; have hM := hM'; clear hM'; simp [List.set, Act.eval] at hM))
      have hgood : fineAt g (u, v) = true := by
        rw [← fine_rest (l := pre.map (·.1)) (show u < 10 by omega) (fun s hs => by obtain ⟨c, hc, rfl⟩ := List.mem_map.1 hs; exact hf c hc)]
        exact inB_yes (by omega)
      refine ⟨hM.good.2, fun _ => hM.ats 3 _ _ _ rfl, fun s hs => ?_, ?_⟩
      · rcases List.mem_append.1 hs with h | h
        · exact hf s h
        · rw [List.mem_singleton.1 h]; exact hgood
      · rw [List.map_append]
        exact (((hM.take 4).base hM.good.1).re 0 rfl _ (fun k hk => restAt_upd (show u < 10 by omega)))
  case done =>
    rename_i K7 hK7
    intro D xs X hD hS hI hK
    obtain ⟨hf, hM⟩ := hI
    rw [hS] at hM
    have hM' : Mem (Base.round w W1.heap.size X) _ X := hM.base ⟨hM.below, KeepsFrom.refl _ _⟩
    clear hM
    have hM := hM'
    clear hM'
    show K7 _ _
    refine hK7 _ _ ?_
    dsimp only
    go_wp2_with (first | (refine wpList_get rfl _ _ rfl _ _ rfl hM 0 rfl (rowTab _ _ rfl) (by omega) ?_) | (refine wpList_set1 rfl _ _ _ rfl _ _ rfl _ rfl ?_ hM 1 rfl (by assumption) (cellTab _ rfl) (by omega) ?_; (first | rfl | exact h1 _); intro W' hM'; clear hM; have hM := hM'; clear hM'; simp [List.set, Act.eval] at hM))
    have hK' : W'.heap[D]? = some (.deferred (some [])) := hM.good.2.same D _ hD hK rfl
    refine ⟨by simp, .inl ⟨_, _, rfl, run_takeDeferred hK', ?_⟩⟩
    have hB := hM.only (w' := Base.of w) 1 rfl (fun _ => .bool (grassB g W H)) (fun k hk => by
      have hall : ((upto W (W * H)).all (fineAt g)) = true := List.all_eq_true.2 fun s hs => by
        rw [← hS] at hs
        obtain ⟨c, hc, rfl⟩ := List.mem_map.1 hs
        exact hf c hc
      simp [upd, grassB, hall]
      omega) hM.good.1
    refine ⟨.bool (grassB g W H), results_at1 rfl _ rfl (hB.at0.grown (grownBy_putObj' W' D _) (fun r e => by cases e; exact ⟨_, hK', rfl⟩)) (by omega) (cellTab _ rfl) _ rfl, rfl, ?_⟩
    exact Below.grown hB.below (grownBy_putObj' W' D _) hB.below.size (fun k e => by cases e; exact Nat.le_trans hsz hD)
  case stop =>
    intro D c pre X hD hS hI hK
    obtain ⟨rfl, hno, hM⟩ := hI
    refine wpIn_ret ?_
    refine ⟨by simp, .inl ⟨_, _, rfl, run_takeDeferred hK, ?_⟩⟩
    refine ⟨.bool false, results_at1 rfl _ rfl (hM.at0.grown (grownBy_putObj' X D _) (fun r e => by cases e; exact ⟨_, hK, rfl⟩)) (by omega) (cellTab _ rfl) _ rfl, ?_⟩
    rw [hno]
    exact ⟨rfl, Below.grown hM.below (grownBy_putObj' X D _) hM.below.size (fun k e => by cases e; exact Nat.le_trans hsz hD)⟩
end Go.Proofs.YtaaphdbaocjecaaGreatDoor

/-
  impl.ValidPasture by contract.
-/
namespace Go.Proofs.YtaaphdbaocjecaaGreatDoor
open Go Go.RowKit Go.BigFrame

/-- Is a pasture valid, as impl asks it? -/
def validB (g : Nat → Int) : Bool := inB 1 10 (g 0) && inB 1 10 (g 1) && (grassB g (g 0).toNat (g 1).toNat && hurB g)

set_option maxRecDepth 100000 in
set_option maxHeartbeats 2000000 in
theorem implValid_any (g : Nat → Int) (hg : Fits g) (w : World) :
    Calls Tryz.prog 55 #[.agg (arr 122 (pas g))] w fun e w' => e = .returned (.bool (validB g)) ∧ Below w.heap.size w w' := by
  have hM := Mem.nil w
  have e0 : pas g 0 = .int .i8 (g 0) := rfl
  have e1 : pas g 1 = .int .i8 (g 1) := rfl
  have hw := hg.w
  have hh := hg.h
  have tk_b1 : True := trivial
  rcases (show g 0 < 1 ∨ (¬ g 0 < 1 ∧ 10 < g 0) ∨ (¬ g 0 < 1 ∧ ¬ 10 < g 0) by omega) with r0 | ⟨r0, r1⟩ | ⟨r0, r1⟩
  · have hf : Hid (validB g = false) := Lib.hid (by simp [validB, inB_no (show ¬ (1 ≤ g 0 ∧ g 0 ≤ 10) by omega)])
    have d0 : decide (g 0 < 1) = true := decide_eq_true r0
    go_enter Tryz.func55, Tryz.ntmps55
    go_wp2_with (first | (have _t := tk_b1; refine wpList_box rfl _ _ rfl _ _ rfl hM ?_; intro b1 W' hb1 hM'; clear hM tk_b1; have hM := hM'; clear hM') | (refine wpList_get1 rfl _ _ rfl _ _ rfl hM 0 rfl (cellTab _ rfl) (by omega) _ rfl ?_) | (refine wpList_gget1 ?_ _ _ rfl _ _ rfl hM 0 rfl (cellTab _ rfl) (by omega) _ rfl ?_; kernel_rfl))
    go_ret
    exact ⟨ret_bool hf.out.symm, hM.below⟩
  · have hf : Hid (validB g = false) := Lib.hid (by simp [validB, inB_no (show ¬ (1 ≤ g 0 ∧ g 0 ≤ 10) by omega)])
    have d0 : decide (g 0 < 1) = false := decide_eq_false r0
    have d1 : decide (10 < g 0) = true := decide_eq_true r1
    go_enter Tryz.func55, Tryz.ntmps55
    go_wp2_with (first | (have _t := tk_b1; refine wpList_box rfl _ _ rfl _ _ rfl hM ?_; intro b1 W' hb1 hM'; clear hM tk_b1; have hM := hM'; clear hM') | (refine wpList_get1 rfl _ _ rfl _ _ rfl hM 0 rfl (cellTab _ rfl) (by omega) _ rfl ?_) | (refine wpList_gget1 ?_ _ _ rfl _ _ rfl hM 0 rfl (cellTab _ rfl) (by omega) _ rfl ?_; kernel_rfl))
    go_ret
    exact ⟨ret_bool hf.out.symm, hM.below⟩
  have d0 : decide (g 0 < 1) = false := decide_eq_false r0
  have d1 : decide (10 < g 0) = false := decide_eq_false r1
  rcases (show g 1 < 1 ∨ (¬ g 1 < 1 ∧ 10 < g 1) ∨ (¬ g 1 < 1 ∧ ¬ 10 < g 1) by omega) with q0 | ⟨q0, q1⟩ | ⟨q0, q1⟩
  · have hf : Hid (validB g = false) := Lib.hid (by simp [validB, inB_no (show ¬ (1 ≤ g 1 ∧ g 1 ≤ 10) by omega)])
    have d2 : decide (g 1 < 1) = true := decide_eq_true q0
    go_enter Tryz.func55, Tryz.ntmps55
    go_wp2_with (first | (have _t := tk_b1; refine wpList_box rfl _ _ rfl _ _ rfl hM ?_; intro b1 W' hb1 hM'; clear hM tk_b1; have hM := hM'; clear hM') | (refine wpList_get1 rfl _ _ rfl _ _ rfl hM 0 rfl (cellTab _ rfl) (by omega) _ rfl ?_) | (refine wpList_gget1 ?_ _ _ rfl _ _ rfl hM 0 rfl (cellTab _ rfl) (by omega) _ rfl ?_; kernel_rfl))
    go_ret
    exact ⟨ret_bool hf.out.symm, hM.below⟩
  · have hf : Hid (validB g = false) := Lib.hid (by simp [validB, inB_no (show ¬ (1 ≤ g 1 ∧ g 1 ≤ 10) by omega)])
    have d2 : decide (g 1 < 1) = false := decide_eq_false q0
    have d3 : decide (10 < g 1) = true := decide_eq_true q1
    go_enter Tryz.func55, Tryz.ntmps55
    go_wp2_with (first | (have _t := tk_b1; refine wpList_box rfl _ _ rfl _ _ rfl hM ?_; intro b1 W' hb1 hM'; clear hM tk_b1; have hM := hM'; clear hM') | (refine wpList_get1 rfl _ _ rfl _ _ rfl hM 0 rfl (cellTab _ rfl) (by omega) _ rfl ?_) | (refine wpList_gget1 ?_ _ _ rfl _ _ rfl hM 0 rfl (cellTab _ rfl) (by omega) _ rfl ?_; kernel_rfl))
    go_ret
    exact ⟨ret_bool hf.out.symm, hM.below⟩
  have d2 : decide (g 1 < 1) = false := decide_eq_false q0
  have d3 : decide (10 < g 1) = false := decide_eq_false q1
  have hgr := fun W => hasValidGrass_any g hg (g 0).toNat (g 1).toNat (by omega) (by omega) (by omega) (by omega) W
  have hhr := fun W => hasValidHurdles_any g hg (by omega) (by omega) W
  have hv : Hid (validB g = (grassB g (g 0).toNat (g 1).toNat && hurB g)) := Lib.hid (by simp [validB, inB_yes (show 1 ≤ g 0 ∧ g 0 ≤ 10 by omega), inB_yes (show 1 ≤ g 1 ∧ g 1 ≤ 10 by omega)])
  cases hB : grassB g (g 0).toNat (g 1).toNat
  · rw [hB] at hgr
    have hf : Hid (validB g = false) := Lib.hid (by rw [hv.out, hB]; rfl)
    go_enter Tryz.func55, Tryz.ntmps55
    go_wp2_with (first | (have _t := tk_b1; refine wpList_box rfl _ _ rfl _ _ rfl hM ?_; intro b1 W' hb1 hM'; clear hM tk_b1; have hM := hM'; clear hM') | (refine wpList_get1 rfl _ _ rfl _ _ rfl hM 0 rfl (cellTab _ rfl) (by omega) _ rfl ?_) | (refine wpList_get rfl _ _ rfl _ _ rfl hM 0 rfl (rowTab _ _ rfl) (by omega) ?_) | (go_at_call 66; refine (hgr _).mono ?_; rintro e W' ⟨rfl, hb'⟩; have hM' := hM.call hb'; clear hM hb'; have hM := hM'; clear hM') | (refine wpList_gget1 ?_ _ _ rfl _ _ rfl hM 0 rfl (cellTab _ rfl) (by omega) _ rfl ?_; kernel_rfl))
    go_ret
    exact ⟨ret_bool hf.out.symm, hM.below⟩
  · rw [hB] at hgr
    have hf : Hid (validB g = hurB g) := Lib.hid (by rw [hv.out, hB]; rfl)
    go_enter Tryz.func55, Tryz.ntmps55
    go_wp2_with (first | (have _t := tk_b1; refine wpList_box rfl _ _ rfl _ _ rfl hM ?_; intro b1 W' hb1 hM'; clear hM tk_b1; have hM := hM'; clear hM') | (refine wpList_get1 rfl _ _ rfl _ _ rfl hM 0 rfl (cellTab _ rfl) (by omega) _ rfl ?_) | (refine wpList_get rfl _ _ rfl _ _ rfl hM 0 rfl (rowTab _ _ rfl) (by omega) ?_) | (go_at_call 66; refine (hgr _).mono ?_; rintro e W' ⟨rfl, hb'⟩; have hM' := hM.call hb'; clear hM hb'; have hM := hM'; clear hM') | (go_at_call 67; refine (hhr _).mono ?_; rintro e W' ⟨rfl, hb'⟩; have hM' := hM.call hb'; clear hM hb'; have hM := hM'; clear hM') | (refine wpList_gget1 ?_ _ _ rfl _ _ rfl hM 0 rfl (cellTab _ rfl) (by omega) _ rfl ?_; kernel_rfl) | (refine wpList_gget ?_ _ _ rfl _ _ rfl hM 0 rfl (rowTab _ _ rfl) (by omega) ?_; kernel_rfl))
    go_ret
    exact ⟨ret_bool hf.out.symm, hM.below⟩
end Go.Proofs.YtaaphdbaocjecaaGreatDoor

/-
  The document's 'valid' both ways: row by row over all 100 places, or cell by cell over the pasture's own and nothing behind them.
-/
namespace Go.Proofs.YtaaphdbaocjecaaGreatDoor
open Go Go.RowKit

theorem isB_iff {g : Nat → Int} {W H x y : Nat} (hg0 : g 0 = W) (hg1 : g 1 = H) : isB g x y = true ↔ x < W ∧ y < H := by
  simp only [isB, inB, Bool.and_eq_true, decide_eq_true_eq, hg0, hg1]; omega
theorem upto_mem {W H x y : Nat} (h : (x, y) ∈ upto W (W * H)) : x < W ∧ y < H := by
  unfold upto at h
  obtain ⟨i, hi, e⟩ := List.mem_map.1 h
  have hi := List.mem_range.1 hi
  unfold cellAt at e
  have e1 : i % W = x := congrArg Prod.fst e
  have e2 : i / W = y := congrArg Prod.snd e
  have hW : 0 < W := by
    cases W with
    | zero => simp at hi
    | succ n => omega
  exact ⟨by rw [← e1]; exact Nat.mod_lt _ hW, by rw [← e2]; exact Nat.div_lt_of_lt_mul hi⟩

theorem cellOk_iff {g : Nat → Int} {W H x y : Nat} (hg0 : g 0 = W) (hg1 : g 1 = H) : cellOk g y x = true ↔ (0 ≤ g (2 + (y * 10 + x)) ∧ g (2 + (y * 10 + x)) ≤ 1000) ∧ (g (2 + (y * 10 + x)) = 0 ∨ (x < W ∧ y < H)) := by
  have e : 2 + y * 10 + x = 2 + (y * 10 + x) := by omega
  unfold cellOk
  rw [e, Bool.and_eq_true, Bool.or_eq_true, isB_iff hg0 hg1]
  simp only [inB, decide_eq_true_eq]
  omega

theorem cells_grass {g : Nat → Int} {W H : Nat} (hg0 : g 0 = W) (hg1 : g 1 = H) (hW : W ≤ 10) (hH : H ≤ 10) :
    (∀ y, y < 10 → ∀ x, x < 10 → cellOk g y x = true) ↔ grassB g W H = true := by
  unfold grassB
  rw [Bool.and_eq_true, List.all_eq_true, eqTo_iff]
  constructor
  · intro h
    refine ⟨fun s hs => ?_, fun k hk => ?_⟩
    · obtain ⟨x, y⟩ := s
      obtain ⟨hx, hy⟩ := upto_mem hs
      exact inB_yes ((cellOk_iff hg0 hg1).1 (h y (by omega) x (by omega))).1
    · have hx : k % 10 < 10 := Nat.mod_lt _ (by omega)
      have ek : k / 10 * 10 + k % 10 = k := by omega
      have hr := restAt_of (g := g) (l := upto W (W * H)) (x := k % 10) (y := k / 10) hx
      rw [ek] at hr
      rw [hr]
      split
      · rfl
      · rename_i hn
        have hc := ((cellOk_iff hg0 hg1).1 (h (k / 10) (by omega) (k % 10) hx)).2
        rw [ek] at hc
        rcases hc with hc | hc
        · exact hc
        · exact absurd (mem_upto hc.1 hc.2) hn
  · rintro ⟨h1, h2⟩ y hy x hx
    rw [cellOk_iff hg0 hg1]
    by_cases hin : x < W ∧ y < H
    · have := inB_true (h1 _ (mem_upto hin.1 hin.2))
      exact ⟨this, .inr hin⟩
    · have hr := h2 (y * 10 + x) (by omega)
      rw [restAt_of hx, if_neg (fun hm => hin (upto_mem hm))] at hr
      exact ⟨by omega, .inl hr⟩

theorem okB_eq (g : Nat → Int) : okB g = validB g := by
  unfold okB validB
  cases b0 : inB 1 10 (g 0)
  · rfl
  cases b1 : inB 1 10 (g 1)
  · rfl
  have h0 := inB_true b0
  have h1 := inB_true b1
  have hg0 : g 0 = ((g 0).toNat : Int) := by omega
  have hg1 : g 1 = ((g 1).toNat : Int) := by omega
  have key := cells_grass hg0 hg1 (by omega) (by omega)
  simp only [Bool.true_and]
  rw [Bool.eq_iff_iff, Bool.and_eq_true, ← key, List.all_eq_true]
  unfold hurB
  rw [List.all_eq_true]
  constructor
  · intro h
    have h' : ∀ y, y < 10 → (∀ x, x < 10 → cellOk g y x = true) ∧ badE g y = false ∧ badS g y = false := fun y hy => by
      have hr := h y (List.mem_range.2 hy)
      unfold rowOk at hr
      rw [Bool.and_eq_true, Bool.and_eq_true, List.all_eq_true] at hr
      exact ⟨fun x hx => hr.1.1 x (List.mem_range.2 hx), by simpa using hr.1.2, by simpa using hr.2⟩
    exact ⟨fun y hy => (h' y hy).1, fun y hy => by have := h' y (List.mem_range.1 hy); simp [this.2.1, this.2.2]⟩
  · rintro ⟨h1, h2⟩ y hy
    have hy' := List.mem_range.1 hy
    have h3 := h2 y hy
    rw [Bool.and_eq_true] at h3
    unfold rowOk
    rw [Bool.and_eq_true, Bool.and_eq_true, List.all_eq_true]
    exact ⟨⟨fun x hx => h1 y hy' x (List.mem_range.1 hx), h3.1⟩, h3.2⟩
end Go.Proofs.YtaaphdbaocjecaaGreatDoor

/-
  spec.l07Seen, l07Sights by contracts: sights that are valid for a pasture.
-/
namespace Go.Proofs.YtaaphdbaocjecaaGreatDoor
open Go Go.RowKit Go.BigFrame

/-- Does the i-th sight have a day as told? -/
def dayB (hs : Nat → Nat → Int) (i : Nat) : Bool := inB 0 1000 (hs i 0) && (decide (i = 0) || decide (hs (i - 1) 0 ≤ hs i 0))
def seenB (n : Nat) (hs : Nat → Nat → Int) : Bool := (List.range n).all (dayB hs) && decide (n ≤ 40)
def sightsB (g : Nat → Int) (n : Nat) (hs : Nat → Nat → Int) : Bool := okB g && (seenB n hs && (List.range n).all fun i => isB g (hs i 1) (hs i 2))
theorem dayB_range {hs : Nat → Nat → Int} {i : Nat} (h : inB 0 1000 (hs i 0) = false) : dayB hs i = false := by simp [dayB, h]
theorem dayB_down {hs : Nat → Nat → Int} {i : Nat} (h0 : i ≠ 0) (h : hs i 0 < hs (i - 1) 0) : dayB hs i = false := by
  have : decide (hs (i - 1) 0 ≤ hs i 0) = false := decide_eq_false (by omega)
  simp [dayB, h0, this]
theorem dayB_first {hs : Nat → Nat → Int} (h : inB 0 1000 (hs 0 0) = true) : dayB hs 0 = true := by simp [dayB, h]
theorem dayB_up {hs : Nat → Nat → Int} {i : Nat} (h : inB 0 1000 (hs i 0) = true) (h1 : ¬ hs i 0 < hs (i - 1) 0) : dayB hs i = true := by
  have : decide (hs (i - 1) 0 ≤ hs i 0) = true := decide_eq_true (by omega)
  simp [dayB, h, this]
theorem seenB_no {n i : Nat} {hs : Nat → Nat → Int} (hi : i < n) (h : dayB hs i = false) : seenB n hs = false := by
  have : (List.range n).all (dayB hs) = false := by rw [List.all_eq_false]; exact ⟨i, by simpa using hi, by rw [h]; decide⟩
  simp [seenB, this]
theorem seenB_all {n : Nat} {hs : Nat → Nat → Int} (h : ∀ i, i < n → dayB hs i = true) : seenB n hs = decide (n ≤ 40) := by
  have : (List.range n).all (dayB hs) = true := by rw [List.all_eq_true]; intro i hi; exact h i (by simpa using hi)
  simp [seenB, this]
theorem sightsB_ok {g : Nat → Int} {n : Nat} {hs : Nat → Nat → Int} (h : okB g = false) : sightsB g n hs = false := by simp [sightsB, h]
theorem sightsB_seen {g : Nat → Int} {n : Nat} {hs : Nat → Nat → Int} (h : seenB n hs = false) : sightsB g n hs = false := by simp [sightsB, h]
theorem sightsB_no {g : Nat → Int} {n i : Nat} {hs : Nat → Nat → Int} (hi : i < n) (h : isB g (hs i 1) (hs i 2) = false) : sightsB g n hs = false := by
  have : ((List.range n).all fun i => isB g (hs i 1) (hs i 2)) = false := by rw [List.all_eq_false]; exact ⟨i, by simpa using hi, by rw [h]; decide⟩
  simp [sightsB, this]
theorem sightsB_yes {g : Nat → Int} {n : Nat} {hs : Nat → Nat → Int} (ho : okB g = true) (hd : seenB n hs = true) (h : ∀ i, i < n → isB g (hs i 1) (hs i 2) = true) : sightsB g n hs = true := by
  have : ((List.range n).all fun i => isB g (hs i 1) (hs i 2)) = true := by rw [List.all_eq_true]; intro i hi; exact h i (by simpa using hi)
  simp [sightsB, this, ho, hd]

set_option maxRecDepth 100000 in
set_option maxHeartbeats 4000000 in
theorem l07Seen_anyG (b n c : Nat) (hs : Nat → Nat → Int) (hF : ∀ i, i < n → FitsSight (hs i)) (hn : n ≤ 1048576) (w : World) (N : Nat) (G : Nat → Value) (hG : ∀ j, j < n * 3 → G j = sSight hs j) (hN : n * 3 ≤ N) (hB : At w b N G) :
    Calls Tryz.prog 24 #[.slice (some ⟨b, 0, none⟩) n c] w fun e w' => e = .returned (.bool (seenB n hs)) ∧ Below w.heap.size w w' := by
  have hM : Mem w [(b, N, G)] w := (Mem.nil w).old hB (fun i p h => by simp at h)
  have HG := Lib.hid hG
  clear hG
  have HF := Lib.hid hF
  clear hF hB
  go_enter Tryz.func24, Tryz.ntmps24
  go_wp2
  go_loopw [3] (fun i wr => ∃ k : Nat, k ≤ n ∧ i = .int .i64 k ∧ Hid (∀ j, j < k → dayB hs j = true) ∧ Mem w [(b, N, G)] wr) (fun i _ => n - (intOf i).toNat)
  case atStart => exact ⟨0, by omega, rfl, Lib.hid (fun j hj => absurd hj (by omega)), hM⟩
  case round =>
    clear hM
    obtain ⟨k, hk, rfl, hall, hM⟩ := hrel
    by_cases hlt : k < n
    · have l2 : (k : Int) < n := by omega
      have eG : arr 3 (fun j => G (k * 3 + j)) = arr 3 (vSight (hs k)) := arr_congr fun j hj => by rw [HG.out _ (by omega), sSight_row _ _ _ hj]
      have fk := (HF.out k hlt).c0
      have c1 : IntKind.i64.wrap (hs k 0) = hs k 0 := IntWalk.i64_in _ (by omega)
      have ek : G (k * 3) = .int .i16 (hs k 0) := (HG.out _ (by omega)).trans (sSight_row hs k 0 (by omega))
      cases hr : inB 0 1000 (hs k 0)
      · have Hx := Lib.hid (dayB_range hr)
        have Hr := Lib.hid hr
        clear hr
        go_wp2
        ((try simp only [Act.put, List.setIfInBounds_toArray, List.set_cons_succ, List.set_cons_zero]); refine wp_region_mem (by kernel_rfl) (by kernel_rfl) hM ?_; clear hM; (repeat (first | go_big_quiet_skip | (go_big_quiet_want; first | (refine quiet_get1 _ _ rfl _ _ rfl 0 rfl (cellTab _ rfl) (by omega) _ (ek) ?_; (simp only [Act.put, List.setIfInBounds_toArray, List.set_cons_succ, List.set_cons_zero]); go_big_quiet_on) | (refine quiet_call ?_; apply Exists.intro; apply Exists.intro; apply Exists.intro; refine ⟨fun W => ?_, fun W hM => ?_, ?_⟩; (go_simp; exact ⟨rfl, rfl⟩); (with_reducible exact l01Grass_any (hs k 0) W); (simp only [Hr.out]); (simp only [Act.put, List.setIfInBounds_toArray, List.set_cons_succ, List.set_cons_zero]); go_big_quiet_on) | (refine quiet_val ?_; apply Exists.intro; refine ⟨fun W => ?_, ?_⟩; (go_simp; (try simp only [l2, c1, if_true, Bool.false_eq_true, if_false]); rfl); (simp only [Act.put, List.setIfInBounds_toArray, List.set_cons_succ, List.set_cons_zero]); go_big_quiet_on)))); (with_reducible refine wpQuiet_nil ?_); intro W' hM)
        go_wp2
        go_ret
        exact ⟨ret_bool (seenB_no hlt Hx.out).symm, hM.below⟩
      · by_cases h0 : k = 0
        · have Hx : Hid (dayB hs k = true) := Lib.hid (by rw [h0] at hr ⊢; exact dayB_first hr)
          have Hr := Lib.hid hr
          have l0 : decide (0 < (k : Int)) = false := decide_eq_false (by omega)
          have l0' : ¬ 0 < k := by omega
          clear hr h0
          go_wp2
          ((try simp only [Act.put, List.setIfInBounds_toArray, List.set_cons_succ, List.set_cons_zero]); refine wp_region_mem (by kernel_rfl) (by kernel_rfl) hM ?_; clear hM; (repeat (first | go_big_quiet_skip | (go_big_quiet_want; first | (refine quiet_get1 _ _ rfl _ _ rfl 0 rfl (cellTab _ rfl) (by omega) _ (ek) ?_; (simp only [Act.put, List.setIfInBounds_toArray, List.set_cons_succ, List.set_cons_zero]); go_big_quiet_on) | (refine quiet_call ?_; apply Exists.intro; apply Exists.intro; apply Exists.intro; refine ⟨fun W => ?_, fun W hM => ?_, ?_⟩; (go_simp; exact ⟨rfl, rfl⟩); (with_reducible exact l01Grass_any (hs k 0) W); (simp only [Hr.out]); (simp only [Act.put, List.setIfInBounds_toArray, List.set_cons_succ, List.set_cons_zero]); go_big_quiet_on) | (refine quiet_val ?_; apply Exists.intro; refine ⟨fun W => ?_, ?_⟩; (go_simp; (try simp only [l2, c1, l0, l0', if_true, Bool.false_eq_true, if_false]); rfl); (simp only [Act.put, List.setIfInBounds_toArray, List.set_cons_succ, List.set_cons_zero]); go_big_quiet_on)))); (with_reducible refine wpQuiet_nil ?_); intro W' hM)
          go_wp2
          go_roundw
          case rel => exact ⟨k + 1, by omega, by go_num, Lib.hid (fun j hj => by
            by_cases e : j = k
            · rw [e]; exact Hx.out
            · exact hall.out j (by omega)), hM⟩
          case measure => simp [intOf]; omega
        · obtain ⟨q, hq⟩ : ∃ q : Nat, q = k - 1 := ⟨_, rfl⟩
          have eq : G (q * 3) = .int .i16 (hs q 0) := (HG.out _ (by omega)).trans (sSight_row hs q 0 (by omega))
          have l0 : decide (0 < (k : Int)) = true := decide_eq_true (by omega)
          have l0' : 0 < k := by omega
          have l3 : (q : Int) < n := by omega
          have c2 : IntKind.i64.wrap ((k : Int) - 1) = q := by rw [IntWalk.i64_in _ (by omega)]; omega
          by_cases hd : hs k 0 < hs q 0
          · have Hx := Lib.hid (dayB_down (hs := hs) h0 (by rw [← hq]; exact hd))
            have Hr := Lib.hid hr
            clear hr h0 hq
            go_wp2
            ((try simp only [Act.put, List.setIfInBounds_toArray, List.set_cons_succ, List.set_cons_zero]); refine wp_region_mem (by kernel_rfl) (by kernel_rfl) hM ?_; clear hM; (repeat (first | go_big_quiet_skip | (go_big_quiet_want; first | (refine quiet_get1 _ _ rfl _ _ rfl 0 rfl (cellTab _ rfl) (by omega) _ (ek) ?_; (simp only [Act.put, List.setIfInBounds_toArray, List.set_cons_succ, List.set_cons_zero]); go_big_quiet_on) | (refine quiet_get1 _ _ rfl _ _ rfl 0 rfl (cellTab _ rfl) (by omega) _ (eq) ?_; (simp only [Act.put, List.setIfInBounds_toArray, List.set_cons_succ, List.set_cons_zero]); go_big_quiet_on) | (refine quiet_call ?_; apply Exists.intro; apply Exists.intro; apply Exists.intro; refine ⟨fun W => ?_, fun W hM => ?_, ?_⟩; (go_simp; exact ⟨rfl, rfl⟩); (with_reducible exact l01Grass_any (hs k 0) W); (simp only [Hr.out]); (simp only [Act.put, List.setIfInBounds_toArray, List.set_cons_succ, List.set_cons_zero]); go_big_quiet_on) | (refine quiet_val ?_; apply Exists.intro; refine ⟨fun W => ?_, ?_⟩; (go_simp; (try simp only [l2, l3, c1, c2, l0, l0', hd, if_true, Bool.false_eq_true, if_false]); rfl); (simp only [Act.put, List.setIfInBounds_toArray, List.set_cons_succ, List.set_cons_zero]); go_big_quiet_on)))); (with_reducible refine wpQuiet_nil ?_); intro W' hM)
            go_wp2
            go_ret
            exact ⟨ret_bool (seenB_no hlt Hx.out).symm, hM.below⟩
          · have Hx := Lib.hid (dayB_up (hs := hs) hr (by rw [← hq]; exact hd))
            have Hr := Lib.hid hr
            clear hr h0 hq
            go_wp2
            ((try simp only [Act.put, List.setIfInBounds_toArray, List.set_cons_succ, List.set_cons_zero]); refine wp_region_mem (by kernel_rfl) (by kernel_rfl) hM ?_; clear hM; (repeat (first | go_big_quiet_skip | (go_big_quiet_want; first | (refine quiet_get1 _ _ rfl _ _ rfl 0 rfl (cellTab _ rfl) (by omega) _ (ek) ?_; (simp only [Act.put, List.setIfInBounds_toArray, List.set_cons_succ, List.set_cons_zero]); go_big_quiet_on) | (refine quiet_get1 _ _ rfl _ _ rfl 0 rfl (cellTab _ rfl) (by omega) _ (eq) ?_; (simp only [Act.put, List.setIfInBounds_toArray, List.set_cons_succ, List.set_cons_zero]); go_big_quiet_on) | (refine quiet_call ?_; apply Exists.intro; apply Exists.intro; apply Exists.intro; refine ⟨fun W => ?_, fun W hM => ?_, ?_⟩; (go_simp; exact ⟨rfl, rfl⟩); (with_reducible exact l01Grass_any (hs k 0) W); (simp only [Hr.out]); (simp only [Act.put, List.setIfInBounds_toArray, List.set_cons_succ, List.set_cons_zero]); go_big_quiet_on) | (refine quiet_val ?_; apply Exists.intro; refine ⟨fun W => ?_, ?_⟩; (go_simp; (try simp only [l2, l3, c1, c2, l0, l0', hd, if_true, Bool.false_eq_true, if_false]); rfl); (simp only [Act.put, List.setIfInBounds_toArray, List.set_cons_succ, List.set_cons_zero]); go_big_quiet_on)))); (with_reducible refine wpQuiet_nil ?_); intro W' hM)
            go_wp2
            go_roundw
            case rel => exact ⟨k + 1, by omega, by go_num, Lib.hid (fun j hj => by
              by_cases e : j = k
              · rw [e]; exact Hx.out
              · exact hall.out j (by omega)), hM⟩
            case measure => simp [intOf]; omega
    · obtain rfl : k = n := by omega
      have Hp := Lib.hid (seenB_all hall.out)
      by_cases h40 : k ≤ 40
      · have d1 : decide ((k : Int) ≤ 40) = true := decide_eq_true (by omega)
        have d2 : (k : Int) ≤ 40 := by omega
        go_wp2
        go_ret
        exact ⟨ret_bool (by rw [Hp.out]; exact (decide_eq_true h40).symm), hM.below⟩
      · have d1 : decide ((k : Int) ≤ 40) = false := decide_eq_false (by omega)
        have d2 : ¬ (k : Int) ≤ 40 := by omega
        go_wp2
        go_ret
        exact ⟨ret_bool (by rw [Hp.out]; exact (decide_eq_false h40).symm), hM.below⟩

theorem l07Seen_any (b n c : Nat) (hs : Nat → Nat → Int) (hF : ∀ i, i < n → FitsSight (hs i)) (hn : n ≤ 1048576) (w : World) (hB : At w b (n * 3) (sSight hs)) :
    Calls Tryz.prog 24 #[.slice (some ⟨b, 0, none⟩) n c] w fun e w' => e = .returned (.bool (seenB n hs)) ∧ Below w.heap.size w w' :=
  l07Seen_anyG b n c hs hF hn w (n * 3) (sSight hs) (fun _ _ => rfl) (Nat.le_refl _) hB
end Go.Proofs.YtaaphdbaocjecaaGreatDoor

/-
  The text of sights.
-/
namespace Go.Proofs.YtaaphdbaocjecaaGreatDoor
open Go Go.RowKit Go.BigFrame

def sightW (hs : Nat → Nat → Int) (k : Nat) : List UInt8 := numB (hs k 0) ++ [58] ++ spotT (hs k 1) (hs k 2)
def sightsT (n : Nat) (hs : Nat → Nat → Int) : List UInt8 := if sightsB gMost n hs then joinT [32] (sightW hs) n else []
theorem sightsT_no {n : Nat} {hs : Nat → Nat → Int} (h : sightsB gMost n hs = false) : sightsT n hs = [] := by unfold sightsT; rw [h]; rfl
theorem sightsT_yes {n : Nat} {hs : Nat → Nat → Int} (h : sightsB gMost n hs = true) : sightsT n hs = joinT [32] (sightW hs) n := by unfold sightsT; rw [h]; rfl
theorem sightsB_most {n : Nat} {hs : Nat → Nat → Int} (h : sightsB gMost n hs = true) : n ≤ 40 ∧ ∀ i, i < n → (0 ≤ hs i 0 ∧ hs i 0 ≤ 1000) ∧ (0 ≤ hs i 1 ∧ hs i 1 ≤ 9) ∧ (0 ≤ hs i 2 ∧ hs i 2 ≤ 9) := by
  unfold sightsB seenB at h
  simp only [Bool.and_eq_true, List.all_eq_true, List.mem_range, decide_eq_true_eq, isB_most] at h
  obtain ⟨-, ⟨h1, h2⟩, h3⟩ := h
  refine ⟨h2, fun i hi => ?_⟩
  have a := h1 i hi
  unfold dayB at a
  rw [Bool.and_eq_true] at a
  exact ⟨inB_true a.1, inB_true (h3 i hi).1, inB_true (h3 i hi).2⟩
theorem sightW_len {hs : Nat → Nat → Int} {k : Nat} (h : (0 ≤ hs k 0 ∧ hs k 0 ≤ 1000) ∧ (0 ≤ hs k 1 ∧ hs k 1 ≤ 9) ∧ (0 ≤ hs k 2 ∧ hs k 2 ≤ 9)) : (sightW hs k).length ≤ 32 := by
  have := numB_len (n := hs k 0) (by omega)
  have := spotT_len (x := hs k 1) (y := hs k 2) (by omega) (by omega)
  simp [sightW]; omega
end Go.Proofs.YtaaphdbaocjecaaGreatDoor

