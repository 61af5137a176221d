/-
  Several texts in one: ListC, ListK, MeadowV, MeadowQ, Spec1, CodeOf, UpTo, Neq0, Slice.
-/
import Derived.Test.YtbbododeglkghaaDoorP1
import Derived.Deep.Slices
import Derived.ChangeSame
import Derived.Laws.MakeOwn
import Derived.Lib.Hide
import Derived.WalkKit
import Derived.OwnWalk
import Derived.BigQuiet
import Derived.Great.BuildSlice
/-
  Lists as arguments: make; what lies in memory of old; lists of elements of one cell; a number out of a reading.
-/
namespace Go.Proofs.YtbbododeglkghaaDoor
open Go Go.RowKit Go.BigFrame Go.ChangeShapes Go.WideShapes Go.Deep

/-! ### make -/
variable {P : Program} {ops : Array Oper} {rest : List Oper} {o : Oper} {a : Act} {w : Base} {W : World} {Q : Exit → Act → World → Prop} {L : Blocks}
theorem made_arr (m N : Nat) (z : Nat → Value) (hm : 0 < m) : madeCells (arr m z) N = arr N (fun k => z (k % m)) := by
  refine arr_ext (by simp [madeCells]) (fun k hk => ?_)
  have : k % m < m := Nat.mod_lt _ hm
  simp [madeCells, hk, arr_size, getElem!_def, arr_at this]
theorem wpList_make (hgd : o.guard = none) (t e : TypeId) (x y : Operand) (ho : o.op = .makeSlice t x y) (n : Nat) (hx : a.eval x = .int .i64 n) (hy : a.eval y = .int .i64 n) (m : Nat) (z : Nat → Value) (bs : Nat)
    (hu : P.underlying t = some (.slice e)) (hz : (P.info? e).map (fun i => (i.size, i.zero, i.bytes)) = some (m, some (.agg (arr m z)), bs)) (hm : 0 < m) (hbs : bs ≤ 1000) (hn : n ≤ 1048576) (hM : Mem w L W)
    (h : ∀ b W', w.B ≤ b → Mem w ((b, n * m, fun k => z (k % m)) :: L) W' → wpList P ops Q rest (a.put o.dst (.slice (some ⟨b, 0, none⟩) n n)) W') : wpList P ops Q (o :: rest) a W := by
  obtain ⟨ie, hie, hq⟩ := Option.map_eq_some_iff.1 hz
  simp only [Prod.mk.injEq] at hq
  obtain ⟨q1, q2, q3⟩ := hq
  refine wpList_plain hgd fun K hK => ?_
  have hb : (ie.bytes : Int) * (n : Int) ≤ 281474976710656 := by
    rw [q3]
    have : bs * n ≤ 1000 * 1048576 := Nat.mul_le_mul hbs hn
    have h2 : ((bs * n : Nat) : Int) ≤ 1000 * 1048576 := by omega
    rw [Int.natCast_mul] at h2
    omega
  have hr := run_make (P := P) W t e ie (.agg (arr m z)) hu hie q2 .i64 .i64 n n (by omega) (Int.le_refl _) hb (by omega)
  simp only [Int.toNat_natCast, Value.cells, q1, made_arr m _ z hm] at hr
  unfold Oper.wp execOp
  simp only [ho, hx, hy, Sem.run_bind, Sem.run_pure, hr, Result.andThen_ok]
  exact hK _ _ (h _ _ hM.size (hM.alloc e (n * m) _))

/-- A block of a call that lets lie all that lay, beside those that are known. -/
theorem Mem.fresh' {b0 : Base} {L : Blocks} {X X' : World} {b n : Nat} {f : Nat → Value} (hM : Mem b0 L X) (hb : Below X.heap.size X X') (ha : At X' b n f) (hge : X.heap.size ≤ b) : Mem b0 (L ++ [(b, n, f)]) X' :=
  (hM.call hb).old ha (fun i p h e => by
    have := (hM.ats i p.1 p.2.1 p.2.2 h).lt
    omega)

/-! ### What lies in memory of old -/
def Lies (W : World) (b o n : Nat) (f : Nat → Value) : Prop := ∀ k, k < n → W.cell? ⟨b, o + k, none⟩ = some (f k)
theorem Lies.below {w W : World} {b o n : Nat} {f : Nat → Value} (h : Lies w b o n f) (hb : Below w.heap.size w W) : Lies W b o n f := fun k hk => by
  have := h k hk
  rw [hb.cell (p := ⟨b, o + k, none⟩) (block_lt_of_cell this)]
  exact this
theorem wpList_getL (hgd : o.guard = none) (ty : TypeId) (x : Operand) (ho : o.op = .load ty x) (b off : Nat) (hx : a.eval x = .pointer (some ⟨b, off, none⟩)) (b0 n : Nat) {f : Nat → Value}
    (hL : Lies W b b0 n f) {m : Nat} (hT : RowT P ty m) (i : Nat) (hi : off = b0 + i) (hle : i + m ≤ n)
    (h : wpList P ops Q rest (a.put o.dst (.agg (arr m (fun k => f (i + k))))) W) : wpList P ops Q (o :: rest) a W := by
  obtain ⟨⟨d, hu, hd⟩, hm⟩ := hT
  subst hi
  have hr : W.rangeAt b (b0 + i) (arr m (fun k => f (i + k))).toList := fun j v hv => by
    rw [arr_toList] at hv
    have hj : j < m := by have := (List.getElem?_eq_some_iff.1 hv).1; simpa using this
    simp [hj] at hv
    rw [← hv, Nat.add_assoc]
    exact hL (i + j) (by omega)
  exact wpList_load_mid hgd ty x ho b (b0 + i) hx (arr m (fun k => f (i + k))).toList d hr hu hd (by rw [hm]; simp [arr_size]) (by simpa using h)

section
variable {H : Type} {enc : TypeId × Value → H} {w : World} {base : Nat} {spare : Nat → Bool} {held : Bool}
theorem trod_num {t : TypeId} {κ : IntKind} (ht : P.underlying t = some (.int κ)) {fuel : Nat} {cs : List Value} {x : DataW H × List MemPlace} (h : DataW.trod enc P w base spare held fuel t cs = some x) : ∃ n, cs = [.int κ n] ∧ κ.has n := by
  obtain ⟨n, h1, -, h2⟩ := DataW.trod_int ht h
  exact ⟨n, h1, by simpa [Lit.wf, IntKind.has] using h2⟩

/-- A list of elements of one cell, out of its reading. -/
def Arg1 (W : World) (v : Value) (n : Nat) (f : Nat → Value) : Prop :=
  (n = 0 ∧ v = .slice none 0 0) ∨ ∃ b o c, v = .slice (some ⟨b, o, none⟩) n c ∧ Lies W b o n f
theorem Arg1.below {w W : World} {v : Value} {n : Nat} {f : Nat → Value} (h : Arg1 w v n f) (hb : Below w.heap.size w W) : Arg1 W v n f := by
  rcases h with h | ⟨b, o, c, e, h⟩
  · exact .inl h
  · exact .inr ⟨b, o, c, e, h.below hb⟩
theorem spot_slice {t e : TypeId} (ht : P.underlying t = some (.slice e)) {b0 : Nat} {a : Addr} {l c : Nat} (h : Cell.okWide P w .any b0 t (.slice (some a) l c)) : a.spot = none := by
  simp only [Cell.okWide, Cell.ok, ht] at h
  exact h.2.2.2.1
theorem open_list1 {β : Type} {t e : TypeId} (ht : P.underlying t = some (.slice e)) (hc : P.cellsOf e = 1) (val : β → Value) (fits : β → Prop) (y0 : β)
    (hel : ∀ (fuel : Nat) (v : Value) (x : DataW H × List MemPlace), DataW.trod enc P w base spare held fuel e [v] = some x → ∃ y, v = val y ∧ fits y)
    {v : Value} {b0 fuel : Nat} {x : DataW H × List MemPlace} (hok : Cell.okWide P w .any b0 t v) (h : DataW.trod enc P w base spare held fuel t [v] = some x) :
    ∃ (n : Nat) (ys : Nat → β), n ≤ maxLen ∧ (∀ i, i < n → fits (ys i)) ∧ Arg1 w v n (fun i => val (ys i)) := by
  rcases open_slice1 ht hc h with ⟨h1, -⟩ | ⟨a, len, cap, m, n, V, D, Pl, hcs, hb, hl, hm, hmm, -, hi⟩
  · obtain rfl : v = .slice none 0 0 := by simpa using h1
    exact ⟨0, fun _ => y0, by decide, fun i hi => absurd hi (by omega), .inl ⟨rfl, rfl⟩⟩
  · obtain rfl : v = .slice (some a) len cap := by simpa using hcs
    have hs := spot_slice ht hok
    obtain ⟨ab, ao, asp⟩ := a
    simp only at hs
    subst hs
    have hlen : len ≤ m := by rw [hmm]; split <;> omega
    have key : ∀ i, ∃ y : β, i < len → (V i = val y ∧ fits y) := fun i => by
      by_cases hil : i < len
      · obtain ⟨y, h1, h2⟩ := hel n _ _ (hi i (by omega)).2
        exact ⟨y, fun _ => ⟨h1, h2⟩⟩
      · exact ⟨y0, fun h => absurd h hil⟩
    refine ⟨len, fun i => (key i).choose, by omega, fun i hil => ((key i).choose_spec hil).2, .inr ⟨ab, ao, cap, rfl, fun k hk => ?_⟩⟩
    have h1 := (hi k (by omega)).1
    have e2 : (⟨ab, ao, none⟩ : Addr).add k = ⟨ab, ao + k, none⟩ := by
      unfold Addr.add
      by_cases h0 : k = 0
      · simp [h0]
      · simp [h0]
    rw [e2, ((key k).choose_spec hk).1] at h1
    exact h1
theorem trod_str {t : TypeId} (ht : P.underlying t = some .string) (fuel : Nat) (v : Value) (x : DataW H × List MemPlace) (h : DataW.trod enc P w base spare held fuel t [v] = some x) : ∃ s : ByteArray, v = .string s ∧ s.size ≤ maxLen := by
  obtain ⟨s, h1, -, h2⟩ := DataW.trod_string ht h
  exact ⟨s, by simpa using h1, h2⟩
theorem trod_int1 {t : TypeId} {κ : IntKind} (ht : P.underlying t = some (.int κ)) (fuel : Nat) (v : Value) (x : DataW H × List MemPlace) (h : DataW.trod enc P w base spare held fuel t [v] = some x) : ∃ n, v = .int κ n ∧ κ.has n := by
  obtain ⟨n, h1, h2⟩ := trod_num ht h
  exact ⟨n, by simpa using h1, h2⟩
end

/-- What the size check gives: -1, or what is left. -/
def Left (n : Nat) (left : Int) (w : World) (e : Ending) (w' : World) : Prop := (∃ r : Int, e = .returned (.int .i64 r) ∧ (r = -1 ∨ (0 ≤ r ∧ r ≤ left ∧ (n : Int) ≤ left))) ∧ Below w.heap.size w w'
/-! ### Elements of one cell -/
theorem wpList_make1 (hgd : o.guard = none) (t e : TypeId) (x y : Operand) (ho : o.op = .makeSlice t x y) (n : Nat) (hx : a.eval x = .int .i64 n) (hy : a.eval y = .int .i64 n) (z : Value) (bs : Nat) (hzc : z.oneCell' = true)
    (hu : P.underlying t = some (.slice e)) (hz : (P.info? e).map (fun i => (i.size, i.zero, i.bytes)) = some (1, some z, bs)) (hbs : bs ≤ 1000) (hn : n ≤ 1048576) (hM : Mem w L W)
    (h : ∀ b W', w.B ≤ b → Mem w ((b, n, fun _ => z) :: L) W' → wpList P ops Q rest (a.put o.dst (.slice (some ⟨b, 0, none⟩) n n)) W') : wpList P ops Q (o :: rest) a W := by
  obtain ⟨ie, hie, hq⟩ := Option.map_eq_some_iff.1 hz
  simp only [Prod.mk.injEq] at hq
  obtain ⟨q1, q2, q3⟩ := hq
  refine wpList_plain hgd fun K hK => ?_
  have hb : (ie.bytes : Int) * (n : Int) ≤ 281474976710656 := by
    rw [q3]
    have : bs * n ≤ 1000 * 1048576 := Nat.mul_le_mul hbs hn
    have h2 : ((bs * n : Nat) : Int) ≤ 1000 * 1048576 := by omega
    rw [Int.natCast_mul] at h2
    omega
  have hr := run_make (P := P) W t e ie z hu hie q2 .i64 .i64 n n (by omega) (Int.le_refl _) hb (by omega)
  have hcl : z.cells = #[z] := by cases z <;> first | rfl | (simp [Value.oneCell'] at hzc)
  have hc : madeCells z.cells n = arr n (fun _ => z) := by
    refine arr_ext (by simp [madeCells]) (fun k hk => ?_)
    rw [hcl]
    simp [madeCells, hk, Nat.mod_one]
  simp only [Int.toNat_natCast, q1, Nat.mul_one, hc] at hr
  unfold Oper.wp execOp
  simp only [ho, hx, hy, Sem.run_bind, Sem.run_pure, hr, Result.andThen_ok]
  exact hK _ _ (h _ _ hM.size (hM.alloc e n _))
theorem run_load_cell {ty : TypeId} (hT : CellT P ty) {p : Addr} {v : Value} {W : World} (hc : W.cell? p = some v) : (loadVar ty p).run P W = .ok v W := by
  obtain ⟨⟨d, hu, hd⟩, _⟩ := hT
  have hagg : (isAgg ty).run P W = .ok false W := by
    unfold isAgg
    rw [Sem.run_bind, run_underlying hu W]
    cases d <;> simp_all [TypeDesc.isRow]
  have hl : (load p).run P W = .ok v W := by simp [load, Sem.run, hc]
  simp only [loadVar, Sem.run_bind, Result.andThen_ok, hagg, Bool.false_eq_true, if_false, hl]
theorem wpList_getL1 (hgd : o.guard = none) (ty : TypeId) (x : Operand) (ho : o.op = .load ty x) (b off : Nat) (hx : a.eval x = .pointer (some ⟨b, off, none⟩)) (b0 n : Nat) {f : Nat → Value}
    (hL : Lies W b b0 n f) (hT : CellT P ty) (i : Nat) (hi : off = b0 + i) (hle : i < n) (v : Value) (hv : f i = v)
    (h : wpList P ops Q rest (a.put o.dst v) W) : wpList P ops Q (o :: rest) a W := by
  refine wpList_plain hgd fun K hK => ?_
  have hc := hL i hle
  rw [← hi, hv] at hc
  unfold Oper.wp execOp
  simp only [ho, hx, Instr.loadAt, Instr.sureAddr, Sem.run_bind, Sem.run_pure, Result.andThen_ok, run_load_cell hT hc]
  exact hK _ _ h
/-- Some of the blocks, in another order: the i-th is that at f i. -/
theorem Mem.sub {b0 : Base} {L L' : Blocks} {X : World} (h : Mem b0 L X) (f : Nat → Nat) (hf : ∀ (i : Nat) (p : Nat × Nat × (Nat → Value)), L'[i]? = some p → L[f i]? = some p)
    (hinj : ((List.range L'.length).all fun i => (List.range L'.length).all fun j => i == j || f i != f j) = true) : Mem b0 L' X := by
  have inj : ∀ i j, i < L'.length → j < L'.length → i ≠ j → f i ≠ f j := fun i j hi hj hne => by
    have h1 := List.all_eq_true.1 (List.all_eq_true.1 hinj i (by simpa using hi)) j (by simpa using hj)
    rw [Bool.or_eq_true] at h1
    rcases h1 with h1 | h1
    · exact absurd (by simpa using h1) hne
    · simpa using h1
  exact ⟨h.good, fun i b n g hi => h.ats _ b n g (hf i _ hi), fun i j p q hi hj hne => h.apart _ _ p q (hf i p hi) (hf j q hj) (inj i j (List.getElem?_eq_some_iff.1 hi).1 (List.getElem?_eq_some_iff.1 hj).1 hne)⟩
/-- New blocks ahead of those that are known. -/
theorem Mem.front {b0 : Base} {L K : Blocks} {X X' : World} (hM : Mem b0 L X) (hb : Below X.heap.size X X') (hK : Mem X K X') (hge : ∀ (i : Nat) (p : Nat × Nat × (Nat → Value)), K[i]? = some p → X.heap.size ≤ p.1) : Mem b0 (K ++ L) X' := by
  have h2 := hM.call hb
  have key : ∀ (i : Nat) (p : Nat × Nat × (Nat → Value)), (K ++ L)[i]? = some p → (i < K.length ∧ K[i]? = some p) ∨ (K.length ≤ i ∧ L[i - K.length]? = some p) := fun i p hi => by
    by_cases hl : i < K.length
    · rw [List.getElem?_append_left hl] at hi; exact .inl ⟨hl, hi⟩
    · rw [List.getElem?_append_right (by omega)] at hi; exact .inr ⟨by omega, hi⟩
  have low : ∀ (i : Nat) (p : Nat × Nat × (Nat → Value)), L[i]? = some p → p.1 < X.heap.size := fun i p h => (hM.ats i p.1 p.2.1 p.2.2 h).lt
  refine ⟨h2.good, fun i b n f hi => ?_, fun i j p q hi hj hne => ?_⟩
  · rcases key i _ hi with ⟨_, h⟩ | ⟨_, h⟩
    · exact hK.ats i b n f h
    · exact h2.ats _ b n f h
  · rcases key i p hi with ⟨h1, h⟩ | ⟨h1, h⟩ <;> rcases key j q hj with ⟨g1, g⟩ | ⟨g1, g⟩
    · exact hK.apart i j p q h g hne
    · have := low _ q g; have := hge i p h; omega
    · have := low _ p h; have := hge j q g; omega
    · exact hM.apart _ _ p q h g (by omega)
/-- Three new blocks beside those that are known. -/
theorem Mem.fresh3 {b0 : Base} {L : Blocks} {X X' : World} {b c d n m k : Nat} {f g h : Nat → Value} (hM : Mem b0 L X) (hb : Below X.heap.size X X') (h3 : Mem X [(b, n, f), (c, m, g), (d, k, h)] X') (h1 : X.heap.size ≤ b) (h2 : X.heap.size ≤ c) (h4 : X.heap.size ≤ d) :
    Mem b0 (L ++ [(b, n, f), (c, m, g), (d, k, h)]) X' := by
  have e1 := hM.fresh' hb (h3.ats 0 _ _ _ rfl) h1
  have off : ∀ (y : Nat) (i : Nat) (p : Nat × Nat × (Nat → Value)), X.heap.size ≤ y → L[i]? = some p → p.1 ≠ y := fun y i p hy hp e => by
    have := (hM.ats i p.1 p.2.1 p.2.2 hp).lt
    omega
  have app : ∀ {M : Blocks} {q : Nat × Nat × (Nat → Value)} {i : Nat} {p : Nat × Nat × (Nat → Value)}, (M ++ [q])[i]? = some p → M[i]? = some p ∨ p = q := fun {M q i p} hp => by
    by_cases hl : i < M.length
    · rw [List.getElem?_append_left hl] at hp; exact .inl hp
    · rw [List.getElem?_append_right (by omega)] at hp
      cases hq : i - M.length with
      | zero => rw [hq] at hp; simp at hp; exact .inr hp.symm
      | succ j => rw [hq] at hp; simp at hp
  have e2 := e1.old (h3.ats 1 _ _ _ rfl) (fun i p hp => by
    rcases app hp with h | rfl
    · exact off c i p h2 h
    · exact h3.apart 0 1 _ _ rfl rfl (by omega))
  have e3 := e2.old (h3.ats 2 _ _ _ rfl) (fun i p hp => by
    rcases app hp with h | rfl
    · rcases app h with h | rfl
      · exact off d i p h4 h
      · exact h3.apart 0 2 _ _ rfl rfl (by omega)
    · exact h3.apart 1 2 _ _ rfl rfl (by omega))
  simpa using e3
end Go.Proofs.YtbbododeglkghaaDoor

/-
  A spot out of a reading.
-/
namespace Go.Proofs.YtbbododeglkghaaDoor
open Go Go.RowKit Go.BigFrame Go.ChangeShapes Go.WideShapes Go.Deep

section
variable {H : Type} {enc : TypeId × Value → H} {w : World} {base : Nat} {spare : Nat → Bool} {held : Bool}
end
end Go.Proofs.YtbbododeglkghaaDoor

/-
  Meadow: its cells; argument lists; laws.szMeadowS, toMeadow, toMeadowS by contracts.
-/
namespace Go.Proofs.YtbbododeglkghaaDoor
open Go Go.RowKit Go.BigFrame Go.ChangeShapes Go.WideShapes Go.Deep

/-- The integer kind of each cell; the cells. -/
def kMeadow (k : Nat) : IntKind := .i16
def vMeadow (h : Nat → Int) : Nat → Value := fun k => .int (kMeadow k) (h k)
def zMeadow : Nat → Value := fun k => .int (kMeadow k) 0
theorem rowMeadow : RowT Tryd.prog 56 3 := ⟨⟨_, Tryd.underlying56, rfl⟩, by kernel_rfl⟩
theorem rowLMeadow : RowT Tryd.prog 59 3 := ⟨⟨_, Tryd.underlying59, rfl⟩, by kernel_rfl⟩
theorem zeroMeadow : (Tryd.prog.info? 56).map (·.zero) = some (some (.agg (arr 3 zMeadow))) := by kernel_rfl
theorem infoMeadow : (Tryd.prog.info? 56).map (fun i => (i.size, i.zero, i.bytes)) = some (3, some (.agg (arr 3 zMeadow)), 6) := by kernel_rfl
structure FitsMeadow (h : Nat → Int) : Prop where
  c0 : (-32768 : Int) ≤ h 0 ∧ h 0 ≤ 32767
  c1 : (-32768 : Int) ≤ h 1 ∧ h 1 ≤ 32767
  c2 : (-32768 : Int) ≤ h 2 ∧ h 2 ≤ 32767
def sMeadow (hs : Nat → Nat → Int) : Nat → Value := fun k => vMeadow (hs (k / 3)) (k % 3)
theorem sMeadow_row (hs : Nat → Nat → Int) (k j : Nat) (hj : j < 3) : sMeadow hs (k * 3 + j) = vMeadow (hs k) j := by
  unfold sMeadow
  rw [show (k * 3 + j) / 3 = k by omega, show (k * 3 + j) % 3 = j by omega]
def MeadowArg (W : World) (v : Value) (n : Nat) (hs : Nat → Nat → Int) : Prop :=
  (n = 0 ∧ v = .slice none 0 0) ∨ ∃ b o c, v = .slice (some ⟨b, o, none⟩) n c ∧ Lies W b o (n * 3) (sMeadow hs)
theorem MeadowArg.below {w W : World} {v : Value} {n : Nat} {hs : Nat → Nat → Int} (h : MeadowArg w v n hs) (hb : Below w.heap.size w W) : MeadowArg W v n hs := by
  rcases h with h | ⟨b, o, c, e, h⟩
  · exact .inl h
  · exact .inr ⟨b, o, c, e, h.below hb⟩
section
variable {H : Type} {enc : TypeId × Value → H} {w : World} {base : Nat} {spare : Nat → Bool} {held : Bool}
set_option maxRecDepth 100000 in
theorem cellsMeadow {fuel : Nat} {cs : List Value} {x : DataW H × List MemPlace} (h : DataW.trod enc Tryd.prog w base spare held fuel 59 cs = some x) :
    ∃ g : Nat → Int, cs = (List.range 3).map (vMeadow g) ∧ FitsMeadow g := by
  obtain ⟨xs, n, -, -, hlen, hxl, hf⟩ := DataW.trod_struct Tryd.underlying59 h
  have e : Tryd.prog.cellsOf 59 = 3 := by kernel_rfl
  have ei16 : Tryd.prog.cellsOf 54 = 1 := by kernel_rfl
  rw [e] at hlen
  match cs, hlen with
  | [c0, c1, c2], _ =>
    match xs, hxl with
    | [y0, y1, y2], _ =>
      have h0 := hf 0 _ rfl
      change DataW.trod _ _ _ _ _ _ _ 54 ((List.drop 0 [c0, c1, c2]).take (Tryd.prog.cellsOf 54)) = some y0 at h0
      rw [ei16] at h0
      have h1 := hf 1 _ rfl
      change DataW.trod _ _ _ _ _ _ _ 54 ((List.drop 1 [c0, c1, c2]).take (Tryd.prog.cellsOf 54)) = some y1 at h1
      rw [ei16] at h1
      have h2 := hf 2 _ rfl
      change DataW.trod _ _ _ _ _ _ _ 54 ((List.drop 2 [c0, c1, c2]).take (Tryd.prog.cellsOf 54)) = some y2 at h2
      rw [ei16] at h2
      obtain ⟨p0, q0, b0⟩ := trod_num Tryd.underlying54 h0
      obtain ⟨p1, q1, b1⟩ := trod_num Tryd.underlying54 h1
      obtain ⟨p2, q2, b2⟩ := trod_num Tryd.underlying54 h2
      simp at q0 q1 q2
      refine ⟨fun k => match k with | 0 => p0 | 1 => p1 | _ => p2, ?_, ⟨has_i16 b0, has_i16 b1, has_i16 b2⟩⟩
      · skip
        subst q0
        subst q1
        subst q2
        rfl

set_option maxRecDepth 100000 in
/-- A list out of its type and its reading. -/
theorem open_meadows {t : TypeId} (ht : Tryd.prog.underlying t = some (.slice 59)) {b0 : Nat} {v : Value} {d : DataW H} {p : List MemPlace} (hval : Value.okWide Tryd.prog w .any b0 t v) (h : DataW.Trod enc Tryd.prog w base spare held t v d p) :
    ∃ n hs, n ≤ maxLen ∧ (∀ i, i < n → FitsMeadow (hs i)) ∧ MeadowArg w v n hs := by
  obtain ⟨fuel, h⟩ := h
  have e : Tryd.prog.cellsOf 59 = 3 := by kernel_rfl
  obtain ⟨sa, sl, sc, rfl⟩ := okWide_slice ht hval
  rcases open_slice ht h with ⟨h1, -⟩ | ⟨a, len, cap, m, n, D, Pl, hcs, hb, hl, hm, hmm, -, hi⟩
  · simp only [Value.cells] at h1
    obtain ⟨rfl, rfl, rfl⟩ : sa = none ∧ sl = 0 ∧ sc = 0 := by simpa using h1
    exact ⟨0, fun _ _ => 0, by decide, fun i hi => absurd hi (by omega), .inl ⟨rfl, rfl⟩⟩
  · obtain ⟨e1, e2, e3⟩ : sa = some a ∧ sl = len ∧ sc = cap := by simpa [Value.cells] using hcs
    subst e1 e2 e3
    have hlen : sl ≤ m := by rw [hmm]; split <;> omega
    rw [e] at hi
    have key : ∀ i, ∃ g : Nat → Int, i < sl → (FitsMeadow g ∧ ∀ j, j < 3 → w.cell? (a.add (i * 3 + j)) = some (vMeadow g j)) := fun i => by
      by_cases hil : i < sl
      · obtain ⟨cs', hc, ht'⟩ := hi i (by omega)
        obtain ⟨g, hg, fg⟩ := cellsMeadow ht'
        obtain ⟨-, -, hat⟩ := World.cells?_some hc
        refine ⟨g, fun _ => ⟨fg, fun j hj => ?_⟩⟩
        have := hat j hj
        rw [← Go.Deep.add_add] 
        rw [this, hg]
        simp [hj]
      · exact ⟨fun _ => 0, fun h => absurd h hil⟩
    have hspot : a.spot = none := by
      unfold Value.okWide at hval
      rw [ht] at hval
      simp only [Cell.okWide, Cell.ok, ht] at hval
      exact hval.2.2.2.1
    obtain ⟨ab, ao, asp⟩ := a
    simp only at hspot
    subst hspot
    refine ⟨sl, fun i => (key i).choose, by omega, fun i hil => ((key i).choose_spec hil).1, .inr ⟨ab, ao, sc, rfl, fun k hk => ?_⟩⟩
    have hki := ((key (k / 3)).choose_spec (by omega)).2 (k % 3) (by omega)
    rw [show k / 3 * 3 + k % 3 = k by omega] at hki
    have e2 : (⟨ab, ao, none⟩ : Addr).add k = ⟨ab, ao + k, none⟩ := by
      unfold Addr.add
      by_cases h0 : k = 0
      · simp [h0]
      · simp [h0]
    rw [e2] at hki
    exact hki
end

theorem szMeadowS_no (v : Value) (n : Nat) (hs : Nat → Nat → Int) (left : Int) (hn : n ≤ maxLen) (hl : left < n) (h0 : 0 ≤ left) (hl2 : left ≤ 1048576) (w : World) (h : MeadowArg w v n hs) :
    Calls Tryd.prog 13 #[v, .int .i64 left] w fun e w' => e = .returned (.int .i64 (-1)) ∧ Below w.heap.size w w' := by
  unfold maxLen at hn
  rcases h with ⟨rfl, rfl⟩ | ⟨b, o, c, rfl, h⟩
  · omega
  · have c1 : IntKind.i64.wrap (left - n) = left - n := IntWalk.i64_in _ (by omega)
    have d1 : decide (left - n < 0) = true := decide_eq_true (by omega)
    clear h
    go_enter Tryd.func13, Tryd.ntmps13
    go_wp2
    go_ret
    exact ⟨rfl, Below.refl _ _⟩
theorem szMeadowS_yes (v : Value) (n : Nat) (hs : Nat → Nat → Int) (left : Int) (hl : (n : Int) ≤ left) (hl2 : left ≤ 1048576) (w : World) (h : MeadowArg w v n hs) :
    Calls Tryd.prog 13 #[v, .int .i64 left] w fun e w' => e = .returned (.int .i64 (left - n)) ∧ Below w.heap.size w w' := by
  rcases h with ⟨rfl, rfl⟩ | ⟨b, o, c, rfl, h⟩
  · have c1 : IntKind.i64.wrap left = left := IntWalk.i64_in _ (by omega)
    have d1 : decide (left < 0) = false := decide_eq_false (by omega)
    go_enter Tryd.func13, Tryd.ntmps13
    go_wp2
    go_ret
    exact ⟨by simp, Below.refl _ _⟩
  · have c1 : IntKind.i64.wrap (left - n) = left - n := IntWalk.i64_in _ (by omega)
    have d1 : decide (left - n < 0) = false := decide_eq_false (by omega)
    clear h
    go_enter Tryd.func13, Tryd.ntmps13
    go_wp2
    go_ret
    exact ⟨rfl, Below.refl _ _⟩

set_option maxRecDepth 100000 in
set_option maxHeartbeats 1000000 in
theorem toMeadow_any (f : Nat → Value) (h : Nat → Int) (hf : ∀ k, k < 3 → f k = vMeadow h k) (w : World) :
    Calls Tryd.prog 45 #[.agg (arr 3 f)] w fun e w' => e = .returned (.agg (arr 3 (vMeadow h))) ∧ Below w.heap.size w w' := by
  rw [arr_congr hf]
  have hM := Mem.nil w
  have tk_b1 : True := trivial; have tk_b2 : True := trivial; have tk_b3 : True := trivial
  go_enter Tryd.func45, Tryd.ntmps45
  go_wp2_with (first | (have _t := tk_b1; refine wpList_box rfl _ _ rfl _ _ rfl hM ?_; intro b1 W' hb1 hM'; clear hM tk_b1; have hM := hM'; clear hM') | (have _t := tk_b2; refine wpList_zero rfl _ rfl zeroMeadow hM ?_; intro b2 W' hb2 hM'; clear hM tk_b2; have hM := hM'; clear hM') | (have _t := tk_b3; refine wpList_zero rfl _ rfl zeroMeadow hM ?_; intro b3 W' hb3 hM'; clear hM tk_b3; have hM := hM'; clear hM') | (refine wpList_get1 rfl _ _ rfl _ _ rfl hM 2 rfl (cellTab _ rfl) (by omega) _ rfl ?_) | (refine wpList_get rfl _ _ rfl _ _ rfl hM 2 rfl (by first | exact rowMeadow | exact rowLMeadow | exact rowTab _ _ rfl) (by omega) ?_) | (refine wpList_set1 rfl _ _ _ rfl _ _ rfl _ rfl ?_ hM 0 rfl (by assumption) (cellTab _ rfl) (by omega) ?_; (first | rfl | exact h1 _); intro W' hM'; clear hM; have hM := hM'; clear hM'; simp [List.set, Act.eval] at hM) | (refine wpList_lay rfl _ _ _ rfl _ _ rfl _ _ rfl hM 0 rfl (by assumption) (by first | exact rowMeadow | exact rowLMeadow | exact rowTab _ _ rfl) (by omega) ?_ ?_; (first | (intro _ _; rfl) | (intro k _; simp only [lay, upd]; (repeat' split) <;> rfl)); intro W' hM'; clear hM; have hM := hM'; clear hM'; simp only [List.set] at hM) | (refine wpList_get rfl _ _ rfl _ _ rfl hM 0 rfl (by first | exact rowMeadow | exact rowLMeadow | exact rowTab _ _ rfl) (by omega) ?_) | (refine wpList_lay rfl _ _ _ rfl _ _ rfl _ _ rfl hM 1 rfl (by assumption) (by first | exact rowMeadow | exact rowLMeadow | exact rowTab _ _ rfl) (by omega) ?_ ?_; (first | (intro _ _; rfl) | (intro k _; simp only [lay, upd]; (repeat' split) <;> rfl)); intro W' hM'; clear hM; have hM := hM'; clear hM'; simp only [List.set] at hM))
  have hA := (hM.ats 1 _ _ _ rfl).congr (g := vMeadow h) (fun k hk => by
    rcases (show k = 0 ∨ k = 1 ∨ k = 2 by omega) with rfl | rfl | rfl <;> rfl)
  exact bodyPost_ret (results_at rfl _ rfl hA rowMeadow) rfl ⟨rfl, hM.below⟩

/-- A new list. -/
def GivenMeadow (n : Nat) (hs : Nat → Nat → Int) (w : World) (e : Ending) (w' : World) : Prop := ∃ b, e = .returned (.slice (some ⟨b, 0, none⟩) n n) ∧ w.heap.size ≤ b ∧ At w' b (n * 3) (sMeadow hs) ∧ Below w.heap.size w w'
set_option maxRecDepth 100000 in
set_option maxHeartbeats 1000000 in
theorem toMeadowS_any (v : Value) (n : Nat) (hs : Nat → Nat → Int) (hn : n ≤ 1048576) (w : World) (h : MeadowArg w v n hs) : Calls Tryd.prog 15 #[v] w (GivenMeadow n hs w) := by
  have hM := Mem.nil w
  rcases h with ⟨rfl, rfl⟩ | ⟨b, o, c, rfl, hL⟩
  · have tk_b1 : True := trivial
    go_enter Tryd.func15, Tryd.ntmps15
    go_wp2_with (first | (have _t := tk_b1; refine wpList_make rfl _ _ _ _ rfl 0 rfl rfl 3 zMeadow 6 Tryd.underlying24 infoMeadow (by omega) (by omega) (by omega) hM ?_; intro b1 W' hb1 hM'; clear hM tk_b1; have hM := hM'; clear hM'))
    refine wp_loop_rounds 1 ?_
    rw [rounds_succ]
    go_wp2
    go_ret
    exact ⟨b1, rfl, hb1, (hM.ats 0 _ _ _ rfl).congr (fun k hk => by omega), hM.below⟩
  · have HL := Lib.hid hL
    clear hL
    have tk_b1 : True := trivial
    go_enter Tryd.func15, Tryd.ntmps15
    go_wp2_with (first | (have _t := tk_b1; refine wpList_make rfl _ _ _ _ rfl n rfl rfl 3 zMeadow 6 Tryd.underlying24 infoMeadow (by omega) (by omega) hn hM ?_; intro b1 W' hb1 hM'; clear hM tk_b1; have hM := hM'; clear hM'))
    go_loopw [4] (fun i wr => ∃ k : Nat, k ≤ n ∧ i = .int .i64 k ∧ ∃ g, Hid (∀ j, j < k * 3 → g j = sMeadow hs j) ∧ Mem w [(b1, n * 3, g)] wr) (fun i _ => n - (intOf i).toNat)
    case atStart => exact ⟨0, by omega, rfl, _, Lib.hid (fun j hj => absurd hj (by omega)), hM⟩
    case round =>
      clear hM
      obtain ⟨k, hk, rfl, g, hg, hM⟩ := hrel
      by_cases hlt : k < n
      · go_wp2_with (first | (refine wpList_getL rfl _ _ rfl _ _ rfl _ _ (HL.out.below hM.below) (by first | exact rowLMeadow | exact rowMeadow) (k * 3) rfl (by omega) ?_) | (go_at_call 45; refine (toMeadow_any _ (hs k) (fun j hj => sMeadow_row hs k j hj) _).mono ?_; rintro e W' ⟨rfl, hb'⟩; have hM' := hM.call hb'; clear hM hb'; have hM := hM'; clear hM') | (refine wpList_lay rfl _ _ _ rfl _ _ rfl _ _ rfl hM 0 rfl (by assumption) rowMeadow (by omega) ?_ ?_; (first | (intro _ _; rfl) | (intro k _; simp only [lay, upd]; (repeat' split) <;> rfl)); intro W' hM'; clear hM; have hM := hM'; clear hM'; simp only [List.set] at hM))
        go_roundw
        case rel => exact ⟨k + 1, by omega, by go_num, _, Lib.hid (fun j hj => by
          by_cases e : k * 3 ≤ j
          · have := sMeadow_row hs k (j - k * 3) (by omega)
            rw [show k * 3 + (j - k * 3) = j by omega] at this
            simp only [lay]
            rw [if_pos ⟨e, by omega⟩, this]
          · simp only [lay]
            rw [if_neg (by omega)]
            exact hg.out j (by omega)), hM⟩
        case measure => simp [intOf]; omega
      · obtain rfl : k = n := by omega
        go_wp2
        go_ret
        exact ⟨b1, rfl, hb1, (hM.ats 0 _ _ _ rfl).congr hg.out, hM.below⟩
end Go.Proofs.YtbbododeglkghaaDoor

/-
  laws.eqMeadow, eqMeadowS on what is equal.
-/
namespace Go.Proofs.YtbbododeglkghaaDoor
open Go Go.RowKit Go.BigFrame


set_option maxRecDepth 100000 in
set_option maxHeartbeats 400000 in
theorem eqMeadow_same (h : Nat → Int) (w : World) :
    Calls Tryd.prog 46 #[.agg (arr 3 (vMeadow h)), .agg (arr 3 (vMeadow h))] w fun e w' => e = .returned (.bool true) ∧ Below w.heap.size w w' := by
  have hM := Mem.nil w
  have e0 : vMeadow h 0 = .int .i16 (h 0) := rfl
  have e1 : vMeadow h 1 = .int .i16 (h 1) := rfl
  have e2 : vMeadow h 2 = .int .i16 (h 2) := rfl
  have tk_b1 : True := trivial; have tk_b2 : True := trivial
  go_enter Tryd.func46, Tryd.ntmps46
  go_wp2_with (first | (have _t := tk_b1; refine wpList_box rfl _ _ rfl _ _ rfl hM ?_; intro b1 W' hb1 hM'; clear hM tk_b1; have hM := hM'; clear hM') | (have _t := tk_b2; refine wpList_box rfl _ _ rfl _ _ rfl hM ?_; intro b2 W' hb2 hM'; clear hM tk_b2; have hM := hM'; clear hM') | (refine wpList_get1 rfl _ _ rfl _ _ rfl hM 1 rfl (cellTab _ rfl) (by omega) _ rfl ?_) | (refine wpList_get1 rfl _ _ rfl _ _ rfl hM 0 rfl (cellTab _ rfl) (by omega) _ rfl ?_) | (refine wpList_get rfl _ _ rfl _ _ rfl hM 1 rfl (rowTab _ _ rfl) (by omega) ?_) | (refine wpList_get rfl _ _ rfl _ _ rfl hM 0 rfl (rowTab _ _ rfl) (by omega) ?_))
  go_ret
  exact ⟨rfl, hM.below⟩

set_option maxRecDepth 100000 in
set_option maxHeartbeats 1000000 in
/-- eqMeadowS of two lists that hold the same. -/
theorem eqMeadowS_same (b b' n c c' : Nat) (hs : Nat → Nat → Int) (hn : n ≤ maxLen) (w : World) (hA : At w b (n * 3) (sMeadow hs)) (hA' : At w b' (n * 3) (sMeadow hs)) (hne : b ≠ b') :
    Calls Tryd.prog 17 #[.slice (some ⟨b, 0, none⟩) n c, .slice (some ⟨b', 0, none⟩) n c'] w fun e w' => e = .returned (.bool true) ∧ Below w.heap.size w w' := by
  have hM : Mem w [(b, n * 3, sMeadow hs), (b', n * 3, sMeadow hs)] w := ((Mem.nil w).old hA (fun i p h => by simp at h)).old hA' (fun i p h => by
    match i, h with
    | 0, h => simp at h; rw [← h]; exact hne
    | _ + 1, h => simp at h)
  unfold maxLen at hn
  clear hA hA'
  go_enter Tryd.func17, Tryd.ntmps17
  go_wp2
  go_loopw [5] (fun i wr => ∃ k : Nat, k ≤ n ∧ i = .int .i64 k ∧ Mem w [(b, n * 3, sMeadow hs), (b', n * 3, sMeadow hs)] wr) (fun i _ => n - (intOf i).toNat)
  case atStart => exact ⟨0, by omega, rfl, hM⟩
  case round =>
    clear hM
    obtain ⟨k, hk, rfl, hM⟩ := hrel
    by_cases hlt : k < n
    · have l2 : (k : Int) < n := by omega
      have er : arr 3 (fun j => sMeadow hs (k * 3 + j)) = arr 3 (vMeadow (hs k)) := arr_congr fun j hj => sMeadow_row hs k j hj
      go_wp2
      ((try simp only [Act.put, List.setIfInBounds_toArray, List.set_cons_succ, List.set_cons_zero]); refine wp_region_mem (by kernel_rfl) (by kernel_rfl) hM ?_; clear hM; (repeat (first | go_big_quiet_skip | (go_big_quiet_want; first | (refine quiet_get _ _ rfl _ _ rfl 1 rfl rowMeadow (by omega) ?_; (simp only [er]); (simp only [Act.put, List.setIfInBounds_toArray, List.set_cons_succ, List.set_cons_zero]); go_big_quiet_on) | (refine quiet_get _ _ rfl _ _ rfl 0 rfl rowMeadow (by omega) ?_; (simp only [er]); (simp only [Act.put, List.setIfInBounds_toArray, List.set_cons_succ, List.set_cons_zero]); go_big_quiet_on) | (refine quiet_call ?_; apply Exists.intro; apply Exists.intro; apply Exists.intro; refine ⟨fun W => ?_, fun W hM => ?_, ?_⟩; (go_simp; exact ⟨rfl, rfl⟩); (exact eqMeadow_same (hs k) W); (simp only [Act.put, List.setIfInBounds_toArray, List.set_cons_succ, List.set_cons_zero]); go_big_quiet_on) | (refine quiet_val ?_; apply Exists.intro; refine ⟨fun W => ?_, ?_⟩; (go_simp; (try simp only [l2, if_true, Bool.false_eq_true, if_false]); rfl); (simp only [Act.put, List.setIfInBounds_toArray, List.set_cons_succ, List.set_cons_zero]); go_big_quiet_on)))); (with_reducible refine wpQuiet_nil ?_); intro W' hM)
      go_wp2
      go_roundw
      case rel => exact ⟨k + 1, by omega, by go_num, hM⟩
      case measure => simp [intOf]; omega
    · obtain rfl : k = n := by omega
      go_wp2
      go_ret
      exact ⟨rfl, hM.below⟩
end Go.Proofs.YtbbododeglkghaaDoor

/-
  spec.l00In, l01Grass, l01Is, by contracts.
-/
namespace Go.Proofs.YtbbododeglkghaaDoor
open Go Go.RowKit Go.BigFrame

/-- Is n from lo to hi? -/
def inB (lo hi n : Int) : Bool := decide (lo ≤ n ∧ n ≤ hi)
theorem inB_yes {lo hi n : Int} (h : lo ≤ n ∧ n ≤ hi) : inB lo hi n = true := decide_eq_true h
theorem inB_no {lo hi n : Int} (h : ¬ (lo ≤ n ∧ n ≤ hi)) : inB lo hi n = false := decide_eq_false h
theorem inB_true {lo hi n : Int} (h : inB lo hi n = true) : lo ≤ n ∧ n ≤ hi := of_decide_eq_true h
theorem ret_bool {a b : Bool} (h : a = b) : Ending.returned (.bool a) = .returned (.bool b) := by rw [h]

theorem l00In_any (n lo hi : Int) (w : World) :
    Calls Tryd.prog 55 #[.int .i64 n, .int .i64 lo, .int .i64 hi] w fun e w' => e = .returned (.bool (inB lo hi n)) ∧ Below w.heap.size w w' := by
  by_cases h1 : lo ≤ n
  · go_enter Tryd.func55, Tryd.ntmps55
    go_wp2
    go_ret
    exact ⟨ret_bool (by simp [inB, h1]), Below.refl _ _⟩
  · go_enter Tryd.func55, Tryd.ntmps55
    go_wp2
    go_ret
    exact ⟨ret_bool (inB_no (fun h => by omega)).symm, Below.refl _ _⟩
theorem l01Grass_any (n : Int) (w : World) :
    Calls Tryd.prog 79 #[.int .i64 n] w fun e w' => e = .returned (.bool (inB 0 1000 n)) ∧ Below w.heap.size w w' := by
  have hM := Mem.nil w
  go_enter Tryd.func79, Tryd.ntmps79
  go_wp2_with (go_at_call 55; refine (l00In_any _ _ _ _).mono ?_; rintro e W' ⟨rfl, hb'⟩; have hM' := hM.call hb'; clear hM hb'; have hM := hM'; clear hM')
  go_ret
  exact ⟨rfl, hM.below⟩

/-- Has a pasture such a cell? -/
def isB (g : Nat → Int) (x y : Int) : Bool := inB 0 (g 0 - 1) x && inB 0 (g 1 - 1) y

end Go.Proofs.YtbbododeglkghaaDoor

/-
  impl.codeOf by contract; what checkCells hands back.
-/
namespace Go.Proofs.YtbbododeglkghaaDoor
open Go Go.RowKit Go.BigFrame

theorem is_yes {a : Nat → Addr} (i : Nat) (w : World) :
    Calls Tryd.prog 72 #[errV (a i), errV (a i)] w fun e w' => e = .returned (.bool true) ∧ w = w' := (is_same _ w).mono fun _ _ h => ⟨h.1, h.2.symm⟩
theorem is_no {a : Nat → Addr} {w : World} (h : Errs a w) (i j : Nat) (hi : i < 7) (hj : j < 7) (e : i ≠ j) :
    Calls Tryd.prog 72 #[errV (a i), errV (a j)] w fun e w' => e = .returned (.bool false) ∧ w = w' := by
  obtain ⟨ca, ta, ha⟩ := h.cells i hi
  obtain ⟨cb, tb, hb⟩ := h.cells j hj
  exact (is_other _ _ ca cb ta tb w (h.apart i j hi hj e) ha hb).mono fun _ _ h => ⟨h.1, h.2.symm⟩

/-- The code of the k-th error. -/
def codeK (k : Nat) : Int :=
  match k with
  | 0 => 1
  | 1 => 2
  | 2 => 4
  | 3 => 5
  | 4 => 6
  | 5 => 3
  | _ => 7

set_option maxRecDepth 100000 in
set_option maxHeartbeats 4000000 in
theorem codeOf_0 {a : Nat → Addr} {w : World} (h : Errs a w) :
    Calls Tryd.prog 50 #[errV (a 0)] w fun e w' => e = .returned (.int .i64 1) ∧ w = w' := by
  have v0 : w.cell? ⟨0, 0, none⟩ = some (errV (a 0)) := h.vars 0 (by omega)
  have H := Lib.hid h
  clear h
  go_enter Tryd.func50, Tryd.ntmps50
  go_wp2_with (first | (go_at_call 72; (with_reducible refine (is_yes 0 _).mono ?_); rintro e W' ⟨rfl, rfl⟩))
  go_ret
  exact ⟨rfl, rfl⟩
set_option maxRecDepth 100000 in
set_option maxHeartbeats 4000000 in
theorem codeOf_1 {a : Nat → Addr} {w : World} (h : Errs a w) :
    Calls Tryd.prog 50 #[errV (a 1)] w fun e w' => e = .returned (.int .i64 2) ∧ w = w' := by
  have v0 : w.cell? ⟨0, 0, none⟩ = some (errV (a 0)) := h.vars 0 (by omega)
  have v1 : w.cell? ⟨1, 0, none⟩ = some (errV (a 1)) := h.vars 1 (by omega)
  have H := Lib.hid h
  clear h
  go_enter Tryd.func50, Tryd.ntmps50
  go_wp2_with (first | (go_at_call 72; (with_reducible refine (is_no H.out 1 0 (by omega) (by omega) (by omega)).mono ?_); rintro e W' ⟨rfl, rfl⟩) | (go_at_call 72; (with_reducible refine (is_yes 1 _).mono ?_); rintro e W' ⟨rfl, rfl⟩))
  go_ret
  exact ⟨rfl, rfl⟩
set_option maxRecDepth 100000 in
set_option maxHeartbeats 4000000 in
theorem codeOf_2 {a : Nat → Addr} {w : World} (h : Errs a w) :
    Calls Tryd.prog 50 #[errV (a 2)] w fun e w' => e = .returned (.int .i64 4) ∧ w = w' := by
  have v0 : w.cell? ⟨0, 0, none⟩ = some (errV (a 0)) := h.vars 0 (by omega)
  have v1 : w.cell? ⟨1, 0, none⟩ = some (errV (a 1)) := h.vars 1 (by omega)
  have v5 : w.cell? ⟨2, 0, none⟩ = some (errV (a 5)) := h.vars 5 (by omega)
  have v2 : w.cell? ⟨3, 0, none⟩ = some (errV (a 2)) := h.vars 2 (by omega)
  have H := Lib.hid h
  clear h
  go_enter Tryd.func50, Tryd.ntmps50
  go_wp2_with (first | (go_at_call 72; (with_reducible refine (is_no H.out 2 0 (by omega) (by omega) (by omega)).mono ?_); rintro e W' ⟨rfl, rfl⟩) | (go_at_call 72; (with_reducible refine (is_no H.out 2 1 (by omega) (by omega) (by omega)).mono ?_); rintro e W' ⟨rfl, rfl⟩) | (go_at_call 72; (with_reducible refine (is_no H.out 2 5 (by omega) (by omega) (by omega)).mono ?_); rintro e W' ⟨rfl, rfl⟩) | (go_at_call 72; (with_reducible refine (is_yes 2 _).mono ?_); rintro e W' ⟨rfl, rfl⟩))
  go_ret
  exact ⟨rfl, rfl⟩
set_option maxRecDepth 100000 in
set_option maxHeartbeats 4000000 in
theorem codeOf_3 {a : Nat → Addr} {w : World} (h : Errs a w) :
    Calls Tryd.prog 50 #[errV (a 3)] w fun e w' => e = .returned (.int .i64 5) ∧ w = w' := by
  have v0 : w.cell? ⟨0, 0, none⟩ = some (errV (a 0)) := h.vars 0 (by omega)
  have v1 : w.cell? ⟨1, 0, none⟩ = some (errV (a 1)) := h.vars 1 (by omega)
  have v5 : w.cell? ⟨2, 0, none⟩ = some (errV (a 5)) := h.vars 5 (by omega)
  have v2 : w.cell? ⟨3, 0, none⟩ = some (errV (a 2)) := h.vars 2 (by omega)
  have v3 : w.cell? ⟨4, 0, none⟩ = some (errV (a 3)) := h.vars 3 (by omega)
  have H := Lib.hid h
  clear h
  go_enter Tryd.func50, Tryd.ntmps50
  go_wp2_with (first | (go_at_call 72; (with_reducible refine (is_no H.out 3 0 (by omega) (by omega) (by omega)).mono ?_); rintro e W' ⟨rfl, rfl⟩) | (go_at_call 72; (with_reducible refine (is_no H.out 3 1 (by omega) (by omega) (by omega)).mono ?_); rintro e W' ⟨rfl, rfl⟩) | (go_at_call 72; (with_reducible refine (is_no H.out 3 5 (by omega) (by omega) (by omega)).mono ?_); rintro e W' ⟨rfl, rfl⟩) | (go_at_call 72; (with_reducible refine (is_no H.out 3 2 (by omega) (by omega) (by omega)).mono ?_); rintro e W' ⟨rfl, rfl⟩) | (go_at_call 72; (with_reducible refine (is_yes 3 _).mono ?_); rintro e W' ⟨rfl, rfl⟩))
  go_ret
  exact ⟨rfl, rfl⟩
set_option maxRecDepth 100000 in
set_option maxHeartbeats 4000000 in
theorem codeOf_4 {a : Nat → Addr} {w : World} (h : Errs a w) :
    Calls Tryd.prog 50 #[errV (a 4)] w fun e w' => e = .returned (.int .i64 6) ∧ w = w' := by
  have v0 : w.cell? ⟨0, 0, none⟩ = some (errV (a 0)) := h.vars 0 (by omega)
  have v1 : w.cell? ⟨1, 0, none⟩ = some (errV (a 1)) := h.vars 1 (by omega)
  have v5 : w.cell? ⟨2, 0, none⟩ = some (errV (a 5)) := h.vars 5 (by omega)
  have v2 : w.cell? ⟨3, 0, none⟩ = some (errV (a 2)) := h.vars 2 (by omega)
  have v3 : w.cell? ⟨4, 0, none⟩ = some (errV (a 3)) := h.vars 3 (by omega)
  have v4 : w.cell? ⟨5, 0, none⟩ = some (errV (a 4)) := h.vars 4 (by omega)
  have H := Lib.hid h
  clear h
  go_enter Tryd.func50, Tryd.ntmps50
  go_wp2_with (first | (go_at_call 72; (with_reducible refine (is_no H.out 4 0 (by omega) (by omega) (by omega)).mono ?_); rintro e W' ⟨rfl, rfl⟩) | (go_at_call 72; (with_reducible refine (is_no H.out 4 1 (by omega) (by omega) (by omega)).mono ?_); rintro e W' ⟨rfl, rfl⟩) | (go_at_call 72; (with_reducible refine (is_no H.out 4 5 (by omega) (by omega) (by omega)).mono ?_); rintro e W' ⟨rfl, rfl⟩) | (go_at_call 72; (with_reducible refine (is_no H.out 4 2 (by omega) (by omega) (by omega)).mono ?_); rintro e W' ⟨rfl, rfl⟩) | (go_at_call 72; (with_reducible refine (is_no H.out 4 3 (by omega) (by omega) (by omega)).mono ?_); rintro e W' ⟨rfl, rfl⟩) | (go_at_call 72; (with_reducible refine (is_yes 4 _).mono ?_); rintro e W' ⟨rfl, rfl⟩))
  go_ret
  exact ⟨rfl, rfl⟩
set_option maxRecDepth 100000 in
set_option maxHeartbeats 4000000 in
theorem codeOf_5 {a : Nat → Addr} {w : World} (h : Errs a w) :
    Calls Tryd.prog 50 #[errV (a 5)] w fun e w' => e = .returned (.int .i64 3) ∧ w = w' := by
  have v0 : w.cell? ⟨0, 0, none⟩ = some (errV (a 0)) := h.vars 0 (by omega)
  have v1 : w.cell? ⟨1, 0, none⟩ = some (errV (a 1)) := h.vars 1 (by omega)
  have v5 : w.cell? ⟨2, 0, none⟩ = some (errV (a 5)) := h.vars 5 (by omega)
  have H := Lib.hid h
  clear h
  go_enter Tryd.func50, Tryd.ntmps50
  go_wp2_with (first | (go_at_call 72; (with_reducible refine (is_no H.out 5 0 (by omega) (by omega) (by omega)).mono ?_); rintro e W' ⟨rfl, rfl⟩) | (go_at_call 72; (with_reducible refine (is_no H.out 5 1 (by omega) (by omega) (by omega)).mono ?_); rintro e W' ⟨rfl, rfl⟩) | (go_at_call 72; (with_reducible refine (is_yes 5 _).mono ?_); rintro e W' ⟨rfl, rfl⟩))
  go_ret
  exact ⟨rfl, rfl⟩
set_option maxRecDepth 100000 in
set_option maxHeartbeats 4000000 in
theorem codeOf_6 {a : Nat → Addr} {w : World} (h : Errs a w) :
    Calls Tryd.prog 50 #[errV (a 6)] w fun e w' => e = .returned (.int .i64 7) ∧ w = w' := by
  have v0 : w.cell? ⟨0, 0, none⟩ = some (errV (a 0)) := h.vars 0 (by omega)
  have v1 : w.cell? ⟨1, 0, none⟩ = some (errV (a 1)) := h.vars 1 (by omega)
  have v5 : w.cell? ⟨2, 0, none⟩ = some (errV (a 5)) := h.vars 5 (by omega)
  have v2 : w.cell? ⟨3, 0, none⟩ = some (errV (a 2)) := h.vars 2 (by omega)
  have v3 : w.cell? ⟨4, 0, none⟩ = some (errV (a 3)) := h.vars 3 (by omega)
  have v4 : w.cell? ⟨5, 0, none⟩ = some (errV (a 4)) := h.vars 4 (by omega)
  have v6 : w.cell? ⟨6, 0, none⟩ = some (errV (a 6)) := h.vars 6 (by omega)
  have H := Lib.hid h
  clear h
  go_enter Tryd.func50, Tryd.ntmps50
  go_wp2_with (first | (go_at_call 72; (with_reducible refine (is_no H.out 6 0 (by omega) (by omega) (by omega)).mono ?_); rintro e W' ⟨rfl, rfl⟩) | (go_at_call 72; (with_reducible refine (is_no H.out 6 1 (by omega) (by omega) (by omega)).mono ?_); rintro e W' ⟨rfl, rfl⟩) | (go_at_call 72; (with_reducible refine (is_no H.out 6 5 (by omega) (by omega) (by omega)).mono ?_); rintro e W' ⟨rfl, rfl⟩) | (go_at_call 72; (with_reducible refine (is_no H.out 6 2 (by omega) (by omega) (by omega)).mono ?_); rintro e W' ⟨rfl, rfl⟩) | (go_at_call 72; (with_reducible refine (is_no H.out 6 3 (by omega) (by omega) (by omega)).mono ?_); rintro e W' ⟨rfl, rfl⟩) | (go_at_call 72; (with_reducible refine (is_no H.out 6 4 (by omega) (by omega) (by omega)).mono ?_); rintro e W' ⟨rfl, rfl⟩) | (go_at_call 72; (with_reducible refine (is_yes 6 _).mono ?_); rintro e W' ⟨rfl, rfl⟩))
  go_ret
  exact ⟨rfl, rfl⟩

/-- The code of the k-th error. -/
theorem codeOf_any {a : Nat → Addr} {w : World} (h : Errs a w) (k : Nat) (hk : k < 7) :
    Calls Tryd.prog 50 #[errV (a k)] w fun e w' => e = .returned (.int .i64 (codeK k)) ∧ w = w' := by
  have : k = 0 ∨ k = 1 ∨ k = 2 ∨ k = 3 ∨ k = 4 ∨ k = 5 ∨ k = 6 := by omega
  rcases this with rfl | rfl | rfl | rfl | rfl | rfl | rfl
  · exact codeOf_0 h
  · exact codeOf_1 h
  · exact codeOf_2 h
  · exact codeOf_3 h
  · exact codeOf_4 h
  · exact codeOf_5 h
  · exact codeOf_6 h
end Go.Proofs.YtbbododeglkghaaDoor

/-
  impl.checkUpTo and impl.checkGrass by contracts.
-/
namespace Go.Proofs.YtbbododeglkghaaDoor
open Go Go.RowKit Go.BigFrame

set_option maxHeartbeats 400000 in
theorem checkUpTo_no {a : Nat → Addr} (n m : Int) (w : World) (hE : Errs a w) (h : inB 0 m n = false) :
    Calls Tryd.prog 54 #[.int .i64 n, .int .i64 m] w fun e w' => e = .returned (errV (a 1)) ∧ Below w.heap.size w w' := by
  have v1 : w.cell? ⟨1, 0, none⟩ = some (errV (a 1)) := hE.vars 1 (by omega)
  have h' : ¬ (0 ≤ n ∧ n ≤ m) := of_decide_eq_false h
  clear hE h
  by_cases h0 : n < 0
  · clear h'
    go_enter Tryd.func54, Tryd.ntmps54
    go_wp2
    go_ret
    exact ⟨rfl, Below.refl _ _⟩
  · have h1 : m < n := by omega
    have d1 : decide (m < n) = true := decide_eq_true h1
    clear h'
    go_enter Tryd.func54, Tryd.ntmps54
    go_wp2
    go_ret
    exact ⟨rfl, Below.refl _ _⟩
set_option maxHeartbeats 400000 in
theorem checkUpTo_yes (n m : Int) (w : World) (h : inB 0 m n = true) :
    Calls Tryd.prog 54 #[.int .i64 n, .int .i64 m] w fun e w' => e = .returned .nilIface ∧ Below w.heap.size w w' := by
  obtain ⟨h0, h1⟩ := inB_true h
  have d0 : decide (n < 0) = false := decide_eq_false (by omega)
  have d1 : decide (m < n) = false := decide_eq_false (by omega)
  clear h h0 h1
  go_enter Tryd.func54, Tryd.ntmps54
  go_wp2
  go_ret
  exact ⟨rfl, Below.refl _ _⟩
end Go.Proofs.YtbbododeglkghaaDoor

/-
  An error is not nil.
-/
namespace Go.Proofs.YtbbododeglkghaaDoor
open Go Go.RowKit Go.BigFrame
@[go_sem] theorem guard_err (x : Operand) (a : Addr) (W : World) : (eqGuard .neq 67 x (.const .nilIface) (errV a) .nilIface).run Tryd.prog W = .ok () W := by
  unfold errV; go_simp
@[go_sem] theorem neq_err (a : Addr) (W : World) : (binOp .neq 67 (errV a) .nilIface).run Tryd.prog W = .ok (.bool true) W := by
  unfold errV; go_simp
end Go.Proofs.YtbbododeglkghaaDoor

/-
  PLAIN LAWS: slices of rows by value: a slice literal of one or two such elements is a new block.
-/
namespace Go.Proofs.YtbbododeglkghaaDoor
open Go Go.RowKit

theorem fold_lay (f : Nat → Value) (off : Nat) : ∀ (m : Nat) (cs : Array Value), off + m ≤ cs.size →
    (((List.range m).map f).zipIdx.foldl (fun cs x => cs.setIfInBounds (off + x.2) x.1) cs).size = cs.size ∧
    ∀ k : Nat, (((List.range m).map f).zipIdx.foldl (fun cs x => cs.setIfInBounds (off + x.2) x.1) cs)[k]? = if off ≤ k ∧ k < off + m then some (f (k - off)) else cs[k]?
  | 0, cs, _ => by
    refine ⟨rfl, fun k => ?_⟩
    rw [if_neg (by omega)]; rfl
  | m + 1, cs, h => by
    obtain ⟨i1, i2⟩ := fold_lay f off m cs (by omega)
    rw [List.range_succ, List.map_append, List.zipIdx_append, List.foldl_append]
    simp only [List.map_cons, List.map_nil, List.length_map, List.length_range, Nat.zero_add, List.zipIdx_cons, List.zipIdx_nil, List.foldl_cons, List.foldl_nil]
    refine ⟨by rw [Array.size_setIfInBounds, i1], fun k => ?_⟩
    rw [Array.getElem?_setIfInBounds, i2 k, i1]
    by_cases h1 : off + m = k
    · subst h1
      simp [show off + m < cs.size by omega]
    · simp only [h1, if_false]
      by_cases h2 : off ≤ k ∧ k < off + m
      · rw [if_pos h2, if_pos (by omega)]
      · rw [if_neg h2, if_neg (by omega)]

theorem fill_one {place : Nat → Option (Nat × Nat)} {cs : Array Value} {i off m : Nat} {f : Nat → Value} (hp : place i = some (off, m)) (hle : off + m ≤ cs.size) (rest : List (Nat × Value)) :
    ∃ cs', Instr.fill place cs ((i, .agg (arr m f)) :: rest) = Instr.fill place cs' rest ∧ cs'.size = cs.size ∧ ∀ k : Nat, cs'[k]? = if off ≤ k ∧ k < off + m then some (f (k - off)) else cs[k]? := by
  refine ⟨_, ?_, (fold_lay f off m cs hle).1, (fold_lay f off m cs hle).2⟩
  rw [Instr.fill, hp]
  have e1 : (decide ((Value.agg (arr m f)).cells.size ≠ m) || decide (off + (Value.agg (arr m f)).cells.size > cs.size)) = false := by
    simp [Value.cells, arr_size]; omega
  simp only [Value.cells] at e1 ⊢
  rw [← Array.foldl_toList, Array.toList_zipIdx, arr_toList]
  simp only [arr_size, ne_eq, not_true_eq_false, gt_iff_lt, show ¬ cs.size < off + m by omega, decide_false, Bool.or_self, Bool.false_eq_true, or_self, if_false]

variable {P : Program} {ops : Array Oper} {rest : List Oper} {o : Oper} {a : Act} {w : Base} {W : World} {Q : Exit → Act → World → Prop} {L : Blocks}
/-- A slice literal of one element that is a row of m cells: a new block. -/
theorem wpList_slice1 (hgd : o.guard = none) (t e : TypeId) (x : Operand) (ho : o.op = .buildSlice t 1 #[(0, x)]) (m : Nat) (f : Nat → Value) (hx : a.eval x = .agg (arr m f)) (z : Value)
    (hu : P.underlying t = some (.slice e)) (hz : (P.info? e).map (fun i => (i.size, i.zero)) = some (m, some z)) (hm : 0 < m) (hm' : m ≤ 1000) (hM : Mem w L W)
    (h : ∀ b W', w.B ≤ b → Mem w ((b, m, f) :: L) W' → wpList P ops Q rest (a.put o.dst (.slice (some ⟨b, 0, none⟩) 1 1)) W') : wpList P ops Q (o :: rest) a W := by
  obtain ⟨ie, hie, hq⟩ := Option.map_eq_some_iff.1 hz
  simp only [Prod.mk.injEq] at hq
  refine wpList_buildSlice hgd t e 1 _ ho (arr m f) ie z hu hie hq.2 (by rw [hq.1]; omega) (by rw [hq.1]; omega) ?_ (h _ _ hM.size (hM.alloc e m f))
  rw [hq.1]
  rw [show (Array.map (fun x => match x with | (i, x) => (i, a.eval x)) #[(0, x)]).toList = [(0, Value.agg (arr m f))] by simp [hx]]
  obtain ⟨cs, h1, h2, h3⟩ := fill_one (f := f) (place := fun i => some (i * m, m)) (i := 0) (off := 0 * m) (m := m) rfl (cs := (Array.range (1 * m)).map (z.cells[· % z.cells.size]!)) (by simp) []
  rw [h1, Instr.fill]
  refine congrArg some (arr_ext (by rw [h2]; simp) (fun k hk => ?_))
  rw [h3, if_pos (by omega)]; simp
/-- A slice literal of two such elements. -/
theorem wpList_slice2 (hgd : o.guard = none) (t e : TypeId) (x y : Operand) (ho : o.op = .buildSlice t 2 #[(0, x), (1, y)]) (m : Nat) (f g : Nat → Value) (hx : a.eval x = .agg (arr m f)) (hy : a.eval y = .agg (arr m g)) (z : Value)
    (hu : P.underlying t = some (.slice e)) (hz : (P.info? e).map (fun i => (i.size, i.zero)) = some (m, some z)) (hm : 0 < m) (hm' : m ≤ 1000) (hM : Mem w L W)
    (h : ∀ b W', w.B ≤ b → Mem w ((b, 2 * m, fun k => if k < m then f k else g (k - m)) :: L) W' → wpList P ops Q rest (a.put o.dst (.slice (some ⟨b, 0, none⟩) 2 2)) W') : wpList P ops Q (o :: rest) a W := by
  obtain ⟨ie, hie, hq⟩ := Option.map_eq_some_iff.1 hz
  simp only [Prod.mk.injEq] at hq
  refine wpList_buildSlice hgd t e 2 _ ho (arr (2 * m) fun k => if k < m then f k else g (k - m)) ie z hu hie hq.2 (by rw [hq.1]; omega) (by rw [hq.1]; omega) ?_ (h _ _ hM.size (hM.alloc e (2 * m) _))
  rw [hq.1]
  rw [show (Array.map (fun x => match x with | (i, x) => (i, a.eval x)) #[(0, x), (1, y)]).toList = [(0, Value.agg (arr m f)), (1, Value.agg (arr m g))] by simp [hx, hy]]
  obtain ⟨cs, h1, h2, h3⟩ := fill_one (f := f) (place := fun i => some (i * m, m)) (i := 0) (off := 0 * m) (m := m) rfl (cs := (Array.range (2 * m)).map (z.cells[· % z.cells.size]!)) (by simp; omega) [(1, Value.agg (arr m g))]
  rw [h1]
  have hs : cs.size = 2 * m := by rw [h2]; simp
  obtain ⟨ds, g1, g2, g3⟩ := fill_one (f := g) (place := fun i => some (i * m, m)) (i := 1) (off := 1 * m) (m := m) rfl (cs := cs) (by omega) []
  rw [g1, Instr.fill]
  refine congrArg some (arr_ext (by rw [g2, hs]) (fun k hk => ?_))
  rw [g3]
  by_cases hk2 : k < m
  · rw [if_neg (by omega), h3, if_pos (by omega)]; simp [hk2]
  · rw [if_pos (by omega)]; simp [hk2]
end Go.Proofs.YtbbododeglkghaaDoor

