/-
  Several texts in one: ListC, StringSC, TextC, ReadM, ReadN, ReadW, Slice.
-/
import Derived.Test.YtaaphdbaocjecaaDoorP1
import Derived.Test.YtaaphdbaocjecaaDoorP3
import Derived.Deep.Slices
import Derived.ChangeSame
import Derived.Laws.MakeOwn
import Derived.Lib.Hide
import Derived.Lib.AppendIntMem
import Derived.WalkSmall
import Derived.Lib.Split
import Derived.Lib.SplitLaws
import Derived.Lib.IndexBytes
import Derived.Lib.IndexLaws
import Derived.Lib.IndexMore
import Derived.Lib.ParseIntB
import Derived.Lib.ParseIntBCases
import Derived.Great.BuildSlice
/-
  Lists as arguments: make; what lies in memory of old; lists of elements of one cell; a number out of a reading.
-/
namespace Go.Proofs.YtaaphdbaocjecaaDoor
open Go Go.RowKit Go.BigFrame Go.ChangeShapes Go.WideShapes Go.Deep

/-! ### make -/
variable {P : Program} {ops : Array Oper} {rest : List Oper} {o : Oper} {a : Act} {w : Base} {W : World} {Q : Exit → Act → World → Prop} {L : Blocks}
theorem made_arr (m N : Nat) (z : Nat → Value) (hm : 0 < m) : madeCells (arr m z) N = arr N (fun k => z (k % m)) := by
  refine arr_ext (by simp [madeCells]) (fun k hk => ?_)
  have : k % m < m := Nat.mod_lt _ hm
  simp [madeCells, hk, arr_size, getElem!_def, arr_at this]
theorem wpList_make (hgd : o.guard = none) (t e : TypeId) (x y : Operand) (ho : o.op = .makeSlice t x y) (n : Nat) (hx : a.eval x = .int .i64 n) (hy : a.eval y = .int .i64 n) (m : Nat) (z : Nat → Value) (bs : Nat)
    (hu : P.underlying t = some (.slice e)) (hz : (P.info? e).map (fun i => (i.size, i.zero, i.bytes)) = some (m, some (.agg (arr m z)), bs)) (hm : 0 < m) (hbs : bs ≤ 1000) (hn : n ≤ 1048576) (hM : Mem w L W)
    (h : ∀ b W', w.B ≤ b → Mem w ((b, n * m, fun k => z (k % m)) :: L) W' → wpList P ops Q rest (a.put o.dst (.slice (some ⟨b, 0, none⟩) n n)) W') : wpList P ops Q (o :: rest) a W := by
  obtain ⟨ie, hie, hq⟩ := Option.map_eq_some_iff.1 hz
  simp only [Prod.mk.injEq] at hq
  obtain ⟨q1, q2, q3⟩ := hq
  refine wpList_plain hgd fun K hK => ?_
  have hb : (ie.bytes : Int) * (n : Int) ≤ 281474976710656 := by
    rw [q3]
    have : bs * n ≤ 1000 * 1048576 := Nat.mul_le_mul hbs hn
    have h2 : ((bs * n : Nat) : Int) ≤ 1000 * 1048576 := by omega
    rw [Int.natCast_mul] at h2
    omega
  have hr := run_make (P := P) W t e ie (.agg (arr m z)) hu hie q2 .i64 .i64 n n (by omega) (Int.le_refl _) hb (by omega)
  simp only [Int.toNat_natCast, Value.cells, q1, made_arr m _ z hm] at hr
  unfold Oper.wp execOp
  simp only [ho, hx, hy, Sem.run_bind, Sem.run_pure, hr, Result.andThen_ok]
  exact hK _ _ (h _ _ hM.size (hM.alloc e (n * m) _))

/-- A block of a call that lets lie all that lay, beside those that are known. -/
theorem Mem.fresh' {b0 : Base} {L : Blocks} {X X' : World} {b n : Nat} {f : Nat → Value} (hM : Mem b0 L X) (hb : Below X.heap.size X X') (ha : At X' b n f) (hge : X.heap.size ≤ b) : Mem b0 (L ++ [(b, n, f)]) X' :=
  (hM.call hb).old ha (fun i p h e => by
    have := (hM.ats i p.1 p.2.1 p.2.2 h).lt
    omega)

/-! ### What lies in memory of old -/
def Lies (W : World) (b o n : Nat) (f : Nat → Value) : Prop := ∀ k, k < n → W.cell? ⟨b, o + k, none⟩ = some (f k)
theorem Lies.below {w W : World} {b o n : Nat} {f : Nat → Value} (h : Lies w b o n f) (hb : Below w.heap.size w W) : Lies W b o n f := fun k hk => by
  have := h k hk
  rw [hb.cell (p := ⟨b, o + k, none⟩) (block_lt_of_cell this)]
  exact this
theorem wpList_getL (hgd : o.guard = none) (ty : TypeId) (x : Operand) (ho : o.op = .load ty x) (b off : Nat) (hx : a.eval x = .pointer (some ⟨b, off, none⟩)) (b0 n : Nat) {f : Nat → Value}
    (hL : Lies W b b0 n f) {m : Nat} (hT : RowT P ty m) (i : Nat) (hi : off = b0 + i) (hle : i + m ≤ n)
    (h : wpList P ops Q rest (a.put o.dst (.agg (arr m (fun k => f (i + k))))) W) : wpList P ops Q (o :: rest) a W := by
  obtain ⟨⟨d, hu, hd⟩, hm⟩ := hT
  subst hi
  have hr : W.rangeAt b (b0 + i) (arr m (fun k => f (i + k))).toList := fun j v hv => by
    rw [arr_toList] at hv
    have hj : j < m := by have := (List.getElem?_eq_some_iff.1 hv).1; simpa using this
    simp [hj] at hv
    rw [← hv, Nat.add_assoc]
    exact hL (i + j) (by omega)
  exact wpList_load_mid hgd ty x ho b (b0 + i) hx (arr m (fun k => f (i + k))).toList d hr hu hd (by rw [hm]; simp [arr_size]) (by simpa using h)

section
variable {H : Type} {enc : TypeId × Value → H} {w : World} {base : Nat} {spare : Nat → Bool} {held : Bool}
theorem trod_num {t : TypeId} {κ : IntKind} (ht : P.underlying t = some (.int κ)) {fuel : Nat} {cs : List Value} {x : DataW H × List MemPlace} (h : DataW.trod enc P w base spare held fuel t cs = some x) : ∃ n, cs = [.int κ n] ∧ κ.has n := by
  obtain ⟨n, h1, -, h2⟩ := DataW.trod_int ht h
  exact ⟨n, h1, by simpa [Lit.wf, IntKind.has] using h2⟩

/-- A list of elements of one cell, out of its reading. -/
def Arg1 (W : World) (v : Value) (n : Nat) (f : Nat → Value) : Prop :=
  (n = 0 ∧ v = .slice none 0 0) ∨ ∃ b o c, v = .slice (some ⟨b, o, none⟩) n c ∧ Lies W b o n f
theorem Arg1.below {w W : World} {v : Value} {n : Nat} {f : Nat → Value} (h : Arg1 w v n f) (hb : Below w.heap.size w W) : Arg1 W v n f := by
  rcases h with h | ⟨b, o, c, e, h⟩
  · exact .inl h
  · exact .inr ⟨b, o, c, e, h.below hb⟩
theorem spot_slice {t e : TypeId} (ht : P.underlying t = some (.slice e)) {b0 : Nat} {a : Addr} {l c : Nat} (h : Cell.okWide P w .any b0 t (.slice (some a) l c)) : a.spot = none := by
  simp only [Cell.okWide, Cell.ok, ht] at h
  exact h.2.2.2.1
theorem open_list1 {β : Type} {t e : TypeId} (ht : P.underlying t = some (.slice e)) (hc : P.cellsOf e = 1) (val : β → Value) (fits : β → Prop) (y0 : β)
    (hel : ∀ (fuel : Nat) (v : Value) (x : DataW H × List MemPlace), DataW.trod enc P w base spare held fuel e [v] = some x → ∃ y, v = val y ∧ fits y)
    {v : Value} {b0 fuel : Nat} {x : DataW H × List MemPlace} (hok : Cell.okWide P w .any b0 t v) (h : DataW.trod enc P w base spare held fuel t [v] = some x) :
    ∃ (n : Nat) (ys : Nat → β), n ≤ maxLen ∧ (∀ i, i < n → fits (ys i)) ∧ Arg1 w v n (fun i => val (ys i)) := by
  rcases open_slice1 ht hc h with ⟨h1, -⟩ | ⟨a, len, cap, m, n, V, D, Pl, hcs, hb, hl, hm, hmm, -, hi⟩
  · obtain rfl : v = .slice none 0 0 := by simpa using h1
    exact ⟨0, fun _ => y0, by decide, fun i hi => absurd hi (by omega), .inl ⟨rfl, rfl⟩⟩
  · obtain rfl : v = .slice (some a) len cap := by simpa using hcs
    have hs := spot_slice ht hok
    obtain ⟨ab, ao, asp⟩ := a
    simp only at hs
    subst hs
    have hlen : len ≤ m := by rw [hmm]; split <;> omega
    have key : ∀ i, ∃ y : β, i < len → (V i = val y ∧ fits y) := fun i => by
      by_cases hil : i < len
      · obtain ⟨y, h1, h2⟩ := hel n _ _ (hi i (by omega)).2
        exact ⟨y, fun _ => ⟨h1, h2⟩⟩
      · exact ⟨y0, fun h => absurd h hil⟩
    refine ⟨len, fun i => (key i).choose, by omega, fun i hil => ((key i).choose_spec hil).2, .inr ⟨ab, ao, cap, rfl, fun k hk => ?_⟩⟩
    have h1 := (hi k (by omega)).1
    have e2 : (⟨ab, ao, none⟩ : Addr).add k = ⟨ab, ao + k, none⟩ := by
      unfold Addr.add
      by_cases h0 : k = 0
      · simp [h0]
      · simp [h0]
    rw [e2, ((key k).choose_spec hk).1] at h1
    exact h1
theorem trod_str {t : TypeId} (ht : P.underlying t = some .string) (fuel : Nat) (v : Value) (x : DataW H × List MemPlace) (h : DataW.trod enc P w base spare held fuel t [v] = some x) : ∃ s : ByteArray, v = .string s ∧ s.size ≤ maxLen := by
  obtain ⟨s, h1, -, h2⟩ := DataW.trod_string ht h
  exact ⟨s, by simpa using h1, h2⟩
theorem trod_int1 {t : TypeId} {κ : IntKind} (ht : P.underlying t = some (.int κ)) (fuel : Nat) (v : Value) (x : DataW H × List MemPlace) (h : DataW.trod enc P w base spare held fuel t [v] = some x) : ∃ n, v = .int κ n ∧ κ.has n := by
  obtain ⟨n, h1, h2⟩ := trod_num ht h
  exact ⟨n, by simpa using h1, h2⟩
end

/-- What the size check gives: -1, or what is left. -/
def Left (n : Nat) (left : Int) (w : World) (e : Ending) (w' : World) : Prop := (∃ r : Int, e = .returned (.int .i64 r) ∧ (r = -1 ∨ (0 ≤ r ∧ r ≤ left ∧ (n : Int) ≤ left))) ∧ Below w.heap.size w w'
/-! ### Elements of one cell -/
theorem wpList_make1 (hgd : o.guard = none) (t e : TypeId) (x y : Operand) (ho : o.op = .makeSlice t x y) (n : Nat) (hx : a.eval x = .int .i64 n) (hy : a.eval y = .int .i64 n) (z : Value) (bs : Nat) (hzc : z.oneCell' = true)
    (hu : P.underlying t = some (.slice e)) (hz : (P.info? e).map (fun i => (i.size, i.zero, i.bytes)) = some (1, some z, bs)) (hbs : bs ≤ 1000) (hn : n ≤ 1048576) (hM : Mem w L W)
    (h : ∀ b W', w.B ≤ b → Mem w ((b, n, fun _ => z) :: L) W' → wpList P ops Q rest (a.put o.dst (.slice (some ⟨b, 0, none⟩) n n)) W') : wpList P ops Q (o :: rest) a W := by
  obtain ⟨ie, hie, hq⟩ := Option.map_eq_some_iff.1 hz
  simp only [Prod.mk.injEq] at hq
  obtain ⟨q1, q2, q3⟩ := hq
  refine wpList_plain hgd fun K hK => ?_
  have hb : (ie.bytes : Int) * (n : Int) ≤ 281474976710656 := by
    rw [q3]
    have : bs * n ≤ 1000 * 1048576 := Nat.mul_le_mul hbs hn
    have h2 : ((bs * n : Nat) : Int) ≤ 1000 * 1048576 := by omega
    rw [Int.natCast_mul] at h2
    omega
  have hr := run_make (P := P) W t e ie z hu hie q2 .i64 .i64 n n (by omega) (Int.le_refl _) hb (by omega)
  have hcl : z.cells = #[z] := by cases z <;> first | rfl | (simp [Value.oneCell'] at hzc)
  have hc : madeCells z.cells n = arr n (fun _ => z) := by
    refine arr_ext (by simp [madeCells]) (fun k hk => ?_)
    rw [hcl]
    simp [madeCells, hk, Nat.mod_one]
  simp only [Int.toNat_natCast, q1, Nat.mul_one, hc] at hr
  unfold Oper.wp execOp
  simp only [ho, hx, hy, Sem.run_bind, Sem.run_pure, hr, Result.andThen_ok]
  exact hK _ _ (h _ _ hM.size (hM.alloc e n _))
theorem run_load_cell {ty : TypeId} (hT : CellT P ty) {p : Addr} {v : Value} {W : World} (hc : W.cell? p = some v) : (loadVar ty p).run P W = .ok v W := by
  obtain ⟨⟨d, hu, hd⟩, _⟩ := hT
  have hagg : (isAgg ty).run P W = .ok false W := by
    unfold isAgg
    rw [Sem.run_bind, run_underlying hu W]
    cases d <;> simp_all [TypeDesc.isRow]
  have hl : (load p).run P W = .ok v W := by simp [load, Sem.run, hc]
  simp only [loadVar, Sem.run_bind, Result.andThen_ok, hagg, Bool.false_eq_true, if_false, hl]
theorem wpList_getL1 (hgd : o.guard = none) (ty : TypeId) (x : Operand) (ho : o.op = .load ty x) (b off : Nat) (hx : a.eval x = .pointer (some ⟨b, off, none⟩)) (b0 n : Nat) {f : Nat → Value}
    (hL : Lies W b b0 n f) (hT : CellT P ty) (i : Nat) (hi : off = b0 + i) (hle : i < n) (v : Value) (hv : f i = v)
    (h : wpList P ops Q rest (a.put o.dst v) W) : wpList P ops Q (o :: rest) a W := by
  refine wpList_plain hgd fun K hK => ?_
  have hc := hL i hle
  rw [← hi, hv] at hc
  unfold Oper.wp execOp
  simp only [ho, hx, Instr.loadAt, Instr.sureAddr, Sem.run_bind, Sem.run_pure, Result.andThen_ok, run_load_cell hT hc]
  exact hK _ _ h
/-- Some of the blocks, in another order: the i-th is that at f i. -/
theorem Mem.sub {b0 : Base} {L L' : Blocks} {X : World} (h : Mem b0 L X) (f : Nat → Nat) (hf : ∀ (i : Nat) (p : Nat × Nat × (Nat → Value)), L'[i]? = some p → L[f i]? = some p)
    (hinj : ((List.range L'.length).all fun i => (List.range L'.length).all fun j => i == j || f i != f j) = true) : Mem b0 L' X := by
  have inj : ∀ i j, i < L'.length → j < L'.length → i ≠ j → f i ≠ f j := fun i j hi hj hne => by
    have h1 := List.all_eq_true.1 (List.all_eq_true.1 hinj i (by simpa using hi)) j (by simpa using hj)
    rw [Bool.or_eq_true] at h1
    rcases h1 with h1 | h1
    · exact absurd (by simpa using h1) hne
    · simpa using h1
  exact ⟨h.good, fun i b n g hi => h.ats _ b n g (hf i _ hi), fun i j p q hi hj hne => h.apart _ _ p q (hf i p hi) (hf j q hj) (inj i j (List.getElem?_eq_some_iff.1 hi).1 (List.getElem?_eq_some_iff.1 hj).1 hne)⟩
/-- New blocks ahead of those that are known. -/
theorem Mem.front {b0 : Base} {L K : Blocks} {X X' : World} (hM : Mem b0 L X) (hb : Below X.heap.size X X') (hK : Mem X K X') (hge : ∀ (i : Nat) (p : Nat × Nat × (Nat → Value)), K[i]? = some p → X.heap.size ≤ p.1) : Mem b0 (K ++ L) X' := by
  have h2 := hM.call hb
  have key : ∀ (i : Nat) (p : Nat × Nat × (Nat → Value)), (K ++ L)[i]? = some p → (i < K.length ∧ K[i]? = some p) ∨ (K.length ≤ i ∧ L[i - K.length]? = some p) := fun i p hi => by
    by_cases hl : i < K.length
    · rw [List.getElem?_append_left hl] at hi; exact .inl ⟨hl, hi⟩
    · rw [List.getElem?_append_right (by omega)] at hi; exact .inr ⟨by omega, hi⟩
  have low : ∀ (i : Nat) (p : Nat × Nat × (Nat → Value)), L[i]? = some p → p.1 < X.heap.size := fun i p h => (hM.ats i p.1 p.2.1 p.2.2 h).lt
  refine ⟨h2.good, fun i b n f hi => ?_, fun i j p q hi hj hne => ?_⟩
  · rcases key i _ hi with ⟨_, h⟩ | ⟨_, h⟩
    · exact hK.ats i b n f h
    · exact h2.ats _ b n f h
  · rcases key i p hi with ⟨h1, h⟩ | ⟨h1, h⟩ <;> rcases key j q hj with ⟨g1, g⟩ | ⟨g1, g⟩
    · exact hK.apart i j p q h g hne
    · have := low _ q g; have := hge i p h; omega
    · have := low _ p h; have := hge j q g; omega
    · exact hM.apart _ _ p q h g (by omega)
/-- Three new blocks beside those that are known. -/
theorem Mem.fresh3 {b0 : Base} {L : Blocks} {X X' : World} {b c d n m k : Nat} {f g h : Nat → Value} (hM : Mem b0 L X) (hb : Below X.heap.size X X') (h3 : Mem X [(b, n, f), (c, m, g), (d, k, h)] X') (h1 : X.heap.size ≤ b) (h2 : X.heap.size ≤ c) (h4 : X.heap.size ≤ d) :
    Mem b0 (L ++ [(b, n, f), (c, m, g), (d, k, h)]) X' := by
  have e1 := hM.fresh' hb (h3.ats 0 _ _ _ rfl) h1
  have off : ∀ (y : Nat) (i : Nat) (p : Nat × Nat × (Nat → Value)), X.heap.size ≤ y → L[i]? = some p → p.1 ≠ y := fun y i p hy hp e => by
    have := (hM.ats i p.1 p.2.1 p.2.2 hp).lt
    omega
  have app : ∀ {M : Blocks} {q : Nat × Nat × (Nat → Value)} {i : Nat} {p : Nat × Nat × (Nat → Value)}, (M ++ [q])[i]? = some p → M[i]? = some p ∨ p = q := fun {M q i p} hp => by
    by_cases hl : i < M.length
    · rw [List.getElem?_append_left hl] at hp; exact .inl hp
    · rw [List.getElem?_append_right (by omega)] at hp
      cases hq : i - M.length with
      | zero => rw [hq] at hp; simp at hp; exact .inr hp.symm
      | succ j => rw [hq] at hp; simp at hp
  have e2 := e1.old (h3.ats 1 _ _ _ rfl) (fun i p hp => by
    rcases app hp with h | rfl
    · exact off c i p h2 h
    · exact h3.apart 0 1 _ _ rfl rfl (by omega))
  have e3 := e2.old (h3.ats 2 _ _ _ rfl) (fun i p hp => by
    rcases app hp with h | rfl
    · rcases app h with h | rfl
      · exact off d i p h4 h
      · exact h3.apart 0 2 _ _ rfl rfl (by omega)
    · exact h3.apart 1 2 _ _ rfl rfl (by omega))
  simpa using e3
end Go.Proofs.YtaaphdbaocjecaaDoor

/-
  []string: laws.szStringS, toStringS, eqStringS and slices.Equal by contracts.
-/
namespace Go.Proofs.YtaaphdbaocjecaaDoor
open Go Go.RowKit Go.BigFrame Go.ChangeShapes Go.WideShapes Go.Deep

def vStringS (ys : Nat → ByteArray) : Nat → Value := fun k => .string (ys k)
theorem cellStringS : CellT Tryd.prog 9 := ⟨⟨_, Tryd.underlying9, rfl⟩, by kernel_rfl⟩
theorem infoStringS : (Tryd.prog.info? 9).map (fun i => (i.size, i.zero, i.bytes)) = some (1, some (.string ⟨#[]⟩), 16) := by kernel_rfl
def fitsStringS (y : ByteArray) : Prop := y.size ≤ maxLen
section
variable {H : Type} {enc : TypeId × Value → H} {w : World} {base : Nat} {spare : Nat → Bool} {held : Bool}
set_option maxRecDepth 100000 in
theorem openStringS {v : Value} {b0 fuel : Nat} {x : DataW H × List MemPlace} (hok : Cell.okWide Tryd.prog w .any b0 36 v) (h : DataW.trod enc Tryd.prog w base spare held fuel 36 [v] = some x) :
    ∃ (n : Nat) (ys : Nat → ByteArray), n ≤ maxLen ∧ (∀ i, i < n → fitsStringS (ys i)) ∧ Arg1 w v n (vStringS ys) :=
  open_list1 Tryd.underlying36 (by kernel_rfl) (fun y => .string (y)) fitsStringS ⟨#[]⟩ (fun fuel v x h => trod_str Tryd.underlying9 fuel v x h) hok h
end

/-! ### equal -/
def eqvStringS (a b : ByteArray) : Bool := a.toList == b.toList
def sameStringS (n n' : Nat) (ys ys' : Nat → ByteArray) : Bool := decide (n = n') && (List.range n).all fun i => eqvStringS (ys i) (ys' i)
theorem sameStringS_len {n n' : Nat} {ys ys' : Nat → ByteArray} (h : n ≠ n') : sameStringS n n' ys ys' = false := by simp [sameStringS, h]
theorem sameStringS_no {n i : Nat} {ys ys' : Nat → ByteArray} (hi : i < n) (h : eqvStringS (ys i) (ys' i) = false) : sameStringS n n ys ys' = false := by
  have : ((List.range n).all fun i => eqvStringS (ys i) (ys' i)) = false := by rw [List.all_eq_false]; exact ⟨i, by simpa using hi, by rw [h]; decide⟩
  simp [sameStringS, this]
theorem sameStringS_yes {n : Nat} {ys ys' : Nat → ByteArray} (h : ∀ i, i < n → eqvStringS (ys i) (ys' i) = true) : sameStringS n n ys ys' = true := by
  have : ((List.range n).all fun i => eqvStringS (ys i) (ys' i)) = true := by rw [List.all_eq_true]; intro i hi; exact h i (by simpa using hi)
  simp [sameStringS, this]
theorem eqvStringS_self (a : ByteArray) : eqvStringS a a = true := by simp [eqvStringS]
theorem sameStringS_self (n : Nat) (ys : Nat → ByteArray) : sameStringS n n ys ys = true := sameStringS_yes fun i _ => eqvStringS_self (ys i)
end Go.Proofs.YtaaphdbaocjecaaDoor

/-
  strconv.FormatInt, strings.Join by contracts.
-/
namespace Go.Proofs.YtaaphdbaocjecaaDoor
open Go Go.RowKit Go.BigFrame Go.Shelf

/-- The table that FormatInt reads. -/
def TabP (W : World) : Prop := Lib.TabIs Tryd.prog W "internal/strconv.uint64pow10" .u64 Lib.pow10Tab
theorem tabP_g : Tryd.prog.globalNamed "internal/strconv.uint64pow10" = some 8 := by kernel_rfl
theorem TabP.lt {W : World} (h : TabP W) : 8 < W.heap.size := by
  have h := h
  unfold TabP Lib.TabIs World.var? at h
  simp only [tabP_g, Option.bind_some] at h
  by_cases hl : 8 < W.heap.size
  · exact hl
  · rw [Array.getElem?_eq_none (by omega)] at h; cases h
theorem TabP.below {W W' : World} (h : TabP W) (hb : Below W.heap.size W W') : TabP W' := var?_below hb tabP_g h.lt h

theorem fmt_any (n : Int) (h0 : 0 ≤ n) (h1 : n ≤ 9000000000) (w : World) (hT : TabP w) :
    Calls Tryd.prog 29 #[.int .i64 n, .int .i64 10] w fun e w' => e = .returned (.string (bs (numB n))) ∧ Below w.heap.size w w' := by
  refine (Any.strconv_FormatInt_10 Tryd.fmtLays n (by omega) (by omega) w hT).mono ?_
  rintro e w' ⟨rfl, k, os, rfl⟩
  exact ⟨by rw [show Lib.itoa n = numB n from by unfold Lib.itoa numB; rw [if_neg (by omega)]]; rfl, Lib.below_grow _ _ (Nat.le_refl _) k os⟩

theorem joinExtra : Builder.Extra Tryd.prog Tryd.joinLays_ren := { sizeBuilder := by kernel_rfl, liesBuilder := by kernel_rfl, t5 := Tryd.underlying5, a5 := Tryd.isAgg5, z5 := Tryd.sizeOf5, v5 := Tryd.zeroValue5, infoByte := by kernel_rfl, cellsByte := by kernel_rfl, sizeByte := by kernel_rfl, neB5 := by decide }

/-- The strings that f tells. -/
def strF (f : Nat → List UInt8) : Nat → Value := fun k => .string (bs (f k))
theorem joinS_none (a : Option Addr) (c : Nat) (sep : List UInt8) (w : World) :
    Calls Tryd.prog 30 #[.slice a 0 c, .string (bs sep)] w fun e w' => e = .returned (.string (bs [])) ∧ Below w.heap.size w w' := by
  refine (Any.strings_Join_none Tryd.joinLays joinExtra a c (bs sep) w).mono ?_
  rintro e w' ⟨rfl, rfl⟩
  exact ⟨rfl, Below.refl _ _⟩
theorem join_any (b n N c : Nat) (f : Nat → List UInt8) (F : Nat → Value) (sep : List UInt8) (m : Nat) (hf : ∀ k, k < n → (f k).length ≤ m) (hm : n * (m + sep.length) ≤ 100000000) (hn : n ≤ 1048576) (hnN : n ≤ N) (hF : ∀ k, k < n → F k = strF f k) (hc : n ≤ c) (w : World) (hA : At w b N F) :
    Calls Tryd.prog 30 #[.slice (some ⟨b, 0, none⟩) n c, .string (bs sep)] w fun e w' => e = .returned (.string (bs (joinT sep f n))) ∧ Below w.heap.size w w' := by
  have hl : ((List.range n).map fun k => bs (f k)).length = n := by simp
  have hmap : (((List.range n).map fun k => bs (f k)).map (·.data.toList)) = (List.range n).map f := by
    rw [List.map_map]
    exact List.map_congr_left (fun k _ => bs_data (f k))
  have hx := Any.strings_Join Tryd.joinLays joinExtra b 0 c ((List.range n).map fun k => bs (f k)) (bs sep) w
    (fun j x hj => by
      rw [List.getElem?_map] at hj
      obtain ⟨i, hi, rfl⟩ := Option.map_eq_some_iff.1 hj
      rw [List.getElem?_range] at hi
      · obtain rfl := Option.some.inj hi
        have hjn : j < n := by
          have := (List.getElem?_eq_some_iff.1 (by simpa using hj : ((List.range n).map fun k => bs (f k))[j]? = some (bs (f j)))).1
          simpa using this
        rw [Nat.zero_add, hA.cell (by omega), hF j hjn]; rfl
      · have := (List.getElem?_eq_some_iff.1 hi).1
        simpa using this)
    hA.lt (by rw [hl]; omega) (by rw [hl]; exact hc)
    (by rw [hmap, bs_data]; have := joinT_len (sep := sep) n hf; unfold joinT at this; omega)
  rw [hl, hmap, bs_data] at hx
  exact hx
end Go.Proofs.YtaaphdbaocjecaaDoor

/-
  Texts read: the parts between bytes.
-/
namespace Go.Proofs.YtaaphdbaocjecaaDoor
open Go

/-- The parts of a text between the bytes c. -/
def partsC (c : UInt8) : List UInt8 → List (List UInt8)
  | [] => [[]]
  | a :: l => if a = c then [] :: partsC c l else (partsC c l).modifyHead (a :: ·)
theorem partsC_ne (c : UInt8) : ∀ l, partsC c l ≠ []
  | [] => by simp [partsC]
  | a :: l => by
    have ih := partsC_ne c l
    unfold partsC
    split
    · simp
    · cases h : partsC c l with
      | nil => exact absurd h ih
      | cons p ps => simp
theorem partsC_app {c : UInt8} : ∀ (u r : List UInt8), c ∉ u → partsC c (u ++ c :: r) = u :: partsC c r
  | [], r, _ => by simp [partsC]
  | a :: u, r, h => by
    have ha : a ≠ c := fun e => h (by simp [e])
    have hu : c ∉ u := fun e => h (by simp [e])
    rw [List.cons_append, partsC, if_neg ha, partsC_app u r hu]
    rfl
theorem partsC_free {c : UInt8} : ∀ (u : List UInt8), c ∉ u → partsC c u = [u]
  | [], _ => rfl
  | a :: u, h => by
    have ha : a ≠ c := fun e => h (by simp [e])
    have hu : c ∉ u := fun e => h (by simp [e])
    rw [partsC, if_neg ha, partsC_free u hu]
    rfl
theorem first_c (c : UInt8) (l : List UInt8) : c ∉ l ∨ ∃ u r, c ∉ u ∧ l = u ++ c :: r := by
  by_cases h : c ∈ l
  · obtain ⟨u, r, h1, h2⟩ := List.eq_append_cons_of_mem h
    exact .inr ⟨u, r, h2, h1⟩
  · exact .inl h
theorem partsC_len (c : UInt8) : ∀ l, (partsC c l).length ≤ l.length + 1
  | [] => by simp [partsC]
  | a :: l => by
    have ih := partsC_len c l
    unfold partsC
    split
    · simp only [List.length_cons]; omega
    · rw [List.length_modifyHead, List.length_cons]; omega
theorem partsC_none (c : UInt8) : ∀ l, ∀ p, p ∈ partsC c l → c ∉ p
  | [], p, h => by simp [partsC] at h; subst h; simp
  | a :: l, p, h => by
    have ih := partsC_none c l
    unfold partsC at h
    split at h
    · rcases List.mem_cons.1 h with rfl | h
      · simp
      · exact ih p h
    · rename_i hac
      cases hp : partsC c l with
      | nil => exact absurd hp (partsC_ne c l)
      | cons q qs =>
        rw [hp, List.modifyHead_cons] at h
        rcases List.mem_cons.1 h with rfl | h
        · have := ih q (by rw [hp]; simp)
          intro e
          rcases List.mem_cons.1 e with e | e
          · exact hac e.symm
          · exact this e
        · exact ih p (by rw [hp]; exact List.mem_cons_of_mem _ h)
theorem join_two (x y : List UInt8) (r : List (List UInt8)) (sep : List UInt8) : Lib.join (x :: y :: r) sep = x ++ (sep ++ Lib.join (y :: r) sep) := by
  rw [Lib.join_cons, Lib.join_cons]
  simp [Lib.joinTail, List.append_assoc]
theorem join_partsC (c : UInt8) : ∀ (n : Nat) (l : List UInt8), l.length ≤ n → Lib.join (partsC c l) [c] = l
  | 0, l, h => by
    obtain rfl : l = [] := List.eq_nil_of_length_eq_zero (by omega)
    rfl
  | n + 1, l, h => by
    rcases first_c c l with h1 | ⟨u, r, h1, rfl⟩
    · rw [partsC_free l h1]; exact Lib.join_one _ _
    · have ih := join_partsC c n r (by simp only [List.length_append, List.length_cons] at h; omega)
      rw [partsC_app u r h1]
      cases hp : partsC c r with
      | nil => exact absurd hp (partsC_ne c r)
      | cons q qs => rw [join_two, ← hp, ih]; rfl
theorem partsC_join (c : UInt8) : ∀ (ws : List (List UInt8)), ws ≠ [] → (∀ w, w ∈ ws → c ∉ w) → partsC c (Lib.join ws [c]) = ws
  | [], h, _ => absurd rfl h
  | [w], _, h => by rw [show Lib.join [w] [c] = w from Lib.join_one _ _]; exact partsC_free w (h w (by simp))
  | w :: y :: r, _, h => by
    have ih := partsC_join c (y :: r) (by simp) (fun z hz => h z (List.mem_cons_of_mem _ hz))
    rw [join_two, List.singleton_append, partsC_app w _ (h w (by simp)), ih]
theorem partsC_snoc_c (c : UInt8) : ∀ l, partsC c (l ++ [c]) = partsC c l ++ [[]]
  | [] => by simp [partsC]
  | a :: l => by
    rw [List.cons_append, partsC, partsC, partsC_snoc_c c l]
    split
    · rfl
    · cases hp : partsC c l with
      | nil => exact absurd hp (partsC_ne c l)
      | cons q qs => rfl
theorem partsC_snoc {c a : UInt8} (h : a ≠ c) : ∀ (l : List UInt8) (ps : List (List UInt8)) (p : List UInt8), partsC c l = ps ++ [p] → partsC c (l ++ [a]) = ps ++ [p ++ [a]]
  | [], ps, p, e => by
    have : ps = [] ∧ p = [] := by
      cases ps with
      | nil => simp [partsC] at e; exact ⟨rfl, e⟩
      | cons q qs => simp [partsC] at e
    obtain ⟨rfl, rfl⟩ := this
    simp [partsC, h]
  | b :: l, ps, p, e => by
    rw [List.cons_append]
    unfold partsC at e ⊢
    split at e
    · rename_i hb
      rw [if_pos hb]
      cases ps with
      | nil => simp at e; exact absurd e.2 (partsC_ne c l)
      | cons q qs =>
        simp at e
        rw [partsC_snoc h l qs p e.2]
        simp [e.1]
    · rename_i hb
      rw [if_neg hb]
      cases hp : partsC c l with
      | nil => exact absurd hp (partsC_ne c l)
      | cons q qs =>
        rw [hp, List.modifyHead_cons] at e
        cases ps with
        | nil =>
          simp at e
          obtain ⟨e1, e2⟩ := e
          subst e2
          rw [partsC_snoc h l [] q hp]
          simp [← e1]
        | cons q' qs' =>
          simp at e
          obtain ⟨e1, e2⟩ := e
          rw [partsC_snoc h l (q :: qs') p (by rw [hp, e2]; rfl)]
          simp [← e1]

/-! The library's words. -/
theorem index_free {c : UInt8} {u : List UInt8} (h : c ∉ u) : Lib.index u [c] = -1 := by
  rw [Lib.index_one]
  have h1 := Lib.indexByte_ge u c
  by_cases e : Lib.indexByte u c = -1
  · exact e
  · obtain ⟨o, ho⟩ : ∃ o : Nat, Lib.indexByte u c = o := ⟨(Lib.indexByte u c).toNat, by omega⟩
    exact absurd (List.mem_of_getElem? (Lib.indexByte_some ho).1) h
theorem index_app {c : UInt8} {u r : List UInt8} (h : c ∉ u) : Lib.index (u ++ c :: r) [c] = u.length := by
  rw [Lib.index_one]
  have h1 := Lib.indexByte_ge (u ++ c :: r) c
  by_cases e : Lib.indexByte (u ++ c :: r) c = -1
  · exact absurd (by simp) (Lib.indexByte_none e u.length)
  · obtain ⟨o, ho⟩ : ∃ o : Nat, Lib.indexByte (u ++ c :: r) c = o := ⟨(Lib.indexByte (u ++ c :: r) c).toNat, by omega⟩
    obtain ⟨h2, h3⟩ := Lib.indexByte_some ho
    rw [ho]
    by_cases h4 : o < u.length
    · rw [List.getElem?_append_left h4] at h2
      exact absurd (List.mem_of_getElem? h2) h
    · by_cases h5 : u.length < o
      · exact absurd (by simp) (h3 u.length h5)
      · omega
theorem cut_free {c : UInt8} {u : List UInt8} (h : c ∉ u) : Lib.cut u [c] = (u, [], false) := by
  unfold Lib.cut
  rw [index_free h]; rfl
theorem cut_app {c : UInt8} {u r : List UInt8} (h : c ∉ u) : Lib.cut (u ++ c :: r) [c] = (u, r, true) := by
  unfold Lib.cut
  rw [index_app h, if_pos (by omega)]
  simp
theorem splitK_few (c : UInt8) : ∀ (k : Nat) (l : List UInt8), (partsC c l).length ≤ k + 1 → Lib.splitK [c] 0 k l = partsC c l
  | 0, l, h => by
    rcases first_c c l with h1 | ⟨u, r, h1, rfl⟩
    · rw [partsC_free l h1]; rfl
    · rw [partsC_app u r h1] at h
      exact absurd (List.eq_nil_of_length_eq_zero (by simp only [List.length_cons] at h; omega)) (partsC_ne c r)
  | k + 1, l, h => by
    unfold Lib.splitK
    rcases first_c c l with h1 | ⟨u, r, h1, rfl⟩
    · rw [index_free h1, partsC_free l h1]; rfl
    · rw [partsC_app u r h1] at h ⊢
      have ih := splitK_few c k r (by simp only [List.length_cons] at h; omega)
      rw [index_app h1, if_neg (by simp)]
      simp [ih]
theorem splitK_many (c : UInt8) : ∀ (k : Nat) (l : List UInt8), k + 1 < (partsC c l).length → (Lib.splitK [c] 0 k l).length = k + 1
  | 0, l, _ => rfl
  | k + 1, l, h => by
    unfold Lib.splitK
    rcases first_c c l with h1 | ⟨u, r, h1, rfl⟩
    · rw [partsC_free l h1] at h; simp at h
    · rw [partsC_app u r h1] at h
      have ih := splitK_many c k r (by simp only [List.length_cons] at h; omega)
      rw [index_app h1, if_neg (by simp)]
      simp [ih]
end Go.Proofs.YtaaphdbaocjecaaDoor

/-
  Numbers read.
-/
namespace Go.Proofs.YtaaphdbaocjecaaDoor
open Go

def isD (d : UInt8) : Bool := decide (48 ≤ d.toNat) && decide (d.toNat ≤ 57)
theorem isD_iff {d : UInt8} : isD d = true ↔ 48 ≤ d.toNat ∧ d.toNat ≤ 57 := by unfold isD; simp
def valFrom (n : Nat) (l : List UInt8) : Nat := l.foldl (fun n d => 10 * n + (d.toNat - 48)) n
def valD (l : List UInt8) : Nat := valFrom 0 l
theorem valFrom_snoc (n : Nat) (l : List UInt8) (d : UInt8) : valFrom n (l ++ [d]) = 10 * valFrom n l + (d.toNat - 48) := by simp [valFrom]
theorem valD_snoc (l : List UInt8) (d : UInt8) : valD (l ++ [d]) = 10 * valD l + (d.toNat - 48) := valFrom_snoc 0 l d
/-- Digits, with no needless 0 ahead. -/
def PlainD (l : List UInt8) : Prop := l ≠ [] ∧ (∀ d, d ∈ l → isD d = true) ∧ (l.head? = some 48 → l.length = 1)
theorem ofNat_digit {d : UInt8} (h : isD d = true) : UInt8.ofNat (48 + (d.toNat - 48)) = d := by
  have := isD_iff.1 h
  rw [show 48 + (d.toNat - 48) = d.toNat by omega]
  exact UInt8.ofNat_toNat
theorem toNat_digit {k : Nat} (h : k < 10) : (UInt8.ofNat (48 + k)).toNat = 48 + k := by
  rw [UInt8.toNat_ofNat']
  exact Nat.mod_eq_of_lt (by omega)
theorem isD_ofNat {k : Nat} (h : k < 10) : isD (UInt8.ofNat (48 + k)) = true := isD_iff.2 (by rw [toNat_digit h]; omega)
theorem snoc_cases (l : List UInt8) : l = [] ∨ ∃ r d, l = r ++ [d] := by
  cases h : l.reverse with
  | nil => exact .inl (by simpa using h)
  | cons d r => exact .inr ⟨r.reverse, d, by rw [← List.reverse_reverse l, h]; simp⟩
theorem decD_small {u : Nat} (h : u < 10) : Lib.decDigits u = [UInt8.ofNat (48 + u)] := Lib.decDigits_one h
theorem decD_big {u : Nat} (h : ¬ u < 10) : Lib.decDigits u = Lib.decDigits (u / 10) ++ [UInt8.ofNat (48 + u % 10)] := by rw [Lib.decDigits, dif_neg h]
theorem decD_ne : ∀ u, Lib.decDigits u ≠ [] := fun u => by
  by_cases h : u < 10
  · rw [decD_small h]; simp
  · rw [decD_big h]; simp
theorem decD_val : ∀ (n u : Nat), u ≤ n → valD (Lib.decDigits u) = u
  | n, u, hn => by
    by_cases h : u < 10
    · rw [decD_small h]
      have := toNat_digit h
      simp [valD, valFrom]; omega
    · cases n with
      | zero => omega
      | succ n =>
        rw [decD_big h, valD_snoc, decD_val n (u / 10) (by omega), toNat_digit (by omega)]
        omega
theorem decD_isD : ∀ (n u : Nat), u ≤ n → ∀ d, d ∈ Lib.decDigits u → isD d = true
  | n, u, hn, d, hd => by
    by_cases h : u < 10
    · rw [decD_small h] at hd
      rw [List.mem_singleton.1 hd]; exact isD_ofNat h
    · cases n with
      | zero => omega
      | succ n =>
        rw [decD_big h] at hd
        rcases List.mem_append.1 hd with hd | hd
        · exact decD_isD n (u / 10) (by omega) d hd
        · rw [List.mem_singleton.1 hd]; exact isD_ofNat (Nat.mod_lt _ (by omega))
theorem decD_head : ∀ (n u : Nat), u ≤ n → 0 < u → (Lib.decDigits u).head? ≠ some 48
  | n, u, hn, h0, e => by
    by_cases h : u < 10
    · rw [decD_small h] at e
      have e2 : UInt8.ofNat (48 + u) = 48 := by injection e
      have := toNat_digit h
      rw [e2] at this
      have e3 : (48 : UInt8).toNat = 48 := rfl
      omega
    · cases n with
      | zero => omega
      | succ n =>
        rw [decD_big h, List.head?_append] at e
        cases hh : (Lib.decDigits (u / 10)).head? with
        | none => exact decD_ne _ (List.head?_eq_none_iff.1 hh)
        | some a =>
          rw [hh] at e
          simp at e; subst e
          exact decD_head n (u / 10) (by omega) (by omega) hh
theorem decD_plain (u : Nat) : PlainD (Lib.decDigits u) := by
  refine ⟨decD_ne u, decD_isD u u (Nat.le_refl _), fun e => ?_⟩
  by_cases h : 0 < u
  · exact absurd e (decD_head u u (Nat.le_refl _) h)
  · obtain rfl : u = 0 := by omega
    rw [decD_small (by omega)]; rfl
theorem plain_dec : ∀ (n : Nat) (l : List UInt8), l.length ≤ n → PlainD l → l = Lib.decDigits (valD l)
  | 0, l, hn, h => absurd (List.eq_nil_of_length_eq_zero (by omega)) h.1
  | n + 1, l, hn, h => by
    rcases snoc_cases l with rfl | ⟨r, d, rfl⟩
    · exact absurd rfl h.1
    · have hd := h.2.1 d (by simp)
      have hd2 := isD_iff.1 hd
      by_cases hr : r = []
      · subst hr
        have ev : valD ([] ++ [d]) = d.toNat - 48 := by rw [valD_snoc]; simp [valD, valFrom]
        rw [ev, decD_small (by omega), ofNat_digit hd]; rfl
      · have hlen : 1 ≤ r.length := by
          rcases Nat.eq_zero_or_pos r.length with e | e
          · exact absurd (List.eq_nil_of_length_eq_zero e) hr
          · exact e
        have hh : (r ++ [d]).head? = r.head? := by cases r with
          | nil => exact absurd rfl hr
          | cons a r => rfl
        have hnh : r.head? ≠ some 48 := fun e => by
          have := h.2.2 (by rw [hh]; exact e)
          simp only [List.length_append, List.length_cons, List.length_nil] at this
          omega
        have hp : PlainD r := ⟨hr, fun x hx => h.2.1 x (by simp [hx]), fun e => absurd e hnh⟩
        have ih := plain_dec n r (by simp only [List.length_append, List.length_cons, List.length_nil] at hn; omega) hp
        have hv : 0 < valD r := by
          rcases Nat.eq_zero_or_pos (valD r) with e | e
          · rw [e] at ih
            exact absurd (by rw [ih, decD_small (by omega)]; rfl) hnh
          · exact e
        rw [valD_snoc, decD_big (by omega), show (10 * valD r + (d.toNat - 48)) / 10 = valD r by omega, show (10 * valD r + (d.toNat - 48)) % 10 = d.toNat - 48 by omega, ← ih, ofNat_digit hd]
/-- A number of at most nine digits, as spec.l01Number takes it. -/
def numB9 (l : List UInt8) : Bool := !l.isEmpty && decide (l.length ≤ 9) && !(l.head? == some 48 && decide (1 < l.length)) && l.all isD
theorem numB9_plain {l : List UInt8} (h : numB9 l = true) : PlainD l ∧ l.length ≤ 9 := by
  unfold numB9 at h
  simp only [Bool.and_eq_true, Bool.not_eq_true', decide_eq_true_eq, List.all_eq_true] at h
  obtain ⟨⟨⟨h1, h2⟩, h3⟩, h4⟩ := h
  refine ⟨⟨fun e => by subst e; simp at h1, h4, fun e => ?_⟩, h2⟩
  rw [e] at h3
  simp at h3
  cases l with
  | nil => simp at e
  | cons a r => simp only [List.length_cons] at h3 ⊢; omega
theorem numB9_iff {l : List UInt8} : numB9 l = true ↔ l.length ≤ 9 ∧ l = Lib.decDigits (valD l) := by
  constructor
  · intro h
    obtain ⟨h1, h2⟩ := numB9_plain h
    exact ⟨h2, plain_dec _ l (Nat.le_refl _) h1⟩
  · rintro ⟨h1, h2⟩
    have hp : PlainD l := by rw [h2]; exact decD_plain _
    unfold numB9
    simp only [Bool.and_eq_true, Bool.not_eq_true', decide_eq_true_eq, List.all_eq_true]
    refine ⟨⟨⟨?_, h1⟩, ?_⟩, hp.2.1⟩
    · cases l with
      | nil => exact absurd rfl hp.1
      | cons a r => rfl
    · by_cases e : l.head? = some 48
      · have := hp.2.2 e
        simp [this]
      · simp [e]
/-- The library's numbers. -/
theorem parseM_dec (M : Nat) (hM : M < 1844674407370955162) : ∀ (l : List UInt8) (acc : Nat), (∀ d, d ∈ l → isD d = true) → valFrom acc l ≤ M → Lib.parseUintM M acc l = .ok (valFrom acc l)
  | [], acc, _, _ => rfl
  | c :: r, acc, hd, hv => by
    have h1 := isD_iff.1 (hd c (by simp))
    have mono : ∀ (r : List UInt8) (a : Nat), a ≤ valFrom a r := by
      intro r
      induction r with
      | nil => intro a; exact Nat.le_refl _
      | cons x r ih => intro a; have := ih (10 * a + (x.toNat - 48)); show a ≤ valFrom (10 * a + (x.toNat - 48)) r; omega
    have e : valFrom acc (c :: r) = valFrom (acc * 10 + (c.toNat - 48)) r := by show valFrom (10 * acc + (c.toNat - 48)) r = _; rw [Nat.mul_comm]
    rw [e] at hv ⊢
    have h2 := mono r (acc * 10 + (c.toNat - 48))
    rw [Lib.parseUintM, if_pos h1, if_neg (by omega), if_neg (by omega)]
    exact parseM_dec M hM r _ (fun d h => hd d (by simp [h])) hv
theorem parseB_dec {B u : Nat} (hB : B ≤ 32) (h0 : 1 ≤ B) (hu : u < 2 ^ (B - 1)) : Lib.parseIntB B (Lib.decDigits u) = .ok (u : Int) := by
  have hp := decD_plain u
  have hv := decD_val u u (Nat.le_refl _)
  have hle : 2 ^ B ≤ 2 ^ 32 := Nat.pow_le_pow_right (by decide) hB
  have hlt : 2 ^ (B - 1) ≤ 2 ^ B - 1 := by
    have : 2 ^ B = 2 ^ (B - 1) * 2 := by rw [← Nat.pow_succ]; congr 1; omega
    have := Nat.pow_pos (n := B - 1) (show 0 < 2 by decide)
    omega
  cases hc : Lib.decDigits u with
  | nil => exact absurd hc hp.1
  | cons c r =>
    have hd := isD_iff.1 (hp.2.1 c (by rw [hc]; simp))
    rw [Lib.parseIntB_plain B c r (by omega) (by omega)]
    have e : Lib.parseUintB B (c :: r) = .ok u := by
      unfold Lib.parseUintB
      rw [if_neg (by simp), ← hc, parseM_dec _ (by omega) _ 0 hp.2.1 (by show valD _ ≤ _; rw [hv]; omega)]
      show Lib.NumEnd.ok (valD (Lib.decDigits u)) = _
      rw [hv]
    rw [e]
    simp only [Lib.signlessC]
    rw [if_neg (by omega)]
end Go.Proofs.YtaaphdbaocjecaaDoor

/-
  Words read: two parts, numbers, spots.
-/
namespace Go.Proofs.YtaaphdbaocjecaaDoor
open Go

theorem parts_two {c : UInt8} {w p q : List UInt8} : partsC c w = [p, q] ↔ w = p ++ c :: q ∧ c ∉ p ∧ c ∉ q := by
  constructor
  · intro h
    have hn := partsC_none c w
    rw [h] at hn
    refine ⟨?_, hn p (by simp), hn q (by simp)⟩
    rw [← join_partsC c _ w (Nat.le_refl _), h, join_two, show Lib.join [q] [c] = q from Lib.join_one _ _]
    simp
  · rintro ⟨rfl, h1, h2⟩
    rw [partsC_app p q h1, partsC_free q h2]
theorem numB_dig (n : Int) : ∀ d, d ∈ numB n → isD d = true := decD_isD _ _ (Nat.le_refl _)
theorem numB_free {c : UInt8} (h : isD c = false) (n : Int) : c ∉ numB n := fun e => by rw [numB_dig n c e] at h; cases h
theorem numB_ne (n : Int) : numB n ≠ [] := decD_ne _
theorem numB_val {n : Int} (h : 0 ≤ n) : (valD (numB n) : Int) = n := by unfold numB; rw [decD_val _ _ (Nat.le_refl _)]; omega
theorem numB_inj {m n : Int} (hm : 0 ≤ m) (hn : 0 ≤ n) (h : numB m = numB n) : m = n := by rw [← numB_val hm, h, numB_val hn]
theorem num9_numB {l : List UInt8} (h : numB9 l = true) : l = numB (valD l) := by
  have := (numB9_iff.1 h).2
  unfold numB
  rwa [Int.toNat_natCast]
theorem nDigits_le9 {u : Nat} (h : u < 1000000000) : Lib.nDigits u ≤ 9 := by
  have key : ∀ (k u : Nat), u < 10 ^ (k + 1) → Lib.nDigits u ≤ k + 1 := by
    intro k
    induction k with
    | zero => intro u h; rw [Lib.nDigits_small (by omega)]; omega
    | succ k ih =>
      intro u h
      by_cases h10 : u < 10
      · rw [Lib.nDigits_small h10]; omega
      · rw [Lib.nDigits_big h10]
        have := ih (u / 10) (by rw [Nat.div_lt_iff_lt_mul (by omega)]; rw [Nat.pow_succ] at h; omega)
        omega
  exact key 8 u h
theorem numB_num9 {n : Int} (h0 : 0 ≤ n) (h : n < 1000000000) : numB9 (numB n) = true := by
  refine numB9_iff.2 ⟨?_, ?_⟩
  · unfold numB; rw [Lib.decDigits_length]; exact nDigits_le9 (by omega)
  · have := numB_val h0
    unfold numB at this ⊢
    rw [decD_val _ _ (Nat.le_refl _)]
theorem parse_numB {B : Nat} {n : Int} (hB : B ≤ 32) (h1 : 1 ≤ B) (h0 : 0 ≤ n) (h : n < 2 ^ (B - 1)) : Lib.parseIntB B (numB n) = .ok n := by
  unfold numB
  have e : ((2 ^ (B - 1) : Nat) : Int) = 2 ^ (B - 1) := by simp
  rw [parseB_dec hB h1 (by omega)]
  congr 1
  omega
/-- A spot's word. -/
theorem spotT_free {c : UInt8} (h : isD c = false) (h2 : c ≠ 44) (x y : Int) : c ∉ spotT x y := by
  intro e
  unfold spotT at e
  rcases List.mem_append.1 e with e | e
  · rcases List.mem_append.1 e with e | e
    · exact numB_free h x e
    · simp at e; exact h2 e
  · exact numB_free h y e
theorem spotT_parts (x y : Int) : partsC 44 (spotT x y) = [numB x, numB y] :=
  parts_two.2 ⟨by unfold spotT; simp, numB_free (by decide) x, numB_free (by decide) y⟩
theorem spotT_cut (x y : Int) : Lib.cut (spotT x y) [44] = (numB x, numB y, true) := by
  have : spotT x y = numB x ++ 44 :: numB y := by unfold spotT; simp
  rw [this]
  exact cut_app (numB_free (by decide) x)
theorem spotT_inj {x y u v : Int} (hx : 0 ≤ x) (hy : 0 ≤ y) (hu : 0 ≤ u) (hv : 0 ≤ v) (h : spotT x y = spotT u v) : x = u ∧ y = v := by
  have := spotT_parts x y
  rw [h, spotT_parts] at this
  simp at this
  exact ⟨(numB_inj hu hx this.1).symm, (numB_inj hv hy this.2).symm⟩
/-- A joined text's parts are its words. -/
theorem partsC_joinT {c : UInt8} {f : Nat → List UInt8} {n : Nat} (hn : 0 < n) (hf : ∀ k, k < n → c ∉ f k) : partsC c (joinT [c] f n) = (List.range n).map f := by
  unfold joinT
  refine partsC_join c _ (fun e => ?_) (fun w hw => ?_)
  · have := congrArg List.length e
    simp at this; omega
  · obtain ⟨k, hk, rfl⟩ := List.mem_map.1 hw
    exact hf k (List.mem_range.1 hk)
theorem joinT_inj {c : UInt8} {f g : Nat → List UInt8} {n m : Nat} (hn : 0 < n) (hm : 0 < m) (hf : ∀ k, k < n → c ∉ f k) (hg : ∀ k, k < m → c ∉ g k) (h : joinT [c] f n = joinT [c] g m) : n = m ∧ ∀ k, k < n → f k = g k := by
  have e := partsC_joinT hn hf
  rw [h, partsC_joinT hm hg] at e
  have el := congrArg List.length e
  simp only [List.length_map, List.length_range] at el
  subst el
  refine ⟨rfl, fun k hk => ?_⟩
  have := congrArg (fun l => l[k]?) e
  simp [hk] at this
  exact this.symm
theorem joinT_parts {c : UInt8} {f : Nat → List UInt8} {l : List UInt8} (h : ∀ k, k < (partsC c l).length → (partsC c l)[k]? = some (f k)) : joinT [c] f (partsC c l).length = l := by
  unfold joinT
  have : (List.range (partsC c l).length).map f = partsC c l := by
    apply List.ext_getElem?
    intro k
    by_cases hk : k < (partsC c l).length
    · rw [h k hk]; simp [hk]
    · rw [List.getElem?_eq_none (by simp; omega), List.getElem?_eq_none (by omega)]
  rw [this]
  exact join_partsC c _ l (Nat.le_refl _)
end Go.Proofs.YtaaphdbaocjecaaDoor

/-
  PLAIN LAWS: slices of rows by value: a slice literal of one or two such elements is a new block.
-/
namespace Go.Proofs.YtaaphdbaocjecaaDoor
open Go Go.RowKit

theorem fold_lay (f : Nat → Value) (off : Nat) : ∀ (m : Nat) (cs : Array Value), off + m ≤ cs.size →
    (((List.range m).map f).zipIdx.foldl (fun cs x => cs.setIfInBounds (off + x.2) x.1) cs).size = cs.size ∧
    ∀ k : Nat, (((List.range m).map f).zipIdx.foldl (fun cs x => cs.setIfInBounds (off + x.2) x.1) cs)[k]? = if off ≤ k ∧ k < off + m then some (f (k - off)) else cs[k]?
  | 0, cs, _ => by
    refine ⟨rfl, fun k => ?_⟩
    rw [if_neg (by omega)]; rfl
  | m + 1, cs, h => by
    obtain ⟨i1, i2⟩ := fold_lay f off m cs (by omega)
    rw [List.range_succ, List.map_append, List.zipIdx_append, List.foldl_append]
    simp only [List.map_cons, List.map_nil, List.length_map, List.length_range, Nat.zero_add, List.zipIdx_cons, List.zipIdx_nil, List.foldl_cons, List.foldl_nil]
    refine ⟨by rw [Array.size_setIfInBounds, i1], fun k => ?_⟩
    rw [Array.getElem?_setIfInBounds, i2 k, i1]
    by_cases h1 : off + m = k
    · subst h1
      simp [show off + m < cs.size by omega]
    · simp only [h1, if_false]
      by_cases h2 : off ≤ k ∧ k < off + m
      · rw [if_pos h2, if_pos (by omega)]
      · rw [if_neg h2, if_neg (by omega)]

theorem fill_one {place : Nat → Option (Nat × Nat)} {cs : Array Value} {i off m : Nat} {f : Nat → Value} (hp : place i = some (off, m)) (hle : off + m ≤ cs.size) (rest : List (Nat × Value)) :
    ∃ cs', Instr.fill place cs ((i, .agg (arr m f)) :: rest) = Instr.fill place cs' rest ∧ cs'.size = cs.size ∧ ∀ k : Nat, cs'[k]? = if off ≤ k ∧ k < off + m then some (f (k - off)) else cs[k]? := by
  refine ⟨_, ?_, (fold_lay f off m cs hle).1, (fold_lay f off m cs hle).2⟩
  rw [Instr.fill, hp]
  have e1 : (decide ((Value.agg (arr m f)).cells.size ≠ m) || decide (off + (Value.agg (arr m f)).cells.size > cs.size)) = false := by
    simp [Value.cells, arr_size]; omega
  simp only [Value.cells] at e1 ⊢
  rw [← Array.foldl_toList, Array.toList_zipIdx, arr_toList]
  simp only [arr_size, ne_eq, not_true_eq_false, gt_iff_lt, show ¬ cs.size < off + m by omega, decide_false, Bool.or_self, Bool.false_eq_true, or_self, if_false]

variable {P : Program} {ops : Array Oper} {rest : List Oper} {o : Oper} {a : Act} {w : Base} {W : World} {Q : Exit → Act → World → Prop} {L : Blocks}
/-- A slice literal of one element that is a row of m cells: a new block. -/
theorem wpList_slice1 (hgd : o.guard = none) (t e : TypeId) (x : Operand) (ho : o.op = .buildSlice t 1 #[(0, x)]) (m : Nat) (f : Nat → Value) (hx : a.eval x = .agg (arr m f)) (z : Value)
    (hu : P.underlying t = some (.slice e)) (hz : (P.info? e).map (fun i => (i.size, i.zero)) = some (m, some z)) (hm : 0 < m) (hm' : m ≤ 1000) (hM : Mem w L W)
    (h : ∀ b W', w.B ≤ b → Mem w ((b, m, f) :: L) W' → wpList P ops Q rest (a.put o.dst (.slice (some ⟨b, 0, none⟩) 1 1)) W') : wpList P ops Q (o :: rest) a W := by
  obtain ⟨ie, hie, hq⟩ := Option.map_eq_some_iff.1 hz
  simp only [Prod.mk.injEq] at hq
  refine wpList_buildSlice hgd t e 1 _ ho (arr m f) ie z hu hie hq.2 (by rw [hq.1]; omega) (by rw [hq.1]; omega) ?_ (h _ _ hM.size (hM.alloc e m f))
  rw [hq.1]
  rw [show (Array.map (fun x => match x with | (i, x) => (i, a.eval x)) #[(0, x)]).toList = [(0, Value.agg (arr m f))] by simp [hx]]
  obtain ⟨cs, h1, h2, h3⟩ := fill_one (f := f) (place := fun i => some (i * m, m)) (i := 0) (off := 0 * m) (m := m) rfl (cs := (Array.range (1 * m)).map (z.cells[· % z.cells.size]!)) (by simp) []
  rw [h1, Instr.fill]
  refine congrArg some (arr_ext (by rw [h2]; simp) (fun k hk => ?_))
  rw [h3, if_pos (by omega)]; simp
/-- A slice literal of two such elements. -/
theorem wpList_slice2 (hgd : o.guard = none) (t e : TypeId) (x y : Operand) (ho : o.op = .buildSlice t 2 #[(0, x), (1, y)]) (m : Nat) (f g : Nat → Value) (hx : a.eval x = .agg (arr m f)) (hy : a.eval y = .agg (arr m g)) (z : Value)
    (hu : P.underlying t = some (.slice e)) (hz : (P.info? e).map (fun i => (i.size, i.zero)) = some (m, some z)) (hm : 0 < m) (hm' : m ≤ 1000) (hM : Mem w L W)
    (h : ∀ b W', w.B ≤ b → Mem w ((b, 2 * m, fun k => if k < m then f k else g (k - m)) :: L) W' → wpList P ops Q rest (a.put o.dst (.slice (some ⟨b, 0, none⟩) 2 2)) W') : wpList P ops Q (o :: rest) a W := by
  obtain ⟨ie, hie, hq⟩ := Option.map_eq_some_iff.1 hz
  simp only [Prod.mk.injEq] at hq
  refine wpList_buildSlice hgd t e 2 _ ho (arr (2 * m) fun k => if k < m then f k else g (k - m)) ie z hu hie hq.2 (by rw [hq.1]; omega) (by rw [hq.1]; omega) ?_ (h _ _ hM.size (hM.alloc e (2 * m) _))
  rw [hq.1]
  rw [show (Array.map (fun x => match x with | (i, x) => (i, a.eval x)) #[(0, x), (1, y)]).toList = [(0, Value.agg (arr m f)), (1, Value.agg (arr m g))] by simp [hx, hy]]
  obtain ⟨cs, h1, h2, h3⟩ := fill_one (f := f) (place := fun i => some (i * m, m)) (i := 0) (off := 0 * m) (m := m) rfl (cs := (Array.range (2 * m)).map (z.cells[· % z.cells.size]!)) (by simp; omega) [(1, Value.agg (arr m g))]
  rw [h1]
  have hs : cs.size = 2 * m := by rw [h2]; simp
  obtain ⟨ds, g1, g2, g3⟩ := fill_one (f := g) (place := fun i => some (i * m, m)) (i := 1) (off := 1 * m) (m := m) rfl (cs := cs) (by omega) []
  rw [g1, Instr.fill]
  refine congrArg some (arr_ext (by rw [g2, hs]) (fun k hk => ?_))
  rw [g3]
  by_cases hk2 : k < m
  · rw [if_neg (by omega), h3, if_pos (by omega)]; simp [hk2]
  · rw [if_pos (by omega)]; simp [hk2]
end Go.Proofs.YtaaphdbaocjecaaDoor

