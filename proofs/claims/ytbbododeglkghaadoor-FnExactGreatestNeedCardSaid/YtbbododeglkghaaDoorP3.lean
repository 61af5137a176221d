/-
  Several texts in one: Own, Lit1, Join, IsJoin, CheckGrass, ErrO, MeadowOk, MinMax.
-/
import Derived.Deep.DeepAppendWide
import Derived.ArgAppend
import Derived.Test.YtbbododeglkghaaDoorP2
import Derived.Laws.MakeOwn
/-
  PLAIN LAWS: a list that a walk appends to, one element after the other: none yet, or the first cells of a block of the call's own.
-/
namespace Go.Proofs.YtbbododeglkghaaDoor
open Go Go.RowKit

/-- The list v of n elements of m cells: R; beside it lie the blocks K. -/
def Lst (w : Base) (K : Blocks) (m : Nat) (v : Value) (n : Nat) (R : Nat → Value) (W : World) : Prop :=
  (v = .slice none 0 0 ∧ n = 0 ∧ Mem w K W) ∨ ∃ b c F, v = .slice (some ⟨b, 0, none⟩) n c ∧ w.B ≤ b ∧ n ≤ c ∧ (∀ j, j < n * m → F j = R j) ∧ Mem w ((b, c * m, F) :: K) W
theorem Lst.mem {w : Base} {K : Blocks} {m : Nat} {v : Value} {n : Nat} {R : Nat → Value} {W : World} (h : Lst w K m v n R W) : Mem w K W := by
  rcases h with ⟨-, -, h⟩ | ⟨b, c, F, -, -, -, -, h⟩
  · exact h
  · exact h.drop

theorem Lst.only {w : Base} {K : Blocks} {m : Nat} {v : Value} {n : Nat} {R : Nat → Value} {W : World} (h : Lst w K m v n R W) : Lst w [] m v n R W := by
  rcases h with ⟨h1, h2, h⟩ | ⟨b, c, F, h1, h2, h3, h4, h⟩
  · exact .inl ⟨h1, h2, Mem.start h.good⟩
  · refine .inr ⟨b, c, F, h1, h2, h3, h4, h.good, fun i b' n' f' hi => ?_, fun i j x y hi hj hne => ?_⟩
    · match i, hi with
      | 0, hi => exact h.ats 0 b' n' f' (by simpa using hi)
      | i + 1, hi => simp at hi
    · match i, j, hi, hj with
      | 0, 0, _, _ => exact absurd rfl hne
      | 0, j + 1, _, hj => simp at hj
      | i + 1, _, hi, _ => simp at hi

theorem arr_any (A : Array Value) : A = arr A.size (fun k => A[k]?.getD undef) := arr_ext rfl (fun k hk => by simp [hk])
theorem Mem.allocA {w : Base} {W : World} {L : Blocks} (h : Mem w L W) (t : TypeId) (A : Array Value) (n : Nat) (hs : A.size = n) : Mem w ((W.heap.size, n, fun k => A[k]?.getD undef) :: L) (W.alloc (.cells A t)) := by
  subst hs
  have := h.alloc t A.size (fun k => A[k]?.getD undef)
  rwa [← arr_any] at this
theorem Mem.skip {w : Base} {W : World} {p q : Nat × Nat × (Nat → Value)} {L : Blocks} (h : Mem w (p :: q :: L) W) : Mem w (p :: L) W :=
  ⟨h.good, fun i b n f hi => by
    match i, hi with
    | 0, hi => exact h.ats 0 b n f (by simpa using hi)
    | i + 1, hi => exact h.ats (i + 2) b n f (by simpa using hi),
   fun i j x y hi hj hne => by
    match i, j, hi, hj with
    | 0, 0, _, _ => exact absurd rfl hne
    | 0, j + 1, hi, hj => exact h.apart 0 (j + 2) x y (by simpa using hi) (by simpa using hj) (by omega)
    | i + 1, 0, hi, hj => exact h.apart (i + 2) 0 x y (by simpa using hi) (by simpa using hj) (by omega)
    | i + 1, j + 1, hi, hj => exact h.apart (i + 2) (j + 2) x y (by simpa using hi) (by simpa using hj) (by omega)⟩
theorem Mem.swap {w : Base} {W : World} {p q : Nat × Nat × (Nat → Value)} {L : Blocks} (h : Mem w (p :: q :: L) W) : Mem w (q :: p :: L) W :=
  ⟨h.good, fun i b n f hi => by
    match i, hi with
    | 0, hi => exact h.ats 1 b n f (by simpa using hi)
    | 1, hi => exact h.ats 0 b n f (by simpa using hi)
    | i + 2, hi => exact h.ats (i + 2) b n f (by simpa using hi),
   fun i j x y hi hj hne => by
    match i, j, hi, hj with
    | 0, 0, _, _ => exact absurd rfl hne
    | 1, 1, _, _ => exact absurd rfl hne
    | 0, 1, hi, hj => exact h.apart 1 0 x y (by simpa using hi) (by simpa using hj) (by omega)
    | 1, 0, hi, hj => exact h.apart 0 1 x y (by simpa using hi) (by simpa using hj) (by omega)
    | 0, j + 2, hi, hj => exact h.apart 1 (j + 2) x y (by simpa using hi) (by simpa using hj) (by omega)
    | 1, j + 2, hi, hj => exact h.apart 0 (j + 2) x y (by simpa using hi) (by simpa using hj) (by omega)
    | i + 2, 0, hi, hj => exact h.apart (i + 2) 1 x y (by simpa using hi) (by simpa using hj) (by omega)
    | i + 2, 1, hi, hj => exact h.apart (i + 2) 0 x y (by simpa using hi) (by simpa using hj) (by omega)
    | i + 2, j + 2, hi, hj => exact h.apart (i + 2) (j + 2) x y (by simpa using hi) (by simpa using hj) (by omega)⟩
theorem add_any (b o j : Nat) : (⟨b, o, none⟩ : Addr).add j = ⟨b, o + j, none⟩ := by unfold Addr.add; split <;> simp_all
theorem At.list {W : World} {b N : Nat} {f : Nat → Value} (hA : At W b N f) {k : Nat} (hk : k ≤ N) : ∀ j v, (arr k f).toList[j]? = some v → W.cell? ((⟨b, 0, none⟩ : Addr).add j) = some v := fun j v hv => by
  rw [arr_toList] at hv
  have hj : j < k := by have := (List.getElem?_eq_some_iff.1 hv).1; simpa using this
  simp [hj] at hv
  rw [add_any, Nat.zero_add, hA.cell (by omega), hv]

section
variable {P : Program} {ops : Array Oper} {rest : List Oper} {o : Oper} {a : Act} {w : Base} {W : World} {Q : Exit → Act → World → Prop} {L K : Blocks}
/-- A slice literal of no element. -/
theorem wpList_slice0 (hgd : o.guard = none) (t e : TypeId) (ho : o.op = .buildSlice t 0 #[]) (m : Nat)
    (hu : P.underlying t = some (.slice e)) (hz : (P.info? e).map (fun i => i.size) = some m) (hM : Mem w L W)
    (h : ∀ b W', w.B ≤ b → Mem w ((b, 0, fun _ => undef) :: L) W' → wpList P ops Q rest (a.put o.dst (.slice (some ⟨b, 0, none⟩) 0 0)) W') : wpList P ops Q (o :: rest) a W := by
  obtain ⟨ie, hie, hq⟩ := Option.map_eq_some_iff.1 hz
  refine wpList_plain hgd fun J hJ => ?_
  have hr : (Instr.buildSlice t 0 #[]).run P W = .ok (.slice (some ⟨W.heap.size, 0, none⟩) 0 0) (W.alloc (.cells (arr 0 fun _ => undef) e)) := by
    have e0 : Array.range 0 = #[] := rfl
    simp [Instr.buildSlice, run_underlying hu, sizeOf, typeInfo, hie, Instr.fill, newRow, arr, e0]
  unfold Oper.wp execOp
  simp only [ho, Array.map_empty, Sem.run_bind, hr, Result.andThen_ok]
  exact hJ _ _ (h _ _ hM.size (hM.alloc e 0 _))

/-- The first element is appended. -/
theorem wpList_push0 (hgd : o.guard = none) (s x : Operand) (t : TypeId) (ho : o.op = .call { callee := .builtin .append, args := #[s, x], argTypes := #[t, t] })
    (e : TypeId) (m bs : Nat) (z : Value) (hu : P.underlying t = some (.slice e)) (hz : (P.info? e).map (fun i => (i.size, i.zero, i.bytes)) = some (m, some z, bs)) (hzs : z.cells.size = m) (hbs : bs ≤ 1000)
    (hs : a.eval s = .slice none 0 0) (bn : Nat) (f : Nat → Value) (hx : a.eval x = .slice (some ⟨bn, 0, none⟩) 1 1) (hM : Mem w ((bn, m, f) :: K) W) (R : Nat → Value) (hR : ∀ j, j < m → f j = R j)
    (h : ∀ b' c' F' W', w.B ≤ b' → 1 ≤ c' → (∀ j, j < 1 * m → F' j = R j) → Mem w ((b', c' * m, F') :: K) W' → wpList P ops Q rest (a.put o.dst (.slice (some ⟨b', 0, none⟩) 1 c')) W') : wpList P ops Q (o :: rest) a W := by
  obtain ⟨i, hi, hq⟩ := Option.map_eq_some_iff.1 hz
  simp only [Prod.mk.injEq] at hq
  obtain ⟨rfl, q2, rfl⟩ := hq
  refine wpList_plain hgd fun J hJ => ?_
  have hr := run_append_nil (P := P) W t o.type e i z hu hi q2 ⟨bn, 0, none⟩ 1 1 (arr i.size f).toList (by simp [arr_size]) (hM.at0.list (Nat.le_refl _)) (by omega) (by omega) (by omega)
  have hge := grownCap_ge W 1 0 e
  unfold Oper.wp execOp
  simp only [ho, resolve, invoke, builtin, Sem.run_bind, Sem.run_pure, Result.andThen_ok, List.map_toArray, List.map_cons, List.map_nil, hs, hx, hr]
  refine hJ _ _ (h _ _ _ _ hM.size hge (fun j hj => ?_) (hM.drew.allocA e _ (grownCap W 1 0 e * i.size) ?_).skip)
  · have hj' : j < i.size := by omega
    rw [← hR j hj']
    simp [Array.getElem?_append, arr, hj']
  · simp only [Array.size_append, List.size_toArray, size_zeroCells, hzs, Array.length_toList, arr_size]
    conv => lhs; lhs; rw [← Nat.one_mul i.size]
    rw [← Nat.add_mul]
    congr 1; omega

/-- One more element is appended. -/
theorem wpList_push1 (hgd : o.guard = none) (s x : Operand) (t : TypeId) (ho : o.op = .call { callee := .builtin .append, args := #[s, x], argTypes := #[t, t] })
    (e : TypeId) (m bs : Nat) (z : Value) (hu : P.underlying t = some (.slice e)) (hz : (P.info? e).map (fun i => (i.size, i.zero, i.bytes)) = some (m, some z, bs)) (hzs : z.cells.size = m) (hbs : bs ≤ 1000)
    (b n c : Nat) (F : Nat → Value) (hs : a.eval s = .slice (some ⟨b, 0, none⟩) n c) (hb : w.B ≤ b) (hnc : n ≤ c) (hn : n ≤ 1048576)
    (bn : Nat) (f : Nat → Value) (hx : a.eval x = .slice (some ⟨bn, 0, none⟩) 1 1) (h1 : ∀ k, k < m → (f k).oneCell' = true) (hM : Mem w ((bn, m, f) :: (b, c * m, F) :: K) W) (R : Nat → Value) (hR0 : ∀ j, j < n * m → F j = R j) (hR : ∀ j, j < m → f j = R (n * m + j))
    (h : ∀ b' c' F' W', w.B ≤ b' → n + 1 ≤ c' → (∀ j, j < (n + 1) * m → F' j = R j) → Mem w ((b', c' * m, F') :: K) W' → wpList P ops Q rest (a.put o.dst (.slice (some ⟨b', 0, none⟩) (n + 1) c')) W') : wpList P ops Q (o :: rest) a W := by
  obtain ⟨i, hi, hq⟩ := Option.map_eq_some_iff.1 hz
  simp only [Prod.mk.injEq] at hq
  obtain ⟨rfl, q2, rfl⟩ := hq
  refine wpList_plain hgd fun J hJ => ?_
  have hnews := hM.at0.list (Nat.le_refl _)
  by_cases hroom : n + 1 ≤ c
  · have hfit : n * i.size + i.size ≤ c * i.size := by
      have := Nat.mul_le_mul_right i.size hroom
      rwa [Nat.add_mul, Nat.one_mul] at this
    obtain ⟨t0, ht0⟩ := hM.ats 1 _ _ _ rfl
    have hfc := run_firstCells_some (P := P) W i.size 1 ⟨bn, 0, none⟩ 1 1 (arr i.size f).toList (by simp [arr_size]) hnews
    have hst := run_storeCells_at (P := P) b (n * i.size) t0 (arr i.size f).toList 0 (arr (c * i.size) F) W ht0 (by simp [arr_size]; omega) (fun v hv => by
      rw [arr_toList] at hv; simp at hv; obtain ⟨k, hk, rfl⟩ := hv; exact h1 k hk)
    rw [Nat.add_zero, arr_lay hfit] at hst
    have hr : (Builtin.append_ #[t, t] o.type #[.slice (some ⟨b, 0, none⟩) n c, .slice (some ⟨bn, 0, none⟩) 1 1]).run P W = .ok (.slice (some ⟨b, 0, none⟩) (n + 1) c) (W.setRow b (arr (c * i.size) (lay F (n * i.size) i.size f))) := by
      simp [Builtin.append_, run_underlying hu, sizeOf, typeInfo, hi, Builtin.lenOf, hroom, hfc, add_any, hst]
    unfold Oper.wp execOp
    simp only [ho, resolve, invoke, builtin, Sem.run_bind, Sem.run_pure, Result.andThen_ok, List.map_toArray, List.map_cons, List.map_nil, hs, hx, hr]
    refine hJ _ _ (h b c _ _ hb hroom (fun j hj => ?_) (hM.setRow 1 rfl hb _).drop)
    rw [Nat.add_mul, Nat.one_mul] at hj
    simp only [lay]
    by_cases hj' : j < n * i.size
    · rw [if_neg (by omega)]; exact hR0 j hj'
    · rw [if_pos (by omega), hR _ (by omega), show n * i.size + (j - n * i.size) = j by omega]
  · have hle : n * i.size ≤ c * i.size := Nat.mul_le_mul_right _ hnc
    have hb48 : Builtin.nextslicecap (n + 1) c * i.bytes ≤ 281474976710656 := growslice_fits (by omega) (by
      have : (n + 1) * i.bytes ≤ 1048577 * 1000 := Nat.mul_le_mul (by omega) hbs
      omega)
    have hr := run_append_grow (P := P) W t o.type e i z hu hi q2 ⟨b, 0, none⟩ n c (arr (n * i.size) F).toList (by simp [arr_size]) ((hM.ats 1 _ _ _ rfl).list hle) ⟨bn, 0, none⟩ 1 1 (arr i.size f).toList (by simp [arr_size]) hnews (by omega) (by omega) hb48
    have hge := grownCap_ge W (n + 1) c e
    unfold Oper.wp execOp
    simp only [ho, resolve, invoke, builtin, Sem.run_bind, Sem.run_pure, Result.andThen_ok, List.map_toArray, List.map_cons, List.map_nil, hs, hx, hr]
    refine hJ _ _ (h _ _ _ _ hM.size hge (fun j hj => ?_) (hM.drew.allocA e _ (grownCap W (n + 1) c e * i.size) ?_).skip.skip)
    · rw [Nat.add_mul, Nat.one_mul] at hj
      by_cases hj' : j < n * i.size
      · rw [← hR0 j hj']
        rw [Array.getElem?_append_left (by simp [arr_size]; omega), Array.getElem?_append_left (by simp [arr_size]; omega), Array.toArray_toList, arr_at hj']
        rfl
      · rw [show j = n * i.size + (j - n * i.size) by omega, ← hR _ (by omega)]
        rw [Array.getElem?_append_left (by simp [arr_size]; omega), Array.getElem?_append_right (by simp [arr_size]), Array.toArray_toList, Array.toArray_toList, arr_size, Nat.add_sub_cancel_left, arr_at (by omega)]
        rfl
    · simp only [Array.size_append, List.size_toArray, size_zeroCells, hzs, Array.length_toList, arr_size]
      rw [← Nat.succ_mul, ← Nat.add_mul]
      congr 1; simp only [Nat.succ_eq_add_one]; omega
end
end Go.Proofs.YtbbododeglkghaaDoor

/-
  PLAIN LAWS: slice literals of two and of three elements of one cell; make of no element, with room.
-/
namespace Go.Proofs.YtbbododeglkghaaDoor
open Go Go.RowKit
variable {P : Program} {ops : Array Oper} {rest : List Oper} {o : Oper} {a : Act} {w : Base} {W : World} {Q : Exit → Act → World → Prop} {L : Blocks}

theorem cells_one {v : Value} (h : v.oneCell' = true) : v.cells = #[v] := by cases v <;> first | rfl | (simp [Value.oneCell'] at h)
theorem fill_cell {place : Nat → Option (Nat × Nat)} {cs : Array Value} {i off : Nat} {v : Value} (hv : v.oneCell' = true) (hp : place i = some (off, 1)) (hle : off < cs.size) (rest : List (Nat × Value)) :
    Instr.fill place cs ((i, v) :: rest) = Instr.fill place (cs.setIfInBounds off v) rest := by
  rw [Instr.fill, hp]
  simp only [cells_one hv, List.size_toArray, List.length_cons, List.length_nil, Nat.zero_add, ne_eq, not_true_eq_false, decide_false, Bool.false_or]
  rw [if_neg (by simp; omega)]
  congr 1
theorem wpList_lit2 (hgd : o.guard = none) (t e : TypeId) (x y : Operand) (ho : o.op = .buildSlice t 2 #[(0, x), (1, y)]) (u v : Value) (hx : a.eval x = u) (hy : a.eval y = v) (h0 : u.oneCell' = true) (h1 : v.oneCell' = true) (z : Value)
    (hu : P.underlying t = some (.slice e)) (hz : (P.info? e).map (fun i => (i.size, i.zero)) = some (1, some z)) (hM : Mem w L W)
    (h : ∀ b W', w.B ≤ b → Mem w ((b, 2, fun k => if k = 0 then u else v) :: L) W' → wpList P ops Q rest (a.put o.dst (.slice (some ⟨b, 0, none⟩) 2 2)) W') : wpList P ops Q (o :: rest) a W := by
  obtain ⟨ie, hie, hq⟩ := Option.map_eq_some_iff.1 hz
  simp only [Prod.mk.injEq] at hq
  refine wpList_buildSlice hgd t e 2 _ ho (arr 2 fun k => if k = 0 then u else v) ie z hu hie hq.2 (by rw [hq.1]; omega) (by rw [hq.1]; omega) ?_ (h _ _ hM.size (hM.alloc e 2 _))
  rw [hq.1]
  rw [show (Array.map (fun x => match x with | (i, x) => (i, a.eval x)) #[(0, x), (1, y)]).toList = [(0, u), (1, v)] by simp [hx, hy]]
  rw [fill_cell h0 (off := 0) rfl (by simp), fill_cell h1 (off := 1) rfl (by simp), Instr.fill]
  refine congrArg some (arr_ext (by simp) (fun k hk => ?_))
  rcases (show k = 0 ∨ k = 1 by omega) with rfl | rfl <;> simp
theorem wpList_lit3 (hgd : o.guard = none) (t e : TypeId) (x y q : Operand) (ho : o.op = .buildSlice t 3 #[(0, x), (1, y), (2, q)]) (u v s : Value) (hx : a.eval x = u) (hy : a.eval y = v) (hs : a.eval q = s) (h0 : u.oneCell' = true) (h1 : v.oneCell' = true) (h2 : s.oneCell' = true) (z : Value)
    (hu : P.underlying t = some (.slice e)) (hz : (P.info? e).map (fun i => (i.size, i.zero)) = some (1, some z)) (hM : Mem w L W)
    (h : ∀ b W', w.B ≤ b → Mem w ((b, 3, fun k => if k = 0 then u else if k = 1 then v else s) :: L) W' → wpList P ops Q rest (a.put o.dst (.slice (some ⟨b, 0, none⟩) 3 3)) W') : wpList P ops Q (o :: rest) a W := by
  obtain ⟨ie, hie, hq⟩ := Option.map_eq_some_iff.1 hz
  simp only [Prod.mk.injEq] at hq
  refine wpList_buildSlice hgd t e 3 _ ho (arr 3 fun k => if k = 0 then u else if k = 1 then v else s) ie z hu hie hq.2 (by rw [hq.1]; omega) (by rw [hq.1]; omega) ?_ (h _ _ hM.size (hM.alloc e 3 _))
  rw [hq.1]
  rw [show (Array.map (fun x => match x with | (i, x) => (i, a.eval x)) #[(0, x), (1, y), (2, q)]).toList = [(0, u), (1, v), (2, s)] by simp [hx, hy, hs]]
  rw [fill_cell h0 (off := 0) rfl (by simp), fill_cell h1 (off := 1) rfl (by simp), fill_cell h2 (off := 2) rfl (by simp), Instr.fill]
  refine congrArg some (arr_ext (by simp) (fun k hk => ?_))
  rcases (show k = 0 ∨ k = 1 ∨ k = 2 by omega) with rfl | rfl | rfl <;> simp
/-- A slice literal of one element of one cell. -/
theorem wpList_lit1 (hgd : o.guard = none) (t e : TypeId) (x : Operand) (ho : o.op = .buildSlice t 1 #[(0, x)]) (u : Value) (hx : a.eval x = u) (h0 : u.oneCell' = true) (z : Value)
    (hu : P.underlying t = some (.slice e)) (hz : (P.info? e).map (fun i => (i.size, i.zero)) = some (1, some z)) (hM : Mem w L W)
    (h : ∀ b W', w.B ≤ b → Mem w ((b, 1, fun _ => u) :: L) W' → wpList P ops Q rest (a.put o.dst (.slice (some ⟨b, 0, none⟩) 1 1)) W') : wpList P ops Q (o :: rest) a W := by
  obtain ⟨ie, hie, hq⟩ := Option.map_eq_some_iff.1 hz
  simp only [Prod.mk.injEq] at hq
  refine wpList_buildSlice hgd t e 1 _ ho (arr 1 fun _ => u) ie z hu hie hq.2 (by rw [hq.1]; omega) (by rw [hq.1]; omega) ?_ (h _ _ hM.size (hM.alloc e 1 _))
  rw [hq.1]
  rw [show (Array.map (fun x => match x with | (i, x) => (i, a.eval x)) #[(0, x)]).toList = [(0, u)] by simp [hx]]
  rw [fill_cell h0 (off := 0) rfl (by simp), Instr.fill]
  refine congrArg some (arr_ext (by simp) (fun k hk => ?_))
  obtain rfl : k = 0 := by omega
  simp

/-- make of no element, with room for n of one cell. -/
theorem wpList_make0 (hgd : o.guard = none) (t e : TypeId) (x y : Operand) (ho : o.op = .makeSlice t x y) (n : Nat) (hx : a.eval x = .int .i64 0) (hy : a.eval y = .int .i64 n) (z : Value) (bs : Nat) (hzc : z.oneCell' = true)
    (hu : P.underlying t = some (.slice e)) (hz : (P.info? e).map (fun i => (i.size, i.zero, i.bytes)) = some (1, some z, bs)) (hbs : bs ≤ 1000) (hn : n ≤ 1048576) (hM : Mem w L W)
    (h : ∀ b W', w.B ≤ b → Mem w ((b, n * 1, fun _ => z) :: L) W' → wpList P ops Q rest (a.put o.dst (.slice (some ⟨b, 0, none⟩) 0 n)) W') : wpList P ops Q (o :: rest) a W := by
  obtain ⟨ie, hie, hq⟩ := Option.map_eq_some_iff.1 hz
  simp only [Prod.mk.injEq] at hq
  obtain ⟨q1, q2, q3⟩ := hq
  refine wpList_plain hgd fun K hK => ?_
  have hb : (ie.bytes : Int) * (n : Int) ≤ 281474976710656 := by
    rw [q3]
    have : bs * n ≤ 1000 * 1048576 := Nat.mul_le_mul hbs hn
    have h2 : ((bs * n : Nat) : Int) ≤ 1000 * 1048576 := by omega
    rw [Int.natCast_mul] at h2
    omega
  have hr := run_make (P := P) W t e ie z hu hie q2 .i64 .i64 0 n (by omega) (by omega) hb (by omega)
  have hc : madeCells z.cells (n * 1) = arr (n * 1) (fun _ => z) := by
    refine arr_ext (by simp [madeCells]) (fun k hk => ?_)
    have hk' : k < n := by omega
    rw [cells_one hzc]
    simp [madeCells, hk', Nat.mod_one]
  simp only [Int.toNat_natCast, q1, hc] at hr
  unfold Oper.wp execOp
  simp only [ho, hx, hy, Sem.run_bind, Sem.run_pure, hr, Result.andThen_ok]
  exact hK _ _ (h _ _ hM.size (hM.alloc e (n * 1) _))
end Go.Proofs.YtbbododeglkghaaDoor

/-
  errors.Join of errors that are all the same one, or nil, by contract.
-/
namespace Go.Proofs.YtbbododeglkghaaDoor
open Go Go.RowKit Go.BigFrame

/-- Errors told by whether they are there; x the one that it is. -/
def errE (x : Addr) (es : Nat → Bool) : Nat → Value := fun k => if es k then errV x else .nilIface
theorem errE_one (x : Addr) (es : Nat → Bool) (k : Nat) : (errE x es k).oneCell' = true := by unfold errE; split <;> rfl
/-- How many of the first k are there. -/
def cntE (es : Nat → Bool) : Nat → Nat
  | 0 => 0
  | k + 1 => cntE es k + (if es k then 1 else 0)
theorem cntE_le (es : Nat → Bool) : ∀ k, cntE es k ≤ k
  | 0 => by simp [cntE]
  | k + 1 => by have := cntE_le es k; simp only [cntE]; split <;> omega
theorem cntE_mono (es : Nat → Bool) : ∀ {k n : Nat}, k ≤ n → cntE es k ≤ cntE es n
  | k, 0, h => by obtain rfl : k = 0 := by omega
                  exact Nat.le_refl _
  | k, n + 1, h => by
    by_cases e : k = n + 1
    · rw [e]; exact Nat.le_refl _
    · have := cntE_mono es (show k ≤ n by omega); simp only [cntE]; omega
theorem cntE_yes {es : Nat → Bool} {k : Nat} (h : es k = true) : cntE es (k + 1) = cntE es k + 1 := by simp [cntE, h]
theorem cntE_no {es : Nat → Bool} {k : Nat} (h : es k = false) : cntE es (k + 1) = cntE es k := by simp [cntE, h]

theorem upd_one (f : Nat → Value) (v : Value) : ∀ k, k < 1 → upd f 0 v k = v := fun k hk => by simp [upd, show k = 0 by omega]
/-- A joined error's value; what lies behind it. -/
def joinV (b : Nat) : Value := .iface 101 (.pointer (some ⟨b, 0, none⟩))
def JoinAt (W : World) (b : Nat) (x : Addr) (c : Nat) : Prop := ∃ eb cc F, At W b 1 (fun _ => .slice (some ⟨eb, 0, none⟩) c cc) ∧ At W eb (cc * 1) F ∧ b ≠ eb ∧ c ≤ cc ∧ ∀ j, j < c → F j = errV x
theorem JoinAt.below {W W' : World} {b c : Nat} {x : Addr} (h : JoinAt W b x c) (hb : Below W.heap.size W W') : JoinAt W' b x c := by
  obtain ⟨eb, cc, F, h1, h2, h3⟩ := h
  exact ⟨eb, cc, F, h1.below hb h1.lt, h2.below hb h2.lt, h3⟩

theorem run_buildJ (v : Value) (W : World) (b : Option Addr) (n c : Nat) (hv : v = .slice b n c) : (Instr.build 103 #[(0, v)]).run Tryd.prog W = .ok (.agg (arr 1 fun _ => v)) W := by
  subst hv; kernel_rfl
theorem wpList_buildJ {ops : Array Oper} {rest : List Oper} {o : Oper} {a : Act} {W : World} {Q : Exit → Act → World → Prop} (hgd : o.guard = none) (x : Operand) (ho : o.op = .build 103 #[(0, x)]) (b : Option Addr) (n c : Nat) (hx : a.eval x = .slice b n c)
    (h : wpList Tryd.prog ops Q rest (a.put o.dst (.agg (arr 1 fun _ => .slice b n c))) W) : wpList Tryd.prog ops Q (o :: rest) a W := by
  refine wpList_plain hgd fun K hK => ?_
  unfold Oper.wp execOp
  have e : (Array.map (fun (z : Nat × Operand) => match z with | (i, x) => (i, a.eval x)) #[(0, x)]) = #[(0, .slice b n c)] := by simp [hx]
  simp only [ho, e, Sem.run_bind, Sem.run_pure, run_buildJ _ W b n c rfl, Result.andThen_ok]
  exact hK _ _ h
theorem err_info : (Tryd.prog.info? 67).map (fun i => (i.size, i.zero, i.bytes)) = some (1, some .nilIface, 16) := by kernel_rfl
theorem err_info2 : (Tryd.prog.info? 67).map (fun i => (i.size, i.zero)) = some (1, some .nilIface) := by kernel_rfl
theorem errs_under : Tryd.prog.underlying 100 = some (.slice 67) := Tryd.underlying100

def JoinIn (w : World) (bl m n : Nat) (x : Addr) (es : Nat → Bool) (sb k : Nat) (wr : World) : Prop :=
  ∃ eb c F, (∀ j, j < cntE es k * 1 → F j = errV x) ∧ cntE es k ≤ c ∧ w.heap.size ≤ eb ∧ Mem w [(eb, c * 1, F), (sb, 1, fun _ => .slice (some ⟨eb, 0, none⟩) (cntE es k) c), (bl, m, errE x es)] wr

set_option maxRecDepth 100000 in
set_option maxHeartbeats 2000000 in
theorem join_none (x : Addr) (es : Nat → Bool) (bl m c : Nat) (hm : m ≤ 3) (h0 : cntE es m = 0) (w : World) (hA : At w bl m (errE x es)) :
    Calls Tryd.prog 56 #[.slice (some ⟨bl, 0, none⟩) m c] w fun e w' => e = .returned .nilIface ∧ Below w.heap.size w w' := by
  have hM : Mem w [(bl, m, errE x es)] w := (Mem.nil w).old hA (fun i p h => by simp at h)
  have hno : ∀ k, k < m → es k = false := fun k hk => by
    have := cntE_mono es (show k + 1 ≤ m by omega)
    cases e : es k
    · rfl
    · rw [cntE_yes e] at this; omega
  have Hno := Lib.hid hno
  clear hno h0 hA
  go_enter Tryd.func56, Tryd.ntmps56
  go_wp2
  go_loopw [3, 11] (fun n i wr => ∃ k : Nat, k ≤ m ∧ n = .int .i64 0 ∧ i = .int .i64 k ∧ Mem w [(bl, m, errE x es)] wr) (fun _ i _ => m - (intOf i).toNat)
  case atStart => exact ⟨0, by omega, rfl, rfl, hM⟩
  case round =>
    clear hM
    obtain ⟨k, hk, rfl, rfl, hM⟩ := hrel
    by_cases hlt : k < m
    · have lk : (k : Int) < m := by omega
      have e0 : errE x es (k * 1) = .nilIface := by rw [Nat.mul_one]; simp [errE, Hno.out k hlt]
      have e0' : errE x es k = .nilIface := by simp [errE, Hno.out k hlt]
      go_wp2_with (first | (refine wpList_get1 rfl _ _ rfl _ _ rfl hM 0 rfl (cellTab _ rfl) (by omega) _ (by first | exact e0 | exact e0') ?_))
      go_roundw
      case rel => exact ⟨k + 1, by omega, rfl, by go_num, hM⟩
      case measure => simp [intOf]; omega
    · obtain rfl : k = m := by omega
      go_wp2
      go_ret
      exact ⟨rfl, hM.below⟩

theorem errE_yes {x : Addr} {es : Nat → Bool} {k : Nat} (h : es k = true) : errE x es k = errV x := by simp [errE, h]
theorem errE_no {x : Addr} {es : Nat → Bool} {k : Nat} (h : es k = false) : errE x es k = .nilIface := by simp [errE, h]
set_option maxRecDepth 100000 in
set_option maxHeartbeats 4000000 in
theorem join_some (x : Addr) (es : Nat → Bool) (bl m c : Nat) (hm : m ≤ 3) (h0 : 0 < cntE es m) (w : World) (hA : At w bl m (errE x es)) :
    Calls Tryd.prog 56 #[.slice (some ⟨bl, 0, none⟩) m c] w fun e w' => ∃ b, e = .returned (joinV b) ∧ JoinAt w' b x (cntE es m) ∧ Below w.heap.size w w' := by
  have hM : Mem w [(bl, m, errE x es)] w := (Mem.nil w).old hA (fun i p h => by simp at h)
  clear hA
  go_enter Tryd.func56, Tryd.ntmps56
  go_wp2
  go_loopw [3, 11] (fun n i wr => ∃ k : Nat, k ≤ m ∧ n = .int .i64 (cntE es k : Nat) ∧ i = .int .i64 k ∧ Mem w [(bl, m, errE x es)] wr) (fun _ i _ => m - (intOf i).toNat)
  case atStart => exact ⟨0, by omega, rfl, rfl, hM⟩
  case round =>
    clear hM
    obtain ⟨k, hk, rfl, rfl, hM⟩ := hrel
    by_cases hlt : k < m
    · have lk : (k : Int) < m := by omega
      have hle := cntE_le es k
      have c1 : IntKind.i64.wrap ((cntE es k : Nat) + 1 : Int) = ((cntE es k + 1 : Nat) : Int) := by rw [IntWalk.i64_in _ (by omega)]; rfl
      clear hle
      cases he : es k
      · have e0 : errE x es k = .nilIface := errE_no he
        have e1 : errE x es (k * 1) = .nilIface := by rw [Nat.mul_one]; exact e0
        go_wp2_with (first | (refine wpList_get1 rfl _ _ rfl _ _ rfl hM 0 rfl (cellTab _ rfl) (by omega) _ (by first | exact e0 | exact e1) ?_))
        go_roundw
        case rel => exact ⟨k + 1, by omega, by rw [cntE_no he], by go_num, hM⟩
        case measure => simp [intOf]; omega
      · have e0 : errE x es k = errV x := errE_yes he
        have e1 : errE x es (k * 1) = errV x := by rw [Nat.mul_one]; exact e0
        go_wp2_with (first | (refine wpList_get1 rfl _ _ rfl _ _ rfl hM 0 rfl (cellTab _ rfl) (by omega) _ (by first | exact e0 | exact e1) ?_))
        go_roundw
        case rel => exact ⟨k + 1, by omega, by rw [cntE_yes he]; exact congrArg _ (by omega), by go_num, hM⟩
        case measure => simp [intOf]; omega
    · obtain rfl : k = m := by omega
      have hle := cntE_le es k
      have hpos : ¬ ((cntE es k : Nat) : Int) = 0 := by omega
      have hpos2 : decide (((cntE es k : Nat) : Int) = 0) = false := decide_eq_false hpos
      have tk_q1 : True := trivial; have tk_q2 : True := trivial; have tk_q3 : True := trivial
      go_wp2_with (first | (have _t := tk_q1; refine wpList_make0 rfl _ _ _ _ rfl (cntE es k) rfl rfl .nilIface 16 rfl errs_under err_info (by omega) (by omega) hM ?_; intro eb W' heb hM'; clear hM tk_q1; have hM := hM'; clear hM') | (have _t := tk_q2; refine wpList_buildJ rfl _ rfl _ _ _ rfl ?_; clear tk_q2) | (have _t := tk_q3; refine wpList_box rfl _ _ rfl 1 _ rfl hM ?_; intro sb W' hsb hM'; clear hM tk_q3; have hM := hM'; clear hM'))
      have hJ : ∀ w0, w0 = w → ∀ wr, Mem w [(sb, 1, fun _ => .slice (some ⟨eb, 0, none⟩) 0 (cntE es k)), (eb, cntE es k * 1, fun _ => .nilIface), (bl, k, errE x es)] wr → JoinIn w bl k (cntE es k) x es sb 0 wr := fun _ _ wr h =>
        ⟨eb, cntE es k, fun _ => .nilIface, fun j hj => absurd hj (by simp [cntE]), by simp [cntE], heb, h.swap⟩
      go_loopw [28] (fun i wr => ∃ j : Nat, j ≤ k ∧ i = .int .i64 j ∧ JoinIn w bl k (cntE es k) x es sb j wr) (fun i _ => k - (intOf i).toNat)
      case atStart => exact ⟨0, by omega, rfl, hJ _ rfl _ hM⟩
      case round =>
        clear hM hJ
        obtain ⟨j, hj, rfl, eb1, c1, F1, hF1, hc1, heb1, hM⟩ := hrel
        by_cases hjl : j < k
        · have lj : (j : Int) < k := by omega
          have hlej := cntE_le es j
          cases he : es j
          · have e0 : errE x es j = .nilIface := errE_no he
            have e1 : errE x es (j * 1) = .nilIface := by rw [Nat.mul_one]; exact e0
            go_wp2_with (first | (refine wpList_get1 rfl _ _ rfl _ _ rfl hM 2 rfl (cellTab _ rfl) (by omega) _ (by first | exact e0 | exact e1) ?_))
            go_roundw
            case rel => exact ⟨j + 1, by omega, by go_num, eb1, c1, F1, by rw [cntE_no he]; exact hF1, by rw [cntE_no he]; exact hc1, heb1, by rw [cntE_no he]; exact hM⟩
            case measure => simp [intOf]; omega
          · have e0 : errE x es j = errV x := errE_yes he
            have e1 : errE x es (j * 1) = errV x := by rw [Nat.mul_one]; exact e0
            have tk_r1 : True := trivial; have tk_r2 : True := trivial; have tk_r3 : True := trivial; have tk_p1 : True := trivial; have tk_r4 : True := trivial
            go_wp2_with (first | (have _t := tk_r1; refine wpList_get1 rfl _ _ rfl _ _ rfl hM 2 rfl (cellTab _ rfl) (by omega) _ (by first | exact e0 | exact e1) ?_; clear tk_r1) | (have _t := tk_r2; (refine wpList_get1 rfl _ _ rfl _ _ rfl hM 1 rfl (cellTab _ rfl) (by omega) _ rfl ?_); clear tk_r2) | (have _t := tk_r3; refine wpList_lit1 rfl _ _ _ rfl (errV x) rfl rfl _ errs_under err_info2 hM ?_; intro bn W' hbn hM'; clear hM tk_r3; have hM := hM'; clear hM') | (have _t := tk_p1; refine wpList_push1 rfl _ _ _ rfl _ 1 _ _ errs_under err_info rfl (by omega) _ _ _ _ rfl heb1 hc1 (by omega) _ _ rfl (fun _ _ => rfl) hM (fun _ => errV x) hF1 (fun _ _ => rfl) ?_; intro bL cL FL W' hbL hcL hFL hM'; clear hM tk_p1; have hM := hM'; clear hM') | (have _t := tk_r4; (refine wpList_set1 rfl _ _ _ rfl _ _ rfl _ rfl ?_ hM 1 rfl (by assumption) (cellTab _ rfl) (by omega) ?_; (first | rfl | exact h1 _); intro W' hM'; clear hM; have hM := hM'; clear hM'; simp [List.set, Act.eval] at hM); clear tk_r4))
            have hM2 := hM.re (b := sb) (n := 1) 1 rfl (fun _ => .slice (some ⟨bL, 0, none⟩) (cntE es j + 1) cL) (upd_one _ _)
            simp only [List.set] at hM2
            go_roundw
            case rel => exact ⟨j + 1, by omega, by go_num, bL, cL, FL, by rw [cntE_yes he]; exact hFL, by rw [cntE_yes he]; exact hcL, hbL, by rw [cntE_yes he, Nat.mul_one]; exact hM2⟩
            case measure => simp [intOf]; omega
        · obtain rfl : j = k := by omega
          go_wp2
          go_ret
          exact ⟨sb, rfl, ⟨eb1, c1, F1, hM.ats 1 _ _ _ rfl, hM.ats 0 _ _ _ rfl, hM.apart 1 0 _ _ rfl rfl (by omega), hc1, fun i hi => hF1 i (by omega)⟩, hM.below⟩
end Go.Proofs.YtbbododeglkghaaDoor

/-
  errors.Is and impl.codeOf of joined errors, by contracts.
-/
namespace Go.Proofs.YtbbododeglkghaaDoor
open Go Go.RowKit Go.BigFrame Go.Extern.Stop Go.Stop Go.Extern

theorem hasUnwraps (v : Value) (xT : TypeId) (w : World) : (Instr.typeAssert (.iface 101 v) xT 133 true).run Tryd.prog w = .ok (.tuple #[.iface 101 v, .bool true]) w := run_typeAssert_hasB Tryd.underlying133 (by kernel_rfl) v xT w
theorem noIsJ (v : Value) (xT : TypeId) (w : World) : (Instr.typeAssert (.iface 101 v) xT 128 true).run Tryd.prog w = .ok (.tuple #[.nilIface, .bool false]) w := run_typeAssert_lacksB Tryd.underlying128 (by kernel_rfl) (by kernel_rfl) v xT w
theorem noUnwrapJ (v : Value) (xT : TypeId) (w : World) : (Instr.typeAssert (.iface 101 v) xT 131 true).run Tryd.prog w = .ok (.tuple #[.nilIface, .bool false]) w := run_typeAssert_lacksB Tryd.underlying131 (by kernel_rfl) (by kernel_rfl) v xT w
theorem methodUnwraps (v : Value) (w : World) : (Go.method 274 101 v "Unwrap").run Tryd.prog w = .ok (107, v) w := by kernel_rfl
theorem eql_types (b : Nat) (y : Addr) (w : World) : (binOp .eql 67 (joinV b) (errV y)).run Tryd.prog w = .ok (.bool false) w := run_eql_iface_types _ _ _ _ Tryd.underlying67 (by decide) w

set_option maxRecDepth 100000 in
/-- errors.is of one error and itself. -/
theorem is1_same (x : Addr) (w : World) :
    Calls Tryd.prog 81 #[errV x, errV x, .bool true] w fun e w' => e = .returned (.bool true) ∧ w' = w := by
  obtain ⟨i, hi, hcmp⟩ := Option.map_eq_some_iff.1 isComp
  obtain ⟨j, hj, hjs⟩ := Option.map_eq_some_iff.1 isSize
  have heq := run_eql_iface_ptr_same (P := Tryd.prog) w x Tryd.underlying67 Tryd.underlying136 hi hcmp hj
  unfold errV
  go_enter Tryd.func81, Tryd.ntmps81
  go_wp2
  refine wp_loop_rounds 1 ?_
  rw [rounds_succ]
  go_wp2
  go_ret
  exact ⟨rfl, rfl⟩
set_option maxRecDepth 100000 in
/-- errors.is of two different errors. -/
theorem is1_other (a b : Addr) (ca cb : Array Value) (ta tb : TypeId) (w : World) (hne : a ≠ b) (ha : w.heap[a.block]? = some (.cells ca ta (0, 0))) (hb : w.heap[b.block]? = some (.cells cb tb (0, 0))) :
    Calls Tryd.prog 81 #[errV a, errV b, .bool true] w fun e w' => e = .returned (.bool false) ∧ w' = w := by
  obtain ⟨i, hi, hcmp⟩ := Option.map_eq_some_iff.1 isComp
  obtain ⟨j, hj, hjs⟩ := Option.map_eq_some_iff.1 isSize
  have nE := noIsE
  have uE := noUnwrapE
  have vE := noUnwrapsE
  have heq := run_eql_iface_ptr_other (P := Tryd.prog) w Tryd.underlying67 Tryd.underlying136 hi hcmp hj (by rw [hjs]; decide) hne ha hb
  unfold errV
  go_enter Tryd.func81, Tryd.ntmps81
  go_wp2
  refine wp_loop_rounds 1 ?_
  rw [rounds_succ]
  go_wp2
  go_ret
  exact ⟨rfl, rfl⟩
theorem is1_no {a : Nat → Addr} {w : World} (h : Errs a w) (i j : Nat) (hi : i < 7) (hj : j < 7) (e : i ≠ j) :
    Calls Tryd.prog 81 #[errV (a i), errV (a j), .bool true] w fun e w' => e = .returned (.bool false) ∧ w = w' := by
  obtain ⟨ca, ta, ha⟩ := h.cells i hi
  obtain ⟨cb, tb, hb⟩ := h.cells j hj
  exact (is1_other _ _ ca cb ta tb w (h.apart i j hi hj e) ha hb).mono fun _ _ h => ⟨h.1, h.2.symm⟩

theorem unwraps_any (b : Nat) (v : Value) (w : World) (hA : At w b 1 fun _ => v) :
    Calls Tryd.prog 107 #[.pointer (some ⟨b, 0, none⟩)] w fun e w' => e = .returned v ∧ w' = w := by
  have hc : w.cell? ⟨b, 0, none⟩ = some v := hA.cell (by omega)
  go_enter Tryd.func107, Tryd.ntmps107
  go_wp2
  go_ret
  exact ⟨rfl, rfl⟩

set_option maxRecDepth 100000 in
set_option maxHeartbeats 2000000 in
/-- errors.is of a joined error and the one that it holds. -/
theorem isJ_yes (b c : Nat) (x : Addr) (hc : 0 < c) (w : World) (hJ : JoinAt w b x c) :
    Calls Tryd.prog 81 #[joinV b, errV x, .bool true] w fun e w' => e = .returned (.bool true) ∧ w = w' := by
  obtain ⟨eb, cc, F, h1, h2, hne, hle, hF⟩ := hJ
  have nE := noIsJ
  have uE := noUnwrapJ
  have vE := hasUnwraps
  have mU := methodUnwraps
  have heq := eql_types b x
  have c0 : w.cell? ⟨eb, 0, none⟩ = some (errV x) := by rw [h2.cell (by omega), hF 0 hc]
  have lc : (0 : Int) < c := by omega
  have H1 := Lib.hid h1
  clear h1 h2 hF
  unfold joinV at heq ⊢
  go_enter Tryd.func81, Tryd.ntmps81
  go_wp2
  refine wp_loop_rounds 1 ?_
  rw [rounds_succ]
  go_wp2_with (first | (go_at_call 107; refine (unwraps_any b _ _ H1.out).mono ?_; rintro e W' ⟨rfl, rfl⟩))
  refine wp_loop_rounds 1 ?_
  rw [rounds_succ]
  go_wp2_with (first | (go_at_call 81; refine (is1_same x _).mono ?_; rintro e W' ⟨rfl, rfl⟩))
  go_ret
  exact ⟨rfl, rfl⟩

set_option maxRecDepth 100000 in
set_option maxHeartbeats 2000000 in
/-- errors.is of a joined error and another one than it holds. -/
theorem isJ_no {a : Nat → Addr} (b c : Nat) (i j : Nat) (hi : i < 7) (hj : j < 7) (hij : i ≠ j) (hcm : c ≤ 1000) (w : World) (hJ : JoinAt w b (a i) c) (hE : Errs a w) :
    Calls Tryd.prog 81 #[joinV b, errV (a j), .bool true] w fun e w' => e = .returned (.bool false) ∧ w = w' := by
  obtain ⟨eb, cc, F, h1, h2, hne, hle, hF⟩ := hJ
  have nE := noIsJ
  have uE := noUnwrapJ
  have vE := hasUnwraps
  have mU := methodUnwraps
  have heq := eql_types b (a j)
  have HF : Hid (∀ k, k < c → w.cell? ⟨eb, k, none⟩ = some (errV (a i))) := Lib.hid (fun k hk => by rw [h2.cell (by omega), hF k hk])
  have H1 := Lib.hid h1
  have HE := Lib.hid hE
  clear h1 h2 hF hE
  unfold joinV at heq ⊢
  go_enter Tryd.func81, Tryd.ntmps81
  go_wp2
  refine wp_loop_rounds 1 ?_
  rw [rounds_succ]
  go_wp2_with (first | (go_at_call 107; refine (unwraps_any b _ _ H1.out).mono ?_; rintro e W' ⟨rfl, rfl⟩))
  go_loopw [45] (fun n wr => ∃ k : Nat, k ≤ c ∧ n = .int .i64 k ∧ wr = W') (fun n _ => c - (intOf n).toNat)
  case atStart => exact ⟨0, by omega, rfl, rfl⟩
  case round =>
    obtain ⟨k, hk, rfl, rfl⟩ := hrel
    by_cases hlt : k < c
    · have lk : (k : Int) < c := by omega
      have ck := HF.out k hlt
      go_wp2_with (first | (go_at_call 81; refine (is1_no HE.out i j hi hj hij).mono ?_; rintro e W' ⟨rfl, rfl⟩))
      go_roundw
      case rel => exact ⟨k + 1, by omega, by go_num, by first | rfl | trivial⟩
      case measure => simp [intOf]; omega
    · obtain rfl : k = c := by omega
      go_wp2
      go_ret
      exact ⟨rfl, rfl⟩

set_option maxRecDepth 100000 in
theorem IsJ_yes {a : Nat → Addr} (b c : Nat) (i : Nat) (hi : i < 7) (hc : 0 < c) (w : World) (hJ : JoinAt w b (a i) c) :
    Calls Tryd.prog 72 #[joinV b, errV (a i)] w fun e w' => e = .returned (.bool true) ∧ w = w' := by
  have h8 := @run_callFunc_extern Tryd.prog 80 _ Extern.ReflectliteType.typeOf Tryd.func80 (by kernel_rfl) (by kernel_rfl) (by kernel_rfl) (by kernel_rfl)
  have tT := isTypeOf
  have cT := isComparable
  have mR := isMethodComparable
  have hY := isJ_yes b c (a i) hc w hJ
  unfold joinV errV at hY ⊢
  go_enter Tryd.func72, Tryd.ntmps72
  go_wp2_with (first | (go_at_call 81; refine hY.mono ?_; rintro e W' ⟨rfl, rfl⟩))
  go_ret
  exact ⟨rfl, rfl⟩
set_option maxRecDepth 100000 in
theorem IsJ_no {a : Nat → Addr} (b c : Nat) (i j : Nat) (hi : i < 7) (hj : j < 7) (hij : i ≠ j) (hcm : c ≤ 1000) (w : World) (hJ : JoinAt w b (a i) c) (hE : Errs a w) :
    Calls Tryd.prog 72 #[joinV b, errV (a j)] w fun e w' => e = .returned (.bool false) ∧ w = w' := by
  have h8 := @run_callFunc_extern Tryd.prog 80 _ Extern.ReflectliteType.typeOf Tryd.func80 (by kernel_rfl) (by kernel_rfl) (by kernel_rfl) (by kernel_rfl)
  have tT := isTypeOf
  have cT := isComparable
  have mR := isMethodComparable
  have hY := isJ_no b c i j hi hj hij hcm w hJ hE
  unfold joinV errV at hY ⊢
  go_enter Tryd.func72, Tryd.ntmps72
  go_wp2_with (first | (go_at_call 81; refine hY.mono ?_; rintro e W' ⟨rfl, rfl⟩))
  go_ret
  exact ⟨rfl, rfl⟩

set_option maxRecDepth 100000 in
set_option maxHeartbeats 4000000 in
/-- The code of joined errors of which each is the first one. -/
theorem codeJ_0 {a : Nat → Addr} {w : World} (b c : Nat) (hc : 0 < c) (h : Errs a w) (hJ : JoinAt w b (a 0) c) :
    Calls Tryd.prog 50 #[joinV b] w fun e w' => e = .returned (.int .i64 1) ∧ w = w' := by
  have v0 : w.cell? ⟨0, 0, none⟩ = some (errV (a 0)) := h.vars 0 (by omega)
  have HJ := Lib.hid hJ
  clear h hJ
  go_enter Tryd.func50, Tryd.ntmps50
  go_wp2_with (first | (go_at_call 72; (with_reducible refine (IsJ_yes b c 0 (by omega) hc _ HJ.out).mono ?_); rintro e W' ⟨rfl, rfl⟩))
  go_ret
  exact ⟨rfl, rfl⟩
set_option maxRecDepth 100000 in
set_option maxHeartbeats 4000000 in
/-- The code of joined errors of which each is the second one. -/
theorem codeJ_1 {a : Nat → Addr} {w : World} (b c : Nat) (hc : 0 < c) (hcm : c ≤ 1000) (h : Errs a w) (hJ : JoinAt w b (a 1) c) :
    Calls Tryd.prog 50 #[joinV b] w fun e w' => e = .returned (.int .i64 2) ∧ w = w' := by
  have v0 : w.cell? ⟨0, 0, none⟩ = some (errV (a 0)) := h.vars 0 (by omega)
  have v1 : w.cell? ⟨1, 0, none⟩ = some (errV (a 1)) := h.vars 1 (by omega)
  have HJ := Lib.hid hJ
  have H := Lib.hid h
  clear h hJ
  go_enter Tryd.func50, Tryd.ntmps50
  go_wp2_with (first | (go_at_call 72; (with_reducible refine (IsJ_no b c 1 0 (by omega) (by omega) (by omega) hcm _ HJ.out H.out).mono ?_); rintro e W' ⟨rfl, rfl⟩) | (go_at_call 72; (with_reducible refine (IsJ_yes b c 1 (by omega) hc _ HJ.out).mono ?_); rintro e W' ⟨rfl, rfl⟩))
  go_ret
  exact ⟨rfl, rfl⟩
@[go_sem] theorem guard_join (x : Operand) (b : Nat) (W : World) : (eqGuard .neq 67 x (.const .nilIface) (joinV b) .nilIface).run Tryd.prog W = .ok () W := by
  unfold joinV; go_simp
@[go_sem] theorem neq_join (b : Nat) (W : World) : (binOp .neq 67 (joinV b) .nilIface).run Tryd.prog W = .ok (.bool true) W := by
  unfold joinV; go_simp
end Go.Proofs.YtbbododeglkghaaDoor

/-
  impl.checkGrass by contracts.
-/
namespace Go.Proofs.YtbbododeglkghaaDoor
open Go Go.RowKit Go.BigFrame

theorem checkGrass_no {a : Nat → Addr} (n : Int) (w : World) (hE : Errs a w) (h : inB 0 1000 n = false) :
    Calls Tryd.prog 86 #[.int .i64 n] w fun e w' => e = .returned (errV (a 1)) ∧ Below w.heap.size w w' := by
  have hM := Mem.nil w
  have H := Lib.hid hE
  clear hE
  go_enter Tryd.func86, Tryd.ntmps86
  go_wp2_with (go_at_call 54; refine (checkUpTo_no _ _ _ H.out h).mono ?_; rintro e W' ⟨rfl, hb'⟩; have hM' := hM.call hb'; clear hM hb'; have hM := hM'; clear hM')
  go_ret
  exact ⟨rfl, hM.below⟩
theorem checkGrass_yes (n : Int) (w : World) (h : inB 0 1000 n = true) :
    Calls Tryd.prog 86 #[.int .i64 n] w fun e w' => e = .returned .nilIface ∧ Below w.heap.size w w' := by
  have hM := Mem.nil w
  go_enter Tryd.func86, Tryd.ntmps86
  go_wp2_with (go_at_call 54; refine (checkUpTo_yes _ _ _ h).mono ?_; rintro e W' ⟨rfl, hb'⟩; have hM' := hM.call hb'; clear hM hb'; have hM := hM'; clear hM')
  go_ret
  exact ⟨rfl, hM.below⟩
end Go.Proofs.YtbbododeglkghaaDoor

/-
  Errors that are there or not: checks as values; joined errors of two and of three.
-/
namespace Go.Proofs.YtbbododeglkghaaDoor
open Go Go.RowKit Go.BigFrame

/-- The error x, or none. -/
def errO (x : Addr) (b : Bool) : Value := if b then errV x else .nilIface
theorem errO_one (x : Addr) (b : Bool) : (errO x b).oneCell' = true := by cases b <;> rfl
theorem checkUpTo_any {a : Nat → Addr} (n m : Int) (w : World) (hE : Errs a w) :
    Calls Tryd.prog 54 #[.int .i64 n, .int .i64 m] w fun e w' => e = .returned (errO (a 1) (!inB 0 m n)) ∧ Below w.heap.size w w' := by
  cases h : inB 0 m n
  · exact checkUpTo_no n m w hE h
  · exact checkUpTo_yes n m w h
theorem checkGrass_any {a : Nat → Addr} (n : Int) (w : World) (hE : Errs a w) :
    Calls Tryd.prog 86 #[.int .i64 n] w fun e w' => e = .returned (errO (a 1) (!inB 0 1000 n)) ∧ Below w.heap.size w w' := by
  cases h : inB 0 1000 n
  · exact checkGrass_no n w hE h
  · exact checkGrass_yes n w h
def es2 (p q : Bool) : Nat → Bool := fun k => if k = 0 then p else q
def es3 (p q r : Bool) : Nat → Bool := fun k => if k = 0 then p else if k = 1 then q else r
theorem lit2_errE (x : Addr) (p q : Bool) : ∀ k, k < 2 → (fun k => if k = 0 then errO x p else errO x q) k = errE x (es2 p q) k := fun k _ => by
  unfold errE es2 errO
  by_cases h : k = 0 <;> simp [h]
theorem lit3_errE (x : Addr) (p q r : Bool) : ∀ k, k < 3 → (fun k => if k = 0 then errO x p else if k = 1 then errO x q else errO x r) k = errE x (es3 p q r) k := fun k _ => by
  unfold errE es3 errO
  by_cases h : k = 0
  · simp [h]
  · by_cases h' : k = 1 <;> simp [h, h']
theorem cnt2_no : cntE (es2 false false) 2 = 0 := by decide
theorem cnt3_no : cntE (es3 false false false) 3 = 0 := by decide
theorem cnt2_yes {p q : Bool} (h : (p || q) = true) : 0 < cntE (es2 p q) 2 := by revert h; cases p <;> cases q <;> decide
theorem cnt3_yes {p q r : Bool} (h : (p || q || r) = true) : 0 < cntE (es3 p q r) 3 := by revert h; cases p <;> cases q <;> cases r <;> decide
end Go.Proofs.YtbbododeglkghaaDoor

/-
  spec.l07Ok, l07Asked, impl.(Meadow).isTold, ValidMeadows by contracts: meadows that are valid.
-/
namespace Go.Proofs.YtbbododeglkghaaDoor
open Go Go.RowKit Go.BigFrame

/-- Is a meadow as told? -/
def meadB (h : Nat → Int) : Bool := inB 0 1000 (h 2) && (inB 0 (h 2) (h 0) && inB 0 (h 2) (h 1))
def meadsB (n : Nat) (hs : Nat → Nat → Int) : Bool := inB 1 6 n && (List.range n).all fun i => meadB (hs i)
theorem meadsB_len {n : Nat} {hs : Nat → Nat → Int} (h : inB 1 6 n = false) : meadsB n hs = false := by simp [meadsB, h]
theorem meadsB_no {n i : Nat} {hs : Nat → Nat → Int} (hi : i < n) (h : meadB (hs i) = false) : meadsB n hs = false := by
  have : ((List.range n).all fun i => meadB (hs i)) = false := by rw [List.all_eq_false]; exact ⟨i, by simpa using hi, by rw [h]; decide⟩
  simp [meadsB, this]
theorem meadsB_all {n : Nat} {hs : Nat → Nat → Int} (h : ∀ i, i < n → meadB (hs i) = true) : meadsB n hs = inB 1 6 n := by
  have : ((List.range n).all fun i => meadB (hs i)) = true := by rw [List.all_eq_true]; intro i hi; exact h i (by simpa using hi)
  simp [meadsB, this]
theorem meadsB_iff {n : Nat} {hs : Nat → Nat → Int} (h : meadsB n hs = true) : (1 ≤ n ∧ n ≤ 6) ∧ ∀ i, i < n → meadB (hs i) = true := by
  unfold meadsB at h
  rw [Bool.and_eq_true, List.all_eq_true] at h
  have := inB_true h.1
  exact ⟨by omega, fun i hi => h.2 i (by simpa using hi)⟩
theorem meadB_iff {h : Nat → Int} (hb : meadB h = true) : (0 ≤ h 2 ∧ h 2 ≤ 1000) ∧ (0 ≤ h 0 ∧ h 0 ≤ h 2) ∧ (0 ≤ h 1 ∧ h 1 ≤ h 2) := by
  unfold meadB at hb
  rw [Bool.and_eq_true, Bool.and_eq_true] at hb
  exact ⟨inB_true hb.1, inB_true hb.2.1, inB_true hb.2.2⟩

set_option maxRecDepth 100000 in
set_option maxHeartbeats 4000000 in
theorem l07Ok_any (b n c : Nat) (hs : Nat → Nat → Int) (hF : ∀ i, i < n → FitsMeadow (hs i)) (hn : n ≤ 1048576) (w : World) (hB : At w b (n * 3) (sMeadow hs)) :
    Calls Tryd.prog 69 #[.slice (some ⟨b, 0, none⟩) n c] w fun e w' => e = .returned (.bool (meadsB n hs)) ∧ Below w.heap.size w w' := by
  have hM : Mem w [(b, n * 3, sMeadow hs)] w := (Mem.nil w).old hB (fun i p h => by simp at h)
  have HF := Lib.hid hF
  clear hF hB
  go_enter Tryd.func69, Tryd.ntmps69
  go_wp2
  go_loopw [3] (fun i wr => ∃ k : Nat, k ≤ n ∧ i = .int .i64 k ∧ Hid (∀ j, j < k → meadB (hs j) = true) ∧ Mem w [(b, n * 3, sMeadow hs)] wr) (fun i _ => n - (intOf i).toNat)
  case atStart => exact ⟨0, by omega, rfl, Lib.hid (fun j hj => absurd hj (by omega)), hM⟩
  case round =>
    clear hM
    obtain ⟨k, hk, rfl, hall, hM⟩ := hrel
    by_cases hlt : k < n
    · have l2 : (k : Int) < n := by omega
      obtain ⟨f0, f1, f2⟩ := HF.out k hlt
      have c0 : IntKind.i64.wrap (hs k 0) = hs k 0 := IntWalk.i64_in _ (by omega)
      have c1 : IntKind.i64.wrap (hs k 1) = hs k 1 := IntWalk.i64_in _ (by omega)
      have c2 : IntKind.i64.wrap (hs k 2) = hs k 2 := IntWalk.i64_in _ (by omega)
      have e0 : sMeadow hs (k * 3) = .int .i16 (hs k 0) := sMeadow_row hs k 0 (by omega)
      have e1 : sMeadow hs (k * 3 + 1) = .int .i16 (hs k 1) := sMeadow_row hs k 1 (by omega)
      have e2 : sMeadow hs (k * 3 + 2) = .int .i16 (hs k 2) := sMeadow_row hs k 2 (by omega)
      clear f0 f1 f2
      cases h2 : inB 0 1000 (hs k 2)
      · have Hx : Hid (meadB (hs k) = false) := Lib.hid (by simp [meadB, h2])
        have H2 := Lib.hid h2
        clear h2
        go_wp2_with (first | (refine wpList_get1 rfl _ _ rfl _ _ rfl hM 0 rfl (cellTab _ rfl) (by omega) _ e2 ?_) | (go_at_call 79; (with_reducible refine (l01Grass_any (hs k 2) _).mono ?_); rintro e W' ⟨rfl, hb'⟩; rw [H2.out]; have hM' := hM.call hb'; clear hM hb'; have hM := hM'; clear hM'))
        go_ret
        exact ⟨ret_bool (meadsB_no hlt Hx.out).symm, hM.below⟩
      cases h0 : inB 0 (hs k 2) (hs k 0)
      · have Hx : Hid (meadB (hs k) = false) := Lib.hid (by simp [meadB, h0])
        have H2 := Lib.hid h2
        have H0 := Lib.hid h0
        clear h2 h0
        go_wp2_with (first | (refine wpList_get1 rfl _ _ rfl _ _ rfl hM 0 rfl (cellTab _ rfl) (by omega) _ e2 ?_) | (refine wpList_gget1 ?_ _ _ rfl _ _ rfl hM 0 rfl (cellTab _ rfl) (by omega) _ e0 ?_; kernel_rfl) | (go_at_call 79; (with_reducible refine (l01Grass_any (hs k 2) _).mono ?_); rintro e W' ⟨rfl, hb'⟩; rw [H2.out]; have hM' := hM.call hb'; clear hM hb'; have hM := hM'; clear hM') | (go_at_call 55; (with_reducible refine (l00In_any (hs k 0) 0 (hs k 2) _).mono ?_); rintro e W' ⟨rfl, hb'⟩; rw [H0.out]; have hM' := hM.call hb'; clear hM hb'; have hM := hM'; clear hM'))
        go_ret
        exact ⟨ret_bool (meadsB_no hlt Hx.out).symm, hM.below⟩
      cases h1 : inB 0 (hs k 2) (hs k 1)
      · have Hx : Hid (meadB (hs k) = false) := Lib.hid (by simp [meadB, h1])
        have H2 := Lib.hid h2
        have H0 := Lib.hid h0
        have H1 := Lib.hid h1
        clear h2 h0 h1
        have tk_r0 : True := trivial
        go_wp2_with (first | (refine wpList_get1 rfl _ _ rfl _ _ rfl hM 0 rfl (cellTab _ rfl) (by omega) _ e2 ?_) | (have _t := tk_r0; (refine wpList_gget1 ?_ _ _ rfl _ _ rfl hM 0 rfl (cellTab _ rfl) (by omega) _ e0 ?_; kernel_rfl); clear tk_r0) | (refine wpList_gget1 ?_ _ _ rfl _ _ rfl hM 0 rfl (cellTab _ rfl) (by omega) _ e1 ?_; kernel_rfl) | (go_at_call 79; (with_reducible refine (l01Grass_any (hs k 2) _).mono ?_); rintro e W' ⟨rfl, hb'⟩; rw [H2.out]; have hM' := hM.call hb'; clear hM hb'; have hM := hM'; clear hM') | (go_at_call 55; (with_reducible refine (l00In_any (hs k 0) 0 (hs k 2) _).mono ?_); rintro e W' ⟨rfl, hb'⟩; rw [H0.out]; have hM' := hM.call hb'; clear hM hb'; have hM := hM'; clear hM') | (go_at_call 55; (with_reducible refine (l00In_any (hs k 1) 0 (hs k 2) _).mono ?_); rintro e W' ⟨rfl, hb'⟩; rw [H1.out]; have hM' := hM.call hb'; clear hM hb'; have hM := hM'; clear hM'))
        go_ret
        exact ⟨ret_bool (meadsB_no hlt Hx.out).symm, hM.below⟩
      · have Hx : Hid (meadB (hs k) = true) := Lib.hid (by simp [meadB, h0, h1, h2])
        have H2 := Lib.hid h2
        have H0 := Lib.hid h0
        have H1 := Lib.hid h1
        clear h2 h0 h1
        have tk_r0 : True := trivial
        go_wp2_with (first | (refine wpList_get1 rfl _ _ rfl _ _ rfl hM 0 rfl (cellTab _ rfl) (by omega) _ e2 ?_) | (have _t := tk_r0; (refine wpList_gget1 ?_ _ _ rfl _ _ rfl hM 0 rfl (cellTab _ rfl) (by omega) _ e0 ?_; kernel_rfl); clear tk_r0) | (refine wpList_gget1 ?_ _ _ rfl _ _ rfl hM 0 rfl (cellTab _ rfl) (by omega) _ e1 ?_; kernel_rfl) | (go_at_call 79; (with_reducible refine (l01Grass_any (hs k 2) _).mono ?_); rintro e W' ⟨rfl, hb'⟩; rw [H2.out]; have hM' := hM.call hb'; clear hM hb'; have hM := hM'; clear hM') | (go_at_call 55; (with_reducible refine (l00In_any (hs k 0) 0 (hs k 2) _).mono ?_); rintro e W' ⟨rfl, hb'⟩; rw [H0.out]; have hM' := hM.call hb'; clear hM hb'; have hM := hM'; clear hM') | (go_at_call 55; (with_reducible refine (l00In_any (hs k 1) 0 (hs k 2) _).mono ?_); rintro e W' ⟨rfl, hb'⟩; rw [H1.out]; have hM' := hM.call hb'; clear hM hb'; have hM := hM'; clear hM'))
        go_roundw
        case rel => exact ⟨k + 1, by omega, by go_num, Lib.hid (fun j hj => by
          by_cases e : j = k
          · rw [e]; exact Hx.out
          · exact hall.out j (by omega)), hM⟩
        case measure => simp [intOf]; omega
    · obtain rfl : k = n := by omega
      have Hp := Lib.hid (meadsB_all hall.out)
      go_wp2_with (first | (go_at_call 55; (with_reducible refine (l00In_any (k : Int) 1 6 _).mono ?_); rintro e W' ⟨rfl, hb'⟩; have hM' := hM.call hb'; clear hM hb'; have hM := hM'; clear hM'))
      go_ret
      exact ⟨ret_bool Hp.out.symm, hM.below⟩

/-- The code of meadows, a need, and whether numbers are as told. -/
def meadC (n : Nat) (hs : Nat → Nat → Int) (need : Int) (fine : Bool) : Int := if meadsB n hs then (if inB 1 1000 need && fine then 0 else 2) else 1
theorem meadC_bad {n : Nat} {hs : Nat → Nat → Int} {m : Int} {f : Bool} (h : meadsB n hs = false) : meadC n hs m f = 1 := by simp [meadC, h]
theorem meadC_out {n : Nat} {hs : Nat → Nat → Int} {m : Int} {f : Bool} (h : meadsB n hs = true) (h2 : (inB 1 1000 m && f) = false) : meadC n hs m f = 2 := by simp only [meadC, h, h2]; rfl
theorem meadC_ok {n : Nat} {hs : Nat → Nat → Int} {m : Int} {f : Bool} (h : meadsB n hs = true) (h2 : inB 1 1000 m = true) (h3 : f = true) : meadC n hs m f = 0 := by simp [meadC, h, h2, h3]
theorem ret_i {k : IntKind} {a b : Int} (h : a = b) : Ending.returned (.int k a) = .returned (.int k b) := by rw [h]
set_option maxRecDepth 100000 in
set_option maxHeartbeats 1000000 in
theorem l07Asked_any (b n c : Nat) (hs : Nat → Nat → Int) (hF : ∀ i, i < n → FitsMeadow (hs i)) (hn : n ≤ 1048576) (need : Int) (fine : Bool) (w : World) (hB : At w b (n * 3) (sMeadow hs)) :
    Calls Tryd.prog 42 #[.slice (some ⟨b, 0, none⟩) n c, .int .i64 need, .bool fine] w fun e w' => e = .returned (.int .i64 (meadC n hs need fine)) ∧ Below w.heap.size w w' := by
  have hM : Mem w [(b, n * 3, sMeadow hs)] w := (Mem.nil w).old hB (fun i p h => by simp at h)
  have HF := Lib.hid hF
  clear hF hB
  cases ho : meadsB n hs
  · have Hp := Lib.hid (meadC_bad (m := need) (f := fine) ho)
    have Ho := Lib.hid ho
    clear ho
    go_enter Tryd.func42, Tryd.ntmps42
    go_wp2_with (first | (go_at_call 69; (with_reducible refine (l07Ok_any b n c hs HF.out hn _ (hM.ats 0 _ _ _ rfl)).mono ?_); rintro e W' ⟨rfl, hb'⟩; rw [Ho.out]; have hM' := hM.call hb'; clear hM hb'; have hM := hM'; clear hM'))
    go_ret
    exact ⟨ret_i Hp.out.symm, hM.below⟩
  cases h1 : inB 1 1000 need
  · have Hp := Lib.hid (meadC_out (m := need) (f := fine) ho (by rw [h1]; rfl))
    have Ho := Lib.hid ho
    have H1 := Lib.hid h1
    clear ho h1
    go_enter Tryd.func42, Tryd.ntmps42
    go_wp2_with (first | (go_at_call 69; (with_reducible refine (l07Ok_any b n c hs HF.out hn _ (hM.ats 0 _ _ _ rfl)).mono ?_); rintro e W' ⟨rfl, hb'⟩; rw [Ho.out]; have hM' := hM.call hb'; clear hM hb'; have hM := hM'; clear hM') | (go_at_call 55; (with_reducible refine (l00In_any need 1 1000 _).mono ?_); rintro e W' ⟨rfl, hb'⟩; rw [H1.out]; have hM' := hM.call hb'; clear hM hb'; have hM := hM'; clear hM'))
    go_ret
    exact ⟨ret_i Hp.out.symm, hM.below⟩
  cases fine
  · have Hp := Lib.hid (meadC_out (m := need) (f := false) ho (Bool.and_false _))
    have Ho := Lib.hid ho
    have H1 := Lib.hid h1
    clear ho h1
    go_enter Tryd.func42, Tryd.ntmps42
    go_wp2_with (first | (go_at_call 69; (with_reducible refine (l07Ok_any b n c hs HF.out hn _ (hM.ats 0 _ _ _ rfl)).mono ?_); rintro e W' ⟨rfl, hb'⟩; rw [Ho.out]; have hM' := hM.call hb'; clear hM hb'; have hM := hM'; clear hM') | (go_at_call 55; (with_reducible refine (l00In_any need 1 1000 _).mono ?_); rintro e W' ⟨rfl, hb'⟩; rw [H1.out]; have hM' := hM.call hb'; clear hM hb'; have hM := hM'; clear hM'))
    go_ret
    exact ⟨ret_i Hp.out.symm, hM.below⟩
  · have Hp := Lib.hid (meadC_ok (m := need) (f := true) ho h1 rfl)
    have Ho := Lib.hid ho
    have H1 := Lib.hid h1
    clear ho h1
    go_enter Tryd.func42, Tryd.ntmps42
    go_wp2_with (first | (go_at_call 69; (with_reducible refine (l07Ok_any b n c hs HF.out hn _ (hM.ats 0 _ _ _ rfl)).mono ?_); rintro e W' ⟨rfl, hb'⟩; rw [Ho.out]; have hM' := hM.call hb'; clear hM hb'; have hM := hM'; clear hM') | (go_at_call 55; (with_reducible refine (l00In_any need 1 1000 _).mono ?_); rintro e W' ⟨rfl, hb'⟩; rw [H1.out]; have hM' := hM.call hb'; clear hM hb'; have hM := hM'; clear hM'))
    go_ret
    exact ⟨ret_i Hp.out.symm, hM.below⟩
end Go.Proofs.YtbbododeglkghaaDoor

/-
  spec.l00Min, l00Max by contracts.
-/
namespace Go.Proofs.YtbbododeglkghaaDoor
open Go Go.RowKit Go.BigFrame

def minQ (a b : Int) : Int := if a < b then a else b
def maxQ (a b : Int) : Int := if b < a then a else b
theorem minQ_lt {a b : Int} (h : a < b) : minQ a b = a := by simp [minQ, h]
theorem minQ_ge {a b : Int} (h : ¬ a < b) : minQ a b = b := by simp [minQ, h]
theorem maxQ_gt {a b : Int} (h : b < a) : maxQ a b = a := by simp [maxQ, h]
theorem maxQ_le {a b : Int} (h : ¬ b < a) : maxQ a b = b := by simp [maxQ, h]
theorem minQ_min (a b : Int) : minQ a b = min a b := by unfold minQ; omega
theorem maxQ_max (a b : Int) : maxQ a b = max a b := by unfold maxQ; omega
theorem l00MinQ_any (a b : Int) (w : World) : Calls Tryd.prog 70 #[.int .i64 a, .int .i64 b] w fun e w' => e = .returned (.int .i64 (minQ a b)) ∧ Below w.heap.size w w' := by
  by_cases h : a < b
  · rw [minQ_lt h]
    go_enter Tryd.func70, Tryd.ntmps70
    go_wp2
    go_ret
    exact ⟨rfl, Below.refl _ _⟩
  · rw [minQ_ge h]
    go_enter Tryd.func70, Tryd.ntmps70
    go_wp2
    go_ret
    exact ⟨rfl, Below.refl _ _⟩
theorem l00MaxQ_any (a b : Int) (w : World) : Calls Tryd.prog 52 #[.int .i64 a, .int .i64 b] w fun e w' => e = .returned (.int .i64 (maxQ a b)) ∧ Below w.heap.size w w' := by
  by_cases h : b < a
  · rw [maxQ_gt h]
    go_enter Tryd.func52, Tryd.ntmps52
    go_wp2
    go_ret
    exact ⟨rfl, Below.refl _ _⟩
  · rw [maxQ_le h]
    go_enter Tryd.func52, Tryd.ntmps52
    go_wp2
    go_ret
    exact ⟨rfl, Below.refl _ _⟩
end Go.Proofs.YtbbododeglkghaaDoor

