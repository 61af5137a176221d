/-
  Several texts in one: Own, Lit1, Head, HeadC, Sets, Cat, GivesR, Int64SC.
-/
import Derived.Deep.DeepAppendWide
import Derived.ArgAppend
import Derived.Test.YtcdpdcjdjcbhcaaDoorP3
import Derived.Laws.MakeOwn
import Derived.StillTail
import Derived.Deep.Quiet
import Derived.Test.YtcdpdcjdjcbhcaaDoorP1
import Derived.Laws.BitsLemmas
import Derived.Laws.Shifts
import Derived.Test.YtcdpdcjdjcbhcaaDoorP2
/-
  PLAIN LAWS: a list that a walk appends to, one element after the other: none yet, or the first cells of a block of the call's own.
-/
namespace Go.Proofs.YtcdpdcjdjcbhcaaDoor
open Go Go.RowKit

/-- The list v of n elements of m cells: R; beside it lie the blocks K. -/
def Lst (w : Base) (K : Blocks) (m : Nat) (v : Value) (n : Nat) (R : Nat → Value) (W : World) : Prop :=
  (v = .slice none 0 0 ∧ n = 0 ∧ Mem w K W) ∨ ∃ b c F, v = .slice (some ⟨b, 0, none⟩) n c ∧ w.B ≤ b ∧ n ≤ c ∧ (∀ j, j < n * m → F j = R j) ∧ Mem w ((b, c * m, F) :: K) W
theorem Lst.mem {w : Base} {K : Blocks} {m : Nat} {v : Value} {n : Nat} {R : Nat → Value} {W : World} (h : Lst w K m v n R W) : Mem w K W := by
  rcases h with ⟨-, -, h⟩ | ⟨b, c, F, -, -, -, -, h⟩
  · exact h
  · exact h.drop

theorem Lst.only {w : Base} {K : Blocks} {m : Nat} {v : Value} {n : Nat} {R : Nat → Value} {W : World} (h : Lst w K m v n R W) : Lst w [] m v n R W := by
  rcases h with ⟨h1, h2, h⟩ | ⟨b, c, F, h1, h2, h3, h4, h⟩
  · exact .inl ⟨h1, h2, Mem.start h.good⟩
  · refine .inr ⟨b, c, F, h1, h2, h3, h4, h.good, fun i b' n' f' hi => ?_, fun i j x y hi hj hne => ?_⟩
    · match i, hi with
      | 0, hi => exact h.ats 0 b' n' f' (by simpa using hi)
      | i + 1, hi => simp at hi
    · match i, j, hi, hj with
      | 0, 0, _, _ => exact absurd rfl hne
      | 0, j + 1, _, hj => simp at hj
      | i + 1, _, hi, _ => simp at hi

theorem arr_any (A : Array Value) : A = arr A.size (fun k => A[k]?.getD undef) := arr_ext rfl (fun k hk => by simp [hk])
theorem Mem.allocA {w : Base} {W : World} {L : Blocks} (h : Mem w L W) (t : TypeId) (A : Array Value) (n : Nat) (hs : A.size = n) : Mem w ((W.heap.size, n, fun k => A[k]?.getD undef) :: L) (W.alloc (.cells A t)) := by
  subst hs
  have := h.alloc t A.size (fun k => A[k]?.getD undef)
  rwa [← arr_any] at this
theorem Mem.skip {w : Base} {W : World} {p q : Nat × Nat × (Nat → Value)} {L : Blocks} (h : Mem w (p :: q :: L) W) : Mem w (p :: L) W :=
  ⟨h.good, fun i b n f hi => by
    match i, hi with
    | 0, hi => exact h.ats 0 b n f (by simpa using hi)
    | i + 1, hi => exact h.ats (i + 2) b n f (by simpa using hi),
   fun i j x y hi hj hne => by
    match i, j, hi, hj with
    | 0, 0, _, _ => exact absurd rfl hne
    | 0, j + 1, hi, hj => exact h.apart 0 (j + 2) x y (by simpa using hi) (by simpa using hj) (by omega)
    | i + 1, 0, hi, hj => exact h.apart (i + 2) 0 x y (by simpa using hi) (by simpa using hj) (by omega)
    | i + 1, j + 1, hi, hj => exact h.apart (i + 2) (j + 2) x y (by simpa using hi) (by simpa using hj) (by omega)⟩
theorem Mem.swap {w : Base} {W : World} {p q : Nat × Nat × (Nat → Value)} {L : Blocks} (h : Mem w (p :: q :: L) W) : Mem w (q :: p :: L) W :=
  ⟨h.good, fun i b n f hi => by
    match i, hi with
    | 0, hi => exact h.ats 1 b n f (by simpa using hi)
    | 1, hi => exact h.ats 0 b n f (by simpa using hi)
    | i + 2, hi => exact h.ats (i + 2) b n f (by simpa using hi),
   fun i j x y hi hj hne => by
    match i, j, hi, hj with
    | 0, 0, _, _ => exact absurd rfl hne
    | 1, 1, _, _ => exact absurd rfl hne
    | 0, 1, hi, hj => exact h.apart 1 0 x y (by simpa using hi) (by simpa using hj) (by omega)
    | 1, 0, hi, hj => exact h.apart 0 1 x y (by simpa using hi) (by simpa using hj) (by omega)
    | 0, j + 2, hi, hj => exact h.apart 1 (j + 2) x y (by simpa using hi) (by simpa using hj) (by omega)
    | 1, j + 2, hi, hj => exact h.apart 0 (j + 2) x y (by simpa using hi) (by simpa using hj) (by omega)
    | i + 2, 0, hi, hj => exact h.apart (i + 2) 1 x y (by simpa using hi) (by simpa using hj) (by omega)
    | i + 2, 1, hi, hj => exact h.apart (i + 2) 0 x y (by simpa using hi) (by simpa using hj) (by omega)
    | i + 2, j + 2, hi, hj => exact h.apart (i + 2) (j + 2) x y (by simpa using hi) (by simpa using hj) (by omega)⟩
theorem add_any (b o j : Nat) : (⟨b, o, none⟩ : Addr).add j = ⟨b, o + j, none⟩ := by unfold Addr.add; split <;> simp_all
theorem At.list {W : World} {b N : Nat} {f : Nat → Value} (hA : At W b N f) {k : Nat} (hk : k ≤ N) : ∀ j v, (arr k f).toList[j]? = some v → W.cell? ((⟨b, 0, none⟩ : Addr).add j) = some v := fun j v hv => by
  rw [arr_toList] at hv
  have hj : j < k := by have := (List.getElem?_eq_some_iff.1 hv).1; simpa using this
  simp [hj] at hv
  rw [add_any, Nat.zero_add, hA.cell (by omega), hv]

section
variable {P : Program} {ops : Array Oper} {rest : List Oper} {o : Oper} {a : Act} {w : Base} {W : World} {Q : Exit → Act → World → Prop} {L K : Blocks}
/-- A slice literal of no element. -/
theorem wpList_slice0 (hgd : o.guard = none) (t e : TypeId) (ho : o.op = .buildSlice t 0 #[]) (m : Nat)
    (hu : P.underlying t = some (.slice e)) (hz : (P.info? e).map (fun i => i.size) = some m) (hM : Mem w L W)
    (h : ∀ b W', w.B ≤ b → Mem w ((b, 0, fun _ => undef) :: L) W' → wpList P ops Q rest (a.put o.dst (.slice (some ⟨b, 0, none⟩) 0 0)) W') : wpList P ops Q (o :: rest) a W := by
  obtain ⟨ie, hie, hq⟩ := Option.map_eq_some_iff.1 hz
  refine wpList_plain hgd fun J hJ => ?_
  have hr : (Instr.buildSlice t 0 #[]).run P W = .ok (.slice (some ⟨W.heap.size, 0, none⟩) 0 0) (W.alloc (.cells (arr 0 fun _ => undef) e)) := by
    have e0 : Array.range 0 = #[] := rfl
    simp [Instr.buildSlice, run_underlying hu, sizeOf, typeInfo, hie, Instr.fill, newRow, arr, e0]
  unfold Oper.wp execOp
  simp only [ho, Array.map_empty, Sem.run_bind, hr, Result.andThen_ok]
  exact hJ _ _ (h _ _ hM.size (hM.alloc e 0 _))

/-- The first element is appended. -/
theorem wpList_push0 (hgd : o.guard = none) (s x : Operand) (t : TypeId) (ho : o.op = .call { callee := .builtin .append, args := #[s, x], argTypes := #[t, t] })
    (e : TypeId) (m bs : Nat) (z : Value) (hu : P.underlying t = some (.slice e)) (hz : (P.info? e).map (fun i => (i.size, i.zero, i.bytes)) = some (m, some z, bs)) (hzs : z.cells.size = m) (hbs : bs ≤ 1000)
    (hs : a.eval s = .slice none 0 0) (bn : Nat) (f : Nat → Value) (hx : a.eval x = .slice (some ⟨bn, 0, none⟩) 1 1) (hM : Mem w ((bn, m, f) :: K) W) (R : Nat → Value) (hR : ∀ j, j < m → f j = R j)
    (h : ∀ b' c' F' W', w.B ≤ b' → 1 ≤ c' → (∀ j, j < 1 * m → F' j = R j) → Mem w ((b', c' * m, F') :: K) W' → wpList P ops Q rest (a.put o.dst (.slice (some ⟨b', 0, none⟩) 1 c')) W') : wpList P ops Q (o :: rest) a W := by
  obtain ⟨i, hi, hq⟩ := Option.map_eq_some_iff.1 hz
  simp only [Prod.mk.injEq] at hq
  obtain ⟨rfl, q2, rfl⟩ := hq
  refine wpList_plain hgd fun J hJ => ?_
  have hr := run_append_nil (P := P) W t o.type e i z hu hi q2 ⟨bn, 0, none⟩ 1 1 (arr i.size f).toList (by simp [arr_size]) (hM.at0.list (Nat.le_refl _)) (by omega) (by omega) (by omega)
  have hge := grownCap_ge W 1 0 e
  unfold Oper.wp execOp
  simp only [ho, resolve, invoke, builtin, Sem.run_bind, Sem.run_pure, Result.andThen_ok, List.map_toArray, List.map_cons, List.map_nil, hs, hx, hr]
  refine hJ _ _ (h _ _ _ _ hM.size hge (fun j hj => ?_) (hM.drew.allocA e _ (grownCap W 1 0 e * i.size) ?_).skip)
  · have hj' : j < i.size := by omega
    rw [← hR j hj']
    simp [Array.getElem?_append, arr, hj']
  · simp only [Array.size_append, List.size_toArray, size_zeroCells, hzs, Array.length_toList, arr_size]
    conv => lhs; lhs; rw [← Nat.one_mul i.size]
    rw [← Nat.add_mul]
    congr 1; omega

/-- One more element is appended. -/
theorem wpList_push1 (hgd : o.guard = none) (s x : Operand) (t : TypeId) (ho : o.op = .call { callee := .builtin .append, args := #[s, x], argTypes := #[t, t] })
    (e : TypeId) (m bs : Nat) (z : Value) (hu : P.underlying t = some (.slice e)) (hz : (P.info? e).map (fun i => (i.size, i.zero, i.bytes)) = some (m, some z, bs)) (hzs : z.cells.size = m) (hbs : bs ≤ 1000)
    (b n c : Nat) (F : Nat → Value) (hs : a.eval s = .slice (some ⟨b, 0, none⟩) n c) (hb : w.B ≤ b) (hnc : n ≤ c) (hn : n ≤ 1048576)
    (bn : Nat) (f : Nat → Value) (hx : a.eval x = .slice (some ⟨bn, 0, none⟩) 1 1) (h1 : ∀ k, k < m → (f k).oneCell' = true) (hM : Mem w ((bn, m, f) :: (b, c * m, F) :: K) W) (R : Nat → Value) (hR0 : ∀ j, j < n * m → F j = R j) (hR : ∀ j, j < m → f j = R (n * m + j))
    (h : ∀ b' c' F' W', w.B ≤ b' → n + 1 ≤ c' → (∀ j, j < (n + 1) * m → F' j = R j) → Mem w ((b', c' * m, F') :: K) W' → wpList P ops Q rest (a.put o.dst (.slice (some ⟨b', 0, none⟩) (n + 1) c')) W') : wpList P ops Q (o :: rest) a W := by
  obtain ⟨i, hi, hq⟩ := Option.map_eq_some_iff.1 hz
  simp only [Prod.mk.injEq] at hq
  obtain ⟨rfl, q2, rfl⟩ := hq
  refine wpList_plain hgd fun J hJ => ?_
  have hnews := hM.at0.list (Nat.le_refl _)
  by_cases hroom : n + 1 ≤ c
  · have hfit : n * i.size + i.size ≤ c * i.size := by
      have := Nat.mul_le_mul_right i.size hroom
      rwa [Nat.add_mul, Nat.one_mul] at this
    obtain ⟨t0, ht0⟩ := hM.ats 1 _ _ _ rfl
    have hfc := run_firstCells_some (P := P) W i.size 1 ⟨bn, 0, none⟩ 1 1 (arr i.size f).toList (by simp [arr_size]) hnews
    have hst := run_storeCells_at (P := P) b (n * i.size) t0 (arr i.size f).toList 0 (arr (c * i.size) F) W ht0 (by simp [arr_size]; omega) (fun v hv => by
      rw [arr_toList] at hv; simp at hv; obtain ⟨k, hk, rfl⟩ := hv; exact h1 k hk)
    rw [Nat.add_zero, arr_lay hfit] at hst
    have hr : (Builtin.append_ #[t, t] o.type #[.slice (some ⟨b, 0, none⟩) n c, .slice (some ⟨bn, 0, none⟩) 1 1]).run P W = .ok (.slice (some ⟨b, 0, none⟩) (n + 1) c) (W.setRow b (arr (c * i.size) (lay F (n * i.size) i.size f))) := by
      simp [Builtin.append_, run_underlying hu, sizeOf, typeInfo, hi, Builtin.lenOf, hroom, hfc, add_any, hst]
    unfold Oper.wp execOp
    simp only [ho, resolve, invoke, builtin, Sem.run_bind, Sem.run_pure, Result.andThen_ok, List.map_toArray, List.map_cons, List.map_nil, hs, hx, hr]
    refine hJ _ _ (h b c _ _ hb hroom (fun j hj => ?_) (hM.setRow 1 rfl hb _).drop)
    rw [Nat.add_mul, Nat.one_mul] at hj
    simp only [lay]
    by_cases hj' : j < n * i.size
    · rw [if_neg (by omega)]; exact hR0 j hj'
    · rw [if_pos (by omega), hR _ (by omega), show n * i.size + (j - n * i.size) = j by omega]
  · have hle : n * i.size ≤ c * i.size := Nat.mul_le_mul_right _ hnc
    have hb48 : Builtin.nextslicecap (n + 1) c * i.bytes ≤ 281474976710656 := growslice_fits (by omega) (by
      have : (n + 1) * i.bytes ≤ 1048577 * 1000 := Nat.mul_le_mul (by omega) hbs
      omega)
    have hr := run_append_grow (P := P) W t o.type e i z hu hi q2 ⟨b, 0, none⟩ n c (arr (n * i.size) F).toList (by simp [arr_size]) ((hM.ats 1 _ _ _ rfl).list hle) ⟨bn, 0, none⟩ 1 1 (arr i.size f).toList (by simp [arr_size]) hnews (by omega) (by omega) hb48
    have hge := grownCap_ge W (n + 1) c e
    unfold Oper.wp execOp
    simp only [ho, resolve, invoke, builtin, Sem.run_bind, Sem.run_pure, Result.andThen_ok, List.map_toArray, List.map_cons, List.map_nil, hs, hx, hr]
    refine hJ _ _ (h _ _ _ _ hM.size hge (fun j hj => ?_) (hM.drew.allocA e _ (grownCap W (n + 1) c e * i.size) ?_).skip.skip)
    · rw [Nat.add_mul, Nat.one_mul] at hj
      by_cases hj' : j < n * i.size
      · rw [← hR0 j hj']
        rw [Array.getElem?_append_left (by simp [arr_size]; omega), Array.getElem?_append_left (by simp [arr_size]; omega), Array.toArray_toList, arr_at hj']
        rfl
      · rw [show j = n * i.size + (j - n * i.size) by omega, ← hR _ (by omega)]
        rw [Array.getElem?_append_left (by simp [arr_size]; omega), Array.getElem?_append_right (by simp [arr_size]), Array.toArray_toList, Array.toArray_toList, arr_size, Nat.add_sub_cancel_left, arr_at (by omega)]
        rfl
    · simp only [Array.size_append, List.size_toArray, size_zeroCells, hzs, Array.length_toList, arr_size]
      rw [← Nat.succ_mul, ← Nat.add_mul]
      congr 1; simp only [Nat.succ_eq_add_one]; omega
end
end Go.Proofs.YtcdpdcjdjcbhcaaDoor

/-
  PLAIN LAWS: slice literals of two and of three elements of one cell; make of no element, with room.
-/
namespace Go.Proofs.YtcdpdcjdjcbhcaaDoor
open Go Go.RowKit
variable {P : Program} {ops : Array Oper} {rest : List Oper} {o : Oper} {a : Act} {w : Base} {W : World} {Q : Exit → Act → World → Prop} {L : Blocks}

theorem cells_one {v : Value} (h : v.oneCell' = true) : v.cells = #[v] := by cases v <;> first | rfl | (simp [Value.oneCell'] at h)
theorem fill_cell {place : Nat → Option (Nat × Nat)} {cs : Array Value} {i off : Nat} {v : Value} (hv : v.oneCell' = true) (hp : place i = some (off, 1)) (hle : off < cs.size) (rest : List (Nat × Value)) :
    Instr.fill place cs ((i, v) :: rest) = Instr.fill place (cs.setIfInBounds off v) rest := by
  rw [Instr.fill, hp]
  simp only [cells_one hv, List.size_toArray, List.length_cons, List.length_nil, Nat.zero_add, ne_eq, not_true_eq_false, decide_false, Bool.false_or]
  rw [if_neg (by simp; omega)]
  congr 1
theorem wpList_lit2 (hgd : o.guard = none) (t e : TypeId) (x y : Operand) (ho : o.op = .buildSlice t 2 #[(0, x), (1, y)]) (u v : Value) (hx : a.eval x = u) (hy : a.eval y = v) (h0 : u.oneCell' = true) (h1 : v.oneCell' = true) (z : Value)
    (hu : P.underlying t = some (.slice e)) (hz : (P.info? e).map (fun i => (i.size, i.zero)) = some (1, some z)) (hM : Mem w L W)
    (h : ∀ b W', w.B ≤ b → Mem w ((b, 2, fun k => if k = 0 then u else v) :: L) W' → wpList P ops Q rest (a.put o.dst (.slice (some ⟨b, 0, none⟩) 2 2)) W') : wpList P ops Q (o :: rest) a W := by
  obtain ⟨ie, hie, hq⟩ := Option.map_eq_some_iff.1 hz
  simp only [Prod.mk.injEq] at hq
  refine wpList_buildSlice hgd t e 2 _ ho (arr 2 fun k => if k = 0 then u else v) ie z hu hie hq.2 (by rw [hq.1]; omega) (by rw [hq.1]; omega) ?_ (h _ _ hM.size (hM.alloc e 2 _))
  rw [hq.1]
  rw [show (Array.map (fun x => match x with | (i, x) => (i, a.eval x)) #[(0, x), (1, y)]).toList = [(0, u), (1, v)] by simp [hx, hy]]
  rw [fill_cell h0 (off := 0) rfl (by simp), fill_cell h1 (off := 1) rfl (by simp), Instr.fill]
  refine congrArg some (arr_ext (by simp) (fun k hk => ?_))
  rcases (show k = 0 ∨ k = 1 by omega) with rfl | rfl <;> simp
theorem wpList_lit3 (hgd : o.guard = none) (t e : TypeId) (x y q : Operand) (ho : o.op = .buildSlice t 3 #[(0, x), (1, y), (2, q)]) (u v s : Value) (hx : a.eval x = u) (hy : a.eval y = v) (hs : a.eval q = s) (h0 : u.oneCell' = true) (h1 : v.oneCell' = true) (h2 : s.oneCell' = true) (z : Value)
    (hu : P.underlying t = some (.slice e)) (hz : (P.info? e).map (fun i => (i.size, i.zero)) = some (1, some z)) (hM : Mem w L W)
    (h : ∀ b W', w.B ≤ b → Mem w ((b, 3, fun k => if k = 0 then u else if k = 1 then v else s) :: L) W' → wpList P ops Q rest (a.put o.dst (.slice (some ⟨b, 0, none⟩) 3 3)) W') : wpList P ops Q (o :: rest) a W := by
  obtain ⟨ie, hie, hq⟩ := Option.map_eq_some_iff.1 hz
  simp only [Prod.mk.injEq] at hq
  refine wpList_buildSlice hgd t e 3 _ ho (arr 3 fun k => if k = 0 then u else if k = 1 then v else s) ie z hu hie hq.2 (by rw [hq.1]; omega) (by rw [hq.1]; omega) ?_ (h _ _ hM.size (hM.alloc e 3 _))
  rw [hq.1]
  rw [show (Array.map (fun x => match x with | (i, x) => (i, a.eval x)) #[(0, x), (1, y), (2, q)]).toList = [(0, u), (1, v), (2, s)] by simp [hx, hy, hs]]
  rw [fill_cell h0 (off := 0) rfl (by simp), fill_cell h1 (off := 1) rfl (by simp), fill_cell h2 (off := 2) rfl (by simp), Instr.fill]
  refine congrArg some (arr_ext (by simp) (fun k hk => ?_))
  rcases (show k = 0 ∨ k = 1 ∨ k = 2 by omega) with rfl | rfl | rfl <;> simp
/-- A slice literal of one element of one cell. -/
theorem wpList_lit1 (hgd : o.guard = none) (t e : TypeId) (x : Operand) (ho : o.op = .buildSlice t 1 #[(0, x)]) (u : Value) (hx : a.eval x = u) (h0 : u.oneCell' = true) (z : Value)
    (hu : P.underlying t = some (.slice e)) (hz : (P.info? e).map (fun i => (i.size, i.zero)) = some (1, some z)) (hM : Mem w L W)
    (h : ∀ b W', w.B ≤ b → Mem w ((b, 1, fun _ => u) :: L) W' → wpList P ops Q rest (a.put o.dst (.slice (some ⟨b, 0, none⟩) 1 1)) W') : wpList P ops Q (o :: rest) a W := by
  obtain ⟨ie, hie, hq⟩ := Option.map_eq_some_iff.1 hz
  simp only [Prod.mk.injEq] at hq
  refine wpList_buildSlice hgd t e 1 _ ho (arr 1 fun _ => u) ie z hu hie hq.2 (by rw [hq.1]; omega) (by rw [hq.1]; omega) ?_ (h _ _ hM.size (hM.alloc e 1 _))
  rw [hq.1]
  rw [show (Array.map (fun x => match x with | (i, x) => (i, a.eval x)) #[(0, x)]).toList = [(0, u)] by simp [hx]]
  rw [fill_cell h0 (off := 0) rfl (by simp), Instr.fill]
  refine congrArg some (arr_ext (by simp) (fun k hk => ?_))
  obtain rfl : k = 0 := by omega
  simp

/-- make of no element, with room for n of one cell. -/
theorem wpList_make0 (hgd : o.guard = none) (t e : TypeId) (x y : Operand) (ho : o.op = .makeSlice t x y) (n : Nat) (hx : a.eval x = .int .i64 0) (hy : a.eval y = .int .i64 n) (z : Value) (bs : Nat) (hzc : z.oneCell' = true)
    (hu : P.underlying t = some (.slice e)) (hz : (P.info? e).map (fun i => (i.size, i.zero, i.bytes)) = some (1, some z, bs)) (hbs : bs ≤ 1000) (hn : n ≤ 1048576) (hM : Mem w L W)
    (h : ∀ b W', w.B ≤ b → Mem w ((b, n * 1, fun _ => z) :: L) W' → wpList P ops Q rest (a.put o.dst (.slice (some ⟨b, 0, none⟩) 0 n)) W') : wpList P ops Q (o :: rest) a W := by
  obtain ⟨ie, hie, hq⟩ := Option.map_eq_some_iff.1 hz
  simp only [Prod.mk.injEq] at hq
  obtain ⟨q1, q2, q3⟩ := hq
  refine wpList_plain hgd fun K hK => ?_
  have hb : (ie.bytes : Int) * (n : Int) ≤ 281474976710656 := by
    rw [q3]
    have : bs * n ≤ 1000 * 1048576 := Nat.mul_le_mul hbs hn
    have h2 : ((bs * n : Nat) : Int) ≤ 1000 * 1048576 := by omega
    rw [Int.natCast_mul] at h2
    omega
  have hr := run_make (P := P) W t e ie z hu hie q2 .i64 .i64 0 n (by omega) (by omega) hb (by omega)
  have hc : madeCells z.cells (n * 1) = arr (n * 1) (fun _ => z) := by
    refine arr_ext (by simp [madeCells]) (fun k hk => ?_)
    have hk' : k < n := by omega
    rw [cells_one hzc]
    simp [madeCells, hk', Nat.mod_one]
  simp only [Int.toNat_natCast, q1, hc] at hr
  unfold Oper.wp execOp
  simp only [ho, hx, hy, Sem.run_bind, Sem.run_pure, hr, Result.andThen_ok]
  exact hK _ _ (h _ _ hM.size (hM.alloc e (n * 1) _))
end Go.Proofs.YtcdpdcjdjcbhcaaDoor

/-
  PLAIN LAW: a region that draws its order, whose first m operations only read or make quiet calls (whatever world of a class they get), and whose others follow one another.
-/
namespace Go.Proofs.YtcdpdcjdjcbhcaaDoor
open Go
variable {P : Program} {ops : Array Oper} {C : World → Prop}

/-- From here on f operations of the head come up, in whatever order; then T. -/
def headQ (P : Program) (ops : Array Oper) (C : World → Prop) (n : Nat) (T : Array Bool → Act → Prop) : Nat → Array Bool → Act → Prop
  | 0, s, a => T s a
  | f + 1, s, a => Region.ready .any ops s ≠ [] ∧ ∀ i ∈ Region.ready .any ops s, i < n ∧ qOp P ops C i (headQ P ops C n T f (s.setIfInBounds i true)) a

theorem any_of_headQ {n g : Nat} {T : Array Bool → Act → Prop} {Q : Exit → Act → World → Prop} (hT : ∀ s a w, C w → T s a → wpAny P .any ops Q g s a w) (f : Nat) :
    ∀ s a w, C w → headQ P ops C n T f s a → wpAny P .any ops Q (f + g) s a w := by
  induction f with
  | zero => intro s a w hw h; rw [Nat.zero_add]; exact hT s a w hw h
  | succ f ih =>
    intro s a w hw h
    rw [Nat.succ_add]
    exact ⟨fun e => absurd e h.1, fun i hi => wpOp_of_qOp hw (fun a' w' hw' h' => ih _ a' w' hw' h') (h.2 i hi).2⟩

/-- What comes up ahead of an open head operation is of the head. -/
theorem below_of_open {n i j : Nat} {s : Array Bool} (hs : Region.sinkB .any ops n = true) (hc : Region.chainB .any ops n = true) (hn : n < ops.size) (inv : HeadInv .any ops n s) (hin : i < n)
    (hi : i ∈ Region.ready .any ops s) (hj : j ∈ Region.ready .any ops s) : j < n := by
  by_cases h : j < n
  · exact h
  · exact absurd hj (tail_waits hs hc hn inv _ i rfl hin (mem_ready.1 hi).1 j (by omega))

theorem headQ_first {n i : Nat} {oi : Oper} {v : Value} {T : Array Bool → Act → Prop} (hoi : ops[i]? = some oi) (hsel : ∀ (j : Nat) (o : Oper) cs b, ops[j]? = some o → o.op ≠ .select cs b)
    (hs : Region.sinkB .any ops n = true) (hc : Region.chainB .any ops n = true) (hn : n < ops.size) (hin : i < n) (hT : ∀ s a, T s a → ∀ j ∈ Region.ready .any ops s, n ≤ j) (f : Nat) :
    ∀ s a, HeadInv .any ops n s →
      (∀ j oj, ops[j]? = some oj → j ≠ i → s.getD j true = false → (∀ e ∈ oj.after, Region.binds .any e = true → e.on ≠ i) → oi.apart ops oj = true) →
      i ∈ Region.ready .any ops s → YieldsIn P ops C oi v a → headQ P ops C n T f (s.setIfInBounds i true) (a.put oi.dst v) → headQ P ops C n T (f + 1) s a := by
  induction f with
  | zero =>
    intro s a inv _ hr hy H
    refine ⟨List.ne_nil_of_mem hr, fun j hj => ⟨below_of_open hs hc hn inv hin hr hj, ?_⟩⟩
    by_cases e : j = i
    · subst e; exact hy.qOp hoi H
    · exact absurd (hT _ _ H j (ready_mono hj e)) (by have := below_of_open hs hc hn inv hin hr hj; omega)
  | succ f ih =>
    intro s a inv hfree hr hy H
    refine ⟨List.ne_nil_of_mem hr, fun j hj => ?_⟩
    have hjn := below_of_open hs hc hn inv hin hr hj
    refine ⟨hjn, ?_⟩
    by_cases e : j = i
    · subst e; exact hy.qOp hoi H
    obtain ⟨hju, oj, hoj, hdone⟩ := mem_ready.1 hj
    have hfj := hfree j oj hoj e hju fun d hd hb he => by
      have h1 := hdone d hd hb
      rw [he, getD_both (mem_ready.1 hr).1] at h1
      cases h1
    have step := qOp_put hoj hfj (fun cs b => hsel i oi cs b hoi) (fun cs b => hsel j oj cs b hoj) hy (H.2 j (ready_mono hj e)).2
    refine qOp_mono (fun a' h' => ih _ a' (inv.set hj hjn) (fun k ok hk hki hku hno => hfree k ok hk hki ?_ hno) (ready_mono hr (Ne.symm e)) h'.1 ?_) step
    · by_cases ejk : j = k
      · subst ejk; exact hju
      · rwa [getD_set_ne true ejk] at hku
    · rw [Array.setIfInBounds_comm _ _ e]; exact h'.2

theorem headQ_lex {n g : Nat} {R : Act → Prop} (hsel : Region.noSelect ops = true) (hs : Region.sinkB .any ops n = true) (hc : Region.chainB .any ops n = true) (hn : n < ops.size) (l : List Oper) :
    ∀ (k : Nat) (s : Array Bool) (a : Act), (∀ j, j < l.length → l[j]? = ops[k + j]?) → k + l.length = n → HeadInv .any ops n s → Region.lexHead .any ops g l.length k s = true →
      wpQuiet P ops C R l a → headQ P ops C n (fun s' a' => Region.seqB .any ops g n s' = true ∧ R a') l.length s a := by
  induction l with
  | nil =>
    intro k s a _ hk _ hB h
    obtain rfl : k = n := by simpa using hk
    exact ⟨by simpa [Region.lexHead] using hB, h⟩
  | cons o l ih =>
    intro k s a hl hk inv hB h
    have h0 : ops[k]? = some o := by simpa using (hl 0 (by simp)).symm
    simp only [List.length_cons, Region.lexHead, Bool.and_eq_true] at hB hk
    have hr : k ∈ Region.ready .any ops s := by simpa using hB.1.1
    have hq : qOp P ops C k (wpQuiet P ops C R l) a := by unfold qOp; simp only [h0]; exact h
    obtain ⟨v, hy, hK⟩ := yieldsIn_of_qOp h0 hq
    refine headQ_first h0 (Region.noSelect_spec hsel) hs hc hn (by omega) (fun s' a' h' => seqB_ready h'.1) l.length s a inv (Region.free_spec h0 hB.1.2) hr hy ?_
    refine ih (k + 1) _ _ (fun j hj => ?_) (by omega) (inv.set hr (by omega)) hB.2 hK
    have := hl (j + 1) (by simp; omega)
    simpa [Nat.add_assoc, Nat.add_comm 1 j] using this

theorem any_head {Q : Exit → Act → World → Prop} {a : Act} {w : World} {l : List Oper} (n : Nat) (hB : Region.lexTailB .any l.toArray n = true) (hC : C w)
    (h : wpQuiet P l.toArray C (fun a' => ∀ w', C w' → wpList P l.toArray Q (l.drop n) a' w') (l.take n) a) : wpAny P .any l.toArray Q l.toArray.size (Array.replicate l.toArray.size false) a w := by
  simp only [Region.lexTailB, Bool.and_eq_true, decide_eq_true_eq] at hB
  obtain ⟨⟨⟨⟨b1, b2⟩, b3⟩, b4⟩, b5⟩ := hB
  have e0 : l.toArray.size = l.length := by simp
  have e1 : (l.take n).length = n := by rw [List.length_take]; omega
  have e2 : (l.drop n).length = l.toArray.size - n := by rw [List.length_drop, e0]
  have inv : HeadInv .any l.toArray n (Array.replicate l.toArray.size false) :=
    { size := by simp
      closed := fun j oj _ hl => by rw [getD_replicate_false] at hl; cases hl
      tail := fun t _ ht => getD_in (by simpa using ht) (getD_replicate_false _ _) }
  have H := headQ_lex (P := P) (C := C) (g := l.toArray.size - n) b1 b3 b4 b2 (l.take n) 0 _ a (fun j hj => by rw [e1] at hj; simp [hj]) (by rw [e1]; omega) inv (by rw [e1]; exact b5) h
  have := any_of_headQ (Q := Q) (g := l.toArray.size - n) (fun s a' w' hw' ht => by
    have := wpAny_of_seq (P := P) (md := .any) (Q' := Q) (l.drop n) n s a' w' (fun j => by simp [List.getElem?_drop]) (by rw [e2]; exact ht.1) (ht.2 w' hw')
    rwa [e2] at this) _ _ _ w hC H
  rwa [e1, show n + (l.toArray.size - n) = l.toArray.size by omega] at this

/-- The region, over the memory of a call. -/
theorem region_head_mem {Q : Exit → Act → World → Prop} {a : Act} {w : Base} {W : World} {L : Blocks} {id : Nat} {l : List Oper} (m : Nat) (hm : P.follows .mixedOrders = true) (hB : Region.lexTailB .any l.toArray m = true) (hM : Mem w L W)
    (h : wpQuiet P l.toArray (Mem w L) (fun a' => ∀ W', Mem w L W' → wpList P l.toArray Q (l.drop m) a' W') (l.take m) a) : (Code.region id l.toArray true).wp P Q a W :=
  wp_region_any hm (any_head (C := Mem w L) m hB hM.drew h)
end Go.Proofs.YtcdpdcjdjcbhcaaDoor

/-
  PLAIN LAW: a region that draws its order: its first m operations read or make quiet calls; then comes one call of any kind; the others are quiet again, over another class of worlds.
-/
namespace Go.Proofs.YtcdpdcjdjcbhcaaDoor
open Go
variable {P : Program} {ops : Array Oper} {C : World → Prop}

def tailsB (ops : Array Oper) (n : Nat) : Bool := (List.range ops.size).all fun t => decide (t ≤ n) || (List.range ops.size).any fun u => decide (n ≤ u) && Region.waitsFor .any ops t u

/-- While one of the first n is open, number n waits. -/
theorem waits_n {n : Nat} {s : Array Bool} (hs : Region.sinkB .any ops n = true) (hn : n < ops.size) (inv : HeadInv .any ops n s) (i : Nat) (hi : i < n) (ho : s.getD i true = false) (hr : n ∈ Region.ready .any ops s) : False := by
  obtain ⟨j, hj, hw⟩ := List.any_eq_true.1 (List.all_eq_true.1 hs i (List.mem_range.2 hi))
  rw [Bool.and_eq_true] at hw
  have hij : i < j := of_decide_eq_true hw.1
  have hjn : j < n + 1 := List.mem_range.1 hj
  obtain ⟨o, hoj, d, hd, hb, hon⟩ := Region.waitsFor_spec hw.2
  have no : s.getD d.on false = true → False := fun h => by
    rw [hon, getD_both ho] at h
    cases h
  rcases Nat.lt_or_ge j n with h | h
  · refine waits_n hs hn inv j h ?_ hr
    cases hl : s.getD j false with
    | true => exact (no (inv.closed j o hoj hl d hd hb)).elim
    | false => exact getD_in (by rw [inv.size]; omega) hl
  · obtain rfl : j = n := by omega
    obtain ⟨-, o', ho', ha⟩ := mem_ready.1 hr
    rw [hoj] at ho'
    cases ho'
    exact no (ha d hd hb)
termination_by n - i
/-- What lies behind number n waits for it or for what lies behind it. -/
theorem waits_tail {n : Nat} {s : Array Bool} (hc : tailsB ops n = true) (inv : HeadInv .any ops n s) {t : Nat} (ht : n < t) (hr : t ∈ Region.ready .any ops s) : False := by
  obtain ⟨-, o, ho, ha⟩ := mem_ready.1 hr
  have h1 := List.all_eq_true.1 hc t (List.mem_range.2 (Array.getElem?_eq_some_iff.1 ho).1)
  rw [Bool.or_eq_true] at h1
  rcases h1 with h1 | h1
  · have := of_decide_eq_true h1
    omega
  · obtain ⟨u, hu, h2⟩ := List.any_eq_true.1 h1
    rw [Bool.and_eq_true] at h2
    obtain ⟨o', ho', d, hd, hb, hon⟩ := Region.waitsFor_spec h2.2
    rw [ho] at ho'
    cases ho'
    have h3 := ha d hd hb
    rw [hon, getD_both (inv.tail u (of_decide_eq_true h2.1) (List.mem_range.1 hu))] at h3
    cases h3

theorem below_of_openT {n i j : Nat} {s : Array Bool} (hs : Region.sinkB .any ops n = true) (hc : tailsB ops n = true) (hn : n < ops.size) (inv : HeadInv .any ops n s) (hin : i < n)
    (hi : i ∈ Region.ready .any ops s) (hj : j ∈ Region.ready .any ops s) : j < n := by
  rcases Nat.lt_trichotomy j n with h | rfl | h
  · exact h
  · exact (waits_n hs hn inv i hin (mem_ready.1 hi).1 hj).elim
  · exact (waits_tail hc inv h hj).elim

theorem headQ_firstT {n i : Nat} {oi : Oper} {v : Value} {T : Array Bool → Act → Prop} (hoi : ops[i]? = some oi) (hsel : ∀ (j : Nat) (o : Oper) cs b, ops[j]? = some o → o.op ≠ .select cs b)
    (hs : Region.sinkB .any ops n = true) (hc : tailsB ops n = true) (hn : n < ops.size) (hin : i < n) (hT : ∀ s a, T s a → ∀ j ∈ Region.ready .any ops s, n ≤ j) (f : Nat) :
    ∀ s a, HeadInv .any ops n s →
      (∀ j oj, ops[j]? = some oj → j ≠ i → s.getD j true = false → (∀ e ∈ oj.after, Region.binds .any e = true → e.on ≠ i) → oi.apart ops oj = true) →
      i ∈ Region.ready .any ops s → YieldsIn P ops C oi v a → headQ P ops C n T f (s.setIfInBounds i true) (a.put oi.dst v) → headQ P ops C n T (f + 1) s a := by
  induction f with
  | zero =>
    intro s a inv _ hr hy H
    refine ⟨List.ne_nil_of_mem hr, fun j hj => ⟨below_of_openT hs hc hn inv hin hr hj, ?_⟩⟩
    by_cases e : j = i
    · subst e; exact hy.qOp hoi H
    · exact absurd (hT _ _ H j (ready_mono hj e)) (by have := below_of_openT hs hc hn inv hin hr hj; omega)
  | succ f ih =>
    intro s a inv hfree hr hy H
    refine ⟨List.ne_nil_of_mem hr, fun j hj => ?_⟩
    have hjn := below_of_openT hs hc hn inv hin hr hj
    refine ⟨hjn, ?_⟩
    by_cases e : j = i
    · subst e; exact hy.qOp hoi H
    obtain ⟨hju, oj, hoj, hdone⟩ := mem_ready.1 hj
    have hfj := hfree j oj hoj e hju fun d hd hb he => by
      have h1 := hdone d hd hb
      rw [he, getD_both (mem_ready.1 hr).1] at h1
      cases h1
    have step := qOp_put hoj hfj (fun cs b => hsel i oi cs b hoi) (fun cs b => hsel j oj cs b hoj) hy (H.2 j (ready_mono hj e)).2
    refine qOp_mono (fun a' h' => ih _ a' (inv.set hj hjn) (fun k ok hk hki hku hno => hfree k ok hk hki ?_ hno) (ready_mono hr (Ne.symm e)) h'.1 ?_) step
    · by_cases ejk : j = k
      · subst ejk; exact hju
      · rwa [getD_set_ne true ejk] at hku
    · rw [Array.setIfInBounds_comm _ _ e]; exact h'.2

/-- The same with all that is left as the head. -/
theorem headQ_firstA {i : Nat} {oi : Oper} {v : Value} {T : Array Bool → Act → Prop} (hoi : ops[i]? = some oi) (hsel : ∀ (j : Nat) (o : Oper) cs b, ops[j]? = some o → o.op ≠ .select cs b)
    (hT : ∀ s a, T s a → Region.ready .any ops s = []) (f : Nat) :
    ∀ s a, (∀ j oj, ops[j]? = some oj → j ≠ i → s.getD j true = false → (∀ e ∈ oj.after, Region.binds .any e = true → e.on ≠ i) → oi.apart ops oj = true) →
      i ∈ Region.ready .any ops s → YieldsIn P ops C oi v a → headQ P ops C ops.size T f (s.setIfInBounds i true) (a.put oi.dst v) → headQ P ops C ops.size T (f + 1) s a := by
  have lt : ∀ {j : Nat} {s : Array Bool}, j ∈ Region.ready .any ops s → j < ops.size := fun h => by
    obtain ⟨-, o, ho, -⟩ := mem_ready.1 h
    exact (Array.getElem?_eq_some_iff.1 ho).1
  induction f with
  | zero =>
    intro s a _ hr hy H
    refine ⟨List.ne_nil_of_mem hr, fun j hj => ⟨lt hj, ?_⟩⟩
    by_cases e : j = i
    · subst e; exact hy.qOp hoi H
    · have := ready_mono hj e
      rw [hT _ _ H] at this
      cases this
  | succ f ih =>
    intro s a hfree hr hy H
    refine ⟨List.ne_nil_of_mem hr, fun j hj => ⟨lt hj, ?_⟩⟩
    by_cases e : j = i
    · subst e; exact hy.qOp hoi H
    obtain ⟨hju, oj, hoj, hdone⟩ := mem_ready.1 hj
    have hfj := hfree j oj hoj e hju fun d hd hb he => by
      have h1 := hdone d hd hb
      rw [he, getD_both (mem_ready.1 hr).1] at h1
      cases h1
    have step := qOp_put hoj hfj (fun cs b => hsel i oi cs b hoi) (fun cs b => hsel j oj cs b hoj) hy (H.2 j (ready_mono hj e)).2
    refine qOp_mono (fun a' h' => ih _ a' (fun k ok hk hki hku hno => hfree k ok hk hki ?_ hno) (ready_mono hr (Ne.symm e)) h'.1 ?_) step
    · by_cases ejk : j = k
      · subst ejk; exact hju
      · rwa [getD_set_ne true ejk] at hku
    · rw [Array.setIfInBounds_comm _ _ e]; exact h'.2

def lexHeadS (ops : Array Oper) (s0 : Array Bool) : Nat → Nat → Array Bool → Bool
  | 0, _, s => decide (s = s0)
  | f + 1, k, s => (Region.ready .any ops s).contains k && Region.free .any ops s k && lexHeadS ops s0 f (k + 1) (s.setIfInBounds k true)

theorem headQ_lexS {n : Nat} {s0 : Array Bool} {R : Act → Prop} (hsel : Region.noSelect ops = true) (hs : Region.sinkB .any ops n = true) (hc : tailsB ops n = true) (hn : n < ops.size) (h0 : Region.ready .any ops s0 = [n]) (l : List Oper) :
    ∀ (k : Nat) (s : Array Bool) (a : Act), (∀ j, j < l.length → l[j]? = ops[k + j]?) → k + l.length = n → HeadInv .any ops n s → lexHeadS ops s0 l.length k s = true →
      wpQuiet P ops C R l a → headQ P ops C n (fun s' a' => s' = s0 ∧ R a') l.length s a := by
  induction l with
  | nil =>
    intro k s a _ hk _ hB h
    exact ⟨by simpa [lexHeadS] using hB, h⟩
  | cons o l ih =>
    intro k s a hl hk inv hB h
    have h1 : ops[k]? = some o := by simpa using (hl 0 (by simp)).symm
    simp only [List.length_cons, lexHeadS, Bool.and_eq_true] at hB hk
    have hr : k ∈ Region.ready .any ops s := by simpa using hB.1.1
    have hq : qOp P ops C k (wpQuiet P ops C R l) a := by unfold qOp; simp only [h1]; exact h
    obtain ⟨v, hy, hK⟩ := yieldsIn_of_qOp h1 hq
    refine headQ_firstT h1 (Region.noSelect_spec hsel) hs hc hn (by omega) (fun s' a' h' j hj => by rw [h'.1, h0] at hj; simp at hj; omega) l.length s a inv (Region.free_spec h1 hB.1.2) hr hy ?_
    refine ih (k + 1) _ _ (fun j hj => ?_) (by omega) (inv.set hr (by omega)) hB.2 hK
    have := hl (j + 1) (by simp; omega)
    simpa [Nat.add_assoc, Nat.add_comm 1 j] using this

theorem headQ_lexA {R : Act → Prop} (hsel : Region.noSelect ops = true) (l : List Oper) :
    ∀ (k : Nat) (s : Array Bool) (a : Act), (∀ j, j < l.length → l[j]? = ops[k + j]?) → Region.lexHead .any ops 0 l.length k s = true →
      wpQuiet P ops C R l a → headQ P ops C ops.size (fun s' a' => Region.ready .any ops s' = [] ∧ R a') l.length s a := by
  induction l with
  | nil =>
    intro k s a _ hB h
    exact ⟨by simpa [Region.lexHead, Region.seqB] using hB, h⟩
  | cons o l ih =>
    intro k s a hl hB h
    have h1 : ops[k]? = some o := by simpa using (hl 0 (by simp)).symm
    simp only [List.length_cons, Region.lexHead, Bool.and_eq_true] at hB
    have hr : k ∈ Region.ready .any ops s := by simpa using hB.1.1
    have hq : qOp P ops C k (wpQuiet P ops C R l) a := by unfold qOp; simp only [h1]; exact h
    obtain ⟨v, hy, hK⟩ := yieldsIn_of_qOp h1 hq
    refine headQ_firstA h1 (Region.noSelect_spec hsel) (fun s' a' h' => h'.1) l.length s a (Region.free_spec h1 hB.1.2) hr hy ?_
    refine ih (k + 1) _ _ (fun j hj => ?_) hB.2 hK
    have := hl (j + 1) (by simp; omega)
    simpa [Nat.add_assoc, Nat.add_comm 1 j] using this

/-- The first n are listed. -/
def heads (m n : Nat) : Array Bool := (List.range n).foldl (fun s i => s.setIfInBounds i true) (Array.replicate m false)
def callB (ops : Array Oper) (n : Nat) : Bool :=
  Region.noSelect ops && decide (n < ops.size) && Region.sinkB .any ops n && tailsB ops n && lexHeadS ops (heads ops.size n) n 0 (Array.replicate ops.size false) && decide (Region.ready .any ops (heads ops.size n) = [n]) &&
    Region.lexHead .any ops 0 (ops.size - (n + 1)) (n + 1) ((heads ops.size n).setIfInBounds n true)

/-- What is left behind the call: quiet over a class of worlds. -/
def ThenQuiet (P : Program) (ops : Array Oper) (Q : Exit → Act → World → Prop) (rest : List Oper) (a : Act) (w : World) : Prop := ∃ C2 : World → Prop, C2 w ∧ wpQuiet P ops C2 (fun a3 => ∀ w3, C2 w3 → Q .normal a3 w3) rest a

theorem any_call {Q : Exit → Act → World → Prop} {a : Act} {w : World} {l : List Oper} (n : Nat) {on : Oper} (hon : l[n]? = some on) (hgd : on.guard = none) (hB : callB l.toArray n = true) (hC : C w)
    (h : wpQuiet P l.toArray C (fun a' => ∀ w', C w' → on.wp P a' w' (ThenQuiet P l.toArray Q (l.drop (n + 1))) Q) (l.take n) a) : wpAny P .any l.toArray Q l.toArray.size (Array.replicate l.toArray.size false) a w := by
  simp only [callB, Bool.and_eq_true, decide_eq_true_eq] at hB
  obtain ⟨⟨⟨⟨⟨⟨b1, b2⟩, b3⟩, b4⟩, b5⟩, b6⟩, b7⟩ := hB
  have e0 : l.toArray.size = l.length := by simp
  have e1 : (l.take n).length = n := by rw [List.length_take]; omega
  have e2 : (l.drop (n + 1)).length = l.toArray.size - (n + 1) := by rw [List.length_drop, e0]
  have inv : HeadInv .any l.toArray n (Array.replicate l.toArray.size false) :=
    { size := by simp
      closed := fun j oj _ hl => by rw [getD_replicate_false] at hl; cases hl
      tail := fun t _ ht => getD_in (by simpa using ht) (getD_replicate_false _ _) }
  have H := headQ_lexS (P := P) (C := C) (s0 := heads l.toArray.size n) b1 b3 b4 b2 b6 (l.take n) 0 _ a (fun j hj => by rw [e1] at hj; simp [hj]) (by rw [e1]; omega) inv (by rw [e1]; exact b5) h
  have K := any_of_headQ (Q := Q) (g := (l.drop (n + 1)).length + 1) (fun s a' w' hw' ht => by
    obtain ⟨rfl, hq⟩ := ht
    refine ⟨fun h0 => (by rw [b6] at h0; cases h0), fun i hi => ?_⟩
    rw [b6] at hi
    obtain rfl : i = n := by simpa using hi
    unfold wpOp
    have ho : l.toArray[i]? = some on := by simpa using hon
    rw [ho]
    have hw : Region.wanted on (yielded l.toArray a'.tmps) = true := by simp [Region.wanted, hgd]
    simp only [hw, if_true]
    refine .inl (Oper.wp_mono (fun a2 w2 hh => ?_) (hq w' hw'))
    obtain ⟨C2, hc2, h2⟩ := hh
    have H2 := headQ_lexA (P := P) (C := C2) b1 (l.drop (i + 1)) (i + 1) _ a2 (fun j _ => by simp [List.getElem?_drop]) (by rw [e2]; exact b7) h2
    have := any_of_headQ (Q := Q) (g := 0) (fun s3 a3 w3 hw3 ht3 => ⟨ht3.1, ht3.2 w3 hw3⟩) _ _ _ w2 hc2 H2
    simpa using this) _ _ _ w hC H
  rwa [e1, e2, show n + (l.toArray.size - (n + 1) + 1) = l.toArray.size by omega] at K

/-- The region, over the memory of a call. -/
theorem region_call_mem {Q : Exit → Act → World → Prop} {a : Act} {w : Base} {W : World} {L : Blocks} {id : Nat} {l : List Oper} (m : Nat) {on : Oper} (hon : l[m]? = some on) (hgd : on.guard = none) (hm : P.follows .mixedOrders = true) (hB : callB l.toArray m = true) (hM : Mem w L W)
    (h : wpQuiet P l.toArray (Mem w L) (fun a' => ∀ W', Mem w L W' → on.wp P a' W' (ThenQuiet P l.toArray Q (l.drop (m + 1))) Q) (l.take m) a) : (Code.region id l.toArray true).wp P Q a W :=
  wp_region_any hm (any_call (C := Mem w L) m hon hgd hB hM.drew h)
end Go.Proofs.YtcdpdcjdjcbhcaaDoor

/-
  Sets of goats: (impl.goatSet).has, joined, first, list, count and impl.alone by contracts.
-/
namespace Go.Proofs.YtcdpdcjdjcbhcaaDoor
open Go Go.RowKit Go.BigFrame

theorem u16_two (k : Nat) (hk : k < 16) : 2 ^ k < 65536 := Nat.pow_lt_pow_right (by decide) hk
theorem and_u16 {a b : Nat} (ha : a < 65536) (hb : b < 65536) : bits .and .u16 (a : Int) (b : Int) = ((a &&& b : Nat) : Int) :=
  (bits_nat .u16 16 (by decide) (fun n h0 h1 => IntWalk.u16_in n (by omega)) a b ha hb).1
theorem or_u16 {a b : Nat} (ha : a < 65536) (hb : b < 65536) : bits .or .u16 (a : Int) (b : Int) = ((a ||| b : Nat) : Int) :=
  (bits_nat .u16 16 (by decide) (fun n h0 h1 => IntWalk.u16_in n (by omega)) a b ha hb).2
/-- A set without another one. -/
def minus (a b : Nat) : Nat := a &&& (65535 ^^^ b)
theorem minus_lt {a b : Nat} (ha : a < 65536) : minus a b < 65536 := Nat.lt_of_le_of_lt Nat.and_le_left ha
theorem minus_bit {a b : Nat} (ha : a < 65536) (j : Nat) : (minus a b).testBit j = (a.testBit j && !b.testBit j) := by
  unfold minus
  rw [Nat.testBit_and, Nat.testBit_xor, show (65535 : Nat) = 2 ^ 16 - 1 by rfl, Nat.testBit_two_pow_sub_one]
  by_cases hj : a.testBit j = true
  · have := bit_lt (n := 16) ha hj
    simp [this]
  · simp at hj; simp [hj]
theorem not_u16 {b : Nat} (hb : b < 65536) : (~~~ (BitVec.ofInt IntKind.u16.bits (b : Int))).toNat = 65535 ^^^ b := by
  have e : (BitVec.ofInt IntKind.u16.bits (b : Int)).toNat = b := by
    rw [BitVec.ofInt_natCast, BitVec.toNat_ofNat]; exact Nat.mod_eq_of_lt hb
  apply Nat.eq_of_testBit_eq
  intro i
  rw [BitVec.toNat_not, e, Nat.testBit_xor, show (65535 : Nat) = 2 ^ 16 - 1 by rfl, Nat.testBit_two_pow_sub_one]
  rw [show 2 ^ IntKind.u16.bits - 1 - b = 2 ^ 16 - (b + 1) by show 2 ^ 16 - 1 - b = _; omega, Nat.testBit_two_pow_sub_succ hb]
  by_cases h : i < 16
  · simp [h]
  · have : b.testBit i = false := Nat.testBit_lt_two_pow (Nat.lt_of_lt_of_le hb (Nat.pow_le_pow_right (by decide) (by omega) : 2 ^ 16 ≤ 2 ^ i))
    simp [h, this]
theorem minus_u16 {a b : Nat} (ha : a < 65536) (hb : b < 65536) : bits .andNot .u16 (a : Int) (b : Int) = ((minus a b : Nat) : Int) := by
  have e : (BitVec.ofInt IntKind.u16.bits (a : Int)).toNat = a := by
    rw [BitVec.ofInt_natCast, BitVec.toNat_ofNat]; exact Nat.mod_eq_of_lt ha
  show IntKind.u16.wrap ((BitVec.ofInt IntKind.u16.bits (a : Int) &&& ~~~ BitVec.ofInt IntKind.u16.bits (b : Int)).toNat : Int) = _
  rw [BitVec.toNat_and, e, not_u16 hb]
  exact IntWalk.u16_in _ (by have := minus_lt (b := b) ha; unfold minus at this; omega)

set_option maxHeartbeats 400000 in
theorem alone_any (k : Nat) (hk : k < 16) (s : Nat) (hs : 2 ^ k = s) (w : World) :
    Calls Tryd.prog 133 #[.int .i64 k] w fun e w' => e = .returned (.int .u16 s) ∧ Below w.heap.size w w' := by
  have h0 : (0 : Int) ≤ k := by omega
  have h1 : (k : Int) ≤ 16 := by omega
  have h2 := u16_two k hk
  have e : IntKind.u16.wrap (2 ^ k) = (s : Int) := by
    rw [← hs, ← IntWalk.u16_in ((2 ^ k : Nat) : Int) ⟨Int.natCast_nonneg _, by omega⟩]; simp
  clear hs
  go_enter Tryd.func133, Tryd.ntmps133
  go_wp2
  go_ret
  exact ⟨rfl, Below.refl _ _⟩
set_option maxHeartbeats 400000 in
theorem joined_any (a b : Nat) (ha : a < 65536) (hb : b < 65536) (s : Nat) (hs : a ||| b = s) (w : World) :
    Calls Tryd.prog 134 #[.int .u16 a, .int .u16 b] w fun e w' => e = .returned (.int .u16 s) ∧ Below w.heap.size w w' := by
  have e := or_u16 ha hb
  rw [hs] at e
  clear hs
  go_enter Tryd.func134, Tryd.ntmps134
  go_wp2
  go_ret
  exact ⟨rfl, Below.refl _ _⟩
theorem and_two {a k : Nat} : a &&& 2 ^ k = if a.testBit k then 2 ^ k else 0 := by
  apply Nat.eq_of_testBit_eq
  intro i
  rw [Nat.testBit_and, Nat.testBit_two_pow]
  by_cases h : a.testBit k = true
  · rw [if_pos h, Nat.testBit_two_pow]
    by_cases e : k = i
    · subst e; simp [h]
    · simp [e]
  · rw [if_neg h]
    by_cases e : k = i
    · subst e; simpa using h
    · simp [e]
set_option maxHeartbeats 400000 in
theorem has_any (a : Nat) (ha : a < 65536) (k : Nat) (hk : k < 16) (w : World) :
    Calls Tryd.prog 148 #[.int .u16 a, .int .i64 k] w fun e w' => e = .returned (.bool (a.testBit k)) ∧ Below w.heap.size w w' := by
  obtain ⟨s, hs⟩ : ∃ s, 2 ^ k = s := ⟨_, rfl⟩
  have hs2 := u16_two k hk
  have hpos : 0 < 2 ^ k := Nat.two_pow_pos k
  have e := and_u16 ha (by rw [← hs]; exact hs2 : s < 65536)
  have ht := and_two (a := a) (k := k)
  rw [hs] at ht hpos
  have hM := Mem.nil w
  cases hb : a.testBit k
  · rw [hb, if_neg (by decide)] at ht
    rw [ht] at e
    clear ht hb
    go_enter Tryd.func148, Tryd.ntmps148
    go_wp2_with (first | (go_at_call 133; refine (alone_any k hk s hs _).mono ?_; rintro e W' ⟨rfl, hb'⟩; have hM' := hM.call hb'; clear hM hb'; have hM := hM'; clear hM'))
    go_ret
    exact ⟨rfl, hM.below⟩
  · rw [hb, if_pos rfl] at ht
    rw [ht] at e
    have hz : ((s : Int) == 0) = false := by simpa using (by omega : ¬ s = 0)
    have hz2 : ((s : Int) != 0) = true := by simpa using (by omega : ¬ s = 0)
    clear ht hb
    go_enter Tryd.func148, Tryd.ntmps148
    go_wp2_with (first | (go_at_call 133; refine (alone_any k hk s hs _).mono ?_; rintro e W' ⟨rfl, hb'⟩; have hM' := hM.call hb'; clear hM hb'; have hM := hM'; clear hM'))
    go_ret
    exact ⟨rfl, hM.below⟩

/-! ### The least goat of a set -/
/-- The table by which it is found. -/
def Tab (W : World) : Prop := ∀ j, j < 32 → W.cell? ⟨5, j, none⟩ = some (.int .u8 (Lib.deBruijn32tab.getD j 0))
theorem Tab.below {W W' : World} (h : Tab W) (hb : Below W.heap.size W W') : Tab W' := fun j hj => by
  rw [hb.cell (p := ⟨5, j, none⟩) (block_lt_of_cell (h j hj))]; exact h j hj
theorem tz_key (s : Nat) (h : s < 65536) (h0 : s ≠ 0) : ∃ a idx : Nat, idx < 32 ∧ tz s < 16 ∧ bits .and .u16 (s : Int) (IntKind.u16.wrap (-(s : Int))) = (a : Int) ∧ a < 65536 ∧ (a : Int) * 125613361 % 4294967296 / 134217728 = (idx : Int) ∧ Lib.deBruijn32tab.getD idx 0 = tz s := by
  obtain ⟨hlow, hk⟩ := Lib.lowest_bit 16 s h0 (by omega)
  obtain ⟨hi, htab⟩ := Lib.deBruijn32_at (Lib.ctz 16 s) (by omega)
  have e1 : IntKind.u16.wrap (-(s : Int)) = ((65536 - s : Nat) : Int) := by simp [IntKind.wrap, IntKind.signed, IntKind.bits]; omega
  refine ⟨2 ^ Lib.ctz 16 s, 2 ^ Lib.ctz 16 s * 125613361 % 4294967296 / 134217728, hi, hk, ?_, u16_two _ hk, ?_, htab⟩
  · rw [e1, and_u16 h (by omega)]; exact congrArg _ hlow
  · generalize 2 ^ Lib.ctz 16 s = q
    omega
set_option maxRecDepth 100000 in
set_option maxHeartbeats 400000 in
theorem tz_any (s : Nat) (h : s < 65536) (h0 : s ≠ 0) (t : Nat) (ht : tz s = t) (w : World) (hT : Tab w) :
    Calls Tryd.prog 150 #[.int .u16 s] w fun e w' => e = .returned (.int .i64 t) ∧ Below w.heap.size w w' := by
  obtain ⟨a, idx, hi, hk, e1, e2, e3, e4⟩ := tz_key s h h0
  have hz : ((s : Int) == 0) = false := by simpa using h0
  have hc := hT idx hi
  rw [e4, ht] at hc
  rw [ht] at hk
  have c2 : IntKind.u32.wrap (a : Int) = a := IntWalk.u32_in _ (by omega)
  have c3 : IntKind.i64.wrap (t : Int) = t := IntWalk.i64_in _ (by omega)
  have hi1 : (0 : Int) ≤ idx := by omega
  have hi2 : (idx : Int) < 32 := by omega
  clear hT e4 ht h0
  go_enter Tryd.func150, Tryd.ntmps150
  go_wp2
  go_ret
  exact ⟨rfl, Below.refl _ _⟩
set_option maxHeartbeats 400000 in
theorem first_any (s : Nat) (h : s < 65536) (h0 : s ≠ 0) (t : Nat) (ht : tz s = t) (w : World) (hT : Tab w) :
    Calls Tryd.prog 135 #[.int .u16 s] w fun e w' => e = .returned (.int .i64 t) ∧ Below w.heap.size w w' := by
  have hM := Mem.nil w
  have HT := Lib.hid hT
  clear hT
  go_enter Tryd.func135, Tryd.ntmps135
  go_wp2_with (first | (go_at_call 150; refine (tz_any s h h0 t ht _ (HT.out.below hM.below)).mono ?_; rintro e W' ⟨rfl, hb'⟩; have hM' := hM.call hb'; clear hM hb'; have hM := hM'; clear hM'))
  go_ret
  exact ⟨rfl, hM.below⟩
end Go.Proofs.YtcdpdcjdjcbhcaaDoor

/-
  PLAIN LAW: a list's elements are appended to a list that has none and no room.
-/
namespace Go.Proofs.YtcdpdcjdjcbhcaaDoor
open Go Go.RowKit

/-- A block that a call gave, told by its world. -/
theorem Mem.freshQ {b0 : Base} {L : Blocks} {X X' : World} {b n : Nat} {f : Nat → Value} (hM : Mem b0 L X) (hb : Below X.heap.size X X') (ha : At X' b n f) (hge : X.heap.size ≤ b) : Mem b0 ((b, n, f) :: L) X' := by
  have hM2 := hM.call hb
  have off : ∀ (i : Nat) (p : Nat × Nat × (Nat → Value)), L[i]? = some p → p.1 ≠ b := fun i p h => by
    have := (hM.ats i p.1 p.2.1 p.2.2 h).lt
    omega
  refine ⟨hM2.good, fun i b' n' f' hi => ?_, fun i j x y hi hj hne => ?_⟩
  · match i, hi with
    | 0, hi => simp at hi; obtain ⟨rfl, rfl, rfl⟩ := hi; exact ha
    | i + 1, hi => exact hM2.ats i b' n' f' (by simpa using hi)
  · match i, j, hi, hj with
    | 0, 0, _, _ => exact absurd rfl hne
    | 0, j + 1, hi, hj => simp at hi hj; rw [← hi]; exact fun e => off j y hj e.symm
    | i + 1, 0, hi, hj => simp at hi hj; rw [← hj]; exact off i x hi
    | i + 1, j + 1, hi, hj => exact hM2.apart i j x y (by simpa using hi) (by simpa using hj) (by omega)

section
variable {P : Program} {ops : Array Oper} {rest : List Oper} {o : Oper} {a : Act} {w : Base} {W : World} {Q : Exit → Act → World → Prop} {L : Blocks}
/-- A list's elements, one or more, are appended to a list that has none and no room. -/
theorem wpList_cat0 (hgd : o.guard = none) (s x : Operand) (t : TypeId) (ho : o.op = .call { callee := .builtin .append, args := #[s, x], argTypes := #[t, t] })
    (e : TypeId) (m bs : Nat) (z : Value) (hu : P.underlying t = some (.slice e)) (hz : (P.info? e).map (fun i => (i.size, i.zero, i.bytes)) = some (m, some z, bs)) (hzs : z.cells.size = m) (hbs : bs ≤ 1000)
    (b0 : Nat) (hs : a.eval s = .slice (some ⟨b0, 0, none⟩) 0 0) (bn n cn : Nat) (hx : a.eval x = .slice (some ⟨bn, 0, none⟩) n cn) (hn1 : 1 ≤ n) (hn : n ≤ 1048576)
    (hM : Mem w L W) (i0 : Nat) {N : Nat} {f : Nat → Value} (hi0 : L[i0]? = some (bn, N, f)) (hN : n * m ≤ N)
    (h : ∀ b' c' F' W', w.B ≤ b' → n ≤ c' → (∀ j, j < n * m → F' j = f j) → Mem w ((b', c' * m, F') :: L) W' → wpList P ops Q rest (a.put o.dst (.slice (some ⟨b', 0, none⟩) n c')) W') : wpList P ops Q (o :: rest) a W := by
  obtain ⟨i, hi, hq⟩ := Option.map_eq_some_iff.1 hz
  simp only [Prod.mk.injEq] at hq
  obtain ⟨rfl, q2, rfl⟩ := hq
  refine wpList_plain hgd fun J hJ => ?_
  have hb48 : Builtin.nextslicecap (0 + n) 0 * i.bytes ≤ 281474976710656 := growslice_fits (by omega) (by
    have : (0 + n) * i.bytes ≤ 1048576 * 1000 := Nat.mul_le_mul (by omega) hbs
    omega)
  have hr := run_append_grow (P := P) W t o.type e i z hu hi q2 ⟨b0, 0, none⟩ 0 0 [] (by simp) (fun j v hv => by simp at hv) ⟨bn, 0, none⟩ n cn (arr (n * i.size) f).toList (by simp [arr_size]) ((hM.ats i0 _ _ _ hi0).list hN) (by omega) (by omega) hb48
  have hge := grownCap_ge W (0 + n) 0 e
  rw [Nat.zero_add] at hr hge
  unfold Oper.wp execOp
  simp only [ho, resolve, invoke, builtin, Sem.run_bind, Sem.run_pure, Result.andThen_ok, List.map_toArray, List.map_cons, List.map_nil, hs, hx, hr]
  refine hJ _ _ (h _ _ _ _ hM.size hge (fun j hj => ?_) (hM.drew.allocA e _ (grownCap W n 0 e * i.size) ?_))
  · rw [Array.getElem?_append_left (by simp [arr_size]; omega)]
    simp [arr, hj]
  · simp only [Array.size_append, List.size_toArray, size_zeroCells, hzs, Array.length_toList, arr_size, List.length_nil]
    rw [Nat.zero_add, ← Nat.add_mul]
    congr 1; omega
end
end Go.Proofs.YtcdpdcjdjcbhcaaDoor

/-
  PLAIN: what a call gives that returns a list and a code (or a list, a number and a code): no element, or the first cells of a new block; a block brought to the front.
-/
namespace Go.Proofs.YtcdpdcjdjcbhcaaDoor
open Go Go.RowKit

/-- The list v: n elements of m cells, R, in a new block; or none. -/
def NewL (m n : Nat) (R : Nat → Value) (w : World) (v : Value) (w' : World) : Prop :=
  (n = 0 ∧ (∃ a c, v = .slice a 0 c) ∧ Below w.heap.size w w') ∨ ∃ b c N F, v = .slice (some ⟨b, 0, none⟩) n c ∧ w.heap.size ≤ b ∧ n * m ≤ N ∧ (∀ j, j < n * m → F j = R j) ∧ At w' b N F ∧ Below w.heap.size w w'
def GivesR (m n : Nat) (R : Nat → Value) (cc : Int) (w : World) (e : Ending) (w' : World) : Prop := ∃ v, e = .returned (.tuple #[v, .int .i64 cc]) ∧ NewL m n R w v w'
def GivesR2 (m n : Nat) (R : Nat → Value) (x cc : Int) (w : World) (e : Ending) (w' : World) : Prop := ∃ v, e = .returned (.tuple #[v, .int .i64 x, .int .i64 cc]) ∧ NewL m n R w v w'
theorem NewL.zero {m n : Nat} {R : Nat → Value} {w : World} {v : Value} {w' : World} (h : NewL m n R w v w') (hn : n = 0) : ∃ a c, v = .slice a 0 c ∧ Below w.heap.size w w' := by
  rcases h with ⟨-, ⟨a, c, h⟩, hb⟩ | ⟨b, c, N, F, h, -, -, -, -, hb⟩
  · exact ⟨a, c, h, hb⟩
  · exact ⟨_, c, by rw [h, hn], hb⟩
theorem NewL.some {m n : Nat} {R : Nat → Value} {w : World} {v : Value} {w' : World} (h : NewL m n R w v w') (hn : 0 < n) : ∃ b c N F, v = .slice (some ⟨b, 0, none⟩) n c ∧ w.heap.size ≤ b ∧ n * m ≤ N ∧ (∀ j, j < n * m → F j = R j) ∧ At w' b N F ∧ Below w.heap.size w w' := by
  rcases h with ⟨h, -⟩ | h
  · omega
  · exact h
theorem GivesR.to {m n n' : Nat} {R R' : Nat → Value} {c c' : Int} {w : World} {e : Ending} {w' : World} (h : GivesR m n R c w e w') (hn : n = n') (hR : R = R') (hc : c = c') : GivesR m n' R' c' w e w' := by rw [← hn, ← hR, ← hc]; exact h
/-- No list. -/
theorem GivesR.none {m : Nat} {R : Nat → Value} {n : Nat} {cc cc' : Int} {w w' : World} {a : Option Addr} {c : Nat} (hb : Below w.heap.size w w') (hn : n = 0) (hc : cc' = cc) : GivesR m n R cc w (.returned (.tuple #[.slice a 0 c, .int .i64 cc'])) w' := ⟨_, by rw [hc], .inl ⟨hn, ⟨a, c, rfl⟩, hb⟩⟩
/-- The i-th block is brought to the front. -/
theorem Mem.toFront {w : Base} {W : World} {L : Blocks} (h : Mem w L W) (i : Nat) {p : Nat × Nat × (Nat → Value)} (hi : L[i]? = some p) : Mem w (p :: L.eraseIdx i) W := by
  have key : ∀ j q, (L.eraseIdx i)[j]? = some q → L[if j < i then j else j + 1]? = some q := fun j q hq => by
    rw [List.getElem?_eraseIdx] at hq
    split at hq <;> rename_i hji
    · rw [if_pos hji]; exact hq
    · rw [if_neg hji]; exact hq
  refine ⟨h.good, fun j b n f hj => ?_, fun j k x y hj hk hne => ?_⟩
  · match j, hj with
    | 0, hj => simp at hj; subst hj; exact h.ats i _ _ _ hi
    | j + 1, hj => exact h.ats _ b n f (key j _ (by simpa using hj))
  · match j, k, hj, hk with
    | 0, 0, _, _ => exact absurd rfl hne
    | 0, k + 1, hj, hk =>
      simp at hj; subst hj
      exact h.apart i _ _ y hi (key k _ (by simpa using hk)) (by split <;> omega)
    | j + 1, 0, hj, hk =>
      simp at hk; subst hk
      exact h.apart _ i x _ (key j _ (by simpa using hj)) hi (by split <;> omega)
    | j + 1, k + 1, hj, hk => exact h.apart _ _ x y (key j _ (by simpa using hj)) (key k _ (by simpa using hk)) (by split <;> split <;> omega)
end Go.Proofs.YtcdpdcjdjcbhcaaDoor

/-
  []int64: laws.szInt64S, toInt64S, eqInt64S and slices.Equal by contracts.
-/
namespace Go.Proofs.YtcdpdcjdjcbhcaaDoor
open Go Go.RowKit Go.BigFrame Go.ChangeShapes Go.WideShapes Go.Deep

def vInt64S (ys : Nat → Int) : Nat → Value := fun k => .int .i64 (ys k)
theorem cellInt64S : CellT Tryd.prog 2 := ⟨⟨_, Tryd.underlying2, rfl⟩, by kernel_rfl⟩
theorem infoInt64S : (Tryd.prog.info? 2).map (fun i => (i.size, i.zero, i.bytes)) = some (1, some (.int .i64 0), 8) := by kernel_rfl
def fitsInt64S (y : Int) : Prop := -9223372036854775808 ≤ y ∧ y ≤ 9223372036854775807
section
variable {H : Type} {enc : TypeId × Value → H} {w : World} {base : Nat} {spare : Nat → Bool} {held : Bool}
set_option maxRecDepth 100000 in
theorem openInt64S {v : Value} {b0 fuel : Nat} {x : DataW H × List MemPlace} (hok : Cell.okWide Tryd.prog w .any b0 179 v) (h : DataW.trod enc Tryd.prog w base spare held fuel 179 [v] = some x) :
    ∃ (n : Nat) (ys : Nat → Int), n ≤ maxLen ∧ (∀ i, i < n → fitsInt64S (ys i)) ∧ Arg1 w v n (vInt64S ys) :=
  open_list1 Tryd.underlying179 (by kernel_rfl) (fun y => .int .i64 (y)) fitsInt64S 0 (fun fuel v x h => (trod_int1 Tryd.underlying2 fuel v x h).imp fun n h => ⟨h.1, by unfold fitsInt64S; exact has_i64 h.2⟩) hok h
set_option maxRecDepth 100000 in
/-- A list out of its type and its reading. -/
theorem open_int64s {b0 : Nat} {v : Value} {d : DataW H} {p : List MemPlace} (hval : Value.okWide Tryd.prog w .any b0 179 v) (h : DataW.Trod enc Tryd.prog w base spare held 179 v d p) :
    ∃ (n : Nat) (ys : Nat → Int), n ≤ maxLen ∧ (∀ i, i < n → fitsInt64S (ys i)) ∧ Arg1 w v n (vInt64S ys) := by
  obtain ⟨fuel, h⟩ := h
  obtain ⟨sa, sl, sc, rfl⟩ := okWide_slice Tryd.underlying179 hval
  have hok : Cell.okWide Tryd.prog w .any b0 179 (.slice sa sl sc) := by
    unfold Value.okWide at hval
    rw [Tryd.underlying179] at hval
    exact hval
  exact openInt64S hok h
end

/-! ### equal -/
def eqvInt64S (a b : Int) : Bool := a == b
def sameInt64S (n n' : Nat) (ys ys' : Nat → Int) : Bool := decide (n = n') && (List.range n).all fun i => eqvInt64S (ys i) (ys' i)
theorem sameInt64S_len {n n' : Nat} {ys ys' : Nat → Int} (h : n ≠ n') : sameInt64S n n' ys ys' = false := by simp [sameInt64S, h]
theorem sameInt64S_no {n i : Nat} {ys ys' : Nat → Int} (hi : i < n) (h : eqvInt64S (ys i) (ys' i) = false) : sameInt64S n n ys ys' = false := by
  have : ((List.range n).all fun i => eqvInt64S (ys i) (ys' i)) = false := by rw [List.all_eq_false]; exact ⟨i, by simpa using hi, by rw [h]; decide⟩
  simp [sameInt64S, this]
theorem sameInt64S_yes {n : Nat} {ys ys' : Nat → Int} (h : ∀ i, i < n → eqvInt64S (ys i) (ys' i) = true) : sameInt64S n n ys ys' = true := by
  have : ((List.range n).all fun i => eqvInt64S (ys i) (ys' i)) = true := by rw [List.all_eq_true]; intro i hi; exact h i (by simpa using hi)
  simp [sameInt64S, this]
theorem eqvInt64S_self (a : Int) : eqvInt64S a a = true := by simp [eqvInt64S]
theorem sameInt64S_self (n : Nat) (ys : Nat → Int) : sameInt64S n n ys ys = true := sameInt64S_yes fun i _ => eqvInt64S_self (ys i)
end Go.Proofs.YtcdpdcjdjcbhcaaDoor

