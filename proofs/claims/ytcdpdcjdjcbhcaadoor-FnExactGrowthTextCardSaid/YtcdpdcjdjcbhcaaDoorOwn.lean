/-
  PLAIN LAWS: a list that a walk appends to, one element after the other: none yet, or the first cells of a block of the call's own.
-/
import Derived.Deep.DeepAppendWide
import Derived.ArgAppend
import Derived.Test.YtcdpdcjdjcbhcaaDoorSlice
namespace Go.Proofs.YtcdpdcjdjcbhcaaDoor
open Go Go.RowKit

/-- The list v of n elements of m cells: R; beside it lie the blocks K. -/
def Lst (w : Base) (K : Blocks) (m : Nat) (v : Value) (n : Nat) (R : Nat → Value) (W : World) : Prop :=
  (v = .slice none 0 0 ∧ n = 0 ∧ Mem w K W) ∨ ∃ b c F, v = .slice (some ⟨b, 0, none⟩) n c ∧ w.B ≤ b ∧ n ≤ c ∧ (∀ j, j < n * m → F j = R j) ∧ Mem w ((b, c * m, F) :: K) W
theorem Lst.mem {w : Base} {K : Blocks} {m : Nat} {v : Value} {n : Nat} {R : Nat → Value} {W : World} (h : Lst w K m v n R W) : Mem w K W := by
  rcases h with ⟨-, -, h⟩ | ⟨b, c, F, -, -, -, -, h⟩
  · exact h
  · exact h.drop

theorem Lst.only {w : Base} {K : Blocks} {m : Nat} {v : Value} {n : Nat} {R : Nat → Value} {W : World} (h : Lst w K m v n R W) : Lst w [] m v n R W := by
  rcases h with ⟨h1, h2, h⟩ | ⟨b, c, F, h1, h2, h3, h4, h⟩
  · exact .inl ⟨h1, h2, Mem.start h.good⟩
  · refine .inr ⟨b, c, F, h1, h2, h3, h4, h.good, fun i b' n' f' hi => ?_, fun i j x y hi hj hne => ?_⟩
    · match i, hi with
      | 0, hi => exact h.ats 0 b' n' f' (by simpa using hi)
      | i + 1, hi => simp at hi
    · match i, j, hi, hj with
      | 0, 0, _, _ => exact absurd rfl hne
      | 0, j + 1, _, hj => simp at hj
      | i + 1, _, hi, _ => simp at hi

theorem arr_any (A : Array Value) : A = arr A.size (fun k => A[k]?.getD undef) := arr_ext rfl (fun k hk => by simp [hk])
theorem Mem.allocA {w : Base} {W : World} {L : Blocks} (h : Mem w L W) (t : TypeId) (A : Array Value) (n : Nat) (hs : A.size = n) : Mem w ((W.heap.size, n, fun k => A[k]?.getD undef) :: L) (W.alloc (.cells A t)) := by
  subst hs
  have := h.alloc t A.size (fun k => A[k]?.getD undef)
  rwa [← arr_any] at this
theorem Mem.skip {w : Base} {W : World} {p q : Nat × Nat × (Nat → Value)} {L : Blocks} (h : Mem w (p :: q :: L) W) : Mem w (p :: L) W :=
  ⟨h.good, fun i b n f hi => by
    match i, hi with
    | 0, hi => exact h.ats 0 b n f (by simpa using hi)
    | i + 1, hi => exact h.ats (i + 2) b n f (by simpa using hi),
   fun i j x y hi hj hne => by
    match i, j, hi, hj with
    | 0, 0, _, _ => exact absurd rfl hne
    | 0, j + 1, hi, hj => exact h.apart 0 (j + 2) x y (by simpa using hi) (by simpa using hj) (by omega)
    | i + 1, 0, hi, hj => exact h.apart (i + 2) 0 x y (by simpa using hi) (by simpa using hj) (by omega)
    | i + 1, j + 1, hi, hj => exact h.apart (i + 2) (j + 2) x y (by simpa using hi) (by simpa using hj) (by omega)⟩
theorem Mem.swap {w : Base} {W : World} {p q : Nat × Nat × (Nat → Value)} {L : Blocks} (h : Mem w (p :: q :: L) W) : Mem w (q :: p :: L) W :=
  ⟨h.good, fun i b n f hi => by
    match i, hi with
    | 0, hi => exact h.ats 1 b n f (by simpa using hi)
    | 1, hi => exact h.ats 0 b n f (by simpa using hi)
    | i + 2, hi => exact h.ats (i + 2) b n f (by simpa using hi),
   fun i j x y hi hj hne => by
    match i, j, hi, hj with
    | 0, 0, _, _ => exact absurd rfl hne
    | 1, 1, _, _ => exact absurd rfl hne
    | 0, 1, hi, hj => exact h.apart 1 0 x y (by simpa using hi) (by simpa using hj) (by omega)
    | 1, 0, hi, hj => exact h.apart 0 1 x y (by simpa using hi) (by simpa using hj) (by omega)
    | 0, j + 2, hi, hj => exact h.apart 1 (j + 2) x y (by simpa using hi) (by simpa using hj) (by omega)
    | 1, j + 2, hi, hj => exact h.apart 0 (j + 2) x y (by simpa using hi) (by simpa using hj) (by omega)
    | i + 2, 0, hi, hj => exact h.apart (i + 2) 1 x y (by simpa using hi) (by simpa using hj) (by omega)
    | i + 2, 1, hi, hj => exact h.apart (i + 2) 0 x y (by simpa using hi) (by simpa using hj) (by omega)
    | i + 2, j + 2, hi, hj => exact h.apart (i + 2) (j + 2) x y (by simpa using hi) (by simpa using hj) (by omega)⟩
theorem add_any (b o j : Nat) : (⟨b, o, none⟩ : Addr).add j = ⟨b, o + j, none⟩ := by unfold Addr.add; split <;> simp_all
theorem At.list {W : World} {b N : Nat} {f : Nat → Value} (hA : At W b N f) {k : Nat} (hk : k ≤ N) : ∀ j v, (arr k f).toList[j]? = some v → W.cell? ((⟨b, 0, none⟩ : Addr).add j) = some v := fun j v hv => by
  rw [arr_toList] at hv
  have hj : j < k := by have := (List.getElem?_eq_some_iff.1 hv).1; simpa using this
  simp [hj] at hv
  rw [add_any, Nat.zero_add, hA.cell (by omega), hv]

section
variable {P : Program} {ops : Array Oper} {rest : List Oper} {o : Oper} {a : Act} {w : Base} {W : World} {Q : Exit → Act → World → Prop} {L K : Blocks}
/-- A slice literal of no element. -/
theorem wpList_slice0 (hgd : o.guard = none) (t e : TypeId) (ho : o.op = .buildSlice t 0 #[]) (m : Nat)
    (hu : P.underlying t = some (.slice e)) (hz : (P.info? e).map (fun i => i.size) = some m) (hM : Mem w L W)
    (h : ∀ b W', w.B ≤ b → Mem w ((b, 0, fun _ => undef) :: L) W' → wpList P ops Q rest (a.put o.dst (.slice (some ⟨b, 0, none⟩) 0 0)) W') : wpList P ops Q (o :: rest) a W := by
  obtain ⟨ie, hie, hq⟩ := Option.map_eq_some_iff.1 hz
  refine wpList_plain hgd fun J hJ => ?_
  have hr : (Instr.buildSlice t 0 #[]).run P W = .ok (.slice (some ⟨W.heap.size, 0, none⟩) 0 0) (W.alloc (.cells (arr 0 fun _ => undef) e)) := by
    have e0 : Array.range 0 = #[] := rfl
    simp [Instr.buildSlice, run_underlying hu, sizeOf, typeInfo, hie, Instr.fill, newRow, arr, e0]
  unfold Oper.wp execOp
  simp only [ho, Array.map_empty, Sem.run_bind, hr, Result.andThen_ok]
  exact hJ _ _ (h _ _ hM.size (hM.alloc e 0 _))

/-- The first element is appended. -/
theorem wpList_push0 (hgd : o.guard = none) (s x : Operand) (t : TypeId) (ho : o.op = .call { callee := .builtin .append, args := #[s, x], argTypes := #[t, t] })
    (e : TypeId) (m bs : Nat) (z : Value) (hu : P.underlying t = some (.slice e)) (hz : (P.info? e).map (fun i => (i.size, i.zero, i.bytes)) = some (m, some z, bs)) (hzs : z.cells.size = m) (hbs : bs ≤ 1000)
    (hs : a.eval s = .slice none 0 0) (bn : Nat) (f : Nat → Value) (hx : a.eval x = .slice (some ⟨bn, 0, none⟩) 1 1) (hM : Mem w ((bn, m, f) :: K) W) (R : Nat → Value) (hR : ∀ j, j < m → f j = R j)
    (h : ∀ b' c' F' W', w.B ≤ b' → 1 ≤ c' → (∀ j, j < 1 * m → F' j = R j) → Mem w ((b', c' * m, F') :: K) W' → wpList P ops Q rest (a.put o.dst (.slice (some ⟨b', 0, none⟩) 1 c')) W') : wpList P ops Q (o :: rest) a W := by
  obtain ⟨i, hi, hq⟩ := Option.map_eq_some_iff.1 hz
  simp only [Prod.mk.injEq] at hq
  obtain ⟨rfl, q2, rfl⟩ := hq
  refine wpList_plain hgd fun J hJ => ?_
  have hr := run_append_nil (P := P) W t o.type e i z hu hi q2 ⟨bn, 0, none⟩ 1 1 (arr i.size f).toList (by simp [arr_size]) (hM.at0.list (Nat.le_refl _)) (by omega) (by omega) (by omega)
  have hge := grownCap_ge W 1 0 e
  unfold Oper.wp execOp
  simp only [ho, resolve, invoke, builtin, Sem.run_bind, Sem.run_pure, Result.andThen_ok, List.map_toArray, List.map_cons, List.map_nil, hs, hx, hr]
  refine hJ _ _ (h _ _ _ _ hM.size hge (fun j hj => ?_) (hM.drew.allocA e _ (grownCap W 1 0 e * i.size) ?_).skip)
  · have hj' : j < i.size := by omega
    rw [← hR j hj']
    simp [Array.getElem?_append, arr, hj']
  · simp only [Array.size_append, List.size_toArray, size_zeroCells, hzs, Array.length_toList, arr_size]
    conv => lhs; lhs; rw [← Nat.one_mul i.size]
    rw [← Nat.add_mul]
    congr 1; omega

/-- One more element is appended. -/
theorem wpList_push1 (hgd : o.guard = none) (s x : Operand) (t : TypeId) (ho : o.op = .call { callee := .builtin .append, args := #[s, x], argTypes := #[t, t] })
    (e : TypeId) (m bs : Nat) (z : Value) (hu : P.underlying t = some (.slice e)) (hz : (P.info? e).map (fun i => (i.size, i.zero, i.bytes)) = some (m, some z, bs)) (hzs : z.cells.size = m) (hbs : bs ≤ 1000)
    (b n c : Nat) (F : Nat → Value) (hs : a.eval s = .slice (some ⟨b, 0, none⟩) n c) (hb : w.B ≤ b) (hnc : n ≤ c) (hn : n ≤ 1048576)
    (bn : Nat) (f : Nat → Value) (hx : a.eval x = .slice (some ⟨bn, 0, none⟩) 1 1) (h1 : ∀ k, k < m → (f k).oneCell' = true) (hM : Mem w ((bn, m, f) :: (b, c * m, F) :: K) W) (R : Nat → Value) (hR0 : ∀ j, j < n * m → F j = R j) (hR : ∀ j, j < m → f j = R (n * m + j))
    (h : ∀ b' c' F' W', w.B ≤ b' → n + 1 ≤ c' → (∀ j, j < (n + 1) * m → F' j = R j) → Mem w ((b', c' * m, F') :: K) W' → wpList P ops Q rest (a.put o.dst (.slice (some ⟨b', 0, none⟩) (n + 1) c')) W') : wpList P ops Q (o :: rest) a W := by
  obtain ⟨i, hi, hq⟩ := Option.map_eq_some_iff.1 hz
  simp only [Prod.mk.injEq] at hq
  obtain ⟨rfl, q2, rfl⟩ := hq
  refine wpList_plain hgd fun J hJ => ?_
  have hnews := hM.at0.list (Nat.le_refl _)
  by_cases hroom : n + 1 ≤ c
  · have hfit : n * i.size + i.size ≤ c * i.size := by
      have := Nat.mul_le_mul_right i.size hroom
      rwa [Nat.add_mul, Nat.one_mul] at this
    obtain ⟨t0, ht0⟩ := hM.ats 1 _ _ _ rfl
    have hfc := run_firstCells_some (P := P) W i.size 1 ⟨bn, 0, none⟩ 1 1 (arr i.size f).toList (by simp [arr_size]) hnews
    have hst := run_storeCells_at (P := P) b (n * i.size) t0 (arr i.size f).toList 0 (arr (c * i.size) F) W ht0 (by simp [arr_size]; omega) (fun v hv => by
      rw [arr_toList] at hv; simp at hv; obtain ⟨k, hk, rfl⟩ := hv; exact h1 k hk)
    rw [Nat.add_zero, arr_lay hfit] at hst
    have hr : (Builtin.append_ #[t, t] o.type #[.slice (some ⟨b, 0, none⟩) n c, .slice (some ⟨bn, 0, none⟩) 1 1]).run P W = .ok (.slice (some ⟨b, 0, none⟩) (n + 1) c) (W.setRow b (arr (c * i.size) (lay F (n * i.size) i.size f))) := by
      simp [Builtin.append_, run_underlying hu, sizeOf, typeInfo, hi, Builtin.lenOf, hroom, hfc, add_any, hst]
    unfold Oper.wp execOp
    simp only [ho, resolve, invoke, builtin, Sem.run_bind, Sem.run_pure, Result.andThen_ok, List.map_toArray, List.map_cons, List.map_nil, hs, hx, hr]
    refine hJ _ _ (h b c _ _ hb hroom (fun j hj => ?_) (hM.setRow 1 rfl hb _).drop)
    rw [Nat.add_mul, Nat.one_mul] at hj
    simp only [lay]
    by_cases hj' : j < n * i.size
    · rw [if_neg (by omega)]; exact hR0 j hj'
    · rw [if_pos (by omega), hR _ (by omega), show n * i.size + (j - n * i.size) = j by omega]
  · have hle : n * i.size ≤ c * i.size := Nat.mul_le_mul_right _ hnc
    have hb48 : Builtin.nextslicecap (n + 1) c * i.bytes ≤ 281474976710656 := growslice_fits (by omega) (by
      have : (n + 1) * i.bytes ≤ 1048577 * 1000 := Nat.mul_le_mul (by omega) hbs
      omega)
    have hr := run_append_grow (P := P) W t o.type e i z hu hi q2 ⟨b, 0, none⟩ n c (arr (n * i.size) F).toList (by simp [arr_size]) ((hM.ats 1 _ _ _ rfl).list hle) ⟨bn, 0, none⟩ 1 1 (arr i.size f).toList (by simp [arr_size]) hnews (by omega) (by omega) hb48
    have hge := grownCap_ge W (n + 1) c e
    unfold Oper.wp execOp
    simp only [ho, resolve, invoke, builtin, Sem.run_bind, Sem.run_pure, Result.andThen_ok, List.map_toArray, List.map_cons, List.map_nil, hs, hx, hr]
    refine hJ _ _ (h _ _ _ _ hM.size hge (fun j hj => ?_) (hM.drew.allocA e _ (grownCap W (n + 1) c e * i.size) ?_).skip.skip)
    · rw [Nat.add_mul, Nat.one_mul] at hj
      by_cases hj' : j < n * i.size
      · rw [← hR0 j hj']
        rw [Array.getElem?_append_left (by simp [arr_size]; omega), Array.getElem?_append_left (by simp [arr_size]; omega), Array.toArray_toList, arr_at hj']
        rfl
      · rw [show j = n * i.size + (j - n * i.size) by omega, ← hR _ (by omega)]
        rw [Array.getElem?_append_left (by simp [arr_size]; omega), Array.getElem?_append_right (by simp [arr_size]), Array.toArray_toList, Array.toArray_toList, arr_size, Nat.add_sub_cancel_left, arr_at (by omega)]
        rfl
    · simp only [Array.size_append, List.size_toArray, size_zeroCells, hzs, Array.length_toList, arr_size]
      rw [← Nat.succ_mul, ← Nat.add_mul]
      congr 1; simp only [Nat.succ_eq_add_one]; omega
end
end Go.Proofs.YtcdpdcjdjcbhcaaDoor
