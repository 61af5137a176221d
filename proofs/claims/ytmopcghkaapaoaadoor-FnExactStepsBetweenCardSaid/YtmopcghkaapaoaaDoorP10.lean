/-
  Several texts in one: OwnO, StepsKit, Clone, StepsFrom.
-/
import Derived.Test.YtmopcghkaapaoaaDoorP7
import Derived.Test.YtmopcghkaapaoaaDoorP9
import Derived.Test.YtmopcghkaapaoaaDoorP8
/-
  PLAIN LAWS: an element is appended to a list that begins in the middle of its block.
-/
namespace Go.Proofs.YtmopcghkaapaoaaDoor
open Go Go.RowKit

theorem At.listO {W : World} {b N : Nat} {f : Nat → Value} (hA : At W b N f) {off k : Nat} (hk : off + k ≤ N) : ∀ j v, (arr k (fun j => f (off + j))).toList[j]? = some v → W.cell? ((⟨b, off, none⟩ : Addr).add j) = some v := fun j v hv => by
  rw [arr_toList] at hv
  have hj : j < k := by have := (List.getElem?_eq_some_iff.1 hv).1; simpa using this
  simp [hj] at hv
  rw [add_any, hA.cell (by omega), hv]

section
variable {P : Program} {ops : Array Oper} {rest : List Oper} {o : Oper} {a : Act} {w : Base} {W : World} {Q : Exit → Act → World → Prop} {L K : Blocks}
/-- One more element is appended to n of them, which begin at off. -/
theorem oper_pushO {J : Act → World → Prop} (s x : Operand) (t : TypeId) (ho : o.op = .call { callee := .builtin .append, args := #[s, x], argTypes := #[t, t] })
    (e : TypeId) (m bs : Nat) (z : Value) (hu : P.underlying t = some (.slice e)) (hz : (P.info? e).map (fun i => (i.size, i.zero, i.bytes)) = some (m, some z, bs)) (hzs : z.cells.size = m) (hbs : bs ≤ 1000)
    (b off n c N : Nat) (F : Nat → Value) (hs : a.eval s = .slice (some ⟨b, off, none⟩) n c) (hb : w.B ≤ b) (hnc : n ≤ c) (hN : off + c * m ≤ N) (hn : n ≤ 1048576)
    (bn : Nat) (f : Nat → Value) (hx : a.eval x = .slice (some ⟨bn, 0, none⟩) 1 1) (h1 : ∀ k, k < m → (f k).oneCell' = true) (hM : Mem w ((bn, m, f) :: (b, N, F) :: K) W) (R : Nat → Value) (hR0 : ∀ j, j < n * m → F (off + j) = R j) (hR : ∀ j, j < m → f j = R (n * m + j))
    (h : ∀ b' off' c' N' F' W', w.B ≤ b' → n + 1 ≤ c' → off' + c' * m ≤ N' → (∀ j, j < (n + 1) * m → F' (off' + j) = R j) → Mem w ((b', N', F') :: K) W' → J (a.put o.dst (.slice (some ⟨b', off', none⟩) (n + 1) c')) W') : o.wp P a W J Q := by
  obtain ⟨i, hi, hq⟩ := Option.map_eq_some_iff.1 hz
  simp only [Prod.mk.injEq] at hq
  obtain ⟨rfl, q2, rfl⟩ := hq
  have hnews := hM.at0.list (Nat.le_refl _)
  by_cases hroom : n + 1 ≤ c
  · have hfit : n * i.size + i.size ≤ c * i.size := by
      have := Nat.mul_le_mul_right i.size hroom
      rwa [Nat.add_mul, Nat.one_mul] at this
    obtain ⟨t0, ht0⟩ := hM.ats 1 _ _ _ rfl
    have hfc := run_firstCells_some (P := P) W i.size 1 ⟨bn, 0, none⟩ 1 1 (arr i.size f).toList (by simp [arr_size]) hnews
    have hst := run_storeCells_at (P := P) b (off + n * i.size) t0 (arr i.size f).toList 0 (arr N F) W ht0 (by simp [arr_size]; omega) (fun v hv => by
      rw [arr_toList] at hv; simp at hv; obtain ⟨k, hk, rfl⟩ := hv; exact h1 k hk)
    rw [Nat.add_zero, arr_lay (by omega)] at hst
    have hr : (Builtin.append_ #[t, t] o.type #[.slice (some ⟨b, off, none⟩) n c, .slice (some ⟨bn, 0, none⟩) 1 1]).run P W = .ok (.slice (some ⟨b, off, none⟩) (n + 1) c) (W.setRow b (arr N (lay F (off + n * i.size) i.size f))) := by
      simp [Builtin.append_, run_underlying hu, sizeOf, typeInfo, hi, Builtin.lenOf, hroom, hfc, add_any, hst]
    unfold Oper.wp execOp
    simp only [ho, resolve, invoke, builtin, Sem.run_bind, Sem.run_pure, Result.andThen_ok, List.map_toArray, List.map_cons, List.map_nil, hs, hx, hr]
    refine h b off c N _ _ hb hroom hN (fun j hj => ?_) (hM.setRow 1 rfl hb _).drop
    rw [Nat.add_mul, Nat.one_mul] at hj
    simp only [lay]
    by_cases hj' : j < n * i.size
    · rw [if_neg (by omega)]; exact hR0 j hj'
    · rw [if_pos (by omega), hR _ (by omega), show off + j - (off + n * i.size) = j - n * i.size by omega, show n * i.size + (j - n * i.size) = j by omega]
  · have hle : n * i.size ≤ c * i.size := Nat.mul_le_mul_right _ hnc
    have hb48 : Builtin.nextslicecap (n + 1) c * i.bytes ≤ 281474976710656 := growslice_fits (by omega) (by
      have : (n + 1) * i.bytes ≤ 1048577 * 1000 := Nat.mul_le_mul (by omega) hbs
      omega)
    have hr := run_append_grow (P := P) W t o.type e i z hu hi q2 ⟨b, off, none⟩ n c (arr (n * i.size) (fun j => F (off + j))).toList (by simp [arr_size]) ((hM.ats 1 _ _ _ rfl).listO (by omega)) ⟨bn, 0, none⟩ 1 1 (arr i.size f).toList (by simp [arr_size]) hnews (by omega) (by omega) hb48
    have hge := grownCap_ge W (n + 1) c e
    unfold Oper.wp execOp
    simp only [ho, resolve, invoke, builtin, Sem.run_bind, Sem.run_pure, Result.andThen_ok, List.map_toArray, List.map_cons, List.map_nil, hs, hx, hr]
    refine h _ 0 _ _ _ _ hM.size hge (Nat.le_of_eq (Nat.zero_add _)) (fun j hj => ?_) (hM.drew.allocA e _ (grownCap W (n + 1) c e * i.size) ?_).skip.skip
    · rw [Nat.add_mul, Nat.one_mul] at hj
      rw [Nat.zero_add]
      by_cases hj' : j < n * i.size
      · rw [← hR0 j hj']
        rw [Array.getElem?_append_left (by simp [arr_size]; omega), Array.getElem?_append_left (by simp [arr_size]; omega), Array.toArray_toList, arr_at hj']
        rfl
      · rw [show j = n * i.size + (j - n * i.size) by omega, ← hR _ (by omega)]
        rw [Array.getElem?_append_left (by simp [arr_size]; omega), Array.getElem?_append_right (by simp [arr_size]), Array.toArray_toList, Array.toArray_toList, arr_size, Nat.add_sub_cancel_left, arr_at (by omega)]
        rfl
    · simp only [Array.size_append, List.size_toArray, size_zeroCells, hzs, Array.length_toList, arr_size]
      rw [← Nat.succ_mul, ← Nat.add_mul]
      congr 1; simp only [Nat.succ_eq_add_one]; omega
theorem wpList_pushO (hgd : o.guard = none) (s x : Operand) (t : TypeId) (ho : o.op = .call { callee := .builtin .append, args := #[s, x], argTypes := #[t, t] })
    (e : TypeId) (m bs : Nat) (z : Value) (hu : P.underlying t = some (.slice e)) (hz : (P.info? e).map (fun i => (i.size, i.zero, i.bytes)) = some (m, some z, bs)) (hzs : z.cells.size = m) (hbs : bs ≤ 1000)
    (b off n c N : Nat) (F : Nat → Value) (hs : a.eval s = .slice (some ⟨b, off, none⟩) n c) (hb : w.B ≤ b) (hnc : n ≤ c) (hN : off + c * m ≤ N) (hn : n ≤ 1048576)
    (bn : Nat) (f : Nat → Value) (hx : a.eval x = .slice (some ⟨bn, 0, none⟩) 1 1) (h1 : ∀ k, k < m → (f k).oneCell' = true) (hM : Mem w ((bn, m, f) :: (b, N, F) :: K) W) (R : Nat → Value) (hR0 : ∀ j, j < n * m → F (off + j) = R j) (hR : ∀ j, j < m → f j = R (n * m + j))
    (h : ∀ b' off' c' N' F' W', w.B ≤ b' → n + 1 ≤ c' → off' + c' * m ≤ N' → (∀ j, j < (n + 1) * m → F' (off' + j) = R j) → Mem w ((b', N', F') :: K) W' → wpList P ops Q rest (a.put o.dst (.slice (some ⟨b', off', none⟩) (n + 1) c')) W') : wpList P ops Q (o :: rest) a W :=
  wpList_plain hgd fun _ hJ => oper_pushO s x t ho e m bs z hu hz hzs hbs b off n c N F hs hb hnc hN hn bn f hx h1 hM R hR0 hR fun b' off' c' N' F' W' g1 g2 g3 g4 g5 => hJ _ _ (h b' off' c' N' F' W' g1 g2 g3 g4 g5)
/-- All but the first of a list. -/
theorem wpList_rest (hgd : o.guard = none) (t e : TypeId) (x : Operand) (ho : o.op = .slice t x (some (.const (.int .i64 1))) none none) (m : Nat) (hu : P.underlying t = some (.slice e)) (hz : (P.info? e).map (·.size) = some m)
    (b off n c : Nat) (hx : a.eval x = .slice (some ⟨b, off, none⟩) n c) (hn : 1 ≤ n) (hnc : n ≤ c)
    (h : wpList P ops Q rest (a.put o.dst (.slice (some ⟨b, if c = 1 then off else off + m, none⟩) (n - 1) (c - 1))) W) : wpList P ops Q (o :: rest) a W := by
  obtain ⟨ie, hie, hq⟩ := Option.map_eq_some_iff.1 hz
  refine wpList_plain hgd fun J hJ => ?_
  have hb1 : (Instr.sliceBound (.int .i64 1) n .sliceB).run P W = .ok 1 W := by
    have hle : (1 : Int) ≤ (n : Int) := by omega
    simp [Instr.sliceBound, asIntOf, hle]
  have hr : (Instr.slice t (.slice (some ⟨b, off, none⟩) n c) (some (.int .i64 1)) none none).run P W = .ok (.slice (some ⟨b, if c = 1 then off else off + m, none⟩) (n - 1) (c - 1)) W := by
    by_cases hc : c = 1
    · simp [Instr.slice, Instr.sliceBounds, run_underlying hu, sizeOf, typeInfo, hie, hq, hb1, hc]
    · simp [Instr.slice, Instr.sliceBounds, run_underlying hu, sizeOf, typeInfo, hie, hq, hb1, hc, add_any]
  have hv : a.eval (.const (.int .i64 1)) = .int .i64 1 := rfl
  have hq2 : (Instr.sliceAt t (.slice (some ⟨b, off, none⟩) n c) (some (.int .i64 1)) none none).run P W = .ok (.slice (some ⟨b, if c = 1 then off else off + m, none⟩) (n - 1) (c - 1)) W := by
    unfold Instr.sliceAt
    simp only [Sem.run_bind, run_underlying hu, Result.andThen_ok, hr]
  unfold Oper.wp
  simp only [execOp, ho, hx, hv, Option.map_some, Option.map_none, Sem.run_bind, Sem.run_pure, hq2, Result.andThen_ok]
  exact hJ _ _ h
end
end Go.Proofs.YtmopcghkaapaoaaDoor

/-
  PLAIN LAWS for a search that keeps a map and a queue: several new blocks at once, lookups told by case, reads in a tail; what the rounds over the sides leave.
-/
namespace Go.Proofs.YtmopcghkaapaoaaDoor
open Go Go.RowKit Go.Shelf Go.BigFrame Go.Maps

theorem Mem.freshK {b0 : Base} {L K : Blocks} {X X' : World} (hM : Mem b0 L X) (hK : Mem (Base.of X) K X') (hge : ∀ p, p ∈ K → X.heap.size ≤ p.1) : Mem b0 (K ++ L) X' := by
  have hb : Below X.heap.size X X' := hK.good
  have hM2 := hM.call hb
  have off : ∀ (i j : Nat) (p q : Nat × Nat × (Nat → Value)), K[i]? = some p → L[j]? = some q → p.1 ≠ q.1 := fun i j p q hi hj e => by
    have h1 := (hM.ats j q.1 q.2.1 q.2.2 hj).lt
    have h2 := hge p (List.mem_of_getElem? hi)
    omega
  refine ⟨hM2.good, fun i b n f hi => ?_, fun i j p q hi hj hne => ?_⟩
  · rw [List.getElem?_append] at hi
    split at hi
    · exact hK.ats i b n f hi
    · exact hM2.ats _ b n f hi
  · rw [List.getElem?_append] at hi hj
    split at hi <;> split at hj
    · exact hK.apart i j p q hi hj hne
    · exact off _ _ p q hi hj
    · exact (off _ _ q p hj hi).symm
    · exact hM2.apart _ _ p q hi hj (by omega)

section
variable {P : Program} {ops : Array Oper} {rest : List Oper} {o : Oper} {a : Act} {w : Base} {W : World} {Q : Exit → Act → World → Prop} {L : Blocks} {J : Act → Prop}
variable {K : Type} {kv : K → Value} {ok : K → Prop} {ks : List K} {f : K → Value} {kt et : TypeId} {m : Nat}
/-- 'v, ok := m[k]' where k is there; where it is not. -/
theorem wpList_look_in [DecidableEq K] (hgd : o.guard = none) (t : TypeId) (x y : Operand) (ho : o.op = .lookup t x y true) (hx : a.eval x = .map (some m)) (k : K) (hy : a.eval y = kv k)
    (T : KeyTold P kt kv ok) (ht : P.underlying t = some (.map kt et)) (z : Value) (hz : ∀ W, (zeroValue et).run P W = .ok z W) (hm : W.heap[m]? = some (mapO kv ks f)) (hks : ∀ k, k ∈ ks → ok k) (hk : ok k) (hin : k ∈ ks)
    (h : wpList P ops Q rest (a.put o.dst (.tuple #[f k, .bool true])) W) : wpList P ops Q (o :: rest) a W := by
  refine wpList_lookup hgd t x y true ho hx k hy T ht z hz hm hks hk ?_
  rw [if_pos rfl, if_pos hin, decide_eq_true hin]; exact h
theorem wpList_look_out [DecidableEq K] (hgd : o.guard = none) (t : TypeId) (x y : Operand) (ho : o.op = .lookup t x y true) (hx : a.eval x = .map (some m)) (k : K) (hy : a.eval y = kv k)
    (T : KeyTold P kt kv ok) (ht : P.underlying t = some (.map kt et)) (z : Value) (hz : ∀ W, (zeroValue et).run P W = .ok z W) (hm : W.heap[m]? = some (mapO kv ks f)) (hks : ∀ k, k ∈ ks → ok k) (hk : ok k) (hin : k ∉ ks)
    (h : wpList P ops Q rest (a.put o.dst (.tuple #[z, .bool false])) W) : wpList P ops Q (o :: rest) a W := by
  refine wpList_lookup hgd t x y true ho hx k hy T ht z hz hm hks hk ?_
  rw [if_pos rfl, if_neg hin, decide_eq_false hin]; exact h
/-- Reads ahead of a tail. -/
theorem still_look [DecidableEq K] (t : TypeId) (x y : Operand) (ho : o.op = .lookup t x y false) (hx : a.eval x = .map (some m)) (k : K) (hy : a.eval y = kv k)
    (T : KeyTold P kt kv ok) (ht : P.underlying t = some (.map kt et)) (z : Value) (hz : ∀ W, (zeroValue et).run P W = .ok z W) (hm : W.heap[m]? = some (mapO kv ks f)) (hks : ∀ k, k ∈ ks → ok k) (hk : ok k) (hin : k ∈ ks) (v : Value) (hv : f k = v)
    (h : J (a.put o.dst v)) : o.still P a W J := by
  have hr := look_map T ht (hz W) hm hks hk false
  rw [if_neg (by decide), if_pos hin, hv] at hr
  unfold Oper.still
  simp only [execOp, ho, hx, hy, Sem.run_bind, hr, Result.andThen_ok]
  exact ⟨rfl, h⟩
theorem still_getE (hM : Mem w L W) (ty : TypeId) (x : Operand) (ho : o.op = .load ty x) (b off : Nat) (hx : a.eval x = .pointer (some ⟨b, off, none⟩))
    (i : Nat) {N : Nat} {f : Nat → Value} (hi : L[i]? = some (b, N, f)) {n : Nat} (hT : RowT P ty n) (hle : off + n ≤ N) (g : Nat → Value) (hg : ∀ k, k < n → f (off + k) = g k)
    (h : J (a.put o.dst (.agg (arr n g)))) : o.still P a W J := by
  obtain ⟨⟨d, hu, hd⟩, hm⟩ := hT
  obtain ⟨t, ht⟩ := hM.ats i b N f hi
  have hr : W.rangeAt b off (arr n (fun k => f (off + k))).toList := by
    rw [← arr_extract hle]; exact World.rangeAt_of_block ht off n
  have hl := run_loadVar_mid (P := P) W b off ty _ d hr hu hd (by rw [hm]; simp [arr_size])
  have e : (arr n (fun k => f (off + k))).toList.toArray = arr n g := by rw [Array.toArray_toList]; exact arr_congr hg
  rw [e] at hl
  unfold Oper.still execOp
  simp only [ho, hx, Instr.loadAt, Instr.sureAddr, Sem.run_bind, Sem.run_pure, Result.andThen_ok, hl]
  exact ⟨rfl, h⟩
end

/-- The steps that a search has told. -/
def stV (d : Int × Int → Int) : Int × Int → Value := fun k => .int .i64 (d k - 1)
theorem stV_upd (d : Int × Int → Int) (n : Int × Int) (v : Int) : updK (stV d) n (.int .i64 v) = stV (updI d n (v + 1)) := by
  funext j
  unfold updK stV updI
  split
  · rw [show v + 1 - 1 = v by omega]
  · rfl
theorem in10_ok {k : Int × Int} (h : In10 k) : SpotOk k := by
  obtain ⟨h1, h2, h3, h4⟩ := h
  exact ⟨by omega, by omega, by omega, by omega⟩
theorem zero_i64 (W : World) : (zeroValue 2).run Tryd.prog W = .ok (.int .i64 0) W := by kernel_rfl
theorem open_in {g : Nat → Int} (ho : okB g = true) {u v : Int} {k : Nat} (h : k ∈ openL g u v 4) : In10 (nxX k u, nxY k v) := nb_in ho (c := (u, v)) (by rw [nb_open]; exact List.mem_map_of_mem h)
theorem good_after {g : Nat → Int} (ho : okB g = true) {s : Found} (h : s.Good In10) (u v : Int) : ∀ (pre : List Nat), (∀ k, k ∈ pre → k ∈ openL g u v 4) → (afterS s u v pre).Good In10 := fun pre hp => by
  unfold afterS
  refine good_fold _ h (fun k hk => ?_)
  obtain ⟨j, hj, rfl⟩ := List.mem_map.1 hk
  exact open_in ho (hp j hj)
theorem after_q {s : Found} {i : Nat} {k : Int × Int} (h : s.q[i]? = some k) (u v : Int) (pre : List Nat) : (afterS s u v pre).q[i]? = some k := fold_q _ h
theorem visit1_old {now n : Int × Int} {s : Found} (h : s.d n ≠ 0) : visit1 now s n = s := by unfold visit1; rw [if_neg h]
theorem visit1_new {now n : Int × Int} {s : Found} (h : s.d n = 0) : visit1 now s n = ⟨s.q ++ [n], updI s.d n (s.d now + 1)⟩ := by unfold visit1; rw [if_pos h]
theorem map_under : Tryd.prog.underlying 85 = some (.map 36 2) := Tryd.underlying85
theorem map_zero : (Tryd.prog.info? 85).map (·.zero) = some (some (.map none)) := by kernel_rfl
theorem spots_zero1 : (Tryd.prog.info? 41).map (·.zero) = some (some (.slice none 0 0)) := by kernel_rfl
theorem lay_sp0' (z : Nat → Value) (x y : Int) : ∀ k, k < 2 → lay z 0 2 (sp x y) (0 + k) = sp x y k := fun k hk => by rw [Nat.zero_add]; exact lay_sp z x y k hk
/-- A new map of steps. -/
def GivesM (w : World) (s : Found) (e : Ending) (w' : World) : Prop := ∃ m, e = .returned (.map (some m)) ∧ w.heap.size ≤ m ∧ Mem ((Base.of w).with m (mapO spV s.q (stV s.d)) rfl) [] w'

/-! ### The rounds over the sides of a cell -/
def sidesN {g : Nat → Int} {u v : Int} (pre : List (OpenS g u v)) : List Nat := pre.map (·.1)
theorem openS_in {g : Nat → Int} {u v : Int} (k : OpenS g u v) : k.1 ∈ openL g u v 4 := by
  unfold openL
  rw [List.mem_filter]
  exact ⟨List.mem_range.2 k.2.1, by rw [k.2.2]; rfl⟩
theorem sidesN_in {g : Nat → Int} {u v : Int} (pre : List (OpenS g u v)) : ∀ k, k ∈ sidesN pre → k ∈ openL g u v 4 := fun k hk => by
  obtain ⟨j, -, rfl⟩ := List.mem_map.1 hk
  exact openS_in j
theorem sidesN_one {g : Nat → Int} {u v : Int} (pre : List (OpenS g u v)) (k : OpenS g u v) : sidesN (pre ++ [k]) = sidesN pre ++ [k.1] := by simp [sidesN]
/-- What lies in memory behind the rounds over the sides pre. -/
def SideR (w : World) (g : Nat → Int) (s : Found) (u v : Int) (i b8 : Nat) (L : Blocks) (pre : List (OpenS g u v)) (o : Obj) (Bs : Blocks) : Prop :=
  o = mapO spV (afterS s u v (sidesN pre)).q (stV (afterS s u v (sidesN pre)).d) ∧ ∃ (r bq off c N : Nat) (F : Nat → Value), i + r = (afterS s u v (sidesN pre)).q.length ∧ w.heap.size ≤ bq ∧ r ≤ c ∧ off + c * 2 ≤ N ∧ (∀ j, j < r * 2 → F (off + j) = sps (sI ((afterS s u v (sidesN pre)).q.drop i)) j) ∧
    Bs = (bq, N, F) :: (b8, 1, fun _ => .slice (some ⟨bq, off, none⟩) r c) :: L
section
variable {w : World} {g : Nat → Int} {s : Found} {u v : Int} {i b8 : Nat} {K L : Blocks}
theorem sideR_det (pre pre' : List (OpenS g u v)) (o o' : Obj) (Bs Bs' : Blocks) (b b' : Base) (X : World) (h : SideR w g s u v i b8 L pre o Bs) (h' : SideR w g s u v i b8 L pre' o' Bs') (hM : Mem b Bs X) (hM' : Mem b' Bs' X) : Bs.map (·.1) = Bs'.map (·.1) := by
  obtain ⟨-, r, bq, off, c, N, F, -, -, -, -, -, rfl⟩ := h
  obtain ⟨-, r', bq', off', c', N', F', -, -, -, -, -, rfl⟩ := h'
  have h1 := (hM.ats 1 _ _ _ rfl).cell (show 0 < 1 by omega)
  have h2 := (hM'.ats 1 _ _ _ rfl).cell (show 0 < 1 by omega)
  rw [h1] at h2
  have e : bq = bq' := by simp at h2; exact h2.1.1
  simp [e]
theorem sideR_kp (b : Base) (pre pre' : List (OpenS g u v)) (o o' : Obj) (Bs Bs' : Blocks) (X X' : World) (_ : SideR w g s u v i b8 (K ++ L) pre o Bs) (h' : SideR w g s u v i b8 (K ++ L) pre' o' Bs') (_ : Mem b Bs X) (hM' : Mem b Bs' X') : KpL K X X' := fun e he _ => by
  obtain ⟨-, r', bq', off', c', N', F', -, -, -, -, -, rfl⟩ := h'
  obtain ⟨j, hj⟩ := List.getElem?_of_mem he
  exact hM'.ats (j + 2) e.1 e.2.1 e.2.2 (by
    simp only [List.getElem?_cons_succ]
    rw [List.getElem?_append_left (List.getElem?_eq_some_iff.1 hj).1, hj])
theorem sideR_no (pre : List (OpenS g u v)) (o : Obj) (Bs : Blocks) (h : SideR w g s u v i b8 L pre o Bs) : o.isCells = false := by
  obtain ⟨rfl, -⟩ := h; rfl
/-- A side over which nothing new is found. -/
theorem sideR_old {pre : List (OpenS g u v)} {k : OpenS g u v} {o : Obj} {Bs : Blocks} (h : SideR w g s u v i b8 L pre o Bs) (hd : (afterS s u v (sidesN pre)).d (nxX k.1 u, nxY k.1 v) ≠ 0) : SideR w g s u v i b8 L (pre ++ [k]) o Bs := by
  unfold SideR at h ⊢
  rw [sidesN_one, afterS_one, visit1_old hd]
  exact h
end
theorem drop_new {l : List (Int × Int)} {i r : Nat} (h : i + r = l.length) (n : Int × Int) : (l ++ [n]).drop i = l.drop i ++ [n] := by
  rw [List.drop_append_of_le_length (by omega)]
theorem Mem.move32 {w : Base} {W : World} {p s n q e : Nat × Nat × (Nat → Value)} {L : Blocks} (h : Mem w (p :: s :: n :: q :: e :: L) W) : Mem w (q :: e :: p :: s :: n :: L) W :=
  h.perm ((List.perm_append_comm (l₁ := [p, s, n]) (l₂ := [q, e])).append_right L)
theorem Mem.cut3 {w : Base} {W : World} {p s n q e : Nat × Nat × (Nat → Value)} {L : Blocks} (h : Mem w (q :: e :: p :: s :: n :: L) W) : Mem w (q :: e :: L) W :=
  (h.perm ((List.perm_append_comm (l₁ := [q, e]) (l₂ := [p, s, n])).append_right L)).drop.drop.drop
theorem addK_new [DecidableEq (Int × Int)] {ks : List (Int × Int)} {n : Int × Int} (h : n ∉ ks) : addK ks n = ks ++ [n] := if_neg h
theorem sps_push {l : List (Int × Int)} (n : Int × Int) : (∀ j, j < l.length * 2 → sps (sI l) j = sps (sI (l ++ [n])) j) ∧ ∀ j, j < 2 → sp n.1 n.2 j = sps (sI (l ++ [n])) (l.length * 2 + j) :=
  ⟨fun j hj => spsI_old n hj, fun j hj => spsI_new l n.1 n.2 hj⟩
theorem sps_cons (a : Int × Int) (l : List (Int × Int)) (j : Nat) : sps (sI (a :: l)) (2 + j) = sps (sI l) j := by
  unfold sps sI
  rw [show (2 + j) % 2 = j % 2 by omega, show (2 + j) / 2 = j / 2 + 1 by omega]
  simp only [List.getD_cons_succ]
/-- The first of the queue, and the others. -/
theorem queue_first {q : List (Int × Int)} {i r off : Nat} {F : Nat → Value} {u v : Int} (hn : q[i]? = some (u, v)) (hr : i + r = q.length) (hF : ∀ j, j < r * 2 → F (off + j) = sps (sI (q.drop i)) j) :
    (∀ k, k < 2 → F (off + k) = sp u v k) ∧ ∀ j, j < (r - 1) * 2 → F (off + 2 + j) = sps (sI (q.drop (i + 1))) j := by
  obtain ⟨hi, he⟩ := List.getElem?_eq_some_iff.1 hn
  have hd : q.drop i = (u, v) :: q.drop (i + 1) := by rw [List.drop_eq_getElem_cons hi, he]
  refine ⟨fun k hk => ?_, fun j hj => ?_⟩
  · rw [hF k (by omega), hd]
    have := sps_row (sI ((u, v) :: q.drop (i + 1))) 0 k hk
    rw [Nat.zero_mul, Nat.zero_add] at this
    rw [this]; rfl
  · rw [Nat.add_assoc, hF (2 + j) (by omega), hd, sps_cons]
theorem queue_rest {q : List (Int × Int)} {r off c N : Nat} {F : Nat → Value} (hr0 : ¬ r = 0) (hrc : r ≤ c) (hN : off + c * 2 ≤ N) (hF : ∀ j, j < (r - 1) * 2 → F (off + 2 + j) = sps (sI q) j) :
    ∃ off2, (if c = 1 then off else off + 2) = off2 ∧ off2 + (c - 1) * 2 ≤ N ∧ ∀ j, j < (r - 1) * 2 → F (off2 + j) = sps (sI q) j := by
  by_cases h : c = 1
  · exact ⟨off, if_pos h, by omega, fun j hj => by omega⟩
  · exact ⟨off + 2, if_neg h, by omega, hF⟩
end Go.Proofs.YtmopcghkaapaoaaDoor

/-
  slices.Clone of a list of one spot.
-/
namespace Go.Proofs.YtmopcghkaapaoaaDoor
open Go Go.RowKit Go.BigFrame

theorem fewer {w : Base} {W : World} {p : Nat × Nat × (Nat → Value)} {L : Blocks} (h : Mem w (p :: L) W) : Mem w [p] W :=
  ⟨h.good, fun i b n f hi => by
    match i, hi with
    | 0, hi => exact h.ats 0 b n f (by simpa using hi)
    | i + 1, hi => simp at hi,
   fun i j x y hi hj hne => by
    match i, j, hi, hj with
    | 0, 0, _, _ => exact absurd rfl hne
    | 0, j + 1, _, hj => simp at hj
    | i + 1, _, hi, _ => simp at hi⟩
/-- A new list of spots, somewhere in its block. -/
def GivesO (w : World) (l : List (Int × Int)) (e : Ending) (w' : World) : Prop := ∃ b o c N F, e = .returned (.slice (some ⟨b, o, none⟩) l.length c) ∧ w.heap.size ≤ b ∧ l.length ≤ c ∧ o + c * 2 ≤ N ∧ (∀ j, j < l.length * 2 → F (o + j) = sps (sI l) j) ∧ Mem w [(b, N, F)] w'
@[go_sem] theorem spots_not_nil (p : Addr) (n c : Nat) (w : World) : (binOp BinOp.eql 41 (.slice (some p) n c) (.slice none 0 0)).run Tryd.prog w = .ok (.bool false) w := by kernel_rfl

set_option maxRecDepth 100000 in
theorem clone_one (x y : Int) (b : Nat) (w : World) (hA : At w b 2 (sp x y)) :
    Calls Tryd.prog 101 #[.slice (some ⟨b, 0, none⟩) 1 1] w (GivesO w [(x, y)]) := by
  have hM : Mem w [(b, 2, sp x y)] w := (Mem.nil w).old hA (fun i p h => by simp at h)
  have Hn1 : Hid (∀ j, j < 2 → sp x y j = sps (sI [(x, y)]) (0 * 2 + j)) := Lib.hid (fun j hj => by have := spsI_new [] x y hj; simpa using this)
  clear hA
  have tk_b1 : True := trivial
  go_enter Tryd.func101, Tryd.ntmps101
  go_wp2_with (first | (have _t := tk_b1; refine wpList_slice0 rfl _ _ rfl _ spot_under rfl hM ?_; intro b1 W' hb1 hM'; clear hM tk_b1; have hM := hM'; clear hM') | (have hM' := hM.swap; clear hM; have hM := hM'; clear hM'; refine wpList_pushO rfl _ _ _ rfl _ 2 _ _ spot_under spot_infoB rfl (by omega) b1 0 0 0 0 _ rfl hb1 (by omega) (by omega) (by omega) _ _ rfl sp_one hM (sps (sI [(x, y)])) (fun j hj => absurd hj (by omega)) Hn1.out ?_; intro bL oL cL nL FL W' hbL hcL hoL hFL hM'; clear hM; have hM := hM'; clear hM'))
  go_ret
  exact ⟨bL, oL, cL, nL, FL, rfl, hbL, hcL, hoL, hFL, fewer hM⟩
end Go.Proofs.YtmopcghkaapaoaaDoor

/-
  impl.stepsFrom of one cell, by contract.
-/
namespace Go.Proofs.YtmopcghkaapaoaaDoor
open Go Go.RowKit Go.Shelf Go.BigFrame Go.Maps
attribute [local go_sem] Oper.semAt_some

/-- At the head of the great loop: as many cells have been taken as marks are open. -/
def StepIt (w : World) (g : Nat → Int) (x y : Int) (bl b1 b2 b7 b8 m bq0 oq0 cq0 : Nat) (f7 : Nat → Value) (a : Act) (W : World) : Prop :=
  ∃ (Ds : List Nat) (s : Found) (r bq off c N : Nat) (F : Nat → Value), Ds.length ≤ 100 ∧ s = foundAt (nbOf g) (found0 (x, y)) Ds.length ∧ Ds.length + r = s.q.length ∧ w.heap.size ≤ bq ∧ r ≤ c ∧ off + c * 2 ≤ N ∧ (∀ j, j < r * 2 → F (off + j) = sps (sI (s.q.drop Ds.length)) j) ∧
    Ds.Nodup ∧ (∀ D, D ∈ Ds → w.heap.size ≤ D) ∧ m ∉ Ds ∧
    Mem (((Base.of w).marks Ds).with m (mapO spV s.q (stV s.d)) rfl) [(bq, N, F), (b8, 1, fun _ => .slice (some ⟨bq, off, none⟩) r c), (b7, 2, f7), (b2, 1, fun _ => .map (some m)), (b1, 122, pas g), (bl, 2, sp x y)] W ∧
    ∃ u9 u10 u11 u12 u25 u26 u27 u28 u29 u30 u31 u32 u33 u34 u35 u36 u37 u38 u39 u40 u41 u42 u43 u44 u45 u46 u47 u48 u49 u50 u51 u52 u53 u54 u55 : Value, a = { tmps := #[.agg (arr 122 (pas g)), .slice (some ⟨bl, 0, none⟩) 1 1, .pointer (some ⟨b1, 0, none⟩), undef, .map none, .pointer (some ⟨b2, 0, none⟩), undef, .pointer (some ⟨b7, 0, none⟩), .pointer (some ⟨b8, 0, none⟩), u9, u10, u11, u12, .map (some m), .slice (some ⟨bl, 0, none⟩) 1 1, .int .i64 1, .int .i64 1, .bool false, .pointer (some ⟨bl, 0, none⟩), .agg (arr 2 (sp x y)), .map (some m), .agg (arr 2 (sp x y)), .int .i64 1, .slice (some ⟨bl, 0, none⟩) 1 1, .slice (some ⟨bq0, oq0, none⟩) 1 cq0, u25, u26, u27, u28, u29, u30, u31, u32, u33, u34, u35, u36, u37, u38, u39, u40, u41, u42, u43, u44, u45, u46, u47, u48, u49, u50, u51, u52, u53, u54, u55], defers := Ds.map fun D => { target := .collected D, args := #[] } }

set_option maxRecDepth 100000 in
set_option maxHeartbeats 4000000 in
theorem stepsFrom_one (g : Nat → Int) (hg : Fits g) (ho : okB g = true) (x y : Nat) (hx : x ≤ 9) (hy : y ≤ 9) (bl : Nat) (w : World) (hA : At w bl 2 (sp x y)) :
    Calls Tryd.prog 72 #[.agg (arr 122 (pas g)), .slice (some ⟨bl, 0, none⟩) 1 1] w (GivesM w (foundOf (nbOf g) ((x : Int), (y : Int)))) := by
  have hM : Mem w [(bl, 2, sp x y)] w := (Mem.nil w).old hA (fun i p h => by simp at h)
  have hin0 : In10 ((x : Int), (y : Int)) := ⟨by show (0 : Int) ≤ x; omega, by show (x : Int) ≤ 9; omega, by show (0 : Int) ≤ y; omega, by show (y : Int) ≤ 9; omega⟩
  have hok : SpotOk ((x : Int), (y : Int)) := ⟨by show (-128 : Int) ≤ x; omega, by show (x : Int) ≤ 127; omega, by show (-128 : Int) ≤ y; omega, by show (y : Int) ≤ 127; omega⟩
  refine (callsIn_wide (n := 3)).1 ?_
  refine callsIn_of_wp_marks Tryd.func72 rfl trivial ?_ rfl
  simp only [Tryd.ntmps72, List.size_toArray, List.length_cons, List.length_nil, Nat.reduceAdd, Nat.reduceSub, Array.replicate_succ, Array.replicate_zero, List.push_toArray, List.append_toArray, List.nil_append, List.cons_append]
  refine wpIn_wide.2 ?_
  have tk_b1 : True := trivial; have tk_m1 : True := trivial; have tk_b2 : True := trivial; have tk_s1 : True := trivial
  go_wp2_with (first | (have _t := tk_b1; refine wpList_box rfl _ _ rfl _ _ rfl hM ?_; intro b1 W' hb1 hM'; clear hM tk_b1; have hM := hM'; clear hM') | (have _t := tk_m1; refine wpList_makeMap rfl _ rfl (kv := spV) (fun _ => undef) hM ?_; intro m W' hm hm2 hM'; clear hM tk_m1; have hM := hM'; clear hM') | (have _t := tk_b2; refine wpList_zero1 rfl _ rfl map_zero rfl hM ?_; intro b2 W' hb2 hM'; clear hM tk_b2; have hM := hM'; clear hM') | (have _t := tk_s1; refine wpList_set1 rfl _ _ _ rfl _ _ rfl (.map (some m)) rfl rfl hM 0 rfl (by assumption) (cellTab _ rfl) (by omega) ?_; intro W' hM'; clear hM tk_s1; have hM := hM'; clear hM'; simp only [List.set] at hM))
  have hl : (Base.of w).Lets m := lets_of hm
  refine wp_loop_rounds 2 ?_
  rw [rounds_succ]
  have tk_g1 : True := trivial; have tk_b7 : True := trivial; have tk_l1 : True := trivial; have tk_g2 : True := trivial; have tk_g3 : True := trivial; have tk_s2 : True := trivial
  go_wp2_with (first | (have _t := tk_g1; refine wpList_getE rfl _ _ rfl _ _ rfl hM 2 rfl (rowTab _ _ rfl) (by omega) (sp x y) (fun k hk => by rw [Nat.zero_add]) ?_; clear tk_g1) | (have _t := tk_b7; refine wpList_zero rfl _ rfl (zeroTab _ _ _ rfl) hM ?_; intro b7 W' hb7 hM'; clear hM tk_b7; have hM := hM'; clear hM') | (have _t := tk_l1; (refine wpList_lay rfl _ _ _ rfl _ _ rfl _ _ rfl hM 0 rfl (by assumption) (rowTab _ _ rfl) (by omega) ?_ ?_; (first | (intro _ _; rfl) | (intro k _; exact h1 _) | (intro k _; simp only [lay, upd]; (repeat' split) <;> first | exact h1 _ | rfl)); intro W' hM'; clear hM; have hM := hM'; clear hM'; simp only [List.set] at hM); clear tk_l1) | (have _t := tk_g2; (refine wpList_get1 rfl _ _ rfl _ _ rfl hM 1 rfl (cellTab _ rfl) (by omega) _ rfl ?_); clear tk_g2) | (have _t := tk_g3; refine wpList_getE rfl _ _ rfl _ _ rfl hM 0 rfl (rowTab _ _ rfl) (by omega) (sp x y) (lay_sp0' _ _ _) ?_; clear tk_g3) | (have _t := tk_s2; refine wpList_mapSet rfl _ _ _ _ rfl rfl ((x : Int), (y : Int)) rfl (.int .i64 0) rfl spotT map_under hM hl (by simp) (by simp) hok ?_; intro W' hM'; clear hM tk_s2; have hM := hM'; clear hM'))
  have hmap : mapO spV (addK [] ((x : Int), (y : Int))) (updK (fun _ => undef) ((x : Int), (y : Int)) (.int .i64 0)) = mapO spV (found0 ((x : Int), (y : Int))).q (stV (found0 ((x : Int), (y : Int))).d) := by
    have e1 : addK [] ((x : Int), (y : Int)) = [((x : Int), (y : Int))] := by simp [addK]
    rw [e1]
    unfold mapO
    rw [ents_congr (g := stV (found0 ((x : Int), (y : Int))).d) (fun k hk => by
      have : k = ((x : Int), (y : Int)) := by simpa using hk
      subst this
      simp [updK, stV, found0, updI])]
    rfl
  rw [rounds_succ]
  have tk_z8 : True := trivial; have tk_s3 : True := trivial
  go_wp2_with (first | (go_at_call 101; refine (clone_one _ _ bl _ (hM.ats 3 _ _ _ rfl)).mono ?_; rintro e W' ⟨bq, oq, cq, Nq, Fq, rfl, hbq, hcq, hoq, hFq, hMq⟩; have hbqw : w.heap.size ≤ bq := Nat.le_trans hM.size hbq; have hM' := hM.freshH hMq.below hMq.at0 hbq; clear hM hMq; have hM := hM'; clear hM') | (have _t := tk_z8; refine wpList_zero1 rfl _ rfl spots_zero1 rfl hM ?_; intro b8 W' hb8 hM'; clear hM tk_z8; have hM := hM'; clear hM') | (have _t := tk_s3; refine wpList_set1 rfl _ _ _ rfl _ _ rfl (.slice (some ⟨bq, oq, none⟩) 1 cq) rfl rfl hM 0 rfl (by assumption) (cellTab _ rfl) (by omega) ?_; intro W' hM'; clear hM tk_s3; have hM := hM'; clear hM'; simp only [List.set] at hM))
  have hM1 := hM.re 0 rfl (fun _ => .slice (some ⟨bq, oq, none⟩) 1 cq) (fun k hk => by
    obtain rfl : k = 0 := by omega
    rfl)
  simp only [List.set_cons_zero] at hM1
  have hM2 := hM1.re 3 rfl (fun _ => .map (some m)) (fun k hk => by
    obtain rfl : k = 0 := by omega
    rfl)
  simp only [List.set_cons_succ, List.set_cons_zero] at hM2
  simp only [hmap] at hM2
  clear hM hM1
  have hM := hM2.swap
  clear hM2
  have hb2' : w.heap.size ≤ b2 := hb2
  have hb8' : w.heap.size ≤ b8 := hb8
  have hmW : w.heap.size ≤ m := hm
  refine (wpIn_wide (n := 3)).1 ?_
  refine wpIn_loop (StepIt w g (x : Int) (y : Int) bl b1 b2 b7 b8 m bq oq cq (lay (fun _ => .int .i8 0) 0 2 (sp (x : Int) (y : Int)))) (fun a _ => 100 - a.defers.length) ?start ?round
  case start =>
    refine ⟨[], _, 1, bq, oq, cq, Nq, Fq, by simp, rfl, rfl, hbqw, hcq, hoq, ?_, List.nodup_nil, fun D hD => by simp at hD, by simp, hM, undef, undef, undef, undef, undef, undef, undef, undef, undef, undef, undef, undef, undef, undef, undef, undef, undef, undef, undef, undef, undef, undef, undef, undef, undef, undef, undef, undef, undef, undef, undef, undef, undef, undef, undef, rfl⟩
    · intro j hj
      exact hFq j (by simpa using hj)
  case round =>
    clear hM hmap
    intro a0 W0 hI
    obtain ⟨Ds, s, r, bq1, off, c, N, F, hlen, hs, hr, hbq1, hrc, hN, hF, hnd, hDs, hmD, hM, u9, u10, u11, u12, u25, u26, u27, u28, u29, u30, u31, u32, u33, u34, u35, u36, u37, u38, u39, u40, u41, u42, u43, u44, u45, u46, u47, u48, u49, u50, u51, u52, u53, u54, u55, rfl⟩ := hI
    have hG : s.Good In10 := by rw [hs]; exact good_at (good_0 hin0) (fun k hk n hn => nb_in ho hn) _
    have hq100 := good_100 hG
    have hcg : w.heap.size ≤ (Base.of w).B := Nat.le_refl _
    by_cases hr0 : r = 0
    · subst hr0
      have HF := Lib.hid hF
      have Hs := Lib.hid hs
      have Hr := Lib.hid hr
      have HG := Lib.hid hG
      clear hF hs hr hG
      refine wpIn_wide.2 ?_
      have tk_r1 : True := trivial
      go_wp2_with (first | (have _t := tk_r1; (refine wpList_get1 rfl _ _ rfl _ _ rfl hM 1 rfl spots_cell (by omega) _ rfl ?_); clear tk_r1) | (refine wpList_get1 rfl _ _ rfl _ _ rfl hM 3 rfl (cellTab _ rfl) (by omega) _ rfl ?_))
      have hfo : s = foundOf (nbOf g) ((x : Int), (y : Int)) := by rw [Hs.out]; exact found_all hlen (by rw [← Hs.out]; have := Hr.out; omega)
      have hsh := shut_below Ds (marks_good Ds hM.good.1) hDs
      have hmo := shut_obj Ds hM.good.2 hmD
      rw [hfo] at hmo
      exact leave_marksL (.map (some m)) Ds (marks_get Ds hM.good.1) hnd (by rw [results_tmp rfl]; rfl) ⟨m, rfl, hmW, Mem.start ⟨hsh, hmo⟩⟩
    · obtain ⟨now, hnow⟩ : ∃ now, s.q[Ds.length]? = some now := ⟨s.q[Ds.length]'(by omega), List.getElem?_eq_getElem _⟩
      obtain ⟨u, v, rfl, hu, hv⟩ := nat_of_in (hG.cells now (List.mem_of_getElem? hnow))
      obtain ⟨hF0, hF1⟩ := queue_first hnow hr hF
      obtain ⟨off2, hoff, hN2, hF2⟩ := queue_rest (c := c) (N := N) hr0 hrc hN hF1
      have hB8 : (((Base.of w).marks Ds).with m (mapO spV s.q (stV s.d)) rfl).B ≤ b8 := by
        show ((Base.of w).marks Ds).B ≤ b8
        rw [marks_B]; exact hb8'
      have l1 : 0 < r := by omega
      have l2 : (0 : Int) < r := by omega
      have HF0 := Lib.hid hF0
      have Hoff := Lib.hid hoff
      have HF2 := Lib.hid hF2
      have Hs := Lib.hid hs
      have Hr := Lib.hid hr
      have HG := Lib.hid hG
      have Hnow := Lib.hid hnow
      clear hF hs hr hG hF0 hF1 hoff hF2 hnow
      refine wpIn_wide.2 ?_
      have tk_r1 : True := trivial; have tk_r2 : True := trivial; have tk_r3 : True := trivial; have tk_b9 : True := trivial; have tk_l9 : True := trivial; have tk_r4 : True := trivial; have tk_s8 : True := trivial; have tk_r5 : True := trivial; have tk_r6 : True := trivial; have tk_c1 : True := trivial
      go_wp2_with (first | (have _t := tk_r1; (refine wpList_get1 rfl _ _ rfl _ _ rfl hM 1 rfl spots_cell (by omega) _ rfl ?_); clear tk_r1) | (have _t := tk_r2; (refine wpList_get1 rfl _ _ rfl _ _ rfl hM 1 rfl spots_cell (by omega) _ rfl ?_); clear tk_r2) | (have _t := tk_r3; refine wpList_getE rfl _ _ rfl _ _ rfl hM 0 rfl (rowTab _ _ rfl) (by omega) (sp u v) HF0.out ?_; clear tk_r3) | (have _t := tk_b9; refine wpList_zero rfl _ rfl (zeroTab _ _ _ rfl) hM ?_; intro b9 W' hb9 hM'; clear hM tk_b9; have hM := hM'; clear hM') | (have _t := tk_l9; (refine wpList_lay rfl _ _ _ rfl _ _ rfl _ _ rfl hM 0 rfl (by assumption) (rowTab _ _ rfl) (by omega) ?_ ?_; (first | (intro _ _; rfl) | (intro k _; exact h1 _) | (intro k _; simp only [lay, upd]; (repeat' split) <;> first | exact h1 _ | rfl)); intro W' hM'; clear hM; have hM := hM'; clear hM'; simp only [List.set] at hM); clear tk_l9) | (have _t := tk_r4; (refine wpList_get1 rfl _ _ rfl _ _ rfl hM 2 rfl spots_cell (by omega) _ rfl ?_); clear tk_r4) | ((refine wpList_rest rfl _ _ _ rfl 2 spot_under (by kernel_rfl) bq1 off r c rfl (by omega) hrc ?_); rw [Hoff.out]) | (have _t := tk_s8; refine wpList_set1 rfl _ _ _ rfl _ _ rfl (.slice (some ⟨bq1, off2, none⟩) (r - 1) (c - 1)) rfl rfl hM 2 rfl (by assumption) spots_cell (by omega) ?_; intro W' hM'; clear hM tk_s8; have hM := hM'; clear hM'; simp only [List.set_cons_succ, List.set_cons_zero] at hM) | (have _t := tk_r5; (refine wpList_get rfl _ _ rfl _ _ rfl hM 5 rfl (rowTab _ _ rfl) (by omega) ?_); clear tk_r5) | (have _t := tk_r6; refine wpList_getE rfl _ _ rfl _ _ rfl hM 0 rfl (rowTab _ _ rfl) (by omega) (sp u v) (lay_sp0' _ _ _) ?_; clear tk_r6) | (have _t := tk_c1; go_at_call 102; refine (beside_any g (u : Int) (v : Int) _).mono ?_; rintro e W' ⟨bp, bs, rfl, hbp, hbs, hMb⟩; have hM' := hM.freshK hMb (fun p hp => by simp at hp; rcases hp with rfl | rfl <;> assumption); clear hM hMb tk_c1; have hM := hM'; clear hM'))
      simp only [besK, List.cons_append, List.nil_append] at hM
      have hM1 := hM.re 2 rfl (sp (u : Int) (v : Int)) (fun k hk => by rw [← lay_sp0' _ (u : Int) (v : Int) k hk, Nat.zero_add])
      simp only [List.set_cons_succ, List.set_cons_zero] at hM1
      have hM2 := hM1.re 4 rfl (fun _ => .slice (some ⟨bq1, off2, none⟩) (r - 1) (c - 1)) (fun k hk => by
        obtain rfl : k = 0 := by omega
        rfl)
      simp only [List.set_cons_succ, List.set_cons_zero] at hM2
      clear hM hM1
      have hM := hM2.move32
      clear hM2
      refine (wpIn_wide (n := 3)).1 ?_
      refine range_relM (α := OpenS g u v) (px := fun k => nxX k.1 u) (py := fun k => nxY k.1 v) (w := w) m Ds (SideR w g s u v (Ds.length + 1) b8 (besK bp bs g u v ++ [(b9, 2, sp u v), (b7, 2, lay (fun _ => .int .i8 0) 0 2 (sp (x : Int) (y : Int))), (b2, 1, fun _ => .map (some m)), (b1, 122, pas g), (bl, 2, sp (x : Int) (y : Int))])) (mapO spV s.q (stV s.d)) _ (N := 4)
        rfl (enters_of Tryd.func122 (by kernel_rfl) rfl) (beside1_stopsT bp bs g hg ho u v ⟨by omega, by omega⟩ ⟨by omega, by omega⟩ _ (hM.ats 2 _ _ _ rfl) (hM.ats 3 _ _ _ rfl)) (fun h k => kpL_t h k) (fun X l o o' h ho => kpL_b X l o o' h ho)
        sideR_no (Array.getElem?_eq_some_iff.1 hM.good.2).1 (marks_get Ds hM.good.1) sideR_det sideR_kp rfl rfl rfl rfl rfl rfl (by decide) (by simp) (by simp)
        ⟨rfl, r - 1, bq1, off2, c - 1, N, F, (by have := Hr.out; show Ds.length + 1 + (r - 1) = s.q.length; omega), hbq1, by omega, hN2, HF2.out, rfl⟩ (hM.base (marks_good Ds hM.good.1)) hM.good.2 ?body ?done
      case body =>
        intro l pre k bx X o ho' Bs hbx hI hMr hlen
        have hI0 := Lib.hid hI
        have hGa := good_after ho HG.out (u : Int) (v : Int) (sidesN pre) (sidesN_in pre)
        have hqa := after_q Hnow.out (u : Int) (v : Int) (sidesN pre)
        obtain ⟨rfl, r1, bq2, off3, c1, N1, F1, hr1, hbq2, hrc1, hN1, hF1, rfl⟩ := hI
        have hone := Lib.hid (sidesN_one pre k)
        generalize hs2 : afterS s (u : Int) (v : Int) (sidesN pre) = s2 at hMr hGa hqa hr1 hF1
        have Hs2 := Lib.hid hs2
        clear hs2
        have hk10 := open_in ho (openS_in k)
        have hkok := in10_ok hk10
        have huvok := in10_ok (hGa.cells _ (List.mem_of_getElem? hqa))
        have hq2 := good_100 hGa
        have hlM : ((Base.round w W'.heap.size X).marks Ds).Lets m := lets_marks (lets_round hmW (Array.getElem?_eq_some_iff.1 hM.good.2).1) Ds hmD
        have hB8r : ∀ (O : Obj) (h : O.isCells = false), (((Base.round w W'.heap.size X).marks Ds).with m O h).B ≤ b8 := fun O h => by
          show ((Base.round w W'.heap.size X).marks Ds).B ≤ b8
          rw [marks_B]; exact hb8'
        have hBqr : ∀ (O : Obj) (h : O.isCells = false), (((Base.round w W'.heap.size X).marks Ds).with m O h).B ≤ bq2 := fun O h => by
          show ((Base.round w W'.heap.size X).marks Ds).B ≤ bq2
          rw [marks_B]; exact hbq2
        have hks : ∀ j, j ∈ s2.q → SpotOk j := fun j hj => in10_ok (hGa.cells j hj)
        have huv : ((u : Int), (v : Int)) ∈ s2.q := List.mem_of_getElem? hqa
        have hdl := hGa.low ((u : Int), (v : Int))
        have hdh := hGa.high ((u : Int), (v : Int))
        have cw : IntKind.i64.wrap (s2.d ((u : Int), (v : Int)) - 1 + 1) = s2.d ((u : Int), (v : Int)) := by rw [show s2.d ((u : Int), (v : Int)) - 1 + 1 = s2.d ((u : Int), (v : Int)) by omega]; exact IntWalk.i64_in _ (by omega)
        have Hnd := Lib.hid hGa.nodup
        have Hmem := Lib.hid hGa.mem
        have HF1 := Lib.hid hF1
        have Hr1 := Lib.hid hr1
        have Hk := Lib.hid hks
        have Hl := Lib.hid hlM
        have HB8 := Lib.hid hB8r
        have HBq := Lib.hid hBqr
        clear hGa hqa hF1 hks hlM hB8r hBqr hM hdl hdh
        have hM := hMr
        clear hMr
        simp only [besK, List.cons_append, List.nil_append] at hM
        by_cases hd : s2.d (nxX k.1 u, nxY k.1 v) = 0
        · have hno : (nxX k.1 (u : Int), nxY k.1 (v : Int)) ∉ s2.q := fun h => (Hmem.out _).1 h hd
          have Hd := Lib.hid hd
          have Hcw := Lib.hid cw
          clear hd cw
          refine wpIn_block (wpIn_seq (region_round (fun ⟨_, _, h⟩ => h) rfl ?_))
          have tk_t1 : True := trivial; have tk_t2 : True := trivial; have tk_t3 : True := trivial
          go_wp2_with (first | (have _t := tk_t1; refine wpList_get1 rfl _ _ rfl _ _ rfl hM 7 rfl (cellTab _ rfl) (by omega) _ rfl ?_; clear tk_t1) | (have _t := tk_t2; refine wpList_getE rfl _ _ rfl _ _ rfl hM 0 rfl (rowTab _ _ rfl) (by omega) (sp (nxX k.1 u) (nxY k.1 v)) (fun k hk => by rw [Nat.zero_add]) ?_; clear tk_t2) | (have _t := tk_t3; refine wpList_look_out rfl _ _ _ rfl rfl (nxX k.1 (u : Int), nxY k.1 (v : Int)) rfl spotT map_under (.int .i64 0) zero_i64 hM.good.2 Hk.out hkok hno ?_; clear tk_t3))
          refine wpIn_seq (region_round (fun ⟨_, _, h⟩ => h) rfl ?_)
          go_wp2
          refine wpIn_cond_true rfl (wpIn_seq ?_)
          have cw := Hcw.out
          have cw2 : IntKind.i64.wrap (s2.d ((u : Int), (v : Int))) = s2.d ((u : Int), (v : Int)) := by
            have h := cw
            rwa [show s2.d ((u : Int), (v : Int)) - 1 + 1 = s2.d ((u : Int), (v : Int)) by omega] at h
          ((try simp only [Act.put, List.setIfInBounds_toArray, List.set_cons_succ, List.set_cons_zero]); refine region_round_tail (m := 6) (fun ⟨_, _, h⟩ => h) rfl (by kernel_rfl) (by kernel_rfl) ?_; (have hM' := hM.drew); clear hM; have hM := hM'; clear hM'; simp only [List.take_succ_cons, List.take_zero, List.drop_succ_cons, List.drop_zero]; (repeat (refine wps_plain rfl ?_; (first | (refine still_get1 hM _ _ rfl _ _ rfl 7 rfl (cellTab _ rfl) (by omega) (.map (some m)) rfl ?_) | (refine still_getE hM _ _ rfl _ _ rfl 0 rfl (rowTab _ _ rfl) (by omega) (sp (nxX k.1 u) (nxY k.1 v)) (fun k hk => by rw [Nat.zero_add]) ?_) | (refine still_getE hM _ _ rfl _ _ rfl 5 rfl (rowTab _ _ rfl) (by omega) (sp u v) (fun k hk => by rw [Nat.zero_add]) ?_) | (refine still_look _ _ _ rfl rfl ((u : Int), (v : Int)) rfl spotT map_under (.int .i64 0) zero_i64 hM.good.2 Hk.out huvok huv (.int .i64 (s2.d ((u : Int), (v : Int)) - 1)) rfl ?_) | (refine still_val ?_; apply Exists.intro; refine ⟨fun W => ?_, ?_⟩; (go_simp; (try simp only [cw, cw2, if_true]); rfl))); (simp only [Act.put, List.setIfInBounds_toArray, List.set_cons_succ, List.set_cons_zero]))); unfold wpStill)
          refine wpList_mapSet rfl _ _ _ _ rfl rfl (nxX k.1 (u : Int), nxY k.1 (v : Int)) rfl (.int .i64 (s2.d ((u : Int), (v : Int)))) rfl spotT map_under hM Hl.out Hnd.out Hk.out hkok ?_
          intro X3 hM'
          simp only [addK_new hno, stV_upd] at hM'
          clear hM cw cw2
          have hM := hM'.swap
          clear hM'
          unfold wpList
          have Hsp := Lib.hid (sps_push (l := s2.q.drop (Ds.length + 1)) (nxX k.1 (u : Int), nxY k.1 (v : Int)))
          have Hlen : Hid ((s2.q.drop (Ds.length + 1)).length = r1) := Lib.hid (by rw [List.length_drop]; have := Hr1.out; omega)
          have Hdr := Lib.hid (drop_new Hr1.out (nxX k.1 (u : Int), nxY k.1 (v : Int)))
          have Hnew : Hid (afterS s (u : Int) (v : Int) (sidesN (pre ++ [k])) = ⟨s2.q ++ [(nxX k.1 (u : Int), nxY k.1 (v : Int))], updI s2.d (nxX k.1 (u : Int), nxY k.1 (v : Int)) (s2.d ((u : Int), (v : Int)) + 1)⟩) := Lib.hid (by rw [hone.out, afterS_one, Hs2.out, visit1_new Hd.out])
          refine region_round (fun ⟨_, _, h⟩ => h) rfl ?_
          have tk_t4 : True := trivial; have tk_t5 : True := trivial; have tk_b3 : True := trivial; have tk_p1 : True := trivial; have tk_s9 : True := trivial
          go_wp2_with (first | (have _t := tk_t4; refine wpList_get1 rfl _ _ rfl _ _ rfl hM 2 rfl spots_cell (by omega) _ rfl ?_; clear tk_t4) | (have _t := tk_t5; refine wpList_getE rfl _ _ rfl _ _ rfl hM 1 rfl (rowTab _ _ rfl) (by omega) (sp (nxX k.1 u) (nxY k.1 v)) (fun k hk => by rw [Nat.zero_add]) ?_; clear tk_t5) | (have _t := tk_b3; refine wpList_slice1 rfl _ _ _ rfl _ _ rfl _ spot_under spot_info (by omega) (by omega) hM ?_; intro b3 W' hb3 hM'; clear hM tk_b3; have hM := hM'; clear hM') | (have _t := tk_p1; refine wpList_pushO rfl _ _ _ rfl _ 2 2 _ spot_under spot_infoB rfl (by omega) bq2 off3 r1 c1 N1 F1 rfl (HBq.out _ _) hrc1 hN1 (by omega) b3 (sp (nxX k.1 u) (nxY k.1 v)) rfl (fun _ _ => rfl) hM (sps (sI ((s2.q ++ [(nxX k.1 (u : Int), nxY k.1 (v : Int))]).drop (Ds.length + 1)))) (fun j hj => by rw [HF1.out j hj, Hdr.out]; exact Hsp.out.1 j (by rw [Hlen.out]; exact hj)) (fun j hj => by rw [Hdr.out, Hsp.out.2 j hj, Hlen.out]) ?_; intro bq3 off4 c2 N2 F2 X4 hbq3 hc2 hN3 hF2 hM'; clear hM tk_p1; have hM := hM'; clear hM'; have HF2' := Lib.hid hF2; clear hF2) | (have _t := tk_s9; refine wpList_set1 rfl _ _ _ rfl _ _ rfl (.slice (some ⟨bq3, off4, none⟩) (r1 + 1) c2) rfl rfl hM 2 rfl (HB8.out _ _) spots_cell (by omega) ?_; intro X5 hM'; clear hM tk_s9; have hM := hM'; clear hM'; simp only [List.set_cons_succ, List.set_cons_zero] at hM))
          have hM1 := hM.re 2 rfl (fun _ => .slice (some ⟨bq3, off4, none⟩) (r1 + 1) c2) (fun k hk => by
            obtain rfl : k = 0 := by omega
            rfl)
          simp only [List.set_cons_succ, List.set_cons_zero] at hM1
          refine ⟨mapO spV (s2.q ++ [(nxX k.1 (u : Int), nxY k.1 (v : Int))]) (stV (updI s2.d (nxX k.1 (u : Int), nxY k.1 (v : Int)) (s2.d ((u : Int), (v : Int)) + 1))), rfl, _, ?_, hM1.skip⟩
          unfold SideR
          rw [Hnew.out]
          refine ⟨rfl, r1 + 1, bq3, off4, c2, N2, F2, ?_, ?_, hc2, hN3, HF2'.out, rfl⟩
          · have := Hr1.out
            simp only [List.length_append, List.length_singleton]; omega
          · have h := hbq3
            change ((Base.round w _ X).marks Ds).B ≤ bq3 at h
            rw [marks_B] at h
            exact h
        · have hin : (nxX k.1 (u : Int), nxY k.1 (v : Int)) ∈ s2.q := (Hmem.out _).2 hd
          have hold := Lib.hid (sideR_old (k := k) hI0.out (by rw [Hs2.out]; exact hd))
          clear hd cw
          refine wpIn_block (wpIn_seq (region_round (fun ⟨_, _, h⟩ => h) rfl ?_))
          have tk_t1 : True := trivial; have tk_t2 : True := trivial; have tk_t3 : True := trivial
          go_wp2_with (first | (have _t := tk_t1; refine wpList_get1 rfl _ _ rfl _ _ rfl hM 7 rfl (cellTab _ rfl) (by omega) _ rfl ?_; clear tk_t1) | (have _t := tk_t2; refine wpList_getE rfl _ _ rfl _ _ rfl hM 0 rfl (rowTab _ _ rfl) (by omega) (sp (nxX k.1 u) (nxY k.1 v)) (fun k hk => by rw [Nat.zero_add]) ?_; clear tk_t2) | (have _t := tk_t3; refine wpList_look_in rfl _ _ _ rfl rfl (nxX k.1 (u : Int), nxY k.1 (v : Int)) rfl spotT map_under (.int .i64 0) zero_i64 hM.good.2 Hk.out hkok hin ?_; clear tk_t3))
          refine wpIn_seq (region_round (fun ⟨_, _, h⟩ => h) rfl ?_)
          go_wp2
          refine wpIn_cond_false rfl (wpIn_skip ?_)
          have hs2 := Hs2.out
          subst hs2
          exact ⟨_, rfl, _, hold.out, hM.drop⟩
      case done =>
        intro D xs X o ho' Bs hD hS hI hMr hK
        have hS' : sidesN xs = openL g (u : Int) (v : Int) 4 := hS
        obtain ⟨rfl, r1, bq2, off3, c1, N1, F1, hr1, hbq2, hrc1, hN1, hF1, rfl⟩ := hI
        have hst : afterS s (u : Int) (v : Int) (sidesN xs) = foundAt (nbOf g) (found0 ((x : Int), (y : Int))) (Ds.length + 1) := by
          rw [hS', afterS_all, found_step (now := ((u : Int), (v : Int))) (by rw [← Hs.out]; exact Hnow.out), ← Hs.out]
        generalize hs2 : afterS s (u : Int) (v : Int) (sidesN xs) = s2 at hMr hr1 hF1 hst
        have hlt : ∀ E, E ∈ Ds → E < W'.heap.size := fun E hE => (Array.getElem?_eq_some_iff.1 (marks_get Ds hM.good.1 E hE)).1
        have hmlt : m < W'.heap.size := (Array.getElem?_eq_some_iff.1 hM.good.2).1
        have hWs : w.heap.size ≤ W'.heap.size := Nat.le_trans (Nat.le_of_eq (marks_B (Base.of w) Ds).symm) hM.size
        have hr2 := Hr.out
        show _ ∧ _
        refine ⟨⟨D :: Ds, s2, r1, bq2, off3, c1, N1, F1, by simp only [List.length_cons]; omega, hst, by simpa using hr1, hbq2, hrc1, hN1, by simpa using hF1, List.nodup_cons.2 ⟨fun h => by have := hlt D h; omega, hnd⟩, fun E hE => ?_, fun h => ?_, ?_, _, _, _, _, _, _, _, _, _, _, _, _, _, _, _, _, _, _, _, _, _, _, _, _, _, _, _, _, _, _, _, _, _, _, _, rfl⟩, ?_⟩
        · rcases List.mem_cons.1 hE with rfl | hE
          · omega
          · exact hDs E hE
        · rcases List.mem_cons.1 h with rfl | h
          · omega
          · exact hmD h
        · have hM3 : Mem (((Base.of w).marks (D :: Ds)).with m (mapO spV s2.q (stV s2.d)) rfl) _ X := hMr.base ⟨⟨hMr.good.1, hK⟩, hMr.good.2⟩
          simp only [besK, List.cons_append, List.nil_append] at hM3
          exact hM3.cut3
        · simp; omega
end Go.Proofs.YtmopcghkaapaoaaDoor

