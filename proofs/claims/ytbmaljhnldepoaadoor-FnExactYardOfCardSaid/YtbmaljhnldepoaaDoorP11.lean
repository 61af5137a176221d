/-
  Several texts in one: StepsKit, Keys, RangeW, SeqKeys, SortRow, SortLay, InOrder, Clone.
-/
import Derived.Test.YtbmaljhnldepoaaDoorP10
import Derived.Test.YtbmaljhnldepoaaDoorP7
import Derived.Test.YtbmaljhnldepoaaDoorP9
import Derived.Sort.MapsRangeIn
import Derived.Test.YtbmaljhnldepoaaDoorP8
import Derived.Shelf.GgSortFunc.InsertionK
import Derived.Shelf.SlLaysF0
import Derived.Shelf.SlGeneric
import Derived.Ground.SlsfProg
import Derived.Test.YtbmaljhnldepoaaDoorProg
import Derived.Shelf.SlSortCmp.NoneTotal
/-
  PLAIN LAWS for a search that keeps a map and a queue: several new blocks at once, lookups told by case, reads in a tail; what the rounds over the sides leave.
-/
namespace Go.Proofs.YtbmaljhnldepoaaDoor
open Go Go.RowKit Go.Shelf Go.BigFrame Go.Maps

theorem Mem.freshK {b0 : Base} {L K : Blocks} {X X' : World} (hM : Mem b0 L X) (hK : Mem (Base.of X) K X') (hge : ∀ p, p ∈ K → X.heap.size ≤ p.1) : Mem b0 (K ++ L) X' := by
  have hb : Below X.heap.size X X' := hK.good
  have hM2 := hM.call hb
  have off : ∀ (i j : Nat) (p q : Nat × Nat × (Nat → Value)), K[i]? = some p → L[j]? = some q → p.1 ≠ q.1 := fun i j p q hi hj e => by
    have h1 := (hM.ats j q.1 q.2.1 q.2.2 hj).lt
    have h2 := hge p (List.mem_of_getElem? hi)
    omega
  refine ⟨hM2.good, fun i b n f hi => ?_, fun i j p q hi hj hne => ?_⟩
  · rw [List.getElem?_append] at hi
    split at hi
    · exact hK.ats i b n f hi
    · exact hM2.ats _ b n f hi
  · rw [List.getElem?_append] at hi hj
    split at hi <;> split at hj
    · exact hK.apart i j p q hi hj hne
    · exact off _ _ p q hi hj
    · exact (off _ _ q p hj hi).symm
    · exact hM2.apart _ _ p q hi hj (by omega)

section
variable {P : Program} {ops : Array Oper} {rest : List Oper} {o : Oper} {a : Act} {w : Base} {W : World} {Q : Exit → Act → World → Prop} {L : Blocks} {J : Act → Prop}
variable {K : Type} {kv : K → Value} {ok : K → Prop} {ks : List K} {f : K → Value} {kt et : TypeId} {m : Nat}
/-- 'v, ok := m[k]' where k is there; where it is not. -/
theorem wpList_look_in [DecidableEq K] (hgd : o.guard = none) (t : TypeId) (x y : Operand) (ho : o.op = .lookup t x y true) (hx : a.eval x = .map (some m)) (k : K) (hy : a.eval y = kv k)
    (T : KeyTold P kt kv ok) (ht : P.underlying t = some (.map kt et)) (z : Value) (hz : ∀ W, (zeroValue et).run P W = .ok z W) (hm : W.heap[m]? = some (mapO kv ks f)) (hks : ∀ k, k ∈ ks → ok k) (hk : ok k) (hin : k ∈ ks)
    (h : wpList P ops Q rest (a.put o.dst (.tuple #[f k, .bool true])) W) : wpList P ops Q (o :: rest) a W := by
  refine wpList_lookup hgd t x y true ho hx k hy T ht z hz hm hks hk ?_
  rw [if_pos rfl, if_pos hin, decide_eq_true hin]; exact h
theorem wpList_look_out [DecidableEq K] (hgd : o.guard = none) (t : TypeId) (x y : Operand) (ho : o.op = .lookup t x y true) (hx : a.eval x = .map (some m)) (k : K) (hy : a.eval y = kv k)
    (T : KeyTold P kt kv ok) (ht : P.underlying t = some (.map kt et)) (z : Value) (hz : ∀ W, (zeroValue et).run P W = .ok z W) (hm : W.heap[m]? = some (mapO kv ks f)) (hks : ∀ k, k ∈ ks → ok k) (hk : ok k) (hin : k ∉ ks)
    (h : wpList P ops Q rest (a.put o.dst (.tuple #[z, .bool false])) W) : wpList P ops Q (o :: rest) a W := by
  refine wpList_lookup hgd t x y true ho hx k hy T ht z hz hm hks hk ?_
  rw [if_pos rfl, if_neg hin, decide_eq_false hin]; exact h
/-- Reads ahead of a tail. -/
theorem still_look [DecidableEq K] (t : TypeId) (x y : Operand) (ho : o.op = .lookup t x y false) (hx : a.eval x = .map (some m)) (k : K) (hy : a.eval y = kv k)
    (T : KeyTold P kt kv ok) (ht : P.underlying t = some (.map kt et)) (z : Value) (hz : ∀ W, (zeroValue et).run P W = .ok z W) (hm : W.heap[m]? = some (mapO kv ks f)) (hks : ∀ k, k ∈ ks → ok k) (hk : ok k) (hin : k ∈ ks) (v : Value) (hv : f k = v)
    (h : J (a.put o.dst v)) : o.still P a W J := by
  have hr := look_map T ht (hz W) hm hks hk false
  rw [if_neg (by decide), if_pos hin, hv] at hr
  unfold Oper.still
  simp only [execOp, ho, hx, hy, Sem.run_bind, hr, Result.andThen_ok]
  exact ⟨rfl, h⟩
theorem still_getE (hM : Mem w L W) (ty : TypeId) (x : Operand) (ho : o.op = .load ty x) (b off : Nat) (hx : a.eval x = .pointer (some ⟨b, off, none⟩))
    (i : Nat) {N : Nat} {f : Nat → Value} (hi : L[i]? = some (b, N, f)) {n : Nat} (hT : RowT P ty n) (hle : off + n ≤ N) (g : Nat → Value) (hg : ∀ k, k < n → f (off + k) = g k)
    (h : J (a.put o.dst (.agg (arr n g)))) : o.still P a W J := by
  obtain ⟨⟨d, hu, hd⟩, hm⟩ := hT
  obtain ⟨t, ht⟩ := hM.ats i b N f hi
  have hr : W.rangeAt b off (arr n (fun k => f (off + k))).toList := by
    rw [← arr_extract hle]; exact World.rangeAt_of_block ht off n
  have hl := run_loadVar_mid (P := P) W b off ty _ d hr hu hd (by rw [hm]; simp [arr_size])
  have e : (arr n (fun k => f (off + k))).toList.toArray = arr n g := by rw [Array.toArray_toList]; exact arr_congr hg
  rw [e] at hl
  unfold Oper.still execOp
  simp only [ho, hx, Instr.loadAt, Instr.sureAddr, Sem.run_bind, Sem.run_pure, Result.andThen_ok, hl]
  exact ⟨rfl, h⟩
end

/-- The steps that a search has told. -/
def stV (d : Int × Int → Int) : Int × Int → Value := fun k => .int .i64 (d k - 1)
theorem stV_upd (d : Int × Int → Int) (n : Int × Int) (v : Int) : updK (stV d) n (.int .i64 v) = stV (updI d n (v + 1)) := by
  funext j
  unfold updK stV updI
  split
  · rw [show v + 1 - 1 = v by omega]
  · rfl
theorem in10_ok {k : Int × Int} (h : In10 k) : SpotOk k := by
  obtain ⟨h1, h2, h3, h4⟩ := h
  exact ⟨by omega, by omega, by omega, by omega⟩
theorem zero_i64 (W : World) : (zeroValue 2).run Tryd.prog W = .ok (.int .i64 0) W := by kernel_rfl
theorem open_in {g : Nat → Int} (ho : okB g = true) {u v : Int} {k : Nat} (h : k ∈ openL g u v 4) : In10 (nxX k u, nxY k v) := nb_in ho (c := (u, v)) (by rw [nb_open]; exact List.mem_map_of_mem h)
theorem good_after {g : Nat → Int} (ho : okB g = true) {s : Found} (h : s.Good In10) (u v : Int) : ∀ (pre : List Nat), (∀ k, k ∈ pre → k ∈ openL g u v 4) → (afterS s u v pre).Good In10 := fun pre hp => by
  unfold afterS
  refine good_fold _ h (fun k hk => ?_)
  obtain ⟨j, hj, rfl⟩ := List.mem_map.1 hk
  exact open_in ho (hp j hj)
theorem after_q {s : Found} {i : Nat} {k : Int × Int} (h : s.q[i]? = some k) (u v : Int) (pre : List Nat) : (afterS s u v pre).q[i]? = some k := fold_q _ h
theorem visit1_old {now n : Int × Int} {s : Found} (h : s.d n ≠ 0) : visit1 now s n = s := by unfold visit1; rw [if_neg h]
theorem visit1_new {now n : Int × Int} {s : Found} (h : s.d n = 0) : visit1 now s n = ⟨s.q ++ [n], updI s.d n (s.d now + 1)⟩ := by unfold visit1; rw [if_pos h]
theorem map_under : Tryd.prog.underlying 101 = some (.map 37 2) := Tryd.underlying101
theorem map_zero : (Tryd.prog.info? 101).map (·.zero) = some (some (.map none)) := by kernel_rfl
theorem spots_zero1 : (Tryd.prog.info? 32).map (·.zero) = some (some (.slice none 0 0)) := by kernel_rfl
theorem lay_sp0' (z : Nat → Value) (x y : Int) : ∀ k, k < 2 → lay z 0 2 (sp x y) (0 + k) = sp x y k := fun k hk => by rw [Nat.zero_add]; exact lay_sp z x y k hk
/-- A new map of steps. -/
def GivesM (w : World) (s : Found) (e : Ending) (w' : World) : Prop := ∃ m, e = .returned (.map (some m)) ∧ w.heap.size ≤ m ∧ Mem ((Base.of w).with m (mapO spV s.q (stV s.d)) rfl) [] w'

/-! ### The rounds over the sides of a cell -/
def sidesN {g : Nat → Int} {u v : Int} (pre : List (OpenS g u v)) : List Nat := pre.map (·.1)
theorem openS_in {g : Nat → Int} {u v : Int} (k : OpenS g u v) : k.1 ∈ openL g u v 4 := by
  unfold openL
  rw [List.mem_filter]
  exact ⟨List.mem_range.2 k.2.1, by rw [k.2.2]; rfl⟩
theorem sidesN_in {g : Nat → Int} {u v : Int} (pre : List (OpenS g u v)) : ∀ k, k ∈ sidesN pre → k ∈ openL g u v 4 := fun k hk => by
  obtain ⟨j, -, rfl⟩ := List.mem_map.1 hk
  exact openS_in j
theorem sidesN_one {g : Nat → Int} {u v : Int} (pre : List (OpenS g u v)) (k : OpenS g u v) : sidesN (pre ++ [k]) = sidesN pre ++ [k.1] := by simp [sidesN]
/-- What lies in memory behind the rounds over the sides pre. -/
def SideR (w : World) (g : Nat → Int) (s : Found) (u v : Int) (i b8 : Nat) (L : Blocks) (pre : List (OpenS g u v)) (o : Obj) (Bs : Blocks) : Prop :=
  o = mapO spV (afterS s u v (sidesN pre)).q (stV (afterS s u v (sidesN pre)).d) ∧ ∃ (r bq off c N : Nat) (F : Nat → Value), i + r = (afterS s u v (sidesN pre)).q.length ∧ w.heap.size ≤ bq ∧ r ≤ c ∧ off + c * 2 ≤ N ∧ (∀ j, j < r * 2 → F (off + j) = sps (sI ((afterS s u v (sidesN pre)).q.drop i)) j) ∧
    Bs = (bq, N, F) :: (b8, 1, fun _ => .slice (some ⟨bq, off, none⟩) r c) :: L
section
variable {w : World} {g : Nat → Int} {s : Found} {u v : Int} {i b8 : Nat} {K L : Blocks}
theorem sideR_det (pre pre' : List (OpenS g u v)) (o o' : Obj) (Bs Bs' : Blocks) (b b' : Base) (X : World) (h : SideR w g s u v i b8 L pre o Bs) (h' : SideR w g s u v i b8 L pre' o' Bs') (hM : Mem b Bs X) (hM' : Mem b' Bs' X) : Bs.map (·.1) = Bs'.map (·.1) := by
  obtain ⟨-, r, bq, off, c, N, F, -, -, -, -, -, rfl⟩ := h
  obtain ⟨-, r', bq', off', c', N', F', -, -, -, -, -, rfl⟩ := h'
  have h1 := (hM.ats 1 _ _ _ rfl).cell (show 0 < 1 by omega)
  have h2 := (hM'.ats 1 _ _ _ rfl).cell (show 0 < 1 by omega)
  rw [h1] at h2
  have e : bq = bq' := by simp at h2; exact h2.1.1
  simp [e]
theorem sideR_kp (b : Base) (pre pre' : List (OpenS g u v)) (o o' : Obj) (Bs Bs' : Blocks) (X X' : World) (_ : SideR w g s u v i b8 (K ++ L) pre o Bs) (h' : SideR w g s u v i b8 (K ++ L) pre' o' Bs') (_ : Mem b Bs X) (hM' : Mem b Bs' X') : KpL K X X' := fun e he _ => by
  obtain ⟨-, r', bq', off', c', N', F', -, -, -, -, -, rfl⟩ := h'
  obtain ⟨j, hj⟩ := List.getElem?_of_mem he
  exact hM'.ats (j + 2) e.1 e.2.1 e.2.2 (by
    simp only [List.getElem?_cons_succ]
    rw [List.getElem?_append_left (List.getElem?_eq_some_iff.1 hj).1, hj])
theorem sideR_no (pre : List (OpenS g u v)) (o : Obj) (Bs : Blocks) (h : SideR w g s u v i b8 L pre o Bs) : o.isCells = false := by
  obtain ⟨rfl, -⟩ := h; rfl
/-- A side over which nothing new is found. -/
theorem sideR_old {pre : List (OpenS g u v)} {k : OpenS g u v} {o : Obj} {Bs : Blocks} (h : SideR w g s u v i b8 L pre o Bs) (hd : (afterS s u v (sidesN pre)).d (nxX k.1 u, nxY k.1 v) ≠ 0) : SideR w g s u v i b8 L (pre ++ [k]) o Bs := by
  unfold SideR at h ⊢
  rw [sidesN_one, afterS_one, visit1_old hd]
  exact h
end
theorem drop_new {l : List (Int × Int)} {i r : Nat} (h : i + r = l.length) (n : Int × Int) : (l ++ [n]).drop i = l.drop i ++ [n] := by
  rw [List.drop_append_of_le_length (by omega)]
theorem Mem.move32 {w : Base} {W : World} {p s n q e : Nat × Nat × (Nat → Value)} {L : Blocks} (h : Mem w (p :: s :: n :: q :: e :: L) W) : Mem w (q :: e :: p :: s :: n :: L) W :=
  h.perm ((List.perm_append_comm (l₁ := [p, s, n]) (l₂ := [q, e])).append_right L)
theorem Mem.cut3 {w : Base} {W : World} {p s n q e : Nat × Nat × (Nat → Value)} {L : Blocks} (h : Mem w (q :: e :: p :: s :: n :: L) W) : Mem w (q :: e :: L) W :=
  (h.perm ((List.perm_append_comm (l₁ := [q, e]) (l₂ := [p, s, n])).append_right L)).drop.drop.drop
theorem addK_new [DecidableEq (Int × Int)] {ks : List (Int × Int)} {n : Int × Int} (h : n ∉ ks) : addK ks n = ks ++ [n] := if_neg h
theorem sps_push {l : List (Int × Int)} (n : Int × Int) : (∀ j, j < l.length * 2 → sps (sI l) j = sps (sI (l ++ [n])) j) ∧ ∀ j, j < 2 → sp n.1 n.2 j = sps (sI (l ++ [n])) (l.length * 2 + j) :=
  ⟨fun j hj => spsI_old n hj, fun j hj => spsI_new l n.1 n.2 hj⟩
theorem sps_cons (a : Int × Int) (l : List (Int × Int)) (j : Nat) : sps (sI (a :: l)) (2 + j) = sps (sI l) j := by
  unfold sps sI
  rw [show (2 + j) % 2 = j % 2 by omega, show (2 + j) / 2 = j / 2 + 1 by omega]
  simp only [List.getD_cons_succ]
/-- The first of the queue, and the others. -/
theorem queue_first {q : List (Int × Int)} {i r off : Nat} {F : Nat → Value} {u v : Int} (hn : q[i]? = some (u, v)) (hr : i + r = q.length) (hF : ∀ j, j < r * 2 → F (off + j) = sps (sI (q.drop i)) j) :
    (∀ k, k < 2 → F (off + k) = sp u v k) ∧ ∀ j, j < (r - 1) * 2 → F (off + 2 + j) = sps (sI (q.drop (i + 1))) j := by
  obtain ⟨hi, he⟩ := List.getElem?_eq_some_iff.1 hn
  have hd : q.drop i = (u, v) :: q.drop (i + 1) := by rw [List.drop_eq_getElem_cons hi, he]
  refine ⟨fun k hk => ?_, fun j hj => ?_⟩
  · rw [hF k (by omega), hd]
    have := sps_row (sI ((u, v) :: q.drop (i + 1))) 0 k hk
    rw [Nat.zero_mul, Nat.zero_add] at this
    rw [this]; rfl
  · rw [Nat.add_assoc, hF (2 + j) (by omega), hd, sps_cons]
theorem queue_rest {q : List (Int × Int)} {r off c N : Nat} {F : Nat → Value} (hr0 : ¬ r = 0) (hrc : r ≤ c) (hN : off + c * 2 ≤ N) (hF : ∀ j, j < (r - 1) * 2 → F (off + 2 + j) = sps (sI q) j) :
    ∃ off2, (if c = 1 then off else off + 2) = off2 ∧ off2 + (c - 1) * 2 ≤ N ∧ ∀ j, j < (r - 1) * 2 → F (off2 + j) = sps (sI q) j := by
  by_cases h : c = 1
  · exact ⟨off, if_pos h, by omega, fun j hj => by omega⟩
  · exact ⟨off + 2, if_neg h, by omega, hF⟩
end Go.Proofs.YtbmaljhnldepoaaDoor

/-
  maps.Keys of a map by spots, and its iterator, by contracts: each key comes once, in some order.
-/
namespace Go.Proofs.YtbmaljhnldepoaaDoor
open Go Go.RowKit Go.Shelf Go.BigFrame
attribute [local go_sem] Oper.semAt_some

section
variable {P : Program} {ops : Array Oper} {rest : List Oper} {o : Oper} {a : Act} {w : Base} {W : World} {Q : Exit → Act → World → Prop} {L : Blocks} {J : Act → World → Prop} {nn : Nat}
theorem wpListIn_zero (hgd : o.guard = none) (ty : TypeId) (ho : o.op = .alloc ty) {n : Nat} {f : Nat → Value} (hz : (P.info? ty).map (·.zero) = some (some (.agg (arr n f)))) (hM : Mem w L W)
    (h : ∀ b W', w.B ≤ b → Mem w ((b, n, f) :: L) W' → wpListIn Fence.wide nn P ops Q rest (a.put o.dst (.pointer (some ⟨b, 0, none⟩))) W') : wpListIn Fence.wide nn P ops Q (o :: rest) a W := by
  refine wpListIn_plain hgd fun K hK => oper_wide (by simp [noDefer, ho]) ?_
  have hzv : (zeroValue ty).run P W = .ok (.agg (arr n f)) W := by
    cases hq : P.info? ty with
    | none => simp [hq] at hz
    | some i => simp [hq] at hz; simp [zeroValue, typeInfo, hq, hz]
  unfold Oper.wp execOp
  simp only [ho, Instr.alloc, Sem.run_bind, Sem.run_pure, Result.andThen_ok, hzv, newVar, newRow, newObj, Sem.run, Value.cells]
  exact hK _ _ (h W.heap.size _ hM.size (hM.alloc ty n f))
theorem wpListIn_lay (hgd : o.guard = none) (ty : TypeId) (x y : Operand) (ho : o.op = .store ty x y) (b off : Nat) (hx : a.eval x = .pointer (some ⟨b, off, none⟩))
    (m : Nat) (g : Nat → Value) (hy : a.eval y = .agg (arr m g)) (hM : Mem w L W) (i : Nat) {n : Nat} {f : Nat → Value} (hi : L[i]? = some (b, n, f)) (hb : w.B ≤ b)
    (hT : RowT P ty m) (hle : off + m ≤ n) (h1 : ∀ k, k < m → (g k).oneCell' = true)
    (h : ∀ W', Mem w (L.set i (b, n, lay f off m g)) W' → wpListIn Fence.wide nn P ops Q rest (a.put o.dst undef) W') : wpListIn Fence.wide nn P ops Q (o :: rest) a W := by
  obtain ⟨_, hm⟩ := hT
  refine wpListIn_plain hgd fun K hK => oper_wide (by simp [noDefer, ho]) ?_
  obtain ⟨t, ht⟩ := hM.ats i b n f hi
  have hs := run_storeCells_at (P := P) b off t (arr m g).toList 0 (arr n f) W ht (by simp [arr_size]; omega) (fun v hv => by
    rw [arr_toList] at hv; simp at hv; obtain ⟨k, hk, rfl⟩ := hv; exact h1 k hk)
  rw [Nat.add_zero, arr_lay hle] at hs
  have hsz : (sizeOf ty).run P W = .ok m W := by
    cases hq : P.info? ty with
    | none => simp [hq] at hm
    | some i => simp [hq] at hm; simp [sizeOf, typeInfo, hq, hm]
  unfold Oper.wp execOp
  simp only [ho, hx, hy, Instr.storeAt, Instr.sureAddr, storeVar, Sem.run_bind, Sem.run_pure, Result.andThen_ok, Value.cells, hsz, arr_size, ne_eq, not_true_eq_false, if_false, hs]
  exact hK _ _ (h _ (hM.setRow i hi hb _))
end

/-- What a round over a map's keys keeps: the map in block m, the iterators from Bk on, the captured cell. -/
structure KpW (K : Blocks) (m Bk : Nat) (A B : World) : Prop where
  cells : KpL K A B
  obj : ∀ o : Obj, A.heap[m]? = some o → o.isWalk = true → B.heap[m]? = some o
  walks : ∀ (k : Nat) (o : Obj), Bk ≤ k → A.heap[k]? = some o → o.isWalk = true → B.heap[k]? = some o
theorem kpW_t {K : Blocks} {m Bk : Nat} {A B C : World} (h : KpW K m Bk A B) (k : KpW K m Bk B C) : KpW K m Bk A C := ⟨kpL_t h.cells k.cells, fun o ho hw => k.obj o (h.obj o ho hw) hw, fun i o hi ho hw => k.walks i o hi (h.walks i o hi ho hw) hw⟩
theorem kpW_b {K : Blocks} {m Bk : Nat} (W : World) (l : Nat) (o o' : Obj) (h : W.heap[l]? = some o) (ho : o.isCells = false) (hw : o.isWalk = false) : KpW K m Bk W (W.putObj l o') :=
  ⟨kpL_b W l o o' h ho, fun o h1 h2 => (KeepsWalks.putObj o' h hw).same m o h1 h2, fun i o _ h1 h2 => (KeepsWalks.putObj o' h hw).same i o h1 h2⟩

abbrev keyK (bb m : Nat) : Blocks := [(bb, 1, fun _ => .map (some m))]
def KeyIt (J : List (Int × Int) → World → Prop) (bb m r : Nat) (ks : List (Int × Int)) (f : Int × Int → Value) (wr : World) : Prop :=
  ∃ is : List Nat, is.Nodup ∧ (∀ i, i ∈ is → i < ks.length) ∧ wr.heap[r]? = some (iterO m ks.length is) ∧ wr.heap[m]? = some (mapO spV ks f) ∧ At wr bb 1 (fun _ => .map (some m)) ∧
    ∃ pre, pre = is.filterMap (fun i => ks[i]?) ∧ pre.length = is.length ∧ J pre wr

set_option maxRecDepth 100000 in
set_option maxHeartbeats 1000000 in
theorem keys1_in (nn : Nat) (hnn : 1 ≤ nn) (l bb m : Nat) (ks : List (Int × Int)) (f : Int × Int → Value) (B Bk : Nat) (hBB : Bk ≤ B)
    (J Jx : List (Int × Int) → World → Prop) (hJa : AbidesFrom B J)
    (hY : ∀ pre k W1, k ∈ ks → J pre W1 → pre.length < ks.length → YieldAt Fence.wide (nn - 1) Tryd.prog l #[spV k] W1 fun e W' =>
      (e = .returned (.bool true) ∧ J (pre ++ [k]) W' ∧ KpW (keyK bb m) m Bk W1 W') ∨ (e = .returned (.bool false) ∧ Jx (pre ++ [k]) W'))
    (w : World) (hB : B ≤ w.heap.size) (hA : At w bb 1 (fun _ => .map (some m))) (hm : w.heap[m]? = some (mapO spV ks f)) (h0 : J [] w) :
    CallsIn Fence.wide nn Tryd.prog 162 #[.func (.yield l) #[] #[], .pointer (some ⟨bb, 0, none⟩)] w fun e W' => (∃ v, e = .returned v) ∧
      ((∃ xs : List (Int × Int), xs.Perm ks ∧ J xs W') ∨ (∃ pre : List (Int × Int), pre.length ≤ ks.length ∧ Jx pre W')) := by
  refine callsIn_of_wp Tryd.func162 rfl trivial ?_ rfl
  simp only [Tryd.ntmps162, List.size_toArray, List.length_cons, List.length_nil, Nat.reduceAdd, Nat.reduceSub, Array.replicate_succ, Array.replicate_zero, List.push_toArray, List.append_toArray, List.nil_append, List.cons_append]
  have fw : ∀ f, Fence.wide.fn f := fun _ => trivial
  have HJ := Lib.hid hJa
  clear hJa
  have hI0 : KeyIt J bb m w.heap.size ks f (w.alloc (iterO m ks.length [])) := ⟨[], List.nodup_nil, by simp, World.alloc_heap_new w _, (Below.heap_alloc w _ m (Array.getElem?_eq_some_iff.1 hm).1).trans hm, hA.grown (World.grownBy_alloc w _ none) (fun r e => by cases e), [], rfl, rfl, HJ.out [] w _ none h0 (World.grownBy_alloc w _ none) (fun r e => by cases e)⟩
  have k0 : w.cell? ⟨bb, 0, none⟩ = some (Value.map (some m)) := hA.cell (show 0 < 1 by omega)
  have hB' : Hid (B ≤ w.heap.size) := Lib.hid hB
  clear hB
  gi_wp2_with (first | (with_reducible refine And.intro (fw _) ?_) | (gi_at_range; refine wpListIn_rangeO rfl _ _ rfl rfl map_under hm ?_))
  go_frame
  gi_loopw [3] (fun _ wr => KeyIt J bb m w.heap.size ks f wr) (fun _ wr => iterLeft ks.length w.heap.size wr)
  case atStart => exact hI0
  case round =>
    clear hI0 k0 hm h0 hA
    obtain ⟨is, hd, hlt, hrr, hmr, hAr, pre, hpre, hlen, hJ⟩ := hrel
    gi_wp2_with (first | (gi_at_next; refine wpListIn_nextO rfl _ rfl rfl is hrr hmr ?_ ?_))
    · intro hall
      gi_wp2
      go_end0
      exact ⟨⟨_, rfl⟩, .inl ⟨pre, by rw [hpre]; exact iter_perm hd hlt hall, hJ⟩⟩
    · intro i kx ky W2 hi hin hg hsz hr2 hm2 hen
      have hJ2 : J pre W2 := HJ.out pre wr W2 (some w.heap.size) hJ hg (fun r' e => by cases e; exact ⟨hB'.out, _, hrr, rfl⟩)
      have hA2 : At W2 bb 1 (fun _ => .map (some m)) := hAr.grown hg (fun r' e => by cases e; exact ⟨_, hrr, rfl⟩)
      have hkm : (kx, ky) ∈ ks := List.mem_of_getElem? hi
      have hd2 : (is ++ [i]).Nodup := List.nodup_append.2 ⟨hd, by simp, fun a ha b hb => by simp at hb; subst hb; exact fun e => hin (e ▸ ha)⟩
      have hlt2 : ∀ j, j ∈ is ++ [i] → j < ks.length := fun j hj => by
        rcases List.mem_append.1 hj with h | h
        · exact hlt j h
        · simp at h; subst h; exact (List.getElem?_eq_some_iff.1 hi).1
      have hl2 : is.length + 1 ≤ ks.length := by have := iter_len hd2 hlt2; simpa using this
      have hm1 : iterLeft ks.length w.heap.size wr = ks.length - is.length := iterLeft_eq hrr
      have HP : Hid (pre ++ [(kx, ky)] = (is ++ [i]).filterMap (fun i => ks[i]?)) := Lib.hid (by rw [List.filterMap_append, ← hpre]; simp [hi])
      have Hl : Hid (pre.length < ks.length) := Lib.hid (by omega)
      have Hl2 : Hid ((pre ++ [(kx, ky)]).length = (is ++ [i]).length) := Lib.hid (by simp [hlen])
      have hM := Mem.nil W2
      have hY2 : ∀ W1, J pre W1 → YieldAt Fence.wide (nn - 1) Tryd.prog l #[.agg (arr 2 (sp kx ky))] W1 fun e W' => (e = .returned (.bool true) ∧ J (pre ++ [(kx, ky)]) W' ∧ KpW (keyK bb m) m Bk W1 W') ∨ (e = .returned (.bool false) ∧ Jx (pre ++ [(kx, ky)]) W') :=
        fun W1 h => hY pre (kx, ky) W1 hkm h Hl.out
      have hv : spV (kx, ky) = .agg (arr 2 (sp kx ky)) := rfl
      rw [hv] at hen ⊢
      clear hg hsz hJ hAr hrr hmr hpre hlen hlt hd hin hi
      gi_wp2_with (first | (refine wpListIn_zero rfl _ rfl (zeroTab _ 2 (fun _ => .int .i8 0) rfl) hM ?_; intro b1 W' hb1 hM'; clear hM; have hM := hM'; clear hM') | (refine wpListIn_lay rfl _ _ _ rfl _ _ rfl _ _ rfl hM 0 rfl hb1 (rowTab _ _ rfl) (by omega) (fun _ _ => rfl) ?_; intro W' hM'; clear hM; have hM := hM'; clear hM'; simp only [List.set] at hM) | (refine wpListIn_getE rfl _ _ rfl _ _ rfl hM 0 rfl (rowTab _ _ rfl) (by omega) (sp kx ky) (fun q hq => by simp [lay, hq]) ?_; have hb := hM.below; have hJ3 := abides_below HJ.out hJ2 hb; obtain ⟨fn, tmps, assign, body, hy, hR⟩ := hY2 _ hJ3))
      refine hR.mono ?_
      rintro e W3 (⟨rfl, hJ4, hk4⟩ | ⟨rfl, hJx4⟩)
      · gi_wp2
        have hr3 := hk4.walks w.heap.size _ (Nat.le_trans hBB hB'.out) ((hb.block w.heap.size (Array.getElem?_eq_some_iff.1 hr2).1).trans hr2) rfl
        have hm3 := hk4.obj _ ((hb.block m (Array.getElem?_eq_some_iff.1 hm2).1).trans hm2) rfl
        go_roundw
        case rel => exact ⟨is ++ [i], hd2, hlt2, hr3, hm3, hk4.cells (bb, 1, fun _ => .map (some m)) (by simp [keyK]) (hA2.below hb hA2.lt), _, HP.out, Hl2.out, hJ4⟩
        case measure => rw [iterLeft_eq hr3, hm1]; simp; omega
      · gi_wp2
        refine bodyPost_ret (results_none rfl _ _ _) rfl ?_
        exact ⟨⟨_, rfl⟩, .inr ⟨pre ++ [(kx, ky)], by have := Hl.out; rw [List.length_append]; exact this, hJx4⟩⟩

theorem keys1_stops (bb m : Nat) (ks : List (Int × Int)) (f : Int × Int → Value) (w : World) (hA : At w bb 1 (fun _ => .map (some m))) (hm : w.heap[m]? = some (mapO spV ks f)) :
    SeqStopsK Fence.wide 2 Tryd.prog 162 #[.pointer (some ⟨bb, 0, none⟩)] (fun k : Int × Int => #[.agg (arr 2 (sp k.1 k.2))]) (KpW (keyK bb m) m w.heap.size) (fun xs => xs.Perm ks) (fun pre => pre.length ≤ ks.length) ks.length w :=
  fun l J Jx W' hb hJa _ hY h0 => keys1_in 2 (by omega) l bb m ks f W'.heap.size w.heap.size hb.size J Jx hJa (fun pre k W1 _ => hY pre k W1) W' (Nat.le_refl _) (hA.below hb hA.lt) ((hb.block m (Array.getElem?_eq_some_iff.1 hm).1).trans hm) h0

/-- maps.Keys(m): the map is boxed; the function value captures the box. -/
theorem mapsKeys_any (m : Nat) (w : World) :
    Calls Tryd.prog 145 #[.map (some m)] w fun e W' => ∃ bb, e = .returned (.func (.func 162) #[] #[.pointer (some ⟨bb, 0, none⟩)]) ∧ w.heap.size ≤ bb ∧ Mem w (keyK bb m) W' := by
  have hM := Mem.nil w
  have tk_b1 : True := trivial
  go_enter Tryd.func145, Tryd.ntmps145
  go_wp2_with (first | (have _t := tk_b1; refine wpList_box1 rfl _ _ rfl _ rfl rfl hM ?_; intro b1 W' hb1 hM'; clear hM tk_b1; have hM := hM'; clear hM'))
  go_ret
  exact ⟨_, rfl, hb1, hM⟩
end Go.Proofs.YtbmaljhnldepoaaDoor

/-
  A range over an iterator of spots that walks a map itself: the rounds leave the map as it is (RangeL beside a map).
-/
namespace Go.Proofs.YtbmaljhnldepoaaDoor
open Go Go.RowKit Go.Shelf Go.BigFrame

/-- How a round ends: on, with blocks as the relation tells. -/
theorem range_relW {α : Type} {px py : α → Int} {g : Operand} {p q : Tmp} {id : Nat} {o1 o2 : Oper} {body : Code} {Q : Exit → Act → World → Prop} {a : Act} {w W1 : World} (m : Nat) (O : Obj) (hO : O.isCells = false) (I : List α → Blocks → Prop) (L0 : Blocks)
    {gf : Nat} {lb : Array Value} {Kp : World → World → Prop} {S Sp : List α → Prop} {N : Nat}
    (hg : a.eval g = .func (.func gf) #[] lb) (eg : ∀ args w, (callFunc gf args).run Tryd.prog w = .ok (.enter gf args) w)
    (hseq : SeqStopsK Fence.wide 2 Tryd.prog gf lb (fun x => #[.agg (arr 2 (sp (px x) (py x)))]) Kp S Sp N W1) (hKt : ∀ {A B C : World}, Kp A B → Kp B C → Kp A C) (hKb : ∀ (W : World) (l : Nat) (o o' : Obj), W.heap[l]? = some o → o.isCells = false → o.isWalk = false → Kp W (W.putObj l o'))
    (hm : W1.heap[m]? = some O)
    (hdet : ∀ (pre pre' : List α) (Bs Bs' : Blocks) (b b' : Base) (X : World), I pre Bs → I pre' Bs' → Mem b Bs X → Mem b' Bs' X → Bs.map (·.1) = Bs'.map (·.1))
    (hkp : ∀ (pre pre' : List α) (Bs Bs' : Blocks) (X X' : World), I pre Bs → I pre' Bs' → Mem ((Base.round w W1.heap.size X).with m O hO) Bs X → Mem ((Base.round w W1.heap.size X).with m O hO) Bs' X' → Kp X X')
    (h1 : o1.op = .alloc 37) (h1g : o1.guard = none) (h1d : o1.dst = some q) (h2 : o2.op = .store 37 (.tmp q) (.tmp p)) (h2g : o2.guard = none) (h2d : o2.dst = none) (hpq : p ≠ q) (hp : p < a.tmps.size) (hq : q < a.tmps.size)
    (hI0 : I [] L0) (hM : Mem w L0 W1)
    (hbody : ∀ (l : Nat) (pre : List α) (x : α) (bx : Nat) (X : World) (Bs : Blocks), w.heap.size ≤ bx → I pre Bs → Mem ((Base.round w W1.heap.size X).with m O hO) ((bx, 2, sp (px x) (py x)) :: Bs) X → pre.length < N →
      body.wpIn (Fence.wide.inRound l) 1 Tryd.prog (roundRel ((Base.round w W1.heap.size X).with m O hO) (I (pre ++ [x]))) { tmps := (a.tmps.setIfInBounds p (.agg (arr 2 (sp (px x) (py x))))).setIfInBounds q (.pointer (some ⟨bx, 0, none⟩)), defers := [] } X)
    (hdone : ∀ (D : Nat) (xs : List α) (X : World) (Bs : Blocks), W1.heap.size ≤ D → S xs → I xs Bs → Mem ((Base.of w).with m O hO) Bs X → X.heap[D]? = some (.deferred (some [])) → Q .normal { a with defers := { target := .collected D, args := #[] } :: a.defers } X) :
    (Code.rangeFunc g #[p] (.region id [o1, o2].toArray false) body).wpIn Fence.wide 3 Tryd.prog Q a W1 := by
  have hsz : w.heap.size ≤ W1.heap.size := hM.size
  have hmlt := (Array.getElem?_eq_some_iff.1 hm).1
  have hown : OwnFrom W1.heap.size (fun (pre : List α) X => ∃ Bs, I pre Bs ∧ Mem w Bs X ∧ X.heap[m]? = some O) := fun pre X Y row hs hgr hr => by
    obtain ⟨Bs, hi, hm1, ho1⟩ := hs
    exact ⟨Bs, hi, mem_ownFrom hsz (fun (_ : Unit) => Bs) () X Y row hm1 hgr hr, (hgr.block m (Array.getElem?_eq_some_iff.1 ho1).1 (fun e => by have := (hr m e.symm).1; omega)).trans ho1⟩
  refine wpIn_rangeFunc_ownH (F := Fence.wide) (n := 3) rfl (by omega) (gf := gf) (lb := lb) hg trivial eg hseq hKt (fun X l o o' _ h ho hw => hKb X l o o' h ho hw) (Below.refl _ _) (fun _ => rfl)
    (fun pre X => ∃ Bs, I pre Bs ∧ Mem w Bs X ∧ X.heap[m]? = some O) (fun _ _ _ => False) hown (fun _ _ X Y row hs _ _ => hs.elim) ⟨L0, hI0, hM, hm⟩
    (fun x a' X => ∃ bx pre0 Bs0, w.heap.size ≤ bx ∧ bx ∉ Bs0.map (·.1) ∧ I pre0 Bs0 ∧ Mem w Bs0 X ∧ At X bx 2 (sp (px x) (py x)) ∧ a' = { tmps := (a.tmps.setIfInBounds p (.agg (arr 2 (sp (px x) (py x))))).setIfInBounds q (.pointer (some ⟨bx, 0, none⟩)), defers := [] })
    (fun x a' _ X Y row hs hgr hr => ?own) ?assign ?body ?done ?stop
  case own =>
    obtain ⟨bx, pre0, Bs0, h1, h2, h3, h4, h5, h6⟩ := hs
    exact ⟨bx, pre0, Bs0, h1, h2, h3, mem_ownFrom hsz (fun (_ : Unit) => Bs0) () X Y row h4 hgr hr, h5.grown hgr (fun r e => (hr r e).2), h6⟩
  case assign =>
    intro l pre x X K hI hK
    obtain ⟨Bs, hi, hI, hoX⟩ := hI
    have hMr : Mem (Base.round w W1.heap.size X) Bs X := hI.base ⟨hI.below, KeepsFrom.refl _ _⟩
    have hM' : Mem ((Base.round w W1.heap.size X).with m O hO) Bs X := hMr.withO hO hoX
    refine region_round (fun ⟨_, _, h⟩ => h) (by simp [noDefer, h1, h2]) ?_
    refine wpList_zero h1g _ h1 (zeroTab _ 2 (fun _ => .int .i8 0) rfl) hM' ?_
    intro bx X2 hbx hM2
    have ez : (#[p].zip #[Value.agg (arr 2 (sp (px x) (py x)))]).foldl (fun t (y : Tmp × Value) => t.setIfInBounds y.1 y.2) a.tmps = a.tmps.setIfInBounds p (.agg (arr 2 (sp (px x) (py x)))) := by simp
    rw [h1d]
    refine wpList_lay h2g _ _ _ h2 bx 0 ?_ 2 (sp (px x) (py x)) ?_ hM2 0 rfl hbx (rowTab _ _ rfl) (by omega) (fun _ _ => rfl) ?_
    · simp [Act.eval, Act.put, Array.getElem?_setIfInBounds, hq]
    · simp [Act.eval, Act.put, Array.getElem?_setIfInBounds, hp, Ne.symm hpq]
    · intro X3 hM3
      have hM3' := hM3.re 0 rfl (sp (px x) (py x)) (fun k hk => by simp [lay, hk])
      simp only [List.set_cons_zero] at hM3'
      rw [h2d]
      show K _ _
      have hg3 := hM3'.good.1
      refine hK _ _ hg3.2 ?_ ⟨Bs, hi, hM3'.drop.base hg3.1, hM3'.good.2⟩ ?_
      · exact hkp pre pre Bs Bs X X3 hi hi hM' hM3'.drop
      · refine ⟨bx, pre, Bs, hbx, fun hm => ?_, hi, hM3'.drop.base hg3.1, hM3'.at0, ?_⟩
        · obtain ⟨y, hy, e⟩ := List.mem_map.1 hm
          obtain ⟨i, hi⟩ := List.getElem?_of_mem hy
          exact hM3'.apart 0 (i + 1) _ y rfl (by simpa using hi) (by omega) e.symm
        · simp [Act.put]
  case body =>
    intro l pre x a' X hl hr hI hAx hlen
    obtain ⟨bx, pre0, Bs0, hb, hn, hi0, hm0, hA, rfl⟩ := hAx
    obtain ⟨Bs, hi, hI, hoX⟩ := hI
    rw [← hdet pre pre0 Bs Bs0 _ _ X hi hi0 hI hm0] at hn
    have hMr : Mem (Base.round w W1.heap.size X) Bs X := hI.base ⟨hI.below, KeepsFrom.refl _ _⟩
    have hM' : Mem ((Base.round w W1.heap.size X).with m O hO) Bs X := hMr.withO hO hoX
    have hM2 : Mem ((Base.round w W1.heap.size X).with m O hO) ((bx, 2, sp (px x) (py x)) :: Bs) X :=
      ⟨hM'.good, fun i b n f h => by
        cases i with
        | zero => simp at h; obtain ⟨rfl, rfl, rfl⟩ := h; exact hA
        | succ i => exact hM'.ats i b n f (by simpa using h),
       fun i j y z hi hj hne => by
        have off : ∀ (i : Nat) (y : Nat × Nat × (Nat → Value)), Bs[i]? = some y → y.1 ≠ bx := fun i y h e => hn (by
          rw [← e]; exact List.mem_map_of_mem (List.mem_of_getElem? h))
        cases i with
        | zero =>
          cases j with
          | zero => exact absurd rfl hne
          | succ j => simp at hi hj; rw [← hi]; exact fun e => off j z hj e.symm
        | succ i =>
          cases j with
          | zero => simp at hi hj; rw [← hj]; exact off i y hi
          | succ j => exact hM'.apart i j y z (by simpa using hi) (by simpa using hj) (by omega)⟩
    refine Code.wpIn_mono (fun e a'' X' h => ?_) (hbody l pre x bx X Bs hb hi hM2 hlen)
    cases e <;> first | exact (h : False).elim | skip
    obtain ⟨Bs', hi', h'⟩ := (h : ∃ (Bs' : Blocks), I (pre ++ [x]) Bs' ∧ Mem ((Base.round w W1.heap.size X).with m O hO) Bs' X')
    have hg3 := h'.good.1
    exact ⟨hg3.2, hkp pre (pre ++ [x]) Bs Bs' X X' hi hi' hM' h', Bs', hi', h'.base hg3.1, h'.good.2⟩
  case done =>
    intro D xs X hD hS hI hK
    obtain ⟨Bs, hi, hI, hoX⟩ := hI
    exact hdone D xs X Bs hD hS hi ((hI.base hI.good).withO hO hoX) hK
  case stop =>
    intro D c pre X hD hS hI hK
    exact hI.elim
end Go.Proofs.YtbmaljhnldepoaaDoor

/-
  slices.Collect(maps.Keys(m)) by contract: the keys, each once, in some order.
-/
namespace Go.Proofs.YtbmaljhnldepoaaDoor
open Go Go.RowKit Go.Shelf Go.BigFrame

set_option maxRecDepth 100000 in
set_option maxHeartbeats 2000000 in
theorem appendKeys_any (bb m : Nat) (ks : List (Int × Int)) (f : Int × Int → Value) (hn : ks.length ≤ 1048576) (w : World) (hA : At w bb 1 (fun _ => .map (some m))) (hm : w.heap[m]? = some (mapO spV ks f)) :
    Calls Tryd.prog 153 #[.slice none 0 0, .func (.func 162) #[] #[.pointer (some ⟨bb, 0, none⟩)]] w (fun e w' => ∃ xs : List (Int × Int), xs.Perm ks ∧ GivesL w xs e w') := by
  have hM : Mem w (keyK bb m) w := (Mem.nil w).old hA (fun i p h => by simp at h)
  have HN := Lib.hid hn
  have Hm := Lib.hid hm
  clear hA hn hm
  refine (callsIn_wide (n := 3)).1 ?_
  refine callsIn_of_wp_marks Tryd.func153 rfl trivial ?_ rfl
  simp only [Tryd.ntmps153, List.size_toArray, List.length_cons, List.length_nil, Nat.reduceAdd, Nat.reduceSub, Array.replicate_succ, Array.replicate_zero, List.push_toArray, List.append_toArray, List.nil_append, List.cons_append]
  refine wpIn_wide.2 ?_
  have tk_b2 : True := trivial
  go_wp2_with (first | (have _t := tk_b2; refine wpList_box1 rfl _ _ rfl _ rfl rfl hM ?_; intro b2 W' hb2 hM'; clear hM tk_b2; have hM := hM'; clear hM'))
  have ats : ∀ {b : Base} {X : World}, Mem b (keyK bb m) X → ∀ e ∈ keyK bb m, At X e.1 e.2.1 e.2.2 := fun h e he => by
    obtain ⟨i, hi⟩ := List.getElem?_of_mem he
    exact h.ats i _ _ _ hi
  have hm1 : W'.heap[m]? = some (mapO spV ks f) := (hM.below.block m (Array.getElem?_eq_some_iff.1 Hm.out).1).trans Hm.out
  refine (wpIn_wide (n := 3)).1 ?_
  refine range_relW (α := Int × Int) (px := fun c => c.1) (py := fun c => c.2) m (mapO spV ks f) rfl
    (fun pre => VarL w.heap.size b2 (keyK bb m) 2 (pre.map fun c => (c.1, c.2)).length (sps (sI (pre.map fun c => (c.1, c.2))))) ((b2, 1, fun _ => .slice none 0 0) :: keyK bb m)
    rfl (enters_of Tryd.func162 (by kernel_rfl) rfl) (keys1_stops bb m ks f W' (ats hM.drop (bb, 1, fun _ => .map (some m)) (by simp [keyK])) hm1) (fun {A B C} h k => kpW_t h k) (fun X l o o' h ho hw => kpW_b X l o o' h ho hw) hm1
    (fun _ _ _ _ _ _ _ h h' hm hm' => varL_det h h' hm hm')
    (fun _ _ _ _ X X' h h' hm hm' => ⟨fun e he _ => ats (varL_mem h' hm') e he, fun o ho _ => by rw [hm.good.2] at ho; rw [hm'.good.2]; exact ho, fun k o hk ho hw => hm'.good.1.2.same k o hk ho (Obj.not_cells_of_walk hw)⟩)
    rfl rfl rfl rfl rfl rfl (by decide) (by simp) (by simp) (.inl ⟨rfl, rfl⟩) hM ?body ?done
  case body =>
    intro l pre x bx X Bs hbx hI hM2 hlen
    clear hM
    have hM := hM2
    clear hM2
    have hl : (pre.map fun c => (c.1, c.2)).length ≤ 1048576 := by
      have := HN.out
      simp only [List.length_map]; omega
    have Hy : Hid ((pre ++ [x]).map (fun c => (c.1, c.2)) = pre.map (fun c => (c.1, c.2)) ++ [(x.1, x.2)]) := Lib.hid (by simp)
    generalize hu : x.1 = u at *
    generalize hv : x.2 = v at *
    generalize hp : pre.map (fun c => (c.1, c.2)) = p at *
    rcases hI with ⟨hn, rfl⟩ | ⟨b, c, F, hb, hnc, hF, rfl⟩
    · have Hq2 : Hid (∀ q, q < 2 → sp u v (0 + q) = sps (sI (p ++ [(u, v)])) q) := Lib.hid (fun q hq => by have := spsI_new p u v hq; rw [hn, Nat.zero_mul, Nat.zero_add] at this; rw [Nat.zero_add]; exact this)
      refine wpIn_block (region_round (fun ⟨_, _, h⟩ => h) rfl ?_)
      have tk_r3 : True := trivial; have tk_r4 : True := trivial; have tk_b3 : True := trivial; have tk_p1 : True := trivial
      go_wp2_with (first | (have _t := tk_r3; (refine wpList_get1 rfl _ _ rfl _ _ rfl hM 1 rfl spots_cell (by omega) _ rfl ?_); clear tk_r3) | (have _t := tk_r4; (refine wpList_get rfl _ _ rfl _ _ rfl hM 0 rfl (rowTab _ _ rfl) (by omega) ?_); clear tk_r4) | (have _t := tk_b3; refine wpList_slice1 rfl _ _ _ rfl _ _ rfl _ spot_under spot_info (by omega) (by omega) hM ?_; intro b3 W' hb3 hM'; clear hM tk_b3; have hM := hM'; clear hM') | (have _t := tk_p1; refine wpList_push0 rfl _ _ _ rfl _ 2 _ _ spot_under spot_infoB rfl (by omega) rfl _ _ rfl hM (sps (sI (p ++ [(u, v)]))) Hq2.out ?_; intro bL cL FL W' hbL hcL hFL hM'; clear hM tk_p1; have hM := hM'; clear hM') | (refine wpList_set1 rfl _ _ _ rfl _ _ rfl _ rfl rfl hM 2 rfl (by assumption) spots_cell (by omega) ?_; intro W' hM'; clear hM; have hM := hM'; clear hM'; simp [List.set, Act.eval] at hM))
      show ∃ Bs, _ ∧ Mem _ Bs _
      have hM' := hM.re 2 rfl (fun _ => .slice (some ⟨bL, 0, none⟩) 1 cL) (fun k hk => by
        obtain rfl : k = 0 := by omega
        rfl)
      simp only [List.set] at hM'
      refine ⟨_, ?_, hM'.skip⟩
      simp only [Hy.out, List.length_append, hn]
      exact .inr ⟨bL, cL, FL, hbL, hcL, hFL, rfl⟩
    · have hM' := hM.swap
      clear hM
      have hM := hM'
      clear hM'
      have Hq2 : Hid (∀ q, q < 2 → sp u v (0 + q) = sps (sI (p ++ [(u, v)])) (p.length * 2 + q)) := Lib.hid (fun q hq => by rw [Nat.zero_add]; exact spsI_new p u v hq)
      have Hf : Hid (∀ q, q < p.length * 2 → F q = sps (sI (p ++ [(u, v)])) q) := Lib.hid (fun q hq => by rw [hF q hq]; exact spsI_old _ hq)
      clear hF
      refine wpIn_block (region_round (fun ⟨_, _, h⟩ => h) rfl ?_)
      have tk_r3 : True := trivial; have tk_r4 : True := trivial; have tk_b3 : True := trivial; have tk_p1 : True := trivial
      go_wp2_with (first | (have _t := tk_r3; (refine wpList_get1 rfl _ _ rfl _ _ rfl hM 2 rfl spots_cell (by omega) _ rfl ?_); clear tk_r3) | (have _t := tk_r4; (refine wpList_get rfl _ _ rfl _ _ rfl hM 1 rfl (rowTab _ _ rfl) (by omega) ?_); clear tk_r4) | (have _t := tk_b3; refine wpList_slice1 rfl _ _ _ rfl _ _ rfl _ spot_under spot_info (by omega) (by omega) hM ?_; intro b3 W' hb3 hM'; clear hM tk_b3; have hM := hM'; clear hM') | (have _t := tk_p1; refine wpList_push1 rfl _ _ _ rfl _ 2 _ _ spot_under spot_infoB rfl (by omega) _ _ _ _ rfl hb hnc hl _ _ rfl sp_one0 hM (sps (sI (p ++ [(u, v)]))) Hf.out Hq2.out ?_; intro bL cL FL W' hbL hcL hFL hM'; clear hM tk_p1; have hM := hM'; clear hM') | (refine wpList_set1 rfl _ _ _ rfl _ _ rfl _ rfl rfl hM 2 rfl (by assumption) spots_cell (by omega) ?_; intro W' hM'; clear hM; have hM := hM'; clear hM'; simp [List.set, Act.eval] at hM))
      show ∃ Bs, _ ∧ Mem _ Bs _
      have hM' := hM.re 2 rfl (fun _ => .slice (some ⟨bL, 0, none⟩) (p.length + 1) cL) (fun k hk => by
        obtain rfl : k = 0 := by omega
        rfl)
      simp only [List.set] at hM'
      refine ⟨_, ?_, hM'.skip⟩
      simp only [Hy.out, List.length_append]
      exact .inr ⟨bL, cL, FL, hbL, hcL, hFL, rfl⟩
  case done =>
    rename_i K7 hK7
    intro D xs X Bs hD hxs hI hM2 hK
    have hsz : w.heap.size ≤ W'.heap.size := hM.size
    clear hM
    have ex : xs.map (fun c : Int × Int => (c.1, c.2)) = xs := by simp
    rw [ex] at hI
    have hM : Mem (Base.round w W'.heap.size X) Bs X := hM2.base ⟨hM2.good.1, KeepsFrom.refl _ _⟩
    clear hM2
    show K7 _ _
    refine hK7 _ _ ?_
    dsimp only
    rcases hI with ⟨hn, rfl⟩ | ⟨b, c, F, hb, hnc, hF, rfl⟩
    · go_wp2_with (first | (refine wpList_get1 rfl _ _ rfl _ _ rfl hM 0 rfl spots_cell (by omega) _ rfl ?_))
      have hK' := hM.good.2.same D _ hD hK rfl
      refine leave_marks hK' _ (results_tmp rfl _ _ _) ?_
      exact ⟨xs, hxs, _, rfl, .inl ⟨rfl, hn, Mem.start (below_mark hM.good.1 (Nat.le_trans hsz hD))⟩⟩
    · go_wp2_with (first | (refine wpList_get1 rfl _ _ rfl _ _ rfl hM 1 rfl spots_cell (by omega) _ rfl ?_))
      have hK' := hM.good.2.same D _ hD hK rfl
      refine leave_marks hK' _ (results_tmp rfl _ _ _) ?_
      refine ⟨xs, hxs, _, rfl, .inr ⟨b, c, F, rfl, hb, hnc, hF, ?_⟩⟩
      exact (Mem.start (w := Base.of w) (below_mark hM.good.1 (Nat.le_trans hsz hD))).old (at_mark hM.at0 hK') (fun i p h => by simp at h)
theorem collectKeys_any (bb m : Nat) (ks : List (Int × Int)) (f : Int × Int → Value) (hn : ks.length ≤ 1048576) (w : World) (hA : At w bb 1 (fun _ => .map (some m))) (hm : w.heap[m]? = some (mapO spV ks f)) :
    Calls Tryd.prog 127 #[.func (.func 162) #[] #[.pointer (some ⟨bb, 0, none⟩)]] w (fun e w' => ∃ xs : List (Int × Int), xs.Perm ks ∧ GivesL w xs e w') := by
  have H := Lib.hid (appendKeys_any bb m ks f hn w hA hm)
  clear hA hm hn
  go_enter Tryd.func127, Tryd.ntmps127
  go_wp2_with (first | (go_at_call 153; refine H.out.mono ?_; rintro e W' ⟨xs, hp, v0, rfl, hL0⟩))
  go_ret
  exact ⟨xs, hp, _, rfl, hL0⟩
end Go.Proofs.YtbmaljhnldepoaaDoor

/-
  A ROW OF SPOTS in the memory of a call, as slices.SortFunc's contract sees it, and back.
-/
namespace Go.Proofs.YtbmaljhnldepoaaDoor
open Go Go.RowKit Go.Sort

def encS (x : Int × Int) : List Value := [.int .i8 x.1, .int .i8 x.2]
theorem encS_len (x : Int × Int) : (encS x).length = 2 := rfl
theorem encS_one (x : Int × Int) : ∀ v ∈ encS x, v.oneCell' = true := fun v hv => by simp [encS] at hv; rcases hv with rfl | rfl <;> rfl
theorem flat_sps (d : Array (Int × Int)) (q : Nat) (h : q < d.size * 2) : (flatK encS 2 d)[q]! = sps (sI d.toList) q := by
  have h2 : q / 2 < d.size := by omega
  rw [get_flatK _ _ _ _ h]
  have e : sI d.toList (q / 2) = d[q / 2]! := by simp [sI, h2]
  unfold sps
  rw [e]
  generalize d[q / 2]! = x
  rcases Nat.mod_two_eq_zero_or_one q with h | h <;> simp [h, encS]

theorem holds_row {W : World} {b N : Nat} {F : Nat → Value} (hA : At W b N F) (d : Array (Int × Int)) (hd : d.size * 2 ≤ N) (hF : ∀ q, q < d.size * 2 → F q = sps (sI d.toList) q) : HoldsK encS 2 W b 0 d := by
  intro j hj
  rw [size_flatK] at hj
  rw [Nat.zero_add]
  refine ⟨?_, hA.frozen j⟩
  rw [hA.cell (show j < N by omega), hF j hj, flat_sps d j hj]
  rfl

theorem mem_ahead {w : Base} {W : World} {L : Blocks} (hM : Mem w L W) : ∀ n, Mem w L (Sort.ahead W n)
  | 0 => hM
  | n + 1 => (mem_ahead hM n).drew
theorem below_grow (W : World) (os : Array Obj) : Below W.heap.size W (grow W os) :=
  ⟨rfl, rfl, rfl, by simp [grow], fun k hk => by simp [grow, Array.getElem?_append, hk]⟩
/-- What slices.SortFunc leaves: the row in another order; new blocks behind. -/
theorem mem_sorted {w : Base} {W : World} {K : Blocks} {b N : Nat} {F : Nat → Value} (hM : Mem w ((b, N, F) :: K) W) (hb : w.B ≤ b) (n : Nat) (d : Array (Int × Int)) (_hd : d.size * 2 ≤ N) (os : Array Obj) :
    ∃ F', (∀ q, q < d.size * 2 → F' q = sps (sI d.toList) q) ∧ Mem w ((b, N, F') :: K) (sortWorldK encS 2 W b 0 n d os) := by
  refine ⟨fun q => if q < d.size * 2 then sps (sI d.toList) q else F q, fun q hq => by simp [hq], ?_⟩
  have h1 := mem_ahead hM n
  obtain ⟨t, ht⟩ := h1.ats 0 b N F rfl
  have h2 := h1.setRow 0 rfl hb (fun q => if q < d.size * 2 then sps (sI d.toList) q else F q)
  simp only [List.set_cons_zero] at h2
  have e : putRowK encS 2 (Sort.ahead W n) b 0 d = (Sort.ahead W n).setRow b (arr N fun q => if q < d.size * 2 then sps (sI d.toList) q else F q) := by
    have hc : putCells id 0 (flatK encS 2 d) (arr N F) = arr N fun q => if q < d.size * 2 then sps (sI d.toList) q else F q := by
      apply Array.ext
      · simp [putCells, arr_size]
      · intro i h1 h2
        have hi : i < N := by simpa [arr_size] using h2
        simp only [putCells, Array.getElem_mapIdx, size_flatK, Nat.zero_le, true_and, Nat.zero_add, Nat.sub_zero, id]
        have ga : ∀ f : Nat → Value, (arr N f)[i]? = some (f i) := fun f => by rw [arr_get]; simp [hi]
        have gb : ∀ (f : Nat → Value) (h : i < (arr N f).size), (arr N f)[i] = f i := fun f h => by have := ga f; rw [Array.getElem?_eq_getElem h] at this; exact Option.some.inj this
        rw [gb, gb]
        by_cases hq : i < d.size * 2
        · simp only [hq, if_true]; exact flat_sps d i hq
        · simp only [hq, if_false]
    unfold putRowK putRow mapBlock World.setRow
    congr 1
    apply Array.ext_getElem?
    intro k
    rw [Array.getElem?_modify, Array.getElem?_modify]
    by_cases hk : b = k
    · subst hk
      rw [ht]
      simp [onCells, hc]
    · simp [hk]
  unfold sortWorldK
  rw [e]
  exact h2.call (below_grow _ os)
end Go.Proofs.YtbmaljhnldepoaaDoor

/-
  slices.SortFunc's contract, laid at spots.
-/
namespace Go.Proofs
open Go.Shelf
def Tryd.sortSpot_ren : Go.Shelf.Ren := ⟨fun | 6 => 128 | 15 => 155 | 14 => 154 | 28 => 173 | 29 => 174 | 20 => 165 | 21 => 166 | 22 => 167 | 23 => 168 | 24 => 169 | 25 => 170 | 26 => 171 | 27 => 172 | 46 => 178 | 47 => 179 | 48 => 180 | 49 => 181 | 50 => 182 | 57 => 183 | n => n, fun | 22 => 32 | 24 => 37 | 25 => 125 | 3 => 3 | 39 => 152 | 0 => 0 | 53 => 223 | 55 => 225 | 4 => 4 | 46 => 216 | 45 => 215 | 50 => 220 | 5 => 5 | 9 => 9 | 66 => 229 | 70 => 233 | 76 => 235 | 77 => 236 | n => n, fun | n => n⟩
theorem Tryd.sortSpot : Go.Proofs.SlLaysF0.n6 Tryd.prog Tryd.sortSpot_ren := {
  mixed := by kernel_rfl
  f6 := ⟨Tryd.f128.name, by decide, Tryd.func128.trans (congrArg some (by kernel_rfl))⟩
  f14 := ⟨Tryd.f154.name, by decide, Tryd.func154.trans (congrArg some (by kernel_rfl))⟩
  f15 := Tryd.func155.trans (congrArg some (by kernel_rfl))
  f20 := ⟨Tryd.f165.name, by decide, Tryd.func165.trans (congrArg some (by kernel_rfl))⟩
  f21 := ⟨Tryd.f166.name, by decide, Tryd.func166.trans (congrArg some (by kernel_rfl))⟩
  f22 := ⟨Tryd.f167.name, by decide, Tryd.func167.trans (congrArg some (by kernel_rfl))⟩
  f23 := ⟨Tryd.f168.name, by decide, Tryd.func168.trans (congrArg some (by kernel_rfl))⟩
  f24 := ⟨Tryd.f169.name, by decide, Tryd.func169.trans (congrArg some (by kernel_rfl))⟩
  f25 := ⟨Tryd.f170.name, by decide, Tryd.func170.trans (congrArg some (by kernel_rfl))⟩
  f26 := ⟨Tryd.f171.name, by decide, Tryd.func171.trans (congrArg some (by kernel_rfl))⟩
  f27 := ⟨Tryd.f172.name, by decide, Tryd.func172.trans (congrArg some (by kernel_rfl))⟩
  f28 := Tryd.func173.trans (congrArg some (by kernel_rfl))
  f29 := Tryd.func174.trans (congrArg some (by kernel_rfl))
  f46 := ⟨Tryd.f178.name, by decide, Tryd.func178.trans (congrArg some (by kernel_rfl))⟩
  f47 := Tryd.func179.trans (congrArg some (by kernel_rfl))
  f48 := Tryd.func180.trans (congrArg some (by kernel_rfl))
  f49 := ⟨Tryd.f181.name, by decide, Tryd.func181.trans (congrArg some (by kernel_rfl))⟩
  f50 := ⟨Tryd.f182.name, by decide, Tryd.func182.trans (congrArg some (by kernel_rfl))⟩
  f57 := ⟨Tryd.f183.name, by decide, Tryd.func183.trans (congrArg some (by kernel_rfl))⟩
  t0 := Tryd.underlying0
  a0 := Tryd.isAgg0
  z0 := Tryd.sizeOf0
  v0 := Tryd.zeroValue0
  t3 := Tryd.underlying3
  a3 := Tryd.isAgg3
  z3 := Tryd.sizeOf3
  v3 := Tryd.zeroValue3
  t4 := Tryd.underlying4
  a4 := Tryd.isAgg4
  z4 := Tryd.sizeOf4
  v4 := Tryd.zeroValue4
  t5 := Tryd.underlying5
  a5 := Tryd.isAgg5
  z5 := Tryd.sizeOf5
  v5 := Tryd.zeroValue5
  t9 := Tryd.underlying9
  a9 := Tryd.isAgg9
  z9 := Tryd.sizeOf9
  v9 := Tryd.zeroValue9
  t22 := Tryd.underlying32
  a22 := Tryd.isAgg32
  z22 := Tryd.sizeOf32
  v22 := Tryd.zeroValue32
  t25 := Tryd.underlying125
  a25 := Tryd.isAgg125
  z25 := Tryd.sizeOf125
  v25 := Tryd.zeroValue125
  t39 := Tryd.underlying152
  a39 := Tryd.isAgg152
  z39 := Tryd.sizeOf152
  v39 := Tryd.zeroValue152
  t45 := Tryd.underlying215
  a45 := Tryd.isAgg215
  z45 := Tryd.sizeOf215
  v45 := Tryd.zeroValue215
  t46 := Tryd.underlying216
  a46 := Tryd.isAgg216
  z46 := Tryd.sizeOf216
  v46 := Tryd.zeroValue216
  t50 := Tryd.underlying220
  a50 := Tryd.isAgg220
  z50 := Tryd.sizeOf220
  v50 := Tryd.zeroValue220
  t53 := Tryd.underlying223
  a53 := Tryd.isAgg223
  z53 := Tryd.sizeOf223
  v53 := Tryd.zeroValue223
  t55 := Tryd.underlying225
  a55 := Tryd.isAgg225
  z55 := Tryd.sizeOf225
  v55 := Tryd.zeroValue225
  t66 := Tryd.underlying229
  a66 := Tryd.isAgg229
  z66 := Tryd.sizeOf229
  v66 := Tryd.zeroValue229
  t70 := Tryd.underlying233
  a70 := Tryd.isAgg233
  z70 := Tryd.sizeOf233
  v70 := Tryd.zeroValue233
  t76 := Tryd.underlying235
  a76 := Tryd.isAgg235
  z76 := Tryd.sizeOf235
  v76 := Tryd.zeroValue235
  t77 := Tryd.underlying236
  a77 := Tryd.isAgg236
  z77 := Tryd.sizeOf236
  v77 := Tryd.zeroValue236 }
end Go.Proofs

/-
  slices.SortFunc of spots, slices.SortedFunc(maps.Keys(m), Spot.compare), impl.inOrder by contracts.
-/
namespace Go.Proofs.YtbmaljhnldepoaaDoor
open Go Go.RowKit Go.Shelf Go.Sort Go.BigFrame

theorem ltOf_cmpS : ltOf cmpS = ltS := by
  funext x y
  exact cmpS_lt x y
theorem cmpLays (blk off size : Nat) (w : World) : CmpLays Tryd.prog 146 #[] encS 2 cmpS blk off size w :=
  fun _ _ _ _ x y => spotCmp_any x.1 x.2 y.1 y.2 _

set_option maxHeartbeats 1000000 in
theorem sortFunc_some (b c : Nat) (xs : List (Int × Int)) (N : Nat) (F : Nat → Value) (W : World) (hA : At W b N F) (hd : xs.length * 2 ≤ N) (hF : ∀ q, q < xs.length * 2 → F q = sps (sI xs) q) (hn : xs.length ≤ 1048576) :
    Calls Tryd.prog 128 #[.slice (some ⟨b, 0, none⟩) xs.length c, .func (.func 146) #[] #[]] W fun e W' => e = .returned (.tuple #[]) ∧ ∃ n os, W' = sortWorldK encS 2 W b 0 n (xs.mergeSort fun x y => !ltS y x).toArray os := by
  have h := AnyQ.slices_SortFunc_total Tryd.sortSpot 2 Tryd.isAgg37 Tryd.sizeOf37 encS encS_len encS_one cmpS (by rw [ltOf_cmpS]; exact swoS) 146 #[] b 0 c xs.toArray W
    (enters_of Tryd.func146 (by kernel_rfl) rfl) (cmpLays b 0 _ W) (holds_row hA xs.toArray (by simpa using hd) (by simpa using hF)) hA.lt (by simp; omega) (by rw [ltOf_cmpS]; exact ltS_total)
  rw [ltOf_cmpS] at h
  exact h
theorem sortFunc_none (W : World) :
    Calls Tryd.prog 128 #[.slice none 0 0, .func (.func 146) #[] #[]] W fun e W' => e = .returned (.tuple #[]) ∧ W' = W :=
  AnyF.slices_SortFunc_none Tryd.sortSpot none 0 _ W

/-- slices.SortFunc of a list of spots, none of them twice. -/
theorem sortSpots_any {w : Base} {K : Blocks} {xs s : List (Int × Int)} (hp : xs.Perm s) (hs : s.Pairwise fun a b => ltS a b = true) (hn : s.length ≤ 1048576) (v : Value) (W : World) (hL : Lst w K 2 v xs.length (sps (sI xs)) W) :
    Calls Tryd.prog 128 #[v, .func (.func 146) #[] #[]] W fun e W' => e = .returned (.tuple #[]) ∧ Lst w K 2 v s.length (sps (sI s)) W' := by
  have hl := hp.length_eq
  rcases hL with ⟨rfl, h0, hM⟩ | ⟨b, c, F, rfl, hb, hc, hF, hM⟩
  · refine (sortFunc_none W).mono ?_
    rintro e W' ⟨rfl, rfl⟩
    exact ⟨rfl, .inl ⟨rfl, by omega, hM⟩⟩
  · refine (sortFunc_some b c xs (c * 2) F W hM.at0 (by omega) hF (by omega)).mono ?_
    rintro e W' ⟨rfl, n, os, rfl⟩
    rw [sortS_eq hp hs, hl]
    obtain ⟨F', hF', hM'⟩ := mem_sorted hM hb n s.toArray (by simp; omega) os
    exact ⟨rfl, .inr ⟨b, c, F', rfl, hb, by omega, by simpa using hF', hM'⟩⟩

set_option maxHeartbeats 1000000 in
theorem sortedKeys_any (bb m : Nat) (ks s : List (Int × Int)) (f : Int × Int → Value) (hp : ks.Perm s) (hs : s.Pairwise fun a b => ltS a b = true) (hn : s.length ≤ 1048576) (w : World) (hA : At w bb 1 (fun _ => .map (some m))) (hm : w.heap[m]? = some (mapO spV ks f)) :
    Calls Tryd.prog 81 #[.func (.func 162) #[] #[.pointer (some ⟨bb, 0, none⟩)], .func (.func 146) #[] #[]] w (GivesL w s) := by
  have hl := hp.length_eq
  have H := Lib.hid (collectKeys_any bb m ks f (by omega) w hA hm)
  have Hp := Lib.hid hp
  have Hs := Lib.hid hs
  have Hn := Lib.hid hn
  clear hA hm hp hs hn hl
  go_enter Tryd.func81, Tryd.ntmps81
  go_wp2_with (first | (go_at_call 127; refine H.out.mono ?_; rintro e W' ⟨xs, hx, v0, rfl, hL0⟩) | (go_at_call 128; refine (sortSpots_any (hx.trans Hp.out) Hs.out Hn.out v0 _ hL0).mono ?_; rintro e W' ⟨rfl, hL1⟩))
  go_ret
  exact ⟨_, rfl, hL1⟩

set_option maxHeartbeats 1000000 in
/-- impl.inOrder: the keys in the order of spots. -/
theorem inOrder_any (m : Nat) (ks s : List (Int × Int)) (f : Int × Int → Value) (hp : ks.Perm s) (hs : s.Pairwise fun a b => ltS a b = true) (hn : s.length ≤ 1048576) (w : World) (hm : w.heap[m]? = some (mapO spV ks f)) :
    Calls Tryd.prog 108 #[.map (some m)] w (GivesL w s) := by
  have H := fun bb W hA hm => sortedKeys_any bb m ks s f hp hs hn W hA hm
  have HH := Lib.hid H
  have Hm := Lib.hid hm
  clear H hp hs hn hm
  go_enter Tryd.func108, Tryd.ntmps108
  go_wp2_with (first | (go_at_call 145; refine (mapsKeys_any m _).mono ?_; rintro e W' ⟨bb, rfl, hbb, hM⟩) | (go_at_call 81; refine (HH.out bb _ hM.at0 ((hM.below.block m (Array.getElem?_eq_some_iff.1 Hm.out).1).trans Hm.out)).mono ?_; rintro e W2 ⟨v0, rfl, hL0⟩; have hU := Lst.up hM hL0; clear hL0))
  go_ret
  exact ⟨_, rfl, hU.1⟩
end Go.Proofs.YtbmaljhnldepoaaDoor

/-
  slices.Clone of a list of one spot.
-/
namespace Go.Proofs.YtbmaljhnldepoaaDoor
open Go Go.RowKit Go.BigFrame

theorem fewer {w : Base} {W : World} {p : Nat × Nat × (Nat → Value)} {L : Blocks} (h : Mem w (p :: L) W) : Mem w [p] W :=
  ⟨h.good, fun i b n f hi => by
    match i, hi with
    | 0, hi => exact h.ats 0 b n f (by simpa using hi)
    | i + 1, hi => simp at hi,
   fun i j x y hi hj hne => by
    match i, j, hi, hj with
    | 0, 0, _, _ => exact absurd rfl hne
    | 0, j + 1, _, hj => simp at hj
    | i + 1, _, hi, _ => simp at hi⟩
/-- A new list of spots, somewhere in its block. -/
def GivesO (w : World) (l : List (Int × Int)) (e : Ending) (w' : World) : Prop := ∃ b o c N F, e = .returned (.slice (some ⟨b, o, none⟩) l.length c) ∧ w.heap.size ≤ b ∧ l.length ≤ c ∧ o + c * 2 ≤ N ∧ (∀ j, j < l.length * 2 → F (o + j) = sps (sI l) j) ∧ Mem w [(b, N, F)] w'
@[go_sem] theorem spots_not_nil (p : Addr) (n c : Nat) (w : World) : (binOp BinOp.eql 32 (.slice (some p) n c) (.slice none 0 0)).run Tryd.prog w = .ok (.bool false) w := by kernel_rfl

set_option maxRecDepth 100000 in
theorem clone_one (x y : Int) (b : Nat) (w : World) (hA : At w b 2 (sp x y)) :
    Calls Tryd.prog 147 #[.slice (some ⟨b, 0, none⟩) 1 1] w (GivesO w [(x, y)]) := by
  have hM : Mem w [(b, 2, sp x y)] w := (Mem.nil w).old hA (fun i p h => by simp at h)
  have Hn1 : Hid (∀ j, j < 2 → sp x y j = sps (sI [(x, y)]) (0 * 2 + j)) := Lib.hid (fun j hj => by have := spsI_new [] x y hj; simpa using this)
  clear hA
  have tk_b1 : True := trivial
  go_enter Tryd.func147, Tryd.ntmps147
  go_wp2_with (first | (have _t := tk_b1; refine wpList_slice0 rfl _ _ rfl _ spot_under rfl hM ?_; intro b1 W' hb1 hM'; clear hM tk_b1; have hM := hM'; clear hM') | (have hM' := hM.swap; clear hM; have hM := hM'; clear hM'; refine wpList_pushO rfl _ _ _ rfl _ 2 _ _ spot_under spot_infoB rfl (by omega) b1 0 0 0 0 _ rfl hb1 (by omega) (by omega) (by omega) _ _ rfl sp_one hM (sps (sI [(x, y)])) (fun j hj => absurd hj (by omega)) Hn1.out ?_; intro bL oL cL nL FL W' hbL hcL hoL hFL hM'; clear hM; have hM := hM'; clear hM'))
  go_ret
  exact ⟨bL, oL, cL, nL, FL, rfl, hbL, hcL, hoL, hFL, fewer hM⟩
end Go.Proofs.YtbmaljhnldepoaaDoor

