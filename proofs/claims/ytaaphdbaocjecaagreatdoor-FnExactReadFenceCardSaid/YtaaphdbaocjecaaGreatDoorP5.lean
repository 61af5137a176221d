/-
  Several texts in one: MapB, MapOp, StepMap, StepPush, Lit1, SplitS, ReadC.
-/
import Derived.Test.YtaaphdbaocjecaaGreatDoorP1
import Derived.Test.YtaaphdbaocjecaaGreatDoorP4
import Derived.RangeFuncRecord
import Derived.Maps.Own
import Derived.Test.YtaaphdbaocjecaaGreatDoorP3
import Derived.Laws.MakeOwn
import Derived.Laws.Strings2
import Derived.Laws.Strings3
import Derived.Test.YtaaphdbaocjecaaGreatDoorP2
import Derived.Shelf.Strconv.ErrVarParseInt
import Derived.Shelf.Strings.SplitShaped
import Derived.Shelf.Strings.Shaped
/-
  PLAIN LAWS over any program: A MAP THAT A CALL OWNS, beside its blocks of cells. The map's block is a part of the base (Base.map); its entries stand in the order in which their keys came (ents).
-/
namespace Go.Proofs.YtaaphdbaocjecaaGreatDoor
open Go Go.RowKit Go.Maps Go.MapKept

/-! ### A map's entries -/
section
variable {K : Type} {kv : K → Value} {ks : List K} {f : K → Value}
/-- The entries of the keys ks, in the order in which they came; what is kept under each. -/
def ents (kv : K → Value) (ks : List K) (f : K → Value) : List MapEntry := ks.zipIdx.map fun q => { key := kv q.1, val := f q.1, born := q.2 }
/-- f with v under k. -/
def updK [DecidableEq K] (f : K → Value) (k : K) (v : Value) : K → Value := fun j => if j = k then v else f j

theorem ents_length : (ents kv ks f).length = ks.length := by simp [ents]
theorem ents_get (i : Nat) : (ents kv ks f)[i]? = (ks[i]?).map fun k => { key := kv k, val := f k, born := i } := by
  simp [ents, List.getElem?_zipIdx]
  cases ks[i]? <;> rfl
theorem ents_congr {g : K → Value} (h : ∀ k, k ∈ ks → f k = g k) : ents kv ks f = ents kv ks g := by
  apply List.ext_getElem?
  intro i
  rw [ents_get, ents_get]
  cases e : ks[i]? with
  | none => rfl
  | some k => simp [h k (List.mem_of_getElem? e)]
theorem ents_mem {e : MapEntry} (h : e ∈ ents kv ks f) : ∃ k i, ks[i]? = some k ∧ e = { key := kv k, val := f k, born := i } := by
  obtain ⟨i, hi⟩ := List.getElem?_of_mem h
  rw [ents_get] at hi
  cases e : ks[i]? with
  | none => simp [e] at hi
  | some k => rw [e] at hi; simp at hi; exact ⟨k, i, e, hi.symm⟩
theorem ents_push [DecidableEq K] {k : K} (v : Value) (hk : k ∉ ks) : ents kv ks f ++ [{ key := kv k, val := v, born := ks.length }] = ents kv (ks ++ [k]) (updK f k v) := by
  apply List.ext_getElem?
  intro i
  rw [ents_get]
  by_cases hi : i < ks.length
  · rw [List.getElem?_append_left (by rw [ents_length]; exact hi), List.getElem?_append_left hi, ents_get]
    have : ks[i] ≠ k := fun e => hk (e ▸ List.getElem_mem hi)
    simp [hi, updK, this]
  · rw [List.getElem?_append_right (by rw [ents_length]; omega), List.getElem?_append_right (by omega), ents_length]
    rcases Nat.eq_or_lt_of_le (Nat.not_lt.1 hi) with e | e
    · subst e; simp [updK]
    · have : i - ks.length ≠ 0 := by omega
      cases q : i - ks.length with
      | zero => omega
      | succ n => simp
theorem ents_modify [DecidableEq K] {k : K} {j : Nat} (v : Value) (hd : ks.Nodup) (hj : ks[j]? = some k) (g : MapEntry → MapEntry) (hg : ∀ e : MapEntry, e.key = kv k → g e = { e with key := kv k, val := v }) : (ents kv ks f).modify j g = ents kv ks (updK f k v) := by
  apply List.ext_getElem?
  intro i
  rw [List.getElem?_modify, ents_get, ents_get]
  by_cases e : j = i
  · subst e; simp [hj, hg, updK]
  · cases q : ks[i]? with
    | none => simp
    | some k' =>
      have : k' ≠ k := fun h => e ((List.getElem?_inj (List.getElem?_eq_some_iff.1 hj).1 hd).1 (by rw [hj, q, h]))
      simp [e, updK, this]
end

/-- How keys are told: each is a key of the type, and no two are told alike. -/
structure KeyTold (P : Program) (kt : TypeId) {K : Type} (kv : K → Value) (ok : K → Prop) : Prop where
  keyed : Keyed P kt
  told : ∀ k, ok k → ∃ l, keyOf P kt (kv k) = some l
  inj : ∀ {a b : K}, kv a = kv b → a = b

/-! ### The base with a map -/
/-- A base beside which block m holds the object o, which is no cells. -/
def Base.with (w : Base) (m : Nat) (o : Obj) (ho : o.isCells = false) : Base where
  G := fun W => w.G W ∧ W.heap[m]? = some o
  B := w.B
  le := fun h => w.le h.1
  alloc := fun {W} c t h => ⟨w.alloc c t h.1, (Below.heap_alloc W _ m (Array.getElem?_eq_some_iff.1 h.2).1).trans h.2⟩
  row := fun {W b c t} h hb hc c' => ⟨w.row h.1 hb hc c', (_root_.Go.setRow_other W b m c' (fun e => by subst e; rw [h.2] at hc; cases hc; simp [Obj.isCells] at ho)).trans h.2⟩
  call := fun h hb => ⟨w.call h.1 hb, (hb.block m (Array.getElem?_eq_some_iff.1 h.2).1).trans h.2⟩
  drew := fun h => ⟨w.drew h.1, h.2⟩
/-- The map's object. -/
def mapO {K : Type} (kv : K → Value) (ks : List K) (f : K → Value) : Obj := .map (ents kv ks f).toArray ks.length
theorem mapO_cells {K : Type} {kv : K → Value} {ks : List K} {f : K → Value} : (mapO kv ks f).isCells = false := rfl
/-- A base beside which block m holds the map of the keys ks. -/
def Base.map {K : Type} (w : Base) (m : Nat) (kv : K → Value) (ks : List K) (f : K → Value) : Base := w.with m (mapO kv ks f) rfl
/-- What is no cells in block m may be another in its place. -/
def Base.Lets (w : Base) (m : Nat) : Prop := ∀ (W : World) (o o' : Obj), w.G W → W.heap[m]? = some o → o.isCells = false → w.G (W.putObj m o')

theorem putObj_same {W : World} {m : Nat} {o : Obj} (h : W.heap[m]? = some o) (o' : Obj) : (W.putObj m o').heap[m]? = some o' := by
  have := (Array.getElem?_eq_some_iff.1 h).1
  simp [World.putObj, this]
theorem putObj_other (W : World) (m : Nat) (o' : Obj) {k : Nat} (h : k ≠ m) : (W.putObj m o').heap[k]? = W.heap[k]? := by
  simp [World.putObj, Ne.symm h]
theorem below_putObj {B m : Nat} {a W : World} (h : Below B a W) (hm : B ≤ m) (o' : Obj) : Below B a (W.putObj m o') :=
  ⟨h.os, h.tape, h.output, by simpa [World.putObj] using h.size, fun k hk => (putObj_other W m o' (by omega)).trans (h.block k hk)⟩

theorem lets_of {w : World} {m : Nat} (h : w.heap.size ≤ m) : (Base.of w).Lets m := fun _ _ o' hg _ _ => below_putObj hg h o'
theorem lets_round {w0 Wr : World} {Bk m : Nat} (h : w0.heap.size ≤ m) (h' : m < Bk) : (Base.round w0 Bk Wr).Lets m := fun W _ o' hg _ _ =>
  ⟨below_putObj hg.1 h o', ⟨by simpa [World.putObj] using hg.2.size, fun k o hk ho hn => (putObj_other W m o' (by omega)).trans (hg.2.same k o hk ho hn)⟩⟩
theorem lets_with {w : Base} {m m' : Nat} {o : Obj} {ho : o.isCells = false} (h : w.Lets m) (hne : m ≠ m') : (w.with m' o ho).Lets m := fun W o1 o' hg h1 h2 =>
  ⟨h W o1 o' hg.1 h1 h2, (putObj_other W m o' (Ne.symm hne)).trans hg.2⟩

theorem Mem.withO {w : Base} {W : World} {L : Blocks} (h : Mem w L W) {m : Nat} {o : Obj} (ho : o.isCells = false) (hm : W.heap[m]? = some o) : Mem (w.with m o ho) L W := h.base ⟨h.good, hm⟩
theorem Mem.less {w : Base} {W : World} {L : Blocks} {m : Nat} {o : Obj} {ho : o.isCells = false} (h : Mem (w.with m o ho) L W) : Mem w L W := h.base h.good.1
theorem Mem.put {w : Base} {W : World} {L : Blocks} {m : Nat} {o : Obj} {ho : o.isCells = false} (h : Mem (w.with m o ho) L W) (hl : w.Lets m) {o' : Obj} (ho' : o'.isCells = false) : Mem (w.with m o' ho') L (W.putObj m o') :=
  ⟨⟨hl W o o' h.good.1 h.good.2 ho, putObj_same h.good.2 o'⟩, fun i b n f hi => by
    obtain ⟨t, ht⟩ := h.ats i b n f hi
    exact ⟨t, (putObj_other W m o' (fun e => by subst e; have := h.good.2; rw [ht] at this; cases this; simp [Obj.isCells] at ho)).trans ht⟩, h.apart⟩
theorem Mem.newObj {w : Base} {W : World} {L : Blocks} (h : Mem w L W) (o : Obj) (ho : o.isCells = false) : Mem (w.with W.heap.size o ho) L (W.alloc o) :=
  (h.call (W' := W.alloc o) ((Below.refl _ W).alloc (Nat.le_refl _) o)).withO ho (heap_alloc_new W o)

/-! ### The operations -/
section
variable {P : Program} {ops : Array Oper} {rest : List Oper} {o : Oper} {a : Act} {w : Base} {W : World} {Q : Exit → Act → World → Prop} {L : Blocks}
variable {K : Type} {kv : K → Value} {ok : K → Prop} {ks : List K} {f : K → Value} {kt et : TypeId} {m : Nat}

theorem look_map [DecidableEq K] (T : KeyTold P kt kv ok) {t : TypeId} (ht : P.underlying t = some (.map kt et)) {z : Value} (hz : (zeroValue et).run P W = .ok z W) (hm : W.heap[m]? = some (mapO kv ks f)) (hks : ∀ k, k ∈ ks → ok k) {k : K} (hk : ok k) (c : Bool) :
    (Instr.lookup t (.map (some m)) (kv k) c).run P W = .ok (if c then .tuple #[if k ∈ ks then f k else z, .bool (decide (k ∈ ks))] else if k ∈ ks then f k else z) W := by
  obtain ⟨l, hl⟩ := T.told k hk
  have hes : ∀ e ∈ ents kv ks f, ∃ l, keyOf P kt e.key = some l := fun e he => by
    obtain ⟨k', i, hi, rfl⟩ := ents_mem he
    exact T.told k' (hks k' (List.mem_of_getElem? hi))
  rcases T.keyed.find W hl (ents kv ks f) hes with ⟨h1, h2⟩ | ⟨j, e0, h1, h2, h3⟩
  · have hn : k ∉ ks := fun h => by
      obtain ⟨i, hi⟩ := List.getElem?_of_mem h
      exact h2 _ (List.mem_of_getElem? (i := i) (by rw [ents_get, hi]; rfl)) rfl
    simp [Instr.lookup, run_underlying ht, MapKept.run_getObj_map (show W.heap[m]? = some (.map _ _) from hm), T.keyed.check W _ hl, h1, hz, Result.andThen, hn]
  · rw [ents_get] at h2
    cases q : ks[j]? with
    | none => simp [q] at h2
    | some k' =>
      rw [q] at h2; simp at h2
      have ek : k' = k := T.inj (by rw [← h3, ← h2])
      subst ek
      have hin := List.mem_of_getElem? q
      have ev : e0.val = f k' := by rw [← h2]
      simp [Instr.lookup, run_underlying ht, MapKept.run_getObj_map (show W.heap[m]? = some (.map _ _) from hm), T.keyed.check W _ hl, h1, Result.andThen, hin, ev]

/-- The keys behind a store. -/
def addK [DecidableEq K] (ks : List K) (k : K) : List K := if k ∈ ks then ks else ks ++ [k]
theorem addK_nodup [DecidableEq K] (hd : ks.Nodup) (k : K) : (addK ks k).Nodup := by
  unfold addK
  split
  · exact hd
  · rename_i h
    rw [List.nodup_append]
    exact ⟨hd, by simp, fun x hx y hy e => by simp at hy; subst hy; subst e; exact h hx⟩
theorem mem_addK [DecidableEq K] {k j : K} : j ∈ addK ks k ↔ j ∈ ks ∨ j = k := by
  unfold addK
  split
  · rename_i h
    exact ⟨.inl, fun h' => h'.elim id (fun e => e ▸ h)⟩
  · simp

theorem put_map [DecidableEq K] (T : KeyTold P kt kv ok) {t : TypeId} (ht : P.underlying t = some (.map kt et)) (hm : W.heap[m]? = some (mapO kv ks f)) (hd : ks.Nodup) (hks : ∀ k, k ∈ ks → ok k) {k : K} (hk : ok k) (v : Value) :
    (Instr.mapUpdate t (.map (some m)) (kv k) v).run P W = .ok () (W.putObj m (mapO kv (addK ks k) (updK f k v))) := by
  obtain ⟨l, hl⟩ := T.told k hk
  have hes : ∀ e ∈ ents kv ks f, ∃ l, keyOf P kt e.key = some l := fun e he => by
    obtain ⟨k', i, hi, rfl⟩ := ents_mem he
    exact T.told k' (hks k' (List.mem_of_getElem? hi))
  have hm' : W.heap[m]? = some (.map (ents kv ks f).toArray ks.length) := hm
  rcases T.keyed.find W hl (ents kv ks f) hes with ⟨h1, h2⟩ | ⟨j, e0, h1, h2, h3⟩
  · have hn : k ∉ ks := fun h => by
      obtain ⟨i, hi⟩ := List.getElem?_of_mem h
      exact h2 _ (List.mem_of_getElem? (i := i) (by rw [ents_get, hi]; rfl)) rfl
    have e1 : mapO kv (addK ks k) (updK f k v) = .map ((ents kv ks f).toArray.push { key := kv k, val := v, born := ks.length }) (ks.length + 1) := by
      unfold mapO addK
      rw [if_neg hn, ← ents_push v hn]
      simp
    rw [e1]
    simp [Instr.mapUpdate, run_underlying ht, MapKept.run_getObj_map hm', T.keyed.check W false hl, h1, MapKept.run_setObj_map _ hm', Result.andThen, World.putObj]
  · rw [ents_get] at h2
    cases q : ks[j]? with
    | none => simp [q] at h2
    | some k' =>
      rw [q] at h2; simp at h2
      have ek : k' = k := T.inj (by rw [← h3, ← h2])
      subst ek
      have hin := List.mem_of_getElem? q
      have hj : (ents kv ks f)[j]? = some e0 := by rw [ents_get, q]; simp [← h2]
      have e1 : mapO kv (addK ks k') (updK f k' v) = .map ((ents kv ks f).toArray.modify j (fun e => { e with key := kv k', val := v })) ks.length := by
        unfold mapO addK
        rw [if_pos hin, ← ents_modify v hd q (fun e => { e with key := kv k', val := v }) (fun _ _ => rfl)]
        congr 1
        apply Array.toList_inj.1
        simp
      rw [e1]
      simp [Instr.mapUpdate, run_underlying ht, MapKept.run_getObj_map hm', T.keyed.check W false hl, h1, hj, h3, T.keyed.stays W hl, MapKept.run_setObj_map _ hm', Result.andThen, World.putObj]
end
end Go.Proofs.YtaaphdbaocjecaaGreatDoor

/-
  PLAIN LAWS over any program: the operations on a map that a call owns (MapB), at the list of a region.
-/
namespace Go.Proofs.YtaaphdbaocjecaaGreatDoor
open Go Go.RowKit Go.Maps

section
variable {P : Program} {ops : Array Oper} {rest : List Oper} {o : Oper} {a : Act} {w : Base} {W : World} {Q : Exit → Act → World → Prop} {L : Blocks} {J : Act → World → Prop}
variable {K : Type} {kv : K → Value} {ok : K → Prop} {ks : List K} {f : K → Value} {kt et : TypeId} {m : Nat}

/-- 'map[K]V{}'. -/
theorem oper_makeMap (t : TypeId) (ho : o.op = .makeMap t none) (f : K → Value) (hM : Mem w L W)
    (h : ∀ m W', w.B ≤ m → W.heap.size ≤ m → Mem (w.with m (mapO kv [] f) rfl) L W' → J (a.put o.dst (.map (some m))) W') : o.wp P a W J Q := by
  have hr : (Instr.makeMap t none).run P W = .ok (.map (some W.heap.size)) (W.alloc (.map #[] 0)) := rfl
  unfold Oper.wp
  simp only [execOp, ho, Sem.run_bind, hr, Result.andThen_ok, Option.map_none]
  exact h _ _ hM.size (Nat.le_refl _) (hM.newObj (mapO kv [] f) rfl)
/-- 'm[k]' and 'v, ok := m[k]'. -/
theorem oper_lookup [DecidableEq K] (t : TypeId) (x y : Operand) (c : Bool) (ho : o.op = .lookup t x y c) (hx : a.eval x = .map (some m)) (k : K) (hy : a.eval y = kv k)
    (T : KeyTold P kt kv ok) (ht : P.underlying t = some (.map kt et)) (z : Value) (hz : ∀ W, (zeroValue et).run P W = .ok z W) (hm : W.heap[m]? = some (mapO kv ks f)) (hks : ∀ k, k ∈ ks → ok k) (hk : ok k)
    (h : J (a.put o.dst (if c then .tuple #[if k ∈ ks then f k else z, .bool (decide (k ∈ ks))] else if k ∈ ks then f k else z)) W) : o.wp P a W J Q := by
  have hr := look_map T ht (hz W) hm hks hk c
  unfold Oper.wp
  simp only [execOp, ho, hx, hy, Sem.run_bind, hr, Result.andThen_ok]
  exact h
/-- 'm[k] = v'. -/
theorem oper_mapSet [DecidableEq K] (t : TypeId) (x y v : Operand) (ho : o.op = .mapUpdate t x y v) (hx : a.eval x = .map (some m)) (k : K) (hy : a.eval y = kv k) (val : Value) (hv : a.eval v = val)
    (T : KeyTold P kt kv ok) (ht : P.underlying t = some (.map kt et)) (hM : Mem (w.with m (mapO kv ks f) rfl) L W) (hl : w.Lets m) (hd : ks.Nodup) (hks : ∀ k, k ∈ ks → ok k) (hk : ok k)
    (h : ∀ W', Mem (w.with m (mapO kv (addK ks k) (updK f k val)) rfl) L W' → J (a.put o.dst undef) W') : o.wp P a W J Q := by
  have hr := put_map T ht hM.good.2 hd hks hk val
  unfold Oper.wp
  simp only [execOp, ho, hx, hy, hv, Sem.run_bind, hr, Result.andThen_ok, Sem.run_pure]
  exact h _ (hM.put hl rfl)

theorem wpList_makeMap (hgd : o.guard = none) (t : TypeId) (ho : o.op = .makeMap t none) (f : K → Value) (hM : Mem w L W)
    (h : ∀ m W', w.B ≤ m → W.heap.size ≤ m → Mem (w.with m (mapO kv [] f) rfl) L W' → wpList P ops Q rest (a.put o.dst (.map (some m))) W') : wpList P ops Q (o :: rest) a W :=
  wpList_plain hgd fun _ hJ => oper_makeMap t ho f hM fun m W' h1 h2 h3 => hJ _ _ (h m W' h1 h2 h3)
theorem wpList_lookup [DecidableEq K] (hgd : o.guard = none) (t : TypeId) (x y : Operand) (c : Bool) (ho : o.op = .lookup t x y c) (hx : a.eval x = .map (some m)) (k : K) (hy : a.eval y = kv k)
    (T : KeyTold P kt kv ok) (ht : P.underlying t = some (.map kt et)) (z : Value) (hz : ∀ W, (zeroValue et).run P W = .ok z W) (hm : W.heap[m]? = some (mapO kv ks f)) (hks : ∀ k, k ∈ ks → ok k) (hk : ok k)
    (h : wpList P ops Q rest (a.put o.dst (if c then .tuple #[if k ∈ ks then f k else z, .bool (decide (k ∈ ks))] else if k ∈ ks then f k else z)) W) : wpList P ops Q (o :: rest) a W :=
  wpList_plain hgd fun _ hJ => oper_lookup t x y c ho hx k hy T ht z hz hm hks hk (hJ _ _ h)
theorem wpList_mapSet [DecidableEq K] (hgd : o.guard = none) (t : TypeId) (x y v : Operand) (ho : o.op = .mapUpdate t x y v) (hx : a.eval x = .map (some m)) (k : K) (hy : a.eval y = kv k) (val : Value) (hv : a.eval v = val)
    (T : KeyTold P kt kv ok) (ht : P.underlying t = some (.map kt et)) (hM : Mem (w.with m (mapO kv ks f) rfl) L W) (hl : w.Lets m) (hd : ks.Nodup) (hks : ∀ k, k ∈ ks → ok k) (hk : ok k)
    (h : ∀ W', Mem (w.with m (mapO kv (addK ks k) (updK f k val)) rfl) L W' → wpList P ops Q rest (a.put o.dst undef) W') : wpList P ops Q (o :: rest) a W :=
  wpList_plain hgd fun _ hJ => oper_mapSet t x y v ho hx k hy val hv T ht hM hl hd hks hk fun W' h1 => hJ _ _ (h W' h1)
end
end Go.Proofs.YtaaphdbaocjecaaGreatDoor

/-
  PLAIN LAWS: steps of a region that draws its order: a slice literal, a call that gives a new map, a lookup in it.
-/
namespace Go.Proofs.YtaaphdbaocjecaaGreatDoor
open Go Go.RowKit Go.Maps
variable {P : Program} {C D : World → Prop} {o : Oper} {a : Act} {w : Base} {L x : Blocks} {K : Act → (World → Prop) → Prop}

theorem kept_with (w : Base) (L x : Blocks) (m : Nat) (ob : Obj) (hob : ob.isCells = false) : Kept (Mem w L) (Mem (w.with m ob hob) (x ++ L)) where
  sub := fun W h => (kept_mem w L x).sub W h.less
  on := fun W W' h hb => h.call hb
theorem stepD_val (hk : Kept C D) (h : ∃ v, (∀ W, (execOp a.eval o).run P W = .ok (.value v) W) ∧ K (a.put o.dst v) D) : stepT P C o a D K := by
  obtain ⟨v, hr, h⟩ := h
  exact fun W hW => .inl ⟨v, _, W, .inl (hr W), hk, hW, h⟩
theorem step_slice1 (t e : TypeId) (y : Operand) (ho : o.op = .buildSlice t 1 #[(0, y)]) (m : Nat) (f : Nat → Value) (hx : a.eval y = .agg (arr m f)) (z : Value)
    (hu : P.underlying t = some (.slice e)) (hz : (P.info? e).map (fun i => (i.size, i.zero)) = some (m, some z)) (hm : 0 < m) (hm' : m ≤ 1000)
    (h : ∀ b, w.B ≤ b → K (a.put o.dst (.slice (some ⟨b, 0, none⟩) 1 1)) (Mem w (((b, m, f) :: x) ++ L))) : stepT P (Mem w L) o a (Mem w (x ++ L)) K := by
  obtain ⟨ie, hie, hq⟩ := Option.map_eq_some_iff.1 hz
  simp only [Prod.mk.injEq] at hq
  refine fun W hW => .inl ⟨_, _, _, .inl ?_, kept_mem w L ((W.heap.size, m, f) :: x), hW.alloc e m f, h _ hW.size⟩
  have hf : Instr.fill (fun i => some (i * ie.size, ie.size)) ((Array.range (1 * ie.size)).map (z.cells[· % z.cells.size]!)) (Array.map (fun x => match x with | (i, x) => (i, a.eval x)) #[(0, y)]).toList = some (arr m f) := by
    rw [hq.1]
    rw [show (Array.map (fun x => match x with | (i, x) => (i, a.eval x)) #[(0, y)]).toList = [(0, Value.agg (arr m f))] by simp [hx]]
    obtain ⟨cs, h1, h2, h3⟩ := fill_one (f := f) (place := fun i => some (i * m, m)) (i := 0) (off := 0 * m) (m := m) rfl (cs := (Array.range (1 * m)).map (z.cells[· % z.cells.size]!)) (by simp) []
    rw [h1, Instr.fill]
    refine congrArg some (arr_ext (by rw [h2]; simp) (fun k hk => ?_))
    rw [h3, if_pos (by omega)]; simp
  unfold execOp
  simp only [ho, Sem.run_bind, run_buildSlice W t e 1 _ (arr m f) ie z hu hie hq.2 (by rw [hq.1]; omega) (by rw [hq.1]; omega) hf, Result.andThen_ok]
  rfl
theorem step_call_map (ob : Obj) (hob : ob.isCells = false) (h : ∃ fn args, (∀ W, (execOp a.eval o).run P W = .ok (.enter fn args) W) ∧
    (∀ W, Mem w (x ++ L) W → Calls P fn args W fun e w' => ∃ m, e = .returned (.map (some m)) ∧ W.heap.size ≤ m ∧ Mem ((Base.of W).with m ob hob) [] w') ∧
    ∀ m, w.B ≤ m → K (a.put o.dst (.map (some m))) (Mem (w.with m ob hob) (x ++ L))) : stepT P (Mem w L) o a (Mem w (x ++ L)) K := by
  obtain ⟨fn, args, hr, hc, h⟩ := h
  exact fun W hW => .inr ⟨fn, args, hr W, (hc W hW).mono fun e w' ⟨m, he, hge, hM⟩ => ⟨.map (some m), _, he, kept_with w L x m ob hob, (hW.call hM.good.1).withO hob hM.good.2, h m (Nat.le_trans hW.size hge)⟩⟩
section
variable {T : Type} {kv : T → Value} {ok : T → Prop} {ks : List T} {f : T → Value} {kt et : TypeId} {m : Nat}
theorem stepD_look [DecidableEq T] (hk : Kept C D) (c : Bool) (t : TypeId) (y z : Operand) (ho : o.op = .lookup t y z c) (hx : a.eval y = .map (some m)) (k : T) (hy : a.eval z = kv k)
    (hT : KeyTold P kt kv ok) (ht : P.underlying t = some (.map kt et)) (zv : Value) (hz : ∀ W, (zeroValue et).run P W = .ok zv W) (hm : ∀ W, D W → W.heap[m]? = some (mapO kv ks f)) (hks : ∀ k, k ∈ ks → ok k) (hok : ok k) (v : Value) (hv : (if c then .tuple #[if k ∈ ks then f k else zv, .bool (decide (k ∈ ks))] else if k ∈ ks then f k else zv) = v)
    (h : K (a.put o.dst v) D) : stepT P C o a D K := by
  refine fun W hW => .inl ⟨v, _, W, .inl ?_, hk, hW, h⟩
  have hr := look_map hT ht (hz W) (hm W hW) hks hok c
  rw [hv] at hr
  simp only [execOp, ho, hx, hy, Sem.run_bind, hr, Result.andThen_ok]
  rfl
end
end Go.Proofs.YtaaphdbaocjecaaGreatDoor

/-
  PLAIN LAWS over any program: in a drawn region with reads at any places, an element appended to a list of the call's own.
-/
namespace Go.Proofs.YtaaphdbaocjecaaGreatDoor
open Go Go.RowKit

section
variable {P : Program} {o : Oper} {a : Act} {w : Base} {L x : Blocks} {K : Act → (World → Prop) → Prop}
theorem exec_append {W W' : World} {v sv yv : Value} {s y : Operand} {t : TypeId} (ho : o.op = .call { callee := .builtin .append, args := #[s, y], argTypes := #[t, t] }) (hs : a.eval s = sv) (hx : a.eval y = yv)
    (hr : (Builtin.append_ #[t, t] o.type #[sv, yv]).run P W = .ok v W') : (execOp a.eval o).run P W = .ok (.value v) W' := by
  unfold execOp
  simp only [ho, resolve, invoke, builtin, Sem.run_bind, Sem.run_pure, Result.andThen_ok, List.map_toArray, List.map_cons, List.map_nil, hs, hx, hr]
theorem step_push0 (s y : Operand) (t : TypeId) (ho : o.op = .call { callee := .builtin .append, args := #[s, y], argTypes := #[t, t] })
    (e : TypeId) (m bs : Nat) (z : Value) (hu : P.underlying t = some (.slice e)) (hz : (P.info? e).map (fun i => (i.size, i.zero, i.bytes)) = some (m, some z, bs)) (hzs : z.cells.size = m) (hbs : bs ≤ 1000)
    (hs : a.eval s = .slice none 0 0) (bn : Nat) (f : Nat → Value) (hx : a.eval y = .slice (some ⟨bn, 0, none⟩) 1 1) (R : Nat → Value) (hR : ∀ j, j < m → f j = R j)
    (h : ∀ b' c' F', w.B ≤ b' → 1 ≤ c' → (∀ j, j < 1 * m → F' j = R j) → K (a.put o.dst (.slice (some ⟨b', 0, none⟩) 1 c')) (Mem w (((b', c' * m, F') :: x) ++ L))) : stepT P (Mem w L) o a (Mem w (((bn, m, f) :: x) ++ L)) K := by
  obtain ⟨i, hi, hq⟩ := Option.map_eq_some_iff.1 hz
  simp only [Prod.mk.injEq] at hq
  obtain ⟨rfl, q2, rfl⟩ := hq
  intro W hM
  have hr := run_append_nil (P := P) W t o.type e i z hu hi q2 ⟨bn, 0, none⟩ 1 1 (arr i.size f).toList (by simp [arr_size]) (hM.at0.list (Nat.le_refl _)) (by omega) (by omega) (by omega)
  have hge := grownCap_ge W 1 0 e
  refine .inl ⟨_, _, _, .inl (exec_append ho hs hx hr), kept_mem w L ((W.heap.size, grownCap W 1 0 e * i.size, _) :: x), (hM.drew.allocA e _ (grownCap W 1 0 e * i.size) ?_).skip, h _ _ _ hM.size hge (fun j hj => ?_)⟩
  · simp only [Array.size_append, List.size_toArray, size_zeroCells, hzs, Array.length_toList, arr_size]
    conv => lhs; lhs; rw [← Nat.one_mul i.size]
    rw [← Nat.add_mul]
    congr 1; omega
  · have hj' : j < i.size := by omega
    rw [← hR j hj']
    simp [Array.getElem?_append, arr, hj']
theorem step_push1 (s y : Operand) (t : TypeId) (ho : o.op = .call { callee := .builtin .append, args := #[s, y], argTypes := #[t, t] })
    (e : TypeId) (m bs : Nat) (z : Value) (hu : P.underlying t = some (.slice e)) (hz : (P.info? e).map (fun i => (i.size, i.zero, i.bytes)) = some (m, some z, bs)) (hzs : z.cells.size = m) (hbs : bs ≤ 1000)
    (b n c : Nat) (F : Nat → Value) (hs : a.eval s = .slice (some ⟨b, 0, none⟩) n c) (hb : w.B ≤ b) (hnc : n ≤ c) (hn : n ≤ 1048576)
    (bn : Nat) (f : Nat → Value) (hx : a.eval y = .slice (some ⟨bn, 0, none⟩) 1 1) (h1 : ∀ k, k < m → (f k).oneCell' = true) (R : Nat → Value) (hR0 : ∀ j, j < n * m → F j = R j) (hR : ∀ j, j < m → f j = R (n * m + j))
    (h : ∀ b' c' F', w.B ≤ b' → n + 1 ≤ c' → (∀ j, j < (n + 1) * m → F' j = R j) → K (a.put o.dst (.slice (some ⟨b', 0, none⟩) (n + 1) c')) (Mem w (((b', c' * m, F') :: x) ++ L))) : stepT P (Mem w L) o a (Mem w (((bn, m, f) :: (b, c * m, F) :: x) ++ L)) K := by
  obtain ⟨i, hi, hq⟩ := Option.map_eq_some_iff.1 hz
  simp only [Prod.mk.injEq] at hq
  obtain ⟨rfl, q2, rfl⟩ := hq
  intro W hM
  have hnews := hM.at0.list (Nat.le_refl _)
  by_cases hroom : n + 1 ≤ c
  · have hfit : n * i.size + i.size ≤ c * i.size := by
      have := Nat.mul_le_mul_right i.size hroom
      rwa [Nat.add_mul, Nat.one_mul] at this
    obtain ⟨t0, ht0⟩ := hM.ats 1 _ _ _ rfl
    have hfc := run_firstCells_some (P := P) W i.size 1 ⟨bn, 0, none⟩ 1 1 (arr i.size f).toList (by simp [arr_size]) hnews
    have hst := run_storeCells_at (P := P) b (n * i.size) t0 (arr i.size f).toList 0 (arr (c * i.size) F) W ht0 (by simp [arr_size]; omega) (fun v hv => by
      rw [arr_toList] at hv; simp at hv; obtain ⟨k, hk, rfl⟩ := hv; exact h1 k hk)
    rw [Nat.add_zero, arr_lay hfit] at hst
    have hr : (Builtin.append_ #[t, t] o.type #[.slice (some ⟨b, 0, none⟩) n c, .slice (some ⟨bn, 0, none⟩) 1 1]).run P W = .ok (.slice (some ⟨b, 0, none⟩) (n + 1) c) (W.setRow b (arr (c * i.size) (lay F (n * i.size) i.size f))) := by
      simp [Builtin.append_, run_underlying hu, sizeOf, typeInfo, hi, Builtin.lenOf, hroom, hfc, add_any, hst]
    refine .inl ⟨_, _, _, .inl (exec_append ho hs hx hr), kept_mem w L ((b, c * i.size, lay F (n * i.size) i.size f) :: x), (hM.setRow 1 rfl hb _).drop, h b c _ hb hroom (fun j hj => ?_)⟩
    · rw [Nat.add_mul, Nat.one_mul] at hj
      simp only [lay]
      by_cases hj' : j < n * i.size
      · rw [if_neg (by omega)]; exact hR0 j hj'
      · rw [if_pos (by omega), hR _ (by omega), show n * i.size + (j - n * i.size) = j by omega]
  · have hle : n * i.size ≤ c * i.size := Nat.mul_le_mul_right _ hnc
    have hb48 : Builtin.nextslicecap (n + 1) c * i.bytes ≤ 281474976710656 := growslice_fits (by omega) (by
      have : (n + 1) * i.bytes ≤ 1048577 * 1000 := Nat.mul_le_mul (by omega) hbs
      omega)
    have hr := run_append_grow (P := P) W t o.type e i z hu hi q2 ⟨b, 0, none⟩ n c (arr (n * i.size) F).toList (by simp [arr_size]) ((hM.ats 1 _ _ _ rfl).list hle) ⟨bn, 0, none⟩ 1 1 (arr i.size f).toList (by simp [arr_size]) hnews (by omega) (by omega) hb48
    have hge := grownCap_ge W (n + 1) c e
    refine .inl ⟨_, _, _, .inl (exec_append ho hs hx hr), kept_mem w L ((W.heap.size, grownCap W (n + 1) c e * i.size, _) :: x), (hM.drew.allocA e _ (grownCap W (n + 1) c e * i.size) ?_).skip.skip, h _ _ _ hM.size hge (fun j hj => ?_)⟩
    · simp only [Array.size_append, List.size_toArray, size_zeroCells, hzs, Array.length_toList, arr_size]
      rw [← Nat.succ_mul, ← Nat.add_mul]
      congr 1; simp only [Nat.succ_eq_add_one]; omega
    · rw [Nat.add_mul, Nat.one_mul] at hj
      by_cases hj' : j < n * i.size
      · rw [← hR0 j hj']
        rw [Array.getElem?_append_left (by simp [arr_size]; omega), Array.getElem?_append_left (by simp [arr_size]; omega), Array.toArray_toList, arr_at hj']
        rfl
      · rw [show j = n * i.size + (j - n * i.size) by omega, ← hR _ (by omega)]
        rw [Array.getElem?_append_left (by simp [arr_size]; omega), Array.getElem?_append_right (by simp [arr_size]), Array.toArray_toList, Array.toArray_toList, arr_size, Nat.add_sub_cancel_left, arr_at (by omega)]
        rfl
end
end Go.Proofs.YtaaphdbaocjecaaGreatDoor

/-
  PLAIN LAWS: slice literals of two and of three elements of one cell; make of no element, with room.
-/
namespace Go.Proofs.YtaaphdbaocjecaaGreatDoor
open Go Go.RowKit
variable {P : Program} {ops : Array Oper} {rest : List Oper} {o : Oper} {a : Act} {w : Base} {W : World} {Q : Exit → Act → World → Prop} {L : Blocks}

theorem cells_one {v : Value} (h : v.oneCell' = true) : v.cells = #[v] := by cases v <;> first | rfl | (simp [Value.oneCell'] at h)
theorem fill_cell {place : Nat → Option (Nat × Nat)} {cs : Array Value} {i off : Nat} {v : Value} (hv : v.oneCell' = true) (hp : place i = some (off, 1)) (hle : off < cs.size) (rest : List (Nat × Value)) :
    Instr.fill place cs ((i, v) :: rest) = Instr.fill place (cs.setIfInBounds off v) rest := by
  rw [Instr.fill, hp]
  simp only [cells_one hv, List.size_toArray, List.length_cons, List.length_nil, Nat.zero_add, ne_eq, not_true_eq_false, decide_false, Bool.false_or]
  rw [if_neg (by simp; omega)]
  congr 1
theorem wpList_lit2 (hgd : o.guard = none) (t e : TypeId) (x y : Operand) (ho : o.op = .buildSlice t 2 #[(0, x), (1, y)]) (u v : Value) (hx : a.eval x = u) (hy : a.eval y = v) (h0 : u.oneCell' = true) (h1 : v.oneCell' = true) (z : Value)
    (hu : P.underlying t = some (.slice e)) (hz : (P.info? e).map (fun i => (i.size, i.zero)) = some (1, some z)) (hM : Mem w L W)
    (h : ∀ b W', w.B ≤ b → Mem w ((b, 2, fun k => if k = 0 then u else v) :: L) W' → wpList P ops Q rest (a.put o.dst (.slice (some ⟨b, 0, none⟩) 2 2)) W') : wpList P ops Q (o :: rest) a W := by
  obtain ⟨ie, hie, hq⟩ := Option.map_eq_some_iff.1 hz
  simp only [Prod.mk.injEq] at hq
  refine wpList_buildSlice hgd t e 2 _ ho (arr 2 fun k => if k = 0 then u else v) ie z hu hie hq.2 (by rw [hq.1]; omega) (by rw [hq.1]; omega) ?_ (h _ _ hM.size (hM.alloc e 2 _))
  rw [hq.1]
  rw [show (Array.map (fun x => match x with | (i, x) => (i, a.eval x)) #[(0, x), (1, y)]).toList = [(0, u), (1, v)] by simp [hx, hy]]
  rw [fill_cell h0 (off := 0) rfl (by simp), fill_cell h1 (off := 1) rfl (by simp), Instr.fill]
  refine congrArg some (arr_ext (by simp) (fun k hk => ?_))
  rcases (show k = 0 ∨ k = 1 by omega) with rfl | rfl <;> simp
theorem wpList_lit3 (hgd : o.guard = none) (t e : TypeId) (x y q : Operand) (ho : o.op = .buildSlice t 3 #[(0, x), (1, y), (2, q)]) (u v s : Value) (hx : a.eval x = u) (hy : a.eval y = v) (hs : a.eval q = s) (h0 : u.oneCell' = true) (h1 : v.oneCell' = true) (h2 : s.oneCell' = true) (z : Value)
    (hu : P.underlying t = some (.slice e)) (hz : (P.info? e).map (fun i => (i.size, i.zero)) = some (1, some z)) (hM : Mem w L W)
    (h : ∀ b W', w.B ≤ b → Mem w ((b, 3, fun k => if k = 0 then u else if k = 1 then v else s) :: L) W' → wpList P ops Q rest (a.put o.dst (.slice (some ⟨b, 0, none⟩) 3 3)) W') : wpList P ops Q (o :: rest) a W := by
  obtain ⟨ie, hie, hq⟩ := Option.map_eq_some_iff.1 hz
  simp only [Prod.mk.injEq] at hq
  refine wpList_buildSlice hgd t e 3 _ ho (arr 3 fun k => if k = 0 then u else if k = 1 then v else s) ie z hu hie hq.2 (by rw [hq.1]; omega) (by rw [hq.1]; omega) ?_ (h _ _ hM.size (hM.alloc e 3 _))
  rw [hq.1]
  rw [show (Array.map (fun x => match x with | (i, x) => (i, a.eval x)) #[(0, x), (1, y), (2, q)]).toList = [(0, u), (1, v), (2, s)] by simp [hx, hy, hs]]
  rw [fill_cell h0 (off := 0) rfl (by simp), fill_cell h1 (off := 1) rfl (by simp), fill_cell h2 (off := 2) rfl (by simp), Instr.fill]
  refine congrArg some (arr_ext (by simp) (fun k hk => ?_))
  rcases (show k = 0 ∨ k = 1 ∨ k = 2 by omega) with rfl | rfl | rfl <;> simp
/-- A slice literal of one element of one cell. -/
theorem wpList_lit1 (hgd : o.guard = none) (t e : TypeId) (x : Operand) (ho : o.op = .buildSlice t 1 #[(0, x)]) (u : Value) (hx : a.eval x = u) (h0 : u.oneCell' = true) (z : Value)
    (hu : P.underlying t = some (.slice e)) (hz : (P.info? e).map (fun i => (i.size, i.zero)) = some (1, some z)) (hM : Mem w L W)
    (h : ∀ b W', w.B ≤ b → Mem w ((b, 1, fun _ => u) :: L) W' → wpList P ops Q rest (a.put o.dst (.slice (some ⟨b, 0, none⟩) 1 1)) W') : wpList P ops Q (o :: rest) a W := by
  obtain ⟨ie, hie, hq⟩ := Option.map_eq_some_iff.1 hz
  simp only [Prod.mk.injEq] at hq
  refine wpList_buildSlice hgd t e 1 _ ho (arr 1 fun _ => u) ie z hu hie hq.2 (by rw [hq.1]; omega) (by rw [hq.1]; omega) ?_ (h _ _ hM.size (hM.alloc e 1 _))
  rw [hq.1]
  rw [show (Array.map (fun x => match x with | (i, x) => (i, a.eval x)) #[(0, x)]).toList = [(0, u)] by simp [hx]]
  rw [fill_cell h0 (off := 0) rfl (by simp), Instr.fill]
  refine congrArg some (arr_ext (by simp) (fun k hk => ?_))
  obtain rfl : k = 0 := by omega
  simp

/-- make of no element, with room for n of one cell. -/
theorem wpList_make0 (hgd : o.guard = none) (t e : TypeId) (x y : Operand) (ho : o.op = .makeSlice t x y) (n : Nat) (hx : a.eval x = .int .i64 0) (hy : a.eval y = .int .i64 n) (z : Value) (bs : Nat) (hzc : z.oneCell' = true)
    (hu : P.underlying t = some (.slice e)) (hz : (P.info? e).map (fun i => (i.size, i.zero, i.bytes)) = some (1, some z, bs)) (hbs : bs ≤ 1000) (hn : n ≤ 1048576) (hM : Mem w L W)
    (h : ∀ b W', w.B ≤ b → Mem w ((b, n * 1, fun _ => z) :: L) W' → wpList P ops Q rest (a.put o.dst (.slice (some ⟨b, 0, none⟩) 0 n)) W') : wpList P ops Q (o :: rest) a W := by
  obtain ⟨ie, hie, hq⟩ := Option.map_eq_some_iff.1 hz
  simp only [Prod.mk.injEq] at hq
  obtain ⟨q1, q2, q3⟩ := hq
  refine wpList_plain hgd fun K hK => ?_
  have hb : (ie.bytes : Int) * (n : Int) ≤ 281474976710656 := by
    rw [q3]
    have : bs * n ≤ 1000 * 1048576 := Nat.mul_le_mul hbs hn
    have h2 : ((bs * n : Nat) : Int) ≤ 1000 * 1048576 := by omega
    rw [Int.natCast_mul] at h2
    omega
  have hr := run_make (P := P) W t e ie z hu hie q2 .i64 .i64 0 n (by omega) (by omega) hb (by omega)
  have hc : madeCells z.cells (n * 1) = arr (n * 1) (fun _ => z) := by
    refine arr_ext (by simp [madeCells]) (fun k hk => ?_)
    have hk' : k < n := by omega
    rw [cells_one hzc]
    simp [madeCells, hk', Nat.mod_one]
  simp only [Int.toNat_natCast, q1, hc] at hr
  unfold Oper.wp execOp
  simp only [ho, hx, hy, Sem.run_bind, Sem.run_pure, hr, Result.andThen_ok]
  exact hK _ _ (h _ _ hM.size (hM.alloc e (n * 1) _))
end Go.Proofs.YtaaphdbaocjecaaGreatDoor

/-
  spec.l01Split by contract.
-/
namespace Go.Proofs.YtaaphdbaocjecaaGreatDoor
open Go Go.RowKit Go.BigFrame

theorem wpList_sub {ops : Array Oper} {rest : List Oper} {o : Oper} {a : Act} {W : World} {Q : Exit → Act → World → Prop} (hgd : o.guard = none) (x lo hi : Operand) (ho : o.op = .slice 9 x (some lo) (some hi) none) (l : List UInt8) (hx : a.eval x = .string (bs l)) (i : Nat) (hlo : a.eval lo = .int .i64 i) (j : Nat) (hhi : a.eval hi = .int .i64 j) (h1 : i ≤ j) (h2 : j ≤ l.length)
    (h : wpList Tryz.prog ops Q rest (a.put o.dst (.string (bs (sub l i j)))) W) : wpList Tryz.prog ops Q (o :: rest) a W := by
  refine wpList_plain hgd fun K hK => ?_
  have hr := run_slice_string (P := Tryz.prog) W 9 (bs l) .i64 .i64 (i : Int) (j : Int) Tryz.underlying9 (by omega) (by omega) (by rw [bs_size]; omega)
  rw [Int.toNat_natCast, Int.toNat_natCast, bs_extract] at hr
  have hq2 : (Instr.sliceAt 9 (.string (bs l)) (some (.int .i64 (i : Int))) (some (.int .i64 (j : Int))) none).run Tryz.prog W = .ok (.string (bs (sub l i j))) W := by
    unfold Instr.sliceAt
    simp only [Sem.run_bind, run_underlying Tryz.underlying9, Result.andThen_ok, hr]
  unfold Oper.wp
  simp only [execOp, ho, hx, hlo, hhi, Option.map_some, Option.map_none, Sem.run_bind, Sem.run_pure, hq2, Result.andThen_ok]
  exact hK _ _ h
theorem wpList_subE {ops : Array Oper} {rest : List Oper} {o : Oper} {a : Act} {W : World} {Q : Exit → Act → World → Prop} (hgd : o.guard = none) (x lo : Operand) (ho : o.op = .slice 9 x (some lo) none none) (l : List UInt8) (hx : a.eval x = .string (bs l)) (i : Nat) (hlo : a.eval lo = .int .i64 i) (h1 : i ≤ l.length)
    (h : wpList Tryz.prog ops Q rest (a.put o.dst (.string (bs (sub l i l.length)))) W) : wpList Tryz.prog ops Q (o :: rest) a W := by
  refine wpList_plain hgd fun K hK => ?_
  have hr := run_slice_string_from_if (P := Tryz.prog) W 9 (bs l) .i64 (i : Int) Tryz.underlying9
  rw [if_pos ⟨by omega, by rw [bs_size]; omega⟩, Int.toNat_natCast, bs_extract, bs_size] at hr
  have hq2 : (Instr.sliceAt 9 (.string (bs l)) (some (.int .i64 (i : Int))) none none).run Tryz.prog W = .ok (.string (bs (sub l i l.length))) W := by
    unfold Instr.sliceAt
    simp only [Sem.run_bind, run_underlying Tryz.underlying9, Result.andThen_ok, hr]
  unfold Oper.wp
  simp only [execOp, ho, hx, hlo, Option.map_some, Option.map_none, Sem.run_bind, Sem.run_pure, hq2, Result.andThen_ok]
  exact hK _ _ h
theorem sL_under : Tryz.prog.underlying 33 = some (.slice 9) := Tryz.underlying33
theorem sL_info : (Tryz.prog.info? 9).map (fun i => (i.size, i.zero)) = some (1, some (.string ⟨#[]⟩)) := by kernel_rfl
theorem sL_infoB : (Tryz.prog.info? 9).map (fun i => (i.size, i.zero, i.bytes)) = some (1, some (.string ⟨#[]⟩), 16) := by kernel_rfl
theorem sL_size : (Tryz.prog.info? 9).map (fun i => i.size) = some 1 := by kernel_rfl
/-- The cells of a list of texts. -/
def txF (ps : List (List UInt8)) : Nat → Value := fun k => .string (bs (ps.getD k []))
theorem txF_one {x : ByteArray} : ∀ k, k < 1 → ((fun _ => Value.string x) k : Value).oneCell' = true := fun _ _ => rfl
theorem txF_old {ps : List (List UInt8)} {p : List UInt8} : ∀ j, j < ps.length * 1 → txF ps j = txF (ps ++ [p]) j := fun j hj => by
  unfold txF
  rw [List.getD_eq_getElem?_getD, List.getD_eq_getElem?_getD, List.getElem?_append_left (by omega)]
theorem txF_new {ps : List (List UInt8)} {p : List UInt8} : ∀ j, j < 1 → Value.string (bs p) = txF (ps ++ [p]) (ps.length * 1 + j) := fun j hj => by
  obtain rfl : j = 0 := by omega
  unfold txF
  rw [Nat.mul_one, Nat.add_zero, List.getD_eq_getElem?_getD, List.getElem?_append_right (by omega)]
  simp
set_option maxRecDepth 100000 in
set_option maxHeartbeats 4000000 in
theorem l01Split_any (l : List UInt8) (c : UInt8) (n : Int) (hn : n = c.toNat) (hl : l.length ≤ 1048576) (w : World) :
    Calls Tryz.prog 15 #[.string (bs l), .int .u8 n] w fun e w' => ∃ v, e = .returned v ∧ Lst (Base.of w) [] 1 v (partsC c l).length (txF (partsC c l)) w' := by
  have hM := Mem.nil w
  have hz : (bs l).size = l.length := bs_size l
  have Hn := Lib.hid hn
  clear hn
  have tk_b0 : True := trivial
  go_enter Tryz.func15, Tryz.ntmps15
  go_wp2_with (first | (have _t := tk_b0; refine wpList_slice0 rfl _ _ rfl 1 sL_under sL_size hM ?_; intro b0 W' hb0 hM'; clear hM tk_b0; have hM := hM'; clear hM'))
  go_loopw [5, 6, 7] (fun s b i wr => ∃ (k bg : Nat) (ps : List (List UInt8)), k ≤ l.length ∧ b = .int .i64 bg ∧ i = .int .i64 k ∧ Hid (CutAt c l k ps bg) ∧ ∃ b1 c1 F, s = .slice (some ⟨b1, 0, none⟩) ps.length c1 ∧ (Base.of w).B ≤ b1 ∧ ps.length ≤ c1 ∧ ps.length ≤ k ∧ Hid (∀ j, j < ps.length * 1 → F j = txF ps j) ∧ Mem (Base.of w) [(b1, c1 * 1, F)] wr) (fun _ _ i _ => l.length - (intOf i).toNat)
  case atStart => exact ⟨0, 0, [], by omega, rfl, rfl, Lib.hid (cutAt_zero c l), b0, 0, _, rfl, hb0, Nat.le_refl _, Nat.le_refl _, Lib.hid (fun j hj => absurd hj (by simp)), hM⟩
  case round =>
    clear hM
    obtain ⟨k, bg, ps, hk, rfl, rfl, hc, b1, c1, F, rfl, hbb, hnc, hpk, hFF, hM⟩ := hrel
    have hbk := hc.out.1
    have hle : ps.length ≤ 1048576 := by omega
    by_cases hlt : k < l.length
    · have l2 : (k : Int) < l.length := by omega
      obtain ⟨v, bv⟩ : ∃ v : Int, ((byteL l k : Nat) : Int) = v := ⟨_, rfl⟩
      have hbe := byteL_eq hlt
      by_cases he : v = n
      · have hce : l[k]'hlt = c := UInt8.toNat_inj.1 (by have := Hn.out; omega)
        have Hc := Lib.hid (cutAt_hit hc.out hlt hce)
        have Hold := Lib.hid (fun j hj => (hFF.out j hj).trans (txF_old (p := sub l bg k) j hj))
        have Hnew := Lib.hid (txF_new (ps := ps) (p := sub l bg k))
        have q0 : (v == n) = true := by rw [beq_iff_eq]; exact he
        have q1 : decide (v = n) = true := decide_eq_true he
        have Hlen : (ps ++ [sub l bg k]).length = ps.length + 1 := by simp
        have HL := Lib.hid Hlen
        clear hce hc hbe Hlen he hFF
        have tk_l1 : True := trivial; have tk_p1 : True := trivial
        go_wp2_with (first | (refine wpList_idx rfl _ _ rfl l rfl k hlt rfl _ bv ?_) | (refine wpList_sub rfl _ _ _ rfl l rfl bg rfl k rfl hbk hk ?_) | (have _t := tk_l1; refine wpList_lit1 rfl _ _ _ rfl (.string (bs (sub l bg k))) rfl rfl _ sL_under sL_info hM ?_; intro l1 W' hl1 hM'; clear hM tk_l1; have hM := hM'; clear hM') | (have _t := tk_p1; refine wpList_push1 rfl _ _ _ rfl _ 1 _ _ sL_under sL_infoB rfl (by omega) _ _ _ _ rfl hbb hnc hle _ _ rfl txF_one hM (txF (ps ++ [sub l bg k])) Hold.out Hnew.out ?_; intro bL cL FL W' hbL hcL hFL hM'; clear hM tk_p1; have hM := hM'; clear hM'))
        go_roundw
        case rel => exact ⟨k + 1, k + 1, ps ++ [sub l bg k], by omega, by go_num, by go_num, Hc, bL, cL, FL, by rw [HL.out], hbL, by rw [HL.out]; exact hcL, by rw [HL.out]; omega, Lib.hid (by rw [HL.out]; exact hFL), hM⟩
        case measure => simp [intOf]; omega
      · have hce : l[k]'hlt ≠ c := fun e => he (by have := Hn.out; rw [← e] at this; omega)
        have Hc := Lib.hid (cutAt_on hc.out hlt hce)
        have q0 : (v == n) = false := by rw [beq_eq_false_iff_ne]; exact he
        have q1 : decide (v = n) = false := decide_eq_false he
        clear hce hc hbe he
        go_wp2_with (first | (refine wpList_idx rfl _ _ rfl l rfl k hlt rfl _ bv ?_))
        go_roundw
        case rel => exact ⟨k + 1, bg, ps, by omega, rfl, by go_num, Hc, b1, c1, F, rfl, hbb, hnc, by omega, hFF, hM⟩
        case measure => simp [intOf]; omega
    · obtain rfl : k = l.length := by omega
      have Hend := Lib.hid (cutAt_end hc.out)
      have Hold := Lib.hid (fun j hj => (hFF.out j hj).trans (txF_old (p := sub l bg l.length) j hj))
      have Hnew := Lib.hid (txF_new (ps := ps) (p := sub l bg l.length))
      have HL := Lib.hid (show (ps ++ [sub l bg l.length]).length = ps.length + 1 by simp)
      clear hc hFF
      have tk_l1 : True := trivial; have tk_p1 : True := trivial
      go_wp2_with (first | (refine wpList_subE rfl _ _ rfl l rfl bg rfl hbk ?_) | (have _t := tk_l1; refine wpList_lit1 rfl _ _ _ rfl (.string (bs (sub l bg l.length))) rfl rfl _ sL_under sL_info hM ?_; intro l1 W' hl1 hM'; clear hM tk_l1; have hM := hM'; clear hM') | (have _t := tk_p1; refine wpList_push1 rfl _ _ _ rfl _ 1 _ _ sL_under sL_infoB rfl (by omega) _ _ _ _ rfl hbb hnc hle _ _ rfl txF_one hM (txF (ps ++ [sub l bg l.length])) Hold.out Hnew.out ?_; intro bL cL FL W' hbL hcL hFL hM'; clear hM tk_p1; have hM := hM'; clear hM'))
      go_ret
      refine ⟨_, rfl, ?_⟩
      rw [Hend.out, HL.out]
      exact .inr ⟨bL, cL, FL, rfl, hbL, hcL, hFL, hM⟩
/-- The same: a list that is new. -/
theorem l01Split_new (l : List UInt8) (c : UInt8) (n : Int) (hn : n = c.toNat) (hl : l.length ≤ 1048576) (w : World) :
    Calls Tryz.prog 15 #[.string (bs l), .int .u8 n] w fun e w' => ∃ b c1 F, e = .returned (.slice (some ⟨b, 0, none⟩) (partsC c l).length c1) ∧ w.heap.size ≤ b ∧ (partsC c l).length ≤ c1 ∧ (∀ j, j < (partsC c l).length → F j = txF (partsC c l) j) ∧ At w' b (c1 * 1) F ∧ Below w.heap.size w w' := by
  refine (l01Split_any l c n hn hl w).mono ?_
  rintro e w' ⟨v, rfl, h⟩
  have hpos : 0 < (partsC c l).length := List.length_pos_iff.2 (partsC_ne c l)
  rcases h with ⟨-, h0, -⟩ | ⟨b, c1, F, rfl, hb, hc, hF, hM⟩
  · omega
  · exact ⟨b, c1, F, rfl, hb, hc, fun j hj => hF j (by omega), hM.ats 0 _ _ _ rfl, hM.below⟩
end Go.Proofs.YtaaphdbaocjecaaGreatDoor

/-
  strings.Cut, strings.SplitN, strconv.ParseInt by contracts.
-/
namespace Go.Proofs.YtaaphdbaocjecaaGreatDoor
open Go Go.RowKit Go.BigFrame Go.Shelf

/-- A variable of the library's that Cut and SplitN read holds a number. -/
def MaxP (W : World) : Prop := ∃ m, W.cell? ⟨7, 0, none⟩ = some (.int .i64 m)
theorem MaxP.below {W W' : World} (h : MaxP W) (hb : Below W.heap.size W W') : MaxP W' := by
  obtain ⟨m, h⟩ := h
  exact ⟨m, (hb.cell (show (⟨7, 0, none⟩ : Addr).block < W.heap.size from Lib.lt_of_cell h)).trans h⟩
theorem maxP_of_shape {W : World} (h : W.ShapedOpen Tryz.prog) : MaxP W := Tryz.cutLays.s1_3 W h
theorem var_lt {W : World} {n : String} {g : Nat} {v : Array Value} (hg : Tryz.prog.globalNamed n = some g) (h : W.var? Tryz.prog n = some v) : g < W.heap.size := by
  unfold World.var? at h
  simp only [hg, Option.bind_some] at h
  by_cases hl : g < W.heap.size
  · exact hl
  · rw [Array.getElem?_eq_none (by omega)] at h; cases h
/-- The library's two errors of numbers. -/
def NumE (W : World) : Prop := (∃ tp p, W.var? Tryz.prog "strconv.ErrSyntax" = some #[.iface tp p]) ∧ ∃ tp p, W.var? Tryz.prog "strconv.ErrRange" = some #[.iface tp p]
theorem numE_g1 : Tryz.prog.globalNamed "strconv.ErrSyntax" = some 9 := by kernel_rfl
theorem numE_g2 : Tryz.prog.globalNamed "strconv.ErrRange" = some 10 := by kernel_rfl
theorem NumE.below {W W' : World} (h : NumE W) (hb : Below W.heap.size W W') : NumE W' := by
  obtain ⟨⟨t1, p1, h1⟩, t2, p2, h2⟩ := h
  exact ⟨⟨t1, p1, var?_below hb numE_g1 (var_lt numE_g1 h1) h1⟩, t2, p2, var?_below hb numE_g2 (var_lt numE_g2 h2) h2⟩

theorem cut_any (l : List UInt8) (c : UInt8) (hl : l.length ≤ 1048576) (w : World) (h : MaxP w) :
    Calls Tryz.prog 39 #[.string (bs l), .string (bs [c])] w fun e w' => e = .returned (.tuple #[.string (bs (Lib.cut l [c]).1), .string (bs (Lib.cut l [c]).2.1), .bool (Lib.cut l [c]).2.2]) ∧ Below w.heap.size w w' := by
  obtain ⟨m, h⟩ := h
  refine (Any.strings_Cut { Tryz.cutLays with } (bs l) (bs [c]) m w (by rw [bs_size]; omega) h).mono ?_
  rintro e w' ⟨rfl, n, rfl⟩
  rw [bs_data, bs_data]
  exact ⟨rfl, below_drewN (Below.refl _ _) n⟩
theorem cut_len1 (l s : List UInt8) : (Lib.cut l s).1.length ≤ l.length := by
  unfold Lib.cut
  split
  · simp; omega
  · simp
theorem cut_len2 (l s : List UInt8) : (Lib.cut l s).2.1.length ≤ l.length := by
  unfold Lib.cut
  split
  · simp
  · simp

/-- The words that SplitN gives. -/
def wordsN (c : UInt8) (n : Nat) (l : List UInt8) : List (List UInt8) := Lib.splitK [c] 0 (min n (l.length + 1) - 1) l
theorem wordsN_few {c : UInt8} {n : Nat} {l : List UInt8} (hn : 1 ≤ n) (h : (partsC c l).length ≤ n) : wordsN c n l = partsC c l := by
  have := partsC_len c l
  unfold wordsN
  exact splitK_few c _ l (by omega)
theorem wordsN_many {c : UInt8} {n : Nat} {l : List UInt8} (hn : 1 ≤ n) (h : n < (partsC c l).length) : (wordsN c n l).length = n := by
  have := partsC_len c l
  unfold wordsN
  rw [splitK_many c _ l (by omega)]; omega
theorem wordsN_le {c : UInt8} {n : Nat} {l : List UInt8} (hn : 1 ≤ n) : (wordsN c n l).length ≤ n := by
  by_cases h : (partsC c l).length ≤ n
  · rw [wordsN_few hn h]; exact h
  · rw [wordsN_many hn (by omega)]; exact Nat.le_refl _
theorem cellsOf_at {ws : List ByteArray} {N k : Nat} (hk : k < ws.length) : (Lib.cellsOf ws N)[k]? = some (.string ws[k]) := by
  unfold Lib.cellsOf
  rw [List.getElem?_toArray, List.getElem?_append_left (by simpa using hk)]
  simp [hk]
theorem bs_back (x : ByteArray) : bs x.data.toList = x := by
  cases x
  simp [bs]
theorem splitN_any (l : List UInt8) (c : UInt8) (n : Nat) (hl : l.length ≤ 1048576) (hn : 1 ≤ n) (hn2 : n ≤ 1000) (w : World) (h : MaxP w) :
    Calls Tryz.prog 29 #[.string (bs l), .string (bs [c]), .int .i64 n] w fun e w' => ∃ b N F, e = .returned (.slice (some ⟨b, 0, none⟩) (wordsN c n l).length N) ∧ w.heap.size ≤ b ∧ (wordsN c n l).length ≤ N ∧ (∀ j, j < (wordsN c n l).length → F j = txF (wordsN c n l) j) ∧ At w' b N F ∧ Below w.heap.size w w' := by
  obtain ⟨m, h⟩ := h
  refine (Any.strings_SplitN { Tryz.splLays with } Tryz.splLays.i9 (bs l) (bs [c]) n m w (by rw [bs_size]; omega) h (by rw [bs_size]; simp) hn (by omega)).mono ?_
  rintro e w' ⟨rfl, rfl⟩
  have hd := Lib.splitB_data (bs [c]) 0 (min n ((bs l).size + 1) - 1) (bs l)
  have hk := Lib.splitB_length_le (bs [c]) 0 (min n ((bs l).size + 1) - 1) (bs l)
  rw [bs_size] at hd hk ⊢
  rw [bs_data, bs_data] at hd
  generalize Lib.splitB (bs [c]) 0 (min n (l.length + 1) - 1) (bs l) = ws at hd hk ⊢
  have hw : wordsN c n l = ws.map (·.data.toList) := hd.symm
  have hlen : (wordsN c n l).length = ws.length := by rw [hw]; simp
  have hle : ws.length ≤ min n (l.length + 1) := by omega
  have hM := (Mem.nil w).allocA (Tryz.splLays_ren.t 9) (Lib.cellsOf ws (min n (l.length + 1))) (min n (l.length + 1)) (Lib.cellsOf_size hle)
  refine ⟨w.heap.size, min n (l.length + 1), _, by rw [hlen], Nat.le_refl _, by omega, fun j hj => ?_, hM.ats 0 _ _ _ rfl, hM.below⟩
  rw [hlen] at hj
  show (Lib.cellsOf ws (min n (l.length + 1)))[j]?.getD undef = _
  rw [cellsOf_at hj]
  unfold txF
  rw [hw, List.getD_eq_getElem?_getD]
  simp [hj, bs_back]

/-- What ParseInt reads in base 10 with so many bits. -/
def pOk (B : Nat) (l : List UInt8) : Bool := match Lib.parseIntB B l with | .ok _ => true | _ => false
def pVal (B : Nat) (l : List UInt8) : Int := match Lib.parseIntB B l with | .ok v => v | _ => 0
theorem pOk_of {B : Nat} {l : List UInt8} {v : Int} (h : Lib.parseIntB B l = .ok v) : pOk B l = true ∧ pVal B l = v := by
  unfold pOk pVal; rw [h]; exact ⟨rfl, rfl⟩
theorem parse8_any (l : List UInt8) (hl : l.length ≤ 1048576) (w : World) (h : NumE w) :
    Calls Tryz.prog 54 #[.string (bs l), .int .i64 10, .int .i64 8] w fun e w' => (pOk 8 l = true ∧ e = .returned (.tuple #[.int .i64 (pVal 8 l), .nilIface]) ∨ pOk 8 l = false ∧ ∃ x t p, e = .returned (.tuple #[.int .i64 x, .iface t (.pointer p)])) ∧ Below w.heap.size w w' := by
  obtain ⟨⟨t1, p1, h1⟩, t2, p2, h2⟩ := h
  have ez : (bs l).data.toList = l := bs_data l
  have hz : (bs l).size ≤ 281474976710656 := by rw [bs_size]; omega
  have hz2 : (bs l).size ≤ 9223372036854775806 := by omega
  cases hc : Lib.parseIntB 8 l
  · rename_i v
    refine (Any.strconv_ParseInt_10_at8_ok Tryz.parLays (bs l) hz2 v (by rw [ez]; exact hc) w).mono ?_
    rintro e w' ⟨rfl, hw⟩
    refine ⟨.inl ⟨(pOk_of hc).1, by rw [(pOk_of hc).2]⟩, ?_⟩
    rcases hw with rfl | ⟨t, rfl⟩
    · exact Below.refl _ _
    · exact Lib.bytesWorld_below _ _ _
  · refine (Any.strconv_ParseInt_10_at8_syntax_var Tryz.parLays (bs l) hz (by rw [ez]; exact hc) t1 p1 w h1).mono ?_
    rintro e w' ⟨N, rfl, -, -, hb⟩
    exact ⟨.inr ⟨by unfold pOk; rw [hc], _, _, _, rfl⟩, hb⟩
  · refine (Any.strconv_ParseInt_10_at8_range_var Tryz.parLays (bs l) hz (by rw [ez]; exact hc) t2 p2 w h2).mono ?_
    rintro e w' ⟨N, rfl, -, -, hb⟩
    exact ⟨.inr ⟨by unfold pOk; rw [hc], _, _, _, rfl⟩, hb⟩
theorem parse16_any (l : List UInt8) (hl : l.length ≤ 1048576) (w : World) (h : NumE w) :
    Calls Tryz.prog 54 #[.string (bs l), .int .i64 10, .int .i64 16] w fun e w' => (pOk 16 l = true ∧ e = .returned (.tuple #[.int .i64 (pVal 16 l), .nilIface]) ∨ pOk 16 l = false ∧ ∃ x t p, e = .returned (.tuple #[.int .i64 x, .iface t (.pointer p)])) ∧ Below w.heap.size w w' := by
  obtain ⟨⟨t1, p1, h1⟩, t2, p2, h2⟩ := h
  have ez : (bs l).data.toList = l := bs_data l
  have hz : (bs l).size ≤ 281474976710656 := by rw [bs_size]; omega
  have hz2 : (bs l).size ≤ 9223372036854775806 := by omega
  cases hc : Lib.parseIntB 16 l
  · rename_i v
    refine (Any.strconv_ParseInt_10_at16_ok Tryz.parLays (bs l) hz2 v (by rw [ez]; exact hc) w).mono ?_
    rintro e w' ⟨rfl, hw⟩
    refine ⟨.inl ⟨(pOk_of hc).1, by rw [(pOk_of hc).2]⟩, ?_⟩
    rcases hw with rfl | ⟨t, rfl⟩
    · exact Below.refl _ _
    · exact Lib.bytesWorld_below _ _ _
  · refine (Any.strconv_ParseInt_10_at16_syntax_var Tryz.parLays (bs l) hz (by rw [ez]; exact hc) t1 p1 w h1).mono ?_
    rintro e w' ⟨N, rfl, -, -, hb⟩
    exact ⟨.inr ⟨by unfold pOk; rw [hc], _, _, _, rfl⟩, hb⟩
  · refine (Any.strconv_ParseInt_10_at16_range_var Tryz.parLays (bs l) hz (by rw [ez]; exact hc) t2 p2 w h2).mono ?_
    rintro e w' ⟨N, rfl, -, -, hb⟩
    exact ⟨.inr ⟨by unfold pOk; rw [hc], _, _, _, rfl⟩, hb⟩
end Go.Proofs.YtaaphdbaocjecaaGreatDoor

