/-
  PLAIN LAWS over any program: A MAP THAT A CALL OWNS, beside its blocks of cells. The map's block is a part of the base (Base.map); its entries stand in the order in which their keys came (ents).
-/
import Derived.Test.YtcdpdcjdjcbhcaaDoorKit
import Derived.Test.YtcdpdcjdjcbhcaaDoorRound
import Derived.RangeFuncRecord
import Derived.Maps.Own
namespace Go.Proofs.YtcdpdcjdjcbhcaaDoor
open Go Go.RowKit Go.Maps Go.MapKept

/-! ### A map's entries -/
section
variable {K : Type} {kv : K → Value} {ks : List K} {f : K → Value}
/-- The entries of the keys ks, in the order in which they came; what is kept under each. -/
def ents (kv : K → Value) (ks : List K) (f : K → Value) : List MapEntry := ks.zipIdx.map fun q => { key := kv q.1, val := f q.1, born := q.2 }
/-- f with v under k. -/
def updK [DecidableEq K] (f : K → Value) (k : K) (v : Value) : K → Value := fun j => if j = k then v else f j

theorem ents_length : (ents kv ks f).length = ks.length := by simp [ents]
theorem ents_get (i : Nat) : (ents kv ks f)[i]? = (ks[i]?).map fun k => { key := kv k, val := f k, born := i } := by
  simp [ents, List.getElem?_zipIdx]
  cases ks[i]? <;> rfl
theorem ents_congr {g : K → Value} (h : ∀ k, k ∈ ks → f k = g k) : ents kv ks f = ents kv ks g := by
  apply List.ext_getElem?
  intro i
  rw [ents_get, ents_get]
  cases e : ks[i]? with
  | none => rfl
  | some k => simp [h k (List.mem_of_getElem? e)]
theorem ents_mem {e : MapEntry} (h : e ∈ ents kv ks f) : ∃ k i, ks[i]? = some k ∧ e = { key := kv k, val := f k, born := i } := by
  obtain ⟨i, hi⟩ := List.getElem?_of_mem h
  rw [ents_get] at hi
  cases e : ks[i]? with
  | none => simp [e] at hi
  | some k => rw [e] at hi; simp at hi; exact ⟨k, i, e, hi.symm⟩
theorem ents_push [DecidableEq K] {k : K} (v : Value) (hk : k ∉ ks) : ents kv ks f ++ [{ key := kv k, val := v, born := ks.length }] = ents kv (ks ++ [k]) (updK f k v) := by
  apply List.ext_getElem?
  intro i
  rw [ents_get]
  by_cases hi : i < ks.length
  · rw [List.getElem?_append_left (by rw [ents_length]; exact hi), List.getElem?_append_left hi, ents_get]
    have : ks[i] ≠ k := fun e => hk (e ▸ List.getElem_mem hi)
    simp [hi, updK, this]
  · rw [List.getElem?_append_right (by rw [ents_length]; omega), List.getElem?_append_right (by omega), ents_length]
    rcases Nat.eq_or_lt_of_le (Nat.not_lt.1 hi) with e | e
    · subst e; simp [updK]
    · have : i - ks.length ≠ 0 := by omega
      cases q : i - ks.length with
      | zero => omega
      | succ n => simp
theorem ents_modify [DecidableEq K] {k : K} {j : Nat} (v : Value) (hd : ks.Nodup) (hj : ks[j]? = some k) (g : MapEntry → MapEntry) (hg : ∀ e : MapEntry, e.key = kv k → g e = { e with key := kv k, val := v }) : (ents kv ks f).modify j g = ents kv ks (updK f k v) := by
  apply List.ext_getElem?
  intro i
  rw [List.getElem?_modify, ents_get, ents_get]
  by_cases e : j = i
  · subst e; simp [hj, hg, updK]
  · cases q : ks[i]? with
    | none => simp
    | some k' =>
      have : k' ≠ k := fun h => e ((List.getElem?_inj (List.getElem?_eq_some_iff.1 hj).1 hd).1 (by rw [hj, q, h]))
      simp [e, updK, this]
end

/-- How keys are told: each is a key of the type, and no two are told alike. -/
structure KeyTold (P : Program) (kt : TypeId) {K : Type} (kv : K → Value) (ok : K → Prop) : Prop where
  keyed : Keyed P kt
  told : ∀ k, ok k → ∃ l, keyOf P kt (kv k) = some l
  inj : ∀ {a b : K}, kv a = kv b → a = b

/-! ### The base with a map -/
/-- A base beside which block m holds the object o, which is no cells. -/
def Base.with (w : Base) (m : Nat) (o : Obj) (ho : o.isCells = false) : Base where
  G := fun W => w.G W ∧ W.heap[m]? = some o
  B := w.B
  le := fun h => w.le h.1
  alloc := fun {W} c t h => ⟨w.alloc c t h.1, (Below.heap_alloc W _ m (Array.getElem?_eq_some_iff.1 h.2).1).trans h.2⟩
  row := fun {W b c t} h hb hc c' => ⟨w.row h.1 hb hc c', (_root_.Go.setRow_other W b m c' (fun e => by subst e; rw [h.2] at hc; cases hc; simp [Obj.isCells] at ho)).trans h.2⟩
  call := fun h hb => ⟨w.call h.1 hb, (hb.block m (Array.getElem?_eq_some_iff.1 h.2).1).trans h.2⟩
  drew := fun h => ⟨w.drew h.1, h.2⟩
/-- The map's object. -/
def mapO {K : Type} (kv : K → Value) (ks : List K) (f : K → Value) : Obj := .map (ents kv ks f).toArray ks.length
theorem mapO_cells {K : Type} {kv : K → Value} {ks : List K} {f : K → Value} : (mapO kv ks f).isCells = false := rfl
/-- A base beside which block m holds the map of the keys ks. -/
def Base.map {K : Type} (w : Base) (m : Nat) (kv : K → Value) (ks : List K) (f : K → Value) : Base := w.with m (mapO kv ks f) rfl
/-- What is no cells in block m may be another in its place. -/
def Base.Lets (w : Base) (m : Nat) : Prop := ∀ (W : World) (o o' : Obj), w.G W → W.heap[m]? = some o → o.isCells = false → w.G (W.putObj m o')

theorem putObj_same {W : World} {m : Nat} {o : Obj} (h : W.heap[m]? = some o) (o' : Obj) : (W.putObj m o').heap[m]? = some o' := by
  have := (Array.getElem?_eq_some_iff.1 h).1
  simp [World.putObj, this]
theorem putObj_other (W : World) (m : Nat) (o' : Obj) {k : Nat} (h : k ≠ m) : (W.putObj m o').heap[k]? = W.heap[k]? := by
  simp [World.putObj, Ne.symm h]
theorem below_putObj {B m : Nat} {a W : World} (h : Below B a W) (hm : B ≤ m) (o' : Obj) : Below B a (W.putObj m o') :=
  ⟨h.os, h.tape, h.output, by simpa [World.putObj] using h.size, fun k hk => (putObj_other W m o' (by omega)).trans (h.block k hk)⟩

theorem lets_of {w : World} {m : Nat} (h : w.heap.size ≤ m) : (Base.of w).Lets m := fun _ _ o' hg _ _ => below_putObj hg h o'
theorem lets_round {w0 Wr : World} {Bk m : Nat} (h : w0.heap.size ≤ m) (h' : m < Bk) : (Base.round w0 Bk Wr).Lets m := fun W _ o' hg _ _ =>
  ⟨below_putObj hg.1 h o', ⟨by simpa [World.putObj] using hg.2.size, fun k o hk ho hn => (putObj_other W m o' (by omega)).trans (hg.2.same k o hk ho hn)⟩⟩
theorem lets_with {w : Base} {m m' : Nat} {o : Obj} {ho : o.isCells = false} (h : w.Lets m) (hne : m ≠ m') : (w.with m' o ho).Lets m := fun W o1 o' hg h1 h2 =>
  ⟨h W o1 o' hg.1 h1 h2, (putObj_other W m o' (Ne.symm hne)).trans hg.2⟩

theorem Mem.withO {w : Base} {W : World} {L : Blocks} (h : Mem w L W) {m : Nat} {o : Obj} (ho : o.isCells = false) (hm : W.heap[m]? = some o) : Mem (w.with m o ho) L W := h.base ⟨h.good, hm⟩
theorem Mem.less {w : Base} {W : World} {L : Blocks} {m : Nat} {o : Obj} {ho : o.isCells = false} (h : Mem (w.with m o ho) L W) : Mem w L W := h.base h.good.1
theorem Mem.put {w : Base} {W : World} {L : Blocks} {m : Nat} {o : Obj} {ho : o.isCells = false} (h : Mem (w.with m o ho) L W) (hl : w.Lets m) {o' : Obj} (ho' : o'.isCells = false) : Mem (w.with m o' ho') L (W.putObj m o') :=
  ⟨⟨hl W o o' h.good.1 h.good.2 ho, putObj_same h.good.2 o'⟩, fun i b n f hi => by
    obtain ⟨t, ht⟩ := h.ats i b n f hi
    exact ⟨t, (putObj_other W m o' (fun e => by subst e; have := h.good.2; rw [ht] at this; cases this; simp [Obj.isCells] at ho)).trans ht⟩, h.apart⟩
theorem Mem.newObj {w : Base} {W : World} {L : Blocks} (h : Mem w L W) (o : Obj) (ho : o.isCells = false) : Mem (w.with W.heap.size o ho) L (W.alloc o) :=
  (h.call (W' := W.alloc o) ((Below.refl _ W).alloc (Nat.le_refl _) o)).withO ho (heap_alloc_new W o)

/-! ### The operations -/
section
variable {P : Program} {ops : Array Oper} {rest : List Oper} {o : Oper} {a : Act} {w : Base} {W : World} {Q : Exit → Act → World → Prop} {L : Blocks}
variable {K : Type} {kv : K → Value} {ok : K → Prop} {ks : List K} {f : K → Value} {kt et : TypeId} {m : Nat}

theorem look_map [DecidableEq K] (T : KeyTold P kt kv ok) {t : TypeId} (ht : P.underlying t = some (.map kt et)) {z : Value} (hz : (zeroValue et).run P W = .ok z W) (hm : W.heap[m]? = some (mapO kv ks f)) (hks : ∀ k, k ∈ ks → ok k) {k : K} (hk : ok k) (c : Bool) :
    (Instr.lookup t (.map (some m)) (kv k) c).run P W = .ok (if c then .tuple #[if k ∈ ks then f k else z, .bool (decide (k ∈ ks))] else if k ∈ ks then f k else z) W := by
  obtain ⟨l, hl⟩ := T.told k hk
  have hes : ∀ e ∈ ents kv ks f, ∃ l, keyOf P kt e.key = some l := fun e he => by
    obtain ⟨k', i, hi, rfl⟩ := ents_mem he
    exact T.told k' (hks k' (List.mem_of_getElem? hi))
  rcases T.keyed.find W hl (ents kv ks f) hes with ⟨h1, h2⟩ | ⟨j, e0, h1, h2, h3⟩
  · have hn : k ∉ ks := fun h => by
      obtain ⟨i, hi⟩ := List.getElem?_of_mem h
      exact h2 _ (List.mem_of_getElem? (i := i) (by rw [ents_get, hi]; rfl)) rfl
    simp [Instr.lookup, run_underlying ht, MapKept.run_getObj_map (show W.heap[m]? = some (.map _ _) from hm), T.keyed.check W _ hl, h1, hz, Result.andThen, hn]
  · rw [ents_get] at h2
    cases q : ks[j]? with
    | none => simp [q] at h2
    | some k' =>
      rw [q] at h2; simp at h2
      have ek : k' = k := T.inj (by rw [← h3, ← h2])
      subst ek
      have hin := List.mem_of_getElem? q
      have ev : e0.val = f k' := by rw [← h2]
      simp [Instr.lookup, run_underlying ht, MapKept.run_getObj_map (show W.heap[m]? = some (.map _ _) from hm), T.keyed.check W _ hl, h1, Result.andThen, hin, ev]

/-- The keys behind a store. -/
def addK [DecidableEq K] (ks : List K) (k : K) : List K := if k ∈ ks then ks else ks ++ [k]
theorem addK_nodup [DecidableEq K] (hd : ks.Nodup) (k : K) : (addK ks k).Nodup := by
  unfold addK
  split
  · exact hd
  · rename_i h
    rw [List.nodup_append]
    exact ⟨hd, by simp, fun x hx y hy e => by simp at hy; subst hy; subst e; exact h hx⟩
theorem mem_addK [DecidableEq K] {k j : K} : j ∈ addK ks k ↔ j ∈ ks ∨ j = k := by
  unfold addK
  split
  · rename_i h
    exact ⟨.inl, fun h' => h'.elim id (fun e => e ▸ h)⟩
  · simp

theorem put_map [DecidableEq K] (T : KeyTold P kt kv ok) {t : TypeId} (ht : P.underlying t = some (.map kt et)) (hm : W.heap[m]? = some (mapO kv ks f)) (hd : ks.Nodup) (hks : ∀ k, k ∈ ks → ok k) {k : K} (hk : ok k) (v : Value) :
    (Instr.mapUpdate t (.map (some m)) (kv k) v).run P W = .ok () (W.putObj m (mapO kv (addK ks k) (updK f k v))) := by
  obtain ⟨l, hl⟩ := T.told k hk
  have hes : ∀ e ∈ ents kv ks f, ∃ l, keyOf P kt e.key = some l := fun e he => by
    obtain ⟨k', i, hi, rfl⟩ := ents_mem he
    exact T.told k' (hks k' (List.mem_of_getElem? hi))
  have hm' : W.heap[m]? = some (.map (ents kv ks f).toArray ks.length) := hm
  rcases T.keyed.find W hl (ents kv ks f) hes with ⟨h1, h2⟩ | ⟨j, e0, h1, h2, h3⟩
  · have hn : k ∉ ks := fun h => by
      obtain ⟨i, hi⟩ := List.getElem?_of_mem h
      exact h2 _ (List.mem_of_getElem? (i := i) (by rw [ents_get, hi]; rfl)) rfl
    have e1 : mapO kv (addK ks k) (updK f k v) = .map ((ents kv ks f).toArray.push { key := kv k, val := v, born := ks.length }) (ks.length + 1) := by
      unfold mapO addK
      rw [if_neg hn, ← ents_push v hn]
      simp
    rw [e1]
    simp [Instr.mapUpdate, run_underlying ht, MapKept.run_getObj_map hm', T.keyed.check W false hl, h1, MapKept.run_setObj_map _ hm', Result.andThen, World.putObj]
  · rw [ents_get] at h2
    cases q : ks[j]? with
    | none => simp [q] at h2
    | some k' =>
      rw [q] at h2; simp at h2
      have ek : k' = k := T.inj (by rw [← h3, ← h2])
      subst ek
      have hin := List.mem_of_getElem? q
      have hj : (ents kv ks f)[j]? = some e0 := by rw [ents_get, q]; simp [← h2]
      have e1 : mapO kv (addK ks k') (updK f k' v) = .map ((ents kv ks f).toArray.modify j (fun e => { e with key := kv k', val := v })) ks.length := by
        unfold mapO addK
        rw [if_pos hin, ← ents_modify v hd q (fun e => { e with key := kv k', val := v }) (fun _ _ => rfl)]
        congr 1
        apply Array.toList_inj.1
        simp
      rw [e1]
      simp [Instr.mapUpdate, run_underlying ht, MapKept.run_getObj_map hm', T.keyed.check W false hl, h1, hj, h3, T.keyed.stays W hl, MapKept.run_setObj_map _ hm', Result.andThen, World.putObj]
end
end Go.Proofs.YtcdpdcjdjcbhcaaDoor
