/-
  PLAIN LAWS over any program: the operations on a map that a call owns (MapB), at the list of a region.
-/
import Derived.Test.YtcdpdcjdjcbhcaaDoorMapB
namespace Go.Proofs.YtcdpdcjdjcbhcaaDoor
open Go Go.RowKit Go.Maps

section
variable {P : Program} {ops : Array Oper} {rest : List Oper} {o : Oper} {a : Act} {w : Base} {W : World} {Q : Exit → Act → World → Prop} {L : Blocks} {J : Act → World → Prop}
variable {K : Type} {kv : K → Value} {ok : K → Prop} {ks : List K} {f : K → Value} {kt et : TypeId} {m : Nat}

/-- 'map[K]V{}'. -/
theorem oper_makeMap (t : TypeId) (ho : o.op = .makeMap t none) (f : K → Value) (hM : Mem w L W)
    (h : ∀ m W', w.B ≤ m → W.heap.size ≤ m → Mem (w.with m (mapO kv [] f) rfl) L W' → J (a.put o.dst (.map (some m))) W') : o.wp P a W J Q := by
  have hr : (Instr.makeMap t none).run P W = .ok (.map (some W.heap.size)) (W.alloc (.map #[] 0)) := rfl
  unfold Oper.wp
  simp only [execOp, ho, Sem.run_bind, hr, Result.andThen_ok, Option.map_none]
  exact h _ _ hM.size (Nat.le_refl _) (hM.newObj (mapO kv [] f) rfl)
/-- 'm[k]' and 'v, ok := m[k]'. -/
theorem oper_lookup [DecidableEq K] (t : TypeId) (x y : Operand) (c : Bool) (ho : o.op = .lookup t x y c) (hx : a.eval x = .map (some m)) (k : K) (hy : a.eval y = kv k)
    (T : KeyTold P kt kv ok) (ht : P.underlying t = some (.map kt et)) (z : Value) (hz : ∀ W, (zeroValue et).run P W = .ok z W) (hm : W.heap[m]? = some (mapO kv ks f)) (hks : ∀ k, k ∈ ks → ok k) (hk : ok k)
    (h : J (a.put o.dst (if c then .tuple #[if k ∈ ks then f k else z, .bool (decide (k ∈ ks))] else if k ∈ ks then f k else z)) W) : o.wp P a W J Q := by
  have hr := look_map T ht (hz W) hm hks hk c
  unfold Oper.wp
  simp only [execOp, ho, hx, hy, Sem.run_bind, hr, Result.andThen_ok]
  exact h
/-- 'm[k] = v'. -/
theorem oper_mapSet [DecidableEq K] (t : TypeId) (x y v : Operand) (ho : o.op = .mapUpdate t x y v) (hx : a.eval x = .map (some m)) (k : K) (hy : a.eval y = kv k) (val : Value) (hv : a.eval v = val)
    (T : KeyTold P kt kv ok) (ht : P.underlying t = some (.map kt et)) (hM : Mem (w.with m (mapO kv ks f) rfl) L W) (hl : w.Lets m) (hd : ks.Nodup) (hks : ∀ k, k ∈ ks → ok k) (hk : ok k)
    (h : ∀ W', Mem (w.with m (mapO kv (addK ks k) (updK f k val)) rfl) L W' → J (a.put o.dst undef) W') : o.wp P a W J Q := by
  have hr := put_map T ht hM.good.2 hd hks hk val
  unfold Oper.wp
  simp only [execOp, ho, hx, hy, hv, Sem.run_bind, hr, Result.andThen_ok, Sem.run_pure]
  exact h _ (hM.put hl rfl)

theorem wpList_makeMap (hgd : o.guard = none) (t : TypeId) (ho : o.op = .makeMap t none) (f : K → Value) (hM : Mem w L W)
    (h : ∀ m W', w.B ≤ m → W.heap.size ≤ m → Mem (w.with m (mapO kv [] f) rfl) L W' → wpList P ops Q rest (a.put o.dst (.map (some m))) W') : wpList P ops Q (o :: rest) a W :=
  wpList_plain hgd fun _ hJ => oper_makeMap t ho f hM fun m W' h1 h2 h3 => hJ _ _ (h m W' h1 h2 h3)
theorem wpList_lookup [DecidableEq K] (hgd : o.guard = none) (t : TypeId) (x y : Operand) (c : Bool) (ho : o.op = .lookup t x y c) (hx : a.eval x = .map (some m)) (k : K) (hy : a.eval y = kv k)
    (T : KeyTold P kt kv ok) (ht : P.underlying t = some (.map kt et)) (z : Value) (hz : ∀ W, (zeroValue et).run P W = .ok z W) (hm : W.heap[m]? = some (mapO kv ks f)) (hks : ∀ k, k ∈ ks → ok k) (hk : ok k)
    (h : wpList P ops Q rest (a.put o.dst (if c then .tuple #[if k ∈ ks then f k else z, .bool (decide (k ∈ ks))] else if k ∈ ks then f k else z)) W) : wpList P ops Q (o :: rest) a W :=
  wpList_plain hgd fun _ hJ => oper_lookup t x y c ho hx k hy T ht z hz hm hks hk (hJ _ _ h)
theorem wpList_mapSet [DecidableEq K] (hgd : o.guard = none) (t : TypeId) (x y v : Operand) (ho : o.op = .mapUpdate t x y v) (hx : a.eval x = .map (some m)) (k : K) (hy : a.eval y = kv k) (val : Value) (hv : a.eval v = val)
    (T : KeyTold P kt kv ok) (ht : P.underlying t = some (.map kt et)) (hM : Mem (w.with m (mapO kv ks f) rfl) L W) (hl : w.Lets m) (hd : ks.Nodup) (hks : ∀ k, k ∈ ks → ok k) (hk : ok k)
    (h : ∀ W', Mem (w.with m (mapO kv (addK ks k) (updK f k val)) rfl) L W' → wpList P ops Q rest (a.put o.dst undef) W') : wpList P ops Q (o :: rest) a W :=
  wpList_plain hgd fun _ hJ => oper_mapSet t x y v ho hx k hy val hv T ht hM hl hd hks hk fun W' h1 => hJ _ _ (h W' h1)
end
end Go.Proofs.YtcdpdcjdjcbhcaaDoor
