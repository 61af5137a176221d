/-
  Several texts in one: Reads, Round, MapB, MapOp, StepMap, StepPush.
-/
import Derived.StillTail
import Derived.Deep.Quiet
import Derived.Test.YtaaphdbaocjecaaDoorP5
import Derived.RangeFuncNested
import Derived.RangeFuncBound
import Derived.RangeFuncCalls
import Derived.RangeFuncLeaves
import Derived.Shelf.Abstract
import Derived.Shelf.RegionOpen
import Derived.WalkKit
import Derived.OwnWalkIn
import Derived.TacticsInMore
import Derived.LoopNIn
import Derived.LoopIn
import Derived.Test.YtaaphdbaocjecaaDoorP1
import Derived.RangeFuncRecord
import Derived.Maps.Own
import Derived.Test.YtaaphdbaocjecaaDoorP4
/-
  PLAIN LAW: as Mix, with the reads and quiet calls standing anywhere in the region (the places qs), and, behind them, whatever may come up at each step.
-/
namespace Go.Proofs.YtaaphdbaocjecaaDoor
open Go Go.RowKit
variable {P : Program} {ops : Array Oper} {C D : World → Prop}

/-- Operation i comes up: one of the first n is a read, the others are the thread. -/
def mixOpQ (P : Program) (ops : Array Oper) (C : World → Prop) (q : Nat → Bool) (i : Nat) (a : Act) (D : World → Prop) (K : Act → (World → Prop) → Prop) : Prop :=
  ∃ o, ops[i]? = some o ∧ (if q i = true then (if Region.wanted o (yielded ops a.tmps) then qB P o a C (fun a' => K a' D) else K (a.put o.dst undef) D) else o.guard = none ∧ stepT P C o a D K)
def mixQ (P : Program) (ops : Array Oper) (C : World → Prop) (q : Nat → Bool) (Q : Exit → Act → World → Prop) : Nat → Array Bool → Act → (World → Prop) → Prop
  | 0, s, a, D => Region.ready .any ops s = [] ∧ ∀ W, D W → Q .normal a W
  | f + 1, s, a, D => Region.ready .any ops s ≠ [] ∧ ∀ i ∈ Region.ready .any ops s, mixOpQ P ops C q i a D (mixQ P ops C q Q f (s.setIfInBounds i true))

theorem wpOp_of_mixOpQ {q : Nat → Bool} {i : Nat} {a : Act} {W : World} {K : Act → (World → Prop) → Prop} {K' : Act → World → Prop} {Q : Exit → Act → World → Prop} (hD : Kept C D) (hW : D W)
    (h : ∀ a D W, Kept C D → D W → K a D → K' a W) (hh : mixOpQ P ops C q i a D K) : wpOp P ops Q i K' a W := by
  obtain ⟨o, ho, hh⟩ := hh
  unfold wpOp
  simp only [ho]
  by_cases hn : q i = true
  · rw [if_pos hn] at hh
    by_cases hw : Region.wanted o (yielded ops a.tmps) = true
    · rw [if_pos hw] at hh ⊢
      obtain ⟨v, h1, h2⟩ := hh
      have h3 := h1 W (hD.sub W hW)
      refine .inl ?_
      unfold Oper.quietAt at h3
      unfold Oper.wp
      generalize (execOp a.eval o).run P W = r at *
      cases r with
      | ok x w' =>
        cases x <;> simp only [Oper.quietUpon] at h3 <;> simp only [Oper.upon]
        case value => obtain ⟨rfl, rfl⟩ := h3; exact h _ _ _ hD hW h2
        case skip => obtain ⟨rfl, rfl⟩ := h3; exact h _ _ _ hD hW h2
        case enter f args =>
          obtain ⟨rfl, hc⟩ := h3
          exact hc.mono fun e w'' ⟨he, hb⟩ => by subst he; exact h _ _ _ hD (hD.on _ _ hW hb) h2
      | halt x w' => simp only [Oper.quietUpon] at h3
    · rw [if_neg hw] at hh ⊢
      exact h _ _ _ hD hW hh
  · rw [if_neg hn] at hh
    obtain ⟨hg, hs⟩ := hh
    have hw : Region.wanted o (yielded ops a.tmps) = true := by simp [Region.wanted, hg]
    rw [if_pos hw]
    refine .inl ?_
    unfold Oper.wp
    rcases hs W hW with ⟨u, D', W', hr, hk, hd, hK⟩ | ⟨f, args, hr, hc⟩
    · rcases hr with hr | ⟨hr, rfl⟩ <;> rw [hr] <;> exact h _ _ _ hk hd hK
    · rw [hr]
      exact hc.mono fun e w'' ⟨u, D', he, hk, hd, hK⟩ => by subst he; exact h _ _ _ hk hd hK

theorem any_of_mixQ {q : Nat → Bool} {Q : Exit → Act → World → Prop} (f : Nat) : ∀ s a D W, Kept C D → D W → mixQ P ops C q Q f s a D → wpAny P .any ops Q f s a W := by
  induction f with
  | zero => intro s a D W _ hW h; exact ⟨h.1, h.2 W hW⟩
  | succ f ih =>
    intro s a D W hD hW h
    exact ⟨fun e => absurd e h.1, fun i hi => wpOp_of_mixOpQ hD hW (fun a' D' W' hD' hW' h' => ih _ a' D' W' hD' hW' h') (h.2 i hi)⟩

theorem gives.opQ {q : Nat → Bool} {i : Nat} {o : Oper} {v : Value} {a : Act} {K : Act → (World → Prop) → Prop} (hn : q i = true) (ho : ops[i]? = some o) (h : gives P ops C o v a) (hK : K (a.put o.dst v) D) : mixOpQ P ops C q i a D K := by
  refine ⟨o, ho, ?_⟩
  rw [if_pos hn]
  rcases h with ⟨hw, hv⟩ | ⟨hw, rfl⟩
  · rw [if_pos hw]; exact ⟨v, hv, hK⟩
  · rw [if_neg (by rw [hw]; exact Bool.false_ne_true)]; exact hK

theorem mixOpQ_past {q : Nat → Bool} {j : Nat} {oi oj : Oper} {v : Value} {a : Act} {K K' : Act → (World → Prop) → Prop} (hoj : ops[j]? = some oj) (hap : oi.apart ops oj = true) (hsi : ∀ cs b, oi.op ≠ .select cs b) (hsj : ∀ cs b, oj.op ≠ .select cs b)
    (hg : gives P ops C oi v a) (hK : ∀ u D', gives P ops C oi v (a.put oj.dst u) → K ((a.put oj.dst u).put oi.dst v) D' → K' (a.put oj.dst u) D') (h : mixOpQ P ops C q j (a.put oi.dst v) D K) : mixOpQ P ops C q j a D K' := by
  obtain ⟨h1, h2, h3⟩ := Oper.apart_spec hap
  have sw : ∀ u, (a.put oi.dst v).put oj.dst u = (a.put oj.dst u).put oi.dst v := fun u => Act.put_comm a v u h2
  have keep : ∀ u, gives P ops C oi v (a.put oj.dst u) := fun u => hg.other hsi _ u h3
  obtain ⟨o, ho, h⟩ := h
  obtain rfl : oj = o := Option.some.inj (hoj.symm.trans ho)
  refine ⟨oj, hoj, ?_⟩
  by_cases hn : q j = true
  · rw [if_pos hn] at h ⊢
    rw [wanted_put oj a oi.dst v h1] at h
    by_cases hw : Region.wanted oj (yielded ops a.tmps) = true
    · rw [if_pos hw] at h ⊢
      obtain ⟨u, hu, hk⟩ := h
      refine ⟨u, fun W hW => ?_, hK u D (keep u) (by rw [← sw]; exact hk)⟩
      have := hu W hW
      unfold Oper.quietAt at *
      rwa [execOp_put oj hsj a oi.dst v h1] at this
    · rw [if_neg hw] at h ⊢
      exact hK _ D (keep _) (by rw [← sw]; exact h)
  · rw [if_neg hn] at h ⊢
    refine ⟨h.1, fun W hW => ?_⟩
    rcases h.2 W hW with ⟨u, D', W', hr, hk, hd, hh⟩ | ⟨f, args, hr, hc⟩
    · rw [execOp_put oj hsj a oi.dst v h1] at hr
      exact .inl ⟨u, D', W', hr, hk, hd, hK u D' (keep u) (by rw [← sw]; exact hh)⟩
    · rw [execOp_put oj hsj a oi.dst v h1] at hr
      exact .inr ⟨f, args, hr, hc.mono fun e w'' ⟨u, D', he, hk, hd, hh⟩ => ⟨u, D', he, hk, hd, hK u D' (keep u) (by rw [← sw]; exact hh)⟩⟩

theorem mixQ_first {q : Nat → Bool} {i : Nat} {oi : Oper} {v : Value} {Q : Exit → Act → World → Prop} (hin : q i = true) (hoi : ops[i]? = some oi) (hsel : ∀ (j : Nat) (o : Oper) cs b, ops[j]? = some o → o.op ≠ .select cs b) (f : Nat) :
    ∀ s a D, (∀ j oj, ops[j]? = some oj → j ≠ i → s.getD j true = false → (∀ e ∈ oj.after, Region.binds .any e = true → e.on ≠ i) → oi.apart ops oj = true) →
      i ∈ Region.ready .any ops s → gives P ops C oi v a → mixQ P ops C q Q f (s.setIfInBounds i true) (a.put oi.dst v) D → mixQ P ops C q Q (f + 1) s a D := by
  induction f with
  | zero =>
    intro s a D _ hr hg H
    refine ⟨List.ne_nil_of_mem hr, fun j hj => ?_⟩
    by_cases e : j = i
    · subst e; exact hg.opQ hin hoi H
    · have := ready_mono hj e
      rw [H.1] at this; cases this
  | succ f ih =>
    intro s a D hfree hr hg H
    refine ⟨List.ne_nil_of_mem hr, fun j hj => ?_⟩
    by_cases e : j = i
    · subst e; exact hg.opQ hin hoi H
    obtain ⟨hju, oj, hoj, hdone⟩ := mem_ready.1 hj
    have hfj := hfree j oj hoj e hju fun d hd hb he => by
      have h1 := hdone d hd hb
      rw [he, getD_both (mem_ready.1 hr).1] at h1
      cases h1
    refine mixOpQ_past hoj hfj (fun cs b => hsel i oi cs b hoi) (fun cs b => hsel j oj cs b hoj) hg (fun u D' hg' h' => ?_) (H.2 j (ready_mono hj e))
    refine ih _ _ D' (fun k ok hk hki hku hno => hfree k ok hk hki ?_ hno) (ready_mono hr (Ne.symm e)) hg' ?_
    · by_cases ejk : j = k
      · subst ejk; exact hju
      · rwa [getD_set_ne true ejk] at hku
    · rw [Array.setIfInBounds_comm _ _ e]; exact h'


/-- The reads at the places is, one by one. -/
def wpQs (P : Program) (ops : Array Oper) (C : World → Prop) (R : Act → Prop) : List Nat → Act → Prop
  | [], a => R a
  | i :: is, a => ∃ o, ops[i]? = some o ∧ (if Region.wanted o (yielded ops a.tmps) then qB P o a C (wpQs P ops C R is) else wpQs P ops C R is (a.put o.dst undef))
def lexQs (ops : Array Oper) (s1 : Array Bool) : List Nat → Array Bool → Bool
  | [], s => decide (s = s1)
  | i :: is, s => (Region.ready .any ops s).contains i && Region.free .any ops s i && lexQs ops s1 is (s.setIfInBounds i true)

theorem mixQ_reads {q : Nat → Bool} {Q : Exit → Act → World → Prop} {s1 : Array Bool} {g : Nat} (hsel : Region.noSelect ops = true) : ∀ (is : List Nat) (s : Array Bool) (a : Act), (∀ i ∈ is, q i = true) → lexQs ops s1 is s = true →
    wpQs P ops C (fun a' => mixQ P ops C q Q g s1 a' D) is a → mixQ P ops C q Q (is.length + g) s a D
  | [], s, a, _, hB, h => by
    obtain rfl : s = s1 := by simpa [lexQs] using hB
    rw [List.length_nil, Nat.zero_add]
    exact h
  | i :: is, s, a, hq, hB, h => by
    obtain ⟨o, h0, h⟩ := h
    simp only [lexQs, Bool.and_eq_true] at hB
    have hr : i ∈ Region.ready .any ops s := by simpa using hB.1.1
    have hv : ∃ v, gives P ops C o v a ∧ wpQs P ops C (fun a' => mixQ P ops C q Q g s1 a' D) is (a.put o.dst v) := by
      by_cases hw : Region.wanted o (yielded ops a.tmps) = true
      · rw [if_pos hw] at h; obtain ⟨v, h1, h2⟩ := h; exact ⟨v, .inl ⟨hw, h1⟩, h2⟩
      · rw [if_neg hw] at h; exact ⟨undef, .inr ⟨by simpa using hw, rfl⟩, h⟩
    obtain ⟨v, hg, hK⟩ := hv
    rw [List.length_cons, show is.length + 1 + g = (is.length + g) + 1 by omega]
    exact mixQ_first (hq i (by simp)) h0 (Region.noSelect_spec hsel) _ s a D (Region.free_spec h0 hB.1.2) hr hg (mixQ_reads hsel is _ _ (fun j hj => hq j (by simp [hj])) hB.2 hK)

/-- The reads are told by their places; behind them s1 is listed. -/
def readsB (ops : Array Oper) (is : List Nat) (s1 : Array Bool) : Bool := Region.noSelect ops && lexQs ops s1 is (Array.replicate ops.size false)
theorem region_reads {Q : Exit → Act → World → Prop} {a : Act} {w : Base} {W : World} {L : Blocks} {id : Nat} {l : List Oper} (is : List Nat) (s1 : Array Bool) (g : Nat) (hm : P.follows .mixedOrders = true) (hB : readsB l.toArray is s1 = true) (hg : is.length + g = l.length) (hM : Mem w L W)
    (h : wpQs P l.toArray (Mem w L) (fun a' => mixQ P l.toArray (Mem w L) (fun i => is.contains i) Q g s1 a' (Mem w ([] ++ L))) is a) : (Code.region id l.toArray true).wp P Q a W := by
  refine wp_region_any hm ?_
  simp only [readsB, Bool.and_eq_true] at hB
  have := mixQ_reads (q := fun i => is.contains i) (D := Mem w ([] ++ L)) hB.1 is _ a (fun i hi => by simpa using hi) hB.2 h
  have := any_of_mixQ _ _ _ _ W.drew (kept_mem w L []) hM.drew this
  rw [hg] at this
  simpa using this

/-- The same, where the blocks x, ahead of the others, may be written. -/
theorem region_readsX {Q : Exit → Act → World → Prop} {a : Act} {w : Base} {W : World} {L : Blocks} {id : Nat} {l : List Oper} (is : List Nat) (s1 : Array Bool) (g : Nat) (x : Blocks) (hm : P.follows .mixedOrders = true) (hB : readsB l.toArray is s1 = true) (hg : is.length + g = l.length) (hM : Mem w (x ++ L) W)
    (h : wpQs P l.toArray (Mem w L) (fun a' => mixQ P l.toArray (Mem w L) (fun i => is.contains i) Q g s1 a' (Mem w (x ++ L))) is a) : (Code.region id l.toArray true).wp P Q a W := by
  refine wp_region_any hm ?_
  simp only [readsB, Bool.and_eq_true] at hB
  have := mixQ_reads (q := fun i => is.contains i) (D := Mem w (x ++ L)) hB.1 is _ a (fun i hi => by simpa using hi) hB.2 h
  have := any_of_mixQ _ _ _ _ W.drew (kept_mem w L x) hM.drew this
  rw [hg] at this
  simpa using this

/-- The same, where more places qs hold reads that are taken later. -/
theorem region_readsG {Q : Exit → Act → World → Prop} {a : Act} {w : Base} {W : World} {L : Blocks} {id : Nat} {l : List Oper} (is qs : List Nat) (s1 : Array Bool) (g : Nat) (hq : ∀ i ∈ is, qs.contains i = true) (hm : P.follows .mixedOrders = true) (hB : readsB l.toArray is s1 = true) (hg : is.length + g = l.length) (hM : Mem w L W)
    (h : wpQs P l.toArray (Mem w L) (fun a' => mixQ P l.toArray (Mem w L) (fun i => qs.contains i) Q g s1 a' (Mem w ([] ++ L))) is a) : (Code.region id l.toArray true).wp P Q a W := by
  refine wp_region_any hm ?_
  simp only [readsB, Bool.and_eq_true] at hB
  have := mixQ_reads (q := fun i => qs.contains i) (D := Mem w ([] ++ L)) hB.1 is _ a hq hB.2 h
  have := any_of_mixQ _ _ _ _ W.drew (kept_mem w L []) hM.drew this
  rw [hg] at this
  simpa using this

/-! ### What may come up -/
variable {q : Nat → Bool} {Q : Exit → Act → World → Prop} {s : Array Bool} {a : Act} {f : Nat} {l : List Oper}
theorem at_list {i : Nat} {o : Oper} (h : l[i]? = some o) : l.toArray[i]? = some o := by simpa using h
theorem mix_end (hr : Region.ready .any ops s = []) (h : ∀ W, D W → Q .normal a W) : mixQ P ops C q Q 0 s a D := ⟨hr, h⟩
theorem mix_one {i : Nat} {o : Oper} (hr : Region.ready .any l.toArray s = [i]) (ho : l[i]? = some o) (hq : q i = false) (hg : o.guard = none) (h : stepT P C o a D (mixQ P l.toArray C q Q f (s.setIfInBounds i true))) : mixQ P l.toArray C q Q (f + 1) s a D := by
  refine ⟨by rw [hr]; simp, fun j hj => ?_⟩
  rw [hr] at hj
  obtain rfl : j = i := by simpa using hj
  exact ⟨o, at_list ho, by rw [if_neg (by rw [hq]; decide)]; exact ⟨hg, h⟩⟩
theorem mix_two {i j : Nat} {o o' : Oper} (hr : Region.ready .any l.toArray s = [i, j]) (ho : l[i]? = some o) (ho' : l[j]? = some o') (hq : q i = false) (hq' : q j = false) (hg : o.guard = none) (hg' : o'.guard = none)
    (h : stepT P C o a D (mixQ P l.toArray C q Q f (s.setIfInBounds i true))) (h' : stepT P C o' a D (mixQ P l.toArray C q Q f (s.setIfInBounds j true))) : mixQ P l.toArray C q Q (f + 1) s a D := by
  refine ⟨by rw [hr]; simp, fun k hk => ?_⟩
  rw [hr] at hk
  have : k = i ∨ k = j := by simpa using hk
  rcases this with rfl | rfl
  · exact ⟨o, at_list ho, by rw [if_neg (by rw [hq]; decide)]; exact ⟨hg, h⟩⟩
  · exact ⟨o', at_list ho', by rw [if_neg (by rw [hq']; decide)]; exact ⟨hg', h'⟩⟩
/-- A read at the place i. -/
theorem qs_plain {i : Nat} {is : List Nat} {o : Oper} {R : Act → Prop} (ho : l[i]? = some o) (hg : o.guard = none) (h : qB P o a C (wpQs P l.toArray C R is)) : wpQs P l.toArray C R (i :: is) a :=
  ⟨o, at_list ho, by rw [if_pos (by simp [Region.wanted, hg])]; exact h⟩
theorem qs_nil {R : Act → Prop} (h : R a) : wpQs P ops C R [] a := h

/-! ### The steps -/
variable {o : Oper} {w : Base} {L x : Blocks} {K : Act → (World → Prop) → Prop}
theorem step_val (h : ∃ v, (∀ W, (execOp a.eval o).run P W = .ok (.value v) W) ∧ K (a.put o.dst v) (Mem w (x ++ L))) : stepT P (Mem w L) o a (Mem w (x ++ L)) K := by
  obtain ⟨v, hr, h⟩ := h
  exact fun W hW => .inl ⟨v, _, W, .inl (hr W), kept_mem w L x, hW, h⟩
theorem step_zero (ty : TypeId) (ho : o.op = .alloc ty) {n : Nat} {f : Nat → Value} (hz : (P.info? ty).map (·.zero) = some (some (.agg (arr n f))))
    (h : ∀ b, w.B ≤ b → K (a.put o.dst (.pointer (some ⟨b, 0, none⟩))) (Mem w (((b, n, f) :: x) ++ L))) : stepT P (Mem w L) o a (Mem w (x ++ L)) K := by
  refine fun W hW => .inl ⟨_, _, _, .inl ?_, kept_mem w L ((W.heap.size, n, f) :: x), hW.alloc ty n f, h _ hW.size⟩
  have hzv : (zeroValue ty).run P W = .ok (.agg (arr n f)) W := by
    cases hq : P.info? ty with
    | none => simp [hq] at hz
    | some i => simp [hq] at hz; simp [zeroValue, typeInfo, hq, hz]
  unfold execOp
  simp only [ho, Instr.alloc, Sem.run_bind, Sem.run_pure, Result.andThen_ok, hzv, newVar, newRow, newObj, Sem.run, Value.cells]
  rfl
theorem step_lay (ty : TypeId) (y z : Operand) (ho : o.op = .store ty y z) (b off : Nat) (hx : a.eval y = .pointer (some ⟨b, off, none⟩))
    (m : Nat) (g : Nat → Value) (hy : a.eval z = .agg (arr m g)) (i : Nat) {n : Nat} {f : Nat → Value} (hi : x[i]? = some (b, n, f)) (hb : w.B ≤ b)
    (hT : RowT P ty m) (hle : off + m ≤ n) (h1 : ∀ k, k < m → (g k).oneCell' = true)
    (h : K (a.put o.dst undef) (Mem w ((x.set i (b, n, lay f off m g)) ++ L))) : stepT P (Mem w L) o a (Mem w (x ++ L)) K := by
  obtain ⟨_, hm⟩ := hT
  have hil : i < x.length := (List.getElem?_eq_some_iff.1 hi).1
  have hi' : (x ++ L)[i]? = some (b, n, f) := by rw [List.getElem?_append_left hil]; exact hi
  intro W hW
  obtain ⟨t, ht⟩ := hW.ats i b n f hi'
  have hs := run_storeCells_at (P := P) b off t (arr m g).toList 0 (arr n f) W ht (by simp [arr_size]; omega) (fun v hv => by
    rw [arr_toList] at hv; simp at hv; obtain ⟨k, hk, rfl⟩ := hv; exact h1 k hk)
  rw [Nat.add_zero, arr_lay hle] at hs
  have hsz : (sizeOf ty).run P W = .ok m W := by
    cases hq : P.info? ty with
    | none => simp [hq] at hm
    | some i => simp [hq] at hm; simp [sizeOf, typeInfo, hq, hm]
  have hset := hW.setRow i hi' hb (lay f off m g)
  rw [List.set_append_left _ _ hil] at hset
  refine .inl ⟨undef, _, _, .inr ⟨?_, rfl⟩, kept_mem w L _, hset, h⟩
  unfold execOp
  simp only [ho, hx, hy, Instr.storeAt, Instr.sureAddr, storeVar, Sem.run_bind, Sem.run_pure, Result.andThen_ok, Value.cells, hsz, arr_size, ne_eq, not_true_eq_false, if_false, hs]

/-- A call that lets lie all that lay. -/
theorem step_call (h : ∃ f args v, (∀ W, (execOp a.eval o).run P W = .ok (.enter f args) W) ∧ (∀ W, Mem w (x ++ L) W → Calls P f args W fun e w' => e = .returned v ∧ Below W.heap.size W w') ∧ K (a.put o.dst v) (Mem w (x ++ L))) : stepT P (Mem w L) o a (Mem w (x ++ L)) K := by
  obtain ⟨f, args, v, hr, hc, h⟩ := h
  exact fun W hW => .inr ⟨f, args, hr W, (hc W hW).mono fun e w' ⟨he, hb⟩ => ⟨v, _, he, kept_mem w L x, hW.call hb, h⟩⟩
/-- A call that hands back what holds a new block. -/
theorem step_call_new {n : Nat} {f : Nat → Value} (vb : Nat → Value) (h : ∃ fn args, (∀ W, (execOp a.eval o).run P W = .ok (.enter fn args) W) ∧ (∀ W, Mem w (x ++ L) W → Calls P fn args W fun e w' => ∃ b, e = .returned (vb b) ∧ W.heap.size ≤ b ∧ At w' b n f ∧ Below W.heap.size W w') ∧
    ∀ b, w.B ≤ b → K (a.put o.dst (vb b)) (Mem w (((b, n, f) :: x) ++ L))) : stepT P (Mem w L) o a (Mem w (x ++ L)) K := by
  obtain ⟨fn, args, hr, hc, h⟩ := h
  refine fun W hW => .inr ⟨fn, args, hr W, (hc W hW).mono fun e w' ⟨b, he, hge, hA, hb⟩ => ⟨vb b, _, he, kept_mem w L ((b, n, f) :: x), ?_, h b (Nat.le_trans hW.size hge)⟩⟩
  have hW' := hW.call hb
  refine ⟨hW'.good, fun i b' n' f' hi => ?_, fun i j p p' hi hj hne => ?_⟩
  · cases i with
    | zero => simp at hi; obtain ⟨rfl, rfl, rfl⟩ := hi; exact hA
    | succ i => exact hW'.ats i b' n' f' (by simpa using hi)
  · have off : ∀ (i : Nat) (p : Nat × Nat × (Nat → Value)), (x ++ L)[i]? = some p → p.1 ≠ b := fun i p h e => by
      have := (hW.ats i p.1 p.2.1 p.2.2 h).lt
      omega
    cases i with
    | zero =>
      cases j with
      | zero => exact absurd rfl hne
      | succ j => simp at hi; rw [← hi]; exact fun e => off j p' (by simpa using hj) e.symm
    | succ i =>
      cases j with
      | zero => simp at hj; rw [← hj]; exact off i p (by simpa using hi)
      | succ j => exact hW'.apart i j p p' (by simpa using hi) (by simpa using hj) (by omega)
/-- A call that hands back what holds more blocks. -/
theorem step_call_more {β : Type} (vb : β → Value) (Bk : β → Blocks) (good : β → Prop) (h : ∃ fn args, (∀ W, (execOp a.eval o).run P W = .ok (.enter fn args) W) ∧ (∀ W, Mem w (x ++ L) W → Calls P fn args W fun e w' => ∃ y, e = .returned (vb y) ∧ good y ∧ Mem w (Bk y ++ (x ++ L)) w') ∧
    ∀ y, good y → K (a.put o.dst (vb y)) (Mem w ((Bk y ++ x) ++ L))) : stepT P (Mem w L) o a (Mem w (x ++ L)) K := by
  obtain ⟨fn, args, hr, hc, h⟩ := h
  exact fun W hW => .inr ⟨fn, args, hr W, (hc W hW).mono fun e w' ⟨y, he, hg, hM⟩ => ⟨vb y, _, he, kept_mem w L (Bk y ++ x), (by rw [List.append_assoc]; exact hM), h y hg⟩⟩
end Go.Proofs.YtaaphdbaocjecaaDoor

/-
  PLAIN LAWS: a region in the body of a range over a function, walked by the plain laws.
-/
namespace Go.Proofs.YtaaphdbaocjecaaDoor
open Go Go.RowKit
variable {P : Program} {ops : Array Oper} {o : Oper} {a : Act} {W : World} {Q : Exit → Act → World → Prop} {K : Act → World → Prop} {l n : Nat}

def noDefer (o : Oper) : Bool := match o.op with | .defer _ => false | _ => true
theorem noDefer_spec (h : noDefer o = true) : ∀ c, o.op ≠ .defer c := fun c e => by simp [noDefer, e] at h

theorem oper_round (hd : noDefer o = true) (h : o.wp P a W K Q) : o.wpIn (Fence.wide.inRound l) n P a W K Q := by
  unfold Oper.wp at h
  unfold Oper.wpIn
  refine ⟨fun _ _ => trivial, ?_⟩
  rw [Oper.semAt_eq _ _ _ (noDefer_spec hd)]
  generalize (execOp a.eval o).run P W = r at *
  cases r with
  | ok x w' =>
    cases x <;> simp only [Oper.upon] at h <;> simp only [Oper.uponIn]
    case value => exact h
    case skip => exact h
    case defer => exact h
    case enter => exact ⟨fun h => by simp [Fence.inRound, Fence.wide] at h, CallsIn.inRound l (callsIn_wide.2 h)⟩
    case row => exact ⟨fun h => by simp [Fence.inRound, Fence.wide] at h, fun c cs _ => let ⟨v, w', r, s⟩ := h c cs; ⟨v, w', r, stepsIn_wide.2 s⟩⟩
  | halt x w' => cases x <;> simp only [Oper.upon] at h <;> simp only [Oper.uponIn] <;> exact h

theorem list_round (hL : ¬ LetsOut Q) : ∀ (r : List Oper), r.all noDefer = true → ∀ (a : Act) (W : World), wpList P ops Q r a W → wpListIn (Fence.wide.inRound l) n P ops Q r a W
  | [], _, _, _, h => h
  | o :: r, hd, a, W, h => by
    simp only [List.all_cons, Bool.and_eq_true] at hd
    unfold wpList at h
    unfold wpListIn
    split
    · rename_i hw
      rw [if_pos hw] at h
      rcases h with h | h
      · exact oper_round hd.1 (Oper.wp_mono (fun a w hh => list_round hL r hd.2 a w hh) h)
      · exact absurd h.2 hL
    · rename_i hw
      rw [if_neg hw] at h
      exact ⟨fun _ _ => trivial, list_round hL r hd.2 _ _ h⟩

/-- A region that keeps the text's order. -/
theorem region_round {id : Nat} {r : List Oper} (hL : ¬ LetsOut Q) (hd : r.all noDefer = true) (h : wpList P r.toArray Q r a W) : (Code.region id r.toArray false).wpIn (Fence.wide.inRound l) n P Q a W :=
  wpIn_region_lit (list_round hL r hd a W h)

theorem any_round {md : Region.Mode} (hL : ¬ LetsOut Q) (hd : ops.toList.all noDefer = true) : ∀ (fuel : Nat) (listed : Array Bool) (a : Act) (W : World), wpAny P md ops Q fuel listed a W → wpAnyIn (Fence.wide.inRound l) n P md ops Q fuel listed a W
  | 0, _, _, _, h => h
  | fuel + 1, listed, a, W, h => ⟨h.1, fun i hi => by
    have := h.2 i hi
    unfold wpOp at this
    unfold wpOpIn
    split
    · rename_i ho; simp only [ho] at this; exact any_round hL hd fuel _ _ _ this
    · rename_i o ho
      simp only [ho] at this
      have hm : o ∈ ops.toList := by
        have := Array.mem_of_getElem? ho; simpa using this
      have hdo := List.all_eq_true.1 hd o hm
      split
      · rename_i hw
        rw [if_pos hw] at this
        rcases this with h | h
        · exact oper_round hdo (Oper.wp_mono (fun a w hh => any_round hL hd fuel _ a w hh) h)
        · exact absurd h.2 hL
      · rename_i hw
        rw [if_neg hw] at this
        exact ⟨fun _ _ => trivial, any_round hL hd fuel _ _ _ this⟩⟩

/-- A region that draws its order, and only reads. -/
theorem region_round_mem {id : Nat} {r : List Oper} {w : Base} {L : Blocks} (hL : ¬ LetsOut Q) (hd : r.all noDefer = true) (hm : P.follows .mixedOrders = true) (hB : Region.lexB .any r.toArray = true) (hM : Mem w L W)
    (h : wpQuiet P r.toArray (Mem w L) (fun a' => ∀ W', Mem w L W' → Q .normal a' W') r a) : (Code.region id r.toArray true).wpIn (Fence.wide.inRound l) n P Q a W := by
  simp only [Region.lexB, Bool.and_eq_true] at hB
  refine wpIn_region_any hm (any_round hL (by simpa using hd) _ _ _ _ (wpAny_of_quiet (Q := fun a' => ∀ W', Mem w L W' → Q .normal a' W') (fun _ w' hw' h => h w' hw') _ _ _ _ hM.drew ?_))
  have := wpAnyQ_lex (C := Mem w L) (md := .any) hB.1 r 0 (Array.replicate r.toArray.size false) a (by simp) (by simpa using hB.2) h
  simpa using this

/-! ### A region that draws its order: reads first, then what the text has last -/
variable {rest : List Oper} {R : Act → Prop} {J : Act → Prop}
theorem wps_plain (hg : o.guard = none) (h : o.still P a W (wpStill P ops W R rest)) : wpStill P ops W R (o :: rest) a := by
  unfold wpStill; rw [if_pos (by simp [Region.wanted, hg])]; exact h
theorem still_val (h : ∃ v, (∀ W, (execOp a.eval o).run P W = .ok (.value v) W) ∧ J (a.put o.dst v)) : o.still P a W J := by
  obtain ⟨v, hr, h⟩ := h
  unfold Oper.still
  rw [hr]; exact ⟨rfl, h⟩
theorem still_get1 {w : Base} {L : Blocks} (hM : Mem w L W) (ty : TypeId) (x : Operand) (ho : o.op = .load ty x) (b off : Nat) (hx : a.eval x = .pointer (some ⟨b, off, none⟩))
    (i : Nat) {m : Nat} {f : Nat → Value} (hi : L[i]? = some (b, m, f)) (hT : CellT P ty) (hle : off < m) (v : Value) (hv : f off = v)
    (h : J (a.put o.dst v)) : o.still P a W J := by
  obtain ⟨⟨d, hu, hd⟩, _⟩ := hT
  have hc := (hM.ats i b m f hi).cell hle
  rw [hv] at hc
  have hagg : (isAgg ty).run P W = .ok false W := by
    unfold isAgg
    rw [Sem.run_bind, run_underlying hu W]
    cases d <;> simp_all [TypeDesc.isRow]
  have hl : (load ⟨b, off, none⟩).run P W = .ok v W := by simp [load, Sem.run, hc]
  unfold Oper.still execOp
  simp only [ho, hx, Instr.loadAt, Instr.sureAddr, loadVar, Sem.run_bind, Sem.run_pure, Result.andThen_ok, hagg, Bool.false_eq_true, if_false, hl]
  exact ⟨rfl, h⟩

theorem region_round_tail {id : Nat} {r : List Oper} (m : Nat) (hL : ¬ LetsOut Q) (hd : r.all noDefer = true) (hm : P.follows .mixedOrders = true) (hB : Region.lexTailB .any r.toArray m = true)
    (h : wpStill P r.toArray W.drew (fun a' => wpList P r.toArray Q (r.drop m) a' W.drew) (r.take m) a) : (Code.region id r.toArray true).wpIn (Fence.wide.inRound l) n P Q a W := by
  simp only [Region.lexTailB, Bool.and_eq_true, decide_eq_true_eq] at hB
  obtain ⟨⟨⟨⟨b1, b2⟩, b3⟩, b4⟩, b5⟩ := hB
  have e0 : r.toArray.size = r.length := by simp
  have e1 : (r.take m).length = m := by rw [List.length_take]; omega
  have e2 : (r.drop m).length = r.toArray.size - m := by rw [List.length_drop, e0]
  have start : HeadInv .any r.toArray m (Array.replicate r.toArray.size false) :=
    { size := by simp
      closed := fun j oj _ hl => by rw [getD_replicate_false] at hl; cases hl
      tail := fun t _ ht => getD_in (by simpa using ht) (getD_replicate_false _ _) }
  have head := wpAnyL_lex (md := .any) (g := r.toArray.size - m) b1 b3 b4 b2 (r.take m) 0 _ a (fun j hj => by rw [e1] at hj; simp [hj]) (by rw [e1]; omega) start (by rw [e1]; exact b5) h
  have tail : ∀ (listed : Array Bool) (a' : Act), (Region.seqB .any r.toArray (r.toArray.size - m) m listed = true ∧ wpList P r.toArray Q (r.drop m) a' W.drew) → wpAny P .any r.toArray Q (r.toArray.size - m) listed a' W.drew := fun listed a' ht => by
    have := wpAny_of_seq (md := .any) (Q' := Q) (r.drop m) m listed a' W.drew (fun j => by simp [List.getElem?_drop]) (by rw [e2]; exact ht.1) ht.2
    rw [e2] at this; exact this
  have whole := wpAny_of_head (Q' := Q) tail _ _ _ head
  rw [e1, show m + (r.toArray.size - m) = r.toArray.size by omega] at whole
  exact wpIn_region_any hm (any_round hL (by simpa using hd) _ _ _ _ whole)

/-! ### The memory of a call, seen in a round -/
/-- A round that begins in Wr, of a call that began in w0: whatever is no cells and lies from block Bk on lies as it lay. -/
def Base.round (w0 : World) (Bk : Nat) (Wr : World) : Base where
  G := fun W => Below w0.heap.size w0 W ∧ KeepsFrom Bk Wr W
  B := w0.heap.size
  le := fun h => h.1.size
  alloc := fun _ _ h => ⟨h.1.alloc h.1.size _, h.2.trans ((KeepsOthers.alloc _ _).from _)⟩
  row := fun h hb hc c' => ⟨below_setRow h.1 hb c', ⟨by rw [size_setRow]; exact h.2.size, fun k o hk ho hn => by
    have h1 := h.2.same k o hk ho hn
    rw [_root_.Go.setRow_other _ _ _ _ (fun e => by subst e; rw [h1] at hc; cases hc; simp [Obj.isCells] at hn)]
    exact h1⟩⟩
  call := fun h hb => ⟨h.1.trans (hb.mono h.1.size), ⟨Nat.le_trans h.2.size hb.size, fun k o hk ho hn => by
    have h1 := h.2.same k o hk ho hn
    rw [hb.block k (Array.getElem?_eq_some_iff.1 h1).1]
    exact h1⟩⟩
  drew := fun h => ⟨h.1.drew, ⟨h.2.size, h.2.same⟩⟩

theorem At.grown {W W' : World} {b m : Nat} {f : Nat → Value} {row : Option Nat} (h : At W b m f) (hg : W.grownBy W' row) (hr : ∀ r, row = some r → ∃ o : Obj, W.heap[r]? = some o ∧ o.isCells = false) : At W' b m f := by
  obtain ⟨t, ht⟩ := h
  exact ⟨t, (grownBy_keeps_cells hg hr ht rfl).trans ht⟩
theorem mem_ownFrom {β : Type} {w0 : World} {B : Nat} (hB : w0.heap.size ≤ B) (Ls : β → Blocks) : OwnFrom B (fun (s : β) W => Mem w0 (Ls s) W) := fun _ _ _ _ hs hg hr =>
  ⟨Below.grown hs.below hg hs.below.size (fun k e => Nat.le_trans hB (hr k e).1), fun i b m f hi => (hs.ats i b m f hi).grown hg (fun r e => (hr r e).2), hs.apart⟩
end Go.Proofs.YtaaphdbaocjecaaDoor

/-
  PLAIN LAWS over any program: A MAP THAT A CALL OWNS, beside its blocks of cells. The map's block is a part of the base (Base.map); its entries stand in the order in which their keys came (ents).
-/
namespace Go.Proofs.YtaaphdbaocjecaaDoor
open Go Go.RowKit Go.Maps Go.MapKept

/-! ### A map's entries -/
section
variable {K : Type} {kv : K → Value} {ks : List K} {f : K → Value}
/-- The entries of the keys ks, in the order in which they came; what is kept under each. -/
def ents (kv : K → Value) (ks : List K) (f : K → Value) : List MapEntry := ks.zipIdx.map fun q => { key := kv q.1, val := f q.1, born := q.2 }
/-- f with v under k. -/
def updK [DecidableEq K] (f : K → Value) (k : K) (v : Value) : K → Value := fun j => if j = k then v else f j

theorem ents_length : (ents kv ks f).length = ks.length := by simp [ents]
theorem ents_get (i : Nat) : (ents kv ks f)[i]? = (ks[i]?).map fun k => { key := kv k, val := f k, born := i } := by
  simp [ents, List.getElem?_zipIdx]
  cases ks[i]? <;> rfl
theorem ents_congr {g : K → Value} (h : ∀ k, k ∈ ks → f k = g k) : ents kv ks f = ents kv ks g := by
  apply List.ext_getElem?
  intro i
  rw [ents_get, ents_get]
  cases e : ks[i]? with
  | none => rfl
  | some k => simp [h k (List.mem_of_getElem? e)]
theorem ents_mem {e : MapEntry} (h : e ∈ ents kv ks f) : ∃ k i, ks[i]? = some k ∧ e = { key := kv k, val := f k, born := i } := by
  obtain ⟨i, hi⟩ := List.getElem?_of_mem h
  rw [ents_get] at hi
  cases e : ks[i]? with
  | none => simp [e] at hi
  | some k => rw [e] at hi; simp at hi; exact ⟨k, i, e, hi.symm⟩
theorem ents_push [DecidableEq K] {k : K} (v : Value) (hk : k ∉ ks) : ents kv ks f ++ [{ key := kv k, val := v, born := ks.length }] = ents kv (ks ++ [k]) (updK f k v) := by
  apply List.ext_getElem?
  intro i
  rw [ents_get]
  by_cases hi : i < ks.length
  · rw [List.getElem?_append_left (by rw [ents_length]; exact hi), List.getElem?_append_left hi, ents_get]
    have : ks[i] ≠ k := fun e => hk (e ▸ List.getElem_mem hi)
    simp [hi, updK, this]
  · rw [List.getElem?_append_right (by rw [ents_length]; omega), List.getElem?_append_right (by omega), ents_length]
    rcases Nat.eq_or_lt_of_le (Nat.not_lt.1 hi) with e | e
    · subst e; simp [updK]
    · have : i - ks.length ≠ 0 := by omega
      cases q : i - ks.length with
      | zero => omega
      | succ n => simp
theorem ents_modify [DecidableEq K] {k : K} {j : Nat} (v : Value) (hd : ks.Nodup) (hj : ks[j]? = some k) (g : MapEntry → MapEntry) (hg : ∀ e : MapEntry, e.key = kv k → g e = { e with key := kv k, val := v }) : (ents kv ks f).modify j g = ents kv ks (updK f k v) := by
  apply List.ext_getElem?
  intro i
  rw [List.getElem?_modify, ents_get, ents_get]
  by_cases e : j = i
  · subst e; simp [hj, hg, updK]
  · cases q : ks[i]? with
    | none => simp
    | some k' =>
      have : k' ≠ k := fun h => e ((List.getElem?_inj (List.getElem?_eq_some_iff.1 hj).1 hd).1 (by rw [hj, q, h]))
      simp [e, updK, this]
end

/-- How keys are told: each is a key of the type, and no two are told alike. -/
structure KeyTold (P : Program) (kt : TypeId) {K : Type} (kv : K → Value) (ok : K → Prop) : Prop where
  keyed : Keyed P kt
  told : ∀ k, ok k → ∃ l, keyOf P kt (kv k) = some l
  inj : ∀ {a b : K}, kv a = kv b → a = b

/-! ### The base with a map -/
/-- A base beside which block m holds the object o, which is no cells. -/
def Base.with (w : Base) (m : Nat) (o : Obj) (ho : o.isCells = false) : Base where
  G := fun W => w.G W ∧ W.heap[m]? = some o
  B := w.B
  le := fun h => w.le h.1
  alloc := fun {W} c t h => ⟨w.alloc c t h.1, (Below.heap_alloc W _ m (Array.getElem?_eq_some_iff.1 h.2).1).trans h.2⟩
  row := fun {W b c t} h hb hc c' => ⟨w.row h.1 hb hc c', (_root_.Go.setRow_other W b m c' (fun e => by subst e; rw [h.2] at hc; cases hc; simp [Obj.isCells] at ho)).trans h.2⟩
  call := fun h hb => ⟨w.call h.1 hb, (hb.block m (Array.getElem?_eq_some_iff.1 h.2).1).trans h.2⟩
  drew := fun h => ⟨w.drew h.1, h.2⟩
/-- The map's object. -/
def mapO {K : Type} (kv : K → Value) (ks : List K) (f : K → Value) : Obj := .map (ents kv ks f).toArray ks.length
theorem mapO_cells {K : Type} {kv : K → Value} {ks : List K} {f : K → Value} : (mapO kv ks f).isCells = false := rfl
/-- A base beside which block m holds the map of the keys ks. -/
def Base.map {K : Type} (w : Base) (m : Nat) (kv : K → Value) (ks : List K) (f : K → Value) : Base := w.with m (mapO kv ks f) rfl
/-- What is no cells in block m may be another in its place. -/
def Base.Lets (w : Base) (m : Nat) : Prop := ∀ (W : World) (o o' : Obj), w.G W → W.heap[m]? = some o → o.isCells = false → w.G (W.putObj m o')

theorem putObj_same {W : World} {m : Nat} {o : Obj} (h : W.heap[m]? = some o) (o' : Obj) : (W.putObj m o').heap[m]? = some o' := by
  have := (Array.getElem?_eq_some_iff.1 h).1
  simp [World.putObj, this]
theorem putObj_other (W : World) (m : Nat) (o' : Obj) {k : Nat} (h : k ≠ m) : (W.putObj m o').heap[k]? = W.heap[k]? := by
  simp [World.putObj, Ne.symm h]
theorem below_putObj {B m : Nat} {a W : World} (h : Below B a W) (hm : B ≤ m) (o' : Obj) : Below B a (W.putObj m o') :=
  ⟨h.os, h.tape, h.output, by simpa [World.putObj] using h.size, fun k hk => (putObj_other W m o' (by omega)).trans (h.block k hk)⟩

theorem lets_of {w : World} {m : Nat} (h : w.heap.size ≤ m) : (Base.of w).Lets m := fun _ _ o' hg _ _ => below_putObj hg h o'
theorem lets_round {w0 Wr : World} {Bk m : Nat} (h : w0.heap.size ≤ m) (h' : m < Bk) : (Base.round w0 Bk Wr).Lets m := fun W _ o' hg _ _ =>
  ⟨below_putObj hg.1 h o', ⟨by simpa [World.putObj] using hg.2.size, fun k o hk ho hn => (putObj_other W m o' (by omega)).trans (hg.2.same k o hk ho hn)⟩⟩
theorem lets_with {w : Base} {m m' : Nat} {o : Obj} {ho : o.isCells = false} (h : w.Lets m) (hne : m ≠ m') : (w.with m' o ho).Lets m := fun W o1 o' hg h1 h2 =>
  ⟨h W o1 o' hg.1 h1 h2, (putObj_other W m o' (Ne.symm hne)).trans hg.2⟩

theorem Mem.withO {w : Base} {W : World} {L : Blocks} (h : Mem w L W) {m : Nat} {o : Obj} (ho : o.isCells = false) (hm : W.heap[m]? = some o) : Mem (w.with m o ho) L W := h.base ⟨h.good, hm⟩
theorem Mem.less {w : Base} {W : World} {L : Blocks} {m : Nat} {o : Obj} {ho : o.isCells = false} (h : Mem (w.with m o ho) L W) : Mem w L W := h.base h.good.1
theorem Mem.put {w : Base} {W : World} {L : Blocks} {m : Nat} {o : Obj} {ho : o.isCells = false} (h : Mem (w.with m o ho) L W) (hl : w.Lets m) {o' : Obj} (ho' : o'.isCells = false) : Mem (w.with m o' ho') L (W.putObj m o') :=
  ⟨⟨hl W o o' h.good.1 h.good.2 ho, putObj_same h.good.2 o'⟩, fun i b n f hi => by
    obtain ⟨t, ht⟩ := h.ats i b n f hi
    exact ⟨t, (putObj_other W m o' (fun e => by subst e; have := h.good.2; rw [ht] at this; cases this; simp [Obj.isCells] at ho)).trans ht⟩, h.apart⟩
theorem Mem.newObj {w : Base} {W : World} {L : Blocks} (h : Mem w L W) (o : Obj) (ho : o.isCells = false) : Mem (w.with W.heap.size o ho) L (W.alloc o) :=
  (h.call (W' := W.alloc o) ((Below.refl _ W).alloc (Nat.le_refl _) o)).withO ho (heap_alloc_new W o)

/-! ### The operations -/
section
variable {P : Program} {ops : Array Oper} {rest : List Oper} {o : Oper} {a : Act} {w : Base} {W : World} {Q : Exit → Act → World → Prop} {L : Blocks}
variable {K : Type} {kv : K → Value} {ok : K → Prop} {ks : List K} {f : K → Value} {kt et : TypeId} {m : Nat}

theorem look_map [DecidableEq K] (T : KeyTold P kt kv ok) {t : TypeId} (ht : P.underlying t = some (.map kt et)) {z : Value} (hz : (zeroValue et).run P W = .ok z W) (hm : W.heap[m]? = some (mapO kv ks f)) (hks : ∀ k, k ∈ ks → ok k) {k : K} (hk : ok k) (c : Bool) :
    (Instr.lookup t (.map (some m)) (kv k) c).run P W = .ok (if c then .tuple #[if k ∈ ks then f k else z, .bool (decide (k ∈ ks))] else if k ∈ ks then f k else z) W := by
  obtain ⟨l, hl⟩ := T.told k hk
  have hes : ∀ e ∈ ents kv ks f, ∃ l, keyOf P kt e.key = some l := fun e he => by
    obtain ⟨k', i, hi, rfl⟩ := ents_mem he
    exact T.told k' (hks k' (List.mem_of_getElem? hi))
  rcases T.keyed.find W hl (ents kv ks f) hes with ⟨h1, h2⟩ | ⟨j, e0, h1, h2, h3⟩
  · have hn : k ∉ ks := fun h => by
      obtain ⟨i, hi⟩ := List.getElem?_of_mem h
      exact h2 _ (List.mem_of_getElem? (i := i) (by rw [ents_get, hi]; rfl)) rfl
    simp [Instr.lookup, run_underlying ht, MapKept.run_getObj_map (show W.heap[m]? = some (.map _ _) from hm), T.keyed.check W _ hl, h1, hz, Result.andThen, hn]
  · rw [ents_get] at h2
    cases q : ks[j]? with
    | none => simp [q] at h2
    | some k' =>
      rw [q] at h2; simp at h2
      have ek : k' = k := T.inj (by rw [← h3, ← h2])
      subst ek
      have hin := List.mem_of_getElem? q
      have ev : e0.val = f k' := by rw [← h2]
      simp [Instr.lookup, run_underlying ht, MapKept.run_getObj_map (show W.heap[m]? = some (.map _ _) from hm), T.keyed.check W _ hl, h1, Result.andThen, hin, ev]

/-- The keys behind a store. -/
def addK [DecidableEq K] (ks : List K) (k : K) : List K := if k ∈ ks then ks else ks ++ [k]
theorem addK_nodup [DecidableEq K] (hd : ks.Nodup) (k : K) : (addK ks k).Nodup := by
  unfold addK
  split
  · exact hd
  · rename_i h
    rw [List.nodup_append]
    exact ⟨hd, by simp, fun x hx y hy e => by simp at hy; subst hy; subst e; exact h hx⟩
theorem mem_addK [DecidableEq K] {k j : K} : j ∈ addK ks k ↔ j ∈ ks ∨ j = k := by
  unfold addK
  split
  · rename_i h
    exact ⟨.inl, fun h' => h'.elim id (fun e => e ▸ h)⟩
  · simp

theorem put_map [DecidableEq K] (T : KeyTold P kt kv ok) {t : TypeId} (ht : P.underlying t = some (.map kt et)) (hm : W.heap[m]? = some (mapO kv ks f)) (hd : ks.Nodup) (hks : ∀ k, k ∈ ks → ok k) {k : K} (hk : ok k) (v : Value) :
    (Instr.mapUpdate t (.map (some m)) (kv k) v).run P W = .ok () (W.putObj m (mapO kv (addK ks k) (updK f k v))) := by
  obtain ⟨l, hl⟩ := T.told k hk
  have hes : ∀ e ∈ ents kv ks f, ∃ l, keyOf P kt e.key = some l := fun e he => by
    obtain ⟨k', i, hi, rfl⟩ := ents_mem he
    exact T.told k' (hks k' (List.mem_of_getElem? hi))
  have hm' : W.heap[m]? = some (.map (ents kv ks f).toArray ks.length) := hm
  rcases T.keyed.find W hl (ents kv ks f) hes with ⟨h1, h2⟩ | ⟨j, e0, h1, h2, h3⟩
  · have hn : k ∉ ks := fun h => by
      obtain ⟨i, hi⟩ := List.getElem?_of_mem h
      exact h2 _ (List.mem_of_getElem? (i := i) (by rw [ents_get, hi]; rfl)) rfl
    have e1 : mapO kv (addK ks k) (updK f k v) = .map ((ents kv ks f).toArray.push { key := kv k, val := v, born := ks.length }) (ks.length + 1) := by
      unfold mapO addK
      rw [if_neg hn, ← ents_push v hn]
      simp
    rw [e1]
    simp [Instr.mapUpdate, run_underlying ht, MapKept.run_getObj_map hm', T.keyed.check W false hl, h1, MapKept.run_setObj_map _ hm', Result.andThen, World.putObj]
  · rw [ents_get] at h2
    cases q : ks[j]? with
    | none => simp [q] at h2
    | some k' =>
      rw [q] at h2; simp at h2
      have ek : k' = k := T.inj (by rw [← h3, ← h2])
      subst ek
      have hin := List.mem_of_getElem? q
      have hj : (ents kv ks f)[j]? = some e0 := by rw [ents_get, q]; simp [← h2]
      have e1 : mapO kv (addK ks k') (updK f k' v) = .map ((ents kv ks f).toArray.modify j (fun e => { e with key := kv k', val := v })) ks.length := by
        unfold mapO addK
        rw [if_pos hin, ← ents_modify v hd q (fun e => { e with key := kv k', val := v }) (fun _ _ => rfl)]
        congr 1
        apply Array.toList_inj.1
        simp
      rw [e1]
      simp [Instr.mapUpdate, run_underlying ht, MapKept.run_getObj_map hm', T.keyed.check W false hl, h1, hj, h3, T.keyed.stays W hl, MapKept.run_setObj_map _ hm', Result.andThen, World.putObj]
end
end Go.Proofs.YtaaphdbaocjecaaDoor

/-
  PLAIN LAWS over any program: the operations on a map that a call owns (MapB), at the list of a region.
-/
namespace Go.Proofs.YtaaphdbaocjecaaDoor
open Go Go.RowKit Go.Maps

section
variable {P : Program} {ops : Array Oper} {rest : List Oper} {o : Oper} {a : Act} {w : Base} {W : World} {Q : Exit → Act → World → Prop} {L : Blocks} {J : Act → World → Prop}
variable {K : Type} {kv : K → Value} {ok : K → Prop} {ks : List K} {f : K → Value} {kt et : TypeId} {m : Nat}

/-- 'map[K]V{}'. -/
theorem oper_makeMap (t : TypeId) (ho : o.op = .makeMap t none) (f : K → Value) (hM : Mem w L W)
    (h : ∀ m W', w.B ≤ m → W.heap.size ≤ m → Mem (w.with m (mapO kv [] f) rfl) L W' → J (a.put o.dst (.map (some m))) W') : o.wp P a W J Q := by
  have hr : (Instr.makeMap t none).run P W = .ok (.map (some W.heap.size)) (W.alloc (.map #[] 0)) := rfl
  unfold Oper.wp
  simp only [execOp, ho, Sem.run_bind, hr, Result.andThen_ok, Option.map_none]
  exact h _ _ hM.size (Nat.le_refl _) (hM.newObj (mapO kv [] f) rfl)
/-- 'm[k]' and 'v, ok := m[k]'. -/
theorem oper_lookup [DecidableEq K] (t : TypeId) (x y : Operand) (c : Bool) (ho : o.op = .lookup t x y c) (hx : a.eval x = .map (some m)) (k : K) (hy : a.eval y = kv k)
    (T : KeyTold P kt kv ok) (ht : P.underlying t = some (.map kt et)) (z : Value) (hz : ∀ W, (zeroValue et).run P W = .ok z W) (hm : W.heap[m]? = some (mapO kv ks f)) (hks : ∀ k, k ∈ ks → ok k) (hk : ok k)
    (h : J (a.put o.dst (if c then .tuple #[if k ∈ ks then f k else z, .bool (decide (k ∈ ks))] else if k ∈ ks then f k else z)) W) : o.wp P a W J Q := by
  have hr := look_map T ht (hz W) hm hks hk c
  unfold Oper.wp
  simp only [execOp, ho, hx, hy, Sem.run_bind, hr, Result.andThen_ok]
  exact h
/-- 'm[k] = v'. -/
theorem oper_mapSet [DecidableEq K] (t : TypeId) (x y v : Operand) (ho : o.op = .mapUpdate t x y v) (hx : a.eval x = .map (some m)) (k : K) (hy : a.eval y = kv k) (val : Value) (hv : a.eval v = val)
    (T : KeyTold P kt kv ok) (ht : P.underlying t = some (.map kt et)) (hM : Mem (w.with m (mapO kv ks f) rfl) L W) (hl : w.Lets m) (hd : ks.Nodup) (hks : ∀ k, k ∈ ks → ok k) (hk : ok k)
    (h : ∀ W', Mem (w.with m (mapO kv (addK ks k) (updK f k val)) rfl) L W' → J (a.put o.dst undef) W') : o.wp P a W J Q := by
  have hr := put_map T ht hM.good.2 hd hks hk val
  unfold Oper.wp
  simp only [execOp, ho, hx, hy, hv, Sem.run_bind, hr, Result.andThen_ok, Sem.run_pure]
  exact h _ (hM.put hl rfl)

theorem wpList_makeMap (hgd : o.guard = none) (t : TypeId) (ho : o.op = .makeMap t none) (f : K → Value) (hM : Mem w L W)
    (h : ∀ m W', w.B ≤ m → W.heap.size ≤ m → Mem (w.with m (mapO kv [] f) rfl) L W' → wpList P ops Q rest (a.put o.dst (.map (some m))) W') : wpList P ops Q (o :: rest) a W :=
  wpList_plain hgd fun _ hJ => oper_makeMap t ho f hM fun m W' h1 h2 h3 => hJ _ _ (h m W' h1 h2 h3)
theorem wpList_lookup [DecidableEq K] (hgd : o.guard = none) (t : TypeId) (x y : Operand) (c : Bool) (ho : o.op = .lookup t x y c) (hx : a.eval x = .map (some m)) (k : K) (hy : a.eval y = kv k)
    (T : KeyTold P kt kv ok) (ht : P.underlying t = some (.map kt et)) (z : Value) (hz : ∀ W, (zeroValue et).run P W = .ok z W) (hm : W.heap[m]? = some (mapO kv ks f)) (hks : ∀ k, k ∈ ks → ok k) (hk : ok k)
    (h : wpList P ops Q rest (a.put o.dst (if c then .tuple #[if k ∈ ks then f k else z, .bool (decide (k ∈ ks))] else if k ∈ ks then f k else z)) W) : wpList P ops Q (o :: rest) a W :=
  wpList_plain hgd fun _ hJ => oper_lookup t x y c ho hx k hy T ht z hz hm hks hk (hJ _ _ h)
theorem wpList_mapSet [DecidableEq K] (hgd : o.guard = none) (t : TypeId) (x y v : Operand) (ho : o.op = .mapUpdate t x y v) (hx : a.eval x = .map (some m)) (k : K) (hy : a.eval y = kv k) (val : Value) (hv : a.eval v = val)
    (T : KeyTold P kt kv ok) (ht : P.underlying t = some (.map kt et)) (hM : Mem (w.with m (mapO kv ks f) rfl) L W) (hl : w.Lets m) (hd : ks.Nodup) (hks : ∀ k, k ∈ ks → ok k) (hk : ok k)
    (h : ∀ W', Mem (w.with m (mapO kv (addK ks k) (updK f k val)) rfl) L W' → wpList P ops Q rest (a.put o.dst undef) W') : wpList P ops Q (o :: rest) a W :=
  wpList_plain hgd fun _ hJ => oper_mapSet t x y v ho hx k hy val hv T ht hM hl hd hks hk fun W' h1 => hJ _ _ (h W' h1)
end
end Go.Proofs.YtaaphdbaocjecaaDoor

/-
  PLAIN LAWS: steps of a region that draws its order: a slice literal, a call that gives a new map, a lookup in it.
-/
namespace Go.Proofs.YtaaphdbaocjecaaDoor
open Go Go.RowKit Go.Maps
variable {P : Program} {C D : World → Prop} {o : Oper} {a : Act} {w : Base} {L x : Blocks} {K : Act → (World → Prop) → Prop}

theorem kept_with (w : Base) (L x : Blocks) (m : Nat) (ob : Obj) (hob : ob.isCells = false) : Kept (Mem w L) (Mem (w.with m ob hob) (x ++ L)) where
  sub := fun W h => (kept_mem w L x).sub W h.less
  on := fun W W' h hb => h.call hb
theorem stepD_val (hk : Kept C D) (h : ∃ v, (∀ W, (execOp a.eval o).run P W = .ok (.value v) W) ∧ K (a.put o.dst v) D) : stepT P C o a D K := by
  obtain ⟨v, hr, h⟩ := h
  exact fun W hW => .inl ⟨v, _, W, .inl (hr W), hk, hW, h⟩
theorem step_slice1 (t e : TypeId) (y : Operand) (ho : o.op = .buildSlice t 1 #[(0, y)]) (m : Nat) (f : Nat → Value) (hx : a.eval y = .agg (arr m f)) (z : Value)
    (hu : P.underlying t = some (.slice e)) (hz : (P.info? e).map (fun i => (i.size, i.zero)) = some (m, some z)) (hm : 0 < m) (hm' : m ≤ 1000)
    (h : ∀ b, w.B ≤ b → K (a.put o.dst (.slice (some ⟨b, 0, none⟩) 1 1)) (Mem w (((b, m, f) :: x) ++ L))) : stepT P (Mem w L) o a (Mem w (x ++ L)) K := by
  obtain ⟨ie, hie, hq⟩ := Option.map_eq_some_iff.1 hz
  simp only [Prod.mk.injEq] at hq
  refine fun W hW => .inl ⟨_, _, _, .inl ?_, kept_mem w L ((W.heap.size, m, f) :: x), hW.alloc e m f, h _ hW.size⟩
  have hf : Instr.fill (fun i => some (i * ie.size, ie.size)) ((Array.range (1 * ie.size)).map (z.cells[· % z.cells.size]!)) (Array.map (fun x => match x with | (i, x) => (i, a.eval x)) #[(0, y)]).toList = some (arr m f) := by
    rw [hq.1]
    rw [show (Array.map (fun x => match x with | (i, x) => (i, a.eval x)) #[(0, y)]).toList = [(0, Value.agg (arr m f))] by simp [hx]]
    obtain ⟨cs, h1, h2, h3⟩ := fill_one (f := f) (place := fun i => some (i * m, m)) (i := 0) (off := 0 * m) (m := m) rfl (cs := (Array.range (1 * m)).map (z.cells[· % z.cells.size]!)) (by simp) []
    rw [h1, Instr.fill]
    refine congrArg some (arr_ext (by rw [h2]; simp) (fun k hk => ?_))
    rw [h3, if_pos (by omega)]; simp
  unfold execOp
  simp only [ho, Sem.run_bind, run_buildSlice W t e 1 _ (arr m f) ie z hu hie hq.2 (by rw [hq.1]; omega) (by rw [hq.1]; omega) hf, Result.andThen_ok]
  rfl
theorem step_call_map (ob : Obj) (hob : ob.isCells = false) (h : ∃ fn args, (∀ W, (execOp a.eval o).run P W = .ok (.enter fn args) W) ∧
    (∀ W, Mem w (x ++ L) W → Calls P fn args W fun e w' => ∃ m, e = .returned (.map (some m)) ∧ W.heap.size ≤ m ∧ Mem ((Base.of W).with m ob hob) [] w') ∧
    ∀ m, w.B ≤ m → K (a.put o.dst (.map (some m))) (Mem (w.with m ob hob) (x ++ L))) : stepT P (Mem w L) o a (Mem w (x ++ L)) K := by
  obtain ⟨fn, args, hr, hc, h⟩ := h
  exact fun W hW => .inr ⟨fn, args, hr W, (hc W hW).mono fun e w' ⟨m, he, hge, hM⟩ => ⟨.map (some m), _, he, kept_with w L x m ob hob, (hW.call hM.good.1).withO hob hM.good.2, h m (Nat.le_trans hW.size hge)⟩⟩
section
variable {T : Type} {kv : T → Value} {ok : T → Prop} {ks : List T} {f : T → Value} {kt et : TypeId} {m : Nat}
theorem stepD_look [DecidableEq T] (hk : Kept C D) (c : Bool) (t : TypeId) (y z : Operand) (ho : o.op = .lookup t y z c) (hx : a.eval y = .map (some m)) (k : T) (hy : a.eval z = kv k)
    (hT : KeyTold P kt kv ok) (ht : P.underlying t = some (.map kt et)) (zv : Value) (hz : ∀ W, (zeroValue et).run P W = .ok zv W) (hm : ∀ W, D W → W.heap[m]? = some (mapO kv ks f)) (hks : ∀ k, k ∈ ks → ok k) (hok : ok k) (v : Value) (hv : (if c then .tuple #[if k ∈ ks then f k else zv, .bool (decide (k ∈ ks))] else if k ∈ ks then f k else zv) = v)
    (h : K (a.put o.dst v) D) : stepT P C o a D K := by
  refine fun W hW => .inl ⟨v, _, W, .inl ?_, hk, hW, h⟩
  have hr := look_map hT ht (hz W) (hm W hW) hks hok c
  rw [hv] at hr
  simp only [execOp, ho, hx, hy, Sem.run_bind, hr, Result.andThen_ok]
  rfl
end
end Go.Proofs.YtaaphdbaocjecaaDoor

/-
  PLAIN LAWS over any program: in a drawn region with reads at any places, an element appended to a list of the call's own.
-/
namespace Go.Proofs.YtaaphdbaocjecaaDoor
open Go Go.RowKit

section
variable {P : Program} {o : Oper} {a : Act} {w : Base} {L x : Blocks} {K : Act → (World → Prop) → Prop}
theorem exec_append {W W' : World} {v sv yv : Value} {s y : Operand} {t : TypeId} (ho : o.op = .call { callee := .builtin .append, args := #[s, y], argTypes := #[t, t] }) (hs : a.eval s = sv) (hx : a.eval y = yv)
    (hr : (Builtin.append_ #[t, t] o.type #[sv, yv]).run P W = .ok v W') : (execOp a.eval o).run P W = .ok (.value v) W' := by
  unfold execOp
  simp only [ho, resolve, invoke, builtin, Sem.run_bind, Sem.run_pure, Result.andThen_ok, List.map_toArray, List.map_cons, List.map_nil, hs, hx, hr]
theorem step_push0 (s y : Operand) (t : TypeId) (ho : o.op = .call { callee := .builtin .append, args := #[s, y], argTypes := #[t, t] })
    (e : TypeId) (m bs : Nat) (z : Value) (hu : P.underlying t = some (.slice e)) (hz : (P.info? e).map (fun i => (i.size, i.zero, i.bytes)) = some (m, some z, bs)) (hzs : z.cells.size = m) (hbs : bs ≤ 1000)
    (hs : a.eval s = .slice none 0 0) (bn : Nat) (f : Nat → Value) (hx : a.eval y = .slice (some ⟨bn, 0, none⟩) 1 1) (R : Nat → Value) (hR : ∀ j, j < m → f j = R j)
    (h : ∀ b' c' F', w.B ≤ b' → 1 ≤ c' → (∀ j, j < 1 * m → F' j = R j) → K (a.put o.dst (.slice (some ⟨b', 0, none⟩) 1 c')) (Mem w (((b', c' * m, F') :: x) ++ L))) : stepT P (Mem w L) o a (Mem w (((bn, m, f) :: x) ++ L)) K := by
  obtain ⟨i, hi, hq⟩ := Option.map_eq_some_iff.1 hz
  simp only [Prod.mk.injEq] at hq
  obtain ⟨rfl, q2, rfl⟩ := hq
  intro W hM
  have hr := run_append_nil (P := P) W t o.type e i z hu hi q2 ⟨bn, 0, none⟩ 1 1 (arr i.size f).toList (by simp [arr_size]) (hM.at0.list (Nat.le_refl _)) (by omega) (by omega) (by omega)
  have hge := grownCap_ge W 1 0 e
  refine .inl ⟨_, _, _, .inl (exec_append ho hs hx hr), kept_mem w L ((W.heap.size, grownCap W 1 0 e * i.size, _) :: x), (hM.drew.allocA e _ (grownCap W 1 0 e * i.size) ?_).skip, h _ _ _ hM.size hge (fun j hj => ?_)⟩
  · simp only [Array.size_append, List.size_toArray, size_zeroCells, hzs, Array.length_toList, arr_size]
    conv => lhs; lhs; rw [← Nat.one_mul i.size]
    rw [← Nat.add_mul]
    congr 1; omega
  · have hj' : j < i.size := by omega
    rw [← hR j hj']
    simp [Array.getElem?_append, arr, hj']
theorem step_push1 (s y : Operand) (t : TypeId) (ho : o.op = .call { callee := .builtin .append, args := #[s, y], argTypes := #[t, t] })
    (e : TypeId) (m bs : Nat) (z : Value) (hu : P.underlying t = some (.slice e)) (hz : (P.info? e).map (fun i => (i.size, i.zero, i.bytes)) = some (m, some z, bs)) (hzs : z.cells.size = m) (hbs : bs ≤ 1000)
    (b n c : Nat) (F : Nat → Value) (hs : a.eval s = .slice (some ⟨b, 0, none⟩) n c) (hb : w.B ≤ b) (hnc : n ≤ c) (hn : n ≤ 1048576)
    (bn : Nat) (f : Nat → Value) (hx : a.eval y = .slice (some ⟨bn, 0, none⟩) 1 1) (h1 : ∀ k, k < m → (f k).oneCell' = true) (R : Nat → Value) (hR0 : ∀ j, j < n * m → F j = R j) (hR : ∀ j, j < m → f j = R (n * m + j))
    (h : ∀ b' c' F', w.B ≤ b' → n + 1 ≤ c' → (∀ j, j < (n + 1) * m → F' j = R j) → K (a.put o.dst (.slice (some ⟨b', 0, none⟩) (n + 1) c')) (Mem w (((b', c' * m, F') :: x) ++ L))) : stepT P (Mem w L) o a (Mem w (((bn, m, f) :: (b, c * m, F) :: x) ++ L)) K := by
  obtain ⟨i, hi, hq⟩ := Option.map_eq_some_iff.1 hz
  simp only [Prod.mk.injEq] at hq
  obtain ⟨rfl, q2, rfl⟩ := hq
  intro W hM
  have hnews := hM.at0.list (Nat.le_refl _)
  by_cases hroom : n + 1 ≤ c
  · have hfit : n * i.size + i.size ≤ c * i.size := by
      have := Nat.mul_le_mul_right i.size hroom
      rwa [Nat.add_mul, Nat.one_mul] at this
    obtain ⟨t0, ht0⟩ := hM.ats 1 _ _ _ rfl
    have hfc := run_firstCells_some (P := P) W i.size 1 ⟨bn, 0, none⟩ 1 1 (arr i.size f).toList (by simp [arr_size]) hnews
    have hst := run_storeCells_at (P := P) b (n * i.size) t0 (arr i.size f).toList 0 (arr (c * i.size) F) W ht0 (by simp [arr_size]; omega) (fun v hv => by
      rw [arr_toList] at hv; simp at hv; obtain ⟨k, hk, rfl⟩ := hv; exact h1 k hk)
    rw [Nat.add_zero, arr_lay hfit] at hst
    have hr : (Builtin.append_ #[t, t] o.type #[.slice (some ⟨b, 0, none⟩) n c, .slice (some ⟨bn, 0, none⟩) 1 1]).run P W = .ok (.slice (some ⟨b, 0, none⟩) (n + 1) c) (W.setRow b (arr (c * i.size) (lay F (n * i.size) i.size f))) := by
      simp [Builtin.append_, run_underlying hu, sizeOf, typeInfo, hi, Builtin.lenOf, hroom, hfc, add_any, hst]
    refine .inl ⟨_, _, _, .inl (exec_append ho hs hx hr), kept_mem w L ((b, c * i.size, lay F (n * i.size) i.size f) :: x), (hM.setRow 1 rfl hb _).drop, h b c _ hb hroom (fun j hj => ?_)⟩
    · rw [Nat.add_mul, Nat.one_mul] at hj
      simp only [lay]
      by_cases hj' : j < n * i.size
      · rw [if_neg (by omega)]; exact hR0 j hj'
      · rw [if_pos (by omega), hR _ (by omega), show n * i.size + (j - n * i.size) = j by omega]
  · have hle : n * i.size ≤ c * i.size := Nat.mul_le_mul_right _ hnc
    have hb48 : Builtin.nextslicecap (n + 1) c * i.bytes ≤ 281474976710656 := growslice_fits (by omega) (by
      have : (n + 1) * i.bytes ≤ 1048577 * 1000 := Nat.mul_le_mul (by omega) hbs
      omega)
    have hr := run_append_grow (P := P) W t o.type e i z hu hi q2 ⟨b, 0, none⟩ n c (arr (n * i.size) F).toList (by simp [arr_size]) ((hM.ats 1 _ _ _ rfl).list hle) ⟨bn, 0, none⟩ 1 1 (arr i.size f).toList (by simp [arr_size]) hnews (by omega) (by omega) hb48
    have hge := grownCap_ge W (n + 1) c e
    refine .inl ⟨_, _, _, .inl (exec_append ho hs hx hr), kept_mem w L ((W.heap.size, grownCap W (n + 1) c e * i.size, _) :: x), (hM.drew.allocA e _ (grownCap W (n + 1) c e * i.size) ?_).skip.skip, h _ _ _ hM.size hge (fun j hj => ?_)⟩
    · simp only [Array.size_append, List.size_toArray, size_zeroCells, hzs, Array.length_toList, arr_size]
      rw [← Nat.succ_mul, ← Nat.add_mul]
      congr 1; simp only [Nat.succ_eq_add_one]; omega
    · rw [Nat.add_mul, Nat.one_mul] at hj
      by_cases hj' : j < n * i.size
      · rw [← hR0 j hj']
        rw [Array.getElem?_append_left (by simp [arr_size]; omega), Array.getElem?_append_left (by simp [arr_size]; omega), Array.toArray_toList, arr_at hj']
        rfl
      · rw [show j = n * i.size + (j - n * i.size) by omega, ← hR _ (by omega)]
        rw [Array.getElem?_append_left (by simp [arr_size]; omega), Array.getElem?_append_right (by simp [arr_size]), Array.toArray_toList, Array.toArray_toList, arr_size, Nat.add_sub_cancel_left, arr_at (by omega)]
        rfl
end
end Go.Proofs.YtaaphdbaocjecaaDoor

