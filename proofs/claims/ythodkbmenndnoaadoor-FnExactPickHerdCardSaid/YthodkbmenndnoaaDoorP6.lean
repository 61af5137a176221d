/-
  Several texts in one: Reads, MapOp, StepMap, StepPush, QuietOld, Members, Loads, Flock.
-/
import Derived.StillTail
import Derived.Deep.Quiet
import Derived.Test.YthodkbmenndnoaaDoorP5
import Derived.Test.YthodkbmenndnoaaDoorP3
import Derived.Test.YthodkbmenndnoaaDoorP4
import Derived.Test.YthodkbmenndnoaaDoorP1
import Derived.Test.YthodkbmenndnoaaDoorP2
/-
  PLAIN LAW: as Mix, with the reads and quiet calls standing anywhere in the region (the places qs), and, behind them, whatever may come up at each step.
-/
namespace Go.Proofs.YthodkbmenndnoaaDoor
open Go Go.RowKit
variable {P : Program} {ops : Array Oper} {C D : World → Prop}

/-- Operation i comes up: one of the first n is a read, the others are the thread. -/
def mixOpQ (P : Program) (ops : Array Oper) (C : World → Prop) (q : Nat → Bool) (i : Nat) (a : Act) (D : World → Prop) (K : Act → (World → Prop) → Prop) : Prop :=
  ∃ o, ops[i]? = some o ∧ (if q i = true then (if Region.wanted o (yielded ops a.tmps) then qB P o a C (fun a' => K a' D) else K (a.put o.dst undef) D) else o.guard = none ∧ stepT P C o a D K)
def mixQ (P : Program) (ops : Array Oper) (C : World → Prop) (q : Nat → Bool) (Q : Exit → Act → World → Prop) : Nat → Array Bool → Act → (World → Prop) → Prop
  | 0, s, a, D => Region.ready .any ops s = [] ∧ ∀ W, D W → Q .normal a W
  | f + 1, s, a, D => Region.ready .any ops s ≠ [] ∧ ∀ i ∈ Region.ready .any ops s, mixOpQ P ops C q i a D (mixQ P ops C q Q f (s.setIfInBounds i true))

theorem wpOp_of_mixOpQ {q : Nat → Bool} {i : Nat} {a : Act} {W : World} {K : Act → (World → Prop) → Prop} {K' : Act → World → Prop} {Q : Exit → Act → World → Prop} (hD : Kept C D) (hW : D W)
    (h : ∀ a D W, Kept C D → D W → K a D → K' a W) (hh : mixOpQ P ops C q i a D K) : wpOp P ops Q i K' a W := by
  obtain ⟨o, ho, hh⟩ := hh
  unfold wpOp
  simp only [ho]
  by_cases hn : q i = true
  · rw [if_pos hn] at hh
    by_cases hw : Region.wanted o (yielded ops a.tmps) = true
    · rw [if_pos hw] at hh ⊢
      obtain ⟨v, h1, h2⟩ := hh
      have h3 := h1 W (hD.sub W hW)
      refine .inl ?_
      unfold Oper.quietAt at h3
      unfold Oper.wp
      generalize (execOp a.eval o).run P W = r at *
      cases r with
      | ok x w' =>
        cases x <;> simp only [Oper.quietUpon] at h3 <;> simp only [Oper.upon]
        case value => obtain ⟨rfl, rfl⟩ := h3; exact h _ _ _ hD hW h2
        case skip => obtain ⟨rfl, rfl⟩ := h3; exact h _ _ _ hD hW h2
        case enter f args =>
          obtain ⟨rfl, hc⟩ := h3
          exact hc.mono fun e w'' ⟨he, hb⟩ => by subst he; exact h _ _ _ hD (hD.on _ _ hW hb) h2
      | halt x w' => simp only [Oper.quietUpon] at h3
    · rw [if_neg hw] at hh ⊢
      exact h _ _ _ hD hW hh
  · rw [if_neg hn] at hh
    obtain ⟨hg, hs⟩ := hh
    have hw : Region.wanted o (yielded ops a.tmps) = true := by simp [Region.wanted, hg]
    rw [if_pos hw]
    refine .inl ?_
    unfold Oper.wp
    rcases hs W hW with ⟨u, D', W', hr, hk, hd, hK⟩ | ⟨f, args, hr, hc⟩
    · rcases hr with hr | ⟨hr, rfl⟩ <;> rw [hr] <;> exact h _ _ _ hk hd hK
    · rw [hr]
      exact hc.mono fun e w'' ⟨u, D', he, hk, hd, hK⟩ => by subst he; exact h _ _ _ hk hd hK

theorem any_of_mixQ {q : Nat → Bool} {Q : Exit → Act → World → Prop} (f : Nat) : ∀ s a D W, Kept C D → D W → mixQ P ops C q Q f s a D → wpAny P .any ops Q f s a W := by
  induction f with
  | zero => intro s a D W _ hW h; exact ⟨h.1, h.2 W hW⟩
  | succ f ih =>
    intro s a D W hD hW h
    exact ⟨fun e => absurd e h.1, fun i hi => wpOp_of_mixOpQ hD hW (fun a' D' W' hD' hW' h' => ih _ a' D' W' hD' hW' h') (h.2 i hi)⟩

theorem gives.opQ {q : Nat → Bool} {i : Nat} {o : Oper} {v : Value} {a : Act} {K : Act → (World → Prop) → Prop} (hn : q i = true) (ho : ops[i]? = some o) (h : gives P ops C o v a) (hK : K (a.put o.dst v) D) : mixOpQ P ops C q i a D K := by
  refine ⟨o, ho, ?_⟩
  rw [if_pos hn]
  rcases h with ⟨hw, hv⟩ | ⟨hw, rfl⟩
  · rw [if_pos hw]; exact ⟨v, hv, hK⟩
  · rw [if_neg (by rw [hw]; exact Bool.false_ne_true)]; exact hK

theorem mixOpQ_past {q : Nat → Bool} {j : Nat} {oi oj : Oper} {v : Value} {a : Act} {K K' : Act → (World → Prop) → Prop} (hoj : ops[j]? = some oj) (hap : oi.apart ops oj = true) (hsi : ∀ cs b, oi.op ≠ .select cs b) (hsj : ∀ cs b, oj.op ≠ .select cs b)
    (hg : gives P ops C oi v a) (hK : ∀ u D', gives P ops C oi v (a.put oj.dst u) → K ((a.put oj.dst u).put oi.dst v) D' → K' (a.put oj.dst u) D') (h : mixOpQ P ops C q j (a.put oi.dst v) D K) : mixOpQ P ops C q j a D K' := by
  obtain ⟨h1, h2, h3⟩ := Oper.apart_spec hap
  have sw : ∀ u, (a.put oi.dst v).put oj.dst u = (a.put oj.dst u).put oi.dst v := fun u => Act.put_comm a v u h2
  have keep : ∀ u, gives P ops C oi v (a.put oj.dst u) := fun u => hg.other hsi _ u h3
  obtain ⟨o, ho, h⟩ := h
  obtain rfl : oj = o := Option.some.inj (hoj.symm.trans ho)
  refine ⟨oj, hoj, ?_⟩
  by_cases hn : q j = true
  · rw [if_pos hn] at h ⊢
    rw [wanted_put oj a oi.dst v h1] at h
    by_cases hw : Region.wanted oj (yielded ops a.tmps) = true
    · rw [if_pos hw] at h ⊢
      obtain ⟨u, hu, hk⟩ := h
      refine ⟨u, fun W hW => ?_, hK u D (keep u) (by rw [← sw]; exact hk)⟩
      have := hu W hW
      unfold Oper.quietAt at *
      rwa [execOp_put oj hsj a oi.dst v h1] at this
    · rw [if_neg hw] at h ⊢
      exact hK _ D (keep _) (by rw [← sw]; exact h)
  · rw [if_neg hn] at h ⊢
    refine ⟨h.1, fun W hW => ?_⟩
    rcases h.2 W hW with ⟨u, D', W', hr, hk, hd, hh⟩ | ⟨f, args, hr, hc⟩
    · rw [execOp_put oj hsj a oi.dst v h1] at hr
      exact .inl ⟨u, D', W', hr, hk, hd, hK u D' (keep u) (by rw [← sw]; exact hh)⟩
    · rw [execOp_put oj hsj a oi.dst v h1] at hr
      exact .inr ⟨f, args, hr, hc.mono fun e w'' ⟨u, D', he, hk, hd, hh⟩ => ⟨u, D', he, hk, hd, hK u D' (keep u) (by rw [← sw]; exact hh)⟩⟩

theorem mixQ_first {q : Nat → Bool} {i : Nat} {oi : Oper} {v : Value} {Q : Exit → Act → World → Prop} (hin : q i = true) (hoi : ops[i]? = some oi) (hsel : ∀ (j : Nat) (o : Oper) cs b, ops[j]? = some o → o.op ≠ .select cs b) (f : Nat) :
    ∀ s a D, (∀ j oj, ops[j]? = some oj → j ≠ i → s.getD j true = false → (∀ e ∈ oj.after, Region.binds .any e = true → e.on ≠ i) → oi.apart ops oj = true) →
      i ∈ Region.ready .any ops s → gives P ops C oi v a → mixQ P ops C q Q f (s.setIfInBounds i true) (a.put oi.dst v) D → mixQ P ops C q Q (f + 1) s a D := by
  induction f with
  | zero =>
    intro s a D _ hr hg H
    refine ⟨List.ne_nil_of_mem hr, fun j hj => ?_⟩
    by_cases e : j = i
    · subst e; exact hg.opQ hin hoi H
    · have := ready_mono hj e
      rw [H.1] at this; cases this
  | succ f ih =>
    intro s a D hfree hr hg H
    refine ⟨List.ne_nil_of_mem hr, fun j hj => ?_⟩
    by_cases e : j = i
    · subst e; exact hg.opQ hin hoi H
    obtain ⟨hju, oj, hoj, hdone⟩ := mem_ready.1 hj
    have hfj := hfree j oj hoj e hju fun d hd hb he => by
      have h1 := hdone d hd hb
      rw [he, getD_both (mem_ready.1 hr).1] at h1
      cases h1
    refine mixOpQ_past hoj hfj (fun cs b => hsel i oi cs b hoi) (fun cs b => hsel j oj cs b hoj) hg (fun u D' hg' h' => ?_) (H.2 j (ready_mono hj e))
    refine ih _ _ D' (fun k ok hk hki hku hno => hfree k ok hk hki ?_ hno) (ready_mono hr (Ne.symm e)) hg' ?_
    · by_cases ejk : j = k
      · subst ejk; exact hju
      · rwa [getD_set_ne true ejk] at hku
    · rw [Array.setIfInBounds_comm _ _ e]; exact h'


/-- The reads at the places is, one by one. -/
def wpQs (P : Program) (ops : Array Oper) (C : World → Prop) (R : Act → Prop) : List Nat → Act → Prop
  | [], a => R a
  | i :: is, a => ∃ o, ops[i]? = some o ∧ (if Region.wanted o (yielded ops a.tmps) then qB P o a C (wpQs P ops C R is) else wpQs P ops C R is (a.put o.dst undef))
def lexQs (ops : Array Oper) (s1 : Array Bool) : List Nat → Array Bool → Bool
  | [], s => decide (s = s1)
  | i :: is, s => (Region.ready .any ops s).contains i && Region.free .any ops s i && lexQs ops s1 is (s.setIfInBounds i true)

theorem mixQ_reads {q : Nat → Bool} {Q : Exit → Act → World → Prop} {s1 : Array Bool} {g : Nat} (hsel : Region.noSelect ops = true) : ∀ (is : List Nat) (s : Array Bool) (a : Act), (∀ i ∈ is, q i = true) → lexQs ops s1 is s = true →
    wpQs P ops C (fun a' => mixQ P ops C q Q g s1 a' D) is a → mixQ P ops C q Q (is.length + g) s a D
  | [], s, a, _, hB, h => by
    obtain rfl : s = s1 := by simpa [lexQs] using hB
    rw [List.length_nil, Nat.zero_add]
    exact h
  | i :: is, s, a, hq, hB, h => by
    obtain ⟨o, h0, h⟩ := h
    simp only [lexQs, Bool.and_eq_true] at hB
    have hr : i ∈ Region.ready .any ops s := by simpa using hB.1.1
    have hv : ∃ v, gives P ops C o v a ∧ wpQs P ops C (fun a' => mixQ P ops C q Q g s1 a' D) is (a.put o.dst v) := by
      by_cases hw : Region.wanted o (yielded ops a.tmps) = true
      · rw [if_pos hw] at h; obtain ⟨v, h1, h2⟩ := h; exact ⟨v, .inl ⟨hw, h1⟩, h2⟩
      · rw [if_neg hw] at h; exact ⟨undef, .inr ⟨by simpa using hw, rfl⟩, h⟩
    obtain ⟨v, hg, hK⟩ := hv
    rw [List.length_cons, show is.length + 1 + g = (is.length + g) + 1 by omega]
    exact mixQ_first (hq i (by simp)) h0 (Region.noSelect_spec hsel) _ s a D (Region.free_spec h0 hB.1.2) hr hg (mixQ_reads hsel is _ _ (fun j hj => hq j (by simp [hj])) hB.2 hK)

/-- The reads are told by their places; behind them s1 is listed. -/
def readsB (ops : Array Oper) (is : List Nat) (s1 : Array Bool) : Bool := Region.noSelect ops && lexQs ops s1 is (Array.replicate ops.size false)
theorem region_reads {Q : Exit → Act → World → Prop} {a : Act} {w : Base} {W : World} {L : Blocks} {id : Nat} {l : List Oper} (is : List Nat) (s1 : Array Bool) (g : Nat) (hm : P.follows .mixedOrders = true) (hB : readsB l.toArray is s1 = true) (hg : is.length + g = l.length) (hM : Mem w L W)
    (h : wpQs P l.toArray (Mem w L) (fun a' => mixQ P l.toArray (Mem w L) (fun i => is.contains i) Q g s1 a' (Mem w ([] ++ L))) is a) : (Code.region id l.toArray true).wp P Q a W := by
  refine wp_region_any hm ?_
  simp only [readsB, Bool.and_eq_true] at hB
  have := mixQ_reads (q := fun i => is.contains i) (D := Mem w ([] ++ L)) hB.1 is _ a (fun i hi => by simpa using hi) hB.2 h
  have := any_of_mixQ _ _ _ _ W.drew (kept_mem w L []) hM.drew this
  rw [hg] at this
  simpa using this

/-- The same, where the blocks x, ahead of the others, may be written. -/
theorem region_readsX {Q : Exit → Act → World → Prop} {a : Act} {w : Base} {W : World} {L : Blocks} {id : Nat} {l : List Oper} (is : List Nat) (s1 : Array Bool) (g : Nat) (x : Blocks) (hm : P.follows .mixedOrders = true) (hB : readsB l.toArray is s1 = true) (hg : is.length + g = l.length) (hM : Mem w (x ++ L) W)
    (h : wpQs P l.toArray (Mem w L) (fun a' => mixQ P l.toArray (Mem w L) (fun i => is.contains i) Q g s1 a' (Mem w (x ++ L))) is a) : (Code.region id l.toArray true).wp P Q a W := by
  refine wp_region_any hm ?_
  simp only [readsB, Bool.and_eq_true] at hB
  have := mixQ_reads (q := fun i => is.contains i) (D := Mem w (x ++ L)) hB.1 is _ a (fun i hi => by simpa using hi) hB.2 h
  have := any_of_mixQ _ _ _ _ W.drew (kept_mem w L x) hM.drew this
  rw [hg] at this
  simpa using this

/-- The same, where more places qs hold reads that are taken later. -/
theorem region_readsG {Q : Exit → Act → World → Prop} {a : Act} {w : Base} {W : World} {L : Blocks} {id : Nat} {l : List Oper} (is qs : List Nat) (s1 : Array Bool) (g : Nat) (hq : ∀ i ∈ is, qs.contains i = true) (hm : P.follows .mixedOrders = true) (hB : readsB l.toArray is s1 = true) (hg : is.length + g = l.length) (hM : Mem w L W)
    (h : wpQs P l.toArray (Mem w L) (fun a' => mixQ P l.toArray (Mem w L) (fun i => qs.contains i) Q g s1 a' (Mem w ([] ++ L))) is a) : (Code.region id l.toArray true).wp P Q a W := by
  refine wp_region_any hm ?_
  simp only [readsB, Bool.and_eq_true] at hB
  have := mixQ_reads (q := fun i => qs.contains i) (D := Mem w ([] ++ L)) hB.1 is _ a hq hB.2 h
  have := any_of_mixQ _ _ _ _ W.drew (kept_mem w L []) hM.drew this
  rw [hg] at this
  simpa using this

/-! ### What may come up -/
variable {q : Nat → Bool} {Q : Exit → Act → World → Prop} {s : Array Bool} {a : Act} {f : Nat} {l : List Oper}
theorem at_list {i : Nat} {o : Oper} (h : l[i]? = some o) : l.toArray[i]? = some o := by simpa using h
theorem mix_end (hr : Region.ready .any ops s = []) (h : ∀ W, D W → Q .normal a W) : mixQ P ops C q Q 0 s a D := ⟨hr, h⟩
theorem mix_one {i : Nat} {o : Oper} (hr : Region.ready .any l.toArray s = [i]) (ho : l[i]? = some o) (hq : q i = false) (hg : o.guard = none) (h : stepT P C o a D (mixQ P l.toArray C q Q f (s.setIfInBounds i true))) : mixQ P l.toArray C q Q (f + 1) s a D := by
  refine ⟨by rw [hr]; simp, fun j hj => ?_⟩
  rw [hr] at hj
  obtain rfl : j = i := by simpa using hj
  exact ⟨o, at_list ho, by rw [if_neg (by rw [hq]; decide)]; exact ⟨hg, h⟩⟩
theorem mix_two {i j : Nat} {o o' : Oper} (hr : Region.ready .any l.toArray s = [i, j]) (ho : l[i]? = some o) (ho' : l[j]? = some o') (hq : q i = false) (hq' : q j = false) (hg : o.guard = none) (hg' : o'.guard = none)
    (h : stepT P C o a D (mixQ P l.toArray C q Q f (s.setIfInBounds i true))) (h' : stepT P C o' a D (mixQ P l.toArray C q Q f (s.setIfInBounds j true))) : mixQ P l.toArray C q Q (f + 1) s a D := by
  refine ⟨by rw [hr]; simp, fun k hk => ?_⟩
  rw [hr] at hk
  have : k = i ∨ k = j := by simpa using hk
  rcases this with rfl | rfl
  · exact ⟨o, at_list ho, by rw [if_neg (by rw [hq]; decide)]; exact ⟨hg, h⟩⟩
  · exact ⟨o', at_list ho', by rw [if_neg (by rw [hq']; decide)]; exact ⟨hg', h'⟩⟩
/-- A read at the place i. -/
theorem qs_plain {i : Nat} {is : List Nat} {o : Oper} {R : Act → Prop} (ho : l[i]? = some o) (hg : o.guard = none) (h : qB P o a C (wpQs P l.toArray C R is)) : wpQs P l.toArray C R (i :: is) a :=
  ⟨o, at_list ho, by rw [if_pos (by simp [Region.wanted, hg])]; exact h⟩
theorem qs_nil {R : Act → Prop} (h : R a) : wpQs P ops C R [] a := h

/-! ### The steps -/
variable {o : Oper} {w : Base} {L x : Blocks} {K : Act → (World → Prop) → Prop}
theorem step_val (h : ∃ v, (∀ W, (execOp a.eval o).run P W = .ok (.value v) W) ∧ K (a.put o.dst v) (Mem w (x ++ L))) : stepT P (Mem w L) o a (Mem w (x ++ L)) K := by
  obtain ⟨v, hr, h⟩ := h
  exact fun W hW => .inl ⟨v, _, W, .inl (hr W), kept_mem w L x, hW, h⟩
theorem step_zero (ty : TypeId) (ho : o.op = .alloc ty) {n : Nat} {f : Nat → Value} (hz : (P.info? ty).map (·.zero) = some (some (.agg (arr n f))))
    (h : ∀ b, w.B ≤ b → K (a.put o.dst (.pointer (some ⟨b, 0, none⟩))) (Mem w (((b, n, f) :: x) ++ L))) : stepT P (Mem w L) o a (Mem w (x ++ L)) K := by
  refine fun W hW => .inl ⟨_, _, _, .inl ?_, kept_mem w L ((W.heap.size, n, f) :: x), hW.alloc ty n f, h _ hW.size⟩
  have hzv : (zeroValue ty).run P W = .ok (.agg (arr n f)) W := by
    cases hq : P.info? ty with
    | none => simp [hq] at hz
    | some i => simp [hq] at hz; simp [zeroValue, typeInfo, hq, hz]
  unfold execOp
  simp only [ho, Instr.alloc, Sem.run_bind, Sem.run_pure, Result.andThen_ok, hzv, newVar, newRow, newObj, Sem.run, Value.cells]
  rfl
theorem step_lay (ty : TypeId) (y z : Operand) (ho : o.op = .store ty y z) (b off : Nat) (hx : a.eval y = .pointer (some ⟨b, off, none⟩))
    (m : Nat) (g : Nat → Value) (hy : a.eval z = .agg (arr m g)) (i : Nat) {n : Nat} {f : Nat → Value} (hi : x[i]? = some (b, n, f)) (hb : w.B ≤ b)
    (hT : RowT P ty m) (hle : off + m ≤ n) (h1 : ∀ k, k < m → (g k).oneCell' = true)
    (h : K (a.put o.dst undef) (Mem w ((x.set i (b, n, lay f off m g)) ++ L))) : stepT P (Mem w L) o a (Mem w (x ++ L)) K := by
  obtain ⟨_, hm⟩ := hT
  have hil : i < x.length := (List.getElem?_eq_some_iff.1 hi).1
  have hi' : (x ++ L)[i]? = some (b, n, f) := by rw [List.getElem?_append_left hil]; exact hi
  intro W hW
  obtain ⟨t, ht⟩ := hW.ats i b n f hi'
  have hs := run_storeCells_at (P := P) b off t (arr m g).toList 0 (arr n f) W ht (by simp [arr_size]; omega) (fun v hv => by
    rw [arr_toList] at hv; simp at hv; obtain ⟨k, hk, rfl⟩ := hv; exact h1 k hk)
  rw [Nat.add_zero, arr_lay hle] at hs
  have hsz : (sizeOf ty).run P W = .ok m W := by
    cases hq : P.info? ty with
    | none => simp [hq] at hm
    | some i => simp [hq] at hm; simp [sizeOf, typeInfo, hq, hm]
  have hset := hW.setRow i hi' hb (lay f off m g)
  rw [List.set_append_left _ _ hil] at hset
  refine .inl ⟨undef, _, _, .inr ⟨?_, rfl⟩, kept_mem w L _, hset, h⟩
  unfold execOp
  simp only [ho, hx, hy, Instr.storeAt, Instr.sureAddr, storeVar, Sem.run_bind, Sem.run_pure, Result.andThen_ok, Value.cells, hsz, arr_size, ne_eq, not_true_eq_false, if_false, hs]

/-- A call that lets lie all that lay. -/
theorem step_call (h : ∃ f args v, (∀ W, (execOp a.eval o).run P W = .ok (.enter f args) W) ∧ (∀ W, Mem w (x ++ L) W → Calls P f args W fun e w' => e = .returned v ∧ Below W.heap.size W w') ∧ K (a.put o.dst v) (Mem w (x ++ L))) : stepT P (Mem w L) o a (Mem w (x ++ L)) K := by
  obtain ⟨f, args, v, hr, hc, h⟩ := h
  exact fun W hW => .inr ⟨f, args, hr W, (hc W hW).mono fun e w' ⟨he, hb⟩ => ⟨v, _, he, kept_mem w L x, hW.call hb, h⟩⟩
/-- A call that hands back what holds a new block. -/
theorem step_call_new {n : Nat} {f : Nat → Value} (vb : Nat → Value) (h : ∃ fn args, (∀ W, (execOp a.eval o).run P W = .ok (.enter fn args) W) ∧ (∀ W, Mem w (x ++ L) W → Calls P fn args W fun e w' => ∃ b, e = .returned (vb b) ∧ W.heap.size ≤ b ∧ At w' b n f ∧ Below W.heap.size W w') ∧
    ∀ b, w.B ≤ b → K (a.put o.dst (vb b)) (Mem w (((b, n, f) :: x) ++ L))) : stepT P (Mem w L) o a (Mem w (x ++ L)) K := by
  obtain ⟨fn, args, hr, hc, h⟩ := h
  refine fun W hW => .inr ⟨fn, args, hr W, (hc W hW).mono fun e w' ⟨b, he, hge, hA, hb⟩ => ⟨vb b, _, he, kept_mem w L ((b, n, f) :: x), ?_, h b (Nat.le_trans hW.size hge)⟩⟩
  have hW' := hW.call hb
  refine ⟨hW'.good, fun i b' n' f' hi => ?_, fun i j p p' hi hj hne => ?_⟩
  · cases i with
    | zero => simp at hi; obtain ⟨rfl, rfl, rfl⟩ := hi; exact hA
    | succ i => exact hW'.ats i b' n' f' (by simpa using hi)
  · have off : ∀ (i : Nat) (p : Nat × Nat × (Nat → Value)), (x ++ L)[i]? = some p → p.1 ≠ b := fun i p h e => by
      have := (hW.ats i p.1 p.2.1 p.2.2 h).lt
      omega
    cases i with
    | zero =>
      cases j with
      | zero => exact absurd rfl hne
      | succ j => simp at hi; rw [← hi]; exact fun e => off j p' (by simpa using hj) e.symm
    | succ i =>
      cases j with
      | zero => simp at hj; rw [← hj]; exact off i p (by simpa using hi)
      | succ j => exact hW'.apart i j p p' (by simpa using hi) (by simpa using hj) (by omega)
/-- A call that hands back what holds more blocks. -/
theorem step_call_more {β : Type} (vb : β → Value) (Bk : β → Blocks) (good : β → Prop) (h : ∃ fn args, (∀ W, (execOp a.eval o).run P W = .ok (.enter fn args) W) ∧ (∀ W, Mem w (x ++ L) W → Calls P fn args W fun e w' => ∃ y, e = .returned (vb y) ∧ good y ∧ Mem w (Bk y ++ (x ++ L)) w') ∧
    ∀ y, good y → K (a.put o.dst (vb y)) (Mem w ((Bk y ++ x) ++ L))) : stepT P (Mem w L) o a (Mem w (x ++ L)) K := by
  obtain ⟨fn, args, hr, hc, h⟩ := h
  exact fun W hW => .inr ⟨fn, args, hr W, (hc W hW).mono fun e w' ⟨y, he, hg, hM⟩ => ⟨vb y, _, he, kept_mem w L (Bk y ++ x), (by rw [List.append_assoc]; exact hM), h y hg⟩⟩
end Go.Proofs.YthodkbmenndnoaaDoor

/-
  PLAIN LAWS over any program: the operations on a map that a call owns (MapB), at the list of a region.
-/
namespace Go.Proofs.YthodkbmenndnoaaDoor
open Go Go.RowKit Go.Maps

section
variable {P : Program} {ops : Array Oper} {rest : List Oper} {o : Oper} {a : Act} {w : Base} {W : World} {Q : Exit → Act → World → Prop} {L : Blocks} {J : Act → World → Prop}
variable {K : Type} {kv : K → Value} {ok : K → Prop} {ks : List K} {f : K → Value} {kt et : TypeId} {m : Nat}

/-- 'map[K]V{}'. -/
theorem oper_makeMap (t : TypeId) (ho : o.op = .makeMap t none) (f : K → Value) (hM : Mem w L W)
    (h : ∀ m W', w.B ≤ m → W.heap.size ≤ m → Mem (w.with m (mapO kv [] f) rfl) L W' → J (a.put o.dst (.map (some m))) W') : o.wp P a W J Q := by
  have hr : (Instr.makeMap t none).run P W = .ok (.map (some W.heap.size)) (W.alloc (.map #[] 0)) := rfl
  unfold Oper.wp
  simp only [execOp, ho, Sem.run_bind, hr, Result.andThen_ok, Option.map_none]
  exact h _ _ hM.size (Nat.le_refl _) (hM.newObj (mapO kv [] f) rfl)
/-- 'm[k]' and 'v, ok := m[k]'. -/
theorem oper_lookup [DecidableEq K] (t : TypeId) (x y : Operand) (c : Bool) (ho : o.op = .lookup t x y c) (hx : a.eval x = .map (some m)) (k : K) (hy : a.eval y = kv k)
    (T : KeyTold P kt kv ok) (ht : P.underlying t = some (.map kt et)) (z : Value) (hz : ∀ W, (zeroValue et).run P W = .ok z W) (hm : W.heap[m]? = some (mapO kv ks f)) (hks : ∀ k, k ∈ ks → ok k) (hk : ok k)
    (h : J (a.put o.dst (if c then .tuple #[if k ∈ ks then f k else z, .bool (decide (k ∈ ks))] else if k ∈ ks then f k else z)) W) : o.wp P a W J Q := by
  have hr := look_map T ht (hz W) hm hks hk c
  unfold Oper.wp
  simp only [execOp, ho, hx, hy, Sem.run_bind, hr, Result.andThen_ok]
  exact h
/-- 'm[k] = v'. -/
theorem oper_mapSet [DecidableEq K] (t : TypeId) (x y v : Operand) (ho : o.op = .mapUpdate t x y v) (hx : a.eval x = .map (some m)) (k : K) (hy : a.eval y = kv k) (val : Value) (hv : a.eval v = val)
    (T : KeyTold P kt kv ok) (ht : P.underlying t = some (.map kt et)) (hM : Mem (w.with m (mapO kv ks f) rfl) L W) (hl : w.Lets m) (hd : ks.Nodup) (hks : ∀ k, k ∈ ks → ok k) (hk : ok k)
    (h : ∀ W', Mem (w.with m (mapO kv (addK ks k) (updK f k val)) rfl) L W' → J (a.put o.dst undef) W') : o.wp P a W J Q := by
  have hr := put_map T ht hM.good.2 hd hks hk val
  unfold Oper.wp
  simp only [execOp, ho, hx, hy, hv, Sem.run_bind, hr, Result.andThen_ok, Sem.run_pure]
  exact h _ (hM.put hl rfl)

theorem wpList_makeMap (hgd : o.guard = none) (t : TypeId) (ho : o.op = .makeMap t none) (f : K → Value) (hM : Mem w L W)
    (h : ∀ m W', w.B ≤ m → W.heap.size ≤ m → Mem (w.with m (mapO kv [] f) rfl) L W' → wpList P ops Q rest (a.put o.dst (.map (some m))) W') : wpList P ops Q (o :: rest) a W :=
  wpList_plain hgd fun _ hJ => oper_makeMap t ho f hM fun m W' h1 h2 h3 => hJ _ _ (h m W' h1 h2 h3)
theorem wpList_lookup [DecidableEq K] (hgd : o.guard = none) (t : TypeId) (x y : Operand) (c : Bool) (ho : o.op = .lookup t x y c) (hx : a.eval x = .map (some m)) (k : K) (hy : a.eval y = kv k)
    (T : KeyTold P kt kv ok) (ht : P.underlying t = some (.map kt et)) (z : Value) (hz : ∀ W, (zeroValue et).run P W = .ok z W) (hm : W.heap[m]? = some (mapO kv ks f)) (hks : ∀ k, k ∈ ks → ok k) (hk : ok k)
    (h : wpList P ops Q rest (a.put o.dst (if c then .tuple #[if k ∈ ks then f k else z, .bool (decide (k ∈ ks))] else if k ∈ ks then f k else z)) W) : wpList P ops Q (o :: rest) a W :=
  wpList_plain hgd fun _ hJ => oper_lookup t x y c ho hx k hy T ht z hz hm hks hk (hJ _ _ h)
theorem wpList_mapSet [DecidableEq K] (hgd : o.guard = none) (t : TypeId) (x y v : Operand) (ho : o.op = .mapUpdate t x y v) (hx : a.eval x = .map (some m)) (k : K) (hy : a.eval y = kv k) (val : Value) (hv : a.eval v = val)
    (T : KeyTold P kt kv ok) (ht : P.underlying t = some (.map kt et)) (hM : Mem (w.with m (mapO kv ks f) rfl) L W) (hl : w.Lets m) (hd : ks.Nodup) (hks : ∀ k, k ∈ ks → ok k) (hk : ok k)
    (h : ∀ W', Mem (w.with m (mapO kv (addK ks k) (updK f k val)) rfl) L W' → wpList P ops Q rest (a.put o.dst undef) W') : wpList P ops Q (o :: rest) a W :=
  wpList_plain hgd fun _ hJ => oper_mapSet t x y v ho hx k hy val hv T ht hM hl hd hks hk fun W' h1 => hJ _ _ (h W' h1)
end
end Go.Proofs.YthodkbmenndnoaaDoor

/-
  PLAIN LAWS: steps of a region that draws its order: a slice literal, a call that gives a new map, a lookup in it.
-/
namespace Go.Proofs.YthodkbmenndnoaaDoor
open Go Go.RowKit Go.Maps
variable {P : Program} {C D : World → Prop} {o : Oper} {a : Act} {w : Base} {L x : Blocks} {K : Act → (World → Prop) → Prop}

theorem kept_with (w : Base) (L x : Blocks) (m : Nat) (ob : Obj) (hob : ob.isCells = false) : Kept (Mem w L) (Mem (w.with m ob hob) (x ++ L)) where
  sub := fun W h => (kept_mem w L x).sub W h.less
  on := fun W W' h hb => h.call hb
theorem stepD_val (hk : Kept C D) (h : ∃ v, (∀ W, (execOp a.eval o).run P W = .ok (.value v) W) ∧ K (a.put o.dst v) D) : stepT P C o a D K := by
  obtain ⟨v, hr, h⟩ := h
  exact fun W hW => .inl ⟨v, _, W, .inl (hr W), hk, hW, h⟩
theorem step_slice1 (t e : TypeId) (y : Operand) (ho : o.op = .buildSlice t 1 #[(0, y)]) (m : Nat) (f : Nat → Value) (hx : a.eval y = .agg (arr m f)) (z : Value)
    (hu : P.underlying t = some (.slice e)) (hz : (P.info? e).map (fun i => (i.size, i.zero)) = some (m, some z)) (hm : 0 < m) (hm' : m ≤ 1000)
    (h : ∀ b, w.B ≤ b → K (a.put o.dst (.slice (some ⟨b, 0, none⟩) 1 1)) (Mem w (((b, m, f) :: x) ++ L))) : stepT P (Mem w L) o a (Mem w (x ++ L)) K := by
  obtain ⟨ie, hie, hq⟩ := Option.map_eq_some_iff.1 hz
  simp only [Prod.mk.injEq] at hq
  refine fun W hW => .inl ⟨_, _, _, .inl ?_, kept_mem w L ((W.heap.size, m, f) :: x), hW.alloc e m f, h _ hW.size⟩
  have hf : Instr.fill (fun i => some (i * ie.size, ie.size)) ((Array.range (1 * ie.size)).map (z.cells[· % z.cells.size]!)) (Array.map (fun x => match x with | (i, x) => (i, a.eval x)) #[(0, y)]).toList = some (arr m f) := by
    rw [hq.1]
    rw [show (Array.map (fun x => match x with | (i, x) => (i, a.eval x)) #[(0, y)]).toList = [(0, Value.agg (arr m f))] by simp [hx]]
    obtain ⟨cs, h1, h2, h3⟩ := fill_one (f := f) (place := fun i => some (i * m, m)) (i := 0) (off := 0 * m) (m := m) rfl (cs := (Array.range (1 * m)).map (z.cells[· % z.cells.size]!)) (by simp) []
    rw [h1, Instr.fill]
    refine congrArg some (arr_ext (by rw [h2]; simp) (fun k hk => ?_))
    rw [h3, if_pos (by omega)]; simp
  unfold execOp
  simp only [ho, Sem.run_bind, run_buildSlice W t e 1 _ (arr m f) ie z hu hie hq.2 (by rw [hq.1]; omega) (by rw [hq.1]; omega) hf, Result.andThen_ok]
  rfl
theorem step_call_map (ob : Obj) (hob : ob.isCells = false) (h : ∃ fn args, (∀ W, (execOp a.eval o).run P W = .ok (.enter fn args) W) ∧
    (∀ W, Mem w (x ++ L) W → Calls P fn args W fun e w' => ∃ m, e = .returned (.map (some m)) ∧ W.heap.size ≤ m ∧ Mem ((Base.of W).with m ob hob) [] w') ∧
    ∀ m, w.B ≤ m → K (a.put o.dst (.map (some m))) (Mem (w.with m ob hob) (x ++ L))) : stepT P (Mem w L) o a (Mem w (x ++ L)) K := by
  obtain ⟨fn, args, hr, hc, h⟩ := h
  exact fun W hW => .inr ⟨fn, args, hr W, (hc W hW).mono fun e w' ⟨m, he, hge, hM⟩ => ⟨.map (some m), _, he, kept_with w L x m ob hob, (hW.call hM.good.1).withO hob hM.good.2, h m (Nat.le_trans hW.size hge)⟩⟩
section
variable {T : Type} {kv : T → Value} {ok : T → Prop} {ks : List T} {f : T → Value} {kt et : TypeId} {m : Nat}
theorem stepD_look [DecidableEq T] (hk : Kept C D) (c : Bool) (t : TypeId) (y z : Operand) (ho : o.op = .lookup t y z c) (hx : a.eval y = .map (some m)) (k : T) (hy : a.eval z = kv k)
    (hT : KeyTold P kt kv ok) (ht : P.underlying t = some (.map kt et)) (zv : Value) (hz : ∀ W, (zeroValue et).run P W = .ok zv W) (hm : ∀ W, D W → W.heap[m]? = some (mapO kv ks f)) (hks : ∀ k, k ∈ ks → ok k) (hok : ok k) (v : Value) (hv : (if c then .tuple #[if k ∈ ks then f k else zv, .bool (decide (k ∈ ks))] else if k ∈ ks then f k else zv) = v)
    (h : K (a.put o.dst v) D) : stepT P C o a D K := by
  refine fun W hW => .inl ⟨v, _, W, .inl ?_, hk, hW, h⟩
  have hr := look_map hT ht (hz W) (hm W hW) hks hok c
  rw [hv] at hr
  simp only [execOp, ho, hx, hy, Sem.run_bind, hr, Result.andThen_ok]
  rfl
end
end Go.Proofs.YthodkbmenndnoaaDoor

/-
  PLAIN LAWS over any program: in a drawn region with reads at any places, an element appended to a list of the call's own.
-/
namespace Go.Proofs.YthodkbmenndnoaaDoor
open Go Go.RowKit

section
variable {P : Program} {o : Oper} {a : Act} {w : Base} {L x : Blocks} {K : Act → (World → Prop) → Prop}
theorem exec_append {W W' : World} {v sv yv : Value} {s y : Operand} {t : TypeId} (ho : o.op = .call { callee := .builtin .append, args := #[s, y], argTypes := #[t, t] }) (hs : a.eval s = sv) (hx : a.eval y = yv)
    (hr : (Builtin.append_ #[t, t] o.type #[sv, yv]).run P W = .ok v W') : (execOp a.eval o).run P W = .ok (.value v) W' := by
  unfold execOp
  simp only [ho, resolve, invoke, builtin, Sem.run_bind, Sem.run_pure, Result.andThen_ok, List.map_toArray, List.map_cons, List.map_nil, hs, hx, hr]
theorem step_push0 (s y : Operand) (t : TypeId) (ho : o.op = .call { callee := .builtin .append, args := #[s, y], argTypes := #[t, t] })
    (e : TypeId) (m bs : Nat) (z : Value) (hu : P.underlying t = some (.slice e)) (hz : (P.info? e).map (fun i => (i.size, i.zero, i.bytes)) = some (m, some z, bs)) (hzs : z.cells.size = m) (hbs : bs ≤ 1000)
    (hs : a.eval s = .slice none 0 0) (bn : Nat) (f : Nat → Value) (hx : a.eval y = .slice (some ⟨bn, 0, none⟩) 1 1) (R : Nat → Value) (hR : ∀ j, j < m → f j = R j)
    (h : ∀ b' c' F', w.B ≤ b' → 1 ≤ c' → (∀ j, j < 1 * m → F' j = R j) → K (a.put o.dst (.slice (some ⟨b', 0, none⟩) 1 c')) (Mem w (((b', c' * m, F') :: x) ++ L))) : stepT P (Mem w L) o a (Mem w (((bn, m, f) :: x) ++ L)) K := by
  obtain ⟨i, hi, hq⟩ := Option.map_eq_some_iff.1 hz
  simp only [Prod.mk.injEq] at hq
  obtain ⟨rfl, q2, rfl⟩ := hq
  intro W hM
  have hr := run_append_nil (P := P) W t o.type e i z hu hi q2 ⟨bn, 0, none⟩ 1 1 (arr i.size f).toList (by simp [arr_size]) (hM.at0.list (Nat.le_refl _)) (by omega) (by omega) (by omega)
  have hge := grownCap_ge W 1 0 e
  refine .inl ⟨_, _, _, .inl (exec_append ho hs hx hr), kept_mem w L ((W.heap.size, grownCap W 1 0 e * i.size, _) :: x), (hM.drew.allocA e _ (grownCap W 1 0 e * i.size) ?_).skip, h _ _ _ hM.size hge (fun j hj => ?_)⟩
  · simp only [Array.size_append, List.size_toArray, size_zeroCells, hzs, Array.length_toList, arr_size]
    conv => lhs; lhs; rw [← Nat.one_mul i.size]
    rw [← Nat.add_mul]
    congr 1; omega
  · have hj' : j < i.size := by omega
    rw [← hR j hj']
    simp [Array.getElem?_append, arr, hj']
theorem step_push1 (s y : Operand) (t : TypeId) (ho : o.op = .call { callee := .builtin .append, args := #[s, y], argTypes := #[t, t] })
    (e : TypeId) (m bs : Nat) (z : Value) (hu : P.underlying t = some (.slice e)) (hz : (P.info? e).map (fun i => (i.size, i.zero, i.bytes)) = some (m, some z, bs)) (hzs : z.cells.size = m) (hbs : bs ≤ 1000)
    (b n c : Nat) (F : Nat → Value) (hs : a.eval s = .slice (some ⟨b, 0, none⟩) n c) (hb : w.B ≤ b) (hnc : n ≤ c) (hn : n ≤ 1048576)
    (bn : Nat) (f : Nat → Value) (hx : a.eval y = .slice (some ⟨bn, 0, none⟩) 1 1) (h1 : ∀ k, k < m → (f k).oneCell' = true) (R : Nat → Value) (hR0 : ∀ j, j < n * m → F j = R j) (hR : ∀ j, j < m → f j = R (n * m + j))
    (h : ∀ b' c' F', w.B ≤ b' → n + 1 ≤ c' → (∀ j, j < (n + 1) * m → F' j = R j) → K (a.put o.dst (.slice (some ⟨b', 0, none⟩) (n + 1) c')) (Mem w (((b', c' * m, F') :: x) ++ L))) : stepT P (Mem w L) o a (Mem w (((bn, m, f) :: (b, c * m, F) :: x) ++ L)) K := by
  obtain ⟨i, hi, hq⟩ := Option.map_eq_some_iff.1 hz
  simp only [Prod.mk.injEq] at hq
  obtain ⟨rfl, q2, rfl⟩ := hq
  intro W hM
  have hnews := hM.at0.list (Nat.le_refl _)
  by_cases hroom : n + 1 ≤ c
  · have hfit : n * i.size + i.size ≤ c * i.size := by
      have := Nat.mul_le_mul_right i.size hroom
      rwa [Nat.add_mul, Nat.one_mul] at this
    obtain ⟨t0, ht0⟩ := hM.ats 1 _ _ _ rfl
    have hfc := run_firstCells_some (P := P) W i.size 1 ⟨bn, 0, none⟩ 1 1 (arr i.size f).toList (by simp [arr_size]) hnews
    have hst := run_storeCells_at (P := P) b (n * i.size) t0 (arr i.size f).toList 0 (arr (c * i.size) F) W ht0 (by simp [arr_size]; omega) (fun v hv => by
      rw [arr_toList] at hv; simp at hv; obtain ⟨k, hk, rfl⟩ := hv; exact h1 k hk)
    rw [Nat.add_zero, arr_lay hfit] at hst
    have hr : (Builtin.append_ #[t, t] o.type #[.slice (some ⟨b, 0, none⟩) n c, .slice (some ⟨bn, 0, none⟩) 1 1]).run P W = .ok (.slice (some ⟨b, 0, none⟩) (n + 1) c) (W.setRow b (arr (c * i.size) (lay F (n * i.size) i.size f))) := by
      simp [Builtin.append_, run_underlying hu, sizeOf, typeInfo, hi, Builtin.lenOf, hroom, hfc, add_any, hst]
    refine .inl ⟨_, _, _, .inl (exec_append ho hs hx hr), kept_mem w L ((b, c * i.size, lay F (n * i.size) i.size f) :: x), (hM.setRow 1 rfl hb _).drop, h b c _ hb hroom (fun j hj => ?_)⟩
    · rw [Nat.add_mul, Nat.one_mul] at hj
      simp only [lay]
      by_cases hj' : j < n * i.size
      · rw [if_neg (by omega)]; exact hR0 j hj'
      · rw [if_pos (by omega), hR _ (by omega), show n * i.size + (j - n * i.size) = j by omega]
  · have hle : n * i.size ≤ c * i.size := Nat.mul_le_mul_right _ hnc
    have hb48 : Builtin.nextslicecap (n + 1) c * i.bytes ≤ 281474976710656 := growslice_fits (by omega) (by
      have : (n + 1) * i.bytes ≤ 1048577 * 1000 := Nat.mul_le_mul (by omega) hbs
      omega)
    have hr := run_append_grow (P := P) W t o.type e i z hu hi q2 ⟨b, 0, none⟩ n c (arr (n * i.size) F).toList (by simp [arr_size]) ((hM.ats 1 _ _ _ rfl).list hle) ⟨bn, 0, none⟩ 1 1 (arr i.size f).toList (by simp [arr_size]) hnews (by omega) (by omega) hb48
    have hge := grownCap_ge W (n + 1) c e
    refine .inl ⟨_, _, _, .inl (exec_append ho hs hx hr), kept_mem w L ((W.heap.size, grownCap W (n + 1) c e * i.size, _) :: x), (hM.drew.allocA e _ (grownCap W (n + 1) c e * i.size) ?_).skip.skip, h _ _ _ hM.size hge (fun j hj => ?_)⟩
    · simp only [Array.size_append, List.size_toArray, size_zeroCells, hzs, Array.length_toList, arr_size]
      rw [← Nat.succ_mul, ← Nat.add_mul]
      congr 1; simp only [Nat.succ_eq_add_one]; omega
    · rw [Nat.add_mul, Nat.one_mul] at hj
      by_cases hj' : j < n * i.size
      · rw [← hR0 j hj']
        rw [Array.getElem?_append_left (by simp [arr_size]; omega), Array.getElem?_append_left (by simp [arr_size]; omega), Array.toArray_toList, arr_at hj']
        rfl
      · rw [show j = n * i.size + (j - n * i.size) by omega, ← hR _ (by omega)]
        rw [Array.getElem?_append_left (by simp [arr_size]; omega), Array.getElem?_append_right (by simp [arr_size]), Array.toArray_toList, Array.toArray_toList, arr_size, Nat.add_sub_cancel_left, arr_at (by omega)]
        rfl
end
end Go.Proofs.YthodkbmenndnoaaDoor

/-
  A load, in a drawn region, of a cell that lies below the base: an error's variable.
-/
namespace Go.Proofs.YthodkbmenndnoaaDoor
open Go Go.RowKit Go.BigFrame

section
variable {P : Program} {o : Oper} {a : Act} {w : Base} {L : Blocks} {K : Act → Prop}
/-- A load of a cell that every world of the class holds. -/
theorem quiet_old (ty : TypeId) (x : Operand) (ho : o.op = .load ty x) (b off : Nat) (hx : a.eval x = .pointer (some ⟨b, off, none⟩)) (hT : CellT P ty) (v : Value) (hc : ∀ W, Mem w L W → W.cell? ⟨b, off, none⟩ = some v)
    (h : K (a.put o.dst v)) : o.quiet P a (Mem w L) K := by
  refine ⟨v, fun W hM => ?_, h⟩
  obtain ⟨⟨d, hu, hd⟩, _⟩ := hT
  have hagg : (isAgg ty).run P W = .ok false W := by
    unfold isAgg
    rw [Sem.run_bind, run_underlying hu W]
    cases d <;> simp_all [TypeDesc.isRow]
  have hl : (load ⟨b, off, none⟩).run P W = .ok v W := by simp [load, Sem.run, hc W hM]
  unfold Oper.quietAt execOp
  simp only [ho, hx, Instr.loadAt, Instr.sureAddr, loadVar, Sem.run_bind, Sem.run_pure, Result.andThen_ok, hagg, Bool.false_eq_true, if_false, hl]
  exact ⟨rfl, rfl⟩
end

end Go.Proofs.YthodkbmenndnoaaDoor

/-
  Goats of a herd: impl.membersOf by contract.
-/
namespace Go.Proofs.YthodkbmenndnoaaDoor
open Go Go.RowKit Go.BigFrame

/-- A goat's cells; a herd's. -/
def mem3 (s : ByteArray) (e f : Int) : Nat → Value := fun k => if k = 0 then .string s else if k = 1 then .int .i16 e else .int .u16 f
def gMem (d : Hd) (i : Nat) : Nat → Value := mem3 (d.ss i) (d.es i) (d.fs i)
def sMem (d : Hd) : Nat → Value := fun j => gMem d (j / 3) (j % 3)
theorem sMem_row (d : Hd) (k j : Nat) (h : j < 3) : sMem d (k * 3 + j) = gMem d k j := by
  unfold sMem
  rw [show (k * 3 + j) / 3 = k by omega, show (k * 3 + j) % 3 = j by omega]
theorem mem3_one (s : ByteArray) (e f : Int) (k : Nat) : (mem3 s e f k).oneCell' = true := by
  unfold mem3
  (repeat' split) <;> rfl
theorem mem3_ones {s : ByteArray} {e f : Int} : ∀ k, k < 3 → (mem3 s e f k).oneCell' = true := fun k _ => mem3_one s e f k
theorem member_under : Tryd.prog.underlying 67 = some (.slice 77) := Tryd.underlying67
theorem member_info : (Tryd.prog.info? 77).map (fun i => (i.size, i.zero)) = some (3, some (.agg (arr 3 zMem))) := by kernel_rfl
theorem member_infoB : (Tryd.prog.info? 77).map (fun i => (i.size, i.zero, i.bytes)) = some (3, some (.agg (arr 3 zMem)), 24) := by kernel_rfl
theorem run_member (s : ByteArray) (e f : Int) (W : World) : (Instr.build 77 #[(0, .string s), (1, .int .i16 e), (2, .int .u16 f)]).run Tryd.prog W = .ok (.agg (arr 3 (mem3 s e f))) W := by kernel_rfl
theorem wpList_member {ops : Array Oper} {rest : List Oper} {o : Oper} {a : Act} {W : World} {Q : Exit → Act → World → Prop} (hgd : o.guard = none) (x y z : Operand) (ho : o.op = .build 77 #[(0, x), (1, y), (2, z)]) (s : ByteArray) (e f : Int)
    (hx : a.eval x = .string s) (hy : a.eval y = .int .i16 e) (hz : a.eval z = .int .u16 f)
    (h : wpList Tryd.prog ops Q rest (a.put o.dst (.agg (arr 3 (mem3 s e f)))) W) : wpList Tryd.prog ops Q (o :: rest) a W := by
  refine wpList_plain hgd fun K hK => ?_
  have hr := run_member s e f W
  rw [← hx, ← hy, ← hz] at hr
  unfold Oper.wp execOp
  simp only [ho, List.map_toArray, List.map_cons, List.map_nil, Sem.run_bind, Sem.run_pure, hr, Result.andThen_ok]
  exact hK _ _ h

theorem exec_member {o : Oper} {a : Act} (x y z : Operand) (ho : o.op = .build 77 #[(0, x), (1, y), (2, z)]) (s : ByteArray) (e f : Int)
    (hx : a.eval x = .string s) (hy : a.eval y = .int .i16 e) (hz : a.eval z = .int .u16 f) (W : World) : (execOp a.eval o).run Tryd.prog W = .ok (.value (.agg (arr 3 (mem3 s e f)))) W := by
  have hr := run_member s e f W
  rw [← hx, ← hy, ← hz] at hr
  unfold execOp
  simp only [ho, List.map_toArray, List.map_cons, List.map_nil, Sem.run_bind, Sem.run_pure, hr, Result.andThen_ok]

/-- The goats v of a herd, in a block that is the call's own. -/
def MemsAt (W : World) (a : Option Addr) (n : Nat) (d : Hd) : Prop := n = 0 ∨ ∃ b N F, a = some ⟨b, 0, none⟩ ∧ n * 3 ≤ N ∧ (∀ j, j < n * 3 → F j = sMem d j) ∧ At W b N F
theorem MemsAt.below {W W' : World} {a : Option Addr} {n : Nat} {d : Hd} (h : MemsAt W a n d) (hb : Below W.heap.size W W') : MemsAt W' a n d := by
  rcases h with h | ⟨b, N, F, h1, h2, h3, h4⟩
  · exact .inl h
  · exact .inr ⟨b, N, F, h1, h2, h3, h4.below hb h4.lt⟩
theorem MemsAt.row {W : World} {a : Option Addr} {n : Nat} {d : Hd} (h : MemsAt W a n d) {k : Nat} (hk : k < n) : ∃ b N F, a = some ⟨b, 0, none⟩ ∧ n * 3 ≤ N ∧ (∀ j, j < n * 3 → F j = sMem d j) ∧ (∀ j, j < 3 → F (k * 3 + j) = gMem d k j) ∧ At W b N F := by
  rcases h with h | ⟨b, N, F, h1, h2, h3, h4⟩
  · omega
  · exact ⟨b, N, F, h1, h2, h3, fun j hj => by rw [h3 _ (by omega), sMem_row d k j hj], h4⟩

set_option maxRecDepth 100000 in
set_option maxHeartbeats 2000000 in
theorem membersOf_l (d : Hd) (b1 b2 b3 : Nat) (h1 : d.n1 ≤ 1048576) (h2 : d.n2 = d.n1) (h3 : d.n3 = d.n1) (w : World) (hM0 : Mem w (hdB d b1 b2 b3) w) :
    Calls Tryd.prog 56 #[.agg (arr 3 (hdV d b1 b2 b3))] w fun e w' => ∃ v, e = .returned v ∧ Lst w [] 3 v d.n1 (sMem d) w' := by
  obtain ⟨n, n2, n3, ss, es, fs⟩ := d
  simp only at h1 h2 h3
  subst h2 h3
  have hM := hM0
  simp only [hdB] at hM
  clear hM0
  have a1 : hdV ⟨n3, n3, n3, ss, es, fs⟩ b1 b2 b3 0 = .slice (some ⟨b1, 0, none⟩) n3 n3 := rfl
  have a2 : hdV ⟨n3, n3, n3, ss, es, fs⟩ b1 b2 b3 1 = .slice (some ⟨b2, 0, none⟩) n3 n3 := rfl
  have a3 : hdV ⟨n3, n3, n3, ss, es, fs⟩ b1 b2 b3 2 = .slice (some ⟨b3, 0, none⟩) n3 n3 := rfl
  have hS : sMem ⟨n3, n3, n3, ss, es, fs⟩ = fun j => mem3 (ss (j / 3)) (es (j / 3)) (fs (j / 3)) (j % 3) := rfl
  rw [hS]
  clear hS
  generalize hdV ⟨n3, n3, n3, ss, es, fs⟩ b1 b2 b3 = hv at a1 a2 a3 ⊢
  have hSr : ∀ k j, j < 3 → (fun j => mem3 (ss (j / 3)) (es (j / 3)) (fs (j / 3)) (j % 3)) (k * 3 + j) = mem3 (ss k) (es k) (fs k) j := fun k j hj => sMem_row ⟨n3, n3, n3, ss, es, fs⟩ k j hj
  have HSr := Lib.hid hSr
  clear hSr
  show Calls _ _ _ _ fun e w' => ∃ v, e = .returned v ∧ Lst w [] 3 v n3 _ w'
  generalize (fun j => mem3 (ss (j / 3)) (es (j / 3)) (fs (j / 3)) (j % 3)) = R at HSr ⊢
  have tk_x1 : True := trivial
  go_enter Tryd.func56, Tryd.ntmps56
  go_wp2_with (first | (have _t := tk_x1; refine wpList_box rfl _ _ rfl _ _ rfl hM ?_; intro x1 W' hx1 hM'; clear hM tk_x1; have hM := hM'; clear hM') | (refine wpList_get1 rfl _ _ rfl _ _ rfl hM 0 rfl (cellTab _ rfl) (by omega) _ a1 ?_))
  go_loopw [3, 9] (fun v i wr => ∃ k : Nat, k ≤ n3 ∧ i = .int .i64 k ∧ Lst w [(x1, 3, hv), (b1, n3, vStringS ss), (b2, n3, vInt16S es), (b3, n3, vUint16S fs)] 3 v k R wr) (fun _ i _ => n3 - (intOf i).toNat)
  case atStart => exact ⟨0, by omega, rfl, .inl ⟨rfl, rfl, hM⟩⟩
  case round =>
    clear hM
    obtain ⟨k, hk, rfl, hL⟩ := hrel
    by_cases hlt : k < n3
    · have l2 : (k : Int) < n3 := by omega
      have e1 : vStringS ss k = .string (ss k) := rfl
      have e2 : vInt16S es k = .int .i16 (es k) := rfl
      have e3 : vUint16S fs k = .int .u16 (fs k) := rfl
      have hR1 := Lib.hid (fun j (hj : j < 3) => (HSr.out k j hj).symm)
      generalize ss k = sk at *
      generalize es k = ek at *
      generalize fs k = fk at *
      rcases hL with ⟨rfl, rfl, hM⟩ | ⟨b, c, F, rfl, hbb, hnc, hF, hM⟩
      · have hR0 : Hid (∀ j, j < 3 → mem3 sk ek fk j = R j) := Lib.hid (fun j hj => by have := hR1.out j hj; rwa [Nat.zero_mul, Nat.zero_add] at this)
        go_wp2_with (first | (refine wpList_get1 rfl _ _ rfl _ _ rfl hM 1 rfl (cellTab _ rfl) (by omega) _ e1 ?_))
        ((try simp only [Act.put, List.setIfInBounds_toArray, List.set_cons_succ, List.set_cons_zero]); refine region_reads [0, 1, 2, 3, 4, 5, 6, 7, 8, 9, 10, 11, 12] #[true, true, true, true, true, true, true, true, true, true, true, true, true, false, false, false] 3 (by kernel_rfl) (by kernel_rfl) (by kernel_rfl) hM ?_; clear hM; (repeat (refine qs_plain rfl rfl ?_; first | (refine b_get1 _ _ rfl _ _ rfl 0 rfl (cellTab _ rfl) (by omega) _ (a2) ?_; (simp only [Act.put, List.setIfInBounds_toArray, List.set_cons_succ, List.set_cons_zero])) | (refine b_get1 _ _ rfl _ _ rfl 2 rfl (cellTab _ rfl) (by omega) _ (e2) ?_; (simp only [Act.put, List.setIfInBounds_toArray, List.set_cons_succ, List.set_cons_zero])) | (refine b_get1 _ _ rfl _ _ rfl 0 rfl (cellTab _ rfl) (by omega) _ (a3) ?_; (simp only [Act.put, List.setIfInBounds_toArray, List.set_cons_succ, List.set_cons_zero])) | (refine b_get1 _ _ rfl _ _ rfl 3 rfl (cellTab _ rfl) (by omega) _ (e3) ?_; (simp only [Act.put, List.setIfInBounds_toArray, List.set_cons_succ, List.set_cons_zero])) | (refine b_val ?_; refine ⟨_, fun W => exec_member _ _ _ rfl sk ek fk rfl rfl rfl W, ?_⟩; (simp only [Act.put, List.setIfInBounds_toArray, List.set_cons_succ, List.set_cons_zero])) | (refine b_val ?_; apply Exists.intro; refine ⟨fun W => ?_, ?_⟩; (go_simp; rfl); (simp only [Act.put, List.setIfInBounds_toArray, List.set_cons_succ, List.set_cons_zero])))); (with_reducible refine qs_nil ?_))
        (refine mix_one (i := 13) (by kernel_rfl) rfl (by kernel_rfl) rfl ?_)
        (refine step_slice1 _ _ _ rfl 3 (mem3 sk ek fk) rfl _ member_under member_info (by omega) (by omega) ?_; intro l1 hl1; (simp only [Act.put, List.setIfInBounds_toArray, List.set_cons_succ, List.set_cons_zero]))
        (refine mix_one (i := 14) (by kernel_rfl) rfl (by kernel_rfl) rfl ?_)
        (refine step_push0 _ _ _ rfl _ 3 _ _ member_under member_infoB rfl (by omega) rfl _ _ rfl R hR0.out ?_; intro bL cL FL hbL hcL hFL; (simp only [Act.put, List.setIfInBounds_toArray, List.set_cons_succ, List.set_cons_zero]))
        (refine mix_one (i := 15) (by kernel_rfl) rfl (by kernel_rfl) rfl ?_)
        (refine step_val ?_; apply Exists.intro; refine ⟨fun W => ?_, ?_⟩; (go_simp; rfl); (simp only [Act.put, List.setIfInBounds_toArray, List.set_cons_succ, List.set_cons_zero]))
        (refine mix_end (by kernel_rfl) ?_; intro W' hM; simp only [List.cons_append, List.nil_append] at hM)
        go_wp2
        go_roundw
        case rel => exact ⟨1, by omega, by go_num, .inr ⟨bL, cL, FL, rfl, hbL, hcL, hFL, hM⟩⟩
        case measure => simp [intOf]; omega
      · have hn : k ≤ 1048576 := by omega
        have HF := Lib.hid hF
        clear hF
        go_wp2_with (first | (refine wpList_get1 rfl _ _ rfl _ _ rfl hM 2 rfl (cellTab _ rfl) (by omega) _ e1 ?_))
        ((try simp only [Act.put, List.setIfInBounds_toArray, List.set_cons_succ, List.set_cons_zero]); refine region_readsX [0, 1, 2, 3, 4, 5, 6, 7, 8, 9, 10, 11, 12] #[true, true, true, true, true, true, true, true, true, true, true, true, true, false, false, false] 3 [(b, c * 3, F)] (by kernel_rfl) (by kernel_rfl) (by kernel_rfl) hM ?_; clear hM; (repeat (refine qs_plain rfl rfl ?_; first | (refine b_get1 _ _ rfl _ _ rfl 0 rfl (cellTab _ rfl) (by omega) _ (a2) ?_; (simp only [Act.put, List.setIfInBounds_toArray, List.set_cons_succ, List.set_cons_zero])) | (refine b_get1 _ _ rfl _ _ rfl 2 rfl (cellTab _ rfl) (by omega) _ (e2) ?_; (simp only [Act.put, List.setIfInBounds_toArray, List.set_cons_succ, List.set_cons_zero])) | (refine b_get1 _ _ rfl _ _ rfl 0 rfl (cellTab _ rfl) (by omega) _ (a3) ?_; (simp only [Act.put, List.setIfInBounds_toArray, List.set_cons_succ, List.set_cons_zero])) | (refine b_get1 _ _ rfl _ _ rfl 3 rfl (cellTab _ rfl) (by omega) _ (e3) ?_; (simp only [Act.put, List.setIfInBounds_toArray, List.set_cons_succ, List.set_cons_zero])) | (refine b_val ?_; refine ⟨_, fun W => exec_member _ _ _ rfl sk ek fk rfl rfl rfl W, ?_⟩; (simp only [Act.put, List.setIfInBounds_toArray, List.set_cons_succ, List.set_cons_zero])) | (refine b_val ?_; apply Exists.intro; refine ⟨fun W => ?_, ?_⟩; (go_simp; rfl); (simp only [Act.put, List.setIfInBounds_toArray, List.set_cons_succ, List.set_cons_zero])))); (with_reducible refine qs_nil ?_))
        (refine mix_one (i := 13) (by kernel_rfl) rfl (by kernel_rfl) rfl ?_)
        (refine step_slice1 _ _ _ rfl 3 (mem3 sk ek fk) rfl _ member_under member_info (by omega) (by omega) ?_; intro l1 hl1; (simp only [Act.put, List.setIfInBounds_toArray, List.set_cons_succ, List.set_cons_zero]))
        (refine mix_one (i := 14) (by kernel_rfl) rfl (by kernel_rfl) rfl ?_)
        (refine step_push1 _ _ _ rfl _ 3 _ _ member_under member_infoB rfl (by omega) _ _ _ _ rfl hbb hnc hn _ _ rfl mem3_ones R HF.out hR1.out ?_; intro bL cL FL hbL hcL hFL; (simp only [Act.put, List.setIfInBounds_toArray, List.set_cons_succ, List.set_cons_zero]))
        (refine mix_one (i := 15) (by kernel_rfl) rfl (by kernel_rfl) rfl ?_)
        (refine step_val ?_; apply Exists.intro; refine ⟨fun W => ?_, ?_⟩; (go_simp; rfl); (simp only [Act.put, List.setIfInBounds_toArray, List.set_cons_succ, List.set_cons_zero]))
        (refine mix_end (by kernel_rfl) ?_; intro W' hM; simp only [List.cons_append, List.nil_append] at hM)
        go_wp2
        go_roundw
        case rel => exact ⟨k + 1, by omega, by go_num, .inr ⟨bL, cL, FL, rfl, hbL, hcL, hFL, hM⟩⟩
        case measure => simp [intOf]; omega
    · obtain rfl : k = n3 := by omega
      go_wp2
      go_ret
      exact ⟨_, rfl, hL.only⟩
end Go.Proofs.YthodkbmenndnoaaDoor

/-
  PLAIN LAWS over any program: loads out of a block that lies in memory (At), in a plain region, and with reads at any places.
-/
namespace Go.Proofs.YthodkbmenndnoaaDoor
open Go Go.RowKit

section
variable {P : Program} {ops : Array Oper} {rest : List Oper} {o : Oper} {a : Act} {w : Base} {W : World} {Q : Exit → Act → World → Prop} {L : Blocks} {K : Act → Prop}
/-- A part by value. -/
theorem wpList_getAt (hgd : o.guard = none) (ty : TypeId) (x : Operand) (ho : o.op = .load ty x) (b off : Nat) (hx : a.eval x = .pointer (some ⟨b, off, none⟩))
    {n : Nat} {f : Nat → Value} (hA : At W b n f) {m : Nat} (hT : RowT P ty m) (hle : off + m ≤ n) (g : Nat → Value) (hg : ∀ k, k < m → f (off + k) = g k)
    (h : wpList P ops Q rest (a.put o.dst (.agg (arr m g))) W) : wpList P ops Q (o :: rest) a W := by
  obtain ⟨⟨d, hu, hd⟩, hm⟩ := hT
  obtain ⟨t, ht⟩ := hA
  have hr : W.rangeAt b off (arr m (fun k => f (off + k))).toList := by
    rw [← arr_extract hle]; exact World.rangeAt_of_block ht off m
  refine wpList_load_mid hgd ty x ho b off hx (arr m (fun k => f (off + k))).toList d hr hu hd (by rw [hm]; simp [arr_size]) ?_
  rw [arr_congr hg]
  simpa using h
/-- One cell. -/
theorem wpList_getAt1 (hgd : o.guard = none) (ty : TypeId) (x : Operand) (ho : o.op = .load ty x) (b off : Nat) (hx : a.eval x = .pointer (some ⟨b, off, none⟩))
    {n : Nat} {f : Nat → Value} (hA : At W b n f) (hT : CellT P ty) (hle : off < n) (v : Value) (hv : f off = v)
    (h : wpList P ops Q rest (a.put o.dst v) W) : wpList P ops Q (o :: rest) a W := by
  refine wpList_plain hgd fun K hK => ?_
  have hl := run_load_cell (P := P) hT ((hA.cell hle).trans (congrArg some hv))
  unfold Oper.wp execOp
  simp only [ho, hx, Instr.loadAt, Instr.sureAddr, Sem.run_bind, Sem.run_pure, Result.andThen_ok, hl]
  exact hK _ _ h
end
end Go.Proofs.YthodkbmenndnoaaDoor

/-
  Names as keys of a map; impl.flockOf by contract.
-/
namespace Go.Proofs.YthodkbmenndnoaaDoor
open Go Go.RowKit Go.BigFrame Go.Maps

def kvS (s : ByteArray) : Value := .string s
theorem name_told (s : ByteArray) (_h : s.size ≤ maxLen) : ∃ l, keyOf Tryd.prog 9 (kvS s) = some l := by
  unfold kvS keyOf
  simp only [Tryd.underlying9]
  unfold mapKey
  simp only [Tryd.underlying9]
  rw [if_pos _h]
  exact ⟨_, rfl⟩
theorem nameT : KeyTold Tryd.prog 9 kvS (fun s => s.size ≤ maxLen) := ⟨string_keyed Tryd.underlying9, name_told, fun h => by unfold kvS at h; simpa using h⟩
theorem puts_under : Tryd.prog.underlying 68 = some (.map 9 120) := Tryd.underlying68
theorem puts_zero (W : World) : (zeroValue 120).run Tryd.prog W = .ok .nilFunc W := by kernel_rfl
/-- What puts the i-th goat into a set. -/
def putV (p : Nat) : Value := .func (.func 104) #[.int .u16 (p : Int)] #[]
def putsU (d : Hd) : Nat → ByteArray → Value
  | 0 => fun _ => undef
  | i + 1 => updK (putsU d i) (d.ss i) (putV (2 ^ i))
def flkV (a : Option Addr) (n c m : Nat) : Nat → Value := fun k => if k = 0 then .slice a n c else .map (some m)
theorem run_flock (a : Option Addr) (n c m : Nat) (W : World) : (Instr.build 70 #[(0, .slice a n c), (1, .map (some m))]).run Tryd.prog W = .ok (.agg (arr 2 (flkV a n c m))) W := by kernel_rfl
theorem wpList_flock {ops : Array Oper} {rest : List Oper} {o : Oper} {a : Act} {W : World} {Q : Exit → Act → World → Prop} (hgd : o.guard = none) (x y : Operand) (ho : o.op = .build 70 #[(0, x), (1, y)]) (b : Option Addr) (n c m : Nat)
    (hx : a.eval x = .slice b n c) (hy : a.eval y = .map (some m))
    (h : wpList Tryd.prog ops Q rest (a.put o.dst (.agg (arr 2 (flkV b n c m)))) W) : wpList Tryd.prog ops Q (o :: rest) a W := by
  refine wpList_plain hgd fun K hK => ?_
  have hr := run_flock b n c m W
  rw [← hx, ← hy] at hr
  unfold Oper.wp execOp
  simp only [ho, List.map_toArray, List.map_cons, List.map_nil, Sem.run_bind, Sem.run_pure, hr, Result.andThen_ok]
  exact hK _ _ h
theorem flkV_one (a : Option Addr) (n c m k : Nat) : (flkV a n c m k).oneCell' = true := by
  unfold flkV
  split <;> rfl

theorem keysU_nodup (d : Hd) : ∀ n, (keysU d n).Nodup
  | 0 => by simp [keysU]
  | n + 1 => addK_nodup (keysU_nodup d n) _
theorem gMem_one (d : Hd) (i k : Nat) : (gMem d i k).oneCell' = true := mem3_one _ _ _ k
set_option maxRecDepth 100000 in
set_option maxHeartbeats 2000000 in
theorem flockOf_any (d : Hd) (a : Option Addr) (n c : Nat) (hn : n ≤ 14) (hs : ∀ i, i < n → (d.ss i).size ≤ maxLen) (w : World) (hA : MemsAt w a n d) :
    Calls Tryd.prog 55 #[.slice a n c] w fun e w' => ∃ m, e = .returned (.agg (arr 2 (flkV a n c m))) ∧ w.heap.size ≤ m ∧ w'.heap[m]? = some (mapO kvS (keysU d n) (putsU d n)) ∧ Below w.heap.size w w' := by
  have hM := Mem.nil w
  have HA := Lib.hid hA
  have HS := Lib.hid hs
  clear hA hs
  have tk_b1 : True := trivial; have tk_b2 : True := trivial; have tk_m1 : True := trivial; have tk_s1 : True := trivial
  go_enter Tryd.func55, Tryd.ntmps55
  go_wp2_with (first | (have _t := tk_b1; refine wpList_zero rfl _ rfl (zeroTab _ _ _ rfl) hM ?_; intro b1 W' hb1 hM'; clear hM tk_b1; have hM := hM'; clear hM') | (have _t := tk_m1; refine wpList_makeMap (kv := kvS) rfl _ rfl (putsU d 0) hM ?_; intro m W' hm0 hm1 hM'; clear hM tk_m1; have hM := hM'; clear hM') | (refine wpList_flock rfl _ _ rfl a n c m rfl rfl ?_) | (have _t := tk_b2; refine wpList_zero rfl _ rfl (zeroTab _ _ _ rfl) hM ?_; intro b2 W' hb2 hM'; clear hM tk_b2; have hM := hM'; clear hM') | (have _t := tk_s1; refine wpList_lay rfl _ _ _ rfl _ _ rfl _ _ rfl hM 0 rfl (by assumption) (rowTab _ _ rfl) (by omega) (fun k _ => flkV_one _ _ _ _ k) ?_; intro W' hM'; have hM2 := hM'.re 0 rfl (flkV a n c m) (fun k hk => by simp [lay, hk]); simp only [List.set_cons_zero] at hM2; clear hM hM' tk_s1; have hM := hM2; clear hM2))
  go_loopw [11] (fun i wr => ∃ k : Nat, k ≤ n ∧ i = .int .i64 k ∧ Mem ((Base.of w).with m (mapO kvS (keysU d k) (putsU d k)) rfl) [(b2, 2, flkV a n c m), (b1, 2, zFlk)] wr) (fun i _ => n - (intOf i).toNat)
  case atStart => exact ⟨0, by omega, rfl, hM⟩
  case round =>
    clear hM
    obtain ⟨k, hk, rfl, hM⟩ := hrel
    by_cases hlt : k < n
    · have l2 : (k : Int) < n := by omega
      have hb : Below w.heap.size w wr := hM.good.1
      obtain ⟨bm, N, F, rfl, hN, -, hF, hAt⟩ := (HA.out.below hb).row hlt
      obtain ⟨p, hp⟩ : ∃ p, 2 ^ k = p := ⟨_, rfl⟩
      have hsk : (d.ss k).size ≤ maxLen := HS.out k hlt
      have hks : ∀ s, s ∈ keysU d k → s.size ≤ maxLen := fun s hs => by
        obtain ⟨i, hi, rfl⟩ := keysU_mem.1 hs
        exact HS.out i (by omega)
      have g0 : gMem d k 0 = .string (d.ss k) := rfl
      have f1 : flkV (some ⟨bm, 0, none⟩) n c m 1 = .map (some m) := rfl
      have HN := Lib.hid (keysU_nodup d k)
      have HK := Lib.hid hks
      have HF := Lib.hid hF
      have HT := Lib.hid hAt
      clear hks hF hAt hb
      have tk_b3 : True := trivial; have tk_s1 : True := trivial
      go_wp2_with (first | (refine wpList_getAt rfl _ _ rfl _ _ rfl HT.out (rowTab _ _ rfl) (by omega) (gMem d k) HF.out ?_) | (have _t := tk_b3; refine wpList_zero rfl _ rfl (zeroTab _ _ _ rfl) hM ?_; intro b3 W' hb3 hM'; clear hM tk_b3; have hM := hM'; clear hM') | (have _t := tk_s1; refine wpList_lay rfl _ _ _ rfl _ _ rfl _ _ rfl hM 0 rfl (by assumption) (rowTab _ _ rfl) (by omega) (fun j _ => gMem_one d k j) ?_; intro W' hM'; have hM2 := hM'.re 0 rfl (gMem d k) (fun k hk => by simp [lay, hk]); simp only [List.set_cons_zero] at hM2; clear hM hM' tk_s1; have hM := hM2; clear hM2))
      ((try simp only [Act.put, List.setIfInBounds_toArray, List.set_cons_succ, List.set_cons_zero]); refine region_head_mem (m := 7) (by kernel_rfl) (by kernel_rfl) hM ?_; clear hM; simp only [List.take_succ_cons, List.take_zero, List.drop_succ_cons, List.drop_zero]; (repeat (first | go_big_quiet_skip | (go_big_quiet_want; first | (refine quiet_get1 _ _ rfl _ _ rfl 1 rfl (cellTab _ rfl) (by omega) _ (f1) ?_; (simp only [Act.put, List.setIfInBounds_toArray, List.set_cons_succ, List.set_cons_zero]); go_big_quiet_on) | (refine quiet_get1 _ _ rfl _ _ rfl 0 rfl (cellTab _ rfl) (by omega) _ (g0) ?_; (simp only [Act.put, List.setIfInBounds_toArray, List.set_cons_succ, List.set_cons_zero]); go_big_quiet_on) | (refine quiet_call ?_; apply Exists.intro; apply Exists.intro; apply Exists.intro; refine ⟨fun W => ?_, fun W hM => ?_, ?_⟩; (go_simp; exact ⟨rfl, rfl⟩); (exact alone_any k (by omega) p hp W); (simp only [Act.put, List.setIfInBounds_toArray, List.set_cons_succ, List.set_cons_zero]); go_big_quiet_on) | (refine quiet_val ?_; apply Exists.intro; refine ⟨fun W => ?_, ?_⟩; (go_simp; rfl); (simp only [Act.put, List.setIfInBounds_toArray, List.set_cons_succ, List.set_cons_zero]); go_big_quiet_on)))); (with_reducible refine wpQuiet_nil ?_); intro W' hM)
      go_wp2_with (first | (refine wpList_mapSet rfl _ _ _ _ rfl rfl (d.ss k) rfl (putV p) rfl nameT puts_under hM (lets_of hm0) HN.out HK.out hsk ?_; intro W' hM'; clear hM; have hM := hM'; clear hM'))
      go_roundw
      case rel => exact ⟨k + 1, by omega, by go_num, by subst hp; exact hM.drop⟩
      case measure => simp [intOf]; omega
    · obtain rfl : k = n := by omega
      go_wp2_with (first | (refine wpList_get rfl _ _ rfl _ _ rfl hM 0 rfl (rowTab _ _ rfl) (by omega) ?_) | (refine wpList_lay rfl _ _ _ rfl _ _ rfl _ _ rfl hM 1 rfl (by assumption) (rowTab _ _ rfl) (by omega) (fun k _ => by rw [Nat.zero_add]; exact flkV_one _ _ _ _ k) ?_; intro W' hM'; clear hM; have hM := hM'; clear hM'; simp only [List.set] at hM))
      have hA1 := (hM.ats 1 _ _ _ rfl).congr (g := flkV a k c m) (fun j hj => by simp [lay, hj])
      exact bodyPost_ret (results_at rfl _ rfl hA1 (rowTab _ _ rfl)) rfl ⟨m, rfl, hm0, hM.good.2, hM.good.1⟩
end Go.Proofs.YthodkbmenndnoaaDoor

