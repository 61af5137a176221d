/-
  Several texts in one: Mix.
-/
import Derived.StillTail
import Derived.Deep.Quiet
import Derived.Test.YtofgkmoilncfpaaDoorP1
/-
  PLAIN LAW: a region that draws its order and holds reads and quiet calls (each yields one value, whatever lies beside what it reads) and, among them in whatever order, a short thread that makes new blocks and writes into them: reads and calls may be taken first.
-/
namespace Go.Proofs.YtofgkmoilncfpaaDoor
open Go Go.RowKit
variable {P : Program} {ops : Array Oper} {C D : World → Prop}

/-- One value in every world of the class; a call lets lie all that lay. -/
def qB (P : Program) (o : Oper) (a : Act) (C : World → Prop) (K : Act → Prop) : Prop := ∃ v, (∀ W, C W → o.quietAt P a (Below W.heap.size W) W v) ∧ K (a.put o.dst v)
/-- What is known of a world, of the class, and kept by what lets lie all that lay. -/
structure Kept (C D : World → Prop) : Prop where
  sub : ∀ W, D W → C W
  on : ∀ W W', D W → Below W.heap.size W W' → D W'
/-- One operation of the thread: a value in its place, another world, another thing known of it. -/
def stepT (P : Program) (C : World → Prop) (o : Oper) (a : Act) (D : World → Prop) (K : Act → (World → Prop) → Prop) : Prop :=
  ∀ W, D W → (∃ u D' W', ((execOp a.eval o).run P W = .ok (.value u) W' ∨ ((execOp a.eval o).run P W = .ok .skip W' ∧ u = undef)) ∧ Kept C D' ∧ D' W' ∧ K (a.put o.dst u) D') ∨
    (∃ f args, (execOp a.eval o).run P W = .ok (.enter f args) W ∧ Calls P f args W fun e W' => ∃ u D', e = .returned u ∧ Kept C D' ∧ D' W' ∧ K (a.put o.dst u) D')
/-- Operation i comes up: one of the first n is a read, the others are the thread. -/
def mixOp (P : Program) (ops : Array Oper) (C : World → Prop) (n i : Nat) (a : Act) (D : World → Prop) (K : Act → (World → Prop) → Prop) : Prop :=
  ∃ o, ops[i]? = some o ∧ (if i < n then (if Region.wanted o (yielded ops a.tmps) then qB P o a C (fun a' => K a' D) else K (a.put o.dst undef) D) else o.guard = none ∧ stepT P C o a D K)
def mix (P : Program) (ops : Array Oper) (C : World → Prop) (n : Nat) (Q : Exit → Act → World → Prop) : Nat → Array Bool → Act → (World → Prop) → Prop
  | 0, s, a, D => Region.ready .any ops s = [] ∧ ∀ W, D W → Q .normal a W
  | f + 1, s, a, D => Region.ready .any ops s ≠ [] ∧ ∀ i ∈ Region.ready .any ops s, mixOp P ops C n i a D (mix P ops C n Q f (s.setIfInBounds i true))

theorem wpOp_of_mixOp {n i : Nat} {a : Act} {W : World} {K : Act → (World → Prop) → Prop} {K' : Act → World → Prop} {Q : Exit → Act → World → Prop} (hD : Kept C D) (hW : D W)
    (h : ∀ a D W, Kept C D → D W → K a D → K' a W) (hh : mixOp P ops C n i a D K) : wpOp P ops Q i K' a W := by
  obtain ⟨o, ho, hh⟩ := hh
  unfold wpOp
  simp only [ho]
  by_cases hn : i < n
  · rw [if_pos hn] at hh
    by_cases hw : Region.wanted o (yielded ops a.tmps) = true
    · rw [if_pos hw] at hh ⊢
      obtain ⟨v, h1, h2⟩ := hh
      have h3 := h1 W (hD.sub W hW)
      refine .inl ?_
      unfold Oper.quietAt at h3
      unfold Oper.wp
      generalize (execOp a.eval o).run P W = r at *
      cases r with
      | ok x w' =>
        cases x <;> simp only [Oper.quietUpon] at h3 <;> simp only [Oper.upon]
        case value => obtain ⟨rfl, rfl⟩ := h3; exact h _ _ _ hD hW h2
        case skip => obtain ⟨rfl, rfl⟩ := h3; exact h _ _ _ hD hW h2
        case enter f args =>
          obtain ⟨rfl, hc⟩ := h3
          exact hc.mono fun e w'' ⟨he, hb⟩ => by subst he; exact h _ _ _ hD (hD.on _ _ hW hb) h2
      | halt x w' => simp only [Oper.quietUpon] at h3
    · rw [if_neg hw] at hh ⊢
      exact h _ _ _ hD hW hh
  · rw [if_neg hn] at hh
    obtain ⟨hg, hs⟩ := hh
    have hw : Region.wanted o (yielded ops a.tmps) = true := by simp [Region.wanted, hg]
    rw [if_pos hw]
    refine .inl ?_
    unfold Oper.wp
    rcases hs W hW with ⟨u, D', W', hr, hk, hd, hK⟩ | ⟨f, args, hr, hc⟩
    · rcases hr with hr | ⟨hr, rfl⟩ <;> rw [hr] <;> exact h _ _ _ hk hd hK
    · rw [hr]
      exact hc.mono fun e w'' ⟨u, D', he, hk, hd, hK⟩ => by subst he; exact h _ _ _ hk hd hK

theorem any_of_mix {n : Nat} {Q : Exit → Act → World → Prop} (f : Nat) : ∀ s a D W, Kept C D → D W → mix P ops C n Q f s a D → wpAny P .any ops Q f s a W := by
  induction f with
  | zero => intro s a D W _ hW h; exact ⟨h.1, h.2 W hW⟩
  | succ f ih =>
    intro s a D W hD hW h
    exact ⟨fun e => absurd e h.1, fun i hi => wpOp_of_mixOp hD hW (fun a' D' W' hD' hW' h' => ih _ a' D' W' hD' hW' h') (h.2 i hi)⟩

/-- Operation o has the value v in state a. -/
def gives (P : Program) (ops : Array Oper) (C : World → Prop) (o : Oper) (v : Value) (a : Act) : Prop :=
  (Region.wanted o (yielded ops a.tmps) = true ∧ ∀ W, C W → o.quietAt P a (Below W.heap.size W) W v) ∨ (Region.wanted o (yielded ops a.tmps) = false ∧ v = undef)
theorem gives.other {o : Oper} {v : Value} {a : Act} (hs : ∀ cs b, o.op ≠ .select cs b) (h : gives P ops C o v a) (dst : Option Tmp) (u : Value) (hd : ∀ d, dst = some d → d ∉ o.looksAt ops) : gives P ops C o v (a.put dst u) := by
  unfold gives Oper.quietAt at *
  rw [execOp_put o hs a dst u hd, wanted_put o a dst u hd]
  exact h
theorem gives.op {n i : Nat} {o : Oper} {v : Value} {a : Act} {K : Act → (World → Prop) → Prop} (hn : i < n) (ho : ops[i]? = some o) (h : gives P ops C o v a) (hK : K (a.put o.dst v) D) : mixOp P ops C n i a D K := by
  refine ⟨o, ho, ?_⟩
  rw [if_pos hn]
  rcases h with ⟨hw, hv⟩ | ⟨hw, rfl⟩
  · rw [if_pos hw]; exact ⟨v, hv, hK⟩
  · rw [if_neg (by rw [hw]; exact Bool.false_ne_true)]; exact hK

theorem mixOp_past {n j : Nat} {oi oj : Oper} {v : Value} {a : Act} {K K' : Act → (World → Prop) → Prop} (hoj : ops[j]? = some oj) (hap : oi.apart ops oj = true) (hsi : ∀ cs b, oi.op ≠ .select cs b) (hsj : ∀ cs b, oj.op ≠ .select cs b)
    (hg : gives P ops C oi v a) (hK : ∀ u D', gives P ops C oi v (a.put oj.dst u) → K ((a.put oj.dst u).put oi.dst v) D' → K' (a.put oj.dst u) D') (h : mixOp P ops C n j (a.put oi.dst v) D K) : mixOp P ops C n j a D K' := by
  obtain ⟨h1, h2, h3⟩ := Oper.apart_spec hap
  have sw : ∀ u, (a.put oi.dst v).put oj.dst u = (a.put oj.dst u).put oi.dst v := fun u => Act.put_comm a v u h2
  have keep : ∀ u, gives P ops C oi v (a.put oj.dst u) := fun u => hg.other hsi _ u h3
  obtain ⟨o, ho, h⟩ := h
  obtain rfl : oj = o := Option.some.inj (hoj.symm.trans ho)
  refine ⟨oj, hoj, ?_⟩
  by_cases hn : j < n
  · rw [if_pos hn] at h ⊢
    rw [wanted_put oj a oi.dst v h1] at h
    by_cases hw : Region.wanted oj (yielded ops a.tmps) = true
    · rw [if_pos hw] at h ⊢
      obtain ⟨u, hu, hk⟩ := h
      refine ⟨u, fun W hW => ?_, hK u D (keep u) (by rw [← sw]; exact hk)⟩
      have := hu W hW
      unfold Oper.quietAt at *
      rwa [execOp_put oj hsj a oi.dst v h1] at this
    · rw [if_neg hw] at h ⊢
      exact hK _ D (keep _) (by rw [← sw]; exact h)
  · rw [if_neg hn] at h ⊢
    refine ⟨h.1, fun W hW => ?_⟩
    rcases h.2 W hW with ⟨u, D', W', hr, hk, hd, hh⟩ | ⟨f, args, hr, hc⟩
    · rw [execOp_put oj hsj a oi.dst v h1] at hr
      exact .inl ⟨u, D', W', hr, hk, hd, hK u D' (keep u) (by rw [← sw]; exact hh)⟩
    · rw [execOp_put oj hsj a oi.dst v h1] at hr
      exact .inr ⟨f, args, hr, hc.mono fun e w'' ⟨u, D', he, hk, hd, hh⟩ => ⟨u, D', he, hk, hd, hK u D' (keep u) (by rw [← sw]; exact hh)⟩⟩

theorem mix_first {n i : Nat} {oi : Oper} {v : Value} {Q : Exit → Act → World → Prop} (hin : i < n) (hoi : ops[i]? = some oi) (hsel : ∀ (j : Nat) (o : Oper) cs b, ops[j]? = some o → o.op ≠ .select cs b) (f : Nat) :
    ∀ s a D, (∀ j oj, ops[j]? = some oj → j ≠ i → s.getD j true = false → (∀ e ∈ oj.after, Region.binds .any e = true → e.on ≠ i) → oi.apart ops oj = true) →
      i ∈ Region.ready .any ops s → gives P ops C oi v a → mix P ops C n Q f (s.setIfInBounds i true) (a.put oi.dst v) D → mix P ops C n Q (f + 1) s a D := by
  induction f with
  | zero =>
    intro s a D _ hr hg H
    refine ⟨List.ne_nil_of_mem hr, fun j hj => ?_⟩
    by_cases e : j = i
    · subst e; exact hg.op hin hoi H
    · have := ready_mono hj e
      rw [H.1] at this; cases this
  | succ f ih =>
    intro s a D hfree hr hg H
    refine ⟨List.ne_nil_of_mem hr, fun j hj => ?_⟩
    by_cases e : j = i
    · subst e; exact hg.op hin hoi H
    obtain ⟨hju, oj, hoj, hdone⟩ := mem_ready.1 hj
    have hfj := hfree j oj hoj e hju fun d hd hb he => by
      have h1 := hdone d hd hb
      rw [he, getD_both (mem_ready.1 hr).1] at h1
      cases h1
    refine mixOp_past hoj hfj (fun cs b => hsel i oi cs b hoi) (fun cs b => hsel j oj cs b hoj) hg (fun u D' hg' h' => ?_) (H.2 j (ready_mono hj e))
    refine ih _ _ D' (fun k ok hk hki hku hno => hfree k ok hk hki ?_ hno) (ready_mono hr (Ne.symm e)) hg' ?_
    · by_cases ejk : j = k
      · subst ejk; exact hju
      · rwa [getD_set_ne true ejk] at hku
    · rw [Array.setIfInBounds_comm _ _ e]; exact h'

/-- The first operations one by one. -/
def wpB (P : Program) (ops : Array Oper) (C : World → Prop) (R : Act → Prop) : List Oper → Act → Prop
  | [], a => R a
  | o :: rest, a => if Region.wanted o (yielded ops a.tmps) then qB P o a C (wpB P ops C R rest) else wpB P ops C R rest (a.put o.dst undef)
/-- The thread's one by one. -/
def thr (P : Program) (C : World → Prop) (Q : Exit → Act → World → Prop) : List Oper → Act → (World → Prop) → Prop
  | [], a, D => ∀ W, D W → Q .normal a W
  | o :: rest, a, D => o.guard = none ∧ stepT P C o a D (thr P C Q rest)

theorem mix_of_thr {n : Nat} {Q : Exit → Act → World → Prop} (l : List Oper) : ∀ (k : Nat) s a D, n ≤ k → (∀ j, l[j]? = ops[k + j]?) → Region.seqB .any ops l.length k s = true → thr P C Q l a D → mix P ops C n Q l.length s a D := by
  induction l with
  | nil => intro k s a D _ _ hB h; exact ⟨by simpa [Region.seqB] using hB, h⟩
  | cons o l ih =>
    intro k s a D hnk hl hB h
    have h0 : ops[k]? = some o := by simpa using (hl 0).symm
    simp only [List.length_cons, Region.seqB, Bool.and_eq_true, decide_eq_true_eq] at hB
    refine ⟨by rw [hB.1]; simp, fun i hi => ?_⟩
    rw [hB.1] at hi
    obtain rfl : i = k := by simpa using hi
    refine ⟨o, h0, ?_⟩
    rw [if_neg (by omega)]
    refine ⟨h.1, fun W hW => ?_⟩
    have hj : ∀ j, l[j]? = ops[i + 1 + j]? := fun j => by
      have := hl (j + 1); simpa [Nat.add_assoc, Nat.add_comm 1 j] using this
    rcases h.2 W hW with ⟨u, D', W', hr, hk, hd, hh⟩ | ⟨f, args, hr, hc⟩
    · exact .inl ⟨u, D', W', hr, hk, hd, ih (i + 1) _ _ D' (by omega) hj hB.2 hh⟩
    · exact .inr ⟨f, args, hr, hc.mono fun e w'' ⟨u, D', he, hk, hd, hh⟩ => ⟨u, D', he, hk, hd, ih (i + 1) _ _ D' (by omega) hj hB.2 hh⟩⟩

theorem mix_lex {n : Nat} {Q : Exit → Act → World → Prop} {t : List Oper} (hsel : Region.noSelect ops = true) (ht : ∀ j, t[j]? = ops[n + j]?) (l : List Oper) :
    ∀ (k : Nat) (s : Array Bool) (a : Act), (∀ j, j < l.length → l[j]? = ops[k + j]?) → k + l.length = n → Region.lexHead .any ops t.length l.length k s = true →
      wpB P ops C (fun a' => thr P C Q t a' D) l a → mix P ops C n Q (l.length + t.length) s a D := by
  induction l with
  | nil =>
    intro k s a _ hk hB h
    obtain rfl : k = n := by simpa using hk
    rw [List.length_nil, Nat.zero_add]
    exact mix_of_thr t k s a D (Nat.le_refl _) ht (by simpa [Region.lexHead] using hB) h
  | cons o l ih =>
    intro k s a hl hk hB h
    have h0 : ops[k]? = some o := by simpa using (hl 0 (by simp)).symm
    simp only [List.length_cons, Region.lexHead, Bool.and_eq_true] at hB hk
    have hr : k ∈ Region.ready .any ops s := by simpa using hB.1.1
    have hv : ∃ v, gives P ops C o v a ∧ wpB P ops C (fun a' => thr P C Q t a' D) l (a.put o.dst v) := by
      unfold wpB at h
      by_cases hw : Region.wanted o (yielded ops a.tmps) = true
      · rw [if_pos hw] at h; obtain ⟨v, h1, h2⟩ := h; exact ⟨v, .inl ⟨hw, h1⟩, h2⟩
      · rw [if_neg hw] at h; exact ⟨undef, .inr ⟨by simpa using hw, rfl⟩, h⟩
    obtain ⟨v, hg, hK⟩ := hv
    rw [List.length_cons, show l.length + 1 + t.length = (l.length + t.length) + 1 by omega]
    refine mix_first (by omega) h0 (Region.noSelect_spec hsel) _ s a D (Region.free_spec h0 hB.1.2) hr hg ?_
    refine ih (k + 1) _ _ (fun j hj => ?_) (by omega) hB.2 hK
    have := hl (j + 1) (by simp; omega)
    simpa [Nat.add_assoc, Nat.add_comm 1 j] using this

def mixB (ops : Array Oper) (n : Nat) : Bool := Region.noSelect ops && decide (n ≤ ops.size) && Region.lexHead .any ops (ops.size - n) n 0 (Array.replicate ops.size false)

theorem kept_mem (w : Base) (L x : Blocks) : Kept (Mem w L) (Mem w (x ++ L)) where
  sub := fun W h => by
    induction x with
    | nil => exact h
    | cons p x ih => exact ih h.drop
  on := fun W W' h hb => h.call hb

theorem any_mix {Q : Exit → Act → World → Prop} {a : Act} {w : Base} {W : World} {L : Blocks} {l : List Oper} (n : Nat) (hB : mixB l.toArray n = true) (hM : Mem w L W)
    (h : wpB P l.toArray (Mem w L) (fun a' => thr P (Mem w L) Q (l.drop n) a' (Mem w ([] ++ L))) (l.take n) a) : wpAny P .any l.toArray Q l.toArray.size (Array.replicate l.toArray.size false) a W := by
  simp only [mixB, Bool.and_eq_true, decide_eq_true_eq] at hB
  obtain ⟨⟨b1, b2⟩, b3⟩ := hB
  have e0 : l.toArray.size = l.length := by simp
  have e1 : (l.take n).length = n := by rw [List.length_take]; omega
  have e2 : (l.drop n).length = l.toArray.size - n := by rw [List.length_drop, e0]
  have := mix_lex (P := P) (C := Mem w L) (D := Mem w ([] ++ L)) (Q := Q) (n := n) (t := l.drop n) b1 (fun j => by simp [List.getElem?_drop]) (l.take n) 0 _ a (fun j hj => by rw [e1] at hj; simp [hj]) (by rw [e1]; omega) (by rw [e1, e2]; exact b3) h
  have := any_of_mix _ _ _ _ W (kept_mem w L []) hM this
  rwa [e1, e2, show n + (l.toArray.size - n) = l.toArray.size by omega] at this
theorem region_mix {Q : Exit → Act → World → Prop} {a : Act} {w : Base} {W : World} {L : Blocks} {id : Nat} {l : List Oper} (n : Nat) (hm : P.follows .mixedOrders = true) (hB : mixB l.toArray n = true) (hM : Mem w L W)
    (h : wpB P l.toArray (Mem w L) (fun a' => thr P (Mem w L) Q (l.drop n) a' (Mem w ([] ++ L))) (l.take n) a) : (Code.region id l.toArray true).wp P Q a W :=
  wp_region_any hm (any_mix n hB hM.drew h)

/-! ### The steps -/
variable {rest : List Oper} {o : Oper} {a : Act} {w : Base} {L x : Blocks} {R : Act → Prop} {K : Act → Prop} {Q : Exit → Act → World → Prop}
theorem wpB_plain (hg : o.guard = none) (h : qB P o a C (wpB P ops C R rest)) : wpB P ops C R (o :: rest) a := by
  unfold wpB; rw [if_pos (by simp [Region.wanted, hg])]; exact h
theorem wpB_want (hw : Region.wanted o (yielded ops a.tmps) = true) (h : qB P o a C (wpB P ops C R rest)) : wpB P ops C R (o :: rest) a := by
  unfold wpB; rw [if_pos hw]; exact h
theorem wpB_skip (hw : Region.wanted o (yielded ops a.tmps) = false) (h : wpB P ops C R rest (a.put o.dst undef)) : wpB P ops C R (o :: rest) a := by
  unfold wpB; rw [if_neg (by rw [hw]; exact Bool.false_ne_true)]; exact h
theorem wpB_nil (h : R a) : wpB P ops C R [] a := h
theorem b_val (h : ∃ v, (∀ W, (execOp a.eval o).run P W = .ok (.value v) W) ∧ K (a.put o.dst v)) : qB P o a C K := by
  obtain ⟨v, hr, h⟩ := h
  refine ⟨v, fun W _ => ?_, h⟩
  unfold Oper.quietAt; rw [hr]; exact ⟨rfl, rfl⟩
theorem b_call (h : ∃ f args v, (∀ W, (execOp a.eval o).run P W = .ok (.enter f args) W) ∧ (∀ W, C W → Calls P f args W fun e w' => e = .returned v ∧ Below W.heap.size W w') ∧ K (a.put o.dst v)) : qB P o a C K := by
  obtain ⟨f, args, v, hr, hc, h⟩ := h
  refine ⟨v, fun W hM => ?_, h⟩
  unfold Oper.quietAt; rw [hr]; exact ⟨rfl, hc W hM⟩
theorem b_get (ty : TypeId) (y : Operand) (ho : o.op = .load ty y) (b off : Nat) (hx : a.eval y = .pointer (some ⟨b, off, none⟩))
    (i : Nat) {n : Nat} {f : Nat → Value} (hi : L[i]? = some (b, n, f)) {m : Nat} (hT : RowT P ty m) (hle : off + m ≤ n)
    (h : K (a.put o.dst (.agg (arr m (fun k => f (off + k)))))) : qB P o a (Mem w L) K := by
  refine ⟨_, fun W hM => ?_, h⟩
  obtain ⟨⟨d, hu, hd⟩, hm⟩ := hT
  obtain ⟨t, ht⟩ := hM.ats i b n f hi
  have hr : W.rangeAt b off (arr m (fun k => f (off + k))).toList := by
    rw [← arr_extract hle]; exact World.rangeAt_of_block ht off m
  have hl := run_loadVar_mid (P := P) W b off ty _ d hr hu hd (by rw [hm]; simp [arr_size])
  unfold Oper.quietAt execOp
  simp only [ho, hx, Instr.loadAt, Instr.sureAddr, Sem.run_bind, Sem.run_pure, Result.andThen_ok, hl]
  exact ⟨rfl, by simp⟩
theorem b_get1 (ty : TypeId) (y : Operand) (ho : o.op = .load ty y) (b off : Nat) (hx : a.eval y = .pointer (some ⟨b, off, none⟩))
    (i : Nat) {n : Nat} {f : Nat → Value} (hi : L[i]? = some (b, n, f)) (hT : CellT P ty) (hle : off < n) (v : Value) (hv : f off = v)
    (h : K (a.put o.dst v)) : qB P o a (Mem w L) K := by
  refine ⟨v, fun W hM => ?_, h⟩
  obtain ⟨⟨d, hu, hd⟩, _⟩ := hT
  have hc := (hM.ats i b n f hi).cell hle
  rw [hv] at hc
  have hagg : (isAgg ty).run P W = .ok false W := by
    unfold isAgg
    rw [Sem.run_bind, run_underlying hu W]
    cases d <;> simp_all [TypeDesc.isRow]
  have hl : (load ⟨b, off, none⟩).run P W = .ok v W := by simp [load, Sem.run, hc]
  unfold Oper.quietAt execOp
  simp only [ho, hx, Instr.loadAt, Instr.sureAddr, loadVar, Sem.run_bind, Sem.run_pure, Result.andThen_ok, hagg, Bool.false_eq_true, if_false, hl]
  exact ⟨rfl, rfl⟩

theorem thr_nil {C D : World → Prop} (h : ∀ W, D W → Q .normal a W) : thr P C Q [] a D := h
theorem thr_val (hg : o.guard = none) (h : ∃ v, (∀ W, (execOp a.eval o).run P W = .ok (.value v) W) ∧ thr P (Mem w L) Q rest (a.put o.dst v) (Mem w (x ++ L))) : thr P (Mem w L) Q (o :: rest) a (Mem w (x ++ L)) := by
  obtain ⟨v, hr, h⟩ := h
  exact ⟨hg, fun W hW => .inl ⟨v, _, W, .inl (hr W), kept_mem w L x, hW, h⟩⟩
theorem thr_zero (hg : o.guard = none) (ty : TypeId) (ho : o.op = .alloc ty) {n : Nat} {f : Nat → Value} (hz : (P.info? ty).map (·.zero) = some (some (.agg (arr n f))))
    (h : ∀ b, w.B ≤ b → thr P (Mem w L) Q rest (a.put o.dst (.pointer (some ⟨b, 0, none⟩))) (Mem w (((b, n, f) :: x) ++ L))) : thr P (Mem w L) Q (o :: rest) a (Mem w (x ++ L)) := by
  refine ⟨hg, fun W hW => .inl ⟨_, _, _, .inl ?_, kept_mem w L ((W.heap.size, n, f) :: x), hW.alloc ty n f, h _ hW.size⟩⟩
  have hzv : (zeroValue ty).run P W = .ok (.agg (arr n f)) W := by
    cases hq : P.info? ty with
    | none => simp [hq] at hz
    | some i => simp [hq] at hz; simp [zeroValue, typeInfo, hq, hz]
  unfold execOp
  simp only [ho, Instr.alloc, Sem.run_bind, Sem.run_pure, Result.andThen_ok, hzv, newVar, newRow, newObj, Sem.run, Value.cells]
  rfl
theorem thr_lay (hg : o.guard = none) (ty : TypeId) (y z : Operand) (ho : o.op = .store ty y z) (b off : Nat) (hx : a.eval y = .pointer (some ⟨b, off, none⟩))
    (m : Nat) (g : Nat → Value) (hy : a.eval z = .agg (arr m g)) (i : Nat) {n : Nat} {f : Nat → Value} (hi : x[i]? = some (b, n, f)) (hb : w.B ≤ b)
    (hT : RowT P ty m) (hle : off + m ≤ n) (h1 : ∀ k, k < m → (g k).oneCell' = true)
    (h : thr P (Mem w L) Q rest (a.put o.dst undef) (Mem w ((x.set i (b, n, lay f off m g)) ++ L))) : thr P (Mem w L) Q (o :: rest) a (Mem w (x ++ L)) := by
  obtain ⟨_, hm⟩ := hT
  have hil : i < x.length := (List.getElem?_eq_some_iff.1 hi).1
  have hi' : (x ++ L)[i]? = some (b, n, f) := by rw [List.getElem?_append_left hil]; exact hi
  refine ⟨hg, fun W hW => ?_⟩
  obtain ⟨t, ht⟩ := hW.ats i b n f hi'
  have hs := run_storeCells_at (P := P) b off t (arr m g).toList 0 (arr n f) W ht (by simp [arr_size]; omega) (fun v hv => by
    rw [arr_toList] at hv; simp at hv; obtain ⟨k, hk, rfl⟩ := hv; exact h1 k hk)
  rw [Nat.add_zero, arr_lay hle] at hs
  have hsz : (sizeOf ty).run P W = .ok m W := by
    cases hq : P.info? ty with
    | none => simp [hq] at hm
    | some i => simp [hq] at hm; simp [sizeOf, typeInfo, hq, hm]
  have hset := hW.setRow i hi' hb (lay f off m g)
  rw [List.set_append_left _ _ hil] at hset
  refine .inl ⟨undef, _, _, .inr ⟨?_, rfl⟩, kept_mem w L _, hset, h⟩
  unfold execOp
  simp only [ho, hx, hy, Instr.storeAt, Instr.sureAddr, storeVar, Sem.run_bind, Sem.run_pure, Result.andThen_ok, Value.cells, hsz, arr_size, ne_eq, not_true_eq_false, if_false, hs]

/-- A call that lets lie all that lay. -/
theorem thr_call (hg : o.guard = none) (h : ∃ f args v, (∀ W, (execOp a.eval o).run P W = .ok (.enter f args) W) ∧ (∀ W, Mem w (x ++ L) W → Calls P f args W fun e w' => e = .returned v ∧ Below W.heap.size W w') ∧ thr P (Mem w L) Q rest (a.put o.dst v) (Mem w (x ++ L))) : thr P (Mem w L) Q (o :: rest) a (Mem w (x ++ L)) := by
  obtain ⟨f, args, v, hr, hc, h⟩ := h
  exact ⟨hg, fun W hW => .inr ⟨f, args, hr W, (hc W hW).mono fun e w' ⟨he, hb⟩ => ⟨v, _, he, kept_mem w L x, hW.call hb, h⟩⟩⟩
/-- A call that hands back what holds a new block. -/
theorem thr_call_new (hg : o.guard = none) {n : Nat} {f : Nat → Value} (vb : Nat → Value) (h : ∃ fn args, (∀ W, (execOp a.eval o).run P W = .ok (.enter fn args) W) ∧ (∀ W, Mem w (x ++ L) W → Calls P fn args W fun e w' => ∃ b, e = .returned (vb b) ∧ W.heap.size ≤ b ∧ At w' b n f ∧ Below W.heap.size W w') ∧
    ∀ b, w.B ≤ b → thr P (Mem w L) Q rest (a.put o.dst (vb b)) (Mem w (((b, n, f) :: x) ++ L))) : thr P (Mem w L) Q (o :: rest) a (Mem w (x ++ L)) := by
  obtain ⟨fn, args, hr, hc, h⟩ := h
  refine ⟨hg, fun W hW => .inr ⟨fn, args, hr W, (hc W hW).mono fun e w' ⟨b, he, hge, hA, hb⟩ => ⟨vb b, _, he, kept_mem w L ((b, n, f) :: x), ?_, h b (Nat.le_trans hW.size hge)⟩⟩⟩
  have hW' := hW.call hb
  refine ⟨hW'.good, fun i b' n' f' hi => ?_, fun i j p q hi hj hne => ?_⟩
  · cases i with
    | zero => simp at hi; obtain ⟨rfl, rfl, rfl⟩ := hi; exact hA
    | succ i => exact hW'.ats i b' n' f' (by simpa using hi)
  · have off : ∀ (i : Nat) (p : Nat × Nat × (Nat → Value)), (x ++ L)[i]? = some p → p.1 ≠ b := fun i p h e => by
      have := (hW.ats i p.1 p.2.1 p.2.2 h).lt
      omega
    cases i with
    | zero =>
      cases j with
      | zero => exact absurd rfl hne
      | succ j => simp at hi; rw [← hi]; exact fun e => off j q (by simpa using hj) e.symm
    | succ i =>
      cases j with
      | zero => simp at hj; rw [← hj]; exact off i p (by simpa using hi)
      | succ j => exact hW'.apart i j p q (by simpa using hi) (by simpa using hj) (by omega)
end Go.Proofs.YtofgkmoilncfpaaDoor

