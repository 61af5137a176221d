/-
  Several texts in one: Pasture, Reads, GrowD, Tend, Lists, GivesL.
-/
import Derived.Test.YtjfmhnbbdkejeaaDoorP6
import Derived.Test.YtjfmhnbbdkejeaaDoorP7
import Derived.Test.YtjfmhnbbdkejeaaDoorP2
import Derived.Laws.ResultCell
import Derived.StillTail
import Derived.Deep.Quiet
import Derived.Test.YtjfmhnbbdkejeaaDoorP5
import Derived.Test.YtjfmhnbbdkejeaaDoorP3
/-
  PLAIN LAWS and contracts where a pasture is handed back: two results, the first in memory; a region that reads first and then stores; a pasture with one cell written.
-/
namespace Go.Proofs.YtjfmhnbbdkejeaaDoor
open Go Go.RowKit Go.BigFrame

theorem region_tail_mem {P : Program} {Q : Exit → Act → World → Prop} {a : Act} {W : World} {id : Nat} {r : List Oper} (m : Nat) (hm : P.follows .mixedOrders = true) (hB : Region.lexTailB .any r.toArray m = true)
    (h : wpStill P r.toArray W.drew (fun a' => wpList P r.toArray Q (r.drop m) a' W.drew) (r.take m) a) : (Code.region id r.toArray true).wp P Q a W :=
  wp_region_still_tail m hm hB h

/-- A pasture and a code. -/
def pasR (g : Nat → Int) (c : Int) : Value := .tuple #[.agg (arr 122 (pas g)), .int .i64 c]
theorem pasR_eq (g : Nat → Int) (c : Int) : pasR g c = .tuple #[.agg (arr 122 (pas g)), .int .i64 c] := rfl
theorem ret_pas {g g' : Nat → Int} {c c' : Int} (h : arr 122 (pas g) = arr 122 (pas g')) (h' : c = c') : Ending.returned (.tuple #[.agg (arr 122 (pas g)), .int .i64 c]) = .returned (pasR g' c') := by rw [h, h', pasR_eq]
/-- No pasture. -/
def g0 : Nat → Int := fun _ => 0
theorem pas_g0 : zP = pas g0 := rfl
@[go_sem] theorem zero_cells_pas : Tryd.zeroCells39 = arr 122 zP := by kernel_rfl
theorem lay_zP (f : Nat → Value) : ∀ k, k < 122 → lay f 0 122 zP k = pas g0 k := fun k hk => by simp [lay, hk]; rfl
theorem lay_pas (f : Nat → Value) (g : Nat → Int) : ∀ k, k < 122 → lay f 0 122 (pas g) k = pas g k := fun k hk => by simp [lay, hk]
theorem lay_pas0 (f : Nat → Value) (g : Nat → Int) : ∀ k, k < 122 → lay f 0 122 (fun j => pas g (0 + j)) k = pas g k := fun k hk => by simp [lay, hk]
/-- Two pastures laid into cells compare as equal. -/
theorem eqP_lay (z z' : Nat → Value) (g : Nat → Int) (w : World) :
    Calls Tryd.prog 37 #[.agg (arr 122 (fun k => lay z 0 122 (pas g) (0 + k))), .agg (arr 122 (fun k => lay z' 0 122 (pas g) (0 + k)))] w fun e w' => e = .returned (.bool true) ∧ Below w.heap.size w w' := by
  rw [arr_congr (g := pas g) (fun k hk => by rw [Nat.zero_add]; exact lay_pas _ _ k hk), arr_congr (f := fun k => lay z' 0 122 (pas g) (0 + k)) (g := pas g) (fun k hk => by rw [Nat.zero_add]; exact lay_pas _ _ k hk)]
  exact eqPasture_same g w
/-- g with n at place k. -/
def setG (g : Nat → Int) (k : Nat) (n : Int) : Nat → Int := fun j => if j = k then n else g j
theorem lay_upd (f : Nat → Value) (g : Nat → Int) (i : Nat) (n : Int) (h : 2 ≤ i) (h' : i < 102) : ∀ k, k < 122 → lay f 0 122 (fun j => upd (pas g) i (.int .i16 n) (0 + j)) k = pas (setG g i n) k := fun k hk => by
  simp only [lay, hk, Nat.zero_le, Nat.zero_add, and_self, if_true, Nat.sub_zero]
  unfold upd pas setG
  by_cases e : k = i
  · subst e; simp [kd_i16 h h']
  · simp [e]
theorem upd_grass (g : Nat → Int) (k : Nat) (n : Int) (h : 2 ≤ k) (h' : k < 102) : upd (pas g) k (.int .i16 n) = pas (setG g k n) := by
  funext j
  unfold upd pas setG
  by_cases e : j = k
  · subst e; simp [kd_i16 h h']
  · simp [e]
end Go.Proofs.YtjfmhnbbdkejeaaDoor

/-
  PLAIN LAW: as Mix, with the reads and quiet calls standing anywhere in the region (the places qs), and, behind them, whatever may come up at each step.
-/
namespace Go.Proofs.YtjfmhnbbdkejeaaDoor
open Go Go.RowKit
variable {P : Program} {ops : Array Oper} {C D : World → Prop}

/-- Operation i comes up: one of the first n is a read, the others are the thread. -/
def mixOpQ (P : Program) (ops : Array Oper) (C : World → Prop) (q : Nat → Bool) (i : Nat) (a : Act) (D : World → Prop) (K : Act → (World → Prop) → Prop) : Prop :=
  ∃ o, ops[i]? = some o ∧ (if q i = true then (if Region.wanted o (yielded ops a.tmps) then qB P o a C (fun a' => K a' D) else K (a.put o.dst undef) D) else o.guard = none ∧ stepT P C o a D K)
def mixQ (P : Program) (ops : Array Oper) (C : World → Prop) (q : Nat → Bool) (Q : Exit → Act → World → Prop) : Nat → Array Bool → Act → (World → Prop) → Prop
  | 0, s, a, D => Region.ready .any ops s = [] ∧ ∀ W, D W → Q .normal a W
  | f + 1, s, a, D => Region.ready .any ops s ≠ [] ∧ ∀ i ∈ Region.ready .any ops s, mixOpQ P ops C q i a D (mixQ P ops C q Q f (s.setIfInBounds i true))

theorem wpOp_of_mixOpQ {q : Nat → Bool} {i : Nat} {a : Act} {W : World} {K : Act → (World → Prop) → Prop} {K' : Act → World → Prop} {Q : Exit → Act → World → Prop} (hD : Kept C D) (hW : D W)
    (h : ∀ a D W, Kept C D → D W → K a D → K' a W) (hh : mixOpQ P ops C q i a D K) : wpOp P ops Q i K' a W := by
  obtain ⟨o, ho, hh⟩ := hh
  unfold wpOp
  simp only [ho]
  by_cases hn : q i = true
  · rw [if_pos hn] at hh
    by_cases hw : Region.wanted o (yielded ops a.tmps) = true
    · rw [if_pos hw] at hh ⊢
      obtain ⟨v, h1, h2⟩ := hh
      have h3 := h1 W (hD.sub W hW)
      refine .inl ?_
      unfold Oper.quietAt at h3
      unfold Oper.wp
      generalize (execOp a.eval o).run P W = r at *
      cases r with
      | ok x w' =>
        cases x <;> simp only [Oper.quietUpon] at h3 <;> simp only [Oper.upon]
        case value => obtain ⟨rfl, rfl⟩ := h3; exact h _ _ _ hD hW h2
        case skip => obtain ⟨rfl, rfl⟩ := h3; exact h _ _ _ hD hW h2
        case enter f args =>
          obtain ⟨rfl, hc⟩ := h3
          exact hc.mono fun e w'' ⟨he, hb⟩ => by subst he; exact h _ _ _ hD (hD.on _ _ hW hb) h2
      | halt x w' => simp only [Oper.quietUpon] at h3
    · rw [if_neg hw] at hh ⊢
      exact h _ _ _ hD hW hh
  · rw [if_neg hn] at hh
    obtain ⟨hg, hs⟩ := hh
    have hw : Region.wanted o (yielded ops a.tmps) = true := by simp [Region.wanted, hg]
    rw [if_pos hw]
    refine .inl ?_
    unfold Oper.wp
    rcases hs W hW with ⟨u, D', W', hr, hk, hd, hK⟩ | ⟨f, args, hr, hc⟩
    · rcases hr with hr | ⟨hr, rfl⟩ <;> rw [hr] <;> exact h _ _ _ hk hd hK
    · rw [hr]
      exact hc.mono fun e w'' ⟨u, D', he, hk, hd, hK⟩ => by subst he; exact h _ _ _ hk hd hK

theorem any_of_mixQ {q : Nat → Bool} {Q : Exit → Act → World → Prop} (f : Nat) : ∀ s a D W, Kept C D → D W → mixQ P ops C q Q f s a D → wpAny P .any ops Q f s a W := by
  induction f with
  | zero => intro s a D W _ hW h; exact ⟨h.1, h.2 W hW⟩
  | succ f ih =>
    intro s a D W hD hW h
    exact ⟨fun e => absurd e h.1, fun i hi => wpOp_of_mixOpQ hD hW (fun a' D' W' hD' hW' h' => ih _ a' D' W' hD' hW' h') (h.2 i hi)⟩

theorem gives.opQ {q : Nat → Bool} {i : Nat} {o : Oper} {v : Value} {a : Act} {K : Act → (World → Prop) → Prop} (hn : q i = true) (ho : ops[i]? = some o) (h : gives P ops C o v a) (hK : K (a.put o.dst v) D) : mixOpQ P ops C q i a D K := by
  refine ⟨o, ho, ?_⟩
  rw [if_pos hn]
  rcases h with ⟨hw, hv⟩ | ⟨hw, rfl⟩
  · rw [if_pos hw]; exact ⟨v, hv, hK⟩
  · rw [if_neg (by rw [hw]; exact Bool.false_ne_true)]; exact hK

theorem mixOpQ_past {q : Nat → Bool} {j : Nat} {oi oj : Oper} {v : Value} {a : Act} {K K' : Act → (World → Prop) → Prop} (hoj : ops[j]? = some oj) (hap : oi.apart ops oj = true) (hsi : ∀ cs b, oi.op ≠ .select cs b) (hsj : ∀ cs b, oj.op ≠ .select cs b)
    (hg : gives P ops C oi v a) (hK : ∀ u D', gives P ops C oi v (a.put oj.dst u) → K ((a.put oj.dst u).put oi.dst v) D' → K' (a.put oj.dst u) D') (h : mixOpQ P ops C q j (a.put oi.dst v) D K) : mixOpQ P ops C q j a D K' := by
  obtain ⟨h1, h2, h3⟩ := Oper.apart_spec hap
  have sw : ∀ u, (a.put oi.dst v).put oj.dst u = (a.put oj.dst u).put oi.dst v := fun u => Act.put_comm a v u h2
  have keep : ∀ u, gives P ops C oi v (a.put oj.dst u) := fun u => hg.other hsi _ u h3
  obtain ⟨o, ho, h⟩ := h
  obtain rfl : oj = o := Option.some.inj (hoj.symm.trans ho)
  refine ⟨oj, hoj, ?_⟩
  by_cases hn : q j = true
  · rw [if_pos hn] at h ⊢
    rw [wanted_put oj a oi.dst v h1] at h
    by_cases hw : Region.wanted oj (yielded ops a.tmps) = true
    · rw [if_pos hw] at h ⊢
      obtain ⟨u, hu, hk⟩ := h
      refine ⟨u, fun W hW => ?_, hK u D (keep u) (by rw [← sw]; exact hk)⟩
      have := hu W hW
      unfold Oper.quietAt at *
      rwa [execOp_put oj hsj a oi.dst v h1] at this
    · rw [if_neg hw] at h ⊢
      exact hK _ D (keep _) (by rw [← sw]; exact h)
  · rw [if_neg hn] at h ⊢
    refine ⟨h.1, fun W hW => ?_⟩
    rcases h.2 W hW with ⟨u, D', W', hr, hk, hd, hh⟩ | ⟨f, args, hr, hc⟩
    · rw [execOp_put oj hsj a oi.dst v h1] at hr
      exact .inl ⟨u, D', W', hr, hk, hd, hK u D' (keep u) (by rw [← sw]; exact hh)⟩
    · rw [execOp_put oj hsj a oi.dst v h1] at hr
      exact .inr ⟨f, args, hr, hc.mono fun e w'' ⟨u, D', he, hk, hd, hh⟩ => ⟨u, D', he, hk, hd, hK u D' (keep u) (by rw [← sw]; exact hh)⟩⟩

theorem mixQ_first {q : Nat → Bool} {i : Nat} {oi : Oper} {v : Value} {Q : Exit → Act → World → Prop} (hin : q i = true) (hoi : ops[i]? = some oi) (hsel : ∀ (j : Nat) (o : Oper) cs b, ops[j]? = some o → o.op ≠ .select cs b) (f : Nat) :
    ∀ s a D, (∀ j oj, ops[j]? = some oj → j ≠ i → s.getD j true = false → (∀ e ∈ oj.after, Region.binds .any e = true → e.on ≠ i) → oi.apart ops oj = true) →
      i ∈ Region.ready .any ops s → gives P ops C oi v a → mixQ P ops C q Q f (s.setIfInBounds i true) (a.put oi.dst v) D → mixQ P ops C q Q (f + 1) s a D := by
  induction f with
  | zero =>
    intro s a D _ hr hg H
    refine ⟨List.ne_nil_of_mem hr, fun j hj => ?_⟩
    by_cases e : j = i
    · subst e; exact hg.opQ hin hoi H
    · have := ready_mono hj e
      rw [H.1] at this; cases this
  | succ f ih =>
    intro s a D hfree hr hg H
    refine ⟨List.ne_nil_of_mem hr, fun j hj => ?_⟩
    by_cases e : j = i
    · subst e; exact hg.opQ hin hoi H
    obtain ⟨hju, oj, hoj, hdone⟩ := mem_ready.1 hj
    have hfj := hfree j oj hoj e hju fun d hd hb he => by
      have h1 := hdone d hd hb
      rw [he, getD_both (mem_ready.1 hr).1] at h1
      cases h1
    refine mixOpQ_past hoj hfj (fun cs b => hsel i oi cs b hoi) (fun cs b => hsel j oj cs b hoj) hg (fun u D' hg' h' => ?_) (H.2 j (ready_mono hj e))
    refine ih _ _ D' (fun k ok hk hki hku hno => hfree k ok hk hki ?_ hno) (ready_mono hr (Ne.symm e)) hg' ?_
    · by_cases ejk : j = k
      · subst ejk; exact hju
      · rwa [getD_set_ne true ejk] at hku
    · rw [Array.setIfInBounds_comm _ _ e]; exact h'


/-- The reads at the places is, one by one. -/
def wpQs (P : Program) (ops : Array Oper) (C : World → Prop) (R : Act → Prop) : List Nat → Act → Prop
  | [], a => R a
  | i :: is, a => ∃ o, ops[i]? = some o ∧ (if Region.wanted o (yielded ops a.tmps) then qB P o a C (wpQs P ops C R is) else wpQs P ops C R is (a.put o.dst undef))
def lexQs (ops : Array Oper) (s1 : Array Bool) : List Nat → Array Bool → Bool
  | [], s => decide (s = s1)
  | i :: is, s => (Region.ready .any ops s).contains i && Region.free .any ops s i && lexQs ops s1 is (s.setIfInBounds i true)

theorem mixQ_reads {q : Nat → Bool} {Q : Exit → Act → World → Prop} {s1 : Array Bool} {g : Nat} (hsel : Region.noSelect ops = true) : ∀ (is : List Nat) (s : Array Bool) (a : Act), (∀ i ∈ is, q i = true) → lexQs ops s1 is s = true →
    wpQs P ops C (fun a' => mixQ P ops C q Q g s1 a' D) is a → mixQ P ops C q Q (is.length + g) s a D
  | [], s, a, _, hB, h => by
    obtain rfl : s = s1 := by simpa [lexQs] using hB
    rw [List.length_nil, Nat.zero_add]
    exact h
  | i :: is, s, a, hq, hB, h => by
    obtain ⟨o, h0, h⟩ := h
    simp only [lexQs, Bool.and_eq_true] at hB
    have hr : i ∈ Region.ready .any ops s := by simpa using hB.1.1
    have hv : ∃ v, gives P ops C o v a ∧ wpQs P ops C (fun a' => mixQ P ops C q Q g s1 a' D) is (a.put o.dst v) := by
      by_cases hw : Region.wanted o (yielded ops a.tmps) = true
      · rw [if_pos hw] at h; obtain ⟨v, h1, h2⟩ := h; exact ⟨v, .inl ⟨hw, h1⟩, h2⟩
      · rw [if_neg hw] at h; exact ⟨undef, .inr ⟨by simpa using hw, rfl⟩, h⟩
    obtain ⟨v, hg, hK⟩ := hv
    rw [List.length_cons, show is.length + 1 + g = (is.length + g) + 1 by omega]
    exact mixQ_first (hq i (by simp)) h0 (Region.noSelect_spec hsel) _ s a D (Region.free_spec h0 hB.1.2) hr hg (mixQ_reads hsel is _ _ (fun j hj => hq j (by simp [hj])) hB.2 hK)

/-- The reads are told by their places; behind them s1 is listed. -/
def readsB (ops : Array Oper) (is : List Nat) (s1 : Array Bool) : Bool := Region.noSelect ops && lexQs ops s1 is (Array.replicate ops.size false)
theorem region_reads {Q : Exit → Act → World → Prop} {a : Act} {w : Base} {W : World} {L : Blocks} {id : Nat} {l : List Oper} (is : List Nat) (s1 : Array Bool) (g : Nat) (hm : P.follows .mixedOrders = true) (hB : readsB l.toArray is s1 = true) (hg : is.length + g = l.length) (hM : Mem w L W)
    (h : wpQs P l.toArray (Mem w L) (fun a' => mixQ P l.toArray (Mem w L) (fun i => is.contains i) Q g s1 a' (Mem w ([] ++ L))) is a) : (Code.region id l.toArray true).wp P Q a W := by
  refine wp_region_any hm ?_
  simp only [readsB, Bool.and_eq_true] at hB
  have := mixQ_reads (q := fun i => is.contains i) (D := Mem w ([] ++ L)) hB.1 is _ a (fun i hi => by simpa using hi) hB.2 h
  have := any_of_mixQ _ _ _ _ W.drew (kept_mem w L []) hM.drew this
  rw [hg] at this
  simpa using this

/-- The same, where the blocks x, ahead of the others, may be written. -/
theorem region_readsX {Q : Exit → Act → World → Prop} {a : Act} {w : Base} {W : World} {L : Blocks} {id : Nat} {l : List Oper} (is : List Nat) (s1 : Array Bool) (g : Nat) (x : Blocks) (hm : P.follows .mixedOrders = true) (hB : readsB l.toArray is s1 = true) (hg : is.length + g = l.length) (hM : Mem w (x ++ L) W)
    (h : wpQs P l.toArray (Mem w L) (fun a' => mixQ P l.toArray (Mem w L) (fun i => is.contains i) Q g s1 a' (Mem w (x ++ L))) is a) : (Code.region id l.toArray true).wp P Q a W := by
  refine wp_region_any hm ?_
  simp only [readsB, Bool.and_eq_true] at hB
  have := mixQ_reads (q := fun i => is.contains i) (D := Mem w (x ++ L)) hB.1 is _ a (fun i hi => by simpa using hi) hB.2 h
  have := any_of_mixQ _ _ _ _ W.drew (kept_mem w L x) hM.drew this
  rw [hg] at this
  simpa using this

/-- The same, where more places qs hold reads that are taken later. -/
theorem region_readsG {Q : Exit → Act → World → Prop} {a : Act} {w : Base} {W : World} {L : Blocks} {id : Nat} {l : List Oper} (is qs : List Nat) (s1 : Array Bool) (g : Nat) (hq : ∀ i ∈ is, qs.contains i = true) (hm : P.follows .mixedOrders = true) (hB : readsB l.toArray is s1 = true) (hg : is.length + g = l.length) (hM : Mem w L W)
    (h : wpQs P l.toArray (Mem w L) (fun a' => mixQ P l.toArray (Mem w L) (fun i => qs.contains i) Q g s1 a' (Mem w ([] ++ L))) is a) : (Code.region id l.toArray true).wp P Q a W := by
  refine wp_region_any hm ?_
  simp only [readsB, Bool.and_eq_true] at hB
  have := mixQ_reads (q := fun i => qs.contains i) (D := Mem w ([] ++ L)) hB.1 is _ a hq hB.2 h
  have := any_of_mixQ _ _ _ _ W.drew (kept_mem w L []) hM.drew this
  rw [hg] at this
  simpa using this

/-! ### What may come up -/
variable {q : Nat → Bool} {Q : Exit → Act → World → Prop} {s : Array Bool} {a : Act} {f : Nat} {l : List Oper}
theorem at_list {i : Nat} {o : Oper} (h : l[i]? = some o) : l.toArray[i]? = some o := by simpa using h
theorem mix_end (hr : Region.ready .any ops s = []) (h : ∀ W, D W → Q .normal a W) : mixQ P ops C q Q 0 s a D := ⟨hr, h⟩
theorem mix_one {i : Nat} {o : Oper} (hr : Region.ready .any l.toArray s = [i]) (ho : l[i]? = some o) (hq : q i = false) (hg : o.guard = none) (h : stepT P C o a D (mixQ P l.toArray C q Q f (s.setIfInBounds i true))) : mixQ P l.toArray C q Q (f + 1) s a D := by
  refine ⟨by rw [hr]; simp, fun j hj => ?_⟩
  rw [hr] at hj
  obtain rfl : j = i := by simpa using hj
  exact ⟨o, at_list ho, by rw [if_neg (by rw [hq]; decide)]; exact ⟨hg, h⟩⟩
theorem mix_two {i j : Nat} {o o' : Oper} (hr : Region.ready .any l.toArray s = [i, j]) (ho : l[i]? = some o) (ho' : l[j]? = some o') (hq : q i = false) (hq' : q j = false) (hg : o.guard = none) (hg' : o'.guard = none)
    (h : stepT P C o a D (mixQ P l.toArray C q Q f (s.setIfInBounds i true))) (h' : stepT P C o' a D (mixQ P l.toArray C q Q f (s.setIfInBounds j true))) : mixQ P l.toArray C q Q (f + 1) s a D := by
  refine ⟨by rw [hr]; simp, fun k hk => ?_⟩
  rw [hr] at hk
  have : k = i ∨ k = j := by simpa using hk
  rcases this with rfl | rfl
  · exact ⟨o, at_list ho, by rw [if_neg (by rw [hq]; decide)]; exact ⟨hg, h⟩⟩
  · exact ⟨o', at_list ho', by rw [if_neg (by rw [hq']; decide)]; exact ⟨hg', h'⟩⟩
/-- A read at the place i. -/
theorem qs_plain {i : Nat} {is : List Nat} {o : Oper} {R : Act → Prop} (ho : l[i]? = some o) (hg : o.guard = none) (h : qB P o a C (wpQs P l.toArray C R is)) : wpQs P l.toArray C R (i :: is) a :=
  ⟨o, at_list ho, by rw [if_pos (by simp [Region.wanted, hg])]; exact h⟩
theorem qs_nil {R : Act → Prop} (h : R a) : wpQs P ops C R [] a := h

/-! ### The steps -/
variable {o : Oper} {w : Base} {L x : Blocks} {K : Act → (World → Prop) → Prop}
theorem step_val (h : ∃ v, (∀ W, (execOp a.eval o).run P W = .ok (.value v) W) ∧ K (a.put o.dst v) (Mem w (x ++ L))) : stepT P (Mem w L) o a (Mem w (x ++ L)) K := by
  obtain ⟨v, hr, h⟩ := h
  exact fun W hW => .inl ⟨v, _, W, .inl (hr W), kept_mem w L x, hW, h⟩
theorem step_zero (ty : TypeId) (ho : o.op = .alloc ty) {n : Nat} {f : Nat → Value} (hz : (P.info? ty).map (·.zero) = some (some (.agg (arr n f))))
    (h : ∀ b, w.B ≤ b → K (a.put o.dst (.pointer (some ⟨b, 0, none⟩))) (Mem w (((b, n, f) :: x) ++ L))) : stepT P (Mem w L) o a (Mem w (x ++ L)) K := by
  refine fun W hW => .inl ⟨_, _, _, .inl ?_, kept_mem w L ((W.heap.size, n, f) :: x), hW.alloc ty n f, h _ hW.size⟩
  have hzv : (zeroValue ty).run P W = .ok (.agg (arr n f)) W := by
    cases hq : P.info? ty with
    | none => simp [hq] at hz
    | some i => simp [hq] at hz; simp [zeroValue, typeInfo, hq, hz]
  unfold execOp
  simp only [ho, Instr.alloc, Sem.run_bind, Sem.run_pure, Result.andThen_ok, hzv, newVar, newRow, newObj, Sem.run, Value.cells]
  rfl
theorem step_lay (ty : TypeId) (y z : Operand) (ho : o.op = .store ty y z) (b off : Nat) (hx : a.eval y = .pointer (some ⟨b, off, none⟩))
    (m : Nat) (g : Nat → Value) (hy : a.eval z = .agg (arr m g)) (i : Nat) {n : Nat} {f : Nat → Value} (hi : x[i]? = some (b, n, f)) (hb : w.B ≤ b)
    (hT : RowT P ty m) (hle : off + m ≤ n) (h1 : ∀ k, k < m → (g k).oneCell' = true)
    (h : K (a.put o.dst undef) (Mem w ((x.set i (b, n, lay f off m g)) ++ L))) : stepT P (Mem w L) o a (Mem w (x ++ L)) K := by
  obtain ⟨_, hm⟩ := hT
  have hil : i < x.length := (List.getElem?_eq_some_iff.1 hi).1
  have hi' : (x ++ L)[i]? = some (b, n, f) := by rw [List.getElem?_append_left hil]; exact hi
  intro W hW
  obtain ⟨t, ht⟩ := hW.ats i b n f hi'
  have hs := run_storeCells_at (P := P) b off t (arr m g).toList 0 (arr n f) W ht (by simp [arr_size]; omega) (fun v hv => by
    rw [arr_toList] at hv; simp at hv; obtain ⟨k, hk, rfl⟩ := hv; exact h1 k hk)
  rw [Nat.add_zero, arr_lay hle] at hs
  have hsz : (sizeOf ty).run P W = .ok m W := by
    cases hq : P.info? ty with
    | none => simp [hq] at hm
    | some i => simp [hq] at hm; simp [sizeOf, typeInfo, hq, hm]
  have hset := hW.setRow i hi' hb (lay f off m g)
  rw [List.set_append_left _ _ hil] at hset
  refine .inl ⟨undef, _, _, .inr ⟨?_, rfl⟩, kept_mem w L _, hset, h⟩
  unfold execOp
  simp only [ho, hx, hy, Instr.storeAt, Instr.sureAddr, storeVar, Sem.run_bind, Sem.run_pure, Result.andThen_ok, Value.cells, hsz, arr_size, ne_eq, not_true_eq_false, if_false, hs]

/-- A call that lets lie all that lay. -/
theorem step_call (h : ∃ f args v, (∀ W, (execOp a.eval o).run P W = .ok (.enter f args) W) ∧ (∀ W, Mem w (x ++ L) W → Calls P f args W fun e w' => e = .returned v ∧ Below W.heap.size W w') ∧ K (a.put o.dst v) (Mem w (x ++ L))) : stepT P (Mem w L) o a (Mem w (x ++ L)) K := by
  obtain ⟨f, args, v, hr, hc, h⟩ := h
  exact fun W hW => .inr ⟨f, args, hr W, (hc W hW).mono fun e w' ⟨he, hb⟩ => ⟨v, _, he, kept_mem w L x, hW.call hb, h⟩⟩
/-- A call that hands back what holds a new block. -/
theorem step_call_new {n : Nat} {f : Nat → Value} (vb : Nat → Value) (h : ∃ fn args, (∀ W, (execOp a.eval o).run P W = .ok (.enter fn args) W) ∧ (∀ W, Mem w (x ++ L) W → Calls P fn args W fun e w' => ∃ b, e = .returned (vb b) ∧ W.heap.size ≤ b ∧ At w' b n f ∧ Below W.heap.size W w') ∧
    ∀ b, w.B ≤ b → K (a.put o.dst (vb b)) (Mem w (((b, n, f) :: x) ++ L))) : stepT P (Mem w L) o a (Mem w (x ++ L)) K := by
  obtain ⟨fn, args, hr, hc, h⟩ := h
  refine fun W hW => .inr ⟨fn, args, hr W, (hc W hW).mono fun e w' ⟨b, he, hge, hA, hb⟩ => ⟨vb b, _, he, kept_mem w L ((b, n, f) :: x), ?_, h b (Nat.le_trans hW.size hge)⟩⟩
  have hW' := hW.call hb
  refine ⟨hW'.good, fun i b' n' f' hi => ?_, fun i j p p' hi hj hne => ?_⟩
  · cases i with
    | zero => simp at hi; obtain ⟨rfl, rfl, rfl⟩ := hi; exact hA
    | succ i => exact hW'.ats i b' n' f' (by simpa using hi)
  · have off : ∀ (i : Nat) (p : Nat × Nat × (Nat → Value)), (x ++ L)[i]? = some p → p.1 ≠ b := fun i p h e => by
      have := (hW.ats i p.1 p.2.1 p.2.2 h).lt
      omega
    cases i with
    | zero =>
      cases j with
      | zero => exact absurd rfl hne
      | succ j => simp at hi; rw [← hi]; exact fun e => off j p' (by simpa using hj) e.symm
    | succ i =>
      cases j with
      | zero => simp at hj; rw [← hj]; exact off i p (by simpa using hi)
      | succ j => exact hW'.apart i j p p' (by simpa using hi) (by simpa using hj) (by omega)
/-- A call that hands back what holds more blocks. -/
theorem step_call_more {β : Type} (vb : β → Value) (Bk : β → Blocks) (good : β → Prop) (h : ∃ fn args, (∀ W, (execOp a.eval o).run P W = .ok (.enter fn args) W) ∧ (∀ W, Mem w (x ++ L) W → Calls P fn args W fun e w' => ∃ y, e = .returned (vb y) ∧ good y ∧ Mem w (Bk y ++ (x ++ L)) w') ∧
    ∀ y, good y → K (a.put o.dst (vb y)) (Mem w ((Bk y ++ x) ++ L))) : stepT P (Mem w L) o a (Mem w (x ++ L)) K := by
  obtain ⟨fn, args, hr, hc, h⟩ := h
  exact fun W hW => .inr ⟨fn, args, hr W, (hc W hW).mono fun e w' ⟨y, he, hg, hM⟩ => ⟨vb y, _, he, kept_mem w L (Bk y ++ x), (by rw [List.append_assoc]; exact hM), h y hg⟩⟩
end Go.Proofs.YtjfmhnbbdkejeaaDoor

/-
  spec.GrowDays and spec.GrowOnce by contracts.
-/
namespace Go.Proofs.YtjfmhnbbdkejeaaDoor
open Go Go.RowKit Go.BigFrame

/-- A pasture and two numbers. -/
def pasR3 (g : Nat → Int) (n c : Int) : Value := .tuple #[.agg (arr 122 (pas g)), .int .i64 n, .int .i64 c]
theorem pasR3_eq (g : Nat → Int) (n c : Int) : pasR3 g n c = .tuple #[.agg (arr 122 (pas g)), .int .i64 n, .int .i64 c] := rfl
theorem ret_pas3 {g : Nat → Int} {n c : Int} {v : Value} (h : v = pasR3 g n c) : Ending.returned (.tuple #[.agg (arr 122 (pas g)), .int .i64 n, .int .i64 c]) = .returned v := by rw [h, pasR3_eq]
/-- What GrowDays answers. -/
def growD (p h : Nat → Int) (n : Int) : Value :=
  if okB p && growB h then (if inB 0 365 n then pasR3 (dayG h p (p 0).toNat (p 1).toNat n.toNat) (gsum (dayG h p (p 0).toNat (p 1).toNat n.toNat) - gsum p) 0 else pasR3 g0 0 2) else pasR3 g0 0 1
theorem growD_no {p h : Nat → Int} {n : Int} (e : (okB p && growB h) = false) : growD p h n = pasR3 g0 0 1 := by simp [growD, e]
theorem growD_out {p h : Nat → Int} {n : Int} (e : (okB p && growB h) = true) (e' : inB 0 365 n = false) : growD p h n = pasR3 g0 0 2 := by simp [growD, e, e']
theorem growD_ok {p h : Nat → Int} {n W H : Nat} (e : (okB p && growB h) = true) (e' : inB 0 365 (n : Int) = true) (p0 : p 0 = W) (p1 : p 1 = H) : growD p h n = pasR3 (dayG h p W H n) (gsum (dayG h p W H n) - gsum p) 0 := by simp [growD, e, e', p0, p1]
theorem l01Sum_g (g : Nat → Int) (hg : Fits g) (hb : GrassOk g) (bp : Nat) (w : World) (hA : At w bp 122 (pas g)) :
    Calls Tryd.prog 71 #[.pointer (some ⟨bp, 0, none⟩)] w fun e w' => e = .returned (.int .i64 (gsum g)) ∧ Below w.heap.size w w' := l01Sum_any g hg hb bp w hA

set_option maxRecDepth 100000 in
set_option maxHeartbeats 2000000 in
theorem specGrowDays_any (p : Nat → Int) (hp : Fits p) (h : Nat → Int) (hF : FitsW h) (n : Int) (w : World) :
    Calls Tryd.prog 38 #[.agg (arr 122 (pas p)), .agg (arr 12 (gro h)), .int .i64 n] w fun e w' => e = .returned (growD p h n) ∧ Below w.heap.size w w' := by
  have hM := Mem.nil w
  have HP := Lib.hid hp
  have HF := Lib.hid hF
  clear hp hF
  have tk_b1 : True := trivial; have tk_b2 : True := trivial; have tk_b3 : True := trivial; have tk_q1 : True := trivial
  cases ho : (okB p && growB h)
  · have Hr := Lib.hid (growD_no (n := n) ho)
    have Hc := Lib.hid (askG_no ho)
    clear ho
    go_enter Tryd.func38, Tryd.ntmps38
    go_wp2_with (first | (have _t := tk_b1; refine wpList_box rfl _ _ rfl _ _ rfl hM ?_; intro b1 W' hb1 hM'; clear hM tk_b1; have hM := hM'; clear hM') | (have _t := tk_b2; refine wpList_box rfl _ _ rfl _ _ rfl hM ?_; intro b2 W' hb2 hM'; clear hM tk_b2; have hM := hM'; clear hM') | (have _t := tk_b3; refine wpList_zero rfl _ rfl (zeroTab _ _ _ rfl) hM ?_; intro b3 W' hb3 hM'; clear hM tk_b3; have hM := hM'; clear hM') | (go_at_call 74; (with_reducible refine (l04Asked_any p HP.out h HF.out b1 b2 _ (hM.ats 2 _ _ _ rfl) (hM.ats 1 _ _ _ rfl) (hM.apart 2 1 _ _ rfl rfl (by omega))).mono ?_); rintro e W' ⟨rfl, hb'⟩; rw [Hc.out]; have hM' := hM.call hb'; clear hM hb'; have hM := hM'; clear hM') | (have _t := tk_q1; (refine wpList_lay rfl _ _ _ rfl _ _ rfl _ _ rfl hM 0 rfl (by assumption) (rowTab _ _ rfl) (by omega) ?_ ?_; (first | (intro _ _; rfl) | (intro k _; exact h1 _) | (intro k _; simp only [lay, upd]; (repeat' split) <;> first | exact h1 _ | rfl)); intro W' hM'; clear hM; have hM := hM'; clear hM'; simp only [List.set] at hM); clear tk_q1))
    refine bodyPost_ret (results_at3 rfl _ rfl ((hM.ats 0 _ _ _ rfl).congr (lay_zP _)) (rowTab _ _ rfl)) rfl ?_
    exact ⟨ret_pas3 Hr.out, hM.below⟩
  have Hc := Lib.hid (askG_yes ho)
  cases hi : inB 0 365 n
  · have Hr := Lib.hid (growD_out ho hi)
    have Hi := Lib.hid hi
    clear ho hi
    go_enter Tryd.func38, Tryd.ntmps38
    go_wp2_with (first | (have _t := tk_b1; refine wpList_box rfl _ _ rfl _ _ rfl hM ?_; intro b1 W' hb1 hM'; clear hM tk_b1; have hM := hM'; clear hM') | (have _t := tk_b2; refine wpList_box rfl _ _ rfl _ _ rfl hM ?_; intro b2 W' hb2 hM'; clear hM tk_b2; have hM := hM'; clear hM') | (have _t := tk_b3; refine wpList_zero rfl _ rfl (zeroTab _ _ _ rfl) hM ?_; intro b3 W' hb3 hM'; clear hM tk_b3; have hM := hM'; clear hM') | (go_at_call 74; (with_reducible refine (l04Asked_any p HP.out h HF.out b1 b2 _ (hM.ats 2 _ _ _ rfl) (hM.ats 1 _ _ _ rfl) (hM.apart 2 1 _ _ rfl rfl (by omega))).mono ?_); rintro e W' ⟨rfl, hb'⟩; rw [Hc.out]; have hM' := hM.call hb'; clear hM hb'; have hM := hM'; clear hM') | (go_at_call 68; (with_reducible refine (l04Day_any n _).mono ?_); rintro e W' ⟨rfl, hb'⟩; rw [Hi.out]; have hM' := hM.call hb'; clear hM hb'; have hM := hM'; clear hM') | (have _t := tk_q1; (refine wpList_lay rfl _ _ _ rfl _ _ rfl _ _ rfl hM 0 rfl (by assumption) (rowTab _ _ rfl) (by omega) ?_ ?_; (first | (intro _ _; rfl) | (intro k _; exact h1 _) | (intro k _; simp only [lay, upd]; (repeat' split) <;> first | exact h1 _ | rfl)); intro W' hM'; clear hM; have hM := hM'; clear hM'; simp only [List.set] at hM); clear tk_q1))
    refine bodyPost_ret (results_at3 rfl _ rfl ((hM.ats 0 _ _ _ rfl).congr (lay_zP _)) (rowTab _ _ rfl)) rfl ?_
    exact ⟨ret_pas3 Hr.out, hM.below⟩
  have hb := inB_true hi
  obtain ⟨n, rfl⟩ : ∃ m : Nat, n = m := ⟨n.toNat, by omega⟩
  have ho' := ho
  rw [Bool.and_eq_true] at ho'
  obtain ⟨W, H, p0, p1, hW, hH⟩ := ok_sizes2 ho'.1
  have Hr := Lib.hid (growD_ok ho hi p0 p1)
  have Hi := Lib.hid hi
  have Hp := Lib.hid (ok_in ho'.1)
  have He := Lib.hid ho'.2
  have hD := Lib.hid (dayG_in He.out Hp.out W H n)
  have hDf := Lib.hid (dayG_fits He.out Hp.out HP.out W H n)
  have s1 := gsum_in hD.out
  have s2 := gsum_in Hp.out
  have hcon := Lib.hid (fun bg w hA => l04Days_any h p He.out Hp.out W H hW hH p0 p1 bg n (by omega) w hA)
  clear ho hi ho'
  generalize dayG h p W H n = D at *
  have c1 : IntKind.i64.wrap (gsum D - gsum p) = gsum D - gsum p := IntWalk.i64_in _ (by omega)
  have SD := Lib.hid (l01Sum_g D hDf.out hD.out)
  have SP := Lib.hid (l01Sum_g p HP.out Hp.out)
  generalize gsum D = x at *
  generalize gsum p = y at *
  clear s1 s2
  have tk_b4 : True := trivial; have tk_q2 : True := trivial
  go_enter Tryd.func38, Tryd.ntmps38
  go_wp2_with (first | (have _t := tk_b1; refine wpList_box rfl _ _ rfl _ _ rfl hM ?_; intro b1 W' hb1 hM'; clear hM tk_b1; have hM := hM'; clear hM') | (have _t := tk_b2; refine wpList_box rfl _ _ rfl _ _ rfl hM ?_; intro b2 W' hb2 hM'; clear hM tk_b2; have hM := hM'; clear hM') | (have _t := tk_b3; refine wpList_zero rfl _ rfl (zeroTab _ _ _ rfl) hM ?_; intro b3 W' hb3 hM'; clear hM tk_b3; have hM := hM'; clear hM') | (go_at_call 74; (with_reducible refine (l04Asked_any p HP.out h HF.out b1 b2 _ (hM.ats 2 _ _ _ rfl) (hM.ats 1 _ _ _ rfl) (hM.apart 2 1 _ _ rfl rfl (by omega))).mono ?_); rintro e W' ⟨rfl, hb'⟩; rw [Hc.out]; have hM' := hM.call hb'; clear hM hb'; have hM := hM'; clear hM') | (go_at_call 68; (with_reducible refine (l04Day_any (n : Int) _).mono ?_); rintro e W' ⟨rfl, hb'⟩; rw [Hi.out]; have hM' := hM.call hb'; clear hM hb'; have hM := hM'; clear hM') | (have _t := tk_q2; (refine wpList_get rfl _ _ rfl _ _ rfl hM 2 rfl (rowTab _ _ rfl) (by omega) ?_); clear tk_q2) | (go_at_call 78; (with_reducible refine (hcon.out b2 _ (hM.ats 1 _ _ _ rfl)).mono ?_); rintro e W' ⟨rfl, hb'⟩; have hM' := hM.call hb'; clear hM hb'; have hM := hM'; clear hM') | (have _t := tk_b4; refine wpList_zero rfl _ rfl (zeroTab _ _ _ rfl) hM ?_; intro b4 W' hb4 hM'; clear hM tk_b4; have hM := hM'; clear hM') | (have _t := tk_q1; (refine wpList_lay rfl _ _ _ rfl _ _ rfl _ _ rfl hM 0 rfl (by assumption) (rowTab _ _ rfl) (by omega) ?_ ?_; (first | (intro _ _; rfl) | (intro k _; exact h1 _) | (intro k _; simp only [lay, upd]; (repeat' split) <;> first | exact h1 _ | rfl)); intro W' hM'; clear hM; have hM := hM'; clear hM'; simp only [List.set] at hM); clear tk_q1))
  have hM2 := hM.re 0 rfl (pas D) (lay_pasy _ _)
  simp only [List.set_cons_zero] at hM2
  clear hM
  have hM := hM2
  clear hM2
  have hM2 := hM.swap
  clear hM
  have hM := hM2
  clear hM2
  ((try simp only [Act.put, List.setIfInBounds_toArray, List.set_cons_succ, List.set_cons_zero]); refine region_readsX [0, 1, 2, 3] #[true, true, true, true, false, false, false] 3 [(b3, 122, zP)] (by kernel_rfl) (by kernel_rfl) (by kernel_rfl) hM ?_; clear hM; (repeat (refine qs_plain rfl rfl ?_; first | (refine b_get _ _ rfl _ _ rfl 0 rfl (rowTab _ _ rfl) (by omega) ?_; (simp only [Act.put, List.setIfInBounds_toArray, List.set_cons_succ, List.set_cons_zero])) | (refine b_call ?_; apply Exists.intro; apply Exists.intro; apply Exists.intro; refine ⟨fun W => ?_, fun W hM => ?_, ?_⟩; (go_simp; exact ⟨rfl, rfl⟩); (with_reducible exact SD.out b4 W (hM.ats 0 _ _ _ rfl)); (simp only [Act.put, List.setIfInBounds_toArray, List.set_cons_succ, List.set_cons_zero])) | (refine b_call ?_; apply Exists.intro; apply Exists.intro; apply Exists.intro; refine ⟨fun W => ?_, fun W hM => ?_, ?_⟩; (go_simp; exact ⟨rfl, rfl⟩); (with_reducible exact SP.out b1 W (hM.ats 2 _ _ _ rfl)); (simp only [Act.put, List.setIfInBounds_toArray, List.set_cons_succ, List.set_cons_zero])) | (refine b_val ?_; apply Exists.intro; refine ⟨fun W => ?_, ?_⟩; (go_simp; (try simp only [c1, if_true]); rfl); (simp only [Act.put, List.setIfInBounds_toArray, List.set_cons_succ, List.set_cons_zero])))); (with_reducible refine qs_nil ?_))
  (refine mix_one (i := 4) (by kernel_rfl) rfl (by kernel_rfl) rfl ?_)
  (refine step_lay _ _ _ rfl _ _ rfl _ _ rfl 0 rfl (by assumption) (rowTab _ _ rfl) (by omega) ?_ ?_; (first | (intro _ _; rfl) | (intro k _; exact h1 _)); simp only [List.set]; (simp only [Act.put, List.setIfInBounds_toArray, List.set_cons_succ, List.set_cons_zero]))
  (refine mix_one (i := 5) (by kernel_rfl) rfl (by kernel_rfl) rfl ?_)
  (refine step_val ?_; apply Exists.intro; refine ⟨fun W => ?_, ?_⟩; (go_simp; rfl); (simp only [Act.put, List.setIfInBounds_toArray, List.set_cons_succ, List.set_cons_zero]))
  (refine mix_one (i := 6) (by kernel_rfl) rfl (by kernel_rfl) rfl ?_)
  (refine step_val ?_; apply Exists.intro; refine ⟨fun W => ?_, ?_⟩; (go_simp; rfl); (simp only [Act.put, List.setIfInBounds_toArray, List.set_cons_succ, List.set_cons_zero]))
  (refine mix_end (by kernel_rfl) ?_; intro W' hM; simp only [List.cons_append, List.nil_append] at hM)
  go_wp2
  refine bodyPost_ret (results_at3 rfl _ rfl ((hM.ats 0 _ _ _ rfl).congr (lay_pasz _ _)) (rowTab _ _ rfl)) rfl ?_
  exact ⟨ret_pas3 Hr.out, hM.below⟩

set_option maxRecDepth 100000 in
set_option maxHeartbeats 2000000 in
theorem specGrowOnce_any (p : Nat → Int) (hp : Fits p) (h : Nat → Int) (hF : FitsW h) (w : World) :
    Calls Tryd.prog 35 #[.agg (arr 122 (pas p)), .agg (arr 12 (gro h))] w fun e w' => e = .returned (growD p h 1) ∧ Below w.heap.size w w' := by
  have hM := Mem.nil w
  have HP := Lib.hid hp
  have HF := Lib.hid hF
  clear hp hF
  have tk_b1 : True := trivial; have tk_b2 : True := trivial; have tk_b3 : True := trivial; have tk_q1 : True := trivial
  cases ho : (okB p && growB h)
  · have Hr := Lib.hid (growD_no (n := 1) ho)
    have Hc := Lib.hid (askG_no ho)
    clear ho
    go_enter Tryd.func35, Tryd.ntmps35
    go_wp2_with (first | (have _t := tk_b1; refine wpList_box rfl _ _ rfl _ _ rfl hM ?_; intro b1 W' hb1 hM'; clear hM tk_b1; have hM := hM'; clear hM') | (have _t := tk_b2; refine wpList_box rfl _ _ rfl _ _ rfl hM ?_; intro b2 W' hb2 hM'; clear hM tk_b2; have hM := hM'; clear hM') | (have _t := tk_b3; refine wpList_zero rfl _ rfl (zeroTab _ _ _ rfl) hM ?_; intro b3 W' hb3 hM'; clear hM tk_b3; have hM := hM'; clear hM') | (go_at_call 74; (with_reducible refine (l04Asked_any p HP.out h HF.out b1 b2 _ (hM.ats 2 _ _ _ rfl) (hM.ats 1 _ _ _ rfl) (hM.apart 2 1 _ _ rfl rfl (by omega))).mono ?_); rintro e W' ⟨rfl, hb'⟩; rw [Hc.out]; have hM' := hM.call hb'; clear hM hb'; have hM := hM'; clear hM') | (have _t := tk_q1; (refine wpList_lay rfl _ _ _ rfl _ _ rfl _ _ rfl hM 0 rfl (by assumption) (rowTab _ _ rfl) (by omega) ?_ ?_; (first | (intro _ _; rfl) | (intro k _; exact h1 _) | (intro k _; simp only [lay, upd]; (repeat' split) <;> first | exact h1 _ | rfl)); intro W' hM'; clear hM; have hM := hM'; clear hM'; simp only [List.set] at hM); clear tk_q1))
    refine bodyPost_ret (results_at3 rfl _ rfl ((hM.ats 0 _ _ _ rfl).congr (lay_zP _)) (rowTab _ _ rfl)) rfl ?_
    exact ⟨ret_pas3 Hr.out, hM.below⟩
  have Hc := Lib.hid (askG_yes ho)
  have ho' := ho
  rw [Bool.and_eq_true] at ho'
  obtain ⟨W, H, p0, p1, hW, hH⟩ := ok_sizes2 ho'.1
  have Hr := Lib.hid (growD_ok (n := 1) ho (inB_yes (by omega)) p0 p1)
  have Hp := Lib.hid (ok_in ho'.1)
  have He := Lib.hid ho'.2
  have hD := Lib.hid (dayG_in He.out Hp.out W H 1)
  have hDf := Lib.hid (dayG_fits He.out Hp.out HP.out W H 1)
  have s1 := gsum_in hD.out
  have s2 := gsum_in Hp.out
  have hcon0 := fun bg w hA => l04Grow_any h p He.out Hp.out W H hW hH p0 p1 bg w hA
  rw [show growT h p W (W * H) = dayG h p W H 1 from rfl] at hcon0
  have hcon := Lib.hid hcon0
  clear ho ho' hcon0
  generalize dayG h p W H 1 = D at *
  have c1 : IntKind.i64.wrap (gsum D - gsum p) = gsum D - gsum p := IntWalk.i64_in _ (by omega)
  have SD := Lib.hid (l01Sum_g D hDf.out hD.out)
  have SP := Lib.hid (l01Sum_g p HP.out Hp.out)
  generalize gsum D = x at *
  generalize gsum p = y at *
  clear s1 s2
  have tk_b4 : True := trivial; have tk_q2 : True := trivial
  go_enter Tryd.func35, Tryd.ntmps35
  go_wp2_with (first | (have _t := tk_b1; refine wpList_box rfl _ _ rfl _ _ rfl hM ?_; intro b1 W' hb1 hM'; clear hM tk_b1; have hM := hM'; clear hM') | (have _t := tk_b2; refine wpList_box rfl _ _ rfl _ _ rfl hM ?_; intro b2 W' hb2 hM'; clear hM tk_b2; have hM := hM'; clear hM') | (have _t := tk_b3; refine wpList_zero rfl _ rfl (zeroTab _ _ _ rfl) hM ?_; intro b3 W' hb3 hM'; clear hM tk_b3; have hM := hM'; clear hM') | (go_at_call 74; (with_reducible refine (l04Asked_any p HP.out h HF.out b1 b2 _ (hM.ats 2 _ _ _ rfl) (hM.ats 1 _ _ _ rfl) (hM.apart 2 1 _ _ rfl rfl (by omega))).mono ?_); rintro e W' ⟨rfl, hb'⟩; rw [Hc.out]; have hM' := hM.call hb'; clear hM hb'; have hM := hM'; clear hM') | (have _t := tk_q2; (refine wpList_get rfl _ _ rfl _ _ rfl hM 2 rfl (rowTab _ _ rfl) (by omega) ?_); clear tk_q2) | (go_at_call 75; (with_reducible refine (hcon.out b2 _ (hM.ats 1 _ _ _ rfl)).mono ?_); rintro e W' ⟨rfl, hb'⟩; have hM' := hM.call hb'; clear hM hb'; have hM := hM'; clear hM') | (have _t := tk_b4; refine wpList_zero rfl _ rfl (zeroTab _ _ _ rfl) hM ?_; intro b4 W' hb4 hM'; clear hM tk_b4; have hM := hM'; clear hM') | (have _t := tk_q1; (refine wpList_lay rfl _ _ _ rfl _ _ rfl _ _ rfl hM 0 rfl (by assumption) (rowTab _ _ rfl) (by omega) ?_ ?_; (first | (intro _ _; rfl) | (intro k _; exact h1 _) | (intro k _; simp only [lay, upd]; (repeat' split) <;> first | exact h1 _ | rfl)); intro W' hM'; clear hM; have hM := hM'; clear hM'; simp only [List.set] at hM); clear tk_q1))
  have hM2 := hM.re 0 rfl (pas D) (lay_pasy _ _)
  simp only [List.set_cons_zero] at hM2
  clear hM
  have hM := hM2
  clear hM2
  have hM2 := hM.swap
  clear hM
  have hM := hM2
  clear hM2
  ((try simp only [Act.put, List.setIfInBounds_toArray, List.set_cons_succ, List.set_cons_zero]); refine region_readsX [0, 1, 2, 3] #[true, true, true, true, false, false, false] 3 [(b3, 122, zP)] (by kernel_rfl) (by kernel_rfl) (by kernel_rfl) hM ?_; clear hM; (repeat (refine qs_plain rfl rfl ?_; first | (refine b_get _ _ rfl _ _ rfl 0 rfl (rowTab _ _ rfl) (by omega) ?_; (simp only [Act.put, List.setIfInBounds_toArray, List.set_cons_succ, List.set_cons_zero])) | (refine b_call ?_; apply Exists.intro; apply Exists.intro; apply Exists.intro; refine ⟨fun W => ?_, fun W hM => ?_, ?_⟩; (go_simp; exact ⟨rfl, rfl⟩); (with_reducible exact SD.out b4 W (hM.ats 0 _ _ _ rfl)); (simp only [Act.put, List.setIfInBounds_toArray, List.set_cons_succ, List.set_cons_zero])) | (refine b_call ?_; apply Exists.intro; apply Exists.intro; apply Exists.intro; refine ⟨fun W => ?_, fun W hM => ?_, ?_⟩; (go_simp; exact ⟨rfl, rfl⟩); (with_reducible exact SP.out b1 W (hM.ats 2 _ _ _ rfl)); (simp only [Act.put, List.setIfInBounds_toArray, List.set_cons_succ, List.set_cons_zero])) | (refine b_val ?_; apply Exists.intro; refine ⟨fun W => ?_, ?_⟩; (go_simp; (try simp only [c1, if_true]); rfl); (simp only [Act.put, List.setIfInBounds_toArray, List.set_cons_succ, List.set_cons_zero])))); (with_reducible refine qs_nil ?_))
  (refine mix_one (i := 4) (by kernel_rfl) rfl (by kernel_rfl) rfl ?_)
  (refine step_lay _ _ _ rfl _ _ rfl _ _ rfl 0 rfl (by assumption) (rowTab _ _ rfl) (by omega) ?_ ?_; (first | (intro _ _; rfl) | (intro k _; exact h1 _)); simp only [List.set]; (simp only [Act.put, List.setIfInBounds_toArray, List.set_cons_succ, List.set_cons_zero]))
  (refine mix_one (i := 5) (by kernel_rfl) rfl (by kernel_rfl) rfl ?_)
  (refine step_val ?_; apply Exists.intro; refine ⟨fun W => ?_, ?_⟩; (go_simp; rfl); (simp only [Act.put, List.setIfInBounds_toArray, List.set_cons_succ, List.set_cons_zero]))
  (refine mix_one (i := 6) (by kernel_rfl) rfl (by kernel_rfl) rfl ?_)
  (refine step_val ?_; apply Exists.intro; refine ⟨fun W => ?_, ?_⟩; (go_simp; rfl); (simp only [Act.put, List.setIfInBounds_toArray, List.set_cons_succ, List.set_cons_zero]))
  (refine mix_end (by kernel_rfl) ?_; intro W' hM; simp only [List.cons_append, List.nil_append] at hM)
  go_wp2
  refine bodyPost_ret (results_at3 rfl _ rfl ((hM.ats 0 _ _ _ rfl).congr (lay_pasz _ _)) (rowTab _ _ rfl)) rfl ?_
  exact ⟨ret_pas3 Hr.out, hM.below⟩
end Go.Proofs.YtjfmhnbbdkejeaaDoor

/-
  impl's tend and yieldOf of a growth by contracts.
-/
namespace Go.Proofs.YtjfmhnbbdkejeaaDoor
open Go Go.RowKit Go.BigFrame

theorem growLater (v : Value) (w : World) : (Go.method 337 56 v "loop.example/g01345/impl.later").run Tryd.prog w = .ok (64, v) w := by kernel_rfl
theorem noGrazing (v : Value) (w : World) : (Instr.typeAssert (.iface 56 v) 178 196 true).run Tryd.prog w = .ok (.tuple #[.pointer none, .bool false]) w := by kernel_rfl
theorem noMowing (v : Value) (w : World) : (Instr.typeAssert (.iface 56 v) 178 197 true).run Tryd.prog w = .ok (.tuple #[.int .i64 0, .bool false]) w := by kernel_rfl
set_option maxRecDepth 100000 in
theorem yieldOf_gro (v : Value) (n : Int) (w : World) :
    Calls Tryd.prog 128 #[.iface 56 v, .int .i64 n] w fun e w' => e = .returned (.int .i64 n) ∧ Below w.heap.size w w' := by
  have t1 := noGrazing v
  have t2 := noMowing v
  go_enter Tryd.func128, Tryd.ntmps128
  go_wp2
  go_ret
  exact ⟨rfl, Below.refl _ _⟩
theorem grassAt_of (p : Nat → Int) (hp : Fits p) (f : Nat → Value) (x y : Nat) (hx : x < 10) (hy : y < 10) (h0 : f 0 = .int .i8 x) (h1 : f 1 = .int .i8 y) (w : World) :
    Calls Tryd.prog 103 #[.agg (arr 122 (pas p)), .agg (arr 2 f)] w fun e w' => e = .returned (.int .i64 (p (2 + y * 10 + x))) ∧ Below w.heap.size w w' := by
  rw [show arr 2 f = arr 2 (sp x y) from arr_congr fun k hk => by
    rcases (show k = 0 ∨ k = 1 by omega) with rfl | rfl
    · exact h0
    · exact h1]
  exact grassAt_any p hp x y hx hy w
/-- The i-th cell, as a spot. -/
def sC (W : Nat) : Nat → Int × Int := fun i => (((i % W : Nat) : Int), ((i / W : Nat) : Int))
theorem lay_two0 (z F : Nat → Value) (i : Nat) (v : Value) (h : F (i * 2) = v) : lay z 0 2 (fun q => F (i * 2 + q)) 0 = v := by simpa [lay] using h
theorem lay_two1 (z F : Nat → Value) (i : Nat) (v : Value) (h : F (i * 2 + 1) = v) : lay z 0 2 (fun q => F (i * 2 + q)) 1 = v := by simpa [lay] using h

def TendIn (w : Base) (h p : Nat → Int) (W M b6 b3 bc N : Nat) (F : Nat → Value) (c i : Value) (wr : World) : Prop :=
  ∃ k : Nat, k ≤ M ∧ c = .int .i64 (gsum (growT h p W k) - gsum p) ∧ i = .int .i64 k ∧ Mem w [(b6, 122, zP), (b3, 122, pas (growT h p W k)), (bc, N, F)] wr

set_option maxRecDepth 100000 in
set_option maxHeartbeats 4000000 in
theorem tend_gro (h p : Nat → Int) (e : growB h = true) (hp : GrassOk p) (hf : Fits p) (W H : Nat) (hW : 1 ≤ W ∧ W ≤ 10) (hH : 1 ≤ H ∧ H ≤ 10) (bc N cc : Nat) (F : Nat → Value) (hN : W * H * 2 ≤ N) (hF : ∀ j, j < W * H * 2 → F j = sps (sC W) j) (w : World) (hA : At w bc N F) :
    Calls Tryd.prog 108 #[.agg (arr 122 (pas p)), .slice (some ⟨bc, 0, none⟩) (W * H) cc, .iface 56 (.agg (arr 12 (gro h)))] w fun e w' =>
      e = .returned (.tuple #[.agg (arr 122 (pas (growT h p W (W * H)))), .int .i64 (gsum (growT h p W (W * H)) - gsum p)]) ∧ Below w.heap.size w w' := by
  have hM : Mem w [(bc, N, F)] w := (Mem.nil w).old hA (fun i p h => by simp at h)
  have hWH : W * H ≤ 100 := Nat.mul_le_mul hW.2 hH.2
  have hdiv : ∀ i, i < W * H → i / W < H := fun i hi => Nat.div_lt_of_lt_mul hi
  have HF := Lib.hid hF
  have Hp := Lib.hid hp
  have Hf := Lib.hid hf
  have He := Lib.hid e
  have Hd := Lib.hid hdiv
  clear hA hp e hF hf hdiv
  generalize W * H = M at *
  have tk_b3 : True := trivial; have tk_b6 : True := trivial
  go_enter Tryd.func108, Tryd.ntmps108
  go_wp2_with (first | (have _t := tk_b3; refine wpList_box rfl _ _ rfl _ _ rfl hM ?_; intro b3 W' hb3 hM'; clear hM tk_b3; have hM := hM'; clear hM') | (have _t := tk_b6; refine wpList_zero rfl _ rfl (zeroTab _ _ _ rfl) hM ?_; intro b6 W' hb6 hM'; clear hM tk_b6; have hM := hM'; clear hM'))
  go_loopw [8, 15] (fun c i wr => TendIn w h p W M b6 b3 bc N F c i wr) (fun _ i _ => M - (intOf i).toNat)
  case atStart => exact ⟨0, by omega, by rw [growT_zero]; exact congrArg _ (by omega), rfl, by rw [growT_zero]; exact hM⟩
  case round =>
    clear hM
    obtain ⟨i, hi, rfl, rfl, hM⟩ := hrel
    have q1 := growT_in He.out Hp.out W i
    have q2 := growT_fits He.out Hp.out Hf.out W i
    have Q2 := Lib.hid q2
    have s1 := gsum_in q1
    have s0 := gsum_in Hp.out
    by_cases hlt : i < M
    · have li : (i : Int) < M := by omega
      have hk := Hd.out i hlt
      have hj := Nat.mod_lt i (show 0 < W by omega)
      have hij : i / W * W + i % W = i := by rw [Nat.mul_comm]; exact Nat.div_add_mod i W
      have ef0 : F (i * 2) = .int .i8 ((i % W : Nat) : Int) := by rw [HF.out _ (by omega), ← Nat.add_zero (i * 2), sps_fst]; rfl
      have ef1 : F (i * 2 + 1) = .int .i8 ((i / W : Nat) : Int) := by rw [HF.out _ (by omega), sps_snd]; rfl
      have hs := growT_succ h p W (i / W) (i % W) hj hW.2 (by omega)
      have hg := gsum_succ h p W (i / W) (i % W) hj hW.2 (by omega)
      have ha := growT_at h p W (i / W) (i % W) hj hW.2 (by omega)
      have hr := Hp.out.at (k := i / W) (j := i % W) (by omega) (by omega)
      have s2 := gsum_in (growT_in He.out Hp.out W (i + 1))
      rw [hij] at hs hg ha
      generalize i % W = j at *
      generalize i / W = k at *
      have lj : (j : Int) < 10 := by omega
      have lk : (k : Int) < 10 := by omega
      obtain ⟨n, hn⟩ : ∃ n : Nat, p (2 + k * 10 + j) = n := ⟨(p (2 + k * 10 + j)).toNat, by omega⟩
      rw [hn] at hs hg ha hr
      rw [Int.toNat_natCast] at hs hg
      have hl := later_in He.out (n := n) (by omega)
      have hn1 : n ≤ 1000 := by omega
      have es0 := fun z => lay_two0 z F i _ ef0
      have es1 := fun z => lay_two1 z F i _ ef1
      have c1 : IntKind.i16.wrap (laterN h n) = laterN h n := IntWalk.i16_in _ (by omega)
      have c2 : IntKind.i64.wrap (laterN h n - n) = laterN h n - n := IntWalk.i64_in _ (by omega)
      have c3 : IntKind.i64.wrap (gsum (growT h p W i) - gsum p + (laterN h n - n)) = gsum (growT h p W (i + 1)) - gsum p := by rw [IntWalk.i64_in _ (by omega), hg]; omega
      have Hs := Lib.hid hs
      have Ga : ∀ W', Calls Tryd.prog 103 #[.agg (arr 122 (pas (growT h p W i))), .agg (arr 2 (fun q => lay (fun _ => .int .i8 0) 0 2 (fun q => F (i * 2 + q)) q))] W' fun e w' => e = .returned (.int .i64 n) ∧ Below W'.heap.size W' w' := fun W' => by
        rw [← ha]; exact grassAt_of _ q2 _ j k (by omega) (by omega) (es0 _) (es1 _) W'
      have GA := Lib.hid Ga
      have hm := growLater
      have hone : ∀ q, q < 2 → (F (i * 2 + q)).oneCell' = true := fun q hq => by
        rcases (show q = 0 ∨ q = 1 by omega) with rfl | rfl
        · rw [Nat.add_zero, ef0]; rfl
        · rw [ef1]; rfl
      have ho2 : i * 2 + 2 ≤ N := by omega
      have ho3 : 2 + k * 10 + j < 122 := by omega
      have hk2 : 2 ≤ 2 + k * 10 + j := by omega
      have hk3 : 2 + k * 10 + j < 102 := by omega
      clear hs hg ha hr hl s0 s1 s2 q1 q2 Ga hn hij hj hk ef0 ef1
      have tk_bs : True := trivial; have tk_r1 : True := trivial; have tk_r2 : True := trivial; have tk_r3 : True := trivial; have tk_r4 : True := trivial
      go_wp2_with (first | (have _t := tk_r1; (refine wpList_get rfl _ _ rfl _ _ rfl hM 2 rfl (rowTab _ _ rfl) (by omega) ?_); clear tk_r1) | (have _t := tk_bs; refine wpList_zero rfl _ rfl (zeroTab _ _ _ rfl) hM ?_; intro bs W' hbs hM'; clear hM tk_bs; have hM := hM'; clear hM') | (have _t := tk_r2; refine wpList_lay rfl _ _ _ rfl _ _ rfl _ _ rfl hM 0 rfl (by assumption) (rowTab _ _ rfl) (by omega) hone ?_; intro W' hM'; clear hM tk_r2; have hM := hM'; clear hM'; simp only [List.set] at hM) | (have _t := tk_r3; (refine wpList_get rfl _ _ rfl _ _ rfl hM 2 rfl (rowTab _ _ rfl) (by omega) ?_); clear tk_r3) | (have _t := tk_r4; (refine wpList_get rfl _ _ rfl _ _ rfl hM 0 rfl (rowTab _ _ rfl) (by omega) ?_); clear tk_r4) | (go_at_call 103; refine (GA.out _).mono ?_; rintro e W' ⟨rfl, hb'⟩; have hM' := hM.call hb'; clear hM hb'; have hM := hM'; clear hM') | (go_at_call 64; (with_reducible refine (later_any h He.out n hn1 _).mono ?_); rintro e W' ⟨rfl, hb'⟩; have hM' := hM.call hb'; clear hM hb'; have hM := hM'; clear hM'))
      ((try simp only [Act.put, List.setIfInBounds_toArray, List.set_cons_succ, List.set_cons_zero]); refine region_tail_mem (m := 9) (by kernel_rfl) (by kernel_rfl) ?_; (have hM' := hM.drew); clear hM; have hM := hM'; clear hM'; simp only [List.take_succ_cons, List.take_zero, List.drop_succ_cons, List.drop_zero]; (repeat (refine wps_plain rfl ?_; (first | (refine still_get1 hM _ _ rfl _ _ rfl 0 rfl (cellTab _ rfl) (by omega) _ (es1 _) ?_) | (refine still_get1 hM _ _ rfl _ _ rfl 0 rfl (cellTab _ rfl) (by omega) _ (es0 _) ?_) | (refine still_val ?_; apply Exists.intro; refine ⟨fun W => ?_, ?_⟩; (go_simp; (try simp only [c1, lj, lk, if_true]); rfl))); (simp only [Act.put, List.setIfInBounds_toArray, List.set_cons_succ, List.set_cons_zero]))); unfold wpStill)
      go_wp2_with (first | (refine wpList_set1 rfl _ _ _ rfl _ _ rfl (.int .i16 (laterN h n)) rfl rfl hM 2 rfl (by assumption) (cellTab _ rfl) (by omega) ?_; intro W' hM'; clear hM; have hM := hM'; clear hM'; simp only [List.set] at hM))
      rw [upd_pas _ _ _ hk2 hk3, Hs.out] at hM
      go_roundw
      case rel => exact (⟨i + 1, by omega, rfl, by go_num, hM.drop⟩ : TendIn w h p W M b6 b3 bc N F _ _ _)
      case measure => simp [intOf]; omega
    · obtain rfl : i = M := by omega
      have hy := fun v n w => yieldOf_gro v n w
      go_wp2
      ((try simp only [Act.put, List.setIfInBounds_toArray, List.set_cons_succ, List.set_cons_zero]); refine region_head_mem (m := 4) (by kernel_rfl) (by kernel_rfl) hM ?_; clear hM; simp only [List.take_succ_cons, List.take_zero, List.drop_succ_cons, List.drop_zero]; (repeat (first | go_big_quiet_skip | (go_big_quiet_want; first | (refine quiet_get _ _ rfl _ _ rfl 1 rfl (rowTab _ _ rfl) (by omega) ?_; (simp only [Act.put, List.setIfInBounds_toArray, List.set_cons_succ, List.set_cons_zero]); go_big_quiet_on) | (refine quiet_call ?_; apply Exists.intro; apply Exists.intro; apply Exists.intro; refine ⟨fun W => ?_, fun W hM => ?_, ?_⟩; (go_simp; exact ⟨rfl, rfl⟩); (with_reducible exact yieldOf_gro _ _ W); (simp only [Act.put, List.setIfInBounds_toArray, List.set_cons_succ, List.set_cons_zero]); go_big_quiet_on) | (refine quiet_val ?_; apply Exists.intro; refine ⟨fun W => ?_, ?_⟩; (go_simp; rfl); (simp only [Act.put, List.setIfInBounds_toArray, List.set_cons_succ, List.set_cons_zero]); go_big_quiet_on)))); (with_reducible refine wpQuiet_nil ?_); intro W' hM)
      go_wp2_with (first | (refine wpList_lay rfl _ _ _ rfl _ _ rfl _ _ rfl hM 0 rfl (by assumption) (rowTab _ _ rfl) (by omega) ?_ ?_; (first | (intro _ _; rfl) | (intro k _; exact h1 _) | (intro k _; simp only [lay, upd]; (repeat' split) <;> first | exact h1 _ | rfl)); intro W' hM'; clear hM; have hM := hM'; clear hM'; simp only [List.set] at hM))
      refine bodyPost_ret (results_at2 rfl _ rfl ((hM.ats 0 _ _ _ rfl).congr (lay_pasz _ _)) (rowTab _ _ rfl) _ rfl) rfl ?_
      exact ⟨rfl, hM.below⟩
end Go.Proofs.YtjfmhnbbdkejeaaDoor

/-
  Lists that are results: what a law may take of them.
-/
namespace Go.Proofs.YtjfmhnbbdkejeaaDoor
open Go Go.RowKit Go.BigFrame

theorem sps_row (s : Nat → Int × Int) (k j : Nat) (hj : j < 2) : sps s (k * 2 + j) = sp (s k).1 (s k).2 j := by
  rcases (show j = 0 ∨ j = 1 by omega) with rfl | rfl
  · exact sps_fst s k
  · exact sps_snd s k
theorem spot_infoB : (Tryd.prog.info? 34).map (fun i => (i.size, i.zero, i.bytes)) = some (2, some (.agg (arr 2 fun _ => .int .i8 0)), 2) := by kernel_rfl
theorem spots_zero : (Tryd.prog.info? 44).map (·.zero) = some (some (.slice none 0 0)) := by kernel_rfl
theorem sp_one {x y : Int} : ∀ k, k < 2 → (sp x y k).oneCell' = true := fun k hk => by
  rcases (show k = 0 ∨ k = 1 by omega) with rfl | rfl <;> rfl

theorem sp_one0 {x y : Int} : ∀ k, k < 2 → (sp x y (0 + k)).oneCell' = true := fun k hk => by rw [Nat.zero_add]; exact sp_one k hk
theorem spots_cell : CellT Tryd.prog 44 := ⟨⟨_, spot_under, rfl⟩, by kernel_rfl⟩

theorem Lst.up {w0 w1 : World} {K : Blocks} {m n : Nat} {v : Value} {R : Nat → Value} {W : World} (hM : Mem w0 K w1) (h : Lst w1 [] m v n R W) : Lst w0 [] m v n R W ∧ Below w1.heap.size w1 W := by
  rcases h with ⟨h1, h2, h⟩ | ⟨b, c, F, h1, h2, h3, h4, h⟩
  · exact ⟨.inl ⟨h1, h2, Mem.start (hM.call h.below).good⟩, h.below⟩
  · exact ⟨.inr ⟨b, c, F, h1, Nat.le_trans hM.size h2, h3, h4, h.base (hM.call h.below).good⟩, h.below⟩
theorem Mem.freshH {b0 : Base} {L : Blocks} {X X' : World} {b n : Nat} {f : Nat → Value} (hM : Mem b0 L X) (hb : Below X.heap.size X X') (ha : At X' b n f) (hge : X.heap.size ≤ b) : Mem b0 ((b, n, f) :: L) X' := by
  have hM2 := hM.call hb
  have off : ∀ (i : Nat) (p : Nat × Nat × (Nat → Value)), L[i]? = some p → p.1 ≠ b := fun i p h => by
    have := (hM.ats i p.1 p.2.1 p.2.2 h).lt
    omega
  refine ⟨hM2.good, fun i b' n' f' hi => ?_, fun i j x y hi hj hne => ?_⟩
  · match i, hi with
    | 0, hi => simp at hi; obtain ⟨rfl, rfl, rfl⟩ := hi; exact ha
    | i + 1, hi => exact hM2.ats i b' n' f' (by simpa using hi)
  · match i, j, hi, hj with
    | 0, 0, _, _ => exact absurd rfl hne
    | 0, j + 1, hi, hj => simp at hi hj; rw [← hi]; exact fun e => off j y hj e.symm
    | i + 1, 0, hi, hj => simp at hi hj; rw [← hj]; exact off i x hi
    | i + 1, j + 1, hi, hj => exact hM2.apart i j x y (by simpa using hi) (by simpa using hj) (by omega)
theorem Lst.some {w : World} {m n : Nat} {v : Value} {R : Nat → Value} {W : World} (h : Lst w [] m v n R W) (hn : 0 < n) : ∃ b c F, v = .slice (some ⟨b, 0, none⟩) n c ∧ w.heap.size ≤ b ∧ n ≤ c ∧ (∀ j, j < n * m → F j = R j) ∧ At W b (c * m) F ∧ Below w.heap.size w W := by
  rcases h with ⟨-, h, -⟩ | ⟨b, c, F, h1, h2, h3, h4, h5⟩
  · omega
  · exact ⟨b, c, F, h1, h2, h3, h4, h5.at0, h5.below⟩
theorem Lst.zero {w : World} {m n : Nat} {v : Value} {R : Nat → Value} {W : World} (h : Lst w [] m v n R W) (hn : n = 0) : ∃ a c, v = .slice a 0 c ∧ Below w.heap.size w W := by
  rcases h with ⟨h1, -, h⟩ | ⟨b, c, F, h1, h2, h3, h4, h5⟩
  · exact ⟨none, 0, h1, h.below⟩
  · exact ⟨_, c, by rw [h1, hn], h5.below⟩
end Go.Proofs.YtjfmhnbbdkejeaaDoor

/-
  Lists of spots as results: their numbers, and what a function that returns such a list and a code answers.
-/
namespace Go.Proofs.YtjfmhnbbdkejeaaDoor
open Go Go.RowKit Go.BigFrame

/-- Spots of a list. -/
def sI (l : List (Int × Int)) : Nat → Int × Int := fun k => l.getD k (0, 0)
theorem spsI_old {l : List (Int × Int)} (x : Int × Int) {j : Nat} (h : j < l.length * 2) : sps (sI l) j = sps (sI (l ++ [x])) j := by
  have e : sI (l ++ [x]) (j / 2) = sI l (j / 2) := by simp [sI, List.getElem?_append, show j / 2 < l.length by omega]
  simp [sps, e]
theorem spsI_new (l : List (Int × Int)) (u v : Int) {j : Nat} (h : j < 2) : sp u v j = sps (sI (l ++ [(u, v)])) (l.length * 2 + j) := by
  rw [sps_row _ _ _ h]
  simp [sI]

/-- A list and a code. -/
def GivesI (w : World) (l : List (Int × Int)) (c : Int) (e : Ending) (w' : World) : Prop := ∃ v, e = .returned (.tuple #[v, .int .i64 c]) ∧ Lst w [] 2 v l.length (sps (sI l)) w'
def GivesL (w : World) (l : List (Int × Int)) (e : Ending) (w' : World) : Prop := ∃ v, e = .returned v ∧ Lst w [] 2 v l.length (sps (sI l)) w'
end Go.Proofs.YtjfmhnbbdkejeaaDoor

