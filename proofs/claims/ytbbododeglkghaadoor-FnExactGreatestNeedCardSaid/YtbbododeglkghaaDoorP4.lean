/-
  Several texts in one: Cat, Head, MeadowD, Int64SC, Plan, Eql0, MeadowI, QuietOld, DayIn.
-/
import Derived.Test.YtbbododeglkghaaDoorP3
import Derived.StillTail
import Derived.Deep.Quiet
import Derived.Test.YtbbododeglkghaaDoorP1
import Derived.Test.YtbbododeglkghaaDoorP2
/-
  PLAIN LAW: a list's elements are appended to a list that has none and no room.
-/
namespace Go.Proofs.YtbbododeglkghaaDoor
open Go Go.RowKit

/-- A block that a call gave, told by its world. -/
theorem Mem.freshQ {b0 : Base} {L : Blocks} {X X' : World} {b n : Nat} {f : Nat → Value} (hM : Mem b0 L X) (hb : Below X.heap.size X X') (ha : At X' b n f) (hge : X.heap.size ≤ b) : Mem b0 ((b, n, f) :: L) X' := by
  have hM2 := hM.call hb
  have off : ∀ (i : Nat) (p : Nat × Nat × (Nat → Value)), L[i]? = some p → p.1 ≠ b := fun i p h => by
    have := (hM.ats i p.1 p.2.1 p.2.2 h).lt
    omega
  refine ⟨hM2.good, fun i b' n' f' hi => ?_, fun i j x y hi hj hne => ?_⟩
  · match i, hi with
    | 0, hi => simp at hi; obtain ⟨rfl, rfl, rfl⟩ := hi; exact ha
    | i + 1, hi => exact hM2.ats i b' n' f' (by simpa using hi)
  · match i, j, hi, hj with
    | 0, 0, _, _ => exact absurd rfl hne
    | 0, j + 1, hi, hj => simp at hi hj; rw [← hi]; exact fun e => off j y hj e.symm
    | i + 1, 0, hi, hj => simp at hi hj; rw [← hj]; exact off i x hi
    | i + 1, j + 1, hi, hj => exact hM2.apart i j x y (by simpa using hi) (by simpa using hj) (by omega)

section
variable {P : Program} {ops : Array Oper} {rest : List Oper} {o : Oper} {a : Act} {w : Base} {W : World} {Q : Exit → Act → World → Prop} {L : Blocks}
/-- A list's elements, one or more, are appended to a list that has none and no room. -/
theorem wpList_cat0 (hgd : o.guard = none) (s x : Operand) (t : TypeId) (ho : o.op = .call { callee := .builtin .append, args := #[s, x], argTypes := #[t, t] })
    (e : TypeId) (m bs : Nat) (z : Value) (hu : P.underlying t = some (.slice e)) (hz : (P.info? e).map (fun i => (i.size, i.zero, i.bytes)) = some (m, some z, bs)) (hzs : z.cells.size = m) (hbs : bs ≤ 1000)
    (b0 : Nat) (hs : a.eval s = .slice (some ⟨b0, 0, none⟩) 0 0) (bn n cn : Nat) (hx : a.eval x = .slice (some ⟨bn, 0, none⟩) n cn) (hn1 : 1 ≤ n) (hn : n ≤ 1048576)
    (hM : Mem w L W) (i0 : Nat) {N : Nat} {f : Nat → Value} (hi0 : L[i0]? = some (bn, N, f)) (hN : n * m ≤ N)
    (h : ∀ b' c' F' W', w.B ≤ b' → n ≤ c' → (∀ j, j < n * m → F' j = f j) → Mem w ((b', c' * m, F') :: L) W' → wpList P ops Q rest (a.put o.dst (.slice (some ⟨b', 0, none⟩) n c')) W') : wpList P ops Q (o :: rest) a W := by
  obtain ⟨i, hi, hq⟩ := Option.map_eq_some_iff.1 hz
  simp only [Prod.mk.injEq] at hq
  obtain ⟨rfl, q2, rfl⟩ := hq
  refine wpList_plain hgd fun J hJ => ?_
  have hb48 : Builtin.nextslicecap (0 + n) 0 * i.bytes ≤ 281474976710656 := growslice_fits (by omega) (by
    have : (0 + n) * i.bytes ≤ 1048576 * 1000 := Nat.mul_le_mul (by omega) hbs
    omega)
  have hr := run_append_grow (P := P) W t o.type e i z hu hi q2 ⟨b0, 0, none⟩ 0 0 [] (by simp) (fun j v hv => by simp at hv) ⟨bn, 0, none⟩ n cn (arr (n * i.size) f).toList (by simp [arr_size]) ((hM.ats i0 _ _ _ hi0).list hN) (by omega) (by omega) hb48
  have hge := grownCap_ge W (0 + n) 0 e
  rw [Nat.zero_add] at hr hge
  unfold Oper.wp execOp
  simp only [ho, resolve, invoke, builtin, Sem.run_bind, Sem.run_pure, Result.andThen_ok, List.map_toArray, List.map_cons, List.map_nil, hs, hx, hr]
  refine hJ _ _ (h _ _ _ _ hM.size hge (fun j hj => ?_) (hM.drew.allocA e _ (grownCap W n 0 e * i.size) ?_))
  · rw [Array.getElem?_append_left (by simp [arr_size]; omega)]
    simp [arr, hj]
  · simp only [Array.size_append, List.size_toArray, size_zeroCells, hzs, Array.length_toList, arr_size, List.length_nil]
    rw [Nat.zero_add, ← Nat.add_mul]
    congr 1; omega
end
end Go.Proofs.YtbbododeglkghaaDoor

/-
  PLAIN LAW: a region that draws its order, whose first m operations only read or make quiet calls (whatever world of a class they get), and whose others follow one another.
-/
namespace Go.Proofs.YtbbododeglkghaaDoor
open Go
variable {P : Program} {ops : Array Oper} {C : World → Prop}

/-- From here on f operations of the head come up, in whatever order; then T. -/
def headQ (P : Program) (ops : Array Oper) (C : World → Prop) (n : Nat) (T : Array Bool → Act → Prop) : Nat → Array Bool → Act → Prop
  | 0, s, a => T s a
  | f + 1, s, a => Region.ready .any ops s ≠ [] ∧ ∀ i ∈ Region.ready .any ops s, i < n ∧ qOp P ops C i (headQ P ops C n T f (s.setIfInBounds i true)) a

theorem any_of_headQ {n g : Nat} {T : Array Bool → Act → Prop} {Q : Exit → Act → World → Prop} (hT : ∀ s a w, C w → T s a → wpAny P .any ops Q g s a w) (f : Nat) :
    ∀ s a w, C w → headQ P ops C n T f s a → wpAny P .any ops Q (f + g) s a w := by
  induction f with
  | zero => intro s a w hw h; rw [Nat.zero_add]; exact hT s a w hw h
  | succ f ih =>
    intro s a w hw h
    rw [Nat.succ_add]
    exact ⟨fun e => absurd e h.1, fun i hi => wpOp_of_qOp hw (fun a' w' hw' h' => ih _ a' w' hw' h') (h.2 i hi).2⟩

/-- What comes up ahead of an open head operation is of the head. -/
theorem below_of_open {n i j : Nat} {s : Array Bool} (hs : Region.sinkB .any ops n = true) (hc : Region.chainB .any ops n = true) (hn : n < ops.size) (inv : HeadInv .any ops n s) (hin : i < n)
    (hi : i ∈ Region.ready .any ops s) (hj : j ∈ Region.ready .any ops s) : j < n := by
  by_cases h : j < n
  · exact h
  · exact absurd hj (tail_waits hs hc hn inv _ i rfl hin (mem_ready.1 hi).1 j (by omega))

theorem headQ_first {n i : Nat} {oi : Oper} {v : Value} {T : Array Bool → Act → Prop} (hoi : ops[i]? = some oi) (hsel : ∀ (j : Nat) (o : Oper) cs b, ops[j]? = some o → o.op ≠ .select cs b)
    (hs : Region.sinkB .any ops n = true) (hc : Region.chainB .any ops n = true) (hn : n < ops.size) (hin : i < n) (hT : ∀ s a, T s a → ∀ j ∈ Region.ready .any ops s, n ≤ j) (f : Nat) :
    ∀ s a, HeadInv .any ops n s →
      (∀ j oj, ops[j]? = some oj → j ≠ i → s.getD j true = false → (∀ e ∈ oj.after, Region.binds .any e = true → e.on ≠ i) → oi.apart ops oj = true) →
      i ∈ Region.ready .any ops s → YieldsIn P ops C oi v a → headQ P ops C n T f (s.setIfInBounds i true) (a.put oi.dst v) → headQ P ops C n T (f + 1) s a := by
  induction f with
  | zero =>
    intro s a inv _ hr hy H
    refine ⟨List.ne_nil_of_mem hr, fun j hj => ⟨below_of_open hs hc hn inv hin hr hj, ?_⟩⟩
    by_cases e : j = i
    · subst e; exact hy.qOp hoi H
    · exact absurd (hT _ _ H j (ready_mono hj e)) (by have := below_of_open hs hc hn inv hin hr hj; omega)
  | succ f ih =>
    intro s a inv hfree hr hy H
    refine ⟨List.ne_nil_of_mem hr, fun j hj => ?_⟩
    have hjn := below_of_open hs hc hn inv hin hr hj
    refine ⟨hjn, ?_⟩
    by_cases e : j = i
    · subst e; exact hy.qOp hoi H
    obtain ⟨hju, oj, hoj, hdone⟩ := mem_ready.1 hj
    have hfj := hfree j oj hoj e hju fun d hd hb he => by
      have h1 := hdone d hd hb
      rw [he, getD_both (mem_ready.1 hr).1] at h1
      cases h1
    have step := qOp_put hoj hfj (fun cs b => hsel i oi cs b hoi) (fun cs b => hsel j oj cs b hoj) hy (H.2 j (ready_mono hj e)).2
    refine qOp_mono (fun a' h' => ih _ a' (inv.set hj hjn) (fun k ok hk hki hku hno => hfree k ok hk hki ?_ hno) (ready_mono hr (Ne.symm e)) h'.1 ?_) step
    · by_cases ejk : j = k
      · subst ejk; exact hju
      · rwa [getD_set_ne true ejk] at hku
    · rw [Array.setIfInBounds_comm _ _ e]; exact h'.2

theorem headQ_lex {n g : Nat} {R : Act → Prop} (hsel : Region.noSelect ops = true) (hs : Region.sinkB .any ops n = true) (hc : Region.chainB .any ops n = true) (hn : n < ops.size) (l : List Oper) :
    ∀ (k : Nat) (s : Array Bool) (a : Act), (∀ j, j < l.length → l[j]? = ops[k + j]?) → k + l.length = n → HeadInv .any ops n s → Region.lexHead .any ops g l.length k s = true →
      wpQuiet P ops C R l a → headQ P ops C n (fun s' a' => Region.seqB .any ops g n s' = true ∧ R a') l.length s a := by
  induction l with
  | nil =>
    intro k s a _ hk _ hB h
    obtain rfl : k = n := by simpa using hk
    exact ⟨by simpa [Region.lexHead] using hB, h⟩
  | cons o l ih =>
    intro k s a hl hk inv hB h
    have h0 : ops[k]? = some o := by simpa using (hl 0 (by simp)).symm
    simp only [List.length_cons, Region.lexHead, Bool.and_eq_true] at hB hk
    have hr : k ∈ Region.ready .any ops s := by simpa using hB.1.1
    have hq : qOp P ops C k (wpQuiet P ops C R l) a := by unfold qOp; simp only [h0]; exact h
    obtain ⟨v, hy, hK⟩ := yieldsIn_of_qOp h0 hq
    refine headQ_first h0 (Region.noSelect_spec hsel) hs hc hn (by omega) (fun s' a' h' => seqB_ready h'.1) l.length s a inv (Region.free_spec h0 hB.1.2) hr hy ?_
    refine ih (k + 1) _ _ (fun j hj => ?_) (by omega) (inv.set hr (by omega)) hB.2 hK
    have := hl (j + 1) (by simp; omega)
    simpa [Nat.add_assoc, Nat.add_comm 1 j] using this

theorem any_head {Q : Exit → Act → World → Prop} {a : Act} {w : World} {l : List Oper} (n : Nat) (hB : Region.lexTailB .any l.toArray n = true) (hC : C w)
    (h : wpQuiet P l.toArray C (fun a' => ∀ w', C w' → wpList P l.toArray Q (l.drop n) a' w') (l.take n) a) : wpAny P .any l.toArray Q l.toArray.size (Array.replicate l.toArray.size false) a w := by
  simp only [Region.lexTailB, Bool.and_eq_true, decide_eq_true_eq] at hB
  obtain ⟨⟨⟨⟨b1, b2⟩, b3⟩, b4⟩, b5⟩ := hB
  have e0 : l.toArray.size = l.length := by simp
  have e1 : (l.take n).length = n := by rw [List.length_take]; omega
  have e2 : (l.drop n).length = l.toArray.size - n := by rw [List.length_drop, e0]
  have inv : HeadInv .any l.toArray n (Array.replicate l.toArray.size false) :=
    { size := by simp
      closed := fun j oj _ hl => by rw [getD_replicate_false] at hl; cases hl
      tail := fun t _ ht => getD_in (by simpa using ht) (getD_replicate_false _ _) }
  have H := headQ_lex (P := P) (C := C) (g := l.toArray.size - n) b1 b3 b4 b2 (l.take n) 0 _ a (fun j hj => by rw [e1] at hj; simp [hj]) (by rw [e1]; omega) inv (by rw [e1]; exact b5) h
  have := any_of_headQ (Q := Q) (g := l.toArray.size - n) (fun s a' w' hw' ht => by
    have := wpAny_of_seq (P := P) (md := .any) (Q' := Q) (l.drop n) n s a' w' (fun j => by simp [List.getElem?_drop]) (by rw [e2]; exact ht.1) (ht.2 w' hw')
    rwa [e2] at this) _ _ _ w hC H
  rwa [e1, show n + (l.toArray.size - n) = l.toArray.size by omega] at this

/-- The region, over the memory of a call. -/
theorem region_head_mem {Q : Exit → Act → World → Prop} {a : Act} {w : Base} {W : World} {L : Blocks} {id : Nat} {l : List Oper} (m : Nat) (hm : P.follows .mixedOrders = true) (hB : Region.lexTailB .any l.toArray m = true) (hM : Mem w L W)
    (h : wpQuiet P l.toArray (Mem w L) (fun a' => ∀ W', Mem w L W' → wpList P l.toArray Q (l.drop m) a' W') (l.take m) a) : (Code.region id l.toArray true).wp P Q a W :=
  wp_region_any hm (any_head (C := Mem w L) m hB hM.drew h)
end Go.Proofs.YtbbododeglkghaaDoor

/-
  Meadows behind a day: spec.l07Day by contract; slices.Clone of meadows.
-/
namespace Go.Proofs.YtbbododeglkghaaDoor
open Go Go.RowKit Go.BigFrame

theorem meadow_under : Tryd.prog.underlying 24 = some (.slice 56) := Tryd.underlying24
theorem meadow_info0 : (Tryd.prog.info? 56).map (fun i => i.size) = some 3 := by kernel_rfl

/-- The meadows when so much has been eaten in the m-th one. -/
def cutM (hs : Nat → Nat → Int) (need : Int) (m i j : Nat) : Int := if i = m ∧ j = 0 then hs i 0 - need else hs i j
/-- The meadows behind a day. -/
def dayM (hs : Nat → Nat → Int) (need : Int) (m i j : Nat) : Int := if j = 0 then minQ (hs i 2) (cutM hs need m i 0 + hs i 1) else hs i j
/-- On the way: the first k have grown. -/
def mixM (hs : Nat → Nat → Int) (need : Int) (m k i j : Nat) : Int := if i < k then dayM hs need m i j else cutM hs need m i j
theorem cutM_1 (hs : Nat → Nat → Int) (need : Int) (m i : Nat) : cutM hs need m i 1 = hs i 1 := by simp [cutM]
theorem cutM_2 (hs : Nat → Nat → Int) (need : Int) (m i : Nat) : cutM hs need m i 2 = hs i 2 := by simp [cutM]
theorem cutM_same (hs : Nat → Nat → Int) (need : Int) (m : Nat) : cutM hs need m m 0 = hs m 0 - need := by simp [cutM]
theorem cutM_other {hs : Nat → Nat → Int} {need : Int} {m i : Nat} (h : i ≠ m) (j : Nat) : cutM hs need m i j = hs i j := by simp [cutM, h]
theorem cutM_in {n : Nat} {hs : Nat → Nat → Int} {need : Int} {m : Nat} (hb : ∀ i, i < n → meadB (hs i) = true) (hd : 1 ≤ need ∧ need ≤ 1000) (he : need ≤ hs m 0) {i : Nat} (hi : i < n) : 0 ≤ cutM hs need m i 0 ∧ cutM hs need m i 0 ≤ hs i 2 := by
  obtain ⟨h2, h0, h1⟩ := meadB_iff (hb i hi)
  by_cases e : i = m
  · subst e; rw [cutM_same]; omega
  · rw [cutM_other e]; omega
theorem dayM_ok {n : Nat} {hs : Nat → Nat → Int} {need : Int} {m : Nat} (hb : ∀ i, i < n → meadB (hs i) = true) (hd : 1 ≤ need ∧ need ≤ 1000) (he : need ≤ hs m 0) {i : Nat} (hi : i < n) : meadB (dayM hs need m i) = true := by
  obtain ⟨h2, h0, h1⟩ := meadB_iff (hb i hi)
  have hc := cutM_in hb hd he hi
  have e0 : dayM hs need m i 0 = minQ (hs i 2) (cutM hs need m i 0 + hs i 1) := by simp [dayM]
  have e1 : dayM hs need m i 1 = hs i 1 := by simp [dayM]
  have e2 : dayM hs need m i 2 = hs i 2 := by simp [dayM]
  unfold meadB
  rw [e0, e1, e2, inB_yes h2, inB_yes h1, inB_yes (show 0 ≤ minQ (hs i 2) (cutM hs need m i 0 + hs i 1) ∧ minQ (hs i 2) (cutM hs need m i 0 + hs i 1) ≤ hs i 2 by unfold minQ; split <;> omega)]
  rfl
theorem meadB_fits {h : Nat → Int} (hb : meadB h = true) : FitsMeadow h := by
  obtain ⟨h2, h0, h1⟩ := meadB_iff hb
  exact ⟨by omega, by omega, by omega⟩
theorem meadsB_day {n : Nat} {hs : Nat → Nat → Int} {need : Int} {m : Nat} (hv : meadsB n hs = true) (hd : 1 ≤ need ∧ need ≤ 1000) (he : need ≤ hs m 0) : meadsB n (dayM hs need m) = true := by
  obtain ⟨hn, hb⟩ := meadsB_iff hv
  rw [meadsB_all (fun i hi => dayM_ok hb hd he hi)]
  exact inB_yes (by omega)
/-- The m-th one is eaten from. -/
theorem cut_cells {n : Nat} {F : Nat → Value} {hs : Nat → Nat → Int} (need : Int) {m : Nat} (hF : ∀ j, j < n * 3 → F j = sMeadow hs j) : ∀ j, j < n * 3 → upd F (m * 3) (.int .i16 (hs m 0 - need)) j = sMeadow (mixM hs need m 0) j := fun j hj => by
  simp only [upd]
  have hr := sMeadow_row (mixM hs need m 0) (j / 3) (j % 3) (by omega)
  rw [show j / 3 * 3 + j % 3 = j by omega] at hr
  rw [hr]
  simp only [mixM, if_neg (Nat.not_lt_zero _), vMeadow]
  by_cases e : j = m * 3
  · have e1 : j / 3 = m := by omega
    have e2 : j % 3 = 0 := by omega
    rw [if_pos e, e1, e2, cutM_same]
    rfl
  · have hr := sMeadow_row hs (j / 3) (j % 3) (by omega)
    rw [show j / 3 * 3 + j % 3 = j by omega] at hr
    rw [if_neg e, hF j hj, hr]
    have : ¬ (j / 3 = m ∧ j % 3 = 0) := by omega
    simp only [vMeadow, cutM, if_neg this]
/-- One more has grown. -/
theorem mix_cells {n : Nat} {F : Nat → Value} {hs : Nat → Nat → Int} {need : Int} {m k : Nat} (hF : ∀ j, j < n * 3 → F j = sMeadow (mixM hs need m k) j) {v : Int} (hv : v = dayM hs need m k 0) : ∀ j, j < n * 3 → upd F (k * 3) (.int .i16 v) j = sMeadow (mixM hs need m (k + 1)) j := fun j hj => by
  simp only [upd]
  have hr := sMeadow_row (mixM hs need m (k + 1)) (j / 3) (j % 3) (by omega)
  rw [show j / 3 * 3 + j % 3 = j by omega] at hr
  rw [hr]
  by_cases e : j = k * 3
  · have e1 : j / 3 = k := by omega
    have e2 : j % 3 = 0 := by omega
    rw [if_pos e, e1, e2, hv]
    simp [vMeadow, mixM, kMeadow]
  · have hr := sMeadow_row (mixM hs need m k) (j / 3) (j % 3) (by omega)
    rw [show j / 3 * 3 + j % 3 = j by omega] at hr
    rw [if_neg e, hF j hj, hr]
    simp only [vMeadow, mixM]
    by_cases e1 : j / 3 < k
    · rw [if_pos e1, if_pos (by omega)]
    · rw [if_neg e1]
      by_cases e2 : j / 3 = k
      · have e3 : j % 3 ≠ 0 := by omega
        rw [if_pos (by omega)]
        simp only [dayM, if_neg e3, cutM]
        rw [if_neg (by omega)]
      · rw [if_neg (by omega)]
theorem mix_all {n : Nat} {F : Nat → Value} {hs : Nat → Nat → Int} {need : Int} {m : Nat} (hF : ∀ j, j < n * 3 → F j = sMeadow (mixM hs need m n) j) : ∀ j, j < n * 3 → F j = sMeadow (dayM hs need m) j := fun j hj => by
  rw [hF j hj]
  have hr := sMeadow_row (mixM hs need m n) (j / 3) (j % 3) (by omega)
  have hr' := sMeadow_row (dayM hs need m) (j / 3) (j % 3) (by omega)
  rw [show j / 3 * 3 + j % 3 = j by omega] at hr hr'
  rw [hr, hr']
  simp only [vMeadow, mixM]
  rw [if_pos (by omega)]

/-- A new list of n meadows. -/
def GivesM (n : Nat) (hs : Nat → Nat → Int) (w : World) (e : Ending) (w' : World) : Prop := ∃ b c F, e = .returned (.slice (some ⟨b, 0, none⟩) n c) ∧ w.heap.size ≤ b ∧ n ≤ c ∧ (∀ j, j < n * 3 → F j = sMeadow hs j) ∧ At w' b (c * 3) F ∧ Below w.heap.size w w'
@[go_sem] theorem meads_not_nil (p : Addr) (n c : Nat) (w : World) : (binOp BinOp.eql 24 (.slice (some p) n c) (.slice none 0 0)).run Tryd.prog w = .ok (.bool false) w := by kernel_rfl

theorem clone_meads (b n c N : Nat) (F : Nat → Value) (hs : Nat → Nat → Int) (hn1 : 1 ≤ n) (hn : n ≤ 1048576) (hN : n * 3 ≤ N) (hF : ∀ j, j < n * 3 → F j = sMeadow hs j) (w : World) (hA : At w b N F) :
    Calls Tryd.prog 71 #[.slice (some ⟨b, 0, none⟩) n c] w (GivesM n hs w) := by
  have hM : Mem w [(b, N, F)] w := (Mem.nil w).old hA (fun i p h => by simp at h)
  have Hf := Lib.hid hF
  clear hA hF
  have tk_b1 : True := trivial
  go_enter Tryd.func71, Tryd.ntmps71
  go_wp2_with (first | (have _t := tk_b1; refine wpList_slice0 rfl _ _ rfl _ meadow_under meadow_info0 hM ?_; intro b1 W' hb1 hM'; clear hM tk_b1; have hM := hM'; clear hM') | (refine wpList_cat0 rfl _ _ _ rfl _ 3 _ _ meadow_under infoMeadow rfl (by omega) b1 rfl b n c rfl hn1 hn hM 1 rfl hN ?_; intro bL cL FL W' hbL hcL hFL hM'; clear hM; have hM := hM'; clear hM'))
  go_ret
  exact ⟨bL, cL, FL, rfl, hbL, hcL, fun j hj => by rw [hFL j hj, Hf.out j hj], hM.at0, hM.below⟩

end Go.Proofs.YtbbododeglkghaaDoor

/-
  []int64: laws.szInt64S, toInt64S, eqInt64S and slices.Equal by contracts.
-/
namespace Go.Proofs.YtbbododeglkghaaDoor
open Go Go.RowKit Go.BigFrame Go.ChangeShapes Go.WideShapes Go.Deep

def vInt64S (ys : Nat → Int) : Nat → Value := fun k => .int .i64 (ys k)
theorem cellInt64S : CellT Tryd.prog 2 := ⟨⟨_, Tryd.underlying2, rfl⟩, by kernel_rfl⟩
theorem infoInt64S : (Tryd.prog.info? 2).map (fun i => (i.size, i.zero, i.bytes)) = some (1, some (.int .i64 0), 8) := by kernel_rfl
def fitsInt64S (y : Int) : Prop := -9223372036854775808 ≤ y ∧ y ≤ 9223372036854775807
section
variable {H : Type} {enc : TypeId × Value → H} {w : World} {base : Nat} {spare : Nat → Bool} {held : Bool}
set_option maxRecDepth 100000 in
theorem openInt64S {v : Value} {b0 fuel : Nat} {x : DataW H × List MemPlace} (hok : Cell.okWide Tryd.prog w .any b0 31 v) (h : DataW.trod enc Tryd.prog w base spare held fuel 31 [v] = some x) :
    ∃ (n : Nat) (ys : Nat → Int), n ≤ maxLen ∧ (∀ i, i < n → fitsInt64S (ys i)) ∧ Arg1 w v n (vInt64S ys) :=
  open_list1 Tryd.underlying31 (by kernel_rfl) (fun y => .int .i64 (y)) fitsInt64S 0 (fun fuel v x h => (trod_int1 Tryd.underlying2 fuel v x h).imp fun n h => ⟨h.1, by unfold fitsInt64S; exact has_i64 h.2⟩) hok h
set_option maxRecDepth 100000 in
/-- A list out of its type and its reading. -/
theorem open_int64s {b0 : Nat} {v : Value} {d : DataW H} {p : List MemPlace} (hval : Value.okWide Tryd.prog w .any b0 31 v) (h : DataW.Trod enc Tryd.prog w base spare held 31 v d p) :
    ∃ (n : Nat) (ys : Nat → Int), n ≤ maxLen ∧ (∀ i, i < n → fitsInt64S (ys i)) ∧ Arg1 w v n (vInt64S ys) := by
  obtain ⟨fuel, h⟩ := h
  obtain ⟨sa, sl, sc, rfl⟩ := okWide_slice Tryd.underlying31 hval
  have hok : Cell.okWide Tryd.prog w .any b0 31 (.slice sa sl sc) := by
    unfold Value.okWide at hval
    rw [Tryd.underlying31] at hval
    exact hval
  exact openInt64S hok h
end

set_option maxRecDepth 100000 in
set_option maxHeartbeats 1000000 in
theorem toInt64S_any (v : Value) (n : Nat) (ys : Nat → Int) (hn : n ≤ 1048576) (w : World) (h : Arg1 w v n (vInt64S ys)) : Calls Tryd.prog 21 #[v] w fun e w' => ∃ b, e = .returned (.slice (some ⟨b, 0, none⟩) n n) ∧ w.heap.size ≤ b ∧ At w' b n (vInt64S ys) ∧ Below w.heap.size w w' := by
  have hM := Mem.nil w
  rcases h with ⟨rfl, rfl⟩ | ⟨b, o, c, rfl, hL⟩
  · have tk_b1 : True := trivial
    go_enter Tryd.func21, Tryd.ntmps21
    go_wp2_with (first | (have _t := tk_b1; refine wpList_make1 rfl _ _ _ _ rfl 0 rfl rfl (.int .i64 0) 8 rfl Tryd.underlying31 infoInt64S (by omega) (by omega) hM ?_; intro b1 W' hb1 hM'; clear hM tk_b1; have hM := hM'; clear hM'))
    refine wp_loop_rounds 1 ?_
    rw [rounds_succ]
    go_wp2
    go_ret
    exact ⟨b1, rfl, hb1, (hM.ats 0 _ _ _ rfl).congr (fun k hk => by omega), hM.below⟩
  · have HL := Lib.hid hL
    clear hL
    have tk_b1 : True := trivial
    go_enter Tryd.func21, Tryd.ntmps21
    go_wp2_with (first | (have _t := tk_b1; refine wpList_make1 rfl _ _ _ _ rfl n rfl rfl (.int .i64 0) 8 rfl Tryd.underlying31 infoInt64S (by omega) hn hM ?_; intro b1 W' hb1 hM'; clear hM tk_b1; have hM := hM'; clear hM'))
    go_loopw [4] (fun i wr => ∃ k : Nat, k ≤ n ∧ i = .int .i64 k ∧ ∃ g, Hid (∀ j, j < k → g j = vInt64S ys j) ∧ Mem w [(b1, n, g)] wr) (fun i _ => n - (intOf i).toNat)
    case atStart => exact ⟨0, by omega, rfl, _, Lib.hid (fun j hj => absurd hj (by omega)), hM⟩
    case round =>
      clear hM
      obtain ⟨k, hk, rfl, g, hg, hM⟩ := hrel
      by_cases hlt : k < n
      · go_wp2_with (first | (refine wpList_getL1 rfl _ _ rfl _ _ rfl _ _ (HL.out.below hM.below) cellInt64S k rfl (by omega) (.int .i64 (ys k)) rfl ?_) | (refine wpList_set1 rfl _ _ _ rfl _ _ rfl (.int .i64 (ys k)) rfl rfl hM 0 rfl (by assumption) cellInt64S (by omega) ?_; intro W' hM'; clear hM; have hM := hM'; clear hM'; simp only [List.set] at hM))
        go_roundw
        case rel => exact ⟨k + 1, by omega, by go_num, _, Lib.hid (fun j hj => by
          simp only [upd, Nat.zero_add]
          by_cases e : j = k
          · rw [if_pos (by omega), e]; rfl
          · rw [if_neg (by omega)]; exact hg.out j (by omega)), hM⟩
        case measure => simp [intOf]; omega
      · obtain rfl : k = n := by omega
        go_wp2
        go_ret
        exact ⟨b1, rfl, hb1, (hM.ats 0 _ _ _ rfl).congr hg.out, hM.below⟩

/-! ### equal -/
def eqvInt64S (a b : Int) : Bool := a == b
def sameInt64S (n n' : Nat) (ys ys' : Nat → Int) : Bool := decide (n = n') && (List.range n).all fun i => eqvInt64S (ys i) (ys' i)
theorem sameInt64S_len {n n' : Nat} {ys ys' : Nat → Int} (h : n ≠ n') : sameInt64S n n' ys ys' = false := by simp [sameInt64S, h]
theorem sameInt64S_no {n i : Nat} {ys ys' : Nat → Int} (hi : i < n) (h : eqvInt64S (ys i) (ys' i) = false) : sameInt64S n n ys ys' = false := by
  have : ((List.range n).all fun i => eqvInt64S (ys i) (ys' i)) = false := by rw [List.all_eq_false]; exact ⟨i, by simpa using hi, by rw [h]; decide⟩
  simp [sameInt64S, this]
theorem sameInt64S_yes {n : Nat} {ys ys' : Nat → Int} (h : ∀ i, i < n → eqvInt64S (ys i) (ys' i) = true) : sameInt64S n n ys ys' = true := by
  have : ((List.range n).all fun i => eqvInt64S (ys i) (ys' i)) = true := by rw [List.all_eq_true]; intro i hi; exact h i (by simpa using hi)
  simp [sameInt64S, this]
theorem eqvInt64S_self (a : Int) : eqvInt64S a a = true := by simp [eqvInt64S]
theorem sameInt64S_self (n : Nat) (ys : Nat → Int) : sameInt64S n n ys ys = true := sameInt64S_yes fun i _ => eqvInt64S_self (ys i)
set_option maxRecDepth 100000 in
set_option maxHeartbeats 1000000 in
/-- laws.eqInt64S -/
theorem eqInt64S_any (b b' n n' c c' : Nat) (ys ys' : Nat → Int) (hn : n ≤ maxLen) (hn' : n' ≤ maxLen) (w : World) (hA : At w b n (vInt64S ys)) (hA' : At w b' n' (vInt64S ys')) (hne : b ≠ b') :
    Calls Tryd.prog 23 #[.slice (some ⟨b, 0, none⟩) n c, .slice (some ⟨b', 0, none⟩) n' c'] w fun e w' => e = .returned (.bool (sameInt64S n n' ys ys')) ∧ Below w.heap.size w w' := by
  have hM : Mem w [(b, n, vInt64S ys), (b', n', vInt64S ys')] w := ((Mem.nil w).old hA (fun i p h => by simp at h)).old hA' (fun i p h => by
    match i, h with
    | 0, h => simp at h; rw [← h]; exact hne
    | _ + 1, h => simp at h)
  unfold maxLen at hn hn'
  clear hA hA'
  by_cases hnn : n = n'
  · subst hnn
    go_enter Tryd.func23, Tryd.ntmps23
    go_wp2
    go_loopw [5] (fun i wr => ∃ k : Nat, k ≤ n ∧ i = .int .i64 k ∧ Hid (∀ j, j < k → eqvInt64S (ys j) (ys' j) = true) ∧ Mem w [(b, n, vInt64S ys), (b', n, vInt64S ys')] wr) (fun i _ => n - (intOf i).toNat)
    case atStart => exact ⟨0, by omega, rfl, Lib.hid (fun j hj => absurd hj (by omega)), hM⟩
    case round =>
      clear hM
      obtain ⟨k, hk, rfl, hall, hM⟩ := hrel
      by_cases hlt : k < n
      · have l2 : (k : Int) < n := by omega
        have l3 : decide ((k : Int) < n) = true := decide_eq_true l2
        have c1 : vInt64S ys k = .int .i64 (ys k) := rfl
        have c2 : vInt64S ys' k = .int .i64 (ys' k) := rfl
        cases he : eqvInt64S (ys k) (ys' k)
        · have He := Lib.hid he
          unfold eqvInt64S at he
          have hb : (ys k != ys' k) = true := by rw [bne, he]; rfl
          go_wp2
          ((try simp only [Act.put, List.setIfInBounds_toArray, List.set_cons_succ, List.set_cons_zero]); refine wp_region_mem (by kernel_rfl) (by kernel_rfl) hM ?_; clear hM; (repeat (first | go_big_quiet_skip | (go_big_quiet_want; first | (refine quiet_get1 _ _ rfl _ _ rfl 1 rfl cellInt64S (by omega) _ c2 ?_; (simp only [Act.put, List.setIfInBounds_toArray, List.set_cons_succ, List.set_cons_zero]); go_big_quiet_on) | (refine quiet_get1 _ _ rfl _ _ rfl 0 rfl cellInt64S (by omega) _ c1 ?_; (simp only [Act.put, List.setIfInBounds_toArray, List.set_cons_succ, List.set_cons_zero]); go_big_quiet_on) | (refine quiet_val ?_; apply Exists.intro; refine ⟨fun W => ?_, ?_⟩; (go_simp; (try simp only [l2, l3, hb, if_true, Bool.false_eq_true, if_false]); rfl); (simp only [Act.put, List.setIfInBounds_toArray, List.set_cons_succ, List.set_cons_zero]); go_big_quiet_on)))); (with_reducible refine wpQuiet_nil ?_); intro W' hM)
          go_wp2
          go_ret
          exact ⟨ret_bool (sameInt64S_no hlt He.out).symm, hM.below⟩
        · have He := Lib.hid he
          unfold eqvInt64S at he
          have hb : (ys k != ys' k) = false := by rw [bne, he]; rfl
          go_wp2
          ((try simp only [Act.put, List.setIfInBounds_toArray, List.set_cons_succ, List.set_cons_zero]); refine wp_region_mem (by kernel_rfl) (by kernel_rfl) hM ?_; clear hM; (repeat (first | go_big_quiet_skip | (go_big_quiet_want; first | (refine quiet_get1 _ _ rfl _ _ rfl 1 rfl cellInt64S (by omega) _ c2 ?_; (simp only [Act.put, List.setIfInBounds_toArray, List.set_cons_succ, List.set_cons_zero]); go_big_quiet_on) | (refine quiet_get1 _ _ rfl _ _ rfl 0 rfl cellInt64S (by omega) _ c1 ?_; (simp only [Act.put, List.setIfInBounds_toArray, List.set_cons_succ, List.set_cons_zero]); go_big_quiet_on) | (refine quiet_val ?_; apply Exists.intro; refine ⟨fun W => ?_, ?_⟩; (go_simp; (try simp only [l2, l3, hb, if_true, Bool.false_eq_true, if_false]); rfl); (simp only [Act.put, List.setIfInBounds_toArray, List.set_cons_succ, List.set_cons_zero]); go_big_quiet_on)))); (with_reducible refine wpQuiet_nil ?_); intro W' hM)
          go_wp2
          go_roundw
          case rel => exact ⟨k + 1, by omega, by go_num, Lib.hid (fun j hj => by
            by_cases e : j = k
            · rw [e]; exact He.out
            · exact hall.out j (by omega)), hM⟩
          case measure => simp [intOf]; omega
      · obtain rfl : k = n := by omega
        go_wp2
        go_ret
        exact ⟨ret_bool (sameInt64S_yes hall.out).symm, hM.below⟩
  · have hz : ¬ (n : Int) = n' := by omega
    have d1 : decide ((n : Int) = n') = false := decide_eq_false hz
    have Hs := Lib.hid (sameInt64S_len (ys := ys) (ys' := ys') hnn)
    clear hnn
    go_enter Tryd.func23, Tryd.ntmps23
    go_wp2
    go_ret
    exact ⟨ret_bool Hs.out.symm, hM.below⟩

theorem eqInt64S_same (b b' n c c' : Nat) (ys : Nat → Int) (hn : n ≤ maxLen) (w : World) (hA : At w b n (vInt64S ys)) (hA' : At w b' n (vInt64S ys)) (hne : b ≠ b') :
    Calls Tryd.prog 23 #[.slice (some ⟨b, 0, none⟩) n c, .slice (some ⟨b', 0, none⟩) n c'] w fun e w' => e = .returned (.bool true) ∧ Below w.heap.size w w' := by
  have := eqInt64S_any b b' n n c c' ys ys hn hn w hA hA' hne
  rwa [sameInt64S_self] at this
end Go.Proofs.YtbbododeglkghaaDoor

/-
  Plans: spec.l07Index, l07Plan, impl.checkPlan by contracts; what a plan makes.
-/
namespace Go.Proofs.YtbbododeglkghaaDoor
open Go Go.RowKit Go.BigFrame

/-- Is a plan as told, for n meadows? -/
def planTo (n : Nat) (ys : Nat → Int) (p : Nat) : Bool := (List.range p).all fun i => inB 0 ((n : Int) - 1) (ys i)
def planB (n p : Nat) (ys : Nat → Int) : Bool := decide (p ≤ 30) && planTo n ys p
theorem planTo_no {n p i : Nat} {ys : Nat → Int} (hi : i < p) (h : inB 0 ((n : Int) - 1) (ys i) = false) : planTo n ys p = false := by
  unfold planTo; rw [List.all_eq_false]; exact ⟨i, by simpa using hi, by rw [h]; decide⟩
theorem planTo_yes {n p : Nat} {ys : Nat → Int} (h : ∀ i, i < p → inB 0 ((n : Int) - 1) (ys i) = true) : planTo n ys p = true := by
  unfold planTo; rw [List.all_eq_true]; intro i hi; exact h i (by simpa using hi)
theorem planTo_at {n p i : Nat} {ys : Nat → Int} (h : planTo n ys p = true) (hi : i < p) : inB 0 ((n : Int) - 1) (ys i) = true := by
  unfold planTo at h; rw [List.all_eq_true] at h; exact h i (by simpa using hi)
theorem planTo_succ (n : Nat) (ys : Nat → Int) (p : Nat) : planTo n ys (p + 1) = (planTo n ys p && inB 0 ((n : Int) - 1) (ys p)) := by
  unfold planTo; rw [List.range_succ, List.all_append]; simp
theorem planB_iff {n p : Nat} {ys : Nat → Int} (h : planB n p ys = true) : p ≤ 30 ∧ ∀ i, i < p → 0 ≤ ys i ∧ ys i < n := by
  unfold planB at h
  rw [Bool.and_eq_true, decide_eq_true_iff] at h
  exact ⟨h.1, fun i hi => by have := inB_true (planTo_at h.2 hi); omega⟩

/-- The meadows behind the first i days of a plan. -/
def stM (hs : Nat → Nat → Int) (need : Int) (ys : Nat → Int) : Nat → Nat → Nat → Int
  | 0 => hs
  | i + 1 => dayM (stM hs need ys i) need (ys i).toNat
/-- Can the i-th day be made? -/
def canM (hs : Nat → Nat → Int) (need : Int) (ys : Nat → Int) (i : Nat) : Prop := need ≤ stM hs need ys i (ys i).toNat 0
instance (hs : Nat → Nat → Int) (need : Int) (ys : Nat → Int) (i : Nat) : Decidable (canM hs need ys i) := by unfold canM; infer_instance
/-- How many of the first p days are made until one cannot be. -/
def upM (hs : Nat → Nat → Int) (need : Int) (ys : Nat → Int) : Nat → Nat
  | 0 => 0
  | i + 1 => if upM hs need ys i = i ∧ canM hs need ys i then i + 1 else upM hs need ys i
theorem upM_le (hs : Nat → Nat → Int) (need : Int) (ys : Nat → Int) : ∀ p, upM hs need ys p ≤ p
  | 0 => Nat.le_refl _
  | i + 1 => by
    have := upM_le hs need ys i
    simp only [upM]
    split <;> omega
theorem upM_step {hs : Nat → Nat → Int} {need : Int} {ys : Nat → Int} {i : Nat} (h : upM hs need ys i = i) (hc : canM hs need ys i) : upM hs need ys (i + 1) = i + 1 := by simp [upM, h, hc]
theorem upM_stop {hs : Nat → Nat → Int} {need : Int} {ys : Nat → Int} {i : Nat} (h : upM hs need ys i = i) (hc : ¬ canM hs need ys i) : ∀ d, upM hs need ys (i + d) = i
  | 0 => h
  | d + 1 => by
    have ih := upM_stop h hc d
    rw [show i + (d + 1) = (i + d) + 1 by omega]
    simp only [upM]
    by_cases e : upM hs need ys (i + d) = i + d
    · have : d = 0 := by omega
      subst this
      rw [if_neg (fun q => hc q.2)]; exact ih
    · rw [if_neg (fun q => e q.1)]; exact ih
theorem upM_first {hs : Nat → Nat → Int} {need : Int} {ys : Nat → Int} {i p : Nat} (h : upM hs need ys i = i) (hc : ¬ canM hs need ys i) (hp : i ≤ p) : upM hs need ys p = i := by
  have := upM_stop h hc (p - i)
  rwa [show i + (p - i) = p by omega] at this
/-- The meadows stay valid. -/
theorem stM_ok {n p : Nat} {hs : Nat → Nat → Int} {need : Int} {ys : Nat → Int} (hb : ∀ i, i < n → meadB (hs i) = true) (hd : 1 ≤ need ∧ need ≤ 1000) (hp : ∀ i, i < p → 0 ≤ ys i ∧ ys i < n) : ∀ i, i ≤ p → upM hs need ys i = i → ∀ j, j < n → meadB (stM hs need ys i j) = true
  | 0, _, _, j, hj => hb j hj
  | i + 1, hi, hu, j, hj => by
    have hu' : upM hs need ys i = i ∧ canM hs need ys i := by
      have hle := upM_le hs need ys i
      simp only [upM] at hu
      by_cases e : upM hs need ys i = i ∧ canM hs need ys i
      · exact e
      · rw [if_neg e] at hu; omega
    have ih := stM_ok hb hd hp i (by omega) hu'.1
    exact dayM_ok ih hd hu'.2 hj

theorem l07Index_any (b : Option Addr) (n c : Nat) (hn : n ≤ 1048576) (m : Int) (w : World) :
    Calls Tryd.prog 43 #[.slice b n c, .int .i64 m] w fun e w' => e = .returned (.bool (inB 0 ((n : Int) - 1) m)) ∧ Below w.heap.size w w' := by
  have hM := Mem.nil w
  have c1 : IntKind.i64.wrap ((n : Int) - 1) = (n : Int) - 1 := IntWalk.i64_in _ (by omega)
  go_enter Tryd.func43, Tryd.ntmps43
  go_wp2_with (first | (go_at_call 55; (with_reducible refine (l00In_any m 0 ((n : Int) - 1) _).mono ?_); rintro e W' ⟨rfl, hb'⟩; have hM' := hM.call hb'; clear hM hb'; have hM := hM'; clear hM'))
  go_ret
  exact ⟨ret_bool (a := inB 0 ((n : Int) - 1) m) rfl, hM.below⟩
set_option maxRecDepth 100000 in
set_option maxHeartbeats 4000000 in
theorem l07Plan_any (b n c bp p cp : Nat) (hs : Nat → Nat → Int) (ys : Nat → Int) (hF : ∀ i, i < n → FitsMeadow (hs i)) (hn : n ≤ 1048576) (hp : p ≤ 1048576) (need : Int) (w : World) (hB : At w b (n * 3) (sMeadow hs)) (hP : At w bp p (vInt64S ys)) (hne : b ≠ bp) :
    Calls Tryd.prog 47 #[.slice (some ⟨b, 0, none⟩) n c, .int .i64 need, .slice (some ⟨bp, 0, none⟩) p cp] w fun e w' => e = .returned (.int .i64 (meadC n hs need (planB n p ys))) ∧ Below w.heap.size w w' := by
  have hM : Mem w [(b, n * 3, sMeadow hs), (bp, p, vInt64S ys)] w := ((Mem.nil w).old hB (fun i p h => by simp at h)).old hP (fun i p h => by
    match i, h with
    | 0, h => simp at h; rw [← h]; exact hne
    | _ + 1, h => simp at h)
  have HF := Lib.hid hF
  clear hF hB hP
  have h30 : Hid ((p : Int) ≤ 30 ↔ p ≤ 30) := Lib.hid (by omega)
  obtain ⟨t, ht⟩ : ∃ t : Bool, t = decide (p ≤ 30) := ⟨_, rfl⟩
  have hd : decide ((p : Int) ≤ 30) = t := by rw [ht]; exact decide_eq_decide.2 h30.out
  have Ht := Lib.hid ht
  clear ht h30
  go_enter Tryd.func47, Tryd.ntmps47
  go_wp2
  go_loopw [7, 8] (fun f i wr => ∃ k : Nat, k ≤ p ∧ f = .bool (t && planTo n ys k) ∧ i = .int .i64 k ∧ Mem w [(b, n * 3, sMeadow hs), (bp, p, vInt64S ys)] wr) (fun _ i _ => p - (intOf i).toNat)
  case atStart => exact ⟨0, by omega, by simp [planTo], rfl, hM⟩
  case round =>
    clear hM
    obtain ⟨k, hk, rfl, rfl, hM⟩ := hrel
    by_cases hlt : k < p
    · have l2 : (k : Int) < p := by omega
      have ek : vInt64S ys k = .int .i64 (ys k) := rfl
      have Hs := Lib.hid (planTo_succ n ys k)
      have HI := Lib.hid (fun W => l07Index_any (some ⟨b, 0, none⟩) n c hn (ys k) W)
      cases hf : (t && planTo n ys k)
      · have Hn : Hid ((t && planTo n ys (k + 1)) = false) := Lib.hid (by rw [Hs.out, ← Bool.and_assoc, hf]; rfl)
        go_wp2
        go_roundw
        case rel => exact ⟨k + 1, by omega, congrArg Value.bool Hn.out.symm, by go_num, hM⟩
        case measure => simp [intOf]; omega
      · cases hi : inB 0 ((n : Int) - 1) (ys k)
        all_goals
          have Hi := Lib.hid hi
          have Hn : Hid ((t && planTo n ys (k + 1)) = inB 0 ((n : Int) - 1) (ys k)) := Lib.hid (by rw [Hs.out, ← Bool.and_assoc, hf]; rfl)
          clear hi
          go_wp2_with (first | (refine wpList_gget1 ?_ _ _ rfl _ _ rfl hM 1 rfl (cellTab _ rfl) (by omega) _ ek ?_; kernel_rfl) | (go_at_call 43; (with_reducible refine (HI.out _).mono ?_); rintro e W' ⟨rfl, hb'⟩; rw [Hi.out]; have hM' := hM.call hb'; clear hM hb'; have hM := hM'; clear hM'))
          go_roundw
          case rel => exact ⟨k + 1, by omega, congrArg Value.bool (by rw [Hn.out, Hi.out]), by go_num, hM⟩
          case measure => simp [intOf]; omega
    · obtain rfl : k = p := by omega
      have Hp : Hid ((t && planTo n ys k) = planB n k ys) := Lib.hid (by rw [Ht.out]; rfl)
      have HA := Lib.hid (fun W hB => l07Asked_any b n c hs HF.out hn need (t && planTo n ys k) W hB)
      generalize (t && planTo n ys k) = q at *
      go_wp2_with (first | (go_at_call 42; (with_reducible refine (HA.out _ (hM.ats 0 _ _ _ rfl)).mono ?_); rintro e W' ⟨rfl, hb'⟩; have hM' := hM.call hb'; clear hM hb'; have hM := hM'; clear hM'))
      go_ret
      exact ⟨ret_i (by rw [Hp.out]), hM.below⟩

set_option maxRecDepth 100000 in
set_option maxHeartbeats 4000000 in
theorem checkPlan_any {a : Nat → Addr} (n bp p cp : Nat) (ys : Nat → Int) (hn : n ≤ 1048576) (hp : p ≤ 1048576) (w : World) (hP : At w bp p (vInt64S ys)) (hE : Errs a w) :
    Calls Tryd.prog 57 #[.slice (some ⟨bp, 0, none⟩) p cp, .int .i64 n] w fun e w' => e = .returned (errO (a 1) (!planB n p ys)) ∧ Below w.heap.size w w' := by
  have hM : Mem w [(bp, p, vInt64S ys)] w := (Mem.nil w).old hP (fun i p h => by simp at h)
  have HE := Lib.hid hE
  clear hP
  by_cases h30 : 30 < p
  · have hz : 30 < (p : Int) := by omega
    have Hp : Hid (errO (a 1) (!planB n p ys) = errV (a 1)) := Lib.hid (by unfold planB; rw [decide_eq_false (show ¬ p ≤ 30 by omega)]; rfl)
    have v1 : w.cell? ⟨1, 0, none⟩ = some (errV (a 1)) := hE.vars 1 (by omega)
    clear hE
    go_enter Tryd.func57, Tryd.ntmps57
    go_wp2
    go_ret
    exact ⟨congrArg Ending.returned Hp.out.symm, hM.below⟩
  have hz : ¬ 30 < (p : Int) := by omega
  clear hE
  have c1 : IntKind.i64.wrap ((n : Int) - 1) = (n : Int) - 1 := IntWalk.i64_in _ (by omega)
  go_enter Tryd.func57, Tryd.ntmps57
  go_wp2
  go_loopw [14] (fun i wr => ∃ k : Nat, k ≤ p ∧ i = .int .i64 k ∧ Hid (∀ j, j < k → inB 0 ((n : Int) - 1) (ys j) = true) ∧ Mem w [(bp, p, vInt64S ys)] wr) (fun i _ => p - (intOf i).toNat)
  case atStart => exact ⟨0, by omega, rfl, Lib.hid (fun j hj => absurd hj (by omega)), hM⟩
  case round =>
    clear hM
    obtain ⟨k, hk, rfl, hall, hM⟩ := hrel
    by_cases hlt : k < p
    · have l2 : (k : Int) < p := by omega
      have ek : vInt64S ys k = .int .i64 (ys k) := rfl
      cases hi : inB 0 ((n : Int) - 1) (ys k)
      · have Hi := Lib.hid hi
        have Hp : Hid (errO (a 1) (!planB n p ys) = errV (a 1)) := Lib.hid (by unfold planB; rw [planTo_no hlt hi, Bool.and_false]; rfl)
        clear hi
        go_wp2_with (first | (refine wpList_get1 rfl _ _ rfl _ _ rfl hM 0 rfl (cellTab _ rfl) (by omega) _ ek ?_) | (go_at_call 54; (with_reducible refine (checkUpTo_no (ys k) ((n : Int) - 1) _ (HE.out.below hM.below) Hi.out).mono ?_); rintro e W' ⟨rfl, hb'⟩; have hM' := hM.call hb'; clear hM hb'; have hM := hM'; clear hM'))
        go_ret
        exact ⟨congrArg Ending.returned Hp.out.symm, hM.below⟩
      · have Hi := Lib.hid hi
        clear hi
        go_wp2_with (first | (refine wpList_get1 rfl _ _ rfl _ _ rfl hM 0 rfl (cellTab _ rfl) (by omega) _ ek ?_) | (go_at_call 54; (with_reducible refine (checkUpTo_yes (ys k) ((n : Int) - 1) _ Hi.out).mono ?_); rintro e W' ⟨rfl, hb'⟩; have hM' := hM.call hb'; clear hM hb'; have hM := hM'; clear hM'))
        go_roundw
        case rel => exact ⟨k + 1, by omega, by go_num, Lib.hid (fun j hj => by
          by_cases e : j = k
          · rw [e]; exact Hi.out
          · exact hall.out j (by omega)), hM⟩
        case measure => simp [intOf]; omega
    · obtain rfl : k = p := by omega
      have Hp : Hid (errO (a 1) (!planB n k ys) = .nilIface) := Lib.hid (by unfold planB; rw [planTo_yes hall.out, decide_eq_true (show k ≤ 30 by omega)]; rfl)
      go_wp2
      go_ret
      exact ⟨congrArg Ending.returned Hp.out.symm, hM.below⟩
end Go.Proofs.YtbbododeglkghaaDoor

/-
  An error is not nil: for '=='.
-/
namespace Go.Proofs.YtbbododeglkghaaDoor
open Go Go.RowKit Go.BigFrame
@[go_sem] theorem guardq_err (x : Operand) (a : Addr) (W : World) : (eqGuard .eql 67 x (.const .nilIface) (errV a) .nilIface).run Tryd.prog W = .ok () W := by
  unfold errV; go_simp
@[go_sem] theorem eql_err (a : Addr) (W : World) : (binOp .eql 67 (errV a) .nilIface).run Tryd.prog W = .ok (.bool false) W := by
  unfold errV; go_simp
end Go.Proofs.YtbbododeglkghaaDoor

/-
  impl.(Meadow).isTold, impl.ValidMeadows by contracts.
-/
namespace Go.Proofs.YtbbododeglkghaaDoor
open Go Go.RowKit Go.BigFrame

set_option maxRecDepth 100000 in
set_option maxHeartbeats 4000000 in
theorem isTold_any {a : Nat → Addr} (h : Nat → Int) (hF : FitsMeadow h) (w : World) (hE : Errs a w) :
    Calls Tryd.prog 78 #[.agg (arr 3 (vMeadow h))] w fun e w' => e = .returned (.bool (meadB h)) ∧ Below w.heap.size w w' := by
  have hM := Mem.nil w
  obtain ⟨f0, f1, f2⟩ := hF
  have HE := Lib.hid hE
  have c0 : IntKind.i64.wrap (h 0) = h 0 := IntWalk.i64_in _ (by omega)
  have c1 : IntKind.i64.wrap (h 1) = h 1 := IntWalk.i64_in _ (by omega)
  have c2 : IntKind.i64.wrap (h 2) = h 2 := IntWalk.i64_in _ (by omega)
  have e0 : vMeadow h 0 = .int .i16 (h 0) := rfl
  have e1 : vMeadow h 1 = .int .i16 (h 1) := rfl
  have e2 : vMeadow h 2 = .int .i16 (h 2) := rfl
  clear f0 f1 f2 hE
  have tk_b1 : True := trivial; have tk_r0 : True := trivial
  cases h2 : inB 0 1000 (h 2)
  · have Hx : Hid (meadB h = false) := Lib.hid (by simp [meadB, h2])
    have H2 := Lib.hid h2
    clear h2
    go_enter Tryd.func78, Tryd.ntmps78
    go_wp2_with (first | (have _t := tk_b1; refine wpList_box rfl _ _ rfl _ _ rfl hM ?_; intro b1 W' hb1 hM'; clear hM tk_b1; have hM := hM'; clear hM') | (refine wpList_get1 rfl _ _ rfl _ _ rfl hM 0 rfl (cellTab _ rfl) (by omega) _ e2 ?_) | (go_at_call 86; (with_reducible refine (checkGrass_no (h 2) _ (HE.out.below hM.below) H2.out).mono ?_); rintro e W' ⟨rfl, hb'⟩; have hM' := hM.call hb'; clear hM hb'; have hM := hM'; clear hM'))
    go_ret
    exact ⟨ret_bool Hx.out.symm, hM.below⟩
  cases h0 : inB 0 (h 2) (h 0)
  · have Hx : Hid (meadB h = false) := Lib.hid (by simp [meadB, h0])
    have H2 := Lib.hid h2
    have H0 := Lib.hid h0
    clear h2 h0
    go_enter Tryd.func78, Tryd.ntmps78
    go_wp2_with (first | (have _t := tk_b1; refine wpList_box rfl _ _ rfl _ _ rfl hM ?_; intro b1 W' hb1 hM'; clear hM tk_b1; have hM := hM'; clear hM') | (refine wpList_get1 rfl _ _ rfl _ _ rfl hM 0 rfl (cellTab _ rfl) (by omega) _ e2 ?_) | (go_at_call 86; (with_reducible refine (checkGrass_yes (h 2) _ H2.out).mono ?_); rintro e W' ⟨rfl, hb'⟩; have hM' := hM.call hb'; clear hM hb'; have hM := hM'; clear hM') | (refine wpList_gget1 ?_ _ _ rfl _ _ rfl hM 0 rfl (cellTab _ rfl) (by omega) _ e0 ?_; kernel_rfl) | (go_at_call 54; (with_reducible refine (checkUpTo_no (h 0) (h 2) _ (HE.out.below hM.below) H0.out).mono ?_); rintro e W' ⟨rfl, hb'⟩; have hM' := hM.call hb'; clear hM hb'; have hM := hM'; clear hM'))
    go_ret
    exact ⟨ret_bool Hx.out.symm, hM.below⟩
  cases h1 : inB 0 (h 2) (h 1)
  · have Hx : Hid (meadB h = false) := Lib.hid (by simp [meadB, h1])
    have H2 := Lib.hid h2
    have H0 := Lib.hid h0
    have H1 := Lib.hid h1
    clear h2 h0 h1
    go_enter Tryd.func78, Tryd.ntmps78
    go_wp2_with (first | (have _t := tk_b1; refine wpList_box rfl _ _ rfl _ _ rfl hM ?_; intro b1 W' hb1 hM'; clear hM tk_b1; have hM := hM'; clear hM') | (refine wpList_get1 rfl _ _ rfl _ _ rfl hM 0 rfl (cellTab _ rfl) (by omega) _ e2 ?_) | (go_at_call 86; (with_reducible refine (checkGrass_yes (h 2) _ H2.out).mono ?_); rintro e W' ⟨rfl, hb'⟩; have hM' := hM.call hb'; clear hM hb'; have hM := hM'; clear hM') | (have _t := tk_r0; (refine wpList_gget1 ?_ _ _ rfl _ _ rfl hM 0 rfl (cellTab _ rfl) (by omega) _ e0 ?_; kernel_rfl); clear tk_r0) | (refine wpList_gget1 ?_ _ _ rfl _ _ rfl hM 0 rfl (cellTab _ rfl) (by omega) _ e1 ?_; kernel_rfl) | (go_at_call 54; (with_reducible refine (checkUpTo_yes (h 0) (h 2) _ H0.out).mono ?_); rintro e W' ⟨rfl, hb'⟩; have hM' := hM.call hb'; clear hM hb'; have hM := hM'; clear hM') | (go_at_call 54; (with_reducible refine (checkUpTo_no (h 1) (h 2) _ (HE.out.below hM.below) H1.out).mono ?_); rintro e W' ⟨rfl, hb'⟩; have hM' := hM.call hb'; clear hM hb'; have hM := hM'; clear hM'))
    go_ret
    exact ⟨ret_bool Hx.out.symm, hM.below⟩
  · have Hx : Hid (meadB h = true) := Lib.hid (by simp [meadB, h0, h1, h2])
    have H2 := Lib.hid h2
    have H0 := Lib.hid h0
    have H1 := Lib.hid h1
    clear h2 h0 h1
    go_enter Tryd.func78, Tryd.ntmps78
    go_wp2_with (first | (have _t := tk_b1; refine wpList_box rfl _ _ rfl _ _ rfl hM ?_; intro b1 W' hb1 hM'; clear hM tk_b1; have hM := hM'; clear hM') | (refine wpList_get1 rfl _ _ rfl _ _ rfl hM 0 rfl (cellTab _ rfl) (by omega) _ e2 ?_) | (go_at_call 86; (with_reducible refine (checkGrass_yes (h 2) _ H2.out).mono ?_); rintro e W' ⟨rfl, hb'⟩; have hM' := hM.call hb'; clear hM hb'; have hM := hM'; clear hM') | (have _t := tk_r0; (refine wpList_gget1 ?_ _ _ rfl _ _ rfl hM 0 rfl (cellTab _ rfl) (by omega) _ e0 ?_; kernel_rfl); clear tk_r0) | (refine wpList_gget1 ?_ _ _ rfl _ _ rfl hM 0 rfl (cellTab _ rfl) (by omega) _ e1 ?_; kernel_rfl) | (go_at_call 54; (with_reducible refine (checkUpTo_yes (h 0) (h 2) _ H0.out).mono ?_); rintro e W' ⟨rfl, hb'⟩; have hM' := hM.call hb'; clear hM hb'; have hM := hM'; clear hM') | (go_at_call 54; (with_reducible refine (checkUpTo_yes (h 1) (h 2) _ H1.out).mono ?_); rintro e W' ⟨rfl, hb'⟩; have hM' := hM.call hb'; clear hM hb'; have hM := hM'; clear hM'))
    go_ret
    exact ⟨ret_bool Hx.out.symm, hM.below⟩

theorem lay_meadow (z : Nat → Value) (hs : Nat → Nat → Int) (k : Nat) : ∀ j, j < 3 → lay z 0 3 (fun i => sMeadow hs (k * 3 + i)) j = vMeadow (hs k) j := fun j hj => by
  simp only [lay, Nat.zero_add, Nat.sub_zero]
  rw [if_pos ⟨by omega, hj⟩]
  exact sMeadow_row hs k j hj

set_option maxRecDepth 100000 in
set_option maxHeartbeats 4000000 in
theorem implValidMeadows_any {a : Nat → Addr} (b N n c : Nat) (F : Nat → Value) (hs : Nat → Nat → Int) (hN : n * 3 ≤ N) (hf : ∀ j, j < n * 3 → F j = sMeadow hs j) (hF : ∀ i, i < n → FitsMeadow (hs i)) (hn : n ≤ 1048576) (w : World) (hB : At w b N F) (hE : Errs a w) :
    Calls Tryd.prog 67 #[.slice (some ⟨b, 0, none⟩) n c] w fun e w' => e = .returned (.bool (meadsB n hs)) ∧ Below w.heap.size w w' := by
  have hM : Mem w [(b, N, F)] w := (Mem.nil w).old hB (fun i p h => by simp at h)
  have HF := Lib.hid hF
  have Hf := Lib.hid hf
  have HE := Lib.hid hE
  clear hF hB hE hf
  by_cases h1 : n < 1
  · have Hp := Lib.hid (meadsB_len (n := n) (hs := hs) (inB_no (by omega)))
    have d0 : decide ((n : Int) < 1) = true := decide_eq_true (by omega)
    go_enter Tryd.func67, Tryd.ntmps67
    go_wp2
    go_ret
    exact ⟨ret_bool Hp.out.symm, hM.below⟩
  have d0 : decide ((n : Int) < 1) = false := decide_eq_false (by omega)
  by_cases h6 : 6 < n
  · have Hp := Lib.hid (meadsB_len (n := n) (hs := hs) (inB_no (by omega)))
    have d1 : decide (6 < (n : Int)) = true := decide_eq_true (by omega)
    go_enter Tryd.func67, Tryd.ntmps67
    go_wp2
    go_ret
    exact ⟨ret_bool Hp.out.symm, hM.below⟩
  have d1 : decide (6 < (n : Int)) = false := decide_eq_false (by omega)
  go_enter Tryd.func67, Tryd.ntmps67
  go_wp2
  go_loopw [15] (fun i wr => ∃ k : Nat, k ≤ n ∧ i = .int .i64 k ∧ Hid (∀ j, j < k → meadB (hs j) = true) ∧ Mem w [(b, N, F)] wr) (fun i _ => n - (intOf i).toNat)
  case atStart => exact ⟨0, by omega, rfl, Lib.hid (fun j hj => absurd hj (by omega)), hM⟩
  case round =>
    clear hM
    obtain ⟨k, hk, rfl, hall, hM⟩ := hrel
    by_cases hlt : k < n
    · have l2 : (k : Int) < n := by omega
      have fk := HF.out k hlt
      have er : arr 3 (fun j => F (k * 3 + j)) = arr 3 (vMeadow (hs k)) := arr_congr fun j hj => by rw [Hf.out _ (by omega)]; exact sMeadow_row hs k j hj
      have e3 : arr 3 (fun j => vMeadow (hs k) (0 + j)) = arr 3 (vMeadow (hs k)) := arr_congr fun j _ => by rw [Nat.zero_add]
      have e4 : arr 3 (fun j => vMeadow (hs k) j) = arr 3 (vMeadow (hs k)) := rfl
      cases he : meadB (hs k)
      all_goals
        have He := Lib.hid he
        clear he
        have tk_b3 : True := trivial; have tk_r1 : True := trivial; have tk_r2 : True := trivial
        go_wp2_with (first | (have _t := tk_r1; (refine wpList_get rfl _ _ rfl _ _ rfl hM 0 rfl rowMeadow (by omega) ?_); rw [er]; clear tk_r1) | (have _t := tk_b3; refine wpList_zero rfl _ rfl zeroMeadow hM ?_; intro b3 W' hb3 hM'; clear hM tk_b3; have hM := hM'; clear hM') | (have _t := tk_r2; (refine wpList_lay rfl _ _ _ rfl _ _ rfl _ _ rfl hM 0 rfl (by assumption) rowMeadow (by omega) (fun _ _ => rfl) ?_; intro W' hM'; clear hM; have hM1 := hM'.re 0 rfl (vMeadow (hs k)) (fun j hj => by simp only [lay]; rw [if_pos ⟨by omega, by omega⟩, Nat.sub_zero]); simp only [List.set_cons_zero] at hM1; clear hM'; have hM := hM1; clear hM1); clear tk_r2) | (refine wpList_get rfl _ _ rfl _ _ rfl hM 0 rfl rowMeadow (by omega) ?_) | (go_at_call 78; (with_reducible refine (isTold_any (hs k) fk _ (HE.out.below hM.below)).mono ?_); rintro e W' ⟨rfl, hb'⟩; rw [He.out]; have hM' := hM.call hb'; clear hM hb'; have hM := hM'; clear hM'))
      · go_ret
        exact ⟨ret_bool (meadsB_no hlt He.out).symm, hM.below⟩
      · go_roundw
        case rel => exact ⟨k + 1, by omega, by go_num, Lib.hid (fun j hj => by
          by_cases e : j = k
          · rw [e]; exact He.out
          · exact hall.out j (by omega)), hM.drop⟩
        case measure => simp [intOf]; omega
    · obtain rfl : k = n := by omega
      have Hp : Hid (meadsB k hs = true) := Lib.hid (by rw [meadsB_all hall.out]; exact inB_yes (by omega))
      go_wp2
      go_ret
      exact ⟨ret_bool Hp.out.symm, hM.below⟩
end Go.Proofs.YtbbododeglkghaaDoor

/-
  A load, in a drawn region, of a cell that lies below the base: an error's variable.
-/
namespace Go.Proofs.YtbbododeglkghaaDoor
open Go Go.RowKit Go.BigFrame

section
variable {P : Program} {o : Oper} {a : Act} {w : Base} {L : Blocks} {K : Act → Prop}
/-- A load of a cell that every world of the class holds. -/
theorem quiet_old (ty : TypeId) (x : Operand) (ho : o.op = .load ty x) (b off : Nat) (hx : a.eval x = .pointer (some ⟨b, off, none⟩)) (hT : CellT P ty) (v : Value) (hc : ∀ W, Mem w L W → W.cell? ⟨b, off, none⟩ = some v)
    (h : K (a.put o.dst v)) : o.quiet P a (Mem w L) K := by
  refine ⟨v, fun W hM => ?_, h⟩
  obtain ⟨⟨d, hu, hd⟩, _⟩ := hT
  have hagg : (isAgg ty).run P W = .ok false W := by
    unfold isAgg
    rw [Sem.run_bind, run_underlying hu W]
    cases d <;> simp_all [TypeDesc.isRow]
  have hl : (load ⟨b, off, none⟩).run P W = .ok v W := by simp [load, Sem.run, hc W hM]
  unfold Oper.quietAt execOp
  simp only [ho, hx, Instr.loadAt, Instr.sureAddr, loadVar, Sem.run_bind, Sem.run_pure, Result.andThen_ok, hagg, Bool.false_eq_true, if_false, hl]
  exact ⟨rfl, rfl⟩
end

end Go.Proofs.YtbbododeglkghaaDoor

/-
  impl.dayOf, resting's and grazed's leaves, (impl.hunger).dayIn by contracts.
-/
namespace Go.Proofs.YtbbododeglkghaaDoor
open Go Go.RowKit Go.BigFrame

def restV : Value := .iface 85 (.agg #[])
def grazeV (need : Int) : Value := .iface 86 (.int .i64 need)
theorem dayOf_same (i m need : Int) (h : i = m) (w : World) : Calls Tryd.prog 58 #[.int .i64 i, .int .i64 m, .int .i64 need] w fun e w' => e = .returned (grazeV need) ∧ Below w.heap.size w w' := by
  have d0 : decide (i = m) = true := decide_eq_true h
  subst h
  go_enter Tryd.func58, Tryd.ntmps58
  go_wp2
  go_ret
  exact ⟨rfl, Below.refl _ _⟩
theorem dayOf_other (i m need : Int) (h : i ≠ m) (w : World) : Calls Tryd.prog 58 #[.int .i64 i, .int .i64 m, .int .i64 need] w fun e w' => e = .returned restV ∧ Below w.heap.size w w' := by
  have d0 : decide (i = m) = false := decide_eq_false h
  go_enter Tryd.func58, Tryd.ntmps58
  go_wp2
  go_ret
  exact ⟨rfl, Below.refl _ _⟩

theorem restRow : RowT Tryd.prog 85 0 := ⟨⟨_, Tryd.underlying85, rfl⟩, by kernel_rfl⟩
theorem restAgg : (Value.agg #[]) = .agg (arr 0 fun _ => undef) := rfl
set_option maxRecDepth 100000 in
theorem restLeaves (h : Nat → Int) (hb : meadB h = true) (w : World) : Calls Tryd.prog 104 #[.agg #[], .agg (arr 3 (vMeadow h))] w fun e w' => e = .returned (.int .i64 (minQ (h 2) (h 0 + h 1))) ∧ Below w.heap.size w w' := by
  have hM := Mem.nil w
  rw [restAgg]
  obtain ⟨h2, h0, h1⟩ := meadB_iff hb
  have c0 : IntKind.i64.wrap (h 0) = h 0 := IntWalk.i64_in _ (by omega)
  have c1 : IntKind.i64.wrap (h 1) = h 1 := IntWalk.i64_in _ (by omega)
  have c2 : IntKind.i64.wrap (h 2) = h 2 := IntWalk.i64_in _ (by omega)
  have c3 : IntKind.i64.wrap (h 0 + h 1) = h 0 + h 1 := IntWalk.i64_in _ (by omega)
  have e0 : vMeadow h 0 = .int .i16 (h 0) := rfl
  have e1 : vMeadow h 1 = .int .i16 (h 1) := rfl
  have e2 : vMeadow h 2 = .int .i16 (h 2) := rfl
  rcases (show h 2 < h 0 + h 1 ∨ ¬ h 2 < h 0 + h 1 by omega) with hq | hq
  all_goals
    first | have Hp : Hid (minQ (h 2) (h 0 + h 1) = h 2) := Lib.hid (minQ_lt hq)
          | have Hp : Hid (minQ (h 2) (h 0 + h 1) = h 0 + h 1) := Lib.hid (minQ_ge hq)
    first | have d0 : decide (h 2 < h 0 + h 1) = true := decide_eq_true hq
          | have d0 : decide (h 2 < h 0 + h 1) = false := decide_eq_false hq
    have tk_b1 : True := trivial; have tk_b2 : True := trivial; have tk_r0 : True := trivial; have tk_r1 : True := trivial
    go_enter Tryd.func104, Tryd.ntmps104
    go_wp2_with (first | (have _t := tk_b1; refine wpList_box rfl _ _ rfl _ _ rfl hM ?_; intro b1 W' hb1 hM'; clear hM tk_b1; have hM := hM'; clear hM') | (have _t := tk_b2; refine wpList_box rfl _ _ rfl _ _ rfl hM ?_; intro b2 W' hb2 hM'; clear hM tk_b2; have hM := hM'; clear hM') | (have _t := tk_r0; (refine wpList_get1 rfl _ _ rfl _ _ rfl hM 0 rfl (cellTab _ rfl) (by omega) _ e0 ?_); clear tk_r0) | (have _t := tk_r1; (refine wpList_get1 rfl _ _ rfl _ _ rfl hM 0 rfl (cellTab _ rfl) (by omega) _ e1 ?_); clear tk_r1) | (refine wpList_get1 rfl _ _ rfl _ _ rfl hM 0 rfl (cellTab _ rfl) (by omega) _ e2 ?_))
    go_ret
    exact ⟨ret_i Hp.out.symm, hM.below⟩

set_option maxRecDepth 100000 in
theorem grazeLeaves (h : Nat → Int) (need : Int) (hb : meadB h = true) (hd : 1 ≤ need ∧ need ≤ 1000) (he : need ≤ h 0) (w : World) : Calls Tryd.prog 105 #[.int .i64 need, .agg (arr 3 (vMeadow h))] w fun e w' => e = .returned (.int .i64 (minQ (h 2) (h 0 - need + h 1))) ∧ Below w.heap.size w w' := by
  have hM := Mem.nil w
  obtain ⟨h2, h0, h1⟩ := meadB_iff hb
  have c0 : IntKind.i64.wrap (h 0) = h 0 := IntWalk.i64_in _ (by omega)
  have c1 : IntKind.i64.wrap (h 1) = h 1 := IntWalk.i64_in _ (by omega)
  have c2 : IntKind.i64.wrap (h 2) = h 2 := IntWalk.i64_in _ (by omega)
  have c3 : IntKind.i64.wrap (h 0 - need + h 1) = h 0 - need + h 1 := IntWalk.i64_in _ (by omega)
  have c4 : IntKind.i64.wrap (h 0 - need) = h 0 - need := IntWalk.i64_in _ (by omega)
  have e0 : vMeadow h 0 = .int .i16 (h 0) := rfl
  have e1 : vMeadow h 1 = .int .i16 (h 1) := rfl
  have e2 : vMeadow h 2 = .int .i16 (h 2) := rfl
  rcases (show h 2 < h 0 - need + h 1 ∨ ¬ h 2 < h 0 - need + h 1 by omega) with hq | hq
  all_goals
    first | have Hp : Hid (minQ (h 2) (h 0 - need + h 1) = h 2) := Lib.hid (minQ_lt hq)
          | have Hp : Hid (minQ (h 2) (h 0 - need + h 1) = h 0 - need + h 1) := Lib.hid (minQ_ge hq)
    first | have d0 : decide (h 2 < h 0 - need + h 1) = true := decide_eq_true hq
          | have d0 : decide (h 2 < h 0 - need + h 1) = false := decide_eq_false hq
    have tk_b2 : True := trivial; have tk_r0 : True := trivial; have tk_r1 : True := trivial
    go_enter Tryd.func105, Tryd.ntmps105
    go_wp2_with (first | (have _t := tk_b2; refine wpList_box rfl _ _ rfl _ _ rfl hM ?_; intro b2 W' hb2 hM'; clear hM tk_b2; have hM := hM'; clear hM') | (have _t := tk_r0; (refine wpList_get1 rfl _ _ rfl _ _ rfl hM 0 rfl (cellTab _ rfl) (by omega) _ e0 ?_); clear tk_r0) | (have _t := tk_r1; (refine wpList_get1 rfl _ _ rfl _ _ rfl hM 0 rfl (cellTab _ rfl) (by omega) _ e1 ?_); clear tk_r1) | (refine wpList_get1 rfl _ _ rfl _ _ rfl hM 0 rfl (cellTab _ rfl) (by omega) _ e2 ?_))
    go_ret
    exact ⟨ret_i Hp.out.symm, hM.below⟩
end Go.Proofs.YtbbododeglkghaaDoor

