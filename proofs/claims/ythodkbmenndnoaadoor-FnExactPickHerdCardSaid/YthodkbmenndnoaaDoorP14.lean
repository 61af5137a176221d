/-
  Several texts in one: MostM, GroupsS, FoesOfC.
-/
import Derived.Test.YthodkbmenndnoaaDoorP13
import Derived.Test.YthodkbmenndnoaaDoorP12
/-
  PLAIN: the most mates, of several such lists the first one: by sets in a row, and by the first one with and without.
-/
namespace Go.Proofs.YthodkbmenndnoaaDoor
open Go Go.RowKit

/-- Of two lists of one length: is one less? -/
def lessL : List Nat → List Nat → Bool
  | a :: l, b :: m => if a = b then lessL l m else decide (a < b)
  | [], _ => false
  | _ :: _, [] => false
theorem lessL_self : ∀ l, lessL l l = false
  | [] => rfl
  | a :: l => by simp [lessL, lessL_self l]
theorem lessL_trans : ∀ {a b c : List Nat}, lessL a b = true → lessL b c = true → lessL a c = true
  | [], _, _, h, _ => by simp [lessL] at h
  | _ :: _, [], _, h, _ => by simp [lessL] at h
  | _ :: _, _ :: _, [], _, h => by simp [lessL] at h
  | x :: xs, y :: ys, z :: zs, h1, h2 => by
    simp only [lessL] at *
    by_cases e1 : x = y
    · subst e1
      rw [if_pos rfl] at h1
      by_cases e2 : x = z
      · subst e2
        rw [if_pos rfl] at h2 ⊢
        exact lessL_trans h1 h2
      · rw [if_neg e2] at h2 ⊢; exact h2
    · rw [if_neg e1] at h1
      have g1 := of_decide_eq_true h1
      by_cases e2 : y = z
      · subst e2
        rw [if_neg e1]; exact h1
      · rw [if_neg e2] at h2
        have g2 := of_decide_eq_true h2
        rw [if_neg (by omega)]
        exact decide_eq_true (by omega)
theorem lessL_tot : ∀ {a b : List Nat}, a.length = b.length → lessL a b = false → lessL b a = false → a = b
  | [], [], _, _, _ => rfl
  | [], _ :: _, h, _, _ => by simp at h
  | _ :: _, [], h, _, _ => by simp at h
  | x :: xs, y :: ys, h, h1, h2 => by
    simp only [lessL] at *
    by_cases e : x = y
    · subst e
      rw [if_pos rfl] at h1 h2
      rw [lessL_tot (by simpa using h) h1 h2]
    · rw [if_neg e] at h1
      rw [if_neg (fun h => e h.symm)] at h2
      have := of_decide_eq_false h1
      have := of_decide_eq_false h2
      omega
/-- One is longer, or as long and not behind the other. -/
def beats (T T' : List Nat) : Prop := T'.length < T.length ∨ (T'.length = T.length ∧ lessL T' T = false)
theorem beats_eq {T T' : List Nat} (h1 : beats T T') (h2 : beats T' T) : T = T' := by
  rcases h1 with h1 | ⟨h1, g1⟩ <;> rcases h2 with h2 | ⟨h2, g2⟩
  · omega
  · omega
  · omega
  · exact lessL_tot h2 g2 g1
theorem beats_self (T : List Nat) : beats T T := .inr ⟨rfl, lessL_self T⟩
theorem beats_cons {T T' : List Nat} (f : Nat) (h : beats T T') : beats (f :: T) (f :: T') := by
  rcases h with h | ⟨h, g⟩
  · exact .inl (by simpa using h)
  · exact .inr ⟨by simpa using h, by simp only [lessL]; simpa using g⟩
def mostL (p : Nat → Nat → Bool) : List Nat → List Nat
  | [] => []
  | f :: r => if (f :: mostL p (r.filter (p f))).length < (mostL p r).length then mostL p r else f :: mostL p (r.filter (p f))
termination_by l => l.length
decreasing_by all_goals (simp_wf; try have := List.length_filter_le (p f) r; try omega)
theorem mostL_cons (p : Nat → Nat → Bool) (f : Nat) (r : List Nat) : mostL p (f :: r) = if (f :: mostL p (r.filter (p f))).length < (mostL p r).length then mostL p r else f :: mostL p (r.filter (p f)) := by
  rw [mostL]
theorem mostL_nil (p : Nat → Nat → Bool) : mostL p [] = [] := by rw [mostL]
theorem mostL_best (p : Nat → Nat → Bool) : ∀ (m : Nat) (l : List Nat), l.length ≤ m → l.Pairwise (· < ·) → (mostL p l).Sublist l ∧ (mostL p l).Pairwise (fun a b => p a b = true) ∧ ∀ T : List Nat, T.Sublist l → T.Pairwise (fun a b => p a b = true) → beats (mostL p l) T
  | _, [], _, _ => by
    rw [mostL_nil]
    exact ⟨List.Sublist.refl _, List.Pairwise.nil, fun T hT _ => by rw [List.sublist_nil.1 hT]; exact beats_self _⟩
  | 0, _ :: _, h, _ => by simp at h
  | m + 1, f :: r, h, hs => by
    have hr : r.length ≤ m := by simpa using h
    obtain ⟨hf, hs'⟩ := List.pairwise_cons.1 hs
    obtain ⟨a1, a2, a3⟩ := mostL_best p m r hr hs'
    obtain ⟨b1, b2, b3⟩ := mostL_best p m (r.filter (p f)) (Nat.le_trans (List.length_filter_le _ _) hr) (hs'.filter _)
    have w1 : (f :: mostL p (r.filter (p f))).Sublist (f :: r) := (b1.trans List.filter_sublist).cons_cons f
    have w2 : (f :: mostL p (r.filter (p f))).Pairwise (fun a b => p a b = true) := List.pairwise_cons.2 ⟨fun x hx => (List.mem_filter.1 (b1.subset hx)).2, b2⟩
    have w3 : ∀ T'' : List Nat, T''.Sublist r → (f :: T'').Pairwise (fun a b => p a b = true) → beats (f :: mostL p (r.filter (p f))) (f :: T'') := fun T'' hT hp => by
      obtain ⟨q1, q2⟩ := List.pairwise_cons.1 hp
      refine beats_cons f (b3 T'' ?_ q2)
      have e : T''.filter (p f) = T'' := List.filter_eq_self.2 q1
      rw [← e]
      exact hT.filter _
    rw [mostL_cons]
    by_cases hlt : (f :: mostL p (r.filter (p f))).length < (mostL p r).length
    · rw [if_pos hlt]
      refine ⟨a1.cons f, a2, fun T hT hp => ?_⟩
      rcases List.sublist_cons_iff.1 hT with hT | ⟨T'', rfl, hT2⟩
      · exact a3 T hT hp
      · have := w3 T'' hT2 hp
        refine .inl ?_
        rcases this with h | ⟨h, -⟩ <;> omega
    · rw [if_neg hlt]
      refine ⟨w1, w2, fun T hT hp => ?_⟩
      rcases List.sublist_cons_iff.1 hT with hT | ⟨T'', rfl, hT2⟩
      · have hb := a3 T hT hp
        have hle : T.length ≤ (f :: mostL p (r.filter (p f))).length := by rcases hb with h | ⟨h, -⟩ <;> omega
        rcases Nat.lt_or_eq_of_le hle with hl | hl
        · exact .inl hl
        · refine .inr ⟨hl, ?_⟩
          cases T with
          | nil => simp at hl
          | cons t ts =>
            have ht : f < t := hf t (hT.subset (List.mem_cons_self ..))
            simp only [lessL]
            rw [if_neg (by omega)]
            exact decide_eq_false (by omega)
      · exact w3 T'' hT2 hp

/-- Is a set one of such whose later goats and earlier ones are foes, or are not? -/
def bitsB (s i : Nat) : List Nat := (List.range i).filter fun k => s.testBit k
def goodU (d : Hd) (b : Bool) (s : Nat) : Nat → Bool
  | 0 => true
  | i + 1 => if s.testBit i = true then goodU d b s i && (bitsB s i).all (fun k => foe d i k == b) else goodU d b s i
theorem bitsB_succ (s i : Nat) : bitsB s (i + 1) = if s.testBit i = true then bitsB s i ++ [i] else bitsB s i := by
  unfold bitsB
  rw [List.range_succ, List.filter_append]
  by_cases h : s.testBit i = true
  · rw [if_pos h]; simp [h]
  · rw [if_neg h]; simp [h]
theorem goodU_iff {d : Hd} {b : Bool} {s : Nat} : ∀ {i : Nat}, goodU d b s i = true ↔ (bitsB s i).Pairwise (fun k i => (foe d i k == b) = true)
  | 0 => by simp [goodU, bitsB]
  | i + 1 => by
    rw [bitsB_succ]
    simp only [goodU]
    by_cases h : s.testBit i = true
    · rw [if_pos h, if_pos h, Bool.and_eq_true, goodU_iff (i := i), List.pairwise_append, List.all_eq_true]
      constructor
      · rintro ⟨h1, h2⟩
        exact ⟨h1, List.pairwise_singleton _ _, fun a ha c hc => by rw [List.mem_singleton.1 hc]; exact h2 a ha⟩
      · rintro ⟨h1, -, h2⟩
        exact ⟨h1, fun a ha => h2 a ha i (List.mem_singleton.2 rfl)⟩
    · rw [if_neg h, if_neg h, goodU_iff (i := i)]
theorem bitsB_eq {s n : Nat} (hs : s < 2 ^ n) (hn : n ≤ 16) : bitsB s n = bitsL s := by
  unfold bitsB bitsL
  have e : List.range 16 = List.range n ++ (List.range (16 - n)).map (n + ·) := by rw [← List.range_add]; congr 1; omega
  rw [e, List.filter_append]
  have e2 : ((List.range (16 - n)).map (n + ·)).filter (fun k => s.testBit k) = [] := by
    rw [List.filter_eq_nil_iff]
    intro a ha
    simp at ha
    obtain ⟨q, -, rfl⟩ := ha
    have : s.testBit (n + q) = false := Nat.testBit_lt_two_pow (Nat.lt_of_lt_of_le hs (Nat.pow_le_pow_right (by decide) (by omega)))
    simp [this]
  rw [e2, List.append_nil]
/-- The best of the sets below. -/
def bestU (d : Hd) (b : Bool) (n : Nat) : Nat → List Nat
  | 0 => []
  | s + 1 => if (goodU d b s n && (decide ((bestU d b n s).length < (bitsL s).length) || (decide ((bitsL s).length = (bestU d b n s).length) && lessL (bitsL s) (bestU d b n s)))) = true then bitsL s else bestU d b n s
theorem bestU_best {d : Hd} {b : Bool} {n : Nat} : ∀ {s : Nat}, (bestU d b n s = [] ∨ ∃ t, t < s ∧ goodU d b t n = true ∧ bitsL t = bestU d b n s) ∧ ∀ t, t < s → goodU d b t n = true → beats (bestU d b n s) (bitsL t)
  | 0 => ⟨.inl rfl, fun t h => absurd h (by omega)⟩
  | s + 1 => by
    obtain ⟨h1, h2⟩ := bestU_best (d := d) (b := b) (n := n) (s := s)
    simp only [bestU]
    by_cases hc : (goodU d b s n && (decide ((bestU d b n s).length < (bitsL s).length) || (decide ((bitsL s).length = (bestU d b n s).length) && lessL (bitsL s) (bestU d b n s)))) = true
    · rw [if_pos hc]
      rw [Bool.and_eq_true, Bool.or_eq_true, Bool.and_eq_true, decide_eq_true_eq, decide_eq_true_eq] at hc
      refine ⟨.inr ⟨s, by omega, hc.1, rfl⟩, fun t ht hg => ?_⟩
      rcases Nat.lt_succ_iff_lt_or_eq.1 ht with ht | rfl
      · have hb := h2 t ht hg
        rcases hc.2 with hc | ⟨hc, hl⟩
        · refine .inl ?_
          rcases hb with h | ⟨h, -⟩ <;> omega
        · rcases hb with h | ⟨h, g⟩
          · exact .inl (by omega)
          · refine .inr ⟨by omega, ?_⟩
            cases e : lessL (bitsL t) (bitsL s) with
            | false => rfl
            | true => rw [lessL_trans e hl] at g; cases g
      · exact beats_self _
    · rw [if_neg hc]
      refine ⟨?_, fun t ht hg => ?_⟩
      · rcases h1 with h | ⟨t, ht, hg, e⟩
        · exact .inl h
        · exact .inr ⟨t, by omega, hg, e⟩
      · rcases Nat.lt_succ_iff_lt_or_eq.1 ht with ht | rfl
        · exact h2 t ht hg
        · rw [hg, Bool.true_and] at hc
          have h3 : ¬ (bestU d b n t).length < (bitsL t).length := fun h => hc (by rw [decide_eq_true h]; rfl)
          rcases Nat.lt_or_eq_of_le (Nat.le_of_not_lt h3) with h | h
          · exact .inl h
          · refine .inr ⟨h, ?_⟩
            cases e : lessL (bitsL t) (bestU d b n t) with
            | false => rfl
            | true => exact absurd (by rw [decide_eq_true h, e, Bool.true_and, Bool.or_true]) hc
/-- The set of a list. -/
def setOf : List Nat → Nat
  | [] => 0
  | i :: l => setOf l ||| 2 ^ i
theorem setOf_bit (j : Nat) : ∀ l : List Nat, (setOf l).testBit j = decide (j ∈ l)
  | [] => by simp [setOf]
  | i :: l => by
    simp only [setOf, Nat.testBit_or, setOf_bit j l, Nat.testBit_two_pow, List.mem_cons]
    by_cases h1 : j = i
    · subst h1; simp
    · have : ¬ i = j := fun h => h1 h.symm
      simp [h1, this]
theorem setOf_lt {n : Nat} : ∀ {l : List Nat}, (∀ i ∈ l, i < n) → setOf l < 2 ^ n
  | [], _ => Nat.two_pow_pos n
  | i :: l, h => Nat.or_lt_two_pow (setOf_lt fun j hj => h j (List.mem_cons_of_mem _ hj)) (Nat.pow_lt_pow_right (by decide) (h i (List.mem_cons_self ..)))
theorem filter_mem_sub : ∀ {T l : List Nat}, T.Sublist l → l.Nodup → l.filter (fun k => decide (k ∈ T)) = T
  | _, _, .slnil, _ => rfl
  | T, _ :: l, .cons a h, hn => by
    obtain ⟨h1, h2⟩ := List.nodup_cons.1 hn
    rw [List.filter_cons, if_neg (by simpa using fun hm => h1 (h.subset hm))]
    exact filter_mem_sub h h2
  | _ :: T, _ :: l, .cons_cons a h, hn => by
    obtain ⟨h1, h2⟩ := List.nodup_cons.1 hn
    rw [List.filter_cons, if_pos (by simp)]
    congr 1
    have e := filter_mem_sub h h2
    rw [← e]
    apply List.filter_congr
    intro x hx
    rw [e]
    have : x ≠ a := fun e => h1 (e ▸ hx)
    simp [this]
theorem bits_setOf {T : List Nat} (h : T.Sublist (List.range 16)) : bitsL (setOf T) = T := by
  unfold bitsL
  simp only [setOf_bit]
  exact filter_mem_sub h List.nodup_range
/-- Both ways give the same. -/
theorem bestU_most {d : Hd} {b : Bool} {n : Nat} (hn : n ≤ 14) (hsym : ∀ i k, i < n → k < n → foe d i k = foe d k i) : bestU d b n (2 ^ n) = mostL (fun a c => foe d a c == b) (List.range n) := by
  obtain ⟨h1, h2, h3⟩ := mostL_best (fun a c => foe d a c == b) n (List.range n) (by simp) List.pairwise_lt_range
  obtain ⟨g1, g2⟩ := bestU_best (d := d) (b := b) (n := n) (s := 2 ^ n)
  have hlt : ∀ {T : List Nat}, T.Sublist (List.range n) → ∀ i ∈ T, i < n := fun h i hi => List.mem_range.1 (h.subset hi)
  have swap : ∀ {T : List Nat}, T.Sublist (List.range n) → (T.Pairwise (fun a c => (foe d a c == b) = true) ↔ T.Pairwise (fun k i => (foe d i k == b) = true)) := fun {T} h => by
    constructor
    · intro hp
      exact hp.imp_of_mem fun ha hc hq => by rw [hsym _ _ (hlt h _ hc) (hlt h _ ha)]; exact hq
    · intro hp
      exact hp.imp_of_mem fun ha hc hq => by rw [hsym _ _ (hlt h _ ha) (hlt h _ hc)]; exact hq
  have h16 : (List.range n).Sublist (List.range 16) := List.range_sublist.2 (by omega)
  refine (beats_eq (h3 _ ?_ ?_) ?_).symm
  · rcases g1 with e | ⟨t, ht, -, e⟩
    · rw [e]; exact List.nil_sublist _
    · rw [← e, ← bitsB_eq ht (by omega)]; exact List.filter_sublist
  · rcases g1 with e | ⟨t, ht, hg, e⟩
    · rw [e]; exact List.Pairwise.nil
    · rw [← e, ← bitsB_eq ht (by omega)]
      exact (swap List.filter_sublist).2 (goodU_iff.1 hg)
  · have e := bits_setOf (h1.trans h16)
    have hs := setOf_lt (hlt h1)
    have hb := g2 (setOf (mostL (fun a c => foe d a c == b) (List.range n))) hs (goodU_iff.2 (by rw [bitsB_eq hs (by omega), e]; exact (swap h1).1 h2))
    rw [e] at hb
    exact hb
end Go.Proofs.YthodkbmenndnoaaDoor

/-
  spec.l06Numbers, l06Quarrel by contracts.
-/
namespace Go.Proofs.YthodkbmenndnoaaDoor
open Go Go.RowKit Go.BigFrame

set_option maxRecDepth 100000 in
set_option maxHeartbeats 2000000 in
theorem l06Numbers_any (d : Hd) (bh : Nat) (hv : Nat → Value) (b1 c1 : Nat) (a1 : hv 0 = .slice (some ⟨b1, 0, none⟩) d.n1 c1) (ga : Option Addr) (gn gc : Nat) (ys : Nat → Int) (hgn : gn ≤ 1048576) (w : World) (hH : At w bh 3 hv) (hG : IntsAt w ga gn ys) :
    Calls Tryd.prog 90 #[.pointer (some ⟨bh, 0, none⟩), .slice ga gn gc] w fun e w' => e = .returned (.bool (numsB d gn ys)) ∧ Below w.heap.size w w' := by
  have hM := Mem.nil w
  have HH := Lib.hid hH
  have HG := Lib.hid hG
  clear hH hG
  go_enter Tryd.func90, Tryd.ntmps90
  go_wp2
  go_loopw [5] (fun i wr => ∃ k : Nat, k ≤ gn ∧ i = .int .i64 k ∧ Hid (numU ys k = true) ∧ Mem w [] wr) (fun i _ => gn - (intOf i).toNat)
  case atStart => exact ⟨0, by omega, rfl, Lib.hid rfl, hM⟩
  case round =>
    clear hM
    obtain ⟨k, hk, rfl, hall, hM⟩ := hrel
    by_cases hlt : k < gn
    · have l2 : (k : Int) < gn := by omega
      obtain ⟨bg, Ng, Fg, rfl, hNg, hFg, hAg⟩ := HG.out.at hlt
      have HAg := Lib.hid hAg
      obtain ⟨y, hy⟩ : ∃ y, ys k = y := ⟨_, rfl⟩
      rw [hy] at hFg
      have HSt := Lib.hid (show numU ys (k + 1) = inB 0 13 y from by simp only [numU, hall.out, Bool.true_and, hy])
      have HFn := Lib.hid (show inB 0 13 y = false → numsB d gn ys = false from fun h => by unfold numsB; rw [numU_no hlt (by rw [hy]; exact h), Bool.and_false])
      clear hAg hy
      cases hb : inB 0 13 y
      · have Hb := Lib.hid hb
        have HZ := Lib.hid (HFn.out hb)
        clear hb
        go_wp2_with (first | (refine wpList_getAt1 rfl _ _ rfl _ _ rfl (HAg.out.below hM.below HAg.out.lt) (cellTab _ rfl) (by omega) _ hFg ?_) | (go_at_call 78; refine (l00In_any y 0 13 _).mono ?_; rintro e W' ⟨rfl, hb'⟩; rw [Hb.out]; have hM' := hM.call hb'; clear hM hb'; have hM := hM'; clear hM'))
        go_ret
        rw [HZ.out]
        exact ⟨rfl, hM.below⟩
      have Hb := Lib.hid hb
      have HZ := Lib.hid (HSt.out.trans hb)
      clear hb
      go_wp2_with (first | (refine wpList_getAt1 rfl _ _ rfl _ _ rfl (HAg.out.below hM.below HAg.out.lt) (cellTab _ rfl) (by omega) _ hFg ?_) | (go_at_call 78; refine (l00In_any y 0 13 _).mono ?_; rintro e W' ⟨rfl, hb'⟩; rw [Hb.out]; have hM' := hM.call hb'; clear hM hb'; have hM := hM'; clear hM'))
      go_roundw
      case rel => exact ⟨k + 1, by omega, by go_num, HZ, hM⟩
      case measure => simp [intOf]; omega
    · obtain rfl : k = gn := by omega
      have HZ := Lib.hid (show numsB d k ys = decide (k = d.n1) from by unfold numsB; rw [hall.out, Bool.and_true])
      have hz : ((k : Int) == (d.n1 : Int)) = decide (k = d.n1) := by
        by_cases h : k = d.n1
        · rw [decide_eq_true h, h]; simp
        · rw [decide_eq_false h]; exact beq_eq_false_iff_ne.2 (by omega)
      go_wp2_with (first | (refine wpList_getAt1 rfl _ _ rfl _ _ rfl (HH.out.below hM.below HH.out.lt) (cellTab _ rfl) (by omega) _ a1 ?_))
      go_ret
      rw [HZ.out]
      exact ⟨by first | rfl | (rw [← hz]; rfl) | (rw [hz]) | (simp), hM.below⟩

/-- The two of a quarrel, -1 where there is none. -/
def qPair (o : Option (Nat × Nat)) : Value := match o with
  | some (i, k) => .tuple #[.int .i64 (i : Int), .int .i64 (k : Int)]
  | none => .tuple #[.int .i64 (-1), .int .i64 (-1)]
set_option maxRecDepth 100000 in
set_option maxHeartbeats 8000000 in
theorem l06Quarrel_any (d : Hd) (bh b1 b2 b3 : Nat) (hd : FitsH d) (h14 : d.n1 ≤ 14) (h3 : d.n3 = d.n1) (ga : Option Addr) (gc : Nat) (ys : Nat → Int) (w : World) (hM0 : Mem w ((bh, 3, hdV d b1 b2 b3) :: hdB d b1 b2 b3) w) (hG : IntsAt w ga d.n1 ys) :
    Calls Tryd.prog 91 #[.pointer (some ⟨bh, 0, none⟩), .slice ga d.n1 gc] w fun e w' => e = .returned (qPair (quarI d ys d.n1 d.n1)) ∧ Below w.heap.size w w' := by
  have hM := Mem.nil w
  have HG := Lib.hid hG
  have a3 : hdV d b1 b2 b3 2 = .slice (some ⟨b3, 0, none⟩) d.n3 d.n3 := rfl
  have HH := Lib.hid (hM0.ats 0 _ _ _ rfl)
  have H3 := Lib.hid (hM0.ats 3 _ _ _ rfl)
  obtain ⟨n, hn⟩ : ∃ n, d.n1 = n := ⟨_, rfl⟩
  have HARE := Lib.hid (fun (i k : Nat) (hi : i < n) (hk : k < n) (W : World) (hH : At W bh 3 (hdV d b1 b2 b3)) (hB : At W b3 d.n3 (vUint16S d.fs)) => l06Are_at d bh b3 d.n3 d.n3 d.n3 (hdV d b1 b2 b3) (vUint16S d.fs) a3 i k (by omega) (Nat.le_refl _) (by omega) (hd.f i (by omega)) rfl W hH hB)
  rw [hn] at HG h14 ⊢
  clear hM0 hG h3 hn
  go_enter Tryd.func91, Tryd.ntmps91
  go_wp2
  go_loopw [6] (fun v wr => ∃ i : Nat, i ≤ n ∧ v = .int .i64 i ∧ Hid (quarI d ys n i = none) ∧ Mem w [] wr) (fun v _ => n - (intOf v).toNat)
  case atStart => exact ⟨0, by omega, rfl, Lib.hid rfl, hM⟩
  case round =>
    clear hM
    obtain ⟨i, hi, rfl, hall, hM⟩ := hrel
    by_cases hlt : i < n
    · have l2 : (i : Int) < n := by omega
      have cw : IntKind.i64.wrap ((i : Int) + 1) = (i : Int) + 1 := IntWalk.i64_in _ (by omega)
      go_wp2
      go_loopw [7] (fun v wr => ∃ k : Nat, i + 1 ≤ k ∧ k ≤ n ∧ v = .int .i64 k ∧ Hid (quarK d ys i k = none) ∧ Mem w [] wr) (fun v _ => n - (intOf v).toNat)
      case atStart => exact ⟨i + 1, by omega, by omega, by go_num, Lib.hid (quarK_none.2 fun k hk hik => by omega), hM⟩
      case round =>
        clear hM
        obtain ⟨k, hik, hk, rfl, hall2, hM⟩ := hrel
        by_cases hkn : k < n
        · have l3 : (k : Int) < n := by omega
          obtain ⟨bg, Ng, Fg, rfl, hNg, hFg, hAg⟩ := HG.out.at hlt
          obtain ⟨bg2, Ng2, Fg2, heq, hNg2, hFg2, hAg2⟩ := HG.out.at hkn
          obtain rfl : bg = bg2 := by simpa using heq
          have HAg := Lib.hid hAg
          have HAg2 := Lib.hid hAg2
          obtain ⟨y, hy⟩ : ∃ y, ys i = y := ⟨_, rfl⟩
          obtain ⟨z, hz⟩ : ∃ z, ys k = z := ⟨_, rfl⟩
          rw [hy] at hFg
          rw [hz] at hFg2
          have HYZ := Lib.hid (And.intro hy hz)
          clear hAg hAg2 heq hy hz
          have HNo := Lib.hid (fun (h : qAt d ys i k = false) => show quarK d ys i (k + 1) = none from quarK_none.2 fun q hq hiq => by
            by_cases e : q = k
            · rw [e]; exact h
            · exact quarK_none.1 hall2.out q (by omega) hiq)
          by_cases hyz : y = z
          case neg =>
            have e1 : (y == z) = false := beq_eq_false_iff_ne.2 hyz
            have HZ := Lib.hid (HNo.out (by unfold qAt; rw [HYZ.out.1, HYZ.out.2, decide_eq_false hyz]; rfl))
            clear hyz
            go_wp2
            ((try simp only [Act.put, List.setIfInBounds_toArray, List.set_cons_succ, List.set_cons_zero]); refine wp_region_mem (by kernel_rfl) (by kernel_rfl) hM ?_; clear hM; (repeat (first | go_big_quiet_skip | (go_big_quiet_want; first | (refine quiet_old _ _ rfl _ _ rfl (cellTab _ rfl) (.int .i64 y) (fun W hM2 => ((HAg.out.below hM2.below HAg.out.lt).cell (by omega)).trans (congrArg some hFg)) ?_; (simp only [Act.put, List.setIfInBounds_toArray, List.set_cons_succ, List.set_cons_zero]); go_big_quiet_on) | (refine quiet_old _ _ rfl _ _ rfl (cellTab _ rfl) (.int .i64 z) (fun W hM2 => ((HAg2.out.below hM2.below HAg2.out.lt).cell (by omega)).trans (congrArg some hFg2)) ?_; (simp only [Act.put, List.setIfInBounds_toArray, List.set_cons_succ, List.set_cons_zero]); go_big_quiet_on) | (refine quiet_val ?_; apply Exists.intro; refine ⟨fun W => ?_, ?_⟩; (go_simp; (try simp only [e1, if_true, Bool.false_eq_true, if_false]); rfl); (simp only [Act.put, List.setIfInBounds_toArray, List.set_cons_succ, List.set_cons_zero]); go_big_quiet_on)))); (with_reducible refine wpQuiet_nil ?_); intro W' hM)
            go_wp2
            go_roundw
            case rel => exact ⟨k + 1, by omega, by omega, by go_num, HZ, hM⟩
            case measure => simp [intOf]; omega
          subst hyz
          cases hfo : foe d i k
          · have HFo := Lib.hid hfo
            have HZ := Lib.hid (HNo.out (by unfold qAt; rw [hfo, Bool.and_false]))
            clear hfo
            go_wp2
            ((try simp only [Act.put, List.setIfInBounds_toArray, List.set_cons_succ, List.set_cons_zero]); refine wp_region_mem (by kernel_rfl) (by kernel_rfl) hM ?_; clear hM; (repeat (first | go_big_quiet_skip | (go_big_quiet_want; first | (refine quiet_old _ _ rfl _ _ rfl (cellTab _ rfl) (.int .i64 y) (fun W hM2 => ((HAg.out.below hM2.below HAg.out.lt).cell (by omega)).trans (congrArg some hFg)) ?_; (simp only [Act.put, List.setIfInBounds_toArray, List.set_cons_succ, List.set_cons_zero]); go_big_quiet_on) | (refine quiet_old _ _ rfl _ _ rfl (cellTab _ rfl) (.int .i64 y) (fun W hM2 => ((HAg2.out.below hM2.below HAg2.out.lt).cell (by omega)).trans (congrArg some hFg2)) ?_; (simp only [Act.put, List.setIfInBounds_toArray, List.set_cons_succ, List.set_cons_zero]); go_big_quiet_on) | (refine quiet_call ?_; apply Exists.intro; apply Exists.intro; apply Exists.intro; refine ⟨fun W => ?_, fun W hM => ?_, ?_⟩; (go_simp; exact ⟨rfl, rfl⟩); (with_reducible exact HARE.out i k hlt hkn W (HH.out.below hM.below HH.out.lt) (H3.out.below hM.below H3.out.lt)); (simp only [HFo.out]); (simp only [Act.put, List.setIfInBounds_toArray, List.set_cons_succ, List.set_cons_zero]); go_big_quiet_on) | (refine quiet_val ?_; apply Exists.intro; refine ⟨fun W => ?_, ?_⟩; (go_simp; (try simp only [BEq.rfl, if_true, Bool.false_eq_true, if_false]); rfl); (simp only [Act.put, List.setIfInBounds_toArray, List.set_cons_succ, List.set_cons_zero]); go_big_quiet_on)))); (with_reducible refine wpQuiet_nil ?_); intro W' hM)
            go_wp2
            go_roundw
            case rel => exact ⟨k + 1, by omega, by omega, by go_num, HZ, hM⟩
            case measure => simp [intOf]; omega
          · have HFo := Lib.hid hfo
            have HZ := Lib.hid (show qPair (quarI d ys n n) = .tuple #[.int .i64 (i : Int), .int .i64 (k : Int)] from by
              rw [quarI_at hall.out (quarK_at hall2.out (by omega) (by unfold qAt; rw [HYZ.out.1, HYZ.out.2, decide_eq_true rfl, hfo]; rfl) n hkn) n hlt]; rfl)
            clear hfo
            go_wp2
            ((try simp only [Act.put, List.setIfInBounds_toArray, List.set_cons_succ, List.set_cons_zero]); refine wp_region_mem (by kernel_rfl) (by kernel_rfl) hM ?_; clear hM; (repeat (first | go_big_quiet_skip | (go_big_quiet_want; first | (refine quiet_old _ _ rfl _ _ rfl (cellTab _ rfl) (.int .i64 y) (fun W hM2 => ((HAg.out.below hM2.below HAg.out.lt).cell (by omega)).trans (congrArg some hFg)) ?_; (simp only [Act.put, List.setIfInBounds_toArray, List.set_cons_succ, List.set_cons_zero]); go_big_quiet_on) | (refine quiet_old _ _ rfl _ _ rfl (cellTab _ rfl) (.int .i64 y) (fun W hM2 => ((HAg2.out.below hM2.below HAg2.out.lt).cell (by omega)).trans (congrArg some hFg2)) ?_; (simp only [Act.put, List.setIfInBounds_toArray, List.set_cons_succ, List.set_cons_zero]); go_big_quiet_on) | (refine quiet_call ?_; apply Exists.intro; apply Exists.intro; apply Exists.intro; refine ⟨fun W => ?_, fun W hM => ?_, ?_⟩; (go_simp; exact ⟨rfl, rfl⟩); (with_reducible exact HARE.out i k hlt hkn W (HH.out.below hM.below HH.out.lt) (H3.out.below hM.below H3.out.lt)); (simp only [HFo.out]); (simp only [Act.put, List.setIfInBounds_toArray, List.set_cons_succ, List.set_cons_zero]); go_big_quiet_on) | (refine quiet_val ?_; apply Exists.intro; refine ⟨fun W => ?_, ?_⟩; (go_simp; (try simp only [BEq.rfl, if_true, Bool.false_eq_true, if_false]); rfl); (simp only [Act.put, List.setIfInBounds_toArray, List.set_cons_succ, List.set_cons_zero]); go_big_quiet_on)))); (with_reducible refine wpQuiet_nil ?_); intro W' hM)
            go_wp2
            go_ret2
            rw [HZ.out]
            exact ⟨rfl, hM.below⟩
        · obtain rfl : k = n := by omega
          have HZ := Lib.hid (quarI_step hall.out hall2.out)
          go_wp2
          go_roundw
          case rel => exact ⟨i + 1, by omega, by go_num, HZ, hM⟩
          case measure => simp [intOf]; omega
    · obtain rfl : i = n := by omega
      have HZ := Lib.hid (show qPair (quarI d ys i i) = .tuple #[.int .i64 (-1), .int .i64 (-1)] from by rw [hall.out]; rfl)
      go_wp2
      go_ret2
      rw [HZ.out]
      exact ⟨rfl, hM.below⟩
end Go.Proofs.YthodkbmenndnoaaDoor

/-
  spec.FoesOf, impl.FoesOf by contracts.
-/
namespace Go.Proofs.YthodkbmenndnoaaDoor
open Go Go.RowKit Go.BigFrame

def oneY (x : Int) : Nat → Int := fun _ => x
def foesC (d : Hd) (x : Int) : Int := askC d 1 (oneY x)
def foesL (d : Hd) (x : Int) : List Nat := if foesC d x = 0 then bitsL (d.fs x.toNat).toNat else []
theorem lit1_ints {x : Int} {W : World} {b : Nat} {F : Nat → Value} (h : At W b 1 F) (hF : F = fun _ => .int .i64 x) : IntsAt W (some ⟨b, 0, none⟩) 1 (oneY x) :=
  .inr ⟨b, 1, F, rfl, by omega, fun j _ => by rw [hF]; rfl, h⟩
theorem foes_0 {d : Hd} {x : Int} (h : foesC d x = 0) : HerdOk d ∧ (∀ j, j < 1 → 0 ≤ oneY x j ∧ oneY x j < d.n1) ∧ foesL d x = bitsL (d.fs x.toNat).toNat ∧ ∃ i : Nat, x = i ∧ i < d.n1 := by
  obtain ⟨h1, h2⟩ := askC_0 h
  have hx := h2 0 (by omega)
  simp only [oneY] at hx
  refine ⟨h1, h2, by unfold foesL; rw [if_pos h], x.toNat, ?_⟩
  omega
theorem foes_no {d : Hd} {x : Int} (h : foesC d x ≠ 0) : foesL d x = [] := by unfold foesL; rw [if_neg h]
/-- What comes of it. -/
def GivesF2 (l : List Nat) (c : Int) (w : World) (e : Ending) (w' : World) : Prop := GivesR 1 l.length (vInt64S (numsF (natI l))) c w e w'
theorem GivesF2.none {l : List Nat} {cc cc' : Int} {w w' : World} {a : Option Addr} {c : Nat} (hb : Below w.heap.size w w') (hn : l = []) (hc : cc' = cc) : GivesF2 l cc w (.returned (.tuple #[.slice a 0 c, .int .i64 cc'])) w' := GivesR.none hb (by rw [hn]; rfl) hc
theorem GivesF2.some {l : List Nat} {w w' : World} {v : Value} (h : Lst w [] 1 v l.length (vI (natI l)) w') : GivesF2 l 0 w (.returned (.tuple #[v, .int .i64 0])) w' := ⟨v, rfl, h.newL⟩
/-- The foes of a goat, found one by one. -/
def foeU (d : Hd) (i : Nat) : Nat → List Nat
  | 0 => []
  | k + 1 => if foe d i k then foeU d i k ++ [k] else foeU d i k
theorem foeU_eq (d : Hd) (i : Nat) : ∀ n, foeU d i n = (List.range n).filter fun k => foe d i k
  | 0 => rfl
  | n + 1 => by
    rw [List.range_succ, List.filter_append, ← foeU_eq d i n]
    simp only [foeU, List.filter_cons, List.filter_nil]
    cases foe d i n <;> simp
theorem foeU_len (d : Hd) (i n : Nat) : (foeU d i n).length ≤ n := by
  rw [foeU_eq]
  have := List.length_filter_le (fun k => foe d i k) (List.range n)
  simpa using this
theorem foeU_bits {d : Hd} {i n : Nat} (hn : n ≤ 16) (h : (d.fs i).toNat < 2 ^ n) : foeU d i n = bitsL (d.fs i).toNat := by
  rw [foeU_eq]
  unfold bitsL
  have e : List.range 16 = List.range n ++ (List.range (16 - n)).map (n + ·) := by rw [← List.range_add]; congr 1; omega
  rw [e, List.filter_append]
  have e2 : ((List.range (16 - n)).map (n + ·)).filter (fun k => (d.fs i).toNat.testBit k) = [] := by
    rw [List.filter_eq_nil_iff]
    intro a ha
    simp at ha
    obtain ⟨q, -, rfl⟩ := ha
    rw [Nat.testBit_lt_two_pow (Nat.lt_of_lt_of_le h (Nat.pow_le_pow_right (by decide) (by omega)))]
    decide
  rw [e2, List.append_nil]
  rfl

set_option maxRecDepth 100000 in
set_option maxHeartbeats 4000000 in
theorem specFoesOf_any (d : Hd) (b1 b2 b3 : Nat) (hd : FitsH d) (x : Int) (w : World) (hM0 : Mem w (hdB d b1 b2 b3) w) :
    Calls Tryd.prog 20 #[.agg (arr 3 (hdV d b1 b2 b3)), .int .i64 x] w (GivesF2 (foesL d x) (foesC d x) w) := by
  have hM : Mem w (hdB d b1 b2 b3 ++ []) w := by rw [List.append_nil]; exact hM0
  have H0 := Lib.hid hM0
  clear hM0
  have HAC := Lib.hid (fun (bh : Nat) (a : Option Addr) (W : World) hB hG => l06Asked_any d bh b1 b2 b3 hd a 1 1 (oneY x) (by omega) W hB hG)
  by_cases hc : foesC d x = 0
  · obtain ⟨hOk, -, hB, i, rfl, hi⟩ := foes_0 hc
    have h14 := hOk.n
    have a1 : hdV d b1 b2 b3 0 = .slice (some ⟨b1, 0, none⟩) d.n1 d.n1 := rfl
    have a3 : hdV d b1 b2 b3 2 = .slice (some ⟨b3, 0, none⟩) d.n3 d.n3 := rfl
    have hfi := hd.f i (by rw [hOk.l3]; exact hi)
    have HC := Lib.hid (show askC d 1 (oneY (i : Int)) = 0 from hc)
    have HR := Lib.hid (show foesL d (i : Int) = foeU d i d.n1 ∧ foesC d (i : Int) = 0 from ⟨by rw [hB, foeU_bits (by omega)]; rfl; have := hOk.foes i hi; rw [Int.toNat_lt (by omega)]; exact_mod_cast this, hc⟩)
    have HARE := Lib.hid (fun (bh : Nat) (k : Nat) (hk : k < d.n1) (W : World) (hH : At W bh 3 (hdV d b1 b2 b3)) (h3 : At W b3 d.n3 (vUint16S d.fs)) => l06Are_at d bh b3 d.n3 d.n3 d.n3 (hdV d b1 b2 b3) (vUint16S d.fs) a3 i k (by rw [hOk.l3]; exact hi) (Nat.le_refl _) (by omega) hfi rfl W hH h3)
    clear hc hB hOk hfi
    have tk_x1 : True := trivial; have tk_l1 : True := trivial; have tk_s0 : True := trivial
    go_enter Tryd.func20, Tryd.ntmps20
    go_wp2_with (first | (have _t := tk_x1; refine wpList_box rfl _ _ rfl _ _ rfl hM ?_; intro x1 W' hx1 hM'; clear hM tk_x1; have hM := hM'; clear hM') | (have _t := tk_l1; refine wpList_lit1 rfl _ _ _ rfl (.int .i64 (i : Int)) rfl rfl _ int64s_underR int64_infoR hM ?_; intro l1 W' hl1 hM'; clear hM tk_l1; have hM := hM'; clear hM') | (go_at_call 62; refine (HAC.out x1 _ _ (hM.drop.boxed) (lit1_ints (hM.ats 0 _ _ _ rfl) rfl)).mono ?_; rintro e W' ⟨rfl, hb'⟩; rw [HC.out]; have hM' := hM.call hb'; clear hM hb'; have hM := hM'; clear hM') | (have _t := tk_s0; refine wpList_slice0 rfl _ _ rfl _ int64s_underR int64_info0 hM ?_; intro s0 W' hs0 hM'; clear hM tk_s0; have hM := hM'; clear hM'))
    have HF0 := Lib.hid (fun j (hj : j < (natI (foeU d i 0)).length * 1) => show (fun _ : Nat => undef) j = vI (natI (foeU d i 0)) j from absurd hj (by simp [foeU, natI]))
    obtain ⟨n, hn⟩ : ∃ n, d.n1 = n := ⟨_, rfl⟩
    rw [hn] at HR HARE a1 hi h14
    clear hn
    simp only [hdB, List.cons_append, List.nil_append] at hM
    generalize hdV d b1 b2 b3 = hv at *
    go_loopw [7, 8] (fun v i8 wr => ∃ k : Nat, k ≤ n ∧ i8 = .int .i64 k ∧ ∃ b c F, v = .slice (some ⟨b, 0, none⟩) (natI (foeU d i k)).length c ∧ w.heap.size ≤ b ∧ (natI (foeU d i k)).length ≤ c ∧ Hid (∀ j, j < (natI (foeU d i k)).length * 1 → F j = vI (natI (foeU d i k)) j) ∧ Mem w ((b, c * 1, F) :: (l1, 1, fun _ => Value.int .i64 (i : Int)) :: (x1, 3, hv) :: (b1, d.n1, vStringS d.ss) :: (b2, d.n2, vInt16S d.es) :: [(b3, d.n3, vUint16S d.fs)]) wr) (fun _ i8 _ => n - (intOf i8).toNat)
    case atStart => exact ⟨0, by omega, rfl, s0, 0, _, rfl, hs0, by simp [foeU, natI], HF0, hM⟩
    case round =>
      clear hM
      obtain ⟨k, hk, rfl, b, c, F, rfl, hbb, hnc, hF, hM⟩ := hrel
      by_cases hlt : k < n
      · have l2 : (k : Int) < n := by omega
        have hlen : (natI (foeU d i k)).length ≤ 1048576 := by rw [natI_len]; have := foeU_len d i k; omega
        have HN := Lib.hid (fun (h : foe d i k = true) => show natI (foeU d i (k + 1)) = natI (foeU d i k) ++ [(k : Int)] from by simp [foeU, h, natI])
        have HN2 := Lib.hid (fun (h : foe d i k = false) => show natI (foeU d i (k + 1)) = natI (foeU d i k) from by simp [foeU, h])
        generalize natI (foeU d i k) = rl at *
        have Hnew := Lib.hid (fun j (hj : j < 1) => vI_new rl (k : Int) hj)
        have Hf := Lib.hid (fun j (hj : j < rl.length * 1) => (hF.out j hj).trans (vI_old rl (k : Int) hj))
        cases hfo : foe d i k
        · have HFo := Lib.hid hfo
          have HE := Lib.hid (HN2.out hfo)
          clear hfo HN HN2
          go_wp2_with (first | (refine wpList_get1 rfl _ _ rfl _ _ rfl hM 2 rfl (cellTab _ rfl) (by omega) _ a1 ?_) | (go_at_call 63; refine (HARE.out x1 k hlt _ (hM.ats 2 _ _ _ rfl) (hM.ats 5 _ _ _ rfl)).mono ?_; rintro e W' ⟨rfl, hb'⟩; rw [HFo.out]; have hM' := hM.call hb'; clear hM hb'; have hM := hM'; clear hM'))
          go_roundw
          case rel => exact ⟨k + 1, by omega, by go_num, b, c, F, by rw [HE.out], hbb, by rw [HE.out]; exact hnc, by rw [HE.out]; exact hF, hM⟩
          case measure => simp [intOf]; omega
        · have HFo := Lib.hid hfo
          have HE := Lib.hid (HN.out hfo)
          clear hfo HN HN2
          have tk_l2b : True := trivial; have tk_p1 : True := trivial
          go_wp2_with (first | (refine wpList_get1 rfl _ _ rfl _ _ rfl hM 2 rfl (cellTab _ rfl) (by omega) _ a1 ?_) | (go_at_call 63; refine (HARE.out x1 k hlt _ (hM.ats 2 _ _ _ rfl) (hM.ats 5 _ _ _ rfl)).mono ?_; rintro e W' ⟨rfl, hb'⟩; rw [HFo.out]; have hM' := hM.call hb'; clear hM hb'; have hM := hM'; clear hM') | (have _t := tk_l2b; refine wpList_lit1 rfl _ _ _ rfl (.int .i64 (k : Int)) rfl rfl _ int64s_underR int64_infoR hM ?_; intro l2b W' hl2b hM'; clear hM tk_l2b; have hM := hM'; clear hM') | (have _t := tk_p1; refine wpList_push1 rfl _ _ _ rfl _ 1 _ _ int64s_underR infoInt64S rfl (by omega) _ _ _ _ rfl hbb hnc hlen _ _ rfl i64_one hM (vI (rl ++ [(k : Int)])) Hf.out Hnew.out ?_; intro bL cL FL W' hbL hcL hFL hM'; clear hM tk_p1; have hM := hM'; clear hM'))
          go_roundw
          case rel => exact ⟨k + 1, by omega, by go_num, bL, cL, FL, by rw [HE.out, List.length_append]; rfl, hbL, by rw [HE.out, List.length_append]; exact hcL, by rw [HE.out, List.length_append]; exact Lib.hid hFL, hM⟩
          case measure => simp [intOf]; omega
      · obtain rfl : k = n := by omega
        go_wp2_with (first | (refine wpList_get1 rfl _ _ rfl _ _ rfl hM 2 rfl (cellTab _ rfl) (by omega) _ a1 ?_))
        go_ret2
        rw [HR.out.1, HR.out.2]
        have hL : Lst w _ 1 (.slice (some ⟨b, 0, none⟩) (natI (foeU d i k)).length c) (natI (foeU d i k)).length (vI (natI (foeU d i k))) wr := .inr ⟨b, c, F, rfl, hbb, hnc, hF.out, hM⟩
        rw [natI_len] at hL ⊢
        exact GivesF2.some hL.only
  · have hz : askC d 1 (oneY x) ≠ 0 := hc
    have HR := Lib.hid (foes_no hc)
    unfold foesC
    clear hc
    generalize askC d 1 (oneY x) = C at *
    have z1 : (C != 0) = true := bne_iff_ne.2 hz
    have z2 : (C == 0) = false := beq_eq_false_iff_ne.2 hz
    have tk_x1 : True := trivial; have tk_l1 : True := trivial; have tk_s0 : True := trivial
    go_enter Tryd.func20, Tryd.ntmps20
    go_wp2_with (first | (have _t := tk_x1; refine wpList_box rfl _ _ rfl _ _ rfl hM ?_; intro x1 W' hx1 hM'; clear hM tk_x1; have hM := hM'; clear hM') | (have _t := tk_l1; refine wpList_lit1 rfl _ _ _ rfl (.int .i64 x) rfl rfl _ int64s_underR int64_infoR hM ?_; intro l1 W' hl1 hM'; clear hM tk_l1; have hM := hM'; clear hM') | (go_at_call 62; (with_reducible refine (HAC.out x1 _ _ (hM.drop.boxed) (lit1_ints (hM.ats 0 _ _ _ rfl) rfl)).mono ?_); rintro e W' ⟨rfl, hb'⟩; have hM' := hM.call hb'; clear hM hb'; have hM := hM'; clear hM') | (have _t := tk_s0; refine wpList_slice0 rfl _ _ rfl _ int64s_underR int64_info0 hM ?_; intro s0 W' hs0 hM'; clear hM tk_s0; have hM := hM'; clear hM'))
    go_ret2
    exact GivesF2.none hM.below HR.out rfl
theorem Lst.rise {w0 w1 : World} {K : Blocks} {m n : Nat} {v : Value} {R : Nat → Value} {W : World} (hM : Mem w0 K w1) (h : Lst w1 [] m v n R W) : Lst w0 [] m v n R W ∧ Below w1.heap.size w1 W := by
  rcases h with ⟨h1, h2, h⟩ | ⟨b, c, F, h1, h2, h3, h4, h⟩
  · exact ⟨.inl ⟨h1, h2, Mem.start (hM.call h.below).good⟩, h.below⟩
  · exact ⟨.inr ⟨b, c, F, h1, Nat.le_trans hM.size h2, h3, h4, h.base (hM.call h.below).good⟩, h.below⟩
/-- A goat's foes out of the program's goats. -/
theorem MemsAt.foes {W : World} {a : Option Addr} {n : Nat} {d : Hd} (h : MemsAt W a n d) {i : Nat} (hi : i < n) {s : Nat} (hs : d.fs i = s) : ∃ b N F, a = some ⟨b, 0, none⟩ ∧ i * 3 + 2 < N ∧ F (i * 3 + 2) = .int .u16 s ∧ At W b N F := by
  obtain ⟨b, N, F, h1, h2, -, h3, h4⟩ := h.row hi
  exact ⟨b, N, F, h1, by omega, (h3 2 (by omega)).trans (by rw [← hs]; rfl), h4⟩
set_option maxRecDepth 100000 in
set_option maxHeartbeats 4000000 in
theorem implFoesOf_any {a : Nat → Addr} (d : Hd) (b1 b2 b3 : Nat) (hd : FitsH d) (x : Int) (w : World) (hM0 : Mem w (hdB d b1 b2 b3) w) (hE : Errs a w) (hT : Tab w) :
    Calls Tryd.prog 21 #[.agg (arr 3 (hdV d b1 b2 b3)), .int .i64 x] w (GivesF2 (foesL d x) (foesC d x) w) := by
  have hM := Mem.nil w
  have H0 := Lib.hid hM0
  have HE := Lib.hid hE
  have HT := Lib.hid hT
  clear hM0 hE hT
  by_cases hc : foesC d x = 0
  · obtain ⟨hOk, hys, hB, i, rfl, hi⟩ := foes_0 hc
    have h14 := hOk.n
    have hfi := hd.f i (by rw [hOk.l3]; exact hi)
    obtain ⟨s, hs⟩ : ∃ s : Nat, d.fs i = s := ⟨(d.fs i).toNat, by omega⟩
    have hs2 : s < 65536 := by omega
    have HR := Lib.hid (show foesL d (i : Int) = bitsL s ∧ foesC d (i : Int) = 0 from ⟨by rw [hB, Int.toNat_natCast, hs]; rfl, hc⟩)
    have Hs := Lib.hid hs
    have hFW := fun (ga : Option Addr) (W : World) hB hE hG => flockWith_ok (r := a 1) d b1 b2 b3 hd ga 1 1 (oneY (i : Int)) (by omega) W hB hE hG hOk hys
    clear hc hB hys hs hfi
    obtain ⟨hv, hhv⟩ : ∃ f, hdV d b1 b2 b3 = f := ⟨_, rfl⟩
    rw [hhv] at hFW ⊢
    have HFW := Lib.hid hFW
    obtain ⟨n, hn⟩ : ∃ n, d.n1 = n := ⟨_, rfl⟩
    rw [hn] at HFW hi
    have l2 : (i : Int) < n := by omega
    clear hhv hFW hOk
    have tk_x1 : True := trivial; have tk_r1 : True := trivial; have tk_l1 : True := trivial; have tk_f8 : True := trivial; have tk_s1 : True := trivial; have tk_m1 : True := trivial
    go_enter Tryd.func21, Tryd.ntmps21
    go_wp2_with (first | (have _t := tk_x1; refine wpList_box rfl _ _ rfl _ _ rfl hM ?_; intro x1 W' hx1 hM'; clear hM tk_x1; have hM := hM'; clear hM') | (have _t := tk_r1; refine wpList_get rfl _ _ rfl _ _ rfl hM 0 rfl (rowTab _ _ rfl) (by omega) ?_; simp only [Nat.zero_add]; clear tk_r1) | (have _t := tk_l1; refine wpList_lit1 rfl _ _ _ rfl (.int .i64 (i : Int)) rfl rfl _ int64s_underR int64_infoR hM ?_; intro l1 W' hl1 hM'; clear hM tk_l1; have hM := hM'; clear hM') | (go_at_call 64; refine (HFW.out _ _ ((H0.out.call hM.below).base (Below.refl _ _)) ⟨(HE.out.below hM.below).vars 1 (by omega), HT.out.below hM.below⟩ (lit1_ints (hM.ats 0 _ _ _ rfl) rfl)).mono ?_; rintro e Wf ⟨ma, mc, m, rfl, hmc, hMA, hO, hb'⟩; obtain ⟨bm, Nm, Fm, rfl, hNm, hFm, hAm⟩ := hMA.foes hi Hs.out; have hM' := hM.call hb'; have HB0 := Lib.hid hM'.below; have hM2 := hM'.base (w' := Base.of Wf) (Below.refl _ _); have HAm := Lib.hid hAm; clear hM hb' hO hMA hM' hAm; have hM := hM2; clear hM2) | (have _t := tk_f8; refine wpList_zero rfl _ rfl (zeroTab _ _ _ rfl) hM ?_; intro f8 W' hf8 hM'; clear hM tk_f8; have hM := hM'; clear hM') | (have _t := tk_s1; refine wpList_lay rfl _ _ _ rfl _ _ rfl _ _ rfl hM 0 rfl (by assumption) (rowTab _ _ rfl) (by omega) (fun k _ => flkV_one _ _ _ _ k) ?_; intro W' hM'; have hM2 := hM'.re 0 rfl (flkV (some ⟨bm, 0, none⟩) n mc m) (fun k hk => by simp [lay, hk]); simp only [List.set] at hM2; clear hM hM' tk_s1; have hM := hM2; clear hM2) | (have _t := tk_m1; refine wpList_get1 rfl _ _ rfl _ _ rfl hM 0 rfl (cellTab _ rfl) (by omega) (.slice (some ⟨bm, 0, none⟩) n mc) rfl ?_; clear tk_m1) | (refine wpList_getAt1 rfl _ _ rfl _ _ rfl (HAm.out.below hM.below HAm.out.lt) (cellTab _ rfl) hNm _ hFm ?_) | (go_at_call 66; refine (list_any s hs2 _ ((HT.out.below HB0.out).below hM.below)).mono ?_; rintro e W' ⟨v, rfl, hL⟩; have HL := Lib.hid hL; clear hL))
    go_ret2
    rw [HR.out.1, HR.out.2]
    have hU := Lst.rise ((hM.base (w' := Base.of w) (HB0.out.trans (hM.below.mono HB0.out.size)))) HL.out
    exact GivesF2.some hU.1
  · have hz : askC d 1 (oneY x) ≠ 0 := hc
    have HR := Lib.hid (foes_no hc)
    have hFW := fun (ga : Option Addr) (W : World) hB hE hT hG => flockWith_bad (a := a) d b1 b2 b3 hd ga 1 1 (oneY x) (by omega) W hB hE hT hG hz
    unfold foesC
    clear hc
    obtain ⟨hv, hhv⟩ : ∃ f, hdV d b1 b2 b3 = f := ⟨_, rfl⟩
    rw [hhv] at hFW ⊢
    generalize askC d 1 (oneY x) = C at *
    have HFW := Lib.hid hFW
    clear hhv hFW
    have tk_x1 : True := trivial; have tk_r1 : True := trivial; have tk_l1 : True := trivial; have tk_f8 : True := trivial; have tk_s1 : True := trivial
    go_enter Tryd.func21, Tryd.ntmps21
    go_wp2_with (first | (have _t := tk_x1; refine wpList_box rfl _ _ rfl _ _ rfl hM ?_; intro x1 W' hx1 hM'; clear hM tk_x1; have hM := hM'; clear hM') | (have _t := tk_r1; refine wpList_get rfl _ _ rfl _ _ rfl hM 0 rfl (rowTab _ _ rfl) (by omega) ?_; simp only [Nat.zero_add]; clear tk_r1) | (have _t := tk_l1; refine wpList_lit1 rfl _ _ _ rfl (.int .i64 x) rfl rfl _ int64s_underR int64_infoR hM ?_; intro l1 W' hl1 hM'; clear hM tk_l1; have hM := hM'; clear hM') | (go_at_call 64; refine (HFW.out _ _ ((H0.out.call hM.below).base (Below.refl _ _)) (HE.out.below hM.below) (HT.out.below hM.below) (lit1_ints (hM.ats 0 _ _ _ rfl) rfl)).mono ?_; rintro e Wf ⟨ff, ev, rfl, hone, hEv, hb'⟩; have hM' := hM.call hb'; have hN := hEv.neq; have hGd := hEv.guard; have HEv := Lib.hid hEv; have HOne := Lib.hid hone; clear hM hb' hEv hone; have hM := hM'; clear hM') | (have _t := tk_f8; refine wpList_zero rfl _ rfl (zeroTab _ _ _ rfl) hM ?_; intro f8 W' hf8 hM'; clear hM tk_f8; have hM := hM'; clear hM') | (have _t := tk_s1; refine wpList_lay rfl _ _ _ rfl _ _ rfl _ _ rfl hM 0 rfl (by assumption) (rowTab _ _ rfl) (by omega) HOne.out ?_; intro W' hM'; clear hM tk_s1; have hM := hM'; clear hM'; simp only [List.set] at hM) | (go_at_call 65; refine (HEv.out.code (HE.out.below hM.below)).mono ?_; rintro e W' ⟨rfl, rfl⟩))
    go_ret2
    exact GivesF2.none hM.below HR.out rfl
end Go.Proofs.YthodkbmenndnoaaDoor

