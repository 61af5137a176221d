/-
  Several texts in one: BesideL, Mix, Range, RangeL, KpL, SeqL.
-/
import Derived.Test.YtjfmhnbbdkejeaaDoorP6
import Derived.Test.YtjfmhnbbdkejeaaDoorP3
import Derived.StillTail
import Derived.Deep.Quiet
import Derived.Test.YtjfmhnbbdkejeaaDoorP1
import Derived.Test.YtjfmhnbbdkejeaaDoorP4
import Derived.Test.YtjfmhnbbdkejeaaDoorP2
import Derived.Laws.ResultCell
/-
  spec.l01Beside by contract.
-/
namespace Go.Proofs.YtjfmhnbbdkejeaaDoor
open Go Go.RowKit Go.BigFrame

theorem over_any (k : Nat) (hk : k < 4) (x y : Int) (hx : 0 ≤ x ∧ x ≤ 9) (hy : 0 ≤ y ∧ y ≤ 9) (w : World) :
    Calls Tryd.prog 99 #[.agg (arr 2 (sp x y)), .int .i64 k] w fun e w' => e = .returned (.agg (arr 2 (sp (nxX k x) (nxY k y)))) ∧ Below w.heap.size w w' := by
  rcases (show k = 0 ∨ k = 1 ∨ k = 2 ∨ k = 3 by omega) with rfl | rfl | rfl | rfl
  · exact over_0 x y hx hy w
  · exact over_1 x y hx hy w
  · exact over_2 x y hx hy w
  · exact over_3 x y hx hy w
theorem l01Next_any (k : Nat) (hk : k < 4) (x y : Int) (hx : 0 ≤ x ∧ x ≤ 9) (hy : 0 ≤ y ∧ y ≤ 9) (w : World) :
    Calls Tryd.prog 92 #[.agg (arr 2 (sp x y)), .int .i64 k] w fun e w' => e = .returned (.agg (arr 2 (sp (nxX k x) (nxY k y)))) ∧ Below w.heap.size w w' := by
  rcases (show k = 0 ∨ k = 1 ∨ k = 2 ∨ k = 3 by omega) with rfl | rfl | rfl | rfl
  · exact l01Next_0 x y hx hy w
  · exact l01Next_1 x y hx hy w
  · exact l01Next_2 x y hx hy w
  · exact l01Next_3 x y hx hy w

/-- The spots behind the open ones of the first i sides. -/
def besL (g : Nat → Int) (x y : Int) (i : Nat) : List (Int × Int) := ((List.range i).filter fun k => !closedB g k x y).map fun k => (nxX k x, nxY k y)
theorem besL_yes {g : Nat → Int} {x y : Int} {k : Nat} (h : closedB g k x y = false) : besL g x y (k + 1) = besL g x y k ++ [(nxX k x, nxY k y)] := by
  simp [besL, List.range_succ, List.filter_append, h]
theorem besL_no {g : Nat → Int} {x y : Int} {k : Nat} (h : closedB g k x y = true) : besL g x y (k + 1) = besL g x y k := by
  simp [besL, List.range_succ, List.filter_append, h]
theorem besL_len {g : Nat → Int} {x y : Int} {i : Nat} : (besL g x y i).length ≤ i := by
  unfold besL
  rw [List.length_map]
  exact Nat.le_trans (List.length_filter_le _ _) (by simp)

def BesIn (w : Base) (K : Blocks) (g : Nat → Int) (x y : Int) (i : Nat) (v : Value) (wr : World) : Prop := Lst w K 2 v (besL g x y i).length (sps (sI (besL g x y i))) wr

set_option maxRecDepth 100000 in
set_option maxHeartbeats 1000000 in
theorem l01Beside_any (g : Nat → Int) (hg : Fits g) (ho : okB g = true) (bp : Nat) (x y : Int) (hx : 0 ≤ x ∧ x ≤ 9) (hy : 0 ≤ y ∧ y ≤ 9) (w : World) (hA : At w bp 122 (pas g)) :
    Calls Tryd.prog 54 #[.pointer (some ⟨bp, 0, none⟩), .agg (arr 2 (sp x y))] w (GivesL w (besL g x y 4)) := by
  have hM : Mem w [(bp, 122, pas g)] w := (Mem.nil w).old hA (fun i p h => by simp at h)
  have Hx := Lib.hid hx
  have Hy := Lib.hid hy
  have Ho := Lib.hid ho
  clear hA hx hy ho
  have tk_b1 : True := trivial; have tk_b2 : True := trivial
  go_enter Tryd.func54, Tryd.ntmps54
  go_wp2_with (first | (have _t := tk_b1; refine wpList_box rfl _ _ rfl _ _ rfl hM ?_; intro b1 W' hb1 hM'; clear hM tk_b1; have hM := hM'; clear hM') | (have _t := tk_b2; refine wpList_slice0 rfl _ _ rfl _ spot_under rfl hM ?_; intro b2 W' hb2 hM'; clear hM tk_b2; have hM := hM'; clear hM'))
  go_loopw [5, 6] (fun v i wr => ∃ k : Nat, k ≤ 4 ∧ i = .int .i64 k ∧ BesIn w [(b1, 2, sp x y), (bp, 122, pas g)] g x y k v wr) (fun _ i _ => 4 - (intOf i).toNat)
  case atStart => exact ⟨0, by omega, rfl, .inr ⟨b2, 0, fun _ => undef, rfl, hb2, Nat.le_refl _, fun j hj => absurd hj (by simp [besL]), hM⟩⟩
  case round =>
    clear hM
    obtain ⟨k, hk, rfl, hL⟩ := hrel
    by_cases hlt : k < 4
    · have l2 : (k : Int) < 4 := by omega
      have hl := besL_len (g := g) (x := x) (y := y) (i := k)
      cases hc : closedB g k x y
      · have Hc := Lib.hid hc
        have Hy2 := Lib.hid (besL_yes hc)
        have hnew := fun q hq => spsI_new (besL g x y k) (nxX k x) (nxY k y) (j := q) hq
        have hold := fun q hq => spsI_old (l := besL g x y k) (nxX k x, nxY k y) (j := q) hq
        have Hn := Lib.hid hnew
        clear hc hnew
        rcases hL with ⟨rfl, hn0, hM⟩ | ⟨b, c, F, rfl, hb, hnc, hF, hM⟩
        · have Hq : Hid (∀ q, q < 2 → sp (nxX k x) (nxY k y) q = sps (sI (besL g x y k ++ [(nxX k x, nxY k y)])) q) := Lib.hid (fun q hq => by have := Hn.out q hq; rwa [hn0, Nat.zero_mul, Nat.zero_add] at this)
          clear hold hl
          have tk_b3 : True := trivial; have tk_p1 : True := trivial; have tk_r1 : True := trivial; have tk_r2 : True := trivial
          go_wp2_with (first | (go_at_call 91; (with_reducible refine (l01Closed_any g hg Ho.out bp k hlt x y Hx.out Hy.out _ (hM.ats 1 _ _ _ rfl)).mono ?_); rintro e W' ⟨rfl, hb'⟩; rw [Hc.out]; have hM' := hM.call hb'; clear hM hb'; have hM := hM'; clear hM') | (go_at_call 92; (with_reducible refine (l01Next_any k hlt x y Hx.out Hy.out _).mono ?_); rintro e W' ⟨rfl, hb'⟩; have hM' := hM.call hb'; clear hM hb'; have hM := hM'; clear hM') | (have _t := tk_r1; (refine wpList_get rfl _ _ rfl _ _ rfl hM 0 rfl (rowTab _ _ rfl) (by omega) ?_); clear tk_r1) | (have _t := tk_r2; (refine wpList_get rfl _ _ rfl _ _ rfl hM 0 rfl (rowTab _ _ rfl) (by omega) ?_); clear tk_r2) | (have _t := tk_b3; refine wpList_slice1 rfl _ _ _ rfl _ _ rfl _ spot_under spot_info (by omega) (by omega) hM ?_; intro b3 W' hb3 hM'; clear hM tk_b3; have hM := hM'; clear hM') | (have _t := tk_p1; refine wpList_push0 rfl _ _ _ rfl _ 2 _ _ spot_under spot_infoB rfl (by omega) rfl _ _ rfl hM (sps (sI (besL g x y k ++ [(nxX k x, nxY k y)]))) Hq.out ?_; intro bL cL FL W' hbL hcL hFL hM'; clear hM tk_p1; have hM := hM'; clear hM'))
          go_roundw
          case rel => exact ⟨k + 1, by omega, by go_num, by
            unfold BesIn
            rw [Hy2.out, List.length_append, hn0]
            exact .inr ⟨bL, cL, FL, rfl, hbL, hcL, hFL, hM⟩⟩
          case measure => simp [intOf]; omega
        · have Hf : Hid (∀ q, q < (besL g x y k).length * 2 → F q = sps (sI (besL g x y k ++ [(nxX k x, nxY k y)])) q) := Lib.hid (fun q hq => by rw [hF q hq]; exact hold q hq)
          have hn : (besL g x y k).length ≤ 1048576 := by omega
          clear hold hl hF
          have tk_b3 : True := trivial; have tk_p1 : True := trivial; have tk_r1 : True := trivial; have tk_r2 : True := trivial
          go_wp2_with (first | (go_at_call 91; (with_reducible refine (l01Closed_any g hg Ho.out bp k hlt x y Hx.out Hy.out _ (hM.ats 2 _ _ _ rfl)).mono ?_); rintro e W' ⟨rfl, hb'⟩; rw [Hc.out]; have hM' := hM.call hb'; clear hM hb'; have hM := hM'; clear hM') | (go_at_call 92; (with_reducible refine (l01Next_any k hlt x y Hx.out Hy.out _).mono ?_); rintro e W' ⟨rfl, hb'⟩; have hM' := hM.call hb'; clear hM hb'; have hM := hM'; clear hM') | (have _t := tk_r1; (refine wpList_get rfl _ _ rfl _ _ rfl hM 1 rfl (rowTab _ _ rfl) (by omega) ?_); clear tk_r1) | (have _t := tk_r2; (refine wpList_get rfl _ _ rfl _ _ rfl hM 1 rfl (rowTab _ _ rfl) (by omega) ?_); clear tk_r2) | (have _t := tk_b3; refine wpList_slice1 rfl _ _ _ rfl _ _ rfl _ spot_under spot_info (by omega) (by omega) hM ?_; intro b3 W' hb3 hM'; clear hM tk_b3; have hM := hM'; clear hM') | (have _t := tk_p1; refine wpList_push1 rfl _ _ _ rfl _ 2 _ _ spot_under spot_infoB rfl (by omega) _ _ _ _ rfl hb hnc hn _ _ rfl sp_one hM (sps (sI (besL g x y k ++ [(nxX k x, nxY k y)]))) Hf.out Hn.out ?_; intro bL cL FL W' hbL hcL hFL hM'; clear hM tk_p1; have hM := hM'; clear hM'))
          go_roundw
          case rel => exact ⟨k + 1, by omega, by go_num, by
            unfold BesIn
            rw [Hy2.out, List.length_append]
            exact .inr ⟨bL, cL, FL, rfl, hbL, hcL, hFL, hM⟩⟩
          case measure => simp [intOf]; omega
      · have Hc := Lib.hid hc
        have Hy2 := Lib.hid (besL_no hc)
        clear hc
        rcases hL with ⟨rfl, hn0, hM⟩ | ⟨b, c, F, rfl, hb, hnc, hF, hM⟩
        · have tk_r1 : True := trivial
          go_wp2_with (first | (go_at_call 91; (with_reducible refine (l01Closed_any g hg Ho.out bp k hlt x y Hx.out Hy.out _ (hM.ats 1 _ _ _ rfl)).mono ?_); rintro e W' ⟨rfl, hb'⟩; rw [Hc.out]; have hM' := hM.call hb'; clear hM hb'; have hM := hM'; clear hM') | (have _t := tk_r1; (refine wpList_get rfl _ _ rfl _ _ rfl hM 0 rfl (rowTab _ _ rfl) (by omega) ?_); clear tk_r1))
          go_roundw
          case rel => exact ⟨k + 1, by omega, by go_num, by
            unfold BesIn
            rw [Hy2.out]
            exact .inl ⟨rfl, hn0, hM⟩⟩
          case measure => simp [intOf]; omega
        · have Hf := Lib.hid hF
          clear hF
          have tk_r1 : True := trivial
          go_wp2_with (first | (go_at_call 91; (with_reducible refine (l01Closed_any g hg Ho.out bp k hlt x y Hx.out Hy.out _ (hM.ats 2 _ _ _ rfl)).mono ?_); rintro e W' ⟨rfl, hb'⟩; rw [Hc.out]; have hM' := hM.call hb'; clear hM hb'; have hM := hM'; clear hM') | (have _t := tk_r1; (refine wpList_get rfl _ _ rfl _ _ rfl hM 1 rfl (rowTab _ _ rfl) (by omega) ?_); clear tk_r1))
          go_roundw
          case rel => exact ⟨k + 1, by omega, by go_num, by
            unfold BesIn
            rw [Hy2.out]
            exact .inr ⟨b, c, F, rfl, hb, hnc, Hf.out, hM⟩⟩
          case measure => simp [intOf]; omega
    · obtain rfl : k = 4 := by omega
      go_wp2
      go_ret
      exact ⟨_, rfl, hL.only⟩

end Go.Proofs.YtjfmhnbbdkejeaaDoor

/-
  PLAIN LAW: a region that draws its order and holds reads and quiet calls (each yields one value, whatever lies beside what it reads) and, among them in whatever order, a short thread that makes new blocks and writes into them: reads and calls may be taken first.
-/
namespace Go.Proofs.YtjfmhnbbdkejeaaDoor
open Go Go.RowKit
variable {P : Program} {ops : Array Oper} {C D : World → Prop}

/-- One value in every world of the class; a call lets lie all that lay. -/
def qB (P : Program) (o : Oper) (a : Act) (C : World → Prop) (K : Act → Prop) : Prop := ∃ v, (∀ W, C W → o.quietAt P a (Below W.heap.size W) W v) ∧ K (a.put o.dst v)
/-- What is known of a world, of the class, and kept by what lets lie all that lay. -/
structure Kept (C D : World → Prop) : Prop where
  sub : ∀ W, D W → C W
  on : ∀ W W', D W → Below W.heap.size W W' → D W'
/-- One operation of the thread: a value in its place, another world, another thing known of it. -/
def stepT (P : Program) (C : World → Prop) (o : Oper) (a : Act) (D : World → Prop) (K : Act → (World → Prop) → Prop) : Prop :=
  ∀ W, D W → (∃ u D' W', ((execOp a.eval o).run P W = .ok (.value u) W' ∨ ((execOp a.eval o).run P W = .ok .skip W' ∧ u = undef)) ∧ Kept C D' ∧ D' W' ∧ K (a.put o.dst u) D') ∨
    (∃ f args, (execOp a.eval o).run P W = .ok (.enter f args) W ∧ Calls P f args W fun e W' => ∃ u D', e = .returned u ∧ Kept C D' ∧ D' W' ∧ K (a.put o.dst u) D')
/-- Operation i comes up: one of the first n is a read, the others are the thread. -/
def mixOp (P : Program) (ops : Array Oper) (C : World → Prop) (n i : Nat) (a : Act) (D : World → Prop) (K : Act → (World → Prop) → Prop) : Prop :=
  ∃ o, ops[i]? = some o ∧ (if i < n then (if Region.wanted o (yielded ops a.tmps) then qB P o a C (fun a' => K a' D) else K (a.put o.dst undef) D) else o.guard = none ∧ stepT P C o a D K)
def mix (P : Program) (ops : Array Oper) (C : World → Prop) (n : Nat) (Q : Exit → Act → World → Prop) : Nat → Array Bool → Act → (World → Prop) → Prop
  | 0, s, a, D => Region.ready .any ops s = [] ∧ ∀ W, D W → Q .normal a W
  | f + 1, s, a, D => Region.ready .any ops s ≠ [] ∧ ∀ i ∈ Region.ready .any ops s, mixOp P ops C n i a D (mix P ops C n Q f (s.setIfInBounds i true))

theorem wpOp_of_mixOp {n i : Nat} {a : Act} {W : World} {K : Act → (World → Prop) → Prop} {K' : Act → World → Prop} {Q : Exit → Act → World → Prop} (hD : Kept C D) (hW : D W)
    (h : ∀ a D W, Kept C D → D W → K a D → K' a W) (hh : mixOp P ops C n i a D K) : wpOp P ops Q i K' a W := by
  obtain ⟨o, ho, hh⟩ := hh
  unfold wpOp
  simp only [ho]
  by_cases hn : i < n
  · rw [if_pos hn] at hh
    by_cases hw : Region.wanted o (yielded ops a.tmps) = true
    · rw [if_pos hw] at hh ⊢
      obtain ⟨v, h1, h2⟩ := hh
      have h3 := h1 W (hD.sub W hW)
      refine .inl ?_
      unfold Oper.quietAt at h3
      unfold Oper.wp
      generalize (execOp a.eval o).run P W = r at *
      cases r with
      | ok x w' =>
        cases x <;> simp only [Oper.quietUpon] at h3 <;> simp only [Oper.upon]
        case value => obtain ⟨rfl, rfl⟩ := h3; exact h _ _ _ hD hW h2
        case skip => obtain ⟨rfl, rfl⟩ := h3; exact h _ _ _ hD hW h2
        case enter f args =>
          obtain ⟨rfl, hc⟩ := h3
          exact hc.mono fun e w'' ⟨he, hb⟩ => by subst he; exact h _ _ _ hD (hD.on _ _ hW hb) h2
      | halt x w' => simp only [Oper.quietUpon] at h3
    · rw [if_neg hw] at hh ⊢
      exact h _ _ _ hD hW hh
  · rw [if_neg hn] at hh
    obtain ⟨hg, hs⟩ := hh
    have hw : Region.wanted o (yielded ops a.tmps) = true := by simp [Region.wanted, hg]
    rw [if_pos hw]
    refine .inl ?_
    unfold Oper.wp
    rcases hs W hW with ⟨u, D', W', hr, hk, hd, hK⟩ | ⟨f, args, hr, hc⟩
    · rcases hr with hr | ⟨hr, rfl⟩ <;> rw [hr] <;> exact h _ _ _ hk hd hK
    · rw [hr]
      exact hc.mono fun e w'' ⟨u, D', he, hk, hd, hK⟩ => by subst he; exact h _ _ _ hk hd hK

theorem any_of_mix {n : Nat} {Q : Exit → Act → World → Prop} (f : Nat) : ∀ s a D W, Kept C D → D W → mix P ops C n Q f s a D → wpAny P .any ops Q f s a W := by
  induction f with
  | zero => intro s a D W _ hW h; exact ⟨h.1, h.2 W hW⟩
  | succ f ih =>
    intro s a D W hD hW h
    exact ⟨fun e => absurd e h.1, fun i hi => wpOp_of_mixOp hD hW (fun a' D' W' hD' hW' h' => ih _ a' D' W' hD' hW' h') (h.2 i hi)⟩

/-- Operation o has the value v in state a. -/
def gives (P : Program) (ops : Array Oper) (C : World → Prop) (o : Oper) (v : Value) (a : Act) : Prop :=
  (Region.wanted o (yielded ops a.tmps) = true ∧ ∀ W, C W → o.quietAt P a (Below W.heap.size W) W v) ∨ (Region.wanted o (yielded ops a.tmps) = false ∧ v = undef)
theorem gives.other {o : Oper} {v : Value} {a : Act} (hs : ∀ cs b, o.op ≠ .select cs b) (h : gives P ops C o v a) (dst : Option Tmp) (u : Value) (hd : ∀ d, dst = some d → d ∉ o.looksAt ops) : gives P ops C o v (a.put dst u) := by
  unfold gives Oper.quietAt at *
  rw [execOp_put o hs a dst u hd, wanted_put o a dst u hd]
  exact h
theorem gives.op {n i : Nat} {o : Oper} {v : Value} {a : Act} {K : Act → (World → Prop) → Prop} (hn : i < n) (ho : ops[i]? = some o) (h : gives P ops C o v a) (hK : K (a.put o.dst v) D) : mixOp P ops C n i a D K := by
  refine ⟨o, ho, ?_⟩
  rw [if_pos hn]
  rcases h with ⟨hw, hv⟩ | ⟨hw, rfl⟩
  · rw [if_pos hw]; exact ⟨v, hv, hK⟩
  · rw [if_neg (by rw [hw]; exact Bool.false_ne_true)]; exact hK

theorem mixOp_past {n j : Nat} {oi oj : Oper} {v : Value} {a : Act} {K K' : Act → (World → Prop) → Prop} (hoj : ops[j]? = some oj) (hap : oi.apart ops oj = true) (hsi : ∀ cs b, oi.op ≠ .select cs b) (hsj : ∀ cs b, oj.op ≠ .select cs b)
    (hg : gives P ops C oi v a) (hK : ∀ u D', gives P ops C oi v (a.put oj.dst u) → K ((a.put oj.dst u).put oi.dst v) D' → K' (a.put oj.dst u) D') (h : mixOp P ops C n j (a.put oi.dst v) D K) : mixOp P ops C n j a D K' := by
  obtain ⟨h1, h2, h3⟩ := Oper.apart_spec hap
  have sw : ∀ u, (a.put oi.dst v).put oj.dst u = (a.put oj.dst u).put oi.dst v := fun u => Act.put_comm a v u h2
  have keep : ∀ u, gives P ops C oi v (a.put oj.dst u) := fun u => hg.other hsi _ u h3
  obtain ⟨o, ho, h⟩ := h
  obtain rfl : oj = o := Option.some.inj (hoj.symm.trans ho)
  refine ⟨oj, hoj, ?_⟩
  by_cases hn : j < n
  · rw [if_pos hn] at h ⊢
    rw [wanted_put oj a oi.dst v h1] at h
    by_cases hw : Region.wanted oj (yielded ops a.tmps) = true
    · rw [if_pos hw] at h ⊢
      obtain ⟨u, hu, hk⟩ := h
      refine ⟨u, fun W hW => ?_, hK u D (keep u) (by rw [← sw]; exact hk)⟩
      have := hu W hW
      unfold Oper.quietAt at *
      rwa [execOp_put oj hsj a oi.dst v h1] at this
    · rw [if_neg hw] at h ⊢
      exact hK _ D (keep _) (by rw [← sw]; exact h)
  · rw [if_neg hn] at h ⊢
    refine ⟨h.1, fun W hW => ?_⟩
    rcases h.2 W hW with ⟨u, D', W', hr, hk, hd, hh⟩ | ⟨f, args, hr, hc⟩
    · rw [execOp_put oj hsj a oi.dst v h1] at hr
      exact .inl ⟨u, D', W', hr, hk, hd, hK u D' (keep u) (by rw [← sw]; exact hh)⟩
    · rw [execOp_put oj hsj a oi.dst v h1] at hr
      exact .inr ⟨f, args, hr, hc.mono fun e w'' ⟨u, D', he, hk, hd, hh⟩ => ⟨u, D', he, hk, hd, hK u D' (keep u) (by rw [← sw]; exact hh)⟩⟩

theorem mix_first {n i : Nat} {oi : Oper} {v : Value} {Q : Exit → Act → World → Prop} (hin : i < n) (hoi : ops[i]? = some oi) (hsel : ∀ (j : Nat) (o : Oper) cs b, ops[j]? = some o → o.op ≠ .select cs b) (f : Nat) :
    ∀ s a D, (∀ j oj, ops[j]? = some oj → j ≠ i → s.getD j true = false → (∀ e ∈ oj.after, Region.binds .any e = true → e.on ≠ i) → oi.apart ops oj = true) →
      i ∈ Region.ready .any ops s → gives P ops C oi v a → mix P ops C n Q f (s.setIfInBounds i true) (a.put oi.dst v) D → mix P ops C n Q (f + 1) s a D := by
  induction f with
  | zero =>
    intro s a D _ hr hg H
    refine ⟨List.ne_nil_of_mem hr, fun j hj => ?_⟩
    by_cases e : j = i
    · subst e; exact hg.op hin hoi H
    · have := ready_mono hj e
      rw [H.1] at this; cases this
  | succ f ih =>
    intro s a D hfree hr hg H
    refine ⟨List.ne_nil_of_mem hr, fun j hj => ?_⟩
    by_cases e : j = i
    · subst e; exact hg.op hin hoi H
    obtain ⟨hju, oj, hoj, hdone⟩ := mem_ready.1 hj
    have hfj := hfree j oj hoj e hju fun d hd hb he => by
      have h1 := hdone d hd hb
      rw [he, getD_both (mem_ready.1 hr).1] at h1
      cases h1
    refine mixOp_past hoj hfj (fun cs b => hsel i oi cs b hoi) (fun cs b => hsel j oj cs b hoj) hg (fun u D' hg' h' => ?_) (H.2 j (ready_mono hj e))
    refine ih _ _ D' (fun k ok hk hki hku hno => hfree k ok hk hki ?_ hno) (ready_mono hr (Ne.symm e)) hg' ?_
    · by_cases ejk : j = k
      · subst ejk; exact hju
      · rwa [getD_set_ne true ejk] at hku
    · rw [Array.setIfInBounds_comm _ _ e]; exact h'

/-- The first operations one by one. -/
def wpB (P : Program) (ops : Array Oper) (C : World → Prop) (R : Act → Prop) : List Oper → Act → Prop
  | [], a => R a
  | o :: rest, a => if Region.wanted o (yielded ops a.tmps) then qB P o a C (wpB P ops C R rest) else wpB P ops C R rest (a.put o.dst undef)
/-- The thread's one by one. -/
def thr (P : Program) (C : World → Prop) (Q : Exit → Act → World → Prop) : List Oper → Act → (World → Prop) → Prop
  | [], a, D => ∀ W, D W → Q .normal a W
  | o :: rest, a, D => o.guard = none ∧ stepT P C o a D (thr P C Q rest)

theorem mix_of_thr {n : Nat} {Q : Exit → Act → World → Prop} (l : List Oper) : ∀ (k : Nat) s a D, n ≤ k → (∀ j, l[j]? = ops[k + j]?) → Region.seqB .any ops l.length k s = true → thr P C Q l a D → mix P ops C n Q l.length s a D := by
  induction l with
  | nil => intro k s a D _ _ hB h; exact ⟨by simpa [Region.seqB] using hB, h⟩
  | cons o l ih =>
    intro k s a D hnk hl hB h
    have h0 : ops[k]? = some o := by simpa using (hl 0).symm
    simp only [List.length_cons, Region.seqB, Bool.and_eq_true, decide_eq_true_eq] at hB
    refine ⟨by rw [hB.1]; simp, fun i hi => ?_⟩
    rw [hB.1] at hi
    obtain rfl : i = k := by simpa using hi
    refine ⟨o, h0, ?_⟩
    rw [if_neg (by omega)]
    refine ⟨h.1, fun W hW => ?_⟩
    have hj : ∀ j, l[j]? = ops[i + 1 + j]? := fun j => by
      have := hl (j + 1); simpa [Nat.add_assoc, Nat.add_comm 1 j] using this
    rcases h.2 W hW with ⟨u, D', W', hr, hk, hd, hh⟩ | ⟨f, args, hr, hc⟩
    · exact .inl ⟨u, D', W', hr, hk, hd, ih (i + 1) _ _ D' (by omega) hj hB.2 hh⟩
    · exact .inr ⟨f, args, hr, hc.mono fun e w'' ⟨u, D', he, hk, hd, hh⟩ => ⟨u, D', he, hk, hd, ih (i + 1) _ _ D' (by omega) hj hB.2 hh⟩⟩

theorem mix_lex {n : Nat} {Q : Exit → Act → World → Prop} {t : List Oper} (hsel : Region.noSelect ops = true) (ht : ∀ j, t[j]? = ops[n + j]?) (l : List Oper) :
    ∀ (k : Nat) (s : Array Bool) (a : Act), (∀ j, j < l.length → l[j]? = ops[k + j]?) → k + l.length = n → Region.lexHead .any ops t.length l.length k s = true →
      wpB P ops C (fun a' => thr P C Q t a' D) l a → mix P ops C n Q (l.length + t.length) s a D := by
  induction l with
  | nil =>
    intro k s a _ hk hB h
    obtain rfl : k = n := by simpa using hk
    rw [List.length_nil, Nat.zero_add]
    exact mix_of_thr t k s a D (Nat.le_refl _) ht (by simpa [Region.lexHead] using hB) h
  | cons o l ih =>
    intro k s a hl hk hB h
    have h0 : ops[k]? = some o := by simpa using (hl 0 (by simp)).symm
    simp only [List.length_cons, Region.lexHead, Bool.and_eq_true] at hB hk
    have hr : k ∈ Region.ready .any ops s := by simpa using hB.1.1
    have hv : ∃ v, gives P ops C o v a ∧ wpB P ops C (fun a' => thr P C Q t a' D) l (a.put o.dst v) := by
      unfold wpB at h
      by_cases hw : Region.wanted o (yielded ops a.tmps) = true
      · rw [if_pos hw] at h; obtain ⟨v, h1, h2⟩ := h; exact ⟨v, .inl ⟨hw, h1⟩, h2⟩
      · rw [if_neg hw] at h; exact ⟨undef, .inr ⟨by simpa using hw, rfl⟩, h⟩
    obtain ⟨v, hg, hK⟩ := hv
    rw [List.length_cons, show l.length + 1 + t.length = (l.length + t.length) + 1 by omega]
    refine mix_first (by omega) h0 (Region.noSelect_spec hsel) _ s a D (Region.free_spec h0 hB.1.2) hr hg ?_
    refine ih (k + 1) _ _ (fun j hj => ?_) (by omega) hB.2 hK
    have := hl (j + 1) (by simp; omega)
    simpa [Nat.add_assoc, Nat.add_comm 1 j] using this

def mixB (ops : Array Oper) (n : Nat) : Bool := Region.noSelect ops && decide (n ≤ ops.size) && Region.lexHead .any ops (ops.size - n) n 0 (Array.replicate ops.size false)

theorem kept_mem (w : Base) (L x : Blocks) : Kept (Mem w L) (Mem w (x ++ L)) where
  sub := fun W h => by
    induction x with
    | nil => exact h
    | cons p x ih => exact ih h.drop
  on := fun W W' h hb => h.call hb

theorem any_mix {Q : Exit → Act → World → Prop} {a : Act} {w : Base} {W : World} {L : Blocks} {l : List Oper} (n : Nat) (hB : mixB l.toArray n = true) (hM : Mem w L W)
    (h : wpB P l.toArray (Mem w L) (fun a' => thr P (Mem w L) Q (l.drop n) a' (Mem w ([] ++ L))) (l.take n) a) : wpAny P .any l.toArray Q l.toArray.size (Array.replicate l.toArray.size false) a W := by
  simp only [mixB, Bool.and_eq_true, decide_eq_true_eq] at hB
  obtain ⟨⟨b1, b2⟩, b3⟩ := hB
  have e0 : l.toArray.size = l.length := by simp
  have e1 : (l.take n).length = n := by rw [List.length_take]; omega
  have e2 : (l.drop n).length = l.toArray.size - n := by rw [List.length_drop, e0]
  have := mix_lex (P := P) (C := Mem w L) (D := Mem w ([] ++ L)) (Q := Q) (n := n) (t := l.drop n) b1 (fun j => by simp [List.getElem?_drop]) (l.take n) 0 _ a (fun j hj => by rw [e1] at hj; simp [hj]) (by rw [e1]; omega) (by rw [e1, e2]; exact b3) h
  have := any_of_mix _ _ _ _ W (kept_mem w L []) hM this
  rwa [e1, e2, show n + (l.toArray.size - n) = l.toArray.size by omega] at this
theorem region_mix {Q : Exit → Act → World → Prop} {a : Act} {w : Base} {W : World} {L : Blocks} {id : Nat} {l : List Oper} (n : Nat) (hm : P.follows .mixedOrders = true) (hB : mixB l.toArray n = true) (hM : Mem w L W)
    (h : wpB P l.toArray (Mem w L) (fun a' => thr P (Mem w L) Q (l.drop n) a' (Mem w ([] ++ L))) (l.take n) a) : (Code.region id l.toArray true).wp P Q a W :=
  wp_region_any hm (any_mix n hB hM.drew h)

/-! ### The steps -/
variable {rest : List Oper} {o : Oper} {a : Act} {w : Base} {L x : Blocks} {R : Act → Prop} {K : Act → Prop} {Q : Exit → Act → World → Prop}
theorem wpB_plain (hg : o.guard = none) (h : qB P o a C (wpB P ops C R rest)) : wpB P ops C R (o :: rest) a := by
  unfold wpB; rw [if_pos (by simp [Region.wanted, hg])]; exact h
theorem wpB_want (hw : Region.wanted o (yielded ops a.tmps) = true) (h : qB P o a C (wpB P ops C R rest)) : wpB P ops C R (o :: rest) a := by
  unfold wpB; rw [if_pos hw]; exact h
theorem wpB_skip (hw : Region.wanted o (yielded ops a.tmps) = false) (h : wpB P ops C R rest (a.put o.dst undef)) : wpB P ops C R (o :: rest) a := by
  unfold wpB; rw [if_neg (by rw [hw]; exact Bool.false_ne_true)]; exact h
theorem wpB_nil (h : R a) : wpB P ops C R [] a := h
theorem b_val (h : ∃ v, (∀ W, (execOp a.eval o).run P W = .ok (.value v) W) ∧ K (a.put o.dst v)) : qB P o a C K := by
  obtain ⟨v, hr, h⟩ := h
  refine ⟨v, fun W _ => ?_, h⟩
  unfold Oper.quietAt; rw [hr]; exact ⟨rfl, rfl⟩
theorem b_call (h : ∃ f args v, (∀ W, (execOp a.eval o).run P W = .ok (.enter f args) W) ∧ (∀ W, C W → Calls P f args W fun e w' => e = .returned v ∧ Below W.heap.size W w') ∧ K (a.put o.dst v)) : qB P o a C K := by
  obtain ⟨f, args, v, hr, hc, h⟩ := h
  refine ⟨v, fun W hM => ?_, h⟩
  unfold Oper.quietAt; rw [hr]; exact ⟨rfl, hc W hM⟩
theorem b_get (ty : TypeId) (y : Operand) (ho : o.op = .load ty y) (b off : Nat) (hx : a.eval y = .pointer (some ⟨b, off, none⟩))
    (i : Nat) {n : Nat} {f : Nat → Value} (hi : L[i]? = some (b, n, f)) {m : Nat} (hT : RowT P ty m) (hle : off + m ≤ n)
    (h : K (a.put o.dst (.agg (arr m (fun k => f (off + k)))))) : qB P o a (Mem w L) K := by
  refine ⟨_, fun W hM => ?_, h⟩
  obtain ⟨⟨d, hu, hd⟩, hm⟩ := hT
  obtain ⟨t, ht⟩ := hM.ats i b n f hi
  have hr : W.rangeAt b off (arr m (fun k => f (off + k))).toList := by
    rw [← arr_extract hle]; exact World.rangeAt_of_block ht off m
  have hl := run_loadVar_mid (P := P) W b off ty _ d hr hu hd (by rw [hm]; simp [arr_size])
  unfold Oper.quietAt execOp
  simp only [ho, hx, Instr.loadAt, Instr.sureAddr, Sem.run_bind, Sem.run_pure, Result.andThen_ok, hl]
  exact ⟨rfl, by simp⟩
theorem b_get1 (ty : TypeId) (y : Operand) (ho : o.op = .load ty y) (b off : Nat) (hx : a.eval y = .pointer (some ⟨b, off, none⟩))
    (i : Nat) {n : Nat} {f : Nat → Value} (hi : L[i]? = some (b, n, f)) (hT : CellT P ty) (hle : off < n) (v : Value) (hv : f off = v)
    (h : K (a.put o.dst v)) : qB P o a (Mem w L) K := by
  refine ⟨v, fun W hM => ?_, h⟩
  obtain ⟨⟨d, hu, hd⟩, _⟩ := hT
  have hc := (hM.ats i b n f hi).cell hle
  rw [hv] at hc
  have hagg : (isAgg ty).run P W = .ok false W := by
    unfold isAgg
    rw [Sem.run_bind, run_underlying hu W]
    cases d <;> simp_all [TypeDesc.isRow]
  have hl : (load ⟨b, off, none⟩).run P W = .ok v W := by simp [load, Sem.run, hc]
  unfold Oper.quietAt execOp
  simp only [ho, hx, Instr.loadAt, Instr.sureAddr, loadVar, Sem.run_bind, Sem.run_pure, Result.andThen_ok, hagg, Bool.false_eq_true, if_false, hl]
  exact ⟨rfl, rfl⟩

theorem thr_nil {C D : World → Prop} (h : ∀ W, D W → Q .normal a W) : thr P C Q [] a D := h
theorem thr_val (hg : o.guard = none) (h : ∃ v, (∀ W, (execOp a.eval o).run P W = .ok (.value v) W) ∧ thr P (Mem w L) Q rest (a.put o.dst v) (Mem w (x ++ L))) : thr P (Mem w L) Q (o :: rest) a (Mem w (x ++ L)) := by
  obtain ⟨v, hr, h⟩ := h
  exact ⟨hg, fun W hW => .inl ⟨v, _, W, .inl (hr W), kept_mem w L x, hW, h⟩⟩
theorem thr_zero (hg : o.guard = none) (ty : TypeId) (ho : o.op = .alloc ty) {n : Nat} {f : Nat → Value} (hz : (P.info? ty).map (·.zero) = some (some (.agg (arr n f))))
    (h : ∀ b, w.B ≤ b → thr P (Mem w L) Q rest (a.put o.dst (.pointer (some ⟨b, 0, none⟩))) (Mem w (((b, n, f) :: x) ++ L))) : thr P (Mem w L) Q (o :: rest) a (Mem w (x ++ L)) := by
  refine ⟨hg, fun W hW => .inl ⟨_, _, _, .inl ?_, kept_mem w L ((W.heap.size, n, f) :: x), hW.alloc ty n f, h _ hW.size⟩⟩
  have hzv : (zeroValue ty).run P W = .ok (.agg (arr n f)) W := by
    cases hq : P.info? ty with
    | none => simp [hq] at hz
    | some i => simp [hq] at hz; simp [zeroValue, typeInfo, hq, hz]
  unfold execOp
  simp only [ho, Instr.alloc, Sem.run_bind, Sem.run_pure, Result.andThen_ok, hzv, newVar, newRow, newObj, Sem.run, Value.cells]
  rfl
theorem thr_lay (hg : o.guard = none) (ty : TypeId) (y z : Operand) (ho : o.op = .store ty y z) (b off : Nat) (hx : a.eval y = .pointer (some ⟨b, off, none⟩))
    (m : Nat) (g : Nat → Value) (hy : a.eval z = .agg (arr m g)) (i : Nat) {n : Nat} {f : Nat → Value} (hi : x[i]? = some (b, n, f)) (hb : w.B ≤ b)
    (hT : RowT P ty m) (hle : off + m ≤ n) (h1 : ∀ k, k < m → (g k).oneCell' = true)
    (h : thr P (Mem w L) Q rest (a.put o.dst undef) (Mem w ((x.set i (b, n, lay f off m g)) ++ L))) : thr P (Mem w L) Q (o :: rest) a (Mem w (x ++ L)) := by
  obtain ⟨_, hm⟩ := hT
  have hil : i < x.length := (List.getElem?_eq_some_iff.1 hi).1
  have hi' : (x ++ L)[i]? = some (b, n, f) := by rw [List.getElem?_append_left hil]; exact hi
  refine ⟨hg, fun W hW => ?_⟩
  obtain ⟨t, ht⟩ := hW.ats i b n f hi'
  have hs := run_storeCells_at (P := P) b off t (arr m g).toList 0 (arr n f) W ht (by simp [arr_size]; omega) (fun v hv => by
    rw [arr_toList] at hv; simp at hv; obtain ⟨k, hk, rfl⟩ := hv; exact h1 k hk)
  rw [Nat.add_zero, arr_lay hle] at hs
  have hsz : (sizeOf ty).run P W = .ok m W := by
    cases hq : P.info? ty with
    | none => simp [hq] at hm
    | some i => simp [hq] at hm; simp [sizeOf, typeInfo, hq, hm]
  have hset := hW.setRow i hi' hb (lay f off m g)
  rw [List.set_append_left _ _ hil] at hset
  refine .inl ⟨undef, _, _, .inr ⟨?_, rfl⟩, kept_mem w L _, hset, h⟩
  unfold execOp
  simp only [ho, hx, hy, Instr.storeAt, Instr.sureAddr, storeVar, Sem.run_bind, Sem.run_pure, Result.andThen_ok, Value.cells, hsz, arr_size, ne_eq, not_true_eq_false, if_false, hs]

/-- A call that lets lie all that lay. -/
theorem thr_call (hg : o.guard = none) (h : ∃ f args v, (∀ W, (execOp a.eval o).run P W = .ok (.enter f args) W) ∧ (∀ W, Mem w (x ++ L) W → Calls P f args W fun e w' => e = .returned v ∧ Below W.heap.size W w') ∧ thr P (Mem w L) Q rest (a.put o.dst v) (Mem w (x ++ L))) : thr P (Mem w L) Q (o :: rest) a (Mem w (x ++ L)) := by
  obtain ⟨f, args, v, hr, hc, h⟩ := h
  exact ⟨hg, fun W hW => .inr ⟨f, args, hr W, (hc W hW).mono fun e w' ⟨he, hb⟩ => ⟨v, _, he, kept_mem w L x, hW.call hb, h⟩⟩⟩
/-- A call that hands back what holds a new block. -/
theorem thr_call_new (hg : o.guard = none) {n : Nat} {f : Nat → Value} (vb : Nat → Value) (h : ∃ fn args, (∀ W, (execOp a.eval o).run P W = .ok (.enter fn args) W) ∧ (∀ W, Mem w (x ++ L) W → Calls P fn args W fun e w' => ∃ b, e = .returned (vb b) ∧ W.heap.size ≤ b ∧ At w' b n f ∧ Below W.heap.size W w') ∧
    ∀ b, w.B ≤ b → thr P (Mem w L) Q rest (a.put o.dst (vb b)) (Mem w (((b, n, f) :: x) ++ L))) : thr P (Mem w L) Q (o :: rest) a (Mem w (x ++ L)) := by
  obtain ⟨fn, args, hr, hc, h⟩ := h
  refine ⟨hg, fun W hW => .inr ⟨fn, args, hr W, (hc W hW).mono fun e w' ⟨b, he, hge, hA, hb⟩ => ⟨vb b, _, he, kept_mem w L ((b, n, f) :: x), ?_, h b (Nat.le_trans hW.size hge)⟩⟩⟩
  have hW' := hW.call hb
  refine ⟨hW'.good, fun i b' n' f' hi => ?_, fun i j p q hi hj hne => ?_⟩
  · cases i with
    | zero => simp at hi; obtain ⟨rfl, rfl, rfl⟩ := hi; exact hA
    | succ i => exact hW'.ats i b' n' f' (by simpa using hi)
  · have off : ∀ (i : Nat) (p : Nat × Nat × (Nat → Value)), (x ++ L)[i]? = some p → p.1 ≠ b := fun i p h e => by
      have := (hW.ats i p.1 p.2.1 p.2.2 h).lt
      omega
    cases i with
    | zero =>
      cases j with
      | zero => exact absurd rfl hne
      | succ j => simp at hi; rw [← hi]; exact fun e => off j q (by simpa using hj) e.symm
    | succ i =>
      cases j with
      | zero => simp at hj; rw [← hj]; exact off i p (by simpa using hi)
      | succ j => exact hW'.apart i j p q (by simpa using hi) (by simpa using hj) (by omega)
end Go.Proofs.YtjfmhnbbdkejeaaDoor

/-
  A range over an iterator of spots, none of whose rounds breaks off; the function's end behind it.
-/
namespace Go.Proofs.YtjfmhnbbdkejeaaDoor
open Go Go.RowKit Go.Shelf Go.BigFrame

/-- How a round ends: on, with the spot's block ahead of the others. -/
def roundPost (b : Base) (L : Blocks) : Exit → Act → World → Prop
  | .normal, _, X' => Mem b L X'
  | _, _, _ => False

theorem range_spots {α : Type} {px py : α → Int} {g : Operand} {p q : Tmp} {id : Nat} {o1 o2 : Oper} {body : Code} {Q : Exit → Act → World → Prop} {a : Act} {w W1 : World} {ks : List Nat} (L : List α → Blocks)
    {gf : Nat} {lb : Array Value} {Kp : World → World → Prop} {S Sp : List α → Prop} {N : Nat}
    (hg : a.eval g = .func (.func gf) #[] lb) (eg : ∀ args w, (callFunc gf args).run Tryd.prog w = .ok (.enter gf args) w)
    (hseq : SeqStopsK Fence.wide 2 Tryd.prog gf lb (fun x => #[.agg (arr 2 (sp (px x) (py x)))]) Kp S Sp N W1) (hKt : ∀ {A B C : World}, Kp A B → Kp B C → Kp A C) (hKb : ∀ (W : World) (l : Nat) (o o' : Obj), W.heap[l]? = some o → o.isCells = false → Kp W (W.putObj l o'))
    (hks : ∀ pre, (L pre).map (·.1) = ks) (hkp : ∀ (b : Base) pre pre' X X' p, Mem b (L pre) X → Mem b (p :: L pre') X' → Kp X X')
    (h1 : o1.op = .alloc 34) (h1g : o1.guard = none) (h1d : o1.dst = some q) (h2 : o2.op = .store 34 (.tmp q) (.tmp p)) (h2g : o2.guard = none) (h2d : o2.dst = none) (hpq : p ≠ q) (hp : p < a.tmps.size) (hq : q < a.tmps.size)
    (hM : Mem w (L []) W1)
    (hbody : ∀ (l : Nat) (pre : List α) (x : α) (bx : Nat) (X : World), w.heap.size ≤ bx → Mem (Base.round w W1.heap.size X) ((bx, 2, sp (px x) (py x)) :: L pre) X → pre.length < N →
      body.wpIn (Fence.wide.inRound l) 1 Tryd.prog (roundPost (Base.round w W1.heap.size X) ((bx, 2, sp (px x) (py x)) :: L (pre ++ [x]))) { tmps := (a.tmps.setIfInBounds p (.agg (arr 2 (sp (px x) (py x))))).setIfInBounds q (.pointer (some ⟨bx, 0, none⟩)), defers := [] } X)
    (hdone : ∀ (D : Nat) (xs : List α) (X : World), W1.heap.size ≤ D → S xs → Mem w (L xs) X → X.heap[D]? = some (.deferred (some [])) → Q .normal { a with defers := { target := .collected D, args := #[] } :: a.defers } X) :
    (Code.rangeFunc g #[p] (.region id [o1, o2].toArray false) body).wpIn Fence.wide 3 Tryd.prog Q a W1 := by
  have hsz : w.heap.size ≤ W1.heap.size := hM.size
  refine wpIn_rangeFunc_ownH (F := Fence.wide) (n := 3) rfl (by omega) (gf := gf) (lb := lb) hg trivial eg hseq hKt (fun X l o o' _ h ho _ => hKb X l o o' h ho) (Below.refl _ _) (fun _ => rfl)
    (fun pre X => Mem w (L pre) X) (fun _ _ _ => False) (mem_ownFrom hsz L) (fun _ _ X Y row hs _ _ => hs.elim) hM
    (fun x a' X => ∃ bx, w.heap.size ≤ bx ∧ bx ∉ ks ∧ At X bx 2 (sp (px x) (py x)) ∧ a' = { tmps := (a.tmps.setIfInBounds p (.agg (arr 2 (sp (px x) (py x))))).setIfInBounds q (.pointer (some ⟨bx, 0, none⟩)), defers := [] })
    (fun x a' _ X Y row hs hgr hr => ?own) ?assign ?body ?done ?stop
  case own =>
    obtain ⟨bx, h1, h2, h3, h4⟩ := hs
    exact ⟨bx, h1, h2, h3.grown hgr (fun r e => (hr r e).2), h4⟩
  case assign =>
    intro l pre x X K hI hK
    have hM' : Mem (Base.round w W1.heap.size X) (L pre) X := hI.base ⟨hI.below, KeepsFrom.refl _ _⟩
    refine region_round (fun ⟨_, _, h⟩ => h) (by simp [noDefer, h1, h2]) ?_
    refine wpList_zero h1g _ h1 (zeroTab _ 2 (fun _ => .int .i8 0) rfl) hM' ?_
    intro bx X2 hbx hM2
    have ez : (#[p].zip #[Value.agg (arr 2 (sp (px x) (py x)))]).foldl (fun t (y : Tmp × Value) => t.setIfInBounds y.1 y.2) a.tmps = a.tmps.setIfInBounds p (.agg (arr 2 (sp (px x) (py x)))) := by simp
    rw [h1d]
    refine wpList_lay h2g _ _ _ h2 bx 0 ?_ 2 (sp (px x) (py x)) ?_ hM2 0 rfl hbx (rowTab _ _ rfl) (by omega) (fun _ _ => rfl) ?_
    · simp [Act.eval, Act.put, Array.getElem?_setIfInBounds, hq]
    · simp [Act.eval, Act.put, Array.getElem?_setIfInBounds, hp, Ne.symm hpq]
    · intro X3 hM3
      have hM3' := hM3.re 0 rfl (sp (px x) (py x)) (fun k hk => by simp [lay, hk])
      simp only [List.set_cons_zero] at hM3'
      rw [h2d]
      show K _ _
      refine hK _ _ hM3'.good.2 ?_ (hM3'.drop.base hM3'.good.1) ?_
      · exact hkp _ pre pre X X3 _ hM' hM3'
      · refine ⟨bx, hbx, fun hm => ?_, hM3'.at0, ?_⟩
        · rw [← hks pre] at hm
          obtain ⟨y, hy, e⟩ := List.mem_map.1 hm
          obtain ⟨i, hi⟩ := List.getElem?_of_mem hy
          exact hM3'.apart 0 (i + 1) _ y rfl (by simpa using hi) (by omega) e.symm
        · simp [Act.put]
  case body =>
    intro l pre x a' X hl hr hI hAx hlen
    obtain ⟨bx, hb, hn, hA, rfl⟩ := hAx
    have hM' : Mem (Base.round w W1.heap.size X) (L pre) X := hI.base ⟨hI.below, KeepsFrom.refl _ _⟩
    have hM2 : Mem (Base.round w W1.heap.size X) ((bx, 2, sp (px x) (py x)) :: L pre) X :=
      ⟨hM'.good, fun i b n f h => by
        cases i with
        | zero => simp at h; obtain ⟨rfl, rfl, rfl⟩ := h; exact hA
        | succ i => exact hM'.ats i b n f (by simpa using h),
       fun i j y z hi hj hne => by
        have off : ∀ (i : Nat) (y : Nat × Nat × (Nat → Value)), (L pre)[i]? = some y → y.1 ≠ bx := fun i y h e => hn (by
          rw [← hks pre, ← e]; exact List.mem_map_of_mem (List.mem_of_getElem? h))
        cases i with
        | zero =>
          cases j with
          | zero => exact absurd rfl hne
          | succ j => simp at hi hj; rw [← hi]; exact fun e => off j z hj e.symm
        | succ i =>
          cases j with
          | zero => simp at hi hj; rw [← hj]; exact off i y hi
          | succ j => exact hM'.apart i j y z (by simpa using hi) (by simpa using hj) (by omega)⟩
    refine Code.wpIn_mono (fun e a'' X' h => ?_) (hbody l pre x bx X hb hM2 hlen)
    cases e <;> first | exact (h : False).elim | skip
    have h' : Mem (Base.round w W1.heap.size X) ((bx, 2, sp (px x) (py x)) :: L (pre ++ [x])) X' := h
    exact ⟨h'.good.2, hkp _ pre (pre ++ [x]) X X' _ hM' h', h'.drop.base h'.good.1⟩
  case done =>
    intro D xs X hD hS hI hK
    exact hdone D xs X hD hS hI hK
  case stop =>
    intro D c pre X hD hS hI hK
    exact hI.elim

/-- The function's end behind such a loop. -/
theorem leave_marks {fn : Func} {tmps : Array Value} {R : Ending → World → Prop} {D : Nat} {X : World} (hK : X.heap[D]? = some (.deferred (some []))) (v : Value)
    (hr : (results fn tmps).run Tryd.prog (X.putObj D (.deferred none)) = .ok v (X.putObj D (.deferred none))) (hR : R (.returned v) (X.putObj D (.deferred none))) :
    LeavesInM Fence.wide 3 Tryd.prog fn tmps R [{ target := .collected D, args := #[] }] .returning X :=
  ⟨by simp, .inl ⟨_, _, rfl, run_takeDeferred hK, v, hr, hR⟩⟩
theorem below_mark {w X : World} {D : Nat} (hb : Below w.heap.size w X) (hD : w.heap.size ≤ D) : Below w.heap.size w (X.putObj D (.deferred none)) :=
  Below.grown hb (grownBy_putObj' X D _) hb.size (fun k e => by cases e; exact hD)
theorem at_mark {X : World} {D b n : Nat} {f : Nat → Value} (h : At X b n f) (hK : X.heap[D]? = some (.deferred (some []))) : At (X.putObj D (.deferred none)) b n f :=
  h.grown (grownBy_putObj' X D _) (fun r e => by cases e; exact ⟨_, hK, rfl⟩)

/-- A round's region that reads and calls first, and then follows the text. -/
theorem region_round_head {P : Program} {Q : Exit → Act → World → Prop} {a : Act} {W : World} {l n id : Nat} {r : List Oper} {w : Base} {L : Blocks} (m : Nat) (hL : ¬ LetsOut Q) (hd : r.all noDefer = true) (hm : P.follows .mixedOrders = true) (hB : Region.lexTailB .any r.toArray m = true) (hM : Mem w L W)
    (h : wpQuiet P r.toArray (Mem w L) (fun a' => ∀ W', Mem w L W' → wpList P r.toArray Q (r.drop m) a' W') (r.take m) a) : (Code.region id r.toArray true).wpIn (Fence.wide.inRound l) n P Q a W :=
  wpIn_region_any hm (any_round hL (by simpa using hd) _ _ _ _ (any_head (C := Mem w L) m hB hM.drew h))
/-- A block of a call that lets lie all that lay, beside those that are known. -/
theorem Mem.fresh {b0 : Base} {L : Blocks} {X X' : World} {b n : Nat} {f : Nat → Value} (hM : Mem b0 L X) (hb : Below X.heap.size X X') (ha : At X' b n f) (hge : X.heap.size ≤ b) : Mem b0 (L ++ [(b, n, f)]) X' :=
  (hM.call hb).old ha (fun i p h e => by
    have := (hM.ats i p.1 p.2.1 p.2.2 h).lt
    omega)
end Go.Proofs.YtjfmhnbbdkejeaaDoor

/-
  A range over an iterator of spots whose rounds may change blocks for others: what lies in memory is told by a relation that fixes the blocks' numbers.
-/
namespace Go.Proofs.YtjfmhnbbdkejeaaDoor
open Go Go.RowKit Go.Shelf Go.BigFrame

/-- How a round ends: on, with blocks as the relation tells. -/
def roundRel (b : Base) (I : Blocks → Prop) : Exit → Act → World → Prop
  | .normal, _, X' => ∃ Bs, I Bs ∧ Mem b Bs X'
  | _, _, _ => False

theorem range_rel {α : Type} {px py : α → Int} {g : Operand} {p q : Tmp} {id : Nat} {o1 o2 : Oper} {body : Code} {Q : Exit → Act → World → Prop} {a : Act} {w W1 : World} (I : List α → Blocks → Prop) (L0 : Blocks)
    {gf : Nat} {lb : Array Value} {Kp : World → World → Prop} {S Sp : List α → Prop} {N : Nat}
    (hg : a.eval g = .func (.func gf) #[] lb) (eg : ∀ args w, (callFunc gf args).run Tryd.prog w = .ok (.enter gf args) w)
    (hseq : SeqStopsK Fence.wide 2 Tryd.prog gf lb (fun x => #[.agg (arr 2 (sp (px x) (py x)))]) Kp S Sp N W1) (hKt : ∀ {A B C : World}, Kp A B → Kp B C → Kp A C) (hKb : ∀ (W : World) (l : Nat) (o o' : Obj), W.heap[l]? = some o → o.isCells = false → Kp W (W.putObj l o'))
    (hdet : ∀ (pre pre' : List α) (Bs Bs' : Blocks) (b b' : Base) (X : World), I pre Bs → I pre' Bs' → Mem b Bs X → Mem b' Bs' X → Bs.map (·.1) = Bs'.map (·.1))
    (hkp : ∀ (b : Base) (pre pre' : List α) (Bs Bs' : Blocks) (X X' : World), I pre Bs → I pre' Bs' → Mem b Bs X → Mem b Bs' X' → Kp X X')
    (h1 : o1.op = .alloc 34) (h1g : o1.guard = none) (h1d : o1.dst = some q) (h2 : o2.op = .store 34 (.tmp q) (.tmp p)) (h2g : o2.guard = none) (h2d : o2.dst = none) (hpq : p ≠ q) (hp : p < a.tmps.size) (hq : q < a.tmps.size)
    (hI0 : I [] L0) (hM : Mem w L0 W1)
    (hbody : ∀ (l : Nat) (pre : List α) (x : α) (bx : Nat) (X : World) (Bs : Blocks), w.heap.size ≤ bx → I pre Bs → Mem (Base.round w W1.heap.size X) ((bx, 2, sp (px x) (py x)) :: Bs) X → pre.length < N →
      body.wpIn (Fence.wide.inRound l) 1 Tryd.prog (roundRel (Base.round w W1.heap.size X) (I (pre ++ [x]))) { tmps := (a.tmps.setIfInBounds p (.agg (arr 2 (sp (px x) (py x))))).setIfInBounds q (.pointer (some ⟨bx, 0, none⟩)), defers := [] } X)
    (hdone : ∀ (D : Nat) (xs : List α) (X : World) (Bs : Blocks), W1.heap.size ≤ D → S xs → I xs Bs → Mem w Bs X → X.heap[D]? = some (.deferred (some [])) → Q .normal { a with defers := { target := .collected D, args := #[] } :: a.defers } X) :
    (Code.rangeFunc g #[p] (.region id [o1, o2].toArray false) body).wpIn Fence.wide 3 Tryd.prog Q a W1 := by
  have hsz : w.heap.size ≤ W1.heap.size := hM.size
  have hown : OwnFrom W1.heap.size (fun (pre : List α) X => ∃ Bs, I pre Bs ∧ Mem w Bs X) := fun pre X Y row hs hgr hr => by
    obtain ⟨Bs, hi, hm⟩ := hs
    exact ⟨Bs, hi, mem_ownFrom hsz (fun (_ : Unit) => Bs) () X Y row hm hgr hr⟩
  refine wpIn_rangeFunc_ownH (F := Fence.wide) (n := 3) rfl (by omega) (gf := gf) (lb := lb) hg trivial eg hseq hKt (fun X l o o' _ h ho _ => hKb X l o o' h ho) (Below.refl _ _) (fun _ => rfl)
    (fun pre X => ∃ Bs, I pre Bs ∧ Mem w Bs X) (fun _ _ _ => False) hown (fun _ _ X Y row hs _ _ => hs.elim) ⟨L0, hI0, hM⟩
    (fun x a' X => ∃ bx pre0 Bs0, w.heap.size ≤ bx ∧ bx ∉ Bs0.map (·.1) ∧ I pre0 Bs0 ∧ Mem w Bs0 X ∧ At X bx 2 (sp (px x) (py x)) ∧ a' = { tmps := (a.tmps.setIfInBounds p (.agg (arr 2 (sp (px x) (py x))))).setIfInBounds q (.pointer (some ⟨bx, 0, none⟩)), defers := [] })
    (fun x a' _ X Y row hs hgr hr => ?own) ?assign ?body ?done ?stop
  case own =>
    obtain ⟨bx, pre0, Bs0, h1, h2, h3, h4, h5, h6⟩ := hs
    exact ⟨bx, pre0, Bs0, h1, h2, h3, mem_ownFrom hsz (fun (_ : Unit) => Bs0) () X Y row h4 hgr hr, h5.grown hgr (fun r e => (hr r e).2), h6⟩
  case assign =>
    intro l pre x X K hI hK
    obtain ⟨Bs, hi, hI⟩ := hI
    have hM' : Mem (Base.round w W1.heap.size X) Bs X := hI.base ⟨hI.below, KeepsFrom.refl _ _⟩
    refine region_round (fun ⟨_, _, h⟩ => h) (by simp [noDefer, h1, h2]) ?_
    refine wpList_zero h1g _ h1 (zeroTab _ 2 (fun _ => .int .i8 0) rfl) hM' ?_
    intro bx X2 hbx hM2
    have ez : (#[p].zip #[Value.agg (arr 2 (sp (px x) (py x)))]).foldl (fun t (y : Tmp × Value) => t.setIfInBounds y.1 y.2) a.tmps = a.tmps.setIfInBounds p (.agg (arr 2 (sp (px x) (py x)))) := by simp
    rw [h1d]
    refine wpList_lay h2g _ _ _ h2 bx 0 ?_ 2 (sp (px x) (py x)) ?_ hM2 0 rfl hbx (rowTab _ _ rfl) (by omega) (fun _ _ => rfl) ?_
    · simp [Act.eval, Act.put, Array.getElem?_setIfInBounds, hq]
    · simp [Act.eval, Act.put, Array.getElem?_setIfInBounds, hp, Ne.symm hpq]
    · intro X3 hM3
      have hM3' := hM3.re 0 rfl (sp (px x) (py x)) (fun k hk => by simp [lay, hk])
      simp only [List.set_cons_zero] at hM3'
      rw [h2d]
      show K _ _
      refine hK _ _ hM3'.good.2 ?_ ⟨Bs, hi, hM3'.drop.base hM3'.good.1⟩ ?_
      · exact hkp _ pre pre Bs Bs X X3 hi hi hM' hM3'.drop
      · refine ⟨bx, pre, Bs, hbx, fun hm => ?_, hi, hM3'.drop.base hM3'.good.1, hM3'.at0, ?_⟩
        · obtain ⟨y, hy, e⟩ := List.mem_map.1 hm
          obtain ⟨i, hi⟩ := List.getElem?_of_mem hy
          exact hM3'.apart 0 (i + 1) _ y rfl (by simpa using hi) (by omega) e.symm
        · simp [Act.put]
  case body =>
    intro l pre x a' X hl hr hI hAx hlen
    obtain ⟨bx, pre0, Bs0, hb, hn, hi0, hm0, hA, rfl⟩ := hAx
    obtain ⟨Bs, hi, hI⟩ := hI
    rw [← hdet pre pre0 Bs Bs0 _ _ X hi hi0 hI hm0] at hn
    have hM' : Mem (Base.round w W1.heap.size X) Bs X := hI.base ⟨hI.below, KeepsFrom.refl _ _⟩
    have hM2 : Mem (Base.round w W1.heap.size X) ((bx, 2, sp (px x) (py x)) :: Bs) X :=
      ⟨hM'.good, fun i b n f h => by
        cases i with
        | zero => simp at h; obtain ⟨rfl, rfl, rfl⟩ := h; exact hA
        | succ i => exact hM'.ats i b n f (by simpa using h),
       fun i j y z hi hj hne => by
        have off : ∀ (i : Nat) (y : Nat × Nat × (Nat → Value)), Bs[i]? = some y → y.1 ≠ bx := fun i y h e => hn (by
          rw [← e]; exact List.mem_map_of_mem (List.mem_of_getElem? h))
        cases i with
        | zero =>
          cases j with
          | zero => exact absurd rfl hne
          | succ j => simp at hi hj; rw [← hi]; exact fun e => off j z hj e.symm
        | succ i =>
          cases j with
          | zero => simp at hi hj; rw [← hj]; exact off i y hi
          | succ j => exact hM'.apart i j y z (by simpa using hi) (by simpa using hj) (by omega)⟩
    refine Code.wpIn_mono (fun e a'' X' h => ?_) (hbody l pre x bx X Bs hb hi hM2 hlen)
    cases e <;> first | exact (h : False).elim | skip
    obtain ⟨Bs', hi', h'⟩ := (h : ∃ Bs', I (pre ++ [x]) Bs' ∧ Mem (Base.round w W1.heap.size X) Bs' X')
    exact ⟨h'.good.2, hkp _ pre (pre ++ [x]) Bs Bs' X X' hi hi' hM' h', Bs', hi', h'.base h'.good.1⟩
  case done =>
    intro D xs X hD hS hI hK
    obtain ⟨Bs, hi, hI⟩ := hI
    exact hdone D xs X Bs hD hS hi hI hK
  case stop =>
    intro D c pre X hD hS hI hK
    exact hI.elim

/-- A list in a variable of the call: its block, and the list's own. -/
def VarL (B : Nat) (b2 : Nat) (K : Blocks) (m : Nat) (n : Nat) (R : Nat → Value) (Bs : Blocks) : Prop :=
  (n = 0 ∧ Bs = (b2, 1, fun _ => .slice none 0 0) :: K) ∨ ∃ b c F, B ≤ b ∧ n ≤ c ∧ (∀ j, j < n * m → F j = R j) ∧ Bs = (b, c * m, F) :: (b2, 1, fun _ => .slice (some ⟨b, 0, none⟩) n c) :: K
theorem varL_det {B B' b2 m n n' : Nat} {K : Blocks} {R R' : Nat → Value} {Bs Bs' : Blocks} {b b' : Base} {X : World} (h : VarL B b2 K m n R Bs) (h' : VarL B' b2 K m n' R' Bs') (hM : Mem b Bs X) (hM' : Mem b' Bs' X) : Bs.map (·.1) = Bs'.map (·.1) := by
  have c (W : Base) (v : Value) (i : Nat) (L : Blocks) (hL : Mem W L X) (hi : L[i]? = some (b2, 1, fun _ => v)) : X.cell? ⟨b2, 0, none⟩ = some v := (hL.ats i _ _ _ hi).cell (by omega)
  rcases h with ⟨-, rfl⟩ | ⟨x, _, _, -, -, -, rfl⟩ <;> rcases h' with ⟨-, rfl⟩ | ⟨y, _, _, -, -, -, rfl⟩
  · rfl
  · have := (c _ _ 0 _ hM rfl).symm.trans (c _ _ 1 _ hM' rfl)
    simp at this
  · have := (c _ _ 1 _ hM rfl).symm.trans (c _ _ 0 _ hM' rfl)
    simp at this
  · have := (c _ _ 1 _ hM rfl).symm.trans (c _ _ 1 _ hM' rfl)
    simp at this
    simp [this.1]
theorem varL_mem {B b2 m n : Nat} {K : Blocks} {R : Nat → Value} {Bs : Blocks} {b : Base} {X : World} (h : VarL B b2 K m n R Bs) (hM : Mem b Bs X) : Mem b K X := by
  rcases h with ⟨-, rfl⟩ | ⟨x, _, _, -, -, -, rfl⟩
  · exact hM.drop
  · exact hM.drop.drop
end Go.Proofs.YtjfmhnbbdkejeaaDoor

/-
  What the rounds of a range keep: some blocks.
-/
namespace Go.Proofs.YtjfmhnbbdkejeaaDoor
open Go Go.RowKit Go.Shelf Go.BigFrame

/-- What a round that goes on keeps: some blocks. -/
def KpL (K : Blocks) (A B : World) : Prop := ∀ e ∈ K, At A e.1 e.2.1 e.2.2 → At B e.1 e.2.1 e.2.2
theorem kpL_t {K : Blocks} {A B C : World} (h : KpL K A B) (k : KpL K B C) : KpL K A C := fun e he x => k e he (h e he x)
theorem kpL_b {K : Blocks} (W : World) (l : Nat) (o o' : Obj) (h : W.heap[l]? = some o) (ho : o.isCells = false) : KpL K W (W.putObj l o') := fun e _ hA =>
  hA.grown (grownBy_putObj' W l o') (fun r e => by cases e; exact ⟨o, h, ho⟩)

end Go.Proofs.YtjfmhnbbdkejeaaDoor

/-
  slices.AppendSeq and slices.Collect over any iterator of spots, by contract.
-/
namespace Go.Proofs.YtjfmhnbbdkejeaaDoor
open Go Go.RowKit Go.Shelf Go.BigFrame

set_option maxRecDepth 100000 in
set_option maxHeartbeats 2000000 in
/-- slices.AppendSeq of nothing and an iterator of spots, told by its contract. -/
theorem appendSeq_any {α : Type} (px py : α → Int) {gf : Nat} {lb : Array Value} {S Sp : List α → Prop} {N : Nat} (K : Blocks) (eg : ∀ args w, (callFunc gf args).run Tryd.prog w = .ok (.enter gf args) w) (hN : N ≤ 1048576) (l : List (Int × Int)) (hS : ∀ xs, S xs → xs.map (fun c => (px c, py c)) = l)
    (w : World) (hA : Mem w K w) (hseq : ∀ W1, (∀ e ∈ K, At W1 e.1 e.2.1 e.2.2) → SeqStopsK Fence.wide 2 Tryd.prog gf lb (fun x => #[.agg (arr 2 (sp (px x) (py x)))]) (KpL K) S Sp N W1) :
    Calls Tryd.prog 95 #[.slice none 0 0, .func (.func gf) #[] lb] w (GivesL w l) := by
  have hM := hA
  have Hq := Lib.hid hseq
  have HN := Lib.hid hN
  have HS := Lib.hid hS
  clear hA hseq hN hS
  refine (callsIn_wide (n := 3)).1 ?_
  refine callsIn_of_wp_marks Tryd.func95 rfl trivial ?_ rfl
  simp only [Tryd.ntmps95, List.size_toArray, List.length_cons, List.length_nil, Nat.reduceAdd, Nat.reduceSub, Array.replicate_succ, Array.replicate_zero, List.push_toArray, List.append_toArray, List.nil_append, List.cons_append]
  refine wpIn_wide.2 ?_
  have tk_b2 : True := trivial
  go_wp2_with (first | (have _t := tk_b2; refine wpList_box1 rfl _ _ rfl _ rfl rfl hM ?_; intro b2 W' hb2 hM'; clear hM tk_b2; have hM := hM'; clear hM'))
  have ats : ∀ {b : Base} {X : World}, Mem b K X → ∀ e ∈ K, At X e.1 e.2.1 e.2.2 := fun h e he => by
    obtain ⟨i, hi⟩ := List.getElem?_of_mem he
    exact h.ats i _ _ _ hi
  refine (wpIn_wide (n := 3)).1 ?_
  refine range_rel (α := α) (px := px) (py := py) (gf := gf) (lb := lb)
    (fun pre => VarL w.heap.size b2 K 2 (pre.map fun c => (px c, py c)).length (sps (sI (pre.map fun c => (px c, py c))))) ((b2, 1, fun _ => .slice none 0 0) :: K)
    rfl eg (Hq.out _ (ats hM.drop)) (fun {A B C} h k => kpL_t h k) (fun X l o o' h ho => kpL_b X l o o' h ho)
    (fun _ _ _ _ _ _ _ h h' hm hm' => varL_det h h' hm hm') (fun _ _ _ _ _ _ _ _ h' _ hm' e he _ => ats (varL_mem h' hm') e he) rfl rfl rfl rfl rfl rfl (by decide) (by simp) (by simp) (.inl ⟨rfl, rfl⟩) hM ?body ?done
  case body =>
    intro l pre x bx X Bs hbx hI hM2 hlen
    clear hM
    have hM := hM2
    clear hM2
    have hl : (pre.map fun c => (px c, py c)).length ≤ 1048576 := by
      have := HN.out
      simp only [List.length_map]; omega
    have Hy : Hid ((pre ++ [x]).map (fun c => (px c, py c)) = pre.map (fun c => (px c, py c)) ++ [(px x, py x)]) := Lib.hid (by simp)
    generalize hu : px x = u at *
    generalize hv : py x = v at *
    generalize hp : pre.map (fun c => (px c, py c)) = p at *
    rcases hI with ⟨hn, rfl⟩ | ⟨b, c, F, hb, hnc, hF, rfl⟩
    · have Hq2 : Hid (∀ q, q < 2 → sp u v (0 + q) = sps (sI (p ++ [(u, v)])) q) := Lib.hid (fun q hq => by have := spsI_new p u v hq; rw [hn, Nat.zero_mul, Nat.zero_add] at this; rw [Nat.zero_add]; exact this)
      refine wpIn_block (region_round (fun ⟨_, _, h⟩ => h) rfl ?_)
      have tk_r3 : True := trivial; have tk_r4 : True := trivial; have tk_b3 : True := trivial; have tk_p1 : True := trivial
      go_wp2_with (first | (have _t := tk_r3; (refine wpList_get1 rfl _ _ rfl _ _ rfl hM 1 rfl spots_cell (by omega) _ rfl ?_); clear tk_r3) | (have _t := tk_r4; (refine wpList_get rfl _ _ rfl _ _ rfl hM 0 rfl (rowTab _ _ rfl) (by omega) ?_); clear tk_r4) | (have _t := tk_b3; refine wpList_slice1 rfl _ _ _ rfl _ _ rfl _ spot_under spot_info (by omega) (by omega) hM ?_; intro b3 W' hb3 hM'; clear hM tk_b3; have hM := hM'; clear hM') | (have _t := tk_p1; refine wpList_push0 rfl _ _ _ rfl _ 2 _ _ spot_under spot_infoB rfl (by omega) rfl _ _ rfl hM (sps (sI (p ++ [(u, v)]))) Hq2.out ?_; intro bL cL FL W' hbL hcL hFL hM'; clear hM tk_p1; have hM := hM'; clear hM') | (refine wpList_set1 rfl _ _ _ rfl _ _ rfl _ rfl rfl hM 2 rfl (by assumption) spots_cell (by omega) ?_; intro W' hM'; clear hM; have hM := hM'; clear hM'; simp [List.set, Act.eval] at hM))
      show ∃ Bs, _ ∧ Mem _ Bs _
      have hM' := hM.re 2 rfl (fun _ => .slice (some ⟨bL, 0, none⟩) 1 cL) (fun k hk => by
        obtain rfl : k = 0 := by omega
        rfl)
      simp only [List.set] at hM'
      refine ⟨_, ?_, hM'.skip⟩
      simp only [Hy.out, List.length_append, hn]
      exact .inr ⟨bL, cL, FL, hbL, hcL, hFL, rfl⟩
    · have hM' := hM.swap
      clear hM
      have hM := hM'
      clear hM'
      have Hq2 : Hid (∀ q, q < 2 → sp u v (0 + q) = sps (sI (p ++ [(u, v)])) (p.length * 2 + q)) := Lib.hid (fun q hq => by rw [Nat.zero_add]; exact spsI_new p u v hq)
      have Hf : Hid (∀ q, q < p.length * 2 → F q = sps (sI (p ++ [(u, v)])) q) := Lib.hid (fun q hq => by rw [hF q hq]; exact spsI_old _ hq)
      clear hF
      refine wpIn_block (region_round (fun ⟨_, _, h⟩ => h) rfl ?_)
      have tk_r3 : True := trivial; have tk_r4 : True := trivial; have tk_b3 : True := trivial; have tk_p1 : True := trivial
      go_wp2_with (first | (have _t := tk_r3; (refine wpList_get1 rfl _ _ rfl _ _ rfl hM 2 rfl spots_cell (by omega) _ rfl ?_); clear tk_r3) | (have _t := tk_r4; (refine wpList_get rfl _ _ rfl _ _ rfl hM 1 rfl (rowTab _ _ rfl) (by omega) ?_); clear tk_r4) | (have _t := tk_b3; refine wpList_slice1 rfl _ _ _ rfl _ _ rfl _ spot_under spot_info (by omega) (by omega) hM ?_; intro b3 W' hb3 hM'; clear hM tk_b3; have hM := hM'; clear hM') | (have _t := tk_p1; refine wpList_push1 rfl _ _ _ rfl _ 2 _ _ spot_under spot_infoB rfl (by omega) _ _ _ _ rfl hb hnc hl _ _ rfl sp_one0 hM (sps (sI (p ++ [(u, v)]))) Hf.out Hq2.out ?_; intro bL cL FL W' hbL hcL hFL hM'; clear hM tk_p1; have hM := hM'; clear hM') | (refine wpList_set1 rfl _ _ _ rfl _ _ rfl _ rfl rfl hM 2 rfl (by assumption) spots_cell (by omega) ?_; intro W' hM'; clear hM; have hM := hM'; clear hM'; simp [List.set, Act.eval] at hM))
      show ∃ Bs, _ ∧ Mem _ Bs _
      have hM' := hM.re 2 rfl (fun _ => .slice (some ⟨bL, 0, none⟩) (p.length + 1) cL) (fun k hk => by
        obtain rfl : k = 0 := by omega
        rfl)
      simp only [List.set] at hM'
      refine ⟨_, ?_, hM'.skip⟩
      simp only [Hy.out, List.length_append]
      exact .inr ⟨bL, cL, FL, hbL, hcL, hFL, rfl⟩
  case done =>
    rename_i K7 hK7
    intro D xs X Bs hD hxs hI hM2 hK
    have hsz : w.heap.size ≤ W'.heap.size := hM.size
    clear hM
    rw [HS.out xs hxs] at hI
    have hM : Mem (Base.round w W'.heap.size X) Bs X := hM2.base ⟨hM2.below, KeepsFrom.refl _ _⟩
    clear hM2
    show K7 _ _
    refine hK7 _ _ ?_
    dsimp only
    rcases hI with ⟨hn, rfl⟩ | ⟨b, c, F, hb, hnc, hF, rfl⟩
    · go_wp2_with (first | (refine wpList_get1 rfl _ _ rfl _ _ rfl hM 0 rfl spots_cell (by omega) _ rfl ?_))
      have hK' := hM.good.2.same D _ hD hK rfl
      refine leave_marks hK' _ (results_tmp rfl _ _ _) ?_
      exact ⟨_, rfl, .inl ⟨rfl, hn, Mem.start (below_mark hM.good.1 (Nat.le_trans hsz hD))⟩⟩
    · go_wp2_with (first | (refine wpList_get1 rfl _ _ rfl _ _ rfl hM 1 rfl spots_cell (by omega) _ rfl ?_))
      have hK' := hM.good.2.same D _ hD hK rfl
      refine leave_marks hK' _ (results_tmp rfl _ _ _) ?_
      refine ⟨_, rfl, .inr ⟨b, c, F, rfl, hb, hnc, hF, ?_⟩⟩
      exact (Mem.start (w := Base.of w) (below_mark hM.good.1 (Nat.le_trans hsz hD))).old (at_mark hM.at0 hK') (fun i p h => by simp at h)
theorem collect_any {gf : Nat} {lb : Array Value} {l : List (Int × Int)} (w : World) (h : Calls Tryd.prog 95 #[.slice none 0 0, .func (.func gf) #[] lb] w (GivesL w l)) :
    Calls Tryd.prog 56 #[.func (.func gf) #[] lb] w (GivesL w l) := by
  have H := Lib.hid h
  clear h
  go_enter Tryd.func56, Tryd.ntmps56
  go_wp2_with (first | (go_at_call 95; refine H.out.mono ?_; rintro e W' ⟨v0, rfl, hL0⟩))
  go_ret
  exact ⟨_, rfl, hL0⟩

end Go.Proofs.YtjfmhnbbdkejeaaDoor

