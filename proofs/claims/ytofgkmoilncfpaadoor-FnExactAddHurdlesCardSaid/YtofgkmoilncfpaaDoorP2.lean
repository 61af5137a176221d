/-
  Several texts in one: Open, Spec1, HasCell, Head, Sides, Next.
-/
import Derived.Test.YtofgkmoilncfpaaDoorP1
import Derived.Test.YtofgkmoilncfpaaDoorRows
import Derived.Test.YtofgkmoilncfpaaDoorTie
import Derived.Test.YtofgkmoilncfpaaDoorCards
import Derived.LaidMore
import Derived.MakeChecks
import Derived.Stop.Joined
import Derived.SevenTiedAt
import Derived.WalkKit
import Derived.OwnWalk
import Derived.BigQuiet
import Derived.Lib.Hide
import Derived.StillTail
import Derived.Deep.Quiet
import Derived.Laws.ResultCell
/-
  What is common to the rows that reach the five errors: a spot out of its type; the variables' data are five.
-/
namespace Go.Proofs.YtofgkmoilncfpaaDoor
open Go Go.RowKit Go.ChangeShapes Go.WideShapes Go.ChangeAt

theorem own : ownKnob Tryd.prog.godebug = none := by kernel_rfl

set_option maxRecDepth 100000 in
theorem open_spot {W : World} {base : Nat} {v : Value} (h : Value.okWide Tryd.prog W .any base 51 v) : ∃ x y : Int, (-128 ≤ x ∧ x ≤ 127) ∧ (-128 ≤ y ∧ y ≤ 127) ∧ v = .agg (arr 2 (sp x y)) := by
  unfold Value.okWide at h
  rw [Tryd.underlying51] at h
  obtain ⟨cs, rfl, hsz, ts, hts, -, hcell⟩ := h
  have e1 : Tryd.prog.cellsOf 51 = 2 := by kernel_rfl
  have e2 : Tryd.prog.cellTypes Tryd.prog.depth 51 = some [22, 22] := by kernel_rfl
  rw [e1] at hsz
  obtain rfl : [22, 22] = ts := Option.some.inj (e2.symm.trans hts)
  have key : ∀ k, k < 2 → ∃ n, cs[k]? = some (.int .i8 n) ∧ -128 ≤ n ∧ n ≤ 127 := fun k hk => by
    have hv : cs[k]? = some cs[k] := Array.getElem?_eq_getElem (by omega)
    obtain ⟨u, hu, hc⟩ := hcell k _ hv
    have : u = 22 := by
      rcases (show k = 0 ∨ k = 1 by omega) with rfl | rfl <;> (simp at hu; exact hu.symm)
    subst this
    obtain ⟨n, hn, hb⟩ := cell_int Tryd.underlying22 hc
    exact ⟨n, by rw [hv, hn], has_i8 hb⟩
  obtain ⟨x, hx, bx⟩ := key 0 (by omega)
  obtain ⟨y, hy, by'⟩ := key 1 (by omega)
  refine ⟨x, y, bx, by', congrArg Value.agg (arr_ext hsz fun k hk => ?_)⟩
  rcases (show k = 0 ∨ k = 1 by omega) with rfl | rfl
  · rw [hx]; rfl
  · rw [hy]; rfl

theorem trodAll_five {H : Type} {enc : TypeId × Value → H} {P : Program} {w : World} {base : Nat} {spare : Nat → Bool} {held : Bool} {t t1 t2 t3 t4 : TypeId} {args : Array Value} {ds : List (DataW H)} {ps : List MemPlace} (h : DataW.TrodAll enc P w base spare held [t, t1, t2, t3, t4] args.toList ds ps) :
    ∃ v v1 v2 v3 v4 d d1 d2 d3 d4 p p1 p2 p3 p4, args = #[v, v1, v2, v3, v4] ∧ ds = [d, d1, d2, d3, d4] ∧ DataW.Trod enc P w base spare held t v d p ∧ DataW.Trod enc P w base spare held t1 v1 d1 p1 ∧ DataW.Trod enc P w base spare held t2 v2 d2 p2 ∧ DataW.Trod enc P w base spare held t3 v3 d3 p3 ∧ DataW.Trod enc P w base spare held t4 v4 d4 p4 := by
  obtain ⟨v, vs, d, ds0, p, q, hargs, rfl, rfl, hd, hrest⟩ := trodAll_cons h
  obtain ⟨v1, vs1, d1, ds1, p1, q1, rfl, rfl, rfl, hd1, hrest1⟩ := trodAll_cons hrest
  obtain ⟨v2, vs2, d2, ds2, p2, q2, rfl, rfl, rfl, hd2, hrest2⟩ := trodAll_cons hrest1
  obtain ⟨v3, vs3, d3, ds3, p3, q3, rfl, rfl, rfl, hd3, hrest3⟩ := trodAll_cons hrest2
  obtain ⟨v4, vs4, d4, ds4, p4, q4, rfl, rfl, rfl, hd4, hrest4⟩ := trodAll_cons hrest3
  obtain ⟨rfl, rfl, rfl⟩ := trodAll_nil hrest4
  exact ⟨v, v1, v2, v3, v4, d, d1, d2, d3, d4, p, p1, p2, p3, p4, by cases args; simp_all, rfl, hd, hd1, hd2, hd3, hd4⟩
theorem trodVars_length {H : Type} {enc : TypeId × Value → H} {P : Program} {w : World} {sp : Nat → Bool} : ∀ {ns : List String} {gs : List (DataW H)} {p : List MemPlace}, DataW.TrodVars enc P w sp ns gs p → gs.length = ns.length
  | [], [], _, _ => rfl
  | [], _ :: _, _, h => h.elim
  | _ :: _, [], _, h => h.elim
  | _ :: _, _ :: _, _, ⟨_, _, _, _, _, _, _, _, _, _, hs, _⟩ => congrArg (· + 1) (trodVars_length hs)
theorem many_of {α : Type} {l : List α} (h : l.length = 7) : ∃ x0 x1 x2 x3 x4 x5 x6, l = [x0, x1, x2, x3, x4, x5, x6] := by
  match l, h with
  | [x0, x1, x2, x3, x4, x5, x6], _ => exact ⟨x0, x1, x2, x3, x4, x5, x6, rfl⟩
end Go.Proofs.YtofgkmoilncfpaaDoor

/-
  spec.l00In, l01Grass, l01Is, by contracts.
-/
namespace Go.Proofs.YtofgkmoilncfpaaDoor
open Go Go.RowKit Go.BigFrame

/-- Is n from lo to hi? -/
def inB (lo hi n : Int) : Bool := decide (lo ≤ n ∧ n ≤ hi)
theorem inB_yes {lo hi n : Int} (h : lo ≤ n ∧ n ≤ hi) : inB lo hi n = true := decide_eq_true h
theorem inB_no {lo hi n : Int} (h : ¬ (lo ≤ n ∧ n ≤ hi)) : inB lo hi n = false := decide_eq_false h
theorem inB_true {lo hi n : Int} (h : inB lo hi n = true) : lo ≤ n ∧ n ≤ hi := of_decide_eq_true h
theorem ret_bool {a b : Bool} (h : a = b) : Ending.returned (.bool a) = .returned (.bool b) := by rw [h]

theorem l00In_any (n lo hi : Int) (w : World) :
    Calls Tryd.prog 34 #[.int .i64 n, .int .i64 lo, .int .i64 hi] w fun e w' => e = .returned (.bool (inB lo hi n)) ∧ Below w.heap.size w w' := by
  by_cases h1 : lo ≤ n
  · go_enter Tryd.func34, Tryd.ntmps34
    go_wp2
    go_ret
    exact ⟨ret_bool (by simp [inB, h1]), Below.refl _ _⟩
  · go_enter Tryd.func34, Tryd.ntmps34
    go_wp2
    go_ret
    exact ⟨ret_bool (inB_no (fun h => by omega)).symm, Below.refl _ _⟩
theorem l01Grass_any (n : Int) (w : World) :
    Calls Tryd.prog 35 #[.int .i64 n] w fun e w' => e = .returned (.bool (inB 0 1000 n)) ∧ Below w.heap.size w w' := by
  have hM := Mem.nil w
  go_enter Tryd.func35, Tryd.ntmps35
  go_wp2_with (go_at_call 34; refine (l00In_any _ _ _ _).mono ?_; rintro e W' ⟨rfl, hb'⟩; have hM' := hM.call hb'; clear hM hb'; have hM := hM'; clear hM')
  go_ret
  exact ⟨rfl, hM.below⟩

/-- Has a pasture such a cell? -/
def isB (g : Nat → Int) (x y : Int) : Bool := inB 0 (g 0 - 1) x && inB 0 (g 1 - 1) y

set_option maxHeartbeats 400000 in
theorem l01Is_any (g : Nat → Int) (hg : Fits g) (bp : Nat) (x y : Int) (hx : -128 ≤ x ∧ x ≤ 127) (hy : -128 ≤ y ∧ y ≤ 127) (w : World) (hA : At w bp 122 (pas g)) :
    Calls Tryd.prog 36 #[.pointer (some ⟨bp, 0, none⟩), .agg (arr 2 (sp x y))] w fun e w' => e = .returned (.bool (isB g x y)) ∧ Below w.heap.size w w' := by
  have hM : Mem w [(bp, 122, pas g)] w := (Mem.nil w).old hA (fun i p h => by simp at h)
  obtain ⟨hw, hh, -, -⟩ := hg
  have e0 : pas g 0 = .int .i8 (g 0) := rfl
  have e1 : pas g 1 = .int .i8 (g 1) := rfl
  have e2 : sp x y 0 = .int .i8 x := rfl
  have e3 : sp x y 1 = .int .i8 y := rfl
  have c0 : IntKind.i64.wrap (g 0) = g 0 := IntWalk.i64_in _ (by omega)
  have c1 : IntKind.i64.wrap (g 1) = g 1 := IntWalk.i64_in _ (by omega)
  have c2 : IntKind.i64.wrap (g 0 - 1) = g 0 - 1 := IntWalk.i64_in _ (by omega)
  have c3 : IntKind.i64.wrap (g 1 - 1) = g 1 - 1 := IntWalk.i64_in _ (by omega)
  have c4 : IntKind.i64.wrap x = x := IntWalk.i64_in _ (by omega)
  have c5 : IntKind.i64.wrap y = y := IntWalk.i64_in _ (by omega)
  have tk_b1 : True := trivial
  go_enter Tryd.func36, Tryd.ntmps36
  go_wp2_with (first | (have _t := tk_b1; refine wpList_box rfl _ _ rfl _ _ rfl hM ?_; intro b1 W' hb1 hM'; clear hM tk_b1; have hM := hM'; clear hM'))
  cases h1 : inB 0 (g 0 - 1) x
  all_goals
    ((try simp only [Act.put, List.setIfInBounds_toArray, List.set_cons_succ, List.set_cons_zero]); refine wp_region_mem (by kernel_rfl) (by kernel_rfl) hM ?_; clear hM; (repeat (first | go_big_quiet_skip | (go_big_quiet_want; first | (refine quiet_get1 _ _ rfl _ _ rfl 1 rfl (cellTab _ rfl) (by omega) _ rfl ?_; (simp only [Act.put, List.setIfInBounds_toArray, List.set_cons_succ, List.set_cons_zero]); go_big_quiet_on) | (refine quiet_get1 _ _ rfl _ _ rfl 0 rfl (cellTab _ rfl) (by omega) _ rfl ?_; (simp only [Act.put, List.setIfInBounds_toArray, List.set_cons_succ, List.set_cons_zero]); go_big_quiet_on) | (refine quiet_call ?_; apply Exists.intro; apply Exists.intro; apply Exists.intro; refine ⟨fun W => ?_, fun W hM => ?_, ?_⟩; (go_simp; exact ⟨rfl, rfl⟩); (exact l00In_any _ _ _ W); (simp only [h1]); (simp only [Act.put, List.setIfInBounds_toArray, List.set_cons_succ, List.set_cons_zero]); go_big_quiet_on) | (refine quiet_call ?_; apply Exists.intro; apply Exists.intro; apply Exists.intro; refine ⟨fun W => ?_, fun W hM => ?_, ?_⟩; (go_simp; exact ⟨rfl, rfl⟩); (exact l00In_any _ _ _ W); (simp only [Act.put, List.setIfInBounds_toArray, List.set_cons_succ, List.set_cons_zero]); go_big_quiet_on) | (refine quiet_val ?_; apply Exists.intro; refine ⟨fun W => ?_, ?_⟩; (go_simp; rfl); (simp only [Act.put, List.setIfInBounds_toArray, List.set_cons_succ, List.set_cons_zero]); go_big_quiet_on)))); (with_reducible refine wpQuiet_nil ?_); intro W' hM)
    go_wp2
    go_ret
    exact ⟨ret_bool (by simp [isB, h1]), hM.below⟩
end Go.Proofs.YtofgkmoilncfpaaDoor

/-
  (impl.Pasture).hasCell by contract.
-/
namespace Go.Proofs.YtofgkmoilncfpaaDoor
open Go Go.RowKit Go.BigFrame

set_option maxHeartbeats 4000000 in
theorem hasCell_any (g : Nat → Int) (x y : Int) (w : World) :
    Calls Tryd.prog 39 #[.agg (arr 122 (pas g)), .agg (arr 2 (sp x y))] w fun e w' => e = .returned (.bool (isB g x y)) ∧ Below w.heap.size w w' := by
  have hM := Mem.nil w
  have e0 : pas g 0 = .int .i8 (g 0) := rfl
  have e1 : pas g 1 = .int .i8 (g 1) := rfl
  have e2 : sp x y 0 = .int .i8 x := rfl
  have e3 : sp x y 1 = .int .i8 y := rfl
  have tk_b1 : True := trivial; have tk_b2 : True := trivial
  rcases (show x < 0 ∨ (0 ≤ x ∧ g 0 ≤ x) ∨ (0 ≤ x ∧ x < g 0) by omega) with r0 | ⟨r0, r1⟩ | ⟨r0, r1⟩
  · have hf : Hid (isB g x y = false) := Lib.hid (by simp [isB, inB_no (show ¬ (0 ≤ x ∧ x ≤ g 0 - 1) by omega)])
    have d0 : decide (0 ≤ x) = false := decide_eq_false (by omega)
    clear r0
    go_enter Tryd.func39, Tryd.ntmps39
    go_wp2_with (first | (have _t := tk_b1; refine wpList_box rfl _ _ rfl _ _ rfl hM ?_; intro b1 W' hb1 hM'; clear hM tk_b1; have hM := hM'; clear hM') | (have _t := tk_b2; refine wpList_box rfl _ _ rfl _ _ rfl hM ?_; intro b2 W' hb2 hM'; clear hM tk_b2; have hM := hM'; clear hM') | (refine wpList_get1 rfl _ _ rfl _ _ rfl hM 0 rfl (cellTab _ rfl) (by omega) _ rfl ?_) | (refine wpList_get1 rfl _ _ rfl _ _ rfl hM 1 rfl (cellTab _ rfl) (by omega) _ rfl ?_) | (refine wpList_gget1 ?_ _ _ rfl _ _ rfl hM 0 rfl (cellTab _ rfl) (by omega) _ rfl ?_; kernel_rfl) | (refine wpList_gget1 ?_ _ _ rfl _ _ rfl hM 1 rfl (cellTab _ rfl) (by omega) _ rfl ?_; kernel_rfl))
    go_ret
    exact ⟨ret_bool hf.out.symm, hM.below⟩
  · have hf : Hid (isB g x y = false) := Lib.hid (by simp [isB, inB_no (show ¬ (0 ≤ x ∧ x ≤ g 0 - 1) by omega)])
    have d0 : decide (0 ≤ x) = true := decide_eq_true (by omega)
    have d1 : decide (x < g 0) = false := decide_eq_false (by omega)
    clear r0 r1
    go_enter Tryd.func39, Tryd.ntmps39
    go_wp2_with (first | (have _t := tk_b1; refine wpList_box rfl _ _ rfl _ _ rfl hM ?_; intro b1 W' hb1 hM'; clear hM tk_b1; have hM := hM'; clear hM') | (have _t := tk_b2; refine wpList_box rfl _ _ rfl _ _ rfl hM ?_; intro b2 W' hb2 hM'; clear hM tk_b2; have hM := hM'; clear hM') | (refine wpList_get1 rfl _ _ rfl _ _ rfl hM 0 rfl (cellTab _ rfl) (by omega) _ rfl ?_) | (refine wpList_get1 rfl _ _ rfl _ _ rfl hM 1 rfl (cellTab _ rfl) (by omega) _ rfl ?_) | (refine wpList_gget1 ?_ _ _ rfl _ _ rfl hM 0 rfl (cellTab _ rfl) (by omega) _ rfl ?_; kernel_rfl) | (refine wpList_gget1 ?_ _ _ rfl _ _ rfl hM 1 rfl (cellTab _ rfl) (by omega) _ rfl ?_; kernel_rfl))
    go_ret
    exact ⟨ret_bool hf.out.symm, hM.below⟩
  have d0 : decide (0 ≤ x) = true := decide_eq_true (by omega)
  have d1 : decide (x < g 0) = true := decide_eq_true (by omega)
  have q0 := inB_yes (show 0 ≤ x ∧ x ≤ g 0 - 1 by omega)
  clear r0 r1
  rcases (show y < 0 ∨ (0 ≤ y ∧ g 1 ≤ y) ∨ (0 ≤ y ∧ y < g 1) by omega) with r0 | ⟨r0, r1⟩ | ⟨r0, r1⟩
  · have hf : Hid (isB g x y = false) := Lib.hid (by simp [isB, inB_no (show ¬ (0 ≤ y ∧ y ≤ g 1 - 1) by omega)])
    have d2 : decide (0 ≤ y) = false := decide_eq_false (by omega)
    clear r0 q0
    go_enter Tryd.func39, Tryd.ntmps39
    go_wp2_with (first | (have _t := tk_b1; refine wpList_box rfl _ _ rfl _ _ rfl hM ?_; intro b1 W' hb1 hM'; clear hM tk_b1; have hM := hM'; clear hM') | (have _t := tk_b2; refine wpList_box rfl _ _ rfl _ _ rfl hM ?_; intro b2 W' hb2 hM'; clear hM tk_b2; have hM := hM'; clear hM') | (refine wpList_get1 rfl _ _ rfl _ _ rfl hM 0 rfl (cellTab _ rfl) (by omega) _ rfl ?_) | (refine wpList_get1 rfl _ _ rfl _ _ rfl hM 1 rfl (cellTab _ rfl) (by omega) _ rfl ?_) | (refine wpList_gget1 ?_ _ _ rfl _ _ rfl hM 0 rfl (cellTab _ rfl) (by omega) _ rfl ?_; kernel_rfl) | (refine wpList_gget1 ?_ _ _ rfl _ _ rfl hM 1 rfl (cellTab _ rfl) (by omega) _ rfl ?_; kernel_rfl))
    go_ret
    exact ⟨ret_bool hf.out.symm, hM.below⟩
  · have hf : Hid (isB g x y = false) := Lib.hid (by simp [isB, inB_no (show ¬ (0 ≤ y ∧ y ≤ g 1 - 1) by omega)])
    have d2 : decide (0 ≤ y) = true := decide_eq_true (by omega)
    have d3 : decide (y < g 1) = false := decide_eq_false (by omega)
    clear r0 r1 q0
    go_enter Tryd.func39, Tryd.ntmps39
    go_wp2_with (first | (have _t := tk_b1; refine wpList_box rfl _ _ rfl _ _ rfl hM ?_; intro b1 W' hb1 hM'; clear hM tk_b1; have hM := hM'; clear hM') | (have _t := tk_b2; refine wpList_box rfl _ _ rfl _ _ rfl hM ?_; intro b2 W' hb2 hM'; clear hM tk_b2; have hM := hM'; clear hM') | (refine wpList_get1 rfl _ _ rfl _ _ rfl hM 0 rfl (cellTab _ rfl) (by omega) _ rfl ?_) | (refine wpList_get1 rfl _ _ rfl _ _ rfl hM 1 rfl (cellTab _ rfl) (by omega) _ rfl ?_) | (refine wpList_gget1 ?_ _ _ rfl _ _ rfl hM 0 rfl (cellTab _ rfl) (by omega) _ rfl ?_; kernel_rfl) | (refine wpList_gget1 ?_ _ _ rfl _ _ rfl hM 1 rfl (cellTab _ rfl) (by omega) _ rfl ?_; kernel_rfl))
    go_ret
    exact ⟨ret_bool hf.out.symm, hM.below⟩
  · have hf : Hid (isB g x y = true) := Lib.hid (by simp [isB, q0, inB_yes (show 0 ≤ y ∧ y ≤ g 1 - 1 by omega)])
    have d2 : decide (0 ≤ y) = true := decide_eq_true (by omega)
    have d3 : decide (y < g 1) = true := decide_eq_true (by omega)
    clear r0 r1 q0
    go_enter Tryd.func39, Tryd.ntmps39
    go_wp2_with (first | (have _t := tk_b1; refine wpList_box rfl _ _ rfl _ _ rfl hM ?_; intro b1 W' hb1 hM'; clear hM tk_b1; have hM := hM'; clear hM') | (have _t := tk_b2; refine wpList_box rfl _ _ rfl _ _ rfl hM ?_; intro b2 W' hb2 hM'; clear hM tk_b2; have hM := hM'; clear hM') | (refine wpList_get1 rfl _ _ rfl _ _ rfl hM 0 rfl (cellTab _ rfl) (by omega) _ rfl ?_) | (refine wpList_get1 rfl _ _ rfl _ _ rfl hM 1 rfl (cellTab _ rfl) (by omega) _ rfl ?_) | (refine wpList_gget1 ?_ _ _ rfl _ _ rfl hM 0 rfl (cellTab _ rfl) (by omega) _ rfl ?_; kernel_rfl) | (refine wpList_gget1 ?_ _ _ rfl _ _ rfl hM 1 rfl (cellTab _ rfl) (by omega) _ rfl ?_; kernel_rfl))
    go_ret
    exact ⟨ret_bool hf.out.symm, hM.below⟩

theorem sp_of {f : Nat → Value} {x y : Int} (h0 : f 0 = .int .i8 x) (h1 : f 1 = .int .i8 y) : arr 2 f = arr 2 (sp x y) := arr_congr fun k hk => by
  rcases (show k = 0 ∨ k = 1 by omega) with rfl | rfl
  · exact h0
  · exact h1
/-- The same over any two cells that hold the spot. -/
theorem hasCell_of (g : Nat → Int) (f : Nat → Value) (x y : Int) (h0 : f 0 = .int .i8 x) (h1 : f 1 = .int .i8 y) (w : World) :
    Calls Tryd.prog 39 #[.agg (arr 122 (pas g)), .agg (arr 2 f)] w fun e w' => e = .returned (.bool (isB g x y)) ∧ Below w.heap.size w w' := by
  rw [sp_of h0 h1]
  exact hasCell_any g x y w
end Go.Proofs.YtofgkmoilncfpaaDoor

/-
  PLAIN LAW: a region that draws its order, whose first m operations only read or make quiet calls (whatever world of a class they get), and whose others follow one another.
-/
namespace Go.Proofs.YtofgkmoilncfpaaDoor
open Go
variable {P : Program} {ops : Array Oper} {C : World → Prop}

/-- From here on f operations of the head come up, in whatever order; then T. -/
def headQ (P : Program) (ops : Array Oper) (C : World → Prop) (n : Nat) (T : Array Bool → Act → Prop) : Nat → Array Bool → Act → Prop
  | 0, s, a => T s a
  | f + 1, s, a => Region.ready .any ops s ≠ [] ∧ ∀ i ∈ Region.ready .any ops s, i < n ∧ qOp P ops C i (headQ P ops C n T f (s.setIfInBounds i true)) a

theorem any_of_headQ {n g : Nat} {T : Array Bool → Act → Prop} {Q : Exit → Act → World → Prop} (hT : ∀ s a w, C w → T s a → wpAny P .any ops Q g s a w) (f : Nat) :
    ∀ s a w, C w → headQ P ops C n T f s a → wpAny P .any ops Q (f + g) s a w := by
  induction f with
  | zero => intro s a w hw h; rw [Nat.zero_add]; exact hT s a w hw h
  | succ f ih =>
    intro s a w hw h
    rw [Nat.succ_add]
    exact ⟨fun e => absurd e h.1, fun i hi => wpOp_of_qOp hw (fun a' w' hw' h' => ih _ a' w' hw' h') (h.2 i hi).2⟩

/-- What comes up ahead of an open head operation is of the head. -/
theorem below_of_open {n i j : Nat} {s : Array Bool} (hs : Region.sinkB .any ops n = true) (hc : Region.chainB .any ops n = true) (hn : n < ops.size) (inv : HeadInv .any ops n s) (hin : i < n)
    (hi : i ∈ Region.ready .any ops s) (hj : j ∈ Region.ready .any ops s) : j < n := by
  by_cases h : j < n
  · exact h
  · exact absurd hj (tail_waits hs hc hn inv _ i rfl hin (mem_ready.1 hi).1 j (by omega))

theorem headQ_first {n i : Nat} {oi : Oper} {v : Value} {T : Array Bool → Act → Prop} (hoi : ops[i]? = some oi) (hsel : ∀ (j : Nat) (o : Oper) cs b, ops[j]? = some o → o.op ≠ .select cs b)
    (hs : Region.sinkB .any ops n = true) (hc : Region.chainB .any ops n = true) (hn : n < ops.size) (hin : i < n) (hT : ∀ s a, T s a → ∀ j ∈ Region.ready .any ops s, n ≤ j) (f : Nat) :
    ∀ s a, HeadInv .any ops n s →
      (∀ j oj, ops[j]? = some oj → j ≠ i → s.getD j true = false → (∀ e ∈ oj.after, Region.binds .any e = true → e.on ≠ i) → oi.apart ops oj = true) →
      i ∈ Region.ready .any ops s → YieldsIn P ops C oi v a → headQ P ops C n T f (s.setIfInBounds i true) (a.put oi.dst v) → headQ P ops C n T (f + 1) s a := by
  induction f with
  | zero =>
    intro s a inv _ hr hy H
    refine ⟨List.ne_nil_of_mem hr, fun j hj => ⟨below_of_open hs hc hn inv hin hr hj, ?_⟩⟩
    by_cases e : j = i
    · subst e; exact hy.qOp hoi H
    · exact absurd (hT _ _ H j (ready_mono hj e)) (by have := below_of_open hs hc hn inv hin hr hj; omega)
  | succ f ih =>
    intro s a inv hfree hr hy H
    refine ⟨List.ne_nil_of_mem hr, fun j hj => ?_⟩
    have hjn := below_of_open hs hc hn inv hin hr hj
    refine ⟨hjn, ?_⟩
    by_cases e : j = i
    · subst e; exact hy.qOp hoi H
    obtain ⟨hju, oj, hoj, hdone⟩ := mem_ready.1 hj
    have hfj := hfree j oj hoj e hju fun d hd hb he => by
      have h1 := hdone d hd hb
      rw [he, getD_both (mem_ready.1 hr).1] at h1
      cases h1
    have step := qOp_put hoj hfj (fun cs b => hsel i oi cs b hoi) (fun cs b => hsel j oj cs b hoj) hy (H.2 j (ready_mono hj e)).2
    refine qOp_mono (fun a' h' => ih _ a' (inv.set hj hjn) (fun k ok hk hki hku hno => hfree k ok hk hki ?_ hno) (ready_mono hr (Ne.symm e)) h'.1 ?_) step
    · by_cases ejk : j = k
      · subst ejk; exact hju
      · rwa [getD_set_ne true ejk] at hku
    · rw [Array.setIfInBounds_comm _ _ e]; exact h'.2

theorem headQ_lex {n g : Nat} {R : Act → Prop} (hsel : Region.noSelect ops = true) (hs : Region.sinkB .any ops n = true) (hc : Region.chainB .any ops n = true) (hn : n < ops.size) (l : List Oper) :
    ∀ (k : Nat) (s : Array Bool) (a : Act), (∀ j, j < l.length → l[j]? = ops[k + j]?) → k + l.length = n → HeadInv .any ops n s → Region.lexHead .any ops g l.length k s = true →
      wpQuiet P ops C R l a → headQ P ops C n (fun s' a' => Region.seqB .any ops g n s' = true ∧ R a') l.length s a := by
  induction l with
  | nil =>
    intro k s a _ hk _ hB h
    obtain rfl : k = n := by simpa using hk
    exact ⟨by simpa [Region.lexHead] using hB, h⟩
  | cons o l ih =>
    intro k s a hl hk inv hB h
    have h0 : ops[k]? = some o := by simpa using (hl 0 (by simp)).symm
    simp only [List.length_cons, Region.lexHead, Bool.and_eq_true] at hB hk
    have hr : k ∈ Region.ready .any ops s := by simpa using hB.1.1
    have hq : qOp P ops C k (wpQuiet P ops C R l) a := by unfold qOp; simp only [h0]; exact h
    obtain ⟨v, hy, hK⟩ := yieldsIn_of_qOp h0 hq
    refine headQ_first h0 (Region.noSelect_spec hsel) hs hc hn (by omega) (fun s' a' h' => seqB_ready h'.1) l.length s a inv (Region.free_spec h0 hB.1.2) hr hy ?_
    refine ih (k + 1) _ _ (fun j hj => ?_) (by omega) (inv.set hr (by omega)) hB.2 hK
    have := hl (j + 1) (by simp; omega)
    simpa [Nat.add_assoc, Nat.add_comm 1 j] using this

theorem any_head {Q : Exit → Act → World → Prop} {a : Act} {w : World} {l : List Oper} (n : Nat) (hB : Region.lexTailB .any l.toArray n = true) (hC : C w)
    (h : wpQuiet P l.toArray C (fun a' => ∀ w', C w' → wpList P l.toArray Q (l.drop n) a' w') (l.take n) a) : wpAny P .any l.toArray Q l.toArray.size (Array.replicate l.toArray.size false) a w := by
  simp only [Region.lexTailB, Bool.and_eq_true, decide_eq_true_eq] at hB
  obtain ⟨⟨⟨⟨b1, b2⟩, b3⟩, b4⟩, b5⟩ := hB
  have e0 : l.toArray.size = l.length := by simp
  have e1 : (l.take n).length = n := by rw [List.length_take]; omega
  have e2 : (l.drop n).length = l.toArray.size - n := by rw [List.length_drop, e0]
  have inv : HeadInv .any l.toArray n (Array.replicate l.toArray.size false) :=
    { size := by simp
      closed := fun j oj _ hl => by rw [getD_replicate_false] at hl; cases hl
      tail := fun t _ ht => getD_in (by simpa using ht) (getD_replicate_false _ _) }
  have H := headQ_lex (P := P) (C := C) (g := l.toArray.size - n) b1 b3 b4 b2 (l.take n) 0 _ a (fun j hj => by rw [e1] at hj; simp [hj]) (by rw [e1]; omega) inv (by rw [e1]; exact b5) h
  have := any_of_headQ (Q := Q) (g := l.toArray.size - n) (fun s a' w' hw' ht => by
    have := wpAny_of_seq (P := P) (md := .any) (Q' := Q) (l.drop n) n s a' w' (fun j => by simp [List.getElem?_drop]) (by rw [e2]; exact ht.1) (ht.2 w' hw')
    rwa [e2] at this) _ _ _ w hC H
  rwa [e1, show n + (l.toArray.size - n) = l.toArray.size by omega] at this

/-- The region, over the memory of a call. -/
theorem region_head_mem {Q : Exit → Act → World → Prop} {a : Act} {w : Base} {W : World} {L : Blocks} {id : Nat} {l : List Oper} (m : Nat) (hm : P.follows .mixedOrders = true) (hB : Region.lexTailB .any l.toArray m = true) (hM : Mem w L W)
    (h : wpQuiet P l.toArray (Mem w L) (fun a' => ∀ W', Mem w L W' → wpList P l.toArray Q (l.drop m) a' W') (l.take m) a) : (Code.region id l.toArray true).wp P Q a W :=
  wp_region_any hm (any_head (C := Mem w L) m hB hM.drew h)
end Go.Proofs.YtofgkmoilncfpaaDoor

/-
  Steps over the sides: (impl.Spot).north, east, south, west, overSides, over; spec.l01Next.
-/
namespace Go.Proofs.YtofgkmoilncfpaaDoor
open Go Go.RowKit Go.BigFrame

def nxX (k : Nat) (x : Int) : Int := match k with | 1 => x + 1 | 3 => x - 1 | _ => x
def nxY (k : Nat) (y : Int) : Int := match k with | 0 => y - 1 | 2 => y + 1 | _ => y
theorem lay_sp (z : Nat → Value) (x y : Int) : ∀ k, k < 2 → lay z 0 2 (sp x y) k = sp x y k := fun k hk => by simp [lay, hk]

set_option maxHeartbeats 400000 in
theorem north_any (x y : Int) (hx : 0 ≤ x ∧ x ≤ 9) (hy : 0 ≤ y ∧ y ≤ 9) (w : World) :
    Calls Tryd.prog 56 #[.agg (arr 2 (sp x y))] w fun e w' => e = .returned (.agg (arr 2 (sp (x) (y - 1)))) ∧ Below w.heap.size w w' := by
  have hM := Mem.nil w
  have e0 : sp x y 0 = .int .i8 x := rfl
  have e1 : sp x y 1 = .int .i8 y := rfl
  have c1 : IntKind.i8.wrap (y - 1) = y - 1 := IntWalk.i8_in _ (by omega)
  have hsp : #[Value.int .i8 (x), Value.int .i8 (y - 1)] = arr 2 (sp (x) (y - 1)) := rfl
  have tk_b1 : True := trivial; have tk_b2 : True := trivial
  go_enter Tryd.func56, Tryd.ntmps56
  go_wp2_with (first | (have _t := tk_b1; refine wpList_box rfl _ _ rfl _ _ rfl hM ?_; intro b1 W' hb1 hM'; clear hM tk_b1; have hM := hM'; clear hM') | (have _t := tk_b2; refine wpList_zero rfl _ rfl (zeroTab _ _ _ rfl) hM ?_; intro b2 W' hb2 hM'; clear hM tk_b2; have hM := hM'; clear hM') | (refine wpList_get1 rfl _ _ rfl _ _ rfl hM 1 rfl (cellTab _ rfl) (by omega) _ rfl ?_) | (refine wpList_lay rfl _ _ _ rfl _ _ rfl _ _ rfl hM 0 rfl (by assumption) (rowTab _ _ rfl) (by omega) ?_ ?_; (first | (intro _ _; rfl) | (intro k _; exact h1 _) | (intro k _; simp only [lay, upd]; (repeat' split) <;> first | exact h1 _ | rfl)); intro W' hM'; clear hM; have hM := hM'; clear hM'; simp only [List.set] at hM))
  exact bodyPost_ret (results_at rfl _ rfl ((hM.ats 0 _ _ _ rfl).congr (lay_sp _ _ _)) (rowTab _ _ rfl)) rfl ⟨rfl, hM.below⟩
set_option maxHeartbeats 400000 in
theorem east_any (x y : Int) (hx : 0 ≤ x ∧ x ≤ 9) (hy : 0 ≤ y ∧ y ≤ 9) (w : World) :
    Calls Tryd.prog 59 #[.agg (arr 2 (sp x y))] w fun e w' => e = .returned (.agg (arr 2 (sp (x + 1) (y)))) ∧ Below w.heap.size w w' := by
  have hM := Mem.nil w
  have e0 : sp x y 0 = .int .i8 x := rfl
  have e1 : sp x y 1 = .int .i8 y := rfl
  have c1 : IntKind.i8.wrap (x + 1) = x + 1 := IntWalk.i8_in _ (by omega)
  have hsp : #[Value.int .i8 (x + 1), Value.int .i8 (y)] = arr 2 (sp (x + 1) (y)) := rfl
  have tk_b1 : True := trivial; have tk_b2 : True := trivial
  go_enter Tryd.func59, Tryd.ntmps59
  go_wp2_with (first | (have _t := tk_b1; refine wpList_box rfl _ _ rfl _ _ rfl hM ?_; intro b1 W' hb1 hM'; clear hM tk_b1; have hM := hM'; clear hM') | (have _t := tk_b2; refine wpList_zero rfl _ rfl (zeroTab _ _ _ rfl) hM ?_; intro b2 W' hb2 hM'; clear hM tk_b2; have hM := hM'; clear hM') | (refine wpList_get1 rfl _ _ rfl _ _ rfl hM 1 rfl (cellTab _ rfl) (by omega) _ rfl ?_) | (refine wpList_lay rfl _ _ _ rfl _ _ rfl _ _ rfl hM 0 rfl (by assumption) (rowTab _ _ rfl) (by omega) ?_ ?_; (first | (intro _ _; rfl) | (intro k _; exact h1 _) | (intro k _; simp only [lay, upd]; (repeat' split) <;> first | exact h1 _ | rfl)); intro W' hM'; clear hM; have hM := hM'; clear hM'; simp only [List.set] at hM))
  exact bodyPost_ret (results_at rfl _ rfl ((hM.ats 0 _ _ _ rfl).congr (lay_sp _ _ _)) (rowTab _ _ rfl)) rfl ⟨rfl, hM.below⟩
set_option maxHeartbeats 400000 in
theorem south_any (x y : Int) (hx : 0 ≤ x ∧ x ≤ 9) (hy : 0 ≤ y ∧ y ≤ 9) (w : World) :
    Calls Tryd.prog 60 #[.agg (arr 2 (sp x y))] w fun e w' => e = .returned (.agg (arr 2 (sp (x) (y + 1)))) ∧ Below w.heap.size w w' := by
  have hM := Mem.nil w
  have e0 : sp x y 0 = .int .i8 x := rfl
  have e1 : sp x y 1 = .int .i8 y := rfl
  have c1 : IntKind.i8.wrap (y + 1) = y + 1 := IntWalk.i8_in _ (by omega)
  have hsp : #[Value.int .i8 (x), Value.int .i8 (y + 1)] = arr 2 (sp (x) (y + 1)) := rfl
  have tk_b1 : True := trivial; have tk_b2 : True := trivial
  go_enter Tryd.func60, Tryd.ntmps60
  go_wp2_with (first | (have _t := tk_b1; refine wpList_box rfl _ _ rfl _ _ rfl hM ?_; intro b1 W' hb1 hM'; clear hM tk_b1; have hM := hM'; clear hM') | (have _t := tk_b2; refine wpList_zero rfl _ rfl (zeroTab _ _ _ rfl) hM ?_; intro b2 W' hb2 hM'; clear hM tk_b2; have hM := hM'; clear hM') | (refine wpList_get1 rfl _ _ rfl _ _ rfl hM 1 rfl (cellTab _ rfl) (by omega) _ rfl ?_) | (refine wpList_lay rfl _ _ _ rfl _ _ rfl _ _ rfl hM 0 rfl (by assumption) (rowTab _ _ rfl) (by omega) ?_ ?_; (first | (intro _ _; rfl) | (intro k _; exact h1 _) | (intro k _; simp only [lay, upd]; (repeat' split) <;> first | exact h1 _ | rfl)); intro W' hM'; clear hM; have hM := hM'; clear hM'; simp only [List.set] at hM))
  exact bodyPost_ret (results_at rfl _ rfl ((hM.ats 0 _ _ _ rfl).congr (lay_sp _ _ _)) (rowTab _ _ rfl)) rfl ⟨rfl, hM.below⟩
set_option maxHeartbeats 400000 in
theorem west_any (x y : Int) (hx : 0 ≤ x ∧ x ≤ 9) (hy : 0 ≤ y ∧ y ≤ 9) (w : World) :
    Calls Tryd.prog 57 #[.agg (arr 2 (sp x y))] w fun e w' => e = .returned (.agg (arr 2 (sp (x - 1) (y)))) ∧ Below w.heap.size w w' := by
  have hM := Mem.nil w
  have e0 : sp x y 0 = .int .i8 x := rfl
  have e1 : sp x y 1 = .int .i8 y := rfl
  have c1 : IntKind.i8.wrap (x - 1) = x - 1 := IntWalk.i8_in _ (by omega)
  have hsp : #[Value.int .i8 (x - 1), Value.int .i8 (y)] = arr 2 (sp (x - 1) (y)) := rfl
  have tk_b1 : True := trivial; have tk_b2 : True := trivial
  go_enter Tryd.func57, Tryd.ntmps57
  go_wp2_with (first | (have _t := tk_b1; refine wpList_box rfl _ _ rfl _ _ rfl hM ?_; intro b1 W' hb1 hM'; clear hM tk_b1; have hM := hM'; clear hM') | (have _t := tk_b2; refine wpList_zero rfl _ rfl (zeroTab _ _ _ rfl) hM ?_; intro b2 W' hb2 hM'; clear hM tk_b2; have hM := hM'; clear hM') | (refine wpList_get1 rfl _ _ rfl _ _ rfl hM 1 rfl (cellTab _ rfl) (by omega) _ rfl ?_) | (refine wpList_lay rfl _ _ _ rfl _ _ rfl _ _ rfl hM 0 rfl (by assumption) (rowTab _ _ rfl) (by omega) ?_ ?_; (first | (intro _ _; rfl) | (intro k _; exact h1 _) | (intro k _; simp only [lay, upd]; (repeat' split) <;> first | exact h1 _ | rfl)); intro W' hM'; clear hM; have hM := hM'; clear hM'; simp only [List.set] at hM))
  exact bodyPost_ret (results_at rfl _ rfl ((hM.ats 0 _ _ _ rfl).congr (lay_sp _ _ _)) (rowTab _ _ rfl)) rfl ⟨rfl, hM.below⟩

/-- The four steps as values. -/
def sideV (k : Nat) : Value :=
  match k with
  | 0 => .func (.func 56) #[] #[]
  | 1 => .func (.func 59) #[] #[]
  | 2 => .func (.func 60) #[] #[]
  | _ => .func (.func 57) #[] #[]
theorem sideV_one : ∀ k, k < 4 → (sideV k).oneCell' = true := fun k hk => by
  rcases (show k = 0 ∨ k = 1 ∨ k = 2 ∨ k = 3 by omega) with rfl | rfl | rfl | rfl <;> rfl
theorem sides_row : RowT Tryd.prog 114 4 := ⟨⟨_, Tryd.underlying114, rfl⟩, by kernel_rfl⟩
theorem sides_zero : (Tryd.prog.info? 114).map (·.zero) = some (some (.agg (arr 4 fun _ => .nilFunc))) := by kernel_rfl
theorem overSides_any (w : World) :
    Calls Tryd.prog 58 #[] w fun e w' => e = .returned (.agg (arr 4 sideV)) ∧ Below w.heap.size w w' := by
  have hM := Mem.nil w
  have hs : #[Value.func (.func 56) #[] #[], Value.func (.func 59) #[] #[], Value.func (.func 60) #[] #[], Value.func (.func 57) #[] #[]] = arr 4 sideV := rfl
  have tk_b2 : True := trivial
  go_enter Tryd.func58, Tryd.ntmps58
  go_wp2_with (first | (have _t := tk_b2; refine wpList_zero rfl _ rfl sides_zero hM ?_; intro b2 W' hb2 hM'; clear hM tk_b2; have hM := hM'; clear hM') | (refine wpList_lay rfl _ _ _ rfl _ _ rfl _ _ rfl hM 0 rfl (by assumption) sides_row (by omega) sideV_one ?_; intro W' hM'; clear hM; have hM := hM'; clear hM'; simp only [List.set] at hM))
  exact bodyPost_ret (results_at rfl _ rfl ((hM.ats 0 _ _ _ rfl).congr (g := sideV) (fun k hk => by simp [lay, hk])) sides_row) rfl ⟨rfl, hM.below⟩

theorem overSides_lit (w : World) :
    Calls Tryd.prog 58 #[] w fun e w' => e = .returned (.agg #[.func (.func 56) #[] #[], .func (.func 59) #[] #[], .func (.func 60) #[] #[], .func (.func 57) #[] #[]]) ∧ Below w.heap.size w w' := overSides_any w

@[local go_sem] theorem idx_0 (W : World) : (Instr.index 114 (.agg #[.func (.func 56) #[] #[], .func (.func 59) #[] #[], .func (.func 60) #[] #[], .func (.func 57) #[] #[]]) (.int .i64 0)).run Tryd.prog W = .ok (.func (.func 56) #[] #[]) W := by kernel_rfl
@[local go_sem] theorem idx_1 (W : World) : (Instr.index 114 (.agg #[.func (.func 56) #[] #[], .func (.func 59) #[] #[], .func (.func 60) #[] #[], .func (.func 57) #[] #[]]) (.int .i64 1)).run Tryd.prog W = .ok (.func (.func 59) #[] #[]) W := by kernel_rfl
@[local go_sem] theorem idx_2 (W : World) : (Instr.index 114 (.agg #[.func (.func 56) #[] #[], .func (.func 59) #[] #[], .func (.func 60) #[] #[], .func (.func 57) #[] #[]]) (.int .i64 2)).run Tryd.prog W = .ok (.func (.func 60) #[] #[]) W := by kernel_rfl
@[local go_sem] theorem idx_3 (W : World) : (Instr.index 114 (.agg #[.func (.func 56) #[] #[], .func (.func 59) #[] #[], .func (.func 60) #[] #[], .func (.func 57) #[] #[]]) (.int .i64 3)).run Tryd.prog W = .ok (.func (.func 57) #[] #[]) W := by kernel_rfl

set_option maxRecDepth 100000 in
set_option maxHeartbeats 400000 in
theorem over_0 (x y : Int) (hx : 0 ≤ x ∧ x ≤ 9) (hy : 0 ≤ y ∧ y ≤ 9) (w : World) :
    Calls Tryd.prog 55 #[.agg (arr 2 (sp x y)), .int .i64 0] w fun e w' => e = .returned (.agg (arr 2 (sp (x) (y - 1)))) ∧ Below w.heap.size w w' := by
  have hM := Mem.nil w
  have tk_b1 : True := trivial; have tk_b2 : True := trivial
  go_enter Tryd.func55, Tryd.ntmps55
  go_wp2_with (first | (have _t := tk_b1; refine wpList_box rfl _ _ rfl _ _ rfl hM ?_; intro b1 W' hb1 hM'; clear hM tk_b1; have hM := hM'; clear hM') | (have _t := tk_b2; refine wpList_zero rfl _ rfl (zeroTab _ _ _ rfl) hM ?_; intro b2 W' hb2 hM'; clear hM tk_b2; have hM := hM'; clear hM'))
  ((try simp only [Act.put, List.setIfInBounds_toArray, List.set_cons_succ, List.set_cons_zero]); refine region_head_mem (m := 5) (by kernel_rfl) (by kernel_rfl) hM ?_; clear hM; simp only [List.take_succ_cons, List.take_zero, List.drop_succ_cons, List.drop_zero]; (repeat (first | go_big_quiet_skip | (go_big_quiet_want; first | (refine quiet_get _ _ rfl _ _ rfl 1 rfl (rowTab _ _ rfl) (by omega) ?_; (simp only [Act.put, List.setIfInBounds_toArray, List.set_cons_succ, List.set_cons_zero]); go_big_quiet_on) | (refine quiet_call ?_; apply Exists.intro; apply Exists.intro; apply Exists.intro; refine ⟨fun W => ?_, fun W hM => ?_, ?_⟩; (go_simp; exact ⟨rfl, rfl⟩); (exact overSides_lit W); (simp only [Act.put, List.setIfInBounds_toArray, List.set_cons_succ, List.set_cons_zero]); go_big_quiet_on) | (refine quiet_call ?_; apply Exists.intro; apply Exists.intro; apply Exists.intro; refine ⟨fun W => ?_, fun W hM => ?_, ?_⟩; (go_simp; exact ⟨rfl, rfl⟩); (exact north_any x y hx hy W); (simp only [Act.put, List.setIfInBounds_toArray, List.set_cons_succ, List.set_cons_zero]); go_big_quiet_on) | (refine quiet_val ?_; apply Exists.intro; refine ⟨fun W => ?_, ?_⟩; (go_simp; rfl); (simp only [Act.put, List.setIfInBounds_toArray, List.set_cons_succ, List.set_cons_zero]); go_big_quiet_on)))); (with_reducible refine wpQuiet_nil ?_); intro W' hM)
  go_wp2_with (first | (refine wpList_lay rfl _ _ _ rfl _ _ rfl _ _ rfl hM 0 rfl (by assumption) (rowTab _ _ rfl) (by omega) ?_ ?_; (first | (intro _ _; rfl) | (intro k _; exact h1 _) | (intro k _; simp only [lay, upd]; (repeat' split) <;> first | exact h1 _ | rfl)); intro W' hM'; clear hM; have hM := hM'; clear hM'; simp only [List.set] at hM))
  exact bodyPost_ret (results_at rfl _ rfl ((hM.ats 0 _ _ _ rfl).congr (lay_sp _ _ _)) (rowTab _ _ rfl)) rfl ⟨rfl, hM.below⟩
set_option maxRecDepth 100000 in
set_option maxHeartbeats 400000 in
theorem over_1 (x y : Int) (hx : 0 ≤ x ∧ x ≤ 9) (hy : 0 ≤ y ∧ y ≤ 9) (w : World) :
    Calls Tryd.prog 55 #[.agg (arr 2 (sp x y)), .int .i64 1] w fun e w' => e = .returned (.agg (arr 2 (sp (x + 1) (y)))) ∧ Below w.heap.size w w' := by
  have hM := Mem.nil w
  have tk_b1 : True := trivial; have tk_b2 : True := trivial
  go_enter Tryd.func55, Tryd.ntmps55
  go_wp2_with (first | (have _t := tk_b1; refine wpList_box rfl _ _ rfl _ _ rfl hM ?_; intro b1 W' hb1 hM'; clear hM tk_b1; have hM := hM'; clear hM') | (have _t := tk_b2; refine wpList_zero rfl _ rfl (zeroTab _ _ _ rfl) hM ?_; intro b2 W' hb2 hM'; clear hM tk_b2; have hM := hM'; clear hM'))
  ((try simp only [Act.put, List.setIfInBounds_toArray, List.set_cons_succ, List.set_cons_zero]); refine region_head_mem (m := 5) (by kernel_rfl) (by kernel_rfl) hM ?_; clear hM; simp only [List.take_succ_cons, List.take_zero, List.drop_succ_cons, List.drop_zero]; (repeat (first | go_big_quiet_skip | (go_big_quiet_want; first | (refine quiet_get _ _ rfl _ _ rfl 1 rfl (rowTab _ _ rfl) (by omega) ?_; (simp only [Act.put, List.setIfInBounds_toArray, List.set_cons_succ, List.set_cons_zero]); go_big_quiet_on) | (refine quiet_call ?_; apply Exists.intro; apply Exists.intro; apply Exists.intro; refine ⟨fun W => ?_, fun W hM => ?_, ?_⟩; (go_simp; exact ⟨rfl, rfl⟩); (exact overSides_lit W); (simp only [Act.put, List.setIfInBounds_toArray, List.set_cons_succ, List.set_cons_zero]); go_big_quiet_on) | (refine quiet_call ?_; apply Exists.intro; apply Exists.intro; apply Exists.intro; refine ⟨fun W => ?_, fun W hM => ?_, ?_⟩; (go_simp; exact ⟨rfl, rfl⟩); (exact east_any x y hx hy W); (simp only [Act.put, List.setIfInBounds_toArray, List.set_cons_succ, List.set_cons_zero]); go_big_quiet_on) | (refine quiet_val ?_; apply Exists.intro; refine ⟨fun W => ?_, ?_⟩; (go_simp; rfl); (simp only [Act.put, List.setIfInBounds_toArray, List.set_cons_succ, List.set_cons_zero]); go_big_quiet_on)))); (with_reducible refine wpQuiet_nil ?_); intro W' hM)
  go_wp2_with (first | (refine wpList_lay rfl _ _ _ rfl _ _ rfl _ _ rfl hM 0 rfl (by assumption) (rowTab _ _ rfl) (by omega) ?_ ?_; (first | (intro _ _; rfl) | (intro k _; exact h1 _) | (intro k _; simp only [lay, upd]; (repeat' split) <;> first | exact h1 _ | rfl)); intro W' hM'; clear hM; have hM := hM'; clear hM'; simp only [List.set] at hM))
  exact bodyPost_ret (results_at rfl _ rfl ((hM.ats 0 _ _ _ rfl).congr (lay_sp _ _ _)) (rowTab _ _ rfl)) rfl ⟨rfl, hM.below⟩
set_option maxRecDepth 100000 in
set_option maxHeartbeats 400000 in
theorem over_2 (x y : Int) (hx : 0 ≤ x ∧ x ≤ 9) (hy : 0 ≤ y ∧ y ≤ 9) (w : World) :
    Calls Tryd.prog 55 #[.agg (arr 2 (sp x y)), .int .i64 2] w fun e w' => e = .returned (.agg (arr 2 (sp (x) (y + 1)))) ∧ Below w.heap.size w w' := by
  have hM := Mem.nil w
  have tk_b1 : True := trivial; have tk_b2 : True := trivial
  go_enter Tryd.func55, Tryd.ntmps55
  go_wp2_with (first | (have _t := tk_b1; refine wpList_box rfl _ _ rfl _ _ rfl hM ?_; intro b1 W' hb1 hM'; clear hM tk_b1; have hM := hM'; clear hM') | (have _t := tk_b2; refine wpList_zero rfl _ rfl (zeroTab _ _ _ rfl) hM ?_; intro b2 W' hb2 hM'; clear hM tk_b2; have hM := hM'; clear hM'))
  ((try simp only [Act.put, List.setIfInBounds_toArray, List.set_cons_succ, List.set_cons_zero]); refine region_head_mem (m := 5) (by kernel_rfl) (by kernel_rfl) hM ?_; clear hM; simp only [List.take_succ_cons, List.take_zero, List.drop_succ_cons, List.drop_zero]; (repeat (first | go_big_quiet_skip | (go_big_quiet_want; first | (refine quiet_get _ _ rfl _ _ rfl 1 rfl (rowTab _ _ rfl) (by omega) ?_; (simp only [Act.put, List.setIfInBounds_toArray, List.set_cons_succ, List.set_cons_zero]); go_big_quiet_on) | (refine quiet_call ?_; apply Exists.intro; apply Exists.intro; apply Exists.intro; refine ⟨fun W => ?_, fun W hM => ?_, ?_⟩; (go_simp; exact ⟨rfl, rfl⟩); (exact overSides_lit W); (simp only [Act.put, List.setIfInBounds_toArray, List.set_cons_succ, List.set_cons_zero]); go_big_quiet_on) | (refine quiet_call ?_; apply Exists.intro; apply Exists.intro; apply Exists.intro; refine ⟨fun W => ?_, fun W hM => ?_, ?_⟩; (go_simp; exact ⟨rfl, rfl⟩); (exact south_any x y hx hy W); (simp only [Act.put, List.setIfInBounds_toArray, List.set_cons_succ, List.set_cons_zero]); go_big_quiet_on) | (refine quiet_val ?_; apply Exists.intro; refine ⟨fun W => ?_, ?_⟩; (go_simp; rfl); (simp only [Act.put, List.setIfInBounds_toArray, List.set_cons_succ, List.set_cons_zero]); go_big_quiet_on)))); (with_reducible refine wpQuiet_nil ?_); intro W' hM)
  go_wp2_with (first | (refine wpList_lay rfl _ _ _ rfl _ _ rfl _ _ rfl hM 0 rfl (by assumption) (rowTab _ _ rfl) (by omega) ?_ ?_; (first | (intro _ _; rfl) | (intro k _; exact h1 _) | (intro k _; simp only [lay, upd]; (repeat' split) <;> first | exact h1 _ | rfl)); intro W' hM'; clear hM; have hM := hM'; clear hM'; simp only [List.set] at hM))
  exact bodyPost_ret (results_at rfl _ rfl ((hM.ats 0 _ _ _ rfl).congr (lay_sp _ _ _)) (rowTab _ _ rfl)) rfl ⟨rfl, hM.below⟩
set_option maxRecDepth 100000 in
set_option maxHeartbeats 400000 in
theorem over_3 (x y : Int) (hx : 0 ≤ x ∧ x ≤ 9) (hy : 0 ≤ y ∧ y ≤ 9) (w : World) :
    Calls Tryd.prog 55 #[.agg (arr 2 (sp x y)), .int .i64 3] w fun e w' => e = .returned (.agg (arr 2 (sp (x - 1) (y)))) ∧ Below w.heap.size w w' := by
  have hM := Mem.nil w
  have tk_b1 : True := trivial; have tk_b2 : True := trivial
  go_enter Tryd.func55, Tryd.ntmps55
  go_wp2_with (first | (have _t := tk_b1; refine wpList_box rfl _ _ rfl _ _ rfl hM ?_; intro b1 W' hb1 hM'; clear hM tk_b1; have hM := hM'; clear hM') | (have _t := tk_b2; refine wpList_zero rfl _ rfl (zeroTab _ _ _ rfl) hM ?_; intro b2 W' hb2 hM'; clear hM tk_b2; have hM := hM'; clear hM'))
  ((try simp only [Act.put, List.setIfInBounds_toArray, List.set_cons_succ, List.set_cons_zero]); refine region_head_mem (m := 5) (by kernel_rfl) (by kernel_rfl) hM ?_; clear hM; simp only [List.take_succ_cons, List.take_zero, List.drop_succ_cons, List.drop_zero]; (repeat (first | go_big_quiet_skip | (go_big_quiet_want; first | (refine quiet_get _ _ rfl _ _ rfl 1 rfl (rowTab _ _ rfl) (by omega) ?_; (simp only [Act.put, List.setIfInBounds_toArray, List.set_cons_succ, List.set_cons_zero]); go_big_quiet_on) | (refine quiet_call ?_; apply Exists.intro; apply Exists.intro; apply Exists.intro; refine ⟨fun W => ?_, fun W hM => ?_, ?_⟩; (go_simp; exact ⟨rfl, rfl⟩); (exact overSides_lit W); (simp only [Act.put, List.setIfInBounds_toArray, List.set_cons_succ, List.set_cons_zero]); go_big_quiet_on) | (refine quiet_call ?_; apply Exists.intro; apply Exists.intro; apply Exists.intro; refine ⟨fun W => ?_, fun W hM => ?_, ?_⟩; (go_simp; exact ⟨rfl, rfl⟩); (exact west_any x y hx hy W); (simp only [Act.put, List.setIfInBounds_toArray, List.set_cons_succ, List.set_cons_zero]); go_big_quiet_on) | (refine quiet_val ?_; apply Exists.intro; refine ⟨fun W => ?_, ?_⟩; (go_simp; rfl); (simp only [Act.put, List.setIfInBounds_toArray, List.set_cons_succ, List.set_cons_zero]); go_big_quiet_on)))); (with_reducible refine wpQuiet_nil ?_); intro W' hM)
  go_wp2_with (first | (refine wpList_lay rfl _ _ _ rfl _ _ rfl _ _ rfl hM 0 rfl (by assumption) (rowTab _ _ rfl) (by omega) ?_ ?_; (first | (intro _ _; rfl) | (intro k _; exact h1 _) | (intro k _; simp only [lay, upd]; (repeat' split) <;> first | exact h1 _ | rfl)); intro W' hM'; clear hM; have hM := hM'; clear hM'; simp only [List.set] at hM))
  exact bodyPost_ret (results_at rfl _ rfl ((hM.ats 0 _ _ _ rfl).congr (lay_sp _ _ _)) (rowTab _ _ rfl)) rfl ⟨rfl, hM.below⟩
end Go.Proofs.YtofgkmoilncfpaaDoor

/-
  spec.l01Next by contracts.
-/
namespace Go.Proofs.YtofgkmoilncfpaaDoor
open Go Go.RowKit Go.BigFrame

set_option maxHeartbeats 400000 in
theorem l01Next_0 (x y : Int) (hx : 0 ≤ x ∧ x ≤ 9) (hy : 0 ≤ y ∧ y ≤ 9) (w : World) :
    Calls Tryd.prog 37 #[.agg (arr 2 (sp x y)), .int .i64 0] w fun e w' => e = .returned (.agg (arr 2 (sp (x) (y - 1)))) ∧ Below w.heap.size w w' := by
  have hM := Mem.nil w
  have e0 : sp x y 0 = .int .i8 x := rfl
  have e1 : sp x y 1 = .int .i8 y := rfl
  have c1 : IntKind.i8.wrap (y - 1) = y - 1 := IntWalk.i8_in _ (by omega)
  have tk_b1 : True := trivial; have tk_b2 : True := trivial
  go_enter Tryd.func37, Tryd.ntmps37
  go_wp2_with (first | (have _t := tk_b1; refine wpList_box rfl _ _ rfl _ _ rfl hM ?_; intro b1 W' hb1 hM'; clear hM tk_b1; have hM := hM'; clear hM') | (have _t := tk_b2; refine wpList_zero rfl _ rfl (zeroTab _ _ _ rfl) hM ?_; intro b2 W' hb2 hM'; clear hM tk_b2; have hM := hM'; clear hM') | (refine wpList_get1 rfl _ _ rfl _ _ rfl hM 1 rfl (cellTab _ rfl) (by omega) _ rfl ?_) | (refine wpList_set1 rfl _ _ _ rfl _ _ rfl _ rfl ?_ hM 1 rfl (by assumption) (cellTab _ rfl) (by omega) ?_; (first | rfl | exact h1 _); intro W' hM'; clear hM; have hM := hM'; clear hM'; simp [List.set, Act.eval] at hM) | (refine wpList_get rfl _ _ rfl _ _ rfl hM 1 rfl (rowTab _ _ rfl) (by omega) ?_) | (refine wpList_lay rfl _ _ _ rfl _ _ rfl _ _ rfl hM 0 rfl (by assumption) (rowTab _ _ rfl) (by omega) ?_ ?_; (first | (intro _ _; rfl) | (intro k _; exact h1 _) | (intro k _; simp only [lay, upd]; (repeat' split) <;> first | exact h1 _ | rfl)); intro W' hM'; clear hM; have hM := hM'; clear hM'; simp only [List.set] at hM))
  exact bodyPost_ret (results_at rfl _ rfl ((hM.ats 0 _ _ _ rfl).congr (g := sp (x) (y - 1)) (fun k hk => by
    rcases (show k = 0 ∨ k = 1 by omega) with rfl | rfl <;> simp [lay, upd, sp])) (rowTab _ _ rfl)) rfl ⟨rfl, hM.below⟩
set_option maxHeartbeats 400000 in
theorem l01Next_1 (x y : Int) (hx : 0 ≤ x ∧ x ≤ 9) (hy : 0 ≤ y ∧ y ≤ 9) (w : World) :
    Calls Tryd.prog 37 #[.agg (arr 2 (sp x y)), .int .i64 1] w fun e w' => e = .returned (.agg (arr 2 (sp (x + 1) (y)))) ∧ Below w.heap.size w w' := by
  have hM := Mem.nil w
  have e0 : sp x y 0 = .int .i8 x := rfl
  have e1 : sp x y 1 = .int .i8 y := rfl
  have c1 : IntKind.i8.wrap (x + 1) = x + 1 := IntWalk.i8_in _ (by omega)
  have tk_b1 : True := trivial; have tk_b2 : True := trivial
  go_enter Tryd.func37, Tryd.ntmps37
  go_wp2_with (first | (have _t := tk_b1; refine wpList_box rfl _ _ rfl _ _ rfl hM ?_; intro b1 W' hb1 hM'; clear hM tk_b1; have hM := hM'; clear hM') | (have _t := tk_b2; refine wpList_zero rfl _ rfl (zeroTab _ _ _ rfl) hM ?_; intro b2 W' hb2 hM'; clear hM tk_b2; have hM := hM'; clear hM') | (refine wpList_get1 rfl _ _ rfl _ _ rfl hM 1 rfl (cellTab _ rfl) (by omega) _ rfl ?_) | (refine wpList_set1 rfl _ _ _ rfl _ _ rfl _ rfl ?_ hM 1 rfl (by assumption) (cellTab _ rfl) (by omega) ?_; (first | rfl | exact h1 _); intro W' hM'; clear hM; have hM := hM'; clear hM'; simp [List.set, Act.eval] at hM) | (refine wpList_get rfl _ _ rfl _ _ rfl hM 1 rfl (rowTab _ _ rfl) (by omega) ?_) | (refine wpList_lay rfl _ _ _ rfl _ _ rfl _ _ rfl hM 0 rfl (by assumption) (rowTab _ _ rfl) (by omega) ?_ ?_; (first | (intro _ _; rfl) | (intro k _; exact h1 _) | (intro k _; simp only [lay, upd]; (repeat' split) <;> first | exact h1 _ | rfl)); intro W' hM'; clear hM; have hM := hM'; clear hM'; simp only [List.set] at hM))
  exact bodyPost_ret (results_at rfl _ rfl ((hM.ats 0 _ _ _ rfl).congr (g := sp (x + 1) (y)) (fun k hk => by
    rcases (show k = 0 ∨ k = 1 by omega) with rfl | rfl <;> simp [lay, upd, sp])) (rowTab _ _ rfl)) rfl ⟨rfl, hM.below⟩
set_option maxHeartbeats 400000 in
theorem l01Next_2 (x y : Int) (hx : 0 ≤ x ∧ x ≤ 9) (hy : 0 ≤ y ∧ y ≤ 9) (w : World) :
    Calls Tryd.prog 37 #[.agg (arr 2 (sp x y)), .int .i64 2] w fun e w' => e = .returned (.agg (arr 2 (sp (x) (y + 1)))) ∧ Below w.heap.size w w' := by
  have hM := Mem.nil w
  have e0 : sp x y 0 = .int .i8 x := rfl
  have e1 : sp x y 1 = .int .i8 y := rfl
  have c1 : IntKind.i8.wrap (y + 1) = y + 1 := IntWalk.i8_in _ (by omega)
  have tk_b1 : True := trivial; have tk_b2 : True := trivial
  go_enter Tryd.func37, Tryd.ntmps37
  go_wp2_with (first | (have _t := tk_b1; refine wpList_box rfl _ _ rfl _ _ rfl hM ?_; intro b1 W' hb1 hM'; clear hM tk_b1; have hM := hM'; clear hM') | (have _t := tk_b2; refine wpList_zero rfl _ rfl (zeroTab _ _ _ rfl) hM ?_; intro b2 W' hb2 hM'; clear hM tk_b2; have hM := hM'; clear hM') | (refine wpList_get1 rfl _ _ rfl _ _ rfl hM 1 rfl (cellTab _ rfl) (by omega) _ rfl ?_) | (refine wpList_set1 rfl _ _ _ rfl _ _ rfl _ rfl ?_ hM 1 rfl (by assumption) (cellTab _ rfl) (by omega) ?_; (first | rfl | exact h1 _); intro W' hM'; clear hM; have hM := hM'; clear hM'; simp [List.set, Act.eval] at hM) | (refine wpList_get rfl _ _ rfl _ _ rfl hM 1 rfl (rowTab _ _ rfl) (by omega) ?_) | (refine wpList_lay rfl _ _ _ rfl _ _ rfl _ _ rfl hM 0 rfl (by assumption) (rowTab _ _ rfl) (by omega) ?_ ?_; (first | (intro _ _; rfl) | (intro k _; exact h1 _) | (intro k _; simp only [lay, upd]; (repeat' split) <;> first | exact h1 _ | rfl)); intro W' hM'; clear hM; have hM := hM'; clear hM'; simp only [List.set] at hM))
  exact bodyPost_ret (results_at rfl _ rfl ((hM.ats 0 _ _ _ rfl).congr (g := sp (x) (y + 1)) (fun k hk => by
    rcases (show k = 0 ∨ k = 1 by omega) with rfl | rfl <;> simp [lay, upd, sp])) (rowTab _ _ rfl)) rfl ⟨rfl, hM.below⟩
set_option maxHeartbeats 400000 in
theorem l01Next_3 (x y : Int) (hx : 0 ≤ x ∧ x ≤ 9) (hy : 0 ≤ y ∧ y ≤ 9) (w : World) :
    Calls Tryd.prog 37 #[.agg (arr 2 (sp x y)), .int .i64 3] w fun e w' => e = .returned (.agg (arr 2 (sp (x - 1) (y)))) ∧ Below w.heap.size w w' := by
  have hM := Mem.nil w
  have e0 : sp x y 0 = .int .i8 x := rfl
  have e1 : sp x y 1 = .int .i8 y := rfl
  have c1 : IntKind.i8.wrap (x - 1) = x - 1 := IntWalk.i8_in _ (by omega)
  have tk_b1 : True := trivial; have tk_b2 : True := trivial
  go_enter Tryd.func37, Tryd.ntmps37
  go_wp2_with (first | (have _t := tk_b1; refine wpList_box rfl _ _ rfl _ _ rfl hM ?_; intro b1 W' hb1 hM'; clear hM tk_b1; have hM := hM'; clear hM') | (have _t := tk_b2; refine wpList_zero rfl _ rfl (zeroTab _ _ _ rfl) hM ?_; intro b2 W' hb2 hM'; clear hM tk_b2; have hM := hM'; clear hM') | (refine wpList_get1 rfl _ _ rfl _ _ rfl hM 1 rfl (cellTab _ rfl) (by omega) _ rfl ?_) | (refine wpList_set1 rfl _ _ _ rfl _ _ rfl _ rfl ?_ hM 1 rfl (by assumption) (cellTab _ rfl) (by omega) ?_; (first | rfl | exact h1 _); intro W' hM'; clear hM; have hM := hM'; clear hM'; simp [List.set, Act.eval] at hM) | (refine wpList_get rfl _ _ rfl _ _ rfl hM 1 rfl (rowTab _ _ rfl) (by omega) ?_) | (refine wpList_lay rfl _ _ _ rfl _ _ rfl _ _ rfl hM 0 rfl (by assumption) (rowTab _ _ rfl) (by omega) ?_ ?_; (first | (intro _ _; rfl) | (intro k _; exact h1 _) | (intro k _; simp only [lay, upd]; (repeat' split) <;> first | exact h1 _ | rfl)); intro W' hM'; clear hM; have hM := hM'; clear hM'; simp only [List.set] at hM))
  exact bodyPost_ret (results_at rfl _ rfl ((hM.ats 0 _ _ _ rfl).congr (g := sp (x - 1) (y)) (fun k hk => by
    rcases (show k = 0 ∨ k = 1 by omega) with rfl | rfl <;> simp [lay, upd, sp])) (rowTab _ _ rfl)) rfl ⟨rfl, hM.below⟩

theorem l01Next_0' (x y : Int) (hx : 0 ≤ x ∧ x ≤ 9) (hy : 0 ≤ y ∧ y ≤ 8) (w : World) :
    Calls Tryd.prog 37 #[.agg (arr 2 (sp x (y + 1))), .int .i64 0] w fun e w' => e = .returned (.agg (arr 2 (sp x y))) ∧ Below w.heap.size w w' := by
  have := l01Next_0 x (y + 1) hx (by omega) w
  rwa [show y + 1 - 1 = y by omega] at this
theorem l01Next_3' (x y : Int) (hx : 0 ≤ x ∧ x ≤ 8) (hy : 0 ≤ y ∧ y ≤ 9) (w : World) :
    Calls Tryd.prog 37 #[.agg (arr 2 (sp (x + 1) y)), .int .i64 3] w fun e w' => e = .returned (.agg (arr 2 (sp x y))) ∧ Below w.heap.size w w' := by
  have := l01Next_3 (x + 1) y (by omega) hy w
  rwa [show x + 1 - 1 = x by omega] at this

end Go.Proofs.YtofgkmoilncfpaaDoor

