/-
  Several texts in one: Range, Conv, Valid, ValidB, HasCell, Check, Asked, SumB.
-/
import Derived.Test.YtjfmhnbbdkejeaaDoorP5
import Derived.Laws.ResultCell
import Derived.Test.YtjfmhnbbdkejeaaDoorP1
import Derived.WalkKit
import Derived.OwnWalk
import Derived.BigQuiet
import Derived.Lib.Hide
import Derived.Test.YtjfmhnbbdkejeaaDoorP2
import Derived.Test.YtjfmhnbbdkejeaaDoorP3
/-
  A range over an iterator of spots, none of whose rounds breaks off; the function's end behind it.
-/
namespace Go.Proofs.YtjfmhnbbdkejeaaDoor
open Go Go.RowKit Go.Shelf Go.BigFrame

/-- How a round ends: on, with the spot's block ahead of the others. -/
def roundPost (b : Base) (L : Blocks) : Exit → Act → World → Prop
  | .normal, _, X' => Mem b L X'
  | _, _, _ => False

theorem range_spots {α : Type} {px py : α → Int} {g : Operand} {p q : Tmp} {id : Nat} {o1 o2 : Oper} {body : Code} {Q : Exit → Act → World → Prop} {a : Act} {w W1 : World} {ks : List Nat} (L : List α → Blocks)
    {gf : Nat} {lb : Array Value} {Kp : World → World → Prop} {S Sp : List α → Prop} {N : Nat}
    (hg : a.eval g = .func (.func gf) #[] lb) (eg : ∀ args w, (callFunc gf args).run Tryd.prog w = .ok (.enter gf args) w)
    (hseq : SeqStopsK Fence.wide 2 Tryd.prog gf lb (fun x => #[.agg (arr 2 (sp (px x) (py x)))]) Kp S Sp N W1) (hKt : ∀ {A B C : World}, Kp A B → Kp B C → Kp A C) (hKb : ∀ (W : World) (l : Nat) (o o' : Obj), W.heap[l]? = some o → o.isCells = false → Kp W (W.putObj l o'))
    (hks : ∀ pre, (L pre).map (·.1) = ks) (hkp : ∀ (b : Base) pre pre' X X' p, Mem b (L pre) X → Mem b (p :: L pre') X' → Kp X X')
    (h1 : o1.op = .alloc 34) (h1g : o1.guard = none) (h1d : o1.dst = some q) (h2 : o2.op = .store 34 (.tmp q) (.tmp p)) (h2g : o2.guard = none) (h2d : o2.dst = none) (hpq : p ≠ q) (hp : p < a.tmps.size) (hq : q < a.tmps.size)
    (hM : Mem w (L []) W1)
    (hbody : ∀ (l : Nat) (pre : List α) (x : α) (bx : Nat) (X : World), w.heap.size ≤ bx → Mem (Base.round w W1.heap.size X) ((bx, 2, sp (px x) (py x)) :: L pre) X → pre.length < N →
      body.wpIn (Fence.wide.inRound l) 1 Tryd.prog (roundPost (Base.round w W1.heap.size X) ((bx, 2, sp (px x) (py x)) :: L (pre ++ [x]))) { tmps := (a.tmps.setIfInBounds p (.agg (arr 2 (sp (px x) (py x))))).setIfInBounds q (.pointer (some ⟨bx, 0, none⟩)), defers := [] } X)
    (hdone : ∀ (D : Nat) (xs : List α) (X : World), W1.heap.size ≤ D → S xs → Mem w (L xs) X → X.heap[D]? = some (.deferred (some [])) → Q .normal { a with defers := { target := .collected D, args := #[] } :: a.defers } X) :
    (Code.rangeFunc g #[p] (.region id [o1, o2].toArray false) body).wpIn Fence.wide 3 Tryd.prog Q a W1 := by
  have hsz : w.heap.size ≤ W1.heap.size := hM.size
  refine wpIn_rangeFunc_ownH (F := Fence.wide) (n := 3) rfl (by omega) (gf := gf) (lb := lb) hg trivial eg hseq hKt (fun X l o o' _ h ho _ => hKb X l o o' h ho) (Below.refl _ _) (fun _ => rfl)
    (fun pre X => Mem w (L pre) X) (fun _ _ _ => False) (mem_ownFrom hsz L) (fun _ _ X Y row hs _ _ => hs.elim) hM
    (fun x a' X => ∃ bx, w.heap.size ≤ bx ∧ bx ∉ ks ∧ At X bx 2 (sp (px x) (py x)) ∧ a' = { tmps := (a.tmps.setIfInBounds p (.agg (arr 2 (sp (px x) (py x))))).setIfInBounds q (.pointer (some ⟨bx, 0, none⟩)), defers := [] })
    (fun x a' _ X Y row hs hgr hr => ?own) ?assign ?body ?done ?stop
  case own =>
    obtain ⟨bx, h1, h2, h3, h4⟩ := hs
    exact ⟨bx, h1, h2, h3.grown hgr (fun r e => (hr r e).2), h4⟩
  case assign =>
    intro l pre x X K hI hK
    have hM' : Mem (Base.round w W1.heap.size X) (L pre) X := hI.base ⟨hI.below, KeepsFrom.refl _ _⟩
    refine region_round (fun ⟨_, _, h⟩ => h) (by simp [noDefer, h1, h2]) ?_
    refine wpList_zero h1g _ h1 (zeroTab _ 2 (fun _ => .int .i8 0) rfl) hM' ?_
    intro bx X2 hbx hM2
    have ez : (#[p].zip #[Value.agg (arr 2 (sp (px x) (py x)))]).foldl (fun t (y : Tmp × Value) => t.setIfInBounds y.1 y.2) a.tmps = a.tmps.setIfInBounds p (.agg (arr 2 (sp (px x) (py x)))) := by simp
    rw [h1d]
    refine wpList_lay h2g _ _ _ h2 bx 0 ?_ 2 (sp (px x) (py x)) ?_ hM2 0 rfl hbx (rowTab _ _ rfl) (by omega) (fun _ _ => rfl) ?_
    · simp [Act.eval, Act.put, Array.getElem?_setIfInBounds, hq]
    · simp [Act.eval, Act.put, Array.getElem?_setIfInBounds, hp, Ne.symm hpq]
    · intro X3 hM3
      have hM3' := hM3.re 0 rfl (sp (px x) (py x)) (fun k hk => by simp [lay, hk])
      simp only [List.set_cons_zero] at hM3'
      rw [h2d]
      show K _ _
      refine hK _ _ hM3'.good.2 ?_ (hM3'.drop.base hM3'.good.1) ?_
      · exact hkp _ pre pre X X3 _ hM' hM3'
      · refine ⟨bx, hbx, fun hm => ?_, hM3'.at0, ?_⟩
        · rw [← hks pre] at hm
          obtain ⟨y, hy, e⟩ := List.mem_map.1 hm
          obtain ⟨i, hi⟩ := List.getElem?_of_mem hy
          exact hM3'.apart 0 (i + 1) _ y rfl (by simpa using hi) (by omega) e.symm
        · simp [Act.put]
  case body =>
    intro l pre x a' X hl hr hI hAx hlen
    obtain ⟨bx, hb, hn, hA, rfl⟩ := hAx
    have hM' : Mem (Base.round w W1.heap.size X) (L pre) X := hI.base ⟨hI.below, KeepsFrom.refl _ _⟩
    have hM2 : Mem (Base.round w W1.heap.size X) ((bx, 2, sp (px x) (py x)) :: L pre) X :=
      ⟨hM'.good, fun i b n f h => by
        cases i with
        | zero => simp at h; obtain ⟨rfl, rfl, rfl⟩ := h; exact hA
        | succ i => exact hM'.ats i b n f (by simpa using h),
       fun i j y z hi hj hne => by
        have off : ∀ (i : Nat) (y : Nat × Nat × (Nat → Value)), (L pre)[i]? = some y → y.1 ≠ bx := fun i y h e => hn (by
          rw [← hks pre, ← e]; exact List.mem_map_of_mem (List.mem_of_getElem? h))
        cases i with
        | zero =>
          cases j with
          | zero => exact absurd rfl hne
          | succ j => simp at hi hj; rw [← hi]; exact fun e => off j z hj e.symm
        | succ i =>
          cases j with
          | zero => simp at hi hj; rw [← hj]; exact off i y hi
          | succ j => exact hM'.apart i j y z (by simpa using hi) (by simpa using hj) (by omega)⟩
    refine Code.wpIn_mono (fun e a'' X' h => ?_) (hbody l pre x bx X hb hM2 hlen)
    cases e <;> first | exact (h : False).elim | skip
    have h' : Mem (Base.round w W1.heap.size X) ((bx, 2, sp (px x) (py x)) :: L (pre ++ [x])) X' := h
    exact ⟨h'.good.2, hkp _ pre (pre ++ [x]) X X' _ hM' h', h'.drop.base h'.good.1⟩
  case done =>
    intro D xs X hD hS hI hK
    exact hdone D xs X hD hS hI hK
  case stop =>
    intro D c pre X hD hS hI hK
    exact hI.elim

/-- The function's end behind such a loop. -/
theorem leave_marks {fn : Func} {tmps : Array Value} {R : Ending → World → Prop} {D : Nat} {X : World} (hK : X.heap[D]? = some (.deferred (some []))) (v : Value)
    (hr : (results fn tmps).run Tryd.prog (X.putObj D (.deferred none)) = .ok v (X.putObj D (.deferred none))) (hR : R (.returned v) (X.putObj D (.deferred none))) :
    LeavesInM Fence.wide 3 Tryd.prog fn tmps R [{ target := .collected D, args := #[] }] .returning X :=
  ⟨by simp, .inl ⟨_, _, rfl, run_takeDeferred hK, v, hr, hR⟩⟩
theorem below_mark {w X : World} {D : Nat} (hb : Below w.heap.size w X) (hD : w.heap.size ≤ D) : Below w.heap.size w (X.putObj D (.deferred none)) :=
  Below.grown hb (grownBy_putObj' X D _) hb.size (fun k e => by cases e; exact hD)
theorem at_mark {X : World} {D b n : Nat} {f : Nat → Value} (h : At X b n f) (hK : X.heap[D]? = some (.deferred (some []))) : At (X.putObj D (.deferred none)) b n f :=
  h.grown (grownBy_putObj' X D _) (fun r e => by cases e; exact ⟨_, hK, rfl⟩)

/-- A round's region that reads and calls first, and then follows the text. -/
theorem region_round_head {P : Program} {Q : Exit → Act → World → Prop} {a : Act} {W : World} {l n id : Nat} {r : List Oper} {w : Base} {L : Blocks} (m : Nat) (hL : ¬ LetsOut Q) (hd : r.all noDefer = true) (hm : P.follows .mixedOrders = true) (hB : Region.lexTailB .any r.toArray m = true) (hM : Mem w L W)
    (h : wpQuiet P r.toArray (Mem w L) (fun a' => ∀ W', Mem w L W' → wpList P r.toArray Q (r.drop m) a' W') (r.take m) a) : (Code.region id r.toArray true).wpIn (Fence.wide.inRound l) n P Q a W :=
  wpIn_region_any hm (any_round hL (by simpa using hd) _ _ _ _ (any_head (C := Mem w L) m hB hM.drew h))
/-- A block of a call that lets lie all that lay, beside those that are known. -/
theorem Mem.fresh {b0 : Base} {L : Blocks} {X X' : World} {b n : Nat} {f : Nat → Value} (hM : Mem b0 L X) (hb : Below X.heap.size X X') (ha : At X' b n f) (hge : X.heap.size ≤ b) : Mem b0 (L ++ [(b, n, f)]) X' :=
  (hM.call hb).old ha (fun i p h e => by
    have := (hM.ats i p.1 p.2.1 p.2.2 h).lt
    omega)
end Go.Proofs.YtjfmhnbbdkejeaaDoor

/-
  laws.toInt16A10, toInt16A10A10, toUint16A10, toPasture: each hands back what it is handed.
-/
namespace Go.Proofs.YtjfmhnbbdkejeaaDoor
open Go Go.RowKit Go.BigFrame

set_option maxHeartbeats 400000 in
theorem toInt16A10_any (f : Nat → Value) (h1 : ∀ k, (f k).oneCell' = true) (w : World) :
    Calls Tryd.prog 87 #[.agg (arr 10 f)] w fun e w' => e = .returned (.agg (arr 10 f)) ∧ Below w.heap.size w w' := by
  have hM := Mem.nil w
  have tk_b1 : True := trivial; have tk_b2 : True := trivial; have tk_b3 : True := trivial
  go_enter Tryd.func87, Tryd.ntmps87
  go_wp2_with (first | (have _t := tk_b1; refine wpList_box rfl _ _ rfl _ _ rfl hM ?_; intro b1 W' hb1 hM'; clear hM tk_b1; have hM := hM'; clear hM') | (have _t := tk_b2; refine wpList_zero rfl _ rfl (zeroTab _ _ _ rfl) hM ?_; intro b2 W' hb2 hM'; clear hM tk_b2; have hM := hM'; clear hM') | (have _t := tk_b3; refine wpList_zero rfl _ rfl (zeroTab _ _ _ rfl) hM ?_; intro b3 W' hb3 hM'; clear hM tk_b3; have hM := hM'; clear hM'))
  go_loopw [4] (fun i wr => ∃ k : Nat, k ≤ 10 ∧ i = .int .i64 k ∧ ∃ g, (∀ j, j < k → g j = f j) ∧ Mem w [(b3, 10, g), (b2, 10, fun _ => .int .i16 0), (b1, 10, f)] wr) (fun i _ => 10 - (intOf i).toNat)
  case atStart => exact ⟨0, by omega, rfl, _, fun j hj => absurd hj (by omega), hM⟩
  case round =>
    obtain ⟨k, hk, rfl, g, hg, hM⟩ := hrel
    by_cases hlt : k < 10
    · go_wp2_with (first | (refine wpList_get1 rfl _ _ rfl _ _ rfl hM 2 rfl (cellTab _ rfl) (by omega) _ rfl ?_) | (refine wpList_set1 rfl _ _ _ rfl _ _ rfl _ rfl ?_ hM 0 rfl (by assumption) (cellTab _ rfl) (by omega) ?_; (first | rfl | exact h1 _); intro W' hM'; clear hM; have hM := hM'; clear hM'; simp [List.set, Act.eval] at hM))
      go_roundw
      case rel => exact ⟨k + 1, by omega, by go_num, _, fun j hj => by
        by_cases e : j = k
        · subst e; simp [upd]
        · simp [upd, e, hg j (by omega)], hM⟩
      case measure => simp [intOf]; omega
    · obtain rfl : k = 10 := by omega
      have hM := hM.re 0 rfl f hg
      clear hg
      simp only [List.set] at hM
      go_wp2_with (first | (refine wpList_get rfl _ _ rfl _ _ rfl hM 0 rfl (rowTab _ _ rfl) (by omega) ?_) | (refine wpList_lay rfl _ _ _ rfl _ _ rfl _ _ rfl hM 1 rfl (by assumption) (rowTab _ _ rfl) (by omega) ?_ ?_; (first | (intro _ _; rfl) | (intro k _; exact h1 _) | (intro k _; simp only [lay, upd]; (repeat' split) <;> first | exact h1 _ | rfl)); intro W' hM'; clear hM; have hM := hM'; clear hM'; simp only [List.set] at hM))
      have hA := (hM.ats 1 _ _ _ rfl).congr (g := f) (fun k hk => by simp [lay, hk])
      exact bodyPost_ret (results_at rfl _ rfl hA (rowTab _ _ rfl)) rfl ⟨rfl, hM.below⟩
set_option maxHeartbeats 400000 in
theorem toUint16A10_any (f : Nat → Value) (h1 : ∀ k, (f k).oneCell' = true) (w : World) :
    Calls Tryd.prog 48 #[.agg (arr 10 f)] w fun e w' => e = .returned (.agg (arr 10 f)) ∧ Below w.heap.size w w' := by
  have hM := Mem.nil w
  have tk_b1 : True := trivial; have tk_b2 : True := trivial; have tk_b3 : True := trivial
  go_enter Tryd.func48, Tryd.ntmps48
  go_wp2_with (first | (have _t := tk_b1; refine wpList_box rfl _ _ rfl _ _ rfl hM ?_; intro b1 W' hb1 hM'; clear hM tk_b1; have hM := hM'; clear hM') | (have _t := tk_b2; refine wpList_zero rfl _ rfl (zeroTab _ _ _ rfl) hM ?_; intro b2 W' hb2 hM'; clear hM tk_b2; have hM := hM'; clear hM') | (have _t := tk_b3; refine wpList_zero rfl _ rfl (zeroTab _ _ _ rfl) hM ?_; intro b3 W' hb3 hM'; clear hM tk_b3; have hM := hM'; clear hM'))
  go_loopw [4] (fun i wr => ∃ k : Nat, k ≤ 10 ∧ i = .int .i64 k ∧ ∃ g, (∀ j, j < k → g j = f j) ∧ Mem w [(b3, 10, g), (b2, 10, fun _ => .int .u16 0), (b1, 10, f)] wr) (fun i _ => 10 - (intOf i).toNat)
  case atStart => exact ⟨0, by omega, rfl, _, fun j hj => absurd hj (by omega), hM⟩
  case round =>
    obtain ⟨k, hk, rfl, g, hg, hM⟩ := hrel
    by_cases hlt : k < 10
    · go_wp2_with (first | (refine wpList_get1 rfl _ _ rfl _ _ rfl hM 2 rfl (cellTab _ rfl) (by omega) _ rfl ?_) | (refine wpList_set1 rfl _ _ _ rfl _ _ rfl _ rfl ?_ hM 0 rfl (by assumption) (cellTab _ rfl) (by omega) ?_; (first | rfl | exact h1 _); intro W' hM'; clear hM; have hM := hM'; clear hM'; simp [List.set, Act.eval] at hM))
      go_roundw
      case rel => exact ⟨k + 1, by omega, by go_num, _, fun j hj => by
        by_cases e : j = k
        · subst e; simp [upd]
        · simp [upd, e, hg j (by omega)], hM⟩
      case measure => simp [intOf]; omega
    · obtain rfl : k = 10 := by omega
      have hM := hM.re 0 rfl f hg
      clear hg
      simp only [List.set] at hM
      go_wp2_with (first | (refine wpList_get rfl _ _ rfl _ _ rfl hM 0 rfl (rowTab _ _ rfl) (by omega) ?_) | (refine wpList_lay rfl _ _ _ rfl _ _ rfl _ _ rfl hM 1 rfl (by assumption) (rowTab _ _ rfl) (by omega) ?_ ?_; (first | (intro _ _; rfl) | (intro k _; exact h1 _) | (intro k _; simp only [lay, upd]; (repeat' split) <;> first | exact h1 _ | rfl)); intro W' hM'; clear hM; have hM := hM'; clear hM'; simp only [List.set] at hM))
      have hA := (hM.ats 1 _ _ _ rfl).congr (g := f) (fun k hk => by simp [lay, hk])
      exact bodyPost_ret (results_at rfl _ rfl hA (rowTab _ _ rfl)) rfl ⟨rfl, hM.below⟩
set_option maxHeartbeats 400000 in
theorem toInt16A10A10_any (f : Nat → Value) (h1 : ∀ k, (f k).oneCell' = true) (w : World) :
    Calls Tryd.prog 47 #[.agg (arr 100 f)] w fun e w' => e = .returned (.agg (arr 100 f)) ∧ Below w.heap.size w w' := by
  have hM := Mem.nil w
  have tk_b1 : True := trivial; have tk_b2 : True := trivial; have tk_b3 : True := trivial
  go_enter Tryd.func47, Tryd.ntmps47
  go_wp2_with (first | (have _t := tk_b1; refine wpList_box rfl _ _ rfl _ _ rfl hM ?_; intro b1 W' hb1 hM'; clear hM tk_b1; have hM := hM'; clear hM') | (have _t := tk_b2; refine wpList_zero rfl _ rfl (zeroTab _ _ _ rfl) hM ?_; intro b2 W' hb2 hM'; clear hM tk_b2; have hM := hM'; clear hM') | (have _t := tk_b3; refine wpList_zero rfl _ rfl (zeroTab _ _ _ rfl) hM ?_; intro b3 W' hb3 hM'; clear hM tk_b3; have hM := hM'; clear hM'))
  go_loopw [4] (fun i wr => ∃ k : Nat, k ≤ 10 ∧ i = .int .i64 k ∧ ∃ g, (∀ j, j < k * 10 → g j = f j) ∧ Mem w [(b3, 100, g), (b2, 100, fun _ => .int .i16 0), (b1, 100, f)] wr) (fun i _ => 10 - (intOf i).toNat)
  case atStart => exact ⟨0, by omega, rfl, _, fun j hj => absurd hj (by omega), hM⟩
  case round =>
    obtain ⟨k, hk, rfl, g, hg, hM⟩ := hrel
    by_cases hlt : k < 10
    · go_wp2_with (first | (refine wpList_get rfl _ _ rfl _ _ rfl hM 2 rfl (rowTab _ _ rfl) (by omega) ?_) | (go_at_call 87; refine (toInt16A10_any _ (fun _ => h1 _) _).mono ?_; rintro e W' ⟨rfl, hb'⟩; have hM' := hM.call hb'; clear hM hb'; have hM := hM'; clear hM') | (refine wpList_lay rfl _ _ _ rfl _ _ rfl _ _ rfl hM 0 rfl (by assumption) (rowTab _ _ rfl) (by omega) ?_ ?_; (first | (intro _ _; rfl) | (intro k _; exact h1 _) | (intro k _; simp only [lay, upd]; (repeat' split) <;> first | exact h1 _ | rfl)); intro W' hM'; clear hM; have hM := hM'; clear hM'; simp only [List.set] at hM))
      go_roundw
      case rel => exact ⟨k + 1, by omega, by go_num, _, fun j hj => by
        by_cases e : k * 10 ≤ j
        · have : j - k * 10 < 10 := by omega
          have e2 : k * 10 + (j - k * 10) = j := by omega
          have e3 : j < k * 10 + 10 := by omega
          simp [lay, e, e2, e3]
        · simp [lay, e, hg j (by omega)], hM⟩
      case measure => simp [intOf]; omega
    · obtain rfl : k = 10 := by omega
      have hM := hM.re 0 rfl f hg
      clear hg
      simp only [List.set] at hM
      go_wp2_with (first | (refine wpList_get rfl _ _ rfl _ _ rfl hM 0 rfl (rowTab _ _ rfl) (by omega) ?_) | (refine wpList_lay rfl _ _ _ rfl _ _ rfl _ _ rfl hM 1 rfl (by assumption) (rowTab _ _ rfl) (by omega) ?_ ?_; (first | (intro _ _; rfl) | (intro k _; exact h1 _) | (intro k _; simp only [lay, upd]; (repeat' split) <;> first | exact h1 _ | rfl)); intro W' hM'; clear hM; have hM := hM'; clear hM'; simp only [List.set] at hM))
      have hA := (hM.ats 1 _ _ _ rfl).congr (g := f) (fun k hk => by simp [lay, hk])
      exact bodyPost_ret (results_at rfl _ rfl hA (rowTab _ _ rfl)) rfl ⟨rfl, hM.below⟩
set_option maxHeartbeats 400000 in
theorem toPasture_any (f : Nat → Value) (h1 : ∀ k, (f k).oneCell' = true) (w : World) :
    Calls Tryd.prog 14 #[.agg (arr 122 f)] w fun e w' => e = .returned (.agg (arr 122 f)) ∧ Below w.heap.size w w' := by
  have hM := Mem.nil w
  have tk_b1 : True := trivial; have tk_b2 : True := trivial; have tk_b3 : True := trivial
  go_enter Tryd.func14, Tryd.ntmps14
  go_wp2_with (first | (have _t := tk_b1; refine wpList_box rfl _ _ rfl _ _ rfl hM ?_; intro b1 W' hb1 hM'; clear hM tk_b1; have hM := hM'; clear hM') | (have _t := tk_b2; refine wpList_zero rfl _ rfl (zeroTab _ _ _ rfl) hM ?_; intro b2 W' hb2 hM'; clear hM tk_b2; have hM := hM'; clear hM') | (have _t := tk_b3; refine wpList_zero rfl _ rfl (zeroTab _ _ _ rfl) hM ?_; intro b3 W' hb3 hM'; clear hM tk_b3; have hM := hM'; clear hM') | (refine wpList_get1 rfl _ _ rfl _ _ rfl hM 2 rfl (cellTab _ rfl) (by omega) _ rfl ?_) | (refine wpList_set1 rfl _ _ _ rfl _ _ rfl _ rfl ?_ hM 0 rfl (by assumption) (cellTab _ rfl) (by omega) ?_; (first | rfl | exact h1 _); intro W' hM'; clear hM; have hM := hM'; clear hM'; simp [List.set, Act.eval] at hM) | (refine wpList_get rfl _ _ rfl _ _ rfl hM 2 rfl (rowTab _ _ rfl) (by omega) ?_) | (go_at_call 47; refine (toInt16A10A10_any _ (fun _ => h1 _) _).mono ?_; rintro e W' ⟨rfl, hb'⟩; have hM' := hM.call hb'; clear hM hb'; have hM := hM'; clear hM') | (go_at_call 48; refine (toUint16A10_any _ (fun _ => h1 _) _).mono ?_; rintro e W' ⟨rfl, hb'⟩; have hM' := hM.call hb'; clear hM hb'; have hM := hM'; clear hM') | (refine wpList_lay rfl _ _ _ rfl _ _ rfl _ _ rfl hM 0 rfl (by assumption) (rowTab _ _ rfl) (by omega) ?_ ?_; (first | (intro _ _; rfl) | (intro k _; exact h1 _) | (intro k _; simp only [lay, upd]; (repeat' split) <;> first | exact h1 _ | rfl)); intro W' hM'; clear hM; have hM := hM'; clear hM'; simp only [List.set] at hM) | (refine wpList_get rfl _ _ rfl _ _ rfl hM 0 rfl (rowTab _ _ rfl) (by omega) ?_) | (refine wpList_lay rfl _ _ _ rfl _ _ rfl _ _ rfl hM 1 rfl (by assumption) (rowTab _ _ rfl) (by omega) ?_ ?_; (first | (intro _ _; rfl) | (intro k _; exact h1 _) | (intro k _; simp only [lay, upd]; (repeat' split) <;> first | exact h1 _ | rfl)); intro W' hM'; clear hM; have hM := hM'; clear hM'; simp only [List.set] at hM))
  have hA := (hM.ats 1 _ _ _ rfl).congr (g := f) (fun k hk => by
    simp only [lay, upd]
    (repeat' split) <;> first | (congr 1; omega) | (exfalso; omega))
  exact bodyPost_ret (results_at rfl _ rfl hA (rowTab _ _ rfl)) rfl ⟨rfl, hM.below⟩
theorem toPasture_pas (g : Nat → Int) (w : World) :
    Calls Tryd.prog 14 #[.agg (arr 122 (pas g))] w fun e w' => e = .returned (.agg (arr 122 (pas g))) ∧ Below w.heap.size w w' := toPasture_any _ (fun _ => rfl) w
end Go.Proofs.YtjfmhnbbdkejeaaDoor

/-
  impl.ValidPasture by contract.
-/
namespace Go.Proofs.YtjfmhnbbdkejeaaDoor
open Go Go.RowKit Go.BigFrame

/-- Is a pasture valid, as impl asks it? -/
def validB (g : Nat → Int) : Bool := inB 1 10 (g 0) && inB 1 10 (g 1) && (grassB g (g 0).toNat (g 1).toNat && hurB g)

set_option maxRecDepth 100000 in
set_option maxHeartbeats 2000000 in
theorem implValid_any (g : Nat → Int) (hg : Fits g) (w : World) :
    Calls Tryd.prog 93 #[.agg (arr 122 (pas g))] w fun e w' => e = .returned (.bool (validB g)) ∧ Below w.heap.size w w' := by
  have hM := Mem.nil w
  have e0 : pas g 0 = .int .i8 (g 0) := rfl
  have e1 : pas g 1 = .int .i8 (g 1) := rfl
  have hw := hg.w
  have hh := hg.h
  have tk_b1 : True := trivial
  rcases (show g 0 < 1 ∨ (¬ g 0 < 1 ∧ 10 < g 0) ∨ (¬ g 0 < 1 ∧ ¬ 10 < g 0) by omega) with r0 | ⟨r0, r1⟩ | ⟨r0, r1⟩
  · have hf : Hid (validB g = false) := Lib.hid (by simp [validB, inB_no (show ¬ (1 ≤ g 0 ∧ g 0 ≤ 10) by omega)])
    have d0 : decide (g 0 < 1) = true := decide_eq_true r0
    go_enter Tryd.func93, Tryd.ntmps93
    go_wp2_with (first | (have _t := tk_b1; refine wpList_box rfl _ _ rfl _ _ rfl hM ?_; intro b1 W' hb1 hM'; clear hM tk_b1; have hM := hM'; clear hM') | (refine wpList_get1 rfl _ _ rfl _ _ rfl hM 0 rfl (cellTab _ rfl) (by omega) _ rfl ?_) | (refine wpList_gget1 ?_ _ _ rfl _ _ rfl hM 0 rfl (cellTab _ rfl) (by omega) _ rfl ?_; kernel_rfl))
    go_ret
    exact ⟨ret_bool hf.out.symm, hM.below⟩
  · have hf : Hid (validB g = false) := Lib.hid (by simp [validB, inB_no (show ¬ (1 ≤ g 0 ∧ g 0 ≤ 10) by omega)])
    have d0 : decide (g 0 < 1) = false := decide_eq_false r0
    have d1 : decide (10 < g 0) = true := decide_eq_true r1
    go_enter Tryd.func93, Tryd.ntmps93
    go_wp2_with (first | (have _t := tk_b1; refine wpList_box rfl _ _ rfl _ _ rfl hM ?_; intro b1 W' hb1 hM'; clear hM tk_b1; have hM := hM'; clear hM') | (refine wpList_get1 rfl _ _ rfl _ _ rfl hM 0 rfl (cellTab _ rfl) (by omega) _ rfl ?_) | (refine wpList_gget1 ?_ _ _ rfl _ _ rfl hM 0 rfl (cellTab _ rfl) (by omega) _ rfl ?_; kernel_rfl))
    go_ret
    exact ⟨ret_bool hf.out.symm, hM.below⟩
  have d0 : decide (g 0 < 1) = false := decide_eq_false r0
  have d1 : decide (10 < g 0) = false := decide_eq_false r1
  rcases (show g 1 < 1 ∨ (¬ g 1 < 1 ∧ 10 < g 1) ∨ (¬ g 1 < 1 ∧ ¬ 10 < g 1) by omega) with q0 | ⟨q0, q1⟩ | ⟨q0, q1⟩
  · have hf : Hid (validB g = false) := Lib.hid (by simp [validB, inB_no (show ¬ (1 ≤ g 1 ∧ g 1 ≤ 10) by omega)])
    have d2 : decide (g 1 < 1) = true := decide_eq_true q0
    go_enter Tryd.func93, Tryd.ntmps93
    go_wp2_with (first | (have _t := tk_b1; refine wpList_box rfl _ _ rfl _ _ rfl hM ?_; intro b1 W' hb1 hM'; clear hM tk_b1; have hM := hM'; clear hM') | (refine wpList_get1 rfl _ _ rfl _ _ rfl hM 0 rfl (cellTab _ rfl) (by omega) _ rfl ?_) | (refine wpList_gget1 ?_ _ _ rfl _ _ rfl hM 0 rfl (cellTab _ rfl) (by omega) _ rfl ?_; kernel_rfl))
    go_ret
    exact ⟨ret_bool hf.out.symm, hM.below⟩
  · have hf : Hid (validB g = false) := Lib.hid (by simp [validB, inB_no (show ¬ (1 ≤ g 1 ∧ g 1 ≤ 10) by omega)])
    have d2 : decide (g 1 < 1) = false := decide_eq_false q0
    have d3 : decide (10 < g 1) = true := decide_eq_true q1
    go_enter Tryd.func93, Tryd.ntmps93
    go_wp2_with (first | (have _t := tk_b1; refine wpList_box rfl _ _ rfl _ _ rfl hM ?_; intro b1 W' hb1 hM'; clear hM tk_b1; have hM := hM'; clear hM') | (refine wpList_get1 rfl _ _ rfl _ _ rfl hM 0 rfl (cellTab _ rfl) (by omega) _ rfl ?_) | (refine wpList_gget1 ?_ _ _ rfl _ _ rfl hM 0 rfl (cellTab _ rfl) (by omega) _ rfl ?_; kernel_rfl))
    go_ret
    exact ⟨ret_bool hf.out.symm, hM.below⟩
  have d2 : decide (g 1 < 1) = false := decide_eq_false q0
  have d3 : decide (10 < g 1) = false := decide_eq_false q1
  have hgr := fun W => hasValidGrass_any g hg (g 0).toNat (g 1).toNat (by omega) (by omega) (by omega) (by omega) W
  have hhr := fun W => hasValidHurdles_any g hg (by omega) (by omega) W
  have hv : Hid (validB g = (grassB g (g 0).toNat (g 1).toNat && hurB g)) := Lib.hid (by simp [validB, inB_yes (show 1 ≤ g 0 ∧ g 0 ≤ 10 by omega), inB_yes (show 1 ≤ g 1 ∧ g 1 ≤ 10 by omega)])
  cases hB : grassB g (g 0).toNat (g 1).toNat
  · rw [hB] at hgr
    have hf : Hid (validB g = false) := Lib.hid (by rw [hv.out, hB]; rfl)
    go_enter Tryd.func93, Tryd.ntmps93
    go_wp2_with (first | (have _t := tk_b1; refine wpList_box rfl _ _ rfl _ _ rfl hM ?_; intro b1 W' hb1 hM'; clear hM tk_b1; have hM := hM'; clear hM') | (refine wpList_get1 rfl _ _ rfl _ _ rfl hM 0 rfl (cellTab _ rfl) (by omega) _ rfl ?_) | (refine wpList_get rfl _ _ rfl _ _ rfl hM 0 rfl (rowTab _ _ rfl) (by omega) ?_) | (go_at_call 119; refine (hgr _).mono ?_; rintro e W' ⟨rfl, hb'⟩; have hM' := hM.call hb'; clear hM hb'; have hM := hM'; clear hM') | (refine wpList_gget1 ?_ _ _ rfl _ _ rfl hM 0 rfl (cellTab _ rfl) (by omega) _ rfl ?_; kernel_rfl))
    go_ret
    exact ⟨ret_bool hf.out.symm, hM.below⟩
  · rw [hB] at hgr
    have hf : Hid (validB g = hurB g) := Lib.hid (by rw [hv.out, hB]; rfl)
    go_enter Tryd.func93, Tryd.ntmps93
    go_wp2_with (first | (have _t := tk_b1; refine wpList_box rfl _ _ rfl _ _ rfl hM ?_; intro b1 W' hb1 hM'; clear hM tk_b1; have hM := hM'; clear hM') | (refine wpList_get1 rfl _ _ rfl _ _ rfl hM 0 rfl (cellTab _ rfl) (by omega) _ rfl ?_) | (refine wpList_get rfl _ _ rfl _ _ rfl hM 0 rfl (rowTab _ _ rfl) (by omega) ?_) | (go_at_call 119; refine (hgr _).mono ?_; rintro e W' ⟨rfl, hb'⟩; have hM' := hM.call hb'; clear hM hb'; have hM := hM'; clear hM') | (go_at_call 120; refine (hhr _).mono ?_; rintro e W' ⟨rfl, hb'⟩; have hM' := hM.call hb'; clear hM hb'; have hM := hM'; clear hM') | (refine wpList_gget1 ?_ _ _ rfl _ _ rfl hM 0 rfl (cellTab _ rfl) (by omega) _ rfl ?_; kernel_rfl) | (refine wpList_gget ?_ _ _ rfl _ _ rfl hM 0 rfl (rowTab _ _ rfl) (by omega) ?_; kernel_rfl))
    go_ret
    exact ⟨ret_bool hf.out.symm, hM.below⟩
end Go.Proofs.YtjfmhnbbdkejeaaDoor

/-
  The document's 'valid' both ways: row by row over all 100 places, or cell by cell over the pasture's own and nothing behind them.
-/
namespace Go.Proofs.YtjfmhnbbdkejeaaDoor
open Go Go.RowKit

theorem isB_iff {g : Nat → Int} {W H x y : Nat} (hg0 : g 0 = W) (hg1 : g 1 = H) : isB g x y = true ↔ x < W ∧ y < H := by
  simp only [isB, inB, Bool.and_eq_true, decide_eq_true_eq, hg0, hg1]; omega
theorem upto_mem {W H x y : Nat} (h : (x, y) ∈ upto W (W * H)) : x < W ∧ y < H := by
  unfold upto at h
  obtain ⟨i, hi, e⟩ := List.mem_map.1 h
  have hi := List.mem_range.1 hi
  unfold cellAt at e
  have e1 : i % W = x := congrArg Prod.fst e
  have e2 : i / W = y := congrArg Prod.snd e
  have hW : 0 < W := by
    cases W with
    | zero => simp at hi
    | succ n => omega
  exact ⟨by rw [← e1]; exact Nat.mod_lt _ hW, by rw [← e2]; exact Nat.div_lt_of_lt_mul hi⟩

theorem cellOk_iff {g : Nat → Int} {W H x y : Nat} (hg0 : g 0 = W) (hg1 : g 1 = H) : cellOk g y x = true ↔ (0 ≤ g (2 + (y * 10 + x)) ∧ g (2 + (y * 10 + x)) ≤ 1000) ∧ (g (2 + (y * 10 + x)) = 0 ∨ (x < W ∧ y < H)) := by
  have e : 2 + y * 10 + x = 2 + (y * 10 + x) := by omega
  unfold cellOk
  rw [e, Bool.and_eq_true, Bool.or_eq_true, isB_iff hg0 hg1]
  simp only [inB, decide_eq_true_eq]
  omega

theorem cells_grass {g : Nat → Int} {W H : Nat} (hg0 : g 0 = W) (hg1 : g 1 = H) (hW : W ≤ 10) (hH : H ≤ 10) :
    (∀ y, y < 10 → ∀ x, x < 10 → cellOk g y x = true) ↔ grassB g W H = true := by
  unfold grassB
  rw [Bool.and_eq_true, List.all_eq_true, eqTo_iff]
  constructor
  · intro h
    refine ⟨fun s hs => ?_, fun k hk => ?_⟩
    · obtain ⟨x, y⟩ := s
      obtain ⟨hx, hy⟩ := upto_mem hs
      exact inB_yes ((cellOk_iff hg0 hg1).1 (h y (by omega) x (by omega))).1
    · have hx : k % 10 < 10 := Nat.mod_lt _ (by omega)
      have ek : k / 10 * 10 + k % 10 = k := by omega
      have hr := restAt_of (g := g) (l := upto W (W * H)) (x := k % 10) (y := k / 10) hx
      rw [ek] at hr
      rw [hr]
      split
      · rfl
      · rename_i hn
        have hc := ((cellOk_iff hg0 hg1).1 (h (k / 10) (by omega) (k % 10) hx)).2
        rw [ek] at hc
        rcases hc with hc | hc
        · exact hc
        · exact absurd (mem_upto hc.1 hc.2) hn
  · rintro ⟨h1, h2⟩ y hy x hx
    rw [cellOk_iff hg0 hg1]
    by_cases hin : x < W ∧ y < H
    · have := inB_true (h1 _ (mem_upto hin.1 hin.2))
      exact ⟨this, .inr hin⟩
    · have hr := h2 (y * 10 + x) (by omega)
      rw [restAt_of hx, if_neg (fun hm => hin (upto_mem hm))] at hr
      exact ⟨by omega, .inl hr⟩

theorem okB_eq (g : Nat → Int) : okB g = validB g := by
  unfold okB validB
  cases b0 : inB 1 10 (g 0)
  · rfl
  cases b1 : inB 1 10 (g 1)
  · rfl
  have h0 := inB_true b0
  have h1 := inB_true b1
  have hg0 : g 0 = ((g 0).toNat : Int) := by omega
  have hg1 : g 1 = ((g 1).toNat : Int) := by omega
  have key := cells_grass hg0 hg1 (by omega) (by omega)
  simp only [Bool.true_and]
  rw [Bool.eq_iff_iff, Bool.and_eq_true, ← key, List.all_eq_true]
  unfold hurB
  rw [List.all_eq_true]
  constructor
  · intro h
    have h' : ∀ y, y < 10 → (∀ x, x < 10 → cellOk g y x = true) ∧ badE g y = false ∧ badS g y = false := fun y hy => by
      have hr := h y (List.mem_range.2 hy)
      unfold rowOk at hr
      rw [Bool.and_eq_true, Bool.and_eq_true, List.all_eq_true] at hr
      exact ⟨fun x hx => hr.1.1 x (List.mem_range.2 hx), by simpa using hr.1.2, by simpa using hr.2⟩
    exact ⟨fun y hy => (h' y hy).1, fun y hy => by have := h' y (List.mem_range.1 hy); simp [this.2.1, this.2.2]⟩
  · rintro ⟨h1, h2⟩ y hy
    have hy' := List.mem_range.1 hy
    have h3 := h2 y hy
    rw [Bool.and_eq_true] at h3
    unfold rowOk
    rw [Bool.and_eq_true, Bool.and_eq_true, List.all_eq_true]
    exact ⟨⟨fun x hx => h1 y hy' x (List.mem_range.1 hx), h3.1⟩, h3.2⟩
end Go.Proofs.YtjfmhnbbdkejeaaDoor

/-
  (impl.Pasture).hasCell by contract.
-/
namespace Go.Proofs.YtjfmhnbbdkejeaaDoor
open Go Go.RowKit Go.BigFrame

set_option maxHeartbeats 4000000 in
theorem hasCell_any (g : Nat → Int) (x y : Int) (w : World) :
    Calls Tryd.prog 94 #[.agg (arr 122 (pas g)), .agg (arr 2 (sp x y))] w fun e w' => e = .returned (.bool (isB g x y)) ∧ Below w.heap.size w w' := by
  have hM := Mem.nil w
  have e0 : pas g 0 = .int .i8 (g 0) := rfl
  have e1 : pas g 1 = .int .i8 (g 1) := rfl
  have e2 : sp x y 0 = .int .i8 x := rfl
  have e3 : sp x y 1 = .int .i8 y := rfl
  have tk_b1 : True := trivial; have tk_b2 : True := trivial
  rcases (show x < 0 ∨ (0 ≤ x ∧ g 0 ≤ x) ∨ (0 ≤ x ∧ x < g 0) by omega) with r0 | ⟨r0, r1⟩ | ⟨r0, r1⟩
  · have hf : Hid (isB g x y = false) := Lib.hid (by simp [isB, inB_no (show ¬ (0 ≤ x ∧ x ≤ g 0 - 1) by omega)])
    have d0 : decide (0 ≤ x) = false := decide_eq_false (by omega)
    clear r0
    go_enter Tryd.func94, Tryd.ntmps94
    go_wp2_with (first | (have _t := tk_b1; refine wpList_box rfl _ _ rfl _ _ rfl hM ?_; intro b1 W' hb1 hM'; clear hM tk_b1; have hM := hM'; clear hM') | (have _t := tk_b2; refine wpList_box rfl _ _ rfl _ _ rfl hM ?_; intro b2 W' hb2 hM'; clear hM tk_b2; have hM := hM'; clear hM') | (refine wpList_get1 rfl _ _ rfl _ _ rfl hM 0 rfl (cellTab _ rfl) (by omega) _ rfl ?_) | (refine wpList_get1 rfl _ _ rfl _ _ rfl hM 1 rfl (cellTab _ rfl) (by omega) _ rfl ?_) | (refine wpList_gget1 ?_ _ _ rfl _ _ rfl hM 0 rfl (cellTab _ rfl) (by omega) _ rfl ?_; kernel_rfl) | (refine wpList_gget1 ?_ _ _ rfl _ _ rfl hM 1 rfl (cellTab _ rfl) (by omega) _ rfl ?_; kernel_rfl))
    go_ret
    exact ⟨ret_bool hf.out.symm, hM.below⟩
  · have hf : Hid (isB g x y = false) := Lib.hid (by simp [isB, inB_no (show ¬ (0 ≤ x ∧ x ≤ g 0 - 1) by omega)])
    have d0 : decide (0 ≤ x) = true := decide_eq_true (by omega)
    have d1 : decide (x < g 0) = false := decide_eq_false (by omega)
    clear r0 r1
    go_enter Tryd.func94, Tryd.ntmps94
    go_wp2_with (first | (have _t := tk_b1; refine wpList_box rfl _ _ rfl _ _ rfl hM ?_; intro b1 W' hb1 hM'; clear hM tk_b1; have hM := hM'; clear hM') | (have _t := tk_b2; refine wpList_box rfl _ _ rfl _ _ rfl hM ?_; intro b2 W' hb2 hM'; clear hM tk_b2; have hM := hM'; clear hM') | (refine wpList_get1 rfl _ _ rfl _ _ rfl hM 0 rfl (cellTab _ rfl) (by omega) _ rfl ?_) | (refine wpList_get1 rfl _ _ rfl _ _ rfl hM 1 rfl (cellTab _ rfl) (by omega) _ rfl ?_) | (refine wpList_gget1 ?_ _ _ rfl _ _ rfl hM 0 rfl (cellTab _ rfl) (by omega) _ rfl ?_; kernel_rfl) | (refine wpList_gget1 ?_ _ _ rfl _ _ rfl hM 1 rfl (cellTab _ rfl) (by omega) _ rfl ?_; kernel_rfl))
    go_ret
    exact ⟨ret_bool hf.out.symm, hM.below⟩
  have d0 : decide (0 ≤ x) = true := decide_eq_true (by omega)
  have d1 : decide (x < g 0) = true := decide_eq_true (by omega)
  have q0 := inB_yes (show 0 ≤ x ∧ x ≤ g 0 - 1 by omega)
  clear r0 r1
  rcases (show y < 0 ∨ (0 ≤ y ∧ g 1 ≤ y) ∨ (0 ≤ y ∧ y < g 1) by omega) with r0 | ⟨r0, r1⟩ | ⟨r0, r1⟩
  · have hf : Hid (isB g x y = false) := Lib.hid (by simp [isB, inB_no (show ¬ (0 ≤ y ∧ y ≤ g 1 - 1) by omega)])
    have d2 : decide (0 ≤ y) = false := decide_eq_false (by omega)
    clear r0 q0
    go_enter Tryd.func94, Tryd.ntmps94
    go_wp2_with (first | (have _t := tk_b1; refine wpList_box rfl _ _ rfl _ _ rfl hM ?_; intro b1 W' hb1 hM'; clear hM tk_b1; have hM := hM'; clear hM') | (have _t := tk_b2; refine wpList_box rfl _ _ rfl _ _ rfl hM ?_; intro b2 W' hb2 hM'; clear hM tk_b2; have hM := hM'; clear hM') | (refine wpList_get1 rfl _ _ rfl _ _ rfl hM 0 rfl (cellTab _ rfl) (by omega) _ rfl ?_) | (refine wpList_get1 rfl _ _ rfl _ _ rfl hM 1 rfl (cellTab _ rfl) (by omega) _ rfl ?_) | (refine wpList_gget1 ?_ _ _ rfl _ _ rfl hM 0 rfl (cellTab _ rfl) (by omega) _ rfl ?_; kernel_rfl) | (refine wpList_gget1 ?_ _ _ rfl _ _ rfl hM 1 rfl (cellTab _ rfl) (by omega) _ rfl ?_; kernel_rfl))
    go_ret
    exact ⟨ret_bool hf.out.symm, hM.below⟩
  · have hf : Hid (isB g x y = false) := Lib.hid (by simp [isB, inB_no (show ¬ (0 ≤ y ∧ y ≤ g 1 - 1) by omega)])
    have d2 : decide (0 ≤ y) = true := decide_eq_true (by omega)
    have d3 : decide (y < g 1) = false := decide_eq_false (by omega)
    clear r0 r1 q0
    go_enter Tryd.func94, Tryd.ntmps94
    go_wp2_with (first | (have _t := tk_b1; refine wpList_box rfl _ _ rfl _ _ rfl hM ?_; intro b1 W' hb1 hM'; clear hM tk_b1; have hM := hM'; clear hM') | (have _t := tk_b2; refine wpList_box rfl _ _ rfl _ _ rfl hM ?_; intro b2 W' hb2 hM'; clear hM tk_b2; have hM := hM'; clear hM') | (refine wpList_get1 rfl _ _ rfl _ _ rfl hM 0 rfl (cellTab _ rfl) (by omega) _ rfl ?_) | (refine wpList_get1 rfl _ _ rfl _ _ rfl hM 1 rfl (cellTab _ rfl) (by omega) _ rfl ?_) | (refine wpList_gget1 ?_ _ _ rfl _ _ rfl hM 0 rfl (cellTab _ rfl) (by omega) _ rfl ?_; kernel_rfl) | (refine wpList_gget1 ?_ _ _ rfl _ _ rfl hM 1 rfl (cellTab _ rfl) (by omega) _ rfl ?_; kernel_rfl))
    go_ret
    exact ⟨ret_bool hf.out.symm, hM.below⟩
  · have hf : Hid (isB g x y = true) := Lib.hid (by simp [isB, q0, inB_yes (show 0 ≤ y ∧ y ≤ g 1 - 1 by omega)])
    have d2 : decide (0 ≤ y) = true := decide_eq_true (by omega)
    have d3 : decide (y < g 1) = true := decide_eq_true (by omega)
    clear r0 r1 q0
    go_enter Tryd.func94, Tryd.ntmps94
    go_wp2_with (first | (have _t := tk_b1; refine wpList_box rfl _ _ rfl _ _ rfl hM ?_; intro b1 W' hb1 hM'; clear hM tk_b1; have hM := hM'; clear hM') | (have _t := tk_b2; refine wpList_box rfl _ _ rfl _ _ rfl hM ?_; intro b2 W' hb2 hM'; clear hM tk_b2; have hM := hM'; clear hM') | (refine wpList_get1 rfl _ _ rfl _ _ rfl hM 0 rfl (cellTab _ rfl) (by omega) _ rfl ?_) | (refine wpList_get1 rfl _ _ rfl _ _ rfl hM 1 rfl (cellTab _ rfl) (by omega) _ rfl ?_) | (refine wpList_gget1 ?_ _ _ rfl _ _ rfl hM 0 rfl (cellTab _ rfl) (by omega) _ rfl ?_; kernel_rfl) | (refine wpList_gget1 ?_ _ _ rfl _ _ rfl hM 1 rfl (cellTab _ rfl) (by omega) _ rfl ?_; kernel_rfl))
    go_ret
    exact ⟨ret_bool hf.out.symm, hM.below⟩

theorem sp_of {f : Nat → Value} {x y : Int} (h0 : f 0 = .int .i8 x) (h1 : f 1 = .int .i8 y) : arr 2 f = arr 2 (sp x y) := arr_congr fun k hk => by
  rcases (show k = 0 ∨ k = 1 by omega) with rfl | rfl
  · exact h0
  · exact h1
/-- The same over any two cells that hold the spot. -/
theorem hasCell_of (g : Nat → Int) (f : Nat → Value) (x y : Int) (h0 : f 0 = .int .i8 x) (h1 : f 1 = .int .i8 y) (w : World) :
    Calls Tryd.prog 94 #[.agg (arr 122 (pas g)), .agg (arr 2 f)] w fun e w' => e = .returned (.bool (isB g x y)) ∧ Below w.heap.size w w' := by
  rw [sp_of h0 h1]
  exact hasCell_any g x y w
end Go.Proofs.YtjfmhnbbdkejeaaDoor

/-
  impl.checkCells by contracts.
-/
namespace Go.Proofs.YtjfmhnbbdkejeaaDoor
open Go Go.RowKit Go.BigFrame

theorem spot_under : Tryd.prog.underlying 44 = some (.slice 34) := Tryd.underlying44
theorem spot_info : (Tryd.prog.info? 34).map (fun i => (i.size, i.zero)) = some (2, some (.agg (arr 2 fun _ => .int .i8 0))) := by kernel_rfl
/-- Spots one behind the other. -/
def sps (s : Nat → Int × Int) : Nat → Value := fun k => .int .i8 (if k % 2 = 0 then (s (k / 2)).1 else (s (k / 2)).2)
theorem sp_sps (x y : Int) : ∀ k, k < 2 → sp x y k = sps (fun _ => (x, y)) k := fun k hk => by
  rcases (show k = 0 ∨ k = 1 by omega) with rfl | rfl <;> rfl
theorem sp_sps0 (x y : Int) : ∀ k, k < 2 → sp x y (0 + k) = sps (fun _ => (x, y)) k := fun k hk => by
  rw [Nat.zero_add]; exact sp_sps x y k hk
/-- The first n of them are all cells. -/
def allB (g : Nat → Int) (s : Nat → Int × Int) (n : Nat) : Bool := (List.range n).all fun i => isB g (s i).1 (s i).2
theorem allB_zero (g : Nat → Int) (s : Nat → Int × Int) : allB g s 0 = true := rfl
theorem allB_one (g : Nat → Int) (s : Nat → Int × Int) : allB g s 1 = isB g (s 0).1 (s 0).2 := by simp [allB, List.range_succ]
theorem allB_no {g : Nat → Int} {s : Nat → Int × Int} {n i : Nat} (hi : i < n) (h : isB g (s i).1 (s i).2 = false) : allB g s n = false := by
  unfold allB; rw [List.all_eq_false]; exact ⟨i, by simpa using hi, by rw [h]; decide⟩
theorem allB_yes {g : Nat → Int} {s : Nat → Int × Int} {n : Nat} (h : ∀ i, i < n → isB g (s i).1 (s i).2 = true) : allB g s n = true := by
  unfold allB; rw [List.all_eq_true]; intro i hi; exact h i (by simpa using hi)

/-- What checkCells answers of a valid pasture. -/
def chkS (a : Nat → Addr) (g : Nat → Int) (s : Nat → Int × Int) (n : Nat) : Value := if allB g s n then .nilIface else errV (a 1)
theorem chkS_yes {a : Nat → Addr} {g : Nat → Int} {s : Nat → Int × Int} {n : Nat} (h : allB g s n = true) : chkS a g s n = .nilIface := by simp [chkS, h]
theorem chkS_no {a : Nat → Addr} {g : Nat → Int} {s : Nat → Int × Int} {n : Nat} (h : allB g s n = false) : chkS a g s n = errV (a 1) := by simp [chkS, h]
theorem ret_v {a b : Value} (h : a = b) : Ending.returned a = .returned b := by rw [h]

set_option maxRecDepth 100000 in
set_option maxHeartbeats 2000000 in
theorem checkCells_bad {a : Nat → Addr} (g : Nat → Int) (hg : Fits g) (v : Value) (w : World) (hE : Errs a w) (hv : validB g = false) :
    Calls Tryd.prog 55 #[.agg (arr 122 (pas g)), v] w fun e w' => e = .returned (errV (a 0)) ∧ Below w.heap.size w w' := by
  have hM := Mem.nil w
  have hi := fun W => implValid_any g hg W
  rw [hv] at hi
  have H := Lib.hid hE
  have Hi := Lib.hid hi
  clear hv hi hE
  have tk_b1 : True := trivial
  go_enter Tryd.func55, Tryd.ntmps55
  go_wp2_with (first | (have _t := tk_b1; refine wpList_box rfl _ _ rfl _ _ rfl hM ?_; intro b1 W' hb1 hM'; clear hM tk_b1; have hM := hM'; clear hM') | (refine wpList_get rfl _ _ rfl _ _ rfl hM 0 rfl (rowTab _ _ rfl) (by omega) ?_) | (go_at_call 93; refine (Hi.out _).mono ?_; rintro e W' ⟨rfl, hb'⟩; have hM' := hM.call hb'; have hE' := H.out.below hM'.below; have v0 : W'.cell? ⟨0, 0, none⟩ = some (errV (a 0)) := hE'.vars 0 (by omega); clear hM hb' hE'; have hM := hM'; clear hM'))
  go_ret
  exact ⟨rfl, hM.below⟩

set_option maxRecDepth 100000 in
set_option maxHeartbeats 2000000 in
/-- No spots. -/
theorem checkCells_nil (g : Nat → Int) (hg : Fits g) (w : World) (hv : validB g = true) :
    Calls Tryd.prog 55 #[.agg (arr 122 (pas g)), .slice none 0 0] w fun e w' => e = .returned .nilIface ∧ Below w.heap.size w w' := by
  have hM := Mem.nil w
  have hi := fun W => implValid_any g hg W
  rw [hv] at hi
  have Hi := Lib.hid hi
  clear hv hi
  have tk_b1 : True := trivial
  go_enter Tryd.func55, Tryd.ntmps55
  go_wp2_with (first | (have _t := tk_b1; refine wpList_box rfl _ _ rfl _ _ rfl hM ?_; intro b1 W' hb1 hM'; clear hM tk_b1; have hM := hM'; clear hM') | (refine wpList_get rfl _ _ rfl _ _ rfl hM 0 rfl (rowTab _ _ rfl) (by omega) ?_) | (go_at_call 93; refine (Hi.out _).mono ?_; rintro e W' ⟨rfl, hb'⟩; have hM' := hM.call hb'; clear hM hb'; have hM := hM'; clear hM'))
  refine wp_loop_rounds 1 ?_
  rw [rounds_succ]
  go_wp2
  go_ret
  exact ⟨rfl, hM.below⟩

theorem sps_fst (s : Nat → Int × Int) (k : Nat) : sps s (k * 2 + 0) = .int .i8 (s k).1 := by
  simp [sps]
theorem sps_snd (s : Nat → Int × Int) (k : Nat) : sps s (k * 2 + 1) = .int .i8 (s k).2 := by
  have : (k * 2 + 1) / 2 = k := by omega
  simp [sps, this]

theorem lay_sp0 (z : Nat → Value) (s : Nat → Int × Int) (k : Nat) : lay z 0 2 (fun j => sps s (k * 2 + j)) 0 = .int .i8 (s k).1 := by
  simpa [lay] using sps_fst s k
theorem lay_sp1 (z : Nat → Value) (s : Nat → Int × Int) (k : Nat) : lay z 0 2 (fun j => sps s (k * 2 + j)) 1 = .int .i8 (s k).2 := by
  simpa [lay] using sps_snd s k

set_option maxRecDepth 100000 in
set_option maxHeartbeats 2000000 in
/-- Spots in a block. -/
theorem checkCells_some {a : Nat → Addr} (g : Nat → Int) (hg : Fits g) (bl n c N : Nat) (s : Nat → Int × Int) (hN : 2 * n ≤ N) (hn : n ≤ maxLen) (w : World) (hA : At w bl N (sps s)) (hE : Errs a w) (hv : validB g = true) :
    Calls Tryd.prog 55 #[.agg (arr 122 (pas g)), .slice (some ⟨bl, 0, none⟩) n c] w fun e w' => e = .returned (chkS a g s n) ∧ Below w.heap.size w w' := by
  have hM := (Mem.nil w).old hA (fun i p h => by simp at h)
  simp only [List.nil_append] at hM
  have hi := fun W => implValid_any g hg W
  rw [hv] at hi
  have Hi := Lib.hid hi
  have HE := Lib.hid hE
  unfold maxLen at hn
  clear hv hi hA hE
  have tk_b1 : True := trivial
  go_enter Tryd.func55, Tryd.ntmps55
  go_wp2_with (first | (have _t := tk_b1; refine wpList_box rfl _ _ rfl _ _ rfl hM ?_; intro b1 W' hb1 hM'; clear hM tk_b1; have hM := hM'; clear hM') | (refine wpList_get rfl _ _ rfl _ _ rfl hM 0 rfl (rowTab _ _ rfl) (by omega) ?_) | (go_at_call 93; refine (Hi.out _).mono ?_; rintro e W' ⟨rfl, hb'⟩; have hM' := hM.call hb'; clear hM hb'; have hM := hM'; clear hM'))
  go_loopw [13] (fun i wr => ∃ k : Nat, k ≤ n ∧ i = .int .i64 k ∧ Hid (∀ j, j < k → isB g (s j).1 (s j).2 = true) ∧ Mem w [(b1, 122, pas g), (bl, N, sps s)] wr) (fun i _ => n - (intOf i).toNat)
  case atStart => exact ⟨0, by omega, rfl, Lib.hid (fun j hj => absurd hj (by omega)), hM⟩
  case round =>
    clear hM
    obtain ⟨k, hk, rfl, hall, hM⟩ := hrel
    by_cases hlt : k < n
    · cases hB : isB g (s k).1 (s k).2
      · have HB := Lib.hid hB
        clear hB
        have tk_b2 : True := trivial
        go_wp2_with (first | (refine wpList_get rfl _ _ rfl _ _ rfl hM 1 rfl (rowTab _ _ rfl) (by omega) ?_) | (have _t := tk_b2; refine wpList_zero rfl _ rfl (zeroTab _ _ _ rfl) hM ?_; intro b2 W' hb2 hM'; clear hM tk_b2; have hM := hM'; clear hM') | (refine wpList_lay rfl _ _ _ rfl _ _ rfl _ _ rfl hM 0 rfl (by assumption) (rowTab _ _ rfl) (by omega) ?_ ?_; (first | (intro _ _; rfl) | (intro k _; exact h1 _) | (intro k _; simp only [lay, upd]; (repeat' split) <;> first | exact h1 _ | rfl)); intro W' hM'; clear hM; have hM := hM'; clear hM'; simp only [List.set] at hM) | (refine wpList_get rfl _ _ rfl _ _ rfl hM 0 rfl (rowTab _ _ rfl) (by omega) ?_) | (go_at_call 94; refine (hasCell_of g _ (s k).1 (s k).2 (lay_sp0 _ s k) (lay_sp1 _ s k) _).mono ?_; rintro e W' ⟨rfl, hb'⟩; rw [HB.out]; have hM' := hM.call hb'; have hE' := HE.out.below hM'.below; have v1 : W'.cell? ⟨1, 0, none⟩ = some (errV (a 1)) := hE'.vars 1 (by omega); clear hE'; clear hM hb'; have hM := hM'; clear hM'))
        go_ret
        exact ⟨ret_v (chkS_no (allB_no hlt HB.out)).symm, hM.below⟩
      · have HB := Lib.hid hB
        clear hB
        have tk_b2 : True := trivial
        go_wp2_with (first | (refine wpList_get rfl _ _ rfl _ _ rfl hM 1 rfl (rowTab _ _ rfl) (by omega) ?_) | (have _t := tk_b2; refine wpList_zero rfl _ rfl (zeroTab _ _ _ rfl) hM ?_; intro b2 W' hb2 hM'; clear hM tk_b2; have hM := hM'; clear hM') | (refine wpList_lay rfl _ _ _ rfl _ _ rfl _ _ rfl hM 0 rfl (by assumption) (rowTab _ _ rfl) (by omega) ?_ ?_; (first | (intro _ _; rfl) | (intro k _; exact h1 _) | (intro k _; simp only [lay, upd]; (repeat' split) <;> first | exact h1 _ | rfl)); intro W' hM'; clear hM; have hM := hM'; clear hM'; simp only [List.set] at hM) | (refine wpList_get rfl _ _ rfl _ _ rfl hM 0 rfl (rowTab _ _ rfl) (by omega) ?_) | (go_at_call 94; refine (hasCell_of g _ (s k).1 (s k).2 (lay_sp0 _ s k) (lay_sp1 _ s k) _).mono ?_; rintro e W' ⟨rfl, hb'⟩; rw [HB.out]; have hM' := hM.call hb'; clear hM hb'; have hM := hM'; clear hM'))
        go_roundw
        case rel => exact ⟨k + 1, by omega, by go_num, Lib.hid (fun j hj => by
          by_cases e : j = k
          · rw [e]; exact HB.out
          · exact hall.out j (by omega)), hM.drop⟩
        case measure => simp [intOf]; omega
    · obtain rfl : k = n := by omega
      go_wp2
      go_ret
      exact ⟨ret_v (chkS_yes (allB_yes hall.out)).symm, hM.below⟩
end Go.Proofs.YtjfmhnbbdkejeaaDoor

/-
  spec.l01Asked, laws.toSpot, (impl.Pasture).grassAt by contracts.
-/
namespace Go.Proofs.YtjfmhnbbdkejeaaDoor
open Go Go.RowKit Go.BigFrame

/-- The code of a pasture and a cell, and whether another thing is as told. -/
def askC (g : Nat → Int) (x y : Int) (fine : Bool) : Int := if okB g then (if isB g x y && fine then 0 else 2) else 1
theorem askC_bad {g : Nat → Int} {x y : Int} {f : Bool} (h : okB g = false) : askC g x y f = 1 := by simp [askC, h]
theorem askC_out {g : Nat → Int} {x y : Int} {f : Bool} (h : okB g = true) (h2 : isB g x y = false) : askC g x y f = 2 := by simp [askC, h, h2]
theorem askC_fine {g : Nat → Int} {x y : Int} (h : okB g = true) (h2 : isB g x y = true) : askC g x y false = 2 := by simp [askC, h, h2]
theorem askC_ok {g : Nat → Int} {x y : Int} (h : okB g = true) (h2 : isB g x y = true) : askC g x y true = 0 := by simp [askC, h, h2]
theorem ret_i {k : IntKind} {a b : Int} (h : a = b) : Ending.returned (.int k a) = .returned (.int k b) := by rw [h]

set_option maxHeartbeats 400000 in
theorem l01Asked_any (g : Nat → Int) (hg : Fits g) (bp : Nat) (x y : Int) (hx : -128 ≤ x ∧ x ≤ 127) (hy : -128 ≤ y ∧ y ≤ 127) (fine : Bool) (w : World) (hA : At w bp 122 (pas g)) :
    Calls Tryd.prog 53 #[.pointer (some ⟨bp, 0, none⟩), .agg (arr 2 (sp x y)), .bool fine] w fun e w' => e = .returned (.int .i64 (askC g x y fine)) ∧ Below w.heap.size w w' := by
  have hM : Mem w [(bp, 122, pas g)] w := (Mem.nil w).old hA (fun i p h => by simp at h)
  clear hA
  cases ho : okB g
  · have Ho := Lib.hid ho
    clear ho
    have tk_b1 : True := trivial
    go_enter Tryd.func53, Tryd.ntmps53
    go_wp2_with (first | (have _t := tk_b1; refine wpList_box rfl _ _ rfl _ _ rfl hM ?_; intro b1 W' hb1 hM'; clear hM tk_b1; have hM := hM'; clear hM') | (go_at_call 70; refine (l01Ok_any g hg _ _ (hM.ats 1 _ _ _ rfl)).mono ?_; rintro e W' ⟨rfl, hb'⟩; rw [Ho.out]; have hM' := hM.call hb'; clear hM hb'; have hM := hM'; clear hM'))
    go_ret
    exact ⟨ret_i (askC_bad Ho.out).symm, hM.below⟩
  have Ho := Lib.hid ho
  clear ho
  cases hi : isB g x y
  · have Hi := Lib.hid hi
    clear hi
    have tk_b1 : True := trivial
    go_enter Tryd.func53, Tryd.ntmps53
    go_wp2_with (first | (have _t := tk_b1; refine wpList_box rfl _ _ rfl _ _ rfl hM ?_; intro b1 W' hb1 hM'; clear hM tk_b1; have hM := hM'; clear hM') | (refine wpList_get rfl _ _ rfl _ _ rfl hM 0 rfl (rowTab _ _ rfl) (by omega) ?_) | (go_at_call 70; refine (l01Ok_any g hg _ _ (hM.ats 1 _ _ _ rfl)).mono ?_; rintro e W' ⟨rfl, hb'⟩; rw [Ho.out]; have hM' := hM.call hb'; clear hM hb'; have hM := hM'; clear hM') | (go_at_call 90; refine (l01Is_any g hg _ x y hx hy _ (hM.ats 1 _ _ _ rfl)).mono ?_; rintro e W' ⟨rfl, hb'⟩; rw [Hi.out]; have hM' := hM.call hb'; clear hM hb'; have hM := hM'; clear hM'))
    go_ret
    exact ⟨ret_i (askC_out Ho.out Hi.out).symm, hM.below⟩
  have Hi := Lib.hid hi
  clear hi
  cases fine
  · have tk_b1 : True := trivial
    go_enter Tryd.func53, Tryd.ntmps53
    go_wp2_with (first | (have _t := tk_b1; refine wpList_box rfl _ _ rfl _ _ rfl hM ?_; intro b1 W' hb1 hM'; clear hM tk_b1; have hM := hM'; clear hM') | (refine wpList_get rfl _ _ rfl _ _ rfl hM 0 rfl (rowTab _ _ rfl) (by omega) ?_) | (go_at_call 70; refine (l01Ok_any g hg _ _ (hM.ats 1 _ _ _ rfl)).mono ?_; rintro e W' ⟨rfl, hb'⟩; rw [Ho.out]; have hM' := hM.call hb'; clear hM hb'; have hM := hM'; clear hM') | (go_at_call 90; refine (l01Is_any g hg _ x y hx hy _ (hM.ats 1 _ _ _ rfl)).mono ?_; rintro e W' ⟨rfl, hb'⟩; rw [Hi.out]; have hM' := hM.call hb'; clear hM hb'; have hM := hM'; clear hM'))
    go_ret
    exact ⟨ret_i (askC_fine Ho.out Hi.out).symm, hM.below⟩
  · have tk_b1 : True := trivial
    go_enter Tryd.func53, Tryd.ntmps53
    go_wp2_with (first | (have _t := tk_b1; refine wpList_box rfl _ _ rfl _ _ rfl hM ?_; intro b1 W' hb1 hM'; clear hM tk_b1; have hM := hM'; clear hM') | (refine wpList_get rfl _ _ rfl _ _ rfl hM 0 rfl (rowTab _ _ rfl) (by omega) ?_) | (go_at_call 70; refine (l01Ok_any g hg _ _ (hM.ats 1 _ _ _ rfl)).mono ?_; rintro e W' ⟨rfl, hb'⟩; rw [Ho.out]; have hM' := hM.call hb'; clear hM hb'; have hM := hM'; clear hM') | (go_at_call 90; refine (l01Is_any g hg _ x y hx hy _ (hM.ats 1 _ _ _ rfl)).mono ?_; rintro e W' ⟨rfl, hb'⟩; rw [Hi.out]; have hM' := hM.call hb'; clear hM hb'; have hM := hM'; clear hM'))
    go_ret
    exact ⟨ret_i (askC_ok Ho.out Hi.out).symm, hM.below⟩



/-- The place of a cell's grass. -/
def gPlace (x y : Int) : Nat := 2 + y.toNat * 10 + x.toNat

theorem isB_bounds {g : Nat → Int} {x y : Int} (ho : okB g = true) (hi : isB g x y = true) : 0 ≤ x ∧ x < g 0 ∧ g 0 ≤ 10 ∧ 0 ≤ y ∧ y < g 1 ∧ g 1 ≤ 10 := by
  unfold okB at ho
  unfold isB at hi
  rw [Bool.and_eq_true] at ho hi
  rw [Bool.and_eq_true] at ho
  have a1 := inB_true ho.1.1
  have a2 := inB_true ho.1.2
  have a3 := inB_true hi.1
  have a4 := inB_true hi.2
  omega

set_option maxHeartbeats 400000 in
theorem grassAt_any (g : Nat → Int) (hg : Fits g) (x y : Nat) (hx : x < 10) (hy : y < 10) (w : World) :
    Calls Tryd.prog 103 #[.agg (arr 122 (pas g)), .agg (arr 2 (sp x y))] w fun e w' => e = .returned (.int .i64 (g (2 + y * 10 + x))) ∧ Below w.heap.size w w' := by
  have hM := Mem.nil w
  have hr := hg.grass (2 + y * 10 + x) (by omega) (by omega)
  have e0 : pas g (2 + y * 10 + x) = .int .i16 (g (2 + y * 10 + x)) := pas_i16 g (by omega) (by omega)
  have c0 : IntKind.i64.wrap (g (2 + y * 10 + x)) = g (2 + y * 10 + x) := IntWalk.i64_in _ (by omega)
  have lx : (x : Int) < 10 := by omega
  have ly : (y : Int) < 10 := by omega
  have tk_b1 : True := trivial; have tk_b2 : True := trivial
  go_enter Tryd.func103, Tryd.ntmps103
  go_wp2_with (first | (have _t := tk_b1; refine wpList_box rfl _ _ rfl _ _ rfl hM ?_; intro b1 W' hb1 hM'; clear hM tk_b1; have hM := hM'; clear hM') | (have _t := tk_b2; refine wpList_box rfl _ _ rfl _ _ rfl hM ?_; intro b2 W' hb2 hM'; clear hM tk_b2; have hM := hM'; clear hM'))
  ((try simp only [Act.put, List.setIfInBounds_toArray, List.set_cons_succ, List.set_cons_zero]); refine wp_region_mem (by kernel_rfl) (by kernel_rfl) hM ?_; clear hM; (repeat (first | go_big_quiet_skip | (go_big_quiet_want; first | (refine quiet_get1 _ _ rfl _ _ rfl 0 rfl (cellTab _ rfl) (by omega) (.int .i8 (y : Int)) rfl ?_; (simp only [Act.put, List.setIfInBounds_toArray, List.set_cons_succ, List.set_cons_zero]); go_big_quiet_on) | (refine quiet_get1 _ _ rfl _ _ rfl 0 rfl (cellTab _ rfl) (by omega) (.int .i8 (x : Int)) rfl ?_; (simp only [Act.put, List.setIfInBounds_toArray, List.set_cons_succ, List.set_cons_zero]); go_big_quiet_on) | (refine quiet_get1 _ _ rfl _ _ rfl 1 rfl (cellTab _ rfl) (by omega) _ (e0) ?_; (simp only [Act.put, List.setIfInBounds_toArray, List.set_cons_succ, List.set_cons_zero]); go_big_quiet_on) | (refine quiet_val ?_; apply Exists.intro; refine ⟨fun W => ?_, ?_⟩; (go_simp; (try simp only [lx, ly, if_true, Bool.false_eq_true, if_false]); rfl); (simp only [Act.put, List.setIfInBounds_toArray, List.set_cons_succ, List.set_cons_zero]); go_big_quiet_on)))); (with_reducible refine wpQuiet_nil ?_); intro W' hM)
  go_wp2
  go_ret
  exact ⟨rfl, hM.below⟩
theorem askC_cases (g : Nat → Int) (x y : Int) (f : Bool) : (okB g = false ∧ askC g x y f = 1) ∨ (okB g = true ∧ (isB g x y && f) = false ∧ askC g x y f = 2) ∨ (okB g = true ∧ isB g x y = true ∧ f = true ∧ askC g x y f = 0) := by
  cases h1 : okB g <;> cases h2 : isB g x y <;> cases f <;> simp [askC, h1, h2]

end Go.Proofs.YtjfmhnbbdkejeaaDoor

/-
  Sums of grass.
-/
namespace Go.Proofs.YtjfmhnbbdkejeaaDoor
open Go Go.RowKit Go.Shelf Go.BigFrame

/-- f 0 + f 1 + .. , n of them. -/
def sumN : Nat → (Nat → Int) → Int
  | 0, _ => 0
  | n + 1, f => sumN n f + f n
theorem sumN_congr {n : Nat} {f g : Nat → Int} (h : ∀ k, k < n → f k = g k) : sumN n f = sumN n g := by
  induction n with
  | zero => rfl
  | succ n ih => rw [sumN, sumN, ih (fun k hk => h k (by omega)), h n (by omega)]
theorem sumN_add (a b : Nat) (f : Nat → Int) : sumN (a + b) f = sumN a f + sumN b (fun k => f (a + k)) := by
  induction b with
  | zero => simp [sumN]
  | succ b ih => rw [← Nat.add_assoc, sumN, ih, sumN]; omega
theorem sumN_mul (h w : Nat) (f : Nat → Int) : sumN (h * w) f = sumN h (fun y => sumN w (fun x => f (y * w + x))) := by
  induction h with
  | zero => simp [sumN]
  | succ h ih => rw [Nat.add_mul, Nat.one_mul, sumN_add, ih, sumN]
theorem sumN_none {a b : Nat} {f : Nat → Int} (hab : a ≤ b) (h : ∀ k, a ≤ k → k < b → f k = 0) : sumN b f = sumN a f := by
  obtain ⟨d, rfl⟩ := Nat.exists_eq_add_of_le hab
  rw [sumN_add]
  have : ∀ d, (∀ k, k < d → f (a + k) = 0) → sumN d (fun k => f (a + k)) = 0 := fun d => by
    induction d with
    | zero => intro _; rfl
    | succ d ih => intro hz; rw [sumN, ih (fun k hk => hz k (by omega)), hz d (by omega)]; rfl
  rw [this d (fun k hk => h (a + k) (by omega) (by omega))]
  omega
theorem sumN_bounds {n : Nat} {f : Nat → Int} {m : Int} (hm : 0 ≤ m) (h : ∀ k, k < n → 0 ≤ f k ∧ f k ≤ m) : 0 ≤ sumN n f ∧ sumN n f ≤ m * n := by
  induction n with
  | zero => simp [sumN]
  | succ n ih =>
    have i := ih (fun k hk => h k (by omega))
    have j := h n (by omega)
    rw [sumN, show ((n + 1 : Nat) : Int) = (n : Int) + 1 by omega, Int.mul_add, Int.mul_one]
    omega

theorem ok_grass {g : Nat → Int} (ho : okB g = true) : ∀ k, k < 100 → (0 ≤ g (2 + k) ∧ g (2 + k) ≤ 1000) ∧ (g (2 + k) ≠ 0 → isB g ((k % 10 : Nat) : Int) ((k / 10 : Nat) : Int) = true) := fun k hk => by
  unfold okB at ho
  rw [Bool.and_eq_true, List.all_eq_true] at ho
  have hr := ho.2 (k / 10) (List.mem_range.2 (by omega))
  unfold rowOk at hr
  rw [Bool.and_eq_true, Bool.and_eq_true, List.all_eq_true] at hr
  have hc := hr.1.1 (k % 10) (List.mem_range.2 (by omega))
  unfold cellOk at hc
  have e : 2 + k / 10 * 10 + k % 10 = 2 + k := by omega
  rw [e, Bool.and_eq_true] at hc
  refine ⟨inB_true hc.1, fun hne => ?_⟩
  have h1 := inB_true hc.1
  have h2 := hc.2
  rw [Bool.or_eq_true] at h2
  rcases h2 with h2 | h2
  · have := of_decide_eq_true h2; omega
  · exact h2

/-- The grass of some cells. -/
def sumL (g : Nat → Int) (l : List (Nat × Nat)) : Int := (l.map fun s => g (2 + s.2 * 10 + s.1)).sum
theorem sumL_snoc (g : Nat → Int) (l : List (Nat × Nat)) (u v : Nat) : sumL g (l ++ [(u, v)]) = sumL g l + g (2 + v * 10 + u) := by simp [sumL]
theorem sumL_bounds {g : Nat → Int} (hb : ∀ k, k < 100 → 0 ≤ g (2 + k) ∧ g (2 + k) ≤ 1000) (l : List (Nat × Nat)) (hl : ∀ s ∈ l, s.1 < 10 ∧ s.2 < 10) : 0 ≤ sumL g l ∧ sumL g l ≤ 1000 * l.length := by
  induction l with
  | nil => simp [sumL]
  | cons s l ih =>
    have i := ih (fun t ht => hl t (List.mem_cons_of_mem _ ht))
    have j := hl s List.mem_cons_self
    have k := hb (s.2 * 10 + s.1) (by omega)
    rw [← Nat.add_assoc] at k
    have e : sumL g (s :: l) = g (2 + s.2 * 10 + s.1) + sumL g l := by simp [sumL]
    rw [e, List.length_cons]
    omega
theorem sumL_all {g : Nat → Int} (ho : okB g = true) (W H : Nat) (hg0 : g 0 = W) (hg1 : g 1 = H) (hW : 1 ≤ W ∧ W ≤ 10) (hH : H ≤ 10) : sumL g (upto W (W * H)) = sumN 100 (fun k => g (2 + k)) := by
  have e1 : ∀ n : Nat, ∀ f : Nat → Int, ((List.range n).map f).sum = sumN n f := fun n f => by
    induction n with
    | zero => rfl
    | succ n ih => simp [List.range_succ, sumN, ih]
  have z := ok_grass ho
  have hz : ∀ x y : Nat, x < 10 → y < 10 → (W ≤ x ∨ H ≤ y) → g (2 + (y * 10 + x)) = 0 := fun x y hx hy h => by
    have := (z (y * 10 + x) (by omega)).2
    by_cases hne : g (2 + (y * 10 + x)) = 0
    · exact hne
    · have hi := this hne
      rw [show (y * 10 + x) % 10 = x by omega, show (y * 10 + x) / 10 = y by omega] at hi
      have hb := isB_bounds ho hi
      omega
  unfold sumL upto
  rw [List.map_map, e1, Nat.mul_comm W H, sumN_mul, show (100 : Nat) = 10 * 10 from rfl, sumN_mul]
  rw [sumN_none (a := H) (b := 10) hH (fun y h1 h2 => by
    rw [sumN_none (a := 0) (b := 10) (by omega) (fun x _ hx => hz x y hx h2 (.inr h1))]; rfl)]
  refine sumN_congr fun y hy => ?_
  rw [sumN_none (a := W) (b := 10) hW.2 (fun x h1 h2 => hz x y h2 (by omega) (.inl h1))]
  refine sumN_congr fun x hx => ?_
  simp only [Function.comp_apply, cellAt_row hx]
  congr 1; omega

theorem sum_start (g : Nat → Int) (k : Nat) (hk : k < 1) : upd (fun _ => Value.int .i64 0) 0 (.int .i64 0) k = .int .i64 (sumL g []) := by
  obtain rfl : k = 0 := by omega
  rfl

end Go.Proofs.YtjfmhnbbdkejeaaDoor

