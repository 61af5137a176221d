/-
  Several texts in one: Range, Conv, Valid, ValidB, HasCell, Slice, CodeOf.
-/
import Derived.Test.YtbmaljhnldepoaaDoorP3
import Derived.Laws.ResultCell
import Derived.Test.YtbmaljhnldepoaaDoorP1
import Derived.WalkKit
import Derived.OwnWalk
import Derived.BigQuiet
import Derived.Lib.Hide
import Derived.Test.YtbmaljhnldepoaaDoorP2
import Derived.Great.BuildSlice
/-
  A range over an iterator of spots, none of whose rounds breaks off; the function's end behind it.
-/
namespace Go.Proofs.YtbmaljhnldepoaaDoor
open Go Go.RowKit Go.Shelf Go.BigFrame

/-- How a round ends: on, with the spot's block ahead of the others. -/
def roundPost (b : Base) (L : Blocks) : Exit → Act → World → Prop
  | .normal, _, X' => Mem b L X'
  | _, _, _ => False

theorem range_spots {α : Type} {px py : α → Int} {g : Operand} {p q : Tmp} {id : Nat} {o1 o2 : Oper} {body : Code} {Q : Exit → Act → World → Prop} {a : Act} {w W1 : World} {ks : List Nat} (L : List α → Blocks)
    {gf : Nat} {lb : Array Value} {Kp : World → World → Prop} {S Sp : List α → Prop} {N : Nat}
    (hg : a.eval g = .func (.func gf) #[] lb) (eg : ∀ args w, (callFunc gf args).run Tryd.prog w = .ok (.enter gf args) w)
    (hseq : SeqStopsK Fence.wide 2 Tryd.prog gf lb (fun x => #[.agg (arr 2 (sp (px x) (py x)))]) Kp S Sp N W1) (hKt : ∀ {A B C : World}, Kp A B → Kp B C → Kp A C) (hKb : ∀ (W : World) (l : Nat) (o o' : Obj), W.heap[l]? = some o → o.isCells = false → Kp W (W.putObj l o'))
    (hks : ∀ pre, (L pre).map (·.1) = ks) (hkp : ∀ (b : Base) pre pre' X X' p, Mem b (L pre) X → Mem b (p :: L pre') X' → Kp X X')
    (h1 : o1.op = .alloc 37) (h1g : o1.guard = none) (h1d : o1.dst = some q) (h2 : o2.op = .store 37 (.tmp q) (.tmp p)) (h2g : o2.guard = none) (h2d : o2.dst = none) (hpq : p ≠ q) (hp : p < a.tmps.size) (hq : q < a.tmps.size)
    (hM : Mem w (L []) W1)
    (hbody : ∀ (l : Nat) (pre : List α) (x : α) (bx : Nat) (X : World), w.heap.size ≤ bx → Mem (Base.round w W1.heap.size X) ((bx, 2, sp (px x) (py x)) :: L pre) X → pre.length < N →
      body.wpIn (Fence.wide.inRound l) 1 Tryd.prog (roundPost (Base.round w W1.heap.size X) ((bx, 2, sp (px x) (py x)) :: L (pre ++ [x]))) { tmps := (a.tmps.setIfInBounds p (.agg (arr 2 (sp (px x) (py x))))).setIfInBounds q (.pointer (some ⟨bx, 0, none⟩)), defers := [] } X)
    (hdone : ∀ (D : Nat) (xs : List α) (X : World), W1.heap.size ≤ D → S xs → Mem w (L xs) X → X.heap[D]? = some (.deferred (some [])) → Q .normal { a with defers := { target := .collected D, args := #[] } :: a.defers } X) :
    (Code.rangeFunc g #[p] (.region id [o1, o2].toArray false) body).wpIn Fence.wide 3 Tryd.prog Q a W1 := by
  have hsz : w.heap.size ≤ W1.heap.size := hM.size
  refine wpIn_rangeFunc_ownH (F := Fence.wide) (n := 3) rfl (by omega) (gf := gf) (lb := lb) hg trivial eg hseq hKt (fun X l o o' _ h ho _ => hKb X l o o' h ho) (Below.refl _ _) (fun _ => rfl)
    (fun pre X => Mem w (L pre) X) (fun _ _ _ => False) (mem_ownFrom hsz L) (fun _ _ X Y row hs _ _ => hs.elim) hM
    (fun x a' X => ∃ bx, w.heap.size ≤ bx ∧ bx ∉ ks ∧ At X bx 2 (sp (px x) (py x)) ∧ a' = { tmps := (a.tmps.setIfInBounds p (.agg (arr 2 (sp (px x) (py x))))).setIfInBounds q (.pointer (some ⟨bx, 0, none⟩)), defers := [] })
    (fun x a' _ X Y row hs hgr hr => ?own) ?assign ?body ?done ?stop
  case own =>
    obtain ⟨bx, h1, h2, h3, h4⟩ := hs
    exact ⟨bx, h1, h2, h3.grown hgr (fun r e => (hr r e).2), h4⟩
  case assign =>
    intro l pre x X K hI hK
    have hM' : Mem (Base.round w W1.heap.size X) (L pre) X := hI.base ⟨hI.below, KeepsFrom.refl _ _⟩
    refine region_round (fun ⟨_, _, h⟩ => h) (by simp [noDefer, h1, h2]) ?_
    refine wpList_zero h1g _ h1 (zeroTab _ 2 (fun _ => .int .i8 0) rfl) hM' ?_
    intro bx X2 hbx hM2
    have ez : (#[p].zip #[Value.agg (arr 2 (sp (px x) (py x)))]).foldl (fun t (y : Tmp × Value) => t.setIfInBounds y.1 y.2) a.tmps = a.tmps.setIfInBounds p (.agg (arr 2 (sp (px x) (py x)))) := by simp
    rw [h1d]
    refine wpList_lay h2g _ _ _ h2 bx 0 ?_ 2 (sp (px x) (py x)) ?_ hM2 0 rfl hbx (rowTab _ _ rfl) (by omega) (fun _ _ => rfl) ?_
    · simp [Act.eval, Act.put, Array.getElem?_setIfInBounds, hq]
    · simp [Act.eval, Act.put, Array.getElem?_setIfInBounds, hp, Ne.symm hpq]
    · intro X3 hM3
      have hM3' := hM3.re 0 rfl (sp (px x) (py x)) (fun k hk => by simp [lay, hk])
      simp only [List.set_cons_zero] at hM3'
      rw [h2d]
      show K _ _
      refine hK _ _ hM3'.good.2 ?_ (hM3'.drop.base hM3'.good.1) ?_
      · exact hkp _ pre pre X X3 _ hM' hM3'
      · refine ⟨bx, hbx, fun hm => ?_, hM3'.at0, ?_⟩
        · rw [← hks pre] at hm
          obtain ⟨y, hy, e⟩ := List.mem_map.1 hm
          obtain ⟨i, hi⟩ := List.getElem?_of_mem hy
          exact hM3'.apart 0 (i + 1) _ y rfl (by simpa using hi) (by omega) e.symm
        · simp [Act.put]
  case body =>
    intro l pre x a' X hl hr hI hAx hlen
    obtain ⟨bx, hb, hn, hA, rfl⟩ := hAx
    have hM' : Mem (Base.round w W1.heap.size X) (L pre) X := hI.base ⟨hI.below, KeepsFrom.refl _ _⟩
    have hM2 : Mem (Base.round w W1.heap.size X) ((bx, 2, sp (px x) (py x)) :: L pre) X :=
      ⟨hM'.good, fun i b n f h => by
        cases i with
        | zero => simp at h; obtain ⟨rfl, rfl, rfl⟩ := h; exact hA
        | succ i => exact hM'.ats i b n f (by simpa using h),
       fun i j y z hi hj hne => by
        have off : ∀ (i : Nat) (y : Nat × Nat × (Nat → Value)), (L pre)[i]? = some y → y.1 ≠ bx := fun i y h e => hn (by
          rw [← hks pre, ← e]; exact List.mem_map_of_mem (List.mem_of_getElem? h))
        cases i with
        | zero =>
          cases j with
          | zero => exact absurd rfl hne
          | succ j => simp at hi hj; rw [← hi]; exact fun e => off j z hj e.symm
        | succ i =>
          cases j with
          | zero => simp at hi hj; rw [← hj]; exact off i y hi
          | succ j => exact hM'.apart i j y z (by simpa using hi) (by simpa using hj) (by omega)⟩
    refine Code.wpIn_mono (fun e a'' X' h => ?_) (hbody l pre x bx X hb hM2 hlen)
    cases e <;> first | exact (h : False).elim | skip
    have h' : Mem (Base.round w W1.heap.size X) ((bx, 2, sp (px x) (py x)) :: L (pre ++ [x])) X' := h
    exact ⟨h'.good.2, hkp _ pre (pre ++ [x]) X X' _ hM' h', h'.drop.base h'.good.1⟩
  case done =>
    intro D xs X hD hS hI hK
    exact hdone D xs X hD hS hI hK
  case stop =>
    intro D c pre X hD hS hI hK
    exact hI.elim

/-- The function's end behind such a loop. -/
theorem leave_marks {fn : Func} {tmps : Array Value} {R : Ending → World → Prop} {D : Nat} {X : World} (hK : X.heap[D]? = some (.deferred (some []))) (v : Value)
    (hr : (results fn tmps).run Tryd.prog (X.putObj D (.deferred none)) = .ok v (X.putObj D (.deferred none))) (hR : R (.returned v) (X.putObj D (.deferred none))) :
    LeavesInM Fence.wide 3 Tryd.prog fn tmps R [{ target := .collected D, args := #[] }] .returning X :=
  ⟨by simp, .inl ⟨_, _, rfl, run_takeDeferred hK, v, hr, hR⟩⟩
theorem below_mark {w X : World} {D : Nat} (hb : Below w.heap.size w X) (hD : w.heap.size ≤ D) : Below w.heap.size w (X.putObj D (.deferred none)) :=
  Below.grown hb (grownBy_putObj' X D _) hb.size (fun k e => by cases e; exact hD)
theorem at_mark {X : World} {D b n : Nat} {f : Nat → Value} (h : At X b n f) (hK : X.heap[D]? = some (.deferred (some []))) : At (X.putObj D (.deferred none)) b n f :=
  h.grown (grownBy_putObj' X D _) (fun r e => by cases e; exact ⟨_, hK, rfl⟩)

/-- A round's region that reads and calls first, and then follows the text. -/
theorem region_round_head {P : Program} {Q : Exit → Act → World → Prop} {a : Act} {W : World} {l n id : Nat} {r : List Oper} {w : Base} {L : Blocks} (m : Nat) (hL : ¬ LetsOut Q) (hd : r.all noDefer = true) (hm : P.follows .mixedOrders = true) (hB : Region.lexTailB .any r.toArray m = true) (hM : Mem w L W)
    (h : wpQuiet P r.toArray (Mem w L) (fun a' => ∀ W', Mem w L W' → wpList P r.toArray Q (r.drop m) a' W') (r.take m) a) : (Code.region id r.toArray true).wpIn (Fence.wide.inRound l) n P Q a W :=
  wpIn_region_any hm (any_round hL (by simpa using hd) _ _ _ _ (any_head (C := Mem w L) m hB hM.drew h))
/-- A block of a call that lets lie all that lay, beside those that are known. -/
theorem Mem.fresh {b0 : Base} {L : Blocks} {X X' : World} {b n : Nat} {f : Nat → Value} (hM : Mem b0 L X) (hb : Below X.heap.size X X') (ha : At X' b n f) (hge : X.heap.size ≤ b) : Mem b0 (L ++ [(b, n, f)]) X' :=
  (hM.call hb).old ha (fun i p h e => by
    have := (hM.ats i p.1 p.2.1 p.2.2 h).lt
    omega)
end Go.Proofs.YtbmaljhnldepoaaDoor

/-
  laws.toInt16A10, toInt16A10A10, toUint16A10, toPasture: each hands back what it is handed.
-/
namespace Go.Proofs.YtbmaljhnldepoaaDoor
open Go Go.RowKit Go.BigFrame

set_option maxHeartbeats 400000 in
theorem toInt16A10_any (f : Nat → Value) (h1 : ∀ k, (f k).oneCell' = true) (w : World) :
    Calls Tryd.prog 105 #[.agg (arr 10 f)] w fun e w' => e = .returned (.agg (arr 10 f)) ∧ Below w.heap.size w w' := by
  have hM := Mem.nil w
  have tk_b1 : True := trivial; have tk_b2 : True := trivial; have tk_b3 : True := trivial
  go_enter Tryd.func105, Tryd.ntmps105
  go_wp2_with (first | (have _t := tk_b1; refine wpList_box rfl _ _ rfl _ _ rfl hM ?_; intro b1 W' hb1 hM'; clear hM tk_b1; have hM := hM'; clear hM') | (have _t := tk_b2; refine wpList_zero rfl _ rfl (zeroTab _ _ _ rfl) hM ?_; intro b2 W' hb2 hM'; clear hM tk_b2; have hM := hM'; clear hM') | (have _t := tk_b3; refine wpList_zero rfl _ rfl (zeroTab _ _ _ rfl) hM ?_; intro b3 W' hb3 hM'; clear hM tk_b3; have hM := hM'; clear hM'))
  go_loopw [4] (fun i wr => ∃ k : Nat, k ≤ 10 ∧ i = .int .i64 k ∧ ∃ g, (∀ j, j < k → g j = f j) ∧ Mem w [(b3, 10, g), (b2, 10, fun _ => .int .i16 0), (b1, 10, f)] wr) (fun i _ => 10 - (intOf i).toNat)
  case atStart => exact ⟨0, by omega, rfl, _, fun j hj => absurd hj (by omega), hM⟩
  case round =>
    obtain ⟨k, hk, rfl, g, hg, hM⟩ := hrel
    by_cases hlt : k < 10
    · go_wp2_with (first | (refine wpList_get1 rfl _ _ rfl _ _ rfl hM 2 rfl (cellTab _ rfl) (by omega) _ rfl ?_) | (refine wpList_set1 rfl _ _ _ rfl _ _ rfl _ rfl ?_ hM 0 rfl (by assumption) (cellTab _ rfl) (by omega) ?_; (first | rfl | exact h1 _); intro W' hM'; clear hM; have hM := hM'; clear hM'; simp [List.set, Act.eval] at hM))
      go_roundw
      case rel => exact ⟨k + 1, by omega, by go_num, _, fun j hj => by
        by_cases e : j = k
        · subst e; simp [upd]
        · simp [upd, e, hg j (by omega)], hM⟩
      case measure => simp [intOf]; omega
    · obtain rfl : k = 10 := by omega
      have hM := hM.re 0 rfl f hg
      clear hg
      simp only [List.set] at hM
      go_wp2_with (first | (refine wpList_get rfl _ _ rfl _ _ rfl hM 0 rfl (rowTab _ _ rfl) (by omega) ?_) | (refine wpList_lay rfl _ _ _ rfl _ _ rfl _ _ rfl hM 1 rfl (by assumption) (rowTab _ _ rfl) (by omega) ?_ ?_; (first | (intro _ _; rfl) | (intro k _; exact h1 _) | (intro k _; simp only [lay, upd]; (repeat' split) <;> first | exact h1 _ | rfl)); intro W' hM'; clear hM; have hM := hM'; clear hM'; simp only [List.set] at hM))
      have hA := (hM.ats 1 _ _ _ rfl).congr (g := f) (fun k hk => by simp [lay, hk])
      exact bodyPost_ret (results_at rfl _ rfl hA (rowTab _ _ rfl)) rfl ⟨rfl, hM.below⟩
set_option maxHeartbeats 400000 in
theorem toUint16A10_any (f : Nat → Value) (h1 : ∀ k, (f k).oneCell' = true) (w : World) :
    Calls Tryd.prog 54 #[.agg (arr 10 f)] w fun e w' => e = .returned (.agg (arr 10 f)) ∧ Below w.heap.size w w' := by
  have hM := Mem.nil w
  have tk_b1 : True := trivial; have tk_b2 : True := trivial; have tk_b3 : True := trivial
  go_enter Tryd.func54, Tryd.ntmps54
  go_wp2_with (first | (have _t := tk_b1; refine wpList_box rfl _ _ rfl _ _ rfl hM ?_; intro b1 W' hb1 hM'; clear hM tk_b1; have hM := hM'; clear hM') | (have _t := tk_b2; refine wpList_zero rfl _ rfl (zeroTab _ _ _ rfl) hM ?_; intro b2 W' hb2 hM'; clear hM tk_b2; have hM := hM'; clear hM') | (have _t := tk_b3; refine wpList_zero rfl _ rfl (zeroTab _ _ _ rfl) hM ?_; intro b3 W' hb3 hM'; clear hM tk_b3; have hM := hM'; clear hM'))
  go_loopw [4] (fun i wr => ∃ k : Nat, k ≤ 10 ∧ i = .int .i64 k ∧ ∃ g, (∀ j, j < k → g j = f j) ∧ Mem w [(b3, 10, g), (b2, 10, fun _ => .int .u16 0), (b1, 10, f)] wr) (fun i _ => 10 - (intOf i).toNat)
  case atStart => exact ⟨0, by omega, rfl, _, fun j hj => absurd hj (by omega), hM⟩
  case round =>
    obtain ⟨k, hk, rfl, g, hg, hM⟩ := hrel
    by_cases hlt : k < 10
    · go_wp2_with (first | (refine wpList_get1 rfl _ _ rfl _ _ rfl hM 2 rfl (cellTab _ rfl) (by omega) _ rfl ?_) | (refine wpList_set1 rfl _ _ _ rfl _ _ rfl _ rfl ?_ hM 0 rfl (by assumption) (cellTab _ rfl) (by omega) ?_; (first | rfl | exact h1 _); intro W' hM'; clear hM; have hM := hM'; clear hM'; simp [List.set, Act.eval] at hM))
      go_roundw
      case rel => exact ⟨k + 1, by omega, by go_num, _, fun j hj => by
        by_cases e : j = k
        · subst e; simp [upd]
        · simp [upd, e, hg j (by omega)], hM⟩
      case measure => simp [intOf]; omega
    · obtain rfl : k = 10 := by omega
      have hM := hM.re 0 rfl f hg
      clear hg
      simp only [List.set] at hM
      go_wp2_with (first | (refine wpList_get rfl _ _ rfl _ _ rfl hM 0 rfl (rowTab _ _ rfl) (by omega) ?_) | (refine wpList_lay rfl _ _ _ rfl _ _ rfl _ _ rfl hM 1 rfl (by assumption) (rowTab _ _ rfl) (by omega) ?_ ?_; (first | (intro _ _; rfl) | (intro k _; exact h1 _) | (intro k _; simp only [lay, upd]; (repeat' split) <;> first | exact h1 _ | rfl)); intro W' hM'; clear hM; have hM := hM'; clear hM'; simp only [List.set] at hM))
      have hA := (hM.ats 1 _ _ _ rfl).congr (g := f) (fun k hk => by simp [lay, hk])
      exact bodyPost_ret (results_at rfl _ rfl hA (rowTab _ _ rfl)) rfl ⟨rfl, hM.below⟩
set_option maxHeartbeats 400000 in
theorem toInt16A10A10_any (f : Nat → Value) (h1 : ∀ k, (f k).oneCell' = true) (w : World) :
    Calls Tryd.prog 53 #[.agg (arr 100 f)] w fun e w' => e = .returned (.agg (arr 100 f)) ∧ Below w.heap.size w w' := by
  have hM := Mem.nil w
  have tk_b1 : True := trivial; have tk_b2 : True := trivial; have tk_b3 : True := trivial
  go_enter Tryd.func53, Tryd.ntmps53
  go_wp2_with (first | (have _t := tk_b1; refine wpList_box rfl _ _ rfl _ _ rfl hM ?_; intro b1 W' hb1 hM'; clear hM tk_b1; have hM := hM'; clear hM') | (have _t := tk_b2; refine wpList_zero rfl _ rfl (zeroTab _ _ _ rfl) hM ?_; intro b2 W' hb2 hM'; clear hM tk_b2; have hM := hM'; clear hM') | (have _t := tk_b3; refine wpList_zero rfl _ rfl (zeroTab _ _ _ rfl) hM ?_; intro b3 W' hb3 hM'; clear hM tk_b3; have hM := hM'; clear hM'))
  go_loopw [4] (fun i wr => ∃ k : Nat, k ≤ 10 ∧ i = .int .i64 k ∧ ∃ g, (∀ j, j < k * 10 → g j = f j) ∧ Mem w [(b3, 100, g), (b2, 100, fun _ => .int .i16 0), (b1, 100, f)] wr) (fun i _ => 10 - (intOf i).toNat)
  case atStart => exact ⟨0, by omega, rfl, _, fun j hj => absurd hj (by omega), hM⟩
  case round =>
    obtain ⟨k, hk, rfl, g, hg, hM⟩ := hrel
    by_cases hlt : k < 10
    · go_wp2_with (first | (refine wpList_get rfl _ _ rfl _ _ rfl hM 2 rfl (rowTab _ _ rfl) (by omega) ?_) | (go_at_call 105; refine (toInt16A10_any _ (fun _ => h1 _) _).mono ?_; rintro e W' ⟨rfl, hb'⟩; have hM' := hM.call hb'; clear hM hb'; have hM := hM'; clear hM') | (refine wpList_lay rfl _ _ _ rfl _ _ rfl _ _ rfl hM 0 rfl (by assumption) (rowTab _ _ rfl) (by omega) ?_ ?_; (first | (intro _ _; rfl) | (intro k _; exact h1 _) | (intro k _; simp only [lay, upd]; (repeat' split) <;> first | exact h1 _ | rfl)); intro W' hM'; clear hM; have hM := hM'; clear hM'; simp only [List.set] at hM))
      go_roundw
      case rel => exact ⟨k + 1, by omega, by go_num, _, fun j hj => by
        by_cases e : k * 10 ≤ j
        · have : j - k * 10 < 10 := by omega
          have e2 : k * 10 + (j - k * 10) = j := by omega
          have e3 : j < k * 10 + 10 := by omega
          simp [lay, e, e2, e3]
        · simp [lay, e, hg j (by omega)], hM⟩
      case measure => simp [intOf]; omega
    · obtain rfl : k = 10 := by omega
      have hM := hM.re 0 rfl f hg
      clear hg
      simp only [List.set] at hM
      go_wp2_with (first | (refine wpList_get rfl _ _ rfl _ _ rfl hM 0 rfl (rowTab _ _ rfl) (by omega) ?_) | (refine wpList_lay rfl _ _ _ rfl _ _ rfl _ _ rfl hM 1 rfl (by assumption) (rowTab _ _ rfl) (by omega) ?_ ?_; (first | (intro _ _; rfl) | (intro k _; exact h1 _) | (intro k _; simp only [lay, upd]; (repeat' split) <;> first | exact h1 _ | rfl)); intro W' hM'; clear hM; have hM := hM'; clear hM'; simp only [List.set] at hM))
      have hA := (hM.ats 1 _ _ _ rfl).congr (g := f) (fun k hk => by simp [lay, hk])
      exact bodyPost_ret (results_at rfl _ rfl hA (rowTab _ _ rfl)) rfl ⟨rfl, hM.below⟩
set_option maxHeartbeats 400000 in
theorem toPasture_any (f : Nat → Value) (h1 : ∀ k, (f k).oneCell' = true) (w : World) :
    Calls Tryd.prog 16 #[.agg (arr 122 f)] w fun e w' => e = .returned (.agg (arr 122 f)) ∧ Below w.heap.size w w' := by
  have hM := Mem.nil w
  have tk_b1 : True := trivial; have tk_b2 : True := trivial; have tk_b3 : True := trivial
  go_enter Tryd.func16, Tryd.ntmps16
  go_wp2_with (first | (have _t := tk_b1; refine wpList_box rfl _ _ rfl _ _ rfl hM ?_; intro b1 W' hb1 hM'; clear hM tk_b1; have hM := hM'; clear hM') | (have _t := tk_b2; refine wpList_zero rfl _ rfl (zeroTab _ _ _ rfl) hM ?_; intro b2 W' hb2 hM'; clear hM tk_b2; have hM := hM'; clear hM') | (have _t := tk_b3; refine wpList_zero rfl _ rfl (zeroTab _ _ _ rfl) hM ?_; intro b3 W' hb3 hM'; clear hM tk_b3; have hM := hM'; clear hM') | (refine wpList_get1 rfl _ _ rfl _ _ rfl hM 2 rfl (cellTab _ rfl) (by omega) _ rfl ?_) | (refine wpList_set1 rfl _ _ _ rfl _ _ rfl _ rfl ?_ hM 0 rfl (by assumption) (cellTab _ rfl) (by omega) ?_; (first | rfl | exact h1 _); intro W' hM'; clear hM; have hM := hM'; clear hM'; simp [List.set, Act.eval] at hM) | (refine wpList_get rfl _ _ rfl _ _ rfl hM 2 rfl (rowTab _ _ rfl) (by omega) ?_) | (go_at_call 53; refine (toInt16A10A10_any _ (fun _ => h1 _) _).mono ?_; rintro e W' ⟨rfl, hb'⟩; have hM' := hM.call hb'; clear hM hb'; have hM := hM'; clear hM') | (go_at_call 54; refine (toUint16A10_any _ (fun _ => h1 _) _).mono ?_; rintro e W' ⟨rfl, hb'⟩; have hM' := hM.call hb'; clear hM hb'; have hM := hM'; clear hM') | (refine wpList_lay rfl _ _ _ rfl _ _ rfl _ _ rfl hM 0 rfl (by assumption) (rowTab _ _ rfl) (by omega) ?_ ?_; (first | (intro _ _; rfl) | (intro k _; exact h1 _) | (intro k _; simp only [lay, upd]; (repeat' split) <;> first | exact h1 _ | rfl)); intro W' hM'; clear hM; have hM := hM'; clear hM'; simp only [List.set] at hM) | (refine wpList_get rfl _ _ rfl _ _ rfl hM 0 rfl (rowTab _ _ rfl) (by omega) ?_) | (refine wpList_lay rfl _ _ _ rfl _ _ rfl _ _ rfl hM 1 rfl (by assumption) (rowTab _ _ rfl) (by omega) ?_ ?_; (first | (intro _ _; rfl) | (intro k _; exact h1 _) | (intro k _; simp only [lay, upd]; (repeat' split) <;> first | exact h1 _ | rfl)); intro W' hM'; clear hM; have hM := hM'; clear hM'; simp only [List.set] at hM))
  have hA := (hM.ats 1 _ _ _ rfl).congr (g := f) (fun k hk => by
    simp only [lay, upd]
    (repeat' split) <;> first | (congr 1; omega) | (exfalso; omega))
  exact bodyPost_ret (results_at rfl _ rfl hA (rowTab _ _ rfl)) rfl ⟨rfl, hM.below⟩
theorem toPasture_pas (g : Nat → Int) (w : World) :
    Calls Tryd.prog 16 #[.agg (arr 122 (pas g))] w fun e w' => e = .returned (.agg (arr 122 (pas g))) ∧ Below w.heap.size w w' := toPasture_any _ (fun _ => rfl) w
end Go.Proofs.YtbmaljhnldepoaaDoor

/-
  impl.ValidPasture by contract.
-/
namespace Go.Proofs.YtbmaljhnldepoaaDoor
open Go Go.RowKit Go.BigFrame

/-- Is a pasture valid, as impl asks it? -/
def validB (g : Nat → Int) : Bool := inB 1 10 (g 0) && inB 1 10 (g 1) && (grassB g (g 0).toNat (g 1).toNat && hurB g)

set_option maxRecDepth 100000 in
set_option maxHeartbeats 2000000 in
theorem implValid_any (g : Nat → Int) (hg : Fits g) (w : World) :
    Calls Tryd.prog 106 #[.agg (arr 122 (pas g))] w fun e w' => e = .returned (.bool (validB g)) ∧ Below w.heap.size w w' := by
  have hM := Mem.nil w
  have e0 : pas g 0 = .int .i8 (g 0) := rfl
  have e1 : pas g 1 = .int .i8 (g 1) := rfl
  have hw := hg.w
  have hh := hg.h
  have tk_b1 : True := trivial
  rcases (show g 0 < 1 ∨ (¬ g 0 < 1 ∧ 10 < g 0) ∨ (¬ g 0 < 1 ∧ ¬ 10 < g 0) by omega) with r0 | ⟨r0, r1⟩ | ⟨r0, r1⟩
  · have hf : Hid (validB g = false) := Lib.hid (by simp [validB, inB_no (show ¬ (1 ≤ g 0 ∧ g 0 ≤ 10) by omega)])
    have d0 : decide (g 0 < 1) = true := decide_eq_true r0
    go_enter Tryd.func106, Tryd.ntmps106
    go_wp2_with (first | (have _t := tk_b1; refine wpList_box rfl _ _ rfl _ _ rfl hM ?_; intro b1 W' hb1 hM'; clear hM tk_b1; have hM := hM'; clear hM') | (refine wpList_get1 rfl _ _ rfl _ _ rfl hM 0 rfl (cellTab _ rfl) (by omega) _ rfl ?_) | (refine wpList_gget1 ?_ _ _ rfl _ _ rfl hM 0 rfl (cellTab _ rfl) (by omega) _ rfl ?_; kernel_rfl))
    go_ret
    exact ⟨ret_bool hf.out.symm, hM.below⟩
  · have hf : Hid (validB g = false) := Lib.hid (by simp [validB, inB_no (show ¬ (1 ≤ g 0 ∧ g 0 ≤ 10) by omega)])
    have d0 : decide (g 0 < 1) = false := decide_eq_false r0
    have d1 : decide (10 < g 0) = true := decide_eq_true r1
    go_enter Tryd.func106, Tryd.ntmps106
    go_wp2_with (first | (have _t := tk_b1; refine wpList_box rfl _ _ rfl _ _ rfl hM ?_; intro b1 W' hb1 hM'; clear hM tk_b1; have hM := hM'; clear hM') | (refine wpList_get1 rfl _ _ rfl _ _ rfl hM 0 rfl (cellTab _ rfl) (by omega) _ rfl ?_) | (refine wpList_gget1 ?_ _ _ rfl _ _ rfl hM 0 rfl (cellTab _ rfl) (by omega) _ rfl ?_; kernel_rfl))
    go_ret
    exact ⟨ret_bool hf.out.symm, hM.below⟩
  have d0 : decide (g 0 < 1) = false := decide_eq_false r0
  have d1 : decide (10 < g 0) = false := decide_eq_false r1
  rcases (show g 1 < 1 ∨ (¬ g 1 < 1 ∧ 10 < g 1) ∨ (¬ g 1 < 1 ∧ ¬ 10 < g 1) by omega) with q0 | ⟨q0, q1⟩ | ⟨q0, q1⟩
  · have hf : Hid (validB g = false) := Lib.hid (by simp [validB, inB_no (show ¬ (1 ≤ g 1 ∧ g 1 ≤ 10) by omega)])
    have d2 : decide (g 1 < 1) = true := decide_eq_true q0
    go_enter Tryd.func106, Tryd.ntmps106
    go_wp2_with (first | (have _t := tk_b1; refine wpList_box rfl _ _ rfl _ _ rfl hM ?_; intro b1 W' hb1 hM'; clear hM tk_b1; have hM := hM'; clear hM') | (refine wpList_get1 rfl _ _ rfl _ _ rfl hM 0 rfl (cellTab _ rfl) (by omega) _ rfl ?_) | (refine wpList_gget1 ?_ _ _ rfl _ _ rfl hM 0 rfl (cellTab _ rfl) (by omega) _ rfl ?_; kernel_rfl))
    go_ret
    exact ⟨ret_bool hf.out.symm, hM.below⟩
  · have hf : Hid (validB g = false) := Lib.hid (by simp [validB, inB_no (show ¬ (1 ≤ g 1 ∧ g 1 ≤ 10) by omega)])
    have d2 : decide (g 1 < 1) = false := decide_eq_false q0
    have d3 : decide (10 < g 1) = true := decide_eq_true q1
    go_enter Tryd.func106, Tryd.ntmps106
    go_wp2_with (first | (have _t := tk_b1; refine wpList_box rfl _ _ rfl _ _ rfl hM ?_; intro b1 W' hb1 hM'; clear hM tk_b1; have hM := hM'; clear hM') | (refine wpList_get1 rfl _ _ rfl _ _ rfl hM 0 rfl (cellTab _ rfl) (by omega) _ rfl ?_) | (refine wpList_gget1 ?_ _ _ rfl _ _ rfl hM 0 rfl (cellTab _ rfl) (by omega) _ rfl ?_; kernel_rfl))
    go_ret
    exact ⟨ret_bool hf.out.symm, hM.below⟩
  have d2 : decide (g 1 < 1) = false := decide_eq_false q0
  have d3 : decide (10 < g 1) = false := decide_eq_false q1
  have hgr := fun W => hasValidGrass_any g hg (g 0).toNat (g 1).toNat (by omega) (by omega) (by omega) (by omega) W
  have hhr := fun W => hasValidHurdles_any g hg (by omega) (by omega) W
  have hv : Hid (validB g = (grassB g (g 0).toNat (g 1).toNat && hurB g)) := Lib.hid (by simp [validB, inB_yes (show 1 ≤ g 0 ∧ g 0 ≤ 10 by omega), inB_yes (show 1 ≤ g 1 ∧ g 1 ≤ 10 by omega)])
  cases hB : grassB g (g 0).toNat (g 1).toNat
  · rw [hB] at hgr
    have hf : Hid (validB g = false) := Lib.hid (by rw [hv.out, hB]; rfl)
    go_enter Tryd.func106, Tryd.ntmps106
    go_wp2_with (first | (have _t := tk_b1; refine wpList_box rfl _ _ rfl _ _ rfl hM ?_; intro b1 W' hb1 hM'; clear hM tk_b1; have hM := hM'; clear hM') | (refine wpList_get1 rfl _ _ rfl _ _ rfl hM 0 rfl (cellTab _ rfl) (by omega) _ rfl ?_) | (refine wpList_get rfl _ _ rfl _ _ rfl hM 0 rfl (rowTab _ _ rfl) (by omega) ?_) | (go_at_call 141; refine (hgr _).mono ?_; rintro e W' ⟨rfl, hb'⟩; have hM' := hM.call hb'; clear hM hb'; have hM := hM'; clear hM') | (refine wpList_gget1 ?_ _ _ rfl _ _ rfl hM 0 rfl (cellTab _ rfl) (by omega) _ rfl ?_; kernel_rfl))
    go_ret
    exact ⟨ret_bool hf.out.symm, hM.below⟩
  · rw [hB] at hgr
    have hf : Hid (validB g = hurB g) := Lib.hid (by rw [hv.out, hB]; rfl)
    go_enter Tryd.func106, Tryd.ntmps106
    go_wp2_with (first | (have _t := tk_b1; refine wpList_box rfl _ _ rfl _ _ rfl hM ?_; intro b1 W' hb1 hM'; clear hM tk_b1; have hM := hM'; clear hM') | (refine wpList_get1 rfl _ _ rfl _ _ rfl hM 0 rfl (cellTab _ rfl) (by omega) _ rfl ?_) | (refine wpList_get rfl _ _ rfl _ _ rfl hM 0 rfl (rowTab _ _ rfl) (by omega) ?_) | (go_at_call 141; refine (hgr _).mono ?_; rintro e W' ⟨rfl, hb'⟩; have hM' := hM.call hb'; clear hM hb'; have hM := hM'; clear hM') | (go_at_call 142; refine (hhr _).mono ?_; rintro e W' ⟨rfl, hb'⟩; have hM' := hM.call hb'; clear hM hb'; have hM := hM'; clear hM') | (refine wpList_gget1 ?_ _ _ rfl _ _ rfl hM 0 rfl (cellTab _ rfl) (by omega) _ rfl ?_; kernel_rfl) | (refine wpList_gget ?_ _ _ rfl _ _ rfl hM 0 rfl (rowTab _ _ rfl) (by omega) ?_; kernel_rfl))
    go_ret
    exact ⟨ret_bool hf.out.symm, hM.below⟩
end Go.Proofs.YtbmaljhnldepoaaDoor

/-
  The document's 'valid' both ways: row by row over all 100 places, or cell by cell over the pasture's own and nothing behind them.
-/
namespace Go.Proofs.YtbmaljhnldepoaaDoor
open Go Go.RowKit

theorem isB_iff {g : Nat → Int} {W H x y : Nat} (hg0 : g 0 = W) (hg1 : g 1 = H) : isB g x y = true ↔ x < W ∧ y < H := by
  simp only [isB, inB, Bool.and_eq_true, decide_eq_true_eq, hg0, hg1]; omega
theorem upto_mem {W H x y : Nat} (h : (x, y) ∈ upto W (W * H)) : x < W ∧ y < H := by
  unfold upto at h
  obtain ⟨i, hi, e⟩ := List.mem_map.1 h
  have hi := List.mem_range.1 hi
  unfold cellAt at e
  have e1 : i % W = x := congrArg Prod.fst e
  have e2 : i / W = y := congrArg Prod.snd e
  have hW : 0 < W := by
    cases W with
    | zero => simp at hi
    | succ n => omega
  exact ⟨by rw [← e1]; exact Nat.mod_lt _ hW, by rw [← e2]; exact Nat.div_lt_of_lt_mul hi⟩

theorem cellOk_iff {g : Nat → Int} {W H x y : Nat} (hg0 : g 0 = W) (hg1 : g 1 = H) : cellOk g y x = true ↔ (0 ≤ g (2 + (y * 10 + x)) ∧ g (2 + (y * 10 + x)) ≤ 1000) ∧ (g (2 + (y * 10 + x)) = 0 ∨ (x < W ∧ y < H)) := by
  have e : 2 + y * 10 + x = 2 + (y * 10 + x) := by omega
  unfold cellOk
  rw [e, Bool.and_eq_true, Bool.or_eq_true, isB_iff hg0 hg1]
  simp only [inB, decide_eq_true_eq]
  omega

theorem cells_grass {g : Nat → Int} {W H : Nat} (hg0 : g 0 = W) (hg1 : g 1 = H) (hW : W ≤ 10) (hH : H ≤ 10) :
    (∀ y, y < 10 → ∀ x, x < 10 → cellOk g y x = true) ↔ grassB g W H = true := by
  unfold grassB
  rw [Bool.and_eq_true, List.all_eq_true, eqTo_iff]
  constructor
  · intro h
    refine ⟨fun s hs => ?_, fun k hk => ?_⟩
    · obtain ⟨x, y⟩ := s
      obtain ⟨hx, hy⟩ := upto_mem hs
      exact inB_yes ((cellOk_iff hg0 hg1).1 (h y (by omega) x (by omega))).1
    · have hx : k % 10 < 10 := Nat.mod_lt _ (by omega)
      have ek : k / 10 * 10 + k % 10 = k := by omega
      have hr := restAt_of (g := g) (l := upto W (W * H)) (x := k % 10) (y := k / 10) hx
      rw [ek] at hr
      rw [hr]
      split
      · rfl
      · rename_i hn
        have hc := ((cellOk_iff hg0 hg1).1 (h (k / 10) (by omega) (k % 10) hx)).2
        rw [ek] at hc
        rcases hc with hc | hc
        · exact hc
        · exact absurd (mem_upto hc.1 hc.2) hn
  · rintro ⟨h1, h2⟩ y hy x hx
    rw [cellOk_iff hg0 hg1]
    by_cases hin : x < W ∧ y < H
    · have := inB_true (h1 _ (mem_upto hin.1 hin.2))
      exact ⟨this, .inr hin⟩
    · have hr := h2 (y * 10 + x) (by omega)
      rw [restAt_of hx, if_neg (fun hm => hin (upto_mem hm))] at hr
      exact ⟨by omega, .inl hr⟩

theorem okB_eq (g : Nat → Int) : okB g = validB g := by
  unfold okB validB
  cases b0 : inB 1 10 (g 0)
  · rfl
  cases b1 : inB 1 10 (g 1)
  · rfl
  have h0 := inB_true b0
  have h1 := inB_true b1
  have hg0 : g 0 = ((g 0).toNat : Int) := by omega
  have hg1 : g 1 = ((g 1).toNat : Int) := by omega
  have key := cells_grass hg0 hg1 (by omega) (by omega)
  simp only [Bool.true_and]
  rw [Bool.eq_iff_iff, Bool.and_eq_true, ← key, List.all_eq_true]
  unfold hurB
  rw [List.all_eq_true]
  constructor
  · intro h
    have h' : ∀ y, y < 10 → (∀ x, x < 10 → cellOk g y x = true) ∧ badE g y = false ∧ badS g y = false := fun y hy => by
      have hr := h y (List.mem_range.2 hy)
      unfold rowOk at hr
      rw [Bool.and_eq_true, Bool.and_eq_true, List.all_eq_true] at hr
      exact ⟨fun x hx => hr.1.1 x (List.mem_range.2 hx), by simpa using hr.1.2, by simpa using hr.2⟩
    exact ⟨fun y hy => (h' y hy).1, fun y hy => by have := h' y (List.mem_range.1 hy); simp [this.2.1, this.2.2]⟩
  · rintro ⟨h1, h2⟩ y hy
    have hy' := List.mem_range.1 hy
    have h3 := h2 y hy
    rw [Bool.and_eq_true] at h3
    unfold rowOk
    rw [Bool.and_eq_true, Bool.and_eq_true, List.all_eq_true]
    exact ⟨⟨fun x hx => h1 y hy' x (List.mem_range.1 hx), h3.1⟩, h3.2⟩
end Go.Proofs.YtbmaljhnldepoaaDoor

/-
  (impl.Pasture).hasCell by contract.
-/
namespace Go.Proofs.YtbmaljhnldepoaaDoor
open Go Go.RowKit Go.BigFrame

set_option maxHeartbeats 4000000 in
theorem hasCell_any (g : Nat → Int) (x y : Int) (w : World) :
    Calls Tryd.prog 79 #[.agg (arr 122 (pas g)), .agg (arr 2 (sp x y))] w fun e w' => e = .returned (.bool (isB g x y)) ∧ Below w.heap.size w w' := by
  have hM := Mem.nil w
  have e0 : pas g 0 = .int .i8 (g 0) := rfl
  have e1 : pas g 1 = .int .i8 (g 1) := rfl
  have e2 : sp x y 0 = .int .i8 x := rfl
  have e3 : sp x y 1 = .int .i8 y := rfl
  have tk_b1 : True := trivial; have tk_b2 : True := trivial
  rcases (show x < 0 ∨ (0 ≤ x ∧ g 0 ≤ x) ∨ (0 ≤ x ∧ x < g 0) by omega) with r0 | ⟨r0, r1⟩ | ⟨r0, r1⟩
  · have hf : Hid (isB g x y = false) := Lib.hid (by simp [isB, inB_no (show ¬ (0 ≤ x ∧ x ≤ g 0 - 1) by omega)])
    have d0 : decide (0 ≤ x) = false := decide_eq_false (by omega)
    clear r0
    go_enter Tryd.func79, Tryd.ntmps79
    go_wp2_with (first | (have _t := tk_b1; refine wpList_box rfl _ _ rfl _ _ rfl hM ?_; intro b1 W' hb1 hM'; clear hM tk_b1; have hM := hM'; clear hM') | (have _t := tk_b2; refine wpList_box rfl _ _ rfl _ _ rfl hM ?_; intro b2 W' hb2 hM'; clear hM tk_b2; have hM := hM'; clear hM') | (refine wpList_get1 rfl _ _ rfl _ _ rfl hM 0 rfl (cellTab _ rfl) (by omega) _ rfl ?_) | (refine wpList_get1 rfl _ _ rfl _ _ rfl hM 1 rfl (cellTab _ rfl) (by omega) _ rfl ?_) | (refine wpList_gget1 ?_ _ _ rfl _ _ rfl hM 0 rfl (cellTab _ rfl) (by omega) _ rfl ?_; kernel_rfl) | (refine wpList_gget1 ?_ _ _ rfl _ _ rfl hM 1 rfl (cellTab _ rfl) (by omega) _ rfl ?_; kernel_rfl))
    go_ret
    exact ⟨ret_bool hf.out.symm, hM.below⟩
  · have hf : Hid (isB g x y = false) := Lib.hid (by simp [isB, inB_no (show ¬ (0 ≤ x ∧ x ≤ g 0 - 1) by omega)])
    have d0 : decide (0 ≤ x) = true := decide_eq_true (by omega)
    have d1 : decide (x < g 0) = false := decide_eq_false (by omega)
    clear r0 r1
    go_enter Tryd.func79, Tryd.ntmps79
    go_wp2_with (first | (have _t := tk_b1; refine wpList_box rfl _ _ rfl _ _ rfl hM ?_; intro b1 W' hb1 hM'; clear hM tk_b1; have hM := hM'; clear hM') | (have _t := tk_b2; refine wpList_box rfl _ _ rfl _ _ rfl hM ?_; intro b2 W' hb2 hM'; clear hM tk_b2; have hM := hM'; clear hM') | (refine wpList_get1 rfl _ _ rfl _ _ rfl hM 0 rfl (cellTab _ rfl) (by omega) _ rfl ?_) | (refine wpList_get1 rfl _ _ rfl _ _ rfl hM 1 rfl (cellTab _ rfl) (by omega) _ rfl ?_) | (refine wpList_gget1 ?_ _ _ rfl _ _ rfl hM 0 rfl (cellTab _ rfl) (by omega) _ rfl ?_; kernel_rfl) | (refine wpList_gget1 ?_ _ _ rfl _ _ rfl hM 1 rfl (cellTab _ rfl) (by omega) _ rfl ?_; kernel_rfl))
    go_ret
    exact ⟨ret_bool hf.out.symm, hM.below⟩
  have d0 : decide (0 ≤ x) = true := decide_eq_true (by omega)
  have d1 : decide (x < g 0) = true := decide_eq_true (by omega)
  have q0 := inB_yes (show 0 ≤ x ∧ x ≤ g 0 - 1 by omega)
  clear r0 r1
  rcases (show y < 0 ∨ (0 ≤ y ∧ g 1 ≤ y) ∨ (0 ≤ y ∧ y < g 1) by omega) with r0 | ⟨r0, r1⟩ | ⟨r0, r1⟩
  · have hf : Hid (isB g x y = false) := Lib.hid (by simp [isB, inB_no (show ¬ (0 ≤ y ∧ y ≤ g 1 - 1) by omega)])
    have d2 : decide (0 ≤ y) = false := decide_eq_false (by omega)
    clear r0 q0
    go_enter Tryd.func79, Tryd.ntmps79
    go_wp2_with (first | (have _t := tk_b1; refine wpList_box rfl _ _ rfl _ _ rfl hM ?_; intro b1 W' hb1 hM'; clear hM tk_b1; have hM := hM'; clear hM') | (have _t := tk_b2; refine wpList_box rfl _ _ rfl _ _ rfl hM ?_; intro b2 W' hb2 hM'; clear hM tk_b2; have hM := hM'; clear hM') | (refine wpList_get1 rfl _ _ rfl _ _ rfl hM 0 rfl (cellTab _ rfl) (by omega) _ rfl ?_) | (refine wpList_get1 rfl _ _ rfl _ _ rfl hM 1 rfl (cellTab _ rfl) (by omega) _ rfl ?_) | (refine wpList_gget1 ?_ _ _ rfl _ _ rfl hM 0 rfl (cellTab _ rfl) (by omega) _ rfl ?_; kernel_rfl) | (refine wpList_gget1 ?_ _ _ rfl _ _ rfl hM 1 rfl (cellTab _ rfl) (by omega) _ rfl ?_; kernel_rfl))
    go_ret
    exact ⟨ret_bool hf.out.symm, hM.below⟩
  · have hf : Hid (isB g x y = false) := Lib.hid (by simp [isB, inB_no (show ¬ (0 ≤ y ∧ y ≤ g 1 - 1) by omega)])
    have d2 : decide (0 ≤ y) = true := decide_eq_true (by omega)
    have d3 : decide (y < g 1) = false := decide_eq_false (by omega)
    clear r0 r1 q0
    go_enter Tryd.func79, Tryd.ntmps79
    go_wp2_with (first | (have _t := tk_b1; refine wpList_box rfl _ _ rfl _ _ rfl hM ?_; intro b1 W' hb1 hM'; clear hM tk_b1; have hM := hM'; clear hM') | (have _t := tk_b2; refine wpList_box rfl _ _ rfl _ _ rfl hM ?_; intro b2 W' hb2 hM'; clear hM tk_b2; have hM := hM'; clear hM') | (refine wpList_get1 rfl _ _ rfl _ _ rfl hM 0 rfl (cellTab _ rfl) (by omega) _ rfl ?_) | (refine wpList_get1 rfl _ _ rfl _ _ rfl hM 1 rfl (cellTab _ rfl) (by omega) _ rfl ?_) | (refine wpList_gget1 ?_ _ _ rfl _ _ rfl hM 0 rfl (cellTab _ rfl) (by omega) _ rfl ?_; kernel_rfl) | (refine wpList_gget1 ?_ _ _ rfl _ _ rfl hM 1 rfl (cellTab _ rfl) (by omega) _ rfl ?_; kernel_rfl))
    go_ret
    exact ⟨ret_bool hf.out.symm, hM.below⟩
  · have hf : Hid (isB g x y = true) := Lib.hid (by simp [isB, q0, inB_yes (show 0 ≤ y ∧ y ≤ g 1 - 1 by omega)])
    have d2 : decide (0 ≤ y) = true := decide_eq_true (by omega)
    have d3 : decide (y < g 1) = true := decide_eq_true (by omega)
    clear r0 r1 q0
    go_enter Tryd.func79, Tryd.ntmps79
    go_wp2_with (first | (have _t := tk_b1; refine wpList_box rfl _ _ rfl _ _ rfl hM ?_; intro b1 W' hb1 hM'; clear hM tk_b1; have hM := hM'; clear hM') | (have _t := tk_b2; refine wpList_box rfl _ _ rfl _ _ rfl hM ?_; intro b2 W' hb2 hM'; clear hM tk_b2; have hM := hM'; clear hM') | (refine wpList_get1 rfl _ _ rfl _ _ rfl hM 0 rfl (cellTab _ rfl) (by omega) _ rfl ?_) | (refine wpList_get1 rfl _ _ rfl _ _ rfl hM 1 rfl (cellTab _ rfl) (by omega) _ rfl ?_) | (refine wpList_gget1 ?_ _ _ rfl _ _ rfl hM 0 rfl (cellTab _ rfl) (by omega) _ rfl ?_; kernel_rfl) | (refine wpList_gget1 ?_ _ _ rfl _ _ rfl hM 1 rfl (cellTab _ rfl) (by omega) _ rfl ?_; kernel_rfl))
    go_ret
    exact ⟨ret_bool hf.out.symm, hM.below⟩

theorem sp_of {f : Nat → Value} {x y : Int} (h0 : f 0 = .int .i8 x) (h1 : f 1 = .int .i8 y) : arr 2 f = arr 2 (sp x y) := arr_congr fun k hk => by
  rcases (show k = 0 ∨ k = 1 by omega) with rfl | rfl
  · exact h0
  · exact h1
/-- The same over any two cells that hold the spot. -/
theorem hasCell_of (g : Nat → Int) (f : Nat → Value) (x y : Int) (h0 : f 0 = .int .i8 x) (h1 : f 1 = .int .i8 y) (w : World) :
    Calls Tryd.prog 79 #[.agg (arr 122 (pas g)), .agg (arr 2 f)] w fun e w' => e = .returned (.bool (isB g x y)) ∧ Below w.heap.size w w' := by
  rw [sp_of h0 h1]
  exact hasCell_any g x y w
end Go.Proofs.YtbmaljhnldepoaaDoor

/-
  PLAIN LAWS: slices of rows by value: a slice literal of one or two such elements is a new block.
-/
namespace Go.Proofs.YtbmaljhnldepoaaDoor
open Go Go.RowKit

theorem fold_lay (f : Nat → Value) (off : Nat) : ∀ (m : Nat) (cs : Array Value), off + m ≤ cs.size →
    (((List.range m).map f).zipIdx.foldl (fun cs x => cs.setIfInBounds (off + x.2) x.1) cs).size = cs.size ∧
    ∀ k : Nat, (((List.range m).map f).zipIdx.foldl (fun cs x => cs.setIfInBounds (off + x.2) x.1) cs)[k]? = if off ≤ k ∧ k < off + m then some (f (k - off)) else cs[k]?
  | 0, cs, _ => by
    refine ⟨rfl, fun k => ?_⟩
    rw [if_neg (by omega)]; rfl
  | m + 1, cs, h => by
    obtain ⟨i1, i2⟩ := fold_lay f off m cs (by omega)
    rw [List.range_succ, List.map_append, List.zipIdx_append, List.foldl_append]
    simp only [List.map_cons, List.map_nil, List.length_map, List.length_range, Nat.zero_add, List.zipIdx_cons, List.zipIdx_nil, List.foldl_cons, List.foldl_nil]
    refine ⟨by rw [Array.size_setIfInBounds, i1], fun k => ?_⟩
    rw [Array.getElem?_setIfInBounds, i2 k, i1]
    by_cases h1 : off + m = k
    · subst h1
      simp [show off + m < cs.size by omega]
    · simp only [h1, if_false]
      by_cases h2 : off ≤ k ∧ k < off + m
      · rw [if_pos h2, if_pos (by omega)]
      · rw [if_neg h2, if_neg (by omega)]

theorem fill_one {place : Nat → Option (Nat × Nat)} {cs : Array Value} {i off m : Nat} {f : Nat → Value} (hp : place i = some (off, m)) (hle : off + m ≤ cs.size) (rest : List (Nat × Value)) :
    ∃ cs', Instr.fill place cs ((i, .agg (arr m f)) :: rest) = Instr.fill place cs' rest ∧ cs'.size = cs.size ∧ ∀ k : Nat, cs'[k]? = if off ≤ k ∧ k < off + m then some (f (k - off)) else cs[k]? := by
  refine ⟨_, ?_, (fold_lay f off m cs hle).1, (fold_lay f off m cs hle).2⟩
  rw [Instr.fill, hp]
  have e1 : (decide ((Value.agg (arr m f)).cells.size ≠ m) || decide (off + (Value.agg (arr m f)).cells.size > cs.size)) = false := by
    simp [Value.cells, arr_size]; omega
  simp only [Value.cells] at e1 ⊢
  rw [← Array.foldl_toList, Array.toList_zipIdx, arr_toList]
  simp only [arr_size, ne_eq, not_true_eq_false, gt_iff_lt, show ¬ cs.size < off + m by omega, decide_false, Bool.or_self, Bool.false_eq_true, or_self, if_false]

variable {P : Program} {ops : Array Oper} {rest : List Oper} {o : Oper} {a : Act} {w : Base} {W : World} {Q : Exit → Act → World → Prop} {L : Blocks}
/-- A slice literal of one element that is a row of m cells: a new block. -/
theorem wpList_slice1 (hgd : o.guard = none) (t e : TypeId) (x : Operand) (ho : o.op = .buildSlice t 1 #[(0, x)]) (m : Nat) (f : Nat → Value) (hx : a.eval x = .agg (arr m f)) (z : Value)
    (hu : P.underlying t = some (.slice e)) (hz : (P.info? e).map (fun i => (i.size, i.zero)) = some (m, some z)) (hm : 0 < m) (hm' : m ≤ 1000) (hM : Mem w L W)
    (h : ∀ b W', w.B ≤ b → Mem w ((b, m, f) :: L) W' → wpList P ops Q rest (a.put o.dst (.slice (some ⟨b, 0, none⟩) 1 1)) W') : wpList P ops Q (o :: rest) a W := by
  obtain ⟨ie, hie, hq⟩ := Option.map_eq_some_iff.1 hz
  simp only [Prod.mk.injEq] at hq
  refine wpList_buildSlice hgd t e 1 _ ho (arr m f) ie z hu hie hq.2 (by rw [hq.1]; omega) (by rw [hq.1]; omega) ?_ (h _ _ hM.size (hM.alloc e m f))
  rw [hq.1]
  rw [show (Array.map (fun x => match x with | (i, x) => (i, a.eval x)) #[(0, x)]).toList = [(0, Value.agg (arr m f))] by simp [hx]]
  obtain ⟨cs, h1, h2, h3⟩ := fill_one (f := f) (place := fun i => some (i * m, m)) (i := 0) (off := 0 * m) (m := m) rfl (cs := (Array.range (1 * m)).map (z.cells[· % z.cells.size]!)) (by simp) []
  rw [h1, Instr.fill]
  refine congrArg some (arr_ext (by rw [h2]; simp) (fun k hk => ?_))
  rw [h3, if_pos (by omega)]; simp
/-- A slice literal of two such elements. -/
theorem wpList_slice2 (hgd : o.guard = none) (t e : TypeId) (x y : Operand) (ho : o.op = .buildSlice t 2 #[(0, x), (1, y)]) (m : Nat) (f g : Nat → Value) (hx : a.eval x = .agg (arr m f)) (hy : a.eval y = .agg (arr m g)) (z : Value)
    (hu : P.underlying t = some (.slice e)) (hz : (P.info? e).map (fun i => (i.size, i.zero)) = some (m, some z)) (hm : 0 < m) (hm' : m ≤ 1000) (hM : Mem w L W)
    (h : ∀ b W', w.B ≤ b → Mem w ((b, 2 * m, fun k => if k < m then f k else g (k - m)) :: L) W' → wpList P ops Q rest (a.put o.dst (.slice (some ⟨b, 0, none⟩) 2 2)) W') : wpList P ops Q (o :: rest) a W := by
  obtain ⟨ie, hie, hq⟩ := Option.map_eq_some_iff.1 hz
  simp only [Prod.mk.injEq] at hq
  refine wpList_buildSlice hgd t e 2 _ ho (arr (2 * m) fun k => if k < m then f k else g (k - m)) ie z hu hie hq.2 (by rw [hq.1]; omega) (by rw [hq.1]; omega) ?_ (h _ _ hM.size (hM.alloc e (2 * m) _))
  rw [hq.1]
  rw [show (Array.map (fun x => match x with | (i, x) => (i, a.eval x)) #[(0, x), (1, y)]).toList = [(0, Value.agg (arr m f)), (1, Value.agg (arr m g))] by simp [hx, hy]]
  obtain ⟨cs, h1, h2, h3⟩ := fill_one (f := f) (place := fun i => some (i * m, m)) (i := 0) (off := 0 * m) (m := m) rfl (cs := (Array.range (2 * m)).map (z.cells[· % z.cells.size]!)) (by simp; omega) [(1, Value.agg (arr m g))]
  rw [h1]
  have hs : cs.size = 2 * m := by rw [h2]; simp
  obtain ⟨ds, g1, g2, g3⟩ := fill_one (f := g) (place := fun i => some (i * m, m)) (i := 1) (off := 1 * m) (m := m) rfl (cs := cs) (by omega) []
  rw [g1, Instr.fill]
  refine congrArg some (arr_ext (by rw [g2, hs]) (fun k hk => ?_))
  rw [g3]
  by_cases hk2 : k < m
  · rw [if_neg (by omega), h3, if_pos (by omega)]; simp [hk2]
  · rw [if_pos (by omega)]; simp [hk2]
end Go.Proofs.YtbmaljhnldepoaaDoor

/-
  impl.codeOf by contract; what checkCells hands back.
-/
namespace Go.Proofs.YtbmaljhnldepoaaDoor
open Go Go.RowKit Go.BigFrame

theorem is_yes {a : Nat → Addr} (i : Nat) (w : World) :
    Calls Tryd.prog 107 #[errV (a i), errV (a i)] w fun e w' => e = .returned (.bool true) ∧ w = w' := (is_same _ w).mono fun _ _ h => ⟨h.1, h.2.symm⟩
theorem is_no {a : Nat → Addr} {w : World} (h : Errs a w) (i j : Nat) (hi : i < 7) (hj : j < 7) (e : i ≠ j) :
    Calls Tryd.prog 107 #[errV (a i), errV (a j)] w fun e w' => e = .returned (.bool false) ∧ w = w' := by
  obtain ⟨ca, ta, ha⟩ := h.cells i hi
  obtain ⟨cb, tb, hb⟩ := h.cells j hj
  exact (is_other _ _ ca cb ta tb w (h.apart i j hi hj e) ha hb).mono fun _ _ h => ⟨h.1, h.2.symm⟩

/-- The code of the k-th error. -/
def codeK (k : Nat) : Int :=
  match k with
  | 0 => 1
  | 1 => 2
  | 2 => 4
  | 3 => 5
  | 4 => 6
  | 5 => 3
  | _ => 7

set_option maxRecDepth 100000 in
set_option maxHeartbeats 4000000 in
theorem codeOf_0 {a : Nat → Addr} {w : World} (h : Errs a w) :
    Calls Tryd.prog 56 #[errV (a 0)] w fun e w' => e = .returned (.int .i64 1) ∧ w = w' := by
  have v0 : w.cell? ⟨0, 0, none⟩ = some (errV (a 0)) := h.vars 0 (by omega)
  have H := Lib.hid h
  clear h
  go_enter Tryd.func56, Tryd.ntmps56
  go_wp2_with (first | (go_at_call 107; (with_reducible refine (is_yes 0 _).mono ?_); rintro e W' ⟨rfl, rfl⟩))
  go_ret
  exact ⟨rfl, rfl⟩
set_option maxRecDepth 100000 in
set_option maxHeartbeats 4000000 in
theorem codeOf_1 {a : Nat → Addr} {w : World} (h : Errs a w) :
    Calls Tryd.prog 56 #[errV (a 1)] w fun e w' => e = .returned (.int .i64 2) ∧ w = w' := by
  have v0 : w.cell? ⟨0, 0, none⟩ = some (errV (a 0)) := h.vars 0 (by omega)
  have v1 : w.cell? ⟨1, 0, none⟩ = some (errV (a 1)) := h.vars 1 (by omega)
  have H := Lib.hid h
  clear h
  go_enter Tryd.func56, Tryd.ntmps56
  go_wp2_with (first | (go_at_call 107; (with_reducible refine (is_no H.out 1 0 (by omega) (by omega) (by omega)).mono ?_); rintro e W' ⟨rfl, rfl⟩) | (go_at_call 107; (with_reducible refine (is_yes 1 _).mono ?_); rintro e W' ⟨rfl, rfl⟩))
  go_ret
  exact ⟨rfl, rfl⟩
set_option maxRecDepth 100000 in
set_option maxHeartbeats 4000000 in
theorem codeOf_2 {a : Nat → Addr} {w : World} (h : Errs a w) :
    Calls Tryd.prog 56 #[errV (a 2)] w fun e w' => e = .returned (.int .i64 4) ∧ w = w' := by
  have v0 : w.cell? ⟨0, 0, none⟩ = some (errV (a 0)) := h.vars 0 (by omega)
  have v1 : w.cell? ⟨1, 0, none⟩ = some (errV (a 1)) := h.vars 1 (by omega)
  have v5 : w.cell? ⟨2, 0, none⟩ = some (errV (a 5)) := h.vars 5 (by omega)
  have v2 : w.cell? ⟨3, 0, none⟩ = some (errV (a 2)) := h.vars 2 (by omega)
  have H := Lib.hid h
  clear h
  go_enter Tryd.func56, Tryd.ntmps56
  go_wp2_with (first | (go_at_call 107; (with_reducible refine (is_no H.out 2 0 (by omega) (by omega) (by omega)).mono ?_); rintro e W' ⟨rfl, rfl⟩) | (go_at_call 107; (with_reducible refine (is_no H.out 2 1 (by omega) (by omega) (by omega)).mono ?_); rintro e W' ⟨rfl, rfl⟩) | (go_at_call 107; (with_reducible refine (is_no H.out 2 5 (by omega) (by omega) (by omega)).mono ?_); rintro e W' ⟨rfl, rfl⟩) | (go_at_call 107; (with_reducible refine (is_yes 2 _).mono ?_); rintro e W' ⟨rfl, rfl⟩))
  go_ret
  exact ⟨rfl, rfl⟩
set_option maxRecDepth 100000 in
set_option maxHeartbeats 4000000 in
theorem codeOf_3 {a : Nat → Addr} {w : World} (h : Errs a w) :
    Calls Tryd.prog 56 #[errV (a 3)] w fun e w' => e = .returned (.int .i64 5) ∧ w = w' := by
  have v0 : w.cell? ⟨0, 0, none⟩ = some (errV (a 0)) := h.vars 0 (by omega)
  have v1 : w.cell? ⟨1, 0, none⟩ = some (errV (a 1)) := h.vars 1 (by omega)
  have v5 : w.cell? ⟨2, 0, none⟩ = some (errV (a 5)) := h.vars 5 (by omega)
  have v2 : w.cell? ⟨3, 0, none⟩ = some (errV (a 2)) := h.vars 2 (by omega)
  have v3 : w.cell? ⟨4, 0, none⟩ = some (errV (a 3)) := h.vars 3 (by omega)
  have H := Lib.hid h
  clear h
  go_enter Tryd.func56, Tryd.ntmps56
  go_wp2_with (first | (go_at_call 107; (with_reducible refine (is_no H.out 3 0 (by omega) (by omega) (by omega)).mono ?_); rintro e W' ⟨rfl, rfl⟩) | (go_at_call 107; (with_reducible refine (is_no H.out 3 1 (by omega) (by omega) (by omega)).mono ?_); rintro e W' ⟨rfl, rfl⟩) | (go_at_call 107; (with_reducible refine (is_no H.out 3 5 (by omega) (by omega) (by omega)).mono ?_); rintro e W' ⟨rfl, rfl⟩) | (go_at_call 107; (with_reducible refine (is_no H.out 3 2 (by omega) (by omega) (by omega)).mono ?_); rintro e W' ⟨rfl, rfl⟩) | (go_at_call 107; (with_reducible refine (is_yes 3 _).mono ?_); rintro e W' ⟨rfl, rfl⟩))
  go_ret
  exact ⟨rfl, rfl⟩
set_option maxRecDepth 100000 in
set_option maxHeartbeats 4000000 in
theorem codeOf_4 {a : Nat → Addr} {w : World} (h : Errs a w) :
    Calls Tryd.prog 56 #[errV (a 4)] w fun e w' => e = .returned (.int .i64 6) ∧ w = w' := by
  have v0 : w.cell? ⟨0, 0, none⟩ = some (errV (a 0)) := h.vars 0 (by omega)
  have v1 : w.cell? ⟨1, 0, none⟩ = some (errV (a 1)) := h.vars 1 (by omega)
  have v5 : w.cell? ⟨2, 0, none⟩ = some (errV (a 5)) := h.vars 5 (by omega)
  have v2 : w.cell? ⟨3, 0, none⟩ = some (errV (a 2)) := h.vars 2 (by omega)
  have v3 : w.cell? ⟨4, 0, none⟩ = some (errV (a 3)) := h.vars 3 (by omega)
  have v4 : w.cell? ⟨5, 0, none⟩ = some (errV (a 4)) := h.vars 4 (by omega)
  have H := Lib.hid h
  clear h
  go_enter Tryd.func56, Tryd.ntmps56
  go_wp2_with (first | (go_at_call 107; (with_reducible refine (is_no H.out 4 0 (by omega) (by omega) (by omega)).mono ?_); rintro e W' ⟨rfl, rfl⟩) | (go_at_call 107; (with_reducible refine (is_no H.out 4 1 (by omega) (by omega) (by omega)).mono ?_); rintro e W' ⟨rfl, rfl⟩) | (go_at_call 107; (with_reducible refine (is_no H.out 4 5 (by omega) (by omega) (by omega)).mono ?_); rintro e W' ⟨rfl, rfl⟩) | (go_at_call 107; (with_reducible refine (is_no H.out 4 2 (by omega) (by omega) (by omega)).mono ?_); rintro e W' ⟨rfl, rfl⟩) | (go_at_call 107; (with_reducible refine (is_no H.out 4 3 (by omega) (by omega) (by omega)).mono ?_); rintro e W' ⟨rfl, rfl⟩) | (go_at_call 107; (with_reducible refine (is_yes 4 _).mono ?_); rintro e W' ⟨rfl, rfl⟩))
  go_ret
  exact ⟨rfl, rfl⟩
set_option maxRecDepth 100000 in
set_option maxHeartbeats 4000000 in
theorem codeOf_5 {a : Nat → Addr} {w : World} (h : Errs a w) :
    Calls Tryd.prog 56 #[errV (a 5)] w fun e w' => e = .returned (.int .i64 3) ∧ w = w' := by
  have v0 : w.cell? ⟨0, 0, none⟩ = some (errV (a 0)) := h.vars 0 (by omega)
  have v1 : w.cell? ⟨1, 0, none⟩ = some (errV (a 1)) := h.vars 1 (by omega)
  have v5 : w.cell? ⟨2, 0, none⟩ = some (errV (a 5)) := h.vars 5 (by omega)
  have H := Lib.hid h
  clear h
  go_enter Tryd.func56, Tryd.ntmps56
  go_wp2_with (first | (go_at_call 107; (with_reducible refine (is_no H.out 5 0 (by omega) (by omega) (by omega)).mono ?_); rintro e W' ⟨rfl, rfl⟩) | (go_at_call 107; (with_reducible refine (is_no H.out 5 1 (by omega) (by omega) (by omega)).mono ?_); rintro e W' ⟨rfl, rfl⟩) | (go_at_call 107; (with_reducible refine (is_yes 5 _).mono ?_); rintro e W' ⟨rfl, rfl⟩))
  go_ret
  exact ⟨rfl, rfl⟩
set_option maxRecDepth 100000 in
set_option maxHeartbeats 4000000 in
theorem codeOf_6 {a : Nat → Addr} {w : World} (h : Errs a w) :
    Calls Tryd.prog 56 #[errV (a 6)] w fun e w' => e = .returned (.int .i64 7) ∧ w = w' := by
  have v0 : w.cell? ⟨0, 0, none⟩ = some (errV (a 0)) := h.vars 0 (by omega)
  have v1 : w.cell? ⟨1, 0, none⟩ = some (errV (a 1)) := h.vars 1 (by omega)
  have v5 : w.cell? ⟨2, 0, none⟩ = some (errV (a 5)) := h.vars 5 (by omega)
  have v2 : w.cell? ⟨3, 0, none⟩ = some (errV (a 2)) := h.vars 2 (by omega)
  have v3 : w.cell? ⟨4, 0, none⟩ = some (errV (a 3)) := h.vars 3 (by omega)
  have v4 : w.cell? ⟨5, 0, none⟩ = some (errV (a 4)) := h.vars 4 (by omega)
  have v6 : w.cell? ⟨6, 0, none⟩ = some (errV (a 6)) := h.vars 6 (by omega)
  have H := Lib.hid h
  clear h
  go_enter Tryd.func56, Tryd.ntmps56
  go_wp2_with (first | (go_at_call 107; (with_reducible refine (is_no H.out 6 0 (by omega) (by omega) (by omega)).mono ?_); rintro e W' ⟨rfl, rfl⟩) | (go_at_call 107; (with_reducible refine (is_no H.out 6 1 (by omega) (by omega) (by omega)).mono ?_); rintro e W' ⟨rfl, rfl⟩) | (go_at_call 107; (with_reducible refine (is_no H.out 6 5 (by omega) (by omega) (by omega)).mono ?_); rintro e W' ⟨rfl, rfl⟩) | (go_at_call 107; (with_reducible refine (is_no H.out 6 2 (by omega) (by omega) (by omega)).mono ?_); rintro e W' ⟨rfl, rfl⟩) | (go_at_call 107; (with_reducible refine (is_no H.out 6 3 (by omega) (by omega) (by omega)).mono ?_); rintro e W' ⟨rfl, rfl⟩) | (go_at_call 107; (with_reducible refine (is_no H.out 6 4 (by omega) (by omega) (by omega)).mono ?_); rintro e W' ⟨rfl, rfl⟩) | (go_at_call 107; (with_reducible refine (is_yes 6 _).mono ?_); rintro e W' ⟨rfl, rfl⟩))
  go_ret
  exact ⟨rfl, rfl⟩

/-- The code of the k-th error. -/
theorem codeOf_any {a : Nat → Addr} {w : World} (h : Errs a w) (k : Nat) (hk : k < 7) :
    Calls Tryd.prog 56 #[errV (a k)] w fun e w' => e = .returned (.int .i64 (codeK k)) ∧ w = w' := by
  have : k = 0 ∨ k = 1 ∨ k = 2 ∨ k = 3 ∨ k = 4 ∨ k = 5 ∨ k = 6 := by omega
  rcases this with rfl | rfl | rfl | rfl | rfl | rfl | rfl
  · exact codeOf_0 h
  · exact codeOf_1 h
  · exact codeOf_2 h
  · exact codeOf_3 h
  · exact codeOf_4 h
  · exact codeOf_5 h
  · exact codeOf_6 h
end Go.Proofs.YtbmaljhnldepoaaDoor

