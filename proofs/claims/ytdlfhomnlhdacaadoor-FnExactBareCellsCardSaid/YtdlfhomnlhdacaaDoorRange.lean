/-
  A range over an iterator of spots, none of whose rounds breaks off; the function's end behind it.
-/
import Derived.Test.YtdlfhomnlhdacaaDoorGrass
import Derived.Test.YtdlfhomnlhdacaaDoorMix
import Derived.Test.YtdlfhomnlhdacaaDoorHead
import Derived.Laws.ResultCell
namespace Go.Proofs.YtdlfhomnlhdacaaDoor
open Go Go.RowKit Go.Shelf Go.BigFrame

/-- How a round ends: on, with the spot's block ahead of the others. -/
def roundPost (b : Base) (L : Blocks) : Exit → Act → World → Prop
  | .normal, _, X' => Mem b L X'
  | _, _, _ => False

theorem range_spots {α : Type} {px py : α → Int} {g : Operand} {p q : Tmp} {id : Nat} {o1 o2 : Oper} {body : Code} {Q : Exit → Act → World → Prop} {a : Act} {w W1 : World} {ks : List Nat} (L : List α → Blocks)
    {gf : Nat} {lb : Array Value} {Kp : World → World → Prop} {S Sp : List α → Prop} {N : Nat}
    (hg : a.eval g = .func (.func gf) #[] lb) (eg : ∀ args w, (callFunc gf args).run Tryd.prog w = .ok (.enter gf args) w)
    (hseq : SeqStopsK Fence.wide 2 Tryd.prog gf lb (fun x => #[.agg (arr 2 (sp (px x) (py x)))]) Kp S Sp N W1) (hKt : ∀ {A B C : World}, Kp A B → Kp B C → Kp A C) (hKb : ∀ (W : World) (l : Nat) (o o' : Obj), W.heap[l]? = some o → o.isCells = false → Kp W (W.putObj l o'))
    (hks : ∀ pre, (L pre).map (·.1) = ks) (hkp : ∀ (b : Base) pre pre' X X' p, Mem b (L pre) X → Mem b (p :: L pre') X' → Kp X X')
    (h1 : o1.op = .alloc 40) (h1g : o1.guard = none) (h1d : o1.dst = some q) (h2 : o2.op = .store 40 (.tmp q) (.tmp p)) (h2g : o2.guard = none) (h2d : o2.dst = none) (hpq : p ≠ q) (hp : p < a.tmps.size) (hq : q < a.tmps.size)
    (hM : Mem w (L []) W1)
    (hbody : ∀ (l : Nat) (pre : List α) (x : α) (bx : Nat) (X : World), w.heap.size ≤ bx → Mem (Base.round w W1.heap.size X) ((bx, 2, sp (px x) (py x)) :: L pre) X → pre.length < N →
      body.wpIn (Fence.wide.inRound l) 1 Tryd.prog (roundPost (Base.round w W1.heap.size X) ((bx, 2, sp (px x) (py x)) :: L (pre ++ [x]))) { tmps := (a.tmps.setIfInBounds p (.agg (arr 2 (sp (px x) (py x))))).setIfInBounds q (.pointer (some ⟨bx, 0, none⟩)), defers := [] } X)
    (hdone : ∀ (D : Nat) (xs : List α) (X : World), W1.heap.size ≤ D → S xs → Mem w (L xs) X → X.heap[D]? = some (.deferred (some [])) → Q .normal { a with defers := { target := .collected D, args := #[] } :: a.defers } X) :
    (Code.rangeFunc g #[p] (.region id [o1, o2].toArray false) body).wpIn Fence.wide 3 Tryd.prog Q a W1 := by
  have hsz : w.heap.size ≤ W1.heap.size := hM.size
  refine wpIn_rangeFunc_ownH (F := Fence.wide) (n := 3) rfl (by omega) (gf := gf) (lb := lb) hg trivial eg hseq hKt (fun X l o o' _ h ho _ => hKb X l o o' h ho) (Below.refl _ _) (fun _ => rfl)
    (fun pre X => Mem w (L pre) X) (fun _ _ _ => False) (mem_ownFrom hsz L) (fun _ _ X Y row hs _ _ => hs.elim) hM
    (fun x a' X => ∃ bx, w.heap.size ≤ bx ∧ bx ∉ ks ∧ At X bx 2 (sp (px x) (py x)) ∧ a' = { tmps := (a.tmps.setIfInBounds p (.agg (arr 2 (sp (px x) (py x))))).setIfInBounds q (.pointer (some ⟨bx, 0, none⟩)), defers := [] })
    (fun x a' _ X Y row hs hgr hr => ?own) ?assign ?body ?done ?stop
  case own =>
    obtain ⟨bx, h1, h2, h3, h4⟩ := hs
    exact ⟨bx, h1, h2, h3.grown hgr (fun r e => (hr r e).2), h4⟩
  case assign =>
    intro l pre x X K hI hK
    have hM' : Mem (Base.round w W1.heap.size X) (L pre) X := hI.base ⟨hI.below, KeepsFrom.refl _ _⟩
    refine region_round (fun ⟨_, _, h⟩ => h) (by simp [noDefer, h1, h2]) ?_
    refine wpList_zero h1g _ h1 (zeroTab _ 2 (fun _ => .int .i8 0) rfl) hM' ?_
    intro bx X2 hbx hM2
    have ez : (#[p].zip #[Value.agg (arr 2 (sp (px x) (py x)))]).foldl (fun t (y : Tmp × Value) => t.setIfInBounds y.1 y.2) a.tmps = a.tmps.setIfInBounds p (.agg (arr 2 (sp (px x) (py x)))) := by simp
    rw [h1d]
    refine wpList_lay h2g _ _ _ h2 bx 0 ?_ 2 (sp (px x) (py x)) ?_ hM2 0 rfl hbx (rowTab _ _ rfl) (by omega) (fun _ _ => rfl) ?_
    · simp [Act.eval, Act.put, Array.getElem?_setIfInBounds, hq]
    · simp [Act.eval, Act.put, Array.getElem?_setIfInBounds, hp, Ne.symm hpq]
    · intro X3 hM3
      have hM3' := hM3.re 0 rfl (sp (px x) (py x)) (fun k hk => by simp [lay, hk])
      simp only [List.set_cons_zero] at hM3'
      rw [h2d]
      show K _ _
      refine hK _ _ hM3'.good.2 ?_ (hM3'.drop.base hM3'.good.1) ?_
      · exact hkp _ pre pre X X3 _ hM' hM3'
      · refine ⟨bx, hbx, fun hm => ?_, hM3'.at0, ?_⟩
        · rw [← hks pre] at hm
          obtain ⟨y, hy, e⟩ := List.mem_map.1 hm
          obtain ⟨i, hi⟩ := List.getElem?_of_mem hy
          exact hM3'.apart 0 (i + 1) _ y rfl (by simpa using hi) (by omega) e.symm
        · simp [Act.put]
  case body =>
    intro l pre x a' X hl hr hI hAx hlen
    obtain ⟨bx, hb, hn, hA, rfl⟩ := hAx
    have hM' : Mem (Base.round w W1.heap.size X) (L pre) X := hI.base ⟨hI.below, KeepsFrom.refl _ _⟩
    have hM2 : Mem (Base.round w W1.heap.size X) ((bx, 2, sp (px x) (py x)) :: L pre) X :=
      ⟨hM'.good, fun i b n f h => by
        cases i with
        | zero => simp at h; obtain ⟨rfl, rfl, rfl⟩ := h; exact hA
        | succ i => exact hM'.ats i b n f (by simpa using h),
       fun i j y z hi hj hne => by
        have off : ∀ (i : Nat) (y : Nat × Nat × (Nat → Value)), (L pre)[i]? = some y → y.1 ≠ bx := fun i y h e => hn (by
          rw [← hks pre, ← e]; exact List.mem_map_of_mem (List.mem_of_getElem? h))
        cases i with
        | zero =>
          cases j with
          | zero => exact absurd rfl hne
          | succ j => simp at hi hj; rw [← hi]; exact fun e => off j z hj e.symm
        | succ i =>
          cases j with
          | zero => simp at hi hj; rw [← hj]; exact off i y hi
          | succ j => exact hM'.apart i j y z (by simpa using hi) (by simpa using hj) (by omega)⟩
    refine Code.wpIn_mono (fun e a'' X' h => ?_) (hbody l pre x bx X hb hM2 hlen)
    cases e <;> first | exact (h : False).elim | skip
    have h' : Mem (Base.round w W1.heap.size X) ((bx, 2, sp (px x) (py x)) :: L (pre ++ [x])) X' := h
    exact ⟨h'.good.2, hkp _ pre (pre ++ [x]) X X' _ hM' h', h'.drop.base h'.good.1⟩
  case done =>
    intro D xs X hD hS hI hK
    exact hdone D xs X hD hS hI hK
  case stop =>
    intro D c pre X hD hS hI hK
    exact hI.elim

/-- The function's end behind such a loop. -/
theorem leave_marks {fn : Func} {tmps : Array Value} {R : Ending → World → Prop} {D : Nat} {X : World} (hK : X.heap[D]? = some (.deferred (some []))) (v : Value)
    (hr : (results fn tmps).run Tryd.prog (X.putObj D (.deferred none)) = .ok v (X.putObj D (.deferred none))) (hR : R (.returned v) (X.putObj D (.deferred none))) :
    LeavesInM Fence.wide 3 Tryd.prog fn tmps R [{ target := .collected D, args := #[] }] .returning X :=
  ⟨by simp, .inl ⟨_, _, rfl, run_takeDeferred hK, v, hr, hR⟩⟩
theorem below_mark {w X : World} {D : Nat} (hb : Below w.heap.size w X) (hD : w.heap.size ≤ D) : Below w.heap.size w (X.putObj D (.deferred none)) :=
  Below.grown hb (grownBy_putObj' X D _) hb.size (fun k e => by cases e; exact hD)
theorem at_mark {X : World} {D b n : Nat} {f : Nat → Value} (h : At X b n f) (hK : X.heap[D]? = some (.deferred (some []))) : At (X.putObj D (.deferred none)) b n f :=
  h.grown (grownBy_putObj' X D _) (fun r e => by cases e; exact ⟨_, hK, rfl⟩)

/-- A round's region that reads and calls first, and then follows the text. -/
theorem region_round_head {P : Program} {Q : Exit → Act → World → Prop} {a : Act} {W : World} {l n id : Nat} {r : List Oper} {w : Base} {L : Blocks} (m : Nat) (hL : ¬ LetsOut Q) (hd : r.all noDefer = true) (hm : P.follows .mixedOrders = true) (hB : Region.lexTailB .any r.toArray m = true) (hM : Mem w L W)
    (h : wpQuiet P r.toArray (Mem w L) (fun a' => ∀ W', Mem w L W' → wpList P r.toArray Q (r.drop m) a' W') (r.take m) a) : (Code.region id r.toArray true).wpIn (Fence.wide.inRound l) n P Q a W :=
  wpIn_region_any hm (any_round hL (by simpa using hd) _ _ _ _ (any_head (C := Mem w L) m hB hM.drew h))
/-- A block of a call that lets lie all that lay, beside those that are known. -/
theorem Mem.fresh {b0 : Base} {L : Blocks} {X X' : World} {b n : Nat} {f : Nat → Value} (hM : Mem b0 L X) (hb : Below X.heap.size X X') (ha : At X' b n f) (hge : X.heap.size ≤ b) : Mem b0 (L ++ [(b, n, f)]) X' :=
  (hM.call hb).old ha (fun i p h e => by
    have := (hM.ats i p.1 p.2.1 p.2.2 h).lt
    omega)
end Go.Proofs.YtdlfhomnlhdacaaDoor
