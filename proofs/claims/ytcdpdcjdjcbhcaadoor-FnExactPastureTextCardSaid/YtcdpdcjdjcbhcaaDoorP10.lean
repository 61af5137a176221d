/-
  Several texts in one: PastTW, Range, RangeL, RangeB, BldB, PastTI, PastureText.
-/
import Derived.Test.YtcdpdcjdjcbhcaaDoorP9
import Derived.Test.YtcdpdcjdjcbhcaaDoorP5
import Derived.Test.YtcdpdcjdjcbhcaaDoorP7
import Derived.Test.YtcdpdcjdjcbhcaaDoorP3
import Derived.Laws.ResultCell
import Derived.Test.YtcdpdcjdjcbhcaaDoorP4
import Derived.Test.YtcdpdcjdjcbhcaaDoorP6
/-
  (impl.Pasture).wordOf by contract.
-/
namespace Go.Proofs.YtcdpdcjdjcbhcaaDoor
open Go Go.RowKit Go.BigFrame

set_option maxRecDepth 100000 in
set_option maxHeartbeats 4000000 in
theorem wordOf_any (g : Nat → Int) (hg : Fits g) (ho : okB g = true) (x y : Nat) (hx : (x : Int) < g 0) (hy : (y : Int) < g 1) (w : World) (hT : TabP w) :
    Calls Tryd.prog 71 #[.agg (arr 122 (pas g)), .agg (arr 2 (sp x y))] w fun e w' => e = .returned (.string (bs (wordP g x y))) ∧ Below w.heap.size w w' := by
  have hM := Mem.nil w
  have hs := okB_size ho
  have hx9 : (0 : Int) ≤ x ∧ (x : Int) ≤ 9 := by omega
  have hy9 : (0 : Int) ≤ y ∧ (y : Int) ≤ 9 := by omega
  have h1 : ∀ W, Calls Tryd.prog 108 #[.agg (arr 122 (pas g)), .agg (arr 2 (sp x y)), .int .i64 1] W fun e w' => e = .returned (.bool (fencedB g 1 x y)) ∧ Below W.heap.size W w' := fun W => isFenced_any g hg ho 1 (by omega) x y hx9 hy9 W
  have h2 : ∀ W, Calls Tryd.prog 108 #[.agg (arr 122 (pas g)), .agg (arr 2 (sp x y)), .int .i64 2] W fun e w' => e = .returned (.bool (fencedB g 2 x y)) ∧ Below W.heap.size W w' := fun W => isFenced_any g hg ho 2 (by omega) x y hx9 hy9 W
  have h0 := fun W => grassAt_any g hg x y (by omega) (by omega) W
  have hn := okB_grass ho (x := x) (y := y) (by omega) (by omega)
  rw [fencedB_east hg ho hx hy] at h1
  rw [fencedB_south hg ho hx hy] at h2
  have hwd : wordP g x y = numB (g (2 + y * 10 + x)) ++ markW (bitB (g (102 + y)) x) 124 ++ markW (bitB (g (112 + y)) x) 95 := rfl
  obtain ⟨t1, ht1⟩ : ∃ t, bitB (g (102 + y)) x = t := ⟨_, rfl⟩
  obtain ⟨t2, ht2⟩ : ∃ t, bitB (g (112 + y)) x = t := ⟨_, rfl⟩
  obtain ⟨d, hd⟩ : ∃ d, g (2 + y * 10 + x) = d := ⟨_, rfl⟩
  rw [ht1] at h1 hwd
  rw [ht2] at h2 hwd
  rw [hd] at h0 hn hwd
  have hk := fun (W : World) (hT : TabP W) => fmt_any d hn.1 (by omega) W hT
  have hl := numB_len (n := d) (by omega)
  generalize hv : numB d = v at hk hwd hl
  have HF := Lib.hid h1
  have HG := Lib.hid h2
  have H0 := Lib.hid h0
  have HK := Lib.hid hk
  have HT := Lib.hid hT
  have HW := Lib.hid hwd
  clear h1 h2 h0 hk hT hwd ht1 ht2 hd hv hx9 hy9 hs
  have tk_b1 : True := trivial; have tk_b2 : True := trivial
  cases t1 <;> cases t2
  all_goals
    go_enter Tryd.func71, Tryd.ntmps71
    go_wp2_with (first | (have _t := tk_b1; refine wpList_box rfl _ _ rfl _ _ rfl hM ?_; intro b1 W' hb1 hM'; clear hM tk_b1; have hM := hM'; clear hM') | (have _t := tk_b2; refine wpList_box rfl _ _ rfl _ _ rfl hM ?_; intro b2 W' hb2 hM'; clear hM tk_b2; have hM := hM'; clear hM') | (refine wpList_cat rfl _ _ rfl _ _ rfl rfl (by simp only [List.length_append, List.length_cons, List.length_nil]; omega) ?_) | (refine wpList_get rfl _ _ rfl _ _ rfl hM 1 rfl (rowTab _ _ rfl) (by omega) ?_) | (refine wpList_get rfl _ _ rfl _ _ rfl hM 0 rfl (rowTab _ _ rfl) (by omega) ?_) | (go_at_call 107; refine (H0.out _).mono ?_; rintro e W' ⟨rfl, hb'⟩; have hM' := hM.call hb'; clear hM hb'; have hM := hM'; clear hM') | (go_at_call 52; (with_reducible refine (HK.out _ (HT.out.below hM.below)).mono ?_); rintro e W' ⟨rfl, hb'⟩; have hM' := hM.call hb'; clear hM hb'; have hM := hM'; clear hM') | (go_at_call 108; (with_reducible refine (HF.out _).mono ?_); rintro e W' ⟨rfl, hb'⟩; have hM' := hM.call hb'; clear hM hb'; have hM := hM'; clear hM') | (go_at_call 108; (with_reducible refine (HG.out _).mono ?_); rintro e W' ⟨rfl, hb'⟩; have hM' := hM.call hb'; clear hM hb'; have hM := hM'; clear hM'))
    go_ret
    exact ⟨ret_bs (by rw [HW.out]; simp [markW]), hM.below⟩
end Go.Proofs.YtcdpdcjdjcbhcaaDoor

/-
  A range over an iterator of spots, none of whose rounds breaks off; the function's end behind it.
-/
namespace Go.Proofs.YtcdpdcjdjcbhcaaDoor
open Go Go.RowKit Go.Shelf Go.BigFrame

/-- How a round ends: on, with the spot's block ahead of the others. -/
def roundPost (b : Base) (L : Blocks) : Exit → Act → World → Prop
  | .normal, _, X' => Mem b L X'
  | _, _, _ => False

theorem range_spots {α : Type} {px py : α → Int} {g : Operand} {p q : Tmp} {id : Nat} {o1 o2 : Oper} {body : Code} {Q : Exit → Act → World → Prop} {a : Act} {w W1 : World} {ks : List Nat} (L : List α → Blocks)
    {gf : Nat} {lb : Array Value} {Kp : World → World → Prop} {S Sp : List α → Prop} {N : Nat}
    (hg : a.eval g = .func (.func gf) #[] lb) (eg : ∀ args w, (callFunc gf args).run Tryd.prog w = .ok (.enter gf args) w)
    (hseq : SeqStopsK Fence.wide 2 Tryd.prog gf lb (fun x => #[.agg (arr 2 (sp (px x) (py x)))]) Kp S Sp N W1) (hKt : ∀ {A B C : World}, Kp A B → Kp B C → Kp A C) (hKb : ∀ (W : World) (l : Nat) (o o' : Obj), W.heap[l]? = some o → o.isCells = false → Kp W (W.putObj l o'))
    (hks : ∀ pre, (L pre).map (·.1) = ks) (hkp : ∀ (b : Base) pre pre' X X' p, Mem b (L pre) X → Mem b (p :: L pre') X' → Kp X X')
    (h1 : o1.op = .alloc 82) (h1g : o1.guard = none) (h1d : o1.dst = some q) (h2 : o2.op = .store 82 (.tmp q) (.tmp p)) (h2g : o2.guard = none) (h2d : o2.dst = none) (hpq : p ≠ q) (hp : p < a.tmps.size) (hq : q < a.tmps.size)
    (hM : Mem w (L []) W1)
    (hbody : ∀ (l : Nat) (pre : List α) (x : α) (bx : Nat) (X : World), w.heap.size ≤ bx → Mem (Base.round w W1.heap.size X) ((bx, 2, sp (px x) (py x)) :: L pre) X → pre.length < N →
      body.wpIn (Fence.wide.inRound l) 1 Tryd.prog (roundPost (Base.round w W1.heap.size X) ((bx, 2, sp (px x) (py x)) :: L (pre ++ [x]))) { tmps := (a.tmps.setIfInBounds p (.agg (arr 2 (sp (px x) (py x))))).setIfInBounds q (.pointer (some ⟨bx, 0, none⟩)), defers := [] } X)
    (hdone : ∀ (D : Nat) (xs : List α) (X : World), W1.heap.size ≤ D → S xs → Mem w (L xs) X → X.heap[D]? = some (.deferred (some [])) → Q .normal { a with defers := { target := .collected D, args := #[] } :: a.defers } X) :
    (Code.rangeFunc g #[p] (.region id [o1, o2].toArray false) body).wpIn Fence.wide 3 Tryd.prog Q a W1 := by
  have hsz : w.heap.size ≤ W1.heap.size := hM.size
  refine wpIn_rangeFunc_ownH (F := Fence.wide) (n := 3) rfl (by omega) (gf := gf) (lb := lb) hg trivial eg hseq hKt (fun X l o o' _ h ho _ => hKb X l o o' h ho) (Below.refl _ _) (fun _ => rfl)
    (fun pre X => Mem w (L pre) X) (fun _ _ _ => False) (mem_ownFrom hsz L) (fun _ _ X Y row hs _ _ => hs.elim) hM
    (fun x a' X => ∃ bx, w.heap.size ≤ bx ∧ bx ∉ ks ∧ At X bx 2 (sp (px x) (py x)) ∧ a' = { tmps := (a.tmps.setIfInBounds p (.agg (arr 2 (sp (px x) (py x))))).setIfInBounds q (.pointer (some ⟨bx, 0, none⟩)), defers := [] })
    (fun x a' _ X Y row hs hgr hr => ?own) ?assign ?body ?done ?stop
  case own =>
    obtain ⟨bx, h1, h2, h3, h4⟩ := hs
    exact ⟨bx, h1, h2, h3.grown hgr (fun r e => (hr r e).2), h4⟩
  case assign =>
    intro l pre x X K hI hK
    have hM' : Mem (Base.round w W1.heap.size X) (L pre) X := hI.base ⟨hI.below, KeepsFrom.refl _ _⟩
    refine region_round (fun ⟨_, _, h⟩ => h) (by simp [noDefer, h1, h2]) ?_
    refine wpList_zero h1g _ h1 (zeroTab _ 2 (fun _ => .int .i8 0) rfl) hM' ?_
    intro bx X2 hbx hM2
    have ez : (#[p].zip #[Value.agg (arr 2 (sp (px x) (py x)))]).foldl (fun t (y : Tmp × Value) => t.setIfInBounds y.1 y.2) a.tmps = a.tmps.setIfInBounds p (.agg (arr 2 (sp (px x) (py x)))) := by simp
    rw [h1d]
    refine wpList_lay h2g _ _ _ h2 bx 0 ?_ 2 (sp (px x) (py x)) ?_ hM2 0 rfl hbx (rowTab _ _ rfl) (by omega) (fun _ _ => rfl) ?_
    · simp [Act.eval, Act.put, Array.getElem?_setIfInBounds, hq]
    · simp [Act.eval, Act.put, Array.getElem?_setIfInBounds, hp, Ne.symm hpq]
    · intro X3 hM3
      have hM3' := hM3.re 0 rfl (sp (px x) (py x)) (fun k hk => by simp [lay, hk])
      simp only [List.set_cons_zero] at hM3'
      rw [h2d]
      show K _ _
      refine hK _ _ hM3'.good.2 ?_ (hM3'.drop.base hM3'.good.1) ?_
      · exact hkp _ pre pre X X3 _ hM' hM3'
      · refine ⟨bx, hbx, fun hm => ?_, hM3'.at0, ?_⟩
        · rw [← hks pre] at hm
          obtain ⟨y, hy, e⟩ := List.mem_map.1 hm
          obtain ⟨i, hi⟩ := List.getElem?_of_mem hy
          exact hM3'.apart 0 (i + 1) _ y rfl (by simpa using hi) (by omega) e.symm
        · simp [Act.put]
  case body =>
    intro l pre x a' X hl hr hI hAx hlen
    obtain ⟨bx, hb, hn, hA, rfl⟩ := hAx
    have hM' : Mem (Base.round w W1.heap.size X) (L pre) X := hI.base ⟨hI.below, KeepsFrom.refl _ _⟩
    have hM2 : Mem (Base.round w W1.heap.size X) ((bx, 2, sp (px x) (py x)) :: L pre) X :=
      ⟨hM'.good, fun i b n f h => by
        cases i with
        | zero => simp at h; obtain ⟨rfl, rfl, rfl⟩ := h; exact hA
        | succ i => exact hM'.ats i b n f (by simpa using h),
       fun i j y z hi hj hne => by
        have off : ∀ (i : Nat) (y : Nat × Nat × (Nat → Value)), (L pre)[i]? = some y → y.1 ≠ bx := fun i y h e => hn (by
          rw [← hks pre, ← e]; exact List.mem_map_of_mem (List.mem_of_getElem? h))
        cases i with
        | zero =>
          cases j with
          | zero => exact absurd rfl hne
          | succ j => simp at hi hj; rw [← hi]; exact fun e => off j z hj e.symm
        | succ i =>
          cases j with
          | zero => simp at hi hj; rw [← hj]; exact off i y hi
          | succ j => exact hM'.apart i j y z (by simpa using hi) (by simpa using hj) (by omega)⟩
    refine Code.wpIn_mono (fun e a'' X' h => ?_) (hbody l pre x bx X hb hM2 hlen)
    cases e <;> first | exact (h : False).elim | skip
    have h' : Mem (Base.round w W1.heap.size X) ((bx, 2, sp (px x) (py x)) :: L (pre ++ [x])) X' := h
    exact ⟨h'.good.2, hkp _ pre (pre ++ [x]) X X' _ hM' h', h'.drop.base h'.good.1⟩
  case done =>
    intro D xs X hD hS hI hK
    exact hdone D xs X hD hS hI hK
  case stop =>
    intro D c pre X hD hS hI hK
    exact hI.elim

/-- The function's end behind such a loop. -/
theorem leave_marks {fn : Func} {tmps : Array Value} {R : Ending → World → Prop} {D : Nat} {X : World} (hK : X.heap[D]? = some (.deferred (some []))) (v : Value)
    (hr : (results fn tmps).run Tryd.prog (X.putObj D (.deferred none)) = .ok v (X.putObj D (.deferred none))) (hR : R (.returned v) (X.putObj D (.deferred none))) :
    LeavesInM Fence.wide 3 Tryd.prog fn tmps R [{ target := .collected D, args := #[] }] .returning X :=
  ⟨by simp, .inl ⟨_, _, rfl, run_takeDeferred hK, v, hr, hR⟩⟩
theorem below_mark {w X : World} {D : Nat} (hb : Below w.heap.size w X) (hD : w.heap.size ≤ D) : Below w.heap.size w (X.putObj D (.deferred none)) :=
  Below.grown hb (grownBy_putObj' X D _) hb.size (fun k e => by cases e; exact hD)
theorem at_mark {X : World} {D b n : Nat} {f : Nat → Value} (h : At X b n f) (hK : X.heap[D]? = some (.deferred (some []))) : At (X.putObj D (.deferred none)) b n f :=
  h.grown (grownBy_putObj' X D _) (fun r e => by cases e; exact ⟨_, hK, rfl⟩)

/-- A round's region that reads and calls first, and then follows the text. -/
theorem region_round_head {P : Program} {Q : Exit → Act → World → Prop} {a : Act} {W : World} {l n id : Nat} {r : List Oper} {w : Base} {L : Blocks} (m : Nat) (hL : ¬ LetsOut Q) (hd : r.all noDefer = true) (hm : P.follows .mixedOrders = true) (hB : Region.lexTailB .any r.toArray m = true) (hM : Mem w L W)
    (h : wpQuiet P r.toArray (Mem w L) (fun a' => ∀ W', Mem w L W' → wpList P r.toArray Q (r.drop m) a' W') (r.take m) a) : (Code.region id r.toArray true).wpIn (Fence.wide.inRound l) n P Q a W :=
  wpIn_region_any hm (any_round hL (by simpa using hd) _ _ _ _ (any_head (C := Mem w L) m hB hM.drew h))
/-- A block of a call that lets lie all that lay, beside those that are known. -/
theorem Mem.fresh {b0 : Base} {L : Blocks} {X X' : World} {b n : Nat} {f : Nat → Value} (hM : Mem b0 L X) (hb : Below X.heap.size X X') (ha : At X' b n f) (hge : X.heap.size ≤ b) : Mem b0 (L ++ [(b, n, f)]) X' :=
  (hM.call hb).old ha (fun i p h e => by
    have := (hM.ats i p.1 p.2.1 p.2.2 h).lt
    omega)
end Go.Proofs.YtcdpdcjdjcbhcaaDoor

/-
  A range over an iterator of spots whose rounds may change blocks for others: what lies in memory is told by a relation that fixes the blocks' numbers.
-/
namespace Go.Proofs.YtcdpdcjdjcbhcaaDoor
open Go Go.RowKit Go.Shelf Go.BigFrame

/-- How a round ends: on, with blocks as the relation tells. -/
def roundRel (b : Base) (I : Blocks → Prop) : Exit → Act → World → Prop
  | .normal, _, X' => ∃ Bs, I Bs ∧ Mem b Bs X'
  | _, _, _ => False

theorem range_rel {α : Type} {px py : α → Int} {g : Operand} {p q : Tmp} {id : Nat} {o1 o2 : Oper} {body : Code} {Q : Exit → Act → World → Prop} {a : Act} {w W1 : World} (I : List α → Blocks → Prop) (L0 : Blocks)
    {gf : Nat} {lb : Array Value} {Kp : World → World → Prop} {S Sp : List α → Prop} {N : Nat}
    (hg : a.eval g = .func (.func gf) #[] lb) (eg : ∀ args w, (callFunc gf args).run Tryd.prog w = .ok (.enter gf args) w)
    (hseq : SeqStopsK Fence.wide 2 Tryd.prog gf lb (fun x => #[.agg (arr 2 (sp (px x) (py x)))]) Kp S Sp N W1) (hKt : ∀ {A B C : World}, Kp A B → Kp B C → Kp A C) (hKb : ∀ (W : World) (l : Nat) (o o' : Obj), W.heap[l]? = some o → o.isCells = false → Kp W (W.putObj l o'))
    (hdet : ∀ (pre pre' : List α) (Bs Bs' : Blocks) (b b' : Base) (X : World), I pre Bs → I pre' Bs' → Mem b Bs X → Mem b' Bs' X → Bs.map (·.1) = Bs'.map (·.1))
    (hkp : ∀ (b : Base) (pre pre' : List α) (Bs Bs' : Blocks) (X X' : World), I pre Bs → I pre' Bs' → Mem b Bs X → Mem b Bs' X' → Kp X X')
    (h1 : o1.op = .alloc 82) (h1g : o1.guard = none) (h1d : o1.dst = some q) (h2 : o2.op = .store 82 (.tmp q) (.tmp p)) (h2g : o2.guard = none) (h2d : o2.dst = none) (hpq : p ≠ q) (hp : p < a.tmps.size) (hq : q < a.tmps.size)
    (hI0 : I [] L0) (hM : Mem w L0 W1)
    (hbody : ∀ (l : Nat) (pre : List α) (x : α) (bx : Nat) (X : World) (Bs : Blocks), w.heap.size ≤ bx → I pre Bs → Mem (Base.round w W1.heap.size X) ((bx, 2, sp (px x) (py x)) :: Bs) X → pre.length < N →
      body.wpIn (Fence.wide.inRound l) 1 Tryd.prog (roundRel (Base.round w W1.heap.size X) (I (pre ++ [x]))) { tmps := (a.tmps.setIfInBounds p (.agg (arr 2 (sp (px x) (py x))))).setIfInBounds q (.pointer (some ⟨bx, 0, none⟩)), defers := [] } X)
    (hdone : ∀ (D : Nat) (xs : List α) (X : World) (Bs : Blocks), W1.heap.size ≤ D → S xs → I xs Bs → Mem w Bs X → X.heap[D]? = some (.deferred (some [])) → Q .normal { a with defers := { target := .collected D, args := #[] } :: a.defers } X) :
    (Code.rangeFunc g #[p] (.region id [o1, o2].toArray false) body).wpIn Fence.wide 3 Tryd.prog Q a W1 := by
  have hsz : w.heap.size ≤ W1.heap.size := hM.size
  have hown : OwnFrom W1.heap.size (fun (pre : List α) X => ∃ Bs, I pre Bs ∧ Mem w Bs X) := fun pre X Y row hs hgr hr => by
    obtain ⟨Bs, hi, hm⟩ := hs
    exact ⟨Bs, hi, mem_ownFrom hsz (fun (_ : Unit) => Bs) () X Y row hm hgr hr⟩
  refine wpIn_rangeFunc_ownH (F := Fence.wide) (n := 3) rfl (by omega) (gf := gf) (lb := lb) hg trivial eg hseq hKt (fun X l o o' _ h ho _ => hKb X l o o' h ho) (Below.refl _ _) (fun _ => rfl)
    (fun pre X => ∃ Bs, I pre Bs ∧ Mem w Bs X) (fun _ _ _ => False) hown (fun _ _ X Y row hs _ _ => hs.elim) ⟨L0, hI0, hM⟩
    (fun x a' X => ∃ bx pre0 Bs0, w.heap.size ≤ bx ∧ bx ∉ Bs0.map (·.1) ∧ I pre0 Bs0 ∧ Mem w Bs0 X ∧ At X bx 2 (sp (px x) (py x)) ∧ a' = { tmps := (a.tmps.setIfInBounds p (.agg (arr 2 (sp (px x) (py x))))).setIfInBounds q (.pointer (some ⟨bx, 0, none⟩)), defers := [] })
    (fun x a' _ X Y row hs hgr hr => ?own) ?assign ?body ?done ?stop
  case own =>
    obtain ⟨bx, pre0, Bs0, h1, h2, h3, h4, h5, h6⟩ := hs
    exact ⟨bx, pre0, Bs0, h1, h2, h3, mem_ownFrom hsz (fun (_ : Unit) => Bs0) () X Y row h4 hgr hr, h5.grown hgr (fun r e => (hr r e).2), h6⟩
  case assign =>
    intro l pre x X K hI hK
    obtain ⟨Bs, hi, hI⟩ := hI
    have hM' : Mem (Base.round w W1.heap.size X) Bs X := hI.base ⟨hI.below, KeepsFrom.refl _ _⟩
    refine region_round (fun ⟨_, _, h⟩ => h) (by simp [noDefer, h1, h2]) ?_
    refine wpList_zero h1g _ h1 (zeroTab _ 2 (fun _ => .int .i8 0) rfl) hM' ?_
    intro bx X2 hbx hM2
    have ez : (#[p].zip #[Value.agg (arr 2 (sp (px x) (py x)))]).foldl (fun t (y : Tmp × Value) => t.setIfInBounds y.1 y.2) a.tmps = a.tmps.setIfInBounds p (.agg (arr 2 (sp (px x) (py x)))) := by simp
    rw [h1d]
    refine wpList_lay h2g _ _ _ h2 bx 0 ?_ 2 (sp (px x) (py x)) ?_ hM2 0 rfl hbx (rowTab _ _ rfl) (by omega) (fun _ _ => rfl) ?_
    · simp [Act.eval, Act.put, Array.getElem?_setIfInBounds, hq]
    · simp [Act.eval, Act.put, Array.getElem?_setIfInBounds, hp, Ne.symm hpq]
    · intro X3 hM3
      have hM3' := hM3.re 0 rfl (sp (px x) (py x)) (fun k hk => by simp [lay, hk])
      simp only [List.set_cons_zero] at hM3'
      rw [h2d]
      show K _ _
      refine hK _ _ hM3'.good.2 ?_ ⟨Bs, hi, hM3'.drop.base hM3'.good.1⟩ ?_
      · exact hkp _ pre pre Bs Bs X X3 hi hi hM' hM3'.drop
      · refine ⟨bx, pre, Bs, hbx, fun hm => ?_, hi, hM3'.drop.base hM3'.good.1, hM3'.at0, ?_⟩
        · obtain ⟨y, hy, e⟩ := List.mem_map.1 hm
          obtain ⟨i, hi⟩ := List.getElem?_of_mem hy
          exact hM3'.apart 0 (i + 1) _ y rfl (by simpa using hi) (by omega) e.symm
        · simp [Act.put]
  case body =>
    intro l pre x a' X hl hr hI hAx hlen
    obtain ⟨bx, pre0, Bs0, hb, hn, hi0, hm0, hA, rfl⟩ := hAx
    obtain ⟨Bs, hi, hI⟩ := hI
    rw [← hdet pre pre0 Bs Bs0 _ _ X hi hi0 hI hm0] at hn
    have hM' : Mem (Base.round w W1.heap.size X) Bs X := hI.base ⟨hI.below, KeepsFrom.refl _ _⟩
    have hM2 : Mem (Base.round w W1.heap.size X) ((bx, 2, sp (px x) (py x)) :: Bs) X :=
      ⟨hM'.good, fun i b n f h => by
        cases i with
        | zero => simp at h; obtain ⟨rfl, rfl, rfl⟩ := h; exact hA
        | succ i => exact hM'.ats i b n f (by simpa using h),
       fun i j y z hi hj hne => by
        have off : ∀ (i : Nat) (y : Nat × Nat × (Nat → Value)), Bs[i]? = some y → y.1 ≠ bx := fun i y h e => hn (by
          rw [← e]; exact List.mem_map_of_mem (List.mem_of_getElem? h))
        cases i with
        | zero =>
          cases j with
          | zero => exact absurd rfl hne
          | succ j => simp at hi hj; rw [← hi]; exact fun e => off j z hj e.symm
        | succ i =>
          cases j with
          | zero => simp at hi hj; rw [← hj]; exact off i y hi
          | succ j => exact hM'.apart i j y z (by simpa using hi) (by simpa using hj) (by omega)⟩
    refine Code.wpIn_mono (fun e a'' X' h => ?_) (hbody l pre x bx X Bs hb hi hM2 hlen)
    cases e <;> first | exact (h : False).elim | skip
    obtain ⟨Bs', hi', h'⟩ := (h : ∃ Bs', I (pre ++ [x]) Bs' ∧ Mem (Base.round w W1.heap.size X) Bs' X')
    exact ⟨h'.good.2, hkp _ pre (pre ++ [x]) Bs Bs' X X' hi hi' hM' h', Bs', hi', h'.base h'.good.1⟩
  case done =>
    intro D xs X hD hS hI hK
    obtain ⟨Bs, hi, hI⟩ := hI
    exact hdone D xs X Bs hD hS hi hI hK
  case stop =>
    intro D c pre X hD hS hI hK
    exact hI.elim

/-- A list in a variable of the call: its block, and the list's own. -/
def VarL (B : Nat) (b2 : Nat) (K : Blocks) (m : Nat) (n : Nat) (R : Nat → Value) (Bs : Blocks) : Prop :=
  (n = 0 ∧ Bs = (b2, 1, fun _ => .slice none 0 0) :: K) ∨ ∃ b c F, B ≤ b ∧ n ≤ c ∧ (∀ j, j < n * m → F j = R j) ∧ Bs = (b, c * m, F) :: (b2, 1, fun _ => .slice (some ⟨b, 0, none⟩) n c) :: K
theorem varL_det {B B' b2 m n n' : Nat} {K : Blocks} {R R' : Nat → Value} {Bs Bs' : Blocks} {b b' : Base} {X : World} (h : VarL B b2 K m n R Bs) (h' : VarL B' b2 K m n' R' Bs') (hM : Mem b Bs X) (hM' : Mem b' Bs' X) : Bs.map (·.1) = Bs'.map (·.1) := by
  have c (W : Base) (v : Value) (i : Nat) (L : Blocks) (hL : Mem W L X) (hi : L[i]? = some (b2, 1, fun _ => v)) : X.cell? ⟨b2, 0, none⟩ = some v := (hL.ats i _ _ _ hi).cell (by omega)
  rcases h with ⟨-, rfl⟩ | ⟨x, _, _, -, -, -, rfl⟩ <;> rcases h' with ⟨-, rfl⟩ | ⟨y, _, _, -, -, -, rfl⟩
  · rfl
  · have := (c _ _ 0 _ hM rfl).symm.trans (c _ _ 1 _ hM' rfl)
    simp at this
  · have := (c _ _ 1 _ hM rfl).symm.trans (c _ _ 0 _ hM' rfl)
    simp at this
  · have := (c _ _ 1 _ hM rfl).symm.trans (c _ _ 1 _ hM' rfl)
    simp at this
    simp [this.1]
theorem varL_mem {B b2 m n : Nat} {K : Blocks} {R : Nat → Value} {Bs : Blocks} {b : Base} {X : World} (h : VarL B b2 K m n R Bs) (hM : Mem b Bs X) : Mem b K X := by
  rcases h with ⟨-, rfl⟩ | ⟨x, _, _, -, -, -, rfl⟩
  · exact hM.drop
  · exact hM.drop.drop
end Go.Proofs.YtcdpdcjdjcbhcaaDoor

/-
  A range over an iterator of spots whose rounds write into a builder of the call's own.
-/
namespace Go.Proofs.YtcdpdcjdjcbhcaaDoor
open Go Go.RowKit Go.Shelf Go.BigFrame

/-- As At, with the type. -/
def AtT (W : World) (b n : Nat) (f : Nat → Value) (t : TypeId) : Prop := W.heap[b]? = some (.cells (arr n f) t (0, 0))
theorem AtT.at {W : World} {b n : Nat} {f : Nat → Value} {t : TypeId} (h : AtT W b n f t) : At W b n f := ⟨t, h⟩
theorem AtT.below {N : Nat} {W W' : World} {b n : Nat} {f : Nat → Value} {t : TypeId} (h : AtT W b n f t) (hb : Below N W W') (hlt : b < N) : AtT W' b n f t := (hb.block b hlt).trans h
theorem AtT.lt {W : World} {b n : Nat} {f : Nat → Value} {t : TypeId} (h : AtT W b n f t) : b < W.heap.size := h.at.lt
theorem AtT.others {W W' : World} {b n : Nat} {f : Nat → Value} {t e : TypeId} {k : Nat} (h : AtT W b n f t) (ho : Lib.OthersKept e (some k) W W') (hk : b ≠ k) (ht : t ≠ e) : AtT W' b n f t :=
  ho b _ h (by simpa using hk) (fun c fz hc => by cases hc; exact ht rfl)
theorem AtT.grown {W W' : World} {b n : Nat} {f : Nat → Value} {t : TypeId} {row : Option Nat} (h : AtT W b n f t) (hg : W.grownBy W' row) (hr : ∀ r, row = some r → ∃ o : Obj, W.heap[r]? = some o ∧ o.isCells = false) : AtT W' b n f t := by
  unfold AtT at *
  rw [hg.block b (AtT.lt h) (fun e => by
    obtain ⟨o, h1, h2⟩ := hr b e.symm
    rw [h] at h1; cases h1; simp [Obj.isCells] at h2)]
  exact h
theorem Bld.grown {W0 W W' : World} {l : List UInt8} {row : Option Nat} (h : Bld W0 l W) (hg : W.grownBy W' row) (hr : ∀ r, row = some r → W0.heap.size ≤ r ∧ ∃ o : Obj, W.heap[r]? = some o ∧ o.isCells = false) : Bld W0 l W' := by
  have key : ∀ p, Lib.BuilderAtF 122 5 W0.heap.size W0.heap.size p (Lib.byteCells l) W → Lib.BuilderAtF 122 5 W0.heap.size W0.heap.size p (Lib.byteCells l) W' := fun p hb => by
    have hlt := hb.lt
    obtain ⟨hB, v, hv, hown, hne⟩ := hb
    refine ⟨hB, v, ?_, hown.kept hg ?_, hne⟩
    · rw [hg.block _ hlt (fun e => by
        obtain ⟨-, o, h1, h2⟩ := hr _ e.symm
        rw [hv] at h1; cases h1; simp [Obj.isCells] at h2)]
      exact hv
    · cases hvb : v.ownBlock with
      | none => exact .inl rfl
      | some q =>
        refine .inr (fun e => ?_)
        obtain ⟨-, o, h1, h2⟩ := hr q e.symm
        obtain ⟨c, fz, h3⟩ := Lib.ownsRowF_kind hown q hvb
        rw [h3] at h1; cases h1; simp [Obj.isCells] at h2
  exact ⟨h.1.elim (fun x => .inl (key _ x)) (fun x => .inr (key _ x)), h.2.grown hg h.2.size (fun k e => (hr k e).1)⟩
/-- A base that knows a block's type. -/
def Base.typed (b : Base) (k : Nat) (t : TypeId) : Base where
  G := fun W => b.G W ∧ ∃ c, W.heap[k]? = some (.cells c t (0, 0))
  B := b.B
  le := fun h => b.le h.1
  alloc := fun c u h => ⟨b.alloc c u h.1, by
    obtain ⟨c', hc⟩ := h.2
    exact ⟨c', (Below.heap_alloc _ _ k (Array.getElem?_eq_some_iff.1 hc).1).trans hc⟩⟩
  row := fun {W b' c u} h hb hc c' => ⟨b.row h.1 hb hc c', by
    obtain ⟨c2, hc2⟩ := h.2
    by_cases e : k = b'
    · subst e; exact ⟨c', setRow_heap W k _ _ t _ hc2⟩
    · exact ⟨c2, (_root_.Go.setRow_other W b' k c' e).trans hc2⟩⟩
  call := fun {W W'} h hb => ⟨b.call h.1 hb, by
    obtain ⟨c2, hc2⟩ := h.2
    exact ⟨c2, (hb.block k (Array.getElem?_eq_some_iff.1 hc2).1).trans hc2⟩⟩
  drew := fun h => ⟨b.drew h.1, h.2⟩
theorem At.typed {W : World} {b n : Nat} {f : Nat → Value} {t : TypeId} (h : At W b n f) (ht : ∃ c, W.heap[b]? = some (.cells c t (0, 0))) : AtT W b n f t := by
  obtain ⟨u, hu⟩ := h
  obtain ⟨c, hc⟩ := ht
  rw [hu] at hc
  simp only [Option.some.injEq, Obj.cells.injEq] at hc
  unfold AtT
  rw [hu, hc.2.1]
theorem keepsFrom_below {N : Nat} {W W' : World} (hb : Below W.heap.size W W') : KeepsFrom N W W' := ⟨hb.size, fun k o _ hk _ => (hb.block k (Array.getElem?_eq_some_iff.1 hk).1).trans hk⟩
theorem keepsFrom_others {N B : Nat} {e : TypeId} {k : Option Nat} {W W' : World} (hb : Below B W W') (hk : ∀ q, k = some q → ∃ c t fz, W.heap[q]? = some (.cells c t fz)) (h : Lib.OthersKept e k W W') : KeepsFrom N W W' :=
  ⟨hb.size, fun i o _ hi ho => h i o hi (fun e2 => by
    obtain ⟨c, t, fz, h2⟩ := hk i e2.symm
    rw [hi] at h2; cases h2; simp [Obj.isCells] at ho) (fun c fz hc => by subst hc; simp [Obj.isCells] at ho)⟩
theorem wpList_zeroT {P : Program} {ops : Array Oper} {rest : List Oper} {o : Oper} {a : Act} {W : World} {Q : Exit → Act → World → Prop} (hgd : o.guard = none) (ty : TypeId) (ho : o.op = .alloc ty) {n : Nat} {f : Nat → Value} (hz : (P.info? ty).map (·.zero) = some (some (.agg (arr n f))))
    (h : wpList P ops Q rest (a.put o.dst (.pointer (some ⟨W.heap.size, 0, none⟩))) (W.alloc (.cells (arr n f) ty))) : wpList P ops Q (o :: rest) a W := by
  refine wpList_plain hgd fun K hK => ?_
  have hzv : (zeroValue ty).run P W = .ok (.agg (arr n f)) W := by
    cases hq : P.info? ty with
    | none => simp [hq] at hz
    | some i => simp [hq] at hz; simp [zeroValue, typeInfo, hq, hz]
  unfold Oper.wp execOp
  simp only [ho, Instr.alloc, Sem.run_bind, Sem.run_pure, Result.andThen_ok, hzv, newVar, newRow, newObj, Sem.run, Value.cells]
  exact hK _ _ h

/-- How a round ends: on, with the builder as told, and all else that the range keeps. -/
def roundBld (W0 : World) (N bp : Nat) (g : Nat → Int) (l : List UInt8) (X : World) : Exit → Act → World → Prop
  | .normal, _, X' => Bld W0 l X' ∧ AtT X' bp 122 (pas g) 59 ∧ KeepsFrom N X X'
  | _, _, _ => False

theorem range_bld {W H : Nat} {g : Operand} {p q : Tmp} {id : Nat} {o1 o2 : Oper} {body : Code} {Q : Exit → Act → World → Prop} {a : Act} {W0 W1 : World} (T : List (Cell W H) → List UInt8) (bp : Nat) (gv : Nat → Int)
    {gf : Nat} {lb : Array Value} {S Sp : List (Cell W H) → Prop} {N : Nat}
    (hg : a.eval g = .func (.func gf) #[] lb) (eg : ∀ args w, (callFunc gf args).run Tryd.prog w = .ok (.enter gf args) w)
    (hseq : SeqStopsK Fence.wide 2 Tryd.prog gf lb (encC (W := W) (H := H)) (KpP bp gv) S Sp N W1)
    (h1 : o1.op = .alloc 82) (h1g : o1.guard = none) (h1d : o1.dst = some q) (h2 : o2.op = .store 82 (.tmp q) (.tmp p)) (h2g : o2.guard = none) (h2d : o2.dst = none) (hpq : p ≠ q) (hp : p < a.tmps.size) (hq : q < a.tmps.size)
    (hB : Bld W0 (T []) W1) (hbp : AtT W1 bp 122 (pas gv) 59)
    (hbody : ∀ (l : Nat) (pre : List (Cell W H)) (x : Cell W H) (bx : Nat) (X : World), W0.heap.size < bx ∧ bx ≠ bp → Bld W0 (T pre) X → AtT X bp 122 (pas gv) 59 → AtT X bx 2 (sp (x.1.1 : Int) (x.1.2 : Int)) 82 → pre.length < N →
      body.wpIn (Fence.wide.inRound l) 1 Tryd.prog (roundBld W0 W1.heap.size bp gv (T (pre ++ [x])) X) { tmps := (a.tmps.setIfInBounds p (.agg (arr 2 (sp (x.1.1 : Int) (x.1.2 : Int))))).setIfInBounds q (.pointer (some ⟨bx, 0, none⟩)), defers := [] } X)
    (hdone : ∀ (D : Nat) (xs : List (Cell W H)) (X : World), W1.heap.size ≤ D → S xs → Bld W0 (T xs) X → X.heap[D]? = some (.deferred (some [])) → Q .normal { a with defers := { target := .collected D, args := #[] } :: a.defers } X) :
    (Code.rangeFunc g #[p] (.region id [o1, o2].toArray false) body).wpIn Fence.wide 3 Tryd.prog Q a W1 := by
  have hsz : W0.heap.size ≤ W1.heap.size := hB.2.size
  have hown : OwnFrom W1.heap.size (fun (pre : List (Cell W H)) X => Bld W0 (T pre) X ∧ AtT X bp 122 (pas gv) 59) := fun pre X Y row hs hgr hr =>
    ⟨hs.1.grown hgr (fun r e => ⟨Nat.le_trans hsz (hr r e).1, (hr r e).2⟩), hs.2.grown hgr (fun r e => (hr r e).2)⟩
  refine wpIn_rangeFunc_ownH (F := Fence.wide) (n := 3) rfl (by omega) (gf := gf) (lb := lb) hg trivial eg hseq kpP_t (fun X l o o' _ h ho _ => kpP_b X l o o' h ho) (Below.refl _ _) (fun _ => rfl)
    (fun pre X => Bld W0 (T pre) X ∧ AtT X bp 122 (pas gv) 59) (fun _ _ _ => False) hown (fun _ _ X Y row hs _ _ => hs.elim) ⟨hB, hbp⟩
    (fun x a' X => ∃ bx, (W0.heap.size < bx ∧ bx ≠ bp) ∧ AtT X bx 2 (sp (x.1.1 : Int) (x.1.2 : Int)) 82 ∧ a' = { tmps := (a.tmps.setIfInBounds p (.agg (arr 2 (sp (x.1.1 : Int) (x.1.2 : Int))))).setIfInBounds q (.pointer (some ⟨bx, 0, none⟩)), defers := [] })
    (fun x a' _ X Y row hs hgr hr => ?own) ?assign ?body ?done ?stop
  case own =>
    obtain ⟨bx, h1, h2, h3⟩ := hs
    exact ⟨bx, h1, h2.grown hgr (fun r e => (hr r e).2), h3⟩
  case assign =>
    intro l pre x X K hI hK
    refine region_round (fun ⟨_, _, h⟩ => h) (by simp [noDefer, h1, h2]) ?_
    refine wpList_zeroT h1g _ h1 (zeroTab _ 2 (fun _ => .int .i8 0) rfl) ?_
    have hM2 : Mem ((Base.of X).typed X.heap.size 82) [(X.heap.size, 2, fun _ => .int .i8 0)] (X.alloc (.cells (arr 2 fun _ => .int .i8 0) 82)) :=
      ((Mem.nil X).alloc _ _ _).base ⟨(Below.refl _ X).alloc (Nat.le_refl _) _, ⟨_, heap_alloc_new X _⟩⟩
    rw [h1d]
    refine wpList_lay h2g _ _ _ h2 X.heap.size 0 ?_ 2 (sp (x.1.1 : Int) (x.1.2 : Int)) ?_ hM2 0 rfl (Nat.le_refl _) (rowTab _ _ rfl) (by omega) (fun _ _ => rfl) ?_
    · simp [Act.eval, Act.put, Array.getElem?_setIfInBounds, hq, encC]
    · simp [Act.eval, Act.put, Array.getElem?_setIfInBounds, hp, Ne.symm hpq, encC]
    · intro X3 hM3
      have hM3' := hM3.re 0 rfl (sp (x.1.1 : Int) (x.1.2 : Int)) (fun k hk => by simp [lay, hk])
      simp only [List.set_cons_zero] at hM3'
      rw [h2d]
      have hb3 : Below X.heap.size X X3 := hM3'.good.1
      have hA3 : AtT X3 X.heap.size 2 (sp (x.1.1 : Int) (x.1.2 : Int)) 82 := hM3'.at0.typed hM3'.good.2
      have hlb : W0.heap.size < X.heap.size := hI.1.1.elim (fun h => h.lt) (fun h => h.lt)
      show K _ _
      refine hK _ _ (keepsFrom_below hb3) (fun h => h.below hb3 h.lt) ⟨hI.1.call hb3, hI.2.below hb3 hI.2.lt⟩ ⟨X.heap.size, ⟨hlb, fun e => ?_⟩, hA3, ?_⟩
      · have := hI.2.lt; omega
      · simp [Act.put, encC]
  case body =>
    intro l pre x a' X hl hr hI hAx hlen
    obtain ⟨bx, hb, hA, rfl⟩ := hAx
    refine Code.wpIn_mono (fun e a'' X' h => ?_) (hbody l pre x bx X hb hI.1 hI.2 hA hlen)
    cases e <;> first | exact (h : False).elim | skip
    obtain ⟨h1, h2, h3⟩ := (h : Bld W0 (T (pre ++ [x])) X' ∧ AtT X' bp 122 (pas gv) 59 ∧ KeepsFrom W1.heap.size X X')
    exact ⟨h3, fun _ => h2.at, h1, h2⟩
  case done =>
    intro D xs X hD hS hI hK
    exact hdone D xs X hD hS hI.1 hK
  case stop =>
    intro D c pre X hD hS hI hK
    exact hI.elim
end Go.Proofs.YtcdpdcjdjcbhcaaDoor

/-
  A byte written into a builder of the call's own.
-/
namespace Go.Proofs.YtcdpdcjdjcbhcaaDoor
open Go Go.RowKit Go.BigFrame Go.Shelf

def byteLays_ren : Go.Shelf.Ren := ⟨fun | 167 => 72 | 240 => 106 | 276 => 126 | n => n, Tryd.joinLays_ren.t, Tryd.joinLays_ren.g⟩
theorem byteLays : Go.Proofs.Lays.n167 Tryd.prog byteLays_ren := {
  mixed := by kernel_rfl
  f167 := Tryd.func72.trans (congrArg some (by kernel_rfl))
  f240 := Tryd.func106.trans (congrArg some (by kernel_rfl))
  f276 := Tryd.func126.trans (congrArg some (by kernel_rfl))
  t0 := Tryd.joinLays.t0
  a0 := Tryd.joinLays.a0
  z0 := Tryd.joinLays.z0
  v0 := Tryd.joinLays.v0
  t4 := Tryd.joinLays.t4
  a4 := Tryd.joinLays.a4
  z4 := Tryd.joinLays.z4
  v4 := Tryd.joinLays.v4
  t5 := Tryd.underlying5
  a5 := Tryd.isAgg5
  z5 := Tryd.sizeOf5
  v5 := Tryd.zeroValue5
  t9 := Tryd.joinLays.t9
  a9 := Tryd.joinLays.a9
  z9 := Tryd.joinLays.z9
  v9 := Tryd.joinLays.v9
  t20 := Tryd.joinLays.t20
  a20 := Tryd.joinLays.a20
  z20 := Tryd.joinLays.z20
  v20 := Tryd.joinLays.v20
  t37 := Tryd.joinLays.t37
  a37 := Tryd.joinLays.a37
  z37 := Tryd.joinLays.z37
  v37 := Tryd.joinLays.v37
  t70 := Tryd.joinLays.t70
  a70 := Tryd.joinLays.a70
  z70 := Tryd.joinLays.z70
  v70 := Tryd.joinLays.v70
  t72 := Tryd.joinLays.t72
  a72 := Tryd.joinLays.a72
  z72 := Tryd.joinLays.z72
  v72 := Tryd.joinLays.v72
  t75 := Tryd.joinLays.t75
  a75 := Tryd.joinLays.a75
  z75 := Tryd.joinLays.z75
  v75 := Tryd.joinLays.v75
  t164 := Tryd.joinLays.t164
  a164 := Tryd.joinLays.a164
  z164 := Tryd.joinLays.z164
  v164 := Tryd.joinLays.v164 }
theorem byteExtra : Builder.Extra Tryd.prog byteLays_ren := { sizeBuilder := by kernel_rfl, liesBuilder := by kernel_rfl, t5 := Tryd.underlying5, a5 := Tryd.isAgg5, z5 := Tryd.sizeOf5, v5 := Tryd.zeroValue5, infoByte := by kernel_rfl, cellsByte := by kernel_rfl, sizeByte := by kernel_rfl, neB5 := by decide }
theorem bld_kept {W0 W W' : World} {l : List UInt8} {e : TypeId} (h : Bld W0 l W) (hb : Below W0.heap.size W W') (ho : Lib.OthersKept e (some W0.heap.size) W W') (N : Nat) : KeepsFrom N W W' :=
  keepsFrom_others hb (fun q hq => by
    cases hq
    rcases h.1 with h1 | h1
    · obtain ⟨hB, v, hv, -⟩ := h1; exact ⟨_, _, _, hv⟩
    · obtain ⟨hB, v, hv, -⟩ := h1; exact ⟨_, _, _, hv⟩) ho
theorem bwbO (W0 : World) (B : Nat) (hB : B = W0.heap.size) (l : List UInt8) (c : UInt8) (n : Int) (hn : n = c.toNat) (hlen : l.length ≤ 100000000) (W : World) (h : Bld W0 l W) :
    Calls Tryd.prog 72 #[.pointer (some ⟨B, 0, none⟩), .int .u8 n] W fun e w' => e = .returned .nilIface ∧ Bld W0 (l ++ [c]) w' ∧ Lib.OthersKept 5 (some B) W w' ∧ ∀ N, KeepsFrom N W w' := by
  subst hB hn
  have hbl : (Lib.byteCells l).length = l.length := by simp [Lib.byteCells]
  refine (Any.Builder_WriteByte_k (P := Tryd.prog) (ρ := byteLays_ren) byteLays byteExtra W0.heap.size W0.heap.size (Lib.byteCells l) c.toNat W h.1 (by rw [hbl]; omega) h.2.size).mono ?_
  rintro e w' ⟨rfl, h1, h2, h3⟩
  refine ⟨rfl, ⟨.inr ?_, h.2.trans h2⟩, h3, bld_kept h h2 h3⟩
  have e : Lib.byteCells l ++ [Value.int IntKind.u8 (c.toNat : Int)] = Lib.byteCells (l ++ [c]) := by rw [Lib.byteCells_append]; rfl
  rw [e] at h1
  exact h1
theorem bwsO (W0 : World) (B : Nat) (hB : B = W0.heap.size) (l m : List UInt8) (hlen : l.length + m.length ≤ 100000000) (W : World) (h : Bld W0 l W) :
    Calls Tryd.prog 70 #[.pointer (some ⟨B, 0, none⟩), .string (bs m)] W fun e w' => e = .returned (.tuple #[.int .i64 m.length, .nilIface]) ∧ Bld W0 (l ++ m) w' ∧ Lib.OthersKept 5 (some B) W w' ∧ ∀ N, KeepsFrom N W w' := by
  subst hB
  have hbl : (Lib.byteCells l).length = l.length := by simp [Lib.byteCells]
  refine (Any.Builder_WriteString_k (P := Tryd.prog) (ρ := Tryd.joinLays_ren) { Tryd.joinLays with } joinExtra W0.heap.size W0.heap.size (Lib.byteCells l) (bs m) W h.1 (by rw [hbl, bs_size]; omega) h.2.size).mono ?_
  rintro e w' ⟨rfl, h1, h2, h3⟩
  refine ⟨by rw [bs_size], ⟨.inr ?_, h.2.trans h2⟩, h3, bld_kept h h2 h3⟩
  have e : Lib.byteCells l ++ Lib.strCells (bs m) = Lib.byteCells (l ++ m) := by rw [Lib.strCells_eq, bs_data, Lib.byteCells_append]
  rw [e] at h1
  exact h1
theorem bstrO (W0 : World) (B : Nat) (hB : B = W0.heap.size) (l : List UInt8) (W : World) (h : Bld W0 l W) :
    Calls Tryd.prog 73 #[.pointer (some ⟨B, 0, none⟩)] W fun e w' => e = .returned (.string (bs l)) ∧ Below W0.heap.size W0 w' ∧ ∀ N, KeepsFrom N W w' := by
  subst hB
  refine (Any.Builder_String_any_k (P := Tryd.prog) (ρ := Tryd.joinLays_ren) { Tryd.joinLays with } joinExtra W0.heap.size W0.heap.size l W h.1 h.2.size).mono ?_
  rintro e w' ⟨rfl, -, h2, h3⟩
  exact ⟨rfl, h.2.trans h2, bld_kept h h2 h3⟩
theorem wpList_boxT {P : Program} {ops : Array Oper} {rest : List Oper} {o : Oper} {a : Act} {W : World} {Q : Exit → Act → World → Prop} (hgd : o.guard = none) (ty : TypeId) (x : Operand) (ho : o.op = .box ty x) (n : Nat) (f : Nat → Value) (hx : a.eval x = .agg (arr n f))
    (h : wpList P ops Q rest (a.put o.dst (.pointer (some ⟨W.heap.size, 0, none⟩))) (W.alloc (.cells (arr n f) ty))) : wpList P ops Q (o :: rest) a W := by
  refine wpList_plain hgd fun K hK => ?_
  unfold Oper.wp execOp
  simp only [ho, hx, Instr.box, Sem.run_bind, Sem.run_pure, Result.andThen_ok, newVar, newRow, newObj, Sem.run, Value.cells]
  exact hK _ _ h
theorem cellsT_any (g : Nat → Int) (w : World) : Calls Tryd.prog 69 #[.agg (arr 122 (pas g))] w fun e w' => ∃ b, e = .returned (.func (.func 105) #[] #[.pointer (some ⟨b, 0, none⟩)]) ∧ w.heap.size ≤ b ∧ AtT w' b 122 (pas g) 59 ∧ Below w.heap.size w w' := by
  go_enter Tryd.func69, Tryd.ntmps69
  go_wp2_with (first | (refine wpList_boxT rfl _ _ rfl 122 (pas g) rfl ?_))
  go_ret
  exact ⟨_, rfl, Nat.le_refl _, heap_alloc_new w _, (Below.refl _ w).alloc (Nat.le_refl _) _⟩
/-- What a round reads: its spot and the pasture. -/
theorem memR {X : World} {bx b1 : Nat} {f p : Nat → Value} {t : TypeId} (hx : AtT X bx 2 f t) (h1 : At X b1 122 p) (ne : b1 ≠ bx) : Mem (Base.of X) [(bx, 2, f), (b1, 122, p)] X :=
  Mem.old (Mem.old (Mem.nil X) hx.at (fun i p h => by simp at h)) h1 (fun i p h => by
    cases i with
    | zero => simp at h; subst h; exact fun e => ne e.symm
    | succ i => simp at h)
end Go.Proofs.YtcdpdcjdjcbhcaaDoor

/-
  impl.PastureText by contract.
-/
namespace Go.Proofs.YtcdpdcjdjcbhcaaDoor
open Go Go.RowKit Go.BigFrame Go.Shelf

set_option maxRecDepth 100000 in
set_option maxHeartbeats 4000000 in
theorem implPastureText_any (g : Nat → Int) (hg : Fits g) (w : World) (hT : TabP w) :
    Calls Tryd.prog 30 #[.agg (arr 122 (pas g))] w fun e w' => e = .returned (.string (bs (pastT g))) ∧ Below w.heap.size w w' := by
  have hM := Mem.nil w
  have HT := Lib.hid hT
  have hv := fun W => implValid_any g hg W
  rw [← okB_eq] at hv
  clear hT
  cases ho : okB g
  · rw [ho] at hv
    have Hp := Lib.hid (pastT_no ho)
    have Hv := Lib.hid hv
    clear hv ho
    have tk_b1 : True := trivial
    go_enter Tryd.func30, Tryd.ntmps30
    go_wp2_with (first | (have _t := tk_b1; refine wpList_box rfl _ _ rfl _ _ rfl hM ?_; intro b1 W' hb1 hM'; clear hM tk_b1; have hM := hM'; clear hM') | (refine wpList_get rfl _ _ rfl _ _ rfl hM 0 rfl (rowTab _ _ rfl) (by omega) ?_) | (go_at_call 68; (with_reducible refine (Hv.out _).mono ?_); rintro e W' ⟨rfl, hb'⟩; have hM' := hM.call hb'; clear hM hb'; have hM := hM'; clear hM'))
    go_ret
    exact ⟨ret_bs Hp.out.symm, hM.below⟩
  rw [ho] at hv
  have Hv := Lib.hid hv
  have hs := okB_size ho
  obtain ⟨W, h0⟩ : ∃ W : Nat, g 0 = W := ⟨(g 0).toNat, by omega⟩
  obtain ⟨H, h1⟩ : ∃ H : Nat, g 1 = H := ⟨(g 1).toNat, by omega⟩
  have hW : 1 ≤ W ∧ W ≤ 10 := by omega
  have hH : 1 ≤ H ∧ H ≤ 10 := by omega
  have Hall := Lib.hid (fun (xs : List (Cell W H)) (h : xs.map (·.1) = upto W (W * H)) => cellsT_all ho h0 h1 h)
  have Hlen := Lib.hid (fun (xs : List (Cell W H)) => cellsT_len (g := g) ho hH.2 hW.2 xs)
  have Hwl := Lib.hid (fun (x y : Nat) (hx : x < 10) (hy : y < 10) => wordP_len ho hx hy)
  have HWd := Lib.hid (fun (x y : Nat) (hx : x < W) (hy : y < H) (X : World) (hT : TabP X) => wordOf_any g hg ho x y (by omega) (by omega) X hT)
  have e0 : pas g 0 = .int .i8 (W : Int) := by rw [← h0]; rfl
  have HW := Lib.hid hW
  have HH := Lib.hid hH
  have hg0 : g 0 = (W : Int) := h0
  have hg1 : g 1 = (H : Int) := h1
  clear hv ho hs h0 h1 hW hH
  refine (callsIn_wide (n := 3)).1 ?_
  refine callsIn_of_wp_marks Tryd.func30 rfl trivial ?_ rfl
  simp only [Tryd.ntmps30, List.size_toArray, List.length_cons, List.length_nil, Nat.reduceAdd, Nat.reduceSub, Array.replicate_succ, Array.replicate_zero, List.push_toArray, List.append_toArray, List.nil_append, List.cons_append]
  refine wpIn_wide.2 ?_
  have tk_b1 : True := trivial; have tk_bb : True := trivial
  go_wp2_with (first | (have _t := tk_b1; refine wpList_box rfl _ _ rfl _ _ rfl hM ?_; intro b1 W' hb1 hM'; clear hM tk_b1; have hM := hM'; clear hM') | (refine wpList_get rfl _ _ rfl _ _ rfl hM 0 rfl (rowTab _ _ rfl) (by omega) ?_) | (go_at_call 68; (with_reducible refine (Hv.out _).mono ?_); rintro e W' ⟨rfl, hb'⟩; have hM' := hM.call hb'; clear hM hb'; have hM := hM'; clear hM') | (have _t := tk_bb; refine wpList_bldM rfl rfl hM ?_; intro W0 B W' hM0 HB0 hBl; have hMb := hM; clear hM tk_bb; have hM := hM0.call hBl.below))
  go_wp2_with (first | (refine wpList_get rfl _ _ rfl _ _ rfl hM 0 rfl (rowTab _ _ rfl) (by omega) ?_))
  refine (cellsT_any g _).mono ?_
  rintro e W1 ⟨bp, rfl, hbp, hAp, hcb⟩
  have hlB : W0.heap.size < W'.heap.size := hBl.1.elim (fun h => h.lt) (fun h => h.lt)
  have hb1 : b1 < W0.heap.size := (hM0.ats 0 _ _ _ rfl).lt
  have hBl1 : Bld W0 (cellsT g ([] : List (Cell W H))) W1 := hBl.call hcb
  have HM0 := Lib.hid hM0
  clear hM hBl hcb hM0
  go_wp2
  refine (wpIn_wide (n := 3)).1 ?_
  refine range_bld (W := W) (H := H) (W0 := W0) (cellsT g) bp g (gf := 105) (lb := #[.pointer (some ⟨bp, 0, none⟩)])
    rfl (enters_of Tryd.func105 (by kernel_rfl) rfl) (cells_stops Fence.wide 2 trivial rfl (by omega) bp W H HW.out.2 HH.out.2 _ hg0 hg1 W1 hAp.at) rfl rfl rfl rfl rfl rfl (by decide) (by simp) (by simp) hBl1 hAp ?body ?done
  case body =>
    intro l pre x bx X hbx hBl2 hAp2 hAx hlen
    obtain ⟨⟨u, v⟩, hu, hv⟩ := x
    simp only at hu hv hAx
    have hw := HW.out
    have hh := HH.out
    have hll := Hlen.out pre
    have hp : W * H ≤ 10 * 10 := Nat.mul_le_mul hw.2 hh.2
    have hwl := Hwl.out u v (by omega) (by omega)
    have hbf := HM0.out.below.trans (hBl2.below.mono HM0.out.below.size)
    have HTX := Lib.hid (HT.out.below hbf)
    have hwd := fun Y hY => HWd.out u v hu hv Y hY
    have hsn : cellsT g (pre ++ [(⟨(u, v), hu, hv⟩ : Cell W H)]) = cellsT g pre ++ (wordP g u v ++ [if u + 1 = W then 10 else 32]) := cellsT_snoc g pre _
    obtain ⟨t, ht⟩ : ∃ t, wordP g u v = t := ⟨_, rfl⟩
    rw [ht] at hwl hsn
    have hwd2 : ∀ Y, TabP Y → Calls Tryd.prog 71 #[.agg (arr 122 (pas g)), .agg (arr 2 (sp u v))] Y fun e w' => e = .returned (.string (bs t)) ∧ Below Y.heap.size Y w' := by rw [← ht]; exact hwd
    have HWx := Lib.hid hwd2
    have HWS := Lib.hid (fun Y h => bwsO W0 B HB0.out (cellsT g pre) t (by omega) Y h)
    have n1 : bx ≠ B := by rw [HB0.out]; omega
    have n2 : bp ≠ B := by rw [HB0.out]; omega
    have n3 : b1 ≠ bx := by omega
    have N1 := Lib.hid n1
    have N2 := Lib.hid n2
    have N3 := Lib.hid n3
    have Hsn := Lib.hid hsn
    have s0 : sp (u : Int) (v : Int) 0 = .int .i8 (u : Int) := rfl
    have c1 : IntKind.i8.wrap ((W : Int) - 1) = (W : Int) - 1 := IntWalk.i8_in _ (by omega)
    have hM := memR hAx ((HM0.out.call hBl2.below).ats 0 _ _ _ rfl) n3
    have hlt : (cellsT g pre ++ t).length ≤ 100000000 := by rw [List.length_append]; omega
    have HWB := Lib.hid (fun (c : UInt8) (n : Int) (hn : n = c.toNat) Y h => bwbO W0 B HB0.out (cellsT g pre ++ t) c n hn hlt Y h)
    clear hwd hwd2 ht hsn n1 n2 n3 hbf hll hwl hlt
    refine wpIn_block (wpIn_seq (region_round (fun ⟨_, _, h⟩ => h) rfl ?_))
    go_wp2_with (first | (refine wpList_get rfl _ _ rfl _ _ rfl hM 1 rfl (rowTab _ _ rfl) (by omega) ?_) | (refine wpList_get rfl _ _ rfl _ _ rfl hM 0 rfl (rowTab _ _ rfl) (by omega) ?_) | (go_at_call 71; (with_reducible refine (HWx.out _ (HTX.out.below hM.below)).mono ?_); rintro e W' ⟨rfl, hb'⟩; have hM' := hM.call hb'; clear hM hb'; have hM := hM'; clear hM') | (go_at_call 70; have hb2 := hM.below; (with_reducible refine (HWS.out _ (hBl2.call hb2)).mono ?_); rintro e X2 ⟨rfl, hBl3, hO3, hK3⟩; have hM3 := memR ((hAx.below hb2 hAx.lt).others hO3 N1.out (by decide)) ((HM0.out.call hBl3.below).ats 0 _ _ _ rfl) N3.out; have hAp3 := (hAp2.below hb2 hAp2.lt).others hO3 N2.out (by decide); have hKX := KeepsFrom.trans (keepsFrom_below (N := W1.heap.size) hb2) (hK3 _); clear hM hb2 hO3 hK3; have hM := hM3; clear hM3))
    by_cases hz : u + 1 = W
    · have d1 : decide ((u : Int) = (W : Int) - 1) = true := decide_eq_true (by omega)
      have d2 : ((u : Int) == (W : Int) - 1) = true := by rw [beq_iff_eq]; omega
      have Hz := Lib.hid hz
      clear hz
      refine wpIn_seq ?_
      refine region_round (fun ⟨_, _, h⟩ => h) rfl ?_
      go_wp2_with (first | (refine wpList_get1 rfl _ _ rfl _ _ rfl hM 0 rfl (cellTab _ rfl) (by omega) _ s0 ?_) | (refine wpList_get1 rfl _ _ rfl _ _ rfl hM 1 rfl (cellTab _ rfl) (by omega) _ e0 ?_))
      refine wpIn_cond_true rfl (region_round (fun ⟨_, _, h⟩ => h) rfl ?_)
      go_wp2_with (first | (go_at_call 72; (with_reducible refine (HWB.out 10 10 rfl _ hBl3).mono ?_); rintro e X4 ⟨rfl, hBl4, hO4, hK4⟩))
      show Bld _ _ _ ∧ AtT _ _ _ _ _ ∧ KeepsFrom _ _ _
      exact ⟨by rw [Hsn.out, if_pos Hz.out, ← List.append_assoc]; exact hBl4, hAp3.others hO4 N2.out (by decide), hKX.trans (hK4 _)⟩
    · have d1 : decide ((u : Int) = (W : Int) - 1) = false := decide_eq_false (by omega)
      have d2 : ((u : Int) == (W : Int) - 1) = false := by rw [beq_eq_false_iff_ne]; omega
      have Hz := Lib.hid hz
      clear hz
      refine wpIn_seq ?_
      refine region_round (fun ⟨_, _, h⟩ => h) rfl ?_
      go_wp2_with (first | (refine wpList_get1 rfl _ _ rfl _ _ rfl hM 0 rfl (cellTab _ rfl) (by omega) _ s0 ?_) | (refine wpList_get1 rfl _ _ rfl _ _ rfl hM 1 rfl (cellTab _ rfl) (by omega) _ e0 ?_))
      refine wpIn_cond_false rfl (region_round (fun ⟨_, _, h⟩ => h) rfl ?_)
      go_wp2_with (first | (go_at_call 72; (with_reducible refine (HWB.out 32 32 rfl _ hBl3).mono ?_); rintro e X4 ⟨rfl, hBl4, hO4, hK4⟩))
      show Bld _ _ _ ∧ AtT _ _ _ _ _ ∧ KeepsFrom _ _ _
      exact ⟨by rw [Hsn.out, if_neg Hz.out, ← List.append_assoc]; exact hBl4, hAp3.others hO4 N2.out (by decide), hKX.trans (hK4 _)⟩
  case done =>
    rename_i K7 hK7
    intro D xs X hD hS hBl2 hK
    have ha := Hall.out xs hS
    rw [ha] at hBl2
    have hsz : w.heap.size ≤ W1.heap.size := Nat.le_trans HM0.out.below.size (Nat.le_trans (Nat.le_of_lt hlB) (Nat.le_trans hbp (Nat.le_of_lt hAp.lt)))
    show K7 _ _
    refine hK7 _ _ ?_
    dsimp only
    go_wp2_with (first | (go_at_call 73; (with_reducible refine (bstrO W0 B HB0.out _ _ hBl2).mono ?_); rintro e X2 ⟨rfl, hb2, hK2⟩))
    have hK' := (hK2 W1.heap.size).same D _ hD hK rfl
    exact leave_marks hK' (.string (bs (pastT g))) (by rw [results_tmp rfl]; rfl) ⟨rfl, below_mark (HM0.out.below.trans (hb2.mono HM0.out.below.size)) (Nat.le_trans hsz hD)⟩
end Go.Proofs.YtcdpdcjdjcbhcaaDoor

/-
  laws.FnExactPastureText returns true.
-/
namespace Go.Proofs.YtcdpdcjdjcbhcaaDoor
open Go Go.RowKit Go.BigFrame

set_option maxRecDepth 100000 in
theorem lawPastureText_any (g : Nat → Int) (hg : Fits g) (w : World) (hT : TabP w) :
    Calls Tryd.prog 7 #[.agg (arr 122 (pas g))] w fun e w' => e = .returned (.bool true) ∧ Below w.heap.size w w' := by
  have hM := Mem.nil w
  have HT := Lib.hid hT
  have HS := Lib.hid (fun (W : World) => specPastureText_any g hg W)
  have HI := Lib.hid (fun (W : World) (hT : TabP W) => implPastureText_any g hg W hT)
  generalize bs (pastT g) = tx at HS HI
  clear hT
  have tk_b1 : True := trivial
  go_enter Tryd.func7, Tryd.ntmps7
  go_wp2_with (first | (have _t := tk_b1; refine wpList_box rfl _ _ rfl _ _ rfl hM ?_; intro b1 W' hb1 hM'; clear hM tk_b1; have hM := hM'; clear hM') | (refine wpList_get rfl _ _ rfl _ _ rfl hM 0 rfl (rowTab _ _ rfl) (by omega) ?_) | (go_at_call 29; (with_reducible refine (toPasture_pas g _).mono ?_); rintro e W' ⟨rfl, hb'⟩; have hM' := hM.call hb'; clear hM hb'; have hM := hM'; clear hM') | (go_at_call 28; refine (HS.out _).mono ?_; rintro e W' ⟨rfl, hb'⟩; have hM' := hM.call hb'; clear hM hb'; have hM := hM'; clear hM') | (go_at_call 30; refine (HI.out _ (HT.out.below hM.below)).mono ?_; rintro e W' ⟨rfl, hb'⟩; have hM' := hM.call hb'; clear hM hb'; have hM := hM'; clear hM'))
  go_ret
  exact ⟨rfl, hM.below⟩
end Go.Proofs.YtcdpdcjdjcbhcaaDoor

