/-
  A range over an iterator of spots whose rounds may change blocks for others: what lies in memory is told by a relation that fixes the blocks' numbers.
-/
import Derived.Test.YtdlfhomnlhdacaaDoorRange
import Derived.Test.YtdlfhomnlhdacaaDoorOwn
namespace Go.Proofs.YtdlfhomnlhdacaaDoor
open Go Go.RowKit Go.Shelf Go.BigFrame

/-- How a round ends: on, with blocks as the relation tells. -/
def roundRel (b : Base) (I : Blocks → Prop) : Exit → Act → World → Prop
  | .normal, _, X' => ∃ Bs, I Bs ∧ Mem b Bs X'
  | _, _, _ => False

theorem range_rel {α : Type} {px py : α → Int} {g : Operand} {p q : Tmp} {id : Nat} {o1 o2 : Oper} {body : Code} {Q : Exit → Act → World → Prop} {a : Act} {w W1 : World} (I : List α → Blocks → Prop) (L0 : Blocks)
    {gf : Nat} {lb : Array Value} {Kp : World → World → Prop} {S Sp : List α → Prop} {N : Nat}
    (hg : a.eval g = .func (.func gf) #[] lb) (eg : ∀ args w, (callFunc gf args).run Tryd.prog w = .ok (.enter gf args) w)
    (hseq : SeqStopsK Fence.wide 2 Tryd.prog gf lb (fun x => #[.agg (arr 2 (sp (px x) (py x)))]) Kp S Sp N W1) (hKt : ∀ {A B C : World}, Kp A B → Kp B C → Kp A C) (hKb : ∀ (W : World) (l : Nat) (o o' : Obj), W.heap[l]? = some o → o.isCells = false → Kp W (W.putObj l o'))
    (hdet : ∀ (pre pre' : List α) (Bs Bs' : Blocks) (b b' : Base) (X : World), I pre Bs → I pre' Bs' → Mem b Bs X → Mem b' Bs' X → Bs.map (·.1) = Bs'.map (·.1))
    (hkp : ∀ (b : Base) (pre pre' : List α) (Bs Bs' : Blocks) (X X' : World), I pre Bs → I pre' Bs' → Mem b Bs X → Mem b Bs' X' → Kp X X')
    (h1 : o1.op = .alloc 40) (h1g : o1.guard = none) (h1d : o1.dst = some q) (h2 : o2.op = .store 40 (.tmp q) (.tmp p)) (h2g : o2.guard = none) (h2d : o2.dst = none) (hpq : p ≠ q) (hp : p < a.tmps.size) (hq : q < a.tmps.size)
    (hI0 : I [] L0) (hM : Mem w L0 W1)
    (hbody : ∀ (l : Nat) (pre : List α) (x : α) (bx : Nat) (X : World) (Bs : Blocks), w.heap.size ≤ bx → I pre Bs → Mem (Base.round w W1.heap.size X) ((bx, 2, sp (px x) (py x)) :: Bs) X → pre.length < N →
      body.wpIn (Fence.wide.inRound l) 1 Tryd.prog (roundRel (Base.round w W1.heap.size X) (I (pre ++ [x]))) { tmps := (a.tmps.setIfInBounds p (.agg (arr 2 (sp (px x) (py x))))).setIfInBounds q (.pointer (some ⟨bx, 0, none⟩)), defers := [] } X)
    (hdone : ∀ (D : Nat) (xs : List α) (X : World) (Bs : Blocks), W1.heap.size ≤ D → S xs → I xs Bs → Mem w Bs X → X.heap[D]? = some (.deferred (some [])) → Q .normal { a with defers := { target := .collected D, args := #[] } :: a.defers } X) :
    (Code.rangeFunc g #[p] (.region id [o1, o2].toArray false) body).wpIn Fence.wide 3 Tryd.prog Q a W1 := by
  have hsz : w.heap.size ≤ W1.heap.size := hM.size
  have hown : OwnFrom W1.heap.size (fun (pre : List α) X => ∃ Bs, I pre Bs ∧ Mem w Bs X) := fun pre X Y row hs hgr hr => by
    obtain ⟨Bs, hi, hm⟩ := hs
    exact ⟨Bs, hi, mem_ownFrom hsz (fun (_ : Unit) => Bs) () X Y row hm hgr hr⟩
  refine wpIn_rangeFunc_ownH (F := Fence.wide) (n := 3) rfl (by omega) (gf := gf) (lb := lb) hg trivial eg hseq hKt (fun X l o o' _ h ho _ => hKb X l o o' h ho) (Below.refl _ _) (fun _ => rfl)
    (fun pre X => ∃ Bs, I pre Bs ∧ Mem w Bs X) (fun _ _ _ => False) hown (fun _ _ X Y row hs _ _ => hs.elim) ⟨L0, hI0, hM⟩
    (fun x a' X => ∃ bx pre0 Bs0, w.heap.size ≤ bx ∧ bx ∉ Bs0.map (·.1) ∧ I pre0 Bs0 ∧ Mem w Bs0 X ∧ At X bx 2 (sp (px x) (py x)) ∧ a' = { tmps := (a.tmps.setIfInBounds p (.agg (arr 2 (sp (px x) (py x))))).setIfInBounds q (.pointer (some ⟨bx, 0, none⟩)), defers := [] })
    (fun x a' _ X Y row hs hgr hr => ?own) ?assign ?body ?done ?stop
  case own =>
    obtain ⟨bx, pre0, Bs0, h1, h2, h3, h4, h5, h6⟩ := hs
    exact ⟨bx, pre0, Bs0, h1, h2, h3, mem_ownFrom hsz (fun (_ : Unit) => Bs0) () X Y row h4 hgr hr, h5.grown hgr (fun r e => (hr r e).2), h6⟩
  case assign =>
    intro l pre x X K hI hK
    obtain ⟨Bs, hi, hI⟩ := hI
    have hM' : Mem (Base.round w W1.heap.size X) Bs X := hI.base ⟨hI.below, KeepsFrom.refl _ _⟩
    refine region_round (fun ⟨_, _, h⟩ => h) (by simp [noDefer, h1, h2]) ?_
    refine wpList_zero h1g _ h1 (zeroTab _ 2 (fun _ => .int .i8 0) rfl) hM' ?_
    intro bx X2 hbx hM2
    have ez : (#[p].zip #[Value.agg (arr 2 (sp (px x) (py x)))]).foldl (fun t (y : Tmp × Value) => t.setIfInBounds y.1 y.2) a.tmps = a.tmps.setIfInBounds p (.agg (arr 2 (sp (px x) (py x)))) := by simp
    rw [h1d]
    refine wpList_lay h2g _ _ _ h2 bx 0 ?_ 2 (sp (px x) (py x)) ?_ hM2 0 rfl hbx (rowTab _ _ rfl) (by omega) (fun _ _ => rfl) ?_
    · simp [Act.eval, Act.put, Array.getElem?_setIfInBounds, hq]
    · simp [Act.eval, Act.put, Array.getElem?_setIfInBounds, hp, Ne.symm hpq]
    · intro X3 hM3
      have hM3' := hM3.re 0 rfl (sp (px x) (py x)) (fun k hk => by simp [lay, hk])
      simp only [List.set_cons_zero] at hM3'
      rw [h2d]
      show K _ _
      refine hK _ _ hM3'.good.2 ?_ ⟨Bs, hi, hM3'.drop.base hM3'.good.1⟩ ?_
      · exact hkp _ pre pre Bs Bs X X3 hi hi hM' hM3'.drop
      · refine ⟨bx, pre, Bs, hbx, fun hm => ?_, hi, hM3'.drop.base hM3'.good.1, hM3'.at0, ?_⟩
        · obtain ⟨y, hy, e⟩ := List.mem_map.1 hm
          obtain ⟨i, hi⟩ := List.getElem?_of_mem hy
          exact hM3'.apart 0 (i + 1) _ y rfl (by simpa using hi) (by omega) e.symm
        · simp [Act.put]
  case body =>
    intro l pre x a' X hl hr hI hAx hlen
    obtain ⟨bx, pre0, Bs0, hb, hn, hi0, hm0, hA, rfl⟩ := hAx
    obtain ⟨Bs, hi, hI⟩ := hI
    rw [← hdet pre pre0 Bs Bs0 _ _ X hi hi0 hI hm0] at hn
    have hM' : Mem (Base.round w W1.heap.size X) Bs X := hI.base ⟨hI.below, KeepsFrom.refl _ _⟩
    have hM2 : Mem (Base.round w W1.heap.size X) ((bx, 2, sp (px x) (py x)) :: Bs) X :=
      ⟨hM'.good, fun i b n f h => by
        cases i with
        | zero => simp at h; obtain ⟨rfl, rfl, rfl⟩ := h; exact hA
        | succ i => exact hM'.ats i b n f (by simpa using h),
       fun i j y z hi hj hne => by
        have off : ∀ (i : Nat) (y : Nat × Nat × (Nat → Value)), Bs[i]? = some y → y.1 ≠ bx := fun i y h e => hn (by
          rw [← e]; exact List.mem_map_of_mem (List.mem_of_getElem? h))
        cases i with
        | zero =>
          cases j with
          | zero => exact absurd rfl hne
          | succ j => simp at hi hj; rw [← hi]; exact fun e => off j z hj e.symm
        | succ i =>
          cases j with
          | zero => simp at hi hj; rw [← hj]; exact off i y hi
          | succ j => exact hM'.apart i j y z (by simpa using hi) (by simpa using hj) (by omega)⟩
    refine Code.wpIn_mono (fun e a'' X' h => ?_) (hbody l pre x bx X Bs hb hi hM2 hlen)
    cases e <;> first | exact (h : False).elim | skip
    obtain ⟨Bs', hi', h'⟩ := (h : ∃ Bs', I (pre ++ [x]) Bs' ∧ Mem (Base.round w W1.heap.size X) Bs' X')
    exact ⟨h'.good.2, hkp _ pre (pre ++ [x]) Bs Bs' X X' hi hi' hM' h', Bs', hi', h'.base h'.good.1⟩
  case done =>
    intro D xs X hD hS hI hK
    obtain ⟨Bs, hi, hI⟩ := hI
    exact hdone D xs X Bs hD hS hi hI hK
  case stop =>
    intro D c pre X hD hS hI hK
    exact hI.elim

/-- A list in a variable of the call: its block, and the list's own. -/
def VarL (B : Nat) (b2 : Nat) (K : Blocks) (m : Nat) (n : Nat) (R : Nat → Value) (Bs : Blocks) : Prop :=
  (n = 0 ∧ Bs = (b2, 1, fun _ => .slice none 0 0) :: K) ∨ ∃ b c F, B ≤ b ∧ n ≤ c ∧ (∀ j, j < n * m → F j = R j) ∧ Bs = (b, c * m, F) :: (b2, 1, fun _ => .slice (some ⟨b, 0, none⟩) n c) :: K
theorem varL_det {B B' b2 m n n' : Nat} {K : Blocks} {R R' : Nat → Value} {Bs Bs' : Blocks} {b b' : Base} {X : World} (h : VarL B b2 K m n R Bs) (h' : VarL B' b2 K m n' R' Bs') (hM : Mem b Bs X) (hM' : Mem b' Bs' X) : Bs.map (·.1) = Bs'.map (·.1) := by
  have c (W : Base) (v : Value) (i : Nat) (L : Blocks) (hL : Mem W L X) (hi : L[i]? = some (b2, 1, fun _ => v)) : X.cell? ⟨b2, 0, none⟩ = some v := (hL.ats i _ _ _ hi).cell (by omega)
  rcases h with ⟨-, rfl⟩ | ⟨x, _, _, -, -, -, rfl⟩ <;> rcases h' with ⟨-, rfl⟩ | ⟨y, _, _, -, -, -, rfl⟩
  · rfl
  · have := (c _ _ 0 _ hM rfl).symm.trans (c _ _ 1 _ hM' rfl)
    simp at this
  · have := (c _ _ 1 _ hM rfl).symm.trans (c _ _ 0 _ hM' rfl)
    simp at this
  · have := (c _ _ 1 _ hM rfl).symm.trans (c _ _ 1 _ hM' rfl)
    simp at this
    simp [this.1]
theorem varL_mem {B b2 m n : Nat} {K : Blocks} {R : Nat → Value} {Bs : Blocks} {b : Base} {X : World} (h : VarL B b2 K m n R Bs) (hM : Mem b Bs X) : Mem b K X := by
  rcases h with ⟨-, rfl⟩ | ⟨x, _, _, -, -, -, rfl⟩
  · exact hM.drop
  · exact hM.drop.drop
end Go.Proofs.YtdlfhomnlhdacaaDoor
