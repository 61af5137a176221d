/-
  Several texts in one: RangeL, KpL, SeqL, Growing, Cells0, Live.
-/
import Derived.Test.YtjfmhnbbdkejeaaDoorP6
import Derived.Test.YtjfmhnbbdkejeaaDoorP3
import Derived.Test.YtjfmhnbbdkejeaaDoorP8
import Derived.Test.YtjfmhnbbdkejeaaDoorP4
/-
  A range over an iterator of spots whose rounds may change blocks for others: what lies in memory is told by a relation that fixes the blocks' numbers.
-/
namespace Go.Proofs.YtjfmhnbbdkejeaaDoor
open Go Go.RowKit Go.Shelf Go.BigFrame

/-- How a round ends: on, with blocks as the relation tells. -/
def roundRel (b : Base) (I : Blocks → Prop) : Exit → Act → World → Prop
  | .normal, _, X' => ∃ Bs, I Bs ∧ Mem b Bs X'
  | _, _, _ => False

theorem range_rel {α : Type} {px py : α → Int} {g : Operand} {p q : Tmp} {id : Nat} {o1 o2 : Oper} {body : Code} {Q : Exit → Act → World → Prop} {a : Act} {w W1 : World} (I : List α → Blocks → Prop) (L0 : Blocks)
    {gf : Nat} {lb : Array Value} {Kp : World → World → Prop} {S Sp : List α → Prop} {N : Nat}
    (hg : a.eval g = .func (.func gf) #[] lb) (eg : ∀ args w, (callFunc gf args).run Tryd.prog w = .ok (.enter gf args) w)
    (hseq : SeqStopsK Fence.wide 2 Tryd.prog gf lb (fun x => #[.agg (arr 2 (sp (px x) (py x)))]) Kp S Sp N W1) (hKt : ∀ {A B C : World}, Kp A B → Kp B C → Kp A C) (hKb : ∀ (W : World) (l : Nat) (o o' : Obj), W.heap[l]? = some o → o.isCells = false → Kp W (W.putObj l o'))
    (hdet : ∀ (pre pre' : List α) (Bs Bs' : Blocks) (b b' : Base) (X : World), I pre Bs → I pre' Bs' → Mem b Bs X → Mem b' Bs' X → Bs.map (·.1) = Bs'.map (·.1))
    (hkp : ∀ (b : Base) (pre pre' : List α) (Bs Bs' : Blocks) (X X' : World), I pre Bs → I pre' Bs' → Mem b Bs X → Mem b Bs' X' → Kp X X')
    (h1 : o1.op = .alloc 34) (h1g : o1.guard = none) (h1d : o1.dst = some q) (h2 : o2.op = .store 34 (.tmp q) (.tmp p)) (h2g : o2.guard = none) (h2d : o2.dst = none) (hpq : p ≠ q) (hp : p < a.tmps.size) (hq : q < a.tmps.size)
    (hI0 : I [] L0) (hM : Mem w L0 W1)
    (hbody : ∀ (l : Nat) (pre : List α) (x : α) (bx : Nat) (X : World) (Bs : Blocks), w.heap.size ≤ bx → I pre Bs → Mem (Base.round w W1.heap.size X) ((bx, 2, sp (px x) (py x)) :: Bs) X → pre.length < N →
      body.wpIn (Fence.wide.inRound l) 1 Tryd.prog (roundRel (Base.round w W1.heap.size X) (I (pre ++ [x]))) { tmps := (a.tmps.setIfInBounds p (.agg (arr 2 (sp (px x) (py x))))).setIfInBounds q (.pointer (some ⟨bx, 0, none⟩)), defers := [] } X)
    (hdone : ∀ (D : Nat) (xs : List α) (X : World) (Bs : Blocks), W1.heap.size ≤ D → S xs → I xs Bs → Mem w Bs X → X.heap[D]? = some (.deferred (some [])) → Q .normal { a with defers := { target := .collected D, args := #[] } :: a.defers } X) :
    (Code.rangeFunc g #[p] (.region id [o1, o2].toArray false) body).wpIn Fence.wide 3 Tryd.prog Q a W1 := by
  have hsz : w.heap.size ≤ W1.heap.size := hM.size
  have hown : OwnFrom W1.heap.size (fun (pre : List α) X => ∃ Bs, I pre Bs ∧ Mem w Bs X) := fun pre X Y row hs hgr hr => by
    obtain ⟨Bs, hi, hm⟩ := hs
    exact ⟨Bs, hi, mem_ownFrom hsz (fun (_ : Unit) => Bs) () X Y row hm hgr hr⟩
  refine wpIn_rangeFunc_ownH (F := Fence.wide) (n := 3) rfl (by omega) (gf := gf) (lb := lb) hg trivial eg hseq hKt (fun X l o o' _ h ho _ => hKb X l o o' h ho) (Below.refl _ _) (fun _ => rfl)
    (fun pre X => ∃ Bs, I pre Bs ∧ Mem w Bs X) (fun _ _ _ => False) hown (fun _ _ X Y row hs _ _ => hs.elim) ⟨L0, hI0, hM⟩
    (fun x a' X => ∃ bx pre0 Bs0, w.heap.size ≤ bx ∧ bx ∉ Bs0.map (·.1) ∧ I pre0 Bs0 ∧ Mem w Bs0 X ∧ At X bx 2 (sp (px x) (py x)) ∧ a' = { tmps := (a.tmps.setIfInBounds p (.agg (arr 2 (sp (px x) (py x))))).setIfInBounds q (.pointer (some ⟨bx, 0, none⟩)), defers := [] })
    (fun x a' _ X Y row hs hgr hr => ?own) ?assign ?body ?done ?stop
  case own =>
    obtain ⟨bx, pre0, Bs0, h1, h2, h3, h4, h5, h6⟩ := hs
    exact ⟨bx, pre0, Bs0, h1, h2, h3, mem_ownFrom hsz (fun (_ : Unit) => Bs0) () X Y row h4 hgr hr, h5.grown hgr (fun r e => (hr r e).2), h6⟩
  case assign =>
    intro l pre x X K hI hK
    obtain ⟨Bs, hi, hI⟩ := hI
    have hM' : Mem (Base.round w W1.heap.size X) Bs X := hI.base ⟨hI.below, KeepsFrom.refl _ _⟩
    refine region_round (fun ⟨_, _, h⟩ => h) (by simp [noDefer, h1, h2]) ?_
    refine wpList_zero h1g _ h1 (zeroTab _ 2 (fun _ => .int .i8 0) rfl) hM' ?_
    intro bx X2 hbx hM2
    have ez : (#[p].zip #[Value.agg (arr 2 (sp (px x) (py x)))]).foldl (fun t (y : Tmp × Value) => t.setIfInBounds y.1 y.2) a.tmps = a.tmps.setIfInBounds p (.agg (arr 2 (sp (px x) (py x)))) := by simp
    rw [h1d]
    refine wpList_lay h2g _ _ _ h2 bx 0 ?_ 2 (sp (px x) (py x)) ?_ hM2 0 rfl hbx (rowTab _ _ rfl) (by omega) (fun _ _ => rfl) ?_
    · simp [Act.eval, Act.put, Array.getElem?_setIfInBounds, hq]
    · simp [Act.eval, Act.put, Array.getElem?_setIfInBounds, hp, Ne.symm hpq]
    · intro X3 hM3
      have hM3' := hM3.re 0 rfl (sp (px x) (py x)) (fun k hk => by simp [lay, hk])
      simp only [List.set_cons_zero] at hM3'
      rw [h2d]
      show K _ _
      refine hK _ _ hM3'.good.2 ?_ ⟨Bs, hi, hM3'.drop.base hM3'.good.1⟩ ?_
      · exact hkp _ pre pre Bs Bs X X3 hi hi hM' hM3'.drop
      · refine ⟨bx, pre, Bs, hbx, fun hm => ?_, hi, hM3'.drop.base hM3'.good.1, hM3'.at0, ?_⟩
        · obtain ⟨y, hy, e⟩ := List.mem_map.1 hm
          obtain ⟨i, hi⟩ := List.getElem?_of_mem hy
          exact hM3'.apart 0 (i + 1) _ y rfl (by simpa using hi) (by omega) e.symm
        · simp [Act.put]
  case body =>
    intro l pre x a' X hl hr hI hAx hlen
    obtain ⟨bx, pre0, Bs0, hb, hn, hi0, hm0, hA, rfl⟩ := hAx
    obtain ⟨Bs, hi, hI⟩ := hI
    rw [← hdet pre pre0 Bs Bs0 _ _ X hi hi0 hI hm0] at hn
    have hM' : Mem (Base.round w W1.heap.size X) Bs X := hI.base ⟨hI.below, KeepsFrom.refl _ _⟩
    have hM2 : Mem (Base.round w W1.heap.size X) ((bx, 2, sp (px x) (py x)) :: Bs) X :=
      ⟨hM'.good, fun i b n f h => by
        cases i with
        | zero => simp at h; obtain ⟨rfl, rfl, rfl⟩ := h; exact hA
        | succ i => exact hM'.ats i b n f (by simpa using h),
       fun i j y z hi hj hne => by
        have off : ∀ (i : Nat) (y : Nat × Nat × (Nat → Value)), Bs[i]? = some y → y.1 ≠ bx := fun i y h e => hn (by
          rw [← e]; exact List.mem_map_of_mem (List.mem_of_getElem? h))
        cases i with
        | zero =>
          cases j with
          | zero => exact absurd rfl hne
          | succ j => simp at hi hj; rw [← hi]; exact fun e => off j z hj e.symm
        | succ i =>
          cases j with
          | zero => simp at hi hj; rw [← hj]; exact off i y hi
          | succ j => exact hM'.apart i j y z (by simpa using hi) (by simpa using hj) (by omega)⟩
    refine Code.wpIn_mono (fun e a'' X' h => ?_) (hbody l pre x bx X Bs hb hi hM2 hlen)
    cases e <;> first | exact (h : False).elim | skip
    obtain ⟨Bs', hi', h'⟩ := (h : ∃ Bs', I (pre ++ [x]) Bs' ∧ Mem (Base.round w W1.heap.size X) Bs' X')
    exact ⟨h'.good.2, hkp _ pre (pre ++ [x]) Bs Bs' X X' hi hi' hM' h', Bs', hi', h'.base h'.good.1⟩
  case done =>
    intro D xs X hD hS hI hK
    obtain ⟨Bs, hi, hI⟩ := hI
    exact hdone D xs X Bs hD hS hi hI hK
  case stop =>
    intro D c pre X hD hS hI hK
    exact hI.elim

/-- A list in a variable of the call: its block, and the list's own. -/
def VarL (B : Nat) (b2 : Nat) (K : Blocks) (m : Nat) (n : Nat) (R : Nat → Value) (Bs : Blocks) : Prop :=
  (n = 0 ∧ Bs = (b2, 1, fun _ => .slice none 0 0) :: K) ∨ ∃ b c F, B ≤ b ∧ n ≤ c ∧ (∀ j, j < n * m → F j = R j) ∧ Bs = (b, c * m, F) :: (b2, 1, fun _ => .slice (some ⟨b, 0, none⟩) n c) :: K
theorem varL_det {B B' b2 m n n' : Nat} {K : Blocks} {R R' : Nat → Value} {Bs Bs' : Blocks} {b b' : Base} {X : World} (h : VarL B b2 K m n R Bs) (h' : VarL B' b2 K m n' R' Bs') (hM : Mem b Bs X) (hM' : Mem b' Bs' X) : Bs.map (·.1) = Bs'.map (·.1) := by
  have c (W : Base) (v : Value) (i : Nat) (L : Blocks) (hL : Mem W L X) (hi : L[i]? = some (b2, 1, fun _ => v)) : X.cell? ⟨b2, 0, none⟩ = some v := (hL.ats i _ _ _ hi).cell (by omega)
  rcases h with ⟨-, rfl⟩ | ⟨x, _, _, -, -, -, rfl⟩ <;> rcases h' with ⟨-, rfl⟩ | ⟨y, _, _, -, -, -, rfl⟩
  · rfl
  · have := (c _ _ 0 _ hM rfl).symm.trans (c _ _ 1 _ hM' rfl)
    simp at this
  · have := (c _ _ 1 _ hM rfl).symm.trans (c _ _ 0 _ hM' rfl)
    simp at this
  · have := (c _ _ 1 _ hM rfl).symm.trans (c _ _ 1 _ hM' rfl)
    simp at this
    simp [this.1]
theorem varL_mem {B b2 m n : Nat} {K : Blocks} {R : Nat → Value} {Bs : Blocks} {b : Base} {X : World} (h : VarL B b2 K m n R Bs) (hM : Mem b Bs X) : Mem b K X := by
  rcases h with ⟨-, rfl⟩ | ⟨x, _, _, -, -, -, rfl⟩
  · exact hM.drop
  · exact hM.drop.drop
end Go.Proofs.YtjfmhnbbdkejeaaDoor

/-
  What the rounds of a range keep: some blocks.
-/
namespace Go.Proofs.YtjfmhnbbdkejeaaDoor
open Go Go.RowKit Go.Shelf Go.BigFrame

/-- What a round that goes on keeps: some blocks. -/
def KpL (K : Blocks) (A B : World) : Prop := ∀ e ∈ K, At A e.1 e.2.1 e.2.2 → At B e.1 e.2.1 e.2.2
theorem kpL_t {K : Blocks} {A B C : World} (h : KpL K A B) (k : KpL K B C) : KpL K A C := fun e he x => k e he (h e he x)
theorem kpL_b {K : Blocks} (W : World) (l : Nat) (o o' : Obj) (h : W.heap[l]? = some o) (ho : o.isCells = false) : KpL K W (W.putObj l o') := fun e _ hA =>
  hA.grown (grownBy_putObj' W l o') (fun r e => by cases e; exact ⟨o, h, ho⟩)

end Go.Proofs.YtjfmhnbbdkejeaaDoor

/-
  slices.AppendSeq and slices.Collect over any iterator of spots, by contract.
-/
namespace Go.Proofs.YtjfmhnbbdkejeaaDoor
open Go Go.RowKit Go.Shelf Go.BigFrame

set_option maxRecDepth 100000 in
set_option maxHeartbeats 2000000 in
/-- slices.AppendSeq of nothing and an iterator of spots, told by its contract. -/
theorem appendSeq_any {α : Type} (px py : α → Int) {gf : Nat} {lb : Array Value} {S Sp : List α → Prop} {N : Nat} (K : Blocks) (eg : ∀ args w, (callFunc gf args).run Tryd.prog w = .ok (.enter gf args) w) (hN : N ≤ 1048576) (l : List (Int × Int)) (hS : ∀ xs, S xs → xs.map (fun c => (px c, py c)) = l)
    (w : World) (hA : Mem w K w) (hseq : ∀ W1, (∀ e ∈ K, At W1 e.1 e.2.1 e.2.2) → SeqStopsK Fence.wide 2 Tryd.prog gf lb (fun x => #[.agg (arr 2 (sp (px x) (py x)))]) (KpL K) S Sp N W1) :
    Calls Tryd.prog 95 #[.slice none 0 0, .func (.func gf) #[] lb] w (GivesL w l) := by
  have hM := hA
  have Hq := Lib.hid hseq
  have HN := Lib.hid hN
  have HS := Lib.hid hS
  clear hA hseq hN hS
  refine (callsIn_wide (n := 3)).1 ?_
  refine callsIn_of_wp_marks Tryd.func95 rfl trivial ?_ rfl
  simp only [Tryd.ntmps95, List.size_toArray, List.length_cons, List.length_nil, Nat.reduceAdd, Nat.reduceSub, Array.replicate_succ, Array.replicate_zero, List.push_toArray, List.append_toArray, List.nil_append, List.cons_append]
  refine wpIn_wide.2 ?_
  have tk_b2 : True := trivial
  go_wp2_with (first | (have _t := tk_b2; refine wpList_box1 rfl _ _ rfl _ rfl rfl hM ?_; intro b2 W' hb2 hM'; clear hM tk_b2; have hM := hM'; clear hM'))
  have ats : ∀ {b : Base} {X : World}, Mem b K X → ∀ e ∈ K, At X e.1 e.2.1 e.2.2 := fun h e he => by
    obtain ⟨i, hi⟩ := List.getElem?_of_mem he
    exact h.ats i _ _ _ hi
  refine (wpIn_wide (n := 3)).1 ?_
  refine range_rel (α := α) (px := px) (py := py) (gf := gf) (lb := lb)
    (fun pre => VarL w.heap.size b2 K 2 (pre.map fun c => (px c, py c)).length (sps (sI (pre.map fun c => (px c, py c))))) ((b2, 1, fun _ => .slice none 0 0) :: K)
    rfl eg (Hq.out _ (ats hM.drop)) (fun {A B C} h k => kpL_t h k) (fun X l o o' h ho => kpL_b X l o o' h ho)
    (fun _ _ _ _ _ _ _ h h' hm hm' => varL_det h h' hm hm') (fun _ _ _ _ _ _ _ _ h' _ hm' e he _ => ats (varL_mem h' hm') e he) rfl rfl rfl rfl rfl rfl (by decide) (by simp) (by simp) (.inl ⟨rfl, rfl⟩) hM ?body ?done
  case body =>
    intro l pre x bx X Bs hbx hI hM2 hlen
    clear hM
    have hM := hM2
    clear hM2
    have hl : (pre.map fun c => (px c, py c)).length ≤ 1048576 := by
      have := HN.out
      simp only [List.length_map]; omega
    have Hy : Hid ((pre ++ [x]).map (fun c => (px c, py c)) = pre.map (fun c => (px c, py c)) ++ [(px x, py x)]) := Lib.hid (by simp)
    generalize hu : px x = u at *
    generalize hv : py x = v at *
    generalize hp : pre.map (fun c => (px c, py c)) = p at *
    rcases hI with ⟨hn, rfl⟩ | ⟨b, c, F, hb, hnc, hF, rfl⟩
    · have Hq2 : Hid (∀ q, q < 2 → sp u v (0 + q) = sps (sI (p ++ [(u, v)])) q) := Lib.hid (fun q hq => by have := spsI_new p u v hq; rw [hn, Nat.zero_mul, Nat.zero_add] at this; rw [Nat.zero_add]; exact this)
      refine wpIn_block (region_round (fun ⟨_, _, h⟩ => h) rfl ?_)
      have tk_r3 : True := trivial; have tk_r4 : True := trivial; have tk_b3 : True := trivial; have tk_p1 : True := trivial
      go_wp2_with (first | (have _t := tk_r3; (refine wpList_get1 rfl _ _ rfl _ _ rfl hM 1 rfl spots_cell (by omega) _ rfl ?_); clear tk_r3) | (have _t := tk_r4; (refine wpList_get rfl _ _ rfl _ _ rfl hM 0 rfl (rowTab _ _ rfl) (by omega) ?_); clear tk_r4) | (have _t := tk_b3; refine wpList_slice1 rfl _ _ _ rfl _ _ rfl _ spot_under spot_info (by omega) (by omega) hM ?_; intro b3 W' hb3 hM'; clear hM tk_b3; have hM := hM'; clear hM') | (have _t := tk_p1; refine wpList_push0 rfl _ _ _ rfl _ 2 _ _ spot_under spot_infoB rfl (by omega) rfl _ _ rfl hM (sps (sI (p ++ [(u, v)]))) Hq2.out ?_; intro bL cL FL W' hbL hcL hFL hM'; clear hM tk_p1; have hM := hM'; clear hM') | (refine wpList_set1 rfl _ _ _ rfl _ _ rfl _ rfl rfl hM 2 rfl (by assumption) spots_cell (by omega) ?_; intro W' hM'; clear hM; have hM := hM'; clear hM'; simp [List.set, Act.eval] at hM))
      show ∃ Bs, _ ∧ Mem _ Bs _
      have hM' := hM.re 2 rfl (fun _ => .slice (some ⟨bL, 0, none⟩) 1 cL) (fun k hk => by
        obtain rfl : k = 0 := by omega
        rfl)
      simp only [List.set] at hM'
      refine ⟨_, ?_, hM'.skip⟩
      simp only [Hy.out, List.length_append, hn]
      exact .inr ⟨bL, cL, FL, hbL, hcL, hFL, rfl⟩
    · have hM' := hM.swap
      clear hM
      have hM := hM'
      clear hM'
      have Hq2 : Hid (∀ q, q < 2 → sp u v (0 + q) = sps (sI (p ++ [(u, v)])) (p.length * 2 + q)) := Lib.hid (fun q hq => by rw [Nat.zero_add]; exact spsI_new p u v hq)
      have Hf : Hid (∀ q, q < p.length * 2 → F q = sps (sI (p ++ [(u, v)])) q) := Lib.hid (fun q hq => by rw [hF q hq]; exact spsI_old _ hq)
      clear hF
      refine wpIn_block (region_round (fun ⟨_, _, h⟩ => h) rfl ?_)
      have tk_r3 : True := trivial; have tk_r4 : True := trivial; have tk_b3 : True := trivial; have tk_p1 : True := trivial
      go_wp2_with (first | (have _t := tk_r3; (refine wpList_get1 rfl _ _ rfl _ _ rfl hM 2 rfl spots_cell (by omega) _ rfl ?_); clear tk_r3) | (have _t := tk_r4; (refine wpList_get rfl _ _ rfl _ _ rfl hM 1 rfl (rowTab _ _ rfl) (by omega) ?_); clear tk_r4) | (have _t := tk_b3; refine wpList_slice1 rfl _ _ _ rfl _ _ rfl _ spot_under spot_info (by omega) (by omega) hM ?_; intro b3 W' hb3 hM'; clear hM tk_b3; have hM := hM'; clear hM') | (have _t := tk_p1; refine wpList_push1 rfl _ _ _ rfl _ 2 _ _ spot_under spot_infoB rfl (by omega) _ _ _ _ rfl hb hnc hl _ _ rfl sp_one0 hM (sps (sI (p ++ [(u, v)]))) Hf.out Hq2.out ?_; intro bL cL FL W' hbL hcL hFL hM'; clear hM tk_p1; have hM := hM'; clear hM') | (refine wpList_set1 rfl _ _ _ rfl _ _ rfl _ rfl rfl hM 2 rfl (by assumption) spots_cell (by omega) ?_; intro W' hM'; clear hM; have hM := hM'; clear hM'; simp [List.set, Act.eval] at hM))
      show ∃ Bs, _ ∧ Mem _ Bs _
      have hM' := hM.re 2 rfl (fun _ => .slice (some ⟨bL, 0, none⟩) (p.length + 1) cL) (fun k hk => by
        obtain rfl : k = 0 := by omega
        rfl)
      simp only [List.set] at hM'
      refine ⟨_, ?_, hM'.skip⟩
      simp only [Hy.out, List.length_append]
      exact .inr ⟨bL, cL, FL, hbL, hcL, hFL, rfl⟩
  case done =>
    rename_i K7 hK7
    intro D xs X Bs hD hxs hI hM2 hK
    have hsz : w.heap.size ≤ W'.heap.size := hM.size
    clear hM
    rw [HS.out xs hxs] at hI
    have hM : Mem (Base.round w W'.heap.size X) Bs X := hM2.base ⟨hM2.below, KeepsFrom.refl _ _⟩
    clear hM2
    show K7 _ _
    refine hK7 _ _ ?_
    dsimp only
    rcases hI with ⟨hn, rfl⟩ | ⟨b, c, F, hb, hnc, hF, rfl⟩
    · go_wp2_with (first | (refine wpList_get1 rfl _ _ rfl _ _ rfl hM 0 rfl spots_cell (by omega) _ rfl ?_))
      have hK' := hM.good.2.same D _ hD hK rfl
      refine leave_marks hK' _ (results_tmp rfl _ _ _) ?_
      exact ⟨_, rfl, .inl ⟨rfl, hn, Mem.start (below_mark hM.good.1 (Nat.le_trans hsz hD))⟩⟩
    · go_wp2_with (first | (refine wpList_get1 rfl _ _ rfl _ _ rfl hM 1 rfl spots_cell (by omega) _ rfl ?_))
      have hK' := hM.good.2.same D _ hD hK rfl
      refine leave_marks hK' _ (results_tmp rfl _ _ _) ?_
      refine ⟨_, rfl, .inr ⟨b, c, F, rfl, hb, hnc, hF, ?_⟩⟩
      exact (Mem.start (w := Base.of w) (below_mark hM.good.1 (Nat.le_trans hsz hD))).old (at_mark hM.at0 hK') (fun i p h => by simp at h)
theorem collect_any {gf : Nat} {lb : Array Value} {l : List (Int × Int)} (w : World) (h : Calls Tryd.prog 95 #[.slice none 0 0, .func (.func gf) #[] lb] w (GivesL w l)) :
    Calls Tryd.prog 56 #[.func (.func gf) #[] lb] w (GivesL w l) := by
  have H := Lib.hid h
  clear h
  go_enter Tryd.func56, Tryd.ntmps56
  go_wp2_with (first | (go_at_call 95; refine H.out.mono ?_; rintro e W' ⟨v0, rfl, hL0⟩))
  go_ret
  exact ⟨_, rfl, hL0⟩

end Go.Proofs.YtjfmhnbbdkejeaaDoor

/-
  impl's growing, and the day that it hands back, by contracts.
-/
namespace Go.Proofs.YtjfmhnbbdkejeaaDoor
open Go Go.RowKit Go.Shelf Go.BigFrame

theorem cells_stopsL (bp W H : Nat) (hW10 : W ≤ 10) (hH10 : H ≤ 10) (g : Nat → Int) (hg0 : g 0 = W) (hg1 : g 1 = H) (w : World) (hA : At w bp 122 (pas g)) :
    SeqStopsK Fence.wide 2 Tryd.prog 104 #[.pointer (some ⟨bp, 0, none⟩)] (fun c : Cell W H => #[.agg (arr 2 (sp (c.1.1 : Int) (c.1.2 : Int)))]) (KpL [(bp, 122, pas g)]) (fun xs => xs.map (·.1) = upto W (W * H)) (fun pre => ∃ i, i ≤ W * H ∧ pre.map (·.1) = upto W i) (W * H) w :=
  fun l J Jx W' hb _ _ hY h0 => cells1_in Fence.wide 2 trivial rfl (by omega) l bp W H hW10 hH10 g hg0 hg1 J Jx (fun pre x W1 hJ hlen => by
    obtain ⟨fn, tmps, assign, body, hy, hR⟩ := hY pre x W1 hJ hlen
    refine ⟨fn, tmps, assign, body, hy, hR.mono fun e W2 hh => ?_⟩
    rcases hh with ⟨h1, h2, h3⟩ | hh
    · exact .inl ⟨h1, h2, fun h4 => h3 (bp, 122, pas g) (by simp) h4⟩
    · exact .inr hh) W' (hA.below hb hA.lt) h0

/-- The cells in their order. -/
def cellsL (W M : Nat) : List (Int × Int) := (upto W M).map fun s => ((s.1 : Int), (s.2 : Int))
theorem cellsL_len (W M : Nat) : (cellsL W M).length = M := by simp [cellsL, upto]
theorem cellsL_at (W M i : Nat) (h : i < M) : sI (cellsL W M) i = sC W i := by
  unfold sI cellsL upto sC
  simp [List.getD, h, cellAt]
theorem cellsL_sps (W M j : Nat) (h : j < M * 2) : sps (sI (cellsL W M)) j = sps (sC W) j := by
  unfold sps
  rw [cellsL_at W M (j / 2) (by omega)]
theorem collect_cells (p : Nat → Int) (W H : Nat) (hW : 1 ≤ W ∧ W ≤ 10) (hH : 1 ≤ H ∧ H ≤ 10) (p0 : p 0 = W) (p1 : p 1 = H) (bp : Nat) (w : World) (hA : At w bp 122 (pas p)) :
    Calls Tryd.prog 56 #[.func (.func 104) #[] #[.pointer (some ⟨bp, 0, none⟩)]] w (GivesL w (cellsL W (W * H))) := by
  have hWH : W * H ≤ 100 := Nat.mul_le_mul hW.2 hH.2
  have hM : Mem w [(bp, 122, pas p)] w := (Mem.nil w).old hA (fun i p h => by simp at h)
  refine collect_any w ?_
  refine appendSeq_any (α := Cell W H) (fun c => (c.1.1 : Int)) (fun c => (c.1.2 : Int)) [(bp, 122, pas p)] (enters_of Tryd.func104 (by kernel_rfl) rfl) (N := W * H) (by omega) _ (fun xs hS => ?_) w hM
    (fun W1 h => cells_stopsL bp W H hW.2 hH.2 p p0 p1 W1 (h (bp, 122, pas p) (by simp)))
  unfold cellsL
  rw [← hS, List.map_map]; rfl

theorem Mem.three {w : Base} {W : World} {L : Blocks} (h : Mem w L W) (i j k : Nat) {p q r : Nat × Nat × (Nat → Value)} (hi : L[i]? = some p) (hj : L[j]? = some q) (hk : L[k]? = some r) (hij : i ≠ j) (hik : i ≠ k) (hjk : j ≠ k) : Mem w [p, q, r] W :=
  ⟨h.good, fun a b n f ha => by
    match a, ha with
    | 0, ha => simp at ha; subst ha; exact h.ats i _ _ _ hi
    | 1, ha => simp at ha; subst ha; exact h.ats j _ _ _ hj
    | 2, ha => simp at ha; subst ha; exact h.ats k _ _ _ hk
    | a + 3, ha => simp at ha,
   fun a b x y ha hb hne => by
    have key : ∀ (a : Nat) (x : Nat × Nat × (Nat → Value)), [p, q, r][a]? = some x → (a = 0 ∧ L[i]? = some x) ∨ (a = 1 ∧ L[j]? = some x) ∨ (a = 2 ∧ L[k]? = some x) := fun a x ha => by
      match a, ha with
      | 0, ha => simp at ha; subst ha; exact .inl ⟨rfl, hi⟩
      | 1, ha => simp at ha; subst ha; exact .inr (.inl ⟨rfl, hj⟩)
      | 2, ha => simp at ha; subst ha; exact .inr (.inr ⟨rfl, hk⟩)
      | a + 3, ha => simp at ha
    rcases key a x ha with ⟨rfl, h1⟩ | ⟨rfl, h1⟩ | ⟨rfl, h1⟩ <;> rcases key b y hb with ⟨rfl, h2⟩ | ⟨rfl, h2⟩ | ⟨rfl, h2⟩
    all_goals first
      | exact absurd rfl hne
      | exact h.apart _ _ x y h1 h2 hij
      | exact h.apart _ _ x y h1 h2 hik
      | exact h.apart _ _ x y h1 h2 hjk
      | exact h.apart _ _ x y h1 h2 (Ne.symm hij)
      | exact h.apart _ _ x y h1 h2 (Ne.symm hik)
      | exact h.apart _ _ x y h1 h2 (Ne.symm hjk)⟩

/-- What the day keeps: the list of cells, the growth, the cells. -/
abbrev dayK (h : Nat → Int) (M bv bg bl cc : Nat) (F : Nat → Value) : Blocks := [(bv, 1, fun _ => .slice (some ⟨bl, 0, none⟩) M cc), (bg, 12, gro h), (bl, cc * 2, F)]
def dayV (bv bg : Nat) : Value := .func (.func 107) #[] #[.pointer (some ⟨bv, 0, none⟩), .pointer (some ⟨bg, 0, none⟩)]
def GivesDay (h : Nat → Int) (W M : Nat) (w : World) (e : Ending) (w' : World) : Prop :=
  ∃ bv bg bl cc F, e = .returned (dayV bv bg) ∧ w.heap.size ≤ bv ∧ w.heap.size ≤ bg ∧ w.heap.size ≤ bl ∧ M ≤ cc ∧ (∀ j, j < M * 2 → F j = sps (sC W) j) ∧ Mem w (dayK h M bv bg bl cc F) w'

set_option maxRecDepth 100000 in
set_option maxHeartbeats 2000000 in
theorem growing_any (h p : Nat → Int) (W H : Nat) (hW : 1 ≤ W ∧ W ≤ 10) (hH : 1 ≤ H ∧ H ≤ 10) (p0 : p 0 = W) (p1 : p 1 = H) (w : World) :
    Calls Tryd.prog 81 #[.agg (arr 122 (pas p)), .agg (arr 12 (gro h))] w (GivesDay h W (W * H) w) := by
  have hM := Mem.nil w
  have hpos : 0 < (cellsL W (W * H)).length := by rw [cellsL_len]; exact Nat.mul_pos (by omega) (by omega)
  have HC := Lib.hid (collect_cells p W H hW hH p0 p1)
  have HL := Lib.hid (cellsL_len W (W * H))
  have HS := Lib.hid (cellsL_sps W (W * H))
  have tk_b1 : True := trivial; have tk_b2 : True := trivial; have tk_q1 : True := trivial; have tk_z1 : True := trivial
  go_enter Tryd.func81, Tryd.ntmps81
  go_wp2_with (first | (have _t := tk_b1; refine wpList_box rfl _ _ rfl _ _ rfl hM ?_; intro b1 W' hb1 hM'; clear hM tk_b1; have hM := hM'; clear hM') | (have _t := tk_b2; refine wpList_box rfl _ _ rfl _ _ rfl hM ?_; intro b2 W' hb2 hM'; clear hM tk_b2; have hM := hM'; clear hM') | (have _t := tk_q1; (refine wpList_get rfl _ _ rfl _ _ rfl hM 1 rfl (rowTab _ _ rfl) (by omega) ?_); clear tk_q1) | (go_at_call 73; refine (cells_any p _).mono ?_; rintro e W' ⟨bp, rfl, hbp, hAp, hbl⟩; have hM' := hM.freshH hbl hAp hbp; clear hM hAp hbl; have hM := hM'; clear hM') | (go_at_call 56; refine (HC.out bp _ (hM.ats 0 _ _ _ rfl)).mono ?_; rintro e W' ⟨v0, rfl, hL0⟩; obtain ⟨bl, cc, F, rfl, hbl1, hcc, hF, hAl, hbl2⟩ := hL0.some hpos; have hbl3 := Nat.le_trans hM.size hbl1; have hM' := hM.freshH hbl2 hAl hbl1; clear hM hAl hbl2 hL0; have hM := hM'; clear hM') | (have _t := tk_z1; refine wpList_zero1 rfl _ rfl spots_zero rfl hM ?_; intro bv W' hbv hM'; clear hM tk_z1; have hM := hM'; clear hM') | (refine wpList_set1 rfl _ _ _ rfl _ _ rfl _ rfl rfl hM 0 rfl (by assumption) spots_cell (by omega) ?_; intro W' hM'; clear hM; have hM := hM'; clear hM'; simp [List.set, Act.eval] at hM))
  go_ret
  rw [HL.out] at hF hcc hM
  have hM2 := hM.re 0 rfl (fun _ => .slice (some ⟨bl, 0, none⟩) (W * H) cc) (upd_one _ _)
  simp only [List.set] at hM2
  exact ⟨bv, b2, bl, cc, F, rfl, hbv, hb2, hbl3, hcc, fun j hj => by rw [hF j hj]; exact HS.out j hj, hM2.three 0 3 1 rfl rfl rfl (by omega) (by omega) (by omega)⟩

set_option maxRecDepth 100000 in
set_option maxHeartbeats 2000000 in
theorem day_any (h p : Nat → Int) (e : growB h = true) (hp : GrassOk p) (hf : Fits p) (W H : Nat) (hW : 1 ≤ W ∧ W ≤ 10) (hH : 1 ≤ H ∧ H ≤ 10) (bv bg bl cc : Nat) (F : Nat → Value) (hcc : W * H ≤ cc) (hF : ∀ j, j < W * H * 2 → F j = sps (sC W) j) (b0 : Base) (w : World) (hM0 : Mem b0 (dayK h (W * H) bv bg bl cc F) w) :
    Calls Tryd.prog 107 #[.agg (arr 122 (pas p)), .pointer (some ⟨bv, 0, none⟩), .pointer (some ⟨bg, 0, none⟩)] w fun e w' =>
      e = .returned (.tuple #[.agg (arr 122 (pas (growT h p W (W * H)))), .int .i64 (gsum (growT h p W (W * H)) - gsum p)]) ∧ Below w.heap.size w w' := by
  have hM : Mem w (dayK h (W * H) bv bg bl cc F) w := hM0.base (Below.refl _ _)
  have HT := Lib.hid (fun w hA => tend_gro h p e hp hf W H hW hH bl (cc * 2) cc F (by omega) hF w hA)
  clear hM0
  have tk_b3 : True := trivial; have tk_b4 : True := trivial; have tk_q1 : True := trivial; have tk_q2 : True := trivial; have tk_q3 : True := trivial
  go_enter Tryd.func107, Tryd.ntmps107
  go_wp2_with (first | (have _t := tk_b3; refine wpList_box rfl _ _ rfl _ _ rfl hM ?_; intro b3 W' hb3 hM'; clear hM tk_b3; have hM := hM'; clear hM') | (have _t := tk_b4; refine wpList_zero rfl _ rfl (zeroTab _ _ _ rfl) hM ?_; intro b4 W' hb4 hM'; clear hM tk_b4; have hM := hM'; clear hM') | (have _t := tk_q1; (refine wpList_get rfl _ _ rfl _ _ rfl hM 1 rfl (rowTab _ _ rfl) (by omega) ?_); clear tk_q1) | (have _t := tk_q2; (refine wpList_get1 rfl _ _ rfl _ _ rfl hM 2 rfl (cellTab _ rfl) (by omega) _ rfl ?_); clear tk_q2) | (have _t := tk_q3; (refine wpList_get rfl _ _ rfl _ _ rfl hM 3 rfl (rowTab _ _ rfl) (by omega) ?_); clear tk_q3) | (go_at_call 108; refine (HT.out _ (hM.ats 4 _ _ _ rfl)).mono ?_; rintro e W' ⟨rfl, hb'⟩; have hM' := hM.call hb'; clear hM hb'; have hM := hM'; clear hM') | (refine wpList_lay rfl _ _ _ rfl _ _ rfl _ _ rfl hM 0 rfl (by assumption) (rowTab _ _ rfl) (by omega) ?_ ?_; (first | (intro _ _; rfl) | (intro k _; exact h1 _) | (intro k _; simp only [lay, upd]; (repeat' split) <;> first | exact h1 _ | rfl)); intro W' hM'; clear hM; have hM := hM'; clear hM'; simp only [List.set] at hM))
  refine bodyPost_ret (results_at2 rfl _ rfl ((hM.ats 0 _ _ _ rfl).congr (lay_pasy _ _)) (rowTab _ _ rfl) _ rfl) rfl ?_
  exact ⟨rfl, hM.below⟩
end Go.Proofs.YtjfmhnbbdkejeaaDoor

/-
  impl.checkCells of no spots: an error or none, as a value.
-/
namespace Go.Proofs.YtjfmhnbbdkejeaaDoor
open Go Go.RowKit Go.BigFrame

theorem checkCells0_any {a : Nat → Addr} (g : Nat → Int) (hg : Fits g) (w : World) (hE : Errs a w) :
    Calls Tryd.prog 55 #[.agg (arr 122 (pas g)), .slice none 0 0] w fun e w' => e = .returned (errO (a 0) (!okB g)) ∧ Below w.heap.size w w' := by
  cases h : okB g
  · exact checkCells_bad g hg _ w hE (by rw [← okB_eq]; exact h)
  · exact checkCells_nil g hg w (by rw [← okB_eq]; exact h)
end Go.Proofs.YtjfmhnbbdkejeaaDoor

/-
  impl's live over days of growing, sumOf, checkGrowing, by contracts.
-/
namespace Go.Proofs.YtjfmhnbbdkejeaaDoor
open Go Go.RowKit Go.BigFrame

theorem ints_under : Tryd.prog.underlying 121 = some (.slice 2) := Tryd.underlying121
theorem ints_info : (Tryd.prog.info? 2).map (fun i => (i.size, i.zero, i.bytes)) = some (1, some (.int .i64 0), 8) := by kernel_rfl
theorem ints_info2 : (Tryd.prog.info? 2).map (fun i => (i.size, i.zero)) = some (1, some (.int .i64 0)) := by kernel_rfl
/-- What grows, day by day, as cells. -/
def yV (h p : Nat → Int) (W H : Nat) : Nat → Value := fun j => .int .i64 (yieldD h p W H j)

theorem day_step (h p : Nat → Int) (e : growB h = true) (hp : GrassOk p) (hf : Fits p) (W H : Nat) (hW : 1 ≤ W ∧ W ≤ 10) (hH : 1 ≤ H ∧ H ≤ 10) (bv bg bl cc : Nat) (F : Nat → Value) (hcc : W * H ≤ cc) (hF : ∀ j, j < W * H * 2 → F j = sps (sC W) j) (k : Nat) (b0 : Base) (w : World) (hM0 : Mem b0 (dayK h (W * H) bv bg bl cc F) w) :
    Calls Tryd.prog 107 #[.agg (arr 122 (pas (dayG h p W H k))), .pointer (some ⟨bv, 0, none⟩), .pointer (some ⟨bg, 0, none⟩)] w fun e w' =>
      e = .returned (.tuple #[.agg (arr 122 (pas (dayG h p W H (k + 1)))), .int .i64 (yieldD h p W H k)]) ∧ Below w.heap.size w w' :=
  day_any h (dayG h p W H k) e (dayG_in e hp W H k) (dayG_fits e hp hf W H k) W H hW hH bv bg bl cc F hcc hF b0 w hM0

def LiveIn (w : World) (h p : Nat → Int) (W H n b6 b3 : Nat) (K : Blocks) (v i : Value) (wr : World) : Prop :=
  ∃ k : Nat, k ≤ n ∧ i = .int .i64 k ∧ Lst w ((b6, 122, zP) :: (b3, 122, pas (dayG h p W H k)) :: K) 1 v k (yV h p W H) wr
def GivesLive (h p : Nat → Int) (W H n : Nat) (w : World) (e : Ending) (w' : World) : Prop :=
  ∃ v, e = .returned (.tuple #[.agg (arr 122 (pas (dayG h p W H n))), v]) ∧ Lst w [] 1 v n (yV h p W H) w'

set_option maxRecDepth 100000 in
set_option maxHeartbeats 1000000 in
theorem live_any (h p : Nat → Int) (e : growB h = true) (hp : GrassOk p) (hf : Fits p) (W H : Nat) (hW : 1 ≤ W ∧ W ≤ 10) (hH : 1 ≤ H ∧ H ≤ 10) (bv bg bl cc : Nat) (F : Nat → Value) (hcc : W * H ≤ cc) (hF : ∀ j, j < W * H * 2 → F j = sps (sC W) j) (n : Nat) (hn : n ≤ 365) (b0 : Base) (w : World) (hM0 : Mem b0 (dayK h (W * H) bv bg bl cc F) w) :
    Calls Tryd.prog 80 #[.agg (arr 122 (pas p)), .int .i64 n, dayV bv bg] w (GivesLive h p W H n w) := by
  have hM : Mem w (dayK h (W * H) bv bg bl cc F) w := hM0.base (Below.refl _ _)
  have HT := Lib.hid (fun k (b0 : Base) w hM0 => day_step h p e hp hf W H hW hH bv bg bl cc F hcc hF k b0 w hM0)
  clear hM0 hF hcc
  unfold dayV
  have tk_b3 : True := trivial; have tk_b6 : True := trivial
  go_enter Tryd.func80, Tryd.ntmps80
  go_wp2_with (first | (have _t := tk_b3; refine wpList_box rfl _ _ rfl _ _ rfl hM ?_; intro b3 W' hb3 hM'; clear hM tk_b3; have hM := hM'; clear hM') | (have _t := tk_b6; refine wpList_zero rfl _ rfl (zeroTab _ _ _ rfl) hM ?_; intro b6 W' hb6 hM'; clear hM tk_b6; have hM := hM'; clear hM'))
  go_loopw [8, 11] (fun v i wr => LiveIn w h p W H n b6 b3 (dayK h (W * H) bv bg bl cc F) v i wr) (fun _ i _ => n - (intOf i).toNat)
  case atStart => exact ⟨0, by omega, rfl, .inl ⟨rfl, rfl, hM⟩⟩
  case round =>
    clear hM
    obtain ⟨k, hk, rfl, hL⟩ := hrel
    by_cases hlt : k < n
    · have lk : (k : Int) < n := by omega
      rcases hL with ⟨rfl, hk0, hM⟩ | ⟨b, c, F1, rfl, hb, hkc, hF1, hM⟩
      · subst hk0
        have ln : (0 : Int) < n := by omega
        have Hq : Hid (∀ j, j < 1 → (fun _ : Nat => Value.int .i64 (yieldD h p W H 0)) j = yV h p W H j) := Lib.hid (fun j hj => by rw [show j = 0 by omega]; rfl)
        have tk_r1 : True := trivial; have tk_r2 : True := trivial; have tk_r3 : True := trivial; have tk_p1 : True := trivial
        go_wp2_with (first | (have _t := tk_r1; (refine wpList_get rfl _ _ rfl _ _ rfl hM 1 rfl (rowTab _ _ rfl) (by omega) ?_); clear tk_r1) | (go_at_call 107; (with_reducible refine (HT.out 0 (Base.of w) _ hM.drop.drop).mono ?_); rintro e W' ⟨rfl, hb'⟩; have hM' := hM.call hb'; clear hM hb'; have hM := hM'; clear hM') | (have _t := tk_r2; (refine wpList_lay rfl _ _ _ rfl _ _ rfl _ _ rfl hM 1 rfl (by assumption) (rowTab _ _ rfl) (by omega) ?_ ?_; (first | (intro _ _; rfl) | (intro k _; exact h1 _) | (intro k _; simp only [lay, upd]; (repeat' split) <;> first | exact h1 _ | rfl)); intro W' hM'; clear hM; have hM := hM'; clear hM'; simp only [List.set] at hM); clear tk_r2) | (have _t := tk_r3; refine wpList_lit1 rfl _ _ _ rfl (.int .i64 (yieldD h p W H 0)) rfl rfl _ ints_under ints_info2 hM ?_; intro bn W' hbn hM'; clear hM tk_r3; have hM := hM'; clear hM') | (have _t := tk_p1; refine wpList_push0 rfl _ _ _ rfl _ 1 _ _ ints_under ints_info rfl (by omega) rfl _ _ rfl hM (yV h p W H) Hq.out ?_; intro bL cL FL W' hbL hcL hFL hM'; clear hM tk_p1; have hM := hM'; clear hM'))
        have hM2 := hM.re 2 rfl (pas (dayG h p W H 1)) (lay_pasy _ _)
        simp only [List.set] at hM2
        go_roundw
        case rel => exact (⟨1, by omega, by go_num, .inr ⟨bL, cL, FL, rfl, hbL, hcL, hFL, hM2⟩⟩ : LiveIn w h p W H n b6 b3 _ _ _ _)
        case measure => simp [intOf]; omega
      · have Hq : Hid (∀ j, j < 1 → (fun _ : Nat => Value.int .i64 (yieldD h p W H k)) j = yV h p W H (k * 1 + j)) := Lib.hid (fun j hj => by rw [show k * 1 + j = k by omega]; rfl)
        have Hf := Lib.hid hF1
        clear hF1
        have tk_r1 : True := trivial; have tk_r2 : True := trivial; have tk_r3 : True := trivial; have tk_p1 : True := trivial
        go_wp2_with (first | (have _t := tk_r1; (refine wpList_get rfl _ _ rfl _ _ rfl hM 2 rfl (rowTab _ _ rfl) (by omega) ?_); clear tk_r1) | (go_at_call 107; (with_reducible refine (HT.out k (Base.of w) _ hM.drop.drop.drop).mono ?_); rintro e W' ⟨rfl, hb'⟩; have hM' := hM.call hb'; clear hM hb'; have hM := hM'; clear hM') | (have _t := tk_r2; (refine wpList_lay rfl _ _ _ rfl _ _ rfl _ _ rfl hM 2 rfl (by assumption) (rowTab _ _ rfl) (by omega) ?_ ?_; (first | (intro _ _; rfl) | (intro k _; exact h1 _) | (intro k _; simp only [lay, upd]; (repeat' split) <;> first | exact h1 _ | rfl)); intro W' hM'; clear hM; have hM := hM'; clear hM'; simp only [List.set] at hM); clear tk_r2) | (have _t := tk_r3; refine wpList_lit1 rfl _ _ _ rfl (.int .i64 (yieldD h p W H k)) rfl rfl _ ints_under ints_info2 hM ?_; intro bn W' hbn hM'; clear hM tk_r3; have hM := hM'; clear hM') | (have _t := tk_p1; refine wpList_push1 rfl _ _ _ rfl _ 1 _ _ ints_under ints_info rfl (by omega) _ _ _ _ rfl hb hkc (by omega) _ _ rfl (fun _ _ => rfl) hM (yV h p W H) Hf.out Hq.out ?_; intro bL cL FL W' hbL hcL hFL hM'; clear hM tk_p1; have hM := hM'; clear hM'))
        have hM2 := hM.re 2 rfl (pas (dayG h p W H (k + 1))) (lay_pasy _ _)
        simp only [List.set] at hM2
        go_roundw
        case rel => exact (⟨k + 1, by omega, by go_num, .inr ⟨bL, cL, FL, rfl, hbL, hcL, hFL, hM2⟩⟩ : LiveIn w h p W H n b6 b3 _ _ _ _)
        case measure => simp [intOf]; omega
    · obtain rfl : k = n := by omega
      rcases hL with ⟨rfl, hk0, hM⟩ | ⟨b, c, F1, rfl, hb, hkc, hF1, hM⟩
      · subst hk0
        go_wp2_with (first | (refine wpList_get rfl _ _ rfl _ _ rfl hM 1 rfl (rowTab _ _ rfl) (by omega) ?_) | (refine wpList_lay rfl _ _ _ rfl _ _ rfl _ _ rfl hM 0 rfl (by assumption) (rowTab _ _ rfl) (by omega) ?_ ?_; (first | (intro _ _; rfl) | (intro k _; exact h1 _) | (intro k _; simp only [lay, upd]; (repeat' split) <;> first | exact h1 _ | rfl)); intro W' hM'; clear hM; have hM := hM'; clear hM'; simp only [List.set] at hM))
        refine bodyPost_ret (results_at2 rfl _ rfl ((hM.ats 0 _ _ _ rfl).congr (lay_pasy _ _)) (rowTab _ _ rfl) _ rfl) rfl ?_
        exact ⟨_, rfl, .inl ⟨rfl, rfl, Mem.start hM.good⟩⟩
      · have hb6 : w.heap.size ≤ b6 := by assumption
        go_wp2_with (first | (refine wpList_get rfl _ _ rfl _ _ rfl hM 2 rfl (rowTab _ _ rfl) (by omega) ?_) | (refine wpList_lay rfl _ _ _ rfl _ _ rfl _ _ rfl hM 1 rfl (by assumption) (rowTab _ _ rfl) (by omega) ?_ ?_; (first | (intro _ _; rfl) | (intro k _; exact h1 _) | (intro k _; simp only [lay, upd]; (repeat' split) <;> first | exact h1 _ | rfl)); intro W' hM'; clear hM; have hM := hM'; clear hM'; simp only [List.set] at hM))
        refine bodyPost_ret (results_at2 rfl _ rfl ((hM.ats 1 _ _ _ rfl).congr (lay_pasy _ _)) (rowTab _ _ rfl) _ rfl) rfl ?_
        exact ⟨_, rfl, (Lst.only (.inr ⟨b, c, F1, rfl, hb, hkc, hF1, hM⟩))⟩

set_option maxRecDepth 100000 in
set_option maxHeartbeats 1000000 in
theorem sumOf_any (yl : Nat → Int) (n b c N : Nat) (F : Nat → Value) (hn : n ≤ 365) (hN : n ≤ N) (hF : ∀ j, j < n * 1 → F j = .int .i64 (yl j)) (hs : ∀ k, k ≤ n → -1000000 ≤ sumN k yl ∧ sumN k yl ≤ 1000000) (w : World) (hA : At w b N F) :
    Calls Tryd.prog 82 #[.slice (some ⟨b, 0, none⟩) n c] w fun e w' => e = .returned (.int .i64 (sumN n yl)) ∧ Below w.heap.size w w' := by
  have hM : Mem w [(b, N, F)] w := (Mem.nil w).old hA (fun i p h => by simp at h)
  have Hs := Lib.hid hs
  have HF := Lib.hid hF
  clear hA hs hF
  go_enter Tryd.func82, Tryd.ntmps82
  go_wp2
  go_loopw [3, 8] (fun s i wr => ∃ k : Nat, k ≤ n ∧ s = .int .i64 (sumN k yl) ∧ i = .int .i64 k ∧ Mem w [(b, N, F)] wr) (fun _ i _ => n - (intOf i).toNat)
  case atStart => exact ⟨0, by omega, rfl, rfl, hM⟩
  case round =>
    clear hM
    obtain ⟨k, hk, rfl, rfl, hM⟩ := hrel
    by_cases hlt : k < n
    · have lk : (k : Int) < n := by omega
      have e0 : F k = .int .i64 (yl k) := HF.out k (by omega)
      have e1 : F (k * 1) = .int .i64 (yl k) := by rw [Nat.mul_one]; exact e0
      have s1 := Hs.out (k + 1) (by omega)
      have c0 : IntKind.i64.wrap (sumN k yl + yl k) = sumN (k + 1) yl := IntWalk.i64_in _ (by rw [sumN] at s1; omega)
      clear s1
      go_wp2_with (first | (refine wpList_get1 rfl _ _ rfl _ _ rfl hM 0 rfl (cellTab _ rfl) (by omega) _ (by first | exact e0 | exact e1) ?_))
      go_roundw
      case rel => exact ⟨k + 1, by omega, rfl, by go_num, hM⟩
      case measure => simp [intOf]; omega
    · obtain rfl : k = n := by omega
      go_wp2
      go_ret
      exact ⟨rfl, hM.below⟩
theorem sumOf_nil (w : World) :
    Calls Tryd.prog 82 #[.slice none 0 0] w fun e w' => e = .returned (.int .i64 0) ∧ Below w.heap.size w w' := by
  go_enter Tryd.func82, Tryd.ntmps82
  go_wp2
  refine wp_loop_rounds 1 ?_
  rw [rounds_succ]
  go_wp2
  go_ret
  exact ⟨rfl, Below.refl _ _⟩

set_option maxRecDepth 100000 in
set_option maxHeartbeats 1000000 in
theorem checkGrowing_any {a : Nat → Addr} (p : Nat → Int) (hp : Fits p) (h : Nat → Int) (hF : FitsW h) (w : World) (hE : Errs a w) :
    Calls Tryd.prog 79 #[.agg (arr 122 (pas p)), .agg (arr 12 (gro h)), .slice none 0 0] w fun e w' => e = .returned (errO (a 0) (!(okB p && growB h))) ∧ Below w.heap.size w w' := by
  have hM := Mem.nil w
  have HP := Lib.hid hp
  have HF := Lib.hid hF
  have HE := Lib.hid hE
  clear hp hF hE
  have tk_b1 : True := trivial; have tk_b2 : True := trivial; have tk_g1 : True := trivial; have tk_g2 : True := trivial
  cases hv : growB h
  · have Hr : Hid (errO (a 0) (!(okB p && false)) = errV (a 0)) := Lib.hid (by rw [Bool.and_false]; rfl)
    rw [Hr.out]
    have Hv := Lib.hid hv
    clear hv
    go_enter Tryd.func79, Tryd.ntmps79
    go_wp2_with (first | (have _t := tk_b1; refine wpList_box rfl _ _ rfl _ _ rfl hM ?_; intro b1 W' hb1 hM'; clear hM tk_b1; have hM := hM'; clear hM') | (have _t := tk_b2; refine wpList_box rfl _ _ rfl _ _ rfl hM ?_; intro b2 W' hb2 hM'; clear hM tk_b2; have hM := hM'; clear hM') | (have _t := tk_g1; (refine wpList_get rfl _ _ rfl _ _ rfl hM 0 rfl (rowTab _ _ rfl) (by omega) ?_); clear tk_g1) | (go_at_call 62; (with_reducible refine (checkGrowth_no h HF.out _ (HE.out.below hM.below) Hv.out).mono ?_); rintro e W' ⟨rfl, hb'⟩; have hM' := hM.call hb'; clear hM hb'; have hM := hM'; clear hM'))
    go_ret
    exact ⟨rfl, hM.below⟩
  · rw [Bool.and_true]
    have Hv := Lib.hid hv
    clear hv
    go_enter Tryd.func79, Tryd.ntmps79
    go_wp2_with (first | (have _t := tk_b1; refine wpList_box rfl _ _ rfl _ _ rfl hM ?_; intro b1 W' hb1 hM'; clear hM tk_b1; have hM := hM'; clear hM') | (have _t := tk_b2; refine wpList_box rfl _ _ rfl _ _ rfl hM ?_; intro b2 W' hb2 hM'; clear hM tk_b2; have hM := hM'; clear hM') | (have _t := tk_g1; (refine wpList_get rfl _ _ rfl _ _ rfl hM 0 rfl (rowTab _ _ rfl) (by omega) ?_); clear tk_g1) | (go_at_call 62; (with_reducible refine (checkGrowth_yes h HF.out _ Hv.out).mono ?_); rintro e W' ⟨rfl, hb'⟩; have hM' := hM.call hb'; clear hM hb'; have hM := hM'; clear hM') | (have _t := tk_g2; (refine wpList_get rfl _ _ rfl _ _ rfl hM 1 rfl (rowTab _ _ rfl) (by omega) ?_); clear tk_g2) | (go_at_call 55; (with_reducible refine (checkCells0_any p HP.out _ (HE.out.below hM.below)).mono ?_); rintro e W' ⟨rfl, hb'⟩; have hM' := hM.call hb'; clear hM hb'; have hM := hM'; clear hM'))
    go_ret
    exact ⟨rfl, hM.below⟩
end Go.Proofs.YtjfmhnbbdkejeaaDoor

