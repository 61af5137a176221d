/-
  Several texts in one: OwnO, KpL, SeqL, Beside, MapIn, MapIter, SpotKey, StepsMath, Marks, RangeM.
-/
import Derived.Test.YtbmaljhnldepoaaDoorP2
import Derived.Test.YtbmaljhnldepoaaDoorP9
import Derived.Test.YtbmaljhnldepoaaDoorP7
import Derived.Maps.RangeRun
import Derived.Test.YtbmaljhnldepoaaDoorP4
import Derived.DeepKeys4
/-
  PLAIN LAWS: an element is appended to a list that begins in the middle of its block.
-/
namespace Go.Proofs.YtbmaljhnldepoaaDoor
open Go Go.RowKit

theorem At.listO {W : World} {b N : Nat} {f : Nat → Value} (hA : At W b N f) {off k : Nat} (hk : off + k ≤ N) : ∀ j v, (arr k (fun j => f (off + j))).toList[j]? = some v → W.cell? ((⟨b, off, none⟩ : Addr).add j) = some v := fun j v hv => by
  rw [arr_toList] at hv
  have hj : j < k := by have := (List.getElem?_eq_some_iff.1 hv).1; simpa using this
  simp [hj] at hv
  rw [add_any, hA.cell (by omega), hv]

section
variable {P : Program} {ops : Array Oper} {rest : List Oper} {o : Oper} {a : Act} {w : Base} {W : World} {Q : Exit → Act → World → Prop} {L K : Blocks}
/-- One more element is appended to n of them, which begin at off. -/
theorem oper_pushO {J : Act → World → Prop} (s x : Operand) (t : TypeId) (ho : o.op = .call { callee := .builtin .append, args := #[s, x], argTypes := #[t, t] })
    (e : TypeId) (m bs : Nat) (z : Value) (hu : P.underlying t = some (.slice e)) (hz : (P.info? e).map (fun i => (i.size, i.zero, i.bytes)) = some (m, some z, bs)) (hzs : z.cells.size = m) (hbs : bs ≤ 1000)
    (b off n c N : Nat) (F : Nat → Value) (hs : a.eval s = .slice (some ⟨b, off, none⟩) n c) (hb : w.B ≤ b) (hnc : n ≤ c) (hN : off + c * m ≤ N) (hn : n ≤ 1048576)
    (bn : Nat) (f : Nat → Value) (hx : a.eval x = .slice (some ⟨bn, 0, none⟩) 1 1) (h1 : ∀ k, k < m → (f k).oneCell' = true) (hM : Mem w ((bn, m, f) :: (b, N, F) :: K) W) (R : Nat → Value) (hR0 : ∀ j, j < n * m → F (off + j) = R j) (hR : ∀ j, j < m → f j = R (n * m + j))
    (h : ∀ b' off' c' N' F' W', w.B ≤ b' → n + 1 ≤ c' → off' + c' * m ≤ N' → (∀ j, j < (n + 1) * m → F' (off' + j) = R j) → Mem w ((b', N', F') :: K) W' → J (a.put o.dst (.slice (some ⟨b', off', none⟩) (n + 1) c')) W') : o.wp P a W J Q := by
  obtain ⟨i, hi, hq⟩ := Option.map_eq_some_iff.1 hz
  simp only [Prod.mk.injEq] at hq
  obtain ⟨rfl, q2, rfl⟩ := hq
  have hnews := hM.at0.list (Nat.le_refl _)
  by_cases hroom : n + 1 ≤ c
  · have hfit : n * i.size + i.size ≤ c * i.size := by
      have := Nat.mul_le_mul_right i.size hroom
      rwa [Nat.add_mul, Nat.one_mul] at this
    obtain ⟨t0, ht0⟩ := hM.ats 1 _ _ _ rfl
    have hfc := run_firstCells_some (P := P) W i.size 1 ⟨bn, 0, none⟩ 1 1 (arr i.size f).toList (by simp [arr_size]) hnews
    have hst := run_storeCells_at (P := P) b (off + n * i.size) t0 (arr i.size f).toList 0 (arr N F) W ht0 (by simp [arr_size]; omega) (fun v hv => by
      rw [arr_toList] at hv; simp at hv; obtain ⟨k, hk, rfl⟩ := hv; exact h1 k hk)
    rw [Nat.add_zero, arr_lay (by omega)] at hst
    have hr : (Builtin.append_ #[t, t] o.type #[.slice (some ⟨b, off, none⟩) n c, .slice (some ⟨bn, 0, none⟩) 1 1]).run P W = .ok (.slice (some ⟨b, off, none⟩) (n + 1) c) (W.setRow b (arr N (lay F (off + n * i.size) i.size f))) := by
      simp [Builtin.append_, run_underlying hu, sizeOf, typeInfo, hi, Builtin.lenOf, hroom, hfc, add_any, hst]
    unfold Oper.wp execOp
    simp only [ho, resolve, invoke, builtin, Sem.run_bind, Sem.run_pure, Result.andThen_ok, List.map_toArray, List.map_cons, List.map_nil, hs, hx, hr]
    refine h b off c N _ _ hb hroom hN (fun j hj => ?_) (hM.setRow 1 rfl hb _).drop
    rw [Nat.add_mul, Nat.one_mul] at hj
    simp only [lay]
    by_cases hj' : j < n * i.size
    · rw [if_neg (by omega)]; exact hR0 j hj'
    · rw [if_pos (by omega), hR _ (by omega), show off + j - (off + n * i.size) = j - n * i.size by omega, show n * i.size + (j - n * i.size) = j by omega]
  · have hle : n * i.size ≤ c * i.size := Nat.mul_le_mul_right _ hnc
    have hb48 : Builtin.nextslicecap (n + 1) c * i.bytes ≤ 281474976710656 := growslice_fits (by omega) (by
      have : (n + 1) * i.bytes ≤ 1048577 * 1000 := Nat.mul_le_mul (by omega) hbs
      omega)
    have hr := run_append_grow (P := P) W t o.type e i z hu hi q2 ⟨b, off, none⟩ n c (arr (n * i.size) (fun j => F (off + j))).toList (by simp [arr_size]) ((hM.ats 1 _ _ _ rfl).listO (by omega)) ⟨bn, 0, none⟩ 1 1 (arr i.size f).toList (by simp [arr_size]) hnews (by omega) (by omega) hb48
    have hge := grownCap_ge W (n + 1) c e
    unfold Oper.wp execOp
    simp only [ho, resolve, invoke, builtin, Sem.run_bind, Sem.run_pure, Result.andThen_ok, List.map_toArray, List.map_cons, List.map_nil, hs, hx, hr]
    refine h _ 0 _ _ _ _ hM.size hge (Nat.le_of_eq (Nat.zero_add _)) (fun j hj => ?_) (hM.drew.allocA e _ (grownCap W (n + 1) c e * i.size) ?_).skip.skip
    · rw [Nat.add_mul, Nat.one_mul] at hj
      rw [Nat.zero_add]
      by_cases hj' : j < n * i.size
      · rw [← hR0 j hj']
        rw [Array.getElem?_append_left (by simp [arr_size]; omega), Array.getElem?_append_left (by simp [arr_size]; omega), Array.toArray_toList, arr_at hj']
        rfl
      · rw [show j = n * i.size + (j - n * i.size) by omega, ← hR _ (by omega)]
        rw [Array.getElem?_append_left (by simp [arr_size]; omega), Array.getElem?_append_right (by simp [arr_size]), Array.toArray_toList, Array.toArray_toList, arr_size, Nat.add_sub_cancel_left, arr_at (by omega)]
        rfl
    · simp only [Array.size_append, List.size_toArray, size_zeroCells, hzs, Array.length_toList, arr_size]
      rw [← Nat.succ_mul, ← Nat.add_mul]
      congr 1; simp only [Nat.succ_eq_add_one]; omega
theorem wpList_pushO (hgd : o.guard = none) (s x : Operand) (t : TypeId) (ho : o.op = .call { callee := .builtin .append, args := #[s, x], argTypes := #[t, t] })
    (e : TypeId) (m bs : Nat) (z : Value) (hu : P.underlying t = some (.slice e)) (hz : (P.info? e).map (fun i => (i.size, i.zero, i.bytes)) = some (m, some z, bs)) (hzs : z.cells.size = m) (hbs : bs ≤ 1000)
    (b off n c N : Nat) (F : Nat → Value) (hs : a.eval s = .slice (some ⟨b, off, none⟩) n c) (hb : w.B ≤ b) (hnc : n ≤ c) (hN : off + c * m ≤ N) (hn : n ≤ 1048576)
    (bn : Nat) (f : Nat → Value) (hx : a.eval x = .slice (some ⟨bn, 0, none⟩) 1 1) (h1 : ∀ k, k < m → (f k).oneCell' = true) (hM : Mem w ((bn, m, f) :: (b, N, F) :: K) W) (R : Nat → Value) (hR0 : ∀ j, j < n * m → F (off + j) = R j) (hR : ∀ j, j < m → f j = R (n * m + j))
    (h : ∀ b' off' c' N' F' W', w.B ≤ b' → n + 1 ≤ c' → off' + c' * m ≤ N' → (∀ j, j < (n + 1) * m → F' (off' + j) = R j) → Mem w ((b', N', F') :: K) W' → wpList P ops Q rest (a.put o.dst (.slice (some ⟨b', off', none⟩) (n + 1) c')) W') : wpList P ops Q (o :: rest) a W :=
  wpList_plain hgd fun _ hJ => oper_pushO s x t ho e m bs z hu hz hzs hbs b off n c N F hs hb hnc hN hn bn f hx h1 hM R hR0 hR fun b' off' c' N' F' W' g1 g2 g3 g4 g5 => hJ _ _ (h b' off' c' N' F' W' g1 g2 g3 g4 g5)
/-- All but the first of a list. -/
theorem wpList_rest (hgd : o.guard = none) (t e : TypeId) (x : Operand) (ho : o.op = .slice t x (some (.const (.int .i64 1))) none none) (m : Nat) (hu : P.underlying t = some (.slice e)) (hz : (P.info? e).map (·.size) = some m)
    (b off n c : Nat) (hx : a.eval x = .slice (some ⟨b, off, none⟩) n c) (hn : 1 ≤ n) (_hnc : n ≤ c)
    (h : wpList P ops Q rest (a.put o.dst (.slice (some ⟨b, if c = 1 then off else off + m, none⟩) (n - 1) (c - 1))) W) : wpList P ops Q (o :: rest) a W := by
  obtain ⟨ie, hie, hq⟩ := Option.map_eq_some_iff.1 hz
  refine wpList_plain hgd fun J hJ => ?_
  have hb1 : (Instr.sliceBound (.int .i64 1) n .sliceB).run P W = .ok 1 W := by
    have hle : (1 : Int) ≤ (n : Int) := by omega
    simp [Instr.sliceBound, asIntOf, hle]
  have hr : (Instr.slice t (.slice (some ⟨b, off, none⟩) n c) (some (.int .i64 1)) none none).run P W = .ok (.slice (some ⟨b, if c = 1 then off else off + m, none⟩) (n - 1) (c - 1)) W := by
    by_cases hc : c = 1
    · simp [Instr.slice, Instr.sliceBounds, run_underlying hu, sizeOf, typeInfo, hie, hq, hb1, hc]
    · simp [Instr.slice, Instr.sliceBounds, run_underlying hu, sizeOf, typeInfo, hie, hq, hb1, hc, add_any]
  have hv : a.eval (.const (.int .i64 1)) = .int .i64 1 := rfl
  have hq2 : (Instr.sliceAt t (.slice (some ⟨b, off, none⟩) n c) (some (.int .i64 1)) none none).run P W = .ok (.slice (some ⟨b, if c = 1 then off else off + m, none⟩) (n - 1) (c - 1)) W := by
    unfold Instr.sliceAt
    simp only [Sem.run_bind, run_underlying hu, Result.andThen_ok, hr]
  unfold Oper.wp
  simp only [execOp, ho, hx, hv, Option.map_some, Option.map_none, Sem.run_bind, Sem.run_pure, hq2, Result.andThen_ok]
  exact hJ _ _ h
end
end Go.Proofs.YtbmaljhnldepoaaDoor

/-
  What the rounds of a range keep: some blocks.
-/
namespace Go.Proofs.YtbmaljhnldepoaaDoor
open Go Go.RowKit Go.Shelf Go.BigFrame

/-- What a round that goes on keeps: some blocks. -/
def KpL (K : Blocks) (A B : World) : Prop := ∀ e ∈ K, At A e.1 e.2.1 e.2.2 → At B e.1 e.2.1 e.2.2
theorem kpL_t {K : Blocks} {A B C : World} (h : KpL K A B) (k : KpL K B C) : KpL K A C := fun e he x => k e he (h e he x)
theorem kpL_b {K : Blocks} (W : World) (l : Nat) (o o' : Obj) (h : W.heap[l]? = some o) (ho : o.isCells = false) : KpL K W (W.putObj l o') := fun e _ hA =>
  hA.grown (grownBy_putObj' W l o') (fun r e => by cases e; exact ⟨o, h, ho⟩)

end Go.Proofs.YtbmaljhnldepoaaDoor

/-
  slices.AppendSeq and slices.Collect over any iterator of spots, by contract.
-/
namespace Go.Proofs.YtbmaljhnldepoaaDoor
open Go Go.RowKit Go.Shelf Go.BigFrame

set_option maxRecDepth 100000 in
set_option maxHeartbeats 2000000 in
/-- slices.AppendSeq of nothing and an iterator of spots, told by its contract. -/
theorem appendSeq_any {α : Type} (px py : α → Int) {gf : Nat} {lb : Array Value} {S Sp : List α → Prop} {N : Nat} (K : Blocks) (eg : ∀ args w, (callFunc gf args).run Tryd.prog w = .ok (.enter gf args) w) (hN : N ≤ 1048576) (l : List (Int × Int)) (hS : ∀ xs, S xs → xs.map (fun c => (px c, py c)) = l)
    (w : World) (hA : Mem w K w) (hseq : ∀ W1, (∀ e ∈ K, At W1 e.1 e.2.1 e.2.2) → SeqStopsK Fence.wide 2 Tryd.prog gf lb (fun x => #[.agg (arr 2 (sp (px x) (py x)))]) (KpL K) S Sp N W1) :
    Calls Tryd.prog 153 #[.slice none 0 0, .func (.func gf) #[] lb] w (GivesL w l) := by
  have hM := hA
  have Hq := Lib.hid hseq
  have HN := Lib.hid hN
  have HS := Lib.hid hS
  clear hA hseq hN hS
  refine (callsIn_wide (n := 3)).1 ?_
  refine callsIn_of_wp_marks Tryd.func153 rfl trivial ?_ rfl
  simp only [Tryd.ntmps153, List.size_toArray, List.length_cons, List.length_nil, Nat.reduceAdd, Nat.reduceSub, Array.replicate_succ, Array.replicate_zero, List.push_toArray, List.append_toArray, List.nil_append, List.cons_append]
  refine wpIn_wide.2 ?_
  have tk_b2 : True := trivial
  go_wp2_with (first | (have _t := tk_b2; refine wpList_box1 rfl _ _ rfl _ rfl rfl hM ?_; intro b2 W' hb2 hM'; clear hM tk_b2; have hM := hM'; clear hM'))
  have ats : ∀ {b : Base} {X : World}, Mem b K X → ∀ e ∈ K, At X e.1 e.2.1 e.2.2 := fun h e he => by
    obtain ⟨i, hi⟩ := List.getElem?_of_mem he
    exact h.ats i _ _ _ hi
  refine (wpIn_wide (n := 3)).1 ?_
  refine range_rel (α := α) (px := px) (py := py) (gf := gf) (lb := lb)
    (fun pre => VarL w.heap.size b2 K 2 (pre.map fun c => (px c, py c)).length (sps (sI (pre.map fun c => (px c, py c))))) ((b2, 1, fun _ => .slice none 0 0) :: K)
    rfl eg (Hq.out _ (ats hM.drop)) (fun {A B C} h k => kpL_t h k) (fun X l o o' h ho => kpL_b X l o o' h ho)
    (fun _ _ _ _ _ _ _ h h' hm hm' => varL_det h h' hm hm') (fun _ _ _ _ _ _ _ _ h' _ hm' e he _ => ats (varL_mem h' hm') e he) rfl rfl rfl rfl rfl rfl (by decide) (by simp) (by simp) (.inl ⟨rfl, rfl⟩) hM ?body ?done
  case body =>
    intro l pre x bx X Bs hbx hI hM2 hlen
    clear hM
    have hM := hM2
    clear hM2
    have hl : (pre.map fun c => (px c, py c)).length ≤ 1048576 := by
      have := HN.out
      simp only [List.length_map]; omega
    have Hy : Hid ((pre ++ [x]).map (fun c => (px c, py c)) = pre.map (fun c => (px c, py c)) ++ [(px x, py x)]) := Lib.hid (by simp)
    generalize hu : px x = u at *
    generalize hv : py x = v at *
    generalize hp : pre.map (fun c => (px c, py c)) = p at *
    rcases hI with ⟨hn, rfl⟩ | ⟨b, c, F, hb, hnc, hF, rfl⟩
    · have Hq2 : Hid (∀ q, q < 2 → sp u v (0 + q) = sps (sI (p ++ [(u, v)])) q) := Lib.hid (fun q hq => by have := spsI_new p u v hq; rw [hn, Nat.zero_mul, Nat.zero_add] at this; rw [Nat.zero_add]; exact this)
      refine wpIn_block (region_round (fun ⟨_, _, h⟩ => h) rfl ?_)
      have tk_r3 : True := trivial; have tk_r4 : True := trivial; have tk_b3 : True := trivial; have tk_p1 : True := trivial
      go_wp2_with (first | (have _t := tk_r3; (refine wpList_get1 rfl _ _ rfl _ _ rfl hM 1 rfl spots_cell (by omega) _ rfl ?_); clear tk_r3) | (have _t := tk_r4; (refine wpList_get rfl _ _ rfl _ _ rfl hM 0 rfl (rowTab _ _ rfl) (by omega) ?_); clear tk_r4) | (have _t := tk_b3; refine wpList_slice1 rfl _ _ _ rfl _ _ rfl _ spot_under spot_info (by omega) (by omega) hM ?_; intro b3 W' hb3 hM'; clear hM tk_b3; have hM := hM'; clear hM') | (have _t := tk_p1; refine wpList_push0 rfl _ _ _ rfl _ 2 _ _ spot_under spot_infoB rfl (by omega) rfl _ _ rfl hM (sps (sI (p ++ [(u, v)]))) Hq2.out ?_; intro bL cL FL W' hbL hcL hFL hM'; clear hM tk_p1; have hM := hM'; clear hM') | (refine wpList_set1 rfl _ _ _ rfl _ _ rfl _ rfl rfl hM 2 rfl (by assumption) spots_cell (by omega) ?_; intro W' hM'; clear hM; have hM := hM'; clear hM'; simp [List.set, Act.eval] at hM))
      show ∃ Bs, _ ∧ Mem _ Bs _
      have hM' := hM.re 2 rfl (fun _ => .slice (some ⟨bL, 0, none⟩) 1 cL) (fun k hk => by
        obtain rfl : k = 0 := by omega
        rfl)
      simp only [List.set] at hM'
      refine ⟨_, ?_, hM'.skip⟩
      simp only [Hy.out, List.length_append, hn]
      exact .inr ⟨bL, cL, FL, hbL, hcL, hFL, rfl⟩
    · have hM' := hM.swap
      clear hM
      have hM := hM'
      clear hM'
      have Hq2 : Hid (∀ q, q < 2 → sp u v (0 + q) = sps (sI (p ++ [(u, v)])) (p.length * 2 + q)) := Lib.hid (fun q hq => by rw [Nat.zero_add]; exact spsI_new p u v hq)
      have Hf : Hid (∀ q, q < p.length * 2 → F q = sps (sI (p ++ [(u, v)])) q) := Lib.hid (fun q hq => by rw [hF q hq]; exact spsI_old _ hq)
      clear hF
      refine wpIn_block (region_round (fun ⟨_, _, h⟩ => h) rfl ?_)
      have tk_r3 : True := trivial; have tk_r4 : True := trivial; have tk_b3 : True := trivial; have tk_p1 : True := trivial
      go_wp2_with (first | (have _t := tk_r3; (refine wpList_get1 rfl _ _ rfl _ _ rfl hM 2 rfl spots_cell (by omega) _ rfl ?_); clear tk_r3) | (have _t := tk_r4; (refine wpList_get rfl _ _ rfl _ _ rfl hM 1 rfl (rowTab _ _ rfl) (by omega) ?_); clear tk_r4) | (have _t := tk_b3; refine wpList_slice1 rfl _ _ _ rfl _ _ rfl _ spot_under spot_info (by omega) (by omega) hM ?_; intro b3 W' hb3 hM'; clear hM tk_b3; have hM := hM'; clear hM') | (have _t := tk_p1; refine wpList_push1 rfl _ _ _ rfl _ 2 _ _ spot_under spot_infoB rfl (by omega) _ _ _ _ rfl hb hnc hl _ _ rfl sp_one0 hM (sps (sI (p ++ [(u, v)]))) Hf.out Hq2.out ?_; intro bL cL FL W' hbL hcL hFL hM'; clear hM tk_p1; have hM := hM'; clear hM') | (refine wpList_set1 rfl _ _ _ rfl _ _ rfl _ rfl rfl hM 2 rfl (by assumption) spots_cell (by omega) ?_; intro W' hM'; clear hM; have hM := hM'; clear hM'; simp [List.set, Act.eval] at hM))
      show ∃ Bs, _ ∧ Mem _ Bs _
      have hM' := hM.re 2 rfl (fun _ => .slice (some ⟨bL, 0, none⟩) (p.length + 1) cL) (fun k hk => by
        obtain rfl : k = 0 := by omega
        rfl)
      simp only [List.set] at hM'
      refine ⟨_, ?_, hM'.skip⟩
      simp only [Hy.out, List.length_append]
      exact .inr ⟨bL, cL, FL, hbL, hcL, hFL, rfl⟩
  case done =>
    rename_i K7 hK7
    intro D xs X Bs hD hxs hI hM2 hK
    have hsz : w.heap.size ≤ W'.heap.size := hM.size
    clear hM
    rw [HS.out xs hxs] at hI
    have hM : Mem (Base.round w W'.heap.size X) Bs X := hM2.base ⟨hM2.below, KeepsFrom.refl _ _⟩
    clear hM2
    show K7 _ _
    refine hK7 _ _ ?_
    dsimp only
    rcases hI with ⟨hn, rfl⟩ | ⟨b, c, F, hb, hnc, hF, rfl⟩
    · go_wp2_with (first | (refine wpList_get1 rfl _ _ rfl _ _ rfl hM 0 rfl spots_cell (by omega) _ rfl ?_))
      have hK' := hM.good.2.same D _ hD hK rfl
      refine leave_marks hK' _ (results_tmp rfl _ _ _) ?_
      exact ⟨_, rfl, .inl ⟨rfl, hn, Mem.start (below_mark hM.good.1 (Nat.le_trans hsz hD))⟩⟩
    · go_wp2_with (first | (refine wpList_get1 rfl _ _ rfl _ _ rfl hM 1 rfl spots_cell (by omega) _ rfl ?_))
      have hK' := hM.good.2.same D _ hD hK rfl
      refine leave_marks hK' _ (results_tmp rfl _ _ _) ?_
      refine ⟨_, rfl, .inr ⟨b, c, F, rfl, hb, hnc, hF, ?_⟩⟩
      exact (Mem.start (w := Base.of w) (below_mark hM.good.1 (Nat.le_trans hsz hD))).old (at_mark hM.at0 hK') (fun i p h => by simp at h)
theorem collect_any {gf : Nat} {lb : Array Value} {l : List (Int × Int)} (w : World) (h : Calls Tryd.prog 153 #[.slice none 0 0, .func (.func gf) #[] lb] w (GivesL w l)) :
    Calls Tryd.prog 127 #[.func (.func gf) #[] lb] w (GivesL w l) := by
  have H := Lib.hid h
  clear h
  go_enter Tryd.func127, Tryd.ntmps127
  go_wp2_with (first | (go_at_call 153; refine H.out.mono ?_; rintro e W' ⟨v0, rfl, hL0⟩))
  go_ret
  exact ⟨_, rfl, hL0⟩

end Go.Proofs.YtbmaljhnldepoaaDoor

/-
  (impl.Pasture).beside and its iterator, slices.AppendSeq, slices.Collect by contracts.
-/
namespace Go.Proofs.YtbmaljhnldepoaaDoor
open Go Go.RowKit Go.Shelf Go.BigFrame
attribute [local go_sem] Oper.semAt_some

section
variable {P : Program} {ops : Array Oper} {rest : List Oper} {o : Oper} {a : Act} {W : World} {Q : Exit → Act → World → Prop} {K : Act → World → Prop} {n : Nat}
theorem oper_wide (hd : noDefer o = true) (h : o.wp P a W K Q) : o.wpIn Fence.wide n P a W K Q := by
  unfold Oper.wp at h
  unfold Oper.wpIn
  refine ⟨fun _ _ => trivial, ?_⟩
  rw [Oper.semAt_eq _ _ _ (noDefer_spec hd)]
  generalize (execOp a.eval o).run P W = r at *
  cases r with
  | ok x w' =>
    cases x <;> simp only [Oper.upon] at h <;> simp only [Oper.uponIn]
    case value => exact h
    case skip => exact h
    case defer => exact h
    case enter => exact ⟨fun h => by simp [Fence.wide] at h, callsIn_wide.2 h⟩
    case row => exact ⟨fun h => by simp [Fence.wide] at h, fun c cs _ => let ⟨v, w', r, s⟩ := h c cs; ⟨v, w', r, stepsIn_wide.2 s⟩⟩
  | halt x w' => cases x <;> simp only [Oper.upon] at h <;> simp only [Oper.uponIn] <;> exact h
/-- A part by value, inside a fence. -/
theorem wpListIn_getA (hgd : o.guard = none) (ty : TypeId) (x : Operand) (ho : o.op = .load ty x) (b off : Nat) (hx : a.eval x = .pointer (some ⟨b, off, none⟩))
    {N m : Nat} {f : Nat → Value} (hA : At W b N f) (hT : RowT P ty m) (hle : off + m ≤ N)
    (h : wpListIn Fence.wide n P ops Q rest (a.put o.dst (.agg (arr m (fun k => f (off + k))))) W) : wpListIn Fence.wide n P ops Q (o :: rest) a W := by
  obtain ⟨⟨d, hu, hd⟩, hm⟩ := hT
  obtain ⟨t, ht⟩ := hA
  have hr : W.rangeAt b off (arr m (fun k => f (off + k))).toList := by
    rw [← arr_extract hle]; exact World.rangeAt_of_block ht off m
  refine wpListIn_plain hgd fun K hK => oper_wide (by simp [noDefer, ho]) ?_
  exact wp_load_mid ty x ho b off hx (arr m (fun k => f (off + k))).toList d hr hu hd (by rw [hm]; simp [arr_size]) (hK _ _ (by simpa using h))
end

/-- The open ones of the first i sides. -/
def openL (g : Nat → Int) (x y : Int) (i : Nat) : List Nat := (List.range i).filter fun k => !closedB g k x y
theorem openL_yes {g : Nat → Int} {x y : Int} {k : Nat} (h : closedB g k x y = false) : openL g x y k ++ [k] = openL g x y (k + 1) := by simp [openL, List.range_succ, List.filter_append, h]
theorem openL_no {g : Nat → Int} {x y : Int} {k : Nat} (h : closedB g k x y = true) : openL g x y k = openL g x y (k + 1) := by simp [openL, List.range_succ, List.filter_append, h]
theorem openL_len {g : Nat → Int} {x y : Int} {i : Nat} : (openL g x y i).length ≤ i := Nat.le_trans (List.length_filter_le _ _) (by simp)

abbrev besK (bp bs : Nat) (g : Nat → Int) (x y : Int) : Blocks := [(bp, 122, pas g), (bs, 2, sp x y)]
def BesIt (J : List Nat → World → Prop) (bp bs : Nat) (g : Nat → Int) (x y : Int) (i : Value) (wr : World) : Prop :=
  ∃ k : Nat, k ≤ 4 ∧ i = .int .i64 k ∧ ∃ pre, pre = openL g x y k ∧ J pre wr ∧ At wr bp 122 (pas g) ∧ At wr bs 2 (sp x y)
theorem abides_below {α : Type} {B : Nat} {J : α → World → Prop} (hJ : AbidesFrom B J) {s : α} {A C : World} (h : J s A) (hb : Below A.heap.size A C) : J s C :=
  hJ s A C none h ⟨hb.os, hb.tape, hb.output, hb.size, fun k hk _ => hb.block k hk⟩ (fun r e => by cases e)

set_option maxRecDepth 100000 in
set_option maxHeartbeats 1000000 in
theorem beside1_in (nn : Nat) (hnn : 1 ≤ nn) (l bp bs : Nat) (g : Nat → Int) (hg : Fits g) (ho : okB g = true) (x y : Int) (hx : 0 ≤ x ∧ x ≤ 9) (hy : 0 ≤ y ∧ y ≤ 9) (B : Nat)
    (J Jx : List Nat → World → Prop) (hJa : AbidesFrom B J)
    (hY : ∀ pre k W1, k < 4 → closedB g k x y = false → J pre W1 → pre.length < 4 → YieldAt Fence.wide (nn - 1) Tryd.prog l #[.agg (arr 2 (sp (nxX k x) (nxY k y)))] W1 fun e W' =>
      (e = .returned (.bool true) ∧ J (pre ++ [k]) W' ∧ KpL (besK bp bs g x y) W1 W') ∨ (e = .returned (.bool false) ∧ Jx (pre ++ [k]) W'))
    (w : World) (hA : At w bp 122 (pas g)) (hB : At w bs 2 (sp x y)) (h0 : J [] w) :
    CallsIn Fence.wide nn Tryd.prog 160 #[.func (.yield l) #[] #[], .pointer (some ⟨bp, 0, none⟩), .pointer (some ⟨bs, 0, none⟩)] w fun e W' => (∃ v, e = .returned v) ∧
      ((∃ xs : List Nat, xs = openL g x y 4 ∧ J xs W') ∨ (∃ pre : List Nat, (∃ i, i ≤ 4 ∧ pre = openL g x y i) ∧ Jx pre W')) := by
  refine callsIn_of_wp Tryd.func160 rfl trivial ?_ rfl
  simp only [Tryd.ntmps160, List.size_toArray, List.length_cons, List.length_nil, Nat.reduceAdd, Nat.reduceSub, Array.replicate_succ, Array.replicate_zero, List.push_toArray, List.append_toArray, List.nil_append, List.cons_append]
  have fw : ∀ f, Fence.wide.fn f := fun _ => trivial
  have HJ := Lib.hid hJa
  have Ho := Lib.hid ho
  have Hx := Lib.hid hx
  have Hy := Lib.hid hy
  clear hJa ho hx hy
  gi_wp2_with (first | (with_reducible refine And.intro (fw _) ?_) | (gi_at_call 78; refine (callsIn_wide.2 (overSides_lit _)).mono ?_; rintro e W' ⟨rfl, hb⟩; have h0' := abides_below HJ.out h0 hb; have hA' := hA.below hb hA.lt; have hB' := hB.below hb hB.lt; clear hb h0 hA hB))
  gi_loopw [7] (fun i wr => BesIt J bp bs g x y i wr) (fun i _ => 4 - (intOf i).toNat)
  case atStart => exact ⟨0, by omega, rfl, [], rfl, h0', hA', hB'⟩
  case round =>
    clear h0' hA' hB'
    obtain ⟨k, hk, rfl, pre, hpre, hJ, hAr, hBr⟩ := hrel
    by_cases hlt : k < 4
    · have l2 : (k : Int) < 4 := by omega
      have hsp : #[Value.int .i8 x, Value.int .i8 y] = arr 2 (sp x y) := rfl
      have k0 : wr.cell? ⟨bs, 0, none⟩ = some (Value.int .i8 x) := hBr.cell (show 0 < 2 by omega)
      have k1 : wr.cell? ⟨bs, 1, none⟩ = some (Value.int .i8 y) := hBr.cell (show 1 < 2 by omega)
      have hlen : pre.length < 4 := by have := openL_len (g := g) (x := x) (y := y) (i := k); rw [hpre]; omega
      cases hc : closedB g k x y
      · have Hc := Lib.hid hc
        have Hp : Hid (pre ++ [k] = openL g x y (k + 1)) := Lib.hid (by rw [hpre]; exact openL_yes hc)
        have Hl := Lib.hid hlen
        clear hc hpre hlen
        have tk_t1 : True := trivial
        gi_wp2_with (first | (with_reducible refine And.intro (fw _) ?_) | (have _t := tk_t1; refine wpListIn_getA rfl _ _ rfl _ _ rfl hAr (rowTab _ _ rfl) (by omega) ?_; clear tk_t1) | (gi_at_call 161; refine (callsIn_wide.2 (isOpen_any g hg Ho.out k hlt x y Hx.out Hy.out _)).mono ?_; rintro e W' ⟨rfl, hb⟩; rw [Hc.out]; have hJ2 := abides_below HJ.out hJ hb; have hA2 := hAr.below hb hAr.lt; have hB2 := hBr.below hb hBr.lt; have k2 : W'.cell? ⟨bs, 0, none⟩ = some (Value.int .i8 x) := hB2.cell (show 0 < 2 by omega); have k3 : W'.cell? ⟨bs, 1, none⟩ = some (Value.int .i8 y) := hB2.cell (show 1 < 2 by omega); clear hb hJ hAr hBr k0 k1) | (gi_at_call 117; refine (callsIn_wide.2 (over_any k hlt x y Hx.out Hy.out _)).mono ?_; rintro e W' ⟨rfl, hb⟩; have hJ3 := abides_below HJ.out hJ2 hb; have hA3 := hA2.below hb hA2.lt; have hB3 := hB2.below hb hB2.lt; clear hb hJ2 hA2 hB2 k2 k3; obtain ⟨fn, tmps, assign, body, hy, hR⟩ := hY pre k _ hlt Hc.out hJ3 Hl.out))
        refine hR.mono ?_
        rintro e W3 (⟨rfl, hJ4, hk4⟩ | ⟨rfl, hJx4⟩)
        · gi_wp2
          go_roundw
          case rel => exact (⟨k + 1, by omega, by go_num, _, Hp.out, hJ4, hk4 (bp, 122, pas g) (by simp) hA3, hk4 (bs, 2, sp x y) (by simp) hB3⟩ : BesIt J bp bs g x y _ _)
          case measure => simp [intOf]; omega
        · gi_wp2
          refine bodyPost_ret (results_none rfl _ _ _) rfl ?_
          exact ⟨⟨_, rfl⟩, .inr ⟨_, ⟨k + 1, by omega, Hp.out⟩, hJx4⟩⟩
      · have Hc := Lib.hid hc
        have Hp : Hid (pre = openL g x y (k + 1)) := Lib.hid (by rw [hpre]; exact openL_no hc)
        clear hc hpre hlen
        have tk_t1 : True := trivial
        gi_wp2_with (first | (with_reducible refine And.intro (fw _) ?_) | (have _t := tk_t1; refine wpListIn_getA rfl _ _ rfl _ _ rfl hAr (rowTab _ _ rfl) (by omega) ?_; clear tk_t1) | (gi_at_call 161; refine (callsIn_wide.2 (isOpen_any g hg Ho.out k hlt x y Hx.out Hy.out _)).mono ?_; rintro e W' ⟨rfl, hb⟩; rw [Hc.out]; have hJ2 := abides_below HJ.out hJ hb; have hA2 := hAr.below hb hAr.lt; have hB2 := hBr.below hb hBr.lt; clear hb hJ hAr hBr k0 k1))
        go_roundw
        case rel => exact (⟨k + 1, by omega, by go_num, _, Hp.out, hJ2, hA2, hB2⟩ : BesIt J bp bs g x y _ _)
        case measure => simp [intOf]; omega
    · obtain rfl : k = 4 := by omega
      gi_wp2
      go_end0
      exact ⟨⟨_, rfl⟩, .inl ⟨pre, hpre, hJ⟩⟩

theorem beside1_stops (bp bs : Nat) (g : Nat → Int) (hg : Fits g) (ho : okB g = true) (x y : Int) (hx : 0 ≤ x ∧ x ≤ 9) (hy : 0 ≤ y ∧ y ≤ 9) (w : World) (hA : At w bp 122 (pas g)) (hB : At w bs 2 (sp x y)) :
    SeqStopsK Fence.wide 2 Tryd.prog 160 #[.pointer (some ⟨bp, 0, none⟩), .pointer (some ⟨bs, 0, none⟩)] (fun k : Nat => #[.agg (arr 2 (sp (nxX k x) (nxY k y)))]) (KpL (besK bp bs g x y)) (fun xs => xs = openL g x y 4) (fun pre => ∃ i, i ≤ 4 ∧ pre = openL g x y i) 4 w :=
  fun l J Jx W' hb hJa _ hY h0 => beside1_in 2 (by omega) l bp bs g hg ho x y hx hy _ J Jx hJa (fun pre k W1 _ _ => hY pre k W1) W' (hA.below hb hA.lt) (hB.below hb hB.lt) h0

/-- The open sides of a cell. -/
abbrev OpenS (g : Nat → Int) (x y : Int) := {k : Nat // k < 4 ∧ closedB g k x y = false}
theorem beside1_stopsT (bp bs : Nat) (g : Nat → Int) (hg : Fits g) (ho : okB g = true) (x y : Int) (hx : 0 ≤ x ∧ x ≤ 9) (hy : 0 ≤ y ∧ y ≤ 9) (w : World) (hA : At w bp 122 (pas g)) (hB : At w bs 2 (sp x y)) :
    SeqStopsK Fence.wide 2 Tryd.prog 160 #[.pointer (some ⟨bp, 0, none⟩), .pointer (some ⟨bs, 0, none⟩)] (fun k : OpenS g x y => #[.agg (arr 2 (sp (nxX k.1 x) (nxY k.1 y)))]) (KpL (besK bp bs g x y)) (fun xs => xs.map (·.1) = openL g x y 4) (fun pre => ∃ i, i ≤ 4 ∧ pre.map (·.1) = openL g x y i) 4 w :=
  fun l J Jx W' hb hJa _ hY h0 => by
    refine CallsIn.mono (beside1_in 2 (by omega) l bp bs g hg ho x y hx hy W'.heap.size (fun pre W => ∃ ys : List (OpenS g x y), ys.map (·.1) = pre ∧ J ys W) (fun pre W => ∃ ys : List (OpenS g x y), ys.map (·.1) = pre ∧ Jx ys W) ?_ ?_ W' (hA.below hb hA.lt) (hB.below hb hB.lt) ⟨[], rfl, h0⟩) ?_
    · rintro pre A C row ⟨ys, e, h⟩ hgr hr
      exact ⟨ys, e, hJa ys A C row h hgr hr⟩
    · rintro pre k W1 hk hc ⟨ys, rfl, hJ⟩ hlen
      obtain ⟨fn, tmps, assign, body, hy1, hR⟩ := hY ys ⟨k, hk, hc⟩ W1 hJ (by simpa using hlen)
      refine ⟨fn, tmps, assign, body, hy1, hR.mono ?_⟩
      rintro e W3 (⟨rfl, h, hk'⟩ | ⟨rfl, h⟩)
      · exact .inl ⟨rfl, ⟨_, by simp, h⟩, hk'⟩
      · exact .inr ⟨rfl, ⟨_, by simp, h⟩⟩
    · rintro e W3 ⟨hv, h⟩
      refine ⟨hv, ?_⟩
      rcases h with ⟨xs, hS, ys, e, h⟩ | ⟨pre, hS, ys, e, h⟩
      · subst e; exact .inl ⟨ys, hS, h⟩
      · subst e; exact .inr ⟨ys, hS, h⟩

def BesGiven (g : Nat → Int) (x y : Int) (w : World) (e : Ending) (w' : World) : Prop := ∃ bp bs, e = .returned (.func (.func 160) #[] #[.pointer (some ⟨bp, 0, none⟩), .pointer (some ⟨bs, 0, none⟩)]) ∧ w.heap.size ≤ bp ∧ w.heap.size ≤ bs ∧ Mem w (besK bp bs g x y) w'
theorem beside_any (g : Nat → Int) (x y : Int) (w : World) : Calls Tryd.prog 136 #[.agg (arr 122 (pas g)), .agg (arr 2 (sp x y))] w (BesGiven g x y w) := by
  have hM := Mem.nil w
  have tk_b1 : True := trivial; have tk_b2 : True := trivial
  go_enter Tryd.func136, Tryd.ntmps136
  go_wp2_with (first | (have _t := tk_b1; refine wpList_box rfl _ _ rfl _ _ rfl hM ?_; intro b1 W' hb1 hM'; clear hM tk_b1; have hM := hM'; clear hM') | (have _t := tk_b2; refine wpList_box rfl _ _ rfl _ _ rfl hM ?_; intro b2 W' hb2 hM'; clear hM tk_b2; have hM := hM'; clear hM'))
  go_ret
  exact ⟨b1, b2, rfl, hb1, hb2, hM.swap⟩


end Go.Proofs.YtbmaljhnldepoaaDoor

/-
  PLAIN LAWS: MapOp's and OwnO's operations, and loads out of the memory of a call, inside a fence.
-/
namespace Go.Proofs.YtbmaljhnldepoaaDoor
open Go Go.RowKit Go.Maps Go.BigFrame

section
variable {P : Program} {ops : Array Oper} {rest : List Oper} {o : Oper} {a : Act} {w : Base} {W : World} {Q : Exit → Act → World → Prop} {L K : Blocks} {n : Nat}
/-- A part by value out of a block, told otherwise. -/
theorem wpListIn_getE (hgd : o.guard = none) (ty : TypeId) (x : Operand) (ho : o.op = .load ty x) (b off : Nat) (hx : a.eval x = .pointer (some ⟨b, off, none⟩))
    (hM : Mem w L W) (i : Nat) {N : Nat} {f : Nat → Value} (hi : L[i]? = some (b, N, f)) {m : Nat}
    (hT : RowT P ty m) (hle : off + m ≤ N) (g : Nat → Value) (hg : ∀ k, k < m → f (off + k) = g k)
    (h : wpListIn Fence.wide n P ops Q rest (a.put o.dst (.agg (arr m g))) W) : wpListIn Fence.wide n P ops Q (o :: rest) a W :=
  wpListIn_getA hgd ty x ho b off hx (hM.ats i b N f hi) hT hle (by rw [arr_congr hg]; exact h)
theorem wpListIn_lookup {KK : Type} [DecidableEq KK] {kv : KK → Value} {ok : KK → Prop} {ks : List KK} {f : KK → Value} {kt et : TypeId} {m : Nat} (hgd : o.guard = none) (t : TypeId) (x y : Operand) (c : Bool) (ho : o.op = .lookup t x y c) (hx : a.eval x = .map (some m)) (k : KK) (hy : a.eval y = kv k)
    (T : KeyTold P kt kv ok) (ht : P.underlying t = some (.map kt et)) (z : Value) (hz : ∀ W, (zeroValue et).run P W = .ok z W) (hm : W.heap[m]? = some (mapO kv ks f)) (hks : ∀ k, k ∈ ks → ok k) (hk : ok k)
    (h : wpListIn Fence.wide n P ops Q rest (a.put o.dst (if c then .tuple #[if k ∈ ks then f k else z, .bool (decide (k ∈ ks))] else if k ∈ ks then f k else z)) W) : wpListIn Fence.wide n P ops Q (o :: rest) a W :=
  wpListIn_plain hgd fun _ hJ => oper_wide (by simp [noDefer, ho]) (oper_lookup t x y c ho hx k hy T ht z hz hm hks hk (hJ _ _ h))
theorem wpListIn_mapSet {KK : Type} [DecidableEq KK] {kv : KK → Value} {ok : KK → Prop} {ks : List KK} {f : KK → Value} {kt et : TypeId} {m : Nat} (hgd : o.guard = none) (t : TypeId) (x y v : Operand) (ho : o.op = .mapUpdate t x y v) (hx : a.eval x = .map (some m)) (k : KK) (hy : a.eval y = kv k) (val : Value) (hv : a.eval v = val)
    (T : KeyTold P kt kv ok) (ht : P.underlying t = some (.map kt et)) (hM : Mem (w.with m (mapO kv ks f) rfl) L W) (hl : w.Lets m) (hd : ks.Nodup) (hks : ∀ k, k ∈ ks → ok k) (hk : ok k)
    (h : ∀ W', Mem (w.with m (mapO kv (addK ks k) (updK f k val)) rfl) L W' → wpListIn Fence.wide n P ops Q rest (a.put o.dst undef) W') : wpListIn Fence.wide n P ops Q (o :: rest) a W :=
  wpListIn_plain hgd fun _ hJ => oper_wide (by simp [noDefer, ho]) (oper_mapSet t x y v ho hx k hy val hv T ht hM hl hd hks hk fun W' h1 => hJ _ _ (h W' h1))
theorem wpListIn_pushO (hgd : o.guard = none) (s x : Operand) (t : TypeId) (ho : o.op = .call { callee := .builtin .append, args := #[s, x], argTypes := #[t, t] })
    (e : TypeId) (m bs : Nat) (z : Value) (hu : P.underlying t = some (.slice e)) (hz : (P.info? e).map (fun i => (i.size, i.zero, i.bytes)) = some (m, some z, bs)) (hzs : z.cells.size = m) (hbs : bs ≤ 1000)
    (b off k c N : Nat) (F : Nat → Value) (hs : a.eval s = .slice (some ⟨b, off, none⟩) k c) (hb : w.B ≤ b) (hnc : k ≤ c) (hN : off + c * m ≤ N) (hn : k ≤ 1048576)
    (bn : Nat) (f : Nat → Value) (hx : a.eval x = .slice (some ⟨bn, 0, none⟩) 1 1) (h1 : ∀ j, j < m → (f j).oneCell' = true) (hM : Mem w ((bn, m, f) :: (b, N, F) :: K) W) (R : Nat → Value) (hR0 : ∀ j, j < k * m → F (off + j) = R j) (hR : ∀ j, j < m → f j = R (k * m + j))
    (h : ∀ b' off' c' N' F' W', w.B ≤ b' → k + 1 ≤ c' → off' + c' * m ≤ N' → (∀ j, j < (k + 1) * m → F' (off' + j) = R j) → Mem w ((b', N', F') :: K) W' → wpListIn Fence.wide n P ops Q rest (a.put o.dst (.slice (some ⟨b', off', none⟩) (k + 1) c')) W') : wpListIn Fence.wide n P ops Q (o :: rest) a W :=
  wpListIn_plain hgd fun _ hJ => oper_wide (by simp [noDefer, ho]) (oper_pushO s x t ho e m bs z hu hz hzs hbs b off k c N F hs hb hnc hN hn bn f hx h1 hM R hR0 hR fun b' off' c' N' F' W' g1 g2 g3 g4 g5 => hJ _ _ (h b' off' c' N' F' W' g1 g2 g3 g4 g5))
end
end Go.Proofs.YtbmaljhnldepoaaDoor

/-
  PLAIN LAWS over any program: a range over a map that a call owns (MapB), inside a fence; the order is whatever the tape says.
-/
namespace Go.Proofs.YtbmaljhnldepoaaDoor
open Go Go.RowKit Go.Maps Go.BigFrame Go.ChangeMaps

/-- The iterator over the map of n entries in block m, behind the entries is. -/
def iterO (m n : Nat) (is : List Nat) : Obj := .mapIter (some m) n is.toArray n
theorem iterO_walk {m n : Nat} {is : List Nat} : (iterO m n is).isWalk = true := rfl
/-- How many are still to come. -/
def iterLeft (n r : Nat) (W : World) : Nat :=
  match W.heap[r]? with
  | some (.mapIter _ _ seen _) => n - seen.size
  | _ => 0
theorem iterLeft_eq {W : World} {r m n : Nat} {is : List Nat} (h : W.heap[r]? = some (iterO m n is)) : iterLeft n r W = n - is.length := by simp [iterLeft, h, iterO]

section
variable {K : Type} {kv : K → Value} {ks : List K} {f : K → Value}
theorem ents_born : (ents kv ks f).map (·.born) = List.range ks.length := by
  apply List.ext_getElem?
  intro i
  rw [List.getElem?_map, ents_get]
  by_cases h : i < ks.length
  · simp [h]
  · simp [h]
theorem ents_lt {e : MapEntry} (h : e ∈ ents kv ks f) : e.born < ks.length := by
  have := List.mem_map_of_mem (f := (·.born)) h
  rw [ents_born] at this
  simpa using this

variable {P : Program} {ops : Array Oper} {rest : List Oper} {o : Oper} {a : Act} {W : World} {Q : Exit → Act → World → Prop} {n : Nat} {kt et : TypeId} {m r : Nat}
/-- 'range m'. -/
theorem wpListIn_rangeO (hgd : o.guard = none) (t : TypeId) (x : Operand) (ho : o.op = .range t x) (hx : a.eval x = .map (some m)) (ht : P.underlying t = some (.map kt et)) (hm : W.heap[m]? = some (mapO kv ks f))
    (h : wpListIn Fence.wide n P ops Q rest (a.put o.dst (.pointer (some ⟨W.heap.size, 0, none⟩))) (W.alloc (iterO m ks.length []))) : wpListIn Fence.wide n P ops Q (o :: rest) a W := by
  refine wpListIn_plain hgd fun _ hJ => oper_wide (by simp [noDefer, ho]) ?_
  have hr := run_range_map (P := P) W t kt et m _ _ ht hm
  unfold Oper.wp
  simp only [execOp, ho, hx, Sem.run_bind, hr, Result.andThen_ok]
  exact hJ _ _ h
/-- THE STEP. -/
theorem wpListIn_nextO (hgd : o.guard = none) (x : Operand) (ho : o.op = .next x false) (hx : a.eval x = .pointer (some ⟨r, 0, none⟩)) (is : List Nat) (hr : W.heap[r]? = some (iterO m ks.length is)) (hm : W.heap[m]? = some (mapO kv ks f))
    (hDone : (∀ i, i < ks.length → i ∈ is) → wpListIn Fence.wide n P ops Q rest (a.put o.dst (.tuple #[.bool false])) W)
    (hMore : ∀ (i : Nat) (k : K) (W' : World), ks[i]? = some k → i ∉ is → W.grownBy W' (some r) → W'.heap.size = W.heap.size → W'.heap[r]? = some (iterO m ks.length (is ++ [i])) → W'.heap[m]? = some (mapO kv ks f) →
      (Instr.entry (.pointer (some ⟨r, 0, none⟩))).run P W' = .ok (.tuple #[kv k, f k]) W' → wpListIn Fence.wide n P ops Q rest (a.put o.dst (.tuple #[.bool true, kv k, f k])) W') : wpListIn Fence.wide n P ops Q (o :: rest) a W := by
  refine wpListIn_plain hgd fun _ hJ => oper_wide (by simp [noDefer, ho]) ?_
  have hne : r ≠ m := fun e => by subst e; rw [hr] at hm; simp [iterO, mapO] at hm
  rcases run_next_at (P := P) W o.type r m ks.length ks.length is.toArray (ents kv ks f).toArray ks.length hr hm (fun x hx => ents_lt hx) (Nat.le_refl _) with ⟨h0, hrun⟩ | ⟨e, he, w1, hal, hrun⟩
  · unfold Oper.wp
    simp only [execOp, ho, hx, Sem.run_bind, hrun, Result.andThen_ok]
    refine hJ _ _ (hDone fun i hi => ?_)
    have hin : i ∈ (ents kv ks f).map (·.born) := by rw [ents_born]; simpa using hi
    obtain ⟨e, he, rfl⟩ := List.mem_map.1 hin
    have := Array.eq_empty_of_size_eq_zero h0
    unfold leftOf at this
    rw [Array.filter_eq_empty_iff] at this
    have := this e (by simpa using he)
    simpa using this
  · simp only [leftOf, Array.toList_filter, List.mem_filter] at he
    obtain ⟨he, hs⟩ := he
    have he' := he
    obtain ⟨k, i, hi, rfl⟩ := ents_mem (by simpa using he)
    have hin : i ∉ is := by simpa using hs
    unfold Oper.wp
    simp only [execOp, ho, hx, Sem.run_bind, hrun, Result.andThen_ok]
    have hlt := (Array.getElem?_eq_some_iff.1 hr).1
    have hw1 : w1.heap = W.heap := by rcases hal with rfl | rfl <;> rfl
    have hR : (setBlock w1 r (.mapIter (some m) ks.length (is.toArray.push i) ks.length)).heap[r]? = some (iterO m ks.length (is ++ [i])) := by
      simp [setBlock, hw1, hlt, iterO]
    have hM : (setBlock w1 r (.mapIter (some m) ks.length (is.toArray.push i) ks.length)).heap[m]? = some (mapO kv ks f) := by
      rw [← hm]; simp [setBlock, hw1, hne]
    refine hJ _ _ (hMore i k _ hi hin ?_ (by simp [setBlock, hw1]) hR hM ?_)
    · rcases hal with rfl | rfl <;> exact ⟨rfl, rfl, rfl, by simp [setBlock], fun j _ hj => by
        have : r ≠ j := fun e => hj (by rw [e])
        exact Array.getElem?_setIfInBounds_ne this⟩
    · refine run_entry_at _ r m ks.length is.toArray _ ks.length _ (by rw [hR]; simp [iterO]) hM he' ?_
      rw [List.toList_toArray, ents_born]
      exact List.nodup_range
end

/-- What has come out, once nothing is left. -/
theorem iter_perm {K : Type} {ks : List K} {is : List Nat} (hd : is.Nodup) (hlt : ∀ i, i ∈ is → i < ks.length) (hall : ∀ i, i < ks.length → i ∈ is) : (is.filterMap fun i => ks[i]?).Perm ks := by
  have hp : is.Perm (List.range ks.length) := (List.perm_ext_iff_of_nodup hd List.nodup_range).2 fun i => by simp; exact ⟨hlt i, hall i⟩
  refine (hp.filterMap _).trans (List.Perm.of_eq ?_)
  apply List.ext_getElem?
  have : ∀ n, n ≤ ks.length → (List.range n).filterMap (fun i => ks[i]?) = ks.take n := by
    intro n
    induction n with
    | zero => simp
    | succ n ih =>
      intro hn
      rw [List.range_succ, List.filterMap_append, ih (by omega), List.take_add_one]
      cases e : ks[n]? <;> simp [e]
  intro i
  rw [this _ (Nat.le_refl _), List.take_length]
theorem iter_len {K : Type} {ks : List K} {is : List Nat} (hd : is.Nodup) (hlt : ∀ i, i ∈ is → i < ks.length) : is.length ≤ ks.length := by
  have hp : is.Perm ((List.range ks.length).filter fun i => decide (i ∈ is)) := (List.perm_ext_iff_of_nodup hd (List.nodup_range.filter _)).2 fun i => by simp; exact hlt i
  have := List.length_filter_le (fun i => decide (i ∈ is)) (List.range ks.length)
  rw [← hp.length_eq] at this
  simpa using this
end Go.Proofs.YtbmaljhnldepoaaDoor

/-
  SPOTS AS KEYS OF MAPS; the operations on a map at the list of a plain region.
-/
namespace Go.Proofs.YtbmaljhnldepoaaDoor
open Go Go.RowKit Go.Maps

theorem laidOut : laidOutB Tryd.prog = true := by kernel_rfl
theorem spot_keyed : Keyed Tryd.prog 37 :=
  Keyed.of_law (deep_law_laid laidOut (m := 2) (by omega) (of_decide_eq_true (by kernel_rfl)) (by kernel_rfl) (by rw [Tryd.underlying37]))
/-- A spot as a value. -/
def spV (k : Int × Int) : Value := .agg (arr 2 (sp k.1 k.2))
def SpotOk (k : Int × Int) : Prop := -128 ≤ k.1 ∧ k.1 ≤ 127 ∧ -128 ≤ k.2 ∧ k.2 ≤ 127
theorem spV_inj {a b : Int × Int} (h : spV a = spV b) : a = b := by
  unfold spV at h
  have h0 : arr 2 (sp a.1 a.2) = arr 2 (sp b.1 b.2) := by simpa using h
  have e0 := congrArg (fun x : Array Value => x[0]?) h0
  have e1 := congrArg (fun x : Array Value => x[1]?) h0
  simp [arr_get, sp] at e0 e1
  exact Prod.ext e0 e1
theorem spot_told (k : Int × Int) (h : SpotOk k) : ∃ l, keyOf Tryd.prog 37 (spV k) = some l := by
  obtain ⟨x, y⟩ := k
  obtain ⟨h1, h2, h3, h4⟩ := h
  unfold spV keyOf
  have hx : (Lit.int .i8 x).wf = true := by have a1 : IntKind.i8.min = -128 := rfl; have a2 : IntKind.i8.max = 127 := rfl; simp [Lit.wf, a1, a2]; omega
  have hy : (Lit.int .i8 y).wf = true := by have a1 : IntKind.i8.min = -128 := rfl; have a2 : IntKind.i8.max = 127 := rfl; simp [Lit.wf, a1, a2]; omega
  have hc : (Value.agg (arr 2 (sp x y))).cells.toList = [.int .i8 x, .int .i8 y] := rfl
  have hk : Tryd.prog.keyType 37 = true := by kernel_rfl
  have hf : (Value.agg (arr 2 (sp x y))).formed Tryd.prog 37 = true := by kernel_rfl
  rw [Tryd.underlying37]
  simp only [hk, hf, hc]
  have c1 : Tryd.prog.cellsOf 37 = 2 := by kernel_rfl
  have c2 : Tryd.prog.cellsOf 22 = 1 := by kernel_rfl
  have hp : 0 < Tryd.prog.types.size := of_decide_eq_true (by kernel_rfl)
  obtain ⟨n, hn⟩ : ∃ n, Tryd.prog.types.size = n + 1 := ⟨Tryd.prog.types.size - 1, by omega⟩
  have hL : Tryd.prog.keyLits (Tryd.prog.types.size + 1) 37 [.int .i8 x, .int .i8 y] = some [.int .i8 x, .int .i8 y] := by
    rw [hn]
    simp [Program.keyLits, Tryd.underlying37, Tryd.underlying22, c1, c2, hx, hy]
  rw [hL]
  exact ⟨_, rfl⟩
theorem spotT : KeyTold Tryd.prog 37 spV SpotOk := ⟨spot_keyed, spot_told, spV_inj⟩
end Go.Proofs.YtbmaljhnldepoaaDoor

/-
  What the rounds over the cells beside a cell make of a search.
-/
namespace Go.Proofs.YtbmaljhnldepoaaDoor
open Go Go.RowKit

theorem nb_open (g : Nat → Int) (u v : Int) : nbOf g (u, v) = (openL g u v 4).map fun k => (nxX k u, nxY k v) := rfl
/-- Behind the rounds over the sides pre. -/
def afterS (s : Found) (u v : Int) (pre : List Nat) : Found := (pre.map fun k => (nxX k u, nxY k v)).foldl (visit1 (u, v)) s
theorem afterS_nil (s : Found) (u v : Int) : afterS s u v [] = s := rfl
theorem afterS_one (s : Found) (u v : Int) (pre : List Nat) (k : Nat) : afterS s u v (pre ++ [k]) = visit1 (u, v) (afterS s u v pre) (nxX k u, nxY k v) := by simp [afterS]
theorem afterS_all (g : Nat → Int) (s : Found) (u v : Int) : afterS s u v (openL g u v 4) = visit (nbOf g) s (u, v) := rfl
end Go.Proofs.YtbmaljhnldepoaaDoor

/-
  The end of a function whose plain loop holds a range over a function: one mark for each round.
-/
namespace Go.Proofs.YtbmaljhnldepoaaDoor
open Go Go.RowKit Go.Shelf Go.BigFrame

/-- The marks shut, one after the other. -/
def shut (X : World) (Ds : List Nat) : World := Ds.foldl (fun X D => X.putObj D (.deferred none)) X
theorem leave_marksL {fn : Func} {tmps : Array Value} {R : Ending → World → Prop} (v : Value) : ∀ (Ds : List Nat) {X : World} (_ : ∀ D, D ∈ Ds → X.heap[D]? = some (.deferred (some []))) (_ : Ds.Nodup)
    (_ : (results fn tmps).run Tryd.prog (shut X Ds) = .ok v (shut X Ds)) (_ : R (.returned v) (shut X Ds)),
    LeavesInM Fence.wide 3 Tryd.prog fn tmps R (Ds.map fun D => { target := .collected D, args := #[] }) .returning X
  | [], X, _, _, hr, hR => ⟨v, hr, hR⟩
  | D :: Ds, X, hK, hd, hr, hR => by
    obtain ⟨h1, h2⟩ := List.nodup_cons.1 hd
    exact ⟨by simp, .inl ⟨_, _, rfl, run_takeDeferred (hK D (by simp)), leave_marksL v Ds (fun E hE => (putObj_other X D _ (fun e => h1 (e ▸ hE))).trans (hK E (by simp [hE]))) h2 hr hR⟩⟩
theorem shut_below {w : World} : ∀ (Ds : List Nat) {X : World} (_ : Below w.heap.size w X) (_ : ∀ D, D ∈ Ds → w.heap.size ≤ D), Below w.heap.size w (shut X Ds)
  | [], _, hb, _ => hb
  | D :: Ds, _, hb, h => shut_below Ds (below_mark hb (h D (by simp))) (fun E hE => h E (by simp [hE]))
theorem shut_at {b n : Nat} {f : Nat → Value} : ∀ (Ds : List Nat) {X : World} (_ : At X b n f) (_ : ∀ D, D ∈ Ds → X.heap[D]? = some (.deferred (some []))) (_ : Ds.Nodup), At (shut X Ds) b n f
  | [], _, h, _, _ => h
  | D :: Ds, X, h, hK, hd => by
    obtain ⟨h1, h2⟩ := List.nodup_cons.1 hd
    exact shut_at Ds (at_mark h (hK D (by simp))) (fun E hE => (putObj_other X D _ (fun e => h1 (e ▸ hE))).trans (hK E (by simp [hE]))) h2
theorem shut_obj {m : Nat} {o : Obj} : ∀ (Ds : List Nat) {X : World} (_ : X.heap[m]? = some o) (_ : m ∉ Ds), (shut X Ds).heap[m]? = some o
  | [], _, h, _ => h
  | D :: Ds, X, h, hm => shut_obj Ds ((putObj_other X D _ (fun e => hm (by simp [e]))).trans h) (fun h' => hm (by simp [h']))

/-- A base beside which the blocks Ds are open marks. -/
def Base.marks (w : Base) : List Nat → Base
  | [] => w
  | D :: Ds => (w.marks Ds).with D (.deferred (some [])) rfl
theorem marks_B (w : Base) : ∀ Ds, (w.marks Ds).B = w.B
  | [] => rfl
  | _ :: Ds => marks_B w Ds
theorem marks_get {w : Base} {X : World} : ∀ (Ds : List Nat) (_ : (w.marks Ds).G X), ∀ D, D ∈ Ds → X.heap[D]? = some (.deferred (some []))
  | [], _, D, hD => by simp at hD
  | E :: Ds, h, D, hD => by
    rcases List.mem_cons.1 hD with rfl | hD
    · exact h.2
    · exact marks_get Ds h.1 D hD
theorem marks_good {w : Base} {X : World} : ∀ (Ds : List Nat) (_ : (w.marks Ds).G X), w.G X
  | [], h => h
  | _ :: Ds, h => marks_good Ds h.1
theorem marks_intro {w : Base} {X : World} (h : w.G X) : ∀ (Ds : List Nat) (_ : ∀ D, D ∈ Ds → X.heap[D]? = some (.deferred (some []))), (w.marks Ds).G X
  | [], _ => h
  | E :: Ds, hD => ⟨marks_intro h Ds (fun D h' => hD D (by simp [h'])), hD E (by simp)⟩
theorem lets_marks {w : Base} {m : Nat} (h : w.Lets m) : ∀ (Ds : List Nat) (_ : m ∉ Ds), (w.marks Ds).Lets m
  | [], _ => h
  | D :: Ds, hm => lets_with (lets_marks h Ds (fun h' => hm (by simp [h']))) (fun e => hm (by simp [e]))
end Go.Proofs.YtbmaljhnldepoaaDoor

/-
  A range over an iterator of spots whose rounds may change blocks for others (RangeL) and write a map that the call owns.
-/
namespace Go.Proofs.YtbmaljhnldepoaaDoor
open Go Go.RowKit Go.Shelf Go.BigFrame

/-- How a round ends: on, with a map and blocks as the relation tells. -/
def roundRelM (b : Base) (m : Nat) (I : Obj → Blocks → Prop) : Exit → Act → World → Prop
  | .normal, _, X' => ∃ (o : Obj) (ho : o.isCells = false) (Bs : Blocks), I o Bs ∧ Mem (b.with m o ho) Bs X'
  | _, _, _ => False

theorem range_relM {α : Type} {px py : α → Int} {g : Operand} {p q : Tmp} {id : Nat} {o1 o2 : Oper} {body : Code} {Q : Exit → Act → World → Prop} {a : Act} {w W1 : World} (m : Nat) (Ds : List Nat) (I : List α → Obj → Blocks → Prop) (O0 : Obj) (L0 : Blocks)
    {gf : Nat} {lb : Array Value} {Kp : World → World → Prop} {S Sp : List α → Prop} {N : Nat}
    (hg : a.eval g = .func (.func gf) #[] lb) (eg : ∀ args w, (callFunc gf args).run Tryd.prog w = .ok (.enter gf args) w)
    (hseq : SeqStopsK Fence.wide 2 Tryd.prog gf lb (fun x => #[.agg (arr 2 (sp (px x) (py x)))]) Kp S Sp N W1) (hKt : ∀ {A B C : World}, Kp A B → Kp B C → Kp A C) (hKb : ∀ (W : World) (l : Nat) (o o' : Obj), W.heap[l]? = some o → o.isCells = false → Kp W (W.putObj l o'))
    (hno : ∀ (pre : List α) (o : Obj) (Bs : Blocks), I pre o Bs → o.isCells = false) (hm : m < W1.heap.size) (hDs : ∀ D, D ∈ Ds → W1.heap[D]? = some (.deferred (some [])))
    (hdet : ∀ (pre pre' : List α) (o o' : Obj) (Bs Bs' : Blocks) (b b' : Base) (X : World), I pre o Bs → I pre' o' Bs' → Mem b Bs X → Mem b' Bs' X → Bs.map (·.1) = Bs'.map (·.1))
    (hkp : ∀ (b : Base) (pre pre' : List α) (o o' : Obj) (Bs Bs' : Blocks) (X X' : World), I pre o Bs → I pre' o' Bs' → Mem b Bs X → Mem b Bs' X' → Kp X X')
    (h1 : o1.op = .alloc 37) (h1g : o1.guard = none) (h1d : o1.dst = some q) (h2 : o2.op = .store 37 (.tmp q) (.tmp p)) (h2g : o2.guard = none) (h2d : o2.dst = none) (hpq : p ≠ q) (hp : p < a.tmps.size) (hq : q < a.tmps.size)
    (hI0 : I [] O0 L0) (hM : Mem w L0 W1) (hO : W1.heap[m]? = some O0)
    (hbody : ∀ (l : Nat) (pre : List α) (x : α) (bx : Nat) (X : World) (o : Obj) (ho : o.isCells = false) (Bs : Blocks), w.heap.size ≤ bx → I pre o Bs → Mem (((Base.round w W1.heap.size X).marks Ds).with m o ho) ((bx, 2, sp (px x) (py x)) :: Bs) X → pre.length < N →
      body.wpIn (Fence.wide.inRound l) 1 Tryd.prog (roundRelM ((Base.round w W1.heap.size X).marks Ds) m (I (pre ++ [x]))) { tmps := (a.tmps.setIfInBounds p (.agg (arr 2 (sp (px x) (py x))))).setIfInBounds q (.pointer (some ⟨bx, 0, none⟩)), defers := [] } X)
    (hdone : ∀ (D : Nat) (xs : List α) (X : World) (o : Obj) (ho : o.isCells = false) (Bs : Blocks), W1.heap.size ≤ D → S xs → I xs o Bs → Mem (((Base.of w).marks Ds).with m o ho) Bs X → X.heap[D]? = some (.deferred (some [])) → Q .normal { a with defers := { target := .collected D, args := #[] } :: a.defers } X) :
    (Code.rangeFunc g #[p] (.region id [o1, o2].toArray false) body).wpIn Fence.wide 3 Tryd.prog Q a W1 := by
  have hsz : w.heap.size ≤ W1.heap.size := hM.size
  have hown : OwnFrom W1.heap.size (fun (pre : List α) X => ∃ o Bs, I pre o Bs ∧ Mem w Bs X ∧ X.heap[m]? = some o ∧ ∀ D, D ∈ Ds → X.heap[D]? = some (.deferred (some []))) := fun pre X Y row hs hgr hr => by
    obtain ⟨o, Bs, hi, hm1, ho1, hD1⟩ := hs
    exact ⟨o, Bs, hi, mem_ownFrom hsz (fun (_ : Unit) => Bs) () X Y row hm1 hgr hr, (hgr.block m (Array.getElem?_eq_some_iff.1 ho1).1 (fun e => by have := (hr m e.symm).1; omega)).trans ho1, fun D hD => (hgr.block D (Array.getElem?_eq_some_iff.1 (hD1 D hD)).1 (fun e => by have := (hr D e.symm).1; have := (Array.getElem?_eq_some_iff.1 (hDs D hD)).1; omega)).trans (hD1 D hD)⟩
  refine wpIn_rangeFunc_ownH (F := Fence.wide) (n := 3) rfl (by omega) (gf := gf) (lb := lb) hg trivial eg hseq hKt (fun X l o o' _ h ho _ => hKb X l o o' h ho) (Below.refl _ _) (fun _ => rfl)
    (fun pre X => ∃ o Bs, I pre o Bs ∧ Mem w Bs X ∧ X.heap[m]? = some o ∧ ∀ D, D ∈ Ds → X.heap[D]? = some (.deferred (some []))) (fun _ _ _ => False) hown (fun _ _ X Y row hs _ _ => hs.elim) ⟨O0, L0, hI0, hM, hO, hDs⟩
    (fun x a' X => ∃ bx pre0 o0 Bs0, w.heap.size ≤ bx ∧ bx ∉ Bs0.map (·.1) ∧ I pre0 o0 Bs0 ∧ Mem w Bs0 X ∧ At X bx 2 (sp (px x) (py x)) ∧ a' = { tmps := (a.tmps.setIfInBounds p (.agg (arr 2 (sp (px x) (py x))))).setIfInBounds q (.pointer (some ⟨bx, 0, none⟩)), defers := [] })
    (fun x a' _ X Y row hs hgr hr => ?own) ?assign ?body ?done ?stop
  case own =>
    obtain ⟨bx, pre0, o0, Bs0, h1, h2, h3, h4, h5, h6⟩ := hs
    exact ⟨bx, pre0, o0, Bs0, h1, h2, h3, mem_ownFrom hsz (fun (_ : Unit) => Bs0) () X Y row h4 hgr hr, h5.grown hgr (fun r e => (hr r e).2), h6⟩
  case assign =>
    intro l pre x X K hI hK
    obtain ⟨o, Bs, hi, hI, hoX, hDX⟩ := hI
    have ho := hno _ _ _ hi
    have hMr : Mem (Base.round w W1.heap.size X) Bs X := hI.base ⟨hI.below, KeepsFrom.refl _ _⟩
    have hMm : Mem ((Base.round w W1.heap.size X).marks Ds) Bs X := hMr.base (marks_intro hMr.good Ds hDX)
    have hM' : Mem (((Base.round w W1.heap.size X).marks Ds).with m o ho) Bs X := hMm.withO ho hoX
    refine region_round (fun ⟨_, _, h⟩ => h) (by simp [noDefer, h1, h2]) ?_
    refine wpList_zero h1g _ h1 (zeroTab _ 2 (fun _ => .int .i8 0) rfl) hM' ?_
    intro bx X2 hbx hM2
    have ez : (#[p].zip #[Value.agg (arr 2 (sp (px x) (py x)))]).foldl (fun t (y : Tmp × Value) => t.setIfInBounds y.1 y.2) a.tmps = a.tmps.setIfInBounds p (.agg (arr 2 (sp (px x) (py x)))) := by simp
    rw [h1d]
    refine wpList_lay h2g _ _ _ h2 bx 0 ?_ 2 (sp (px x) (py x)) ?_ hM2 0 rfl hbx (rowTab _ _ rfl) (by omega) (fun _ _ => rfl) ?_
    · simp [Act.eval, Act.put, Array.getElem?_setIfInBounds, hq]
    · simp [Act.eval, Act.put, Array.getElem?_setIfInBounds, hp, Ne.symm hpq]
    · intro X3 hM3
      have hM3' := hM3.re 0 rfl (sp (px x) (py x)) (fun k hk => by simp [lay, hk])
      simp only [List.set_cons_zero] at hM3'
      rw [h2d]
      show K _ _
      have hg3 := marks_good (w := Base.round w W1.heap.size X) Ds hM3'.good.1
      have hbx' : w.heap.size ≤ bx := Nat.le_trans (Nat.le_of_eq (marks_B (Base.round w W1.heap.size X) Ds).symm) hbx
      refine hK _ _ hg3.2 ?_ ⟨o, Bs, hi, hM3'.drop.base hg3.1, hM3'.good.2, marks_get Ds hM3'.good.1⟩ ?_
      · exact hkp _ pre pre o o Bs Bs X X3 hi hi hM' hM3'.drop
      · refine ⟨bx, pre, o, Bs, hbx', fun hm => ?_, hi, hM3'.drop.base hg3.1, hM3'.at0, ?_⟩
        · obtain ⟨y, hy, e⟩ := List.mem_map.1 hm
          obtain ⟨i, hi⟩ := List.getElem?_of_mem hy
          exact hM3'.apart 0 (i + 1) _ y rfl (by simpa using hi) (by omega) e.symm
        · simp [Act.put]
  case body =>
    intro l pre x a' X hl hr hI hAx hlen
    obtain ⟨bx, pre0, o0, Bs0, hb, hn, hi0, hm0, hA, rfl⟩ := hAx
    obtain ⟨o, Bs, hi, hI, hoX, hDX⟩ := hI
    have ho := hno _ _ _ hi
    rw [← hdet pre pre0 o o0 Bs Bs0 _ _ X hi hi0 hI hm0] at hn
    have hMr : Mem (Base.round w W1.heap.size X) Bs X := hI.base ⟨hI.below, KeepsFrom.refl _ _⟩
    have hMm : Mem ((Base.round w W1.heap.size X).marks Ds) Bs X := hMr.base (marks_intro hMr.good Ds hDX)
    have hM' : Mem (((Base.round w W1.heap.size X).marks Ds).with m o ho) Bs X := hMm.withO ho hoX
    have hM2 : Mem (((Base.round w W1.heap.size X).marks Ds).with m o ho) ((bx, 2, sp (px x) (py x)) :: Bs) X :=
      ⟨hM'.good, fun i b n f h => by
        cases i with
        | zero => simp at h; obtain ⟨rfl, rfl, rfl⟩ := h; exact hA
        | succ i => exact hM'.ats i b n f (by simpa using h),
       fun i j y z hi hj hne => by
        have off : ∀ (i : Nat) (y : Nat × Nat × (Nat → Value)), Bs[i]? = some y → y.1 ≠ bx := fun i y h e => hn (by
          rw [← e]; exact List.mem_map_of_mem (List.mem_of_getElem? h))
        cases i with
        | zero =>
          cases j with
          | zero => exact absurd rfl hne
          | succ j => simp at hi hj; rw [← hi]; exact fun e => off j z hj e.symm
        | succ i =>
          cases j with
          | zero => simp at hi hj; rw [← hj]; exact off i y hi
          | succ j => exact hM'.apart i j y z (by simpa using hi) (by simpa using hj) (by omega)⟩
    refine Code.wpIn_mono (fun e a'' X' h => ?_) (hbody l pre x bx X o ho Bs hb hi hM2 hlen)
    cases e <;> first | exact (h : False).elim | skip
    obtain ⟨o', ho', Bs', hi', h'⟩ := (h : ∃ (o : Obj) (ho : o.isCells = false) (Bs' : Blocks), I (pre ++ [x]) o Bs' ∧ Mem (((Base.round w W1.heap.size X).marks Ds).with m o ho) Bs' X')
    have hg3 := marks_good (w := Base.round w W1.heap.size X) Ds h'.good.1
    exact ⟨hg3.2, hkp _ pre (pre ++ [x]) o o' Bs Bs' X X' hi hi' hMm h'.less, o', Bs', hi', h'.base hg3.1, h'.good.2, marks_get Ds h'.good.1⟩
  case done =>
    intro D xs X hD hS hI hK
    obtain ⟨o, Bs, hi, hI, hoX, hDX⟩ := hI
    exact hdone D xs X o (hno _ _ _ hi) Bs hD hS hi ((hI.base (marks_intro hI.good Ds hDX)).withO (hno _ _ _ hi) hoX) hK
  case stop =>
    intro D c pre X hD hS hI hK
    exact hI.elim
end Go.Proofs.YtbmaljhnldepoaaDoor

