/-
  impl.hasValidGrass by contract.
-/
import Derived.Test.YtdlfhomnlhdacaaDoorCells
import Derived.Test.YtdlfhomnlhdacaaDoorOkI1
import Derived.Test.YtdlfhomnlhdacaaDoorEqual
namespace Go.Proofs.YtdlfhomnlhdacaaDoor
open Go Go.RowKit Go.Shelf Go.BigFrame

/-- What is left of the grass when some cells have come. -/
def restAt (g : Nat → Int) (l : List (Nat × Nat)) (k : Nat) : Int := if (k % 10, k / 10) ∈ l then 0 else g (2 + k)
def restV (g : Nat → Int) (l : List (Nat × Nat)) : Nat → Value := fun k => .int .i16 (restAt g l k)
/-- Is a cell's grass as it may be? -/
def fineAt (g : Nat → Int) (s : Nat × Nat) : Bool := inB 0 1000 (g (2 + (s.2 * 10 + s.1)))
def grassB (g : Nat → Int) (W H : Nat) : Bool := (upto W (W * H)).all (fineAt g) && eqTo 100 (restAt g (upto W (W * H))) (fun _ => 0)

theorem mem_upto {W H x y : Nat} (hx : x < W) (hy : y < H) : (x, y) ∈ upto W (W * H) := by
  unfold upto
  refine List.mem_map.2 ⟨y * W + x, ?_, cellAt_row hx⟩
  have := Nat.mul_le_mul_right W (show y + 1 ≤ H by omega)
  rw [Nat.add_mul, Nat.one_mul, Nat.mul_comm H W] at this
  exact List.mem_range.2 (by omega)
theorem restAt_of {g : Nat → Int} {l : List (Nat × Nat)} {x y : Nat} (hx : x < 10) : restAt g l (y * 10 + x) = if (x, y) ∈ l then 0 else g (2 + (y * 10 + x)) := by
  have e1 : (y * 10 + x) % 10 = x := by omega
  have e2 : (y * 10 + x) / 10 = y := by omega
  simp only [restAt, e1, e2]
theorem restAt_upd {g : Nat → Int} {l : List (Nat × Nat)} {x y k : Nat} (hx : x < 10) : upd (restV g l) (y * 10 + x) (.int .i16 0) k = restV g (l ++ [(x, y)]) k := by
  unfold upd restV restAt
  by_cases e : k = y * 10 + x
  · have e1 : (y * 10 + x) % 10 = x := by omega
    have e2 : (y * 10 + x) / 10 = y := by omega
    simp [e, e1, e2]
  · have : (k % 10, k / 10) ≠ (x, y) := fun h => by
      have h1 : k % 10 = x := congrArg Prod.fst h
      have h2 : k / 10 = y := congrArg Prod.snd h
      omega
    simp [e, this]

def GrassIn {W H : Nat} (w : World) (g : Nat → Int) (b1 b2 b3 bp : Nat) (pre : List (Cell W H)) (X : World) : Prop :=
  (∀ s ∈ pre, fineAt g s.1 = true) ∧ Mem w [(b3, 100, restV g (pre.map (·.1))), (b2, 1, fun _ => .bool false), (b1, 122, pas g), (bp, 122, pas g)] X
def GrassOut {W H : Nat} (w : World) (g : Nat → Int) (b2 : Nat) (c : Code) (_ : List (Cell W H)) (X : World) : Prop :=
  c = .ret ∧ grassB g W H = false ∧ Mem w [(b2, 1, fun _ => .bool false)] X
theorem grassIn_own {W H : Nat} (w : World) (g : Nat → Int) (b1 b2 b3 bp B : Nat) (hB : w.heap.size ≤ B) : OwnFrom B (GrassIn (W := W) (H := H) w g b1 b2 b3 bp) := fun _ X Y row hs hg hr =>
  ⟨hs.1, mem_ownFrom hB (fun _ : Unit => _) () X Y row hs.2 hg hr⟩
theorem grassOut_own {W H : Nat} (w : World) (g : Nat → Int) (b2 B : Nat) (hB : w.heap.size ≤ B) (c : Code) : OwnFrom B (GrassOut (W := W) (H := H) w g b2 c) := fun _ X Y row hs hg hr =>
  ⟨hs.1, hs.2.1, mem_ownFrom hB (fun _ : Unit => _) () X Y row hs.2.2 hg hr⟩

/-- The temporaries as the loop finds them. -/
def grassT (g : Nat → Int) (b1 b2 b3 bp : Nat) : Array Value :=
  #[.agg (arr 122 (pas g)), .pointer (some ⟨b1, 0, none⟩), .pointer (some ⟨b2, 0, none⟩), .pointer (some ⟨b3, 0, none⟩), undef, .pointer (some ⟨b1, 2, none⟩), .agg (arr 100 fun k => pas g (2 + k)), .agg (arr 122 fun k => pas g k), .func (.func 88) #[] #[.pointer (some ⟨bp, 0, none⟩)], undef, undef, undef, undef, undef, undef, undef, undef, undef, undef, undef, undef, undef, undef, undef, undef, undef, undef, undef, undef, undef, undef, undef, undef, undef, undef, undef, undef]
/-- The frame of a round: T: the temporaries as the loop found them. -/
def GrassAx {W H : Nat} (w : World) (b1 b2 b3 bp : Nat) (T : Array Value) (x : Cell W H) (a' : Act) (X : World) : Prop :=
  ∃ bx, w.heap.size ≤ bx ∧ bx ≠ b1 ∧ bx ≠ b2 ∧ bx ≠ b3 ∧ bx ≠ bp ∧ At X bx 2 (sp x.1.1 x.1.2) ∧
    a' = { tmps := (T.setIfInBounds 9 (.agg (arr 2 (sp x.1.1 x.1.2)))).setIfInBounds 4 (.pointer (some ⟨bx, 0, none⟩)), defers := [] }
theorem grassAx_own {W H : Nat} (w : World) (b1 b2 b3 bp B : Nat) (T : Array Value) (x : Cell W H) (a' : Act) : OwnFrom B (fun (_ : Unit) X => GrassAx w b1 b2 b3 bp T x a' X) := fun _ X Y row hs hg hr => by
  obtain ⟨bx, h1, h2, h3, h4, h5, hA, e⟩ := hs
  exact ⟨bx, h1, h2, h3, h4, h5, hA.grown hg (fun r e => (hr r e).2), e⟩

theorem fine_rest {g : Nat → Int} {l : List (Nat × Nat)} {u v : Nat} (hu : u < 10) (hf : ∀ s ∈ l, fineAt g s = true) : inB 0 1000 (restAt g l (v * 10 + u)) = fineAt g (u, v) := by
  rw [restAt_of hu]
  split
  · rename_i h; rw [hf _ h]; rfl
  · rfl
theorem grassB_no {g : Nat → Int} {W H u v : Nat} (hu : u < W) (hv : v < H) (h : fineAt g (u, v) = false) : grassB g W H = false := by
  unfold grassB
  rw [Bool.and_eq_false_iff]; left
  exact List.all_eq_false.2 ⟨_, mem_upto hu hv, by simp [h]⟩
theorem Mem.only {w w' : Base} {W : World} {L : Blocks} (h : Mem w L W) (i : Nat) {b n : Nat} {f : Nat → Value} (hi : L[i]? = some (b, n, f)) (g : Nat → Value) (e : ∀ k, k < n → f k = g k) (hg : w'.G W) : Mem w' [(b, n, g)] W :=
  (Mem.start hg).old ((h.ats i b n f hi).congr e) (fun j p hj => by simp at hj)

theorem Mem.take {w : Base} {W : World} {L : Blocks} (h : Mem w L W) (n : Nat) : Mem w (L.take n) W :=
  ⟨h.good, fun i b m f hi => h.ats i b m f (by rw [List.getElem?_take] at hi; split at hi; exact hi; cases hi),
   fun i j p q hi hj hne => h.apart i j p q (by rw [List.getElem?_take] at hi; split at hi; exact hi; cases hi) (by rw [List.getElem?_take] at hj; split at hj; exact hj; cases hj) hne⟩

theorem results_at1 {P : Program} {fn : Func} {p : Tmp} {ty : TypeId} (h : fn.results = #[.cell p ty]) (tmps : Array Value) {W : World} {b n : Nat} {f : Nat → Value}
    (hp : tmps.getD p undef = .pointer (some ⟨b, 0, none⟩)) (hg : At W b n f) (hn : 0 < n) (hT : CellT P ty) (v : Value) (hv : f 0 = v) :
    (results fn tmps).run P W = .ok v W := by
  obtain ⟨⟨d, hu, hd⟩, _⟩ := hT
  have hc := hg.cell hn
  rw [hv] at hc
  have hagg : (isAgg ty).run P W = .ok false W := by
    unfold isAgg
    rw [Sem.run_bind, run_underlying hu W]
    cases d <;> simp_all [TypeDesc.isRow]
  have hl : (load ⟨b, 0, none⟩).run P W = .ok v W := by simp [load, Sem.run, hc]
  have hh : (loadVar ty ⟨b, 0, none⟩).run P W = .ok v W := by
    simp only [loadVar, Sem.run_bind, Result.andThen_ok, hagg, Bool.false_eq_true, if_false, hl]
  have hp' : tmps[p]?.getD undef = .pointer (some ⟨b, 0, none⟩) := by simpa using hp
  simp [results, h, hp', asAddr, hh]

theorem zeroValue_of {P : Program} {ty : TypeId} {v : Value} (hz : (P.info? ty).map (·.zero) = some (some v)) (W : World) : (zeroValue ty).run P W = .ok v W := by
  cases hq : P.info? ty with
  | none => simp [hq] at hz
  | some i => simp [hq] at hz; simp [zeroValue, typeInfo, hq, hz]
@[local go_sem] theorem zero_grass (W : World) : (zeroValue 25).run Tryd.prog W = .ok (.agg (arr 100 fun _ => .int .i16 0)) W := zeroValue_of (zeroTab _ _ _ rfl) W
@[local go_sem] theorem zero_cells_grass : Tryd.zeroCells25 = arr 100 fun _ => .int .i16 0 := by kernel_rfl
@[local go_sem] theorem eq_grass (g : Nat → Int) (l : List (Nat × Nat)) (W : World) : (Op.equalIn 10000 25 (.agg (arr 100 fun k => restV g l k)) (.agg (arr 100 fun _ => .int .i16 0))).run Tryd.prog W = .ok (eqTo 100 (restAt g l) fun _ => 0) W :=
  run_equal_grass _ _ _ _ (fun _ _ => rfl) (fun _ _ => rfl) W 9997

set_option maxRecDepth 100000 in
set_option maxHeartbeats 2000000 in
theorem hasValidGrass_any (g : Nat → Int) (hg : Fits g) (W H : Nat) (hg0 : g 0 = W) (hg1 : g 1 = H) (hW : 1 ≤ W ∧ W ≤ 10) (hH : 1 ≤ H ∧ H ≤ 10) (w : World) :
    Calls Tryd.prog 103 #[.agg (arr 122 (pas g))] w fun e w' => e = .returned (.bool (grassB g W H)) ∧ Below w.heap.size w w' := by
  have hM := Mem.nil w
  refine (callsIn_wide (n := 3)).1 ?_
  refine callsIn_of_wp_marks Tryd.func103 rfl trivial ?_ rfl
  simp only [Tryd.ntmps103, List.size_toArray, List.length_cons, List.length_nil, Nat.reduceAdd, Nat.reduceSub, Array.replicate_succ, Array.replicate_zero, List.push_toArray, List.append_toArray, List.nil_append, List.cons_append]
  refine wpIn_wide.2 ?_
  have tk_b1 : True := trivial; have tk_b2 : True := trivial; have tk_b3 : True := trivial
  go_wp2_with (first | (have _t := tk_b1; refine wpList_box rfl _ _ rfl _ _ rfl hM ?_; intro b1 W' hb1 hM'; clear hM tk_b1; have hM := hM'; clear hM') | (have _t := tk_b2; refine wpList_zero1 rfl _ rfl (zero1Tab _ _ rfl) rfl hM ?_; intro b2 W' hb2 hM'; clear hM tk_b2; have hM := hM'; clear hM') | (have _t := tk_b3; refine wpList_zero rfl _ rfl (zeroTab _ _ _ rfl) hM ?_; intro b3 W' hb3 hM'; clear hM tk_b3; have hM := hM'; clear hM') | (refine wpList_get rfl _ _ rfl _ _ rfl hM 1 rfl (rowTab _ _ rfl) (by omega) ?_) | (refine wpList_get rfl _ _ rfl _ _ rfl hM 2 rfl (rowTab _ _ rfl) (by omega) ?_) | (refine wpList_get rfl _ _ rfl _ _ rfl hM 0 rfl (rowTab _ _ rfl) (by omega) ?_) | (refine wpList_lay rfl _ _ _ rfl _ _ rfl _ _ rfl hM 0 rfl (by assumption) (rowTab _ _ rfl) (by omega) ?_ ?_; (first | (intro _ _; rfl) | (intro k _; exact h1 _) | (intro k _; simp only [lay, upd]; (repeat' split) <;> first | exact h1 _ | rfl)); intro W' hM'; clear hM; have hM := hM'; clear hM'; simp only [List.set] at hM))
  refine (cells_any g _).mono ?_
  rintro e W1 ⟨bp, rfl, hbp, hAp, hcb⟩
  have l3 := (hM.ats 0 _ _ _ rfl).lt
  have l2 := (hM.ats 1 _ _ _ rfl).lt
  have l1 := (hM.ats 2 _ _ _ rfl).lt
  have hM2 := (hM.re 0 rfl (restV g []) (fun k hk => by
    have e2 : lay (fun _ => Value.int .i16 0) 0 100 (fun k => pas g (2 + k)) k = pas g (2 + k) := by simp [lay, hk]
    rw [e2, pas_i16 g (by omega) (by omega)]; simp [restV, restAt])).call hcb
  simp only [List.set] at hM2
  have hM3 := hM2.old hAp (fun i p h => by
    match i, h with
    | 0, h => simp at h; rw [← h]; show b3 ≠ bp; omega
    | 1, h => simp at h; rw [← h]; show b2 ≠ bp; omega
    | 2, h => simp at h; rw [← h]; show b1 ≠ bp; omega
    | _ + 3, h => simp at h)
  simp only [List.cons_append, List.nil_append] at hM3
  clear hM hM2 l1 l2 l3 hcb hbp
  have hM := hM3
  clear hM3
  go_wp2
  have hsz : w.heap.size ≤ W1.heap.size := hM.size
  refine (wpIn_wide (n := 3)).1 ?_
  refine wpIn_rangeFunc_ownH (F := Fence.wide) (n := 3) rfl (by omega) (gf := 88) (lb := #[.pointer (some ⟨bp, 0, none⟩)]) rfl trivial (enters_of Tryd.func88 (by kernel_rfl) rfl)
    (cells_stops Fence.wide 2 trivial rfl (by omega) bp W H hW.2 hH.2 g hg0 hg1 W1 hAp) kpP_t (fun X l o o' _ h ho _ => kpP_b X l o o' h ho) (Below.refl _ _) (fun _ => rfl)
    (GrassIn w g b1 b2 b3 bp) (GrassOut w g b2) (grassIn_own w g b1 b2 b3 bp _ hM.size) (grassOut_own w g b2 _ hM.size) ⟨fun s h => by simp at h, hM⟩
    (GrassAx w b1 b2 b3 bp (grassT g b1 b2 b3 bp)) (grassAx_own w b1 b2 b3 bp _ _) ?assign ?body ?done ?stop
  case assign =>
    intro l pre x X K hI hK
    obtain ⟨hf, hX⟩ := hI
    have hM : Mem (Base.round w W1.heap.size X) _ X := hX.base ⟨hX.below, KeepsFrom.refl _ _⟩
    have tk_b4 : True := trivial
    refine region_round (fun ⟨_, _, h⟩ => h) rfl ?_
    have ez : (#[9].zip (encC x)).foldl (fun t x => t.setIfInBounds x.1 x.2) (grassT g b1 b2 b3 bp) = (grassT g b1 b2 b3 bp).setIfInBounds 9 (.agg (arr 2 (sp x.1.1 x.1.2))) := by simp [encC]
    have h1 : ∀ k, (sp x.1.1 x.1.2 k).oneCell' = true := fun _ => rfl
    rw [show (#[Value.agg (arr 122 (pas g)), .pointer (some ⟨b1, 0, none⟩), .pointer (some ⟨b2, 0, none⟩), .pointer (some ⟨b3, 0, none⟩), undef, .pointer (some ⟨b1, 2, none⟩), .agg (arr 100 fun k => pas g (2 + k)), .agg (arr 122 fun k => pas g k), .func (.func 88) #[] #[.pointer (some ⟨bp, 0, none⟩)], undef, undef, undef, undef, undef, undef, undef, undef, undef, undef, undef, undef, undef, undef, undef, undef, undef, undef, undef, undef, undef, undef, undef, undef, undef, undef, undef, undef] : Array Value) = grassT g b1 b2 b3 bp from rfl, ez]
    simp only [grassT, List.setIfInBounds_toArray, List.set_cons_succ, List.set_cons_zero]
    go_wp2_with (first | (have _t := tk_b4; refine wpList_zero rfl _ rfl (zeroTab _ _ _ rfl) hM ?_; intro b4 W' hb4 hM'; clear hM tk_b4; have hM := hM'; clear hM') | (refine wpList_lay rfl _ _ _ rfl _ _ rfl _ _ rfl hM 0 rfl (by assumption) (rowTab _ _ rfl) (by omega) ?_ ?_; (first | (intro _ _; rfl) | (intro k _; exact h1 _) | (intro k _; simp only [lay, upd]; (repeat' split) <;> first | exact h1 _ | rfl)); intro W' hM'; clear hM; have hM := hM'; clear hM'; simp only [List.set] at hM))
    exact hK _ _ hM.good.2 (fun _ => hM.ats 4 _ _ _ rfl) ⟨hf, hM.drop.base hM.good.1⟩
      ⟨b4, hb4, hM.apart 0 3 _ _ rfl rfl (by omega), hM.apart 0 2 _ _ rfl rfl (by omega), hM.apart 0 1 _ _ rfl rfl (by omega), hM.apart 0 4 _ _ rfl rfl (by omega), hM.at0.congr (fun k hk => by simp [lay, hk]), rfl⟩
  case body =>
    intro l pre x a' X hl hr hI hAx hlen
    obtain ⟨hf, hX⟩ := hI
    obtain ⟨b4, hb4, n1, n2, n3, n4, hA4, rfl⟩ := hAx
    have hM4 := (hX.base (w' := Base.round w W1.heap.size X) ⟨hX.below, KeepsFrom.refl _ _⟩).old hA4 (fun i p h => by
      match i, h with
      | 0, h => simp at h; rw [← h]; exact fun e => n3 e.symm
      | 1, h => simp at h; rw [← h]; exact fun e => n2 e.symm
      | 2, h => simp at h; rw [← h]; exact fun e => n1 e.symm
      | 3, h => simp at h; rw [← h]; exact fun e => n4 e.symm
      | _ + 4, h => simp at h)
    simp only [List.cons_append, List.nil_append] at hM4
    have hM := hM4
    clear hM4
    obtain ⟨⟨u, v⟩, hu, hv⟩ := x
    simp only at hu hv hM hA4
    simp only [grassT, List.setIfInBounds_toArray, List.set_cons_succ, List.set_cons_zero]
    clear hX hA4 n1 n2 n3 n4 hb4
    have lu : (u : Int) < 10 := by omega
    have lv : (v : Int) < 10 := by omega
    refine wpIn_block (wpIn_seq (wpIn_seq ?_))
    rcases (show restAt g (pre.map (·.1)) (v * 10 + u) < 0 ∨ (¬ restAt g (pre.map (·.1)) (v * 10 + u) < 0 ∧ restAt g (pre.map (·.1)) (v * 10 + u) > 1000) ∨ (¬ restAt g (pre.map (·.1)) (v * 10 + u) < 0 ∧ ¬ restAt g (pre.map (·.1)) (v * 10 + u) > 1000) by omega) with r0 | ⟨r0, r1⟩ | ⟨r0, r1⟩
    · have e0 : decide (restAt g (pre.map (·.1)) (v * 10 + u) < 0) = true := decide_eq_true r0
      refine region_round_mem (fun ⟨_, _, h⟩ => h) rfl (by kernel_rfl) (by kernel_rfl) hM ?_
      clear hM
      (repeat (first | go_big_quiet_skip | (go_big_quiet_want; first | (refine quiet_get1 _ _ rfl _ _ rfl 4 rfl (cellTab _ rfl) (by omega) (.int .i8 v) rfl ?_; (simp only [Act.put, List.setIfInBounds_toArray, List.set_cons_succ, List.set_cons_zero]); go_big_quiet_on) | (refine quiet_get1 _ _ rfl _ _ rfl 4 rfl (cellTab _ rfl) (by omega) (.int .i8 u) rfl ?_; (simp only [Act.put, List.setIfInBounds_toArray, List.set_cons_succ, List.set_cons_zero]); go_big_quiet_on) | (refine quiet_get1 _ _ rfl _ _ rfl 0 rfl (cellTab _ rfl) (by omega) (.int .i16 (restAt g (pre.map (·.1)) (v * 10 + u))) rfl ?_; (simp only [Act.put, List.setIfInBounds_toArray, List.set_cons_succ, List.set_cons_zero]); go_big_quiet_on) | (refine quiet_val ?_; apply Exists.intro; refine ⟨fun W => ?_, ?_⟩; (go_simp; (try simp only [lu, lv, e0, if_true, Bool.false_eq_true, if_false]); rfl); (simp only [Act.put, List.setIfInBounds_toArray, List.set_cons_succ, List.set_cons_zero]); go_big_quiet_on))))
      with_reducible refine wpQuiet_nil ?_
      intro W' hM
      refine wpIn_cond_true rfl (wpIn_seq (region_round (fun ⟨_, _, h⟩ => h) rfl ?_))
      have tk_b9 : True := trivial
      go_wp2_with (first | (refine wpList_set1 rfl _ _ _ rfl _ _ rfl _ rfl ?_ hM 1 rfl (by assumption) (cellTab _ rfl) (by omega) ?_; (first | rfl | exact h1 _); intro W' hM'; clear hM; have hM := hM'; clear hM'; simp [List.set, Act.eval] at hM))
      have hbad : fineAt g (u, v) = false := by
        rw [← fine_rest (l := pre.map (·.1)) (show u < 10 by omega) (fun s hs => by obtain ⟨c, hc, rfl⟩ := List.mem_map.1 hs; exact hf c hc)]
        exact inB_no (by omega)
      refine wpIn_ret ?_
      exact ⟨hM.good.2, rfl, grassB_no hu hv hbad, hM.only 1 rfl _ (fun k hk => by simp [upd]) hM.good.1⟩
    · have e0 : decide (restAt g (pre.map (·.1)) (v * 10 + u) < 0) = false := decide_eq_false r0
      have e1 : decide (1000 < restAt g (pre.map (·.1)) (v * 10 + u)) = true := decide_eq_true r1
      refine region_round_mem (fun ⟨_, _, h⟩ => h) rfl (by kernel_rfl) (by kernel_rfl) hM ?_
      clear hM
      (repeat (first | go_big_quiet_skip | (go_big_quiet_want; first | (refine quiet_get1 _ _ rfl _ _ rfl 4 rfl (cellTab _ rfl) (by omega) (.int .i8 v) rfl ?_; (simp only [Act.put, List.setIfInBounds_toArray, List.set_cons_succ, List.set_cons_zero]); go_big_quiet_on) | (refine quiet_get1 _ _ rfl _ _ rfl 4 rfl (cellTab _ rfl) (by omega) (.int .i8 u) rfl ?_; (simp only [Act.put, List.setIfInBounds_toArray, List.set_cons_succ, List.set_cons_zero]); go_big_quiet_on) | (refine quiet_get1 _ _ rfl _ _ rfl 0 rfl (cellTab _ rfl) (by omega) (.int .i16 (restAt g (pre.map (·.1)) (v * 10 + u))) rfl ?_; (simp only [Act.put, List.setIfInBounds_toArray, List.set_cons_succ, List.set_cons_zero]); go_big_quiet_on) | (refine quiet_val ?_; apply Exists.intro; refine ⟨fun W => ?_, ?_⟩; (go_simp; (try simp only [lu, lv, e0, e1, if_true, Bool.false_eq_true, if_false]); rfl); (simp only [Act.put, List.setIfInBounds_toArray, List.set_cons_succ, List.set_cons_zero]); go_big_quiet_on))))
      with_reducible refine wpQuiet_nil ?_
      intro W' hM
      refine wpIn_cond_true rfl (wpIn_seq (region_round (fun ⟨_, _, h⟩ => h) rfl ?_))
      have tk_b9 : True := trivial
      go_wp2_with (first | (refine wpList_set1 rfl _ _ _ rfl _ _ rfl _ rfl ?_ hM 1 rfl (by assumption) (cellTab _ rfl) (by omega) ?_; (first | rfl | exact h1 _); intro W' hM'; clear hM; have hM := hM'; clear hM'; simp [List.set, Act.eval] at hM))
      have hbad : fineAt g (u, v) = false := by
        rw [← fine_rest (l := pre.map (·.1)) (show u < 10 by omega) (fun s hs => by obtain ⟨c, hc, rfl⟩ := List.mem_map.1 hs; exact hf c hc)]
        exact inB_no (by omega)
      refine wpIn_ret ?_
      exact ⟨hM.good.2, rfl, grassB_no hu hv hbad, hM.only 1 rfl _ (fun k hk => by simp [upd]) hM.good.1⟩
    · have e0 : decide (restAt g (pre.map (·.1)) (v * 10 + u) < 0) = false := decide_eq_false r0
      have e1 : decide (1000 < restAt g (pre.map (·.1)) (v * 10 + u)) = false := decide_eq_false r1
      refine region_round_mem (fun ⟨_, _, h⟩ => h) rfl (by kernel_rfl) (by kernel_rfl) hM ?_
      clear hM
      (repeat (first | go_big_quiet_skip | (go_big_quiet_want; first | (refine quiet_get1 _ _ rfl _ _ rfl 4 rfl (cellTab _ rfl) (by omega) (.int .i8 v) rfl ?_; (simp only [Act.put, List.setIfInBounds_toArray, List.set_cons_succ, List.set_cons_zero]); go_big_quiet_on) | (refine quiet_get1 _ _ rfl _ _ rfl 4 rfl (cellTab _ rfl) (by omega) (.int .i8 u) rfl ?_; (simp only [Act.put, List.setIfInBounds_toArray, List.set_cons_succ, List.set_cons_zero]); go_big_quiet_on) | (refine quiet_get1 _ _ rfl _ _ rfl 0 rfl (cellTab _ rfl) (by omega) (.int .i16 (restAt g (pre.map (·.1)) (v * 10 + u))) rfl ?_; (simp only [Act.put, List.setIfInBounds_toArray, List.set_cons_succ, List.set_cons_zero]); go_big_quiet_on) | (refine quiet_val ?_; apply Exists.intro; refine ⟨fun W => ?_, ?_⟩; (go_simp; (try simp only [lu, lv, e0, e1, if_true, Bool.false_eq_true, if_false]); rfl); (simp only [Act.put, List.setIfInBounds_toArray, List.set_cons_succ, List.set_cons_zero]); go_big_quiet_on))))
      with_reducible refine wpQuiet_nil ?_
      intro W' hM
      refine wpIn_cond_false rfl (wpIn_skip ?_)
      refine region_round_tail (m := 6) (fun ⟨_, _, h⟩ => h) rfl (by kernel_rfl) (by kernel_rfl) ?_
      have hM' := hM.drew
      clear hM
      have hM := hM'
      clear hM'
      simp only [List.take_succ_cons, List.take_zero, List.drop_succ_cons, List.drop_zero]
      (repeat (refine wps_plain rfl ?_; (first | (refine still_get1 hM _ _ rfl _ _ rfl 4 rfl (cellTab _ rfl) (by omega) (.int .i8 v) rfl ?_) | (refine still_get1 hM _ _ rfl _ _ rfl 4 rfl (cellTab _ rfl) (by omega) (.int .i8 u) rfl ?_) | (refine still_val ?_; apply Exists.intro; refine ⟨fun W => ?_, ?_⟩; (go_simp; (try simp only [lu, lv, if_true]); rfl))); (simp only [Act.put, List.setIfInBounds_toArray, List.set_cons_succ, List.set_cons_zero])))
      unfold wpStill
      go_wp2_with (first | (refine wpList_set1 rfl _ _ _ rfl _ _ rfl _ rfl ?_ hM 0 rfl (by assumption) (cellTab _ rfl) (by omega) ?_; (first | rfl | exact h1 _); intro W' hM'; clear hM; have hM := hM'; clear hM'; simp [List.set, Act.eval] at hM))
      have hgood : fineAt g (u, v) = true := by
        rw [← fine_rest (l := pre.map (·.1)) (show u < 10 by omega) (fun s hs => by obtain ⟨c, hc, rfl⟩ := List.mem_map.1 hs; exact hf c hc)]
        exact inB_yes (by omega)
      refine ⟨hM.good.2, fun _ => hM.ats 3 _ _ _ rfl, fun s hs => ?_, ?_⟩
      · rcases List.mem_append.1 hs with h | h
        · exact hf s h
        · rw [List.mem_singleton.1 h]; exact hgood
      · rw [List.map_append]
        exact (((hM.take 4).base hM.good.1).re 0 rfl _ (fun k hk => restAt_upd (show u < 10 by omega)))
  case done =>
    rename_i K7 hK7
    intro D xs X hD hS hI hK
    obtain ⟨hf, hM⟩ := hI
    rw [hS] at hM
    have hM' : Mem (Base.round w W1.heap.size X) _ X := hM.base ⟨hM.below, KeepsFrom.refl _ _⟩
    clear hM
    have hM := hM'
    clear hM'
    show K7 _ _
    refine hK7 _ _ ?_
    dsimp only
    go_wp2_with (first | (refine wpList_get rfl _ _ rfl _ _ rfl hM 0 rfl (rowTab _ _ rfl) (by omega) ?_) | (refine wpList_set1 rfl _ _ _ rfl _ _ rfl _ rfl ?_ hM 1 rfl (by assumption) (cellTab _ rfl) (by omega) ?_; (first | rfl | exact h1 _); intro W' hM'; clear hM; have hM := hM'; clear hM'; simp [List.set, Act.eval] at hM))
    have hK' : W'.heap[D]? = some (.deferred (some [])) := hM.good.2.same D _ hD hK rfl
    refine ⟨by simp, .inl ⟨_, _, rfl, run_takeDeferred hK', ?_⟩⟩
    have hB := hM.only (w' := Base.of w) 1 rfl (fun _ => .bool (grassB g W H)) (fun k hk => by
      have hall : ((upto W (W * H)).all (fineAt g)) = true := List.all_eq_true.2 fun s hs => by
        rw [← hS] at hs
        obtain ⟨c, hc, rfl⟩ := List.mem_map.1 hs
        exact hf c hc
      simp [upd, grassB, hall]
      omega) hM.good.1
    refine ⟨.bool (grassB g W H), results_at1 rfl _ rfl (hB.at0.grown (grownBy_putObj' W' D _) (fun r e => by cases e; exact ⟨_, hK', rfl⟩)) (by omega) (cellTab _ rfl) _ rfl, rfl, ?_⟩
    exact Below.grown hB.below (grownBy_putObj' W' D _) hB.below.size (fun k e => by cases e; exact Nat.le_trans hsz hD)
  case stop =>
    intro D c pre X hD hS hI hK
    obtain ⟨rfl, hno, hM⟩ := hI
    refine wpIn_ret ?_
    refine ⟨by simp, .inl ⟨_, _, rfl, run_takeDeferred hK, ?_⟩⟩
    refine ⟨.bool false, results_at1 rfl _ rfl (hM.at0.grown (grownBy_putObj' X D _) (fun r e => by cases e; exact ⟨_, hK, rfl⟩)) (by omega) (cellTab _ rfl) _ rfl, ?_⟩
    rw [hno]
    exact ⟨rfl, Below.grown hM.below (grownBy_putObj' X D _) hM.below.size (fun k e => by cases e; exact Nat.le_trans hsz hD)⟩
end Go.Proofs.YtdlfhomnlhdacaaDoor
