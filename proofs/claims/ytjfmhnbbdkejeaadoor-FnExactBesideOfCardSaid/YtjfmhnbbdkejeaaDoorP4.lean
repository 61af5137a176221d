/-
  Several texts in one: Grass, Valid, Slice, CodeOf, Check, Neq0, Neq.
-/
import Derived.Test.YtjfmhnbbdkejeaaDoorP3
import Derived.Great.BuildSlice
import Derived.Lib.Hide
import Derived.Test.YtjfmhnbbdkejeaaDoorP1
import Derived.Test.YtjfmhnbbdkejeaaDoorP2
/-
  impl.hasValidGrass by contract.
-/
namespace Go.Proofs.YtjfmhnbbdkejeaaDoor
open Go Go.RowKit Go.Shelf Go.BigFrame

/-- What is left of the grass when some cells have come. -/
def restAt (g : Nat → Int) (l : List (Nat × Nat)) (k : Nat) : Int := if (k % 10, k / 10) ∈ l then 0 else g (2 + k)
def restV (g : Nat → Int) (l : List (Nat × Nat)) : Nat → Value := fun k => .int .i16 (restAt g l k)
/-- Is a cell's grass as it may be? -/
def fineAt (g : Nat → Int) (s : Nat × Nat) : Bool := inB 0 1000 (g (2 + (s.2 * 10 + s.1)))
def grassB (g : Nat → Int) (W H : Nat) : Bool := (upto W (W * H)).all (fineAt g) && eqTo 100 (restAt g (upto W (W * H))) (fun _ => 0)

theorem mem_upto {W H x y : Nat} (hx : x < W) (hy : y < H) : (x, y) ∈ upto W (W * H) := by
  unfold upto
  refine List.mem_map.2 ⟨y * W + x, ?_, cellAt_row hx⟩
  have := Nat.mul_le_mul_right W (show y + 1 ≤ H by omega)
  rw [Nat.add_mul, Nat.one_mul, Nat.mul_comm H W] at this
  exact List.mem_range.2 (by omega)
theorem restAt_of {g : Nat → Int} {l : List (Nat × Nat)} {x y : Nat} (hx : x < 10) : restAt g l (y * 10 + x) = if (x, y) ∈ l then 0 else g (2 + (y * 10 + x)) := by
  have e1 : (y * 10 + x) % 10 = x := by omega
  have e2 : (y * 10 + x) / 10 = y := by omega
  simp only [restAt, e1, e2]
theorem restAt_upd {g : Nat → Int} {l : List (Nat × Nat)} {x y k : Nat} (hx : x < 10) : upd (restV g l) (y * 10 + x) (.int .i16 0) k = restV g (l ++ [(x, y)]) k := by
  unfold upd restV restAt
  by_cases e : k = y * 10 + x
  · have e1 : (y * 10 + x) % 10 = x := by omega
    have e2 : (y * 10 + x) / 10 = y := by omega
    simp [e, e1, e2]
  · have : (k % 10, k / 10) ≠ (x, y) := fun h => by
      have h1 : k % 10 = x := congrArg Prod.fst h
      have h2 : k / 10 = y := congrArg Prod.snd h
      omega
    simp [e, this]

def GrassIn {W H : Nat} (w : World) (g : Nat → Int) (b1 b2 b3 bp : Nat) (pre : List (Cell W H)) (X : World) : Prop :=
  (∀ s ∈ pre, fineAt g s.1 = true) ∧ Mem w [(b3, 100, restV g (pre.map (·.1))), (b2, 1, fun _ => .bool false), (b1, 122, pas g), (bp, 122, pas g)] X
def GrassOut {W H : Nat} (w : World) (g : Nat → Int) (b2 : Nat) (c : Code) (_ : List (Cell W H)) (X : World) : Prop :=
  c = .ret ∧ grassB g W H = false ∧ Mem w [(b2, 1, fun _ => .bool false)] X
theorem grassIn_own {W H : Nat} (w : World) (g : Nat → Int) (b1 b2 b3 bp B : Nat) (hB : w.heap.size ≤ B) : OwnFrom B (GrassIn (W := W) (H := H) w g b1 b2 b3 bp) := fun _ X Y row hs hg hr =>
  ⟨hs.1, mem_ownFrom hB (fun _ : Unit => _) () X Y row hs.2 hg hr⟩
theorem grassOut_own {W H : Nat} (w : World) (g : Nat → Int) (b2 B : Nat) (hB : w.heap.size ≤ B) (c : Code) : OwnFrom B (GrassOut (W := W) (H := H) w g b2 c) := fun _ X Y row hs hg hr =>
  ⟨hs.1, hs.2.1, mem_ownFrom hB (fun _ : Unit => _) () X Y row hs.2.2 hg hr⟩

/-- The temporaries as the loop finds them. -/
def grassT (g : Nat → Int) (b1 b2 b3 bp : Nat) : Array Value :=
  #[.agg (arr 122 (pas g)), .pointer (some ⟨b1, 0, none⟩), .pointer (some ⟨b2, 0, none⟩), .pointer (some ⟨b3, 0, none⟩), undef, .pointer (some ⟨b1, 2, none⟩), .agg (arr 100 fun k => pas g (2 + k)), .agg (arr 122 fun k => pas g k), .func (.func 104) #[] #[.pointer (some ⟨bp, 0, none⟩)], undef, undef, undef, undef, undef, undef, undef, undef, undef, undef, undef, undef, undef, undef, undef, undef, undef, undef, undef, undef, undef, undef, undef, undef, undef, undef, undef, undef]
/-- The frame of a round: T: the temporaries as the loop found them. -/
def GrassAx {W H : Nat} (w : World) (b1 b2 b3 bp : Nat) (T : Array Value) (x : Cell W H) (a' : Act) (X : World) : Prop :=
  ∃ bx, w.heap.size ≤ bx ∧ bx ≠ b1 ∧ bx ≠ b2 ∧ bx ≠ b3 ∧ bx ≠ bp ∧ At X bx 2 (sp x.1.1 x.1.2) ∧
    a' = { tmps := (T.setIfInBounds 9 (.agg (arr 2 (sp x.1.1 x.1.2)))).setIfInBounds 4 (.pointer (some ⟨bx, 0, none⟩)), defers := [] }
theorem grassAx_own {W H : Nat} (w : World) (b1 b2 b3 bp B : Nat) (T : Array Value) (x : Cell W H) (a' : Act) : OwnFrom B (fun (_ : Unit) X => GrassAx w b1 b2 b3 bp T x a' X) := fun _ X Y row hs hg hr => by
  obtain ⟨bx, h1, h2, h3, h4, h5, hA, e⟩ := hs
  exact ⟨bx, h1, h2, h3, h4, h5, hA.grown hg (fun r e => (hr r e).2), e⟩

theorem fine_rest {g : Nat → Int} {l : List (Nat × Nat)} {u v : Nat} (hu : u < 10) (hf : ∀ s ∈ l, fineAt g s = true) : inB 0 1000 (restAt g l (v * 10 + u)) = fineAt g (u, v) := by
  rw [restAt_of hu]
  split
  · rename_i h; rw [hf _ h]; rfl
  · rfl
theorem grassB_no {g : Nat → Int} {W H u v : Nat} (hu : u < W) (hv : v < H) (h : fineAt g (u, v) = false) : grassB g W H = false := by
  unfold grassB
  rw [Bool.and_eq_false_iff]; left
  exact List.all_eq_false.2 ⟨_, mem_upto hu hv, by simp [h]⟩
theorem Mem.only {w w' : Base} {W : World} {L : Blocks} (h : Mem w L W) (i : Nat) {b n : Nat} {f : Nat → Value} (hi : L[i]? = some (b, n, f)) (g : Nat → Value) (e : ∀ k, k < n → f k = g k) (hg : w'.G W) : Mem w' [(b, n, g)] W :=
  (Mem.start hg).old ((h.ats i b n f hi).congr e) (fun j p hj => by simp at hj)

theorem Mem.take {w : Base} {W : World} {L : Blocks} (h : Mem w L W) (n : Nat) : Mem w (L.take n) W :=
  ⟨h.good, fun i b m f hi => h.ats i b m f (by rw [List.getElem?_take] at hi; split at hi; exact hi; cases hi),
   fun i j p q hi hj hne => h.apart i j p q (by rw [List.getElem?_take] at hi; split at hi; exact hi; cases hi) (by rw [List.getElem?_take] at hj; split at hj; exact hj; cases hj) hne⟩

theorem results_at1 {P : Program} {fn : Func} {p : Tmp} {ty : TypeId} (h : fn.results = #[.cell p ty]) (tmps : Array Value) {W : World} {b n : Nat} {f : Nat → Value}
    (hp : tmps.getD p undef = .pointer (some ⟨b, 0, none⟩)) (hg : At W b n f) (hn : 0 < n) (hT : CellT P ty) (v : Value) (hv : f 0 = v) :
    (results fn tmps).run P W = .ok v W := by
  obtain ⟨⟨d, hu, hd⟩, _⟩ := hT
  have hc := hg.cell hn
  rw [hv] at hc
  have hagg : (isAgg ty).run P W = .ok false W := by
    unfold isAgg
    rw [Sem.run_bind, run_underlying hu W]
    cases d <;> simp_all [TypeDesc.isRow]
  have hl : (load ⟨b, 0, none⟩).run P W = .ok v W := by simp [load, Sem.run, hc]
  have hh : (loadVar ty ⟨b, 0, none⟩).run P W = .ok v W := by
    simp only [loadVar, Sem.run_bind, Result.andThen_ok, hagg, Bool.false_eq_true, if_false, hl]
  have hp' : tmps[p]?.getD undef = .pointer (some ⟨b, 0, none⟩) := by simpa using hp
  simp [results, h, hp', asAddr, hh]

theorem zeroValue_of {P : Program} {ty : TypeId} {v : Value} (hz : (P.info? ty).map (·.zero) = some (some v)) (W : World) : (zeroValue ty).run P W = .ok v W := by
  cases hq : P.info? ty with
  | none => simp [hq] at hz
  | some i => simp [hq] at hz; simp [zeroValue, typeInfo, hq, hz]
@[local go_sem] theorem zero_grass (W : World) : (zeroValue 25).run Tryd.prog W = .ok (.agg (arr 100 fun _ => .int .i16 0)) W := zeroValue_of (zeroTab _ _ _ rfl) W
@[local go_sem] theorem zero_cells_grass : Tryd.zeroCells25 = arr 100 fun _ => .int .i16 0 := by kernel_rfl
@[local go_sem] theorem eq_grass (g : Nat → Int) (l : List (Nat × Nat)) (W : World) : (Op.equalIn 10000 25 (.agg (arr 100 fun k => restV g l k)) (.agg (arr 100 fun _ => .int .i16 0))).run Tryd.prog W = .ok (eqTo 100 (restAt g l) fun _ => 0) W :=
  run_equal_grass _ _ _ _ (fun _ _ => rfl) (fun _ _ => rfl) W 9997

set_option maxRecDepth 100000 in
set_option maxHeartbeats 2000000 in
theorem hasValidGrass_any (g : Nat → Int) (hg : Fits g) (W H : Nat) (hg0 : g 0 = W) (hg1 : g 1 = H) (hW : 1 ≤ W ∧ W ≤ 10) (hH : 1 ≤ H ∧ H ≤ 10) (w : World) :
    Calls Tryd.prog 119 #[.agg (arr 122 (pas g))] w fun e w' => e = .returned (.bool (grassB g W H)) ∧ Below w.heap.size w w' := by
  have hM := Mem.nil w
  refine (callsIn_wide (n := 3)).1 ?_
  refine callsIn_of_wp_marks Tryd.func119 rfl trivial ?_ rfl
  simp only [Tryd.ntmps119, List.size_toArray, List.length_cons, List.length_nil, Nat.reduceAdd, Nat.reduceSub, Array.replicate_succ, Array.replicate_zero, List.push_toArray, List.append_toArray, List.nil_append, List.cons_append]
  refine wpIn_wide.2 ?_
  have tk_b1 : True := trivial; have tk_b2 : True := trivial; have tk_b3 : True := trivial
  go_wp2_with (first | (have _t := tk_b1; refine wpList_box rfl _ _ rfl _ _ rfl hM ?_; intro b1 W' hb1 hM'; clear hM tk_b1; have hM := hM'; clear hM') | (have _t := tk_b2; refine wpList_zero1 rfl _ rfl (zero1Tab _ _ rfl) rfl hM ?_; intro b2 W' hb2 hM'; clear hM tk_b2; have hM := hM'; clear hM') | (have _t := tk_b3; refine wpList_zero rfl _ rfl (zeroTab _ _ _ rfl) hM ?_; intro b3 W' hb3 hM'; clear hM tk_b3; have hM := hM'; clear hM') | (refine wpList_get rfl _ _ rfl _ _ rfl hM 1 rfl (rowTab _ _ rfl) (by omega) ?_) | (refine wpList_get rfl _ _ rfl _ _ rfl hM 2 rfl (rowTab _ _ rfl) (by omega) ?_) | (refine wpList_get rfl _ _ rfl _ _ rfl hM 0 rfl (rowTab _ _ rfl) (by omega) ?_) | (refine wpList_lay rfl _ _ _ rfl _ _ rfl _ _ rfl hM 0 rfl (by assumption) (rowTab _ _ rfl) (by omega) ?_ ?_; (first | (intro _ _; rfl) | (intro k _; exact h1 _) | (intro k _; simp only [lay, upd]; (repeat' split) <;> first | exact h1 _ | rfl)); intro W' hM'; clear hM; have hM := hM'; clear hM'; simp only [List.set] at hM))
  refine (cells_any g _).mono ?_
  rintro e W1 ⟨bp, rfl, hbp, hAp, hcb⟩
  have l3 := (hM.ats 0 _ _ _ rfl).lt
  have l2 := (hM.ats 1 _ _ _ rfl).lt
  have l1 := (hM.ats 2 _ _ _ rfl).lt
  have hM2 := (hM.re 0 rfl (restV g []) (fun k hk => by
    have e2 : lay (fun _ => Value.int .i16 0) 0 100 (fun k => pas g (2 + k)) k = pas g (2 + k) := by simp [lay, hk]
    rw [e2, pas_i16 g (by omega) (by omega)]; simp [restV, restAt])).call hcb
  simp only [List.set] at hM2
  have hM3 := hM2.old hAp (fun i p h => by
    match i, h with
    | 0, h => simp at h; rw [← h]; show b3 ≠ bp; omega
    | 1, h => simp at h; rw [← h]; show b2 ≠ bp; omega
    | 2, h => simp at h; rw [← h]; show b1 ≠ bp; omega
    | _ + 3, h => simp at h)
  simp only [List.cons_append, List.nil_append] at hM3
  clear hM hM2 l1 l2 l3 hcb hbp
  have hM := hM3
  clear hM3
  go_wp2
  have hsz : w.heap.size ≤ W1.heap.size := hM.size
  refine (wpIn_wide (n := 3)).1 ?_
  refine wpIn_rangeFunc_ownH (F := Fence.wide) (n := 3) rfl (by omega) (gf := 104) (lb := #[.pointer (some ⟨bp, 0, none⟩)]) rfl trivial (enters_of Tryd.func104 (by kernel_rfl) rfl)
    (cells_stops Fence.wide 2 trivial rfl (by omega) bp W H hW.2 hH.2 g hg0 hg1 W1 hAp) kpP_t (fun X l o o' _ h ho _ => kpP_b X l o o' h ho) (Below.refl _ _) (fun _ => rfl)
    (GrassIn w g b1 b2 b3 bp) (GrassOut w g b2) (grassIn_own w g b1 b2 b3 bp _ hM.size) (grassOut_own w g b2 _ hM.size) ⟨fun s h => by simp at h, hM⟩
    (GrassAx w b1 b2 b3 bp (grassT g b1 b2 b3 bp)) (grassAx_own w b1 b2 b3 bp _ _) ?assign ?body ?done ?stop
  case assign =>
    intro l pre x X K hI hK
    obtain ⟨hf, hX⟩ := hI
    have hM : Mem (Base.round w W1.heap.size X) _ X := hX.base ⟨hX.below, KeepsFrom.refl _ _⟩
    have tk_b4 : True := trivial
    refine region_round (fun ⟨_, _, h⟩ => h) rfl ?_
    have ez : (#[9].zip (encC x)).foldl (fun t x => t.setIfInBounds x.1 x.2) (grassT g b1 b2 b3 bp) = (grassT g b1 b2 b3 bp).setIfInBounds 9 (.agg (arr 2 (sp x.1.1 x.1.2))) := by simp [encC]
    have h1 : ∀ k, (sp x.1.1 x.1.2 k).oneCell' = true := fun _ => rfl
    rw [show (#[Value.agg (arr 122 (pas g)), .pointer (some ⟨b1, 0, none⟩), .pointer (some ⟨b2, 0, none⟩), .pointer (some ⟨b3, 0, none⟩), undef, .pointer (some ⟨b1, 2, none⟩), .agg (arr 100 fun k => pas g (2 + k)), .agg (arr 122 fun k => pas g k), .func (.func 104) #[] #[.pointer (some ⟨bp, 0, none⟩)], undef, undef, undef, undef, undef, undef, undef, undef, undef, undef, undef, undef, undef, undef, undef, undef, undef, undef, undef, undef, undef, undef, undef, undef, undef, undef, undef, undef] : Array Value) = grassT g b1 b2 b3 bp from rfl, ez]
    simp only [grassT, List.setIfInBounds_toArray, List.set_cons_succ, List.set_cons_zero]
    go_wp2_with (first | (have _t := tk_b4; refine wpList_zero rfl _ rfl (zeroTab _ _ _ rfl) hM ?_; intro b4 W' hb4 hM'; clear hM tk_b4; have hM := hM'; clear hM') | (refine wpList_lay rfl _ _ _ rfl _ _ rfl _ _ rfl hM 0 rfl (by assumption) (rowTab _ _ rfl) (by omega) ?_ ?_; (first | (intro _ _; rfl) | (intro k _; exact h1 _) | (intro k _; simp only [lay, upd]; (repeat' split) <;> first | exact h1 _ | rfl)); intro W' hM'; clear hM; have hM := hM'; clear hM'; simp only [List.set] at hM))
    exact hK _ _ hM.good.2 (fun _ => hM.ats 4 _ _ _ rfl) ⟨hf, hM.drop.base hM.good.1⟩
      ⟨b4, hb4, hM.apart 0 3 _ _ rfl rfl (by omega), hM.apart 0 2 _ _ rfl rfl (by omega), hM.apart 0 1 _ _ rfl rfl (by omega), hM.apart 0 4 _ _ rfl rfl (by omega), hM.at0.congr (fun k hk => by simp [lay, hk]), rfl⟩
  case body =>
    intro l pre x a' X hl hr hI hAx hlen
    obtain ⟨hf, hX⟩ := hI
    obtain ⟨b4, hb4, n1, n2, n3, n4, hA4, rfl⟩ := hAx
    have hM4 := (hX.base (w' := Base.round w W1.heap.size X) ⟨hX.below, KeepsFrom.refl _ _⟩).old hA4 (fun i p h => by
      match i, h with
      | 0, h => simp at h; rw [← h]; exact fun e => n3 e.symm
      | 1, h => simp at h; rw [← h]; exact fun e => n2 e.symm
      | 2, h => simp at h; rw [← h]; exact fun e => n1 e.symm
      | 3, h => simp at h; rw [← h]; exact fun e => n4 e.symm
      | _ + 4, h => simp at h)
    simp only [List.cons_append, List.nil_append] at hM4
    have hM := hM4
    clear hM4
    obtain ⟨⟨u, v⟩, hu, hv⟩ := x
    simp only at hu hv hM hA4
    simp only [grassT, List.setIfInBounds_toArray, List.set_cons_succ, List.set_cons_zero]
    clear hX hA4 n1 n2 n3 n4 hb4
    have lu : (u : Int) < 10 := by omega
    have lv : (v : Int) < 10 := by omega
    refine wpIn_block (wpIn_seq (wpIn_seq ?_))
    rcases (show restAt g (pre.map (·.1)) (v * 10 + u) < 0 ∨ (¬ restAt g (pre.map (·.1)) (v * 10 + u) < 0 ∧ restAt g (pre.map (·.1)) (v * 10 + u) > 1000) ∨ (¬ restAt g (pre.map (·.1)) (v * 10 + u) < 0 ∧ ¬ restAt g (pre.map (·.1)) (v * 10 + u) > 1000) by omega) with r0 | ⟨r0, r1⟩ | ⟨r0, r1⟩
    · have e0 : decide (restAt g (pre.map (·.1)) (v * 10 + u) < 0) = true := decide_eq_true r0
      refine region_round_mem (fun ⟨_, _, h⟩ => h) rfl (by kernel_rfl) (by kernel_rfl) hM ?_
      clear hM
      (repeat (first | go_big_quiet_skip | (go_big_quiet_want; first | (refine quiet_get1 _ _ rfl _ _ rfl 4 rfl (cellTab _ rfl) (by omega) (.int .i8 v) rfl ?_; (simp only [Act.put, List.setIfInBounds_toArray, List.set_cons_succ, List.set_cons_zero]); go_big_quiet_on) | (refine quiet_get1 _ _ rfl _ _ rfl 4 rfl (cellTab _ rfl) (by omega) (.int .i8 u) rfl ?_; (simp only [Act.put, List.setIfInBounds_toArray, List.set_cons_succ, List.set_cons_zero]); go_big_quiet_on) | (refine quiet_get1 _ _ rfl _ _ rfl 0 rfl (cellTab _ rfl) (by omega) (.int .i16 (restAt g (pre.map (·.1)) (v * 10 + u))) rfl ?_; (simp only [Act.put, List.setIfInBounds_toArray, List.set_cons_succ, List.set_cons_zero]); go_big_quiet_on) | (refine quiet_val ?_; apply Exists.intro; refine ⟨fun W => ?_, ?_⟩; (go_simp; (try simp only [lu, lv, e0, if_true, Bool.false_eq_true, if_false]); rfl); (simp only [Act.put, List.setIfInBounds_toArray, List.set_cons_succ, List.set_cons_zero]); go_big_quiet_on))))
      with_reducible refine wpQuiet_nil ?_
      intro W' hM
      refine wpIn_cond_true rfl (wpIn_seq (region_round (fun ⟨_, _, h⟩ => h) rfl ?_))
      have tk_b9 : True := trivial
      go_wp2_with (first | (refine wpList_set1 rfl _ _ _ rfl _ _ rfl _ rfl ?_ hM 1 rfl (by assumption) (cellTab _ rfl) (by omega) ?_; (first | rfl | exact h1 _); intro W' hM'; clear hM; have hM := hM'; clear hM'; simp [List.set, Act.eval] at hM))
      have hbad : fineAt g (u, v) = false := by
        rw [← fine_rest (l := pre.map (·.1)) (show u < 10 by omega) (fun s hs => by obtain ⟨c, hc, rfl⟩ := List.mem_map.1 hs; exact hf c hc)]
        exact inB_no (by omega)
      refine wpIn_ret ?_
      exact ⟨hM.good.2, rfl, grassB_no hu hv hbad, hM.only 1 rfl _ (fun k hk => by simp [upd]) hM.good.1⟩
    · have e0 : decide (restAt g (pre.map (·.1)) (v * 10 + u) < 0) = false := decide_eq_false r0
      have e1 : decide (1000 < restAt g (pre.map (·.1)) (v * 10 + u)) = true := decide_eq_true r1
      refine region_round_mem (fun ⟨_, _, h⟩ => h) rfl (by kernel_rfl) (by kernel_rfl) hM ?_
      clear hM
      (repeat (first | go_big_quiet_skip | (go_big_quiet_want; first | (refine quiet_get1 _ _ rfl _ _ rfl 4 rfl (cellTab _ rfl) (by omega) (.int .i8 v) rfl ?_; (simp only [Act.put, List.setIfInBounds_toArray, List.set_cons_succ, List.set_cons_zero]); go_big_quiet_on) | (refine quiet_get1 _ _ rfl _ _ rfl 4 rfl (cellTab _ rfl) (by omega) (.int .i8 u) rfl ?_; (simp only [Act.put, List.setIfInBounds_toArray, List.set_cons_succ, List.set_cons_zero]); go_big_quiet_on) | (refine quiet_get1 _ _ rfl _ _ rfl 0 rfl (cellTab _ rfl) (by omega) (.int .i16 (restAt g (pre.map (·.1)) (v * 10 + u))) rfl ?_; (simp only [Act.put, List.setIfInBounds_toArray, List.set_cons_succ, List.set_cons_zero]); go_big_quiet_on) | (refine quiet_val ?_; apply Exists.intro; refine ⟨fun W => ?_, ?_⟩; (go_simp; (try simp only [lu, lv, e0, e1, if_true, Bool.false_eq_true, if_false]); rfl); (simp only [Act.put, List.setIfInBounds_toArray, List.set_cons_succ, List.set_cons_zero]); go_big_quiet_on))))
      with_reducible refine wpQuiet_nil ?_
      intro W' hM
      refine wpIn_cond_true rfl (wpIn_seq (region_round (fun ⟨_, _, h⟩ => h) rfl ?_))
      have tk_b9 : True := trivial
      go_wp2_with (first | (refine wpList_set1 rfl _ _ _ rfl _ _ rfl _ rfl ?_ hM 1 rfl (by assumption) (cellTab _ rfl) (by omega) ?_; (first | rfl | exact h1 _); intro W' hM'; clear hM; have hM := hM'; clear hM'; simp [List.set, Act.eval] at hM))
      have hbad : fineAt g (u, v) = false := by
        rw [← fine_rest (l := pre.map (·.1)) (show u < 10 by omega) (fun s hs => by obtain ⟨c, hc, rfl⟩ := List.mem_map.1 hs; exact hf c hc)]
        exact inB_no (by omega)
      refine wpIn_ret ?_
      exact ⟨hM.good.2, rfl, grassB_no hu hv hbad, hM.only 1 rfl _ (fun k hk => by simp [upd]) hM.good.1⟩
    · have e0 : decide (restAt g (pre.map (·.1)) (v * 10 + u) < 0) = false := decide_eq_false r0
      have e1 : decide (1000 < restAt g (pre.map (·.1)) (v * 10 + u)) = false := decide_eq_false r1
      refine region_round_mem (fun ⟨_, _, h⟩ => h) rfl (by kernel_rfl) (by kernel_rfl) hM ?_
      clear hM
      (repeat (first | go_big_quiet_skip | (go_big_quiet_want; first | (refine quiet_get1 _ _ rfl _ _ rfl 4 rfl (cellTab _ rfl) (by omega) (.int .i8 v) rfl ?_; (simp only [Act.put, List.setIfInBounds_toArray, List.set_cons_succ, List.set_cons_zero]); go_big_quiet_on) | (refine quiet_get1 _ _ rfl _ _ rfl 4 rfl (cellTab _ rfl) (by omega) (.int .i8 u) rfl ?_; (simp only [Act.put, List.setIfInBounds_toArray, List.set_cons_succ, List.set_cons_zero]); go_big_quiet_on) | (refine quiet_get1 _ _ rfl _ _ rfl 0 rfl (cellTab _ rfl) (by omega) (.int .i16 (restAt g (pre.map (·.1)) (v * 10 + u))) rfl ?_; (simp only [Act.put, List.setIfInBounds_toArray, List.set_cons_succ, List.set_cons_zero]); go_big_quiet_on) | (refine quiet_val ?_; apply Exists.intro; refine ⟨fun W => ?_, ?_⟩; (go_simp; (try simp only [lu, lv, e0, e1, if_true, Bool.false_eq_true, if_false]); rfl); (simp only [Act.put, List.setIfInBounds_toArray, List.set_cons_succ, List.set_cons_zero]); go_big_quiet_on))))
      with_reducible refine wpQuiet_nil ?_
      intro W' hM
      refine wpIn_cond_false rfl (wpIn_skip ?_)
      refine region_round_tail (m := 6) (fun ⟨_, _, h⟩ => h) rfl (by kernel_rfl) (by kernel_rfl) ?_
      have hM' := hM.drew
      clear hM
      have hM := hM'
      clear hM'
      simp only [List.take_succ_cons, List.take_zero, List.drop_succ_cons, List.drop_zero]
      (repeat (refine wps_plain rfl ?_; (first | (refine still_get1 hM _ _ rfl _ _ rfl 4 rfl (cellTab _ rfl) (by omega) (.int .i8 v) rfl ?_) | (refine still_get1 hM _ _ rfl _ _ rfl 4 rfl (cellTab _ rfl) (by omega) (.int .i8 u) rfl ?_) | (refine still_val ?_; apply Exists.intro; refine ⟨fun W => ?_, ?_⟩; (go_simp; (try simp only [lu, lv, if_true]); rfl))); (simp only [Act.put, List.setIfInBounds_toArray, List.set_cons_succ, List.set_cons_zero])))
      unfold wpStill
      go_wp2_with (first | (refine wpList_set1 rfl _ _ _ rfl _ _ rfl _ rfl ?_ hM 0 rfl (by assumption) (cellTab _ rfl) (by omega) ?_; (first | rfl | exact h1 _); intro W' hM'; clear hM; have hM := hM'; clear hM'; simp [List.set, Act.eval] at hM))
      have hgood : fineAt g (u, v) = true := by
        rw [← fine_rest (l := pre.map (·.1)) (show u < 10 by omega) (fun s hs => by obtain ⟨c, hc, rfl⟩ := List.mem_map.1 hs; exact hf c hc)]
        exact inB_yes (by omega)
      refine ⟨hM.good.2, fun _ => hM.ats 3 _ _ _ rfl, fun s hs => ?_, ?_⟩
      · rcases List.mem_append.1 hs with h | h
        · exact hf s h
        · rw [List.mem_singleton.1 h]; exact hgood
      · rw [List.map_append]
        exact (((hM.take 4).base hM.good.1).re 0 rfl _ (fun k hk => restAt_upd (show u < 10 by omega)))
  case done =>
    rename_i K7 hK7
    intro D xs X hD hS hI hK
    obtain ⟨hf, hM⟩ := hI
    rw [hS] at hM
    have hM' : Mem (Base.round w W1.heap.size X) _ X := hM.base ⟨hM.below, KeepsFrom.refl _ _⟩
    clear hM
    have hM := hM'
    clear hM'
    show K7 _ _
    refine hK7 _ _ ?_
    dsimp only
    go_wp2_with (first | (refine wpList_get rfl _ _ rfl _ _ rfl hM 0 rfl (rowTab _ _ rfl) (by omega) ?_) | (refine wpList_set1 rfl _ _ _ rfl _ _ rfl _ rfl ?_ hM 1 rfl (by assumption) (cellTab _ rfl) (by omega) ?_; (first | rfl | exact h1 _); intro W' hM'; clear hM; have hM := hM'; clear hM'; simp [List.set, Act.eval] at hM))
    have hK' : W'.heap[D]? = some (.deferred (some [])) := hM.good.2.same D _ hD hK rfl
    refine ⟨by simp, .inl ⟨_, _, rfl, run_takeDeferred hK', ?_⟩⟩
    have hB := hM.only (w' := Base.of w) 1 rfl (fun _ => .bool (grassB g W H)) (fun k hk => by
      have hall : ((upto W (W * H)).all (fineAt g)) = true := List.all_eq_true.2 fun s hs => by
        rw [← hS] at hs
        obtain ⟨c, hc, rfl⟩ := List.mem_map.1 hs
        exact hf c hc
      simp [upd, grassB, hall]
      omega) hM.good.1
    refine ⟨.bool (grassB g W H), results_at1 rfl _ rfl (hB.at0.grown (grownBy_putObj' W' D _) (fun r e => by cases e; exact ⟨_, hK', rfl⟩)) (by omega) (cellTab _ rfl) _ rfl, rfl, ?_⟩
    exact Below.grown hB.below (grownBy_putObj' W' D _) hB.below.size (fun k e => by cases e; exact Nat.le_trans hsz hD)
  case stop =>
    intro D c pre X hD hS hI hK
    obtain ⟨rfl, hno, hM⟩ := hI
    refine wpIn_ret ?_
    refine ⟨by simp, .inl ⟨_, _, rfl, run_takeDeferred hK, ?_⟩⟩
    refine ⟨.bool false, results_at1 rfl _ rfl (hM.at0.grown (grownBy_putObj' X D _) (fun r e => by cases e; exact ⟨_, hK, rfl⟩)) (by omega) (cellTab _ rfl) _ rfl, ?_⟩
    rw [hno]
    exact ⟨rfl, Below.grown hM.below (grownBy_putObj' X D _) hM.below.size (fun k e => by cases e; exact Nat.le_trans hsz hD)⟩
end Go.Proofs.YtjfmhnbbdkejeaaDoor

/-
  impl.ValidPasture by contract.
-/
namespace Go.Proofs.YtjfmhnbbdkejeaaDoor
open Go Go.RowKit Go.BigFrame

/-- Is a pasture valid, as impl asks it? -/
def validB (g : Nat → Int) : Bool := inB 1 10 (g 0) && inB 1 10 (g 1) && (grassB g (g 0).toNat (g 1).toNat && hurB g)

set_option maxRecDepth 100000 in
set_option maxHeartbeats 2000000 in
theorem implValid_any (g : Nat → Int) (hg : Fits g) (w : World) :
    Calls Tryd.prog 93 #[.agg (arr 122 (pas g))] w fun e w' => e = .returned (.bool (validB g)) ∧ Below w.heap.size w w' := by
  have hM := Mem.nil w
  have e0 : pas g 0 = .int .i8 (g 0) := rfl
  have e1 : pas g 1 = .int .i8 (g 1) := rfl
  have hw := hg.w
  have hh := hg.h
  have tk_b1 : True := trivial
  rcases (show g 0 < 1 ∨ (¬ g 0 < 1 ∧ 10 < g 0) ∨ (¬ g 0 < 1 ∧ ¬ 10 < g 0) by omega) with r0 | ⟨r0, r1⟩ | ⟨r0, r1⟩
  · have hf : Hid (validB g = false) := Lib.hid (by simp [validB, inB_no (show ¬ (1 ≤ g 0 ∧ g 0 ≤ 10) by omega)])
    have d0 : decide (g 0 < 1) = true := decide_eq_true r0
    go_enter Tryd.func93, Tryd.ntmps93
    go_wp2_with (first | (have _t := tk_b1; refine wpList_box rfl _ _ rfl _ _ rfl hM ?_; intro b1 W' hb1 hM'; clear hM tk_b1; have hM := hM'; clear hM') | (refine wpList_get1 rfl _ _ rfl _ _ rfl hM 0 rfl (cellTab _ rfl) (by omega) _ rfl ?_) | (refine wpList_gget1 ?_ _ _ rfl _ _ rfl hM 0 rfl (cellTab _ rfl) (by omega) _ rfl ?_; kernel_rfl))
    go_ret
    exact ⟨ret_bool hf.out.symm, hM.below⟩
  · have hf : Hid (validB g = false) := Lib.hid (by simp [validB, inB_no (show ¬ (1 ≤ g 0 ∧ g 0 ≤ 10) by omega)])
    have d0 : decide (g 0 < 1) = false := decide_eq_false r0
    have d1 : decide (10 < g 0) = true := decide_eq_true r1
    go_enter Tryd.func93, Tryd.ntmps93
    go_wp2_with (first | (have _t := tk_b1; refine wpList_box rfl _ _ rfl _ _ rfl hM ?_; intro b1 W' hb1 hM'; clear hM tk_b1; have hM := hM'; clear hM') | (refine wpList_get1 rfl _ _ rfl _ _ rfl hM 0 rfl (cellTab _ rfl) (by omega) _ rfl ?_) | (refine wpList_gget1 ?_ _ _ rfl _ _ rfl hM 0 rfl (cellTab _ rfl) (by omega) _ rfl ?_; kernel_rfl))
    go_ret
    exact ⟨ret_bool hf.out.symm, hM.below⟩
  have d0 : decide (g 0 < 1) = false := decide_eq_false r0
  have d1 : decide (10 < g 0) = false := decide_eq_false r1
  rcases (show g 1 < 1 ∨ (¬ g 1 < 1 ∧ 10 < g 1) ∨ (¬ g 1 < 1 ∧ ¬ 10 < g 1) by omega) with q0 | ⟨q0, q1⟩ | ⟨q0, q1⟩
  · have hf : Hid (validB g = false) := Lib.hid (by simp [validB, inB_no (show ¬ (1 ≤ g 1 ∧ g 1 ≤ 10) by omega)])
    have d2 : decide (g 1 < 1) = true := decide_eq_true q0
    go_enter Tryd.func93, Tryd.ntmps93
    go_wp2_with (first | (have _t := tk_b1; refine wpList_box rfl _ _ rfl _ _ rfl hM ?_; intro b1 W' hb1 hM'; clear hM tk_b1; have hM := hM'; clear hM') | (refine wpList_get1 rfl _ _ rfl _ _ rfl hM 0 rfl (cellTab _ rfl) (by omega) _ rfl ?_) | (refine wpList_gget1 ?_ _ _ rfl _ _ rfl hM 0 rfl (cellTab _ rfl) (by omega) _ rfl ?_; kernel_rfl))
    go_ret
    exact ⟨ret_bool hf.out.symm, hM.below⟩
  · have hf : Hid (validB g = false) := Lib.hid (by simp [validB, inB_no (show ¬ (1 ≤ g 1 ∧ g 1 ≤ 10) by omega)])
    have d2 : decide (g 1 < 1) = false := decide_eq_false q0
    have d3 : decide (10 < g 1) = true := decide_eq_true q1
    go_enter Tryd.func93, Tryd.ntmps93
    go_wp2_with (first | (have _t := tk_b1; refine wpList_box rfl _ _ rfl _ _ rfl hM ?_; intro b1 W' hb1 hM'; clear hM tk_b1; have hM := hM'; clear hM') | (refine wpList_get1 rfl _ _ rfl _ _ rfl hM 0 rfl (cellTab _ rfl) (by omega) _ rfl ?_) | (refine wpList_gget1 ?_ _ _ rfl _ _ rfl hM 0 rfl (cellTab _ rfl) (by omega) _ rfl ?_; kernel_rfl))
    go_ret
    exact ⟨ret_bool hf.out.symm, hM.below⟩
  have d2 : decide (g 1 < 1) = false := decide_eq_false q0
  have d3 : decide (10 < g 1) = false := decide_eq_false q1
  have hgr := fun W => hasValidGrass_any g hg (g 0).toNat (g 1).toNat (by omega) (by omega) (by omega) (by omega) W
  have hhr := fun W => hasValidHurdles_any g hg (by omega) (by omega) W
  have hv : Hid (validB g = (grassB g (g 0).toNat (g 1).toNat && hurB g)) := Lib.hid (by simp [validB, inB_yes (show 1 ≤ g 0 ∧ g 0 ≤ 10 by omega), inB_yes (show 1 ≤ g 1 ∧ g 1 ≤ 10 by omega)])
  cases hB : grassB g (g 0).toNat (g 1).toNat
  · rw [hB] at hgr
    have hf : Hid (validB g = false) := Lib.hid (by rw [hv.out, hB]; rfl)
    go_enter Tryd.func93, Tryd.ntmps93
    go_wp2_with (first | (have _t := tk_b1; refine wpList_box rfl _ _ rfl _ _ rfl hM ?_; intro b1 W' hb1 hM'; clear hM tk_b1; have hM := hM'; clear hM') | (refine wpList_get1 rfl _ _ rfl _ _ rfl hM 0 rfl (cellTab _ rfl) (by omega) _ rfl ?_) | (refine wpList_get rfl _ _ rfl _ _ rfl hM 0 rfl (rowTab _ _ rfl) (by omega) ?_) | (go_at_call 119; refine (hgr _).mono ?_; rintro e W' ⟨rfl, hb'⟩; have hM' := hM.call hb'; clear hM hb'; have hM := hM'; clear hM') | (refine wpList_gget1 ?_ _ _ rfl _ _ rfl hM 0 rfl (cellTab _ rfl) (by omega) _ rfl ?_; kernel_rfl))
    go_ret
    exact ⟨ret_bool hf.out.symm, hM.below⟩
  · rw [hB] at hgr
    have hf : Hid (validB g = hurB g) := Lib.hid (by rw [hv.out, hB]; rfl)
    go_enter Tryd.func93, Tryd.ntmps93
    go_wp2_with (first | (have _t := tk_b1; refine wpList_box rfl _ _ rfl _ _ rfl hM ?_; intro b1 W' hb1 hM'; clear hM tk_b1; have hM := hM'; clear hM') | (refine wpList_get1 rfl _ _ rfl _ _ rfl hM 0 rfl (cellTab _ rfl) (by omega) _ rfl ?_) | (refine wpList_get rfl _ _ rfl _ _ rfl hM 0 rfl (rowTab _ _ rfl) (by omega) ?_) | (go_at_call 119; refine (hgr _).mono ?_; rintro e W' ⟨rfl, hb'⟩; have hM' := hM.call hb'; clear hM hb'; have hM := hM'; clear hM') | (go_at_call 120; refine (hhr _).mono ?_; rintro e W' ⟨rfl, hb'⟩; have hM' := hM.call hb'; clear hM hb'; have hM := hM'; clear hM') | (refine wpList_gget1 ?_ _ _ rfl _ _ rfl hM 0 rfl (cellTab _ rfl) (by omega) _ rfl ?_; kernel_rfl) | (refine wpList_gget ?_ _ _ rfl _ _ rfl hM 0 rfl (rowTab _ _ rfl) (by omega) ?_; kernel_rfl))
    go_ret
    exact ⟨ret_bool hf.out.symm, hM.below⟩
end Go.Proofs.YtjfmhnbbdkejeaaDoor

/-
  PLAIN LAWS: slices of rows by value: a slice literal of one or two such elements is a new block.
-/
namespace Go.Proofs.YtjfmhnbbdkejeaaDoor
open Go Go.RowKit

theorem fold_lay (f : Nat → Value) (off : Nat) : ∀ (m : Nat) (cs : Array Value), off + m ≤ cs.size →
    (((List.range m).map f).zipIdx.foldl (fun cs x => cs.setIfInBounds (off + x.2) x.1) cs).size = cs.size ∧
    ∀ k : Nat, (((List.range m).map f).zipIdx.foldl (fun cs x => cs.setIfInBounds (off + x.2) x.1) cs)[k]? = if off ≤ k ∧ k < off + m then some (f (k - off)) else cs[k]?
  | 0, cs, _ => by
    refine ⟨rfl, fun k => ?_⟩
    rw [if_neg (by omega)]; rfl
  | m + 1, cs, h => by
    obtain ⟨i1, i2⟩ := fold_lay f off m cs (by omega)
    rw [List.range_succ, List.map_append, List.zipIdx_append, List.foldl_append]
    simp only [List.map_cons, List.map_nil, List.length_map, List.length_range, Nat.zero_add, List.zipIdx_cons, List.zipIdx_nil, List.foldl_cons, List.foldl_nil]
    refine ⟨by rw [Array.size_setIfInBounds, i1], fun k => ?_⟩
    rw [Array.getElem?_setIfInBounds, i2 k, i1]
    by_cases h1 : off + m = k
    · subst h1
      simp [show off + m < cs.size by omega]
    · simp only [h1, if_false]
      by_cases h2 : off ≤ k ∧ k < off + m
      · rw [if_pos h2, if_pos (by omega)]
      · rw [if_neg h2, if_neg (by omega)]

theorem fill_one {place : Nat → Option (Nat × Nat)} {cs : Array Value} {i off m : Nat} {f : Nat → Value} (hp : place i = some (off, m)) (hle : off + m ≤ cs.size) (rest : List (Nat × Value)) :
    ∃ cs', Instr.fill place cs ((i, .agg (arr m f)) :: rest) = Instr.fill place cs' rest ∧ cs'.size = cs.size ∧ ∀ k : Nat, cs'[k]? = if off ≤ k ∧ k < off + m then some (f (k - off)) else cs[k]? := by
  refine ⟨_, ?_, (fold_lay f off m cs hle).1, (fold_lay f off m cs hle).2⟩
  rw [Instr.fill, hp]
  have e1 : (decide ((Value.agg (arr m f)).cells.size ≠ m) || decide (off + (Value.agg (arr m f)).cells.size > cs.size)) = false := by
    simp [Value.cells, arr_size]; omega
  simp only [Value.cells] at e1 ⊢
  rw [← Array.foldl_toList, Array.toList_zipIdx, arr_toList]
  simp only [arr_size, ne_eq, not_true_eq_false, gt_iff_lt, show ¬ cs.size < off + m by omega, decide_false, Bool.or_self, Bool.false_eq_true, or_self, if_false]

variable {P : Program} {ops : Array Oper} {rest : List Oper} {o : Oper} {a : Act} {w : Base} {W : World} {Q : Exit → Act → World → Prop} {L : Blocks}
/-- A slice literal of one element that is a row of m cells: a new block. -/
theorem wpList_slice1 (hgd : o.guard = none) (t e : TypeId) (x : Operand) (ho : o.op = .buildSlice t 1 #[(0, x)]) (m : Nat) (f : Nat → Value) (hx : a.eval x = .agg (arr m f)) (z : Value)
    (hu : P.underlying t = some (.slice e)) (hz : (P.info? e).map (fun i => (i.size, i.zero)) = some (m, some z)) (hm : 0 < m) (hm' : m ≤ 1000) (hM : Mem w L W)
    (h : ∀ b W', w.B ≤ b → Mem w ((b, m, f) :: L) W' → wpList P ops Q rest (a.put o.dst (.slice (some ⟨b, 0, none⟩) 1 1)) W') : wpList P ops Q (o :: rest) a W := by
  obtain ⟨ie, hie, hq⟩ := Option.map_eq_some_iff.1 hz
  simp only [Prod.mk.injEq] at hq
  refine wpList_buildSlice hgd t e 1 _ ho (arr m f) ie z hu hie hq.2 (by rw [hq.1]; omega) (by rw [hq.1]; omega) ?_ (h _ _ hM.size (hM.alloc e m f))
  rw [hq.1]
  rw [show (Array.map (fun x => match x with | (i, x) => (i, a.eval x)) #[(0, x)]).toList = [(0, Value.agg (arr m f))] by simp [hx]]
  obtain ⟨cs, h1, h2, h3⟩ := fill_one (f := f) (place := fun i => some (i * m, m)) (i := 0) (off := 0 * m) (m := m) rfl (cs := (Array.range (1 * m)).map (z.cells[· % z.cells.size]!)) (by simp) []
  rw [h1, Instr.fill]
  refine congrArg some (arr_ext (by rw [h2]; simp) (fun k hk => ?_))
  rw [h3, if_pos (by omega)]; simp
/-- A slice literal of two such elements. -/
theorem wpList_slice2 (hgd : o.guard = none) (t e : TypeId) (x y : Operand) (ho : o.op = .buildSlice t 2 #[(0, x), (1, y)]) (m : Nat) (f g : Nat → Value) (hx : a.eval x = .agg (arr m f)) (hy : a.eval y = .agg (arr m g)) (z : Value)
    (hu : P.underlying t = some (.slice e)) (hz : (P.info? e).map (fun i => (i.size, i.zero)) = some (m, some z)) (hm : 0 < m) (hm' : m ≤ 1000) (hM : Mem w L W)
    (h : ∀ b W', w.B ≤ b → Mem w ((b, 2 * m, fun k => if k < m then f k else g (k - m)) :: L) W' → wpList P ops Q rest (a.put o.dst (.slice (some ⟨b, 0, none⟩) 2 2)) W') : wpList P ops Q (o :: rest) a W := by
  obtain ⟨ie, hie, hq⟩ := Option.map_eq_some_iff.1 hz
  simp only [Prod.mk.injEq] at hq
  refine wpList_buildSlice hgd t e 2 _ ho (arr (2 * m) fun k => if k < m then f k else g (k - m)) ie z hu hie hq.2 (by rw [hq.1]; omega) (by rw [hq.1]; omega) ?_ (h _ _ hM.size (hM.alloc e (2 * m) _))
  rw [hq.1]
  rw [show (Array.map (fun x => match x with | (i, x) => (i, a.eval x)) #[(0, x), (1, y)]).toList = [(0, Value.agg (arr m f)), (1, Value.agg (arr m g))] by simp [hx, hy]]
  obtain ⟨cs, h1, h2, h3⟩ := fill_one (f := f) (place := fun i => some (i * m, m)) (i := 0) (off := 0 * m) (m := m) rfl (cs := (Array.range (2 * m)).map (z.cells[· % z.cells.size]!)) (by simp; omega) [(1, Value.agg (arr m g))]
  rw [h1]
  have hs : cs.size = 2 * m := by rw [h2]; simp
  obtain ⟨ds, g1, g2, g3⟩ := fill_one (f := g) (place := fun i => some (i * m, m)) (i := 1) (off := 1 * m) (m := m) rfl (cs := cs) (by omega) []
  rw [g1, Instr.fill]
  refine congrArg some (arr_ext (by rw [g2, hs]) (fun k hk => ?_))
  rw [g3]
  by_cases hk2 : k < m
  · rw [if_neg (by omega), h3, if_pos (by omega)]; simp [hk2]
  · rw [if_pos (by omega)]; simp [hk2]
end Go.Proofs.YtjfmhnbbdkejeaaDoor

/-
  impl.codeOf by contract; what checkCells hands back.
-/
namespace Go.Proofs.YtjfmhnbbdkejeaaDoor
open Go Go.RowKit Go.BigFrame

theorem is_yes {a : Nat → Addr} (i : Nat) (w : World) :
    Calls Tryd.prog 89 #[errV (a i), errV (a i)] w fun e w' => e = .returned (.bool true) ∧ w = w' := (is_same _ w).mono fun _ _ h => ⟨h.1, h.2.symm⟩
theorem is_no {a : Nat → Addr} {w : World} (h : Errs a w) (i j : Nat) (hi : i < 7) (hj : j < 7) (e : i ≠ j) :
    Calls Tryd.prog 89 #[errV (a i), errV (a j)] w fun e w' => e = .returned (.bool false) ∧ w = w' := by
  obtain ⟨ca, ta, ha⟩ := h.cells i hi
  obtain ⟨cb, tb, hb⟩ := h.cells j hj
  exact (is_other _ _ ca cb ta tb w (h.apart i j hi hj e) ha hb).mono fun _ _ h => ⟨h.1, h.2.symm⟩

/-- The code of the k-th error. -/
def codeK (k : Nat) : Int :=
  match k with
  | 0 => 1
  | 1 => 2
  | 2 => 4
  | 3 => 5
  | 4 => 6
  | 5 => 3
  | _ => 7

set_option maxRecDepth 100000 in
set_option maxHeartbeats 4000000 in
theorem codeOf_0 {a : Nat → Addr} {w : World} (h : Errs a w) :
    Calls Tryd.prog 50 #[errV (a 0)] w fun e w' => e = .returned (.int .i64 1) ∧ w = w' := by
  have v0 : w.cell? ⟨0, 0, none⟩ = some (errV (a 0)) := h.vars 0 (by omega)
  have H := Lib.hid h
  clear h
  go_enter Tryd.func50, Tryd.ntmps50
  go_wp2_with (first | (go_at_call 89; (with_reducible refine (is_yes 0 _).mono ?_); rintro e W' ⟨rfl, rfl⟩))
  go_ret
  exact ⟨rfl, rfl⟩
set_option maxRecDepth 100000 in
set_option maxHeartbeats 4000000 in
theorem codeOf_1 {a : Nat → Addr} {w : World} (h : Errs a w) :
    Calls Tryd.prog 50 #[errV (a 1)] w fun e w' => e = .returned (.int .i64 2) ∧ w = w' := by
  have v0 : w.cell? ⟨0, 0, none⟩ = some (errV (a 0)) := h.vars 0 (by omega)
  have v1 : w.cell? ⟨1, 0, none⟩ = some (errV (a 1)) := h.vars 1 (by omega)
  have H := Lib.hid h
  clear h
  go_enter Tryd.func50, Tryd.ntmps50
  go_wp2_with (first | (go_at_call 89; (with_reducible refine (is_no H.out 1 0 (by omega) (by omega) (by omega)).mono ?_); rintro e W' ⟨rfl, rfl⟩) | (go_at_call 89; (with_reducible refine (is_yes 1 _).mono ?_); rintro e W' ⟨rfl, rfl⟩))
  go_ret
  exact ⟨rfl, rfl⟩
set_option maxRecDepth 100000 in
set_option maxHeartbeats 4000000 in
theorem codeOf_2 {a : Nat → Addr} {w : World} (h : Errs a w) :
    Calls Tryd.prog 50 #[errV (a 2)] w fun e w' => e = .returned (.int .i64 4) ∧ w = w' := by
  have v0 : w.cell? ⟨0, 0, none⟩ = some (errV (a 0)) := h.vars 0 (by omega)
  have v1 : w.cell? ⟨1, 0, none⟩ = some (errV (a 1)) := h.vars 1 (by omega)
  have v5 : w.cell? ⟨2, 0, none⟩ = some (errV (a 5)) := h.vars 5 (by omega)
  have v2 : w.cell? ⟨3, 0, none⟩ = some (errV (a 2)) := h.vars 2 (by omega)
  have H := Lib.hid h
  clear h
  go_enter Tryd.func50, Tryd.ntmps50
  go_wp2_with (first | (go_at_call 89; (with_reducible refine (is_no H.out 2 0 (by omega) (by omega) (by omega)).mono ?_); rintro e W' ⟨rfl, rfl⟩) | (go_at_call 89; (with_reducible refine (is_no H.out 2 1 (by omega) (by omega) (by omega)).mono ?_); rintro e W' ⟨rfl, rfl⟩) | (go_at_call 89; (with_reducible refine (is_no H.out 2 5 (by omega) (by omega) (by omega)).mono ?_); rintro e W' ⟨rfl, rfl⟩) | (go_at_call 89; (with_reducible refine (is_yes 2 _).mono ?_); rintro e W' ⟨rfl, rfl⟩))
  go_ret
  exact ⟨rfl, rfl⟩
set_option maxRecDepth 100000 in
set_option maxHeartbeats 4000000 in
theorem codeOf_3 {a : Nat → Addr} {w : World} (h : Errs a w) :
    Calls Tryd.prog 50 #[errV (a 3)] w fun e w' => e = .returned (.int .i64 5) ∧ w = w' := by
  have v0 : w.cell? ⟨0, 0, none⟩ = some (errV (a 0)) := h.vars 0 (by omega)
  have v1 : w.cell? ⟨1, 0, none⟩ = some (errV (a 1)) := h.vars 1 (by omega)
  have v5 : w.cell? ⟨2, 0, none⟩ = some (errV (a 5)) := h.vars 5 (by omega)
  have v2 : w.cell? ⟨3, 0, none⟩ = some (errV (a 2)) := h.vars 2 (by omega)
  have v3 : w.cell? ⟨4, 0, none⟩ = some (errV (a 3)) := h.vars 3 (by omega)
  have H := Lib.hid h
  clear h
  go_enter Tryd.func50, Tryd.ntmps50
  go_wp2_with (first | (go_at_call 89; (with_reducible refine (is_no H.out 3 0 (by omega) (by omega) (by omega)).mono ?_); rintro e W' ⟨rfl, rfl⟩) | (go_at_call 89; (with_reducible refine (is_no H.out 3 1 (by omega) (by omega) (by omega)).mono ?_); rintro e W' ⟨rfl, rfl⟩) | (go_at_call 89; (with_reducible refine (is_no H.out 3 5 (by omega) (by omega) (by omega)).mono ?_); rintro e W' ⟨rfl, rfl⟩) | (go_at_call 89; (with_reducible refine (is_no H.out 3 2 (by omega) (by omega) (by omega)).mono ?_); rintro e W' ⟨rfl, rfl⟩) | (go_at_call 89; (with_reducible refine (is_yes 3 _).mono ?_); rintro e W' ⟨rfl, rfl⟩))
  go_ret
  exact ⟨rfl, rfl⟩
set_option maxRecDepth 100000 in
set_option maxHeartbeats 4000000 in
theorem codeOf_4 {a : Nat → Addr} {w : World} (h : Errs a w) :
    Calls Tryd.prog 50 #[errV (a 4)] w fun e w' => e = .returned (.int .i64 6) ∧ w = w' := by
  have v0 : w.cell? ⟨0, 0, none⟩ = some (errV (a 0)) := h.vars 0 (by omega)
  have v1 : w.cell? ⟨1, 0, none⟩ = some (errV (a 1)) := h.vars 1 (by omega)
  have v5 : w.cell? ⟨2, 0, none⟩ = some (errV (a 5)) := h.vars 5 (by omega)
  have v2 : w.cell? ⟨3, 0, none⟩ = some (errV (a 2)) := h.vars 2 (by omega)
  have v3 : w.cell? ⟨4, 0, none⟩ = some (errV (a 3)) := h.vars 3 (by omega)
  have v4 : w.cell? ⟨5, 0, none⟩ = some (errV (a 4)) := h.vars 4 (by omega)
  have H := Lib.hid h
  clear h
  go_enter Tryd.func50, Tryd.ntmps50
  go_wp2_with (first | (go_at_call 89; (with_reducible refine (is_no H.out 4 0 (by omega) (by omega) (by omega)).mono ?_); rintro e W' ⟨rfl, rfl⟩) | (go_at_call 89; (with_reducible refine (is_no H.out 4 1 (by omega) (by omega) (by omega)).mono ?_); rintro e W' ⟨rfl, rfl⟩) | (go_at_call 89; (with_reducible refine (is_no H.out 4 5 (by omega) (by omega) (by omega)).mono ?_); rintro e W' ⟨rfl, rfl⟩) | (go_at_call 89; (with_reducible refine (is_no H.out 4 2 (by omega) (by omega) (by omega)).mono ?_); rintro e W' ⟨rfl, rfl⟩) | (go_at_call 89; (with_reducible refine (is_no H.out 4 3 (by omega) (by omega) (by omega)).mono ?_); rintro e W' ⟨rfl, rfl⟩) | (go_at_call 89; (with_reducible refine (is_yes 4 _).mono ?_); rintro e W' ⟨rfl, rfl⟩))
  go_ret
  exact ⟨rfl, rfl⟩
set_option maxRecDepth 100000 in
set_option maxHeartbeats 4000000 in
theorem codeOf_5 {a : Nat → Addr} {w : World} (h : Errs a w) :
    Calls Tryd.prog 50 #[errV (a 5)] w fun e w' => e = .returned (.int .i64 3) ∧ w = w' := by
  have v0 : w.cell? ⟨0, 0, none⟩ = some (errV (a 0)) := h.vars 0 (by omega)
  have v1 : w.cell? ⟨1, 0, none⟩ = some (errV (a 1)) := h.vars 1 (by omega)
  have v5 : w.cell? ⟨2, 0, none⟩ = some (errV (a 5)) := h.vars 5 (by omega)
  have H := Lib.hid h
  clear h
  go_enter Tryd.func50, Tryd.ntmps50
  go_wp2_with (first | (go_at_call 89; (with_reducible refine (is_no H.out 5 0 (by omega) (by omega) (by omega)).mono ?_); rintro e W' ⟨rfl, rfl⟩) | (go_at_call 89; (with_reducible refine (is_no H.out 5 1 (by omega) (by omega) (by omega)).mono ?_); rintro e W' ⟨rfl, rfl⟩) | (go_at_call 89; (with_reducible refine (is_yes 5 _).mono ?_); rintro e W' ⟨rfl, rfl⟩))
  go_ret
  exact ⟨rfl, rfl⟩
set_option maxRecDepth 100000 in
set_option maxHeartbeats 4000000 in
theorem codeOf_6 {a : Nat → Addr} {w : World} (h : Errs a w) :
    Calls Tryd.prog 50 #[errV (a 6)] w fun e w' => e = .returned (.int .i64 7) ∧ w = w' := by
  have v0 : w.cell? ⟨0, 0, none⟩ = some (errV (a 0)) := h.vars 0 (by omega)
  have v1 : w.cell? ⟨1, 0, none⟩ = some (errV (a 1)) := h.vars 1 (by omega)
  have v5 : w.cell? ⟨2, 0, none⟩ = some (errV (a 5)) := h.vars 5 (by omega)
  have v2 : w.cell? ⟨3, 0, none⟩ = some (errV (a 2)) := h.vars 2 (by omega)
  have v3 : w.cell? ⟨4, 0, none⟩ = some (errV (a 3)) := h.vars 3 (by omega)
  have v4 : w.cell? ⟨5, 0, none⟩ = some (errV (a 4)) := h.vars 4 (by omega)
  have v6 : w.cell? ⟨6, 0, none⟩ = some (errV (a 6)) := h.vars 6 (by omega)
  have H := Lib.hid h
  clear h
  go_enter Tryd.func50, Tryd.ntmps50
  go_wp2_with (first | (go_at_call 89; (with_reducible refine (is_no H.out 6 0 (by omega) (by omega) (by omega)).mono ?_); rintro e W' ⟨rfl, rfl⟩) | (go_at_call 89; (with_reducible refine (is_no H.out 6 1 (by omega) (by omega) (by omega)).mono ?_); rintro e W' ⟨rfl, rfl⟩) | (go_at_call 89; (with_reducible refine (is_no H.out 6 5 (by omega) (by omega) (by omega)).mono ?_); rintro e W' ⟨rfl, rfl⟩) | (go_at_call 89; (with_reducible refine (is_no H.out 6 2 (by omega) (by omega) (by omega)).mono ?_); rintro e W' ⟨rfl, rfl⟩) | (go_at_call 89; (with_reducible refine (is_no H.out 6 3 (by omega) (by omega) (by omega)).mono ?_); rintro e W' ⟨rfl, rfl⟩) | (go_at_call 89; (with_reducible refine (is_no H.out 6 4 (by omega) (by omega) (by omega)).mono ?_); rintro e W' ⟨rfl, rfl⟩) | (go_at_call 89; (with_reducible refine (is_yes 6 _).mono ?_); rintro e W' ⟨rfl, rfl⟩))
  go_ret
  exact ⟨rfl, rfl⟩

/-- The code of the k-th error. -/
theorem codeOf_any {a : Nat → Addr} {w : World} (h : Errs a w) (k : Nat) (hk : k < 7) :
    Calls Tryd.prog 50 #[errV (a k)] w fun e w' => e = .returned (.int .i64 (codeK k)) ∧ w = w' := by
  have : k = 0 ∨ k = 1 ∨ k = 2 ∨ k = 3 ∨ k = 4 ∨ k = 5 ∨ k = 6 := by omega
  rcases this with rfl | rfl | rfl | rfl | rfl | rfl | rfl
  · exact codeOf_0 h
  · exact codeOf_1 h
  · exact codeOf_2 h
  · exact codeOf_3 h
  · exact codeOf_4 h
  · exact codeOf_5 h
  · exact codeOf_6 h
end Go.Proofs.YtjfmhnbbdkejeaaDoor

/-
  impl.checkCells by contracts.
-/
namespace Go.Proofs.YtjfmhnbbdkejeaaDoor
open Go Go.RowKit Go.BigFrame

theorem spot_under : Tryd.prog.underlying 44 = some (.slice 34) := Tryd.underlying44
theorem spot_info : (Tryd.prog.info? 34).map (fun i => (i.size, i.zero)) = some (2, some (.agg (arr 2 fun _ => .int .i8 0))) := by kernel_rfl
/-- Spots one behind the other. -/
def sps (s : Nat → Int × Int) : Nat → Value := fun k => .int .i8 (if k % 2 = 0 then (s (k / 2)).1 else (s (k / 2)).2)
theorem sp_sps (x y : Int) : ∀ k, k < 2 → sp x y k = sps (fun _ => (x, y)) k := fun k hk => by
  rcases (show k = 0 ∨ k = 1 by omega) with rfl | rfl <;> rfl
theorem sp_sps0 (x y : Int) : ∀ k, k < 2 → sp x y (0 + k) = sps (fun _ => (x, y)) k := fun k hk => by
  rw [Nat.zero_add]; exact sp_sps x y k hk
/-- The first n of them are all cells. -/
def allB (g : Nat → Int) (s : Nat → Int × Int) (n : Nat) : Bool := (List.range n).all fun i => isB g (s i).1 (s i).2
theorem allB_zero (g : Nat → Int) (s : Nat → Int × Int) : allB g s 0 = true := rfl
theorem allB_one (g : Nat → Int) (s : Nat → Int × Int) : allB g s 1 = isB g (s 0).1 (s 0).2 := by simp [allB, List.range_succ]
theorem allB_no {g : Nat → Int} {s : Nat → Int × Int} {n i : Nat} (hi : i < n) (h : isB g (s i).1 (s i).2 = false) : allB g s n = false := by
  unfold allB; rw [List.all_eq_false]; exact ⟨i, by simpa using hi, by rw [h]; decide⟩
theorem allB_yes {g : Nat → Int} {s : Nat → Int × Int} {n : Nat} (h : ∀ i, i < n → isB g (s i).1 (s i).2 = true) : allB g s n = true := by
  unfold allB; rw [List.all_eq_true]; intro i hi; exact h i (by simpa using hi)

/-- What checkCells answers of a valid pasture. -/
def chkS (a : Nat → Addr) (g : Nat → Int) (s : Nat → Int × Int) (n : Nat) : Value := if allB g s n then .nilIface else errV (a 1)
theorem chkS_yes {a : Nat → Addr} {g : Nat → Int} {s : Nat → Int × Int} {n : Nat} (h : allB g s n = true) : chkS a g s n = .nilIface := by simp [chkS, h]
theorem chkS_no {a : Nat → Addr} {g : Nat → Int} {s : Nat → Int × Int} {n : Nat} (h : allB g s n = false) : chkS a g s n = errV (a 1) := by simp [chkS, h]
theorem ret_v {a b : Value} (h : a = b) : Ending.returned a = .returned b := by rw [h]

set_option maxRecDepth 100000 in
set_option maxHeartbeats 2000000 in
theorem checkCells_bad {a : Nat → Addr} (g : Nat → Int) (hg : Fits g) (v : Value) (w : World) (hE : Errs a w) (hv : validB g = false) :
    Calls Tryd.prog 55 #[.agg (arr 122 (pas g)), v] w fun e w' => e = .returned (errV (a 0)) ∧ Below w.heap.size w w' := by
  have hM := Mem.nil w
  have hi := fun W => implValid_any g hg W
  rw [hv] at hi
  have H := Lib.hid hE
  have Hi := Lib.hid hi
  clear hv hi hE
  have tk_b1 : True := trivial
  go_enter Tryd.func55, Tryd.ntmps55
  go_wp2_with (first | (have _t := tk_b1; refine wpList_box rfl _ _ rfl _ _ rfl hM ?_; intro b1 W' hb1 hM'; clear hM tk_b1; have hM := hM'; clear hM') | (refine wpList_get rfl _ _ rfl _ _ rfl hM 0 rfl (rowTab _ _ rfl) (by omega) ?_) | (go_at_call 93; refine (Hi.out _).mono ?_; rintro e W' ⟨rfl, hb'⟩; have hM' := hM.call hb'; have hE' := H.out.below hM'.below; have v0 : W'.cell? ⟨0, 0, none⟩ = some (errV (a 0)) := hE'.vars 0 (by omega); clear hM hb' hE'; have hM := hM'; clear hM'))
  go_ret
  exact ⟨rfl, hM.below⟩

set_option maxRecDepth 100000 in
set_option maxHeartbeats 2000000 in
/-- No spots. -/
theorem checkCells_nil (g : Nat → Int) (hg : Fits g) (w : World) (hv : validB g = true) :
    Calls Tryd.prog 55 #[.agg (arr 122 (pas g)), .slice none 0 0] w fun e w' => e = .returned .nilIface ∧ Below w.heap.size w w' := by
  have hM := Mem.nil w
  have hi := fun W => implValid_any g hg W
  rw [hv] at hi
  have Hi := Lib.hid hi
  clear hv hi
  have tk_b1 : True := trivial
  go_enter Tryd.func55, Tryd.ntmps55
  go_wp2_with (first | (have _t := tk_b1; refine wpList_box rfl _ _ rfl _ _ rfl hM ?_; intro b1 W' hb1 hM'; clear hM tk_b1; have hM := hM'; clear hM') | (refine wpList_get rfl _ _ rfl _ _ rfl hM 0 rfl (rowTab _ _ rfl) (by omega) ?_) | (go_at_call 93; refine (Hi.out _).mono ?_; rintro e W' ⟨rfl, hb'⟩; have hM' := hM.call hb'; clear hM hb'; have hM := hM'; clear hM'))
  refine wp_loop_rounds 1 ?_
  rw [rounds_succ]
  go_wp2
  go_ret
  exact ⟨rfl, hM.below⟩

theorem sps_fst (s : Nat → Int × Int) (k : Nat) : sps s (k * 2 + 0) = .int .i8 (s k).1 := by
  simp [sps]
theorem sps_snd (s : Nat → Int × Int) (k : Nat) : sps s (k * 2 + 1) = .int .i8 (s k).2 := by
  have : (k * 2 + 1) / 2 = k := by omega
  simp [sps, this]

theorem lay_sp0 (z : Nat → Value) (s : Nat → Int × Int) (k : Nat) : lay z 0 2 (fun j => sps s (k * 2 + j)) 0 = .int .i8 (s k).1 := by
  simpa [lay] using sps_fst s k
theorem lay_sp1 (z : Nat → Value) (s : Nat → Int × Int) (k : Nat) : lay z 0 2 (fun j => sps s (k * 2 + j)) 1 = .int .i8 (s k).2 := by
  simpa [lay] using sps_snd s k

set_option maxRecDepth 100000 in
set_option maxHeartbeats 2000000 in
/-- Spots in a block. -/
theorem checkCells_some {a : Nat → Addr} (g : Nat → Int) (hg : Fits g) (bl n c N : Nat) (s : Nat → Int × Int) (hN : 2 * n ≤ N) (hn : n ≤ maxLen) (w : World) (hA : At w bl N (sps s)) (hE : Errs a w) (hv : validB g = true) :
    Calls Tryd.prog 55 #[.agg (arr 122 (pas g)), .slice (some ⟨bl, 0, none⟩) n c] w fun e w' => e = .returned (chkS a g s n) ∧ Below w.heap.size w w' := by
  have hM := (Mem.nil w).old hA (fun i p h => by simp at h)
  simp only [List.nil_append] at hM
  have hi := fun W => implValid_any g hg W
  rw [hv] at hi
  have Hi := Lib.hid hi
  have HE := Lib.hid hE
  unfold maxLen at hn
  clear hv hi hA hE
  have tk_b1 : True := trivial
  go_enter Tryd.func55, Tryd.ntmps55
  go_wp2_with (first | (have _t := tk_b1; refine wpList_box rfl _ _ rfl _ _ rfl hM ?_; intro b1 W' hb1 hM'; clear hM tk_b1; have hM := hM'; clear hM') | (refine wpList_get rfl _ _ rfl _ _ rfl hM 0 rfl (rowTab _ _ rfl) (by omega) ?_) | (go_at_call 93; refine (Hi.out _).mono ?_; rintro e W' ⟨rfl, hb'⟩; have hM' := hM.call hb'; clear hM hb'; have hM := hM'; clear hM'))
  go_loopw [13] (fun i wr => ∃ k : Nat, k ≤ n ∧ i = .int .i64 k ∧ Hid (∀ j, j < k → isB g (s j).1 (s j).2 = true) ∧ Mem w [(b1, 122, pas g), (bl, N, sps s)] wr) (fun i _ => n - (intOf i).toNat)
  case atStart => exact ⟨0, by omega, rfl, Lib.hid (fun j hj => absurd hj (by omega)), hM⟩
  case round =>
    clear hM
    obtain ⟨k, hk, rfl, hall, hM⟩ := hrel
    by_cases hlt : k < n
    · cases hB : isB g (s k).1 (s k).2
      · have HB := Lib.hid hB
        clear hB
        have tk_b2 : True := trivial
        go_wp2_with (first | (refine wpList_get rfl _ _ rfl _ _ rfl hM 1 rfl (rowTab _ _ rfl) (by omega) ?_) | (have _t := tk_b2; refine wpList_zero rfl _ rfl (zeroTab _ _ _ rfl) hM ?_; intro b2 W' hb2 hM'; clear hM tk_b2; have hM := hM'; clear hM') | (refine wpList_lay rfl _ _ _ rfl _ _ rfl _ _ rfl hM 0 rfl (by assumption) (rowTab _ _ rfl) (by omega) ?_ ?_; (first | (intro _ _; rfl) | (intro k _; exact h1 _) | (intro k _; simp only [lay, upd]; (repeat' split) <;> first | exact h1 _ | rfl)); intro W' hM'; clear hM; have hM := hM'; clear hM'; simp only [List.set] at hM) | (refine wpList_get rfl _ _ rfl _ _ rfl hM 0 rfl (rowTab _ _ rfl) (by omega) ?_) | (go_at_call 94; refine (hasCell_of g _ (s k).1 (s k).2 (lay_sp0 _ s k) (lay_sp1 _ s k) _).mono ?_; rintro e W' ⟨rfl, hb'⟩; rw [HB.out]; have hM' := hM.call hb'; have hE' := HE.out.below hM'.below; have v1 : W'.cell? ⟨1, 0, none⟩ = some (errV (a 1)) := hE'.vars 1 (by omega); clear hE'; clear hM hb'; have hM := hM'; clear hM'))
        go_ret
        exact ⟨ret_v (chkS_no (allB_no hlt HB.out)).symm, hM.below⟩
      · have HB := Lib.hid hB
        clear hB
        have tk_b2 : True := trivial
        go_wp2_with (first | (refine wpList_get rfl _ _ rfl _ _ rfl hM 1 rfl (rowTab _ _ rfl) (by omega) ?_) | (have _t := tk_b2; refine wpList_zero rfl _ rfl (zeroTab _ _ _ rfl) hM ?_; intro b2 W' hb2 hM'; clear hM tk_b2; have hM := hM'; clear hM') | (refine wpList_lay rfl _ _ _ rfl _ _ rfl _ _ rfl hM 0 rfl (by assumption) (rowTab _ _ rfl) (by omega) ?_ ?_; (first | (intro _ _; rfl) | (intro k _; exact h1 _) | (intro k _; simp only [lay, upd]; (repeat' split) <;> first | exact h1 _ | rfl)); intro W' hM'; clear hM; have hM := hM'; clear hM'; simp only [List.set] at hM) | (refine wpList_get rfl _ _ rfl _ _ rfl hM 0 rfl (rowTab _ _ rfl) (by omega) ?_) | (go_at_call 94; refine (hasCell_of g _ (s k).1 (s k).2 (lay_sp0 _ s k) (lay_sp1 _ s k) _).mono ?_; rintro e W' ⟨rfl, hb'⟩; rw [HB.out]; have hM' := hM.call hb'; clear hM hb'; have hM := hM'; clear hM'))
        go_roundw
        case rel => exact ⟨k + 1, by omega, by go_num, Lib.hid (fun j hj => by
          by_cases e : j = k
          · rw [e]; exact HB.out
          · exact hall.out j (by omega)), hM.drop⟩
        case measure => simp [intOf]; omega
    · obtain rfl : k = n := by omega
      go_wp2
      go_ret
      exact ⟨ret_v (chkS_yes (allB_yes hall.out)).symm, hM.below⟩
end Go.Proofs.YtjfmhnbbdkejeaaDoor

/-
  An error is not nil.
-/
namespace Go.Proofs.YtjfmhnbbdkejeaaDoor
open Go Go.RowKit Go.BigFrame
@[go_sem] theorem guard_err (x : Operand) (a : Addr) (W : World) : (eqGuard .neq 86 x (.const .nilIface) (errV a) .nilIface).run Tryd.prog W = .ok () W := by
  unfold errV; go_simp
@[go_sem] theorem neq_err (a : Addr) (W : World) : (binOp .neq 86 (errV a) .nilIface).run Tryd.prog W = .ok (.bool true) W := by
  unfold errV; go_simp
end Go.Proofs.YtjfmhnbbdkejeaaDoor

