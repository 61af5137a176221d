/-
  Several texts in one: Grass, Valid, CodeOf, Check, Neq0, Neq, Conv, EqP, ValidB, Asked, Results, Pasture, Closed.
-/
import Derived.Test.YtcdpdcjdjcbhcaaDoorP6
import Derived.Test.YtcdpdcjdjcbhcaaDoorP1
import Derived.Lib.Hide
import Derived.Test.YtcdpdcjdjcbhcaaDoorP5
import Derived.Test.YtcdpdcjdjcbhcaaDoorP3
import Derived.WalkKit
import Derived.OwnWalk
import Derived.BigQuiet
import Derived.Laws.ResultCell
import Derived.StillTail
/-
  impl.hasValidGrass by contract.
-/
namespace Go.Proofs.YtcdpdcjdjcbhcaaDoor
open Go Go.RowKit Go.Shelf Go.BigFrame

/-- What is left of the grass when some cells have come. -/
def restAt (g : Nat → Int) (l : List (Nat × Nat)) (k : Nat) : Int := if (k % 10, k / 10) ∈ l then 0 else g (2 + k)
def restV (g : Nat → Int) (l : List (Nat × Nat)) : Nat → Value := fun k => .int .i16 (restAt g l k)
/-- Is a cell's grass as it may be? -/
def fineAt (g : Nat → Int) (s : Nat × Nat) : Bool := inB 0 1000 (g (2 + (s.2 * 10 + s.1)))
def grassB (g : Nat → Int) (W H : Nat) : Bool := (upto W (W * H)).all (fineAt g) && eqTo 100 (restAt g (upto W (W * H))) (fun _ => 0)

theorem mem_upto {W H x y : Nat} (hx : x < W) (hy : y < H) : (x, y) ∈ upto W (W * H) := by
  unfold upto
  refine List.mem_map.2 ⟨y * W + x, ?_, cellAt_row hx⟩
  have := Nat.mul_le_mul_right W (show y + 1 ≤ H by omega)
  rw [Nat.add_mul, Nat.one_mul, Nat.mul_comm H W] at this
  exact List.mem_range.2 (by omega)
theorem restAt_of {g : Nat → Int} {l : List (Nat × Nat)} {x y : Nat} (hx : x < 10) : restAt g l (y * 10 + x) = if (x, y) ∈ l then 0 else g (2 + (y * 10 + x)) := by
  have e1 : (y * 10 + x) % 10 = x := by omega
  have e2 : (y * 10 + x) / 10 = y := by omega
  simp only [restAt, e1, e2]
theorem restAt_upd {g : Nat → Int} {l : List (Nat × Nat)} {x y k : Nat} (hx : x < 10) : upd (restV g l) (y * 10 + x) (.int .i16 0) k = restV g (l ++ [(x, y)]) k := by
  unfold upd restV restAt
  by_cases e : k = y * 10 + x
  · have e1 : (y * 10 + x) % 10 = x := by omega
    have e2 : (y * 10 + x) / 10 = y := by omega
    simp [e, e1, e2]
  · have : (k % 10, k / 10) ≠ (x, y) := fun h => by
      have h1 : k % 10 = x := congrArg Prod.fst h
      have h2 : k / 10 = y := congrArg Prod.snd h
      omega
    simp [e, this]

def GrassIn {W H : Nat} (w : World) (g : Nat → Int) (b1 b2 b3 bp : Nat) (pre : List (Cell W H)) (X : World) : Prop :=
  (∀ s ∈ pre, fineAt g s.1 = true) ∧ Mem w [(b3, 100, restV g (pre.map (·.1))), (b2, 1, fun _ => .bool false), (b1, 122, pas g), (bp, 122, pas g)] X
def GrassOut {W H : Nat} (w : World) (g : Nat → Int) (b2 : Nat) (c : Code) (_ : List (Cell W H)) (X : World) : Prop :=
  c = .ret ∧ grassB g W H = false ∧ Mem w [(b2, 1, fun _ => .bool false)] X
theorem grassIn_own {W H : Nat} (w : World) (g : Nat → Int) (b1 b2 b3 bp B : Nat) (hB : w.heap.size ≤ B) : OwnFrom B (GrassIn (W := W) (H := H) w g b1 b2 b3 bp) := fun _ X Y row hs hg hr =>
  ⟨hs.1, mem_ownFrom hB (fun _ : Unit => _) () X Y row hs.2 hg hr⟩
theorem grassOut_own {W H : Nat} (w : World) (g : Nat → Int) (b2 B : Nat) (hB : w.heap.size ≤ B) (c : Code) : OwnFrom B (GrassOut (W := W) (H := H) w g b2 c) := fun _ X Y row hs hg hr =>
  ⟨hs.1, hs.2.1, mem_ownFrom hB (fun _ : Unit => _) () X Y row hs.2.2 hg hr⟩

/-- The temporaries as the loop finds them. -/
def grassT (g : Nat → Int) (b1 b2 b3 bp : Nat) : Array Value :=
  #[.agg (arr 122 (pas g)), .pointer (some ⟨b1, 0, none⟩), .pointer (some ⟨b2, 0, none⟩), .pointer (some ⟨b3, 0, none⟩), undef, .pointer (some ⟨b1, 2, none⟩), .agg (arr 100 fun k => pas g (2 + k)), .agg (arr 122 fun k => pas g k), .func (.func 105) #[] #[.pointer (some ⟨bp, 0, none⟩)], undef, undef, undef, undef, undef, undef, undef, undef, undef, undef, undef, undef, undef, undef, undef, undef, undef, undef, undef, undef, undef, undef, undef, undef, undef, undef, undef, undef]
/-- The frame of a round: T: the temporaries as the loop found them. -/
def GrassAx {W H : Nat} (w : World) (b1 b2 b3 bp : Nat) (T : Array Value) (x : Cell W H) (a' : Act) (X : World) : Prop :=
  ∃ bx, w.heap.size ≤ bx ∧ bx ≠ b1 ∧ bx ≠ b2 ∧ bx ≠ b3 ∧ bx ≠ bp ∧ At X bx 2 (sp x.1.1 x.1.2) ∧
    a' = { tmps := (T.setIfInBounds 9 (.agg (arr 2 (sp x.1.1 x.1.2)))).setIfInBounds 4 (.pointer (some ⟨bx, 0, none⟩)), defers := [] }
theorem grassAx_own {W H : Nat} (w : World) (b1 b2 b3 bp B : Nat) (T : Array Value) (x : Cell W H) (a' : Act) : OwnFrom B (fun (_ : Unit) X => GrassAx w b1 b2 b3 bp T x a' X) := fun _ X Y row hs hg hr => by
  obtain ⟨bx, h1, h2, h3, h4, h5, hA, e⟩ := hs
  exact ⟨bx, h1, h2, h3, h4, h5, hA.grown hg (fun r e => (hr r e).2), e⟩

theorem fine_rest {g : Nat → Int} {l : List (Nat × Nat)} {u v : Nat} (hu : u < 10) (hf : ∀ s ∈ l, fineAt g s = true) : inB 0 1000 (restAt g l (v * 10 + u)) = fineAt g (u, v) := by
  rw [restAt_of hu]
  split
  · rename_i h; rw [hf _ h]; rfl
  · rfl
theorem grassB_no {g : Nat → Int} {W H u v : Nat} (hu : u < W) (hv : v < H) (h : fineAt g (u, v) = false) : grassB g W H = false := by
  unfold grassB
  rw [Bool.and_eq_false_iff]; left
  exact List.all_eq_false.2 ⟨_, mem_upto hu hv, by simp [h]⟩
theorem Mem.only {w w' : Base} {W : World} {L : Blocks} (h : Mem w L W) (i : Nat) {b n : Nat} {f : Nat → Value} (hi : L[i]? = some (b, n, f)) (g : Nat → Value) (e : ∀ k, k < n → f k = g k) (hg : w'.G W) : Mem w' [(b, n, g)] W :=
  (Mem.start hg).old ((h.ats i b n f hi).congr e) (fun j p hj => by simp at hj)

theorem Mem.take {w : Base} {W : World} {L : Blocks} (h : Mem w L W) (n : Nat) : Mem w (L.take n) W :=
  ⟨h.good, fun i b m f hi => h.ats i b m f (by rw [List.getElem?_take] at hi; split at hi; exact hi; cases hi),
   fun i j p q hi hj hne => h.apart i j p q (by rw [List.getElem?_take] at hi; split at hi; exact hi; cases hi) (by rw [List.getElem?_take] at hj; split at hj; exact hj; cases hj) hne⟩

theorem results_at1 {P : Program} {fn : Func} {p : Tmp} {ty : TypeId} (h : fn.results = #[.cell p ty]) (tmps : Array Value) {W : World} {b n : Nat} {f : Nat → Value}
    (hp : tmps.getD p undef = .pointer (some ⟨b, 0, none⟩)) (hg : At W b n f) (hn : 0 < n) (hT : CellT P ty) (v : Value) (hv : f 0 = v) :
    (results fn tmps).run P W = .ok v W := by
  obtain ⟨⟨d, hu, hd⟩, _⟩ := hT
  have hc := hg.cell hn
  rw [hv] at hc
  have hagg : (isAgg ty).run P W = .ok false W := by
    unfold isAgg
    rw [Sem.run_bind, run_underlying hu W]
    cases d <;> simp_all [TypeDesc.isRow]
  have hl : (load ⟨b, 0, none⟩).run P W = .ok v W := by simp [load, Sem.run, hc]
  have hh : (loadVar ty ⟨b, 0, none⟩).run P W = .ok v W := by
    simp only [loadVar, Sem.run_bind, Result.andThen_ok, hagg, Bool.false_eq_true, if_false, hl]
  have hp' : tmps[p]?.getD undef = .pointer (some ⟨b, 0, none⟩) := by simpa using hp
  simp [results, h, hp', asAddr, hh]

theorem zeroValue_of {P : Program} {ty : TypeId} {v : Value} (hz : (P.info? ty).map (·.zero) = some (some v)) (W : World) : (zeroValue ty).run P W = .ok v W := by
  cases hq : P.info? ty with
  | none => simp [hq] at hz
  | some i => simp [hq] at hz; simp [zeroValue, typeInfo, hq, hz]
@[local go_sem] theorem zero_grass (W : World) : (zeroValue 53).run Tryd.prog W = .ok (.agg (arr 100 fun _ => .int .i16 0)) W := zeroValue_of (zeroTab _ _ _ rfl) W
@[local go_sem] theorem zero_cells_grass : Tryd.zeroCells53 = arr 100 fun _ => .int .i16 0 := by kernel_rfl
@[local go_sem] theorem eq_grass (g : Nat → Int) (l : List (Nat × Nat)) (W : World) : (Op.equalIn 10000 53 (.agg (arr 100 fun k => restV g l k)) (.agg (arr 100 fun _ => .int .i16 0))).run Tryd.prog W = .ok (eqTo 100 (restAt g l) fun _ => 0) W :=
  run_equal_grass _ _ _ _ (fun _ _ => rfl) (fun _ _ => rfl) W 9997

set_option maxRecDepth 100000 in
set_option maxHeartbeats 2000000 in
theorem hasValidGrass_any (g : Nat → Int) (hg : Fits g) (W H : Nat) (hg0 : g 0 = W) (hg1 : g 1 = H) (hW : 1 ≤ W ∧ W ≤ 10) (hH : 1 ≤ H ∧ H ≤ 10) (w : World) :
    Calls Tryd.prog 103 #[.agg (arr 122 (pas g))] w fun e w' => e = .returned (.bool (grassB g W H)) ∧ Below w.heap.size w w' := by
  have hM := Mem.nil w
  refine (callsIn_wide (n := 3)).1 ?_
  refine callsIn_of_wp_marks Tryd.func103 rfl trivial ?_ rfl
  simp only [Tryd.ntmps103, List.size_toArray, List.length_cons, List.length_nil, Nat.reduceAdd, Nat.reduceSub, Array.replicate_succ, Array.replicate_zero, List.push_toArray, List.append_toArray, List.nil_append, List.cons_append]
  refine wpIn_wide.2 ?_
  have tk_b1 : True := trivial; have tk_b2 : True := trivial; have tk_b3 : True := trivial
  go_wp2_with (first | (have _t := tk_b1; refine wpList_box rfl _ _ rfl _ _ rfl hM ?_; intro b1 W' hb1 hM'; clear hM tk_b1; have hM := hM'; clear hM') | (have _t := tk_b2; refine wpList_zero1 rfl _ rfl (zero1Tab _ _ rfl) rfl hM ?_; intro b2 W' hb2 hM'; clear hM tk_b2; have hM := hM'; clear hM') | (have _t := tk_b3; refine wpList_zero rfl _ rfl (zeroTab _ _ _ rfl) hM ?_; intro b3 W' hb3 hM'; clear hM tk_b3; have hM := hM'; clear hM') | (refine wpList_get rfl _ _ rfl _ _ rfl hM 1 rfl (rowTab _ _ rfl) (by omega) ?_) | (refine wpList_get rfl _ _ rfl _ _ rfl hM 2 rfl (rowTab _ _ rfl) (by omega) ?_) | (refine wpList_get rfl _ _ rfl _ _ rfl hM 0 rfl (rowTab _ _ rfl) (by omega) ?_) | (refine wpList_lay rfl _ _ _ rfl _ _ rfl _ _ rfl hM 0 rfl (by assumption) (rowTab _ _ rfl) (by omega) ?_ ?_; (first | (intro _ _; rfl) | (intro k _; exact h1 _) | (intro k _; simp only [lay, upd]; (repeat' split) <;> first | exact h1 _ | rfl)); intro W' hM'; clear hM; have hM := hM'; clear hM'; simp only [List.set] at hM))
  refine (cells_any g _).mono ?_
  rintro e W1 ⟨bp, rfl, hbp, hAp, hcb⟩
  have l3 := (hM.ats 0 _ _ _ rfl).lt
  have l2 := (hM.ats 1 _ _ _ rfl).lt
  have l1 := (hM.ats 2 _ _ _ rfl).lt
  have hM2 := (hM.re 0 rfl (restV g []) (fun k hk => by
    have e2 : lay (fun _ => Value.int .i16 0) 0 100 (fun k => pas g (2 + k)) k = pas g (2 + k) := by simp [lay, hk]
    rw [e2, pas_i16 g (by omega) (by omega)]; simp [restV, restAt])).call hcb
  simp only [List.set] at hM2
  have hM3 := hM2.old hAp (fun i p h => by
    match i, h with
    | 0, h => simp at h; rw [← h]; show b3 ≠ bp; omega
    | 1, h => simp at h; rw [← h]; show b2 ≠ bp; omega
    | 2, h => simp at h; rw [← h]; show b1 ≠ bp; omega
    | _ + 3, h => simp at h)
  simp only [List.cons_append, List.nil_append] at hM3
  clear hM hM2 l1 l2 l3 hcb hbp
  have hM := hM3
  clear hM3
  go_wp2
  have hsz : w.heap.size ≤ W1.heap.size := hM.size
  refine (wpIn_wide (n := 3)).1 ?_
  refine wpIn_rangeFunc_ownH (F := Fence.wide) (n := 3) rfl (by omega) (gf := 105) (lb := #[.pointer (some ⟨bp, 0, none⟩)]) rfl trivial (enters_of Tryd.func105 (by kernel_rfl) rfl)
    (cells_stops Fence.wide 2 trivial rfl (by omega) bp W H hW.2 hH.2 g hg0 hg1 W1 hAp) kpP_t (fun X l o o' _ h ho _ => kpP_b X l o o' h ho) (Below.refl _ _) (fun _ => rfl)
    (GrassIn w g b1 b2 b3 bp) (GrassOut w g b2) (grassIn_own w g b1 b2 b3 bp _ hM.size) (grassOut_own w g b2 _ hM.size) ⟨fun s h => by simp at h, hM⟩
    (GrassAx w b1 b2 b3 bp (grassT g b1 b2 b3 bp)) (grassAx_own w b1 b2 b3 bp _ _) ?assign ?body ?done ?stop
  case assign =>
    intro l pre x X K hI hK
    obtain ⟨hf, hX⟩ := hI
    have hM : Mem (Base.round w W1.heap.size X) _ X := hX.base ⟨hX.below, KeepsFrom.refl _ _⟩
    have tk_b4 : True := trivial
    refine region_round (fun ⟨_, _, h⟩ => h) rfl ?_
    have ez : (#[9].zip (encC x)).foldl (fun t x => t.setIfInBounds x.1 x.2) (grassT g b1 b2 b3 bp) = (grassT g b1 b2 b3 bp).setIfInBounds 9 (.agg (arr 2 (sp x.1.1 x.1.2))) := by simp [encC]
    have h1 : ∀ k, (sp x.1.1 x.1.2 k).oneCell' = true := fun _ => rfl
    rw [show (#[Value.agg (arr 122 (pas g)), .pointer (some ⟨b1, 0, none⟩), .pointer (some ⟨b2, 0, none⟩), .pointer (some ⟨b3, 0, none⟩), undef, .pointer (some ⟨b1, 2, none⟩), .agg (arr 100 fun k => pas g (2 + k)), .agg (arr 122 fun k => pas g k), .func (.func 105) #[] #[.pointer (some ⟨bp, 0, none⟩)], undef, undef, undef, undef, undef, undef, undef, undef, undef, undef, undef, undef, undef, undef, undef, undef, undef, undef, undef, undef, undef, undef, undef, undef, undef, undef, undef, undef] : Array Value) = grassT g b1 b2 b3 bp from rfl, ez]
    simp only [grassT, List.setIfInBounds_toArray, List.set_cons_succ, List.set_cons_zero]
    go_wp2_with (first | (have _t := tk_b4; refine wpList_zero rfl _ rfl (zeroTab _ _ _ rfl) hM ?_; intro b4 W' hb4 hM'; clear hM tk_b4; have hM := hM'; clear hM') | (refine wpList_lay rfl _ _ _ rfl _ _ rfl _ _ rfl hM 0 rfl (by assumption) (rowTab _ _ rfl) (by omega) ?_ ?_; (first | (intro _ _; rfl) | (intro k _; exact h1 _) | (intro k _; simp only [lay, upd]; (repeat' split) <;> first | exact h1 _ | rfl)); intro W' hM'; clear hM; have hM := hM'; clear hM'; simp only [List.set] at hM))
    exact hK _ _ hM.good.2 (fun _ => hM.ats 4 _ _ _ rfl) ⟨hf, hM.drop.base hM.good.1⟩
      ⟨b4, hb4, hM.apart 0 3 _ _ rfl rfl (by omega), hM.apart 0 2 _ _ rfl rfl (by omega), hM.apart 0 1 _ _ rfl rfl (by omega), hM.apart 0 4 _ _ rfl rfl (by omega), hM.at0.congr (fun k hk => by simp [lay, hk]), rfl⟩
  case body =>
    intro l pre x a' X hl hr hI hAx hlen
    obtain ⟨hf, hX⟩ := hI
    obtain ⟨b4, hb4, n1, n2, n3, n4, hA4, rfl⟩ := hAx
    have hM4 := (hX.base (w' := Base.round w W1.heap.size X) ⟨hX.below, KeepsFrom.refl _ _⟩).old hA4 (fun i p h => by
      match i, h with
      | 0, h => simp at h; rw [← h]; exact fun e => n3 e.symm
      | 1, h => simp at h; rw [← h]; exact fun e => n2 e.symm
      | 2, h => simp at h; rw [← h]; exact fun e => n1 e.symm
      | 3, h => simp at h; rw [← h]; exact fun e => n4 e.symm
      | _ + 4, h => simp at h)
    simp only [List.cons_append, List.nil_append] at hM4
    have hM := hM4
    clear hM4
    obtain ⟨⟨u, v⟩, hu, hv⟩ := x
    simp only at hu hv hM hA4
    simp only [grassT, List.setIfInBounds_toArray, List.set_cons_succ, List.set_cons_zero]
    clear hX hA4 n1 n2 n3 n4 hb4
    have lu : (u : Int) < 10 := by omega
    have lv : (v : Int) < 10 := by omega
    refine wpIn_block (wpIn_seq (wpIn_seq ?_))
    rcases (show restAt g (pre.map (·.1)) (v * 10 + u) < 0 ∨ (¬ restAt g (pre.map (·.1)) (v * 10 + u) < 0 ∧ restAt g (pre.map (·.1)) (v * 10 + u) > 1000) ∨ (¬ restAt g (pre.map (·.1)) (v * 10 + u) < 0 ∧ ¬ restAt g (pre.map (·.1)) (v * 10 + u) > 1000) by omega) with r0 | ⟨r0, r1⟩ | ⟨r0, r1⟩
    · have e0 : decide (restAt g (pre.map (·.1)) (v * 10 + u) < 0) = true := decide_eq_true r0
      refine region_round_mem (fun ⟨_, _, h⟩ => h) rfl (by kernel_rfl) (by kernel_rfl) hM ?_
      clear hM
      (repeat (first | go_big_quiet_skip | (go_big_quiet_want; first | (refine quiet_get1 _ _ rfl _ _ rfl 4 rfl (cellTab _ rfl) (by omega) (.int .i8 v) rfl ?_; (simp only [Act.put, List.setIfInBounds_toArray, List.set_cons_succ, List.set_cons_zero]); go_big_quiet_on) | (refine quiet_get1 _ _ rfl _ _ rfl 4 rfl (cellTab _ rfl) (by omega) (.int .i8 u) rfl ?_; (simp only [Act.put, List.setIfInBounds_toArray, List.set_cons_succ, List.set_cons_zero]); go_big_quiet_on) | (refine quiet_get1 _ _ rfl _ _ rfl 0 rfl (cellTab _ rfl) (by omega) (.int .i16 (restAt g (pre.map (·.1)) (v * 10 + u))) rfl ?_; (simp only [Act.put, List.setIfInBounds_toArray, List.set_cons_succ, List.set_cons_zero]); go_big_quiet_on) | (refine quiet_val ?_; apply Exists.intro; refine ⟨fun W => ?_, ?_⟩; (go_simp; (try simp only [lu, lv, e0, if_true, Bool.false_eq_true, if_false]); rfl); (simp only [Act.put, List.setIfInBounds_toArray, List.set_cons_succ, List.set_cons_zero]); go_big_quiet_on))))
      with_reducible refine wpQuiet_nil ?_
      intro W' hM
      refine wpIn_cond_true rfl (wpIn_seq (region_round (fun ⟨_, _, h⟩ => h) rfl ?_))
      have tk_b9 : True := trivial
      go_wp2_with (first | (refine wpList_set1 rfl _ _ _ rfl _ _ rfl _ rfl ?_ hM 1 rfl (by assumption) (cellTab _ rfl) (by omega) ?_; (first | rfl | exact h1 _); intro W' hM'; clear hM; have hM := hM'; clear hM'; simp [List.set, Act.eval] at hM))
      have hbad : fineAt g (u, v) = false := by
        rw [← fine_rest (l := pre.map (·.1)) (show u < 10 by omega) (fun s hs => by obtain ⟨c, hc, rfl⟩ := List.mem_map.1 hs; exact hf c hc)]
        exact inB_no (by omega)
      refine wpIn_ret ?_
      exact ⟨hM.good.2, rfl, grassB_no hu hv hbad, hM.only 1 rfl _ (fun k hk => by simp [upd]) hM.good.1⟩
    · have e0 : decide (restAt g (pre.map (·.1)) (v * 10 + u) < 0) = false := decide_eq_false r0
      have e1 : decide (1000 < restAt g (pre.map (·.1)) (v * 10 + u)) = true := decide_eq_true r1
      refine region_round_mem (fun ⟨_, _, h⟩ => h) rfl (by kernel_rfl) (by kernel_rfl) hM ?_
      clear hM
      (repeat (first | go_big_quiet_skip | (go_big_quiet_want; first | (refine quiet_get1 _ _ rfl _ _ rfl 4 rfl (cellTab _ rfl) (by omega) (.int .i8 v) rfl ?_; (simp only [Act.put, List.setIfInBounds_toArray, List.set_cons_succ, List.set_cons_zero]); go_big_quiet_on) | (refine quiet_get1 _ _ rfl _ _ rfl 4 rfl (cellTab _ rfl) (by omega) (.int .i8 u) rfl ?_; (simp only [Act.put, List.setIfInBounds_toArray, List.set_cons_succ, List.set_cons_zero]); go_big_quiet_on) | (refine quiet_get1 _ _ rfl _ _ rfl 0 rfl (cellTab _ rfl) (by omega) (.int .i16 (restAt g (pre.map (·.1)) (v * 10 + u))) rfl ?_; (simp only [Act.put, List.setIfInBounds_toArray, List.set_cons_succ, List.set_cons_zero]); go_big_quiet_on) | (refine quiet_val ?_; apply Exists.intro; refine ⟨fun W => ?_, ?_⟩; (go_simp; (try simp only [lu, lv, e0, e1, if_true, Bool.false_eq_true, if_false]); rfl); (simp only [Act.put, List.setIfInBounds_toArray, List.set_cons_succ, List.set_cons_zero]); go_big_quiet_on))))
      with_reducible refine wpQuiet_nil ?_
      intro W' hM
      refine wpIn_cond_true rfl (wpIn_seq (region_round (fun ⟨_, _, h⟩ => h) rfl ?_))
      have tk_b9 : True := trivial
      go_wp2_with (first | (refine wpList_set1 rfl _ _ _ rfl _ _ rfl _ rfl ?_ hM 1 rfl (by assumption) (cellTab _ rfl) (by omega) ?_; (first | rfl | exact h1 _); intro W' hM'; clear hM; have hM := hM'; clear hM'; simp [List.set, Act.eval] at hM))
      have hbad : fineAt g (u, v) = false := by
        rw [← fine_rest (l := pre.map (·.1)) (show u < 10 by omega) (fun s hs => by obtain ⟨c, hc, rfl⟩ := List.mem_map.1 hs; exact hf c hc)]
        exact inB_no (by omega)
      refine wpIn_ret ?_
      exact ⟨hM.good.2, rfl, grassB_no hu hv hbad, hM.only 1 rfl _ (fun k hk => by simp [upd]) hM.good.1⟩
    · have e0 : decide (restAt g (pre.map (·.1)) (v * 10 + u) < 0) = false := decide_eq_false r0
      have e1 : decide (1000 < restAt g (pre.map (·.1)) (v * 10 + u)) = false := decide_eq_false r1
      refine region_round_mem (fun ⟨_, _, h⟩ => h) rfl (by kernel_rfl) (by kernel_rfl) hM ?_
      clear hM
      (repeat (first | go_big_quiet_skip | (go_big_quiet_want; first | (refine quiet_get1 _ _ rfl _ _ rfl 4 rfl (cellTab _ rfl) (by omega) (.int .i8 v) rfl ?_; (simp only [Act.put, List.setIfInBounds_toArray, List.set_cons_succ, List.set_cons_zero]); go_big_quiet_on) | (refine quiet_get1 _ _ rfl _ _ rfl 4 rfl (cellTab _ rfl) (by omega) (.int .i8 u) rfl ?_; (simp only [Act.put, List.setIfInBounds_toArray, List.set_cons_succ, List.set_cons_zero]); go_big_quiet_on) | (refine quiet_get1 _ _ rfl _ _ rfl 0 rfl (cellTab _ rfl) (by omega) (.int .i16 (restAt g (pre.map (·.1)) (v * 10 + u))) rfl ?_; (simp only [Act.put, List.setIfInBounds_toArray, List.set_cons_succ, List.set_cons_zero]); go_big_quiet_on) | (refine quiet_val ?_; apply Exists.intro; refine ⟨fun W => ?_, ?_⟩; (go_simp; (try simp only [lu, lv, e0, e1, if_true, Bool.false_eq_true, if_false]); rfl); (simp only [Act.put, List.setIfInBounds_toArray, List.set_cons_succ, List.set_cons_zero]); go_big_quiet_on))))
      with_reducible refine wpQuiet_nil ?_
      intro W' hM
      refine wpIn_cond_false rfl (wpIn_skip ?_)
      refine region_round_tail (m := 6) (fun ⟨_, _, h⟩ => h) rfl (by kernel_rfl) (by kernel_rfl) ?_
      have hM' := hM.drew
      clear hM
      have hM := hM'
      clear hM'
      simp only [List.take_succ_cons, List.take_zero, List.drop_succ_cons, List.drop_zero]
      (repeat (refine wps_plain rfl ?_; (first | (refine still_get1 hM _ _ rfl _ _ rfl 4 rfl (cellTab _ rfl) (by omega) (.int .i8 v) rfl ?_) | (refine still_get1 hM _ _ rfl _ _ rfl 4 rfl (cellTab _ rfl) (by omega) (.int .i8 u) rfl ?_) | (refine still_val ?_; apply Exists.intro; refine ⟨fun W => ?_, ?_⟩; (go_simp; (try simp only [lu, lv, if_true]); rfl))); (simp only [Act.put, List.setIfInBounds_toArray, List.set_cons_succ, List.set_cons_zero])))
      unfold wpStill
      go_wp2_with (first | (refine wpList_set1 rfl _ _ _ rfl _ _ rfl _ rfl ?_ hM 0 rfl (by assumption) (cellTab _ rfl) (by omega) ?_; (first | rfl | exact h1 _); intro W' hM'; clear hM; have hM := hM'; clear hM'; simp [List.set, Act.eval] at hM))
      have hgood : fineAt g (u, v) = true := by
        rw [← fine_rest (l := pre.map (·.1)) (show u < 10 by omega) (fun s hs => by obtain ⟨c, hc, rfl⟩ := List.mem_map.1 hs; exact hf c hc)]
        exact inB_yes (by omega)
      refine ⟨hM.good.2, fun _ => hM.ats 3 _ _ _ rfl, fun s hs => ?_, ?_⟩
      · rcases List.mem_append.1 hs with h | h
        · exact hf s h
        · rw [List.mem_singleton.1 h]; exact hgood
      · rw [List.map_append]
        exact (((hM.take 4).base hM.good.1).re 0 rfl _ (fun k hk => restAt_upd (show u < 10 by omega)))
  case done =>
    rename_i K7 hK7
    intro D xs X hD hS hI hK
    obtain ⟨hf, hM⟩ := hI
    rw [hS] at hM
    have hM' : Mem (Base.round w W1.heap.size X) _ X := hM.base ⟨hM.below, KeepsFrom.refl _ _⟩
    clear hM
    have hM := hM'
    clear hM'
    show K7 _ _
    refine hK7 _ _ ?_
    dsimp only
    go_wp2_with (first | (refine wpList_get rfl _ _ rfl _ _ rfl hM 0 rfl (rowTab _ _ rfl) (by omega) ?_) | (refine wpList_set1 rfl _ _ _ rfl _ _ rfl _ rfl ?_ hM 1 rfl (by assumption) (cellTab _ rfl) (by omega) ?_; (first | rfl | exact h1 _); intro W' hM'; clear hM; have hM := hM'; clear hM'; simp [List.set, Act.eval] at hM))
    have hK' : W'.heap[D]? = some (.deferred (some [])) := hM.good.2.same D _ hD hK rfl
    refine ⟨by simp, .inl ⟨_, _, rfl, run_takeDeferred hK', ?_⟩⟩
    have hB := hM.only (w' := Base.of w) 1 rfl (fun _ => .bool (grassB g W H)) (fun k hk => by
      have hall : ((upto W (W * H)).all (fineAt g)) = true := List.all_eq_true.2 fun s hs => by
        rw [← hS] at hs
        obtain ⟨c, hc, rfl⟩ := List.mem_map.1 hs
        exact hf c hc
      simp [upd, grassB, hall]
      omega) hM.good.1
    refine ⟨.bool (grassB g W H), results_at1 rfl _ rfl (hB.at0.grown (grownBy_putObj' W' D _) (fun r e => by cases e; exact ⟨_, hK', rfl⟩)) (by omega) (cellTab _ rfl) _ rfl, rfl, ?_⟩
    exact Below.grown hB.below (grownBy_putObj' W' D _) hB.below.size (fun k e => by cases e; exact Nat.le_trans hsz hD)
  case stop =>
    intro D c pre X hD hS hI hK
    obtain ⟨rfl, hno, hM⟩ := hI
    refine wpIn_ret ?_
    refine ⟨by simp, .inl ⟨_, _, rfl, run_takeDeferred hK, ?_⟩⟩
    refine ⟨.bool false, results_at1 rfl _ rfl (hM.at0.grown (grownBy_putObj' X D _) (fun r e => by cases e; exact ⟨_, hK, rfl⟩)) (by omega) (cellTab _ rfl) _ rfl, ?_⟩
    rw [hno]
    exact ⟨rfl, Below.grown hM.below (grownBy_putObj' X D _) hM.below.size (fun k e => by cases e; exact Nat.le_trans hsz hD)⟩
end Go.Proofs.YtcdpdcjdjcbhcaaDoor

/-
  impl.ValidPasture by contract.
-/
namespace Go.Proofs.YtcdpdcjdjcbhcaaDoor
open Go Go.RowKit Go.BigFrame

/-- Is a pasture valid, as impl asks it? -/
def validB (g : Nat → Int) : Bool := inB 1 10 (g 0) && inB 1 10 (g 1) && (grassB g (g 0).toNat (g 1).toNat && hurB g)

set_option maxRecDepth 100000 in
set_option maxHeartbeats 2000000 in
theorem implValid_any (g : Nat → Int) (hg : Fits g) (w : World) :
    Calls Tryd.prog 68 #[.agg (arr 122 (pas g))] w fun e w' => e = .returned (.bool (validB g)) ∧ Below w.heap.size w w' := by
  have hM := Mem.nil w
  have e0 : pas g 0 = .int .i8 (g 0) := rfl
  have e1 : pas g 1 = .int .i8 (g 1) := rfl
  have hw := hg.w
  have hh := hg.h
  have tk_b1 : True := trivial
  rcases (show g 0 < 1 ∨ (¬ g 0 < 1 ∧ 10 < g 0) ∨ (¬ g 0 < 1 ∧ ¬ 10 < g 0) by omega) with r0 | ⟨r0, r1⟩ | ⟨r0, r1⟩
  · have hf : Hid (validB g = false) := Lib.hid (by simp [validB, inB_no (show ¬ (1 ≤ g 0 ∧ g 0 ≤ 10) by omega)])
    have d0 : decide (g 0 < 1) = true := decide_eq_true r0
    go_enter Tryd.func68, Tryd.ntmps68
    go_wp2_with (first | (have _t := tk_b1; refine wpList_box rfl _ _ rfl _ _ rfl hM ?_; intro b1 W' hb1 hM'; clear hM tk_b1; have hM := hM'; clear hM') | (refine wpList_get1 rfl _ _ rfl _ _ rfl hM 0 rfl (cellTab _ rfl) (by omega) _ rfl ?_) | (refine wpList_gget1 ?_ _ _ rfl _ _ rfl hM 0 rfl (cellTab _ rfl) (by omega) _ rfl ?_; kernel_rfl))
    go_ret
    exact ⟨ret_bool hf.out.symm, hM.below⟩
  · have hf : Hid (validB g = false) := Lib.hid (by simp [validB, inB_no (show ¬ (1 ≤ g 0 ∧ g 0 ≤ 10) by omega)])
    have d0 : decide (g 0 < 1) = false := decide_eq_false r0
    have d1 : decide (10 < g 0) = true := decide_eq_true r1
    go_enter Tryd.func68, Tryd.ntmps68
    go_wp2_with (first | (have _t := tk_b1; refine wpList_box rfl _ _ rfl _ _ rfl hM ?_; intro b1 W' hb1 hM'; clear hM tk_b1; have hM := hM'; clear hM') | (refine wpList_get1 rfl _ _ rfl _ _ rfl hM 0 rfl (cellTab _ rfl) (by omega) _ rfl ?_) | (refine wpList_gget1 ?_ _ _ rfl _ _ rfl hM 0 rfl (cellTab _ rfl) (by omega) _ rfl ?_; kernel_rfl))
    go_ret
    exact ⟨ret_bool hf.out.symm, hM.below⟩
  have d0 : decide (g 0 < 1) = false := decide_eq_false r0
  have d1 : decide (10 < g 0) = false := decide_eq_false r1
  rcases (show g 1 < 1 ∨ (¬ g 1 < 1 ∧ 10 < g 1) ∨ (¬ g 1 < 1 ∧ ¬ 10 < g 1) by omega) with q0 | ⟨q0, q1⟩ | ⟨q0, q1⟩
  · have hf : Hid (validB g = false) := Lib.hid (by simp [validB, inB_no (show ¬ (1 ≤ g 1 ∧ g 1 ≤ 10) by omega)])
    have d2 : decide (g 1 < 1) = true := decide_eq_true q0
    go_enter Tryd.func68, Tryd.ntmps68
    go_wp2_with (first | (have _t := tk_b1; refine wpList_box rfl _ _ rfl _ _ rfl hM ?_; intro b1 W' hb1 hM'; clear hM tk_b1; have hM := hM'; clear hM') | (refine wpList_get1 rfl _ _ rfl _ _ rfl hM 0 rfl (cellTab _ rfl) (by omega) _ rfl ?_) | (refine wpList_gget1 ?_ _ _ rfl _ _ rfl hM 0 rfl (cellTab _ rfl) (by omega) _ rfl ?_; kernel_rfl))
    go_ret
    exact ⟨ret_bool hf.out.symm, hM.below⟩
  · have hf : Hid (validB g = false) := Lib.hid (by simp [validB, inB_no (show ¬ (1 ≤ g 1 ∧ g 1 ≤ 10) by omega)])
    have d2 : decide (g 1 < 1) = false := decide_eq_false q0
    have d3 : decide (10 < g 1) = true := decide_eq_true q1
    go_enter Tryd.func68, Tryd.ntmps68
    go_wp2_with (first | (have _t := tk_b1; refine wpList_box rfl _ _ rfl _ _ rfl hM ?_; intro b1 W' hb1 hM'; clear hM tk_b1; have hM := hM'; clear hM') | (refine wpList_get1 rfl _ _ rfl _ _ rfl hM 0 rfl (cellTab _ rfl) (by omega) _ rfl ?_) | (refine wpList_gget1 ?_ _ _ rfl _ _ rfl hM 0 rfl (cellTab _ rfl) (by omega) _ rfl ?_; kernel_rfl))
    go_ret
    exact ⟨ret_bool hf.out.symm, hM.below⟩
  have d2 : decide (g 1 < 1) = false := decide_eq_false q0
  have d3 : decide (10 < g 1) = false := decide_eq_false q1
  have hgr := fun W => hasValidGrass_any g hg (g 0).toNat (g 1).toNat (by omega) (by omega) (by omega) (by omega) W
  have hhr := fun W => hasValidHurdles_any g hg (by omega) (by omega) W
  have hv : Hid (validB g = (grassB g (g 0).toNat (g 1).toNat && hurB g)) := Lib.hid (by simp [validB, inB_yes (show 1 ≤ g 0 ∧ g 0 ≤ 10 by omega), inB_yes (show 1 ≤ g 1 ∧ g 1 ≤ 10 by omega)])
  cases hB : grassB g (g 0).toNat (g 1).toNat
  · rw [hB] at hgr
    have hf : Hid (validB g = false) := Lib.hid (by rw [hv.out, hB]; rfl)
    go_enter Tryd.func68, Tryd.ntmps68
    go_wp2_with (first | (have _t := tk_b1; refine wpList_box rfl _ _ rfl _ _ rfl hM ?_; intro b1 W' hb1 hM'; clear hM tk_b1; have hM := hM'; clear hM') | (refine wpList_get1 rfl _ _ rfl _ _ rfl hM 0 rfl (cellTab _ rfl) (by omega) _ rfl ?_) | (refine wpList_get rfl _ _ rfl _ _ rfl hM 0 rfl (rowTab _ _ rfl) (by omega) ?_) | (go_at_call 103; refine (hgr _).mono ?_; rintro e W' ⟨rfl, hb'⟩; have hM' := hM.call hb'; clear hM hb'; have hM := hM'; clear hM') | (refine wpList_gget1 ?_ _ _ rfl _ _ rfl hM 0 rfl (cellTab _ rfl) (by omega) _ rfl ?_; kernel_rfl))
    go_ret
    exact ⟨ret_bool hf.out.symm, hM.below⟩
  · rw [hB] at hgr
    have hf : Hid (validB g = hurB g) := Lib.hid (by rw [hv.out, hB]; rfl)
    go_enter Tryd.func68, Tryd.ntmps68
    go_wp2_with (first | (have _t := tk_b1; refine wpList_box rfl _ _ rfl _ _ rfl hM ?_; intro b1 W' hb1 hM'; clear hM tk_b1; have hM := hM'; clear hM') | (refine wpList_get1 rfl _ _ rfl _ _ rfl hM 0 rfl (cellTab _ rfl) (by omega) _ rfl ?_) | (refine wpList_get rfl _ _ rfl _ _ rfl hM 0 rfl (rowTab _ _ rfl) (by omega) ?_) | (go_at_call 103; refine (hgr _).mono ?_; rintro e W' ⟨rfl, hb'⟩; have hM' := hM.call hb'; clear hM hb'; have hM := hM'; clear hM') | (go_at_call 104; refine (hhr _).mono ?_; rintro e W' ⟨rfl, hb'⟩; have hM' := hM.call hb'; clear hM hb'; have hM := hM'; clear hM') | (refine wpList_gget1 ?_ _ _ rfl _ _ rfl hM 0 rfl (cellTab _ rfl) (by omega) _ rfl ?_; kernel_rfl) | (refine wpList_gget ?_ _ _ rfl _ _ rfl hM 0 rfl (rowTab _ _ rfl) (by omega) ?_; kernel_rfl))
    go_ret
    exact ⟨ret_bool hf.out.symm, hM.below⟩
end Go.Proofs.YtcdpdcjdjcbhcaaDoor

/-
  impl.codeOf by contract; what checkCells hands back.
-/
namespace Go.Proofs.YtcdpdcjdjcbhcaaDoor
open Go Go.RowKit Go.BigFrame

/-- The code of the k-th error. -/
def codeK (k : Nat) : Int :=
  match k with
  | 0 => 1
  | _ => 2

end Go.Proofs.YtcdpdcjdjcbhcaaDoor

/-
  impl.checkCells by contracts.
-/
namespace Go.Proofs.YtcdpdcjdjcbhcaaDoor
open Go Go.RowKit Go.BigFrame

theorem spot_info : (Tryd.prog.info? 82).map (fun i => (i.size, i.zero)) = some (2, some (.agg (arr 2 fun _ => .int .i8 0))) := by kernel_rfl
/-- Spots one behind the other. -/
def sps (s : Nat → Int × Int) : Nat → Value := fun k => .int .i8 (if k % 2 = 0 then (s (k / 2)).1 else (s (k / 2)).2)
theorem sp_sps (x y : Int) : ∀ k, k < 2 → sp x y k = sps (fun _ => (x, y)) k := fun k hk => by
  rcases (show k = 0 ∨ k = 1 by omega) with rfl | rfl <;> rfl
theorem sp_sps0 (x y : Int) : ∀ k, k < 2 → sp x y (0 + k) = sps (fun _ => (x, y)) k := fun k hk => by
  rw [Nat.zero_add]; exact sp_sps x y k hk
/-- The first n of them are all cells. -/
def allB (g : Nat → Int) (s : Nat → Int × Int) (n : Nat) : Bool := (List.range n).all fun i => isB g (s i).1 (s i).2
theorem allB_zero (g : Nat → Int) (s : Nat → Int × Int) : allB g s 0 = true := rfl
theorem allB_one (g : Nat → Int) (s : Nat → Int × Int) : allB g s 1 = isB g (s 0).1 (s 0).2 := by simp [allB, List.range_succ]
theorem allB_no {g : Nat → Int} {s : Nat → Int × Int} {n i : Nat} (hi : i < n) (h : isB g (s i).1 (s i).2 = false) : allB g s n = false := by
  unfold allB; rw [List.all_eq_false]; exact ⟨i, by simpa using hi, by rw [h]; decide⟩
theorem allB_yes {g : Nat → Int} {s : Nat → Int × Int} {n : Nat} (h : ∀ i, i < n → isB g (s i).1 (s i).2 = true) : allB g s n = true := by
  unfold allB; rw [List.all_eq_true]; intro i hi; exact h i (by simpa using hi)

/-- What checkCells answers of a valid pasture. -/
def chkS (a : Nat → Addr) (g : Nat → Int) (s : Nat → Int × Int) (n : Nat) : Value := if allB g s n then .nilIface else errV (a 1)
theorem chkS_yes {a : Nat → Addr} {g : Nat → Int} {s : Nat → Int × Int} {n : Nat} (h : allB g s n = true) : chkS a g s n = .nilIface := by simp [chkS, h]
theorem chkS_no {a : Nat → Addr} {g : Nat → Int} {s : Nat → Int × Int} {n : Nat} (h : allB g s n = false) : chkS a g s n = errV (a 1) := by simp [chkS, h]
theorem ret_v {a b : Value} (h : a = b) : Ending.returned a = .returned b := by rw [h]

theorem sps_fst (s : Nat → Int × Int) (k : Nat) : sps s (k * 2 + 0) = .int .i8 (s k).1 := by
  simp [sps]
theorem sps_snd (s : Nat → Int × Int) (k : Nat) : sps s (k * 2 + 1) = .int .i8 (s k).2 := by
  have : (k * 2 + 1) / 2 = k := by omega
  simp [sps, this]

theorem lay_sp0 (z : Nat → Value) (s : Nat → Int × Int) (k : Nat) : lay z 0 2 (fun j => sps s (k * 2 + j)) 0 = .int .i8 (s k).1 := by
  simpa [lay] using sps_fst s k
theorem lay_sp1 (z : Nat → Value) (s : Nat → Int × Int) (k : Nat) : lay z 0 2 (fun j => sps s (k * 2 + j)) 1 = .int .i8 (s k).2 := by
  simpa [lay] using sps_snd s k

end Go.Proofs.YtcdpdcjdjcbhcaaDoor

/-
  An error is not nil.
-/
namespace Go.Proofs.YtcdpdcjdjcbhcaaDoor
open Go Go.RowKit Go.BigFrame
@[go_sem] theorem guard_err (x : Operand) (a : Addr) (W : World) : (eqGuard .neq 127 x (.const .nilIface) (errV a) .nilIface).run Tryd.prog W = .ok () W := by
  unfold errV; go_simp
@[go_sem] theorem neq_err (a : Addr) (W : World) : (binOp .neq 127 (errV a) .nilIface).run Tryd.prog W = .ok (.bool true) W := by
  unfold errV; go_simp
end Go.Proofs.YtcdpdcjdjcbhcaaDoor

/-
  laws.toInt16A10, toInt16A10A10, toUint16A10, toPasture: each hands back what it is handed.
-/
namespace Go.Proofs.YtcdpdcjdjcbhcaaDoor
open Go Go.RowKit Go.BigFrame

set_option maxHeartbeats 400000 in
theorem toInt16A10_any (f : Nat → Value) (h1 : ∀ k, (f k).oneCell' = true) (w : World) :
    Calls Tryd.prog 102 #[.agg (arr 10 f)] w fun e w' => e = .returned (.agg (arr 10 f)) ∧ Below w.heap.size w w' := by
  have hM := Mem.nil w
  have tk_b1 : True := trivial; have tk_b2 : True := trivial; have tk_b3 : True := trivial
  go_enter Tryd.func102, Tryd.ntmps102
  go_wp2_with (first | (have _t := tk_b1; refine wpList_box rfl _ _ rfl _ _ rfl hM ?_; intro b1 W' hb1 hM'; clear hM tk_b1; have hM := hM'; clear hM') | (have _t := tk_b2; refine wpList_zero rfl _ rfl (zeroTab _ _ _ rfl) hM ?_; intro b2 W' hb2 hM'; clear hM tk_b2; have hM := hM'; clear hM') | (have _t := tk_b3; refine wpList_zero rfl _ rfl (zeroTab _ _ _ rfl) hM ?_; intro b3 W' hb3 hM'; clear hM tk_b3; have hM := hM'; clear hM'))
  go_loopw [4] (fun i wr => ∃ k : Nat, k ≤ 10 ∧ i = .int .i64 k ∧ ∃ g, (∀ j, j < k → g j = f j) ∧ Mem w [(b3, 10, g), (b2, 10, fun _ => .int .i16 0), (b1, 10, f)] wr) (fun i _ => 10 - (intOf i).toNat)
  case atStart => exact ⟨0, by omega, rfl, _, fun j hj => absurd hj (by omega), hM⟩
  case round =>
    obtain ⟨k, hk, rfl, g, hg, hM⟩ := hrel
    by_cases hlt : k < 10
    · go_wp2_with (first | (refine wpList_get1 rfl _ _ rfl _ _ rfl hM 2 rfl (cellTab _ rfl) (by omega) _ rfl ?_) | (refine wpList_set1 rfl _ _ _ rfl _ _ rfl _ rfl ?_ hM 0 rfl (by assumption) (cellTab _ rfl) (by omega) ?_; (first | rfl | exact h1 _); intro W' hM'; clear hM; have hM := hM'; clear hM'; simp [List.set, Act.eval] at hM))
      go_roundw
      case rel => exact ⟨k + 1, by omega, by go_num, _, fun j hj => by
        by_cases e : j = k
        · subst e; simp [upd]
        · simp [upd, e, hg j (by omega)], hM⟩
      case measure => simp [intOf]; omega
    · obtain rfl : k = 10 := by omega
      have hM := hM.re 0 rfl f hg
      clear hg
      simp only [List.set] at hM
      go_wp2_with (first | (refine wpList_get rfl _ _ rfl _ _ rfl hM 0 rfl (rowTab _ _ rfl) (by omega) ?_) | (refine wpList_lay rfl _ _ _ rfl _ _ rfl _ _ rfl hM 1 rfl (by assumption) (rowTab _ _ rfl) (by omega) ?_ ?_; (first | (intro _ _; rfl) | (intro k _; exact h1 _) | (intro k _; simp only [lay, upd]; (repeat' split) <;> first | exact h1 _ | rfl)); intro W' hM'; clear hM; have hM := hM'; clear hM'; simp only [List.set] at hM))
      have hA := (hM.ats 1 _ _ _ rfl).congr (g := f) (fun k hk => by simp [lay, hk])
      exact bodyPost_ret (results_at rfl _ rfl hA (rowTab _ _ rfl)) rfl ⟨rfl, hM.below⟩
set_option maxHeartbeats 400000 in
theorem toUint16A10_any (f : Nat → Value) (h1 : ∀ k, (f k).oneCell' = true) (w : World) :
    Calls Tryd.prog 67 #[.agg (arr 10 f)] w fun e w' => e = .returned (.agg (arr 10 f)) ∧ Below w.heap.size w w' := by
  have hM := Mem.nil w
  have tk_b1 : True := trivial; have tk_b2 : True := trivial; have tk_b3 : True := trivial
  go_enter Tryd.func67, Tryd.ntmps67
  go_wp2_with (first | (have _t := tk_b1; refine wpList_box rfl _ _ rfl _ _ rfl hM ?_; intro b1 W' hb1 hM'; clear hM tk_b1; have hM := hM'; clear hM') | (have _t := tk_b2; refine wpList_zero rfl _ rfl (zeroTab _ _ _ rfl) hM ?_; intro b2 W' hb2 hM'; clear hM tk_b2; have hM := hM'; clear hM') | (have _t := tk_b3; refine wpList_zero rfl _ rfl (zeroTab _ _ _ rfl) hM ?_; intro b3 W' hb3 hM'; clear hM tk_b3; have hM := hM'; clear hM'))
  go_loopw [4] (fun i wr => ∃ k : Nat, k ≤ 10 ∧ i = .int .i64 k ∧ ∃ g, (∀ j, j < k → g j = f j) ∧ Mem w [(b3, 10, g), (b2, 10, fun _ => .int .u16 0), (b1, 10, f)] wr) (fun i _ => 10 - (intOf i).toNat)
  case atStart => exact ⟨0, by omega, rfl, _, fun j hj => absurd hj (by omega), hM⟩
  case round =>
    obtain ⟨k, hk, rfl, g, hg, hM⟩ := hrel
    by_cases hlt : k < 10
    · go_wp2_with (first | (refine wpList_get1 rfl _ _ rfl _ _ rfl hM 2 rfl (cellTab _ rfl) (by omega) _ rfl ?_) | (refine wpList_set1 rfl _ _ _ rfl _ _ rfl _ rfl ?_ hM 0 rfl (by assumption) (cellTab _ rfl) (by omega) ?_; (first | rfl | exact h1 _); intro W' hM'; clear hM; have hM := hM'; clear hM'; simp [List.set, Act.eval] at hM))
      go_roundw
      case rel => exact ⟨k + 1, by omega, by go_num, _, fun j hj => by
        by_cases e : j = k
        · subst e; simp [upd]
        · simp [upd, e, hg j (by omega)], hM⟩
      case measure => simp [intOf]; omega
    · obtain rfl : k = 10 := by omega
      have hM := hM.re 0 rfl f hg
      clear hg
      simp only [List.set] at hM
      go_wp2_with (first | (refine wpList_get rfl _ _ rfl _ _ rfl hM 0 rfl (rowTab _ _ rfl) (by omega) ?_) | (refine wpList_lay rfl _ _ _ rfl _ _ rfl _ _ rfl hM 1 rfl (by assumption) (rowTab _ _ rfl) (by omega) ?_ ?_; (first | (intro _ _; rfl) | (intro k _; exact h1 _) | (intro k _; simp only [lay, upd]; (repeat' split) <;> first | exact h1 _ | rfl)); intro W' hM'; clear hM; have hM := hM'; clear hM'; simp only [List.set] at hM))
      have hA := (hM.ats 1 _ _ _ rfl).congr (g := f) (fun k hk => by simp [lay, hk])
      exact bodyPost_ret (results_at rfl _ rfl hA (rowTab _ _ rfl)) rfl ⟨rfl, hM.below⟩
set_option maxHeartbeats 400000 in
theorem toInt16A10A10_any (f : Nat → Value) (h1 : ∀ k, (f k).oneCell' = true) (w : World) :
    Calls Tryd.prog 66 #[.agg (arr 100 f)] w fun e w' => e = .returned (.agg (arr 100 f)) ∧ Below w.heap.size w w' := by
  have hM := Mem.nil w
  have tk_b1 : True := trivial; have tk_b2 : True := trivial; have tk_b3 : True := trivial
  go_enter Tryd.func66, Tryd.ntmps66
  go_wp2_with (first | (have _t := tk_b1; refine wpList_box rfl _ _ rfl _ _ rfl hM ?_; intro b1 W' hb1 hM'; clear hM tk_b1; have hM := hM'; clear hM') | (have _t := tk_b2; refine wpList_zero rfl _ rfl (zeroTab _ _ _ rfl) hM ?_; intro b2 W' hb2 hM'; clear hM tk_b2; have hM := hM'; clear hM') | (have _t := tk_b3; refine wpList_zero rfl _ rfl (zeroTab _ _ _ rfl) hM ?_; intro b3 W' hb3 hM'; clear hM tk_b3; have hM := hM'; clear hM'))
  go_loopw [4] (fun i wr => ∃ k : Nat, k ≤ 10 ∧ i = .int .i64 k ∧ ∃ g, (∀ j, j < k * 10 → g j = f j) ∧ Mem w [(b3, 100, g), (b2, 100, fun _ => .int .i16 0), (b1, 100, f)] wr) (fun i _ => 10 - (intOf i).toNat)
  case atStart => exact ⟨0, by omega, rfl, _, fun j hj => absurd hj (by omega), hM⟩
  case round =>
    obtain ⟨k, hk, rfl, g, hg, hM⟩ := hrel
    by_cases hlt : k < 10
    · go_wp2_with (first | (refine wpList_get rfl _ _ rfl _ _ rfl hM 2 rfl (rowTab _ _ rfl) (by omega) ?_) | (go_at_call 102; refine (toInt16A10_any _ (fun _ => h1 _) _).mono ?_; rintro e W' ⟨rfl, hb'⟩; have hM' := hM.call hb'; clear hM hb'; have hM := hM'; clear hM') | (refine wpList_lay rfl _ _ _ rfl _ _ rfl _ _ rfl hM 0 rfl (by assumption) (rowTab _ _ rfl) (by omega) ?_ ?_; (first | (intro _ _; rfl) | (intro k _; exact h1 _) | (intro k _; simp only [lay, upd]; (repeat' split) <;> first | exact h1 _ | rfl)); intro W' hM'; clear hM; have hM := hM'; clear hM'; simp only [List.set] at hM))
      go_roundw
      case rel => exact ⟨k + 1, by omega, by go_num, _, fun j hj => by
        by_cases e : k * 10 ≤ j
        · have : j - k * 10 < 10 := by omega
          have e2 : k * 10 + (j - k * 10) = j := by omega
          have e3 : j < k * 10 + 10 := by omega
          simp [lay, e, e2, e3]
        · simp [lay, e, hg j (by omega)], hM⟩
      case measure => simp [intOf]; omega
    · obtain rfl : k = 10 := by omega
      have hM := hM.re 0 rfl f hg
      clear hg
      simp only [List.set] at hM
      go_wp2_with (first | (refine wpList_get rfl _ _ rfl _ _ rfl hM 0 rfl (rowTab _ _ rfl) (by omega) ?_) | (refine wpList_lay rfl _ _ _ rfl _ _ rfl _ _ rfl hM 1 rfl (by assumption) (rowTab _ _ rfl) (by omega) ?_ ?_; (first | (intro _ _; rfl) | (intro k _; exact h1 _) | (intro k _; simp only [lay, upd]; (repeat' split) <;> first | exact h1 _ | rfl)); intro W' hM'; clear hM; have hM := hM'; clear hM'; simp only [List.set] at hM))
      have hA := (hM.ats 1 _ _ _ rfl).congr (g := f) (fun k hk => by simp [lay, hk])
      exact bodyPost_ret (results_at rfl _ rfl hA (rowTab _ _ rfl)) rfl ⟨rfl, hM.below⟩
set_option maxHeartbeats 400000 in
theorem toPasture_any (f : Nat → Value) (h1 : ∀ k, (f k).oneCell' = true) (w : World) :
    Calls Tryd.prog 29 #[.agg (arr 122 f)] w fun e w' => e = .returned (.agg (arr 122 f)) ∧ Below w.heap.size w w' := by
  have hM := Mem.nil w
  have tk_b1 : True := trivial; have tk_b2 : True := trivial; have tk_b3 : True := trivial
  go_enter Tryd.func29, Tryd.ntmps29
  go_wp2_with (first | (have _t := tk_b1; refine wpList_box rfl _ _ rfl _ _ rfl hM ?_; intro b1 W' hb1 hM'; clear hM tk_b1; have hM := hM'; clear hM') | (have _t := tk_b2; refine wpList_zero rfl _ rfl (zeroTab _ _ _ rfl) hM ?_; intro b2 W' hb2 hM'; clear hM tk_b2; have hM := hM'; clear hM') | (have _t := tk_b3; refine wpList_zero rfl _ rfl (zeroTab _ _ _ rfl) hM ?_; intro b3 W' hb3 hM'; clear hM tk_b3; have hM := hM'; clear hM') | (refine wpList_get1 rfl _ _ rfl _ _ rfl hM 2 rfl (cellTab _ rfl) (by omega) _ rfl ?_) | (refine wpList_set1 rfl _ _ _ rfl _ _ rfl _ rfl ?_ hM 0 rfl (by assumption) (cellTab _ rfl) (by omega) ?_; (first | rfl | exact h1 _); intro W' hM'; clear hM; have hM := hM'; clear hM'; simp [List.set, Act.eval] at hM) | (refine wpList_get rfl _ _ rfl _ _ rfl hM 2 rfl (rowTab _ _ rfl) (by omega) ?_) | (go_at_call 66; refine (toInt16A10A10_any _ (fun _ => h1 _) _).mono ?_; rintro e W' ⟨rfl, hb'⟩; have hM' := hM.call hb'; clear hM hb'; have hM := hM'; clear hM') | (go_at_call 67; refine (toUint16A10_any _ (fun _ => h1 _) _).mono ?_; rintro e W' ⟨rfl, hb'⟩; have hM' := hM.call hb'; clear hM hb'; have hM := hM'; clear hM') | (refine wpList_lay rfl _ _ _ rfl _ _ rfl _ _ rfl hM 0 rfl (by assumption) (rowTab _ _ rfl) (by omega) ?_ ?_; (first | (intro _ _; rfl) | (intro k _; exact h1 _) | (intro k _; simp only [lay, upd]; (repeat' split) <;> first | exact h1 _ | rfl)); intro W' hM'; clear hM; have hM := hM'; clear hM'; simp only [List.set] at hM) | (refine wpList_get rfl _ _ rfl _ _ rfl hM 0 rfl (rowTab _ _ rfl) (by omega) ?_) | (refine wpList_lay rfl _ _ _ rfl _ _ rfl _ _ rfl hM 1 rfl (by assumption) (rowTab _ _ rfl) (by omega) ?_ ?_; (first | (intro _ _; rfl) | (intro k _; exact h1 _) | (intro k _; simp only [lay, upd]; (repeat' split) <;> first | exact h1 _ | rfl)); intro W' hM'; clear hM; have hM := hM'; clear hM'; simp only [List.set] at hM))
  have hA := (hM.ats 1 _ _ _ rfl).congr (g := f) (fun k hk => by
    simp only [lay, upd]
    (repeat' split) <;> first | (congr 1; omega) | (exfalso; omega))
  exact bodyPost_ret (results_at rfl _ rfl hA (rowTab _ _ rfl)) rfl ⟨rfl, hM.below⟩
theorem toPasture_pas (g : Nat → Int) (w : World) :
    Calls Tryd.prog 29 #[.agg (arr 122 (pas g))] w fun e w' => e = .returned (.agg (arr 122 (pas g))) ∧ Below w.heap.size w w' := toPasture_any _ (fun _ => rfl) w
end Go.Proofs.YtcdpdcjdjcbhcaaDoor

/-
  laws.eqInt16A10, eqInt16A10A10, eqUint16A10, eqPasture: true of what is equal.
-/
namespace Go.Proofs.YtcdpdcjdjcbhcaaDoor
open Go Go.RowKit Go.BigFrame

end Go.Proofs.YtcdpdcjdjcbhcaaDoor

/-
  The document's 'valid' both ways: row by row over all 100 places, or cell by cell over the pasture's own and nothing behind them.
-/
namespace Go.Proofs.YtcdpdcjdjcbhcaaDoor
open Go Go.RowKit

theorem isB_iff {g : Nat → Int} {W H x y : Nat} (hg0 : g 0 = W) (hg1 : g 1 = H) : isB g x y = true ↔ x < W ∧ y < H := by
  simp only [isB, inB, Bool.and_eq_true, decide_eq_true_eq, hg0, hg1]; omega
theorem upto_mem {W H x y : Nat} (h : (x, y) ∈ upto W (W * H)) : x < W ∧ y < H := by
  unfold upto at h
  obtain ⟨i, hi, e⟩ := List.mem_map.1 h
  have hi := List.mem_range.1 hi
  unfold cellAt at e
  have e1 : i % W = x := congrArg Prod.fst e
  have e2 : i / W = y := congrArg Prod.snd e
  have hW : 0 < W := by
    cases W with
    | zero => simp at hi
    | succ n => omega
  exact ⟨by rw [← e1]; exact Nat.mod_lt _ hW, by rw [← e2]; exact Nat.div_lt_of_lt_mul hi⟩

theorem cellOk_iff {g : Nat → Int} {W H x y : Nat} (hg0 : g 0 = W) (hg1 : g 1 = H) : cellOk g y x = true ↔ (0 ≤ g (2 + (y * 10 + x)) ∧ g (2 + (y * 10 + x)) ≤ 1000) ∧ (g (2 + (y * 10 + x)) = 0 ∨ (x < W ∧ y < H)) := by
  have e : 2 + y * 10 + x = 2 + (y * 10 + x) := by omega
  unfold cellOk
  rw [e, Bool.and_eq_true, Bool.or_eq_true, isB_iff hg0 hg1]
  simp only [inB, decide_eq_true_eq]
  omega

theorem cells_grass {g : Nat → Int} {W H : Nat} (hg0 : g 0 = W) (hg1 : g 1 = H) (hW : W ≤ 10) (hH : H ≤ 10) :
    (∀ y, y < 10 → ∀ x, x < 10 → cellOk g y x = true) ↔ grassB g W H = true := by
  unfold grassB
  rw [Bool.and_eq_true, List.all_eq_true, eqTo_iff]
  constructor
  · intro h
    refine ⟨fun s hs => ?_, fun k hk => ?_⟩
    · obtain ⟨x, y⟩ := s
      obtain ⟨hx, hy⟩ := upto_mem hs
      exact inB_yes ((cellOk_iff hg0 hg1).1 (h y (by omega) x (by omega))).1
    · have hx : k % 10 < 10 := Nat.mod_lt _ (by omega)
      have ek : k / 10 * 10 + k % 10 = k := by omega
      have hr := restAt_of (g := g) (l := upto W (W * H)) (x := k % 10) (y := k / 10) hx
      rw [ek] at hr
      rw [hr]
      split
      · rfl
      · rename_i hn
        have hc := ((cellOk_iff hg0 hg1).1 (h (k / 10) (by omega) (k % 10) hx)).2
        rw [ek] at hc
        rcases hc with hc | hc
        · exact hc
        · exact absurd (mem_upto hc.1 hc.2) hn
  · rintro ⟨h1, h2⟩ y hy x hx
    rw [cellOk_iff hg0 hg1]
    by_cases hin : x < W ∧ y < H
    · have := inB_true (h1 _ (mem_upto hin.1 hin.2))
      exact ⟨this, .inr hin⟩
    · have hr := h2 (y * 10 + x) (by omega)
      rw [restAt_of hx, if_neg (fun hm => hin (upto_mem hm))] at hr
      exact ⟨by omega, .inl hr⟩

theorem okB_eq (g : Nat → Int) : okB g = validB g := by
  unfold okB validB
  cases b0 : inB 1 10 (g 0)
  · rfl
  cases b1 : inB 1 10 (g 1)
  · rfl
  have h0 := inB_true b0
  have h1 := inB_true b1
  have hg0 : g 0 = ((g 0).toNat : Int) := by omega
  have hg1 : g 1 = ((g 1).toNat : Int) := by omega
  have key := cells_grass hg0 hg1 (by omega) (by omega)
  simp only [Bool.true_and]
  rw [Bool.eq_iff_iff, Bool.and_eq_true, ← key, List.all_eq_true]
  unfold hurB
  rw [List.all_eq_true]
  constructor
  · intro h
    have h' : ∀ y, y < 10 → (∀ x, x < 10 → cellOk g y x = true) ∧ badE g y = false ∧ badS g y = false := fun y hy => by
      have hr := h y (List.mem_range.2 hy)
      unfold rowOk at hr
      rw [Bool.and_eq_true, Bool.and_eq_true, List.all_eq_true] at hr
      exact ⟨fun x hx => hr.1.1 x (List.mem_range.2 hx), by simpa using hr.1.2, by simpa using hr.2⟩
    exact ⟨fun y hy => (h' y hy).1, fun y hy => by have := h' y (List.mem_range.1 hy); simp [this.2.1, this.2.2]⟩
  · rintro ⟨h1, h2⟩ y hy
    have hy' := List.mem_range.1 hy
    have h3 := h2 y hy
    rw [Bool.and_eq_true] at h3
    unfold rowOk
    rw [Bool.and_eq_true, Bool.and_eq_true, List.all_eq_true]
    exact ⟨⟨fun x hx => h1 y hy' x (List.mem_range.1 hx), h3.1⟩, h3.2⟩
end Go.Proofs.YtcdpdcjdjcbhcaaDoor

/-
  spec.l01Asked, laws.toSpot, (impl.Pasture).grassAt by contracts.
-/
namespace Go.Proofs.YtcdpdcjdjcbhcaaDoor
open Go Go.RowKit Go.BigFrame

/-- The code of a pasture and a cell, and whether another thing is as told. -/
def askC (g : Nat → Int) (x y : Int) (fine : Bool) : Int := if okB g then (if isB g x y && fine then 0 else 2) else 1
theorem askC_bad {g : Nat → Int} {x y : Int} {f : Bool} (h : okB g = false) : askC g x y f = 1 := by simp [askC, h]
theorem askC_out {g : Nat → Int} {x y : Int} {f : Bool} (h : okB g = true) (h2 : isB g x y = false) : askC g x y f = 2 := by simp [askC, h, h2]
theorem askC_fine {g : Nat → Int} {x y : Int} (h : okB g = true) (h2 : isB g x y = true) : askC g x y false = 2 := by simp [askC, h, h2]
theorem askC_ok {g : Nat → Int} {x y : Int} (h : okB g = true) (h2 : isB g x y = true) : askC g x y true = 0 := by simp [askC, h, h2]
theorem ret_i {k : IntKind} {a b : Int} (h : a = b) : Ending.returned (.int k a) = .returned (.int k b) := by rw [h]

/-- The place of a cell's grass. -/
def gPlace (x y : Int) : Nat := 2 + y.toNat * 10 + x.toNat

theorem isB_bounds {g : Nat → Int} {x y : Int} (ho : okB g = true) (hi : isB g x y = true) : 0 ≤ x ∧ x < g 0 ∧ g 0 ≤ 10 ∧ 0 ≤ y ∧ y < g 1 ∧ g 1 ≤ 10 := by
  unfold okB at ho
  unfold isB at hi
  rw [Bool.and_eq_true] at ho hi
  rw [Bool.and_eq_true] at ho
  have a1 := inB_true ho.1.1
  have a2 := inB_true ho.1.2
  have a3 := inB_true hi.1
  have a4 := inB_true hi.2
  omega

set_option maxHeartbeats 400000 in
theorem grassAt_any (g : Nat → Int) (hg : Fits g) (x y : Nat) (hx : x < 10) (hy : y < 10) (w : World) :
    Calls Tryd.prog 107 #[.agg (arr 122 (pas g)), .agg (arr 2 (sp x y))] w fun e w' => e = .returned (.int .i64 (g (2 + y * 10 + x))) ∧ Below w.heap.size w w' := by
  have hM := Mem.nil w
  have hr := hg.grass (2 + y * 10 + x) (by omega) (by omega)
  have e0 : pas g (2 + y * 10 + x) = .int .i16 (g (2 + y * 10 + x)) := pas_i16 g (by omega) (by omega)
  have c0 : IntKind.i64.wrap (g (2 + y * 10 + x)) = g (2 + y * 10 + x) := IntWalk.i64_in _ (by omega)
  have lx : (x : Int) < 10 := by omega
  have ly : (y : Int) < 10 := by omega
  have tk_b1 : True := trivial; have tk_b2 : True := trivial
  go_enter Tryd.func107, Tryd.ntmps107
  go_wp2_with (first | (have _t := tk_b1; refine wpList_box rfl _ _ rfl _ _ rfl hM ?_; intro b1 W' hb1 hM'; clear hM tk_b1; have hM := hM'; clear hM') | (have _t := tk_b2; refine wpList_box rfl _ _ rfl _ _ rfl hM ?_; intro b2 W' hb2 hM'; clear hM tk_b2; have hM := hM'; clear hM'))
  ((try simp only [Act.put, List.setIfInBounds_toArray, List.set_cons_succ, List.set_cons_zero]); refine wp_region_mem (by kernel_rfl) (by kernel_rfl) hM ?_; clear hM; (repeat (first | go_big_quiet_skip | (go_big_quiet_want; first | (refine quiet_get1 _ _ rfl _ _ rfl 0 rfl (cellTab _ rfl) (by omega) (.int .i8 (y : Int)) rfl ?_; (simp only [Act.put, List.setIfInBounds_toArray, List.set_cons_succ, List.set_cons_zero]); go_big_quiet_on) | (refine quiet_get1 _ _ rfl _ _ rfl 0 rfl (cellTab _ rfl) (by omega) (.int .i8 (x : Int)) rfl ?_; (simp only [Act.put, List.setIfInBounds_toArray, List.set_cons_succ, List.set_cons_zero]); go_big_quiet_on) | (refine quiet_get1 _ _ rfl _ _ rfl 1 rfl (cellTab _ rfl) (by omega) _ (e0) ?_; (simp only [Act.put, List.setIfInBounds_toArray, List.set_cons_succ, List.set_cons_zero]); go_big_quiet_on) | (refine quiet_val ?_; apply Exists.intro; refine ⟨fun W => ?_, ?_⟩; (go_simp; (try simp only [lx, ly, if_true, Bool.false_eq_true, if_false]); rfl); (simp only [Act.put, List.setIfInBounds_toArray, List.set_cons_succ, List.set_cons_zero]); go_big_quiet_on)))); (with_reducible refine wpQuiet_nil ?_); intro W' hM)
  go_wp2
  go_ret
  exact ⟨rfl, hM.below⟩
theorem askC_cases (g : Nat → Int) (x y : Int) (f : Bool) : (okB g = false ∧ askC g x y f = 1) ∨ (okB g = true ∧ (isB g x y && f) = false ∧ askC g x y f = 2) ∨ (okB g = true ∧ isB g x y = true ∧ f = true ∧ askC g x y f = 0) := by
  cases h1 : okB g <;> cases h2 : isB g x y <;> cases f <;> simp [askC, h1, h2]

end Go.Proofs.YtcdpdcjdjcbhcaaDoor

/-
  PLAIN LAWS: two results, the first in memory.
-/
namespace Go.Proofs.YtcdpdcjdjcbhcaaDoor
open Go Go.RowKit Go.BigFrame

theorem loadVar_at {P : Program} {ty : TypeId} {W : World} {b n : Nat} {f : Nat → Value} (hg : At W b n f) (hT : RowT P ty n) : (loadVar ty ⟨b, 0, none⟩).run P W = .ok (.agg (arr n f)) W := by
  obtain ⟨⟨d, hu, hd⟩, hm⟩ := hT
  obtain ⟨t, hg⟩ := hg
  exact run_loadVar_row W b t ty (arr n f) (0, 0) d hg hu (by cases d <;> simp_all [TypeDesc.isRow]) (by rw [hm, arr_size])
/-- Two results, the first in memory. -/
theorem results_at2 {P : Program} {fn : Func} {p q : Tmp} {ty : TypeId} (h : fn.results = #[.cell p ty, .tmp q]) (tmps : Array Value) {W : World} {b n : Nat} {f : Nat → Value}
    (hp : tmps.getD p undef = .pointer (some ⟨b, 0, none⟩)) (hg : At W b n f) (hT : RowT P ty n) (v : Value) (hq : tmps.getD q undef = v) :
    (results fn tmps).run P W = .ok (.tuple #[.agg (arr n f), v]) W := by
  rw [results_cell_tmp h, hp]
  have : (asAddr (.pointer (some ⟨b, 0, none⟩))).run P W = .ok ⟨b, 0, none⟩ W := rfl
  rw [this]
  simp only [Result.andThen_ok, loadVar_at hg hT, hq]

end Go.Proofs.YtcdpdcjdjcbhcaaDoor

/-
  PLAIN LAWS and contracts where a pasture is handed back: two results, the first in memory; a region that reads first and then stores; a pasture with one cell written.
-/
namespace Go.Proofs.YtcdpdcjdjcbhcaaDoor
open Go Go.RowKit Go.BigFrame

theorem region_tail_mem {P : Program} {Q : Exit → Act → World → Prop} {a : Act} {W : World} {id : Nat} {r : List Oper} (m : Nat) (hm : P.follows .mixedOrders = true) (hB : Region.lexTailB .any r.toArray m = true)
    (h : wpStill P r.toArray W.drew (fun a' => wpList P r.toArray Q (r.drop m) a' W.drew) (r.take m) a) : (Code.region id r.toArray true).wp P Q a W :=
  wp_region_still_tail m hm hB h

/-- A pasture and a code. -/
def pasR (g : Nat → Int) (c : Int) : Value := .tuple #[.agg (arr 122 (pas g)), .int .i64 c]
theorem pasR_eq (g : Nat → Int) (c : Int) : pasR g c = .tuple #[.agg (arr 122 (pas g)), .int .i64 c] := rfl
theorem ret_pas {g g' : Nat → Int} {c c' : Int} (h : arr 122 (pas g) = arr 122 (pas g')) (h' : c = c') : Ending.returned (.tuple #[.agg (arr 122 (pas g)), .int .i64 c]) = .returned (pasR g' c') := by rw [h, h', pasR_eq]
/-- No pasture. -/
def g0 : Nat → Int := fun _ => 0
theorem pas_g0 : zP = pas g0 := rfl
@[go_sem] theorem zero_cells_pas : Tryd.zeroCells59 = arr 122 zP := by kernel_rfl
theorem lay_zP (f : Nat → Value) : ∀ k, k < 122 → lay f 0 122 zP k = pas g0 k := fun k hk => by simp [lay, hk]; rfl
theorem lay_pas (f : Nat → Value) (g : Nat → Int) : ∀ k, k < 122 → lay f 0 122 (pas g) k = pas g k := fun k hk => by simp [lay, hk]
theorem lay_pas0 (f : Nat → Value) (g : Nat → Int) : ∀ k, k < 122 → lay f 0 122 (fun j => pas g (0 + j)) k = pas g k := fun k hk => by simp [lay, hk]
/-- g with n at place k. -/
def setG (g : Nat → Int) (k : Nat) (n : Int) : Nat → Int := fun j => if j = k then n else g j
theorem lay_upd (f : Nat → Value) (g : Nat → Int) (i : Nat) (n : Int) (h : 2 ≤ i) (h' : i < 102) : ∀ k, k < 122 → lay f 0 122 (fun j => upd (pas g) i (.int .i16 n) (0 + j)) k = pas (setG g i n) k := fun k hk => by
  simp only [lay, hk, Nat.zero_le, Nat.zero_add, and_self, if_true, Nat.sub_zero]
  unfold upd pas setG
  by_cases e : k = i
  · subst e; simp [kd_i16 h h']
  · simp [e]
theorem upd_grass (g : Nat → Int) (k : Nat) (n : Int) (h : 2 ≤ k) (h' : k < 102) : upd (pas g) k (.int .i16 n) = pas (setG g k n) := by
  funext j
  unfold upd pas setG
  by_cases e : j = k
  · subst e; simp [kd_i16 h h']
  · simp [e]
end Go.Proofs.YtcdpdcjdjcbhcaaDoor

/-
  spec.l01Side, l01Next, l01Closed by contracts.
-/
namespace Go.Proofs.YtcdpdcjdjcbhcaaDoor
open Go Go.RowKit Go.BigFrame

/-- Bit c of a row. -/
def bitB (row : Int) (c : Nat) : Bool := bits .and .u16 (row / 2 ^ c) 1 == 1
theorem bitB_eq (row : Int) (c : Nat) : (bits .and .u16 (row / 2 ^ c) 1 == 1) = bitB row c := rfl
/-- The row in which a side is kept, and its bit. -/
def sideRow (k : Nat) (y : Int) : Nat := match k with | 0 => 112 + (y - 1).toNat | 2 => 112 + y.toNat | _ => 102 + y.toNat
def sideBit (k : Nat) (x : Int) : Nat := match k with | 3 => (x - 1).toNat | _ => x.toNat
/-- A hurdle on a side that is no wall. -/
def fenceB (g : Nat → Int) (k : Nat) (x y : Int) : Bool := bitB (g (sideRow k y)) (sideBit k x)
/-- Can one not go over a side? -/
def closedB (g : Nat → Int) (k : Nat) (x y : Int) : Bool := !isB g (nxX k x) (nxY k y) || fenceB g k x y
theorem closedB_wall {g : Nat → Int} {k : Nat} {x y : Int} (h : isB g (nxX k x) (nxY k y) = false) : closedB g k x y = true := by simp [closedB, h]
theorem closedB_in {g : Nat → Int} {k : Nat} {x y : Int} (h : isB g (nxX k x) (nxY k y) = true) : closedB g k x y = fenceB g k x y := by simp [closedB, h]

end Go.Proofs.YtcdpdcjdjcbhcaaDoor

