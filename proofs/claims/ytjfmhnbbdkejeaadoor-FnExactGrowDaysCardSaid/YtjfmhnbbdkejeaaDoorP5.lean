/-
  Several texts in one: OkI1, Grass, Mix, Head.
-/
import Derived.Test.YtjfmhnbbdkejeaaDoorP4
import Derived.Test.YtjfmhnbbdkejeaaDoorP2
import Derived.StillTail
import Derived.Deep.Quiet
import Derived.Test.YtjfmhnbbdkejeaaDoorP1
/-
  impl.hasValidHurdles by contract.
-/
namespace Go.Proofs.YtjfmhnbbdkejeaaDoor
open Go Go.RowKit Go.BigFrame

/-- Are bits set only where they may be? -/
def hurB (g : Nat → Int) : Bool := (List.range 10).all fun y => !badE g y && !badS g y
theorem hurB_no {g : Nat → Int} {y : Nat} (hy : y < 10) (h : badE g y = true ∨ badS g y = true) : hurB g = false := by
  unfold hurB; rw [List.all_eq_false]; exact ⟨y, by simpa using hy, by rcases h with h | h <;> simp [h]⟩
theorem hurB_yes {g : Nat → Int} (h : ∀ y, y < 10 → badE g y = false ∧ badS g y = false) : hurB g = true := by
  unfold hurB; rw [List.all_eq_true]; intro y hy; have := h y (by simpa using hy); simp [this.1, this.2]
theorem badE_in' {g : Nat → Int} {k : Nat} (h : (k : Int) < g 1) : badE g k = (bits .andNot .u16 (g (102 + k)) (mask g / 2) != 0) := by simp [badE, h]
theorem badS_in' {g : Nat → Int} {k : Nat} (h : (k : Int) < g 1 - 1) : badS g k = (bits .andNot .u16 (g (112 + k)) (mask g) != 0) := by simp [badS, h]
theorem mask_half {g : Nat → Int} (h : 1 ≤ g 0 ∧ g 0 ≤ 10) : IntKind.u16.wrap (IntKind.u16.wrap (2 ^ ((g 0).toNat - 1)) - 1) = mask g / 2 := by
  unfold mask
  have : g 0 = 1 ∨ g 0 = 2 ∨ g 0 = 3 ∨ g 0 = 4 ∨ g 0 = 5 ∨ g 0 = 6 ∨ g 0 = 7 ∨ g 0 = 8 ∨ g 0 = 9 ∨ g 0 = 10 := by omega
  rcases this with e | e | e | e | e | e | e | e | e | e <;> rw [e] <;> decide
theorem mask_whole (g : Nat → Int) : IntKind.u16.wrap (IntKind.u16.wrap (2 ^ (g 0).toNat) - 1) = mask g := rfl

theorem badE_f {g : Nat → Int} {k : Nat} (h : ((k : Int) < g 1 ∧ bits .andNot .u16 (g (102 + k)) (mask g / 2) = 0) ∨ (g 1 ≤ (k : Int) ∧ bits .andNot .u16 (g (102 + k)) 0 = 0)) : badE g k = false := by
  rcases h with ⟨h, e⟩ | ⟨h, e⟩
  · rw [badE_in' h, e]; rfl
  · rw [badE_out h, e]; rfl
theorem badE_t {g : Nat → Int} {k : Nat} (h : ((k : Int) < g 1 ∧ ¬ bits .andNot .u16 (g (102 + k)) (mask g / 2) = 0) ∨ (g 1 ≤ (k : Int) ∧ ¬ bits .andNot .u16 (g (102 + k)) 0 = 0)) : badE g k = true := by
  rcases h with ⟨h, e⟩ | ⟨h, e⟩
  · rw [badE_in' h]; simpa using e
  · rw [badE_out h]; simpa using e

def HurIn (w : World) (g : Nat → Int) (b1 : Nat) (x : Value) (wr : World) : Prop := ∃ k : Nat, k ≤ 10 ∧ x = .int .i8 k ∧ (∀ i, i < k → badE g i = false ∧ badS g i = false) ∧ Mem w [(b1, 122, pas g)] wr
theorem HurIn.step {w : World} {g : Nat → Int} {b1 k : Nat} {W : World} (hk : k < 10) (h : ∀ i, i < k → badE g i = false ∧ badS g i = false) (hE : badE g k = false) (hS : badS g k = false) (hM : Mem w [(b1, 122, pas g)] W) : HurIn w g b1 (.int .i8 ((k : Int) + 1)) W :=
  ⟨k + 1, by omega, by go_num, fun i hi => by
    by_cases e : i = k
    · rw [e]; exact ⟨hE, hS⟩
    · exact h i (by omega), hM⟩

set_option maxRecDepth 100000 in
set_option maxHeartbeats 2000000 in
theorem hasValidHurdles_any (g : Nat → Int) (hg : Fits g) (h0 : 1 ≤ g 0 ∧ g 0 ≤ 10) (h1 : 1 ≤ g 1 ∧ g 1 ≤ 10) (w : World) :
    Calls Tryd.prog 120 #[.agg (arr 122 (pas g))] w fun e w' => e = .returned (.bool (hurB g)) ∧ Below w.heap.size w w' := by
  have hM := Mem.nil w
  obtain ⟨hw, hh, hgr, hbt⟩ := hg
  have Hbt := Lib.hid hbt
  clear hgr hbt
  have e0 : pas g 0 = .int .i8 (g 0) := rfl
  have e1 : pas g 1 = .int .i8 (g 1) := rfl
  have m1 := mask_half h0
  have m2 := mask_whole g
  have tk_b1 : True := trivial
  go_enter Tryd.func120, Tryd.ntmps120
  go_wp2_with (first | (have _t := tk_b1; refine wpList_box rfl _ _ rfl _ _ rfl hM ?_; intro b1 W' hb1 hM'; clear hM tk_b1; have hM := hM'; clear hM'))
  go_loopw [6] (fun y wr => HurIn w g b1 y wr) (fun y _ => 10 - (intOf y).toNat)
  case atStart => exact ⟨0, by omega, rfl, fun i hi => absurd hi (by omega), hM⟩
  case round =>
    clear hM
    obtain ⟨k, hk, rfl, hrows0, hM⟩ := hrel
    have hrows := Lib.hid hrows0
    clear hrows0
    by_cases hlt : k < 10
    · have hkd : decide ((k : Int) < 10) = true := decide_eq_true (by omega)
      have eE : pas g (102 + k) = .int .u16 (g (102 + k)) := pas_u16 g (by omega)
      have eS : pas g (112 + k) = .int .u16 (g (112 + k)) := pas_u16 g (by omega)
      have hE := Hbt.out (102 + k) (by omega) (by omega)
      have hS := Hbt.out (112 + k) (by omega) (by omega)
      go_wp2_with (first | (refine wpList_get1 rfl _ _ rfl _ _ rfl hM 0 rfl (cellTab _ rfl) (by omega) _ rfl ?_) | (refine wpList_gget1 ?_ _ _ rfl _ _ rfl hM 0 rfl (cellTab _ rfl) (by omega) _ rfl ?_; kernel_rfl))
      all_goals first
        | (go_ret; exact ⟨ret_bool (hurB_no hlt (.inr (by first | (rw [badS_in' (by assumption)]; assumption) | (rw [badS_out (by assumption)]; assumption)))).symm, hM.below⟩)
        | (go_ret; exact ⟨ret_bool (hurB_no hlt (.inl (badE_t (by first | exact .inl ⟨by assumption, by assumption⟩ | exact .inr ⟨by assumption, by assumption⟩)))).symm, hM.below⟩)
        | skip
      all_goals
        have fE : badE g k = false := badE_f (by first | exact .inl ⟨by assumption, by assumption⟩ | exact .inr ⟨by assumption, by assumption⟩)
        have fS : badS g k = false := by first | (rw [badS_in' (by assumption)]; assumption) | (rw [badS_out (by assumption)]; assumption)
        go_roundw
        case rel => first | exact HurIn.step hlt hrows.out fE fS hM | ((repeat apply Exists.intro); exact ⟨HurIn.step hlt hrows.out fE fS hM, rfl⟩)
        case measure => simp [intOf]; omega
    · obtain rfl : k = 10 := by omega
      have hf : Hid (hurB g = true) := Lib.hid (hurB_yes hrows.out)
      go_wp2
      go_ret
      exact ⟨ret_bool hf.out.symm, hM.below⟩
end Go.Proofs.YtjfmhnbbdkejeaaDoor

/-
  impl.hasValidGrass by contract.
-/
namespace Go.Proofs.YtjfmhnbbdkejeaaDoor
open Go Go.RowKit Go.Shelf Go.BigFrame

/-- What is left of the grass when some cells have come. -/
def restAt (g : Nat → Int) (l : List (Nat × Nat)) (k : Nat) : Int := if (k % 10, k / 10) ∈ l then 0 else g (2 + k)
def restV (g : Nat → Int) (l : List (Nat × Nat)) : Nat → Value := fun k => .int .i16 (restAt g l k)
/-- Is a cell's grass as it may be? -/
def fineAt (g : Nat → Int) (s : Nat × Nat) : Bool := inB 0 1000 (g (2 + (s.2 * 10 + s.1)))
def grassB (g : Nat → Int) (W H : Nat) : Bool := (upto W (W * H)).all (fineAt g) && eqTo 100 (restAt g (upto W (W * H))) (fun _ => 0)

theorem mem_upto {W H x y : Nat} (hx : x < W) (hy : y < H) : (x, y) ∈ upto W (W * H) := by
  unfold upto
  refine List.mem_map.2 ⟨y * W + x, ?_, cellAt_row hx⟩
  have := Nat.mul_le_mul_right W (show y + 1 ≤ H by omega)
  rw [Nat.add_mul, Nat.one_mul, Nat.mul_comm H W] at this
  exact List.mem_range.2 (by omega)
theorem restAt_of {g : Nat → Int} {l : List (Nat × Nat)} {x y : Nat} (hx : x < 10) : restAt g l (y * 10 + x) = if (x, y) ∈ l then 0 else g (2 + (y * 10 + x)) := by
  have e1 : (y * 10 + x) % 10 = x := by omega
  have e2 : (y * 10 + x) / 10 = y := by omega
  simp only [restAt, e1, e2]
theorem restAt_upd {g : Nat → Int} {l : List (Nat × Nat)} {x y k : Nat} (hx : x < 10) : upd (restV g l) (y * 10 + x) (.int .i16 0) k = restV g (l ++ [(x, y)]) k := by
  unfold upd restV restAt
  by_cases e : k = y * 10 + x
  · have e1 : (y * 10 + x) % 10 = x := by omega
    have e2 : (y * 10 + x) / 10 = y := by omega
    simp [e, e1, e2]
  · have : (k % 10, k / 10) ≠ (x, y) := fun h => by
      have h1 : k % 10 = x := congrArg Prod.fst h
      have h2 : k / 10 = y := congrArg Prod.snd h
      omega
    simp [e, this]

def GrassIn {W H : Nat} (w : World) (g : Nat → Int) (b1 b2 b3 bp : Nat) (pre : List (Cell W H)) (X : World) : Prop :=
  (∀ s ∈ pre, fineAt g s.1 = true) ∧ Mem w [(b3, 100, restV g (pre.map (·.1))), (b2, 1, fun _ => .bool false), (b1, 122, pas g), (bp, 122, pas g)] X
def GrassOut {W H : Nat} (w : World) (g : Nat → Int) (b2 : Nat) (c : Code) (_ : List (Cell W H)) (X : World) : Prop :=
  c = .ret ∧ grassB g W H = false ∧ Mem w [(b2, 1, fun _ => .bool false)] X
theorem grassIn_own {W H : Nat} (w : World) (g : Nat → Int) (b1 b2 b3 bp B : Nat) (hB : w.heap.size ≤ B) : OwnFrom B (GrassIn (W := W) (H := H) w g b1 b2 b3 bp) := fun _ X Y row hs hg hr =>
  ⟨hs.1, mem_ownFrom hB (fun _ : Unit => _) () X Y row hs.2 hg hr⟩
theorem grassOut_own {W H : Nat} (w : World) (g : Nat → Int) (b2 B : Nat) (hB : w.heap.size ≤ B) (c : Code) : OwnFrom B (GrassOut (W := W) (H := H) w g b2 c) := fun _ X Y row hs hg hr =>
  ⟨hs.1, hs.2.1, mem_ownFrom hB (fun _ : Unit => _) () X Y row hs.2.2 hg hr⟩

/-- The temporaries as the loop finds them. -/
def grassT (g : Nat → Int) (b1 b2 b3 bp : Nat) : Array Value :=
  #[.agg (arr 122 (pas g)), .pointer (some ⟨b1, 0, none⟩), .pointer (some ⟨b2, 0, none⟩), .pointer (some ⟨b3, 0, none⟩), undef, .pointer (some ⟨b1, 2, none⟩), .agg (arr 100 fun k => pas g (2 + k)), .agg (arr 122 fun k => pas g k), .func (.func 104) #[] #[.pointer (some ⟨bp, 0, none⟩)], undef, undef, undef, undef, undef, undef, undef, undef, undef, undef, undef, undef, undef, undef, undef, undef, undef, undef, undef, undef, undef, undef, undef, undef, undef, undef, undef, undef]
/-- The frame of a round: T: the temporaries as the loop found them. -/
def GrassAx {W H : Nat} (w : World) (b1 b2 b3 bp : Nat) (T : Array Value) (x : Cell W H) (a' : Act) (X : World) : Prop :=
  ∃ bx, w.heap.size ≤ bx ∧ bx ≠ b1 ∧ bx ≠ b2 ∧ bx ≠ b3 ∧ bx ≠ bp ∧ At X bx 2 (sp x.1.1 x.1.2) ∧
    a' = { tmps := (T.setIfInBounds 9 (.agg (arr 2 (sp x.1.1 x.1.2)))).setIfInBounds 4 (.pointer (some ⟨bx, 0, none⟩)), defers := [] }
theorem grassAx_own {W H : Nat} (w : World) (b1 b2 b3 bp B : Nat) (T : Array Value) (x : Cell W H) (a' : Act) : OwnFrom B (fun (_ : Unit) X => GrassAx w b1 b2 b3 bp T x a' X) := fun _ X Y row hs hg hr => by
  obtain ⟨bx, h1, h2, h3, h4, h5, hA, e⟩ := hs
  exact ⟨bx, h1, h2, h3, h4, h5, hA.grown hg (fun r e => (hr r e).2), e⟩

theorem fine_rest {g : Nat → Int} {l : List (Nat × Nat)} {u v : Nat} (hu : u < 10) (hf : ∀ s ∈ l, fineAt g s = true) : inB 0 1000 (restAt g l (v * 10 + u)) = fineAt g (u, v) := by
  rw [restAt_of hu]
  split
  · rename_i h; rw [hf _ h]; rfl
  · rfl
theorem grassB_no {g : Nat → Int} {W H u v : Nat} (hu : u < W) (hv : v < H) (h : fineAt g (u, v) = false) : grassB g W H = false := by
  unfold grassB
  rw [Bool.and_eq_false_iff]; left
  exact List.all_eq_false.2 ⟨_, mem_upto hu hv, by simp [h]⟩
theorem Mem.only {w w' : Base} {W : World} {L : Blocks} (h : Mem w L W) (i : Nat) {b n : Nat} {f : Nat → Value} (hi : L[i]? = some (b, n, f)) (g : Nat → Value) (e : ∀ k, k < n → f k = g k) (hg : w'.G W) : Mem w' [(b, n, g)] W :=
  (Mem.start hg).old ((h.ats i b n f hi).congr e) (fun j p hj => by simp at hj)

theorem Mem.take {w : Base} {W : World} {L : Blocks} (h : Mem w L W) (n : Nat) : Mem w (L.take n) W :=
  ⟨h.good, fun i b m f hi => h.ats i b m f (by rw [List.getElem?_take] at hi; split at hi; exact hi; cases hi),
   fun i j p q hi hj hne => h.apart i j p q (by rw [List.getElem?_take] at hi; split at hi; exact hi; cases hi) (by rw [List.getElem?_take] at hj; split at hj; exact hj; cases hj) hne⟩

theorem results_at1 {P : Program} {fn : Func} {p : Tmp} {ty : TypeId} (h : fn.results = #[.cell p ty]) (tmps : Array Value) {W : World} {b n : Nat} {f : Nat → Value}
    (hp : tmps.getD p undef = .pointer (some ⟨b, 0, none⟩)) (hg : At W b n f) (hn : 0 < n) (hT : CellT P ty) (v : Value) (hv : f 0 = v) :
    (results fn tmps).run P W = .ok v W := by
  obtain ⟨⟨d, hu, hd⟩, _⟩ := hT
  have hc := hg.cell hn
  rw [hv] at hc
  have hagg : (isAgg ty).run P W = .ok false W := by
    unfold isAgg
    rw [Sem.run_bind, run_underlying hu W]
    cases d <;> simp_all [TypeDesc.isRow]
  have hl : (load ⟨b, 0, none⟩).run P W = .ok v W := by simp [load, Sem.run, hc]
  have hh : (loadVar ty ⟨b, 0, none⟩).run P W = .ok v W := by
    simp only [loadVar, Sem.run_bind, Result.andThen_ok, hagg, Bool.false_eq_true, if_false, hl]
  have hp' : tmps[p]?.getD undef = .pointer (some ⟨b, 0, none⟩) := by simpa using hp
  simp [results, h, hp', asAddr, hh]

theorem zeroValue_of {P : Program} {ty : TypeId} {v : Value} (hz : (P.info? ty).map (·.zero) = some (some v)) (W : World) : (zeroValue ty).run P W = .ok v W := by
  cases hq : P.info? ty with
  | none => simp [hq] at hz
  | some i => simp [hq] at hz; simp [zeroValue, typeInfo, hq, hz]
@[local go_sem] theorem zero_grass (W : World) : (zeroValue 25).run Tryd.prog W = .ok (.agg (arr 100 fun _ => .int .i16 0)) W := zeroValue_of (zeroTab _ _ _ rfl) W
@[local go_sem] theorem zero_cells_grass : Tryd.zeroCells25 = arr 100 fun _ => .int .i16 0 := by kernel_rfl
@[local go_sem] theorem eq_grass (g : Nat → Int) (l : List (Nat × Nat)) (W : World) : (Op.equalIn 10000 25 (.agg (arr 100 fun k => restV g l k)) (.agg (arr 100 fun _ => .int .i16 0))).run Tryd.prog W = .ok (eqTo 100 (restAt g l) fun _ => 0) W :=
  run_equal_grass _ _ _ _ (fun _ _ => rfl) (fun _ _ => rfl) W 9997

set_option maxRecDepth 100000 in
set_option maxHeartbeats 2000000 in
theorem hasValidGrass_any (g : Nat → Int) (hg : Fits g) (W H : Nat) (hg0 : g 0 = W) (hg1 : g 1 = H) (hW : 1 ≤ W ∧ W ≤ 10) (hH : 1 ≤ H ∧ H ≤ 10) (w : World) :
    Calls Tryd.prog 119 #[.agg (arr 122 (pas g))] w fun e w' => e = .returned (.bool (grassB g W H)) ∧ Below w.heap.size w w' := by
  have hM := Mem.nil w
  refine (callsIn_wide (n := 3)).1 ?_
  refine callsIn_of_wp_marks Tryd.func119 rfl trivial ?_ rfl
  simp only [Tryd.ntmps119, List.size_toArray, List.length_cons, List.length_nil, Nat.reduceAdd, Nat.reduceSub, Array.replicate_succ, Array.replicate_zero, List.push_toArray, List.append_toArray, List.nil_append, List.cons_append]
  refine wpIn_wide.2 ?_
  have tk_b1 : True := trivial; have tk_b2 : True := trivial; have tk_b3 : True := trivial
  go_wp2_with (first | (have _t := tk_b1; refine wpList_box rfl _ _ rfl _ _ rfl hM ?_; intro b1 W' hb1 hM'; clear hM tk_b1; have hM := hM'; clear hM') | (have _t := tk_b2; refine wpList_zero1 rfl _ rfl (zero1Tab _ _ rfl) rfl hM ?_; intro b2 W' hb2 hM'; clear hM tk_b2; have hM := hM'; clear hM') | (have _t := tk_b3; refine wpList_zero rfl _ rfl (zeroTab _ _ _ rfl) hM ?_; intro b3 W' hb3 hM'; clear hM tk_b3; have hM := hM'; clear hM') | (refine wpList_get rfl _ _ rfl _ _ rfl hM 1 rfl (rowTab _ _ rfl) (by omega) ?_) | (refine wpList_get rfl _ _ rfl _ _ rfl hM 2 rfl (rowTab _ _ rfl) (by omega) ?_) | (refine wpList_get rfl _ _ rfl _ _ rfl hM 0 rfl (rowTab _ _ rfl) (by omega) ?_) | (refine wpList_lay rfl _ _ _ rfl _ _ rfl _ _ rfl hM 0 rfl (by assumption) (rowTab _ _ rfl) (by omega) ?_ ?_; (first | (intro _ _; rfl) | (intro k _; exact h1 _) | (intro k _; simp only [lay, upd]; (repeat' split) <;> first | exact h1 _ | rfl)); intro W' hM'; clear hM; have hM := hM'; clear hM'; simp only [List.set] at hM))
  refine (cells_any g _).mono ?_
  rintro e W1 ⟨bp, rfl, hbp, hAp, hcb⟩
  have l3 := (hM.ats 0 _ _ _ rfl).lt
  have l2 := (hM.ats 1 _ _ _ rfl).lt
  have l1 := (hM.ats 2 _ _ _ rfl).lt
  have hM2 := (hM.re 0 rfl (restV g []) (fun k hk => by
    have e2 : lay (fun _ => Value.int .i16 0) 0 100 (fun k => pas g (2 + k)) k = pas g (2 + k) := by simp [lay, hk]
    rw [e2, pas_i16 g (by omega) (by omega)]; simp [restV, restAt])).call hcb
  simp only [List.set] at hM2
  have hM3 := hM2.old hAp (fun i p h => by
    match i, h with
    | 0, h => simp at h; rw [← h]; show b3 ≠ bp; omega
    | 1, h => simp at h; rw [← h]; show b2 ≠ bp; omega
    | 2, h => simp at h; rw [← h]; show b1 ≠ bp; omega
    | _ + 3, h => simp at h)
  simp only [List.cons_append, List.nil_append] at hM3
  clear hM hM2 l1 l2 l3 hcb hbp
  have hM := hM3
  clear hM3
  go_wp2
  have hsz : w.heap.size ≤ W1.heap.size := hM.size
  refine (wpIn_wide (n := 3)).1 ?_
  refine wpIn_rangeFunc_ownH (F := Fence.wide) (n := 3) rfl (by omega) (gf := 104) (lb := #[.pointer (some ⟨bp, 0, none⟩)]) rfl trivial (enters_of Tryd.func104 (by kernel_rfl) rfl)
    (cells_stops Fence.wide 2 trivial rfl (by omega) bp W H hW.2 hH.2 g hg0 hg1 W1 hAp) kpP_t (fun X l o o' _ h ho _ => kpP_b X l o o' h ho) (Below.refl _ _) (fun _ => rfl)
    (GrassIn w g b1 b2 b3 bp) (GrassOut w g b2) (grassIn_own w g b1 b2 b3 bp _ hM.size) (grassOut_own w g b2 _ hM.size) ⟨fun s h => by simp at h, hM⟩
    (GrassAx w b1 b2 b3 bp (grassT g b1 b2 b3 bp)) (grassAx_own w b1 b2 b3 bp _ _) ?assign ?body ?done ?stop
  case assign =>
    intro l pre x X K hI hK
    obtain ⟨hf, hX⟩ := hI
    have hM : Mem (Base.round w W1.heap.size X) _ X := hX.base ⟨hX.below, KeepsFrom.refl _ _⟩
    have tk_b4 : True := trivial
    refine region_round (fun ⟨_, _, h⟩ => h) rfl ?_
    have ez : (#[9].zip (encC x)).foldl (fun t x => t.setIfInBounds x.1 x.2) (grassT g b1 b2 b3 bp) = (grassT g b1 b2 b3 bp).setIfInBounds 9 (.agg (arr 2 (sp x.1.1 x.1.2))) := by simp [encC]
    have h1 : ∀ k, (sp x.1.1 x.1.2 k).oneCell' = true := fun _ => rfl
    rw [show (#[Value.agg (arr 122 (pas g)), .pointer (some ⟨b1, 0, none⟩), .pointer (some ⟨b2, 0, none⟩), .pointer (some ⟨b3, 0, none⟩), undef, .pointer (some ⟨b1, 2, none⟩), .agg (arr 100 fun k => pas g (2 + k)), .agg (arr 122 fun k => pas g k), .func (.func 104) #[] #[.pointer (some ⟨bp, 0, none⟩)], undef, undef, undef, undef, undef, undef, undef, undef, undef, undef, undef, undef, undef, undef, undef, undef, undef, undef, undef, undef, undef, undef, undef, undef, undef, undef, undef, undef] : Array Value) = grassT g b1 b2 b3 bp from rfl, ez]
    simp only [grassT, List.setIfInBounds_toArray, List.set_cons_succ, List.set_cons_zero]
    go_wp2_with (first | (have _t := tk_b4; refine wpList_zero rfl _ rfl (zeroTab _ _ _ rfl) hM ?_; intro b4 W' hb4 hM'; clear hM tk_b4; have hM := hM'; clear hM') | (refine wpList_lay rfl _ _ _ rfl _ _ rfl _ _ rfl hM 0 rfl (by assumption) (rowTab _ _ rfl) (by omega) ?_ ?_; (first | (intro _ _; rfl) | (intro k _; exact h1 _) | (intro k _; simp only [lay, upd]; (repeat' split) <;> first | exact h1 _ | rfl)); intro W' hM'; clear hM; have hM := hM'; clear hM'; simp only [List.set] at hM))
    exact hK _ _ hM.good.2 (fun _ => hM.ats 4 _ _ _ rfl) ⟨hf, hM.drop.base hM.good.1⟩
      ⟨b4, hb4, hM.apart 0 3 _ _ rfl rfl (by omega), hM.apart 0 2 _ _ rfl rfl (by omega), hM.apart 0 1 _ _ rfl rfl (by omega), hM.apart 0 4 _ _ rfl rfl (by omega), hM.at0.congr (fun k hk => by simp [lay, hk]), rfl⟩
  case body =>
    intro l pre x a' X hl hr hI hAx hlen
    obtain ⟨hf, hX⟩ := hI
    obtain ⟨b4, hb4, n1, n2, n3, n4, hA4, rfl⟩ := hAx
    have hM4 := (hX.base (w' := Base.round w W1.heap.size X) ⟨hX.below, KeepsFrom.refl _ _⟩).old hA4 (fun i p h => by
      match i, h with
      | 0, h => simp at h; rw [← h]; exact fun e => n3 e.symm
      | 1, h => simp at h; rw [← h]; exact fun e => n2 e.symm
      | 2, h => simp at h; rw [← h]; exact fun e => n1 e.symm
      | 3, h => simp at h; rw [← h]; exact fun e => n4 e.symm
      | _ + 4, h => simp at h)
    simp only [List.cons_append, List.nil_append] at hM4
    have hM := hM4
    clear hM4
    obtain ⟨⟨u, v⟩, hu, hv⟩ := x
    simp only at hu hv hM hA4
    simp only [grassT, List.setIfInBounds_toArray, List.set_cons_succ, List.set_cons_zero]
    clear hX hA4 n1 n2 n3 n4 hb4
    have lu : (u : Int) < 10 := by omega
    have lv : (v : Int) < 10 := by omega
    refine wpIn_block (wpIn_seq (wpIn_seq ?_))
    rcases (show restAt g (pre.map (·.1)) (v * 10 + u) < 0 ∨ (¬ restAt g (pre.map (·.1)) (v * 10 + u) < 0 ∧ restAt g (pre.map (·.1)) (v * 10 + u) > 1000) ∨ (¬ restAt g (pre.map (·.1)) (v * 10 + u) < 0 ∧ ¬ restAt g (pre.map (·.1)) (v * 10 + u) > 1000) by omega) with r0 | ⟨r0, r1⟩ | ⟨r0, r1⟩
    · have e0 : decide (restAt g (pre.map (·.1)) (v * 10 + u) < 0) = true := decide_eq_true r0
      refine region_round_mem (fun ⟨_, _, h⟩ => h) rfl (by kernel_rfl) (by kernel_rfl) hM ?_
      clear hM
      (repeat (first | go_big_quiet_skip | (go_big_quiet_want; first | (refine quiet_get1 _ _ rfl _ _ rfl 4 rfl (cellTab _ rfl) (by omega) (.int .i8 v) rfl ?_; (simp only [Act.put, List.setIfInBounds_toArray, List.set_cons_succ, List.set_cons_zero]); go_big_quiet_on) | (refine quiet_get1 _ _ rfl _ _ rfl 4 rfl (cellTab _ rfl) (by omega) (.int .i8 u) rfl ?_; (simp only [Act.put, List.setIfInBounds_toArray, List.set_cons_succ, List.set_cons_zero]); go_big_quiet_on) | (refine quiet_get1 _ _ rfl _ _ rfl 0 rfl (cellTab _ rfl) (by omega) (.int .i16 (restAt g (pre.map (·.1)) (v * 10 + u))) rfl ?_; (simp only [Act.put, List.setIfInBounds_toArray, List.set_cons_succ, List.set_cons_zero]); go_big_quiet_on) | (refine quiet_val ?_; apply Exists.intro; refine ⟨fun W => ?_, ?_⟩; (go_simp; (try simp only [lu, lv, e0, if_true, Bool.false_eq_true, if_false]); rfl); (simp only [Act.put, List.setIfInBounds_toArray, List.set_cons_succ, List.set_cons_zero]); go_big_quiet_on))))
      with_reducible refine wpQuiet_nil ?_
      intro W' hM
      refine wpIn_cond_true rfl (wpIn_seq (region_round (fun ⟨_, _, h⟩ => h) rfl ?_))
      have tk_b9 : True := trivial
      go_wp2_with (first | (refine wpList_set1 rfl _ _ _ rfl _ _ rfl _ rfl ?_ hM 1 rfl (by assumption) (cellTab _ rfl) (by omega) ?_; (first | rfl | exact h1 _); intro W' hM'; clear hM; have hM := hM'; clear hM'; simp [List.set, Act.eval] at hM))
      have hbad : fineAt g (u, v) = false := by
        rw [← fine_rest (l := pre.map (·.1)) (show u < 10 by omega) (fun s hs => by obtain ⟨c, hc, rfl⟩ := List.mem_map.1 hs; exact hf c hc)]
        exact inB_no (by omega)
      refine wpIn_ret ?_
      exact ⟨hM.good.2, rfl, grassB_no hu hv hbad, hM.only 1 rfl _ (fun k hk => by simp [upd]) hM.good.1⟩
    · have e0 : decide (restAt g (pre.map (·.1)) (v * 10 + u) < 0) = false := decide_eq_false r0
      have e1 : decide (1000 < restAt g (pre.map (·.1)) (v * 10 + u)) = true := decide_eq_true r1
      refine region_round_mem (fun ⟨_, _, h⟩ => h) rfl (by kernel_rfl) (by kernel_rfl) hM ?_
      clear hM
      (repeat (first | go_big_quiet_skip | (go_big_quiet_want; first | (refine quiet_get1 _ _ rfl _ _ rfl 4 rfl (cellTab _ rfl) (by omega) (.int .i8 v) rfl ?_; (simp only [Act.put, List.setIfInBounds_toArray, List.set_cons_succ, List.set_cons_zero]); go_big_quiet_on) | (refine quiet_get1 _ _ rfl _ _ rfl 4 rfl (cellTab _ rfl) (by omega) (.int .i8 u) rfl ?_; (simp only [Act.put, List.setIfInBounds_toArray, List.set_cons_succ, List.set_cons_zero]); go_big_quiet_on) | (refine quiet_get1 _ _ rfl _ _ rfl 0 rfl (cellTab _ rfl) (by omega) (.int .i16 (restAt g (pre.map (·.1)) (v * 10 + u))) rfl ?_; (simp only [Act.put, List.setIfInBounds_toArray, List.set_cons_succ, List.set_cons_zero]); go_big_quiet_on) | (refine quiet_val ?_; apply Exists.intro; refine ⟨fun W => ?_, ?_⟩; (go_simp; (try simp only [lu, lv, e0, e1, if_true, Bool.false_eq_true, if_false]); rfl); (simp only [Act.put, List.setIfInBounds_toArray, List.set_cons_succ, List.set_cons_zero]); go_big_quiet_on))))
      with_reducible refine wpQuiet_nil ?_
      intro W' hM
      refine wpIn_cond_true rfl (wpIn_seq (region_round (fun ⟨_, _, h⟩ => h) rfl ?_))
      have tk_b9 : True := trivial
      go_wp2_with (first | (refine wpList_set1 rfl _ _ _ rfl _ _ rfl _ rfl ?_ hM 1 rfl (by assumption) (cellTab _ rfl) (by omega) ?_; (first | rfl | exact h1 _); intro W' hM'; clear hM; have hM := hM'; clear hM'; simp [List.set, Act.eval] at hM))
      have hbad : fineAt g (u, v) = false := by
        rw [← fine_rest (l := pre.map (·.1)) (show u < 10 by omega) (fun s hs => by obtain ⟨c, hc, rfl⟩ := List.mem_map.1 hs; exact hf c hc)]
        exact inB_no (by omega)
      refine wpIn_ret ?_
      exact ⟨hM.good.2, rfl, grassB_no hu hv hbad, hM.only 1 rfl _ (fun k hk => by simp [upd]) hM.good.1⟩
    · have e0 : decide (restAt g (pre.map (·.1)) (v * 10 + u) < 0) = false := decide_eq_false r0
      have e1 : decide (1000 < restAt g (pre.map (·.1)) (v * 10 + u)) = false := decide_eq_false r1
      refine region_round_mem (fun ⟨_, _, h⟩ => h) rfl (by kernel_rfl) (by kernel_rfl) hM ?_
      clear hM
      (repeat (first | go_big_quiet_skip | (go_big_quiet_want; first | (refine quiet_get1 _ _ rfl _ _ rfl 4 rfl (cellTab _ rfl) (by omega) (.int .i8 v) rfl ?_; (simp only [Act.put, List.setIfInBounds_toArray, List.set_cons_succ, List.set_cons_zero]); go_big_quiet_on) | (refine quiet_get1 _ _ rfl _ _ rfl 4 rfl (cellTab _ rfl) (by omega) (.int .i8 u) rfl ?_; (simp only [Act.put, List.setIfInBounds_toArray, List.set_cons_succ, List.set_cons_zero]); go_big_quiet_on) | (refine quiet_get1 _ _ rfl _ _ rfl 0 rfl (cellTab _ rfl) (by omega) (.int .i16 (restAt g (pre.map (·.1)) (v * 10 + u))) rfl ?_; (simp only [Act.put, List.setIfInBounds_toArray, List.set_cons_succ, List.set_cons_zero]); go_big_quiet_on) | (refine quiet_val ?_; apply Exists.intro; refine ⟨fun W => ?_, ?_⟩; (go_simp; (try simp only [lu, lv, e0, e1, if_true, Bool.false_eq_true, if_false]); rfl); (simp only [Act.put, List.setIfInBounds_toArray, List.set_cons_succ, List.set_cons_zero]); go_big_quiet_on))))
      with_reducible refine wpQuiet_nil ?_
      intro W' hM
      refine wpIn_cond_false rfl (wpIn_skip ?_)
      refine region_round_tail (m := 6) (fun ⟨_, _, h⟩ => h) rfl (by kernel_rfl) (by kernel_rfl) ?_
      have hM' := hM.drew
      clear hM
      have hM := hM'
      clear hM'
      simp only [List.take_succ_cons, List.take_zero, List.drop_succ_cons, List.drop_zero]
      (repeat (refine wps_plain rfl ?_; (first | (refine still_get1 hM _ _ rfl _ _ rfl 4 rfl (cellTab _ rfl) (by omega) (.int .i8 v) rfl ?_) | (refine still_get1 hM _ _ rfl _ _ rfl 4 rfl (cellTab _ rfl) (by omega) (.int .i8 u) rfl ?_) | (refine still_val ?_; apply Exists.intro; refine ⟨fun W => ?_, ?_⟩; (go_simp; (try simp only [lu, lv, if_true]); rfl))); (simp only [Act.put, List.setIfInBounds_toArray, List.set_cons_succ, List.set_cons_zero])))
      unfold wpStill
      go_wp2_with (first | (refine wpList_set1 rfl _ _ _ rfl _ _ rfl _ rfl ?_ hM 0 rfl (by assumption) (cellTab _ rfl) (by omega) ?_; (first | rfl | exact h1 _); intro W' hM'; clear hM; have hM := hM'; clear hM'; simp [List.set, Act.eval] at hM))
      have hgood : fineAt g (u, v) = true := by
        rw [← fine_rest (l := pre.map (·.1)) (show u < 10 by omega) (fun s hs => by obtain ⟨c, hc, rfl⟩ := List.mem_map.1 hs; exact hf c hc)]
        exact inB_yes (by omega)
      refine ⟨hM.good.2, fun _ => hM.ats 3 _ _ _ rfl, fun s hs => ?_, ?_⟩
      · rcases List.mem_append.1 hs with h | h
        · exact hf s h
        · rw [List.mem_singleton.1 h]; exact hgood
      · rw [List.map_append]
        exact (((hM.take 4).base hM.good.1).re 0 rfl _ (fun k hk => restAt_upd (show u < 10 by omega)))
  case done =>
    rename_i K7 hK7
    intro D xs X hD hS hI hK
    obtain ⟨hf, hM⟩ := hI
    rw [hS] at hM
    have hM' : Mem (Base.round w W1.heap.size X) _ X := hM.base ⟨hM.below, KeepsFrom.refl _ _⟩
    clear hM
    have hM := hM'
    clear hM'
    show K7 _ _
    refine hK7 _ _ ?_
    dsimp only
    go_wp2_with (first | (refine wpList_get rfl _ _ rfl _ _ rfl hM 0 rfl (rowTab _ _ rfl) (by omega) ?_) | (refine wpList_set1 rfl _ _ _ rfl _ _ rfl _ rfl ?_ hM 1 rfl (by assumption) (cellTab _ rfl) (by omega) ?_; (first | rfl | exact h1 _); intro W' hM'; clear hM; have hM := hM'; clear hM'; simp [List.set, Act.eval] at hM))
    have hK' : W'.heap[D]? = some (.deferred (some [])) := hM.good.2.same D _ hD hK rfl
    refine ⟨by simp, .inl ⟨_, _, rfl, run_takeDeferred hK', ?_⟩⟩
    have hB := hM.only (w' := Base.of w) 1 rfl (fun _ => .bool (grassB g W H)) (fun k hk => by
      have hall : ((upto W (W * H)).all (fineAt g)) = true := List.all_eq_true.2 fun s hs => by
        rw [← hS] at hs
        obtain ⟨c, hc, rfl⟩ := List.mem_map.1 hs
        exact hf c hc
      simp [upd, grassB, hall]
      omega) hM.good.1
    refine ⟨.bool (grassB g W H), results_at1 rfl _ rfl (hB.at0.grown (grownBy_putObj' W' D _) (fun r e => by cases e; exact ⟨_, hK', rfl⟩)) (by omega) (cellTab _ rfl) _ rfl, rfl, ?_⟩
    exact Below.grown hB.below (grownBy_putObj' W' D _) hB.below.size (fun k e => by cases e; exact Nat.le_trans hsz hD)
  case stop =>
    intro D c pre X hD hS hI hK
    obtain ⟨rfl, hno, hM⟩ := hI
    refine wpIn_ret ?_
    refine ⟨by simp, .inl ⟨_, _, rfl, run_takeDeferred hK, ?_⟩⟩
    refine ⟨.bool false, results_at1 rfl _ rfl (hM.at0.grown (grownBy_putObj' X D _) (fun r e => by cases e; exact ⟨_, hK, rfl⟩)) (by omega) (cellTab _ rfl) _ rfl, ?_⟩
    rw [hno]
    exact ⟨rfl, Below.grown hM.below (grownBy_putObj' X D _) hM.below.size (fun k e => by cases e; exact Nat.le_trans hsz hD)⟩
end Go.Proofs.YtjfmhnbbdkejeaaDoor

/-
  PLAIN LAW: a region that draws its order and holds reads and quiet calls (each yields one value, whatever lies beside what it reads) and, among them in whatever order, a short thread that makes new blocks and writes into them: reads and calls may be taken first.
-/
namespace Go.Proofs.YtjfmhnbbdkejeaaDoor
open Go Go.RowKit
variable {P : Program} {ops : Array Oper} {C D : World → Prop}

/-- One value in every world of the class; a call lets lie all that lay. -/
def qB (P : Program) (o : Oper) (a : Act) (C : World → Prop) (K : Act → Prop) : Prop := ∃ v, (∀ W, C W → o.quietAt P a (Below W.heap.size W) W v) ∧ K (a.put o.dst v)
/-- What is known of a world, of the class, and kept by what lets lie all that lay. -/
structure Kept (C D : World → Prop) : Prop where
  sub : ∀ W, D W → C W
  on : ∀ W W', D W → Below W.heap.size W W' → D W'
/-- One operation of the thread: a value in its place, another world, another thing known of it. -/
def stepT (P : Program) (C : World → Prop) (o : Oper) (a : Act) (D : World → Prop) (K : Act → (World → Prop) → Prop) : Prop :=
  ∀ W, D W → (∃ u D' W', ((execOp a.eval o).run P W = .ok (.value u) W' ∨ ((execOp a.eval o).run P W = .ok .skip W' ∧ u = undef)) ∧ Kept C D' ∧ D' W' ∧ K (a.put o.dst u) D') ∨
    (∃ f args, (execOp a.eval o).run P W = .ok (.enter f args) W ∧ Calls P f args W fun e W' => ∃ u D', e = .returned u ∧ Kept C D' ∧ D' W' ∧ K (a.put o.dst u) D')
/-- Operation i comes up: one of the first n is a read, the others are the thread. -/
def mixOp (P : Program) (ops : Array Oper) (C : World → Prop) (n i : Nat) (a : Act) (D : World → Prop) (K : Act → (World → Prop) → Prop) : Prop :=
  ∃ o, ops[i]? = some o ∧ (if i < n then (if Region.wanted o (yielded ops a.tmps) then qB P o a C (fun a' => K a' D) else K (a.put o.dst undef) D) else o.guard = none ∧ stepT P C o a D K)
def mix (P : Program) (ops : Array Oper) (C : World → Prop) (n : Nat) (Q : Exit → Act → World → Prop) : Nat → Array Bool → Act → (World → Prop) → Prop
  | 0, s, a, D => Region.ready .any ops s = [] ∧ ∀ W, D W → Q .normal a W
  | f + 1, s, a, D => Region.ready .any ops s ≠ [] ∧ ∀ i ∈ Region.ready .any ops s, mixOp P ops C n i a D (mix P ops C n Q f (s.setIfInBounds i true))

theorem wpOp_of_mixOp {n i : Nat} {a : Act} {W : World} {K : Act → (World → Prop) → Prop} {K' : Act → World → Prop} {Q : Exit → Act → World → Prop} (hD : Kept C D) (hW : D W)
    (h : ∀ a D W, Kept C D → D W → K a D → K' a W) (hh : mixOp P ops C n i a D K) : wpOp P ops Q i K' a W := by
  obtain ⟨o, ho, hh⟩ := hh
  unfold wpOp
  simp only [ho]
  by_cases hn : i < n
  · rw [if_pos hn] at hh
    by_cases hw : Region.wanted o (yielded ops a.tmps) = true
    · rw [if_pos hw] at hh ⊢
      obtain ⟨v, h1, h2⟩ := hh
      have h3 := h1 W (hD.sub W hW)
      refine .inl ?_
      unfold Oper.quietAt at h3
      unfold Oper.wp
      generalize (execOp a.eval o).run P W = r at *
      cases r with
      | ok x w' =>
        cases x <;> simp only [Oper.quietUpon] at h3 <;> simp only [Oper.upon]
        case value => obtain ⟨rfl, rfl⟩ := h3; exact h _ _ _ hD hW h2
        case skip => obtain ⟨rfl, rfl⟩ := h3; exact h _ _ _ hD hW h2
        case enter f args =>
          obtain ⟨rfl, hc⟩ := h3
          exact hc.mono fun e w'' ⟨he, hb⟩ => by subst he; exact h _ _ _ hD (hD.on _ _ hW hb) h2
      | halt x w' => simp only [Oper.quietUpon] at h3
    · rw [if_neg hw] at hh ⊢
      exact h _ _ _ hD hW hh
  · rw [if_neg hn] at hh
    obtain ⟨hg, hs⟩ := hh
    have hw : Region.wanted o (yielded ops a.tmps) = true := by simp [Region.wanted, hg]
    rw [if_pos hw]
    refine .inl ?_
    unfold Oper.wp
    rcases hs W hW with ⟨u, D', W', hr, hk, hd, hK⟩ | ⟨f, args, hr, hc⟩
    · rcases hr with hr | ⟨hr, rfl⟩ <;> rw [hr] <;> exact h _ _ _ hk hd hK
    · rw [hr]
      exact hc.mono fun e w'' ⟨u, D', he, hk, hd, hK⟩ => by subst he; exact h _ _ _ hk hd hK

theorem any_of_mix {n : Nat} {Q : Exit → Act → World → Prop} (f : Nat) : ∀ s a D W, Kept C D → D W → mix P ops C n Q f s a D → wpAny P .any ops Q f s a W := by
  induction f with
  | zero => intro s a D W _ hW h; exact ⟨h.1, h.2 W hW⟩
  | succ f ih =>
    intro s a D W hD hW h
    exact ⟨fun e => absurd e h.1, fun i hi => wpOp_of_mixOp hD hW (fun a' D' W' hD' hW' h' => ih _ a' D' W' hD' hW' h') (h.2 i hi)⟩

/-- Operation o has the value v in state a. -/
def gives (P : Program) (ops : Array Oper) (C : World → Prop) (o : Oper) (v : Value) (a : Act) : Prop :=
  (Region.wanted o (yielded ops a.tmps) = true ∧ ∀ W, C W → o.quietAt P a (Below W.heap.size W) W v) ∨ (Region.wanted o (yielded ops a.tmps) = false ∧ v = undef)
theorem gives.other {o : Oper} {v : Value} {a : Act} (hs : ∀ cs b, o.op ≠ .select cs b) (h : gives P ops C o v a) (dst : Option Tmp) (u : Value) (hd : ∀ d, dst = some d → d ∉ o.looksAt ops) : gives P ops C o v (a.put dst u) := by
  unfold gives Oper.quietAt at *
  rw [execOp_put o hs a dst u hd, wanted_put o a dst u hd]
  exact h
theorem gives.op {n i : Nat} {o : Oper} {v : Value} {a : Act} {K : Act → (World → Prop) → Prop} (hn : i < n) (ho : ops[i]? = some o) (h : gives P ops C o v a) (hK : K (a.put o.dst v) D) : mixOp P ops C n i a D K := by
  refine ⟨o, ho, ?_⟩
  rw [if_pos hn]
  rcases h with ⟨hw, hv⟩ | ⟨hw, rfl⟩
  · rw [if_pos hw]; exact ⟨v, hv, hK⟩
  · rw [if_neg (by rw [hw]; exact Bool.false_ne_true)]; exact hK

theorem mixOp_past {n j : Nat} {oi oj : Oper} {v : Value} {a : Act} {K K' : Act → (World → Prop) → Prop} (hoj : ops[j]? = some oj) (hap : oi.apart ops oj = true) (hsi : ∀ cs b, oi.op ≠ .select cs b) (hsj : ∀ cs b, oj.op ≠ .select cs b)
    (hg : gives P ops C oi v a) (hK : ∀ u D', gives P ops C oi v (a.put oj.dst u) → K ((a.put oj.dst u).put oi.dst v) D' → K' (a.put oj.dst u) D') (h : mixOp P ops C n j (a.put oi.dst v) D K) : mixOp P ops C n j a D K' := by
  obtain ⟨h1, h2, h3⟩ := Oper.apart_spec hap
  have sw : ∀ u, (a.put oi.dst v).put oj.dst u = (a.put oj.dst u).put oi.dst v := fun u => Act.put_comm a v u h2
  have keep : ∀ u, gives P ops C oi v (a.put oj.dst u) := fun u => hg.other hsi _ u h3
  obtain ⟨o, ho, h⟩ := h
  obtain rfl : oj = o := Option.some.inj (hoj.symm.trans ho)
  refine ⟨oj, hoj, ?_⟩
  by_cases hn : j < n
  · rw [if_pos hn] at h ⊢
    rw [wanted_put oj a oi.dst v h1] at h
    by_cases hw : Region.wanted oj (yielded ops a.tmps) = true
    · rw [if_pos hw] at h ⊢
      obtain ⟨u, hu, hk⟩ := h
      refine ⟨u, fun W hW => ?_, hK u D (keep u) (by rw [← sw]; exact hk)⟩
      have := hu W hW
      unfold Oper.quietAt at *
      rwa [execOp_put oj hsj a oi.dst v h1] at this
    · rw [if_neg hw] at h ⊢
      exact hK _ D (keep _) (by rw [← sw]; exact h)
  · rw [if_neg hn] at h ⊢
    refine ⟨h.1, fun W hW => ?_⟩
    rcases h.2 W hW with ⟨u, D', W', hr, hk, hd, hh⟩ | ⟨f, args, hr, hc⟩
    · rw [execOp_put oj hsj a oi.dst v h1] at hr
      exact .inl ⟨u, D', W', hr, hk, hd, hK u D' (keep u) (by rw [← sw]; exact hh)⟩
    · rw [execOp_put oj hsj a oi.dst v h1] at hr
      exact .inr ⟨f, args, hr, hc.mono fun e w'' ⟨u, D', he, hk, hd, hh⟩ => ⟨u, D', he, hk, hd, hK u D' (keep u) (by rw [← sw]; exact hh)⟩⟩

theorem mix_first {n i : Nat} {oi : Oper} {v : Value} {Q : Exit → Act → World → Prop} (hin : i < n) (hoi : ops[i]? = some oi) (hsel : ∀ (j : Nat) (o : Oper) cs b, ops[j]? = some o → o.op ≠ .select cs b) (f : Nat) :
    ∀ s a D, (∀ j oj, ops[j]? = some oj → j ≠ i → s.getD j true = false → (∀ e ∈ oj.after, Region.binds .any e = true → e.on ≠ i) → oi.apart ops oj = true) →
      i ∈ Region.ready .any ops s → gives P ops C oi v a → mix P ops C n Q f (s.setIfInBounds i true) (a.put oi.dst v) D → mix P ops C n Q (f + 1) s a D := by
  induction f with
  | zero =>
    intro s a D _ hr hg H
    refine ⟨List.ne_nil_of_mem hr, fun j hj => ?_⟩
    by_cases e : j = i
    · subst e; exact hg.op hin hoi H
    · have := ready_mono hj e
      rw [H.1] at this; cases this
  | succ f ih =>
    intro s a D hfree hr hg H
    refine ⟨List.ne_nil_of_mem hr, fun j hj => ?_⟩
    by_cases e : j = i
    · subst e; exact hg.op hin hoi H
    obtain ⟨hju, oj, hoj, hdone⟩ := mem_ready.1 hj
    have hfj := hfree j oj hoj e hju fun d hd hb he => by
      have h1 := hdone d hd hb
      rw [he, getD_both (mem_ready.1 hr).1] at h1
      cases h1
    refine mixOp_past hoj hfj (fun cs b => hsel i oi cs b hoi) (fun cs b => hsel j oj cs b hoj) hg (fun u D' hg' h' => ?_) (H.2 j (ready_mono hj e))
    refine ih _ _ D' (fun k ok hk hki hku hno => hfree k ok hk hki ?_ hno) (ready_mono hr (Ne.symm e)) hg' ?_
    · by_cases ejk : j = k
      · subst ejk; exact hju
      · rwa [getD_set_ne true ejk] at hku
    · rw [Array.setIfInBounds_comm _ _ e]; exact h'

/-- The first operations one by one. -/
def wpB (P : Program) (ops : Array Oper) (C : World → Prop) (R : Act → Prop) : List Oper → Act → Prop
  | [], a => R a
  | o :: rest, a => if Region.wanted o (yielded ops a.tmps) then qB P o a C (wpB P ops C R rest) else wpB P ops C R rest (a.put o.dst undef)
/-- The thread's one by one. -/
def thr (P : Program) (C : World → Prop) (Q : Exit → Act → World → Prop) : List Oper → Act → (World → Prop) → Prop
  | [], a, D => ∀ W, D W → Q .normal a W
  | o :: rest, a, D => o.guard = none ∧ stepT P C o a D (thr P C Q rest)

theorem mix_of_thr {n : Nat} {Q : Exit → Act → World → Prop} (l : List Oper) : ∀ (k : Nat) s a D, n ≤ k → (∀ j, l[j]? = ops[k + j]?) → Region.seqB .any ops l.length k s = true → thr P C Q l a D → mix P ops C n Q l.length s a D := by
  induction l with
  | nil => intro k s a D _ _ hB h; exact ⟨by simpa [Region.seqB] using hB, h⟩
  | cons o l ih =>
    intro k s a D hnk hl hB h
    have h0 : ops[k]? = some o := by simpa using (hl 0).symm
    simp only [List.length_cons, Region.seqB, Bool.and_eq_true, decide_eq_true_eq] at hB
    refine ⟨by rw [hB.1]; simp, fun i hi => ?_⟩
    rw [hB.1] at hi
    obtain rfl : i = k := by simpa using hi
    refine ⟨o, h0, ?_⟩
    rw [if_neg (by omega)]
    refine ⟨h.1, fun W hW => ?_⟩
    have hj : ∀ j, l[j]? = ops[i + 1 + j]? := fun j => by
      have := hl (j + 1); simpa [Nat.add_assoc, Nat.add_comm 1 j] using this
    rcases h.2 W hW with ⟨u, D', W', hr, hk, hd, hh⟩ | ⟨f, args, hr, hc⟩
    · exact .inl ⟨u, D', W', hr, hk, hd, ih (i + 1) _ _ D' (by omega) hj hB.2 hh⟩
    · exact .inr ⟨f, args, hr, hc.mono fun e w'' ⟨u, D', he, hk, hd, hh⟩ => ⟨u, D', he, hk, hd, ih (i + 1) _ _ D' (by omega) hj hB.2 hh⟩⟩

theorem mix_lex {n : Nat} {Q : Exit → Act → World → Prop} {t : List Oper} (hsel : Region.noSelect ops = true) (ht : ∀ j, t[j]? = ops[n + j]?) (l : List Oper) :
    ∀ (k : Nat) (s : Array Bool) (a : Act), (∀ j, j < l.length → l[j]? = ops[k + j]?) → k + l.length = n → Region.lexHead .any ops t.length l.length k s = true →
      wpB P ops C (fun a' => thr P C Q t a' D) l a → mix P ops C n Q (l.length + t.length) s a D := by
  induction l with
  | nil =>
    intro k s a _ hk hB h
    obtain rfl : k = n := by simpa using hk
    rw [List.length_nil, Nat.zero_add]
    exact mix_of_thr t k s a D (Nat.le_refl _) ht (by simpa [Region.lexHead] using hB) h
  | cons o l ih =>
    intro k s a hl hk hB h
    have h0 : ops[k]? = some o := by simpa using (hl 0 (by simp)).symm
    simp only [List.length_cons, Region.lexHead, Bool.and_eq_true] at hB hk
    have hr : k ∈ Region.ready .any ops s := by simpa using hB.1.1
    have hv : ∃ v, gives P ops C o v a ∧ wpB P ops C (fun a' => thr P C Q t a' D) l (a.put o.dst v) := by
      unfold wpB at h
      by_cases hw : Region.wanted o (yielded ops a.tmps) = true
      · rw [if_pos hw] at h; obtain ⟨v, h1, h2⟩ := h; exact ⟨v, .inl ⟨hw, h1⟩, h2⟩
      · rw [if_neg hw] at h; exact ⟨undef, .inr ⟨by simpa using hw, rfl⟩, h⟩
    obtain ⟨v, hg, hK⟩ := hv
    rw [List.length_cons, show l.length + 1 + t.length = (l.length + t.length) + 1 by omega]
    refine mix_first (by omega) h0 (Region.noSelect_spec hsel) _ s a D (Region.free_spec h0 hB.1.2) hr hg ?_
    refine ih (k + 1) _ _ (fun j hj => ?_) (by omega) hB.2 hK
    have := hl (j + 1) (by simp; omega)
    simpa [Nat.add_assoc, Nat.add_comm 1 j] using this

def mixB (ops : Array Oper) (n : Nat) : Bool := Region.noSelect ops && decide (n ≤ ops.size) && Region.lexHead .any ops (ops.size - n) n 0 (Array.replicate ops.size false)

theorem kept_mem (w : Base) (L x : Blocks) : Kept (Mem w L) (Mem w (x ++ L)) where
  sub := fun W h => by
    induction x with
    | nil => exact h
    | cons p x ih => exact ih h.drop
  on := fun W W' h hb => h.call hb

theorem any_mix {Q : Exit → Act → World → Prop} {a : Act} {w : Base} {W : World} {L : Blocks} {l : List Oper} (n : Nat) (hB : mixB l.toArray n = true) (hM : Mem w L W)
    (h : wpB P l.toArray (Mem w L) (fun a' => thr P (Mem w L) Q (l.drop n) a' (Mem w ([] ++ L))) (l.take n) a) : wpAny P .any l.toArray Q l.toArray.size (Array.replicate l.toArray.size false) a W := by
  simp only [mixB, Bool.and_eq_true, decide_eq_true_eq] at hB
  obtain ⟨⟨b1, b2⟩, b3⟩ := hB
  have e0 : l.toArray.size = l.length := by simp
  have e1 : (l.take n).length = n := by rw [List.length_take]; omega
  have e2 : (l.drop n).length = l.toArray.size - n := by rw [List.length_drop, e0]
  have := mix_lex (P := P) (C := Mem w L) (D := Mem w ([] ++ L)) (Q := Q) (n := n) (t := l.drop n) b1 (fun j => by simp [List.getElem?_drop]) (l.take n) 0 _ a (fun j hj => by rw [e1] at hj; simp [hj]) (by rw [e1]; omega) (by rw [e1, e2]; exact b3) h
  have := any_of_mix _ _ _ _ W (kept_mem w L []) hM this
  rwa [e1, e2, show n + (l.toArray.size - n) = l.toArray.size by omega] at this
theorem region_mix {Q : Exit → Act → World → Prop} {a : Act} {w : Base} {W : World} {L : Blocks} {id : Nat} {l : List Oper} (n : Nat) (hm : P.follows .mixedOrders = true) (hB : mixB l.toArray n = true) (hM : Mem w L W)
    (h : wpB P l.toArray (Mem w L) (fun a' => thr P (Mem w L) Q (l.drop n) a' (Mem w ([] ++ L))) (l.take n) a) : (Code.region id l.toArray true).wp P Q a W :=
  wp_region_any hm (any_mix n hB hM.drew h)

/-! ### The steps -/
variable {rest : List Oper} {o : Oper} {a : Act} {w : Base} {L x : Blocks} {R : Act → Prop} {K : Act → Prop} {Q : Exit → Act → World → Prop}
theorem wpB_plain (hg : o.guard = none) (h : qB P o a C (wpB P ops C R rest)) : wpB P ops C R (o :: rest) a := by
  unfold wpB; rw [if_pos (by simp [Region.wanted, hg])]; exact h
theorem wpB_want (hw : Region.wanted o (yielded ops a.tmps) = true) (h : qB P o a C (wpB P ops C R rest)) : wpB P ops C R (o :: rest) a := by
  unfold wpB; rw [if_pos hw]; exact h
theorem wpB_skip (hw : Region.wanted o (yielded ops a.tmps) = false) (h : wpB P ops C R rest (a.put o.dst undef)) : wpB P ops C R (o :: rest) a := by
  unfold wpB; rw [if_neg (by rw [hw]; exact Bool.false_ne_true)]; exact h
theorem wpB_nil (h : R a) : wpB P ops C R [] a := h
theorem b_val (h : ∃ v, (∀ W, (execOp a.eval o).run P W = .ok (.value v) W) ∧ K (a.put o.dst v)) : qB P o a C K := by
  obtain ⟨v, hr, h⟩ := h
  refine ⟨v, fun W _ => ?_, h⟩
  unfold Oper.quietAt; rw [hr]; exact ⟨rfl, rfl⟩
theorem b_call (h : ∃ f args v, (∀ W, (execOp a.eval o).run P W = .ok (.enter f args) W) ∧ (∀ W, C W → Calls P f args W fun e w' => e = .returned v ∧ Below W.heap.size W w') ∧ K (a.put o.dst v)) : qB P o a C K := by
  obtain ⟨f, args, v, hr, hc, h⟩ := h
  refine ⟨v, fun W hM => ?_, h⟩
  unfold Oper.quietAt; rw [hr]; exact ⟨rfl, hc W hM⟩
theorem b_get (ty : TypeId) (y : Operand) (ho : o.op = .load ty y) (b off : Nat) (hx : a.eval y = .pointer (some ⟨b, off, none⟩))
    (i : Nat) {n : Nat} {f : Nat → Value} (hi : L[i]? = some (b, n, f)) {m : Nat} (hT : RowT P ty m) (hle : off + m ≤ n)
    (h : K (a.put o.dst (.agg (arr m (fun k => f (off + k)))))) : qB P o a (Mem w L) K := by
  refine ⟨_, fun W hM => ?_, h⟩
  obtain ⟨⟨d, hu, hd⟩, hm⟩ := hT
  obtain ⟨t, ht⟩ := hM.ats i b n f hi
  have hr : W.rangeAt b off (arr m (fun k => f (off + k))).toList := by
    rw [← arr_extract hle]; exact World.rangeAt_of_block ht off m
  have hl := run_loadVar_mid (P := P) W b off ty _ d hr hu hd (by rw [hm]; simp [arr_size])
  unfold Oper.quietAt execOp
  simp only [ho, hx, Instr.loadAt, Instr.sureAddr, Sem.run_bind, Sem.run_pure, Result.andThen_ok, hl]
  exact ⟨rfl, by simp⟩
theorem b_get1 (ty : TypeId) (y : Operand) (ho : o.op = .load ty y) (b off : Nat) (hx : a.eval y = .pointer (some ⟨b, off, none⟩))
    (i : Nat) {n : Nat} {f : Nat → Value} (hi : L[i]? = some (b, n, f)) (hT : CellT P ty) (hle : off < n) (v : Value) (hv : f off = v)
    (h : K (a.put o.dst v)) : qB P o a (Mem w L) K := by
  refine ⟨v, fun W hM => ?_, h⟩
  obtain ⟨⟨d, hu, hd⟩, _⟩ := hT
  have hc := (hM.ats i b n f hi).cell hle
  rw [hv] at hc
  have hagg : (isAgg ty).run P W = .ok false W := by
    unfold isAgg
    rw [Sem.run_bind, run_underlying hu W]
    cases d <;> simp_all [TypeDesc.isRow]
  have hl : (load ⟨b, off, none⟩).run P W = .ok v W := by simp [load, Sem.run, hc]
  unfold Oper.quietAt execOp
  simp only [ho, hx, Instr.loadAt, Instr.sureAddr, loadVar, Sem.run_bind, Sem.run_pure, Result.andThen_ok, hagg, Bool.false_eq_true, if_false, hl]
  exact ⟨rfl, rfl⟩

theorem thr_nil {C D : World → Prop} (h : ∀ W, D W → Q .normal a W) : thr P C Q [] a D := h
theorem thr_val (hg : o.guard = none) (h : ∃ v, (∀ W, (execOp a.eval o).run P W = .ok (.value v) W) ∧ thr P (Mem w L) Q rest (a.put o.dst v) (Mem w (x ++ L))) : thr P (Mem w L) Q (o :: rest) a (Mem w (x ++ L)) := by
  obtain ⟨v, hr, h⟩ := h
  exact ⟨hg, fun W hW => .inl ⟨v, _, W, .inl (hr W), kept_mem w L x, hW, h⟩⟩
theorem thr_zero (hg : o.guard = none) (ty : TypeId) (ho : o.op = .alloc ty) {n : Nat} {f : Nat → Value} (hz : (P.info? ty).map (·.zero) = some (some (.agg (arr n f))))
    (h : ∀ b, w.B ≤ b → thr P (Mem w L) Q rest (a.put o.dst (.pointer (some ⟨b, 0, none⟩))) (Mem w (((b, n, f) :: x) ++ L))) : thr P (Mem w L) Q (o :: rest) a (Mem w (x ++ L)) := by
  refine ⟨hg, fun W hW => .inl ⟨_, _, _, .inl ?_, kept_mem w L ((W.heap.size, n, f) :: x), hW.alloc ty n f, h _ hW.size⟩⟩
  have hzv : (zeroValue ty).run P W = .ok (.agg (arr n f)) W := by
    cases hq : P.info? ty with
    | none => simp [hq] at hz
    | some i => simp [hq] at hz; simp [zeroValue, typeInfo, hq, hz]
  unfold execOp
  simp only [ho, Instr.alloc, Sem.run_bind, Sem.run_pure, Result.andThen_ok, hzv, newVar, newRow, newObj, Sem.run, Value.cells]
  rfl
theorem thr_lay (hg : o.guard = none) (ty : TypeId) (y z : Operand) (ho : o.op = .store ty y z) (b off : Nat) (hx : a.eval y = .pointer (some ⟨b, off, none⟩))
    (m : Nat) (g : Nat → Value) (hy : a.eval z = .agg (arr m g)) (i : Nat) {n : Nat} {f : Nat → Value} (hi : x[i]? = some (b, n, f)) (hb : w.B ≤ b)
    (hT : RowT P ty m) (hle : off + m ≤ n) (h1 : ∀ k, k < m → (g k).oneCell' = true)
    (h : thr P (Mem w L) Q rest (a.put o.dst undef) (Mem w ((x.set i (b, n, lay f off m g)) ++ L))) : thr P (Mem w L) Q (o :: rest) a (Mem w (x ++ L)) := by
  obtain ⟨_, hm⟩ := hT
  have hil : i < x.length := (List.getElem?_eq_some_iff.1 hi).1
  have hi' : (x ++ L)[i]? = some (b, n, f) := by rw [List.getElem?_append_left hil]; exact hi
  refine ⟨hg, fun W hW => ?_⟩
  obtain ⟨t, ht⟩ := hW.ats i b n f hi'
  have hs := run_storeCells_at (P := P) b off t (arr m g).toList 0 (arr n f) W ht (by simp [arr_size]; omega) (fun v hv => by
    rw [arr_toList] at hv; simp at hv; obtain ⟨k, hk, rfl⟩ := hv; exact h1 k hk)
  rw [Nat.add_zero, arr_lay hle] at hs
  have hsz : (sizeOf ty).run P W = .ok m W := by
    cases hq : P.info? ty with
    | none => simp [hq] at hm
    | some i => simp [hq] at hm; simp [sizeOf, typeInfo, hq, hm]
  have hset := hW.setRow i hi' hb (lay f off m g)
  rw [List.set_append_left _ _ hil] at hset
  refine .inl ⟨undef, _, _, .inr ⟨?_, rfl⟩, kept_mem w L _, hset, h⟩
  unfold execOp
  simp only [ho, hx, hy, Instr.storeAt, Instr.sureAddr, storeVar, Sem.run_bind, Sem.run_pure, Result.andThen_ok, Value.cells, hsz, arr_size, ne_eq, not_true_eq_false, if_false, hs]

/-- A call that lets lie all that lay. -/
theorem thr_call (hg : o.guard = none) (h : ∃ f args v, (∀ W, (execOp a.eval o).run P W = .ok (.enter f args) W) ∧ (∀ W, Mem w (x ++ L) W → Calls P f args W fun e w' => e = .returned v ∧ Below W.heap.size W w') ∧ thr P (Mem w L) Q rest (a.put o.dst v) (Mem w (x ++ L))) : thr P (Mem w L) Q (o :: rest) a (Mem w (x ++ L)) := by
  obtain ⟨f, args, v, hr, hc, h⟩ := h
  exact ⟨hg, fun W hW => .inr ⟨f, args, hr W, (hc W hW).mono fun e w' ⟨he, hb⟩ => ⟨v, _, he, kept_mem w L x, hW.call hb, h⟩⟩⟩
/-- A call that hands back what holds a new block. -/
theorem thr_call_new (hg : o.guard = none) {n : Nat} {f : Nat → Value} (vb : Nat → Value) (h : ∃ fn args, (∀ W, (execOp a.eval o).run P W = .ok (.enter fn args) W) ∧ (∀ W, Mem w (x ++ L) W → Calls P fn args W fun e w' => ∃ b, e = .returned (vb b) ∧ W.heap.size ≤ b ∧ At w' b n f ∧ Below W.heap.size W w') ∧
    ∀ b, w.B ≤ b → thr P (Mem w L) Q rest (a.put o.dst (vb b)) (Mem w (((b, n, f) :: x) ++ L))) : thr P (Mem w L) Q (o :: rest) a (Mem w (x ++ L)) := by
  obtain ⟨fn, args, hr, hc, h⟩ := h
  refine ⟨hg, fun W hW => .inr ⟨fn, args, hr W, (hc W hW).mono fun e w' ⟨b, he, hge, hA, hb⟩ => ⟨vb b, _, he, kept_mem w L ((b, n, f) :: x), ?_, h b (Nat.le_trans hW.size hge)⟩⟩⟩
  have hW' := hW.call hb
  refine ⟨hW'.good, fun i b' n' f' hi => ?_, fun i j p q hi hj hne => ?_⟩
  · cases i with
    | zero => simp at hi; obtain ⟨rfl, rfl, rfl⟩ := hi; exact hA
    | succ i => exact hW'.ats i b' n' f' (by simpa using hi)
  · have off : ∀ (i : Nat) (p : Nat × Nat × (Nat → Value)), (x ++ L)[i]? = some p → p.1 ≠ b := fun i p h e => by
      have := (hW.ats i p.1 p.2.1 p.2.2 h).lt
      omega
    cases i with
    | zero =>
      cases j with
      | zero => exact absurd rfl hne
      | succ j => simp at hi; rw [← hi]; exact fun e => off j q (by simpa using hj) e.symm
    | succ i =>
      cases j with
      | zero => simp at hj; rw [← hj]; exact off i p (by simpa using hi)
      | succ j => exact hW'.apart i j p q (by simpa using hi) (by simpa using hj) (by omega)
end Go.Proofs.YtjfmhnbbdkejeaaDoor

/-
  PLAIN LAW: a region that draws its order, whose first m operations only read or make quiet calls (whatever world of a class they get), and whose others follow one another.
-/
namespace Go.Proofs.YtjfmhnbbdkejeaaDoor
open Go
variable {P : Program} {ops : Array Oper} {C : World → Prop}

/-- From here on f operations of the head come up, in whatever order; then T. -/
def headQ (P : Program) (ops : Array Oper) (C : World → Prop) (n : Nat) (T : Array Bool → Act → Prop) : Nat → Array Bool → Act → Prop
  | 0, s, a => T s a
  | f + 1, s, a => Region.ready .any ops s ≠ [] ∧ ∀ i ∈ Region.ready .any ops s, i < n ∧ qOp P ops C i (headQ P ops C n T f (s.setIfInBounds i true)) a

theorem any_of_headQ {n g : Nat} {T : Array Bool → Act → Prop} {Q : Exit → Act → World → Prop} (hT : ∀ s a w, C w → T s a → wpAny P .any ops Q g s a w) (f : Nat) :
    ∀ s a w, C w → headQ P ops C n T f s a → wpAny P .any ops Q (f + g) s a w := by
  induction f with
  | zero => intro s a w hw h; rw [Nat.zero_add]; exact hT s a w hw h
  | succ f ih =>
    intro s a w hw h
    rw [Nat.succ_add]
    exact ⟨fun e => absurd e h.1, fun i hi => wpOp_of_qOp hw (fun a' w' hw' h' => ih _ a' w' hw' h') (h.2 i hi).2⟩

/-- What comes up ahead of an open head operation is of the head. -/
theorem below_of_open {n i j : Nat} {s : Array Bool} (hs : Region.sinkB .any ops n = true) (hc : Region.chainB .any ops n = true) (hn : n < ops.size) (inv : HeadInv .any ops n s) (hin : i < n)
    (hi : i ∈ Region.ready .any ops s) (hj : j ∈ Region.ready .any ops s) : j < n := by
  by_cases h : j < n
  · exact h
  · exact absurd hj (tail_waits hs hc hn inv _ i rfl hin (mem_ready.1 hi).1 j (by omega))

theorem headQ_first {n i : Nat} {oi : Oper} {v : Value} {T : Array Bool → Act → Prop} (hoi : ops[i]? = some oi) (hsel : ∀ (j : Nat) (o : Oper) cs b, ops[j]? = some o → o.op ≠ .select cs b)
    (hs : Region.sinkB .any ops n = true) (hc : Region.chainB .any ops n = true) (hn : n < ops.size) (hin : i < n) (hT : ∀ s a, T s a → ∀ j ∈ Region.ready .any ops s, n ≤ j) (f : Nat) :
    ∀ s a, HeadInv .any ops n s →
      (∀ j oj, ops[j]? = some oj → j ≠ i → s.getD j true = false → (∀ e ∈ oj.after, Region.binds .any e = true → e.on ≠ i) → oi.apart ops oj = true) →
      i ∈ Region.ready .any ops s → YieldsIn P ops C oi v a → headQ P ops C n T f (s.setIfInBounds i true) (a.put oi.dst v) → headQ P ops C n T (f + 1) s a := by
  induction f with
  | zero =>
    intro s a inv _ hr hy H
    refine ⟨List.ne_nil_of_mem hr, fun j hj => ⟨below_of_open hs hc hn inv hin hr hj, ?_⟩⟩
    by_cases e : j = i
    · subst e; exact hy.qOp hoi H
    · exact absurd (hT _ _ H j (ready_mono hj e)) (by have := below_of_open hs hc hn inv hin hr hj; omega)
  | succ f ih =>
    intro s a inv hfree hr hy H
    refine ⟨List.ne_nil_of_mem hr, fun j hj => ?_⟩
    have hjn := below_of_open hs hc hn inv hin hr hj
    refine ⟨hjn, ?_⟩
    by_cases e : j = i
    · subst e; exact hy.qOp hoi H
    obtain ⟨hju, oj, hoj, hdone⟩ := mem_ready.1 hj
    have hfj := hfree j oj hoj e hju fun d hd hb he => by
      have h1 := hdone d hd hb
      rw [he, getD_both (mem_ready.1 hr).1] at h1
      cases h1
    have step := qOp_put hoj hfj (fun cs b => hsel i oi cs b hoi) (fun cs b => hsel j oj cs b hoj) hy (H.2 j (ready_mono hj e)).2
    refine qOp_mono (fun a' h' => ih _ a' (inv.set hj hjn) (fun k ok hk hki hku hno => hfree k ok hk hki ?_ hno) (ready_mono hr (Ne.symm e)) h'.1 ?_) step
    · by_cases ejk : j = k
      · subst ejk; exact hju
      · rwa [getD_set_ne true ejk] at hku
    · rw [Array.setIfInBounds_comm _ _ e]; exact h'.2

theorem headQ_lex {n g : Nat} {R : Act → Prop} (hsel : Region.noSelect ops = true) (hs : Region.sinkB .any ops n = true) (hc : Region.chainB .any ops n = true) (hn : n < ops.size) (l : List Oper) :
    ∀ (k : Nat) (s : Array Bool) (a : Act), (∀ j, j < l.length → l[j]? = ops[k + j]?) → k + l.length = n → HeadInv .any ops n s → Region.lexHead .any ops g l.length k s = true →
      wpQuiet P ops C R l a → headQ P ops C n (fun s' a' => Region.seqB .any ops g n s' = true ∧ R a') l.length s a := by
  induction l with
  | nil =>
    intro k s a _ hk _ hB h
    obtain rfl : k = n := by simpa using hk
    exact ⟨by simpa [Region.lexHead] using hB, h⟩
  | cons o l ih =>
    intro k s a hl hk inv hB h
    have h0 : ops[k]? = some o := by simpa using (hl 0 (by simp)).symm
    simp only [List.length_cons, Region.lexHead, Bool.and_eq_true] at hB hk
    have hr : k ∈ Region.ready .any ops s := by simpa using hB.1.1
    have hq : qOp P ops C k (wpQuiet P ops C R l) a := by unfold qOp; simp only [h0]; exact h
    obtain ⟨v, hy, hK⟩ := yieldsIn_of_qOp h0 hq
    refine headQ_first h0 (Region.noSelect_spec hsel) hs hc hn (by omega) (fun s' a' h' => seqB_ready h'.1) l.length s a inv (Region.free_spec h0 hB.1.2) hr hy ?_
    refine ih (k + 1) _ _ (fun j hj => ?_) (by omega) (inv.set hr (by omega)) hB.2 hK
    have := hl (j + 1) (by simp; omega)
    simpa [Nat.add_assoc, Nat.add_comm 1 j] using this

theorem any_head {Q : Exit → Act → World → Prop} {a : Act} {w : World} {l : List Oper} (n : Nat) (hB : Region.lexTailB .any l.toArray n = true) (hC : C w)
    (h : wpQuiet P l.toArray C (fun a' => ∀ w', C w' → wpList P l.toArray Q (l.drop n) a' w') (l.take n) a) : wpAny P .any l.toArray Q l.toArray.size (Array.replicate l.toArray.size false) a w := by
  simp only [Region.lexTailB, Bool.and_eq_true, decide_eq_true_eq] at hB
  obtain ⟨⟨⟨⟨b1, b2⟩, b3⟩, b4⟩, b5⟩ := hB
  have e0 : l.toArray.size = l.length := by simp
  have e1 : (l.take n).length = n := by rw [List.length_take]; omega
  have e2 : (l.drop n).length = l.toArray.size - n := by rw [List.length_drop, e0]
  have inv : HeadInv .any l.toArray n (Array.replicate l.toArray.size false) :=
    { size := by simp
      closed := fun j oj _ hl => by rw [getD_replicate_false] at hl; cases hl
      tail := fun t _ ht => getD_in (by simpa using ht) (getD_replicate_false _ _) }
  have H := headQ_lex (P := P) (C := C) (g := l.toArray.size - n) b1 b3 b4 b2 (l.take n) 0 _ a (fun j hj => by rw [e1] at hj; simp [hj]) (by rw [e1]; omega) inv (by rw [e1]; exact b5) h
  have := any_of_headQ (Q := Q) (g := l.toArray.size - n) (fun s a' w' hw' ht => by
    have := wpAny_of_seq (P := P) (md := .any) (Q' := Q) (l.drop n) n s a' w' (fun j => by simp [List.getElem?_drop]) (by rw [e2]; exact ht.1) (ht.2 w' hw')
    rwa [e2] at this) _ _ _ w hC H
  rwa [e1, show n + (l.toArray.size - n) = l.toArray.size by omega] at this

/-- The region, over the memory of a call. -/
theorem region_head_mem {Q : Exit → Act → World → Prop} {a : Act} {w : Base} {W : World} {L : Blocks} {id : Nat} {l : List Oper} (m : Nat) (hm : P.follows .mixedOrders = true) (hB : Region.lexTailB .any l.toArray m = true) (hM : Mem w L W)
    (h : wpQuiet P l.toArray (Mem w L) (fun a' => ∀ W', Mem w L W' → wpList P l.toArray Q (l.drop m) a' W') (l.take m) a) : (Code.region id l.toArray true).wp P Q a W :=
  wp_region_any hm (any_head (C := Mem w L) m hB hM.drew h)
end Go.Proofs.YtjfmhnbbdkejeaaDoor

