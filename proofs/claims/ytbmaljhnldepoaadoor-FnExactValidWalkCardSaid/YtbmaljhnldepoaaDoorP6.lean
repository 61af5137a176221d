/-
  Several texts in one: Asked, Results, Pasture, Closed.
-/
import Derived.Test.YtbmaljhnldepoaaDoorP5
import Derived.Test.YtbmaljhnldepoaaDoorP4
import Derived.Test.YtbmaljhnldepoaaDoorP1
import Derived.Laws.ResultCell
import Derived.StillTail
/-
  spec.l01Asked, laws.toSpot, (impl.Pasture).grassAt by contracts.
-/
namespace Go.Proofs.YtbmaljhnldepoaaDoor
open Go Go.RowKit Go.BigFrame

/-- The code of a pasture and a cell, and whether another thing is as told. -/
def askC (g : Nat → Int) (x y : Int) (fine : Bool) : Int := if okB g then (if isB g x y && fine then 0 else 2) else 1
theorem askC_bad {g : Nat → Int} {x y : Int} {f : Bool} (h : okB g = false) : askC g x y f = 1 := by simp [askC, h]
theorem askC_out {g : Nat → Int} {x y : Int} {f : Bool} (h : okB g = true) (h2 : isB g x y = false) : askC g x y f = 2 := by simp [askC, h, h2]
theorem askC_fine {g : Nat → Int} {x y : Int} (h : okB g = true) (h2 : isB g x y = true) : askC g x y false = 2 := by simp [askC, h, h2]
theorem askC_ok {g : Nat → Int} {x y : Int} (h : okB g = true) (h2 : isB g x y = true) : askC g x y true = 0 := by simp [askC, h, h2]
theorem ret_i {k : IntKind} {a b : Int} (h : a = b) : Ending.returned (.int k a) = .returned (.int k b) := by rw [h]

set_option maxHeartbeats 400000 in
theorem l01Asked_any (g : Nat → Int) (hg : Fits g) (bp : Nat) (x y : Int) (hx : -128 ≤ x ∧ x ≤ 127) (hy : -128 ≤ y ∧ y ≤ 127) (fine : Bool) (w : World) (hA : At w bp 122 (pas g)) :
    Calls Tryd.prog 51 #[.pointer (some ⟨bp, 0, none⟩), .agg (arr 2 (sp x y)), .bool fine] w fun e w' => e = .returned (.int .i64 (askC g x y fine)) ∧ Below w.heap.size w w' := by
  have hM : Mem w [(bp, 122, pas g)] w := (Mem.nil w).old hA (fun i p h => by simp at h)
  clear hA
  cases ho : okB g
  · have Ho := Lib.hid ho
    clear ho
    have tk_b1 : True := trivial
    go_enter Tryd.func51, Tryd.ntmps51
    go_wp2_with (first | (have _t := tk_b1; refine wpList_box rfl _ _ rfl _ _ rfl hM ?_; intro b1 W' hb1 hM'; clear hM tk_b1; have hM := hM'; clear hM') | (go_at_call 59; refine (l01Ok_any g hg _ _ (hM.ats 1 _ _ _ rfl)).mono ?_; rintro e W' ⟨rfl, hb'⟩; rw [Ho.out]; have hM' := hM.call hb'; clear hM hb'; have hM := hM'; clear hM'))
    go_ret
    exact ⟨ret_i (askC_bad Ho.out).symm, hM.below⟩
  have Ho := Lib.hid ho
  clear ho
  cases hi : isB g x y
  · have Hi := Lib.hid hi
    clear hi
    have tk_b1 : True := trivial
    go_enter Tryd.func51, Tryd.ntmps51
    go_wp2_with (first | (have _t := tk_b1; refine wpList_box rfl _ _ rfl _ _ rfl hM ?_; intro b1 W' hb1 hM'; clear hM tk_b1; have hM := hM'; clear hM') | (refine wpList_get rfl _ _ rfl _ _ rfl hM 0 rfl (rowTab _ _ rfl) (by omega) ?_) | (go_at_call 59; refine (l01Ok_any g hg _ _ (hM.ats 1 _ _ _ rfl)).mono ?_; rintro e W' ⟨rfl, hb'⟩; rw [Ho.out]; have hM' := hM.call hb'; clear hM hb'; have hM := hM'; clear hM') | (go_at_call 68; refine (l01Is_any g hg _ x y hx hy _ (hM.ats 1 _ _ _ rfl)).mono ?_; rintro e W' ⟨rfl, hb'⟩; rw [Hi.out]; have hM' := hM.call hb'; clear hM hb'; have hM := hM'; clear hM'))
    go_ret
    exact ⟨ret_i (askC_out Ho.out Hi.out).symm, hM.below⟩
  have Hi := Lib.hid hi
  clear hi
  cases fine
  · have tk_b1 : True := trivial
    go_enter Tryd.func51, Tryd.ntmps51
    go_wp2_with (first | (have _t := tk_b1; refine wpList_box rfl _ _ rfl _ _ rfl hM ?_; intro b1 W' hb1 hM'; clear hM tk_b1; have hM := hM'; clear hM') | (refine wpList_get rfl _ _ rfl _ _ rfl hM 0 rfl (rowTab _ _ rfl) (by omega) ?_) | (go_at_call 59; refine (l01Ok_any g hg _ _ (hM.ats 1 _ _ _ rfl)).mono ?_; rintro e W' ⟨rfl, hb'⟩; rw [Ho.out]; have hM' := hM.call hb'; clear hM hb'; have hM := hM'; clear hM') | (go_at_call 68; refine (l01Is_any g hg _ x y hx hy _ (hM.ats 1 _ _ _ rfl)).mono ?_; rintro e W' ⟨rfl, hb'⟩; rw [Hi.out]; have hM' := hM.call hb'; clear hM hb'; have hM := hM'; clear hM'))
    go_ret
    exact ⟨ret_i (askC_fine Ho.out Hi.out).symm, hM.below⟩
  · have tk_b1 : True := trivial
    go_enter Tryd.func51, Tryd.ntmps51
    go_wp2_with (first | (have _t := tk_b1; refine wpList_box rfl _ _ rfl _ _ rfl hM ?_; intro b1 W' hb1 hM'; clear hM tk_b1; have hM := hM'; clear hM') | (refine wpList_get rfl _ _ rfl _ _ rfl hM 0 rfl (rowTab _ _ rfl) (by omega) ?_) | (go_at_call 59; refine (l01Ok_any g hg _ _ (hM.ats 1 _ _ _ rfl)).mono ?_; rintro e W' ⟨rfl, hb'⟩; rw [Ho.out]; have hM' := hM.call hb'; clear hM hb'; have hM := hM'; clear hM') | (go_at_call 68; refine (l01Is_any g hg _ x y hx hy _ (hM.ats 1 _ _ _ rfl)).mono ?_; rintro e W' ⟨rfl, hb'⟩; rw [Hi.out]; have hM' := hM.call hb'; clear hM hb'; have hM := hM'; clear hM'))
    go_ret
    exact ⟨ret_i (askC_ok Ho.out Hi.out).symm, hM.below⟩



/-- The place of a cell's grass. -/
def gPlace (x y : Int) : Nat := 2 + y.toNat * 10 + x.toNat

theorem isB_bounds {g : Nat → Int} {x y : Int} (ho : okB g = true) (hi : isB g x y = true) : 0 ≤ x ∧ x < g 0 ∧ g 0 ≤ 10 ∧ 0 ≤ y ∧ y < g 1 ∧ g 1 ≤ 10 := by
  unfold okB at ho
  unfold isB at hi
  rw [Bool.and_eq_true] at ho hi
  rw [Bool.and_eq_true] at ho
  have a1 := inB_true ho.1.1
  have a2 := inB_true ho.1.2
  have a3 := inB_true hi.1
  have a4 := inB_true hi.2
  omega

set_option maxHeartbeats 400000 in
theorem grassAt_any (g : Nat → Int) (hg : Fits g) (x y : Nat) (hx : x < 10) (hy : y < 10) (w : World) :
    Calls Tryd.prog 84 #[.agg (arr 122 (pas g)), .agg (arr 2 (sp x y))] w fun e w' => e = .returned (.int .i64 (g (2 + y * 10 + x))) ∧ Below w.heap.size w w' := by
  have hM := Mem.nil w
  have hr := hg.grass (2 + y * 10 + x) (by omega) (by omega)
  have e0 : pas g (2 + y * 10 + x) = .int .i16 (g (2 + y * 10 + x)) := pas_i16 g (by omega) (by omega)
  have c0 : IntKind.i64.wrap (g (2 + y * 10 + x)) = g (2 + y * 10 + x) := IntWalk.i64_in _ (by omega)
  have lx : (x : Int) < 10 := by omega
  have ly : (y : Int) < 10 := by omega
  have tk_b1 : True := trivial; have tk_b2 : True := trivial
  go_enter Tryd.func84, Tryd.ntmps84
  go_wp2_with (first | (have _t := tk_b1; refine wpList_box rfl _ _ rfl _ _ rfl hM ?_; intro b1 W' hb1 hM'; clear hM tk_b1; have hM := hM'; clear hM') | (have _t := tk_b2; refine wpList_box rfl _ _ rfl _ _ rfl hM ?_; intro b2 W' hb2 hM'; clear hM tk_b2; have hM := hM'; clear hM'))
  ((try simp only [Act.put, List.setIfInBounds_toArray, List.set_cons_succ, List.set_cons_zero]); refine wp_region_mem (by kernel_rfl) (by kernel_rfl) hM ?_; clear hM; (repeat (first | go_big_quiet_skip | (go_big_quiet_want; first | (refine quiet_get1 _ _ rfl _ _ rfl 0 rfl (cellTab _ rfl) (by omega) (.int .i8 (y : Int)) rfl ?_; (simp only [Act.put, List.setIfInBounds_toArray, List.set_cons_succ, List.set_cons_zero]); go_big_quiet_on) | (refine quiet_get1 _ _ rfl _ _ rfl 0 rfl (cellTab _ rfl) (by omega) (.int .i8 (x : Int)) rfl ?_; (simp only [Act.put, List.setIfInBounds_toArray, List.set_cons_succ, List.set_cons_zero]); go_big_quiet_on) | (refine quiet_get1 _ _ rfl _ _ rfl 1 rfl (cellTab _ rfl) (by omega) _ (e0) ?_; (simp only [Act.put, List.setIfInBounds_toArray, List.set_cons_succ, List.set_cons_zero]); go_big_quiet_on) | (refine quiet_val ?_; apply Exists.intro; refine ⟨fun W => ?_, ?_⟩; (go_simp; (try simp only [lx, ly, if_true, Bool.false_eq_true, if_false]); rfl); (simp only [Act.put, List.setIfInBounds_toArray, List.set_cons_succ, List.set_cons_zero]); go_big_quiet_on)))); (with_reducible refine wpQuiet_nil ?_); intro W' hM)
  go_wp2
  go_ret
  exact ⟨rfl, hM.below⟩
theorem askC_cases (g : Nat → Int) (x y : Int) (f : Bool) : (okB g = false ∧ askC g x y f = 1) ∨ (okB g = true ∧ (isB g x y && f) = false ∧ askC g x y f = 2) ∨ (okB g = true ∧ isB g x y = true ∧ f = true ∧ askC g x y f = 0) := by
  cases h1 : okB g <;> cases h2 : isB g x y <;> cases f <;> simp [askC, h1, h2]

end Go.Proofs.YtbmaljhnldepoaaDoor

/-
  PLAIN LAWS: two results, the first in memory.
-/
namespace Go.Proofs.YtbmaljhnldepoaaDoor
open Go Go.RowKit Go.BigFrame

theorem loadVar_at {P : Program} {ty : TypeId} {W : World} {b n : Nat} {f : Nat → Value} (hg : At W b n f) (hT : RowT P ty n) : (loadVar ty ⟨b, 0, none⟩).run P W = .ok (.agg (arr n f)) W := by
  obtain ⟨⟨d, hu, hd⟩, hm⟩ := hT
  obtain ⟨t, hg⟩ := hg
  exact run_loadVar_row W b t ty (arr n f) (0, 0) d hg hu (by cases d <;> simp_all [TypeDesc.isRow]) (by rw [hm, arr_size])
/-- Two results, the first in memory. -/
theorem results_at2 {P : Program} {fn : Func} {p q : Tmp} {ty : TypeId} (h : fn.results = #[.cell p ty, .tmp q]) (tmps : Array Value) {W : World} {b n : Nat} {f : Nat → Value}
    (hp : tmps.getD p undef = .pointer (some ⟨b, 0, none⟩)) (hg : At W b n f) (hT : RowT P ty n) (v : Value) (hq : tmps.getD q undef = v) :
    (results fn tmps).run P W = .ok (.tuple #[.agg (arr n f), v]) W := by
  rw [results_cell_tmp h, hp]
  have : (asAddr (.pointer (some ⟨b, 0, none⟩))).run P W = .ok ⟨b, 0, none⟩ W := rfl
  rw [this]
  simp only [Result.andThen_ok, loadVar_at hg hT, hq]

end Go.Proofs.YtbmaljhnldepoaaDoor

/-
  PLAIN LAWS and contracts where a pasture is handed back: two results, the first in memory; a region that reads first and then stores; a pasture with one cell written.
-/
namespace Go.Proofs.YtbmaljhnldepoaaDoor
open Go Go.RowKit Go.BigFrame

theorem region_tail_mem {P : Program} {Q : Exit → Act → World → Prop} {a : Act} {W : World} {id : Nat} {r : List Oper} (m : Nat) (hm : P.follows .mixedOrders = true) (hB : Region.lexTailB .any r.toArray m = true)
    (h : wpStill P r.toArray W.drew (fun a' => wpList P r.toArray Q (r.drop m) a' W.drew) (r.take m) a) : (Code.region id r.toArray true).wp P Q a W :=
  wp_region_still_tail m hm hB h

/-- A pasture and a code. -/
def pasR (g : Nat → Int) (c : Int) : Value := .tuple #[.agg (arr 122 (pas g)), .int .i64 c]
theorem pasR_eq (g : Nat → Int) (c : Int) : pasR g c = .tuple #[.agg (arr 122 (pas g)), .int .i64 c] := rfl
theorem ret_pas {g g' : Nat → Int} {c c' : Int} (h : arr 122 (pas g) = arr 122 (pas g')) (h' : c = c') : Ending.returned (.tuple #[.agg (arr 122 (pas g)), .int .i64 c]) = .returned (pasR g' c') := by rw [h, h', pasR_eq]
/-- No pasture. -/
def g0 : Nat → Int := fun _ => 0
theorem pas_g0 : zP = pas g0 := rfl
@[go_sem] theorem zero_cells_pas : Tryd.zeroCells35 = arr 122 zP := by kernel_rfl
theorem lay_zP (f : Nat → Value) : ∀ k, k < 122 → lay f 0 122 zP k = pas g0 k := fun k hk => by simp [lay, hk]; rfl
theorem lay_pas (f : Nat → Value) (g : Nat → Int) : ∀ k, k < 122 → lay f 0 122 (pas g) k = pas g k := fun k hk => by simp [lay, hk]
theorem lay_pas0 (f : Nat → Value) (g : Nat → Int) : ∀ k, k < 122 → lay f 0 122 (fun j => pas g (0 + j)) k = pas g k := fun k hk => by simp [lay, hk]
/-- Two pastures laid into cells compare as equal. -/
theorem eqP_lay (z z' : Nat → Value) (g : Nat → Int) (w : World) :
    Calls Tryd.prog 31 #[.agg (arr 122 (fun k => lay z 0 122 (pas g) (0 + k))), .agg (arr 122 (fun k => lay z' 0 122 (pas g) (0 + k)))] w fun e w' => e = .returned (.bool true) ∧ Below w.heap.size w w' := by
  rw [arr_congr (g := pas g) (fun k hk => by rw [Nat.zero_add]; exact lay_pas _ _ k hk), arr_congr (f := fun k => lay z' 0 122 (pas g) (0 + k)) (g := pas g) (fun k hk => by rw [Nat.zero_add]; exact lay_pas _ _ k hk)]
  exact eqPasture_same g w
/-- g with n at place k. -/
def setG (g : Nat → Int) (k : Nat) (n : Int) : Nat → Int := fun j => if j = k then n else g j
theorem lay_upd (f : Nat → Value) (g : Nat → Int) (i : Nat) (n : Int) (h : 2 ≤ i) (h' : i < 102) : ∀ k, k < 122 → lay f 0 122 (fun j => upd (pas g) i (.int .i16 n) (0 + j)) k = pas (setG g i n) k := fun k hk => by
  simp only [lay, hk, Nat.zero_le, Nat.zero_add, and_self, if_true, Nat.sub_zero]
  unfold upd pas setG
  by_cases e : k = i
  · subst e; simp [kd_i16 h h']
  · simp [e]
theorem upd_grass (g : Nat → Int) (k : Nat) (n : Int) (h : 2 ≤ k) (h' : k < 102) : upd (pas g) k (.int .i16 n) = pas (setG g k n) := by
  funext j
  unfold upd pas setG
  by_cases e : j = k
  · subst e; simp [kd_i16 h h']
  · simp [e]
end Go.Proofs.YtbmaljhnldepoaaDoor

/-
  spec.l01Side, l01Next, l01Closed by contracts.
-/
namespace Go.Proofs.YtbmaljhnldepoaaDoor
open Go Go.RowKit Go.BigFrame

/-- Bit c of a row. -/
def bitB (row : Int) (c : Nat) : Bool := bits .and .u16 (row / 2 ^ c) 1 == 1
theorem bitB_eq (row : Int) (c : Nat) : (bits .and .u16 (row / 2 ^ c) 1 == 1) = bitB row c := rfl
/-- The row in which a side is kept, and its bit. -/
def sideRow (k : Nat) (y : Int) : Nat := match k with | 0 => 112 + (y - 1).toNat | 2 => 112 + y.toNat | _ => 102 + y.toNat
def sideBit (k : Nat) (x : Int) : Nat := match k with | 3 => (x - 1).toNat | _ => x.toNat
/-- A hurdle on a side that is no wall. -/
def fenceB (g : Nat → Int) (k : Nat) (x y : Int) : Bool := bitB (g (sideRow k y)) (sideBit k x)
/-- Can one not go over a side? -/
def closedB (g : Nat → Int) (k : Nat) (x y : Int) : Bool := !isB g (nxX k x) (nxY k y) || fenceB g k x y
theorem closedB_wall {g : Nat → Int} {k : Nat} {x y : Int} (h : isB g (nxX k x) (nxY k y) = false) : closedB g k x y = true := by simp [closedB, h]
theorem closedB_in {g : Nat → Int} {k : Nat} {x y : Int} (h : isB g (nxX k x) (nxY k y) = true) : closedB g k x y = fenceB g k x y := by simp [closedB, h]

set_option maxRecDepth 100000 in
set_option maxHeartbeats 1000000 in
theorem l01Closed_wall0 (g : Nat → Int) (hg : Fits g) (bp : Nat) (x y : Int) (hx : 0 ≤ x ∧ x ≤ 9) (hy : 0 ≤ y ∧ y ≤ 9) (hi : isB g (x) (y - 1) = false) (w : World) (hA : At w bp 122 (pas g)) :
    Calls Tryd.prog 120 #[.pointer (some ⟨bp, 0, none⟩), .agg (arr 2 (sp x y)), .int .i64 0] w fun e w' => e = .returned (.bool true) ∧ Below w.heap.size w w' := by
  have hM : Mem w [(bp, 122, pas g)] w := (Mem.nil w).old hA (fun i p h => by simp at h)
  have Hi := Lib.hid hi
  clear hA hi
  have tk_b1 : True := trivial; have tk_b2 : True := trivial
  go_enter Tryd.func120, Tryd.ntmps120
  go_wp2_with (first | (have _t := tk_b1; refine wpList_box rfl _ _ rfl _ _ rfl hM ?_; intro b1 W' hb1 hM'; clear hM tk_b1; have hM := hM'; clear hM') | (refine wpList_get rfl _ _ rfl _ _ rfl hM 0 rfl (rowTab _ _ rfl) (by omega) ?_) | (have _t := tk_b2; refine wpList_zero rfl _ rfl (zeroTab _ _ _ rfl) hM ?_; intro b2 W' hb2 hM'; clear hM tk_b2; have hM := hM'; clear hM') | (refine wpList_lay rfl _ _ _ rfl _ _ rfl _ _ rfl hM 0 rfl (by assumption) (rowTab _ _ rfl) (by omega) ?_ ?_; (first | (intro _ _; rfl) | (intro k _; exact h1 _) | (intro k _; simp only [lay, upd]; (repeat' split) <;> first | exact h1 _ | rfl)); intro W' hM'; clear hM; have hM := hM'; clear hM'; simp only [List.set] at hM) | (go_at_call 76; refine (l01Next_0 x y (by omega) (by omega) _).mono ?_; rintro e W' ⟨rfl, hb'⟩; have hM' := hM.call hb'; clear hM hb'; have hM := hM'; clear hM') | (go_at_call 68; refine (l01Is_any g hg _ (x) (y - 1) (by omega) (by omega) _ (hM.ats 2 _ _ _ rfl)).mono ?_; rintro e W' ⟨rfl, hb'⟩; rw [Hi.out]; have hM' := hM.call hb'; clear hM hb'; have hM := hM'; clear hM'))
  go_ret
  exact ⟨rfl, hM.below⟩
set_option maxRecDepth 100000 in
set_option maxHeartbeats 1000000 in
theorem l01Closed_in0 (g : Nat → Int) (hg : Fits g) (bp : Nat) (x y : Nat) (hx : x ≤ 9) (hy : y ≤ 8) (hi : isB g (x) (y) = true) (w : World) (hA : At w bp 122 (pas g)) :
    Calls Tryd.prog 120 #[.pointer (some ⟨bp, 0, none⟩), .agg (arr 2 (sp (x) (y + 1))), .int .i64 0] w fun e w' => e = .returned (.bool (bitB (g (112 + y)) x)) ∧ Below w.heap.size w w' := by
  have hM : Mem w [(bp, 122, pas g)] w := (Mem.nil w).old hA (fun i p h => by simp at h)
  have Hi := Lib.hid hi
  have e0 : pas g (112 + y) = .int .u16 (g (112 + y)) := pas_u16 g (by omega)
  have hr := hg.bits (112 + y) (by omega) (by omega)
  have lx : (x : Int) < 10 := by omega
  have ly : (y : Int) < 10 := by omega
  have cx : IntKind.u64.wrap (x : Int) = x := IntWalk.u64_in _ (by omega)
  have mx : min x 16 = x := by omega
  have hb := bitB_eq (g (112 + y)) x
  clear hA hi
  have tk_b1 : True := trivial; have tk_b2 : True := trivial
  go_enter Tryd.func120, Tryd.ntmps120
  go_wp2_with (first | (have _t := tk_b1; refine wpList_box rfl _ _ rfl _ _ rfl hM ?_; intro b1 W' hb1 hM'; clear hM tk_b1; have hM := hM'; clear hM') | (refine wpList_get rfl _ _ rfl _ _ rfl hM 0 rfl (rowTab _ _ rfl) (by omega) ?_) | (have _t := tk_b2; refine wpList_zero rfl _ rfl (zeroTab _ _ _ rfl) hM ?_; intro b2 W' hb2 hM'; clear hM tk_b2; have hM := hM'; clear hM') | (refine wpList_lay rfl _ _ _ rfl _ _ rfl _ _ rfl hM 0 rfl (by assumption) (rowTab _ _ rfl) (by omega) ?_ ?_; (first | (intro _ _; rfl) | (intro k _; exact h1 _) | (intro k _; simp only [lay, upd]; (repeat' split) <;> first | exact h1 _ | rfl)); intro W' hM'; clear hM; have hM := hM'; clear hM'; simp only [List.set] at hM) | (go_at_call 76; refine (l01Next_0' x y (by omega) (by omega) _).mono ?_; rintro e W' ⟨rfl, hb'⟩; have hM' := hM.call hb'; clear hM hb'; have hM := hM'; clear hM') | (go_at_call 68; refine (l01Is_any g hg _ (x) (y) (by omega) (by omega) _ (hM.ats 2 _ _ _ rfl)).mono ?_; rintro e W' ⟨rfl, hb'⟩; rw [Hi.out]; have hM' := hM.call hb'; clear hM hb'; have hM := hM'; clear hM'))
  ((try simp only [Act.put, List.setIfInBounds_toArray, List.set_cons_succ, List.set_cons_zero]); refine wp_region_mem (by kernel_rfl) (by kernel_rfl) hM ?_; clear hM; (repeat (first | go_big_quiet_skip | (go_big_quiet_want; first | (refine quiet_get1 _ _ rfl _ _ rfl 0 rfl (cellTab _ rfl) (by omega) (.int .i8 (x : Int)) rfl ?_; (simp only [Act.put, List.setIfInBounds_toArray, List.set_cons_succ, List.set_cons_zero]); go_big_quiet_on) | (refine quiet_get1 _ _ rfl _ _ rfl 0 rfl (cellTab _ rfl) (by omega) (.int .i8 (y : Int)) rfl ?_; (simp only [Act.put, List.setIfInBounds_toArray, List.set_cons_succ, List.set_cons_zero]); go_big_quiet_on) | (refine quiet_get1 _ _ rfl _ _ rfl 1 rfl (cellTab _ rfl) (by omega) (.int .i8 (x : Int)) rfl ?_; (simp only [Act.put, List.setIfInBounds_toArray, List.set_cons_succ, List.set_cons_zero]); go_big_quiet_on) | (refine quiet_get1 _ _ rfl _ _ rfl 1 rfl (cellTab _ rfl) (by omega) (.int .i8 (y : Int)) rfl ?_; (simp only [Act.put, List.setIfInBounds_toArray, List.set_cons_succ, List.set_cons_zero]); go_big_quiet_on) | (refine quiet_get1 _ _ rfl _ _ rfl 2 rfl (cellTab _ rfl) (by omega) _ (e0) ?_; (simp only [Act.put, List.setIfInBounds_toArray, List.set_cons_succ, List.set_cons_zero]); go_big_quiet_on) | (refine quiet_val ?_; apply Exists.intro; refine ⟨fun W => ?_, ?_⟩; (go_simp; (try simp only [lx, ly, cx, mx, Int.toNat_natCast, if_true, Bool.false_eq_true, if_false]); rfl); (simp only [Act.put, List.setIfInBounds_toArray, List.set_cons_succ, List.set_cons_zero]); go_big_quiet_on)))); (with_reducible refine wpQuiet_nil ?_); intro W' hM)
  go_wp2
  go_ret
  exact ⟨rfl, hM.below⟩
set_option maxRecDepth 100000 in
set_option maxHeartbeats 1000000 in
theorem l01Closed_wall1 (g : Nat → Int) (hg : Fits g) (bp : Nat) (x y : Int) (hx : 0 ≤ x ∧ x ≤ 9) (hy : 0 ≤ y ∧ y ≤ 9) (hi : isB g (x + 1) (y) = false) (w : World) (hA : At w bp 122 (pas g)) :
    Calls Tryd.prog 120 #[.pointer (some ⟨bp, 0, none⟩), .agg (arr 2 (sp x y)), .int .i64 1] w fun e w' => e = .returned (.bool true) ∧ Below w.heap.size w w' := by
  have hM : Mem w [(bp, 122, pas g)] w := (Mem.nil w).old hA (fun i p h => by simp at h)
  have Hi := Lib.hid hi
  clear hA hi
  have tk_b1 : True := trivial; have tk_b2 : True := trivial
  go_enter Tryd.func120, Tryd.ntmps120
  go_wp2_with (first | (have _t := tk_b1; refine wpList_box rfl _ _ rfl _ _ rfl hM ?_; intro b1 W' hb1 hM'; clear hM tk_b1; have hM := hM'; clear hM') | (refine wpList_get rfl _ _ rfl _ _ rfl hM 0 rfl (rowTab _ _ rfl) (by omega) ?_) | (have _t := tk_b2; refine wpList_zero rfl _ rfl (zeroTab _ _ _ rfl) hM ?_; intro b2 W' hb2 hM'; clear hM tk_b2; have hM := hM'; clear hM') | (refine wpList_lay rfl _ _ _ rfl _ _ rfl _ _ rfl hM 0 rfl (by assumption) (rowTab _ _ rfl) (by omega) ?_ ?_; (first | (intro _ _; rfl) | (intro k _; exact h1 _) | (intro k _; simp only [lay, upd]; (repeat' split) <;> first | exact h1 _ | rfl)); intro W' hM'; clear hM; have hM := hM'; clear hM'; simp only [List.set] at hM) | (go_at_call 76; refine (l01Next_1 x y (by omega) (by omega) _).mono ?_; rintro e W' ⟨rfl, hb'⟩; have hM' := hM.call hb'; clear hM hb'; have hM := hM'; clear hM') | (go_at_call 68; refine (l01Is_any g hg _ (x + 1) (y) (by omega) (by omega) _ (hM.ats 2 _ _ _ rfl)).mono ?_; rintro e W' ⟨rfl, hb'⟩; rw [Hi.out]; have hM' := hM.call hb'; clear hM hb'; have hM := hM'; clear hM'))
  go_ret
  exact ⟨rfl, hM.below⟩
set_option maxRecDepth 100000 in
set_option maxHeartbeats 1000000 in
theorem l01Closed_in1 (g : Nat → Int) (hg : Fits g) (bp : Nat) (x y : Nat) (hx : x ≤ 8) (hy : y ≤ 9) (hi : isB g (x + 1) (y) = true) (w : World) (hA : At w bp 122 (pas g)) :
    Calls Tryd.prog 120 #[.pointer (some ⟨bp, 0, none⟩), .agg (arr 2 (sp (x) (y))), .int .i64 1] w fun e w' => e = .returned (.bool (bitB (g (102 + y)) x)) ∧ Below w.heap.size w w' := by
  have hM : Mem w [(bp, 122, pas g)] w := (Mem.nil w).old hA (fun i p h => by simp at h)
  have Hi := Lib.hid hi
  have e0 : pas g (102 + y) = .int .u16 (g (102 + y)) := pas_u16 g (by omega)
  have hr := hg.bits (102 + y) (by omega) (by omega)
  have lx : (x : Int) < 10 := by omega
  have ly : (y : Int) < 10 := by omega
  have cx : IntKind.u64.wrap (x : Int) = x := IntWalk.u64_in _ (by omega)
  have mx : min x 16 = x := by omega
  have hb := bitB_eq (g (102 + y)) x
  clear hA hi
  have tk_b1 : True := trivial; have tk_b2 : True := trivial
  go_enter Tryd.func120, Tryd.ntmps120
  go_wp2_with (first | (have _t := tk_b1; refine wpList_box rfl _ _ rfl _ _ rfl hM ?_; intro b1 W' hb1 hM'; clear hM tk_b1; have hM := hM'; clear hM') | (refine wpList_get rfl _ _ rfl _ _ rfl hM 0 rfl (rowTab _ _ rfl) (by omega) ?_) | (have _t := tk_b2; refine wpList_zero rfl _ rfl (zeroTab _ _ _ rfl) hM ?_; intro b2 W' hb2 hM'; clear hM tk_b2; have hM := hM'; clear hM') | (refine wpList_lay rfl _ _ _ rfl _ _ rfl _ _ rfl hM 0 rfl (by assumption) (rowTab _ _ rfl) (by omega) ?_ ?_; (first | (intro _ _; rfl) | (intro k _; exact h1 _) | (intro k _; simp only [lay, upd]; (repeat' split) <;> first | exact h1 _ | rfl)); intro W' hM'; clear hM; have hM := hM'; clear hM'; simp only [List.set] at hM) | (go_at_call 76; refine (l01Next_1 x y (by omega) (by omega) _).mono ?_; rintro e W' ⟨rfl, hb'⟩; have hM' := hM.call hb'; clear hM hb'; have hM := hM'; clear hM') | (go_at_call 68; refine (l01Is_any g hg _ (x + 1) (y) (by omega) (by omega) _ (hM.ats 2 _ _ _ rfl)).mono ?_; rintro e W' ⟨rfl, hb'⟩; rw [Hi.out]; have hM' := hM.call hb'; clear hM hb'; have hM := hM'; clear hM'))
  ((try simp only [Act.put, List.setIfInBounds_toArray, List.set_cons_succ, List.set_cons_zero]); refine wp_region_mem (by kernel_rfl) (by kernel_rfl) hM ?_; clear hM; (repeat (first | go_big_quiet_skip | (go_big_quiet_want; first | (refine quiet_get1 _ _ rfl _ _ rfl 0 rfl (cellTab _ rfl) (by omega) (.int .i8 (x : Int)) rfl ?_; (simp only [Act.put, List.setIfInBounds_toArray, List.set_cons_succ, List.set_cons_zero]); go_big_quiet_on) | (refine quiet_get1 _ _ rfl _ _ rfl 0 rfl (cellTab _ rfl) (by omega) (.int .i8 (y : Int)) rfl ?_; (simp only [Act.put, List.setIfInBounds_toArray, List.set_cons_succ, List.set_cons_zero]); go_big_quiet_on) | (refine quiet_get1 _ _ rfl _ _ rfl 1 rfl (cellTab _ rfl) (by omega) (.int .i8 (x : Int)) rfl ?_; (simp only [Act.put, List.setIfInBounds_toArray, List.set_cons_succ, List.set_cons_zero]); go_big_quiet_on) | (refine quiet_get1 _ _ rfl _ _ rfl 1 rfl (cellTab _ rfl) (by omega) (.int .i8 (y : Int)) rfl ?_; (simp only [Act.put, List.setIfInBounds_toArray, List.set_cons_succ, List.set_cons_zero]); go_big_quiet_on) | (refine quiet_get1 _ _ rfl _ _ rfl 2 rfl (cellTab _ rfl) (by omega) _ (e0) ?_; (simp only [Act.put, List.setIfInBounds_toArray, List.set_cons_succ, List.set_cons_zero]); go_big_quiet_on) | (refine quiet_val ?_; apply Exists.intro; refine ⟨fun W => ?_, ?_⟩; (go_simp; (try simp only [lx, ly, cx, mx, Int.toNat_natCast, if_true, Bool.false_eq_true, if_false]); rfl); (simp only [Act.put, List.setIfInBounds_toArray, List.set_cons_succ, List.set_cons_zero]); go_big_quiet_on)))); (with_reducible refine wpQuiet_nil ?_); intro W' hM)
  go_wp2
  go_ret
  exact ⟨rfl, hM.below⟩
set_option maxRecDepth 100000 in
set_option maxHeartbeats 1000000 in
theorem l01Closed_wall2 (g : Nat → Int) (hg : Fits g) (bp : Nat) (x y : Int) (hx : 0 ≤ x ∧ x ≤ 9) (hy : 0 ≤ y ∧ y ≤ 9) (hi : isB g (x) (y + 1) = false) (w : World) (hA : At w bp 122 (pas g)) :
    Calls Tryd.prog 120 #[.pointer (some ⟨bp, 0, none⟩), .agg (arr 2 (sp x y)), .int .i64 2] w fun e w' => e = .returned (.bool true) ∧ Below w.heap.size w w' := by
  have hM : Mem w [(bp, 122, pas g)] w := (Mem.nil w).old hA (fun i p h => by simp at h)
  have Hi := Lib.hid hi
  clear hA hi
  have tk_b1 : True := trivial; have tk_b2 : True := trivial
  go_enter Tryd.func120, Tryd.ntmps120
  go_wp2_with (first | (have _t := tk_b1; refine wpList_box rfl _ _ rfl _ _ rfl hM ?_; intro b1 W' hb1 hM'; clear hM tk_b1; have hM := hM'; clear hM') | (refine wpList_get rfl _ _ rfl _ _ rfl hM 0 rfl (rowTab _ _ rfl) (by omega) ?_) | (have _t := tk_b2; refine wpList_zero rfl _ rfl (zeroTab _ _ _ rfl) hM ?_; intro b2 W' hb2 hM'; clear hM tk_b2; have hM := hM'; clear hM') | (refine wpList_lay rfl _ _ _ rfl _ _ rfl _ _ rfl hM 0 rfl (by assumption) (rowTab _ _ rfl) (by omega) ?_ ?_; (first | (intro _ _; rfl) | (intro k _; exact h1 _) | (intro k _; simp only [lay, upd]; (repeat' split) <;> first | exact h1 _ | rfl)); intro W' hM'; clear hM; have hM := hM'; clear hM'; simp only [List.set] at hM) | (go_at_call 76; refine (l01Next_2 x y (by omega) (by omega) _).mono ?_; rintro e W' ⟨rfl, hb'⟩; have hM' := hM.call hb'; clear hM hb'; have hM := hM'; clear hM') | (go_at_call 68; refine (l01Is_any g hg _ (x) (y + 1) (by omega) (by omega) _ (hM.ats 2 _ _ _ rfl)).mono ?_; rintro e W' ⟨rfl, hb'⟩; rw [Hi.out]; have hM' := hM.call hb'; clear hM hb'; have hM := hM'; clear hM'))
  go_ret
  exact ⟨rfl, hM.below⟩
set_option maxRecDepth 100000 in
set_option maxHeartbeats 1000000 in
theorem l01Closed_in2 (g : Nat → Int) (hg : Fits g) (bp : Nat) (x y : Nat) (hx : x ≤ 9) (hy : y ≤ 8) (hi : isB g (x) (y + 1) = true) (w : World) (hA : At w bp 122 (pas g)) :
    Calls Tryd.prog 120 #[.pointer (some ⟨bp, 0, none⟩), .agg (arr 2 (sp (x) (y))), .int .i64 2] w fun e w' => e = .returned (.bool (bitB (g (112 + y)) x)) ∧ Below w.heap.size w w' := by
  have hM : Mem w [(bp, 122, pas g)] w := (Mem.nil w).old hA (fun i p h => by simp at h)
  have Hi := Lib.hid hi
  have e0 : pas g (112 + y) = .int .u16 (g (112 + y)) := pas_u16 g (by omega)
  have hr := hg.bits (112 + y) (by omega) (by omega)
  have lx : (x : Int) < 10 := by omega
  have ly : (y : Int) < 10 := by omega
  have cx : IntKind.u64.wrap (x : Int) = x := IntWalk.u64_in _ (by omega)
  have mx : min x 16 = x := by omega
  have hb := bitB_eq (g (112 + y)) x
  clear hA hi
  have tk_b1 : True := trivial; have tk_b2 : True := trivial
  go_enter Tryd.func120, Tryd.ntmps120
  go_wp2_with (first | (have _t := tk_b1; refine wpList_box rfl _ _ rfl _ _ rfl hM ?_; intro b1 W' hb1 hM'; clear hM tk_b1; have hM := hM'; clear hM') | (refine wpList_get rfl _ _ rfl _ _ rfl hM 0 rfl (rowTab _ _ rfl) (by omega) ?_) | (have _t := tk_b2; refine wpList_zero rfl _ rfl (zeroTab _ _ _ rfl) hM ?_; intro b2 W' hb2 hM'; clear hM tk_b2; have hM := hM'; clear hM') | (refine wpList_lay rfl _ _ _ rfl _ _ rfl _ _ rfl hM 0 rfl (by assumption) (rowTab _ _ rfl) (by omega) ?_ ?_; (first | (intro _ _; rfl) | (intro k _; exact h1 _) | (intro k _; simp only [lay, upd]; (repeat' split) <;> first | exact h1 _ | rfl)); intro W' hM'; clear hM; have hM := hM'; clear hM'; simp only [List.set] at hM) | (go_at_call 76; refine (l01Next_2 x y (by omega) (by omega) _).mono ?_; rintro e W' ⟨rfl, hb'⟩; have hM' := hM.call hb'; clear hM hb'; have hM := hM'; clear hM') | (go_at_call 68; refine (l01Is_any g hg _ (x) (y + 1) (by omega) (by omega) _ (hM.ats 2 _ _ _ rfl)).mono ?_; rintro e W' ⟨rfl, hb'⟩; rw [Hi.out]; have hM' := hM.call hb'; clear hM hb'; have hM := hM'; clear hM'))
  ((try simp only [Act.put, List.setIfInBounds_toArray, List.set_cons_succ, List.set_cons_zero]); refine wp_region_mem (by kernel_rfl) (by kernel_rfl) hM ?_; clear hM; (repeat (first | go_big_quiet_skip | (go_big_quiet_want; first | (refine quiet_get1 _ _ rfl _ _ rfl 0 rfl (cellTab _ rfl) (by omega) (.int .i8 (x : Int)) rfl ?_; (simp only [Act.put, List.setIfInBounds_toArray, List.set_cons_succ, List.set_cons_zero]); go_big_quiet_on) | (refine quiet_get1 _ _ rfl _ _ rfl 0 rfl (cellTab _ rfl) (by omega) (.int .i8 (y : Int)) rfl ?_; (simp only [Act.put, List.setIfInBounds_toArray, List.set_cons_succ, List.set_cons_zero]); go_big_quiet_on) | (refine quiet_get1 _ _ rfl _ _ rfl 1 rfl (cellTab _ rfl) (by omega) (.int .i8 (x : Int)) rfl ?_; (simp only [Act.put, List.setIfInBounds_toArray, List.set_cons_succ, List.set_cons_zero]); go_big_quiet_on) | (refine quiet_get1 _ _ rfl _ _ rfl 1 rfl (cellTab _ rfl) (by omega) (.int .i8 (y : Int)) rfl ?_; (simp only [Act.put, List.setIfInBounds_toArray, List.set_cons_succ, List.set_cons_zero]); go_big_quiet_on) | (refine quiet_get1 _ _ rfl _ _ rfl 2 rfl (cellTab _ rfl) (by omega) _ (e0) ?_; (simp only [Act.put, List.setIfInBounds_toArray, List.set_cons_succ, List.set_cons_zero]); go_big_quiet_on) | (refine quiet_val ?_; apply Exists.intro; refine ⟨fun W => ?_, ?_⟩; (go_simp; (try simp only [lx, ly, cx, mx, Int.toNat_natCast, if_true, Bool.false_eq_true, if_false]); rfl); (simp only [Act.put, List.setIfInBounds_toArray, List.set_cons_succ, List.set_cons_zero]); go_big_quiet_on)))); (with_reducible refine wpQuiet_nil ?_); intro W' hM)
  go_wp2
  go_ret
  exact ⟨rfl, hM.below⟩
set_option maxRecDepth 100000 in
set_option maxHeartbeats 1000000 in
theorem l01Closed_wall3 (g : Nat → Int) (hg : Fits g) (bp : Nat) (x y : Int) (hx : 0 ≤ x ∧ x ≤ 9) (hy : 0 ≤ y ∧ y ≤ 9) (hi : isB g (x - 1) (y) = false) (w : World) (hA : At w bp 122 (pas g)) :
    Calls Tryd.prog 120 #[.pointer (some ⟨bp, 0, none⟩), .agg (arr 2 (sp x y)), .int .i64 3] w fun e w' => e = .returned (.bool true) ∧ Below w.heap.size w w' := by
  have hM : Mem w [(bp, 122, pas g)] w := (Mem.nil w).old hA (fun i p h => by simp at h)
  have Hi := Lib.hid hi
  clear hA hi
  have tk_b1 : True := trivial; have tk_b2 : True := trivial
  go_enter Tryd.func120, Tryd.ntmps120
  go_wp2_with (first | (have _t := tk_b1; refine wpList_box rfl _ _ rfl _ _ rfl hM ?_; intro b1 W' hb1 hM'; clear hM tk_b1; have hM := hM'; clear hM') | (refine wpList_get rfl _ _ rfl _ _ rfl hM 0 rfl (rowTab _ _ rfl) (by omega) ?_) | (have _t := tk_b2; refine wpList_zero rfl _ rfl (zeroTab _ _ _ rfl) hM ?_; intro b2 W' hb2 hM'; clear hM tk_b2; have hM := hM'; clear hM') | (refine wpList_lay rfl _ _ _ rfl _ _ rfl _ _ rfl hM 0 rfl (by assumption) (rowTab _ _ rfl) (by omega) ?_ ?_; (first | (intro _ _; rfl) | (intro k _; exact h1 _) | (intro k _; simp only [lay, upd]; (repeat' split) <;> first | exact h1 _ | rfl)); intro W' hM'; clear hM; have hM := hM'; clear hM'; simp only [List.set] at hM) | (go_at_call 76; refine (l01Next_3 x y (by omega) (by omega) _).mono ?_; rintro e W' ⟨rfl, hb'⟩; have hM' := hM.call hb'; clear hM hb'; have hM := hM'; clear hM') | (go_at_call 68; refine (l01Is_any g hg _ (x - 1) (y) (by omega) (by omega) _ (hM.ats 2 _ _ _ rfl)).mono ?_; rintro e W' ⟨rfl, hb'⟩; rw [Hi.out]; have hM' := hM.call hb'; clear hM hb'; have hM := hM'; clear hM'))
  go_ret
  exact ⟨rfl, hM.below⟩
set_option maxRecDepth 100000 in
set_option maxHeartbeats 1000000 in
theorem l01Closed_in3 (g : Nat → Int) (hg : Fits g) (bp : Nat) (x y : Nat) (hx : x ≤ 8) (hy : y ≤ 9) (hi : isB g (x) (y) = true) (w : World) (hA : At w bp 122 (pas g)) :
    Calls Tryd.prog 120 #[.pointer (some ⟨bp, 0, none⟩), .agg (arr 2 (sp (x + 1) (y))), .int .i64 3] w fun e w' => e = .returned (.bool (bitB (g (102 + y)) x)) ∧ Below w.heap.size w w' := by
  have hM : Mem w [(bp, 122, pas g)] w := (Mem.nil w).old hA (fun i p h => by simp at h)
  have Hi := Lib.hid hi
  have e0 : pas g (102 + y) = .int .u16 (g (102 + y)) := pas_u16 g (by omega)
  have hr := hg.bits (102 + y) (by omega) (by omega)
  have lx : (x : Int) < 10 := by omega
  have ly : (y : Int) < 10 := by omega
  have cx : IntKind.u64.wrap (x : Int) = x := IntWalk.u64_in _ (by omega)
  have mx : min x 16 = x := by omega
  have hb := bitB_eq (g (102 + y)) x
  clear hA hi
  have tk_b1 : True := trivial; have tk_b2 : True := trivial
  go_enter Tryd.func120, Tryd.ntmps120
  go_wp2_with (first | (have _t := tk_b1; refine wpList_box rfl _ _ rfl _ _ rfl hM ?_; intro b1 W' hb1 hM'; clear hM tk_b1; have hM := hM'; clear hM') | (refine wpList_get rfl _ _ rfl _ _ rfl hM 0 rfl (rowTab _ _ rfl) (by omega) ?_) | (have _t := tk_b2; refine wpList_zero rfl _ rfl (zeroTab _ _ _ rfl) hM ?_; intro b2 W' hb2 hM'; clear hM tk_b2; have hM := hM'; clear hM') | (refine wpList_lay rfl _ _ _ rfl _ _ rfl _ _ rfl hM 0 rfl (by assumption) (rowTab _ _ rfl) (by omega) ?_ ?_; (first | (intro _ _; rfl) | (intro k _; exact h1 _) | (intro k _; simp only [lay, upd]; (repeat' split) <;> first | exact h1 _ | rfl)); intro W' hM'; clear hM; have hM := hM'; clear hM'; simp only [List.set] at hM) | (go_at_call 76; refine (l01Next_3' x y (by omega) (by omega) _).mono ?_; rintro e W' ⟨rfl, hb'⟩; have hM' := hM.call hb'; clear hM hb'; have hM := hM'; clear hM') | (go_at_call 68; refine (l01Is_any g hg _ (x) (y) (by omega) (by omega) _ (hM.ats 2 _ _ _ rfl)).mono ?_; rintro e W' ⟨rfl, hb'⟩; rw [Hi.out]; have hM' := hM.call hb'; clear hM hb'; have hM := hM'; clear hM'))
  ((try simp only [Act.put, List.setIfInBounds_toArray, List.set_cons_succ, List.set_cons_zero]); refine wp_region_mem (by kernel_rfl) (by kernel_rfl) hM ?_; clear hM; (repeat (first | go_big_quiet_skip | (go_big_quiet_want; first | (refine quiet_get1 _ _ rfl _ _ rfl 0 rfl (cellTab _ rfl) (by omega) (.int .i8 (x : Int)) rfl ?_; (simp only [Act.put, List.setIfInBounds_toArray, List.set_cons_succ, List.set_cons_zero]); go_big_quiet_on) | (refine quiet_get1 _ _ rfl _ _ rfl 0 rfl (cellTab _ rfl) (by omega) (.int .i8 (y : Int)) rfl ?_; (simp only [Act.put, List.setIfInBounds_toArray, List.set_cons_succ, List.set_cons_zero]); go_big_quiet_on) | (refine quiet_get1 _ _ rfl _ _ rfl 1 rfl (cellTab _ rfl) (by omega) (.int .i8 (x : Int)) rfl ?_; (simp only [Act.put, List.setIfInBounds_toArray, List.set_cons_succ, List.set_cons_zero]); go_big_quiet_on) | (refine quiet_get1 _ _ rfl _ _ rfl 1 rfl (cellTab _ rfl) (by omega) (.int .i8 (y : Int)) rfl ?_; (simp only [Act.put, List.setIfInBounds_toArray, List.set_cons_succ, List.set_cons_zero]); go_big_quiet_on) | (refine quiet_get1 _ _ rfl _ _ rfl 2 rfl (cellTab _ rfl) (by omega) _ (e0) ?_; (simp only [Act.put, List.setIfInBounds_toArray, List.set_cons_succ, List.set_cons_zero]); go_big_quiet_on) | (refine quiet_val ?_; apply Exists.intro; refine ⟨fun W => ?_, ?_⟩; (go_simp; (try simp only [lx, ly, cx, mx, Int.toNat_natCast, if_true, Bool.false_eq_true, if_false]); rfl); (simp only [Act.put, List.setIfInBounds_toArray, List.set_cons_succ, List.set_cons_zero]); go_big_quiet_on)))); (with_reducible refine wpQuiet_nil ?_); intro W' hM)
  go_wp2
  go_ret
  exact ⟨rfl, hM.below⟩

theorem l01Closed_any (g : Nat → Int) (hg : Fits g) (ho : okB g = true) (bp : Nat) (k : Nat) (hk : k < 4) (x y : Int) (hx : 0 ≤ x ∧ x ≤ 9) (hy : 0 ≤ y ∧ y ≤ 9) (w : World) (hA : At w bp 122 (pas g)) :
    Calls Tryd.prog 120 #[.pointer (some ⟨bp, 0, none⟩), .agg (arr 2 (sp x y)), .int .i64 k] w fun e w' => e = .returned (.bool (closedB g k x y)) ∧ Below w.heap.size w w' := by
  rcases (show k = 0 ∨ k = 1 ∨ k = 2 ∨ k = 3 by omega) with rfl | rfl | rfl | rfl
  · cases hi : isB g x (y - 1)
    · rw [closedB_wall (k := 0) hi]
      exact l01Closed_wall0 g hg bp x y hx hy hi w hA
    · rw [closedB_in (k := 0) hi]
      have hb := isB_bounds ho hi
      obtain ⟨y, rfl⟩ : ∃ n : Nat, y = n + 1 := ⟨(y - 1).toNat, by omega⟩
      obtain ⟨x, rfl⟩ : ∃ n : Nat, x = n := ⟨x.toNat, by omega⟩
      simp only [show (y : Int) + 1 - 1 = y by omega] at hi hb
      have he : fenceB g 0 (x) (y + 1) = bitB (g (112 + y)) x := by simp [fenceB, sideRow, sideBit]
      rw [he]
      exact l01Closed_in0 g hg bp x y (by omega) (by omega) hi w hA
  · cases hi : isB g (x + 1) y
    · rw [closedB_wall (k := 1) hi]
      exact l01Closed_wall1 g hg bp x y hx hy hi w hA
    · rw [closedB_in (k := 1) hi]
      have hb := isB_bounds ho hi
      obtain ⟨y, rfl⟩ : ∃ n : Nat, y = n := ⟨y.toNat, by omega⟩
      obtain ⟨x, rfl⟩ : ∃ n : Nat, x = n := ⟨x.toNat, by omega⟩
      skip
      have he : fenceB g 1 (x) (y) = bitB (g (102 + y)) x := by simp [fenceB, sideRow, sideBit]
      rw [he]
      exact l01Closed_in1 g hg bp x y (by omega) (by omega) hi w hA
  · cases hi : isB g x (y + 1)
    · rw [closedB_wall (k := 2) hi]
      exact l01Closed_wall2 g hg bp x y hx hy hi w hA
    · rw [closedB_in (k := 2) hi]
      have hb := isB_bounds ho hi
      obtain ⟨y, rfl⟩ : ∃ n : Nat, y = n := ⟨y.toNat, by omega⟩
      obtain ⟨x, rfl⟩ : ∃ n : Nat, x = n := ⟨x.toNat, by omega⟩
      skip
      have he : fenceB g 2 (x) (y) = bitB (g (112 + y)) x := by simp [fenceB, sideRow, sideBit]
      rw [he]
      exact l01Closed_in2 g hg bp x y (by omega) (by omega) hi w hA
  · cases hi : isB g (x - 1) y
    · rw [closedB_wall (k := 3) hi]
      exact l01Closed_wall3 g hg bp x y hx hy hi w hA
    · rw [closedB_in (k := 3) hi]
      have hb := isB_bounds ho hi
      obtain ⟨y, rfl⟩ : ∃ n : Nat, y = n := ⟨y.toNat, by omega⟩
      obtain ⟨x, rfl⟩ : ∃ n : Nat, x = n + 1 := ⟨(x - 1).toNat, by omega⟩
      simp only [show (x : Int) + 1 - 1 = x by omega] at hi hb
      have he : fenceB g 3 (x + 1) (y) = bitB (g (102 + y)) x := by simp [fenceB, sideRow, sideBit]
      rw [he]
      exact l01Closed_in3 g hg bp x y (by omega) (by omega) hi w hA
end Go.Proofs.YtbmaljhnldepoaaDoor

