/-
  spec.l01Asked, laws.toSpot, (impl.Pasture).grassAt by contracts.
-/
import Derived.Test.YtdlfhomnlhdacaaDoorConv
import Derived.Test.YtdlfhomnlhdacaaDoorValidB
import Derived.Test.YtdlfhomnlhdacaaDoorCheck
namespace Go.Proofs.YtdlfhomnlhdacaaDoor
open Go Go.RowKit Go.BigFrame

/-- The code of a pasture and a cell, and whether another thing is as told. -/
def askC (g : Nat → Int) (x y : Int) (fine : Bool) : Int := if okB g then (if isB g x y && fine then 0 else 2) else 1
theorem askC_bad {g : Nat → Int} {x y : Int} {f : Bool} (h : okB g = false) : askC g x y f = 1 := by simp [askC, h]
theorem askC_out {g : Nat → Int} {x y : Int} {f : Bool} (h : okB g = true) (h2 : isB g x y = false) : askC g x y f = 2 := by simp [askC, h, h2]
theorem askC_fine {g : Nat → Int} {x y : Int} (h : okB g = true) (h2 : isB g x y = true) : askC g x y false = 2 := by simp [askC, h, h2]
theorem askC_ok {g : Nat → Int} {x y : Int} (h : okB g = true) (h2 : isB g x y = true) : askC g x y true = 0 := by simp [askC, h, h2]
theorem ret_i {k : IntKind} {a b : Int} (h : a = b) : Ending.returned (.int k a) = .returned (.int k b) := by rw [h]

set_option maxHeartbeats 400000 in
theorem l01Asked_any (g : Nat → Int) (hg : Fits g) (bp : Nat) (x y : Int) (hx : -128 ≤ x ∧ x ≤ 127) (hy : -128 ≤ y ∧ y ≤ 127) (fine : Bool) (w : World) (hA : At w bp 122 (pas g)) :
    Calls Tryd.prog 57 #[.pointer (some ⟨bp, 0, none⟩), .agg (arr 2 (sp x y)), .bool fine] w fun e w' => e = .returned (.int .i64 (askC g x y fine)) ∧ Below w.heap.size w w' := by
  have hM : Mem w [(bp, 122, pas g)] w := (Mem.nil w).old hA (fun i p h => by simp at h)
  clear hA
  cases ho : okB g
  · have Ho := Lib.hid ho
    clear ho
    have tk_b1 : True := trivial
    go_enter Tryd.func57, Tryd.ntmps57
    go_wp2_with (first | (have _t := tk_b1; refine wpList_box rfl _ _ rfl _ _ rfl hM ?_; intro b1 W' hb1 hM'; clear hM tk_b1; have hM := hM'; clear hM') | (go_at_call 71; refine (l01Ok_any g hg _ _ (hM.ats 1 _ _ _ rfl)).mono ?_; rintro e W' ⟨rfl, hb'⟩; rw [Ho.out]; have hM' := hM.call hb'; clear hM hb'; have hM := hM'; clear hM'))
    go_ret
    exact ⟨ret_i (askC_bad Ho.out).symm, hM.below⟩
  have Ho := Lib.hid ho
  clear ho
  cases hi : isB g x y
  · have Hi := Lib.hid hi
    clear hi
    have tk_b1 : True := trivial
    go_enter Tryd.func57, Tryd.ntmps57
    go_wp2_with (first | (have _t := tk_b1; refine wpList_box rfl _ _ rfl _ _ rfl hM ?_; intro b1 W' hb1 hM'; clear hM tk_b1; have hM := hM'; clear hM') | (refine wpList_get rfl _ _ rfl _ _ rfl hM 0 rfl (rowTab _ _ rfl) (by omega) ?_) | (go_at_call 71; refine (l01Ok_any g hg _ _ (hM.ats 1 _ _ _ rfl)).mono ?_; rintro e W' ⟨rfl, hb'⟩; rw [Ho.out]; have hM' := hM.call hb'; clear hM hb'; have hM := hM'; clear hM') | (go_at_call 66; refine (l01Is_any g hg _ x y hx hy _ (hM.ats 1 _ _ _ rfl)).mono ?_; rintro e W' ⟨rfl, hb'⟩; rw [Hi.out]; have hM' := hM.call hb'; clear hM hb'; have hM := hM'; clear hM'))
    go_ret
    exact ⟨ret_i (askC_out Ho.out Hi.out).symm, hM.below⟩
  have Hi := Lib.hid hi
  clear hi
  cases fine
  · have tk_b1 : True := trivial
    go_enter Tryd.func57, Tryd.ntmps57
    go_wp2_with (first | (have _t := tk_b1; refine wpList_box rfl _ _ rfl _ _ rfl hM ?_; intro b1 W' hb1 hM'; clear hM tk_b1; have hM := hM'; clear hM') | (refine wpList_get rfl _ _ rfl _ _ rfl hM 0 rfl (rowTab _ _ rfl) (by omega) ?_) | (go_at_call 71; refine (l01Ok_any g hg _ _ (hM.ats 1 _ _ _ rfl)).mono ?_; rintro e W' ⟨rfl, hb'⟩; rw [Ho.out]; have hM' := hM.call hb'; clear hM hb'; have hM := hM'; clear hM') | (go_at_call 66; refine (l01Is_any g hg _ x y hx hy _ (hM.ats 1 _ _ _ rfl)).mono ?_; rintro e W' ⟨rfl, hb'⟩; rw [Hi.out]; have hM' := hM.call hb'; clear hM hb'; have hM := hM'; clear hM'))
    go_ret
    exact ⟨ret_i (askC_fine Ho.out Hi.out).symm, hM.below⟩
  · have tk_b1 : True := trivial
    go_enter Tryd.func57, Tryd.ntmps57
    go_wp2_with (first | (have _t := tk_b1; refine wpList_box rfl _ _ rfl _ _ rfl hM ?_; intro b1 W' hb1 hM'; clear hM tk_b1; have hM := hM'; clear hM') | (refine wpList_get rfl _ _ rfl _ _ rfl hM 0 rfl (rowTab _ _ rfl) (by omega) ?_) | (go_at_call 71; refine (l01Ok_any g hg _ _ (hM.ats 1 _ _ _ rfl)).mono ?_; rintro e W' ⟨rfl, hb'⟩; rw [Ho.out]; have hM' := hM.call hb'; clear hM hb'; have hM := hM'; clear hM') | (go_at_call 66; refine (l01Is_any g hg _ x y hx hy _ (hM.ats 1 _ _ _ rfl)).mono ?_; rintro e W' ⟨rfl, hb'⟩; rw [Hi.out]; have hM' := hM.call hb'; clear hM hb'; have hM := hM'; clear hM'))
    go_ret
    exact ⟨ret_i (askC_ok Ho.out Hi.out).symm, hM.below⟩



/-- The place of a cell's grass. -/
def gPlace (x y : Int) : Nat := 2 + y.toNat * 10 + x.toNat

theorem isB_bounds {g : Nat → Int} {x y : Int} (ho : okB g = true) (hi : isB g x y = true) : 0 ≤ x ∧ x < g 0 ∧ g 0 ≤ 10 ∧ 0 ≤ y ∧ y < g 1 ∧ g 1 ≤ 10 := by
  unfold okB at ho
  unfold isB at hi
  rw [Bool.and_eq_true] at ho hi
  rw [Bool.and_eq_true] at ho
  have a1 := inB_true ho.1.1
  have a2 := inB_true ho.1.2
  have a3 := inB_true hi.1
  have a4 := inB_true hi.2
  omega

set_option maxHeartbeats 400000 in
theorem grassAt_any (g : Nat → Int) (hg : Fits g) (x y : Nat) (hx : x < 10) (hy : y < 10) (w : World) :
    Calls Tryd.prog 61 #[.agg (arr 122 (pas g)), .agg (arr 2 (sp x y))] w fun e w' => e = .returned (.int .i64 (g (2 + y * 10 + x))) ∧ Below w.heap.size w w' := by
  have hM := Mem.nil w
  have hr := hg.grass (2 + y * 10 + x) (by omega) (by omega)
  have e0 : pas g (2 + y * 10 + x) = .int .i16 (g (2 + y * 10 + x)) := pas_i16 g (by omega) (by omega)
  have c0 : IntKind.i64.wrap (g (2 + y * 10 + x)) = g (2 + y * 10 + x) := IntWalk.i64_in _ (by omega)
  have lx : (x : Int) < 10 := by omega
  have ly : (y : Int) < 10 := by omega
  have tk_b1 : True := trivial; have tk_b2 : True := trivial
  go_enter Tryd.func61, Tryd.ntmps61
  go_wp2_with (first | (have _t := tk_b1; refine wpList_box rfl _ _ rfl _ _ rfl hM ?_; intro b1 W' hb1 hM'; clear hM tk_b1; have hM := hM'; clear hM') | (have _t := tk_b2; refine wpList_box rfl _ _ rfl _ _ rfl hM ?_; intro b2 W' hb2 hM'; clear hM tk_b2; have hM := hM'; clear hM'))
  ((try simp only [Act.put, List.setIfInBounds_toArray, List.set_cons_succ, List.set_cons_zero]); refine wp_region_mem (by kernel_rfl) (by kernel_rfl) hM ?_; clear hM; (repeat (first | go_big_quiet_skip | (go_big_quiet_want; first | (refine quiet_get1 _ _ rfl _ _ rfl 0 rfl (cellTab _ rfl) (by omega) (.int .i8 (y : Int)) rfl ?_; (simp only [Act.put, List.setIfInBounds_toArray, List.set_cons_succ, List.set_cons_zero]); go_big_quiet_on) | (refine quiet_get1 _ _ rfl _ _ rfl 0 rfl (cellTab _ rfl) (by omega) (.int .i8 (x : Int)) rfl ?_; (simp only [Act.put, List.setIfInBounds_toArray, List.set_cons_succ, List.set_cons_zero]); go_big_quiet_on) | (refine quiet_get1 _ _ rfl _ _ rfl 1 rfl (cellTab _ rfl) (by omega) _ (e0) ?_; (simp only [Act.put, List.setIfInBounds_toArray, List.set_cons_succ, List.set_cons_zero]); go_big_quiet_on) | (refine quiet_val ?_; apply Exists.intro; refine ⟨fun W => ?_, ?_⟩; (go_simp; (try simp only [lx, ly, if_true, Bool.false_eq_true, if_false]); rfl); (simp only [Act.put, List.setIfInBounds_toArray, List.set_cons_succ, List.set_cons_zero]); go_big_quiet_on)))); (with_reducible refine wpQuiet_nil ?_); intro W' hM)
  go_wp2
  go_ret
  exact ⟨rfl, hM.below⟩
theorem askC_cases (g : Nat → Int) (x y : Int) (f : Bool) : (okB g = false ∧ askC g x y f = 1) ∨ (okB g = true ∧ (isB g x y && f) = false ∧ askC g x y f = 2) ∨ (okB g = true ∧ isB g x y = true ∧ f = true ∧ askC g x y f = 0) := by
  cases h1 : okB g <;> cases h2 : isB g x y <;> cases f <;> simp [askC, h1, h2]

end Go.Proofs.YtdlfhomnlhdacaaDoor
