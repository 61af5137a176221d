/-
  Several texts in one: Check, Asked, SumB, Own, Lists, ListN, CutMath, ToSpot.
-/
import Derived.Test.YtbmaljhnldepoaaDoorP4
import Derived.Deep.DeepAppendWide
import Derived.ArgAppend
import Derived.Test.YtbmaljhnldepoaaDoorP2
/-
  impl.checkCells by contracts.
-/
namespace Go.Proofs.YtbmaljhnldepoaaDoor
open Go Go.RowKit Go.BigFrame

theorem spot_under : Tryd.prog.underlying 32 = some (.slice 37) := Tryd.underlying32
theorem spot_info : (Tryd.prog.info? 37).map (fun i => (i.size, i.zero)) = some (2, some (.agg (arr 2 fun _ => .int .i8 0))) := by kernel_rfl
/-- Spots one behind the other. -/
def sps (s : Nat → Int × Int) : Nat → Value := fun k => .int .i8 (if k % 2 = 0 then (s (k / 2)).1 else (s (k / 2)).2)
theorem sp_sps (x y : Int) : ∀ k, k < 2 → sp x y k = sps (fun _ => (x, y)) k := fun k hk => by
  rcases (show k = 0 ∨ k = 1 by omega) with rfl | rfl <;> rfl
theorem sp_sps0 (x y : Int) : ∀ k, k < 2 → sp x y (0 + k) = sps (fun _ => (x, y)) k := fun k hk => by
  rw [Nat.zero_add]; exact sp_sps x y k hk
/-- The first n of them are all cells. -/
def allB (g : Nat → Int) (s : Nat → Int × Int) (n : Nat) : Bool := (List.range n).all fun i => isB g (s i).1 (s i).2
theorem allB_zero (g : Nat → Int) (s : Nat → Int × Int) : allB g s 0 = true := rfl
theorem allB_one (g : Nat → Int) (s : Nat → Int × Int) : allB g s 1 = isB g (s 0).1 (s 0).2 := by simp [allB, List.range_succ]
theorem allB_no {g : Nat → Int} {s : Nat → Int × Int} {n i : Nat} (hi : i < n) (h : isB g (s i).1 (s i).2 = false) : allB g s n = false := by
  unfold allB; rw [List.all_eq_false]; exact ⟨i, by simpa using hi, by rw [h]; decide⟩
theorem allB_yes {g : Nat → Int} {s : Nat → Int × Int} {n : Nat} (h : ∀ i, i < n → isB g (s i).1 (s i).2 = true) : allB g s n = true := by
  unfold allB; rw [List.all_eq_true]; intro i hi; exact h i (by simpa using hi)

/-- What checkCells answers of a valid pasture. -/
def chkS (a : Nat → Addr) (g : Nat → Int) (s : Nat → Int × Int) (n : Nat) : Value := if allB g s n then .nilIface else errV (a 1)
theorem chkS_yes {a : Nat → Addr} {g : Nat → Int} {s : Nat → Int × Int} {n : Nat} (h : allB g s n = true) : chkS a g s n = .nilIface := by simp [chkS, h]
theorem chkS_no {a : Nat → Addr} {g : Nat → Int} {s : Nat → Int × Int} {n : Nat} (h : allB g s n = false) : chkS a g s n = errV (a 1) := by simp [chkS, h]
theorem ret_v {a b : Value} (h : a = b) : Ending.returned a = .returned b := by rw [h]

set_option maxRecDepth 100000 in
set_option maxHeartbeats 2000000 in
theorem checkCells_bad {a : Nat → Addr} (g : Nat → Int) (hg : Fits g) (v : Value) (w : World) (hE : Errs a w) (hv : validB g = false) :
    Calls Tryd.prog 55 #[.agg (arr 122 (pas g)), v] w fun e w' => e = .returned (errV (a 0)) ∧ Below w.heap.size w w' := by
  have hM := Mem.nil w
  have hi := fun W => implValid_any g hg W
  rw [hv] at hi
  have H := Lib.hid hE
  have Hi := Lib.hid hi
  clear hv hi hE
  have tk_b1 : True := trivial
  go_enter Tryd.func55, Tryd.ntmps55
  go_wp2_with (first | (have _t := tk_b1; refine wpList_box rfl _ _ rfl _ _ rfl hM ?_; intro b1 W' hb1 hM'; clear hM tk_b1; have hM := hM'; clear hM') | (refine wpList_get rfl _ _ rfl _ _ rfl hM 0 rfl (rowTab _ _ rfl) (by omega) ?_) | (go_at_call 106; refine (Hi.out _).mono ?_; rintro e W' ⟨rfl, hb'⟩; have hM' := hM.call hb'; have hE' := H.out.below hM'.below; have v0 : W'.cell? ⟨0, 0, none⟩ = some (errV (a 0)) := hE'.vars 0 (by omega); clear hM hb' hE'; have hM := hM'; clear hM'))
  go_ret
  exact ⟨rfl, hM.below⟩

set_option maxRecDepth 100000 in
set_option maxHeartbeats 2000000 in
/-- No spots. -/
theorem checkCells_nil (g : Nat → Int) (hg : Fits g) (w : World) (hv : validB g = true) :
    Calls Tryd.prog 55 #[.agg (arr 122 (pas g)), .slice none 0 0] w fun e w' => e = .returned .nilIface ∧ Below w.heap.size w w' := by
  have hM := Mem.nil w
  have hi := fun W => implValid_any g hg W
  rw [hv] at hi
  have Hi := Lib.hid hi
  clear hv hi
  have tk_b1 : True := trivial
  go_enter Tryd.func55, Tryd.ntmps55
  go_wp2_with (first | (have _t := tk_b1; refine wpList_box rfl _ _ rfl _ _ rfl hM ?_; intro b1 W' hb1 hM'; clear hM tk_b1; have hM := hM'; clear hM') | (refine wpList_get rfl _ _ rfl _ _ rfl hM 0 rfl (rowTab _ _ rfl) (by omega) ?_) | (go_at_call 106; refine (Hi.out _).mono ?_; rintro e W' ⟨rfl, hb'⟩; have hM' := hM.call hb'; clear hM hb'; have hM := hM'; clear hM'))
  refine wp_loop_rounds 1 ?_
  rw [rounds_succ]
  go_wp2
  go_ret
  exact ⟨rfl, hM.below⟩

theorem sps_fst (s : Nat → Int × Int) (k : Nat) : sps s (k * 2 + 0) = .int .i8 (s k).1 := by
  simp [sps]
theorem sps_snd (s : Nat → Int × Int) (k : Nat) : sps s (k * 2 + 1) = .int .i8 (s k).2 := by
  have : (k * 2 + 1) / 2 = k := by omega
  simp [sps, this]

theorem lay_sp0 (z : Nat → Value) (s : Nat → Int × Int) (k : Nat) : lay z 0 2 (fun j => sps s (k * 2 + j)) 0 = .int .i8 (s k).1 := by
  simpa [lay] using sps_fst s k
theorem lay_sp1 (z : Nat → Value) (s : Nat → Int × Int) (k : Nat) : lay z 0 2 (fun j => sps s (k * 2 + j)) 1 = .int .i8 (s k).2 := by
  simpa [lay] using sps_snd s k

set_option maxRecDepth 100000 in
set_option maxHeartbeats 2000000 in
/-- Spots in a block. -/
theorem checkCells_some {a : Nat → Addr} (g : Nat → Int) (hg : Fits g) (bl n c N : Nat) (s : Nat → Int × Int) (hN : 2 * n ≤ N) (hn : n ≤ maxLen) (w : World) (hA : At w bl N (sps s)) (hE : Errs a w) (hv : validB g = true) :
    Calls Tryd.prog 55 #[.agg (arr 122 (pas g)), .slice (some ⟨bl, 0, none⟩) n c] w fun e w' => e = .returned (chkS a g s n) ∧ Below w.heap.size w w' := by
  have hM := (Mem.nil w).old hA (fun i p h => by simp at h)
  simp only [List.nil_append] at hM
  have hi := fun W => implValid_any g hg W
  rw [hv] at hi
  have Hi := Lib.hid hi
  have HE := Lib.hid hE
  unfold maxLen at hn
  clear hv hi hA hE
  have tk_b1 : True := trivial
  go_enter Tryd.func55, Tryd.ntmps55
  go_wp2_with (first | (have _t := tk_b1; refine wpList_box rfl _ _ rfl _ _ rfl hM ?_; intro b1 W' hb1 hM'; clear hM tk_b1; have hM := hM'; clear hM') | (refine wpList_get rfl _ _ rfl _ _ rfl hM 0 rfl (rowTab _ _ rfl) (by omega) ?_) | (go_at_call 106; refine (Hi.out _).mono ?_; rintro e W' ⟨rfl, hb'⟩; have hM' := hM.call hb'; clear hM hb'; have hM := hM'; clear hM'))
  go_loopw [13] (fun i wr => ∃ k : Nat, k ≤ n ∧ i = .int .i64 k ∧ Hid (∀ j, j < k → isB g (s j).1 (s j).2 = true) ∧ Mem w [(b1, 122, pas g), (bl, N, sps s)] wr) (fun i _ => n - (intOf i).toNat)
  case atStart => exact ⟨0, by omega, rfl, Lib.hid (fun j hj => absurd hj (by omega)), hM⟩
  case round =>
    clear hM
    obtain ⟨k, hk, rfl, hall, hM⟩ := hrel
    by_cases hlt : k < n
    · cases hB : isB g (s k).1 (s k).2
      · have HB := Lib.hid hB
        clear hB
        have tk_b2 : True := trivial
        go_wp2_with (first | (refine wpList_get rfl _ _ rfl _ _ rfl hM 1 rfl (rowTab _ _ rfl) (by omega) ?_) | (have _t := tk_b2; refine wpList_zero rfl _ rfl (zeroTab _ _ _ rfl) hM ?_; intro b2 W' hb2 hM'; clear hM tk_b2; have hM := hM'; clear hM') | (refine wpList_lay rfl _ _ _ rfl _ _ rfl _ _ rfl hM 0 rfl (by assumption) (rowTab _ _ rfl) (by omega) ?_ ?_; (first | (intro _ _; rfl) | (intro k _; exact h1 _) | (intro k _; simp only [lay, upd]; (repeat' split) <;> first | exact h1 _ | rfl)); intro W' hM'; clear hM; have hM := hM'; clear hM'; simp only [List.set] at hM) | (refine wpList_get rfl _ _ rfl _ _ rfl hM 0 rfl (rowTab _ _ rfl) (by omega) ?_) | (go_at_call 79; refine (hasCell_of g _ (s k).1 (s k).2 (lay_sp0 _ s k) (lay_sp1 _ s k) _).mono ?_; rintro e W' ⟨rfl, hb'⟩; rw [HB.out]; have hM' := hM.call hb'; have hE' := HE.out.below hM'.below; have v1 : W'.cell? ⟨1, 0, none⟩ = some (errV (a 1)) := hE'.vars 1 (by omega); clear hE'; clear hM hb'; have hM := hM'; clear hM'))
        go_ret
        exact ⟨ret_v (chkS_no (allB_no hlt HB.out)).symm, hM.below⟩
      · have HB := Lib.hid hB
        clear hB
        have tk_b2 : True := trivial
        go_wp2_with (first | (refine wpList_get rfl _ _ rfl _ _ rfl hM 1 rfl (rowTab _ _ rfl) (by omega) ?_) | (have _t := tk_b2; refine wpList_zero rfl _ rfl (zeroTab _ _ _ rfl) hM ?_; intro b2 W' hb2 hM'; clear hM tk_b2; have hM := hM'; clear hM') | (refine wpList_lay rfl _ _ _ rfl _ _ rfl _ _ rfl hM 0 rfl (by assumption) (rowTab _ _ rfl) (by omega) ?_ ?_; (first | (intro _ _; rfl) | (intro k _; exact h1 _) | (intro k _; simp only [lay, upd]; (repeat' split) <;> first | exact h1 _ | rfl)); intro W' hM'; clear hM; have hM := hM'; clear hM'; simp only [List.set] at hM) | (refine wpList_get rfl _ _ rfl _ _ rfl hM 0 rfl (rowTab _ _ rfl) (by omega) ?_) | (go_at_call 79; refine (hasCell_of g _ (s k).1 (s k).2 (lay_sp0 _ s k) (lay_sp1 _ s k) _).mono ?_; rintro e W' ⟨rfl, hb'⟩; rw [HB.out]; have hM' := hM.call hb'; clear hM hb'; have hM := hM'; clear hM'))
        go_roundw
        case rel => exact ⟨k + 1, by omega, by go_num, Lib.hid (fun j hj => by
          by_cases e : j = k
          · rw [e]; exact HB.out
          · exact hall.out j (by omega)), hM.drop⟩
        case measure => simp [intOf]; omega
    · obtain rfl : k = n := by omega
      go_wp2
      go_ret
      exact ⟨ret_v (chkS_yes (allB_yes hall.out)).symm, hM.below⟩
end Go.Proofs.YtbmaljhnldepoaaDoor

/-
  spec.l01Asked, laws.toSpot, (impl.Pasture).grassAt by contracts.
-/
namespace Go.Proofs.YtbmaljhnldepoaaDoor
open Go Go.RowKit Go.BigFrame

/-- The code of a pasture and a cell, and whether another thing is as told. -/
def askC (g : Nat → Int) (x y : Int) (fine : Bool) : Int := if okB g then (if isB g x y && fine then 0 else 2) else 1
theorem askC_bad {g : Nat → Int} {x y : Int} {f : Bool} (h : okB g = false) : askC g x y f = 1 := by simp [askC, h]
theorem askC_out {g : Nat → Int} {x y : Int} {f : Bool} (h : okB g = true) (h2 : isB g x y = false) : askC g x y f = 2 := by simp [askC, h, h2]
theorem askC_fine {g : Nat → Int} {x y : Int} (h : okB g = true) (h2 : isB g x y = true) : askC g x y false = 2 := by simp [askC, h, h2]
theorem askC_ok {g : Nat → Int} {x y : Int} (h : okB g = true) (h2 : isB g x y = true) : askC g x y true = 0 := by simp [askC, h, h2]
theorem ret_i {k : IntKind} {a b : Int} (h : a = b) : Ending.returned (.int k a) = .returned (.int k b) := by rw [h]

set_option maxHeartbeats 400000 in
theorem l01Asked_any (g : Nat → Int) (hg : Fits g) (bp : Nat) (x y : Int) (hx : -128 ≤ x ∧ x ≤ 127) (hy : -128 ≤ y ∧ y ≤ 127) (fine : Bool) (w : World) (hA : At w bp 122 (pas g)) :
    Calls Tryd.prog 51 #[.pointer (some ⟨bp, 0, none⟩), .agg (arr 2 (sp x y)), .bool fine] w fun e w' => e = .returned (.int .i64 (askC g x y fine)) ∧ Below w.heap.size w w' := by
  have hM : Mem w [(bp, 122, pas g)] w := (Mem.nil w).old hA (fun i p h => by simp at h)
  clear hA
  cases ho : okB g
  · have Ho := Lib.hid ho
    clear ho
    have tk_b1 : True := trivial
    go_enter Tryd.func51, Tryd.ntmps51
    go_wp2_with (first | (have _t := tk_b1; refine wpList_box rfl _ _ rfl _ _ rfl hM ?_; intro b1 W' hb1 hM'; clear hM tk_b1; have hM := hM'; clear hM') | (go_at_call 59; refine (l01Ok_any g hg _ _ (hM.ats 1 _ _ _ rfl)).mono ?_; rintro e W' ⟨rfl, hb'⟩; rw [Ho.out]; have hM' := hM.call hb'; clear hM hb'; have hM := hM'; clear hM'))
    go_ret
    exact ⟨ret_i (askC_bad Ho.out).symm, hM.below⟩
  have Ho := Lib.hid ho
  clear ho
  cases hi : isB g x y
  · have Hi := Lib.hid hi
    clear hi
    have tk_b1 : True := trivial
    go_enter Tryd.func51, Tryd.ntmps51
    go_wp2_with (first | (have _t := tk_b1; refine wpList_box rfl _ _ rfl _ _ rfl hM ?_; intro b1 W' hb1 hM'; clear hM tk_b1; have hM := hM'; clear hM') | (refine wpList_get rfl _ _ rfl _ _ rfl hM 0 rfl (rowTab _ _ rfl) (by omega) ?_) | (go_at_call 59; refine (l01Ok_any g hg _ _ (hM.ats 1 _ _ _ rfl)).mono ?_; rintro e W' ⟨rfl, hb'⟩; rw [Ho.out]; have hM' := hM.call hb'; clear hM hb'; have hM := hM'; clear hM') | (go_at_call 68; refine (l01Is_any g hg _ x y hx hy _ (hM.ats 1 _ _ _ rfl)).mono ?_; rintro e W' ⟨rfl, hb'⟩; rw [Hi.out]; have hM' := hM.call hb'; clear hM hb'; have hM := hM'; clear hM'))
    go_ret
    exact ⟨ret_i (askC_out Ho.out Hi.out).symm, hM.below⟩
  have Hi := Lib.hid hi
  clear hi
  cases fine
  · have tk_b1 : True := trivial
    go_enter Tryd.func51, Tryd.ntmps51
    go_wp2_with (first | (have _t := tk_b1; refine wpList_box rfl _ _ rfl _ _ rfl hM ?_; intro b1 W' hb1 hM'; clear hM tk_b1; have hM := hM'; clear hM') | (refine wpList_get rfl _ _ rfl _ _ rfl hM 0 rfl (rowTab _ _ rfl) (by omega) ?_) | (go_at_call 59; refine (l01Ok_any g hg _ _ (hM.ats 1 _ _ _ rfl)).mono ?_; rintro e W' ⟨rfl, hb'⟩; rw [Ho.out]; have hM' := hM.call hb'; clear hM hb'; have hM := hM'; clear hM') | (go_at_call 68; refine (l01Is_any g hg _ x y hx hy _ (hM.ats 1 _ _ _ rfl)).mono ?_; rintro e W' ⟨rfl, hb'⟩; rw [Hi.out]; have hM' := hM.call hb'; clear hM hb'; have hM := hM'; clear hM'))
    go_ret
    exact ⟨ret_i (askC_fine Ho.out Hi.out).symm, hM.below⟩
  · have tk_b1 : True := trivial
    go_enter Tryd.func51, Tryd.ntmps51
    go_wp2_with (first | (have _t := tk_b1; refine wpList_box rfl _ _ rfl _ _ rfl hM ?_; intro b1 W' hb1 hM'; clear hM tk_b1; have hM := hM'; clear hM') | (refine wpList_get rfl _ _ rfl _ _ rfl hM 0 rfl (rowTab _ _ rfl) (by omega) ?_) | (go_at_call 59; refine (l01Ok_any g hg _ _ (hM.ats 1 _ _ _ rfl)).mono ?_; rintro e W' ⟨rfl, hb'⟩; rw [Ho.out]; have hM' := hM.call hb'; clear hM hb'; have hM := hM'; clear hM') | (go_at_call 68; refine (l01Is_any g hg _ x y hx hy _ (hM.ats 1 _ _ _ rfl)).mono ?_; rintro e W' ⟨rfl, hb'⟩; rw [Hi.out]; have hM' := hM.call hb'; clear hM hb'; have hM := hM'; clear hM'))
    go_ret
    exact ⟨ret_i (askC_ok Ho.out Hi.out).symm, hM.below⟩



/-- The place of a cell's grass. -/
def gPlace (x y : Int) : Nat := 2 + y.toNat * 10 + x.toNat

theorem isB_bounds {g : Nat → Int} {x y : Int} (ho : okB g = true) (hi : isB g x y = true) : 0 ≤ x ∧ x < g 0 ∧ g 0 ≤ 10 ∧ 0 ≤ y ∧ y < g 1 ∧ g 1 ≤ 10 := by
  unfold okB at ho
  unfold isB at hi
  rw [Bool.and_eq_true] at ho hi
  rw [Bool.and_eq_true] at ho
  have a1 := inB_true ho.1.1
  have a2 := inB_true ho.1.2
  have a3 := inB_true hi.1
  have a4 := inB_true hi.2
  omega

set_option maxHeartbeats 400000 in
theorem grassAt_any (g : Nat → Int) (hg : Fits g) (x y : Nat) (hx : x < 10) (hy : y < 10) (w : World) :
    Calls Tryd.prog 84 #[.agg (arr 122 (pas g)), .agg (arr 2 (sp x y))] w fun e w' => e = .returned (.int .i64 (g (2 + y * 10 + x))) ∧ Below w.heap.size w w' := by
  have hM := Mem.nil w
  have hr := hg.grass (2 + y * 10 + x) (by omega) (by omega)
  have e0 : pas g (2 + y * 10 + x) = .int .i16 (g (2 + y * 10 + x)) := pas_i16 g (by omega) (by omega)
  have c0 : IntKind.i64.wrap (g (2 + y * 10 + x)) = g (2 + y * 10 + x) := IntWalk.i64_in _ (by omega)
  have lx : (x : Int) < 10 := by omega
  have ly : (y : Int) < 10 := by omega
  have tk_b1 : True := trivial; have tk_b2 : True := trivial
  go_enter Tryd.func84, Tryd.ntmps84
  go_wp2_with (first | (have _t := tk_b1; refine wpList_box rfl _ _ rfl _ _ rfl hM ?_; intro b1 W' hb1 hM'; clear hM tk_b1; have hM := hM'; clear hM') | (have _t := tk_b2; refine wpList_box rfl _ _ rfl _ _ rfl hM ?_; intro b2 W' hb2 hM'; clear hM tk_b2; have hM := hM'; clear hM'))
  ((try simp only [Act.put, List.setIfInBounds_toArray, List.set_cons_succ, List.set_cons_zero]); refine wp_region_mem (by kernel_rfl) (by kernel_rfl) hM ?_; clear hM; (repeat (first | go_big_quiet_skip | (go_big_quiet_want; first | (refine quiet_get1 _ _ rfl _ _ rfl 0 rfl (cellTab _ rfl) (by omega) (.int .i8 (y : Int)) rfl ?_; (simp only [Act.put, List.setIfInBounds_toArray, List.set_cons_succ, List.set_cons_zero]); go_big_quiet_on) | (refine quiet_get1 _ _ rfl _ _ rfl 0 rfl (cellTab _ rfl) (by omega) (.int .i8 (x : Int)) rfl ?_; (simp only [Act.put, List.setIfInBounds_toArray, List.set_cons_succ, List.set_cons_zero]); go_big_quiet_on) | (refine quiet_get1 _ _ rfl _ _ rfl 1 rfl (cellTab _ rfl) (by omega) _ (e0) ?_; (simp only [Act.put, List.setIfInBounds_toArray, List.set_cons_succ, List.set_cons_zero]); go_big_quiet_on) | (refine quiet_val ?_; apply Exists.intro; refine ⟨fun W => ?_, ?_⟩; (go_simp; (try simp only [lx, ly, if_true, Bool.false_eq_true, if_false]); rfl); (simp only [Act.put, List.setIfInBounds_toArray, List.set_cons_succ, List.set_cons_zero]); go_big_quiet_on)))); (with_reducible refine wpQuiet_nil ?_); intro W' hM)
  go_wp2
  go_ret
  exact ⟨rfl, hM.below⟩
theorem askC_cases (g : Nat → Int) (x y : Int) (f : Bool) : (okB g = false ∧ askC g x y f = 1) ∨ (okB g = true ∧ (isB g x y && f) = false ∧ askC g x y f = 2) ∨ (okB g = true ∧ isB g x y = true ∧ f = true ∧ askC g x y f = 0) := by
  cases h1 : okB g <;> cases h2 : isB g x y <;> cases f <;> simp [askC, h1, h2]

end Go.Proofs.YtbmaljhnldepoaaDoor

/-
  Sums of grass.
-/
namespace Go.Proofs.YtbmaljhnldepoaaDoor
open Go Go.RowKit Go.Shelf Go.BigFrame

/-- f 0 + f 1 + .. , n of them. -/
def sumN : Nat → (Nat → Int) → Int
  | 0, _ => 0
  | n + 1, f => sumN n f + f n
theorem sumN_congr {n : Nat} {f g : Nat → Int} (h : ∀ k, k < n → f k = g k) : sumN n f = sumN n g := by
  induction n with
  | zero => rfl
  | succ n ih => rw [sumN, sumN, ih (fun k hk => h k (by omega)), h n (by omega)]
theorem sumN_add (a b : Nat) (f : Nat → Int) : sumN (a + b) f = sumN a f + sumN b (fun k => f (a + k)) := by
  induction b with
  | zero => simp [sumN]
  | succ b ih => rw [← Nat.add_assoc, sumN, ih, sumN]; omega
theorem sumN_mul (h w : Nat) (f : Nat → Int) : sumN (h * w) f = sumN h (fun y => sumN w (fun x => f (y * w + x))) := by
  induction h with
  | zero => simp [sumN]
  | succ h ih => rw [Nat.add_mul, Nat.one_mul, sumN_add, ih, sumN]
theorem sumN_none {a b : Nat} {f : Nat → Int} (hab : a ≤ b) (h : ∀ k, a ≤ k → k < b → f k = 0) : sumN b f = sumN a f := by
  obtain ⟨d, rfl⟩ := Nat.exists_eq_add_of_le hab
  rw [sumN_add]
  have : ∀ d, (∀ k, k < d → f (a + k) = 0) → sumN d (fun k => f (a + k)) = 0 := fun d => by
    induction d with
    | zero => intro _; rfl
    | succ d ih => intro hz; rw [sumN, ih (fun k hk => hz k (by omega)), hz d (by omega)]; rfl
  rw [this d (fun k hk => h (a + k) (by omega) (by omega))]
  omega
theorem sumN_bounds {n : Nat} {f : Nat → Int} {m : Int} (hm : 0 ≤ m) (h : ∀ k, k < n → 0 ≤ f k ∧ f k ≤ m) : 0 ≤ sumN n f ∧ sumN n f ≤ m * n := by
  induction n with
  | zero => simp [sumN]
  | succ n ih =>
    have i := ih (fun k hk => h k (by omega))
    have j := h n (by omega)
    rw [sumN, show ((n + 1 : Nat) : Int) = (n : Int) + 1 by omega, Int.mul_add, Int.mul_one]
    omega

theorem ok_grass {g : Nat → Int} (ho : okB g = true) : ∀ k, k < 100 → (0 ≤ g (2 + k) ∧ g (2 + k) ≤ 1000) ∧ (g (2 + k) ≠ 0 → isB g ((k % 10 : Nat) : Int) ((k / 10 : Nat) : Int) = true) := fun k hk => by
  unfold okB at ho
  rw [Bool.and_eq_true, List.all_eq_true] at ho
  have hr := ho.2 (k / 10) (List.mem_range.2 (by omega))
  unfold rowOk at hr
  rw [Bool.and_eq_true, Bool.and_eq_true, List.all_eq_true] at hr
  have hc := hr.1.1 (k % 10) (List.mem_range.2 (by omega))
  unfold cellOk at hc
  have e : 2 + k / 10 * 10 + k % 10 = 2 + k := by omega
  rw [e, Bool.and_eq_true] at hc
  refine ⟨inB_true hc.1, fun hne => ?_⟩
  have h1 := inB_true hc.1
  have h2 := hc.2
  rw [Bool.or_eq_true] at h2
  rcases h2 with h2 | h2
  · have := of_decide_eq_true h2; omega
  · exact h2

/-- The grass of some cells. -/
def sumL (g : Nat → Int) (l : List (Nat × Nat)) : Int := (l.map fun s => g (2 + s.2 * 10 + s.1)).sum
theorem sumL_snoc (g : Nat → Int) (l : List (Nat × Nat)) (u v : Nat) : sumL g (l ++ [(u, v)]) = sumL g l + g (2 + v * 10 + u) := by simp [sumL]
theorem sumL_bounds {g : Nat → Int} (hb : ∀ k, k < 100 → 0 ≤ g (2 + k) ∧ g (2 + k) ≤ 1000) (l : List (Nat × Nat)) (hl : ∀ s ∈ l, s.1 < 10 ∧ s.2 < 10) : 0 ≤ sumL g l ∧ sumL g l ≤ 1000 * l.length := by
  induction l with
  | nil => simp [sumL]
  | cons s l ih =>
    have i := ih (fun t ht => hl t (List.mem_cons_of_mem _ ht))
    have j := hl s List.mem_cons_self
    have k := hb (s.2 * 10 + s.1) (by omega)
    rw [← Nat.add_assoc] at k
    have e : sumL g (s :: l) = g (2 + s.2 * 10 + s.1) + sumL g l := by simp [sumL]
    rw [e, List.length_cons]
    omega
theorem sumL_all {g : Nat → Int} (ho : okB g = true) (W H : Nat) (hg0 : g 0 = W) (hg1 : g 1 = H) (hW : 1 ≤ W ∧ W ≤ 10) (hH : H ≤ 10) : sumL g (upto W (W * H)) = sumN 100 (fun k => g (2 + k)) := by
  have e1 : ∀ n : Nat, ∀ f : Nat → Int, ((List.range n).map f).sum = sumN n f := fun n f => by
    induction n with
    | zero => rfl
    | succ n ih => simp [List.range_succ, sumN, ih]
  have z := ok_grass ho
  have hz : ∀ x y : Nat, x < 10 → y < 10 → (W ≤ x ∨ H ≤ y) → g (2 + (y * 10 + x)) = 0 := fun x y hx hy h => by
    have := (z (y * 10 + x) (by omega)).2
    by_cases hne : g (2 + (y * 10 + x)) = 0
    · exact hne
    · have hi := this hne
      rw [show (y * 10 + x) % 10 = x by omega, show (y * 10 + x) / 10 = y by omega] at hi
      have hb := isB_bounds ho hi
      omega
  unfold sumL upto
  rw [List.map_map, e1, Nat.mul_comm W H, sumN_mul, show (100 : Nat) = 10 * 10 from rfl, sumN_mul]
  rw [sumN_none (a := H) (b := 10) hH (fun y h1 h2 => by
    rw [sumN_none (a := 0) (b := 10) (by omega) (fun x _ hx => hz x y hx h2 (.inr h1))]; rfl)]
  refine sumN_congr fun y hy => ?_
  rw [sumN_none (a := W) (b := 10) hW.2 (fun x h1 h2 => hz x y h2 (by omega) (.inl h1))]
  refine sumN_congr fun x hx => ?_
  simp only [Function.comp_apply, cellAt_row hx]
  congr 1; omega

theorem sum_start (g : Nat → Int) (k : Nat) (hk : k < 1) : upd (fun _ => Value.int .i64 0) 0 (.int .i64 0) k = .int .i64 (sumL g []) := by
  obtain rfl : k = 0 := by omega
  rfl

end Go.Proofs.YtbmaljhnldepoaaDoor

/-
  PLAIN LAWS: a list that a walk appends to, one element after the other: none yet, or the first cells of a block of the call's own.
-/
namespace Go.Proofs.YtbmaljhnldepoaaDoor
open Go Go.RowKit

/-- The list v of n elements of m cells: R; beside it lie the blocks K. -/
def Lst (w : Base) (K : Blocks) (m : Nat) (v : Value) (n : Nat) (R : Nat → Value) (W : World) : Prop :=
  (v = .slice none 0 0 ∧ n = 0 ∧ Mem w K W) ∨ ∃ b c F, v = .slice (some ⟨b, 0, none⟩) n c ∧ w.B ≤ b ∧ n ≤ c ∧ (∀ j, j < n * m → F j = R j) ∧ Mem w ((b, c * m, F) :: K) W
theorem Lst.mem {w : Base} {K : Blocks} {m : Nat} {v : Value} {n : Nat} {R : Nat → Value} {W : World} (h : Lst w K m v n R W) : Mem w K W := by
  rcases h with ⟨-, -, h⟩ | ⟨b, c, F, -, -, -, -, h⟩
  · exact h
  · exact h.drop

theorem Lst.only {w : Base} {K : Blocks} {m : Nat} {v : Value} {n : Nat} {R : Nat → Value} {W : World} (h : Lst w K m v n R W) : Lst w [] m v n R W := by
  rcases h with ⟨h1, h2, h⟩ | ⟨b, c, F, h1, h2, h3, h4, h⟩
  · exact .inl ⟨h1, h2, Mem.start h.good⟩
  · refine .inr ⟨b, c, F, h1, h2, h3, h4, h.good, fun i b' n' f' hi => ?_, fun i j x y hi hj hne => ?_⟩
    · match i, hi with
      | 0, hi => exact h.ats 0 b' n' f' (by simpa using hi)
      | i + 1, hi => simp at hi
    · match i, j, hi, hj with
      | 0, 0, _, _ => exact absurd rfl hne
      | 0, j + 1, _, hj => simp at hj
      | i + 1, _, hi, _ => simp at hi

theorem arr_any (A : Array Value) : A = arr A.size (fun k => A[k]?.getD undef) := arr_ext rfl (fun k hk => by simp [hk])
theorem Mem.allocA {w : Base} {W : World} {L : Blocks} (h : Mem w L W) (t : TypeId) (A : Array Value) (n : Nat) (hs : A.size = n) : Mem w ((W.heap.size, n, fun k => A[k]?.getD undef) :: L) (W.alloc (.cells A t)) := by
  subst hs
  have := h.alloc t A.size (fun k => A[k]?.getD undef)
  rwa [← arr_any] at this
theorem Mem.skip {w : Base} {W : World} {p q : Nat × Nat × (Nat → Value)} {L : Blocks} (h : Mem w (p :: q :: L) W) : Mem w (p :: L) W :=
  ⟨h.good, fun i b n f hi => by
    match i, hi with
    | 0, hi => exact h.ats 0 b n f (by simpa using hi)
    | i + 1, hi => exact h.ats (i + 2) b n f (by simpa using hi),
   fun i j x y hi hj hne => by
    match i, j, hi, hj with
    | 0, 0, _, _ => exact absurd rfl hne
    | 0, j + 1, hi, hj => exact h.apart 0 (j + 2) x y (by simpa using hi) (by simpa using hj) (by omega)
    | i + 1, 0, hi, hj => exact h.apart (i + 2) 0 x y (by simpa using hi) (by simpa using hj) (by omega)
    | i + 1, j + 1, hi, hj => exact h.apart (i + 2) (j + 2) x y (by simpa using hi) (by simpa using hj) (by omega)⟩
theorem Mem.swap {w : Base} {W : World} {p q : Nat × Nat × (Nat → Value)} {L : Blocks} (h : Mem w (p :: q :: L) W) : Mem w (q :: p :: L) W :=
  ⟨h.good, fun i b n f hi => by
    match i, hi with
    | 0, hi => exact h.ats 1 b n f (by simpa using hi)
    | 1, hi => exact h.ats 0 b n f (by simpa using hi)
    | i + 2, hi => exact h.ats (i + 2) b n f (by simpa using hi),
   fun i j x y hi hj hne => by
    match i, j, hi, hj with
    | 0, 0, _, _ => exact absurd rfl hne
    | 1, 1, _, _ => exact absurd rfl hne
    | 0, 1, hi, hj => exact h.apart 1 0 x y (by simpa using hi) (by simpa using hj) (by omega)
    | 1, 0, hi, hj => exact h.apart 0 1 x y (by simpa using hi) (by simpa using hj) (by omega)
    | 0, j + 2, hi, hj => exact h.apart 1 (j + 2) x y (by simpa using hi) (by simpa using hj) (by omega)
    | 1, j + 2, hi, hj => exact h.apart 0 (j + 2) x y (by simpa using hi) (by simpa using hj) (by omega)
    | i + 2, 0, hi, hj => exact h.apart (i + 2) 1 x y (by simpa using hi) (by simpa using hj) (by omega)
    | i + 2, 1, hi, hj => exact h.apart (i + 2) 0 x y (by simpa using hi) (by simpa using hj) (by omega)
    | i + 2, j + 2, hi, hj => exact h.apart (i + 2) (j + 2) x y (by simpa using hi) (by simpa using hj) (by omega)⟩
theorem add_any (b o j : Nat) : (⟨b, o, none⟩ : Addr).add j = ⟨b, o + j, none⟩ := by unfold Addr.add; split <;> simp_all
theorem At.list {W : World} {b N : Nat} {f : Nat → Value} (hA : At W b N f) {k : Nat} (hk : k ≤ N) : ∀ j v, (arr k f).toList[j]? = some v → W.cell? ((⟨b, 0, none⟩ : Addr).add j) = some v := fun j v hv => by
  rw [arr_toList] at hv
  have hj : j < k := by have := (List.getElem?_eq_some_iff.1 hv).1; simpa using this
  simp [hj] at hv
  rw [add_any, Nat.zero_add, hA.cell (by omega), hv]

section
variable {P : Program} {ops : Array Oper} {rest : List Oper} {o : Oper} {a : Act} {w : Base} {W : World} {Q : Exit → Act → World → Prop} {L K : Blocks}
/-- A slice literal of no element. -/
theorem wpList_slice0 (hgd : o.guard = none) (t e : TypeId) (ho : o.op = .buildSlice t 0 #[]) (m : Nat)
    (hu : P.underlying t = some (.slice e)) (hz : (P.info? e).map (fun i => i.size) = some m) (hM : Mem w L W)
    (h : ∀ b W', w.B ≤ b → Mem w ((b, 0, fun _ => undef) :: L) W' → wpList P ops Q rest (a.put o.dst (.slice (some ⟨b, 0, none⟩) 0 0)) W') : wpList P ops Q (o :: rest) a W := by
  obtain ⟨ie, hie, hq⟩ := Option.map_eq_some_iff.1 hz
  refine wpList_plain hgd fun J hJ => ?_
  have hr : (Instr.buildSlice t 0 #[]).run P W = .ok (.slice (some ⟨W.heap.size, 0, none⟩) 0 0) (W.alloc (.cells (arr 0 fun _ => undef) e)) := by
    have e0 : Array.range 0 = #[] := rfl
    simp [Instr.buildSlice, run_underlying hu, sizeOf, typeInfo, hie, Instr.fill, newRow, arr, e0]
  unfold Oper.wp execOp
  simp only [ho, Array.map_empty, Sem.run_bind, hr, Result.andThen_ok]
  exact hJ _ _ (h _ _ hM.size (hM.alloc e 0 _))

/-- The first element is appended. -/
theorem wpList_push0 (hgd : o.guard = none) (s x : Operand) (t : TypeId) (ho : o.op = .call { callee := .builtin .append, args := #[s, x], argTypes := #[t, t] })
    (e : TypeId) (m bs : Nat) (z : Value) (hu : P.underlying t = some (.slice e)) (hz : (P.info? e).map (fun i => (i.size, i.zero, i.bytes)) = some (m, some z, bs)) (hzs : z.cells.size = m) (hbs : bs ≤ 1000)
    (hs : a.eval s = .slice none 0 0) (bn : Nat) (f : Nat → Value) (hx : a.eval x = .slice (some ⟨bn, 0, none⟩) 1 1) (hM : Mem w ((bn, m, f) :: K) W) (R : Nat → Value) (hR : ∀ j, j < m → f j = R j)
    (h : ∀ b' c' F' W', w.B ≤ b' → 1 ≤ c' → (∀ j, j < 1 * m → F' j = R j) → Mem w ((b', c' * m, F') :: K) W' → wpList P ops Q rest (a.put o.dst (.slice (some ⟨b', 0, none⟩) 1 c')) W') : wpList P ops Q (o :: rest) a W := by
  obtain ⟨i, hi, hq⟩ := Option.map_eq_some_iff.1 hz
  simp only [Prod.mk.injEq] at hq
  obtain ⟨rfl, q2, rfl⟩ := hq
  refine wpList_plain hgd fun J hJ => ?_
  have hr := run_append_nil (P := P) W t o.type e i z hu hi q2 ⟨bn, 0, none⟩ 1 1 (arr i.size f).toList (by simp [arr_size]) (hM.at0.list (Nat.le_refl _)) (by omega) (by omega) (by omega)
  have hge := grownCap_ge W 1 0 e
  unfold Oper.wp execOp
  simp only [ho, resolve, invoke, builtin, Sem.run_bind, Sem.run_pure, Result.andThen_ok, List.map_toArray, List.map_cons, List.map_nil, hs, hx, hr]
  refine hJ _ _ (h _ _ _ _ hM.size hge (fun j hj => ?_) (hM.drew.allocA e _ (grownCap W 1 0 e * i.size) ?_).skip)
  · have hj' : j < i.size := by omega
    rw [← hR j hj']
    simp [Array.getElem?_append, arr, hj']
  · simp only [Array.size_append, List.size_toArray, size_zeroCells, hzs, Array.length_toList, arr_size]
    conv => lhs; lhs; rw [← Nat.one_mul i.size]
    rw [← Nat.add_mul]
    congr 1; omega

/-- One more element is appended. -/
theorem wpList_push1 (hgd : o.guard = none) (s x : Operand) (t : TypeId) (ho : o.op = .call { callee := .builtin .append, args := #[s, x], argTypes := #[t, t] })
    (e : TypeId) (m bs : Nat) (z : Value) (hu : P.underlying t = some (.slice e)) (hz : (P.info? e).map (fun i => (i.size, i.zero, i.bytes)) = some (m, some z, bs)) (hzs : z.cells.size = m) (hbs : bs ≤ 1000)
    (b n c : Nat) (F : Nat → Value) (hs : a.eval s = .slice (some ⟨b, 0, none⟩) n c) (hb : w.B ≤ b) (hnc : n ≤ c) (hn : n ≤ 1048576)
    (bn : Nat) (f : Nat → Value) (hx : a.eval x = .slice (some ⟨bn, 0, none⟩) 1 1) (h1 : ∀ k, k < m → (f k).oneCell' = true) (hM : Mem w ((bn, m, f) :: (b, c * m, F) :: K) W) (R : Nat → Value) (hR0 : ∀ j, j < n * m → F j = R j) (hR : ∀ j, j < m → f j = R (n * m + j))
    (h : ∀ b' c' F' W', w.B ≤ b' → n + 1 ≤ c' → (∀ j, j < (n + 1) * m → F' j = R j) → Mem w ((b', c' * m, F') :: K) W' → wpList P ops Q rest (a.put o.dst (.slice (some ⟨b', 0, none⟩) (n + 1) c')) W') : wpList P ops Q (o :: rest) a W := by
  obtain ⟨i, hi, hq⟩ := Option.map_eq_some_iff.1 hz
  simp only [Prod.mk.injEq] at hq
  obtain ⟨rfl, q2, rfl⟩ := hq
  refine wpList_plain hgd fun J hJ => ?_
  have hnews := hM.at0.list (Nat.le_refl _)
  by_cases hroom : n + 1 ≤ c
  · have hfit : n * i.size + i.size ≤ c * i.size := by
      have := Nat.mul_le_mul_right i.size hroom
      rwa [Nat.add_mul, Nat.one_mul] at this
    obtain ⟨t0, ht0⟩ := hM.ats 1 _ _ _ rfl
    have hfc := run_firstCells_some (P := P) W i.size 1 ⟨bn, 0, none⟩ 1 1 (arr i.size f).toList (by simp [arr_size]) hnews
    have hst := run_storeCells_at (P := P) b (n * i.size) t0 (arr i.size f).toList 0 (arr (c * i.size) F) W ht0 (by simp [arr_size]; omega) (fun v hv => by
      rw [arr_toList] at hv; simp at hv; obtain ⟨k, hk, rfl⟩ := hv; exact h1 k hk)
    rw [Nat.add_zero, arr_lay hfit] at hst
    have hr : (Builtin.append_ #[t, t] o.type #[.slice (some ⟨b, 0, none⟩) n c, .slice (some ⟨bn, 0, none⟩) 1 1]).run P W = .ok (.slice (some ⟨b, 0, none⟩) (n + 1) c) (W.setRow b (arr (c * i.size) (lay F (n * i.size) i.size f))) := by
      simp [Builtin.append_, run_underlying hu, sizeOf, typeInfo, hi, Builtin.lenOf, hroom, hfc, add_any, hst]
    unfold Oper.wp execOp
    simp only [ho, resolve, invoke, builtin, Sem.run_bind, Sem.run_pure, Result.andThen_ok, List.map_toArray, List.map_cons, List.map_nil, hs, hx, hr]
    refine hJ _ _ (h b c _ _ hb hroom (fun j hj => ?_) (hM.setRow 1 rfl hb _).drop)
    rw [Nat.add_mul, Nat.one_mul] at hj
    simp only [lay]
    by_cases hj' : j < n * i.size
    · rw [if_neg (by omega)]; exact hR0 j hj'
    · rw [if_pos (by omega), hR _ (by omega), show n * i.size + (j - n * i.size) = j by omega]
  · have hle : n * i.size ≤ c * i.size := Nat.mul_le_mul_right _ hnc
    have hb48 : Builtin.nextslicecap (n + 1) c * i.bytes ≤ 281474976710656 := growslice_fits (by omega) (by
      have : (n + 1) * i.bytes ≤ 1048577 * 1000 := Nat.mul_le_mul (by omega) hbs
      omega)
    have hr := run_append_grow (P := P) W t o.type e i z hu hi q2 ⟨b, 0, none⟩ n c (arr (n * i.size) F).toList (by simp [arr_size]) ((hM.ats 1 _ _ _ rfl).list hle) ⟨bn, 0, none⟩ 1 1 (arr i.size f).toList (by simp [arr_size]) hnews (by omega) (by omega) hb48
    have hge := grownCap_ge W (n + 1) c e
    unfold Oper.wp execOp
    simp only [ho, resolve, invoke, builtin, Sem.run_bind, Sem.run_pure, Result.andThen_ok, List.map_toArray, List.map_cons, List.map_nil, hs, hx, hr]
    refine hJ _ _ (h _ _ _ _ hM.size hge (fun j hj => ?_) (hM.drew.allocA e _ (grownCap W (n + 1) c e * i.size) ?_).skip.skip)
    · rw [Nat.add_mul, Nat.one_mul] at hj
      by_cases hj' : j < n * i.size
      · rw [← hR0 j hj']
        rw [Array.getElem?_append_left (by simp [arr_size]; omega), Array.getElem?_append_left (by simp [arr_size]; omega), Array.toArray_toList, arr_at hj']
        rfl
      · rw [show j = n * i.size + (j - n * i.size) by omega, ← hR _ (by omega)]
        rw [Array.getElem?_append_left (by simp [arr_size]; omega), Array.getElem?_append_right (by simp [arr_size]), Array.toArray_toList, Array.toArray_toList, arr_size, Nat.add_sub_cancel_left, arr_at (by omega)]
        rfl
    · simp only [Array.size_append, List.size_toArray, size_zeroCells, hzs, Array.length_toList, arr_size]
      rw [← Nat.succ_mul, ← Nat.add_mul]
      congr 1; simp only [Nat.succ_eq_add_one]; omega
end
end Go.Proofs.YtbmaljhnldepoaaDoor

/-
  Lists that are results: what a law may take of them.
-/
namespace Go.Proofs.YtbmaljhnldepoaaDoor
open Go Go.RowKit Go.BigFrame

theorem sps_row (s : Nat → Int × Int) (k j : Nat) (hj : j < 2) : sps s (k * 2 + j) = sp (s k).1 (s k).2 j := by
  rcases (show j = 0 ∨ j = 1 by omega) with rfl | rfl
  · exact sps_fst s k
  · exact sps_snd s k
theorem spot_infoB : (Tryd.prog.info? 37).map (fun i => (i.size, i.zero, i.bytes)) = some (2, some (.agg (arr 2 fun _ => .int .i8 0)), 2) := by kernel_rfl
theorem spots_zero : (Tryd.prog.info? 32).map (·.zero) = some (some (.slice none 0 0)) := by kernel_rfl
theorem sp_one {x y : Int} : ∀ k, k < 2 → (sp x y k).oneCell' = true := fun k hk => by
  rcases (show k = 0 ∨ k = 1 by omega) with rfl | rfl <;> rfl

theorem sp_one0 {x y : Int} : ∀ k, k < 2 → (sp x y (0 + k)).oneCell' = true := fun k hk => by rw [Nat.zero_add]; exact sp_one k hk
theorem spots_cell : CellT Tryd.prog 32 := ⟨⟨_, spot_under, rfl⟩, by kernel_rfl⟩

theorem Lst.up {w0 w1 : World} {K : Blocks} {m n : Nat} {v : Value} {R : Nat → Value} {W : World} (hM : Mem w0 K w1) (h : Lst w1 [] m v n R W) : Lst w0 [] m v n R W ∧ Below w1.heap.size w1 W := by
  rcases h with ⟨h1, h2, h⟩ | ⟨b, c, F, h1, h2, h3, h4, h⟩
  · exact ⟨.inl ⟨h1, h2, Mem.start (hM.call h.below).good⟩, h.below⟩
  · exact ⟨.inr ⟨b, c, F, h1, Nat.le_trans hM.size h2, h3, h4, h.base (hM.call h.below).good⟩, h.below⟩
theorem Mem.freshH {b0 : Base} {L : Blocks} {X X' : World} {b n : Nat} {f : Nat → Value} (hM : Mem b0 L X) (hb : Below X.heap.size X X') (ha : At X' b n f) (hge : X.heap.size ≤ b) : Mem b0 ((b, n, f) :: L) X' := by
  have hM2 := hM.call hb
  have off : ∀ (i : Nat) (p : Nat × Nat × (Nat → Value)), L[i]? = some p → p.1 ≠ b := fun i p h => by
    have := (hM.ats i p.1 p.2.1 p.2.2 h).lt
    omega
  refine ⟨hM2.good, fun i b' n' f' hi => ?_, fun i j x y hi hj hne => ?_⟩
  · match i, hi with
    | 0, hi => simp at hi; obtain ⟨rfl, rfl, rfl⟩ := hi; exact ha
    | i + 1, hi => exact hM2.ats i b' n' f' (by simpa using hi)
  · match i, j, hi, hj with
    | 0, 0, _, _ => exact absurd rfl hne
    | 0, j + 1, hi, hj => simp at hi hj; rw [← hi]; exact fun e => off j y hj e.symm
    | i + 1, 0, hi, hj => simp at hi hj; rw [← hj]; exact off i x hi
    | i + 1, j + 1, hi, hj => exact hM2.apart i j x y (by simpa using hi) (by simpa using hj) (by omega)
theorem Lst.some {w : World} {m n : Nat} {v : Value} {R : Nat → Value} {W : World} (h : Lst w [] m v n R W) (hn : 0 < n) : ∃ b c F, v = .slice (some ⟨b, 0, none⟩) n c ∧ w.heap.size ≤ b ∧ n ≤ c ∧ (∀ j, j < n * m → F j = R j) ∧ At W b (c * m) F ∧ Below w.heap.size w W := by
  rcases h with ⟨-, h, -⟩ | ⟨b, c, F, h1, h2, h3, h4, h5⟩
  · omega
  · exact ⟨b, c, F, h1, h2, h3, h4, h5.at0, h5.below⟩
theorem Lst.zero {w : World} {m n : Nat} {v : Value} {R : Nat → Value} {W : World} (h : Lst w [] m v n R W) (hn : n = 0) : ∃ a c, v = .slice a 0 c ∧ Below w.heap.size w W := by
  rcases h with ⟨h1, -, h⟩ | ⟨b, c, F, h1, h2, h3, h4, h5⟩
  · exact ⟨none, 0, h1, h.below⟩
  · exact ⟨_, c, by rw [h1, hn], h5.below⟩
end Go.Proofs.YtbmaljhnldepoaaDoor

/-
  Lists of cells as spots, and what functions that return such lists answer; cells of which something holds.
-/
namespace Go.Proofs.YtbmaljhnldepoaaDoor
open Go Go.RowKit Go.BigFrame

/-- Cells as spots. -/
def sL (l : List (Nat × Nat)) : Nat → Int × Int := fun k => (((l.getD k (0, 0)).1 : Int), ((l.getD k (0, 0)).2 : Int))
theorem sL_old (l : List (Nat × Nat)) (x : Nat × Nat) {k : Nat} (h : k < l.length) : sL (l ++ [x]) k = sL l k := by simp [sL, List.getElem?_append, h]
theorem sL_new (l : List (Nat × Nat)) (x : Nat × Nat) : sL (l ++ [x]) l.length = ((x.1 : Int), (x.2 : Int)) := by simp [sL]
theorem sps_old {l : List (Nat × Nat)} (x : Nat × Nat) {j : Nat} (h : j < l.length * 2) : sps (sL l) j = sps (sL (l ++ [x])) j := by
  have e : sL (l ++ [x]) (j / 2) = sL l (j / 2) := sL_old l x (by omega)
  simp [sps, e]
theorem sps_new (l : List (Nat × Nat)) (u v : Nat) {j : Nat} (h : j < 2) : sp (u : Int) (v : Int) j = sps (sL (l ++ [(u, v)])) (l.length * 2 + j) := by
  rw [sps_row _ _ _ h, sL_new]
/-- A list; a list and a code. -/
def Gives1 (w : World) (l : List (Nat × Nat)) (e : Ending) (w' : World) : Prop := ∃ v, e = .returned v ∧ Lst w [] 2 v l.length (sps (sL l)) w'
def GivesS (w : World) (l : List (Nat × Nat)) (c : Int) (e : Ending) (w' : World) : Prop := ∃ v, e = .returned (.tuple #[v, .int .i64 c]) ∧ Lst w [] 2 v l.length (sps (sL l)) w'

/-- The cells of which p holds. -/
def thatF (p : Nat → Nat → Bool) (l : List (Nat × Nat)) : List (Nat × Nat) := l.filter fun s => p s.1 s.2
theorem thatF_len {p : Nat → Nat → Bool} {l : List (Nat × Nat)} : (thatF p l).length ≤ l.length := List.length_filter_le _ _
theorem thatU_yes {p : Nat → Nat → Bool} {W k j : Nat} (h : j < W) (hz : p j k = true) : thatF p (upto W (k * W + (j + 1))) = thatF p (upto W (k * W + j)) ++ [(j, k)] := by
  unfold thatF
  rw [← Nat.add_assoc, upto_succ, List.filter_append, cellAt_row h]
  simp [hz]
theorem thatU_no {p : Nat → Nat → Bool} {W k j : Nat} (h : j < W) (hz : p j k = false) : thatF p (upto W (k * W + (j + 1))) = thatF p (upto W (k * W + j)) := by
  unfold thatF
  rw [← Nat.add_assoc, upto_succ, List.filter_append, cellAt_row h]
  simp [hz]
/-- The cells of one row. -/
def rowF (p : Nat → Nat → Bool) (k : Nat) : Nat → List (Nat × Nat)
  | 0 => []
  | j + 1 => rowF p k j ++ if p j k then [(j, k)] else []
theorem thatU_row {p : Nat → Nat → Bool} {W k : Nat} : ∀ j, j ≤ W → thatF p (upto W (k * W + j)) = thatF p (upto W (k * W)) ++ rowF p k j
  | 0, _ => by simp [rowF]
  | j + 1, h => by
    have ih := thatU_row (p := p) (W := W) (k := k) j (by omega)
    cases hz : p j k
    · rw [thatU_no (show j < W by omega) hz, ih]; simp [rowF, hz]
    · rw [thatU_yes (show j < W by omega) hz, ih]; simp [rowF, hz]
theorem rowF_more {p : Nat → Nat → Bool} {k W : Nat} (h : ∀ u, W ≤ u → p u k = false) : ∀ i, rowF p k (W + i) = rowF p k W
  | 0 => rfl
  | i + 1 => by
    show rowF p k (W + i) ++ (if p (W + i) k then [(W + i, k)] else []) = _
    rw [rowF_more h i, h (W + i) (by omega)]
    simp
/-- Cells beyond the pasture's own are none. -/
theorem thatU_rows {p : Nat → Nat → Bool} {W V : Nat} (hV : W ≤ V) (h : ∀ u v, W ≤ u → p u v = false) : ∀ k, thatF p (upto V (k * V)) = thatF p (upto W (k * W))
  | 0 => by simp [upto]
  | k + 1 => by
    have e1 : (k + 1) * V = k * V + V := by rw [Nat.add_mul, Nat.one_mul]
    have e2 : (k + 1) * W = k * W + W := by rw [Nat.add_mul, Nat.one_mul]
    rw [e1, e2, thatU_row V (Nat.le_refl _), thatU_row W (Nat.le_refl _), thatU_rows hV h k]
    have := rowF_more (p := p) (k := k) (W := W) (fun u hu => h u k hu) (V - W)
    rw [show W + (V - W) = V by omega] at this
    rw [this]
theorem rowF_none {p : Nat → Nat → Bool} {k : Nat} (h : ∀ u, p u k = false) : ∀ j, rowF p k j = []
  | 0 => rfl
  | j + 1 => by
    show rowF p k j ++ (if p j k then [(j, k)] else []) = []
    rw [rowF_none h j, h j]; rfl
theorem thatU_high {p : Nat → Nat → Bool} {W H : Nat} (h : ∀ u v, H ≤ v → p u v = false) : ∀ i, thatF p (upto W ((H + i) * W)) = thatF p (upto W (H * W))
  | 0 => rfl
  | i + 1 => by
    have e1 : (H + (i + 1)) * W = (H + i) * W + W := by rw [← Nat.add_assoc, Nat.add_mul, Nat.one_mul]
    rw [e1, thatU_row W (Nat.le_refl _), thatU_high h i, rowF_none (fun u => h u (H + i) (by omega)), List.append_nil]
theorem that_all {p : Nat → Nat → Bool} {W H : Nat} (hW : W ≤ 10) (hH : H ≤ 10) (h : ∀ u v, (W ≤ u ∨ H ≤ v) → p u v = false) : thatF p (upto 10 (10 * 10)) = thatF p (upto W (W * H)) := by
  rw [thatU_rows hW (fun u v hu => h u v (.inl hu)) 10]
  have := thatU_high (p := p) (W := W) (H := H) (fun u v hv => h u v (.inr hv)) (10 - H)
  rw [show H + (10 - H) = 10 by omega] at this
  rw [this, Nat.mul_comm]
end Go.Proofs.YtbmaljhnldepoaaDoor

/-
  The grass of the first columns of a pasture, by columns and by cells; the least of several numbers.
-/
namespace Go.Proofs.YtbmaljhnldepoaaDoor
open Go Go.RowKit

def westF (c : Nat) : Nat → Nat → Bool := fun u _ => decide (u < c)
/-- The grass of the first c columns of H rows. -/
def westN (g : Nat → Int) (H c : Nat) : Int := sumN H fun k => sumN c fun q => g (2 + k * 10 + q)
theorem sumN_plus (n : Nat) (f h : Nat → Int) : sumN n (fun k => f k + h k) = sumN n f + sumN n h := by
  induction n with
  | zero => rfl
  | succ n ih => rw [sumN, sumN, sumN, ih]; omega
theorem westN_zero (g : Nat → Int) (H : Nat) : westN g H 0 = 0 := by
  unfold westN
  induction H with
  | zero => rfl
  | succ H ih => rw [sumN, ih]; rfl
theorem westN_succ (g : Nat → Int) (H c : Nat) : westN g H (c + 1) = westN g H c + sumN H fun k => g (2 + k * 10 + c) := by
  unfold westN
  rw [← sumN_plus]
  rfl
theorem sumL_append (g : Nat → Int) (l m : List (Nat × Nat)) : sumL g (l ++ m) = sumL g l + sumL g m := by simp [sumL]
theorem sumL_rowF (g : Nat → Int) (c k : Nat) : ∀ j, sumL g (rowF (westF c) k j) = sumN (min j c) fun q => g (2 + k * 10 + q)
  | 0 => by simp [rowF, sumL, sumN]
  | j + 1 => by
    have ih := sumL_rowF g c k j
    by_cases h : j < c
    · have e : rowF (westF c) k (j + 1) = rowF (westF c) k j ++ [(j, k)] := by simp [rowF, westF, h]
      rw [e, sumL_snoc, ih, show min (j + 1) c = min j c + 1 by omega, sumN, show min j c = j by omega]
    · have e : rowF (westF c) k (j + 1) = rowF (westF c) k j := by simp [rowF, westF, h]
      rw [e, ih, show min (j + 1) c = min j c by omega]
theorem sumL_west (g : Nat → Int) {W c : Nat} (hc : c ≤ W) : ∀ H, sumL g (thatF (westF c) (upto W (H * W))) = westN g H c
  | 0 => by simp [upto, thatF, sumL, westN, sumN]
  | H + 1 => by
    rw [Nat.add_mul, Nat.one_mul, thatU_row W (Nat.le_refl _), sumL_append, sumL_west g hc H, sumL_rowF, show min W c = c by omega]
    rfl
theorem westN_bounds {g : Nat → Int} (hb : ∀ k, k < 100 → 0 ≤ g (2 + k) ∧ g (2 + k) ≤ 1000) {H c : Nat} (hH : H ≤ 10) (hc : c ≤ 10) : 0 ≤ westN g H c ∧ westN g H c ≤ 100000 := by
  have h1 := sumN_bounds (n := H) (f := fun k => sumN c fun q => g (2 + k * 10 + q)) (m := 10000) (by omega) (fun k hk => by
    have h2 := sumN_bounds (n := c) (f := fun q => g (2 + k * 10 + q)) (m := 1000) (by omega) (fun q hq => by
      have := hb (k * 10 + q) (by omega)
      rwa [show 2 + (k * 10 + q) = 2 + k * 10 + q by omega] at this)
    have : (1000 : Int) * c ≤ 10000 := by omega
    exact ⟨h2.1, by omega⟩)
  have : (10000 : Int) * H ≤ 100000 := by omega
  exact ⟨h1.1, by unfold westN; omega⟩
theorem colN_bounds {g : Nat → Int} (hb : ∀ k, k < 100 → 0 ≤ g (2 + k) ∧ g (2 + k) ≤ 1000) {H c : Nat} (hH : H ≤ 10) (hc : c < 10) : 0 ≤ sumN H (fun k => g (2 + k * 10 + c)) ∧ sumN H (fun k => g (2 + k * 10 + c)) ≤ 10000 := by
  have h1 := sumN_bounds (n := H) (f := fun k => g (2 + k * 10 + c)) (m := 1000) (by omega) (fun k hk => by
    have := hb (k * 10 + c) (by omega)
    rwa [show 2 + (k * 10 + c) = 2 + k * 10 + c by omega] at this)
  have : (1000 : Int) * H ≤ 10000 := by omega
  exact ⟨h1.1, by omega⟩
theorem mul_bd {x b : Int} (h : 0 ≤ x ∧ x ≤ 100000) (h2 : 0 ≤ b ∧ b ≤ 1000000) : 0 ≤ x * b ∧ x * b ≤ 100000000000 := by
  refine ⟨Int.mul_nonneg h.1 h2.1, ?_⟩
  have h3 : x * b ≤ 100000 * b := Int.mul_le_mul_of_nonneg_right h.2 h2.1
  omega

theorem mul_bd2 {x b : Int} (h : -100000 ≤ x ∧ x ≤ 100000) (h2 : 0 ≤ b ∧ b ≤ 1000000) : -100000000000 ≤ x * b ∧ x * b ≤ 100000000000 := by
  have h3 : x * b ≤ 100000 * b := Int.mul_le_mul_of_nonneg_right h.2 h2.1
  have h4 : -100000 * b ≤ x * b := Int.mul_le_mul_of_nonneg_right h.1 h2.1
  omega
/-- By how much the cut at c is wrong: w the grass of the west, t that of all. -/
def ownN (w t a b : Int) : Int := if w * b - (t - w) * a < 0 then -(w * b - (t - w) * a) else w * b - (t - w) * a
/-- The first of 0 .. n - 1 with the least number. -/
def amin (f : Nat → Int) : Nat → Nat
  | 0 => 0
  | n + 1 => if n = 0 then 0 else if f n < f (amin f n) then n else amin f n
theorem amin_one (f : Nat → Int) : amin f 1 = 0 := rfl
theorem amin_yes {f : Nat → Int} {n : Nat} (hn : 0 < n) (h : f n < f (amin f n)) : amin f (n + 1) = n := by
  show (if n = 0 then 0 else if f n < f (amin f n) then n else amin f n) = n
  rw [if_neg (by omega), if_pos h]
theorem amin_no {f : Nat → Int} {n : Nat} (hn : 0 < n) (h : ¬ f n < f (amin f n)) : amin f (n + 1) = amin f n := by
  show (if n = 0 then 0 else if f n < f (amin f n) then n else amin f n) = amin f n
  rw [if_neg (by omega), if_neg h]
theorem amin_lt (f : Nat → Int) : ∀ {n : Nat}, 0 < n → amin f n < n
  | 0, h => absurd h (by omega)
  | n + 1, _ => by
    show (if n = 0 then 0 else if f n < f (amin f n) then n else amin f n) < n + 1
    by_cases hn : n = 0
    · rw [if_pos hn]; omega
    · rw [if_neg hn]
      have := amin_lt f (show 0 < n by omega)
      split <;> omega
end Go.Proofs.YtbmaljhnldepoaaDoor

/-
  laws.toSpot by contract.
-/
namespace Go.Proofs.YtbmaljhnldepoaaDoor
open Go Go.RowKit Go.BigFrame

set_option maxHeartbeats 400000 in
theorem toSpot_any (f : Nat → Value) (h1 : ∀ k, (f k).oneCell' = true) (w : World) :
    Calls Tryd.prog 17 #[.agg (arr 2 f)] w fun e w' => e = .returned (.agg (arr 2 f)) ∧ Below w.heap.size w w' := by
  have hM := Mem.nil w
  have tk_b1 : True := trivial; have tk_b2 : True := trivial; have tk_b3 : True := trivial
  go_enter Tryd.func17, Tryd.ntmps17
  go_wp2_with (first | (have _t := tk_b1; refine wpList_box rfl _ _ rfl _ _ rfl hM ?_; intro b1 W' hb1 hM'; clear hM tk_b1; have hM := hM'; clear hM') | (have _t := tk_b2; refine wpList_zero rfl _ rfl (zeroTab _ _ _ rfl) hM ?_; intro b2 W' hb2 hM'; clear hM tk_b2; have hM := hM'; clear hM') | (have _t := tk_b3; refine wpList_zero rfl _ rfl (zeroTab _ _ _ rfl) hM ?_; intro b3 W' hb3 hM'; clear hM tk_b3; have hM := hM'; clear hM') | (refine wpList_get1 rfl _ _ rfl _ _ rfl hM 2 rfl (cellTab _ rfl) (by omega) _ rfl ?_) | (refine wpList_set1 rfl _ _ _ rfl _ _ rfl _ rfl ?_ hM 0 rfl (by assumption) (cellTab _ rfl) (by omega) ?_; (first | rfl | exact h1 _); intro W' hM'; clear hM; have hM := hM'; clear hM'; simp [List.set, Act.eval] at hM) | (refine wpList_get rfl _ _ rfl _ _ rfl hM 0 rfl (rowTab _ _ rfl) (by omega) ?_) | (refine wpList_lay rfl _ _ _ rfl _ _ rfl _ _ rfl hM 1 rfl (by assumption) (rowTab _ _ rfl) (by omega) ?_ ?_; (first | (intro _ _; rfl) | (intro k _; exact h1 _) | (intro k _; simp only [lay, upd]; (repeat' split) <;> first | exact h1 _ | rfl)); intro W' hM'; clear hM; have hM := hM'; clear hM'; simp only [List.set] at hM))
  have hA := (hM.ats 1 _ _ _ rfl).congr (g := f) (fun k hk => by
    rcases (show k = 0 ∨ k = 1 by omega) with rfl | rfl <;> rfl)
  exact bodyPost_ret (results_at rfl _ rfl hA (rowTab _ _ rfl)) rfl ⟨rfl, hM.below⟩

theorem toSpot_sp (x y : Int) (w : World) : Calls Tryd.prog 17 #[.agg (arr 2 (sp x y))] w fun e w' => e = .returned (.agg (arr 2 (sp x y))) ∧ Below w.heap.size w w' := toSpot_any _ (fun _ => rfl) w
end Go.Proofs.YtbmaljhnldepoaaDoor

