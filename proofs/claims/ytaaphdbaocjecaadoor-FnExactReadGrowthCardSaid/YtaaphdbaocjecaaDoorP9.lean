/-
  Several texts in one: SpotT, Words, Cut, ValidStakes, Cat, GivesR, StakesTI, ReadStX, OpenRd, GrowOk, GrowthTS, ReadGrM.
-/
import Derived.Test.YtaaphdbaocjecaaDoorP2
import Derived.Test.YtaaphdbaocjecaaDoorP8
import Derived.Test.YtaaphdbaocjecaaDoorP3
import Derived.Test.YtaaphdbaocjecaaDoorP5
import Derived.Test.YtaaphdbaocjecaaDoorP7
import Derived.Test.YtaaphdbaocjecaaDoorP1
import Derived.Stop.LaidErr
import Derived.Lib.LaidTab
import Derived.Lay
import Derived.ShapedOpen
import Derived.ChangeAgain
import Derived.Lib.Hide
/-
  (impl.Spot).text by contract.
-/
namespace Go.Proofs.YtaaphdbaocjecaaDoor
open Go Go.RowKit Go.BigFrame

set_option maxRecDepth 100000 in
set_option maxHeartbeats 1000000 in
theorem spotText_any (x y : Int) (hx : 0 ≤ x ∧ x ≤ 127) (hy : 0 ≤ y ∧ y ≤ 127) (w : World) (hT : TabP w) :
    Calls Tryd.prog 35 #[.agg (arr 2 (sp x y))] w fun e w' => e = .returned (.string (bs (spotT x y))) ∧ Below w.heap.size w w' := by
  have hM := Mem.nil w
  have e0 : sp x y 0 = .int .i8 x := rfl
  have e1 : sp x y 1 = .int .i8 y := rfl
  have cx : IntKind.i64.wrap x = x := IntWalk.i64_in _ (by omega)
  have cy : IntKind.i64.wrap y = y := IntWalk.i64_in _ (by omega)
  have lx := numB_len (n := x) (by omega)
  have ly := numB_len (n := y) (by omega)
  have HX := Lib.hid (fun (W : World) (h : TabP W) => fmt_any x hx.1 (by omega) W h)
  have HY := Lib.hid (fun (W : World) (h : TabP W) => fmt_any y hy.1 (by omega) W h)
  have HT := Lib.hid hT
  clear hT
  obtain ⟨u, hu⟩ : ∃ u, numB x = u := ⟨_, rfl⟩
  obtain ⟨v, hv⟩ : ∃ v, numB y = v := ⟨_, rfl⟩
  have hr : spotT x y = u ++ [44] ++ v := by unfold spotT; rw [hu, hv]
  rw [hr]
  rw [hu] at HX lx
  rw [hv] at HY ly
  clear hu hv hr
  have tk_b1 : True := trivial
  go_enter Tryd.func35, Tryd.ntmps35
  go_wp2_with (first | (have _t := tk_b1; refine wpList_box rfl _ _ rfl _ _ rfl hM ?_; intro b1 W' hb1 hM'; clear hM tk_b1; have hM := hM'; clear hM'))
  ((try simp only [Act.put, List.setIfInBounds_toArray, List.set_cons_succ, List.set_cons_zero]); refine wp_region_mem (by kernel_rfl) (by kernel_rfl) hM ?_; clear hM; (repeat (first | go_big_quiet_skip | (go_big_quiet_want; first | (refine quiet_get1 _ _ rfl _ _ rfl 0 rfl (cellTab _ rfl) (by omega) _ e0 ?_; (simp only [Act.put, List.setIfInBounds_toArray, List.set_cons_succ, List.set_cons_zero]); go_big_quiet_on) | (refine quiet_get1 _ _ rfl _ _ rfl 0 rfl (cellTab _ rfl) (by omega) _ e1 ?_; (simp only [Act.put, List.setIfInBounds_toArray, List.set_cons_succ, List.set_cons_zero]); go_big_quiet_on) | (refine quiet_call ?_; apply Exists.intro; apply Exists.intro; apply Exists.intro; refine ⟨fun W => ?_, fun W hM => ?_, ?_⟩; (go_simp; exact ⟨rfl, rfl⟩); (with_reducible exact HX.out W (HT.out.below hM.below)); (simp only [Act.put, List.setIfInBounds_toArray, List.set_cons_succ, List.set_cons_zero]); go_big_quiet_on) | (refine quiet_call ?_; apply Exists.intro; apply Exists.intro; apply Exists.intro; refine ⟨fun W => ?_, fun W hM => ?_, ?_⟩; (go_simp; exact ⟨rfl, rfl⟩); (with_reducible exact HY.out W (HT.out.below hM.below)); (simp only [Act.put, List.setIfInBounds_toArray, List.set_cons_succ, List.set_cons_zero]); go_big_quiet_on) | (refine quiet_val ⟨_, fun W => cat_op _ _ rfl _ _ rfl rfl (by simp only [List.length_append, List.length_cons, List.length_nil]; omega) W, ?_⟩; (simp only [Act.put, List.setIfInBounds_toArray, List.set_cons_succ, List.set_cons_zero]); go_big_quiet_on) | (refine quiet_val ?_; apply Exists.intro; refine ⟨fun W => ?_, ?_⟩; (go_simp; (try simp only [cx, cy, if_true, Bool.false_eq_true, if_false]); rfl); (simp only [Act.put, List.setIfInBounds_toArray, List.set_cons_succ, List.set_cons_zero]); go_big_quiet_on)))); (with_reducible refine wpQuiet_nil ?_); intro W' hM)
  go_wp2
  go_ret
  exact ⟨ret_bs (l := u ++ 44 :: v) (by simp), hM.below⟩
end Go.Proofs.YtaaphdbaocjecaaDoor

/-
  Words: a list of strings that grows; how it is joined.
-/
namespace Go.Proofs.YtaaphdbaocjecaaDoor
open Go Go.RowKit Go.BigFrame

theorem strs_under : Tryd.prog.underlying 36 = some (.slice 9) := Tryd.underlying36
theorem strs_info : (Tryd.prog.info? 9).map (fun i => (i.size, i.zero)) = some (1, some (.string ⟨#[]⟩)) := by kernel_rfl
theorem strF_one {f : Nat → List UInt8} : ∀ k, k < 1 → ((fun _ => strF f k) k : Value).oneCell' = true := fun _ _ => rfl
/-- Words that a call listed, joined. -/
theorem join_lst {w : World} {K : Blocks} {v : Value} {n : Nat} {f : Nat → List UInt8} {W : World} (h : Lst (Base.of w) K 1 v n (strF f) W) (sep : List UInt8) (m : Nat) (hf : ∀ k, k < n → (f k).length ≤ m) (hm : n * (m + sep.length) ≤ 100000000) (hn : n ≤ 1048576) :
    Calls Tryd.prog 30 #[v, .string (bs sep)] W fun e w' => e = .returned (.string (bs (joinT sep f n))) ∧ Below W.heap.size W w' := by
  rcases h with ⟨rfl, rfl, hM⟩ | ⟨b, c, F, rfl, hb, hc, hF, hM⟩
  · exact joinS_none _ _ _ _
  · exact join_any b n (c * 1) c f F sep m hf hm hn (by omega) (fun k hk => hF k (by omega)) hc W (hM.ats 0 _ _ _ rfl)
end Go.Proofs.YtaaphdbaocjecaaDoor

/-
  PLAIN LAWS: the first k of a list.
-/
namespace Go.Proofs.YtaaphdbaocjecaaDoor
open Go Go.RowKit

theorem run_cutTo {P : Program} {t e : TypeId} (hu : P.underlying t = some (.slice e)) {m : Nat} (hz : (P.info? e).map (·.size) = some m) (b off n c k : Nat) (hk : k ≤ c) (W : World) :
    (Instr.sliceAt t (.slice (some ⟨b, off, none⟩) n c) none (some (.int .i64 k)) none).run P W = .ok (.slice (some ⟨b, off, none⟩) k c) W := by
  obtain ⟨ie, hie, hq⟩ := Option.map_eq_some_iff.1 hz
  have hle : (k : Int) ≤ c := by omega
  have hb1 : (Instr.sliceBound (.int .i64 k) c .sliceAcap).run P W = .ok k W := by
    simp [Instr.sliceBound, asIntOf, hle]
  have hr : (Instr.slice t (.slice (some ⟨b, off, none⟩) n c) none (some (.int .i64 k)) none).run P W = .ok (.slice (some ⟨b, off, none⟩) k c) W := by
    simp [Instr.slice, Instr.sliceBounds, run_underlying hu, sizeOf, typeInfo, hie, hq, hb1, add_any]
  unfold Instr.sliceAt
  simp only [Sem.run_bind, run_underlying hu, Result.andThen_ok, hr]
end Go.Proofs.YtaaphdbaocjecaaDoor

/-
  (impl.Stake).isToldFor, sharesCell, slices.IndexFunc and ContainsFunc over it, impl.ValidStakes, spec.ValidStakes by contracts; laws.FnExactValidStakes returns true.
-/
namespace Go.Proofs.YtaaphdbaocjecaaDoor
open Go Go.RowKit Go.BigFrame

theorem atEq_comm (a b : Nat → Int) : atEq a b = atEq b a := by
  unfold atEq
  rw [Bool.eq_iff_iff]
  simp only [Bool.and_eq_true, beq_iff_eq]
  exact ⟨fun h => ⟨h.1.symm, h.2.symm⟩, fun h => ⟨h.1.symm, h.2.symm⟩⟩

set_option maxRecDepth 100000 in
set_option maxHeartbeats 1000000 in
theorem stakeTold_any (g h : Nat → Int) (w : World) :
    Calls Tryd.prog 34 #[.agg (arr 3 (vStake h)), .agg (arr 122 (pas g))] w fun e w' => e = .returned (.bool (stakeB g h)) ∧ Below w.heap.size w w' := by
  have hM := Mem.nil w
  have e0 : arr 2 (fun j => vStake h (0 + j)) = arr 2 (sp (h 0) (h 1)) := spStake0 h
  have e2 : vStake h 2 = .int .i16 (h 2) := rfl
  have tk_b1 : True := trivial; have tk_b2 : True := trivial; have tk_q1 : True := trivial; have tk_q2 : True := trivial
  cases h1 : isB g (h 0) (h 1)
  · have Hp : Hid (stakeB g h = false) := Lib.hid (by simp [stakeB, h1])
    have H1 := Lib.hid h1
    clear h1
    go_enter Tryd.func34, Tryd.ntmps34
    go_wp2_with (first | (go_at_call 47; (with_reducible refine (hasCell_any g (h 0) (h 1) _).mono ?_); rintro e W' ⟨rfl, hb'⟩; rw [H1.out]; have hM' := hM.call hb'; clear hM hb'; have hM := hM'; clear hM') | (have _t := tk_b1; refine wpList_box rfl _ _ rfl _ _ rfl hM ?_; intro b1 W' hb1 hM'; clear hM tk_b1; have hM := hM'; clear hM') | (have _t := tk_b2; refine wpList_box rfl _ _ rfl _ _ rfl hM ?_; intro b2 W' hb2 hM'; clear hM tk_b2; have hM := hM'; clear hM') | (have _t := tk_q1; (refine wpList_get rfl _ _ rfl _ _ rfl hM 0 rfl (rowTab _ _ rfl) (by omega) ?_); clear tk_q1) | (have _t := tk_q2; (refine wpList_get rfl _ _ rfl _ _ rfl hM 1 rfl (rowTab _ 2 rfl) (by omega) ?_); rw [e0]; clear tk_q2))
    go_ret
    exact ⟨ret_bool Hp.out.symm, hM.below⟩
  rcases (show h 2 < 0 ∨ (0 ≤ h 2 ∧ 200 < h 2) ∨ (0 ≤ h 2 ∧ h 2 ≤ 200) by omega) with r0 | ⟨r0, r1⟩ | ⟨r0, r1⟩
  · have Hp : Hid (stakeB g h = false) := Lib.hid (by unfold stakeB; rw [inB_no (by omega), Bool.and_false])
    have H1 := Lib.hid h1
    have d0 : decide (0 ≤ h 2) = false := decide_eq_false (by omega)
    clear h1
    go_enter Tryd.func34, Tryd.ntmps34
    go_wp2_with (first | (go_at_call 47; (with_reducible refine (hasCell_any g (h 0) (h 1) _).mono ?_); rintro e W' ⟨rfl, hb'⟩; rw [H1.out]; have hM' := hM.call hb'; clear hM hb'; have hM := hM'; clear hM') | (have _t := tk_b1; refine wpList_box rfl _ _ rfl _ _ rfl hM ?_; intro b1 W' hb1 hM'; clear hM tk_b1; have hM := hM'; clear hM') | (have _t := tk_b2; refine wpList_box rfl _ _ rfl _ _ rfl hM ?_; intro b2 W' hb2 hM'; clear hM tk_b2; have hM := hM'; clear hM') | (have _t := tk_q1; (refine wpList_get rfl _ _ rfl _ _ rfl hM 0 rfl (rowTab _ _ rfl) (by omega) ?_); clear tk_q1) | (have _t := tk_q2; (refine wpList_get rfl _ _ rfl _ _ rfl hM 1 rfl (rowTab _ 2 rfl) (by omega) ?_); rw [e0]; clear tk_q2) | (refine wpList_gget1 ?_ _ _ rfl _ _ rfl hM 1 rfl (cellTab _ rfl) (by omega) _ e2 ?_; kernel_rfl))
    go_ret
    exact ⟨ret_bool Hp.out.symm, hM.below⟩
  · have Hp : Hid (stakeB g h = false) := Lib.hid (by unfold stakeB; rw [inB_no (by omega), Bool.and_false])
    have H1 := Lib.hid h1
    have d0 : decide (0 ≤ h 2) = true := decide_eq_true (by omega)
    have d1 : decide (h 2 ≤ 200) = false := decide_eq_false (by omega)
    clear h1
    go_enter Tryd.func34, Tryd.ntmps34
    go_wp2_with (first | (go_at_call 47; (with_reducible refine (hasCell_any g (h 0) (h 1) _).mono ?_); rintro e W' ⟨rfl, hb'⟩; rw [H1.out]; have hM' := hM.call hb'; clear hM hb'; have hM := hM'; clear hM') | (have _t := tk_b1; refine wpList_box rfl _ _ rfl _ _ rfl hM ?_; intro b1 W' hb1 hM'; clear hM tk_b1; have hM := hM'; clear hM') | (have _t := tk_b2; refine wpList_box rfl _ _ rfl _ _ rfl hM ?_; intro b2 W' hb2 hM'; clear hM tk_b2; have hM := hM'; clear hM') | (have _t := tk_q1; (refine wpList_get rfl _ _ rfl _ _ rfl hM 0 rfl (rowTab _ _ rfl) (by omega) ?_); clear tk_q1) | (have _t := tk_q2; (refine wpList_get rfl _ _ rfl _ _ rfl hM 1 rfl (rowTab _ 2 rfl) (by omega) ?_); rw [e0]; clear tk_q2) | (refine wpList_gget1 ?_ _ _ rfl _ _ rfl hM 1 rfl (cellTab _ rfl) (by omega) _ e2 ?_; kernel_rfl))
    go_ret
    exact ⟨ret_bool Hp.out.symm, hM.below⟩
  · have Hp : Hid (stakeB g h = true) := Lib.hid (by unfold stakeB; rw [h1, inB_yes ⟨r0, r1⟩]; rfl)
    have H1 := Lib.hid h1
    have d0 : decide (0 ≤ h 2) = true := decide_eq_true (by omega)
    have d1 : decide (h 2 ≤ 200) = true := decide_eq_true (by omega)
    clear h1
    go_enter Tryd.func34, Tryd.ntmps34
    go_wp2_with (first | (go_at_call 47; (with_reducible refine (hasCell_any g (h 0) (h 1) _).mono ?_); rintro e W' ⟨rfl, hb'⟩; rw [H1.out]; have hM' := hM.call hb'; clear hM hb'; have hM := hM'; clear hM') | (have _t := tk_b1; refine wpList_box rfl _ _ rfl _ _ rfl hM ?_; intro b1 W' hb1 hM'; clear hM tk_b1; have hM := hM'; clear hM') | (have _t := tk_b2; refine wpList_box rfl _ _ rfl _ _ rfl hM ?_; intro b2 W' hb2 hM'; clear hM tk_b2; have hM := hM'; clear hM') | (have _t := tk_q1; (refine wpList_get rfl _ _ rfl _ _ rfl hM 0 rfl (rowTab _ _ rfl) (by omega) ?_); clear tk_q1) | (have _t := tk_q2; (refine wpList_get rfl _ _ rfl _ _ rfl hM 1 rfl (rowTab _ 2 rfl) (by omega) ?_); rw [e0]; clear tk_q2) | (refine wpList_gget1 ?_ _ _ rfl _ _ rfl hM 1 rfl (cellTab _ rfl) (by omega) _ e2 ?_; kernel_rfl))
    go_ret
    exact ⟨ret_bool Hp.out.symm, hM.below⟩

/-- What the search for a stake in the cell of a gives. -/
def IdxOf (hs : Nat → Nat → Int) (a : Nat → Int) (k : Nat) (w : World) (e : Ending) (w' : World) : Prop :=
  (∃ j : Nat, e = .returned (.int .i64 j) ∧ freeTo hs a k = false ∧ Below w.heap.size w w') ∨ (e = .returned (.int .i64 (-1)) ∧ freeTo hs a k = true ∧ Below w.heap.size w w')
theorem lay_stake (z : Nat → Value) (hs : Nat → Nat → Int) (k : Nat) : ∀ j, j < 3 → lay z 0 3 (fun i => sStake hs (k * 3 + i)) j = vStake (hs k) j := fun j hj => by
  simp only [lay, Nat.zero_add, Nat.sub_zero]
  rw [if_pos ⟨by omega, hj⟩]
  exact sStake_row hs k j hj

end Go.Proofs.YtaaphdbaocjecaaDoor

/-
  PLAIN LAW: a list's elements are appended to a list that has none and no room.
-/
namespace Go.Proofs.YtaaphdbaocjecaaDoor
open Go Go.RowKit

/-- A block that a call gave, told by its world. -/
theorem Mem.freshQ {b0 : Base} {L : Blocks} {X X' : World} {b n : Nat} {f : Nat → Value} (hM : Mem b0 L X) (hb : Below X.heap.size X X') (ha : At X' b n f) (hge : X.heap.size ≤ b) : Mem b0 ((b, n, f) :: L) X' := by
  have hM2 := hM.call hb
  have off : ∀ (i : Nat) (p : Nat × Nat × (Nat → Value)), L[i]? = some p → p.1 ≠ b := fun i p h => by
    have := (hM.ats i p.1 p.2.1 p.2.2 h).lt
    omega
  refine ⟨hM2.good, fun i b' n' f' hi => ?_, fun i j x y hi hj hne => ?_⟩
  · match i, hi with
    | 0, hi => simp at hi; obtain ⟨rfl, rfl, rfl⟩ := hi; exact ha
    | i + 1, hi => exact hM2.ats i b' n' f' (by simpa using hi)
  · match i, j, hi, hj with
    | 0, 0, _, _ => exact absurd rfl hne
    | 0, j + 1, hi, hj => simp at hi hj; rw [← hi]; exact fun e => off j y hj e.symm
    | i + 1, 0, hi, hj => simp at hi hj; rw [← hj]; exact off i x hi
    | i + 1, j + 1, hi, hj => exact hM2.apart i j x y (by simpa using hi) (by simpa using hj) (by omega)

section
variable {P : Program} {ops : Array Oper} {rest : List Oper} {o : Oper} {a : Act} {w : Base} {W : World} {Q : Exit → Act → World → Prop} {L : Blocks}
/-- A list's elements, one or more, are appended to a list that has none and no room. -/
theorem wpList_cat0 (hgd : o.guard = none) (s x : Operand) (t : TypeId) (ho : o.op = .call { callee := .builtin .append, args := #[s, x], argTypes := #[t, t] })
    (e : TypeId) (m bs : Nat) (z : Value) (hu : P.underlying t = some (.slice e)) (hz : (P.info? e).map (fun i => (i.size, i.zero, i.bytes)) = some (m, some z, bs)) (hzs : z.cells.size = m) (hbs : bs ≤ 1000)
    (b0 : Nat) (hs : a.eval s = .slice (some ⟨b0, 0, none⟩) 0 0) (bn n cn : Nat) (hx : a.eval x = .slice (some ⟨bn, 0, none⟩) n cn) (hn1 : 1 ≤ n) (hn : n ≤ 1048576)
    (hM : Mem w L W) (i0 : Nat) {N : Nat} {f : Nat → Value} (hi0 : L[i0]? = some (bn, N, f)) (hN : n * m ≤ N)
    (h : ∀ b' c' F' W', w.B ≤ b' → n ≤ c' → (∀ j, j < n * m → F' j = f j) → Mem w ((b', c' * m, F') :: L) W' → wpList P ops Q rest (a.put o.dst (.slice (some ⟨b', 0, none⟩) n c')) W') : wpList P ops Q (o :: rest) a W := by
  obtain ⟨i, hi, hq⟩ := Option.map_eq_some_iff.1 hz
  simp only [Prod.mk.injEq] at hq
  obtain ⟨rfl, q2, rfl⟩ := hq
  refine wpList_plain hgd fun J hJ => ?_
  have hb48 : Builtin.nextslicecap (0 + n) 0 * i.bytes ≤ 281474976710656 := growslice_fits (by omega) (by
    have : (0 + n) * i.bytes ≤ 1048576 * 1000 := Nat.mul_le_mul (by omega) hbs
    omega)
  have hr := run_append_grow (P := P) W t o.type e i z hu hi q2 ⟨b0, 0, none⟩ 0 0 [] (by simp) (fun j v hv => by simp at hv) ⟨bn, 0, none⟩ n cn (arr (n * i.size) f).toList (by simp [arr_size]) ((hM.ats i0 _ _ _ hi0).list hN) (by omega) (by omega) hb48
  have hge := grownCap_ge W (0 + n) 0 e
  rw [Nat.zero_add] at hr hge
  unfold Oper.wp execOp
  simp only [ho, resolve, invoke, builtin, Sem.run_bind, Sem.run_pure, Result.andThen_ok, List.map_toArray, List.map_cons, List.map_nil, hs, hx, hr]
  refine hJ _ _ (h _ _ _ _ hM.size hge (fun j hj => ?_) (hM.drew.allocA e _ (grownCap W n 0 e * i.size) ?_))
  · rw [Array.getElem?_append_left (by simp [arr_size]; omega)]
    simp [arr, hj]
  · simp only [Array.size_append, List.size_toArray, size_zeroCells, hzs, Array.length_toList, arr_size, List.length_nil]
    rw [Nat.zero_add, ← Nat.add_mul]
    congr 1; omega
end
end Go.Proofs.YtaaphdbaocjecaaDoor

/-
  PLAIN: what a call gives that returns a list and a code (or a list, a number and a code): no element, or the first cells of a new block; a block brought to the front.
-/
namespace Go.Proofs.YtaaphdbaocjecaaDoor
open Go Go.RowKit

/-- The list v: n elements of m cells, R, in a new block; or none. -/
def NewL (m n : Nat) (R : Nat → Value) (w : World) (v : Value) (w' : World) : Prop :=
  (n = 0 ∧ (∃ a c, v = .slice a 0 c) ∧ Below w.heap.size w w') ∨ ∃ b c N F, v = .slice (some ⟨b, 0, none⟩) n c ∧ w.heap.size ≤ b ∧ n * m ≤ N ∧ (∀ j, j < n * m → F j = R j) ∧ At w' b N F ∧ Below w.heap.size w w'
def GivesR (m n : Nat) (R : Nat → Value) (cc : Int) (w : World) (e : Ending) (w' : World) : Prop := ∃ v, e = .returned (.tuple #[v, .int .i64 cc]) ∧ NewL m n R w v w'
def GivesR2 (m n : Nat) (R : Nat → Value) (x cc : Int) (w : World) (e : Ending) (w' : World) : Prop := ∃ v, e = .returned (.tuple #[v, .int .i64 x, .int .i64 cc]) ∧ NewL m n R w v w'
theorem NewL.zero {m n : Nat} {R : Nat → Value} {w : World} {v : Value} {w' : World} (h : NewL m n R w v w') (hn : n = 0) : ∃ a c, v = .slice a 0 c ∧ Below w.heap.size w w' := by
  rcases h with ⟨-, ⟨a, c, h⟩, hb⟩ | ⟨b, c, N, F, h, -, -, -, -, hb⟩
  · exact ⟨a, c, h, hb⟩
  · exact ⟨_, c, by rw [h, hn], hb⟩
theorem NewL.some {m n : Nat} {R : Nat → Value} {w : World} {v : Value} {w' : World} (h : NewL m n R w v w') (hn : 0 < n) : ∃ b c N F, v = .slice (some ⟨b, 0, none⟩) n c ∧ w.heap.size ≤ b ∧ n * m ≤ N ∧ (∀ j, j < n * m → F j = R j) ∧ At w' b N F ∧ Below w.heap.size w w' := by
  rcases h with ⟨h, -⟩ | h
  · omega
  · exact h
theorem GivesR.to {m n n' : Nat} {R R' : Nat → Value} {c c' : Int} {w : World} {e : Ending} {w' : World} (h : GivesR m n R c w e w') (hn : n = n') (hR : R = R') (hc : c = c') : GivesR m n' R' c' w e w' := by rw [← hn, ← hR, ← hc]; exact h
/-- No list. -/
theorem GivesR.none {m : Nat} {R : Nat → Value} {n : Nat} {cc cc' : Int} {w w' : World} {a : Option Addr} {c : Nat} (hb : Below w.heap.size w w') (hn : n = 0) (hc : cc' = cc) : GivesR m n R cc w (.returned (.tuple #[.slice a 0 c, .int .i64 cc'])) w' := ⟨_, by rw [hc], .inl ⟨hn, ⟨a, c, rfl⟩, hb⟩⟩
/-- The i-th block is brought to the front. -/
theorem Mem.toFront {w : Base} {W : World} {L : Blocks} (h : Mem w L W) (i : Nat) {p : Nat × Nat × (Nat → Value)} (hi : L[i]? = some p) : Mem w (p :: L.eraseIdx i) W := by
  have key : ∀ j q, (L.eraseIdx i)[j]? = some q → L[if j < i then j else j + 1]? = some q := fun j q hq => by
    rw [List.getElem?_eraseIdx] at hq
    split at hq <;> rename_i hji
    · rw [if_pos hji]; exact hq
    · rw [if_neg hji]; exact hq
  refine ⟨h.good, fun j b n f hj => ?_, fun j k x y hj hk hne => ?_⟩
  · match j, hj with
    | 0, hj => simp at hj; subst hj; exact h.ats i _ _ _ hi
    | j + 1, hj => exact h.ats _ b n f (key j _ (by simpa using hj))
  · match j, k, hj, hk with
    | 0, 0, _, _ => exact absurd rfl hne
    | 0, k + 1, hj, hk =>
      simp at hj; subst hj
      exact h.apart i _ _ y hi (key k _ (by simpa using hk)) (by split <;> omega)
    | j + 1, 0, hj, hk =>
      simp at hk; subst hk
      exact h.apart _ i x _ (key j _ (by simpa using hj)) hi (by split <;> omega)
    | j + 1, k + 1, hj, hk => exact h.apart _ _ x y (key j _ (by simpa using hj)) (key k _ (by simpa using hk)) (by split <;> split <;> omega)
end Go.Proofs.YtaaphdbaocjecaaDoor

/-
  impl.StakesText by contract.
-/
namespace Go.Proofs.YtaaphdbaocjecaaDoor
open Go Go.RowKit Go.BigFrame

set_option maxRecDepth 100000 in
set_option maxHeartbeats 4000000 in
theorem implStakesTextG_any (b n N c : Nat) (hs : Nat → Nat → Int) (G : Nat → Value) (hG : ∀ j, j < n * 3 → G j = sStake hs j) (hN : n * 3 ≤ N) (hn : n ≤ 1048576) (w : World) (hT : TabP w) (hB : At w b N G) :
    Calls Tryd.prog 22 #[.slice (some ⟨b, 0, none⟩) n c] w fun e w' => e = .returned (.string (bs (stakesT n hs))) ∧ Below w.heap.size w w' := by
  have hM : Mem w [(b, N, G)] w := (Mem.nil w).old hB (fun i p h => by simp at h)
  have HT := Lib.hid hT
  have HG := Lib.hid hG
  clear hB hT hG
  by_cases h12 : 12 < n
  · have d1 : decide ((n : Int) > 12) = true := decide_eq_true (by omega)
    have d2 : (12 : Int) < n := by omega
    have Hp := Lib.hid (stakesT_many (hs := hs) h12)
    go_enter Tryd.func22, Tryd.ntmps22
    go_wp2
    go_ret
    exact ⟨ret_bs Hp.out.symm, hM.below⟩
  have d1 : decide ((n : Int) > 12) = false := decide_eq_false (by omega)
  have d2 : ¬ (12 : Int) < n := by omega
  have tk_b4 : True := trivial; have tk_y4 : True := trivial
  go_enter Tryd.func22, Tryd.ntmps22
  go_wp2_with (first | (refine wpList_greatest rfl _ _ rfl rfl rfl ?_) | (have _t := tk_b4; refine wpList_zero rfl _ rfl (zeroTab _ _ _ rfl) hM ?_; intro b4 W' hb4 hM'; clear hM tk_b4; have hM := hM'; clear hM') | (have _t := tk_y4; (refine wpList_lay rfl _ _ _ rfl _ _ rfl _ _ rfl hM 0 rfl (by assumption) (rowTab _ _ rfl) (by omega) ?_ ?_; (first | (intro _ _; rfl) | (intro k _; exact h1 _) | (intro k _; simp only [lay, upd]; (repeat' split) <;> first | exact h1 _ | rfl)); intro W' hM'; clear hM; have hM := hM'; clear hM'; simp only [List.set] at hM); clear tk_y4))
  have hM1 := hM.re 0 rfl (pas gMost) (fun j hj => by simp [lay, hj])
  simp only [List.set_cons_zero] at hM1
  clear hM
  have hM := hM1
  clear hM1
  go_loopw [4, 13] (fun v i wr => ∃ k : Nat, k ≤ n ∧ i = .int .i64 k ∧ Hid (∀ j, j < k → stakeB gMost (hs j) = true) ∧ Lst (Base.of w) [(b4, 122, pas gMost), (b, N, G)] 1 v k (strF (stakeW hs)) wr) (fun _ i _ => n - (intOf i).toNat)
  case atStart => exact ⟨0, by omega, rfl, Lib.hid (fun j hj => absurd hj (by omega)), .inl ⟨rfl, rfl, hM⟩⟩
  case round =>
    clear hM
    obtain ⟨k, hk, rfl, hall, hL⟩ := hrel
    by_cases hlt : k < n
    · have l2 : (k : Int) < n := by omega
      have eG : arr 3 (fun j => G (k * 3 + j)) = arr 3 (vStake (hs k)) := arr_congr fun j hj => by rw [HG.out _ (by omega), sStake_row _ _ _ hj]
      have el : arr 3 (fun j => vStake (hs k) (0 + j)) = arr 3 (vStake (hs k)) := arr_congr fun j hj => by rw [Nat.zero_add]
      have eg : arr 122 (fun j => pas gMost (0 + j)) = arr 122 (pas gMost) := arr_congr fun j hj => by rw [Nat.zero_add]
      cases he : stakeB gMost (hs k)
      · have Hp := Lib.hid (stakesT_no hlt he)
        have He := Lib.hid he
        clear he
        rcases hL with ⟨rfl, hn0, hM⟩ | ⟨bw, cw, F, rfl, hbb, hnc, hFF, hM⟩
        · have Hn0 := Lib.hid hn0
          clear hn0
          have tk_b3 : True := trivial; have tk_r1 : True := trivial; have tk_r2 : True := trivial; have tk_r3 : True := trivial; have tk_r4 : True := trivial
          go_wp2_with (first | (have _t := tk_r1; (refine wpList_get rfl _ _ rfl _ _ rfl hM 1 rfl rowStake (by omega) ?_); rw [eG]; clear tk_r1) | (have _t := tk_b3; refine wpList_zero rfl _ rfl zeroStake hM ?_; intro b3 W' hb3 hM'; clear hM tk_b3; have hM := hM'; clear hM') | (have _t := tk_r2; (refine wpList_lay rfl _ _ _ rfl _ _ rfl _ _ rfl hM 0 rfl (by assumption) rowStake (by omega) (fun _ _ => rfl) ?_; intro W' hM'; clear hM; have hM := hM'; clear hM'; simp only [List.set] at hM; have hM1 := hM.re 0 rfl (vStake (hs k)) (fun j hj => by simp [lay, hj]); simp only [List.set_cons_zero] at hM1; clear hM; have hM := hM1; clear hM1); clear tk_r2) | (have _t := tk_r3; (refine wpList_get rfl _ _ rfl _ _ rfl hM 0 rfl rowStake (by omega) ?_); rw [el]; clear tk_r3) | (have _t := tk_r4; (refine wpList_get rfl _ _ rfl _ _ rfl hM 1 rfl (rowTab _ _ rfl) (by omega) ?_); rw [eg]; clear tk_r4) | (go_at_call 34; refine (stakeTold_any gMost (hs k) _).mono ?_; rintro e W' ⟨rfl, hb'⟩; rw [He.out]; have hM' := hM.call hb'; clear hM hb'; have hM := hM'; clear hM'))
          go_ret
          exact ⟨ret_bs Hp.out.symm, hM.below⟩
        · have tk_b3 : True := trivial; have tk_r1 : True := trivial; have tk_r2 : True := trivial; have tk_r3 : True := trivial; have tk_r4 : True := trivial
          go_wp2_with (first | (have _t := tk_r1; (refine wpList_get rfl _ _ rfl _ _ rfl hM 2 rfl rowStake (by omega) ?_); rw [eG]; clear tk_r1) | (have _t := tk_b3; refine wpList_zero rfl _ rfl zeroStake hM ?_; intro b3 W' hb3 hM'; clear hM tk_b3; have hM := hM'; clear hM') | (have _t := tk_r2; (refine wpList_lay rfl _ _ _ rfl _ _ rfl _ _ rfl hM 0 rfl (by assumption) rowStake (by omega) (fun _ _ => rfl) ?_; intro W' hM'; clear hM; have hM := hM'; clear hM'; simp only [List.set] at hM; have hM1 := hM.re 0 rfl (vStake (hs k)) (fun j hj => by simp [lay, hj]); simp only [List.set_cons_zero] at hM1; clear hM; have hM := hM1; clear hM1); clear tk_r2) | (have _t := tk_r3; (refine wpList_get rfl _ _ rfl _ _ rfl hM 0 rfl rowStake (by omega) ?_); rw [el]; clear tk_r3) | (have _t := tk_r4; (refine wpList_get rfl _ _ rfl _ _ rfl hM 2 rfl (rowTab _ _ rfl) (by omega) ?_); rw [eg]; clear tk_r4) | (go_at_call 34; refine (stakeTold_any gMost (hs k) _).mono ?_; rintro e W' ⟨rfl, hb'⟩; rw [He.out]; have hM' := hM.call hb'; clear hM hb'; have hM := hM'; clear hM'))
          go_ret
          exact ⟨ret_bs Hp.out.symm, hM.below⟩
      obtain ⟨⟨d0, d1⟩, ⟨x0, x1⟩, y0, y1⟩ := stakeB_most he
      have Hs := Lib.hid (show ∀ j, j < k + 1 → stakeB gMost (hs j) = true from fun j hj => by
        by_cases e : j = k
        · rw [e]; exact he
        · exact hall.out j (by omega))
      have He := Lib.hid he
      have lu := numB_len (n := hs k 2) (by omega)
      have lx := spotT_len (x := hs k 0) (y := hs k 1) (by omega) (by omega)
      have HD := Lib.hid (fun (W : World) (h : TabP W) => fmt_any (hs k 2) y0 (by omega) W h)
      have HX := Lib.hid (fun (W : World) (h : TabP W) => spotText_any (hs k 0) (hs k 1) ⟨d0, by omega⟩ ⟨x0, by omega⟩ W h)
      obtain ⟨d, hd⟩ : ∃ d, hs k 2 = d := ⟨_, rfl⟩
      obtain ⟨x, hx⟩ : ∃ x, hs k 0 = x := ⟨_, rfl⟩
      obtain ⟨y, hy⟩ : ∃ y, hs k 1 = y := ⟨_, rfl⟩
      obtain ⟨u, hu⟩ : ∃ u, numB d = u := ⟨_, rfl⟩
      obtain ⟨v, hv⟩ : ∃ v, spotT x y = v := ⟨_, rfl⟩
      have e0 : vStake (hs k) 2 = .int .i16 d := by rw [← hd]; rfl
      have e1 : arr 2 (fun j => vStake (hs k) (0 + j)) = arr 2 (sp x y) := by rw [← hx, ← hy]; exact spStake0 (hs k)
      have HW := Lib.hid (show ∀ j, j < 1 → Value.string (bs (v ++ [47] ++ u)) = strF (stakeW hs) (k * 1 + j) from fun j hj => by
        obtain rfl : j = 0 := by omega
        unfold strF stakeW
        rw [Nat.mul_one, Nat.add_zero, hd, hx, hy, hu, hv])
      rw [hd] at HD lu y0 y1
      rw [hx, hy] at HX lx
      rw [hu] at HD lu
      rw [hv] at HX lx
      have hle : k ≤ 1048576 := by omega
      have cd : IntKind.i64.wrap d = d := IntWalk.i64_in _ (by omega)
      clear hd hx hy hu hv he
      rcases hL with ⟨rfl, hn0, hM⟩ | ⟨bw, cw, F, rfl, hbb, hnc, hFF, hM⟩
      · have Hn0 := Lib.hid hn0
        have Hq : Hid (∀ j, j < 1 → (fun _ => Value.string (bs (v ++ [47] ++ u))) j = strF (stakeW hs) j) := Lib.hid (fun j hj => by have := HW.out j hj; rwa [hn0, Nat.zero_mul, Nat.zero_add] at this)
        clear hn0
        have tk_b3 : True := trivial; have tk_r1 : True := trivial; have tk_r2 : True := trivial; have tk_r3 : True := trivial; have tk_r4 : True := trivial
        go_wp2_with (first | (have _t := tk_r1; (refine wpList_get rfl _ _ rfl _ _ rfl hM 1 rfl rowStake (by omega) ?_); rw [eG]; clear tk_r1) | (have _t := tk_b3; refine wpList_zero rfl _ rfl zeroStake hM ?_; intro b3 W' hb3 hM'; clear hM tk_b3; have hM := hM'; clear hM') | (have _t := tk_r2; (refine wpList_lay rfl _ _ _ rfl _ _ rfl _ _ rfl hM 0 rfl (by assumption) rowStake (by omega) (fun _ _ => rfl) ?_; intro W' hM'; clear hM; have hM := hM'; clear hM'; simp only [List.set] at hM; have hM1 := hM.re 0 rfl (vStake (hs k)) (fun j hj => by simp [lay, hj]); simp only [List.set_cons_zero] at hM1; clear hM; have hM := hM1; clear hM1); clear tk_r2) | (have _t := tk_r3; (refine wpList_get rfl _ _ rfl _ _ rfl hM 0 rfl rowStake (by omega) ?_); rw [el]; clear tk_r3) | (have _t := tk_r4; (refine wpList_get rfl _ _ rfl _ _ rfl hM 1 rfl (rowTab _ _ rfl) (by omega) ?_); rw [eg]; clear tk_r4) | (go_at_call 34; refine (stakeTold_any gMost (hs k) _).mono ?_; rintro e W' ⟨rfl, hb'⟩; rw [He.out]; have hM' := hM.call hb'; clear hM hb'; have hM := hM'; clear hM'))
        ((try simp only [Act.put, List.setIfInBounds_toArray, List.set_cons_succ, List.set_cons_zero]); refine region_reads [0, 1, 2, 3, 4, 5, 6, 7, 8, 9] #[true, true, true, true, true, true, true, true, true, true, false, false, false] 3 (by kernel_rfl) (by kernel_rfl) (by kernel_rfl) hM ?_; clear hM; (repeat (refine qs_plain rfl rfl ?_; first | (refine b_get1 _ _ rfl _ _ rfl 0 rfl (cellTab _ rfl) (by omega) _ e0 ?_; (simp only [Act.put, List.setIfInBounds_toArray, List.set_cons_succ, List.set_cons_zero])) | (refine b_get _ _ rfl _ _ rfl 0 rfl (rowTab _ 2 rfl) (by omega) ?_; rw [e1]; (simp only [Act.put, List.setIfInBounds_toArray, List.set_cons_succ, List.set_cons_zero])) | (refine b_call ?_; apply Exists.intro; apply Exists.intro; apply Exists.intro; refine ⟨fun W => ?_, fun W hM => ?_, ?_⟩; (go_simp; exact ⟨rfl, rfl⟩); (with_reducible exact HD.out W (HT.out.below hM.below)); (simp only [Act.put, List.setIfInBounds_toArray, List.set_cons_succ, List.set_cons_zero])) | (refine b_call ?_; apply Exists.intro; apply Exists.intro; apply Exists.intro; refine ⟨fun W => ?_, fun W hM => ?_, ?_⟩; (go_simp; exact ⟨rfl, rfl⟩); (with_reducible exact HX.out W (HT.out.below hM.below)); (simp only [Act.put, List.setIfInBounds_toArray, List.set_cons_succ, List.set_cons_zero])) | (refine b_val ⟨_, fun W => cat_op _ _ rfl _ _ rfl rfl (by simp only [List.length_append, List.length_cons, List.length_nil]; omega) W, ?_⟩; (simp only [Act.put, List.setIfInBounds_toArray, List.set_cons_succ, List.set_cons_zero])) | (refine b_val ?_; apply Exists.intro; refine ⟨fun W => ?_, ?_⟩; (go_simp; (try simp only [cd, if_true]); rfl); (simp only [Act.put, List.setIfInBounds_toArray, List.set_cons_succ, List.set_cons_zero])))); (with_reducible refine qs_nil ?_))
        ((refine mix_one (i := 10) (by kernel_rfl) rfl (by kernel_rfl) rfl ?_); (refine step_lit1 _ _ _ rfl (.string (bs (v ++ [47] ++ u))) (by first | rfl | simp) rfl _ strs_under strs_info ?_; intro l1 hl1; (simp only [Act.put, List.setIfInBounds_toArray, List.set_cons_succ, List.set_cons_zero])); (refine mix_one (i := 11) (by kernel_rfl) rfl (by kernel_rfl) rfl ?_); (refine step_push0 _ _ _ rfl _ 1 _ _ strs_under infoStringS rfl (by omega) rfl _ _ rfl (strF (stakeW hs)) Hq.out ?_; intro bL cL FL hbL hcL hFL; (simp only [Act.put, List.setIfInBounds_toArray, List.set_cons_succ, List.set_cons_zero])); (refine mix_one (i := 12) (by kernel_rfl) rfl (by kernel_rfl) rfl ?_); (refine step_val ?_; apply Exists.intro; refine ⟨fun W => ?_, ?_⟩; (go_simp; rfl); (simp only [Act.put, List.setIfInBounds_toArray, List.set_cons_succ, List.set_cons_zero])); (refine mix_end (by kernel_rfl) ?_; intro W' hM; simp only [List.cons_append, List.nil_append] at hM))
        go_wp2
        go_roundw
        case rel => exact ⟨k + 1, by omega, by go_num, Hs, by
          rw [Hn0.out]
          exact .inr ⟨bL, cL, FL, rfl, hbL, hcL, hFL, hM.skip⟩⟩
        case measure => simp [intOf]; omega
      · have Hf := Lib.hid hFF
        clear hFF
        have tk_b3 : True := trivial; have tk_r1 : True := trivial; have tk_r2 : True := trivial; have tk_r3 : True := trivial; have tk_r4 : True := trivial
        go_wp2_with (first | (have _t := tk_r1; (refine wpList_get rfl _ _ rfl _ _ rfl hM 2 rfl rowStake (by omega) ?_); rw [eG]; clear tk_r1) | (have _t := tk_b3; refine wpList_zero rfl _ rfl zeroStake hM ?_; intro b3 W' hb3 hM'; clear hM tk_b3; have hM := hM'; clear hM') | (have _t := tk_r2; (refine wpList_lay rfl _ _ _ rfl _ _ rfl _ _ rfl hM 0 rfl (by assumption) rowStake (by omega) (fun _ _ => rfl) ?_; intro W' hM'; clear hM; have hM := hM'; clear hM'; simp only [List.set] at hM; have hM1 := hM.re 0 rfl (vStake (hs k)) (fun j hj => by simp [lay, hj]); simp only [List.set_cons_zero] at hM1; clear hM; have hM := hM1; clear hM1); clear tk_r2) | (have _t := tk_r3; (refine wpList_get rfl _ _ rfl _ _ rfl hM 0 rfl rowStake (by omega) ?_); rw [el]; clear tk_r3) | (have _t := tk_r4; (refine wpList_get rfl _ _ rfl _ _ rfl hM 2 rfl (rowTab _ _ rfl) (by omega) ?_); rw [eg]; clear tk_r4) | (go_at_call 34; refine (stakeTold_any gMost (hs k) _).mono ?_; rintro e W' ⟨rfl, hb'⟩; rw [He.out]; have hM' := hM.call hb'; clear hM hb'; have hM := hM'; clear hM'))
        have hM1 := hM.toFront 1 rfl
        simp only [List.eraseIdx_cons_succ, List.eraseIdx_cons_zero] at hM1
        clear hM
        have hM := hM1
        clear hM1
        ((try simp only [Act.put, List.setIfInBounds_toArray, List.set_cons_succ, List.set_cons_zero]); refine region_readsX [0, 1, 2, 3, 4, 5, 6, 7, 8, 9] #[true, true, true, true, true, true, true, true, true, true, false, false, false] 3 [(bw, cw * 1, F)] (by kernel_rfl) (by kernel_rfl) (by kernel_rfl) hM ?_; clear hM; (repeat (refine qs_plain rfl rfl ?_; first | (refine b_get1 _ _ rfl _ _ rfl 0 rfl (cellTab _ rfl) (by omega) _ e0 ?_; (simp only [Act.put, List.setIfInBounds_toArray, List.set_cons_succ, List.set_cons_zero])) | (refine b_get _ _ rfl _ _ rfl 0 rfl (rowTab _ 2 rfl) (by omega) ?_; rw [e1]; (simp only [Act.put, List.setIfInBounds_toArray, List.set_cons_succ, List.set_cons_zero])) | (refine b_call ?_; apply Exists.intro; apply Exists.intro; apply Exists.intro; refine ⟨fun W => ?_, fun W hM => ?_, ?_⟩; (go_simp; exact ⟨rfl, rfl⟩); (with_reducible exact HD.out W (HT.out.below hM.below)); (simp only [Act.put, List.setIfInBounds_toArray, List.set_cons_succ, List.set_cons_zero])) | (refine b_call ?_; apply Exists.intro; apply Exists.intro; apply Exists.intro; refine ⟨fun W => ?_, fun W hM => ?_, ?_⟩; (go_simp; exact ⟨rfl, rfl⟩); (with_reducible exact HX.out W (HT.out.below hM.below)); (simp only [Act.put, List.setIfInBounds_toArray, List.set_cons_succ, List.set_cons_zero])) | (refine b_val ⟨_, fun W => cat_op _ _ rfl _ _ rfl rfl (by simp only [List.length_append, List.length_cons, List.length_nil]; omega) W, ?_⟩; (simp only [Act.put, List.setIfInBounds_toArray, List.set_cons_succ, List.set_cons_zero])) | (refine b_val ?_; apply Exists.intro; refine ⟨fun W => ?_, ?_⟩; (go_simp; (try simp only [cd, if_true]); rfl); (simp only [Act.put, List.setIfInBounds_toArray, List.set_cons_succ, List.set_cons_zero])))); (with_reducible refine qs_nil ?_))
        ((refine mix_one (i := 10) (by kernel_rfl) rfl (by kernel_rfl) rfl ?_); (refine step_lit1 _ _ _ rfl (.string (bs (v ++ [47] ++ u))) (by first | rfl | simp) rfl _ strs_under strs_info ?_; intro l1 hl1; (simp only [Act.put, List.setIfInBounds_toArray, List.set_cons_succ, List.set_cons_zero])); (refine mix_one (i := 11) (by kernel_rfl) rfl (by kernel_rfl) rfl ?_); (refine step_push1 _ _ _ rfl _ 1 _ _ strs_under infoStringS rfl (by omega) _ _ _ _ rfl hbb hnc hle _ _ rfl (fun _ _ => rfl) (strF (stakeW hs)) Hf.out HW.out ?_; intro bL cL FL hbL hcL hFL; (simp only [Act.put, List.setIfInBounds_toArray, List.set_cons_succ, List.set_cons_zero])); (refine mix_one (i := 12) (by kernel_rfl) rfl (by kernel_rfl) rfl ?_); (refine step_val ?_; apply Exists.intro; refine ⟨fun W => ?_, ?_⟩; (go_simp; rfl); (simp only [Act.put, List.setIfInBounds_toArray, List.set_cons_succ, List.set_cons_zero])); (refine mix_end (by kernel_rfl) ?_; intro W' hM; simp only [List.cons_append, List.nil_append] at hM))
        go_wp2
        go_roundw
        case rel => exact ⟨k + 1, by omega, by go_num, Hs, .inr ⟨bL, cL, FL, rfl, hbL, hcL, hFL, hM.skip⟩⟩
        case measure => simp [intOf]; omega
    · obtain rfl : k = n := by omega
      have HJ := Lib.hid (join_lst hL [32] 32 (fun j hj => stakeW_len (hall.out j hj)) (by simp only [List.length_cons, List.length_nil]; omega) (by omega))
      have Hp := Lib.hid (stakesT_yes (n := k) (by omega) hall.out)
      have hM := hL.mem
      go_wp2_with (first | (go_at_call 30; refine (HJ.out).mono ?_; rintro e W' ⟨rfl, hb'⟩; have hM' := hM.call hb'; clear hM hb'; have hM := hM'; clear hM'))
      go_ret
      exact ⟨ret_bs Hp.out.symm, hM.below⟩
theorem implStakesText_any (b n c : Nat) (hs : Nat → Nat → Int) (_hF : ∀ i, i < n → FitsStake (hs i)) (hn : n ≤ 1048576) (w : World) (hT : TabP w) (hB : At w b (n * 3) (sStake hs)) :
    Calls Tryd.prog 22 #[.slice (some ⟨b, 0, none⟩) n c] w fun e w' => e = .returned (.string (bs (stakesT n hs))) ∧ Below w.heap.size w w' :=
  implStakesTextG_any b n (n * 3) c hs (sStake hs) (fun _ _ => rfl) (Nat.le_refl _) hn w hT hB
end Go.Proofs.YtaaphdbaocjecaaDoor

/-
  impl.ReadStakes by contract.
-/
namespace Go.Proofs.YtaaphdbaocjecaaDoor
open Go Go.RowKit Go.BigFrame

set_option maxRecDepth 100000 in
set_option maxHeartbeats 4000000 in
theorem implStakesText_nil (w : World) :
    Calls Tryd.prog 22 #[.slice none 0 0] w fun e w' => e = .returned (.string (bs [])) ∧ Below w.heap.size w w' := by
  have hM := Mem.nil w
  have tk_b4 : True := trivial; have tk_y4 : True := trivial
  go_enter Tryd.func22, Tryd.ntmps22
  go_wp2_with (first | (refine wpList_greatest rfl _ _ rfl rfl rfl ?_) | (have _t := tk_b4; refine wpList_zero rfl _ rfl (zeroTab _ _ _ rfl) hM ?_; intro b4 W' hb4 hM'; clear hM tk_b4; have hM := hM'; clear hM') | (have _t := tk_y4; (refine wpList_lay rfl _ _ _ rfl _ _ rfl _ _ rfl hM 0 rfl (by assumption) (rowTab _ _ rfl) (by omega) ?_ ?_; (first | (intro _ _; rfl) | (intro k _; exact h1 _) | (intro k _; simp only [lay, upd]; (repeat' split) <;> first | exact h1 _ | rfl)); intro W' hM'; clear hM; have hM := hM'; clear hM'; simp only [List.set] at hM); clear tk_y4))
  refine wp_loop_rounds 1 ?_
  rw [rounds_succ]
  go_wp2_with (first | (go_at_call 30; refine (joinS_none none 0 [32] _).mono ?_; rintro e W' ⟨rfl, hb'⟩; have hM' := hM.call hb'; clear hM hb'; have hM := hM'; clear hM'))
  go_ret
  exact ⟨rfl, hM.below⟩
theorem Lst.call {b0 : Base} {K : Blocks} {m n : Nat} {v : Value} {R : Nat → Value} {W W' : World} (h : Lst b0 K m v n R W) (hb : Below W.heap.size W W') : Lst b0 K m v n R W' := by
  rcases h with ⟨h1, h2, h⟩ | ⟨b, c, F, h1, h2, h3, h4, h⟩
  · exact .inl ⟨h1, h2, h.call hb⟩
  · exact .inr ⟨b, c, F, h1, h2, h3, h4, h.call hb⟩
theorem bs_beq (x y : List UInt8) : ((bs x).toList == (bs y).toList) = decide (x = y) := by
  rw [ByteArray.toList_eq, ByteArray.toList_eq, bs_data, bs_data]
  by_cases h : x = y
  · rw [decide_eq_true h, h]; exact beq_self_eq_true _
  · rw [decide_eq_false h, beq_eq_false_iff_ne]; exact h
/-- What both Reads answer. -/
def ReadK (l : List UInt8) (w : World) (e : Ending) (w' : World) : Prop :=
  ∃ v n hs c, e = .returned (.tuple #[v, .int .i64 c]) ∧ Lst (Base.of w) [] 3 v n (sStake hs) w' ∧ ((TellsK l n hs ∧ c = 0) ∨ (n = 0 ∧ c = 5 ∧ ∀ m gs, ¬ TellsK l m gs))
structure RdEnv (a : Nat → Addr) (W : World) : Prop where
  env : PEnv a W
  tab : TabP W
theorem RdEnv.below {a : Nat → Addr} {W W' : World} (h : RdEnv a W) (hb : Below W.heap.size W W') : RdEnv a W' := ⟨h.env.below hb, h.tab.below hb⟩
theorem implStakesText_lst (n : Nat) (hs : Nat → Nat → Int) (v : Value) (w0 w : World) (hn : n ≤ 1048576) (hT : TabP w) (hL : Lst (Base.of w0) [] 3 v n (sStake hs) w) :
    Calls Tryd.prog 22 #[v] w fun e w' => e = .returned (.string (bs (stakesT n hs))) ∧ Below w.heap.size w w' := by
  rcases hL with ⟨rfl, rfl, hM⟩ | ⟨b, c, G, rfl, hb, hc, hG, hM⟩
  · refine (implStakesText_nil w).mono ?_
    rintro e w' ⟨rfl, h⟩
    exact ⟨by rw [stakesT_yes (by omega) (fun k hk => absurd hk (by omega)), joinT_zero], h⟩
  · exact implStakesTextG_any b n (c * 3) c hs G hG (Nat.mul_le_mul_right 3 hc) hn w hT (hM.ats 0 _ _ _ rfl)
set_option maxRecDepth 100000 in
set_option maxHeartbeats 4000000 in
theorem implReadStakes_any {a : Nat → Addr} (l : List UInt8) (hl : l.length ≤ 1048576) (w : World) (hE : RdEnv a w) :
    Calls Tryd.prog 9 #[.string (bs l)] w (ReadK l w) := by
  have hM := Mem.nil w
  have HE := Lib.hid hE
  have HP := Lib.hid (parseWordsSt_any l hl w hE.env)
  clear hE
  go_enter Tryd.func9, Tryd.ntmps9
  go_wp2_with (first | (go_at_call 20; refine HP.out.mono ?_))
  rintro e W' (⟨v, N, rfl, herr, hN, hbad⟩ | ⟨v, rfl, hL, h12⟩)
  · obtain ⟨t, p, rfl⟩ := herr.iface
    have hE2 := HE.out.below hN.below
    have HC := Lib.hid (codeG_any hE2.env.errs (herr.syn hE2.env.errs hN.ofK))
    have Hb := Lib.hid hbad
    clear herr hbad hE2 hM
    go_wp2_with (first | (go_at_call 16; refine HC.out.mono ?_; rintro e W' ⟨rfl, rfl⟩))
    refine bodyPost_ret (results_tmp2 rfl _ _ _) rfl ?_
    exact ⟨_, 0, stHs l, 5, rfl, .inl ⟨rfl, rfl, Mem.start hN.good⟩, .inr ⟨rfl, rfl, Hb.out.no⟩⟩
  · have HT := Lib.hid (implStakesText_lst (stWs l) (stHs l) v w W' (by omega) (HE.out.below hL.mem.below).tab hL)
    have HL := Lib.hid hL
    clear hL hM
    have hq := bs_beq (stakesT (stWs l) (stHs l)) l
    have Hy := Lib.hid (stText_yes (l := l))
    have Hno := Lib.hid (stText_no (l := l))
    obtain ⟨tx, htx⟩ : ∃ tx, stakesT (stWs l) (stHs l) = tx := ⟨_, rfl⟩
    rw [htx] at HT hq Hy Hno
    clear htx h12
    by_cases he : tx = l
    · rw [decide_eq_true he] at hq
      have Hk := Lib.hid (Hy.out he)
      clear he Hy Hno
      go_wp2_with (first | (go_at_call 22; refine HT.out.mono ?_; rintro e W2 ⟨rfl, hb2⟩))
      refine bodyPost_ret (results_tmp2 rfl _ _ _) rfl ?_
      exact ⟨_, stWs l, stHs l, 0, rfl, HL.out.call hb2, .inl ⟨Hk.out, rfl⟩⟩
    · rw [decide_eq_false he] at hq
      have Hk := Lib.hid (Hno.out he)
      clear he Hy Hno
      go_wp2_with (first | (go_at_call 22; refine HT.out.mono ?_; rintro e W2 ⟨rfl, hb2⟩))
      refine bodyPost_ret (results_tmp2 rfl _ _ _) rfl ?_
      exact ⟨_, 0, stHs l, 5, rfl, .inl ⟨rfl, rfl, Mem.start (HL.out.mem.call hb2).good⟩, .inr ⟨rfl, rfl, Hk.out⟩⟩
end Go.Proofs.YtaaphdbaocjecaaDoor

/-
  What the rows of the texts read take out of their condition and of the world's shape: the errors, the library's errors of numbers, the table of powers, the variable that Cut reads; the wrap that keeps the shape.
-/
namespace Go.Proofs.YtaaphdbaocjecaaDoor
open Go Go.RowKit Go.ChangeShapes Go.WideShapes Go.ChangeAt

theorem tabP_dataR {H : Type} : (Rows.laid_internal_strconv_uint64pow10 : DataW H) = Lib.tabData .u64 Lib.pow10Tab := rfl
theorem rdEnv_of_laid {W : World} (h : laidMetH Tryd.prog errsLaid W) (hs : W.ShapedOpen Tryd.prog) : ∃ a, RdEnv a W := by
  obtain ⟨a, hE⟩ := errs_of_laid h
  rw [MakeChecks.laidMetH_plain _ _ _ (by kernel_rfl)] at h
  have hT : TabP W := Lib.tabIs_of_head (k := .u64) (zs := Lib.pow10Tab) (n := 20) (t := 134) (e := 115) tabP_g (by kernel_rfl) Tryd.underlying134 Tryd.underlying115 (by kernel_rfl) (by kernel_rfl) (by have h' := h.tail.tail; rw [tabP_dataR] at h'; exact h')
  have h4 := h.tail.tail.tail.tail
  obtain ⟨a1, s1, v1, -⟩ := laid_sentinel (tp := 154) (te := 156) (ts := 9) h4 numE_g2 (show (Tryd.prog.globals[10]?).map (·.type) = some 41 by kernel_rfl) Tryd.underlying41 row_errT Tryd.underlying154 Tryd.underlying156 rfl rfl Tryd.underlying9 cells_es cells_str
  obtain ⟨a2, s2, v2, -⟩ := laid_sentinel (tp := 154) (te := 156) (ts := 9) h4.tail numE_g1 (show (Tryd.prog.globals[9]?).map (·.type) = some 41 by kernel_rfl) Tryd.underlying41 row_errT Tryd.underlying154 Tryd.underlying156 rfl rfl Tryd.underlying9 cells_es cells_str
  exact ⟨a, ⟨hE, ⟨⟨_, _, v2⟩, _, _, v1⟩, maxP_of_shape hs⟩, hT⟩

section
variable {H : Type} {enc : TypeId × Value → H}
/-- The wrap, a condition beside it and the world's shape kept. -/
theorem lifted_shaped {a : Assume} {C : Checked} {os : Os} {f : FuncId} {fn : Func} {s : ChangeSpec} {conds : List PathCond} {apart fresh handsOn again : Bool} {X : World → Array Value → Prop}
    (hX : ∀ (w w' : World) (args : Array Value), w.heap = w'.heap → X w args → X w' args)
    (own : ownKnob C.prog.godebug = none) (started : os.Started) (noInit : C.prog.inits.idxOf? f = none) (hfn : C.prog.funcs[f]? = some fn)
    (witness : ∃ (w : World) (tape : Tape) (i : Input), w.os = os ∧ (w.forCall tape i).Shaped C.prog ∧ i.vars = [] ∧ Input.okWide C.prog (w.forCall tape i) .any w.heap.size f i ∧
      ((s.pre enc C.prog fn conds apart (w.forCall tape i).memory i.args ∧ X (w.forCall tape i).memory i.args) ∧ sizedMet enc C.prog fn (OpenSpec.ofChange s) apart (w.forCall tape i).memory i.args) ∧ a.holds C.prog (lone (Frame.enter C.prog f i.args .normal) [] (w.forCall tape i)))
    (contract : ∀ (W : World) (base : Nat) (args : Array Value) (ds gs : List (DataW H)) (before : List MemPlace),
      (∀ (j : Nat) t v, fn.params[j]? = some t → args[j]? = some v → Value.okWide C.prog W .any base t v) →
      DataW.Whole enc C.prog fn.params.toList s.vars apart W args.toList ds gs before → X W args → W.ShapedOpen C.prog →
      Calls C.prog f args W fun e W' => ∃ v, e = .returned v ∧ s.post enc C.prog fn apart fresh handsOn again W args v W') :
    ReturnsInHanded a C os f .any (fun w args => (s.pre enc C.prog fn conds apart w args ∧ X w args) ∧ sizedMet enc C.prog fn (OpenSpec.ofChange s) apart w args) (s.post enc C.prog fn apart fresh handsOn again) := by
  refine returnsInHanded_of_calls own started noInit witness fun w tape i _ hsh _ hok hpre _ => ?_
  obtain ⟨_, _, _, fn', hfn', _, _, _, _, hval⟩ := hok
  obtain rfl : fn' = fn := Option.some.inj (hfn'.symm.trans hfn)
  obtain ⟨⟨⟨ds, gs, before, hw, -⟩, hx⟩, -⟩ := hpre
  exact (contract (w.forCall tape i) w.heap.size i.args ds gs before hval (DataW.Whole.of_heap (w' := w.forCall tape i) (by rfl) hw) (hX _ _ _ (by rfl) hx) hsh).mono fun e W' ⟨v, he, hp⟩ => by
    subst he
    exact ChangeSpec.post_blind hp
end
end Go.Proofs.YtaaphdbaocjecaaDoor

/-
  Which growths are valid; spec.l04Ok by contract.
-/
namespace Go.Proofs.YtaaphdbaocjecaaDoor
open Go Go.RowKit Go.BigFrame

/-- Is a growth valid? -/
def growB (h : Nat → Int) : Bool := (List.range 11).all (fun k => inB 0 100 (h k)) && inB 0 1000 (h 11)
theorem growB_no {h : Nat → Int} {k : Nat} (hk : k < 11) (e : inB 0 100 (h k) = false) : growB h = false := by
  have : (List.range 11).all (fun k => inB 0 100 (h k)) = false := by rw [List.all_eq_false]; exact ⟨k, by simpa using hk, by rw [e]; decide⟩
  rw [growB, this]; rfl
theorem growB_tab {h : Nat → Int} (hall : ∀ k, k < 11 → inB 0 100 (h k) = true) : growB h = inB 0 1000 (h 11) := by
  have : (List.range 11).all (fun k => inB 0 100 (h k)) = true := by rw [List.all_eq_true]; intro k hk; exact hall k (by simpa using hk)
  rw [growB, this]; rfl
theorem growB_true {h : Nat → Int} (e : growB h = true) : (∀ k, k < 11 → 0 ≤ h k ∧ h k ≤ 100) ∧ 0 ≤ h 11 ∧ h 11 ≤ 1000 := by
  unfold growB at e
  rw [Bool.and_eq_true, List.all_eq_true] at e
  exact ⟨fun k hk => inB_true (e.1 k (List.mem_range.2 hk)), inB_true e.2⟩
theorem growB_iff {h : Nat → Int} : growB h = true ↔ (∀ k, k < 11 → 0 ≤ h k ∧ h k ≤ 100) ∧ 0 ≤ h 11 ∧ h 11 ≤ 1000 :=
  ⟨growB_true, fun e => by rw [growB_tab (fun k hk => inB_yes (e.1 k hk))]; exact inB_yes e.2⟩

end Go.Proofs.YtaaphdbaocjecaaDoor

/-
  The text of a growth; spec.l04Text, GrowthText by contracts.
-/
namespace Go.Proofs.YtaaphdbaocjecaaDoor
open Go Go.RowKit Go.BigFrame

def growW (h : Nat → Int) (k : Nat) : List UInt8 := numB (h k)
def growthT (h : Nat → Int) : List UInt8 := if growB h then joinT [44] (growW h) 11 ++ [32] ++ numB (h 11) else []
theorem growthT_no {h : Nat → Int} (e : growB h = false) : growthT h = [] := by unfold growthT; rw [e]; rfl
theorem growthT_yes {h : Nat → Int} (e : growB h = true) : growthT h = joinT [44] (growW h) 11 ++ [32] ++ numB (h 11) := by unfold growthT; rw [e]; rfl

end Go.Proofs.YtaaphdbaocjecaaDoor

/-
  What a text of a growth tells.
-/
namespace Go.Proofs.YtaaphdbaocjecaaDoor
open Go Go.RowKit Go.BigFrame

theorem joinT_free {c s : UInt8} {f : Nat → List UInt8} (hs : c ≠ s) : ∀ (n : Nat), (∀ k, k < n → c ∉ f k) → c ∉ joinT [s] f n
  | 0, _ => by simp [joinT_zero]
  | n + 1, h => by
    have ih := joinT_free hs n (fun k hk => h k (by omega))
    have hn := h n (by omega)
    by_cases h0 : n = 0
    · subst h0; rw [joinT_one]; exact hn
    · rw [joinT_succ [s] f (by omega)]
      intro e
      rcases List.mem_append.1 e with e | e
      · rcases List.mem_append.1 e with e | e
        · exact ih e
        · simp at e; exact hs e
      · exact hn e
/-- A text tells this growth. -/
def TellsG (l : List UInt8) (h : Nat → Int) : Prop := growB h = true ∧ l = joinT [44] (growW h) 11 ++ 32 :: numB (h 11)
theorem TellsG.parts {l : List UInt8} {h : Nat → Int} (k : TellsG l h) : partsC 32 l = [joinT [44] (growW h) 11, numB (h 11)] :=
  parts_two.2 ⟨k.2, joinT_free (by decide) 11 (fun j _ => numB_free (by decide) _), numB_free (by decide) _⟩
theorem TellsG.cut {l : List UInt8} {h : Nat → Int} (k : TellsG l h) : Lib.cut l [32] = (joinT [44] (growW h) 11, numB (h 11), true) := by
  rw [k.2]; exact cut_app (joinT_free (by decide) 11 (fun j _ => numB_free (by decide) _))
theorem growW_parts (h : Nat → Int) : partsC 44 (joinT [44] (growW h) 11) = (List.range 11).map (growW h) := partsC_joinT (by decide) (fun j _ => numB_free (by decide) _)
theorem TellsG.uniq {l : List UInt8} {h g : Nat → Int} (k : TellsG l h) (m : TellsG l g) : ∀ i, i < 12 → h i = g i := by
  have e := k.parts
  rw [m.parts] at e
  simp only [List.cons.injEq, and_true] at e
  obtain ⟨kt, k0, k1⟩ := growB_true k.1
  obtain ⟨mt, m0, m1⟩ := growB_true m.1
  obtain ⟨-, hw⟩ := joinT_inj (by decide) (by decide) (fun j _ => numB_free (by decide) (h j)) (fun j _ => numB_free (by decide) (g j)) e.1.symm
  intro i hi
  by_cases h11 : i = 11
  · subst h11; exact (numB_inj m0 k0 e.2).symm
  · exact numB_inj (kt i (by omega)).1 (mt i (by omega)).1 (hw i (by omega))
theorem TellsG.text {l : List UInt8} {h : Nat → Int} (k : TellsG l h) : growthT h = l := by rw [growthT_yes k.1, k.2]; simp
theorem tellsG_text {l : List UInt8} {h : Nat → Int} (e : growthT h = l) (hl : l ≠ []) : TellsG l h := by
  cases hb : growB h
  · rw [growthT_no hb] at e; exact absurd e.symm hl
  · exact ⟨hb, by rw [← e, growthT_yes hb]; simp⟩
theorem tellsG_nil (h : Nat → Int) : ¬ TellsG [] h := fun k => by
  have := k.2
  simp at this
end Go.Proofs.YtaaphdbaocjecaaDoor

