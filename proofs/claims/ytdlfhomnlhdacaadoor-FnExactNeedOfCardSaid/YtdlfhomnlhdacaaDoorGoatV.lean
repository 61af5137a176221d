/-
  Goats that are as told: spec.l02Square, l02Plain, l02Goat; (impl.Goat).isFree, isToldFor, reaches, (impl.Spot).squareTo, by contracts.
-/
import Derived.Test.YtdlfhomnlhdacaaDoorToGoatS
import Derived.Test.YtdlfhomnlhdacaaDoorEqlSpot
import Derived.Test.YtdlfhomnlhdacaaDoorDiet
import Derived.Test.YtdlfhomnlhdacaaDoorHasCell
import Derived.Test.YtdlfhomnlhdacaaDoorSquare
namespace Go.Proofs.YtdlfhomnlhdacaaDoor
open Go Go.RowKit Go.BigFrame

set_option maxHeartbeats 400000 in
theorem l02Square_any (x y u v : Int) (hx : -128 ≤ x ∧ x ≤ 127) (hy : -128 ≤ y ∧ y ≤ 127) (hu : -128 ≤ u ∧ u ≤ 127) (hv : -128 ≤ v ∧ v ≤ 127) (w : World) :
    Calls Tryd.prog 109 #[.agg (arr 2 (sp x y)), .agg (arr 2 (sp u v))] w fun e w' => e = .returned (.int .i64 (sqI x y u v)) ∧ Below w.heap.size w w' := by
  have hM := Mem.nil w
  have e0 : ∀ c d : Int, sp c d 0 = .int .i8 c := fun _ _ => rfl
  have e1 : ∀ c d : Int, sp c d 1 = .int .i8 d := fun _ _ => rfl
  have c1 : IntKind.i64.wrap x = x := IntWalk.i64_in _ (by omega)
  have c2 : IntKind.i64.wrap y = y := IntWalk.i64_in _ (by omega)
  have c3 : IntKind.i64.wrap u = u := IntWalk.i64_in _ (by omega)
  have c4 : IntKind.i64.wrap v = v := IntWalk.i64_in _ (by omega)
  obtain ⟨d, hd⟩ : ∃ d, d = x - u := ⟨_, rfl⟩
  obtain ⟨e, he⟩ : ∃ e, e = y - v := ⟨_, rfl⟩
  have c5 : IntKind.i64.wrap (x - u) = d := by rw [hd]; exact IntWalk.i64_in _ (by omega)
  have c6 : IntKind.i64.wrap (y - v) = e := by rw [he]; exact IntWalk.i64_in _ (by omega)
  have q1 := sq_in (show -255 ≤ d ∧ d ≤ 255 by omega)
  have q2 := sq_in (show -255 ≤ e ∧ e ≤ 255 by omega)
  have c7 : IntKind.i64.wrap (d * d) = d * d := IntWalk.i64_in _ (by omega)
  have c8 : IntKind.i64.wrap (e * e) = e * e := IntWalk.i64_in _ (by omega)
  have c9 : IntKind.i64.wrap (d * d + e * e) = d * d + e * e := IntWalk.i64_in _ (by omega)
  have hf : Hid (sqI x y u v = d * d + e * e) := Lib.hid (by rw [hd, he]; rfl)
  clear hd he
  have tk_b1 : True := trivial; have tk_b2 : True := trivial
  go_enter Tryd.func109, Tryd.ntmps109
  go_wp2_with (first | (have _t := tk_b1; refine wpList_box rfl _ _ rfl _ _ rfl hM ?_; intro b1 W' hb1 hM'; clear hM tk_b1; have hM := hM'; clear hM') | (have _t := tk_b2; refine wpList_box rfl _ _ rfl _ _ rfl hM ?_; intro b2 W' hb2 hM'; clear hM tk_b2; have hM := hM'; clear hM') | (refine wpList_get1 rfl _ _ rfl _ _ rfl hM 1 rfl (cellTab _ rfl) (by omega) _ rfl ?_) | (refine wpList_get1 rfl _ _ rfl _ _ rfl hM 0 rfl (cellTab _ rfl) (by omega) _ rfl ?_))
  go_ret
  exact ⟨ret_int hf.out.symm, hM.below⟩

/-- A goat's numbers are as told, but for its place. -/
def plainG (h : Nat → Int) : Bool := inB (-1) 200 (h 4) && inB 0 100 (h 5) && inB 0 1 (h 6) && (decide (0 ≤ h 4) || (h 2 == 0 && h 3 == 0))
/-- Is a goat valid for a pasture that is? -/
def goatB (g h : Nat → Int) : Bool := plainG h && isB g (h 0) (h 1) && isB g (h 2) (h 3) && (decide (h 4 < 0) || decide (sqI (h 0) (h 1) (h 2) (h 3) ≤ h 4))
theorem plainG_cases (h : Nat → Int) : (inB (-1) 200 (h 4) = false ∧ plainG h = false) ∨ (inB (-1) 200 (h 4) = true ∧ inB 0 100 (h 5) = false ∧ plainG h = false) ∨ (inB (-1) 200 (h 4) = true ∧ inB 0 100 (h 5) = true ∧ inB 0 1 (h 6) = false ∧ plainG h = false) ∨
    (inB (-1) 200 (h 4) = true ∧ inB 0 100 (h 5) = true ∧ inB 0 1 (h 6) = true ∧ 0 ≤ h 4 ∧ plainG h = true) ∨ (inB (-1) 200 (h 4) = true ∧ inB 0 100 (h 5) = true ∧ inB 0 1 (h 6) = true ∧ ¬ 0 ≤ h 4 ∧ plainG h = (h 2 == 0 && h 3 == 0)) := by
  unfold plainG
  cases h1 : inB (-1) 200 (h 4)
  · simp
  cases h2 : inB 0 100 (h 5)
  · simp
  cases h3 : inB 0 1 (h 6)
  · simp
  by_cases h4 : 0 ≤ h 4
  · simp [h4]
  · simp [h4]

theorem at_spot {h : Nat → Int} {f : Nat → Value} {o : Nat} (hfo : ∀ j, j < 7 → f (o + j) = gt h j) (k : Nat) (hk : k + 2 ≤ 4) : arr 2 (fun j => f (o + k + j)) = arr 2 (sp (h k) (h (k + 1))) := by
  rw [← gt_sp hk]
  exact arr_congr fun j hj => by rw [Nat.add_assoc]; exact hfo _ (by omega)

set_option maxRecDepth 100000 in
set_option maxHeartbeats 1000000 in
theorem l02Plain_any (h : Nat → Int) (hF : FitsG h) (b N o : Nat) (f : Nat → Value) (hfo : ∀ j, j < 7 → f (o + j) = gt h j) (hle : o + 7 ≤ N) (w : World) (hB : At w b N f) :
    Calls Tryd.prog 108 #[.pointer (some ⟨b, o, none⟩)] w fun e w' => e = .returned (.bool (plainG h)) ∧ Below w.heap.size w w' := by
  have hM : Mem w [(b, N, f)] w := (Mem.nil w).old hB (fun i p h => by simp at h)
  have e2 : arr 2 (fun j => f (o + 2 + j)) = arr 2 (sp (h 2) (h 3)) := at_spot hfo 2 (by omega)
  have e4 : f (o + 4) = .int .i16 (h 4) := hfo 4 (by omega)
  have e5 : f (o + 5) = .int .i16 (h 5) := hfo 5 (by omega)
  have e6 : f (o + 6) = .int .i8 (h 6) := hfo 6 (by omega)
  have m4 := hF.mid 4 (by omega) (by omega)
  have m5 := hF.mid 5 (by omega) (by omega)
  have m6 := hF.hi
  have c4 : IntKind.i64.wrap (h 4) = h 4 := IntWalk.i64_in _ (by omega)
  have c5 : IntKind.i64.wrap (h 5) = h 5 := IntWalk.i64_in _ (by omega)
  have c6 : IntKind.i64.wrap (h 6) = h 6 := IntWalk.i64_in _ (by omega)
  have qe1 : ∀ W, (binOp .eql 40 (.agg (arr 2 (sp (h 2) (h 3)))) (.agg #[.int .i8 0, .int .i8 0])).run Tryd.prog W = .ok (.bool ((h 2 == 0) && (h 3 == 0))) W := fun W => eql_spot (h 2) (h 3) 0 0 W
  have qe2 : ∀ W, (Op.equalIn 10000 40 (.agg (arr 2 (sp (h 2) (h 3)))) (.agg #[.int .i8 0, .int .i8 0])).run Tryd.prog W = .ok ((h 2 == 0) && (h 3 == 0)) W := fun W => run_equal_spot (h 2) (h 3) 0 0 9998 W
  have Hfo := Lib.hid hfo
  clear hfo hF hB
  rcases plainG_cases h with ⟨h1, hp⟩ | ⟨h1, h2, hp⟩ | ⟨h1, h2, h3, hp⟩ | ⟨h1, h2, h3, h4, hp⟩ | ⟨h1, h2, h3, h4, hp⟩
  · have Hp := Lib.hid hp
    have H1 := Lib.hid h1
    clear hp h1
    go_enter Tryd.func108, Tryd.ntmps108
    go_wp2_with (first | (refine wpList_get1 rfl _ _ rfl _ _ rfl hM 0 rfl (cellTab _ rfl) (by omega) _ e4 ?_) | (go_at_call 50; (with_reducible refine (l00In_any (h 4) _ _ _).mono ?_); rintro e W' ⟨rfl, hb'⟩; rw [H1.out]; have hM' := hM.call hb'; clear hM hb'; have hM := hM'; clear hM'))
    go_ret
    exact ⟨ret_bool Hp.out.symm, hM.below⟩
  · have Hp := Lib.hid hp
    have H1 := Lib.hid h1
    have H2 := Lib.hid h2
    clear hp h1 h2
    go_enter Tryd.func108, Tryd.ntmps108
    go_wp2_with (first | (refine wpList_get1 rfl _ _ rfl _ _ rfl hM 0 rfl (cellTab _ rfl) (by omega) _ e4 ?_) | (refine wpList_gget1 ?_ _ _ rfl _ _ rfl hM 0 rfl (cellTab _ rfl) (by omega) _ e5 ?_; kernel_rfl) | (go_at_call 50; (with_reducible refine (l00In_any (h 4) _ _ _).mono ?_); rintro e W' ⟨rfl, hb'⟩; rw [H1.out]; have hM' := hM.call hb'; clear hM hb'; have hM := hM'; clear hM') | (go_at_call 50; (with_reducible refine (l00In_any (h 5) _ _ _).mono ?_); rintro e W' ⟨rfl, hb'⟩; rw [H2.out]; have hM' := hM.call hb'; clear hM hb'; have hM := hM'; clear hM'))
    go_ret
    exact ⟨ret_bool Hp.out.symm, hM.below⟩
  · have Hp := Lib.hid hp
    have H1 := Lib.hid h1
    have H2 := Lib.hid h2
    have H3 := Lib.hid h3
    clear hp h1 h2 h3
    go_enter Tryd.func108, Tryd.ntmps108
    go_wp2_with (first | (refine wpList_get1 rfl _ _ rfl _ _ rfl hM 0 rfl (cellTab _ rfl) (by omega) _ e4 ?_) | (refine wpList_gget1 ?_ _ _ rfl _ _ rfl hM 0 rfl (cellTab _ rfl) (by omega) _ e5 ?_; kernel_rfl) | (refine wpList_gget1 ?_ _ _ rfl _ _ rfl hM 0 rfl (cellTab _ rfl) (by omega) _ e6 ?_; kernel_rfl) | (go_at_call 50; (with_reducible refine (l00In_any (h 4) _ _ _).mono ?_); rintro e W' ⟨rfl, hb'⟩; rw [H1.out]; have hM' := hM.call hb'; clear hM hb'; have hM := hM'; clear hM') | (go_at_call 50; (with_reducible refine (l00In_any (h 5) _ _ _).mono ?_); rintro e W' ⟨rfl, hb'⟩; rw [H2.out]; have hM' := hM.call hb'; clear hM hb'; have hM := hM'; clear hM') | (go_at_call 50; (with_reducible refine (l00In_any (h 6) _ _ _).mono ?_); rintro e W' ⟨rfl, hb'⟩; rw [H3.out]; have hM' := hM.call hb'; clear hM hb'; have hM := hM'; clear hM'))
    go_ret
    exact ⟨ret_bool Hp.out.symm, hM.below⟩
  · have Hp := Lib.hid hp
    have H1 := Lib.hid h1
    have H2 := Lib.hid h2
    have H3 := Lib.hid h3
    have d4 : decide (0 ≤ h 4) = true := decide_eq_true h4
    clear hp h1 h2 h3 h4
    go_enter Tryd.func108, Tryd.ntmps108
    go_wp2_with (first | (refine wpList_get1 rfl _ _ rfl _ _ rfl hM 0 rfl (cellTab _ rfl) (by omega) _ e4 ?_) | (refine wpList_gget1 ?_ _ _ rfl _ _ rfl hM 0 rfl (cellTab _ rfl) (by omega) _ e5 ?_; kernel_rfl) | (refine wpList_gget1 ?_ _ _ rfl _ _ rfl hM 0 rfl (cellTab _ rfl) (by omega) _ e6 ?_; kernel_rfl) | (go_at_call 50; (with_reducible refine (l00In_any (h 4) _ _ _).mono ?_); rintro e W' ⟨rfl, hb'⟩; rw [H1.out]; have hM' := hM.call hb'; clear hM hb'; have hM := hM'; clear hM') | (go_at_call 50; (with_reducible refine (l00In_any (h 5) _ _ _).mono ?_); rintro e W' ⟨rfl, hb'⟩; rw [H2.out]; have hM' := hM.call hb'; clear hM hb'; have hM := hM'; clear hM') | (go_at_call 50; (with_reducible refine (l00In_any (h 6) _ _ _).mono ?_); rintro e W' ⟨rfl, hb'⟩; rw [H3.out]; have hM' := hM.call hb'; clear hM hb'; have hM := hM'; clear hM'))
    go_ret
    exact ⟨ret_bool Hp.out.symm, hM.below⟩
  · have Hp := Lib.hid hp
    have H1 := Lib.hid h1
    have H2 := Lib.hid h2
    have H3 := Lib.hid h3
    have d4 : decide (0 ≤ h 4) = false := decide_eq_false h4
    clear hp h1 h2 h3 h4
    go_enter Tryd.func108, Tryd.ntmps108
    go_wp2_with (first | (refine wpList_get1 rfl _ _ rfl _ _ rfl hM 0 rfl (cellTab _ rfl) (by omega) _ e4 ?_) | (refine wpList_gget1 ?_ _ _ rfl _ _ rfl hM 0 rfl (cellTab _ rfl) (by omega) _ e5 ?_; kernel_rfl) | (refine wpList_gget1 ?_ _ _ rfl _ _ rfl hM 0 rfl (cellTab _ rfl) (by omega) _ e6 ?_; kernel_rfl) | (refine wpList_gget ?_ _ _ rfl _ _ rfl hM 0 rfl (rowTab _ 2 rfl) (by omega) ?_; (kernel_rfl); (rw [e2])) | (go_at_call 50; (with_reducible refine (l00In_any (h 4) _ _ _).mono ?_); rintro e W' ⟨rfl, hb'⟩; rw [H1.out]; have hM' := hM.call hb'; clear hM hb'; have hM := hM'; clear hM') | (go_at_call 50; (with_reducible refine (l00In_any (h 5) _ _ _).mono ?_); rintro e W' ⟨rfl, hb'⟩; rw [H2.out]; have hM' := hM.call hb'; clear hM hb'; have hM := hM'; clear hM') | (go_at_call 50; (with_reducible refine (l00In_any (h 6) _ _ _).mono ?_); rintro e W' ⟨rfl, hb'⟩; rw [H3.out]; have hM' := hM.call hb'; clear hM hb'; have hM := hM'; clear hM'))
    go_ret
    exact ⟨ret_bool Hp.out.symm, hM.below⟩
end Go.Proofs.YtdlfhomnlhdacaaDoor
