/-
  Goats that are valid: spec.l02Goat; (impl.Goat).isFree, isToldFor, reaches, by contracts.
-/
import Derived.Test.YtdlfhomnlhdacaaDoorGoatV
namespace Go.Proofs.YtdlfhomnlhdacaaDoor
open Go Go.RowKit Go.BigFrame

theorem goatB_cases (g h : Nat → Int) : (plainG h = false ∧ goatB g h = false) ∨ (plainG h = true ∧ isB g (h 0) (h 1) = false ∧ goatB g h = false) ∨ (plainG h = true ∧ isB g (h 0) (h 1) = true ∧ isB g (h 2) (h 3) = false ∧ goatB g h = false) ∨
    (plainG h = true ∧ isB g (h 0) (h 1) = true ∧ isB g (h 2) (h 3) = true ∧ h 4 < 0 ∧ goatB g h = true) ∨ (plainG h = true ∧ isB g (h 0) (h 1) = true ∧ isB g (h 2) (h 3) = true ∧ ¬ h 4 < 0 ∧ goatB g h = decide (sqI (h 0) (h 1) (h 2) (h 3) ≤ h 4)) := by
  unfold goatB
  cases h1 : plainG h
  · simp
  cases h2 : isB g (h 0) (h 1)
  · simp
  cases h3 : isB g (h 2) (h 3)
  · simp
  by_cases h4 : h 4 < 0
  · simp [h4]
  · simp [h4]

set_option maxRecDepth 100000 in
set_option maxHeartbeats 2000000 in
theorem l02Goat_any (g : Nat → Int) (hg : Fits g) (bp : Nat) (h : Nat → Int) (hF : FitsG h) (b N o : Nat) (f : Nat → Value) (hfo : ∀ j, j < 7 → f (o + j) = gt h j) (hle : o + 7 ≤ N) (w : World) (hA : At w bp 122 (pas g)) (hB : At w b N f) (hne : bp ≠ b) :
    Calls Tryd.prog 99 #[.pointer (some ⟨bp, 0, none⟩), .pointer (some ⟨b, o, none⟩)] w fun e w' => e = .returned (.bool (goatB g h)) ∧ Below w.heap.size w w' := by
  have hM : Mem w [(bp, 122, pas g), (b, N, f)] w := ((Mem.nil w).old hA (fun i p h => by simp at h)).old hB (fun i p h => by
    match i, h with
    | 0, h => simp at h; rw [← h]; exact hne
    | _ + 1, h => simp at h)
  have e0 : arr 2 (fun j => f (o + j)) = arr 2 (sp (h 0) (h 1)) := at_spot hfo 0 (by omega)
  have e2 : arr 2 (fun j => f (o + 2 + j)) = arr 2 (sp (h 2) (h 3)) := at_spot hfo 2 (by omega)
  have e4 : f (o + 4) = .int .i16 (h 4) := hfo 4 (by omega)
  have m0 := hF.lo 0 (by omega)
  have m1 := hF.lo 1 (by omega)
  have m2 := hF.lo 2 (by omega)
  have m3 := hF.lo 3 (by omega)
  have m4 := hF.mid 4 (by omega) (by omega)
  have c4 : IntKind.i64.wrap (h 4) = h 4 := IntWalk.i64_in _ (by omega)
  have Hfo := Lib.hid hfo
  have HF := Lib.hid hF
  clear hfo hF hA hB
  rcases goatB_cases g h with ⟨h1, hp⟩ | ⟨h1, h2, hp⟩ | ⟨h1, h2, h3, hp⟩ | ⟨h1, h2, h3, h4, hp⟩ | ⟨h1, h2, h3, h4, hp⟩
  · have Hp := Lib.hid hp
    have H1 := Lib.hid h1
    clear hp h1
    go_enter Tryd.func99, Tryd.ntmps99
    go_wp2
    ((try simp only [Act.put, List.setIfInBounds_toArray, List.set_cons_succ, List.set_cons_zero]); refine wp_region_mem (by kernel_rfl) (by kernel_rfl) hM ?_; clear hM; (repeat (first | go_big_quiet_skip | (go_big_quiet_want; first | (refine quiet_get _ _ rfl _ _ rfl 1 rfl (rowTab _ 2 rfl) (by omega) ?_; (simp only [e0]); (simp only [Act.put, List.setIfInBounds_toArray, List.set_cons_succ, List.set_cons_zero]); go_big_quiet_on) | (refine quiet_get _ _ rfl _ _ rfl 1 rfl (rowTab _ 2 rfl) (by omega) ?_; (simp only [e2]); (simp only [Act.put, List.setIfInBounds_toArray, List.set_cons_succ, List.set_cons_zero]); go_big_quiet_on) | (refine quiet_get1 _ _ rfl _ _ rfl 1 rfl (cellTab _ rfl) (by omega) _ (e4) ?_; (simp only [Act.put, List.setIfInBounds_toArray, List.set_cons_succ, List.set_cons_zero]); go_big_quiet_on) | (refine quiet_call ?_; apply Exists.intro; apply Exists.intro; apply Exists.intro; refine ⟨fun W => ?_, fun W hM => ?_, ?_⟩; (go_simp; exact ⟨rfl, rfl⟩); (exact l02Plain_any h HF.out b N o f Hfo.out hle W (hM.ats 1 _ _ _ rfl)); (simp only [H1.out]); (simp only [Act.put, List.setIfInBounds_toArray, List.set_cons_succ, List.set_cons_zero]); go_big_quiet_on) | (refine quiet_call ?_; apply Exists.intro; apply Exists.intro; apply Exists.intro; refine ⟨fun W => ?_, fun W hM => ?_, ?_⟩; (go_simp; exact ⟨rfl, rfl⟩); (with_reducible exact l01Is_any g hg bp (h 0) (h 1) m0 m1 W (hM.ats 0 _ _ _ rfl)); (simp only [H2.out]); (simp only [Act.put, List.setIfInBounds_toArray, List.set_cons_succ, List.set_cons_zero]); go_big_quiet_on) | (refine quiet_call ?_; apply Exists.intro; apply Exists.intro; apply Exists.intro; refine ⟨fun W => ?_, fun W hM => ?_, ?_⟩; (go_simp; exact ⟨rfl, rfl⟩); (with_reducible exact l01Is_any g hg bp (h 2) (h 3) m2 m3 W (hM.ats 0 _ _ _ rfl)); (simp only [H3.out]); (simp only [Act.put, List.setIfInBounds_toArray, List.set_cons_succ, List.set_cons_zero]); go_big_quiet_on) | (refine quiet_call ?_; apply Exists.intro; apply Exists.intro; apply Exists.intro; refine ⟨fun W => ?_, fun W hM => ?_, ?_⟩; (go_simp; exact ⟨rfl, rfl⟩); (exact l02Square_any (h 0) (h 1) (h 2) (h 3) m0 m1 m2 m3 W); (simp only [Act.put, List.setIfInBounds_toArray, List.set_cons_succ, List.set_cons_zero]); go_big_quiet_on) | (refine quiet_val ?_; apply Exists.intro; refine ⟨fun W => ?_, ?_⟩; (go_simp; rfl); (simp only [Act.put, List.setIfInBounds_toArray, List.set_cons_succ, List.set_cons_zero]); go_big_quiet_on)))); (with_reducible refine wpQuiet_nil ?_); intro W' hM)
    go_wp2
    go_ret
    exact ⟨ret_bool Hp.out.symm, hM.below⟩
  · have Hp := Lib.hid hp
    have H1 := Lib.hid h1
    have H2 := Lib.hid h2
    clear hp h1 h2
    go_enter Tryd.func99, Tryd.ntmps99
    go_wp2
    ((try simp only [Act.put, List.setIfInBounds_toArray, List.set_cons_succ, List.set_cons_zero]); refine wp_region_mem (by kernel_rfl) (by kernel_rfl) hM ?_; clear hM; (repeat (first | go_big_quiet_skip | (go_big_quiet_want; first | (refine quiet_get _ _ rfl _ _ rfl 1 rfl (rowTab _ 2 rfl) (by omega) ?_; (simp only [e0]); (simp only [Act.put, List.setIfInBounds_toArray, List.set_cons_succ, List.set_cons_zero]); go_big_quiet_on) | (refine quiet_get _ _ rfl _ _ rfl 1 rfl (rowTab _ 2 rfl) (by omega) ?_; (simp only [e2]); (simp only [Act.put, List.setIfInBounds_toArray, List.set_cons_succ, List.set_cons_zero]); go_big_quiet_on) | (refine quiet_get1 _ _ rfl _ _ rfl 1 rfl (cellTab _ rfl) (by omega) _ (e4) ?_; (simp only [Act.put, List.setIfInBounds_toArray, List.set_cons_succ, List.set_cons_zero]); go_big_quiet_on) | (refine quiet_call ?_; apply Exists.intro; apply Exists.intro; apply Exists.intro; refine ⟨fun W => ?_, fun W hM => ?_, ?_⟩; (go_simp; exact ⟨rfl, rfl⟩); (exact l02Plain_any h HF.out b N o f Hfo.out hle W (hM.ats 1 _ _ _ rfl)); (simp only [H1.out]); (simp only [Act.put, List.setIfInBounds_toArray, List.set_cons_succ, List.set_cons_zero]); go_big_quiet_on) | (refine quiet_call ?_; apply Exists.intro; apply Exists.intro; apply Exists.intro; refine ⟨fun W => ?_, fun W hM => ?_, ?_⟩; (go_simp; exact ⟨rfl, rfl⟩); (with_reducible exact l01Is_any g hg bp (h 0) (h 1) m0 m1 W (hM.ats 0 _ _ _ rfl)); (simp only [H2.out]); (simp only [Act.put, List.setIfInBounds_toArray, List.set_cons_succ, List.set_cons_zero]); go_big_quiet_on) | (refine quiet_call ?_; apply Exists.intro; apply Exists.intro; apply Exists.intro; refine ⟨fun W => ?_, fun W hM => ?_, ?_⟩; (go_simp; exact ⟨rfl, rfl⟩); (with_reducible exact l01Is_any g hg bp (h 2) (h 3) m2 m3 W (hM.ats 0 _ _ _ rfl)); (simp only [H3.out]); (simp only [Act.put, List.setIfInBounds_toArray, List.set_cons_succ, List.set_cons_zero]); go_big_quiet_on) | (refine quiet_call ?_; apply Exists.intro; apply Exists.intro; apply Exists.intro; refine ⟨fun W => ?_, fun W hM => ?_, ?_⟩; (go_simp; exact ⟨rfl, rfl⟩); (exact l02Square_any (h 0) (h 1) (h 2) (h 3) m0 m1 m2 m3 W); (simp only [Act.put, List.setIfInBounds_toArray, List.set_cons_succ, List.set_cons_zero]); go_big_quiet_on) | (refine quiet_val ?_; apply Exists.intro; refine ⟨fun W => ?_, ?_⟩; (go_simp; rfl); (simp only [Act.put, List.setIfInBounds_toArray, List.set_cons_succ, List.set_cons_zero]); go_big_quiet_on)))); (with_reducible refine wpQuiet_nil ?_); intro W' hM)
    go_wp2
    go_ret
    exact ⟨ret_bool Hp.out.symm, hM.below⟩
  · have Hp := Lib.hid hp
    have H1 := Lib.hid h1
    have H2 := Lib.hid h2
    have H3 := Lib.hid h3
    clear hp h1 h2 h3
    go_enter Tryd.func99, Tryd.ntmps99
    go_wp2
    ((try simp only [Act.put, List.setIfInBounds_toArray, List.set_cons_succ, List.set_cons_zero]); refine wp_region_mem (by kernel_rfl) (by kernel_rfl) hM ?_; clear hM; (repeat (first | go_big_quiet_skip | (go_big_quiet_want; first | (refine quiet_get _ _ rfl _ _ rfl 1 rfl (rowTab _ 2 rfl) (by omega) ?_; (simp only [e0]); (simp only [Act.put, List.setIfInBounds_toArray, List.set_cons_succ, List.set_cons_zero]); go_big_quiet_on) | (refine quiet_get _ _ rfl _ _ rfl 1 rfl (rowTab _ 2 rfl) (by omega) ?_; (simp only [e2]); (simp only [Act.put, List.setIfInBounds_toArray, List.set_cons_succ, List.set_cons_zero]); go_big_quiet_on) | (refine quiet_get1 _ _ rfl _ _ rfl 1 rfl (cellTab _ rfl) (by omega) _ (e4) ?_; (simp only [Act.put, List.setIfInBounds_toArray, List.set_cons_succ, List.set_cons_zero]); go_big_quiet_on) | (refine quiet_call ?_; apply Exists.intro; apply Exists.intro; apply Exists.intro; refine ⟨fun W => ?_, fun W hM => ?_, ?_⟩; (go_simp; exact ⟨rfl, rfl⟩); (exact l02Plain_any h HF.out b N o f Hfo.out hle W (hM.ats 1 _ _ _ rfl)); (simp only [H1.out]); (simp only [Act.put, List.setIfInBounds_toArray, List.set_cons_succ, List.set_cons_zero]); go_big_quiet_on) | (refine quiet_call ?_; apply Exists.intro; apply Exists.intro; apply Exists.intro; refine ⟨fun W => ?_, fun W hM => ?_, ?_⟩; (go_simp; exact ⟨rfl, rfl⟩); (with_reducible exact l01Is_any g hg bp (h 0) (h 1) m0 m1 W (hM.ats 0 _ _ _ rfl)); (simp only [H2.out]); (simp only [Act.put, List.setIfInBounds_toArray, List.set_cons_succ, List.set_cons_zero]); go_big_quiet_on) | (refine quiet_call ?_; apply Exists.intro; apply Exists.intro; apply Exists.intro; refine ⟨fun W => ?_, fun W hM => ?_, ?_⟩; (go_simp; exact ⟨rfl, rfl⟩); (with_reducible exact l01Is_any g hg bp (h 2) (h 3) m2 m3 W (hM.ats 0 _ _ _ rfl)); (simp only [H3.out]); (simp only [Act.put, List.setIfInBounds_toArray, List.set_cons_succ, List.set_cons_zero]); go_big_quiet_on) | (refine quiet_call ?_; apply Exists.intro; apply Exists.intro; apply Exists.intro; refine ⟨fun W => ?_, fun W hM => ?_, ?_⟩; (go_simp; exact ⟨rfl, rfl⟩); (exact l02Square_any (h 0) (h 1) (h 2) (h 3) m0 m1 m2 m3 W); (simp only [Act.put, List.setIfInBounds_toArray, List.set_cons_succ, List.set_cons_zero]); go_big_quiet_on) | (refine quiet_val ?_; apply Exists.intro; refine ⟨fun W => ?_, ?_⟩; (go_simp; rfl); (simp only [Act.put, List.setIfInBounds_toArray, List.set_cons_succ, List.set_cons_zero]); go_big_quiet_on)))); (with_reducible refine wpQuiet_nil ?_); intro W' hM)
    go_wp2
    go_ret
    exact ⟨ret_bool Hp.out.symm, hM.below⟩
  · have Hp := Lib.hid hp
    have H1 := Lib.hid h1
    have H2 := Lib.hid h2
    have H3 := Lib.hid h3
    have d4 : decide (h 4 < 0) = true := decide_eq_true h4
    clear hp h1 h2 h3 h4
    go_enter Tryd.func99, Tryd.ntmps99
    go_wp2
    ((try simp only [Act.put, List.setIfInBounds_toArray, List.set_cons_succ, List.set_cons_zero]); refine wp_region_mem (by kernel_rfl) (by kernel_rfl) hM ?_; clear hM; (repeat (first | go_big_quiet_skip | (go_big_quiet_want; first | (refine quiet_get _ _ rfl _ _ rfl 1 rfl (rowTab _ 2 rfl) (by omega) ?_; (simp only [e0]); (simp only [Act.put, List.setIfInBounds_toArray, List.set_cons_succ, List.set_cons_zero]); go_big_quiet_on) | (refine quiet_get _ _ rfl _ _ rfl 1 rfl (rowTab _ 2 rfl) (by omega) ?_; (simp only [e2]); (simp only [Act.put, List.setIfInBounds_toArray, List.set_cons_succ, List.set_cons_zero]); go_big_quiet_on) | (refine quiet_get1 _ _ rfl _ _ rfl 1 rfl (cellTab _ rfl) (by omega) _ (e4) ?_; (simp only [Act.put, List.setIfInBounds_toArray, List.set_cons_succ, List.set_cons_zero]); go_big_quiet_on) | (refine quiet_call ?_; apply Exists.intro; apply Exists.intro; apply Exists.intro; refine ⟨fun W => ?_, fun W hM => ?_, ?_⟩; (go_simp; exact ⟨rfl, rfl⟩); (exact l02Plain_any h HF.out b N o f Hfo.out hle W (hM.ats 1 _ _ _ rfl)); (simp only [H1.out]); (simp only [Act.put, List.setIfInBounds_toArray, List.set_cons_succ, List.set_cons_zero]); go_big_quiet_on) | (refine quiet_call ?_; apply Exists.intro; apply Exists.intro; apply Exists.intro; refine ⟨fun W => ?_, fun W hM => ?_, ?_⟩; (go_simp; exact ⟨rfl, rfl⟩); (with_reducible exact l01Is_any g hg bp (h 0) (h 1) m0 m1 W (hM.ats 0 _ _ _ rfl)); (simp only [H2.out]); (simp only [Act.put, List.setIfInBounds_toArray, List.set_cons_succ, List.set_cons_zero]); go_big_quiet_on) | (refine quiet_call ?_; apply Exists.intro; apply Exists.intro; apply Exists.intro; refine ⟨fun W => ?_, fun W hM => ?_, ?_⟩; (go_simp; exact ⟨rfl, rfl⟩); (with_reducible exact l01Is_any g hg bp (h 2) (h 3) m2 m3 W (hM.ats 0 _ _ _ rfl)); (simp only [H3.out]); (simp only [Act.put, List.setIfInBounds_toArray, List.set_cons_succ, List.set_cons_zero]); go_big_quiet_on) | (refine quiet_call ?_; apply Exists.intro; apply Exists.intro; apply Exists.intro; refine ⟨fun W => ?_, fun W hM => ?_, ?_⟩; (go_simp; exact ⟨rfl, rfl⟩); (exact l02Square_any (h 0) (h 1) (h 2) (h 3) m0 m1 m2 m3 W); (simp only [Act.put, List.setIfInBounds_toArray, List.set_cons_succ, List.set_cons_zero]); go_big_quiet_on) | (refine quiet_val ?_; apply Exists.intro; refine ⟨fun W => ?_, ?_⟩; (go_simp; (try simp only [c4, d4, if_true, Bool.false_eq_true, if_false]); rfl); (simp only [Act.put, List.setIfInBounds_toArray, List.set_cons_succ, List.set_cons_zero]); go_big_quiet_on)))); (with_reducible refine wpQuiet_nil ?_); intro W' hM)
    go_wp2
    go_ret
    exact ⟨ret_bool Hp.out.symm, hM.below⟩
  · have Hp := Lib.hid hp
    have H1 := Lib.hid h1
    have H2 := Lib.hid h2
    have H3 := Lib.hid h3
    have d4 : decide (h 4 < 0) = false := decide_eq_false h4
    clear hp h1 h2 h3 h4
    go_enter Tryd.func99, Tryd.ntmps99
    go_wp2
    ((try simp only [Act.put, List.setIfInBounds_toArray, List.set_cons_succ, List.set_cons_zero]); refine wp_region_mem (by kernel_rfl) (by kernel_rfl) hM ?_; clear hM; (repeat (first | go_big_quiet_skip | (go_big_quiet_want; first | (refine quiet_get _ _ rfl _ _ rfl 1 rfl (rowTab _ 2 rfl) (by omega) ?_; (simp only [e0]); (simp only [Act.put, List.setIfInBounds_toArray, List.set_cons_succ, List.set_cons_zero]); go_big_quiet_on) | (refine quiet_get _ _ rfl _ _ rfl 1 rfl (rowTab _ 2 rfl) (by omega) ?_; (simp only [e2]); (simp only [Act.put, List.setIfInBounds_toArray, List.set_cons_succ, List.set_cons_zero]); go_big_quiet_on) | (refine quiet_get1 _ _ rfl _ _ rfl 1 rfl (cellTab _ rfl) (by omega) _ (e4) ?_; (simp only [Act.put, List.setIfInBounds_toArray, List.set_cons_succ, List.set_cons_zero]); go_big_quiet_on) | (refine quiet_call ?_; apply Exists.intro; apply Exists.intro; apply Exists.intro; refine ⟨fun W => ?_, fun W hM => ?_, ?_⟩; (go_simp; exact ⟨rfl, rfl⟩); (exact l02Plain_any h HF.out b N o f Hfo.out hle W (hM.ats 1 _ _ _ rfl)); (simp only [H1.out]); (simp only [Act.put, List.setIfInBounds_toArray, List.set_cons_succ, List.set_cons_zero]); go_big_quiet_on) | (refine quiet_call ?_; apply Exists.intro; apply Exists.intro; apply Exists.intro; refine ⟨fun W => ?_, fun W hM => ?_, ?_⟩; (go_simp; exact ⟨rfl, rfl⟩); (with_reducible exact l01Is_any g hg bp (h 0) (h 1) m0 m1 W (hM.ats 0 _ _ _ rfl)); (simp only [H2.out]); (simp only [Act.put, List.setIfInBounds_toArray, List.set_cons_succ, List.set_cons_zero]); go_big_quiet_on) | (refine quiet_call ?_; apply Exists.intro; apply Exists.intro; apply Exists.intro; refine ⟨fun W => ?_, fun W hM => ?_, ?_⟩; (go_simp; exact ⟨rfl, rfl⟩); (with_reducible exact l01Is_any g hg bp (h 2) (h 3) m2 m3 W (hM.ats 0 _ _ _ rfl)); (simp only [H3.out]); (simp only [Act.put, List.setIfInBounds_toArray, List.set_cons_succ, List.set_cons_zero]); go_big_quiet_on) | (refine quiet_call ?_; apply Exists.intro; apply Exists.intro; apply Exists.intro; refine ⟨fun W => ?_, fun W hM => ?_, ?_⟩; (go_simp; exact ⟨rfl, rfl⟩); (exact l02Square_any (h 0) (h 1) (h 2) (h 3) m0 m1 m2 m3 W); (simp only [Act.put, List.setIfInBounds_toArray, List.set_cons_succ, List.set_cons_zero]); go_big_quiet_on) | (refine quiet_val ?_; apply Exists.intro; refine ⟨fun W => ?_, ?_⟩; (go_simp; (try simp only [c4, d4, if_true, Bool.false_eq_true, if_false]); rfl); (simp only [Act.put, List.setIfInBounds_toArray, List.set_cons_succ, List.set_cons_zero]); go_big_quiet_on)))); (with_reducible refine wpQuiet_nil ?_); intro W' hM)
    go_wp2
    go_ret
    exact ⟨ret_bool Hp.out.symm, hM.below⟩

def told0 (h : Nat → Int) : Bool := h 2 == 0 && h 3 == 0
/-- As the program asks it. -/
def toldB (g h : Nat → Int) : Bool := isB g (h 0) (h 1) && isB g (h 2) (h 3) && !(h 4 == -1 && !told0 h) && (decide (-1 ≤ h 4) && decide (h 4 ≤ 200)) && dietB (h 5) (h 6)
def reachB (h : Nat → Int) (x y : Int) : Bool := h 4 == -1 || decide (sqI x y (h 2) (h 3) ≤ h 4)
theorem goatB_eq (g h : Nat → Int) : goatB g h = (toldB g h && reachB h (h 0) (h 1)) := by
  unfold goatB toldB reachB plainG dietB told0 inB
  cases h1 : isB g (h 0) (h 1)
  · simp
  cases h2 : isB g (h 2) (h 3)
  · simp
  cases h3 : (h 2 == 0 && h 3 == 0) <;> cases h5 : decide (0 ≤ h 5 ∧ h 5 ≤ 100) <;> cases h6 : decide (0 ≤ h 6 ∧ h 6 ≤ 1) <;> rw [Bool.eq_iff_iff] <;> simp <;> omega

set_option maxHeartbeats 400000 in
theorem isFree_any (h : Nat → Int) (w : World) :
    Calls Tryd.prog 113 #[.agg (arr 7 (gt h))] w fun e w' => e = .returned (.bool (h 4 == -1)) ∧ Below w.heap.size w w' := by
  have hM := Mem.nil w
  have e4 : gt h 4 = .int .i16 (h 4) := rfl
  have tk_b1 : True := trivial
  by_cases hq : h 4 = -1
  · have hf : Hid ((h 4 == -1) = true) := Lib.hid (by simp [hq])
    go_enter Tryd.func113, Tryd.ntmps113
    go_wp2_with (first | (have _t := tk_b1; refine wpList_box rfl _ _ rfl _ _ rfl hM ?_; intro b1 W' hb1 hM'; clear hM tk_b1; have hM := hM'; clear hM') | (refine wpList_get1 rfl _ _ rfl _ _ rfl hM 0 rfl (cellTab _ rfl) (by omega) _ rfl ?_))
    go_ret
    first | exact ⟨ret_bool hf.out.symm, hM.below⟩ | exact ⟨rfl, hM.below⟩
  · have hf : Hid ((h 4 == -1) = false) := Lib.hid (by simp [hq])
    go_enter Tryd.func113, Tryd.ntmps113
    go_wp2_with (first | (have _t := tk_b1; refine wpList_box rfl _ _ rfl _ _ rfl hM ?_; intro b1 W' hb1 hM'; clear hM tk_b1; have hM := hM'; clear hM') | (refine wpList_get1 rfl _ _ rfl _ _ rfl hM 0 rfl (cellTab _ rfl) (by omega) _ rfl ?_))
    go_ret
    first | exact ⟨ret_bool hf.out.symm, hM.below⟩ | exact ⟨rfl, hM.below⟩
end Go.Proofs.YtdlfhomnlhdacaaDoor
