/-
  impl.seasonOf by contract.
-/
import Derived.Test.YtbbododeglkghaaDoorMeadowI
import Derived.Test.YtbbododeglkghaaDoorQuietOld
namespace Go.Proofs.YtbbododeglkghaaDoor
open Go Go.RowKit Go.BigFrame

/-- The day of a herd that needs so much, as a value. -/
def liveV (need : Int) : Value := .func (.func 73) #[.int .i64 need] #[]
@[go_sem] theorem liveV_eq (need : Int) : liveV need = .func (.func 73) #[.int .i64 need] #[] := rfl

set_option maxRecDepth 100000 in
set_option maxHeartbeats 1000000 in
theorem seasonOf_0 {a : Nat → Addr} (b N n c : Nat) (F : Nat → Value) (hs : Nat → Nat → Int) (hN : n * 3 ≤ N) (hf : ∀ j, j < n * 3 → F j = sMeadow hs j) (hF : ∀ i, i < n → FitsMeadow (hs i)) (hn : n ≤ 1048576) (need : Int) (w : World) (hB : At w b N F) (hE : Errs a w) (hm : meadsB n hs = false) :
    Calls Tryd.prog 53 #[.slice (some ⟨b, 0, none⟩) n c, .int .i64 need] w fun e w' => e = .returned (.tuple #[.nilFunc, errV (a 0)]) ∧ Below w.heap.size w w' := by
  have hM : Mem w [(b, N, F)] w := (Mem.nil w).old hB (fun i p h => by simp at h)
  have HF := Lib.hid hF
  have Hf := Lib.hid hf
  have HE := Lib.hid hE
  have Hm := Lib.hid hm
  clear hF hB hE hf hm
  go_enter Tryd.func53, Tryd.ntmps53
  go_wp2_with (first | (go_at_call 67; refine (implValidMeadows_any b N n c F hs hN Hf.out HF.out hn _ (hM.ats 0 _ _ _ rfl) (HE.out.below hM.below)).mono ?_; rintro e W' ⟨rfl, hb'⟩; rw [Hm.out]; have hM' := hM.call hb'; have hE' := HE.out.below hM'.below; have v0 : W'.cell? ⟨0, 0, none⟩ = some (errV (a 0)) := hE'.vars 0 (by omega); clear hM hb' hE'; have hM := hM'; clear hM'))
  ((try simp only [Act.put, List.setIfInBounds_toArray, List.set_cons_succ, List.set_cons_zero]); refine wp_region_mem (by kernel_rfl) (by kernel_rfl) hM ?_; clear hM; (repeat (first | go_big_quiet_skip | (go_big_quiet_want; first | (refine quiet_old _ _ rfl _ _ rfl (cellTab _ rfl) (errV (a 0)) (fun W hM => (HE.out.below hM.below).vars 0 (by omega)) ?_; (simp only [Act.put, List.setIfInBounds_toArray, List.set_cons_succ, List.set_cons_zero]); go_big_quiet_on) | (refine quiet_val ?_; apply Exists.intro; refine ⟨fun W => ?_, ?_⟩; (go_simp; rfl); (simp only [Act.put, List.setIfInBounds_toArray, List.set_cons_succ, List.set_cons_zero]); go_big_quiet_on)))); (with_reducible refine wpQuiet_nil ?_); intro W' hM)
  go_wp2
  go_ret2
  exact ⟨rfl, hM.below⟩

set_option maxRecDepth 100000 in
set_option maxHeartbeats 1000000 in
theorem seasonOf_1 {a : Nat → Addr} (b N n c : Nat) (F : Nat → Value) (hs : Nat → Nat → Int) (hN : n * 3 ≤ N) (hf : ∀ j, j < n * 3 → F j = sMeadow hs j) (hF : ∀ i, i < n → FitsMeadow (hs i)) (hn : n ≤ 1048576) (need : Int) (w : World) (hB : At w b N F) (hE : Errs a w) (hm : meadsB n hs = true) (hd : inB 1 1000 need = false) :
    Calls Tryd.prog 53 #[.slice (some ⟨b, 0, none⟩) n c, .int .i64 need] w fun e w' => e = .returned (.tuple #[.nilFunc, errV (a 1)]) ∧ Below w.heap.size w w' := by
  have hM : Mem w [(b, N, F)] w := (Mem.nil w).old hB (fun i p h => by simp at h)
  have HF := Lib.hid hF
  have Hf := Lib.hid hf
  have HE := Lib.hid hE
  have Hm := Lib.hid hm
  have h' : ¬ (1 ≤ need ∧ need ≤ 1000) := of_decide_eq_false hd
  clear hF hB hE hf hm hd
  by_cases h1 : need < 1
  · have d0 : decide (need < 1) = true := decide_eq_true h1
    clear h'
    go_enter Tryd.func53, Tryd.ntmps53
    go_wp2_with (first | (go_at_call 67; (with_reducible refine (implValidMeadows_any b N n c F hs hN Hf.out HF.out hn _ (hM.ats 0 _ _ _ rfl) (HE.out.below hM.below)).mono ?_); rintro e W' ⟨rfl, hb'⟩; rw [Hm.out]; have hM' := hM.call hb'; clear hM hb'; have hM := hM'; clear hM'))
    ((try simp only [Act.put, List.setIfInBounds_toArray, List.set_cons_succ, List.set_cons_zero]); refine wp_region_mem (by kernel_rfl) (by kernel_rfl) hM ?_; clear hM; (repeat (first | go_big_quiet_skip | (go_big_quiet_want; first | (refine quiet_old _ _ rfl _ _ rfl (cellTab _ rfl) (errV (a 1)) (fun W hM => (HE.out.below hM.below).vars 1 (by omega)) ?_; (simp only [Act.put, List.setIfInBounds_toArray, List.set_cons_succ, List.set_cons_zero]); go_big_quiet_on) | (refine quiet_val ?_; apply Exists.intro; refine ⟨fun W => ?_, ?_⟩; (go_simp; rfl); (simp only [Act.put, List.setIfInBounds_toArray, List.set_cons_succ, List.set_cons_zero]); go_big_quiet_on)))); (with_reducible refine wpQuiet_nil ?_); intro W' hM)
    go_wp2
    go_ret2
    exact ⟨rfl, hM.below⟩
  · have d0 : decide (need < 1) = false := decide_eq_false h1
    have d1 : decide (1000 < need) = true := decide_eq_true (by omega)
    clear h'
    go_enter Tryd.func53, Tryd.ntmps53
    go_wp2_with (first | (go_at_call 67; (with_reducible refine (implValidMeadows_any b N n c F hs hN Hf.out HF.out hn _ (hM.ats 0 _ _ _ rfl) (HE.out.below hM.below)).mono ?_); rintro e W' ⟨rfl, hb'⟩; rw [Hm.out]; have hM' := hM.call hb'; clear hM hb'; have hM := hM'; clear hM'))
    ((try simp only [Act.put, List.setIfInBounds_toArray, List.set_cons_succ, List.set_cons_zero]); refine wp_region_mem (by kernel_rfl) (by kernel_rfl) hM ?_; clear hM; (repeat (first | go_big_quiet_skip | (go_big_quiet_want; first | (refine quiet_old _ _ rfl _ _ rfl (cellTab _ rfl) (errV (a 1)) (fun W hM => (HE.out.below hM.below).vars 1 (by omega)) ?_; (simp only [Act.put, List.setIfInBounds_toArray, List.set_cons_succ, List.set_cons_zero]); go_big_quiet_on) | (refine quiet_val ?_; apply Exists.intro; refine ⟨fun W => ?_, ?_⟩; (go_simp; rfl); (simp only [Act.put, List.setIfInBounds_toArray, List.set_cons_succ, List.set_cons_zero]); go_big_quiet_on)))); (with_reducible refine wpQuiet_nil ?_); intro W' hM)
    go_wp2
    go_ret2
    exact ⟨rfl, hM.below⟩

set_option maxRecDepth 100000 in
set_option maxHeartbeats 1000000 in
theorem seasonOf_ok {a : Nat → Addr} (b N n c : Nat) (F : Nat → Value) (hs : Nat → Nat → Int) (hN : n * 3 ≤ N) (hf : ∀ j, j < n * 3 → F j = sMeadow hs j) (hF : ∀ i, i < n → FitsMeadow (hs i)) (hn : n ≤ 1048576) (need : Int) (w : World) (hB : At w b N F) (hE : Errs a w) (hm : meadsB n hs = true) (hd : inB 1 1000 need = true) :
    Calls Tryd.prog 53 #[.slice (some ⟨b, 0, none⟩) n c, .int .i64 need] w fun e w' => e = .returned (.tuple #[liveV need, .nilIface]) ∧ Below w.heap.size w w' := by
  have hM : Mem w [(b, N, F)] w := (Mem.nil w).old hB (fun i p h => by simp at h)
  have HF := Lib.hid hF
  have Hf := Lib.hid hf
  have HE := Lib.hid hE
  have Hm := Lib.hid hm
  have h' := inB_true hd
  have d0 : decide (need < 1) = false := decide_eq_false (by omega)
  have d1 : decide (1000 < need) = false := decide_eq_false (by omega)
  clear hF hB hE hf hm hd h'
  go_enter Tryd.func53, Tryd.ntmps53
  go_wp2_with (first | (go_at_call 67; (with_reducible refine (implValidMeadows_any b N n c F hs hN Hf.out HF.out hn _ (hM.ats 0 _ _ _ rfl) (HE.out.below hM.below)).mono ?_); rintro e W' ⟨rfl, hb'⟩; rw [Hm.out]; have hM' := hM.call hb'; clear hM hb'; have hM := hM'; clear hM'))
  go_ret2
  exact ⟨rfl, hM.below⟩
end Go.Proofs.YtbbododeglkghaaDoor
