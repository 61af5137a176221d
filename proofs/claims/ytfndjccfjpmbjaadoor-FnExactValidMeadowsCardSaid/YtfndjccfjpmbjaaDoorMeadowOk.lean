/-
  spec.l07Ok, l07Asked, impl.(Meadow).isTold, ValidMeadows by contracts: meadows that are valid.
-/
import Derived.Test.YtfndjccfjpmbjaaDoorMeadowQ
import Derived.Test.YtfndjccfjpmbjaaDoorSpec1
import Derived.Test.YtfndjccfjpmbjaaDoorUpTo
import Derived.Test.YtfndjccfjpmbjaaDoorNeq0
import Derived.Test.YtfndjccfjpmbjaaDoorCheckGrass
namespace Go.Proofs.YtfndjccfjpmbjaaDoor
open Go Go.RowKit Go.BigFrame

/-- Is a meadow as told? -/
def meadB (h : Nat → Int) : Bool := inB 0 1000 (h 2) && (inB 0 (h 2) (h 0) && inB 0 (h 2) (h 1))
def meadsB (n : Nat) (hs : Nat → Nat → Int) : Bool := inB 1 6 n && (List.range n).all fun i => meadB (hs i)
theorem meadsB_len {n : Nat} {hs : Nat → Nat → Int} (h : inB 1 6 n = false) : meadsB n hs = false := by simp [meadsB, h]
theorem meadsB_no {n i : Nat} {hs : Nat → Nat → Int} (hi : i < n) (h : meadB (hs i) = false) : meadsB n hs = false := by
  have : ((List.range n).all fun i => meadB (hs i)) = false := by rw [List.all_eq_false]; exact ⟨i, by simpa using hi, by rw [h]; decide⟩
  simp [meadsB, this]
theorem meadsB_all {n : Nat} {hs : Nat → Nat → Int} (h : ∀ i, i < n → meadB (hs i) = true) : meadsB n hs = inB 1 6 n := by
  have : ((List.range n).all fun i => meadB (hs i)) = true := by rw [List.all_eq_true]; intro i hi; exact h i (by simpa using hi)
  simp [meadsB, this]
theorem meadsB_iff {n : Nat} {hs : Nat → Nat → Int} (h : meadsB n hs = true) : (1 ≤ n ∧ n ≤ 6) ∧ ∀ i, i < n → meadB (hs i) = true := by
  unfold meadsB at h
  rw [Bool.and_eq_true, List.all_eq_true] at h
  have := inB_true h.1
  exact ⟨by omega, fun i hi => h.2 i (by simpa using hi)⟩
theorem meadB_iff {h : Nat → Int} (hb : meadB h = true) : (0 ≤ h 2 ∧ h 2 ≤ 1000) ∧ (0 ≤ h 0 ∧ h 0 ≤ h 2) ∧ (0 ≤ h 1 ∧ h 1 ≤ h 2) := by
  unfold meadB at hb
  rw [Bool.and_eq_true, Bool.and_eq_true] at hb
  exact ⟨inB_true hb.1, inB_true hb.2.1, inB_true hb.2.2⟩

set_option maxRecDepth 100000 in
set_option maxHeartbeats 4000000 in
theorem l07Ok_any (b n c : Nat) (hs : Nat → Nat → Int) (hF : ∀ i, i < n → FitsMeadow (hs i)) (hn : n ≤ 1048576) (w : World) (hB : At w b (n * 3) (sMeadow hs)) :
    Calls Tryd.prog 9 #[.slice (some ⟨b, 0, none⟩) n c] w fun e w' => e = .returned (.bool (meadsB n hs)) ∧ Below w.heap.size w w' := by
  have hM : Mem w [(b, n * 3, sMeadow hs)] w := (Mem.nil w).old hB (fun i p h => by simp at h)
  have HF := Lib.hid hF
  clear hF hB
  go_enter Tryd.func9, Tryd.ntmps9
  go_wp2
  go_loopw [3] (fun i wr => ∃ k : Nat, k ≤ n ∧ i = .int .i64 k ∧ Hid (∀ j, j < k → meadB (hs j) = true) ∧ Mem w [(b, n * 3, sMeadow hs)] wr) (fun i _ => n - (intOf i).toNat)
  case atStart => exact ⟨0, by omega, rfl, Lib.hid (fun j hj => absurd hj (by omega)), hM⟩
  case round =>
    clear hM
    obtain ⟨k, hk, rfl, hall, hM⟩ := hrel
    by_cases hlt : k < n
    · have l2 : (k : Int) < n := by omega
      obtain ⟨f0, f1, f2⟩ := HF.out k hlt
      have c0 : IntKind.i64.wrap (hs k 0) = hs k 0 := IntWalk.i64_in _ (by omega)
      have c1 : IntKind.i64.wrap (hs k 1) = hs k 1 := IntWalk.i64_in _ (by omega)
      have c2 : IntKind.i64.wrap (hs k 2) = hs k 2 := IntWalk.i64_in _ (by omega)
      have e0 : sMeadow hs (k * 3) = .int .i16 (hs k 0) := sMeadow_row hs k 0 (by omega)
      have e1 : sMeadow hs (k * 3 + 1) = .int .i16 (hs k 1) := sMeadow_row hs k 1 (by omega)
      have e2 : sMeadow hs (k * 3 + 2) = .int .i16 (hs k 2) := sMeadow_row hs k 2 (by omega)
      clear f0 f1 f2
      cases h2 : inB 0 1000 (hs k 2)
      · have Hx : Hid (meadB (hs k) = false) := Lib.hid (by simp [meadB, h2])
        have H2 := Lib.hid h2
        clear h2
        go_wp2_with (first | (refine wpList_get1 rfl _ _ rfl _ _ rfl hM 0 rfl (cellTab _ rfl) (by omega) _ e2 ?_) | (go_at_call 13; (with_reducible refine (l01Grass_any (hs k 2) _).mono ?_); rintro e W' ⟨rfl, hb'⟩; rw [H2.out]; have hM' := hM.call hb'; clear hM hb'; have hM := hM'; clear hM'))
        go_ret
        exact ⟨ret_bool (meadsB_no hlt Hx.out).symm, hM.below⟩
      cases h0 : inB 0 (hs k 2) (hs k 0)
      · have Hx : Hid (meadB (hs k) = false) := Lib.hid (by simp [meadB, h0])
        have H2 := Lib.hid h2
        have H0 := Lib.hid h0
        clear h2 h0
        go_wp2_with (first | (refine wpList_get1 rfl _ _ rfl _ _ rfl hM 0 rfl (cellTab _ rfl) (by omega) _ e2 ?_) | (refine wpList_gget1 ?_ _ _ rfl _ _ rfl hM 0 rfl (cellTab _ rfl) (by omega) _ e0 ?_; kernel_rfl) | (go_at_call 13; (with_reducible refine (l01Grass_any (hs k 2) _).mono ?_); rintro e W' ⟨rfl, hb'⟩; rw [H2.out]; have hM' := hM.call hb'; clear hM hb'; have hM := hM'; clear hM') | (go_at_call 14; (with_reducible refine (l00In_any (hs k 0) 0 (hs k 2) _).mono ?_); rintro e W' ⟨rfl, hb'⟩; rw [H0.out]; have hM' := hM.call hb'; clear hM hb'; have hM := hM'; clear hM'))
        go_ret
        exact ⟨ret_bool (meadsB_no hlt Hx.out).symm, hM.below⟩
      cases h1 : inB 0 (hs k 2) (hs k 1)
      · have Hx : Hid (meadB (hs k) = false) := Lib.hid (by simp [meadB, h1])
        have H2 := Lib.hid h2
        have H0 := Lib.hid h0
        have H1 := Lib.hid h1
        clear h2 h0 h1
        have tk_r0 : True := trivial
        go_wp2_with (first | (refine wpList_get1 rfl _ _ rfl _ _ rfl hM 0 rfl (cellTab _ rfl) (by omega) _ e2 ?_) | (have _t := tk_r0; (refine wpList_gget1 ?_ _ _ rfl _ _ rfl hM 0 rfl (cellTab _ rfl) (by omega) _ e0 ?_; kernel_rfl); clear tk_r0) | (refine wpList_gget1 ?_ _ _ rfl _ _ rfl hM 0 rfl (cellTab _ rfl) (by omega) _ e1 ?_; kernel_rfl) | (go_at_call 13; (with_reducible refine (l01Grass_any (hs k 2) _).mono ?_); rintro e W' ⟨rfl, hb'⟩; rw [H2.out]; have hM' := hM.call hb'; clear hM hb'; have hM := hM'; clear hM') | (go_at_call 14; (with_reducible refine (l00In_any (hs k 0) 0 (hs k 2) _).mono ?_); rintro e W' ⟨rfl, hb'⟩; rw [H0.out]; have hM' := hM.call hb'; clear hM hb'; have hM := hM'; clear hM') | (go_at_call 14; (with_reducible refine (l00In_any (hs k 1) 0 (hs k 2) _).mono ?_); rintro e W' ⟨rfl, hb'⟩; rw [H1.out]; have hM' := hM.call hb'; clear hM hb'; have hM := hM'; clear hM'))
        go_ret
        exact ⟨ret_bool (meadsB_no hlt Hx.out).symm, hM.below⟩
      · have Hx : Hid (meadB (hs k) = true) := Lib.hid (by simp [meadB, h0, h1, h2])
        have H2 := Lib.hid h2
        have H0 := Lib.hid h0
        have H1 := Lib.hid h1
        clear h2 h0 h1
        have tk_r0 : True := trivial
        go_wp2_with (first | (refine wpList_get1 rfl _ _ rfl _ _ rfl hM 0 rfl (cellTab _ rfl) (by omega) _ e2 ?_) | (have _t := tk_r0; (refine wpList_gget1 ?_ _ _ rfl _ _ rfl hM 0 rfl (cellTab _ rfl) (by omega) _ e0 ?_; kernel_rfl); clear tk_r0) | (refine wpList_gget1 ?_ _ _ rfl _ _ rfl hM 0 rfl (cellTab _ rfl) (by omega) _ e1 ?_; kernel_rfl) | (go_at_call 13; (with_reducible refine (l01Grass_any (hs k 2) _).mono ?_); rintro e W' ⟨rfl, hb'⟩; rw [H2.out]; have hM' := hM.call hb'; clear hM hb'; have hM := hM'; clear hM') | (go_at_call 14; (with_reducible refine (l00In_any (hs k 0) 0 (hs k 2) _).mono ?_); rintro e W' ⟨rfl, hb'⟩; rw [H0.out]; have hM' := hM.call hb'; clear hM hb'; have hM := hM'; clear hM') | (go_at_call 14; (with_reducible refine (l00In_any (hs k 1) 0 (hs k 2) _).mono ?_); rintro e W' ⟨rfl, hb'⟩; rw [H1.out]; have hM' := hM.call hb'; clear hM hb'; have hM := hM'; clear hM'))
        go_roundw
        case rel => exact ⟨k + 1, by omega, by go_num, Lib.hid (fun j hj => by
          by_cases e : j = k
          · rw [e]; exact Hx.out
          · exact hall.out j (by omega)), hM⟩
        case measure => simp [intOf]; omega
    · obtain rfl : k = n := by omega
      have Hp := Lib.hid (meadsB_all hall.out)
      go_wp2_with (first | (go_at_call 14; (with_reducible refine (l00In_any (k : Int) 1 6 _).mono ?_); rintro e W' ⟨rfl, hb'⟩; have hM' := hM.call hb'; clear hM hb'; have hM := hM'; clear hM'))
      go_ret
      exact ⟨ret_bool Hp.out.symm, hM.below⟩

/-- The code of meadows, a need, and whether numbers are as told. -/
def meadC (n : Nat) (hs : Nat → Nat → Int) (need : Int) (fine : Bool) : Int := if meadsB n hs then (if inB 1 1000 need && fine then 0 else 2) else 1
theorem meadC_bad {n : Nat} {hs : Nat → Nat → Int} {m : Int} {f : Bool} (h : meadsB n hs = false) : meadC n hs m f = 1 := by simp [meadC, h]
theorem meadC_out {n : Nat} {hs : Nat → Nat → Int} {m : Int} {f : Bool} (h : meadsB n hs = true) (h2 : (inB 1 1000 m && f) = false) : meadC n hs m f = 2 := by simp only [meadC, h, h2]; rfl
theorem meadC_ok {n : Nat} {hs : Nat → Nat → Int} {m : Int} {f : Bool} (h : meadsB n hs = true) (h2 : inB 1 1000 m = true) (h3 : f = true) : meadC n hs m f = 0 := by simp [meadC, h, h2, h3]
theorem ret_i {k : IntKind} {a b : Int} (h : a = b) : Ending.returned (.int k a) = .returned (.int k b) := by rw [h]
end Go.Proofs.YtfndjccfjpmbjaaDoor
