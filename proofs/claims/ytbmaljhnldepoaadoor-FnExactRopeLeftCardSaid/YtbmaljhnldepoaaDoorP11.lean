/-
  Several texts in one: WalkL, Lit1, StepsOf, All, WalkV, Num, WindsOfS.
-/
import Derived.Test.YtbmaljhnldepoaaDoorP10
import Derived.Test.YtbmaljhnldepoaaDoorP6
import Derived.Test.YtbmaljhnldepoaaDoorP2
import Derived.Laws.MakeOwn
import Derived.Test.YtbmaljhnldepoaaDoorP4
import Derived.Test.YtbmaljhnldepoaaDoorP5
import Derived.Test.YtbmaljhnldepoaaDoorP1
/-
  spec.l05Walk by contract.
-/
namespace Go.Proofs.YtbmaljhnldepoaaDoor
open Go Go.RowKit Go.BigFrame

set_option maxRecDepth 100000 in
set_option maxHeartbeats 4000000 in
theorem l05Walk_any (g : Nat → Int) (hg : Fits g) (ho : okB g = true) (bp bw n c : Nat) (x y : Int) (s : Nat → Int × Int) (hn : n ≤ 1048576) (hS : ∀ i, i < n → FitsS (s i)) (w : World) (hA : At w bp 122 (pas g)) (hB : At w bw (n * 2) (sps s)) (hne : bp ≠ bw) :
    Calls Tryd.prog 90 #[.pointer (some ⟨bp, 0, none⟩), .agg (arr 2 (sp x y)), .slice (some ⟨bw, 0, none⟩) n c] w fun e w' => e = .returned (.bool (walkB g s n x y)) ∧ Below w.heap.size w w' := by
  have hM : Mem w [(bp, 122, pas g), (bw, n * 2, sps s)] w := ((Mem.nil w).old hA (fun i p h => by simp at h)).old hB (fun i p h => by
    match i, h with
    | 0, h => simp at h; rw [← h]; exact hne
    | _ + 1, h => simp at h)
  have Ho := Lib.hid ho
  clear hA hB ho
  cases hl : inB 1 200 n
  · have Hl := Lib.hid hl
    have Hp := Lib.hid (walkB_len (g := g) (s := s) (x := x) (y := y) hl)
    clear hl
    have tk_b1 : True := trivial
    go_enter Tryd.func90, Tryd.ntmps90
    go_wp2_with (first | (have _t := tk_b1; refine wpList_box rfl _ _ rfl _ _ rfl hM ?_; intro b1 W' hb1 hM'; clear hM tk_b1; have hM := hM'; clear hM') | (go_at_call 100; (with_reducible refine (l00In_any _ _ _ _).mono ?_); rintro e W' ⟨rfl, hb'⟩; rw [Hl.out]; have hM' := hM.call hb'; clear hM hb'; have hM := hM'; clear hM'))
    go_ret
    exact ⟨ret_bool Hp.out.symm, hM.below⟩
  have hb := inB_true hl
  have Hl := Lib.hid hl
  clear hl
  have tk_b1 : True := trivial
  go_enter Tryd.func90, Tryd.ntmps90
  go_wp2_with (first | (have _t := tk_b1; refine wpList_box rfl _ _ rfl _ _ rfl hM ?_; intro b1 W' hb1 hM'; clear hM tk_b1; have hM := hM'; clear hM') | (go_at_call 100; (with_reducible refine (l00In_any _ _ _ _).mono ?_); rintro e W' ⟨rfl, hb'⟩; rw [Hl.out]; have hM' := hM.call hb'; clear hM hb'; have hM := hM'; clear hM'))
  go_loopw [7] (fun i wr => ∃ k : Nat, k ≤ n ∧ i = .int .i64 k ∧ Hid (∀ j, j < k → okAt g s x y j = true) ∧ Hid (∀ j, j + 1 < k → joinB g (s j) (s (j + 1)) = true) ∧ Mem w [(b1, 2, sp x y), (bp, 122, pas g), (bw, n * 2, sps s)] wr) (fun i _ => n - (intOf i).toNat)
  case atStart => exact ⟨0, by omega, rfl, Lib.hid (fun j hj => absurd hj (by omega)), Lib.hid (fun j hj => absurd hj (by omega)), hM⟩
  case round =>
    clear hM
    obtain ⟨k, hk, rfl, hat, hjo, hM⟩ := hrel
    by_cases hlt : k < n
    case neg =>
      obtain rfl : k = n := by omega
      go_wp2
      go_ret
      exact ⟨ret_bool (walkB_yes Hl.out hat.out hjo.out).symm, hM.below⟩
    have l2 : (k : Int) < n := by omega
    have l3 : decide ((k : Int) < n) = true := decide_eq_true l2
    obtain ⟨hfx, hfy⟩ := hS k hlt
    have HAt : ∀ W, Mem w [(b1, 2, sp x y), (bp, 122, pas g), (bw, n * 2, sps s)] W → At W bp 122 (pas g) := fun W hM => hM.ats 1 _ _ _ rfl
    have er : arr 2 (fun j => sps s (k * 2 + j)) = arr 2 (sp (s k).1 (s k).2) := arr_congr fun j hj => sps_row _ _ _ hj
    have hq := eql_spot (s k).1 (s k).2 x y
    cases hi : isB g (s k).1 (s k).2
    · have Hp := Lib.hid (walkB_at (g := g) (s := s) (x := x) (y := y) hlt (by simp [okAt, hi]))
      go_wp2
      ((try simp only [Act.put, List.setIfInBounds_toArray, List.set_cons_succ, List.set_cons_zero]); refine wp_region_mem (by kernel_rfl) (by kernel_rfl) hM ?_; clear hM; (repeat (first | go_big_quiet_skip | (go_big_quiet_want; first | (refine quiet_get _ _ rfl _ _ rfl 2 rfl (rowTab _ 2 rfl) (by omega) ?_; (simp only [er]); (simp only [Act.put, List.setIfInBounds_toArray, List.set_cons_succ, List.set_cons_zero]); go_big_quiet_on) | (refine quiet_call ?_; apply Exists.intro; apply Exists.intro; apply Exists.intro; refine ⟨fun W => ?_, fun W hM => ?_, ?_⟩; (go_simp; exact ⟨rfl, rfl⟩); (with_reducible exact l01Is_any g hg bp (s k).1 (s k).2 hfx hfy W (HAt W hM)); (simp only [hi]); (simp only [Act.put, List.setIfInBounds_toArray, List.set_cons_succ, List.set_cons_zero]); go_big_quiet_on) | (refine quiet_get _ _ rfl _ _ rfl 0 rfl (rowTab _ _ rfl) (by omega) ?_; (simp only [Act.put, List.setIfInBounds_toArray, List.set_cons_succ, List.set_cons_zero]); go_big_quiet_on) | (refine quiet_val ?_; apply Exists.intro; refine ⟨fun W => ?_, ?_⟩; (go_simp; (try simp only [l2, l3, if_true, Bool.false_eq_true, if_false]); rfl); (simp only [Act.put, List.setIfInBounds_toArray, List.set_cons_succ, List.set_cons_zero]); go_big_quiet_on)))); (with_reducible refine wpQuiet_nil ?_); intro W' hM)
      go_wp2
      go_ret
      exact ⟨ret_bool Hp.out.symm, hM.below⟩
    cases he : (((s k).1 == x) && ((s k).2 == y))
    case true =>
      have Hp := Lib.hid (walkB_at (g := g) (s := s) (x := x) (y := y) hlt (by simp only [okAt, hi, he]; rfl))
      rw [he] at hq
      go_wp2
      ((try simp only [Act.put, List.setIfInBounds_toArray, List.set_cons_succ, List.set_cons_zero]); refine wp_region_mem (by kernel_rfl) (by kernel_rfl) hM ?_; clear hM; (repeat (first | go_big_quiet_skip | (go_big_quiet_want; first | (refine quiet_get _ _ rfl _ _ rfl 2 rfl (rowTab _ 2 rfl) (by omega) ?_; (simp only [er]); (simp only [Act.put, List.setIfInBounds_toArray, List.set_cons_succ, List.set_cons_zero]); go_big_quiet_on) | (refine quiet_call ?_; apply Exists.intro; apply Exists.intro; apply Exists.intro; refine ⟨fun W => ?_, fun W hM => ?_, ?_⟩; (go_simp; exact ⟨rfl, rfl⟩); (with_reducible exact l01Is_any g hg bp (s k).1 (s k).2 hfx hfy W (HAt W hM)); (simp only [hi]); (simp only [Act.put, List.setIfInBounds_toArray, List.set_cons_succ, List.set_cons_zero]); go_big_quiet_on) | (refine quiet_get _ _ rfl _ _ rfl 0 rfl (rowTab _ _ rfl) (by omega) ?_; (simp only [Act.put, List.setIfInBounds_toArray, List.set_cons_succ, List.set_cons_zero]); go_big_quiet_on) | (refine quiet_val ?_; apply Exists.intro; refine ⟨fun W => ?_, ?_⟩; (go_simp; (try simp only [l2, l3, hq, if_true, Bool.false_eq_true, if_false]); rfl); (simp only [Act.put, List.setIfInBounds_toArray, List.set_cons_succ, List.set_cons_zero]); go_big_quiet_on)))); (with_reducible refine wpQuiet_nil ?_); intro W' hM)
      go_wp2
      go_ret
      exact ⟨ret_bool Hp.out.symm, hM.below⟩
    have Hok : Hid (okAt g s x y k = true) := Lib.hid (by simp only [okAt, hi, he]; rfl)
    rw [he] at hq
    have hat' : Hid (∀ j, j < k + 1 → okAt g s x y j = true) := Lib.hid (fun j hj => by
      by_cases e : j = k
      · rw [e]; exact Hok.out
      · exact hat.out j (by omega))
    by_cases hk0 : k = 0
    case pos =>
      subst hk0
      have er0 : arr 2 (fun j => sps s (0 + j)) = arr 2 (sp (s 0).1 (s 0).2) := by simpa using er
      have er00 : arr 2 (fun j => sps s j) = arr 2 (sp (s 0).1 (s 0).2) := by simpa using er
      go_wp2
      ((try simp only [Act.put, List.setIfInBounds_toArray, List.set_cons_succ, List.set_cons_zero]); refine wp_region_mem (by kernel_rfl) (by kernel_rfl) hM ?_; clear hM; (repeat (first | go_big_quiet_skip | (go_big_quiet_want; first | (refine quiet_get _ _ rfl _ _ rfl 2 rfl (rowTab _ 2 rfl) (by omega) ?_; (first | simp only [er0] | simp only [er] | simp only [er00] | (simp only [Nat.zero_mul, er0])); (simp only [Act.put, List.setIfInBounds_toArray, List.set_cons_succ, List.set_cons_zero]); go_big_quiet_on) | (refine quiet_call ?_; apply Exists.intro; apply Exists.intro; apply Exists.intro; refine ⟨fun W => ?_, fun W hM => ?_, ?_⟩; (go_simp; exact ⟨rfl, rfl⟩); (with_reducible exact l01Is_any g hg bp (s 0).1 (s 0).2 hfx hfy W (HAt W hM)); (simp only [hi]); (simp only [Act.put, List.setIfInBounds_toArray, List.set_cons_succ, List.set_cons_zero]); go_big_quiet_on) | (refine quiet_get _ _ rfl _ _ rfl 0 rfl (rowTab _ _ rfl) (by omega) ?_; (simp only [Act.put, List.setIfInBounds_toArray, List.set_cons_succ, List.set_cons_zero]); go_big_quiet_on) | (refine quiet_val ?_; apply Exists.intro; refine ⟨fun W => ?_, ?_⟩; (go_simp; (try simp only [l2, l3, hq, if_true, Bool.false_eq_true, if_false]); rfl); (simp only [Act.put, List.setIfInBounds_toArray, List.set_cons_succ, List.set_cons_zero]); go_big_quiet_on)))); (with_reducible refine wpQuiet_nil ?_); intro W' hM)
      go_wp2
      ((try simp only [Act.put, List.setIfInBounds_toArray, List.set_cons_succ, List.set_cons_zero]); refine wp_region_mem (by kernel_rfl) (by kernel_rfl) hM ?_; clear hM; (repeat (first | go_big_quiet_skip | (go_big_quiet_want; first | (refine quiet_val ?_; apply Exists.intro; refine ⟨fun W => ?_, ?_⟩; (go_simp; (try simp only [l2, if_true, Bool.false_eq_true, if_false]); rfl); (simp only [Act.put, List.setIfInBounds_toArray, List.set_cons_succ, List.set_cons_zero]); go_big_quiet_on)))); (with_reducible refine wpQuiet_nil ?_); intro W' hM)
      go_wp2
      go_roundw
      case rel => exact ⟨0 + 1, by omega, by go_num, hat', Lib.hid (fun j hj => absurd hj (by omega)), hM⟩
      case measure => simp [intOf]; omega
    have k0 : ¬ (k : Int) = 0 := by omega
    have k1 : ((k : Int) == 0) = false := by simpa using hk0
    have c1 : IntKind.i64.wrap ((k : Int) - 1) = ((k - 1 : Nat) : Int) := by rw [IntWalk.i64_in _ (by omega)]; omega
    have l4 : ((k - 1 : Nat) : Int) < n := by omega
    have er1 : arr 2 (fun j => sps s ((k - 1) * 2 + j)) = arr 2 (sp (s (k - 1)).1 (s (k - 1)).2) := arr_congr fun j hj => sps_row _ _ _ hj
    have hq2 := eql_spot (s k).1 (s k).2 (s (k - 1)).1 (s (k - 1)).2
    have hok1 := hat.out (k - 1) (by omega)
    have hi1 : isB g (s (k - 1)).1 (s (k - 1)).2 = true := by unfold okAt at hok1; rw [Bool.and_eq_true] at hok1; exact hok1.1
    have hb1 := isB_bounds Ho.out hi1
    have Hx1 : Hid (0 ≤ (s (k - 1)).1 ∧ (s (k - 1)).1 ≤ 9) := Lib.hid (by omega)
    have Hy1 : Hid (0 ≤ (s (k - 1)).2 ∧ (s (k - 1)).2 ≤ 9) := Lib.hid (by omega)
    have hjo' : joinB g (s (k - 1)) (s k) = true → Hid (∀ j, j + 1 < k + 1 → joinB g (s j) (s (j + 1)) = true) := fun h => Lib.hid (fun j hj => by
      by_cases e : j + 1 = k
      · have e' : j = k - 1 := by omega
        rw [e, e']; exact h
      · exact hjo.out j (by omega))
    have hno : joinB g (s (k - 1)) (s k) = false → walkB g s n x y = false := fun h => walkB_join (k := k - 1) (by omega) (by rw [show k - 1 + 1 = k by omega]; exact h)
    have Hno := Lib.hid hno
    have Hjo := Lib.hid hjo'
    clear hok1 hi1 hb1 hno hjo'
    cases hs : (((s k).1 == (s (k - 1)).1) && ((s k).2 == (s (k - 1)).2))
    case true =>
      have Hj := Lib.hid (Hjo.out (by simp only [joinB, hs]; rfl))
      rw [hs] at hq2
      go_wp2
      ((try simp only [Act.put, List.setIfInBounds_toArray, List.set_cons_succ, List.set_cons_zero]); refine wp_region_mem (by kernel_rfl) (by kernel_rfl) hM ?_; clear hM; (repeat (first | go_big_quiet_skip | (go_big_quiet_want; first | (refine quiet_get _ _ rfl _ _ rfl 2 rfl (rowTab _ 2 rfl) (by omega) ?_; (simp only [er]); (simp only [Act.put, List.setIfInBounds_toArray, List.set_cons_succ, List.set_cons_zero]); go_big_quiet_on) | (refine quiet_call ?_; apply Exists.intro; apply Exists.intro; apply Exists.intro; refine ⟨fun W => ?_, fun W hM => ?_, ?_⟩; (go_simp; exact ⟨rfl, rfl⟩); (with_reducible exact l01Is_any g hg bp (s k).1 (s k).2 hfx hfy W (HAt W hM)); (simp only [hi]); (simp only [Act.put, List.setIfInBounds_toArray, List.set_cons_succ, List.set_cons_zero]); go_big_quiet_on) | (refine quiet_get _ _ rfl _ _ rfl 0 rfl (rowTab _ _ rfl) (by omega) ?_; (simp only [Act.put, List.setIfInBounds_toArray, List.set_cons_succ, List.set_cons_zero]); go_big_quiet_on) | (refine quiet_val ?_; apply Exists.intro; refine ⟨fun W => ?_, ?_⟩; (go_simp; (try simp only [l2, l3, hq, if_true, Bool.false_eq_true, if_false]); rfl); (simp only [Act.put, List.setIfInBounds_toArray, List.set_cons_succ, List.set_cons_zero]); go_big_quiet_on)))); (with_reducible refine wpQuiet_nil ?_); intro W' hM)
      go_wp2
      ((try simp only [Act.put, List.setIfInBounds_toArray, List.set_cons_succ, List.set_cons_zero]); refine wp_region_mem (by kernel_rfl) (by kernel_rfl) hM ?_; clear hM; (repeat (first | go_big_quiet_skip | (go_big_quiet_want; first | (refine quiet_get _ _ rfl _ _ rfl 2 rfl (rowTab _ 2 rfl) (by omega) ?_; (simp only [er]); (simp only [Act.put, List.setIfInBounds_toArray, List.set_cons_succ, List.set_cons_zero]); go_big_quiet_on) | (refine quiet_get _ _ rfl _ _ rfl 2 rfl (rowTab _ 2 rfl) (by omega) ?_; (simp only [er1]); (simp only [Act.put, List.setIfInBounds_toArray, List.set_cons_succ, List.set_cons_zero]); go_big_quiet_on) | (refine quiet_val ?_; apply Exists.intro; refine ⟨fun W => ?_, ?_⟩; (go_simp; (try simp only [l2, l3, l4, k0, k1, c1, hq2, if_true, Bool.false_eq_true, if_false]); rfl); (simp only [Act.put, List.setIfInBounds_toArray, List.set_cons_succ, List.set_cons_zero]); go_big_quiet_on)))); (with_reducible refine wpQuiet_nil ?_); intro W' hM)
      go_wp2
      go_roundw
      case rel => exact ⟨k + 1, by omega, by go_num, hat', Hj.out, hM⟩
      case measure => simp [intOf]; omega
    have Hs := Lib.hid hs
    rw [hs] at hq2
    go_wp2
    ((try simp only [Act.put, List.setIfInBounds_toArray, List.set_cons_succ, List.set_cons_zero]); refine wp_region_mem (by kernel_rfl) (by kernel_rfl) hM ?_; clear hM; (repeat (first | go_big_quiet_skip | (go_big_quiet_want; first | (refine quiet_get _ _ rfl _ _ rfl 2 rfl (rowTab _ 2 rfl) (by omega) ?_; (simp only [er]); (simp only [Act.put, List.setIfInBounds_toArray, List.set_cons_succ, List.set_cons_zero]); go_big_quiet_on) | (refine quiet_call ?_; apply Exists.intro; apply Exists.intro; apply Exists.intro; refine ⟨fun W => ?_, fun W hM => ?_, ?_⟩; (go_simp; exact ⟨rfl, rfl⟩); (with_reducible exact l01Is_any g hg bp (s k).1 (s k).2 hfx hfy W (HAt W hM)); (simp only [hi]); (simp only [Act.put, List.setIfInBounds_toArray, List.set_cons_succ, List.set_cons_zero]); go_big_quiet_on) | (refine quiet_get _ _ rfl _ _ rfl 0 rfl (rowTab _ _ rfl) (by omega) ?_; (simp only [Act.put, List.setIfInBounds_toArray, List.set_cons_succ, List.set_cons_zero]); go_big_quiet_on) | (refine quiet_val ?_; apply Exists.intro; refine ⟨fun W => ?_, ?_⟩; (go_simp; (try simp only [l2, l3, hq, if_true, Bool.false_eq_true, if_false]); rfl); (simp only [Act.put, List.setIfInBounds_toArray, List.set_cons_succ, List.set_cons_zero]); go_big_quiet_on)))); (with_reducible refine wpQuiet_nil ?_); intro W' hM)
    go_wp2
    ((try simp only [Act.put, List.setIfInBounds_toArray, List.set_cons_succ, List.set_cons_zero]); refine wp_region_mem (by kernel_rfl) (by kernel_rfl) hM ?_; clear hM; (repeat (first | go_big_quiet_skip | (go_big_quiet_want; first | (refine quiet_get _ _ rfl _ _ rfl 2 rfl (rowTab _ 2 rfl) (by omega) ?_; (simp only [er]); (simp only [Act.put, List.setIfInBounds_toArray, List.set_cons_succ, List.set_cons_zero]); go_big_quiet_on) | (refine quiet_get _ _ rfl _ _ rfl 2 rfl (rowTab _ 2 rfl) (by omega) ?_; (simp only [er1]); (simp only [Act.put, List.setIfInBounds_toArray, List.set_cons_succ, List.set_cons_zero]); go_big_quiet_on) | (refine quiet_val ?_; apply Exists.intro; refine ⟨fun W => ?_, ?_⟩; (go_simp; (try simp only [l2, l3, l4, k0, k1, c1, hq2, if_true, Bool.false_eq_true, if_false]); rfl); (simp only [Act.put, List.setIfInBounds_toArray, List.set_cons_succ, List.set_cons_zero]); go_big_quiet_on)))); (with_reducible refine wpQuiet_nil ?_); intro W' hM)
    go_wp2
    go_loopw [8, 9] (fun v j wr => ∃ m : Nat, m ≤ 4 ∧ j = .int .i64 m ∧ v = .bool (stepK g (s (k - 1)) (s k) m) ∧ Mem w [(b1, 2, sp x y), (bp, 122, pas g), (bw, n * 2, sps s)] wr) (fun _ j _ => 4 - (intOf j).toNat)
    case atStart => exact ⟨0, by omega, rfl, rfl, hM⟩
    case round =>
      clear hM
      obtain ⟨m, hm, rfl, rfl, hM⟩ := hrel
      by_cases hlm : m < 4
      · have m2 : (m : Int) < 4 := by omega
        have m3 : decide ((m : Int) < 4) = true := decide_eq_true m2
        have hsu := stepK_succ g (s (k - 1)) (s k) m
        have hq3 := eql_spot (nxX m (s (k - 1)).1) (nxY m (s (k - 1)).2) (s k).1 (s k).2
        cases h0 : stepK g (s (k - 1)) (s k) m
        case true =>
          rw [h0] at hsu
          have Hsu := Lib.hid hsu
          clear hsu
          go_wp2
          ((try simp only [Act.put, List.setIfInBounds_toArray, List.set_cons_succ, List.set_cons_zero]); refine wp_region_mem (by kernel_rfl) (by kernel_rfl) hM ?_; clear hM; (repeat (first | go_big_quiet_skip | (go_big_quiet_want; first | (refine quiet_val ?_; apply Exists.intro; refine ⟨fun W => ?_, ?_⟩; (go_simp; (try simp only [m2, m3, if_true, Bool.false_eq_true, if_false]); rfl); (simp only [Act.put, List.setIfInBounds_toArray, List.set_cons_succ, List.set_cons_zero]); go_big_quiet_on)))); (with_reducible refine wpQuiet_nil ?_); intro W' hM)
          go_wp2
          go_roundw
          case rel => exact ⟨m + 1, by omega, by go_num, by rw [Hsu.out]; rfl, hM⟩
          case measure => simp [intOf]; omega
        rw [h0] at hsu
        cases hc : closedB g m (s (k - 1)).1 (s (k - 1)).2
        case true =>
          rw [hc] at hsu
          have Hsu := Lib.hid hsu
          clear hsu
          go_wp2
          ((try simp only [Act.put, List.setIfInBounds_toArray, List.set_cons_succ, List.set_cons_zero]); refine wp_region_mem (by kernel_rfl) (by kernel_rfl) hM ?_; clear hM; (repeat (first | go_big_quiet_skip | (go_big_quiet_want; first | (refine quiet_get _ _ rfl _ _ rfl 2 rfl (rowTab _ 2 rfl) (by omega) ?_; (simp only [er]); (simp only [Act.put, List.setIfInBounds_toArray, List.set_cons_succ, List.set_cons_zero]); go_big_quiet_on) | (refine quiet_get _ _ rfl _ _ rfl 2 rfl (rowTab _ 2 rfl) (by omega) ?_; (simp only [er1]); (simp only [Act.put, List.setIfInBounds_toArray, List.set_cons_succ, List.set_cons_zero]); go_big_quiet_on) | (refine quiet_call ?_; apply Exists.intro; apply Exists.intro; apply Exists.intro; refine ⟨fun W => ?_, fun W hM => ?_, ?_⟩; (go_simp; exact ⟨rfl, rfl⟩); (with_reducible exact l01Closed_any g hg Ho.out bp m hlm (s (k - 1)).1 (s (k - 1)).2 Hx1.out Hy1.out W (HAt W hM)); (simp only [hc]); (simp only [Act.put, List.setIfInBounds_toArray, List.set_cons_succ, List.set_cons_zero]); go_big_quiet_on) | (refine quiet_call ?_; apply Exists.intro; apply Exists.intro; apply Exists.intro; refine ⟨fun W => ?_, fun W hM => ?_, ?_⟩; (go_simp; exact ⟨rfl, rfl⟩); (with_reducible exact l01Next_any m hlm (s (k - 1)).1 (s (k - 1)).2 Hx1.out Hy1.out W); (simp only [Act.put, List.setIfInBounds_toArray, List.set_cons_succ, List.set_cons_zero]); go_big_quiet_on) | (refine quiet_val ?_; apply Exists.intro; refine ⟨fun W => ?_, ?_⟩; (go_simp; (try simp only [m2, m3, l2, l3, l4, c1, hq3, if_true, Bool.false_eq_true, if_false]); rfl); (simp only [Act.put, List.setIfInBounds_toArray, List.set_cons_succ, List.set_cons_zero]); go_big_quiet_on)))); (with_reducible refine wpQuiet_nil ?_); intro W' hM)
          go_wp2
          go_roundw
          case rel => exact ⟨m + 1, by omega, by go_num, by rw [Hsu.out]; rfl, hM⟩
          case measure => simp [intOf]; omega
        rw [hc] at hsu
        have Hsu := Lib.hid hsu
        clear hsu
        cases hz : ((nxX m (s (k - 1)).1 == (s k).1) && (nxY m (s (k - 1)).2 == (s k).2))
        all_goals
          rw [hz] at hq3
          have Hz := Lib.hid hz
          clear hz
          go_wp2
          ((try simp only [Act.put, List.setIfInBounds_toArray, List.set_cons_succ, List.set_cons_zero]); refine wp_region_mem (by kernel_rfl) (by kernel_rfl) hM ?_; clear hM; (repeat (first | go_big_quiet_skip | (go_big_quiet_want; first | (refine quiet_get _ _ rfl _ _ rfl 2 rfl (rowTab _ 2 rfl) (by omega) ?_; (simp only [er]); (simp only [Act.put, List.setIfInBounds_toArray, List.set_cons_succ, List.set_cons_zero]); go_big_quiet_on) | (refine quiet_get _ _ rfl _ _ rfl 2 rfl (rowTab _ 2 rfl) (by omega) ?_; (simp only [er1]); (simp only [Act.put, List.setIfInBounds_toArray, List.set_cons_succ, List.set_cons_zero]); go_big_quiet_on) | (refine quiet_call ?_; apply Exists.intro; apply Exists.intro; apply Exists.intro; refine ⟨fun W => ?_, fun W hM => ?_, ?_⟩; (go_simp; exact ⟨rfl, rfl⟩); (with_reducible exact l01Closed_any g hg Ho.out bp m hlm (s (k - 1)).1 (s (k - 1)).2 Hx1.out Hy1.out W (HAt W hM)); (simp only [hc]); (simp only [Act.put, List.setIfInBounds_toArray, List.set_cons_succ, List.set_cons_zero]); go_big_quiet_on) | (refine quiet_call ?_; apply Exists.intro; apply Exists.intro; apply Exists.intro; refine ⟨fun W => ?_, fun W hM => ?_, ?_⟩; (go_simp; exact ⟨rfl, rfl⟩); (with_reducible exact l01Next_any m hlm (s (k - 1)).1 (s (k - 1)).2 Hx1.out Hy1.out W); (simp only [Act.put, List.setIfInBounds_toArray, List.set_cons_succ, List.set_cons_zero]); go_big_quiet_on) | (refine quiet_val ?_; apply Exists.intro; refine ⟨fun W => ?_, ?_⟩; (go_simp; (try simp only [m2, m3, l2, l3, l4, c1, hq3, if_true, Bool.false_eq_true, if_false]); rfl); (simp only [Act.put, List.setIfInBounds_toArray, List.set_cons_succ, List.set_cons_zero]); go_big_quiet_on)))); (with_reducible refine wpQuiet_nil ?_); intro W' hM)
          go_wp2
          go_roundw
          case rel => exact ⟨m + 1, by omega, by go_num, by rw [Hsu.out, Hz.out]; rfl, hM⟩
          case measure => simp [intOf]; omega
      · obtain rfl : m = 4 := by omega
        have h4 := stepK_4 g (s (k - 1)) (s k)
        cases hz : stepK g (s (k - 1)) (s k) 4
        · have Hj := Lib.hid (Hno.out (by unfold joinB; rw [Hs.out, ← h4, hz]; rfl))
          clear h4
          go_wp2
          go_ret
          exact ⟨ret_bool Hj.out.symm, hM.below⟩
        · have Hj := Lib.hid (Hjo.out (by unfold joinB; rw [Hs.out, ← h4, hz]; rfl))
          clear h4
          go_wp2
          go_roundw
          case rel => exact ⟨k + 1, by omega, by go_num, hat', Hj.out, hM⟩
          case measure => simp [intOf]; omega
end Go.Proofs.YtbmaljhnldepoaaDoor

/-
  PLAIN LAWS: slice literals of two and of three elements of one cell; make of no element, with room.
-/
namespace Go.Proofs.YtbmaljhnldepoaaDoor
open Go Go.RowKit
variable {P : Program} {ops : Array Oper} {rest : List Oper} {o : Oper} {a : Act} {w : Base} {W : World} {Q : Exit → Act → World → Prop} {L : Blocks}

theorem cells_one {v : Value} (h : v.oneCell' = true) : v.cells = #[v] := by cases v <;> first | rfl | (simp [Value.oneCell'] at h)
theorem fill_cell {place : Nat → Option (Nat × Nat)} {cs : Array Value} {i off : Nat} {v : Value} (hv : v.oneCell' = true) (hp : place i = some (off, 1)) (hle : off < cs.size) (rest : List (Nat × Value)) :
    Instr.fill place cs ((i, v) :: rest) = Instr.fill place (cs.setIfInBounds off v) rest := by
  rw [Instr.fill, hp]
  simp only [cells_one hv, List.size_toArray, List.length_cons, List.length_nil, Nat.zero_add, ne_eq, not_true_eq_false, decide_false, Bool.false_or]
  rw [if_neg (by simp; omega)]
  congr 1
theorem wpList_lit2 (hgd : o.guard = none) (t e : TypeId) (x y : Operand) (ho : o.op = .buildSlice t 2 #[(0, x), (1, y)]) (u v : Value) (hx : a.eval x = u) (hy : a.eval y = v) (h0 : u.oneCell' = true) (h1 : v.oneCell' = true) (z : Value)
    (hu : P.underlying t = some (.slice e)) (hz : (P.info? e).map (fun i => (i.size, i.zero)) = some (1, some z)) (hM : Mem w L W)
    (h : ∀ b W', w.B ≤ b → Mem w ((b, 2, fun k => if k = 0 then u else v) :: L) W' → wpList P ops Q rest (a.put o.dst (.slice (some ⟨b, 0, none⟩) 2 2)) W') : wpList P ops Q (o :: rest) a W := by
  obtain ⟨ie, hie, hq⟩ := Option.map_eq_some_iff.1 hz
  simp only [Prod.mk.injEq] at hq
  refine wpList_buildSlice hgd t e 2 _ ho (arr 2 fun k => if k = 0 then u else v) ie z hu hie hq.2 (by rw [hq.1]; omega) (by rw [hq.1]; omega) ?_ (h _ _ hM.size (hM.alloc e 2 _))
  rw [hq.1]
  rw [show (Array.map (fun x => match x with | (i, x) => (i, a.eval x)) #[(0, x), (1, y)]).toList = [(0, u), (1, v)] by simp [hx, hy]]
  rw [fill_cell h0 (off := 0) rfl (by simp), fill_cell h1 (off := 1) rfl (by simp), Instr.fill]
  refine congrArg some (arr_ext (by simp) (fun k hk => ?_))
  rcases (show k = 0 ∨ k = 1 by omega) with rfl | rfl <;> simp
theorem wpList_lit3 (hgd : o.guard = none) (t e : TypeId) (x y q : Operand) (ho : o.op = .buildSlice t 3 #[(0, x), (1, y), (2, q)]) (u v s : Value) (hx : a.eval x = u) (hy : a.eval y = v) (hs : a.eval q = s) (h0 : u.oneCell' = true) (h1 : v.oneCell' = true) (h2 : s.oneCell' = true) (z : Value)
    (hu : P.underlying t = some (.slice e)) (hz : (P.info? e).map (fun i => (i.size, i.zero)) = some (1, some z)) (hM : Mem w L W)
    (h : ∀ b W', w.B ≤ b → Mem w ((b, 3, fun k => if k = 0 then u else if k = 1 then v else s) :: L) W' → wpList P ops Q rest (a.put o.dst (.slice (some ⟨b, 0, none⟩) 3 3)) W') : wpList P ops Q (o :: rest) a W := by
  obtain ⟨ie, hie, hq⟩ := Option.map_eq_some_iff.1 hz
  simp only [Prod.mk.injEq] at hq
  refine wpList_buildSlice hgd t e 3 _ ho (arr 3 fun k => if k = 0 then u else if k = 1 then v else s) ie z hu hie hq.2 (by rw [hq.1]; omega) (by rw [hq.1]; omega) ?_ (h _ _ hM.size (hM.alloc e 3 _))
  rw [hq.1]
  rw [show (Array.map (fun x => match x with | (i, x) => (i, a.eval x)) #[(0, x), (1, y), (2, q)]).toList = [(0, u), (1, v), (2, s)] by simp [hx, hy, hs]]
  rw [fill_cell h0 (off := 0) rfl (by simp), fill_cell h1 (off := 1) rfl (by simp), fill_cell h2 (off := 2) rfl (by simp), Instr.fill]
  refine congrArg some (arr_ext (by simp) (fun k hk => ?_))
  rcases (show k = 0 ∨ k = 1 ∨ k = 2 by omega) with rfl | rfl | rfl <;> simp
/-- A slice literal of one element of one cell. -/
theorem wpList_lit1 (hgd : o.guard = none) (t e : TypeId) (x : Operand) (ho : o.op = .buildSlice t 1 #[(0, x)]) (u : Value) (hx : a.eval x = u) (h0 : u.oneCell' = true) (z : Value)
    (hu : P.underlying t = some (.slice e)) (hz : (P.info? e).map (fun i => (i.size, i.zero)) = some (1, some z)) (hM : Mem w L W)
    (h : ∀ b W', w.B ≤ b → Mem w ((b, 1, fun _ => u) :: L) W' → wpList P ops Q rest (a.put o.dst (.slice (some ⟨b, 0, none⟩) 1 1)) W') : wpList P ops Q (o :: rest) a W := by
  obtain ⟨ie, hie, hq⟩ := Option.map_eq_some_iff.1 hz
  simp only [Prod.mk.injEq] at hq
  refine wpList_buildSlice hgd t e 1 _ ho (arr 1 fun _ => u) ie z hu hie hq.2 (by rw [hq.1]; omega) (by rw [hq.1]; omega) ?_ (h _ _ hM.size (hM.alloc e 1 _))
  rw [hq.1]
  rw [show (Array.map (fun x => match x with | (i, x) => (i, a.eval x)) #[(0, x)]).toList = [(0, u)] by simp [hx]]
  rw [fill_cell h0 (off := 0) rfl (by simp), Instr.fill]
  refine congrArg some (arr_ext (by simp) (fun k hk => ?_))
  obtain rfl : k = 0 := by omega
  simp

/-- make of no element, with room for n of one cell. -/
theorem wpList_make0 (hgd : o.guard = none) (t e : TypeId) (x y : Operand) (ho : o.op = .makeSlice t x y) (n : Nat) (hx : a.eval x = .int .i64 0) (hy : a.eval y = .int .i64 n) (z : Value) (bs : Nat) (hzc : z.oneCell' = true)
    (hu : P.underlying t = some (.slice e)) (hz : (P.info? e).map (fun i => (i.size, i.zero, i.bytes)) = some (1, some z, bs)) (hbs : bs ≤ 1000) (hn : n ≤ 1048576) (hM : Mem w L W)
    (h : ∀ b W', w.B ≤ b → Mem w ((b, n * 1, fun _ => z) :: L) W' → wpList P ops Q rest (a.put o.dst (.slice (some ⟨b, 0, none⟩) 0 n)) W') : wpList P ops Q (o :: rest) a W := by
  obtain ⟨ie, hie, hq⟩ := Option.map_eq_some_iff.1 hz
  simp only [Prod.mk.injEq] at hq
  obtain ⟨q1, q2, q3⟩ := hq
  refine wpList_plain hgd fun K hK => ?_
  have hb : (ie.bytes : Int) * (n : Int) ≤ 281474976710656 := by
    rw [q3]
    have : bs * n ≤ 1000 * 1048576 := Nat.mul_le_mul hbs hn
    have h2 : ((bs * n : Nat) : Int) ≤ 1000 * 1048576 := by omega
    rw [Int.natCast_mul] at h2
    omega
  have hr := run_make (P := P) W t e ie z hu hie q2 .i64 .i64 0 n (by omega) (by omega) hb (by omega)
  have hc : madeCells z.cells (n * 1) = arr (n * 1) (fun _ => z) := by
    refine arr_ext (by simp [madeCells]) (fun k hk => ?_)
    have hk' : k < n := by omega
    rw [cells_one hzc]
    simp [madeCells, hk', Nat.mod_one]
  simp only [Int.toNat_natCast, q1, hc] at hr
  unfold Oper.wp execOp
  simp only [ho, hx, hy, Sem.run_bind, Sem.run_pure, hr, Result.andThen_ok]
  exact hK _ _ (h _ _ hM.size (hM.alloc e (n * 1) _))
end Go.Proofs.YtbmaljhnldepoaaDoor

/-
  A full slice expression; impl.stepsOf by contract.
-/
namespace Go.Proofs.YtbmaljhnldepoaaDoor
open Go Go.RowKit Go.BigFrame

section
variable {P : Program} {ops : Array Oper} {rest : List Oper} {o : Oper} {a : Act} {W : World} {Q : Exit → Act → World → Prop}
theorem wpList_cut3 (hgd : o.guard = none) (t e : TypeId) (x lo hi mx : Operand) (ho : o.op = .slice t x (some lo) (some hi) (some mx)) (m : Nat) (hu : P.underlying t = some (.slice e)) (hz : (P.info? e).map (·.size) = some m)
    (b off n c : Nat) (hx : a.eval x = .slice (some ⟨b, off, none⟩) n c) (i j : Nat) (hl : a.eval lo = .int .i64 i) (I J : Int) (hh : a.eval hi = .int .i64 I) (hm : a.eval mx = .int .i64 J) (hI : I = (j : Int)) (hJ : J = (j : Int)) (h1 : i < j) (h2 : j ≤ c)
    (v : Value) (hv : v = .slice (some ⟨b, off + i * m, none⟩) (j - i) (j - i)) (h : wpList P ops Q rest (a.put o.dst v) W) : wpList P ops Q (o :: rest) a W := by
  obtain ⟨ie, hie, hq⟩ := Option.map_eq_some_iff.1 hz
  subst hI hJ hv
  refine wpList_plain hgd fun K hK => ?_
  have b1 : (Instr.sliceBound (.int .i64 (j : Int)) c .slice3Acap).run P W = .ok j W := by
    have : (j : Int) ≤ (c : Int) := by omega
    simp [Instr.sliceBound, asIntOf, this]
  have b2 : (Instr.sliceBound (.int .i64 (j : Int)) j .slice3B).run P W = .ok j W := by simp [Instr.sliceBound, asIntOf]
  have b3 : (Instr.sliceBound (.int .i64 (i : Int)) j .slice3C).run P W = .ok i W := by
    have : (i : Int) ≤ (j : Int) := by omega
    simp [Instr.sliceBound, asIntOf, this]
  have hr : (Instr.slice t (.slice (some ⟨b, off, none⟩) n c) (some (.int .i64 (i : Int))) (some (.int .i64 (j : Int))) (some (.int .i64 (j : Int)))).run P W = .ok (.slice (some ⟨b, off + i * m, none⟩) (j - i) (j - i)) W := by
    have hne : ¬ j = i := by omega
    simp [Instr.slice, Instr.sliceBounds, run_underlying hu, sizeOf, typeInfo, hie, hq, b1, b2, b3, hne, add_any]
  have hq2 : (Instr.sliceAt t (.slice (some ⟨b, off, none⟩) n c) (some (.int .i64 (i : Int))) (some (.int .i64 (j : Int))) (some (.int .i64 (j : Int)))).run P W = .ok (.slice (some ⟨b, off + i * m, none⟩) (j - i) (j - i)) W := by
    unfold Instr.sliceAt
    simp only [Sem.run_bind, run_underlying hu, Result.andThen_ok, hr]
  unfold Oper.wp
  simp only [execOp, ho, hx, hl, hh, hm, Option.map_some, Sem.run_bind, Sem.run_pure, hq2, Result.andThen_ok]
  exact hK _ _ h
end

theorem spots2_under : Tryd.prog.underlying 42 = some (.slice 32) := Tryd.underlying42
theorem spots2_info : (Tryd.prog.info? 32).map (fun i => (i.size, i.zero)) = some (1, some (.slice none 0 0)) := by kernel_rfl
theorem spots2_infoB : (Tryd.prog.info? 32).map (fun i => (i.size, i.zero, i.bytes)) = some (1, some (.slice none 0 0), 24) := by kernel_rfl

/-- The steps of a walk that lies in the block b. -/
def stV (b : Nat) : Nat → Value := fun i => .slice (some ⟨b, i * 2, none⟩) 2 2
theorem stV_cut (b k : Nat) : stV b k = .slice (some ⟨b, 0 + k * 2, none⟩) (k + 2 - k) (k + 2 - k) := by
  unfold stV
  rw [Nat.zero_add, show k + 2 - k = 2 by omega]
theorem stV_head (b j : Nat) (hj : j < 1) : stV b 0 = stV b j := by
  obtain rfl : j = 0 := by omega
  rfl
theorem stV_next (b k j : Nat) (hj : j < 1) : stV b k = stV b (k * 1 + j) := by
  obtain rfl : j = 0 := by omega
  rw [Nat.mul_one]
  rfl
theorem stV_one (b : Nat) (v : Value) (k : Nat) (h : v = stV b k) : v.oneCell' = true := by rw [h]; rfl

set_option maxRecDepth 100000 in
set_option maxHeartbeats 2000000 in
theorem stepsOf_any (b n c : Nat) (hn : 1 ≤ n) (hc : n ≤ c) (hb : n ≤ 1048576) (w : World) :
    Calls Tryd.prog 92 #[.slice (some ⟨b, 0, none⟩) n c] w fun e w' => ∃ v, e = .returned v ∧ Lst w [] 1 v (n - 1) (stV b) w' := by
  have hM := Mem.nil w
  have w1 : IntKind.i64.wrap ((n : Int) - 1) = (n : Int) - 1 := IntWalk.i64_in _ (by omega)
  have hn1 : ((n - 1 : Nat) : Int) = (n : Int) - 1 := by omega
  go_enter Tryd.func92, Tryd.ntmps92
  go_wp2
  go_loopw [3, 8] (fun v i wr => ∃ k : Nat, k ≤ n - 1 ∧ i = .int .i64 k ∧ Lst w [] 1 v k (stV b) wr) (fun _ i _ => n - 1 - (intOf i).toNat)
  case atStart => exact ⟨0, by omega, rfl, .inl ⟨rfl, rfl, hM⟩⟩
  case round =>
    clear hM
    obtain ⟨k, hk, rfl, hL⟩ := hrel
    by_cases hlt : k < n - 1
    · have l2 : (k : Int) < (n : Int) - 1 := by omega
      have c1 : IntKind.i64.wrap ((k : Int) + 2) = (k : Int) + 2 := IntWalk.i64_in _ (by omega)
      rcases hL with ⟨rfl, hn0, hM⟩ | ⟨bl, cl, F, rfl, hbl, hcl, hF, hM⟩
      · subst hn0
        have tk_b3 : True := trivial; have tk_p1 : True := trivial
        go_wp2_with (first | (refine wpList_cut3 rfl _ _ _ _ _ _ rfl 2 spot_under (by kernel_rfl) b 0 n c rfl 0 2 rfl _ _ rfl rfl (by omega) (by omega) (by omega) (by omega) (stV b 0) (stV_cut b 0) ?_) | (have _t := tk_b3; refine wpList_lit1 rfl _ _ _ rfl _ rfl rfl _ spots2_under spots2_info hM ?_; intro b3 W' hb3 hM'; clear hM tk_b3; have hM := hM'; clear hM') | (have _t := tk_p1; refine wpList_push0 rfl _ _ _ rfl _ 1 _ _ spots2_under spots2_infoB rfl (by omega) rfl _ _ rfl hM (stV b) (fun j hj => stV_head b j hj) ?_; intro bL cL FL W' hbL hcL hFL hM'; clear hM tk_p1; have hM := hM'; clear hM'))
        go_roundw
        case rel => exact ⟨0 + 1, by omega, by go_num, .inr ⟨bL, cL, FL, rfl, hbL, hcL, hFL, hM⟩⟩
        case measure => simp [intOf]; omega
      · have tk_b3 : True := trivial; have tk_p1 : True := trivial
        go_wp2_with (first | (refine wpList_cut3 rfl _ _ _ _ _ _ rfl 2 spot_under (by kernel_rfl) b 0 n c rfl k (k + 2) rfl _ _ rfl rfl (by omega) (by omega) (by omega) (by omega) (stV b k) (stV_cut b k) ?_) | (have _t := tk_b3; refine wpList_lit1 rfl _ _ _ rfl _ rfl rfl _ spots2_under spots2_info hM ?_; intro b3 W' hb3 hM'; clear hM tk_b3; have hM := hM'; clear hM') | (have _t := tk_p1; refine wpList_push1 rfl _ _ _ rfl _ 1 _ _ spots2_under spots2_infoB rfl (by omega) _ _ _ _ rfl hbl hcl (by omega) _ _ rfl (fun _ _ => rfl) hM (stV b) hF (fun j hj => stV_next b k j hj) ?_; intro bL cL FL W' hbL hcL hFL hM'; clear hM tk_p1; have hM := hM'; clear hM'))
        go_roundw
        case rel => exact ⟨k + 1, by omega, by go_num, .inr ⟨bL, cL, FL, rfl, hbL, hcL, hFL, hM⟩⟩
        case measure => simp [intOf]; omega
    · obtain rfl : k = n - 1 := by omega
      go_wp2
      go_ret
      exact ⟨_, rfl, hL⟩
end Go.Proofs.YtbmaljhnldepoaaDoor

/-
  spec.l01All by contract; what the cells of a list are.
-/
namespace Go.Proofs.YtbmaljhnldepoaaDoor
open Go Go.RowKit Go.BigFrame

/-- The code of a pasture and of some cells. -/
def allC (g : Nat → Int) (s : Nat → Int × Int) (n : Nat) : Int := if okB g then (if allB g s n then 0 else 2) else 1
theorem allC_bad {g : Nat → Int} {s : Nat → Int × Int} {n : Nat} (h : okB g = false) : allC g s n = 1 := by simp [allC, h]
theorem allC_out {g : Nat → Int} {s : Nat → Int × Int} {n : Nat} (h : okB g = true) (h2 : allB g s n = false) : allC g s n = 2 := by simp [allC, h, h2]
theorem allC_ok {g : Nat → Int} {s : Nat → Int × Int} {n : Nat} (h : okB g = true) (h2 : allB g s n = true) : allC g s n = 0 := by simp [allC, h, h2]
theorem allC_cases (g : Nat → Int) (s : Nat → Int × Int) (n : Nat) : (okB g = false ∧ allC g s n = 1) ∨ (okB g = true ∧ allB g s n = false ∧ allC g s n = 2) ∨ (okB g = true ∧ allB g s n = true ∧ allC g s n = 0) := by
  cases h1 : okB g <;> cases h2 : allB g s n <;> simp [allC, h1, h2]

/-- A cell of a good list. -/
theorem all_cell {g : Nat → Int} {s : Nat → Int × Int} {n : Nat} (ho : okB g = true) (ha : allB g s n = true) : ∀ k, k < n → ∃ u v : Nat, u < 10 ∧ v < 10 ∧ s k = ((u : Int), (v : Int)) := fun k hk => by
  unfold allB at ha
  rw [List.all_eq_true] at ha
  have hb := isB_bounds ho (ha k (by simpa using hk))
  exact ⟨(s k).1.toNat, (s k).2.toNat, by omega, by omega, by ext <;> simp <;> omega⟩
/-- The first cells of a list. -/
def cellsL (s : Nat → Int × Int) (n : Nat) : List (Nat × Nat) := (List.range n).map fun k => ((s k).1.toNat, (s k).2.toNat)
theorem cellsL_zero (s : Nat → Int × Int) : cellsL s 0 = [] := rfl
theorem cellsL_succ {s : Nat → Int × Int} {k u v : Nat} (h : s k = ((u : Int), (v : Int))) : cellsL s (k + 1) = cellsL s k ++ [(u, v)] := by simp [cellsL, List.range_succ, h]
theorem cellsL_length (s : Nat → Int × Int) (n : Nat) : (cellsL s n).length = n := by simp [cellsL]

set_option maxRecDepth 100000 in
set_option maxHeartbeats 1000000 in
theorem l01All_any (g : Nat → Int) (hg : Fits g) (bp b n c : Nat) (s : Nat → Int × Int) (hF : ∀ i, i < n → FitsS (s i)) (hn : n ≤ maxLen) (w : World) (hA : At w bp 122 (pas g)) (hB : At w b (n * 2) (sps s)) (hne : bp ≠ b) :
    Calls Tryd.prog 74 #[.pointer (some ⟨bp, 0, none⟩), .slice (some ⟨b, 0, none⟩) n c] w fun e w' => e = .returned (.int .i64 (allC g s n)) ∧ Below w.heap.size w w' := by
  have hM : Mem w [(bp, 122, pas g), (b, n * 2, sps s)] w := ((Mem.nil w).old hA (fun i p h => by simp at h)).old hB (fun i p h => by
    match i, h with
    | 0, h => simp at h; rw [← h]; exact hne
    | _ + 1, h => simp at h)
  have HF := Lib.hid hF
  unfold maxLen at hn
  clear hA hB hF
  cases ho : okB g
  · have Ho := Lib.hid ho
    clear ho
    go_enter Tryd.func74, Tryd.ntmps74
    go_wp2_with (first | (go_at_call 59; (with_reducible refine (l01Ok_any g hg _ _ (hM.ats 0 _ _ _ rfl)).mono ?_); rintro e W' ⟨rfl, hb'⟩; rw [Ho.out]; have hM' := hM.call hb'; clear hM hb'; have hM := hM'; clear hM'))
    go_ret
    exact ⟨ret_i (allC_bad Ho.out).symm, hM.below⟩
  have Ho := Lib.hid ho
  clear ho
  go_enter Tryd.func74, Tryd.ntmps74
  go_wp2_with (first | (go_at_call 59; (with_reducible refine (l01Ok_any g hg _ _ (hM.ats 0 _ _ _ rfl)).mono ?_); rintro e W' ⟨rfl, hb'⟩; rw [Ho.out]; have hM' := hM.call hb'; clear hM hb'; have hM := hM'; clear hM'))
  go_loopw [5] (fun i wr => ∃ k : Nat, k ≤ n ∧ i = .int .i64 k ∧ Hid (∀ j, j < k → isB g (s j).1 (s j).2 = true) ∧ Mem w [(bp, 122, pas g), (b, n * 2, sps s)] wr) (fun i _ => n - (intOf i).toNat)
  case atStart => exact ⟨0, by omega, rfl, Lib.hid (fun j hj => absurd hj (by omega)), hM⟩
  case round =>
    clear hM
    obtain ⟨k, hk, rfl, hall, hM⟩ := hrel
    by_cases hlt : k < n
    · have er : arr 2 (fun j => sps s (k * 2 + j)) = arr 2 (sp (s k).1 (s k).2) := arr_congr fun j hj => sps_row s k j hj
      have Hf : Hid ((-128 ≤ (s k).1 ∧ (s k).1 ≤ 127) ∧ (-128 ≤ (s k).2 ∧ (s k).2 ≤ 127)) := Lib.hid (HF.out k hlt)
      cases hB : isB g (s k).1 (s k).2
      · have HB := Lib.hid hB
        clear hB
        go_wp2_with (first | (go_at_call 68; (with_reducible refine (l01Is_any g hg _ (s k).1 (s k).2 Hf.out.1 Hf.out.2 _ (hM.ats 0 _ _ _ rfl)).mono ?_); rintro e W' ⟨rfl, hb'⟩; rw [HB.out]; have hM' := hM.call hb'; clear hM hb'; have hM := hM'; clear hM') | ((refine wpList_get rfl _ _ rfl _ _ rfl hM 1 rfl (rowTab _ _ rfl) (by omega) ?_); (simp only [er])))
        go_ret
        exact ⟨ret_i (allC_out Ho.out (allB_no hlt HB.out)).symm, hM.below⟩
      · have HB := Lib.hid hB
        clear hB
        go_wp2_with (first | (go_at_call 68; (with_reducible refine (l01Is_any g hg _ (s k).1 (s k).2 Hf.out.1 Hf.out.2 _ (hM.ats 0 _ _ _ rfl)).mono ?_); rintro e W' ⟨rfl, hb'⟩; rw [HB.out]; have hM' := hM.call hb'; clear hM hb'; have hM := hM'; clear hM') | ((refine wpList_get rfl _ _ rfl _ _ rfl hM 1 rfl (rowTab _ _ rfl) (by omega) ?_); (simp only [er])))
        go_roundw
        case rel => exact ⟨k + 1, by omega, by go_num, Lib.hid (fun j hj => by
          by_cases e : j = k
          · rw [e]; exact HB.out
          · exact hall.out j (by omega)), hM⟩
        case measure => simp [intOf]; omega
    · obtain rfl : k = n := by omega
      go_wp2
      go_ret
      exact ⟨ret_i (allC_ok Ho.out (allB_yes hall.out)).symm, hM.below⟩
end Go.Proofs.YtbmaljhnldepoaaDoor

/-
  spec.ValidWalk and impl.ValidWalk by contracts.
-/
namespace Go.Proofs.YtbmaljhnldepoaaDoor
open Go Go.RowKit Go.BigFrame

def validW (g : Nat → Int) (s : Nat → Int × Int) (n : Nat) (x y : Int) : Bool := okB g && isB g x y && walkB g s n x y
theorem validW_1 {g : Nat → Int} {s : Nat → Int × Int} {n : Nat} {x y : Int} (h : okB g = false) : validW g s n x y = false := by simp [validW, h]
theorem validW_2 {g : Nat → Int} {s : Nat → Int × Int} {n : Nat} {x y : Int} (h : isB g x y = false) : validW g s n x y = false := by simp [validW, h]
theorem validW_3 {g : Nat → Int} {s : Nat → Int × Int} {n : Nat} {x y : Int} (h : walkB g s n x y = false) : validW g s n x y = false := by simp [validW, h]
theorem validW_4 {g : Nat → Int} {s : Nat → Int × Int} {n : Nat} {x y : Int} (h : okB g = true) (h2 : isB g x y = true) : validW g s n x y = walkB g s n x y := by simp [validW, h, h2]
theorem walkB_all {g : Nat → Int} {s : Nat → Int × Int} {n : Nat} {x y : Int} (h : allB g s n = false) : walkB g s n x y = false := by
  unfold allB at h
  rw [List.all_eq_false] at h
  obtain ⟨k, hk, h⟩ := h
  exact walkB_at (by simpa using hk) (by unfold okAt; rw [Bool.not_eq_true] at h; rw [h]; rfl)
theorem walkB_has {g : Nat → Int} {s : Nat → Int × Int} {n : Nat} {x y : Int} (h : hasS s n x y = true) : walkB g s n x y = false := by
  unfold hasS at h
  rw [List.any_eq_true] at h
  obtain ⟨k, hk, h⟩ := h
  refine walkB_at (by simpa using hk) ?_
  unfold okAt
  rw [beq_swap (s k).1, beq_swap (s k).2, h]
  simp
theorem okAt_of {g : Nat → Int} {s : Nat → Int × Int} {n : Nat} {x y : Int} (h : allB g s n = true) (h2 : hasS s n x y = false) : ∀ k, k < n → okAt g s x y k = true := fun k hk => by
  unfold allB at h
  unfold hasS at h2
  rw [List.all_eq_true] at h
  rw [List.any_eq_false] at h2
  have h1 := h k (by simpa using hk)
  have h3 := h2 k (by simpa using hk)
  unfold okAt
  rw [beq_swap (s k).1, beq_swap (s k).2]
  rw [Bool.not_eq_true] at h3
  rw [h1, h3]
  rfl

set_option maxRecDepth 100000 in
set_option maxHeartbeats 2000000 in
theorem specValidWalk_any (g : Nat → Int) (hg : Fits g) (bw n c : Nat) (x y : Int) (hx : -128 ≤ x ∧ x ≤ 127) (hy : -128 ≤ y ∧ y ≤ 127) (s : Nat → Int × Int) (hn : n ≤ 1048576) (hS : ∀ i, i < n → FitsS (s i)) (w : World) (hB : At w bw (n * 2) (sps s)) :
    Calls Tryd.prog 43 #[.agg (arr 122 (pas g)), .agg (arr 2 (sp x y)), .slice (some ⟨bw, 0, none⟩) n c] w fun e w' => e = .returned (.bool (validW g s n x y)) ∧ Below w.heap.size w w' := by
  have hM : Mem w [(bw, n * 2, sps s)] w := (Mem.nil w).old hB (fun i p h => by simp at h)
  clear hB
  cases ho : okB g
  · have Ho := Lib.hid ho
    have Hp := Lib.hid (validW_1 (s := s) (n := n) (x := x) (y := y) ho)
    clear ho
    have tk_b1 : True := trivial; have tk_b2 : True := trivial
    go_enter Tryd.func43, Tryd.ntmps43
    go_wp2_with (first | (have _t := tk_b1; refine wpList_box rfl _ _ rfl _ _ rfl hM ?_; intro b1 W' hb1 hM'; clear hM tk_b1; have hM := hM'; clear hM') | (have _t := tk_b2; refine wpList_box rfl _ _ rfl _ _ rfl hM ?_; intro b2 W' hb2 hM'; clear hM tk_b2; have hM := hM'; clear hM') | (go_at_call 59; (with_reducible refine (l01Ok_any g hg _ _ (hM.ats 1 _ _ _ rfl)).mono ?_); rintro e W' ⟨rfl, hb'⟩; rw [Ho.out]; have hM' := hM.call hb'; clear hM hb'; have hM := hM'; clear hM'))
    go_ret
    exact ⟨ret_bool Hp.out.symm, hM.below⟩
  cases hi : isB g x y
  · have Ho := Lib.hid ho
    have Hi := Lib.hid hi
    have Hp := Lib.hid (validW_2 (s := s) (n := n) (x := x) (y := y) hi)
    clear ho hi
    have tk_b1 : True := trivial; have tk_b2 : True := trivial; have tk_q1 : True := trivial
    go_enter Tryd.func43, Tryd.ntmps43
    go_wp2_with (first | (have _t := tk_b1; refine wpList_box rfl _ _ rfl _ _ rfl hM ?_; intro b1 W' hb1 hM'; clear hM tk_b1; have hM := hM'; clear hM') | (have _t := tk_b2; refine wpList_box rfl _ _ rfl _ _ rfl hM ?_; intro b2 W' hb2 hM'; clear hM tk_b2; have hM := hM'; clear hM') | (have _t := tk_q1; (refine wpList_gget ?_ _ _ rfl _ _ rfl hM 0 rfl (rowTab _ _ rfl) (by omega) ?_; kernel_rfl); clear tk_q1) | (go_at_call 59; (with_reducible refine (l01Ok_any g hg _ _ (hM.ats 1 _ _ _ rfl)).mono ?_); rintro e W' ⟨rfl, hb'⟩; rw [Ho.out]; have hM' := hM.call hb'; clear hM hb'; have hM := hM'; clear hM') | (go_at_call 68; (with_reducible refine (l01Is_any g hg _ x y hx hy _ (hM.ats 1 _ _ _ rfl)).mono ?_); rintro e W' ⟨rfl, hb'⟩; rw [Hi.out]; have hM' := hM.call hb'; clear hM hb'; have hM := hM'; clear hM'))
    go_ret
    exact ⟨ret_bool Hp.out.symm, hM.below⟩
  have Ho := Lib.hid ho
  have Hi := Lib.hid hi
  have Hp := Lib.hid (validW_4 (s := s) (n := n) ho hi)
  clear ho hi
  cases hw : walkB g s n x y
  all_goals
    have Hw := Lib.hid hw
    clear hw
    have tk_b1 : True := trivial; have tk_b2 : True := trivial
    go_enter Tryd.func43, Tryd.ntmps43
    go_wp2_with (first | (have _t := tk_b1; refine wpList_box rfl _ _ rfl _ _ rfl hM ?_; intro b1 W' hb1 hM'; clear hM tk_b1; have hM := hM'; clear hM') | (have _t := tk_b2; refine wpList_box rfl _ _ rfl _ _ rfl hM ?_; intro b2 W' hb2 hM'; clear hM tk_b2; have hM := hM'; clear hM') | (refine wpList_gget ?_ _ _ rfl _ _ rfl hM 0 rfl (rowTab _ _ rfl) (by omega) ?_; kernel_rfl) | (go_at_call 59; (with_reducible refine (l01Ok_any g hg _ _ (hM.ats 1 _ _ _ rfl)).mono ?_); rintro e W' ⟨rfl, hb'⟩; rw [Ho.out]; have hM' := hM.call hb'; clear hM hb'; have hM := hM'; clear hM') | (go_at_call 68; (with_reducible refine (l01Is_any g hg _ x y hx hy _ (hM.ats 1 _ _ _ rfl)).mono ?_); rintro e W' ⟨rfl, hb'⟩; rw [Hi.out]; have hM' := hM.call hb'; clear hM hb'; have hM := hM'; clear hM') | (go_at_call 90; refine (l05Walk_any g hg Ho.out _ bw n c x y s hn hS _ (hM.ats 1 _ _ _ rfl) (hM.ats 2 _ _ _ rfl) (hM.apart 1 2 _ _ rfl rfl (by omega))).mono ?_; rintro e W' ⟨rfl, hb'⟩; rw [Hw.out]; have hM' := hM.call hb'; clear hM hb'; have hM := hM'; clear hM'))
    go_ret
    exact ⟨ret_bool (by rw [Hp.out, Hw.out]), hM.below⟩
end Go.Proofs.YtbmaljhnldepoaaDoor

/-
  A number and a code, as results.
-/
namespace Go.Proofs.YtbmaljhnldepoaaDoor
open Go Go.RowKit

/-- A number and a code. -/
def numR (n c : Int) : Value := .tuple #[.int .i64 n, .int .i64 c]
theorem numR_eq (n c : Int) : numR n c = .tuple #[.int .i64 n, .int .i64 c] := rfl
theorem ret_num {n n' c c' : Int} (h : n = n') (h' : c = c') : Ending.returned (.tuple #[.int .i64 n, .int .i64 c]) = .returned (numR n' c') := by rw [h, h', numR_eq]
end Go.Proofs.YtbmaljhnldepoaaDoor

/-
  spec.l05Roped and spec.WindsOf by contracts.
-/
namespace Go.Proofs.YtbmaljhnldepoaaDoor
open Go Go.RowKit Go.BigFrame

def ropedC (g : Nat → Int) (s : Nat → Int × Int) (n : Nat) (x y len : Int) : Int := if askC g x y (inB 0 1000 len) = 0 then (if walkB g s n x y = true then 0 else 4) else askC g x y (inB 0 1000 len)
def windN (g : Nat → Int) (s : Nat → Int × Int) (n : Nat) (x y : Int) : Int := if ropedC g s n x y 0 = 0 then sumW (dS x y) s (n - 1) else 0

set_option maxRecDepth 100000 in
set_option maxHeartbeats 2000000 in
theorem l05Roped_any (g : Nat → Int) (hg : Fits g) (bp bw n c : Nat) (x y len : Int) (hx : -128 ≤ x ∧ x ≤ 127) (hy : -128 ≤ y ∧ y ≤ 127) (s : Nat → Int × Int) (hn : n ≤ 1048576) (hS : ∀ i, i < n → FitsS (s i)) (w : World) (hA : At w bp 122 (pas g)) (hB : At w bw (n * 2) (sps s)) (hne : bp ≠ bw) :
    Calls Tryd.prog 94 #[.pointer (some ⟨bp, 0, none⟩), .agg (arr 2 (sp x y)), .slice (some ⟨bw, 0, none⟩) n c, .int .i64 len] w fun e w' => e = .returned (.int .i64 (ropedC g s n x y len)) ∧ Below w.heap.size w w' := by
  have hM : Mem w [(bp, 122, pas g), (bw, n * 2, sps s)] w := ((Mem.nil w).old hA (fun i p h => by simp at h)).old hB (fun i p h => by
    match i, h with
    | 0, h => simp at h; rw [← h]; exact hne
    | _ + 1, h => simp at h)
  clear hA hB
  obtain ⟨f, hf⟩ : ∃ f, inB 0 1000 len = f := ⟨_, rfl⟩
  have hr : ropedC g s n x y len = if askC g x y f = 0 then (if walkB g s n x y = true then 0 else 4) else askC g x y f := by unfold ropedC; rw [hf]
  rw [hr]
  clear hr
  have Hf := Lib.hid hf
  have HA : ∀ (b : Nat) W, Mem w [(b, 2, sp x y), (bp, 122, pas g), (bw, n * 2, sps s)] W → At W bp 122 (pas g) := fun b W h => h.ats 1 _ _ _ rfl
  rcases askC_cases g x y f with ⟨ho, hc⟩ | ⟨ho, hi, hc⟩ | ⟨ho, hi, hff, hc⟩
  · rw [hc]
    have Hc := Lib.hid hc
    clear hc ho
    have tk_b1 : True := trivial
    go_enter Tryd.func94, Tryd.ntmps94
    go_wp2_with (first | (have _t := tk_b1; refine wpList_box rfl _ _ rfl _ _ rfl hM ?_; intro b1 W' hb1 hM'; clear hM tk_b1; have hM := hM'; clear hM'))
    ((try simp only [Act.put, List.setIfInBounds_toArray, List.set_cons_succ, List.set_cons_zero]); refine wp_region_mem (by kernel_rfl) (by kernel_rfl) hM ?_; clear hM; (repeat (first | go_big_quiet_skip | (go_big_quiet_want; first | (refine quiet_get _ _ rfl _ _ rfl 0 rfl (rowTab _ _ rfl) (by omega) ?_; (simp only [Act.put, List.setIfInBounds_toArray, List.set_cons_succ, List.set_cons_zero]); go_big_quiet_on) | (refine quiet_call ?_; apply Exists.intro; apply Exists.intro; apply Exists.intro; refine ⟨fun W => ?_, fun W hM => ?_, ?_⟩; (go_simp; exact ⟨rfl, rfl⟩); (with_reducible exact l00In_any len 0 1000 W); (simp only [Hf.out]); (simp only [Act.put, List.setIfInBounds_toArray, List.set_cons_succ, List.set_cons_zero]); go_big_quiet_on) | (refine quiet_call ?_; apply Exists.intro; apply Exists.intro; apply Exists.intro; refine ⟨fun W => ?_, fun W hM => ?_, ?_⟩; (go_simp; exact ⟨rfl, rfl⟩); (with_reducible exact l01Asked_any g hg bp x y hx hy f W (HA _ W hM)); (simp only [Hc.out]); (simp only [Act.put, List.setIfInBounds_toArray, List.set_cons_succ, List.set_cons_zero]); go_big_quiet_on) | (refine quiet_val ?_; apply Exists.intro; refine ⟨fun W => ?_, ?_⟩; (go_simp; rfl); (simp only [Act.put, List.setIfInBounds_toArray, List.set_cons_succ, List.set_cons_zero]); go_big_quiet_on)))); (with_reducible refine wpQuiet_nil ?_); intro W' hM)
    go_wp2
    go_ret
    exact ⟨rfl, hM.below⟩
  · rw [hc]
    have Hc := Lib.hid hc
    clear hc ho hi
    have tk_b1 : True := trivial
    go_enter Tryd.func94, Tryd.ntmps94
    go_wp2_with (first | (have _t := tk_b1; refine wpList_box rfl _ _ rfl _ _ rfl hM ?_; intro b1 W' hb1 hM'; clear hM tk_b1; have hM := hM'; clear hM'))
    ((try simp only [Act.put, List.setIfInBounds_toArray, List.set_cons_succ, List.set_cons_zero]); refine wp_region_mem (by kernel_rfl) (by kernel_rfl) hM ?_; clear hM; (repeat (first | go_big_quiet_skip | (go_big_quiet_want; first | (refine quiet_get _ _ rfl _ _ rfl 0 rfl (rowTab _ _ rfl) (by omega) ?_; (simp only [Act.put, List.setIfInBounds_toArray, List.set_cons_succ, List.set_cons_zero]); go_big_quiet_on) | (refine quiet_call ?_; apply Exists.intro; apply Exists.intro; apply Exists.intro; refine ⟨fun W => ?_, fun W hM => ?_, ?_⟩; (go_simp; exact ⟨rfl, rfl⟩); (with_reducible exact l00In_any len 0 1000 W); (simp only [Hf.out]); (simp only [Act.put, List.setIfInBounds_toArray, List.set_cons_succ, List.set_cons_zero]); go_big_quiet_on) | (refine quiet_call ?_; apply Exists.intro; apply Exists.intro; apply Exists.intro; refine ⟨fun W => ?_, fun W hM => ?_, ?_⟩; (go_simp; exact ⟨rfl, rfl⟩); (with_reducible exact l01Asked_any g hg bp x y hx hy f W (HA _ W hM)); (simp only [Hc.out]); (simp only [Act.put, List.setIfInBounds_toArray, List.set_cons_succ, List.set_cons_zero]); go_big_quiet_on) | (refine quiet_val ?_; apply Exists.intro; refine ⟨fun W => ?_, ?_⟩; (go_simp; rfl); (simp only [Act.put, List.setIfInBounds_toArray, List.set_cons_succ, List.set_cons_zero]); go_big_quiet_on)))); (with_reducible refine wpQuiet_nil ?_); intro W' hM)
    go_wp2
    go_ret
    exact ⟨rfl, hM.below⟩
  · rw [hc]
    have Hc := Lib.hid hc
    have Ho := Lib.hid ho
    clear hc ho hi hff
    cases hw : walkB g s n x y
    all_goals
      have Hw := Lib.hid hw
      clear hw
      have tk_b1 : True := trivial
      go_enter Tryd.func94, Tryd.ntmps94
      go_wp2_with (first | (have _t := tk_b1; refine wpList_box rfl _ _ rfl _ _ rfl hM ?_; intro b1 W' hb1 hM'; clear hM tk_b1; have hM := hM'; clear hM'))
      ((try simp only [Act.put, List.setIfInBounds_toArray, List.set_cons_succ, List.set_cons_zero]); refine wp_region_mem (by kernel_rfl) (by kernel_rfl) hM ?_; clear hM; (repeat (first | go_big_quiet_skip | (go_big_quiet_want; first | (refine quiet_get _ _ rfl _ _ rfl 0 rfl (rowTab _ _ rfl) (by omega) ?_; (simp only [Act.put, List.setIfInBounds_toArray, List.set_cons_succ, List.set_cons_zero]); go_big_quiet_on) | (refine quiet_call ?_; apply Exists.intro; apply Exists.intro; apply Exists.intro; refine ⟨fun W => ?_, fun W hM => ?_, ?_⟩; (go_simp; exact ⟨rfl, rfl⟩); (with_reducible exact l00In_any len 0 1000 W); (simp only [Hf.out]); (simp only [Act.put, List.setIfInBounds_toArray, List.set_cons_succ, List.set_cons_zero]); go_big_quiet_on) | (refine quiet_call ?_; apply Exists.intro; apply Exists.intro; apply Exists.intro; refine ⟨fun W => ?_, fun W hM => ?_, ?_⟩; (go_simp; exact ⟨rfl, rfl⟩); (with_reducible exact l01Asked_any g hg bp x y hx hy f W (HA _ W hM)); (simp only [Hc.out]); (simp only [Act.put, List.setIfInBounds_toArray, List.set_cons_succ, List.set_cons_zero]); go_big_quiet_on) | (refine quiet_val ?_; apply Exists.intro; refine ⟨fun W => ?_, ?_⟩; (go_simp; rfl); (simp only [Act.put, List.setIfInBounds_toArray, List.set_cons_succ, List.set_cons_zero]); go_big_quiet_on)))); (with_reducible refine wpQuiet_nil ?_); intro W' hM)
      go_wp2_with (first | (refine wpList_gget ?_ _ _ rfl _ _ rfl hM 0 rfl (rowTab _ _ rfl) (by omega) ?_; kernel_rfl) | (go_at_call 90; refine (l05Walk_any g hg Ho.out bp bw n c x y s hn hS _ (hM.ats 1 _ _ _ rfl) (hM.ats 2 _ _ _ rfl) (hM.apart 1 2 _ _ rfl rfl (by omega))).mono ?_; rintro e W' ⟨rfl, hb'⟩; rw [Hw.out]; have hM' := hM.call hb'; clear hM hb'; have hM := hM'; clear hM'))
      go_ret
      exact ⟨rfl, hM.below⟩

set_option maxRecDepth 100000 in
set_option maxHeartbeats 2000000 in
theorem specWindsOf_any (g : Nat → Int) (hg : Fits g) (bw n c : Nat) (x y : Int) (hx : -128 ≤ x ∧ x ≤ 127) (hy : -128 ≤ y ∧ y ≤ 127) (s : Nat → Int × Int) (hn : n ≤ 1048576) (hS : ∀ i, i < n → FitsS (s i)) (w : World) (hB : At w bw (n * 2) (sps s)) :
    Calls Tryd.prog 45 #[.agg (arr 122 (pas g)), .agg (arr 2 (sp x y)), .slice (some ⟨bw, 0, none⟩) n c] w fun e w' => e = .returned (numR (windN g s n x y) (ropedC g s n x y 0)) ∧ Below w.heap.size w w' := by
  have hM : Mem w [(bw, n * 2, sps s)] w := (Mem.nil w).old hB (fun i p h => by simp at h)
  clear hB
  obtain ⟨cc, hcc⟩ : ∃ cc, ropedC g s n x y 0 = cc := ⟨_, rfl⟩
  have hw : windN g s n x y = if cc = 0 then sumW (dS x y) s (n - 1) else 0 := by unfold windN; rw [hcc]
  rw [hcc, hw]
  by_cases h0 : cc = 0
  · subst h0
    have h1 : askC g x y true = 0 ∧ walkB g s n x y = true := by
      have e0 : inB 0 1000 0 = true := by decide
      unfold ropedC at hcc
      rw [e0] at hcc
      split at hcc
      · rename_i h
        split at hcc
        · rename_i h2; exact ⟨h, h2⟩
        · cases hcc
      · rename_i h; exact absurd hcc h
    have h2 : okB g = true ∧ isB g x y = true := by
      rcases askC_cases g x y true with ⟨_, h⟩ | ⟨_, _, h⟩ | ⟨a, b, _, _⟩
      · rw [h] at h1; exact absurd h1.1 (by decide)
      · rw [h] at h1; exact absurd h1.1 (by decide)
      · exact ⟨a, b⟩
    have hb := isB_bounds h2.1 h2.2
    have hl : inB 1 200 (n : Int) = true := by
      have := h1.2
      unfold walkB at this
      rw [Bool.and_eq_true, Bool.and_eq_true] at this
      exact this.1.1
    have hl2 := inB_true hl
    have Hx : Hid (0 ≤ x ∧ x ≤ 9) := Lib.hid (by omega)
    have Hy : Hid (0 ≤ y ∧ y ≤ 9) := Lib.hid (by omega)
    have hn1 : 1 ≤ n := by omega
    have hn2 : n ≤ 200 := by omega
    have Hcc := Lib.hid hcc
    clear hcc hw h1 h2 hb hl hl2
    have tk_b1 : True := trivial; have tk_b2 : True := trivial
    go_enter Tryd.func45, Tryd.ntmps45
    go_wp2_with (first | (have _t := tk_b1; refine wpList_box rfl _ _ rfl _ _ rfl hM ?_; intro b1 W' hb1 hM'; clear hM tk_b1; have hM := hM'; clear hM') | (have _t := tk_b2; refine wpList_box rfl _ _ rfl _ _ rfl hM ?_; intro b2 W' hb2 hM'; clear hM tk_b2; have hM := hM'; clear hM') | (refine wpList_get rfl _ _ rfl _ _ rfl hM 0 rfl (rowTab _ _ rfl) (by omega) ?_) | (go_at_call 94; refine (l05Roped_any g hg _ bw n c x y 0 hx hy s hn hS _ (hM.ats 1 _ _ _ rfl) (hM.ats 2 _ _ _ rfl) (hM.apart 1 2 _ _ rfl rfl (by omega))).mono ?_; rintro e W' ⟨rfl, hb'⟩; rw [Hcc.out]; have hM' := hM.call hb'; clear hM hb'; have hM := hM'; clear hM') | (go_at_call 95; refine (l05Winds_any bw n c x y Hx.out Hy.out s hn1 hn2 _ (hM.ats 2 _ _ _ rfl)).mono ?_; rintro e W' ⟨rfl, hb'⟩; have hM' := hM.call hb'; clear hM hb'; have hM := hM'; clear hM'))
    go_ret2
    exact ⟨ret_num rfl rfl, hM.below⟩
  · have hz : ¬ cc = 0 := h0
    have zb : (cc == 0) = false := by simpa using h0
    have zd : decide (cc = 0) = false := decide_eq_false h0
    rw [if_neg h0]
    have Hcc := Lib.hid hcc
    clear hcc hw h0
    have tk_b1 : True := trivial; have tk_b2 : True := trivial
    go_enter Tryd.func45, Tryd.ntmps45
    go_wp2_with (first | (have _t := tk_b1; refine wpList_box rfl _ _ rfl _ _ rfl hM ?_; intro b1 W' hb1 hM'; clear hM tk_b1; have hM := hM'; clear hM') | (have _t := tk_b2; refine wpList_box rfl _ _ rfl _ _ rfl hM ?_; intro b2 W' hb2 hM'; clear hM tk_b2; have hM := hM'; clear hM') | (refine wpList_get rfl _ _ rfl _ _ rfl hM 0 rfl (rowTab _ _ rfl) (by omega) ?_) | (go_at_call 94; refine (l05Roped_any g hg _ bw n c x y 0 hx hy s hn hS _ (hM.ats 1 _ _ _ rfl) (hM.ats 2 _ _ _ rfl) (hM.apart 1 2 _ _ rfl rfl (by omega))).mono ?_; rintro e W' ⟨rfl, hb'⟩; rw [Hcc.out]; have hM' := hM.call hb'; clear hM hb'; have hM := hM'; clear hM'))
    go_ret2
    exact ⟨ret_num rfl rfl, hM.below⟩
end Go.Proofs.YtbmaljhnldepoaaDoor

