/-
  Several texts in one: ReadGrowth.
-/
import Derived.Test.YtaaphdbaocjecaaDoorP12
import Derived.Test.YtaaphdbaocjecaaDoorP2
/-
  laws.FnExactReadGrowth returns true.
-/
namespace Go.Proofs.YtaaphdbaocjecaaDoor
open Go Go.RowKit Go.BigFrame Go.ChangeShapes Go.WideShapes Go.Deep

def gro8 (f : Nat → Int) : Nat → Value := fun k => .int .i8 (f k)
set_option maxHeartbeats 400000 in
theorem eqInt8A11_same (f : Nat → Int) (w : World) :
    Calls Tryd.prog 18 #[.agg (arr 11 (gro8 f)), .agg (arr 11 (gro8 f))] w fun e w' => e = .returned (.bool true) ∧ Below w.heap.size w w' := by
  have hM := Mem.nil w
  have tk_b1 : True := trivial; have tk_b2 : True := trivial
  go_enter Tryd.func18, Tryd.ntmps18
  go_wp2_with (first | (have _t := tk_b1; refine wpList_box rfl _ _ rfl _ _ rfl hM ?_; intro b1 W' hb1 hM'; clear hM tk_b1; have hM := hM'; clear hM') | (have _t := tk_b2; refine wpList_box rfl _ _ rfl _ _ rfl hM ?_; intro b2 W' hb2 hM'; clear hM tk_b2; have hM := hM'; clear hM'))
  go_loopw [5] (fun i wr => ∃ k : Nat, k ≤ 11 ∧ i = .int .i64 k ∧ Mem w [(b2, 11, gro8 f), (b1, 11, gro8 f)] wr) (fun i _ => 11 - (intOf i).toNat)
  case atStart => exact ⟨0, by omega, rfl, hM⟩
  case round =>
    clear hM
    obtain ⟨k, hk, rfl, hM⟩ := hrel
    by_cases hlt : k < 11
    · go_wp2
      ((try simp only [Act.put, List.setIfInBounds_toArray, List.set_cons_succ, List.set_cons_zero]); refine wp_region_mem (by kernel_rfl) (by kernel_rfl) hM ?_; clear hM; (repeat (first | go_big_quiet_skip | (go_big_quiet_want; first | (refine quiet_get1 _ _ rfl _ _ rfl 1 rfl (cellTab _ rfl) (by omega) _ rfl ?_; (simp only [Act.put, List.setIfInBounds_toArray, List.set_cons_succ, List.set_cons_zero]); go_big_quiet_on) | (refine quiet_get1 _ _ rfl _ _ rfl 0 rfl (cellTab _ rfl) (by omega) _ rfl ?_; (simp only [Act.put, List.setIfInBounds_toArray, List.set_cons_succ, List.set_cons_zero]); go_big_quiet_on) | (refine quiet_val ?_; apply Exists.intro; refine ⟨fun W => ?_, ?_⟩; (go_simp; rfl); (simp only [Act.put, List.setIfInBounds_toArray, List.set_cons_succ, List.set_cons_zero]); go_big_quiet_on)))); (with_reducible refine wpQuiet_nil ?_); intro W' hM)
      go_wp2
      go_roundw
      case rel => exact ⟨k + 1, by omega, by go_num, hM⟩
      case measure => simp [intOf]; omega
    · obtain rfl : k = 11 := by omega
      go_wp2
      go_ret
      exact ⟨rfl, hM.below⟩
theorem gro_tab (g : Nat → Int) : arr 11 (fun k => gro g (0 + k)) = arr 11 (gro8 g) := arr_congr fun k hk => by rw [Nat.zero_add]; exact gro_i8 g hk
theorem eqGrowth_same (g : Nat → Int) (w : World) :
    Calls Tryd.prog 7 #[.agg (arr 12 (gro g)), .agg (arr 12 (gro g))] w fun e w' => e = .returned (.bool true) ∧ Below w.heap.size w w' := by
  have hM := Mem.nil w
  have eg := gro_tab g
  have tk_b1 : True := trivial; have tk_b2 : True := trivial; have tk_r1 : True := trivial; have tk_r2 : True := trivial; have tk_r3 : True := trivial; have tk_r4 : True := trivial
  go_enter Tryd.func7, Tryd.ntmps7
  go_wp2_with (first | (have _t := tk_b1; refine wpList_box rfl _ _ rfl _ _ rfl hM ?_; intro b1 W' hb1 hM'; clear hM tk_b1; have hM := hM'; clear hM') | (have _t := tk_b2; refine wpList_box rfl _ _ rfl _ _ rfl hM ?_; intro b2 W' hb2 hM'; clear hM tk_b2; have hM := hM'; clear hM') | (have _t := tk_r1; (refine wpList_get rfl _ _ rfl _ _ rfl hM 1 rfl (rowTab _ _ rfl) (by omega) ?_); rw [eg]; clear tk_r1) | (have _t := tk_r2; (refine wpList_get rfl _ _ rfl _ _ rfl hM 0 rfl (rowTab _ _ rfl) (by omega) ?_); rw [eg]; clear tk_r2) | (go_at_call 18; refine (eqInt8A11_same g _).mono ?_; rintro e W' ⟨rfl, hb'⟩; have hM' := hM.call hb'; clear hM hb'; have hM := hM'; clear hM') | (have _t := tk_r3; (refine wpList_get1 rfl _ _ rfl _ _ rfl hM 1 rfl (cellTab _ rfl) (by omega) _ (gro_lim g) ?_); clear tk_r3) | (have _t := tk_r4; (refine wpList_get1 rfl _ _ rfl _ _ rfl hM 0 rfl (cellTab _ rfl) (by omega) _ (gro_lim g) ?_); clear tk_r4))
  go_ret
  exact ⟨rfl, hM.below⟩
theorem readG_one (l : List UInt8) : ∃ g c, ∀ w e w', ReadG l w e w' → e = .returned (.tuple #[.agg (arr 12 (gro g)), .int .i64 c]) ∧ Below w.heap.size w w' := by
  by_cases h : ∃ g, TellsG l g
  · obtain ⟨g, k⟩ := h
    refine ⟨g, 0, ?_⟩
    rintro w e w' ⟨f, c, rfl, ⟨h1, rfl⟩ | ⟨-, -, h1⟩, hb⟩
    · have hu := h1.uniq k
      rw [show arr 12 (gro f) = arr 12 (gro g) from arr_congr fun j hj => by unfold gro; rw [hu j hj]]
      exact ⟨rfl, hb⟩
    · exact absurd k (h1 g)
  · refine ⟨fun _ => 0, 5, ?_⟩
    rintro w e w' ⟨f, c, rfl, ⟨h1, rfl⟩ | ⟨h1, rfl, -⟩, hb⟩
    · exact absurd ⟨_, h1⟩ h
    · rw [show arr 12 (gro f) = arr 12 (gro fun _ => 0) from arr_congr fun j hj => by unfold gro; rw [h1 j hj]]
      exact ⟨rfl, hb⟩
set_option maxRecDepth 100000 in
set_option maxHeartbeats 8000000 in
theorem lawReadGrowth_any {a : Nat → Addr} (s : ByteArray) (hs : s.size ≤ maxLen) (w : World) (hE : RdEnv a w) :
    Calls Tryd.prog 3 #[.string s] w fun e w' => e = .returned (.bool true) ∧ Below w.heap.size w w' := by
  have hM := Mem.nil w
  have HE := Lib.hid hE
  clear hE
  by_cases h1 : 1048576 < s.size
  · have z1 : decide ((1048576 : Int) < s.size) = true := decide_eq_true (by omega)
    have z2 : decide ((s.size : Int) > 1048576) = true := decide_eq_true (by omega)
    go_enter Tryd.func3, Tryd.ntmps3
    go_wp2
    go_ret
    exact ⟨rfl, hM.below⟩
  have z1 : decide ((1048576 : Int) < s.size) = false := decide_eq_false (by omega)
  have z2 : decide ((s.size : Int) > 1048576) = false := decide_eq_false (by omega)
  obtain ⟨l, hl⟩ : ∃ l, l = s.data.toList := ⟨_, rfl⟩
  have el : s = bs l := by rw [hl]; exact (bs_back s).symm
  have hlen : l.length ≤ 1048576 := by rw [← bs_size, ← el]; omega
  obtain ⟨g, CC, hK⟩ := readG_one l
  have hS : ∀ W, Calls Tryd.prog 5 #[.string s] W fun e w' => e = .returned (.tuple #[.agg (arr 12 (gro g)), .int .i64 CC]) ∧ Below W.heap.size W w' := fun W => by
    rw [el]; exact (specReadGrowth_any l hlen W).mono (fun e w' h => hK W e w' h)
  have hI : ∀ W, RdEnv a W → Calls Tryd.prog 6 #[.string s] W fun e w' => e = .returned (.tuple #[.agg (arr 12 (gro g)), .int .i64 CC]) ∧ Below W.heap.size W w' := fun W hE => by
    rw [el]; exact (implReadGrowth_any l hlen W hE).mono (fun e w' h => hK W e w' h)
  have HS := Lib.hid hS
  have HI := Lib.hid hI
  have eg : arr 12 (fun j => gro g (0 + j)) = arr 12 (gro g) := arr_congr fun j hj => by rw [Nat.zero_add]
  clear hS hI hK hl el hlen h1
  have tk_b3 : True := trivial; have tk_y3 : True := trivial; have tk_b5 : True := trivial; have tk_y5 : True := trivial; have tk_g1 : True := trivial; have tk_g2 : True := trivial
  go_enter Tryd.func3, Tryd.ntmps3
  go_wp2_with (first | (go_at_call 5; refine (HS.out _).mono ?_; rintro e W' ⟨rfl, hb'⟩; have hM' := hM.call hb'; clear hM hb'; have hM := hM'; clear hM') | (go_at_call 6; refine (HI.out _ (HE.out.below hM.below)).mono ?_; rintro e W' ⟨rfl, hb'⟩; have hM' := hM.call hb'; clear hM hb'; have hM := hM'; clear hM') | (have _t := tk_b3; refine wpList_zero rfl _ rfl (zeroTab _ _ _ rfl) hM ?_; intro b3 W' hb3 hM'; clear hM tk_b3; have hM := hM'; clear hM') | (have _t := tk_y3; (refine wpList_lay rfl _ _ _ rfl _ _ rfl _ _ rfl hM 0 rfl (by assumption) (rowTab _ _ rfl) (by omega) (fun _ _ => rfl) ?_; intro W' hM'; clear hM; have hM := hM'.re 0 rfl (gro g) (fun j hj => by simp [lay, hj]); clear hM'; simp only [List.set_cons_zero] at hM); clear tk_y3) | (have _t := tk_b5; refine wpList_zero rfl _ rfl (zeroTab _ _ _ rfl) hM ?_; intro b5 W' hb5 hM'; clear hM tk_b5; have hM := hM'; clear hM') | (have _t := tk_g1; (refine wpList_get rfl _ _ rfl _ _ rfl hM 0 rfl (rowTab _ _ rfl) (by omega) ?_); rw [eg]; clear tk_g1) | (have _t := tk_g2; (refine wpList_get rfl _ _ rfl _ _ rfl hM 1 rfl (rowTab _ _ rfl) (by omega) ?_); rw [eg]; clear tk_g2) | (go_at_call 7; refine (eqGrowth_same g _).mono ?_; rintro e W' ⟨rfl, hb'⟩; have hM' := hM.call hb'; clear hM hb'; have hM := hM'; clear hM') | (have _t := tk_y5; (refine wpList_lay rfl _ _ _ rfl _ _ rfl _ _ rfl hM 0 rfl (by assumption) (rowTab _ _ rfl) (by omega) (fun _ _ => rfl) ?_; intro W' hM'; clear hM; have hM := hM'.re 0 rfl (gro g) (fun j hj => by simp [lay, hj]); clear hM'; simp only [List.set_cons_zero] at hM); clear tk_y5))
  go_ret
  exact ⟨rfl, hM.below⟩
end Go.Proofs.YtaaphdbaocjecaaDoor

