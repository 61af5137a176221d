/-
  The text of a growth; spec.l04Text, GrowthText by contracts.
-/
import Derived.Test.YtcdpdcjdjcbhcaaDoorTextF
import Derived.Test.YtcdpdcjdjcbhcaaDoorGrowOk
namespace Go.Proofs.YtcdpdcjdjcbhcaaDoor
open Go Go.RowKit Go.BigFrame

def growW (h : Nat → Int) (k : Nat) : List UInt8 := numB (h k)
def growthT (h : Nat → Int) : List UInt8 := if growB h then joinT [44] (growW h) 11 ++ [32] ++ numB (h 11) else []
theorem growthT_no {h : Nat → Int} (e : growB h = false) : growthT h = [] := by unfold growthT; rw [e]; rfl
theorem growthT_yes {h : Nat → Int} (e : growB h = true) : growthT h = joinT [44] (growW h) 11 ++ [32] ++ numB (h 11) := by unfold growthT; rw [e]; rfl

set_option maxRecDepth 100000 in
set_option maxHeartbeats 4000000 in
theorem l04Text_any (h : Nat → Int) (hg : growB h = true) (bp : Nat) (w : World) (hA : At w bp 12 (gro h)) :
    Calls Tryd.prog 49 #[.pointer (some ⟨bp, 0, none⟩)] w fun e w' => e = .returned (.string (bs (growthT h))) ∧ Below w.heap.size w w' := by
  have hM : Mem w [(bp, 12, gro h)] w := (Mem.nil w).old hA (fun i p h => by simp at h)
  have HP := Lib.hid (growthT_yes hg)
  obtain ⟨ht, hl0, hl1⟩ := growB_true hg
  have HF := Lib.hid ht
  have HL := Lib.hid (show ∀ k, k ≤ 11 → (joinT [44] (growW h) k).length ≤ 200 from fun k hk => by
    have h1 := joinT_len (sep := [44]) (f := growW h) (m := 10) k (fun j hj => numB_len (by have := ht j (by omega); omega))
    have h2 : k * (10 + 1) ≤ 11 * 11 := Nat.mul_le_mul (by omega) (by omega)
    simp only [List.length_cons, List.length_nil] at h1
    omega)
  have el : gro h 11 = .int .i16 (h 11) := rfl
  have HD := Lib.hid (fun (W : World) => Decimal_any (h 11) hl0 (by omega) W)
  have lt := numB_len (n := h 11) (by omega)
  obtain ⟨t, htt⟩ : ∃ t, h 11 = t := ⟨_, rfl⟩
  obtain ⟨u, hu⟩ : ∃ u, numB t = u := ⟨_, rfl⟩
  rw [htt] at el HD lt hl0 hl1 HP
  rw [hu] at HD lt HP
  have ct : IntKind.i64.wrap t = t := IntWalk.i64_in _ (by omega)
  clear hA hg ht htt hu
  go_enter Tryd.func49, Tryd.ntmps49
  go_wp2
  go_loopw [3, 4] (fun s i wr => ∃ (k : Nat) (l : List UInt8), k ≤ 11 ∧ i = .int .i64 k ∧ s = .string (bs l) ∧ Hid (l = joinT [44] (growW h) k) ∧ Mem w [(bp, 12, gro h)] wr) (fun _ i _ => 11 - (intOf i).toNat)
  case atStart => exact ⟨0, [], by omega, rfl, rfl, Lib.hid rfl, hM⟩
  case round =>
    clear hM
    obtain ⟨k, l, hk, rfl, rfl, hl, hM⟩ := hrel
    have hll := HL.out k hk
    rw [← hl.out] at hll
    by_cases hlt : k < 11
    · have l2 : (k : Int) < 11 := by omega
      obtain ⟨d0, d1⟩ := HF.out k hlt
      have ld := numB_len (n := h k) (by omega)
      have HK := Lib.hid (fun (W : World) => Decimal_any (h k) d0 (by omega) W)
      have e0 : gro h k = .int .i8 (h k) := gro_i8 h hlt
      obtain ⟨d, hd⟩ : ∃ d, h k = d := ⟨_, rfl⟩
      obtain ⟨v, hv⟩ : ∃ v, numB d = v := ⟨_, rfl⟩
      have HW := Lib.hid (show growW h k = v from by unfold growW; rw [hd, hv])
      rw [hd] at HK ld d0 d1 e0
      rw [hv] at HK ld
      clear hd hv
      have cd : IntKind.i64.wrap d = d := IntWalk.i64_in _ (by omega)
      rcases Nat.eq_zero_or_pos k with h0 | h0
      · have dz : decide ((k : Int) > 0) = false := decide_eq_false (by omega)
        have dy : decide (0 < (k : Int)) = false := decide_eq_false (by omega)
        have dx : decide (0 < k) = false := decide_eq_false (by omega)
        have hl0' := hl.out
        rw [h0, joinT_zero] at hl0'
        have H0 := Lib.hid h0
        clear h0
        go_wp2_with (first | (refine wpList_cat rfl _ _ rfl _ _ rfl rfl (by simp only [List.length_append, List.length_cons, List.length_nil]; omega) ?_) | (refine wpList_get1 rfl _ _ rfl _ _ rfl hM 0 rfl (cellTab _ rfl) (by omega) _ e0 ?_) | (go_at_call 94; (with_reducible refine (HK.out _).mono ?_); rintro e W' ⟨rfl, hb'⟩; have hM' := hM.call hb'; clear hM hb'; have hM := hM'; clear hM'))
        go_roundw
        case rel => exact ⟨k + 1, _, by omega, by go_num, rfl, Lib.hid (by have h0 := H0.out; have hw := HW.out; subst h0; rw [joinT_one, hw]), hM⟩
        case measure => simp [intOf]; omega
      · have dz : decide ((k : Int) > 0) = true := decide_eq_true (by omega)
        have dy : decide (0 < (k : Int)) = true := decide_eq_true (by omega)
        have dx : decide (0 < k) = true := decide_eq_true (by omega)
        go_wp2_with (first | (refine wpList_cat rfl _ _ rfl _ _ rfl rfl (by simp only [List.length_append, List.length_cons, List.length_nil]; omega) ?_) | (refine wpList_get1 rfl _ _ rfl _ _ rfl hM 0 rfl (cellTab _ rfl) (by omega) _ e0 ?_) | (go_at_call 94; (with_reducible refine (HK.out _).mono ?_); rintro e W' ⟨rfl, hb'⟩; have hM' := hM.call hb'; clear hM hb'; have hM := hM'; clear hM'))
        go_roundw
        case rel => exact ⟨k + 1, _, by omega, by go_num, rfl, Lib.hid (by rw [joinT_succ _ _ h0, HW.out, ← hl.out]; simp), hM⟩
        case measure => simp [intOf]; omega
    · obtain rfl : k = 11 := by omega
      go_wp2_with (first | (refine wpList_cat rfl _ _ rfl _ _ rfl rfl (by simp only [List.length_append, List.length_cons, List.length_nil]; omega) ?_) | (refine wpList_get1 rfl _ _ rfl _ _ rfl hM 0 rfl (cellTab _ rfl) (by omega) _ el ?_) | (go_at_call 94; (with_reducible refine (HD.out _).mono ?_); rintro e W' ⟨rfl, hb'⟩; have hM' := hM.call hb'; clear hM hb'; have hM := hM'; clear hM'))
      go_ret
      exact ⟨ret_bs (by rw [HP.out, ← hl.out]; simp), hM.below⟩

set_option maxRecDepth 100000 in
theorem specGrowthText_any (h : Nat → Int) (hF : FitsW h) (w : World) :
    Calls Tryd.prog 15 #[.agg (arr 12 (gro h))] w fun e w' => e = .returned (.string (bs (growthT h))) ∧ Below w.heap.size w w' := by
  have hM := Mem.nil w
  have tk_b1 : True := trivial
  cases hz : growB h
  · have Hz := Lib.hid hz
    have Hp := Lib.hid (growthT_no hz)
    clear hz
    go_enter Tryd.func15, Tryd.ntmps15
    go_wp2_with (first | (have _t := tk_b1; refine wpList_box rfl _ _ rfl _ _ rfl hM ?_; intro b1 W' hb1 hM'; clear hM tk_b1; have hM := hM'; clear hM') | (go_at_call 48; (with_reducible refine (l04Ok_any h hF b1 _ (hM.ats 0 _ _ _ rfl)).mono ?_); rintro e W' ⟨rfl, hb'⟩; rw [Hz.out]; have hM' := hM.call hb'; clear hM hb'; have hM := hM'; clear hM'))
    go_ret
    exact ⟨ret_bs Hp.out.symm, hM.below⟩
  · have Hz := Lib.hid hz
    clear hz
    go_enter Tryd.func15, Tryd.ntmps15
    go_wp2_with (first | (have _t := tk_b1; refine wpList_box rfl _ _ rfl _ _ rfl hM ?_; intro b1 W' hb1 hM'; clear hM tk_b1; have hM := hM'; clear hM') | (go_at_call 48; (with_reducible refine (l04Ok_any h hF b1 _ (hM.ats 0 _ _ _ rfl)).mono ?_); rintro e W' ⟨rfl, hb'⟩; rw [Hz.out]; have hM' := hM.call hb'; clear hM hb'; have hM := hM'; clear hM') | (go_at_call 49; (with_reducible refine (l04Text_any h Hz.out b1 _ (hM.ats 0 _ _ _ rfl)).mono ?_); rintro e W' ⟨rfl, hb'⟩; have hM' := hM.call hb'; clear hM hb'; have hM := hM'; clear hM'))
    go_ret
    exact ⟨rfl, hM.below⟩
end Go.Proofs.YtcdpdcjdjcbhcaaDoor
