/-
  Which growths are valid; spec.l04Ok by contract.
-/
import Derived.Test.YtcdpdcjdjcbhcaaDoorSpec1
import Derived.Lib.Hide
namespace Go.Proofs.YtcdpdcjdjcbhcaaDoor
open Go Go.RowKit Go.BigFrame

/-- Is a growth valid? -/
def growB (h : Nat → Int) : Bool := (List.range 11).all (fun k => inB 0 100 (h k)) && inB 0 1000 (h 11)
theorem growB_no {h : Nat → Int} {k : Nat} (hk : k < 11) (e : inB 0 100 (h k) = false) : growB h = false := by
  have : (List.range 11).all (fun k => inB 0 100 (h k)) = false := by rw [List.all_eq_false]; exact ⟨k, by simpa using hk, by rw [e]; decide⟩
  rw [growB, this]; rfl
theorem growB_tab {h : Nat → Int} (hall : ∀ k, k < 11 → inB 0 100 (h k) = true) : growB h = inB 0 1000 (h 11) := by
  have : (List.range 11).all (fun k => inB 0 100 (h k)) = true := by rw [List.all_eq_true]; intro k hk; exact hall k (by simpa using hk)
  rw [growB, this]; rfl
theorem growB_true {h : Nat → Int} (e : growB h = true) : (∀ k, k < 11 → 0 ≤ h k ∧ h k ≤ 100) ∧ 0 ≤ h 11 ∧ h 11 ≤ 1000 := by
  unfold growB at e
  rw [Bool.and_eq_true, List.all_eq_true] at e
  exact ⟨fun k hk => inB_true (e.1 k (List.mem_range.2 hk)), inB_true e.2⟩
theorem growB_iff {h : Nat → Int} : growB h = true ↔ (∀ k, k < 11 → 0 ≤ h k ∧ h k ≤ 100) ∧ 0 ≤ h 11 ∧ h 11 ≤ 1000 :=
  ⟨growB_true, fun e => by rw [growB_tab (fun k hk => inB_yes (e.1 k hk))]; exact inB_yes e.2⟩

set_option maxRecDepth 100000 in
set_option maxHeartbeats 1000000 in
theorem l04Ok_any (h : Nat → Int) (hF : FitsW h) (bp : Nat) (w : World) (hA : At w bp 12 (gro h)) :
    Calls Tryd.prog 48 #[.pointer (some ⟨bp, 0, none⟩)] w fun e w' => e = .returned (.bool (growB h)) ∧ Below w.heap.size w w' := by
  have hM : Mem w [(bp, 12, gro h)] w := (Mem.nil w).old hA (fun i p h => by simp at h)
  have HF := Lib.hid hF
  clear hF hA
  go_enter Tryd.func48, Tryd.ntmps48
  go_wp2
  go_loopw [3] (fun i wr => ∃ k : Nat, k ≤ 11 ∧ i = .int .i64 k ∧ Hid (∀ j, j < k → inB 0 100 (h j) = true) ∧ Mem w [(bp, 12, gro h)] wr) (fun i _ => 11 - (intOf i).toNat)
  case atStart => exact ⟨0, by omega, rfl, Lib.hid (fun j hj => absurd hj (by omega)), hM⟩
  case round =>
    clear hM
    obtain ⟨k, hk, rfl, hall, hM⟩ := hrel
    by_cases hlt : k < 11
    · have lk : (k : Int) < 11 := by omega
      have e0 : gro h (0 + k) = .int .i8 (h k) := by rw [Nat.zero_add]; exact gro_i8 h hlt
      have e0' : gro h k = .int .i8 (h k) := gro_i8 h hlt
      have bk := HF.out.tab k hlt
      have c0 : IntKind.i64.wrap (h k) = h k := IntWalk.i64_in _ (by omega)
      cases hB : inB 0 100 (h k)
      · have HB := Lib.hid hB
        clear hB bk
        go_wp2_with (first | (refine wpList_get1 rfl _ _ rfl _ _ rfl hM 0 rfl (cellTab _ rfl) (by omega) _ (by first | exact e0 | exact e0') ?_) | (go_at_call 93; (with_reducible refine (l00In_any _ _ _ _).mono ?_); rintro e W' ⟨rfl, hb'⟩; rw [HB.out]; have hM' := hM.call hb'; clear hM hb'; have hM := hM'; clear hM'))
        go_ret
        exact ⟨ret_bool (growB_no hlt HB.out).symm, hM.below⟩
      · have HB := Lib.hid hB
        clear hB bk
        go_wp2_with (first | (refine wpList_get1 rfl _ _ rfl _ _ rfl hM 0 rfl (cellTab _ rfl) (by omega) _ (by first | exact e0 | exact e0') ?_) | (go_at_call 93; (with_reducible refine (l00In_any _ _ _ _).mono ?_); rintro e W' ⟨rfl, hb'⟩; rw [HB.out]; have hM' := hM.call hb'; clear hM hb'; have hM := hM'; clear hM'))
        go_roundw
        case rel => exact ⟨k + 1, by omega, by go_num, Lib.hid (fun j hj => by
          by_cases e : j = k
          · rw [e]; exact HB.out
          · exact hall.out j (by omega)), hM⟩
        case measure => simp [intOf]; omega
    · obtain rfl : k = 11 := by omega
      have Hr := Lib.hid (growB_tab hall.out)
      have bl := HF.out.lim
      have c0 : IntKind.i64.wrap (h 11) = h 11 := IntWalk.i64_in _ (by omega)
      have e1 := gro_lim h
      clear bl
      go_wp2_with (first | (refine wpList_get1 rfl _ _ rfl _ _ rfl hM 0 rfl (cellTab _ rfl) (by omega) _ e1 ?_) | (go_at_call 98; (with_reducible refine (l01Grass_any _ _).mono ?_); rintro e W' ⟨rfl, hb'⟩; have hM' := hM.call hb'; clear hM hb'; have hM := hM'; clear hM'))
      go_ret
      exact ⟨ret_bool Hr.out.symm, hM.below⟩
end Go.Proofs.YtcdpdcjdjcbhcaaDoor
