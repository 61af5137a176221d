/-
  spec.DayBehind and impl.DayBehind by contracts.
-/
import Derived.Test.YtbbododeglkghaaDoorGrassBehindC
import Derived.Test.YtbbododeglkghaaDoorLit1
namespace Go.Proofs.YtbbododeglkghaaDoor
open Go Go.RowKit Go.BigFrame

theorem planB_one (n : Nat) (m : Int) : planB n 1 (fun _ => m) = inB 0 ((n : Int) - 1) m := by simp [planB, planTo]
theorem up_one {hs : Nat → Nat → Int} {need : Int} {m : Nat} (h : need ≤ hs m 0) : upM hs need (fun _ => (m : Int)) 1 = 1 := by
  have : canM hs need (fun _ => (m : Int)) 0 := by unfold canM; simpa [stM] using h
  exact upM_step rfl this
theorem up_none {hs : Nat → Nat → Int} {need : Int} {m : Nat} (h : ¬ need ≤ hs m 0) : ¬ upM hs need (fun _ => (m : Int)) 1 = 1 := by
  have : ¬ canM hs need (fun _ => (m : Int)) 0 := by unfold canM; simpa [stM] using h
  have := upM_stop (hs := hs) (need := need) (ys := fun _ => (m : Int)) (i := 0) rfl this 1
  rw [Nat.zero_add] at this
  omega

set_option maxRecDepth 100000 in
set_option maxHeartbeats 2000000 in
theorem specDayBehind_any (b n c : Nat) (hs : Nat → Nat → Int) (hF : ∀ i, i < n → FitsMeadow (hs i)) (hn : n ≤ 1048576) (need m : Int) (w : World) (hB : At w b (n * 3) (sMeadow hs)) :
    Calls Tryd.prog 14 #[.slice (some ⟨b, 0, none⟩) n c, .int .i64 need, .int .i64 m] w (GivesR 3 (behN n 1 hs (fun _ => m) need) (sMeadow (behV 1 hs (fun _ => m) need)) (behC n 1 hs (fun _ => m) need) w) := by
  have hM : Mem w [(b, n * 3, sMeadow hs)] w := (Mem.nil w).old hB (fun i p h => by simp at h)
  have HF := Lib.hid hF
  clear hF hB
  have hp := planB_one n m
  have HI := Lib.hid (fun W => l07Index_any (some ⟨b, 0, none⟩) n c hn m W)
  by_cases hc : meadC n hs need (planB n 1 (fun _ => m)) = 0
  case neg =>
    have Hb := Lib.hid (beh_code (n := n) (p := 1) (hs := hs) (ys := fun _ => m) (need := need) rfl hc)
    rw [hp] at hc Hb
    have d0 : decide (meadC n hs need (inB 0 ((n : Int) - 1) m) = 0) = false := decide_eq_false hc
    have Hd : Hid (meadC n hs need (inB 0 ((n : Int) - 1) m) = meadC n hs need (inB 0 ((n : Int) - 1) m)) := Lib.hid rfl
    have HA := Lib.hid (fun W hB => l07Asked_any b n c hs HF.out hn need (inB 0 ((n : Int) - 1) m) W hB)
    clear hp Hd
    generalize meadC n hs need (inB 0 ((n : Int) - 1) m) = C at *
    have tk_s1 : True := trivial
    go_enter Tryd.func14, Tryd.ntmps14
    go_wp2_with (first | (go_at_call 43; (with_reducible refine (HI.out _).mono ?_); rintro e W' ⟨rfl, hb'⟩; have hM' := hM.call hb'; clear hM hb'; have hM := hM'; clear hM') | (go_at_call 42; (with_reducible refine (HA.out _ (hM.ats 0 _ _ _ rfl)).mono ?_); rintro e W' ⟨rfl, hb'⟩; have hM' := hM.call hb'; clear hM hb'; have hM := hM'; clear hM') | (have _t := tk_s1; refine wpList_slice0 rfl _ _ rfl _ meadow_under meadow_info0 hM ?_; intro s1 W' hs1 hM'; clear hM tk_s1; have hM := hM'; clear hM'))
    go_ret2
    exact GivesR.none hM.below Hb.out.2 Hb.out.1.symm
  have Hc := Lib.hid hc
  rw [hp] at hc
  have hc' := meadC_0 hc
  have hd := inB_true hc'.2.1
  have hmi := inB_true hc'.2.2
  obtain ⟨hn6, hb⟩ := meadsB_iff hc'.1
  obtain ⟨mm, rfl⟩ : ∃ q : Nat, m = q := ⟨m.toNat, by omega⟩
  have hmn : mm < n := by omega
  have lm : (mm : Int) < n := by omega
  have em : sMeadow hs (mm * 3) = .int .i16 (hs mm 0) := sMeadow_row hs mm 0 (by omega)
  have hmb := meadB_iff (hb mm hmn)
  have cm : IntKind.i64.wrap (hs mm 0) = hs mm 0 := IntWalk.i64_in _ (by omega)
  have HA := Lib.hid (fun W hB => (l07Asked_any b n c hs HF.out hn need (inB 0 ((n : Int) - 1) mm) W hB).mono (fun e w' h => by rw [hc] at h; exact h))
  have Hb := Lib.hid hb
  by_cases he : need ≤ hs mm 0
  · have d0 : decide (hs mm 0 < need) = false := decide_eq_false (by omega)
    have Hu := Lib.hid (up_one he)
    clear hc hc' hp hmi hb hmb
    go_enter Tryd.func14, Tryd.ntmps14
    go_wp2_with (first | (go_at_call 43; (with_reducible refine (HI.out _).mono ?_); rintro e W' ⟨rfl, hb'⟩; have hM' := hM.call hb'; clear hM hb'; have hM := hM'; clear hM') | (go_at_call 42; (with_reducible refine (HA.out _ (hM.ats 0 _ _ _ rfl)).mono ?_); rintro e W' ⟨rfl, hb'⟩; have hM' := hM.call hb'; clear hM hb'; have hM := hM'; clear hM') | (refine wpList_get1 rfl _ _ rfl _ _ rfl hM 0 rfl (cellTab _ rfl) (by omega) _ em ?_) | (go_at_call 44; (with_reducible refine (l07Day_any b n c (n * 3) (sMeadow hs) hs hn6.1 hn6.2 (by omega) (fun _ _ => rfl) Hb.out need hd mm hmn he _ (hM.ats 0 _ _ _ rfl)).mono ?_); rintro e W' ⟨bL, cL, FL, rfl, hbL, hcL, hFL, hAL, hbl⟩; have hbL2 := Nat.le_trans hM.size hbL; have hM' := hM.freshQ hbl hAL hbL; clear hM hbl hAL; have hM := hM'; clear hM'))
    go_ret2
    exact beh_give Hc.out Hu.out hbL2 hcL (fun j hj => by rw [hFL j hj, Hu.out]; rfl) (hM.ats 0 _ _ _ rfl) hM.below
  · have d0 : decide (hs mm 0 < need) = true := decide_eq_true (by omega)
    have Hu := Lib.hid (up_none he)
    clear hc hc' hp hmi hb hmb
    have tk_s1 : True := trivial
    go_enter Tryd.func14, Tryd.ntmps14
    go_wp2_with (first | (go_at_call 43; (with_reducible refine (HI.out _).mono ?_); rintro e W' ⟨rfl, hb'⟩; have hM' := hM.call hb'; clear hM hb'; have hM := hM'; clear hM') | (go_at_call 42; (with_reducible refine (HA.out _ (hM.ats 0 _ _ _ rfl)).mono ?_); rintro e W' ⟨rfl, hb'⟩; have hM' := hM.call hb'; clear hM hb'; have hM := hM'; clear hM') | (refine wpList_get1 rfl _ _ rfl _ _ rfl hM 0 rfl (cellTab _ rfl) (by omega) _ em ?_) | (have _t := tk_s1; refine wpList_slice0 rfl _ _ rfl _ meadow_under meadow_info0 hM ?_; intro s1 W' hs1 hM'; clear hM tk_s1; have hM := hM'; clear hM'))
    go_ret2
    exact GivesR.none hM.below (beh_no Hc.out Hu.out).2 (beh_no Hc.out Hu.out).1.symm

theorem int64s_under : Tryd.prog.underlying 31 = some (.slice 2) := Tryd.underlying31
theorem int64_info : (Tryd.prog.info? 2).map (fun i => (i.size, i.zero)) = some (1, some (.int .i64 0)) := by kernel_rfl
set_option maxRecDepth 100000 in
set_option maxHeartbeats 2000000 in
theorem implDayBehind_any {a : Nat → Addr} (b n c : Nat) (hs : Nat → Nat → Int) (hF : ∀ i, i < n → FitsMeadow (hs i)) (hn : n ≤ 1048576) (need m : Int) (w : World) (hB : At w b (n * 3) (sMeadow hs)) (hE : Errs a w) :
    Calls Tryd.prog 16 #[.slice (some ⟨b, 0, none⟩) n c, .int .i64 need, .int .i64 m] w (GivesR 3 (behN n 1 hs (fun _ => m) need) (sMeadow (behV 1 hs (fun _ => m) need)) (behC n 1 hs (fun _ => m) need) w) := by
  have hM : Mem w [(b, n * 3, sMeadow hs)] w := (Mem.nil w).old hB (fun i p h => by simp at h)
  have HF := Lib.hid hF
  have HE := Lib.hid hE
  clear hF hB hE
  have tk_l1 : True := trivial
  go_enter Tryd.func16, Tryd.ntmps16
  go_wp2_with (first | (have _t := tk_l1; refine wpList_lit1 rfl _ _ _ rfl (.int .i64 m) rfl rfl _ int64s_under int64_info hM ?_; intro bl W' hbl hM'; clear hM tk_l1; have hM := hM'; clear hM'))
  go_at_call 27
  refine (implGrassBehind_any (a := a) b n c bl 1 1 hs (fun _ => m) HF.out hn (by omega) need _ (hM.ats 1 _ _ _ rfl) (hM.ats 0 _ _ _ rfl) (hM.apart 1 0 _ _ rfl rfl (by omega)) (HE.out.below hM.below)).mono ?_
  rintro e W' ⟨v0, rfl, hL⟩
  have HL := Lib.hid hL
  have hb' : Below w.heap.size w W' := by
    rcases hL with ⟨-, -, hb⟩ | ⟨b, c, N, F, -, -, -, -, -, hb⟩ <;> exact (hM.call hb).below
  clear hL
  go_wp2
  go_ret2
  refine ⟨_, rfl, ?_⟩
  rcases HL.out with ⟨h1, h2, -⟩ | ⟨b, c, N, F, h1, h2, h3, h4, h5, -⟩
  · exact .inl ⟨h1, h2, hb'⟩
  · exact .inr ⟨b, c, N, F, h1, Nat.le_trans hM.size h2, h3, h4, h5, hb'⟩
end Go.Proofs.YtbbododeglkghaaDoor
