/-
  Several texts in one: GreedyC, FirstC, LastFound.
-/
import Derived.Test.YtbbododeglkghaaDoorP7
import Derived.Test.YtbbododeglkghaaDoorP5
import Derived.Test.YtbbododeglkghaaDoorP6
import Derived.Test.YtbbododeglkghaaDoorP3
import Derived.Test.YtbbododeglkghaaDoorP2
/-
  spec.GreedyPlan and impl.GreedyPlan by contracts.
-/
namespace Go.Proofs.YtbbododeglkghaaDoor
open Go Go.RowKit Go.BigFrame

/-- What GreedyPlan answers. -/
def grdC (n : Nat) (hs : Nat → Nat → Int) (need days : Int) : Int := if meadC n hs need (inB 0 30 days) = 0 then (if (grL need n days.toNat hs).length = days.toNat then 0 else 6) else meadC n hs need (inB 0 30 days)
def grdL (n : Nat) (hs : Nat → Nat → Int) (need days : Int) : List Int := if grdC n hs need days = 0 then natI (grL need n days.toNat hs) else []
def GivesG (n : Nat) (hs : Nat → Nat → Int) (need days : Int) (w : World) (e : Ending) (w' : World) : Prop := GivesR 1 (grdL n hs need days).length (vI (grdL n hs need days)) (grdC n hs need days) w e w'
theorem grd_no {n : Nat} {hs : Nat → Nat → Int} {need days C : Int} (h : meadC n hs need (inB 0 30 days) = C) (hC : C ≠ 0) : grdC n hs need days = C ∧ grdL n hs need days = [] := by
  have h1 : grdC n hs need days = C := by unfold grdC; rw [h, if_neg hC]
  exact ⟨h1, by unfold grdL; rw [h1, if_neg hC]⟩
theorem grd_short {n d : Nat} {hs : Nat → Nat → Int} {need : Int} (h : meadC n hs need (inB 0 30 (d : Int)) = 0) (hl : ¬ (grL need n d hs).length = d) : grdC n hs need (d : Int) = 6 ∧ grdL n hs need (d : Int) = [] := by
  have h1 : grdC n hs need d = 6 := by unfold grdC; rw [if_pos h, Int.toNat_natCast, if_neg hl]
  exact ⟨h1, by unfold grdL; rw [h1, if_neg (by omega)]⟩
theorem grd_yes {n d : Nat} {hs : Nat → Nat → Int} {need : Int} (h : meadC n hs need (inB 0 30 (d : Int)) = 0) (hl : (grL need n d hs).length = d) : grdC n hs need (d : Int) = 0 ∧ grdL n hs need (d : Int) = natI (grL need n d hs) := by
  have h1 : grdC n hs need d = 0 := by unfold grdC; rw [if_pos h, Int.toNat_natCast, if_pos hl]
  exact ⟨h1, by unfold grdL; rw [h1, if_pos rfl, Int.toNat_natCast]⟩
theorem givesG_none {n : Nat} {hs : Nat → Nat → Int} {need days C : Int} (h : grdC n hs need days = C ∧ grdL n hs need days = []) {w W : World} (hb : Below w.heap.size w W) {a : Option Addr} {c : Nat} : GivesG n hs need days w (.returned (.tuple #[.slice a 0 c, .int .i64 C])) W := by
  unfold GivesG
  rw [h.1, h.2]
  exact ⟨_, rfl, .inl ⟨rfl, ⟨a, c, rfl⟩, hb⟩⟩
theorem givesG_some {n : Nat} {hs : Nat → Nat → Int} {need days : Int} {l : List Nat} (h : grdC n hs need days = 0 ∧ grdL n hs need days = natI l) {w W : World} {v : Value} (hL : NewL 1 l.length (vI (natI l)) w v W) : GivesG n hs need days w (.returned (.tuple #[v, .int .i64 0])) W := by
  unfold GivesG
  rw [h.1, h.2, natI_len]
  exact ⟨v, rfl, hL⟩

set_option maxRecDepth 100000 in
set_option maxHeartbeats 4000000 in
theorem specGreedyPlan_l (b n c : Nat) (hs : Nat → Nat → Int) (hF : ∀ i, i < n → FitsMeadow (hs i)) (hn : n ≤ 1048576) (need days : Int) (w : World) (hB : At w b (n * 3) (sMeadow hs)) :
    Calls Tryd.prog 34 #[.slice (some ⟨b, 0, none⟩) n c, .int .i64 need, .int .i64 days] w (GivesG n hs need days w) := by
  have hM : Mem w [(b, n * 3, sMeadow hs)] w := (Mem.nil w).old hB (fun i p h => by simp at h)
  have HF := Lib.hid hF
  clear hF hB
  have hda : ∀ W, Calls Tryd.prog 51 #[.int .i64 days] W fun e w' => e = .returned (.bool (inB 0 30 days)) ∧ Below W.heap.size W w' := fun W => by
    have hM := Mem.nil W
    go_enter Tryd.func51, Tryd.ntmps51
    go_wp2_with (first | (go_at_call 55; (with_reducible refine (l00In_any days 0 30 _).mono ?_); rintro e W' ⟨rfl, hb'⟩; have hM' := hM.call hb'; clear hM hb'; have hM := hM'; clear hM'))
    go_ret
    exact ⟨ret_bool (a := inB 0 30 days) rfl, hM.below⟩
  have Hda := Lib.hid hda
  clear hda
  by_cases hc : meadC n hs need (inB 0 30 days) = 0
  case neg =>
    have Hb := Lib.hid (grd_no (days := days) rfl hc)
    have d0 : decide (meadC n hs need (inB 0 30 days) = 0) = false := decide_eq_false hc
    have HA := Lib.hid (fun W hB => l07Asked_any b n c hs HF.out hn need (inB 0 30 days) W hB)
    generalize meadC n hs need (inB 0 30 days) = C at *
    have tk_s1 : True := trivial
    go_enter Tryd.func34, Tryd.ntmps34
    go_wp2_with (first | (go_at_call 51; (with_reducible refine (Hda.out _).mono ?_); rintro e W' ⟨rfl, hb'⟩; have hM' := hM.call hb'; clear hM hb'; have hM := hM'; clear hM') | (go_at_call 42; (with_reducible refine (HA.out _ (hM.ats 0 _ _ _ rfl)).mono ?_); rintro e W' ⟨rfl, hb'⟩; have hM' := hM.call hb'; clear hM hb'; have hM := hM'; clear hM') | (have _t := tk_s1; refine wpList_slice0 rfl _ _ rfl _ int64s_underR int64_info0 hM ?_; intro s1 W' hs1 hM'; clear hM tk_s1; have hM := hM'; clear hM'))
    go_ret2
    exact givesG_none Hb.out hM.below
  have hc' := meadC_0 hc
  have hne := inB_true hc'.2.1
  have hdd := inB_true hc'.2.2
  obtain ⟨hn6, hmb⟩ := meadsB_iff hc'.1
  obtain ⟨d, rfl⟩ : ∃ d : Nat, days = d := ⟨days.toNat, by omega⟩
  have hd30 : d ≤ 30 := by omega
  have HA := Lib.hid (fun W hB => (l07Asked_any b n c hs HF.out hn need (inB 0 30 (d : Int)) W hB).mono (fun e w' h => by rw [hc] at h; exact h))
  have HG := Lib.hid (fun W hB => l07Greedy_any b n c hs hn6.1 hn6.2 hmb need hne d hd30 W hB)
  have hlen := grL_len need n d hs
  by_cases hl : (grL need n d hs).length = d
  · have Hb := Lib.hid (grd_yes hc hl)
    have d1 : decide (((grL need n d hs).length : Int) < d) = false := decide_eq_false (by omega)
    have d2 : decide ((grL need n d hs).length < d) = false := decide_eq_false (by omega)
    have d3 : ¬ (grL need n d hs).length < d := by omega
    clear hc hc' hl hlen hmb
    generalize grL need n d hs = l at *
    go_enter Tryd.func34, Tryd.ntmps34
    go_wp2_with (first | (go_at_call 51; (with_reducible refine (Hda.out _).mono ?_); rintro e W' ⟨rfl, hb'⟩; have hM' := hM.call hb'; clear hM hb'; have hM := hM'; clear hM') | (go_at_call 42; (with_reducible refine (HA.out _ (hM.ats 0 _ _ _ rfl)).mono ?_); rintro e W' ⟨rfl, hb'⟩; have hM' := hM.call hb'; clear hM hb'; have hM := hM'; clear hM') | (go_at_call 59; (with_reducible refine (HG.out _ (hM.ats 0 _ _ _ rfl)).mono ?_); rintro e W' ⟨bN, cN, FN, rfl, hbN, hcN, hFN, hAN, hbl⟩; have hbN2 := Nat.le_trans hM.size hbN; have hM' := hM.freshQ hbl hAN hbN; clear hM hbl hAN; have hM := hM'; clear hM'))
    go_ret2
    exact givesG_some Hb.out (.inr ⟨bN, cN, _, FN, rfl, hbN2, Nat.mul_le_mul_right _ hcN, hFN, hM.at0, hM.below⟩)
  · have Hb := Lib.hid (grd_short hc hl)
    have d1 : decide (((grL need n d hs).length : Int) < d) = true := decide_eq_true (by omega)
    have d2 : decide ((grL need n d hs).length < d) = true := decide_eq_true (by omega)
    have d3 : (grL need n d hs).length < d := by omega
    clear hc hc' hl hlen hmb
    generalize grL need n d hs = l at *
    have tk_s1 : True := trivial
    go_enter Tryd.func34, Tryd.ntmps34
    go_wp2_with (first | (go_at_call 51; (with_reducible refine (Hda.out _).mono ?_); rintro e W' ⟨rfl, hb'⟩; have hM' := hM.call hb'; clear hM hb'; have hM := hM'; clear hM') | (go_at_call 42; (with_reducible refine (HA.out _ (hM.ats 0 _ _ _ rfl)).mono ?_); rintro e W' ⟨rfl, hb'⟩; have hM' := hM.call hb'; clear hM hb'; have hM := hM'; clear hM') | (have _t := tk_s1; refine wpList_slice0 rfl _ _ rfl _ int64s_underR int64_info0 hM ?_; intro s1 W' hs1 hM'; clear hM tk_s1; have hM := hM'; clear hM') | (go_at_call 59; (with_reducible refine (HG.out _ (hM.ats 0 _ _ _ rfl)).mono ?_); rintro e W' ⟨bN, cN, FN, rfl, hbN, hcN, hFN, hAN, hbl⟩; have hM' := hM.freshQ hbl hAN hbN; clear hM hbl hAN; have hM := hM'; clear hM'))
    go_ret2
    exact givesG_none Hb.out hM.below

set_option maxRecDepth 100000 in
theorem is_nil (v : Addr) (w : World) : Calls Tryd.prog 72 #[.nilIface, errV v] w fun e w' => e = .returned (.bool false) ∧ w = w' := by
  have heq : ∀ p (w : World), (binOp .eql 67 .nilIface (.iface 136 p)).run Tryd.prog w = .ok (.bool false) w := fun p w => by kernel_rfl
  unfold errV
  go_enter Tryd.func72, Tryd.ntmps72
  go_wp2
  go_ret
  exact ⟨rfl, rfl⟩

set_option maxRecDepth 100000 in
set_option maxHeartbeats 4000000 in
theorem codeOf_nil {a : Nat → Addr} {w : World} (h : Errs a w) :
    Calls Tryd.prog 50 #[.nilIface] w fun e w' => e = .returned (.int .i64 0) ∧ w = w' := by
  have v0 : w.cell? ⟨0, 0, none⟩ = some (errV (a 0)) := h.vars 0 (by omega)
  have v1 : w.cell? ⟨1, 0, none⟩ = some (errV (a 1)) := h.vars 1 (by omega)
  have v5 : w.cell? ⟨2, 0, none⟩ = some (errV (a 5)) := h.vars 5 (by omega)
  have v2 : w.cell? ⟨3, 0, none⟩ = some (errV (a 2)) := h.vars 2 (by omega)
  have v3 : w.cell? ⟨4, 0, none⟩ = some (errV (a 3)) := h.vars 3 (by omega)
  have v4 : w.cell? ⟨5, 0, none⟩ = some (errV (a 4)) := h.vars 4 (by omega)
  have v6 : w.cell? ⟨6, 0, none⟩ = some (errV (a 6)) := h.vars 6 (by omega)
  clear h
  go_enter Tryd.func50, Tryd.ntmps50
  go_wp2_with (first | (go_at_call 72; (with_reducible refine (is_nil _ _).mono ?_); rintro e W' ⟨rfl, rfl⟩))
  go_ret
  exact ⟨rfl, rfl⟩

theorem run_searchR (need : Int) (B : Nat) (W : World) : (Instr.build 90 #[(0, liveV need), (1, .func (.func 60) #[] #[]), (2, .int .i64 (B : Int))]).run Tryd.prog W = .ok (.agg (arr 4 (srchVR need B 0))) W := by
  kernel_rfl
theorem wpList_searchR {ops : Array Oper} {rest : List Oper} {o : Oper} {a : Act} {W : World} {Q : Exit → Act → World → Prop} (hgd : o.guard = none) (x y z : Operand) (ho : o.op = .build 90 #[(0, x), (1, y), (2, z)]) (need : Int) (B : Nat) (hx : a.eval x = liveV need) (hy : a.eval y = .func (.func 60) #[] #[]) (hz : a.eval z = .int .i64 (B : Int))
    (h : wpList Tryd.prog ops Q rest (a.put o.dst (.agg (arr 4 (srchVR need B 0)))) W) : wpList Tryd.prog ops Q (o :: rest) a W := by
  refine wpList_plain hgd fun K hK => ?_
  unfold Oper.wp execOp
  have e : (Array.map (fun (z : Nat × Operand) => match z with | (i, x) => (i, a.eval x)) #[(0, x), (1, y), (2, z)]) = #[(0, liveV need), (1, .func (.func 60) #[] #[]), (2, .int .i64 (B : Int))] := by simp [hx, hy, hz]
  simp only [ho, e, Sem.run_bind, Sem.run_pure, run_searchR, Result.andThen_ok]
  exact hK _ _ h
def zSearch : Nat → Value := fun k => if k < 2 then .nilFunc else .int .i64 0
theorem zeroSearch : (Tryd.prog.info? 90).map (·.zero) = some (some (.agg (arr 4 zSearch))) := by kernel_rfl
theorem rowSearch : RowT Tryd.prog 90 4 := ⟨⟨_, Tryd.underlying90, rfl⟩, by kernel_rfl⟩

theorem srchR_one (need : Int) (B t : Nat) : ∀ k, k < 4 → (srchVR need B t k).oneCell' = true := fun k hk => by
  rcases (show k = 0 ∨ k = 1 ∨ k = 2 ∨ k = 3 by omega) with rfl | rfl | rfl | rfl <;> rfl
theorem Lst.newK {w : World} {K : Blocks} {m n : Nat} {v : Value} {R : Nat → Value} {W : World} (h : Lst w K m v n R W) : NewL m n R w v W := by
  rcases h with ⟨h1, h2, h⟩ | ⟨b, c, F, h1, h2, h3, h4, h⟩
  · exact .inl ⟨h2, ⟨none, 0, h1⟩, h.below⟩
  · exact .inr ⟨b, c, _, F, h1, h2, Nat.mul_le_mul_right _ h3, h4, h.at0, h.below⟩
theorem Lst.below {w : World} {K : Blocks} {m n : Nat} {v : Value} {R : Nat → Value} {W : World} (h : Lst w K m v n R W) : Below w.heap.size w W := by
  rcases h with ⟨h1, h2, h⟩ | ⟨b, c, F, h1, h2, h3, h4, h⟩ <;> exact h.below

set_option maxRecDepth 100000 in
set_option maxHeartbeats 8000000 in
theorem implGreedyPlan_l {a : Nat → Addr} (b n c : Nat) (hs : Nat → Nat → Int) (hF : ∀ i, i < n → FitsMeadow (hs i)) (hn : n ≤ 1048576) (need days : Int) (w : World) (hB : At w b (n * 3) (sMeadow hs)) (hE : Errs a w) :
    Calls Tryd.prog 35 #[.slice (some ⟨b, 0, none⟩) n c, .int .i64 need, .int .i64 days] w (GivesG n hs need days w) := by
  have hM : Mem w [(b, n * 3, sMeadow hs)] w := (Mem.nil w).old hB (fun i p h => by simp at h)
  have HF := Lib.hid hF
  have HE := Lib.hid hE
  clear hF hB hE
  rcases meadC_cases n hs need (inB 0 30 days) with ⟨hm, hc⟩ | ⟨hm, hd, hc⟩ | ⟨hm, hd, hr, hc⟩ | ⟨hm, hd, hr, hc⟩
  · have Hb := Lib.hid (grd_no (days := days) hc (by omega))
    have Hm := Lib.hid hm
    clear hm hc
    go_enter Tryd.func35, Tryd.ntmps35
    go_wp2_with (first | (go_at_call 53; (with_reducible refine (seasonOf_0 b (n * 3) n c (sMeadow hs) hs (Nat.le_refl _) (fun _ _ => rfl) HF.out hn need _ (hM.ats 0 _ _ _ rfl) (HE.out.below hM.below) Hm.out).mono ?_); rintro e W' ⟨rfl, hb'⟩; have hM' := hM.call hb'; clear hM hb'; have hM := hM'; clear hM') | (go_at_call 50; (with_reducible refine (codeOf_0 (HE.out.below hM.below)).mono ?_); rintro e W' ⟨rfl, rfl⟩))
    go_ret2
    exact givesG_none Hb.out hM.below
  · have Hb := Lib.hid (grd_no (days := days) hc (by omega))
    have Hm := Lib.hid hm
    have Hd := Lib.hid hd
    clear hm hc hd
    go_enter Tryd.func35, Tryd.ntmps35
    go_wp2_with (first | (go_at_call 53; (with_reducible refine (seasonOf_1 b (n * 3) n c (sMeadow hs) hs (Nat.le_refl _) (fun _ _ => rfl) HF.out hn need _ (hM.ats 0 _ _ _ rfl) (HE.out.below hM.below) Hm.out Hd.out).mono ?_); rintro e W' ⟨rfl, hb'⟩; have hM' := hM.call hb'; clear hM hb'; have hM := hM'; clear hM') | (go_at_call 50; (with_reducible refine (codeOf_1 (HE.out.below hM.below)).mono ?_); rintro e W' ⟨rfl, rfl⟩))
    go_ret2
    exact givesG_none Hb.out hM.below
  · have Hb := Lib.hid (grd_no (days := days) hc (by omega))
    have Hm := Lib.hid hm
    have Hd := Lib.hid hd
    have Hr := Lib.hid hr
    clear hm hc hd hr
    go_enter Tryd.func35, Tryd.ntmps35
    go_wp2_with (first | (go_at_call 53; (with_reducible refine (seasonOf_ok b (n * 3) n c (sMeadow hs) hs (Nat.le_refl _) (fun _ _ => rfl) HF.out hn need _ (hM.ats 0 _ _ _ rfl) (HE.out.below hM.below) Hm.out Hd.out).mono ?_); rintro e W' ⟨rfl, hb'⟩; have hM' := hM.call hb'; clear hM hb'; have hM := hM'; clear hM') | (go_at_call 54; (with_reducible refine (checkUpTo_no days 30 _ (HE.out.below hM.below) Hr.out).mono ?_); rintro e W' ⟨rfl, hb'⟩; have hM' := hM.call hb'; clear hM hb'; have hM := hM'; clear hM') | (go_at_call 50; (with_reducible refine (codeOf_1 (HE.out.below hM.below)).mono ?_); rintro e W' ⟨rfl, rfl⟩))
    go_ret2
    exact givesG_none Hb.out hM.below
  have hdd := inB_true hr
  have hne := inB_true hd
  obtain ⟨hn6, hmb⟩ := meadsB_iff hm
  obtain ⟨d, rfl⟩ : ∃ d : Nat, days = d := ⟨days.toNat, by omega⟩
  have hd30 : d ≤ 30 := by omega
  have hd2 : d ≤ 20000 := by omega
  have Hm := Lib.hid hm
  have Hd := Lib.hid hd
  have Hr := Lib.hid hr
  have Hmb := Lib.hid hmb
  have Hgo := Lib.hid (goS_gr need d n d hs 0 (by omega))
  have Hc := Lib.hid hc
  clear hc hm hd hr hmb
  have tk_z1 : True := trivial; have tk_y1 : True := trivial
  go_enter Tryd.func35, Tryd.ntmps35
  go_wp2_with (first | (go_at_call 53; (with_reducible refine (seasonOf_ok b (n * 3) n c (sMeadow hs) hs (Nat.le_refl _) (fun _ _ => rfl) HF.out hn need _ (hM.ats 0 _ _ _ rfl) (HE.out.below hM.below) Hm.out Hd.out).mono ?_); rintro e W' ⟨rfl, hb'⟩; have hM' := hM.call hb'; clear hM hb'; have hM := hM'; clear hM') | (go_at_call 54; (with_reducible refine (checkUpTo_yes ((d : Nat) : Int) 30 _ Hr.out).mono ?_); rintro e W' ⟨rfl, hb'⟩; have hM' := hM.call hb'; clear hM hb'; have hM := hM'; clear hM') | (refine wpList_searchR rfl _ _ _ rfl need d rfl rfl rfl ?_) | (have _t := tk_z1; refine wpList_zero rfl _ rfl zeroSearch hM ?_; intro bs W' hbs hM'; clear hM tk_z1; have hM := hM'; clear hM') | (have _t := tk_y1; (refine wpList_lay rfl _ _ _ rfl _ _ rfl _ _ rfl hM 0 rfl (by assumption) rowSearch (by omega) (srchR_one need d 0) ?_; intro W' hM'; clear hM; have hM1 := hM'.re 0 rfl (srchVR need d 0) (fun j hj => by simp only [lay]; rw [if_pos ⟨by omega, by omega⟩, Nat.sub_zero]); simp only [List.set_cons_zero] at hM1; clear hM'; have hM := hM1; clear hM1); clear tk_y1))
  go_at_call 61
  refine (planForR w HE.out need hne d hd2 n hn6.1 hn6.2 bs hbs d hd30 hs Hmb.out 0 (by omega) b (n * 3) c (sMeadow hs) (Nat.le_refl _) (fun _ _ => rfl) [] _ hM).mono ?_
  clear hM
  rintro e W2 (⟨p, t2, b2, v, hq, rfl, hv0, hL⟩ | ⟨t2, hq, rfl, hM⟩ | ⟨t2, hq, rfl, hM⟩)
  · have hl : (grL need n d hs).length = d := by
      by_cases hl : (grL need n d hs).length = d
      · exact hl
      · obtain ⟨t', ht⟩ := Hgo.out.2 hl
        rw [ht] at hq; simp at hq
    have hp : p = grL need n d hs := by
      rw [Hgo.out.1 hl] at hq
      simp only [Prod.mk.injEq, Option.some.injEq] at hq
      exact hq.1.symm
    have Hb := Lib.hid (grd_yes Hc.out hl)
    have HL := Lib.hid (by rw [hp] at hL; exact hL.newK : NewL 1 (grL need n d hs).length (vI (natI (grL need n d hs))) w v W2)
    have hb2 := hL.below
    clear hl hp hL hq hv0
    go_wp2_with (first | (go_at_call 50; (with_reducible refine (codeOf_nil (HE.out.below hb2)).mono ?_); rintro e W' ⟨rfl, rfl⟩))
    go_ret2
    exact givesG_some Hb.out HL.out
  · exfalso
    by_cases hl : (grL need n d hs).length = d
    · rw [Hgo.out.1 hl] at hq; simp at hq
    · obtain ⟨t', ht⟩ := Hgo.out.2 hl
      rw [ht] at hq; simp at hq
  · have hl : ¬ (grL need n d hs).length = d := fun hl => by rw [Hgo.out.1 hl] at hq; simp at hq
    have Hb := Lib.hid (grd_short Hc.out hl)
    clear hl hq
    go_wp2_with (first | (go_at_call 50; (with_reducible refine (codeOf_4 (HE.out.below hM.below)).mono ?_); rintro e W' ⟨rfl, rfl⟩))
    go_ret2
    exact givesG_none Hb.out hM.below

theorem specGreedyPlan_any (b n c : Nat) (hs : Nat → Nat → Int) (hF : ∀ i, i < n → FitsMeadow (hs i)) (hn : n ≤ 1048576) (need days : Int) (w : World) (hB : At w b (n * 3) (sMeadow hs)) :
    Calls Tryd.prog 34 #[.slice (some ⟨b, 0, none⟩) n c, .int .i64 need, .int .i64 days] w (GivesR 1 (grdL n hs need days).length (vInt64S (numsF (grdL n hs need days))) (grdC n hs need days) w) := specGreedyPlan_l b n c hs hF hn need days w hB
theorem implGreedyPlan_any {a : Nat → Addr} (b n c : Nat) (hs : Nat → Nat → Int) (hF : ∀ i, i < n → FitsMeadow (hs i)) (hn : n ≤ 1048576) (need days : Int) (w : World) (hB : At w b (n * 3) (sMeadow hs)) (hE : Errs a w) :
    Calls Tryd.prog 35 #[.slice (some ⟨b, 0, none⟩) n c, .int .i64 need, .int .i64 days] w (GivesR 1 (grdL n hs need days).length (vInt64S (numsF (grdL n hs need days))) (grdC n hs need days) w) := implGreedyPlan_l b n c hs hF hn need days w hB hE
theorem grdL_len (n : Nat) (hs : Nat → Nat → Int) (need days : Int) : (grdL n hs need days).length ≤ 1048576 := by
  by_cases hc : meadC n hs need (inB 0 30 days) = 0
  · have hdd := inB_true (meadC_0 hc).2.2
    unfold grdL
    split
    · rw [natI_len]
      have := grL_len need n days.toNat hs
      omega
    · simp
  · rw [(grd_no (days := days) rfl hc).2]; simp
end Go.Proofs.YtbbododeglkghaaDoor

/-
  spec.FirstPlan and impl.FirstPlan by contracts.
-/
namespace Go.Proofs.YtbbododeglkghaaDoor
open Go Go.RowKit Go.BigFrame

def fndL (r : Fnd) : List Nat := match r with | (some p, _, _) => p | (none, _, _) => []
def fndT (r : Fnd) : Int := match r with | (some _, t, _) => (t : Nat) | (none, _, _) => 0
def fndC (r : Fnd) : Int := match r with | (some _, _, _) => 0 | (none, _, true) => 7 | (none, _, false) => 6
theorem givesR2_none {m : Nat} {R : Nat → Value} {x cc : Int} {w w' : World} {a : Option Addr} {c : Nat} (hb : Below w.heap.size w w') : GivesR2 m 0 R x cc w (.returned (.tuple #[.slice a 0 c, .int .i64 x, .int .i64 cc])) w' := ⟨_, rfl, .inl ⟨rfl, ⟨a, c, rfl⟩, hb⟩⟩
theorem run_srchS (need : Int) (D B : Nat) (W : World) : (Instr.build 112 #[(0, .int .i64 need), (1, .int .i64 (D : Int)), (2, .int .i64 (B : Int))]).run Tryd.prog W = .ok (.agg (arr 5 (srchS need D B 0 false))) W := by kernel_rfl
theorem wpList_srchS {ops : Array Oper} {rest : List Oper} {o : Oper} {a : Act} {W : World} {Q : Exit → Act → World → Prop} (hgd : o.guard = none) (x y z : Operand) (ho : o.op = .build 112 #[(0, x), (1, y), (2, z)]) (need : Int) (D B : Nat) (hx : a.eval x = .int .i64 need) (hy : a.eval y = .int .i64 (D : Int)) (hz : a.eval z = .int .i64 (B : Int))
    (h : wpList Tryd.prog ops Q rest (a.put o.dst (.agg (arr 5 (srchS need D B 0 false)))) W) : wpList Tryd.prog ops Q (o :: rest) a W := by
  refine wpList_plain hgd fun K hK => ?_
  unfold Oper.wp execOp
  have e : (Array.map (fun (z : Nat × Operand) => match z with | (i, x) => (i, a.eval x)) #[(0, x), (1, y), (2, z)]) = #[(0, .int .i64 need), (1, .int .i64 (D : Int)), (2, .int .i64 (B : Int))] := by simp [hx, hy, hz]
  simp only [ho, e, Sem.run_bind, Sem.run_pure, run_srchS, Result.andThen_ok]
  exact hK _ _ h

set_option maxRecDepth 100000 in
set_option maxHeartbeats 4000000 in
theorem l07Found_any (b n c : Nat) (hs : Nat → Nat → Int) (hn1 : 1 ≤ n) (hn6 : n ≤ 6) (hb : ∀ i, i < n → meadB (hs i) = true) (need : Int) (hd : 1 ≤ need ∧ need ≤ 1000) (D B : Nat) (hD : D ≤ 30) (hB : B ≤ 20000) (w : World) (hA : At w b (n * 3) (sMeadow hs)) :
    Calls Tryd.prog 65 #[.slice (some ⟨b, 0, none⟩) n c, .int .i64 need, .int .i64 (D : Int), .int .i64 (B : Int)] w
      (GivesR2 1 (fndL (goS need B (fun _ => List.range n) D hs 0)).length (vI (natI (fndL (goS need B (fun _ => List.range n) D hs 0)))) (fndT (goS need B (fun _ => List.range n) D hs 0)) (fndC (goS need B (fun _ => List.range n) D hs 0)) w) := by
  have hM : Mem w [(b, n * 3, sMeadow hs)] w := (Mem.nil w).old hA (fun i p h => by simp at h)
  have Hb := Lib.hid hb
  obtain ⟨r, hr⟩ : ∃ r, goS need B (fun _ => List.range n) D hs 0 = r := ⟨_, rfl⟩
  rw [hr]
  have Hr0 := Lib.hid hr
  clear hA hb hr
  have tk_b1 : True := trivial; have tk_s1 : True := trivial
  go_enter Tryd.func65, Tryd.ntmps65
  go_wp2_with (first | (refine wpList_srchS rfl _ _ _ rfl need D B rfl rfl rfl ?_) | (have _t := tk_b1; refine wpList_box rfl _ _ rfl _ _ rfl hM ?_; intro b1 W' hb1 hM'; clear hM tk_b1; have hM := hM'; clear hM') | (have _t := tk_s1; refine wpList_slice0 rfl _ _ rfl _ int64s_underR int64_info0 hM ?_; intro s1 W' hs1 hM'; clear hM tk_s1; have hM := hM'; clear hM'))
  have hM1 := hM.swap
  clear hM
  have hM := hM1
  clear hM1
  go_at_call 77
  refine (from_any w need hd D B hD hB n hn1 hn6 b1 hb1 D [] 0 rfl (by omega) hs Hb.out 0 (by omega) b (n * 3) c (sMeadow hs) (Nat.le_refl _) (fun _ _ => rfl) s1 0 0 _ hs1 (Nat.le_refl _) (Nat.le_refl _) (fun j hj => absurd hj (by omega)) [] _ hM).mono ?_
  clear hM
  rw [Hr0.out]
  rintro e W2 (⟨p, t2, b2, v, hq, rfl, hv, hM⟩ | ⟨t2, v, hq, rfl, hM⟩ | ⟨t2, v, hq, rfl, hM⟩)
  · have e4 : srchS need D B t2 false 4 = .bool false := rfl
    have e3 : srchS need D B t2 false 3 = .int .i64 (t2 : Int) := rfl
    have Hq := Lib.hid hq
    clear hq
    obtain ⟨b3, c3, N3, F3, rfl, hbn, h1, h2, h3, h4⟩ := hv
    have hM2 := hM.skip.skip.old h4 (fun i p h => by
      match i, h with
      | 0, h => simp at h; rw [← h]; exact hbn
      | _ + 1, h => simp at h)
    clear hM h4
    have hM := hM2
    clear hM2
    have H3 := Lib.hid h3
    have h2' : (([] ++ p : List Nat).length) = p.length := rfl
    clear h3
    go_wp2_with (first | (refine wpList_get1 rfl _ _ rfl _ _ rfl hM 0 rfl (cellTab _ rfl) (by omega) _ e4 ?_))
    ((try simp only [Act.put, List.setIfInBounds_toArray, List.set_cons_succ, List.set_cons_zero]); refine wp_region_mem (by kernel_rfl) (by kernel_rfl) hM ?_; clear hM; (repeat (first | go_big_quiet_skip | (go_big_quiet_want; first | (refine quiet_get1 _ _ rfl _ _ rfl 0 rfl (cellTab _ rfl) (by omega) _ (e3) ?_; (simp only [Act.put, List.setIfInBounds_toArray, List.set_cons_succ, List.set_cons_zero]); go_big_quiet_on) | (refine quiet_val ?_; apply Exists.intro; refine ⟨fun W => ?_, ?_⟩; (go_simp; rfl); (simp only [Act.put, List.setIfInBounds_toArray, List.set_cons_succ, List.set_cons_zero]); go_big_quiet_on)))); (with_reducible refine wpQuiet_nil ?_); intro W' hM)
    go_wp2
    go_ret3
    rw [Hq.out]
    exact ⟨_, rfl, .inr ⟨b3, c3, N3, F3, rfl, h1, by rw [Nat.mul_one]; exact h2, fun j hj => H3.out j (by rw [Nat.mul_one] at hj; exact hj), hM.ats 1 _ _ _ rfl, hM.below⟩⟩
  · have e4 : srchS need D B t2 true 4 = .bool true := rfl
    have Hq := Lib.hid hq
    clear hq
    have tk_s2 : True := trivial
    go_wp2_with (first | (refine wpList_get1 rfl _ _ rfl _ _ rfl hM 0 rfl (cellTab _ rfl) (by omega) _ e4 ?_) | (have _t := tk_s2; refine wpList_slice0 rfl _ _ rfl _ int64s_underR int64_info0 hM ?_; intro s2 W' hs2 hM'; clear hM tk_s2; have hM := hM'; clear hM'))
    go_ret3
    rw [Hq.out]
    exact givesR2_none hM.below
  · have e4 : srchS need D B t2 false 4 = .bool false := rfl
    have Hq := Lib.hid hq
    clear hq
    have tk_s2 : True := trivial
    go_wp2_with (first | (refine wpList_get1 rfl _ _ rfl _ _ rfl hM 0 rfl (cellTab _ rfl) (by omega) _ e4 ?_) | (have _t := tk_s2; refine wpList_slice0 rfl _ _ rfl _ int64s_underR int64_info0 hM ?_; intro s2 W' hs2 hM'; clear hM tk_s2; have hM := hM'; clear hM'))
    go_ret3
    rw [Hq.out]
    exact givesR2_none hM.below

/-- What FirstPlan answers. -/
def fplR (n : Nat) (hs : Nat → Nat → Int) (need days budget : Int) : Fnd := goS need budget.toNat (fun _ => List.range n) days.toNat hs 0
def fplM (n : Nat) (hs : Nat → Nat → Int) (need days budget : Int) : Int := meadC n hs need (inB 0 30 days && inB 0 20000 budget)
def fplC (n : Nat) (hs : Nat → Nat → Int) (need days budget : Int) : Int := if fplM n hs need days budget = 0 then fndC (fplR n hs need days budget) else fplM n hs need days budget
def fplT (n : Nat) (hs : Nat → Nat → Int) (need days budget : Int) : Int := if fplM n hs need days budget = 0 then fndT (fplR n hs need days budget) else 0
def fplL (n : Nat) (hs : Nat → Nat → Int) (need days budget : Int) : List Int := if fplM n hs need days budget = 0 then natI (fndL (fplR n hs need days budget)) else []
def GivesP (n : Nat) (hs : Nat → Nat → Int) (need days budget : Int) (w : World) (e : Ending) (w' : World) : Prop := GivesR2 1 (fplL n hs need days budget).length (vInt64S (numsF (fplL n hs need days budget))) (fplT n hs need days budget) (fplC n hs need days budget) w e w'
theorem givesP_no {n : Nat} {hs : Nat → Nat → Int} {need days budget C : Int} (h : fplM n hs need days budget = C) (hC : C ≠ 0) {w W : World} (hb : Below w.heap.size w W) {a : Option Addr} {c : Nat} : GivesP n hs need days budget w (.returned (.tuple #[.slice a 0 c, .int .i64 0, .int .i64 C])) W := by
  have hne : fplM n hs need days budget ≠ 0 := by rw [h]; exact hC
  have h1 : fplL n hs need days budget = [] := if_neg hne
  have h2 : fplT n hs need days budget = 0 := if_neg hne
  have h3 : fplC n hs need days budget = C := by unfold fplC; rw [if_neg hne, h]
  unfold GivesP
  rw [h1, h2, h3]
  exact givesR2_none hb
theorem givesP_to {n D B : Nat} {hs : Nat → Nat → Int} {need : Int} (h : fplM n hs need (D : Int) (B : Int) = 0) {w : World} {e : Ending} {w' : World} (hg : GivesR2 1 (fndL (goS need B (fun _ => List.range n) D hs 0)).length (vI (natI (fndL (goS need B (fun _ => List.range n) D hs 0)))) (fndT (goS need B (fun _ => List.range n) D hs 0)) (fndC (goS need B (fun _ => List.range n) D hs 0)) w e w') : GivesP n hs need (D : Int) (B : Int) w e w' := by
  have hr : fplR n hs need (D : Int) (B : Int) = goS need B (fun _ => List.range n) D hs 0 := rfl
  unfold GivesP
  rw [show fplL n hs need (D : Int) (B : Int) = natI (fndL (fplR n hs need (D : Int) (B : Int))) from if_pos h, show fplT n hs need (D : Int) (B : Int) = fndT (fplR n hs need (D : Int) (B : Int)) from if_pos h, show fplC n hs need (D : Int) (B : Int) = fndC (fplR n hs need (D : Int) (B : Int)) from if_pos h, hr, natI_len]
  exact hg

set_option maxRecDepth 100000 in
set_option maxHeartbeats 4000000 in
theorem specFirstPlan_l (b n c : Nat) (hs : Nat → Nat → Int) (hF : ∀ i, i < n → FitsMeadow (hs i)) (hn : n ≤ 1048576) (need days budget : Int) (w : World) (hB : At w b (n * 3) (sMeadow hs)) :
    Calls Tryd.prog 38 #[.slice (some ⟨b, 0, none⟩) n c, .int .i64 need, .int .i64 days, .int .i64 budget] w (GivesP n hs need days budget w) := by
  have hM : Mem w [(b, n * 3, sMeadow hs)] w := (Mem.nil w).old hB (fun i p h => by simp at h)
  have HF := Lib.hid hF
  clear hF hB
  have hda : ∀ W, Calls Tryd.prog 51 #[.int .i64 days] W fun e w' => e = .returned (.bool (inB 0 30 days)) ∧ Below W.heap.size W w' := fun W => by
    have hM := Mem.nil W
    go_enter Tryd.func51, Tryd.ntmps51
    go_wp2_with (first | (go_at_call 55; (with_reducible refine (l00In_any days 0 30 _).mono ?_); rintro e W' ⟨rfl, hb'⟩; have hM' := hM.call hb'; clear hM hb'; have hM := hM'; clear hM'))
    go_ret
    exact ⟨ret_bool (a := inB 0 30 days) rfl, hM.below⟩
  have hbu : ∀ W, Calls Tryd.prog 64 #[.int .i64 budget] W fun e w' => e = .returned (.bool (inB 0 20000 budget)) ∧ Below W.heap.size W w' := fun W => by
    have hM := Mem.nil W
    go_enter Tryd.func64, Tryd.ntmps64
    go_wp2_with (first | (go_at_call 55; (with_reducible refine (l00In_any budget 0 20000 _).mono ?_); rintro e W' ⟨rfl, hb'⟩; have hM' := hM.call hb'; clear hM hb'; have hM := hM'; clear hM'))
    go_ret
    exact ⟨ret_bool (a := inB 0 20000 budget) rfl, hM.below⟩
  have hM0 : fplM n hs need days budget = meadC n hs need (inB 0 30 days && inB 0 20000 budget) := rfl
  cases hdB : inB 0 30 days
  · rw [hdB, Bool.false_and] at hM0
    have hc : meadC n hs need false ≠ 0 := fun h => by simpa using (meadC_0 h).2.2
    have Hda := Lib.hid (fun W => (hda W).mono (fun e w' h => by rw [hdB] at h; exact h))
    have HN := Lib.hid (fun (W : World) (hb : Below w.heap.size w W) (a : Option Addr) (c : Nat) => givesP_no hM0 hc hb (a := a) (c := c))
    have d0 : decide (meadC n hs need false = 0) = false := decide_eq_false hc
    have HA := Lib.hid (fun W hB => l07Asked_any b n c hs HF.out hn need false W hB)
    clear hda hbu hM0 hdB
    generalize meadC n hs need false = C at *
    have tk_s1 : True := trivial
    go_enter Tryd.func38, Tryd.ntmps38
    go_wp2_with (first | (go_at_call 51; (with_reducible refine (Hda.out _).mono ?_); rintro e W' ⟨rfl, hb'⟩; have hM' := hM.call hb'; clear hM hb'; have hM := hM'; clear hM') | (go_at_call 42; (with_reducible refine (HA.out _ (hM.ats 0 _ _ _ rfl)).mono ?_); rintro e W' ⟨rfl, hb'⟩; have hM' := hM.call hb'; clear hM hb'; have hM := hM'; clear hM') | (have _t := tk_s1; refine wpList_slice0 rfl _ _ rfl _ int64s_underR int64_info0 hM ?_; intro s1 W' hs1 hM'; clear hM tk_s1; have hM := hM'; clear hM'))
    go_ret3
    exact HN.out _ hM.below _ _
  rw [hdB, Bool.true_and] at hM0
  have Hda := Lib.hid (fun W => (hda W).mono (fun e w' h => by rw [hdB] at h; exact h))
  by_cases hc : meadC n hs need (inB 0 20000 budget) = 0
  case neg =>
    have HN := Lib.hid (fun (W : World) (hb : Below w.heap.size w W) (a : Option Addr) (c : Nat) => givesP_no hM0 hc hb (a := a) (c := c))
    have d0 : decide (meadC n hs need (inB 0 20000 budget) = 0) = false := decide_eq_false hc
    have HA := Lib.hid (fun W hB => l07Asked_any b n c hs HF.out hn need (inB 0 20000 budget) W hB)
    have Hbu := Lib.hid hbu
    clear hda hbu hM0 hdB
    generalize meadC n hs need (inB 0 20000 budget) = C at *
    generalize inB 0 20000 budget = q at *
    have tk_s1 : True := trivial
    go_enter Tryd.func38, Tryd.ntmps38
    go_wp2_with (first | (go_at_call 51; (with_reducible refine (Hda.out _).mono ?_); rintro e W' ⟨rfl, hb'⟩; have hM' := hM.call hb'; clear hM hb'; have hM := hM'; clear hM') | (go_at_call 64; (with_reducible refine (Hbu.out _).mono ?_); rintro e W' ⟨rfl, hb'⟩; have hM' := hM.call hb'; clear hM hb'; have hM := hM'; clear hM') | (go_at_call 42; (with_reducible refine (HA.out _ (hM.ats 0 _ _ _ rfl)).mono ?_); rintro e W' ⟨rfl, hb'⟩; have hM' := hM.call hb'; clear hM hb'; have hM := hM'; clear hM') | (have _t := tk_s1; refine wpList_slice0 rfl _ _ rfl _ int64s_underR int64_info0 hM ?_; intro s1 W' hs1 hM'; clear hM tk_s1; have hM := hM'; clear hM'))
    go_ret3
    exact HN.out _ hM.below _ _
  have hc' := meadC_0 hc
  have hne := inB_true hc'.2.1
  have hbb := inB_true hc'.2.2
  have hdd := inB_true hdB
  obtain ⟨hn6, hmb⟩ := meadsB_iff hc'.1
  obtain ⟨D, rfl⟩ : ∃ d : Nat, days = d := ⟨days.toNat, by omega⟩
  obtain ⟨B, rfl⟩ : ∃ d : Nat, budget = d := ⟨budget.toNat, by omega⟩
  have hD : D ≤ 30 := by omega
  have hB2 : B ≤ 20000 := by omega
  have hbt : inB 0 20000 (B : Int) = true := hc'.2.2
  have HA := Lib.hid (fun W hB => (l07Asked_any b n c hs HF.out hn need (inB 0 20000 (B : Int)) W hB).mono (fun e w' h => by rw [hc] at h; exact h))
  have HG := Lib.hid (fun W hB => l07Found_any b n c hs hn6.1 hn6.2 hmb need hne D B hD hB2 W hB)
  have Hto := Lib.hid (fun (w : World) e w' h => givesP_to (w := w) (e := e) (w' := w') (hM0.trans hc) h)
  have Hbu := Lib.hid hbu
  clear hc hc' hmb hda hbu hM0 hdB
  rw [hbt] at HA Hbu
  go_enter Tryd.func38, Tryd.ntmps38
  go_wp2_with (first | (go_at_call 51; (with_reducible refine (Hda.out _).mono ?_); rintro e W' ⟨rfl, hb'⟩; have hM' := hM.call hb'; clear hM hb'; have hM := hM'; clear hM') | (go_at_call 64; (with_reducible refine (Hbu.out _).mono ?_); rintro e W' ⟨rfl, hb'⟩; have hM' := hM.call hb'; clear hM hb'; have hM := hM'; clear hM') | (go_at_call 42; (with_reducible refine (HA.out _ (hM.ats 0 _ _ _ rfl)).mono ?_); rintro e W' ⟨rfl, hb'⟩; have hM' := hM.call hb'; clear hM hb'; have hM := hM'; clear hM'))
  go_at_call 65
  refine (HG.out _ (hM.ats 0 _ _ _ rfl)).mono ?_
  rintro e W' ⟨v, rfl, hL⟩
  have hL2 : ∀ m k R, NewL m k R _ v W' → NewL m k R w v W' := fun m k R h => by
    rcases h with ⟨h1, h2, h3⟩ | ⟨b, c, N, F, h1, h2, h3, h4, h5, h6⟩
    · exact .inl ⟨h1, h2, (hM.call h3).below⟩
    · exact .inr ⟨b, c, N, F, h1, Nat.le_trans hM.size h2, h3, h4, h5, (hM.call h6).below⟩
  have HL := Lib.hid (hL2 _ _ _ hL)
  clear hL hL2 hM
  go_wp2
  go_ret3
  exact Hto.out _ _ _ ⟨v, rfl, HL.out⟩

theorem run_searchE (need : Int) (B : Nat) (W : World) : (Instr.build 90 #[(0, liveV need), (1, .func (.func 66) #[] #[]), (2, .int .i64 (B : Int))]).run Tryd.prog W = .ok (.agg (arr 4 (srchVE need B 0))) W := by
  kernel_rfl
theorem wpList_searchE {ops : Array Oper} {rest : List Oper} {o : Oper} {a : Act} {W : World} {Q : Exit → Act → World → Prop} (hgd : o.guard = none) (x y z : Operand) (ho : o.op = .build 90 #[(0, x), (1, y), (2, z)]) (need : Int) (B : Nat) (hx : a.eval x = liveV need) (hy : a.eval y = .func (.func 66) #[] #[]) (hz : a.eval z = .int .i64 (B : Int))
    (h : wpList Tryd.prog ops Q rest (a.put o.dst (.agg (arr 4 (srchVE need B 0)))) W) : wpList Tryd.prog ops Q (o :: rest) a W := by
  refine wpList_plain hgd fun K hK => ?_
  unfold Oper.wp execOp
  have e : (Array.map (fun (z : Nat × Operand) => match z with | (i, x) => (i, a.eval x)) #[(0, x), (1, y), (2, z)]) = #[(0, liveV need), (1, .func (.func 66) #[] #[]), (2, .int .i64 (B : Int))] := by simp [hx, hy, hz]
  simp only [ho, e, Sem.run_bind, Sem.run_pure, run_searchE, Result.andThen_ok]
  exact hK _ _ h
theorem srchE_one (need : Int) (B t : Nat) : ∀ k, k < 4 → (srchVE need B t k).oneCell' = true := fun k hk => by
  rcases (show k = 0 ∨ k = 1 ∨ k = 2 ∨ k = 3 by omega) with rfl | rfl | rfl | rfl <;> rfl

set_option maxRecDepth 100000 in
set_option maxHeartbeats 8000000 in
theorem implFirstPlan_l {a : Nat → Addr} (b n c : Nat) (hs : Nat → Nat → Int) (hF : ∀ i, i < n → FitsMeadow (hs i)) (hn : n ≤ 1048576) (need days budget : Int) (w : World) (hB : At w b (n * 3) (sMeadow hs)) (hE : Errs a w) :
    Calls Tryd.prog 39 #[.slice (some ⟨b, 0, none⟩) n c, .int .i64 need, .int .i64 days, .int .i64 budget] w (GivesP n hs need days budget w) := by
  have hM : Mem w [(b, n * 3, sMeadow hs)] w := (Mem.nil w).old hB (fun i p h => by simp at h)
  have HF := Lib.hid hF
  have HE := Lib.hid hE
  clear hF hB hE
  have hM0 : fplM n hs need days budget = meadC n hs need (inB 0 30 days && inB 0 20000 budget) := rfl
  rcases meadC_cases n hs need (inB 0 30 days && inB 0 20000 budget) with ⟨hm, hc⟩ | ⟨hm, hd, hc⟩ | ⟨hm, hd, hr, hc⟩ | ⟨hm, hd, hr, hc⟩
  · have HN := Lib.hid (fun (W : World) (hb : Below w.heap.size w W) (a : Option Addr) (c : Nat) => givesP_no (hM0.trans hc) (by omega) hb (a := a) (c := c))
    have Hm := Lib.hid hm
    clear hm hc hM0
    go_enter Tryd.func39, Tryd.ntmps39
    go_wp2_with (first | (go_at_call 53; (with_reducible refine (seasonOf_0 b (n * 3) n c (sMeadow hs) hs (Nat.le_refl _) (fun _ _ => rfl) HF.out hn need _ (hM.ats 0 _ _ _ rfl) (HE.out.below hM.below) Hm.out).mono ?_); rintro e W' ⟨rfl, hb'⟩; have hM' := hM.call hb'; clear hM hb'; have hM := hM'; clear hM') | (go_at_call 50; (with_reducible refine (codeOf_0 (HE.out.below hM.below)).mono ?_); rintro e W' ⟨rfl, rfl⟩))
    go_ret3
    exact HN.out _ hM.below _ _
  · have HN := Lib.hid (fun (W : World) (hb : Below w.heap.size w W) (a : Option Addr) (c : Nat) => givesP_no (hM0.trans hc) (by omega) hb (a := a) (c := c))
    have Hm := Lib.hid hm
    have Hd := Lib.hid hd
    clear hm hc hd hM0
    go_enter Tryd.func39, Tryd.ntmps39
    go_wp2_with (first | (go_at_call 53; (with_reducible refine (seasonOf_1 b (n * 3) n c (sMeadow hs) hs (Nat.le_refl _) (fun _ _ => rfl) HF.out hn need _ (hM.ats 0 _ _ _ rfl) (HE.out.below hM.below) Hm.out Hd.out).mono ?_); rintro e W' ⟨rfl, hb'⟩; have hM' := hM.call hb'; clear hM hb'; have hM := hM'; clear hM') | (go_at_call 50; (with_reducible refine (codeOf_1 (HE.out.below hM.below)).mono ?_); rintro e W' ⟨rfl, rfl⟩))
    go_ret3
    exact HN.out _ hM.below _ _
  · have HN := Lib.hid (fun (W : World) (hb : Below w.heap.size w W) (a : Option Addr) (c : Nat) => givesP_no (hM0.trans hc) (by omega) hb (a := a) (c := c))
    have hor : ((!inB 0 30 days) || (!inB 0 20000 budget)) = true := by rw [← Bool.not_and, hr]; rfl
    have Hc := Lib.hid (cnt2_yes hor)
    have Hl := Lib.hid (Nat.le_trans (cntE_le (es2 (!inB 0 30 days) (!inB 0 20000 budget)) 2) (show 2 ≤ 1000 by omega))
    have HU := Lib.hid (fun W hE => checkUpTo_any (a := a) days 30 W hE)
    have HV := Lib.hid (fun W hE => checkUpTo_any (a := a) budget 20000 W hE)
    have Hm := Lib.hid hm
    have Hd := Lib.hid hd
    clear hm hc hd hr hM0 hor
    generalize (!inB 0 30 days) = q1 at *
    generalize (!inB 0 20000 budget) = q2 at *
    have tk_u1 : True := trivial
    go_enter Tryd.func39, Tryd.ntmps39
    go_wp2_with (first | (go_at_call 53; (with_reducible refine (seasonOf_ok b (n * 3) n c (sMeadow hs) hs (Nat.le_refl _) (fun _ _ => rfl) HF.out hn need _ (hM.ats 0 _ _ _ rfl) (HE.out.below hM.below) Hm.out Hd.out).mono ?_); rintro e W' ⟨rfl, hb'⟩; have hM' := hM.call hb'; clear hM hb'; have hM := hM'; clear hM') | (have _t := tk_u1; (go_at_call 54; (with_reducible refine (HU.out _ (HE.out.below hM.below)).mono ?_); rintro e W' ⟨rfl, hb'⟩; have hM' := hM.call hb'; clear hM hb'; have hM := hM'; clear hM'); clear tk_u1) | (go_at_call 54; (with_reducible refine (HV.out _ (HE.out.below hM.below)).mono ?_); rintro e W' ⟨rfl, hb'⟩; have hM' := hM.call hb'; clear hM hb'; have hM := hM'; clear hM') | (refine wpList_lit2 rfl _ _ _ _ rfl (errO (a 1) q1) (errO (a 1) q2) rfl rfl (errO_one _ _) (errO_one _ _) _ errs_under err_info2 hM ?_; intro bn W' hbn hM'; clear hM; have hM := hM'; clear hM') | (go_at_call 56; refine (join_some (a 1) (es2 q1 q2) _ 2 2 (by omega) Hc.out _ ((hM.ats 0 _ _ _ rfl).congr (lit2_errE _ _ _))).mono ?_; rintro e W' ⟨jb, rfl, hJ, hb'⟩; have hM' := hM.call hb'; clear hM hb'; have hM := hM'; clear hM') | (go_at_call 50; (refine (codeJ_1 jb _ Hc.out Hl.out (HE.out.below hM.below) hJ).mono ?_); rintro e W' ⟨rfl, rfl⟩))
    go_ret3
    exact HN.out _ hM.below _ _
  obtain ⟨hr1, hr2⟩ := (Bool.and_eq_true _ _).mp hr
  have hdd := inB_true hr1
  have hbb := inB_true hr2
  have hne := inB_true hd
  obtain ⟨hn6, hmb⟩ := meadsB_iff hm
  obtain ⟨D, rfl⟩ : ∃ d : Nat, days = d := ⟨days.toNat, by omega⟩
  obtain ⟨B, rfl⟩ : ∃ d : Nat, budget = d := ⟨budget.toNat, by omega⟩
  have hD : D ≤ 30 := by omega
  have hB2 : B ≤ 20000 := by omega
  have Hto := Lib.hid (fun (w : World) e w' h => givesP_to (w := w) (e := e) (w' := w') (hM0.trans hc) h)
  have HU := Lib.hid (fun W => checkUpTo_yes (D : Int) 30 W hr1)
  have HV := Lib.hid (fun W => checkUpTo_yes (B : Int) 20000 W hr2)
  have Hm := Lib.hid hm
  have Hd := Lib.hid hd
  have Hmb := Lib.hid hmb
  clear hc hm hd hr hmb hr1 hr2 hM0
  obtain ⟨r, hr⟩ : ∃ r, goS need B (fun _ => List.range n) D hs 0 = r := ⟨_, rfl⟩
  have Hr0 := Lib.hid hr
  clear hr
  have tk_z1 : True := trivial; have tk_y1 : True := trivial; have tk_u1 : True := trivial
  go_enter Tryd.func39, Tryd.ntmps39
  go_wp2_with (first | (go_at_call 53; (with_reducible refine (seasonOf_ok b (n * 3) n c (sMeadow hs) hs (Nat.le_refl _) (fun _ _ => rfl) HF.out hn need _ (hM.ats 0 _ _ _ rfl) (HE.out.below hM.below) Hm.out Hd.out).mono ?_); rintro e W' ⟨rfl, hb'⟩; have hM' := hM.call hb'; clear hM hb'; have hM := hM'; clear hM') | (have _t := tk_u1; (go_at_call 54; (with_reducible refine (HU.out _).mono ?_); rintro e W' ⟨rfl, hb'⟩; have hM' := hM.call hb'; clear hM hb'; have hM := hM'; clear hM'); clear tk_u1) | (go_at_call 54; (with_reducible refine (HV.out _).mono ?_); rintro e W' ⟨rfl, hb'⟩; have hM' := hM.call hb'; clear hM hb'; have hM := hM'; clear hM') | (refine wpList_lit2 rfl _ _ _ _ rfl (errO (a 1) false) (errO (a 1) false) rfl rfl (errO_one _ _) (errO_one _ _) _ errs_under err_info2 hM ?_; intro bn W' hbn hM'; clear hM; have hM := hM'; clear hM') | (go_at_call 56; refine (join_none (a 1) (es2 false false) _ 2 2 (by omega) cnt2_no _ ((hM.ats 0 _ _ _ rfl).congr (lit2_errE _ _ _))).mono ?_; rintro e W' ⟨rfl, hb'⟩; have hM' := hM.call hb'; clear hM hb'; have hM := hM'.drop; clear hM') | (refine wpList_searchE rfl _ _ _ rfl need B rfl rfl rfl ?_) | (have _t := tk_z1; refine wpList_zero rfl _ rfl zeroSearch hM ?_; intro bs W' hbs hM'; clear hM tk_z1; have hM := hM'; clear hM') | (have _t := tk_y1; (refine wpList_lay rfl _ _ _ rfl _ _ rfl _ _ rfl hM 0 rfl (by assumption) rowSearch (by omega) (srchE_one need B 0) ?_; intro W' hM'; clear hM; have hM1 := hM'.re 0 rfl (srchVE need B 0) (fun j hj => by simp only [lay]; rw [if_pos ⟨by omega, by omega⟩, Nat.sub_zero]); simp only [List.set_cons_zero] at hM1; clear hM'; have hM := hM1; clear hM1); clear tk_y1))
  go_at_call 61
  refine (planForE w HE.out need hne B hB2 n hn6.1 hn6.2 bs hbs D hD hs Hmb.out 0 (by omega) b (n * 3) c (sMeadow hs) (Nat.le_refl _) (fun _ _ => rfl) [] _ hM).mono ?_
  clear hM
  rw [Hr0.out]
  rintro e W2 (⟨p, t2, b2, v, hq, rfl, hv0, hL⟩ | ⟨t2, hq, rfl, hM⟩ | ⟨t2, hq, rfl, hM⟩)
  · have HL := Lib.hid hL.newK
    have Hg := Lib.hid (fun (e : Ending) (w' : World) (h : GivesR2 1 p.length (vI (natI p)) (t2 : Nat) 0 w e w') => Hto.out w e w' (by rw [Hr0.out, hq]; exact h))
    have e3 : srchVE need B t2 3 = .int .i64 (t2 : Int) := rfl
    rcases hL with ⟨rfl, hn0, hM⟩ | ⟨b4, c4, F4, rfl, hbb4, hnc4, hF4, hM⟩
    · have Hn0 := Lib.hid hn0
      clear hq hv0 hn0 HL
      go_wp2
      ((try simp only [Act.put, List.setIfInBounds_toArray, List.set_cons_succ, List.set_cons_zero]); refine wp_region_mem (by kernel_rfl) (by kernel_rfl) hM ?_; clear hM; (repeat (first | go_big_quiet_skip | (go_big_quiet_want; first | (refine quiet_get1 _ _ rfl _ _ rfl 0 rfl (cellTab _ rfl) (by omega) _ (e3) ?_; (simp only [Act.put, List.setIfInBounds_toArray, List.set_cons_succ, List.set_cons_zero]); go_big_quiet_on) | (refine quiet_val ?_; apply Exists.intro; refine ⟨fun W => ?_, ?_⟩; (go_simp; rfl); (simp only [Act.put, List.setIfInBounds_toArray, List.set_cons_succ, List.set_cons_zero]); go_big_quiet_on)))); (with_reducible refine wpQuiet_nil ?_); intro W' hM)
      go_wp2
      go_ret3
      exact Hg.out _ _ ⟨_, rfl, .inl ⟨Hn0.out, ⟨none, 0, rfl⟩, hM.below⟩⟩
    · have HF4 := Lib.hid hF4
      clear hq hv0 hF4 HL
      go_wp2
      ((try simp only [Act.put, List.setIfInBounds_toArray, List.set_cons_succ, List.set_cons_zero]); refine wp_region_mem (by kernel_rfl) (by kernel_rfl) hM ?_; clear hM; (repeat (first | go_big_quiet_skip | (go_big_quiet_want; first | (refine quiet_get1 _ _ rfl _ _ rfl 1 rfl (cellTab _ rfl) (by omega) _ (e3) ?_; (simp only [Act.put, List.setIfInBounds_toArray, List.set_cons_succ, List.set_cons_zero]); go_big_quiet_on) | (refine quiet_val ?_; apply Exists.intro; refine ⟨fun W => ?_, ?_⟩; (go_simp; rfl); (simp only [Act.put, List.setIfInBounds_toArray, List.set_cons_succ, List.set_cons_zero]); go_big_quiet_on)))); (with_reducible refine wpQuiet_nil ?_); intro W' hM)
      go_wp2
      go_ret3
      exact Hg.out _ _ ⟨_, rfl, .inr ⟨b4, c4, _, F4, rfl, hbb4, Nat.mul_le_mul_right _ hnc4, HF4.out, hM.at0, hM.below⟩⟩
  · have Hg := Lib.hid (fun (e : Ending) (w' : World) (h : GivesR2 1 0 (vI (natI [])) 0 7 w e w') => Hto.out w e w' (by rw [Hr0.out, hq]; exact h))
    clear hq
    go_wp2_with (first | (go_at_call 50; (with_reducible refine (codeOf_6 (HE.out.below hM.below)).mono ?_); rintro e W' ⟨rfl, rfl⟩))
    go_ret3
    exact Hg.out _ _ (givesR2_none hM.below)
  · have Hg := Lib.hid (fun (e : Ending) (w' : World) (h : GivesR2 1 0 (vI (natI [])) 0 6 w e w') => Hto.out w e w' (by rw [Hr0.out, hq]; exact h))
    clear hq
    go_wp2_with (first | (go_at_call 50; (with_reducible refine (codeOf_4 (HE.out.below hM.below)).mono ?_); rintro e W' ⟨rfl, rfl⟩))
    go_ret3
    exact Hg.out _ _ (givesR2_none hM.below)

theorem specFirstPlan_any (b n c : Nat) (hs : Nat → Nat → Int) (hF : ∀ i, i < n → FitsMeadow (hs i)) (hn : n ≤ 1048576) (need days budget : Int) (w : World) (hB : At w b (n * 3) (sMeadow hs)) :
    Calls Tryd.prog 38 #[.slice (some ⟨b, 0, none⟩) n c, .int .i64 need, .int .i64 days, .int .i64 budget] w (GivesR2 1 (fplL n hs need days budget).length (vInt64S (numsF (fplL n hs need days budget))) (fplT n hs need days budget) (fplC n hs need days budget) w) := specFirstPlan_l b n c hs hF hn need days budget w hB
theorem implFirstPlan_any {a : Nat → Addr} (b n c : Nat) (hs : Nat → Nat → Int) (hF : ∀ i, i < n → FitsMeadow (hs i)) (hn : n ≤ 1048576) (need days budget : Int) (w : World) (hB : At w b (n * 3) (sMeadow hs)) (hE : Errs a w) :
    Calls Tryd.prog 39 #[.slice (some ⟨b, 0, none⟩) n c, .int .i64 need, .int .i64 days, .int .i64 budget] w (GivesR2 1 (fplL n hs need days budget).length (vInt64S (numsF (fplL n hs need days budget))) (fplT n hs need days budget) (fplC n hs need days budget) w) := implFirstPlan_l b n c hs hF hn need days budget w hB hE
theorem fplL_len (n : Nat) (hs : Nat → Nat → Int) (need days budget : Int) : (fplL n hs need days budget).length ≤ 1048576 := by
  by_cases hc : fplM n hs need days budget = 0
  · have hdd := inB_true ((Bool.and_eq_true _ _).mp (meadC_0 hc).2.2).1
    unfold fplL
    rw [if_pos hc, natI_len]
    have hl := goS_len need budget.toNat (fun _ => List.range n) days.toNat hs 0
    have hr : fplR n hs need days budget = goS need budget.toNat (fun _ => List.range n) days.toNat hs 0 := rfl
    rw [← hr] at hl
    generalize fplR n hs need days budget = r at hl ⊢
    obtain ⟨o, t, b⟩ := r
    cases o with
    | none => simp [fndL]
    | some p => have := hl p rfl
                simp only [fndL]; omega
  · unfold fplL; rw [if_neg hc]; simp
end Go.Proofs.YtbbododeglkghaaDoor

/-
  impl.lastFound by contract, for any function that answers codes.
-/
namespace Go.Proofs.YtbbododeglkghaaDoor
open Go Go.RowKit Go.BigFrame

/-- What lastFound answers: m numbers left, from x on. -/
def lastF (code : Nat → Int) (first : Nat) : Nat → Nat → Int × Int
  | 0, x => ((x : Int) - 1, 0)
  | m + 1, x => if code x = 6 ∧ first < x then ((x : Int) - 1, 0) else if code x = 0 then lastF code first m (x + 1) else (0, code x)
theorem lastF_found {code : Nat → Int} {first m x : Nat} (h : code x = 6) (h2 : first < x) : lastF code first (m + 1) x = ((x : Int) - 1, 0) := by simp [lastF, h, h2]
theorem lastF_first {code : Nat → Int} {first m x : Nat} (h : code x = 6) (h2 : ¬ first < x) : lastF code first (m + 1) x = (0, 6) := by simp [lastF, h, h2]
theorem lastF_code {code : Nat → Int} {first m x : Nat} (h : code x ≠ 6) (h2 : code x ≠ 0) : lastF code first (m + 1) x = (0, code x) := by simp [lastF, h, h2]
theorem lastF_next {code : Nat → Int} {first m x : Nat} (h : code x = 0) : lastF code first (m + 1) x = lastF code first m (x + 1) := by simp [lastF, h]

set_option maxRecDepth 100000 in
set_option maxHeartbeats 2000000 in
theorem lastFound_any (code : Nat → Int) (first last : Nat) (hl : last ≤ 1000000) (hfl : first ≤ last) (fi la : Int) (hfi : fi = (first : Int)) (hla : la = (last : Int)) {gf : Nat} {lb : Array Value} (eg : ∀ args w, (callFunc gf args).run Tryd.prog w = .ok (.enter gf args) w) (w : World)
    (hcl : ∀ X, Below w.heap.size w X → ∀ k : Nat, k ≤ last → Calls Tryd.prog gf (#[.int .i64 (k : Int)] ++ lb) X fun e w' => e = .returned (.int .i64 (code k)) ∧ Below X.heap.size X w') :
    Calls Tryd.prog 62 #[.int .i64 fi, .int .i64 la, .func (.func gf) #[] lb] w fun e w' => e = .returned (.tuple #[.int .i64 (lastF code first (last + 1 - first) first).1, .int .i64 (lastF code first (last + 1 - first) first).2]) ∧ Below w.heap.size w w' := by
  have hM := Mem.nil w
  have Hcl := Lib.hid hcl
  subst hfi hla
  obtain ⟨R, hR⟩ : ∃ R, lastF code first (last + 1 - first) first = R := ⟨_, rfl⟩
  rw [hR]
  have HR : Hid (lastF code first (last + 1 - first) first = R) := Lib.hid hR
  clear hcl hR
  go_enter Tryd.func62, Tryd.ntmps62
  go_wp2
  go_loopw [8] (fun i wr => ∃ x : Nat, first ≤ x ∧ x ≤ last + 1 ∧ i = .int .i64 x ∧ Hid (lastF code first (last + 1 - x) x = R) ∧ Mem w [] wr) (fun i _ => last + 1 - (intOf i).toNat)
  case atStart => exact ⟨first, Nat.le_refl _, by omega, rfl, HR, hM⟩
  case round =>
    clear hM HR
    obtain ⟨x, hx, hxl, rfl, hr, hM⟩ := hrel
    by_cases hlt : x ≤ last
    · have l2 : decide ((x : Int) ≤ last) = true := decide_eq_true (by omega)
      have l3 : (x : Int) ≤ last := by omega
      have hs : last + 1 - x = (last + 1 - (x + 1)) + 1 := by omega
      have hr2 := hr.out
      rw [hs] at hr2
      have hw1 : IntKind.i64.wrap ((x : Int) - 1) = (x : Int) - 1 := IntWalk.i64_in _ (by omega)
      by_cases h6 : code x = 6
      · by_cases hf : first < x
        · have Hr : Hid (R = ((x : Int) - 1, 0)) := Lib.hid (hr2.symm.trans (lastF_found h6 hf))
          have Hc : Hid (∀ X, Below w.heap.size w X → Calls Tryd.prog gf (#[.int .i64 (x : Int)] ++ lb) X fun e w' => e = .returned (.int .i64 6) ∧ Below X.heap.size X w') := Lib.hid (fun X hX => (Hcl.out X hX x hlt).mono (fun e w' h => by rw [h6] at h; exact h))
          have f1 : decide ((first : Int) < x) = true := decide_eq_true (by omega)
          have f2 : (first : Int) < x := by omega
          clear hr2 hs h6 hr Hcl
          go_wp2
          refine (Hc.out _ hM.below).mono ?_
          rintro e W' ⟨rfl, hb'⟩
          have hM' := hM.call hb'
          clear hM hb'
          have hM := hM'
          clear hM'
          go_wp2
          go_ret2
          exact ⟨by rw [Hr.out]; rfl, hM.below⟩
        · have Hr : Hid (R = (0, 6)) := Lib.hid (hr2.symm.trans (lastF_first h6 hf))
          have Hc : Hid (∀ X, Below w.heap.size w X → Calls Tryd.prog gf (#[.int .i64 (x : Int)] ++ lb) X fun e w' => e = .returned (.int .i64 6) ∧ Below X.heap.size X w') := Lib.hid (fun X hX => (Hcl.out X hX x hlt).mono (fun e w' h => by rw [h6] at h; exact h))
          have f1 : decide ((first : Int) < x) = false := decide_eq_false (by omega)
          have f2 : ¬ (first : Int) < x := by omega
          clear hr2 hs h6 hr Hcl
          go_wp2
          refine (Hc.out _ hM.below).mono ?_
          rintro e W' ⟨rfl, hb'⟩
          have hM' := hM.call hb'
          clear hM hb'
          have hM := hM'
          clear hM'
          go_wp2
          go_ret2
          exact ⟨by rw [Hr.out]; rfl, hM.below⟩
      · by_cases h0 : code x = 0
        · have Hr : Hid (lastF code first (last + 1 - (x + 1)) (x + 1) = R) := Lib.hid ((lastF_next h0).symm.trans hr2)
          have Hc : Hid (∀ X, Below w.heap.size w X → Calls Tryd.prog gf (#[.int .i64 (x : Int)] ++ lb) X fun e w' => e = .returned (.int .i64 0) ∧ Below X.heap.size X w') := Lib.hid (fun X hX => (Hcl.out X hX x hlt).mono (fun e w' h => by rw [h0] at h; exact h))
          clear hr2 hs h0 h6 hr
          go_wp2
          refine (Hc.out _ hM.below).mono ?_
          rintro e W' ⟨rfl, hb'⟩
          have hM' := hM.call hb'
          clear hM hb'
          have hM := hM'
          clear hM'
          go_wp2
          go_roundw
          case rel => exact ⟨x + 1, by omega, by omega, by go_num, Hr, hM⟩
          case measure => simp [intOf]; omega
        · have Hr : Hid (R = (0, code x)) := Lib.hid (hr2.symm.trans (lastF_code h6 h0))
          have Hc : Hid (∀ X, Below w.heap.size w X → Calls Tryd.prog gf (#[.int .i64 (x : Int)] ++ lb) X fun e w' => e = .returned (.int .i64 (code x)) ∧ Below X.heap.size X w') := Lib.hid (fun X hX => Hcl.out X hX x hlt)
          have b6 : (code x == 6) = false := by rw [beq_eq_false_iff_ne]; exact h6
          have b0 : (code x == 0) = false := by rw [beq_eq_false_iff_ne]; exact h0
          clear hr2 hs
          generalize code x = C at *
          go_wp2
          refine (Hc.out _ hM.below).mono ?_
          rintro e W' ⟨rfl, hb'⟩
          have hM' := hM.call hb'
          clear hM hb'
          have hM := hM'
          clear hM'
          go_wp2
          go_ret2
          exact ⟨by rw [Hr.out]; rfl, hM.below⟩
    · obtain rfl : x = last + 1 := by omega
      have Hr : Hid (R = ((last : Int), 0)) := Lib.hid (by rw [← hr.out, Nat.sub_self]; simp [lastF])
      have l2 : decide (((last + 1 : Nat) : Int) ≤ last) = false := decide_eq_false (by omega)
      have l3 : ¬ ((last : Int) + 1 ≤ last) := by omega
      clear hr
      go_wp2
      go_ret2
      exact ⟨by rw [Hr.out]; rfl, hM.below⟩
end Go.Proofs.YtbbododeglkghaaDoor

