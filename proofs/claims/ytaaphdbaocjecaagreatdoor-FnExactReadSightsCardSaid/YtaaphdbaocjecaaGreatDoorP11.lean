/-
  Several texts in one: ReadSgS, ReadSgO, SightL, Check, Lists, ReadSights.
-/
import Derived.Test.YtaaphdbaocjecaaGreatDoorP10
import Derived.Test.YtaaphdbaocjecaaGreatDoorP8
import Derived.Test.YtaaphdbaocjecaaGreatDoorP7
import Derived.Test.YtaaphdbaocjecaaGreatDoorP3
import Derived.Test.YtaaphdbaocjecaaGreatDoorP6
/-
  spec.ReadSights by contract.
-/
namespace Go.Proofs.YtaaphdbaocjecaaGreatDoor
open Go Go.RowKit Go.BigFrame

theorem sgt_under : Tryz.prog.underlying 28 = some (.slice 55) := Tryz.underlying28
theorem sgt_size : (Tryz.prog.info? 55).map (fun i => i.size) = some 3 := by kernel_rfl
theorem wpList_buildSgt {ops : Array Oper} {rest : List Oper} {o : Oper} {a : Act} {W : World} {Q : Exit → Act → World → Prop} (hgd : o.guard = none) (u v : Operand) (ho : o.op = .build 55 #[(0, u), (1, v)]) (d x y : Int) (hx : a.eval u = .int .i16 d) (hy : a.eval v = .agg (arr 2 (sp x y)))
    (h : wpList Tryz.prog ops Q rest (a.put o.dst (.agg (arr 3 (vSight (st3 d x y))))) W) : wpList Tryz.prog ops Q (o :: rest) a W := by
  refine wpList_plain hgd fun K hK => ?_
  unfold Oper.wp
  rw [exec_buildSg u v ho d x y hx hy W]
  exact hK _ _ h
set_option maxRecDepth 100000 in
set_option maxHeartbeats 8000000 in
theorem specReadSights_any (l : List UInt8) (hl : l.length ≤ 1048576) (w : World) :
    Calls Tryz.prog 10 #[.string (bs l)] w (ReadS l w) := by
  have hM := Mem.nil w
  have hemp := bs_isEmpty l
  by_cases h0 : l = []
  · subst h0
    have tk_b0 : True := trivial
    go_enter Tryz.func10, Tryz.ntmps10
    go_wp2_with (first | (have _t := tk_b0; refine wpList_slice0 rfl _ _ rfl 3 sgt_under sgt_size hM ?_; intro b0 W' hb0 hM'; clear hM tk_b0; have hM := hM'; clear hM'))
    refine bodyPost_ret (results_tmp2 rfl _ _ _) rfl ?_
    exact ⟨_, 0, fun _ _ => 0, 0, rfl, .inr ⟨b0, 0, _, rfl, hb0, Nat.le_refl _, fun j hj => absurd hj (by omega), hM⟩, .inl ⟨⟨rfl, rfl⟩, rfl⟩⟩
  have hne : (bs l).toList.isEmpty = false := by
    rw [hemp]; cases l with
    | nil => exact absurd rfl h0
    | cons a r => rfl
  obtain ⟨n, hn⟩ : ∃ n, (partsC 32 l).length = n := ⟨_, rfl⟩
  have HS := Lib.hid (splitTo_any l 32 32 n rfl hl hn)
  have Hn := Lib.hid hn
  have H0 := Lib.hid h0
  have hn0 : 1 ≤ n := by rw [← hn]; exact List.length_pos_iff.2 (partsC_ne 32 l)
  clear hemp h0 hn
  by_cases hmany : 40 < n
  · have Hb := Lib.hid (ws_many H0.out Hn.out hmany)
    have d1 : decide ((n : Int) > 40) = true := decide_eq_true (by omega)
    have d2 : (40 : Int) < n := by omega
    have tk_b0 : True := trivial; have tk_wb : True := trivial; have tk_b9 : True := trivial
    go_enter Tryz.func10, Tryz.ntmps10
    go_wp2_with (first | (have _t := tk_b0; refine wpList_slice0 rfl _ _ rfl 3 sgt_under sgt_size hM ?_; intro b0 W' hb0 hM'; clear hM tk_b0; have hM := hM'; clear hM') | (have _t := tk_wb; go_at_call 15; refine (HS.out _).mono ?_; rintro e W' ⟨wb, cwb, Fwb, rfl, hwb, hcwb, hF', hA', hcb⟩; have hM' := hM.fresh' hcb hA' hwb; simp only [List.cons_append, List.nil_append] at hM'; have Hwb := Lib.hid hF'; clear hM hF' hA' hcb tk_wb; have hM := hM'; clear hM') | (have _t := tk_b9; refine wpList_slice0 rfl _ _ rfl 3 sgt_under sgt_size hM ?_; intro b9 W' hb9 hM'; clear hM tk_b9; have hM := hM'; clear hM'))
    refine bodyPost_ret (results_tmp2 rfl _ _ _) rfl ?_
    exact readS_no hM hb9 Hb.out
  have h40 : n ≤ 40 := by omega
  have d1 : decide ((n : Int) > 40) = false := decide_eq_false (by omega)
  have d2 : ¬ (40 : Int) < n := by omega
  have HL := Lib.hid (fun j => Nat.le_trans (part_len 32 l j) hl)
  have Hbad := Lib.hid (fun j (hj : j < n) h => ws_bad H0.out Hn.out hj h)
  have Hall := Lib.hid (ws_all Hn.out h40)
  have Hdown := Lib.hid (ws_down H0.out Hn.out)
  have Hws := Lib.hid (show ∀ j, wsHs l j = wsH ((partsC 32 l).getD j []) from fun j => rfl)
  have Htx := Lib.hid (show ∀ j, txF (partsC 32 l) j = .string (bs ((partsC 32 l).getD j [])) from fun j => rfl)
  clear hmany hl
  generalize partsC 32 l = ws at HS Hn HL Hbad Hall Hdown Hws Htx
  have tk_b0 : True := trivial; have tk_wb : True := trivial
  go_enter Tryz.func10, Tryz.ntmps10
  go_wp2_with (first | (have _t := tk_b0; refine wpList_slice0 rfl _ _ rfl 3 sgt_under sgt_size hM ?_; intro b0 W' hb0 hM'; clear hM tk_b0; have hM := hM'; clear hM') | (have _t := tk_wb; go_at_call 15; refine (HS.out _).mono ?_; rintro e W' ⟨wb, cwb, Fwb, rfl, hwb, hcwb, hF', hA', hcb⟩; have hM' := hM.fresh' hcb hA' hwb; simp only [List.cons_append, List.nil_append] at hM'; have Hwb := Lib.hid hF'; clear hM hF' hA' hcb tk_wb; have hM := hM'; clear hM'))
  go_loopw [4, 6] (fun s i wr => ∃ k : Nat, k ≤ n ∧ i = .int .i64 k ∧ Hid (∀ j, j < k → WsOk (ws.getD j [])) ∧ ∃ b1 c1 F1, s = .slice (some ⟨b1, 0, none⟩) k c1 ∧ (Base.of w).B ≤ b1 ∧ k ≤ c1 ∧ Hid (∀ j, j < k * 3 → F1 j = sSight (wsHs l) j) ∧ Mem (Base.of w) [(b1, c1 * 3, F1), (wb, cwb * 1, Fwb)] wr) (fun _ i _ => n - (intOf i).toNat)
  case atStart => exact ⟨0, by omega, rfl, Lib.hid (fun j hj => absurd hj (by omega)), b0, 0, _, rfl, hb0, Nat.le_refl _, Lib.hid (fun j hj => absurd hj (by omega)), hM⟩
  case round =>
    clear hM
    obtain ⟨k, hk, rfl, hok, b1, c1, F1, rfl, hb1, hnc, hFF, hM⟩ := hrel
    by_cases hlt : k < n
    · have l2 : (k : Int) < n := by omega
      have hle : k ≤ 1048576 := by omega
      obtain ⟨wd, hwd⟩ : ∃ wd, ws.getD k [] = wd := ⟨_, rfl⟩
      have e0 : Fwb k = .string (bs wd) := by rw [Hwb.out k hlt, Htx.out, hwd]
      have e1 : Fwb (k * 1) = .string (bs wd) := by rw [Nat.mul_one]; exact e0
      have hwl := HL.out k
      rw [hwd] at hwl
      have Hwd := Lib.hid hwd
      have HbK := Lib.hid (show ¬ WsOk wd → ∀ m gs, ¬ TellsS l m gs from fun h => Hbad.out k hlt (by rw [hwd]; exact h))
      clear hwd
      obtain ⟨np, hnp⟩ : ∃ np, (partsC 58 wd).length = np := ⟨_, rfl⟩
      have HS1 := Lib.hid (splitTo_any wd 58 58 np rfl hwl hnp)
      by_cases hp2 : np ≠ 2
      · have Hb := Lib.hid (HbK.out (fun h => hp2 (by rw [← hnp]; exact h.p)))
        have d3 : decide ((np : Int) ≠ 2) = true := decide_eq_true (by omega)
        have d4 : ((np : Int) == 2) = false := by rw [beq_eq_false_iff_ne]; omega
        have d5 : ¬ (np : Int) = 2 := by omega
        clear hnp hp2
        have tk_r1 : True := trivial; have tk_s1 : True := trivial; have tk_b9 : True := trivial
        go_wp2_with (first | (have _t := tk_r1; refine wpList_get1 rfl _ _ rfl _ _ rfl hM 1 rfl (cellTab _ rfl) (by omega) _ (by first | exact e0 | exact e1) ?_; clear tk_r1) | (have _t := tk_s1; go_at_call 15; refine (HS1.out _).mono ?_; rintro e W' ⟨pb, cpb, Fpb, rfl, hpb, hcpb, hF', hA', hcb⟩; have hM' := hM.fresh' hcb hA' hpb; simp only [List.cons_append, List.nil_append] at hM'; have Hpb := Lib.hid hF'; clear hM hF' hA' hcb tk_s1; have hM := hM'; clear hM') | (have _t := tk_b9; refine wpList_slice0 rfl _ _ rfl 3 sgt_under sgt_size hM ?_; intro b9 W' hb9 hM'; clear hM tk_b9; have hM := hM'; clear hM'))
        refine bodyPost_ret (results_tmp2 rfl _ _ _) rfl ?_
        exact readS_no hM hb9 Hb.out
      obtain rfl : np = 2 := by omega
      have hPl := part_len 58 wd 1
      have hQl := part_len 58 wd 0
      rw [show (partsC 58 wd).getD 1 [] = wsP wd from rfl] at hPl
      have Hpt := Lib.hid (show txF (partsC 58 wd) 0 = .string (bs (wsN wd)) ∧ txF (partsC 58 wd) 1 = .string (bs (wsP wd)) from ⟨rfl, rfl⟩)
      have HP := Lib.hid hnp
      generalize partsC 58 wd = pp at HS1 Hpt
      clear hp2 hnp hQl
      obtain ⟨ns, hns⟩ : ∃ ns, (partsC 44 (wsP wd)).length = ns := ⟨_, rfl⟩
      have HS2 := Lib.hid (splitTo_any (wsP wd) 44 44 ns rfl (by omega) hns)
      by_cases hs2 : ns ≠ 2
      · have Hb := Lib.hid (HbK.out (fun h => hs2 (by rw [← hns]; exact h.s)))
        have d4 : ((ns : Int) == 2) = false := by rw [beq_eq_false_iff_ne]; omega
        have d3 : decide ((ns : Int) ≠ 2) = true := decide_eq_true (by omega)
        have d5 : ¬ (ns : Int) = 2 := by omega
        clear hns hs2
        have tk_r1 : True := trivial; have tk_s1 : True := trivial; have tk_r2 : True := trivial; have tk_s2 : True := trivial; have tk_b9 : True := trivial
        go_wp2_with (first | (have _t := tk_r1; refine wpList_get1 rfl _ _ rfl _ _ rfl hM 1 rfl (cellTab _ rfl) (by omega) _ (by first | exact e0 | exact e1) ?_; clear tk_r1) | (have _t := tk_s1; go_at_call 15; refine (HS1.out _).mono ?_; rintro e W' ⟨pb, cpb, Fpb, rfl, hpb, hcpb, hF', hA', hcb⟩; have hM' := hM.fresh' hcb hA' hpb; simp only [List.cons_append, List.nil_append] at hM'; have Hpb := Lib.hid hF'; clear hM hF' hA' hcb tk_s1; have hM := hM'; clear hM') | (have _t := tk_r2; refine wpList_get1 rfl _ _ rfl _ _ rfl hM 2 rfl (cellTab _ rfl) (by omega) _ ((Hpb.out 1 (by omega)).trans Hpt.out.2) ?_; clear tk_r2) | (have _t := tk_s2; go_at_call 15; refine (HS2.out _).mono ?_; rintro e W' ⟨qb, cqb, Fqb, rfl, hqb, hcqb, hF', hA', hcb⟩; have hM' := hM.fresh' hcb hA' hqb; simp only [List.cons_append, List.nil_append] at hM'; have Hqb := Lib.hid hF'; clear hM hF' hA' hcb tk_s2; have hM := hM'; clear hM') | (have _t := tk_b9; refine wpList_slice0 rfl _ _ rfl 3 sgt_under sgt_size hM ?_; intro b9 W' hb9 hM'; clear hM tk_b9; have hM := hM'; clear hM'))
        refine bodyPost_ret (results_tmp2 rfl _ _ _) rfl ?_
        exact readS_no hM hb9 Hb.out
      obtain rfl : ns = 2 := by omega
      have Hst := Lib.hid (show txF (partsC 44 (wsP wd)) 0 = .string (bs (wsU wd)) ∧ txF (partsC 44 (wsP wd)) 1 = .string (bs (wsV wd)) from ⟨rfl, rfl⟩)
      have HSL := Lib.hid hns
      generalize partsC 44 (wsP wd) = pq at HS2 Hst
      clear hs2 hns
      have HN1 := Lib.hid (l01Number_any (wsN wd))
      have HN2 := Lib.hid (l01Number_any (wsU wd))
      have HN3 := Lib.hid (l01Number_any (wsV wd))
      have HR := Lib.hid (l01Grass_any (numV (wsN wd)))
      have Hyes := Lib.hid (fun o1 o2 o3 hr hx hy => (show WsOk wd from ⟨HP.out, HSL.out, o1, o2, o3, hr, hx, hy⟩))
      have Hno := Lib.hid (show (numB9 (wsN wd) = false ∨ numB9 (wsU wd) = false ∨ numB9 (wsV wd) = false ∨ inB 0 1000 (numV (wsN wd)) = false ∨ 10 ≤ numV (wsU wd) ∨ 10 ≤ numV (wsV wd)) → ∀ m gs, ¬ TellsS l m gs from fun h => HbK.out (fun o => by
        rcases h with h | h | h | h | h | h
        · rw [o.q] at h; cases h
        · rw [o.u] at h; cases h
        · rw [o.v] at h; cases h
        · rw [o.r] at h; cases h
        · have := o.x; omega
        · have := o.y; omega))
      have HH := Lib.hid (show wsH wd = st3 (numV (wsN wd)) (numV (wsU wd)) (numV (wsV wd)) from rfl)
      obtain ⟨hq0, hx0, hy0⟩ : 0 ≤ numV (wsN wd) ∧ 0 ≤ numV (wsU wd) ∧ 0 ≤ numV (wsV wd) := ⟨numV_pos, numV_pos, numV_pos⟩
      generalize numV (wsN wd) = q at HN1 HR Hyes Hno HH hq0
      generalize numV (wsU wd) = x at HN2 Hyes Hno HH hx0
      generalize numV (wsV wd) = y at HN3 Hyes Hno HH hy0
      generalize numB9 (wsN wd) = o1 at HN1 Hyes Hno
      generalize numB9 (wsU wd) = o2 at HN2 Hyes Hno
      generalize numB9 (wsV wd) = o3 at HN3 Hyes Hno
      obtain ⟨o4, ho4⟩ : ∃ o4, inB 0 1000 q = o4 := ⟨_, rfl⟩
      rw [ho4] at HR Hyes Hno
      generalize wsN wd = tq at HN1 Hpt
      generalize wsU wd = tu at HN2 Hst
      generalize wsV wd = tv at HN3 Hst
      clear HP HSL HbK hPl
      cases o1
      · have Hb := Lib.hid (Hno.out (.inl rfl))
        clear Hno Hyes
        have tk_r1 : True := trivial; have tk_s1 : True := trivial; have tk_r2 : True := trivial; have tk_s2 : True := trivial; have tk_r3 : True := trivial; have tk_r4 : True := trivial; have tk_r5 : True := trivial; have tk_n1 : True := trivial; have tk_n2 : True := trivial; have tk_n3 : True := trivial; have tk_b9 : True := trivial
        go_wp2_with (first | (have _t := tk_r1; refine wpList_get1 rfl _ _ rfl _ _ rfl hM 1 rfl (cellTab _ rfl) (by omega) _ (by first | exact e0 | exact e1) ?_; clear tk_r1) | (have _t := tk_s1; go_at_call 15; refine (HS1.out _).mono ?_; rintro e W' ⟨pb, cpb, Fpb, rfl, hpb, hcpb, hF', hA', hcb⟩; have hM' := hM.fresh' hcb hA' hpb; simp only [List.cons_append, List.nil_append] at hM'; have Hpb := Lib.hid hF'; clear hM hF' hA' hcb tk_s1; have hM := hM'; clear hM') | (have _t := tk_r2; refine wpList_get1 rfl _ _ rfl _ _ rfl hM 2 rfl (cellTab _ rfl) (by omega) _ ((Hpb.out 1 (by omega)).trans Hpt.out.2) ?_; clear tk_r2) | (have _t := tk_s2; go_at_call 15; refine (HS2.out _).mono ?_; rintro e W' ⟨qb, cqb, Fqb, rfl, hqb, hcqb, hF', hA', hcb⟩; have hM' := hM.fresh' hcb hA' hqb; simp only [List.cons_append, List.nil_append] at hM'; have Hqb := Lib.hid hF'; clear hM hF' hA' hcb tk_s2; have hM := hM'; clear hM') | (have _t := tk_r3; refine wpList_get1 rfl _ _ rfl _ _ rfl hM 2 rfl (cellTab _ rfl) (by omega) _ ((Hpb.out 0 (by omega)).trans Hpt.out.1) ?_; clear tk_r3) | (have _t := tk_n1; (go_at_call 17; refine (HN1.out _).mono ?_; rintro e W' ⟨rfl, hb'⟩; have hM' := hM.call hb'; clear hM hb'; have hM := hM'; clear hM'); clear tk_n1) | (have _t := tk_r4; refine wpList_get1 rfl _ _ rfl _ _ rfl hM 3 rfl (cellTab _ rfl) (by omega) _ ((Hqb.out 0 (by omega)).trans Hst.out.1) ?_; clear tk_r4) | (have _t := tk_n2; (go_at_call 17; refine (HN2.out _).mono ?_; rintro e W' ⟨rfl, hb'⟩; have hM' := hM.call hb'; clear hM hb'; have hM := hM'; clear hM'); clear tk_n2) | (have _t := tk_r5; refine wpList_get1 rfl _ _ rfl _ _ rfl hM 3 rfl (cellTab _ rfl) (by omega) _ ((Hqb.out 1 (by omega)).trans Hst.out.2) ?_; clear tk_r5) | (have _t := tk_n3; (go_at_call 17; refine (HN3.out _).mono ?_; rintro e W' ⟨rfl, hb'⟩; have hM' := hM.call hb'; clear hM hb'; have hM := hM'; clear hM'); clear tk_n3) | (go_at_call 23; refine (HR.out _).mono ?_; rintro e W' ⟨rfl, hb'⟩; have hM' := hM.call hb'; clear hM hb'; have hM := hM'; clear hM') | (have _t := tk_b9; refine wpList_slice0 rfl _ _ rfl 3 sgt_under sgt_size hM ?_; intro b9 W' hb9 hM'; clear hM tk_b9; have hM := hM'; clear hM'))
        refine bodyPost_ret (results_tmp2 rfl _ _ _) rfl ?_
        exact readS_no hM hb9 Hb.out
      cases o2
      · have Hb := Lib.hid (Hno.out (.inr (.inl rfl)))
        clear Hno Hyes
        have tk_r1 : True := trivial; have tk_s1 : True := trivial; have tk_r2 : True := trivial; have tk_s2 : True := trivial; have tk_r3 : True := trivial; have tk_r4 : True := trivial; have tk_r5 : True := trivial; have tk_n1 : True := trivial; have tk_n2 : True := trivial; have tk_n3 : True := trivial; have tk_b9 : True := trivial
        go_wp2_with (first | (have _t := tk_r1; refine wpList_get1 rfl _ _ rfl _ _ rfl hM 1 rfl (cellTab _ rfl) (by omega) _ (by first | exact e0 | exact e1) ?_; clear tk_r1) | (have _t := tk_s1; go_at_call 15; refine (HS1.out _).mono ?_; rintro e W' ⟨pb, cpb, Fpb, rfl, hpb, hcpb, hF', hA', hcb⟩; have hM' := hM.fresh' hcb hA' hpb; simp only [List.cons_append, List.nil_append] at hM'; have Hpb := Lib.hid hF'; clear hM hF' hA' hcb tk_s1; have hM := hM'; clear hM') | (have _t := tk_r2; refine wpList_get1 rfl _ _ rfl _ _ rfl hM 2 rfl (cellTab _ rfl) (by omega) _ ((Hpb.out 1 (by omega)).trans Hpt.out.2) ?_; clear tk_r2) | (have _t := tk_s2; go_at_call 15; refine (HS2.out _).mono ?_; rintro e W' ⟨qb, cqb, Fqb, rfl, hqb, hcqb, hF', hA', hcb⟩; have hM' := hM.fresh' hcb hA' hqb; simp only [List.cons_append, List.nil_append] at hM'; have Hqb := Lib.hid hF'; clear hM hF' hA' hcb tk_s2; have hM := hM'; clear hM') | (have _t := tk_r3; refine wpList_get1 rfl _ _ rfl _ _ rfl hM 2 rfl (cellTab _ rfl) (by omega) _ ((Hpb.out 0 (by omega)).trans Hpt.out.1) ?_; clear tk_r3) | (have _t := tk_n1; (go_at_call 17; refine (HN1.out _).mono ?_; rintro e W' ⟨rfl, hb'⟩; have hM' := hM.call hb'; clear hM hb'; have hM := hM'; clear hM'); clear tk_n1) | (have _t := tk_r4; refine wpList_get1 rfl _ _ rfl _ _ rfl hM 3 rfl (cellTab _ rfl) (by omega) _ ((Hqb.out 0 (by omega)).trans Hst.out.1) ?_; clear tk_r4) | (have _t := tk_n2; (go_at_call 17; refine (HN2.out _).mono ?_; rintro e W' ⟨rfl, hb'⟩; have hM' := hM.call hb'; clear hM hb'; have hM := hM'; clear hM'); clear tk_n2) | (have _t := tk_r5; refine wpList_get1 rfl _ _ rfl _ _ rfl hM 3 rfl (cellTab _ rfl) (by omega) _ ((Hqb.out 1 (by omega)).trans Hst.out.2) ?_; clear tk_r5) | (have _t := tk_n3; (go_at_call 17; refine (HN3.out _).mono ?_; rintro e W' ⟨rfl, hb'⟩; have hM' := hM.call hb'; clear hM hb'; have hM := hM'; clear hM'); clear tk_n3) | (go_at_call 23; refine (HR.out _).mono ?_; rintro e W' ⟨rfl, hb'⟩; have hM' := hM.call hb'; clear hM hb'; have hM := hM'; clear hM') | (have _t := tk_b9; refine wpList_slice0 rfl _ _ rfl 3 sgt_under sgt_size hM ?_; intro b9 W' hb9 hM'; clear hM tk_b9; have hM := hM'; clear hM'))
        refine bodyPost_ret (results_tmp2 rfl _ _ _) rfl ?_
        exact readS_no hM hb9 Hb.out
      cases o3
      · have Hb := Lib.hid (Hno.out (.inr (.inr (.inl rfl))))
        clear Hno Hyes
        have tk_r1 : True := trivial; have tk_s1 : True := trivial; have tk_r2 : True := trivial; have tk_s2 : True := trivial; have tk_r3 : True := trivial; have tk_r4 : True := trivial; have tk_r5 : True := trivial; have tk_n1 : True := trivial; have tk_n2 : True := trivial; have tk_n3 : True := trivial; have tk_b9 : True := trivial
        go_wp2_with (first | (have _t := tk_r1; refine wpList_get1 rfl _ _ rfl _ _ rfl hM 1 rfl (cellTab _ rfl) (by omega) _ (by first | exact e0 | exact e1) ?_; clear tk_r1) | (have _t := tk_s1; go_at_call 15; refine (HS1.out _).mono ?_; rintro e W' ⟨pb, cpb, Fpb, rfl, hpb, hcpb, hF', hA', hcb⟩; have hM' := hM.fresh' hcb hA' hpb; simp only [List.cons_append, List.nil_append] at hM'; have Hpb := Lib.hid hF'; clear hM hF' hA' hcb tk_s1; have hM := hM'; clear hM') | (have _t := tk_r2; refine wpList_get1 rfl _ _ rfl _ _ rfl hM 2 rfl (cellTab _ rfl) (by omega) _ ((Hpb.out 1 (by omega)).trans Hpt.out.2) ?_; clear tk_r2) | (have _t := tk_s2; go_at_call 15; refine (HS2.out _).mono ?_; rintro e W' ⟨qb, cqb, Fqb, rfl, hqb, hcqb, hF', hA', hcb⟩; have hM' := hM.fresh' hcb hA' hqb; simp only [List.cons_append, List.nil_append] at hM'; have Hqb := Lib.hid hF'; clear hM hF' hA' hcb tk_s2; have hM := hM'; clear hM') | (have _t := tk_r3; refine wpList_get1 rfl _ _ rfl _ _ rfl hM 2 rfl (cellTab _ rfl) (by omega) _ ((Hpb.out 0 (by omega)).trans Hpt.out.1) ?_; clear tk_r3) | (have _t := tk_n1; (go_at_call 17; refine (HN1.out _).mono ?_; rintro e W' ⟨rfl, hb'⟩; have hM' := hM.call hb'; clear hM hb'; have hM := hM'; clear hM'); clear tk_n1) | (have _t := tk_r4; refine wpList_get1 rfl _ _ rfl _ _ rfl hM 3 rfl (cellTab _ rfl) (by omega) _ ((Hqb.out 0 (by omega)).trans Hst.out.1) ?_; clear tk_r4) | (have _t := tk_n2; (go_at_call 17; refine (HN2.out _).mono ?_; rintro e W' ⟨rfl, hb'⟩; have hM' := hM.call hb'; clear hM hb'; have hM := hM'; clear hM'); clear tk_n2) | (have _t := tk_r5; refine wpList_get1 rfl _ _ rfl _ _ rfl hM 3 rfl (cellTab _ rfl) (by omega) _ ((Hqb.out 1 (by omega)).trans Hst.out.2) ?_; clear tk_r5) | (have _t := tk_n3; (go_at_call 17; refine (HN3.out _).mono ?_; rintro e W' ⟨rfl, hb'⟩; have hM' := hM.call hb'; clear hM hb'; have hM := hM'; clear hM'); clear tk_n3) | (go_at_call 23; refine (HR.out _).mono ?_; rintro e W' ⟨rfl, hb'⟩; have hM' := hM.call hb'; clear hM hb'; have hM := hM'; clear hM') | (have _t := tk_b9; refine wpList_slice0 rfl _ _ rfl 3 sgt_under sgt_size hM ?_; intro b9 W' hb9 hM'; clear hM tk_b9; have hM := hM'; clear hM'))
        refine bodyPost_ret (results_tmp2 rfl _ _ _) rfl ?_
        exact readS_no hM hb9 Hb.out
      have Hr4 := Lib.hid ho4
      clear ho4
      cases o4
      · have Hb := Lib.hid (Hno.out (.inr (.inr (.inr (.inl rfl)))))
        clear Hno Hyes
        have tk_r1 : True := trivial; have tk_s1 : True := trivial; have tk_r2 : True := trivial; have tk_s2 : True := trivial; have tk_r3 : True := trivial; have tk_r4 : True := trivial; have tk_r5 : True := trivial; have tk_n1 : True := trivial; have tk_n2 : True := trivial; have tk_n3 : True := trivial; have tk_b9 : True := trivial
        go_wp2_with (first | (have _t := tk_r1; refine wpList_get1 rfl _ _ rfl _ _ rfl hM 1 rfl (cellTab _ rfl) (by omega) _ (by first | exact e0 | exact e1) ?_; clear tk_r1) | (have _t := tk_s1; go_at_call 15; refine (HS1.out _).mono ?_; rintro e W' ⟨pb, cpb, Fpb, rfl, hpb, hcpb, hF', hA', hcb⟩; have hM' := hM.fresh' hcb hA' hpb; simp only [List.cons_append, List.nil_append] at hM'; have Hpb := Lib.hid hF'; clear hM hF' hA' hcb tk_s1; have hM := hM'; clear hM') | (have _t := tk_r2; refine wpList_get1 rfl _ _ rfl _ _ rfl hM 2 rfl (cellTab _ rfl) (by omega) _ ((Hpb.out 1 (by omega)).trans Hpt.out.2) ?_; clear tk_r2) | (have _t := tk_s2; go_at_call 15; refine (HS2.out _).mono ?_; rintro e W' ⟨qb, cqb, Fqb, rfl, hqb, hcqb, hF', hA', hcb⟩; have hM' := hM.fresh' hcb hA' hqb; simp only [List.cons_append, List.nil_append] at hM'; have Hqb := Lib.hid hF'; clear hM hF' hA' hcb tk_s2; have hM := hM'; clear hM') | (have _t := tk_r3; refine wpList_get1 rfl _ _ rfl _ _ rfl hM 2 rfl (cellTab _ rfl) (by omega) _ ((Hpb.out 0 (by omega)).trans Hpt.out.1) ?_; clear tk_r3) | (have _t := tk_n1; (go_at_call 17; refine (HN1.out _).mono ?_; rintro e W' ⟨rfl, hb'⟩; have hM' := hM.call hb'; clear hM hb'; have hM := hM'; clear hM'); clear tk_n1) | (have _t := tk_r4; refine wpList_get1 rfl _ _ rfl _ _ rfl hM 3 rfl (cellTab _ rfl) (by omega) _ ((Hqb.out 0 (by omega)).trans Hst.out.1) ?_; clear tk_r4) | (have _t := tk_n2; (go_at_call 17; refine (HN2.out _).mono ?_; rintro e W' ⟨rfl, hb'⟩; have hM' := hM.call hb'; clear hM hb'; have hM := hM'; clear hM'); clear tk_n2) | (have _t := tk_r5; refine wpList_get1 rfl _ _ rfl _ _ rfl hM 3 rfl (cellTab _ rfl) (by omega) _ ((Hqb.out 1 (by omega)).trans Hst.out.2) ?_; clear tk_r5) | (have _t := tk_n3; (go_at_call 17; refine (HN3.out _).mono ?_; rintro e W' ⟨rfl, hb'⟩; have hM' := hM.call hb'; clear hM hb'; have hM := hM'; clear hM'); clear tk_n3) | (go_at_call 23; refine (HR.out _).mono ?_; rintro e W' ⟨rfl, hb'⟩; have hM' := hM.call hb'; clear hM hb'; have hM := hM'; clear hM') | (have _t := tk_b9; refine wpList_slice0 rfl _ _ rfl 3 sgt_under sgt_size hM ?_; intro b9 W' hb9 hM'; clear hM tk_b9; have hM := hM'; clear hM'))
        refine bodyPost_ret (results_tmp2 rfl _ _ _) rfl ?_
        exact readS_no hM hb9 Hb.out
      by_cases hx : 10 ≤ x
      · have Hb := Lib.hid (Hno.out (.inr (.inr (.inr (.inr (.inl hx))))))
        have qx : decide (x ≥ 10) = true := decide_eq_true hx
        clear Hno Hyes
        have tk_r1 : True := trivial; have tk_s1 : True := trivial; have tk_r2 : True := trivial; have tk_s2 : True := trivial; have tk_r3 : True := trivial; have tk_r4 : True := trivial; have tk_r5 : True := trivial; have tk_n1 : True := trivial; have tk_n2 : True := trivial; have tk_n3 : True := trivial; have tk_b9 : True := trivial
        go_wp2_with (first | (have _t := tk_r1; refine wpList_get1 rfl _ _ rfl _ _ rfl hM 1 rfl (cellTab _ rfl) (by omega) _ (by first | exact e0 | exact e1) ?_; clear tk_r1) | (have _t := tk_s1; go_at_call 15; refine (HS1.out _).mono ?_; rintro e W' ⟨pb, cpb, Fpb, rfl, hpb, hcpb, hF', hA', hcb⟩; have hM' := hM.fresh' hcb hA' hpb; simp only [List.cons_append, List.nil_append] at hM'; have Hpb := Lib.hid hF'; clear hM hF' hA' hcb tk_s1; have hM := hM'; clear hM') | (have _t := tk_r2; refine wpList_get1 rfl _ _ rfl _ _ rfl hM 2 rfl (cellTab _ rfl) (by omega) _ ((Hpb.out 1 (by omega)).trans Hpt.out.2) ?_; clear tk_r2) | (have _t := tk_s2; go_at_call 15; refine (HS2.out _).mono ?_; rintro e W' ⟨qb, cqb, Fqb, rfl, hqb, hcqb, hF', hA', hcb⟩; have hM' := hM.fresh' hcb hA' hqb; simp only [List.cons_append, List.nil_append] at hM'; have Hqb := Lib.hid hF'; clear hM hF' hA' hcb tk_s2; have hM := hM'; clear hM') | (have _t := tk_r3; refine wpList_get1 rfl _ _ rfl _ _ rfl hM 2 rfl (cellTab _ rfl) (by omega) _ ((Hpb.out 0 (by omega)).trans Hpt.out.1) ?_; clear tk_r3) | (have _t := tk_n1; (go_at_call 17; refine (HN1.out _).mono ?_; rintro e W' ⟨rfl, hb'⟩; have hM' := hM.call hb'; clear hM hb'; have hM := hM'; clear hM'); clear tk_n1) | (have _t := tk_r4; refine wpList_get1 rfl _ _ rfl _ _ rfl hM 3 rfl (cellTab _ rfl) (by omega) _ ((Hqb.out 0 (by omega)).trans Hst.out.1) ?_; clear tk_r4) | (have _t := tk_n2; (go_at_call 17; refine (HN2.out _).mono ?_; rintro e W' ⟨rfl, hb'⟩; have hM' := hM.call hb'; clear hM hb'; have hM := hM'; clear hM'); clear tk_n2) | (have _t := tk_r5; refine wpList_get1 rfl _ _ rfl _ _ rfl hM 3 rfl (cellTab _ rfl) (by omega) _ ((Hqb.out 1 (by omega)).trans Hst.out.2) ?_; clear tk_r5) | (have _t := tk_n3; (go_at_call 17; refine (HN3.out _).mono ?_; rintro e W' ⟨rfl, hb'⟩; have hM' := hM.call hb'; clear hM hb'; have hM := hM'; clear hM'); clear tk_n3) | (go_at_call 23; refine (HR.out _).mono ?_; rintro e W' ⟨rfl, hb'⟩; have hM' := hM.call hb'; clear hM hb'; have hM := hM'; clear hM') | (have _t := tk_b9; refine wpList_slice0 rfl _ _ rfl 3 sgt_under sgt_size hM ?_; intro b9 W' hb9 hM'; clear hM tk_b9; have hM := hM'; clear hM'))
        refine bodyPost_ret (results_tmp2 rfl _ _ _) rfl ?_
        exact readS_no hM hb9 Hb.out
      have qx : decide (x ≥ 10) = false := decide_eq_false hx
      by_cases hy : 10 ≤ y
      · have Hb := Lib.hid (Hno.out (.inr (.inr (.inr (.inr (.inr hy))))))
        have qy : decide (y ≥ 10) = true := decide_eq_true hy
        clear Hno Hyes
        have tk_r1 : True := trivial; have tk_s1 : True := trivial; have tk_r2 : True := trivial; have tk_s2 : True := trivial; have tk_r3 : True := trivial; have tk_r4 : True := trivial; have tk_r5 : True := trivial; have tk_n1 : True := trivial; have tk_n2 : True := trivial; have tk_n3 : True := trivial; have tk_b9 : True := trivial
        go_wp2_with (first | (have _t := tk_r1; refine wpList_get1 rfl _ _ rfl _ _ rfl hM 1 rfl (cellTab _ rfl) (by omega) _ (by first | exact e0 | exact e1) ?_; clear tk_r1) | (have _t := tk_s1; go_at_call 15; refine (HS1.out _).mono ?_; rintro e W' ⟨pb, cpb, Fpb, rfl, hpb, hcpb, hF', hA', hcb⟩; have hM' := hM.fresh' hcb hA' hpb; simp only [List.cons_append, List.nil_append] at hM'; have Hpb := Lib.hid hF'; clear hM hF' hA' hcb tk_s1; have hM := hM'; clear hM') | (have _t := tk_r2; refine wpList_get1 rfl _ _ rfl _ _ rfl hM 2 rfl (cellTab _ rfl) (by omega) _ ((Hpb.out 1 (by omega)).trans Hpt.out.2) ?_; clear tk_r2) | (have _t := tk_s2; go_at_call 15; refine (HS2.out _).mono ?_; rintro e W' ⟨qb, cqb, Fqb, rfl, hqb, hcqb, hF', hA', hcb⟩; have hM' := hM.fresh' hcb hA' hqb; simp only [List.cons_append, List.nil_append] at hM'; have Hqb := Lib.hid hF'; clear hM hF' hA' hcb tk_s2; have hM := hM'; clear hM') | (have _t := tk_r3; refine wpList_get1 rfl _ _ rfl _ _ rfl hM 2 rfl (cellTab _ rfl) (by omega) _ ((Hpb.out 0 (by omega)).trans Hpt.out.1) ?_; clear tk_r3) | (have _t := tk_n1; (go_at_call 17; refine (HN1.out _).mono ?_; rintro e W' ⟨rfl, hb'⟩; have hM' := hM.call hb'; clear hM hb'; have hM := hM'; clear hM'); clear tk_n1) | (have _t := tk_r4; refine wpList_get1 rfl _ _ rfl _ _ rfl hM 3 rfl (cellTab _ rfl) (by omega) _ ((Hqb.out 0 (by omega)).trans Hst.out.1) ?_; clear tk_r4) | (have _t := tk_n2; (go_at_call 17; refine (HN2.out _).mono ?_; rintro e W' ⟨rfl, hb'⟩; have hM' := hM.call hb'; clear hM hb'; have hM := hM'; clear hM'); clear tk_n2) | (have _t := tk_r5; refine wpList_get1 rfl _ _ rfl _ _ rfl hM 3 rfl (cellTab _ rfl) (by omega) _ ((Hqb.out 1 (by omega)).trans Hst.out.2) ?_; clear tk_r5) | (have _t := tk_n3; (go_at_call 17; refine (HN3.out _).mono ?_; rintro e W' ⟨rfl, hb'⟩; have hM' := hM.call hb'; clear hM hb'; have hM := hM'; clear hM'); clear tk_n3) | (go_at_call 23; refine (HR.out _).mono ?_; rintro e W' ⟨rfl, hb'⟩; have hM' := hM.call hb'; clear hM hb'; have hM := hM'; clear hM') | (have _t := tk_b9; refine wpList_slice0 rfl _ _ rfl 3 sgt_under sgt_size hM ?_; intro b9 W' hb9 hM'; clear hM tk_b9; have hM := hM'; clear hM'))
        refine bodyPost_ret (results_tmp2 rfl _ _ _) rfl ?_
        exact readS_no hM hb9 Hb.out
      have qy : decide (y ≥ 10) = false := decide_eq_false hy
      have cx : IntKind.i8.wrap x = x := IntWalk.i8_in _ (by omega)
      have cy : IntKind.i8.wrap y = y := IntWalk.i8_in _ (by omega)
      have Hq16 : Hid (IntKind.i16.wrap q = q) := Lib.hid (by
        have := inB_true Hr4.out
        exact IntWalk.i16_in _ (by omega))
      have cq := Hq16.out
      have Hk := Lib.hid (Hyes.out rfl rfl rfl rfl (by omega) (by omega))
      have Hnew := Lib.hid (show ∀ j, j < 3 → vSight (st3 q x y) j = sSight (wsHs l) (k * 3 + j) from fun j hj => by rw [sSight_row _ _ _ hj, Hws.out, Hwd.out, HH.out])
      have Hok := Lib.hid (show ∀ j, j < k + 1 → WsOk (ws.getD j []) from fun j hj => by
        by_cases e : j = k
        · rw [e, Hwd.out]; exact Hk.out
        · exact hok.out j (by omega))
      have Hf := Lib.hid hFF.out
      clear hFF hok
      have tk_r1 : True := trivial; have tk_s1 : True := trivial; have tk_r2 : True := trivial; have tk_s2 : True := trivial; have tk_r3 : True := trivial; have tk_r4 : True := trivial; have tk_r5 : True := trivial; have tk_n1 : True := trivial; have tk_n2 : True := trivial; have tk_n3 : True := trivial; have tk_l1 : True := trivial; have tk_p1 : True := trivial
      go_wp2_with (first | (have _t := tk_r1; refine wpList_get1 rfl _ _ rfl _ _ rfl hM 1 rfl (cellTab _ rfl) (by omega) _ (by first | exact e0 | exact e1) ?_; clear tk_r1) | (have _t := tk_s1; go_at_call 15; refine (HS1.out _).mono ?_; rintro e W' ⟨pb, cpb, Fpb, rfl, hpb, hcpb, hF', hA', hcb⟩; have hM' := hM.fresh' hcb hA' hpb; simp only [List.cons_append, List.nil_append] at hM'; have Hpb := Lib.hid hF'; clear hM hF' hA' hcb tk_s1; have hM := hM'; clear hM') | (have _t := tk_r2; refine wpList_get1 rfl _ _ rfl _ _ rfl hM 2 rfl (cellTab _ rfl) (by omega) _ ((Hpb.out 1 (by omega)).trans Hpt.out.2) ?_; clear tk_r2) | (have _t := tk_s2; go_at_call 15; refine (HS2.out _).mono ?_; rintro e W' ⟨qb, cqb, Fqb, rfl, hqb, hcqb, hF', hA', hcb⟩; have hM' := hM.fresh' hcb hA' hqb; simp only [List.cons_append, List.nil_append] at hM'; have Hqb := Lib.hid hF'; clear hM hF' hA' hcb tk_s2; have hM := hM'; clear hM') | (have _t := tk_r3; refine wpList_get1 rfl _ _ rfl _ _ rfl hM 2 rfl (cellTab _ rfl) (by omega) _ ((Hpb.out 0 (by omega)).trans Hpt.out.1) ?_; clear tk_r3) | (have _t := tk_n1; (go_at_call 17; refine (HN1.out _).mono ?_; rintro e W' ⟨rfl, hb'⟩; have hM' := hM.call hb'; clear hM hb'; have hM := hM'; clear hM'); clear tk_n1) | (have _t := tk_r4; refine wpList_get1 rfl _ _ rfl _ _ rfl hM 3 rfl (cellTab _ rfl) (by omega) _ ((Hqb.out 0 (by omega)).trans Hst.out.1) ?_; clear tk_r4) | (have _t := tk_n2; (go_at_call 17; refine (HN2.out _).mono ?_; rintro e W' ⟨rfl, hb'⟩; have hM' := hM.call hb'; clear hM hb'; have hM := hM'; clear hM'); clear tk_n2) | (have _t := tk_r5; refine wpList_get1 rfl _ _ rfl _ _ rfl hM 3 rfl (cellTab _ rfl) (by omega) _ ((Hqb.out 1 (by omega)).trans Hst.out.2) ?_; clear tk_r5) | (have _t := tk_n3; (go_at_call 17; refine (HN3.out _).mono ?_; rintro e W' ⟨rfl, hb'⟩; have hM' := hM.call hb'; clear hM hb'; have hM := hM'; clear hM'); clear tk_n3) | (go_at_call 23; refine (HR.out _).mono ?_; rintro e W' ⟨rfl, hb'⟩; have hM' := hM.call hb'; clear hM hb'; have hM := hM'; clear hM') | (refine wpList_buildSp rfl _ _ rfl _ _ rfl rfl ?_) | (refine wpList_buildSgt rfl _ _ rfl _ _ _ rfl rfl ?_) | (have _t := tk_l1; refine wpList_slice1 rfl _ _ _ rfl _ _ rfl _ sgt_under sight_info2 (by omega) (by omega) hM ?_; intro bn W' hbn hM'; clear hM tk_l1; have hM := hM'; clear hM') | (have _t := tk_p1; refine wpList_push1 rfl _ _ _ rfl _ 3 _ _ sgt_under infoSight rfl (by omega) _ _ _ _ rfl hb1 hnc hle _ _ rfl sight_ones hM (sSight (wsHs l)) Hf.out Hnew.out ?_; intro bL cL FL W' hbL hcL hFL hM'; clear hM tk_p1; have hM := hM'; clear hM'))
      go_roundw
      case rel => exact ⟨k + 1, by omega, by go_num, Hok, bL, cL, FL, rfl, hbL, hcL, Lib.hid hFL, hM.fewer (by simp)⟩
      case measure => simp [intOf]; omega
    · obtain rfl : k = n := by omega
      have HSn := Lib.hid (fun (W : World) (h : At W b1 (c1 * 3) F1) => l07Seen_anyG b1 k c1 (wsHs l) (fun i hi => by rw [Hws.out]; exact ws_fits (hok.out i hi)) (by omega) W (c1 * 3) F1 hFF.out (by omega) h)
      cases hse : seenB k (wsHs l)
      · have Hb := Lib.hid (Hdown.out hse)
        rw [hse] at HSn
        clear hse
        have tk_b9 : True := trivial
        go_wp2_with (first | (go_at_call 24; refine (HSn.out _ (hM.ats 0 _ _ _ rfl)).mono ?_; rintro e W' ⟨rfl, hb'⟩; have hM' := hM.call hb'; clear hM hb'; have hM := hM'; clear hM') | (have _t := tk_b9; refine wpList_slice0 rfl _ _ rfl 3 sgt_under sgt_size hM ?_; intro b9 W' hb9 hM'; clear hM tk_b9; have hM := hM'; clear hM'))
        refine bodyPost_ret (results_tmp2 rfl _ _ _) rfl ?_
        exact readS_no hM hb9 Hb.out
      have Ht := Lib.hid (Hall.out hok.out hse)
      rw [hse] at HSn
      clear hse
      go_wp2_with (first | (go_at_call 24; refine (HSn.out _ (hM.ats 0 _ _ _ rfl)).mono ?_; rintro e W' ⟨rfl, hb'⟩; have hM' := hM.call hb'; clear hM hb'; have hM := hM'; clear hM'))
      refine bodyPost_ret (results_tmp2 rfl _ _ _) rfl ?_
      exact ⟨_, k, wsHs l, 0, rfl, .inr ⟨b1, c1, F1, rfl, hb1, hnc, hFF.out, hM.fewer (by simp)⟩, .inl ⟨Ht.out, rfl⟩⟩
end Go.Proofs.YtaaphdbaocjecaaGreatDoor

/-
  ReadSights: both answers are one.
-/
namespace Go.Proofs.YtaaphdbaocjecaaGreatDoor
open Go Go.RowKit Go.BigFrame

theorem sSight_same {n : Nat} {hs gs : Nat → Nat → Int} (h : ∀ i, i < n → hs i 0 = gs i 0 ∧ hs i 1 = gs i 1 ∧ hs i 2 = gs i 2) : ∀ j, j < n * 3 → sSight hs j = sSight gs j := fun j hj => by
  have := h (j / 3) (by omega)
  unfold sSight vSight
  have : j % 3 = 0 ∨ j % 3 = 1 ∨ j % 3 = 2 := by omega
  rcases this with e | e | e <;> rw [e] <;> simp [*]
theorem readS_one (l : List UInt8) : ∃ n gs c, n ≤ 40 ∧ ∀ w e w', ReadS l w e w' → ∃ v, e = .returned (.tuple #[v, .int .i64 c]) ∧ Lst (Base.of w) [] 3 v n (sSight gs) w' := by
  by_cases h : ∃ n gs, TellsS l n gs
  · obtain ⟨n, gs, k⟩ := h
    refine ⟨n, gs, 0, k.len, ?_⟩
    rintro w e w' ⟨v, m, hs, c, rfl, hL, ⟨h1, rfl⟩ | ⟨-, -, h1⟩⟩
    · obtain ⟨rfl, hu⟩ := h1.uniq k
      exact ⟨v, rfl, hL.same (sSight_same hu)⟩
    · exact absurd k (h1 n gs)
  · refine ⟨0, fun _ _ => 0, 5, by omega, ?_⟩
    rintro w e w' ⟨v, m, hs, c, rfl, hL, ⟨h1, rfl⟩ | ⟨rfl, rfl, -⟩⟩
    · exact absurd ⟨_, _, h1⟩ h
    · exact ⟨v, rfl, hL.same (fun j hj => absurd hj (by omega))⟩
end Go.Proofs.YtaaphdbaocjecaaGreatDoor

/-
  laws.eqSightS, laws.markSightS, laws.heldSightS over lists that hold room behind their end.
-/
namespace Go.Proofs.YtaaphdbaocjecaaGreatDoor
open Go Go.RowKit Go.BigFrame Go.ChangeShapes Go.WideShapes Go.Deep

theorem eqSightS_zero (a a' : Option Addr) (c c' : Nat) (w : World) : Calls Tryz.prog 12 #[.slice a 0 c, .slice a' 0 c'] w fun e w' => e = .returned (.bool true) ∧ Below w.heap.size w w' := by
  go_enter Tryz.func12, Tryz.ntmps12
  go_wp2
  refine wp_loop_rounds 1 ?_
  rw [rounds_succ]
  go_wp2
  go_ret
  exact ⟨rfl, Below.refl _ _⟩
theorem markSightS_zero (a : Option Addr) (c : Nat) (k : Int) (w : World) : Calls Tryz.prog 13 #[.slice a 0 c, .int .i64 k] w fun e w' => e = .returned (.int .i64 k) ∧ Below w.heap.size w w' := by
  go_enter Tryz.func13, Tryz.ntmps13
  go_wp2
  refine wp_loop_rounds 1 ?_
  rw [rounds_succ]
  go_wp2
  go_ret
  exact ⟨rfl, Below.refl _ _⟩
theorem heldSightS_zero (a : Option Addr) (c : Nat) (k : Int) (w : World) : Calls Tryz.prog 14 #[.slice a 0 c, .int .i64 k] w fun e w' => e = .returned (.int .i64 k) ∧ Below w.heap.size w w' := by
  go_enter Tryz.func14, Tryz.ntmps14
  go_wp2
  refine wp_loop_rounds 1 ?_
  rw [rounds_succ]
  go_wp2
  go_ret
  exact ⟨rfl, Below.refl _ _⟩

set_option maxRecDepth 100000 in
set_option maxHeartbeats 1000000 in
/-- eqSightS of two lists that hold the same. -/
theorem eqSightS_list (b b' n c c' N N' : Nat) (F F' : Nat → Value) (hs : Nat → Nat → Int) (hF : ∀ j, j < n * 3 → F j = sSight hs j) (hF' : ∀ j, j < n * 3 → F' j = sSight hs j) (hN : n * 3 ≤ N) (hN' : n * 3 ≤ N') (hn : n ≤ 1048576) (w : World) (hA : At w b N F) (hA' : At w b' N' F') (hne : b ≠ b') :
    Calls Tryz.prog 12 #[.slice (some ⟨b, 0, none⟩) n c, .slice (some ⟨b', 0, none⟩) n c'] w fun e w' => e = .returned (.bool true) ∧ Below w.heap.size w w' := by
  have hM : Mem w [(b, N, F), (b', N', F')] w := ((Mem.nil w).old hA (fun i p h => by simp at h)).old hA' (fun i p h => by
    match i, h with
    | 0, h => simp at h; rw [← h]; exact hne
    | _ + 1, h => simp at h)
  have Hf := Lib.hid hF
  have Hf' := Lib.hid hF'
  clear hA hA' hF hF'
  go_enter Tryz.func12, Tryz.ntmps12
  go_wp2
  go_loopw [5] (fun i wr => ∃ k : Nat, k ≤ n ∧ i = .int .i64 k ∧ Mem w [(b, N, F), (b', N', F')] wr) (fun i _ => n - (intOf i).toNat)
  case atStart => exact ⟨0, by omega, rfl, hM⟩
  case round =>
    clear hM
    obtain ⟨k, hk, rfl, hM⟩ := hrel
    by_cases hlt : k < n
    · have l2 : (k : Int) < n := by omega
      have er : arr 3 (fun j => F (k * 3 + j)) = arr 3 (vSight (hs k)) := arr_congr fun j hj => by rw [Hf.out _ (by omega)]; exact sSight_row hs k j hj
      have er' : arr 3 (fun j => F' (k * 3 + j)) = arr 3 (vSight (hs k)) := arr_congr fun j hj => by rw [Hf'.out _ (by omega)]; exact sSight_row hs k j hj
      go_wp2
      ((try simp only [Act.put, List.setIfInBounds_toArray, List.set_cons_succ, List.set_cons_zero]); refine wp_region_mem (by kernel_rfl) (by kernel_rfl) hM ?_; clear hM; (repeat (first | go_big_quiet_skip | (go_big_quiet_want; first | (refine quiet_get _ _ rfl _ _ rfl 1 rfl rowSight (by omega) ?_; (simp only [er, er']); (simp only [Act.put, List.setIfInBounds_toArray, List.set_cons_succ, List.set_cons_zero]); go_big_quiet_on) | (refine quiet_get _ _ rfl _ _ rfl 0 rfl rowSight (by omega) ?_; (simp only [er, er']); (simp only [Act.put, List.setIfInBounds_toArray, List.set_cons_succ, List.set_cons_zero]); go_big_quiet_on) | (refine quiet_call ?_; apply Exists.intro; apply Exists.intro; apply Exists.intro; refine ⟨fun W => ?_, fun W hM => ?_, ?_⟩; (go_simp; exact ⟨rfl, rfl⟩); (exact eqSight_same (hs k) W); (simp only [Act.put, List.setIfInBounds_toArray, List.set_cons_succ, List.set_cons_zero]); go_big_quiet_on) | (refine quiet_val ?_; apply Exists.intro; refine ⟨fun W => ?_, ?_⟩; (go_simp; (try simp only [l2, if_true, Bool.false_eq_true, if_false]); rfl); (simp only [Act.put, List.setIfInBounds_toArray, List.set_cons_succ, List.set_cons_zero]); go_big_quiet_on)))); (with_reducible refine wpQuiet_nil ?_); intro W' hM)
      go_wp2
      go_roundw
      case rel => exact ⟨k + 1, by omega, by go_num, hM⟩
      case measure => simp [intOf]; omega
    · obtain rfl : k = n := by omega
      go_wp2
      go_ret
      exact ⟨rfl, hM.below⟩

/-- The kind of a mark; the mark j, as a cell. -/
def mkindSight (i : Nat) : IntKind := if i % 3 = 0 then .i16 else if i % 3 = 1 then .i8 else .i8
def mkSight (i j : Nat) : Value := .int (mkindSight i) ((mkindSight i).wrap (j : Int))
theorem mkSight_eq {i j : Nat} {κ : IntKind} {x : Int} (hκ : mkindSight i = κ := by rfl) (hx : x = (j : Int)) : mkSight i j = .int κ (κ.wrap x) := by
  unfold mkSight; rw [hκ, hx]
theorem mkindSight_0 (k : Nat) : mkindSight (k * 3) = .i16 := by unfold mkindSight; rw [if_pos (by omega)]
theorem mkindSight_1 (k : Nat) : mkindSight (k * 3 + 1) = .i8 := by unfold mkindSight; rw [if_neg (by omega)]; rw [if_pos (by omega)]
theorem mkindSight_2 (k : Nat) : mkindSight (k * 3 + 2) = .i8 := by unfold mkindSight; rw [if_neg (by omega)]; rw [if_neg (by omega)]

set_option maxRecDepth 100000 in
set_option maxHeartbeats 1000000 in
/-- markSightS writes its marks into the list. -/
theorem markSightS_list (b0 : Base) (K : Blocks) (b n c N k0 : Nat) (F : Nat → Value) (hN : n * 3 ≤ N) (hn : n ≤ 1048576) (hk0 : k0 ≤ 100000000) (hb : b0.B ≤ b) (w : World) (hM0 : Mem b0 ((b, N, F) :: K) w) :
    Calls Tryz.prog 13 #[.slice (some ⟨b, 0, none⟩) n c, .int .i64 k0] w fun e w' => e = .returned (.int .i64 ((k0 + n * 3 : Nat) : Int)) ∧ ∃ G, (∀ j, j < n * 3 → G j = mkSight j (k0 + j)) ∧ Mem b0 ((b, N, G) :: K) w' := by
  have hM := hM0
  clear hM0
  go_enter Tryz.func13, Tryz.ntmps13
  go_wp2
  go_loopw [1, 5] (fun t i wr => ∃ k : Nat, k ≤ n ∧ t = .int .i64 ((k0 + k * 3 : Nat) : Int) ∧ i = .int .i64 k ∧ ∃ G, Hid (∀ j, j < k * 3 → G j = mkSight j (k0 + j)) ∧ Mem b0 ((b, N, G) :: K) wr) (fun _ i _ => n - (intOf i).toNat)
  case atStart => exact ⟨0, by omega, by simp, rfl, F, Lib.hid (fun j hj => absurd hj (by omega)), hM⟩
  case round =>
    clear hM
    obtain ⟨k, hk, rfl, rfl, G, hG, hM⟩ := hrel
    by_cases hlt : k < n
    · have l2 : (k : Int) < n := by omega
      obtain ⟨mm, hm⟩ : ∃ m : Nat, m = k0 + k * 3 := ⟨_, rfl⟩
      rw [← hm]
      have n1 : IntKind.i64.wrap ((mm : Int) + 1) = (mm : Int) + 1 := IntWalk.i64_in _ (by omega)
      have n2 : IntKind.i64.wrap ((mm : Int) + 1 + 1) = (mm : Int) + 1 + 1 := IntWalk.i64_in _ (by omega)
      have n3 : IntKind.i64.wrap ((mm : Int) + 1 + 1 + 1) = (mm : Int) + 1 + 1 + 1 := IntWalk.i64_in _ (by omega)
      have hl : (mm : Int) + 1 + 1 + 1 = ((k0 + (k + 1) * 3 : Nat) : Int) := by omega
      have Hl := Lib.hid hl
      have Hm := Lib.hid hm
      clear hm hl
      have tk_s0 : True := trivial; have tk_s1 : True := trivial; have tk_s2 : True := trivial
      go_wp2_with (first | (have _t := tk_s0; (refine wpList_set1 rfl _ _ _ rfl _ _ rfl _ rfl ?_ hM 0 rfl (by assumption) (cellTab _ rfl) (by omega) ?_; (first | rfl | exact h1 _); intro W' hM'; clear hM; have hM := hM'; clear hM'; simp [List.set, Act.eval] at hM); clear tk_s0) | (have _t := tk_s1; (refine wpList_set1 rfl _ _ _ rfl _ _ rfl _ rfl ?_ hM 0 rfl (by assumption) (cellTab _ rfl) (by omega) ?_; (first | rfl | exact h1 _); intro W' hM'; clear hM; have hM := hM'; clear hM'; simp [List.set, Act.eval] at hM); clear tk_s1) | (have _t := tk_s2; (refine wpList_set1 rfl _ _ _ rfl _ _ rfl _ rfl ?_ hM 0 rfl (by assumption) (cellTab _ rfl) (by omega) ?_; (first | rfl | exact h1 _); intro W' hM'; clear hM; have hM := hM'; clear hM'; simp [List.set, Act.eval] at hM); clear tk_s2))
      go_roundw
      case rel => exact ⟨k + 1, by omega, by first | exact congrArg (Value.int .i64) Hl.out | rfl, by go_num, _, Lib.hid (fun j hj => by
        simp only [upd]
        by_cases e2 : j = k * 3 + 2
        · rw [if_pos e2, e2]; exact (mkSight_eq (mkindSight_2 k) (by have := Hm.out; omega)).symm
        · skip
          by_cases e1 : j = k * 3 + 1
          · rw [if_neg e2, if_pos e1, e1]; exact (mkSight_eq (mkindSight_1 k) (by have := Hm.out; omega)).symm
          · skip
            by_cases e0 : j = k * 3
            · rw [if_neg e2, if_neg e1, if_pos e0, e0]; exact (mkSight_eq (mkindSight_0 k) (by have := Hm.out; omega)).symm
            · skip
              rw [if_neg e2, if_neg e1, if_neg e0]; exact hG.out j (by omega)
      ), hM⟩
      case measure => simp [intOf]; omega
    · obtain rfl : k = n := by omega
      go_wp2
      go_ret
      exact ⟨rfl, G, hG.out, hM⟩

set_option maxRecDepth 100000 in
set_option maxHeartbeats 1000000 in
/-- heldSightS finds the marks. -/
theorem heldSightS_list (b n c N k0 : Nat) (G : Nat → Value) (hN : n * 3 ≤ N) (hn : n ≤ 1048576) (hk0 : k0 ≤ 100000000) (hG : ∀ j, j < n * 3 → G j = mkSight j (k0 + j)) (w : World) (hA : At w b N G) :
    Calls Tryz.prog 14 #[.slice (some ⟨b, 0, none⟩) n c, .int .i64 k0] w fun e w' => e = .returned (.int .i64 ((k0 + n * 3 : Nat) : Int)) ∧ Below w.heap.size w w' := by
  have hM : Mem w [(b, N, G)] w := (Mem.nil w).old hA (fun i p h => by simp at h)
  have Hg := Lib.hid hG
  clear hA hG
  go_enter Tryz.func14, Tryz.ntmps14
  go_wp2
  go_loopw [1, 5] (fun t i wr => ∃ k : Nat, k ≤ n ∧ t = .int .i64 ((k0 + k * 3 : Nat) : Int) ∧ i = .int .i64 k ∧ Mem w [(b, N, G)] wr) (fun _ i _ => n - (intOf i).toNat)
  case atStart => exact ⟨0, by omega, by simp, rfl, hM⟩
  case round =>
    clear hM
    obtain ⟨k, hk, rfl, rfl, hM⟩ := hrel
    by_cases hlt : k < n
    · have l2 : (k : Int) < n := by omega
      obtain ⟨mm, hm⟩ : ∃ m : Nat, m = k0 + k * 3 := ⟨_, rfl⟩
      have g0 : G (k * 3) = .int .i16 (IntKind.i16.wrap ((mm : Int))) := by rw [Hg.out _ (by omega)]; exact mkSight_eq (mkindSight_0 k) (by omega)
      have g1 : G (k * 3 + 1) = .int .i8 (IntKind.i8.wrap ((mm : Int) + 1)) := by rw [Hg.out _ (by omega)]; exact mkSight_eq (mkindSight_1 k) (by omega)
      have g2 : G (k * 3 + 2) = .int .i8 (IntKind.i8.wrap ((mm : Int) + 1 + 1)) := by rw [Hg.out _ (by omega)]; exact mkSight_eq (mkindSight_2 k) (by omega)
      rw [← hm]
      have n1 : IntKind.i64.wrap ((mm : Int) + 1) = (mm : Int) + 1 := IntWalk.i64_in _ (by omega)
      have n2 : IntKind.i64.wrap ((mm : Int) + 1 + 1) = (mm : Int) + 1 + 1 := IntWalk.i64_in _ (by omega)
      have n3 : IntKind.i64.wrap ((mm : Int) + 1 + 1 + 1) = (mm : Int) + 1 + 1 + 1 := IntWalk.i64_in _ (by omega)
      have hl : (mm : Int) + 1 + 1 + 1 = ((k0 + (k + 1) * 3 : Nat) : Int) := by omega
      have Hl := Lib.hid hl
      clear hm hl
      have tk_s0 : True := trivial; have tk_s1 : True := trivial; have tk_s2 : True := trivial
      go_wp2_with (first | (have _t := tk_s0; (refine wpList_get1 rfl _ _ rfl _ _ rfl hM 0 rfl (cellTab _ rfl) (by omega) _ g0 ?_); clear tk_s0) | (have _t := tk_s1; (refine wpList_get1 rfl _ _ rfl _ _ rfl hM 0 rfl (cellTab _ rfl) (by omega) _ g1 ?_); clear tk_s1) | (have _t := tk_s2; (refine wpList_get1 rfl _ _ rfl _ _ rfl hM 0 rfl (cellTab _ rfl) (by omega) _ g2 ?_); clear tk_s2))
      go_roundw
      case rel => exact ⟨k + 1, by omega, by first | exact congrArg (Value.int .i64) Hl.out | rfl, by go_num, hM⟩
      case measure => simp [intOf]; omega
    · obtain rfl : k = n := by omega
      go_wp2
      go_ret
      exact ⟨rfl, hM.below⟩
end Go.Proofs.YtaaphdbaocjecaaGreatDoor

/-
  impl.checkCells by contracts.
-/
namespace Go.Proofs.YtaaphdbaocjecaaGreatDoor
open Go Go.RowKit Go.BigFrame

theorem spot_info : (Tryz.prog.info? 41).map (fun i => (i.size, i.zero)) = some (2, some (.agg (arr 2 fun _ => .int .i8 0))) := by kernel_rfl
/-- Spots one behind the other. -/
def sps (s : Nat → Int × Int) : Nat → Value := fun k => .int .i8 (if k % 2 = 0 then (s (k / 2)).1 else (s (k / 2)).2)
theorem sp_sps (x y : Int) : ∀ k, k < 2 → sp x y k = sps (fun _ => (x, y)) k := fun k hk => by
  rcases (show k = 0 ∨ k = 1 by omega) with rfl | rfl <;> rfl
theorem sp_sps0 (x y : Int) : ∀ k, k < 2 → sp x y (0 + k) = sps (fun _ => (x, y)) k := fun k hk => by
  rw [Nat.zero_add]; exact sp_sps x y k hk
/-- The first n of them are all cells. -/
def allB (g : Nat → Int) (s : Nat → Int × Int) (n : Nat) : Bool := (List.range n).all fun i => isB g (s i).1 (s i).2
theorem allB_zero (g : Nat → Int) (s : Nat → Int × Int) : allB g s 0 = true := rfl
theorem allB_one (g : Nat → Int) (s : Nat → Int × Int) : allB g s 1 = isB g (s 0).1 (s 0).2 := by simp [allB, List.range_succ]
theorem allB_no {g : Nat → Int} {s : Nat → Int × Int} {n i : Nat} (hi : i < n) (h : isB g (s i).1 (s i).2 = false) : allB g s n = false := by
  unfold allB; rw [List.all_eq_false]; exact ⟨i, by simpa using hi, by rw [h]; decide⟩
theorem allB_yes {g : Nat → Int} {s : Nat → Int × Int} {n : Nat} (h : ∀ i, i < n → isB g (s i).1 (s i).2 = true) : allB g s n = true := by
  unfold allB; rw [List.all_eq_true]; intro i hi; exact h i (by simpa using hi)

/-- What checkCells answers of a valid pasture. -/
def chkS (a : Nat → Addr) (g : Nat → Int) (s : Nat → Int × Int) (n : Nat) : Value := if allB g s n then .nilIface else errV (a 1)
theorem chkS_yes {a : Nat → Addr} {g : Nat → Int} {s : Nat → Int × Int} {n : Nat} (h : allB g s n = true) : chkS a g s n = .nilIface := by simp [chkS, h]
theorem chkS_no {a : Nat → Addr} {g : Nat → Int} {s : Nat → Int × Int} {n : Nat} (h : allB g s n = false) : chkS a g s n = errV (a 1) := by simp [chkS, h]
theorem ret_v {a b : Value} (h : a = b) : Ending.returned a = .returned b := by rw [h]

theorem sps_fst (s : Nat → Int × Int) (k : Nat) : sps s (k * 2 + 0) = .int .i8 (s k).1 := by
  simp [sps]
theorem sps_snd (s : Nat → Int × Int) (k : Nat) : sps s (k * 2 + 1) = .int .i8 (s k).2 := by
  have : (k * 2 + 1) / 2 = k := by omega
  simp [sps, this]

theorem lay_sp0 (z : Nat → Value) (s : Nat → Int × Int) (k : Nat) : lay z 0 2 (fun j => sps s (k * 2 + j)) 0 = .int .i8 (s k).1 := by
  simpa [lay] using sps_fst s k
theorem lay_sp1 (z : Nat → Value) (s : Nat → Int × Int) (k : Nat) : lay z 0 2 (fun j => sps s (k * 2 + j)) 1 = .int .i8 (s k).2 := by
  simpa [lay] using sps_snd s k

end Go.Proofs.YtaaphdbaocjecaaGreatDoor

/-
  Lists that are results: what a law may take of them.
-/
namespace Go.Proofs.YtaaphdbaocjecaaGreatDoor
open Go Go.RowKit Go.BigFrame

theorem sps_row (s : Nat → Int × Int) (k j : Nat) (hj : j < 2) : sps s (k * 2 + j) = sp (s k).1 (s k).2 j := by
  rcases (show j = 0 ∨ j = 1 by omega) with rfl | rfl
  · exact sps_fst s k
  · exact sps_snd s k
theorem spot_infoB : (Tryz.prog.info? 41).map (fun i => (i.size, i.zero, i.bytes)) = some (2, some (.agg (arr 2 fun _ => .int .i8 0)), 2) := by kernel_rfl
theorem sp_one {x y : Int} : ∀ k, k < 2 → (sp x y k).oneCell' = true := fun k hk => by
  rcases (show k = 0 ∨ k = 1 by omega) with rfl | rfl <;> rfl

theorem sp_one0 {x y : Int} : ∀ k, k < 2 → (sp x y (0 + k)).oneCell' = true := fun k hk => by rw [Nat.zero_add]; exact sp_one k hk
theorem Lst.up {w0 w1 : World} {K : Blocks} {m n : Nat} {v : Value} {R : Nat → Value} {W : World} (hM : Mem w0 K w1) (h : Lst w1 [] m v n R W) : Lst w0 [] m v n R W ∧ Below w1.heap.size w1 W := by
  rcases h with ⟨h1, h2, h⟩ | ⟨b, c, F, h1, h2, h3, h4, h⟩
  · exact ⟨.inl ⟨h1, h2, Mem.start (hM.call h.below).good⟩, h.below⟩
  · exact ⟨.inr ⟨b, c, F, h1, Nat.le_trans hM.size h2, h3, h4, h.base (hM.call h.below).good⟩, h.below⟩
theorem Mem.freshH {b0 : Base} {L : Blocks} {X X' : World} {b n : Nat} {f : Nat → Value} (hM : Mem b0 L X) (hb : Below X.heap.size X X') (ha : At X' b n f) (hge : X.heap.size ≤ b) : Mem b0 ((b, n, f) :: L) X' := by
  have hM2 := hM.call hb
  have off : ∀ (i : Nat) (p : Nat × Nat × (Nat → Value)), L[i]? = some p → p.1 ≠ b := fun i p h => by
    have := (hM.ats i p.1 p.2.1 p.2.2 h).lt
    omega
  refine ⟨hM2.good, fun i b' n' f' hi => ?_, fun i j x y hi hj hne => ?_⟩
  · match i, hi with
    | 0, hi => simp at hi; obtain ⟨rfl, rfl, rfl⟩ := hi; exact ha
    | i + 1, hi => exact hM2.ats i b' n' f' (by simpa using hi)
  · match i, j, hi, hj with
    | 0, 0, _, _ => exact absurd rfl hne
    | 0, j + 1, hi, hj => simp at hi hj; rw [← hi]; exact fun e => off j y hj e.symm
    | i + 1, 0, hi, hj => simp at hi hj; rw [← hj]; exact off i x hi
    | i + 1, j + 1, hi, hj => exact hM2.apart i j x y (by simpa using hi) (by simpa using hj) (by omega)
theorem Lst.some {w : World} {m n : Nat} {v : Value} {R : Nat → Value} {W : World} (h : Lst w [] m v n R W) (hn : 0 < n) : ∃ b c F, v = .slice (some ⟨b, 0, none⟩) n c ∧ w.heap.size ≤ b ∧ n ≤ c ∧ (∀ j, j < n * m → F j = R j) ∧ At W b (c * m) F ∧ Below w.heap.size w W := by
  rcases h with ⟨-, h, -⟩ | ⟨b, c, F, h1, h2, h3, h4, h5⟩
  · omega
  · exact ⟨b, c, F, h1, h2, h3, h4, h5.at0, h5.below⟩
theorem Lst.zero {w : World} {m n : Nat} {v : Value} {R : Nat → Value} {W : World} (h : Lst w [] m v n R W) (hn : n = 0) : ∃ a c, v = .slice a 0 c ∧ Below w.heap.size w W := by
  rcases h with ⟨h1, -, h⟩ | ⟨b, c, F, h1, h2, h3, h4, h5⟩
  · exact ⟨none, 0, h1, h.below⟩
  · exact ⟨_, c, by rw [h1, hn], h5.below⟩
end Go.Proofs.YtaaphdbaocjecaaGreatDoor

/-
  laws.FnExactReadSights returns true.
-/
namespace Go.Proofs.YtaaphdbaocjecaaGreatDoor
open Go Go.RowKit Go.BigFrame Go.ChangeShapes Go.WideShapes Go.Deep

set_option maxRecDepth 100000 in
set_option maxHeartbeats 8000000 in
theorem lawReadSights_any {a : Nat → Addr} (s : ByteArray) (hs : s.size ≤ maxLen) (w : World) (hE : RdEnv a w) :
    Calls Tryz.prog 4 #[.string s] w fun e w' => e = .returned (.bool true) ∧ Below w.heap.size w w' := by
  have hM := Mem.nil w
  have HE := Lib.hid hE
  clear hE
  by_cases h1 : 1048576 < s.size
  · have z1 : decide ((1048576 : Int) < s.size) = true := decide_eq_true (by omega)
    have z2 : decide ((s.size : Int) > 1048576) = true := decide_eq_true (by omega)
    go_enter Tryz.func4, Tryz.ntmps4
    go_wp2
    go_ret
    exact ⟨rfl, hM.below⟩
  have z1 : decide ((1048576 : Int) < s.size) = false := decide_eq_false (by omega)
  have z2 : decide ((s.size : Int) > 1048576) = false := decide_eq_false (by omega)
  obtain ⟨l, hl⟩ : ∃ l, l = s.data.toList := ⟨_, rfl⟩
  have el : s = bs l := by rw [hl]; exact (bs_back s).symm
  have hlen : l.length ≤ 1048576 := by rw [← bs_size, ← el]; omega
  obtain ⟨LN, HS0, CC, h12, hK⟩ := readS_one l
  have hle : LN ≤ 1048576 := by omega
  have hS : ∀ W, Calls Tryz.prog 10 #[.string s] W fun e w' => ∃ v, e = .returned (.tuple #[v, .int .i64 CC]) ∧ Lst (Base.of W) [] 3 v LN (sSight HS0) w' := fun W => by
    rw [el]; exact (specReadSights_any l hlen W).mono (fun e w' h => hK W e w' h)
  have hI : ∀ W, RdEnv a W → Calls Tryz.prog 11 #[.string s] W fun e w' => ∃ v, e = .returned (.tuple #[v, .int .i64 CC]) ∧ Lst (Base.of W) [] 3 v LN (sSight HS0) w' := fun W hE => by
    rw [el]; exact (implReadSights_any l hlen W hE).mono (fun e w' h => hK W e w' h)
  have HS := Lib.hid hS
  have HI := Lib.hid hI
  clear hS hI hK hl el hlen h1 h12
  rcases Nat.eq_zero_or_pos LN with hn | hn
  · have Hn := Lib.hid hn
    clear hn
    have tk_A : True := trivial; have tk_B : True := trivial; have tk_e1 : True := trivial; have tk_m : True := trivial; have tk_h1 : True := trivial; have tk_C : True := trivial; have tk_e2 : True := trivial; have tk_h2 : True := trivial
    go_enter Tryz.func4, Tryz.ntmps4
    go_wp2_with (first | (have _t := tk_A; go_at_call 10; refine (HS.out _).mono ?_; rintro e W' ⟨vr, rfl, hL0⟩; obtain ⟨aA, cA, rfl, hbl⟩ := hL0.zero Hn.out; have hM' := hM.call hbl; clear hM hbl hL0 tk_A; have hM := hM'; clear hM') | (have _t := tk_B; go_at_call 11; refine (HI.out _ (HE.out.below hM.below)).mono ?_; rintro e W' ⟨vr, rfl, hL0⟩; obtain ⟨aB, cB, rfl, hbl⟩ := hL0.zero Hn.out; have hM' := hM.call hbl; clear hM hbl hL0 tk_B; have hM := hM'; clear hM') | (have _t := tk_e1; go_at_call 12; (with_reducible refine (eqSightS_zero aB aA cB cA _).mono ?_); rintro e W' ⟨rfl, hb'⟩; have hM' := hM.call hb'; clear hM hb'; have hM := hM'; clear hM'; clear tk_e1) | (have _t := tk_m; go_at_call 13; (with_reducible refine (markSightS_zero _ _ _ _).mono ?_); rintro e W' ⟨rfl, hb'⟩; have hM' := hM.call hb'; clear hM hb'; have hM := hM'; clear hM'; clear tk_m) | (have _t := tk_h1; go_at_call 14; (with_reducible refine (heldSightS_zero _ _ _ _).mono ?_); rintro e W' ⟨rfl, hb'⟩; have hM' := hM.call hb'; clear hM hb'; have hM := hM'; clear hM'; clear tk_h1) | (have _t := tk_C; go_at_call 11; refine (HI.out _ (HE.out.below hM.below)).mono ?_; rintro e W' ⟨vr, rfl, hL0⟩; obtain ⟨aC, cC, rfl, hbl⟩ := hL0.zero Hn.out; have hM' := hM.call hbl; clear hM hbl hL0 tk_C; have hM := hM'; clear hM') | (have _t := tk_e2; go_at_call 12; (with_reducible refine (eqSightS_zero aC aA cC cA _).mono ?_); rintro e W' ⟨rfl, hb'⟩; have hM' := hM.call hb'; clear hM hb'; have hM := hM'; clear hM'; clear tk_e2) | (have _t := tk_h2; go_at_call 14; (with_reducible refine (heldSightS_zero _ _ _ _).mono ?_); rintro e W' ⟨rfl, hb'⟩; have hM' := hM.call hb'; clear hM hb'; have hM := hM'; clear hM'; clear tk_h2))
    go_ret
    exact ⟨rfl, hM.below⟩
  have Hn := Lib.hid hn
  clear hn
  obtain ⟨MM, hMM⟩ : ∃ q : Nat, q = 1 + LN * 3 := ⟨_, rfl⟩
  have hMd : decide ((MM : Int) < 0) = false := decide_eq_false (by omega)
  have hMn : ¬ (MM : Int) < 0 := by omega
  have HMM := Lib.hid hMM
  clear hMM
  have tk_A : True := trivial; have tk_B : True := trivial; have tk_e1 : True := trivial; have tk_m : True := trivial; have tk_h1 : True := trivial; have tk_C : True := trivial; have tk_e2 : True := trivial; have tk_h2 : True := trivial
  go_enter Tryz.func4, Tryz.ntmps4
  go_wp2_with (first | (have _t := tk_A; go_at_call 10; refine (HS.out _).mono ?_; rintro e W' ⟨vr, rfl, hL0⟩; obtain ⟨bA, cA, FA, rfl, hbA, hcA, hFA, hAA, hbl⟩ := hL0.some Hn.out; have h2A := Nat.le_trans hM.size hbA; have hNA : LN * 3 ≤ cA * 3 := Nat.mul_le_mul_right 3 hcA; have hM' := hM.freshH hbl hAA hbA; clear hM hAA hbl hL0 hbA tk_A; have HFA := Lib.hid hFA; clear hFA; have hM := hM'; clear hM') | (have _t := tk_B; go_at_call 11; refine (HI.out _ (HE.out.below hM.below)).mono ?_; rintro e W' ⟨vr, rfl, hL0⟩; obtain ⟨bB, cB, FB, rfl, hbB, hcB, hFB, hAA, hbl⟩ := hL0.some Hn.out; have h2B := Nat.le_trans hM.size hbB; have hNB : LN * 3 ≤ cB * 3 := Nat.mul_le_mul_right 3 hcB; have hM' := hM.freshH hbl hAA hbB; clear hM hAA hbl hL0 hbB tk_B; have HFB := Lib.hid hFB; clear hFB; have hM := hM'; clear hM') | (have _t := tk_e1; go_at_call 12; (with_reducible refine (eqSightS_list bB bA LN cB cA (cB * 3) (cA * 3) FB FA HS0 HFB.out HFA.out hNB hNA hle _ (hM.ats 0 _ _ _ rfl) (hM.ats 1 _ _ _ rfl) (hM.apart 0 1 _ _ rfl rfl (by omega))).mono ?_); rintro e W' ⟨rfl, hb'⟩; have hM' := hM.call hb'; clear hM hb'; have hM := hM'; clear hM'; clear tk_e1) | (have _t := tk_m; go_at_call 13; refine (markSightS_list _ _ bB LN cB (cB * 3) 1 FB hNB hle (by omega) h2B _ hM).mono ?_; rintro e W' ⟨rfl, GB, hGB, hM'⟩; rw [← HMM.out]; have HGB := Lib.hid hGB; clear hM hGB tk_m; have hM := hM'; clear hM') | (have _t := tk_h1; go_at_call 14; refine (heldSightS_list bB LN cB (cB * 3) 1 GB hNB hle (by omega) HGB.out _ (hM.ats 0 _ _ _ rfl)).mono ?_; rintro e W' ⟨rfl, hb'⟩; rw [← HMM.out]; have hM' := hM.call hb'; clear hM hb' tk_h1; have hM := hM'; clear hM') | (have _t := tk_C; go_at_call 11; refine (HI.out _ (HE.out.below hM.below)).mono ?_; rintro e W' ⟨vr, rfl, hL0⟩; obtain ⟨bC, cC, FC, rfl, hbC, hcC, hFC, hAA, hbl⟩ := hL0.some Hn.out; have h2C := Nat.le_trans hM.size hbC; have hNC : LN * 3 ≤ cC * 3 := Nat.mul_le_mul_right 3 hcC; have hM' := hM.freshH hbl hAA hbC; clear hM hAA hbl hL0 hbC tk_C; have HFC := Lib.hid hFC; clear hFC; have hM := hM'; clear hM') | (have _t := tk_e2; go_at_call 12; (with_reducible refine (eqSightS_list bC bA LN cC cA (cC * 3) (cA * 3) FC FA HS0 HFC.out HFA.out hNC hNA hle _ (hM.ats 0 _ _ _ rfl) (hM.ats 2 _ _ _ rfl) (hM.apart 0 2 _ _ rfl rfl (by omega))).mono ?_); rintro e W' ⟨rfl, hb'⟩; have hM' := hM.call hb'; clear hM hb'; have hM := hM'; clear hM'; clear tk_e2) | (have _t := tk_h2; go_at_call 14; refine (heldSightS_list bB LN cB (cB * 3) 1 GB hNB hle (by omega) HGB.out _ (hM.ats 1 _ _ _ rfl)).mono ?_; rintro e W' ⟨rfl, hb'⟩; rw [← HMM.out]; have hM' := hM.call hb'; clear hM hb' tk_h2; have hM := hM'; clear hM'))
  go_ret
  exact ⟨rfl, hM.below⟩
end Go.Proofs.YtaaphdbaocjecaaGreatDoor

