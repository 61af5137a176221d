/-
  Several texts in one: ReadStS, ReadGrS.
-/
import Derived.Test.YtaaphdbaocjecaaDoorP11
import Derived.Test.YtaaphdbaocjecaaDoorP9
/-
  spec.ReadStakes by contract.
-/
namespace Go.Proofs.YtaaphdbaocjecaaDoor
open Go Go.RowKit Go.BigFrame

theorem stk_under : Tryd.prog.underlying 31 = some (.slice 51) := Tryd.underlying31
theorem stk_size : (Tryd.prog.info? 51).map (fun i => i.size) = some 3 := by kernel_rfl
@[go_sem] theorem run_buildSpG (x y : Int) (W : World) : (Instr.build 49 #[(0, .int .i8 x), (1, .int .i8 y)]).run Tryd.prog W = .ok (.agg (arr 2 (sp x y))) W := run_buildSp x y W
theorem wpList_buildStk {ops : Array Oper} {rest : List Oper} {o : Oper} {a : Act} {W : World} {Q : Exit → Act → World → Prop} (hgd : o.guard = none) (u v : Operand) (ho : o.op = .build 51 #[(0, u), (1, v)]) (x y r : Int) (hx : a.eval u = .agg (arr 2 (sp x y))) (hy : a.eval v = .int .i16 r)
    (h : wpList Tryd.prog ops Q rest (a.put o.dst (.agg (arr 3 (vStake (st3 x y r))))) W) : wpList Tryd.prog ops Q (o :: rest) a W := by
  refine wpList_plain hgd fun K hK => ?_
  unfold Oper.wp
  rw [exec_buildSt u v ho x y r hx hy W]
  exact hK _ _ h
/-- A call of l01Split: its list, by one variable. -/
def SplitTo (l : List UInt8) (c : Int) (ps : List (List UInt8)) (n : Nat) : Prop := ∀ w : World, Calls Tryd.prog 13 #[.string (bs l), .int .u8 c] w fun e w' => ∃ b c1 F, e = .returned (.slice (some ⟨b, 0, none⟩) n c1) ∧ w.heap.size ≤ b ∧ n ≤ c1 ∧ (∀ j, j < n → F j = txF ps j) ∧ At w' b (c1 * 1) F ∧ Below w.heap.size w w'
theorem splitTo_any (l : List UInt8) (c : UInt8) (n : Int) (k : Nat) (hn : n = c.toNat) (hl : l.length ≤ 1048576) (hk : (partsC c l).length = k) : SplitTo l n (partsC c l) k := fun w => by
  have := l01Split_new l c n hn hl w
  rwa [hk] at this
set_option maxRecDepth 100000 in
set_option maxHeartbeats 8000000 in
theorem specReadStakes_any (l : List UInt8) (hl : l.length ≤ 1048576) (w : World) :
    Calls Tryd.prog 8 #[.string (bs l)] w (ReadK l w) := by
  have hM := Mem.nil w
  have hemp := bs_isEmpty l
  by_cases h0 : l = []
  · subst h0
    have tk_b0 : True := trivial
    go_enter Tryd.func8, Tryd.ntmps8
    go_wp2_with (first | (have _t := tk_b0; refine wpList_slice0 rfl _ _ rfl 3 stk_under stk_size hM ?_; intro b0 W' hb0 hM'; clear hM tk_b0; have hM := hM'; clear hM'))
    refine bodyPost_ret (results_tmp2 rfl _ _ _) rfl ?_
    exact ⟨_, 0, fun _ _ => 0, 0, rfl, .inr ⟨b0, 0, _, rfl, hb0, Nat.le_refl _, fun j hj => absurd hj (by omega), hM⟩, .inl ⟨⟨by omega, fun i hi => absurd hi (by omega), rfl⟩, rfl⟩⟩
  have hne : (bs l).toList.isEmpty = false := by
    rw [hemp]; cases l with
    | nil => exact absurd rfl h0
    | cons a r => rfl
  obtain ⟨n, hn⟩ : ∃ n, (partsC 32 l).length = n := ⟨_, rfl⟩
  have HS := Lib.hid (splitTo_any l 32 32 n rfl hl hn)
  have Hn := Lib.hid hn
  have H0 := Lib.hid h0
  have hn0 : 1 ≤ n := by rw [← hn]; exact List.length_pos_iff.2 (partsC_ne 32 l)
  clear hemp h0 hn
  by_cases hmany : 12 < n
  · have Hb := Lib.hid (wk_many H0.out Hn.out hmany)
    have d1 : decide ((n : Int) > 12) = true := decide_eq_true (by omega)
    have d2 : (12 : Int) < n := by omega
    have tk_b0 : True := trivial; have tk_wb : True := trivial; have tk_b9 : True := trivial
    go_enter Tryd.func8, Tryd.ntmps8
    go_wp2_with (first | (have _t := tk_b0; refine wpList_slice0 rfl _ _ rfl 3 stk_under stk_size hM ?_; intro b0 W' hb0 hM'; clear hM tk_b0; have hM := hM'; clear hM') | (have _t := tk_wb; go_at_call 13; refine (HS.out _).mono ?_; rintro e W' ⟨wb, cwb, Fwb, rfl, hwb, hcwb, hF', hA', hcb⟩; have hM' := hM.fresh' hcb hA' hwb; simp only [List.cons_append, List.nil_append] at hM'; have Hwb := Lib.hid hF'; clear hM hF' hA' hcb tk_wb; have hM := hM'; clear hM') | (have _t := tk_b9; refine wpList_slice0 rfl _ _ rfl 3 stk_under stk_size hM ?_; intro b9 W' hb9 hM'; clear hM tk_b9; have hM := hM'; clear hM'))
    refine bodyPost_ret (results_tmp2 rfl _ _ _) rfl ?_
    exact readK_no hM hb9 Hb.out
  have h12 : n ≤ 12 := by omega
  have d1 : decide ((n : Int) > 12) = false := decide_eq_false (by omega)
  have d2 : ¬ (12 : Int) < n := by omega
  have HL := Lib.hid (fun j => Nat.le_trans (part_len 32 l j) hl)
  have Hbad := Lib.hid (fun j (hj : j < n) h => wk_bad H0.out Hn.out hj h)
  have Hall := Lib.hid (wk_all Hn.out h12)
  have Hws := Lib.hid (show ∀ j, wkHs l j = wkH ((partsC 32 l).getD j []) from fun j => rfl)
  have Htx := Lib.hid (show ∀ j, txF (partsC 32 l) j = .string (bs ((partsC 32 l).getD j [])) from fun j => rfl)
  clear hmany hl
  generalize partsC 32 l = ws at HS Hn HL Hbad Hall Hws Htx
  have tk_b0 : True := trivial; have tk_wb : True := trivial
  go_enter Tryd.func8, Tryd.ntmps8
  go_wp2_with (first | (have _t := tk_b0; refine wpList_slice0 rfl _ _ rfl 3 stk_under stk_size hM ?_; intro b0 W' hb0 hM'; clear hM tk_b0; have hM := hM'; clear hM') | (have _t := tk_wb; go_at_call 13; refine (HS.out _).mono ?_; rintro e W' ⟨wb, cwb, Fwb, rfl, hwb, hcwb, hF', hA', hcb⟩; have hM' := hM.fresh' hcb hA' hwb; simp only [List.cons_append, List.nil_append] at hM'; have Hwb := Lib.hid hF'; clear hM hF' hA' hcb tk_wb; have hM := hM'; clear hM'))
  go_loopw [4, 6] (fun s i wr => ∃ k : Nat, k ≤ n ∧ i = .int .i64 k ∧ Hid (∀ j, j < k → WkOk (ws.getD j [])) ∧ ∃ b1 c1 F1, s = .slice (some ⟨b1, 0, none⟩) k c1 ∧ (Base.of w).B ≤ b1 ∧ k ≤ c1 ∧ Hid (∀ j, j < k * 3 → F1 j = sStake (wkHs l) j) ∧ Mem (Base.of w) [(b1, c1 * 3, F1), (wb, cwb * 1, Fwb)] wr) (fun _ i _ => n - (intOf i).toNat)
  case atStart => exact ⟨0, by omega, rfl, Lib.hid (fun j hj => absurd hj (by omega)), b0, 0, _, rfl, hb0, Nat.le_refl _, Lib.hid (fun j hj => absurd hj (by omega)), hM⟩
  case round =>
    clear hM
    obtain ⟨k, hk, rfl, hok, b1, c1, F1, rfl, hb1, hnc, hFF, hM⟩ := hrel
    by_cases hlt : k < n
    · have l2 : (k : Int) < n := by omega
      have hle : k ≤ 1048576 := by omega
      obtain ⟨wd, hwd⟩ : ∃ wd, ws.getD k [] = wd := ⟨_, rfl⟩
      have e0 : Fwb k = .string (bs wd) := by rw [Hwb.out k hlt, Htx.out, hwd]
      have e1 : Fwb (k * 1) = .string (bs wd) := by rw [Nat.mul_one]; exact e0
      have hwl := HL.out k
      rw [hwd] at hwl
      have Hwd := Lib.hid hwd
      have HbK := Lib.hid (show ¬ WkOk wd → ∀ m gs, ¬ TellsK l m gs from fun h => Hbad.out k hlt (by rw [hwd]; exact h))
      clear hwd
      obtain ⟨np, hnp⟩ : ∃ np, (partsC 47 wd).length = np := ⟨_, rfl⟩
      have HS1 := Lib.hid (splitTo_any wd 47 47 np rfl hwl hnp)
      by_cases hp2 : np ≠ 2
      · have Hb := Lib.hid (HbK.out (fun h => hp2 (by rw [← hnp]; exact h.p)))
        have d3 : decide ((np : Int) ≠ 2) = true := decide_eq_true (by omega)
        have d4 : ((np : Int) == 2) = false := by rw [beq_eq_false_iff_ne]; omega
        have d5 : ¬ (np : Int) = 2 := by omega
        clear hnp hp2
        have tk_r1 : True := trivial; have tk_s1 : True := trivial; have tk_b9 : True := trivial
        go_wp2_with (first | (have _t := tk_r1; refine wpList_get1 rfl _ _ rfl _ _ rfl hM 1 rfl (cellTab _ rfl) (by omega) _ (by first | exact e0 | exact e1) ?_; clear tk_r1) | (have _t := tk_s1; go_at_call 13; refine (HS1.out _).mono ?_; rintro e W' ⟨pb, cpb, Fpb, rfl, hpb, hcpb, hF', hA', hcb⟩; have hM' := hM.fresh' hcb hA' hpb; simp only [List.cons_append, List.nil_append] at hM'; have Hpb := Lib.hid hF'; clear hM hF' hA' hcb tk_s1; have hM := hM'; clear hM') | (have _t := tk_b9; refine wpList_slice0 rfl _ _ rfl 3 stk_under stk_size hM ?_; intro b9 W' hb9 hM'; clear hM tk_b9; have hM := hM'; clear hM'))
        refine bodyPost_ret (results_tmp2 rfl _ _ _) rfl ?_
        exact readK_no hM hb9 Hb.out
      obtain rfl : np = 2 := by omega
      have hPl := part_len 47 wd 0
      have hQl := part_len 47 wd 1
      rw [show (partsC 47 wd).getD 0 [] = wkP wd from rfl] at hPl
      have Hpt := Lib.hid (show txF (partsC 47 wd) 0 = .string (bs (wkP wd)) ∧ txF (partsC 47 wd) 1 = .string (bs (wkQ wd)) from ⟨rfl, rfl⟩)
      have HP := Lib.hid hnp
      generalize partsC 47 wd = pp at HS1 Hpt
      clear hp2 hnp hQl
      obtain ⟨ns, hns⟩ : ∃ ns, (partsC 44 (wkP wd)).length = ns := ⟨_, rfl⟩
      have HS2 := Lib.hid (splitTo_any (wkP wd) 44 44 ns rfl (by omega) hns)
      by_cases hs2 : ns ≠ 2
      · have Hb := Lib.hid (HbK.out (fun h => hs2 (by rw [← hns]; exact h.s)))
        have d4 : ((ns : Int) == 2) = false := by rw [beq_eq_false_iff_ne]; omega
        have d3 : decide ((ns : Int) ≠ 2) = true := decide_eq_true (by omega)
        have d5 : ¬ (ns : Int) = 2 := by omega
        clear hns hs2
        have tk_r1 : True := trivial; have tk_s1 : True := trivial; have tk_r2 : True := trivial; have tk_s2 : True := trivial; have tk_b9 : True := trivial
        go_wp2_with (first | (have _t := tk_r1; refine wpList_get1 rfl _ _ rfl _ _ rfl hM 1 rfl (cellTab _ rfl) (by omega) _ (by first | exact e0 | exact e1) ?_; clear tk_r1) | (have _t := tk_s1; go_at_call 13; refine (HS1.out _).mono ?_; rintro e W' ⟨pb, cpb, Fpb, rfl, hpb, hcpb, hF', hA', hcb⟩; have hM' := hM.fresh' hcb hA' hpb; simp only [List.cons_append, List.nil_append] at hM'; have Hpb := Lib.hid hF'; clear hM hF' hA' hcb tk_s1; have hM := hM'; clear hM') | (have _t := tk_r2; refine wpList_get1 rfl _ _ rfl _ _ rfl hM 2 rfl (cellTab _ rfl) (by omega) _ ((Hpb.out 0 (by omega)).trans Hpt.out.1) ?_; clear tk_r2) | (have _t := tk_s2; go_at_call 13; refine (HS2.out _).mono ?_; rintro e W' ⟨qb, cqb, Fqb, rfl, hqb, hcqb, hF', hA', hcb⟩; have hM' := hM.fresh' hcb hA' hqb; simp only [List.cons_append, List.nil_append] at hM'; have Hqb := Lib.hid hF'; clear hM hF' hA' hcb tk_s2; have hM := hM'; clear hM') | (have _t := tk_b9; refine wpList_slice0 rfl _ _ rfl 3 stk_under stk_size hM ?_; intro b9 W' hb9 hM'; clear hM tk_b9; have hM := hM'; clear hM'))
        refine bodyPost_ret (results_tmp2 rfl _ _ _) rfl ?_
        exact readK_no hM hb9 Hb.out
      obtain rfl : ns = 2 := by omega
      have Hst := Lib.hid (show txF (partsC 44 (wkP wd)) 0 = .string (bs (wkU wd)) ∧ txF (partsC 44 (wkP wd)) 1 = .string (bs (wkV wd)) from ⟨rfl, rfl⟩)
      have HSL := Lib.hid hns
      generalize partsC 44 (wkP wd) = pq at HS2 Hst
      clear hs2 hns
      have HN1 := Lib.hid (l01Number_any (wkU wd))
      have HN2 := Lib.hid (l01Number_any (wkV wd))
      have HN3 := Lib.hid (l01Number_any (wkQ wd))
      have HR := Lib.hid (l05Reach_any (numV (wkQ wd)))
      have Hyes := Lib.hid (fun o1 o2 o3 hx hy hr => (show WkOk wd from ⟨HP.out, HSL.out, o1, o2, o3, hx, hy, hr⟩))
      have Hno := Lib.hid (show (numB9 (wkU wd) = false ∨ numB9 (wkV wd) = false ∨ numB9 (wkQ wd) = false ∨ 10 ≤ numV (wkU wd) ∨ 10 ≤ numV (wkV wd) ∨ inB 0 200 (numV (wkQ wd)) = false) → ∀ m gs, ¬ TellsK l m gs from fun h => HbK.out (fun o => by
        rcases h with h | h | h | h | h | h
        · rw [o.u] at h; cases h
        · rw [o.v] at h; cases h
        · rw [o.q] at h; cases h
        · have := o.x; omega
        · have := o.y; omega
        · rw [o.r] at h; cases h))
      have HH := Lib.hid (show wkH wd = st3 (numV (wkU wd)) (numV (wkV wd)) (numV (wkQ wd)) from rfl)
      obtain ⟨hx0, hy0, hq0⟩ : 0 ≤ numV (wkU wd) ∧ 0 ≤ numV (wkV wd) ∧ 0 ≤ numV (wkQ wd) := ⟨numV_pos, numV_pos, numV_pos⟩
      generalize numV (wkU wd) = x at HN1 Hyes Hno HH hx0
      generalize numV (wkV wd) = y at HN2 Hyes Hno HH hy0
      generalize numV (wkQ wd) = q at HN3 HR Hyes Hno HH hq0
      generalize numB9 (wkU wd) = o1 at HN1 Hyes Hno
      generalize numB9 (wkV wd) = o2 at HN2 Hyes Hno
      generalize numB9 (wkQ wd) = o3 at HN3 Hyes Hno
      obtain ⟨o4, ho4⟩ : ∃ o4, inB 0 200 q = o4 := ⟨_, rfl⟩
      rw [ho4] at HR Hyes Hno
      generalize wkU wd = tu at HN1 Hst
      generalize wkV wd = tv at HN2 Hst
      generalize wkQ wd = tq at HN3 Hpt
      clear HP HSL HbK hPl
      cases o1
      · have Hb := Lib.hid (Hno.out (.inl rfl))
        clear Hno Hyes
        have tk_r1 : True := trivial; have tk_s1 : True := trivial; have tk_r2 : True := trivial; have tk_s2 : True := trivial; have tk_r3 : True := trivial; have tk_r4 : True := trivial; have tk_r5 : True := trivial; have tk_n1 : True := trivial; have tk_n2 : True := trivial; have tk_n3 : True := trivial; have tk_b9 : True := trivial
        go_wp2_with (first | (have _t := tk_r1; refine wpList_get1 rfl _ _ rfl _ _ rfl hM 1 rfl (cellTab _ rfl) (by omega) _ (by first | exact e0 | exact e1) ?_; clear tk_r1) | (have _t := tk_s1; go_at_call 13; refine (HS1.out _).mono ?_; rintro e W' ⟨pb, cpb, Fpb, rfl, hpb, hcpb, hF', hA', hcb⟩; have hM' := hM.fresh' hcb hA' hpb; simp only [List.cons_append, List.nil_append] at hM'; have Hpb := Lib.hid hF'; clear hM hF' hA' hcb tk_s1; have hM := hM'; clear hM') | (have _t := tk_r2; refine wpList_get1 rfl _ _ rfl _ _ rfl hM 2 rfl (cellTab _ rfl) (by omega) _ ((Hpb.out 0 (by omega)).trans Hpt.out.1) ?_; clear tk_r2) | (have _t := tk_s2; go_at_call 13; refine (HS2.out _).mono ?_; rintro e W' ⟨qb, cqb, Fqb, rfl, hqb, hcqb, hF', hA', hcb⟩; have hM' := hM.fresh' hcb hA' hqb; simp only [List.cons_append, List.nil_append] at hM'; have Hqb := Lib.hid hF'; clear hM hF' hA' hcb tk_s2; have hM := hM'; clear hM') | (have _t := tk_r3; refine wpList_get1 rfl _ _ rfl _ _ rfl hM 3 rfl (cellTab _ rfl) (by omega) _ ((Hqb.out 0 (by omega)).trans Hst.out.1) ?_; clear tk_r3) | (have _t := tk_n1; (go_at_call 14; refine (HN1.out _).mono ?_; rintro e W' ⟨rfl, hb'⟩; have hM' := hM.call hb'; clear hM hb'; have hM := hM'; clear hM'); clear tk_n1) | (have _t := tk_r4; refine wpList_get1 rfl _ _ rfl _ _ rfl hM 3 rfl (cellTab _ rfl) (by omega) _ ((Hqb.out 1 (by omega)).trans Hst.out.2) ?_; clear tk_r4) | (have _t := tk_n2; (go_at_call 14; refine (HN2.out _).mono ?_; rintro e W' ⟨rfl, hb'⟩; have hM' := hM.call hb'; clear hM hb'; have hM := hM'; clear hM'); clear tk_n2) | (have _t := tk_r5; refine wpList_get1 rfl _ _ rfl _ _ rfl hM 2 rfl (cellTab _ rfl) (by omega) _ ((Hpb.out 1 (by omega)).trans Hpt.out.2) ?_; clear tk_r5) | (have _t := tk_n3; (go_at_call 14; refine (HN3.out _).mono ?_; rintro e W' ⟨rfl, hb'⟩; have hM' := hM.call hb'; clear hM hb'; have hM := hM'; clear hM'); clear tk_n3) | (go_at_call 19; refine (HR.out _).mono ?_; rintro e W' ⟨rfl, hb'⟩; have hM' := hM.call hb'; clear hM hb'; have hM := hM'; clear hM') | (have _t := tk_b9; refine wpList_slice0 rfl _ _ rfl 3 stk_under stk_size hM ?_; intro b9 W' hb9 hM'; clear hM tk_b9; have hM := hM'; clear hM'))
        refine bodyPost_ret (results_tmp2 rfl _ _ _) rfl ?_
        exact readK_no hM hb9 Hb.out
      cases o2
      · have Hb := Lib.hid (Hno.out (.inr (.inl rfl)))
        clear Hno Hyes
        have tk_r1 : True := trivial; have tk_s1 : True := trivial; have tk_r2 : True := trivial; have tk_s2 : True := trivial; have tk_r3 : True := trivial; have tk_r4 : True := trivial; have tk_r5 : True := trivial; have tk_n1 : True := trivial; have tk_n2 : True := trivial; have tk_n3 : True := trivial; have tk_b9 : True := trivial
        go_wp2_with (first | (have _t := tk_r1; refine wpList_get1 rfl _ _ rfl _ _ rfl hM 1 rfl (cellTab _ rfl) (by omega) _ (by first | exact e0 | exact e1) ?_; clear tk_r1) | (have _t := tk_s1; go_at_call 13; refine (HS1.out _).mono ?_; rintro e W' ⟨pb, cpb, Fpb, rfl, hpb, hcpb, hF', hA', hcb⟩; have hM' := hM.fresh' hcb hA' hpb; simp only [List.cons_append, List.nil_append] at hM'; have Hpb := Lib.hid hF'; clear hM hF' hA' hcb tk_s1; have hM := hM'; clear hM') | (have _t := tk_r2; refine wpList_get1 rfl _ _ rfl _ _ rfl hM 2 rfl (cellTab _ rfl) (by omega) _ ((Hpb.out 0 (by omega)).trans Hpt.out.1) ?_; clear tk_r2) | (have _t := tk_s2; go_at_call 13; refine (HS2.out _).mono ?_; rintro e W' ⟨qb, cqb, Fqb, rfl, hqb, hcqb, hF', hA', hcb⟩; have hM' := hM.fresh' hcb hA' hqb; simp only [List.cons_append, List.nil_append] at hM'; have Hqb := Lib.hid hF'; clear hM hF' hA' hcb tk_s2; have hM := hM'; clear hM') | (have _t := tk_r3; refine wpList_get1 rfl _ _ rfl _ _ rfl hM 3 rfl (cellTab _ rfl) (by omega) _ ((Hqb.out 0 (by omega)).trans Hst.out.1) ?_; clear tk_r3) | (have _t := tk_n1; (go_at_call 14; refine (HN1.out _).mono ?_; rintro e W' ⟨rfl, hb'⟩; have hM' := hM.call hb'; clear hM hb'; have hM := hM'; clear hM'); clear tk_n1) | (have _t := tk_r4; refine wpList_get1 rfl _ _ rfl _ _ rfl hM 3 rfl (cellTab _ rfl) (by omega) _ ((Hqb.out 1 (by omega)).trans Hst.out.2) ?_; clear tk_r4) | (have _t := tk_n2; (go_at_call 14; refine (HN2.out _).mono ?_; rintro e W' ⟨rfl, hb'⟩; have hM' := hM.call hb'; clear hM hb'; have hM := hM'; clear hM'); clear tk_n2) | (have _t := tk_r5; refine wpList_get1 rfl _ _ rfl _ _ rfl hM 2 rfl (cellTab _ rfl) (by omega) _ ((Hpb.out 1 (by omega)).trans Hpt.out.2) ?_; clear tk_r5) | (have _t := tk_n3; (go_at_call 14; refine (HN3.out _).mono ?_; rintro e W' ⟨rfl, hb'⟩; have hM' := hM.call hb'; clear hM hb'; have hM := hM'; clear hM'); clear tk_n3) | (go_at_call 19; refine (HR.out _).mono ?_; rintro e W' ⟨rfl, hb'⟩; have hM' := hM.call hb'; clear hM hb'; have hM := hM'; clear hM') | (have _t := tk_b9; refine wpList_slice0 rfl _ _ rfl 3 stk_under stk_size hM ?_; intro b9 W' hb9 hM'; clear hM tk_b9; have hM := hM'; clear hM'))
        refine bodyPost_ret (results_tmp2 rfl _ _ _) rfl ?_
        exact readK_no hM hb9 Hb.out
      cases o3
      · have Hb := Lib.hid (Hno.out (.inr (.inr (.inl rfl))))
        clear Hno Hyes
        have tk_r1 : True := trivial; have tk_s1 : True := trivial; have tk_r2 : True := trivial; have tk_s2 : True := trivial; have tk_r3 : True := trivial; have tk_r4 : True := trivial; have tk_r5 : True := trivial; have tk_n1 : True := trivial; have tk_n2 : True := trivial; have tk_n3 : True := trivial; have tk_b9 : True := trivial
        go_wp2_with (first | (have _t := tk_r1; refine wpList_get1 rfl _ _ rfl _ _ rfl hM 1 rfl (cellTab _ rfl) (by omega) _ (by first | exact e0 | exact e1) ?_; clear tk_r1) | (have _t := tk_s1; go_at_call 13; refine (HS1.out _).mono ?_; rintro e W' ⟨pb, cpb, Fpb, rfl, hpb, hcpb, hF', hA', hcb⟩; have hM' := hM.fresh' hcb hA' hpb; simp only [List.cons_append, List.nil_append] at hM'; have Hpb := Lib.hid hF'; clear hM hF' hA' hcb tk_s1; have hM := hM'; clear hM') | (have _t := tk_r2; refine wpList_get1 rfl _ _ rfl _ _ rfl hM 2 rfl (cellTab _ rfl) (by omega) _ ((Hpb.out 0 (by omega)).trans Hpt.out.1) ?_; clear tk_r2) | (have _t := tk_s2; go_at_call 13; refine (HS2.out _).mono ?_; rintro e W' ⟨qb, cqb, Fqb, rfl, hqb, hcqb, hF', hA', hcb⟩; have hM' := hM.fresh' hcb hA' hqb; simp only [List.cons_append, List.nil_append] at hM'; have Hqb := Lib.hid hF'; clear hM hF' hA' hcb tk_s2; have hM := hM'; clear hM') | (have _t := tk_r3; refine wpList_get1 rfl _ _ rfl _ _ rfl hM 3 rfl (cellTab _ rfl) (by omega) _ ((Hqb.out 0 (by omega)).trans Hst.out.1) ?_; clear tk_r3) | (have _t := tk_n1; (go_at_call 14; refine (HN1.out _).mono ?_; rintro e W' ⟨rfl, hb'⟩; have hM' := hM.call hb'; clear hM hb'; have hM := hM'; clear hM'); clear tk_n1) | (have _t := tk_r4; refine wpList_get1 rfl _ _ rfl _ _ rfl hM 3 rfl (cellTab _ rfl) (by omega) _ ((Hqb.out 1 (by omega)).trans Hst.out.2) ?_; clear tk_r4) | (have _t := tk_n2; (go_at_call 14; refine (HN2.out _).mono ?_; rintro e W' ⟨rfl, hb'⟩; have hM' := hM.call hb'; clear hM hb'; have hM := hM'; clear hM'); clear tk_n2) | (have _t := tk_r5; refine wpList_get1 rfl _ _ rfl _ _ rfl hM 2 rfl (cellTab _ rfl) (by omega) _ ((Hpb.out 1 (by omega)).trans Hpt.out.2) ?_; clear tk_r5) | (have _t := tk_n3; (go_at_call 14; refine (HN3.out _).mono ?_; rintro e W' ⟨rfl, hb'⟩; have hM' := hM.call hb'; clear hM hb'; have hM := hM'; clear hM'); clear tk_n3) | (go_at_call 19; refine (HR.out _).mono ?_; rintro e W' ⟨rfl, hb'⟩; have hM' := hM.call hb'; clear hM hb'; have hM := hM'; clear hM') | (have _t := tk_b9; refine wpList_slice0 rfl _ _ rfl 3 stk_under stk_size hM ?_; intro b9 W' hb9 hM'; clear hM tk_b9; have hM := hM'; clear hM'))
        refine bodyPost_ret (results_tmp2 rfl _ _ _) rfl ?_
        exact readK_no hM hb9 Hb.out
      by_cases hx : 10 ≤ x
      · have Hb := Lib.hid (Hno.out (.inr (.inr (.inr (.inl hx)))))
        have qx : decide (x ≥ 10) = true := decide_eq_true hx
        clear Hno Hyes
        have tk_r1 : True := trivial; have tk_s1 : True := trivial; have tk_r2 : True := trivial; have tk_s2 : True := trivial; have tk_r3 : True := trivial; have tk_r4 : True := trivial; have tk_r5 : True := trivial; have tk_n1 : True := trivial; have tk_n2 : True := trivial; have tk_n3 : True := trivial; have tk_b9 : True := trivial
        go_wp2_with (first | (have _t := tk_r1; refine wpList_get1 rfl _ _ rfl _ _ rfl hM 1 rfl (cellTab _ rfl) (by omega) _ (by first | exact e0 | exact e1) ?_; clear tk_r1) | (have _t := tk_s1; go_at_call 13; refine (HS1.out _).mono ?_; rintro e W' ⟨pb, cpb, Fpb, rfl, hpb, hcpb, hF', hA', hcb⟩; have hM' := hM.fresh' hcb hA' hpb; simp only [List.cons_append, List.nil_append] at hM'; have Hpb := Lib.hid hF'; clear hM hF' hA' hcb tk_s1; have hM := hM'; clear hM') | (have _t := tk_r2; refine wpList_get1 rfl _ _ rfl _ _ rfl hM 2 rfl (cellTab _ rfl) (by omega) _ ((Hpb.out 0 (by omega)).trans Hpt.out.1) ?_; clear tk_r2) | (have _t := tk_s2; go_at_call 13; refine (HS2.out _).mono ?_; rintro e W' ⟨qb, cqb, Fqb, rfl, hqb, hcqb, hF', hA', hcb⟩; have hM' := hM.fresh' hcb hA' hqb; simp only [List.cons_append, List.nil_append] at hM'; have Hqb := Lib.hid hF'; clear hM hF' hA' hcb tk_s2; have hM := hM'; clear hM') | (have _t := tk_r3; refine wpList_get1 rfl _ _ rfl _ _ rfl hM 3 rfl (cellTab _ rfl) (by omega) _ ((Hqb.out 0 (by omega)).trans Hst.out.1) ?_; clear tk_r3) | (have _t := tk_n1; (go_at_call 14; refine (HN1.out _).mono ?_; rintro e W' ⟨rfl, hb'⟩; have hM' := hM.call hb'; clear hM hb'; have hM := hM'; clear hM'); clear tk_n1) | (have _t := tk_r4; refine wpList_get1 rfl _ _ rfl _ _ rfl hM 3 rfl (cellTab _ rfl) (by omega) _ ((Hqb.out 1 (by omega)).trans Hst.out.2) ?_; clear tk_r4) | (have _t := tk_n2; (go_at_call 14; refine (HN2.out _).mono ?_; rintro e W' ⟨rfl, hb'⟩; have hM' := hM.call hb'; clear hM hb'; have hM := hM'; clear hM'); clear tk_n2) | (have _t := tk_r5; refine wpList_get1 rfl _ _ rfl _ _ rfl hM 2 rfl (cellTab _ rfl) (by omega) _ ((Hpb.out 1 (by omega)).trans Hpt.out.2) ?_; clear tk_r5) | (have _t := tk_n3; (go_at_call 14; refine (HN3.out _).mono ?_; rintro e W' ⟨rfl, hb'⟩; have hM' := hM.call hb'; clear hM hb'; have hM := hM'; clear hM'); clear tk_n3) | (go_at_call 19; refine (HR.out _).mono ?_; rintro e W' ⟨rfl, hb'⟩; have hM' := hM.call hb'; clear hM hb'; have hM := hM'; clear hM') | (have _t := tk_b9; refine wpList_slice0 rfl _ _ rfl 3 stk_under stk_size hM ?_; intro b9 W' hb9 hM'; clear hM tk_b9; have hM := hM'; clear hM'))
        refine bodyPost_ret (results_tmp2 rfl _ _ _) rfl ?_
        exact readK_no hM hb9 Hb.out
      have qx : decide (x ≥ 10) = false := decide_eq_false hx
      by_cases hy : 10 ≤ y
      · have Hb := Lib.hid (Hno.out (.inr (.inr (.inr (.inr (.inl hy))))))
        have qy : decide (y ≥ 10) = true := decide_eq_true hy
        clear Hno Hyes
        have tk_r1 : True := trivial; have tk_s1 : True := trivial; have tk_r2 : True := trivial; have tk_s2 : True := trivial; have tk_r3 : True := trivial; have tk_r4 : True := trivial; have tk_r5 : True := trivial; have tk_n1 : True := trivial; have tk_n2 : True := trivial; have tk_n3 : True := trivial; have tk_b9 : True := trivial
        go_wp2_with (first | (have _t := tk_r1; refine wpList_get1 rfl _ _ rfl _ _ rfl hM 1 rfl (cellTab _ rfl) (by omega) _ (by first | exact e0 | exact e1) ?_; clear tk_r1) | (have _t := tk_s1; go_at_call 13; refine (HS1.out _).mono ?_; rintro e W' ⟨pb, cpb, Fpb, rfl, hpb, hcpb, hF', hA', hcb⟩; have hM' := hM.fresh' hcb hA' hpb; simp only [List.cons_append, List.nil_append] at hM'; have Hpb := Lib.hid hF'; clear hM hF' hA' hcb tk_s1; have hM := hM'; clear hM') | (have _t := tk_r2; refine wpList_get1 rfl _ _ rfl _ _ rfl hM 2 rfl (cellTab _ rfl) (by omega) _ ((Hpb.out 0 (by omega)).trans Hpt.out.1) ?_; clear tk_r2) | (have _t := tk_s2; go_at_call 13; refine (HS2.out _).mono ?_; rintro e W' ⟨qb, cqb, Fqb, rfl, hqb, hcqb, hF', hA', hcb⟩; have hM' := hM.fresh' hcb hA' hqb; simp only [List.cons_append, List.nil_append] at hM'; have Hqb := Lib.hid hF'; clear hM hF' hA' hcb tk_s2; have hM := hM'; clear hM') | (have _t := tk_r3; refine wpList_get1 rfl _ _ rfl _ _ rfl hM 3 rfl (cellTab _ rfl) (by omega) _ ((Hqb.out 0 (by omega)).trans Hst.out.1) ?_; clear tk_r3) | (have _t := tk_n1; (go_at_call 14; refine (HN1.out _).mono ?_; rintro e W' ⟨rfl, hb'⟩; have hM' := hM.call hb'; clear hM hb'; have hM := hM'; clear hM'); clear tk_n1) | (have _t := tk_r4; refine wpList_get1 rfl _ _ rfl _ _ rfl hM 3 rfl (cellTab _ rfl) (by omega) _ ((Hqb.out 1 (by omega)).trans Hst.out.2) ?_; clear tk_r4) | (have _t := tk_n2; (go_at_call 14; refine (HN2.out _).mono ?_; rintro e W' ⟨rfl, hb'⟩; have hM' := hM.call hb'; clear hM hb'; have hM := hM'; clear hM'); clear tk_n2) | (have _t := tk_r5; refine wpList_get1 rfl _ _ rfl _ _ rfl hM 2 rfl (cellTab _ rfl) (by omega) _ ((Hpb.out 1 (by omega)).trans Hpt.out.2) ?_; clear tk_r5) | (have _t := tk_n3; (go_at_call 14; refine (HN3.out _).mono ?_; rintro e W' ⟨rfl, hb'⟩; have hM' := hM.call hb'; clear hM hb'; have hM := hM'; clear hM'); clear tk_n3) | (go_at_call 19; refine (HR.out _).mono ?_; rintro e W' ⟨rfl, hb'⟩; have hM' := hM.call hb'; clear hM hb'; have hM := hM'; clear hM') | (have _t := tk_b9; refine wpList_slice0 rfl _ _ rfl 3 stk_under stk_size hM ?_; intro b9 W' hb9 hM'; clear hM tk_b9; have hM := hM'; clear hM'))
        refine bodyPost_ret (results_tmp2 rfl _ _ _) rfl ?_
        exact readK_no hM hb9 Hb.out
      have qy : decide (y ≥ 10) = false := decide_eq_false hy
      have Hr4 := Lib.hid ho4
      clear ho4
      cases o4
      · have Hb := Lib.hid (Hno.out (.inr (.inr (.inr (.inr (.inr rfl))))))
        clear Hno Hyes
        have tk_r1 : True := trivial; have tk_s1 : True := trivial; have tk_r2 : True := trivial; have tk_s2 : True := trivial; have tk_r3 : True := trivial; have tk_r4 : True := trivial; have tk_r5 : True := trivial; have tk_n1 : True := trivial; have tk_n2 : True := trivial; have tk_n3 : True := trivial; have tk_b9 : True := trivial
        go_wp2_with (first | (have _t := tk_r1; refine wpList_get1 rfl _ _ rfl _ _ rfl hM 1 rfl (cellTab _ rfl) (by omega) _ (by first | exact e0 | exact e1) ?_; clear tk_r1) | (have _t := tk_s1; go_at_call 13; refine (HS1.out _).mono ?_; rintro e W' ⟨pb, cpb, Fpb, rfl, hpb, hcpb, hF', hA', hcb⟩; have hM' := hM.fresh' hcb hA' hpb; simp only [List.cons_append, List.nil_append] at hM'; have Hpb := Lib.hid hF'; clear hM hF' hA' hcb tk_s1; have hM := hM'; clear hM') | (have _t := tk_r2; refine wpList_get1 rfl _ _ rfl _ _ rfl hM 2 rfl (cellTab _ rfl) (by omega) _ ((Hpb.out 0 (by omega)).trans Hpt.out.1) ?_; clear tk_r2) | (have _t := tk_s2; go_at_call 13; refine (HS2.out _).mono ?_; rintro e W' ⟨qb, cqb, Fqb, rfl, hqb, hcqb, hF', hA', hcb⟩; have hM' := hM.fresh' hcb hA' hqb; simp only [List.cons_append, List.nil_append] at hM'; have Hqb := Lib.hid hF'; clear hM hF' hA' hcb tk_s2; have hM := hM'; clear hM') | (have _t := tk_r3; refine wpList_get1 rfl _ _ rfl _ _ rfl hM 3 rfl (cellTab _ rfl) (by omega) _ ((Hqb.out 0 (by omega)).trans Hst.out.1) ?_; clear tk_r3) | (have _t := tk_n1; (go_at_call 14; refine (HN1.out _).mono ?_; rintro e W' ⟨rfl, hb'⟩; have hM' := hM.call hb'; clear hM hb'; have hM := hM'; clear hM'); clear tk_n1) | (have _t := tk_r4; refine wpList_get1 rfl _ _ rfl _ _ rfl hM 3 rfl (cellTab _ rfl) (by omega) _ ((Hqb.out 1 (by omega)).trans Hst.out.2) ?_; clear tk_r4) | (have _t := tk_n2; (go_at_call 14; refine (HN2.out _).mono ?_; rintro e W' ⟨rfl, hb'⟩; have hM' := hM.call hb'; clear hM hb'; have hM := hM'; clear hM'); clear tk_n2) | (have _t := tk_r5; refine wpList_get1 rfl _ _ rfl _ _ rfl hM 2 rfl (cellTab _ rfl) (by omega) _ ((Hpb.out 1 (by omega)).trans Hpt.out.2) ?_; clear tk_r5) | (have _t := tk_n3; (go_at_call 14; refine (HN3.out _).mono ?_; rintro e W' ⟨rfl, hb'⟩; have hM' := hM.call hb'; clear hM hb'; have hM := hM'; clear hM'); clear tk_n3) | (go_at_call 19; refine (HR.out _).mono ?_; rintro e W' ⟨rfl, hb'⟩; have hM' := hM.call hb'; clear hM hb'; have hM := hM'; clear hM') | (have _t := tk_b9; refine wpList_slice0 rfl _ _ rfl 3 stk_under stk_size hM ?_; intro b9 W' hb9 hM'; clear hM tk_b9; have hM := hM'; clear hM'))
        refine bodyPost_ret (results_tmp2 rfl _ _ _) rfl ?_
        exact readK_no hM hb9 Hb.out
      have cx : IntKind.i8.wrap x = x := IntWalk.i8_in _ (by omega)
      have cy : IntKind.i8.wrap y = y := IntWalk.i8_in _ (by omega)
      have Hq16 : Hid (IntKind.i16.wrap q = q) := Lib.hid (by
        have := inB_true Hr4.out
        exact IntWalk.i16_in _ (by omega))
      have cq := Hq16.out
      have Hk := Lib.hid (Hyes.out rfl rfl rfl (by omega) (by omega) rfl)
      have Hnew := Lib.hid (show ∀ j, j < 3 → vStake (st3 x y q) j = sStake (wkHs l) (k * 3 + j) from fun j hj => by rw [sStake_row _ _ _ hj, Hws.out, Hwd.out, HH.out])
      have Hok := Lib.hid (show ∀ j, j < k + 1 → WkOk (ws.getD j []) from fun j hj => by
        by_cases e : j = k
        · rw [e, Hwd.out]; exact Hk.out
        · exact hok.out j (by omega))
      have Hf := Lib.hid hFF.out
      clear hFF hok
      have tk_r1 : True := trivial; have tk_s1 : True := trivial; have tk_r2 : True := trivial; have tk_s2 : True := trivial; have tk_r3 : True := trivial; have tk_r4 : True := trivial; have tk_r5 : True := trivial; have tk_n1 : True := trivial; have tk_n2 : True := trivial; have tk_n3 : True := trivial; have tk_l1 : True := trivial; have tk_p1 : True := trivial
      go_wp2_with (first | (have _t := tk_r1; refine wpList_get1 rfl _ _ rfl _ _ rfl hM 1 rfl (cellTab _ rfl) (by omega) _ (by first | exact e0 | exact e1) ?_; clear tk_r1) | (have _t := tk_s1; go_at_call 13; refine (HS1.out _).mono ?_; rintro e W' ⟨pb, cpb, Fpb, rfl, hpb, hcpb, hF', hA', hcb⟩; have hM' := hM.fresh' hcb hA' hpb; simp only [List.cons_append, List.nil_append] at hM'; have Hpb := Lib.hid hF'; clear hM hF' hA' hcb tk_s1; have hM := hM'; clear hM') | (have _t := tk_r2; refine wpList_get1 rfl _ _ rfl _ _ rfl hM 2 rfl (cellTab _ rfl) (by omega) _ ((Hpb.out 0 (by omega)).trans Hpt.out.1) ?_; clear tk_r2) | (have _t := tk_s2; go_at_call 13; refine (HS2.out _).mono ?_; rintro e W' ⟨qb, cqb, Fqb, rfl, hqb, hcqb, hF', hA', hcb⟩; have hM' := hM.fresh' hcb hA' hqb; simp only [List.cons_append, List.nil_append] at hM'; have Hqb := Lib.hid hF'; clear hM hF' hA' hcb tk_s2; have hM := hM'; clear hM') | (have _t := tk_r3; refine wpList_get1 rfl _ _ rfl _ _ rfl hM 3 rfl (cellTab _ rfl) (by omega) _ ((Hqb.out 0 (by omega)).trans Hst.out.1) ?_; clear tk_r3) | (have _t := tk_n1; (go_at_call 14; refine (HN1.out _).mono ?_; rintro e W' ⟨rfl, hb'⟩; have hM' := hM.call hb'; clear hM hb'; have hM := hM'; clear hM'); clear tk_n1) | (have _t := tk_r4; refine wpList_get1 rfl _ _ rfl _ _ rfl hM 3 rfl (cellTab _ rfl) (by omega) _ ((Hqb.out 1 (by omega)).trans Hst.out.2) ?_; clear tk_r4) | (have _t := tk_n2; (go_at_call 14; refine (HN2.out _).mono ?_; rintro e W' ⟨rfl, hb'⟩; have hM' := hM.call hb'; clear hM hb'; have hM := hM'; clear hM'); clear tk_n2) | (have _t := tk_r5; refine wpList_get1 rfl _ _ rfl _ _ rfl hM 2 rfl (cellTab _ rfl) (by omega) _ ((Hpb.out 1 (by omega)).trans Hpt.out.2) ?_; clear tk_r5) | (have _t := tk_n3; (go_at_call 14; refine (HN3.out _).mono ?_; rintro e W' ⟨rfl, hb'⟩; have hM' := hM.call hb'; clear hM hb'; have hM := hM'; clear hM'); clear tk_n3) | (go_at_call 19; refine (HR.out _).mono ?_; rintro e W' ⟨rfl, hb'⟩; have hM' := hM.call hb'; clear hM hb'; have hM := hM'; clear hM') | (refine wpList_buildSp rfl _ _ rfl _ _ rfl rfl ?_) | (refine wpList_buildStk rfl _ _ rfl _ _ _ rfl rfl ?_) | (have _t := tk_l1; refine wpList_slice1 rfl _ _ _ rfl _ _ rfl _ stk_under stake_info2 (by omega) (by omega) hM ?_; intro bn W' hbn hM'; clear hM tk_l1; have hM := hM'; clear hM') | (have _t := tk_p1; refine wpList_push1 rfl _ _ _ rfl _ 3 _ _ stk_under infoStake rfl (by omega) _ _ _ _ rfl hb1 hnc hle _ _ rfl stake_ones hM (sStake (wkHs l)) Hf.out Hnew.out ?_; intro bL cL FL W' hbL hcL hFL hM'; clear hM tk_p1; have hM := hM'; clear hM'))
      go_roundw
      case rel => exact ⟨k + 1, by omega, by go_num, Hok, bL, cL, FL, rfl, hbL, hcL, Lib.hid hFL, hM.fewer (by simp)⟩
      case measure => simp [intOf]; omega
    · obtain rfl : k = n := by omega
      have Ht := Lib.hid (Hall.out hok.out)
      go_wp2
      refine bodyPost_ret (results_tmp2 rfl _ _ _) rfl ?_
      exact ⟨_, k, wkHs l, 0, rfl, .inr ⟨b1, c1, F1, rfl, hb1, hnc, hFF.out, hM.fewer (by simp)⟩, .inl ⟨Ht.out, rfl⟩⟩
end Go.Proofs.YtaaphdbaocjecaaDoor

/-
  spec.ReadGrowth by contract.
-/
namespace Go.Proofs.YtaaphdbaocjecaaDoor
open Go Go.RowKit Go.BigFrame

def sgT (l : List UInt8) : List UInt8 := (partsC 32 l).getD 0 []
def sgL (l : List UInt8) : List UInt8 := (partsC 32 l).getD 1 []
def sgW (l : List UInt8) (k : Nat) : List UInt8 := (partsC 44 (sgT l)).getD k []
def sgG (l : List UInt8) (k : Nat) : Int := if k < 11 then numV (sgW l k) else numV (sgL l)
def sgWok (l : List UInt8) (k : Nat) : Prop := numB9 (sgW l k) = true ∧ numV (sgW l k) ≤ 100
structure SgOk (l : List UInt8) : Prop where
  p : (partsC 32 l).length = 2
  s : (partsC 44 (sgT l)).length = 11
  o : numB9 (sgL l) = true
  m : numV (sgL l) ≤ 1000
  w : ∀ k, k < 11 → sgWok l k
theorem SgOk.told {l : List UInt8} (h : SgOk l) : TellsG l (sgG l) := by
  have e1 : l = sgT l ++ 32 :: sgL l := (parts_two.1 (two_of h.p)).1
  have e2 : joinT [44] (growW (sgG l)) 11 = sgT l := by
    have := joinT_parts (c := 44) (f := growW (sgG l)) (l := sgT l) (fun k hk => by
      rw [h.s] at hk
      unfold growW sgG
      rw [if_pos hk, ← num_back (h.w k hk).1]
      unfold sgW
      rw [List.getD_eq_getElem?_getD, List.getElem?_eq_getElem (by rw [h.s]; exact hk)]; rfl)
    rwa [h.s] at this
  refine ⟨?_, ?_⟩
  · unfold growB
    rw [Bool.and_eq_true, List.all_eq_true]
    refine ⟨fun k hk => ?_, decide_eq_true ⟨numV_pos, h.m⟩⟩
    have hk' := List.mem_range.1 hk
    unfold sgG
    rw [if_pos hk']
    exact decide_eq_true ⟨numV_pos, (h.w k hk').2⟩
  · rw [e2, show sgG l 11 = numV (sgL l) from rfl, ← num_back h.o]
    exact e1
theorem sgOk_of {l : List UInt8} {g : Nat → Int} (k : TellsG l g) : SgOk l := by
  obtain ⟨kt, k0, k1⟩ := growB_true k.1
  have eT : sgT l = joinT [44] (growW g) 11 := by unfold sgT; rw [k.parts]; rfl
  have eL : sgL l = numB (g 11) := by unfold sgL; rw [k.parts]; rfl
  have eW : ∀ j, j < 11 → sgW l j = numB (g j) := fun j hj => by
    unfold sgW
    rw [eT, growW_parts, List.getD_eq_getElem?_getD]
    simp [hj, growW]
  refine ⟨by rw [k.parts]; rfl, by rw [eT, growW_parts]; simp, ?_, ?_, fun j hj => ⟨?_, ?_⟩⟩
  · rw [eL]; exact numB_num9 k0 (by omega)
  · rw [eL, numV_numB k0 (by omega)]; exact k1
  · rw [eW j hj]; exact numB_num9 (kt j hj).1 (by have := (kt j hj).2; omega)
  · rw [eW j hj, numV_numB (kt j hj).1 (by have := (kt j hj).2; omega)]; exact (kt j hj).2
theorem sg_no {l : List UInt8} (h : ¬ SgOk l) (g : Nat → Int) : ¬ TellsG l g := fun k => h (sgOk_of k)
/-- The growth when k words came by. -/
def gsK (l : List UInt8) (k : Nat) : Nat → Int := fun j => if j < k ∨ j = 11 then sgG l j else 0
def lim11 (x : Int) : Nat → Int := fun j => if j = 11 then x else 0
theorem gsK_zero (l : List UInt8) : ∀ j, j < 12 → gro (lim11 (sgG l 11)) j = gro (gsK l 0) j := fun j _ => by
  unfold gro lim11 gsK
  by_cases e : j = 11
  · subst e; rw [if_pos rfl, if_pos (.inr rfl)]
  · rw [if_neg e, if_neg (by omega)]
theorem gsK_next {l : List UInt8} {k : Nat} (hk : k < 11) {v : Int} (hv : v = sgG l k) : ∀ j, j < 12 → upd (gro (gsK l k)) k (.int .i8 v) j = gro (gsK l (k + 1)) j := fun j hj => by
  unfold upd
  by_cases e : j = k
  · subst e
    rw [if_pos rfl, gro_i8 _ hk, hv]
    unfold gsK
    rw [if_pos (by omega)]
  · rw [if_neg e]
    unfold gro gsK
    by_cases h : j < k ∨ j = 11
    · rw [if_pos h, if_pos (by omega)]
    · rw [if_neg h, if_neg (by omega)]
theorem gsK_last (l : List UInt8) : ∀ j, j < 12 → gro (gsK l 11) j = gro (sgG l) j := fun j hj => by
  unfold gro gsK
  rw [if_pos (by omega)]
theorem run_buildG1 (x : Int) (W : World) : (Instr.build 26 #[(1, .int .i16 x)]).run Tryd.prog W = .ok (.agg (arr 12 (gro (lim11 x)))) W := by kernel_rfl
theorem exec_buildG1 {o : Oper} {a : Act} (u : Operand) (ho : o.op = .build 26 #[(1, u)]) (x : Int) (hu : a.eval u = .int .i16 x) (W : World) : (execOp a.eval o).run Tryd.prog W = .ok (.value (.agg (arr 12 (gro (lim11 x))))) W := by
  unfold execOp
  have e : (Array.map (fun (z : Nat × Operand) => match z with | (i, x) => (i, a.eval x)) #[(1, u)]) = #[(1, .int .i16 x)] := by simp [hu]
  simp only [ho, e, Sem.run_bind, Sem.run_pure, run_buildG1, Result.andThen_ok]
set_option maxRecDepth 100000 in
set_option maxHeartbeats 8000000 in
theorem specReadGrowth_any (l : List UInt8) (hl : l.length ≤ 1048576) (w : World) :
    Calls Tryd.prog 5 #[.string (bs l)] w (ReadG l w) := by
  have hM := Mem.nil w
  obtain ⟨n, hn⟩ : ∃ n, (partsC 32 l).length = n := ⟨_, rfl⟩
  have HS0 := Lib.hid (splitTo_any l 32 32 n rfl hl hn)
  by_cases hn2 : n ≠ 2
  · have Hb := Lib.hid (sg_no (l := l) (fun h => hn2 (by rw [← hn]; exact h.p)))
    have d3 : decide ((n : Int) ≠ 2) = true := decide_eq_true (by omega)
    have d4 : ((n : Int) == 2) = false := by rw [beq_eq_false_iff_ne]; omega
    have d5 : ¬ (n : Int) = 2 := by omega
    clear hn hn2
    have tk_b2 : True := trivial; have tk_s0 : True := trivial; have tk_y1 : True := trivial
    go_enter Tryd.func5, Tryd.ntmps5
    go_wp2_with (first | (have _t := tk_b2; refine wpList_zero rfl _ rfl (zeroTab _ _ _ rfl) hM ?_; intro b2 W' hb2 hM'; clear hM tk_b2; have hM := hM'; clear hM') | (have _t := tk_s0; go_at_call 13; refine (HS0.out _).mono ?_; rintro e W' ⟨wb, cwb, Fwb, rfl, hwb, hcwb, hF', hA', hcb⟩; have hM' := hM.fresh' hcb hA' hwb; simp only [List.cons_append, List.nil_append] at hM'; have Hwb := Lib.hid hF'; clear hM hF' hA' hcb tk_s0; have hM := hM'; clear hM') | (refine wpList_val rfl _ (exec_buildG0 rfl) ?_) | (have _t := tk_y1; refine wpList_lay rfl _ _ _ rfl _ _ rfl _ _ rfl hM 0 rfl (by assumption) (rowTab _ _ rfl) (by omega) (fun _ _ => rfl) ?_; intro W' hM'; clear hM tk_y1; have hM := hM'; clear hM'; simp only [List.set] at hM))
    have hM1 := hM.re 0 rfl (gro fun _ => 0) (fun j hj => by simp [lay, hj]; rfl)
    simp only [List.set_cons_succ, List.set_cons_zero] at hM1
    refine bodyPost_ret (results_at2 rfl _ rfl (hM1.ats 0 _ _ _ rfl) (rowTab _ _ rfl) _ rfl) rfl ?_
    exact ReadG.no Hb.out hM.below
  obtain rfl : n = 2 := by omega
  have HP := Lib.hid hn
  have hT := part_len 32 l 0
  have hL := part_len 32 l 1
  rw [show (partsC 32 l).getD 0 [] = sgT l from rfl] at hT
  rw [show (partsC 32 l).getD 1 [] = sgL l from rfl] at hL
  have Hw := Lib.hid (show txF (partsC 32 l) 0 = .string (bs (sgT l)) ∧ txF (partsC 32 l) 1 = .string (bs (sgL l)) from ⟨rfl, rfl⟩)
  generalize partsC 32 l = ww at HS0 Hw
  clear hn hn2
  obtain ⟨m, hm⟩ : ∃ m, (partsC 44 (sgT l)).length = m := ⟨_, rfl⟩
  have HS1 := Lib.hid (splitTo_any (sgT l) 44 44 m rfl (by omega) hm)
  have HN := Lib.hid (l01Number_any (sgL l))
  have hx0 : 0 ≤ numV (sgL l) := numV_pos
  have Hok := Lib.hid (fun (h1 : m = 11) h2 h3 h4 => (show SgOk l from ⟨HP.out, by rw [hm]; exact h1, h2, h3, h4⟩))
  have Hno := Lib.hid (show (m ≠ 11 ∨ numB9 (sgL l) = false ∨ 1000 < numV (sgL l) ∨ ∃ k, k < 11 ∧ ¬ sgWok l k) → ∀ g, ¬ TellsG l g from fun h => sg_no (fun o => by
    rcases h with h | h | h | ⟨k, hk, h⟩
    · exact h (by rw [← hm]; exact o.s)
    · rw [o.o] at h; cases h
    · have := o.m; omega
    · exact h (o.w k hk)))
  have HG11 := Lib.hid (show sgG l 11 = numV (sgL l) from rfl)
  have HGk := Lib.hid (show ∀ k, k < 11 → sgG l k = numV (sgW l k) from fun k hk => by unfold sgG; rw [if_pos hk])
  have Hpt := Lib.hid (show ∀ j, txF (partsC 44 (sgT l)) j = .string (bs (sgW l j)) from fun j => rfl)
  generalize numV (sgL l) = x at HN Hok Hno HG11 hx0
  generalize numB9 (sgL l) = o at HN Hok Hno
  generalize sgL l = tl at HN Hw
  generalize partsC 44 (sgT l) = pp at HS1 Hpt
  generalize sgT l = tt at HS1 Hw
  clear hm hT hL HP hl
  by_cases hm11 : m ≠ 11
  · have Hb := Lib.hid (Hno.out (.inl hm11))
    have d3 : decide ((m : Int) ≠ 11) = true := decide_eq_true (by omega)
    have d4 : ((m : Int) == 11) = false := by rw [beq_eq_false_iff_ne]; omega
    have d5 : ¬ (m : Int) = 11 := by omega
    clear hm11 Hno Hok
    have tk_b2 : True := trivial; have tk_s0 : True := trivial; have tk_r1 : True := trivial; have tk_s1 : True := trivial; have tk_r2 : True := trivial; have tk_n1 : True := trivial; have tk_y1 : True := trivial
    go_enter Tryd.func5, Tryd.ntmps5
    go_wp2_with (first | (have _t := tk_b2; refine wpList_zero rfl _ rfl (zeroTab _ _ _ rfl) hM ?_; intro b2 W' hb2 hM'; clear hM tk_b2; have hM := hM'; clear hM') | (have _t := tk_s0; go_at_call 13; refine (HS0.out _).mono ?_; rintro e W' ⟨wb, cwb, Fwb, rfl, hwb, hcwb, hF', hA', hcb⟩; have hM' := hM.fresh' hcb hA' hwb; simp only [List.cons_append, List.nil_append] at hM'; have Hwb := Lib.hid hF'; clear hM hF' hA' hcb tk_s0; have hM := hM'; clear hM') | (have _t := tk_r1; refine wpList_get1 rfl _ _ rfl _ _ rfl hM 1 rfl (cellTab _ rfl) (by omega) _ ((Hwb.out 0 (by omega)).trans Hw.out.1) ?_; clear tk_r1) | (have _t := tk_s1; go_at_call 13; refine (HS1.out _).mono ?_; rintro e W' ⟨pb, cpb, Fpb, rfl, hpb, hcpb, hF', hA', hcb⟩; have hM' := hM.fresh' hcb hA' hpb; simp only [List.cons_append, List.nil_append] at hM'; have Hpb := Lib.hid hF'; clear hM hF' hA' hcb tk_s1; have hM := hM'; clear hM') | (have _t := tk_r2; refine wpList_get1 rfl _ _ rfl _ _ rfl hM 1 rfl (cellTab _ rfl) (by omega) _ ((Hwb.out 1 (by omega)).trans Hw.out.2) ?_; clear tk_r2) | (have _t := tk_n1; (go_at_call 14; refine (HN.out _).mono ?_; rintro e W' ⟨rfl, hb'⟩; have hM' := hM.call hb'; clear hM hb'; have hM := hM'; clear hM'); clear tk_n1) | (refine wpList_val rfl _ (exec_buildG0 rfl) ?_) | (have _t := tk_y1; refine wpList_lay rfl _ _ _ rfl _ _ rfl _ _ rfl hM 0 rfl (by assumption) (rowTab _ _ rfl) (by omega) (fun _ _ => rfl) ?_; intro W' hM'; clear hM tk_y1; have hM := hM'; clear hM'; simp only [List.set] at hM))
    have hM1 := hM.re 0 rfl (gro fun _ => 0) (fun j hj => by simp [lay, hj]; rfl)
    simp only [List.set_cons_succ, List.set_cons_zero] at hM1
    refine bodyPost_ret (results_at2 rfl _ rfl (hM1.ats 0 _ _ _ rfl) (rowTab _ _ rfl) _ rfl) rfl ?_
    exact ReadG.no Hb.out hM.below
  obtain rfl : m = 11 := by omega
  clear hm11
  cases o
  · have Hb := Lib.hid (Hno.out (.inr (.inl rfl)))
    clear Hno Hok
    have tk_b2 : True := trivial; have tk_s0 : True := trivial; have tk_r1 : True := trivial; have tk_s1 : True := trivial; have tk_r2 : True := trivial; have tk_n1 : True := trivial; have tk_y1 : True := trivial
    go_enter Tryd.func5, Tryd.ntmps5
    go_wp2_with (first | (have _t := tk_b2; refine wpList_zero rfl _ rfl (zeroTab _ _ _ rfl) hM ?_; intro b2 W' hb2 hM'; clear hM tk_b2; have hM := hM'; clear hM') | (have _t := tk_s0; go_at_call 13; refine (HS0.out _).mono ?_; rintro e W' ⟨wb, cwb, Fwb, rfl, hwb, hcwb, hF', hA', hcb⟩; have hM' := hM.fresh' hcb hA' hwb; simp only [List.cons_append, List.nil_append] at hM'; have Hwb := Lib.hid hF'; clear hM hF' hA' hcb tk_s0; have hM := hM'; clear hM') | (have _t := tk_r1; refine wpList_get1 rfl _ _ rfl _ _ rfl hM 1 rfl (cellTab _ rfl) (by omega) _ ((Hwb.out 0 (by omega)).trans Hw.out.1) ?_; clear tk_r1) | (have _t := tk_s1; go_at_call 13; refine (HS1.out _).mono ?_; rintro e W' ⟨pb, cpb, Fpb, rfl, hpb, hcpb, hF', hA', hcb⟩; have hM' := hM.fresh' hcb hA' hpb; simp only [List.cons_append, List.nil_append] at hM'; have Hpb := Lib.hid hF'; clear hM hF' hA' hcb tk_s1; have hM := hM'; clear hM') | (have _t := tk_r2; refine wpList_get1 rfl _ _ rfl _ _ rfl hM 1 rfl (cellTab _ rfl) (by omega) _ ((Hwb.out 1 (by omega)).trans Hw.out.2) ?_; clear tk_r2) | (have _t := tk_n1; (go_at_call 14; refine (HN.out _).mono ?_; rintro e W' ⟨rfl, hb'⟩; have hM' := hM.call hb'; clear hM hb'; have hM := hM'; clear hM'); clear tk_n1) | (refine wpList_val rfl _ (exec_buildG0 rfl) ?_) | (have _t := tk_y1; refine wpList_lay rfl _ _ _ rfl _ _ rfl _ _ rfl hM 0 rfl (by assumption) (rowTab _ _ rfl) (by omega) (fun _ _ => rfl) ?_; intro W' hM'; clear hM tk_y1; have hM := hM'; clear hM'; simp only [List.set] at hM))
    have hM1 := hM.re 0 rfl (gro fun _ => 0) (fun j hj => by simp [lay, hj]; rfl)
    simp only [List.set_cons_succ, List.set_cons_zero] at hM1
    refine bodyPost_ret (results_at2 rfl _ rfl (hM1.ats 0 _ _ _ rfl) (rowTab _ _ rfl) _ rfl) rfl ?_
    exact ReadG.no Hb.out hM.below
  by_cases hx : 1000 < x
  · have Hb := Lib.hid (Hno.out (.inr (.inr (.inl hx))))
    have d3 : decide (x > 1000) = true := decide_eq_true hx
    clear Hno Hok
    have tk_b2 : True := trivial; have tk_s0 : True := trivial; have tk_r1 : True := trivial; have tk_s1 : True := trivial; have tk_r2 : True := trivial; have tk_n1 : True := trivial; have tk_y1 : True := trivial
    go_enter Tryd.func5, Tryd.ntmps5
    go_wp2_with (first | (have _t := tk_b2; refine wpList_zero rfl _ rfl (zeroTab _ _ _ rfl) hM ?_; intro b2 W' hb2 hM'; clear hM tk_b2; have hM := hM'; clear hM') | (have _t := tk_s0; go_at_call 13; refine (HS0.out _).mono ?_; rintro e W' ⟨wb, cwb, Fwb, rfl, hwb, hcwb, hF', hA', hcb⟩; have hM' := hM.fresh' hcb hA' hwb; simp only [List.cons_append, List.nil_append] at hM'; have Hwb := Lib.hid hF'; clear hM hF' hA' hcb tk_s0; have hM := hM'; clear hM') | (have _t := tk_r1; refine wpList_get1 rfl _ _ rfl _ _ rfl hM 1 rfl (cellTab _ rfl) (by omega) _ ((Hwb.out 0 (by omega)).trans Hw.out.1) ?_; clear tk_r1) | (have _t := tk_s1; go_at_call 13; refine (HS1.out _).mono ?_; rintro e W' ⟨pb, cpb, Fpb, rfl, hpb, hcpb, hF', hA', hcb⟩; have hM' := hM.fresh' hcb hA' hpb; simp only [List.cons_append, List.nil_append] at hM'; have Hpb := Lib.hid hF'; clear hM hF' hA' hcb tk_s1; have hM := hM'; clear hM') | (have _t := tk_r2; refine wpList_get1 rfl _ _ rfl _ _ rfl hM 1 rfl (cellTab _ rfl) (by omega) _ ((Hwb.out 1 (by omega)).trans Hw.out.2) ?_; clear tk_r2) | (have _t := tk_n1; (go_at_call 14; refine (HN.out _).mono ?_; rintro e W' ⟨rfl, hb'⟩; have hM' := hM.call hb'; clear hM hb'; have hM := hM'; clear hM'); clear tk_n1) | (refine wpList_val rfl _ (exec_buildG0 rfl) ?_) | (have _t := tk_y1; refine wpList_lay rfl _ _ _ rfl _ _ rfl _ _ rfl hM 0 rfl (by assumption) (rowTab _ _ rfl) (by omega) (fun _ _ => rfl) ?_; intro W' hM'; clear hM tk_y1; have hM := hM'; clear hM'; simp only [List.set] at hM))
    have hM1 := hM.re 0 rfl (gro fun _ => 0) (fun j hj => by simp [lay, hj]; rfl)
    simp only [List.set_cons_succ, List.set_cons_zero] at hM1
    refine bodyPost_ret (results_at2 rfl _ rfl (hM1.ats 0 _ _ _ rfl) (rowTab _ _ rfl) _ rfl) rfl ?_
    exact ReadG.no Hb.out hM.below
  have d3 : decide (x > 1000) = false := decide_eq_false hx
  have cx : IntKind.i16.wrap x = x := IntWalk.i16_in _ (by omega)
  have HNk := Lib.hid (fun k => l01Number_any (sgW l k))
  have Hend := Lib.hid (fun h4 => (Hok.out rfl rfl (by omega) h4).told)
  have Hbk := Lib.hid (show ∀ k, k < 11 → ¬ sgWok l k → ∀ g, ¬ TellsG l g from fun k h1 h2 => Hno.out (.inr (.inr (.inr ⟨k, h1, h2⟩))))
  have Hz := Lib.hid (gsK_zero l)
  rw [HG11.out] at Hz
  clear Hno Hok HG11
  have tk_b2 : True := trivial; have tk_s0 : True := trivial; have tk_r1 : True := trivial; have tk_s1 : True := trivial; have tk_r2 : True := trivial; have tk_n1 : True := trivial; have tk_b8 : True := trivial; have tk_y8 : True := trivial
  go_enter Tryd.func5, Tryd.ntmps5
  go_wp2_with (first | (have _t := tk_b2; refine wpList_zero rfl _ rfl (zeroTab _ _ _ rfl) hM ?_; intro b2 W' hb2 hM'; clear hM tk_b2; have hM := hM'; clear hM') | (have _t := tk_s0; go_at_call 13; refine (HS0.out _).mono ?_; rintro e W' ⟨wb, cwb, Fwb, rfl, hwb, hcwb, hF', hA', hcb⟩; have hM' := hM.fresh' hcb hA' hwb; simp only [List.cons_append, List.nil_append] at hM'; have Hwb := Lib.hid hF'; clear hM hF' hA' hcb tk_s0; have hM := hM'; clear hM') | (have _t := tk_r1; refine wpList_get1 rfl _ _ rfl _ _ rfl hM 1 rfl (cellTab _ rfl) (by omega) _ ((Hwb.out 0 (by omega)).trans Hw.out.1) ?_; clear tk_r1) | (have _t := tk_s1; go_at_call 13; refine (HS1.out _).mono ?_; rintro e W' ⟨pb, cpb, Fpb, rfl, hpb, hcpb, hF', hA', hcb⟩; have hM' := hM.fresh' hcb hA' hpb; simp only [List.cons_append, List.nil_append] at hM'; have Hpb := Lib.hid hF'; clear hM hF' hA' hcb tk_s1; have hM := hM'; clear hM') | (have _t := tk_r2; refine wpList_get1 rfl _ _ rfl _ _ rfl hM 1 rfl (cellTab _ rfl) (by omega) _ ((Hwb.out 1 (by omega)).trans Hw.out.2) ?_; clear tk_r2) | (have _t := tk_n1; (go_at_call 14; refine (HN.out _).mono ?_; rintro e W' ⟨rfl, hb'⟩; have hM' := hM.call hb'; clear hM hb'; have hM := hM'; clear hM'); clear tk_n1) | (refine wpList_val rfl _ (exec_buildG1 _ rfl _ rfl) ?_) | (have _t := tk_b8; refine wpList_zero rfl _ rfl (zeroTab _ _ _ rfl) hM ?_; intro b8 W' hb8 hM'; clear hM tk_b8; have hM := hM'; clear hM') | (have _t := tk_y8; refine wpList_lay rfl _ _ _ rfl _ _ rfl _ _ rfl hM 0 rfl (by assumption) (rowTab _ _ rfl) (by omega) (fun _ _ => rfl) ?_; intro W' hM'; clear hM tk_y8; have hM := hM'; clear hM'; simp only [List.set] at hM))
  have hM1 := hM.re 0 rfl (gro (gsK l 0)) (fun j hj => by rw [← Hz.out j hj]; simp [lay, hj])
  simp only [List.set_cons_zero] at hM1
  clear hM
  have hM := hM1
  clear hM1
  go_loopw [9] (fun i wr => ∃ k : Nat, k ≤ 11 ∧ i = .int .i64 k ∧ Hid (∀ j, j < k → sgWok l j) ∧ Mem (Base.of w) [(b8, 12, gro (gsK l k)), (b2, 12, zW), (wb, cwb * 1, Fwb), (pb, cpb * 1, Fpb)] wr) (fun i _ => 11 - (intOf i).toNat)
  case atStart => exact ⟨0, by omega, rfl, Lib.hid (fun j hj => absurd hj (by omega)), hM⟩
  case round =>
    clear hM
    obtain ⟨k, hk, rfl, hall, hM⟩ := hrel
    by_cases hlt : k < 11
    · have l2 : (k : Int) < 11 := by omega
      obtain ⟨wd, hwd⟩ : ∃ wd, sgW l k = wd := ⟨_, rfl⟩
      have e0 : Fpb k = .string (bs wd) := by rw [Hpb.out k hlt, Hpt.out, hwd]
      have e1 : Fpb (k * 1) = .string (bs wd) := by rw [Nat.mul_one]; exact e0
      have HNw := Lib.hid (HNk.out k)
      have hg := HGk.out k hlt
      have Hwk := Lib.hid (show sgWok l k = (numB9 wd = true ∧ numV wd ≤ 100) from by rw [← hwd]; rfl)
      have hy0 : 0 ≤ numV wd := numV_pos
      rw [hwd] at HNw hg
      have Hbad := Lib.hid (Hbk.out k hlt)
      rw [Hwk.out] at Hbad
      have Hg := Lib.hid hg
      clear hwd hg
      generalize numV wd = y at HNw Hg Hwk Hbad hy0
      generalize numB9 wd = ob at HNw Hwk Hbad
      cases ob
      · have Hb := Lib.hid (Hbad.out (fun h => by cases h.1))
        clear Hbad Hwk Hg
        have tk_r3 : True := trivial; have tk_n3 : True := trivial; have tk_y1 : True := trivial
        go_wp2_with (first | (have _t := tk_r3; refine wpList_get1 rfl _ _ rfl _ _ rfl hM 3 rfl (cellTab _ rfl) (by omega) _ (by first | exact e0 | exact e1) ?_; clear tk_r3) | (have _t := tk_n3; (go_at_call 14; refine (HNw.out _).mono ?_; rintro e W' ⟨rfl, hb'⟩; have hM' := hM.call hb'; clear hM hb'; have hM := hM'; clear hM'); clear tk_n3) | (refine wpList_val rfl _ (exec_buildG0 rfl) ?_) | (have _t := tk_y1; refine wpList_lay rfl _ _ _ rfl _ _ rfl _ _ rfl hM 1 rfl (by assumption) (rowTab _ _ rfl) (by omega) (fun _ _ => rfl) ?_; intro W' hM'; clear hM tk_y1; have hM := hM'; clear hM'; simp only [List.set] at hM))
        have hM1 := hM.re 1 rfl (gro fun _ => 0) (fun j hj => by simp [lay, hj]; rfl)
        simp only [List.set_cons_succ, List.set_cons_zero] at hM1
        refine bodyPost_ret (results_at2 rfl _ rfl (hM1.ats 1 _ _ _ rfl) (rowTab _ _ rfl) _ rfl) rfl ?_
        exact ReadG.no Hb.out hM.below
      by_cases hy : 100 < y
      · have Hb := Lib.hid (Hbad.out (fun h => by have := h.2; omega))
        have d6 : decide (y > 100) = true := decide_eq_true hy
        clear Hbad Hwk Hg
        have tk_r3 : True := trivial; have tk_n3 : True := trivial; have tk_y1 : True := trivial
        go_wp2_with (first | (have _t := tk_r3; refine wpList_get1 rfl _ _ rfl _ _ rfl hM 3 rfl (cellTab _ rfl) (by omega) _ (by first | exact e0 | exact e1) ?_; clear tk_r3) | (have _t := tk_n3; (go_at_call 14; refine (HNw.out _).mono ?_; rintro e W' ⟨rfl, hb'⟩; have hM' := hM.call hb'; clear hM hb'; have hM := hM'; clear hM'); clear tk_n3) | (refine wpList_val rfl _ (exec_buildG0 rfl) ?_) | (have _t := tk_y1; refine wpList_lay rfl _ _ _ rfl _ _ rfl _ _ rfl hM 1 rfl (by assumption) (rowTab _ _ rfl) (by omega) (fun _ _ => rfl) ?_; intro W' hM'; clear hM tk_y1; have hM := hM'; clear hM'; simp only [List.set] at hM))
        have hM1 := hM.re 1 rfl (gro fun _ => 0) (fun j hj => by simp [lay, hj]; rfl)
        simp only [List.set_cons_succ, List.set_cons_zero] at hM1
        refine bodyPost_ret (results_at2 rfl _ rfl (hM1.ats 1 _ _ _ rfl) (rowTab _ _ rfl) _ rfl) rfl ?_
        exact ReadG.no Hb.out hM.below
      have d6 : decide (y > 100) = false := decide_eq_false hy
      have cy : IntKind.i8.wrap y = y := IntWalk.i8_in _ (by omega)
      have Hn := Lib.hid (gsK_next hlt Hg.out.symm)
      have Hall := Lib.hid (show ∀ j, j < k + 1 → sgWok l j from fun j hj => by
        by_cases e : j = k
        · rw [e, Hwk.out]; exact ⟨rfl, by omega⟩
        · exact hall.out j (by omega))
      clear Hbad Hwk Hg hall
      have tk_r3 : True := trivial; have tk_n3 : True := trivial
      go_wp2_with (first | (have _t := tk_r3; refine wpList_get1 rfl _ _ rfl _ _ rfl hM 3 rfl (cellTab _ rfl) (by omega) _ (by first | exact e0 | exact e1) ?_; clear tk_r3) | (have _t := tk_n3; (go_at_call 14; refine (HNw.out _).mono ?_; rintro e W' ⟨rfl, hb'⟩; have hM' := hM.call hb'; clear hM hb'; have hM := hM'; clear hM'); clear tk_n3) | (refine wpList_set1 rfl _ _ _ rfl _ _ rfl _ rfl ?_ hM 0 rfl (by assumption) (cellTab _ rfl) (by omega) ?_; (first | rfl | exact h1 _); intro W' hM'; clear hM; have hM := hM'; clear hM'; simp [List.set, Act.eval] at hM))
      have hM1 := hM.re 0 rfl (gro (gsK l (k + 1))) Hn.out
      simp only [List.set_cons_zero] at hM1
      go_roundw
      case rel => exact ⟨k + 1, by omega, by go_num, Hall, by rw [Nat.mul_one, Nat.mul_one]; exact hM1⟩
      case measure => simp [intOf]; omega
    · obtain rfl : k = 11 := by omega
      have Ht := Lib.hid (Hend.out hall.out)
      have hM1 := hM.re 0 rfl (gro (sgG l)) (gsK_last l)
      simp only [List.set_cons_zero] at hM1
      clear hM
      have hM := hM1
      clear hM1
      have eg : arr 12 (fun j => gro (sgG l) (0 + j)) = arr 12 (gro (sgG l)) := arr_congr fun j hj => by rw [Nat.zero_add]
      have tk_g1 : True := trivial; have tk_y1 : True := trivial
      go_wp2_with (first | (have _t := tk_g1; (refine wpList_get rfl _ _ rfl _ _ rfl hM 0 rfl (rowTab _ _ rfl) (by omega) ?_); rw [eg]; clear tk_g1) | (have _t := tk_y1; refine wpList_lay rfl _ _ _ rfl _ _ rfl _ _ rfl hM 1 rfl (by assumption) (rowTab _ _ rfl) (by omega) (fun _ _ => rfl) ?_; intro W' hM'; clear hM tk_y1; have hM := hM'; clear hM'; simp only [List.set] at hM))
      have hM1 := hM.re 1 rfl (gro (sgG l)) (fun j hj => by simp [lay, hj])
      simp only [List.set_cons_succ, List.set_cons_zero] at hM1
      refine bodyPost_ret (results_at2 rfl _ rfl (hM1.ats 1 _ _ _ rfl) (rowTab _ _ rfl) _ rfl) rfl ?_
      exact ⟨_, 0, rfl, .inl ⟨Ht.out, rfl⟩, hM.below⟩
end Go.Proofs.YtaaphdbaocjecaaDoor

