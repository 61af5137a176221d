/-
  Several texts in one: GroupsI, ChkC, LargeS, PickM, LargeK.
-/
import Derived.Test.YthodkbmenndnoaaDoorP14
import Derived.Test.YthodkbmenndnoaaDoorP13
/-
  (impl.members).checkNumbers, checkPeace by contracts.
-/
namespace Go.Proofs.YthodkbmenndnoaaDoor
open Go Go.RowKit Go.BigFrame

set_option maxRecDepth 100000 in
set_option maxHeartbeats 2000000 in
theorem checkNumbers_any {a : Nat → Addr} (d : Hd) (ma : Option Addr) (mc : Nat) (h14 : d.n1 ≤ 14) (ga : Option Addr) (gn gc : Nat) (ys : Nat → Int) (hgn : gn ≤ 1048576) (R : Value) (hR : (if numsB d gn ys = true then .nilIface else errV (a 2)) = R) (w : World) (hG : IntsAt w ga gn ys) (hE : Errs a w) :
    Calls Tryd.prog 96 #[.slice ma d.n1 mc, .slice ga gn gc] w fun e w' => e = .returned R ∧ Below w.heap.size w w' := by
  have hM := Mem.nil w
  have HG := Lib.hid hG
  have HE := Lib.hid hE
  have HR := Lib.hid hR
  clear hG hE hR
  by_cases hl : gn = d.n1
  case neg =>
    have v2 : w.cell? ⟨3, 0, none⟩ = some (errV (a 2)) := HE.out.vars 2 (by omega)
    have HZ := Lib.hid (show numsB d gn ys = false from by unfold numsB; rw [decide_eq_false hl]; rfl)
    have z1 : ((gn : Int) != (d.n1 : Int)) = true := bne_iff_ne.2 (by omega)
    have z2 : ((gn : Int) == (d.n1 : Int)) = false := beq_eq_false_iff_ne.2 (by omega)
    have z3 : ¬ (gn : Int) = d.n1 := by omega
    clear hl
    go_enter Tryd.func96, Tryd.ntmps96
    go_wp2
    go_ret
    exact ⟨by rw [← HR.out, HZ.out]; rfl, hM.below⟩
  obtain ⟨n, hn⟩ : ∃ n, d.n1 = n := ⟨_, rfl⟩
  have Hn := Lib.hid hn
  rw [hn] at h14 ⊢
  rw [hn] at hl
  subst hl
  clear hn
  go_enter Tryd.func96, Tryd.ntmps96
  go_wp2
  go_loopw [15] (fun i wr => ∃ k : Nat, k ≤ gn ∧ i = .int .i64 k ∧ Hid (numU ys k = true) ∧ Mem w [] wr) (fun i _ => gn - (intOf i).toNat)
  case atStart => exact ⟨0, by omega, rfl, Lib.hid rfl, hM⟩
  case round =>
    clear hM
    obtain ⟨k, hk, rfl, hall, hM⟩ := hrel
    by_cases hlt : k < gn
    · have l2 : (k : Int) < gn := by omega
      obtain ⟨bg, Ng, Fg, rfl, hNg, hFg, hAg⟩ := HG.out.at hlt
      have HAg := Lib.hid hAg
      obtain ⟨y, hy⟩ : ∃ y, ys k = y := ⟨_, rfl⟩
      rw [hy] at hFg
      have HSt := Lib.hid (show numU ys (k + 1) = inB 0 13 y from by simp only [numU, hall.out, Bool.true_and, hy])
      have HFn := Lib.hid (show inB 0 13 y = false → numsB d gn ys = false from fun h => by unfold numsB; rw [numU_no hlt (by rw [hy]; exact h), Bool.and_false])
      have v2 : wr.cell? ⟨3, 0, none⟩ = some (errV (a 2)) := (HE.out.below hM.below).vars 2 (by omega)
      clear hAg hy
      by_cases h0 : y < 0
      · have d0 : decide (y < 0) = true := decide_eq_true h0
        have HZ := Lib.hid (HFn.out (inB_no (by omega)))
        go_wp2_with (first | (refine wpList_getAt1 rfl _ _ rfl _ _ rfl (HAg.out.below hM.below HAg.out.lt) (cellTab _ rfl) (by omega) _ hFg ?_))
        go_ret
        exact ⟨by rw [← HR.out, HZ.out]; rfl, hM.below⟩
      have d0 : decide (y < 0) = false := decide_eq_false h0
      by_cases h1 : 14 ≤ y
      · have d1 : decide (14 ≤ y) = true := decide_eq_true h1
        have HZ := Lib.hid (HFn.out (inB_no (by omega)))
        go_wp2_with (first | (refine wpList_getAt1 rfl _ _ rfl _ _ rfl (HAg.out.below hM.below HAg.out.lt) (cellTab _ rfl) (by omega) _ hFg ?_))
        go_ret
        exact ⟨by rw [← HR.out, HZ.out]; rfl, hM.below⟩
      have d1 : decide (14 ≤ y) = false := decide_eq_false h1
      have HZ := Lib.hid (HSt.out.trans (inB_yes (by omega)))
      clear v2
      go_wp2_with (first | (refine wpList_getAt1 rfl _ _ rfl _ _ rfl (HAg.out.below hM.below HAg.out.lt) (cellTab _ rfl) (by omega) _ hFg ?_))
      go_roundw
      case rel => exact ⟨k + 1, by omega, by go_num, HZ, hM⟩
      case measure => simp [intOf]; omega
    · obtain rfl : k = gn := by omega
      have HZ := Lib.hid (show numsB d k ys = true from by unfold numsB; rw [hall.out, Hn.out, decide_eq_true rfl]; rfl)
      go_wp2
      go_ret
      exact ⟨by rw [← HR.out, HZ.out]; rfl, hM.below⟩

/-- The refusal of groups for a quarrel. -/
def quarV (i k : Nat) : Value := .iface 111 (.agg #[.int .i64 (i : Int), .int .i64 (k : Int)])
theorem run_quarrel (x y : Int) (W : World) : (Instr.build 111 #[(0, .int .i64 x), (1, .int .i64 y)]).run Tryd.prog W = .ok (.agg #[.int .i64 x, .int .i64 y]) W := by kernel_rfl
theorem wpList_quarrel {ops : Array Oper} {rest : List Oper} {o : Oper} {a : Act} {W : World} {Q : Exit → Act → World → Prop} (hgd : o.guard = none) (x y : Operand) (ho : o.op = .build 111 #[(0, x), (1, y)]) (i k : Int)
    (hx : a.eval x = .int .i64 i) (hy : a.eval y = .int .i64 k)
    (h : wpList Tryd.prog ops Q rest (a.put o.dst (.agg #[.int .i64 i, .int .i64 k])) W) : wpList Tryd.prog ops Q (o :: rest) a W := by
  refine wpList_plain hgd fun K hK => ?_
  have hr := run_quarrel i k W
  rw [← hx, ← hy] at hr
  unfold Oper.wp execOp
  simp only [ho, List.map_toArray, List.map_cons, List.map_nil, Sem.run_bind, Sem.run_pure, hr, Result.andThen_ok]
  rw [hx, hy]
  exact hK _ _ h
/-- What the check of peace gives. -/
def peaceV (a : Nat → Addr) (d : Hd) (n : Nat) (ys : Nat → Int) : Value := if numsB d n ys then (match quarI d ys n n with | some (i, k) => quarV i k | none => .nilIface) else errV (a 2)

set_option maxRecDepth 100000 in
set_option maxHeartbeats 8000000 in
theorem checkPeace_any {a : Nat → Addr} (d : Hd) (ma : Option Addr) (mc : Nat) (hOk : HerdOk d) (hf : ∀ i, i < d.n1 → 0 ≤ d.fs i ∧ d.fs i ≤ 65535) (ga : Option Addr) (gn gc : Nat) (ys : Nat → Int) (hgn : gn ≤ 1048576) (w : World) (hA : MemsAt w ma d.n1 d) (hG : IntsAt w ga gn ys) (hE : Errs a w) (hT : Tab w) :
    Calls Tryd.prog 92 #[.slice ma d.n1 mc, .slice ga gn gc] w fun e w' => e = .returned (peaceV a d gn ys) ∧ Below w.heap.size w w' := by
  have hM := Mem.nil w
  have HG := Lib.hid hG
  have HE := Lib.hid hE
  have HT := Lib.hid hT
  have HA := Lib.hid hA
  have HF := Lib.hid hf
  have h14 := hOk.n
  have HFo := Lib.hid hOk.foes
  have HCN := Lib.hid (fun (R : Value) (hR : (if numsB d gn ys = true then .nilIface else errV (a 2)) = R) (W : World) hG hE => checkNumbers_any (a := a) d ma mc h14 ga gn gc ys hgn R hR W hG hE)
  clear hG hE hT hA hf hOk
  cases hnb : numsB d gn ys
  · have HZ := Lib.hid (show peaceV a d gn ys = errV (a 2) from by unfold peaceV; rw [hnb]; rfl)
    have HB := Lib.hid hnb
    have hIf : Hid ((if numsB d gn ys = true then Value.nilIface else errV (a 2)) = errV (a 2)) := Lib.hid (by rw [hnb]; rfl)
    clear hnb
    go_enter Tryd.func92, Tryd.ntmps92
    go_wp2_with (first | (go_at_call 96; refine (HCN.out _ hIf.out _ (HG.out.below hM.below) (HE.out.below hM.below)).mono ?_; rintro e W' ⟨rfl, hb'⟩; have hM' := hM.call hb'; clear hM hb'; have hM := hM'; clear hM'))
    go_ret
    rw [HZ.out]
    exact ⟨rfl, hM.below⟩
  have hIf : Hid ((if numsB d gn ys = true then Value.nilIface else errV (a 2)) = Value.nilIface) := Lib.hid (by rw [hnb]; rfl)
  obtain ⟨hnn, -⟩ := numsB_iff.1 hnb
  subst hnn
  obtain ⟨n, hn⟩ : ∃ n, d.n1 = n := ⟨_, rfl⟩
  have HZ := Lib.hid (show ∀ o, quarI d ys n n = o → peaceV a d n ys = (match o with | some (i, k) => quarV i k | none => .nilIface) from fun o h => by unfold peaceV; rw [← hn, hnb, if_pos rfl, hn, h])
  rw [hn] at HG HA HF HFo HCN hIf h14 ⊢
  clear hnb
  obtain ⟨al, hal⟩ : ∃ al, 2 ^ n - 1 = al := ⟨_, rfl⟩
  have HAL := Lib.hid hal
  have hal2 : al < 65536 := by rw [← hal]; have := u16_two n (by omega); omega
  have HLA := Lib.hid (show ∀ W, Tab W → Calls Tryd.prog 66 #[.int .u16 al] W (GivesV (List.range n) W) from fun W h => by rw [← bits_all h14, hal]; exact list_any al hal2 W h)
  clear hn hal
  go_enter Tryd.func92, Tryd.ntmps92
  go_wp2_with (first | (go_at_call 96; refine (HCN.out _ hIf.out _ (HG.out.below hM.below) (HE.out.below hM.below)).mono ?_; rintro e W' ⟨rfl, hb'⟩; have hM' := hM.call hb'; clear hM hb'; have hM := hM'; clear hM') | (go_at_call 101; refine (all_any ma n mc h14 al HAL.out _).mono ?_; rintro e W' ⟨rfl, hb'⟩; have hM' := hM.call hb'; clear hM hb'; have hM := hM'; clear hM') | (go_at_call 66; refine (HLA.out _ (HT.out.below hM.below)).mono ?_; rintro e W' hGv; obtain ⟨la, lc, rfl, hlc, hL, hb'⟩ := hGv.nums; have hM' := hM.call hb'; have HL := Lib.hid hL; clear hM hb' hGv hL; have hM := hM'; clear hM'))
  have HL' := HL
  have HB1 := Lib.hid hM.below
  obtain ⟨W1, hW1⟩ : ∃ W1, W1 = W' := ⟨_, rfl⟩
  have hM2 := hM.base (w' := Base.of W') (Below.refl _ _)
  clear HL hM
  have hM := hM2
  clear hM2 hW1 W1
  go_loopw [20] (fun v wr => ∃ i : Nat, i ≤ n ∧ v = .int .i64 i ∧ Hid (quarI d ys n i = none) ∧ Mem (Base.of W') [] wr) (fun v _ => n - (intOf v).toNat)
  case atStart => exact ⟨0, by omega, rfl, Lib.hid rfl, hM⟩
  case round =>
    clear hM
    obtain ⟨i, hi, rfl, hall, hM⟩ := hrel
    have HL := HL'
    by_cases hlt : i < n
    · have l2 : (i : Int) < n := by omega
      obtain ⟨bl, NL, FL, rfl, hNL, hFL, hAL⟩ := HL.out.at (k := i) (by simpa using hlt)
      rw [List.getElem_range] at hFL
      rw [List.length_range] at hNL
      obtain ⟨s, hs⟩ : ∃ s : Nat, d.fs i = s := ⟨(d.fs i).toNat, by have := HF.out i hlt; omega⟩
      have hs2 : s < 65536 := by have := HF.out i hlt; omega
      obtain ⟨bm, Nm, Fm, hma, hNm, hFm, hAm⟩ := ((HA.out.below HB1.out).below hM.below).foes hlt hs
      subst hma
      have HAL := Lib.hid hAL
      have HAm := Lib.hid hAm
      have Hfo := Lib.hid (show ∀ k, foe d i k = s.testBit k from fun k => by unfold foe; rw [show (d.fs i).toNat = s by omega])
      have hsn : s < 2 ^ n := by have := HFo.out i hlt; rw [hs] at this; exact_mod_cast this
      have HLS := Lib.hid (fun (W : World) (h : Tab W) => list_any s hs2 W h)
      clear hAL hAm hs
      go_wp2_with (first | (refine wpList_getAt1 rfl _ _ rfl _ _ rfl (HAL.out.below hM.below HAL.out.lt) (cellTab _ rfl) (by omega) _ hFL ?_) | (refine wpList_getAt1 rfl _ _ rfl _ _ rfl HAm.out (cellTab _ rfl) hNm _ hFm ?_) | (go_at_call 66; refine (HLS.out _ ((HT.out.below HB1.out).below hM.below)).mono ?_; rintro e W2 hGv; obtain ⟨la, lc, rfl, hlc, hL, hb'⟩ := hGv.nums; have hM' := hM.call hb'; have HL2 := Lib.hid hL; have HM2 := Lib.hid hM'; have hM2 := hM'.base (w' := Base.of W2) (Below.refl _ _); clear hM hb' hGv hL hM'; have hM := hM2; clear hM2))
      have Hmem := Lib.hid (show ∀ x, x ∈ bitsL s → x < n ∧ foe d i x = true from fun x hx => ⟨bit_lt hsn ((mem_bitsL hs2).1 hx), by rw [Hfo.out]; exact (mem_bitsL hs2).1 hx⟩)
      have Hbef := Lib.hid (show ∀ (m : Nat), (∀ k, k < m → s.testBit k = true → i < k → ys i ≠ ys k) → quarK d ys i m = none from fun m h => quarK_none.2 fun k hk hik => by
        unfold qAt
        rw [Hfo.out]
        cases hb : s.testBit k with
        | false => rw [Bool.and_false]
        | true => rw [decide_eq_false (h k hk hb hik), Bool.false_and])
      have Hord := Lib.hid (fun (j : Nat) (hj : j < (bitsL s).length) (x : Nat) (hx : x < (bitsL s)[j]) (hb : s.testBit x = true) => bits_before hs2 hj hx hb)
      have Hin := Lib.hid (fun (x : Nat) (hb : s.testBit x = true) => (mem_bitsL hs2).2 hb)
      have hlen := bitsL_len s
      have HBw := Lib.hid (HB1.out.trans (HM2.out.below.mono HB1.out.size))
      have HL3 := HL2
      clear HL HL2 HAL HLS
      generalize bitsL s = l at *
      go_loopw [31] (fun v wr => ∃ j : Nat, j ≤ l.length ∧ v = .int .i64 j ∧ Hid (∀ q (hq : q < l.length), q < j → i < l[q] → ys i ≠ ys l[q]) ∧ Mem (Base.of W2) [] wr) (fun v _ => l.length - (intOf v).toNat)
      case atStart => exact ⟨0, by omega, rfl, Lib.hid (fun q _ h => absurd h (by omega)), hM⟩
      case round =>
        clear hM
        obtain ⟨j, hj, rfl, hall2, hM⟩ := hrel
        have HL := HL3
        by_cases hjl : j < l.length
        · have l3 : (j : Int) < l.length := by omega
          obtain ⟨bk, NK, FK, rfl, hNK, hFK, hAK⟩ := HL.out.at hjl
          obtain ⟨hxn, hxf⟩ := Hmem.out _ (List.getElem_mem hjl)
          obtain ⟨x, hx⟩ : ∃ x, l[j] = x := ⟨_, rfl⟩
          rw [hx] at hFK hxn hxf
          have HAK := Lib.hid hAK
          have HX := Lib.hid hx
          have HXF := Lib.hid hxf
          have HSt := Lib.hid (show (i < x → ys i ≠ ys x) → ∀ q (hq : q < l.length), q < j + 1 → i < l[q] → ys i ≠ ys l[q] from fun h q hq hqj => by
            by_cases e : q = j
            · subst e; rw [HX.out]; exact h
            · exact hall2.out q hq (by omega))
          clear hAK hx hxf
          by_cases hix : i < x
          case neg =>
            have d0 : decide (i < x) = false := decide_eq_false hix
            have HZ := Lib.hid (HSt.out (fun h => absurd h hix))
            clear hix
            go_wp2_with (first | (refine wpList_getAt1 rfl _ _ rfl _ _ rfl (HAK.out.below hM.below HAK.out.lt) (cellTab _ rfl) (by omega) _ hFK ?_))
            ((try simp only [Act.put, List.setIfInBounds_toArray, List.set_cons_succ, List.set_cons_zero]); refine wp_region_mem (by kernel_rfl) (by kernel_rfl) hM ?_; clear hM; (repeat (first | go_big_quiet_skip | (go_big_quiet_want; first | (refine quiet_val ?_; apply Exists.intro; refine ⟨fun W => ?_, ?_⟩; (go_simp; (try simp only [d0, if_true, Bool.false_eq_true, if_false]); rfl); (simp only [Act.put, List.setIfInBounds_toArray, List.set_cons_succ, List.set_cons_zero]); go_big_quiet_on)))); (with_reducible refine wpQuiet_nil ?_); intro W' hM)
            go_wp2
            go_roundw
            case rel => exact ⟨j + 1, by omega, by go_num, HZ, hM⟩
            case measure => simp [intOf]; omega
          have d0 : decide (i < x) = true := decide_eq_true hix
          obtain ⟨bg, Ng, Fg, rfl, hNg, hFg, hAg⟩ := HG.out.at hlt
          obtain ⟨bg2, Ng2, Fg2, heq, hNg2, hFg2, hAg2⟩ := HG.out.at hxn
          obtain rfl : bg = bg2 := by simpa using heq
          have HAg := Lib.hid hAg
          have HAg2 := Lib.hid hAg2
          obtain ⟨y, hy⟩ : ∃ y, ys i = y := ⟨_, rfl⟩
          obtain ⟨z, hz⟩ : ∃ z, ys x = z := ⟨_, rfl⟩
          rw [hy] at hFg
          rw [hz] at hFg2
          have HYZ := Lib.hid (And.intro hy hz)
          clear hAg hAg2 heq hy hz
          by_cases hyz : y = z
          case neg =>
            have e1 : (y == z) = false := beq_eq_false_iff_ne.2 hyz
            have HZ := Lib.hid (HSt.out (fun _ => by rw [HYZ.out.1, HYZ.out.2]; exact hyz))
            clear hyz
            go_wp2_with (first | (refine wpList_getAt1 rfl _ _ rfl _ _ rfl (HAK.out.below hM.below HAK.out.lt) (cellTab _ rfl) (by omega) _ hFK ?_))
            ((try simp only [Act.put, List.setIfInBounds_toArray, List.set_cons_succ, List.set_cons_zero]); refine wp_region_mem (by kernel_rfl) (by kernel_rfl) hM ?_; clear hM; (repeat (first | go_big_quiet_skip | (go_big_quiet_want; first | (refine quiet_old _ _ rfl _ _ rfl (cellTab _ rfl) (.int .i64 y) (fun W hM2 => ((HAg.out.below (HBw.out.trans (hM2.below.mono HBw.out.size)) HAg.out.lt).cell (by omega)).trans (congrArg some hFg)) ?_; (simp only [Act.put, List.setIfInBounds_toArray, List.set_cons_succ, List.set_cons_zero]); go_big_quiet_on) | (refine quiet_old _ _ rfl _ _ rfl (cellTab _ rfl) (.int .i64 z) (fun W hM2 => ((HAg2.out.below (HBw.out.trans (hM2.below.mono HBw.out.size)) HAg2.out.lt).cell (by omega)).trans (congrArg some hFg2)) ?_; (simp only [Act.put, List.setIfInBounds_toArray, List.set_cons_succ, List.set_cons_zero]); go_big_quiet_on) | (refine quiet_val ?_; apply Exists.intro; refine ⟨fun W => ?_, ?_⟩; (go_simp; (try simp only [d0, e1, if_true, Bool.false_eq_true, if_false]); rfl); (simp only [Act.put, List.setIfInBounds_toArray, List.set_cons_succ, List.set_cons_zero]); go_big_quiet_on)))); (with_reducible refine wpQuiet_nil ?_); intro W' hM)
            go_wp2
            go_roundw
            case rel => exact ⟨j + 1, by omega, by go_num, HZ, hM⟩
            case measure => simp [intOf]; omega
          subst hyz
          have HZ1 := Lib.hid (HZ.out (some (i, x)) (quarI_at hall.out (quarK_at (Hbef.out x (fun k hk hb hik => by
            obtain ⟨q, hq, hqj, e⟩ := Hord.out j hjl k (by rw [HX.out]; exact hk) hb
            subst e
            exact hall2.out q hq hqj hik)) hix (by unfold qAt; rw [HYZ.out.1, HYZ.out.2, decide_eq_true rfl, HXF.out]; rfl) n hxn) n hlt))
          clear HZ hix
          go_wp2_with (first | (refine wpList_getAt1 rfl _ _ rfl _ _ rfl (HAK.out.below hM.below HAK.out.lt) (cellTab _ rfl) (by omega) _ hFK ?_))
          ((try simp only [Act.put, List.setIfInBounds_toArray, List.set_cons_succ, List.set_cons_zero]); refine wp_region_mem (by kernel_rfl) (by kernel_rfl) hM ?_; clear hM; (repeat (first | go_big_quiet_skip | (go_big_quiet_want; first | (refine quiet_old _ _ rfl _ _ rfl (cellTab _ rfl) (.int .i64 y) (fun W hM2 => ((HAg.out.below (HBw.out.trans (hM2.below.mono HBw.out.size)) HAg.out.lt).cell (by omega)).trans (congrArg some hFg)) ?_; (simp only [Act.put, List.setIfInBounds_toArray, List.set_cons_succ, List.set_cons_zero]); go_big_quiet_on) | (refine quiet_old _ _ rfl _ _ rfl (cellTab _ rfl) (.int .i64 y) (fun W hM2 => ((HAg2.out.below (HBw.out.trans (hM2.below.mono HBw.out.size)) HAg2.out.lt).cell (by omega)).trans (congrArg some hFg2)) ?_; (simp only [Act.put, List.setIfInBounds_toArray, List.set_cons_succ, List.set_cons_zero]); go_big_quiet_on) | (refine quiet_val ?_; apply Exists.intro; refine ⟨fun W => ?_, ?_⟩; (go_simp; (try simp only [d0, beq_self_eq_true, if_true, Bool.false_eq_true, if_false]); rfl); (simp only [Act.put, List.setIfInBounds_toArray, List.set_cons_succ, List.set_cons_zero]); go_big_quiet_on)))); (with_reducible refine wpQuiet_nil ?_); intro W' hM)
          go_wp2_with (first | (refine wpList_quarrel rfl _ _ rfl i x rfl rfl ?_; (simp only [Act.put, List.setIfInBounds_toArray, List.set_cons_succ, List.set_cons_zero])))
          go_ret
          rw [HZ1.out]
          exact ⟨rfl, HBw.out.trans (hM.below.mono HBw.out.size)⟩
        · obtain rfl : j = l.length := by omega
          have HZ2 := Lib.hid (quarI_step hall.out (Hbef.out n (fun k hk hb hik => by
            obtain ⟨q, hq, e⟩ := List.getElem_of_mem (Hin.out k hb)
            subst e
            exact hall2.out q hq hq hik)))
          go_wp2
          go_roundw
          case rel => exact ⟨i + 1, by omega, by go_num, HZ2, HM2.out.call hM.below⟩
          case measure => simp [intOf]; omega
    · obtain rfl : i = n := by omega
      have HZ2 := Lib.hid (HZ.out none hall.out)
      go_wp2
      go_ret
      rw [HZ2.out]
      exact ⟨rfl, HB1.out.trans (hM.below.mono HB1.out.size)⟩
end Go.Proofs.YthodkbmenndnoaaDoor

/-
  CheckGroups by contracts, both sides.
-/
namespace Go.Proofs.YthodkbmenndnoaaDoor
open Go Go.RowKit Go.BigFrame

/-- Are groups peaceful? -/
def chkB (d : Hd) (n : Nat) (ys : Nat → Int) : Bool := herdB d && (numsB d n ys && (quarI d ys n n).isNone)
def chkC (d : Hd) : Int := askC d 0 (fun _ => 0)
theorem vInt64S_ints {W : World} {b n : Nat} {ys : Nat → Int} (h : At W b n (vInt64S ys)) : IntsAt W (some ⟨b, 0, none⟩) n ys :=
  .inr ⟨b, n, _, rfl, Nat.le_refl _, fun _ _ => rfl, h⟩
theorem chk_0 {d : Hd} (h : herdB d = true) : chkC d = 0 := by unfold chkC askC; rw [h]; rfl
theorem chk_1 {d : Hd} (h : herdB d = false) : chkC d = 1 := by unfold chkC askC; rw [h]; rfl

set_option maxRecDepth 100000 in
set_option maxHeartbeats 4000000 in
theorem specCheckGroups_any (d : Hd) (b1 b2 b3 : Nat) (hd : FitsH d) (bg n : Nat) (ys : Nat → Int) (hn : n ≤ 1048576) (w : World) (hM0 : Mem w (hdB d b1 b2 b3) w) (hG : At w bg n (vInt64S ys)) :
    Calls Tryd.prog 38 #[.agg (arr 3 (hdV d b1 b2 b3)), .slice (some ⟨bg, 0, none⟩) n n] w fun e w' => e = .returned (boolCode (chkB d n ys) (chkC d)) ∧ Below w.heap.size w w' := by
  have hM : Mem w (hdB d b1 b2 b3 ++ []) w := by rw [List.append_nil]; exact hM0
  have HG := Lib.hid (vInt64S_ints hG)
  have HOK := Lib.hid (fun (bh : Nat) (W : World) hB => l06Ok_any d bh b1 b2 b3 hd W hB)
  have a1 : hdV d b1 b2 b3 0 = .slice (some ⟨b1, 0, none⟩) d.n1 d.n1 := rfl
  have HNU := Lib.hid (fun (bh : Nat) (W : World) hH hI => l06Numbers_any d bh (hdV d b1 b2 b3) b1 d.n1 a1 (some ⟨bg, 0, none⟩) n n ys hn W hH hI)
  clear hM0 hG
  cases hv : herdB d
  · have HV := Lib.hid hv
    have HR := Lib.hid (show boolCode (chkB d n ys) (chkC d) = .tuple #[.bool false, .int .i64 1] from by unfold chkB; rw [chk_1 hv, hv]; rfl)
    clear hv
    have tk_x1 : True := trivial
    go_enter Tryd.func38, Tryd.ntmps38
    go_wp2_with (first | (have _t := tk_x1; refine wpList_box rfl _ _ rfl _ _ rfl hM ?_; intro x1 W' hx1 hM'; clear hM tk_x1; have hM := hM'; clear hM') | (go_at_call 51; refine (HOK.out x1 _ (hM.boxed)).mono ?_; rintro e W' ⟨rfl, hb'⟩; rw [HV.out]; have hM' := hM.call hb'; clear hM hb'; have hM := hM'; clear hM'))
    go_ret2
    rw [HR.out]
    exact ⟨rfl, hM.below⟩
  have HV := Lib.hid hv
  have hOk := herdB_iff.1 hv
  cases hb : numsB d n ys
  · have HB := Lib.hid hb
    have HR := Lib.hid (show boolCode (chkB d n ys) (chkC d) = .tuple #[.bool false, .int .i64 0] from by unfold chkB; rw [chk_0 hv, hb, hv]; rfl)
    clear hv hb
    have tk_x1 : True := trivial
    go_enter Tryd.func38, Tryd.ntmps38
    go_wp2_with (first | (have _t := tk_x1; refine wpList_box rfl _ _ rfl _ _ rfl hM ?_; intro x1 W' hx1 hM'; clear hM tk_x1; have hM := hM'; clear hM') | (go_at_call 51; refine (HOK.out x1 _ (hM.boxed)).mono ?_; rintro e W' ⟨rfl, hb'⟩; rw [HV.out]; have hM' := hM.call hb'; clear hM hb'; have hM := hM'; clear hM') | (go_at_call 90; refine (HNU.out x1 _ (hM.ats 0 _ _ _ rfl) (HG.out.below hM.below)).mono ?_; rintro e W' ⟨rfl, hb'⟩; rw [HB.out]; have hM' := hM.call hb'; clear hM hb'; have hM := hM'; clear hM'))
    go_ret2
    rw [HR.out]
    exact ⟨rfl, hM.below⟩
  have HB := Lib.hid hb
  obtain ⟨hnn, -⟩ := numsB_iff.1 hb
  subst hnn
  have HQU := Lib.hid (fun (bh : Nat) (W : World) hB hI => l06Quarrel_any d bh b1 b2 b3 hd hOk.n hOk.l3 (some ⟨bg, 0, none⟩) d.n1 ys W hB hI)
  have HR := Lib.hid (show boolCode (chkB d d.n1 ys) (chkC d) = .tuple #[.bool (quarI d ys d.n1 d.n1).isNone, .int .i64 0] from by unfold chkB; rw [chk_0 hv, hb, hv]; rfl)
  clear hv hb hOk
  obtain ⟨n, hn'⟩ : ∃ n, d.n1 = n := ⟨_, rfl⟩
  rw [hn'] at HB HQU HR HG HNU ⊢
  rcases hq : quarI d ys n n with - | ⟨i, k⟩
  · have HP := Lib.hid (show qPair (quarI d ys n n) = .tuple #[.int .i64 (-1), .int .i64 (-1)] from by rw [hq]; rfl)
    have HS := Lib.hid (show (quarI d ys n n).isNone = true from by rw [hq]; rfl)
    clear hq
    have tk_x1 : True := trivial
    go_enter Tryd.func38, Tryd.ntmps38
    go_wp2_with (first | (have _t := tk_x1; refine wpList_box rfl _ _ rfl _ _ rfl hM ?_; intro x1 W' hx1 hM'; clear hM tk_x1; have hM := hM'; clear hM') | (go_at_call 51; refine (HOK.out x1 _ (hM.boxed)).mono ?_; rintro e W' ⟨rfl, hb'⟩; rw [HV.out]; have hM' := hM.call hb'; clear hM hb'; have hM := hM'; clear hM') | (go_at_call 90; refine (HNU.out x1 _ (hM.ats 0 _ _ _ rfl) (HG.out.below hM.below)).mono ?_; rintro e W' ⟨rfl, hb'⟩; rw [HB.out]; have hM' := hM.call hb'; clear hM hb'; have hM := hM'; clear hM') | (go_at_call 91; refine (HQU.out x1 _ (hM.boxed) (HG.out.below hM.below)).mono ?_; rintro e W' ⟨rfl, hb'⟩; rw [HP.out]; have hM' := hM.call hb'; clear hM hb'; have hM := hM'; clear hM'))
    go_ret2
    rw [HR.out, HS.out]
    exact ⟨rfl, hM.below⟩
  · have HP := Lib.hid (show qPair (quarI d ys n n) = .tuple #[.int .i64 (i : Int), .int .i64 (k : Int)] from by rw [hq]; rfl)
    have HS := Lib.hid (show (quarI d ys n n).isNone = false from by rw [hq]; rfl)
    have z1 : decide ((i : Int) < 0) = false := decide_eq_false (by omega)
    have z2 : ¬ (i : Int) < 0 := by omega
    clear hq
    have tk_x1 : True := trivial
    go_enter Tryd.func38, Tryd.ntmps38
    go_wp2_with (first | (have _t := tk_x1; refine wpList_box rfl _ _ rfl _ _ rfl hM ?_; intro x1 W' hx1 hM'; clear hM tk_x1; have hM := hM'; clear hM') | (go_at_call 51; refine (HOK.out x1 _ (hM.boxed)).mono ?_; rintro e W' ⟨rfl, hb'⟩; rw [HV.out]; have hM' := hM.call hb'; clear hM hb'; have hM := hM'; clear hM') | (go_at_call 90; refine (HNU.out x1 _ (hM.ats 0 _ _ _ rfl) (HG.out.below hM.below)).mono ?_; rintro e W' ⟨rfl, hb'⟩; rw [HB.out]; have hM' := hM.call hb'; clear hM hb'; have hM := hM'; clear hM') | (go_at_call 91; refine (HQU.out x1 _ (hM.boxed) (HG.out.below hM.below)).mono ?_; rintro e W' ⟨rfl, hb'⟩; rw [HP.out]; have hM' := hM.call hb'; clear hM hb'; have hM := hM'; clear hM'))
    go_ret2
    rw [HR.out, HS.out]
    exact ⟨rfl, hM.below⟩

/-- What the check of peace gives, one of three. -/
theorem peaceV_is (a : Nat → Addr) (d : Hd) (n : Nat) (ys : Nat → Int) : ((∃ x y : Int, peaceV a d n ys = .iface 111 (.agg #[.int .i64 x, .int .i64 y])) ∨ peaceV a d n ys = errV (a 2)) ∧ (numsB d n ys && (quarI d ys n n).isNone) = false ∨ peaceV a d n ys = .nilIface ∧ (numsB d n ys && (quarI d ys n n).isNone) = true := by
  unfold peaceV
  cases h : numsB d n ys
  · exact .inl ⟨.inr rfl, rfl⟩
  · rcases h2 : quarI d ys n n with - | ⟨i, k⟩
    · exact .inr ⟨rfl, rfl⟩
    · exact .inl ⟨.inl ⟨_, _, rfl⟩, rfl⟩

set_option maxRecDepth 100000 in
set_option maxHeartbeats 4000000 in
theorem implCheckGroups_any {a : Nat → Addr} (d : Hd) (b1 b2 b3 : Nat) (hd : FitsH d) (bg n : Nat) (ys : Nat → Int) (hn : n ≤ 1048576) (w : World) (hM0 : Mem w (hdB d b1 b2 b3) w) (hG : At w bg n (vInt64S ys)) (hE : Errs a w) (hT : Tab w) :
    Calls Tryd.prog 39 #[.agg (arr 3 (hdV d b1 b2 b3)), .slice (some ⟨bg, 0, none⟩) n n] w fun e w' => e = .returned (boolCode (chkB d n ys) (chkC d)) ∧ Below w.heap.size w w' := by
  have hM := Mem.nil w
  have H0 := Lib.hid hM0
  have HG := Lib.hid (vInt64S_ints hG)
  have HE := Lib.hid hE
  have HT := Lib.hid hT
  clear hM0 hE hT hG
  cases hv : herdB d
  · have HR := Lib.hid (show boolCode (chkB d n ys) (chkC d) = .tuple #[.bool false, .int .i64 (chkC d)] from by unfold chkB; rw [hv]; rfl)
    have hz : askC d 0 (fun _ => 0) ≠ 0 := show chkC d ≠ 0 from by rw [chk_1 hv]; decide
    have hFW := fun (W : World) hB hE hT => flockWith_bad (a := a) d b1 b2 b3 hd none 0 0 (fun _ => 0) (by omega) W hB hE hT (.inl rfl) hz
    rw [HR.out]
    unfold chkC
    clear hv HR
    obtain ⟨hv, hhv⟩ : ∃ f, hdV d b1 b2 b3 = f := ⟨_, rfl⟩
    rw [hhv] at hFW ⊢
    generalize askC d 0 (fun _ => 0) = C at *
    have HFW := Lib.hid hFW
    clear hhv hFW
    have tk_x1 : True := trivial; have tk_r1 : True := trivial; have tk_f8 : True := trivial; have tk_s1 : True := trivial
    go_enter Tryd.func39, Tryd.ntmps39
    go_wp2_with (first | (have _t := tk_x1; refine wpList_box rfl _ _ rfl _ _ rfl hM ?_; intro x1 W' hx1 hM'; clear hM tk_x1; have hM := hM'; clear hM') | (have _t := tk_r1; refine wpList_get rfl _ _ rfl _ _ rfl hM 0 rfl (rowTab _ _ rfl) (by omega) ?_; simp only [Nat.zero_add]; clear tk_r1) | (go_at_call 64; refine (HFW.out _ ((H0.out.call hM.below).base (Below.refl _ _)) (HE.out.below hM.below) (HT.out.below hM.below)).mono ?_; rintro e Wf ⟨ff, ev, rfl, hone, hEv, hb'⟩; have hM' := hM.call hb'; have hN := hEv.neq; have hGd := hEv.guard; have HEv := Lib.hid hEv; have HOne := Lib.hid hone; clear hM hb' hEv hone; have hM := hM'; clear hM') | (have _t := tk_f8; refine wpList_zero rfl _ rfl (zeroTab _ _ _ rfl) hM ?_; intro f8 W' hf8 hM'; clear hM tk_f8; have hM := hM'; clear hM') | (have _t := tk_s1; refine wpList_lay rfl _ _ _ rfl _ _ rfl _ _ rfl hM 0 rfl (by assumption) (rowTab _ _ rfl) (by omega) HOne.out ?_; intro W' hM'; clear hM tk_s1; have hM := hM'; clear hM'; simp only [List.set] at hM) | (go_at_call 65; refine (HEv.out.code (HE.out.below hM.below)).mono ?_; rintro e W' ⟨rfl, rfl⟩))
    go_ret2
    exact ⟨rfl, hM.below⟩
  have hOk := herdB_iff.1 hv
  have h14 := hOk.n
  have hB : chkB d n ys = (numsB d n ys && (quarI d ys n n).isNone) := by unfold chkB; rw [hv]; rfl
  rw [hB, chk_0 hv]
  have hFW := fun (W : World) hB hE => flockWith_ok (r := a 1) d b1 b2 b3 hd none 0 0 (fun _ => 0) (by omega) W hB hE (.inl rfl) hOk (fun j h => absurd h (by omega))
  have hPE := fun (ma : Option Addr) (mc : Nat) (W : World) hA hI hE hT => checkPeace_any (a := a) d ma mc hOk (fun i hi => hd.f i (by rw [hOk.l3]; exact hi)) (some ⟨bg, 0, none⟩) n n ys hn W hA hI hE hT
  have hPI := peaceV_is a d n ys
  obtain ⟨hv0, hhv⟩ : ∃ f, hdV d b1 b2 b3 = f := ⟨_, rfl⟩
  rw [hhv] at hFW ⊢
  generalize peaceV a d n ys = PV at hPE hPI
  generalize (numsB d n ys && (quarI d ys n n).isNone) = R at hPI ⊢
  have HFW := Lib.hid hFW
  have HPE := Lib.hid hPE
  obtain ⟨nn, hnn⟩ : ∃ nn, d.n1 = nn := ⟨_, rfl⟩
  rw [hnn] at HFW HPE
  clear hhv hFW hPE hOk hv hB hnn h14
  have fin : ∀ r : Bool, boolCode r 0 = .tuple #[.bool r, .int .i64 0] := fun r => rfl
  rcases hPI with ⟨⟨x, y, rfl⟩ | rfl, rfl⟩ | ⟨rfl, rfl⟩
  all_goals
    rw [fin]
    clear fin
    have tk_x1 : True := trivial; have tk_r1 : True := trivial; have tk_f8 : True := trivial; have tk_s1 : True := trivial
    go_enter Tryd.func39, Tryd.ntmps39
    go_wp2_with (first | (have _t := tk_x1; refine wpList_box rfl _ _ rfl _ _ rfl hM ?_; intro x1 W' hx1 hM'; clear hM tk_x1; have hM := hM'; clear hM') | (have _t := tk_r1; refine wpList_get rfl _ _ rfl _ _ rfl hM 0 rfl (rowTab _ _ rfl) (by omega) ?_; simp only [Nat.zero_add]; clear tk_r1) | (go_at_call 64; refine (HFW.out _ ((H0.out.call hM.below).base (Below.refl _ _)) ⟨(HE.out.below hM.below).vars 1 (by omega), HT.out.below hM.below⟩).mono ?_; rintro e Wf ⟨ma, mc, m, rfl, hmc, hMA, hO, hb'⟩; have hM' := hM.call hb'; have HB0 := Lib.hid hM'.below; have hM2 := hM'.base (w' := Base.of Wf) (Below.refl _ _); have HMA := Lib.hid hMA; clear hM hb' hO hMA hM'; have hM := hM2; clear hM2) | (have _t := tk_f8; refine wpList_zero rfl _ rfl (zeroTab _ _ _ rfl) hM ?_; intro f8 W' hf8 hM'; clear hM tk_f8; have hM := hM'; clear hM') | (have _t := tk_s1; refine wpList_lay rfl _ _ _ rfl _ _ rfl _ _ rfl hM 0 rfl (by assumption) (rowTab _ _ rfl) (by omega) (fun k _ => flkV_one _ _ _ _ k) ?_; intro W' hM'; have hM2 := hM'.re 0 rfl (flkV ma nn mc m) (fun k hk => by simp [lay, hk]); simp only [List.set] at hM2; clear hM hM' tk_s1; have hM := hM2; clear hM2) | (refine wpList_get1 rfl _ _ rfl _ _ rfl hM 0 rfl (cellTab _ rfl) (by omega) (.slice ma nn mc) rfl ?_) | (go_at_call 92; (with_reducible refine (HPE.out ma mc _ (HMA.out.below hM.below) ((HG.out.below HB0.out).below hM.below) ((HE.out.below HB0.out).below hM.below) ((HT.out.below HB0.out).below hM.below)).mono ?_); rintro e W' ⟨rfl, hb'⟩; have hM' := hM.call hb'; clear hM hb'; have hM := hM'; clear hM'))
    go_ret2
    exact ⟨rfl, HB0.out.trans (hM.below.mono HB0.out.size)⟩
end Go.Proofs.YthodkbmenndnoaaDoor

/-
  spec.l06Less, l06Largest by contracts.
-/
namespace Go.Proofs.YthodkbmenndnoaaDoor
open Go Go.RowKit Go.BigFrame

theorem less_at : ∀ {l m : List Nat} {i : Nat} (h1 : i < l.length) (h2 : i < m.length), (∀ j (a : j < l.length) (b : j < m.length), j < i → l[j] = m[j]) → l[i] ≠ m[i] → lessL l m = decide (l[i] < m[i])
  | [], _, _, h, _, _, _ => by simp at h
  | _ :: _, [], _, _, h, _, _ => by simp at h
  | a :: l, b :: m, 0, _, _, _, hne => by
    simp only [List.getElem_cons_zero] at hne ⊢
    simp only [lessL]
    rw [if_neg hne]
  | a :: l, b :: m, i + 1, h1, h2, he, hne => by
    have e0 := he 0 (by simp) (by simp) (by omega)
    simp only [List.getElem_cons_zero] at e0
    simp only [List.getElem_cons_succ] at hne ⊢
    simp only [lessL]
    rw [if_pos e0]
    exact less_at (by simpa using h1) (by simpa using h2) (fun j p q hj => by have := he (j + 1) (by simpa using p) (by simpa using q) (by omega); simpa using this) hne
theorem less_end {l m : List Nat} (hl : l.length = m.length) (h : ∀ j (a : j < l.length) (b : j < m.length), l[j] = m[j]) : lessL l m = false := by
  have : l = m := List.ext_getElem hl fun j a b => h j a b
  rw [this]; exact lessL_self m

set_option maxRecDepth 100000 in
set_option maxHeartbeats 2000000 in
theorem l06Less_any (a1 a2 : Option Addr) (c1 c2 : Nat) (l m : List Nat) (hlm : l.length = m.length) (h16 : l.length ≤ 16) (w : World) (h1 : NumsAt w a1 l) (h2 : NumsAt w a2 m) :
    Calls Tryd.prog 119 #[.slice a1 l.length c1, .slice a2 m.length c2] w fun e w' => e = .returned (.bool (lessL l m)) ∧ Below w.heap.size w w' := by
  have hM := Mem.nil w
  have H1 := Lib.hid h1
  have H2 := Lib.hid h2
  rw [← hlm]
  obtain ⟨n, hn⟩ : ∃ n, l.length = n := ⟨_, rfl⟩
  have HN := Lib.hid (And.intro hn (hlm.symm.trans hn))
  rw [hn] at h16 ⊢
  clear h1 h2 hlm hn
  obtain ⟨B, hB⟩ : ∃ B, lessL l m = B := ⟨_, rfl⟩
  have HB := Lib.hid hB
  rw [hB]
  clear hB
  go_enter Tryd.func119, Tryd.ntmps119
  go_wp2
  go_loopw [5] (fun v wr => ∃ i : Nat, i ≤ n ∧ v = .int .i64 i ∧ Hid (∀ j (a : j < l.length) (b : j < m.length), j < i → l[j] = m[j]) ∧ Mem w [] wr) (fun v _ => n - (intOf v).toNat)
  case atStart => exact ⟨0, by omega, rfl, Lib.hid (fun j _ _ h => absurd h (by omega)), hM⟩
  case round =>
    clear hM
    obtain ⟨i, hi, rfl, hall, hM⟩ := hrel
    by_cases hlt : i < n
    · have l2 : (i : Int) < n := by omega
      have p1 : i < l.length := by rw [HN.out.1]; exact hlt
      have p2 : i < m.length := by rw [HN.out.2]; exact hlt
      obtain ⟨e1, N1, F1, rfl, hN1, hF1, hA1⟩ := H1.out.at p1
      obtain ⟨e2, N2, F2, rfl, hN2, hF2, hA2⟩ := H2.out.at p2
      have HA1 := Lib.hid hA1
      have HA2 := Lib.hid hA2
      have hat := fun h => less_at p1 p2 hall.out h
      have hst := fun (h : l[i] = m[i]) (j : Nat) (a : j < l.length) (b : j < m.length) (hj : j < i + 1) => show l[j] = m[j] from by
        rcases Nat.lt_succ_iff_lt_or_eq.1 hj with h' | rfl
        · exact hall.out j a b h'
        · exact h
      obtain ⟨x, hx⟩ : ∃ x, l[i] = x := ⟨_, rfl⟩
      obtain ⟨y, hy⟩ : ∃ y, m[i] = y := ⟨_, rfl⟩
      rw [hx] at hF1 hat hst
      rw [hy] at hF2 hat hst
      rw [HB.out] at hat
      have q1 : i < N1 := by omega
      have q2 : i < N2 := by omega
      have HST := Lib.hid hst
      clear hA1 hA2 hst hx hy p1 p2
      by_cases hxy : x = y
      · have z1 : ((x : Int) != (y : Int)) = false := by rw [hxy]; simp
        have HZ := Lib.hid (HST.out hxy)
        clear hat hxy
        go_wp2
        ((try simp only [Act.put, List.setIfInBounds_toArray, List.set_cons_succ, List.set_cons_zero]); refine wp_region_mem (by kernel_rfl) (by kernel_rfl) hM ?_; clear hM; (repeat (first | go_big_quiet_skip | (go_big_quiet_want; first | (refine quiet_old _ _ rfl _ _ rfl (cellTab _ rfl) (.int .i64 (x : Int)) (fun W hM2 => ((HA1.out.below hM2.below HA1.out.lt).cell q1).trans (congrArg some hF1)) ?_; (simp only [Act.put, List.setIfInBounds_toArray, List.set_cons_succ, List.set_cons_zero]); go_big_quiet_on) | (refine quiet_old _ _ rfl _ _ rfl (cellTab _ rfl) (.int .i64 (y : Int)) (fun W hM2 => ((HA2.out.below hM2.below HA2.out.lt).cell q2).trans (congrArg some hF2)) ?_; (simp only [Act.put, List.setIfInBounds_toArray, List.set_cons_succ, List.set_cons_zero]); go_big_quiet_on) | (refine quiet_val ?_; apply Exists.intro; refine ⟨fun W => ?_, ?_⟩; (go_simp; (try simp only [z1, if_true, Bool.false_eq_true, if_false]); rfl); (simp only [Act.put, List.setIfInBounds_toArray, List.set_cons_succ, List.set_cons_zero]); go_big_quiet_on)))); (with_reducible refine wpQuiet_nil ?_); intro W' hM)
        go_wp2
        go_roundw
        case rel => exact ⟨i + 1, by omega, by go_num, HZ, hM⟩
        case measure => simp [intOf]; omega
      · have z1 : ((x : Int) != (y : Int)) = true := bne_iff_ne.2 (fun h => hxy (by exact_mod_cast h))
        have HZ := Lib.hid (hat hxy)
        have z2 : decide ((x : Int) < (y : Int)) = decide (x < y) := by simp
        clear hat hxy
        go_wp2
        ((try simp only [Act.put, List.setIfInBounds_toArray, List.set_cons_succ, List.set_cons_zero]); refine wp_region_mem (by kernel_rfl) (by kernel_rfl) hM ?_; clear hM; (repeat (first | go_big_quiet_skip | (go_big_quiet_want; first | (refine quiet_old _ _ rfl _ _ rfl (cellTab _ rfl) (.int .i64 (x : Int)) (fun W hM2 => ((HA1.out.below hM2.below HA1.out.lt).cell q1).trans (congrArg some hF1)) ?_; (simp only [Act.put, List.setIfInBounds_toArray, List.set_cons_succ, List.set_cons_zero]); go_big_quiet_on) | (refine quiet_old _ _ rfl _ _ rfl (cellTab _ rfl) (.int .i64 (y : Int)) (fun W hM2 => ((HA2.out.below hM2.below HA2.out.lt).cell q2).trans (congrArg some hF2)) ?_; (simp only [Act.put, List.setIfInBounds_toArray, List.set_cons_succ, List.set_cons_zero]); go_big_quiet_on) | (refine quiet_val ?_; apply Exists.intro; refine ⟨fun W => ?_, ?_⟩; (go_simp; (try simp only [z1, if_true, Bool.false_eq_true, if_false]); rfl); (simp only [Act.put, List.setIfInBounds_toArray, List.set_cons_succ, List.set_cons_zero]); go_big_quiet_on)))); (with_reducible refine wpQuiet_nil ?_); intro W' hM)
        go_wp2
        ((try simp only [Act.put, List.setIfInBounds_toArray, List.set_cons_succ, List.set_cons_zero]); refine wp_region_mem (by kernel_rfl) (by kernel_rfl) hM ?_; clear hM; (repeat (first | go_big_quiet_skip | (go_big_quiet_want; first | (refine quiet_old _ _ rfl _ _ rfl (cellTab _ rfl) (.int .i64 (x : Int)) (fun W hM2 => ((HA1.out.below hM2.below HA1.out.lt).cell q1).trans (congrArg some hF1)) ?_; (simp only [Act.put, List.setIfInBounds_toArray, List.set_cons_succ, List.set_cons_zero]); go_big_quiet_on) | (refine quiet_old _ _ rfl _ _ rfl (cellTab _ rfl) (.int .i64 (y : Int)) (fun W hM2 => ((HA2.out.below hM2.below HA2.out.lt).cell q2).trans (congrArg some hF2)) ?_; (simp only [Act.put, List.setIfInBounds_toArray, List.set_cons_succ, List.set_cons_zero]); go_big_quiet_on) | (refine quiet_val ?_; apply Exists.intro; refine ⟨fun W => ?_, ?_⟩; (go_simp; (try simp only [z2, if_true, Bool.false_eq_true, if_false]); rfl); (simp only [Act.put, List.setIfInBounds_toArray, List.set_cons_succ, List.set_cons_zero]); go_big_quiet_on)))); (with_reducible refine wpQuiet_nil ?_); intro W' hM)
        go_wp2
        go_ret
        rw [HZ.out]
        exact ⟨by first | rfl | simp, hM.below⟩
    · obtain rfl : i = n := by omega
      have HZ := Lib.hid (show B = false from by rw [← HB.out]; exact less_end (HN.out.1.trans HN.out.2.symm) fun j a b => hall.out j a b (by rw [← HN.out.1]; exact a))
      go_wp2
      go_ret
      rw [HZ.out]
      exact ⟨rfl, hM.below⟩

/-- A list of its own in memory. -/
def OwnAt (w W : World) (a : Option Addr) (l : List Nat) : Prop := l = [] ∨ ∃ b N F, a = some ⟨b, 0, none⟩ ∧ w.heap.size ≤ b ∧ l.length ≤ N ∧ (∀ j, j < l.length → F j = vI (natI l) j) ∧ At W b N F
theorem OwnAt.below {w W W' : World} {a : Option Addr} {l : List Nat} (h : OwnAt w W a l) (hb : Below W.heap.size W W') : OwnAt w W' a l := by
  rcases h with h | ⟨b, N, F, h1, h2, h3, h4, h5⟩
  · exact .inl h
  · exact .inr ⟨b, N, F, h1, h2, h3, h4, h5.below hb h5.lt⟩
theorem OwnAt.nums {w W : World} {a : Option Addr} {l : List Nat} (h : OwnAt w W a l) : NumsAt W a l := by
  rcases h with h | ⟨b, N, F, h1, -, h3, h4, h5⟩
  · exact .inl h
  · exact .inr ⟨b, N, F, h1, h3, fun j hj => (h4 j hj).trans (natI_at hj), h5⟩
theorem OwnAt.new {w W : World} {a : Option Addr} {l : List Nat} {c : Nat} (h : OwnAt w W a l) (hb : Below w.heap.size w W) : NewL 1 l.length (vI (natI l)) w (.slice a l.length c) W := by
  rcases h with h | ⟨b, N, F, h1, h2, h3, h4, h5⟩
  · subst h; exact .inl ⟨rfl, ⟨_, _, rfl⟩, hb⟩
  · exact .inr ⟨b, c, N, F, by rw [h1], h2, by omega, fun j hj => h4 j (by omega), h5, hb⟩
def gudK (d : Hd) (b : Bool) (i : Nat) (l : List Nat) : Nat → Bool
  | 0 => true
  | k + 1 => gudK d b i l k && (foe d i (l.getD k 0) == b)
theorem gudK_iff {d : Hd} {b : Bool} {i : Nat} {l : List Nat} : ∀ {k : Nat}, k ≤ l.length → (gudK d b i l k = true ↔ ∀ j (h : j < l.length), j < k → (foe d i l[j] == b) = true)
  | 0, _ => by simp [gudK]
  | k + 1, hk => by
    rw [gudK, Bool.and_eq_true, gudK_iff (d := d) (b := b) (i := i) (l := l) (k := k) (by omega)]
    have e : l.getD k 0 = l[k] := by simp [List.getD_eq_getElem?_getD, show k < l.length by omega]
    rw [e]
    constructor
    · rintro ⟨h1, h2⟩ j hj hjk
      rcases Nat.lt_succ_iff_lt_or_eq.1 hjk with h | rfl
      · exact h1 j hj h
      · exact h2
    · intro h
      exact ⟨fun j hj hjk => h j hj (by omega), h k (by omega) (by omega)⟩
theorem gudK_all {d : Hd} {b : Bool} {i : Nat} {l : List Nat} : gudK d b i l l.length = l.all (fun k => foe d i k == b) := by
  rw [Bool.eq_iff_iff, gudK_iff (Nat.le_refl _), List.all_eq_true]
  constructor
  · intro h x hx
    obtain ⟨j, hj, rfl⟩ := List.getElem_of_mem hx
    exact h j hj hj
  · intro h j hj _
    exact h _ (List.getElem_mem hj)
theorem goodU_false {d : Hd} {b : Bool} {s i : Nat} (h : goodU d b s i = false) : ∀ {n : Nat}, i ≤ n → goodU d b s n = false
  | 0, hi => by
    have e : i = 0 := by omega
    rw [e] at h; exact h
  | n + 1, hi => by
    rcases Nat.lt_or_eq_of_le hi with hlt | rfl
    · have := goodU_false h (n := n) (by omega)
      simp only [goodU, this, Bool.false_and]
      split <;> rfl
    · exact h
theorem bitsB_len (s i : Nat) : (bitsB s i).length ≤ i := by
  have := List.length_filter_le (fun k => s.testBit k) (List.range i)
  simpa [bitsB] using this
theorem bitsB_mem {s i x : Nat} (h : x ∈ bitsB s i) : x < i := List.mem_range.1 (List.mem_filter.1 h).1

theorem bit_tmod (s i : Nat) : ((((s : Int) / 2 ^ i).tmod 2) == 0) = !s.testBit i := by
  have e : ((s : Int) / 2 ^ i) = ((s / 2 ^ i : Nat) : Int) := by push_cast; rfl
  have e2 : (((s / 2 ^ i : Nat) : Int).tmod 2) = ((s / 2 ^ i % 2 : Nat) : Int) := rfl
  rw [e, e2, Nat.testBit_eq_decide_div_mod_eq]
  rcases Nat.mod_two_eq_zero_or_one (s / 2 ^ i) with h | h <;> rw [h] <;> rfl
theorem wpList_wcell {P : Program} {ops : Array Oper} {rest : List Oper} {o : Oper} {a : Act} {W : World} {Q : Exit → Act → World → Prop} (hw : Region.wanted o (yielded ops a.tmps) = true) (ty : TypeId) (x : Operand) (ho : o.op = .load ty x) (b off : Nat) (hx : a.eval x = .pointer (some ⟨b, off, none⟩)) (hT : CellT P ty) (v : Value) (hc : W.cell? ⟨b, off, none⟩ = some v)
    (h : wpList P ops Q rest (a.put o.dst v) W) : wpList P ops Q (o :: rest) a W := by
  refine wpList_want hw fun K hK => ?_
  have hl := run_load_cell (P := P) hT hc
  unfold Oper.wp execOp
  simp only [ho, hx, Instr.loadAt, Instr.sureAddr, Sem.run_bind, Sem.run_pure, Result.andThen_ok, hl]
  exact hK _ _ h

end Go.Proofs.YthodkbmenndnoaaDoor

/-
  PLAIN: goats picked out of a herd: which come twice, and their foes.
-/
namespace Go.Proofs.YthodkbmenndnoaaDoor
open Go Go.RowKit

/-- The set of the first goats. -/
def usedU (ys : Nat → Int) : Nat → Nat
  | 0 => 0
  | j + 1 => usedU ys j ||| 2 ^ (ys j).toNat
def dstU (ys : Nat → Int) : Nat → Bool
  | 0 => true
  | j + 1 => dstU ys j && !(usedU ys j).testBit (ys j).toNat
theorem used_bit {ys : Nat → Int} {x : Nat} : ∀ {j : Nat}, (usedU ys j).testBit x = true ↔ ∃ i, i < j ∧ (ys i).toNat = x
  | 0 => by simp [usedU]
  | j + 1 => by
    simp only [usedU, Nat.testBit_or, Bool.or_eq_true, used_bit (j := j), Nat.testBit_two_pow, decide_eq_true_eq]
    constructor
    · rintro (⟨i, hi, e⟩ | e)
      · exact ⟨i, by omega, e⟩
      · exact ⟨j, by omega, e⟩
    · rintro ⟨i, hi, e⟩
      rcases Nat.lt_succ_iff_lt_or_eq.1 hi with h | rfl
      · exact .inl ⟨i, h, e⟩
      · exact .inr e
theorem used_lt {ys : Nat → Int} {m : Nat} : ∀ {j : Nat}, (∀ i, i < j → (ys i).toNat < m) → usedU ys j < 2 ^ m
  | 0, _ => Nat.two_pow_pos m
  | j + 1, h => Nat.or_lt_two_pow (used_lt fun i hi => h i (by omega)) (Nat.pow_lt_pow_right (by decide) (h j (by omega)))
theorem filter_more (p : Nat → Bool) (x : Nat) (hp : p x = false) : ∀ {l : List Nat}, l.Nodup → x ∈ l → (l.filter (fun k => p k || decide (k = x))).length = (l.filter p).length + 1
  | [], _, h => by cases h
  | a :: l, hn, hx => by
    obtain ⟨h1, h2⟩ := List.nodup_cons.1 hn
    by_cases e : a = x
    · subst e
      have hf : l.filter (fun k => p k || decide (k = a)) = l.filter p := List.filter_congr fun k hk => by
        have : ¬ k = a := fun e => h1 (e ▸ hk)
        simp [this]
      rw [List.filter_cons, List.filter_cons, hp, hf]
      simp
    · have hm : x ∈ l := by
        rcases List.mem_cons.1 hx with h | h
        · exact absurd h.symm e
        · exact h
      have ih := filter_more p x hp h2 hm
      rw [List.filter_cons, List.filter_cons]
      have e2 : decide (a = x) = false := decide_eq_false e
      rw [e2, Bool.or_false]
      by_cases ha : p a = true
      · rw [if_pos ha, if_pos ha, List.length_cons, List.length_cons, ih]
      · rw [if_neg ha, if_neg ha, ih]
theorem bitsL_or {s x : Nat} (hx : x < 16) : (bitsL (s ||| 2 ^ x)).length = if s.testBit x = true then (bitsL s).length else (bitsL s).length + 1 := by
  unfold bitsL
  by_cases h : s.testBit x = true
  · rw [if_pos h]
    congr 1
    apply List.filter_congr
    intro k _
    rw [Nat.testBit_or, Nat.testBit_two_pow]
    by_cases e : x = k
    · subst e; simp [h]
    · simp [e]
  · rw [if_neg h]
    have h' : s.testBit x = false := by simpa using h
    rw [← filter_more (fun k => s.testBit k) x h' List.nodup_range (List.mem_range.2 hx)]
    congr 1
    apply List.filter_congr
    intro k _
    rw [Nat.testBit_or, Nat.testBit_two_pow]
    by_cases e : x = k
    · subst e; simp
    · have e' : ¬ k = x := fun h => e h.symm
      simp [e, e']
theorem used_len {ys : Nat → Int} : ∀ {j : Nat}, (∀ i, i < j → (ys i).toNat < 16) → (dstU ys j = true → (bitsL (usedU ys j)).length = j) ∧ (dstU ys j = false → (bitsL (usedU ys j)).length < j) ∧ (bitsL (usedU ys j)).length ≤ j
  | 0, _ => by simp [dstU, usedU, bitsL_zero]
  | j + 1, h => by
    obtain ⟨h1, h2, h3⟩ := used_len (ys := ys) (j := j) (fun i hi => h i (by omega))
    have hl := bitsL_or (s := usedU ys j) (h j (by omega))
    simp only [dstU, usedU]
    rw [hl]
    cases hb : (usedU ys j).testBit (ys j).toNat
    · rw [if_neg (by decide)]
      simp only [Bool.not_false, Bool.and_true]
      exact ⟨(fun h => by rw [h1 h]), (fun h => by have := h2 h; omega), by omega⟩
    · rw [if_pos rfl]
      simp only [Bool.not_true, Bool.and_false]
      exact ⟨(fun h => by cases h), (fun _ => by omega), by omega⟩
theorem dst_iff {ys : Nat → Int} : ∀ {n : Nat}, (∀ i, i < n → 0 ≤ ys i) → (dstU ys n = true ↔ ∀ a b, b < a → a < n → ys a ≠ ys b)
  | 0, _ => by simp [dstU]
  | n + 1, h => by
    have ih := dst_iff (ys := ys) (n := n) (fun i hi => h i (by omega))
    simp only [dstU, Bool.and_eq_true, ih, Bool.not_eq_true']
    have hn := h n (by omega)
    constructor
    · rintro ⟨h1, h2⟩ a b hb ha e
      rcases Nat.lt_succ_iff_lt_or_eq.1 ha with h' | rfl
      · exact h1 a b hb h' e
      · have : (usedU ys a).testBit (ys a).toNat = true := used_bit.2 ⟨b, hb, by rw [e]⟩
        rw [this] at h2; cases h2
    · intro h1
      refine ⟨fun a b hb ha => h1 a b hb (by omega), ?_⟩
      cases hb : (usedU ys n).testBit (ys n).toNat with
      | false => rfl
      | true =>
        obtain ⟨i, hi, e⟩ := used_bit.1 hb
        have h0 := h i (by omega)
        exact absurd (show ys n = ys i by omega) (h1 n i hi (by omega))
theorem dst_few {ys : Nat → Int} {n m : Nat} (hm : m ≤ 14) (h : ∀ j, j < n → 0 ≤ ys j ∧ ys j < m) (hd : dstU ys n = true) : n ≤ m := by
  have hb : ∀ i, i < n → (ys i).toNat < m := fun i hi => by have := h i hi; omega
  have h1 := (used_len (ys := ys) (j := n) (fun i hi => by have := hb i hi; omega)).1 hd
  have h2 := bitsB_eq (used_lt hb) (show m ≤ 16 by omega)
  have h3 := bitsB_len (usedU ys n) m
  rw [h2, h1] at h3
  exact h3
/-- The foes of the i-th picked goat among the first k. -/
def pkU (d : Hd) (ys : Nat → Int) (i : Nat) : Nat → Nat
  | 0 => 0
  | k + 1 => if foe d (ys i).toNat (ys k).toNat = true then pkU d ys i k ||| 2 ^ k else pkU d ys i k
theorem pkU_lt (d : Hd) (ys : Nat → Int) (i : Nat) : ∀ k, pkU d ys i k < 2 ^ k
  | 0 => by simp [pkU]
  | k + 1 => by
    have h := pkU_lt d ys i k
    have h2 : (2 : Nat) ^ k < 2 ^ (k + 1) := Nat.pow_lt_pow_right (by decide) (by omega)
    simp only [pkU]
    split
    · exact Nat.or_lt_two_pow (by omega) h2
    · omega
def pkC (d : Hd) (n : Nat) (ys : Nat → Int) : Int := if askC d n ys = 0 then (if dstU ys n = true then 0 else 4) else askC d n ys
def pkN (d : Hd) (n : Nat) (ys : Nat → Int) : Nat := if pkC d n ys = 0 then n else 0
def pkD (d : Hd) (n : Nat) (ys : Nat → Int) : Hd := ⟨n, n, n, fun j => d.ss (ys j).toNat, fun j => d.es (ys j).toNat, fun j => ((pkU d ys j n : Nat) : Int)⟩
theorem pk_0 {d : Hd} {n : Nat} {ys : Nat → Int} (h : pkC d n ys = 0) : HerdOk d ∧ (∀ j, j < n → 0 ≤ ys j ∧ ys j < d.n1) ∧ dstU ys n = true ∧ n ≤ 14 ∧ askC d n ys = 0 := by
  unfold pkC at h
  split at h
  · rename_i h1
    obtain ⟨hOk, hys⟩ := askC_0 h1
    split at h
    · rename_i h2
      exact ⟨hOk, hys, h2, Nat.le_trans (dst_few hOk.n hys h2) hOk.n, h1⟩
    · cases h
  · contradiction
end Go.Proofs.YthodkbmenndnoaaDoor

/-
  spec.l06Largest: the loop over the list so far.
-/
namespace Go.Proofs.YthodkbmenndnoaaDoor
open Go Go.RowKit Go.BigFrame

def cL : Code → Code | .seq a _ => a | c => c
def cR : Code → Code | .seq _ b => b | c => c
def cX : Code → Code | .block _ x => x | .loop x => x | c => c
noncomputable def largest0 : Code := (cX (cR (cL (cR (cR (Tryd.f98.body.getD .skip))))))
noncomputable def largest2 : Code := cX (cR (cL (cR (cR (cX (cL (cR (cX largest0))))))))
noncomputable def largest4 : Code := cX (cR (cL (cR (cX (cL (cR (cX largest2)))))))
set_option maxRecDepth 100000 in
set_option maxHeartbeats 4000000 in
theorem largeK_any (d : Hd) (b : Bool) (bh b3 n lb lc i : Nat) (L : List Nat) (F : Nat → Value) (hn : n ≤ 14) (hin : i < n) (hLn : L.length ≤ i) (hlc : L.length ≤ lc) (hF : ∀ j, j < L.length * 1 → F j = vI (natI L) j) (hm : ∀ x, x ∈ L → x < i) (hv : Nat → Value) (W0 : World) (HH : At W0 bh 3 hv) (H3 : At W0 b3 n (vUint16S d.fs))
    (hAre : ∀ (i k : Nat), i < n → k < n → ∀ W : World, At W bh 3 hv → At W b3 n (vUint16S d.fs) → Calls Tryd.prog 63 #[.pointer (some ⟨bh, 0, none⟩), .int .i64 i, .int .i64 k] W fun e w' => e = .returned (.bool (foe d i k)) ∧ Below W.heap.size W w')
    (t2 t3 t4 t5 t6 t11 t12 t13 t14 t15 t16 t17 t18 t19 t20 t21 t22 t23 t24 t25 t26 t27 t28 t29 t30 t31 t32 t33 t34 t35 t36 t37 t38 t39 t40 t41 t42 t43 t44 t45 t46 t47 t48 t49 t50 t51 t52 t53 t54 t55 t56 t57 t58 t59 t60 t61 t62 t63 t64 t65 t66 t67 t68 t69 t70 t71 t72 t73 t74 t75 t76 t77 t78 t79 t80 t81 t82 t83 t84 t85 : Value) (W : World) (hM0 : Mem (Base.of W0) [(lb, lc * 1, F)] W) :
    largest4.wp Tryd.prog (fun e a' w' => e = .exit 4 ∧ ∃ v42 v43 v44 v45 v46 v47 v48 v49 v50 v51 v52 v53 v54 v55 v56 v57 v58 v59, a' = ⟨(List.toArray (.pointer (some ⟨bh, 0, none⟩) :: .bool b :: t2 :: t3 :: t4 :: t5 :: t6 :: .slice (some ⟨lb, 0, none⟩) L.length lc :: .bool (gudK d b i L L.length) :: .int .i64 (i : Int) :: .int .i64 (L.length : Int) :: t11 :: t12 :: t13 :: t14 :: t15 :: t16 :: t17 :: t18 :: t19 :: t20 :: t21 :: t22 :: t23 :: t24 :: t25 :: t26 :: t27 :: t28 :: t29 :: t30 :: t31 :: t32 :: t33 :: t34 :: t35 :: t36 :: t37 :: t38 :: t39 :: t40 :: t41 :: v42 :: v43 :: v44 :: v45 :: v46 :: v47 :: v48 :: v49 :: v50 :: v51 :: v52 :: v53 :: v54 :: v55 :: v56 :: v57 :: v58 :: v59 :: t60 :: t61 :: t62 :: t63 :: t64 :: t65 :: t66 :: t67 :: t68 :: t69 :: t70 :: t71 :: t72 :: t73 :: t74 :: t75 :: t76 :: t77 :: t78 :: t79 :: t80 :: t81 :: t82 :: t83 :: t84 :: t85 :: [])), []⟩ ∧ Mem (Base.of W0) [(lb, lc * 1, F)] w') ⟨(List.toArray (.pointer (some ⟨bh, 0, none⟩) :: .bool b :: t2 :: t3 :: t4 :: t5 :: t6 :: .slice (some ⟨lb, 0, none⟩) L.length lc :: .bool true :: .int .i64 (i : Int) :: .int .i64 (0 : Int) :: t11 :: t12 :: t13 :: t14 :: t15 :: t16 :: t17 :: t18 :: t19 :: t20 :: t21 :: t22 :: t23 :: t24 :: t25 :: t26 :: t27 :: t28 :: t29 :: t30 :: t31 :: t32 :: t33 :: t34 :: t35 :: t36 :: t37 :: t38 :: t39 :: t40 :: t41 :: t42 :: t43 :: t44 :: t45 :: t46 :: t47 :: t48 :: t49 :: t50 :: t51 :: t52 :: t53 :: t54 :: t55 :: t56 :: t57 :: t58 :: t59 :: t60 :: t61 :: t62 :: t63 :: t64 :: t65 :: t66 :: t67 :: t68 :: t69 :: t70 :: t71 :: t72 :: t73 :: t74 :: t75 :: t76 :: t77 :: t78 :: t79 :: t80 :: t81 :: t82 :: t83 :: t84 :: t85 :: [])), []⟩ W := by
  have hM := hM0
  have HF := Lib.hid hF
  have HMEM := Lib.hid hm
  have HHW := Lib.hid HH
  have H3W := Lib.hid H3
  have HARE := Lib.hid hAre
  clear hM0 hF hm HH H3 hAre
  conv => arg 2; whnf
  go_loopw [8, 10] (fun gv kv wr3 => ∃ k : Nat, k ≤ L.length ∧ kv = .int .i64 k ∧ gv = .bool (gudK d b i L k) ∧ Mem (Base.of W0) [(lb, lc * 1, F)] wr3) (fun _ kv _ => L.length - (intOf kv).toNat)
  case atStart => exact ⟨0, by omega, rfl, rfl, hM⟩
  case round =>
    clear hM
    obtain ⟨k, hk, rfl, rfl, hM⟩ := hrel
    by_cases hkl : k < L.length
    · have l4 : (k : Int) < L.length := by omega
      cases hgk : gudK d b i L k
      · have HZ := Lib.hid (show gudK d b i L (k + 1) = false from by simp only [gudK, hgk]; rfl)
        clear hgk
        go_wp2
        go_roundw
        case rel => exact ⟨k + 1, by omega, by go_num, by rw [HZ.out], hM⟩
        case measure => simp [intOf]; omega
      · have HGK := Lib.hid hgk
        clear hgk
        have hxi := HMEM.out _ (List.getElem_mem hkl)
        have hFk := (HF.out k (by omega)).trans (natI_at hkl)
        obtain ⟨x, hx⟩ : ∃ x, L[k] = x := ⟨_, rfl⟩
        rw [hx] at hxi hFk
        obtain ⟨fb, hfb⟩ : ∃ fb, foe d i x = fb := ⟨_, rfl⟩
        have HZ := Lib.hid (show gudK d b i L (k + 1) = (fb == b) from by
          have e : L.getD k 0 = L[k] := by simp [List.getD_eq_getElem?_getD, hkl]
          simp only [gudK]
          rw [HGK.out, Bool.true_and, e, hx, hfb])
        have HFB := Lib.hid hfb
        clear hx hfb
        go_wp2_with (first | (refine wpList_wcell (by rfl) _ _ rfl _ _ rfl (cellTab _ rfl) _ (((hM.ats 0 _ _ _ rfl).cell (by omega)).trans (congrArg some hFk)) ?_) | (refine wpList_get1 rfl _ _ rfl _ _ rfl hM 0 rfl (cellTab _ rfl) (by omega) _ hFk ?_) | (go_at_call 63; (with_reducible refine (HARE.out i x hin (by omega) _ (HHW.out.below hM.below HHW.out.lt) (H3W.out.below hM.below H3W.out.lt)).mono ?_); rintro e W' ⟨rfl, hb'⟩; rw [HFB.out]; have hM' := hM.call hb'; clear hM hb'; have hM := hM'; clear hM'))
        go_roundw
        case rel => exact ⟨k + 1, by omega, by go_num, by rw [HZ.out], hM⟩
        case measure => simp [intOf]; omega
    · obtain rfl : k = L.length := by omega
      go_wp2
      trace_state
      exact ⟨trivial, _, _, _, _, _, _, _, _, _, _, _, _, _, _, _, _, _, _, rfl, hM⟩
end Go.Proofs.YthodkbmenndnoaaDoor

