/-
  Several texts in one: WordsSt, TextF, SpotT, Words, Cut, ValidStakes, Cat, GivesR, StakesTI.
-/
import Derived.Test.YtaaphdbaocjecaaDoorP9
import Derived.Test.YtaaphdbaocjecaaDoorP4
import Derived.Test.YtaaphdbaocjecaaDoorP6
import Derived.Test.YtaaphdbaocjecaaDoorP3
import Derived.Test.YtaaphdbaocjecaaDoorP1
import Derived.Test.YtaaphdbaocjecaaDoorP7
import Derived.Test.YtaaphdbaocjecaaDoorP8
import Derived.Laws.BytesString
import Derived.Laws.Cells
import Derived.Test.YtaaphdbaocjecaaDoorP5
/-
  impl.parseWords of stakes by contract.
-/
namespace Go.Proofs.YtaaphdbaocjecaaDoor
open Go Go.RowKit Go.BigFrame

theorem parseStake_yes {a : Nat → Addr} (l : List UInt8) (hl : l.length ≤ 1048576) (h : stOk l = true) (w : World) (hE : PEnv a w) :
    Calls Tryd.prog 21 #[.string (bs l)] w fun e w' => e = .returned (.tuple #[.agg (arr 3 (vStake (stV l))), .nilIface]) ∧ Below w.heap.size w w' := by
  refine (parseStake_any l hl w hE).mono ?_
  rintro e w' ⟨v, N, rfl, ⟨-, rfl⟩ | ⟨h2, -⟩, hM, -⟩
  · exact ⟨rfl, hM.below⟩
  · rw [h] at h2; cases h2
theorem parseStake_no {a : Nat → Addr} (l : List UInt8) (hl : l.length ≤ 1048576) (h : stOk l = false) (w : World) (hE : PEnv a w) :
    Calls Tryd.prog 21 #[.string (bs l)] w fun e w' => ∃ t p N, e = .returned (.tuple #[.agg (arr 3 (vStake (stV l))), .iface t (.pointer p)]) ∧ ErrIn a 2 (.iface t (.pointer p)) N ∧ Mem (Base.of w) N w' ∧ ∀ p, p ∈ N → w.heap.size ≤ p.1 := by
  refine (parseStake_any l hl w hE).mono ?_
  rintro e w' ⟨v, N, rfl, ⟨h2, -⟩ | ⟨-, h2⟩, hM, hge⟩
  · rw [h] at h2; cases h2
  · obtain ⟨t, p, rfl⟩ := h2.iface
    exact ⟨t, p, N, rfl, h2, hM, hge⟩
theorem part_len (c : UInt8) (l : List UInt8) (j : Nat) : ((partsC c l).getD j []).length ≤ l.length := by
  have key : ∀ (n : Nat) (l : List UInt8), l.length ≤ n → ∀ p, p ∈ partsC c l → p.length ≤ l.length := by
    intro n
    induction n with
    | zero =>
      intro l hl p hp
      obtain rfl : l = [] := List.eq_nil_of_length_eq_zero (by omega)
      simp [partsC] at hp; subst hp; simp
    | succ n ih =>
      intro l hl p hp
      rcases first_c c l with h1 | ⟨u, r, h1, rfl⟩
      · rw [partsC_free l h1] at hp; simp at hp; subst hp; exact Nat.le_refl _
      · rw [partsC_app u r h1] at hp
        simp only [List.length_append, List.length_cons] at hl ⊢
        rcases List.mem_cons.1 hp with rfl | hp
        · omega
        · have := ih r (by omega) p hp
          omega
  rw [List.getD_eq_getElem?_getD]
  by_cases hj : j < (partsC c l).length
  · rw [List.getElem?_eq_getElem hj]
    exact key l.length l (Nat.le_refl _) _ (List.getElem_mem hj)
  · rw [List.getElem?_eq_none (by omega)]; simp
theorem stake_under : Tryd.prog.underlying 31 = some (.slice 51) := Tryd.underlying31
theorem stake_info2 : (Tryd.prog.info? 51).map (fun i => (i.size, i.zero)) = some (3, some (.agg (arr 3 zStake))) := by kernel_rfl
theorem stake_ones {h : Nat → Int} : ∀ k, k < 3 → (vStake h k).oneCell' = true := fun _ _ => rfl
/-- What parseWords answers. -/
def PWordsK (a : Nat → Addr) (l : List UInt8) (w : World) (e : Ending) (w' : World) : Prop :=
  (∃ v N, e = .returned (.tuple #[.slice none 0 0, v]) ∧ ErrIn a 2 v N ∧ Mem (Base.of w) N w' ∧ BadK l) ∨
  (∃ v, e = .returned (.tuple #[v, .nilIface]) ∧ Lst (Base.of w) [] 3 v (stWs l) (sStake (stHs l)) w' ∧ stWs l ≤ 12)
set_option maxRecDepth 100000 in
set_option maxHeartbeats 4000000 in
theorem parseWordsSt_any {a : Nat → Addr} (l : List UInt8) (hl : l.length ≤ 1048576) (w : World) (hE : PEnv a w) :
    Calls Tryd.prog 20 #[.string (bs l), .int .i64 12, .func (.func 21) #[] #[]] w (PWordsK a l w) := by
  have hM := Mem.nil w
  have HE := Lib.hid hE
  clear hE
  have hemp := bs_isEmpty l
  by_cases h0 : l = []
  · subst h0
    go_enter Tryd.func20, Tryd.ntmps20
    go_wp2
    refine bodyPost_ret (results_tmp2 rfl _ _ _) rfl ?_
    exact .inr ⟨_, rfl, .inl ⟨rfl, rfl, hM⟩, by unfold stWs; simp⟩
  have hne : (bs l).toList.isEmpty = false := by
    rw [hemp]; cases l with
    | nil => exact absurd rfl h0
    | cons a r => rfl
  have H0 := Lib.hid h0
  clear hemp h0
  by_cases hmany : 12 < (partsC 32 l).length
  · have Hb := Lib.hid (show BadK l from ⟨H0.out, .inl hmany⟩)
    have hlen : (wordsN 32 13 l).length = 13 := by
      by_cases h13 : (partsC 32 l).length ≤ 13
      · rw [wordsN_few (by omega) h13]; omega
      · exact wordsN_many (by omega) (by omega)
    have HN := Lib.hid (fun (W : World) (h : MaxP W) => splitN_any l 32 13 hl (by omega) (by omega) W h)
    rw [hlen] at HN
    clear hlen hmany
    go_enter Tryd.func20, Tryd.ntmps20
    go_wp2_with (first | (go_at_call 25; refine (HN.out _ (HE.out.max.below hM.below)).mono ?_; rintro e W' ⟨wb, N, F, rfl, hwb, hnN, hF, hA', hcb⟩; have hM' := hM.call hcb; clear hM hwb hnN hF hA' hcb; have hM := hM'; clear hM'))
    ((try simp only [Act.put, List.setIfInBounds_toArray, List.set_cons_succ, List.set_cons_zero]); refine wp_region_mem (by kernel_rfl) (by kernel_rfl) hM ?_; clear hM; (repeat (first | go_big_quiet_skip | (go_big_quiet_want; first | (refine quiet_old _ _ rfl _ _ rfl (cellTab _ rfl) (errV (a 3)) (fun W hM2 => (HE.out.errs.below hM2.below).vars 3 (by omega)) ?_; (simp only [Act.put, List.setIfInBounds_toArray, List.set_cons_succ, List.set_cons_zero]); go_big_quiet_on) | (refine quiet_val ?_; apply Exists.intro; refine ⟨fun W => ?_, ?_⟩; (go_simp; (try simp only [rfl, if_true, Bool.false_eq_true, if_false]); rfl); (simp only [Act.put, List.setIfInBounds_toArray, List.set_cons_succ, List.set_cons_zero]); go_big_quiet_on)))); (with_reducible refine wpQuiet_nil ?_); intro W' hM)
    go_wp2
    refine bodyPost_ret (results_tmp2 rfl _ _ _) rfl ?_
    exact .inl ⟨_, [], rfl, ErrIn.one 2, hM, Hb.out⟩
  have hw : wordsN 32 13 l = partsC 32 l := wordsN_few (by omega) (by omega)
  have HN := Lib.hid (fun (W : World) (h : MaxP W) => splitN_any l 32 13 hl (by omega) (by omega) W h)
  rw [hw] at HN
  have HL := Lib.hid (fun j => Nat.le_trans (part_len 32 l j) hl)
  have Hst := Lib.hid (show stWs l = (partsC 32 l).length from by unfold stWs; rw [if_neg H0.out])
  have Hhs := Lib.hid (show ∀ j, stHs l j = stV ((partsC 32 l).getD j []) from fun j => rfl)
  have Hbad := Lib.hid (show ∀ j, j < (partsC 32 l).length → stOk ((partsC 32 l).getD j []) = false → BadK l from fun j h1 h2 => ⟨H0.out, .inr ⟨j, h1, h2⟩⟩)
  obtain ⟨n, hn⟩ : ∃ n, (partsC 32 l).length = n := ⟨_, rfl⟩
  rw [hn] at HN Hst Hbad hmany
  have Hn := Lib.hid hn
  have hn12 : n ≤ 12 := by omega
  have d12 : decide ((n : Int) > 12) = false := decide_eq_false (by omega)
  have d13 : ¬ (12 : Int) < n := by omega
  clear hw hn hmany
  have tk_sp : True := trivial
  go_enter Tryd.func20, Tryd.ntmps20
  go_wp2_with (first | (have _t := tk_sp; go_at_call 25; refine (HN.out _ (HE.out.max.below hM.below)).mono ?_; rintro e W' ⟨wb, N, F, rfl, hwb, hnN, hF, hA', hcb⟩; have hM' := hM.fresh' hcb hA' hwb; simp only [List.nil_append] at hM'; have HF := Lib.hid hF; clear hM hF hA' hcb tk_sp; have hM := hM'; clear hM'))
  go_loopw [9, 27] (fun v i wr => ∃ k : Nat, k ≤ n ∧ i = .int .i64 k ∧ Lst (Base.of w) [(wb, N, F)] 3 v k (sStake (stHs l)) wr) (fun _ i _ => n - (intOf i).toNat)
  case atStart => exact ⟨0, by omega, rfl, .inl ⟨rfl, rfl, hM⟩⟩
  case round =>
    clear hM
    obtain ⟨k, hk, rfl, hL⟩ := hrel
    by_cases hlt : k < n
    · have l2 : (k : Int) < n := by omega
      have hle : k ≤ 1048576 := by omega
      obtain ⟨wd, hwd⟩ : ∃ wd, (partsC 32 l).getD k [] = wd := ⟨_, rfl⟩
      have e0 : F k = .string (bs wd) := by rw [HF.out k hlt, ← hwd]; rfl
      have e1 : F (k * 1) = .string (bs wd) := by rw [Nat.mul_one]; exact e0
      have hwl := HL.out k
      rw [hwd] at hwl
      have Hh := Lib.hid ((Hhs.out k).trans (congrArg stV hwd))
      have Hbd := Lib.hid (show stOk wd = false → BadK l from fun h => Hbad.out k hlt (by rw [hwd]; exact h))
      have el : arr 3 (fun j => vStake (stV wd) (0 + j)) = arr 3 (vStake (stV wd)) := arr_congr fun j hj => by rw [Nat.zero_add]
      clear hwd
      cases hok : stOk wd
      · have HP := Lib.hid (fun (W : World) (h : PEnv a W) => parseStake_no wd hwl hok W h)
        have Hbb := Lib.hid (Hbd.out hok)
        have hM := hL.mem
        clear hL hok Hbd
        have tk_r1 : True := trivial; have tk_b3 : True := trivial; have tk_r2 : True := trivial
        go_wp2_with (first | (have _t := tk_r1; refine wpList_get1 rfl _ _ rfl _ _ rfl hM 0 rfl (cellTab _ rfl) (by omega) _ (by first | exact e0 | exact e1) ?_; clear tk_r1) | (go_at_call 21; refine (HP.out _ (HE.out.below hM.below)).mono ?_; rintro e W' ⟨t, p, M, rfl, hv, hN, hge⟩; have Hv := Lib.hid hv; have hM' := hM.back hN hge; simp only [List.cons_append, List.nil_append] at hM'; clear hM hN hge hv; have hM := hM'; clear hM') | (have _t := tk_b3; refine wpList_zero rfl _ rfl zeroStake hM ?_; intro b3 W' hb3 hM'; clear hM tk_b3; have hM := hM'; clear hM') | (have _t := tk_r2; (refine wpList_lay rfl _ _ _ rfl _ _ rfl _ _ rfl hM 0 rfl (by assumption) rowStake (by omega) (fun _ _ => rfl) ?_; intro W' hM'; clear hM; have hM := hM'; clear hM'; simp only [List.set] at hM; have hM1 := hM.re 0 rfl (vStake (stV wd)) (fun j hj => by simp [lay, hj]); simp only [List.set_cons_zero] at hM1; clear hM; have hM := hM1; clear hM1); clear tk_r2))
        refine bodyPost_ret (results_tmp2 rfl _ _ _) rfl ?_
        exact .inl ⟨_, M, rfl, Hv.out, hM.drop.drop, Hbb.out⟩
      · have HY := Lib.hid (fun (W : World) (h : PEnv a W) => parseStake_yes wd hwl hok W h)
        have Hnew := Lib.hid (show ∀ j, j < 3 → vStake (stV wd) j = sStake (stHs l) (k * 3 + j) from fun j hj => by rw [sStake_row _ _ _ hj, Hh.out])
        clear hok Hbd
        rcases hL with ⟨rfl, hn0, hM⟩ | ⟨bw, cw, G, rfl, hbb, hnc, hFF, hM⟩
        · have Hq : Hid (∀ j, j < 3 → vStake (stV wd) j = sStake (stHs l) j) := Lib.hid (fun j hj => by have := Hnew.out j hj; rwa [hn0, Nat.zero_mul, Nat.zero_add] at this)
          have Hn0 := Lib.hid hn0
          clear hn0
          have tk_r1 : True := trivial; have tk_b3 : True := trivial; have tk_r2 : True := trivial; have tk_r3 : True := trivial; have tk_l1 : True := trivial; have tk_p1 : True := trivial
          go_wp2_with (first | (have _t := tk_r1; refine wpList_get1 rfl _ _ rfl _ _ rfl hM 0 rfl (cellTab _ rfl) (by omega) _ (by first | exact e0 | exact e1) ?_; clear tk_r1) | (go_at_call 21; refine (HY.out _ (HE.out.below hM.below)).mono ?_; rintro e W' ⟨rfl, hb'⟩; have hM' := hM.call hb'; clear hM hb'; have hM := hM'; clear hM') | (have _t := tk_b3; refine wpList_zero rfl _ rfl zeroStake hM ?_; intro b3 W' hb3 hM'; clear hM tk_b3; have hM := hM'; clear hM') | (have _t := tk_r2; (refine wpList_lay rfl _ _ _ rfl _ _ rfl _ _ rfl hM 0 rfl (by assumption) rowStake (by omega) (fun _ _ => rfl) ?_; intro W' hM'; clear hM; have hM := hM'; clear hM'; simp only [List.set] at hM; have hM1 := hM.re 0 rfl (vStake (stV wd)) (fun j hj => by simp [lay, hj]); simp only [List.set_cons_zero] at hM1; clear hM; have hM := hM1; clear hM1); clear tk_r2) | (have _t := tk_r3; (refine wpList_get rfl _ _ rfl _ _ rfl hM 0 rfl rowStake (by omega) ?_); rw [el]; clear tk_r3) | (have _t := tk_l1; refine wpList_slice1 rfl _ _ _ rfl _ _ rfl _ stake_under stake_info2 (by omega) (by omega) hM ?_; intro bn W' hbn hM'; clear hM tk_l1; have hM := hM'; clear hM') | (have _t := tk_p1; refine wpList_push0 rfl _ _ _ rfl _ 3 _ _ stake_under infoStake rfl (by omega) rfl _ _ rfl hM (sStake (stHs l)) Hq.out ?_; intro bL cL FL W' hbL hcL hFL hM'; clear hM tk_p1; have hM := hM'; clear hM'))
          go_roundw
          case rel => exact ⟨k + 1, by omega, by go_num, by
            rw [Hn0.out]
            exact .inr ⟨bL, cL, FL, rfl, hbL, hcL, hFL, hM.skip⟩⟩
          case measure => simp [intOf]; omega
        · have Hf := Lib.hid hFF
          clear hFF
          have tk_r1 : True := trivial; have tk_b3 : True := trivial; have tk_r2 : True := trivial; have tk_r3 : True := trivial; have tk_l1 : True := trivial; have tk_p1 : True := trivial
          go_wp2_with (first | (have _t := tk_r1; refine wpList_get1 rfl _ _ rfl _ _ rfl hM 1 rfl (cellTab _ rfl) (by omega) _ (by first | exact e0 | exact e1) ?_; clear tk_r1) | (go_at_call 21; refine (HY.out _ (HE.out.below hM.below)).mono ?_; rintro e W' ⟨rfl, hb'⟩; have hM' := hM.call hb'; clear hM hb'; have hM := hM'; clear hM') | (have _t := tk_b3; refine wpList_zero rfl _ rfl zeroStake hM ?_; intro b3 W' hb3 hM'; clear hM tk_b3; have hM := hM'; clear hM') | (have _t := tk_r2; (refine wpList_lay rfl _ _ _ rfl _ _ rfl _ _ rfl hM 0 rfl (by assumption) rowStake (by omega) (fun _ _ => rfl) ?_; intro W' hM'; clear hM; have hM := hM'; clear hM'; simp only [List.set] at hM; have hM1 := hM.re 0 rfl (vStake (stV wd)) (fun j hj => by simp [lay, hj]); simp only [List.set_cons_zero] at hM1; clear hM; have hM := hM1; clear hM1); clear tk_r2) | (have _t := tk_r3; (refine wpList_get rfl _ _ rfl _ _ rfl hM 0 rfl rowStake (by omega) ?_); rw [el]; clear tk_r3) | (have _t := tk_l1; refine wpList_slice1 rfl _ _ _ rfl _ _ rfl _ stake_under stake_info2 (by omega) (by omega) hM.swap ?_; intro bn W' hbn hM'; clear hM tk_l1; have hM := hM'; clear hM') | (have _t := tk_p1; refine wpList_push1 rfl _ _ _ rfl _ 3 _ _ stake_under infoStake rfl (by omega) _ _ _ _ rfl hbb hnc hle _ _ rfl stake_ones hM (sStake (stHs l)) Hf.out Hnew.out ?_; intro bL cL FL W' hbL hcL hFL hM'; clear hM tk_p1; have hM := hM'; clear hM'))
          go_roundw
          case rel => exact ⟨k + 1, by omega, by go_num, .inr ⟨bL, cL, FL, rfl, hbL, hcL, hFL, hM.skip⟩⟩
          case measure => simp [intOf]; omega
    · obtain rfl : k = n := by omega
      have hM := hL.mem
      go_wp2
      refine bodyPost_ret (results_tmp2 rfl _ _ _) rfl ?_
      exact .inr ⟨_, rfl, by rw [Hst.out]; exact hL.only, by rw [Hst.out]; omega⟩
end Go.Proofs.YtaaphdbaocjecaaDoor

/-
  spec.Decimal by contract.
-/
namespace Go.Proofs.YtaaphdbaocjecaaDoor
open Go Go.RowKit Go.BigFrame

theorem numB_small {n : Int} (h0 : 0 ≤ n) (h : n < 10) : numB n = [UInt8.ofNat (48 + n % 10).toNat] := by
  unfold numB; rw [Lib.decDigits, dif_pos (by omega)]; congr 2; omega
theorem numB_more {n : Int} (h : 10 ≤ n) : numB n = numB (n / 10) ++ [UInt8.ofNat (48 + n % 10).toNat] := by
  unfold numB
  rw [Lib.decDigits, dif_neg (by omega)]
  congr 2
  · congr 1; omega
  · congr 2; omega

/-- A string of the one byte that a block holds. -/
theorem run_str1 {P : Program} {W : World} {src dst e : TypeId} (hs : P.underlying src = some (.slice e)) (he : P.underlying e = some (.int .u8)) (hd : P.underlying dst = some .string) {b n c : Nat} {f : Nat → Value} (hA : At W b n f) (hn : 1 ≤ n) (k : Int) (hf : f 0 = .int .u8 k) :
    (convert src dst (.slice (some ⟨b, 0, none⟩) 1 c)).run P W = .ok (.string (bs [UInt8.ofNat k.toNat])) W := by
  rw [run_convert_bytes_string W src dst e _ _ _ hs he hd]
  have hl : (loadCells ⟨b, 0, none⟩ 1).run P W = .ok ([k].map (Value.int .u8)).toArray W := by
    exact run_loadCells W ⟨b, 0, none⟩ 1 (fun _ => .int .u8 k) (fun j hj => by
      obtain rfl : j = 0 := by omega
      exact (hA.cell (k := 0) (by omega)).trans (congrArg some hf))
  rw [run_bytesToString W _ 1 c [k] hl]
  rfl

section
variable {P : Program} {o : Oper} {a : Act} {w : Base} {L x : Blocks} {K : Act → (World → Prop) → Prop}
theorem step_str1 (src dst e : TypeId) (y : Operand) (ho : o.op = .convert src dst y) (hs : P.underlying src = some (.slice e)) (he : P.underlying e = some (.int .u8)) (hd : P.underlying dst = some .string) (b c : Nat) (hx : a.eval y = .slice (some ⟨b, 0, none⟩) 1 c) (i : Nat) {n : Nat} {f : Nat → Value} (hi : x[i]? = some (b, n, f)) (hn : 1 ≤ n) (k : Int) (hf : f 0 = .int .u8 k)
    (h : K (a.put o.dst (.string (bs [UInt8.ofNat k.toNat]))) (Mem w (x ++ L))) : stepT P (Mem w L) o a (Mem w (x ++ L)) K := by
  have hil : i < x.length := (List.getElem?_eq_some_iff.1 hi).1
  have hi' : (x ++ L)[i]? = some (b, n, f) := by rw [List.getElem?_append_left hil]; exact hi
  intro W hM
  refine .inl ⟨_, _, W, .inl ?_, kept_mem w L x, hM, h⟩
  unfold execOp
  simp only [ho, hx, run_str1 hs he hd (hM.ats i _ _ _ hi') hn k hf, Sem.run_bind, Sem.run_pure, Result.andThen_ok]
end
theorem wpList_str1 {P : Program} {ops : Array Oper} {rest : List Oper} {o : Oper} {a : Act} {W : World} {Q : Exit → Act → World → Prop} (hgd : o.guard = none) (src dst e : TypeId) (y : Operand) (ho : o.op = .convert src dst y) (hs : P.underlying src = some (.slice e)) (he : P.underlying e = some (.int .u8)) (hd : P.underlying dst = some .string) (b c : Nat) (hx : a.eval y = .slice (some ⟨b, 0, none⟩) 1 c) {n : Nat} {f : Nat → Value} (hA : At W b n f) (hn : 1 ≤ n) (k : Int) (hf : f 0 = .int .u8 k)
    (h : wpList P ops Q rest (a.put o.dst (.string (bs [UInt8.ofNat k.toNat]))) W) : wpList P ops Q (o :: rest) a W := by
  refine wpList_plain hgd fun K hK => ?_
  unfold Oper.wp execOp
  simp only [ho, hx, run_str1 hs he hd hA hn k hf, Sem.run_bind, Sem.run_pure, Result.andThen_ok]
  exact hK _ _ h
theorem cat_op {P : Program} {o : Oper} {a : Act} {t t' : TypeId} (x y : Operand) (ho : o.op = .binOp .add t x y t') (u v : List UInt8) (hx : a.eval x = .string (bs u)) (hy : a.eval y = .string (bs v)) (hb : u.length + v.length ≤ 100000000) (W : World) : (execOp a.eval o).run P W = .ok (.value (.string (bs (u ++ v)))) W := by
  unfold execOp
  have hg : (eqGuard .add t x y (.string (bs u)) (.string (bs v))).run P W = .ok () W := rfl
  simp only [ho, hx, hy, binOp, hg, cat_run u v hb W, Sem.run_bind, Sem.run_pure, Result.andThen_ok]
theorem wpList_cat {P : Program} {ops : Array Oper} {rest : List Oper} {o : Oper} {a : Act} {W : World} {Q : Exit → Act → World → Prop} (hgd : o.guard = none) {t t' : TypeId} (x y : Operand) (ho : o.op = .binOp .add t x y t') (u v : List UInt8) (hx : a.eval x = .string (bs u)) (hy : a.eval y = .string (bs v)) (hb : u.length + v.length ≤ 100000000)
    (h : wpList P ops Q rest (a.put o.dst (.string (bs (u ++ v)))) W) : wpList P ops Q (o :: rest) a W := by
  refine wpList_plain hgd fun K hK => ?_
  unfold Oper.wp
  rw [cat_op x y ho u v hx hy hb W]
  exact hK _ _ h
theorem infoU8 : (Tryd.prog.info? 5).map (fun i => (i.size, i.zero)) = some (1, some (.int .u8 0)) := by kernel_rfl
theorem bytes_under : Tryd.prog.underlying 89 = some (.slice 5) := Tryd.underlying89

end Go.Proofs.YtaaphdbaocjecaaDoor

/-
  (impl.Spot).text by contract.
-/
namespace Go.Proofs.YtaaphdbaocjecaaDoor
open Go Go.RowKit Go.BigFrame

set_option maxRecDepth 100000 in
set_option maxHeartbeats 1000000 in
theorem spotText_any (x y : Int) (hx : 0 ≤ x ∧ x ≤ 127) (hy : 0 ≤ y ∧ y ≤ 127) (w : World) (hT : TabP w) :
    Calls Tryd.prog 35 #[.agg (arr 2 (sp x y))] w fun e w' => e = .returned (.string (bs (spotT x y))) ∧ Below w.heap.size w w' := by
  have hM := Mem.nil w
  have e0 : sp x y 0 = .int .i8 x := rfl
  have e1 : sp x y 1 = .int .i8 y := rfl
  have cx : IntKind.i64.wrap x = x := IntWalk.i64_in _ (by omega)
  have cy : IntKind.i64.wrap y = y := IntWalk.i64_in _ (by omega)
  have lx := numB_len (n := x) (by omega)
  have ly := numB_len (n := y) (by omega)
  have HX := Lib.hid (fun (W : World) (h : TabP W) => fmt_any x hx.1 (by omega) W h)
  have HY := Lib.hid (fun (W : World) (h : TabP W) => fmt_any y hy.1 (by omega) W h)
  have HT := Lib.hid hT
  clear hT
  obtain ⟨u, hu⟩ : ∃ u, numB x = u := ⟨_, rfl⟩
  obtain ⟨v, hv⟩ : ∃ v, numB y = v := ⟨_, rfl⟩
  have hr : spotT x y = u ++ [44] ++ v := by unfold spotT; rw [hu, hv]
  rw [hr]
  rw [hu] at HX lx
  rw [hv] at HY ly
  clear hu hv hr
  have tk_b1 : True := trivial
  go_enter Tryd.func35, Tryd.ntmps35
  go_wp2_with (first | (have _t := tk_b1; refine wpList_box rfl _ _ rfl _ _ rfl hM ?_; intro b1 W' hb1 hM'; clear hM tk_b1; have hM := hM'; clear hM'))
  ((try simp only [Act.put, List.setIfInBounds_toArray, List.set_cons_succ, List.set_cons_zero]); refine wp_region_mem (by kernel_rfl) (by kernel_rfl) hM ?_; clear hM; (repeat (first | go_big_quiet_skip | (go_big_quiet_want; first | (refine quiet_get1 _ _ rfl _ _ rfl 0 rfl (cellTab _ rfl) (by omega) _ e0 ?_; (simp only [Act.put, List.setIfInBounds_toArray, List.set_cons_succ, List.set_cons_zero]); go_big_quiet_on) | (refine quiet_get1 _ _ rfl _ _ rfl 0 rfl (cellTab _ rfl) (by omega) _ e1 ?_; (simp only [Act.put, List.setIfInBounds_toArray, List.set_cons_succ, List.set_cons_zero]); go_big_quiet_on) | (refine quiet_call ?_; apply Exists.intro; apply Exists.intro; apply Exists.intro; refine ⟨fun W => ?_, fun W hM => ?_, ?_⟩; (go_simp; exact ⟨rfl, rfl⟩); (with_reducible exact HX.out W (HT.out.below hM.below)); (simp only [Act.put, List.setIfInBounds_toArray, List.set_cons_succ, List.set_cons_zero]); go_big_quiet_on) | (refine quiet_call ?_; apply Exists.intro; apply Exists.intro; apply Exists.intro; refine ⟨fun W => ?_, fun W hM => ?_, ?_⟩; (go_simp; exact ⟨rfl, rfl⟩); (with_reducible exact HY.out W (HT.out.below hM.below)); (simp only [Act.put, List.setIfInBounds_toArray, List.set_cons_succ, List.set_cons_zero]); go_big_quiet_on) | (refine quiet_val ⟨_, fun W => cat_op _ _ rfl _ _ rfl rfl (by simp only [List.length_append, List.length_cons, List.length_nil]; omega) W, ?_⟩; (simp only [Act.put, List.setIfInBounds_toArray, List.set_cons_succ, List.set_cons_zero]); go_big_quiet_on) | (refine quiet_val ?_; apply Exists.intro; refine ⟨fun W => ?_, ?_⟩; (go_simp; (try simp only [cx, cy, if_true, Bool.false_eq_true, if_false]); rfl); (simp only [Act.put, List.setIfInBounds_toArray, List.set_cons_succ, List.set_cons_zero]); go_big_quiet_on)))); (with_reducible refine wpQuiet_nil ?_); intro W' hM)
  go_wp2
  go_ret
  exact ⟨ret_bs (l := u ++ 44 :: v) (by simp), hM.below⟩
end Go.Proofs.YtaaphdbaocjecaaDoor

/-
  Words: a list of strings that grows; how it is joined.
-/
namespace Go.Proofs.YtaaphdbaocjecaaDoor
open Go Go.RowKit Go.BigFrame

theorem strs_under : Tryd.prog.underlying 36 = some (.slice 9) := Tryd.underlying36
theorem strs_info : (Tryd.prog.info? 9).map (fun i => (i.size, i.zero)) = some (1, some (.string ⟨#[]⟩)) := by kernel_rfl
theorem strF_one {f : Nat → List UInt8} : ∀ k, k < 1 → ((fun _ => strF f k) k : Value).oneCell' = true := fun _ _ => rfl
/-- Words that a call listed, joined. -/
theorem join_lst {w : World} {K : Blocks} {v : Value} {n : Nat} {f : Nat → List UInt8} {W : World} (h : Lst (Base.of w) K 1 v n (strF f) W) (sep : List UInt8) (m : Nat) (hf : ∀ k, k < n → (f k).length ≤ m) (hm : n * (m + sep.length) ≤ 100000000) (hn : n ≤ 1048576) :
    Calls Tryd.prog 30 #[v, .string (bs sep)] W fun e w' => e = .returned (.string (bs (joinT sep f n))) ∧ Below W.heap.size W w' := by
  rcases h with ⟨rfl, rfl, hM⟩ | ⟨b, c, F, rfl, hb, hc, hF, hM⟩
  · exact joinS_none _ _ _ _
  · exact join_any b n (c * 1) c f F sep m hf hm hn (by omega) (fun k hk => hF k (by omega)) hc W (hM.ats 0 _ _ _ rfl)
end Go.Proofs.YtaaphdbaocjecaaDoor

/-
  PLAIN LAWS: the first k of a list.
-/
namespace Go.Proofs.YtaaphdbaocjecaaDoor
open Go Go.RowKit

theorem run_cutTo {P : Program} {t e : TypeId} (hu : P.underlying t = some (.slice e)) {m : Nat} (hz : (P.info? e).map (·.size) = some m) (b off n c k : Nat) (hk : k ≤ c) (W : World) :
    (Instr.sliceAt t (.slice (some ⟨b, off, none⟩) n c) none (some (.int .i64 k)) none).run P W = .ok (.slice (some ⟨b, off, none⟩) k c) W := by
  obtain ⟨ie, hie, hq⟩ := Option.map_eq_some_iff.1 hz
  have hle : (k : Int) ≤ c := by omega
  have hb1 : (Instr.sliceBound (.int .i64 k) c .sliceAcap).run P W = .ok k W := by
    simp [Instr.sliceBound, asIntOf, hle]
  have hr : (Instr.slice t (.slice (some ⟨b, off, none⟩) n c) none (some (.int .i64 k)) none).run P W = .ok (.slice (some ⟨b, off, none⟩) k c) W := by
    simp [Instr.slice, Instr.sliceBounds, run_underlying hu, sizeOf, typeInfo, hie, hq, hb1, add_any]
  unfold Instr.sliceAt
  simp only [Sem.run_bind, run_underlying hu, Result.andThen_ok, hr]
end Go.Proofs.YtaaphdbaocjecaaDoor

/-
  (impl.Stake).isToldFor, sharesCell, slices.IndexFunc and ContainsFunc over it, impl.ValidStakes, spec.ValidStakes by contracts; laws.FnExactValidStakes returns true.
-/
namespace Go.Proofs.YtaaphdbaocjecaaDoor
open Go Go.RowKit Go.BigFrame

theorem atEq_comm (a b : Nat → Int) : atEq a b = atEq b a := by
  unfold atEq
  rw [Bool.eq_iff_iff]
  simp only [Bool.and_eq_true, beq_iff_eq]
  exact ⟨fun h => ⟨h.1.symm, h.2.symm⟩, fun h => ⟨h.1.symm, h.2.symm⟩⟩

set_option maxRecDepth 100000 in
set_option maxHeartbeats 1000000 in
theorem stakeTold_any (g h : Nat → Int) (w : World) :
    Calls Tryd.prog 34 #[.agg (arr 3 (vStake h)), .agg (arr 122 (pas g))] w fun e w' => e = .returned (.bool (stakeB g h)) ∧ Below w.heap.size w w' := by
  have hM := Mem.nil w
  have e0 : arr 2 (fun j => vStake h (0 + j)) = arr 2 (sp (h 0) (h 1)) := spStake0 h
  have e2 : vStake h 2 = .int .i16 (h 2) := rfl
  have tk_b1 : True := trivial; have tk_b2 : True := trivial; have tk_q1 : True := trivial; have tk_q2 : True := trivial
  cases h1 : isB g (h 0) (h 1)
  · have Hp : Hid (stakeB g h = false) := Lib.hid (by simp [stakeB, h1])
    have H1 := Lib.hid h1
    clear h1
    go_enter Tryd.func34, Tryd.ntmps34
    go_wp2_with (first | (go_at_call 47; (with_reducible refine (hasCell_any g (h 0) (h 1) _).mono ?_); rintro e W' ⟨rfl, hb'⟩; rw [H1.out]; have hM' := hM.call hb'; clear hM hb'; have hM := hM'; clear hM') | (have _t := tk_b1; refine wpList_box rfl _ _ rfl _ _ rfl hM ?_; intro b1 W' hb1 hM'; clear hM tk_b1; have hM := hM'; clear hM') | (have _t := tk_b2; refine wpList_box rfl _ _ rfl _ _ rfl hM ?_; intro b2 W' hb2 hM'; clear hM tk_b2; have hM := hM'; clear hM') | (have _t := tk_q1; (refine wpList_get rfl _ _ rfl _ _ rfl hM 0 rfl (rowTab _ _ rfl) (by omega) ?_); clear tk_q1) | (have _t := tk_q2; (refine wpList_get rfl _ _ rfl _ _ rfl hM 1 rfl (rowTab _ 2 rfl) (by omega) ?_); rw [e0]; clear tk_q2))
    go_ret
    exact ⟨ret_bool Hp.out.symm, hM.below⟩
  rcases (show h 2 < 0 ∨ (0 ≤ h 2 ∧ 200 < h 2) ∨ (0 ≤ h 2 ∧ h 2 ≤ 200) by omega) with r0 | ⟨r0, r1⟩ | ⟨r0, r1⟩
  · have Hp : Hid (stakeB g h = false) := Lib.hid (by unfold stakeB; rw [inB_no (by omega), Bool.and_false])
    have H1 := Lib.hid h1
    have d0 : decide (0 ≤ h 2) = false := decide_eq_false (by omega)
    clear h1
    go_enter Tryd.func34, Tryd.ntmps34
    go_wp2_with (first | (go_at_call 47; (with_reducible refine (hasCell_any g (h 0) (h 1) _).mono ?_); rintro e W' ⟨rfl, hb'⟩; rw [H1.out]; have hM' := hM.call hb'; clear hM hb'; have hM := hM'; clear hM') | (have _t := tk_b1; refine wpList_box rfl _ _ rfl _ _ rfl hM ?_; intro b1 W' hb1 hM'; clear hM tk_b1; have hM := hM'; clear hM') | (have _t := tk_b2; refine wpList_box rfl _ _ rfl _ _ rfl hM ?_; intro b2 W' hb2 hM'; clear hM tk_b2; have hM := hM'; clear hM') | (have _t := tk_q1; (refine wpList_get rfl _ _ rfl _ _ rfl hM 0 rfl (rowTab _ _ rfl) (by omega) ?_); clear tk_q1) | (have _t := tk_q2; (refine wpList_get rfl _ _ rfl _ _ rfl hM 1 rfl (rowTab _ 2 rfl) (by omega) ?_); rw [e0]; clear tk_q2) | (refine wpList_gget1 ?_ _ _ rfl _ _ rfl hM 1 rfl (cellTab _ rfl) (by omega) _ e2 ?_; kernel_rfl))
    go_ret
    exact ⟨ret_bool Hp.out.symm, hM.below⟩
  · have Hp : Hid (stakeB g h = false) := Lib.hid (by unfold stakeB; rw [inB_no (by omega), Bool.and_false])
    have H1 := Lib.hid h1
    have d0 : decide (0 ≤ h 2) = true := decide_eq_true (by omega)
    have d1 : decide (h 2 ≤ 200) = false := decide_eq_false (by omega)
    clear h1
    go_enter Tryd.func34, Tryd.ntmps34
    go_wp2_with (first | (go_at_call 47; (with_reducible refine (hasCell_any g (h 0) (h 1) _).mono ?_); rintro e W' ⟨rfl, hb'⟩; rw [H1.out]; have hM' := hM.call hb'; clear hM hb'; have hM := hM'; clear hM') | (have _t := tk_b1; refine wpList_box rfl _ _ rfl _ _ rfl hM ?_; intro b1 W' hb1 hM'; clear hM tk_b1; have hM := hM'; clear hM') | (have _t := tk_b2; refine wpList_box rfl _ _ rfl _ _ rfl hM ?_; intro b2 W' hb2 hM'; clear hM tk_b2; have hM := hM'; clear hM') | (have _t := tk_q1; (refine wpList_get rfl _ _ rfl _ _ rfl hM 0 rfl (rowTab _ _ rfl) (by omega) ?_); clear tk_q1) | (have _t := tk_q2; (refine wpList_get rfl _ _ rfl _ _ rfl hM 1 rfl (rowTab _ 2 rfl) (by omega) ?_); rw [e0]; clear tk_q2) | (refine wpList_gget1 ?_ _ _ rfl _ _ rfl hM 1 rfl (cellTab _ rfl) (by omega) _ e2 ?_; kernel_rfl))
    go_ret
    exact ⟨ret_bool Hp.out.symm, hM.below⟩
  · have Hp : Hid (stakeB g h = true) := Lib.hid (by unfold stakeB; rw [h1, inB_yes ⟨r0, r1⟩]; rfl)
    have H1 := Lib.hid h1
    have d0 : decide (0 ≤ h 2) = true := decide_eq_true (by omega)
    have d1 : decide (h 2 ≤ 200) = true := decide_eq_true (by omega)
    clear h1
    go_enter Tryd.func34, Tryd.ntmps34
    go_wp2_with (first | (go_at_call 47; (with_reducible refine (hasCell_any g (h 0) (h 1) _).mono ?_); rintro e W' ⟨rfl, hb'⟩; rw [H1.out]; have hM' := hM.call hb'; clear hM hb'; have hM := hM'; clear hM') | (have _t := tk_b1; refine wpList_box rfl _ _ rfl _ _ rfl hM ?_; intro b1 W' hb1 hM'; clear hM tk_b1; have hM := hM'; clear hM') | (have _t := tk_b2; refine wpList_box rfl _ _ rfl _ _ rfl hM ?_; intro b2 W' hb2 hM'; clear hM tk_b2; have hM := hM'; clear hM') | (have _t := tk_q1; (refine wpList_get rfl _ _ rfl _ _ rfl hM 0 rfl (rowTab _ _ rfl) (by omega) ?_); clear tk_q1) | (have _t := tk_q2; (refine wpList_get rfl _ _ rfl _ _ rfl hM 1 rfl (rowTab _ 2 rfl) (by omega) ?_); rw [e0]; clear tk_q2) | (refine wpList_gget1 ?_ _ _ rfl _ _ rfl hM 1 rfl (cellTab _ rfl) (by omega) _ e2 ?_; kernel_rfl))
    go_ret
    exact ⟨ret_bool Hp.out.symm, hM.below⟩

/-- What the search for a stake in the cell of a gives. -/
def IdxOf (hs : Nat → Nat → Int) (a : Nat → Int) (k : Nat) (w : World) (e : Ending) (w' : World) : Prop :=
  (∃ j : Nat, e = .returned (.int .i64 j) ∧ freeTo hs a k = false ∧ Below w.heap.size w w') ∨ (e = .returned (.int .i64 (-1)) ∧ freeTo hs a k = true ∧ Below w.heap.size w w')
theorem lay_stake (z : Nat → Value) (hs : Nat → Nat → Int) (k : Nat) : ∀ j, j < 3 → lay z 0 3 (fun i => sStake hs (k * 3 + i)) j = vStake (hs k) j := fun j hj => by
  simp only [lay, Nat.zero_add, Nat.sub_zero]
  rw [if_pos ⟨by omega, hj⟩]
  exact sStake_row hs k j hj

end Go.Proofs.YtaaphdbaocjecaaDoor

/-
  PLAIN LAW: a list's elements are appended to a list that has none and no room.
-/
namespace Go.Proofs.YtaaphdbaocjecaaDoor
open Go Go.RowKit

/-- A block that a call gave, told by its world. -/
theorem Mem.freshQ {b0 : Base} {L : Blocks} {X X' : World} {b n : Nat} {f : Nat → Value} (hM : Mem b0 L X) (hb : Below X.heap.size X X') (ha : At X' b n f) (hge : X.heap.size ≤ b) : Mem b0 ((b, n, f) :: L) X' := by
  have hM2 := hM.call hb
  have off : ∀ (i : Nat) (p : Nat × Nat × (Nat → Value)), L[i]? = some p → p.1 ≠ b := fun i p h => by
    have := (hM.ats i p.1 p.2.1 p.2.2 h).lt
    omega
  refine ⟨hM2.good, fun i b' n' f' hi => ?_, fun i j x y hi hj hne => ?_⟩
  · match i, hi with
    | 0, hi => simp at hi; obtain ⟨rfl, rfl, rfl⟩ := hi; exact ha
    | i + 1, hi => exact hM2.ats i b' n' f' (by simpa using hi)
  · match i, j, hi, hj with
    | 0, 0, _, _ => exact absurd rfl hne
    | 0, j + 1, hi, hj => simp at hi hj; rw [← hi]; exact fun e => off j y hj e.symm
    | i + 1, 0, hi, hj => simp at hi hj; rw [← hj]; exact off i x hi
    | i + 1, j + 1, hi, hj => exact hM2.apart i j x y (by simpa using hi) (by simpa using hj) (by omega)

section
variable {P : Program} {ops : Array Oper} {rest : List Oper} {o : Oper} {a : Act} {w : Base} {W : World} {Q : Exit → Act → World → Prop} {L : Blocks}
/-- A list's elements, one or more, are appended to a list that has none and no room. -/
theorem wpList_cat0 (hgd : o.guard = none) (s x : Operand) (t : TypeId) (ho : o.op = .call { callee := .builtin .append, args := #[s, x], argTypes := #[t, t] })
    (e : TypeId) (m bs : Nat) (z : Value) (hu : P.underlying t = some (.slice e)) (hz : (P.info? e).map (fun i => (i.size, i.zero, i.bytes)) = some (m, some z, bs)) (hzs : z.cells.size = m) (hbs : bs ≤ 1000)
    (b0 : Nat) (hs : a.eval s = .slice (some ⟨b0, 0, none⟩) 0 0) (bn n cn : Nat) (hx : a.eval x = .slice (some ⟨bn, 0, none⟩) n cn) (hn1 : 1 ≤ n) (hn : n ≤ 1048576)
    (hM : Mem w L W) (i0 : Nat) {N : Nat} {f : Nat → Value} (hi0 : L[i0]? = some (bn, N, f)) (hN : n * m ≤ N)
    (h : ∀ b' c' F' W', w.B ≤ b' → n ≤ c' → (∀ j, j < n * m → F' j = f j) → Mem w ((b', c' * m, F') :: L) W' → wpList P ops Q rest (a.put o.dst (.slice (some ⟨b', 0, none⟩) n c')) W') : wpList P ops Q (o :: rest) a W := by
  obtain ⟨i, hi, hq⟩ := Option.map_eq_some_iff.1 hz
  simp only [Prod.mk.injEq] at hq
  obtain ⟨rfl, q2, rfl⟩ := hq
  refine wpList_plain hgd fun J hJ => ?_
  have hb48 : Builtin.nextslicecap (0 + n) 0 * i.bytes ≤ 281474976710656 := growslice_fits (by omega) (by
    have : (0 + n) * i.bytes ≤ 1048576 * 1000 := Nat.mul_le_mul (by omega) hbs
    omega)
  have hr := run_append_grow (P := P) W t o.type e i z hu hi q2 ⟨b0, 0, none⟩ 0 0 [] (by simp) (fun j v hv => by simp at hv) ⟨bn, 0, none⟩ n cn (arr (n * i.size) f).toList (by simp [arr_size]) ((hM.ats i0 _ _ _ hi0).list hN) (by omega) (by omega) hb48
  have hge := grownCap_ge W (0 + n) 0 e
  rw [Nat.zero_add] at hr hge
  unfold Oper.wp execOp
  simp only [ho, resolve, invoke, builtin, Sem.run_bind, Sem.run_pure, Result.andThen_ok, List.map_toArray, List.map_cons, List.map_nil, hs, hx, hr]
  refine hJ _ _ (h _ _ _ _ hM.size hge (fun j hj => ?_) (hM.drew.allocA e _ (grownCap W n 0 e * i.size) ?_))
  · rw [Array.getElem?_append_left (by simp [arr_size]; omega)]
    simp [arr, hj]
  · simp only [Array.size_append, List.size_toArray, size_zeroCells, hzs, Array.length_toList, arr_size, List.length_nil]
    rw [Nat.zero_add, ← Nat.add_mul]
    congr 1; omega
end
end Go.Proofs.YtaaphdbaocjecaaDoor

/-
  PLAIN: what a call gives that returns a list and a code (or a list, a number and a code): no element, or the first cells of a new block; a block brought to the front.
-/
namespace Go.Proofs.YtaaphdbaocjecaaDoor
open Go Go.RowKit

/-- The list v: n elements of m cells, R, in a new block; or none. -/
def NewL (m n : Nat) (R : Nat → Value) (w : World) (v : Value) (w' : World) : Prop :=
  (n = 0 ∧ (∃ a c, v = .slice a 0 c) ∧ Below w.heap.size w w') ∨ ∃ b c N F, v = .slice (some ⟨b, 0, none⟩) n c ∧ w.heap.size ≤ b ∧ n * m ≤ N ∧ (∀ j, j < n * m → F j = R j) ∧ At w' b N F ∧ Below w.heap.size w w'
def GivesR (m n : Nat) (R : Nat → Value) (cc : Int) (w : World) (e : Ending) (w' : World) : Prop := ∃ v, e = .returned (.tuple #[v, .int .i64 cc]) ∧ NewL m n R w v w'
def GivesR2 (m n : Nat) (R : Nat → Value) (x cc : Int) (w : World) (e : Ending) (w' : World) : Prop := ∃ v, e = .returned (.tuple #[v, .int .i64 x, .int .i64 cc]) ∧ NewL m n R w v w'
theorem NewL.zero {m n : Nat} {R : Nat → Value} {w : World} {v : Value} {w' : World} (h : NewL m n R w v w') (hn : n = 0) : ∃ a c, v = .slice a 0 c ∧ Below w.heap.size w w' := by
  rcases h with ⟨-, ⟨a, c, h⟩, hb⟩ | ⟨b, c, N, F, h, -, -, -, -, hb⟩
  · exact ⟨a, c, h, hb⟩
  · exact ⟨_, c, by rw [h, hn], hb⟩
theorem NewL.some {m n : Nat} {R : Nat → Value} {w : World} {v : Value} {w' : World} (h : NewL m n R w v w') (hn : 0 < n) : ∃ b c N F, v = .slice (some ⟨b, 0, none⟩) n c ∧ w.heap.size ≤ b ∧ n * m ≤ N ∧ (∀ j, j < n * m → F j = R j) ∧ At w' b N F ∧ Below w.heap.size w w' := by
  rcases h with ⟨h, -⟩ | h
  · omega
  · exact h
theorem GivesR.to {m n n' : Nat} {R R' : Nat → Value} {c c' : Int} {w : World} {e : Ending} {w' : World} (h : GivesR m n R c w e w') (hn : n = n') (hR : R = R') (hc : c = c') : GivesR m n' R' c' w e w' := by rw [← hn, ← hR, ← hc]; exact h
/-- No list. -/
theorem GivesR.none {m : Nat} {R : Nat → Value} {n : Nat} {cc cc' : Int} {w w' : World} {a : Option Addr} {c : Nat} (hb : Below w.heap.size w w') (hn : n = 0) (hc : cc' = cc) : GivesR m n R cc w (.returned (.tuple #[.slice a 0 c, .int .i64 cc'])) w' := ⟨_, by rw [hc], .inl ⟨hn, ⟨a, c, rfl⟩, hb⟩⟩
/-- The i-th block is brought to the front. -/
theorem Mem.toFront {w : Base} {W : World} {L : Blocks} (h : Mem w L W) (i : Nat) {p : Nat × Nat × (Nat → Value)} (hi : L[i]? = some p) : Mem w (p :: L.eraseIdx i) W := by
  have key : ∀ j q, (L.eraseIdx i)[j]? = some q → L[if j < i then j else j + 1]? = some q := fun j q hq => by
    rw [List.getElem?_eraseIdx] at hq
    split at hq <;> rename_i hji
    · rw [if_pos hji]; exact hq
    · rw [if_neg hji]; exact hq
  refine ⟨h.good, fun j b n f hj => ?_, fun j k x y hj hk hne => ?_⟩
  · match j, hj with
    | 0, hj => simp at hj; subst hj; exact h.ats i _ _ _ hi
    | j + 1, hj => exact h.ats _ b n f (key j _ (by simpa using hj))
  · match j, k, hj, hk with
    | 0, 0, _, _ => exact absurd rfl hne
    | 0, k + 1, hj, hk =>
      simp at hj; subst hj
      exact h.apart i _ _ y hi (key k _ (by simpa using hk)) (by split <;> omega)
    | j + 1, 0, hj, hk =>
      simp at hk; subst hk
      exact h.apart _ i x _ (key j _ (by simpa using hj)) hi (by split <;> omega)
    | j + 1, k + 1, hj, hk => exact h.apart _ _ x y (key j _ (by simpa using hj)) (key k _ (by simpa using hk)) (by split <;> split <;> omega)
end Go.Proofs.YtaaphdbaocjecaaDoor

/-
  impl.StakesText by contract.
-/
namespace Go.Proofs.YtaaphdbaocjecaaDoor
open Go Go.RowKit Go.BigFrame

set_option maxRecDepth 100000 in
set_option maxHeartbeats 4000000 in
theorem implStakesTextG_any (b n N c : Nat) (hs : Nat → Nat → Int) (G : Nat → Value) (hG : ∀ j, j < n * 3 → G j = sStake hs j) (hN : n * 3 ≤ N) (hn : n ≤ 1048576) (w : World) (hT : TabP w) (hB : At w b N G) :
    Calls Tryd.prog 22 #[.slice (some ⟨b, 0, none⟩) n c] w fun e w' => e = .returned (.string (bs (stakesT n hs))) ∧ Below w.heap.size w w' := by
  have hM : Mem w [(b, N, G)] w := (Mem.nil w).old hB (fun i p h => by simp at h)
  have HT := Lib.hid hT
  have HG := Lib.hid hG
  clear hB hT hG
  by_cases h12 : 12 < n
  · have d1 : decide ((n : Int) > 12) = true := decide_eq_true (by omega)
    have d2 : (12 : Int) < n := by omega
    have Hp := Lib.hid (stakesT_many (hs := hs) h12)
    go_enter Tryd.func22, Tryd.ntmps22
    go_wp2
    go_ret
    exact ⟨ret_bs Hp.out.symm, hM.below⟩
  have d1 : decide ((n : Int) > 12) = false := decide_eq_false (by omega)
  have d2 : ¬ (12 : Int) < n := by omega
  have tk_b4 : True := trivial; have tk_y4 : True := trivial
  go_enter Tryd.func22, Tryd.ntmps22
  go_wp2_with (first | (refine wpList_greatest rfl _ _ rfl rfl rfl ?_) | (have _t := tk_b4; refine wpList_zero rfl _ rfl (zeroTab _ _ _ rfl) hM ?_; intro b4 W' hb4 hM'; clear hM tk_b4; have hM := hM'; clear hM') | (have _t := tk_y4; (refine wpList_lay rfl _ _ _ rfl _ _ rfl _ _ rfl hM 0 rfl (by assumption) (rowTab _ _ rfl) (by omega) ?_ ?_; (first | (intro _ _; rfl) | (intro k _; exact h1 _) | (intro k _; simp only [lay, upd]; (repeat' split) <;> first | exact h1 _ | rfl)); intro W' hM'; clear hM; have hM := hM'; clear hM'; simp only [List.set] at hM); clear tk_y4))
  have hM1 := hM.re 0 rfl (pas gMost) (fun j hj => by simp [lay, hj])
  simp only [List.set_cons_zero] at hM1
  clear hM
  have hM := hM1
  clear hM1
  go_loopw [4, 13] (fun v i wr => ∃ k : Nat, k ≤ n ∧ i = .int .i64 k ∧ Hid (∀ j, j < k → stakeB gMost (hs j) = true) ∧ Lst (Base.of w) [(b4, 122, pas gMost), (b, N, G)] 1 v k (strF (stakeW hs)) wr) (fun _ i _ => n - (intOf i).toNat)
  case atStart => exact ⟨0, by omega, rfl, Lib.hid (fun j hj => absurd hj (by omega)), .inl ⟨rfl, rfl, hM⟩⟩
  case round =>
    clear hM
    obtain ⟨k, hk, rfl, hall, hL⟩ := hrel
    by_cases hlt : k < n
    · have l2 : (k : Int) < n := by omega
      have eG : arr 3 (fun j => G (k * 3 + j)) = arr 3 (vStake (hs k)) := arr_congr fun j hj => by rw [HG.out _ (by omega), sStake_row _ _ _ hj]
      have el : arr 3 (fun j => vStake (hs k) (0 + j)) = arr 3 (vStake (hs k)) := arr_congr fun j hj => by rw [Nat.zero_add]
      have eg : arr 122 (fun j => pas gMost (0 + j)) = arr 122 (pas gMost) := arr_congr fun j hj => by rw [Nat.zero_add]
      cases he : stakeB gMost (hs k)
      · have Hp := Lib.hid (stakesT_no hlt he)
        have He := Lib.hid he
        clear he
        rcases hL with ⟨rfl, hn0, hM⟩ | ⟨bw, cw, F, rfl, hbb, hnc, hFF, hM⟩
        · have Hn0 := Lib.hid hn0
          clear hn0
          have tk_b3 : True := trivial; have tk_r1 : True := trivial; have tk_r2 : True := trivial; have tk_r3 : True := trivial; have tk_r4 : True := trivial
          go_wp2_with (first | (have _t := tk_r1; (refine wpList_get rfl _ _ rfl _ _ rfl hM 1 rfl rowStake (by omega) ?_); rw [eG]; clear tk_r1) | (have _t := tk_b3; refine wpList_zero rfl _ rfl zeroStake hM ?_; intro b3 W' hb3 hM'; clear hM tk_b3; have hM := hM'; clear hM') | (have _t := tk_r2; (refine wpList_lay rfl _ _ _ rfl _ _ rfl _ _ rfl hM 0 rfl (by assumption) rowStake (by omega) (fun _ _ => rfl) ?_; intro W' hM'; clear hM; have hM := hM'; clear hM'; simp only [List.set] at hM; have hM1 := hM.re 0 rfl (vStake (hs k)) (fun j hj => by simp [lay, hj]); simp only [List.set_cons_zero] at hM1; clear hM; have hM := hM1; clear hM1); clear tk_r2) | (have _t := tk_r3; (refine wpList_get rfl _ _ rfl _ _ rfl hM 0 rfl rowStake (by omega) ?_); rw [el]; clear tk_r3) | (have _t := tk_r4; (refine wpList_get rfl _ _ rfl _ _ rfl hM 1 rfl (rowTab _ _ rfl) (by omega) ?_); rw [eg]; clear tk_r4) | (go_at_call 34; refine (stakeTold_any gMost (hs k) _).mono ?_; rintro e W' ⟨rfl, hb'⟩; rw [He.out]; have hM' := hM.call hb'; clear hM hb'; have hM := hM'; clear hM'))
          go_ret
          exact ⟨ret_bs Hp.out.symm, hM.below⟩
        · have tk_b3 : True := trivial; have tk_r1 : True := trivial; have tk_r2 : True := trivial; have tk_r3 : True := trivial; have tk_r4 : True := trivial
          go_wp2_with (first | (have _t := tk_r1; (refine wpList_get rfl _ _ rfl _ _ rfl hM 2 rfl rowStake (by omega) ?_); rw [eG]; clear tk_r1) | (have _t := tk_b3; refine wpList_zero rfl _ rfl zeroStake hM ?_; intro b3 W' hb3 hM'; clear hM tk_b3; have hM := hM'; clear hM') | (have _t := tk_r2; (refine wpList_lay rfl _ _ _ rfl _ _ rfl _ _ rfl hM 0 rfl (by assumption) rowStake (by omega) (fun _ _ => rfl) ?_; intro W' hM'; clear hM; have hM := hM'; clear hM'; simp only [List.set] at hM; have hM1 := hM.re 0 rfl (vStake (hs k)) (fun j hj => by simp [lay, hj]); simp only [List.set_cons_zero] at hM1; clear hM; have hM := hM1; clear hM1); clear tk_r2) | (have _t := tk_r3; (refine wpList_get rfl _ _ rfl _ _ rfl hM 0 rfl rowStake (by omega) ?_); rw [el]; clear tk_r3) | (have _t := tk_r4; (refine wpList_get rfl _ _ rfl _ _ rfl hM 2 rfl (rowTab _ _ rfl) (by omega) ?_); rw [eg]; clear tk_r4) | (go_at_call 34; refine (stakeTold_any gMost (hs k) _).mono ?_; rintro e W' ⟨rfl, hb'⟩; rw [He.out]; have hM' := hM.call hb'; clear hM hb'; have hM := hM'; clear hM'))
          go_ret
          exact ⟨ret_bs Hp.out.symm, hM.below⟩
      obtain ⟨⟨d0, d1⟩, ⟨x0, x1⟩, y0, y1⟩ := stakeB_most he
      have Hs := Lib.hid (show ∀ j, j < k + 1 → stakeB gMost (hs j) = true from fun j hj => by
        by_cases e : j = k
        · rw [e]; exact he
        · exact hall.out j (by omega))
      have He := Lib.hid he
      have lu := numB_len (n := hs k 2) (by omega)
      have lx := spotT_len (x := hs k 0) (y := hs k 1) (by omega) (by omega)
      have HD := Lib.hid (fun (W : World) (h : TabP W) => fmt_any (hs k 2) y0 (by omega) W h)
      have HX := Lib.hid (fun (W : World) (h : TabP W) => spotText_any (hs k 0) (hs k 1) ⟨d0, by omega⟩ ⟨x0, by omega⟩ W h)
      obtain ⟨d, hd⟩ : ∃ d, hs k 2 = d := ⟨_, rfl⟩
      obtain ⟨x, hx⟩ : ∃ x, hs k 0 = x := ⟨_, rfl⟩
      obtain ⟨y, hy⟩ : ∃ y, hs k 1 = y := ⟨_, rfl⟩
      obtain ⟨u, hu⟩ : ∃ u, numB d = u := ⟨_, rfl⟩
      obtain ⟨v, hv⟩ : ∃ v, spotT x y = v := ⟨_, rfl⟩
      have e0 : vStake (hs k) 2 = .int .i16 d := by rw [← hd]; rfl
      have e1 : arr 2 (fun j => vStake (hs k) (0 + j)) = arr 2 (sp x y) := by rw [← hx, ← hy]; exact spStake0 (hs k)
      have HW := Lib.hid (show ∀ j, j < 1 → Value.string (bs (v ++ [47] ++ u)) = strF (stakeW hs) (k * 1 + j) from fun j hj => by
        obtain rfl : j = 0 := by omega
        unfold strF stakeW
        rw [Nat.mul_one, Nat.add_zero, hd, hx, hy, hu, hv])
      rw [hd] at HD lu y0 y1
      rw [hx, hy] at HX lx
      rw [hu] at HD lu
      rw [hv] at HX lx
      have hle : k ≤ 1048576 := by omega
      have cd : IntKind.i64.wrap d = d := IntWalk.i64_in _ (by omega)
      clear hd hx hy hu hv he
      rcases hL with ⟨rfl, hn0, hM⟩ | ⟨bw, cw, F, rfl, hbb, hnc, hFF, hM⟩
      · have Hn0 := Lib.hid hn0
        have Hq : Hid (∀ j, j < 1 → (fun _ => Value.string (bs (v ++ [47] ++ u))) j = strF (stakeW hs) j) := Lib.hid (fun j hj => by have := HW.out j hj; rwa [hn0, Nat.zero_mul, Nat.zero_add] at this)
        clear hn0
        have tk_b3 : True := trivial; have tk_r1 : True := trivial; have tk_r2 : True := trivial; have tk_r3 : True := trivial; have tk_r4 : True := trivial
        go_wp2_with (first | (have _t := tk_r1; (refine wpList_get rfl _ _ rfl _ _ rfl hM 1 rfl rowStake (by omega) ?_); rw [eG]; clear tk_r1) | (have _t := tk_b3; refine wpList_zero rfl _ rfl zeroStake hM ?_; intro b3 W' hb3 hM'; clear hM tk_b3; have hM := hM'; clear hM') | (have _t := tk_r2; (refine wpList_lay rfl _ _ _ rfl _ _ rfl _ _ rfl hM 0 rfl (by assumption) rowStake (by omega) (fun _ _ => rfl) ?_; intro W' hM'; clear hM; have hM := hM'; clear hM'; simp only [List.set] at hM; have hM1 := hM.re 0 rfl (vStake (hs k)) (fun j hj => by simp [lay, hj]); simp only [List.set_cons_zero] at hM1; clear hM; have hM := hM1; clear hM1); clear tk_r2) | (have _t := tk_r3; (refine wpList_get rfl _ _ rfl _ _ rfl hM 0 rfl rowStake (by omega) ?_); rw [el]; clear tk_r3) | (have _t := tk_r4; (refine wpList_get rfl _ _ rfl _ _ rfl hM 1 rfl (rowTab _ _ rfl) (by omega) ?_); rw [eg]; clear tk_r4) | (go_at_call 34; refine (stakeTold_any gMost (hs k) _).mono ?_; rintro e W' ⟨rfl, hb'⟩; rw [He.out]; have hM' := hM.call hb'; clear hM hb'; have hM := hM'; clear hM'))
        ((try simp only [Act.put, List.setIfInBounds_toArray, List.set_cons_succ, List.set_cons_zero]); refine region_reads [0, 1, 2, 3, 4, 5, 6, 7, 8, 9] #[true, true, true, true, true, true, true, true, true, true, false, false, false] 3 (by kernel_rfl) (by kernel_rfl) (by kernel_rfl) hM ?_; clear hM; (repeat (refine qs_plain rfl rfl ?_; first | (refine b_get1 _ _ rfl _ _ rfl 0 rfl (cellTab _ rfl) (by omega) _ e0 ?_; (simp only [Act.put, List.setIfInBounds_toArray, List.set_cons_succ, List.set_cons_zero])) | (refine b_get _ _ rfl _ _ rfl 0 rfl (rowTab _ 2 rfl) (by omega) ?_; rw [e1]; (simp only [Act.put, List.setIfInBounds_toArray, List.set_cons_succ, List.set_cons_zero])) | (refine b_call ?_; apply Exists.intro; apply Exists.intro; apply Exists.intro; refine ⟨fun W => ?_, fun W hM => ?_, ?_⟩; (go_simp; exact ⟨rfl, rfl⟩); (with_reducible exact HD.out W (HT.out.below hM.below)); (simp only [Act.put, List.setIfInBounds_toArray, List.set_cons_succ, List.set_cons_zero])) | (refine b_call ?_; apply Exists.intro; apply Exists.intro; apply Exists.intro; refine ⟨fun W => ?_, fun W hM => ?_, ?_⟩; (go_simp; exact ⟨rfl, rfl⟩); (with_reducible exact HX.out W (HT.out.below hM.below)); (simp only [Act.put, List.setIfInBounds_toArray, List.set_cons_succ, List.set_cons_zero])) | (refine b_val ⟨_, fun W => cat_op _ _ rfl _ _ rfl rfl (by simp only [List.length_append, List.length_cons, List.length_nil]; omega) W, ?_⟩; (simp only [Act.put, List.setIfInBounds_toArray, List.set_cons_succ, List.set_cons_zero])) | (refine b_val ?_; apply Exists.intro; refine ⟨fun W => ?_, ?_⟩; (go_simp; (try simp only [cd, if_true]); rfl); (simp only [Act.put, List.setIfInBounds_toArray, List.set_cons_succ, List.set_cons_zero])))); (with_reducible refine qs_nil ?_))
        ((refine mix_one (i := 10) (by kernel_rfl) rfl (by kernel_rfl) rfl ?_); (refine step_lit1 _ _ _ rfl (.string (bs (v ++ [47] ++ u))) (by first | rfl | simp) rfl _ strs_under strs_info ?_; intro l1 hl1; (simp only [Act.put, List.setIfInBounds_toArray, List.set_cons_succ, List.set_cons_zero])); (refine mix_one (i := 11) (by kernel_rfl) rfl (by kernel_rfl) rfl ?_); (refine step_push0 _ _ _ rfl _ 1 _ _ strs_under infoStringS rfl (by omega) rfl _ _ rfl (strF (stakeW hs)) Hq.out ?_; intro bL cL FL hbL hcL hFL; (simp only [Act.put, List.setIfInBounds_toArray, List.set_cons_succ, List.set_cons_zero])); (refine mix_one (i := 12) (by kernel_rfl) rfl (by kernel_rfl) rfl ?_); (refine step_val ?_; apply Exists.intro; refine ⟨fun W => ?_, ?_⟩; (go_simp; rfl); (simp only [Act.put, List.setIfInBounds_toArray, List.set_cons_succ, List.set_cons_zero])); (refine mix_end (by kernel_rfl) ?_; intro W' hM; simp only [List.cons_append, List.nil_append] at hM))
        go_wp2
        go_roundw
        case rel => exact ⟨k + 1, by omega, by go_num, Hs, by
          rw [Hn0.out]
          exact .inr ⟨bL, cL, FL, rfl, hbL, hcL, hFL, hM.skip⟩⟩
        case measure => simp [intOf]; omega
      · have Hf := Lib.hid hFF
        clear hFF
        have tk_b3 : True := trivial; have tk_r1 : True := trivial; have tk_r2 : True := trivial; have tk_r3 : True := trivial; have tk_r4 : True := trivial
        go_wp2_with (first | (have _t := tk_r1; (refine wpList_get rfl _ _ rfl _ _ rfl hM 2 rfl rowStake (by omega) ?_); rw [eG]; clear tk_r1) | (have _t := tk_b3; refine wpList_zero rfl _ rfl zeroStake hM ?_; intro b3 W' hb3 hM'; clear hM tk_b3; have hM := hM'; clear hM') | (have _t := tk_r2; (refine wpList_lay rfl _ _ _ rfl _ _ rfl _ _ rfl hM 0 rfl (by assumption) rowStake (by omega) (fun _ _ => rfl) ?_; intro W' hM'; clear hM; have hM := hM'; clear hM'; simp only [List.set] at hM; have hM1 := hM.re 0 rfl (vStake (hs k)) (fun j hj => by simp [lay, hj]); simp only [List.set_cons_zero] at hM1; clear hM; have hM := hM1; clear hM1); clear tk_r2) | (have _t := tk_r3; (refine wpList_get rfl _ _ rfl _ _ rfl hM 0 rfl rowStake (by omega) ?_); rw [el]; clear tk_r3) | (have _t := tk_r4; (refine wpList_get rfl _ _ rfl _ _ rfl hM 2 rfl (rowTab _ _ rfl) (by omega) ?_); rw [eg]; clear tk_r4) | (go_at_call 34; refine (stakeTold_any gMost (hs k) _).mono ?_; rintro e W' ⟨rfl, hb'⟩; rw [He.out]; have hM' := hM.call hb'; clear hM hb'; have hM := hM'; clear hM'))
        have hM1 := hM.toFront 1 rfl
        simp only [List.eraseIdx_cons_succ, List.eraseIdx_cons_zero] at hM1
        clear hM
        have hM := hM1
        clear hM1
        ((try simp only [Act.put, List.setIfInBounds_toArray, List.set_cons_succ, List.set_cons_zero]); refine region_readsX [0, 1, 2, 3, 4, 5, 6, 7, 8, 9] #[true, true, true, true, true, true, true, true, true, true, false, false, false] 3 [(bw, cw * 1, F)] (by kernel_rfl) (by kernel_rfl) (by kernel_rfl) hM ?_; clear hM; (repeat (refine qs_plain rfl rfl ?_; first | (refine b_get1 _ _ rfl _ _ rfl 0 rfl (cellTab _ rfl) (by omega) _ e0 ?_; (simp only [Act.put, List.setIfInBounds_toArray, List.set_cons_succ, List.set_cons_zero])) | (refine b_get _ _ rfl _ _ rfl 0 rfl (rowTab _ 2 rfl) (by omega) ?_; rw [e1]; (simp only [Act.put, List.setIfInBounds_toArray, List.set_cons_succ, List.set_cons_zero])) | (refine b_call ?_; apply Exists.intro; apply Exists.intro; apply Exists.intro; refine ⟨fun W => ?_, fun W hM => ?_, ?_⟩; (go_simp; exact ⟨rfl, rfl⟩); (with_reducible exact HD.out W (HT.out.below hM.below)); (simp only [Act.put, List.setIfInBounds_toArray, List.set_cons_succ, List.set_cons_zero])) | (refine b_call ?_; apply Exists.intro; apply Exists.intro; apply Exists.intro; refine ⟨fun W => ?_, fun W hM => ?_, ?_⟩; (go_simp; exact ⟨rfl, rfl⟩); (with_reducible exact HX.out W (HT.out.below hM.below)); (simp only [Act.put, List.setIfInBounds_toArray, List.set_cons_succ, List.set_cons_zero])) | (refine b_val ⟨_, fun W => cat_op _ _ rfl _ _ rfl rfl (by simp only [List.length_append, List.length_cons, List.length_nil]; omega) W, ?_⟩; (simp only [Act.put, List.setIfInBounds_toArray, List.set_cons_succ, List.set_cons_zero])) | (refine b_val ?_; apply Exists.intro; refine ⟨fun W => ?_, ?_⟩; (go_simp; (try simp only [cd, if_true]); rfl); (simp only [Act.put, List.setIfInBounds_toArray, List.set_cons_succ, List.set_cons_zero])))); (with_reducible refine qs_nil ?_))
        ((refine mix_one (i := 10) (by kernel_rfl) rfl (by kernel_rfl) rfl ?_); (refine step_lit1 _ _ _ rfl (.string (bs (v ++ [47] ++ u))) (by first | rfl | simp) rfl _ strs_under strs_info ?_; intro l1 hl1; (simp only [Act.put, List.setIfInBounds_toArray, List.set_cons_succ, List.set_cons_zero])); (refine mix_one (i := 11) (by kernel_rfl) rfl (by kernel_rfl) rfl ?_); (refine step_push1 _ _ _ rfl _ 1 _ _ strs_under infoStringS rfl (by omega) _ _ _ _ rfl hbb hnc hle _ _ rfl (fun _ _ => rfl) (strF (stakeW hs)) Hf.out HW.out ?_; intro bL cL FL hbL hcL hFL; (simp only [Act.put, List.setIfInBounds_toArray, List.set_cons_succ, List.set_cons_zero])); (refine mix_one (i := 12) (by kernel_rfl) rfl (by kernel_rfl) rfl ?_); (refine step_val ?_; apply Exists.intro; refine ⟨fun W => ?_, ?_⟩; (go_simp; rfl); (simp only [Act.put, List.setIfInBounds_toArray, List.set_cons_succ, List.set_cons_zero])); (refine mix_end (by kernel_rfl) ?_; intro W' hM; simp only [List.cons_append, List.nil_append] at hM))
        go_wp2
        go_roundw
        case rel => exact ⟨k + 1, by omega, by go_num, Hs, .inr ⟨bL, cL, FL, rfl, hbL, hcL, hFL, hM.skip⟩⟩
        case measure => simp [intOf]; omega
    · obtain rfl : k = n := by omega
      have HJ := Lib.hid (join_lst hL [32] 32 (fun j hj => stakeW_len (hall.out j hj)) (by simp only [List.length_cons, List.length_nil]; omega) (by omega))
      have Hp := Lib.hid (stakesT_yes (n := k) (by omega) hall.out)
      have hM := hL.mem
      go_wp2_with (first | (go_at_call 30; refine (HJ.out).mono ?_; rintro e W' ⟨rfl, hb'⟩; have hM' := hM.call hb'; clear hM hb'; have hM := hM'; clear hM'))
      go_ret
      exact ⟨ret_bs Hp.out.symm, hM.below⟩
theorem implStakesText_any (b n c : Nat) (hs : Nat → Nat → Int) (_hF : ∀ i, i < n → FitsStake (hs i)) (hn : n ≤ 1048576) (w : World) (hT : TabP w) (hB : At w b (n * 3) (sStake hs)) :
    Calls Tryd.prog 22 #[.slice (some ⟨b, 0, none⟩) n c] w fun e w' => e = .returned (.string (bs (stakesT n hs))) ∧ Below w.heap.size w w' :=
  implStakesTextG_any b n (n * 3) c hs (sStake hs) (fun _ _ => rfl) (Nat.le_refl _) hn w hT hB
end Go.Proofs.YtaaphdbaocjecaaDoor

