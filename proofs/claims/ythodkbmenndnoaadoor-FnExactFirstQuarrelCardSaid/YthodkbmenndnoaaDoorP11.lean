/-
  Several texts in one: NeedsM, StillOld, NeedsS, ChkC, NeedsI, AsNo.
-/
import Derived.Test.YthodkbmenndnoaaDoorP7
import Derived.Test.YthodkbmenndnoaaDoorP5
import Derived.Test.YthodkbmenndnoaaDoorP3
import Derived.StillTail
import Derived.Test.YthodkbmenndnoaaDoorP2
import Derived.Test.YthodkbmenndnoaaDoorP10
/-
  PLAIN: the number of groups, and what they need.
-/
namespace Go.Proofs.YthodkbmenndnoaaDoor
open Go Go.RowKit

/-- How many groups the first goats' numbers ask for. -/
def cntG (ys : Nat → Int) : Nat → Nat
  | 0 => 0
  | j + 1 => Nat.max (cntG ys j) ((ys j).toNat + 1)
/-- What the first goats in a group need. -/
def needG (d : Hd) (ys : Nat → Int) (g : Nat) : Nat → Int
  | 0 => 0
  | j + 1 => if (ys j).toNat = g then needG d ys g j + d.es j else needG d ys g j
def needF (d : Hd) (ys : Nat → Int) (j : Nat) : Nat → Int := fun g => needG d ys g j
def needV (d : Hd) (ys : Nat → Int) (j : Nat) : Nat → Value := vInt64S (needF d ys j)
theorem cntG_le {ys : Nat → Int} {n : Nat} (h : ∀ j, j < n → 0 ≤ ys j ∧ ys j ≤ 13) : ∀ j, j ≤ n → cntG ys j ≤ 14
  | 0, _ => by simp [cntG]
  | j + 1, hj => by
    have := cntG_le h j (by omega)
    have := h j (by omega)
    simp only [cntG]
    have : Nat.max (cntG ys j) ((ys j).toNat + 1) ≤ 14 := Nat.max_le.2 ⟨by omega, by omega⟩
    exact this
theorem cntG_mono {ys : Nat → Int} {j : Nat} : ∀ {n : Nat}, j < n → (ys j).toNat < cntG ys n
  | 0, h => by omega
  | n + 1, h => by
    simp only [cntG]
    have h1 := Nat.le_max_left (cntG ys n) ((ys n).toNat + 1)
    have h2 := Nat.le_max_right (cntG ys n) ((ys n).toNat + 1)
    have e : Nat.max (cntG ys n) ((ys n).toNat + 1) = max (cntG ys n) ((ys n).toNat + 1) := rfl
    rw [e]
    rcases Nat.lt_succ_iff_lt_or_eq.1 h with h' | rfl
    · have := cntG_mono (ys := ys) h'
      omega
    · omega
theorem needG_le {d : Hd} {ys : Nat → Int} {n : Nat} (h : ∀ j, j < n → -32768 ≤ d.es j ∧ d.es j ≤ 32767) (g : Nat) : ∀ j, j ≤ n → -(32768 * (j : Int)) ≤ needG d ys g j ∧ needG d ys g j ≤ 32768 * (j : Int)
  | 0, _ => by simp [needG]
  | j + 1, hj => by
    have h1 := needG_le (ys := ys) h g j (by omega)
    have h2 := h j (by omega)
    simp only [needG]
    split <;> push_cast <;> omega
theorem needV_step {d : Hd} {ys : Nat → Int} {j y : Nat} {e : Int} (hy : ys j = y) (he : d.es j = e) : ∀ g, upd (needV d ys j) y (.int .i64 (needG d ys y j + e)) g = needV d ys (j + 1) g := by
  intro g
  unfold needV needF vInt64S upd
  simp only [needG, hy, he, Int.toNat_natCast]
  by_cases hg : g = y
  · subst hg; simp
  · rw [if_neg hg, if_neg (fun h => hg h.symm)]
/-- How many groups are told of, and the code. -/
def needL (d : Hd) (n : Nat) (ys : Nat → Int) : Nat := if herdB d && numsB d n ys then cntG ys n else 0
def needC (d : Hd) (n : Nat) (ys : Nat → Int) : Int := if herdB d then (if numsB d n ys then 0 else 4) else 1
end Go.Proofs.YthodkbmenndnoaaDoor

/-
  PLAIN LAW: in a still head, a load of a cell that the memory holds.
-/
namespace Go.Proofs.YthodkbmenndnoaaDoor
open Go Go.RowKit
section
variable {P : Program} {o : Oper} {a : Act} {W : World} {J : Act → Prop}
theorem still_old (ty : TypeId) (x : Operand) (ho : o.op = .load ty x) (b off : Nat) (hx : a.eval x = .pointer (some ⟨b, off, none⟩)) (hT : CellT P ty) (v : Value) (hc : W.cell? ⟨b, off, none⟩ = some v)
    (h : J (a.put o.dst v)) : o.still P a W J := by
  have hl := run_load_cell (P := P) hT hc
  unfold Oper.still execOp
  simp only [ho, hx, Instr.loadAt, Instr.sureAddr, Sem.run_bind, Sem.run_pure, Result.andThen_ok, hl]
  exact ⟨rfl, h⟩
end
theorem region_tail_mem {P : Program} {Q : Exit → Act → World → Prop} {a : Act} {W : World} {id : Nat} {r : List Oper} (m : Nat) (hm : P.follows .mixedOrders = true) (hB : Region.lexTailB .any r.toArray m = true)
    (h : wpStill P r.toArray W.drew (fun a' => wpList P r.toArray Q (r.drop m) a' W.drew) (r.take m) a) : (Code.region id r.toArray true).wp P Q a W :=
  wp_region_still_tail m hm hB h
end Go.Proofs.YthodkbmenndnoaaDoor

/-
  spec.l06Needs by contract.
-/
namespace Go.Proofs.YthodkbmenndnoaaDoor
open Go Go.RowKit Go.BigFrame

theorem l00Max_any (a b : Int) (w : World) : Calls Tryd.prog 118 #[.int .i64 a, .int .i64 b] w fun e w' => e = .returned (.int .i64 (max a b)) ∧ Below w.heap.size w w' := by
  have hM := Mem.nil w
  by_cases h : a > b
  · have z : decide (a > b) = true := decide_eq_true h
    have z' : decide (b < a) = true := z
    have e : max a b = a := by omega
    rw [e]
    go_enter Tryd.func118, Tryd.ntmps118
    go_wp2
    go_ret
    exact ⟨rfl, hM.below⟩
  · have z : decide (a > b) = false := decide_eq_false h
    have z' : decide (b < a) = false := z
    have e : max a b = b := by omega
    rw [e]
    go_enter Tryd.func118, Tryd.ntmps118
    go_wp2
    go_ret
    exact ⟨rfl, hM.below⟩

set_option maxRecDepth 100000 in
set_option maxHeartbeats 4000000 in
theorem l06Needs_any (d : Hd) (bh b1 b2 b3 : Nat) (hd : FitsH d) (h14 : d.n1 ≤ 14) (h2 : d.n2 = d.n1) (ga : Option Addr) (gc : Nat) (ys : Nat → Int) (hys : ∀ j, j < d.n1 → 0 ≤ ys j ∧ ys j ≤ 13) (w : World) (hM0 : Mem w ((bh, 3, hdV d b1 b2 b3) :: hdB d b1 b2 b3) w) (hG : IntsAt w ga d.n1 ys) :
    Calls Tryd.prog 95 #[.pointer (some ⟨bh, 0, none⟩), .slice ga d.n1 gc] w fun e w' => ∃ b, e = .returned (.slice (some ⟨b, 0, none⟩) (cntG ys d.n1) (cntG ys d.n1)) ∧ w.heap.size ≤ b ∧ Mem w [(b, cntG ys d.n1, needV d ys d.n1)] w' := by
  have hM := Mem.nil w
  have HG := Lib.hid hG
  have a2 : hdV d b1 b2 b3 1 = .slice (some ⟨b2, 0, none⟩) d.n2 d.n2 := rfl
  have HH := Lib.hid (hM0.ats 0 _ _ _ rfl)
  have H2 := Lib.hid (hM0.ats 2 _ _ _ rfl)
  obtain ⟨n, hn⟩ : ∃ n, d.n1 = n := ⟨_, rfl⟩
  have HES := Lib.hid (show ∀ j, j < n → -32768 ≤ d.es j ∧ d.es j ≤ 32767 from fun j hj => hd.e j (by omega))
  rw [h2] at a2 H2
  rw [hn] at HG h14 hys a2 H2 ⊢
  have HYS := Lib.hid hys
  have hG14 := cntG_le hys n (Nat.le_refl _)
  have HCG := Lib.hid (show ∀ j, j < n → (ys j).toNat < cntG ys n from fun j hj => cntG_mono hj)
  obtain ⟨G, hGG⟩ : ∃ G, cntG ys n = G := ⟨_, rfl⟩
  rw [hGG] at hG14 HCG ⊢
  have HGG := Lib.hid hGG
  clear hM0 hG h2 hn hys hGG
  go_enter Tryd.func95, Tryd.ntmps95
  go_wp2
  go_loopw [5, 6] (fun m i wr => ∃ (k : Nat) (q : Int), k ≤ n ∧ i = .int .i64 k ∧ m = .int .i64 q ∧ Hid (q = (cntG ys k : Int) - 1) ∧ Mem w [] wr) (fun _ i _ => n - (intOf i).toNat)
  case atStart => exact ⟨0, -1, by omega, rfl, rfl, Lib.hid (by simp [cntG]), hM⟩
  case round =>
    clear hM
    obtain ⟨k, q, hk, rfl, rfl, hq, hM⟩ := hrel
    by_cases hlt : k < n
    · have l2 : (k : Int) < n := by omega
      obtain ⟨bg, Ng, Fg, rfl, hNg, hFg, hAg⟩ := HG.out.at hlt
      have HAg := Lib.hid hAg
      obtain ⟨y, hy⟩ : ∃ y, ys k = y := ⟨_, rfl⟩
      have HY := Lib.hid hy
      rw [hy] at hFg
      clear hAg hy
      go_wp2_with (first | (refine wpList_getAt1 rfl _ _ rfl _ _ rfl (HAg.out.below hM.below HAg.out.lt) (cellTab _ rfl) (by omega) _ hFg ?_) | (go_at_call 118; refine (l00Max_any q y _).mono ?_; rintro e W' ⟨rfl, hb'⟩; have hM' := hM.call hb'; clear hM hb'; have hM := hM'; clear hM'))
      go_roundw
      case rel => exact ⟨k + 1, max q y, by omega, by go_num, rfl, Lib.hid (by
        have h1 := hq.out
        have h2 := HY.out
        have h3 := HYS.out k hlt
        have e : cntG ys (k + 1) = max (cntG ys k) ((ys k).toNat + 1) := rfl
        rw [e]
        omega), hM⟩
      case measure => simp [intOf]; omega
    · obtain rfl : k = n := by omega
      have hq2 := hq.out
      rw [HGG.out] at hq2
      subst hq2
      have cw : IntKind.i64.wrap ((G : Int) - 1 + 1) = (G : Int) := by rw [show (G : Int) - 1 + 1 = G by omega]; exact IntWalk.i64_in _ (by omega)
      have tk_m1 : True := trivial
      go_wp2_with (first | (have _t := tk_m1; refine wpList_make1 rfl _ _ _ _ rfl G rfl rfl (.int .i64 0) 8 rfl Tryd.underlying33 infoInt64S (by omega) (by omega) hM ?_; intro b W' hb hM'; clear hM tk_m1; have hM := hM'; clear hM'))
      have HF0 : ∀ g, g < G → (fun _ : Nat => Value.int .i64 0) g = needV d ys 0 g := fun g _ => rfl
      have hM2 := hM.re 0 rfl (needV d ys 0) HF0
      simp only [List.set_cons_zero] at hM2
      clear hM HF0
      go_loopw [8] (fun v wr => ∃ j : Nat, j ≤ k ∧ v = .int .i64 j ∧ Mem w [(b, G, needV d ys j)] wr) (fun v _ => k - (intOf v).toNat)
      case atStart => exact ⟨0, by omega, rfl, hM2⟩
      case round =>
        clear hM2
        obtain ⟨j, hj, rfl, hM⟩ := hrel
        by_cases hlt : j < k
        · have l2 : (j : Int) < k := by omega
          obtain ⟨bg, Ng, Fg, rfl, hNg, hFg, hAg⟩ := HG.out.at hlt
          obtain ⟨y, hy⟩ : ∃ y : Nat, ys j = y := ⟨(ys j).toNat, by have := HYS.out j hlt; omega⟩
          have hyG : y < G := by have := HCG.out j hlt; omega
          have lyG : (y : Int) < G := by omega
          obtain ⟨e, he⟩ : ∃ e, d.es j = e := ⟨_, rfl⟩
          obtain ⟨v, hv⟩ : ∃ v, needG d ys y j = v := ⟨_, rfl⟩
          have hvb := needG_le HES.out (ys := ys) y j (by omega)
          have heb := HES.out j hlt
          rw [hv] at hvb
          rw [he] at heb
          have cw : IntKind.i64.wrap (v + e) = v + e := IntWalk.i64_in _ (by omega)
          have ew : IntKind.i64.wrap e = e := IntWalk.i64_in _ (by omega)
          rw [hy] at hFg
          have hcell : needV d ys j y = .int .i64 v := congrArg (Value.int .i64) hv
          have HST := Lib.hid (show ∀ g, upd (needV d ys j) y (.int .i64 (v + e)) g = needV d ys (j + 1) g from by rw [← hv]; exact needV_step hy he)
          have hve : vInt16S d.es j = .int .i16 e := by unfold vInt16S; rw [he]
          have HAg := Lib.hid hAg
          clear hAg hy hv he hvb heb
          go_wp2
          ((try simp only [Act.put, List.setIfInBounds_toArray, List.set_cons_succ, List.set_cons_zero]); refine region_tail_mem (m := 17) (by kernel_rfl) (by kernel_rfl) ?_; (have hM' := hM.drew); clear hM; have hM := hM'; clear hM'; simp only [List.take_succ_cons, List.take_zero, List.drop_succ_cons, List.drop_zero]; (repeat (refine wps_plain rfl ?_; (first | (refine still_old _ _ rfl _ _ rfl (cellTab _ rfl) (.int .i64 (y : Int)) (((HAg.out.below hM.below HAg.out.lt).cell (by omega)).trans (congrArg some hFg)) ?_) | (refine still_get1 hM _ _ rfl _ _ rfl 0 rfl (cellTab _ rfl) (by omega) _ (hcell) ?_) | (refine still_old _ _ rfl _ _ rfl (cellTab _ rfl) (.slice (some ⟨b2, 0, none⟩) k k) (((HH.out.below hM.below HH.out.lt).cell (by omega)).trans (congrArg some a2)) ?_) | (refine still_old _ _ rfl _ _ rfl (cellTab _ rfl) (.int .i16 e) (((H2.out.below hM.below H2.out.lt).cell (by omega)).trans (congrArg some hve)) ?_) | (refine still_val ?_; apply Exists.intro; refine ⟨fun W => ?_, ?_⟩; (go_simp; (try simp only [cw, ew, if_true]); rfl))); (simp only [Act.put, List.setIfInBounds_toArray, List.set_cons_succ, List.set_cons_zero]))); unfold wpStill)
          go_wp2_with (first | (refine wpList_set1 rfl _ _ _ rfl _ _ rfl (.int .i64 (v + e)) rfl rfl hM 0 rfl hb (cellTab _ rfl) hyG ?_; intro W' hM'; have hM2 := hM'.re 0 rfl (needV d ys (j + 1)) (fun g _ => HST.out g); simp only [List.set_cons_zero] at hM2; clear hM hM'; have hM := hM2; clear hM2))
          go_roundw
          case rel => exact ⟨j + 1, by omega, by go_num, hM⟩
          case measure => simp [intOf]; omega
        · obtain rfl : j = k := by omega
          go_wp2
          go_ret
          exact ⟨b, rfl, hb, hM⟩
end Go.Proofs.YthodkbmenndnoaaDoor

/-
  CheckGroups by contracts, both sides.
-/
namespace Go.Proofs.YthodkbmenndnoaaDoor
open Go Go.RowKit Go.BigFrame

/-- Are groups peaceful? -/
def chkB (d : Hd) (n : Nat) (ys : Nat → Int) : Bool := herdB d && (numsB d n ys && (quarI d ys n n).isNone)
def chkC (d : Hd) : Int := askC d 0 (fun _ => 0)
theorem vInt64S_ints {W : World} {b n : Nat} {ys : Nat → Int} (h : At W b n (vInt64S ys)) : IntsAt W (some ⟨b, 0, none⟩) n ys :=
  .inr ⟨b, n, _, rfl, Nat.le_refl _, fun _ _ => rfl, h⟩
theorem chk_0 {d : Hd} (h : herdB d = true) : chkC d = 0 := by unfold chkC askC; rw [h]; rfl
theorem chk_1 {d : Hd} (h : herdB d = false) : chkC d = 1 := by unfold chkC askC; rw [h]; rfl

set_option maxRecDepth 100000 in
set_option maxHeartbeats 4000000 in
theorem specCheckGroups_any (d : Hd) (b1 b2 b3 : Nat) (hd : FitsH d) (bg n : Nat) (ys : Nat → Int) (hn : n ≤ 1048576) (w : World) (hM0 : Mem w (hdB d b1 b2 b3) w) (hG : At w bg n (vInt64S ys)) :
    Calls Tryd.prog 38 #[.agg (arr 3 (hdV d b1 b2 b3)), .slice (some ⟨bg, 0, none⟩) n n] w fun e w' => e = .returned (boolCode (chkB d n ys) (chkC d)) ∧ Below w.heap.size w w' := by
  have hM : Mem w (hdB d b1 b2 b3 ++ []) w := by rw [List.append_nil]; exact hM0
  have HG := Lib.hid (vInt64S_ints hG)
  have HOK := Lib.hid (fun (bh : Nat) (W : World) hB => l06Ok_any d bh b1 b2 b3 hd W hB)
  have a1 : hdV d b1 b2 b3 0 = .slice (some ⟨b1, 0, none⟩) d.n1 d.n1 := rfl
  have HNU := Lib.hid (fun (bh : Nat) (W : World) hH hI => l06Numbers_any d bh (hdV d b1 b2 b3) b1 d.n1 a1 (some ⟨bg, 0, none⟩) n n ys hn W hH hI)
  clear hM0 hG
  cases hv : herdB d
  · have HV := Lib.hid hv
    have HR := Lib.hid (show boolCode (chkB d n ys) (chkC d) = .tuple #[.bool false, .int .i64 1] from by unfold chkB; rw [chk_1 hv, hv]; rfl)
    clear hv
    have tk_x1 : True := trivial
    go_enter Tryd.func38, Tryd.ntmps38
    go_wp2_with (first | (have _t := tk_x1; refine wpList_box rfl _ _ rfl _ _ rfl hM ?_; intro x1 W' hx1 hM'; clear hM tk_x1; have hM := hM'; clear hM') | (go_at_call 51; refine (HOK.out x1 _ (hM.boxed)).mono ?_; rintro e W' ⟨rfl, hb'⟩; rw [HV.out]; have hM' := hM.call hb'; clear hM hb'; have hM := hM'; clear hM'))
    go_ret2
    rw [HR.out]
    exact ⟨rfl, hM.below⟩
  have HV := Lib.hid hv
  have hOk := herdB_iff.1 hv
  cases hb : numsB d n ys
  · have HB := Lib.hid hb
    have HR := Lib.hid (show boolCode (chkB d n ys) (chkC d) = .tuple #[.bool false, .int .i64 0] from by unfold chkB; rw [chk_0 hv, hb, hv]; rfl)
    clear hv hb
    have tk_x1 : True := trivial
    go_enter Tryd.func38, Tryd.ntmps38
    go_wp2_with (first | (have _t := tk_x1; refine wpList_box rfl _ _ rfl _ _ rfl hM ?_; intro x1 W' hx1 hM'; clear hM tk_x1; have hM := hM'; clear hM') | (go_at_call 51; refine (HOK.out x1 _ (hM.boxed)).mono ?_; rintro e W' ⟨rfl, hb'⟩; rw [HV.out]; have hM' := hM.call hb'; clear hM hb'; have hM := hM'; clear hM') | (go_at_call 90; refine (HNU.out x1 _ (hM.ats 0 _ _ _ rfl) (HG.out.below hM.below)).mono ?_; rintro e W' ⟨rfl, hb'⟩; rw [HB.out]; have hM' := hM.call hb'; clear hM hb'; have hM := hM'; clear hM'))
    go_ret2
    rw [HR.out]
    exact ⟨rfl, hM.below⟩
  have HB := Lib.hid hb
  obtain ⟨hnn, -⟩ := numsB_iff.1 hb
  subst hnn
  have HQU := Lib.hid (fun (bh : Nat) (W : World) hB hI => l06Quarrel_any d bh b1 b2 b3 hd hOk.n hOk.l3 (some ⟨bg, 0, none⟩) d.n1 ys W hB hI)
  have HR := Lib.hid (show boolCode (chkB d d.n1 ys) (chkC d) = .tuple #[.bool (quarI d ys d.n1 d.n1).isNone, .int .i64 0] from by unfold chkB; rw [chk_0 hv, hb, hv]; rfl)
  clear hv hb hOk
  obtain ⟨n, hn'⟩ : ∃ n, d.n1 = n := ⟨_, rfl⟩
  rw [hn'] at HB HQU HR HG HNU ⊢
  rcases hq : quarI d ys n n with - | ⟨i, k⟩
  · have HP := Lib.hid (show qPair (quarI d ys n n) = .tuple #[.int .i64 (-1), .int .i64 (-1)] from by rw [hq]; rfl)
    have HS := Lib.hid (show (quarI d ys n n).isNone = true from by rw [hq]; rfl)
    clear hq
    have tk_x1 : True := trivial
    go_enter Tryd.func38, Tryd.ntmps38
    go_wp2_with (first | (have _t := tk_x1; refine wpList_box rfl _ _ rfl _ _ rfl hM ?_; intro x1 W' hx1 hM'; clear hM tk_x1; have hM := hM'; clear hM') | (go_at_call 51; refine (HOK.out x1 _ (hM.boxed)).mono ?_; rintro e W' ⟨rfl, hb'⟩; rw [HV.out]; have hM' := hM.call hb'; clear hM hb'; have hM := hM'; clear hM') | (go_at_call 90; refine (HNU.out x1 _ (hM.ats 0 _ _ _ rfl) (HG.out.below hM.below)).mono ?_; rintro e W' ⟨rfl, hb'⟩; rw [HB.out]; have hM' := hM.call hb'; clear hM hb'; have hM := hM'; clear hM') | (go_at_call 91; refine (HQU.out x1 _ (hM.boxed) (HG.out.below hM.below)).mono ?_; rintro e W' ⟨rfl, hb'⟩; rw [HP.out]; have hM' := hM.call hb'; clear hM hb'; have hM := hM'; clear hM'))
    go_ret2
    rw [HR.out, HS.out]
    exact ⟨rfl, hM.below⟩
  · have HP := Lib.hid (show qPair (quarI d ys n n) = .tuple #[.int .i64 (i : Int), .int .i64 (k : Int)] from by rw [hq]; rfl)
    have HS := Lib.hid (show (quarI d ys n n).isNone = false from by rw [hq]; rfl)
    have z1 : decide ((i : Int) < 0) = false := decide_eq_false (by omega)
    have z2 : ¬ (i : Int) < 0 := by omega
    clear hq
    have tk_x1 : True := trivial
    go_enter Tryd.func38, Tryd.ntmps38
    go_wp2_with (first | (have _t := tk_x1; refine wpList_box rfl _ _ rfl _ _ rfl hM ?_; intro x1 W' hx1 hM'; clear hM tk_x1; have hM := hM'; clear hM') | (go_at_call 51; refine (HOK.out x1 _ (hM.boxed)).mono ?_; rintro e W' ⟨rfl, hb'⟩; rw [HV.out]; have hM' := hM.call hb'; clear hM hb'; have hM := hM'; clear hM') | (go_at_call 90; refine (HNU.out x1 _ (hM.ats 0 _ _ _ rfl) (HG.out.below hM.below)).mono ?_; rintro e W' ⟨rfl, hb'⟩; rw [HB.out]; have hM' := hM.call hb'; clear hM hb'; have hM := hM'; clear hM') | (go_at_call 91; refine (HQU.out x1 _ (hM.boxed) (HG.out.below hM.below)).mono ?_; rintro e W' ⟨rfl, hb'⟩; rw [HP.out]; have hM' := hM.call hb'; clear hM hb'; have hM := hM'; clear hM'))
    go_ret2
    rw [HR.out, HS.out]
    exact ⟨rfl, hM.below⟩

/-- What the check of peace gives, one of three. -/
theorem peaceV_is (a : Nat → Addr) (d : Hd) (n : Nat) (ys : Nat → Int) : ((∃ x y : Int, peaceV a d n ys = .iface 111 (.agg #[.int .i64 x, .int .i64 y])) ∨ peaceV a d n ys = errV (a 2)) ∧ (numsB d n ys && (quarI d ys n n).isNone) = false ∨ peaceV a d n ys = .nilIface ∧ (numsB d n ys && (quarI d ys n n).isNone) = true := by
  unfold peaceV
  cases h : numsB d n ys
  · exact .inl ⟨.inr rfl, rfl⟩
  · rcases h2 : quarI d ys n n with - | ⟨i, k⟩
    · exact .inr ⟨rfl, rfl⟩
    · exact .inl ⟨.inl ⟨_, _, rfl⟩, rfl⟩

set_option maxRecDepth 100000 in
set_option maxHeartbeats 4000000 in
theorem implCheckGroups_any {a : Nat → Addr} (d : Hd) (b1 b2 b3 : Nat) (hd : FitsH d) (bg n : Nat) (ys : Nat → Int) (hn : n ≤ 1048576) (w : World) (hM0 : Mem w (hdB d b1 b2 b3) w) (hG : At w bg n (vInt64S ys)) (hE : Errs a w) (hT : Tab w) :
    Calls Tryd.prog 39 #[.agg (arr 3 (hdV d b1 b2 b3)), .slice (some ⟨bg, 0, none⟩) n n] w fun e w' => e = .returned (boolCode (chkB d n ys) (chkC d)) ∧ Below w.heap.size w w' := by
  have hM := Mem.nil w
  have H0 := Lib.hid hM0
  have HG := Lib.hid (vInt64S_ints hG)
  have HE := Lib.hid hE
  have HT := Lib.hid hT
  clear hM0 hE hT hG
  cases hv : herdB d
  · have HR := Lib.hid (show boolCode (chkB d n ys) (chkC d) = .tuple #[.bool false, .int .i64 (chkC d)] from by unfold chkB; rw [hv]; rfl)
    have hz : askC d 0 (fun _ => 0) ≠ 0 := show chkC d ≠ 0 from by rw [chk_1 hv]; decide
    have hFW := fun (W : World) hB hE hT => flockWith_bad (a := a) d b1 b2 b3 hd none 0 0 (fun _ => 0) (by omega) W hB hE hT (.inl rfl) hz
    rw [HR.out]
    unfold chkC
    clear hv HR
    obtain ⟨hv, hhv⟩ : ∃ f, hdV d b1 b2 b3 = f := ⟨_, rfl⟩
    rw [hhv] at hFW ⊢
    generalize askC d 0 (fun _ => 0) = C at *
    have HFW := Lib.hid hFW
    clear hhv hFW
    have tk_x1 : True := trivial; have tk_r1 : True := trivial; have tk_f8 : True := trivial; have tk_s1 : True := trivial
    go_enter Tryd.func39, Tryd.ntmps39
    go_wp2_with (first | (have _t := tk_x1; refine wpList_box rfl _ _ rfl _ _ rfl hM ?_; intro x1 W' hx1 hM'; clear hM tk_x1; have hM := hM'; clear hM') | (have _t := tk_r1; refine wpList_get rfl _ _ rfl _ _ rfl hM 0 rfl (rowTab _ _ rfl) (by omega) ?_; simp only [Nat.zero_add]; clear tk_r1) | (go_at_call 64; refine (HFW.out _ ((H0.out.call hM.below).base (Below.refl _ _)) (HE.out.below hM.below) (HT.out.below hM.below)).mono ?_; rintro e Wf ⟨ff, ev, rfl, hone, hEv, hb'⟩; have hM' := hM.call hb'; have hN := hEv.neq; have hGd := hEv.guard; have HEv := Lib.hid hEv; have HOne := Lib.hid hone; clear hM hb' hEv hone; have hM := hM'; clear hM') | (have _t := tk_f8; refine wpList_zero rfl _ rfl (zeroTab _ _ _ rfl) hM ?_; intro f8 W' hf8 hM'; clear hM tk_f8; have hM := hM'; clear hM') | (have _t := tk_s1; refine wpList_lay rfl _ _ _ rfl _ _ rfl _ _ rfl hM 0 rfl (by assumption) (rowTab _ _ rfl) (by omega) HOne.out ?_; intro W' hM'; clear hM tk_s1; have hM := hM'; clear hM'; simp only [List.set] at hM) | (go_at_call 65; refine (HEv.out.code (HE.out.below hM.below)).mono ?_; rintro e W' ⟨rfl, rfl⟩))
    go_ret2
    exact ⟨rfl, hM.below⟩
  have hOk := herdB_iff.1 hv
  have h14 := hOk.n
  have hB : chkB d n ys = (numsB d n ys && (quarI d ys n n).isNone) := by unfold chkB; rw [hv]; rfl
  rw [hB, chk_0 hv]
  have hFW := fun (W : World) hB hE => flockWith_ok (r := a 1) d b1 b2 b3 hd none 0 0 (fun _ => 0) (by omega) W hB hE (.inl rfl) hOk (fun j h => absurd h (by omega))
  have hPE := fun (ma : Option Addr) (mc : Nat) (W : World) hA hI hE hT => checkPeace_any (a := a) d ma mc hOk (fun i hi => hd.f i (by rw [hOk.l3]; exact hi)) (some ⟨bg, 0, none⟩) n n ys hn W hA hI hE hT
  have hPI := peaceV_is a d n ys
  obtain ⟨hv0, hhv⟩ : ∃ f, hdV d b1 b2 b3 = f := ⟨_, rfl⟩
  rw [hhv] at hFW ⊢
  generalize peaceV a d n ys = PV at hPE hPI
  generalize (numsB d n ys && (quarI d ys n n).isNone) = R at hPI ⊢
  have HFW := Lib.hid hFW
  have HPE := Lib.hid hPE
  obtain ⟨nn, hnn⟩ : ∃ nn, d.n1 = nn := ⟨_, rfl⟩
  rw [hnn] at HFW HPE
  clear hhv hFW hPE hOk hv hB hnn h14
  have fin : ∀ r : Bool, boolCode r 0 = .tuple #[.bool r, .int .i64 0] := fun r => rfl
  rcases hPI with ⟨⟨x, y, rfl⟩ | rfl, rfl⟩ | ⟨rfl, rfl⟩
  all_goals
    rw [fin]
    clear fin
    have tk_x1 : True := trivial; have tk_r1 : True := trivial; have tk_f8 : True := trivial; have tk_s1 : True := trivial
    go_enter Tryd.func39, Tryd.ntmps39
    go_wp2_with (first | (have _t := tk_x1; refine wpList_box rfl _ _ rfl _ _ rfl hM ?_; intro x1 W' hx1 hM'; clear hM tk_x1; have hM := hM'; clear hM') | (have _t := tk_r1; refine wpList_get rfl _ _ rfl _ _ rfl hM 0 rfl (rowTab _ _ rfl) (by omega) ?_; simp only [Nat.zero_add]; clear tk_r1) | (go_at_call 64; refine (HFW.out _ ((H0.out.call hM.below).base (Below.refl _ _)) ⟨(HE.out.below hM.below).vars 1 (by omega), HT.out.below hM.below⟩).mono ?_; rintro e Wf ⟨ma, mc, m, rfl, hmc, hMA, hO, hb'⟩; have hM' := hM.call hb'; have HB0 := Lib.hid hM'.below; have hM2 := hM'.base (w' := Base.of Wf) (Below.refl _ _); have HMA := Lib.hid hMA; clear hM hb' hO hMA hM'; have hM := hM2; clear hM2) | (have _t := tk_f8; refine wpList_zero rfl _ rfl (zeroTab _ _ _ rfl) hM ?_; intro f8 W' hf8 hM'; clear hM tk_f8; have hM := hM'; clear hM') | (have _t := tk_s1; refine wpList_lay rfl _ _ _ rfl _ _ rfl _ _ rfl hM 0 rfl (by assumption) (rowTab _ _ rfl) (by omega) (fun k _ => flkV_one _ _ _ _ k) ?_; intro W' hM'; have hM2 := hM'.re 0 rfl (flkV ma nn mc m) (fun k hk => by simp [lay, hk]); simp only [List.set] at hM2; clear hM hM' tk_s1; have hM := hM2; clear hM2) | (refine wpList_get1 rfl _ _ rfl _ _ rfl hM 0 rfl (cellTab _ rfl) (by omega) (.slice ma nn mc) rfl ?_) | (go_at_call 92; (with_reducible refine (HPE.out ma mc _ (HMA.out.below hM.below) ((HG.out.below HB0.out).below hM.below) ((HE.out.below HB0.out).below hM.below) ((HT.out.below HB0.out).below hM.below)).mono ?_); rintro e W' ⟨rfl, hb'⟩; have hM' := hM.call hb'; clear hM hb'; have hM := hM'; clear hM'))
    go_ret2
    exact ⟨rfl, HB0.out.trans (hM.below.mono HB0.out.size)⟩
end Go.Proofs.YthodkbmenndnoaaDoor

/-
  impl.countGroups by contract; impl.NeedsOf's heart.
-/
namespace Go.Proofs.YthodkbmenndnoaaDoor
open Go Go.RowKit Go.BigFrame

set_option maxRecDepth 100000 in
set_option maxHeartbeats 4000000 in
theorem countGroups_any (n : Nat) (hn : n ≤ 14) (ga : Option Addr) (gc : Nat) (ys : Nat → Int) (hys : ∀ j, j < n → 0 ≤ ys j ∧ ys j ≤ 13) (w : World) (hG : IntsAt w ga n ys) :
    Calls Tryd.prog 97 #[.slice ga n gc] w fun e w' => e = .returned (.int .i64 (cntG ys n)) ∧ Below w.heap.size w w' := by
  have hM := Mem.nil w
  have HG := Lib.hid hG
  have HYS := Lib.hid hys
  obtain ⟨G, hGG⟩ : ∃ G, cntG ys n = G := ⟨_, rfl⟩
  have HGG := Lib.hid hGG
  rw [hGG]
  clear hG hys hGG
  go_enter Tryd.func97, Tryd.ntmps97
  go_wp2
  go_loopw [3, 8] (fun m i wr => ∃ k : Nat, k ≤ n ∧ i = .int .i64 k ∧ m = .int .i64 (cntG ys k) ∧ Mem w [] wr) (fun _ i _ => n - (intOf i).toNat)
  case atStart => exact ⟨0, by omega, rfl, rfl, hM⟩
  case round =>
    clear hM
    obtain ⟨k, hk, rfl, rfl, hM⟩ := hrel
    by_cases hlt : k < n
    · have l2 : (k : Int) < n := by omega
      obtain ⟨bg, Ng, Fg, rfl, hNg, hFg, hAg⟩ := HG.out.at hlt
      have HAg := Lib.hid hAg
      obtain ⟨y, hy⟩ : ∃ y : Nat, ys k = y := ⟨(ys k).toNat, by have := HYS.out k hlt; omega⟩
      have hy14 : y ≤ 13 := by have := HYS.out k hlt; omega
      rw [hy] at hFg
      have HC := Lib.hid (show cntG ys (k + 1) = max (cntG ys k) (y + 1) from by show Nat.max (cntG ys k) ((ys k).toNat + 1) = _; rw [hy]; rfl)
      obtain ⟨c, hc⟩ : ∃ c, cntG ys k = c := ⟨_, rfl⟩
      rw [hc] at HC ⊢
      have cw : IntKind.i64.wrap ((y : Int) + 1) = (y : Int) + 1 := IntWalk.i64_in _ (by omega)
      clear hAg hy hc
      go_wp2_with (first | (refine wpList_getAt1 rfl _ _ rfl _ _ rfl (HAg.out.below hM.below HAg.out.lt) (cellTab _ rfl) (by omega) _ hFg ?_))
      go_roundw
      case rel => exact ⟨k + 1, by omega, by go_num, by rw [HC.out]; congr 1; split <;> omega, hM⟩
      case measure => simp [intOf]; omega
    · obtain rfl : k = n := by omega
      have h := HGG.out
      rw [h]
      go_wp2
      go_ret
      exact ⟨rfl, hM.below⟩
theorem need_0 {d : Hd} {n : Nat} {ys : Nat → Int} (h : needC d n ys = 0) : herdB d = true ∧ numsB d n ys = true := by
  unfold needC at h
  cases h1 : herdB d with
  | false => rw [h1] at h; simp at h
  | true =>
    cases h2 : numsB d n ys with
    | false => rw [h1, h2] at h; simp at h
    | true => exact ⟨rfl, rfl⟩
theorem need_no {d : Hd} {n : Nat} {ys : Nat → Int} (h : needC d n ys ≠ 0) : needL d n ys = 0 := by
  unfold needC at h
  unfold needL
  cases h1 : herdB d with
  | false => rfl
  | true =>
    cases h2 : numsB d n ys with
    | false => rfl
    | true => rw [h1, h2] at h; exact absurd rfl h

set_option maxRecDepth 100000 in
set_option maxHeartbeats 4000000 in
theorem l06Told_any (d : Hd) (bh b1 b2 b3 : Nat) (hd : FitsH d) (ga : Option Addr) (gn gc : Nat) (ys : Nat → Int) (hgn : gn ≤ 1048576) (w : World) (hM0 : Mem w ((bh, 3, hdV d b1 b2 b3) :: hdB d b1 b2 b3) w) (hG : IntsAt w ga gn ys) :
    Calls Tryd.prog 93 #[.pointer (some ⟨bh, 0, none⟩), .slice ga gn gc] w fun e w' => e = .returned (.int .i64 (needC d gn ys)) ∧ Below w.heap.size w w' := by
  have hM := hM0
  have HG := Lib.hid hG
  have HOK := Lib.hid (fun (W : World) hB => l06Ok_any d bh b1 b2 b3 hd W hB)
  have a1 : hdV d b1 b2 b3 0 = .slice (some ⟨b1, 0, none⟩) d.n1 d.n1 := rfl
  have HNU := Lib.hid (fun (W : World) hH hI => l06Numbers_any d bh (hdV d b1 b2 b3) b1 d.n1 a1 ga gn gc ys hgn W hH hI)
  have HH := Lib.hid (hM0.ats 0 _ _ _ rfl)
  have HB := Lib.hid (show ∀ W, Mem w ((bh, 3, hdV d b1 b2 b3) :: hdB d b1 b2 b3) W → Mem W ((bh, 3, hdV d b1 b2 b3) :: hdB d b1 b2 b3) W from fun W h => h.base (Below.refl _ _))
  clear hM0 hG
  cases hv : herdB d
  · have HV := Lib.hid hv
    have HC := Lib.hid (show needC d gn ys = 1 from by unfold needC; rw [hv]; rfl)
    clear hv
    go_enter Tryd.func93, Tryd.ntmps93
    go_wp2_with (first | (go_at_call 51; refine (HOK.out _ (HB.out _ hM)).mono ?_; rintro e W' ⟨rfl, hb'⟩; rw [HV.out]; have hM' := hM.call hb'; clear hM hb'; have hM := hM'; clear hM'))
    go_ret
    rw [HC.out]
    exact ⟨rfl, hM.below⟩
  cases hb : numsB d gn ys
  · have HV := Lib.hid hv
    have HBb := Lib.hid hb
    have HC := Lib.hid (show needC d gn ys = 4 from by unfold needC; rw [hv, hb]; rfl)
    clear hv hb
    go_enter Tryd.func93, Tryd.ntmps93
    go_wp2_with (first | (go_at_call 51; refine (HOK.out _ (HB.out _ hM)).mono ?_; rintro e W' ⟨rfl, hb'⟩; rw [HV.out]; have hM' := hM.call hb'; clear hM hb'; have hM := hM'; clear hM') | (go_at_call 90; refine (HNU.out _ (HH.out.below hM.below HH.out.lt) (HG.out.below hM.below)).mono ?_; rintro e W' ⟨rfl, hb'⟩; rw [HBb.out]; have hM' := hM.call hb'; clear hM hb'; have hM := hM'; clear hM'))
    go_ret
    rw [HC.out]
    exact ⟨rfl, hM.below⟩
  · have HV := Lib.hid hv
    have HBb := Lib.hid hb
    have HC := Lib.hid (show needC d gn ys = 0 from by unfold needC; rw [hv, hb]; rfl)
    clear hv hb
    go_enter Tryd.func93, Tryd.ntmps93
    go_wp2_with (first | (go_at_call 51; refine (HOK.out _ (HB.out _ hM)).mono ?_; rintro e W' ⟨rfl, hb'⟩; rw [HV.out]; have hM' := hM.call hb'; clear hM hb'; have hM := hM'; clear hM') | (go_at_call 90; refine (HNU.out _ (HH.out.below hM.below HH.out.lt) (HG.out.below hM.below)).mono ?_; rintro e W' ⟨rfl, hb'⟩; rw [HBb.out]; have hM' := hM.call hb'; clear hM hb'; have hM := hM'; clear hM'))
    go_ret
    rw [HC.out]
    exact ⟨rfl, hM.below⟩

set_option maxRecDepth 100000 in
set_option maxHeartbeats 4000000 in
theorem implNeedsOf_any {a : Nat → Addr} (d : Hd) (b1 b2 b3 : Nat) (hd : FitsH d) (bg n : Nat) (ys : Nat → Int) (hn : n ≤ 1048576) (w : World) (hM0 : Mem w (hdB d b1 b2 b3) w) (hG : At w bg n (vInt64S ys)) (hE : Errs a w) (hT : Tab w) :
    Calls Tryd.prog 43 #[.agg (arr 3 (hdV d b1 b2 b3)), .slice (some ⟨bg, 0, none⟩) n n] w (GivesR 1 (needL d n ys) (vInt64S (needF d ys n)) (needC d n ys) w) := by
  have hM := Mem.nil w
  have H0 := Lib.hid hM0
  have HG := Lib.hid (vInt64S_ints hG)
  have HE := Lib.hid hE
  have HT := Lib.hid hT
  clear hM0 hE hT hG
  cases hv : herdB d
  · have HR := Lib.hid (show needL d n ys = 0 ∧ needC d n ys = chkC d from ⟨by unfold needL; rw [hv]; rfl, by unfold needC; rw [chk_1 hv, hv]; rfl⟩)
    have hz : askC d 0 (fun _ => 0) ≠ 0 := show chkC d ≠ 0 from by rw [chk_1 hv]; decide
    have hFW := fun (W : World) hB hE hT => flockWith_bad (a := a) d b1 b2 b3 hd none 0 0 (fun _ => 0) (by omega) W hB hE hT (.inl rfl) hz
    rw [HR.out.2]
    unfold chkC
    clear hv
    obtain ⟨hv, hhv⟩ : ∃ f, hdV d b1 b2 b3 = f := ⟨_, rfl⟩
    rw [hhv] at hFW ⊢
    generalize askC d 0 (fun _ => 0) = C at *
    have HFW := Lib.hid hFW
    clear hhv hFW
    have tk_x1 : True := trivial; have tk_r1 : True := trivial; have tk_f8 : True := trivial; have tk_s1 : True := trivial
    go_enter Tryd.func43, Tryd.ntmps43
    go_wp2_with (first | (have _t := tk_x1; refine wpList_box rfl _ _ rfl _ _ rfl hM ?_; intro x1 W' hx1 hM'; clear hM tk_x1; have hM := hM'; clear hM') | (have _t := tk_r1; refine wpList_get rfl _ _ rfl _ _ rfl hM 0 rfl (rowTab _ _ rfl) (by omega) ?_; simp only [Nat.zero_add]; clear tk_r1) | (go_at_call 64; refine (HFW.out _ ((H0.out.call hM.below).base (Below.refl _ _)) (HE.out.below hM.below) (HT.out.below hM.below)).mono ?_; rintro e Wf ⟨ff, ev, rfl, hone, hEv, hb'⟩; have hM' := hM.call hb'; have hN := hEv.neq; have hGd := hEv.guard; have HEv := Lib.hid hEv; have HOne := Lib.hid hone; clear hM hb' hEv hone; have hM := hM'; clear hM') | (have _t := tk_f8; refine wpList_zero rfl _ rfl (zeroTab _ _ _ rfl) hM ?_; intro f8 W' hf8 hM'; clear hM tk_f8; have hM := hM'; clear hM') | (have _t := tk_s1; refine wpList_lay rfl _ _ _ rfl _ _ rfl _ _ rfl hM 0 rfl (by assumption) (rowTab _ _ rfl) (by omega) HOne.out ?_; intro W' hM'; clear hM tk_s1; have hM := hM'; clear hM'; simp only [List.set] at hM) | (go_at_call 65; refine (HEv.out.code (HE.out.below hM.below)).mono ?_; rintro e W' ⟨rfl, rfl⟩))
    go_ret2
    exact GivesR.none hM.below HR.out.1 rfl
  have hOk := herdB_iff.1 hv
  have h14 := hOk.n
  have hFW := fun (W : World) hB hE => flockWith_ok (r := a 1) d b1 b2 b3 hd none 0 0 (fun _ => 0) (by omega) W hB hE (.inl rfl) hOk (fun j h => absurd h (by omega))
  have hCN := fun (ma : Option Addr) (mc : Nat) (R : Value) hR (W : World) hI hE => checkNumbers_any (a := a) d ma mc h14 (some ⟨bg, 0, none⟩) n n ys hn R hR W hI hE
  obtain ⟨hv0, hhv⟩ : ∃ f, hdV d b1 b2 b3 = f := ⟨_, rfl⟩
  rw [hhv] at hFW ⊢
  cases hb : numsB d n ys
  · have HR := Lib.hid (show needL d n ys = 0 ∧ needC d n ys = 4 from ⟨by unfold needL; rw [hv, hb]; rfl, by unfold needC; rw [hv, hb]; rfl⟩)
    have hIf : (if numsB d n ys = true then Value.nilIface else errV (a 2)) = errV (a 2) := by rw [hb]; rfl
    rw [HR.out.2]
    obtain ⟨nn, hnn⟩ : ∃ nn, d.n1 = nn := ⟨_, rfl⟩
    rw [hnn] at hFW hCN
    have HFW := Lib.hid hFW
    have HCN := Lib.hid (fun ma mc W hI hE => hCN ma mc (errV (a 2)) hIf W hI hE)
    clear hhv hFW hOk hv hb hnn hCN hIf h14
    have tk_x1 : True := trivial; have tk_r1 : True := trivial; have tk_f8 : True := trivial; have tk_s1 : True := trivial
    go_enter Tryd.func43, Tryd.ntmps43
    go_wp2_with (first | (have _t := tk_x1; refine wpList_box rfl _ _ rfl _ _ rfl hM ?_; intro x1 W' hx1 hM'; clear hM tk_x1; have hM := hM'; clear hM') | (have _t := tk_r1; refine wpList_get rfl _ _ rfl _ _ rfl hM 0 rfl (rowTab _ _ rfl) (by omega) ?_; simp only [Nat.zero_add]; clear tk_r1) | (go_at_call 64; refine (HFW.out _ ((H0.out.call hM.below).base (Below.refl _ _)) ⟨(HE.out.below hM.below).vars 1 (by omega), HT.out.below hM.below⟩).mono ?_; rintro e Wf ⟨ma, mc, m, rfl, hmc, hMA, hO, hb'⟩; have hM' := hM.call hb'; have HB0 := Lib.hid hM'.below; have hM2 := hM'.base (w' := Base.of Wf) (Below.refl _ _); have HMA := Lib.hid hMA; clear hM hb' hO hMA hM'; have hM := hM2; clear hM2) | (have _t := tk_f8; refine wpList_zero rfl _ rfl (zeroTab _ _ _ rfl) hM ?_; intro f8 W' hf8 hM'; clear hM tk_f8; have hM := hM'; clear hM') | (have _t := tk_s1; refine wpList_lay rfl _ _ _ rfl _ _ rfl _ _ rfl hM 0 rfl (by assumption) (rowTab _ _ rfl) (by omega) (fun k _ => flkV_one _ _ _ _ k) ?_; intro W' hM'; have hM2 := hM'.re 0 rfl (flkV ma nn mc m) (fun k hk => by simp [lay, hk]); simp only [List.set] at hM2; clear hM hM' tk_s1; have hM := hM2; clear hM2) | (refine wpList_get1 rfl _ _ rfl _ _ rfl hM 0 rfl (cellTab _ rfl) (by omega) (.slice ma nn mc) rfl ?_) | (go_at_call 96; (with_reducible refine (HCN.out ma mc _ ((HG.out.below HB0.out).below hM.below) ((HE.out.below HB0.out).below hM.below)).mono ?_); rintro e W' ⟨rfl, hb'⟩; have hM' := hM.call hb'; clear hM hb'; have hM := hM'; clear hM') | (go_at_call 65; refine (codeOf_2 ((HE.out.below HB0.out).below hM.below)).mono ?_; rintro e W' ⟨rfl, rfl⟩))
    go_ret2
    exact GivesR.none (HB0.out.trans (hM.below.mono HB0.out.size)) HR.out.1 rfl
  obtain ⟨hnn, hys⟩ := numsB_iff.1 hb
  subst hnn
  have hIf : (if numsB d d.n1 ys = true then Value.nilIface else errV (a 2)) = .nilIface := by rw [hb]; rfl
  have HR := Lib.hid (show needL d d.n1 ys = cntG ys d.n1 ∧ needC d d.n1 ys = 0 from ⟨by unfold needL; rw [hv, hb]; rfl, by unfold needC; rw [hv, hb]; rfl⟩)
  rw [HR.out.1, HR.out.2]
  have hes : ∀ j, j < d.n1 → -32768 ≤ d.es j ∧ d.es j ≤ 32767 := fun j hj => hd.e j (by rw [hOk.l2]; exact hj)
  obtain ⟨nn, hnn⟩ : ∃ nn, d.n1 = nn := ⟨_, rfl⟩
  rw [hnn] at hFW hCN hys hes HG h14 ⊢
  have HFW := Lib.hid hFW
  have HCN := Lib.hid (fun ma mc W hI hE => hCN ma mc .nilIface (hnn ▸ hIf) W hI hE)
  have HES := Lib.hid hes
  have HYS := Lib.hid hys
  have HCG := Lib.hid (show ∀ j, j < nn → (ys j).toNat < cntG ys nn from fun j hj => cntG_mono hj)
  have HCO := Lib.hid (fun (W : World) hI => countGroups_any nn h14 (some ⟨bg, 0, none⟩) nn ys hys W hI)
  have hG14 := cntG_le hys nn (Nat.le_refl _)
  obtain ⟨G, hGG⟩ : ∃ G, cntG ys nn = G := ⟨_, rfl⟩
  rw [hGG] at hG14 HCG HCO ⊢
  clear hhv hFW hOk hv hb hnn hCN hIf hes hys HR hGG hn
  have tk_x1 : True := trivial; have tk_r1 : True := trivial; have tk_f8 : True := trivial; have tk_s1 : True := trivial; have tk_k1 : True := trivial; have tk_m1 : True := trivial
  go_enter Tryd.func43, Tryd.ntmps43
  go_wp2_with (first | (have _t := tk_x1; refine wpList_box rfl _ _ rfl _ _ rfl hM ?_; intro x1 W' hx1 hM'; clear hM tk_x1; have hM := hM'; clear hM') | (have _t := tk_r1; refine wpList_get rfl _ _ rfl _ _ rfl hM 0 rfl (rowTab _ _ rfl) (by omega) ?_; simp only [Nat.zero_add]; clear tk_r1) | (go_at_call 64; refine (HFW.out _ ((H0.out.call hM.below).base (Below.refl _ _)) ⟨(HE.out.below hM.below).vars 1 (by omega), HT.out.below hM.below⟩).mono ?_; rintro e Wf ⟨ma, mc, m, rfl, hmc, hMA, hO, hb'⟩; have hM' := hM.call hb'; have HB0 := Lib.hid hM'.below; have hM2 := hM'.base (w' := Base.of Wf) (Below.refl _ _); have HMA := Lib.hid hMA; clear hM hb' hO hMA hM'; have hM := hM2; clear hM2) | (have _t := tk_f8; refine wpList_zero rfl _ rfl (zeroTab _ _ _ rfl) hM ?_; intro f8 W' hf8 hM'; clear hM tk_f8; have hM := hM'; clear hM') | (have _t := tk_s1; refine wpList_lay rfl _ _ _ rfl _ _ rfl _ _ rfl hM 0 rfl (by assumption) (rowTab _ _ rfl) (by omega) (fun k _ => flkV_one _ _ _ _ k) ?_; intro W' hM'; have hM2 := hM'.re 0 rfl (flkV ma nn mc m) (fun k hk => by simp [lay, hk]); simp only [List.set] at hM2; clear hM hM' tk_s1; have hM := hM2; clear hM2) | (have _t := tk_k1; refine wpList_get1 rfl _ _ rfl _ _ rfl hM 0 rfl (cellTab _ rfl) (by omega) (.slice ma nn mc) rfl ?_; clear tk_k1) | (go_at_call 96; (with_reducible refine (HCN.out ma mc _ ((HG.out.below HB0.out).below hM.below) ((HE.out.below HB0.out).below hM.below)).mono ?_); rintro e W' ⟨rfl, hb'⟩; have hM' := hM.call hb'; clear hM hb'; have hM := hM'; clear hM') | (go_at_call 97; (with_reducible refine (HCO.out _ ((HG.out.below HB0.out).below hM.below)).mono ?_); rintro e W' ⟨rfl, hb'⟩; have hM' := hM.call hb'; clear hM hb'; have hM := hM'; clear hM') | (have _t := tk_m1; refine wpList_make1 rfl _ _ _ _ rfl G rfl rfl (.int .i64 0) 8 rfl Tryd.underlying33 infoInt64S (by omega) (by omega) hM ?_; intro b W' hb hM'; clear hM tk_m1; have hM := hM'; clear hM'))
  have HF0 : ∀ g, g < G → (fun _ : Nat => Value.int .i64 0) g = needV d ys 0 g := fun g _ => rfl
  have hM2 := hM.re 0 rfl (needV d ys 0) HF0
  simp only [List.set_cons_zero] at hM2
  clear hM HF0
  go_loopw [34] (fun v wr => ∃ j : Nat, j ≤ nn ∧ v = .int .i64 j ∧ Mem (Base.of Wf) ((b, G, needV d ys j) :: (f8, 2, flkV ma nn mc m) :: [(x1, 3, hv0)]) wr) (fun v _ => nn - (intOf v).toNat)
  case atStart => exact ⟨0, by omega, rfl, hM2⟩
  case round =>
    clear hM2
    obtain ⟨j, hj, rfl, hM⟩ := hrel
    by_cases hlt : j < nn
    · have l2 : (j : Int) < nn := by omega
      obtain ⟨bg, Ng, Fg, hge, hNg, hFg, hAg⟩ := (HG.out.below HB0.out).at hlt
      obtain rfl : _ = bg := by simpa using hge
      obtain ⟨bm, Nm, Fm, rfl, hNm, -, hFm, hAm⟩ := HMA.out.row hlt
      obtain ⟨y, hy⟩ : ∃ y : Nat, ys j = y := ⟨(ys j).toNat, by have := HYS.out j hlt; omega⟩
      have hyG : y < G := by have := HCG.out j hlt; omega
      have lyG : (y : Int) < G := by omega
      obtain ⟨e, he⟩ : ∃ e, d.es j = e := ⟨_, rfl⟩
      obtain ⟨v, hv⟩ : ∃ v, needG d ys y j = v := ⟨_, rfl⟩
      have hvb := needG_le HES.out (ys := ys) y j (by omega)
      have heb := HES.out j hlt
      rw [hv] at hvb
      rw [he] at heb
      have cw : IntKind.i64.wrap (v + e) = v + e := IntWalk.i64_in _ (by omega)
      have ew : IntKind.i64.wrap e = e := IntWalk.i64_in _ (by omega)
      rw [hy] at hFg
      have hcell : needV d ys j y = .int .i64 v := congrArg (Value.int .i64) hv
      have HST := Lib.hid (show ∀ g, upd (needV d ys j) y (.int .i64 (v + e)) g = needV d ys (j + 1) g from by rw [← hv]; exact needV_step hy he)
      have hve : Fm (j * 3 + 1) = .int .i16 e := (hFm 1 (by omega)).trans (by rw [← he]; rfl)
      have HAg := Lib.hid hAg
      have HAm := Lib.hid hAm
      clear hAg hAm hFm hy hv he hvb heb hge
      go_wp2_with (first | (refine wpList_getAt1 rfl _ _ rfl _ _ rfl (HAg.out.below hM.below HAg.out.lt) (cellTab _ rfl) (by omega) _ hFg ?_))
      ((try simp only [Act.put, List.setIfInBounds_toArray, List.set_cons_succ, List.set_cons_zero]); refine region_tail_mem (m := 13) (by kernel_rfl) (by kernel_rfl) ?_; (have hM' := hM.drew); clear hM; have hM := hM'; clear hM'; simp only [List.take_succ_cons, List.take_zero, List.drop_succ_cons, List.drop_zero]; (repeat (refine wps_plain rfl ?_; (first | (refine still_get1 hM _ _ rfl _ _ rfl 0 rfl (cellTab _ rfl) (by omega) _ (hcell) ?_) | (refine still_get1 hM _ _ rfl _ _ rfl 1 rfl (cellTab _ rfl) (by omega) (.slice (some ⟨bm, 0, none⟩) nn mc) rfl ?_) | (refine still_old _ _ rfl _ _ rfl (cellTab _ rfl) (.int .i16 e) (((HAm.out.below hM.below HAm.out.lt).cell (by omega)).trans (congrArg some hve)) ?_) | (refine still_val ?_; apply Exists.intro; refine ⟨fun W => ?_, ?_⟩; (go_simp; (try simp only [cw, ew, if_true]); rfl))); (simp only [Act.put, List.setIfInBounds_toArray, List.set_cons_succ, List.set_cons_zero]))); unfold wpStill)
      go_wp2_with (first | (refine wpList_set1 rfl _ _ _ rfl _ _ rfl (.int .i64 (v + e)) rfl rfl hM 0 rfl hb (cellTab _ rfl) hyG ?_; intro W' hM'; have hM2 := hM'.re 0 rfl (needV d ys (j + 1)) (fun g _ => HST.out g); simp only [List.set_cons_zero] at hM2; clear hM hM'; have hM := hM2; clear hM2))
      go_roundw
      case rel => exact ⟨j + 1, by omega, by go_num, hM⟩
      case measure => simp [intOf]; omega
    · obtain rfl : j = nn := by omega
      go_wp2
      go_ret2
      exact ⟨_, rfl, .inr ⟨b, G, G, needV d ys j, rfl, Nat.le_trans HB0.out.size hb, by omega, fun _ _ => rfl, hM.ats 0 _ _ _ rfl, HB0.out.trans (hM.below.mono HB0.out.size)⟩⟩

set_option maxRecDepth 100000 in
set_option maxHeartbeats 4000000 in
theorem specNeedsOf_any (d : Hd) (b1 b2 b3 : Nat) (hd : FitsH d) (bg n : Nat) (ys : Nat → Int) (hn : n ≤ 1048576) (w : World) (hM0 : Mem w (hdB d b1 b2 b3) w) (hG : At w bg n (vInt64S ys)) :
    Calls Tryd.prog 42 #[.agg (arr 3 (hdV d b1 b2 b3)), .slice (some ⟨bg, 0, none⟩) n n] w (GivesR 1 (needL d n ys) (vInt64S (needF d ys n)) (needC d n ys) w) := by
  have hM : Mem w (hdB d b1 b2 b3 ++ []) w := by rw [List.append_nil]; exact hM0
  have HG := Lib.hid (vInt64S_ints hG)
  have HTO := Lib.hid (fun (bh : Nat) (W : World) hB hI => l06Told_any d bh b1 b2 b3 hd (some ⟨bg, 0, none⟩) n n ys hn W hB hI)
  clear hM0 hG
  by_cases hc : needC d n ys = 0
  · obtain ⟨hv, hb⟩ := need_0 hc
    have hOk := herdB_iff.1 hv
    obtain ⟨hnn, hys⟩ := numsB_iff.1 hb
    subst hnn
    have HC := Lib.hid hc
    have HL := Lib.hid (show needL d d.n1 ys = cntG ys d.n1 from by unfold needL; rw [hv, hb]; rfl)
    have HNE := Lib.hid (fun (bh : Nat) (W : World) hB hI => l06Needs_any d bh b1 b2 b3 hd hOk.n hOk.l2 (some ⟨bg, 0, none⟩) d.n1 ys hys W hB hI)
    obtain ⟨nn, hnn⟩ : ∃ nn, d.n1 = nn := ⟨_, rfl⟩
    rw [hnn] at HC HL HNE HTO HG ⊢
    clear hc hv hb hOk hys hn
    have tk_x1 : True := trivial
    go_enter Tryd.func42, Tryd.ntmps42
    go_wp2_with (first | (have _t := tk_x1; refine wpList_box rfl _ _ rfl _ _ rfl hM ?_; intro x1 W' hx1 hM'; clear hM tk_x1; have hM := hM'; clear hM') | (go_at_call 93; refine (HTO.out x1 _ (hM.boxed) (HG.out.below hM.below)).mono ?_; rintro e W' ⟨rfl, hb'⟩; rw [HC.out]; have hM' := hM.call hb'; clear hM hb'; have hM := hM'; clear hM') | (go_at_call 95; refine (HNE.out x1 _ (hM.boxed) (HG.out.below hM.below)).mono ?_; rintro e W' ⟨b, rfl, hb, hN⟩; have HB0 := Lib.hid hM.below; have HN := Lib.hid hN; clear hM hN))
    go_ret2
    rw [HL.out, HC.out]
    exact ⟨_, rfl, .inr ⟨b, _, _, needV d ys nn, rfl, Nat.le_trans HB0.out.size hb, by omega, fun _ _ => rfl, HN.out.ats 0 _ _ _ rfl, HB0.out.trans (HN.out.below.mono HB0.out.size)⟩⟩
  · obtain ⟨C, hC⟩ : ∃ C, needC d n ys = C := ⟨_, rfl⟩
    have HL := Lib.hid (need_no hc)
    have HC := Lib.hid hC
    rw [hC] at hc ⊢
    have z1 : (C != 0) = true := bne_iff_ne.2 hc
    have z2 : (C == 0) = false := beq_eq_false_iff_ne.2 hc
    clear hC
    have tk_x1 : True := trivial; have tk_s0 : True := trivial
    go_enter Tryd.func42, Tryd.ntmps42
    go_wp2_with (first | (have _t := tk_x1; refine wpList_box rfl _ _ rfl _ _ rfl hM ?_; intro x1 W' hx1 hM'; clear hM tk_x1; have hM := hM'; clear hM') | (go_at_call 93; refine (HTO.out x1 _ (hM.boxed) (HG.out.below hM.below)).mono ?_; rintro e W' ⟨rfl, hb'⟩; rw [HC.out]; have hM' := hM.call hb'; clear hM hb'; have hM := hM'; clear hM') | (have _t := tk_s0; refine wpList_slice0 rfl _ _ rfl _ int64s_underR int64_info0 hM ?_; intro s0 W' hs0 hM'; clear hM tk_s0; have hM := hM'; clear hM'))
    go_ret2
    exact GivesR.none hM.below HL.out rfl
end Go.Proofs.YthodkbmenndnoaaDoor

/-
  errors.As at an error that is no quarrel, by contract; FirstQuarrel, both sides.
-/
namespace Go.Proofs.YthodkbmenndnoaaDoor
open Go Go.RowKit Go.BigFrame Go.Extern.Stop Go.Stop Go.Extern

theorem noAsE (v : Value) (xT : TypeId) (w : World) : (Instr.typeAssert (.iface 170 v) xT 159 true).run Tryd.prog w = .ok (.tuple #[.nilIface, .bool false]) w := run_typeAssert_lacksB Tryd.underlying159 (by kernel_rfl) (by kernel_rfl) v xT w

set_option maxRecDepth 100000 in
set_option maxHeartbeats 4000000 in
/-- errors.As(another error, a quarrel's variable). -/
theorem as_miss (w0 : World) (L : Blocks) (t : Nat) (y : Addr) (F : Nat → Value) (w : World) (hM : Mem w0 ((t, 2, F) :: L) w) (hg : w0.cell? ⟨7, 0, none⟩ = some (.iface 155 (.agg #[.pointer (some ⟨9, 85, none⟩)]))) :
    Calls Tryd.prog 94 #[errV y, .iface 113 (.pointer (some ⟨t, 0, none⟩))] w fun e w' => e = .returned (.bool false) ∧ Mem w0 ((t, 2, F) :: L) w' := by
  have h6 := @run_callFunc_extern Tryd.prog 114 _ (fun args => ReflectliteValue.unpack (args.getD 0 (.tuple #[]))) Tryd.func114 (by kernel_rfl) (by kernel_rfl) (by kernel_rfl) (by kernel_rfl)
  have h7 := @run_callFunc_extern Tryd.prog 115 _ (ReflectliteValue.methodAny (ReflectliteValue.valueError "reflectlite.Value.Type" 0) (fun t _ _ _ => ReflectliteType.toType t)) Tryd.func115 (by kernel_rfl) (by kernel_rfl) (by kernel_rfl) (by kernel_rfl)
  have h8 := @run_callFunc_extern Tryd.prog 116 _ (ReflectliteValue.method (ReflectliteValue.valueError "reflectlite.Value.IsNil" 0) ReflectliteValue.isNil) Tryd.func116 (by kernel_rfl) (by kernel_rfl) (by kernel_rfl) (by kernel_rfl)
  have h27 := @run_callFunc_extern Tryd.prog 140 _ (ReflectliteType.abiMethod fun t => do pure (.int .u8 (← Rtype.kind t))) Tryd.func140 (by kernel_rfl) (by kernel_rfl) (by kernel_rfl) (by kernel_rfl)
  have h37 := @run_callFunc_extern Tryd.prog 155 _ (ReflectliteType.method ReflectliteType.elem) Tryd.func155 (by kernel_rfl) (by kernel_rfl) (by kernel_rfl) (by kernel_rfl)
  have h38 := @run_callFunc_extern Tryd.prog 156 _ (ReflectliteType.relation "Implements" ReflectliteType.implements_) Tryd.func156 (by kernel_rfl) (by kernel_rfl) (by kernel_rfl) (by kernel_rfl)
  have h10 := @run_callFunc_extern Tryd.prog 121 _ ReflectliteType.typeOf Tryd.func121 (by kernel_rfl) (by kernel_rfl) (by kernel_rfl) (by kernel_rfl)
  have h35 := @run_callFunc_extern Tryd.prog 153 _ (ReflectliteType.relation "AssignableTo" ReflectliteType.assignableTo) Tryd.func153 (by kernel_rfl) (by kernel_rfl) (by kernel_rfl) (by kernel_rfl)
  have h11 := @run_callFunc_extern Tryd.prog 124 _ (ReflectliteValue.method (ReflectliteValue.valueError "reflectlite.Value.Elem" 0) ReflectliteValue.elem) Tryd.func124 (by kernel_rfl) (by kernel_rfl) (by kernel_rfl) (by kernel_rfl)
  have h12 := @run_callFunc_extern Tryd.prog 125 _ ReflectliteValue.set Tryd.func125 (by kernel_rfl) (by kernel_rfl) (by kernel_rfl) (by kernel_rfl)
  have tO := isTypeOf
  have mA := q_methodAssignableTo
  have a25 := q_assignNo
  have f6 := q_valueOf
  have f7 := q_type
  have mK := q_methodKind
  have mE := q_methodElem
  have mI := q_methodImplements
  have k27 := q_kindP
  have k25 := q_kindQ
  have e27 := q_elem
  have i25 := q_implements
  have nE := noAsE
  have uE := noUnwrapE
  have vE := noUnwrapsE
  have hM1 := hM.alloc 113 1 (fun _ => .pointer (some ⟨t, 0, none⟩))
  have hM2 := hM1.alloc 140 3 (h3 (.pointer (some ⟨9, 113, none⟩)) (.pointer (some ⟨w.heap.size, 0, none⟩)) (.int .u64 150))
  rw [show arr 1 (fun _ => Value.pointer (some ⟨t, 0, none⟩)) = #[.pointer (some ⟨t, 0, none⟩)] from rfl, show ∀ a b c : Value, arr 3 (h3 a b c) = #[a, b, c] from fun _ _ _ => rfl] at hM2
  have n8 := q_isNil ⟨w.heap.size, 0, none⟩ ⟨t, 0, none⟩ _ ((hM2.ats 1 _ _ _ rfl).cell (by omega))
  have hg2 := (hM2.below.cell (block_lt_of_cell hg)).trans hg
  have hM3 := hM2.alloc 140 3 (h3 (.pointer (some ⟨9, 113, none⟩)) (.pointer (some ⟨w.heap.size, 0, none⟩)) (.int .u64 150))
  rw [show ∀ a b c : Value, arr 3 (h3 a b c) = #[a, b, c] from fun _ _ _ => rfl] at hM3
  have hM6 := hM3.drop.drop.drop
  have HM6 := Lib.hid hM6
  clear hM hM1 hM2 hM3 hM6
  unfold errV
  go_enter Tryd.func94, Tryd.ntmps94
  go_wp2
  refine wp_loop_rounds 1 ?_
  rw [rounds_succ]
  go_wp2
  go_ret
  exact ⟨rfl, HM6.out⟩
end Go.Proofs.YthodkbmenndnoaaDoor

