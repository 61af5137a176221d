/-
  spec.l01Hurdles and (impl.Pasture).countHurdles by contracts, both CountHurdles; laws.FnExactCountHurdles returns true.
-/
import Derived.Test.YtdlfhomnlhdacaaDoorCount
namespace Go.Proofs.YtdlfhomnlhdacaaDoor
open Go Go.RowKit Go.BigFrame

/-- How many bits of a row are 1. -/
def bitsN (x : Int) : Nat := popF 16 x.toNat
/-- How many hurdles the first rows have. -/
def hurTo (g : Nat → Int) : Nat → Nat
  | 0 => 0
  | n + 1 => hurTo g n + (bitsN (g (102 + n)) + bitsN (g (112 + n)))
theorem hurTo_succ (g : Nat → Int) (n : Nat) : hurTo g (n + 1) = hurTo g n + (bitsN (g (102 + n)) + bitsN (g (112 + n))) := rfl
theorem hurTo_zero (g : Nat → Int) : hurTo g 0 = 0 := rfl
theorem bitsN_le (x : Int) : bitsN x ≤ 16 := popF_le 16 _
theorem hurTo_le (g : Nat → Int) : ∀ n, hurTo g n ≤ 32 * n
  | 0 => Nat.le_refl _
  | n + 1 => by have := hurTo_le g n; have := bitsN_le (g (102 + n)); have := bitsN_le (g (112 + n)); rw [hurTo]; omega
theorem andNot_zero (x : Int) (h : 0 ≤ x ∧ x ≤ 65535) : bits .andNot .u16 x 0 = x := by
  show IntKind.u16.wrap ((BitVec.ofInt 16 x &&& ~~~(BitVec.ofInt 16 0)).toNat : Int) = x
  have e : (BitVec.ofInt 16 x &&& ~~~(BitVec.ofInt 16 0)) = BitVec.ofInt 16 x := by
    rw [show (~~~(BitVec.ofInt 16 0) : BitVec 16) = BitVec.allOnes 16 by decide, BitVec.and_allOnes]
  rw [e, BitVec.toNat_ofInt, IntWalk.u16_in _ (by omega)]
  omega
theorem hurTo_rest (g : Nat → Int) (hg : Fits g) (h : okB g = true) : ∀ n : Nat, g 1 ≤ n → n ≤ 10 → hurTo g n = hurTo g (g 1).toNat
  | 0, h0, _ => by rw [show (g 1).toNat = 0 by omega]
  | n + 1, h0, h1 => by
    by_cases e : g 1 = ((n + 1 : Nat) : Int)
    · rw [e]; rfl
    · have hr : rowOk g n = true := by
        cases hr : rowOk g n
        · rw [okB_no (by omega) hr] at h; cases h
        · rfl
      have hE : badE g n = false := by cases hb : badE g n; · rfl
                                       · rw [rowOk_E hb] at hr; cases hr
      have hS : badS g n = false := by cases hb : badS g n; · rfl
                                       · rw [rowOk_S hb] at hr; cases hr
      rw [badE_out (by omega), andNot_zero _ (hg.bits _ (by omega) (by omega))] at hE
      rw [badS_out (by omega), andNot_zero _ (hg.bits _ (by omega) (by omega))] at hS
      have zE : g (102 + n) = 0 := by simpa using hE
      have zS : g (112 + n) = 0 := by simpa using hS
      have hz : bitsN 0 = 0 := popF_zero 16
      rw [hurTo, zE, zS, hz, hurTo_rest g hg h n (by omega) (by omega)]
      rfl

theorem l01Bits_int (x : Int) (h : 0 ≤ x ∧ x ≤ 65535) (w : World) :
    Calls Tryd.prog 96 #[.int .u16 x] w fun e w' => e = .returned (.int .i64 (bitsN x)) ∧ Below w.heap.size w w' := by
  have := l01Bits_any x.toNat (by omega) w
  rw [show ((x.toNat : Nat) : Int) = x by omega] at this
  exact this
theorem ones_int (x : Int) (h : 0 ≤ x ∧ x ≤ 65535) (w : World) :
    Calls Tryd.prog 97 #[.int .u16 x] w fun e w' => e = .returned (.int .i64 (bitsN x)) ∧ Below w.heap.size w w' := by
  have := ones_any x.toNat (by omega) w
  rw [show ((x.toNat : Nat) : Int) = x by omega] at this
  exact this

attribute [irreducible] bitsN hurTo

set_option maxRecDepth 100000 in
set_option maxHeartbeats 1000000 in
theorem l01Hurdles_any (g : Nat → Int) (hg : Fits g) (bp : Nat) (w : World) (hA : At w bp 122 (pas g)) :
    Calls Tryd.prog 72 #[.pointer (some ⟨bp, 0, none⟩)] w fun e w' => e = .returned (.int .i64 (hurTo g 10)) ∧ Below w.heap.size w w' := by
  have hM : Mem w [(bp, 122, pas g)] w := (Mem.nil w).old hA (fun i p h => by simp at h)
  have Hbt := Lib.hid hg.bits
  clear hg
  go_enter Tryd.func72, Tryd.ntmps72
  go_wp2
  go_loopw [3, 4] (fun s y wr => ∃ k : Nat, k ≤ 10 ∧ s = .int .i64 (hurTo g k) ∧ y = .int .i64 k ∧ Mem w [(bp, 122, pas g)] wr) (fun _ y _ => 10 - (intOf y).toNat)
  case atStart => exact ⟨0, by omega, by rw [hurTo_zero]; rfl, rfl, hM⟩
  case round =>
    clear hM
    obtain ⟨k, hk, rfl, rfl, hM⟩ := hrel
    by_cases hlt : k < 10
    · have lk : (k : Int) < 10 := by omega
      have lkd : decide ((k : Int) < 10) = true := decide_eq_true (by omega)
      obtain ⟨u, hu⟩ : ∃ u, g (102 + k) = u := ⟨_, rfl⟩
      obtain ⟨v, hv⟩ : ∃ v, g (112 + k) = v := ⟨_, rfl⟩
      have eE : pas g (102 + k) = .int .u16 u := by rw [pas_u16 g (by omega), hu]
      have eS : pas g (112 + k) = .int .u16 v := by rw [pas_u16 g (by omega), hv]
      have hE : 0 ≤ u ∧ u ≤ 65535 := by rw [← hu]; exact Hbt.out (102 + k) (by omega) (by omega)
      have hS : 0 ≤ v ∧ v ≤ 65535 := by rw [← hv]; exact Hbt.out (112 + k) (by omega) (by omega)
      have lT := hurTo_le g k
      have l1 := bitsN_le u
      have l2 := bitsN_le v
      have hs := hurTo_succ g k
      rw [hu, hv] at hs
      have c1 : IntKind.i64.wrap ((bitsN u : Int) + (bitsN v : Int)) = ((bitsN u + bitsN v : Nat) : Int) := by rw [IntWalk.i64_in _ (by omega)]; omega
      have c2 : IntKind.i64.wrap ((hurTo g k : Int) + ((bitsN u : Int) + (bitsN v : Int))) = (hurTo g (k + 1) : Int) := by rw [hs, IntWalk.i64_in _ (by omega)]; omega
      have c3 : IntKind.i64.wrap ((k : Int) + 1) = ((k + 1 : Nat) : Int) := by rw [IntWalk.i64_in _ (by omega)]; omega
      clear lT l1 l2 hs hu hv
      go_wp2
      ((try simp only [Act.put, List.setIfInBounds_toArray, List.set_cons_succ, List.set_cons_zero]); refine wp_region_mem (by kernel_rfl) (by kernel_rfl) hM ?_; clear hM; (repeat (first | go_big_quiet_skip | (go_big_quiet_want; first | (refine quiet_get1 _ _ rfl _ _ rfl 0 rfl (cellTab _ rfl) (by omega) _ (eE) ?_; (simp only [Act.put, List.setIfInBounds_toArray, List.set_cons_succ, List.set_cons_zero]); go_big_quiet_on) | (refine quiet_get1 _ _ rfl _ _ rfl 0 rfl (cellTab _ rfl) (by omega) _ (eS) ?_; (simp only [Act.put, List.setIfInBounds_toArray, List.set_cons_succ, List.set_cons_zero]); go_big_quiet_on) | (refine quiet_call ?_; apply Exists.intro; apply Exists.intro; apply Exists.intro; refine ⟨fun W => ?_, fun W hM => ?_, ?_⟩; (go_simp; exact ⟨rfl, rfl⟩); (with_reducible exact l01Bits_int u hE W); (simp only [Act.put, List.setIfInBounds_toArray, List.set_cons_succ, List.set_cons_zero]); go_big_quiet_on) | (refine quiet_call ?_; apply Exists.intro; apply Exists.intro; apply Exists.intro; refine ⟨fun W => ?_, fun W hM => ?_, ?_⟩; (go_simp; exact ⟨rfl, rfl⟩); (with_reducible exact l01Bits_int v hS W); (simp only [Act.put, List.setIfInBounds_toArray, List.set_cons_succ, List.set_cons_zero]); go_big_quiet_on) | (refine quiet_val ?_; apply Exists.intro; refine ⟨fun W => ?_, ?_⟩; (go_simp; (try simp only [lk, c1, c2, if_true, Bool.false_eq_true, if_false]); rfl); (simp only [Act.put, List.setIfInBounds_toArray, List.set_cons_succ, List.set_cons_zero]); go_big_quiet_on)))); (with_reducible refine wpQuiet_nil ?_); intro W' hM)
      go_wp2
      go_roundw
      case rel => exact ⟨k + 1, by omega, rfl, by go_num, hM⟩
      case measure => simp [intOf]; omega
    · obtain rfl : k = 10 := by omega
      go_wp2
      go_ret
      exact ⟨rfl, hM.below⟩

set_option maxRecDepth 100000 in
set_option maxHeartbeats 1000000 in
theorem countHurdles_any (g : Nat → Int) (hg : Fits g) (ho : okB g = true) (w : World) :
    Calls Tryd.prog 73 #[.agg (arr 122 (pas g))] w fun e w' => e = .returned (.int .i64 (hurTo g 10)) ∧ Below w.heap.size w w' := by
  have hM := Mem.nil w
  have Hbt := Lib.hid hg.bits
  have b1 : 0 ≤ g 1 ∧ g 1 ≤ 10 := by
    cases b : inB 1 10 (g 1)
    · simp [okB, b] at ho
    · have := inB_true b; omega
  obtain ⟨m, hm⟩ : ∃ m : Nat, g 1 = m := ⟨(g 1).toNat, by omega⟩
  have hm10 : m ≤ 10 := by omega
  have hR : Hid (hurTo g 10 = hurTo g m) := Lib.hid (by rw [hurTo_rest g hg ho 10 (by omega) (by omega), hm]; rfl)
  have e1 : pas g 1 = .int .i8 m := by rw [show pas g 1 = .int .i8 (g 1) from rfl, hm]
  clear hg ho b1 hm
  have tk_b1 : True := trivial
  go_enter Tryd.func73, Tryd.ntmps73
  go_wp2_with (first | (have _t := tk_b1; refine wpList_box rfl _ _ rfl _ _ rfl hM ?_; intro b1 W' hb1 hM'; clear hM tk_b1; have hM := hM'; clear hM') | (refine wpList_get1 rfl _ _ rfl _ _ rfl hM 0 rfl (cellTab _ rfl) (by omega) _ rfl ?_))
  go_loopw [3, 7] (fun s y wr => ∃ k : Nat, k ≤ m ∧ s = .int .i64 (hurTo g k) ∧ y = .int .i8 k ∧ Mem w [(b1, 122, pas g)] wr) (fun _ y _ => 10 - (intOf y).toNat)
  case atStart => exact ⟨0, by omega, by rw [hurTo_zero]; rfl, rfl, hM⟩
  case round =>
    clear hM
    obtain ⟨k, hk, rfl, rfl, hM⟩ := hrel
    by_cases hlt : k < m
    · have lk : (k : Int) < m := by omega
      have lk10 : (k : Int) < 10 := by omega
      have lkd : decide ((k : Int) < m) = true := decide_eq_true (by omega)
      obtain ⟨u, hu⟩ : ∃ u, g (102 + k) = u := ⟨_, rfl⟩
      obtain ⟨v, hv⟩ : ∃ v, g (112 + k) = v := ⟨_, rfl⟩
      have eE : pas g (102 + k) = .int .u16 u := by rw [pas_u16 g (by omega), hu]
      have eS : pas g (112 + k) = .int .u16 v := by rw [pas_u16 g (by omega), hv]
      have hE : 0 ≤ u ∧ u ≤ 65535 := by rw [← hu]; exact Hbt.out (102 + k) (by omega) (by omega)
      have hS : 0 ≤ v ∧ v ≤ 65535 := by rw [← hv]; exact Hbt.out (112 + k) (by omega) (by omega)
      have lT := hurTo_le g k
      have l1 := bitsN_le u
      have l2 := bitsN_le v
      have hs := hurTo_succ g k
      rw [hu, hv] at hs
      have c1 : IntKind.i64.wrap ((bitsN u : Int) + (bitsN v : Int)) = ((bitsN u + bitsN v : Nat) : Int) := by rw [IntWalk.i64_in _ (by omega)]; omega
      have c2 : IntKind.i64.wrap ((hurTo g k : Int) + ((bitsN u : Int) + (bitsN v : Int))) = (hurTo g (k + 1) : Int) := by rw [hs, IntWalk.i64_in _ (by omega)]; omega
      have c3 : IntKind.i8.wrap ((k : Int) + 1) = ((k + 1 : Nat) : Int) := by rw [IntWalk.i8_in _ (by omega)]; omega
      clear lT l1 l2 hs hu hv
      go_wp2
      ((try simp only [Act.put, List.setIfInBounds_toArray, List.set_cons_succ, List.set_cons_zero]); refine wp_region_mem (by kernel_rfl) (by kernel_rfl) hM ?_; clear hM; (repeat (first | go_big_quiet_skip | (go_big_quiet_want; first | (refine quiet_get1 _ _ rfl _ _ rfl 0 rfl (cellTab _ rfl) (by omega) _ (eE) ?_; (simp only [Act.put, List.setIfInBounds_toArray, List.set_cons_succ, List.set_cons_zero]); go_big_quiet_on) | (refine quiet_get1 _ _ rfl _ _ rfl 0 rfl (cellTab _ rfl) (by omega) _ (eS) ?_; (simp only [Act.put, List.setIfInBounds_toArray, List.set_cons_succ, List.set_cons_zero]); go_big_quiet_on) | (refine quiet_call ?_; apply Exists.intro; apply Exists.intro; apply Exists.intro; refine ⟨fun W => ?_, fun W hM => ?_, ?_⟩; (go_simp; exact ⟨rfl, rfl⟩); (with_reducible exact ones_int u hE W); (simp only [Act.put, List.setIfInBounds_toArray, List.set_cons_succ, List.set_cons_zero]); go_big_quiet_on) | (refine quiet_call ?_; apply Exists.intro; apply Exists.intro; apply Exists.intro; refine ⟨fun W => ?_, fun W hM => ?_, ?_⟩; (go_simp; exact ⟨rfl, rfl⟩); (with_reducible exact ones_int v hS W); (simp only [Act.put, List.setIfInBounds_toArray, List.set_cons_succ, List.set_cons_zero]); go_big_quiet_on) | (refine quiet_val ?_; apply Exists.intro; refine ⟨fun W => ?_, ?_⟩; (go_simp; (try simp only [lk, lk10, c1, c2, if_true, Bool.false_eq_true, if_false]); rfl); (simp only [Act.put, List.setIfInBounds_toArray, List.set_cons_succ, List.set_cons_zero]); go_big_quiet_on)))); (with_reducible refine wpQuiet_nil ?_); intro W' hM)
      go_wp2
      go_roundw
      case rel => exact ⟨k + 1, by omega, rfl, by go_num, hM⟩
      case measure => simp [intOf]; omega
    · obtain rfl : k = m := by omega
      go_wp2
      go_ret
      exact ⟨by rw [hR.out]; rfl, hM.below⟩

def hurN (g : Nat → Int) : Int := if okB g then (hurTo g 10 : Int) else 0
def hurC (g : Nat → Int) : Int := if okB g then 0 else 1
theorem hurN_ok {g : Nat → Int} (h : okB g = true) : hurN g = hurTo g 10 := by rw [hurN, h]; rfl
theorem hurN_no {g : Nat → Int} (h : okB g = false) : hurN g = 0 := by rw [hurN, h]; rfl
theorem hurC_ok {g : Nat → Int} (h : okB g = true) : hurC g = 0 := by rw [hurC, h]; rfl
theorem hurC_no {g : Nat → Int} (h : okB g = false) : hurC g = 1 := by rw [hurC, h]; rfl
attribute [irreducible] hurN hurC

set_option maxRecDepth 100000 in
set_option maxHeartbeats 1000000 in
theorem specCountHurdles_any (g : Nat → Int) (hg : Fits g) (w : World) :
    Calls Tryd.prog 28 #[.agg (arr 122 (pas g))] w fun e w' => e = .returned (numR (hurN g) (hurC g)) ∧ Below w.heap.size w w' := by
  have hM := Mem.nil w
  cases ho : okB g
  · have hn := Lib.hid (hurN_no ho)
    have hc := Lib.hid (hurC_no ho)
    have Ho := Lib.hid ho
    clear ho
    have tk_b1 : True := trivial
    go_enter Tryd.func28, Tryd.ntmps28
    go_wp2_with (first | (have _t := tk_b1; refine wpList_box rfl _ _ rfl _ _ rfl hM ?_; intro b1 W' hb1 hM'; clear hM tk_b1; have hM := hM'; clear hM') | (go_at_call 71; refine (l01Ok_any g hg _ _ (hM.ats 0 _ _ _ rfl)).mono ?_; rintro e W' ⟨rfl, hb'⟩; rw [Ho.out]; have hM' := hM.call hb'; clear hM hb'; have hM := hM'; clear hM'))
    go_ret2
    exact ⟨ret_num hn.out.symm hc.out.symm, hM.below⟩
  · have hn := Lib.hid (hurN_ok ho)
    have hc := Lib.hid (hurC_ok ho)
    have Ho := Lib.hid ho
    clear ho
    have tk_b1 : True := trivial
    go_enter Tryd.func28, Tryd.ntmps28
    go_wp2_with (first | (have _t := tk_b1; refine wpList_box rfl _ _ rfl _ _ rfl hM ?_; intro b1 W' hb1 hM'; clear hM tk_b1; have hM := hM'; clear hM') | (go_at_call 71; refine (l01Ok_any g hg _ _ (hM.ats 0 _ _ _ rfl)).mono ?_; rintro e W' ⟨rfl, hb'⟩; rw [Ho.out]; have hM' := hM.call hb'; clear hM hb'; have hM := hM'; clear hM') | (go_at_call 72; refine (l01Hurdles_any g hg _ _ (hM.ats 0 _ _ _ rfl)).mono ?_; rintro e W' ⟨rfl, hb'⟩; have hM' := hM.call hb'; clear hM hb'; have hM := hM'; clear hM'))
    go_ret2
    exact ⟨ret_num hn.out.symm hc.out.symm, hM.below⟩

set_option maxRecDepth 100000 in
set_option maxHeartbeats 1000000 in
theorem implCountHurdles_any {a : Nat → Addr} (g : Nat → Int) (hg : Fits g) (w : World) (hE : Errs a w) :
    Calls Tryd.prog 29 #[.agg (arr 122 (pas g))] w fun e w' => e = .returned (numR (hurN g) (hurC g)) ∧ Below w.heap.size w w' := by
  have hM := Mem.nil w
  have HE := Lib.hid hE
  clear hE
  cases ho : okB g
  · have hn := Lib.hid (hurN_no ho)
    have hc := Lib.hid (hurC_no ho)
    have Ho : Hid (validB g = false) := Lib.hid (by rw [← okB_eq]; exact ho)
    clear ho
    have tk_b1 : True := trivial
    go_enter Tryd.func29, Tryd.ntmps29
    go_wp2_with (first | (have _t := tk_b1; refine wpList_box rfl _ _ rfl _ _ rfl hM ?_; intro b1 W' hb1 hM'; clear hM tk_b1; have hM := hM'; clear hM') | (refine wpList_get rfl _ _ rfl _ _ rfl hM 0 rfl (rowTab _ _ rfl) (by omega) ?_) | (go_at_call 60; refine (checkCells_bad g hg _ _ (HE.out.below hM.below) Ho.out).mono ?_; rintro e W' ⟨rfl, hb'⟩; have hM' := hM.call hb'; clear hM hb'; have hM := hM'; clear hM') | (go_at_call 53; (with_reducible refine (codeOf_0 (HE.out.below hM.below)).mono ?_); rintro e W' ⟨rfl, rfl⟩))
    go_ret2
    exact ⟨ret_num hn.out.symm hc.out.symm, hM.below⟩
  · have hn := Lib.hid (hurN_ok ho)
    have hc := Lib.hid (hurC_ok ho)
    have Ho : Hid (validB g = true) := Lib.hid (by rw [← okB_eq]; exact ho)
    have Hk := Lib.hid ho
    clear ho
    have tk_b1 : True := trivial
    go_enter Tryd.func29, Tryd.ntmps29
    go_wp2_with (first | (have _t := tk_b1; refine wpList_box rfl _ _ rfl _ _ rfl hM ?_; intro b1 W' hb1 hM'; clear hM tk_b1; have hM := hM'; clear hM') | (refine wpList_get rfl _ _ rfl _ _ rfl hM 0 rfl (rowTab _ _ rfl) (by omega) ?_) | (go_at_call 60; refine (checkCells_nil g hg _ Ho.out).mono ?_; rintro e W' ⟨rfl, hb'⟩; have hM' := hM.call hb'; clear hM hb'; have hM := hM'; clear hM') | (go_at_call 73; refine (countHurdles_any g hg Hk.out _).mono ?_; rintro e W' ⟨rfl, hb'⟩; have hM' := hM.call hb'; clear hM hb'; have hM := hM'; clear hM'))
    go_ret2
    exact ⟨ret_num hn.out.symm hc.out.symm, hM.below⟩

set_option maxRecDepth 100000 in
set_option maxHeartbeats 1000000 in
theorem lawCountHurdles_any {a : Nat → Addr} (g : Nat → Int) (hg : Fits g) (w : World) (hE : Errs a w) :
    Calls Tryd.prog 8 #[.agg (arr 122 (pas g))] w fun e w' => e = .returned (.bool true) ∧ Below w.heap.size w w' := by
  have hM := Mem.nil w
  have HE := Lib.hid hE
  have H1 := Lib.hid (numR_eq (hurN g) (hurC g))
  clear hE
  have tk_b1 : True := trivial
  go_enter Tryd.func8, Tryd.ntmps8
  go_wp2_with (first | (have _t := tk_b1; refine wpList_box rfl _ _ rfl _ _ rfl hM ?_; intro b1 W' hb1 hM'; clear hM tk_b1; have hM := hM'; clear hM') | (refine wpList_get rfl _ _ rfl _ _ rfl hM 0 rfl (rowTab _ _ rfl) (by omega) ?_) | (go_at_call 19; refine (toPasture_any _ (fun _ => rfl) _).mono ?_; rintro e W' ⟨rfl, hb'⟩; have hM' := hM.call hb'; clear hM hb'; have hM := hM'; clear hM') | (go_at_call 28; refine (specCountHurdles_any g hg _).mono ?_; rintro e W' ⟨rfl, hb'⟩; rw [H1.out]; have hM' := hM.call hb'; clear hM hb'; have hM := hM'; clear hM') | (go_at_call 29; refine (implCountHurdles_any g hg _ (HE.out.below hM.below)).mono ?_; rintro e W' ⟨rfl, hb'⟩; rw [H1.out]; have hM' := hM.call hb'; clear hM hb'; have hM := hM'; clear hM'))
  go_ret
  exact ⟨rfl, hM.below⟩
end Go.Proofs.YtdlfhomnlhdacaaDoor
