/-
  Several texts in one: PickJ, PickS, PickR, PickC.
-/
import Derived.Test.YthodkbmenndnoaaDoorP18
import Derived.Test.YthodkbmenndnoaaDoorP15
import Derived.Test.YthodkbmenndnoaaDoorP11
import Derived.Test.YthodkbmenndnoaaDoorP16
import Derived.Test.YthodkbmenndnoaaDoorP12
/-
  impl.PickHerd by contract.
-/
namespace Go.Proofs.YthodkbmenndnoaaDoor
open Go Go.RowKit Go.BigFrame

set_option maxRecDepth 100000 in
set_option maxHeartbeats 8000000 in
theorem implPickHerd_any {a : Nat → Addr} (d : Hd) (b1 b2 b3 : Nat) (hd : FitsH d) (bg n : Nat) (ys : Nat → Int) (hn : n ≤ 1048576) (w : World) (hM0 : Mem w (hdB d b1 b2 b3) w) (hG : At w bg n (vInt64S ys)) (hE : Errs a w) (hT : Tab w) :
    Calls Tryd.prog 35 #[.agg (arr 3 (hdV d b1 b2 b3)), .slice (some ⟨bg, 0, none⟩) n n] w (GivesH (pkN d n ys) (vStringS (pkD d n ys).ss) (vInt16S (pkD d n ys).es) (vUint16S (pkD d n ys).fs) (pkC d n ys) w) := by
  have hM := Mem.nil w
  have H1 := Lib.hid hM0
  have HE := Lib.hid hE
  have HT := Lib.hid hT
  have HG : Hid (IntsAt w (some ⟨bg, 0, none⟩) n ys) := Lib.hid (.inr ⟨bg, n, vInt64S ys, rfl, Nat.le_refl _, fun _ _ => rfl, hG⟩)
  clear hM0 hE hT hG
  by_cases ha : askC d n ys = 0
  · obtain ⟨hOk, hys⟩ := askC_0 ha
    have h14 := hOk.n
    have hys14 : ∀ j, j < n → 0 ≤ ys j ∧ ys j < 14 := fun j hj => by have := hys j hj; omega
    have HFW := Lib.hid (fun (W : World) hB hE hG => flockWith_own (r := a 1) d b1 b2 b3 hd (some ⟨bg, 0, none⟩) n n ys hn W hB hE hG hOk hys)
    have HGI := Lib.hid (fun (W : World) hA => goatsIn_any (some ⟨bg, 0, none⟩) n n ys hn hys14 W hA)
    have hU : usedU ys n < 65536 := Nat.lt_trans (used_lt (m := 14) fun i hi => by have := hys14 i hi; omega) (by decide)
    have hLen := used_len (ys := ys) (j := n) (fun i hi => by have := hys14 i hi; omega)
    have HCN := Lib.hid (fun (W : World) => count_any (usedU ys n) hU W)
    obtain ⟨hv1, hhv1⟩ : ∃ f, hdV d b1 b2 b3 = f := ⟨_, rfl⟩
    rw [hhv1] at HFW ⊢
    cases hD : dstU ys n
    · have HR := Lib.hid (show pkN d n ys = 0 ∧ pkC d n ys = 4 from by
        have h : pkC d n ys = 4 := by unfold pkC; rw [if_pos ha, hD]; rfl
        exact ⟨by unfold pkN; rw [h]; rfl, h⟩)
      have hlt := hLen.2.1 hD
      obtain ⟨U, hUe⟩ : ∃ U, usedU ys n = U := ⟨_, rfl⟩
      rw [hUe] at HGI HCN hlt
      obtain ⟨N, hN⟩ : ∃ N, d.n1 = N := ⟨_, rfl⟩
      rw [hN] at HFW
      obtain ⟨c, hc⟩ : ∃ c, (bitsL U).length = c := ⟨_, rfl⟩
      rw [hc] at HCN hlt
      have lc : (c : Int) < n := by omega
      rw [HR.out.1, HR.out.2]
      clear ha hOk hys hys14 hU hLen hhv1 hD HR hUe hN hc hlt
      have tk_x1 : True := trivial; have tk_r : True := trivial; have tk_r1 : True := trivial; have tk_w1 : True := trivial; have tk_f6 : True := trivial; have tk_sf6 : True := trivial; have tk_s2 : True := trivial
      go_enter Tryd.func35, Tryd.ntmps35
      go_wp2_with (first | (have _t := tk_x1; refine wpList_box rfl _ _ rfl _ _ rfl hM ?_; intro x1 W' hx1 hM'; clear hM tk_x1; have hM := hM'; clear hM') | (have _t := tk_r; refine wpList_zero rfl _ rfl zeroHerd hM ?_; intro r W' hr hM'; clear hM tk_r; have hM := hM'; clear hM') | (have _t := tk_r1; refine wpList_get rfl _ _ rfl _ _ rfl hM 1 rfl (rowTab _ _ rfl) (by omega) ?_; simp only [Nat.zero_add]; clear tk_r1) | (have _t := tk_w1; go_at_call 64; refine (HFW.out _ ((H1.out.call hM.below).base (Below.refl _ _)) ⟨(HE.out.below hM.below).vars 1 (by omega), HT.out.below hM.below⟩ (HG.out.below hM.below)).mono ?_; rintro e' Wf ⟨ma1, mc1, m1, rfl, hmc1, hMA1, hO, hb'⟩; obtain ⟨K1, hM', hK1⟩ := hMA1.keep hM hb'; have HK1 := Lib.hid hK1; clear hM hb' hO hMA1 hmc1 hK1 tk_w1; have hM := hM'; clear hM'; simp only [List.cons_append, List.nil_append] at hM) | (have _t := tk_f6; refine wpList_zero rfl _ rfl (zeroTab _ _ _ rfl) hM ?_; intro f6 W' hf6 hM'; clear hM tk_f6; have hM := hM'; clear hM') | (have _t := tk_sf6; refine wpList_lay rfl _ _ _ rfl _ _ rfl _ _ rfl hM 0 rfl hf6 (rowTab _ _ rfl) (by omega) (fun k _ => flkV_one _ _ _ _ k) ?_; intro W' hM'; have hM2 := hM'.re 0 rfl (flkV ma1 N mc1 m1) (fun k hk => by simp [lay, hk]); simp only [List.set_cons_zero] at hM2; clear hM hM' tk_sf6; have hM := hM2; clear hM2) | (go_at_call 84; refine (HGI.out _ (HG.out.below hM.below)).mono ?_; rintro e' W' ⟨rfl, hb'⟩; have hM' := hM.call hb'; clear hM hb'; have hM := hM'; clear hM') | (go_at_call 85; refine (HCN.out _).mono ?_; rintro e' W' ⟨rfl, hb'⟩; have hM' := hM.call hb'; clear hM hb'; have hM := hM'; clear hM') | (refine wpList_herd0 rfl rfl ?_) | (have _t := tk_s2; refine wpList_lay rfl _ _ _ rfl _ _ rfl _ _ rfl hM 1 rfl (by assumption) (rowTab _ _ rfl) (by omega) (fun k _ => nil3_one k) ?_; intro W' hM'; clear hM tk_s2; have hM := hM'; clear hM'; simp only [List.set] at hM))
      have hA1 := (hM.ats 1 _ _ _ rfl).congr (g := nil3) (fun j hj => by simp [lay, hj, nil3])
      exact bodyPost_ret (results_at2 rfl _ rfl hA1 rowHerd _ rfl) rfl (GivesH.none hM.below rfl rfl)
    · have hp : pkC d n ys = 0 := by unfold pkC; rw [if_pos ha, if_pos hD]
      have HR := Lib.hid (show pkN d n ys = n ∧ pkC d n ys = 0 from ⟨by unfold pkN; rw [if_pos hp], hp⟩)
      have hn14 := (pk_0 hp).2.2.2.1
      have heq := hLen.1 hD
      have HPK := Lib.hid (fun (ma : Option Addr) (mc : Nat) (W : World) hMA hA => picked_any (m := d.n1) d (fun i hi => hd.f i (by rw [hOk.l3]; exact hi)) ma (some ⟨bg, 0, none⟩) mc n n ys h14 hn14 hys W hMA hA)
      obtain ⟨U, hUe⟩ : ∃ U, usedU ys n = U := ⟨_, rfl⟩
      rw [hUe] at HGI HCN heq
      rw [heq] at HCN
      obtain ⟨N, hN⟩ : ∃ N, d.n1 = N := ⟨_, rfl⟩
      rw [hN] at HFW HPK
      clear ha hOk hys hys14 hU hLen hhv1 hD hUe hN heq hp
      have tk_x1 : True := trivial; have tk_r : True := trivial; have tk_r1 : True := trivial; have tk_w1 : True := trivial; have tk_f6 : True := trivial; have tk_sf6 : True := trivial; have tk_m1 : True := trivial; have tk_h1 : True := trivial; have tk_s2 : True := trivial
      go_enter Tryd.func35, Tryd.ntmps35
      go_wp2_with (first | (have _t := tk_x1; refine wpList_box rfl _ _ rfl _ _ rfl hM ?_; intro x1 W' hx1 hM'; clear hM tk_x1; have hM := hM'; clear hM') | (have _t := tk_r; refine wpList_zero rfl _ rfl zeroHerd hM ?_; intro r W' hr hM'; clear hM tk_r; have hM := hM'; clear hM') | (have _t := tk_r1; refine wpList_get rfl _ _ rfl _ _ rfl hM 1 rfl (rowTab _ _ rfl) (by omega) ?_; simp only [Nat.zero_add]; clear tk_r1) | (have _t := tk_w1; go_at_call 64; refine (HFW.out _ ((H1.out.call hM.below).base (Below.refl _ _)) ⟨(HE.out.below hM.below).vars 1 (by omega), HT.out.below hM.below⟩ (HG.out.below hM.below)).mono ?_; rintro e' Wf ⟨ma1, mc1, m1, rfl, hmc1, hMA1, hO, hb'⟩; obtain ⟨K1, hM', hK1⟩ := hMA1.keep hM hb'; have HK1 := Lib.hid hK1; clear hM hb' hO hMA1 hmc1 hK1 tk_w1; have hM := hM'; clear hM'; simp only [List.cons_append, List.nil_append] at hM) | (have _t := tk_f6; refine wpList_zero rfl _ rfl (zeroTab _ _ _ rfl) hM ?_; intro f6 W' hf6 hM'; clear hM tk_f6; have hM := hM'; clear hM') | (have _t := tk_sf6; refine wpList_lay rfl _ _ _ rfl _ _ rfl _ _ rfl hM 0 rfl hf6 (rowTab _ _ rfl) (by omega) (fun k _ => flkV_one _ _ _ _ k) ?_; intro W' hM'; have hM2 := hM'.re 0 rfl (flkV ma1 N mc1 m1) (fun k hk => by simp [lay, hk]); simp only [List.set_cons_zero] at hM2; clear hM hM' tk_sf6; have hM := hM2; clear hM2) | (go_at_call 84; refine (HGI.out _ (HG.out.below hM.below)).mono ?_; rintro e' W' ⟨rfl, hb'⟩; have hM' := hM.call hb'; clear hM hb'; have hM := hM'; clear hM') | (go_at_call 85; refine (HCN.out _).mono ?_; rintro e' W' ⟨rfl, hb'⟩; have hM' := hM.call hb'; clear hM hb'; have hM := hM'; clear hM') | (have _t := tk_m1; refine wpList_get1 rfl _ _ rfl _ _ rfl hM 0 rfl (cellTab _ rfl) (by omega) (.slice ma1 N mc1) rfl ?_; clear tk_m1) | (go_at_call 86; refine (HPK.out ma1 mc1 _ (HK1.out _ [_, _, _] [] _ (by simpa using hM)).at (HG.out.below hM.below)).mono ?_; rintro e' W' ⟨v, rfl, hL⟩; obtain ⟨ja, jc, rfl, hJA⟩ := hL.goats; have HJA := Lib.hid hJA; have hM' := hM.call hL.mem.below; clear hM hL hJA; have hM := hM'; clear hM') | (have _t := tk_h1; go_at_call 74; refine (herd_any (pkD d n ys) ja n jc (by omega) _ HJA.out).mono ?_; rintro e' W2 ⟨f, rfl, hN⟩; have HO := Lib.hid hN.one; obtain ⟨K, hM', hK⟩ := hN.keep hM; have HK := Lib.hid (And.intro hM.size hK); clear hK hM hN tk_h1; have hM := hM'; clear hM'; simp only [List.cons_append, List.nil_append] at hM) | (have _t := tk_s2; refine wpList_lay rfl _ _ _ rfl _ _ rfl _ _ rfl hM 1 rfl (by assumption) (rowTab _ _ rfl) (by omega) (fun k _ => HO.out k) ?_; intro W' hM'; clear hM tk_s2; have hM := hM'; clear hM'; simp only [List.set, List.cons_append, List.nil_append] at hM))
      have hA1 := (hM.ats 1 _ _ _ rfl).congr (g := f) (fun j hj => by simp [lay, hj])
      refine bodyPost_ret (results_at2 rfl _ rfl hA1 rowHerd _ rfl) rfl ?_
      rw [HR.out.1, HR.out.2]
      exact ⟨_, rfl, HK.out.2 w ([_, _, _] ++ K1) _ HK.out.1 (by simpa using hM)⟩
  · have HFW := Lib.hid (fun (W : World) hB hE hT hG => flockWith_bad (a := a) d b1 b2 b3 hd (some ⟨bg, 0, none⟩) n n ys hn W hB hE hT hG ha)
    have HR := Lib.hid (show pkN d n ys = 0 ∧ pkC d n ys = askC d n ys from by
      have h : pkC d n ys = askC d n ys := by unfold pkC; rw [if_neg ha]
      exact ⟨by unfold pkN; rw [h, if_neg ha], h⟩)
    obtain ⟨hv1, hhv1⟩ : ∃ f, hdV d b1 b2 b3 = f := ⟨_, rfl⟩
    rw [hhv1] at HFW ⊢
    rw [HR.out.1, HR.out.2]
    obtain ⟨C, hC⟩ : ∃ C, askC d n ys = C := ⟨_, rfl⟩
    rw [hC] at HFW ⊢
    clear ha HR hhv1 hC
    have tk_x1 : True := trivial; have tk_r : True := trivial; have tk_r1 : True := trivial; have tk_w1 : True := trivial; have tk_f6 : True := trivial; have tk_sf6 : True := trivial; have tk_s2 : True := trivial
    go_enter Tryd.func35, Tryd.ntmps35
    go_wp2_with (first | (have _t := tk_x1; refine wpList_box rfl _ _ rfl _ _ rfl hM ?_; intro x1 W' hx1 hM'; clear hM tk_x1; have hM := hM'; clear hM') | (have _t := tk_r; refine wpList_zero rfl _ rfl zeroHerd hM ?_; intro r W' hr hM'; clear hM tk_r; have hM := hM'; clear hM') | (have _t := tk_r1; refine wpList_get rfl _ _ rfl _ _ rfl hM 1 rfl (rowTab _ _ rfl) (by omega) ?_; simp only [Nat.zero_add]; clear tk_r1) | (have _t := tk_w1; go_at_call 64; refine (HFW.out _ ((H1.out.call hM.below).base (Below.refl _ _)) (HE.out.below hM.below) (HT.out.below hM.below) (HG.out.below hM.below)).mono ?_; rintro e Wf ⟨ff, ev, rfl, hone, hEv, hb'⟩; have hM' := hM.call hb'; have hN := hEv.neq; have hGd := hEv.guard; have HEv := Lib.hid hEv; have HOne := Lib.hid hone; clear hM hb' hEv hone tk_w1; have hM := hM'; clear hM') | (have _t := tk_f6; refine wpList_zero rfl _ rfl (zeroTab _ _ _ rfl) hM ?_; intro f6 W' hf6 hM'; clear hM tk_f6; have hM := hM'; clear hM') | (have _t := tk_sf6; refine wpList_lay rfl _ _ _ rfl _ _ rfl _ _ rfl hM 0 rfl hf6 (rowTab _ _ rfl) (by omega) HOne.out ?_; intro W' hM'; have hM2 := hM'; simp only [List.set_cons_zero] at hM2; clear hM hM' tk_sf6; have hM := hM2; clear hM2) | (go_at_call 65; refine (HEv.out.code (HE.out.below hM.below)).mono ?_; rintro e W' ⟨rfl, rfl⟩) | (refine wpList_herd0 rfl rfl ?_) | (have _t := tk_s2; refine wpList_lay rfl _ _ _ rfl _ _ rfl _ _ rfl hM 1 rfl (by assumption) (rowTab _ _ rfl) (by omega) (fun k _ => nil3_one k) ?_; intro W' hM'; clear hM tk_s2; have hM := hM'; clear hM'; simp only [List.set] at hM))
    have hA1 := (hM.ats 1 _ _ _ rfl).congr (g := nil3) (fun j hj => by simp [lay, hj, nil3])
    exact bodyPost_ret (results_at2 rfl _ rfl hA1 rowHerd _ rfl) rfl (GivesH.none hM.below rfl rfl)
end Go.Proofs.YthodkbmenndnoaaDoor

/-
  spec.PickHerd: the mathematics of its inner loop.
-/
namespace Go.Proofs.YthodkbmenndnoaaDoor
open Go Go.RowKit

theorem minus_none {s k : Nat} (hs : s < 65536) (hb : s.testBit k = false) : minus s (2 ^ k) = s := Nat.eq_of_testBit_eq fun j => by
  rw [minus_bit hs, Nat.testBit_two_pow]
  by_cases e : k = j
  · subst e; rw [hb]; rfl
  · simp [e]
theorem putB_new {s k : Nat} {on : Bool} (hs : s < 2 ^ k) (hk : k ≤ 16) : putB s k on = if on = true then s ||| 2 ^ k else s := by
  unfold putB
  rw [minus_none (Nat.lt_of_lt_of_le hs (Nat.pow_le_pow_right (by decide) hk)) (Nat.testBit_lt_two_pow hs)]
/-- The foes of the picked goats when k foes of the i-th were looked at. -/
def pkF (d : Hd) (ys : Nat → Int) (i k j : Nat) : Nat := if j < k then pkU d ys j (i + 1) else if j = i then pkU d ys i k else pkU d ys j i
theorem pkF_zero {d : Hd} {ys : Nat → Int} {i j : Nat} (hj : j < i) : pkF d ys i 0 j = pkU d ys j i := by
  unfold pkF
  rw [if_neg (by omega), if_neg (by omega)]
theorem pkF_new {d : Hd} {ys : Nat → Int} {i : Nat} : pkF d ys i 0 i = 0 := by
  unfold pkF
  rw [if_neg (by omega), if_pos rfl]
  rfl
/-- One round: the i-th and the k-th told of each other. -/
theorem pkF_step {d : Hd} {ys : Nat → Int} {i k : Nat} (hk : k < i) (hi : i < 14) (hsy : foe d (ys i).toNat (ys k).toNat = foe d (ys k).toNat (ys i).toNat) (j : Nat) (hj : j ≤ i) :
    pkF d ys i (k + 1) j = if j = i then putB (pkF d ys i k i) k (foe d (ys i).toNat (ys k).toNat) else if j = k then putB (pkF d ys i k k) i (foe d (ys i).toNat (ys k).toNat) else pkF d ys i k j := by
  have h1 : pkF d ys i k i = pkU d ys i k := by unfold pkF; rw [if_neg (by omega), if_pos rfl]
  have h2 : pkF d ys i k k = pkU d ys k i := by unfold pkF; rw [if_neg (by omega), if_neg (by omega)]
  have p1 := putB_new (on := foe d (ys i).toNat (ys k).toNat) (pkU_lt d ys i k) (show k ≤ 16 by omega)
  have p2 := putB_new (on := foe d (ys i).toNat (ys k).toNat) (pkU_lt d ys k i) (show i ≤ 16 by omega)
  rw [h1, h2, p1, p2]
  by_cases e1 : j = i
  · subst e1
    rw [if_pos rfl]
    unfold pkF
    rw [if_neg (by omega), if_pos rfl]
    rfl
  · rw [if_neg e1]
    by_cases e2 : j = k
    · subst e2
      rw [if_pos rfl]
      unfold pkF
      rw [if_pos (by omega), hsy]
      rfl
    · rw [if_neg e2]
      unfold pkF
      by_cases e3 : j < k
      · rw [if_pos (by omega), if_pos e3]
      · rw [if_neg (by omega), if_neg e3]
        rw [if_neg e1, if_neg e1]
theorem pkF_end {d : Hd} {ys : Nat → Int} {i j : Nat} (hself : foe d (ys i).toNat (ys i).toNat = false) (hj : j ≤ i) : pkF d ys i i j = pkU d ys j (i + 1) := by
  unfold pkF
  by_cases e : j < i
  · rw [if_pos e]
  · obtain rfl : j = i := by omega
    rw [if_neg e, if_pos rfl]
    simp only [pkU]
    rw [hself]
    rfl
theorem pkF_lt {d : Hd} {ys : Nat → Int} {i k j : Nat} (hi : i < 14) (hk : k ≤ i) : pkF d ys i k j < 65536 := by
  have h (x q : Nat) (hq : q ≤ 14) : pkU d ys x q < 65536 := Nat.lt_of_lt_of_le (pkU_lt d ys x q) (Nat.pow_le_pow_right (by decide) (show q ≤ 16 by omega))
  unfold pkF
  split
  · exact h _ _ (by omega)
  · split
    · exact h _ _ (by omega)
    · exact h _ _ (by omega)
end Go.Proofs.YthodkbmenndnoaaDoor

/-
  spec.PickHerd: the regions that append, by theorems of their own.
-/
namespace Go.Proofs.YthodkbmenndnoaaDoor
open Go Go.RowKit Go.BigFrame
noncomputable def pick0 : Code := Tryd.f33.body.getD .skip

set_option maxRecDepth 100000 in
set_option maxHeartbeats 4000000 in
theorem pick16_any (sk : ByteArray) (b0 : Base) (L : Blocks) (x1 o k y n2 c2 f1 N2 b m n bg gn gc Ng : Nat) (F G2 GG hv R : Nat → Value) (A B C : Value) (hk : k < gn) (hy : y < n2) (q1 : hv 0 = .slice (some ⟨f1, 0, none⟩) n2 c2) (hN2 : n2 ≤ N2) (hNg : gn ≤ Ng) (s1 : G2 y = .string sk) (g1 : GG k = .int .i64 (y : Int)) (hb : b0.B ≤ b) (ho : b0.B ≤ o) (hn : n ≤ 1048576) (hnm : n ≤ m) (hF : ∀ j, j < n * 1 → F j = R j) (hV : ∀ j, j < 1 → Value.string sk = R (n * 1 + j))
    (W0 : World) (hW0 : ∀ W, b0.G W → Below W0.heap.size W0 W) (HE1 : At W0 f1 N2 G2) (HGA : At W0 bg Ng GG)
    (t0 t3 t4 t5 t6 t7 t8 t11 t12 t13 t14 t15 t16 t17 t18 t19 t20 t21 t22 t23 t24 t25 t26 t27 t28 t29 t30 t31 t32 t33 t34 t35 t36 t37 t38 t39 t40 t41 t42 t43 t44 t45 t46 t47 t48 t49 t50 t51 t52 t53 t54 t55 t56 t57 t58 t59 t60 t61 t62 t63 t64 t65 t66 t67 t68 t69 t70 t71 t72 t73 t74 t75 t76 t77 t78 t79 t80 t81 t82 t83 t84 t85 t86 t87 t88 t89 t90 t91 t92 t93 t94 : Value) (W : World) (hM0 : Mem b0 ((b, m * 1, F) :: (o, 3, h3 (.slice (some ⟨b, 0, none⟩) n m) B C) :: (x1, 3, hv) :: L) W) :
    (cL (cX (cL (cR (cX (cX (cR (cL (cR (cR (cR (cR (pick0))))))))))))).wp Tryd.prog (fun e a' w' => e = .normal ∧ ∃ v46 v47 v48 v49 v50 v51 v52 v53 v54 v55 v56 v57 v58 g i G, a' = ⟨(List.toArray (t0 :: .slice (some ⟨bg, 0, none⟩) gn gc :: .pointer (some ⟨x1, 0, none⟩) :: t3 :: t4 :: t5 :: t6 :: t7 :: t8 :: .pointer (some ⟨o, 0, none⟩) :: .int .i64 (k : Int) :: t11 :: t12 :: t13 :: t14 :: t15 :: t16 :: t17 :: t18 :: t19 :: t20 :: t21 :: t22 :: t23 :: t24 :: t25 :: t26 :: t27 :: t28 :: t29 :: t30 :: t31 :: t32 :: t33 :: t34 :: t35 :: t36 :: t37 :: t38 :: t39 :: t40 :: t41 :: t42 :: t43 :: t44 :: t45 :: v46 :: v47 :: v48 :: v49 :: v50 :: v51 :: v52 :: v53 :: v54 :: v55 :: v56 :: v57 :: v58 :: t59 :: t60 :: t61 :: t62 :: t63 :: t64 :: t65 :: t66 :: t67 :: t68 :: t69 :: t70 :: t71 :: t72 :: t73 :: t74 :: t75 :: t76 :: t77 :: t78 :: t79 :: t80 :: t81 :: t82 :: t83 :: t84 :: t85 :: t86 :: t87 :: t88 :: t89 :: t90 :: t91 :: t92 :: t93 :: t94 :: [])), []⟩ ∧ b0.B ≤ g ∧ n + 1 ≤ i ∧ (∀ j, j < (n + 1) * 1 → G j = R j) ∧ Mem b0 ((g, i * 1, G) :: (o, 3, h3 (.slice (some ⟨g, 0, none⟩) (n + 1) i) B C) :: (x1, 3, hv) :: L) w') ⟨(List.toArray (t0 :: .slice (some ⟨bg, 0, none⟩) gn gc :: .pointer (some ⟨x1, 0, none⟩) :: t3 :: t4 :: t5 :: t6 :: t7 :: t8 :: .pointer (some ⟨o, 0, none⟩) :: .int .i64 (k : Int) :: t11 :: t12 :: t13 :: t14 :: t15 :: t16 :: t17 :: t18 :: t19 :: t20 :: t21 :: t22 :: t23 :: t24 :: t25 :: t26 :: t27 :: t28 :: t29 :: t30 :: t31 :: t32 :: t33 :: t34 :: t35 :: t36 :: t37 :: t38 :: t39 :: t40 :: t41 :: t42 :: t43 :: t44 :: t45 :: t46 :: t47 :: t48 :: t49 :: t50 :: t51 :: t52 :: t53 :: t54 :: t55 :: t56 :: t57 :: t58 :: t59 :: t60 :: t61 :: t62 :: t63 :: t64 :: t65 :: t66 :: t67 :: t68 :: t69 :: t70 :: t71 :: t72 :: t73 :: t74 :: t75 :: t76 :: t77 :: t78 :: t79 :: t80 :: t81 :: t82 :: t83 :: t84 :: t85 :: t86 :: t87 :: t88 :: t89 :: t90 :: t91 :: t92 :: t93 :: t94 :: [])), []⟩ W := by
  have hM := hM0
  have HF := Lib.hid hF
  have HV := Lib.hid hV
  have HE := Lib.hid HE1
  have HG := Lib.hid HGA
  have HW0 := Lib.hid hW0
  have l2 : (k : Int) < gn := by omega
  have l3 : (y : Int) < n2 := by omega
  have hkN : k < Ng := by omega
  have hyN : y < N2 := by omega
  have hcell : Hid (∀ W, Mem b0 ((x1, 3, hv) :: L) W → W.cell? ⟨f1, y, none⟩ = some (.string sk)) := Lib.hid (fun W h => ((HE.out.below (HW0.out W h.good) HE.out.lt).cell hyN).trans (congrArg some s1))
  have hgoat : Hid (∀ W, Mem b0 ((x1, 3, hv) :: L) W → W.cell? ⟨bg, k, none⟩ = some (.int .i64 (y : Int))) := Lib.hid (fun W h => ((HG.out.below (HW0.out W h.good) HG.out.lt).cell hkN).trans (congrArg some g1))
  clear hM0 hF hV HE1 hW0 HGA
  conv => arg 2; whnf
  ((try simp only [Act.put, List.setIfInBounds_toArray, List.set_cons_succ, List.set_cons_zero]); refine region_readsX [0, 2, 3, 4, 5, 6, 7, 8, 9] #[true, false, true, true, true, true, true, true, true, true, false, false, false, false] 5 [(b, m * 1, F), (o, 3, h3 (.slice (some ⟨b, 0, none⟩) n m) B C)] (by kernel_rfl) (by kernel_rfl) (by kernel_rfl) hM ?_; clear hM; (repeat (refine qs_plain rfl rfl ?_; first | (refine b_get1 _ _ rfl _ _ rfl 0 rfl (cellTab _ rfl) (by omega) _ (q1) ?_; (simp only [Act.put, List.setIfInBounds_toArray, List.set_cons_succ, List.set_cons_zero])) | (refine b_old _ _ rfl _ _ rfl (cellTab _ rfl) (.string sk) (fun W hM => hcell.out W hM) ?_; (simp only [Act.put, List.setIfInBounds_toArray, List.set_cons_succ, List.set_cons_zero])) | (refine b_old _ _ rfl _ _ rfl (cellTab _ rfl) (.int .i64 (y : Int)) (fun W hM => hgoat.out W hM) ?_; (simp only [Act.put, List.setIfInBounds_toArray, List.set_cons_succ, List.set_cons_zero])) | (refine b_val ?_; apply Exists.intro; refine ⟨fun W => ?_, ?_⟩; (go_simp; (try simp only [l2, l3, if_true]); rfl); (simp only [Act.put, List.setIfInBounds_toArray, List.set_cons_succ, List.set_cons_zero])))); (with_reducible refine qs_nil ?_))
  (refine mix_two (i := 1) (j := 10) (by kernel_rfl) rfl rfl (by kernel_rfl) (by kernel_rfl) rfl rfl ?_ ?_)
  · (refine step_getx _ _ rfl _ _ rfl 1 rfl (cellTab _ rfl) (by omega) (.slice (some ⟨b, 0, none⟩) n m) rfl ?_; (simp only [Act.put, List.setIfInBounds_toArray, List.set_cons_succ, List.set_cons_zero]))
    (refine mix_one (i := 10) (by kernel_rfl) rfl (by kernel_rfl) rfl ?_)
    (refine step_lit1 _ _ _ rfl (.string sk) rfl rfl _ str_under str_infoR ?_; intro l hl; (simp only [Act.put, List.setIfInBounds_toArray, List.set_cons_succ, List.set_cons_zero]))
    (refine mix_one (i := 11) (by kernel_rfl) rfl (by kernel_rfl) rfl ?_)
    (refine step_push1 _ _ _ rfl _ 1 _ _ str_under infoStringS rfl (by omega) _ _ _ _ rfl hb hnm hn _ _ rfl cst_one R HF.out HV.out ?_; intro g i G hg hi hG; (simp only [Act.put, List.setIfInBounds_toArray, List.set_cons_succ, List.set_cons_zero]))
    (refine mix_one (i := 12) (by kernel_rfl) rfl (by kernel_rfl) rfl ?_)
    (refine step_val ?_; apply Exists.intro; refine ⟨fun W => ?_, ?_⟩; (go_simp; rfl); (simp only [Act.put, List.setIfInBounds_toArray, List.set_cons_succ, List.set_cons_zero]))
    (refine mix_one (i := 13) (by kernel_rfl) rfl (by kernel_rfl) rfl ?_)
    (refine step_set1 _ _ _ rfl _ _ rfl (.slice (some ⟨g, 0, none⟩) (n + 1) i) rfl rfl 1 rfl ho (cellTab _ rfl) (by omega) ?_; simp only [List.set]; (simp only [Act.put, List.setIfInBounds_toArray, List.set_cons_succ, List.set_cons_zero]))
    (refine mix_end (by kernel_rfl) ?_; intro W' hM; simp only [List.cons_append, List.nil_append] at hM)
    have hM2 := hM.re 1 rfl (h3 (.slice (some ⟨g, 0, none⟩) (n + 1) i) B C) (h3_upd.1)
    simp only [List.set_cons_succ, List.set_cons_zero] at hM2
    exact ⟨rfl, _, _, _, _, _, _, _, _, _, _, _, _, _, g, i, G, rfl, hg, hi, hG, hM2⟩
  · (refine step_lit1 _ _ _ rfl (.string sk) rfl rfl _ str_under str_infoR ?_; intro l hl; (simp only [Act.put, List.setIfInBounds_toArray, List.set_cons_succ, List.set_cons_zero]))
    (refine mix_one (i := 1) (by kernel_rfl) rfl (by kernel_rfl) rfl ?_)
    (refine step_getx _ _ rfl _ _ rfl 2 rfl (cellTab _ rfl) (by omega) (.slice (some ⟨b, 0, none⟩) n m) rfl ?_; (simp only [Act.put, List.setIfInBounds_toArray, List.set_cons_succ, List.set_cons_zero]))
    (refine mix_one (i := 11) (by kernel_rfl) rfl (by kernel_rfl) rfl ?_)
    (refine step_push1 _ _ _ rfl _ 1 _ _ str_under infoStringS rfl (by omega) _ _ _ _ rfl hb hnm hn _ _ rfl cst_one R HF.out HV.out ?_; intro g i G hg hi hG; (simp only [Act.put, List.setIfInBounds_toArray, List.set_cons_succ, List.set_cons_zero]))
    (refine mix_one (i := 12) (by kernel_rfl) rfl (by kernel_rfl) rfl ?_)
    (refine step_val ?_; apply Exists.intro; refine ⟨fun W => ?_, ?_⟩; (go_simp; rfl); (simp only [Act.put, List.setIfInBounds_toArray, List.set_cons_succ, List.set_cons_zero]))
    (refine mix_one (i := 13) (by kernel_rfl) rfl (by kernel_rfl) rfl ?_)
    (refine step_set1 _ _ _ rfl _ _ rfl (.slice (some ⟨g, 0, none⟩) (n + 1) i) rfl rfl 1 rfl ho (cellTab _ rfl) (by omega) ?_; simp only [List.set]; (simp only [Act.put, List.setIfInBounds_toArray, List.set_cons_succ, List.set_cons_zero]))
    (refine mix_end (by kernel_rfl) ?_; intro W' hM; simp only [List.cons_append, List.nil_append] at hM)
    have hM2 := hM.re 1 rfl (h3 (.slice (some ⟨g, 0, none⟩) (n + 1) i) B C) (h3_upd.1)
    simp only [List.set_cons_succ, List.set_cons_zero] at hM2
    exact ⟨rfl, _, _, _, _, _, _, _, _, _, _, _, _, _, g, i, G, rfl, hg, hi, hG, hM2⟩

set_option maxRecDepth 100000 in
set_option maxHeartbeats 4000000 in
theorem pick17_any (ek : Int) (b0 : Base) (L : Blocks) (x1 o k y n2 c2 f1 N2 b m n bg gn gc Ng : Nat) (F G2 GG hv R : Nat → Value) (A B C : Value) (hk : k < gn) (hy : y < n2) (q1 : hv 1 = .slice (some ⟨f1, 0, none⟩) n2 c2) (hN2 : n2 ≤ N2) (hNg : gn ≤ Ng) (s1 : G2 y = .int .i16 ek) (g1 : GG k = .int .i64 (y : Int)) (hb : b0.B ≤ b) (ho : b0.B ≤ o) (hn : n ≤ 1048576) (hnm : n ≤ m) (hF : ∀ j, j < n * 1 → F j = R j) (hV : ∀ j, j < 1 → Value.int .i16 ek = R (n * 1 + j))
    (W0 : World) (hW0 : ∀ W, b0.G W → Below W0.heap.size W0 W) (HE1 : At W0 f1 N2 G2) (HGA : At W0 bg Ng GG)
    (t0 t3 t4 t5 t6 t7 t8 t11 t12 t13 t14 t15 t16 t17 t18 t19 t20 t21 t22 t23 t24 t25 t26 t27 t28 t29 t30 t31 t32 t33 t34 t35 t36 t37 t38 t39 t40 t41 t42 t43 t44 t45 t46 t47 t48 t49 t50 t51 t52 t53 t54 t55 t56 t57 t58 t59 t60 t61 t62 t63 t64 t65 t66 t67 t68 t69 t70 t71 t72 t73 t74 t75 t76 t77 t78 t79 t80 t81 t82 t83 t84 t85 t86 t87 t88 t89 t90 t91 t92 t93 t94 : Value) (W : World) (hM0 : Mem b0 ((b, m * 1, F) :: (o, 3, h3 A (.slice (some ⟨b, 0, none⟩) n m) C) :: (x1, 3, hv) :: L) W) :
    (cL (cR (cX (cL (cR (cX (cX (cR (cL (cR (cR (cR (cR (pick0)))))))))))))).wp Tryd.prog (fun e a' w' => e = .normal ∧ ∃ v59 v60 v61 v62 v63 v64 v65 v66 v67 v68 v69 v70 v71 g i G, a' = ⟨(List.toArray (t0 :: .slice (some ⟨bg, 0, none⟩) gn gc :: .pointer (some ⟨x1, 0, none⟩) :: t3 :: t4 :: t5 :: t6 :: t7 :: t8 :: .pointer (some ⟨o, 0, none⟩) :: .int .i64 (k : Int) :: t11 :: t12 :: t13 :: t14 :: t15 :: t16 :: t17 :: t18 :: t19 :: t20 :: t21 :: t22 :: t23 :: t24 :: t25 :: t26 :: t27 :: t28 :: t29 :: t30 :: t31 :: t32 :: t33 :: t34 :: t35 :: t36 :: t37 :: t38 :: t39 :: t40 :: t41 :: t42 :: t43 :: t44 :: t45 :: t46 :: t47 :: t48 :: t49 :: t50 :: t51 :: t52 :: t53 :: t54 :: t55 :: t56 :: t57 :: t58 :: v59 :: v60 :: v61 :: v62 :: v63 :: v64 :: v65 :: v66 :: v67 :: v68 :: v69 :: v70 :: v71 :: t72 :: t73 :: t74 :: t75 :: t76 :: t77 :: t78 :: t79 :: t80 :: t81 :: t82 :: t83 :: t84 :: t85 :: t86 :: t87 :: t88 :: t89 :: t90 :: t91 :: t92 :: t93 :: t94 :: [])), []⟩ ∧ b0.B ≤ g ∧ n + 1 ≤ i ∧ (∀ j, j < (n + 1) * 1 → G j = R j) ∧ Mem b0 ((g, i * 1, G) :: (o, 3, h3 A (.slice (some ⟨g, 0, none⟩) (n + 1) i) C) :: (x1, 3, hv) :: L) w') ⟨(List.toArray (t0 :: .slice (some ⟨bg, 0, none⟩) gn gc :: .pointer (some ⟨x1, 0, none⟩) :: t3 :: t4 :: t5 :: t6 :: t7 :: t8 :: .pointer (some ⟨o, 0, none⟩) :: .int .i64 (k : Int) :: t11 :: t12 :: t13 :: t14 :: t15 :: t16 :: t17 :: t18 :: t19 :: t20 :: t21 :: t22 :: t23 :: t24 :: t25 :: t26 :: t27 :: t28 :: t29 :: t30 :: t31 :: t32 :: t33 :: t34 :: t35 :: t36 :: t37 :: t38 :: t39 :: t40 :: t41 :: t42 :: t43 :: t44 :: t45 :: t46 :: t47 :: t48 :: t49 :: t50 :: t51 :: t52 :: t53 :: t54 :: t55 :: t56 :: t57 :: t58 :: t59 :: t60 :: t61 :: t62 :: t63 :: t64 :: t65 :: t66 :: t67 :: t68 :: t69 :: t70 :: t71 :: t72 :: t73 :: t74 :: t75 :: t76 :: t77 :: t78 :: t79 :: t80 :: t81 :: t82 :: t83 :: t84 :: t85 :: t86 :: t87 :: t88 :: t89 :: t90 :: t91 :: t92 :: t93 :: t94 :: [])), []⟩ W := by
  have hM := hM0
  have HF := Lib.hid hF
  have HV := Lib.hid hV
  have HE := Lib.hid HE1
  have HG := Lib.hid HGA
  have HW0 := Lib.hid hW0
  have l2 : (k : Int) < gn := by omega
  have l3 : (y : Int) < n2 := by omega
  have hkN : k < Ng := by omega
  have hyN : y < N2 := by omega
  have hcell : Hid (∀ W, Mem b0 ((x1, 3, hv) :: L) W → W.cell? ⟨f1, y, none⟩ = some (.int .i16 ek)) := Lib.hid (fun W h => ((HE.out.below (HW0.out W h.good) HE.out.lt).cell hyN).trans (congrArg some s1))
  have hgoat : Hid (∀ W, Mem b0 ((x1, 3, hv) :: L) W → W.cell? ⟨bg, k, none⟩ = some (.int .i64 (y : Int))) := Lib.hid (fun W h => ((HG.out.below (HW0.out W h.good) HG.out.lt).cell hkN).trans (congrArg some g1))
  clear hM0 hF hV HE1 hW0 HGA
  conv => arg 2; whnf
  ((try simp only [Act.put, List.setIfInBounds_toArray, List.set_cons_succ, List.set_cons_zero]); refine region_readsX [0, 2, 3, 4, 5, 6, 7, 8, 9] #[true, false, true, true, true, true, true, true, true, true, false, false, false, false] 5 [(b, m * 1, F), (o, 3, h3 A (.slice (some ⟨b, 0, none⟩) n m) C)] (by kernel_rfl) (by kernel_rfl) (by kernel_rfl) hM ?_; clear hM; (repeat (refine qs_plain rfl rfl ?_; first | (refine b_get1 _ _ rfl _ _ rfl 0 rfl (cellTab _ rfl) (by omega) _ (q1) ?_; (simp only [Act.put, List.setIfInBounds_toArray, List.set_cons_succ, List.set_cons_zero])) | (refine b_old _ _ rfl _ _ rfl (cellTab _ rfl) (.int .i16 ek) (fun W hM => hcell.out W hM) ?_; (simp only [Act.put, List.setIfInBounds_toArray, List.set_cons_succ, List.set_cons_zero])) | (refine b_old _ _ rfl _ _ rfl (cellTab _ rfl) (.int .i64 (y : Int)) (fun W hM => hgoat.out W hM) ?_; (simp only [Act.put, List.setIfInBounds_toArray, List.set_cons_succ, List.set_cons_zero])) | (refine b_val ?_; apply Exists.intro; refine ⟨fun W => ?_, ?_⟩; (go_simp; (try simp only [l2, l3, if_true]); rfl); (simp only [Act.put, List.setIfInBounds_toArray, List.set_cons_succ, List.set_cons_zero])))); (with_reducible refine qs_nil ?_))
  (refine mix_two (i := 1) (j := 10) (by kernel_rfl) rfl rfl (by kernel_rfl) (by kernel_rfl) rfl rfl ?_ ?_)
  · (refine step_getx _ _ rfl _ _ rfl 1 rfl (cellTab _ rfl) (by omega) (.slice (some ⟨b, 0, none⟩) n m) rfl ?_; (simp only [Act.put, List.setIfInBounds_toArray, List.set_cons_succ, List.set_cons_zero]))
    (refine mix_one (i := 10) (by kernel_rfl) rfl (by kernel_rfl) rfl ?_)
    (refine step_lit1 _ _ _ rfl (.int .i16 ek) rfl rfl _ i16_under i16_infoR ?_; intro l hl; (simp only [Act.put, List.setIfInBounds_toArray, List.set_cons_succ, List.set_cons_zero]))
    (refine mix_one (i := 11) (by kernel_rfl) rfl (by kernel_rfl) rfl ?_)
    (refine step_push1 _ _ _ rfl _ 1 _ _ i16_under infoInt16S rfl (by omega) _ _ _ _ rfl hb hnm hn _ _ rfl cst_one R HF.out HV.out ?_; intro g i G hg hi hG; (simp only [Act.put, List.setIfInBounds_toArray, List.set_cons_succ, List.set_cons_zero]))
    (refine mix_one (i := 12) (by kernel_rfl) rfl (by kernel_rfl) rfl ?_)
    (refine step_val ?_; apply Exists.intro; refine ⟨fun W => ?_, ?_⟩; (go_simp; rfl); (simp only [Act.put, List.setIfInBounds_toArray, List.set_cons_succ, List.set_cons_zero]))
    (refine mix_one (i := 13) (by kernel_rfl) rfl (by kernel_rfl) rfl ?_)
    (refine step_set1 _ _ _ rfl _ _ rfl (.slice (some ⟨g, 0, none⟩) (n + 1) i) rfl rfl 1 rfl ho (cellTab _ rfl) (by omega) ?_; simp only [List.set]; (simp only [Act.put, List.setIfInBounds_toArray, List.set_cons_succ, List.set_cons_zero]))
    (refine mix_end (by kernel_rfl) ?_; intro W' hM; simp only [List.cons_append, List.nil_append] at hM)
    have hM2 := hM.re 1 rfl (h3 A (.slice (some ⟨g, 0, none⟩) (n + 1) i) C) (h3_upd.2.1)
    simp only [List.set_cons_succ, List.set_cons_zero] at hM2
    exact ⟨rfl, _, _, _, _, _, _, _, _, _, _, _, _, _, g, i, G, rfl, hg, hi, hG, hM2⟩
  · (refine step_lit1 _ _ _ rfl (.int .i16 ek) rfl rfl _ i16_under i16_infoR ?_; intro l hl; (simp only [Act.put, List.setIfInBounds_toArray, List.set_cons_succ, List.set_cons_zero]))
    (refine mix_one (i := 1) (by kernel_rfl) rfl (by kernel_rfl) rfl ?_)
    (refine step_getx _ _ rfl _ _ rfl 2 rfl (cellTab _ rfl) (by omega) (.slice (some ⟨b, 0, none⟩) n m) rfl ?_; (simp only [Act.put, List.setIfInBounds_toArray, List.set_cons_succ, List.set_cons_zero]))
    (refine mix_one (i := 11) (by kernel_rfl) rfl (by kernel_rfl) rfl ?_)
    (refine step_push1 _ _ _ rfl _ 1 _ _ i16_under infoInt16S rfl (by omega) _ _ _ _ rfl hb hnm hn _ _ rfl cst_one R HF.out HV.out ?_; intro g i G hg hi hG; (simp only [Act.put, List.setIfInBounds_toArray, List.set_cons_succ, List.set_cons_zero]))
    (refine mix_one (i := 12) (by kernel_rfl) rfl (by kernel_rfl) rfl ?_)
    (refine step_val ?_; apply Exists.intro; refine ⟨fun W => ?_, ?_⟩; (go_simp; rfl); (simp only [Act.put, List.setIfInBounds_toArray, List.set_cons_succ, List.set_cons_zero]))
    (refine mix_one (i := 13) (by kernel_rfl) rfl (by kernel_rfl) rfl ?_)
    (refine step_set1 _ _ _ rfl _ _ rfl (.slice (some ⟨g, 0, none⟩) (n + 1) i) rfl rfl 1 rfl ho (cellTab _ rfl) (by omega) ?_; simp only [List.set]; (simp only [Act.put, List.setIfInBounds_toArray, List.set_cons_succ, List.set_cons_zero]))
    (refine mix_end (by kernel_rfl) ?_; intro W' hM; simp only [List.cons_append, List.nil_append] at hM)
    have hM2 := hM.re 1 rfl (h3 A (.slice (some ⟨g, 0, none⟩) (n + 1) i) C) (h3_upd.2.1)
    simp only [List.set_cons_succ, List.set_cons_zero] at hM2
    exact ⟨rfl, _, _, _, _, _, _, _, _, _, _, _, _, _, g, i, G, rfl, hg, hi, hG, hM2⟩

set_option maxRecDepth 100000 in
set_option maxHeartbeats 4000000 in
theorem pick16_zero (sk : ByteArray) (b0 : Base) (L : Blocks) (x1 o k y n2 c2 f1 N2 bg gn gc Ng : Nat) (G2 GG hv R : Nat → Value) (A B C : Value) (hk : k < gn) (hy : y < n2) (q1 : hv 0 = .slice (some ⟨f1, 0, none⟩) n2 c2) (hN2 : n2 ≤ N2) (hNg : gn ≤ Ng) (s1 : G2 y = .string sk) (g1 : GG k = .int .i64 (y : Int)) (ho : b0.B ≤ o) (hV : ∀ j, j < 1 → Value.string sk = R j)
    (W0 : World) (hW0 : ∀ W, b0.G W → Below W0.heap.size W0 W) (HE1 : At W0 f1 N2 G2) (HGA : At W0 bg Ng GG)
    (t0 t3 t4 t5 t6 t7 t8 t11 t12 t13 t14 t15 t16 t17 t18 t19 t20 t21 t22 t23 t24 t25 t26 t27 t28 t29 t30 t31 t32 t33 t34 t35 t36 t37 t38 t39 t40 t41 t42 t43 t44 t45 t46 t47 t48 t49 t50 t51 t52 t53 t54 t55 t56 t57 t58 t59 t60 t61 t62 t63 t64 t65 t66 t67 t68 t69 t70 t71 t72 t73 t74 t75 t76 t77 t78 t79 t80 t81 t82 t83 t84 t85 t86 t87 t88 t89 t90 t91 t92 t93 t94 : Value) (W : World) (hM0 : Mem b0 ((o, 3, h3 (.slice none 0 0) B C) :: (x1, 3, hv) :: L) W) :
    (cL (cX (cL (cR (cX (cX (cR (cL (cR (cR (cR (cR (pick0))))))))))))).wp Tryd.prog (fun e a' w' => e = .normal ∧ ∃ v46 v47 v48 v49 v50 v51 v52 v53 v54 v55 v56 v57 v58 g i G, a' = ⟨(List.toArray (t0 :: .slice (some ⟨bg, 0, none⟩) gn gc :: .pointer (some ⟨x1, 0, none⟩) :: t3 :: t4 :: t5 :: t6 :: t7 :: t8 :: .pointer (some ⟨o, 0, none⟩) :: .int .i64 (k : Int) :: t11 :: t12 :: t13 :: t14 :: t15 :: t16 :: t17 :: t18 :: t19 :: t20 :: t21 :: t22 :: t23 :: t24 :: t25 :: t26 :: t27 :: t28 :: t29 :: t30 :: t31 :: t32 :: t33 :: t34 :: t35 :: t36 :: t37 :: t38 :: t39 :: t40 :: t41 :: t42 :: t43 :: t44 :: t45 :: v46 :: v47 :: v48 :: v49 :: v50 :: v51 :: v52 :: v53 :: v54 :: v55 :: v56 :: v57 :: v58 :: t59 :: t60 :: t61 :: t62 :: t63 :: t64 :: t65 :: t66 :: t67 :: t68 :: t69 :: t70 :: t71 :: t72 :: t73 :: t74 :: t75 :: t76 :: t77 :: t78 :: t79 :: t80 :: t81 :: t82 :: t83 :: t84 :: t85 :: t86 :: t87 :: t88 :: t89 :: t90 :: t91 :: t92 :: t93 :: t94 :: [])), []⟩ ∧ b0.B ≤ g ∧ 1 ≤ i ∧ (∀ j, j < 1 * 1 → G j = R j) ∧ Mem b0 ((g, i * 1, G) :: (o, 3, h3 (.slice (some ⟨g, 0, none⟩) 1 i) B C) :: (x1, 3, hv) :: L) w') ⟨(List.toArray (t0 :: .slice (some ⟨bg, 0, none⟩) gn gc :: .pointer (some ⟨x1, 0, none⟩) :: t3 :: t4 :: t5 :: t6 :: t7 :: t8 :: .pointer (some ⟨o, 0, none⟩) :: .int .i64 (k : Int) :: t11 :: t12 :: t13 :: t14 :: t15 :: t16 :: t17 :: t18 :: t19 :: t20 :: t21 :: t22 :: t23 :: t24 :: t25 :: t26 :: t27 :: t28 :: t29 :: t30 :: t31 :: t32 :: t33 :: t34 :: t35 :: t36 :: t37 :: t38 :: t39 :: t40 :: t41 :: t42 :: t43 :: t44 :: t45 :: t46 :: t47 :: t48 :: t49 :: t50 :: t51 :: t52 :: t53 :: t54 :: t55 :: t56 :: t57 :: t58 :: t59 :: t60 :: t61 :: t62 :: t63 :: t64 :: t65 :: t66 :: t67 :: t68 :: t69 :: t70 :: t71 :: t72 :: t73 :: t74 :: t75 :: t76 :: t77 :: t78 :: t79 :: t80 :: t81 :: t82 :: t83 :: t84 :: t85 :: t86 :: t87 :: t88 :: t89 :: t90 :: t91 :: t92 :: t93 :: t94 :: [])), []⟩ W := by
  have hM := hM0
  have HV := Lib.hid hV
  have HE := Lib.hid HE1
  have HG := Lib.hid HGA
  have HW0 := Lib.hid hW0
  have l2 : (k : Int) < gn := by omega
  have l3 : (y : Int) < n2 := by omega
  have hkN : k < Ng := by omega
  have hyN : y < N2 := by omega
  have hcell : Hid (∀ W, Mem b0 ((x1, 3, hv) :: L) W → W.cell? ⟨f1, y, none⟩ = some (.string sk)) := Lib.hid (fun W h => ((HE.out.below (HW0.out W h.good) HE.out.lt).cell hyN).trans (congrArg some s1))
  have hgoat : Hid (∀ W, Mem b0 ((x1, 3, hv) :: L) W → W.cell? ⟨bg, k, none⟩ = some (.int .i64 (y : Int))) := Lib.hid (fun W h => ((HG.out.below (HW0.out W h.good) HG.out.lt).cell hkN).trans (congrArg some g1))
  clear hM0 hV HE1 hW0 HGA
  conv => arg 2; whnf
  ((try simp only [Act.put, List.setIfInBounds_toArray, List.set_cons_succ, List.set_cons_zero]); refine region_readsX [0, 2, 3, 4, 5, 6, 7, 8, 9] #[true, false, true, true, true, true, true, true, true, true, false, false, false, false] 5 [(o, 3, h3 (.slice none 0 0) B C)] (by kernel_rfl) (by kernel_rfl) (by kernel_rfl) hM ?_; clear hM; (repeat (refine qs_plain rfl rfl ?_; first | (refine b_get1 _ _ rfl _ _ rfl 0 rfl (cellTab _ rfl) (by omega) _ (q1) ?_; (simp only [Act.put, List.setIfInBounds_toArray, List.set_cons_succ, List.set_cons_zero])) | (refine b_old _ _ rfl _ _ rfl (cellTab _ rfl) (.string sk) (fun W hM => hcell.out W hM) ?_; (simp only [Act.put, List.setIfInBounds_toArray, List.set_cons_succ, List.set_cons_zero])) | (refine b_old _ _ rfl _ _ rfl (cellTab _ rfl) (.int .i64 (y : Int)) (fun W hM => hgoat.out W hM) ?_; (simp only [Act.put, List.setIfInBounds_toArray, List.set_cons_succ, List.set_cons_zero])) | (refine b_val ?_; apply Exists.intro; refine ⟨fun W => ?_, ?_⟩; (go_simp; (try simp only [l2, l3, if_true]); rfl); (simp only [Act.put, List.setIfInBounds_toArray, List.set_cons_succ, List.set_cons_zero])))); (with_reducible refine qs_nil ?_))
  (refine mix_two (i := 1) (j := 10) (by kernel_rfl) rfl rfl (by kernel_rfl) (by kernel_rfl) rfl rfl ?_ ?_)
  · (refine step_getx _ _ rfl _ _ rfl 0 rfl (cellTab _ rfl) (by omega) (.slice none 0 0) rfl ?_; (simp only [Act.put, List.setIfInBounds_toArray, List.set_cons_succ, List.set_cons_zero]))
    (refine mix_one (i := 10) (by kernel_rfl) rfl (by kernel_rfl) rfl ?_)
    (refine step_lit1 _ _ _ rfl (.string sk) rfl rfl _ str_under str_infoR ?_; intro l hl; (simp only [Act.put, List.setIfInBounds_toArray, List.set_cons_succ, List.set_cons_zero]))
    (refine mix_one (i := 11) (by kernel_rfl) rfl (by kernel_rfl) rfl ?_)
    (refine step_push0 _ _ _ rfl _ 1 _ _ str_under infoStringS rfl (by omega) rfl _ _ rfl R HV.out ?_; intro g i G hg hi hG; (simp only [Act.put, List.setIfInBounds_toArray, List.set_cons_succ, List.set_cons_zero]))
    (refine mix_one (i := 12) (by kernel_rfl) rfl (by kernel_rfl) rfl ?_)
    (refine step_val ?_; apply Exists.intro; refine ⟨fun W => ?_, ?_⟩; (go_simp; rfl); (simp only [Act.put, List.setIfInBounds_toArray, List.set_cons_succ, List.set_cons_zero]))
    (refine mix_one (i := 13) (by kernel_rfl) rfl (by kernel_rfl) rfl ?_)
    (refine step_set1 _ _ _ rfl _ _ rfl (.slice (some ⟨g, 0, none⟩) 1 i) rfl rfl 1 rfl ho (cellTab _ rfl) (by omega) ?_; simp only [List.set]; (simp only [Act.put, List.setIfInBounds_toArray, List.set_cons_succ, List.set_cons_zero]))
    (refine mix_end (by kernel_rfl) ?_; intro W' hM; simp only [List.cons_append, List.nil_append] at hM)
    have hM2 := hM.re 1 rfl (h3 (.slice (some ⟨g, 0, none⟩) 1 i) B C) (h3_upd.1)
    simp only [List.set_cons_succ, List.set_cons_zero] at hM2
    exact ⟨rfl, _, _, _, _, _, _, _, _, _, _, _, _, _, g, i, G, rfl, hg, hi, hG, hM2⟩
  · (refine step_lit1 _ _ _ rfl (.string sk) rfl rfl _ str_under str_infoR ?_; intro l hl; (simp only [Act.put, List.setIfInBounds_toArray, List.set_cons_succ, List.set_cons_zero]))
    (refine mix_one (i := 1) (by kernel_rfl) rfl (by kernel_rfl) rfl ?_)
    (refine step_getx _ _ rfl _ _ rfl 1 rfl (cellTab _ rfl) (by omega) (.slice none 0 0) rfl ?_; (simp only [Act.put, List.setIfInBounds_toArray, List.set_cons_succ, List.set_cons_zero]))
    (refine mix_one (i := 11) (by kernel_rfl) rfl (by kernel_rfl) rfl ?_)
    (refine step_push0 _ _ _ rfl _ 1 _ _ str_under infoStringS rfl (by omega) rfl _ _ rfl R HV.out ?_; intro g i G hg hi hG; (simp only [Act.put, List.setIfInBounds_toArray, List.set_cons_succ, List.set_cons_zero]))
    (refine mix_one (i := 12) (by kernel_rfl) rfl (by kernel_rfl) rfl ?_)
    (refine step_val ?_; apply Exists.intro; refine ⟨fun W => ?_, ?_⟩; (go_simp; rfl); (simp only [Act.put, List.setIfInBounds_toArray, List.set_cons_succ, List.set_cons_zero]))
    (refine mix_one (i := 13) (by kernel_rfl) rfl (by kernel_rfl) rfl ?_)
    (refine step_set1 _ _ _ rfl _ _ rfl (.slice (some ⟨g, 0, none⟩) 1 i) rfl rfl 1 rfl ho (cellTab _ rfl) (by omega) ?_; simp only [List.set]; (simp only [Act.put, List.setIfInBounds_toArray, List.set_cons_succ, List.set_cons_zero]))
    (refine mix_end (by kernel_rfl) ?_; intro W' hM; simp only [List.cons_append, List.nil_append] at hM)
    have hM2 := hM.re 1 rfl (h3 (.slice (some ⟨g, 0, none⟩) 1 i) B C) (h3_upd.1)
    simp only [List.set_cons_succ, List.set_cons_zero] at hM2
    exact ⟨rfl, _, _, _, _, _, _, _, _, _, _, _, _, _, g, i, G, rfl, hg, hi, hG, hM2⟩

set_option maxRecDepth 100000 in
set_option maxHeartbeats 4000000 in
theorem pick17_zero (ek : Int) (b0 : Base) (L : Blocks) (x1 o k y n2 c2 f1 N2 bg gn gc Ng : Nat) (G2 GG hv R : Nat → Value) (A B C : Value) (hk : k < gn) (hy : y < n2) (q1 : hv 1 = .slice (some ⟨f1, 0, none⟩) n2 c2) (hN2 : n2 ≤ N2) (hNg : gn ≤ Ng) (s1 : G2 y = .int .i16 ek) (g1 : GG k = .int .i64 (y : Int)) (ho : b0.B ≤ o) (hV : ∀ j, j < 1 → Value.int .i16 ek = R j)
    (W0 : World) (hW0 : ∀ W, b0.G W → Below W0.heap.size W0 W) (HE1 : At W0 f1 N2 G2) (HGA : At W0 bg Ng GG)
    (t0 t3 t4 t5 t6 t7 t8 t11 t12 t13 t14 t15 t16 t17 t18 t19 t20 t21 t22 t23 t24 t25 t26 t27 t28 t29 t30 t31 t32 t33 t34 t35 t36 t37 t38 t39 t40 t41 t42 t43 t44 t45 t46 t47 t48 t49 t50 t51 t52 t53 t54 t55 t56 t57 t58 t59 t60 t61 t62 t63 t64 t65 t66 t67 t68 t69 t70 t71 t72 t73 t74 t75 t76 t77 t78 t79 t80 t81 t82 t83 t84 t85 t86 t87 t88 t89 t90 t91 t92 t93 t94 : Value) (W : World) (hM0 : Mem b0 ((o, 3, h3 A (.slice none 0 0) C) :: (x1, 3, hv) :: L) W) :
    (cL (cR (cX (cL (cR (cX (cX (cR (cL (cR (cR (cR (cR (pick0)))))))))))))).wp Tryd.prog (fun e a' w' => e = .normal ∧ ∃ v59 v60 v61 v62 v63 v64 v65 v66 v67 v68 v69 v70 v71 g i G, a' = ⟨(List.toArray (t0 :: .slice (some ⟨bg, 0, none⟩) gn gc :: .pointer (some ⟨x1, 0, none⟩) :: t3 :: t4 :: t5 :: t6 :: t7 :: t8 :: .pointer (some ⟨o, 0, none⟩) :: .int .i64 (k : Int) :: t11 :: t12 :: t13 :: t14 :: t15 :: t16 :: t17 :: t18 :: t19 :: t20 :: t21 :: t22 :: t23 :: t24 :: t25 :: t26 :: t27 :: t28 :: t29 :: t30 :: t31 :: t32 :: t33 :: t34 :: t35 :: t36 :: t37 :: t38 :: t39 :: t40 :: t41 :: t42 :: t43 :: t44 :: t45 :: t46 :: t47 :: t48 :: t49 :: t50 :: t51 :: t52 :: t53 :: t54 :: t55 :: t56 :: t57 :: t58 :: v59 :: v60 :: v61 :: v62 :: v63 :: v64 :: v65 :: v66 :: v67 :: v68 :: v69 :: v70 :: v71 :: t72 :: t73 :: t74 :: t75 :: t76 :: t77 :: t78 :: t79 :: t80 :: t81 :: t82 :: t83 :: t84 :: t85 :: t86 :: t87 :: t88 :: t89 :: t90 :: t91 :: t92 :: t93 :: t94 :: [])), []⟩ ∧ b0.B ≤ g ∧ 1 ≤ i ∧ (∀ j, j < 1 * 1 → G j = R j) ∧ Mem b0 ((g, i * 1, G) :: (o, 3, h3 A (.slice (some ⟨g, 0, none⟩) 1 i) C) :: (x1, 3, hv) :: L) w') ⟨(List.toArray (t0 :: .slice (some ⟨bg, 0, none⟩) gn gc :: .pointer (some ⟨x1, 0, none⟩) :: t3 :: t4 :: t5 :: t6 :: t7 :: t8 :: .pointer (some ⟨o, 0, none⟩) :: .int .i64 (k : Int) :: t11 :: t12 :: t13 :: t14 :: t15 :: t16 :: t17 :: t18 :: t19 :: t20 :: t21 :: t22 :: t23 :: t24 :: t25 :: t26 :: t27 :: t28 :: t29 :: t30 :: t31 :: t32 :: t33 :: t34 :: t35 :: t36 :: t37 :: t38 :: t39 :: t40 :: t41 :: t42 :: t43 :: t44 :: t45 :: t46 :: t47 :: t48 :: t49 :: t50 :: t51 :: t52 :: t53 :: t54 :: t55 :: t56 :: t57 :: t58 :: t59 :: t60 :: t61 :: t62 :: t63 :: t64 :: t65 :: t66 :: t67 :: t68 :: t69 :: t70 :: t71 :: t72 :: t73 :: t74 :: t75 :: t76 :: t77 :: t78 :: t79 :: t80 :: t81 :: t82 :: t83 :: t84 :: t85 :: t86 :: t87 :: t88 :: t89 :: t90 :: t91 :: t92 :: t93 :: t94 :: [])), []⟩ W := by
  have hM := hM0
  have HV := Lib.hid hV
  have HE := Lib.hid HE1
  have HG := Lib.hid HGA
  have HW0 := Lib.hid hW0
  have l2 : (k : Int) < gn := by omega
  have l3 : (y : Int) < n2 := by omega
  have hkN : k < Ng := by omega
  have hyN : y < N2 := by omega
  have hcell : Hid (∀ W, Mem b0 ((x1, 3, hv) :: L) W → W.cell? ⟨f1, y, none⟩ = some (.int .i16 ek)) := Lib.hid (fun W h => ((HE.out.below (HW0.out W h.good) HE.out.lt).cell hyN).trans (congrArg some s1))
  have hgoat : Hid (∀ W, Mem b0 ((x1, 3, hv) :: L) W → W.cell? ⟨bg, k, none⟩ = some (.int .i64 (y : Int))) := Lib.hid (fun W h => ((HG.out.below (HW0.out W h.good) HG.out.lt).cell hkN).trans (congrArg some g1))
  clear hM0 hV HE1 hW0 HGA
  conv => arg 2; whnf
  ((try simp only [Act.put, List.setIfInBounds_toArray, List.set_cons_succ, List.set_cons_zero]); refine region_readsX [0, 2, 3, 4, 5, 6, 7, 8, 9] #[true, false, true, true, true, true, true, true, true, true, false, false, false, false] 5 [(o, 3, h3 A (.slice none 0 0) C)] (by kernel_rfl) (by kernel_rfl) (by kernel_rfl) hM ?_; clear hM; (repeat (refine qs_plain rfl rfl ?_; first | (refine b_get1 _ _ rfl _ _ rfl 0 rfl (cellTab _ rfl) (by omega) _ (q1) ?_; (simp only [Act.put, List.setIfInBounds_toArray, List.set_cons_succ, List.set_cons_zero])) | (refine b_old _ _ rfl _ _ rfl (cellTab _ rfl) (.int .i16 ek) (fun W hM => hcell.out W hM) ?_; (simp only [Act.put, List.setIfInBounds_toArray, List.set_cons_succ, List.set_cons_zero])) | (refine b_old _ _ rfl _ _ rfl (cellTab _ rfl) (.int .i64 (y : Int)) (fun W hM => hgoat.out W hM) ?_; (simp only [Act.put, List.setIfInBounds_toArray, List.set_cons_succ, List.set_cons_zero])) | (refine b_val ?_; apply Exists.intro; refine ⟨fun W => ?_, ?_⟩; (go_simp; (try simp only [l2, l3, if_true]); rfl); (simp only [Act.put, List.setIfInBounds_toArray, List.set_cons_succ, List.set_cons_zero])))); (with_reducible refine qs_nil ?_))
  (refine mix_two (i := 1) (j := 10) (by kernel_rfl) rfl rfl (by kernel_rfl) (by kernel_rfl) rfl rfl ?_ ?_)
  · (refine step_getx _ _ rfl _ _ rfl 0 rfl (cellTab _ rfl) (by omega) (.slice none 0 0) rfl ?_; (simp only [Act.put, List.setIfInBounds_toArray, List.set_cons_succ, List.set_cons_zero]))
    (refine mix_one (i := 10) (by kernel_rfl) rfl (by kernel_rfl) rfl ?_)
    (refine step_lit1 _ _ _ rfl (.int .i16 ek) rfl rfl _ i16_under i16_infoR ?_; intro l hl; (simp only [Act.put, List.setIfInBounds_toArray, List.set_cons_succ, List.set_cons_zero]))
    (refine mix_one (i := 11) (by kernel_rfl) rfl (by kernel_rfl) rfl ?_)
    (refine step_push0 _ _ _ rfl _ 1 _ _ i16_under infoInt16S rfl (by omega) rfl _ _ rfl R HV.out ?_; intro g i G hg hi hG; (simp only [Act.put, List.setIfInBounds_toArray, List.set_cons_succ, List.set_cons_zero]))
    (refine mix_one (i := 12) (by kernel_rfl) rfl (by kernel_rfl) rfl ?_)
    (refine step_val ?_; apply Exists.intro; refine ⟨fun W => ?_, ?_⟩; (go_simp; rfl); (simp only [Act.put, List.setIfInBounds_toArray, List.set_cons_succ, List.set_cons_zero]))
    (refine mix_one (i := 13) (by kernel_rfl) rfl (by kernel_rfl) rfl ?_)
    (refine step_set1 _ _ _ rfl _ _ rfl (.slice (some ⟨g, 0, none⟩) 1 i) rfl rfl 1 rfl ho (cellTab _ rfl) (by omega) ?_; simp only [List.set]; (simp only [Act.put, List.setIfInBounds_toArray, List.set_cons_succ, List.set_cons_zero]))
    (refine mix_end (by kernel_rfl) ?_; intro W' hM; simp only [List.cons_append, List.nil_append] at hM)
    have hM2 := hM.re 1 rfl (h3 A (.slice (some ⟨g, 0, none⟩) 1 i) C) (h3_upd.2.1)
    simp only [List.set_cons_succ, List.set_cons_zero] at hM2
    exact ⟨rfl, _, _, _, _, _, _, _, _, _, _, _, _, _, g, i, G, rfl, hg, hi, hG, hM2⟩
  · (refine step_lit1 _ _ _ rfl (.int .i16 ek) rfl rfl _ i16_under i16_infoR ?_; intro l hl; (simp only [Act.put, List.setIfInBounds_toArray, List.set_cons_succ, List.set_cons_zero]))
    (refine mix_one (i := 1) (by kernel_rfl) rfl (by kernel_rfl) rfl ?_)
    (refine step_getx _ _ rfl _ _ rfl 1 rfl (cellTab _ rfl) (by omega) (.slice none 0 0) rfl ?_; (simp only [Act.put, List.setIfInBounds_toArray, List.set_cons_succ, List.set_cons_zero]))
    (refine mix_one (i := 11) (by kernel_rfl) rfl (by kernel_rfl) rfl ?_)
    (refine step_push0 _ _ _ rfl _ 1 _ _ i16_under infoInt16S rfl (by omega) rfl _ _ rfl R HV.out ?_; intro g i G hg hi hG; (simp only [Act.put, List.setIfInBounds_toArray, List.set_cons_succ, List.set_cons_zero]))
    (refine mix_one (i := 12) (by kernel_rfl) rfl (by kernel_rfl) rfl ?_)
    (refine step_val ?_; apply Exists.intro; refine ⟨fun W => ?_, ?_⟩; (go_simp; rfl); (simp only [Act.put, List.setIfInBounds_toArray, List.set_cons_succ, List.set_cons_zero]))
    (refine mix_one (i := 13) (by kernel_rfl) rfl (by kernel_rfl) rfl ?_)
    (refine step_set1 _ _ _ rfl _ _ rfl (.slice (some ⟨g, 0, none⟩) 1 i) rfl rfl 1 rfl ho (cellTab _ rfl) (by omega) ?_; simp only [List.set]; (simp only [Act.put, List.setIfInBounds_toArray, List.set_cons_succ, List.set_cons_zero]))
    (refine mix_end (by kernel_rfl) ?_; intro W' hM; simp only [List.cons_append, List.nil_append] at hM)
    have hM2 := hM.re 1 rfl (h3 A (.slice (some ⟨g, 0, none⟩) 1 i) C) (h3_upd.2.1)
    simp only [List.set_cons_succ, List.set_cons_zero] at hM2
    exact ⟨rfl, _, _, _, _, _, _, _, _, _, _, _, _, _, g, i, G, rfl, hg, hi, hG, hM2⟩
end Go.Proofs.YthodkbmenndnoaaDoor

/-
  spec.PickHerd by contract.
-/
namespace Go.Proofs.YthodkbmenndnoaaDoor
open Go Go.RowKit Go.BigFrame

theorem dst_more {ys : Nat → Int} {k : Nat} (h0 : ∀ j, j < k + 1 → 0 ≤ ys j) (h1 : dstU ys k = true) (h2 : ∀ j, j < k → ys k ≠ ys j) : dstU ys (k + 1) = true := by
  refine (dst_iff h0).2 fun a b hb ha => ?_
  rcases Nat.lt_succ_iff_lt_or_eq.1 ha with h' | rfl
  · exact (dst_iff (fun j hj => h0 j (by omega))).1 h1 a b hb h'
  · exact h2 b hb
set_option maxRecDepth 100000 in
set_option maxHeartbeats 8000000 in
theorem specPickHerd_bad (d : Hd) (b1 b2 b3 : Nat) (hd : FitsH d) (bg n : Nat) (ys : Nat → Int) (hn : n ≤ 1048576) (hc : pkC d n ys ≠ 0) (w : World) (hM0 : Mem w (hdB d b1 b2 b3) w) (hG : At w bg n (vInt64S ys)) :
    Calls Tryd.prog 33 #[.agg (arr 3 (hdV d b1 b2 b3)), .slice (some ⟨bg, 0, none⟩) n n] w (GivesH (pkN d n ys) (vStringS (pkD d n ys).ss) (vInt16S (pkD d n ys).es) (vUint16S (pkD d n ys).fs) (pkC d n ys) w) := by
  have hM := Mem.nil w
  have H0 := Lib.hid hM0
  have HGA := Lib.hid hG
  have HG : Hid (IntsAt w (some ⟨bg, 0, none⟩) n ys) := Lib.hid (.inr ⟨bg, n, vInt64S ys, rfl, Nat.le_refl _, fun _ _ => rfl, hG⟩)
  have HAC := Lib.hid (fun (bh : Nat) (W : World) hB hI => l06Asked_any d bh b1 b2 b3 hd (some ⟨bg, 0, none⟩) n n ys hn W hB hI)
  have HN0 : pkN d n ys = 0 := by unfold pkN; rw [if_neg hc]
  rw [HN0]
  clear hM0 hG HN0
  by_cases ha : askC d n ys = 0
  · obtain ⟨-, hys⟩ := askC_0 ha
    have HC := Lib.hid ha
    unfold pkC at hc ⊢
    rw [if_pos ha] at hc ⊢
    cases hD : dstU ys n
    · have HD := Lib.hid hD
      rw [if_neg (by decide)]
      clear hc ha hD
      have tk_x1 : True := trivial; have tk_r : True := trivial
      go_enter Tryd.func33, Tryd.ntmps33
      go_wp2_with (first | (have _t := tk_x1; refine wpList_box rfl _ _ rfl _ _ rfl hM ?_; intro x1 W' hx1 hM'; clear hM tk_x1; have hM := hM'; clear hM') | (have _t := tk_r; refine wpList_zero rfl _ rfl zeroHerd hM ?_; intro r W' hr hM'; clear hM tk_r; have hM := hM'; clear hM') | (go_at_call 62; refine (HAC.out x1 _ (H0.out.box0 hM 1 rfl hx1) (HG.out.below hM.below)).mono ?_; rintro e W' ⟨rfl, hb'⟩; rw [HC.out]; have hM' := hM.call hb'; clear hM hb'; have hM := hM'; clear hM'))
      go_loopw [7] (fun v wr => ∃ k : Nat, k ≤ n ∧ v = .int .i64 k ∧ Hid (dstU ys k = true) ∧ Mem w [(r, 3, fun _ => .slice none 0 0), (x1, 3, hdV d b1 b2 b3)] wr) (fun v _ => n - (intOf v).toNat)
      case atStart => exact ⟨0, by omega, rfl, Lib.hid rfl, hM⟩
      case round =>
        clear hM
        obtain ⟨k, hk, rfl, hds, hM⟩ := hrel
        by_cases hlt : k < n
        · have l2 : (k : Int) < n := by omega
          go_wp2
          go_loopw [8] (fun v wr => ∃ i : Nat, i ≤ k ∧ v = .int .i64 i ∧ Hid (∀ j, j < i → ys k ≠ ys j) ∧ Mem w [(r, 3, fun _ => .slice none 0 0), (x1, 3, hdV d b1 b2 b3)] wr) (fun v _ => k - (intOf v).toNat)
          case atStart => exact ⟨0, by omega, rfl, Lib.hid (fun j hj => absurd hj (by omega)), hM⟩
          case round =>
            clear hM
            obtain ⟨i, hi, rfl, hne, hM⟩ := hrel
            by_cases hlt2 : i < k
            · have l3 : (i : Int) < n := by omega
              have l4 : (i : Int) < k := by omega
              by_cases he : ys k = ys i
              · have e1 : (ys k == ys i) = true := beq_iff_eq.2 he
                go_wp2
                ((try simp only [Act.put, List.setIfInBounds_toArray, List.set_cons_succ, List.set_cons_zero]); refine wp_region_mem (by kernel_rfl) (by kernel_rfl) hM ?_; clear hM; (repeat (first | go_big_quiet_skip | (go_big_quiet_want; first | (refine quiet_old _ _ rfl _ _ rfl (cellTab _ rfl) (.int .i64 (ys k)) (fun W hM2 => (HGA.out.below hM2.below HGA.out.lt).cell (by omega)) ?_; (simp only [Act.put, List.setIfInBounds_toArray, List.set_cons_succ, List.set_cons_zero]); go_big_quiet_on) | (refine quiet_old _ _ rfl _ _ rfl (cellTab _ rfl) (.int .i64 (ys i)) (fun W hM2 => (HGA.out.below hM2.below HGA.out.lt).cell (by omega)) ?_; (simp only [Act.put, List.setIfInBounds_toArray, List.set_cons_succ, List.set_cons_zero]); go_big_quiet_on) | (refine quiet_val ?_; apply Exists.intro; refine ⟨fun W => ?_, ?_⟩; (go_simp; (try simp only [l2, l3, e1, if_true, Bool.false_eq_true, if_false]); rfl); (simp only [Act.put, List.setIfInBounds_toArray, List.set_cons_succ, List.set_cons_zero]); go_big_quiet_on)))); (with_reducible refine wpQuiet_nil ?_); intro W' hM)
                have tk_s2 : True := trivial
                go_wp2_with (first | (refine wpList_herd0 rfl rfl ?_) | (have _t := tk_s2; refine wpList_lay rfl _ _ _ rfl _ _ rfl _ _ rfl hM 0 rfl (by assumption) (rowTab _ _ rfl) (by omega) (fun k _ => nil3_one k) ?_; intro W' hM'; clear hM tk_s2; have hM := hM'; clear hM'; simp only [List.set_cons_zero] at hM))
                have hA1 := (hM.ats 0 _ _ _ rfl).congr (g := nil3) (fun j hj => by simp [lay, hj, nil3])
                exact bodyPost_ret (results_at2 rfl _ rfl hA1 rowHerd _ rfl) rfl (GivesH.none hM.below rfl rfl)
              have e1 : (ys k == ys i) = false := beq_eq_false_iff_ne.2 he
              have HNX := Lib.hid (fun j (hj : j < i + 1) => show ys k ≠ ys j from by
                rcases Nat.lt_succ_iff_lt_or_eq.1 hj with h' | rfl
                · exact hne.out j h'
                · exact he)
              go_wp2
              ((try simp only [Act.put, List.setIfInBounds_toArray, List.set_cons_succ, List.set_cons_zero]); refine wp_region_mem (by kernel_rfl) (by kernel_rfl) hM ?_; clear hM; (repeat (first | go_big_quiet_skip | (go_big_quiet_want; first | (refine quiet_old _ _ rfl _ _ rfl (cellTab _ rfl) (.int .i64 (ys k)) (fun W hM2 => (HGA.out.below hM2.below HGA.out.lt).cell (by omega)) ?_; (simp only [Act.put, List.setIfInBounds_toArray, List.set_cons_succ, List.set_cons_zero]); go_big_quiet_on) | (refine quiet_old _ _ rfl _ _ rfl (cellTab _ rfl) (.int .i64 (ys i)) (fun W hM2 => (HGA.out.below hM2.below HGA.out.lt).cell (by omega)) ?_; (simp only [Act.put, List.setIfInBounds_toArray, List.set_cons_succ, List.set_cons_zero]); go_big_quiet_on) | (refine quiet_val ?_; apply Exists.intro; refine ⟨fun W => ?_, ?_⟩; (go_simp; (try simp only [l2, l3, e1, if_true, Bool.false_eq_true, if_false]); rfl); (simp only [Act.put, List.setIfInBounds_toArray, List.set_cons_succ, List.set_cons_zero]); go_big_quiet_on)))); (with_reducible refine wpQuiet_nil ?_); intro W' hM)
              go_wp2
              go_roundw
              case rel => exact ⟨i + 1, by omega, by go_num, HNX, hM⟩
              case measure => simp [intOf]; omega
            · obtain rfl : i = k := by omega
              go_wp2
              go_roundw
              case rel => exact ⟨i + 1, by omega, by go_num, Lib.hid (dst_more (fun j hj => (hys j (by omega)).1) hds.out hne.out), hM⟩
              case measure => simp [intOf]; omega
        · obtain rfl : k = n := by omega
          exact absurd hds.out (by rw [HD.out]; decide)
    · rw [hD] at hc
      exact absurd rfl hc
  · have h1 : pkC d n ys = askC d n ys := by unfold pkC; rw [if_neg ha]
    rw [h1]
    obtain ⟨C, hC⟩ : ∃ C, askC d n ys = C := ⟨_, rfl⟩
    rw [hC] at ha ⊢
    have HC := Lib.hid hC
    have z1 : (C != 0) = true := bne_iff_ne.2 ha
    have z2 : (C == 0) = false := beq_eq_false_iff_ne.2 ha
    clear ha hc hC h1
    have tk_x1 : True := trivial; have tk_r : True := trivial; have tk_s2 : True := trivial
    go_enter Tryd.func33, Tryd.ntmps33
    go_wp2_with (first | (have _t := tk_x1; refine wpList_box rfl _ _ rfl _ _ rfl hM ?_; intro x1 W' hx1 hM'; clear hM tk_x1; have hM := hM'; clear hM') | (have _t := tk_r; refine wpList_zero rfl _ rfl zeroHerd hM ?_; intro r W' hr hM'; clear hM tk_r; have hM := hM'; clear hM') | (go_at_call 62; refine (HAC.out x1 _ (H0.out.box0 hM 1 rfl hx1) (HG.out.below hM.below)).mono ?_; rintro e W' ⟨rfl, hb'⟩; rw [HC.out]; have hM' := hM.call hb'; clear hM hb'; have hM := hM'; clear hM') | (refine wpList_herd0 rfl rfl ?_) | (have _t := tk_s2; refine wpList_lay rfl _ _ _ rfl _ _ rfl _ _ rfl hM 0 rfl (by assumption) (rowTab _ _ rfl) (by omega) (fun k _ => nil3_one k) ?_; intro W' hM'; clear hM tk_s2; have hM := hM'; clear hM'; simp only [List.set_cons_zero] at hM))
    have hA1 := (hM.ats 0 _ _ _ rfl).congr (g := nil3) (fun j hj => by simp [lay, hj, nil3])
    exact bodyPost_ret (results_at2 rfl _ rfl hA1 rowHerd _ rfl) rfl (GivesH.none hM.below rfl rfl)
end Go.Proofs.YthodkbmenndnoaaDoor

