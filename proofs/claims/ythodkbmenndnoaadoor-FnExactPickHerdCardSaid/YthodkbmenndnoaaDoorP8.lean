/-
  Several texts in one: ValidHerdI, FlockWith, MarkText, StringSL, Int16SL.
-/
import Derived.Test.YthodkbmenndnoaaDoorP7
import Derived.WideLaws
import Derived.Test.YthodkbmenndnoaaDoorP2
import Derived.Test.YthodkbmenndnoaaDoorP4
import Derived.Laws.IdiomStrings
/-
  impl.ValidHerd by contract.
-/
namespace Go.Proofs.YthodkbmenndnoaaDoor
open Go Go.RowKit Go.BigFrame Go.Maps

set_option maxRecDepth 100000 in
theorem len_puts {W : World} {m : Nat} {ks : List ByteArray} {f : ByteArray → Value} (h : W.heap[m]? = some (mapO kvS ks f)) (ty : TypeId) :
    (Builtin.len_ #[68] ty #[.map (some m)]).run Tryd.prog W = .ok (.int .i64 (ks.length : Nat)) W := by
  rw [run_len_map W _ ty m _ _ Tryd.underlying68 h]
  simp [goInt, ents_length]
theorem Lst.mems {d : Hd} {w : World} {n : Nat} {v : Value} {W : World} (h : Lst w [] 3 v n (sMem d) W) : ∃ a c, v = .slice a n c ∧ n ≤ c ∧ MemsAt W a n d ∧ Below w.heap.size w W := by
  rcases h with ⟨h1, h2, h3⟩ | ⟨b, c, F, h1, h2, h3, h4, h5⟩
  · exact ⟨none, 0, by rw [h1, h2], by omega, .inl h2, h3.below⟩
  · exact ⟨_, c, h1, h3, .inr ⟨b, c * 3, F, rfl, Nat.mul_le_mul_right _ h3, h4, h5.at0⟩, h5.below⟩
theorem herdB_n {d : Hd} (h : ¬ (d.n1 ≤ 14 ∧ d.n2 = d.n1 ∧ d.n3 = d.n1)) : herdB d = false := by simp [herdB, h]
theorem toldAll_no {d : Hd} (hf : ∀ i, i < d.n3 → 0 ≤ d.fs i ∧ d.fs i ≤ 65535) (h1 : d.n1 ≤ 14) (h2 : d.n2 = d.n1) (h3 : d.n3 = d.n1) {i : Nat} (hi : i < d.n1) (h : toldB d i = false) : herdB d = false := by
  cases e : herdB d with
  | false => rfl
  | true => have := ((herdB_impl hf h1 h2 h3).1 e).1 i hi; rw [h] at this; exact absurd this (by decide)
theorem keys_no {d : Hd} (hf : ∀ i, i < d.n3 → 0 ≤ d.fs i ∧ d.fs i ≤ 65535) (h1 : d.n1 ≤ 14) (h2 : d.n2 = d.n1) (h3 : d.n3 = d.n1) (h : (keysU d d.n1).length ≠ d.n1) : herdB d = false := by
  cases e : herdB d with
  | false => rfl
  | true => exact absurd ((herdB_impl hf h1 h2 h3).1 e).2.1 h
theorem herdB_mut {d : Hd} (hf : ∀ i, i < d.n3 → 0 ≤ d.fs i ∧ d.fs i ≤ 65535) (h1 : d.n1 ≤ 14) (h2 : d.n2 = d.n1) (h3 : d.n3 = d.n1) (ht : ∀ i, i < d.n1 → toldB d i = true) (hk : (keysU d d.n1).length = d.n1) : herdB d = mutA d d.n1 := by
  rw [Bool.eq_iff_iff, herdB_impl hf h1 h2 h3]
  unfold mutA
  rw [List.all_eq_true]
  exact ⟨fun h i hi => h.2.2 i (by simpa using hi), fun h => ⟨ht, hk, fun i hi => h i (by simpa using hi)⟩⟩

set_option maxRecDepth 100000 in
set_option maxHeartbeats 4000000 in
theorem implValidHerd_any {r : Addr} (d : Hd) (b1 b2 b3 : Nat) (hd : FitsH d) (w : World) (hM0 : Mem w (hdB d b1 b2 b3) w) (hE : HEnv r w) :
    Calls Tryd.prog 18 #[.agg (arr 3 (hdV d b1 b2 b3))] w fun e w' => e = .returned (.bool (herdB d)) ∧ Below w.heap.size w w' := by
  obtain ⟨l1, l2, l3, hs, he, hf⟩ := hd
  unfold maxLen at l1 l2 l3
  have HE := Lib.hid hE
  have H0 := Lib.hid hM0
  have HS := Lib.hid hs
  have HX := Lib.hid he
  have HF := Lib.hid hf
  have a1 : hdV d b1 b2 b3 0 = .slice (some ⟨b1, 0, none⟩) d.n1 d.n1 := rfl
  have a2 : hdV d b1 b2 b3 1 = .slice (some ⟨b2, 0, none⟩) d.n2 d.n2 := rfl
  have a3 : hdV d b1 b2 b3 2 = .slice (some ⟨b3, 0, none⟩) d.n3 d.n3 := rfl
  have hM := hM0
  simp only [hdB] at hM
  clear hE hM0 hs he hf
  obtain ⟨hv, hhv⟩ : ∃ f, hdV d b1 b2 b3 = f := ⟨_, rfl⟩
  rw [hhv] at a1 a2 a3 ⊢
  by_cases c1 : 14 < d.n1
  · have d1 : decide ((14 : Int) < d.n1) = true := decide_eq_true (by omega)
    have HZ := Lib.hid (herdB_n (d := d) (by omega))
    obtain ⟨n, hn⟩ : ∃ n, d.n1 = n := ⟨_, rfl⟩
    rw [hn] at a1 d1
    clear hn
    have tk_x1 : True := trivial
    go_enter Tryd.func18, Tryd.ntmps18
    go_wp2_with (first | (have _t := tk_x1; refine wpList_box rfl _ _ rfl _ _ rfl hM ?_; intro x1 W' hx1 hM'; clear hM tk_x1; have hM := hM'; clear hM') | (refine wpList_get1 rfl _ _ rfl _ _ rfl hM 0 rfl (cellTab _ rfl) (by omega) _ a1 ?_))
    go_ret
    rw [HZ.out]
    exact ⟨rfl, hM.below⟩
  have d1 : decide ((14 : Int) < d.n1) = false := decide_eq_false (by omega)
  by_cases c2 : d.n2 = d.n1
  case neg =>
    have z1 : ((d.n2 : Int) != (d.n1 : Int)) = true := bne_iff_ne.2 (by omega)
    have z2 : ((d.n2 : Int) == (d.n1 : Int)) = false := beq_eq_false_iff_ne.2 (by omega)
    have z3 : ¬ (d.n2 : Int) = d.n1 := by omega
    have HZ := Lib.hid (herdB_n (d := d) (by omega))
    clear c2
    have tk_x1 : True := trivial
    go_enter Tryd.func18, Tryd.ntmps18
    go_wp2_with (first | (have _t := tk_x1; refine wpList_box rfl _ _ rfl _ _ rfl hM ?_; intro x1 W' hx1 hM'; clear hM tk_x1; have hM := hM'; clear hM') | (refine wpList_get1 rfl _ _ rfl _ _ rfl hM 0 rfl (cellTab _ rfl) (by omega) _ a1 ?_) | (refine wpList_gget1 ?_ _ _ rfl _ _ rfl hM 0 rfl (cellTab _ rfl) (by omega) _ a2 ?_; kernel_rfl))
    go_ret
    rw [HZ.out]
    exact ⟨rfl, hM.below⟩
  by_cases c3 : d.n3 = d.n1
  case neg =>
    have z1 : ((d.n3 : Int) != (d.n1 : Int)) = true := bne_iff_ne.2 (by omega)
    have z2 : ((d.n3 : Int) == (d.n1 : Int)) = false := beq_eq_false_iff_ne.2 (by omega)
    have z3 : ¬ (d.n3 : Int) = d.n1 := by omega
    have HZ := Lib.hid (herdB_n (d := d) (by omega))
    rw [c2] at a2
    clear c3
    have tk_x1 : True := trivial
    go_enter Tryd.func18, Tryd.ntmps18
    go_wp2_with (first | (have _t := tk_x1; refine wpList_box rfl _ _ rfl _ _ rfl hM ?_; intro x1 W' hx1 hM'; clear hM tk_x1; have hM := hM'; clear hM') | (refine wpList_get1 rfl _ _ rfl _ _ rfl hM 0 rfl (cellTab _ rfl) (by omega) _ a1 ?_) | (refine wpList_gget1 ?_ _ _ rfl _ _ rfl hM 0 rfl (cellTab _ rfl) (by omega) _ a2 ?_; kernel_rfl) | (refine wpList_gget1 ?_ _ _ rfl _ _ rfl hM 0 rfl (cellTab _ rfl) (by omega) _ a3 ?_; kernel_rfl))
    go_ret
    rw [HZ.out]
    exact ⟨rfl, hM.below⟩
  have Hc2 := Lib.hid c2
  have Hc3 := Lib.hid c3
  rw [c2] at a2
  rw [c3] at a3
  obtain ⟨n, hn⟩ : ∃ n, d.n1 = n := ⟨_, rfl⟩
  have hMO := fun (W : World) (hB : Mem W (hdB d b1 b2 b3) W) => membersOf_l d b1 b2 b3 (by omega) c2 c3 W hB
  rw [hhv, hn] at hMO
  have HMO := Lib.hid hMO
  have hs' := HS.out
  rw [hn] at hs'
  have HS' := Lib.hid hs'
  have Hn := Lib.hid hn
  rw [hn] at a1 a2 a3 d1 c1
  clear c2 c3 hn hhv l2 l3 hM hMO hs'
  have hM : Mem w [] w := Mem.nil w
  have tk_x1 : True := trivial; have tk_r1 : True := trivial; have tk_m1 : True := trivial; have tk_f1 : True := trivial; have tk_f4 : True := trivial; have tk_s1 : True := trivial
  go_enter Tryd.func18, Tryd.ntmps18
  go_wp2_with (first | (have _t := tk_x1; refine wpList_box rfl _ _ rfl _ _ rfl hM ?_; intro x1 W' hx1 hM'; clear hM tk_x1; have hM := hM'; clear hM') | (have _t := tk_r1; refine wpList_get rfl _ _ rfl _ _ rfl hM 0 rfl (rowTab _ _ rfl) (by omega) ?_; simp only [Nat.zero_add]; clear tk_r1) | (refine wpList_get1 rfl _ _ rfl _ _ rfl hM 0 rfl (cellTab _ rfl) (by omega) _ a1 ?_) | (refine wpList_gget1 ?_ _ _ rfl _ _ rfl hM 0 rfl (cellTab _ rfl) (by omega) _ a2 ?_; kernel_rfl) | (refine wpList_gget1 ?_ _ _ rfl _ _ rfl hM 0 rfl (cellTab _ rfl) (by omega) _ a3 ?_; kernel_rfl) | (have _t := tk_m1; go_at_call 56; refine (HMO.out _ ((H0.out.call hM.below).base (Below.refl _ _))).mono ?_; rintro e W' ⟨v, rfl, hL⟩; obtain ⟨ma, mc, rfl, hmc, hA, hb'⟩ := hL.mems; have hM' := hM.call hb'; have HA := Lib.hid hA; clear hM hb' hA hL tk_m1; have hM := hM'; clear hM') | (have _t := tk_f1; go_at_call 55; refine (flockOf_any d ma n mc (by omega) HS'.out _ HA.out).mono ?_; rintro e Wf ⟨m, rfl, hmm, hO, hb'⟩; have hM' := (hM.call hb'); have HB0 := Lib.hid hM'.below; have hM2 := hM'.base (w' := Base.of Wf) (Below.refl _ _); have HA2 := Lib.hid (HA.out.below hb'); have HO := Lib.hid hO; clear hM hb' hO HA hM' tk_f1; have hM := hM2; clear hM2) | (have _t := tk_f4; refine wpList_zero rfl _ rfl (zeroTab _ _ _ rfl) hM ?_; intro f4 W' hf4 hM'; clear hM tk_f4; have hM := hM'; clear hM') | (have _t := tk_s1; refine wpList_lay rfl _ _ _ rfl _ _ rfl _ _ rfl hM 0 rfl (by assumption) (rowTab _ _ rfl) (by omega) (fun k _ => flkV_one _ _ _ _ k) ?_; intro W' hM'; have hM2 := hM'.re 0 rfl (flkV ma n mc m) (fun k hk => by simp [lay, hk]); simp only [List.set_cons_zero] at hM2; clear hM hM' tk_s1; have hM := hM2; clear hM2) | (refine wpList_get1 rfl _ _ rfl _ _ rfl hM 0 rfl (cellTab _ rfl) (by omega) (.slice ma n mc) rfl ?_))
  have HE2 := Lib.hid (HE.out.below HB0.out)
  have hf' := HF.out
  have hx' := HX.out
  rw [Hc2.out, Hn.out] at hx'
  rw [Hc3.out, Hn.out] at hf'
  have HX' := Lib.hid hx'
  have HF' := Lib.hid hf'
  clear hx' hf' HE
  go_loopw [32] (fun i wr => ∃ k : Nat, k ≤ n ∧ i = .int .i64 k ∧ Hid (∀ j, j < k → toldB d j = true) ∧ Mem Wf [(f4, 2, flkV ma n mc m), (x1, 3, hv)] wr) (fun i _ => n - (intOf i).toNat)
  case atStart => exact ⟨0, by omega, rfl, Lib.hid (fun j hj => absurd hj (by omega)), hM⟩
  case round =>
    clear hM
    obtain ⟨k, hk, rfl, hall, hM⟩ := hrel
    by_cases hlt : k < n
    · have l2 : (k : Int) < n := by omega
      obtain ⟨bm, N, F, hae, hN, -, hF, hAt⟩ := (HA2.out.below hM.below).row hlt
      subst hae
      have HFr := Lib.hid hF
      have HAt := Lib.hid hAt
      have hxk := HX'.out k hlt
      clear hF hAt
      cases ht : toldB d k
      · have HTo := Lib.hid ht
        have HZ := Lib.hid (toldAll_no (d := d) HF.out (by rw [Hn.out]; omega) Hc2.out Hc3.out (i := k) (by rw [Hn.out]; exact hlt) ht)
        clear ht
        have tk_b6 : True := trivial; have tk_s2 : True := trivial; have tk_g6 : True := trivial
        go_wp2_with (first | (refine wpList_getAt rfl _ _ rfl _ _ rfl HAt.out (rowTab _ _ rfl) (by omega) (gMem d k) HFr.out ?_) | (have _t := tk_b6; refine wpList_zero rfl _ rfl (zeroTab _ _ _ rfl) hM ?_; intro b6 W' hb6 hM'; clear hM tk_b6; have hM := hM'; clear hM') | (have _t := tk_s2; refine wpList_lay rfl _ _ _ rfl _ _ rfl _ _ rfl hM 0 rfl (by assumption) (rowTab _ _ rfl) (by omega) (fun j _ => gMem_one d k j) ?_; intro W' hM'; have hM2 := hM'.re 0 rfl (gMem d k) (fun k hk => by simp [lay, hk]); simp only [List.set_cons_zero] at hM2; clear hM hM' tk_s2; have hM := hM2; clear hM2) | (have _t := tk_g6; refine wpList_get rfl _ _ rfl _ _ rfl hM 0 rfl (rowTab _ _ rfl) (by omega) ?_; simp only [Nat.zero_add]; clear tk_g6) | (go_at_call 57; refine (isTold_any d k hxk _ (HE2.out.below hM.below)).mono ?_; rintro e W' ⟨rfl, hb'⟩; rw [HTo.out]; have hM' := hM.call hb'; clear hM hb'; have hM := hM'; clear hM'))
        go_ret
        rw [HZ.out]
        exact ⟨rfl, HB0.out.trans (hM.below.mono HB0.out.size)⟩
      · have HTo := Lib.hid ht
        clear ht
        have tk_b6 : True := trivial; have tk_s2 : True := trivial; have tk_g6 : True := trivial
        go_wp2_with (first | (refine wpList_getAt rfl _ _ rfl _ _ rfl HAt.out (rowTab _ _ rfl) (by omega) (gMem d k) HFr.out ?_) | (have _t := tk_b6; refine wpList_zero rfl _ rfl (zeroTab _ _ _ rfl) hM ?_; intro b6 W' hb6 hM'; clear hM tk_b6; have hM := hM'; clear hM') | (have _t := tk_s2; refine wpList_lay rfl _ _ _ rfl _ _ rfl _ _ rfl hM 0 rfl (by assumption) (rowTab _ _ rfl) (by omega) (fun j _ => gMem_one d k j) ?_; intro W' hM'; have hM2 := hM'.re 0 rfl (gMem d k) (fun k hk => by simp [lay, hk]); simp only [List.set_cons_zero] at hM2; clear hM hM' tk_s2; have hM := hM2; clear hM2) | (have _t := tk_g6; refine wpList_get rfl _ _ rfl _ _ rfl hM 0 rfl (rowTab _ _ rfl) (by omega) ?_; simp only [Nat.zero_add]; clear tk_g6) | (go_at_call 57; refine (isTold_any d k hxk _ (HE2.out.below hM.below)).mono ?_; rintro e W' ⟨rfl, hb'⟩; rw [HTo.out]; have hM' := hM.call hb'; clear hM hb'; have hM := hM'; clear hM'))
        go_roundw
        case rel => exact ⟨k + 1, by omega, by go_num, Lib.hid (fun q hq => by
          by_cases e : q = k
          · rw [e]; exact HTo.out
          · exact hall.out q (by omega)), hM.drop⟩
        case measure => simp [intOf]; omega
    · obtain rfl : k = n := by omega
      have hlen := fun ty => len_puts ((hM.below.block m (Array.getElem?_eq_some_iff.1 HO.out).1).trans HO.out) ty
      have hL2 := keysU_len d k
      have f1 : flkV ma k mc m 1 = .map (some m) := rfl
      have f0 : flkV ma k mc m 0 = .slice ma k mc := rfl
      have HKe := Lib.hid (fun (h : (keysU d k).length ≠ k) => keys_no (d := d) HF.out (by rw [Hn.out]; omega) Hc2.out Hc3.out (by rw [Hn.out]; exact h))
      have HKm := Lib.hid (fun (h : (keysU d k).length = k) => herdB_mut (d := d) HF.out (by rw [Hn.out]; omega) Hc2.out Hc3.out (by rw [Hn.out]; exact hall.out) (by rw [Hn.out]; exact h))
      obtain ⟨L, hL⟩ : ∃ L, (keysU d k).length = L := ⟨_, rfl⟩
      rw [hL] at hlen hL2 HKe HKm
      have hMU := fun W hA hT => areMutual_any d ma mc (by rw [Hn.out]; omega) (by rw [Hn.out]; exact HF'.out) W hA hT
      rw [Hn.out] at hMU HKm
      have HMU := Lib.hid hMU
      clear hL hMU
      by_cases hLn : L = k
      · have HZ := Lib.hid (HKm.out hLn)
        subst hLn
        go_wp2_with (first | (refine wpList_get1 rfl _ _ rfl _ _ rfl hM 0 rfl (cellTab _ rfl) (by omega) _ f1 ?_) | (refine wpList_gget1 ?_ _ _ rfl _ _ rfl hM 0 rfl (cellTab _ rfl) (by omega) _ f0 ?_; kernel_rfl) | (go_at_call 58; (with_reducible refine (HMU.out _ (HA2.out.below hM.below) (HE2.out.below hM.below).tab).mono ?_); rintro e W' ⟨rfl, hb'⟩; have hM' := hM.call hb'; clear hM hb'; have hM := hM'; clear hM'))
        go_ret
        rw [HZ.out]
        exact ⟨rfl, HB0.out.trans (hM.below.mono HB0.out.size)⟩
      · have HZ := Lib.hid (HKe.out hLn)
        have z2 : ((L : Int) == (k : Int)) = false := beq_eq_false_iff_ne.2 (by omega)
        have z3 : ¬ (L : Int) = k := by omega
        clear hLn
        go_wp2_with (first | (refine wpList_get1 rfl _ _ rfl _ _ rfl hM 0 rfl (cellTab _ rfl) (by omega) _ f1 ?_))
        go_ret
        rw [HZ.out]
        exact ⟨rfl, HB0.out.trans (hM.below.mono HB0.out.size)⟩
end Go.Proofs.YthodkbmenndnoaaDoor

/-
  impl.flockWith by contract.
-/
namespace Go.Proofs.YthodkbmenndnoaaDoor
open Go Go.RowKit Go.BigFrame

theorem run_flock0 (W : World) : (Instr.build 70 #[]).run Tryd.prog W = .ok (.agg (arr 2 zFlk)) W := by kernel_rfl
theorem exec_flock0 {o : Oper} {a : Act} (ho : o.op = .build 70 #[]) (W : World) : (execOp a.eval o).run Tryd.prog W = .ok (.value (.agg (arr 2 zFlk))) W := by
  have hr := run_flock0 W
  unfold execOp
  simp only [ho, List.map_toArray, List.map_nil, Sem.run_bind, Sem.run_pure, hr, Result.andThen_ok]
theorem zFlk_one (k : Nat) : (zFlk k).oneCell' = true := by
  unfold zFlk
  split <;> rfl
theorem make_closure (fn : Fn) (first cap : Array Value) (w : World) : (Instr.makeFunc fn first cap).run Tryd.prog w = .ok (.func fn first cap) w := rfl

set_option maxRecDepth 100000 in
set_option maxHeartbeats 2000000 in
theorem flockWith_no {a : Nat → Addr} {r : Addr} (d : Hd) (b1 b2 b3 : Nat) (hd : FitsH d) (gv : Value) (w : World) (hM0 : Mem w (hdB d b1 b2 b3) w) (hE : HEnv r w) (hI : w.cell? ⟨0, 0, none⟩ = some (errV (a 0))) (hv : herdB d = false) :
    Calls Tryd.prog 64 #[.agg (arr 3 (hdV d b1 b2 b3)), gv] w fun e w' => ∃ f, e = .returned (.tuple #[.agg (arr 2 f), errV (a 0)]) ∧ (∀ k, k < 2 → (f k).oneCell' = true) ∧ Below w.heap.size w w' := by
  have hM := Mem.nil w
  have H0 := Lib.hid hM0
  have HE := Lib.hid hE
  have HI := Lib.hid hI
  have HV := Lib.hid hv
  have hmf := make_closure
  clear hM0 hE hI hv
  obtain ⟨hv, hhv⟩ : ∃ f, hdV d b1 b2 b3 = f := ⟨_, rfl⟩
  have hVH := fun (W : World) hB hE => implValidHerd_any (r := r) d b1 b2 b3 hd W hB hE
  rw [hhv] at hVH ⊢
  have HVH := Lib.hid hVH
  clear hhv hVH
  have tk_x1 : True := trivial; have tk_f4 : True := trivial; have tk_e5 : True := trivial; have tk_g1 : True := trivial
  go_enter_defers Tryd.func64, Tryd.ntmps64
  go_wp2_with (first | (have _t := tk_x1; refine wpList_box rfl _ _ rfl _ _ rfl hM ?_; intro x1 W' hx1 hM'; clear hM tk_x1; have hM := hM'; clear hM') | (have _t := tk_f4; refine wpList_zero rfl _ rfl (zeroTab _ _ _ rfl) hM ?_; intro f4 W' hf4 hM'; clear hM tk_f4; have hM := hM'; clear hM') | (have _t := tk_e5; refine wpList_zero1 rfl _ rfl (zero1Tab _ _ rfl) rfl hM ?_; intro e5 W' he5 hM'; clear hM tk_e5; have hM := hM'; clear hM') | (have _t := tk_g1; refine wpList_get rfl _ _ rfl _ _ rfl hM 2 rfl (rowTab _ _ rfl) (by omega) ?_; simp only [Nat.zero_add]; clear tk_g1) | (go_at_call 18; refine (HVH.out _ ((H0.out.call hM.below).base (Below.refl _ _)) (HE.out.below hM.below)).mono ?_; rintro e W' ⟨rfl, hb'⟩; rw [HV.out]; have hM' := hM.call hb'; clear hM hb'; have hM := hM'; clear hM'))
  ((try simp only [Act.put, List.setIfInBounds_toArray, List.set_cons_succ, List.set_cons_zero]); refine region_readsX [0, 1] #[true, true, false, false] 2 [(e5, 1, fun _ => .nilIface), (f4, 2, zFlk)] (by kernel_rfl) (by kernel_rfl) (by kernel_rfl) hM ?_; clear hM; (repeat (refine qs_plain rfl rfl ?_; first | (refine b_val ?_; refine ⟨_, fun W => exec_flock0 rfl W, ?_⟩; (simp only [Act.put, List.setIfInBounds_toArray, List.set_cons_succ, List.set_cons_zero])) | (refine b_old _ _ rfl _ _ rfl (cellTab _ rfl) (errV (a 0)) (fun W hM => (hM.below.cell (block_lt_of_cell HI.out)).trans HI.out) ?_; (simp only [Act.put, List.setIfInBounds_toArray, List.set_cons_succ, List.set_cons_zero])))); (with_reducible refine qs_nil ?_))
  (refine mix_one (i := 2) (by kernel_rfl) rfl (by kernel_rfl) rfl ?_)
  (refine step_lay _ _ _ rfl _ _ rfl _ _ rfl 1 rfl (by assumption) (rowTab _ _ rfl) (by omega) (fun k _ => zFlk_one k) ?_; simp only [List.set]; (simp only [Act.put, List.setIfInBounds_toArray, List.set_cons_succ, List.set_cons_zero]))
  (refine mix_one (i := 3) (by kernel_rfl) rfl (by kernel_rfl) rfl ?_)
  (refine step_set1 _ _ _ rfl _ _ rfl (errV (a 0)) rfl rfl 0 rfl (by assumption) (cellTab _ rfl) (by omega) ?_; simp only [List.set]; (simp only [Act.put, List.setIfInBounds_toArray, List.set_cons_succ, List.set_cons_zero]))
  (refine mix_end (by kernel_rfl) ?_; intro W' hM; simp only [List.cons_append, List.nil_append] at hM)
  go_wp2
  refine leaves_cons (f := 106) (args := #[.pointer (some ⟨e5, 0, none⟩)]) (by simp) (by simp [go_sem]) ?_
  refine (catch_idle e5 _).mono ?_
  rintro e u' w'' ⟨rfl, rfl, rfl⟩
  exact ⟨_, results_cells rfl _ rfl (hM.ats 1 _ _ _ rfl) (rowTab _ _ rfl) rfl ((hM.ats 0 _ _ _ rfl).cell (by omega)) (cellTab _ rfl), _, rfl, (fun k hk => by simp only [lay]; split; exact zFlk_one _; exact zFlk_one _), hM.below⟩
/-- What a call makes is kept beside other blocks. -/
theorem Lst.keep {d : Hd} {b0 : Base} {L : Blocks} {X X' : World} {n : Nat} {v : Value} (hM : Mem b0 L X) (h : Lst X [] 3 v n (sMem d) X') :
    ∃ a c K, v = .slice a n c ∧ n ≤ c ∧ Mem b0 (L ++ K) X' ∧ ∀ (b1 : Base) (L' : Blocks) (W : World), Mem b1 (L' ++ K) W → MemsAt W a n d := by
  rcases h with ⟨h1, h2, h3⟩ | ⟨b, c, F, h1, h2, h3, h4, h5⟩
  · exact ⟨none, 0, [], by rw [h1, h2], by omega, by rw [List.append_nil]; exact hM.call h3.below, fun _ _ _ _ => .inl h2⟩
  · refine ⟨_, c, [(b, c * 3, F)], h1, h3, hM.fresh' h5.below h5.at0 h2, fun b1 L' W hW => .inr ⟨b, c * 3, F, rfl, Nat.mul_le_mul_right _ h3, h4, hW.ats L'.length b (c * 3) F (by simp)⟩⟩
/-- Numbers of goats in memory. -/
def IntsAt (W : World) (a : Option Addr) (n : Nat) (ys : Nat → Int) : Prop := n = 0 ∨ ∃ b N F, a = some ⟨b, 0, none⟩ ∧ n ≤ N ∧ (∀ j, j < n → F j = .int .i64 (ys j)) ∧ At W b N F
theorem IntsAt.below {W W' : World} {a : Option Addr} {n : Nat} {ys : Nat → Int} (h : IntsAt W a n ys) (hb : Below W.heap.size W W') : IntsAt W' a n ys := by
  rcases h with h | ⟨b, N, F, h1, h2, h3, h4⟩
  · exact .inl h
  · exact .inr ⟨b, N, F, h1, h2, h3, h4.below hb h4.lt⟩
theorem IntsAt.at {W : World} {a : Option Addr} {n : Nat} {ys : Nat → Int} (h : IntsAt W a n ys) {k : Nat} (hk : k < n) : ∃ b N F, a = some ⟨b, 0, none⟩ ∧ n ≤ N ∧ F k = .int .i64 (ys k) ∧ At W b N F := by
  rcases h with h | ⟨b, N, F, h1, h2, h3, h4⟩
  · omega
  · exact ⟨b, N, F, h1, h2, h3 k hk, h4⟩

set_option maxRecDepth 100000 in
set_option maxHeartbeats 4000000 in
theorem flockWith_ok {r : Addr} (d : Hd) (b1 b2 b3 : Nat) (hd : FitsH d) (ga : Option Addr) (gn gc : Nat) (ys : Nat → Int) (hgn : gn ≤ 1048576) (w : World) (hM0 : Mem w (hdB d b1 b2 b3) w) (hE : HEnv r w) (hG : IntsAt w ga gn ys) (hv : HerdOk d) (hys : ∀ j, j < gn → 0 ≤ ys j ∧ ys j < d.n1) :
    Calls Tryd.prog 64 #[.agg (arr 3 (hdV d b1 b2 b3)), .slice ga gn gc] w fun e w' => ∃ ma mc m, e = .returned (.tuple #[.agg (arr 2 (flkV ma d.n1 mc m)), .nilIface]) ∧ d.n1 ≤ mc ∧ MemsAt w' ma d.n1 d ∧ w'.heap[m]? = some (mapO kvS (keysU d d.n1) (putsU d d.n1)) ∧ Below w.heap.size w w' := by
  have hM := Mem.nil w
  have H0 := Lib.hid hM0
  have HE := Lib.hid hE
  have HG := Lib.hid hG
  have HV := Lib.hid (herdB_iff.2 hv)
  have HYS := Lib.hid hys
  have hmf := make_closure
  have h14 := hv.n
  have hMO := fun (W : World) (hB : Mem W (hdB d b1 b2 b3) W) => membersOf_l d b1 b2 b3 (by omega) hv.l2 hv.l3 W hB
  have hFO := fun (a : Option Addr) (c : Nat) (W : World) hA => flockOf_any d a d.n1 c h14 (fun i hi => hd.s i hi) W hA
  have hVH := fun (W : World) hB hE => implValidHerd_any (r := r) d b1 b2 b3 hd W hB hE
  clear hM0 hE hG hv hys
  obtain ⟨hv, hhv⟩ : ∃ f, hdV d b1 b2 b3 = f := ⟨_, rfl⟩
  rw [hhv] at hVH hMO ⊢
  obtain ⟨n, hn⟩ : ∃ n, d.n1 = n := ⟨_, rfl⟩
  rw [hn] at hMO hFO h14 ⊢
  have hys' := HYS.out
  rw [hn] at hys'
  have HY := Lib.hid hys'
  have HVH := Lib.hid hVH
  have HMO := Lib.hid hMO
  have HFO := Lib.hid hFO
  clear hhv hVH hMO hFO hn hys' HYS
  have tk_x1 : True := trivial; have tk_f4 : True := trivial; have tk_e5 : True := trivial; have tk_g1 : True := trivial; have tk_g2 : True := trivial; have tk_m1 : True := trivial; have tk_k1 : True := trivial; have tk_s1 : True := trivial
  go_enter_defers Tryd.func64, Tryd.ntmps64
  go_wp2_with (first | (have _t := tk_x1; refine wpList_box rfl _ _ rfl _ _ rfl hM ?_; intro x1 W' hx1 hM'; clear hM tk_x1; have hM := hM'; clear hM') | (have _t := tk_f4; refine wpList_zero rfl _ rfl (zeroTab _ _ _ rfl) hM ?_; intro f4 W' hf4 hM'; clear hM tk_f4; have hM := hM'; clear hM') | (have _t := tk_e5; refine wpList_zero1 rfl _ rfl (zero1Tab _ _ rfl) rfl hM ?_; intro e5 W' he5 hM'; clear hM tk_e5; have hM := hM'; clear hM') | (have _t := tk_g1; refine wpList_get rfl _ _ rfl _ _ rfl hM 2 rfl (rowTab _ _ rfl) (by omega) ?_; simp only [Nat.zero_add]; clear tk_g1) | (go_at_call 18; refine (HVH.out _ ((H0.out.call hM.below).base (Below.refl _ _)) (HE.out.below hM.below)).mono ?_; rintro e W' ⟨rfl, hb'⟩; rw [HV.out]; have hM' := hM.call hb'; clear hM hb'; have hM := hM'; clear hM') | (have _t := tk_g2; refine wpList_get rfl _ _ rfl _ _ rfl hM 2 rfl (rowTab _ _ rfl) (by omega) ?_; simp only [Nat.zero_add]; clear tk_g2) | (have _t := tk_m1; go_at_call 56; refine (HMO.out _ ((H0.out.call hM.below).base (Below.refl _ _))).mono ?_; rintro e W' ⟨v, rfl, hL⟩; obtain ⟨ma, mc, K, rfl, hmc, hM', hK⟩ := hL.keep hM; have HK := Lib.hid hK; clear hM hK hL tk_m1; have hM := hM'; clear hM'; simp only [List.cons_append, List.nil_append] at hM) | (have _t := tk_k1; go_at_call 55; refine (HFO.out ma mc _ (HK.out _ [_, _, _] _ hM)).mono ?_; rintro e Wf ⟨m, rfl, hmm, hO, hb'⟩; have hM' := (hM.call hb').withO (o := mapO kvS (keysU d n) (putsU d n)) rfl hO; clear hM hb' hO tk_k1; have hM := hM'; clear hM') | (have _t := tk_s1; refine wpList_lay rfl _ _ _ rfl _ _ rfl _ _ rfl hM 1 rfl (by assumption) (rowTab _ _ rfl) (by omega) (fun k _ => flkV_one _ _ _ _ k) ?_; intro W' hM'; have hM2 := hM'.re 1 rfl (flkV ma n mc m) (fun k hk => by simp [lay, hk]); simp only [List.set] at hM2; clear hM hM' tk_s1; have hM := hM2; clear hM2))
  go_loopw [19] (fun i wr => ∃ k : Nat, k ≤ gn ∧ i = .int .i64 k ∧ Mem ((Base.of w).with m (mapO kvS (keysU d n) (putsU d n)) rfl) ((e5, 1, fun _ => Value.nilIface) :: (f4, 2, flkV ma n mc m) :: (x1, 3, hv) :: K) wr) (fun i _ => gn - (intOf i).toNat)
  case atStart => exact ⟨0, by omega, rfl, hM⟩
  case round =>
    clear hM
    obtain ⟨k, hk, rfl, hM⟩ := hrel
    by_cases hlt : k < gn
    · have l2 : (k : Int) < gn := by omega
      obtain ⟨bg, Ng, Fg, rfl, hNg, hFg, hAg⟩ := (HG.out.below (show Below w.heap.size w wr from hM.good.1)).at (k := k) (by omega)
      have HAg := Lib.hid hAg
      clear hAg
      have hy := HY.out k (by omega)
      generalize ys k = y at hFg hy
      go_wp2_with (first | (refine wpList_getAt1 rfl _ _ rfl _ _ rfl HAg.out (cellTab _ rfl) (by omega) _ hFg ?_) | (refine wpList_get1 rfl _ _ rfl _ _ rfl hM 1 rfl (cellTab _ rfl) (by omega) (.slice ma n mc) rfl ?_) | (go_at_call 107; (with_reducible refine (demand_ok ma n mc y hy _).mono ?_); rintro e W' ⟨rfl, hb'⟩; have hM' := hM.call hb'; clear hM hb'; have hM := hM'; clear hM'))
      go_roundw
      case rel => exact ⟨k + 1, by omega, by go_num, hM⟩
      case measure => simp [intOf]; omega
    · obtain rfl : k = gn := by omega
      go_wp2_with (first | (refine wpList_get rfl _ _ rfl _ _ rfl hM 1 rfl (rowTab _ _ rfl) (by omega) ?_) | (refine wpList_lay rfl _ _ _ rfl _ _ rfl _ _ rfl hM 1 rfl (by assumption) (rowTab _ _ rfl) (by omega) (fun k _ => by rw [Nat.zero_add]; exact flkV_one _ _ _ _ k) ?_; intro W' hM'; have hM2 := hM'.re 1 rfl (flkV ma n mc m) (fun k hk => by simp [lay, hk]); simp only [List.set] at hM2; clear hM hM'; have hM := hM2; clear hM2) | (refine wpList_set1 rfl _ _ _ rfl _ _ rfl .nilIface rfl rfl hM 0 rfl (by assumption) (cellTab _ rfl) (by omega) ?_; intro W' hM'; have hM2 := hM'.re 0 rfl (fun _ => Value.nilIface) (fun k hk => by simp [upd]); simp only [List.set] at hM2; clear hM hM'; have hM := hM2; clear hM2))
      refine leaves_cons (f := 106) (args := #[.pointer (some ⟨e5, 0, none⟩)]) (by simp) (by simp [go_sem]) ?_
      refine (catch_idle e5 _).mono ?_
      rintro e u' w'' ⟨rfl, rfl, rfl⟩
      exact ⟨_, results_cells rfl _ rfl (hM.ats 1 _ _ _ rfl) (rowTab _ _ rfl) rfl ((hM.ats 0 _ _ _ rfl).cell (by omega)) (cellTab _ rfl), ma, mc, m, rfl, hmc, HK.out _ [_, _, _] _ hM, hM.good.2, hM.good.1⟩
set_option maxRecDepth 100000 in
set_option maxHeartbeats 4000000 in
theorem flockWith_stray {r : Addr} (d : Hd) (b1 b2 b3 : Nat) (hd : FitsH d) (ga : Option Addr) (gn gc : Nat) (ys : Nat → Int) (hgn : gn ≤ 1048576) (w : World) (hM0 : Mem w (hdB d b1 b2 b3) w) (hE : HEnv r w) (hG : IntsAt w ga gn ys) (hv : HerdOk d) (k0 : Nat) (hk0 : k0 < gn) (hys : ∀ j, j < k0 → 0 ≤ ys j ∧ ys j < d.n1) (hbad : ¬ (0 ≤ ys k0 ∧ ys k0 < d.n1)) :
    Calls Tryd.prog 64 #[.agg (arr 3 (hdV d b1 b2 b3)), .slice ga gn gc] w fun e w' => ∃ f, e = .returned (.tuple #[.agg (arr 2 f), strayV (ys k0)]) ∧ (∀ k, k < 2 → (f k).oneCell' = true) ∧ Below w.heap.size w w' := by
  have hM := Mem.nil w
  have H0 := Lib.hid hM0
  have HE := Lib.hid hE
  have HG := Lib.hid hG
  have HV := Lib.hid (herdB_iff.2 hv)
  have HYS := Lib.hid hys
  have hmf := make_closure
  have h14 := hv.n
  have HBAD := Lib.hid hbad
  have hMO := fun (W : World) (hB : Mem W (hdB d b1 b2 b3) W) => membersOf_l d b1 b2 b3 (by omega) hv.l2 hv.l3 W hB
  have hFO := fun (a : Option Addr) (c : Nat) (W : World) hA => flockOf_any d a d.n1 c h14 (fun i hi => hd.s i hi) W hA
  have hVH := fun (W : World) hB hE => implValidHerd_any (r := r) d b1 b2 b3 hd W hB hE
  clear hM0 hE hG hv hys hbad
  obtain ⟨hv, hhv⟩ : ∃ f, hdV d b1 b2 b3 = f := ⟨_, rfl⟩
  rw [hhv] at hVH hMO ⊢
  obtain ⟨n, hn⟩ : ∃ n, d.n1 = n := ⟨_, rfl⟩
  rw [hn] at hMO hFO h14
  have hys' := HYS.out
  rw [hn] at hys'
  have HY := Lib.hid hys'
  have hbad := HBAD.out
  rw [hn] at hbad
  have HB := Lib.hid hbad
  clear hbad HBAD
  have HVH := Lib.hid hVH
  have HMO := Lib.hid hMO
  have HFO := Lib.hid hFO
  clear hhv hVH hMO hFO hn hys' HYS
  have tk_x1 : True := trivial; have tk_f4 : True := trivial; have tk_e5 : True := trivial; have tk_g1 : True := trivial; have tk_g2 : True := trivial; have tk_m1 : True := trivial; have tk_k1 : True := trivial; have tk_s1 : True := trivial
  go_enter_defers Tryd.func64, Tryd.ntmps64
  go_wp2_with (first | (have _t := tk_x1; refine wpList_box rfl _ _ rfl _ _ rfl hM ?_; intro x1 W' hx1 hM'; clear hM tk_x1; have hM := hM'; clear hM') | (have _t := tk_f4; refine wpList_zero rfl _ rfl (zeroTab _ _ _ rfl) hM ?_; intro f4 W' hf4 hM'; clear hM tk_f4; have hM := hM'; clear hM') | (have _t := tk_e5; refine wpList_zero1 rfl _ rfl (zero1Tab _ _ rfl) rfl hM ?_; intro e5 W' he5 hM'; clear hM tk_e5; have hM := hM'; clear hM') | (have _t := tk_g1; refine wpList_get rfl _ _ rfl _ _ rfl hM 2 rfl (rowTab _ _ rfl) (by omega) ?_; simp only [Nat.zero_add]; clear tk_g1) | (go_at_call 18; refine (HVH.out _ ((H0.out.call hM.below).base (Below.refl _ _)) (HE.out.below hM.below)).mono ?_; rintro e W' ⟨rfl, hb'⟩; rw [HV.out]; have hM' := hM.call hb'; clear hM hb'; have hM := hM'; clear hM') | (have _t := tk_g2; refine wpList_get rfl _ _ rfl _ _ rfl hM 2 rfl (rowTab _ _ rfl) (by omega) ?_; simp only [Nat.zero_add]; clear tk_g2) | (have _t := tk_m1; go_at_call 56; refine (HMO.out _ ((H0.out.call hM.below).base (Below.refl _ _))).mono ?_; rintro e W' ⟨v, rfl, hL⟩; obtain ⟨ma, mc, K, rfl, hmc, hM', hK⟩ := hL.keep hM; have HK := Lib.hid hK; clear hM hK hL tk_m1; have hM := hM'; clear hM'; simp only [List.cons_append, List.nil_append] at hM) | (have _t := tk_k1; go_at_call 55; refine (HFO.out ma mc _ (HK.out _ [_, _, _] _ hM)).mono ?_; rintro e Wf ⟨m, rfl, hmm, hO, hb'⟩; have hM' := (hM.call hb').withO (o := mapO kvS (keysU d n) (putsU d n)) rfl hO; clear hM hb' hO tk_k1; have hM := hM'; clear hM') | (have _t := tk_s1; refine wpList_lay rfl _ _ _ rfl _ _ rfl _ _ rfl hM 1 rfl (by assumption) (rowTab _ _ rfl) (by omega) (fun k _ => flkV_one _ _ _ _ k) ?_; intro W' hM'; have hM2 := hM'.re 1 rfl (flkV ma n mc m) (fun k hk => by simp [lay, hk]); simp only [List.set] at hM2; clear hM hM' tk_s1; have hM := hM2; clear hM2))
  go_loopw [19] (fun i wr => ∃ k : Nat, k ≤ k0 ∧ i = .int .i64 k ∧ Mem ((Base.of w).with m (mapO kvS (keysU d n) (putsU d n)) rfl) ((e5, 1, fun _ => Value.nilIface) :: (f4, 2, flkV ma n mc m) :: (x1, 3, hv) :: K) wr) (fun i _ => gn - (intOf i).toNat)
  case atStart => exact ⟨0, by omega, rfl, hM⟩
  case round =>
    clear hM
    obtain ⟨k, hk, rfl, hM⟩ := hrel
    by_cases hlt : k < k0
    · have l2 : (k : Int) < gn := by omega
      obtain ⟨bg, Ng, Fg, rfl, hNg, hFg, hAg⟩ := (HG.out.below (show Below w.heap.size w wr from hM.good.1)).at (k := k) (by omega)
      have HAg := Lib.hid hAg
      clear hAg
      have hy := HY.out k (by omega)
      generalize ys k = y at hFg hy
      go_wp2_with (first | (refine wpList_getAt1 rfl _ _ rfl _ _ rfl HAg.out (cellTab _ rfl) (by omega) _ hFg ?_) | (refine wpList_get1 rfl _ _ rfl _ _ rfl hM 1 rfl (cellTab _ rfl) (by omega) (.slice ma n mc) rfl ?_) | (go_at_call 107; (with_reducible refine (demand_ok ma n mc y hy _).mono ?_); rintro e W' ⟨rfl, hb'⟩; have hM' := hM.call hb'; clear hM hb'; have hM := hM'; clear hM'))
      go_roundw
      case rel => exact ⟨k + 1, by omega, by go_num, hM⟩
      case measure => simp [intOf]; omega
    · obtain rfl : k = k0 := by omega
      have l2 : (k : Int) < gn := by omega
      obtain ⟨bg, Ng, Fg, rfl, hNg, hFg, hAg⟩ := (HG.out.below (show Below w.heap.size w wr from hM.good.1)).at (k := k) (by omega)
      have HAg := Lib.hid hAg
      have hb := HB.out
      clear hAg
      obtain ⟨y, hy⟩ : ∃ y, ys k = y := ⟨_, rfl⟩
      rw [hy] at hFg hb
      have Hy := Lib.hid hy
      clear hy
      have HB2 := Lib.hid hb
      clear hb
      go_wp2_with (first | (refine wpList_getAt1 rfl _ _ rfl _ _ rfl HAg.out (cellTab _ rfl) (by omega) _ hFg ?_) | (refine wpList_get1 rfl _ _ rfl _ _ rfl hM 1 rfl (cellTab _ rfl) (by omega) (.slice ma n mc) rfl ?_) | (go_at_call 107; refine (demand_no ma n mc y HB2.out _).mono ?_; rintro e W' ⟨rfl, hb'⟩; have hM' := hM.call hb'; clear hM hb'; have hM := hM'; clear hM'))
      refine leaves_cons (f := 106) (args := #[.pointer (some ⟨e5, 0, none⟩)]) (by simp) (by simp [go_sem]) ?_
      refine (catch_stray e5 .nilIface y _ hM (by assumption)).mono ?_
      rintro e u' w'' ⟨rfl, rfl, hM2⟩
      rw [Hy.out]
      exact ⟨_, results_cells rfl _ rfl (hM2.ats 1 _ _ _ rfl) (rowTab _ _ rfl) rfl ((hM2.ats 0 _ _ _ rfl).cell (by omega)) (cellTab _ rfl), _, rfl, (fun k _ => flkV_one _ _ _ _ k), hM2.good.1⟩
end Go.Proofs.YthodkbmenndnoaaDoor

/-
  laws.markText by contract: the same text for the same number.
-/
namespace Go.Proofs.YthodkbmenndnoaaDoor
open Go Go.RowKit Go.BigFrame

def digB (k : Nat) : ByteArray := ⟨#[UInt8.ofNat (48 + k % 10)]⟩
def digs : Nat → Nat → ByteArray → ByteArray
  | 0, _, acc => acc
  | f + 1, k, acc => if k = 0 then acc else digs f (k / 10) (digB k ++ acc)
def mtxt (k : Nat) : ByteArray := if k = 0 then ⟨#[109, 48]⟩ else ⟨#[109]⟩ ++ digs 20 k ⟨#[]⟩
theorem wpList_byte {ops : Array Oper} {rest : List Oper} {o : Oper} {a : Act} {w : Base} {L : Blocks} {W : World} {Q : Exit → Act → World → Prop} (hgd : o.guard = none) (x : Operand) (ho : o.op = .convert 153 9 x) (b : Nat) (hx : a.eval x = .slice (some ⟨b, 0, none⟩) 1 1)
    (hM : Mem w L W) (i : Nat) {f : Nat → Value} (hi : L[i]? = some (b, 1, f)) (d : Nat) (hd : d < 10) (hf : f 0 = .int .u8 ((48 + d : Nat) : Int)) (u : UInt8) (hu : UInt8.ofNat (48 + d) = u)
    (h : wpList Tryd.prog ops Q rest (a.put o.dst (.string ⟨#[u]⟩)) W) : wpList Tryd.prog ops Q (o :: rest) a W := by
  subst hu
  refine wpList_plain hgd fun K hK => ?_
  have hc := (hM.ats i b 1 f hi).cell (k := 0) (by omega)
  have hr := run_convert_bytes_back (P := Tryd.prog) W 153 9 5 ⟨b, 0, none⟩ 1 [UInt8.ofNat (48 + d)] Tryd.underlying153 Tryd.underlying5 Tryd.underlying9 (fun j hj => by
    have hj0 : j = 0 := by simpa using hj
    subst hj0
    have e : (⟨b, 0, none⟩ : Addr).add 0 = ⟨b, 0, none⟩ := by simp [Addr.add]
    rw [e, hc, hf]
    have : (UInt8.ofNat (48 + d)).toNat = 48 + d := by simp; omega
    rw [List.getElem_cons_zero, this])
  unfold Oper.wp execOp
  simp only [ho, hx, Sem.run_bind, Sem.run_pure, Result.andThen_ok]
  simp only [List.length_cons, List.length_nil, Nat.zero_add] at hr
  rw [hr]
  exact hK _ _ h
theorem bytes_under : Tryd.prog.underlying 153 = some (.slice 5) := Tryd.underlying153
theorem byte_info : (Tryd.prog.info? 5).map (fun i => (i.size, i.zero)) = some (1, some (.int .u8 0)) := by kernel_rfl
theorem digs_step {f r : Nat} {acc : ByteArray} (hr : r ≠ 0) : digs (f + 1) r acc = digs f (r / 10) (digB r ++ acc) := by simp [digs, hr]
theorem digs_zero {f : Nat} {acc : ByteArray} : digs f 0 acc = acc := by cases f <;> simp [digs]
set_option maxRecDepth 100000 in
set_option maxHeartbeats 1000000 in
theorem markText_any (k : Nat) (hk : k ≤ 1000000000) (w : World) :
    Calls Tryd.prog 110 #[.int .i64 k] w fun e w' => e = .returned (.string (mtxt k)) ∧ Below w.heap.size w w' := by
  have hM := Mem.nil w
  by_cases h0 : k = 0
  · subst h0
    go_enter Tryd.func110, Tryd.ntmps110
    go_wp2
    go_ret
    exact ⟨rfl, hM.below⟩
  have hpos : 0 < (k : Int) := by omega
  have d0 : decide ((k : Int) ≤ 0) = false := decide_eq_false (by omega)
  go_enter Tryd.func110, Tryd.ntmps110
  go_wp2
  go_loopw [0, 3] (fun x s wr => ∃ (f r : Nat) (acc : ByteArray), x = .int .i64 r ∧ s = .string acc ∧ r ≤ 1000000000 ∧ r < 10 ^ f ∧ acc.size + f ≤ 20 ∧ Hid (digs f r acc = digs 20 k ⟨#[]⟩) ∧ Mem w [] wr) (fun x _ _ => (intOf x).toNat)
  case atStart => exact ⟨20, k, ⟨#[]⟩, rfl, rfl, hk, by omega, by decide, Lib.hid rfl, hM⟩
  case round =>
    clear hM
    obtain ⟨f, r, acc, rfl, rfl, hr, hrf, hf, hd, hM⟩ := hrel
    have hs1 : ({ data := #[109] } : ByteArray).size = 1 := rfl
    by_cases hz : r = 0
    · subst hz
      have HZ := Lib.hid (show (⟨#[109]⟩ ++ acc : ByteArray) = mtxt k from by unfold mtxt; rw [if_neg h0, ← hd.out, digs_zero])
      go_wp2
      try (any_goals (exfalso; omega))
      go_ret
      rw [← HZ.out]
      exact ⟨rfl, hM.below⟩
    · have l1 : (0 : Int) < r := by omega
      obtain ⟨f, rfl⟩ : ∃ f', f = f' + 1 := ⟨f - 1, by
        rcases f with _ | f
        · simp at hrf; omega
        · rfl⟩
      have hdiv : r / 10 < 10 ^ f := by rw [Nat.pow_succ] at hrf; omega
      obtain ⟨d, hdd⟩ : ∃ d, r % 10 = d := ⟨_, rfl⟩
      have hd10 : d < 10 := by omega
      have c1 : (r : Int) % 10 = (d : Int) := by omega
      have cm : Int.tmod (r : Int) 10 = (d : Int) := by rw [Int.tmod_eq_emod_of_nonneg (by omega)]; exact c1
      have c2 : IntKind.u8.wrap (48 + (d : Int)) = ((48 + d : Nat) : Int) := by rw [IntWalk.u8_in _ (by omega)]; omega
      have HD := Lib.hid (show digs f (r / 10) (⟨#[UInt8.ofNat (48 + d)]⟩ ++ acc) = digs 20 k ⟨#[]⟩ from by rw [← hd.out, digs_step hz, digB, hdd])
      obtain ⟨u, hu⟩ : ∃ u : UInt8, UInt8.ofNat (48 + d) = u := ⟨_, rfl⟩
      rw [hu] at HD
      have HU := Lib.hid hu
      have hs2 : ({ data := #[u] } : ByteArray).size = 1 := rfl
      have HS := Lib.hid (show ((⟨#[u]⟩ : ByteArray) ++ acc).size + f ≤ 20 from by rw [ByteArray.size_append, hs2]; omega)
      clear hd hdd hrf hu
      have tk_l1b : True := trivial
      go_wp2_with (first | (have _t := tk_l1b; refine wpList_lit1 rfl _ _ _ rfl (.int .u8 ((48 + d : Nat) : Int)) (by first | rfl | exact congrArg (Value.int .u8) c2) rfl _ bytes_under byte_info hM ?_; intro lb W' hlb hM'; clear hM tk_l1b; have hM := hM'; clear hM') | (refine wpList_byte rfl _ rfl _ rfl hM 0 rfl d hd10 rfl u HU.out ?_))
      go_roundw
      case rel => exact ⟨f, r / 10, _, by go_num, rfl, by omega, hdiv, HS.out, HD, hM.drop⟩
      case measure => simp [intOf]; omega
end Go.Proofs.YthodkbmenndnoaaDoor

/-
  laws.eqStringS, markStringS, heldStringS over lists that hold room behind their end.
-/
namespace Go.Proofs.YthodkbmenndnoaaDoor
open Go Go.RowKit Go.BigFrame Go.ChangeShapes Go.WideShapes Go.Deep

theorem eqStringS_zero (a a' : Option Addr) (c c' : Nat) (w : World) : Calls Tryd.prog 59 #[.slice a 0 c, .slice a' 0 c'] w fun e w' => e = .returned (.bool true) ∧ Below w.heap.size w w' := by
  go_enter Tryd.func59, Tryd.ntmps59
  go_wp2
  refine wp_loop_rounds 1 ?_
  rw [rounds_succ]
  go_wp2
  go_ret
  exact ⟨rfl, Below.refl _ _⟩
theorem markStringS_zero (a : Option Addr) (c : Nat) (k : Int) (w : World) : Calls Tryd.prog 67 #[.slice a 0 c, .int .i64 k] w fun e w' => e = .returned (.int .i64 k) ∧ Below w.heap.size w w' := by
  go_enter Tryd.func67, Tryd.ntmps67
  go_wp2
  refine wp_loop_rounds 1 ?_
  rw [rounds_succ]
  go_wp2
  go_ret
  exact ⟨rfl, Below.refl _ _⟩
theorem heldStringS_zero (a : Option Addr) (c : Nat) (k : Int) (w : World) : Calls Tryd.prog 75 #[.slice a 0 c, .int .i64 k] w fun e w' => e = .returned (.int .i64 k) ∧ Below w.heap.size w w' := by
  go_enter Tryd.func75, Tryd.ntmps75
  go_wp2
  refine wp_loop_rounds 1 ?_
  rw [rounds_succ]
  go_wp2
  go_ret
  exact ⟨rfl, Below.refl _ _⟩

set_option maxRecDepth 100000 in
set_option maxHeartbeats 1000000 in
/-- eqStringS of two lists that hold the same. -/
theorem eqStringS_list (b b' n c c' N N' : Nat) (F F' : Nat → Value) (ys : Nat → ByteArray) (hF : ∀ j, j < n → F j = vStringS ys j) (hF' : ∀ j, j < n → F' j = vStringS ys j) (hN : n ≤ N) (hN' : n ≤ N') (hn : n ≤ 1048576) (w : World) (hA : At w b N F) (hA' : At w b' N' F') (hne : b ≠ b') :
    Calls Tryd.prog 59 #[.slice (some ⟨b, 0, none⟩) n c, .slice (some ⟨b', 0, none⟩) n c'] w fun e w' => e = .returned (.bool true) ∧ Below w.heap.size w w' := by
  have hM : Mem w [(b, N, F), (b', N', F')] w := ((Mem.nil w).old hA (fun i p h => by simp at h)).old hA' (fun i p h => by
    match i, h with
    | 0, h => simp at h; rw [← h]; exact hne
    | _ + 1, h => simp at h)
  have Hf := Lib.hid hF
  have Hf' := Lib.hid hF'
  clear hA hA' hF hF'
  go_enter Tryd.func59, Tryd.ntmps59
  go_wp2
  go_loopw [5] (fun i wr => ∃ k : Nat, k ≤ n ∧ i = .int .i64 k ∧ Mem w [(b, N, F), (b', N', F')] wr) (fun i _ => n - (intOf i).toNat)
  case atStart => exact ⟨0, by omega, rfl, hM⟩
  case round =>
    clear hM
    obtain ⟨k, hk, rfl, hM⟩ := hrel
    by_cases hlt : k < n
    · have l2 : (k : Int) < n := by omega
      have c1 : F k = .string (ys k) := Hf.out k hlt
      have c2 : F' k = .string (ys k) := Hf'.out k hlt
      generalize ys k = yk at c1 c2
      have hb : (yk.toList == yk.toList) = true := BEq.rfl
      go_wp2
      ((try simp only [Act.put, List.setIfInBounds_toArray, List.set_cons_succ, List.set_cons_zero]); refine wp_region_mem (by kernel_rfl) (by kernel_rfl) hM ?_; clear hM; (repeat (first | go_big_quiet_skip | (go_big_quiet_want; first | (refine quiet_get1 _ _ rfl _ _ rfl 1 rfl cellStringS (by omega) _ c2 ?_; (simp only [Act.put, List.setIfInBounds_toArray, List.set_cons_succ, List.set_cons_zero]); go_big_quiet_on) | (refine quiet_get1 _ _ rfl _ _ rfl 0 rfl cellStringS (by omega) _ c1 ?_; (simp only [Act.put, List.setIfInBounds_toArray, List.set_cons_succ, List.set_cons_zero]); go_big_quiet_on) | (refine quiet_val ?_; apply Exists.intro; refine ⟨fun W => ?_, ?_⟩; (go_simp; (try simp only [l2, hb, if_true, Bool.false_eq_true, if_false]); rfl); (simp only [Act.put, List.setIfInBounds_toArray, List.set_cons_succ, List.set_cons_zero]); go_big_quiet_on)))); (with_reducible refine wpQuiet_nil ?_); intro W' hM)
      go_wp2
      go_roundw
      case rel => exact ⟨k + 1, by omega, by go_num, hM⟩
      case measure => simp [intOf]; omega
    · obtain rfl : k = n := by omega
      go_wp2
      go_ret
      exact ⟨rfl, hM.below⟩

/-- The mark j, as a cell. -/
def mkString (j : Nat) : Value := .string (mtxt j)
set_option maxRecDepth 100000 in
set_option maxHeartbeats 1000000 in
/-- markStringS writes its marks into the list. -/
theorem markStringS_list (b0 : Base) (K : Blocks) (b n c N k0 : Nat) (F : Nat → Value) (hN : n ≤ N) (hn : n ≤ 1048576) (hk0 : k0 ≤ 100000000) (hb : b0.B ≤ b) (w : World) (hM0 : Mem b0 ((b, N, F) :: K) w) :
    Calls Tryd.prog 67 #[.slice (some ⟨b, 0, none⟩) n c, .int .i64 k0] w fun e w' => e = .returned (.int .i64 ((k0 + n : Nat) : Int)) ∧ ∃ G, (∀ j, j < n → G j = mkString (k0 + j)) ∧ Mem b0 ((b, N, G) :: K) w' := by
  have hM := hM0
  clear hM0
  go_enter Tryd.func67, Tryd.ntmps67
  go_wp2
  go_loopw [1, 5] (fun t i wr => ∃ k : Nat, k ≤ n ∧ t = .int .i64 ((k0 + k : Nat) : Int) ∧ i = .int .i64 k ∧ ∃ G, Hid (∀ j, j < k → G j = mkString (k0 + j)) ∧ Mem b0 ((b, N, G) :: K) wr) (fun _ i _ => n - (intOf i).toNat)
  case atStart => exact ⟨0, by omega, by simp, rfl, F, Lib.hid (fun j hj => absurd hj (by omega)), hM⟩
  case round =>
    clear hM
    obtain ⟨k, hk, rfl, rfl, G, hG, hM⟩ := hrel
    by_cases hlt : k < n
    · have l2 : (k : Int) < n := by omega
      obtain ⟨mm, hm⟩ : ∃ m : Nat, m = k0 + k := ⟨_, rfl⟩
      rw [← hm]
      have n1 : IntKind.i64.wrap ((mm : Int) + 1) = (mm : Int) + 1 := IntWalk.i64_in _ (by omega)
      have n2 : IntKind.i64.wrap (mm : Int) = (mm : Int) := IntWalk.i64_in _ (by omega)
      have hl : (mm : Int) + 1 = ((k0 + (k + 1) : Nat) : Int) := by omega
      have Hl := Lib.hid hl
      have Hm := Lib.hid hm
      clear hm hl
      have hm3 : mm ≤ 1000000000 := by have := Hm.out; omega
      obtain ⟨xx, hxx⟩ : ∃ x, mtxt mm = x := ⟨_, rfl⟩
      have Hxx := Lib.hid hxx
      clear hxx
      go_wp2_with (first | (go_at_call 110; refine (markText_any mm hm3 _).mono ?_; rintro e W' ⟨rfl, hb'⟩; rw [Hxx.out]; have hM' := hM.call hb'; clear hM hb'; have hM := hM'; clear hM') | (refine wpList_set1 rfl _ _ _ rfl _ _ rfl _ rfl ?_ hM 0 rfl (by assumption) (cellTab _ rfl) (by omega) ?_; (first | rfl | exact h1 _); intro W' hM'; clear hM; have hM := hM'; clear hM'; simp [List.set, Act.eval] at hM))
      go_roundw
      case rel => exact ⟨k + 1, by omega, by first | exact congrArg (Value.int .i64) Hl.out | rfl, by go_num, _, Lib.hid (fun j hj => by
        simp only [upd]
        by_cases e0 : j = k
        · rw [if_pos e0, e0, ← Hm.out]; exact congrArg Value.string Hxx.out.symm
        · rw [if_neg e0]; exact hG.out j (by omega)), hM⟩
      case measure => simp [intOf]; omega
    · obtain rfl : k = n := by omega
      go_wp2
      go_ret
      exact ⟨rfl, G, hG.out, hM⟩

set_option maxRecDepth 100000 in
set_option maxHeartbeats 1000000 in
/-- heldStringS finds the marks. -/
theorem heldStringS_list (b n c N k0 : Nat) (G : Nat → Value) (hN : n ≤ N) (hn : n ≤ 1048576) (hk0 : k0 ≤ 100000000) (hG : ∀ j, j < n → G j = mkString (k0 + j)) (w : World) (hA : At w b N G) :
    Calls Tryd.prog 75 #[.slice (some ⟨b, 0, none⟩) n c, .int .i64 k0] w fun e w' => e = .returned (.int .i64 ((k0 + n : Nat) : Int)) ∧ Below w.heap.size w w' := by
  have hM : Mem w [(b, N, G)] w := (Mem.nil w).old hA (fun i p h => by simp at h)
  have Hg := Lib.hid hG
  clear hA hG
  go_enter Tryd.func75, Tryd.ntmps75
  go_wp2
  go_loopw [1, 5] (fun t i wr => ∃ k : Nat, k ≤ n ∧ t = .int .i64 ((k0 + k : Nat) : Int) ∧ i = .int .i64 k ∧ Mem w [(b, N, G)] wr) (fun _ i _ => n - (intOf i).toNat)
  case atStart => exact ⟨0, by omega, by simp, rfl, hM⟩
  case round =>
    clear hM
    obtain ⟨k, hk, rfl, rfl, hM⟩ := hrel
    by_cases hlt : k < n
    · have l2 : (k : Int) < n := by omega
      obtain ⟨mm, hm⟩ : ∃ m : Nat, m = k0 + k := ⟨_, rfl⟩
      obtain ⟨xx, hxx⟩ : ∃ x, mtxt mm = x := ⟨_, rfl⟩
      have g0 : G k = .string xx := by rw [Hg.out k hlt, ← hxx, hm]; rfl
      have nx : (xx.toList == xx.toList) = true := BEq.rfl
      have hm3 : mm ≤ 1000000000 := by omega
      have Hxx := Lib.hid hxx
      rw [← hm]
      have n1 : IntKind.i64.wrap ((mm : Int) + 1) = (mm : Int) + 1 := IntWalk.i64_in _ (by omega)
      have n2 : IntKind.i64.wrap (mm : Int) = (mm : Int) := IntWalk.i64_in _ (by omega)
      have hl : (mm : Int) + 1 = ((k0 + (k + 1) : Nat) : Int) := by omega
      have Hl := Lib.hid hl
      clear hm hl
      go_wp2
      ((try simp only [Act.put, List.setIfInBounds_toArray, List.set_cons_succ, List.set_cons_zero]); refine wp_region_mem (by kernel_rfl) (by kernel_rfl) hM ?_; clear hM; (repeat (first | go_big_quiet_skip | (go_big_quiet_want; first | (refine quiet_get1 _ _ rfl _ _ rfl 0 rfl (cellTab _ rfl) (by omega) _ (g0) ?_; (simp only [Act.put, List.setIfInBounds_toArray, List.set_cons_succ, List.set_cons_zero]); go_big_quiet_on) | (refine quiet_call ?_; apply Exists.intro; apply Exists.intro; apply Exists.intro; refine ⟨fun W => ?_, fun W hM => ?_, ?_⟩; (go_simp; exact ⟨rfl, rfl⟩); (with_reducible exact markText_any mm hm3 W); (simp only [Hxx.out]); (simp only [Act.put, List.setIfInBounds_toArray, List.set_cons_succ, List.set_cons_zero]); go_big_quiet_on) | (refine quiet_val ?_; apply Exists.intro; refine ⟨fun W => ?_, ?_⟩; (go_simp; (try simp only [nx, if_true, Bool.false_eq_true, if_false]); rfl); (simp only [Act.put, List.setIfInBounds_toArray, List.set_cons_succ, List.set_cons_zero]); go_big_quiet_on)))); (with_reducible refine wpQuiet_nil ?_); intro W' hM)
      go_wp2
      go_roundw
      case rel => exact ⟨k + 1, by omega, by first | exact congrArg (Value.int .i64) Hl.out | rfl, by go_num, hM⟩
      case measure => simp [intOf]; omega
    · obtain rfl : k = n := by omega
      go_wp2
      go_ret
      exact ⟨rfl, hM.below⟩
end Go.Proofs.YthodkbmenndnoaaDoor

/-
  laws.eqInt16S, markInt16S, heldInt16S over lists that hold room behind their end.
-/
namespace Go.Proofs.YthodkbmenndnoaaDoor
open Go Go.RowKit Go.BigFrame Go.ChangeShapes Go.WideShapes Go.Deep

theorem eqInt16S_zero (a a' : Option Addr) (c c' : Nat) (w : World) : Calls Tryd.prog 60 #[.slice a 0 c, .slice a' 0 c'] w fun e w' => e = .returned (.bool true) ∧ Below w.heap.size w w' := by
  go_enter Tryd.func60, Tryd.ntmps60
  go_wp2
  refine wp_loop_rounds 1 ?_
  rw [rounds_succ]
  go_wp2
  go_ret
  exact ⟨rfl, Below.refl _ _⟩
theorem markInt16S_zero (a : Option Addr) (c : Nat) (k : Int) (w : World) : Calls Tryd.prog 68 #[.slice a 0 c, .int .i64 k] w fun e w' => e = .returned (.int .i64 k) ∧ Below w.heap.size w w' := by
  go_enter Tryd.func68, Tryd.ntmps68
  go_wp2
  refine wp_loop_rounds 1 ?_
  rw [rounds_succ]
  go_wp2
  go_ret
  exact ⟨rfl, Below.refl _ _⟩
theorem heldInt16S_zero (a : Option Addr) (c : Nat) (k : Int) (w : World) : Calls Tryd.prog 76 #[.slice a 0 c, .int .i64 k] w fun e w' => e = .returned (.int .i64 k) ∧ Below w.heap.size w w' := by
  go_enter Tryd.func76, Tryd.ntmps76
  go_wp2
  refine wp_loop_rounds 1 ?_
  rw [rounds_succ]
  go_wp2
  go_ret
  exact ⟨rfl, Below.refl _ _⟩

set_option maxRecDepth 100000 in
set_option maxHeartbeats 1000000 in
/-- eqInt16S of two lists that hold the same. -/
theorem eqInt16S_list (b b' n c c' N N' : Nat) (F F' : Nat → Value) (ys : Nat → Int) (hF : ∀ j, j < n → F j = vInt16S ys j) (hF' : ∀ j, j < n → F' j = vInt16S ys j) (hN : n ≤ N) (hN' : n ≤ N') (hn : n ≤ 1048576) (w : World) (hA : At w b N F) (hA' : At w b' N' F') (hne : b ≠ b') :
    Calls Tryd.prog 60 #[.slice (some ⟨b, 0, none⟩) n c, .slice (some ⟨b', 0, none⟩) n c'] w fun e w' => e = .returned (.bool true) ∧ Below w.heap.size w w' := by
  have hM : Mem w [(b, N, F), (b', N', F')] w := ((Mem.nil w).old hA (fun i p h => by simp at h)).old hA' (fun i p h => by
    match i, h with
    | 0, h => simp at h; rw [← h]; exact hne
    | _ + 1, h => simp at h)
  have Hf := Lib.hid hF
  have Hf' := Lib.hid hF'
  clear hA hA' hF hF'
  go_enter Tryd.func60, Tryd.ntmps60
  go_wp2
  go_loopw [5] (fun i wr => ∃ k : Nat, k ≤ n ∧ i = .int .i64 k ∧ Mem w [(b, N, F), (b', N', F')] wr) (fun i _ => n - (intOf i).toNat)
  case atStart => exact ⟨0, by omega, rfl, hM⟩
  case round =>
    clear hM
    obtain ⟨k, hk, rfl, hM⟩ := hrel
    by_cases hlt : k < n
    · have l2 : (k : Int) < n := by omega
      have c1 : F k = .int .i16 (ys k) := Hf.out k hlt
      have c2 : F' k = .int .i16 (ys k) := Hf'.out k hlt
      have hb : (ys k != ys k) = false := by simp
      go_wp2
      ((try simp only [Act.put, List.setIfInBounds_toArray, List.set_cons_succ, List.set_cons_zero]); refine wp_region_mem (by kernel_rfl) (by kernel_rfl) hM ?_; clear hM; (repeat (first | go_big_quiet_skip | (go_big_quiet_want; first | (refine quiet_get1 _ _ rfl _ _ rfl 1 rfl cellInt16S (by omega) _ c2 ?_; (simp only [Act.put, List.setIfInBounds_toArray, List.set_cons_succ, List.set_cons_zero]); go_big_quiet_on) | (refine quiet_get1 _ _ rfl _ _ rfl 0 rfl cellInt16S (by omega) _ c1 ?_; (simp only [Act.put, List.setIfInBounds_toArray, List.set_cons_succ, List.set_cons_zero]); go_big_quiet_on) | (refine quiet_val ?_; apply Exists.intro; refine ⟨fun W => ?_, ?_⟩; (go_simp; (try simp only [l2, hb, if_true, Bool.false_eq_true, if_false]); rfl); (simp only [Act.put, List.setIfInBounds_toArray, List.set_cons_succ, List.set_cons_zero]); go_big_quiet_on)))); (with_reducible refine wpQuiet_nil ?_); intro W' hM)
      go_wp2
      go_roundw
      case rel => exact ⟨k + 1, by omega, by go_num, hM⟩
      case measure => simp [intOf]; omega
    · obtain rfl : k = n := by omega
      go_wp2
      go_ret
      exact ⟨rfl, hM.below⟩

/-- The mark j, as a cell. -/
def mkInt16 (j : Nat) : Value := .int .i16 (IntKind.i16.wrap (j : Int))
set_option maxRecDepth 100000 in
set_option maxHeartbeats 1000000 in
/-- markInt16S writes its marks into the list. -/
theorem markInt16S_list (b0 : Base) (K : Blocks) (b n c N k0 : Nat) (F : Nat → Value) (hN : n ≤ N) (hn : n ≤ 1048576) (hk0 : k0 ≤ 100000000) (hb : b0.B ≤ b) (w : World) (hM0 : Mem b0 ((b, N, F) :: K) w) :
    Calls Tryd.prog 68 #[.slice (some ⟨b, 0, none⟩) n c, .int .i64 k0] w fun e w' => e = .returned (.int .i64 ((k0 + n : Nat) : Int)) ∧ ∃ G, (∀ j, j < n → G j = mkInt16 (k0 + j)) ∧ Mem b0 ((b, N, G) :: K) w' := by
  have hM := hM0
  clear hM0
  go_enter Tryd.func68, Tryd.ntmps68
  go_wp2
  go_loopw [1, 5] (fun t i wr => ∃ k : Nat, k ≤ n ∧ t = .int .i64 ((k0 + k : Nat) : Int) ∧ i = .int .i64 k ∧ ∃ G, Hid (∀ j, j < k → G j = mkInt16 (k0 + j)) ∧ Mem b0 ((b, N, G) :: K) wr) (fun _ i _ => n - (intOf i).toNat)
  case atStart => exact ⟨0, by omega, by simp, rfl, F, Lib.hid (fun j hj => absurd hj (by omega)), hM⟩
  case round =>
    clear hM
    obtain ⟨k, hk, rfl, rfl, G, hG, hM⟩ := hrel
    by_cases hlt : k < n
    · have l2 : (k : Int) < n := by omega
      obtain ⟨mm, hm⟩ : ∃ m : Nat, m = k0 + k := ⟨_, rfl⟩
      rw [← hm]
      have n1 : IntKind.i64.wrap ((mm : Int) + 1) = (mm : Int) + 1 := IntWalk.i64_in _ (by omega)
      have n2 : IntKind.i64.wrap (mm : Int) = (mm : Int) := IntWalk.i64_in _ (by omega)
      have hl : (mm : Int) + 1 = ((k0 + (k + 1) : Nat) : Int) := by omega
      obtain ⟨xx, hxx⟩ : ∃ x, IntKind.i16.wrap (mm : Int) = x := ⟨_, rfl⟩
      have Hxx := Lib.hid hxx
      have Hl := Lib.hid hl
      have Hm := Lib.hid hm
      clear hm hl
      go_wp2_with (first | (refine wpList_set1 rfl _ _ _ rfl _ _ rfl _ rfl ?_ hM 0 rfl (by assumption) (cellTab _ rfl) (by omega) ?_; (first | rfl | exact h1 _); intro W' hM'; clear hM; have hM := hM'; clear hM'; simp [List.set, Act.eval] at hM))
      go_roundw
      case rel => exact ⟨k + 1, by omega, by first | exact congrArg (Value.int .i64) Hl.out | rfl, by go_num, _, Lib.hid (fun j hj => by
        simp only [upd]
        by_cases e0 : j = k
        · rw [if_pos e0, e0, ← Hm.out]; exact congrArg (Value.int .i16) Hxx.out.symm
        · rw [if_neg e0]; exact hG.out j (by omega)), hM⟩
      case measure => simp [intOf]; omega
    · obtain rfl : k = n := by omega
      go_wp2
      go_ret
      exact ⟨rfl, G, hG.out, hM⟩

set_option maxRecDepth 100000 in
set_option maxHeartbeats 1000000 in
/-- heldInt16S finds the marks. -/
theorem heldInt16S_list (b n c N k0 : Nat) (G : Nat → Value) (hN : n ≤ N) (hn : n ≤ 1048576) (hk0 : k0 ≤ 100000000) (hG : ∀ j, j < n → G j = mkInt16 (k0 + j)) (w : World) (hA : At w b N G) :
    Calls Tryd.prog 76 #[.slice (some ⟨b, 0, none⟩) n c, .int .i64 k0] w fun e w' => e = .returned (.int .i64 ((k0 + n : Nat) : Int)) ∧ Below w.heap.size w w' := by
  have hM : Mem w [(b, N, G)] w := (Mem.nil w).old hA (fun i p h => by simp at h)
  have Hg := Lib.hid hG
  clear hA hG
  go_enter Tryd.func76, Tryd.ntmps76
  go_wp2
  go_loopw [1, 5] (fun t i wr => ∃ k : Nat, k ≤ n ∧ t = .int .i64 ((k0 + k : Nat) : Int) ∧ i = .int .i64 k ∧ Mem w [(b, N, G)] wr) (fun _ i _ => n - (intOf i).toNat)
  case atStart => exact ⟨0, by omega, by simp, rfl, hM⟩
  case round =>
    clear hM
    obtain ⟨k, hk, rfl, rfl, hM⟩ := hrel
    by_cases hlt : k < n
    · have l2 : (k : Int) < n := by omega
      obtain ⟨mm, hm⟩ : ∃ m : Nat, m = k0 + k := ⟨_, rfl⟩
      obtain ⟨xx, hxx⟩ : ∃ x, IntKind.i16.wrap (mm : Int) = x := ⟨_, rfl⟩
      have g0 : G k = .int .i16 xx := by rw [Hg.out k hlt, ← hxx, hm]; rfl
      have nx : (xx != xx) = false := by simp
      rw [← hm]
      have n1 : IntKind.i64.wrap ((mm : Int) + 1) = (mm : Int) + 1 := IntWalk.i64_in _ (by omega)
      have n2 : IntKind.i64.wrap (mm : Int) = (mm : Int) := IntWalk.i64_in _ (by omega)
      have hl : (mm : Int) + 1 = ((k0 + (k + 1) : Nat) : Int) := by omega
      have Hl := Lib.hid hl
      clear hm hl
      go_wp2_with (first | (refine wpList_get1 rfl _ _ rfl _ _ rfl hM 0 rfl (cellTab _ rfl) (by omega) _ g0 ?_))
      go_roundw
      case rel => exact ⟨k + 1, by omega, by first | exact congrArg (Value.int .i64) Hl.out | rfl, by go_num, hM⟩
      case measure => simp [intOf]; omega
    · obtain rfl : k = n := by omega
      go_wp2
      go_ret
      exact ⟨rfl, hM.below⟩
end Go.Proofs.YthodkbmenndnoaaDoor

