/-
  Several texts in one: ValidHerdI, FlockWith, Words, HerdLine, HerdTI.
-/
import Derived.Test.YtcdpdcjdjcbhcaaDoorP7
import Derived.WideLaws
import Derived.Test.YtcdpdcjdjcbhcaaDoorP8
import Derived.Test.YtcdpdcjdjcbhcaaDoorP4
import Derived.Test.YtcdpdcjdjcbhcaaDoorP5
/-
  impl.ValidHerd by contract.
-/
namespace Go.Proofs.YtcdpdcjdjcbhcaaDoor
open Go Go.RowKit Go.BigFrame Go.Maps

set_option maxRecDepth 100000 in
theorem len_puts {W : World} {m : Nat} {ks : List ByteArray} {f : ByteArray → Value} (h : W.heap[m]? = some (mapO kvS ks f)) (ty : TypeId) :
    (Builtin.len_ #[150] ty #[.map (some m)]).run Tryd.prog W = .ok (.int .i64 (ks.length : Nat)) W := by
  rw [run_len_map W _ ty m _ _ Tryd.underlying150 h]
  simp [goInt, ents_length]
theorem Lst.mems {d : Hd} {w : World} {n : Nat} {v : Value} {W : World} (h : Lst w [] 3 v n (sMem d) W) : ∃ a c, v = .slice a n c ∧ n ≤ c ∧ MemsAt W a n d ∧ Below w.heap.size w W := by
  rcases h with ⟨h1, h2, h3⟩ | ⟨b, c, F, h1, h2, h3, h4, h5⟩
  · exact ⟨none, 0, by rw [h1, h2], by omega, .inl h2, h3.below⟩
  · exact ⟨_, c, h1, h3, .inr ⟨b, c * 3, F, rfl, Nat.mul_le_mul_right _ h3, h4, h5.at0⟩, h5.below⟩
theorem herdB_n {d : Hd} (h : ¬ (d.n1 ≤ 14 ∧ d.n2 = d.n1 ∧ d.n3 = d.n1)) : herdB d = false := by simp [herdB, h]
theorem toldAll_no {d : Hd} (hf : ∀ i, i < d.n3 → 0 ≤ d.fs i ∧ d.fs i ≤ 65535) (h1 : d.n1 ≤ 14) (h2 : d.n2 = d.n1) (h3 : d.n3 = d.n1) {i : Nat} (hi : i < d.n1) (h : toldB d i = false) : herdB d = false := by
  cases e : herdB d with
  | false => rfl
  | true => have := ((herdB_impl hf h1 h2 h3).1 e).1 i hi; rw [h] at this; exact absurd this (by decide)
theorem keys_no {d : Hd} (hf : ∀ i, i < d.n3 → 0 ≤ d.fs i ∧ d.fs i ≤ 65535) (h1 : d.n1 ≤ 14) (h2 : d.n2 = d.n1) (h3 : d.n3 = d.n1) (h : (keysU d d.n1).length ≠ d.n1) : herdB d = false := by
  cases e : herdB d with
  | false => rfl
  | true => exact absurd ((herdB_impl hf h1 h2 h3).1 e).2.1 h
theorem herdB_mut {d : Hd} (hf : ∀ i, i < d.n3 → 0 ≤ d.fs i ∧ d.fs i ≤ 65535) (h1 : d.n1 ≤ 14) (h2 : d.n2 = d.n1) (h3 : d.n3 = d.n1) (ht : ∀ i, i < d.n1 → toldB d i = true) (hk : (keysU d d.n1).length = d.n1) : herdB d = mutA d d.n1 := by
  rw [Bool.eq_iff_iff, herdB_impl hf h1 h2 h3]
  unfold mutA
  rw [List.all_eq_true]
  exact ⟨fun h i hi => h.2.2 i (by simpa using hi), fun h => ⟨ht, hk, fun i hi => h i (by simpa using hi)⟩⟩

set_option maxRecDepth 100000 in
set_option maxHeartbeats 4000000 in
theorem implValidHerd_any {r : Addr} (d : Hd) (b1 b2 b3 : Nat) (hd : FitsH d) (w : World) (hM0 : Mem w (hdB d b1 b2 b3) w) (hE : HEnv r w) :
    Calls Tryd.prog 116 #[.agg (arr 3 (hdV d b1 b2 b3))] w fun e w' => e = .returned (.bool (herdB d)) ∧ Below w.heap.size w w' := by
  obtain ⟨l1, l2, l3, hs, he, hf⟩ := hd
  unfold maxLen at l1 l2 l3
  have HE := Lib.hid hE
  have H0 := Lib.hid hM0
  have HS := Lib.hid hs
  have HX := Lib.hid he
  have HF := Lib.hid hf
  have a1 : hdV d b1 b2 b3 0 = .slice (some ⟨b1, 0, none⟩) d.n1 d.n1 := rfl
  have a2 : hdV d b1 b2 b3 1 = .slice (some ⟨b2, 0, none⟩) d.n2 d.n2 := rfl
  have a3 : hdV d b1 b2 b3 2 = .slice (some ⟨b3, 0, none⟩) d.n3 d.n3 := rfl
  have hM := hM0
  simp only [hdB] at hM
  clear hE hM0 hs he hf
  obtain ⟨hv, hhv⟩ : ∃ f, hdV d b1 b2 b3 = f := ⟨_, rfl⟩
  rw [hhv] at a1 a2 a3 ⊢
  by_cases c1 : 14 < d.n1
  · have d1 : decide ((14 : Int) < d.n1) = true := decide_eq_true (by omega)
    have HZ := Lib.hid (herdB_n (d := d) (by omega))
    obtain ⟨n, hn⟩ : ∃ n, d.n1 = n := ⟨_, rfl⟩
    rw [hn] at a1 d1
    clear hn
    have tk_x1 : True := trivial
    go_enter Tryd.func116, Tryd.ntmps116
    go_wp2_with (first | (have _t := tk_x1; refine wpList_box rfl _ _ rfl _ _ rfl hM ?_; intro x1 W' hx1 hM'; clear hM tk_x1; have hM := hM'; clear hM') | (refine wpList_get1 rfl _ _ rfl _ _ rfl hM 0 rfl (cellTab _ rfl) (by omega) _ a1 ?_))
    go_ret
    rw [HZ.out]
    exact ⟨rfl, hM.below⟩
  have d1 : decide ((14 : Int) < d.n1) = false := decide_eq_false (by omega)
  by_cases c2 : d.n2 = d.n1
  case neg =>
    have z1 : ((d.n2 : Int) != (d.n1 : Int)) = true := bne_iff_ne.2 (by omega)
    have z2 : ((d.n2 : Int) == (d.n1 : Int)) = false := beq_eq_false_iff_ne.2 (by omega)
    have z3 : ¬ (d.n2 : Int) = d.n1 := by omega
    have HZ := Lib.hid (herdB_n (d := d) (by omega))
    clear c2
    have tk_x1 : True := trivial
    go_enter Tryd.func116, Tryd.ntmps116
    go_wp2_with (first | (have _t := tk_x1; refine wpList_box rfl _ _ rfl _ _ rfl hM ?_; intro x1 W' hx1 hM'; clear hM tk_x1; have hM := hM'; clear hM') | (refine wpList_get1 rfl _ _ rfl _ _ rfl hM 0 rfl (cellTab _ rfl) (by omega) _ a1 ?_) | (refine wpList_gget1 ?_ _ _ rfl _ _ rfl hM 0 rfl (cellTab _ rfl) (by omega) _ a2 ?_; kernel_rfl))
    go_ret
    rw [HZ.out]
    exact ⟨rfl, hM.below⟩
  by_cases c3 : d.n3 = d.n1
  case neg =>
    have z1 : ((d.n3 : Int) != (d.n1 : Int)) = true := bne_iff_ne.2 (by omega)
    have z2 : ((d.n3 : Int) == (d.n1 : Int)) = false := beq_eq_false_iff_ne.2 (by omega)
    have z3 : ¬ (d.n3 : Int) = d.n1 := by omega
    have HZ := Lib.hid (herdB_n (d := d) (by omega))
    rw [c2] at a2
    clear c3
    have tk_x1 : True := trivial
    go_enter Tryd.func116, Tryd.ntmps116
    go_wp2_with (first | (have _t := tk_x1; refine wpList_box rfl _ _ rfl _ _ rfl hM ?_; intro x1 W' hx1 hM'; clear hM tk_x1; have hM := hM'; clear hM') | (refine wpList_get1 rfl _ _ rfl _ _ rfl hM 0 rfl (cellTab _ rfl) (by omega) _ a1 ?_) | (refine wpList_gget1 ?_ _ _ rfl _ _ rfl hM 0 rfl (cellTab _ rfl) (by omega) _ a2 ?_; kernel_rfl) | (refine wpList_gget1 ?_ _ _ rfl _ _ rfl hM 0 rfl (cellTab _ rfl) (by omega) _ a3 ?_; kernel_rfl))
    go_ret
    rw [HZ.out]
    exact ⟨rfl, hM.below⟩
  have Hc2 := Lib.hid c2
  have Hc3 := Lib.hid c3
  rw [c2] at a2
  rw [c3] at a3
  obtain ⟨n, hn⟩ : ∃ n, d.n1 = n := ⟨_, rfl⟩
  have hMO := fun (W : World) (hB : Mem W (hdB d b1 b2 b3) W) => membersOf_l d b1 b2 b3 (by omega) c2 c3 W hB
  rw [hhv, hn] at hMO
  have HMO := Lib.hid hMO
  have hs' := HS.out
  rw [hn] at hs'
  have HS' := Lib.hid hs'
  have Hn := Lib.hid hn
  rw [hn] at a1 a2 a3 d1 c1
  clear c2 c3 hn hhv l2 l3 hM hMO hs'
  have hM : Mem w [] w := Mem.nil w
  have tk_x1 : True := trivial; have tk_r1 : True := trivial; have tk_m1 : True := trivial; have tk_f1 : True := trivial; have tk_f4 : True := trivial; have tk_s1 : True := trivial
  go_enter Tryd.func116, Tryd.ntmps116
  go_wp2_with (first | (have _t := tk_x1; refine wpList_box rfl _ _ rfl _ _ rfl hM ?_; intro x1 W' hx1 hM'; clear hM tk_x1; have hM := hM'; clear hM') | (have _t := tk_r1; refine wpList_get rfl _ _ rfl _ _ rfl hM 0 rfl (rowTab _ _ rfl) (by omega) ?_; simp only [Nat.zero_add]; clear tk_r1) | (refine wpList_get1 rfl _ _ rfl _ _ rfl hM 0 rfl (cellTab _ rfl) (by omega) _ a1 ?_) | (refine wpList_gget1 ?_ _ _ rfl _ _ rfl hM 0 rfl (cellTab _ rfl) (by omega) _ a2 ?_; kernel_rfl) | (refine wpList_gget1 ?_ _ _ rfl _ _ rfl hM 0 rfl (cellTab _ rfl) (by omega) _ a3 ?_; kernel_rfl) | (have _t := tk_m1; go_at_call 118; refine (HMO.out _ ((H0.out.call hM.below).base (Below.refl _ _))).mono ?_; rintro e W' ⟨v, rfl, hL⟩; obtain ⟨ma, mc, rfl, hmc, hA, hb'⟩ := hL.mems; have hM' := hM.call hb'; have HA := Lib.hid hA; clear hM hb' hA hL tk_m1; have hM := hM'; clear hM') | (have _t := tk_f1; go_at_call 117; refine (flockOf_any d ma n mc (by omega) HS'.out _ HA.out).mono ?_; rintro e Wf ⟨m, rfl, hmm, hO, hb'⟩; have hM' := (hM.call hb'); have HB0 := Lib.hid hM'.below; have hM2 := hM'.base (w' := Base.of Wf) (Below.refl _ _); have HA2 := Lib.hid (HA.out.below hb'); have HO := Lib.hid hO; clear hM hb' hO HA hM' tk_f1; have hM := hM2; clear hM2) | (have _t := tk_f4; refine wpList_zero rfl _ rfl (zeroTab _ _ _ rfl) hM ?_; intro f4 W' hf4 hM'; clear hM tk_f4; have hM := hM'; clear hM') | (have _t := tk_s1; refine wpList_lay rfl _ _ _ rfl _ _ rfl _ _ rfl hM 0 rfl (by assumption) (rowTab _ _ rfl) (by omega) (fun k _ => flkV_one _ _ _ _ k) ?_; intro W' hM'; have hM2 := hM'.re 0 rfl (flkV ma n mc m) (fun k hk => by simp [lay, hk]); simp only [List.set_cons_zero] at hM2; clear hM hM' tk_s1; have hM := hM2; clear hM2) | (refine wpList_get1 rfl _ _ rfl _ _ rfl hM 0 rfl (cellTab _ rfl) (by omega) (.slice ma n mc) rfl ?_))
  have HE2 := Lib.hid (HE.out.below HB0.out)
  have hf' := HF.out
  have hx' := HX.out
  rw [Hc2.out, Hn.out] at hx'
  rw [Hc3.out, Hn.out] at hf'
  have HX' := Lib.hid hx'
  have HF' := Lib.hid hf'
  clear hx' hf' HE
  go_loopw [32] (fun i wr => ∃ k : Nat, k ≤ n ∧ i = .int .i64 k ∧ Hid (∀ j, j < k → toldB d j = true) ∧ Mem Wf [(f4, 2, flkV ma n mc m), (x1, 3, hv)] wr) (fun i _ => n - (intOf i).toNat)
  case atStart => exact ⟨0, by omega, rfl, Lib.hid (fun j hj => absurd hj (by omega)), hM⟩
  case round =>
    clear hM
    obtain ⟨k, hk, rfl, hall, hM⟩ := hrel
    by_cases hlt : k < n
    · have l2 : (k : Int) < n := by omega
      obtain ⟨bm, N, F, hae, hN, -, hF, hAt⟩ := (HA2.out.below hM.below).row hlt
      subst hae
      have HFr := Lib.hid hF
      have HAt := Lib.hid hAt
      have hxk := HX'.out k hlt
      clear hF hAt
      cases ht : toldB d k
      · have HTo := Lib.hid ht
        have HZ := Lib.hid (toldAll_no (d := d) HF.out (by rw [Hn.out]; omega) Hc2.out Hc3.out (i := k) (by rw [Hn.out]; exact hlt) ht)
        clear ht
        have tk_b6 : True := trivial; have tk_s2 : True := trivial; have tk_g6 : True := trivial
        go_wp2_with (first | (refine wpList_getAt rfl _ _ rfl _ _ rfl HAt.out (rowTab _ _ rfl) (by omega) (gMem d k) HFr.out ?_) | (have _t := tk_b6; refine wpList_zero rfl _ rfl (zeroTab _ _ _ rfl) hM ?_; intro b6 W' hb6 hM'; clear hM tk_b6; have hM := hM'; clear hM') | (have _t := tk_s2; refine wpList_lay rfl _ _ _ rfl _ _ rfl _ _ rfl hM 0 rfl (by assumption) (rowTab _ _ rfl) (by omega) (fun j _ => gMem_one d k j) ?_; intro W' hM'; have hM2 := hM'.re 0 rfl (gMem d k) (fun k hk => by simp [lay, hk]); simp only [List.set_cons_zero] at hM2; clear hM hM' tk_s2; have hM := hM2; clear hM2) | (have _t := tk_g6; refine wpList_get rfl _ _ rfl _ _ rfl hM 0 rfl (rowTab _ _ rfl) (by omega) ?_; simp only [Nat.zero_add]; clear tk_g6) | (go_at_call 131; refine (isTold_any d k hxk _ (HE2.out.below hM.below)).mono ?_; rintro e W' ⟨rfl, hb'⟩; rw [HTo.out]; have hM' := hM.call hb'; clear hM hb'; have hM := hM'; clear hM'))
        go_ret
        rw [HZ.out]
        exact ⟨rfl, HB0.out.trans (hM.below.mono HB0.out.size)⟩
      · have HTo := Lib.hid ht
        clear ht
        have tk_b6 : True := trivial; have tk_s2 : True := trivial; have tk_g6 : True := trivial
        go_wp2_with (first | (refine wpList_getAt rfl _ _ rfl _ _ rfl HAt.out (rowTab _ _ rfl) (by omega) (gMem d k) HFr.out ?_) | (have _t := tk_b6; refine wpList_zero rfl _ rfl (zeroTab _ _ _ rfl) hM ?_; intro b6 W' hb6 hM'; clear hM tk_b6; have hM := hM'; clear hM') | (have _t := tk_s2; refine wpList_lay rfl _ _ _ rfl _ _ rfl _ _ rfl hM 0 rfl (by assumption) (rowTab _ _ rfl) (by omega) (fun j _ => gMem_one d k j) ?_; intro W' hM'; have hM2 := hM'.re 0 rfl (gMem d k) (fun k hk => by simp [lay, hk]); simp only [List.set_cons_zero] at hM2; clear hM hM' tk_s2; have hM := hM2; clear hM2) | (have _t := tk_g6; refine wpList_get rfl _ _ rfl _ _ rfl hM 0 rfl (rowTab _ _ rfl) (by omega) ?_; simp only [Nat.zero_add]; clear tk_g6) | (go_at_call 131; refine (isTold_any d k hxk _ (HE2.out.below hM.below)).mono ?_; rintro e W' ⟨rfl, hb'⟩; rw [HTo.out]; have hM' := hM.call hb'; clear hM hb'; have hM := hM'; clear hM'))
        go_roundw
        case rel => exact ⟨k + 1, by omega, by go_num, Lib.hid (fun q hq => by
          by_cases e : q = k
          · rw [e]; exact HTo.out
          · exact hall.out q (by omega)), hM.drop⟩
        case measure => simp [intOf]; omega
    · obtain rfl : k = n := by omega
      have hlen := fun ty => len_puts ((hM.below.block m (Array.getElem?_eq_some_iff.1 HO.out).1).trans HO.out) ty
      have hL2 := keysU_len d k
      have f1 : flkV ma k mc m 1 = .map (some m) := rfl
      have f0 : flkV ma k mc m 0 = .slice ma k mc := rfl
      have HKe := Lib.hid (fun (h : (keysU d k).length ≠ k) => keys_no (d := d) HF.out (by rw [Hn.out]; omega) Hc2.out Hc3.out (by rw [Hn.out]; exact h))
      have HKm := Lib.hid (fun (h : (keysU d k).length = k) => herdB_mut (d := d) HF.out (by rw [Hn.out]; omega) Hc2.out Hc3.out (by rw [Hn.out]; exact hall.out) (by rw [Hn.out]; exact h))
      obtain ⟨L, hL⟩ : ∃ L, (keysU d k).length = L := ⟨_, rfl⟩
      rw [hL] at hlen hL2 HKe HKm
      have hMU := fun W hA hT => areMutual_any d ma mc (by rw [Hn.out]; omega) (by rw [Hn.out]; exact HF'.out) W hA hT
      rw [Hn.out] at hMU HKm
      have HMU := Lib.hid hMU
      clear hL hMU
      by_cases hLn : L = k
      · have HZ := Lib.hid (HKm.out hLn)
        subst hLn
        go_wp2_with (first | (refine wpList_get1 rfl _ _ rfl _ _ rfl hM 0 rfl (cellTab _ rfl) (by omega) _ f1 ?_) | (refine wpList_gget1 ?_ _ _ rfl _ _ rfl hM 0 rfl (cellTab _ rfl) (by omega) _ f0 ?_; kernel_rfl) | (go_at_call 132; (with_reducible refine (HMU.out _ (HA2.out.below hM.below) (HE2.out.below hM.below).tab).mono ?_); rintro e W' ⟨rfl, hb'⟩; have hM' := hM.call hb'; clear hM hb'; have hM := hM'; clear hM'))
        go_ret
        rw [HZ.out]
        exact ⟨rfl, HB0.out.trans (hM.below.mono HB0.out.size)⟩
      · have HZ := Lib.hid (HKe.out hLn)
        have z2 : ((L : Int) == (k : Int)) = false := beq_eq_false_iff_ne.2 (by omega)
        have z3 : ¬ (L : Int) = k := by omega
        clear hLn
        go_wp2_with (first | (refine wpList_get1 rfl _ _ rfl _ _ rfl hM 0 rfl (cellTab _ rfl) (by omega) _ f1 ?_))
        go_ret
        rw [HZ.out]
        exact ⟨rfl, HB0.out.trans (hM.below.mono HB0.out.size)⟩
end Go.Proofs.YtcdpdcjdjcbhcaaDoor

/-
  impl.flockWith by contract.
-/
namespace Go.Proofs.YtcdpdcjdjcbhcaaDoor
open Go Go.RowKit Go.BigFrame

theorem run_flock0 (W : World) : (Instr.build 152 #[]).run Tryd.prog W = .ok (.agg (arr 2 zFlk)) W := by kernel_rfl
theorem exec_flock0 {o : Oper} {a : Act} (ho : o.op = .build 152 #[]) (W : World) : (execOp a.eval o).run Tryd.prog W = .ok (.value (.agg (arr 2 zFlk))) W := by
  have hr := run_flock0 W
  unfold execOp
  simp only [ho, List.map_toArray, List.map_nil, Sem.run_bind, Sem.run_pure, hr, Result.andThen_ok]
theorem zFlk_one (k : Nat) : (zFlk k).oneCell' = true := by
  unfold zFlk
  split <;> rfl
theorem make_closure (fn : Fn) (first cap : Array Value) (w : World) : (Instr.makeFunc fn first cap).run Tryd.prog w = .ok (.func fn first cap) w := rfl

set_option maxRecDepth 100000 in
set_option maxHeartbeats 2000000 in
theorem flockWith_no {a : Nat → Addr} {r : Addr} (d : Hd) (b1 b2 b3 : Nat) (hd : FitsH d) (gv : Value) (w : World) (hM0 : Mem w (hdB d b1 b2 b3) w) (hE : HEnv r w) (hI : w.cell? ⟨1, 0, none⟩ = some (errV (a 0))) (hv : herdB d = false) :
    Calls Tryd.prog 88 #[.agg (arr 3 (hdV d b1 b2 b3)), gv] w fun e w' => ∃ f, e = .returned (.tuple #[.agg (arr 2 f), errV (a 0)]) ∧ (∀ k, k < 2 → (f k).oneCell' = true) ∧ Below w.heap.size w w' := by
  have hM := Mem.nil w
  have H0 := Lib.hid hM0
  have HE := Lib.hid hE
  have HI := Lib.hid hI
  have HV := Lib.hid hv
  have hmf := make_closure
  clear hM0 hE hI hv
  obtain ⟨hv, hhv⟩ : ∃ f, hdV d b1 b2 b3 = f := ⟨_, rfl⟩
  have hVH := fun (W : World) hB hE => implValidHerd_any (r := r) d b1 b2 b3 hd W hB hE
  rw [hhv] at hVH ⊢
  have HVH := Lib.hid hVH
  clear hhv hVH
  have tk_x1 : True := trivial; have tk_f4 : True := trivial; have tk_e5 : True := trivial; have tk_g1 : True := trivial
  go_enter_defers Tryd.func88, Tryd.ntmps88
  go_wp2_with (first | (have _t := tk_x1; refine wpList_box rfl _ _ rfl _ _ rfl hM ?_; intro x1 W' hx1 hM'; clear hM tk_x1; have hM := hM'; clear hM') | (have _t := tk_f4; refine wpList_zero rfl _ rfl (zeroTab _ _ _ rfl) hM ?_; intro f4 W' hf4 hM'; clear hM tk_f4; have hM := hM'; clear hM') | (have _t := tk_e5; refine wpList_zero1 rfl _ rfl (zero1Tab _ _ rfl) rfl hM ?_; intro e5 W' he5 hM'; clear hM tk_e5; have hM := hM'; clear hM') | (have _t := tk_g1; refine wpList_get rfl _ _ rfl _ _ rfl hM 2 rfl (rowTab _ _ rfl) (by omega) ?_; simp only [Nat.zero_add]; clear tk_g1) | (go_at_call 116; refine (HVH.out _ ((H0.out.call hM.below).base (Below.refl _ _)) (HE.out.below hM.below)).mono ?_; rintro e W' ⟨rfl, hb'⟩; rw [HV.out]; have hM' := hM.call hb'; clear hM hb'; have hM := hM'; clear hM'))
  ((try simp only [Act.put, List.setIfInBounds_toArray, List.set_cons_succ, List.set_cons_zero]); refine region_readsX [0, 1] #[true, true, false, false] 2 [(e5, 1, fun _ => .nilIface), (f4, 2, zFlk)] (by kernel_rfl) (by kernel_rfl) (by kernel_rfl) hM ?_; clear hM; (repeat (refine qs_plain rfl rfl ?_; first | (refine b_val ?_; refine ⟨_, fun W => exec_flock0 rfl W, ?_⟩; (simp only [Act.put, List.setIfInBounds_toArray, List.set_cons_succ, List.set_cons_zero])) | (refine b_old _ _ rfl _ _ rfl (cellTab _ rfl) (errV (a 0)) (fun W hM => (hM.below.cell (block_lt_of_cell HI.out)).trans HI.out) ?_; (simp only [Act.put, List.setIfInBounds_toArray, List.set_cons_succ, List.set_cons_zero])))); (with_reducible refine qs_nil ?_))
  (refine mix_one (i := 2) (by kernel_rfl) rfl (by kernel_rfl) rfl ?_)
  (refine step_lay _ _ _ rfl _ _ rfl _ _ rfl 1 rfl (by assumption) (rowTab _ _ rfl) (by omega) (fun k _ => zFlk_one k) ?_; simp only [List.set]; (simp only [Act.put, List.setIfInBounds_toArray, List.set_cons_succ, List.set_cons_zero]))
  (refine mix_one (i := 3) (by kernel_rfl) rfl (by kernel_rfl) rfl ?_)
  (refine step_set1 _ _ _ rfl _ _ rfl (errV (a 0)) rfl rfl 0 rfl (by assumption) (cellTab _ rfl) (by omega) ?_; simp only [List.set]; (simp only [Act.put, List.setIfInBounds_toArray, List.set_cons_succ, List.set_cons_zero]))
  (refine mix_end (by kernel_rfl) ?_; intro W' hM; simp only [List.cons_append, List.nil_append] at hM)
  go_wp2
  refine leaves_cons (f := 115) (args := #[.pointer (some ⟨e5, 0, none⟩)]) (by simp) (by simp [go_sem]) ?_
  refine (catch_idle e5 _).mono ?_
  rintro e u' w'' ⟨rfl, rfl, rfl⟩
  exact ⟨_, results_cells rfl _ rfl (hM.ats 1 _ _ _ rfl) (rowTab _ _ rfl) rfl ((hM.ats 0 _ _ _ rfl).cell (by omega)) (cellTab _ rfl), _, rfl, (fun k hk => by simp only [lay]; split; exact zFlk_one _; exact zFlk_one _), hM.below⟩
/-- What a call makes is kept beside other blocks. -/
theorem Lst.keep {d : Hd} {b0 : Base} {L : Blocks} {X X' : World} {n : Nat} {v : Value} (hM : Mem b0 L X) (h : Lst X [] 3 v n (sMem d) X') :
    ∃ a c K, v = .slice a n c ∧ n ≤ c ∧ Mem b0 (L ++ K) X' ∧ ∀ (b1 : Base) (L' : Blocks) (W : World), Mem b1 (L' ++ K) W → MemsAt W a n d := by
  rcases h with ⟨h1, h2, h3⟩ | ⟨b, c, F, h1, h2, h3, h4, h5⟩
  · exact ⟨none, 0, [], by rw [h1, h2], by omega, by rw [List.append_nil]; exact hM.call h3.below, fun _ _ _ _ => .inl h2⟩
  · refine ⟨_, c, [(b, c * 3, F)], h1, h3, hM.fresh' h5.below h5.at0 h2, fun b1 L' W hW => .inr ⟨b, c * 3, F, rfl, Nat.mul_le_mul_right _ h3, h4, hW.ats L'.length b (c * 3) F (by simp)⟩⟩
/-- Numbers of goats in memory. -/
def IntsAt (W : World) (a : Option Addr) (n : Nat) (ys : Nat → Int) : Prop := n = 0 ∨ ∃ b N F, a = some ⟨b, 0, none⟩ ∧ n ≤ N ∧ (∀ j, j < n → F j = .int .i64 (ys j)) ∧ At W b N F
theorem IntsAt.below {W W' : World} {a : Option Addr} {n : Nat} {ys : Nat → Int} (h : IntsAt W a n ys) (hb : Below W.heap.size W W') : IntsAt W' a n ys := by
  rcases h with h | ⟨b, N, F, h1, h2, h3, h4⟩
  · exact .inl h
  · exact .inr ⟨b, N, F, h1, h2, h3, h4.below hb h4.lt⟩
theorem IntsAt.at {W : World} {a : Option Addr} {n : Nat} {ys : Nat → Int} (h : IntsAt W a n ys) {k : Nat} (hk : k < n) : ∃ b N F, a = some ⟨b, 0, none⟩ ∧ n ≤ N ∧ F k = .int .i64 (ys k) ∧ At W b N F := by
  rcases h with h | ⟨b, N, F, h1, h2, h3, h4⟩
  · omega
  · exact ⟨b, N, F, h1, h2, h3 k hk, h4⟩

set_option maxRecDepth 100000 in
set_option maxHeartbeats 4000000 in
theorem flockWith_ok {r : Addr} (d : Hd) (b1 b2 b3 : Nat) (hd : FitsH d) (ga : Option Addr) (gn gc : Nat) (ys : Nat → Int) (hgn : gn ≤ 1048576) (w : World) (hM0 : Mem w (hdB d b1 b2 b3) w) (hE : HEnv r w) (hG : IntsAt w ga gn ys) (hv : HerdOk d) (hys : ∀ j, j < gn → 0 ≤ ys j ∧ ys j < d.n1) :
    Calls Tryd.prog 88 #[.agg (arr 3 (hdV d b1 b2 b3)), .slice ga gn gc] w fun e w' => ∃ ma mc m, e = .returned (.tuple #[.agg (arr 2 (flkV ma d.n1 mc m)), .nilIface]) ∧ d.n1 ≤ mc ∧ MemsAt w' ma d.n1 d ∧ w'.heap[m]? = some (mapO kvS (keysU d d.n1) (putsU d d.n1)) ∧ Below w.heap.size w w' := by
  have hM := Mem.nil w
  have H0 := Lib.hid hM0
  have HE := Lib.hid hE
  have HG := Lib.hid hG
  have HV := Lib.hid (herdB_iff.2 hv)
  have HYS := Lib.hid hys
  have hmf := make_closure
  have h14 := hv.n
  have hMO := fun (W : World) (hB : Mem W (hdB d b1 b2 b3) W) => membersOf_l d b1 b2 b3 (by omega) hv.l2 hv.l3 W hB
  have hFO := fun (a : Option Addr) (c : Nat) (W : World) hA => flockOf_any d a d.n1 c h14 (fun i hi => hd.s i hi) W hA
  have hVH := fun (W : World) hB hE => implValidHerd_any (r := r) d b1 b2 b3 hd W hB hE
  clear hM0 hE hG hv hys
  obtain ⟨hv, hhv⟩ : ∃ f, hdV d b1 b2 b3 = f := ⟨_, rfl⟩
  rw [hhv] at hVH hMO ⊢
  obtain ⟨n, hn⟩ : ∃ n, d.n1 = n := ⟨_, rfl⟩
  rw [hn] at hMO hFO h14 ⊢
  have hys' := HYS.out
  rw [hn] at hys'
  have HY := Lib.hid hys'
  have HVH := Lib.hid hVH
  have HMO := Lib.hid hMO
  have HFO := Lib.hid hFO
  clear hhv hVH hMO hFO hn hys' HYS
  have tk_x1 : True := trivial; have tk_f4 : True := trivial; have tk_e5 : True := trivial; have tk_g1 : True := trivial; have tk_g2 : True := trivial; have tk_m1 : True := trivial; have tk_k1 : True := trivial; have tk_s1 : True := trivial
  go_enter_defers Tryd.func88, Tryd.ntmps88
  go_wp2_with (first | (have _t := tk_x1; refine wpList_box rfl _ _ rfl _ _ rfl hM ?_; intro x1 W' hx1 hM'; clear hM tk_x1; have hM := hM'; clear hM') | (have _t := tk_f4; refine wpList_zero rfl _ rfl (zeroTab _ _ _ rfl) hM ?_; intro f4 W' hf4 hM'; clear hM tk_f4; have hM := hM'; clear hM') | (have _t := tk_e5; refine wpList_zero1 rfl _ rfl (zero1Tab _ _ rfl) rfl hM ?_; intro e5 W' he5 hM'; clear hM tk_e5; have hM := hM'; clear hM') | (have _t := tk_g1; refine wpList_get rfl _ _ rfl _ _ rfl hM 2 rfl (rowTab _ _ rfl) (by omega) ?_; simp only [Nat.zero_add]; clear tk_g1) | (go_at_call 116; refine (HVH.out _ ((H0.out.call hM.below).base (Below.refl _ _)) (HE.out.below hM.below)).mono ?_; rintro e W' ⟨rfl, hb'⟩; rw [HV.out]; have hM' := hM.call hb'; clear hM hb'; have hM := hM'; clear hM') | (have _t := tk_g2; refine wpList_get rfl _ _ rfl _ _ rfl hM 2 rfl (rowTab _ _ rfl) (by omega) ?_; simp only [Nat.zero_add]; clear tk_g2) | (have _t := tk_m1; go_at_call 118; refine (HMO.out _ ((H0.out.call hM.below).base (Below.refl _ _))).mono ?_; rintro e W' ⟨v, rfl, hL⟩; obtain ⟨ma, mc, K, rfl, hmc, hM', hK⟩ := hL.keep hM; have HK := Lib.hid hK; clear hM hK hL tk_m1; have hM := hM'; clear hM'; simp only [List.cons_append, List.nil_append] at hM) | (have _t := tk_k1; go_at_call 117; refine (HFO.out ma mc _ (HK.out _ [_, _, _] _ hM)).mono ?_; rintro e Wf ⟨m, rfl, hmm, hO, hb'⟩; have hM' := (hM.call hb').withO (o := mapO kvS (keysU d n) (putsU d n)) rfl hO; clear hM hb' hO tk_k1; have hM := hM'; clear hM') | (have _t := tk_s1; refine wpList_lay rfl _ _ _ rfl _ _ rfl _ _ rfl hM 1 rfl (by assumption) (rowTab _ _ rfl) (by omega) (fun k _ => flkV_one _ _ _ _ k) ?_; intro W' hM'; have hM2 := hM'.re 1 rfl (flkV ma n mc m) (fun k hk => by simp [lay, hk]); simp only [List.set] at hM2; clear hM hM' tk_s1; have hM := hM2; clear hM2))
  go_loopw [19] (fun i wr => ∃ k : Nat, k ≤ gn ∧ i = .int .i64 k ∧ Mem ((Base.of w).with m (mapO kvS (keysU d n) (putsU d n)) rfl) ((e5, 1, fun _ => Value.nilIface) :: (f4, 2, flkV ma n mc m) :: (x1, 3, hv) :: K) wr) (fun i _ => gn - (intOf i).toNat)
  case atStart => exact ⟨0, by omega, rfl, hM⟩
  case round =>
    clear hM
    obtain ⟨k, hk, rfl, hM⟩ := hrel
    by_cases hlt : k < gn
    · have l2 : (k : Int) < gn := by omega
      obtain ⟨bg, Ng, Fg, rfl, hNg, hFg, hAg⟩ := (HG.out.below (show Below w.heap.size w wr from hM.good.1)).at (k := k) (by omega)
      have HAg := Lib.hid hAg
      clear hAg
      have hy := HY.out k (by omega)
      generalize ys k = y at hFg hy
      go_wp2_with (first | (refine wpList_getAt1 rfl _ _ rfl _ _ rfl HAg.out (cellTab _ rfl) (by omega) _ hFg ?_) | (refine wpList_get1 rfl _ _ rfl _ _ rfl hM 1 rfl (cellTab _ rfl) (by omega) (.slice ma n mc) rfl ?_) | (go_at_call 119; (with_reducible refine (demand_ok ma n mc y hy _).mono ?_); rintro e W' ⟨rfl, hb'⟩; have hM' := hM.call hb'; clear hM hb'; have hM := hM'; clear hM'))
      go_roundw
      case rel => exact ⟨k + 1, by omega, by go_num, hM⟩
      case measure => simp [intOf]; omega
    · obtain rfl : k = gn := by omega
      go_wp2_with (first | (refine wpList_get rfl _ _ rfl _ _ rfl hM 1 rfl (rowTab _ _ rfl) (by omega) ?_) | (refine wpList_lay rfl _ _ _ rfl _ _ rfl _ _ rfl hM 1 rfl (by assumption) (rowTab _ _ rfl) (by omega) (fun k _ => by rw [Nat.zero_add]; exact flkV_one _ _ _ _ k) ?_; intro W' hM'; have hM2 := hM'.re 1 rfl (flkV ma n mc m) (fun k hk => by simp [lay, hk]); simp only [List.set] at hM2; clear hM hM'; have hM := hM2; clear hM2) | (refine wpList_set1 rfl _ _ _ rfl _ _ rfl .nilIface rfl rfl hM 0 rfl (by assumption) (cellTab _ rfl) (by omega) ?_; intro W' hM'; have hM2 := hM'.re 0 rfl (fun _ => Value.nilIface) (fun k hk => by simp [upd]); simp only [List.set] at hM2; clear hM hM'; have hM := hM2; clear hM2))
      refine leaves_cons (f := 115) (args := #[.pointer (some ⟨e5, 0, none⟩)]) (by simp) (by simp [go_sem]) ?_
      refine (catch_idle e5 _).mono ?_
      rintro e u' w'' ⟨rfl, rfl, rfl⟩
      exact ⟨_, results_cells rfl _ rfl (hM.ats 1 _ _ _ rfl) (rowTab _ _ rfl) rfl ((hM.ats 0 _ _ _ rfl).cell (by omega)) (cellTab _ rfl), ma, mc, m, rfl, hmc, HK.out _ [_, _, _] _ hM, hM.good.2, hM.good.1⟩
set_option maxRecDepth 100000 in
set_option maxHeartbeats 4000000 in
theorem flockWith_stray {r : Addr} (d : Hd) (b1 b2 b3 : Nat) (hd : FitsH d) (ga : Option Addr) (gn gc : Nat) (ys : Nat → Int) (hgn : gn ≤ 1048576) (w : World) (hM0 : Mem w (hdB d b1 b2 b3) w) (hE : HEnv r w) (hG : IntsAt w ga gn ys) (hv : HerdOk d) (k0 : Nat) (hk0 : k0 < gn) (hys : ∀ j, j < k0 → 0 ≤ ys j ∧ ys j < d.n1) (hbad : ¬ (0 ≤ ys k0 ∧ ys k0 < d.n1)) :
    Calls Tryd.prog 88 #[.agg (arr 3 (hdV d b1 b2 b3)), .slice ga gn gc] w fun e w' => ∃ f, e = .returned (.tuple #[.agg (arr 2 f), strayV (ys k0)]) ∧ (∀ k, k < 2 → (f k).oneCell' = true) ∧ Below w.heap.size w w' := by
  have hM := Mem.nil w
  have H0 := Lib.hid hM0
  have HE := Lib.hid hE
  have HG := Lib.hid hG
  have HV := Lib.hid (herdB_iff.2 hv)
  have HYS := Lib.hid hys
  have hmf := make_closure
  have h14 := hv.n
  have HBAD := Lib.hid hbad
  have hMO := fun (W : World) (hB : Mem W (hdB d b1 b2 b3) W) => membersOf_l d b1 b2 b3 (by omega) hv.l2 hv.l3 W hB
  have hFO := fun (a : Option Addr) (c : Nat) (W : World) hA => flockOf_any d a d.n1 c h14 (fun i hi => hd.s i hi) W hA
  have hVH := fun (W : World) hB hE => implValidHerd_any (r := r) d b1 b2 b3 hd W hB hE
  clear hM0 hE hG hv hys hbad
  obtain ⟨hv, hhv⟩ : ∃ f, hdV d b1 b2 b3 = f := ⟨_, rfl⟩
  rw [hhv] at hVH hMO ⊢
  obtain ⟨n, hn⟩ : ∃ n, d.n1 = n := ⟨_, rfl⟩
  rw [hn] at hMO hFO h14
  have hys' := HYS.out
  rw [hn] at hys'
  have HY := Lib.hid hys'
  have hbad := HBAD.out
  rw [hn] at hbad
  have HB := Lib.hid hbad
  clear hbad HBAD
  have HVH := Lib.hid hVH
  have HMO := Lib.hid hMO
  have HFO := Lib.hid hFO
  clear hhv hVH hMO hFO hn hys' HYS
  have tk_x1 : True := trivial; have tk_f4 : True := trivial; have tk_e5 : True := trivial; have tk_g1 : True := trivial; have tk_g2 : True := trivial; have tk_m1 : True := trivial; have tk_k1 : True := trivial; have tk_s1 : True := trivial
  go_enter_defers Tryd.func88, Tryd.ntmps88
  go_wp2_with (first | (have _t := tk_x1; refine wpList_box rfl _ _ rfl _ _ rfl hM ?_; intro x1 W' hx1 hM'; clear hM tk_x1; have hM := hM'; clear hM') | (have _t := tk_f4; refine wpList_zero rfl _ rfl (zeroTab _ _ _ rfl) hM ?_; intro f4 W' hf4 hM'; clear hM tk_f4; have hM := hM'; clear hM') | (have _t := tk_e5; refine wpList_zero1 rfl _ rfl (zero1Tab _ _ rfl) rfl hM ?_; intro e5 W' he5 hM'; clear hM tk_e5; have hM := hM'; clear hM') | (have _t := tk_g1; refine wpList_get rfl _ _ rfl _ _ rfl hM 2 rfl (rowTab _ _ rfl) (by omega) ?_; simp only [Nat.zero_add]; clear tk_g1) | (go_at_call 116; refine (HVH.out _ ((H0.out.call hM.below).base (Below.refl _ _)) (HE.out.below hM.below)).mono ?_; rintro e W' ⟨rfl, hb'⟩; rw [HV.out]; have hM' := hM.call hb'; clear hM hb'; have hM := hM'; clear hM') | (have _t := tk_g2; refine wpList_get rfl _ _ rfl _ _ rfl hM 2 rfl (rowTab _ _ rfl) (by omega) ?_; simp only [Nat.zero_add]; clear tk_g2) | (have _t := tk_m1; go_at_call 118; refine (HMO.out _ ((H0.out.call hM.below).base (Below.refl _ _))).mono ?_; rintro e W' ⟨v, rfl, hL⟩; obtain ⟨ma, mc, K, rfl, hmc, hM', hK⟩ := hL.keep hM; have HK := Lib.hid hK; clear hM hK hL tk_m1; have hM := hM'; clear hM'; simp only [List.cons_append, List.nil_append] at hM) | (have _t := tk_k1; go_at_call 117; refine (HFO.out ma mc _ (HK.out _ [_, _, _] _ hM)).mono ?_; rintro e Wf ⟨m, rfl, hmm, hO, hb'⟩; have hM' := (hM.call hb').withO (o := mapO kvS (keysU d n) (putsU d n)) rfl hO; clear hM hb' hO tk_k1; have hM := hM'; clear hM') | (have _t := tk_s1; refine wpList_lay rfl _ _ _ rfl _ _ rfl _ _ rfl hM 1 rfl (by assumption) (rowTab _ _ rfl) (by omega) (fun k _ => flkV_one _ _ _ _ k) ?_; intro W' hM'; have hM2 := hM'.re 1 rfl (flkV ma n mc m) (fun k hk => by simp [lay, hk]); simp only [List.set] at hM2; clear hM hM' tk_s1; have hM := hM2; clear hM2))
  go_loopw [19] (fun i wr => ∃ k : Nat, k ≤ k0 ∧ i = .int .i64 k ∧ Mem ((Base.of w).with m (mapO kvS (keysU d n) (putsU d n)) rfl) ((e5, 1, fun _ => Value.nilIface) :: (f4, 2, flkV ma n mc m) :: (x1, 3, hv) :: K) wr) (fun i _ => gn - (intOf i).toNat)
  case atStart => exact ⟨0, by omega, rfl, hM⟩
  case round =>
    clear hM
    obtain ⟨k, hk, rfl, hM⟩ := hrel
    by_cases hlt : k < k0
    · have l2 : (k : Int) < gn := by omega
      obtain ⟨bg, Ng, Fg, rfl, hNg, hFg, hAg⟩ := (HG.out.below (show Below w.heap.size w wr from hM.good.1)).at (k := k) (by omega)
      have HAg := Lib.hid hAg
      clear hAg
      have hy := HY.out k (by omega)
      generalize ys k = y at hFg hy
      go_wp2_with (first | (refine wpList_getAt1 rfl _ _ rfl _ _ rfl HAg.out (cellTab _ rfl) (by omega) _ hFg ?_) | (refine wpList_get1 rfl _ _ rfl _ _ rfl hM 1 rfl (cellTab _ rfl) (by omega) (.slice ma n mc) rfl ?_) | (go_at_call 119; (with_reducible refine (demand_ok ma n mc y hy _).mono ?_); rintro e W' ⟨rfl, hb'⟩; have hM' := hM.call hb'; clear hM hb'; have hM := hM'; clear hM'))
      go_roundw
      case rel => exact ⟨k + 1, by omega, by go_num, hM⟩
      case measure => simp [intOf]; omega
    · obtain rfl : k = k0 := by omega
      have l2 : (k : Int) < gn := by omega
      obtain ⟨bg, Ng, Fg, rfl, hNg, hFg, hAg⟩ := (HG.out.below (show Below w.heap.size w wr from hM.good.1)).at (k := k) (by omega)
      have HAg := Lib.hid hAg
      have hb := HB.out
      clear hAg
      obtain ⟨y, hy⟩ : ∃ y, ys k = y := ⟨_, rfl⟩
      rw [hy] at hFg hb
      have Hy := Lib.hid hy
      clear hy
      have HB2 := Lib.hid hb
      clear hb
      go_wp2_with (first | (refine wpList_getAt1 rfl _ _ rfl _ _ rfl HAg.out (cellTab _ rfl) (by omega) _ hFg ?_) | (refine wpList_get1 rfl _ _ rfl _ _ rfl hM 1 rfl (cellTab _ rfl) (by omega) (.slice ma n mc) rfl ?_) | (go_at_call 119; refine (demand_no ma n mc y HB2.out _).mono ?_; rintro e W' ⟨rfl, hb'⟩; have hM' := hM.call hb'; clear hM hb'; have hM := hM'; clear hM'))
      refine leaves_cons (f := 115) (args := #[.pointer (some ⟨e5, 0, none⟩)]) (by simp) (by simp [go_sem]) ?_
      refine (catch_stray e5 .nilIface y _ hM (by assumption)).mono ?_
      rintro e u' w'' ⟨rfl, rfl, hM2⟩
      rw [Hy.out]
      exact ⟨_, results_cells rfl _ rfl (hM2.ats 1 _ _ _ rfl) (rowTab _ _ rfl) rfl ((hM2.ats 0 _ _ _ rfl).cell (by omega)) (cellTab _ rfl), _, rfl, (fun k _ => flkV_one _ _ _ _ k), hM2.good.1⟩
end Go.Proofs.YtcdpdcjdjcbhcaaDoor

/-
  Words: a list of strings that grows; how it is joined.
-/
namespace Go.Proofs.YtcdpdcjdjcbhcaaDoor
open Go Go.RowKit Go.BigFrame

theorem strs_under : Tryd.prog.underlying 69 = some (.slice 9) := Tryd.underlying69
theorem strs_info : (Tryd.prog.info? 9).map (fun i => (i.size, i.zero)) = some (1, some (.string ⟨#[]⟩)) := by kernel_rfl
theorem strF_one {f : Nat → List UInt8} : ∀ k, k < 1 → ((fun _ => strF f k) k : Value).oneCell' = true := fun _ _ => rfl
/-- Words that a call listed, joined. -/
theorem join_lst {w : World} {K : Blocks} {v : Value} {n : Nat} {f : Nat → List UInt8} {W : World} (h : Lst (Base.of w) K 1 v n (strF f) W) (sep : List UInt8) (m : Nat) (hf : ∀ k, k < n → (f k).length ≤ m) (hm : n * (m + sep.length) ≤ 100000000) (hn : n ≤ 1048576) :
    Calls Tryd.prog 46 #[v, .string (bs sep)] W fun e w' => e = .returned (.string (bs (joinT sep f n))) ∧ Below W.heap.size W w' := by
  rcases h with ⟨rfl, rfl, hM⟩ | ⟨b, c, F, rfl, hb, hc, hF, hM⟩
  · exact join_none _ _ _ _
  · exact join_any b n (c * 1) c f F sep m hf hm hn (by omega) (fun k hk => hF k (by omega)) hc W (hM.ats 0 _ _ _ rfl)
end Go.Proofs.YtcdpdcjdjcbhcaaDoor

/-
  (impl.members).line by contract.
-/
namespace Go.Proofs.YtcdpdcjdjcbhcaaDoor
open Go Go.RowKit Go.BigFrame

/-- The words of a goat's line. -/
def wordsF (d : Hd) (u v : List UInt8) (L : List Nat) (k : Nat) : List UInt8 := if k = 0 then u else if k = 1 then v else nm d (L.getD (k - 2) 0)
theorem wordsF_join (d : Hd) (u v : List UInt8) (L : List Nat) : ∀ k, k ≤ L.length → joinT [32] (wordsF d u v L) (2 + k) = u ++ [32] ++ v ++ tailT d (L.take k)
  | 0, _ => by
    rw [show 2 + 0 = 1 + 1 from rfl, joinT_succ _ _ (by omega), joinT_one]
    simp [wordsF, tailT_nil]
  | k + 1, h => by
    have hk : k < L.length := by omega
    have e : L.take (k + 1) = L.take k ++ [L.getD k 0] := by
      rw [List.take_add_one, List.getD_eq_getElem?_getD, List.getElem?_eq_getElem hk]; rfl
    rw [show 2 + (k + 1) = (2 + k) + 1 by omega, joinT_succ _ _ (by omega), wordsF_join d u v L k (by omega), e, tailT_snoc]
    have e2 : wordsF d u v L (2 + k) = nm d (L.getD k 0) := by
      unfold wordsF
      rw [if_neg (by omega), if_neg (by omega), show 2 + k - 2 = k by omega]
    rw [e2]
    simp only [List.append_assoc]

theorem lst_pos {w W : World} {l : List Nat} {v : Value} (hp : 0 < l.length) (h : Lst (Base.of w) [] 1 v l.length (vI (natI l)) W) : ∃ b c F, v = .slice (some ⟨b, 0, none⟩) l.length c ∧ w.heap.size ≤ b ∧ l.length ≤ c ∧ (∀ j, j < l.length * 1 → F j = vI (natI l) j) ∧ Mem (Base.of w) [(b, c * 1, F)] W := by
  rcases h with ⟨-, h, -⟩ | h
  · omega
  · exact h
theorem lst_zero {w W : World} {l : List Nat} {v : Value} (hz : l.length = 0) (h : Lst (Base.of w) [] 1 v l.length (vI (natI l)) W) : ∃ a c, v = .slice a 0 c := by
  rcases h with ⟨h, -, -⟩ | ⟨b, c, F, h, -, -, -, -⟩
  · exact ⟨_, _, h⟩
  · exact ⟨_, _, by rw [h, hz]⟩
theorem lst_two {w : Base} {W : World} {K : Blocks} {d : Hd} {u v : List UInt8} {L : List Nat} {l1 : Nat} (hz : L.length = 0) (hl1 : w.B ≤ l1) (hM : Mem w ((l1, 2, fun k => if k = 0 then .string (bs u) else .string (bs v)) :: K) W) : Lst w K 1 (.slice (some ⟨l1, 0, none⟩) 2 2) (2 + L.length) (strF (wordsF d u v L)) W := by
  rw [hz]
  exact .inr ⟨l1, 2, _, rfl, hl1, by omega, fun j hj => by
    rcases (show j = 0 ∨ j = 1 by omega) with rfl | rfl <;> rfl, hM⟩
theorem vI_nat (l : List Nat) {k j : Nat} (hk : k < l.length) (hj : l.getD k 0 = j) : vI (natI l) k = .int .i64 (j : Int) := by
  unfold vI vInt64S numsF natI
  rw [List.getD_eq_getElem?_getD, List.getElem?_eq_getElem hk] at hj
  simp only [List.getD_eq_getElem?_getD, List.getElem?_map, List.getElem?_eq_getElem hk, Option.map_some, Option.getD_some]
  simp only [Option.getD_some] at hj
  rw [hj]

set_option maxRecDepth 100000 in
set_option maxHeartbeats 8000000 in
theorem herdLine_any (d : Hd) (hd : FitsH d) (hO : HerdOk d) (i : Nat) (hi : i < d.n1) (ma : Option Addr) (mc : Nat) (w : World) (hA : MemsAt w ma d.n1 d) (hT : Tab w) (hP : TabP w) :
    Calls Tryd.prog 89 #[.slice ma d.n1 mc, .agg (arr 3 (gMem d i))] w fun e w' => e = .returned (.string (bs (lineW d i))) ∧ Below w.heap.size w w' := by
  have hM := Mem.nil w
  have h14 := hO.n
  have HO := Lib.hid hO
  have HT := Lib.hid hT
  have HP := Lib.hid hP
  obtain ⟨bm, Nm, Fm, rfl, hNm, hFm, -, hAm⟩ := hA.row hi
  have HCm := Lib.hid (show ∀ j, j < d.n1 → Fm (j * 3) = .string (bs (nm d j)) from fun j hj => by
    rw [hFm _ (by omega), show j * 3 = j * 3 + 0 from rfl, sMem_row d j 0 (by omega), bs_nm]; rfl)
  have HAm := Lib.hid hAm
  have hev := hO.eats i hi
  have hfi := hd.f i (by rw [hO.l3]; exact hi)
  have hfo := hO.foes i hi
  have lu := nm_len hO hi
  have lv := numB_len (n := d.es i) (by omega)
  have HE := Lib.hid (fun (W : World) (h : TabP W) => fmt_any (d.es i) hev.1 (by omega) W h)
  have e0 : gMem d i 0 = .string (bs (nm d i)) := by rw [bs_nm]; rfl
  have e1 : gMem d i 1 = .int .i16 (d.es i) := rfl
  have ce : IntKind.i64.wrap (d.es i) = d.es i := IntWalk.i64_in _ (by omega)
  obtain ⟨s, hs⟩ : ∃ s : Nat, d.fs i = s := ⟨(d.fs i).toNat, by omega⟩
  have e2 : gMem d i 2 = .int .u16 (s : Int) := by rw [← hs]; rfl
  have hs2 : s < 65536 := by omega
  have hsn : s < 2 ^ d.n1 := by rw [hs] at hfo; exact_mod_cast hfo
  have hB := foeL_bits (by omega : d.n1 ≤ 16) hsn
  have hlen : (bitsL s).length ≤ 14 := by rw [← hB]; have := foeL_len s d.n1; omega
  have hmem : ∀ k, k < (bitsL s).length → (bitsL s).getD k 0 < d.n1 := fun k hk => by
    rw [List.getD_eq_getElem?_getD, List.getElem?_eq_getElem hk]
    have hm : ∀ x, x ∈ bitsL s → x < d.n1 := fun x hx => by
      rw [← hB] at hx
      unfold foeL at hx
      exact List.mem_range.1 (List.mem_filter.1 hx).1
    exact hm _ (List.getElem_mem hk)
  have htl := foeT_len hO s (Nat.le_refl d.n1)
  have HLW := Lib.hid (show lineW d i = nm d i ++ [32] ++ numB (d.es i) ++ tailT d (bitsL s) ++ [10] from by unfold lineW; rw [hs, Int.toNat_natCast, hB])
  rw [hB] at htl
  obtain ⟨x, hx⟩ : ∃ x, d.es i = x := ⟨_, rfl⟩
  obtain ⟨u, hu⟩ : ∃ u, nm d i = u := ⟨_, rfl⟩
  obtain ⟨v, hv⟩ : ∃ v, numB x = v := ⟨_, rfl⟩
  obtain ⟨L, hL0⟩ : ∃ L, bitsL s = L := ⟨_, rfl⟩
  rw [hx] at HE lv e1 ce hev HLW
  rw [hu] at e0 lu HLW
  rw [hv] at HE lv HLW
  rw [hL0] at hlen hmem htl HLW
  have HL0 := Lib.hid hL0
  have HMem := Lib.hid hmem
  obtain ⟨n, hn⟩ : ∃ n, d.n1 = n := ⟨_, rfl⟩
  have Hn := Lib.hid hn
  have HF0 : Hid (wordsF d u v L 0 = u ∧ wordsF d u v L 1 = v) := Lib.hid ⟨rfl, rfl⟩
  have HWl := Lib.hid (show ∀ k, k < 2 + L.length → (wordsF d u v L k).length ≤ 20 from fun k hk => by
    unfold wordsF
    split
    · omega
    · split
      · omega
      · exact Nat.le_trans (nm_len hO (hmem _ (by omega))) (by omega))
  have HJ := Lib.hid (show joinT [32] (wordsF d u v L) (2 + L.length) = u ++ [32] ++ v ++ tailT d L from by
    rw [wordsF_join d u v L L.length (Nat.le_refl _), List.take_length])
  rw [hn] at h14 hNm ⊢
  generalize hgv : gMem d i = gv at *
  clear hA hT hP hs hfo hfi hB hsn hx hu hv hL0 hmem hFm hAm hO hi hn hgv
  rcases Nat.eq_zero_or_pos L.length with hz0 | hpos
  · have hz : Hid (L.length = 0) := Lib.hid hz0
    clear hz0
    have tk_b1 : True := trivial; have tk_l1 : True := trivial; have tk_li : True := trivial
    go_enter Tryd.func89, Tryd.ntmps89
    go_wp2_with (first | (have _t := tk_b1; refine wpList_box rfl _ _ rfl _ _ rfl hM ?_; intro b1 W' hb1 hM'; clear hM tk_b1; have hM := hM'; clear hM'))
    ((try simp only [Act.put, List.setIfInBounds_toArray, List.set_cons_succ, List.set_cons_zero]); refine region_head_mem (m := 6) (by kernel_rfl) (by kernel_rfl) hM ?_; clear hM; simp only [List.take_succ_cons, List.take_zero, List.drop_succ_cons, List.drop_zero]; (repeat (first | go_big_quiet_skip | (go_big_quiet_want; first | (refine quiet_get1 _ _ rfl _ _ rfl 0 rfl (cellTab _ rfl) (by omega) _ (e0) ?_; (simp only [Act.put, List.setIfInBounds_toArray, List.set_cons_succ, List.set_cons_zero]); go_big_quiet_on) | (refine quiet_get1 _ _ rfl _ _ rfl 0 rfl (cellTab _ rfl) (by omega) _ (e1) ?_; (simp only [Act.put, List.setIfInBounds_toArray, List.set_cons_succ, List.set_cons_zero]); go_big_quiet_on) | (refine quiet_call ?_; apply Exists.intro; apply Exists.intro; apply Exists.intro; refine ⟨fun W => ?_, fun W hM => ?_, ?_⟩; (go_simp; exact ⟨rfl, rfl⟩); (with_reducible exact HE.out W (HP.out.below hM.below)); (simp only [Act.put, List.setIfInBounds_toArray, List.set_cons_succ, List.set_cons_zero]); go_big_quiet_on) | (refine quiet_val ?_; apply Exists.intro; refine ⟨fun W => ?_, ?_⟩; (go_simp; (try simp only [ce, if_true, Bool.false_eq_true, if_false]); rfl); (simp only [Act.put, List.setIfInBounds_toArray, List.set_cons_succ, List.set_cons_zero]); go_big_quiet_on)))); (with_reducible refine wpQuiet_nil ?_); intro W' hM)
    go_wp2_with (first | (have _t := tk_l1; refine wpList_lit2 rfl _ _ _ _ rfl (.string (bs u)) (.string (bs v)) rfl rfl rfl rfl _ strs_under strs_info hM ?_; intro l1 W' hl1 hM'; clear hM tk_l1; have hM := hM'; clear hM') | (refine wpList_get1 rfl _ _ rfl _ _ rfl hM 1 rfl (cellTab _ rfl) (by omega) _ e2 ?_) | (have _t := tk_li; go_at_call 120; refine (list_any s hs2 _ (HT.out.below hM.below)).mono ?_; rintro e W' ⟨lv, rfl, hL⟩; rw [HL0.out] at hL; have hM' := hM.call hL.mem.below; obtain ⟨a1, c1, rfl⟩ := lst_zero hz.out hL; clear hM tk_li hL; have hM := hM'; clear hM'))
    refine wp_loop_rounds 1 ?_
    rw [rounds_succ]
    have hLw := lst_two (d := d) (u := u) (v := v) (L := L) hz.out hl1 hM
    have HJn := Lib.hid (join_lst hLw [32] 20 HWl.out (by simp only [List.length_cons, List.length_nil]; omega) (by omega))
    rw [HJ.out] at HJn
    clear hLw
    go_wp2_with (first | (go_at_call 46; refine (HJn.out).mono ?_; rintro e W' ⟨rfl, hb'⟩; have hM' := hM.call hb'; clear hM hb'; have hM := hM'; clear hM') | (refine wpList_cat rfl _ _ rfl _ _ rfl rfl (by simp only [List.length_append, List.length_cons, List.length_nil]; omega) ?_))
    go_ret
    exact ⟨ret_bs (by rw [HLW.out]; simp), hM.below⟩
  · have tk_b1 : True := trivial; have tk_l1 : True := trivial; have tk_li : True := trivial
    go_enter Tryd.func89, Tryd.ntmps89
    go_wp2_with (first | (have _t := tk_b1; refine wpList_box rfl _ _ rfl _ _ rfl hM ?_; intro b1 W' hb1 hM'; clear hM tk_b1; have hM := hM'; clear hM'))
    ((try simp only [Act.put, List.setIfInBounds_toArray, List.set_cons_succ, List.set_cons_zero]); refine region_head_mem (m := 6) (by kernel_rfl) (by kernel_rfl) hM ?_; clear hM; simp only [List.take_succ_cons, List.take_zero, List.drop_succ_cons, List.drop_zero]; (repeat (first | go_big_quiet_skip | (go_big_quiet_want; first | (refine quiet_get1 _ _ rfl _ _ rfl 0 rfl (cellTab _ rfl) (by omega) _ (e0) ?_; (simp only [Act.put, List.setIfInBounds_toArray, List.set_cons_succ, List.set_cons_zero]); go_big_quiet_on) | (refine quiet_get1 _ _ rfl _ _ rfl 0 rfl (cellTab _ rfl) (by omega) _ (e1) ?_; (simp only [Act.put, List.setIfInBounds_toArray, List.set_cons_succ, List.set_cons_zero]); go_big_quiet_on) | (refine quiet_call ?_; apply Exists.intro; apply Exists.intro; apply Exists.intro; refine ⟨fun W => ?_, fun W hM => ?_, ?_⟩; (go_simp; exact ⟨rfl, rfl⟩); (with_reducible exact HE.out W (HP.out.below hM.below)); (simp only [Act.put, List.setIfInBounds_toArray, List.set_cons_succ, List.set_cons_zero]); go_big_quiet_on) | (refine quiet_val ?_; apply Exists.intro; refine ⟨fun W => ?_, ?_⟩; (go_simp; (try simp only [ce, if_true, Bool.false_eq_true, if_false]); rfl); (simp only [Act.put, List.setIfInBounds_toArray, List.set_cons_succ, List.set_cons_zero]); go_big_quiet_on)))); (with_reducible refine wpQuiet_nil ?_); intro W' hM)
    go_wp2_with (first | (have _t := tk_l1; refine wpList_lit2 rfl _ _ _ _ rfl (.string (bs u)) (.string (bs v)) rfl rfl rfl rfl _ strs_under strs_info hM ?_; intro l1 W' hl1 hM'; clear hM tk_l1; have hM := hM'; clear hM') | (refine wpList_get1 rfl _ _ rfl _ _ rfl hM 1 rfl (cellTab _ rfl) (by omega) _ e2 ?_) | (have _t := tk_li; go_at_call 120; refine (list_any s hs2 _ (HT.out.below hM.below)).mono ?_; rintro e W' ⟨lv, rfl, hL⟩; rw [HL0.out] at hL; obtain ⟨bl, cl, Fl, rfl, hbl, hcl, hFl, hMl⟩ := lst_pos hpos hL; have hM' := hM.fresh' hMl.below hMl.at0 hbl; clear hM tk_li hL hMl; have hM := hM'; clear hM'))
    simp only [List.cons_append, List.nil_append] at hM
    go_loopw [5, 19] (fun t i wr => ∃ k : Nat, k ≤ L.length ∧ i = .int .i64 k ∧ Lst (Base.of w) [(b1, 3, gv), (bl, cl * 1, Fl)] 1 t (2 + k) (strF (wordsF d u v L)) wr) (fun _ i _ => L.length - (intOf i).toNat)
    case atStart => exact ⟨0, by omega, rfl, .inr ⟨l1, 2, _, rfl, hl1, by omega, fun j hj => by
        rcases (show j = 0 ∨ j = 1 by omega) with rfl | rfl <;> rfl, hM⟩⟩
    case round =>
      clear hM
      obtain ⟨k, hk, rfl, hLw⟩ := hrel
      by_cases hlt : k < L.length
      · rcases hLw with ⟨-, h0, -⟩ | ⟨bw, cw, F, rfl, hbb, hnc, hFF, hM⟩
        · omega
        have l2 : (k : Int) < L.length := by omega
        have hjn := HMem.out k hlt
        obtain ⟨j, hj⟩ : ∃ j, L.getD k 0 = j := ⟨_, rfl⟩
        rw [hj] at hjn
        have eL : Fl k = .int .i64 (j : Int) := by
          rw [hFl k (by omega)]
          exact vI_nat L hlt hj
        have em := HCm.out j hjn
        have hjn' : j < n := by rw [← Hn.out]; exact hjn
        have l3 : (j : Int) < n := by omega
        have hnm := nm_len HO.out hjn
        obtain ⟨y, hy⟩ : ∃ y, nm d j = y := ⟨_, rfl⟩
        rw [hy] at em hnm
        have HW := Lib.hid (show ∀ q, q < 1 → Value.string (bs y) = strF (wordsF d u v L) ((2 + k) * 1 + q) from fun q hq => by
          obtain rfl : q = 0 := by omega
          unfold strF wordsF
          rw [if_neg (by omega), if_neg (by omega), show (2 + k) * 1 + 0 - 2 = k by omega, hj, hy])
        have hle : 2 + k ≤ 1048576 := by omega
        have Hf := Lib.hid hFF
        have HFl := Lib.hid hFl
        clear hFF hFl hj hy
        have tk_l2 : True := trivial; have tk_p1 : True := trivial
        go_wp2_with (first | (refine wpList_get1 rfl _ _ rfl _ _ rfl hM 2 rfl (cellTab _ rfl) (by omega) _ eL ?_) | (refine wpList_getAt1 rfl _ _ rfl _ _ rfl (HAm.out.below hM.below HAm.out.lt) (cellTab _ rfl) (by omega) _ em ?_) | (have _t := tk_l2; refine wpList_lit1 rfl _ _ _ rfl (.string (bs y)) rfl rfl _ strs_under strs_info hM ?_; intro l2b W' hl2 hM'; clear hM tk_l2; have hM := hM'; clear hM') | (have _t := tk_p1; refine wpList_push1 rfl _ _ _ rfl _ 1 _ _ strs_under infoStringS rfl (by omega) _ _ _ _ rfl hbb hnc hle _ _ rfl strF_one hM (strF (wordsF d u v L)) Hf.out HW.out ?_; intro bL cL FL W' hbL hcL hFL hM'; clear hM tk_p1; have hM := hM'; clear hM'))
        go_roundw
        case rel => exact ⟨k + 1, by omega, by go_num, .inr ⟨bL, cL, FL, rfl, hbL, hcL, hFL, hM⟩⟩
        case measure => simp [intOf]; omega
      · obtain rfl : k = L.length := by omega
        have HJn := Lib.hid (join_lst hLw [32] 20 HWl.out (by simp only [List.length_cons, List.length_nil]; omega) (by omega))
        rw [HJ.out] at HJn
        have hM := hLw.mem
        go_wp2_with (first | (go_at_call 46; refine (HJn.out).mono ?_; rintro e W' ⟨rfl, hb'⟩; have hM' := hM.call hb'; clear hM hb'; have hM := hM'; clear hM') | (refine wpList_cat rfl _ _ rfl _ _ rfl rfl (by simp only [List.length_append, List.length_cons, List.length_nil]; omega) ?_))
        go_ret
        exact ⟨ret_bs (by rw [HLW.out]; simp), hM.below⟩
end Go.Proofs.YtcdpdcjdjcbhcaaDoor

/-
  impl.HerdText by contract.
-/
namespace Go.Proofs.YtcdpdcjdjcbhcaaDoor
open Go Go.RowKit Go.BigFrame

set_option maxRecDepth 100000 in
set_option maxHeartbeats 8000000 in
theorem implHerdText_any {a : Nat → Addr} (d : Hd) (b1 b2 b3 : Nat) (hd : FitsH d) (w : World) (hM0 : Mem w (hdB d b1 b2 b3) w) (hE : Errs a w) (hT : Tab w) (hP : TabP w) :
    Calls Tryd.prog 39 #[.agg (arr 3 (hdV d b1 b2 b3))] w fun e w' => e = .returned (.string (bs (herdT d))) ∧ Below w.heap.size w w' := by
  have hM := Mem.nil w
  have H0 := Lib.hid hM0
  have HE := Lib.hid hE
  have HT := Lib.hid hT
  have HP := Lib.hid hP
  clear hM0 hE hT hP
  cases hv : herdB d
  · have Hp := Lib.hid (herdT_no hv)
    have HFW := Lib.hid (fun (W : World) hB hE hI => flockWith_no (a := a) (r := a 1) d b1 b2 b3 hd (.slice none 0 0) W hB hE hI hv)
    clear hv
    have tk_x1 : True := trivial; have tk_r1 : True := trivial; have tk_f8 : True := trivial; have tk_s1 : True := trivial
    go_enter Tryd.func39, Tryd.ntmps39
    go_wp2_with (first | (have _t := tk_x1; refine wpList_box rfl _ _ rfl _ _ rfl hM ?_; intro x1 W' hx1 hM'; clear hM tk_x1; have hM := hM'; clear hM') | (have _t := tk_r1; refine wpList_get rfl _ _ rfl _ _ rfl hM 0 rfl (rowTab _ _ rfl) (by omega) ?_; simp only [Nat.zero_add]; clear tk_r1) | (go_at_call 88; refine (HFW.out _ ((H0.out.call hM.below).base (Below.refl _ _)) ⟨(HE.out.below hM.below).vars 1 (by omega), HT.out.below hM.below⟩ ((HE.out.below hM.below).vars 0 (by omega))).mono ?_; rintro e Wf ⟨ff, rfl, hone, hb'⟩; have hM' := hM.call hb'; have HOne := Lib.hid hone; clear hM hb' hone; have hM := hM'; clear hM') | (have _t := tk_f8; refine wpList_zero rfl _ rfl (zeroTab _ _ _ rfl) hM ?_; intro f8 W' hf8 hM'; clear hM tk_f8; have hM := hM'; clear hM') | (have _t := tk_s1; refine wpList_lay rfl _ _ _ rfl _ _ rfl _ _ rfl hM 0 rfl (by assumption) (rowTab _ _ rfl) (by omega) (fun k hk => HOne.out k hk) ?_; intro W' hM'; clear hM tk_s1; have hM := hM'; clear hM'; simp only [List.set] at hM))
    go_ret
    exact ⟨ret_bs Hp.out.symm, hM.below⟩
  have hO := herdB_iff.1 hv
  have Hp := Lib.hid (herdT_yes hv)
  have h14 := hO.n
  have HFW := Lib.hid (fun (W : World) hB hE hG => flockWith_ok (r := a 1) d b1 b2 b3 hd none 0 0 (fun _ => 0) (by omega) W hB hE hG hO (fun j h => absurd h (by omega)))
  have HL := Lib.hid (show ∀ k, k ≤ d.n1 → (catT (lineW d) k).length ≤ 14 * 160 from fun k hk => by
    have h1 := catT_len (f := lineW d) (m := 160) k (fun j hj => lineW_len hO (by omega))
    have h2 : k * 160 ≤ 14 * 160 := Nat.mul_le_mul (by omega) (by omega)
    omega)
  have HLn := Lib.hid (fun (i : Nat) (hi : i < d.n1) (ma : Option Addr) (mc : Nat) (W : World) (hA : MemsAt W ma d.n1 d) (hT : Tab W) (hP : TabP W) => herdLine_any d hd hO i hi ma mc W hA hT hP)
  have HWl := Lib.hid (fun (i : Nat) (hi : i < d.n1) => lineW_len hO hi)
  clear hv hO
  have tk_x1 : True := trivial; have tk_r1 : True := trivial; have tk_f8 : True := trivial; have tk_s1 : True := trivial; have tk_bb : True := trivial; have tk_m1 : True := trivial
  go_enter Tryd.func39, Tryd.ntmps39
  go_wp2_with (first | (have _t := tk_x1; refine wpList_box rfl _ _ rfl _ _ rfl hM ?_; intro x1 W' hx1 hM'; clear hM tk_x1; have hM := hM'; clear hM') | (have _t := tk_r1; refine wpList_get rfl _ _ rfl _ _ rfl hM 0 rfl (rowTab _ _ rfl) (by omega) ?_; simp only [Nat.zero_add]; clear tk_r1) | (go_at_call 88; refine (HFW.out _ ((H0.out.call hM.below).base (Below.refl _ _)) ⟨(HE.out.below hM.below).vars 1 (by omega), HT.out.below hM.below⟩ (.inl rfl)).mono ?_; rintro e Wf ⟨ma, mc, m, rfl, hmc, hMA, hOb, hb'⟩; have hM' := hM.call hb'; have HMA := Lib.hid hMA; have HB1 := Lib.hid hM'.below; have hM2 := hM'.base (w' := Base.of Wf) (Below.refl _ _); clear hM hb' hOb hMA hM'; have hM := hM2; clear hM2) | (have _t := tk_f8; refine wpList_zero rfl _ rfl (zeroTab _ _ _ rfl) hM ?_; intro f8 W' hf8 hM'; clear hM tk_f8; have hM := hM'; clear hM') | (have _t := tk_s1; refine wpList_lay rfl _ _ _ rfl _ _ rfl _ _ rfl hM 0 rfl (by assumption) (rowTab _ _ rfl) (by omega) (fun k _ => flkV_one _ _ _ _ k) ?_; intro W' hM'; have hM2 := hM'.re 0 rfl (flkV ma d.n1 mc m) (fun k hk => by simp [lay, hk]); simp only [List.set] at hM2; clear hM hM' tk_s1; have hM := hM2; clear hM2) | (have _t := tk_bb; refine wpList_bldM rfl rfl hM ?_; intro W0 B WB hM0 hB hBl; clear hM tk_bb) | (have _t := tk_m1; refine wpList_get1 rfl _ _ rfl _ _ rfl (hM0.call hBl.below) 0 rfl (cellTab _ rfl) (by omega) (.slice ma d.n1 mc) rfl ?_; clear tk_m1))
  have HB0 := hB
  have HM0 := Lib.hid hM0
  clear hB hM0
  go_loopw [18] (fun i wr => ∃ k : Nat, k ≤ d.n1 ∧ i = .int .i64 k ∧ Bld W0 (catT (lineW d) k) wr) (fun i _ => d.n1 - (intOf i).toNat)
  case atStart => exact ⟨0, by omega, rfl, hBl⟩
  case round =>
    clear hBl
    obtain ⟨k, hk, rfl, hBl⟩ := hrel
    by_cases hlt : k < d.n1
    · have l2 : (k : Int) < d.n1 := by omega
      have hll := HL.out k hk
      have hwl := HWl.out k hlt
      have hbf := HM0.out.below.trans (hBl.below.mono HM0.out.below.size)
      have hb0 := HB1.out.trans (hbf.mono HB1.out.size)
      have HTk := Lib.hid (HT.out.below hb0)
      have HPk := Lib.hid (HP.out.below hb0)
      have hMAk := HMA.out.below hbf
      have hM : Mem (Base.of wr) [(f8, 2, flkV ma d.n1 mc m)] wr := (Mem.nil wr).old ((HM0.out.call hBl.below).ats 0 _ _ _ rfl) (fun i p h => by simp at h)
      have HMk := Lib.hid hMAk
      obtain ⟨bm, Nm, Fm, rfl, hNm, -, hrow, hAm⟩ := hMAk.row hlt
      have HAm := Lib.hid hAm
      have Hrow := Lib.hid hrow
      have el : arr 3 (fun j => gMem d k (0 + j)) = arr 3 (gMem d k) := arr_congr fun j hj => by rw [Nat.zero_add]
      have ef : flkV (some ⟨bm, 0, none⟩) d.n1 mc m 0 = .slice (some ⟨bm, 0, none⟩) d.n1 mc := rfl
      have HLk := Lib.hid (fun (W : World) (hb : Below wr.heap.size wr W) => HLn.out k hlt (some ⟨bm, 0, none⟩) mc W (HMk.out.below hb) (HTk.out.below hb) (HPk.out.below hb))
      have HBl := Lib.hid hBl
      have hs1 := catT_succ (lineW d) k
      obtain ⟨l, hl⟩ : ∃ l, catT (lineW d) k = l := ⟨_, rfl⟩
      obtain ⟨t, ht⟩ : ∃ t, lineW d k = t := ⟨_, rfl⟩
      rw [hl] at HBl hll hs1
      rw [ht] at HLk hwl hs1
      have HS1 := Lib.hid hs1
      clear hl ht hs1 hBl hb0 hbf hMAk hrow hAm
      have tk_b3 : True := trivial; have tk_r1 : True := trivial; have tk_r2 : True := trivial; have tk_r3 : True := trivial; have tk_r4 : True := trivial
      go_wp2_with (first | (have _t := tk_r1; refine wpList_getAt rfl _ _ rfl _ _ rfl (HAm.out.below hM.below HAm.out.lt) (rowTab _ _ rfl) (by omega) (gMem d k) Hrow.out ?_; clear tk_r1) | (have _t := tk_b3; refine wpList_zero rfl _ rfl (zeroTab _ _ _ rfl) hM ?_; intro b3 W' hb3 hM'; clear hM tk_b3; have hM := hM'; clear hM') | (have _t := tk_r2; refine wpList_lay rfl _ _ _ rfl _ _ rfl _ _ rfl hM 0 rfl (by assumption) (rowTab _ _ rfl) (by omega) (fun j _ => mem3_one _ _ _ j) ?_; intro W' hM'; have hM2 := hM'.re 0 rfl (gMem d k) (fun j hj => by simp [lay, hj]); simp only [List.set] at hM2; clear hM hM' tk_r2; have hM := hM2; clear hM2) | (have _t := tk_r3; refine wpList_get1 rfl _ _ rfl _ _ rfl hM 1 rfl (cellTab _ rfl) (by omega) _ ef ?_; clear tk_r3) | (have _t := tk_r4; refine wpList_get rfl _ _ rfl _ _ rfl hM 0 rfl (rowTab _ _ rfl) (by omega) ?_; rw [el]; clear tk_r4) | (go_at_call 89; refine (HLk.out _ hM.below).mono ?_; rintro e W' ⟨rfl, hb'⟩; have hM' := hM.call hb'; clear hM hb'; have hM := hM'; clear hM') | (go_at_call 70; (with_reducible refine (bws_at W0 B HB0.out l t (by omega) _ (HBl.out.call hM.below)).mono ?_); rintro e W' ⟨rfl, hB2⟩; clear hM; have hBl := hB2; clear hB2))
      go_roundw
      case rel => exact ⟨k + 1, by omega, by go_num, by rw [HS1.out]; exact hBl⟩
      case measure => simp [intOf]; omega
    · obtain rfl : k = d.n1 := by omega
      go_wp2_with (first | (go_at_call 73; (with_reducible refine (bstr_at W0 B HB0.out _ _ hBl).mono ?_); rintro e W' ⟨rfl, hbS⟩))
      go_ret
      exact ⟨ret_bs Hp.out.symm, HB1.out.trans ((HM0.out.below.trans (hbS.mono HM0.out.below.size)).mono HB1.out.size)⟩
end Go.Proofs.YtcdpdcjdjcbhcaaDoor

