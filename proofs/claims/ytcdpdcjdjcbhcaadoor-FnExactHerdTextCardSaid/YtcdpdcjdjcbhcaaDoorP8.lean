/-
  Several texts in one: HerdOk, ValidHerdS, HerdTS, Demand, StepSet.
-/
import Derived.Test.YtcdpdcjdjcbhcaaDoorP7
import Derived.Test.YtcdpdcjdjcbhcaaDoorP6
import Derived.Test.YtcdpdcjdjcbhcaaDoorP2
import Derived.Defers
import Derived.Recover
import Derived.WalkLawsBesides
import Derived.Test.YtcdpdcjdjcbhcaaDoorP5
/-
  spec.l06Are, l06Ok, ValidHerd by contracts.
-/
namespace Go.Proofs.YtcdpdcjdjcbhcaaDoor
open Go Go.RowKit Go.BigFrame

theorem bit_div (s k : Nat) : s.testBit k = decide (s / 2 ^ k % 2 = 1) := Nat.testBit_eq_decide_div_mod_eq

set_option maxRecDepth 100000 in
set_option maxHeartbeats 1000000 in
/-- Whether two goats are foes, of a herd whose numbers of foes lie in a block. -/
theorem l06Are_at (d : Hd) (bh b3 n3 c3 N3 : Nat) (hv F3 : Nat → Value) (h2 : hv 2 = .slice (some ⟨b3, 0, none⟩) n3 c3) (i k : Nat) (hi : i < n3) (hN : n3 ≤ N3) (hk : k ≤ 16) (hf : 0 ≤ d.fs i ∧ d.fs i ≤ 65535) (hF : F3 i = .int .u16 (d.fs i)) (w : World) (hH : At w bh 3 hv) (h3 : At w b3 N3 F3) :
    Calls Tryd.prog 114 #[.pointer (some ⟨bh, 0, none⟩), .int .i64 i, .int .i64 k] w fun e w' => e = .returned (.bool (foe d i k)) ∧ Below w.heap.size w w' := by
  obtain ⟨s, hs⟩ : ∃ s : Nat, d.fs i = s := ⟨(d.fs i).toNat, by omega⟩
  have hs2 : s < 65536 := by omega
  have he : foe d i k = decide (s / 2 ^ k % 2 = 1) := by unfold foe; rw [hs]; exact bit_div s k
  rw [he]
  rw [hs] at hF
  obtain ⟨t, ht⟩ : ∃ t, s / 2 ^ k = t := ⟨_, rfl⟩
  have htle : t ≤ s := by rw [← ht]; exact Nat.div_le_self _ _
  rw [ht]
  have e1 : (s : Int) / 2 ^ k = (t : Int) := by rw [← ht]; simp
  have l2 : (i : Int) < n3 := by omega
  have hk0 : (0 : Int) ≤ k := by omega
  have hk1 : (k : Int) ≤ 16 := by omega
  have cu : IntKind.u64.wrap (k : Int) = k := IntWalk.u64_in _ (by omega)
  have ez : ((t : Int) % 2 == 1) = decide (t % 2 = 1) := by
    by_cases h : t % 2 = 1
    · rw [decide_eq_true h]; simp; omega
    · rw [decide_eq_false h]; simp; omega
  have HH := Lib.hid hH
  have H3 := Lib.hid h3
  clear hH h3 hs he ht hf
  go_enter Tryd.func114, Tryd.ntmps114
  go_wp2_with (first | (refine wpList_getAt1 rfl _ _ rfl _ _ rfl HH.out (cellTab _ rfl) (by omega) _ h2 ?_) | (refine wpList_getAt1 rfl _ _ rfl _ _ rfl H3.out (cellTab _ rfl) (by omega) _ hF ?_))
  go_ret
  exact ⟨rfl, Below.refl _ _⟩
theorem toList_ne {a b : ByteArray} (h : a ≠ b) : (a.toList == b.toList) = false := by
  rw [beq_eq_false_iff_ne, ByteArray.toList_eq, ByteArray.toList_eq]
  intro e
  apply h
  cases a; cases b
  simp only at e
  rw [Array.toList_inj.1 e]
theorem shr_zero {s n : Nat} : s / 2 ^ n = 0 ↔ s < 2 ^ n := by
  have hp : 0 < 2 ^ n := Nat.two_pow_pos n
  rw [Nat.div_eq_zero_iff]
  omega
theorem herdB_len {d : Hd} (h : ¬ (d.n1 ≤ 14 ∧ d.n2 = d.n1 ∧ d.n3 = d.n1)) : herdB d = false := by simp [herdB, h]
theorem goat_1 {d : Hd} {i : Nat} (hi : i < d.n1) (h : nameB (d.ss i) = false) : herdB d = false := herd_no hi (by simp [goatB, h])
theorem goat_2 {d : Hd} {i : Nat} (hi : i < d.n1) (h : inB 0 100 (d.es i) = false) : herdB d = false := herd_no hi (by have : ¬ (0 ≤ d.es i ∧ d.es i ≤ 100) := of_decide_eq_false h; simp [goatB, this])
theorem goat_3 {d : Hd} {i : Nat} (hi : i < d.n1) (h : ¬ d.fs i < 2 ^ d.n1) : herdB d = false := herd_no hi (by simp [goatB, h])
theorem goat_4 {d : Hd} {i : Nat} (hi : i < d.n1) (h : foe d i i = true) : herdB d = false := herd_no hi (by simp [goatB, h])
theorem goat_5 {d : Hd} {i k : Nat} (hi : i < d.n1) (hk : k < i) (h : ¬ (d.ss k ≠ d.ss i ∧ foe d i k = foe d k i)) : herdB d = false := herd_no hi (by rw [pair_no hk h, Bool.and_false])
theorem goat_ok {d : Hd} {i : Nat} (h1 : nameB (d.ss i) = true) (h2 : inB 0 100 (d.es i) = true) (h3 : d.fs i < 2 ^ d.n1) (h4 : foe d i i = false) (h5 : ∀ k, k < i → d.ss k ≠ d.ss i ∧ foe d i k = foe d k i) : goatB d i = true ∧ pairU d i i = true :=
  ⟨by have := inB_true h2; simp [goatB, h1, h3, h4, this], pairU_iff.2 h5⟩
theorem herdB_all {d : Hd} (h1 : d.n1 ≤ 14) (h2 : d.n2 = d.n1) (h3 : d.n3 = d.n1) (h : ∀ i, i < d.n1 → goatB d i = true ∧ pairU d i i = true) : herdB d = true := by
  simp [herdB, h1, h2, h3, herdU_iff.2 h]

set_option maxRecDepth 100000 in
set_option maxHeartbeats 8000000 in
theorem l06Ok_any (d : Hd) (bh b1 b2 b3 : Nat) (hd : FitsH d) (w : World) (hM0 : Mem w ((bh, 3, hdV d b1 b2 b3) :: hdB d b1 b2 b3) w) :
    Calls Tryd.prog 83 #[.pointer (some ⟨bh, 0, none⟩)] w fun e w' => e = .returned (.bool (herdB d)) ∧ Below w.heap.size w w' := by
  obtain ⟨l1, l2, l3, hs, he, hf⟩ := hd
  unfold maxLen at l1 l2 l3
  have HS := Lib.hid hs
  have HX := Lib.hid he
  have HF := Lib.hid hf
  have a1 : hdV d b1 b2 b3 0 = .slice (some ⟨b1, 0, none⟩) d.n1 d.n1 := rfl
  have a2 : hdV d b1 b2 b3 1 = .slice (some ⟨b2, 0, none⟩) d.n2 d.n2 := rfl
  have a3 : hdV d b1 b2 b3 2 = .slice (some ⟨b3, 0, none⟩) d.n3 d.n3 := rfl
  have hM := hM0
  simp only [hdB] at hM
  clear hM0 hs he hf
  generalize hdV d b1 b2 b3 = hv at a1 a2 a3 hM
  by_cases c1 : 14 < d.n1
  · have d1 : decide ((14 : Int) < d.n1) = true := decide_eq_true (by omega)
    have HZ := Lib.hid (herdB_len (d := d) (by omega))
    obtain ⟨n, hn⟩ : ∃ n, d.n1 = n := ⟨_, rfl⟩
    rw [hn] at a1 d1
    clear hn
    go_enter Tryd.func83, Tryd.ntmps83
    go_wp2_with (first | (refine wpList_get1 rfl _ _ rfl _ _ rfl hM 0 rfl (cellTab _ rfl) (by omega) _ a1 ?_))
    go_ret
    rw [HZ.out]
    exact ⟨rfl, hM.below⟩
  have d1 : decide ((14 : Int) < d.n1) = false := decide_eq_false (by omega)
  by_cases c2 : d.n2 = d.n1
  case neg =>
    have z1 : ((d.n2 : Int) != (d.n1 : Int)) = true := bne_iff_ne.2 (by omega)
    have z2 : ((d.n2 : Int) == (d.n1 : Int)) = false := beq_eq_false_iff_ne.2 (by omega)
    have z3 : ¬ (d.n2 : Int) = d.n1 := by omega
    have HZ := Lib.hid (herdB_len (d := d) (by omega))
    clear c2
    go_enter Tryd.func83, Tryd.ntmps83
    go_wp2_with (first | (refine wpList_get1 rfl _ _ rfl _ _ rfl hM 0 rfl (cellTab _ rfl) (by omega) _ a1 ?_) | (refine wpList_gget1 ?_ _ _ rfl _ _ rfl hM 0 rfl (cellTab _ rfl) (by omega) _ a2 ?_; kernel_rfl))
    go_ret
    rw [HZ.out]
    exact ⟨rfl, hM.below⟩
  by_cases c3 : d.n3 = d.n1
  case neg =>
    have z1 : ((d.n3 : Int) != (d.n1 : Int)) = true := bne_iff_ne.2 (by omega)
    have z2 : ((d.n3 : Int) == (d.n1 : Int)) = false := beq_eq_false_iff_ne.2 (by omega)
    have z3 : ¬ (d.n3 : Int) = d.n1 := by omega
    have HZ := Lib.hid (herdB_len (d := d) (by omega))
    rw [c2] at a2
    clear c3
    go_enter Tryd.func83, Tryd.ntmps83
    go_wp2_with (first | (refine wpList_get1 rfl _ _ rfl _ _ rfl hM 0 rfl (cellTab _ rfl) (by omega) _ a1 ?_) | (refine wpList_gget1 ?_ _ _ rfl _ _ rfl hM 0 rfl (cellTab _ rfl) (by omega) _ a2 ?_; kernel_rfl) | (refine wpList_gget1 ?_ _ _ rfl _ _ rfl hM 0 rfl (cellTab _ rfl) (by omega) _ a3 ?_; kernel_rfl))
    go_ret
    rw [HZ.out]
    exact ⟨rfl, hM.below⟩
  have Hc2 := Lib.hid c2
  have Hc3 := Lib.hid c3
  rw [c2] at a2 hM
  rw [c3] at a3 hM
  obtain ⟨n, hn⟩ : ∃ n, d.n1 = n := ⟨_, rfl⟩
  have Hn := Lib.hid hn
  have hs' := HS.out
  have hx' := HX.out
  have hf' := HF.out
  rw [hn] at hs'
  rw [c2, hn] at hx'
  rw [c3, hn] at hf'
  have HS' := Lib.hid hs'
  have HX' := Lib.hid hx'
  have HF' := Lib.hid hf'
  rw [hn] at a1 a2 a3 d1 c1 hM
  clear c2 c3 hn hs' hx' hf' l1 l2 l3
  go_enter Tryd.func83, Tryd.ntmps83
  go_wp2_with (first | (refine wpList_get1 rfl _ _ rfl _ _ rfl hM 0 rfl (cellTab _ rfl) (by omega) _ a1 ?_) | (refine wpList_gget1 ?_ _ _ rfl _ _ rfl hM 0 rfl (cellTab _ rfl) (by omega) _ a2 ?_; kernel_rfl) | (refine wpList_gget1 ?_ _ _ rfl _ _ rfl hM 0 rfl (cellTab _ rfl) (by omega) _ a3 ?_; kernel_rfl))
  go_loopw [4] (fun i wr => ∃ k : Nat, k ≤ n ∧ i = .int .i64 k ∧ Hid (∀ j, j < k → goatB d j = true ∧ pairU d j j = true) ∧ Mem w [(bh, 3, hv), (b1, n, vStringS d.ss), (b2, n, vInt16S d.es), (b3, n, vUint16S d.fs)] wr) (fun i _ => n - (intOf i).toNat)
  case atStart => exact ⟨0, by omega, rfl, Lib.hid (fun j hj => absurd hj (by omega)), hM⟩
  case round =>
    clear hM
    obtain ⟨i, hi, rfl, hall, hM⟩ := hrel
    by_cases hlt : i < n
    · have l2 : (i : Int) < n := by omega
      have hid1 : i < d.n1 := by rw [Hn.out]; exact hlt
      have HI := Lib.hid hid1
      have e1 : vStringS d.ss i = .string (d.ss i) := rfl
      have e2 : vInt16S d.es i = .int .i16 (d.es i) := rfl
      have hxi := HX'.out i hlt
      have cx : IntKind.i64.wrap (d.es i) = d.es i := IntWalk.i64_in _ (by omega)
      have hfi := HF'.out i hlt
      obtain ⟨s, hs⟩ : ∃ s : Nat, d.fs i = s := ⟨(d.fs i).toNat, by omega⟩
      have e3 : vUint16S d.fs i = .int .u16 s := by rw [← hs]; rfl
      have hsi := HS'.out i hlt
      obtain ⟨t, ht⟩ : ∃ t, s / 2 ^ n = t := ⟨_, rfl⟩
      have es : (s : Int) / 2 ^ n = (t : Int) := by rw [← ht]; simp
      have hn0 : (0 : Int) ≤ n := by omega
      have hn1 : (n : Int) ≤ 16 := by omega
      have cu : IntKind.u64.wrap (n : Int) = n := IntWalk.u64_in _ (by omega)
      have htz : t = 0 ↔ d.fs i < 2 ^ d.n1 := by rw [← ht, shr_zero, Hn.out, hs]; exact ⟨fun h => by exact_mod_cast h, fun h => by exact_mod_cast h⟩
      have HTZ := Lib.hid htz
      have HARE := Lib.hid (fun (W : World) (x y : Nat) (hx : x < n) (hy : y < n) (hM : Mem w [(bh, 3, hv), (b1, n, vStringS d.ss), (b2, n, vInt16S d.es), (b3, n, vUint16S d.fs)] W) => l06Are_at d bh b3 n n n hv (vUint16S d.fs) a3 x y hx (Nat.le_refl _) (by omega) (HF'.out x hx) rfl W (hM.ats 0 _ _ _ rfl) (hM.ats 3 _ _ _ rfl))
      clear hid1 htz hs ht
      cases g1 : nameB (d.ss i)
      · have G1 := Lib.hid g1
        have HZ := Lib.hid (goat_1 HI.out g1)
        clear g1
        go_wp2_with (first | (refine wpList_get1 rfl _ _ rfl _ _ rfl hM 0 rfl (cellTab _ rfl) (by omega) _ a1 ?_) | (refine wpList_get1 rfl _ _ rfl _ _ rfl hM 1 rfl (cellTab _ rfl) (by omega) _ e1 ?_) | (go_at_call 113; refine (l06Name_any (d.ss i) hsi _).mono ?_; rintro e W' ⟨rfl, hb'⟩; rw [G1.out]; have hM' := hM.call hb'; clear hM hb'; have hM := hM'; clear hM'))
        go_ret
        rw [HZ.out]
        exact ⟨rfl, hM.below⟩
      have G1 := Lib.hid g1
      clear g1
      cases g2 : inB 0 100 (d.es i)
      · have G2 := Lib.hid g2
        have HZ := Lib.hid (goat_2 HI.out g2)
        clear g2
        go_wp2_with (first | (refine wpList_get1 rfl _ _ rfl _ _ rfl hM 0 rfl (cellTab _ rfl) (by omega) _ a1 ?_) | (refine wpList_get1 rfl _ _ rfl _ _ rfl hM 1 rfl (cellTab _ rfl) (by omega) _ e1 ?_) | (go_at_call 113; refine (l06Name_any (d.ss i) hsi _).mono ?_; rintro e W' ⟨rfl, hb'⟩; rw [G1.out]; have hM' := hM.call hb'; clear hM hb'; have hM := hM'; clear hM') | (refine wpList_gget1 ?_ _ _ rfl _ _ rfl hM 0 rfl (cellTab _ rfl) (by omega) _ a2 ?_; kernel_rfl) | (refine wpList_gget1 ?_ _ _ rfl _ _ rfl hM 2 rfl (cellTab _ rfl) (by omega) _ e2 ?_; kernel_rfl) | (go_at_call 93; refine (l00In_any (d.es i) 0 100 _).mono ?_; rintro e W' ⟨rfl, hb'⟩; rw [G2.out]; have hM' := hM.call hb'; clear hM hb'; have hM := hM'; clear hM'))
        go_ret
        rw [HZ.out]
        exact ⟨rfl, hM.below⟩
      have G2 := Lib.hid g2
      clear g2
      by_cases g3 : t = 0
      case neg =>
        have z1 : ((t : Int) != 0) = true := bne_iff_ne.2 (by omega)
        have z2 : ((t : Int) == 0) = false := beq_eq_false_iff_ne.2 (by omega)
        have z3 : ¬ (t : Int) = 0 := by omega
        have HZ := Lib.hid (goat_3 HI.out (fun h => g3 (HTZ.out.2 h)))
        clear g3
        go_wp2_with (first | (refine wpList_get1 rfl _ _ rfl _ _ rfl hM 0 rfl (cellTab _ rfl) (by omega) _ a1 ?_) | (refine wpList_get1 rfl _ _ rfl _ _ rfl hM 1 rfl (cellTab _ rfl) (by omega) _ e1 ?_) | (go_at_call 113; refine (l06Name_any (d.ss i) hsi _).mono ?_; rintro e W' ⟨rfl, hb'⟩; rw [G1.out]; have hM' := hM.call hb'; clear hM hb'; have hM := hM'; clear hM') | (refine wpList_gget1 ?_ _ _ rfl _ _ rfl hM 0 rfl (cellTab _ rfl) (by omega) _ a2 ?_; kernel_rfl) | (refine wpList_gget1 ?_ _ _ rfl _ _ rfl hM 2 rfl (cellTab _ rfl) (by omega) _ e2 ?_; kernel_rfl) | (go_at_call 93; refine (l00In_any (d.es i) 0 100 _).mono ?_; rintro e W' ⟨rfl, hb'⟩; rw [G2.out]; have hM' := hM.call hb'; clear hM hb'; have hM := hM'; clear hM') | (refine wpList_gget1 ?_ _ _ rfl _ _ rfl hM 0 rfl (cellTab _ rfl) (by omega) _ a3 ?_; kernel_rfl) | (refine wpList_gget1 ?_ _ _ rfl _ _ rfl hM 3 rfl (cellTab _ rfl) (by omega) _ e3 ?_; kernel_rfl))
        go_ret
        rw [HZ.out]
        exact ⟨rfl, hM.below⟩
      subst g3
      cases g4 : foe d i i
      case true =>
        have G4 := Lib.hid g4
        have HZ := Lib.hid (goat_4 HI.out g4)
        clear g4
        go_wp2_with (first | (refine wpList_get1 rfl _ _ rfl _ _ rfl hM 0 rfl (cellTab _ rfl) (by omega) _ a1 ?_) | (refine wpList_get1 rfl _ _ rfl _ _ rfl hM 1 rfl (cellTab _ rfl) (by omega) _ e1 ?_) | (go_at_call 113; refine (l06Name_any (d.ss i) hsi _).mono ?_; rintro e W' ⟨rfl, hb'⟩; rw [G1.out]; have hM' := hM.call hb'; clear hM hb'; have hM := hM'; clear hM') | (refine wpList_gget1 ?_ _ _ rfl _ _ rfl hM 0 rfl (cellTab _ rfl) (by omega) _ a2 ?_; kernel_rfl) | (refine wpList_gget1 ?_ _ _ rfl _ _ rfl hM 2 rfl (cellTab _ rfl) (by omega) _ e2 ?_; kernel_rfl) | (go_at_call 93; refine (l00In_any (d.es i) 0 100 _).mono ?_; rintro e W' ⟨rfl, hb'⟩; rw [G2.out]; have hM' := hM.call hb'; clear hM hb'; have hM := hM'; clear hM') | (refine wpList_gget1 ?_ _ _ rfl _ _ rfl hM 0 rfl (cellTab _ rfl) (by omega) _ a3 ?_; kernel_rfl) | (refine wpList_gget1 ?_ _ _ rfl _ _ rfl hM 3 rfl (cellTab _ rfl) (by omega) _ e3 ?_; kernel_rfl) | (go_at_call 114; refine (HARE.out _ i i hlt hlt hM).mono ?_; rintro e W' ⟨rfl, hb'⟩; rw [G4.out]; have hM' := hM.call hb'; clear hM hb'; have hM := hM'; clear hM'))
        go_ret
        rw [HZ.out]
        exact ⟨rfl, hM.below⟩
      have G4 := Lib.hid g4
      clear g4
      go_wp2_with (first | (refine wpList_get1 rfl _ _ rfl _ _ rfl hM 0 rfl (cellTab _ rfl) (by omega) _ a1 ?_) | (refine wpList_get1 rfl _ _ rfl _ _ rfl hM 1 rfl (cellTab _ rfl) (by omega) _ e1 ?_) | (go_at_call 113; refine (l06Name_any (d.ss i) hsi _).mono ?_; rintro e W' ⟨rfl, hb'⟩; rw [G1.out]; have hM' := hM.call hb'; clear hM hb'; have hM := hM'; clear hM') | (refine wpList_gget1 ?_ _ _ rfl _ _ rfl hM 0 rfl (cellTab _ rfl) (by omega) _ a2 ?_; kernel_rfl) | (refine wpList_gget1 ?_ _ _ rfl _ _ rfl hM 2 rfl (cellTab _ rfl) (by omega) _ e2 ?_; kernel_rfl) | (go_at_call 93; refine (l00In_any (d.es i) 0 100 _).mono ?_; rintro e W' ⟨rfl, hb'⟩; rw [G2.out]; have hM' := hM.call hb'; clear hM hb'; have hM := hM'; clear hM') | (refine wpList_gget1 ?_ _ _ rfl _ _ rfl hM 0 rfl (cellTab _ rfl) (by omega) _ a3 ?_; kernel_rfl) | (refine wpList_gget1 ?_ _ _ rfl _ _ rfl hM 3 rfl (cellTab _ rfl) (by omega) _ e3 ?_; kernel_rfl) | (go_at_call 114; refine (HARE.out _ i i hlt hlt hM).mono ?_; rintro e W' ⟨rfl, hb'⟩; rw [G4.out]; have hM' := hM.call hb'; clear hM hb'; have hM := hM'; clear hM'))
      go_loopw [5] (fun v wr => ∃ k : Nat, k ≤ i ∧ v = .int .i64 k ∧ Hid (∀ j, j < k → d.ss j ≠ d.ss i ∧ foe d i j = foe d j i) ∧ Mem w [(bh, 3, hv), (b1, n, vStringS d.ss), (b2, n, vInt16S d.es), (b3, n, vUint16S d.fs)] wr) (fun v _ => i - (intOf v).toNat)
      case atStart => exact ⟨0, by omega, rfl, Lib.hid (fun j hj => absurd hj (by omega)), hM⟩
      case round =>
        clear hM
        obtain ⟨k, hk, rfl, hall2, hM⟩ := hrel
        by_cases hki : k < i
        · have l3 : (k : Int) < i := by omega
          have hkn : k < n := by omega
          have lkn : (k : Int) < n := by omega
          have e1k : vStringS d.ss k = .string (d.ss k) := rfl
          obtain ⟨x, hx⟩ : ∃ x, d.ss k = x := ⟨_, rfl⟩
          obtain ⟨y, hy⟩ : ∃ y, d.ss i = y := ⟨_, rfl⟩
          rw [hx] at e1k
          rw [hy] at e1
          have Hx := Lib.hid hx
          have Hy := Lib.hid hy
          clear hx hy
          by_cases hxy : x = y
          · have HZ := Lib.hid (goat_5 (d := d) (i := i) (k := k) HI.out hki (fun h => h.1 (by rw [Hx.out, Hy.out, hxy])))
            subst hxy
            go_wp2
            ((try simp only [Act.put, List.setIfInBounds_toArray, List.set_cons_succ, List.set_cons_zero]); refine wp_region_mem (by kernel_rfl) (by kernel_rfl) hM ?_; clear hM; (repeat (first | go_big_quiet_skip | (go_big_quiet_want; first | (refine quiet_get1 _ _ rfl _ _ rfl 0 rfl (cellTab _ rfl) (by omega) _ (a1) ?_; (simp only [Act.put, List.setIfInBounds_toArray, List.set_cons_succ, List.set_cons_zero]); go_big_quiet_on) | (refine quiet_get1 _ _ rfl _ _ rfl 1 rfl (cellTab _ rfl) (by omega) _ (e1k) ?_; (simp only [Act.put, List.setIfInBounds_toArray, List.set_cons_succ, List.set_cons_zero]); go_big_quiet_on) | (refine quiet_get1 _ _ rfl _ _ rfl 1 rfl (cellTab _ rfl) (by omega) _ (e1) ?_; (simp only [Act.put, List.setIfInBounds_toArray, List.set_cons_succ, List.set_cons_zero]); go_big_quiet_on) | (refine quiet_val ?_; apply Exists.intro; refine ⟨fun W => ?_, ?_⟩; (go_simp; (try simp only [BEq.rfl, if_true, Bool.false_eq_true, if_false]); rfl); (simp only [Act.put, List.setIfInBounds_toArray, List.set_cons_succ, List.set_cons_zero]); go_big_quiet_on)))); (with_reducible refine wpQuiet_nil ?_); intro W' hM)
            go_wp2
            go_ret
            rw [HZ.out]
            exact ⟨rfl, hM.below⟩
          have hne := toList_ne hxy
          obtain ⟨p, hp⟩ : ∃ p, foe d i k = p := ⟨_, rfl⟩
          obtain ⟨q, hq⟩ : ∃ q, foe d k i = q := ⟨_, rfl⟩
          have HP := Lib.hid hp
          have HQ := Lib.hid hq
          clear hp hq
          by_cases hpq : p = q
          case neg =>
            have HZ := Lib.hid (goat_5 (d := d) (i := i) (k := k) HI.out hki (fun h => hpq (by rw [← HP.out, ← HQ.out]; exact h.2)))
            clear hxy
            cases p <;> cases q <;> first | exact absurd rfl hpq | skip
            all_goals clear hpq
            · go_wp2
              ((try simp only [Act.put, List.setIfInBounds_toArray, List.set_cons_succ, List.set_cons_zero]); refine wp_region_mem (by kernel_rfl) (by kernel_rfl) hM ?_; clear hM; (repeat (first | go_big_quiet_skip | (go_big_quiet_want; first | (refine quiet_get1 _ _ rfl _ _ rfl 0 rfl (cellTab _ rfl) (by omega) _ (a1) ?_; (simp only [Act.put, List.setIfInBounds_toArray, List.set_cons_succ, List.set_cons_zero]); go_big_quiet_on) | (refine quiet_get1 _ _ rfl _ _ rfl 1 rfl (cellTab _ rfl) (by omega) _ (e1k) ?_; (simp only [Act.put, List.setIfInBounds_toArray, List.set_cons_succ, List.set_cons_zero]); go_big_quiet_on) | (refine quiet_get1 _ _ rfl _ _ rfl 1 rfl (cellTab _ rfl) (by omega) _ (e1) ?_; (simp only [Act.put, List.setIfInBounds_toArray, List.set_cons_succ, List.set_cons_zero]); go_big_quiet_on) | (refine quiet_call ?_; apply Exists.intro; apply Exists.intro; apply Exists.intro; refine ⟨fun W => ?_, fun W hM => ?_, ?_⟩; (go_simp; exact ⟨rfl, rfl⟩); (with_reducible exact HARE.out W i k hlt hkn hM); (simp only [HP.out]); (simp only [Act.put, List.setIfInBounds_toArray, List.set_cons_succ, List.set_cons_zero]); go_big_quiet_on) | (refine quiet_call ?_; apply Exists.intro; apply Exists.intro; apply Exists.intro; refine ⟨fun W => ?_, fun W hM => ?_, ?_⟩; (go_simp; exact ⟨rfl, rfl⟩); (with_reducible exact HARE.out W k i hkn hlt hM); (simp only [HQ.out]); (simp only [Act.put, List.setIfInBounds_toArray, List.set_cons_succ, List.set_cons_zero]); go_big_quiet_on) | (refine quiet_val ?_; apply Exists.intro; refine ⟨fun W => ?_, ?_⟩; (go_simp; (try simp only [hne, if_true, Bool.false_eq_true, if_false]); rfl); (simp only [Act.put, List.setIfInBounds_toArray, List.set_cons_succ, List.set_cons_zero]); go_big_quiet_on)))); (with_reducible refine wpQuiet_nil ?_); intro W' hM)
              go_wp2
              go_ret
              rw [HZ.out]
              exact ⟨rfl, hM.below⟩
            · go_wp2
              ((try simp only [Act.put, List.setIfInBounds_toArray, List.set_cons_succ, List.set_cons_zero]); refine wp_region_mem (by kernel_rfl) (by kernel_rfl) hM ?_; clear hM; (repeat (first | go_big_quiet_skip | (go_big_quiet_want; first | (refine quiet_get1 _ _ rfl _ _ rfl 0 rfl (cellTab _ rfl) (by omega) _ (a1) ?_; (simp only [Act.put, List.setIfInBounds_toArray, List.set_cons_succ, List.set_cons_zero]); go_big_quiet_on) | (refine quiet_get1 _ _ rfl _ _ rfl 1 rfl (cellTab _ rfl) (by omega) _ (e1k) ?_; (simp only [Act.put, List.setIfInBounds_toArray, List.set_cons_succ, List.set_cons_zero]); go_big_quiet_on) | (refine quiet_get1 _ _ rfl _ _ rfl 1 rfl (cellTab _ rfl) (by omega) _ (e1) ?_; (simp only [Act.put, List.setIfInBounds_toArray, List.set_cons_succ, List.set_cons_zero]); go_big_quiet_on) | (refine quiet_call ?_; apply Exists.intro; apply Exists.intro; apply Exists.intro; refine ⟨fun W => ?_, fun W hM => ?_, ?_⟩; (go_simp; exact ⟨rfl, rfl⟩); (with_reducible exact HARE.out W i k hlt hkn hM); (simp only [HP.out]); (simp only [Act.put, List.setIfInBounds_toArray, List.set_cons_succ, List.set_cons_zero]); go_big_quiet_on) | (refine quiet_call ?_; apply Exists.intro; apply Exists.intro; apply Exists.intro; refine ⟨fun W => ?_, fun W hM => ?_, ?_⟩; (go_simp; exact ⟨rfl, rfl⟩); (with_reducible exact HARE.out W k i hkn hlt hM); (simp only [HQ.out]); (simp only [Act.put, List.setIfInBounds_toArray, List.set_cons_succ, List.set_cons_zero]); go_big_quiet_on) | (refine quiet_val ?_; apply Exists.intro; refine ⟨fun W => ?_, ?_⟩; (go_simp; (try simp only [hne, if_true, Bool.false_eq_true, if_false]); rfl); (simp only [Act.put, List.setIfInBounds_toArray, List.set_cons_succ, List.set_cons_zero]); go_big_quiet_on)))); (with_reducible refine wpQuiet_nil ?_); intro W' hM)
              go_wp2
              go_ret
              rw [HZ.out]
              exact ⟨rfl, hM.below⟩
          have HB := Lib.hid (fun j (hj : j < k + 1) => show d.ss j ≠ d.ss i ∧ foe d i j = foe d j i from by
            by_cases e : j = k
            · rw [e, Hx.out, Hy.out, HP.out, HQ.out]; exact ⟨hxy, hpq⟩
            · exact hall2.out j (by omega))
          subst hpq
          clear hxy
          cases p
          · go_wp2
            ((try simp only [Act.put, List.setIfInBounds_toArray, List.set_cons_succ, List.set_cons_zero]); refine wp_region_mem (by kernel_rfl) (by kernel_rfl) hM ?_; clear hM; (repeat (first | go_big_quiet_skip | (go_big_quiet_want; first | (refine quiet_get1 _ _ rfl _ _ rfl 0 rfl (cellTab _ rfl) (by omega) _ (a1) ?_; (simp only [Act.put, List.setIfInBounds_toArray, List.set_cons_succ, List.set_cons_zero]); go_big_quiet_on) | (refine quiet_get1 _ _ rfl _ _ rfl 1 rfl (cellTab _ rfl) (by omega) _ (e1k) ?_; (simp only [Act.put, List.setIfInBounds_toArray, List.set_cons_succ, List.set_cons_zero]); go_big_quiet_on) | (refine quiet_get1 _ _ rfl _ _ rfl 1 rfl (cellTab _ rfl) (by omega) _ (e1) ?_; (simp only [Act.put, List.setIfInBounds_toArray, List.set_cons_succ, List.set_cons_zero]); go_big_quiet_on) | (refine quiet_call ?_; apply Exists.intro; apply Exists.intro; apply Exists.intro; refine ⟨fun W => ?_, fun W hM => ?_, ?_⟩; (go_simp; exact ⟨rfl, rfl⟩); (with_reducible exact HARE.out W i k hlt hkn hM); (simp only [HP.out]); (simp only [Act.put, List.setIfInBounds_toArray, List.set_cons_succ, List.set_cons_zero]); go_big_quiet_on) | (refine quiet_call ?_; apply Exists.intro; apply Exists.intro; apply Exists.intro; refine ⟨fun W => ?_, fun W hM => ?_, ?_⟩; (go_simp; exact ⟨rfl, rfl⟩); (with_reducible exact HARE.out W k i hkn hlt hM); (simp only [HQ.out]); (simp only [Act.put, List.setIfInBounds_toArray, List.set_cons_succ, List.set_cons_zero]); go_big_quiet_on) | (refine quiet_val ?_; apply Exists.intro; refine ⟨fun W => ?_, ?_⟩; (go_simp; (try simp only [hne, if_true, Bool.false_eq_true, if_false]); rfl); (simp only [Act.put, List.setIfInBounds_toArray, List.set_cons_succ, List.set_cons_zero]); go_big_quiet_on)))); (with_reducible refine wpQuiet_nil ?_); intro W' hM)
            go_wp2
            go_roundw
            case rel => exact ⟨k + 1, by omega, by go_num, HB, hM⟩
            case measure => simp [intOf]; omega
          · go_wp2
            ((try simp only [Act.put, List.setIfInBounds_toArray, List.set_cons_succ, List.set_cons_zero]); refine wp_region_mem (by kernel_rfl) (by kernel_rfl) hM ?_; clear hM; (repeat (first | go_big_quiet_skip | (go_big_quiet_want; first | (refine quiet_get1 _ _ rfl _ _ rfl 0 rfl (cellTab _ rfl) (by omega) _ (a1) ?_; (simp only [Act.put, List.setIfInBounds_toArray, List.set_cons_succ, List.set_cons_zero]); go_big_quiet_on) | (refine quiet_get1 _ _ rfl _ _ rfl 1 rfl (cellTab _ rfl) (by omega) _ (e1k) ?_; (simp only [Act.put, List.setIfInBounds_toArray, List.set_cons_succ, List.set_cons_zero]); go_big_quiet_on) | (refine quiet_get1 _ _ rfl _ _ rfl 1 rfl (cellTab _ rfl) (by omega) _ (e1) ?_; (simp only [Act.put, List.setIfInBounds_toArray, List.set_cons_succ, List.set_cons_zero]); go_big_quiet_on) | (refine quiet_call ?_; apply Exists.intro; apply Exists.intro; apply Exists.intro; refine ⟨fun W => ?_, fun W hM => ?_, ?_⟩; (go_simp; exact ⟨rfl, rfl⟩); (with_reducible exact HARE.out W i k hlt hkn hM); (simp only [HP.out]); (simp only [Act.put, List.setIfInBounds_toArray, List.set_cons_succ, List.set_cons_zero]); go_big_quiet_on) | (refine quiet_call ?_; apply Exists.intro; apply Exists.intro; apply Exists.intro; refine ⟨fun W => ?_, fun W hM => ?_, ?_⟩; (go_simp; exact ⟨rfl, rfl⟩); (with_reducible exact HARE.out W k i hkn hlt hM); (simp only [HQ.out]); (simp only [Act.put, List.setIfInBounds_toArray, List.set_cons_succ, List.set_cons_zero]); go_big_quiet_on) | (refine quiet_val ?_; apply Exists.intro; refine ⟨fun W => ?_, ?_⟩; (go_simp; (try simp only [hne, if_true, Bool.false_eq_true, if_false]); rfl); (simp only [Act.put, List.setIfInBounds_toArray, List.set_cons_succ, List.set_cons_zero]); go_big_quiet_on)))); (with_reducible refine wpQuiet_nil ?_); intro W' hM)
            go_wp2
            go_roundw
            case rel => exact ⟨k + 1, by omega, by go_num, HB, hM⟩
            case measure => simp [intOf]; omega
        · obtain rfl : k = i := by omega
          have HG := Lib.hid (goat_ok (d := d) (i := k) G1.out G2.out (HTZ.out.1 (by trivial)) G4.out hall2.out)
          go_wp2
          go_roundw
          case rel => exact ⟨k + 1, by omega, by go_num, Lib.hid (fun j hj => by
            by_cases e : j = k
            · rw [e]; exact HG.out
            · exact hall.out j (by omega)), hM⟩
          case measure => simp [intOf]; omega
    · obtain rfl : i = n := by omega
      have HZ := Lib.hid (herdB_all (d := d) (by rw [Hn.out]; omega) Hc2.out Hc3.out (by rw [Hn.out]; exact hall.out))
      go_wp2
      go_ret
      rw [HZ.out]
      exact ⟨rfl, hM.below⟩
end Go.Proofs.YtcdpdcjdjcbhcaaDoor

/-
  spec.ValidHerd by contract.
-/
namespace Go.Proofs.YtcdpdcjdjcbhcaaDoor
open Go Go.RowKit Go.BigFrame

/-- A herd and its box. -/
theorem Mem.boxed {w : Base} {L : Blocks} {W : World} {bh b1 b2 b3 : Nat} {hv : Nat → Value} {d : Hd} (h : Mem w ((bh, 3, hv) :: (hdB d b1 b2 b3 ++ L)) W) : Mem W ((bh, 3, hv) :: hdB d b1 b2 b3) W :=
  (h.base (w' := Base.of W) (Below.refl _ _)).sub (fun i => i) (fun i p hi => by
    rcases i with _ | _ | _ | _ | i <;> simp [hdB] at hi ⊢ <;> exact hi) (by kernel_rfl)
end Go.Proofs.YtcdpdcjdjcbhcaaDoor

/-
  spec.l06Text, HerdText by contracts.
-/
namespace Go.Proofs.YtcdpdcjdjcbhcaaDoor
open Go Go.RowKit Go.BigFrame

set_option maxRecDepth 100000 in
set_option maxHeartbeats 8000000 in
theorem l06Text_any (d : Hd) (bh b1 b2 b3 : Nat) (hd : FitsH d) (hO : HerdOk d) (w : World) (hM0 : Mem w ((bh, 3, hdV d b1 b2 b3) :: hdB d b1 b2 b3) w) :
    Calls Tryd.prog 84 #[.pointer (some ⟨bh, 0, none⟩)] w fun e w' => e = .returned (.string (bs (catT (lineW d) d.n1))) ∧ Below w.heap.size w w' := by
  have hM := hM0
  simp only [hdB] at hM
  have h14 := hO.n
  have a0 : hdV d b1 b2 b3 0 = .slice (some ⟨b1, 0, none⟩) d.n1 d.n1 := rfl
  have a1 : hdV d b1 b2 b3 1 = .slice (some ⟨b2, 0, none⟩) d.n1 d.n1 := by rw [← hO.l2]; rfl
  have a3 : hdV d b1 b2 b3 2 = .slice (some ⟨b3, 0, none⟩) d.n3 d.n3 := rfl
  have HO := Lib.hid hO
  have HFF := Lib.hid hd.f
  have HL := Lib.hid (show ∀ k, k ≤ d.n1 → (catT (lineW d) k).length ≤ 14 * 160 from fun k hk => by
    have h1 := catT_len (f := lineW d) (m := 160) k (fun j hj => lineW_len hO (by omega))
    have h2 : k * 160 ≤ 14 * 160 := Nat.mul_le_mul (by omega) (by omega)
    omega)
  have HARE := Lib.hid (fun (i k : Nat) (hi : i < d.n1) (hk : k < d.n1) (W : World) (hH : At W bh 3 (hdV d b1 b2 b3)) (h3 : At W b3 d.n3 (vUint16S d.fs)) => l06Are_at d bh b3 d.n3 d.n3 d.n3 (hdV d b1 b2 b3) (vUint16S d.fs) a3 i k (by rw [hO.l3]; exact hi) (Nat.le_refl _) (by omega) (hd.f i (by rw [hO.l3]; exact hi)) rfl W hH h3)
  obtain ⟨n2, hn2⟩ : ∃ q, d.n2 = q := ⟨_, rfl⟩
  obtain ⟨n3, hn3⟩ : ∃ q, d.n3 = q := ⟨_, rfl⟩
  have hl2 : d.n1 ≤ n2 := by rw [← hn2, hO.l2]; exact Nat.le_refl _
  rw [hn2, hn3] at hM
  rw [hn3] at HARE
  obtain ⟨n, hn⟩ : ∃ q, d.n1 = q := ⟨_, rfl⟩
  have Hn := Lib.hid hn
  rw [hn] at hM a0 a1 HL HARE h14 hl2 ⊢
  generalize hdV d b1 b2 b3 = hv at *
  clear hM0 hd hO hn2 hn3 a3 hn
  go_enter Tryd.func84, Tryd.ntmps84
  go_wp2
  go_loopw [3, 4] (fun s i wr => ∃ (k : Nat) (l : List UInt8), k ≤ n ∧ i = .int .i64 k ∧ s = .string (bs l) ∧ Hid (l = catT (lineW d) k) ∧ Mem w [(bh, 3, hv), (b1, n, vStringS d.ss), (b2, n2, vInt16S d.es), (b3, n3, vUint16S d.fs)] wr) (fun _ i _ => n - (intOf i).toNat)
  case atStart => exact ⟨0, [], by omega, rfl, rfl, Lib.hid rfl, hM⟩
  case round =>
    clear hM
    obtain ⟨k, l, hk, rfl, rfl, hl, hM⟩ := hrel
    by_cases hlt : k < n
    · have l2 : (k : Int) < n := by omega
      have hll := HL.out k hk
      rw [← hl.out] at hll
      have hkd : k < d.n1 := by rw [Hn.out]; exact hlt
      have hev := HO.out.eats k hkd
      have lu := nm_len HO.out hkd
      have lv := numB_len (n := d.es k) (by omega)
      have HE := Lib.hid (fun (W : World) => Decimal_any (d.es k) hev.1 (by omega) W)
      have e1 : vStringS d.ss k = .string (bs (nm d k)) := by unfold vStringS; rw [bs_nm]
      have e2 : vInt16S d.es k = .int .i16 (d.es k) := rfl
      have ce : IntKind.i64.wrap (d.es k) = d.es k := IntWalk.i64_in _ (by omega)
      obtain ⟨x, hx⟩ : ∃ x, d.es k = x := ⟨_, rfl⟩
      obtain ⟨u, hu⟩ : ∃ u, nm d k = u := ⟨_, rfl⟩
      obtain ⟨v, hv2⟩ : ∃ v, numB x = v := ⟨_, rfl⟩
      obtain ⟨s, hs⟩ : ∃ s, (d.fs k).toNat = s := ⟨_, rfl⟩
      have HW := Lib.hid (show lineW d k = u ++ [32] ++ v ++ tailT d (foeL s n) ++ [10] from by unfold lineW; rw [hu, hx, hv2, hs, Hn.out])
      have HFo := Lib.hid (show ∀ j, foe d k j = s.testBit j from fun j => by unfold foe; rw [hs])
      rw [hx] at HE lv e2 ce hev
      rw [hu] at e1 lu
      rw [hv2] at HE lv
      clear hx hu hv2 hs
      go_wp2_with (first | (refine wpList_get1 rfl _ _ rfl _ _ rfl hM 0 rfl (cellTab _ rfl) (by omega) _ a0 ?_) | (refine wpList_get1 rfl _ _ rfl _ _ rfl hM 0 rfl (cellTab _ rfl) (by omega) _ a1 ?_))
      ((try simp only [Act.put, List.setIfInBounds_toArray, List.set_cons_succ, List.set_cons_zero]); refine wp_region_mem (by kernel_rfl) (by kernel_rfl) hM ?_; clear hM; (repeat (first | go_big_quiet_skip | (go_big_quiet_want; first | (refine quiet_get1 _ _ rfl _ _ rfl 0 rfl (cellTab _ rfl) (by omega) _ (a0) ?_; (simp only [Act.put, List.setIfInBounds_toArray, List.set_cons_succ, List.set_cons_zero]); go_big_quiet_on) | (refine quiet_get1 _ _ rfl _ _ rfl 1 rfl (cellTab _ rfl) (by omega) _ (e1) ?_; (simp only [Act.put, List.setIfInBounds_toArray, List.set_cons_succ, List.set_cons_zero]); go_big_quiet_on) | (refine quiet_get1 _ _ rfl _ _ rfl 0 rfl (cellTab _ rfl) (by omega) _ (a1) ?_; (simp only [Act.put, List.setIfInBounds_toArray, List.set_cons_succ, List.set_cons_zero]); go_big_quiet_on) | (refine quiet_get1 _ _ rfl _ _ rfl 2 rfl (cellTab _ rfl) (by omega) _ (e2) ?_; (simp only [Act.put, List.setIfInBounds_toArray, List.set_cons_succ, List.set_cons_zero]); go_big_quiet_on) | (refine quiet_call ?_; apply Exists.intro; apply Exists.intro; apply Exists.intro; refine ⟨fun W => ?_, fun W hM => ?_, ?_⟩; (go_simp; exact ⟨rfl, rfl⟩); (with_reducible exact HE.out W); (simp only [Act.put, List.setIfInBounds_toArray, List.set_cons_succ, List.set_cons_zero]); go_big_quiet_on) | (refine quiet_val ⟨_, fun W => cat_op _ _ rfl _ _ rfl rfl (by simp only [List.length_append, List.length_cons, List.length_nil]; omega) W, ?_⟩; (simp only [Act.put, List.setIfInBounds_toArray, List.set_cons_succ, List.set_cons_zero]); go_big_quiet_on) | (refine quiet_val ?_; apply Exists.intro; refine ⟨fun W => ?_, ?_⟩; (go_simp; (try simp only [ce, if_true, Bool.false_eq_true, if_false]); rfl); (simp only [Act.put, List.setIfInBounds_toArray, List.set_cons_succ, List.set_cons_zero]); go_big_quiet_on)))); (with_reducible refine wpQuiet_nil ?_); intro W' hM)
      generalize hS3 : l ++ (u ++ [32] ++ v) = S3
      generalize hS2 : u ++ [32] ++ v = S2
      generalize hS1 : u ++ [32] = S1
      have HS3 := Lib.hid hS3
      have hS3l := congrArg List.length hS3
      simp only [List.length_append, List.length_cons, List.length_nil] at hS3l
      clear hS3 hS2 hS1
      go_wp2
      go_loopw [3, 5] (fun t i wr => ∃ (j : Nat) (m : List UInt8), j ≤ n ∧ i = .int .i64 j ∧ t = .string (bs m) ∧ Hid (m = S3 ++ tailT d (foeL s j)) ∧ Mem w [(bh, 3, hv), (b1, n, vStringS d.ss), (b2, n2, vInt16S d.es), (b3, n3, vUint16S d.fs)] wr) (fun _ i _ => n - (intOf i).toNat)
      case atStart => exact ⟨0, _, by omega, rfl, rfl, Lib.hid (by rw [foeL_zero, tailT_nil, ← HS3.out]; simp), hM⟩
      case round =>
        clear hM
        obtain ⟨j, m, hj, rfl, rfl, hm, hM⟩ := hrel
        have ht := foeT_len HO.out s (k := j) (by rw [Hn.out]; exact hj)
        have hml : m.length ≤ 14 * 160 + 40 + 14 * 9 := by
          rw [hm.out]
          simp only [List.length_append]; omega
        by_cases hjt : j < n
        · have l3 : (j : Int) < n := by omega
          have hjd : j < d.n1 := by rw [Hn.out]; exact hjt
          have lw := nm_len HO.out hjd
          have ej : vStringS d.ss j = .string (bs (nm d j)) := by unfold vStringS; rw [bs_nm]
          have HA := Lib.hid (HARE.out k j hlt hjt)
          rw [HFo.out j] at HA
          obtain ⟨q, hq⟩ : ∃ q, s.testBit j = q := ⟨_, rfl⟩
          obtain ⟨y, hy⟩ : ∃ y, nm d j = y := ⟨_, rfl⟩
          rw [hq] at HA
          rw [hy] at ej lw
          have Hq := Lib.hid hq
          have Hy := Lib.hid hy
          clear hq hy
          cases q
          · go_wp2_with (first | (refine wpList_get1 rfl _ _ rfl _ _ rfl hM 0 rfl (cellTab _ rfl) (by omega) _ a0 ?_) | (refine wpList_get1 rfl _ _ rfl _ _ rfl hM 0 rfl (cellTab _ rfl) (by omega) _ a1 ?_) | (go_at_call 114; (with_reducible refine (HA.out _ (hM.ats 0 _ _ _ rfl) (hM.ats 3 _ _ _ rfl)).mono ?_); rintro e W' ⟨rfl, hb'⟩; have hM' := hM.call hb'; clear hM hb'; have hM := hM'; clear hM'))
            go_roundw
            case rel => exact ⟨j + 1, _, by omega, by go_num, rfl, Lib.hid (by rw [foeL_no Hq.out]; exact hm.out), hM⟩
            case measure => simp [intOf]; omega
          · go_wp2_with (first | (refine wpList_get1 rfl _ _ rfl _ _ rfl hM 0 rfl (cellTab _ rfl) (by omega) _ a0 ?_) | (refine wpList_get1 rfl _ _ rfl _ _ rfl hM 0 rfl (cellTab _ rfl) (by omega) _ a1 ?_) | (refine wpList_get1 rfl _ _ rfl _ _ rfl hM 1 rfl (cellTab _ rfl) (by omega) _ ej ?_) | (go_at_call 114; (with_reducible refine (HA.out _ (hM.ats 0 _ _ _ rfl) (hM.ats 3 _ _ _ rfl)).mono ?_); rintro e W' ⟨rfl, hb'⟩; have hM' := hM.call hb'; clear hM hb'; have hM := hM'; clear hM') | (refine wpList_cat rfl _ _ rfl _ _ rfl rfl (by simp only [List.length_append, List.length_cons, List.length_nil]; omega) ?_))
            go_roundw
            case rel => exact ⟨j + 1, _, by omega, by go_num, rfl, Lib.hid (by rw [foeL_yes Hq.out, tailT_snoc, Hy.out, hm.out]; simp), hM⟩
            case measure => simp [intOf]; omega
        · obtain rfl : j = n := by omega
          go_wp2_with (first | (refine wpList_get1 rfl _ _ rfl _ _ rfl hM 0 rfl (cellTab _ rfl) (by omega) _ a0 ?_) | (refine wpList_get1 rfl _ _ rfl _ _ rfl hM 0 rfl (cellTab _ rfl) (by omega) _ a1 ?_) | (refine wpList_cat rfl _ _ rfl _ _ rfl rfl (by simp only [List.length_append, List.length_cons, List.length_nil]; omega) ?_))
          go_roundw
          case rel => exact ⟨k + 1, _, by omega, by go_num, rfl, Lib.hid (by rw [catT_succ, HW.out, ← hl.out, hm.out, ← HS3.out]; simp), hM⟩
          case measure => simp [intOf]; omega
    · obtain rfl : k = n := by omega
      go_wp2_with (first | (refine wpList_get1 rfl _ _ rfl _ _ rfl hM 0 rfl (cellTab _ rfl) (by omega) _ a0 ?_) | (refine wpList_get1 rfl _ _ rfl _ _ rfl hM 0 rfl (cellTab _ rfl) (by omega) _ a1 ?_))
      go_ret
      exact ⟨ret_bs hl.out, hM.below⟩

set_option maxRecDepth 100000 in
set_option maxHeartbeats 2000000 in
theorem specHerdText_any (d : Hd) (b1 b2 b3 : Nat) (hd : FitsH d) (w : World) (hM0 : Mem w (hdB d b1 b2 b3) w) :
    Calls Tryd.prog 37 #[.agg (arr 3 (hdV d b1 b2 b3))] w fun e w' => e = .returned (.string (bs (herdT d))) ∧ Below w.heap.size w w' := by
  have hM : Mem w (hdB d b1 b2 b3 ++ []) w := by rw [List.append_nil]; exact hM0
  have HB := Lib.hid (fun (bh : Nat) (W : World) hB => l06Ok_any d bh b1 b2 b3 hd W hB)
  have HTx := Lib.hid (fun (hO : HerdOk d) (bh : Nat) (W : World) hB => l06Text_any d bh b1 b2 b3 hd hO W hB)
  clear hM0
  have tk_x1 : True := trivial
  cases hb : herdB d
  · have Hp := Lib.hid (herdT_no hb)
    rw [hb] at HB
    clear hb
    go_enter Tryd.func37, Tryd.ntmps37
    go_wp2_with (first | (have _t := tk_x1; refine wpList_box rfl _ _ rfl _ _ rfl hM ?_; intro x1 W' hx1 hM'; clear hM tk_x1; have hM := hM'; clear hM') | (go_at_call 83; refine (HB.out x1 _ hM.boxed).mono ?_; rintro e W' ⟨rfl, hb'⟩; have hM' := hM.call hb'; clear hM hb'; have hM := hM'; clear hM'))
    go_ret
    exact ⟨ret_bs Hp.out.symm, hM.below⟩
  · have Hp := Lib.hid (herdT_yes hb)
    have hO := herdB_iff.1 hb
    rw [hb] at HB
    clear hb
    go_enter Tryd.func37, Tryd.ntmps37
    go_wp2_with (first | (have _t := tk_x1; refine wpList_box rfl _ _ rfl _ _ rfl hM ?_; intro x1 W' hx1 hM'; clear hM tk_x1; have hM := hM'; clear hM') | (go_at_call 83; refine (HB.out x1 _ hM.boxed).mono ?_; rintro e W' ⟨rfl, hb'⟩; have hM' := hM.call hb'; clear hM hb'; have hM := hM'; clear hM') | (go_at_call 84; refine (HTx.out hO x1 _ hM.boxed).mono ?_; rintro e W' ⟨rfl, hb'⟩; have hM' := hM.call hb'; clear hM hb'; have hM := hM'; clear hM'))
    go_ret
    exact ⟨ret_bs Hp.out.symm, hM.below⟩
end Go.Proofs.YtcdpdcjdjcbhcaaDoor

/-
  (impl.members).demand, impl.flockWith's deferred closure by contracts; two results in memory.
-/
namespace Go.Proofs.YtcdpdcjdjcbhcaaDoor
open Go Go.RowKit Go.BigFrame Go.Extern.Stop Go.Stop Go.Extern

/-- What stands for a goat that is none. -/
def strayV (g : Int) : Value := .iface 204 (.int .i64 g)

theorem results_cells {P : Program} {fn : Func} {p q : Tmp} {t u : TypeId} (h : fn.results = #[.cell p t, .cell q u]) (tmps : Array Value) {W : World} {b n : Nat} {f : Nat → Value} {b2 : Nat} {v : Value}
    (hp : tmps.getD p undef = .pointer (some ⟨b, 0, none⟩)) (hg : At W b n f) (hT : RowT P t n) (hq : tmps.getD q undef = .pointer (some ⟨b2, 0, none⟩)) (hv : W.cell? ⟨b2, 0, none⟩ = some v) (hU : CellT P u) :
    (results fn tmps).run P W = .ok (.tuple #[.agg (arr n f), v]) W := by
  have h1 : (asAddr (.pointer (some ⟨b, 0, none⟩))).run P W = .ok ⟨b, 0, none⟩ W := rfl
  have h2 : (asAddr (.pointer (some ⟨b2, 0, none⟩))).run P W = .ok ⟨b2, 0, none⟩ W := rfl
  have hp' : tmps[p]?.getD undef = .pointer (some ⟨b, 0, none⟩) := by simpa using hp
  have hq' : tmps[q]?.getD undef = .pointer (some ⟨b2, 0, none⟩) := by simpa using hq
  simp only [results, h]
  simp [Sem.run_bind, Result.andThen, hp', hq', h1, h2, loadVar_at hg hT, run_load_cell hU hv]

set_option maxRecDepth 100000 in
theorem demand_ok (a : Option Addr) (n c : Nat) (g : Int) (hg : 0 ≤ g ∧ g < n) (w : World) :
    Calls Tryd.prog 119 #[.slice a n c, .int .i64 g] w fun e w' => e = .returned (.tuple #[]) ∧ Below w.heap.size w w' := by
  have d0 : decide (g < 0) = false := decide_eq_false (by omega)
  have d1 : decide ((n : Int) ≤ g) = false := decide_eq_false (by omega)
  go_enter Tryd.func119, Tryd.ntmps119
  go_wp2
  go_end0
  exact ⟨rfl, Below.refl _ _⟩
set_option maxRecDepth 100000 in
theorem demand_no (a : Option Addr) (n c : Nat) (g : Int) (hg : ¬ (0 ≤ g ∧ g < n)) (w : World) :
    Calls Tryd.prog 119 #[.slice a n c, .int .i64 g] w fun e w' => e = .panicked [{ v := strayV g, recovered := false }] ∧ Below w.heap.size w w' := by
  by_cases h : g < 0
  · have d0 : decide (g < 0) = true := decide_eq_true h
    clear hg
    go_enter Tryd.func119, Tryd.ntmps119
    go_wp2
    exact ⟨rfl, rfl, Below.refl _ _⟩
  · have d0 : decide (g < 0) = false := decide_eq_false h
    have d1 : decide ((n : Int) ≤ g) = true := decide_eq_true (by omega)
    clear hg
    go_enter Tryd.func119, Tryd.ntmps119
    go_wp2
    exact ⟨rfl, rfl, Below.refl _ _⟩
theorem ta_stray (g : Int) (w : World) : (Instr.typeAssert (strayV g) 20 181 true).run Tryd.prog w = .ok (.tuple #[strayV g, .bool true]) w := by kernel_rfl
theorem ta_none (w : World) : (Instr.typeAssert .nilIface 20 181 true).run Tryd.prog w = .ok (.tuple #[.nilIface, .bool false]) w := by kernel_rfl

theorem method_refusal (g : Int) (w : World) : (Go.method 345 204 (.int .i64 g) "loop.example/g01345/impl.refusal").run Tryd.prog w = .ok (178, .int .i64 g) w := by kernel_rfl

set_option maxRecDepth 100000 in
theorem catch_idle (p : Nat) (w : World) :
    CallsD Tryd.prog 115 #[.pointer (some ⟨p, 0, none⟩)] .returning w fun e u' w' => e = .returned (.tuple #[]) ∧ u' = .returning ∧ w' = w := by
  have h1 := ta_none
  refine callsD_of_wpS Tryd.func115 rfl fun c₀ cs hu => ?_
  apply wpS_seq
  apply wpS_region
  simp [wpOpsS, go_sem, recoverD, hu, Tryd.ntmps115, Exit.thenS, h1]
  refine wpS_of_wp ?_
  go_wp2
  cases c₀
  simp_all [bodyPostS, results, Tryd.results115]

theorem refusal_any (g : Int) (w : World) : Calls Tryd.prog 178 #[.int .i64 g] w fun e w' => e = .returned (strayV g) ∧ w' = w := by
  go_enter Tryd.func178, Tryd.ntmps178
  go_wp2
  go_ret
  exact ⟨rfl, rfl⟩
set_option maxRecDepth 100000 in
set_option maxHeartbeats 1000000 in
theorem catch_stray (p : Nat) (v : Value) (g : Int) {b0 : Base} {L : Blocks} (w : World) (hM : Mem b0 ((p, 1, fun _ => v) :: L) w) (hp : b0.B ≤ p) :
    CallsD Tryd.prog 115 #[.pointer (some ⟨p, 0, none⟩)] (.panicking [{ v := strayV g, recovered := false }]) w fun e u' w' =>
      e = .returned (.tuple #[]) ∧ u' = .panicking [{ v := strayV g, recovered := true }] ∧ Mem b0 ((p, 1, fun _ => strayV g) :: L) w' := by
  have h1 := ta_stray g
  have h2 := method_refusal g
  refine callsD_of_wpS Tryd.func115 rfl fun c₀ cs hu => ?_
  apply wpS_seq
  apply wpS_region
  simp [wpOpsS, go_sem, recoverD, hu, Tryd.ntmps115, Exit.thenS, h1]
  obtain ⟨R, hR⟩ : ∃ R : Ending → FrameMode → World → Prop, (fun e u' w' => e = Ending.returned (Value.tuple #[]) ∧ u' = FrameMode.panicking [{ v := strayV g, recovered := true }] ∧ Mem b0 ((p, 1, fun _ => strayV g) :: L) w') = R := ⟨_, rfl⟩
  rw [hR]
  have HR := Lib.hid hR
  clear hR hu h1
  refine wpS_of_wp ?_
  simp only [Array.replicate, List.replicate, List.append_toArray, List.setIfInBounds_toArray, List.set_cons_succ, List.set_cons_zero, List.cons_append, List.nil_append]
  unfold strayV
  go_wp2_with (first | (go_at_call 178; refine (refusal_any g _).mono ?_; rintro e W' ⟨rfl, rfl⟩) | (refine wpList_set1 rfl _ _ _ rfl _ _ rfl (strayV g) rfl rfl hM 0 rfl hp (cellTab _ rfl) (by omega) ?_; intro W2 hM'; clear hM; have hM := hM'; clear hM'; simp only [List.set] at hM))
  have hM2 := hM.re 0 rfl (fun _ => strayV g) (fun k hk => by simp [upd]; omega)
  refine ⟨rfl, .panicking [{ v := strayV g, recovered := true }], rfl, .tuple #[], ?_, ?_⟩
  · simp [results, Tryd.results115]
  · rw [← HR.out]
    exact ⟨rfl, rfl, hM2⟩
end Go.Proofs.YtcdpdcjdjcbhcaaDoor

/-
  PLAIN LAWS over any program: in a drawn region with reads at any places, a store of one cell.
-/
namespace Go.Proofs.YtcdpdcjdjcbhcaaDoor
open Go Go.RowKit

section
variable {P : Program} {o : Oper} {a : Act} {w : Base} {L x : Blocks} {K : Act → (World → Prop) → Prop}
theorem step_set1 (ty : TypeId) (y z : Operand) (ho : o.op = .store ty y z) (b off : Nat) (hx : a.eval y = .pointer (some ⟨b, off, none⟩))
    (v : Value) (hy : a.eval z = v) (h1 : v.oneCell' = true) (i : Nat) {n : Nat} {f : Nat → Value} (hi : x[i]? = some (b, n, f)) (hb : w.B ≤ b) (hT : CellT P ty) (hle : off < n)
    (h : K (a.put o.dst undef) (Mem w ((x.set i (b, n, upd f off v)) ++ L))) : stepT P (Mem w L) o a (Mem w (x ++ L)) K := by
  obtain ⟨_, hm⟩ := hT
  have hil : i < x.length := (List.getElem?_eq_some_iff.1 hi).1
  have hi' : (x ++ L)[i]? = some (b, n, f) := by rw [List.getElem?_append_left hil]; exact hi
  intro W hM
  obtain ⟨t, ht⟩ := hM.ats i b n f hi'
  have hc := (hM.ats i b n f hi').cell hle
  have hf := (hM.ats i b n f hi').frozen off
  have hsz : (sizeOf ty).run P W = .ok 1 W := by
    cases hq : P.info? ty with
    | none => simp [hq] at hm
    | some i => simp [hq] at hm; simp [sizeOf, typeInfo, hq, hm]
  have hcells : v.cells = #[v] := by cases v <;> first | rfl | (simp [Value.oneCell'] at h1)
  have hadd : (⟨b, off, none⟩ : Addr).add 0 = ⟨b, off, none⟩ := by simp [Addr.add]
  have hs : (storeCells ⟨b, off, none⟩ [v] 0).run P W = .ok () (W.setRow b (arr n (upd f off v))) := by
    simp only [storeCells, Sem.run_bind, hadd, run_store P W _ v _ h1, hc]
    simp [hf, setCell_eq_setRow W b off _ t (0, 0) v ht, arr_set]
  have hM' := hM.setRow i hi' hb (upd f off v)
  rw [List.set_append_left _ _ hil] at hM'
  refine .inl ⟨undef, _, _, .inr ⟨?_, rfl⟩, kept_mem w L (x.set i (b, n, upd f off v)), hM', h⟩
  unfold execOp
  simp only [ho, hx, hy, Instr.storeAt, Instr.sureAddr, storeVar, Sem.run_bind, Sem.run_pure, Result.andThen_ok, hcells, hsz, List.size_toArray, List.length_cons, List.length_nil, Nat.zero_add, ne_eq, not_true_eq_false, if_false, hs]
/-- A load of a cell that every world of the class holds. -/
theorem b_old {K : Act → Prop} {C : World → Prop} (ty : TypeId) (y : Operand) (ho : o.op = .load ty y) (b off : Nat) (hx : a.eval y = .pointer (some ⟨b, off, none⟩)) (hT : CellT P ty) (v : Value) (hc : ∀ W, C W → W.cell? ⟨b, off, none⟩ = some v)
    (h : K (a.put o.dst v)) : qB P o a C K := by
  refine ⟨v, fun W hM => ?_, h⟩
  have hl := run_load_cell (P := P) hT (hc W hM)
  unfold Oper.quietAt execOp
  simp only [ho, hx, Instr.loadAt, Instr.sureAddr, Sem.run_bind, Sem.run_pure, Result.andThen_ok, hl]
  exact ⟨rfl, rfl⟩
end
end Go.Proofs.YtcdpdcjdjcbhcaaDoor

