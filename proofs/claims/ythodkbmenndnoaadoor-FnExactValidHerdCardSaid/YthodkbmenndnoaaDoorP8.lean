/-
  Several texts in one: HerdOk, ValidHerdS, ValidHerd.
-/
import Derived.Test.YthodkbmenndnoaaDoorP7
/-
  spec.l06Are, l06Ok, ValidHerd by contracts.
-/
namespace Go.Proofs.YthodkbmenndnoaaDoor
open Go Go.RowKit Go.BigFrame

theorem bit_div (s k : Nat) : s.testBit k = decide (s / 2 ^ k % 2 = 1) := Nat.testBit_eq_decide_div_mod_eq

set_option maxRecDepth 100000 in
set_option maxHeartbeats 1000000 in
/-- Whether two goats are foes, of a herd whose numbers of foes lie in a block. -/
theorem l06Are_at (d : Hd) (bh b3 n3 c3 N3 : Nat) (hv F3 : Nat → Value) (h2 : hv 2 = .slice (some ⟨b3, 0, none⟩) n3 c3) (i k : Nat) (hi : i < n3) (hN : n3 ≤ N3) (hk : k ≤ 16) (hf : 0 ≤ d.fs i ∧ d.fs i ≤ 65535) (hF : F3 i = .int .u16 (d.fs i)) (w : World) (hH : At w bh 3 hv) (h3 : At w b3 N3 F3) :
    Calls Tryd.prog 63 #[.pointer (some ⟨bh, 0, none⟩), .int .i64 i, .int .i64 k] w fun e w' => e = .returned (.bool (foe d i k)) ∧ Below w.heap.size w w' := by
  obtain ⟨s, hs⟩ : ∃ s : Nat, d.fs i = s := ⟨(d.fs i).toNat, by omega⟩
  have hs2 : s < 65536 := by omega
  have he : foe d i k = decide (s / 2 ^ k % 2 = 1) := by unfold foe; rw [hs]; exact bit_div s k
  rw [he]
  rw [hs] at hF
  obtain ⟨t, ht⟩ : ∃ t, s / 2 ^ k = t := ⟨_, rfl⟩
  have htle : t ≤ s := by rw [← ht]; exact Nat.div_le_self _ _
  rw [ht]
  have e1 : (s : Int) / 2 ^ k = (t : Int) := by rw [← ht]; simp
  have l2 : (i : Int) < n3 := by omega
  have hk0 : (0 : Int) ≤ k := by omega
  have hk1 : (k : Int) ≤ 16 := by omega
  have cu : IntKind.u64.wrap (k : Int) = k := IntWalk.u64_in _ (by omega)
  have ez : ((t : Int) % 2 == 1) = decide (t % 2 = 1) := by
    by_cases h : t % 2 = 1
    · rw [decide_eq_true h]; simp; omega
    · rw [decide_eq_false h]; simp; omega
  have HH := Lib.hid hH
  have H3 := Lib.hid h3
  clear hH h3 hs he ht hf
  go_enter Tryd.func63, Tryd.ntmps63
  go_wp2_with (first | (refine wpList_getAt1 rfl _ _ rfl _ _ rfl HH.out (cellTab _ rfl) (by omega) _ h2 ?_) | (refine wpList_getAt1 rfl _ _ rfl _ _ rfl H3.out (cellTab _ rfl) (by omega) _ hF ?_))
  go_ret
  exact ⟨rfl, Below.refl _ _⟩
theorem toList_ne {a b : ByteArray} (h : a ≠ b) : (a.toList == b.toList) = false := by
  rw [beq_eq_false_iff_ne, ByteArray.toList_eq, ByteArray.toList_eq]
  intro e
  apply h
  cases a; cases b
  simp only at e
  rw [Array.toList_inj.1 e]
theorem shr_zero {s n : Nat} : s / 2 ^ n = 0 ↔ s < 2 ^ n := by
  have hp : 0 < 2 ^ n := Nat.two_pow_pos n
  rw [Nat.div_eq_zero_iff]
  omega
theorem herdB_len {d : Hd} (h : ¬ (d.n1 ≤ 14 ∧ d.n2 = d.n1 ∧ d.n3 = d.n1)) : herdB d = false := by simp [herdB, h]
theorem goat_1 {d : Hd} {i : Nat} (hi : i < d.n1) (h : nameB (d.ss i) = false) : herdB d = false := herd_no hi (by simp [goatB, h])
theorem goat_2 {d : Hd} {i : Nat} (hi : i < d.n1) (h : inB 0 100 (d.es i) = false) : herdB d = false := herd_no hi (by have : ¬ (0 ≤ d.es i ∧ d.es i ≤ 100) := of_decide_eq_false h; simp [goatB, this])
theorem goat_3 {d : Hd} {i : Nat} (hi : i < d.n1) (h : ¬ d.fs i < 2 ^ d.n1) : herdB d = false := herd_no hi (by simp [goatB, h])
theorem goat_4 {d : Hd} {i : Nat} (hi : i < d.n1) (h : foe d i i = true) : herdB d = false := herd_no hi (by simp [goatB, h])
theorem goat_5 {d : Hd} {i k : Nat} (hi : i < d.n1) (hk : k < i) (h : ¬ (d.ss k ≠ d.ss i ∧ foe d i k = foe d k i)) : herdB d = false := herd_no hi (by rw [pair_no hk h, Bool.and_false])
theorem goat_ok {d : Hd} {i : Nat} (h1 : nameB (d.ss i) = true) (h2 : inB 0 100 (d.es i) = true) (h3 : d.fs i < 2 ^ d.n1) (h4 : foe d i i = false) (h5 : ∀ k, k < i → d.ss k ≠ d.ss i ∧ foe d i k = foe d k i) : goatB d i = true ∧ pairU d i i = true :=
  ⟨by have := inB_true h2; simp [goatB, h1, h3, h4, this], pairU_iff.2 h5⟩
theorem herdB_all {d : Hd} (h1 : d.n1 ≤ 14) (h2 : d.n2 = d.n1) (h3 : d.n3 = d.n1) (h : ∀ i, i < d.n1 → goatB d i = true ∧ pairU d i i = true) : herdB d = true := by
  simp [herdB, h1, h2, h3, herdU_iff.2 h]

set_option maxRecDepth 100000 in
set_option maxHeartbeats 8000000 in
theorem l06Ok_any (d : Hd) (bh b1 b2 b3 : Nat) (hd : FitsH d) (w : World) (hM0 : Mem w ((bh, 3, hdV d b1 b2 b3) :: hdB d b1 b2 b3) w) :
    Calls Tryd.prog 51 #[.pointer (some ⟨bh, 0, none⟩)] w fun e w' => e = .returned (.bool (herdB d)) ∧ Below w.heap.size w w' := by
  obtain ⟨l1, l2, l3, hs, he, hf⟩ := hd
  unfold maxLen at l1 l2 l3
  have HS := Lib.hid hs
  have HX := Lib.hid he
  have HF := Lib.hid hf
  have a1 : hdV d b1 b2 b3 0 = .slice (some ⟨b1, 0, none⟩) d.n1 d.n1 := rfl
  have a2 : hdV d b1 b2 b3 1 = .slice (some ⟨b2, 0, none⟩) d.n2 d.n2 := rfl
  have a3 : hdV d b1 b2 b3 2 = .slice (some ⟨b3, 0, none⟩) d.n3 d.n3 := rfl
  have hM := hM0
  simp only [hdB] at hM
  clear hM0 hs he hf
  generalize hdV d b1 b2 b3 = hv at a1 a2 a3 hM
  by_cases c1 : 14 < d.n1
  · have d1 : decide ((14 : Int) < d.n1) = true := decide_eq_true (by omega)
    have HZ := Lib.hid (herdB_len (d := d) (by omega))
    obtain ⟨n, hn⟩ : ∃ n, d.n1 = n := ⟨_, rfl⟩
    rw [hn] at a1 d1
    clear hn
    go_enter Tryd.func51, Tryd.ntmps51
    go_wp2_with (first | (refine wpList_get1 rfl _ _ rfl _ _ rfl hM 0 rfl (cellTab _ rfl) (by omega) _ a1 ?_))
    go_ret
    rw [HZ.out]
    exact ⟨rfl, hM.below⟩
  have d1 : decide ((14 : Int) < d.n1) = false := decide_eq_false (by omega)
  by_cases c2 : d.n2 = d.n1
  case neg =>
    have z1 : ((d.n2 : Int) != (d.n1 : Int)) = true := bne_iff_ne.2 (by omega)
    have z2 : ((d.n2 : Int) == (d.n1 : Int)) = false := beq_eq_false_iff_ne.2 (by omega)
    have z3 : ¬ (d.n2 : Int) = d.n1 := by omega
    have HZ := Lib.hid (herdB_len (d := d) (by omega))
    clear c2
    go_enter Tryd.func51, Tryd.ntmps51
    go_wp2_with (first | (refine wpList_get1 rfl _ _ rfl _ _ rfl hM 0 rfl (cellTab _ rfl) (by omega) _ a1 ?_) | (refine wpList_gget1 ?_ _ _ rfl _ _ rfl hM 0 rfl (cellTab _ rfl) (by omega) _ a2 ?_; kernel_rfl))
    go_ret
    rw [HZ.out]
    exact ⟨rfl, hM.below⟩
  by_cases c3 : d.n3 = d.n1
  case neg =>
    have z1 : ((d.n3 : Int) != (d.n1 : Int)) = true := bne_iff_ne.2 (by omega)
    have z2 : ((d.n3 : Int) == (d.n1 : Int)) = false := beq_eq_false_iff_ne.2 (by omega)
    have z3 : ¬ (d.n3 : Int) = d.n1 := by omega
    have HZ := Lib.hid (herdB_len (d := d) (by omega))
    rw [c2] at a2
    clear c3
    go_enter Tryd.func51, Tryd.ntmps51
    go_wp2_with (first | (refine wpList_get1 rfl _ _ rfl _ _ rfl hM 0 rfl (cellTab _ rfl) (by omega) _ a1 ?_) | (refine wpList_gget1 ?_ _ _ rfl _ _ rfl hM 0 rfl (cellTab _ rfl) (by omega) _ a2 ?_; kernel_rfl) | (refine wpList_gget1 ?_ _ _ rfl _ _ rfl hM 0 rfl (cellTab _ rfl) (by omega) _ a3 ?_; kernel_rfl))
    go_ret
    rw [HZ.out]
    exact ⟨rfl, hM.below⟩
  have Hc2 := Lib.hid c2
  have Hc3 := Lib.hid c3
  rw [c2] at a2 hM
  rw [c3] at a3 hM
  obtain ⟨n, hn⟩ : ∃ n, d.n1 = n := ⟨_, rfl⟩
  have Hn := Lib.hid hn
  have hs' := HS.out
  have hx' := HX.out
  have hf' := HF.out
  rw [hn] at hs'
  rw [c2, hn] at hx'
  rw [c3, hn] at hf'
  have HS' := Lib.hid hs'
  have HX' := Lib.hid hx'
  have HF' := Lib.hid hf'
  rw [hn] at a1 a2 a3 d1 c1 hM
  clear c2 c3 hn hs' hx' hf' l1 l2 l3
  go_enter Tryd.func51, Tryd.ntmps51
  go_wp2_with (first | (refine wpList_get1 rfl _ _ rfl _ _ rfl hM 0 rfl (cellTab _ rfl) (by omega) _ a1 ?_) | (refine wpList_gget1 ?_ _ _ rfl _ _ rfl hM 0 rfl (cellTab _ rfl) (by omega) _ a2 ?_; kernel_rfl) | (refine wpList_gget1 ?_ _ _ rfl _ _ rfl hM 0 rfl (cellTab _ rfl) (by omega) _ a3 ?_; kernel_rfl))
  go_loopw [4] (fun i wr => ∃ k : Nat, k ≤ n ∧ i = .int .i64 k ∧ Hid (∀ j, j < k → goatB d j = true ∧ pairU d j j = true) ∧ Mem w [(bh, 3, hv), (b1, n, vStringS d.ss), (b2, n, vInt16S d.es), (b3, n, vUint16S d.fs)] wr) (fun i _ => n - (intOf i).toNat)
  case atStart => exact ⟨0, by omega, rfl, Lib.hid (fun j hj => absurd hj (by omega)), hM⟩
  case round =>
    clear hM
    obtain ⟨i, hi, rfl, hall, hM⟩ := hrel
    by_cases hlt : i < n
    · have l2 : (i : Int) < n := by omega
      have hid1 : i < d.n1 := by rw [Hn.out]; exact hlt
      have HI := Lib.hid hid1
      have e1 : vStringS d.ss i = .string (d.ss i) := rfl
      have e2 : vInt16S d.es i = .int .i16 (d.es i) := rfl
      have hxi := HX'.out i hlt
      have cx : IntKind.i64.wrap (d.es i) = d.es i := IntWalk.i64_in _ (by omega)
      have hfi := HF'.out i hlt
      obtain ⟨s, hs⟩ : ∃ s : Nat, d.fs i = s := ⟨(d.fs i).toNat, by omega⟩
      have e3 : vUint16S d.fs i = .int .u16 s := by rw [← hs]; rfl
      have hsi := HS'.out i hlt
      obtain ⟨t, ht⟩ : ∃ t, s / 2 ^ n = t := ⟨_, rfl⟩
      have es : (s : Int) / 2 ^ n = (t : Int) := by rw [← ht]; simp
      have hn0 : (0 : Int) ≤ n := by omega
      have hn1 : (n : Int) ≤ 16 := by omega
      have cu : IntKind.u64.wrap (n : Int) = n := IntWalk.u64_in _ (by omega)
      have htz : t = 0 ↔ d.fs i < 2 ^ d.n1 := by rw [← ht, shr_zero, Hn.out, hs]; exact ⟨fun h => by exact_mod_cast h, fun h => by exact_mod_cast h⟩
      have HTZ := Lib.hid htz
      have HARE := Lib.hid (fun (W : World) (x y : Nat) (hx : x < n) (hy : y < n) (hM : Mem w [(bh, 3, hv), (b1, n, vStringS d.ss), (b2, n, vInt16S d.es), (b3, n, vUint16S d.fs)] W) => l06Are_at d bh b3 n n n hv (vUint16S d.fs) a3 x y hx (Nat.le_refl _) (by omega) (HF'.out x hx) rfl W (hM.ats 0 _ _ _ rfl) (hM.ats 3 _ _ _ rfl))
      clear hid1 htz hs ht
      cases g1 : nameB (d.ss i)
      · have G1 := Lib.hid g1
        have HZ := Lib.hid (goat_1 HI.out g1)
        clear g1
        go_wp2_with (first | (refine wpList_get1 rfl _ _ rfl _ _ rfl hM 0 rfl (cellTab _ rfl) (by omega) _ a1 ?_) | (refine wpList_get1 rfl _ _ rfl _ _ rfl hM 1 rfl (cellTab _ rfl) (by omega) _ e1 ?_) | (go_at_call 79; refine (l06Name_any (d.ss i) hsi _).mono ?_; rintro e W' ⟨rfl, hb'⟩; rw [G1.out]; have hM' := hM.call hb'; clear hM hb'; have hM := hM'; clear hM'))
        go_ret
        rw [HZ.out]
        exact ⟨rfl, hM.below⟩
      have G1 := Lib.hid g1
      clear g1
      cases g2 : inB 0 100 (d.es i)
      · have G2 := Lib.hid g2
        have HZ := Lib.hid (goat_2 HI.out g2)
        clear g2
        go_wp2_with (first | (refine wpList_get1 rfl _ _ rfl _ _ rfl hM 0 rfl (cellTab _ rfl) (by omega) _ a1 ?_) | (refine wpList_get1 rfl _ _ rfl _ _ rfl hM 1 rfl (cellTab _ rfl) (by omega) _ e1 ?_) | (go_at_call 79; refine (l06Name_any (d.ss i) hsi _).mono ?_; rintro e W' ⟨rfl, hb'⟩; rw [G1.out]; have hM' := hM.call hb'; clear hM hb'; have hM := hM'; clear hM') | (refine wpList_gget1 ?_ _ _ rfl _ _ rfl hM 0 rfl (cellTab _ rfl) (by omega) _ a2 ?_; kernel_rfl) | (refine wpList_gget1 ?_ _ _ rfl _ _ rfl hM 2 rfl (cellTab _ rfl) (by omega) _ e2 ?_; kernel_rfl) | (go_at_call 78; refine (l00In_any (d.es i) 0 100 _).mono ?_; rintro e W' ⟨rfl, hb'⟩; rw [G2.out]; have hM' := hM.call hb'; clear hM hb'; have hM := hM'; clear hM'))
        go_ret
        rw [HZ.out]
        exact ⟨rfl, hM.below⟩
      have G2 := Lib.hid g2
      clear g2
      by_cases g3 : t = 0
      case neg =>
        have z1 : ((t : Int) != 0) = true := bne_iff_ne.2 (by omega)
        have z2 : ((t : Int) == 0) = false := beq_eq_false_iff_ne.2 (by omega)
        have z3 : ¬ (t : Int) = 0 := by omega
        have HZ := Lib.hid (goat_3 HI.out (fun h => g3 (HTZ.out.2 h)))
        clear g3
        go_wp2_with (first | (refine wpList_get1 rfl _ _ rfl _ _ rfl hM 0 rfl (cellTab _ rfl) (by omega) _ a1 ?_) | (refine wpList_get1 rfl _ _ rfl _ _ rfl hM 1 rfl (cellTab _ rfl) (by omega) _ e1 ?_) | (go_at_call 79; refine (l06Name_any (d.ss i) hsi _).mono ?_; rintro e W' ⟨rfl, hb'⟩; rw [G1.out]; have hM' := hM.call hb'; clear hM hb'; have hM := hM'; clear hM') | (refine wpList_gget1 ?_ _ _ rfl _ _ rfl hM 0 rfl (cellTab _ rfl) (by omega) _ a2 ?_; kernel_rfl) | (refine wpList_gget1 ?_ _ _ rfl _ _ rfl hM 2 rfl (cellTab _ rfl) (by omega) _ e2 ?_; kernel_rfl) | (go_at_call 78; refine (l00In_any (d.es i) 0 100 _).mono ?_; rintro e W' ⟨rfl, hb'⟩; rw [G2.out]; have hM' := hM.call hb'; clear hM hb'; have hM := hM'; clear hM') | (refine wpList_gget1 ?_ _ _ rfl _ _ rfl hM 0 rfl (cellTab _ rfl) (by omega) _ a3 ?_; kernel_rfl) | (refine wpList_gget1 ?_ _ _ rfl _ _ rfl hM 3 rfl (cellTab _ rfl) (by omega) _ e3 ?_; kernel_rfl))
        go_ret
        rw [HZ.out]
        exact ⟨rfl, hM.below⟩
      subst g3
      cases g4 : foe d i i
      case true =>
        have G4 := Lib.hid g4
        have HZ := Lib.hid (goat_4 HI.out g4)
        clear g4
        go_wp2_with (first | (refine wpList_get1 rfl _ _ rfl _ _ rfl hM 0 rfl (cellTab _ rfl) (by omega) _ a1 ?_) | (refine wpList_get1 rfl _ _ rfl _ _ rfl hM 1 rfl (cellTab _ rfl) (by omega) _ e1 ?_) | (go_at_call 79; refine (l06Name_any (d.ss i) hsi _).mono ?_; rintro e W' ⟨rfl, hb'⟩; rw [G1.out]; have hM' := hM.call hb'; clear hM hb'; have hM := hM'; clear hM') | (refine wpList_gget1 ?_ _ _ rfl _ _ rfl hM 0 rfl (cellTab _ rfl) (by omega) _ a2 ?_; kernel_rfl) | (refine wpList_gget1 ?_ _ _ rfl _ _ rfl hM 2 rfl (cellTab _ rfl) (by omega) _ e2 ?_; kernel_rfl) | (go_at_call 78; refine (l00In_any (d.es i) 0 100 _).mono ?_; rintro e W' ⟨rfl, hb'⟩; rw [G2.out]; have hM' := hM.call hb'; clear hM hb'; have hM := hM'; clear hM') | (refine wpList_gget1 ?_ _ _ rfl _ _ rfl hM 0 rfl (cellTab _ rfl) (by omega) _ a3 ?_; kernel_rfl) | (refine wpList_gget1 ?_ _ _ rfl _ _ rfl hM 3 rfl (cellTab _ rfl) (by omega) _ e3 ?_; kernel_rfl) | (go_at_call 63; refine (HARE.out _ i i hlt hlt hM).mono ?_; rintro e W' ⟨rfl, hb'⟩; rw [G4.out]; have hM' := hM.call hb'; clear hM hb'; have hM := hM'; clear hM'))
        go_ret
        rw [HZ.out]
        exact ⟨rfl, hM.below⟩
      have G4 := Lib.hid g4
      clear g4
      go_wp2_with (first | (refine wpList_get1 rfl _ _ rfl _ _ rfl hM 0 rfl (cellTab _ rfl) (by omega) _ a1 ?_) | (refine wpList_get1 rfl _ _ rfl _ _ rfl hM 1 rfl (cellTab _ rfl) (by omega) _ e1 ?_) | (go_at_call 79; refine (l06Name_any (d.ss i) hsi _).mono ?_; rintro e W' ⟨rfl, hb'⟩; rw [G1.out]; have hM' := hM.call hb'; clear hM hb'; have hM := hM'; clear hM') | (refine wpList_gget1 ?_ _ _ rfl _ _ rfl hM 0 rfl (cellTab _ rfl) (by omega) _ a2 ?_; kernel_rfl) | (refine wpList_gget1 ?_ _ _ rfl _ _ rfl hM 2 rfl (cellTab _ rfl) (by omega) _ e2 ?_; kernel_rfl) | (go_at_call 78; refine (l00In_any (d.es i) 0 100 _).mono ?_; rintro e W' ⟨rfl, hb'⟩; rw [G2.out]; have hM' := hM.call hb'; clear hM hb'; have hM := hM'; clear hM') | (refine wpList_gget1 ?_ _ _ rfl _ _ rfl hM 0 rfl (cellTab _ rfl) (by omega) _ a3 ?_; kernel_rfl) | (refine wpList_gget1 ?_ _ _ rfl _ _ rfl hM 3 rfl (cellTab _ rfl) (by omega) _ e3 ?_; kernel_rfl) | (go_at_call 63; refine (HARE.out _ i i hlt hlt hM).mono ?_; rintro e W' ⟨rfl, hb'⟩; rw [G4.out]; have hM' := hM.call hb'; clear hM hb'; have hM := hM'; clear hM'))
      go_loopw [5] (fun v wr => ∃ k : Nat, k ≤ i ∧ v = .int .i64 k ∧ Hid (∀ j, j < k → d.ss j ≠ d.ss i ∧ foe d i j = foe d j i) ∧ Mem w [(bh, 3, hv), (b1, n, vStringS d.ss), (b2, n, vInt16S d.es), (b3, n, vUint16S d.fs)] wr) (fun v _ => i - (intOf v).toNat)
      case atStart => exact ⟨0, by omega, rfl, Lib.hid (fun j hj => absurd hj (by omega)), hM⟩
      case round =>
        clear hM
        obtain ⟨k, hk, rfl, hall2, hM⟩ := hrel
        by_cases hki : k < i
        · have l3 : (k : Int) < i := by omega
          have hkn : k < n := by omega
          have lkn : (k : Int) < n := by omega
          have e1k : vStringS d.ss k = .string (d.ss k) := rfl
          obtain ⟨x, hx⟩ : ∃ x, d.ss k = x := ⟨_, rfl⟩
          obtain ⟨y, hy⟩ : ∃ y, d.ss i = y := ⟨_, rfl⟩
          rw [hx] at e1k
          rw [hy] at e1
          have Hx := Lib.hid hx
          have Hy := Lib.hid hy
          clear hx hy
          by_cases hxy : x = y
          · have HZ := Lib.hid (goat_5 (d := d) (i := i) (k := k) HI.out hki (fun h => h.1 (by rw [Hx.out, Hy.out, hxy])))
            subst hxy
            go_wp2
            ((try simp only [Act.put, List.setIfInBounds_toArray, List.set_cons_succ, List.set_cons_zero]); refine wp_region_mem (by kernel_rfl) (by kernel_rfl) hM ?_; clear hM; (repeat (first | go_big_quiet_skip | (go_big_quiet_want; first | (refine quiet_get1 _ _ rfl _ _ rfl 0 rfl (cellTab _ rfl) (by omega) _ (a1) ?_; (simp only [Act.put, List.setIfInBounds_toArray, List.set_cons_succ, List.set_cons_zero]); go_big_quiet_on) | (refine quiet_get1 _ _ rfl _ _ rfl 1 rfl (cellTab _ rfl) (by omega) _ (e1k) ?_; (simp only [Act.put, List.setIfInBounds_toArray, List.set_cons_succ, List.set_cons_zero]); go_big_quiet_on) | (refine quiet_get1 _ _ rfl _ _ rfl 1 rfl (cellTab _ rfl) (by omega) _ (e1) ?_; (simp only [Act.put, List.setIfInBounds_toArray, List.set_cons_succ, List.set_cons_zero]); go_big_quiet_on) | (refine quiet_val ?_; apply Exists.intro; refine ⟨fun W => ?_, ?_⟩; (go_simp; (try simp only [BEq.rfl, if_true, Bool.false_eq_true, if_false]); rfl); (simp only [Act.put, List.setIfInBounds_toArray, List.set_cons_succ, List.set_cons_zero]); go_big_quiet_on)))); (with_reducible refine wpQuiet_nil ?_); intro W' hM)
            go_wp2
            go_ret
            rw [HZ.out]
            exact ⟨rfl, hM.below⟩
          have hne := toList_ne hxy
          obtain ⟨p, hp⟩ : ∃ p, foe d i k = p := ⟨_, rfl⟩
          obtain ⟨q, hq⟩ : ∃ q, foe d k i = q := ⟨_, rfl⟩
          have HP := Lib.hid hp
          have HQ := Lib.hid hq
          clear hp hq
          by_cases hpq : p = q
          case neg =>
            have HZ := Lib.hid (goat_5 (d := d) (i := i) (k := k) HI.out hki (fun h => hpq (by rw [← HP.out, ← HQ.out]; exact h.2)))
            clear hxy
            cases p <;> cases q <;> first | exact absurd rfl hpq | skip
            all_goals clear hpq
            · go_wp2
              ((try simp only [Act.put, List.setIfInBounds_toArray, List.set_cons_succ, List.set_cons_zero]); refine wp_region_mem (by kernel_rfl) (by kernel_rfl) hM ?_; clear hM; (repeat (first | go_big_quiet_skip | (go_big_quiet_want; first | (refine quiet_get1 _ _ rfl _ _ rfl 0 rfl (cellTab _ rfl) (by omega) _ (a1) ?_; (simp only [Act.put, List.setIfInBounds_toArray, List.set_cons_succ, List.set_cons_zero]); go_big_quiet_on) | (refine quiet_get1 _ _ rfl _ _ rfl 1 rfl (cellTab _ rfl) (by omega) _ (e1k) ?_; (simp only [Act.put, List.setIfInBounds_toArray, List.set_cons_succ, List.set_cons_zero]); go_big_quiet_on) | (refine quiet_get1 _ _ rfl _ _ rfl 1 rfl (cellTab _ rfl) (by omega) _ (e1) ?_; (simp only [Act.put, List.setIfInBounds_toArray, List.set_cons_succ, List.set_cons_zero]); go_big_quiet_on) | (refine quiet_call ?_; apply Exists.intro; apply Exists.intro; apply Exists.intro; refine ⟨fun W => ?_, fun W hM => ?_, ?_⟩; (go_simp; exact ⟨rfl, rfl⟩); (with_reducible exact HARE.out W i k hlt hkn hM); (simp only [HP.out]); (simp only [Act.put, List.setIfInBounds_toArray, List.set_cons_succ, List.set_cons_zero]); go_big_quiet_on) | (refine quiet_call ?_; apply Exists.intro; apply Exists.intro; apply Exists.intro; refine ⟨fun W => ?_, fun W hM => ?_, ?_⟩; (go_simp; exact ⟨rfl, rfl⟩); (with_reducible exact HARE.out W k i hkn hlt hM); (simp only [HQ.out]); (simp only [Act.put, List.setIfInBounds_toArray, List.set_cons_succ, List.set_cons_zero]); go_big_quiet_on) | (refine quiet_val ?_; apply Exists.intro; refine ⟨fun W => ?_, ?_⟩; (go_simp; (try simp only [hne, if_true, Bool.false_eq_true, if_false]); rfl); (simp only [Act.put, List.setIfInBounds_toArray, List.set_cons_succ, List.set_cons_zero]); go_big_quiet_on)))); (with_reducible refine wpQuiet_nil ?_); intro W' hM)
              go_wp2
              go_ret
              rw [HZ.out]
              exact ⟨rfl, hM.below⟩
            · go_wp2
              ((try simp only [Act.put, List.setIfInBounds_toArray, List.set_cons_succ, List.set_cons_zero]); refine wp_region_mem (by kernel_rfl) (by kernel_rfl) hM ?_; clear hM; (repeat (first | go_big_quiet_skip | (go_big_quiet_want; first | (refine quiet_get1 _ _ rfl _ _ rfl 0 rfl (cellTab _ rfl) (by omega) _ (a1) ?_; (simp only [Act.put, List.setIfInBounds_toArray, List.set_cons_succ, List.set_cons_zero]); go_big_quiet_on) | (refine quiet_get1 _ _ rfl _ _ rfl 1 rfl (cellTab _ rfl) (by omega) _ (e1k) ?_; (simp only [Act.put, List.setIfInBounds_toArray, List.set_cons_succ, List.set_cons_zero]); go_big_quiet_on) | (refine quiet_get1 _ _ rfl _ _ rfl 1 rfl (cellTab _ rfl) (by omega) _ (e1) ?_; (simp only [Act.put, List.setIfInBounds_toArray, List.set_cons_succ, List.set_cons_zero]); go_big_quiet_on) | (refine quiet_call ?_; apply Exists.intro; apply Exists.intro; apply Exists.intro; refine ⟨fun W => ?_, fun W hM => ?_, ?_⟩; (go_simp; exact ⟨rfl, rfl⟩); (with_reducible exact HARE.out W i k hlt hkn hM); (simp only [HP.out]); (simp only [Act.put, List.setIfInBounds_toArray, List.set_cons_succ, List.set_cons_zero]); go_big_quiet_on) | (refine quiet_call ?_; apply Exists.intro; apply Exists.intro; apply Exists.intro; refine ⟨fun W => ?_, fun W hM => ?_, ?_⟩; (go_simp; exact ⟨rfl, rfl⟩); (with_reducible exact HARE.out W k i hkn hlt hM); (simp only [HQ.out]); (simp only [Act.put, List.setIfInBounds_toArray, List.set_cons_succ, List.set_cons_zero]); go_big_quiet_on) | (refine quiet_val ?_; apply Exists.intro; refine ⟨fun W => ?_, ?_⟩; (go_simp; (try simp only [hne, if_true, Bool.false_eq_true, if_false]); rfl); (simp only [Act.put, List.setIfInBounds_toArray, List.set_cons_succ, List.set_cons_zero]); go_big_quiet_on)))); (with_reducible refine wpQuiet_nil ?_); intro W' hM)
              go_wp2
              go_ret
              rw [HZ.out]
              exact ⟨rfl, hM.below⟩
          have HB := Lib.hid (fun j (hj : j < k + 1) => show d.ss j ≠ d.ss i ∧ foe d i j = foe d j i from by
            by_cases e : j = k
            · rw [e, Hx.out, Hy.out, HP.out, HQ.out]; exact ⟨hxy, hpq⟩
            · exact hall2.out j (by omega))
          subst hpq
          clear hxy
          cases p
          · go_wp2
            ((try simp only [Act.put, List.setIfInBounds_toArray, List.set_cons_succ, List.set_cons_zero]); refine wp_region_mem (by kernel_rfl) (by kernel_rfl) hM ?_; clear hM; (repeat (first | go_big_quiet_skip | (go_big_quiet_want; first | (refine quiet_get1 _ _ rfl _ _ rfl 0 rfl (cellTab _ rfl) (by omega) _ (a1) ?_; (simp only [Act.put, List.setIfInBounds_toArray, List.set_cons_succ, List.set_cons_zero]); go_big_quiet_on) | (refine quiet_get1 _ _ rfl _ _ rfl 1 rfl (cellTab _ rfl) (by omega) _ (e1k) ?_; (simp only [Act.put, List.setIfInBounds_toArray, List.set_cons_succ, List.set_cons_zero]); go_big_quiet_on) | (refine quiet_get1 _ _ rfl _ _ rfl 1 rfl (cellTab _ rfl) (by omega) _ (e1) ?_; (simp only [Act.put, List.setIfInBounds_toArray, List.set_cons_succ, List.set_cons_zero]); go_big_quiet_on) | (refine quiet_call ?_; apply Exists.intro; apply Exists.intro; apply Exists.intro; refine ⟨fun W => ?_, fun W hM => ?_, ?_⟩; (go_simp; exact ⟨rfl, rfl⟩); (with_reducible exact HARE.out W i k hlt hkn hM); (simp only [HP.out]); (simp only [Act.put, List.setIfInBounds_toArray, List.set_cons_succ, List.set_cons_zero]); go_big_quiet_on) | (refine quiet_call ?_; apply Exists.intro; apply Exists.intro; apply Exists.intro; refine ⟨fun W => ?_, fun W hM => ?_, ?_⟩; (go_simp; exact ⟨rfl, rfl⟩); (with_reducible exact HARE.out W k i hkn hlt hM); (simp only [HQ.out]); (simp only [Act.put, List.setIfInBounds_toArray, List.set_cons_succ, List.set_cons_zero]); go_big_quiet_on) | (refine quiet_val ?_; apply Exists.intro; refine ⟨fun W => ?_, ?_⟩; (go_simp; (try simp only [hne, if_true, Bool.false_eq_true, if_false]); rfl); (simp only [Act.put, List.setIfInBounds_toArray, List.set_cons_succ, List.set_cons_zero]); go_big_quiet_on)))); (with_reducible refine wpQuiet_nil ?_); intro W' hM)
            go_wp2
            go_roundw
            case rel => exact ⟨k + 1, by omega, by go_num, HB, hM⟩
            case measure => simp [intOf]; omega
          · go_wp2
            ((try simp only [Act.put, List.setIfInBounds_toArray, List.set_cons_succ, List.set_cons_zero]); refine wp_region_mem (by kernel_rfl) (by kernel_rfl) hM ?_; clear hM; (repeat (first | go_big_quiet_skip | (go_big_quiet_want; first | (refine quiet_get1 _ _ rfl _ _ rfl 0 rfl (cellTab _ rfl) (by omega) _ (a1) ?_; (simp only [Act.put, List.setIfInBounds_toArray, List.set_cons_succ, List.set_cons_zero]); go_big_quiet_on) | (refine quiet_get1 _ _ rfl _ _ rfl 1 rfl (cellTab _ rfl) (by omega) _ (e1k) ?_; (simp only [Act.put, List.setIfInBounds_toArray, List.set_cons_succ, List.set_cons_zero]); go_big_quiet_on) | (refine quiet_get1 _ _ rfl _ _ rfl 1 rfl (cellTab _ rfl) (by omega) _ (e1) ?_; (simp only [Act.put, List.setIfInBounds_toArray, List.set_cons_succ, List.set_cons_zero]); go_big_quiet_on) | (refine quiet_call ?_; apply Exists.intro; apply Exists.intro; apply Exists.intro; refine ⟨fun W => ?_, fun W hM => ?_, ?_⟩; (go_simp; exact ⟨rfl, rfl⟩); (with_reducible exact HARE.out W i k hlt hkn hM); (simp only [HP.out]); (simp only [Act.put, List.setIfInBounds_toArray, List.set_cons_succ, List.set_cons_zero]); go_big_quiet_on) | (refine quiet_call ?_; apply Exists.intro; apply Exists.intro; apply Exists.intro; refine ⟨fun W => ?_, fun W hM => ?_, ?_⟩; (go_simp; exact ⟨rfl, rfl⟩); (with_reducible exact HARE.out W k i hkn hlt hM); (simp only [HQ.out]); (simp only [Act.put, List.setIfInBounds_toArray, List.set_cons_succ, List.set_cons_zero]); go_big_quiet_on) | (refine quiet_val ?_; apply Exists.intro; refine ⟨fun W => ?_, ?_⟩; (go_simp; (try simp only [hne, if_true, Bool.false_eq_true, if_false]); rfl); (simp only [Act.put, List.setIfInBounds_toArray, List.set_cons_succ, List.set_cons_zero]); go_big_quiet_on)))); (with_reducible refine wpQuiet_nil ?_); intro W' hM)
            go_wp2
            go_roundw
            case rel => exact ⟨k + 1, by omega, by go_num, HB, hM⟩
            case measure => simp [intOf]; omega
        · obtain rfl : k = i := by omega
          have HG := Lib.hid (goat_ok (d := d) (i := k) G1.out G2.out (HTZ.out.1 (by trivial)) G4.out hall2.out)
          go_wp2
          go_roundw
          case rel => exact ⟨k + 1, by omega, by go_num, Lib.hid (fun j hj => by
            by_cases e : j = k
            · rw [e]; exact HG.out
            · exact hall.out j (by omega)), hM⟩
          case measure => simp [intOf]; omega
    · obtain rfl : i = n := by omega
      have HZ := Lib.hid (herdB_all (d := d) (by rw [Hn.out]; omega) Hc2.out Hc3.out (by rw [Hn.out]; exact hall.out))
      go_wp2
      go_ret
      rw [HZ.out]
      exact ⟨rfl, hM.below⟩
end Go.Proofs.YthodkbmenndnoaaDoor

/-
  spec.ValidHerd by contract.
-/
namespace Go.Proofs.YthodkbmenndnoaaDoor
open Go Go.RowKit Go.BigFrame

/-- A herd and its box. -/
theorem Mem.boxed {w : Base} {L : Blocks} {W : World} {bh b1 b2 b3 : Nat} {hv : Nat → Value} {d : Hd} (h : Mem w ((bh, 3, hv) :: (hdB d b1 b2 b3 ++ L)) W) : Mem W ((bh, 3, hv) :: hdB d b1 b2 b3) W :=
  (h.base (w' := Base.of W) (Below.refl _ _)).sub (fun i => i) (fun i p hi => by
    rcases i with _ | _ | _ | _ | i <;> simp [hdB] at hi ⊢ <;> exact hi) (by kernel_rfl)
set_option maxRecDepth 100000 in
set_option maxHeartbeats 1000000 in
theorem specValidHerd_any (d : Hd) (b1 b2 b3 : Nat) (hd : FitsH d) (w : World) (hM0 : Mem w (hdB d b1 b2 b3) w) :
    Calls Tryd.prog 16 #[.agg (arr 3 (hdV d b1 b2 b3))] w fun e w' => e = .returned (.bool (herdB d)) ∧ Below w.heap.size w w' := by
  have hM : Mem w (hdB d b1 b2 b3 ++ []) w := by rw [List.append_nil]; exact hM0
  clear hM0
  have tk_x1 : True := trivial
  go_enter Tryd.func16, Tryd.ntmps16
  go_wp2_with (first | (have _t := tk_x1; refine wpList_box rfl _ _ rfl _ _ rfl hM ?_; intro x1 W' hx1 hM'; clear hM tk_x1; have hM := hM'; clear hM') | (go_at_call 51; (with_reducible refine (l06Ok_any d x1 b1 b2 b3 hd _ hM.boxed).mono ?_); rintro e W' ⟨rfl, hb'⟩; have hM' := hM.call hb'; clear hM hb'; have hM := hM'; clear hM'))
  go_ret
  exact ⟨rfl, hM.below⟩
end Go.Proofs.YthodkbmenndnoaaDoor

/-
  laws.FnExactValidHerd returns true.
-/
namespace Go.Proofs.YthodkbmenndnoaaDoor
open Go Go.RowKit Go.BigFrame Go.ChangeShapes Go.WideShapes Go.Deep

set_option maxRecDepth 100000 in
set_option maxHeartbeats 4000000 in
theorem lawValidHerd_any {r : Addr} (v : Value) (d : Hd) (hd : FitsH d) (w : World) (hE : HEnv r w) (h : HerdArg w v d) :
    Calls Tryd.prog 3 #[v] w fun e w' => e = .returned (.bool true) ∧ Below w.heap.size w w' := by
  have hM := Mem.nil w
  have hv : ∃ f, v = .agg (arr 3 f) := by obtain ⟨v1, v2, v3, e, -⟩ := h; exact ⟨_, e⟩
  obtain ⟨f1, rfl⟩ := hv
  have HG := Lib.hid h
  have HE := Lib.hid hE
  clear h hE
  have tk_b1 : True := trivial; have tk_q1 : True := trivial
  go_enter Tryd.func3, Tryd.ntmps3
  go_wp2_with (first | (have _t := tk_b1; refine wpList_box rfl _ _ rfl _ _ rfl hM ?_; intro b1 W' hb1 hM'; clear hM tk_b1; have hM := hM'; clear hM') | (have _t := tk_q1; refine wpList_get rfl _ _ rfl _ _ rfl hM 0 rfl (rowTab _ _ rfl) (by omega) ?_; simp only [Nat.zero_add]; clear tk_q1))
  go_at_call 15
  refine (szHerd_any _ d 1048576 hd (by omega) (by omega) _ (HG.out.below hM.below)).mono ?_
  rintro e W' ⟨⟨r1, rfl, rfl | ⟨p0, p1, l1, l2, l3⟩⟩, hb⟩
  · have hM' := hM.call hb
    clear hM hb
    go_wp2
    go_ret
    exact ⟨rfl, hM'.below⟩
  have hM' := hM.call hb
  clear hM hb
  have hM := hM'
  clear hM'
  have z1 : decide (r1 < 0) = false := decide_eq_false (by omega)
  have HG1 : d.n1 ≤ 1048576 := by omega
  have HG2 : d.n2 ≤ 1048576 := by omega
  have HG3 : d.n3 ≤ 1048576 := by omega
  have HS := Lib.hid (fun (a1 a2 a3 : Nat) W hB => specValidHerd_any d a1 a2 a3 hd W hB)
  have HI := Lib.hid (fun (a1 a2 a3 : Nat) W hB hE => implValidHerd_any (r := r) d a1 a2 a3 hd W hB hE)
  generalize herdB d = R at HS HI
  cases R
  all_goals
    have tk_r1 : True := trivial; have tk_h1 : True := trivial; have tk_sc : True := trivial; have tk_r2 : True := trivial; have tk_h2 : True := trivial; have tk_x0 : True := trivial; have tk_s0 : True := trivial; have tk_r3 : True := trivial
    go_wp2_with (first | (have _t := tk_r1; refine wpList_get rfl _ _ rfl _ _ rfl hM 0 rfl (rowTab _ _ rfl) (by omega) ?_; simp only [Nat.zero_add]; clear tk_r1) | (have _t := tk_h1; go_at_call 17; refine (toHerd_any _ d HG1 HG2 HG3 _ (HG.out.below hM.below)).mono ?_; rintro e W' ⟨a1, a2, a3, rfl, g1, g2, g3, hK⟩; have hM' := hM.front hK.below hK (hdB_ge g1 g2 g3); clear hM hK g1 g2 g3 tk_h1; have hM := hM'; clear hM') | (have _t := tk_sc; go_at_call 16; refine (HS.out a1 a2 a3 _ (three_of hM 0 rfl)).mono ?_; rintro e W' ⟨rfl, hb'⟩; have hM' := (hM.call hb').drop.drop.drop; clear hM hb' tk_sc; have hM := hM'; clear hM') | (have _t := tk_r2; refine wpList_get rfl _ _ rfl _ _ rfl hM 0 rfl (rowTab _ _ rfl) (by omega) ?_; simp only [Nat.zero_add]; clear tk_r2) | (have _t := tk_h2; go_at_call 17; refine (toHerd_any _ d HG1 HG2 HG3 _ (HG.out.below hM.below)).mono ?_; rintro e W' ⟨e1, e2, e3, rfl, g1, g2, g3, hK⟩; have hM' := hM.front hK.below hK (hdB_ge g1 g2 g3); clear hM hK g1 g2 g3 tk_h2; have hM := hM'; clear hM') | (have _t := tk_x0; refine wpList_zero rfl _ rfl (zeroTab _ _ _ rfl) hM ?_; intro x0 W' hx0 hM'; clear hM tk_x0; have hM := hM'; clear hM') | (have _t := tk_s0; refine wpList_lay rfl _ _ _ rfl _ _ rfl _ _ rfl hM 0 rfl (by assumption) (rowTab _ _ rfl) (by omega) ?_ ?_; (intro k _; exact hdV_one _ _ _ _ _); intro W' hM'; have hM2 := hM'.re 0 rfl (hdV d e1 e2 e3) (fun k hk => by simp [lay, hk]); simp only [List.set_cons_zero] at hM2; clear hM hM' tk_s0; have hM := hM2; clear hM2) | (have _t := tk_r3; refine wpList_get rfl _ _ rfl _ _ rfl hM 0 rfl (rowTab _ _ rfl) (by omega) ?_; simp only [Nat.zero_add]; clear tk_r3) | (go_at_call 18; refine (HI.out e1 e2 e3 _ (three_of hM 1 rfl) (HE.out.below hM.below)).mono ?_; rintro e W' ⟨rfl, hb'⟩; have hM' := hM.call hb'; clear hM hb'; have hM := hM'; clear hM'))
    simp only [hdB, List.cons_append, List.nil_append] at hM
    ((try simp only [Act.put, List.setIfInBounds_toArray, List.set_cons_succ, List.set_cons_zero]); refine region_reads [0, 1] #[true, true, false, false, false] 3 (by kernel_rfl) (by kernel_rfl) (by kernel_rfl) hM ?_; clear hM; (repeat (refine qs_plain rfl rfl ?_; first | (refine b_get _ _ rfl _ _ rfl 0 rfl (rowTab _ _ rfl) (by omega) ?_; (try simp only [Nat.zero_add, Act.put, List.setIfInBounds_toArray, List.set_cons_succ, List.set_cons_zero])) | (refine b_get _ _ rfl _ _ rfl 4 rfl (rowTab _ _ rfl) (by omega) ?_; (try simp only [Nat.zero_add, Act.put, List.setIfInBounds_toArray, List.set_cons_succ, List.set_cons_zero])))); (with_reducible refine qs_nil ?_))
    (refine mix_one (i := 2) (by kernel_rfl) rfl (by kernel_rfl) rfl ?_)
    (refine step_call_more (β := Nat × Nat × Nat) (fun y => .agg (arr 3 (hdV d y.1 y.2.1 y.2.2))) (fun y => hdB d y.1 y.2.1 y.2.2) (fun _ => True) ?_; apply Exists.intro; apply Exists.intro; refine ⟨fun W => ?_, fun W hM => ?_, ?_⟩; (go_simp; exact ⟨rfl, rfl⟩); (exact (toHerd_any _ d HG1 HG2 HG3 W (HG.out.below hM.below)).mono fun e w' ⟨y1, y2, y3, he, g1, g2, g3, hK⟩ => ⟨(y1, y2, y3), he, trivial, hM.front hK.below hK (hdB_ge g1 g2 g3)⟩); rintro ⟨j1, j2, j3⟩ -; (try simp only [Nat.zero_add, Act.put, List.setIfInBounds_toArray, List.set_cons_succ, List.set_cons_zero]))
    (refine mix_one (i := 3) (by kernel_rfl) rfl (by kernel_rfl) rfl ?_)
    (refine step_call ?_; apply Exists.intro; apply Exists.intro; apply Exists.intro; refine ⟨fun W => ?_, fun W hM => ?_, ?_⟩; (go_simp; exact ⟨rfl, rfl⟩); (exact eqHerd_same d e1 e2 e3 j1 j2 j3 hd.l1 hd.l2 hd.l3 W (hM.ats 4 _ _ _ rfl) (hM.ats 5 _ _ _ rfl) (hM.ats 6 _ _ _ rfl) (hM.ats 0 _ _ _ rfl) (hM.ats 1 _ _ _ rfl) (hM.ats 2 _ _ _ rfl) (hM.apart 4 0 _ _ rfl rfl (by omega)) (hM.apart 5 1 _ _ rfl rfl (by omega)) (hM.apart 6 2 _ _ rfl rfl (by omega))); (try simp only [Nat.zero_add, Act.put, List.setIfInBounds_toArray, List.set_cons_succ, List.set_cons_zero]))
    (refine mix_one (i := 4) (by kernel_rfl) rfl (by kernel_rfl) rfl ?_)
    (refine step_val ?_; apply Exists.intro; refine ⟨fun W => ?_, ?_⟩; (go_simp; rfl); (simp only [Act.put, List.setIfInBounds_toArray, List.set_cons_succ, List.set_cons_zero]))
    (refine mix_end (by kernel_rfl) ?_; intro W' hM)
    go_wp2
    go_ret
    exact ⟨rfl, hM.below⟩
end Go.Proofs.YthodkbmenndnoaaDoor

