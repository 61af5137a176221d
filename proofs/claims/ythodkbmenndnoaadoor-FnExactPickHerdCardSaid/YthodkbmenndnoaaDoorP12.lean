/-
  Several texts in one: Stray, HerdOk, ValidHerdS, AskedH, AreFoesC.
-/
import Derived.Test.YthodkbmenndnoaaDoorP7
import Derived.Test.YthodkbmenndnoaaDoorP11
import Derived.Test.YthodkbmenndnoaaDoorP8
/-
  errors.Is and impl.codeOf of a goat that is none, by contracts.
-/
namespace Go.Proofs.YthodkbmenndnoaaDoor
open Go Go.RowKit Go.BigFrame Go.Extern.Stop Go.Stop Go.Extern

theorem hasUnwrapS (v : Value) (xT : TypeId) (w : World) : (Instr.typeAssert (.iface 150 v) xT 162 true).run Tryd.prog w = .ok (.tuple #[.iface 150 v, .bool true]) w := run_typeAssert_hasB Tryd.underlying162 (by kernel_rfl) v xT w
theorem noIsS (v : Value) (xT : TypeId) (w : World) : (Instr.typeAssert (.iface 150 v) xT 165 true).run Tryd.prog w = .ok (.tuple #[.nilIface, .bool false]) w := run_typeAssert_lacksB Tryd.underlying165 (by kernel_rfl) (by kernel_rfl) v xT w
theorem methodUnwrapS (v : Value) (w : World) : (Go.method 301 150 v "Unwrap").run Tryd.prog w = .ok (150, v) w := by kernel_rfl
theorem eql_stray (g : Int) (y : Addr) (w : World) : (binOp .eql 85 (strayV g) (errV y)).run Tryd.prog w = .ok (.bool false) w := run_eql_iface_types _ _ _ _ Tryd.underlying85 (by decide) w

theorem unwrapS_any (r : Addr) (g : Int) (w : World) (h : w.cell? ⟨1, 0, none⟩ = some (errV r)) :
    Calls Tryd.prog 150 #[.int .i64 g] w fun e w' => e = .returned (errV r) ∧ w' = w := by
  go_enter Tryd.func150, Tryd.ntmps150
  go_wp2
  go_ret
  exact ⟨rfl, rfl⟩

set_option maxRecDepth 100000 in
set_option maxHeartbeats 2000000 in
theorem isS_yes (r : Addr) (g : Int) (w : World) (h : w.cell? ⟨1, 0, none⟩ = some (errV r)) :
    Calls Tryd.prog 122 #[strayV g, errV r, .bool true] w fun e w' => e = .returned (.bool true) ∧ w = w' := by
  obtain ⟨i, hi, hcmp⟩ := Option.map_eq_some_iff.1 isComp
  obtain ⟨j, hj, hjs⟩ := Option.map_eq_some_iff.1 isSize
  have nE := noIsS
  have uE := hasUnwrapS
  have mU := methodUnwrapS
  have heq := eql_stray g r
  have heq2 := run_eql_iface_ptr_same (P := Tryd.prog) w r Tryd.underlying85 Tryd.underlying170 hi hcmp hj
  have H := Lib.hid h
  clear h
  unfold strayV errV at *
  go_enter Tryd.func122, Tryd.ntmps122
  go_wp2
  refine wp_loop_rounds 2 ?_
  rw [rounds_succ]
  go_wp2_with (first | (go_at_call 150; refine (unwrapS_any r g _ H.out).mono ?_; rintro e W' ⟨rfl, rfl⟩; unfold errV))
  rw [rounds_succ]
  go_wp2
  go_ret
  exact ⟨rfl, rfl⟩
set_option maxRecDepth 100000 in
set_option maxHeartbeats 2000000 in
theorem isS_no {a : Nat → Addr} (g : Int) (j : Nat) (hj : j < 7) (hj1 : j ≠ 1) (w : World) (hE : Errs a w) :
    Calls Tryd.prog 122 #[strayV g, errV (a j), .bool true] w fun e w' => e = .returned (.bool false) ∧ w = w' := by
  obtain ⟨i, hi, hcmp⟩ := Option.map_eq_some_iff.1 isComp
  obtain ⟨k, hk, hks⟩ := Option.map_eq_some_iff.1 isSize
  have nE := noIsS
  have uE := hasUnwrapS
  have mU := methodUnwrapS
  have nE2 := noIsE
  have uE2 := noUnwrapE
  have vE2 := noUnwrapsE
  have heq := eql_stray g (a j)
  obtain ⟨ca, ta, ha⟩ := hE.cells 1 (by omega)
  obtain ⟨cb, tb, hb⟩ := hE.cells j hj
  have heq2 := run_eql_iface_ptr_other (P := Tryd.prog) w Tryd.underlying85 Tryd.underlying170 hi hcmp hk (by rw [hks]; decide) (hE.apart 1 j (by omega) hj (Ne.symm hj1)) ha hb
  have h := hE.vars 1 (by omega)
  have H := Lib.hid h
  clear h hE ha hb
  generalize a j = y at *
  unfold strayV errV at *
  go_enter Tryd.func122, Tryd.ntmps122
  go_wp2
  refine wp_loop_rounds 2 ?_
  rw [rounds_succ]
  go_wp2_with (first | (go_at_call 150; refine (unwrapS_any (a 1) g _ H.out).mono ?_; rintro e W' ⟨rfl, rfl⟩; unfold errV))
  rw [rounds_succ]
  go_wp2
  go_ret
  exact ⟨rfl, rfl⟩

set_option maxRecDepth 100000 in
theorem IsS_yes (r : Addr) (g : Int) (w : World) (h : w.cell? ⟨1, 0, none⟩ = some (errV r)) :
    Calls Tryd.prog 108 #[strayV g, errV r] w fun e w' => e = .returned (.bool true) ∧ w = w' := by
  have h8 := @run_callFunc_extern Tryd.prog 121 _ Extern.ReflectliteType.typeOf Tryd.func121 (by kernel_rfl) (by kernel_rfl) (by kernel_rfl) (by kernel_rfl)
  have tT := isTypeOf
  have cT := isComparable
  have mR := isMethodComparable
  have hY := isS_yes r g w h
  clear h
  unfold strayV errV at hY ⊢
  go_enter Tryd.func108, Tryd.ntmps108
  go_wp2_with (first | (go_at_call 122; refine hY.mono ?_; rintro e W' ⟨rfl, rfl⟩))
  go_ret
  exact ⟨rfl, rfl⟩
set_option maxRecDepth 100000 in
theorem IsS_no {a : Nat → Addr} (g : Int) (j : Nat) (hj : j < 7) (hj1 : j ≠ 1) (w : World) (hE : Errs a w) :
    Calls Tryd.prog 108 #[strayV g, errV (a j)] w fun e w' => e = .returned (.bool false) ∧ w = w' := by
  have h8 := @run_callFunc_extern Tryd.prog 121 _ Extern.ReflectliteType.typeOf Tryd.func121 (by kernel_rfl) (by kernel_rfl) (by kernel_rfl) (by kernel_rfl)
  have tT := isTypeOf
  have cT := isComparable
  have mR := isMethodComparable
  have hY := isS_no g j hj hj1 w hE
  clear hE
  unfold strayV errV at hY ⊢
  go_enter Tryd.func108, Tryd.ntmps108
  go_wp2_with (first | (go_at_call 122; refine hY.mono ?_; rintro e W' ⟨rfl, rfl⟩))
  go_ret
  exact ⟨rfl, rfl⟩
set_option maxRecDepth 100000 in
set_option maxHeartbeats 4000000 in
/-- The code of a goat that is none. -/
theorem codeS {a : Nat → Addr} {w : World} (g : Int) (h : Errs a w) :
    Calls Tryd.prog 65 #[strayV g] w fun e w' => e = .returned (.int .i64 2) ∧ w = w' := by
  have v0 : w.cell? ⟨0, 0, none⟩ = some (errV (a 0)) := h.vars 0 (by omega)
  have v1 : w.cell? ⟨1, 0, none⟩ = some (errV (a 1)) := h.vars 1 (by omega)
  have H := Lib.hid h
  have H1 := Lib.hid v1
  clear h
  go_enter Tryd.func65, Tryd.ntmps65
  go_wp2_with (first | (go_at_call 108; (with_reducible refine (IsS_no g 0 (by omega) (by omega) _ H.out).mono ?_); rintro e W' ⟨rfl, rfl⟩) | (go_at_call 108; (with_reducible refine (IsS_yes (a 1) g _ H1.out).mono ?_); rintro e W' ⟨rfl, rfl⟩))
  go_ret
  exact ⟨rfl, rfl⟩
@[go_sem] theorem guard_stray (x : Operand) (g : Int) (W : World) : (eqGuard .neq 85 x (.const .nilIface) (strayV g) .nilIface).run Tryd.prog W = .ok () W := by
  unfold strayV; go_simp
@[go_sem] theorem neq_stray (g : Int) (W : World) : (binOp .neq 85 (strayV g) .nilIface).run Tryd.prog W = .ok (.bool true) W := by
  unfold strayV; go_simp
end Go.Proofs.YthodkbmenndnoaaDoor

/-
  spec.l06Are, l06Ok, ValidHerd by contracts.
-/
namespace Go.Proofs.YthodkbmenndnoaaDoor
open Go Go.RowKit Go.BigFrame

theorem bit_div (s k : Nat) : s.testBit k = decide (s / 2 ^ k % 2 = 1) := Nat.testBit_eq_decide_div_mod_eq

set_option maxRecDepth 100000 in
set_option maxHeartbeats 1000000 in
/-- Whether two goats are foes, of a herd whose numbers of foes lie in a block. -/
theorem l06Are_at (d : Hd) (bh b3 n3 c3 N3 : Nat) (hv F3 : Nat → Value) (h2 : hv 2 = .slice (some ⟨b3, 0, none⟩) n3 c3) (i k : Nat) (hi : i < n3) (hN : n3 ≤ N3) (hk : k ≤ 16) (hf : 0 ≤ d.fs i ∧ d.fs i ≤ 65535) (hF : F3 i = .int .u16 (d.fs i)) (w : World) (hH : At w bh 3 hv) (h3 : At w b3 N3 F3) :
    Calls Tryd.prog 63 #[.pointer (some ⟨bh, 0, none⟩), .int .i64 i, .int .i64 k] w fun e w' => e = .returned (.bool (foe d i k)) ∧ Below w.heap.size w w' := by
  obtain ⟨s, hs⟩ : ∃ s : Nat, d.fs i = s := ⟨(d.fs i).toNat, by omega⟩
  have hs2 : s < 65536 := by omega
  have he : foe d i k = decide (s / 2 ^ k % 2 = 1) := by unfold foe; rw [hs]; exact bit_div s k
  rw [he]
  rw [hs] at hF
  obtain ⟨t, ht⟩ : ∃ t, s / 2 ^ k = t := ⟨_, rfl⟩
  have htle : t ≤ s := by rw [← ht]; exact Nat.div_le_self _ _
  rw [ht]
  have e1 : (s : Int) / 2 ^ k = (t : Int) := by rw [← ht]; simp
  have l2 : (i : Int) < n3 := by omega
  have hk0 : (0 : Int) ≤ k := by omega
  have hk1 : (k : Int) ≤ 16 := by omega
  have cu : IntKind.u64.wrap (k : Int) = k := IntWalk.u64_in _ (by omega)
  have ez : ((t : Int) % 2 == 1) = decide (t % 2 = 1) := by
    by_cases h : t % 2 = 1
    · rw [decide_eq_true h]; simp; omega
    · rw [decide_eq_false h]; simp; omega
  have HH := Lib.hid hH
  have H3 := Lib.hid h3
  clear hH h3 hs he ht hf
  go_enter Tryd.func63, Tryd.ntmps63
  go_wp2_with (first | (refine wpList_getAt1 rfl _ _ rfl _ _ rfl HH.out (cellTab _ rfl) (by omega) _ h2 ?_) | (refine wpList_getAt1 rfl _ _ rfl _ _ rfl H3.out (cellTab _ rfl) (by omega) _ hF ?_))
  go_ret
  exact ⟨rfl, Below.refl _ _⟩
theorem toList_ne {a b : ByteArray} (h : a ≠ b) : (a.toList == b.toList) = false := by
  rw [beq_eq_false_iff_ne, ByteArray.toList_eq, ByteArray.toList_eq]
  intro e
  apply h
  cases a; cases b
  simp only at e
  rw [Array.toList_inj.1 e]
theorem shr_zero {s n : Nat} : s / 2 ^ n = 0 ↔ s < 2 ^ n := by
  have hp : 0 < 2 ^ n := Nat.two_pow_pos n
  rw [Nat.div_eq_zero_iff]
  omega
theorem herdB_len {d : Hd} (h : ¬ (d.n1 ≤ 14 ∧ d.n2 = d.n1 ∧ d.n3 = d.n1)) : herdB d = false := by simp [herdB, h]
theorem goat_1 {d : Hd} {i : Nat} (hi : i < d.n1) (h : nameB (d.ss i) = false) : herdB d = false := herd_no hi (by simp [goatB, h])
theorem goat_2 {d : Hd} {i : Nat} (hi : i < d.n1) (h : inB 0 100 (d.es i) = false) : herdB d = false := herd_no hi (by have : ¬ (0 ≤ d.es i ∧ d.es i ≤ 100) := of_decide_eq_false h; simp [goatB, this])
theorem goat_3 {d : Hd} {i : Nat} (hi : i < d.n1) (h : ¬ d.fs i < 2 ^ d.n1) : herdB d = false := herd_no hi (by simp [goatB, h])
theorem goat_4 {d : Hd} {i : Nat} (hi : i < d.n1) (h : foe d i i = true) : herdB d = false := herd_no hi (by simp [goatB, h])
theorem goat_5 {d : Hd} {i k : Nat} (hi : i < d.n1) (hk : k < i) (h : ¬ (d.ss k ≠ d.ss i ∧ foe d i k = foe d k i)) : herdB d = false := herd_no hi (by rw [pair_no hk h, Bool.and_false])
theorem goat_ok {d : Hd} {i : Nat} (h1 : nameB (d.ss i) = true) (h2 : inB 0 100 (d.es i) = true) (h3 : d.fs i < 2 ^ d.n1) (h4 : foe d i i = false) (h5 : ∀ k, k < i → d.ss k ≠ d.ss i ∧ foe d i k = foe d k i) : goatB d i = true ∧ pairU d i i = true :=
  ⟨by have := inB_true h2; simp [goatB, h1, h3, h4, this], pairU_iff.2 h5⟩
theorem herdB_all {d : Hd} (h1 : d.n1 ≤ 14) (h2 : d.n2 = d.n1) (h3 : d.n3 = d.n1) (h : ∀ i, i < d.n1 → goatB d i = true ∧ pairU d i i = true) : herdB d = true := by
  simp [herdB, h1, h2, h3, herdU_iff.2 h]

set_option maxRecDepth 100000 in
set_option maxHeartbeats 8000000 in
theorem l06Ok_any (d : Hd) (bh b1 b2 b3 : Nat) (hd : FitsH d) (w : World) (hM0 : Mem w ((bh, 3, hdV d b1 b2 b3) :: hdB d b1 b2 b3) w) :
    Calls Tryd.prog 51 #[.pointer (some ⟨bh, 0, none⟩)] w fun e w' => e = .returned (.bool (herdB d)) ∧ Below w.heap.size w w' := by
  obtain ⟨l1, l2, l3, hs, he, hf⟩ := hd
  unfold maxLen at l1 l2 l3
  have HS := Lib.hid hs
  have HX := Lib.hid he
  have HF := Lib.hid hf
  have a1 : hdV d b1 b2 b3 0 = .slice (some ⟨b1, 0, none⟩) d.n1 d.n1 := rfl
  have a2 : hdV d b1 b2 b3 1 = .slice (some ⟨b2, 0, none⟩) d.n2 d.n2 := rfl
  have a3 : hdV d b1 b2 b3 2 = .slice (some ⟨b3, 0, none⟩) d.n3 d.n3 := rfl
  have hM := hM0
  simp only [hdB] at hM
  clear hM0 hs he hf
  generalize hdV d b1 b2 b3 = hv at a1 a2 a3 hM
  by_cases c1 : 14 < d.n1
  · have d1 : decide ((14 : Int) < d.n1) = true := decide_eq_true (by omega)
    have HZ := Lib.hid (herdB_len (d := d) (by omega))
    obtain ⟨n, hn⟩ : ∃ n, d.n1 = n := ⟨_, rfl⟩
    rw [hn] at a1 d1
    clear hn
    go_enter Tryd.func51, Tryd.ntmps51
    go_wp2_with (first | (refine wpList_get1 rfl _ _ rfl _ _ rfl hM 0 rfl (cellTab _ rfl) (by omega) _ a1 ?_))
    go_ret
    rw [HZ.out]
    exact ⟨rfl, hM.below⟩
  have d1 : decide ((14 : Int) < d.n1) = false := decide_eq_false (by omega)
  by_cases c2 : d.n2 = d.n1
  case neg =>
    have z1 : ((d.n2 : Int) != (d.n1 : Int)) = true := bne_iff_ne.2 (by omega)
    have z2 : ((d.n2 : Int) == (d.n1 : Int)) = false := beq_eq_false_iff_ne.2 (by omega)
    have z3 : ¬ (d.n2 : Int) = d.n1 := by omega
    have HZ := Lib.hid (herdB_len (d := d) (by omega))
    clear c2
    go_enter Tryd.func51, Tryd.ntmps51
    go_wp2_with (first | (refine wpList_get1 rfl _ _ rfl _ _ rfl hM 0 rfl (cellTab _ rfl) (by omega) _ a1 ?_) | (refine wpList_gget1 ?_ _ _ rfl _ _ rfl hM 0 rfl (cellTab _ rfl) (by omega) _ a2 ?_; kernel_rfl))
    go_ret
    rw [HZ.out]
    exact ⟨rfl, hM.below⟩
  by_cases c3 : d.n3 = d.n1
  case neg =>
    have z1 : ((d.n3 : Int) != (d.n1 : Int)) = true := bne_iff_ne.2 (by omega)
    have z2 : ((d.n3 : Int) == (d.n1 : Int)) = false := beq_eq_false_iff_ne.2 (by omega)
    have z3 : ¬ (d.n3 : Int) = d.n1 := by omega
    have HZ := Lib.hid (herdB_len (d := d) (by omega))
    rw [c2] at a2
    clear c3
    go_enter Tryd.func51, Tryd.ntmps51
    go_wp2_with (first | (refine wpList_get1 rfl _ _ rfl _ _ rfl hM 0 rfl (cellTab _ rfl) (by omega) _ a1 ?_) | (refine wpList_gget1 ?_ _ _ rfl _ _ rfl hM 0 rfl (cellTab _ rfl) (by omega) _ a2 ?_; kernel_rfl) | (refine wpList_gget1 ?_ _ _ rfl _ _ rfl hM 0 rfl (cellTab _ rfl) (by omega) _ a3 ?_; kernel_rfl))
    go_ret
    rw [HZ.out]
    exact ⟨rfl, hM.below⟩
  have Hc2 := Lib.hid c2
  have Hc3 := Lib.hid c3
  rw [c2] at a2 hM
  rw [c3] at a3 hM
  obtain ⟨n, hn⟩ : ∃ n, d.n1 = n := ⟨_, rfl⟩
  have Hn := Lib.hid hn
  have hs' := HS.out
  have hx' := HX.out
  have hf' := HF.out
  rw [hn] at hs'
  rw [c2, hn] at hx'
  rw [c3, hn] at hf'
  have HS' := Lib.hid hs'
  have HX' := Lib.hid hx'
  have HF' := Lib.hid hf'
  rw [hn] at a1 a2 a3 d1 c1 hM
  clear c2 c3 hn hs' hx' hf' l1 l2 l3
  go_enter Tryd.func51, Tryd.ntmps51
  go_wp2_with (first | (refine wpList_get1 rfl _ _ rfl _ _ rfl hM 0 rfl (cellTab _ rfl) (by omega) _ a1 ?_) | (refine wpList_gget1 ?_ _ _ rfl _ _ rfl hM 0 rfl (cellTab _ rfl) (by omega) _ a2 ?_; kernel_rfl) | (refine wpList_gget1 ?_ _ _ rfl _ _ rfl hM 0 rfl (cellTab _ rfl) (by omega) _ a3 ?_; kernel_rfl))
  go_loopw [4] (fun i wr => ∃ k : Nat, k ≤ n ∧ i = .int .i64 k ∧ Hid (∀ j, j < k → goatB d j = true ∧ pairU d j j = true) ∧ Mem w [(bh, 3, hv), (b1, n, vStringS d.ss), (b2, n, vInt16S d.es), (b3, n, vUint16S d.fs)] wr) (fun i _ => n - (intOf i).toNat)
  case atStart => exact ⟨0, by omega, rfl, Lib.hid (fun j hj => absurd hj (by omega)), hM⟩
  case round =>
    clear hM
    obtain ⟨i, hi, rfl, hall, hM⟩ := hrel
    by_cases hlt : i < n
    · have l2 : (i : Int) < n := by omega
      have hid1 : i < d.n1 := by rw [Hn.out]; exact hlt
      have HI := Lib.hid hid1
      have e1 : vStringS d.ss i = .string (d.ss i) := rfl
      have e2 : vInt16S d.es i = .int .i16 (d.es i) := rfl
      have hxi := HX'.out i hlt
      have cx : IntKind.i64.wrap (d.es i) = d.es i := IntWalk.i64_in _ (by omega)
      have hfi := HF'.out i hlt
      obtain ⟨s, hs⟩ : ∃ s : Nat, d.fs i = s := ⟨(d.fs i).toNat, by omega⟩
      have e3 : vUint16S d.fs i = .int .u16 s := by rw [← hs]; rfl
      have hsi := HS'.out i hlt
      obtain ⟨t, ht⟩ : ∃ t, s / 2 ^ n = t := ⟨_, rfl⟩
      have es : (s : Int) / 2 ^ n = (t : Int) := by rw [← ht]; simp
      have hn0 : (0 : Int) ≤ n := by omega
      have hn1 : (n : Int) ≤ 16 := by omega
      have cu : IntKind.u64.wrap (n : Int) = n := IntWalk.u64_in _ (by omega)
      have htz : t = 0 ↔ d.fs i < 2 ^ d.n1 := by rw [← ht, shr_zero, Hn.out, hs]; exact ⟨fun h => by exact_mod_cast h, fun h => by exact_mod_cast h⟩
      have HTZ := Lib.hid htz
      have HARE := Lib.hid (fun (W : World) (x y : Nat) (hx : x < n) (hy : y < n) (hM : Mem w [(bh, 3, hv), (b1, n, vStringS d.ss), (b2, n, vInt16S d.es), (b3, n, vUint16S d.fs)] W) => l06Are_at d bh b3 n n n hv (vUint16S d.fs) a3 x y hx (Nat.le_refl _) (by omega) (HF'.out x hx) rfl W (hM.ats 0 _ _ _ rfl) (hM.ats 3 _ _ _ rfl))
      clear hid1 htz hs ht
      cases g1 : nameB (d.ss i)
      · have G1 := Lib.hid g1
        have HZ := Lib.hid (goat_1 HI.out g1)
        clear g1
        go_wp2_with (first | (refine wpList_get1 rfl _ _ rfl _ _ rfl hM 0 rfl (cellTab _ rfl) (by omega) _ a1 ?_) | (refine wpList_get1 rfl _ _ rfl _ _ rfl hM 1 rfl (cellTab _ rfl) (by omega) _ e1 ?_) | (go_at_call 79; refine (l06Name_any (d.ss i) hsi _).mono ?_; rintro e W' ⟨rfl, hb'⟩; rw [G1.out]; have hM' := hM.call hb'; clear hM hb'; have hM := hM'; clear hM'))
        go_ret
        rw [HZ.out]
        exact ⟨rfl, hM.below⟩
      have G1 := Lib.hid g1
      clear g1
      cases g2 : inB 0 100 (d.es i)
      · have G2 := Lib.hid g2
        have HZ := Lib.hid (goat_2 HI.out g2)
        clear g2
        go_wp2_with (first | (refine wpList_get1 rfl _ _ rfl _ _ rfl hM 0 rfl (cellTab _ rfl) (by omega) _ a1 ?_) | (refine wpList_get1 rfl _ _ rfl _ _ rfl hM 1 rfl (cellTab _ rfl) (by omega) _ e1 ?_) | (go_at_call 79; refine (l06Name_any (d.ss i) hsi _).mono ?_; rintro e W' ⟨rfl, hb'⟩; rw [G1.out]; have hM' := hM.call hb'; clear hM hb'; have hM := hM'; clear hM') | (refine wpList_gget1 ?_ _ _ rfl _ _ rfl hM 0 rfl (cellTab _ rfl) (by omega) _ a2 ?_; kernel_rfl) | (refine wpList_gget1 ?_ _ _ rfl _ _ rfl hM 2 rfl (cellTab _ rfl) (by omega) _ e2 ?_; kernel_rfl) | (go_at_call 78; refine (l00In_any (d.es i) 0 100 _).mono ?_; rintro e W' ⟨rfl, hb'⟩; rw [G2.out]; have hM' := hM.call hb'; clear hM hb'; have hM := hM'; clear hM'))
        go_ret
        rw [HZ.out]
        exact ⟨rfl, hM.below⟩
      have G2 := Lib.hid g2
      clear g2
      by_cases g3 : t = 0
      case neg =>
        have z1 : ((t : Int) != 0) = true := bne_iff_ne.2 (by omega)
        have z2 : ((t : Int) == 0) = false := beq_eq_false_iff_ne.2 (by omega)
        have z3 : ¬ (t : Int) = 0 := by omega
        have HZ := Lib.hid (goat_3 HI.out (fun h => g3 (HTZ.out.2 h)))
        clear g3
        go_wp2_with (first | (refine wpList_get1 rfl _ _ rfl _ _ rfl hM 0 rfl (cellTab _ rfl) (by omega) _ a1 ?_) | (refine wpList_get1 rfl _ _ rfl _ _ rfl hM 1 rfl (cellTab _ rfl) (by omega) _ e1 ?_) | (go_at_call 79; refine (l06Name_any (d.ss i) hsi _).mono ?_; rintro e W' ⟨rfl, hb'⟩; rw [G1.out]; have hM' := hM.call hb'; clear hM hb'; have hM := hM'; clear hM') | (refine wpList_gget1 ?_ _ _ rfl _ _ rfl hM 0 rfl (cellTab _ rfl) (by omega) _ a2 ?_; kernel_rfl) | (refine wpList_gget1 ?_ _ _ rfl _ _ rfl hM 2 rfl (cellTab _ rfl) (by omega) _ e2 ?_; kernel_rfl) | (go_at_call 78; refine (l00In_any (d.es i) 0 100 _).mono ?_; rintro e W' ⟨rfl, hb'⟩; rw [G2.out]; have hM' := hM.call hb'; clear hM hb'; have hM := hM'; clear hM') | (refine wpList_gget1 ?_ _ _ rfl _ _ rfl hM 0 rfl (cellTab _ rfl) (by omega) _ a3 ?_; kernel_rfl) | (refine wpList_gget1 ?_ _ _ rfl _ _ rfl hM 3 rfl (cellTab _ rfl) (by omega) _ e3 ?_; kernel_rfl))
        go_ret
        rw [HZ.out]
        exact ⟨rfl, hM.below⟩
      subst g3
      cases g4 : foe d i i
      case true =>
        have G4 := Lib.hid g4
        have HZ := Lib.hid (goat_4 HI.out g4)
        clear g4
        go_wp2_with (first | (refine wpList_get1 rfl _ _ rfl _ _ rfl hM 0 rfl (cellTab _ rfl) (by omega) _ a1 ?_) | (refine wpList_get1 rfl _ _ rfl _ _ rfl hM 1 rfl (cellTab _ rfl) (by omega) _ e1 ?_) | (go_at_call 79; refine (l06Name_any (d.ss i) hsi _).mono ?_; rintro e W' ⟨rfl, hb'⟩; rw [G1.out]; have hM' := hM.call hb'; clear hM hb'; have hM := hM'; clear hM') | (refine wpList_gget1 ?_ _ _ rfl _ _ rfl hM 0 rfl (cellTab _ rfl) (by omega) _ a2 ?_; kernel_rfl) | (refine wpList_gget1 ?_ _ _ rfl _ _ rfl hM 2 rfl (cellTab _ rfl) (by omega) _ e2 ?_; kernel_rfl) | (go_at_call 78; refine (l00In_any (d.es i) 0 100 _).mono ?_; rintro e W' ⟨rfl, hb'⟩; rw [G2.out]; have hM' := hM.call hb'; clear hM hb'; have hM := hM'; clear hM') | (refine wpList_gget1 ?_ _ _ rfl _ _ rfl hM 0 rfl (cellTab _ rfl) (by omega) _ a3 ?_; kernel_rfl) | (refine wpList_gget1 ?_ _ _ rfl _ _ rfl hM 3 rfl (cellTab _ rfl) (by omega) _ e3 ?_; kernel_rfl) | (go_at_call 63; refine (HARE.out _ i i hlt hlt hM).mono ?_; rintro e W' ⟨rfl, hb'⟩; rw [G4.out]; have hM' := hM.call hb'; clear hM hb'; have hM := hM'; clear hM'))
        go_ret
        rw [HZ.out]
        exact ⟨rfl, hM.below⟩
      have G4 := Lib.hid g4
      clear g4
      go_wp2_with (first | (refine wpList_get1 rfl _ _ rfl _ _ rfl hM 0 rfl (cellTab _ rfl) (by omega) _ a1 ?_) | (refine wpList_get1 rfl _ _ rfl _ _ rfl hM 1 rfl (cellTab _ rfl) (by omega) _ e1 ?_) | (go_at_call 79; refine (l06Name_any (d.ss i) hsi _).mono ?_; rintro e W' ⟨rfl, hb'⟩; rw [G1.out]; have hM' := hM.call hb'; clear hM hb'; have hM := hM'; clear hM') | (refine wpList_gget1 ?_ _ _ rfl _ _ rfl hM 0 rfl (cellTab _ rfl) (by omega) _ a2 ?_; kernel_rfl) | (refine wpList_gget1 ?_ _ _ rfl _ _ rfl hM 2 rfl (cellTab _ rfl) (by omega) _ e2 ?_; kernel_rfl) | (go_at_call 78; refine (l00In_any (d.es i) 0 100 _).mono ?_; rintro e W' ⟨rfl, hb'⟩; rw [G2.out]; have hM' := hM.call hb'; clear hM hb'; have hM := hM'; clear hM') | (refine wpList_gget1 ?_ _ _ rfl _ _ rfl hM 0 rfl (cellTab _ rfl) (by omega) _ a3 ?_; kernel_rfl) | (refine wpList_gget1 ?_ _ _ rfl _ _ rfl hM 3 rfl (cellTab _ rfl) (by omega) _ e3 ?_; kernel_rfl) | (go_at_call 63; refine (HARE.out _ i i hlt hlt hM).mono ?_; rintro e W' ⟨rfl, hb'⟩; rw [G4.out]; have hM' := hM.call hb'; clear hM hb'; have hM := hM'; clear hM'))
      go_loopw [5] (fun v wr => ∃ k : Nat, k ≤ i ∧ v = .int .i64 k ∧ Hid (∀ j, j < k → d.ss j ≠ d.ss i ∧ foe d i j = foe d j i) ∧ Mem w [(bh, 3, hv), (b1, n, vStringS d.ss), (b2, n, vInt16S d.es), (b3, n, vUint16S d.fs)] wr) (fun v _ => i - (intOf v).toNat)
      case atStart => exact ⟨0, by omega, rfl, Lib.hid (fun j hj => absurd hj (by omega)), hM⟩
      case round =>
        clear hM
        obtain ⟨k, hk, rfl, hall2, hM⟩ := hrel
        by_cases hki : k < i
        · have l3 : (k : Int) < i := by omega
          have hkn : k < n := by omega
          have lkn : (k : Int) < n := by omega
          have e1k : vStringS d.ss k = .string (d.ss k) := rfl
          obtain ⟨x, hx⟩ : ∃ x, d.ss k = x := ⟨_, rfl⟩
          obtain ⟨y, hy⟩ : ∃ y, d.ss i = y := ⟨_, rfl⟩
          rw [hx] at e1k
          rw [hy] at e1
          have Hx := Lib.hid hx
          have Hy := Lib.hid hy
          clear hx hy
          by_cases hxy : x = y
          · have HZ := Lib.hid (goat_5 (d := d) (i := i) (k := k) HI.out hki (fun h => h.1 (by rw [Hx.out, Hy.out, hxy])))
            subst hxy
            go_wp2
            ((try simp only [Act.put, List.setIfInBounds_toArray, List.set_cons_succ, List.set_cons_zero]); refine wp_region_mem (by kernel_rfl) (by kernel_rfl) hM ?_; clear hM; (repeat (first | go_big_quiet_skip | (go_big_quiet_want; first | (refine quiet_get1 _ _ rfl _ _ rfl 0 rfl (cellTab _ rfl) (by omega) _ (a1) ?_; (simp only [Act.put, List.setIfInBounds_toArray, List.set_cons_succ, List.set_cons_zero]); go_big_quiet_on) | (refine quiet_get1 _ _ rfl _ _ rfl 1 rfl (cellTab _ rfl) (by omega) _ (e1k) ?_; (simp only [Act.put, List.setIfInBounds_toArray, List.set_cons_succ, List.set_cons_zero]); go_big_quiet_on) | (refine quiet_get1 _ _ rfl _ _ rfl 1 rfl (cellTab _ rfl) (by omega) _ (e1) ?_; (simp only [Act.put, List.setIfInBounds_toArray, List.set_cons_succ, List.set_cons_zero]); go_big_quiet_on) | (refine quiet_val ?_; apply Exists.intro; refine ⟨fun W => ?_, ?_⟩; (go_simp; (try simp only [BEq.rfl, if_true, Bool.false_eq_true, if_false]); rfl); (simp only [Act.put, List.setIfInBounds_toArray, List.set_cons_succ, List.set_cons_zero]); go_big_quiet_on)))); (with_reducible refine wpQuiet_nil ?_); intro W' hM)
            go_wp2
            go_ret
            rw [HZ.out]
            exact ⟨rfl, hM.below⟩
          have hne := toList_ne hxy
          obtain ⟨p, hp⟩ : ∃ p, foe d i k = p := ⟨_, rfl⟩
          obtain ⟨q, hq⟩ : ∃ q, foe d k i = q := ⟨_, rfl⟩
          have HP := Lib.hid hp
          have HQ := Lib.hid hq
          clear hp hq
          by_cases hpq : p = q
          case neg =>
            have HZ := Lib.hid (goat_5 (d := d) (i := i) (k := k) HI.out hki (fun h => hpq (by rw [← HP.out, ← HQ.out]; exact h.2)))
            clear hxy
            cases p <;> cases q <;> first | exact absurd rfl hpq | skip
            all_goals clear hpq
            · go_wp2
              ((try simp only [Act.put, List.setIfInBounds_toArray, List.set_cons_succ, List.set_cons_zero]); refine wp_region_mem (by kernel_rfl) (by kernel_rfl) hM ?_; clear hM; (repeat (first | go_big_quiet_skip | (go_big_quiet_want; first | (refine quiet_get1 _ _ rfl _ _ rfl 0 rfl (cellTab _ rfl) (by omega) _ (a1) ?_; (simp only [Act.put, List.setIfInBounds_toArray, List.set_cons_succ, List.set_cons_zero]); go_big_quiet_on) | (refine quiet_get1 _ _ rfl _ _ rfl 1 rfl (cellTab _ rfl) (by omega) _ (e1k) ?_; (simp only [Act.put, List.setIfInBounds_toArray, List.set_cons_succ, List.set_cons_zero]); go_big_quiet_on) | (refine quiet_get1 _ _ rfl _ _ rfl 1 rfl (cellTab _ rfl) (by omega) _ (e1) ?_; (simp only [Act.put, List.setIfInBounds_toArray, List.set_cons_succ, List.set_cons_zero]); go_big_quiet_on) | (refine quiet_call ?_; apply Exists.intro; apply Exists.intro; apply Exists.intro; refine ⟨fun W => ?_, fun W hM => ?_, ?_⟩; (go_simp; exact ⟨rfl, rfl⟩); (with_reducible exact HARE.out W i k hlt hkn hM); (simp only [HP.out]); (simp only [Act.put, List.setIfInBounds_toArray, List.set_cons_succ, List.set_cons_zero]); go_big_quiet_on) | (refine quiet_call ?_; apply Exists.intro; apply Exists.intro; apply Exists.intro; refine ⟨fun W => ?_, fun W hM => ?_, ?_⟩; (go_simp; exact ⟨rfl, rfl⟩); (with_reducible exact HARE.out W k i hkn hlt hM); (simp only [HQ.out]); (simp only [Act.put, List.setIfInBounds_toArray, List.set_cons_succ, List.set_cons_zero]); go_big_quiet_on) | (refine quiet_val ?_; apply Exists.intro; refine ⟨fun W => ?_, ?_⟩; (go_simp; (try simp only [hne, if_true, Bool.false_eq_true, if_false]); rfl); (simp only [Act.put, List.setIfInBounds_toArray, List.set_cons_succ, List.set_cons_zero]); go_big_quiet_on)))); (with_reducible refine wpQuiet_nil ?_); intro W' hM)
              go_wp2
              go_ret
              rw [HZ.out]
              exact ⟨rfl, hM.below⟩
            · go_wp2
              ((try simp only [Act.put, List.setIfInBounds_toArray, List.set_cons_succ, List.set_cons_zero]); refine wp_region_mem (by kernel_rfl) (by kernel_rfl) hM ?_; clear hM; (repeat (first | go_big_quiet_skip | (go_big_quiet_want; first | (refine quiet_get1 _ _ rfl _ _ rfl 0 rfl (cellTab _ rfl) (by omega) _ (a1) ?_; (simp only [Act.put, List.setIfInBounds_toArray, List.set_cons_succ, List.set_cons_zero]); go_big_quiet_on) | (refine quiet_get1 _ _ rfl _ _ rfl 1 rfl (cellTab _ rfl) (by omega) _ (e1k) ?_; (simp only [Act.put, List.setIfInBounds_toArray, List.set_cons_succ, List.set_cons_zero]); go_big_quiet_on) | (refine quiet_get1 _ _ rfl _ _ rfl 1 rfl (cellTab _ rfl) (by omega) _ (e1) ?_; (simp only [Act.put, List.setIfInBounds_toArray, List.set_cons_succ, List.set_cons_zero]); go_big_quiet_on) | (refine quiet_call ?_; apply Exists.intro; apply Exists.intro; apply Exists.intro; refine ⟨fun W => ?_, fun W hM => ?_, ?_⟩; (go_simp; exact ⟨rfl, rfl⟩); (with_reducible exact HARE.out W i k hlt hkn hM); (simp only [HP.out]); (simp only [Act.put, List.setIfInBounds_toArray, List.set_cons_succ, List.set_cons_zero]); go_big_quiet_on) | (refine quiet_call ?_; apply Exists.intro; apply Exists.intro; apply Exists.intro; refine ⟨fun W => ?_, fun W hM => ?_, ?_⟩; (go_simp; exact ⟨rfl, rfl⟩); (with_reducible exact HARE.out W k i hkn hlt hM); (simp only [HQ.out]); (simp only [Act.put, List.setIfInBounds_toArray, List.set_cons_succ, List.set_cons_zero]); go_big_quiet_on) | (refine quiet_val ?_; apply Exists.intro; refine ⟨fun W => ?_, ?_⟩; (go_simp; (try simp only [hne, if_true, Bool.false_eq_true, if_false]); rfl); (simp only [Act.put, List.setIfInBounds_toArray, List.set_cons_succ, List.set_cons_zero]); go_big_quiet_on)))); (with_reducible refine wpQuiet_nil ?_); intro W' hM)
              go_wp2
              go_ret
              rw [HZ.out]
              exact ⟨rfl, hM.below⟩
          have HB := Lib.hid (fun j (hj : j < k + 1) => show d.ss j ≠ d.ss i ∧ foe d i j = foe d j i from by
            by_cases e : j = k
            · rw [e, Hx.out, Hy.out, HP.out, HQ.out]; exact ⟨hxy, hpq⟩
            · exact hall2.out j (by omega))
          subst hpq
          clear hxy
          cases p
          · go_wp2
            ((try simp only [Act.put, List.setIfInBounds_toArray, List.set_cons_succ, List.set_cons_zero]); refine wp_region_mem (by kernel_rfl) (by kernel_rfl) hM ?_; clear hM; (repeat (first | go_big_quiet_skip | (go_big_quiet_want; first | (refine quiet_get1 _ _ rfl _ _ rfl 0 rfl (cellTab _ rfl) (by omega) _ (a1) ?_; (simp only [Act.put, List.setIfInBounds_toArray, List.set_cons_succ, List.set_cons_zero]); go_big_quiet_on) | (refine quiet_get1 _ _ rfl _ _ rfl 1 rfl (cellTab _ rfl) (by omega) _ (e1k) ?_; (simp only [Act.put, List.setIfInBounds_toArray, List.set_cons_succ, List.set_cons_zero]); go_big_quiet_on) | (refine quiet_get1 _ _ rfl _ _ rfl 1 rfl (cellTab _ rfl) (by omega) _ (e1) ?_; (simp only [Act.put, List.setIfInBounds_toArray, List.set_cons_succ, List.set_cons_zero]); go_big_quiet_on) | (refine quiet_call ?_; apply Exists.intro; apply Exists.intro; apply Exists.intro; refine ⟨fun W => ?_, fun W hM => ?_, ?_⟩; (go_simp; exact ⟨rfl, rfl⟩); (with_reducible exact HARE.out W i k hlt hkn hM); (simp only [HP.out]); (simp only [Act.put, List.setIfInBounds_toArray, List.set_cons_succ, List.set_cons_zero]); go_big_quiet_on) | (refine quiet_call ?_; apply Exists.intro; apply Exists.intro; apply Exists.intro; refine ⟨fun W => ?_, fun W hM => ?_, ?_⟩; (go_simp; exact ⟨rfl, rfl⟩); (with_reducible exact HARE.out W k i hkn hlt hM); (simp only [HQ.out]); (simp only [Act.put, List.setIfInBounds_toArray, List.set_cons_succ, List.set_cons_zero]); go_big_quiet_on) | (refine quiet_val ?_; apply Exists.intro; refine ⟨fun W => ?_, ?_⟩; (go_simp; (try simp only [hne, if_true, Bool.false_eq_true, if_false]); rfl); (simp only [Act.put, List.setIfInBounds_toArray, List.set_cons_succ, List.set_cons_zero]); go_big_quiet_on)))); (with_reducible refine wpQuiet_nil ?_); intro W' hM)
            go_wp2
            go_roundw
            case rel => exact ⟨k + 1, by omega, by go_num, HB, hM⟩
            case measure => simp [intOf]; omega
          · go_wp2
            ((try simp only [Act.put, List.setIfInBounds_toArray, List.set_cons_succ, List.set_cons_zero]); refine wp_region_mem (by kernel_rfl) (by kernel_rfl) hM ?_; clear hM; (repeat (first | go_big_quiet_skip | (go_big_quiet_want; first | (refine quiet_get1 _ _ rfl _ _ rfl 0 rfl (cellTab _ rfl) (by omega) _ (a1) ?_; (simp only [Act.put, List.setIfInBounds_toArray, List.set_cons_succ, List.set_cons_zero]); go_big_quiet_on) | (refine quiet_get1 _ _ rfl _ _ rfl 1 rfl (cellTab _ rfl) (by omega) _ (e1k) ?_; (simp only [Act.put, List.setIfInBounds_toArray, List.set_cons_succ, List.set_cons_zero]); go_big_quiet_on) | (refine quiet_get1 _ _ rfl _ _ rfl 1 rfl (cellTab _ rfl) (by omega) _ (e1) ?_; (simp only [Act.put, List.setIfInBounds_toArray, List.set_cons_succ, List.set_cons_zero]); go_big_quiet_on) | (refine quiet_call ?_; apply Exists.intro; apply Exists.intro; apply Exists.intro; refine ⟨fun W => ?_, fun W hM => ?_, ?_⟩; (go_simp; exact ⟨rfl, rfl⟩); (with_reducible exact HARE.out W i k hlt hkn hM); (simp only [HP.out]); (simp only [Act.put, List.setIfInBounds_toArray, List.set_cons_succ, List.set_cons_zero]); go_big_quiet_on) | (refine quiet_call ?_; apply Exists.intro; apply Exists.intro; apply Exists.intro; refine ⟨fun W => ?_, fun W hM => ?_, ?_⟩; (go_simp; exact ⟨rfl, rfl⟩); (with_reducible exact HARE.out W k i hkn hlt hM); (simp only [HQ.out]); (simp only [Act.put, List.setIfInBounds_toArray, List.set_cons_succ, List.set_cons_zero]); go_big_quiet_on) | (refine quiet_val ?_; apply Exists.intro; refine ⟨fun W => ?_, ?_⟩; (go_simp; (try simp only [hne, if_true, Bool.false_eq_true, if_false]); rfl); (simp only [Act.put, List.setIfInBounds_toArray, List.set_cons_succ, List.set_cons_zero]); go_big_quiet_on)))); (with_reducible refine wpQuiet_nil ?_); intro W' hM)
            go_wp2
            go_roundw
            case rel => exact ⟨k + 1, by omega, by go_num, HB, hM⟩
            case measure => simp [intOf]; omega
        · obtain rfl : k = i := by omega
          have HG := Lib.hid (goat_ok (d := d) (i := k) G1.out G2.out (HTZ.out.1 (by trivial)) G4.out hall2.out)
          go_wp2
          go_roundw
          case rel => exact ⟨k + 1, by omega, by go_num, Lib.hid (fun j hj => by
            by_cases e : j = k
            · rw [e]; exact HG.out
            · exact hall.out j (by omega)), hM⟩
          case measure => simp [intOf]; omega
    · obtain rfl : i = n := by omega
      have HZ := Lib.hid (herdB_all (d := d) (by rw [Hn.out]; omega) Hc2.out Hc3.out (by rw [Hn.out]; exact hall.out))
      go_wp2
      go_ret
      rw [HZ.out]
      exact ⟨rfl, hM.below⟩
end Go.Proofs.YthodkbmenndnoaaDoor

/-
  spec.ValidHerd by contract.
-/
namespace Go.Proofs.YthodkbmenndnoaaDoor
open Go Go.RowKit Go.BigFrame

/-- A herd and its box. -/
theorem Mem.boxed {w : Base} {L : Blocks} {W : World} {bh b1 b2 b3 : Nat} {hv : Nat → Value} {d : Hd} (h : Mem w ((bh, 3, hv) :: (hdB d b1 b2 b3 ++ L)) W) : Mem W ((bh, 3, hv) :: hdB d b1 b2 b3) W :=
  (h.base (w' := Base.of W) (Below.refl _ _)).sub (fun i => i) (fun i p hi => by
    rcases i with _ | _ | _ | _ | i <;> simp [hdB] at hi ⊢ <;> exact hi) (by kernel_rfl)
set_option maxRecDepth 100000 in
set_option maxHeartbeats 1000000 in
theorem specValidHerd_any (d : Hd) (b1 b2 b3 : Nat) (hd : FitsH d) (w : World) (hM0 : Mem w (hdB d b1 b2 b3) w) :
    Calls Tryd.prog 16 #[.agg (arr 3 (hdV d b1 b2 b3))] w fun e w' => e = .returned (.bool (herdB d)) ∧ Below w.heap.size w w' := by
  have hM : Mem w (hdB d b1 b2 b3 ++ []) w := by rw [List.append_nil]; exact hM0
  clear hM0
  have tk_x1 : True := trivial
  go_enter Tryd.func16, Tryd.ntmps16
  go_wp2_with (first | (have _t := tk_x1; refine wpList_box rfl _ _ rfl _ _ rfl hM ?_; intro x1 W' hx1 hM'; clear hM tk_x1; have hM := hM'; clear hM') | (go_at_call 51; (with_reducible refine (l06Ok_any d x1 b1 b2 b3 hd _ hM.boxed).mono ?_); rintro e W' ⟨rfl, hb'⟩; have hM' := hM.call hb'; clear hM hb'; have hM := hM'; clear hM'))
  go_ret
  exact ⟨rfl, hM.below⟩
end Go.Proofs.YthodkbmenndnoaaDoor

/-
  spec.l06Asked by contract; impl.flockWith where there is an error, and the error's code.
-/
namespace Go.Proofs.YthodkbmenndnoaaDoor
open Go Go.RowKit Go.BigFrame

/-- Are the first numbers those of goats? -/
def askU (d : Hd) (ys : Nat → Int) : Nat → Bool
  | 0 => true
  | j + 1 => askU d ys j && inB 0 ((d.n1 : Int) - 1) (ys j)
/-- The code of a herd and some goats. -/
def askC (d : Hd) (n : Nat) (ys : Nat → Int) : Int := if herdB d then (if askU d ys n then 0 else 2) else 1
theorem askU_iff {d : Hd} {ys : Nat → Int} : ∀ {n : Nat}, askU d ys n = true ↔ ∀ j, j < n → 0 ≤ ys j ∧ ys j < d.n1
  | 0 => by simp [askU]
  | n + 1 => by
    simp only [askU, Bool.and_eq_true, askU_iff (n := n), inB, decide_eq_true_eq]
    constructor
    · intro ⟨h1, h2⟩ k hk
      rcases Nat.lt_succ_iff_lt_or_eq.1 hk with h | rfl
      · exact h1 k h
      · omega
    · intro h
      exact ⟨fun k hk => h k (by omega), by have := h n (by omega); omega⟩
theorem askU_first {d : Hd} {ys : Nat → Int} : ∀ {n : Nat}, askU d ys n = false → ∃ k, k < n ∧ (∀ j, j < k → 0 ≤ ys j ∧ ys j < d.n1) ∧ ¬ (0 ≤ ys k ∧ ys k < d.n1)
  | 0, h => by simp [askU] at h
  | n + 1, h => by
    cases h1 : askU d ys n with
    | false =>
      obtain ⟨k, h2, h3, h4⟩ := askU_first h1
      exact ⟨k, by omega, h3, h4⟩
    | true =>
      refine ⟨n, by omega, askU_iff.1 h1, fun h2 => ?_⟩
      simp only [askU, h1, Bool.true_and] at h
      rw [inB_yes (by omega)] at h
      exact absurd h (by decide)
theorem askC_0 {d : Hd} {n : Nat} {ys : Nat → Int} (h : askC d n ys = 0) : HerdOk d ∧ ∀ j, j < n → 0 ≤ ys j ∧ ys j < d.n1 := by
  unfold askC at h
  cases h1 : herdB d with
  | false => rw [h1] at h; simp at h
  | true =>
    cases h2 : askU d ys n with
    | false => rw [h1, h2] at h; simp at h
    | true => exact ⟨herdB_iff.1 h1, askU_iff.1 h2⟩

set_option maxRecDepth 100000 in
set_option maxHeartbeats 2000000 in
theorem l06Asked_any (d : Hd) (bh b1 b2 b3 : Nat) (hd : FitsH d) (ga : Option Addr) (gn gc : Nat) (ys : Nat → Int) (hgn : gn ≤ 1048576) (w : World) (hM0 : Mem w ((bh, 3, hdV d b1 b2 b3) :: hdB d b1 b2 b3) w) (hG : IntsAt w ga gn ys) :
    Calls Tryd.prog 62 #[.pointer (some ⟨bh, 0, none⟩), .slice ga gn gc] w fun e w' => e = .returned (.int .i64 (askC d gn ys)) ∧ Below w.heap.size w w' := by
  have HOK := Lib.hid (fun (W : World) hB => l06Ok_any d bh b1 b2 b3 hd W hB)
  have H0 := Lib.hid hM0
  have HG := Lib.hid hG
  have hM := hM0
  clear hM0 hG
  cases hv : herdB d
  · have HV := Lib.hid hv
    have HC : Hid (askC d gn ys = 1) := Lib.hid (by unfold askC; rw [hv]; rfl)
    clear hv
    go_enter Tryd.func62, Tryd.ntmps62
    go_wp2_with (first | (go_at_call 51; refine (HOK.out _ (hM.base (Below.refl _ _))).mono ?_; rintro e W' ⟨rfl, hb'⟩; rw [HV.out]; have hM' := hM.call hb'; clear hM hb'; have hM := hM'; clear hM'))
    go_ret
    rw [HC.out]
    exact ⟨rfl, hM.below⟩
  have HV := Lib.hid hv
  have h14 := (herdB_iff.1 hv).n
  have a1 : hdV d b1 b2 b3 0 = .slice (some ⟨b1, 0, none⟩) d.n1 d.n1 := rfl
  have HB := Lib.hid (show ∀ W, Mem w ((bh, 3, hdV d b1 b2 b3) :: hdB d b1 b2 b3) W → Mem W ((bh, 3, hdV d b1 b2 b3) :: hdB d b1 b2 b3) W from fun W h => h.base (Below.refl _ _))
  have HC0 := Lib.hid (show askU d ys gn = true → askC d gn ys = 0 from fun h => by unfold askC; rw [hv, h]; rfl)
  have HC2 := Lib.hid (show askU d ys gn = false → askC d gn ys = 2 from fun h => by unfold askC; rw [hv, h]; rfl)
  clear hv
  go_enter Tryd.func62, Tryd.ntmps62
  go_wp2_with (first | (go_at_call 51; refine (HOK.out _ (HB.out _ hM)).mono ?_; rintro e W' ⟨rfl, hb'⟩; rw [HV.out]; have hM' := hM.call hb'; clear hM hb'; have hM := hM'; clear hM'))
  go_loopw [5] (fun i wr => ∃ k : Nat, k ≤ gn ∧ i = .int .i64 k ∧ Hid (askU d ys k = true) ∧ Mem w ((bh, 3, hdV d b1 b2 b3) :: hdB d b1 b2 b3) wr) (fun i _ => gn - (intOf i).toNat)
  case atStart => exact ⟨0, by omega, rfl, Lib.hid rfl, hM⟩
  case round =>
    clear hM
    obtain ⟨k, hk, rfl, hall, hM⟩ := hrel
    by_cases hlt : k < gn
    · have l2 : (k : Int) < gn := by omega
      obtain ⟨bg, Ng, Fg, rfl, hNg, hFg, hAg⟩ := HG.out.at hlt
      have HAg := Lib.hid hAg
      obtain ⟨y, hy⟩ : ∃ y, ys k = y := ⟨_, rfl⟩
      rw [hy] at hFg
      have Hy := Lib.hid hy
      have HSt := Lib.hid (show askU d ys (k + 1) = inB 0 ((d.n1 : Int) - 1) y from by simp only [askU, hall.out, Bool.true_and, hy])
      have HFn := Lib.hid (show inB 0 ((d.n1 : Int) - 1) y = false → askU d ys gn = false from fun h => by
        cases e : askU d ys gn with
        | false => rfl
        | true =>
          have := askU_iff.1 e k hlt
          rw [hy] at this
          rw [inB_yes (by omega)] at h
          exact absurd h (by decide))
      clear hAg hy
      obtain ⟨nn, hnn⟩ : ∃ nn, d.n1 = nn := ⟨_, rfl⟩
      rw [hnn] at HSt HFn a1 h14
      clear hnn
      have cw : IntKind.i64.wrap ((nn : Int) - 1) = (nn : Int) - 1 := IntWalk.i64_in _ (by omega)
      cases hb : inB 0 ((nn : Int) - 1) y
      · have Hb := Lib.hid hb
        have HZ := Lib.hid (HC2.out (HFn.out hb))
        clear hb
        go_wp2
        ((try simp only [Act.put, List.setIfInBounds_toArray, List.set_cons_succ, List.set_cons_zero]); refine wp_region_mem (by kernel_rfl) (by kernel_rfl) hM ?_; clear hM; (repeat (first | go_big_quiet_skip | (go_big_quiet_want; first | (refine quiet_old _ _ rfl _ _ rfl (cellTab _ rfl) (.int .i64 y) (fun W hM2 => ((HAg.out.below hM2.below HAg.out.lt).cell (by omega)).trans (congrArg some hFg)) ?_; (simp only [Act.put, List.setIfInBounds_toArray, List.set_cons_succ, List.set_cons_zero]); go_big_quiet_on) | (refine quiet_get1 _ _ rfl _ _ rfl 0 rfl (cellTab _ rfl) (by omega) _ (a1) ?_; (simp only [Act.put, List.setIfInBounds_toArray, List.set_cons_succ, List.set_cons_zero]); go_big_quiet_on) | (refine quiet_call ?_; apply Exists.intro; apply Exists.intro; apply Exists.intro; refine ⟨fun W => ?_, fun W hM => ?_, ?_⟩; (go_simp; exact ⟨rfl, rfl⟩); (with_reducible exact l00In_any y 0 ((nn : Int) - 1) W); (simp only [Hb.out]); (simp only [Act.put, List.setIfInBounds_toArray, List.set_cons_succ, List.set_cons_zero]); go_big_quiet_on) | (refine quiet_val ?_; apply Exists.intro; refine ⟨fun W => ?_, ?_⟩; (go_simp; (try simp only [cw, if_true, Bool.false_eq_true, if_false]); rfl); (simp only [Act.put, List.setIfInBounds_toArray, List.set_cons_succ, List.set_cons_zero]); go_big_quiet_on)))); (with_reducible refine wpQuiet_nil ?_); intro W' hM)
        go_wp2
        go_ret
        rw [HZ.out]
        exact ⟨rfl, hM.below⟩
      have Hb := Lib.hid hb
      have HZ := Lib.hid (HSt.out.trans hb)
      clear hb
      go_wp2
      ((try simp only [Act.put, List.setIfInBounds_toArray, List.set_cons_succ, List.set_cons_zero]); refine wp_region_mem (by kernel_rfl) (by kernel_rfl) hM ?_; clear hM; (repeat (first | go_big_quiet_skip | (go_big_quiet_want; first | (refine quiet_old _ _ rfl _ _ rfl (cellTab _ rfl) (.int .i64 y) (fun W hM2 => ((HAg.out.below hM2.below HAg.out.lt).cell (by omega)).trans (congrArg some hFg)) ?_; (simp only [Act.put, List.setIfInBounds_toArray, List.set_cons_succ, List.set_cons_zero]); go_big_quiet_on) | (refine quiet_get1 _ _ rfl _ _ rfl 0 rfl (cellTab _ rfl) (by omega) _ (a1) ?_; (simp only [Act.put, List.setIfInBounds_toArray, List.set_cons_succ, List.set_cons_zero]); go_big_quiet_on) | (refine quiet_call ?_; apply Exists.intro; apply Exists.intro; apply Exists.intro; refine ⟨fun W => ?_, fun W hM => ?_, ?_⟩; (go_simp; exact ⟨rfl, rfl⟩); (with_reducible exact l00In_any y 0 ((nn : Int) - 1) W); (simp only [Hb.out]); (simp only [Act.put, List.setIfInBounds_toArray, List.set_cons_succ, List.set_cons_zero]); go_big_quiet_on) | (refine quiet_val ?_; apply Exists.intro; refine ⟨fun W => ?_, ?_⟩; (go_simp; (try simp only [cw, if_true, Bool.false_eq_true, if_false]); rfl); (simp only [Act.put, List.setIfInBounds_toArray, List.set_cons_succ, List.set_cons_zero]); go_big_quiet_on)))); (with_reducible refine wpQuiet_nil ?_); intro W' hM)
      go_wp2
      go_roundw
      case rel => exact ⟨k + 1, by omega, by go_num, HZ, hM⟩
      case measure => simp [intOf]; omega
    · obtain rfl : k = gn := by omega
      have HZ := Lib.hid (HC0.out hall.out)
      go_wp2
      go_ret
      rw [HZ.out]
      exact ⟨rfl, hM.below⟩
/-- An error, and its code. -/
def EvErr (a : Nat → Addr) (v : Value) (c : Int) : Prop := (v = errV (a 0) ∧ c = 1) ∨ ∃ g, v = strayV g ∧ c = 2
theorem EvErr.code {a : Nat → Addr} {v : Value} {c : Int} (h : EvErr a v c) {w : World} (hE : Errs a w) : Calls Tryd.prog 65 #[v] w fun e w' => e = .returned (.int .i64 c) ∧ w = w' := by
  rcases h with ⟨rfl, rfl⟩ | ⟨g, rfl, rfl⟩
  · exact codeOf_0 hE
  · exact codeS g hE
theorem EvErr.neq {a : Nat → Addr} {v : Value} {c : Int} (h : EvErr a v c) (W : World) : (binOp .neq 85 v .nilIface).run Tryd.prog W = .ok (.bool true) W := by
  rcases h with ⟨rfl, rfl⟩ | ⟨g, rfl, rfl⟩
  · exact neq_err _ W
  · exact neq_stray g W
theorem EvErr.guard {a : Nat → Addr} {v : Value} {c : Int} (h : EvErr a v c) (x : Operand) (W : World) : (eqGuard .neq 85 x (.const .nilIface) v .nilIface).run Tryd.prog W = .ok () W := by
  rcases h with ⟨rfl, rfl⟩ | ⟨g, rfl, rfl⟩
  · exact guard_err x _ W
  · exact guard_stray x g W
theorem EvErr.one {a : Nat → Addr} {v : Value} {c : Int} (h : EvErr a v c) : v.oneCell' = true := by
  rcases h with ⟨rfl, rfl⟩ | ⟨g, rfl, rfl⟩ <;> rfl
/-- impl.flockWith where there is an error. -/
theorem flockWith_bad {a : Nat → Addr} (d : Hd) (b1 b2 b3 : Nat) (hd : FitsH d) (ga : Option Addr) (gn gc : Nat) (ys : Nat → Int) (hgn : gn ≤ 1048576) (w : World) (hM0 : Mem w (hdB d b1 b2 b3) w) (hE : Errs a w) (hT : Tab w) (hG : IntsAt w ga gn ys) (hc : askC d gn ys ≠ 0) :
    Calls Tryd.prog 64 #[.agg (arr 3 (hdV d b1 b2 b3)), .slice ga gn gc] w fun e w' => ∃ f v, e = .returned (.tuple #[.agg (arr 2 f), v]) ∧ (∀ k, k < 2 → (f k).oneCell' = true) ∧ EvErr a v (askC d gn ys) ∧ Below w.heap.size w w' := by
  have hH : HEnv (a 1) w := ⟨hE.vars 1 (by omega), hT⟩
  cases hv : herdB d with
  | false =>
    have h1 : askC d gn ys = 1 := by unfold askC; rw [hv]; rfl
    rw [h1]
    exact (flockWith_no d b1 b2 b3 hd _ w hM0 hH (hE.vars 0 (by omega)) hv).mono fun e w' ⟨f, he, h1, hb⟩ => ⟨f, _, he, h1, .inl ⟨rfl, rfl⟩, hb⟩
  | true =>
    cases hu : askU d ys gn with
    | true => exact absurd (show askC d gn ys = 0 by unfold askC; rw [hv, hu]; rfl) hc
    | false =>
      have h2 : askC d gn ys = 2 := by unfold askC; rw [hv, hu]; rfl
      rw [h2]
      obtain ⟨k, hk, h3, h4⟩ := askU_first hu
      exact (flockWith_stray d b1 b2 b3 hd ga gn gc ys hgn w hM0 hH hG (herdB_iff.1 hv) k hk h3 h4).mono fun e w' ⟨f, he, h1, hb⟩ => ⟨f, _, he, h1, .inr ⟨_, rfl, rfl⟩, hb⟩
end Go.Proofs.YthodkbmenndnoaaDoor

/-
  spec.AreFoes, impl.AreFoes by contracts.
-/
namespace Go.Proofs.YthodkbmenndnoaaDoor
open Go Go.RowKit Go.BigFrame

def two2 (x y : Int) : Nat → Int := fun j => if j = 0 then x else y
def boolCode (b : Bool) (c : Int) : Value := .tuple #[.bool b, .int .i64 c]
def areC (d : Hd) (x y : Int) : Int := askC d 2 (two2 x y)
def areB (d : Hd) (x y : Int) : Bool := decide (areC d x y = 0) && foe d x.toNat y.toNat
theorem lit2_ints {x y : Int} {W : World} {b : Nat} {F : Nat → Value} (h : At W b 2 F) (hF : F = fun k => if k = 0 then .int .i64 x else .int .i64 y) : IntsAt W (some ⟨b, 0, none⟩) 2 (two2 x y) :=
  .inr ⟨b, 2, F, rfl, by omega, fun j _ => by rw [hF]; simp only [two2]; split <;> rfl, h⟩
theorem are_0 {d : Hd} {x y : Int} (h : areC d x y = 0) : HerdOk d ∧ (∀ j, j < 2 → 0 ≤ two2 x y j ∧ two2 x y j < d.n1) ∧ areB d x y = foe d x.toNat y.toNat ∧ ∃ i k : Nat, x = i ∧ y = k ∧ i < d.n1 ∧ k < d.n1 := by
  obtain ⟨h1, h2⟩ := askC_0 h
  have hx := h2 0 (by omega)
  have hy := h2 1 (by omega)
  simp only [two2] at hx hy
  refine ⟨h1, h2, by unfold areB; rw [decide_eq_true h, Bool.true_and], x.toNat, y.toNat, ?_⟩
  simp at hx hy
  omega
theorem are_no {d : Hd} {x y : Int} (h : areC d x y ≠ 0) : areB d x y = false := by unfold areB; rw [decide_eq_false h]; rfl

set_option maxRecDepth 100000 in
set_option maxHeartbeats 2000000 in
theorem specAreFoes_any (d : Hd) (b1 b2 b3 : Nat) (hd : FitsH d) (x y : Int) (w : World) (hM0 : Mem w (hdB d b1 b2 b3) w) :
    Calls Tryd.prog 26 #[.agg (arr 3 (hdV d b1 b2 b3)), .int .i64 x, .int .i64 y] w fun e w' => e = .returned (boolCode (areB d x y) (areC d x y)) ∧ Below w.heap.size w w' := by
  have hM : Mem w (hdB d b1 b2 b3 ++ []) w := by rw [List.append_nil]; exact hM0
  have H0 := Lib.hid hM0
  clear hM0
  have HAC := Lib.hid (fun (bh : Nat) (a : Option Addr) (W : World) hB hG => l06Asked_any d bh b1 b2 b3 hd a 2 2 (two2 x y) (by omega) W hB hG)
  by_cases hc : areC d x y = 0
  · obtain ⟨hOk, -, hB, i, k, rfl, rfl, hi, hk⟩ := are_0 hc
    have h14 := hOk.n
    have a3 : hdV d b1 b2 b3 2 = .slice (some ⟨b3, 0, none⟩) d.n3 d.n3 := rfl
    have HC := Lib.hid (show askC d 2 (two2 (i : Int) (k : Int)) = 0 from hc)
    have HR := Lib.hid (show boolCode (areB d (i : Int) (k : Int)) (areC d (i : Int) (k : Int)) = .tuple #[.bool (foe d i k), .int .i64 0] from by rw [hB, hc]; rfl)
    have HARE := Lib.hid (fun (bh : Nat) (W : World) (hH : At W bh 3 (hdV d b1 b2 b3)) (h3 : At W b3 d.n3 (vUint16S d.fs)) => l06Are_at d bh b3 d.n3 d.n3 d.n3 (hdV d b1 b2 b3) (vUint16S d.fs) a3 i k (by rw [hOk.l3]; exact hi) (Nat.le_refl _) (by omega) (hd.f i (by rw [hOk.l3]; exact hi)) rfl W hH h3)
    clear hc hB hOk
    have tk_x1 : True := trivial; have tk_l1 : True := trivial
    go_enter Tryd.func26, Tryd.ntmps26
    go_wp2_with (first | (have _t := tk_x1; refine wpList_box rfl _ _ rfl _ _ rfl hM ?_; intro x1 W' hx1 hM'; clear hM tk_x1; have hM := hM'; clear hM') | (have _t := tk_l1; refine wpList_lit2 rfl _ _ _ _ rfl (.int .i64 (i : Int)) (.int .i64 (k : Int)) rfl rfl rfl rfl _ int64s_underR int64_infoR hM ?_; intro l1 W' hl1 hM'; clear hM tk_l1; have hM := hM'; clear hM') | (go_at_call 62; refine (HAC.out x1 _ _ (hM.drop.boxed) (lit2_ints (hM.ats 0 _ _ _ rfl) rfl)).mono ?_; rintro e W' ⟨rfl, hb'⟩; rw [HC.out]; have hM' := hM.call hb'; clear hM hb'; have hM := hM'; clear hM') | (go_at_call 63; (with_reducible refine (HARE.out x1 _ (hM.ats 1 _ _ _ rfl) (hM.ats 4 _ _ _ rfl)).mono ?_); rintro e W' ⟨rfl, hb'⟩; have hM' := hM.call hb'; clear hM hb'; have hM := hM'; clear hM'))
    go_ret2
    rw [HR.out]
    exact ⟨rfl, hM.below⟩
  · have HR := Lib.hid (show boolCode (areB d x y) (areC d x y) = .tuple #[.bool false, .int .i64 (askC d 2 (two2 x y))] from by rw [are_no hc]; rfl)
    have hz : askC d 2 (two2 x y) ≠ 0 := hc
    rw [HR.out]
    clear hc HR
    generalize askC d 2 (two2 x y) = C at *
    have z1 : (C != 0) = true := bne_iff_ne.2 hz
    have z2 : (C == 0) = false := beq_eq_false_iff_ne.2 hz
    have tk_x1 : True := trivial; have tk_l1 : True := trivial
    go_enter Tryd.func26, Tryd.ntmps26
    go_wp2_with (first | (have _t := tk_x1; refine wpList_box rfl _ _ rfl _ _ rfl hM ?_; intro x1 W' hx1 hM'; clear hM tk_x1; have hM := hM'; clear hM') | (have _t := tk_l1; refine wpList_lit2 rfl _ _ _ _ rfl (.int .i64 x) (.int .i64 y) rfl rfl rfl rfl _ int64s_underR int64_infoR hM ?_; intro l1 W' hl1 hM'; clear hM tk_l1; have hM := hM'; clear hM') | (go_at_call 62; (with_reducible refine (HAC.out x1 _ _ (hM.drop.boxed) (lit2_ints (hM.ats 0 _ _ _ rfl) rfl)).mono ?_); rintro e W' ⟨rfl, hb'⟩; have hM' := hM.call hb'; clear hM hb'; have hM := hM'; clear hM'))
    go_ret2
    exact ⟨rfl, hM.below⟩

set_option maxRecDepth 100000 in
set_option maxHeartbeats 2000000 in
theorem implAreFoes_any {a : Nat → Addr} (d : Hd) (b1 b2 b3 : Nat) (hd : FitsH d) (x y : Int) (w : World) (hM0 : Mem w (hdB d b1 b2 b3) w) (hE : Errs a w) (hT : Tab w) :
    Calls Tryd.prog 27 #[.agg (arr 3 (hdV d b1 b2 b3)), .int .i64 x, .int .i64 y] w fun e w' => e = .returned (boolCode (areB d x y) (areC d x y)) ∧ Below w.heap.size w w' := by
  have hM := Mem.nil w
  have H0 := Lib.hid hM0
  have HE := Lib.hid hE
  have HT := Lib.hid hT
  clear hM0 hE hT
  by_cases hc : areC d x y = 0
  · obtain ⟨hOk, hys, hB, i, k, rfl, rfl, hi, hk⟩ := are_0 hc
    have h14 := hOk.n
    have HR := Lib.hid (show boolCode (areB d (i : Int) (k : Int)) (areC d (i : Int) (k : Int)) = .tuple #[.bool (foe d i k), .int .i64 0] from by rw [hB, hc]; rfl)
    have hFW := fun (ga : Option Addr) (W : World) hB hE hG => flockWith_ok (r := a 1) d b1 b2 b3 hd ga 2 2 (two2 (i : Int) (k : Int)) (by omega) W hB hE hG hOk hys
    have HAF := Lib.hid (fun (ma : Option Addr) (c : Nat) (W : World) hA => areFoes_any d ma d.n1 c i k hi (by omega) (hd.f i (by rw [hOk.l3]; exact hi)) W hA)
    clear hc hB hys
    obtain ⟨hv, hhv⟩ : ∃ f, hdV d b1 b2 b3 = f := ⟨_, rfl⟩
    rw [hhv] at hFW ⊢
    have HFW := Lib.hid hFW
    obtain ⟨n, hn⟩ : ∃ n, d.n1 = n := ⟨_, rfl⟩
    rw [hn] at HFW HAF
    clear hhv hFW hOk
    have tk_x1 : True := trivial; have tk_r1 : True := trivial; have tk_l1 : True := trivial; have tk_f8 : True := trivial; have tk_s1 : True := trivial
    go_enter Tryd.func27, Tryd.ntmps27
    go_wp2_with (first | (have _t := tk_x1; refine wpList_box rfl _ _ rfl _ _ rfl hM ?_; intro x1 W' hx1 hM'; clear hM tk_x1; have hM := hM'; clear hM') | (have _t := tk_r1; refine wpList_get rfl _ _ rfl _ _ rfl hM 0 rfl (rowTab _ _ rfl) (by omega) ?_; simp only [Nat.zero_add]; clear tk_r1) | (have _t := tk_l1; refine wpList_lit2 rfl _ _ _ _ rfl (.int .i64 (i : Int)) (.int .i64 (k : Int)) rfl rfl rfl rfl _ int64s_underR int64_infoR hM ?_; intro l1 W' hl1 hM'; clear hM tk_l1; have hM := hM'; clear hM') | (go_at_call 64; refine (HFW.out _ _ ((H0.out.call hM.below).base (Below.refl _ _)) ⟨(HE.out.below hM.below).vars 1 (by omega), HT.out.below hM.below⟩ (lit2_ints (hM.ats 0 _ _ _ rfl) rfl)).mono ?_; rintro e Wf ⟨ma, mc, m, rfl, hmc, hMA, hO, hb'⟩; have hM' := hM.call hb'; have HB0 := Lib.hid hM'.below; have hM2 := hM'.base (w' := Base.of Wf) (Below.refl _ _); have HMA := Lib.hid hMA; clear hM hb' hO hMA hM'; have hM := hM2; clear hM2) | (have _t := tk_f8; refine wpList_zero rfl _ rfl (zeroTab _ _ _ rfl) hM ?_; intro f8 W' hf8 hM'; clear hM tk_f8; have hM := hM'; clear hM') | (have _t := tk_s1; refine wpList_lay rfl _ _ _ rfl _ _ rfl _ _ rfl hM 0 rfl (by assumption) (rowTab _ _ rfl) (by omega) (fun k _ => flkV_one _ _ _ _ k) ?_; intro W' hM'; have hM2 := hM'.re 0 rfl (flkV ma n mc m) (fun k hk => by simp [lay, hk]); simp only [List.set] at hM2; clear hM hM' tk_s1; have hM := hM2; clear hM2) | (refine wpList_get1 rfl _ _ rfl _ _ rfl hM 0 rfl (cellTab _ rfl) (by omega) (.slice ma n mc) rfl ?_) | (go_at_call 70; (with_reducible refine (HAF.out ma mc _ (HMA.out.below hM.below)).mono ?_); rintro e W' ⟨rfl, hb'⟩; have hM' := hM.call hb'; clear hM hb'; have hM := hM'; clear hM'))
    go_ret2
    rw [HR.out]
    exact ⟨rfl, HB0.out.trans (hM.below.mono HB0.out.size)⟩
  · have HR := Lib.hid (show boolCode (areB d x y) (areC d x y) = .tuple #[.bool false, .int .i64 (askC d 2 (two2 x y))] from by rw [are_no hc]; rfl)
    have hz : askC d 2 (two2 x y) ≠ 0 := hc
    have hFW := fun (ga : Option Addr) (W : World) hB hE hT hG => flockWith_bad (a := a) d b1 b2 b3 hd ga 2 2 (two2 x y) (by omega) W hB hE hT hG hz
    rw [HR.out]
    clear hc HR
    obtain ⟨hv, hhv⟩ : ∃ f, hdV d b1 b2 b3 = f := ⟨_, rfl⟩
    rw [hhv] at hFW ⊢
    generalize askC d 2 (two2 x y) = C at *
    have HFW := Lib.hid hFW
    clear hhv hFW
    have tk_x1 : True := trivial; have tk_r1 : True := trivial; have tk_l1 : True := trivial; have tk_f8 : True := trivial; have tk_s1 : True := trivial
    go_enter Tryd.func27, Tryd.ntmps27
    go_wp2_with (first | (have _t := tk_x1; refine wpList_box rfl _ _ rfl _ _ rfl hM ?_; intro x1 W' hx1 hM'; clear hM tk_x1; have hM := hM'; clear hM') | (have _t := tk_r1; refine wpList_get rfl _ _ rfl _ _ rfl hM 0 rfl (rowTab _ _ rfl) (by omega) ?_; simp only [Nat.zero_add]; clear tk_r1) | (have _t := tk_l1; refine wpList_lit2 rfl _ _ _ _ rfl (.int .i64 x) (.int .i64 y) rfl rfl rfl rfl _ int64s_underR int64_infoR hM ?_; intro l1 W' hl1 hM'; clear hM tk_l1; have hM := hM'; clear hM') | (go_at_call 64; refine (HFW.out _ _ ((H0.out.call hM.below).base (Below.refl _ _)) (HE.out.below hM.below) (HT.out.below hM.below) (lit2_ints (hM.ats 0 _ _ _ rfl) rfl)).mono ?_; rintro e Wf ⟨ff, ev, rfl, hone, hEv, hb'⟩; have hM' := hM.call hb'; have hN := hEv.neq; have hGd := hEv.guard; have HEv := Lib.hid hEv; have HOne := Lib.hid hone; clear hM hb' hEv hone; have hM := hM'; clear hM') | (have _t := tk_f8; refine wpList_zero rfl _ rfl (zeroTab _ _ _ rfl) hM ?_; intro f8 W' hf8 hM'; clear hM tk_f8; have hM := hM'; clear hM') | (have _t := tk_s1; refine wpList_lay rfl _ _ _ rfl _ _ rfl _ _ rfl hM 0 rfl (by assumption) (rowTab _ _ rfl) (by omega) HOne.out ?_; intro W' hM'; clear hM tk_s1; have hM := hM'; clear hM'; simp only [List.set] at hM) | (go_at_call 65; refine (HEv.out.code (HE.out.below hM.below)).mono ?_; rintro e W' ⟨rfl, rfl⟩))
    go_ret2
    exact ⟨rfl, hM.below⟩
end Go.Proofs.YthodkbmenndnoaaDoor

