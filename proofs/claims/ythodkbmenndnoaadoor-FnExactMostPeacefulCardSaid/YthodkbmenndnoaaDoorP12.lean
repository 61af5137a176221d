/-
  Several texts in one: Largest, Count, MostI, MostX, MostS, MarkText.
-/
import Derived.Test.YthodkbmenndnoaaDoorP11
import Derived.Lib.BitFns
import Derived.Test.YthodkbmenndnoaaDoorP7
import Derived.Test.YthodkbmenndnoaaDoorP10
import Derived.Test.YthodkbmenndnoaaDoorP2
import Derived.Test.YthodkbmenndnoaaDoorP4
import Derived.Laws.IdiomStrings
/-
  spec.l06Largest by contract.
-/
namespace Go.Proofs.YthodkbmenndnoaaDoor
open Go Go.RowKit Go.BigFrame

set_option maxRecDepth 100000 in
set_option maxHeartbeats 4000000 in
theorem l06Largest_any (d : Hd) (hOk : HerdOk d) (bh b1 b2 b3 : Nat) (hd : FitsH d) (b : Bool) (w : World) (hM0 : Mem w ((bh, 3, hdV d b1 b2 b3) :: hdB d b1 b2 b3) w) :
    Calls Tryd.prog 98 #[.pointer (some ⟨bh, 0, none⟩), .bool b] w fun e w' => ∃ v, e = .returned v ∧ NewL 1 (bestU d b d.n1 (2 ^ d.n1)).length (vI (natI (bestU d b d.n1 (2 ^ d.n1)))) w v w' := by
  have hM := Mem.nil w
  have h14 := hOk.n
  have a1 : hdV d b1 b2 b3 0 = .slice (some ⟨b1, 0, none⟩) d.n1 d.n1 := rfl
  have a3 : hdV d b1 b2 b3 2 = .slice (some ⟨b3, 0, none⟩) d.n3 d.n3 := rfl
  have HH := Lib.hid (hM0.ats 0 _ _ _ rfl)
  have H3 := Lib.hid (hM0.ats 3 _ _ _ rfl)
  have l3 := hOk.l3
  obtain ⟨n, hn⟩ : ∃ n, d.n1 = n := ⟨_, rfl⟩
  rw [l3] at a3 H3
  rw [hn] at h14 a1 a3 H3 l3 ⊢
  have HARE := Lib.hid (fun (i k : Nat) (hi : i < n) (hk : k < n) (W : World) (hH : At W bh 3 (hdV d b1 b2 b3)) (hB : At W b3 n (vUint16S d.fs)) => l06Are_at d bh b3 n n n (hdV d b1 b2 b3) (vUint16S d.fs) a3 i k hi (Nat.le_refl _) (by omega) (hd.f i (by omega)) rfl W hH hB)
  have hp14 : 2 ^ n ≤ 16384 := Nat.le_trans (Nat.pow_le_pow_right (by decide) h14) (by decide)
  obtain ⟨tn, htn⟩ : ∃ tn, 2 ^ n = tn := ⟨_, rfl⟩
  have HTN := Lib.hid htn
  rw [htn] at hp14 ⊢
  have hw : wrap64 ((2 : Int) ^ n) = (tn : Int) := by
    have e : (2 : Int) ^ n = (tn : Int) := by rw [← htn]; push_cast; rfl
    rw [e]
    exact IntWalk.wrap64_in (tn : Int) (by omega)
  clear hM0 hn htn hd hOk
  generalize hdV d b1 b2 b3 = hv at a1 a3 HH HARE
  have tk_s0 : True := trivial
  go_enter Tryd.func98, Tryd.ntmps98
  go_wp2_with (first | (have _t := tk_s0; refine wpList_slice0 rfl _ _ rfl _ int64s_underR int64_info0 hM ?_; intro s0 W' hs0 hM'; clear hM tk_s0; have hM := hM'.drop; clear hM'))
  go_loopw [5, 6] (fun bv sv wr => ∃ s : Nat, s ≤ tn ∧ sv = .int .i64 s ∧ (∃ ba bc, bv = .slice ba (bestU d b n s).length bc ∧ Hid (OwnAt w wr ba (bestU d b n s))) ∧ Mem w [] wr) (fun _ sv _ => tn - (intOf sv).toNat)
  case atStart => exact ⟨0, by omega, rfl, ⟨_, _, rfl, Lib.hid (.inl rfl)⟩, hM⟩
  case round =>
    clear hM
    obtain ⟨s, hs, rfl, ⟨ba, bc, rfl, hbest⟩, hM⟩ := hrel
    obtain ⟨W0, rfl⟩ : ∃ W0, W0 = wr := ⟨_, rfl⟩
    by_cases hlt : s < tn
    · have l2 : (s : Int) < tn := by omega
      have cs : wrap64 ((s : Int) + 1) = (s : Int) + 1 := IntWalk.wrap64_in _ (by omega)
      have hM2 := hM.base (w' := Base.of W0) (Below.refl _ _)
      have HM0 := Lib.hid hM
      have HHW := Lib.hid (HH.out.below hM.below HH.out.lt)
      have H3W := Lib.hid (H3.out.below hM.below H3.out.lt)
      clear hM
      have hM := hM2
      clear hM2
      have tk_n1 : True := trivial; have tk_s1 : True := trivial
      go_wp2_with (first | (have _t := tk_n1; refine wpList_getAt1 rfl _ _ rfl _ _ rfl (HHW.out.below hM.below HHW.out.lt) (cellTab _ rfl) (by omega) _ a1 ?_; clear tk_n1) | (have _t := tk_s1; refine wpList_slice0 rfl _ _ rfl _ int64s_underR int64_info0 hM ?_; intro s1 W' hs1 hM'; clear hM tk_s1; have hM := hM'; clear hM'))
      refine Code.wp_mono ?_ (largeI_any d b bh b3 n s s1 h14 (by rw [HTN.out]; exact hlt) hv n b1 a1 W0 HHW.out H3W.out hs1 HARE.out _ _ _ _ _ _ _ _ _ _ _ _ _ _ _ _ _ _ _ _ _ _ _ _ _ _ _ _ _ _ _ _ _ _ _ _ _ _ _ _ _ _ _ _ _ _ _ _ _ _ _ _ _ _ _ _ _ _ _ _ _ _ _ _ _ _ _ _ _ _ _ _ _ _ _ _ _ _ _ _ _ hM)
      clear hM
      rintro e a' w' ⟨rfl, v10, v24, v25, v26, v27, v28, v29, v30, v31, v32, v33, v34, v35, v36, v37, v38, v39, v40, v41, v42, v43, v44, v45, v46, v47, v48, v49, v50, v51, v52, v53, v54, v55, v56, v57, v58, v59, v60, v61, v62, v63, i, lb, lc, F, rfl, hi, hgi, hlb, hlc, hF, hM⟩
      have hbl := bitsB_eq (s := s) (n := n) (by rw [HTN.out]; exact hlt) (by omega)
      cases hg : goodU d b s i
      · have HBS := Lib.hid (show bestU d b n (s + 1) = bestU d b n s from by simp only [bestU]; rw [goodU_false hg hi, Bool.false_and, if_neg (by decide)])
        clear hg hgi hbl
        go_wp2
        exact ⟨⟨s + 1, by omega, by go_num, ⟨ba, bc, by rw [HBS.out], by rw [HBS.out]; exact Lib.hid (hbest.out.below hM.below)⟩, HM0.out.call hM.below⟩, by simp [intOf]; omega⟩
      · have hin := hgi hg
        have HBS := Lib.hid (show bestU d b n (s + 1) = if (decide ((bestU d b n s).length < (bitsB s i).length) || (decide ((bitsB s i).length = (bestU d b n s).length) && lessL (bitsB s i) (bestU d b n s))) = true then bitsB s i else bestU d b n s from by
          simp only [bestU]
          rw [hin] at hg ⊢
          rw [hg, Bool.true_and, hbl])
        have hLn := bitsB_len s i
        have HF := Lib.hid hF
        clear hbl hg hgi hF hin
        obtain ⟨L, hL⟩ : ∃ L, bitsB s i = L := ⟨_, rfl⟩
        rw [hL] at HBS hLn HF hlc ⊢
        obtain ⟨B, hB⟩ : ∃ B, bestU d b n s = B := ⟨_, rfl⟩
        rw [hB] at HBS hbest ⊢
        clear hL hB
        have hNEW : OwnAt w w' (some ⟨lb, 0, none⟩) L := .inr ⟨lb, lc * 1, F, rfl, Nat.le_trans HM0.out.size hlb, by omega, fun j hj => HF.out j (by omega), hM.ats 0 _ _ _ rfl⟩
        have HNEW := Lib.hid hNEW
        clear hNEW
        by_cases hgt : B.length < L.length
        · have d3 : decide ((B.length : Int) < (L.length : Int)) = true := decide_eq_true (by omega)
          have d3n : decide (B.length < L.length) = true := decide_eq_true hgt
          have HZ := Lib.hid (HBS.out.trans (by rw [decide_eq_true hgt, Bool.true_or, if_pos rfl]))
          go_wp2
          exact ⟨⟨s + 1, by omega, by go_num, ⟨some ⟨lb, 0, none⟩, lc, by rw [HZ.out], by rw [HZ.out]; exact HNEW⟩, HM0.out.call hM.below⟩, by simp [intOf]; omega⟩
        have d3 : decide ((B.length : Int) < (L.length : Int)) = false := decide_eq_false (by omega)
        have d3n : decide (B.length < L.length) = false := decide_eq_false hgt
        by_cases heq : L.length = B.length
        · have d4 : ((L.length : Int) == (B.length : Int)) = true := by rw [heq]; simp
          have HLE := Lib.hid (fun (W : World) h1 h2 => l06Less_any (some ⟨lb, 0, none⟩) ba lc bc L B heq (by omega) W h1 h2)
          obtain ⟨lv, hlv⟩ : ∃ lv, lessL L B = lv := ⟨_, rfl⟩
          rw [hlv] at HLE
          have HHB := Lib.hid hM.below
          cases lv
          · have HZ := Lib.hid (HBS.out.trans (by rw [decide_eq_false hgt, hlv, Bool.and_false, Bool.or_false, if_neg (by decide)]))
            clear hlv heq hgt
            go_wp2_with (first | (go_at_call 119; (with_reducible refine (HLE.out _ HNEW.out.nums (hbest.out.nums.below hM.below)).mono ?_); rintro e W' ⟨rfl, hb'⟩; have HN2 := Lib.hid (HNEW.out.below hb'); have hM' := hM.call hb'; clear hM hb'; have hM := hM'; clear hM'))
            exact ⟨⟨s + 1, by omega, by go_num, ⟨ba, bc, by rw [HZ.out], by rw [HZ.out]; exact Lib.hid (hbest.out.below hM.below)⟩, HM0.out.call hM.below⟩, by simp [intOf]; omega⟩
          · have HZ := Lib.hid (HBS.out.trans (by rw [decide_eq_true heq, hlv, Bool.and_true, Bool.or_true, if_pos rfl]))
            clear hlv heq hgt
            go_wp2_with (first | (go_at_call 119; (with_reducible refine (HLE.out _ HNEW.out.nums (hbest.out.nums.below hM.below)).mono ?_); rintro e W' ⟨rfl, hb'⟩; have HN2 := Lib.hid (HNEW.out.below hb'); have hM' := hM.call hb'; clear hM hb'; have hM := hM'; clear hM'))
            exact ⟨⟨s + 1, by omega, by go_num, ⟨some ⟨lb, 0, none⟩, lc, by rw [HZ.out], by rw [HZ.out]; exact HN2⟩, HM0.out.call hM.below⟩, by simp [intOf]; omega⟩
        · have d4 : ((L.length : Int) == (B.length : Int)) = false := beq_eq_false_iff_ne.2 (by omega)
          have HZ := Lib.hid (HBS.out.trans (by rw [decide_eq_false hgt, decide_eq_false heq, Bool.false_and, Bool.or_false, if_neg (by decide)]))
          clear heq hgt
          go_wp2
          exact ⟨⟨s + 1, by omega, by go_num, ⟨ba, bc, by rw [HZ.out], by rw [HZ.out]; exact Lib.hid (hbest.out.below hM.below)⟩, HM0.out.call hM.below⟩, by simp [intOf]; omega⟩
    · obtain rfl : s = tn := by omega
      have tk_n1 : True := trivial
      go_wp2_with (first | (have _t := tk_n1; refine wpList_getAt1 rfl _ _ rfl _ _ rfl (HH.out.below hM.below HH.out.lt) (cellTab _ rfl) (by omega) _ a1 ?_; clear tk_n1))
      go_ret
      exact ⟨_, rfl, hbest.out.new hM.below⟩
end Go.Proofs.YthodkbmenndnoaaDoor

/-
  bits.OnesCount16, (goatSet).count by contracts.
-/
namespace Go.Proofs.YthodkbmenndnoaaDoor
open Go Go.RowKit Go.BigFrame

theorem pop_run {o : Oper} {a : Act} (x y : Operand) (ho : o.op = .index 9 x y) (s : ByteArray) (hs : s = Lib.pop8tab) (hx : a.eval x = .string s) (kk : IntKind) (k : Nat) (hk : k < 256) (hy : a.eval y = .int kk k) (p : Nat) (hp : Lib.pop8 k = p) (W : World) :
    (execOp a.eval o).run Tryd.prog W = .ok (.value (.int .u8 p)) W := by
  unfold execOp
  simp only [ho, hx, hy, hs, Sem.run_bind, Sem.run_pure, Lib.run_index_pop8tab W 9 kk (k : Int) Tryd.underlying9 (by omega) (by omega), Result.andThen_ok, hp]
def cnt8 (a : Nat) : Nat := ((List.range 8).filter fun k => a.testBit k).length
theorem cnt8_pop : ∀ a : Fin 256, Lib.pop8 (a.val : Int) = (cnt8 a.val : Int) := by decide +kernel
theorem cnt8_le (a : Nat) : cnt8 a ≤ 8 := by
  have := List.length_filter_le (fun k => a.testBit k) (List.range 8)
  simpa [cnt8] using this
theorem bits_cnt (s : Nat) : (bitsL s).length = cnt8 (s / 256) + cnt8 (s % 256) := by
  unfold bitsL cnt8
  have e : List.range 16 = List.range 8 ++ (List.range 8).map (8 + ·) := by decide
  rw [e, List.filter_append, List.length_append, List.filter_map, List.length_map, Nat.add_comm]
  congr 2
  · apply List.filter_congr
    intro k hk
    have : k < 8 := by simpa using hk
    simp only [Function.comp]
    rw [show (256 : Nat) = 2 ^ 8 from rfl, Nat.testBit_div_two_pow, Nat.add_comm]
  · apply List.filter_congr
    intro k hk
    have : k < 8 := by simpa using hk
    rw [show (256 : Nat) = 2 ^ 8 from rfl, Nat.testBit_mod_two_pow]
    simp [this]

set_option maxRecDepth 100000 in
set_option maxHeartbeats 1000000 in
theorem ones_any (s : Nat) (h : s < 65536) (w : World) :
    Calls Tryd.prog 111 #[.int .u16 s] w fun e w' => e = .returned (.int .i64 (bitsL s).length) ∧ Below w.heap.size w w' := by
  have hM := Mem.nil w
  obtain ⟨q, hq⟩ : ∃ q, s / 256 = q := ⟨_, rfl⟩
  obtain ⟨r, hr⟩ : ∃ r, s % 256 = r := ⟨_, rfl⟩
  have hq2 : q < 256 := by omega
  have hr2 : r < 256 := by omega
  obtain ⟨x, hx⟩ : ∃ x, cnt8 q = x := ⟨_, rfl⟩
  obtain ⟨y, hy⟩ : ∃ y, cnt8 r = y := ⟨_, rfl⟩
  have hpq : Lib.pop8 q = x := by rw [← hx]; exact cnt8_pop ⟨q, hq2⟩
  have hpr : Lib.pop8 r = y := by rw [← hy]; exact cnt8_pop ⟨r, hr2⟩
  have hx8 : x ≤ 8 := by rw [← hx]; exact cnt8_le q
  have hy8 : y ≤ 8 := by rw [← hy]; exact cnt8_le r
  have HZ := Lib.hid (show (bitsL s).length = x + y from by rw [bits_cnt, hq, hr, hx, hy])
  have eq : (s : Int) / 256 = q := by omega
  have er : (s : Int) % 256 = r := by omega
  have ea : bits .and .u16 (s : Int) 255 = r := by
    have : bits .and .u16 (s : Int) ((255 : Nat) : Int) = ((s &&& 255 : Nat) : Int) := and_u16 h (by decide)
    rw [show ((255 : Nat) : Int) = 255 from rfl] at this
    rw [this, show 255 = 2 ^ 8 - 1 from rfl, Nat.and_two_pow_sub_one_eq_mod]
    omega
  clear hx hy hq
  go_enter Tryd.func111, Tryd.ntmps111
  go_wp2
  ((try simp only [Act.put, List.setIfInBounds_toArray, List.set_cons_succ, List.set_cons_zero]); refine wp_region_mem (by kernel_rfl) (by kernel_rfl) hM ?_; clear hM; (repeat (first | go_big_quiet_skip | (go_big_quiet_want; first | (refine quiet_val ⟨_, fun W => pop_run _ _ rfl _ (by kernel_rfl) rfl .u16 q hq2 rfl x hpq W, ?_⟩; (simp only [Act.put, List.setIfInBounds_toArray, List.set_cons_succ, List.set_cons_zero]); go_big_quiet_on) | (refine quiet_val ⟨_, fun W => pop_run _ _ rfl _ (by kernel_rfl) rfl .u16 r hr2 rfl y hpr W, ?_⟩; (simp only [Act.put, List.setIfInBounds_toArray, List.set_cons_succ, List.set_cons_zero]); go_big_quiet_on) | (refine quiet_val ?_; apply Exists.intro; refine ⟨fun W => ?_, ?_⟩; (go_simp; (try simp only [eq, ea, if_true, Bool.false_eq_true, if_false]); rfl); (simp only [Act.put, List.setIfInBounds_toArray, List.set_cons_succ, List.set_cons_zero]); go_big_quiet_on)))); (with_reducible refine wpQuiet_nil ?_); intro W' hM)
  go_wp2
  go_ret
  rw [HZ.out]
  have c1 : IntKind.u8.wrap ((x : Int) + (y : Int)) = (x : Int) + y := by show ((x : Int) + y) % 256 = _; omega
  have c2 : IntKind.i64.wrap ((x : Int) + (y : Int)) = (x : Int) + y := IntWalk.i64_in _ (by omega)
  exact ⟨by rw [c1, c2]; rfl, hM.below⟩
theorem count_any (s : Nat) (h : s < 65536) (w : World) :
    Calls Tryd.prog 85 #[.int .u16 s] w fun e w' => e = .returned (.int .i64 (bitsL s).length) ∧ Below w.heap.size w w' := by
  have hM := Mem.nil w
  have HO := Lib.hid (fun (W : World) => ones_any s h W)
  obtain ⟨n, hn⟩ : ∃ n, (bitsL s).length = n := ⟨_, rfl⟩
  rw [hn] at HO ⊢
  go_enter Tryd.func85, Tryd.ntmps85
  go_wp2_with (first | (go_at_call 111; refine (HO.out _).mono ?_; rintro e W' ⟨rfl, hb'⟩; have hM' := hM.call hb'; clear hM hb'; have hM := hM'; clear hM'))
  go_ret
  exact ⟨rfl, hM.below⟩
end Go.Proofs.YthodkbmenndnoaaDoor

/-
  impl.mostOf by contract.
-/
namespace Go.Proofs.YthodkbmenndnoaaDoor
open Go Go.RowKit Go.BigFrame

theorem less_bits {p : Nat → Nat → Bool} {s t a : Nat} (hs : s < 65536) (ht : tz s = t) (h0 : s ≠ 0) (ha : ∀ k, s.testBit k = true → k ≠ t → a.testBit k = p t k) : bitsL (less s t &&& a) = (bitsL (less s t)).filter (p t) := by
  unfold bitsL
  rw [List.filter_filter]
  apply List.filter_congr
  intro k _
  rw [Nat.testBit_and, less_bit hs]
  by_cases h1 : s.testBit k = true
  · by_cases h2 : k = t
    · simp [h2]
    · rw [h1, ha k h1 h2]; simp [h2]
  · simp [h1]

set_option maxRecDepth 100000 in
set_option maxHeartbeats 1000000 in
theorem mostOf_any (p : Nat → Nat → Bool) {gf : Nat} {cap : Array Value} (eg : ∀ args w, (callFunc gf args).run Tryd.prog w = .ok (.enter gf args) w) (mates : Nat → Nat) (n : Nat) (hn : n ≤ 14) (P : World → Prop)
    (hP : ∀ W W', P W → Below W.heap.size W W' → P W') (HM : ∀ t, t < n → mates t < 65536 ∧ ∀ k, k < n → k ≠ t → (mates t).testBit k = p t k)
    (HC : ∀ t, t < n → ∀ W, P W → Calls Tryd.prog gf (#[.int .i64 (t : Int)] ++ cap) W fun e w' => e = .returned (.int .u16 (mates t)) ∧ Below W.heap.size W w') :
    ∀ (m s : Nat), s ≤ m → s < 2 ^ n → ∀ w : World, Tab w → P w → Calls Tryd.prog 100 #[.int .u16 s, .func (.func gf) #[] cap] w fun e w' => e = .returned (.int .u16 (setOf (mostL p (bitsL s)))) ∧ Below w.heap.size w w'
  | 0, s, hm, _, w, _, _ => by
    obtain rfl : s = 0 := by omega
    have hM := Mem.nil w
    have HZ := Lib.hid (show setOf (mostL p (bitsL 0)) = 0 from by rw [bitsL_zero, mostL_nil]; rfl)
    go_enter Tryd.func100, Tryd.ntmps100
    go_wp2
    go_ret
    rw [HZ.out]
    exact ⟨rfl, hM.below⟩
  | m + 1, s, hm, hs, w, hT0, hP0 => by
    have hM := Mem.nil w
    have HT := Lib.hid hT0
    have HP := Lib.hid hP0
    clear hT0 hP0
    by_cases h0 : s = 0
    · subst h0
      have HZ := Lib.hid (show setOf (mostL p (bitsL 0)) = 0 from by rw [bitsL_zero, mostL_nil]; rfl)
      go_enter Tryd.func100, Tryd.ntmps100
      go_wp2
      go_ret
      rw [HZ.out]
      exact ⟨rfl, hM.below⟩
    have hn16 : 2 ^ n ≤ 65536 := Nat.le_trans (Nat.pow_le_pow_right (by decide) (show n ≤ 16 by omega)) (by decide)
    have hs2 : s < 65536 := by omega
    obtain ⟨g1, g2, -⟩ := tz_spec hs2 h0
    obtain ⟨t, ht⟩ : ∃ t, tz s = t := ⟨_, rfl⟩
    rw [ht] at g1 g2
    have htn : t < n := bit_lt hs g2
    obtain ⟨ha, hab⟩ := HM t htn
    obtain ⟨a, hae⟩ : ∃ a, mates t = a := ⟨_, rfl⟩
    have HCt := Lib.hid (HC t htn)
    rw [hae] at ha hab HCt
    have hdec := less_dec hs2 h0
    rw [ht] at hdec
    have hcons := bitsL_cons hs2 h0
    rw [ht] at hcons
    have hr2 : less s t < 65536 := less_lt hs2
    obtain ⟨r, hr⟩ : ∃ r, less s t = r := ⟨_, rfl⟩
    have hmin : minus s (2 ^ t) = r := hr
    have hcb := less_bits (p := p) hs2 ht h0 (a := a) (fun k hk hkt => hab k (bit_lt hs hk) hkt)
    rw [hr] at hdec hcons hr2 hcb
    obtain ⟨c, hc⟩ : ∃ c, r &&& a = c := ⟨_, rfl⟩
    rw [hc] at hcb
    have hcr : c ≤ r := by rw [← hc]; exact Nat.and_le_left
    obtain ⟨u, hu⟩ : ∃ u, 2 ^ t = u := ⟨_, rfl⟩
    have hu2 : u < 65536 := by rw [← hu]; exact u16_two t g1
    rw [hu] at hmin
    have IHc := Lib.hid (mostOf_any p eg mates n hn P hP HM HC m c (by omega) (by omega))
    have IHr := Lib.hid (mostOf_any p eg mates n hn P hP HM HC m r (by omega) (by omega))
    have hsub : (bitsL s).Sublist (List.range 16) := List.filter_sublist
    have hpw : (bitsL s).Pairwise (· < ·) := bitsL_sorted s
    rw [hcons] at hsub hpw
    obtain ⟨-, hpw'⟩ := List.pairwise_cons.1 hpw
    have hsr : (bitsL r).Sublist (List.range 16) := (List.sublist_cons_self _ _).trans hsub
    obtain ⟨s1, -, -⟩ := mostL_best p _ (bitsL r) (Nat.le_refl _) hpw'
    obtain ⟨s2, -, -⟩ := mostL_best p _ ((bitsL r).filter (p t)) (Nat.le_refl _) (hpw'.filter _)
    have hwsub : (t :: mostL p (bitsL c)).Sublist (List.range 16) := by rw [hcb]; exact ((s2.trans List.filter_sublist).cons_cons t).trans hsub
    have bw := bits_setOf hwsub
    have bo := bits_setOf (s1.trans hsr)
    have hlt16 : ∀ {l : List Nat}, l.Sublist (List.range 16) → setOf l < 65536 := fun h => setOf_lt (n := 16) fun i hi => List.mem_range.1 (h.subset hi)
    have hw2 := hlt16 hwsub
    have ho2 := hlt16 (s1.trans hsr)
    have hw1 := hlt16 ((List.sublist_cons_self _ _).trans hwsub)
    obtain ⟨w1, hw1e⟩ : ∃ w1, setOf (mostL p (bitsL c)) = w1 := ⟨_, rfl⟩
    obtain ⟨ww, hwe⟩ : ∃ ww, setOf (t :: mostL p (bitsL c)) = ww := ⟨_, rfl⟩
    obtain ⟨o, hoe⟩ : ∃ o, setOf (mostL p (bitsL r)) = o := ⟨_, rfl⟩
    have hor : w1 ||| u = ww := by rw [← hwe, ← hw1e, ← hu]; rfl
    have HCO := Lib.hid (fun (W : World) => count_any o (by rw [← hoe]; exact ho2) W)
    have HCW := Lib.hid (fun (W : World) => count_any ww (by rw [← hwe]; exact hw2) W)
    have HR := Lib.hid (show setOf (mostL p (bitsL s)) = if (bitsL ww).length < (bitsL o).length then o else ww from by
      rw [hcons, mostL_cons, ← hcb, ← hwe, ← hoe, bw, bo]
      split <;> rfl)
    rw [hw1e] at IHc hw1
    rw [hoe] at IHr
    obtain ⟨lw, hlw⟩ : ∃ lw, (bitsL ww).length = lw := ⟨_, rfl⟩
    obtain ⟨lo, hlo⟩ : ∃ lo, (bitsL o).length = lo := ⟨_, rfl⟩
    rw [hlw, hlo] at HR
    rw [hlw] at HCW
    rw [hlo] at HCO
    have em : bits .andNot .u16 (s : Int) (u : Int) = (r : Int) := by rw [minus_u16 hs2 hu2, hmin]
    have ec : bits .and .u16 (r : Int) (a : Int) = (c : Int) := by rw [and_u16 hr2 ha, hc]
    have z1 : ((s : Int) == 0) = false := by simpa using h0
    have HU := Lib.hid hu
    have HTE := Lib.hid ht
    have HW := Lib.hid (show w1 < 65536 ∧ u < 65536 ∧ w1 ||| u = ww from ⟨hw1, hu2, hor⟩)
    have H0 := Lib.hid h0
    clear hM hab hcons hcb hpw hpw' hsub hsr s1 s2 hwsub bw bo hw2 ho2 hw1 hw1e hwe hoe hor hlw hlo hmin hc hu hr g2 ht hae HM HC h0
    have hM := Mem.nil w
    by_cases hlt : lw < lo
    · have lti : (lw : Int) < lo := by omega
      have d1 : decide ((lw : Int) < lo) = true := decide_eq_true lti
      have HZ := Lib.hid (HR.out.trans (if_pos hlt))
      clear HR
      go_enter Tryd.func100, Tryd.ntmps100
      go_wp2_with (first | (go_at_call 109; refine (first_any s hs2 H0.out t HTE.out _ (HT.out.below hM.below)).mono ?_; rintro e W' ⟨rfl, hb'⟩; have hM' := hM.call hb'; clear hM hb'; have hM := hM'; clear hM') | (go_at_call 103; refine (alone_any t g1 u HU.out _).mono ?_; rintro e W' ⟨rfl, hb'⟩; have hM' := hM.call hb'; clear hM hb'; have hM := hM'; clear hM') | (go_at_call 100; (with_reducible refine (IHc.out _ (HT.out.below hM.below) (hP _ _ HP.out hM.below)).mono ?_); rintro e W' ⟨rfl, hb'⟩; have hM' := hM.call hb'; clear hM hb'; have hM := hM'; clear hM') | (go_at_call 100; (with_reducible refine (IHr.out _ (HT.out.below hM.below) (hP _ _ HP.out hM.below)).mono ?_); rintro e W' ⟨rfl, hb'⟩; have hM' := hM.call hb'; clear hM hb'; have hM := hM'; clear hM') | (go_at_call 104; refine (joined_any w1 u HW.out.1 HW.out.2.1 ww HW.out.2.2 _).mono ?_; rintro e W' ⟨rfl, hb'⟩; have hM' := hM.call hb'; clear hM hb'; have hM := hM'; clear hM') | (go_at_call 85; (with_reducible refine (HCO.out _).mono ?_); rintro e W' ⟨rfl, hb'⟩; have hM' := hM.call hb'; clear hM hb'; have hM := hM'; clear hM') | (go_at_call 85; (with_reducible refine (HCW.out _).mono ?_); rintro e W' ⟨rfl, hb'⟩; have hM' := hM.call hb'; clear hM hb'; have hM := hM'; clear hM') | ((with_reducible refine (HCt.out _ (hP _ _ HP.out hM.below)).mono ?_); rintro e W' ⟨rfl, hb'⟩; have hM' := hM.call hb'; clear hM hb'; have hM := hM'; clear hM'))
      go_ret
      rw [HZ.out]
      exact ⟨rfl, hM.below⟩
    · have lti : ¬ (lw : Int) < lo := by omega
      have d1 : decide ((lw : Int) < lo) = false := decide_eq_false lti
      have HZ := Lib.hid (HR.out.trans (if_neg hlt))
      clear HR
      go_enter Tryd.func100, Tryd.ntmps100
      go_wp2_with (first | (go_at_call 109; refine (first_any s hs2 H0.out t HTE.out _ (HT.out.below hM.below)).mono ?_; rintro e W' ⟨rfl, hb'⟩; have hM' := hM.call hb'; clear hM hb'; have hM := hM'; clear hM') | (go_at_call 103; refine (alone_any t g1 u HU.out _).mono ?_; rintro e W' ⟨rfl, hb'⟩; have hM' := hM.call hb'; clear hM hb'; have hM := hM'; clear hM') | (go_at_call 100; (with_reducible refine (IHc.out _ (HT.out.below hM.below) (hP _ _ HP.out hM.below)).mono ?_); rintro e W' ⟨rfl, hb'⟩; have hM' := hM.call hb'; clear hM hb'; have hM := hM'; clear hM') | (go_at_call 100; (with_reducible refine (IHr.out _ (HT.out.below hM.below) (hP _ _ HP.out hM.below)).mono ?_); rintro e W' ⟨rfl, hb'⟩; have hM' := hM.call hb'; clear hM hb'; have hM := hM'; clear hM') | (go_at_call 104; refine (joined_any w1 u HW.out.1 HW.out.2.1 ww HW.out.2.2 _).mono ?_; rintro e W' ⟨rfl, hb'⟩; have hM' := hM.call hb'; clear hM hb'; have hM := hM'; clear hM') | (go_at_call 85; (with_reducible refine (HCO.out _).mono ?_); rintro e W' ⟨rfl, hb'⟩; have hM' := hM.call hb'; clear hM hb'; have hM := hM'; clear hM') | (go_at_call 85; (with_reducible refine (HCW.out _).mono ?_); rintro e W' ⟨rfl, hb'⟩; have hM' := hM.call hb'; clear hM hb'; have hM := hM'; clear hM') | ((with_reducible refine (HCt.out _ (hP _ _ HP.out hM.below)).mono ?_); rintro e W' ⟨rfl, hb'⟩; have hM' := hM.call hb'; clear hM hb'; have hM := hM'; clear hM'))
      go_ret
      rw [HZ.out]
      exact ⟨rfl, hM.below⟩
end Go.Proofs.YthodkbmenndnoaaDoor

/-
  impl.AllFoes, impl.MostPeaceful by contracts.
-/
namespace Go.Proofs.YthodkbmenndnoaaDoor
open Go Go.RowKit Go.BigFrame

/-- The most foes, or the most no two of which are foes; the code. -/
def mostP (d : Hd) (b : Bool) : Nat → Nat → Bool := fun a c => foe d a c == b
def mostR (d : Hd) (b : Bool) : List Nat := if herdB d then mostL (mostP d b) (List.range d.n1) else []

/-- What a closure over goats reads. -/
def GoatsAt (x : Nat) (ma : Option Addr) (mc : Nat) (d : Hd) (W : World) : Prop := At W x 1 (fun _ => .slice ma d.n1 mc) ∧ MemsAt W ma d.n1 d
theorem GoatsAt.below {x : Nat} {ma : Option Addr} {mc : Nat} {d : Hd} {W W' : World} (h : GoatsAt x ma mc d W) (hb : Below W.heap.size W W') : GoatsAt x ma mc d W' := ⟨h.1.below hb h.1.lt, h.2.below hb⟩
def FlockAt (x : Nat) (ma : Option Addr) (mc m : Nat) (d : Hd) (W : World) : Prop := At W x 2 (flkV ma d.n1 mc m) ∧ MemsAt W ma d.n1 d
theorem FlockAt.below {x : Nat} {ma : Option Addr} {mc m : Nat} {d : Hd} {W W' : World} (h : FlockAt x ma mc m d W) (hb : Below W.heap.size W W') : FlockAt x ma mc m d W' := ⟨h.1.below hb h.1.lt, h.2.below hb⟩

set_option maxRecDepth 100000 in
set_option maxHeartbeats 1000000 in
theorem matesF_any (d : Hd) (x : Nat) (ma : Option Addr) (mc : Nat) (hf : ∀ i, i < d.n1 → 0 ≤ d.fs i ∧ d.fs i ≤ 65535) (h14 : d.n1 ≤ 14) (t : Nat) (ht : t < d.n1) (w : World) (hG : GoatsAt x ma mc d w) :
    Calls Tryd.prog 120 #[.int .i64 (t : Int), .pointer (some ⟨x, 0, none⟩)] w fun e w' => e = .returned (.int .u16 ((d.fs t).toNat : Nat)) ∧ Below w.heap.size w w' := by
  have hM := Mem.nil w
  obtain ⟨hx, hA⟩ := hG
  have hft := hf t ht
  obtain ⟨s, hs⟩ : ∃ s : Nat, d.fs t = s := ⟨(d.fs t).toNat, by omega⟩
  obtain ⟨bm, N, F, rfl, hN, hF, hAm⟩ := hA.foes ht hs
  rw [hs, Int.toNat_natCast]
  obtain ⟨n, hn⟩ : ∃ n, d.n1 = n := ⟨_, rfl⟩
  rw [hn] at hx ht h14
  have l2 : (t : Int) < n := by omega
  have HX := Lib.hid hx
  have HA := Lib.hid hAm
  clear hf hA hs hn hx hAm hft
  go_enter Tryd.func120, Tryd.ntmps120
  go_wp2_with (first | (refine wpList_getAt1 rfl _ _ rfl _ _ rfl (HX.out.below hM.below HX.out.lt) (cellTab _ rfl) (by omega) (.slice (some ⟨bm, 0, none⟩) n mc) rfl ?_) | (refine wpList_getAt1 rfl _ _ rfl _ _ rfl (HA.out.below hM.below HA.out.lt) (cellTab _ rfl) hN _ hF ?_))
  go_ret
  exact ⟨rfl, hM.below⟩

set_option maxRecDepth 100000 in
set_option maxHeartbeats 1000000 in
theorem matesP_any (d : Hd) (x : Nat) (ma : Option Addr) (mc m : Nat) (hf : ∀ i, i < d.n1 → 0 ≤ d.fs i ∧ d.fs i ≤ 65535) (h14 : d.n1 ≤ 14) (t : Nat) (ht : t < d.n1) (w : World) (hG : FlockAt x ma mc m d w) :
    Calls Tryd.prog 102 #[.int .i64 (t : Int), .pointer (some ⟨x, 0, none⟩)] w fun e w' => e = .returned (.int .u16 (minus (2 ^ d.n1 - 1) (d.fs t).toNat : Nat)) ∧ Below w.heap.size w w' := by
  have hM := Mem.nil w
  obtain ⟨hx, hA⟩ := hG
  have hft := hf t ht
  obtain ⟨s, hs⟩ : ∃ s : Nat, d.fs t = s := ⟨(d.fs t).toNat, by omega⟩
  have hs2 : s < 65536 := by omega
  obtain ⟨bm, N, F, rfl, hN, hF, hAm⟩ := hA.foes ht hs
  rw [hs, Int.toNat_natCast]
  obtain ⟨n, hn⟩ : ∃ n, d.n1 = n := ⟨_, rfl⟩
  rw [hn] at hx ht h14 ⊢
  have l2 : (t : Int) < n := by omega
  obtain ⟨al, hal⟩ : ∃ al, 2 ^ n - 1 = al := ⟨_, rfl⟩
  have hal2 : al < 65536 := by rw [← hal]; have := u16_two n (by omega); omega
  have em := minus_u16 hal2 hs2
  rw [hal]
  generalize minus al s = q at em ⊢
  have HAL := Lib.hid hal
  have HX := Lib.hid hx
  have HA := Lib.hid hAm
  have e0 : flkV (some ⟨bm, 0, none⟩) n mc m 0 = .slice (some ⟨bm, 0, none⟩) n mc := rfl
  clear hf hA hs hn hx hAm hft hal
  go_enter Tryd.func102, Tryd.ntmps102
  go_wp2
  ((try simp only [Act.put, List.setIfInBounds_toArray, List.set_cons_succ, List.set_cons_zero]); refine wp_region_mem (by kernel_rfl) (by kernel_rfl) hM ?_; clear hM; (repeat (first | go_big_quiet_skip | (go_big_quiet_want; first | (refine quiet_old _ _ rfl _ _ rfl (cellTab _ rfl) (.slice (some ⟨bm, 0, none⟩) n mc) (fun W hM2 => ((HX.out.below hM2.below HX.out.lt).cell (by omega)).trans (congrArg some e0)) ?_; (simp only [Act.put, List.setIfInBounds_toArray, List.set_cons_succ, List.set_cons_zero]); go_big_quiet_on) | (refine quiet_old _ _ rfl _ _ rfl (cellTab _ rfl) (.int .u16 (s : Int)) (fun W hM2 => ((HA.out.below hM2.below HA.out.lt).cell hN).trans (congrArg some hF)) ?_; (simp only [Act.put, List.setIfInBounds_toArray, List.set_cons_succ, List.set_cons_zero]); go_big_quiet_on) | (refine quiet_call ?_; apply Exists.intro; apply Exists.intro; apply Exists.intro; refine ⟨fun W => ?_, fun W hM => ?_, ?_⟩; (go_simp; exact ⟨rfl, rfl⟩); (with_reducible exact all_any _ n mc h14 al HAL.out W); (simp only [Act.put, List.setIfInBounds_toArray, List.set_cons_succ, List.set_cons_zero]); go_big_quiet_on) | (refine quiet_val ?_; apply Exists.intro; refine ⟨fun W => ?_, ?_⟩; (go_simp; (try simp only [em, if_true, Bool.false_eq_true, if_false]); rfl); (simp only [Act.put, List.setIfInBounds_toArray, List.set_cons_succ, List.set_cons_zero]); go_big_quiet_on)))); (with_reducible refine wpQuiet_nil ?_); intro W' hM)
  go_wp2
  go_ret
  exact ⟨rfl, hM.below⟩

theorem mates_all {n k s : Nat} (hn : n ≤ 14) (hk : k < n) : (minus (2 ^ n - 1) s).testBit k = !s.testBit k := by
  rw [minus_bit (by have := u16_two n (by omega); omega), Nat.testBit_two_pow_sub_one, decide_eq_true hk, Bool.true_and]

theorem most_set (d : Hd) (b : Bool) (n : Nat) (h14 : n ≤ 14) : setOf (mostL (mostP d b) (List.range n)) < 65536 ∧ bitsL (setOf (mostL (mostP d b) (List.range n))) = mostL (mostP d b) (List.range n) :=
  ⟨setOf_lt (n := 16) (fun i hi => by
    have := (mostL_best (mostP d b) _ _ (Nat.le_refl _) (List.pairwise_lt_range (n := n))).1.subset hi
    have := List.mem_range.1 this
    omega), bits_setOf ((mostL_best (mostP d b) _ _ (Nat.le_refl _) List.pairwise_lt_range).1.trans (List.range_sublist.2 (by omega)))⟩

set_option maxRecDepth 100000 in
set_option maxHeartbeats 1000000 in
theorem allFoes_any (d : Hd) (ma : Option Addr) (mc : Nat) (hf : ∀ i, i < d.n1 → 0 ≤ d.fs i ∧ d.fs i ≤ 65535) (h14 : d.n1 ≤ 14) (q : Nat) (hq : setOf (mostL (mostP d true) (List.range d.n1)) = q) (w : World) (hA : MemsAt w ma d.n1 d) (hT : Tab w) :
    Calls Tryd.prog 99 #[.slice ma d.n1 mc] w fun e w' => e = .returned (.int .u16 q) ∧ Below w.heap.size w w' := by
  have hM := Mem.nil w
  have hMO := fun (x : Nat) (W : World) (hT : Tab W) (hP : GoatsAt x ma mc d W) => mostOf_any (mostP d true) (gf := 120) (cap := #[.pointer (some ⟨x, 0, none⟩)]) (enters_of Tryd.func120 (by kernel_rfl) rfl) (fun t => (d.fs t).toNat) d.n1 h14 (GoatsAt x ma mc d) (fun _ _ h hb => h.below hb)
    (fun t ht => ⟨by have := hf t ht; omega, fun k _ _ => by unfold mostP foe; simp⟩) (fun t ht W hW => matesF_any d x ma mc hf h14 t ht W hW) (2 ^ d.n1 - 1) (2 ^ d.n1 - 1) (Nat.le_refl _) (by have := Nat.two_pow_pos d.n1; omega) W hT hP
  rw [bits_all h14, hq] at hMO
  obtain ⟨al, hal⟩ : ∃ al, 2 ^ d.n1 - 1 = al := ⟨_, rfl⟩
  rw [hal] at hMO
  have HMO := Lib.hid hMO
  have HG := Lib.hid (fun (x : Nat) (W : World) (h1 : At W x 1 (fun _ => .slice ma d.n1 mc)) (h2 : MemsAt W ma d.n1 d) => show GoatsAt x ma mc d W from ⟨h1, h2⟩)
  obtain ⟨n, hn⟩ : ∃ n, d.n1 = n := ⟨_, rfl⟩
  rw [hn] at HG hal hA h14 ⊢
  have HAL := Lib.hid hal
  have HT := Lib.hid hT
  have HA := Lib.hid hA
  clear hMO hal hf hT hA hq hn
  have tk_x1 : True := trivial
  go_enter Tryd.func99, Tryd.ntmps99
  go_wp2_with (first | (have _t := tk_x1; refine wpList_box1 rfl _ _ rfl _ rfl rfl hM ?_; intro x1 W' hx1 hM'; clear hM tk_x1; have hM := hM'; clear hM') | (refine wpList_get1 rfl _ _ rfl _ _ rfl hM 0 rfl (cellTab _ rfl) (by omega) (.slice ma n mc) rfl ?_) | (go_at_call 101; refine (all_any ma n mc h14 al HAL.out _).mono ?_; rintro e W' ⟨rfl, hb'⟩; have hM' := hM.call hb'; clear hM hb'; have hM := hM'; clear hM') | (go_at_call 100; (with_reducible refine (HMO.out x1 _ (HT.out.below hM.below) (HG.out _ _ (hM.ats 0 _ _ _ rfl) (HA.out.below hM.below))).mono ?_); rintro e W' ⟨rfl, hb'⟩; have hM' := hM.call hb'; clear hM hb'; have hM := hM'; clear hM'))
  go_ret
  exact ⟨rfl, hM.below⟩

set_option maxRecDepth 100000 in
set_option maxHeartbeats 1000000 in
theorem implAllFoes_any {a : Nat → Addr} (d : Hd) (b1 b2 b3 : Nat) (hd : FitsH d) (w : World) (hM0 : Mem w (hdB d b1 b2 b3) w) (hE : Errs a w) (hT : Tab w) :
    Calls Tryd.prog 45 #[.agg (arr 3 (hdV d b1 b2 b3))] w (GivesF2 (mostR d true) (chkC d) w) := by
  have hM := Mem.nil w
  have H0 := Lib.hid hM0
  have HE := Lib.hid hE
  have HT := Lib.hid hT
  clear hM0 hE hT
  cases hv : herdB d
  · have HR := Lib.hid (show mostR d true = [] from by unfold mostR; rw [hv]; rfl)
    have hz : askC d 0 (fun _ => 0) ≠ 0 := show chkC d ≠ 0 from by rw [chk_1 hv]; decide
    have hFW := fun (W : World) hB hE hT => flockWith_bad (a := a) d b1 b2 b3 hd none 0 0 (fun _ => 0) (by omega) W hB hE hT (.inl rfl) hz
    unfold chkC
    clear hv
    obtain ⟨hv, hhv⟩ : ∃ f, hdV d b1 b2 b3 = f := ⟨_, rfl⟩
    rw [hhv] at hFW ⊢
    generalize askC d 0 (fun _ => 0) = C at *
    have HFW := Lib.hid hFW
    clear hhv hFW
    have tk_x1 : True := trivial; have tk_r1 : True := trivial; have tk_f8 : True := trivial; have tk_s1 : True := trivial
    go_enter Tryd.func45, Tryd.ntmps45
    go_wp2_with (first | (have _t := tk_x1; refine wpList_box rfl _ _ rfl _ _ rfl hM ?_; intro x1 W' hx1 hM'; clear hM tk_x1; have hM := hM'; clear hM') | (have _t := tk_r1; refine wpList_get rfl _ _ rfl _ _ rfl hM 0 rfl (rowTab _ _ rfl) (by omega) ?_; simp only [Nat.zero_add]; clear tk_r1) | (go_at_call 64; refine (HFW.out _ ((H0.out.call hM.below).base (Below.refl _ _)) (HE.out.below hM.below) (HT.out.below hM.below)).mono ?_; rintro e Wf ⟨ff, ev, rfl, hone, hEv, hb'⟩; have hM' := hM.call hb'; have hN := hEv.neq; have hGd := hEv.guard; have HEv := Lib.hid hEv; have HOne := Lib.hid hone; clear hM hb' hEv hone; have hM := hM'; clear hM') | (have _t := tk_f8; refine wpList_zero rfl _ rfl (zeroTab _ _ _ rfl) hM ?_; intro f8 W' hf8 hM'; clear hM tk_f8; have hM := hM'; clear hM') | (have _t := tk_s1; refine wpList_lay rfl _ _ _ rfl _ _ rfl _ _ rfl hM 0 rfl (by assumption) (rowTab _ _ rfl) (by omega) HOne.out ?_; intro W' hM'; clear hM tk_s1; have hM := hM'; clear hM'; simp only [List.set] at hM) | (go_at_call 65; refine (HEv.out.code (HE.out.below hM.below)).mono ?_; rintro e W' ⟨rfl, rfl⟩))
    go_ret2
    exact GivesF2.none hM.below HR.out rfl
  have hOk := herdB_iff.1 hv
  have h14 := hOk.n
  have hf : ∀ i, i < d.n1 → 0 ≤ d.fs i ∧ d.fs i ≤ 65535 := fun i hi => hd.f i (by rw [hOk.l3]; exact hi)
  have hFW := fun (W : World) hB hE => flockWith_ok (r := a 1) d b1 b2 b3 hd none 0 0 (fun _ => 0) (by omega) W hB hE (.inl rfl) hOk (fun j h => absurd h (by omega))
  obtain ⟨hst, hsb⟩ := most_set d true d.n1 h14
  obtain ⟨q, hq⟩ : ∃ q, setOf (mostL (mostP d true) (List.range d.n1)) = q := ⟨_, rfl⟩
  have HMOX := Lib.hid (fun (ma : Option Addr) (mc : Nat) (W : World) hA hT => allFoes_any d ma mc hf h14 q hq W hA hT)
  rw [hq] at hst hsb
  have HR := Lib.hid (show mostR d true = bitsL q ∧ chkC d = 0 from ⟨by unfold mostR; rw [hv, if_pos rfl, hsb], chk_0 hv⟩)
  have HLI := Lib.hid (fun (W : World) (h : Tab W) => list_any q hst W h)
  obtain ⟨hv0, hhv⟩ : ∃ f, hdV d b1 b2 b3 = f := ⟨_, rfl⟩
  rw [hhv] at hFW ⊢
  have HFW := Lib.hid hFW
  obtain ⟨nn, hnn⟩ : ∃ nn, d.n1 = nn := ⟨_, rfl⟩
  rw [hnn] at HFW HMOX h14
  clear hhv hFW hOk hv hf hst hsb hq
  have tk_x1 : True := trivial; have tk_r1 : True := trivial; have tk_f8 : True := trivial; have tk_s1 : True := trivial; have tk_k1 : True := trivial
  go_enter Tryd.func45, Tryd.ntmps45
  go_wp2_with (first | (have _t := tk_x1; refine wpList_box rfl _ _ rfl _ _ rfl hM ?_; intro x1 W' hx1 hM'; clear hM tk_x1; have hM := hM'; clear hM') | (have _t := tk_r1; refine wpList_get rfl _ _ rfl _ _ rfl hM 0 rfl (rowTab _ _ rfl) (by omega) ?_; simp only [Nat.zero_add]; clear tk_r1) | (go_at_call 64; refine (HFW.out _ ((H0.out.call hM.below).base (Below.refl _ _)) ⟨(HE.out.below hM.below).vars 1 (by omega), HT.out.below hM.below⟩).mono ?_; rintro e Wf ⟨ma, mc, m, rfl, hmc, hMA, hO, hb'⟩; have hM' := hM.call hb'; have HB0 := Lib.hid hM'.below; have hM2 := hM'.base (w' := Base.of Wf) (Below.refl _ _); have HMA := Lib.hid hMA; clear hM hb' hO hMA hM'; have hM := hM2; clear hM2) | (have _t := tk_f8; refine wpList_zero rfl _ rfl (zeroTab _ _ _ rfl) hM ?_; intro f8 W' hf8 hM'; clear hM tk_f8; have hM := hM'; clear hM') | (have _t := tk_s1; refine wpList_lay rfl _ _ _ rfl _ _ rfl _ _ rfl hM 0 rfl (by assumption) (rowTab _ _ rfl) (by omega) (fun k _ => flkV_one _ _ _ _ k) ?_; intro W' hM'; have hM2 := hM'.re 0 rfl (flkV ma nn mc m) (fun k hk => by simp [lay, hk]); simp only [List.set] at hM2; clear hM hM' tk_s1; have hM := hM2; clear hM2) | (have _t := tk_k1; refine wpList_get1 rfl _ _ rfl _ _ rfl hM 0 rfl (cellTab _ rfl) (by omega) (.slice ma nn mc) rfl ?_; clear tk_k1) | (go_at_call 99; (with_reducible refine (HMOX.out ma mc _ (HMA.out.below hM.below) ((HT.out.below HB0.out).below hM.below)).mono ?_); rintro e W' ⟨rfl, hb'⟩; have hM' := hM.call hb'; clear hM hb'; have hM := hM'; clear hM') | (go_at_call 66; refine (HLI.out _ ((HT.out.below HB0.out).below hM.below)).mono ?_; rintro e W' ⟨v, rfl, hL⟩; have HL := Lib.hid hL; clear hL))
  go_ret2
  rw [HR.out.1, HR.out.2]
  have hU := Lst.rise ((hM.base (w' := Base.of w) (HB0.out.trans (hM.below.mono HB0.out.size)))) HL.out
  exact GivesF2.some hU.1

set_option maxRecDepth 100000 in
set_option maxHeartbeats 1000000 in
theorem implMostPeaceful_any {a : Nat → Addr} (d : Hd) (b1 b2 b3 : Nat) (hd : FitsH d) (w : World) (hM0 : Mem w (hdB d b1 b2 b3) w) (hE : Errs a w) (hT : Tab w) :
    Calls Tryd.prog 47 #[.agg (arr 3 (hdV d b1 b2 b3))] w (GivesF2 (mostR d false) (chkC d) w) := by
  have hM := Mem.nil w
  have H0 := Lib.hid hM0
  have HE := Lib.hid hE
  have HT := Lib.hid hT
  clear hM0 hE hT
  cases hv : herdB d
  · have HR := Lib.hid (show mostR d false = [] from by unfold mostR; rw [hv]; rfl)
    have hz : askC d 0 (fun _ => 0) ≠ 0 := show chkC d ≠ 0 from by rw [chk_1 hv]; decide
    have hFW := fun (W : World) hB hE hT => flockWith_bad (a := a) d b1 b2 b3 hd none 0 0 (fun _ => 0) (by omega) W hB hE hT (.inl rfl) hz
    unfold chkC
    clear hv
    obtain ⟨hv, hhv⟩ : ∃ f, hdV d b1 b2 b3 = f := ⟨_, rfl⟩
    rw [hhv] at hFW ⊢
    generalize askC d 0 (fun _ => 0) = C at *
    have HFW := Lib.hid hFW
    clear hhv hFW
    have tk_x1 : True := trivial; have tk_r1 : True := trivial; have tk_f8 : True := trivial; have tk_s1 : True := trivial
    go_enter Tryd.func47, Tryd.ntmps47
    go_wp2_with (first | (have _t := tk_x1; refine wpList_box rfl _ _ rfl _ _ rfl hM ?_; intro x1 W' hx1 hM'; clear hM tk_x1; have hM := hM'; clear hM') | (have _t := tk_r1; refine wpList_get rfl _ _ rfl _ _ rfl hM 0 rfl (rowTab _ _ rfl) (by omega) ?_; simp only [Nat.zero_add]; clear tk_r1) | (go_at_call 64; refine (HFW.out _ ((H0.out.call hM.below).base (Below.refl _ _)) (HE.out.below hM.below) (HT.out.below hM.below)).mono ?_; rintro e Wf ⟨ff, ev, rfl, hone, hEv, hb'⟩; have hM' := hM.call hb'; have hN := hEv.neq; have hGd := hEv.guard; have HEv := Lib.hid hEv; have HOne := Lib.hid hone; clear hM hb' hEv hone; have hM := hM'; clear hM') | (have _t := tk_f8; refine wpList_zero rfl _ rfl (zeroTab _ _ _ rfl) hM ?_; intro f8 W' hf8 hM'; clear hM tk_f8; have hM := hM'; clear hM') | (have _t := tk_s1; refine wpList_lay rfl _ _ _ rfl _ _ rfl _ _ rfl hM 0 rfl (by assumption) (rowTab _ _ rfl) (by omega) HOne.out ?_; intro W' hM'; clear hM tk_s1; have hM := hM'; clear hM'; simp only [List.set] at hM) | (go_at_call 65; refine (HEv.out.code (HE.out.below hM.below)).mono ?_; rintro e W' ⟨rfl, rfl⟩))
    go_ret2
    exact GivesF2.none hM.below HR.out rfl
  have hOk := herdB_iff.1 hv
  have h14 := hOk.n
  have hf : ∀ i, i < d.n1 → 0 ≤ d.fs i ∧ d.fs i ≤ 65535 := fun i hi => hd.f i (by rw [hOk.l3]; exact hi)
  have hFW := fun (W : World) hB hE => flockWith_ok (r := a 1) d b1 b2 b3 hd none 0 0 (fun _ => 0) (by omega) W hB hE (.inl rfl) hOk (fun j h => absurd h (by omega))
  obtain ⟨hst, hsb⟩ := most_set d false d.n1 h14
  obtain ⟨q, hq⟩ : ∃ q, setOf (mostL (mostP d false) (List.range d.n1)) = q := ⟨_, rfl⟩
  have hMOX := fun (x : Nat) (ma : Option Addr) (mc m : Nat) (W : World) (hT : Tab W) (hP : FlockAt x ma mc m d W) => mostOf_any (mostP d false) (gf := 102) (cap := #[.pointer (some ⟨x, 0, none⟩)]) (enters_of Tryd.func102 (by kernel_rfl) rfl) (fun t => minus (2 ^ d.n1 - 1) (d.fs t).toNat) d.n1 h14 (FlockAt x ma mc m d) (fun _ _ h hb => h.below hb)
    (fun t ht => ⟨minus_lt (by have := u16_two d.n1 (by omega); omega), fun k hk _ => by rw [mates_all h14 hk]; unfold mostP foe; simp⟩) (fun t ht W hW => matesP_any d x ma mc m hf h14 t ht W hW) (2 ^ d.n1 - 1) (2 ^ d.n1 - 1) (Nat.le_refl _) (by have := Nat.two_pow_pos d.n1; omega) W hT hP
  rw [bits_all h14, hq] at hMOX
  obtain ⟨al, hal⟩ : ∃ al, 2 ^ d.n1 - 1 = al := ⟨_, rfl⟩
  rw [hal] at hMOX
  have HAL := Lib.hid hal
  have HMOX := Lib.hid hMOX
  have HG := Lib.hid (fun (x : Nat) (ma : Option Addr) (mc m : Nat) (W : World) (h1 : At W x 2 (flkV ma d.n1 mc m)) (h2 : MemsAt W ma d.n1 d) => show FlockAt x ma mc m d W from ⟨h1, h2⟩)
  clear hMOX hal
  rw [hq] at hst hsb
  have HR := Lib.hid (show mostR d false = bitsL q ∧ chkC d = 0 from ⟨by unfold mostR; rw [hv, if_pos rfl, hsb], chk_0 hv⟩)
  have HLI := Lib.hid (fun (W : World) (h : Tab W) => list_any q hst W h)
  obtain ⟨hv0, hhv⟩ : ∃ f, hdV d b1 b2 b3 = f := ⟨_, rfl⟩
  rw [hhv] at hFW ⊢
  have HFW := Lib.hid hFW
  obtain ⟨nn, hnn⟩ : ∃ nn, d.n1 = nn := ⟨_, rfl⟩
  rw [hnn] at HFW HAL HG h14
  clear hhv hFW hOk hv hf hst hsb hq
  have tk_x1 : True := trivial; have tk_r1 : True := trivial; have tk_f8 : True := trivial; have tk_s1 : True := trivial; have tk_k1 : True := trivial
  go_enter Tryd.func47, Tryd.ntmps47
  go_wp2_with (first | (have _t := tk_x1; refine wpList_box rfl _ _ rfl _ _ rfl hM ?_; intro x1 W' hx1 hM'; clear hM tk_x1; have hM := hM'; clear hM') | (have _t := tk_r1; refine wpList_get rfl _ _ rfl _ _ rfl hM 0 rfl (rowTab _ _ rfl) (by omega) ?_; simp only [Nat.zero_add]; clear tk_r1) | (go_at_call 64; refine (HFW.out _ ((H0.out.call hM.below).base (Below.refl _ _)) ⟨(HE.out.below hM.below).vars 1 (by omega), HT.out.below hM.below⟩).mono ?_; rintro e Wf ⟨ma, mc, m, rfl, hmc, hMA, hO, hb'⟩; have hM' := hM.call hb'; have HB0 := Lib.hid hM'.below; have hM2 := hM'.base (w' := Base.of Wf) (Below.refl _ _); have HMA := Lib.hid hMA; clear hM hb' hO hMA hM'; have hM := hM2; clear hM2) | (have _t := tk_f8; refine wpList_zero rfl _ rfl (zeroTab _ _ _ rfl) hM ?_; intro f8 W' hf8 hM'; clear hM tk_f8; have hM := hM'; clear hM') | (have _t := tk_s1; refine wpList_lay rfl _ _ _ rfl _ _ rfl _ _ rfl hM 0 rfl (by assumption) (rowTab _ _ rfl) (by omega) (fun k _ => flkV_one _ _ _ _ k) ?_; intro W' hM'; have hM2 := hM'.re 0 rfl (flkV ma nn mc m) (fun k hk => by simp [lay, hk]); simp only [List.set] at hM2; clear hM hM' tk_s1; have hM := hM2; clear hM2) | (have _t := tk_k1; refine wpList_get1 rfl _ _ rfl _ _ rfl hM 0 rfl (cellTab _ rfl) (by omega) (.slice ma nn mc) rfl ?_; clear tk_k1) | (go_at_call 101; refine (all_any ma nn mc h14 al HAL.out _).mono ?_; rintro e W' ⟨rfl, hb'⟩; have hM' := hM.call hb'; clear hM hb'; have hM := hM'; clear hM') | (go_at_call 100; (with_reducible refine (HMOX.out f8 ma mc m _ ((HT.out.below HB0.out).below hM.below) (HG.out _ _ _ _ _ (hM.ats 0 _ _ _ rfl) (HMA.out.below hM.below))).mono ?_); rintro e W' ⟨rfl, hb'⟩; have hM' := hM.call hb'; clear hM hb'; have hM := hM'; clear hM') | (go_at_call 66; refine (HLI.out _ ((HT.out.below HB0.out).below hM.below)).mono ?_; rintro e W' ⟨v, rfl, hL⟩; have HL := Lib.hid hL; clear hL))
  go_ret2
  rw [HR.out.1, HR.out.2]
  have hU := Lst.rise ((hM.base (w' := Base.of w) (HB0.out.trans (hM.below.mono HB0.out.size)))) HL.out
  exact GivesF2.some hU.1
end Go.Proofs.YthodkbmenndnoaaDoor

/-
  spec.AllFoes, spec.MostPeaceful by contracts.
-/
namespace Go.Proofs.YthodkbmenndnoaaDoor
open Go Go.RowKit Go.BigFrame

theorem NewL.nums {l : List Nat} {w : World} {v : Value} {w' : World} (h : NewL 1 l.length (vI (natI l)) w v w') : NewL 1 l.length (vInt64S (numsF (natI l))) w v w' := by
  rcases h with h | ⟨b, c, N, F, h1, h2, h3, h4, h5, h6⟩
  · exact .inl h
  · exact .inr ⟨b, c, N, F, h1, h2, h3, fun j hj => (h4 j hj).trans rfl, h5, h6⟩
set_option maxRecDepth 100000 in
set_option maxHeartbeats 2000000 in
theorem specAllFoes_any (d : Hd) (b1 b2 b3 : Nat) (hd : FitsH d) (w : World) (hM0 : Mem w (hdB d b1 b2 b3) w) :
    Calls Tryd.prog 44 #[.agg (arr 3 (hdV d b1 b2 b3))] w (GivesF2 (mostR d true) (chkC d) w) := by
  have hM : Mem w (hdB d b1 b2 b3 ++ []) w := by rw [List.append_nil]; exact hM0
  have HOK := Lib.hid (fun (bh : Nat) (W : World) hB => l06Ok_any d bh b1 b2 b3 hd W hB)
  clear hM0
  cases hv : herdB d
  · have HV := Lib.hid hv
    have HR := Lib.hid (show mostR d true = [] ∧ chkC d = 1 from ⟨by unfold mostR; rw [hv]; rfl, chk_1 hv⟩)
    clear hv
    have tk_x1 : True := trivial; have tk_s0 : True := trivial
    go_enter Tryd.func44, Tryd.ntmps44
    go_wp2_with (first | (have _t := tk_x1; refine wpList_box rfl _ _ rfl _ _ rfl hM ?_; intro x1 W' hx1 hM'; clear hM tk_x1; have hM := hM'; clear hM') | (go_at_call 51; refine (HOK.out x1 _ (hM.boxed)).mono ?_; rintro e W' ⟨rfl, hb'⟩; rw [HV.out]; have hM' := hM.call hb'; clear hM hb'; have hM := hM'; clear hM') | (have _t := tk_s0; refine wpList_slice0 rfl _ _ rfl _ int64s_underR int64_info0 hM ?_; intro s0 W' hs0 hM'; clear hM tk_s0; have hM := hM'; clear hM'))
    go_ret2
    exact GivesF2.none hM.below HR.out.1 HR.out.2.symm
  · have HV := Lib.hid hv
    have hOk := herdB_iff.1 hv
    have HLG := Lib.hid (fun (bh : Nat) (W : World) hB => l06Largest_any d hOk bh b1 b2 b3 hd true W hB)
    have HR := Lib.hid (show bestU d true d.n1 (2 ^ d.n1) = mostR d true ∧ chkC d = 0 from ⟨by unfold mostR; rw [hv, if_pos rfl]; exact bestU_most hOk.n (fun i k hi hk => hOk.symm i k hi hk), chk_0 hv⟩)
    clear hv hOk
    have tk_x1 : True := trivial
    go_enter Tryd.func44, Tryd.ntmps44
    go_wp2_with (first | (have _t := tk_x1; refine wpList_box rfl _ _ rfl _ _ rfl hM ?_; intro x1 W' hx1 hM'; clear hM tk_x1; have hM := hM'; clear hM') | (go_at_call 51; refine (HOK.out x1 _ (hM.boxed)).mono ?_; rintro e W' ⟨rfl, hb'⟩; rw [HV.out]; have hM' := hM.call hb'; clear hM hb'; have hM := hM'; clear hM') | (go_at_call 98; refine (HLG.out x1 _ (hM.boxed)).mono ?_; rintro e W' ⟨v, rfl, hN⟩; have HB0 := Lib.hid hM.below; have HN := Lib.hid hN; clear hM hN))
    go_ret2
    rw [HR.out.2]
    have hN := HN.out.nums
    rw [HR.out.1] at hN
    rcases hN with ⟨h1, ⟨a, c, h2⟩, h3⟩ | ⟨b, c, N, F, h1, h2, h3, h4, h5, h6⟩
    · exact ⟨_, rfl, .inl ⟨h1, ⟨a, c, h2⟩, HB0.out.trans (h3.mono HB0.out.size)⟩⟩
    · exact ⟨_, rfl, .inr ⟨b, c, N, F, h1, Nat.le_trans HB0.out.size h2, h3, h4, h5, HB0.out.trans (h6.mono HB0.out.size)⟩⟩
set_option maxRecDepth 100000 in
set_option maxHeartbeats 2000000 in
theorem specMostPeaceful_any (d : Hd) (b1 b2 b3 : Nat) (hd : FitsH d) (w : World) (hM0 : Mem w (hdB d b1 b2 b3) w) :
    Calls Tryd.prog 46 #[.agg (arr 3 (hdV d b1 b2 b3))] w (GivesF2 (mostR d false) (chkC d) w) := by
  have hM : Mem w (hdB d b1 b2 b3 ++ []) w := by rw [List.append_nil]; exact hM0
  have HOK := Lib.hid (fun (bh : Nat) (W : World) hB => l06Ok_any d bh b1 b2 b3 hd W hB)
  clear hM0
  cases hv : herdB d
  · have HV := Lib.hid hv
    have HR := Lib.hid (show mostR d false = [] ∧ chkC d = 1 from ⟨by unfold mostR; rw [hv]; rfl, chk_1 hv⟩)
    clear hv
    have tk_x1 : True := trivial; have tk_s0 : True := trivial
    go_enter Tryd.func46, Tryd.ntmps46
    go_wp2_with (first | (have _t := tk_x1; refine wpList_box rfl _ _ rfl _ _ rfl hM ?_; intro x1 W' hx1 hM'; clear hM tk_x1; have hM := hM'; clear hM') | (go_at_call 51; refine (HOK.out x1 _ (hM.boxed)).mono ?_; rintro e W' ⟨rfl, hb'⟩; rw [HV.out]; have hM' := hM.call hb'; clear hM hb'; have hM := hM'; clear hM') | (have _t := tk_s0; refine wpList_slice0 rfl _ _ rfl _ int64s_underR int64_info0 hM ?_; intro s0 W' hs0 hM'; clear hM tk_s0; have hM := hM'; clear hM'))
    go_ret2
    exact GivesF2.none hM.below HR.out.1 HR.out.2.symm
  · have HV := Lib.hid hv
    have hOk := herdB_iff.1 hv
    have HLG := Lib.hid (fun (bh : Nat) (W : World) hB => l06Largest_any d hOk bh b1 b2 b3 hd false W hB)
    have HR := Lib.hid (show bestU d false d.n1 (2 ^ d.n1) = mostR d false ∧ chkC d = 0 from ⟨by unfold mostR; rw [hv, if_pos rfl]; exact bestU_most hOk.n (fun i k hi hk => hOk.symm i k hi hk), chk_0 hv⟩)
    clear hv hOk
    have tk_x1 : True := trivial
    go_enter Tryd.func46, Tryd.ntmps46
    go_wp2_with (first | (have _t := tk_x1; refine wpList_box rfl _ _ rfl _ _ rfl hM ?_; intro x1 W' hx1 hM'; clear hM tk_x1; have hM := hM'; clear hM') | (go_at_call 51; refine (HOK.out x1 _ (hM.boxed)).mono ?_; rintro e W' ⟨rfl, hb'⟩; rw [HV.out]; have hM' := hM.call hb'; clear hM hb'; have hM := hM'; clear hM') | (go_at_call 98; refine (HLG.out x1 _ (hM.boxed)).mono ?_; rintro e W' ⟨v, rfl, hN⟩; have HB0 := Lib.hid hM.below; have HN := Lib.hid hN; clear hM hN))
    go_ret2
    rw [HR.out.2]
    have hN := HN.out.nums
    rw [HR.out.1] at hN
    rcases hN with ⟨h1, ⟨a, c, h2⟩, h3⟩ | ⟨b, c, N, F, h1, h2, h3, h4, h5, h6⟩
    · exact ⟨_, rfl, .inl ⟨h1, ⟨a, c, h2⟩, HB0.out.trans (h3.mono HB0.out.size)⟩⟩
    · exact ⟨_, rfl, .inr ⟨b, c, N, F, h1, Nat.le_trans HB0.out.size h2, h3, h4, h5, HB0.out.trans (h6.mono HB0.out.size)⟩⟩
end Go.Proofs.YthodkbmenndnoaaDoor

/-
  laws.markText by contract: the same text for the same number.
-/
namespace Go.Proofs.YthodkbmenndnoaaDoor
open Go Go.RowKit Go.BigFrame

def digB (k : Nat) : ByteArray := ⟨#[UInt8.ofNat (48 + k % 10)]⟩
def digs : Nat → Nat → ByteArray → ByteArray
  | 0, _, acc => acc
  | f + 1, k, acc => if k = 0 then acc else digs f (k / 10) (digB k ++ acc)
def mtxt (k : Nat) : ByteArray := if k = 0 then ⟨#[109, 48]⟩ else ⟨#[109]⟩ ++ digs 20 k ⟨#[]⟩
theorem wpList_byte {ops : Array Oper} {rest : List Oper} {o : Oper} {a : Act} {w : Base} {L : Blocks} {W : World} {Q : Exit → Act → World → Prop} (hgd : o.guard = none) (x : Operand) (ho : o.op = .convert 153 9 x) (b : Nat) (hx : a.eval x = .slice (some ⟨b, 0, none⟩) 1 1)
    (hM : Mem w L W) (i : Nat) {f : Nat → Value} (hi : L[i]? = some (b, 1, f)) (d : Nat) (hd : d < 10) (hf : f 0 = .int .u8 ((48 + d : Nat) : Int)) (u : UInt8) (hu : UInt8.ofNat (48 + d) = u)
    (h : wpList Tryd.prog ops Q rest (a.put o.dst (.string ⟨#[u]⟩)) W) : wpList Tryd.prog ops Q (o :: rest) a W := by
  subst hu
  refine wpList_plain hgd fun K hK => ?_
  have hc := (hM.ats i b 1 f hi).cell (k := 0) (by omega)
  have hr := run_convert_bytes_back (P := Tryd.prog) W 153 9 5 ⟨b, 0, none⟩ 1 [UInt8.ofNat (48 + d)] Tryd.underlying153 Tryd.underlying5 Tryd.underlying9 (fun j hj => by
    have hj0 : j = 0 := by simpa using hj
    subst hj0
    have e : (⟨b, 0, none⟩ : Addr).add 0 = ⟨b, 0, none⟩ := by simp [Addr.add]
    rw [e, hc, hf]
    have : (UInt8.ofNat (48 + d)).toNat = 48 + d := by simp; omega
    rw [List.getElem_cons_zero, this])
  unfold Oper.wp execOp
  simp only [ho, hx, Sem.run_bind, Sem.run_pure, Result.andThen_ok]
  simp only [List.length_cons, List.length_nil, Nat.zero_add] at hr
  rw [hr]
  exact hK _ _ h
theorem bytes_under : Tryd.prog.underlying 153 = some (.slice 5) := Tryd.underlying153
theorem byte_info : (Tryd.prog.info? 5).map (fun i => (i.size, i.zero)) = some (1, some (.int .u8 0)) := by kernel_rfl
theorem digs_step {f r : Nat} {acc : ByteArray} (hr : r ≠ 0) : digs (f + 1) r acc = digs f (r / 10) (digB r ++ acc) := by simp [digs, hr]
theorem digs_zero {f : Nat} {acc : ByteArray} : digs f 0 acc = acc := by cases f <;> simp [digs]
set_option maxRecDepth 100000 in
set_option maxHeartbeats 1000000 in
theorem markText_any (k : Nat) (hk : k ≤ 1000000000) (w : World) :
    Calls Tryd.prog 110 #[.int .i64 k] w fun e w' => e = .returned (.string (mtxt k)) ∧ Below w.heap.size w w' := by
  have hM := Mem.nil w
  by_cases h0 : k = 0
  · subst h0
    go_enter Tryd.func110, Tryd.ntmps110
    go_wp2
    go_ret
    exact ⟨rfl, hM.below⟩
  have hpos : 0 < (k : Int) := by omega
  have d0 : decide ((k : Int) ≤ 0) = false := decide_eq_false (by omega)
  go_enter Tryd.func110, Tryd.ntmps110
  go_wp2
  go_loopw [0, 3] (fun x s wr => ∃ (f r : Nat) (acc : ByteArray), x = .int .i64 r ∧ s = .string acc ∧ r ≤ 1000000000 ∧ r < 10 ^ f ∧ acc.size + f ≤ 20 ∧ Hid (digs f r acc = digs 20 k ⟨#[]⟩) ∧ Mem w [] wr) (fun x _ _ => (intOf x).toNat)
  case atStart => exact ⟨20, k, ⟨#[]⟩, rfl, rfl, hk, by omega, by decide, Lib.hid rfl, hM⟩
  case round =>
    clear hM
    obtain ⟨f, r, acc, rfl, rfl, hr, hrf, hf, hd, hM⟩ := hrel
    have hs1 : ({ data := #[109] } : ByteArray).size = 1 := rfl
    by_cases hz : r = 0
    · subst hz
      have HZ := Lib.hid (show (⟨#[109]⟩ ++ acc : ByteArray) = mtxt k from by unfold mtxt; rw [if_neg h0, ← hd.out, digs_zero])
      go_wp2
      try (any_goals (exfalso; omega))
      go_ret
      rw [← HZ.out]
      exact ⟨rfl, hM.below⟩
    · have l1 : (0 : Int) < r := by omega
      obtain ⟨f, rfl⟩ : ∃ f', f = f' + 1 := ⟨f - 1, by
        rcases f with _ | f
        · simp at hrf; omega
        · rfl⟩
      have hdiv : r / 10 < 10 ^ f := by rw [Nat.pow_succ] at hrf; omega
      obtain ⟨d, hdd⟩ : ∃ d, r % 10 = d := ⟨_, rfl⟩
      have hd10 : d < 10 := by omega
      have c1 : (r : Int) % 10 = (d : Int) := by omega
      have cm : Int.tmod (r : Int) 10 = (d : Int) := by rw [Int.tmod_eq_emod_of_nonneg (by omega)]; exact c1
      have c2 : IntKind.u8.wrap (48 + (d : Int)) = ((48 + d : Nat) : Int) := by rw [IntWalk.u8_in _ (by omega)]; omega
      have HD := Lib.hid (show digs f (r / 10) (⟨#[UInt8.ofNat (48 + d)]⟩ ++ acc) = digs 20 k ⟨#[]⟩ from by rw [← hd.out, digs_step hz, digB, hdd])
      obtain ⟨u, hu⟩ : ∃ u : UInt8, UInt8.ofNat (48 + d) = u := ⟨_, rfl⟩
      rw [hu] at HD
      have HU := Lib.hid hu
      have hs2 : ({ data := #[u] } : ByteArray).size = 1 := rfl
      have HS := Lib.hid (show ((⟨#[u]⟩ : ByteArray) ++ acc).size + f ≤ 20 from by rw [ByteArray.size_append, hs2]; omega)
      clear hd hdd hrf hu
      have tk_l1b : True := trivial
      go_wp2_with (first | (have _t := tk_l1b; refine wpList_lit1 rfl _ _ _ rfl (.int .u8 ((48 + d : Nat) : Int)) (by first | rfl | exact congrArg (Value.int .u8) c2) rfl _ bytes_under byte_info hM ?_; intro lb W' hlb hM'; clear hM tk_l1b; have hM := hM'; clear hM') | (refine wpList_byte rfl _ rfl _ rfl hM 0 rfl d hd10 rfl u HU.out ?_))
      go_roundw
      case rel => exact ⟨f, r / 10, _, by go_num, rfl, by omega, hdiv, HS.out, HD, hM.drop⟩
      case measure => simp [intOf]; omega
end Go.Proofs.YthodkbmenndnoaaDoor

