/-
  Several texts in one: Mutual, ValidHerdI, FlockWith.
-/
import Derived.Test.YthodkbmenndnoaaDoorP7
import Derived.WideLaws
/-
  (impl.members).areMutual by contract.
-/
namespace Go.Proofs.YthodkbmenndnoaaDoor
open Go Go.RowKit Go.BigFrame

/-- A list of numbers in memory. -/
def NumsAt (W : World) (a : Option Addr) (l : List Nat) : Prop := l = [] ∨ ∃ b N F, a = some ⟨b, 0, none⟩ ∧ l.length ≤ N ∧ (∀ j (hj : j < l.length), F j = .int .i64 (l[j] : Nat)) ∧ At W b N F
theorem NumsAt.below {W W' : World} {a : Option Addr} {l : List Nat} (h : NumsAt W a l) (hb : Below W.heap.size W W') : NumsAt W' a l := by
  rcases h with h | ⟨b, N, F, h1, h2, h3, h4⟩
  · exact .inl h
  · exact .inr ⟨b, N, F, h1, h2, h3, h4.below hb h4.lt⟩
theorem NumsAt.at {W : World} {a : Option Addr} {l : List Nat} (h : NumsAt W a l) {k : Nat} (hk : k < l.length) : ∃ b N F, a = some ⟨b, 0, none⟩ ∧ l.length ≤ N ∧ F k = .int .i64 (l[k] : Nat) ∧ At W b N F := by
  rcases h with h | ⟨b, N, F, h1, h2, h3, h4⟩
  · rw [h] at hk; simp at hk
  · exact ⟨b, N, F, h1, h2, h3 k hk, h4⟩
theorem GivesV.nums {l : List Nat} {w : World} {e : Ending} {w' : World} (h : GivesV l w e w') : ∃ a c, e = .returned (.slice a l.length c) ∧ l.length ≤ c ∧ NumsAt w' a l ∧ Below w.heap.size w w' := by
  obtain ⟨v, rfl, h | ⟨b, c, F, h1, h2, h3, h4, h5⟩⟩ := h
  · obtain ⟨h1, h2, h3⟩ := h
    have hl : l = [] := List.eq_nil_of_length_eq_zero h2
    subst hl
    exact ⟨none, 0, by rw [h1]; rfl, Nat.le_refl _, .inl rfl, h3.below⟩
  · refine ⟨_, c, by rw [h1], h3, .inr ⟨b, c * 1, F, rfl, by omega, fun j hj => ?_, h5.at0⟩, h5.below⟩
    rw [h4 j (by omega), natI_at hj]

def mutA (d : Hd) (n : Nat) : Bool := (List.range n).all (mutB d)
theorem mutA_no {d : Hd} {n i : Nat} (hi : i < n) (h : mutB d i = false) : mutA d n = false := by
  unfold mutA
  rw [List.all_eq_false]
  exact ⟨i, by simpa using hi, by simp [h]⟩
theorem mutA_yes {d : Hd} {n : Nat} (h : ∀ i, i < n → mutB d i = true) : mutA d n = true := by
  unfold mutA
  rw [List.all_eq_true]
  exact fun i hi => h i (by simpa using hi)
theorem minus_all {s n : Nat} (hs : s < 65536) (hn : n ≤ 14) : minus s (2 ^ n - 1) = 0 ↔ s < 2 ^ n := by
  constructor
  · intro h
    refine Nat.lt_of_not_le fun hle => ?_
    obtain ⟨i, hi, ht⟩ := Nat.exists_ge_and_testBit_of_ge_two_pow hle
    have := minus_bit (b := 2 ^ n - 1) hs i
    rw [h, ht, Nat.testBit_two_pow_sub_one] at this
    simp at this
    omega
  · intro h
    apply Nat.eq_of_testBit_eq
    intro i
    rw [minus_bit hs, Nat.testBit_two_pow_sub_one]
    by_cases hi : i < n
    · simp [hi]
    · have : s.testBit i = false := Nat.testBit_lt_two_pow (Nat.lt_of_lt_of_le h (Nat.pow_le_pow_right (by decide) (by omega)))
      simp [this]
theorem mut_1 {d : Hd} {i : Nat} (h : ¬ d.fs i < 2 ^ d.n1) : mutB d i = false := by simp [mutB, h]
theorem mut_2 {d : Hd} {i : Nat} (h : foe d i i = true) : mutB d i = false := by simp [mutB, h]
theorem mut_3 {d : Hd} {i k : Nat} (hk : k ∈ bitsL (d.fs i).toNat) (h : foe d k i = false) : mutB d i = false := by
  have : ((bitsL (d.fs i).toNat).all fun k => foe d k i) = false := by rw [List.all_eq_false]; exact ⟨k, hk, by simp [h]⟩
  simp [mutB, this]

set_option maxRecDepth 100000 in
set_option maxHeartbeats 4000000 in
theorem areMutual_any (d : Hd) (a : Option Addr) (c : Nat) (hn : d.n1 ≤ 14) (hf : ∀ i, i < d.n1 → 0 ≤ d.fs i ∧ d.fs i ≤ 65535) (w : World) (hA : MemsAt w a d.n1 d) (hT : Tab w) :
    Calls Tryd.prog 58 #[.slice a d.n1 c] w fun e w' => e = .returned (.bool (mutA d d.n1)) ∧ Below w.heap.size w w' := by
  have hM := Mem.nil w
  have HA := Lib.hid hA
  have HT := Lib.hid hT
  have HF := Lib.hid hf
  obtain ⟨n, hnn⟩ : ∃ n, d.n1 = n := ⟨_, rfl⟩
  have HN := Lib.hid hnn
  rw [hnn] at hn hf ⊢
  rw [hnn] at HA
  clear hA hT hf hnn
  obtain ⟨al, hal⟩ : ∃ al, 2 ^ n - 1 = al := ⟨_, rfl⟩
  have HAL := Lib.hid hal
  have hal2 : al < 65536 := by rw [← hal]; have := u16_two n (by omega); omega
  clear hal
  go_enter Tryd.func58, Tryd.ntmps58
  go_wp2
  go_loopw [10] (fun i wr => ∃ k : Nat, k ≤ n ∧ i = .int .i64 k ∧ Hid (∀ j, j < k → mutB d j = true) ∧ Mem w [] wr) (fun i _ => n - (intOf i).toNat)
  case atStart => exact ⟨0, by omega, rfl, Lib.hid (fun j hj => absurd hj (by omega)), hM⟩
  case round =>
    clear hM
    obtain ⟨k, hk, rfl, hall, hM⟩ := hrel
    by_cases hlt : k < n
    · have l2 : (k : Int) < n := by omega
      obtain ⟨bm, N, F, hae, hN, -, hF, hAt⟩ := (HA.out.below hM.below).row hlt
      obtain ⟨s, hs⟩ : ∃ s : Nat, d.fs k = s := ⟨(d.fs k).toNat, by have := HF.out k (by rw [HN.out]; exact hlt); omega⟩
      have hs2 : s < 65536 := by have := HF.out k (by rw [HN.out]; exact hlt); omega
      have g2 : gMem d k 2 = .int .u16 s := by rw [← hs]; rfl
      have htn : (d.fs k).toNat = s := by omega
      obtain ⟨q, hq⟩ : ∃ q, minus s al = q := ⟨_, rfl⟩
      have em : bits .andNot .u16 (s : Int) (al : Int) = (q : Int) := by rw [minus_u16 hs2 hal2, hq]
      have hqz : q = 0 ↔ s < 2 ^ n := by rw [← hq, ← HAL.out]; exact minus_all hs2 hn
      have HS := Lib.hid hs
      have HTN := Lib.hid htn
      have HFr := Lib.hid hF
      have HAt := Lib.hid hAt
      have Hae := Lib.hid hae
      clear hs hq hF hAt htn
      by_cases h0 : q = 0
      case neg =>
        have z1 : ((q : Int) != 0) = true := by simpa using h0
        have z2 : ((q : Int) == 0) = false := by simpa using h0
        have HZ := Lib.hid (mutA_no hlt (mut_1 (d := d) (i := k) (by rw [HN.out, HS.out]; have := mt hqz.2 h0; intro h; apply this; exact_mod_cast h)))
        clear hqz h0
        have tk_b3 : True := trivial; have tk_s1 : True := trivial
        subst hae
        go_wp2_with (first | (refine wpList_getAt rfl _ _ rfl _ _ rfl HAt.out (rowTab _ _ rfl) (by omega) (gMem d k) HFr.out ?_) | (have _t := tk_b3; refine wpList_zero rfl _ rfl (zeroTab _ _ _ rfl) hM ?_; intro b3 W' hb3 hM'; clear hM tk_b3; have hM := hM'; clear hM') | (have _t := tk_s1; refine wpList_lay rfl _ _ _ rfl _ _ rfl _ _ rfl hM 0 rfl (by assumption) (rowTab _ _ rfl) (by omega) (fun j _ => gMem_one d k j) ?_; intro W' hM'; have hM2 := hM'.re 0 rfl (gMem d k) (fun k hk => by simp [lay, hk]); simp only [List.set_cons_zero] at hM2; clear hM hM' tk_s1; have hM := hM2; clear hM2))
        ((try simp only [Act.put, List.setIfInBounds_toArray, List.set_cons_succ, List.set_cons_zero]); refine wp_region_mem (by kernel_rfl) (by kernel_rfl) hM ?_; clear hM; (repeat (first | go_big_quiet_skip | (go_big_quiet_want; first | (refine quiet_get1 _ _ rfl _ _ rfl 0 rfl (cellTab _ rfl) (by omega) _ (g2) ?_; (simp only [Act.put, List.setIfInBounds_toArray, List.set_cons_succ, List.set_cons_zero]); go_big_quiet_on) | (refine quiet_call ?_; apply Exists.intro; apply Exists.intro; apply Exists.intro; refine ⟨fun W => ?_, fun W hM => ?_, ?_⟩; (go_simp; exact ⟨rfl, rfl⟩); (with_reducible exact all_any _ n c hn al HAL.out W); (simp only [Act.put, List.setIfInBounds_toArray, List.set_cons_succ, List.set_cons_zero]); go_big_quiet_on) | (refine quiet_val ?_; apply Exists.intro; refine ⟨fun W => ?_, ?_⟩; (go_simp; rfl); (simp only [Act.put, List.setIfInBounds_toArray, List.set_cons_succ, List.set_cons_zero]); go_big_quiet_on)))); (with_reducible refine wpQuiet_nil ?_); intro W' hM)
        go_wp2
        go_ret
        rw [HZ.out]
        exact ⟨rfl, hM.below⟩
      subst h0
      have hsn : s < 2 ^ n := hqz.1 rfl
      have hfoe : foe d k k = s.testBit k := by unfold foe; rw [HTN.out]
      have HSN := Lib.hid hsn
      clear hqz hsn
      cases hb : s.testBit k
      case true =>
        have HB := Lib.hid hb
        have HZ := Lib.hid (mutA_no hlt (mut_2 (hfoe.trans hb)))
        clear hb hfoe
        have tk_b3 : True := trivial; have tk_s1 : True := trivial
        subst hae
        go_wp2_with (first | (refine wpList_getAt rfl _ _ rfl _ _ rfl HAt.out (rowTab _ _ rfl) (by omega) (gMem d k) HFr.out ?_) | (have _t := tk_b3; refine wpList_zero rfl _ rfl (zeroTab _ _ _ rfl) hM ?_; intro b3 W' hb3 hM'; clear hM tk_b3; have hM := hM'; clear hM') | (have _t := tk_s1; refine wpList_lay rfl _ _ _ rfl _ _ rfl _ _ rfl hM 0 rfl (by assumption) (rowTab _ _ rfl) (by omega) (fun j _ => gMem_one d k j) ?_; intro W' hM'; have hM2 := hM'.re 0 rfl (gMem d k) (fun k hk => by simp [lay, hk]); simp only [List.set_cons_zero] at hM2; clear hM hM' tk_s1; have hM := hM2; clear hM2))
        ((try simp only [Act.put, List.setIfInBounds_toArray, List.set_cons_succ, List.set_cons_zero]); refine wp_region_mem (by kernel_rfl) (by kernel_rfl) hM ?_; clear hM; (repeat (first | go_big_quiet_skip | (go_big_quiet_want; first | (refine quiet_get1 _ _ rfl _ _ rfl 0 rfl (cellTab _ rfl) (by omega) _ (g2) ?_; (simp only [Act.put, List.setIfInBounds_toArray, List.set_cons_succ, List.set_cons_zero]); go_big_quiet_on) | (refine quiet_call ?_; apply Exists.intro; apply Exists.intro; apply Exists.intro; refine ⟨fun W => ?_, fun W hM => ?_, ?_⟩; (go_simp; exact ⟨rfl, rfl⟩); (with_reducible exact all_any _ n c hn al HAL.out W); (simp only [Act.put, List.setIfInBounds_toArray, List.set_cons_succ, List.set_cons_zero]); go_big_quiet_on) | (refine quiet_call ?_; apply Exists.intro; apply Exists.intro; apply Exists.intro; refine ⟨fun W => ?_, fun W hM => ?_, ?_⟩; (go_simp; exact ⟨rfl, rfl⟩); (with_reducible exact has_any s hs2 k (by omega) W); (simp only [HB.out]); (simp only [Act.put, List.setIfInBounds_toArray, List.set_cons_succ, List.set_cons_zero]); go_big_quiet_on) | (refine quiet_val ?_; apply Exists.intro; refine ⟨fun W => ?_, ?_⟩; (go_simp; rfl); (simp only [Act.put, List.setIfInBounds_toArray, List.set_cons_succ, List.set_cons_zero]); go_big_quiet_on)))); (with_reducible refine wpQuiet_nil ?_); intro W' hM)
        go_wp2
        go_ret
        rw [HZ.out]
        exact ⟨rfl, hM.below⟩
      have HB := Lib.hid hb
      have HFO := Lib.hid hfoe
      clear hb hfoe
      have tk_b3 : True := trivial; have tk_s1 : True := trivial
      subst hae
      go_wp2_with (first | (refine wpList_getAt rfl _ _ rfl _ _ rfl HAt.out (rowTab _ _ rfl) (by omega) (gMem d k) HFr.out ?_) | (have _t := tk_b3; refine wpList_zero rfl _ rfl (zeroTab _ _ _ rfl) hM ?_; intro b3 W' hb3 hM'; clear hM tk_b3; have hM := hM'; clear hM') | (have _t := tk_s1; refine wpList_lay rfl _ _ _ rfl _ _ rfl _ _ rfl hM 0 rfl (by assumption) (rowTab _ _ rfl) (by omega) (fun j _ => gMem_one d k j) ?_; intro W' hM'; have hM2 := hM'.re 0 rfl (gMem d k) (fun k hk => by simp [lay, hk]); simp only [List.set_cons_zero] at hM2; clear hM hM' tk_s1; have hM := hM2; clear hM2))
      ((try simp only [Act.put, List.setIfInBounds_toArray, List.set_cons_succ, List.set_cons_zero]); refine wp_region_mem (by kernel_rfl) (by kernel_rfl) hM ?_; clear hM; (repeat (first | go_big_quiet_skip | (go_big_quiet_want; first | (refine quiet_get1 _ _ rfl _ _ rfl 0 rfl (cellTab _ rfl) (by omega) _ (g2) ?_; (simp only [Act.put, List.setIfInBounds_toArray, List.set_cons_succ, List.set_cons_zero]); go_big_quiet_on) | (refine quiet_call ?_; apply Exists.intro; apply Exists.intro; apply Exists.intro; refine ⟨fun W => ?_, fun W hM => ?_, ?_⟩; (go_simp; exact ⟨rfl, rfl⟩); (with_reducible exact all_any _ n c hn al HAL.out W); (simp only [Act.put, List.setIfInBounds_toArray, List.set_cons_succ, List.set_cons_zero]); go_big_quiet_on) | (refine quiet_call ?_; apply Exists.intro; apply Exists.intro; apply Exists.intro; refine ⟨fun W => ?_, fun W hM => ?_, ?_⟩; (go_simp; exact ⟨rfl, rfl⟩); (with_reducible exact has_any s hs2 k (by omega) W); (simp only [HB.out]); (simp only [Act.put, List.setIfInBounds_toArray, List.set_cons_succ, List.set_cons_zero]); go_big_quiet_on) | (refine quiet_val ?_; apply Exists.intro; refine ⟨fun W => ?_, ?_⟩; (go_simp; rfl); (simp only [Act.put, List.setIfInBounds_toArray, List.set_cons_succ, List.set_cons_zero]); go_big_quiet_on)))); (with_reducible refine wpQuiet_nil ?_); intro W' hM)
      go_wp2_with (first | (refine wpList_get1 rfl _ _ rfl _ _ rfl hM 0 rfl (cellTab _ rfl) (by omega) _ g2 ?_) | (go_at_call 66; refine (list_any s hs2 _ (HT.out.below hM.below)).mono ?_; rintro e W' hG; obtain ⟨la, lc, rfl, hlc, hL, hb'⟩ := hG.nums; have hM' := hM.call hb'; have HL := Lib.hid hL; clear hM hb' hG hL; have hM := hM'; clear hM'))
      have hmem : ∀ x, x ∈ bitsL s → s.testBit x = true := fun x hx => (mem_bitsL hs2).1 hx
      have Hmem := Lib.hid hmem
      have hlen := bitsL_len s
      have HB3 := Lib.hid (fun x (hx : x ∈ bitsL s) (h : foe d x k = false) => mutA_no hlt (mut_3 (d := d) (i := k) (k := x) (by rw [HTN.out]; exact hx) h))
      have HMY := Lib.hid (fun (h : ∀ x, x ∈ bitsL s → foe d x k = true) => show mutB d k = true from by
        unfold mutB
        rw [HTN.out, decide_eq_true (by rw [HS.out, HN.out]; have := HSN.out; exact_mod_cast this), HFO.out, HB.out]
        simpa using h)
      clear hmem
      have HL' := HL
      clear HL
      generalize bitsL s = l at *
      go_loopw [32] (fun i wr => ∃ j : Nat, j ≤ l.length ∧ i = .int .i64 j ∧ Hid (∀ q (hq : q < l.length), q < j → foe d l[q] k = true) ∧ Hid (NumsAt wr la l) ∧ Mem w [(b3, 3, gMem d k)] wr) (fun i _ => l.length - (intOf i).toNat)
      case atStart => exact ⟨0, by omega, rfl, Lib.hid (fun q _ h => absurd h (by omega)), HL', hM⟩
      case round =>
        clear hM HL'
        obtain ⟨j, hj, rfl, hall2, HL, hM⟩ := hrel
        by_cases hjl : j < l.length
        · have l3 : (j : Int) < l.length := by omega
          obtain ⟨bl, NL, FL, rfl, hNL, hFL, hAL⟩ := HL.out.at hjl
          have hbit := Hmem.out _ (List.getElem_mem hjl)
          have hxn : l[j] < n := bit_lt HSN.out hbit
          have hxin := List.getElem_mem hjl
          obtain ⟨x, hx⟩ : ∃ x, l[j] = x := ⟨_, rfl⟩
          rw [hx] at hFL hbit hxn hxin
          have hfx := HF.out x (by rw [HN.out]; exact hxn)
          have HAL := Lib.hid hAL
          have HX := Lib.hid hx
          clear hAL hx hbit
          cases hfo : foe d x k
          · have HFX := Lib.hid hfo
            have HZ := Lib.hid (HB3.out x hxin hfo)
            clear hfo hxin
            go_wp2_with (first | (refine wpList_getAt1 rfl _ _ rfl _ _ rfl HAL.out (cellTab _ rfl) (by omega) _ hFL ?_) | (go_at_call 70; refine (areFoes_any d _ n c x k hxn (by omega) hfx _ (HA.out.below hM.below)).mono ?_; rintro e W' ⟨rfl, hb'⟩; rw [HFX.out]; have hM' := hM.call hb'; clear hM hb'; have hM := hM'; clear hM'))
            go_ret
            rw [HZ.out]
            exact ⟨rfl, hM.below⟩
          · have HFX := Lib.hid hfo
            clear hfo hxin
            go_wp2_with (first | (refine wpList_getAt1 rfl _ _ rfl _ _ rfl HAL.out (cellTab _ rfl) (by omega) _ hFL ?_) | (go_at_call 70; refine (areFoes_any d _ n c x k hxn (by omega) hfx _ (HA.out.below hM.below)).mono ?_; rintro e W' ⟨rfl, hb'⟩; rw [HFX.out]; have hM' := hM.call hb'; have HL2 := Lib.hid (HL.out.below hb'); clear hM hb'; have hM := hM'; clear hM'))
            go_roundw
            case rel => exact ⟨j + 1, by omega, by go_num, Lib.hid (fun q hq hqj => by
              by_cases e : q = j
              · subst e; rw [HX.out]; exact HFX.out
              · exact hall2.out q hq (by omega)), HL2, hM⟩
            case measure => simp [intOf]; omega
        · obtain rfl : j = l.length := by omega
          have HZ := Lib.hid (HMY.out (fun x hx => by
            obtain ⟨q, hq, rfl⟩ := List.getElem_of_mem hx
            exact hall2.out q hq hq))
          go_wp2
          go_roundw
          case rel => exact ⟨k + 1, by omega, by go_num, Lib.hid (fun q hq => by
            by_cases e : q = k
            · rw [e]; exact HZ.out
            · exact hall.out q (by omega)), hM.drop⟩
          case measure => simp [intOf]; omega
    · obtain rfl : k = n := by omega
      have HZ := Lib.hid (mutA_yes hall.out)
      go_wp2
      go_ret
      rw [HZ.out]
      exact ⟨rfl, hM.below⟩
end Go.Proofs.YthodkbmenndnoaaDoor

/-
  impl.ValidHerd by contract.
-/
namespace Go.Proofs.YthodkbmenndnoaaDoor
open Go Go.RowKit Go.BigFrame Go.Maps

set_option maxRecDepth 100000 in
theorem len_puts {W : World} {m : Nat} {ks : List ByteArray} {f : ByteArray → Value} (h : W.heap[m]? = some (mapO kvS ks f)) (ty : TypeId) :
    (Builtin.len_ #[68] ty #[.map (some m)]).run Tryd.prog W = .ok (.int .i64 (ks.length : Nat)) W := by
  rw [run_len_map W _ ty m _ _ Tryd.underlying68 h]
  simp [goInt, ents_length]
theorem Lst.mems {d : Hd} {w : World} {n : Nat} {v : Value} {W : World} (h : Lst w [] 3 v n (sMem d) W) : ∃ a c, v = .slice a n c ∧ n ≤ c ∧ MemsAt W a n d ∧ Below w.heap.size w W := by
  rcases h with ⟨h1, h2, h3⟩ | ⟨b, c, F, h1, h2, h3, h4, h5⟩
  · exact ⟨none, 0, by rw [h1, h2], by omega, .inl h2, h3.below⟩
  · exact ⟨_, c, h1, h3, .inr ⟨b, c * 3, F, rfl, Nat.mul_le_mul_right _ h3, h4, h5.at0⟩, h5.below⟩
theorem herdB_n {d : Hd} (h : ¬ (d.n1 ≤ 14 ∧ d.n2 = d.n1 ∧ d.n3 = d.n1)) : herdB d = false := by simp [herdB, h]
theorem toldAll_no {d : Hd} (hf : ∀ i, i < d.n3 → 0 ≤ d.fs i ∧ d.fs i ≤ 65535) (h1 : d.n1 ≤ 14) (h2 : d.n2 = d.n1) (h3 : d.n3 = d.n1) {i : Nat} (hi : i < d.n1) (h : toldB d i = false) : herdB d = false := by
  cases e : herdB d with
  | false => rfl
  | true => have := ((herdB_impl hf h1 h2 h3).1 e).1 i hi; rw [h] at this; exact absurd this (by decide)
theorem keys_no {d : Hd} (hf : ∀ i, i < d.n3 → 0 ≤ d.fs i ∧ d.fs i ≤ 65535) (h1 : d.n1 ≤ 14) (h2 : d.n2 = d.n1) (h3 : d.n3 = d.n1) (h : (keysU d d.n1).length ≠ d.n1) : herdB d = false := by
  cases e : herdB d with
  | false => rfl
  | true => exact absurd ((herdB_impl hf h1 h2 h3).1 e).2.1 h
theorem herdB_mut {d : Hd} (hf : ∀ i, i < d.n3 → 0 ≤ d.fs i ∧ d.fs i ≤ 65535) (h1 : d.n1 ≤ 14) (h2 : d.n2 = d.n1) (h3 : d.n3 = d.n1) (ht : ∀ i, i < d.n1 → toldB d i = true) (hk : (keysU d d.n1).length = d.n1) : herdB d = mutA d d.n1 := by
  rw [Bool.eq_iff_iff, herdB_impl hf h1 h2 h3]
  unfold mutA
  rw [List.all_eq_true]
  exact ⟨fun h i hi => h.2.2 i (by simpa using hi), fun h => ⟨ht, hk, fun i hi => h i (by simpa using hi)⟩⟩

set_option maxRecDepth 100000 in
set_option maxHeartbeats 4000000 in
theorem implValidHerd_any {r : Addr} (d : Hd) (b1 b2 b3 : Nat) (hd : FitsH d) (w : World) (hM0 : Mem w (hdB d b1 b2 b3) w) (hE : HEnv r w) :
    Calls Tryd.prog 18 #[.agg (arr 3 (hdV d b1 b2 b3))] w fun e w' => e = .returned (.bool (herdB d)) ∧ Below w.heap.size w w' := by
  obtain ⟨l1, l2, l3, hs, he, hf⟩ := hd
  unfold maxLen at l1 l2 l3
  have HE := Lib.hid hE
  have H0 := Lib.hid hM0
  have HS := Lib.hid hs
  have HX := Lib.hid he
  have HF := Lib.hid hf
  have a1 : hdV d b1 b2 b3 0 = .slice (some ⟨b1, 0, none⟩) d.n1 d.n1 := rfl
  have a2 : hdV d b1 b2 b3 1 = .slice (some ⟨b2, 0, none⟩) d.n2 d.n2 := rfl
  have a3 : hdV d b1 b2 b3 2 = .slice (some ⟨b3, 0, none⟩) d.n3 d.n3 := rfl
  have hM := hM0
  simp only [hdB] at hM
  clear hE hM0 hs he hf
  obtain ⟨hv, hhv⟩ : ∃ f, hdV d b1 b2 b3 = f := ⟨_, rfl⟩
  rw [hhv] at a1 a2 a3 ⊢
  by_cases c1 : 14 < d.n1
  · have d1 : decide ((14 : Int) < d.n1) = true := decide_eq_true (by omega)
    have HZ := Lib.hid (herdB_n (d := d) (by omega))
    obtain ⟨n, hn⟩ : ∃ n, d.n1 = n := ⟨_, rfl⟩
    rw [hn] at a1 d1
    clear hn
    have tk_x1 : True := trivial
    go_enter Tryd.func18, Tryd.ntmps18
    go_wp2_with (first | (have _t := tk_x1; refine wpList_box rfl _ _ rfl _ _ rfl hM ?_; intro x1 W' hx1 hM'; clear hM tk_x1; have hM := hM'; clear hM') | (refine wpList_get1 rfl _ _ rfl _ _ rfl hM 0 rfl (cellTab _ rfl) (by omega) _ a1 ?_))
    go_ret
    rw [HZ.out]
    exact ⟨rfl, hM.below⟩
  have d1 : decide ((14 : Int) < d.n1) = false := decide_eq_false (by omega)
  by_cases c2 : d.n2 = d.n1
  case neg =>
    have z1 : ((d.n2 : Int) != (d.n1 : Int)) = true := bne_iff_ne.2 (by omega)
    have z2 : ((d.n2 : Int) == (d.n1 : Int)) = false := beq_eq_false_iff_ne.2 (by omega)
    have z3 : ¬ (d.n2 : Int) = d.n1 := by omega
    have HZ := Lib.hid (herdB_n (d := d) (by omega))
    clear c2
    have tk_x1 : True := trivial
    go_enter Tryd.func18, Tryd.ntmps18
    go_wp2_with (first | (have _t := tk_x1; refine wpList_box rfl _ _ rfl _ _ rfl hM ?_; intro x1 W' hx1 hM'; clear hM tk_x1; have hM := hM'; clear hM') | (refine wpList_get1 rfl _ _ rfl _ _ rfl hM 0 rfl (cellTab _ rfl) (by omega) _ a1 ?_) | (refine wpList_gget1 ?_ _ _ rfl _ _ rfl hM 0 rfl (cellTab _ rfl) (by omega) _ a2 ?_; kernel_rfl))
    go_ret
    rw [HZ.out]
    exact ⟨rfl, hM.below⟩
  by_cases c3 : d.n3 = d.n1
  case neg =>
    have z1 : ((d.n3 : Int) != (d.n1 : Int)) = true := bne_iff_ne.2 (by omega)
    have z2 : ((d.n3 : Int) == (d.n1 : Int)) = false := beq_eq_false_iff_ne.2 (by omega)
    have z3 : ¬ (d.n3 : Int) = d.n1 := by omega
    have HZ := Lib.hid (herdB_n (d := d) (by omega))
    rw [c2] at a2
    clear c3
    have tk_x1 : True := trivial
    go_enter Tryd.func18, Tryd.ntmps18
    go_wp2_with (first | (have _t := tk_x1; refine wpList_box rfl _ _ rfl _ _ rfl hM ?_; intro x1 W' hx1 hM'; clear hM tk_x1; have hM := hM'; clear hM') | (refine wpList_get1 rfl _ _ rfl _ _ rfl hM 0 rfl (cellTab _ rfl) (by omega) _ a1 ?_) | (refine wpList_gget1 ?_ _ _ rfl _ _ rfl hM 0 rfl (cellTab _ rfl) (by omega) _ a2 ?_; kernel_rfl) | (refine wpList_gget1 ?_ _ _ rfl _ _ rfl hM 0 rfl (cellTab _ rfl) (by omega) _ a3 ?_; kernel_rfl))
    go_ret
    rw [HZ.out]
    exact ⟨rfl, hM.below⟩
  have Hc2 := Lib.hid c2
  have Hc3 := Lib.hid c3
  rw [c2] at a2
  rw [c3] at a3
  obtain ⟨n, hn⟩ : ∃ n, d.n1 = n := ⟨_, rfl⟩
  have hMO := fun (W : World) (hB : Mem W (hdB d b1 b2 b3) W) => membersOf_l d b1 b2 b3 (by omega) c2 c3 W hB
  rw [hhv, hn] at hMO
  have HMO := Lib.hid hMO
  have hs' := HS.out
  rw [hn] at hs'
  have HS' := Lib.hid hs'
  have Hn := Lib.hid hn
  rw [hn] at a1 a2 a3 d1 c1
  clear c2 c3 hn hhv l2 l3 hM hMO hs'
  have hM : Mem w [] w := Mem.nil w
  have tk_x1 : True := trivial; have tk_r1 : True := trivial; have tk_m1 : True := trivial; have tk_f1 : True := trivial; have tk_f4 : True := trivial; have tk_s1 : True := trivial
  go_enter Tryd.func18, Tryd.ntmps18
  go_wp2_with (first | (have _t := tk_x1; refine wpList_box rfl _ _ rfl _ _ rfl hM ?_; intro x1 W' hx1 hM'; clear hM tk_x1; have hM := hM'; clear hM') | (have _t := tk_r1; refine wpList_get rfl _ _ rfl _ _ rfl hM 0 rfl (rowTab _ _ rfl) (by omega) ?_; simp only [Nat.zero_add]; clear tk_r1) | (refine wpList_get1 rfl _ _ rfl _ _ rfl hM 0 rfl (cellTab _ rfl) (by omega) _ a1 ?_) | (refine wpList_gget1 ?_ _ _ rfl _ _ rfl hM 0 rfl (cellTab _ rfl) (by omega) _ a2 ?_; kernel_rfl) | (refine wpList_gget1 ?_ _ _ rfl _ _ rfl hM 0 rfl (cellTab _ rfl) (by omega) _ a3 ?_; kernel_rfl) | (have _t := tk_m1; go_at_call 56; refine (HMO.out _ ((H0.out.call hM.below).base (Below.refl _ _))).mono ?_; rintro e W' ⟨v, rfl, hL⟩; obtain ⟨ma, mc, rfl, hmc, hA, hb'⟩ := hL.mems; have hM' := hM.call hb'; have HA := Lib.hid hA; clear hM hb' hA hL tk_m1; have hM := hM'; clear hM') | (have _t := tk_f1; go_at_call 55; refine (flockOf_any d ma n mc (by omega) HS'.out _ HA.out).mono ?_; rintro e Wf ⟨m, rfl, hmm, hO, hb'⟩; have hM' := (hM.call hb'); have HB0 := Lib.hid hM'.below; have hM2 := hM'.base (w' := Base.of Wf) (Below.refl _ _); have HA2 := Lib.hid (HA.out.below hb'); have HO := Lib.hid hO; clear hM hb' hO HA hM' tk_f1; have hM := hM2; clear hM2) | (have _t := tk_f4; refine wpList_zero rfl _ rfl (zeroTab _ _ _ rfl) hM ?_; intro f4 W' hf4 hM'; clear hM tk_f4; have hM := hM'; clear hM') | (have _t := tk_s1; refine wpList_lay rfl _ _ _ rfl _ _ rfl _ _ rfl hM 0 rfl (by assumption) (rowTab _ _ rfl) (by omega) (fun k _ => flkV_one _ _ _ _ k) ?_; intro W' hM'; have hM2 := hM'.re 0 rfl (flkV ma n mc m) (fun k hk => by simp [lay, hk]); simp only [List.set_cons_zero] at hM2; clear hM hM' tk_s1; have hM := hM2; clear hM2) | (refine wpList_get1 rfl _ _ rfl _ _ rfl hM 0 rfl (cellTab _ rfl) (by omega) (.slice ma n mc) rfl ?_))
  have HE2 := Lib.hid (HE.out.below HB0.out)
  have hf' := HF.out
  have hx' := HX.out
  rw [Hc2.out, Hn.out] at hx'
  rw [Hc3.out, Hn.out] at hf'
  have HX' := Lib.hid hx'
  have HF' := Lib.hid hf'
  clear hx' hf' HE
  go_loopw [32] (fun i wr => ∃ k : Nat, k ≤ n ∧ i = .int .i64 k ∧ Hid (∀ j, j < k → toldB d j = true) ∧ Mem Wf [(f4, 2, flkV ma n mc m), (x1, 3, hv)] wr) (fun i _ => n - (intOf i).toNat)
  case atStart => exact ⟨0, by omega, rfl, Lib.hid (fun j hj => absurd hj (by omega)), hM⟩
  case round =>
    clear hM
    obtain ⟨k, hk, rfl, hall, hM⟩ := hrel
    by_cases hlt : k < n
    · have l2 : (k : Int) < n := by omega
      obtain ⟨bm, N, F, hae, hN, -, hF, hAt⟩ := (HA2.out.below hM.below).row hlt
      subst hae
      have HFr := Lib.hid hF
      have HAt := Lib.hid hAt
      have hxk := HX'.out k hlt
      clear hF hAt
      cases ht : toldB d k
      · have HTo := Lib.hid ht
        have HZ := Lib.hid (toldAll_no (d := d) HF.out (by rw [Hn.out]; omega) Hc2.out Hc3.out (i := k) (by rw [Hn.out]; exact hlt) ht)
        clear ht
        have tk_b6 : True := trivial; have tk_s2 : True := trivial; have tk_g6 : True := trivial
        go_wp2_with (first | (refine wpList_getAt rfl _ _ rfl _ _ rfl HAt.out (rowTab _ _ rfl) (by omega) (gMem d k) HFr.out ?_) | (have _t := tk_b6; refine wpList_zero rfl _ rfl (zeroTab _ _ _ rfl) hM ?_; intro b6 W' hb6 hM'; clear hM tk_b6; have hM := hM'; clear hM') | (have _t := tk_s2; refine wpList_lay rfl _ _ _ rfl _ _ rfl _ _ rfl hM 0 rfl (by assumption) (rowTab _ _ rfl) (by omega) (fun j _ => gMem_one d k j) ?_; intro W' hM'; have hM2 := hM'.re 0 rfl (gMem d k) (fun k hk => by simp [lay, hk]); simp only [List.set_cons_zero] at hM2; clear hM hM' tk_s2; have hM := hM2; clear hM2) | (have _t := tk_g6; refine wpList_get rfl _ _ rfl _ _ rfl hM 0 rfl (rowTab _ _ rfl) (by omega) ?_; simp only [Nat.zero_add]; clear tk_g6) | (go_at_call 57; refine (isTold_any d k hxk _ (HE2.out.below hM.below)).mono ?_; rintro e W' ⟨rfl, hb'⟩; rw [HTo.out]; have hM' := hM.call hb'; clear hM hb'; have hM := hM'; clear hM'))
        go_ret
        rw [HZ.out]
        exact ⟨rfl, HB0.out.trans (hM.below.mono HB0.out.size)⟩
      · have HTo := Lib.hid ht
        clear ht
        have tk_b6 : True := trivial; have tk_s2 : True := trivial; have tk_g6 : True := trivial
        go_wp2_with (first | (refine wpList_getAt rfl _ _ rfl _ _ rfl HAt.out (rowTab _ _ rfl) (by omega) (gMem d k) HFr.out ?_) | (have _t := tk_b6; refine wpList_zero rfl _ rfl (zeroTab _ _ _ rfl) hM ?_; intro b6 W' hb6 hM'; clear hM tk_b6; have hM := hM'; clear hM') | (have _t := tk_s2; refine wpList_lay rfl _ _ _ rfl _ _ rfl _ _ rfl hM 0 rfl (by assumption) (rowTab _ _ rfl) (by omega) (fun j _ => gMem_one d k j) ?_; intro W' hM'; have hM2 := hM'.re 0 rfl (gMem d k) (fun k hk => by simp [lay, hk]); simp only [List.set_cons_zero] at hM2; clear hM hM' tk_s2; have hM := hM2; clear hM2) | (have _t := tk_g6; refine wpList_get rfl _ _ rfl _ _ rfl hM 0 rfl (rowTab _ _ rfl) (by omega) ?_; simp only [Nat.zero_add]; clear tk_g6) | (go_at_call 57; refine (isTold_any d k hxk _ (HE2.out.below hM.below)).mono ?_; rintro e W' ⟨rfl, hb'⟩; rw [HTo.out]; have hM' := hM.call hb'; clear hM hb'; have hM := hM'; clear hM'))
        go_roundw
        case rel => exact ⟨k + 1, by omega, by go_num, Lib.hid (fun q hq => by
          by_cases e : q = k
          · rw [e]; exact HTo.out
          · exact hall.out q (by omega)), hM.drop⟩
        case measure => simp [intOf]; omega
    · obtain rfl : k = n := by omega
      have hlen := fun ty => len_puts ((hM.below.block m (Array.getElem?_eq_some_iff.1 HO.out).1).trans HO.out) ty
      have hL2 := keysU_len d k
      have f1 : flkV ma k mc m 1 = .map (some m) := rfl
      have f0 : flkV ma k mc m 0 = .slice ma k mc := rfl
      have HKe := Lib.hid (fun (h : (keysU d k).length ≠ k) => keys_no (d := d) HF.out (by rw [Hn.out]; omega) Hc2.out Hc3.out (by rw [Hn.out]; exact h))
      have HKm := Lib.hid (fun (h : (keysU d k).length = k) => herdB_mut (d := d) HF.out (by rw [Hn.out]; omega) Hc2.out Hc3.out (by rw [Hn.out]; exact hall.out) (by rw [Hn.out]; exact h))
      obtain ⟨L, hL⟩ : ∃ L, (keysU d k).length = L := ⟨_, rfl⟩
      rw [hL] at hlen hL2 HKe HKm
      have hMU := fun W hA hT => areMutual_any d ma mc (by rw [Hn.out]; omega) (by rw [Hn.out]; exact HF'.out) W hA hT
      rw [Hn.out] at hMU HKm
      have HMU := Lib.hid hMU
      clear hL hMU
      by_cases hLn : L = k
      · have HZ := Lib.hid (HKm.out hLn)
        subst hLn
        go_wp2_with (first | (refine wpList_get1 rfl _ _ rfl _ _ rfl hM 0 rfl (cellTab _ rfl) (by omega) _ f1 ?_) | (refine wpList_gget1 ?_ _ _ rfl _ _ rfl hM 0 rfl (cellTab _ rfl) (by omega) _ f0 ?_; kernel_rfl) | (go_at_call 58; (with_reducible refine (HMU.out _ (HA2.out.below hM.below) (HE2.out.below hM.below).tab).mono ?_); rintro e W' ⟨rfl, hb'⟩; have hM' := hM.call hb'; clear hM hb'; have hM := hM'; clear hM'))
        go_ret
        rw [HZ.out]
        exact ⟨rfl, HB0.out.trans (hM.below.mono HB0.out.size)⟩
      · have HZ := Lib.hid (HKe.out hLn)
        have z2 : ((L : Int) == (k : Int)) = false := beq_eq_false_iff_ne.2 (by omega)
        have z3 : ¬ (L : Int) = k := by omega
        clear hLn
        go_wp2_with (first | (refine wpList_get1 rfl _ _ rfl _ _ rfl hM 0 rfl (cellTab _ rfl) (by omega) _ f1 ?_))
        go_ret
        rw [HZ.out]
        exact ⟨rfl, HB0.out.trans (hM.below.mono HB0.out.size)⟩
end Go.Proofs.YthodkbmenndnoaaDoor

/-
  impl.flockWith by contract.
-/
namespace Go.Proofs.YthodkbmenndnoaaDoor
open Go Go.RowKit Go.BigFrame

theorem run_flock0 (W : World) : (Instr.build 70 #[]).run Tryd.prog W = .ok (.agg (arr 2 zFlk)) W := by kernel_rfl
theorem exec_flock0 {o : Oper} {a : Act} (ho : o.op = .build 70 #[]) (W : World) : (execOp a.eval o).run Tryd.prog W = .ok (.value (.agg (arr 2 zFlk))) W := by
  have hr := run_flock0 W
  unfold execOp
  simp only [ho, List.map_toArray, List.map_nil, Sem.run_bind, Sem.run_pure, hr, Result.andThen_ok]
theorem zFlk_one (k : Nat) : (zFlk k).oneCell' = true := by
  unfold zFlk
  split <;> rfl
theorem make_closure (fn : Fn) (first cap : Array Value) (w : World) : (Instr.makeFunc fn first cap).run Tryd.prog w = .ok (.func fn first cap) w := rfl

set_option maxRecDepth 100000 in
set_option maxHeartbeats 2000000 in
theorem flockWith_no {a : Nat → Addr} {r : Addr} (d : Hd) (b1 b2 b3 : Nat) (hd : FitsH d) (gv : Value) (w : World) (hM0 : Mem w (hdB d b1 b2 b3) w) (hE : HEnv r w) (hI : w.cell? ⟨0, 0, none⟩ = some (errV (a 0))) (hv : herdB d = false) :
    Calls Tryd.prog 64 #[.agg (arr 3 (hdV d b1 b2 b3)), gv] w fun e w' => ∃ f, e = .returned (.tuple #[.agg (arr 2 f), errV (a 0)]) ∧ (∀ k, k < 2 → (f k).oneCell' = true) ∧ Below w.heap.size w w' := by
  have hM := Mem.nil w
  have H0 := Lib.hid hM0
  have HE := Lib.hid hE
  have HI := Lib.hid hI
  have HV := Lib.hid hv
  have hmf := make_closure
  clear hM0 hE hI hv
  obtain ⟨hv, hhv⟩ : ∃ f, hdV d b1 b2 b3 = f := ⟨_, rfl⟩
  have hVH := fun (W : World) hB hE => implValidHerd_any (r := r) d b1 b2 b3 hd W hB hE
  rw [hhv] at hVH ⊢
  have HVH := Lib.hid hVH
  clear hhv hVH
  have tk_x1 : True := trivial; have tk_f4 : True := trivial; have tk_e5 : True := trivial; have tk_g1 : True := trivial
  go_enter_defers Tryd.func64, Tryd.ntmps64
  go_wp2_with (first | (have _t := tk_x1; refine wpList_box rfl _ _ rfl _ _ rfl hM ?_; intro x1 W' hx1 hM'; clear hM tk_x1; have hM := hM'; clear hM') | (have _t := tk_f4; refine wpList_zero rfl _ rfl (zeroTab _ _ _ rfl) hM ?_; intro f4 W' hf4 hM'; clear hM tk_f4; have hM := hM'; clear hM') | (have _t := tk_e5; refine wpList_zero1 rfl _ rfl (zero1Tab _ _ rfl) rfl hM ?_; intro e5 W' he5 hM'; clear hM tk_e5; have hM := hM'; clear hM') | (have _t := tk_g1; refine wpList_get rfl _ _ rfl _ _ rfl hM 2 rfl (rowTab _ _ rfl) (by omega) ?_; simp only [Nat.zero_add]; clear tk_g1) | (go_at_call 18; refine (HVH.out _ ((H0.out.call hM.below).base (Below.refl _ _)) (HE.out.below hM.below)).mono ?_; rintro e W' ⟨rfl, hb'⟩; rw [HV.out]; have hM' := hM.call hb'; clear hM hb'; have hM := hM'; clear hM'))
  ((try simp only [Act.put, List.setIfInBounds_toArray, List.set_cons_succ, List.set_cons_zero]); refine region_readsX [0, 1] #[true, true, false, false] 2 [(e5, 1, fun _ => .nilIface), (f4, 2, zFlk)] (by kernel_rfl) (by kernel_rfl) (by kernel_rfl) hM ?_; clear hM; (repeat (refine qs_plain rfl rfl ?_; first | (refine b_val ?_; refine ⟨_, fun W => exec_flock0 rfl W, ?_⟩; (simp only [Act.put, List.setIfInBounds_toArray, List.set_cons_succ, List.set_cons_zero])) | (refine b_old _ _ rfl _ _ rfl (cellTab _ rfl) (errV (a 0)) (fun W hM => (hM.below.cell (block_lt_of_cell HI.out)).trans HI.out) ?_; (simp only [Act.put, List.setIfInBounds_toArray, List.set_cons_succ, List.set_cons_zero])))); (with_reducible refine qs_nil ?_))
  (refine mix_one (i := 2) (by kernel_rfl) rfl (by kernel_rfl) rfl ?_)
  (refine step_lay _ _ _ rfl _ _ rfl _ _ rfl 1 rfl (by assumption) (rowTab _ _ rfl) (by omega) (fun k _ => zFlk_one k) ?_; simp only [List.set]; (simp only [Act.put, List.setIfInBounds_toArray, List.set_cons_succ, List.set_cons_zero]))
  (refine mix_one (i := 3) (by kernel_rfl) rfl (by kernel_rfl) rfl ?_)
  (refine step_set1 _ _ _ rfl _ _ rfl (errV (a 0)) rfl rfl 0 rfl (by assumption) (cellTab _ rfl) (by omega) ?_; simp only [List.set]; (simp only [Act.put, List.setIfInBounds_toArray, List.set_cons_succ, List.set_cons_zero]))
  (refine mix_end (by kernel_rfl) ?_; intro W' hM; simp only [List.cons_append, List.nil_append] at hM)
  go_wp2
  refine leaves_cons (f := 106) (args := #[.pointer (some ⟨e5, 0, none⟩)]) (by simp) (by simp [go_sem]) ?_
  refine (catch_idle e5 _).mono ?_
  rintro e u' w'' ⟨rfl, rfl, rfl⟩
  exact ⟨_, results_cells rfl _ rfl (hM.ats 1 _ _ _ rfl) (rowTab _ _ rfl) rfl ((hM.ats 0 _ _ _ rfl).cell (by omega)) (cellTab _ rfl), _, rfl, (fun k hk => by simp only [lay]; split; exact zFlk_one _; exact zFlk_one _), hM.below⟩
/-- What a call makes is kept beside other blocks. -/
theorem Lst.keep {d : Hd} {b0 : Base} {L : Blocks} {X X' : World} {n : Nat} {v : Value} (hM : Mem b0 L X) (h : Lst X [] 3 v n (sMem d) X') :
    ∃ a c K, v = .slice a n c ∧ n ≤ c ∧ Mem b0 (L ++ K) X' ∧ ∀ (b1 : Base) (L' : Blocks) (W : World), Mem b1 (L' ++ K) W → MemsAt W a n d := by
  rcases h with ⟨h1, h2, h3⟩ | ⟨b, c, F, h1, h2, h3, h4, h5⟩
  · exact ⟨none, 0, [], by rw [h1, h2], by omega, by rw [List.append_nil]; exact hM.call h3.below, fun _ _ _ _ => .inl h2⟩
  · refine ⟨_, c, [(b, c * 3, F)], h1, h3, hM.fresh' h5.below h5.at0 h2, fun b1 L' W hW => .inr ⟨b, c * 3, F, rfl, Nat.mul_le_mul_right _ h3, h4, hW.ats L'.length b (c * 3) F (by simp)⟩⟩
/-- Numbers of goats in memory. -/
def IntsAt (W : World) (a : Option Addr) (n : Nat) (ys : Nat → Int) : Prop := n = 0 ∨ ∃ b N F, a = some ⟨b, 0, none⟩ ∧ n ≤ N ∧ (∀ j, j < n → F j = .int .i64 (ys j)) ∧ At W b N F
theorem IntsAt.below {W W' : World} {a : Option Addr} {n : Nat} {ys : Nat → Int} (h : IntsAt W a n ys) (hb : Below W.heap.size W W') : IntsAt W' a n ys := by
  rcases h with h | ⟨b, N, F, h1, h2, h3, h4⟩
  · exact .inl h
  · exact .inr ⟨b, N, F, h1, h2, h3, h4.below hb h4.lt⟩
theorem IntsAt.at {W : World} {a : Option Addr} {n : Nat} {ys : Nat → Int} (h : IntsAt W a n ys) {k : Nat} (hk : k < n) : ∃ b N F, a = some ⟨b, 0, none⟩ ∧ n ≤ N ∧ F k = .int .i64 (ys k) ∧ At W b N F := by
  rcases h with h | ⟨b, N, F, h1, h2, h3, h4⟩
  · omega
  · exact ⟨b, N, F, h1, h2, h3 k hk, h4⟩

set_option maxRecDepth 100000 in
set_option maxHeartbeats 4000000 in
theorem flockWith_ok {r : Addr} (d : Hd) (b1 b2 b3 : Nat) (hd : FitsH d) (ga : Option Addr) (gn gc : Nat) (ys : Nat → Int) (hgn : gn ≤ 1048576) (w : World) (hM0 : Mem w (hdB d b1 b2 b3) w) (hE : HEnv r w) (hG : IntsAt w ga gn ys) (hv : HerdOk d) (hys : ∀ j, j < gn → 0 ≤ ys j ∧ ys j < d.n1) :
    Calls Tryd.prog 64 #[.agg (arr 3 (hdV d b1 b2 b3)), .slice ga gn gc] w fun e w' => ∃ ma mc m, e = .returned (.tuple #[.agg (arr 2 (flkV ma d.n1 mc m)), .nilIface]) ∧ d.n1 ≤ mc ∧ MemsAt w' ma d.n1 d ∧ w'.heap[m]? = some (mapO kvS (keysU d d.n1) (putsU d d.n1)) ∧ Below w.heap.size w w' := by
  have hM := Mem.nil w
  have H0 := Lib.hid hM0
  have HE := Lib.hid hE
  have HG := Lib.hid hG
  have HV := Lib.hid (herdB_iff.2 hv)
  have HYS := Lib.hid hys
  have hmf := make_closure
  have h14 := hv.n
  have hMO := fun (W : World) (hB : Mem W (hdB d b1 b2 b3) W) => membersOf_l d b1 b2 b3 (by omega) hv.l2 hv.l3 W hB
  have hFO := fun (a : Option Addr) (c : Nat) (W : World) hA => flockOf_any d a d.n1 c h14 (fun i hi => hd.s i hi) W hA
  have hVH := fun (W : World) hB hE => implValidHerd_any (r := r) d b1 b2 b3 hd W hB hE
  clear hM0 hE hG hv hys
  obtain ⟨hv, hhv⟩ : ∃ f, hdV d b1 b2 b3 = f := ⟨_, rfl⟩
  rw [hhv] at hVH hMO ⊢
  obtain ⟨n, hn⟩ : ∃ n, d.n1 = n := ⟨_, rfl⟩
  rw [hn] at hMO hFO h14 ⊢
  have hys' := HYS.out
  rw [hn] at hys'
  have HY := Lib.hid hys'
  have HVH := Lib.hid hVH
  have HMO := Lib.hid hMO
  have HFO := Lib.hid hFO
  clear hhv hVH hMO hFO hn hys' HYS
  have tk_x1 : True := trivial; have tk_f4 : True := trivial; have tk_e5 : True := trivial; have tk_g1 : True := trivial; have tk_g2 : True := trivial; have tk_m1 : True := trivial; have tk_k1 : True := trivial; have tk_s1 : True := trivial
  go_enter_defers Tryd.func64, Tryd.ntmps64
  go_wp2_with (first | (have _t := tk_x1; refine wpList_box rfl _ _ rfl _ _ rfl hM ?_; intro x1 W' hx1 hM'; clear hM tk_x1; have hM := hM'; clear hM') | (have _t := tk_f4; refine wpList_zero rfl _ rfl (zeroTab _ _ _ rfl) hM ?_; intro f4 W' hf4 hM'; clear hM tk_f4; have hM := hM'; clear hM') | (have _t := tk_e5; refine wpList_zero1 rfl _ rfl (zero1Tab _ _ rfl) rfl hM ?_; intro e5 W' he5 hM'; clear hM tk_e5; have hM := hM'; clear hM') | (have _t := tk_g1; refine wpList_get rfl _ _ rfl _ _ rfl hM 2 rfl (rowTab _ _ rfl) (by omega) ?_; simp only [Nat.zero_add]; clear tk_g1) | (go_at_call 18; refine (HVH.out _ ((H0.out.call hM.below).base (Below.refl _ _)) (HE.out.below hM.below)).mono ?_; rintro e W' ⟨rfl, hb'⟩; rw [HV.out]; have hM' := hM.call hb'; clear hM hb'; have hM := hM'; clear hM') | (have _t := tk_g2; refine wpList_get rfl _ _ rfl _ _ rfl hM 2 rfl (rowTab _ _ rfl) (by omega) ?_; simp only [Nat.zero_add]; clear tk_g2) | (have _t := tk_m1; go_at_call 56; refine (HMO.out _ ((H0.out.call hM.below).base (Below.refl _ _))).mono ?_; rintro e W' ⟨v, rfl, hL⟩; obtain ⟨ma, mc, K, rfl, hmc, hM', hK⟩ := hL.keep hM; have HK := Lib.hid hK; clear hM hK hL tk_m1; have hM := hM'; clear hM'; simp only [List.cons_append, List.nil_append] at hM) | (have _t := tk_k1; go_at_call 55; refine (HFO.out ma mc _ (HK.out _ [_, _, _] _ hM)).mono ?_; rintro e Wf ⟨m, rfl, hmm, hO, hb'⟩; have hM' := (hM.call hb').withO (o := mapO kvS (keysU d n) (putsU d n)) rfl hO; clear hM hb' hO tk_k1; have hM := hM'; clear hM') | (have _t := tk_s1; refine wpList_lay rfl _ _ _ rfl _ _ rfl _ _ rfl hM 1 rfl (by assumption) (rowTab _ _ rfl) (by omega) (fun k _ => flkV_one _ _ _ _ k) ?_; intro W' hM'; have hM2 := hM'.re 1 rfl (flkV ma n mc m) (fun k hk => by simp [lay, hk]); simp only [List.set] at hM2; clear hM hM' tk_s1; have hM := hM2; clear hM2))
  go_loopw [19] (fun i wr => ∃ k : Nat, k ≤ gn ∧ i = .int .i64 k ∧ Mem ((Base.of w).with m (mapO kvS (keysU d n) (putsU d n)) rfl) ((e5, 1, fun _ => Value.nilIface) :: (f4, 2, flkV ma n mc m) :: (x1, 3, hv) :: K) wr) (fun i _ => gn - (intOf i).toNat)
  case atStart => exact ⟨0, by omega, rfl, hM⟩
  case round =>
    clear hM
    obtain ⟨k, hk, rfl, hM⟩ := hrel
    by_cases hlt : k < gn
    · have l2 : (k : Int) < gn := by omega
      obtain ⟨bg, Ng, Fg, rfl, hNg, hFg, hAg⟩ := (HG.out.below (show Below w.heap.size w wr from hM.good.1)).at (k := k) (by omega)
      have HAg := Lib.hid hAg
      clear hAg
      have hy := HY.out k (by omega)
      generalize ys k = y at hFg hy
      go_wp2_with (first | (refine wpList_getAt1 rfl _ _ rfl _ _ rfl HAg.out (cellTab _ rfl) (by omega) _ hFg ?_) | (refine wpList_get1 rfl _ _ rfl _ _ rfl hM 1 rfl (cellTab _ rfl) (by omega) (.slice ma n mc) rfl ?_) | (go_at_call 107; (with_reducible refine (demand_ok ma n mc y hy _).mono ?_); rintro e W' ⟨rfl, hb'⟩; have hM' := hM.call hb'; clear hM hb'; have hM := hM'; clear hM'))
      go_roundw
      case rel => exact ⟨k + 1, by omega, by go_num, hM⟩
      case measure => simp [intOf]; omega
    · obtain rfl : k = gn := by omega
      go_wp2_with (first | (refine wpList_get rfl _ _ rfl _ _ rfl hM 1 rfl (rowTab _ _ rfl) (by omega) ?_) | (refine wpList_lay rfl _ _ _ rfl _ _ rfl _ _ rfl hM 1 rfl (by assumption) (rowTab _ _ rfl) (by omega) (fun k _ => by rw [Nat.zero_add]; exact flkV_one _ _ _ _ k) ?_; intro W' hM'; have hM2 := hM'.re 1 rfl (flkV ma n mc m) (fun k hk => by simp [lay, hk]); simp only [List.set] at hM2; clear hM hM'; have hM := hM2; clear hM2) | (refine wpList_set1 rfl _ _ _ rfl _ _ rfl .nilIface rfl rfl hM 0 rfl (by assumption) (cellTab _ rfl) (by omega) ?_; intro W' hM'; have hM2 := hM'.re 0 rfl (fun _ => Value.nilIface) (fun k hk => by simp [upd]); simp only [List.set] at hM2; clear hM hM'; have hM := hM2; clear hM2))
      refine leaves_cons (f := 106) (args := #[.pointer (some ⟨e5, 0, none⟩)]) (by simp) (by simp [go_sem]) ?_
      refine (catch_idle e5 _).mono ?_
      rintro e u' w'' ⟨rfl, rfl, rfl⟩
      exact ⟨_, results_cells rfl _ rfl (hM.ats 1 _ _ _ rfl) (rowTab _ _ rfl) rfl ((hM.ats 0 _ _ _ rfl).cell (by omega)) (cellTab _ rfl), ma, mc, m, rfl, hmc, HK.out _ [_, _, _] _ hM, hM.good.2, hM.good.1⟩
set_option maxRecDepth 100000 in
set_option maxHeartbeats 4000000 in
theorem flockWith_stray {r : Addr} (d : Hd) (b1 b2 b3 : Nat) (hd : FitsH d) (ga : Option Addr) (gn gc : Nat) (ys : Nat → Int) (hgn : gn ≤ 1048576) (w : World) (hM0 : Mem w (hdB d b1 b2 b3) w) (hE : HEnv r w) (hG : IntsAt w ga gn ys) (hv : HerdOk d) (k0 : Nat) (hk0 : k0 < gn) (hys : ∀ j, j < k0 → 0 ≤ ys j ∧ ys j < d.n1) (hbad : ¬ (0 ≤ ys k0 ∧ ys k0 < d.n1)) :
    Calls Tryd.prog 64 #[.agg (arr 3 (hdV d b1 b2 b3)), .slice ga gn gc] w fun e w' => ∃ f, e = .returned (.tuple #[.agg (arr 2 f), strayV (ys k0)]) ∧ (∀ k, k < 2 → (f k).oneCell' = true) ∧ Below w.heap.size w w' := by
  have hM := Mem.nil w
  have H0 := Lib.hid hM0
  have HE := Lib.hid hE
  have HG := Lib.hid hG
  have HV := Lib.hid (herdB_iff.2 hv)
  have HYS := Lib.hid hys
  have hmf := make_closure
  have h14 := hv.n
  have HBAD := Lib.hid hbad
  have hMO := fun (W : World) (hB : Mem W (hdB d b1 b2 b3) W) => membersOf_l d b1 b2 b3 (by omega) hv.l2 hv.l3 W hB
  have hFO := fun (a : Option Addr) (c : Nat) (W : World) hA => flockOf_any d a d.n1 c h14 (fun i hi => hd.s i hi) W hA
  have hVH := fun (W : World) hB hE => implValidHerd_any (r := r) d b1 b2 b3 hd W hB hE
  clear hM0 hE hG hv hys hbad
  obtain ⟨hv, hhv⟩ : ∃ f, hdV d b1 b2 b3 = f := ⟨_, rfl⟩
  rw [hhv] at hVH hMO ⊢
  obtain ⟨n, hn⟩ : ∃ n, d.n1 = n := ⟨_, rfl⟩
  rw [hn] at hMO hFO h14
  have hys' := HYS.out
  rw [hn] at hys'
  have HY := Lib.hid hys'
  have hbad := HBAD.out
  rw [hn] at hbad
  have HB := Lib.hid hbad
  clear hbad HBAD
  have HVH := Lib.hid hVH
  have HMO := Lib.hid hMO
  have HFO := Lib.hid hFO
  clear hhv hVH hMO hFO hn hys' HYS
  have tk_x1 : True := trivial; have tk_f4 : True := trivial; have tk_e5 : True := trivial; have tk_g1 : True := trivial; have tk_g2 : True := trivial; have tk_m1 : True := trivial; have tk_k1 : True := trivial; have tk_s1 : True := trivial
  go_enter_defers Tryd.func64, Tryd.ntmps64
  go_wp2_with (first | (have _t := tk_x1; refine wpList_box rfl _ _ rfl _ _ rfl hM ?_; intro x1 W' hx1 hM'; clear hM tk_x1; have hM := hM'; clear hM') | (have _t := tk_f4; refine wpList_zero rfl _ rfl (zeroTab _ _ _ rfl) hM ?_; intro f4 W' hf4 hM'; clear hM tk_f4; have hM := hM'; clear hM') | (have _t := tk_e5; refine wpList_zero1 rfl _ rfl (zero1Tab _ _ rfl) rfl hM ?_; intro e5 W' he5 hM'; clear hM tk_e5; have hM := hM'; clear hM') | (have _t := tk_g1; refine wpList_get rfl _ _ rfl _ _ rfl hM 2 rfl (rowTab _ _ rfl) (by omega) ?_; simp only [Nat.zero_add]; clear tk_g1) | (go_at_call 18; refine (HVH.out _ ((H0.out.call hM.below).base (Below.refl _ _)) (HE.out.below hM.below)).mono ?_; rintro e W' ⟨rfl, hb'⟩; rw [HV.out]; have hM' := hM.call hb'; clear hM hb'; have hM := hM'; clear hM') | (have _t := tk_g2; refine wpList_get rfl _ _ rfl _ _ rfl hM 2 rfl (rowTab _ _ rfl) (by omega) ?_; simp only [Nat.zero_add]; clear tk_g2) | (have _t := tk_m1; go_at_call 56; refine (HMO.out _ ((H0.out.call hM.below).base (Below.refl _ _))).mono ?_; rintro e W' ⟨v, rfl, hL⟩; obtain ⟨ma, mc, K, rfl, hmc, hM', hK⟩ := hL.keep hM; have HK := Lib.hid hK; clear hM hK hL tk_m1; have hM := hM'; clear hM'; simp only [List.cons_append, List.nil_append] at hM) | (have _t := tk_k1; go_at_call 55; refine (HFO.out ma mc _ (HK.out _ [_, _, _] _ hM)).mono ?_; rintro e Wf ⟨m, rfl, hmm, hO, hb'⟩; have hM' := (hM.call hb').withO (o := mapO kvS (keysU d n) (putsU d n)) rfl hO; clear hM hb' hO tk_k1; have hM := hM'; clear hM') | (have _t := tk_s1; refine wpList_lay rfl _ _ _ rfl _ _ rfl _ _ rfl hM 1 rfl (by assumption) (rowTab _ _ rfl) (by omega) (fun k _ => flkV_one _ _ _ _ k) ?_; intro W' hM'; have hM2 := hM'.re 1 rfl (flkV ma n mc m) (fun k hk => by simp [lay, hk]); simp only [List.set] at hM2; clear hM hM' tk_s1; have hM := hM2; clear hM2))
  go_loopw [19] (fun i wr => ∃ k : Nat, k ≤ k0 ∧ i = .int .i64 k ∧ Mem ((Base.of w).with m (mapO kvS (keysU d n) (putsU d n)) rfl) ((e5, 1, fun _ => Value.nilIface) :: (f4, 2, flkV ma n mc m) :: (x1, 3, hv) :: K) wr) (fun i _ => gn - (intOf i).toNat)
  case atStart => exact ⟨0, by omega, rfl, hM⟩
  case round =>
    clear hM
    obtain ⟨k, hk, rfl, hM⟩ := hrel
    by_cases hlt : k < k0
    · have l2 : (k : Int) < gn := by omega
      obtain ⟨bg, Ng, Fg, rfl, hNg, hFg, hAg⟩ := (HG.out.below (show Below w.heap.size w wr from hM.good.1)).at (k := k) (by omega)
      have HAg := Lib.hid hAg
      clear hAg
      have hy := HY.out k (by omega)
      generalize ys k = y at hFg hy
      go_wp2_with (first | (refine wpList_getAt1 rfl _ _ rfl _ _ rfl HAg.out (cellTab _ rfl) (by omega) _ hFg ?_) | (refine wpList_get1 rfl _ _ rfl _ _ rfl hM 1 rfl (cellTab _ rfl) (by omega) (.slice ma n mc) rfl ?_) | (go_at_call 107; (with_reducible refine (demand_ok ma n mc y hy _).mono ?_); rintro e W' ⟨rfl, hb'⟩; have hM' := hM.call hb'; clear hM hb'; have hM := hM'; clear hM'))
      go_roundw
      case rel => exact ⟨k + 1, by omega, by go_num, hM⟩
      case measure => simp [intOf]; omega
    · obtain rfl : k = k0 := by omega
      have l2 : (k : Int) < gn := by omega
      obtain ⟨bg, Ng, Fg, rfl, hNg, hFg, hAg⟩ := (HG.out.below (show Below w.heap.size w wr from hM.good.1)).at (k := k) (by omega)
      have HAg := Lib.hid hAg
      have hb := HB.out
      clear hAg
      obtain ⟨y, hy⟩ : ∃ y, ys k = y := ⟨_, rfl⟩
      rw [hy] at hFg hb
      have Hy := Lib.hid hy
      clear hy
      have HB2 := Lib.hid hb
      clear hb
      go_wp2_with (first | (refine wpList_getAt1 rfl _ _ rfl _ _ rfl HAg.out (cellTab _ rfl) (by omega) _ hFg ?_) | (refine wpList_get1 rfl _ _ rfl _ _ rfl hM 1 rfl (cellTab _ rfl) (by omega) (.slice ma n mc) rfl ?_) | (go_at_call 107; refine (demand_no ma n mc y HB2.out _).mono ?_; rintro e W' ⟨rfl, hb'⟩; have hM' := hM.call hb'; clear hM hb'; have hM := hM'; clear hM'))
      refine leaves_cons (f := 106) (args := #[.pointer (some ⟨e5, 0, none⟩)]) (by simp) (by simp [go_sem]) ?_
      refine (catch_stray e5 .nilIface y _ hM (by assumption)).mono ?_
      rintro e u' w'' ⟨rfl, rfl, hM2⟩
      rw [Hy.out]
      exact ⟨_, results_cells rfl _ rfl (hM2.ats 1 _ _ _ rfl) (rowTab _ _ rfl) rfl ((hM2.ats 0 _ _ _ rfl).cell (by omega)) (cellTab _ rfl), _, rfl, (fun k _ => flkV_one _ _ _ _ k), hM2.good.1⟩
end Go.Proofs.YthodkbmenndnoaaDoor

