/-
  Several texts in one: GrowDaysI, GrowDays.
-/
import Derived.Test.YtjfmhnbbdkejeaaDoorP9
/-
  impl.GrowDays by contract.
-/
namespace Go.Proofs.YtjfmhnbbdkejeaaDoor
open Go Go.RowKit Go.BigFrame

/-- Behind a call that makes blocks of its own. -/
theorem Mem.join {b0 : Base} {L M : Blocks} {X X' : World} (hM : Mem b0 L X) (hN : Mem (Base.of X) M X') (hge : ∀ (i : Nat) (p : Nat × Nat × (Nat → Value)), M[i]? = some p → X.heap.size ≤ p.1) : Mem b0 (M ++ L) X' := by
  have hC := hM.call hN.below
  have off : ∀ (i j : Nat) (p q : Nat × Nat × (Nat → Value)), M[i]? = some p → L[j]? = some q → p.1 ≠ q.1 := fun i j p q hi hj e => by
    have h1 := hge i p hi
    have h2 := (hM.ats j q.1 q.2.1 q.2.2 hj).lt
    omega
  refine ⟨hC.good, fun i b n f hi => ?_, fun i j p q hi hj hne => ?_⟩
  · by_cases hl : i < M.length
    · rw [List.getElem?_append_left hl] at hi; exact hN.ats i b n f hi
    · rw [List.getElem?_append_right (by omega)] at hi; exact hC.ats _ b n f hi
  · by_cases hl : i < M.length
    · rw [List.getElem?_append_left hl] at hi
      by_cases hl' : j < M.length
      · rw [List.getElem?_append_left hl'] at hj; exact hN.apart i j p q hi hj hne
      · rw [List.getElem?_append_right (by omega)] at hj; exact off _ _ p q hi hj
    · rw [List.getElem?_append_right (by omega)] at hi
      by_cases hl' : j < M.length
      · rw [List.getElem?_append_left hl'] at hj; exact (off _ _ q p hj hi).symm
      · rw [List.getElem?_append_right (by omega)] at hj; exact hC.apart _ _ p q hi hj (by omega)

/-- What a day of growing is told by. -/
structure DayB where
  bv : Nat
  bg : Nat
  bl : Nat
  cc : Nat
  F : Nat → Value
theorem growing_step (h p : Nat → Int) (W H : Nat) (hW : 1 ≤ W ∧ W ≤ 10) (hH : 1 ≤ H ∧ H ≤ 10) (p0 : p 0 = W) (p1 : p 1 = H) {b0 : Base} {L : Blocks} (w : World) (hM : Mem b0 L w) :
    Calls Tryd.prog 81 #[.agg (arr 122 (pas p)), .agg (arr 12 (gro h))] w fun e w' => ∃ y : DayB, e = .returned (dayV y.bv y.bg) ∧ (W * H ≤ y.cc ∧ ∀ j, j < W * H * 2 → y.F j = sps (sC W) j) ∧ Mem b0 (dayK h (W * H) y.bv y.bg y.bl y.cc y.F ++ L) w' :=
  (growing_any h p W H hW hH p0 p1 w).mono fun e w' ⟨bv, bg, bl, cc, F, he, h1, h2, h3, hcc, hF, hN⟩ => ⟨⟨bv, bg, bl, cc, F⟩, he, ⟨hcc, hF⟩, hM.join hN fun i q hi => by
    match i, hi with
    | 0, hi => simp at hi; rw [← hi]; exact h1
    | 1, hi => simp at hi; rw [← hi]; exact h2
    | 2, hi => simp at hi; rw [← hi]; exact h3
    | i + 3, hi => simp at hi⟩
/-- A list of n cells R: none, or in a block. -/
def GoodL (n : Nat) (R : Nat → Value) (y : Value × Blocks) : Prop := (n = 0 ∧ y.1 = .slice none 0 0 ∧ y.2 = []) ∨ ∃ b c F, n ≤ c ∧ (∀ j, j < n * 1 → F j = R j) ∧ y.1 = .slice (some ⟨b, 0, none⟩) n c ∧ y.2 = [(b, c * 1, F)]
theorem live_step (h p : Nat → Int) (e : growB h = true) (hp : GrassOk p) (hf : Fits p) (W H : Nat) (hW : 1 ≤ W ∧ W ≤ 10) (hH : 1 ≤ H ∧ H ≤ 10) (bv bg bl cc : Nat) (F : Nat → Value) (hcc : W * H ≤ cc) (hF : ∀ j, j < W * H * 2 → F j = sps (sC W) j) (n : Nat) (hn : n ≤ 365) {b0 : Base} {L : Blocks} (w : World) (hM : Mem b0 L w) (hK : Mem b0 (dayK h (W * H) bv bg bl cc F) w) :
    Calls Tryd.prog 80 #[.agg (arr 122 (pas p)), .int .i64 n, dayV bv bg] w fun e w' => ∃ y : Value × Blocks, e = .returned (.tuple #[.agg (arr 122 (pas (dayG h p W H n))), y.1]) ∧ GoodL n (yV h p W H) y ∧ Mem b0 (y.2 ++ L) w' :=
  (live_any h p e hp hf W H hW hH bv bg bl cc F hcc hF n hn b0 w hK).mono fun r w' ⟨v, he, hL⟩ => by
    rcases hL with ⟨rfl, hn0, hN⟩ | ⟨b, c, F1, rfl, hb, hc, hF1, hN⟩
    · exact ⟨(.slice none 0 0, []), he, .inl ⟨hn0, rfl, rfl⟩, hM.join hN fun i q hi => by simp at hi⟩
    · refine ⟨(.slice (some ⟨b, 0, none⟩) n c, [(b, c * 1, F1)]), he, .inr ⟨b, c, F1, hc, hF1, rfl, rfl⟩, hM.join hN fun i q hi => ?_⟩
      match i, hi with
      | 0, hi => simp at hi; rw [← hi]; exact hb
      | i + 1, hi => simp at hi

set_option maxRecDepth 100000 in
set_option maxHeartbeats 4000000 in
theorem implGrowDays_any {a : Nat → Addr} (p : Nat → Int) (hp : Fits p) (h : Nat → Int) (hF : FitsW h) (n : Int) (w : World) (hE : Errs a w) :
    Calls Tryd.prog 39 #[.agg (arr 122 (pas p)), .agg (arr 12 (gro h)), .int .i64 n] w fun e w' => e = .returned (growD p h n) ∧ Below w.heap.size w w' := by
  have hM := Mem.nil w
  have HP := Lib.hid hp
  have HF := Lib.hid hF
  have HE := Lib.hid hE
  clear hp hF hE
  have tk_b1 : True := trivial; have tk_b2 : True := trivial; have tk_b3 : True := trivial; have tk_g1 : True := trivial; have tk_g2 : True := trivial; have tk_q1 : True := trivial
  cases ho : (okB p && growB h)
  · have Hr := Lib.hid (growD_no (n := n) ho)
    have Hc : Hid (errO (a 0) (!(okB p && growB h)) = errV (a 0)) := Lib.hid (by rw [ho]; rfl)
    clear ho
    go_enter Tryd.func39, Tryd.ntmps39
    go_wp2_with (first | (have _t := tk_b1; refine wpList_box rfl _ _ rfl _ _ rfl hM ?_; intro b1 W' hb1 hM'; clear hM tk_b1; have hM := hM'; clear hM') | (have _t := tk_b2; refine wpList_box rfl _ _ rfl _ _ rfl hM ?_; intro b2 W' hb2 hM'; clear hM tk_b2; have hM := hM'; clear hM') | (have _t := tk_b3; refine wpList_zero rfl _ rfl (zeroTab _ _ _ rfl) hM ?_; intro b3 W' hb3 hM'; clear hM tk_b3; have hM := hM'; clear hM') | (have _t := tk_g1; (refine wpList_get rfl _ _ rfl _ _ rfl hM 2 rfl (rowTab _ _ rfl) (by omega) ?_); clear tk_g1) | (have _t := tk_g2; (refine wpList_get rfl _ _ rfl _ _ rfl hM 1 rfl (rowTab _ _ rfl) (by omega) ?_); clear tk_g2) | (go_at_call 79; (with_reducible refine (checkGrowing_any p HP.out h HF.out _ (HE.out.below hM.below)).mono ?_); rintro e W' ⟨rfl, hb'⟩; rw [Hc.out]; have hM' := hM.call hb'; clear hM hb'; have hM := hM'; clear hM') | (go_at_call 50; (with_reducible refine (codeOf_0 (HE.out.below hM.below)).mono ?_); rintro e W' ⟨rfl, rfl⟩) | (have _t := tk_q1; (refine wpList_lay rfl _ _ _ rfl _ _ rfl _ _ rfl hM 0 rfl (by assumption) (rowTab _ _ rfl) (by omega) ?_ ?_; (first | (intro _ _; rfl) | (intro k _; exact h1 _) | (intro k _; simp only [lay, upd]; (repeat' split) <;> first | exact h1 _ | rfl)); intro W' hM'; clear hM; have hM := hM'; clear hM'; simp only [List.set] at hM); clear tk_q1))
    refine bodyPost_ret (results_at3 rfl _ rfl ((hM.ats 0 _ _ _ rfl).congr (lay_zP _)) (rowTab _ _ rfl)) rfl ?_
    exact ⟨ret_pas3 Hr.out, hM.below⟩
  have Hc : Hid (errO (a 0) (!(okB p && growB h)) = .nilIface) := Lib.hid (by rw [ho]; rfl)
  cases hi : inB 0 365 n
  · have Hr := Lib.hid (growD_out ho hi)
    have Hi := Lib.hid hi
    clear ho hi
    go_enter Tryd.func39, Tryd.ntmps39
    go_wp2_with (first | (have _t := tk_b1; refine wpList_box rfl _ _ rfl _ _ rfl hM ?_; intro b1 W' hb1 hM'; clear hM tk_b1; have hM := hM'; clear hM') | (have _t := tk_b2; refine wpList_box rfl _ _ rfl _ _ rfl hM ?_; intro b2 W' hb2 hM'; clear hM tk_b2; have hM := hM'; clear hM') | (have _t := tk_b3; refine wpList_zero rfl _ rfl (zeroTab _ _ _ rfl) hM ?_; intro b3 W' hb3 hM'; clear hM tk_b3; have hM := hM'; clear hM') | (have _t := tk_g1; (refine wpList_get rfl _ _ rfl _ _ rfl hM 2 rfl (rowTab _ _ rfl) (by omega) ?_); clear tk_g1) | (have _t := tk_g2; (refine wpList_get rfl _ _ rfl _ _ rfl hM 1 rfl (rowTab _ _ rfl) (by omega) ?_); clear tk_g2) | (go_at_call 79; (with_reducible refine (checkGrowing_any p HP.out h HF.out _ (HE.out.below hM.below)).mono ?_); rintro e W' ⟨rfl, hb'⟩; rw [Hc.out]; have hM' := hM.call hb'; clear hM hb'; have hM := hM'; clear hM') | (go_at_call 51; (with_reducible refine (checkUpTo_no _ _ _ (HE.out.below hM.below) Hi.out).mono ?_); rintro e W' ⟨rfl, hb'⟩; have hM' := hM.call hb'; clear hM hb'; have hM := hM'; clear hM') | (go_at_call 50; (with_reducible refine (codeOf_1 (HE.out.below hM.below)).mono ?_); rintro e W' ⟨rfl, rfl⟩) | (have _t := tk_q1; (refine wpList_lay rfl _ _ _ rfl _ _ rfl _ _ rfl hM 0 rfl (by assumption) (rowTab _ _ rfl) (by omega) ?_ ?_; (first | (intro _ _; rfl) | (intro k _; exact h1 _) | (intro k _; simp only [lay, upd]; (repeat' split) <;> first | exact h1 _ | rfl)); intro W' hM'; clear hM; have hM := hM'; clear hM'; simp only [List.set] at hM); clear tk_q1))
    refine bodyPost_ret (results_at3 rfl _ rfl ((hM.ats 0 _ _ _ rfl).congr (lay_zP _)) (rowTab _ _ rfl)) rfl ?_
    exact ⟨ret_pas3 Hr.out, hM.below⟩
  have hb := inB_true hi
  obtain ⟨n, rfl⟩ : ∃ m : Nat, n = m := ⟨n.toNat, by omega⟩
  have ho' := ho
  rw [Bool.and_eq_true] at ho'
  obtain ⟨W, H, p0, p1, hW, hH⟩ := ok_sizes2 ho'.1
  have Hr := Lib.hid (growD_ok ho hi p0 p1)
  have Hi := Lib.hid hi
  have Hp := Lib.hid (ok_in ho'.1)
  have He := Lib.hid ho'.2
  have hn : n ≤ 365 := by omega
  have hz : Hid (n = 0 → gsum (dayG h p W H n) - gsum p = 0) := Lib.hid (fun e => by rw [e]; show gsum p - gsum p = 0; omega)
  have hS : ∀ (b c : Nat) (F : Nat → Value) (w : World), n ≤ c → (∀ j, j < n * 1 → F j = yV h p W H j) → At w b (c * 1) F → Calls Tryd.prog 82 #[.slice (some ⟨b, 0, none⟩) n c] w fun e w' => e = .returned (.int .i64 (gsum (dayG h p W H n) - gsum p)) ∧ Below w.heap.size w w' := fun b c F w hc hF hA => by
    rw [← yield_sum]
    exact sumOf_any (yieldD h p W H) n b c (c * 1) F hn (by omega) hF (fun k hk => by
      rw [yield_sum]
      have s1 := gsum_in (dayG_in He.out Hp.out W H k)
      have s2 := gsum_in Hp.out
      omega) w hA
  have HS := Lib.hid hS
  have HG := Lib.hid (fun (b0 : Base) (L : Blocks) (w : World) (hM : Mem b0 L w) => growing_step h p W H hW hH p0 p1 w hM)
  have HL := Lib.hid (fun (y : DayB) (hy : W * H ≤ y.cc ∧ ∀ j, j < W * H * 2 → y.F j = sps (sC W) j) (b0 : Base) (L : Blocks) (w : World) (hM : Mem b0 L w) (hK : Mem b0 (dayK h (W * H) y.bv y.bg y.bl y.cc y.F) w) => live_step h p He.out Hp.out HP.out W H hW hH y.bv y.bg y.bl y.cc y.F hy.1 hy.2 n hn w hM hK)
  clear ho hi ho' hS
  go_enter Tryd.func39, Tryd.ntmps39
  go_wp2_with (first | (have _t := tk_b1; refine wpList_box rfl _ _ rfl _ _ rfl hM ?_; intro b1 W' hb1 hM'; clear hM tk_b1; have hM := hM'; clear hM') | (have _t := tk_b2; refine wpList_box rfl _ _ rfl _ _ rfl hM ?_; intro b2 W' hb2 hM'; clear hM tk_b2; have hM := hM'; clear hM') | (have _t := tk_b3; refine wpList_zero rfl _ rfl (zeroTab _ _ _ rfl) hM ?_; intro b3 W' hb3 hM'; clear hM tk_b3; have hM := hM'; clear hM') | (have _t := tk_g1; (refine wpList_get rfl _ _ rfl _ _ rfl hM 2 rfl (rowTab _ _ rfl) (by omega) ?_); clear tk_g1) | (have _t := tk_g2; (refine wpList_get rfl _ _ rfl _ _ rfl hM 1 rfl (rowTab _ _ rfl) (by omega) ?_); clear tk_g2) | (go_at_call 79; (with_reducible refine (checkGrowing_any p HP.out h HF.out _ (HE.out.below hM.below)).mono ?_); rintro e W' ⟨rfl, hb'⟩; rw [Hc.out]; have hM' := hM.call hb'; clear hM hb'; have hM := hM'; clear hM') | (go_at_call 51; (with_reducible refine (checkUpTo_yes _ _ _ Hi.out).mono ?_); rintro e W' ⟨rfl, hb'⟩; have hM' := hM.call hb'; clear hM hb'; have hM := hM'; clear hM'))
  generalize gsum (dayG h p W H n) - gsum p = X at *
  generalize dayG h p W H n = D at *
  ((try simp only [Act.put, List.setIfInBounds_toArray, List.set_cons_succ, List.set_cons_zero]); refine region_readsG [0, 1, 2, 3] [0, 1, 2, 3, 6, 7, 8] #[true, true, true, true, false, false, false, false, false, false, false, false] 8 (by decide) (by kernel_rfl) (by kernel_rfl) (by kernel_rfl) hM ?_; clear hM; (repeat (refine qs_plain rfl rfl ?_; first | (refine b_get _ _ rfl _ _ rfl 2 rfl (rowTab _ _ rfl) (by omega) ?_; (simp only [Act.put, List.setIfInBounds_toArray, List.set_cons_succ, List.set_cons_zero])) | (refine b_get _ _ rfl _ _ rfl 1 rfl (rowTab _ _ rfl) (by omega) ?_; (simp only [Act.put, List.setIfInBounds_toArray, List.set_cons_succ, List.set_cons_zero])) | (refine b_val ?_; apply Exists.intro; refine ⟨fun W => ?_, ?_⟩; (go_simp; rfl); (simp only [Act.put, List.setIfInBounds_toArray, List.set_cons_succ, List.set_cons_zero])))); (with_reducible refine qs_nil ?_))
  (refine mix_two (i := 4) (j := 9) (by kernel_rfl) rfl rfl (by kernel_rfl) (by kernel_rfl) rfl rfl ?_ ?_)
  · refine step_call_more (β := DayB) (fun y => dayV y.bv y.bg) (fun y => dayK h (W * H) y.bv y.bg y.bl y.cc y.F) (fun y => W * H ≤ y.cc ∧ ∀ j, j < W * H * 2 → y.F j = sps (sC W) j) ?_
    apply Exists.intro; apply Exists.intro; refine ⟨fun W => ?_, fun W hM => ?_, ?_⟩
    · go_simp; exact ⟨rfl, rfl⟩
    · exact HG.out _ _ _ hM
    intro y hy
    (try simp only [Act.put, List.setIfInBounds_toArray, List.set_cons_succ, List.set_cons_zero])
    (refine mix_two (i := 5) (j := 9) (by kernel_rfl) rfl rfl (by kernel_rfl) (by kernel_rfl) rfl rfl ?_ ?_)
    · refine step_call_more (β := Value × Blocks) (fun z => .tuple #[.agg (arr 122 (pas D)), z.1]) (fun z => z.2) (GoodL n (yV h p W H)) ?_
      apply Exists.intro; apply Exists.intro; refine ⟨fun W => ?_, fun W hM => ?_, ?_⟩
      · go_simp; exact ⟨rfl, rfl⟩
      · exact HL.out y hy _ _ _ hM (hM.three 0 1 2 rfl rfl rfl (by omega) (by omega) (by omega))
      rintro ⟨v, Bs⟩ hz2
      rcases hz2 with ⟨hn0, hv, hB⟩ | ⟨bL, cL, FL, hcL, hFL, hv, hB⟩ <;> dsimp only at hv hB <;> subst hv hB <;> (try simp only [Act.put, List.setIfInBounds_toArray, List.set_cons_succ, List.set_cons_zero])
      · refine mixQ_reads (s1 := #[true, true, true, true, true, true, true, true, true, false, false, false]) (g := 3) (by kernel_rfl) [6, 7, 8] _ _ (by decide) (by kernel_rfl) ?_
        (repeat (refine qs_plain rfl rfl ?_; first | (refine b_val ?_; apply Exists.intro; refine ⟨fun W => ?_, ?_⟩; (go_simp; rfl); (simp only [Act.put, List.setIfInBounds_toArray, List.set_cons_succ, List.set_cons_zero])))); (with_reducible refine qs_nil ?_)
        (refine mix_one (i := 9) (by kernel_rfl) rfl (by kernel_rfl) rfl ?_)
        (refine step_zero _ rfl (zeroTab _ _ _ rfl) ?_; intro b11 hb11; (simp only [Act.put, List.setIfInBounds_toArray, List.set_cons_succ, List.set_cons_zero]))
        (refine mix_one (i := 10) (by kernel_rfl) rfl (by kernel_rfl) rfl ?_)
        (refine step_lay _ _ _ rfl _ _ rfl _ _ rfl 0 rfl (by assumption) (rowTab _ _ rfl) (by omega) ?_ ?_; (first | (intro _ _; rfl) | (intro k _; exact h1 _)); simp only [List.set]; (simp only [Act.put, List.setIfInBounds_toArray, List.set_cons_succ, List.set_cons_zero]))
        (refine mix_one (i := 11) (by kernel_rfl) rfl (by kernel_rfl) rfl ?_)
        (refine step_val ?_; apply Exists.intro; refine ⟨fun W => ?_, ?_⟩; (go_simp; rfl); (simp only [Act.put, List.setIfInBounds_toArray, List.set_cons_succ, List.set_cons_zero]))
        (refine mix_end (by kernel_rfl) ?_; intro W' hM; simp only [List.cons_append, List.nil_append] at hM)
        have hM2 := hM.three 0 4 5 rfl rfl rfl (by omega) (by omega) (by omega)
        have hM3 := hM2.re 0 rfl (pas D) (lay_pasy _ _)
        simp only [List.set_cons_zero] at hM3
        clear hM hM2
        have hM := hM3
        clear hM3
        go_wp2
        ((try simp only [Act.put, List.setIfInBounds_toArray, List.set_cons_succ, List.set_cons_zero]); refine region_head_mem (m := 3) (by kernel_rfl) (by kernel_rfl) hM ?_; clear hM; simp only [List.take_succ_cons, List.take_zero, List.drop_succ_cons, List.drop_zero]; (repeat (first | go_big_quiet_skip | (go_big_quiet_want; first | (refine quiet_get _ _ rfl _ _ rfl 0 rfl (rowTab _ _ rfl) (by omega) ?_; (simp only [Act.put, List.setIfInBounds_toArray, List.set_cons_succ, List.set_cons_zero]); go_big_quiet_on) | (refine quiet_call ?_; apply Exists.intro; apply Exists.intro; apply Exists.intro; refine ⟨fun W => ?_, fun W hM => ?_, ?_⟩; (go_simp; exact ⟨rfl, rfl⟩); (with_reducible exact sumOf_nil W); (simp only [Act.put, List.setIfInBounds_toArray, List.set_cons_succ, List.set_cons_zero]); go_big_quiet_on) | (refine quiet_val ?_; apply Exists.intro; refine ⟨fun W => ?_, ?_⟩; (go_simp; rfl); (simp only [Act.put, List.setIfInBounds_toArray, List.set_cons_succ, List.set_cons_zero]); go_big_quiet_on)))); (with_reducible refine wpQuiet_nil ?_); intro W' hM)
        go_wp2_with (first | (refine wpList_lay rfl _ _ _ rfl _ _ rfl _ _ rfl hM 1 rfl (by assumption) (rowTab _ _ rfl) (by omega) ?_ ?_; (first | (intro _ _; rfl) | (intro k _; exact h1 _) | (intro k _; simp only [lay, upd]; (repeat' split) <;> first | exact h1 _ | rfl)); intro W' hM'; clear hM; have hM := hM'; clear hM'; simp only [List.set] at hM))
        refine bodyPost_ret (results_at3 rfl _ rfl ((hM.ats 1 _ _ _ rfl).congr (by first | exact lay_pasz _ _ | exact lay_pasy _ _)) (rowTab _ _ rfl)) rfl ?_
        exact ⟨ret_pas3 (Hr.out.trans (by rw [hz.out hn0])), hM.below⟩
      · refine mixQ_reads (s1 := #[true, true, true, true, true, true, true, true, true, false, false, false]) (g := 3) (by kernel_rfl) [6, 7, 8] _ _ (by decide) (by kernel_rfl) ?_
        (repeat (refine qs_plain rfl rfl ?_; first | (refine b_val ?_; apply Exists.intro; refine ⟨fun W => ?_, ?_⟩; (go_simp; rfl); (simp only [Act.put, List.setIfInBounds_toArray, List.set_cons_succ, List.set_cons_zero])))); (with_reducible refine qs_nil ?_)
        (refine mix_one (i := 9) (by kernel_rfl) rfl (by kernel_rfl) rfl ?_)
        (refine step_zero _ rfl (zeroTab _ _ _ rfl) ?_; intro b11 hb11; (simp only [Act.put, List.setIfInBounds_toArray, List.set_cons_succ, List.set_cons_zero]))
        (refine mix_one (i := 10) (by kernel_rfl) rfl (by kernel_rfl) rfl ?_)
        (refine step_lay _ _ _ rfl _ _ rfl _ _ rfl 0 rfl (by assumption) (rowTab _ _ rfl) (by omega) ?_ ?_; (first | (intro _ _; rfl) | (intro k _; exact h1 _)); simp only [List.set]; (simp only [Act.put, List.setIfInBounds_toArray, List.set_cons_succ, List.set_cons_zero]))
        (refine mix_one (i := 11) (by kernel_rfl) rfl (by kernel_rfl) rfl ?_)
        (refine step_val ?_; apply Exists.intro; refine ⟨fun W => ?_, ?_⟩; (go_simp; rfl); (simp only [Act.put, List.setIfInBounds_toArray, List.set_cons_succ, List.set_cons_zero]))
        (refine mix_end (by kernel_rfl) ?_; intro W' hM; simp only [List.cons_append, List.nil_append] at hM)
        have hM2 := hM.three 0 5 1 rfl rfl rfl (by omega) (by omega) (by omega)
        have hM3 := hM2.re 0 rfl (pas D) (lay_pasy _ _)
        simp only [List.set_cons_zero] at hM3
        clear hM hM2
        have hM := hM3
        clear hM3
        go_wp2
        ((try simp only [Act.put, List.setIfInBounds_toArray, List.set_cons_succ, List.set_cons_zero]); refine region_head_mem (m := 3) (by kernel_rfl) (by kernel_rfl) hM ?_; clear hM; simp only [List.take_succ_cons, List.take_zero, List.drop_succ_cons, List.drop_zero]; (repeat (first | go_big_quiet_skip | (go_big_quiet_want; first | (refine quiet_get _ _ rfl _ _ rfl 0 rfl (rowTab _ _ rfl) (by omega) ?_; (simp only [Act.put, List.setIfInBounds_toArray, List.set_cons_succ, List.set_cons_zero]); go_big_quiet_on) | (refine quiet_call ?_; apply Exists.intro; apply Exists.intro; apply Exists.intro; refine ⟨fun W => ?_, fun W hM => ?_, ?_⟩; (go_simp; exact ⟨rfl, rfl⟩); (with_reducible exact HS.out bL cL FL W hcL hFL (hM.ats 2 _ _ _ rfl)); (simp only [Act.put, List.setIfInBounds_toArray, List.set_cons_succ, List.set_cons_zero]); go_big_quiet_on) | (refine quiet_val ?_; apply Exists.intro; refine ⟨fun W => ?_, ?_⟩; (go_simp; rfl); (simp only [Act.put, List.setIfInBounds_toArray, List.set_cons_succ, List.set_cons_zero]); go_big_quiet_on)))); (with_reducible refine wpQuiet_nil ?_); intro W' hM)
        go_wp2_with (first | (refine wpList_lay rfl _ _ _ rfl _ _ rfl _ _ rfl hM 1 rfl (by assumption) (rowTab _ _ rfl) (by omega) ?_ ?_; (first | (intro _ _; rfl) | (intro k _; exact h1 _) | (intro k _; simp only [lay, upd]; (repeat' split) <;> first | exact h1 _ | rfl)); intro W' hM'; clear hM; have hM := hM'; clear hM'; simp only [List.set] at hM))
        refine bodyPost_ret (results_at3 rfl _ rfl ((hM.ats 1 _ _ _ rfl).congr (by first | exact lay_pasz _ _ | exact lay_pasy _ _)) (rowTab _ _ rfl)) rfl ?_
        exact ⟨ret_pas3 Hr.out, hM.below⟩
    · (refine step_zero _ rfl (zeroTab _ _ _ rfl) ?_; intro b11 hb11; (simp only [Act.put, List.setIfInBounds_toArray, List.set_cons_succ, List.set_cons_zero]))
      (refine mix_one (i := 5) (by kernel_rfl) rfl (by kernel_rfl) rfl ?_)
      refine step_call_more (β := Value × Blocks) (fun z => .tuple #[.agg (arr 122 (pas D)), z.1]) (fun z => z.2) (GoodL n (yV h p W H)) ?_
      apply Exists.intro; apply Exists.intro; refine ⟨fun W => ?_, fun W hM => ?_, ?_⟩
      · go_simp; exact ⟨rfl, rfl⟩
      · exact HL.out y hy _ _ _ hM (hM.three 1 2 3 rfl rfl rfl (by omega) (by omega) (by omega))
      rintro ⟨v, Bs⟩ hz2
      rcases hz2 with ⟨hn0, hv, hB⟩ | ⟨bL, cL, FL, hcL, hFL, hv, hB⟩ <;> dsimp only at hv hB <;> subst hv hB <;> (try simp only [Act.put, List.setIfInBounds_toArray, List.set_cons_succ, List.set_cons_zero])
      · refine mixQ_reads (s1 := #[true, true, true, true, true, true, true, true, true, true, false, false]) (g := 2) (by kernel_rfl) [6, 7, 8] _ _ (by decide) (by kernel_rfl) ?_
        (repeat (refine qs_plain rfl rfl ?_; first | (refine b_val ?_; apply Exists.intro; refine ⟨fun W => ?_, ?_⟩; (go_simp; rfl); (simp only [Act.put, List.setIfInBounds_toArray, List.set_cons_succ, List.set_cons_zero])))); (with_reducible refine qs_nil ?_)
        (refine mix_one (i := 10) (by kernel_rfl) rfl (by kernel_rfl) rfl ?_)
        (refine step_lay _ _ _ rfl _ _ rfl _ _ rfl 0 rfl (by assumption) (rowTab _ _ rfl) (by omega) ?_ ?_; (first | (intro _ _; rfl) | (intro k _; exact h1 _)); simp only [List.set]; (simp only [Act.put, List.setIfInBounds_toArray, List.set_cons_succ, List.set_cons_zero]))
        (refine mix_one (i := 11) (by kernel_rfl) rfl (by kernel_rfl) rfl ?_)
        (refine step_val ?_; apply Exists.intro; refine ⟨fun W => ?_, ?_⟩; (go_simp; rfl); (simp only [Act.put, List.setIfInBounds_toArray, List.set_cons_succ, List.set_cons_zero]))
        (refine mix_end (by kernel_rfl) ?_; intro W' hM; simp only [List.cons_append, List.nil_append] at hM)
        have hM2 := hM.three 0 4 5 rfl rfl rfl (by omega) (by omega) (by omega)
        have hM3 := hM2.re 0 rfl (pas D) (lay_pasy _ _)
        simp only [List.set_cons_zero] at hM3
        clear hM hM2
        have hM := hM3
        clear hM3
        go_wp2
        ((try simp only [Act.put, List.setIfInBounds_toArray, List.set_cons_succ, List.set_cons_zero]); refine region_head_mem (m := 3) (by kernel_rfl) (by kernel_rfl) hM ?_; clear hM; simp only [List.take_succ_cons, List.take_zero, List.drop_succ_cons, List.drop_zero]; (repeat (first | go_big_quiet_skip | (go_big_quiet_want; first | (refine quiet_get _ _ rfl _ _ rfl 0 rfl (rowTab _ _ rfl) (by omega) ?_; (simp only [Act.put, List.setIfInBounds_toArray, List.set_cons_succ, List.set_cons_zero]); go_big_quiet_on) | (refine quiet_call ?_; apply Exists.intro; apply Exists.intro; apply Exists.intro; refine ⟨fun W => ?_, fun W hM => ?_, ?_⟩; (go_simp; exact ⟨rfl, rfl⟩); (with_reducible exact sumOf_nil W); (simp only [Act.put, List.setIfInBounds_toArray, List.set_cons_succ, List.set_cons_zero]); go_big_quiet_on) | (refine quiet_val ?_; apply Exists.intro; refine ⟨fun W => ?_, ?_⟩; (go_simp; rfl); (simp only [Act.put, List.setIfInBounds_toArray, List.set_cons_succ, List.set_cons_zero]); go_big_quiet_on)))); (with_reducible refine wpQuiet_nil ?_); intro W' hM)
        go_wp2_with (first | (refine wpList_lay rfl _ _ _ rfl _ _ rfl _ _ rfl hM 1 rfl (by assumption) (rowTab _ _ rfl) (by omega) ?_ ?_; (first | (intro _ _; rfl) | (intro k _; exact h1 _) | (intro k _; simp only [lay, upd]; (repeat' split) <;> first | exact h1 _ | rfl)); intro W' hM'; clear hM; have hM := hM'; clear hM'; simp only [List.set] at hM))
        refine bodyPost_ret (results_at3 rfl _ rfl ((hM.ats 1 _ _ _ rfl).congr (by first | exact lay_pasz _ _ | exact lay_pasy _ _)) (rowTab _ _ rfl)) rfl ?_
        exact ⟨ret_pas3 (Hr.out.trans (by rw [hz.out hn0])), hM.below⟩
      · refine mixQ_reads (s1 := #[true, true, true, true, true, true, true, true, true, true, false, false]) (g := 2) (by kernel_rfl) [6, 7, 8] _ _ (by decide) (by kernel_rfl) ?_
        (repeat (refine qs_plain rfl rfl ?_; first | (refine b_val ?_; apply Exists.intro; refine ⟨fun W => ?_, ?_⟩; (go_simp; rfl); (simp only [Act.put, List.setIfInBounds_toArray, List.set_cons_succ, List.set_cons_zero])))); (with_reducible refine qs_nil ?_)
        (refine mix_one (i := 10) (by kernel_rfl) rfl (by kernel_rfl) rfl ?_)
        (refine step_lay _ _ _ rfl _ _ rfl _ _ rfl 1 rfl (by assumption) (rowTab _ _ rfl) (by omega) ?_ ?_; (first | (intro _ _; rfl) | (intro k _; exact h1 _)); simp only [List.set]; (simp only [Act.put, List.setIfInBounds_toArray, List.set_cons_succ, List.set_cons_zero]))
        (refine mix_one (i := 11) (by kernel_rfl) rfl (by kernel_rfl) rfl ?_)
        (refine step_val ?_; apply Exists.intro; refine ⟨fun W => ?_, ?_⟩; (go_simp; rfl); (simp only [Act.put, List.setIfInBounds_toArray, List.set_cons_succ, List.set_cons_zero]))
        (refine mix_end (by kernel_rfl) ?_; intro W' hM; simp only [List.cons_append, List.nil_append] at hM)
        have hM2 := hM.three 1 5 0 rfl rfl rfl (by omega) (by omega) (by omega)
        have hM3 := hM2.re 0 rfl (pas D) (lay_pasy _ _)
        simp only [List.set_cons_zero] at hM3
        clear hM hM2
        have hM := hM3
        clear hM3
        go_wp2
        ((try simp only [Act.put, List.setIfInBounds_toArray, List.set_cons_succ, List.set_cons_zero]); refine region_head_mem (m := 3) (by kernel_rfl) (by kernel_rfl) hM ?_; clear hM; simp only [List.take_succ_cons, List.take_zero, List.drop_succ_cons, List.drop_zero]; (repeat (first | go_big_quiet_skip | (go_big_quiet_want; first | (refine quiet_get _ _ rfl _ _ rfl 0 rfl (rowTab _ _ rfl) (by omega) ?_; (simp only [Act.put, List.setIfInBounds_toArray, List.set_cons_succ, List.set_cons_zero]); go_big_quiet_on) | (refine quiet_call ?_; apply Exists.intro; apply Exists.intro; apply Exists.intro; refine ⟨fun W => ?_, fun W hM => ?_, ?_⟩; (go_simp; exact ⟨rfl, rfl⟩); (with_reducible exact HS.out bL cL FL W hcL hFL (hM.ats 2 _ _ _ rfl)); (simp only [Act.put, List.setIfInBounds_toArray, List.set_cons_succ, List.set_cons_zero]); go_big_quiet_on) | (refine quiet_val ?_; apply Exists.intro; refine ⟨fun W => ?_, ?_⟩; (go_simp; rfl); (simp only [Act.put, List.setIfInBounds_toArray, List.set_cons_succ, List.set_cons_zero]); go_big_quiet_on)))); (with_reducible refine wpQuiet_nil ?_); intro W' hM)
        go_wp2_with (first | (refine wpList_lay rfl _ _ _ rfl _ _ rfl _ _ rfl hM 1 rfl (by assumption) (rowTab _ _ rfl) (by omega) ?_ ?_; (first | (intro _ _; rfl) | (intro k _; exact h1 _) | (intro k _; simp only [lay, upd]; (repeat' split) <;> first | exact h1 _ | rfl)); intro W' hM'; clear hM; have hM := hM'; clear hM'; simp only [List.set] at hM))
        refine bodyPost_ret (results_at3 rfl _ rfl ((hM.ats 1 _ _ _ rfl).congr (by first | exact lay_pasz _ _ | exact lay_pasy _ _)) (rowTab _ _ rfl)) rfl ?_
        exact ⟨ret_pas3 Hr.out, hM.below⟩
  · (refine step_zero _ rfl (zeroTab _ _ _ rfl) ?_; intro b11 hb11; (simp only [Act.put, List.setIfInBounds_toArray, List.set_cons_succ, List.set_cons_zero]))
    (refine mix_one (i := 4) (by kernel_rfl) rfl (by kernel_rfl) rfl ?_)
    refine step_call_more (β := DayB) (fun y => dayV y.bv y.bg) (fun y => dayK h (W * H) y.bv y.bg y.bl y.cc y.F) (fun y => W * H ≤ y.cc ∧ ∀ j, j < W * H * 2 → y.F j = sps (sC W) j) ?_
    apply Exists.intro; apply Exists.intro; refine ⟨fun W => ?_, fun W hM => ?_, ?_⟩
    · go_simp; exact ⟨rfl, rfl⟩
    · exact HG.out _ _ _ hM
    intro y hy
    (try simp only [Act.put, List.setIfInBounds_toArray, List.set_cons_succ, List.set_cons_zero])
    (refine mix_one (i := 5) (by kernel_rfl) rfl (by kernel_rfl) rfl ?_)
    refine step_call_more (β := Value × Blocks) (fun z => .tuple #[.agg (arr 122 (pas D)), z.1]) (fun z => z.2) (GoodL n (yV h p W H)) ?_
    apply Exists.intro; apply Exists.intro; refine ⟨fun W => ?_, fun W hM => ?_, ?_⟩
    · go_simp; exact ⟨rfl, rfl⟩
    · exact HL.out y hy _ _ _ hM (hM.three 0 1 2 rfl rfl rfl (by omega) (by omega) (by omega))
    rintro ⟨v, Bs⟩ hz2
    rcases hz2 with ⟨hn0, hv, hB⟩ | ⟨bL, cL, FL, hcL, hFL, hv, hB⟩ <;> dsimp only at hv hB <;> subst hv hB <;> (try simp only [Act.put, List.setIfInBounds_toArray, List.set_cons_succ, List.set_cons_zero])
    · refine mixQ_reads (s1 := #[true, true, true, true, true, true, true, true, true, true, false, false]) (g := 2) (by kernel_rfl) [6, 7, 8] _ _ (by decide) (by kernel_rfl) ?_
      (repeat (refine qs_plain rfl rfl ?_; first | (refine b_val ?_; apply Exists.intro; refine ⟨fun W => ?_, ?_⟩; (go_simp; rfl); (simp only [Act.put, List.setIfInBounds_toArray, List.set_cons_succ, List.set_cons_zero])))); (with_reducible refine qs_nil ?_)
      (refine mix_one (i := 10) (by kernel_rfl) rfl (by kernel_rfl) rfl ?_)
      (refine step_lay _ _ _ rfl _ _ rfl _ _ rfl 3 rfl (by assumption) (rowTab _ _ rfl) (by omega) ?_ ?_; (first | (intro _ _; rfl) | (intro k _; exact h1 _)); simp only [List.set]; (simp only [Act.put, List.setIfInBounds_toArray, List.set_cons_succ, List.set_cons_zero]))
      (refine mix_one (i := 11) (by kernel_rfl) rfl (by kernel_rfl) rfl ?_)
      (refine step_val ?_; apply Exists.intro; refine ⟨fun W => ?_, ?_⟩; (go_simp; rfl); (simp only [Act.put, List.setIfInBounds_toArray, List.set_cons_succ, List.set_cons_zero]))
      (refine mix_end (by kernel_rfl) ?_; intro W' hM; simp only [List.cons_append, List.nil_append] at hM)
      have hM2 := hM.three 3 4 5 rfl rfl rfl (by omega) (by omega) (by omega)
      have hM3 := hM2.re 0 rfl (pas D) (lay_pasy _ _)
      simp only [List.set_cons_zero] at hM3
      clear hM hM2
      have hM := hM3
      clear hM3
      go_wp2
      ((try simp only [Act.put, List.setIfInBounds_toArray, List.set_cons_succ, List.set_cons_zero]); refine region_head_mem (m := 3) (by kernel_rfl) (by kernel_rfl) hM ?_; clear hM; simp only [List.take_succ_cons, List.take_zero, List.drop_succ_cons, List.drop_zero]; (repeat (first | go_big_quiet_skip | (go_big_quiet_want; first | (refine quiet_get _ _ rfl _ _ rfl 0 rfl (rowTab _ _ rfl) (by omega) ?_; (simp only [Act.put, List.setIfInBounds_toArray, List.set_cons_succ, List.set_cons_zero]); go_big_quiet_on) | (refine quiet_call ?_; apply Exists.intro; apply Exists.intro; apply Exists.intro; refine ⟨fun W => ?_, fun W hM => ?_, ?_⟩; (go_simp; exact ⟨rfl, rfl⟩); (with_reducible exact sumOf_nil W); (simp only [Act.put, List.setIfInBounds_toArray, List.set_cons_succ, List.set_cons_zero]); go_big_quiet_on) | (refine quiet_val ?_; apply Exists.intro; refine ⟨fun W => ?_, ?_⟩; (go_simp; rfl); (simp only [Act.put, List.setIfInBounds_toArray, List.set_cons_succ, List.set_cons_zero]); go_big_quiet_on)))); (with_reducible refine wpQuiet_nil ?_); intro W' hM)
      go_wp2_with (first | (refine wpList_lay rfl _ _ _ rfl _ _ rfl _ _ rfl hM 1 rfl (by assumption) (rowTab _ _ rfl) (by omega) ?_ ?_; (first | (intro _ _; rfl) | (intro k _; exact h1 _) | (intro k _; simp only [lay, upd]; (repeat' split) <;> first | exact h1 _ | rfl)); intro W' hM'; clear hM; have hM := hM'; clear hM'; simp only [List.set] at hM))
      refine bodyPost_ret (results_at3 rfl _ rfl ((hM.ats 1 _ _ _ rfl).congr (by first | exact lay_pasz _ _ | exact lay_pasy _ _)) (rowTab _ _ rfl)) rfl ?_
      exact ⟨ret_pas3 (Hr.out.trans (by rw [hz.out hn0])), hM.below⟩
    · refine mixQ_reads (s1 := #[true, true, true, true, true, true, true, true, true, true, false, false]) (g := 2) (by kernel_rfl) [6, 7, 8] _ _ (by decide) (by kernel_rfl) ?_
      (repeat (refine qs_plain rfl rfl ?_; first | (refine b_val ?_; apply Exists.intro; refine ⟨fun W => ?_, ?_⟩; (go_simp; rfl); (simp only [Act.put, List.setIfInBounds_toArray, List.set_cons_succ, List.set_cons_zero])))); (with_reducible refine qs_nil ?_)
      (refine mix_one (i := 10) (by kernel_rfl) rfl (by kernel_rfl) rfl ?_)
      (refine step_lay _ _ _ rfl _ _ rfl _ _ rfl 4 rfl (by assumption) (rowTab _ _ rfl) (by omega) ?_ ?_; (first | (intro _ _; rfl) | (intro k _; exact h1 _)); simp only [List.set]; (simp only [Act.put, List.setIfInBounds_toArray, List.set_cons_succ, List.set_cons_zero]))
      (refine mix_one (i := 11) (by kernel_rfl) rfl (by kernel_rfl) rfl ?_)
      (refine step_val ?_; apply Exists.intro; refine ⟨fun W => ?_, ?_⟩; (go_simp; rfl); (simp only [Act.put, List.setIfInBounds_toArray, List.set_cons_succ, List.set_cons_zero]))
      (refine mix_end (by kernel_rfl) ?_; intro W' hM; simp only [List.cons_append, List.nil_append] at hM)
      have hM2 := hM.three 4 5 0 rfl rfl rfl (by omega) (by omega) (by omega)
      have hM3 := hM2.re 0 rfl (pas D) (lay_pasy _ _)
      simp only [List.set_cons_zero] at hM3
      clear hM hM2
      have hM := hM3
      clear hM3
      go_wp2
      ((try simp only [Act.put, List.setIfInBounds_toArray, List.set_cons_succ, List.set_cons_zero]); refine region_head_mem (m := 3) (by kernel_rfl) (by kernel_rfl) hM ?_; clear hM; simp only [List.take_succ_cons, List.take_zero, List.drop_succ_cons, List.drop_zero]; (repeat (first | go_big_quiet_skip | (go_big_quiet_want; first | (refine quiet_get _ _ rfl _ _ rfl 0 rfl (rowTab _ _ rfl) (by omega) ?_; (simp only [Act.put, List.setIfInBounds_toArray, List.set_cons_succ, List.set_cons_zero]); go_big_quiet_on) | (refine quiet_call ?_; apply Exists.intro; apply Exists.intro; apply Exists.intro; refine ⟨fun W => ?_, fun W hM => ?_, ?_⟩; (go_simp; exact ⟨rfl, rfl⟩); (with_reducible exact HS.out bL cL FL W hcL hFL (hM.ats 2 _ _ _ rfl)); (simp only [Act.put, List.setIfInBounds_toArray, List.set_cons_succ, List.set_cons_zero]); go_big_quiet_on) | (refine quiet_val ?_; apply Exists.intro; refine ⟨fun W => ?_, ?_⟩; (go_simp; rfl); (simp only [Act.put, List.setIfInBounds_toArray, List.set_cons_succ, List.set_cons_zero]); go_big_quiet_on)))); (with_reducible refine wpQuiet_nil ?_); intro W' hM)
      go_wp2_with (first | (refine wpList_lay rfl _ _ _ rfl _ _ rfl _ _ rfl hM 1 rfl (by assumption) (rowTab _ _ rfl) (by omega) ?_ ?_; (first | (intro _ _; rfl) | (intro k _; exact h1 _) | (intro k _; simp only [lay, upd]; (repeat' split) <;> first | exact h1 _ | rfl)); intro W' hM'; clear hM; have hM := hM'; clear hM'; simp only [List.set] at hM))
      refine bodyPost_ret (results_at3 rfl _ rfl ((hM.ats 1 _ _ _ rfl).congr (by first | exact lay_pasz _ _ | exact lay_pasy _ _)) (rowTab _ _ rfl)) rfl ?_
      exact ⟨ret_pas3 Hr.out, hM.below⟩
end Go.Proofs.YtjfmhnbbdkejeaaDoor

/-
  laws.FnExactGrowDays returns true.
-/
namespace Go.Proofs.YtjfmhnbbdkejeaaDoor
open Go Go.RowKit Go.BigFrame

theorem growD_pas (p h : Nat → Int) (n : Int) : ∃ g r c, growD p h n = pasR3 g r c := by
  unfold growD; split
  · split <;> exact ⟨_, _, _, rfl⟩
  · exact ⟨_, _, _, rfl⟩
theorem eqP_lay2 (z z' : Nat → Value) (g : Nat → Int) (w : World) :
    Calls Tryd.prog 37 #[.agg (arr 122 (fun k => lay z 0 122 (pas g) k)), .agg (arr 122 (fun k => lay z' 0 122 (pas g) k))] w fun e w' => e = .returned (.bool true) ∧ Below w.heap.size w w' := by
  rw [arr_congr (f := fun k => lay z 0 122 (pas g) k) (g := pas g) (fun k hk => lay_pas _ _ k hk), arr_congr (f := fun k => lay z' 0 122 (pas g) k) (g := pas g) (fun k hk => lay_pas _ _ k hk)]
  exact eqPasture_same g w

set_option maxRecDepth 100000 in
set_option maxHeartbeats 2000000 in
theorem lawGrowDays_any {a : Nat → Addr} (p : Nat → Int) (hp : Fits p) (h : Nat → Int) (hF : FitsW h) (n : Int) (w : World) (hE : Errs a w) :
    Calls Tryd.prog 11 #[.agg (arr 122 (pas p)), .agg (arr 12 (gro h)), .int .i64 n] w fun e w' => e = .returned (.bool true) ∧ Below w.heap.size w w' := by
  have hM := Mem.nil w
  have HE := Lib.hid hE
  have hS := fun W => specGrowDays_any p hp h hF n W
  have hI := fun W hE => implGrowDays_any (a := a) p hp h hF n W hE
  obtain ⟨g, r, c, hq⟩ := growD_pas p h n
  rw [hq] at hS hI
  have HS := Lib.hid hS
  have HI := Lib.hid hI
  clear hE hS hI hq
  have tk_b1 : True := trivial; have tk_b2 : True := trivial
  go_enter Tryd.func11, Tryd.ntmps11
  go_wp2_with (first | (have _t := tk_b1; refine wpList_box rfl _ _ rfl _ _ rfl hM ?_; intro b1 W' hb1 hM'; clear hM tk_b1; have hM := hM'; clear hM') | (have _t := tk_b2; refine wpList_box rfl _ _ rfl _ _ rfl hM ?_; intro b2 W' hb2 hM'; clear hM tk_b2; have hM := hM'; clear hM'))
  ((try simp only [Act.put, List.setIfInBounds_toArray, List.set_cons_succ, List.set_cons_zero]); refine region_reads [0, 1, 2, 3, 4, 5, 6, 7, 8, 9] #[true, true, true, true, true, true, true, true, true, true, false, false, false, false] 4 (by kernel_rfl) (by kernel_rfl) (by kernel_rfl) hM ?_; clear hM; (repeat (refine qs_plain rfl rfl ?_; first | (refine b_get _ _ rfl _ _ rfl 1 rfl (rowTab _ _ rfl) (by omega) ?_; (simp only [Act.put, List.setIfInBounds_toArray, List.set_cons_succ, List.set_cons_zero])) | (refine b_get _ _ rfl _ _ rfl 0 rfl (rowTab _ _ rfl) (by omega) ?_; (simp only [Act.put, List.setIfInBounds_toArray, List.set_cons_succ, List.set_cons_zero])) | (refine b_call ?_; apply Exists.intro; apply Exists.intro; apply Exists.intro; refine ⟨fun W => ?_, fun W hM => ?_, ?_⟩; (go_simp; exact ⟨rfl, rfl⟩); (with_reducible exact toPasture_pas p W); (simp only [Act.put, List.setIfInBounds_toArray, List.set_cons_succ, List.set_cons_zero])) | (refine b_call ?_; apply Exists.intro; apply Exists.intro; apply Exists.intro; refine ⟨fun W => ?_, fun W hM => ?_, ?_⟩; (go_simp; exact ⟨rfl, rfl⟩); (with_reducible exact toGrowth_gro h W); (simp only [Act.put, List.setIfInBounds_toArray, List.set_cons_succ, List.set_cons_zero])) | (refine b_call ?_; apply Exists.intro; apply Exists.intro; apply Exists.intro; refine ⟨fun W => ?_, fun W hM => ?_, ?_⟩; (go_simp; exact ⟨rfl, rfl⟩); (with_reducible exact HS.out W); (simp only [pasR3_eq]); (simp only [Act.put, List.setIfInBounds_toArray, List.set_cons_succ, List.set_cons_zero])) | (refine b_val ?_; apply Exists.intro; refine ⟨fun W => ?_, ?_⟩; (go_simp; rfl); (simp only [Act.put, List.setIfInBounds_toArray, List.set_cons_succ, List.set_cons_zero])))); (with_reducible refine qs_nil ?_))
  (refine mix_one (i := 10) (by kernel_rfl) rfl (by kernel_rfl) rfl ?_)
  (refine step_zero _ rfl (zeroTab _ _ _ rfl) ?_; intro b3 hb3; (simp only [Act.put, List.setIfInBounds_toArray, List.set_cons_succ, List.set_cons_zero]))
  (refine mix_one (i := 11) (by kernel_rfl) rfl (by kernel_rfl) rfl ?_)
  (refine step_lay _ _ _ rfl _ _ rfl _ _ rfl 0 rfl (by assumption) (rowTab _ _ rfl) (by omega) ?_ ?_; (first | (intro _ _; rfl) | (intro k _; exact h1 _)); simp only [List.set]; (simp only [Act.put, List.setIfInBounds_toArray, List.set_cons_succ, List.set_cons_zero]))
  (refine mix_one (i := 12) (by kernel_rfl) rfl (by kernel_rfl) rfl ?_)
  (refine step_val ?_; apply Exists.intro; refine ⟨fun W => ?_, ?_⟩; (go_simp; rfl); (simp only [Act.put, List.setIfInBounds_toArray, List.set_cons_succ, List.set_cons_zero]))
  (refine mix_one (i := 13) (by kernel_rfl) rfl (by kernel_rfl) rfl ?_)
  (refine step_val ?_; apply Exists.intro; refine ⟨fun W => ?_, ?_⟩; (go_simp; rfl); (simp only [Act.put, List.setIfInBounds_toArray, List.set_cons_succ, List.set_cons_zero]))
  (refine mix_end (by kernel_rfl) ?_; intro W' hM; simp only [List.cons_append, List.nil_append] at hM)
  go_wp2
  ((try simp only [Act.put, List.setIfInBounds_toArray, List.set_cons_succ, List.set_cons_zero]); refine region_reads [0, 1, 2, 3, 4, 5, 6, 7, 8, 9] #[true, true, true, true, true, true, true, true, true, true, false, false, false, false] 4 (by kernel_rfl) (by kernel_rfl) (by kernel_rfl) hM ?_; clear hM; (repeat (refine qs_plain rfl rfl ?_; first | (refine b_get _ _ rfl _ _ rfl 2 rfl (rowTab _ _ rfl) (by omega) ?_; (simp only [Act.put, List.setIfInBounds_toArray, List.set_cons_succ, List.set_cons_zero])) | (refine b_get _ _ rfl _ _ rfl 1 rfl (rowTab _ _ rfl) (by omega) ?_; (simp only [Act.put, List.setIfInBounds_toArray, List.set_cons_succ, List.set_cons_zero])) | (refine b_call ?_; apply Exists.intro; apply Exists.intro; apply Exists.intro; refine ⟨fun W => ?_, fun W hM => ?_, ?_⟩; (go_simp; exact ⟨rfl, rfl⟩); (with_reducible exact toPasture_pas p W); (simp only [Act.put, List.setIfInBounds_toArray, List.set_cons_succ, List.set_cons_zero])) | (refine b_call ?_; apply Exists.intro; apply Exists.intro; apply Exists.intro; refine ⟨fun W => ?_, fun W hM => ?_, ?_⟩; (go_simp; exact ⟨rfl, rfl⟩); (with_reducible exact toGrowth_gro h W); (simp only [Act.put, List.setIfInBounds_toArray, List.set_cons_succ, List.set_cons_zero])) | (refine b_call ?_; apply Exists.intro; apply Exists.intro; apply Exists.intro; refine ⟨fun W => ?_, fun W hM => ?_, ?_⟩; (go_simp; exact ⟨rfl, rfl⟩); (with_reducible exact HI.out W (HE.out.below hM.below)); (simp only [pasR3_eq]); (simp only [Act.put, List.setIfInBounds_toArray, List.set_cons_succ, List.set_cons_zero])) | (refine b_val ?_; apply Exists.intro; refine ⟨fun W => ?_, ?_⟩; (go_simp; rfl); (simp only [Act.put, List.setIfInBounds_toArray, List.set_cons_succ, List.set_cons_zero])))); (with_reducible refine qs_nil ?_))
  (refine mix_one (i := 10) (by kernel_rfl) rfl (by kernel_rfl) rfl ?_)
  (refine step_zero _ rfl (zeroTab _ _ _ rfl) ?_; intro b4 hb4; (simp only [Act.put, List.setIfInBounds_toArray, List.set_cons_succ, List.set_cons_zero]))
  (refine mix_one (i := 11) (by kernel_rfl) rfl (by kernel_rfl) rfl ?_)
  (refine step_lay _ _ _ rfl _ _ rfl _ _ rfl 0 rfl (by assumption) (rowTab _ _ rfl) (by omega) ?_ ?_; (first | (intro _ _; rfl) | (intro k _; exact h1 _)); simp only [List.set]; (simp only [Act.put, List.setIfInBounds_toArray, List.set_cons_succ, List.set_cons_zero]))
  (refine mix_one (i := 12) (by kernel_rfl) rfl (by kernel_rfl) rfl ?_)
  (refine step_val ?_; apply Exists.intro; refine ⟨fun W => ?_, ?_⟩; (go_simp; rfl); (simp only [Act.put, List.setIfInBounds_toArray, List.set_cons_succ, List.set_cons_zero]))
  (refine mix_one (i := 13) (by kernel_rfl) rfl (by kernel_rfl) rfl ?_)
  (refine step_val ?_; apply Exists.intro; refine ⟨fun W => ?_, ?_⟩; (go_simp; rfl); (simp only [Act.put, List.setIfInBounds_toArray, List.set_cons_succ, List.set_cons_zero]))
  (refine mix_end (by kernel_rfl) ?_; intro W' hM; simp only [List.cons_append, List.nil_append] at hM)
  have tk_r1 : True := trivial; have tk_r2 : True := trivial
  go_wp2_with (first | (have _t := tk_r1; (refine wpList_get rfl _ _ rfl _ _ rfl hM 0 rfl (rowTab _ _ rfl) (by omega) ?_); clear tk_r1) | (have _t := tk_r2; (refine wpList_get rfl _ _ rfl _ _ rfl hM 1 rfl (rowTab _ _ rfl) (by omega) ?_); clear tk_r2) | (go_at_call 37; refine (eqP_lay2 _ _ g _).mono ?_; rintro e W' ⟨rfl, hb'⟩; have hM' := hM.call hb'; clear hM hb'; have hM := hM'; clear hM'))
  go_ret
  exact ⟨rfl, hM.below⟩
end Go.Proofs.YtjfmhnbbdkejeaaDoor

